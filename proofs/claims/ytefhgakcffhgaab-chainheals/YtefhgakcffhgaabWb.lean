/- The law's world in memory: its block, its rows, its five nodes, its net; what stays when one of them is turned. -/
import Derived.Test.YtefhgakcffhgaabWa2
namespace Go.Proofs.Ytefhgakcffhgaab
open Go.RowKit Go.Lib Go.Maps

structure Vals where
  nodesv : Value
  dv : Value
  ev : Value
  cv : Value
  sv : Value
  wv : Value
  mr : Option Nat
  b : Nat → Nat
  nv : Nat → Value
  lv : Nat → Value
def Vals.ext (V : Vals) (ep : Int) : Ext := ⟨V.nodesv, V.dv, V.ev, .int .i64 ep, V.cv, V.sv⟩
def Vals.at (V : Vals) (i k : Nat) : Prop := nodeMay (V.b i) (V.nv i) (V.lv i) k
def worldMay (g : Nat) (V : Vals) (k : Nat) : Prop :=
  netMay g V.wv V.mr k ∨ (∃ i, i < 5 ∧ V.at i k) ∨ V.nodesv.ownBlock = some k ∨ V.dv.ownBlock = some k ∨ V.ev.ownBlock = some k ∨ V.cv.ownBlock = some k ∨ V.sv.ownBlock = some k
def ptrs (V : Vals) : List Value := (List.range 5).map fun i => .pointer (some ⟨V.b i, 0, none⟩)
def bools (f : Nat → Bool) : List Value := (List.range 5).map fun i => .bool (f i)
structure WorldP (w : World) (L g : Nat) (V : Vals) (W : WS) : Prop where
  net : NetP (V.ext W.epoch) w L g V.wv V.mr W.net
  nrow : w.ownsRow L 44 1 V.nodesv 5 (ptrs V)
  node : ∀ i, i < 5 → NodeP w L (V.b i) (V.nv i) (V.lv i) (W.node i)
  apart : ∀ i j, i < 5 → j < 5 → i ≠ j → ∀ k, V.at i k → ¬ V.at j k
  drow : w.ownsRow L 4 1 V.dv 5 (bools W.down)
  erow : w.ownsRow L 4 1 V.ev 5 (bools W.ever)
  de : ∀ k, V.dv.ownBlock = some k → V.ev.ownBlock ≠ some k
  crow : w.ownsRow L 3 1 V.cv W.conf.length (W.conf.map (Value.int .i64))
  cn : ∀ i, i < 5 → ∀ k, V.cv.ownBlock = some k → (V.nv i).ownBlock ≠ some k
  srow : RowC w L V.sv W.stable
  sn : ∀ i, i < 5 → ∀ k, V.sv.ownBlock = some k → (V.lv i).ownBlock ≠ some k

/-- Of which type a block's cells are; none: it is a map. -/
def kindOf (w : World) (k : Nat) : Option TypeId := match w.heap[k]? with
  | some (.cells _ t _) => some t
  | _ => none
theorem kind_row {w : World} {B : Nat} {v : Value} {e : TypeId} {sz n : Nat} {xs : List Value} (ho : w.ownsRow B e sz v n xs) {k : Nat} (hk : v.ownBlock = some k) : kindOf w k = some e ∧ B ≤ k ∧ k < w.heap.size := by
  obtain ⟨h1, h2, cur, h3⟩ := own_cells ho hk
  exact ⟨by simp [kindOf, h3], h1, h2⟩
theorem kind_rowC {w : World} {L : Nat} {v : Value} {cs : List CmdD} (h : RowC w L v cs) {k : Nat} (hk : v.ownBlock = some k) : kindOf w k = some 49 ∧ L ≤ k ∧ k < w.heap.size := by
  obtain ⟨us, _, h2, _⟩ := h; exact kind_row h2 hk
theorem kind_blk {w : World} {g : Nat} {cs : List Value} {t : TypeId} (h : Blk w g cs t) : kindOf w g = some t := by
  simp only [Blk] at h; simp [kindOf, h]
theorem NodeP.kind {w : World} {L g : Nat} {nv lv : Value} {s : NodeS} (h : NodeP w L g nv lv s) {k : Nat} (hk : nodeMay g nv lv k) : kindOf w k = some 106 ∨ kindOf w k = some 3 ∨ kindOf w k = some 49 := by
  rcases hk with rfl | hk | hk
  · exact .inl (kind_blk h.blk)
  · exact .inr (.inl (kind_row h.ns hk).1)
  · exact .inr (.inr (kind_rowC h.lg hk).1)
theorem NetP.kind {E : Ext} {w : World} {L g : Nat} {wv : Value} {mr : Option Nat} {s : NetS} (h : NetP E w L g wv mr s) {k : Nat} (hk : netMay g wv mr k) : kindOf w k = some 42 ∨ kindOf w k = some 51 ∨ kindOf w k = none := by
  rcases hk with rfl | hk | hk
  · exact .inl (kind_blk h.blk)
  · obtain ⟨us, _, h2, _⟩ := h.row
    exact .inr (.inl (kind_row h2 hk).1)
  · refine .inr (.inr ?_)
    rcases h.dn with ⟨e, _⟩ | ⟨b, D, e, _, ⟨es, clock, hb, _⟩, _⟩
    · rw [e] at hk; cases hk
    · rw [e] at hk; cases hk
      simp [kindOf, hb]
section
variable {w w' : World} {L g : Nat} {V : Vals} {W : WS}
theorem WorldP.may (h : WorldP w L g V W) {k : Nat} (hk : worldMay g V k) : L ≤ k ∧ k < w.heap.size := by
  rcases hk with hk | ⟨i, hi, hk⟩ | hk | hk | hk | hk | hk
  · exact ⟨(h.net.lt hk).1, (h.net.lt hk).2.1⟩
  · exact ⟨((h.node i hi).lt hk).1, ((h.node i hi).lt hk).2.1⟩
  · exact (kind_row h.nrow hk).2
  · exact (kind_row h.drow hk).2
  · exact (kind_row h.erow hk).2
  · exact (kind_row h.crow hk).2
  · exact (kind_rowC h.srow hk).2
theorem WorldP.quiet (h : WorldP w L g V W) (hm : Mod noBlock w w') : WorldP w' L g V W :=
  ⟨h.net.mod hm (Qm.none _ _) (fun _ _ => id), own_mod h.nrow hm (fun _ _ _ _ => id), fun i hi => (h.node i hi).quiet hm, h.apart, own_mod h.drow hm (fun _ _ _ _ => id), own_mod h.erow hm (fun _ _ _ _ => id), h.de, own_mod h.crow hm (fun _ _ _ _ => id), h.cn, h.srow.mod hm (Qm.none _ _) (fun _ _ => id), h.sn⟩
theorem WorldP.keep {G : Nat → Prop} (h : WorldP w L g V W) (hm : Mod G w w') (hq : Qm w L G) (hG : ∀ k, worldMay g V k → ¬ G k) : WorldP w' L g V W :=
  ⟨h.net.mod hm hq (fun k hk => hG k (.inl hk)), own_mod h.nrow hm (fun k _ _ hk => hG k (.inr (.inr (.inl hk)))), fun i hi => (h.node i hi).mod hm hq (fun k hk => hG k (.inr (.inl ⟨i, hi, hk⟩))), h.apart, own_mod h.drow hm (fun k _ _ hk => hG k (.inr (.inr (.inr (.inl hk))))), own_mod h.erow hm (fun k _ _ hk => hG k (.inr (.inr (.inr (.inr (.inl hk)))))), h.de, own_mod h.crow hm (fun k _ _ hk => hG k (.inr (.inr (.inr (.inr (.inr (.inl hk))))))), h.cn, h.srow.mod hm hq (fun k hk => hG k (.inr (.inr (.inr (.inr (.inr (.inr hk))))))), h.sn⟩
/-- How what a world has may have moved: nowhere, or into new blocks. -/
def Grew (w : World) (g : Nat) (V V' : Vals) : Prop := ∀ k, worldMay g V' k → worldMay g V k ∨ w.heap.size ≤ k
theorem Grew.refl (w : World) (g : Nat) (V : Vals) : Grew w g V V := fun _ h => .inl h
theorem Grew.trans {a b : World} {g : Nat} {V V' V'' : Vals} (h : Grew a g V V') (k : Grew b g V' V'') (hz : a.heap.size ≤ b.heap.size) : Grew a g V V'' := fun x hx => by
  rcases k x hx with e | e
  · exact h x e
  · exact .inr (Nat.le_trans hz e)
theorem Mod.world {a b c : World} {g : Nat} {V V' : Vals} (h : Mod (worldMay g V) a b) (hg : Grew a g V V') (k : Mod (worldMay g V') b c) : Mod (worldMay g V) a c :=
  h.trans' k (fun i hi e => by
    rcases hg i e with e | e
    · exact e
    · omega)
def Vals.turn (V : Vals) (i : Nat) (nv lv : Value) : Vals := ⟨V.nodesv, V.dv, V.ev, V.cv, V.sv, V.wv, V.mr, V.b, setF V.nv i nv, setF V.lv i lv⟩
def Vals.net (V : Vals) (wv : Value) (mr : Option Nat) : Vals := ⟨V.nodesv, V.dv, V.ev, V.cv, V.sv, wv, mr, V.b, V.nv, V.lv⟩
def wput (W : WS) (i : Nat) (s : NodeS) : WS := ⟨setF W.node i s, W.net, W.down, W.ever, W.epoch, W.conf, W.stable⟩
theorem kind_ne {k : Nat} {a b : Option TypeId} (h1 : kindOf w k = a) (h2 : kindOf w k = b) (h : a ≠ b) : False := h (h1.symm.trans h2)
/-- A node was turned. -/
theorem WorldP.turn (h : WorldP w L g V W) {i : Nat} (hi : i < 5) {nv lv : Value} {s : NodeS} (hN : NodeP w' L (V.b i) nv lv s) (hm : Mod (V.at i) w w') (hnv : Moved w (V.nv i) nv) (hlv : Moved w (V.lv i) lv) :
    WorldP w' L g (V.turn i nv lv) (wput W i s) ∧ Mod (worldMay g V) w w' ∧ Grew w g V (V.turn i nv lv) := by
  have hq : Qm w L (V.at i) := (h.node i hi).qm
  have moved : ∀ k, nodeMay (V.b i) nv lv k → V.at i k ∨ w.heap.size ≤ k := fun k hk => by
    rcases hk with e | e | e
    · exact .inl (.inl e)
    · rcases hnv with hnv | hnv
      · exact .inl (.inr (.inl (by rw [← hnv]; exact e)))
      · exact .inr (hnv k e)
    · rcases hlv with hlv | hlv
      · exact .inl (.inr (.inr (by rw [← hlv]; exact e)))
      · exact .inr (hlv k e)
  have atT : ∀ j k, (V.turn i nv lv).at j k ↔ if j = i then nodeMay (V.b i) nv lv k else V.at j k := fun j k => by
    unfold Vals.at Vals.turn
    by_cases e : j = i
    · subst e; simp [setF]
    · simp [setF, e]
  have kn : ∀ k, V.at i k → kindOf w k = some 106 ∨ kindOf w k = some 3 ∨ kindOf w k = some 49 := fun k hk => (h.node i hi).kind hk
  have off : ∀ (k : Nat) (t : Option TypeId), kindOf w k = t → t ≠ some 106 → t ≠ some 3 → t ≠ some 49 → ¬ V.at i k := fun k t h1 a b c hk => by
    rcases kn k hk with e | e | e
    · exact a (h1.symm.trans e)
    · exact b (h1.symm.trans e)
    · exact c (h1.symm.trans e)
  refine ⟨⟨?_, ?_, fun j hj => ?_, fun j j' hj hj' hne k h1 h2 => ?_, ?_, ?_, h.de, ?_, fun j hj k hk => ?_, ?_, fun j hj k hk => ?_⟩, hm.mono (fun k _ e => .inr (.inl ⟨i, hi, e⟩)), fun k hk => ?_⟩
  · refine h.net.mod hm hq (fun k hk => ?_)
    rcases h.net.kind hk with e | e | e
    · exact off k _ e (by decide) (by decide) (by decide)
    · exact off k _ e (by decide) (by decide) (by decide)
    · exact off k _ e (by decide) (by decide) (by decide)
  · exact own_mod h.nrow hm (fun k _ _ hk => off k _ (kind_row h.nrow hk).1 (by decide) (by decide) (by decide))
  · by_cases e : j = i
    · subst e; simp only [Vals.turn, wput, setF_same]; exact hN
    · simp only [Vals.turn, wput, setF_ne _ _ e]
      exact (h.node j hj).mod hm hq (fun k hk => h.apart j i hj hi e k hk)
  · rw [atT] at h1 h2
    by_cases e : j = i
    · subst e
      have e' : ¬ j' = j := fun x => hne x.symm
      rw [if_pos rfl] at h1
      rw [if_neg e'] at h2
      rcases moved k h1 with h1 | h1
      · exact h.apart j j' hi hj' hne k h1 h2
      · have := ((h.node j' hj').lt h2).2.1; omega
    · rw [if_neg e] at h1
      by_cases e' : j' = i
      · subst e'
        rw [if_pos rfl] at h2
        rcases moved k h2 with h2 | h2
        · exact h.apart j j' hj hi hne k h1 h2
        · have := ((h.node j hj).lt h1).2.1; omega
      · rw [if_neg e'] at h2
        exact h.apart j j' hj hj' hne k h1 h2
  · exact own_mod h.drow hm (fun k _ _ hk => off k _ (kind_row h.drow hk).1 (by decide) (by decide) (by decide))
  · exact own_mod h.erow hm (fun k _ _ hk => off k _ (kind_row h.erow hk).1 (by decide) (by decide) (by decide))
  · refine own_mod h.crow hm (fun k _ _ hk e => ?_)
    have hk' := (kind_row h.crow hk).1
    rcases e with e | e | e
    · exact kind_ne (b := some 106) hk' (by rw [e]; exact kind_blk (h.node i hi).blk) (by decide)
    · exact h.cn i hi k hk e
    · exact kind_ne hk' (kind_rowC (h.node i hi).lg e).1 (by decide)
  · have hlt := (kind_row h.crow hk).2.2
    show (setF V.nv i nv j).ownBlock ≠ some k
    unfold setF
    split
    · rename_i e; subst e
      intro e
      rcases hnv with hnv | hnv
      · exact h.cn j hi k hk (by rw [← hnv]; exact e)
      · have := hnv k e; omega
    · exact h.cn j hj k hk
  · refine h.srow.mod hm hq (fun k hk e => ?_)
    have hk' := (kind_rowC h.srow hk).1
    rcases e with e | e | e
    · exact kind_ne (b := some 106) hk' (by rw [e]; exact kind_blk (h.node i hi).blk) (by decide)
    · exact kind_ne hk' (kind_row (h.node i hi).ns e).1 (by decide)
    · exact h.sn i hi k hk e
  · have hlt := (kind_rowC h.srow hk).2.2
    show (setF V.lv i lv j).ownBlock ≠ some k
    unfold setF
    split
    · rename_i e; subst e
      intro e
      rcases hlv with hlv | hlv
      · exact h.sn j hi k hk (by rw [← hlv]; exact e)
      · have := hlv k e; omega
    · exact h.sn j hj k hk
  · rcases hk with hk | ⟨j, hj, hk⟩ | hk
    · exact .inl (.inl hk)
    · rw [atT] at hk
      by_cases e : j = i
      · subst e
        rw [if_pos rfl] at hk
        rcases moved k hk with hk | hk
        · exact .inl (.inr (.inl ⟨j, hi, hk⟩))
        · exact .inr hk
      · rw [if_neg e] at hk
        exact .inl (.inr (.inl ⟨j, hj, hk⟩))
    · exact .inl (.inr (.inr hk))
/-- The net was turned. -/
theorem WorldP.nets (h : WorldP w L g V W) {wv : Value} {mr : Option Nat} {s : NetS} (hN : NetP (V.ext W.epoch) w' L g wv mr s) (hm : Mod (netMay g V.wv V.mr) w w') (hwv : Moved w V.wv wv) (hmr : mr = V.mr ∨ ∀ k, mr = some k → w.heap.size ≤ k) :
    WorldP w' L g (V.net wv mr) (wnet W s) ∧ Mod (worldMay g V) w w' ∧ Grew w g V (V.net wv mr) := by
  have hq := h.net.qm
  have off : ∀ (k : Nat) (t : Option TypeId), kindOf w k = t → t ≠ some 42 → t ≠ some 51 → t ≠ none → ¬ netMay g V.wv V.mr k := fun k t h1 a b c hk => by
    rcases h.net.kind hk with e | e | e
    · exact a (h1.symm.trans e)
    · exact b (h1.symm.trans e)
    · exact c (h1.symm.trans e)
  refine ⟨⟨hN, ?_, fun j hj => ?_, h.apart, ?_, ?_, h.de, ?_, h.cn, ?_, h.sn⟩, hm.mono (fun k _ e => .inl e), fun k hk => ?_⟩
  · exact own_mod h.nrow hm (fun k _ _ hk => off k _ (kind_row h.nrow hk).1 (by decide) (by decide) (by decide))
  · refine (h.node j hj).mod hm hq (fun k hk => ?_)
    rcases (h.node j hj).kind hk with e | e | e
    · exact off k _ e (by decide) (by decide) (by decide)
    · exact off k _ e (by decide) (by decide) (by decide)
    · exact off k _ e (by decide) (by decide) (by decide)
  · exact own_mod h.drow hm (fun k _ _ hk => off k _ (kind_row h.drow hk).1 (by decide) (by decide) (by decide))
  · exact own_mod h.erow hm (fun k _ _ hk => off k _ (kind_row h.erow hk).1 (by decide) (by decide) (by decide))
  · exact own_mod h.crow hm (fun k _ _ hk => off k _ (kind_row h.crow hk).1 (by decide) (by decide) (by decide))
  · exact h.srow.mod hm hq (fun k hk => off k _ (kind_rowC h.srow hk).1 (by decide) (by decide) (by decide))
  · rcases hk with (hk | hk | hk) | hk
    · exact .inl (.inl (.inl hk))
    · rcases hwv with hwv | hwv
      · exact .inl (.inl (.inr (.inl (by rw [← hwv]; exact hk))))
      · exact .inr (hwv k hk)
    · rcases hmr with hmr | hmr
      · exact .inl (.inl (.inr (.inr (by rw [← hmr]; exact hk))))
      · exact .inr (hmr k hk)
    · exact .inl (.inr hk)
/-- The world's cells, its rows laid open. -/
theorem row_open {v : Value} {e : TypeId} {n : Nat} {xs : List Value} (ho : w.ownsRow L e 1 v n xs) (hn : 0 < n) : ∃ b cap, v = .slice (some ⟨b, 0, none⟩) n cap ∧ L ≤ b ∧ b < w.heap.size ∧ n ≤ cap ∧ cap ≤ maxLen ∧ ∀ (j : Nat) x, xs[j]? = some x → w.cell? ⟨b, j, none⟩ = some x := by
  have ho' := ho
  rcases ho.2 with ⟨_, h0⟩ | ⟨b, cap, cur, rfl, h1, hg, h2, h3, _, _⟩
  · omega
  · have hc := ho'.cells (g := b) rfl
    refine ⟨b, cap, rfl, h1, (Array.getElem?_eq_some_iff.1 hg).1, h2, h3, fun j x hx => ?_⟩
    have := hc j x hx
    rw [Go.WideShapes.add_plain, Nat.zero_add] at this
    exact this
theorem WorldP.cells (h : WorldP w L g V W) : w.cell? ⟨g, 0, none⟩ = some V.nodesv ∧ w.cell? ⟨g, 1, none⟩ = some V.wv ∧ w.cell? ⟨g, 4, none⟩ = some V.dv ∧ w.cell? ⟨g, 5, none⟩ = some V.ev ∧ w.cell? ⟨g, 6, none⟩ = some (.int .i64 W.epoch) ∧ w.cell? ⟨g, 7, none⟩ = some V.cv ∧ w.cell? ⟨g, 8, none⟩ = some V.sv :=
  ⟨h.net.blk.cell 0 rfl, h.net.blk.cell 1 rfl, h.net.blk.cell 4 rfl, h.net.blk.cell 5 rfl, h.net.blk.cell 6 rfl, h.net.blk.cell 7 rfl, h.net.blk.cell 8 rfl⟩
theorem ptrs_at (V : Vals) {i : Nat} (hi : i < 5) : (ptrs V)[i]? = some (.pointer (some ⟨V.b i, 0, none⟩)) := by
  unfold ptrs; rw [List.getElem?_map, List.getElem?_range hi]; rfl
theorem bools_at (f : Nat → Bool) {i : Nat} (hi : i < 5) : (bools f)[i]? = some (.bool (f i)) := by
  unfold bools; rw [List.getElem?_map, List.getElem?_range hi]; rfl
theorem WorldP.nodeAt (h : WorldP w L g V W) : ∃ b cap, w.cell? ⟨g, 0, none⟩ = some (.slice (some ⟨b, 0, none⟩) 5 cap) ∧ b < w.heap.size ∧ 5 ≤ cap ∧ cap ≤ maxLen ∧ ∀ i, i < 5 → w.cell? ⟨b, i, none⟩ = some (.pointer (some ⟨V.b i, 0, none⟩)) := by
  obtain ⟨b, cap, hv, _, hlt, h1, h2, h3⟩ := row_open h.nrow (by decide)
  exact ⟨b, cap, by rw [h.cells.1, hv], hlt, h1, h2, fun i hi => h3 i _ (ptrs_at V hi)⟩
theorem WorldP.downAt (h : WorldP w L g V W) : ∃ b cap, w.cell? ⟨g, 4, none⟩ = some (.slice (some ⟨b, 0, none⟩) 5 cap) ∧ b < w.heap.size ∧ 5 ≤ cap ∧ cap ≤ maxLen ∧ ∀ i, i < 5 → w.cell? ⟨b, i, none⟩ = some (.bool (W.down i)) := by
  obtain ⟨b, cap, hv, _, hlt, h1, h2, h3⟩ := row_open h.drow (by decide)
  exact ⟨b, cap, by rw [h.cells.2.2.1, hv], hlt, h1, h2, fun i hi => h3 i _ (bools_at _ hi)⟩
theorem WorldP.everAt (h : WorldP w L g V W) : ∃ b cap, w.cell? ⟨g, 5, none⟩ = some (.slice (some ⟨b, 0, none⟩) 5 cap) ∧ b < w.heap.size ∧ 5 ≤ cap ∧ cap ≤ maxLen ∧ ∀ i, i < 5 → w.cell? ⟨b, i, none⟩ = some (.bool (W.ever i)) := by
  obtain ⟨b, cap, hv, _, hlt, h1, h2, h3⟩ := row_open h.erow (by decide)
  exact ⟨b, cap, by rw [h.cells.2.2.2.1, hv], hlt, h1, h2, fun i hi => h3 i _ (bools_at _ hi)⟩
end
/-- A row of messages of one's own may be sent. -/
theorem RowM.toV {w : World} {L : Nat} {v : Value} {ms : List MsgD} (h : RowM w L v ms) : MsgsV w L (fun k => v.ownBlock = some k) v ms := by
  have h0 := h
  obtain ⟨us, h1, h2, h3, h4⟩ := h
  by_cases hn : ms = []
  · subst hn
    rcases h2.2 with ⟨rfl, _⟩ | ⟨g, cap, cur, rfl, _, _, hc1, hc2, _⟩
    · exact ⟨none, 0, rfl, Nat.zero_le _, Nat.zero_le _, .inl rfl⟩
    · exact ⟨_, cap, rfl, hc1, hc2, .inl rfl⟩
  · obtain ⟨m, hm⟩ : ∃ m, ms[0]? = some m := by cases ms with
      | nil => exact absurd rfl hn
      | cons x l => exact ⟨x, rfl⟩
    obtain ⟨g, cap, _, hv, hc1, hc2, _⟩ := h0.at hm
    refine ⟨_, cap, hv, hc1, hc2, .inr ⟨g, 0, rfl, by rw [hv]; rfl, fun i m hi => ?_⟩⟩
    obtain ⟨g', cap', u, hv', _, _, hu, hgm, q0, q1, q2, q3, q4, q5, q6, q7, q8⟩ := h0.at hi
    rw [hv] at hv'
    simp only [Value.slice.injEq, Option.some.injEq, Addr.mk.injEq] at hv'
    obtain ⟨⟨rfl, _⟩, _, rfl⟩ := hv'
    refine ⟨u, hu, hgm, fun j x hx => ?_⟩
    rw [Nat.zero_add]
    have hj : j < 9 := by
      have := (List.getElem?_eq_some_iff.1 hx).1
      simpa [msgCells] using this
    have : j = 0 ∨ j = 1 ∨ j = 2 ∨ j = 3 ∨ j = 4 ∨ j = 5 ∨ j = 6 ∨ j = 7 ∨ j = 8 := by omega
    rcases this with rfl | rfl | rfl | rfl | rfl | rfl | rfl | rfl | rfl <;> (simp [msgCells] at hx; subst hx; assumption)
end Go.Proofs.Ytefhgakcffhgaab
