/- The law's world is made. -/
import Derived.Test.YtefhgakcffhgaabWe
import Derived.Test.YtefhgakcffhgaabWa3
namespace Go.Proofs.Ytefhgakcffhgaab
open Go.RowKit Go.Lib Go.Maps
set_option linter.unusedVariables false
theorem Try.info44 : (Try.prog.info? 44).map (fun i => (i.zero, i.size, i.bytes)) = some (some (.pointer none), 1, 8) := by kernel_rfl

def bareN (i : Nat) : NodeS := ⟨i, 0, [], [], 0⟩
def ptrsK (b : Nat → Nat) (k : Nat) : List Value := (List.range k).map fun i => .pointer (some ⟨b i, 0, none⟩)
def intsK (k : Nat) : List Int := (List.range k).map fun (i : Nat) => (i : Int)
/-- A world of which k nodes are made. -/
structure MakeP (w : World) (L g : Nat) (nodesv dv ev cv : Value) (b : Nat → Nat) (k c : Nat) : Prop where
  blk : Blk w g [nodesv, .slice none 0 0, .int .i64 0, .map none, dv, ev, .int .i64 0, cv, .slice none 0 0] 42
  low : L ≤ g
  nrow : w.ownsRow L 44 1 nodesv k (ptrsK b k)
  node : ∀ i, i < k → Blk w (b i) [.int .i64 i, .int .i64 0, .slice none 0 0, .slice none 0 0, .int .i64 0] 106 ∧ L ≤ b i
  inj : ∀ i j, i < k → j < k → i ≠ j → b i ≠ b j
  drow : w.ownsRow L 4 1 dv 5 (bools fun _ => false)
  erow : w.ownsRow L 4 1 ev 5 (bools fun _ => false)
  de : ∀ x, dv.ownBlock = some x → ev.ownBlock ≠ some x
  crow : w.ownsRow L 3 1 cv c ((intsK c).map (Value.int .i64))
section
variable {w w' : World} {L g : Nat} {nodesv dv ev cv : Value} {b : Nat → Nat} {k c : Nat}
theorem MakeP.keep {G : Nat → Prop} (h : MakeP w L g nodesv dv ev cv b k c) (hm : Mod G w w') (hg : ¬ G g) (hb : ∀ i, i < k → ¬ G (b i)) (h1 : ∀ x, nodesv.ownBlock = some x → ¬ G x) (h2 : ∀ x, dv.ownBlock = some x → ¬ G x) (h3 : ∀ x, ev.ownBlock = some x → ¬ G x) (h4 : ∀ x, cv.ownBlock = some x → ¬ G x) : MakeP w' L g nodesv dv ev cv b k c :=
  ⟨h.blk.mod hm hg, h.low, own_mod h.nrow hm (fun x _ _ e => h1 x e), fun i hi => ⟨(h.node i hi).1.mod hm (hb i hi), (h.node i hi).2⟩, h.inj, own_mod h.drow hm (fun x _ _ e => h2 x e), own_mod h.erow hm (fun x _ _ e => h3 x e), h.de, own_mod h.crow hm (fun x _ _ e => h4 x e)⟩
theorem MakeP.quiet (h : MakeP w L g nodesv dv ev cv b k c) (hm : Mod noBlock w w') : MakeP w' L g nodesv dv ev cv b k c :=
  h.keep hm id (fun _ _ => id) (fun _ _ => id) (fun _ _ => id) (fun _ _ => id) (fun _ _ => id)
/-- The kinds of its blocks. -/
theorem MakeP.kinds (h : MakeP w L g nodesv dv ev cv b k c) : kindOf w g = some 42 ∧ (∀ i, i < k → kindOf w (b i) = some 106) ∧ (∀ x, nodesv.ownBlock = some x → kindOf w x = some 44) ∧ (∀ x, dv.ownBlock = some x → kindOf w x = some 4) ∧ (∀ x, ev.ownBlock = some x → kindOf w x = some 4) ∧ (∀ x, cv.ownBlock = some x → kindOf w x = some 3) :=
  ⟨kind_blk h.blk, fun i hi => kind_blk (h.node i hi).1, fun x e => (kind_row h.nrow e).1, fun x e => (kind_row h.drow e).1, fun x e => (kind_row h.erow e).1, fun x e => (kind_row h.crow e).1⟩
/-- What was turned is of one kind, that of none of its blocks but those that are told. -/
theorem MakeP.node1 (h : MakeP w L g nodesv dv ev cv b k c) {w5 w6 : World} {q : Nat} {v6 : Value} (hm5 : Mod noBlock w w5) (hq : Blk w5 q [.int .i64 k, .int .i64 0, .slice none 0 0, .slice none 0 0, .int .i64 0] 106) (hfr : w.heap.size ≤ q)
    (hm6 : Mod (fun x => nodesv.ownBlock = some x) w5 w6) (hown : w6.ownsRow L 44 1 v6 (k + 1) (ptrsK b k ++ [.pointer (some ⟨q, 0, none⟩)])) :
    MakeP (w6.setCell ⟨g, 0, none⟩ v6) L g v6 dv ev cv (setF b k q) (k + 1) c := by
    have hL : L ≤ w.heap.size := by have := h.low; have := h.blk.lt; omega
    have h5 := h.quiet hm5
    obtain ⟨k1, k2, k3, k4, k5, k6⟩ := h5.kinds
    have off : ∀ (x : Nat) (t : Option TypeId), kindOf w5 x = t → t ≠ some 44 → ¬ nodesv.ownBlock = some x := fun x t hx hn e => kind_ne hx (k3 x e) hn
    have hms : Mod (oneBlock g) w6 (w6.setCell ⟨g, 0, none⟩ v6) := Mod.setBlk g 0 _
    have hb6 := h5.blk.mod hm6 (off g _ k1 (by decide))
    have kg := kind_blk hb6
    have offs : ∀ (x : Nat) (t : Option TypeId), kindOf w6 x = t → t ≠ some 42 → ¬ oneBlock g x := fun x t hx hn e => by
      simp only [oneBlock] at e; subst e; exact kind_ne hx kg hn
    have d6 := own_mod h5.drow hm6 (fun x _ _ e => off x _ (k4 x e) (by decide))
    have e6 := own_mod h5.erow hm6 (fun x _ _ e => off x _ (k5 x e) (by decide))
    have c6 := own_mod h5.crow hm6 (fun x _ _ e => off x _ (k6 x e) (by decide))
    have hq6 := hq.mod hm6 (off q _ (kind_blk hq) (by decide))
    have hrange : ptrsK (setF b k q) (k + 1) = ptrsK b k ++ [.pointer (some ⟨q, 0, none⟩)] := by
      unfold ptrsK
      rw [List.range_succ, List.map_append]
      congr 1
      · refine List.map_congr_left (fun i hi => ?_)
        rw [setF_ne _ _ (by have := List.mem_range.1 hi; omega)]
      · simp [setF_same]
    refine ⟨hb6.set 0 _, h.low, ?_, fun i hi => ?_, fun i j hi hj hne => ?_, own_mod d6 hms (fun x _ _ e => offs x _ (kind_row d6 e).1 (by decide)), own_mod e6 hms (fun x _ _ e => offs x _ (kind_row e6 e).1 (by decide)), h.de, ?_⟩
    · rw [hrange]
      exact own_mod hown hms (fun x _ _ e => offs x _ (kind_row hown e).1 (by decide))
    · by_cases e : i = k
      · subst e
        rw [setF_same]
        exact ⟨hq6.mod hms (offs q _ (kind_blk hq6) (by decide)), by omega⟩
      · have hi' : i < k := by omega
        rw [setF_ne _ _ e]
        have hbi := (h5.node i hi').1.mod hm6 (off _ _ (k2 i hi') (by decide))
        exact ⟨hbi.mod hms (offs _ _ (kind_blk hbi) (by decide)), (h.node i hi').2⟩
    · unfold setF
      have lt : ∀ x, x < k → b x < w.heap.size := fun x hx => (h.node x hx).1.lt
      split <;> split
      · omega
      · have := lt j (by omega); omega
      · have := lt i (by omega); omega
      · exact h.inj i j (by omega) (by omega) hne
    · exact own_mod c6 hms (fun x _ _ e => offs x _ (kind_row c6 e).1 (by decide))
/-- One more number of the configuration. -/
theorem MakeP.conf1 (h : MakeP w L g nodesv dv ev cv b k c) {w6 : World} {v6 : Value} (hm6 : Mod (fun x => cv.ownBlock = some x) w w6) (hown : w6.ownsRow L 3 1 v6 (c + 1) ((intsK (c + 1)).map (Value.int .i64))) : MakeP (w6.setCell ⟨g, 7, none⟩ v6) L g nodesv dv ev v6 b k (c + 1) := by
  obtain ⟨k1, k2, k3, k4, k5, k6⟩ := h.kinds
  have off : ∀ (x : Nat) (t : Option TypeId), kindOf w x = t → t ≠ some 3 → ¬ cv.ownBlock = some x := fun x t hx hn e => kind_ne hx (k6 x e) hn
  have hms : Mod (oneBlock g) w6 (w6.setCell ⟨g, 7, none⟩ v6) := Mod.setBlk g 7 _
  have hb6 := h.blk.mod hm6 (off g _ k1 (by decide))
  have kg := kind_blk hb6
  have offs : ∀ (x : Nat) (t : Option TypeId), kindOf w6 x = t → t ≠ some 42 → ¬ oneBlock g x := fun x t hx hn e => by
    simp only [oneBlock] at e; subst e; exact kind_ne hx kg hn
  have n6 := own_mod h.nrow hm6 (fun x _ _ e => off x _ (k3 x e) (by decide))
  have d6 := own_mod h.drow hm6 (fun x _ _ e => off x _ (k4 x e) (by decide))
  have e6 := own_mod h.erow hm6 (fun x _ _ e => off x _ (k5 x e) (by decide))
  refine ⟨hb6.set 7 _, h.low, own_mod n6 hms (fun x _ _ e => offs x _ (kind_row n6 e).1 (by decide)), fun i hi => ?_, h.inj, own_mod d6 hms (fun x _ _ e => offs x _ (kind_row d6 e).1 (by decide)), own_mod e6 hms (fun x _ _ e => offs x _ (kind_row e6 e).1 (by decide)), h.de, own_mod hown hms (fun x _ _ e => offs x _ (kind_row hown e).1 (by decide))⟩
  have hbi := (h.node i hi).1.mod hm6 (off _ _ (k2 i hi) (by decide))
  exact ⟨hbi.mod hms (offs _ _ (kind_blk hbi) (by decide)), (h.node i hi).2⟩
def rawW (n : Nat) : WS := ⟨bareN, ⟨[], 0, []⟩, fun _ => false, fun _ => false, 1, intsK n, []⟩
def rawV (nodesv dv ev cv : Value) (b : Nat → Nat) : Vals := ⟨nodesv, dv, ev, cv, .slice none 0 0, .slice none 0 0, none, b, fun _ => .slice none 0 0, fun _ => .slice none 0 0⟩
/-- All is made: the epoch is set. -/
theorem MakeP.done (h : MakeP w L g nodesv dv ev cv b 5 c) : WorldP (w.setCell ⟨g, 6, none⟩ (.int .i64 1)) L g (rawV nodesv dv ev cv b) (rawW c) := by
  obtain ⟨k1, k2, k3, k4, k5, k6⟩ := h.kinds
  have hms : Mod (oneBlock g) w (w.setCell ⟨g, 6, none⟩ (.int .i64 1)) := Mod.setBlk g 6 _
  have offs : ∀ (x : Nat) (t : Option TypeId), kindOf w x = t → t ≠ some 42 → ¬ oneBlock g x := fun x t hx hn e => by
    simp only [oneBlock] at e; subst e; exact kind_ne hx k1 hn
  have nob : (Value.slice none 0 0).ownBlock = none := rfl
  refine ⟨⟨h.blk.set 6 _, h.low, RowM.nil _ _, .inl ⟨rfl, rfl⟩, by simp [rawW], by simp [rawW]⟩, own_mod h.nrow hms (fun x _ _ e => offs x _ (k3 x e) (by decide)), fun i hi => ?_, fun i j hi hj hne x h1 h2 => ?_, own_mod h.drow hms (fun x _ _ e => offs x _ (k4 x e) (by decide)), own_mod h.erow hms (fun x _ _ e => offs x _ (k5 x e) (by decide)), h.de, ?_, fun i hi x _ e => ?_, RowC.nil _ _, fun i hi x e => ?_⟩
  · refine ⟨(h.node i hi).1.mod hms (offs _ _ (k2 i hi) (by decide)), (h.node i hi).2, World.ownsRow_nil _ _ _ _, RowC.nil _ _, ⟨⟨by show -9223372036854775808 ≤ (i : Int); omega, by show (i : Int) ≤ 9223372036854775807; omega⟩, ⟨by simp [rawW, bareN], by simp [rawW, bareN]⟩, by simp [rawW, bareN]⟩, by simp [rawW, bareN], by simp [rawW, bareN]⟩
  · rcases h1 with h1 | h1 | h1
    · rcases h2 with h2 | h2 | h2
      · exact h.inj i j hi hj hne (h1.symm.trans h2)
      · simp [rawV, Value.ownBlock] at h2
      · simp [rawV, Value.ownBlock] at h2
    · simp [rawV, Value.ownBlock] at h1
    · simp [rawV, Value.ownBlock] at h1
  · have hl : (intsK c).length = c := by simp [intsK]
    show World.ownsRow _ L 3 1 cv (intsK c).length ((intsK c).map (Value.int .i64))
    rw [hl]
    exact own_mod h.crow hms (fun x _ _ e => offs x _ (k6 x e) (by decide))
  · simp [rawV, Value.ownBlock] at e
  · simp [rawV, Value.ownBlock] at e
end
def allE (W : WS) : WS := ⟨W.node, W.net, W.down, fun _ => true, W.epoch, W.conf, W.stable⟩
theorem intsK_mem {c : Nat} {x : Int} (h : x ∈ intsK c) : 0 ≤ x ∧ x < c := by
  unfold intsK at h
  obtain ⟨i, hi, rfl⟩ := List.mem_map.1 h
  have := List.mem_range.1 hi
  omega
theorem intsK_nodup (c : Nat) : (intsK c).Nodup := by
  unfold intsK
  exact List.pairwise_map.2 (List.Pairwise.imp (fun {a b} h e => h (by omega)) (List.nodup_range (n := c)))
theorem raw_inv {c : Nat} (h1 : 1 ≤ c) (h5 : c ≤ 5) : Inv (allE (rawW c)) 0 0 := by
  refine ⟨fun i hi => ⟨rfl, fun _ => rfl, ⟨by simp [allE, rawW, bareN], by simp [allE, rawW, bareN]⟩, fun _ hin => ?_, fun _ => rfl, by simp [allE, rawW, bareN], by simp [allE, rawW, bareN], by simp [allE, rawW, bareN]⟩, intsK_nodup c, fun x hx => ?_, ?_, ?_, by simp [allE, rawW], by simp [allE, rawW], by simp [allE, rawW], by simp [allE, rawW], by simp [allE, rawW], by simp [allE, rawW]⟩
  · simp [allE, rawW, bareN, inN, placeN, firstX, plI] at hin
  · have := intsK_mem hx
    exact ⟨by unfold small; omega, rfl, rfl⟩
  · intro e
    have : (intsK c).length = 0 := by rw [show (allE (rawW c)).conf = intsK c from rfl] at e; rw [e]; rfl
    simp [intsK] at this; omega
  · refine List.Pairwise.imp_of_mem (R := fun _ _ => True) (fun {a b} _ _ _ => ?_) (List.pairwise_of_forall (fun _ _ => trivial))
    show ([] : List CmdD) <+: []
    exact List.prefix_refl _
theorem raw_invS (c : Nat) : InvS (allE (rawW c)) :=
  ⟨fun i _ _ hin => by simp [allE, rawW, bareN, inN, placeN, firstX, plI] at hin, fun i _ => ⟨by simp [allE, rawW, bareN], fun _ _ => List.nil_prefix⟩, by simp [allE, rawW], fun _ _ => List.nil_prefix⟩
/-- Who was ever in is known: all of the configuration. -/
theorem inv_real {W : WS} {n : Nat} {B : Int} (h : Inv (allE W) n B) (hd : ∀ i, i < 5 → W.down i = false) (he : ∀ x ∈ W.conf, W.ever x.toNat = true) : Inv W n B := by
  refine ⟨fun i hi => ?_, h.nodup, fun x hx => ⟨(h.conf x hx).1, (h.conf x hx).2.1, he x hx⟩, h.some_, h.ahead, h.msgs, h.dn, h.lo, h.ep, h.ndn, h.old⟩
  have hj := h.each i hi
  refine ⟨hj.ident, hj.out, hj.nodes, hj.own, fun hin => ?_, hj.bare, hj.len, hj.ep⟩
  have hm := mem_of_inN (s := W.node i) hin
  have hid : (W.node i).id = i := hj.ident
  rw [hid] at hm
  have ho := hj.own (hd i hi) hin
  have : (i : Int) ∈ W.conf := ho.subset (List.mem_filter.2 ⟨hm, by show (!W.down ((i : Int)).toNat) = true; rw [show ((i : Int)).toNat = i by omega, hd i hi]; rfl⟩)
  have := he _ this
  rwa [show ((i : Int)).toNat = i by omega] at this
theorem allE_bec (W : WS) (i : Nat) : allE (wbec W i) = wbec (allE W) i := by
  unfold wbec
  show allE _ = if W.down i = true then _ else if W.epoch ≤ (W.node i).epoch then _ else _
  split
  · rfl
  split
  · rfl
  · rfl
theorem bec_rest_w (W : WS) (i : Nat) : (wbec W i).down = W.down ∧ (wbec W i).ever = W.ever ∧ (wbec W i).conf = W.conf ∧ (wbec W i).epoch = W.epoch := by
  unfold wbec
  split
  · exact ⟨rfl, rfl, rfl, rfl⟩
  split
  · exact ⟨rfl, rfl, rfl, rfl⟩
  · exact ⟨rfl, rfl, rfl, rfl⟩
end Go.Proofs.Ytefhgakcffhgaab
