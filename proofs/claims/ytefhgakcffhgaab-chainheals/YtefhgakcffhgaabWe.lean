/- The law's world: who is down, who was ever in; a node comes in. -/
import Derived.Test.YtefhgakcffhgaabWd
namespace Go.Proofs.Ytefhgakcffhgaab
open Go.RowKit Go.Lib Go.Maps
set_option linter.unusedVariables false

theorem row_set {w : World} {L : Nat} {e : TypeId} {b n cap : Nat} {xs : List Value} (h : w.ownsRow L e 1 (.slice (some ⟨b, 0, none⟩) n cap) n xs) {i : Nat} (hi : i < n) (u : Value) : (w.setCell ⟨b, i, none⟩ u).ownsRow L e 1 (.slice (some ⟨b, 0, none⟩) n cap) n (xs.set i u) := by
  refine ⟨by rw [List.length_set]; exact h.1, ?_⟩
  rcases h.2 with ⟨h0, _⟩ | ⟨g, cap', cur, hv, h1, hg, h2, h3, h4, h5⟩
  · cases h0
  · simp only [Value.slice.injEq, Option.some.injEq, Addr.mk.injEq] at hv
    obtain ⟨⟨rfl, _⟩, _, rfl⟩ := hv
    refine .inr ⟨b, cap, cur.setIfInBounds i u, rfl, h1, ?_, h2, h3, by simpa using h4, ?_⟩
    · simp [World.setCell, Array.getElem?_modify, hg]
    · rw [Array.toList_setIfInBounds, List.take_set, h5]
theorem bools_set (f : Nat → Bool) {i : Nat} (hi : i < 5) (x : Bool) : (bools f).set i (.bool x) = bools (setF f i x) := by
  have : i = 0 ∨ i = 1 ∨ i = 2 ∨ i = 3 ∨ i = 4 := by omega
  rcases this with rfl | rfl | rfl | rfl | rfl <;> simp [bools, setF, List.range, List.range.loop]
section
variable {w w' : World} {L g : Nat} {V : Vals} {W : WS}
/-- A cell of a row of truths is set: what stays. -/
theorem WorldP.rest (h : WorldP w L g V W) {b : Nat} (hm : Mod (oneBlock b) w w') (hb : kindOf w b = some 4) (hL : L ≤ b) :
    NetP (V.ext W.epoch) w' L g V.wv V.mr W.net ∧ w'.ownsRow L 44 1 V.nodesv 5 (ptrs V) ∧ (∀ i, i < 5 → NodeP w' L (V.b i) (V.nv i) (V.lv i) (W.node i)) ∧ w'.ownsRow L 3 1 V.cv W.conf.length (W.conf.map (Value.int .i64)) ∧ RowC w' L V.sv W.stable := by
  have off : ∀ (k : Nat) (t : Option TypeId), kindOf w k = t → t ≠ some 4 → ¬ oneBlock b k := fun k t hk hn e => by
    simp only [oneBlock] at e; subst e; exact kind_ne hk hb hn
  have hq : Qm w L (oneBlock b) := fun k _ e hs => by
    simp only [oneBlock] at e; subst e
    rcases hs with hs | ⟨cur, fr, hs⟩
    · omega
    · unfold kindOf at hb; rw [hs] at hb; simp at hb
  refine ⟨h.net.mod hm hq (fun k hk => ?_), own_mod h.nrow hm (fun k _ _ hk => off k _ (kind_row h.nrow hk).1 (by decide)), fun i hi => (h.node i hi).mod hm hq (fun k hk => ?_), own_mod h.crow hm (fun k _ _ hk => off k _ (kind_row h.crow hk).1 (by decide)), h.srow.mod hm hq (fun k hk => off k _ (kind_rowC h.srow hk).1 (by decide))⟩
  · rcases h.net.kind hk with e | e | e
    · exact off k _ e (by decide)
    · exact off k _ e (by decide)
    · exact off k _ e (by decide)
  · rcases (h.node i hi).kind hk with e | e | e
    · exact off k _ e (by decide)
    · exact off k _ e (by decide)
    · exact off k _ e (by decide)
def wsetD (W : WS) (i : Nat) : WS := ⟨W.node, W.net, setF W.down i true, W.ever, W.epoch, W.conf, W.stable⟩
theorem WorldP.setDown (h : WorldP w L g V W) {b cap i : Nat} (hc : w.cell? ⟨g, 4, none⟩ = some (.slice (some ⟨b, 0, none⟩) 5 cap)) (hi : i < 5) : WorldP (w.setCell ⟨b, i, none⟩ (.bool true)) L g V (wsetD W i) ∧ Mod (worldMay g V) w (w.setCell ⟨b, i, none⟩ (.bool true)) := by
  have hv : V.dv = .slice (some ⟨b, 0, none⟩) 5 cap := by have := h.cells.2.2.1; rw [hc] at this; simpa using this.symm
  have hob : V.dv.ownBlock = some b := by rw [hv]; rfl
  obtain ⟨k1, k2, k3⟩ := kind_row h.drow hob
  have hm : Mod (oneBlock b) w (w.setCell ⟨b, i, none⟩ (.bool true)) := Mod.setBlk b i _
  obtain ⟨r1, r2, r3, r4, r5⟩ := h.rest hm k1 k2
  have hd := h.drow
  rw [hv] at hd
  refine ⟨⟨r1, r2, r3, h.apart, ?_, own_mod h.erow hm (fun k _ _ hk e => ?_), h.de, r4, h.cn, r5, h.sn⟩, hm.mono (fun k _ e => ?_)⟩
  · have := row_set hd hi (.bool true)
    rw [bools_set _ hi] at this
    rw [hv]; exact this
  · simp only [oneBlock] at e; subst e; exact h.de k hob hk
  · simp only [oneBlock] at e; subst e; exact .inr (.inr (.inr (.inl hob)))
theorem WorldP.setEver (h : WorldP w L g V W) {b cap i : Nat} (hc : w.cell? ⟨g, 5, none⟩ = some (.slice (some ⟨b, 0, none⟩) 5 cap)) (hi : i < 5) : WorldP (w.setCell ⟨b, i, none⟩ (.bool true)) L g V (wever W i) ∧ Mod (worldMay g V) w (w.setCell ⟨b, i, none⟩ (.bool true)) := by
  have hv : V.ev = .slice (some ⟨b, 0, none⟩) 5 cap := by have := h.cells.2.2.2.1; rw [hc] at this; simpa using this.symm
  have hob : V.ev.ownBlock = some b := by rw [hv]; rfl
  obtain ⟨k1, k2, k3⟩ := kind_row h.erow hob
  have hm : Mod (oneBlock b) w (w.setCell ⟨b, i, none⟩ (.bool true)) := Mod.setBlk b i _
  obtain ⟨r1, r2, r3, r4, r5⟩ := h.rest hm k1 k2
  have hd := h.erow
  rw [hv] at hd
  refine ⟨⟨r1, r2, r3, h.apart, own_mod h.drow hm (fun k _ _ hk e => ?_), ?_, h.de, r4, h.cn, r5, h.sn⟩, hm.mono (fun k _ e => ?_)⟩
  · simp only [oneBlock] at e; subst e; exact h.de k hk hob
  · have := row_set hd hi (.bool true)
    rw [bools_set _ hi] at this
    rw [hv]; exact this
  · simp only [oneBlock] at e; subst e; exact .inr (.inr (.inr (.inr (.inl hob))))
end
/-- A world got on: what it has lies where it did, or anew; logs only grow. -/
structure Went (w : World) (L g : Nat) (V : Vals) (W : WS) (w' : World) (V' : Vals) (W' : WS) : Prop where
  p : WorldP w' L g V' W'
  mod : Mod (worldMay g V) w w'
  grew : Grew w g V V'
  keeps : ∀ i, i < 5 → (W.node i).log <+: (W'.node i).log
theorem Went.trans {a b c : World} {L g : Nat} {V V' V'' : Vals} {W W' W'' : WS} (h : Went a L g V W b V' W') (k : Went b L g V' W' c V'' W'') : Went a L g V W c V'' W'' :=
  ⟨k.p, h.mod.world h.grew k.mod, h.grew.trans k.grew h.mod.size, fun i hi => (h.keeps i hi).trans (k.keeps i hi)⟩
theorem Went.same {w w' : World} {L g : Nat} {V : Vals} {W : WS} (h : WorldP w L g V W) (hm : Mod noBlock w w') : Went w L g V W w' V W :=
  ⟨h.quiet hm, hm.mono (fun _ _ e => e.elim), Grew.refl _ _ _, fun _ _ => List.prefix_refl _⟩
theorem keeps_bec {W : WS} {n : Nat} {B : Int} (h : Inv W n B) {k : Nat} (hk : k < 5) : ∀ i, i < 5 → (W.node i).log <+: ((wbec W k).node i).log := by
  intro i hi
  unfold wbec
  split
  · exact List.prefix_refl _
  split
  · exact List.prefix_refl _
  show _ <+: (setF W.node k _ i).log
  unfold setF
  split
  · rename_i e; subst e
    rw [tick_log, bec_log (h.each i hi).out]
    exact List.prefix_refl _
  · exact List.prefix_refl _
theorem keeps_node {W : WS} {k : Nat} {r : NodeS × List MsgD} (h : (W.node k).log <+: r.1.log) : ∀ i, i < 5 → (W.node i).log <+: ((wnode W k r).node i).log := by
  intro i hi
  show _ <+: (setF W.node k _ i).log
  unfold setF
  split
  · rename_i e; subst e; exact h
  · exact List.prefix_refl _
set_option maxRecDepth 100000 in
set_option maxHeartbeats 2000000 in
theorem wjoins_any (L g i n : Nat) (B : Int) (V : Vals) (W : WS) (w : World) (h : WorldP w L g V W) (hI : Inv W n B) (hi : i < 5) (hn : n < 400) (hB : B + 100 ≤ 1099511627776) :
    Calls Try.prog 38 #[.pointer (some ⟨g, 0, none⟩), .int .i64 i] w fun e w' => e = .returned (.tuple #[]) ∧ ∃ V' W', Went w L g V W w' V' W' ∧ Inv W' (n + 1) (B + 5) := by
  obtain ⟨be, ec, c5, ze, he1, he2, ce⟩ := h.everAt
  obtain ⟨bd, dc, c4, zd, hd1, hd2, cd⟩ := h.downAt
  have q1 := ce i hi
  have q2 := cd i hi
  have zg := h.net.blk.lt
  have hltI : (i : Int) < 5 := by omega
  have hlt0 : (0 : Int) ≤ (i : Int) := by omega
  unfold maxLen at he2 hd2
  have HH := Hid.mk' h
  have HI := Hid.mk' hI
  clear cd ce
  by_cases hdo : W.ever i = true ∨ W.down i = true
  · clear h hI
    have fin : Hid (∃ V' W', Went w L g V W w V' W' ∧ Inv W' (n + 1) (B + 5)) := ⟨V, W, Went.same HH.out (Mod.refl _ _), HI.out.more (Nat.le_succ _) (by omega)⟩
    go_enter Try.func38, Try.ntmps38
    cases hev : W.ever i with
    | true =>
      rw [hev] at q1
      go_wp2_with fail
      refine bodyPost_ret (results_none rfl _ _ _) rfl ?_
      exact ⟨rfl, fin.out⟩
    | false =>
      rw [hev] at q1
      have hdn : W.down i = true := by simpa [hev] using hdo
      rw [hdn] at q2
      go_wp2_with fail
      refine bodyPost_ret (results_none rfl _ _ _) rfl ?_
      exact ⟨rfl, fin.out⟩
  · have hev : W.ever i = false := by cases hq : W.ever i with
      | false => rfl
      | true => exact absurd (.inl hq) hdo
    have hdn : W.down i = false := by cases hq : W.down i with
      | false => rfl
      | true => exact absurd (.inr hq) hdo
    rw [hev] at q1
    rw [hdn] at q2
    obtain ⟨R1, R2⟩ := h.setEver c5 hi
    obtain ⟨w1, hw1⟩ : ∃ q, q = w.setCell ⟨be, i, none⟩ (.bool true) := ⟨_, rfl⟩
    rw [← hw1] at R1 R2
    have hJ := hI.joins hi hdn hev
    have hep := hI.ep
    have hFX := wfix_any L g V (wever W i) i w1 R1 (fun x hx => (hI.conf x hx).1) (by have := conf_len hI; exact this) ⟨hep.1, by show W.epoch ≤ 1000; omega⟩ (.inr ⟨by omega, by omega⟩)
    have HFX := Hid.mk' hFX
    have HJ := Hid.mk' hJ
    have HR2 := Hid.mk' R2
    have hkf : w.frozen? ⟨be, i, none⟩ = false := by
      have hv : V.ev = .slice (some ⟨be, 0, none⟩) 5 ec := by have := h.cells.2.2.2.1; rw [c5] at this; simpa using this.symm
      obtain ⟨_, _, cur, hcur⟩ := own_cells h.erow (k := be) (by rw [hv]; rfl)
      simp [World.frozen?, hcur]
    clear h hI hep hFX hJ R1 R2 hev hdn hdo
    go_enter Try.func38, Try.ntmps38
    go_upto_region 2 with fail
    rw [← hw1]
    clear hw1 q1 q2 c4 c5
    go_wp2_with fail
    refine HFX.out.mono ?_
    rintro e w2 ⟨rfl, V2, hW2, hm2, hg2⟩
    have hWent : Went w L g V W w2 V2 (wfix (wever W i) i) := ⟨hW2, HR2.out.world (Grew.refl _ _ _) hm2, fun k hk => by
      rcases hg2 k hk with e | e
      · exact .inl e
      · exact .inr (Nat.le_trans HR2.out.size e), fun _ _ => List.prefix_refl _⟩
    have HW := Hid.mk' hWent
    clear hWent hW2 hm2 hg2 HFX
    go_wp2_with fail
    go_loopw [4] (fun i0 wr => ∃ (k : Nat) (V' : Vals) (W' : WS), k ≤ 5 ∧ i0 = .int .i64 k ∧ Went w L g V W wr V' W' ∧ Inv W' (n + 1) (B + k)) (fun i0 _ => 5 - (intOf i0).toNat)
    case atStart => exact ⟨0, V2, _, Nat.zero_le _, rfl, HW.out, by simpa using HJ.out⟩
    case round =>
      obtain ⟨k, V', W', hk, rfl, hWt, hIn⟩ := hrel
      by_cases hlt : k < 5
      · have hd : decide ((k : Int) < 5) = true := decide_eq_true (by omega)
        have HB := Hid.mk' (wbec_any L g k (n + 1) (B + k) V' W' wr hWt.p hIn hlt (by omega) (by omega))
        have HIN := Hid.mk' (hIn.bec hlt)
        have HKP := Hid.mk' (keeps_bec hIn hlt)
        have HWT := Hid.mk' hWt
        clear hWt hIn HW HJ
        go_wp2_with fail
        refine HB.out.mono ?_
        rintro e w3 ⟨rfl, V3, hW3, hm3, hg3⟩
        go_wp2_with fail
        go_roundw
        case rel => exact ⟨k + 1, V3, _, by omega, by go_num, HWT.out.trans ⟨hW3, hm3, hg3, HKP.out⟩, by have := HIN.out; simpa [Int.add_assoc] using this⟩
        case measure => simp [intOf]; omega
      · obtain rfl : k = 5 := by omega
        have HWT := Hid.mk' hWt
        have HIN := Hid.mk' hIn
        clear hWt hIn HW HJ
        go_wp2_with fail
        go_end0
        exact ⟨rfl, V', W', HWT.out, HIN.out⟩
end Go.Proofs.Ytefhgakcffhgaab
