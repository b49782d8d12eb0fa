/- Package locks: with. -/
import Derived.Test.YtkoncehhpiegfaaGreatDoorQi
namespace Go.Proofs.YtkoncehhpiegfaaGreatDoor
open Go.RowKit Go.Lib Go.Maps
set_option linter.unusedVariables false

theorem clmsCells_set : ∀ (l : List ClmD) (n : Nat) (c : ClmD), n < l.length → clmsCells (l.set n c) = ((clmsCells l).set (n * 2) (.int .i64 c.tx)).set (n * 2 + 1) (.int .i64 c.mode)
  | [], n, c, h => by simp at h
  | x :: l, 0, c, h => by simp [clmsCells, clmCells]
  | x :: l, n + 1, c, h => by
    have ih := clmsCells_set l n c (by simpa using h)
    rw [List.set_cons_succ, clmsCells, clmsCells, ih, show (n + 1) * 2 = (clmCells x).length + n * 2 by simp [clmCells]; omega]
    rw [List.set_append_right _ _ (by omega), List.set_append_right _ _ (by omega)]
    congr 2
    · congr 1
      omega
    · omega
theorem RowK.set {w : World} {B g cap : Nat} {l : List ClmD} (h : RowK w B (.slice (some ⟨g, 0, none⟩) l.length cap) l) {n : Nat} (hn : n < l.length) (c : ClmD) :
    RowK ((w.setCell ⟨g, n * 2, none⟩ (.int .i64 c.tx)).setCell ⟨g, n * 2 + 1, none⟩ (.int .i64 c.mode)) B (.slice (some ⟨g, 0, none⟩) l.length cap) (l.set n c) := by
  rcases h.2 with ⟨e, _⟩ | ⟨g', cap', cur, e, q1, q2, q3, q4, q5, q6⟩
  · cases e
  · cases e
    have hb : Blk w g cur.toList 61 := by simpa [Blk] using q2
    have hb2 := (hb.set (n * 2) (.int .i64 c.tx)).set (n * 2 + 1) (.int .i64 c.mode)
    refine ⟨by rw [clmsCells_len, List.length_set], .inr ⟨g, cap, _, by rw [List.length_set], q1, hb2, by rw [List.length_set]; exact q3, q4, by simpa using q5, ?_⟩⟩
    show List.take _ ((cur.toList.set _ _).set _ _) = _
    rw [List.length_set, clmsCells_set l n c hn, ← q6, List.take_set, List.take_set]
/-- What 'with' comes to. -/
def WithP (w : World) (B : Nat) (v : Value) (l : List ClmD) (c : ClmD) (e : Ending) (w' : World) : Prop :=
  ∃ u, e = .returned u ∧ RowK w' B u (withN l c) ∧ Mod (fun b => v.ownBlock = some b) w w' ∧ (u.ownBlock = v.ownBlock ∨ ∀ b, u.ownBlock = some b → w.heap.size ≤ b)
set_option maxRecDepth 100000 in
set_option maxHeartbeats 4000000 in
theorem with_any (B : Nat) (v : Value) (l : List ClmD) (c : ClmD) (w : World) (hR : RowK w B v l) (hr : Elder l) (hl : l.length ≤ 900) (hB : B ≤ w.heap.size) :
    Calls Tryz.prog 21 #[v, .agg #[.int .i64 c.tx, .int .i64 c.mode]] w (WithP w B v l c) := by
  obtain ⟨w1, hw1⟩ : ∃ q, q = w.alloc (.cells #[.int .i64 c.tx, .int .i64 c.mode] 61) := ⟨_, rfl⟩
  have hm1 : Mod noBlock w w1 := by rw [hw1]; exact (Mod.refl _ w).alloc _
  have hb1 : Blk w1 w.heap.size (clmCells c) 61 := by rw [hw1]; exact Blk.new w (clmCells c) 61
  have hR1 := hR.mod hm1 (fun _ _ => id)
  have HP := Hid.mkq (place_any w1.heap.size v l c.tx w1 (hR1.toV (Nat.le_refl _)) hr (by omega))
  have hle := plcN_le l c.tx
  have HWN : Hid (withN l c = if fndN l c.tx then l.set (plcN l c.tx) c else l.take (plcN l c.tx) ++ c :: l.drop (plcN l c.tx)) := rfl
  have HM1 := Hid.mkq hm1
  have HB1 := Hid.mkq hb1
  have HR1 := Hid.mkq hR1
  have HNV : Hid (v.ownBlock ≠ some w.heap.size) := fun e => by have := (own_cellsVQ hR e).2.1; omega
  have HPL : Hid (fndN l c.tx = true → plcN l c.tx < l.length) := fun h => by obtain ⟨d, h1, _⟩ := fnd_at h; exact (List.getElem?_eq_some_iff.1 h1).1
  generalize plcN l c.tx = n at HP hle HWN HPL
  have p0 := hb1.cell 0 rfl
  have p1 := hb1.cell 1 rfl
  have hz1 := hb1.lt
  cases hf : fndN l c.tx with
  | true =>
    have hn := HPL.out hf
    rw [hf] at HP HWN
    simp only [if_true] at HWN
    rcases hR.2 with ⟨_, h0⟩ | ⟨g, cap, cur, rfl, q1, q2, q3, q4, q5, q6⟩
    · omega
    have hg : g < w.heap.size := (Array.getElem?_eq_some_iff.1 q2).1
    have hcz : cur.size = cap * 2 := q5
    have hbl : Blk w g cur.toList 61 := by simpa [Blk] using q2
    have hnI : (n : Int) < (l.length : Int) := by omega
    have hn0 : (0 : Int) ≤ (n : Int) := by omega
    have HBL := Hid.mkq hbl
    have hgn : g ≠ w.heap.size := by omega
    clear hR hR1 hm1 hb1 q2 q6 hf hr q5 hbl HPL
    go_enter Tryz.func21, Tryz.ntmps21
    go_upto_region 1 with fail
    rw [← hw1]
    clear hw1
    go_wp2_with fail
    refine HP.out.mono ?_
    rintro e w2 ⟨rfl, hm2⟩
    have hbl2 : Blk w2 g cur.toList 61 := (HBL.out.mod HM1.out id).mod hm2 id
    have r0 := hm2.cell p0 id
    have r1 := hm2.cell p1 id
    have hz2 := Nat.lt_of_lt_of_le hz1 hm2.size
    obtain ⟨y0, hy0⟩ : ∃ y, w2.cell? ⟨g, n * 2, none⟩ = some y := ⟨_, hbl2.cell (n * 2) (List.getElem?_eq_getElem (by simp; omega))⟩
    obtain ⟨y1, hy1⟩ : ∃ y, w2.cell? ⟨g, n * 2 + 1, none⟩ = some y := ⟨_, hbl2.cell (n * 2 + 1) (List.getElem?_eq_getElem (by simp; omega))⟩
    have f0 := hbl2.frozen (n * 2)
    have f1 := hbl2.frozen (n * 2 + 1)
    have hg2 := hbl2.lt
    have HFIN : Hid (WithP w B (.slice (some ⟨g, 0, none⟩) l.length cap) l c (.returned (.slice (some ⟨g, 0, none⟩) l.length cap)) ((w2.setCell ⟨g, n * 2, none⟩ (.int .i64 c.tx)).setCell ⟨g, n * 2 + 1, none⟩ (.int .i64 c.mode))) := by
      refine ⟨_, rfl, ?_, ?_, .inl rfl⟩
      · rw [HWN.out]; exact (HR1.out.mod hm2 (fun _ _ => id)).set hn c
      · refine ((HM1.out.trans hm2).mono (fun _ _ e => e.elim)).trans (((Mod.setBlk g (n * 2) _).trans (Mod.setBlk g (n * 2 + 1) _)).mono (fun x _ e => ?_))
        simp only [oneBlock] at e
        rw [e]; rfl
    clear hbl2 hm2 p0 p1 HP
    go_wp2_with fail
    go_ret
    exact HFIN.out
  | false =>
    rw [hf] at HP HWN
    simp only [Bool.false_eq_true, if_false] at HWN
    have HI : Hid (∀ w2, Mod noBlock w1 w2 → Calls Tryz.prog 39 #[v, .int .i64 n, .slice (some ⟨w2.heap.size, 0, none⟩) 1 1] (w2.alloc (.cells #[.int .i64 c.tx, .int .i64 c.mode] 61)) (WithP w B v l c)) := fun w2 hm2 => by
      have hm3 : Mod noBlock w2 (w2.alloc (.cells #[.int .i64 c.tx, .int .i64 c.mode] 61)) := (Mod.refl _ w2).alloc _
      have hb3 : Blk (w2.alloc (.cells #[.int .i64 c.tx, .int .i64 c.mode] 61)) w2.heap.size (clmCells c) 61 := Blk.new w2 (clmCells c) 61
      have hw3 := (HM1.out.trans hm2).trans hm3
      refine (insertQ_any B v l n c w2.heap.size _ (hR.mod hw3 (fun _ _ => id)) hle hb3 (fun e => by have := (own_cellsVQ hR e).2.1; have := (HM1.out.trans hm2).size; omega) (by omega) (Nat.le_trans hB hw3.size)).mono ?_
      rintro e w4 ⟨u, rfl, hrow, hm4, hat⟩
      refine ⟨u, rfl, ?_, (hw3.mono (fun _ _ e => e.elim)).trans hm4, hat.imp id (fun h b hb => Nat.le_trans hw3.size (h b hb))⟩
      unfold RowK
      rw [HWN.out]
      have : (l.take n ++ c :: l.drop n).length = l.length + 1 := by simp; omega
      rw [this]
      exact hrow
    have HRR := Hid.mkq hR
    obtain ⟨va, vcap, rfl⟩ := own_slice hR
    clear hR hR1 hm1 hb1 hf hr HPL
    go_enter Tryz.func21, Tryz.ntmps21
    go_upto_region 1 with fail
    rw [← hw1]
    clear hw1
    go_wp2_with fail
    refine HP.out.mono ?_
    rintro e w2 ⟨rfl, hm2⟩
    have r0 := hm2.cell p0 id
    have r1 := hm2.cell p1 id
    have hz2 := Nat.lt_of_lt_of_le hz1 hm2.size
    have HI2 := Hid.mkq (HI.out w2 hm2)
    clear p0 p1 HI hm2
    go_wp2_with fail
    refine HI2.out.mono ?_
    rintro e w3 ⟨u, rfl, hW⟩
    have HW := Hid.mkq hW
    obtain ⟨ua, ucap, rfl⟩ := own_slice hW.1
    clear hW
    go_wp2_with fail
    go_ret
    exact ⟨_, rfl, HW.out⟩
end Go.Proofs.YtkoncehhpiegfaaGreatDoor
