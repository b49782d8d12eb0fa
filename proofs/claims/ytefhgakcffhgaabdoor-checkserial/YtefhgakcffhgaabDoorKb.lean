/- Package check: who is done, who is ahead, who is in the order; whether all are, and who may be next. -/
import Derived.Test.YtefhgakcffhgaabDoorKa
import Derived.Test.YtefhgakcffhgaabDoorKz
namespace Go.Proofs.YtefhgakcffhgaabDoor
open Go.RowKit Go.Lib Go.Maps
set_option linter.unusedVariables false

theorem retB {x y : Bool} (h : x = y) : Ending.returned (.bool x) = Ending.returned (.bool y) := by rw [h]
theorem tdone_any (a : Option Addr) (n cap : Nat) (f t : Int) (w : World) :
    Calls Tryd.prog 22 #[.agg #[.slice a n cap, .int .i64 f, .int .i64 t]] w fun e w' => e = .returned (.bool (decide (0 ≤ t))) ∧ Mod noBlock w w' := by
  have hM : Mod noBlock w (w.alloc (.cells #[.slice a n cap, .int .i64 f, .int .i64 t] 25)) := (Mod.refl _ w).alloc _
  go_enter Tryd.func22, Tryd.ntmps22
  go_wp2_with fail
  go_ret
  exact ⟨retB (by simp), hM⟩
theorem tahead_any (a a' : Option Addr) (n cap n' cap' : Nat) (f t f' t' : Int) (w : World) :
    Calls Tryd.prog 24 #[.agg #[.slice a n cap, .int .i64 f, .int .i64 t], .agg #[.slice a' n' cap', .int .i64 f', .int .i64 t']] w fun e w' => e = .returned (.bool (decide (0 ≤ t ∧ t < f'))) ∧ Mod noBlock w w' := by
  obtain ⟨w1, hw1⟩ : ∃ q, q = (w.alloc (.cells #[.slice a n cap, .int .i64 f, .int .i64 t] 25)).alloc (.cells #[.slice a' n' cap', .int .i64 f', .int .i64 t'] 25) := ⟨_, rfl⟩
  have hM : Mod noBlock w w1 := by rw [hw1]; exact ((Mod.refl _ w).alloc _).alloc _
  have hB1 : Blk w1 w.heap.size [.slice a n cap, .int .i64 f, .int .i64 t] 25 := by rw [hw1]; exact (Blk.new w _ _).mod ((Mod.refl noBlock _).alloc _) id
  have hB2 : Blk w1 (w.heap.size + 1) [.slice a' n' cap', .int .i64 f', .int .i64 t'] 25 := by
    rw [hw1]
    have := Blk.new (w.alloc (.cells #[.slice a n cap, .int .i64 f, .int .i64 t] 25)) [.slice a' n' cap', .int .i64 f', .int .i64 t'] 25
    simpa using this
  have HD := Hid.mk' (tdone_any a n cap f t w1)
  have x0 := hB1.cell 0 rfl
  have x1 := hB1.cell 1 rfl
  have x2 := hB1.cell 2 rfl
  have z1 := hB1.lt
  have z2 := hB2.lt
  have HB1 := Hid.mk' hB1
  have HB2 := Hid.mk' hB2
  clear hB1 hB2
  go_enter Tryd.func24, Tryd.ntmps24
  go_upto_region 1 with fail
  rw [← hw1]
  clear hw1
  go_wp2_with fail
  refine HD.out.mono ?_
  rintro e w5 ⟨rfl, hm5⟩
  have HM5 := Hid.mk' (hM.trans hm5)
  have y2 := (HB1.out.mod hm5 id).cell 2 rfl
  have y3 := (HB2.out.mod hm5 id).cell 1 rfl
  have z3 := (HB1.out.mod hm5 id).lt
  have z4 := (HB2.out.mod hm5 id).lt
  clear x0 x1 x2 hm5 hM
  by_cases h0 : 0 ≤ t
  · have hd0 : decide (0 ≤ t) = true := decide_eq_true h0
    rw [hd0]
    go_wp2_with fail
    go_ret
    exact ⟨retB (by simp [h0]), HM5.out⟩
  · have hd0 : decide (0 ≤ t) = false := decide_eq_false h0
    rw [hd0]
    go_wp2_with fail
    go_ret
    exact ⟨retB (by simp; intro h; omega), HM5.out⟩
theorem firstX_out (x : Int) : ∀ l : List Int, firstX x l = none → x ∉ l
  | [], _ => by simp
  | y :: l, hf => by
    unfold firstX at hf
    split at hf
    · cases hf
    · rename_i hne
      have : firstX x l = none := by
        cases hq : firstX x l with
        | none => rfl
        | some z => rw [hq] at hf; simp at hf
      simp [hne, firstX_out x l this]
theorem containsI_any (v : Value) (ns : List Int) (x : Int) (w : World) (hv : IntsV w v ns) :
    Calls Tryd.prog 28 #[v, .int .i64 x] w fun e w' => e = .returned (.bool (decide (x ∈ ns))) ∧ w' = w := by
  have HX := Hid.mk' (indexI_any v ns x w hv)
  obtain ⟨a, cap, rfl, _⟩ := hv
  have hdec : decide (plI (firstX x ns) ≥ 0) = decide (x ∈ ns) := by
    cases hf : firstX x ns with
    | none =>
      have : x ∉ ns := firstX_out x ns hf
      simp [plI, this]
    | some k =>
      have := List.mem_of_getElem? (firstX_some _ _ _ hf)
      simp [plI, this]
  go_enter Tryd.func28, Tryd.ntmps28
  go_wp2_with fail
  refine HX.out.mono ?_
  rintro e w5 ⟨rfl, rfl⟩
  go_wp2_with fail
  go_ret
  exact ⟨retB (by first | exact hdec | rfl), rfl⟩
def ordI (o : List Nat) : List Int := o.map fun (n : Nat) => (n : Int)
theorem mem_ordI {o : List Nat} {n : Nat} : (n : Int) ∈ ordI o ↔ n ∈ o := by
  unfold ordI
  rw [List.mem_map]
  constructor
  · rintro ⟨m, hm, e⟩
    have : m = n := by omega
    rw [← this]; exact hm
  · exact fun h => ⟨n, h, rfl⟩
theorem shas_any (g : Nat) (v : Value) (o : List Nat) (n : Nat) (w : World) (hc : w.cell? ⟨g, 1, none⟩ = some v) (hv : IntsV w v (ordI o)) :
    Calls Tryd.prog 23 #[.pointer (some ⟨g, 0, none⟩), .int .i64 n] w fun e w' => e = .returned (.bool (decide (n ∈ o))) ∧ w' = w := by
  have HX := Hid.mk' (containsI_any v (ordI o) n w hv)
  obtain ⟨a, cap, rfl, _⟩ := hv
  have z := World.block_lt_of_cell? w _ hc
  have hd : decide ((n : Int) ∈ ordI o) = decide (n ∈ o) := by simp only [mem_ordI]
  go_enter Tryd.func23, Tryd.ntmps23
  go_wp2_with fail
  refine HX.out.mono ?_
  rintro e w5 ⟨rfl, rfl⟩
  go_wp2_with fail
  go_ret
  exact ⟨retB (by first | exact hd | rfl), rfl⟩
/-- All that are done are there. -/
def Whole (ts : List TxD) (o : List Nat) : Prop := ∀ i t, ts[i]? = some t → 0 ≤ t.til → i ∈ o
set_option maxRecDepth 100000 in
set_option maxHeartbeats 1000000 in
theorem swhole_any (L g : Nat) (tv v : Value) (ts : List TxD) (o : List Nat) (w : World) (h0 : w.cell? ⟨g, 0, none⟩ = some tv) (h1 : w.cell? ⟨g, 1, none⟩ = some v) (ht : TxsV w L tv ts) (hL : L ≤ w.heap.size) (hv : IntsV w v (ordI o)) :
    Calls Tryd.prog 17 #[.pointer (some ⟨g, 0, none⟩)] w fun e w' => ∃ b : Bool, e = .returned (.bool b) ∧ (b = true ↔ Whole ts o) ∧ Mod noBlock w w' := by
  obtain ⟨a, cap, rfl, hc1, hc2⟩ := SlR.slice ht
  have HT := Hid.mk' ht
  have HH : Hid (∀ (n : Nat) (wq : World), Mod noBlock w wq → Calls Tryd.prog 23 #[.pointer (some ⟨g, 0, none⟩), .int .i64 n] wq fun e w' => e = .returned (.bool (decide (n ∈ o))) ∧ w' = wq) := fun n wq hq => shas_any g v o n wq (hq.cell h1 id) (by
    obtain ⟨a, cap, e, k1, k2, k3⟩ := hv
    refine ⟨a, cap, e, k1, k2, ?_⟩
    rcases k3 with k3 | ⟨b, off, k4, k5⟩
    · exact .inl k3
    · exact .inr ⟨b, off, k4, fun j x hx => hq.cell (k5 j x hx) id⟩)
  have z := World.block_lt_of_cell? w _ h0
  unfold maxLen at hc2
  clear ht hv h1
  go_enter Tryd.func17, Tryd.ntmps17
  go_wp2_with fail
  go_loopw [10] (fun i wr => ∃ k : Nat, k ≤ ts.length ∧ i = .int .i64 k ∧ (∀ i t, i < k → ts[i]? = some t → 0 ≤ t.til → i ∈ o) ∧ Mod noBlock w wr) (fun i _ => ts.length - (intOf i).toNat)
  case atStart => exact ⟨0, Nat.zero_le _, rfl, fun i t h => by omega, Mod.refl _ _⟩
  case round =>
    obtain ⟨k, hk, rfl, hno, hM⟩ := hrel
    have HNO := Hid.mk' hno
    have HM := Hid.mk' hM
    by_cases hlt : k < ts.length
    · obtain ⟨t, htk⟩ : ∃ t, ts[k]? = some t := ⟨_, List.getElem?_eq_getElem hlt⟩
      obtain ⟨b, off, ov, rfl, hbL, hops, hints, q0, q1, q2⟩ := HT.out.at htk
      obtain ⟨oa, ocap, rfl, _⟩ := SlR.slice hops
      have q0' := hM.cell q0 id
      have q1' := hM.cell q1 id
      have q2' := hM.cell q2 id
      have hltI : (k : Int) < (ts.length : Int) := by omega
      have hlt0 : (0 : Int) ≤ (k : Int) := by omega
      obtain ⟨w3, hw3⟩ : ∃ q, q = wr.alloc (.cells #[.slice oa t.ops.length ocap, .int .i64 t.frm, .int .i64 t.til] 25) := ⟨_, rfl⟩
      have hm3 : Mod noBlock wr w3 := by rw [hw3]; exact (Mod.refl _ wr).alloc _
      have hB3 : Blk w3 wr.heap.size [.slice oa t.ops.length ocap, .int .i64 t.frm, .int .i64 t.til] 25 := by rw [hw3]; exact Blk.new wr _ _
      have x0 := hB3.cell 0 rfl
      have x1 := hB3.cell 1 rfl
      have x2 := hB3.cell 2 rfl
      have z3 := hB3.lt
      have HD := Hid.mk' (tdone_any oa t.ops.length ocap t.frm t.til w3)
      have HTK := Hid.mk' htk
      have HM3 := Hid.mk' (hM.trans hm3)
      clear hno hM hops hints q0 q1 q2 htk hm3 hB3
      go_upto_region 4 with fail
      rw [← hw3]
      clear hw3
      go_wp2_with fail
      refine HD.out.mono ?_
      rintro e w5 ⟨rfl, hm5⟩
      have HM5 := Hid.mk' (HM3.out.trans hm5)
      clear hm5 x0 x1 x2 q0' q1' q2'
      by_cases hdn : 0 ≤ t.til
      · have hd0 : decide (0 ≤ t.til) = true := decide_eq_true hdn
        rw [hd0]
        go_wp2_with fail
        refine (HH.out k w5 HM5.out).mono ?_
        rintro e w6 ⟨rfl, hw6⟩
        subst hw6
        by_cases hin : k ∈ o
        · have hdi : decide (k ∈ o) = true := decide_eq_true hin
          rw [hdi]
          go_wp2_with fail
          go_roundw
          case rel =>
            refine ⟨k + 1, by omega, by go_num, fun i t' hi hti hd' => ?_, HM5.out⟩
            by_cases e : i = k
            · rw [e]; exact hin
            · exact HNO.out i t' (by omega) hti hd'
          case measure => simp [intOf]; omega
        · have hdi : decide (k ∈ o) = false := decide_eq_false hin
          rw [hdi]
          go_wp2_with fail
          go_ret
          exact ⟨false, rfl, ⟨fun h => absurd h (by simp), fun h => absurd (h k t HTK.out hdn) hin⟩, HM5.out⟩
      · have hd0 : decide (0 ≤ t.til) = false := decide_eq_false hdn
        rw [hd0]
        go_wp2_with fail
        go_roundw
        case rel =>
          refine ⟨k + 1, by omega, by go_num, fun i t' hi hti hd' => ?_, HM5.out⟩
          by_cases e : i = k
          · rw [e, HTK.out] at hti
            simp at hti
            rw [← hti] at hd'
            omega
          · exact HNO.out i t' (by omega) hti hd'
        case measure => simp [intOf]; omega
    · clear hno hM
      go_wp2_with fail
      go_ret
      refine ⟨true, rfl, ⟨fun _ i t hi hd => HNO.out i t ?_ hi hd, fun _ => rfl⟩, HM.out⟩
      have := (List.getElem?_eq_some_iff.1 hi).1
      omega
end Go.Proofs.YtefhgakcffhgaabDoor
