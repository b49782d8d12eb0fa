/- Package check: Serial, of histories that are too great. -/
import Derived.Test.YtefhgakcffhgaabDoorKj
namespace Go.Proofs.YtefhgakcffhgaabDoor
open Go.RowKit Go.Lib Go.Maps
set_option linter.unusedVariables false

theorem long_yes (a : Option Addr) (n cap : Nat) (f t : Int) (w : World) (hn : 40 < n) :
    Calls Tryd.prog 9 #[.agg #[.slice a n cap, .int .i64 f, .int .i64 t]] w fun e w' => e = .returned (.bool true) ∧ Mod noBlock w w' := by
  have hM : Mod noBlock w (w.alloc (.cells #[.slice a n cap, .int .i64 f, .int .i64 t] 25)) := (Mod.refl _ w).alloc _
  have hd : decide ((n : Int) > 40) = true := decide_eq_true (by omega)
  go_enter Tryd.func9, Tryd.ntmps9
  go_wp2_with fail
  go_ret
  exact ⟨retB (by first | exact hd | rfl), hM⟩
set_option maxRecDepth 100000 in
set_option maxHeartbeats 2000000 in
theorem indexTx_yes (L : Nat) (tv : Value) (ts : List TxD) (w : World) (ht : TxsV w L tv ts) (hL : L ≤ w.heap.size) (hex : ∃ t ∈ ts, 40 < t.ops.length) :
    Calls Tryd.prog 16 #[tv, .func (.func 9) #[] #[]] w fun e w' => (∃ k : Nat, k < ts.length ∧ e = .returned (.int .i64 k)) ∧ Mod noBlock w w' := by
  obtain ⟨a, cap, rfl, hc1, hc2⟩ := SlR.slice ht
  unfold maxLen at hc2
  have HT := Hid.mk' ht
  have HEX := Hid.mk' hex
  clear ht hex
  go_enter Tryd.func16, Tryd.ntmps16
  go_wp2_with fail
  go_loopw [8] (fun i wr => ∃ k : Nat, k ≤ ts.length ∧ i = .int .i64 k ∧ (∀ (j : Nat) t, j < k → ts[j]? = some t → t.ops.length ≤ 40) ∧ Mod noBlock w wr) (fun i _ => ts.length - (intOf i).toNat)
  case atStart => exact ⟨0, Nat.zero_le _, rfl, fun j t h => by omega, Mod.refl _ _⟩
  case round =>
    obtain ⟨k, hk, rfl, hno, hM⟩ := hrel
    have HNO := Hid.mk' hno
    clear hno
    by_cases hlt : k < ts.length
    · obtain ⟨t, ht⟩ : ∃ t, ts[k]? = some t := ⟨_, List.getElem?_eq_getElem hlt⟩
      obtain ⟨b, off, ov, rfl, hbL, hopv, hints, q0, q1, q2⟩ := HT.out.at ht
      obtain ⟨oa, ocap, rfl, _⟩ := SlR.slice hopv
      have q0' := hM.cell q0 id
      have q1' := hM.cell q1 id
      have q2' := hM.cell q2 id
      have hltI : (k : Int) < (ts.length : Int) := by omega
      have hlt0 : (0 : Int) ≤ (k : Int) := by omega
      have HM := Hid.mk' hM
      have HTT := Hid.mk' ht
      clear hopv hints q0 q1 q2 ht hM
      rcases Nat.lt_or_ge 40 t.ops.length with h40 | h40
      · have HLO : Hid (∀ wq, Calls Tryd.prog 9 #[.agg #[.slice oa t.ops.length ocap, .int .i64 t.frm, .int .i64 t.til]] wq fun e w' => e = .returned (.bool true) ∧ Mod noBlock wq w') := fun wq => long_yes _ _ _ _ _ wq h40
        go_wp2_with (first
          | (go_at_call 9; refine (HLO.out _).mono ?_; rintro e w5 ⟨rfl, hm5⟩)
          | fail)
        go_ret
        exact ⟨⟨k, hlt, rfl⟩, HM.out.trans hm5⟩
      · have HLO : Hid (∀ wq, Calls Tryd.prog 9 #[.agg #[.slice oa t.ops.length ocap, .int .i64 t.frm, .int .i64 t.til]] wq fun e w' => e = .returned (.bool false) ∧ Mod noBlock wq w') := fun wq => long_any _ _ _ _ _ wq h40
        go_wp2_with (first
          | (go_at_call 9; refine (HLO.out _).mono ?_; rintro e w5 ⟨rfl, hm5⟩)
          | fail)
        go_roundw
        case rel =>
          refine ⟨k + 1, by omega, by go_num, fun j t' hj ht' => ?_, HM.out.trans hm5⟩
          by_cases e : j = k
          · subst e
            have := HTT.out
            rw [this] at ht'
            cases ht'
            exact h40
          · exact HNO.out j t' (by omega) ht'
        case measure => simp [intOf]; omega
    · exfalso
      obtain ⟨t, hm, h40⟩ := HEX.out
      obtain ⟨j, hj, e⟩ := List.getElem_of_mem hm
      have := HNO.out j t (by omega) (by rw [List.getElem?_eq_getElem hj, e])
      omega
theorem containsTx_yes (L : Nat) (tv : Value) (ts : List TxD) (w : World) (ht : TxsV w L tv ts) (hL : L ≤ w.heap.size) (hex : ∃ t ∈ ts, 40 < t.ops.length) :
    Calls Tryd.prog 10 #[tv, .func (.func 9) #[] #[]] w fun e w' => e = .returned (.bool true) ∧ Mod noBlock w w' := by
  have HX := Hid.mk' (indexTx_yes L tv ts w ht hL hex)
  obtain ⟨a, cap, rfl, hc1, hc2⟩ := SlR.slice ht
  clear ht hex
  go_enter Tryd.func10, Tryd.ntmps10
  go_wp2_with fail
  refine HX.out.mono ?_
  rintro e w5 ⟨⟨k, hk, rfl⟩, hm5⟩
  have hd : decide ((k : Int) ≥ 0) = true := decide_eq_true (by omega)
  go_wp2_with fail
  go_ret
  exact ⟨retB (by first | exact hd | rfl), hm5⟩
set_option maxRecDepth 100000 in
set_option maxHeartbeats 2000000 in
theorem serial_great (L : Nat) (tv : Value) (ts : List TxD) (w : World) (ht : TxsV w L tv ts) (hL : L ≤ w.heap.size) (hg : 8 < ts.length ∨ ∃ t ∈ ts, 40 < t.ops.length) :
    Calls Tryd.prog 4 #[tv] w fun e w' => e = .returned (.tuple #[.slice none 0 0, .bool false, .iface 32 (.int .i64 4)]) ∧ Mod noBlock w w' := by
  obtain ⟨a, cap, rfl, hc1, hc2⟩ := SlR.slice ht
  rcases Nat.lt_or_ge 8 ts.length with h8 | h8
  · have hd : decide ((ts.length : Int) > 8) = true := decide_eq_true (by omega)
    clear ht hg
    go_enter Tryd.func4, Tryd.ntmps4
    go_wp2_with fail
    go_ret3
    exact ⟨rfl, Mod.refl _ _⟩
  · have hd : decide ((ts.length : Int) > 8) = false := decide_eq_false (by omega)
    have HC := Hid.mk' (containsTx_yes L _ ts w ht hL (hg.resolve_left (by omega)))
    clear ht hg
    go_enter Tryd.func4, Tryd.ntmps4
    go_wp2_with fail
    refine HC.out.mono ?_
    rintro e w1 ⟨rfl, hm1⟩
    go_wp2_with fail
    go_ret3
    exact ⟨rfl, hm1⟩
end Go.Proofs.YtefhgakcffhgaabDoor
