/- The law WireNumbers, walked. -/
import Derived.Test.YtllockbjbjmglaaWalks
import Derived.Deep.RegionWith
import Derived.Laws.BytesArg
import Derived.BigQuiet
import Derived.Deep.QuietTactic
namespace Go.Proofs.Ytllockbjbjmglaa
open Go.RowKit

theorem bdrewN {B : Nat} (w : World) (n : Nat) : Below B w (w.drewN n) := ⟨rfl, rfl, rfl, Nat.le_refl _, fun _ _ => rfl⟩
theorem conv_own {w : World} {B : Nat} {v : Value} {xs : List Int} (h : w.ownsRow B 5 1 v xs.length (xs.map (Value.int .u8))) : ∀ w', Below w.heap.size w w' → (convert 22 9 v).run Try.prog w' = .ok (.string (strOfNums xs)) w' := by
  intro w' hb
  have h' := own_below h hb (fun k hk => (h.lt k hk).2)
  rcases h.2 with ⟨rfl, h0⟩ | ⟨g, cap, cur, rfl, _⟩
  · have : xs = [] := List.eq_nil_of_length_eq_zero h0
    subst this
    exact run_convert_bytes_nil (P := Try.prog) w' 22 5 Try.underlying22 Try.underlying5 0 0 9 Try.underlying9
  · refine run_convert_bytes_arg (P := Try.prog) w' 22 5 Try.underlying22 Try.underlying5 g 0 xs.length cap xs rfl ?_ 9 Try.underlying9
    intro i hi
    have := h'.cells (g := g) rfl i (.int .u8 (xs.getD i 0)) (by simp [List.getElem?_eq_getElem hi])
    have e : (⟨g, 0, none⟩ : Addr).add i = ⟨g, 0 + i, none⟩ := by unfold Addr.add; split <;> simp_all
    rw [← e]; exact this

set_option maxHeartbeats 400000 in
theorem walk_neg (a0 : Int) (w : World) (h : a0 < 0) :
    Calls Try.prog 3 #[.int .i64 a0] w fun e w' => e = .returned (.bool true) ∧ Below w.heap.size w w' := by
  have h1 : decide (a0 < 0) = true := by simpa using h
  go_enter Try.func3, Try.ntmps3
  go_wp2_with fail
  go_quiet (fail)
  go_wp2_with fail
  go_ret
  exact ⟨rfl, bdrewN _ _⟩
set_option maxHeartbeats 400000 in
theorem walk_big (a0 : Int) (w : World) (h : 1099511627776 < a0) :
    Calls Try.prog 3 #[.int .i64 a0] w fun e w' => e = .returned (.bool true) ∧ Below w.heap.size w w' := by
  have h0 : decide (a0 < 0) = false := by simp; omega
  have h1 : decide (1099511627776 < a0) = true := by simpa using h
  go_enter Try.func3, Try.ntmps3
  go_wp2_with fail
  go_quiet (fail)
  go_wp2_with fail
  go_ret
  exact ⟨rfl, bdrewN _ _⟩

theorem str_same (n : Nat) : Hid (((strOfNums (7 :: enc n)).toList == ((⟨#[7]⟩ : ByteArray) ++ strOfNums (enc n)).toList) = true) := by
  have h1 : (strOfNums (7 :: enc n)).toList = 7 :: (strOfNums (enc n)).data.toList := by rw [ByteArray.toList_eq, strOfNums_data, strOfNums_data]; rfl
  have h2 : ((⟨#[7]⟩ : ByteArray) ++ strOfNums (enc n)).toList = 7 :: (strOfNums (enc n)).data.toList := by
    rw [ByteArray.toList_eq]; simp [ByteArray.data_append]
  show _ = true
  rw [h1, h2]; simp
theorem bfin {w w1 w2 : World} {o : Obj} (hb1 : Below w.heap.size (w.drew.alloc o) w1) (hb2 : Below w1.heap.size w1 w2) : Below w.heap.size w w2 :=
  ((Below.refl _ _).drew.alloc (by simp) _).trans (hb1.trans (hb2.mono (by have := hb1.size; simp at this; omega)))

set_option maxHeartbeats 1000000 in
theorem walk_mid (n : Nat) (w : World) (h : (n : Int) ≤ 1099511627776) :
    Calls Try.prog 3 #[.int .i64 n] w fun e w' => e = .returned (.bool true) ∧ Below w.heap.size w w' := by
  have h0 : decide ((n : Int) < 0) = false := by simp
  have h1 : decide (1099511627776 < (n : Int)) = false := by simpa using h
  have hl := enc_len6 n h
  have hsz : ¬ 9223372036854775807 < 1 + (strOfNums (enc n)).size := by rw [strOfNums_size]; omega
  have HS := str_same n
  go_enter Try.func3, Try.ntmps3
  go_wp2_with fail
  go_region_with (first
    | (go_at_call 4; refine (put_any w.heap.size _ _ 1 [.int .u8 7] n h (by omega) (own_one w.drew _ 5) (by simp)).mono ?_; rintro e w1 ⟨v1, rfl, hown1, hb1⟩; have hc1 := conv_own (xs := 7 :: enc n) (by simpa [Nat.add_comm] using hown1); have hr1 := Below.refl w1.heap.size w1)
    | (go_at_call 5; refine (rput_any n _ h).mono ?_; rintro e w2 ⟨v2, rfl, hown2, hb2⟩; have hc2 := conv_own hown2; have hr2 := Below.refl w2.heap.size w2))
  all_goals go_wp2_with fail
  all_goals go_ret
  all_goals refine ⟨?_, ?_⟩
  all_goals first | exact congrArg (fun b => Ending.returned (.bool b)) (HS.out) | exact bfin hb1 hb2
end Go.Proofs.Ytllockbjbjmglaa
