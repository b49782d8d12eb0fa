/- What the laws ask of commands and errors: few, bare. -/
import Derived.Test.YtdbbgfbcbfbihaaDoorEr2
namespace Go.Proofs.YtdbbgfbcbfbihaaDoor
open Go.RowKit Go.Lib

theorem few_any (k t i : Int) (a : Option Addr) (n cap : Nat) (w : World) (hn : (n : Int) ≤ 9223372036854775807) :
    Calls Tryd.prog 12 #[.agg #[.int .i64 k, .int .i64 t, .int .i64 i, .slice a n cap]] w fun e w' => e = .returned (.bool (decide (n ≤ 40))) ∧ Mod noBlock w w' := by
  have hd : decide ((n : Int) ≤ 40) = decide (n ≤ 40) := decide_eq_decide.2 (by omega)
  go_enter Tryd.func12, Tryd.ntmps12
  go_wp2_with fail
  go_ret
  exact ⟨rfl, (Mod.refl _ w).alloc _⟩
theorem bare_ok (w : World) : Calls Tryd.prog 15 #[.nilIface, .int .i64 0] w fun ev w' => ev = .returned (.bool true) ∧ Mod noBlock w w' := bare_nil 0 w
theorem bare_er (e : Int) (w : World) (h : ET w) : Calls Tryd.prog 15 #[.iface 29 (.int .i64 e), .int .i64 e] w fun ev w' => ev = .returned (.bool true) ∧ Mod noBlock w w' := by
  refine (bare_errno e e w h).mono ?_
  rintro ev w' ⟨rfl, hm⟩
  exact ⟨by simp, hm⟩
end Go.Proofs.YtdbbgfbcbfbihaaDoor
