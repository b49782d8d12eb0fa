/- The row's closed facts. -/
import Derived.Test.YtiblcbdkiecbgaaGreatDoorRows
import Derived.JoinedOf
import Derived.KernelRfl
namespace Go.Proofs.YtiblcbdkiecbgaaGreatDoor
theorem rh_fn : Tryz.pinned.checked.prog.funcNamed Rows.manyLimitsRow.func = some 4 := by kernel_rfl
theorem rh_closed : joinedFacts Tryz.pinned.checked.prog 4 Tryz.f4 Rows.manyLimitsSpec Rows.manyLimitsRow = true := by kernel_rfl
theorem rh_inst : Func.isInstance Tryz.pinned.checked.prog Tryz.f4 Rows.manyLimitsRow.origin Rows.manyLimitsRow.targs := of_decide_eq_true (by kernel_rfl)
theorem rh_wrap : Func.isWrapper Tryz.pinned.checked.prog Tryz.f4 Rows.manyLimitsRow.wrapper Rows.manyLimitsRow.mainSum := by
  unfold Func.isWrapper
  rw [if_neg (of_decide_eq_false (by kernel_rfl))]
  exact ⟨rfl, rfl⟩
end Go.Proofs.YtiblcbdkiecbgaaGreatDoor
