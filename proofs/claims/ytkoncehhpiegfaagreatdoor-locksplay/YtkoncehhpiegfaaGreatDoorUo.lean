/- Package locks: Lock, where it refuses. -/
import Derived.Test.YtkoncehhpiegfaaGreatDoorUn
namespace Go.Proofs.YtkoncehhpiegfaaGreatDoor
open Go.RowKit Go.Lib Go.Maps
set_option linter.unusedVariables false

set_option maxRecDepth 100000 in
set_option maxHeartbeats 4000000 in
theorem lock_arg (v : Value) (t : Int) (name : ByteArray) (m : Int) (w : World) (h1 : m ≠ 1) (h2 : m ≠ 2) :
    Calls Tryz.prog 5 #[v, .int .i64 t, .string name, .int .i64 m] w fun e w' => e = .returned (.tuple #[.bool false, .slice none 0 0, errQ 1]) ∧ w' = w := by
  have hmk := makeErrQ
  have e1 : (m != 1) = true := by simpa using h1
  have e2 : (m != 2) = true := by simpa using h2
  go_enter Tryz.func5, Tryz.ntmps5
  go_wp2_with fail
  go_ret3
  exact ⟨rfl, rfl⟩
set_option maxRecDepth 100000 in
set_option maxHeartbeats 4000000 in
theorem lock_long (v : Value) (t : Int) (name : ByteArray) (m : Int) (w : World) (h1 : m = 1 ∨ m = 2) (h2 : 20 < name.size) (h3 : okQ name) :
    Calls Tryz.prog 5 #[v, .int .i64 t, .string name, .int .i64 m] w fun e w' => e = .returned (.tuple #[.bool false, .slice none 0 0, errQ 4]) ∧ w' = w := by
  have hmk := makeErrQ
  have hd13 : (m != 1 && m != 2) = false := by rcases h1 with rfl | rfl <;> rfl
  have hg : decide ((name.size : Int) > 20) = true := decide_eq_true (by omega)
  unfold okQ maxLen at h3
  rcases h1 with rfl | rfl
  all_goals
    go_enter Tryz.func5, Tryz.ntmps5
    go_wp2_with fail
    go_ret3
    exact ⟨rfl, rfl⟩
end Go.Proofs.YtkoncehhpiegfaaGreatDoor
