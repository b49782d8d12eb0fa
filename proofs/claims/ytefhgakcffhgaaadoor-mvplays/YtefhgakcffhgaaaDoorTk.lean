/- What is to be done with a store, as it is given, opened. -/
import Derived.Test.YtefhgakcffhgaaaDoorTj
import Derived.Lib.SmallJoins
namespace Go.Proofs.YtefhgakcffhgaaaDoor
open Go.RowKit Go.Lib Go.Maps Go.ChangeShapes Go.WideShapes Go.Deep
set_option linter.unusedVariables false
section
variable {H : Type} {enc : TypeId × Value → H} {w : World} {base : Nat} {spare : Nat → Bool} {held : Bool}
theorem list_5M {α : Type} {l : List α} (h : l.length = 5) : ∃ a b c d e, l = [a, b, c, d, e] := by
  match l, h with
  | [a, b, c, d, e], _ => exact ⟨a, b, c, d, e, rfl⟩
instance : Inhabited ActD := ⟨⟨0, 0, ByteArray.empty, ByteArray.empty, false⟩⟩
theorem cellsAct : Tryd.prog.cellsOf 99 = 5 := by kernel_rfl
theorem open_actR {fuel : Nat} {cs : List Value} {x : DataW H × List MemPlace} (h : DataW.trod enc Tryd.prog w base spare held fuel 99 cs = some x) : ∃ d, actR d cs := by
  obtain ⟨y0, y1, y2, n, rfl, hl, h0, h1, h2⟩ := trod_struct3 Tryd.underlying99 h
  rw [cellsAct] at hl
  obtain ⟨a, b, c, d, e, rfl⟩ := list_5M hl
  obtain ⟨p1, p2, p3, p4⟩ := cellsM
  simp only [p1, p2, List.drop_zero, List.drop_succ_cons, List.take_succ_cons, List.take_zero] at h0 h1 h2
  obtain ⟨z0, z1, z2, n', rfl, hl', g0, g1, g2⟩ := trod_struct3 Tryd.underlying84 h2
  simp only [p3, p4, List.drop_zero, List.drop_succ_cons, List.take_succ_cons, List.take_zero] at g0 g1 g2
  obtain ⟨k0, e0, rfl, w0⟩ := DataW.trod_int Tryd.underlying3 h0
  obtain ⟨k4, e4, rfl, w4⟩ := DataW.trod_int Tryd.underlying3 h1
  obtain ⟨k1, e1, rfl, w1⟩ := DataW.trod_string Tryd.underlying9 g0
  obtain ⟨k2, e2, rfl, w2⟩ := DataW.trod_string Tryd.underlying9 g1
  obtain ⟨k3, e3, rfl⟩ := DataW.trod_bool Tryd.underlying4 g2
  simp only [List.cons.injEq, and_true] at e0 e1 e2 e3 e4
  subst e0 e1 e2 e3 e4
  exact ⟨⟨k0, k4, k1, k2, k3⟩, rfl, w1⟩
theorem open_actsV {fuel : Nat} {v : Value} {x : DataW H × List MemPlace} (h : DataW.trod enc Tryd.prog w base spare held fuel 93 [v] = some x) : ∃ l, ActsV w w.heap.size v l :=
  open_slR (R := actR) Tryd.underlying93 cellsAct (by omega) (fun n cs x h => open_actR h) h
end
end Go.Proofs.YtefhgakcffhgaaaDoor
