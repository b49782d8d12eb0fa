/- What is to be put, as it is given, opened. -/
import Derived.Test.YtefhgakcffhgaaaDoorMt
import Derived.Lib.SmallJoins
namespace Go.Proofs.YtefhgakcffhgaaaDoor
open Go.RowKit Go.Lib Go.Maps Go.ChangeShapes Go.WideShapes Go.Deep
set_option linter.unusedVariables false
section
variable {H : Type} {enc : TypeId × Value → H} {w : World} {base : Nat} {spare : Nat → Bool} {held : Bool}
theorem list_4M {α : Type} {l : List α} (h : l.length = 4) : ∃ a b c d, l = [a, b, c, d] := by
  match l, h with
  | [a, b, c, d], _ => exact ⟨a, b, c, d, rfl⟩
instance : Inhabited SetD := ⟨⟨0, ByteArray.empty, ByteArray.empty, false⟩⟩
theorem open_setR {fuel : Nat} {cs : List Value} {x : DataW H × List MemPlace} (h : DataW.trod enc Tryd.prog w base spare held fuel 86 cs = some x) : ∃ d, setR d cs := by
  obtain ⟨y0, y1, n, rfl, hl, h0, h1⟩ := trod_struct2 Tryd.underlying86 h
  rw [cellsSet] at hl
  obtain ⟨a, b, c, d, rfl⟩ := list_4M hl
  obtain ⟨p1, p2, p3, p4⟩ := cellsM
  simp only [p1, p2, List.drop_zero, List.drop_succ_cons, List.take_succ_cons, List.take_zero] at h0 h1
  obtain ⟨z0, z1, z2, n', rfl, hl', g0, g1, g2⟩ := trod_struct3 Tryd.underlying84 h1
  simp only [p3, p4, List.drop_zero, List.drop_succ_cons, List.take_succ_cons, List.take_zero] at g0 g1 g2
  obtain ⟨k0, e0, rfl, w0⟩ := DataW.trod_int Tryd.underlying3 h0
  obtain ⟨k1, e1, rfl, w1⟩ := DataW.trod_string Tryd.underlying9 g0
  obtain ⟨k2, e2, rfl, w2⟩ := DataW.trod_string Tryd.underlying9 g1
  obtain ⟨k3, e3, rfl⟩ := DataW.trod_bool Tryd.underlying4 g2
  simp only [List.cons.injEq, and_true] at e0 e1 e2 e3
  subst e0 e1 e2 e3
  exact ⟨⟨k0, k1, k2, k3⟩, rfl, w1⟩
theorem open_setsV {fuel : Nat} {v : Value} {x : DataW H × List MemPlace} (h : DataW.trod enc Tryd.prog w base spare held fuel 78 [v] = some x) : ∃ l, SetsV w w.heap.size v l :=
  open_slR (R := setR) Tryd.underlying78 cellsSet (by omega) (fun n cs x h => open_setR h) h
end
end Go.Proofs.YtefhgakcffhgaaaDoor
