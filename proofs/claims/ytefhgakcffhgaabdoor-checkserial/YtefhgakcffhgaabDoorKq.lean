/- A given history, opened. -/
import Derived.Test.YtefhgakcffhgaabDoorKa
import Derived.Lib.SmallJoins
import Derived.Deep.Strs
import Derived.OpenShut
namespace Go.Proofs.YtefhgakcffhgaabDoor
open Go.ChangeShapes Go.WideShapes Go.RowKit Go.Deep

section
variable {H : Type} {enc : TypeId × Value → H} {w : World} {base : Nat} {spare : Nat → Bool} {held : Bool}
theorem cellsOp : Tryd.prog.cellsOf 54 = 4 := by kernel_rfl
theorem cellsTx : Tryd.prog.cellsOf 25 = 3 := by kernel_rfl
theorem cellsI1 : Tryd.prog.cellsOf 3 = 1 := by kernel_rfl
theorem cellsS1 : Tryd.prog.cellsOf 9 = 1 := by kernel_rfl
theorem cellsB1 : Tryd.prog.cellsOf 4 = 1 := by kernel_rfl
theorem cellsO1 : Tryd.prog.cellsOf 23 = 1 := by kernel_rfl
theorem list_4 {α : Type} {l : List α} (h : l.length = 4) : ∃ a b c d, l = [a, b, c, d] := by
  match l, h with
  | [a, b, c, d], _ => exact ⟨a, b, c, d, rfl⟩
theorem list_3' {α : Type} {l : List α} (h : l.length = 3) : ∃ a b c, l = [a, b, c] := by
  match l, h with
  | [a, b, c], _ => exact ⟨a, b, c, rfl⟩
theorem open_opR {fuel : Nat} {cs : List Value} {x : DataW H × List MemPlace} (h : DataW.trod enc Tryd.prog w base spare held fuel 54 cs = some x) : ∃ d, opR d cs := by
  obtain ⟨y0, y1, y2, y3, n, rfl, hl, h0, h1, h2, h3⟩ := Go.Joins.trod_struct4 Tryd.underlying54 h
  rw [cellsOp] at hl
  obtain ⟨a, b, c, d, rfl⟩ := list_4 hl
  simp only [cellsI1, cellsS1, cellsB1, List.drop_zero, List.drop_succ_cons, List.take_succ_cons, List.take_zero] at h0 h1 h2 h3
  obtain ⟨k0, e0, rfl, w0⟩ := DataW.trod_int Tryd.underlying3 h0
  obtain ⟨k1, e1, rfl, w1⟩ := DataW.trod_string Tryd.underlying9 h1
  obtain ⟨k2, e2, rfl, w2⟩ := DataW.trod_string Tryd.underlying9 h2
  obtain ⟨k3, e3, rfl⟩ := DataW.trod_bool Tryd.underlying4 h3
  simp only [List.cons.injEq, and_true] at e0 e1 e2 e3
  subst e0 e1 e2 e3
  exact ⟨⟨k0, k1, k2, k3⟩, rfl, w1, w2⟩
theorem open_opsV {fuel : Nat} {v : Value} {x : DataW H × List MemPlace} (h : DataW.trod enc Tryd.prog w base spare held fuel 23 [v] = some x) : ∃ os, OpsV w w.heap.size v os :=
  open_slR (R := opR) Tryd.underlying23 cellsOp (by omega) (fun n cs x h => open_opR h) h
theorem open_txR {fuel : Nat} {cs : List Value} {x : DataW H × List MemPlace} (h : DataW.trod enc Tryd.prog w base spare held fuel 25 cs = some x) : ∃ d, txR w w.heap.size d cs := by
  obtain ⟨y0, y1, y2, n, rfl, hl, h0, h1, h2⟩ := trod_struct3 Tryd.underlying25 h
  rw [cellsTx] at hl
  obtain ⟨a, b, c, rfl⟩ := list_3' hl
  simp only [cellsI1, cellsO1, List.drop_zero, List.drop_succ_cons, List.take_succ_cons, List.take_zero] at h0 h1 h2
  obtain ⟨os, hos⟩ := open_opsV h0
  obtain ⟨k1, e1, rfl, w1⟩ := DataW.trod_int Tryd.underlying3 h1
  obtain ⟨k2, e2, rfl, w2⟩ := DataW.trod_int Tryd.underlying3 h2
  simp only [List.cons.injEq, and_true] at e1 e2
  subst e1 e2
  exact ⟨⟨os, k1, k2⟩, a, rfl, hos, bounds_i64 w1, bounds_i64 w2⟩
theorem open_txsV {fuel : Nat} {v : Value} {x : DataW H × List MemPlace} (h : DataW.trod enc Tryd.prog w base spare held fuel 22 [v] = some x) : ∃ ts, TxsV w w.heap.size v ts :=
  open_slR (R := txR w w.heap.size) Tryd.underlying22 cellsTx (by omega) (fun n cs x h => open_txR h) h
end
end Go.Proofs.YtefhgakcffhgaabDoor
