/- A given list of turns, opened. -/
import Derived.Test.YtefhgakcffhgaabXf
namespace Go.Proofs.Ytefhgakcffhgaab
open Go.ChangeShapes Go.WideShapes Go.RowKit Go.Deep

section
variable {H : Type} {enc : TypeId × Value → H} {w : World} {base : Nat} {spare : Nat → Bool} {held : Bool}
theorem cellsTurn : Try.prog.cellsOf 29 = 3 := by kernel_rfl
theorem cellsI : Try.prog.cellsOf 3 = 1 := by kernel_rfl
theorem list_3 {α : Type} {l : List α} (h : l.length = 3) : ∃ a b c, l = [a, b, c] := by
  match l, h with
  | [a, b, c], _ => exact ⟨a, b, c, rfl⟩
theorem wf_64 {x : Int} (h : (Lit.int .i64 x).wf = true) : int64 x := bounds_i64 h
theorem open_turnR {fuel : Nat} {cs : List Value} {x : DataW H × List MemPlace} (h : DataW.trod enc Try.prog w base spare held fuel 29 cs = some x) : ∃ d, turnR d cs := by
  obtain ⟨y0, y1, y2, n, rfl, hl, h0, h1, h2⟩ := trod_struct3 Try.underlying29 h
  rw [cellsTurn] at hl
  obtain ⟨a, b, c, rfl⟩ := list_3 hl
  simp only [cellsI, List.drop_zero, List.drop_succ_cons, List.take_succ_cons, List.take_zero] at h0 h1 h2
  obtain ⟨k0, e0, rfl, w0⟩ := DataW.trod_int Try.underlying3 h0
  obtain ⟨k1, e1, rfl, w1⟩ := DataW.trod_int Try.underlying3 h1
  obtain ⟨k2, e2, rfl, w2⟩ := DataW.trod_int Try.underlying3 h2
  simp only [List.cons.injEq, and_true] at e0 e1 e2
  subst e0 e1 e2
  exact ⟨⟨k0, k1, k2⟩, rfl, wf_64 w2⟩
theorem open_turnsR {fuel : Nat} {v : Value} {x : DataW H × List MemPlace} (h : DataW.trod enc Try.prog w base spare held fuel 22 [v] = some x) : ∃ xs, TurnsR w w.heap.size v xs :=
  open_slR (R := turnR) Try.underlying22 cellsTurn (by omega) (fun n cs x h => open_turnR h) h
end
end Go.Proofs.Ytefhgakcffhgaab
