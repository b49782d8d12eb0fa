import Derived.Test.YtmaiggbnceejiaaGreatDoorL37
import Derived.Lib.SmallJoins
import Derived.Test.YtmaiggbnceejiaaGreatDoorRows
import Derived.ProofKit
import Derived.OpenShut
import Derived.ChangeOld
import Derived.ChangeSame
import Derived.ChangeVars
import Derived.JoinedOf
import Derived.LaidLaws
import Derived.LaidHandle
import Derived.Deep.DeepHandedRow
import Derived.Deep.DeepWitnessRowRef
import Derived.SevenTiedAt
set_option linter.unusedVariables false
set_option maxRecDepth 100000
set_option maxHeartbeats 16000000
namespace Go.Proofs.YtmaiggbnceejiaaGreatDoor
open Go.ChangeShapes Go.WideShapes Go.ChangeAt Go.RowKit
open Go.Deep Go.Joins
section
variable {H : Type}{enc : TypeId × Value → H}{w : World}{base : Nat}{spare : Nat → Bool}{held : Bool}
theorem list_4Y {α : Type}{l : List α}(h : l.length = 4) : ∃ a b c d, l = [a, b, c, d] := by
  match l, h with
  | [a, b, c, d], _ => exact ⟨a, b, c, d, rfl⟩
theorem cellsY : Tryz.prog.cellsOf 34 = 4 ∧ Tryz.prog.cellsOf 3 = 1 ∧ Tryz.prog.cellsOf 9 = 1 := ⟨by kernel_rfl, by kernel_rfl, by kernel_rfl⟩
theorem open_actR {fuel : Nat}{cs : List Value}{x : DataW H × List MemPlace}(h : DataW.trod enc Tryz.prog w base spare held fuel 34 cs = some x) : ∃ d, actR d cs := by
  obtain ⟨y0, y1, y2, y3, n, rfl, hl, h0, h1, h2, h3⟩ := trod_struct4 Tryz.underlying34 h
  obtain ⟨p1, p2, p3⟩ := cellsY
  rw [p1]at hl
  obtain ⟨a, b, c, d, rfl⟩ := list_4Y hl
  simp only [p2, p3, List.drop_zero, List.drop_succ_cons, List.take_succ_cons, List.take_zero]at h0 h1 h2 h3
  obtain ⟨k0, e0, rfl, w0⟩ := DataW.trod_int Tryz.underlying3 h0
  obtain ⟨k1, e1, rfl, w1⟩ := DataW.trod_int Tryz.underlying3 h1
  obtain ⟨k2, e2, rfl, w2⟩ := DataW.trod_int Tryz.underlying3 h2
  obtain ⟨k3, e3, rfl, w3⟩ := DataW.trod_string Tryz.underlying9 h3
  simp only [List.cons.injEq, and_true]at e0 e1 e2 e3
  subst e0 e1 e2 e3
  exact ⟨⟨k0, k1, k2, k3⟩, rfl, w3⟩
instance : Inhabited ActD := ⟨⟨0, 0, 0, ByteArray.empty⟩⟩
theorem open_actsV {fuel : Nat}{v : Value}{x : DataW H × List MemPlace}(h : DataW.trod enc Tryz.prog w base spare held fuel 22 [v] = some x) : ∃ xs, ActsV w w.heap.size v xs :=
  open_slR (R := actR) Tryz.underlying22 cellsY.1 (by omega) (λn cs x h => open_actR h) h
theorem bytes_eqY {a : ByteArray}{l : List UInt8}(h : a.data.toList = l) : a = ⟨l.toArray⟩ := by
  obtain ⟨d⟩ := a
  simp at h
  rw [← h]
theorem open_names {fuel : Nat}{v : Value}{p : List MemPlace}(h : DataW.trod enc Tryz.prog w base spare held fuel 47 [v] = some (.slice [.lit (.string [97]), .lit (.string [98]), .lit (.string [99]), .lit (.string [100])] [], p)) : ∃ nb no cap, nb < w.heap.size ∧ v = .slice (some ⟨nb, no, none⟩) 4 cap ∧ ∀ i, i < 4 → w.cell? ⟨nb, no + i, none⟩ = some (.string (nameK i)) := by
  rcases open_slice Tryz.underlying47 h with⟨_, hx⟩ | ⟨a, len, cap, m, n, D, Pl, hcs, hb, hl, hm, hmm, hx, hel⟩
  . cases hx
  . simp only [List.cons.injEq, and_true]at hcs
    subst hcs
    simp only [Prod.mk.injEq, DataW.slice.injEq]at hx
    obtain ⟨⟨hD, _⟩, _⟩ := hx
    have hlen : len = 4 := by have := congrArg List.length hD; simpa using this.symm
    subst hlen
    have hlm : 4 ≤ m := by rw [hmm]; split <;> omega
    simp only [cellsY.2.2]at hel
    have key : ∀ i, i < 4 → ∃ s : ByteArray, w.cell? (a.add i) = some (.string s) ∧ D i = .lit (.string s.data.toList) := λi hi => by
      obtain ⟨cs', h1, h2⟩ := hel i (by omega)
      obtain ⟨s, rfl, h4, _⟩ := DataW.trod_string Tryz.underlying9 h2
      obtain ⟨_, _, h5⟩ := World.cells?_some h1
      have := h5 0 (by omega)
      rw [Nat.mul_one]at this
      simp only [Prod.mk.injEq]at h4
      refine ⟨s, ?_, h4.1⟩
      rw [add_add, Nat.add_zero]at this
      simpa using this
    have hD' : [D 0, D 1, D 2, D 3] = [.lit (.string [97]), .lit (.string [98]), .lit (.string [99]), .lit (.string [100])] := hD.symm
    simp only [List.cons.injEq, and_true]at hD'
    obtain ⟨s0, c0, d0⟩ := key 0 (by omega)
    obtain ⟨s1, c1, d1⟩ := key 1 (by omega)
    obtain ⟨s2, c2, d2⟩ := key 2 (by omega)
    obtain ⟨s3, c3, d3⟩ := key 3 (by omega)
    obtain ⟨e0, e1, e2, e3⟩ := hD'
    rw [d0]at e0
    rw [d1]at e1
    rw [d2]at e2
    rw [d3]at e3
    simp only [DataW.lit.injEq, Lit.string.injEq]at e0 e1 e2 e3
    obtain ⟨b, off, rfl⟩ := sl_plain c0
    rw [bytes_eqY e0]at c0
    rw [bytes_eqY e1]at c1
    rw [bytes_eqY e2]at c2
    rw [bytes_eqY e3]at c3
    rw [Go.WideShapes.add_plain]at c0 c1 c2 c3
    refine ⟨b, off, cap, World.block_lt_of_cell? w _ c0, rfl, λi hi => ?_⟩
    rcases (show i = 0 ∨ i = 1 ∨ i = 2 ∨ i = 3 by omega)with rfl | rfl | rfl | rfl
    . exact c0
    . exact c1
    . exact c2
    . exact c3
end
theorem own : ownKnob Tryz.prog.godebug = none := by kernel_rfl
theorem laidOut : laidOutB Tryz.prog = true := by kernel_rfl
theorem Tryz.et : Tryz.prog.globalNamed "errors.errorType" = some 1 := by kernel_rfl
theorem Tryz.nmV : Tryz.prog.globalNamed "chainmail/chainmailkeep.names" = some 0 := by kernel_rfl
theorem Tryz.nmT : (Tryz.prog.globals[0]?).map (·.type) = some 47 := by kernel_rfl
theorem Tryz.rt : (Tryz.prog.cutTypes.find? (·.1 == "internal/reflectlite.rtype")).map (·.2) = some 236 := by kernel_rfl
theorem Tryz.oneRow : ((List.range 302).filter λt => Tryz.prog.rowNamed t [101, 114, 114, 111, 114]) = [40] := by kernel_rfl
theorem Tryz.size : Tryz.prog.types.size = 302 := by kernel_rfl
def laidL : List (String × DataW Unit) := [("errors.errorType", Rows.laid_errors_errorType), ("chainmail/chainmailkeep.names", Rows.laid_chainmail_chainmailkeep_names)]
theorem handle_of_laid {W : World}(h : laidMetH Tryz.prog laidL W) : ET W ∧ NMo W W.heap.size ∧ 1 < W.heap.size := by
  have h' : laidMet Tryz.prog [("chainmail/chainmailkeep.names", Rows.laid_chainmail_chainmailkeep_names)] W ∧ handlesMet Tryz.prog [("errors.errorType", Rows.laid_errors_errorType)] W := h
  obtain ⟨name, u, ty, e1, e2, e3, e4, e5⟩ := h'.2 _ (List.mem_singleton.2 rfl)
  have en : name = [101, 114, 114, 111, 114] := (Option.some.inj e1).symm
  subst en
  obtain rfl := Option.some.inj (Tryz.rt.symm.trans e2)
  have hm : ty ∈ (List.range 302).filter λt => Tryz.prog.rowNamed t [101, 114, 114, 111, 114] := List.mem_filter.2 ⟨List.mem_range.2 (by rw [← Tryz.size]; exact e3), e4⟩
  rw [Tryz.oneRow]at hm
  obtain rfl := List.mem_singleton.1 hm
  have hh : typeHandle Tryz.prog 40 = .pointer (some ⟨2, 40, none⟩) := by kernel_rfl
  rw [hh]at e5
  have hET : ET W := (by simpa using World.var?_cell Tryz.et e5 0 : W.cell? ⟨1, 0, none⟩ = _)
  refine ⟨hET, ?_, World.block_lt_of_cell? W _ hET⟩
  obtain ⟨ps, ⟨g, t, cs, fuel, p, q, f1, f2, f3, f4, _⟩, _⟩ := h'.1
  obtain rfl := Option.some.inj (Tryz.nmV.symm.trans f1)
  obtain rfl := Option.some.inj (Tryz.nmT.symm.trans f2)
  have hc1 : ∃ v, cs.toList = [v] := by
    rcases Go.Deep.open_slice Tryz.underlying47 f4 with⟨hcs, _⟩ | ⟨a, len, cap, m, n, D, Pl, hcs, _⟩
    . exact ⟨_, hcs⟩
    . exact ⟨_, hcs⟩
  obtain ⟨v, hv⟩ := hc1
  rw [hv]at f4
  obtain ⟨nb, no, cap, g1, rfl, g3⟩ := open_names f4
  have hcell : W.cell? ⟨0, 0, none⟩ = some (.slice (some ⟨nb, no, none⟩) 4 cap) := by
    rw [World.var?_cell Tryz.nmV f3 0, ← Array.getElem?_toList, hv]; rfl
  exact ⟨nb, no, cap, World.block_lt_of_cell? W _ hcell, g1, hcell, g3⟩
noncomputable def laidWorld (os : Os) : World :=
  let w0 := World.holding Tryz.prog os ⟨#[], #[], []⟩
  { w0 with heap := (((w0.heap.modify 0 fun
      | .cells _ t frozen => .cells #[.slice (some ⟨w0.heap.size, 0, none⟩) 4 4] t frozen
      | o => o).modify 1 fun
      | .cells _ t frozen => .cells #[.iface 236 (.agg #[.pointer (some ⟨2, 40, none⟩)])] t frozen
      | o => o).push (.cells #[.string ⟨#[97]⟩, .string ⟨#[98]⟩, .string ⟨#[99]⟩, .string ⟨#[100]⟩] 9 (0, 0))) }
theorem laidWorld_met (os : Os) (args : Array Value) : laidMetH Tryz.prog laidL ((laidWorld os).forCall (λ_ _ => 0) ⟨#[], args, []⟩).memory :=
  laidMetH_of_parts (laidMet_of_run' 8 (by kernel_rfl) (by kernel_rfl)) (by kernel_rfl)
end Go.Proofs.YtmaiggbnceejiaaGreatDoor
