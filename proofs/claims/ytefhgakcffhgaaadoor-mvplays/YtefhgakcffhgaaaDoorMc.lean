/- Package mv: versions in rows of one's own; made, left. -/
import Derived.Test.YtefhgakcffhgaaaDoorMb
namespace Go.Proofs.YtefhgakcffhgaaaDoor
open Go.RowKit Go.Lib Go.Maps
set_option linter.unusedVariables false

def verCells (d : VerD) : List Value := [.int .i64 d.time, .string d.value, .bool d.gone]
def versCells : List VerD → List Value
  | [] => []
  | o :: os => verCells o ++ versCells os
theorem versCells_len : ∀ os, (versCells os).length = os.length * 3
  | [] => rfl
  | o :: os => by simp [versCells, verCells, versCells_len os]; omega
theorem versCells_app : ∀ a b, versCells (a ++ b) = versCells a ++ versCells b
  | [], b => by simp [versCells]
  | p :: a, b => by simp [versCells, versCells_app a b]
theorem versCells_one1 (d : VerD) : versCells [d] = verCells d := by simp [versCells]
theorem versCells_take : ∀ (os : List VerD) (i : Nat), versCells (os.take i) = (versCells os).take (i * 3)
  | [], i => by simp [versCells]
  | o :: os, 0 => by simp [versCells]
  | o :: os, i + 1 => by
    rw [List.take_succ_cons, versCells, versCells, versCells_take os i, show (i + 1) * 3 = (verCells o).length + i * 3 by simp [verCells]; omega, List.take_length_add_append]
theorem versCells_drop : ∀ (os : List VerD) (i : Nat), versCells (os.drop i) = (versCells os).drop (i * 3)
  | [], i => by simp [versCells]
  | o :: os, 0 => by simp [versCells]
  | o :: os, i + 1 => by
    rw [List.drop_succ_cons, versCells, versCells_drop os i, show (i + 1) * 3 = (verCells o).length + i * 3 by simp [verCells]; omega, List.drop_length_add_append]
theorem versCells_cell : ∀ (os : List VerD) (i : Nat) (o : VerD), os[i]? = some o → ∀ j x, (verCells o)[j]? = some x → (versCells os)[i * 3 + j]? = some x
  | [], i, o, h, _, _, _ => by simp at h
  | p :: os, 0, o, h, j, x, hx => by
    simp at h
    subst h
    have hj : j < (verCells p).length := (List.getElem?_eq_some_iff.1 hx).1
    rw [versCells, Nat.zero_mul, Nat.zero_add, List.getElem?_append_left hj]
    exact hx
  | p :: os, i + 1, o, h, j, x, hx => by
    have ih := versCells_cell os i o (by simpa using h) j x hx
    have hl : (verCells p).length = 3 := rfl
    rw [versCells, List.getElem?_append_right (by omega), hl, show (i + 1) * 3 + j - 3 = i * 3 + j by omega]
    exact ih
def okVer (d : VerD) : Prop := d.value.size ≤ maxLen
/-- Versions in a row of one's own. -/
def RowV (w : World) (B : Nat) (v : Value) (os : List VerD) : Prop := w.ownsRow B 162 3 v os.length (versCells os) ∧ ∀ o ∈ os, okVer o
theorem RowV.toV {w : World} {B L : Nat} {v : Value} {os : List VerD} (h : RowV w B v os) (hL : w.heap.size ≤ L) : VersV w L v os := by
  obtain ⟨⟨h1, h2⟩, h3⟩ := h
  rcases h2 with ⟨rfl, hn⟩ | ⟨g, cap, cur, rfl, q1, q2, q3, q4, q5, q6⟩
  · have : os = [] := List.eq_nil_of_length_eq_zero hn
    subst this
    exact SlR.nil _ _ _ _
  · have hc : w.ownsRow B 162 3 (.slice (some ⟨g, 0, none⟩) os.length cap) os.length (versCells os) := ⟨h1, .inr ⟨g, cap, cur, rfl, q1, q2, q3, q4, q5, q6⟩⟩
    have hcl := hc.cells (g := g) rfl
    have hgl : g < w.heap.size := (Array.getElem?_eq_some_iff.1 q2).1
    refine ⟨_, cap, rfl, q3, q4, .inr ⟨g, 0, rfl, by omega, fun i o hi => ⟨verCells o, ⟨rfl, h3 o (List.mem_of_getElem? hi)⟩, rfl, fun j x hx => ?_⟩⟩⟩
    have := hcl _ _ (versCells_cell os i o hi j x hx)
    rw [Go.WideShapes.add_plain, Nat.zero_add] at this
    rw [Nat.zero_add]
    exact this
theorem RowV.mod {G : Nat → Prop} {w w' : World} {B : Nat} {v : Value} {os : List VerD} (h : RowV w B v os) (hm : Mod G w w') (hG : ∀ k, v.ownBlock = some k → ¬ G k) : RowV w' B v os := ⟨own_mod h.1 hm (fun k _ _ e => hG k e), h.2⟩
theorem versCells_one : ∀ (os : List VerD), ∀ u ∈ versCells os, u.oneCell' = true
  | [], u, h => by simp [versCells] at h
  | o :: os, u, h => by
    rcases List.mem_append.1 h with h | h
    · simp [verCells] at h
      rcases h with rfl | rfl | rfl <;> rfl
    · exact versCells_one os u h
theorem own_cellsV {w : World} {B : Nat} {v : Value} {e : TypeId} {sz n : Nat} {xs : List Value} (ho : w.ownsRow B e sz v n xs) {k : Nat} (hk : v.ownBlock = some k) : B ≤ k ∧ k < w.heap.size ∧ ∃ cur, w.heap[k]? = some (.cells cur e (0, 0)) := by
  rcases ho.2 with ⟨rfl, _⟩ | ⟨g, cap, cur, rfl, q1, q2, _⟩
  · simp [Value.ownBlock] at hk
  · simp [Value.ownBlock] at hk
    subst hk
    exact ⟨q1, (Array.getElem?_eq_some_iff.1 q2).1, cur, q2⟩
theorem Tryd.info162 : (Tryd.prog.info? 162).map (fun i => (i.zero, i.size, i.bytes)) = some (some (.agg #[.int .i64 0, .string ByteArray.empty, .bool false]), 3, 32) := by kernel_rfl
/-- A pair's version. -/
def madeV (t : Int) (value : ByteArray) (gone : Bool) : VerD := if gone then ⟨t, ByteArray.empty, true⟩ else ⟨t, value, false⟩
theorem madeV_time (t : Int) (value : ByteArray) (gone : Bool) : (madeV t value gone).time = t := by unfold madeV; split <;> rfl
theorem made_any (t : Int) (key value : ByteArray) (gone : Bool) (w : World) :
    Calls Tryd.prog 92 #[.int .i64 t, .agg #[.string key, .string value, .bool gone]] w fun e w' => e = .returned (.agg #[.int .i64 (madeV t value gone).time, .string (madeV t value gone).value, .bool (madeV t value gone).gone]) ∧ Mod noBlock w w' := by
  have hM : Mod noBlock w ((w.alloc (.cells #[.string key, .string value, .bool gone] 84)).alloc (.cells #[.int .i64 0, .string ByteArray.empty, .bool false] 162)) := ((Mod.refl _ w).alloc _).alloc _
  cases gone with
  | false =>
    go_enter Tryd.func92, Tryd.ntmps92
    go_wp2_with fail
    refine bodyPost_ret (results_cell_row rfl _ _ (w.heap.size + 1) _ _ _ _ rfl (heap_alloc2_new w _ _) Tryd.underlying162 rfl (by kernel_rfl)) rfl ?_
    exact ⟨rfl, ((Mod.refl _ w).alloc _).alloc _⟩
  | true =>
    go_enter Tryd.func92, Tryd.ntmps92
    go_wp2_with fail
    refine bodyPost_ret (results_cell_row rfl _ _ (w.heap.size + 1) _ _ _ _ rfl (heap_alloc2_new w _ _) Tryd.underlying162 rfl (by kernel_rfl)) rfl ?_
    exact ⟨rfl, ((Mod.refl _ w).alloc _).alloc _⟩
end Go.Proofs.YtefhgakcffhgaaaDoor
