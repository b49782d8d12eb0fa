/- Package locks: claims in rows of one's own. -/
import Derived.Test.YtkoncehhpiegfaaGreatDoorQb2
namespace Go.Proofs.YtkoncehhpiegfaaGreatDoor
open Go.RowKit Go.Lib Go.Maps
set_option linter.unusedVariables false

def clmCells (d : ClmD) : List Value := [.int .i64 d.tx, .int .i64 d.mode]
def clmsCells : List ClmD → List Value
  | [] => []
  | o :: os => clmCells o ++ clmsCells os
theorem clmsCells_len : ∀ os, (clmsCells os).length = os.length * 2
  | [] => rfl
  | o :: os => by simp [clmsCells, clmCells, clmsCells_len os]; omega
theorem clmsCells_app : ∀ a b, clmsCells (a ++ b) = clmsCells a ++ clmsCells b
  | [], b => by simp [clmsCells]
  | p :: a, b => by simp [clmsCells, clmsCells_app a b]
theorem clmsCells_one1 (d : ClmD) : clmsCells [d] = clmCells d := by simp [clmsCells]
theorem clmsCells_take : ∀ (os : List ClmD) (i : Nat), clmsCells (os.take i) = (clmsCells os).take (i * 2)
  | [], i => by simp [clmsCells]
  | o :: os, 0 => by simp [clmsCells]
  | o :: os, i + 1 => by
    rw [List.take_succ_cons, clmsCells, clmsCells, clmsCells_take os i, show (i + 1) * 2 = (clmCells o).length + i * 2 by simp [clmCells]; omega, List.take_length_add_append]
theorem clmsCells_drop : ∀ (os : List ClmD) (i : Nat), clmsCells (os.drop i) = (clmsCells os).drop (i * 2)
  | [], i => by simp [clmsCells]
  | o :: os, 0 => by simp [clmsCells]
  | o :: os, i + 1 => by
    rw [List.drop_succ_cons, clmsCells, clmsCells_drop os i, show (i + 1) * 2 = (clmCells o).length + i * 2 by simp [clmCells]; omega, List.drop_length_add_append]
theorem clmsCells_cell : ∀ (os : List ClmD) (i : Nat) (o : ClmD), os[i]? = some o → ∀ j x, (clmCells o)[j]? = some x → (clmsCells os)[i * 2 + j]? = some x
  | [], i, o, h, _, _, _ => by simp at h
  | p :: os, 0, o, h, j, x, hx => by
    simp at h
    subst h
    have hj : j < (clmCells p).length := (List.getElem?_eq_some_iff.1 hx).1
    rw [clmsCells, Nat.zero_mul, Nat.zero_add, List.getElem?_append_left hj]
    exact hx
  | p :: os, i + 1, o, h, j, x, hx => by
    have ih := clmsCells_cell os i o (by simpa using h) j x hx
    have hl : (clmCells p).length = 2 := rfl
    rw [clmsCells, List.getElem?_append_right (by omega), hl, show (i + 1) * 2 + j - 2 = i * 2 + j by omega]
    exact ih
/-- Claims in a row of one's own. -/
def RowK (w : World) (B : Nat) (v : Value) (os : List ClmD) : Prop := w.ownsRow B 61 2 v os.length (clmsCells os)
theorem RowK.toV {w : World} {B L : Nat} {v : Value} {os : List ClmD} (h : RowK w B v os) (hL : w.heap.size ≤ L) : ClmsV w L v os := by
  obtain ⟨h1, h2⟩ := h
  rcases h2 with ⟨rfl, hn⟩ | ⟨g, cap, cur, rfl, q1, q2, q3, q4, q5, q6⟩
  · have : os = [] := List.eq_nil_of_length_eq_zero hn
    subst this
    exact SlR.nil _ _ _ _
  · have hc : w.ownsRow B 61 2 (.slice (some ⟨g, 0, none⟩) os.length cap) os.length (clmsCells os) := ⟨h1, .inr ⟨g, cap, cur, rfl, q1, q2, q3, q4, q5, q6⟩⟩
    have hcl := hc.cells (g := g) rfl
    have hgl : g < w.heap.size := (Array.getElem?_eq_some_iff.1 q2).1
    refine ⟨_, cap, rfl, q3, q4, .inr ⟨g, 0, rfl, by omega, fun i o hi => ⟨clmCells o, rfl, rfl, fun j x hx => ?_⟩⟩⟩
    have := hcl _ _ (clmsCells_cell os i o hi j x hx)
    rw [Go.WideShapes.add_plain, Nat.zero_add] at this
    rw [Nat.zero_add]
    exact this
theorem RowK.mod {G : Nat → Prop} {w w' : World} {B : Nat} {v : Value} {os : List ClmD} (h : RowK w B v os) (hm : Mod G w w') (hG : ∀ k, v.ownBlock = some k → ¬ G k) : RowK w' B v os := own_mod h hm (fun k _ _ e => hG k e)
theorem clmsCells_one : ∀ (os : List ClmD), ∀ u ∈ clmsCells os, u.oneCell' = true
  | [], u, h => by simp [clmsCells] at h
  | o :: os, u, h => by
    rcases List.mem_append.1 h with h | h
    · simp [clmCells] at h
      rcases h with rfl | rfl <;> rfl
    · exact clmsCells_one os u h
theorem own_cellsVQ {w : World} {B : Nat} {v : Value} {e : TypeId} {sz n : Nat} {xs : List Value} (ho : w.ownsRow B e sz v n xs) {k : Nat} (hk : v.ownBlock = some k) : B ≤ k ∧ k < w.heap.size ∧ ∃ cur, w.heap[k]? = some (.cells cur e (0, 0)) := by
  rcases ho.2 with ⟨rfl, _⟩ | ⟨g, cap, cur, rfl, q1, q2, _⟩
  · simp [Value.ownBlock] at hk
  · simp [Value.ownBlock] at hk
    subst hk
    exact ⟨q1, (Array.getElem?_eq_some_iff.1 q2).1, cur, q2⟩
theorem Tryz.info61 : (Tryz.prog.info? 61).map (fun i => (i.zero, i.size, i.bytes)) = some (some (.agg #[.int .i64 0, .int .i64 0]), 2, 16) := by kernel_rfl
end Go.Proofs.YtkoncehhpiegfaaGreatDoor
