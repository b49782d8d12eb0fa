/- The document's asks in rows of one's own. -/
import Derived.Test.YtkoncehhpiegfaaGreatDoorQx
import Derived.Test.YtkoncehhpiegfaaGreatDoorQq
namespace Go.Proofs.YtkoncehhpiegfaaGreatDoor
open Go.RowKit Go.Lib Go.Maps
set_option linter.unusedVariables false

theorem toListQ_inj {a b : ByteArray} (h : a.toList = b.toList) : a = b := by
  have e : ∀ x : ByteArray, x.toList = x.data.toList := ByteArray.toList_eq
  rw [e, e] at h
  exact bytesQ_inj h
theorem keyQ_ne {a b : ByteArray} (h : a ≠ b) : (a.toList == b.toList) = false := by rw [beq_eq_false_iff_ne]; exact fun e => h (toListQ_inj e)
def askR0 (d : AskD) (cs : List Value) : Prop := cs = [.int .i64 d.tx, .string d.key, .int .i64 d.mode] ∧ okQ d.key
/-- Asks that lie where a slice says. -/
def AsksV (w : World) (L : Nat) (v : Value) (l : List AskD) : Prop := SlR w L 3 askR0 v l
theorem AsksV.at {w : World} {L : Nat} {a : Option Addr} {n cap : Nat} {l : List AskD} (h : AsksV w L (.slice a n cap) l) {i : Nat} {d : AskD} (hi : l[i]? = some d) :
    ∃ b off, a = some ⟨b, off, none⟩ ∧ b < L ∧ okQ d.key ∧ w.cell? ⟨b, off + i * 3, none⟩ = some (.int .i64 d.tx) ∧ w.cell? ⟨b, off + i * 3 + 1, none⟩ = some (.string d.key) ∧ w.cell? ⟨b, off + i * 3 + 2, none⟩ = some (.int .i64 d.mode) := by
  obtain ⟨b, off, cs, h1, h2, ⟨rfl, h3⟩, _, h5⟩ := SlR.at h hi
  exact ⟨b, off, h1, h2, h3, by have := h5 0 _ rfl; simpa using this, h5 1 _ rfl, h5 2 _ rfl⟩
def askCells (d : AskD) : List Value := [.int .i64 d.tx, .string d.key, .int .i64 d.mode]
def asksCells : List AskD → List Value
  | [] => []
  | o :: os => askCells o ++ asksCells os
theorem asksCells_len : ∀ os, (asksCells os).length = os.length * 3
  | [] => rfl
  | o :: os => by simp [asksCells, askCells, asksCells_len os]; omega
theorem asksCells_app : ∀ a b, asksCells (a ++ b) = asksCells a ++ asksCells b
  | [], b => by simp [asksCells]
  | p :: a, b => by simp [asksCells, asksCells_app a b]
theorem asksCells_one1 (d : AskD) : asksCells [d] = askCells d := by simp [asksCells]
theorem asksCells_take : ∀ (os : List AskD) (i : Nat), asksCells (os.take i) = (asksCells os).take (i * 3)
  | [], i => by simp [asksCells]
  | o :: os, 0 => by simp [asksCells]
  | o :: os, i + 1 => by
    rw [List.take_succ_cons, asksCells, asksCells, asksCells_take os i, show (i + 1) * 3 = (askCells o).length + i * 3 by simp [askCells]; omega, List.take_length_add_append]
theorem asksCells_drop : ∀ (os : List AskD) (i : Nat), asksCells (os.drop i) = (asksCells os).drop (i * 3)
  | [], i => by simp [asksCells]
  | o :: os, 0 => by simp [asksCells]
  | o :: os, i + 1 => by
    rw [List.drop_succ_cons, asksCells, asksCells_drop os i, show (i + 1) * 3 = (askCells o).length + i * 3 by simp [askCells]; omega, List.drop_length_add_append]
theorem asksCells_cell : ∀ (os : List AskD) (i : Nat) (o : AskD), os[i]? = some o → ∀ j x, (askCells o)[j]? = some x → (asksCells os)[i * 3 + j]? = some x
  | [], i, o, h, _, _, _ => by simp at h
  | p :: os, 0, o, h, j, x, hx => by
    simp at h
    subst h
    have hj : j < (askCells p).length := (List.getElem?_eq_some_iff.1 hx).1
    rw [asksCells, Nat.zero_mul, Nat.zero_add, List.getElem?_append_left hj]
    exact hx
  | p :: os, i + 1, o, h, j, x, hx => by
    have ih := asksCells_cell os i o (by simpa using h) j x hx
    have hl : (askCells p).length = 3 := rfl
    rw [asksCells, List.getElem?_append_right (by omega), hl, show (i + 1) * 3 + j - 3 = i * 3 + j by omega]
    exact ih
def okAsk (d : AskD) : Prop := okQ d.key
/-- Asks in a row of one's own. -/
def RowA (w : World) (B : Nat) (v : Value) (os : List AskD) : Prop := w.ownsRow B 37 3 v os.length (asksCells os) ∧ ∀ o ∈ os, okAsk o
theorem RowA.toV {w : World} {B L : Nat} {v : Value} {os : List AskD} (h : RowA w B v os) (hL : w.heap.size ≤ L) : AsksV w L v os := by
  obtain ⟨⟨h1, h2⟩, h3⟩ := h
  rcases h2 with ⟨rfl, hn⟩ | ⟨g, cap, cur, rfl, q1, q2, q3, q4, q5, q6⟩
  · have : os = [] := List.eq_nil_of_length_eq_zero hn
    subst this
    exact SlR.nil _ _ _ _
  · have hc : w.ownsRow B 37 3 (.slice (some ⟨g, 0, none⟩) os.length cap) os.length (asksCells os) := ⟨h1, .inr ⟨g, cap, cur, rfl, q1, q2, q3, q4, q5, q6⟩⟩
    have hcl := hc.cells (g := g) rfl
    have hgl : g < w.heap.size := (Array.getElem?_eq_some_iff.1 q2).1
    refine ⟨_, cap, rfl, q3, q4, .inr ⟨g, 0, rfl, by omega, fun i o hi => ⟨askCells o, ⟨rfl, h3 o (List.mem_of_getElem? hi)⟩, rfl, fun j x hx => ?_⟩⟩⟩
    have := hcl _ _ (asksCells_cell os i o hi j x hx)
    rw [Go.WideShapes.add_plain, Nat.zero_add] at this
    rw [Nat.zero_add]
    exact this
theorem RowA.mod {G : Nat → Prop} {w w' : World} {B : Nat} {v : Value} {os : List AskD} (h : RowA w B v os) (hm : Mod G w w') (hG : ∀ k, v.ownBlock = some k → ¬ G k) : RowA w' B v os := ⟨own_mod h.1 hm (fun k _ _ e => hG k e), h.2⟩
theorem asksCells_one : ∀ (os : List AskD), ∀ u ∈ asksCells os, u.oneCell' = true
  | [], u, h => by simp [asksCells] at h
  | o :: os, u, h => by
    rcases List.mem_append.1 h with h | h
    · simp [askCells] at h
      rcases h with rfl | rfl | rfl <;> rfl
    · exact asksCells_one os u h
theorem Tryz.info37 : (Tryz.prog.info? 37).map (fun i => (i.zero, i.size, i.bytes)) = some (some (.agg #[.int .i64 0, .string ByteArray.empty, .int .i64 0]), 3, 32) := by kernel_rfl
end Go.Proofs.YtkoncehhpiegfaaGreatDoor
