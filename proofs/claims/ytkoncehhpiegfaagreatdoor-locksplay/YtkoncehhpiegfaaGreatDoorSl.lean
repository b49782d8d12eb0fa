/- Lists in memory, whatever their elements are: 'SlR'; a given list, opened. No program. -/
import Derived.Test.YtkoncehhpiegfaaGreatDoorMem
import Derived.Deep.Strs
import Derived.Deep.Slices
import Derived.OpenShut
namespace Go.Proofs.YtkoncehhpiegfaaGreatDoor
open Go.ChangeShapes Go.WideShapes Go.RowKit Go.Deep

/-- The elements ds lie where the slice v says, sz cells each, in a block below L; R says what an element's cells are. -/
def SlR {α : Type} (w : World) (L sz : Nat) (R : α → List Value → Prop) (v : Value) (ds : List α) : Prop :=
  ∃ a cap, v = .slice a ds.length cap ∧ ds.length ≤ cap ∧ cap ≤ maxLen ∧
    (ds = [] ∨ ∃ b off, a = some ⟨b, off, none⟩ ∧ b < L ∧ ∀ (i : Nat) d, ds[i]? = some d → ∃ cs, R d cs ∧ cs.length = sz ∧ ∀ (j : Nat) x, cs[j]? = some x → w.cell? ⟨b, off + i * sz + j, none⟩ = some x)
theorem SlR.mod {α : Type} {G : Nat → Prop} {w w' : World} {L sz : Nat} {R R' : α → List Value → Prop} {v : Value} {ds : List α} (h : SlR w L sz R v ds) (hm : Mod G w w') (hG : ∀ k, k < L → ¬ G k) (hR : ∀ d cs, R d cs → R' d cs) : SlR w' L sz R' v ds := by
  obtain ⟨a, cap, h1, h2, h3, h4⟩ := h
  refine ⟨a, cap, h1, h2, h3, ?_⟩
  rcases h4 with h4 | ⟨b, off, h5, h6, h7⟩
  · exact .inl h4
  · refine .inr ⟨b, off, h5, h6, fun i d hi => ?_⟩
    obtain ⟨cs, k1, k2, k3⟩ := h7 i d hi
    exact ⟨cs, hR d cs k1, k2, fun j x hx => hm.cell (k3 j x hx) (hG b h6)⟩
theorem SlR.slice {α : Type} {w : World} {L sz : Nat} {R : α → List Value → Prop} {v : Value} {ds : List α} (h : SlR w L sz R v ds) : ∃ a cap, v = .slice a ds.length cap ∧ ds.length ≤ cap ∧ cap ≤ maxLen := by
  obtain ⟨a, cap, h1, h2, h3, _⟩ := h; exact ⟨a, cap, h1, h2, h3⟩
theorem SlR.at {α : Type} {w : World} {L sz : Nat} {R : α → List Value → Prop} {a : Option Addr} {n cap : Nat} {ds : List α} (h : SlR w L sz R (.slice a n cap) ds) {i : Nat} {d : α} (hi : ds[i]? = some d) :
    ∃ b off cs, a = some ⟨b, off, none⟩ ∧ b < L ∧ R d cs ∧ cs.length = sz ∧ ∀ (j : Nat) x, cs[j]? = some x → w.cell? ⟨b, off + i * sz + j, none⟩ = some x := by
  obtain ⟨a', cap', h1, _, _, h4⟩ := h
  simp only [Value.slice.injEq] at h1
  obtain ⟨rfl, _, _⟩ := h1
  rcases h4 with rfl | ⟨b, off, h5, h6, h7⟩
  · simp at hi
  · obtain ⟨cs, k1, k2, k3⟩ := h7 i d hi
    exact ⟨b, off, cs, h5, h6, k1, k2, k3⟩
theorem SlR.nil {α : Type} (w : World) (L sz : Nat) (R : α → List Value → Prop) : SlR w L sz R (.slice none 0 0) [] := ⟨none, 0, rfl, Nat.le_refl _, Nat.zero_le _, .inl rfl⟩

section
variable {H : Type} {enc : TypeId × Value → H} {P : Program} {w : World} {base : Nat} {spare : Nat → Bool} {held : Bool}
theorem sl_plain {a : Addr} {v : Value} (h : w.cell? (a.add 0) = some v) : ∃ b off, a = ⟨b, off, none⟩ := by
  obtain ⟨b, off, spot⟩ := a
  have hs : spot = none := by simpa [Addr.add] using World.cell?_spot h
  exact ⟨b, off, by rw [hs]⟩
theorem open_slR {α : Type} [Inhabited α] {tS tE : TypeId} {sz : Nat} {R : α → List Value → Prop} (hS : P.underlying tS = some (.slice tE)) (hc : P.cellsOf tE = sz) (hz : 0 < sz)
    (hE : ∀ (n : Nat) (cs : List Value) (x : DataW H × List MemPlace), DataW.trod enc P w base spare held n tE cs = some x → ∃ d, R d cs)
    {fuel : Nat} {v : Value} {x : DataW H × List MemPlace} (h : DataW.trod enc P w base spare held fuel tS [v] = some x) : ∃ ds, SlR w w.heap.size sz R v ds := by
  rcases open_slice hS h with ⟨hcs, rfl⟩ | ⟨a, len, cap, m, n, D, Pl, hcs, hb, hl, hm, hmm, rfl, hx⟩
  · simp only [List.cons.injEq, and_true] at hcs
    subst hcs
    exact ⟨[], SlR.nil _ _ _ _⟩
  · simp only [List.cons.injEq, and_true] at hcs
    subst hcs
    have hlm : len ≤ m := by rw [hmm]; split <;> omega
    rw [hc] at hx
    obtain ⟨f, hf⟩ := choose_lt (α := α) (p := fun i d => ∃ cs, R d cs ∧ cs.length = sz ∧ ∀ (j : Nat) y, cs[j]? = some y → w.cell? (a.add (i * sz + j)) = some y) (n := len) (fun i hi => by
      obtain ⟨cs', h1, h2⟩ := hx i (by omega)
      obtain ⟨d, hd⟩ := hE n cs' _ h2
      obtain ⟨_, hlen, h4⟩ := World.cells?_some h1
      refine ⟨d, cs', hd, hlen, fun j y hy => ?_⟩
      have hj : j < cs'.length := (List.getElem?_eq_some_iff.1 hy).1
      have := h4 j (by omega)
      rw [add_add] at this
      rw [this]
      simpa using hy)
    refine ⟨(List.range len).map f, some a, cap, by simp, by simpa using hl, hm, ?_⟩
    by_cases h0 : len = 0
    · subst h0; exact .inl rfl
    · right
      obtain ⟨cs0, _, hl0, hc0⟩ := hf 0 (by omega)
      obtain ⟨y0, hy0⟩ : ∃ y, cs0[0]? = some y := ⟨_, List.getElem?_eq_getElem (by omega)⟩
      have hy := hc0 0 y0 hy0
      rw [Nat.zero_mul, Nat.zero_add] at hy
      obtain ⟨b, off, rfl⟩ := sl_plain hy
      refine ⟨b, off, rfl, World.block_lt_of_cell? w _ (by rw [add_plain] at hy; exact hy), fun i d hd => ?_⟩
      have hi : i < len := by
        have := (List.getElem?_eq_some_iff.1 hd).1
        simpa using this
      have hdf : d = f i := by
        rw [List.getElem?_map, List.getElem?_range hi] at hd
        simpa using hd.symm
      subst hdf
      obtain ⟨cs, k1, k2, k3⟩ := hf i hi
      refine ⟨cs, k1, k2, fun j y hj => ?_⟩
      have := k3 j y hj
      rw [add_plain] at this
      rw [Nat.add_assoc]; exact this
end
end Go.Proofs.YtkoncehhpiegfaaGreatDoor
