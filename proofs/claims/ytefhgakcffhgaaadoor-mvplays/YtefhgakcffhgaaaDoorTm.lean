/- The law MvPlays: sort.Strings. -/
import Derived.Test.YtefhgakcffhgaaaDoorTe
import Derived.Test.YtefhgakcffhgaaaDoorTl
namespace Go.Proofs.YtefhgakcffhgaaaDoor
open Go.RowKit Go.Lib Go.Maps Go.Sort Go.Shelf
set_option linter.unusedVariables false

theorem holdsK {w : World} {B g cap : Nat} {ks : List ByteArray} (h : w.ownsRow B 9 1 (.slice (some ⟨g, 0, none⟩) ks.length cap) ks.length (ks.map Value.string)) : Holds encStr w g 0 (ks.map fun k => k.data.toList).toArray := by
  intro j hj
  simp only [List.size_toArray, List.length_map] at hj
  have h1 := h.cells (g := g) rfl j (.string ks[j]) (by rw [List.getElem?_map, List.getElem?_eq_getElem hj]; rfl)
  rw [Go.WideShapes.add_plain] at h1
  obtain ⟨_, _, cur, hc⟩ := own_cellsV h (k := g) rfl
  refine ⟨?_, by simp [World.frozen?, hc]⟩
  rw [h1, getElem!_pos _ j (by simpa using hj)]
  simp
theorem grownBy_sortS {w : World} {g n : Nat} {os : Array Obj} (d : Array (List UInt8)) : w.grownBy (grow (putRow encStr (Sort.ahead w n) g 0 d) os) (some g) := by
  refine ⟨rfl, rfl, rfl, by simp, fun k hk hne => ?_⟩
  rw [heap_grow_old _ _ (by simpa using hk)]
  have : g ≠ k := fun e => hne (by rw [e])
  simp [putRow, mapBlock, Sort.ahead, Array.getElem?_modify, this]
theorem sortK_any : SortK := by
  intro B v ks w hrow hn hl
  by_cases h0 : ks = []
  · subst h0
    have hv : ∃ a cap, v = .slice a 0 cap ∧ cap ≤ maxLen := by
      rcases hrow.2 with ⟨rfl, _⟩ | ⟨g, cap, cur, rfl, _, _, _, h2, _⟩
      · exact ⟨none, 0, rfl, Nat.zero_le _⟩
      · exact ⟨_, cap, rfl, h2⟩
    obtain ⟨a, cap, rfl, hc⟩ := hv
    refine Calls.mono (Any.sort_Strings_none Tryd.sortStrings a cap w) ?_
    rintro e w' ⟨rfl, rfl⟩
    exact ⟨rfl, [], ⟨a, cap, rfl, Nat.zero_le _, hc, .inl rfl⟩, List.Perm.refl _, List.Pairwise.nil, Mod.refl _ _⟩
  · have hv : ∃ g cap, v = .slice (some ⟨g, 0, none⟩) ks.length cap ∧ ks.length ≤ cap ∧ cap ≤ maxLen := by
      rcases hrow.2 with ⟨rfl, h1⟩ | ⟨g, cap, cur, rfl, _, _, h1, h2, _⟩
      · exact absurd (List.eq_nil_of_length_eq_zero h1) h0
      · exact ⟨g, cap, rfl, h1, h2⟩
    obtain ⟨g, cap, rfl, hc1, hc2⟩ := hv
    have hg : g < w.heap.size := (own_cellsV hrow (k := g) rfl).2.1
    have hH := holdsK hrow
    have hcon := Any.sort_Strings Tryd.sortStrings g 0 cap (ks.map fun k => k.data.toList) w hH hg (by simp; omega)
    rw [List.length_map] at hcon
    refine Calls.mono hcon ?_
    rintro e w' ⟨rfl, n, os, rfl⟩
    obtain ⟨ts, hts⟩ : ∃ ts, ts = (ks.map fun k => k.data.toList).mergeSort fun x y => decide (x ≤ y) := ⟨_, rfl⟩
    have hp : ts.Perm (ks.map fun k => k.data.toList) := by rw [hts]; exact List.mergeSort_perm _ _
    have hnd : (ks.map fun k => k.data.toList).Nodup := by
      rw [List.nodup_iff_pairwise_ne, List.pairwise_map]
      exact List.Pairwise.imp (fun hne e => hne (bytes_inj e)) hn
    have hr : ts.Pairwise fun x y => compareBytes x y < 0 := by rw [hts]; exact ms_rising _ hnd
    rw [← hts]
    have hlen : ts.length = ks.length := by rw [hp.length_eq, List.length_map]
    refine ⟨rfl, ts.map fun l => ⟨l.toArray⟩, ?_, ?_, ?_, (Mod.refl _ w).grown (grownBy_sortS _) (fun x hx _ => by cases hx; rfl)⟩
    · have h0 : Holds encStr (Sort.ahead w n) g 0 (ks.map fun k => k.data.toList).toArray := hH
      have h1 : Holds encStr (putRow encStr (Sort.ahead w n) g 0 ts.toArray) g 0 ts.toArray := holds_putRow encStr (Sort.ahead w n) g 0 (ks.map fun k => k.data.toList).toArray ts.toArray h0 (by simp [hlen])
      have hgs : g < (putRow encStr (Sort.ahead w n) g 0 ts.toArray).heap.size := by simp; exact hg
      refine ⟨_, cap, by rw [List.length_map, hlen], by rw [List.length_map, hlen]; exact hc1, hc2, .inr ⟨g, 0, rfl, ?_, fun i k hi => ⟨[.string k], rfl, rfl, fun j x hx => ?_⟩⟩⟩
      · have := (grownBy_sortS (w := w) (g := g) (n := n) (os := os) ts.toArray).size
        omega
      · have hj : j = 0 := by have := (List.getElem?_eq_some_iff.1 hx).1; simp at this; exact this
        subst hj
        simp at hx
        subst hx
        rw [List.getElem?_map] at hi
        cases hti : ts[i]? with
        | none => rw [hti] at hi; cases hi
        | some l =>
          rw [hti] at hi
          simp at hi
          have hil := (List.getElem?_eq_some_iff.1 hti).1
          have h2 := (h1 i (by simpa using hil)).1
          rw [getElem!_pos _ i (by simpa using hil)] at h2
          simp only [List.getElem_toArray] at h2
          rw [(List.getElem?_eq_some_iff.1 hti).2] at h2
          rw [cell?_grow _ _ _ hgs, show 0 + i * 1 + 0 = 0 + i by omega, h2, ← hi]
    · have h2 := hp.map fun l : List UInt8 => (⟨l.toArray⟩ : ByteArray)
      rw [List.map_map] at h2
      have h3 : ks.map ((fun l : List UInt8 => (⟨l.toArray⟩ : ByteArray)) ∘ fun k => k.data.toList) = ks := by
        conv => rhs; rw [← List.map_id ks]
        refine List.map_congr_left (fun k _ => ?_)
        simp
      rw [h3] at h2
      exact h2
    · rw [List.pairwise_map]
      exact hr
end Go.Proofs.YtefhgakcffhgaaaDoor
