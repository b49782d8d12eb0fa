/- The document's answer whether an order fits: places in the order. -/
import Derived.Test.YtefhgakcffhgaabDoorKl
namespace Go.Proofs.YtefhgakcffhgaabDoor
open Go.RowKit Go.Lib Go.Maps
set_option linter.unusedVariables false

/-- Where one stands, from c + 1 on; 0: nowhere. -/
def plc : List Nat → Nat → Nat → Nat
  | [], _, _ => 0
  | n :: l, x, c => if x = n then c + 1 else plc l x (c + 1)
theorem plc_in : ∀ (l : List Nat) (x c : Nat), plc l x c ≠ 0 ↔ x ∈ l
  | [], x, c => by simp [plc]
  | n :: l, x, c => by
    unfold plc
    split
    · rename_i e; simp [e]
    · rename_i e; rw [plc_in l x (c + 1)]; simp [e]
theorem plc_at : ∀ (l : List Nat) (x c : Nat), plc l x c ≠ 0 → ∃ p, plc l x c = c + p + 1 ∧ l[p]? = some x
  | [], x, c, h => by simp [plc] at h
  | n :: l, x, c, h => by
    unfold plc at h ⊢
    split
    · rename_i e; exact ⟨0, by omega, by simp [e]⟩
    · rename_i e
      rw [if_neg e] at h
      obtain ⟨p, h1, h2⟩ := plc_at l x (c + 1) h
      exact ⟨p + 1, by omega, by simpa using h2⟩
theorem plc_snoc : ∀ (l : List Nat) (n x c : Nat), n ∉ l → plc (l ++ [n]) x c = if x = n then c + l.length + 1 else plc l x c
  | [], n, x, c, _ => by simp [plc]
  | m :: l, n, x, c, h => by
    have ih := plc_snoc l n x (c + 1) (fun e => h (by simp [e]))
    have hmn : n ≠ m := fun e => h (by simp [e])
    rw [List.cons_append, plc, ih, plc]
    by_cases hx : x = m
    · rw [if_pos hx, if_pos hx, if_neg (fun e => hmn (by omega))]
    · rw [if_neg hx, if_neg hx]
      simp only [List.length_cons]
      split <;> omega
def rowT (l : List Nat) (m : Nat) : List Value := (List.range m).map fun (i : Nat) => .int .i64 (plc l i 0 : Nat)
theorem rowT_at (l : List Nat) {m i : Nat} (hi : i < m) : (rowT l m)[i]? = some (.int .i64 (plc l i 0 : Nat)) := by
  unfold rowT; rw [List.getElem?_map, List.getElem?_range hi]; rfl
theorem rowT_set {l : List Nat} {m n : Nat} (hn : n < m) (hl : n ∉ l) : (rowT l m).set n (.int .i64 ((l.length : Nat) + 1 : Int)) = rowT (l ++ [n]) m := by
  apply List.ext_getElem?
  intro i
  rw [List.getElem?_set]
  by_cases hi : i < m
  · rw [rowT_at _ hi, rowT_at _ hi, plc_snoc l n i 0 hl]
    have hlen : (rowT l m).length = m := by simp [rowT]
    by_cases e : n = i
    · subst e
      simp [hlen, hi]
    · rw [if_neg e, if_neg (fun q => e q.symm)]
  · have h1 : (rowT l m)[i]? = none := by simp [rowT]; omega
    have h2 : (rowT (l ++ [n]) m)[i]? = none := by simp [rowT]; omega
    rw [h1, h2, if_neg (by omega)]
theorem rowT_nil (m : Nat) : rowT [] m = List.replicate m (.int .i64 0) := by
  apply List.ext_getElem?
  intro i
  by_cases hi : i < m
  · rw [rowT_at _ hi, List.getElem?_replicate, if_pos hi]; rfl
  · have h1 : (rowT [] m)[i]? = none := by simp [rowT]; omega
    rw [h1, List.getElem?_replicate, if_neg hi]
theorem row_set {w : World} {L : Nat} {e : TypeId} {b n cap : Nat} {xs : List Value} (h : w.ownsRow L e 1 (.slice (some ⟨b, 0, none⟩) n cap) n xs) {i : Nat} (hi : i < n) (u : Value) : (w.setCell ⟨b, i, none⟩ u).ownsRow L e 1 (.slice (some ⟨b, 0, none⟩) n cap) n (xs.set i u) := by
  refine ⟨by rw [List.length_set]; exact h.1, ?_⟩
  rcases h.2 with ⟨h0, _⟩ | ⟨g, cap', cur, hv, h1, hg, h2, h3, h4, h5⟩
  · cases h0
  · simp only [Value.slice.injEq, Option.some.injEq, Addr.mk.injEq] at hv
    obtain ⟨⟨rfl, _⟩, _, rfl⟩ := hv
    refine .inr ⟨b, cap, cur.setIfInBounds i u, rfl, h1, ?_, h2, h3, by simpa using h4, ?_⟩
    · simp [World.setCell, Array.getElem?_modify, hg]
    · rw [Array.toList_setIfInBounds, List.take_set, h5]
/-- What the second check asks never is. -/
theorem never {ts : List TxD} {o : List Nat} {s s2 : Sta} (hg : goodR ts [] s o = some s2) {i k : Nat} {t u : TxD} (ht : ts[i]? = some t) (hu : ts[k]? = some u) (h1 : 0 ≤ t.til) (h2 : t.til < u.frm) (h3 : plc o k 0 ≠ 0) : ¬ plc o k 0 < plc o i 0 := fun h4 => by
  obtain ⟨p, e1, e2⟩ := plc_at o k 0 h3
  obtain ⟨q, e3, e4⟩ := plc_at o i 0 (by omega)
  exact goodR_order hg e2 e4 (by omega) ht hu ⟨h1, h2⟩
end Go.Proofs.YtefhgakcffhgaabDoor
