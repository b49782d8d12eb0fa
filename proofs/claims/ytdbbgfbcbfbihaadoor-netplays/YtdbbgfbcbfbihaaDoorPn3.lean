/- The document's writer (package chainmailref): a command. -/
import Derived.Test.YtdbbgfbcbfbihaaDoorPn2
namespace Go.Proofs.YtdbbgfbcbfbihaaDoor
open Go.RowKit Go.Lib

/-- Pairs that lie where the slice v says, in a block below L. -/
def PairsR (w : World) (L : Nat) (v : Value) (ps : List PairD) : Prop :=
  ∃ a cap, v = .slice a ps.length cap ∧ ps.length ≤ cap ∧ cap ≤ maxLen ∧
    (ps = [] ∨ ∃ b off, a = some ⟨b, off, none⟩ ∧ b < L ∧ ∀ j p, ps[j]? = some p → w.cell? ⟨b, off + j * 3, none⟩ = some (.string p.key) ∧ w.cell? ⟨b, off + j * 3 + 1, none⟩ = some (.string p.val) ∧ w.cell? ⟨b, off + j * 3 + 2, none⟩ = some (.bool p.gone))
theorem PairsR.mod {G : Nat → Prop} {w w' : World} {L : Nat} {v : Value} {ps : List PairD} (h : PairsR w L v ps) (hm : Mod G w w') (hG : ∀ k, k < L → ¬ G k) : PairsR w' L v ps := by
  obtain ⟨a, cap, h1, h2, h3, h4⟩ := h
  refine ⟨a, cap, h1, h2, h3, ?_⟩
  rcases h4 with h4 | ⟨b, off, h5, h6, h7⟩
  · exact .inl h4
  · exact .inr ⟨b, off, h5, h6, fun j p hp => ⟨hm.cell (h7 j p hp).1 (hG b h6), hm.cell (h7 j p hp).2.1 (hG b h6), hm.cell (h7 j p hp).2.2 (hG b h6)⟩⟩
theorem flat3 : ∀ (ps : List PairD) (j : Nat) (p : PairD), ps[j]? = some p → (ps.flatMap pairCells)[j * 3]? = some (.string p.key) ∧ (ps.flatMap pairCells)[j * 3 + 1]? = some (.string p.val) ∧ (ps.flatMap pairCells)[j * 3 + 2]? = some (.bool p.gone)
  | [], j, p, h => by simp at h
  | q :: ps, 0, p, h => by simp at h; subst h; simp [pairCells]
  | q :: ps, j + 1, p, h => by
    have ih := flat3 ps j p (by simpa using h)
    have e : ∀ i, ((q :: ps).flatMap pairCells)[i + 3]? = (ps.flatMap pairCells)[i]? := fun i => by
      simp [pairCells]
    rw [show (j + 1) * 3 = j * 3 + 3 by omega, show j * 3 + 3 + 1 = j * 3 + 1 + 3 by omega, show j * 3 + 3 + 2 = j * 3 + 2 + 3 by omega, e, e, e]
    exact ih
theorem PairsR.of_own {w : World} {B L : Nat} {v : Value} {ps : List PairD} (h : w.ownsRow B 84 3 v ps.length (ps.flatMap pairCells)) (hL : w.heap.size ≤ L) : PairsR w L v ps := by
  rcases h.2 with ⟨rfl, h0⟩ | ⟨g, cap, cur, rfl, _, hg, h1, h2, _, _⟩
  · have : ps = [] := List.eq_nil_of_length_eq_zero h0
    subst this
    exact ⟨none, 0, rfl, Nat.le_refl _, Nat.zero_le _, .inl rfl⟩
  · have hc := h.cells (g := g) rfl
    have add0 : ∀ j, (⟨g, 0, none⟩ : Addr).add j = ⟨g, 0 + j, none⟩ := fun j => by unfold Addr.add; split <;> simp_all
    refine ⟨_, cap, rfl, h1, h2, .inr ⟨g, 0, rfl, by have := (Array.getElem?_eq_some_iff.1 hg).1; omega, fun j p hp => ?_⟩⟩
    obtain ⟨f1, f2, f3⟩ := flat3 ps j p hp
    refine ⟨?_, ?_, ?_⟩
    · have := hc _ _ f1; rw [add0] at this; exact this
    · have := hc _ _ f2; rw [add0] at this; rw [Nat.add_assoc]; exact this
    · have := hc _ _ f3; rw [add0] at this; rw [Nat.add_assoc]; exact this

def wpair (p : PairD) (s : List Int × Int) : List Int × Int :=
  if p.gone then wnum 1 (wtext p.key 20 s) else wtext p.val 40 (wnum 0 (wtext p.key 20 s))
def wpairs : List PairD → List Int × Int → List Int × Int
  | [], s => s
  | p :: ps, s => wpairs ps (wpair p s)
theorem wpairs_snoc : ∀ ps p s, wpairs (ps ++ [p]) s = wpair p (wpairs ps s)
  | [], _, _ => rfl
  | q :: ps, p, s => by simp [wpairs, wpairs_snoc ps p]
def psize : List PairD → Nat
  | [] => 0
  | p :: ps => 18 + p.key.size + p.val.size + psize ps
theorem psize_snoc : ∀ ps p, psize (ps ++ [p]) = psize ps + (18 + p.key.size + p.val.size)
  | [], p => by simp [psize]
  | q :: ps, p => by simp [psize, psize_snoc ps p]; omega
theorem psize_take (ps : List PairD) (k : Nat) (p : PairD) (h : ps[k]? = some p) : psize (ps.take k) + (18 + p.key.size + p.val.size) ≤ psize ps := by
  induction ps generalizing k with
  | nil => simp at h
  | cons q ps ih =>
    cases k with
    | zero => simp at h; subst h; simp [psize]
    | succ k => have := ih k (by simpa using h); simp [psize]; omega
theorem wpair_len (p : PairD) (s : List Int × Int) : (wpair p s).1.length ≤ s.1.length + (18 + p.key.size + p.val.size) := by
  unfold wpair
  have h1 := wtext_len p.key 20 s
  have h2 := wnum_len 1 (wtext p.key 20 s)
  have h3 := wnum_len 0 (wtext p.key 20 s)
  have h4 := wtext_len p.val 40 (wnum 0 (wtext p.key 20 s))
  split <;> omega
theorem wpairs_len (ps : List PairD) (s : List Int × Int) : (wpairs ps s).1.length ≤ s.1.length + psize ps := by
  induction ps generalizing s with
  | nil => simp [wpairs, psize]
  | cons p ps ih => have := ih (wpair p s); have := wpair_len p s; simp only [wpairs, psize]; omega
def whead (c : CmdD) (s : List Int × Int) : List Int × Int :=
  let s1 : List Int × Int := if c.kind < 1 ∨ 4 < c.kind then (s.1, 1) else s
  let s2 : List Int × Int := if 20 < c.writes.length then (s1.1, 4) else s1
  wnum c.writes.length (wnum c.time (wnum c.tx (wnum (c.kind % 8) s2)))
def wcmd (c : CmdD) (s : List Int × Int) : List Int × Int := wpairs c.writes (whead c s)
theorem whead_len (c : CmdD) (s : List Int × Int) : (whead c s).1.length ≤ s.1.length + 24 := by
  unfold whead
  have h := fun x => wnum_len c.writes.length x
  have h' := fun x => wnum_len c.time x
  have h'' := fun x => wnum_len c.tx x
  have h3 := fun x => wnum_len (c.kind % 8) x
  have a := h (wnum c.time (wnum c.tx (wnum (c.kind % 8) (if 20 < c.writes.length then ((if c.kind < 1 ∨ 4 < c.kind then (s.1, 1) else s).1, 4) else (if c.kind < 1 ∨ 4 < c.kind then (s.1, 1) else s)))))
  have b := h' (wnum c.tx (wnum (c.kind % 8) (if 20 < c.writes.length then ((if c.kind < 1 ∨ 4 < c.kind then (s.1, 1) else s).1, 4) else (if c.kind < 1 ∨ 4 < c.kind then (s.1, 1) else s))))
  have cc := h'' (wnum (c.kind % 8) (if 20 < c.writes.length then ((if c.kind < 1 ∨ 4 < c.kind then (s.1, 1) else s).1, 4) else (if c.kind < 1 ∨ 4 < c.kind then (s.1, 1) else s)))
  have d := h3 (if 20 < c.writes.length then ((if c.kind < 1 ∨ 4 < c.kind then (s.1, 1) else s).1, 4) else (if c.kind < 1 ∨ 4 < c.kind then (s.1, 1) else s))
  have e : (if 20 < c.writes.length then ((if c.kind < 1 ∨ 4 < c.kind then (s.1, (1 : Int)) else s).1, (4 : Int)) else (if c.kind < 1 ∨ 4 < c.kind then (s.1, 1) else s)).1 = s.1 := by split <;> split <;> rfl
  rw [e] at d
  exact Nat.le_trans a (by omega)
end Go.Proofs.YtdbbgfbcbfbihaaDoor
