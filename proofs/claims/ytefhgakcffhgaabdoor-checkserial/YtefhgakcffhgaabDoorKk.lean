/- Package check: what an order is that can be gone. Pure. -/
import Derived.Test.YtefhgakcffhgaabDoorKh
namespace Go.Proofs.YtefhgakcffhgaabDoor
open Go.RowKit Go.Lib Go.Maps

theorem goodR_at (ts : List TxD) : ∀ (rest d : List Nat) (s s2 : Sta), goodR ts d s rest = some s2 → ∀ p n, rest[p]? = some n → NextOK ts (d ++ rest.take p) n ∧ n < ts.length
  | [], _, _, _, _, p, n, h => by simp at h
  | m :: rest, d, s, s2, hg, p, n, h => by
    obtain ⟨h1, t, r, h2, h3, h4⟩ := goodR_cons hg
    cases p with
    | zero =>
      simp at h
      subst h
      exact ⟨by simpa using h1, (List.getElem?_eq_some_iff.1 h2).1⟩
    | succ p =>
      have := goodR_at ts rest (d ++ [m]) r.1 s2 h4 p n (by simpa using h)
      simpa using this
theorem goodR_nodup (ts : List TxD) : ∀ (rest d : List Nat) (s s2 : Sta), goodR ts d s rest = some s2 → d.Nodup → (d ++ rest).Nodup
  | [], _, _, _, _, h => by simpa using h
  | m :: rest, d, s, s2, hg, h => by
    obtain ⟨h1, t, r, h2, h3, h4⟩ := goodR_cons hg
    have := goodR_nodup ts rest (d ++ [m]) r.1 s2 h4 (List.nodup_append.2 ⟨h, by simp, fun a ha b hb => by simp at hb; subst hb; exact fun e => h1.1 (e ▸ ha)⟩)
    simpa using this
/-- Who stands later was not done ahead of who stands earlier. -/
theorem goodR_order {ts : List TxD} {o : List Nat} {s s2 : Sta} (hg : goodR ts [] s o = some s2) {p q i k : Nat} {t u : TxD} (hp : o[p]? = some k) (hq : o[q]? = some i) (hpq : p < q) (ht : ts[i]? = some t) (hu : ts[k]? = some u) : ¬ aheadT t u := fun ha => by
  have hnd := goodR_nodup ts o [] s s2 hg (by simp)
  simp only [List.nil_append] at hnd
  obtain ⟨p1, p2⟩ := List.getElem?_eq_some_iff.1 hp
  obtain ⟨q1, q2⟩ := List.getElem?_eq_some_iff.1 hq
  have hne : i ≠ k := fun e => (List.pairwise_iff_getElem.1 hnd) p q p1 q1 hpq (by rw [p2, q2, e])
  have h1 := (goodR_at ts o [] s s2 hg p k hp).1.2 i t u ht hu hne ha
  simp only [List.nil_append] at h1
  obtain ⟨j, hj, e⟩ := List.getElem_of_mem h1
  rw [List.getElem_take] at e
  have hj' : j < p := by simp at hj; omega
  exact (List.pairwise_iff_getElem.1 hnd) j q (by omega) q1 (by omega) (by rw [e, q2])
/-- The operations of all, one behind the other. -/
theorem goodR_ops (ts : List TxD) : ∀ (rest d : List Nat) (s s2 : Sta), goodR ts d s rest = some s2 → ∀ p n t, rest[p]? = some n → ts[n]? = some t → ∃ s1 r, goodR ts d s (rest.take p) = some s1 ∧ doOps s1 t.ops = some r ∧ goodR ts d s (rest.take (p + 1)) = some r.1
  | [], _, _, _, _, p, n, t, h, _ => by simp at h
  | m :: rest, d, s, s2, hg, p, n, t, h, ht => by
    obtain ⟨h1, t', r, h2, h3, h4⟩ := goodR_cons hg
    cases p with
    | zero =>
      simp at h
      subst h
      rw [ht] at h2
      simp at h2
      subst h2
      refine ⟨s, r, by simp [goodR], h3, ?_⟩
      rw [List.take_succ_cons, goodR_mk h1 ht h3]
      simp [goodR]
    | succ p =>
      obtain ⟨s1, r1, e1, e2, e3⟩ := goodR_ops ts rest (d ++ [m]) r.1 s2 h4 p n t (by simpa using h) ht
      refine ⟨s1, r1, ?_, e2, ?_⟩
      · rw [List.take_succ_cons, goodR_mk h1 h2 h3]; exact e1
      · rw [List.take_succ_cons, goodR_mk h1 h2 h3]; exact e3
/-- Transactions that were made one behind the other. -/
theorem made_good {ts : List TxD} (sts : Nat → Sta) (hrun : ∀ (i : Nat) t, ts[i]? = some t → ∃ us, doOps (sts i) t.ops = some (sts (i + 1), us)) (hah : ∀ (m n : Nat) t u, ts[m]? = some t → ts[n]? = some u → aheadT t u → m ≤ n) :
    ∀ d, d ≤ ts.length → goodR ts (List.range (ts.length - d)) (sts (ts.length - d)) ((List.range ts.length).drop (ts.length - d)) = some (sts ts.length)
  | 0, _ => by
    rw [Nat.sub_zero, List.drop_eq_nil_of_le (by simp)]
    rfl
  | d + 1, hd => by
    obtain ⟨j, hj⟩ : ∃ j, j = ts.length - (d + 1) := ⟨_, rfl⟩
    have hjl : j < ts.length := by omega
    have e1 : ts.length - d = j + 1 := by omega
    have ih := made_good sts hrun hah d (by omega)
    rw [← hj]
    rw [e1] at ih
    obtain ⟨t, ht⟩ : ∃ t, ts[j]? = some t := ⟨_, List.getElem?_eq_getElem hjl⟩
    obtain ⟨us, hus⟩ := hrun j t ht
    have hdrop : (List.range ts.length).drop j = j :: (List.range ts.length).drop (j + 1) := by
      rw [List.drop_eq_getElem_cons (by simpa using hjl)]
      simp
    have hn : NextOK ts (List.range j) j := ⟨by simp, fun m t' u' hm hu hne ha => by
      have := hah m j t' u' hm hu ha
      simp
      omega⟩
    rw [hdrop, goodR_mk hn ht hus, ← List.range_succ]
    exact ih
end Go.Proofs.YtefhgakcffhgaabDoor
