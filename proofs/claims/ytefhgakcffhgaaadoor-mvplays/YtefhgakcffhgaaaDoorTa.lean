/- The law MvPlays: the document's versions and the program's (pure). -/
import Derived.Test.YtefhgakcffhgaaaDoorMn
namespace Go.Proofs.YtefhgakcffhgaaaDoor
set_option linter.unusedVariables false

/-- A version, as the document's answer keeps it. -/
structure EntD where
  key : ByteArray
  value : ByteArray
  gone : Bool
  time : Int
def verE (e : EntD) : VerD := madeV e.time e.value e.gone
theorem verE_time (e : EntD) : (verE e).time = e.time := madeV_time _ _ _
theorem verE_gone (e : EntD) : (verE e).gone = e.gone := by unfold verE madeV; split <;> simp_all
def kt (e : EntD) : ByteArray × Int := (e.key, e.time)
/-- Both have the same versions. -/
structure Rel (s : Vers) (all : List EntD) : Prop where
  rise : ∀ k, Rising (s k)
  mem : ∀ k v, v ∈ s k ↔ ∃ e ∈ all, e.key = k ∧ verE e = v
  uniq : (all.map kt).Nodup
theorem Rel.nil : Rel (fun _ => []) [] := ⟨fun _ => List.Pairwise.nil, fun k v => by simp, by simp⟩
theorem Rel.twice {s : Vers} {all : List EntD} (h : Rel s all) (k : ByteArray) (t : Int) : (∃ v ∈ s k, v.time = t) ↔ ∃ e ∈ all, e.key = k ∧ e.time = t := by
  constructor
  · rintro ⟨v, hv, e⟩
    obtain ⟨x, h1, h2, h3⟩ := (h.mem k v).1 hv
    exact ⟨x, h1, h2, by rw [← verE_time, h3, e]⟩
  · rintro ⟨x, h1, h2, h3⟩
    exact ⟨verE x, (h.mem k _).2 ⟨x, h1, h2, rfl⟩, by rw [verE_time, h3]⟩
theorem Rel.put {s : Vers} {all : List EntD} {e : EntD} (h : Rel s all) (hn : ∀ x ∈ all, x.key = e.key → x.time ≠ e.time) : Rel (updV s e.key (insV (s e.key) (verE e))) (all ++ [e]) := by
  have hne : ∀ v ∈ s e.key, v.time ≠ (verE e).time := fun v hv q => by
    obtain ⟨x, h1, h2, h3⟩ := (h.mem _ v).1 hv
    exact hn x h1 h2 (by rw [← verE_time x, h3, q, verE_time])
  refine ⟨fun k => ?_, fun k v => ?_, ?_⟩
  · unfold updV
    by_cases q : k = e.key
    · rw [if_pos q]; exact ins_rising (h.rise _) hne
    · rw [if_neg q]; exact h.rise k
  · unfold updV
    by_cases q : k = e.key
    · subst q
      rw [if_pos rfl, ins_mem, h.mem]
      constructor
      · rintro (rfl | ⟨x, h1, h2⟩)
        · exact ⟨e, by simp, rfl, rfl⟩
        · exact ⟨x, by simp [h1], h2⟩
      · rintro ⟨x, h1, h2, h3⟩
        rcases List.mem_append.1 h1 with h1 | h1
        · exact .inr ⟨x, h1, h2, h3⟩
        · simp at h1; subst h1; exact .inl h3.symm
    · rw [if_neg q, h.mem]
      constructor
      · rintro ⟨x, h1, h2⟩; exact ⟨x, by simp [h1], h2⟩
      · rintro ⟨x, h1, h2, h3⟩
        rcases List.mem_append.1 h1 with h1 | h1
        · exact ⟨x, h1, h2, h3⟩
        · simp at h1; subst h1; exact absurd h2.symm q
  · rw [List.map_append, List.nodup_append]
    refine ⟨h.uniq, by simp, fun a ha b hb q => ?_⟩
    simp at hb
    subst hb
    obtain ⟨x, h1, h2⟩ := List.mem_map.1 ha
    rw [q] at h2
    unfold kt at h2
    simp at h2
    exact hn x h1 h2.1 h2.2
/-- What is left of versions, one by one. -/
theorem left_mem {l : List VerD} (hr : Rising l) (lo : Int) (v : VerD) : v ∈ leftL l lo ↔ v ∈ l ∧ ¬ (∃ u ∈ l, v.time < u.time ∧ u.time ≤ lo) ∧ ¬ (v.gone = true ∧ v.time ≤ lo) := by
  have hb := byN_le l lo
  have hd := dropN_le l lo
  have hgt : ∀ (i j : Nat) (a b : VerD), l[i]? = some a → l[j]? = some b → i < j → a.time < b.time := fun i j a b ha hb' hij => by
    obtain ⟨hi, e1⟩ := List.getElem?_eq_some_iff.1 ha
    obtain ⟨hj, e2⟩ := List.getElem?_eq_some_iff.1 hb'
    have := List.pairwise_iff_getElem.1 hr i j hi hj hij
    rw [e1, e2] at this
    exact this
  -- which places are left
  have hdn : ∀ i a, l[i]? = some a → (dropN l lo ≤ i ↔ (byN l lo ≤ i ∨ (i + 1 = byN l lo ∧ a.gone = false))) := fun i a ha => by
    unfold dropN
    by_cases h0 : byN l lo = 0
    · rw [if_pos h0]; constructor
      · intro _; exact .inl (by omega)
      · intro _; omega
    · rw [if_neg h0]
      obtain ⟨u, hu⟩ : ∃ u, l[byN l lo - 1]? = some u := ⟨_, List.getElem?_eq_getElem (by omega)⟩
      rw [hu]
      simp only
      cases hg : u.gone with
      | true =>
        simp only [if_true]
        constructor
        · intro h; exact .inl h
        · rintro (h | ⟨h1, h2⟩)
          · exact h
          · have : i = byN l lo - 1 := by omega
            rw [this, hu] at ha
            cases ha
            rw [hg] at h2; cases h2
      | false =>
        simp only [Bool.false_eq_true, if_false]
        constructor
        · intro h
          rcases Nat.lt_or_ge i (byN l lo) with h1 | h1
          · have : i = byN l lo - 1 := by omega
            rw [this, hu] at ha
            cases ha
            exact .inr ⟨by omega, hg⟩
          · exact .inl h1
        · rintro (h | ⟨h1, h2⟩) <;> omega
  constructor
  · intro hv
    obtain ⟨j, hj, e⟩ := List.getElem_of_mem hv
    have hl : l[dropN l lo + j]? = some v := by
      have h1 : (leftL l lo)[j]? = some v := by rw [List.getElem?_eq_getElem hj, e]
      unfold leftL at h1
      rw [List.getElem?_drop] at h1
      exact h1
    have hk := (hdn _ v hl).1 (by omega)
    refine ⟨List.mem_of_getElem? hl, fun ⟨u, hu, h1, h2⟩ => ?_, fun ⟨h1, h2⟩ => ?_⟩
    · obtain ⟨i, hi, e2⟩ := List.getElem_of_mem hu
      have hi' : l[i]? = some u := by rw [List.getElem?_eq_getElem hi, e2]
      have h3 := (byN_at hr lo i u hi').2 h2
      have h4 : dropN l lo + j < i := by
        rcases Nat.lt_trichotomy (dropN l lo + j) i with h | h | h
        · exact h
        · rw [h, hi'] at hl; cases hl; omega
        · have := hgt i _ u v hi' hl h; omega
      omega
    · have h3 := (byN_at hr lo _ v hl).2 h2
      rcases hk with h | ⟨h, h4⟩
      · omega
      · rw [h1] at h4; cases h4
  · rintro ⟨hv, h1, h2⟩
    obtain ⟨i, hi, e⟩ := List.getElem_of_mem hv
    have hl : l[i]? = some v := by rw [List.getElem?_eq_getElem hi, e]
    have hk : dropN l lo ≤ i := by
      rw [hdn i v hl]
      rcases Nat.lt_or_ge i (byN l lo) with h | h
      · right
        have ht := (byN_at hr lo i v hl).1 h
        refine ⟨?_, ?_⟩
        · rcases Nat.lt_or_ge (i + 1) (byN l lo) with h3 | h3
          · exfalso
            obtain ⟨u, hu⟩ : ∃ u, l[i + 1]? = some u := ⟨_, List.getElem?_eq_getElem (by omega)⟩
            exact h1 ⟨u, List.mem_of_getElem? hu, hgt i (i + 1) v u hl hu (by omega), (byN_at hr lo _ u hu).1 h3⟩
          · omega
        · cases hg : v.gone with
          | false => rfl
          | true => exact absurd ⟨hg, ht⟩ h2
      · exact .inl h
    unfold leftL
    have : (l.drop (dropN l lo))[i - dropN l lo]? = some v := by rw [List.getElem?_drop, show dropN l lo + (i - dropN l lo) = i by omega]; exact hl
    exact List.mem_of_getElem? this
/-- Whether a version is followed by one of a time at most lo. -/
def Follows (all : List EntD) (lo : Int) (e : EntD) : Prop := ∃ x ∈ all, x.key = e.key ∧ e.time < x.time ∧ x.time ≤ lo
/-- What the document's Trim leaves. -/
structure TrimE (all left : List EntD) (lo : Int) : Prop where
  sub : left.Sublist all
  mem : ∀ e, e ∈ left ↔ e ∈ all ∧ ¬ Follows all lo e ∧ ¬ (e.gone = true ∧ e.time ≤ lo)
theorem Rel.trim {s : Vers} {all left : List EntD} {lo : Int} (h : Rel s all) (ht : TrimE all left lo) : Rel (trimA s lo) left := by
  refine ⟨fun k => left_rising (h.rise k) lo, fun k v => ?_, (ht.sub.map kt).nodup h.uniq⟩
  unfold trimA
  rw [left_mem (h.rise k)]
  constructor
  · rintro ⟨h1, h2, h3⟩
    obtain ⟨e, h4, h5, h6⟩ := (h.mem k v).1 h1
    subst h6
    refine ⟨e, (ht.mem e).2 ⟨h4, fun ⟨x, q1, q2, q3, q4⟩ => h2 ⟨verE x, (h.mem k _).2 ⟨x, q1, q2.trans h5, rfl⟩, by rw [verE_time, verE_time]; exact q3, by rw [verE_time]; exact q4⟩, fun ⟨q1, q2⟩ => h3 ⟨by rw [verE_gone]; exact q1, by rw [verE_time]; exact q2⟩⟩, h5, rfl⟩
  · rintro ⟨e, h4, h5, rfl⟩
    obtain ⟨h6, h7, h8⟩ := (ht.mem e).1 h4
    refine ⟨(h.mem k _).2 ⟨e, h6, h5, rfl⟩, fun ⟨u, q1, q2, q3⟩ => ?_, fun ⟨q1, q2⟩ => h8 ⟨by rw [← verE_gone]; exact q1, by rw [← verE_time]; exact q2⟩⟩
    obtain ⟨x, r1, r2, rfl⟩ := (h.mem k u).1 q1
    exact h7 ⟨x, r1, r2.trans h5.symm, by rw [verE_time, verE_time] at q2; exact q2, by rw [verE_time] at q3; exact q3⟩
/-- The last of a key's versions by a time. -/
def Best (all : List EntD) (k : ByteArray) (t : Int) (e : EntD) : Prop := e ∈ all ∧ e.key = k ∧ e.time ≤ t ∧ ∀ x ∈ all, x.key = k → x.time ≤ t → x.time ≤ e.time
theorem Rel.best {s : Vers} {all : List EntD} {k : ByteArray} {t : Int} {e : EntD} (h : Rel s all) (hb : Best all k t e) : toldO (s k) t = if e.gone then none else some e.value := by
  obtain ⟨h1, h2, h3, h4⟩ := hb
  have hv : verE e ∈ s k := (h.mem k _).2 ⟨e, h1, h2, rfl⟩
  obtain ⟨i, hi, q⟩ := List.getElem_of_mem hv
  have hl : (s k)[i]? = some (verE e) := by rw [List.getElem?_eq_getElem hi, q]
  have hlt := (byN_at (h.rise k) t i _ hl).2 (by rw [verE_time]; exact h3)
  have hbn := byN_le (s k) t
  have hlast : i = byN (s k) t - 1 := by
    rcases Nat.lt_or_ge i (byN (s k) t - 1) with hh | hh
    · exfalso
      obtain ⟨u, hu⟩ : ∃ u, (s k)[byN (s k) t - 1]? = some u := ⟨_, List.getElem?_eq_getElem (by omega)⟩
      have h5 := (byN_at (h.rise k) t _ u hu).1 (by omega)
      obtain ⟨x, r1, r2, r3⟩ := (h.mem k u).1 (List.mem_of_getElem? hu)
      have h6 := h4 x r1 r2 (by rw [← verE_time, r3]; exact h5)
      obtain ⟨hi2, e2⟩ := List.getElem?_eq_some_iff.1 hu
      have h7 := List.pairwise_iff_getElem.1 (h.rise k) i _ hi hi2 hh
      rw [q, e2, ← r3, verE_time, verE_time] at h7
      omega
    · omega
  unfold toldO
  rw [if_neg (by omega), ← hlast, hl]
  simp only [verE_gone]
  unfold verE madeV
  cases e.gone <;> rfl
theorem Rel.none {s : Vers} {all : List EntD} {k : ByteArray} {t : Int} (h : Rel s all) (hn : ∀ x ∈ all, x.key = k → ¬ x.time ≤ t) : toldO (s k) t = none := by
  have : byN (s k) t = 0 := byN_zero (fun v hv => by
    obtain ⟨x, r1, r2, r3⟩ := (h.mem k v).1 hv
    have := hn x r1 r2
    rw [← r3, verE_time]; omega)
  unfold toldO
  rw [if_pos this]
theorem Rel.keys {s : Vers} {all : List EntD} (h : Rel s all) {k : ByteArray} (hk : s k ≠ []) : ∃ e ∈ all, e.key = k := by
  cases hs : s k with
  | nil => exact absurd hs hk
  | cons v l =>
    obtain ⟨e, h1, h2, _⟩ := (h.mem k v).1 (by rw [hs]; simp)
    exact ⟨e, h1, h2⟩
theorem rising_nodup {l : List VerD} (h : Rising l) : l.Nodup := List.Pairwise.imp (fun hlt e => by rw [e] at hlt; omega) h
theorem Rel.len {s : Vers} {all : List EntD} (h : Rel s all) (k : ByteArray) : (s k).length = (all.filter fun e => decide (e.key = k)).length := by
  have hp : (s k).Perm ((all.filter fun e => decide (e.key = k)).map verE) := by
    refine (List.perm_ext_iff_of_nodup (rising_nodup (h.rise k)) ?_).2 (fun v => ?_)
    · have h1 : ((all.filter fun e => decide (e.key = k)).map kt).Nodup := ((List.filter_sublist).map kt).nodup h.uniq
      rw [List.nodup_iff_pairwise_ne] at h1 ⊢
      rw [List.pairwise_map] at h1 ⊢
      refine List.Pairwise.imp_of_mem (fun {a b} ha hb hne e => hne ?_) h1
      have e1 : a.key = k := by simpa using (List.mem_filter.1 ha).2
      have e2 : b.key = k := by simpa using (List.mem_filter.1 hb).2
      unfold kt
      rw [e1, e2, ← verE_time a, ← verE_time b, e]
    · rw [h.mem, List.mem_map]
      constructor
      · rintro ⟨e, h1, h2, h3⟩; exact ⟨e, List.mem_filter.2 ⟨h1, by simp [h2]⟩, h3⟩
      · rintro ⟨e, h1, h3⟩
        obtain ⟨h4, h5⟩ := List.mem_filter.1 h1
        exact ⟨e, h4, by simpa using h5, h3⟩
  rw [hp.length_eq, List.length_map]
theorem sum_one (k : ByteArray) : ∀ K : List ByteArray, K.Nodup → k ∈ K → (K.map fun x => if k = x then 1 else 0).sum = 1
  | [], _, h => by simp at h
  | x :: K, hn, h => by
    obtain ⟨h1, h2⟩ := List.nodup_cons.1 hn
    rw [List.map_cons, List.sum_cons]
    by_cases e : k = x
    · subst e
      have : (K.map fun x => if k = x then 1 else 0).sum = 0 := by
        have : ∀ L : List ByteArray, k ∉ L → (L.map fun x => if k = x then 1 else 0).sum = 0 := fun L => by
          induction L with
          | nil => intro _; rfl
          | cons y L ih =>
            intro hL
            rw [List.map_cons, List.sum_cons, ih (fun q => hL (List.mem_cons_of_mem _ q)), if_neg (fun q => hL (by rw [q]; simp))]
        exact this K h1
      rw [this, if_pos rfl]
    · rw [if_neg e, sum_one k K h2 ((List.mem_cons.1 h).resolve_left e)]
theorem sum_filter (K : List ByteArray) (hn : K.Nodup) : ∀ all : List EntD, (∀ e ∈ all, e.key ∈ K) → (K.map fun k => (all.filter fun e => decide (e.key = k)).length).sum = all.length
  | [], _ => by
    have : ∀ L : List ByteArray, (L.map fun k => (([] : List EntD).filter fun e => decide (e.key = k)).length).sum = 0 := fun L => by
      induction L with
      | nil => rfl
      | cons y L ih => rw [List.map_cons, List.sum_cons, ih]; rfl
    exact this K
  | e :: all, h => by
    have ih := sum_filter K hn all (fun x hx => h x (List.mem_cons_of_mem _ hx))
    have h1 := sum_one e.key K hn (h e (by simp))
    have key : ∀ L : List ByteArray, (L.map fun k => ((e :: all).filter fun e => decide (e.key = k)).length).sum = (L.map fun k => (all.filter fun e => decide (e.key = k)).length).sum + (L.map fun x => if e.key = x then 1 else 0).sum := fun L => by
      induction L with
      | nil => rfl
      | cons y L ih2 =>
        simp only [List.map_cons, List.sum_cons]
        rw [ih2, List.filter_cons]
        by_cases q : e.key = y
        · simp [q]; omega
        · simp [q]; omega
    rw [key, ih, h1]
    rfl
theorem Rel.many {s : Vers} {all : List EntD} {K : List ByteArray} (h : Rel s all) (hn : K.Nodup) (hK : ∀ e ∈ all, e.key ∈ K) : sumAll K s = all.length := by
  rw [← sum_filter K hn all hK]
  unfold sumAll
  congr 1
  exact List.map_congr_left (fun k _ => h.len k)
end Go.Proofs.YtefhgakcffhgaaaDoor
