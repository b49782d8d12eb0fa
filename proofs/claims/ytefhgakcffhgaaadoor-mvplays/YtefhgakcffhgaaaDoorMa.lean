/- Package mv: versions of a key (pure). -/
import Derived.Test.YtefhgakcffhgaaaDoorMem
namespace Go.Proofs.YtefhgakcffhgaaaDoor
set_option linter.unusedVariables false

/-- A version. -/
structure VerD where
  time : Int
  value : ByteArray
  gone : Bool
def Rising (l : List VerD) : Prop := l.Pairwise fun a b => a.time < b.time
/-- How many versions there are by a time. -/
def byN (l : List VerD) (t : Int) : Nat := (l.filter fun v => decide (v.time ≤ t)).length
theorem byN_le (l : List VerD) (t : Int) : byN l t ≤ l.length := List.length_filter_le _ _
theorem byN_cons (v : VerD) (l : List VerD) (t : Int) : byN (v :: l) t = (if v.time ≤ t then 1 else 0) + byN l t := by
  unfold byN
  rw [List.filter_cons]
  by_cases h : v.time ≤ t
  · simp [h]; omega
  · simp [h]
theorem byN_zero {l : List VerD} {t : Int} (h : ∀ v ∈ l, t < v.time) : byN l t = 0 := by
  unfold byN
  rw [List.length_eq_zero_iff, List.filter_eq_nil_iff]
  intro v hv
  have := h v hv
  simp; omega
/-- Of a rising list those by a time are its beginning. -/
theorem byN_at : ∀ {l : List VerD} (_ : Rising l) (t : Int) (k : Nat) (v : VerD), l[k]? = some v → (k < byN l t ↔ v.time ≤ t)
  | [], _, t, k, v, h => by simp at h
  | x :: l, hr, t, 0, v, h => by
    simp at h
    subst h
    rw [byN_cons]
    by_cases hx : x.time ≤ t
    · simp [hx]; omega
    · have : byN l t = 0 := byN_zero (fun y hy => by have := List.rel_of_pairwise_cons hr hy; omega)
      simp [hx, this]
  | x :: l, hr, t, k + 1, v, h => by
    have hv : l[k]? = some v := by simpa using h
    have ih := byN_at (List.Pairwise.of_cons hr) t k v hv
    have hx := List.rel_of_pairwise_cons hr (List.mem_of_getElem? hv)
    rw [byN_cons]
    by_cases h1 : x.time ≤ t
    · simp only [h1, if_true]; rw [← ih]; omega
    · have : byN l t = 0 := byN_zero (fun y hy => by have := List.rel_of_pairwise_cons hr hy; omega)
      simp only [h1, if_false, this]
      constructor
      · intro h; omega
      · intro h; omega
/-- The number by a time is the one place behind which all are later. -/
theorem byN_eq {l : List VerD} (hr : Rising l) {t : Int} {n : Nat} (hn : n ≤ l.length) (h1 : ∀ k v, k < n → l[k]? = some v → v.time ≤ t) (h2 : ∀ k v, n ≤ k → l[k]? = some v → t < v.time) : byN l t = n := by
  rcases Nat.lt_trichotomy (byN l t) n with h | h | h
  · obtain ⟨v, hv⟩ : ∃ v, l[byN l t]? = some v := ⟨_, List.getElem?_eq_getElem (by omega)⟩
    have a := h1 _ v h hv
    have := (byN_at hr t _ v hv).2 a
    omega
  · exact h
  · have hb := byN_le l t
    obtain ⟨v, hv⟩ : ∃ v, l[n]? = some v := ⟨_, List.getElem?_eq_getElem (by omega)⟩
    have a := (byN_at hr t _ v hv).1 h
    have := h2 n v (Nat.le_refl _) hv
    omega
/-- What a key's last version by a time tells. -/
def toldO (l : List VerD) (t : Int) : Option ByteArray :=
  if byN l t = 0 then none else match l[byN l t - 1]? with | none => none | some v => if v.gone then none else some v.value
/-- How many are forgotten. -/
def dropN (l : List VerD) (low : Int) : Nat :=
  if byN l low = 0 then 0 else match l[byN l low - 1]? with | none => 0 | some v => if v.gone then byN l low else byN l low - 1
def leftL (l : List VerD) (low : Int) : List VerD := l.drop (dropN l low)
theorem dropN_le (l : List VerD) (low : Int) : dropN l low ≤ byN l low := by
  unfold dropN
  split
  · omega
  · split
    · omega
    · split <;> omega
theorem left_rising {l : List VerD} (h : Rising l) (low : Int) : Rising (leftL l low) := List.Pairwise.sublist (List.drop_sublist _ _) h
theorem left_len (l : List VerD) (low : Int) : (leftL l low).length ≤ l.length := by unfold leftL; rw [List.length_drop]; omega
theorem byN_drop {l : List VerD} (hr : Rising l) {t : Int} {n : Nat} (hn : n ≤ byN l t) : byN (l.drop n) t = byN l t - n := by
  have hb := byN_le l t
  refine byN_eq (List.Pairwise.sublist (List.drop_sublist _ _) hr) (by rw [List.length_drop]; omega) (fun k v hk hv => ?_) (fun k v hk hv => ?_)
  · rw [List.getElem?_drop] at hv
    exact (byN_at hr t _ v hv).1 (by omega)
  · rw [List.getElem?_drop] at hv
    have := mt (byN_at hr t _ v hv).2 (by omega)
    omega
theorem byN_mono (l : List VerD) {a b : Int} (h : a ≤ b) : byN l a ≤ byN l b := by
  induction l with
  | nil => exact Nat.le_refl _
  | cons v l ih =>
    rw [byN_cons, byN_cons]
    by_cases h1 : v.time ≤ a
    · have h2 : v.time ≤ b := by omega
      simp only [h1, h2, if_true]; omega
    · simp only [h1, if_false]; omega
/-- What is forgotten is not asked. -/
theorem told_left {l : List VerD} (hr : Rising l) {low t : Int} (h : low ≤ t) : toldO (leftL l low) t = toldO l t := by
  have hm := byN_mono l h
  have hd := dropN_le l low
  have hb : byN (leftL l low) t = byN l t - dropN l low := byN_drop hr (by omega)
  by_cases h0 : byN l t = dropN l low
  · have e1 : byN (leftL l low) t = 0 := by omega
    have e2 : byN l t = byN l low := by omega
    unfold toldO
    rw [if_pos e1]
    by_cases hz : byN l t = 0
    · rw [if_pos hz]
    · rw [if_neg hz, e2]
      have hdn : dropN l low = byN l low := by omega
      unfold dropN at hdn
      rw [if_neg (by omega)] at hdn
      cases hv : l[byN l low - 1]? with
      | none => rfl
      | some v =>
        rw [hv] at hdn
        simp only at hdn ⊢
        cases hg : v.gone with
        | true => simp
        | false => simp [hg] at hdn; omega
  · unfold toldO
    rw [hb, if_neg (by omega), if_neg (by omega)]
    unfold leftL
    rw [List.getElem?_drop]
    have : dropN l low + (byN l t - dropN l low - 1) = byN l t - 1 := by omega
    rw [this]
/-- One version more. -/
def insV (l : List VerD) (v : VerD) : List VerD := l.take (byN l v.time) ++ v :: l.drop (byN l v.time)
theorem ins_mem {l : List VerD} {v x : VerD} : x ∈ insV l v ↔ x = v ∨ x ∈ l := by
  unfold insV
  rw [List.mem_append, List.mem_cons]
  have : x ∈ l ↔ x ∈ l.take (byN l v.time) ∨ x ∈ l.drop (byN l v.time) := by
    conv => lhs; rw [← List.take_append_drop (byN l v.time) l]
    exact List.mem_append
  rw [this]
  constructor
  · rintro (h | h | h)
    · exact .inr (.inl h)
    · exact .inl h
    · exact .inr (.inr h)
  · rintro (h | h | h)
    · exact .inr (.inl h)
    · exact .inl h
    · exact .inr (.inr h)
theorem ins_rising {l : List VerD} {v : VerD} (hr : Rising l) (hn : ∀ x ∈ l, x.time ≠ v.time) : Rising (insV l v) := by
  have hb := byN_le l v.time
  have h1 : ∀ x ∈ l.take (byN l v.time), x.time < v.time := fun x hx => by
    obtain ⟨k, hk, e⟩ := List.getElem_of_mem hx
    have hk' : k < byN l v.time := by rw [List.length_take] at hk; omega
    have hx' : l[k]? = some x := by rw [← e, List.getElem_take]; exact List.getElem?_eq_getElem (by omega)
    have := (byN_at hr v.time k x hx').1 hk'
    have := hn x (List.mem_of_getElem? hx')
    omega
  have h2 : ∀ x ∈ l.drop (byN l v.time), v.time < x.time := fun x hx => by
    obtain ⟨k, hk, e⟩ := List.getElem_of_mem hx
    have hx' : l[byN l v.time + k]? = some x := by rw [← e, List.getElem_drop]; exact List.getElem?_eq_getElem (by rw [List.length_drop] at hk; omega)
    have := mt (byN_at hr v.time _ x hx').2 (by omega)
    omega
  unfold insV Rising
  rw [List.pairwise_append]
  refine ⟨List.Pairwise.sublist (List.take_sublist _ _) hr, List.pairwise_cons.2 ⟨h2, List.Pairwise.sublist (List.drop_sublist _ _) hr⟩, fun a ha b hb => ?_⟩
  rcases List.mem_cons.1 hb with rfl | hb
  · exact h1 a ha
  · have := h1 a ha
    have := h2 b hb
    omega
theorem ins_len (l : List VerD) (v : VerD) : (insV l v).length = l.length + 1 := by
  have := byN_le l v.time
  unfold insV
  rw [List.length_append, List.length_cons, List.length_take, List.length_drop]
  omega
/-- Two rising lists of the same versions are one. -/
theorem rising_ext : ∀ {a b : List VerD}, Rising a → Rising b → (∀ x, x ∈ a ↔ x ∈ b) → a = b
  | [], [], _, _, _ => rfl
  | [], y :: b, _, _, h => by have := (h y).2 (by simp); simp at this
  | x :: a, [], _, _, h => by have := (h x).1 (by simp); simp at this
  | x :: a, y :: b, ha, hb, h => by
    have hxy : x = y := by
      rcases List.mem_cons.1 ((h x).1 (by simp)) with e | h1
      · exact e
      · rcases List.mem_cons.1 ((h y).2 (by simp)) with e | h2
        · exact e.symm
        · have := List.rel_of_pairwise_cons ha h2
          have := List.rel_of_pairwise_cons hb h1
          omega
    subst hxy
    rw [rising_ext (List.Pairwise.of_cons ha) (List.Pairwise.of_cons hb) fun z => ?_]
    constructor
    · intro hz
      rcases List.mem_cons.1 ((h z).1 (List.mem_cons_of_mem _ hz)) with e | h1
      · have := List.rel_of_pairwise_cons ha hz
        rw [e] at this; omega
      · exact h1
    · intro hz
      rcases List.mem_cons.1 ((h z).2 (List.mem_cons_of_mem _ hz)) with e | h1
      · have := List.rel_of_pairwise_cons hb hz
        rw [e] at this; omega
      · exact h1
/-- Whether there is a version of that time. -/
theorem byN_twice {l : List VerD} (hr : Rising l) (t : Int) : (∃ v ∈ l, v.time = t) ↔ ∃ v, 0 < byN l t ∧ l[byN l t - 1]? = some v ∧ v.time = t := by
  constructor
  · rintro ⟨v, hv, e⟩
    obtain ⟨k, hk, e2⟩ := List.getElem_of_mem hv
    have hk' : l[k]? = some v := by rw [List.getElem?_eq_getElem hk, e2]
    have h1 := (byN_at hr t k v hk').2 (by omega)
    have hb := byN_le l t
    refine ⟨v, by omega, ?_, e⟩
    obtain ⟨u, hu⟩ : ∃ u, l[byN l t - 1]? = some u := ⟨_, List.getElem?_eq_getElem (by omega)⟩
    have h2 := (byN_at hr t _ u hu).1 (by omega)
    rcases Nat.lt_or_ge k (byN l t - 1) with h3 | h3
    · have hu' := (List.getElem?_eq_some_iff.1 hu)
      obtain ⟨hl1, e3⟩ := hu'
      have := List.pairwise_iff_getElem.1 hr k (byN l t - 1) hk (by omega) h3
      rw [e2, e3] at this
      omega
    · have : k = byN l t - 1 := by omega
      rw [← this]; exact hk'
  · rintro ⟨v, h0, hv, e⟩
    exact ⟨v, List.mem_of_getElem? hv, e⟩
end Go.Proofs.YtefhgakcffhgaaaDoor
