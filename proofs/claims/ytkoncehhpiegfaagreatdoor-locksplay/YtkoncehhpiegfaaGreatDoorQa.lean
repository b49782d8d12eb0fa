/- Package locks: claims at a key (pure). -/
import Derived.Test.YtkoncehhpiegfaaGreatDoorMem
namespace Go.Proofs.YtkoncehhpiegfaaGreatDoor
set_option linter.unusedVariables false

/-- A transaction at a key: how it holds it, or wants it. -/
structure ClmD where
  tx : Int
  mode : Int
  deriving DecidableEq
/-- The elder ones first, none twice. -/
def Elder (l : List ClmD) : Prop := l.Pairwise fun a b => a.tx < b.tx
/-- Where a transaction is, or would be. -/
def plcN (l : List ClmD) (t : Int) : Nat := (l.filter fun c => decide (c.tx < t)).length
theorem plcN_le (l : List ClmD) (t : Int) : plcN l t ≤ l.length := List.length_filter_le _ _
theorem plcN_cons (v : ClmD) (l : List ClmD) (t : Int) : plcN (v :: l) t = (if v.tx < t then 1 else 0) + plcN l t := by
  unfold plcN
  rw [List.filter_cons]
  by_cases h : v.tx < t
  · simp [h]; omega
  · simp [h]
theorem plcN_zero {l : List ClmD} {t : Int} (h : ∀ v ∈ l, t ≤ v.tx) : plcN l t = 0 := by
  unfold plcN
  rw [List.length_eq_zero_iff, List.filter_eq_nil_iff]
  intro v hv
  have := h v hv
  simp; omega
theorem plcN_at : ∀ {l : List ClmD} (_ : Elder l) (t : Int) (k : Nat) (v : ClmD), l[k]? = some v → (k < plcN l t ↔ v.tx < t)
  | [], _, t, k, v, h => by simp at h
  | x :: l, hr, t, 0, v, h => by
    simp at h
    subst h
    rw [plcN_cons]
    by_cases hx : x.tx < t
    · simp [hx]; omega
    · have : plcN l t = 0 := plcN_zero (fun y hy => by have := List.rel_of_pairwise_cons hr hy; omega)
      simp [hx, this]
  | x :: l, hr, t, k + 1, v, h => by
    have hv : l[k]? = some v := by simpa using h
    have ih := plcN_at (List.Pairwise.of_cons hr) t k v hv
    have hx := List.rel_of_pairwise_cons hr (List.mem_of_getElem? hv)
    rw [plcN_cons]
    by_cases h1 : x.tx < t
    · simp only [h1, if_true]; rw [← ih]; omega
    · have : plcN l t = 0 := plcN_zero (fun y hy => by have := List.rel_of_pairwise_cons hr hy; omega)
      simp only [h1, if_false, this]
      constructor
      · intro h; omega
      · intro h; omega
theorem plcN_eq {l : List ClmD} (hr : Elder l) {t : Int} {n : Nat} (hn : n ≤ l.length) (h1 : ∀ k v, k < n → l[k]? = some v → v.tx < t) (h2 : ∀ k v, n ≤ k → l[k]? = some v → t ≤ v.tx) : plcN l t = n := by
  rcases Nat.lt_trichotomy (plcN l t) n with h | h | h
  · obtain ⟨v, hv⟩ : ∃ v, l[plcN l t]? = some v := ⟨_, List.getElem?_eq_getElem (by omega)⟩
    have a := h1 _ v h hv
    have := (plcN_at hr t _ v hv).2 a
    omega
  · exact h
  · have hb := plcN_le l t
    obtain ⟨v, hv⟩ : ∃ v, l[n]? = some v := ⟨_, List.getElem?_eq_getElem (by omega)⟩
    have a := (plcN_at hr t _ v hv).1 h
    have b := h2 _ v (Nat.le_refl _) hv
    omega
/-- Is a transaction among claims? -/
def fndN (l : List ClmD) (t : Int) : Bool := match l[plcN l t]? with
  | some c => decide (c.tx = t)
  | none => false
/-- How a transaction is among claims. -/
def modeN (l : List ClmD) (t : Int) : Int := match l[plcN l t]? with
  | some c => if c.tx = t then c.mode else 0
  | none => 0
/-- Claims and one more; it takes the place of what its transaction had. -/
def withN (l : List ClmD) (c : ClmD) : List ClmD := if fndN l c.tx then l.set (plcN l c.tx) c else l.take (plcN l c.tx) ++ c :: l.drop (plcN l c.tx)
def inWayB (a b : ClmD) : Bool := decide (a.tx ≠ b.tx) && (decide (a.mode = 2) || decide (b.mode = 2))
def freeN (held waits : List ClmD) (c : ClmD) : Bool := !(held.any fun o => inWayB o c) && !(waits.any fun o => decide (o.tx < c.tx) && inWayB o c)
def sparedB (c o : ClmD) : Bool := decide (o.tx < c.tx) || !inWayB o c
def woundN (held : List ClmD) (c : ClmD) : List Int := (held.filter fun o => !sparedB c o).map (·.tx)
def leaveN (l : List ClmD) (t : Int) : List ClmD := l.filter fun c => !decide (c.tx = t)
/-- Who waited goes through, the elder one first: who holds, who waits still, who got it. -/
def passN (held kept : List ClmD) : List ClmD → List ClmD × List ClmD × List ClmD
  | [] => (held, kept, [])
  | c :: q => if freeN held kept c then ((passN (withN held c) kept q).1, (passN (withN held c) kept q).2.1, c :: (passN (withN held c) kept q).2.2) else passN held (kept ++ [c]) q

theorem fnd_at {l : List ClmD} {t : Int} (h : fndN l t = true) : ∃ c, l[plcN l t]? = some c ∧ c.tx = t := by
  unfold fndN at h
  cases hc : l[plcN l t]? with
  | none => rw [hc] at h; cases h
  | some c => rw [hc] at h; exact ⟨c, rfl, by simpa using h⟩
theorem elder_eq {l : List ClmD} (hr : Elder l) {a b : ClmD} (ha : a ∈ l) (hb : b ∈ l) (h : a.tx = b.tx) : a = b := by
  induction l with
  | nil => simp at ha
  | cons x l ih =>
    rcases List.mem_cons.1 ha with rfl | ha'
    · rcases List.mem_cons.1 hb with rfl | hb'
      · rfl
      · have := List.rel_of_pairwise_cons hr hb'; omega
    · rcases List.mem_cons.1 hb with rfl | hb'
      · have := List.rel_of_pairwise_cons hr ha'; omega
      · exact ih (List.Pairwise.of_cons hr) ha' hb'
/-- Where one is. -/
theorem plc_mem {l : List ClmD} (hr : Elder l) {c : ClmD} (hc : c ∈ l) : l[plcN l c.tx]? = some c := by
  obtain ⟨k, hk⟩ := List.getElem?_of_mem hc
  have hkl := (List.getElem?_eq_some_iff.1 hk).1
  have : plcN l c.tx = k := plcN_eq hr (by omega) (fun j v hj hv => by
    have h1 := (plcN_at hr v.tx j v hv)
    have := List.pairwise_iff_getElem.1 hr j k (List.getElem?_eq_some_iff.1 hv).1 hkl hj
    rw [(List.getElem?_eq_some_iff.1 hv).2, (List.getElem?_eq_some_iff.1 hk).2] at this
    exact this) (fun j v hj hv => by
    by_cases e : j = k
    · subst e; rw [hk] at hv; cases hv; exact Int.le_refl _
    · have := List.pairwise_iff_getElem.1 hr k j hkl (List.getElem?_eq_some_iff.1 hv).1 (by omega)
      rw [(List.getElem?_eq_some_iff.1 hv).2, (List.getElem?_eq_some_iff.1 hk).2] at this
      omega)
  rw [this]; exact hk
theorem fnd_iff {l : List ClmD} (hr : Elder l) (t : Int) : fndN l t = true ↔ ∃ c ∈ l, c.tx = t := by
  constructor
  · intro h
    obtain ⟨c, h1, h2⟩ := fnd_at h
    exact ⟨c, List.mem_of_getElem? h1, h2⟩
  · rintro ⟨c, h1, rfl⟩
    unfold fndN
    rw [plc_mem hr h1]
    simp
theorem mode_of {l : List ClmD} (hr : Elder l) {c : ClmD} (hc : c ∈ l) : modeN l c.tx = c.mode := by
  unfold modeN
  rw [plc_mem hr hc]
  simp
theorem mode_none {l : List ClmD} {t : Int} (h : ∀ c ∈ l, c.tx ≠ t) : modeN l t = 0 := by
  unfold modeN
  cases hc : l[plcN l t]? with
  | none => rfl
  | some c =>
    have := h c (List.mem_of_getElem? hc)
    simp [this]
theorem mode_eq {l : List ClmD} (hr : Elder l) (hm : ∀ c ∈ l, c.mode ≠ 0) {t m : Int} (h0 : m ≠ 0) : modeN l t = m ↔ ⟨t, m⟩ ∈ l := by
  constructor
  · intro h
    unfold modeN at h
    cases hc : l[plcN l t]? with
    | none => rw [hc] at h; exact absurd h.symm h0
    | some c =>
      rw [hc] at h
      simp only at h
      split at h
      · rename_i e
        obtain ⟨ct, cm⟩ := c
        simp at h e
        rw [← h, ← e]; exact List.mem_of_getElem? hc
      · exact absurd h.symm h0
  · intro h
    exact mode_of hr h
theorem mode_zero {l : List ClmD} (hr : Elder l) (hm : ∀ c ∈ l, c.mode ≠ 0) {t : Int} : modeN l t = 0 ↔ ∀ c ∈ l, c.tx ≠ t := by
  constructor
  · intro h c hc e
    subst e
    rw [mode_of hr hc] at h
    exact hm c hc h
  · exact mode_none
theorem mem_with {l : List ClmD} (hr : Elder l) (c o : ClmD) : o ∈ withN l c ↔ o = c ∨ (o ∈ l ∧ o.tx ≠ c.tx) := by
  unfold withN
  split
  · rename_i h
    obtain ⟨d, h1, h2⟩ := fnd_at h
    have hl := (List.getElem?_eq_some_iff.1 h1).1
    rw [List.mem_iff_getElem?]
    constructor
    · rintro ⟨k, hk⟩
      rw [List.getElem?_set] at hk
      split at hk
      · simp at hk
        exact .inl hk.symm
      · rename_i hne
        refine .inr ⟨List.mem_of_getElem? hk, fun e => hne ?_⟩
        have ho := List.mem_of_getElem? hk
        have := plc_mem hr ho
        rw [e] at this
        obtain ⟨k1, k2⟩ := List.getElem?_eq_some_iff.1 hk
        obtain ⟨j1, j2⟩ := List.getElem?_eq_some_iff.1 this
        rcases Nat.lt_trichotomy (plcN l c.tx) k with q | q | q
        · have := List.pairwise_iff_getElem.1 hr _ _ j1 k1 q; rw [j2, k2] at this; omega
        · exact q
        · have := List.pairwise_iff_getElem.1 hr _ _ k1 j1 q; rw [j2, k2] at this; omega
    · rintro (rfl | ⟨ho, hne⟩)
      · exact ⟨plcN l o.tx, by rw [List.getElem?_set_self hl]⟩
      · obtain ⟨k, hk⟩ := List.getElem?_of_mem ho
        refine ⟨k, ?_⟩
        rw [List.getElem?_set_ne ?_]
        · exact hk
        · rintro rfl
          rw [h1] at hk
          cases hk
          exact hne h2
  · rename_i h
    rw [List.mem_append, List.mem_cons]
    have hno : ∀ o ∈ l, o.tx ≠ c.tx := fun o ho e => h ((fnd_iff hr c.tx).2 ⟨o, ho, e⟩)
    constructor
    · rintro (q | rfl | q)
      · have := List.mem_of_mem_take q; exact .inr ⟨this, hno o this⟩
      · exact .inl rfl
      · have := List.mem_of_mem_drop q; exact .inr ⟨this, hno o this⟩
    · rintro (rfl | ⟨q, _⟩)
      · exact .inr (.inl rfl)
      · rw [← List.take_append_drop (plcN l c.tx) l, List.mem_append] at q
        rcases q with q | q
        · exact .inl q
        · exact .inr (.inr q)
theorem elder_with {l : List ClmD} (hr : Elder l) (c : ClmD) : Elder (withN l c) := by
  unfold withN
  split
  · rename_i h
    obtain ⟨d, h1, h2⟩ := fnd_at h
    obtain ⟨hl, hd⟩ := List.getElem?_eq_some_iff.1 h1
    unfold Elder
    rw [List.pairwise_iff_getElem]
    intro i j hi hj hij
    simp only [List.length_set] at hi hj
    have := List.pairwise_iff_getElem.1 hr i j hi hj hij
    rw [List.getElem_set, List.getElem_set]
    split
    · rename_i e
      subst e
      rw [if_neg (by omega)]
      rw [hd, h2] at this; exact this
    · split
      · rename_i e
        subst e
        rw [hd, h2] at this; exact this
      · exact this
  · rename_i h
    have hno : ∀ o ∈ l, o.tx ≠ c.tx := fun o ho e => h ((fnd_iff hr c.tx).2 ⟨o, ho, e⟩)
    unfold Elder
    rw [List.pairwise_append]
    refine ⟨hr.sublist (List.take_sublist _ _), ?_, ?_⟩
    · rw [List.pairwise_cons]
      refine ⟨fun o ho => ?_, hr.sublist (List.drop_sublist _ _)⟩
      obtain ⟨k, hk⟩ := List.getElem?_of_mem ho
      rw [List.getElem?_drop] at hk
      have := mt (plcN_at hr c.tx _ o hk).2 (by omega)
      have := hno o (List.mem_of_mem_drop ho)
      omega
    · intro a ha b hb
      obtain ⟨k, hk⟩ := List.getElem?_of_mem ha
      rw [List.getElem?_take] at hk
      split at hk
      · rename_i hlt
        have h1 := (plcN_at hr c.tx k a hk).1 hlt
        rcases List.mem_cons.1 hb with rfl | hb
        · exact h1
        · obtain ⟨j, hj⟩ := List.getElem?_of_mem hb
          rw [List.getElem?_drop] at hj
          have := mt (plcN_at hr c.tx _ b hj).2 (by omega)
          omega
      · cases hk
theorem len_with (l : List ClmD) (c : ClmD) : (withN l c).length ≤ l.length + 1 := by
  unfold withN
  split
  · simp
  · have := plcN_le l c.tx
    simp; omega
theorem with_ne (l : List ClmD) (c : ClmD) : withN l c ≠ [] := by
  unfold withN
  split
  · rename_i h
    obtain ⟨d, h1, h2⟩ := fnd_at h
    intro e
    have := (List.getElem?_eq_some_iff.1 h1).1
    have h3 := congrArg List.length e
    simp at h3
    rw [h3] at this
    simp at this
  · simp
theorem mem_leave {l : List ClmD} {t : Int} {o : ClmD} : o ∈ leaveN l t ↔ o ∈ l ∧ o.tx ≠ t := by
  unfold leaveN
  simp
theorem elder_leave {l : List ClmD} (hr : Elder l) (t : Int) : Elder (leaveN l t) := hr.sublist List.filter_sublist
theorem len_leave (l : List ClmD) (t : Int) : (leaveN l t).length ≤ l.length := List.length_filter_le _ _
/-- What passing keeps. -/
theorem pass_elder : ∀ (q held kept : List ClmD), Elder held → Elder (kept ++ q) → Elder (passN held kept q).1 ∧ Elder (passN held kept q).2.1
  | [], held, kept, h1, h2 => ⟨h1, by simpa [passN] using h2⟩
  | c :: q, held, kept, h1, h2 => by
    unfold passN
    split
    · exact pass_elder q (withN held c) kept (elder_with h1 c) (h2.sublist (by simp))
    · exact pass_elder q held (kept ++ [c]) h1 (by simpa using h2)
theorem pass_len : ∀ (q held kept : List ClmD), (passN held kept q).1.length ≤ held.length + q.length ∧ (passN held kept q).2.1.length ≤ kept.length + q.length ∧ (passN held kept q).2.2.length ≤ q.length
  | [], held, kept => by simp [passN]
  | c :: q, held, kept => by
    unfold passN
    split
    · have := pass_len q (withN held c) kept
      have := len_with held c
      simp only [List.length_cons]
      omega
    · have := pass_len q held (kept ++ [c])
      simp only [List.length_cons, List.length_append, List.length_nil] at *
      omega
theorem pass_mem : ∀ (q held kept : List ClmD) (o : ClmD), (o ∈ (passN held kept q).1 → o ∈ held ∨ o ∈ q) ∧ (o ∈ (passN held kept q).2.1 → o ∈ kept ∨ o ∈ q) ∧ (o ∈ (passN held kept q).2.2 → o ∈ q)
  | [], held, kept, o => by simp [passN]
  | c :: q, held, kept, o => by
    unfold passN
    split
    · obtain ⟨h1, h2, h3⟩ := pass_mem q (withN held c) kept o
      refine ⟨fun h => ?_, fun h => ?_, fun h => ?_⟩
      · rcases h1 h with h | h
        · unfold withN at h
          split at h
          · rcases List.mem_or_eq_of_mem_set h with h | h
            · exact .inl h
            · exact .inr (by rw [h]; simp)
          · rcases List.mem_append.1 h with h | h
            · exact .inl (List.mem_of_mem_take h)
            · rcases List.mem_cons.1 h with h | h
              · exact .inr (by rw [h]; simp)
              · exact .inl (List.mem_of_mem_drop h)
        · exact .inr (List.mem_cons_of_mem _ h)
      · exact (h2 h).imp id (List.mem_cons_of_mem _)
      · rcases List.mem_cons.1 h with h | h
        · rw [h]; simp
        · exact List.mem_cons_of_mem _ (h3 h)
    · obtain ⟨h1, h2, h3⟩ := pass_mem q held (kept ++ [c]) o
      refine ⟨fun h => (h1 h).imp id (List.mem_cons_of_mem _), fun h => ?_, fun h => List.mem_cons_of_mem _ (h3 h)⟩
      rcases h2 h with h | h
      · rcases List.mem_append.1 h with h | h
        · exact .inl h
        · simp at h; exact .inr (by rw [h]; simp)
      · exact .inr (List.mem_cons_of_mem _ h)
end Go.Proofs.YtkoncehhpiegfaaGreatDoor
