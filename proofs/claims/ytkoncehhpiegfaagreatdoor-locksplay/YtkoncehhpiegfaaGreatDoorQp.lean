/- The law LocksPlay: the document's table (pure). -/
import Derived.Test.YtkoncehhpiegfaaGreatDoorQb
namespace Go.Proofs.YtkoncehhpiegfaaGreatDoor
set_option linter.unusedVariables false

structure AskD where
  tx : Int
  key : ByteArray
  mode : Int
  deriving DecidableEq
structure RefT where
  holds : List AskD
  waits : List AskD
def sameA (t : Int) (k : ByteArray) (a : AskD) : Bool := decide (a.tx = t) && decide (a.key = k)
def howR (h : List AskD) (t : Int) (k : ByteArray) : Int := match h.find? (sameA t k) with
  | some a => a.mode
  | none => 0
def wayA (x a : AskD) : Bool := decide (a.key = x.key) && (decide (a.tx ≠ x.tx) && (decide (a.mode = 2) || decide (x.mode = 2)))
def wayR (h : List AskD) (x : AskD) : List Int := (h.filter (wayA x)).map (·.tx)
def elderA (x a : AskD) : Bool := decide (a.key = x.key) && (decide (a.tx < x.tx) && (decide (a.mode = 2) || decide (x.mode = 2)))
def mayR (r : RefT) (x : AskD) : Bool := decide (x.mode ≤ howR r.holds x.tx x.key) || (!(r.waits.any (elderA x)) && decide (wayR r.holds x = []))
def hasR (h : List AskD) (x : AskD) : List AskD := if h.any (sameA x.tx x.key) then h.map fun a => if sameA x.tx x.key a then { a with mode := max a.mode x.mode } else a else h ++ [x]
def withoutR (l : List AskD) (x : AskD) : List AskD := l.filter fun a => decide (a ≠ x)
def waitR (l : List AskD) (k : ByteArray) : List Int := (l.filter fun a => decide (a.key = k)).map (·.tx)
/-- None is there twice. -/
def UniqA (l : List AskD) : Prop := l.Pairwise fun a b => ¬ (a.tx = b.tx ∧ a.key = b.key)
theorem uniq_eq {l : List AskD} (h : UniqA l) {a b : AskD} (ha : a ∈ l) (hb : b ∈ l) (ht : a.tx = b.tx) (hk : a.key = b.key) : a = b := by
  induction l with
  | nil => simp at ha
  | cons x l ih =>
    rcases List.mem_cons.1 ha with rfl | ha'
    · rcases List.mem_cons.1 hb with rfl | hb'
      · rfl
      · exact absurd ⟨ht, hk⟩ (List.rel_of_pairwise_cons h hb')
    · rcases List.mem_cons.1 hb with rfl | hb'
      · exact absurd ⟨ht.symm, hk.symm⟩ (List.rel_of_pairwise_cons h ha')
      · exact ih (List.Pairwise.of_cons h) ha' hb'
/-- The program's table and the document's hold the same. -/
structure RelT (s : Tab) (r : RefT) : Prop where
  held : ∀ k c, (⟨c.tx, k, c.mode⟩ : AskD) ∈ r.holds ↔ c ∈ (s k).held
  waits : ∀ k c, (⟨c.tx, k, c.mode⟩ : AskD) ∈ r.waits ↔ c ∈ (s k).waits
  uh : UniqA r.holds
  uw : UniqA r.waits
theorem RelT.heldM {s : Tab} {r : RefT} (h : RelT s r) (a : AskD) : a ∈ r.holds ↔ (⟨a.tx, a.mode⟩ : ClmD) ∈ (s a.key).held := h.held a.key ⟨a.tx, a.mode⟩
theorem RelT.waitsM {s : Tab} {r : RefT} (h : RelT s r) (a : AskD) : a ∈ r.waits ↔ (⟨a.tx, a.mode⟩ : ClmD) ∈ (s a.key).waits := h.waits a.key ⟨a.tx, a.mode⟩
theorem how_in {l : List AskD} (hu : UniqA l) {a : AskD} (ha : a ∈ l) : howR l a.tx a.key = a.mode := by
  unfold howR
  cases hf : l.find? (sameA a.tx a.key) with
  | none => exact absurd (List.find?_eq_none.1 hf a ha) (by simp [sameA])
  | some b =>
    have h1 := List.mem_of_find?_eq_some hf
    have h2 := List.find?_some hf
    simp [sameA] at h2
    rw [uniq_eq hu h1 ha h2.1 h2.2]
theorem how_out {l : List AskD} {t : Int} {k : ByteArray} (h : ∀ a ∈ l, ¬ (a.tx = t ∧ a.key = k)) : howR l t k = 0 := by
  unfold howR
  cases hf : l.find? (sameA t k) with
  | none => rfl
  | some b =>
    have h1 := List.mem_of_find?_eq_some hf
    have h2 := List.find?_some hf
    simp [sameA] at h2
    exact absurd h2 (h b h1)
theorem RelT.how {s : Tab} {r : RefT} (h : RelT s r) {k : ByteArray} (hk : KeyOK (s k)) (t : Int) : howR r.holds t k = modeN (s k).held t := by
  by_cases e : ∃ c ∈ (s k).held, c.tx = t
  · obtain ⟨c, hc, rfl⟩ := e
    rw [mode_of hk.held hc]
    exact how_in h.uh ((h.held k c).2 hc)
  · rw [mode_none (fun c hc e2 => e ⟨c, hc, e2⟩)]
    refine how_out (fun a ha e2 => e ?_)
    obtain ⟨rfl, rfl⟩ := e2
    exact ⟨_, (h.heldM a).1 ha, rfl⟩
theorem RelT.twice {s : Tab} {r : RefT} (h : RelT s r) {k : ByteArray} (hk : KeyOK (s k)) (t : Int) : r.waits.any (sameA t k) = decide (modeN (s k).waits t ≠ 0) := by
  rw [Bool.eq_iff_iff, List.any_eq_true, decide_eq_true_iff]
  constructor
  · rintro ⟨a, ha, e⟩
    simp [sameA] at e
    obtain ⟨rfl, rfl⟩ := e
    have := (h.waitsM a).1 ha
    have h2 := mode_of hk.waits this
    rw [h2]
    exact hk.w0 _ this
  · intro e
    apply Classical.byContradiction
    intro n
    refine e (mode_none (fun c hc e2 => n ⟨_, (h.waits k c).2 hc, by simp [sameA, e2]⟩))
/-- Who is in the way. -/
theorem RelT.way {s : Tab} {r : RefT} (h : RelT s r) (x : AskD) (t : Int) : t ∈ wayR r.holds x ↔ ∃ c ∈ (s x.key).held, c.tx = t ∧ inWayB c ⟨x.tx, x.mode⟩ = true := by
  unfold wayR
  rw [List.mem_map]
  constructor
  · rintro ⟨a, ha, rfl⟩
    obtain ⟨h1, h2⟩ := List.mem_filter.1 ha
    simp only [wayA, Bool.and_eq_true, decide_eq_true_iff] at h2
    obtain ⟨e1, e2⟩ := h2
    have := (h.heldM a).1 h1
    rw [e1] at this
    exact ⟨_, this, rfl, by simpa [inWayB] using e2⟩
  · rintro ⟨c, hc, rfl, e⟩
    refine ⟨⟨c.tx, x.key, c.mode⟩, List.mem_filter.2 ⟨(h.held _ c).2 hc, ?_⟩, rfl⟩
    simp only [inWayB] at e
    simp only [wayA, decide_true, Bool.true_and]
    exact e
theorem way_nodup {r : List AskD} (hu : UniqA r) (x : AskD) : (wayR r x).Nodup := by
  unfold wayR
  rw [List.nodup_iff_pairwise_ne, List.pairwise_map, List.pairwise_filter]
  refine List.Pairwise.imp (fun {a b} hne h1 h2 e => hne ⟨e, ?_⟩) hu
  simp only [wayA, Bool.and_eq_true, decide_eq_true_iff] at h1 h2
  rw [h1.1, h2.1]
theorem wait_nodup {r : List AskD} (hu : UniqA r) (k : ByteArray) : (waitR r k).Nodup := by
  unfold waitR
  rw [List.nodup_iff_pairwise_ne, List.pairwise_map, List.pairwise_filter]
  refine List.Pairwise.imp (fun {a b} hne h1 h2 e => hne ⟨e, ?_⟩) hu
  simp only [decide_eq_true_iff] at h1 h2
  rw [h1, h2]
theorem RelT.wait {s : Tab} {r : RefT} (h : RelT s r) (k : ByteArray) (t : Int) : t ∈ waitR r.waits k ↔ ∃ c ∈ (s k).waits, c.tx = t := by
  unfold waitR
  rw [List.mem_map]
  constructor
  · rintro ⟨a, ha, rfl⟩
    obtain ⟨h1, h2⟩ := List.mem_filter.1 ha
    simp only [decide_eq_true_iff] at h2
    have := (h.waitsM a).1 h1
    rw [h2] at this
    exact ⟨_, this, rfl⟩
  · rintro ⟨c, hc, rfl⟩
    exact ⟨⟨c.tx, k, c.mode⟩, List.mem_filter.2 ⟨(h.waits _ c).2 hc, by simp⟩, rfl⟩
/-- Rising numbers of the same members are the same. -/
theorem rising_same : ∀ {a b : List Int}, a.Pairwise (· < ·) → b.Pairwise (· < ·) → (∀ x, x ∈ a ↔ x ∈ b) → a = b
  | [], [], _, _, _ => rfl
  | [], y :: b, _, _, h => by have := (h y).2 (by simp); simp at this
  | x :: a, [], _, _, h => by have := (h x).1 (by simp); simp at this
  | x :: a, y :: b, h1, h2, h => by
    have e : x = y := by
      rcases List.mem_cons.1 ((h x).1 (by simp)) with e | e
      · exact e
      · rcases List.mem_cons.1 ((h y).2 (by simp)) with q | q
        · exact q.symm
        · have := List.rel_of_pairwise_cons h2 e
          have := List.rel_of_pairwise_cons h1 q
          omega
    subst e
    rw [rising_same (List.Pairwise.of_cons h1) (List.Pairwise.of_cons h2) (fun z => ?_)]
    constructor
    · intro hz
      rcases List.mem_cons.1 ((h z).1 (List.mem_cons_of_mem _ hz)) with e | e
      · have := List.rel_of_pairwise_cons h1 hz; omega
      · exact e
    · intro hz
      rcases List.mem_cons.1 ((h z).2 (List.mem_cons_of_mem _ hz)) with e | e
      · have := List.rel_of_pairwise_cons h2 hz; omega
      · exact e
theorem rising_txs {l : List ClmD} (h : Elder l) : (l.map (·.tx)).Pairwise (· < ·) := by
  rw [List.pairwise_map]; exact h
/-- Who waits, in order. -/
theorem RelT.wait_sorted {s : Tab} {r : RefT} (h : RelT s r) {k : ByteArray} (hk : KeyOK (s k)) {l : List Int} (hp : l.Perm (waitR r.waits k)) (hs : l.Pairwise (· ≤ ·)) : l = (s k).waits.map (·.tx) := by
  have hn : l.Nodup := hp.nodup_iff.2 (wait_nodup h.uw k)
  refine rising_same (List.Pairwise.imp₂ (fun a b h1 h2 => by omega) hs hn) (rising_txs hk.waits) (fun t => ?_)
  rw [hp.mem_iff, h.wait k t, List.mem_map]
theorem RelT.way_sorted {s : Tab} {r : RefT} (h : RelT s r) {x : AskD} (hk : KeyOK (s x.key)) {l : List Int} (hp : l.Perm (wayR r.holds x)) (hs : l.Pairwise (· ≤ ·)) : l.filter (fun t => decide (t > x.tx)) = woundN (s x.key).held ⟨x.tx, x.mode⟩ := by
  have hn : l.Nodup := hp.nodup_iff.2 (way_nodup h.uh x)
  have hst : l.Pairwise (· < ·) := List.Pairwise.imp₂ (fun a b h1 h2 => by omega) hs hn
  refine rising_same (hst.sublist List.filter_sublist) (rising_txs (hk.held.sublist List.filter_sublist)) (fun t => ?_)
  unfold woundN sparedB
  rw [List.mem_filter, hp.mem_iff, h.way x t]
  simp only [List.mem_map, List.mem_filter, Bool.not_or, Bool.not_not, Bool.and_eq_true, Bool.not_eq_true', decide_eq_false_iff_not, decide_eq_true_iff]
  constructor
  · rintro ⟨⟨c, h1, rfl, h2⟩, h3⟩
    exact ⟨c, ⟨h1, by omega, h2⟩, rfl⟩
  · rintro ⟨c, ⟨h1, h2, h3⟩, rfl⟩
    refine ⟨⟨c, h1, rfl, h3⟩, ?_⟩
    have : c.tx ≠ x.tx := fun e => by rw [way_same (by exact e)] at h3; cases h3
    omega
theorem RelT.may {s : Tab} {r : RefT} (h : RelT s r) {x : AskD} (hk : KeyOK (s x.key)) : mayR r x = (decide (x.mode ≤ modeN (s x.key).held x.tx) || freeN (s x.key).held (s x.key).waits ⟨x.tx, x.mode⟩) := by
  unfold mayR
  rw [h.how hk]
  congr 1
  unfold freeN
  rw [Bool.eq_iff_iff]
  simp only [Bool.and_eq_true, Bool.not_eq_true', List.any_eq_false, decide_eq_true_iff, Bool.not_eq_true]
  constructor
  · rintro ⟨h1, h2⟩
    refine ⟨fun c hc => ?_, fun c hc => ?_⟩
    · cases hi : inWayB c ⟨x.tx, x.mode⟩ with
      | false => rfl
      | true =>
        have := (h.way x c.tx).2 ⟨c, hc, rfl, hi⟩
        rw [h2] at this
        simp at this
    · have := h1 _ ((h.waits x.key c).2 hc)
      rintro ⟨q1, q2⟩
      simp only [elderA, decide_true, Bool.true_and, Bool.and_eq_false_iff, decide_eq_false_iff_not] at this
      rcases this with q | q
      · exact q q1
      · simp only [inWayB, Bool.and_eq_true] at q2
        rw [q2.2] at q
        cases q
  · rintro ⟨h1, h2⟩
    refine ⟨fun a ha => ?_, ?_⟩
    · by_cases e : a.key = x.key
      · have hc := (h.waitsM a).1 ha
        rw [e] at hc
        have := h2 _ hc
        cases hq : elderA x a with
        | false => rfl
        | true =>
          exfalso
          simp only [elderA, Bool.and_eq_true, decide_eq_true_iff] at hq
          refine this ⟨hq.2.1, ?_⟩
          simp only [inWayB, Bool.and_eq_true, decide_eq_true_iff]
          exact ⟨by omega, hq.2.2⟩
      · simp [elderA, e]
    · cases hw : wayR r.holds x with
      | nil => rfl
      | cons t l =>
        obtain ⟨c, h3, _, h4⟩ := (h.way x t).1 (by rw [hw]; simp)
        rw [h1 c h3] at h4; cases h4
/-- A key got, or got better. -/
theorem uniq_has {l : List AskD} (hu : UniqA l) (x : AskD) : UniqA (hasR l x) := by
  unfold hasR
  split
  · unfold UniqA
    rw [List.pairwise_map]
    refine List.Pairwise.imp (fun {a b} hne => ?_) hu
    split <;> split <;> exact hne
  · rename_i e
    unfold UniqA
    rw [List.pairwise_append]
    refine ⟨hu, by simp, fun a ha b hb q => e ?_⟩
    simp at hb
    subst hb
    exact List.any_eq_true.2 ⟨a, ha, by simp [sameA, q.1, q.2]⟩
theorem mem_has {l : List AskD} (hu : UniqA l) {x : AskD} (hle : howR l x.tx x.key ≤ x.mode) (hpos : 0 ≤ x.mode) (a : AskD) : a ∈ hasR l x ↔ a = x ∨ (a ∈ l ∧ ¬ (a.tx = x.tx ∧ a.key = x.key)) := by
  unfold hasR
  split
  · rename_i e
    obtain ⟨b, hb, q⟩ := List.any_eq_true.1 e
    simp [sameA] at q
    have hbm := how_in hu hb
    rw [q.1, q.2] at hbm
    rw [List.mem_map]
    constructor
    · rintro ⟨d, hd, rfl⟩
      by_cases hs : sameA x.tx x.key d = true
      · rw [if_pos hs]
        simp [sameA] at hs
        left
        have := uniq_eq hu hd hb (by rw [hs.1, q.1]) (by rw [hs.2, q.2])
        subst this
        obtain ⟨xt, xk, xm⟩ := x
        simp only at hle hbm hs hpos ⊢
        simp only [AskD.mk.injEq]
        exact ⟨hs.1, hs.2, by omega⟩
      · rw [if_neg hs]
        exact .inr ⟨hd, fun e => hs (by simp [sameA, e.1, e.2])⟩
    · rintro (rfl | ⟨ha, hne⟩)
      · refine ⟨b, hb, ?_⟩
        rw [if_pos (by simp [sameA, q.1, q.2])]
        obtain ⟨xt, xk, xm⟩ := a
        simp only at hle hbm q ⊢
        simp only [AskD.mk.injEq]
        exact ⟨q.1, q.2, by omega⟩
      · exact ⟨a, ha, by rw [if_neg (by simpa [sameA] using hne)]⟩
  · rename_i e
    rw [List.mem_append, List.mem_singleton]
    constructor
    · rintro (q | q)
      · exact .inr ⟨q, fun q2 => e (List.any_eq_true.2 ⟨a, q, by simp [sameA, q2.1, q2.2]⟩)⟩
      · exact .inl q
    · rintro (q | q)
      · exact .inr q
      · exact .inl q.1
end Go.Proofs.YtkoncehhpiegfaaGreatDoor
