/- Package locks: keys, the table; the law LocksApart (pure). -/
import Derived.Test.YtkoncehhpiegfaaGreatDoorQa
namespace Go.Proofs.YtkoncehhpiegfaaGreatDoor
set_option linter.unusedVariables false

structure KeyS where
  held : List ClmD
  waits : List ClmD
abbrev Tab := ByteArray → KeyS
def KeyS.bare (k : KeyS) : Prop := k.held = [] ∧ k.waits = []
def updK (s : Tab) (k : ByteArray) (x : KeyS) : Tab := fun y => if y = k then x else s y
/-- What Lock comes to at a key: the key, true: it has it, the wounded, the error. -/
def lockN (k : KeyS) (c : ClmD) : KeyS × Bool × List Int × Int :=
  if modeN k.waits c.tx ≠ 0 then (k, false, [], 9)
  else if c.mode ≤ modeN k.held c.tx then (k, true, [], 0)
  else if freeN k.held k.waits c then ({ k with held := withN k.held c }, true, [], 0)
  else if 50 ≤ k.waits.length then (k, false, [], 4)
  else ({ k with waits := withN k.waits c }, false, woundN k.held c, 0)
/-- Is a transaction at a key? -/
def atB (k : KeyS) (t : Int) : Bool := decide (modeN k.held t ≠ 0) || decide (modeN k.waits t ≠ 0)
/-- A key that a transaction leaves. -/
def outN (k : KeyS) (t : Int) : KeyS := ⟨(passN (leaveN k.held t) [] (leaveN k.waits t)).1, (passN (leaveN k.held t) [] (leaveN k.waits t)).2.1⟩
def gotN (k : KeyS) (t : Int) : List ClmD := (passN (leaveN k.held t) [] (leaveN k.waits t)).2.2
def relN (s : Tab) (t : Int) : Tab := fun k => if atB (s k) t then outN (s k) t else s k
/-- A key as it ought to be. -/
structure KeyOK (k : KeyS) : Prop where
  held : Elder k.held
  waits : Elder k.waits
  hmode : ∀ c ∈ k.held, c.mode = 1 ∨ c.mode = 2
  wmode : ∀ c ∈ k.waits, c.mode = 1 ∨ c.mode = 2
  wants : ∀ c ∈ k.waits, ∀ o ∈ k.held, o.tx = c.tx → o.mode < c.mode
theorem KeyOK.h0 {k : KeyS} (h : KeyOK k) : ∀ c ∈ k.held, c.mode ≠ 0 := fun c hc => by rcases h.hmode c hc with e | e <;> omega
theorem KeyOK.w0 {k : KeyS} (h : KeyOK k) : ∀ c ∈ k.waits, c.mode ≠ 0 := fun c hc => by rcases h.wmode c hc with e | e <;> omega
theorem KeyOK.nil : KeyOK ⟨[], []⟩ := ⟨List.Pairwise.nil, List.Pairwise.nil, by simp, by simp, by simp⟩
theorem lock_ok {k : KeyS} {c : ClmD} (h : KeyOK k) (hc : c.mode = 1 ∨ c.mode = 2) : KeyOK (lockN k c).1 := by
  unfold lockN
  split
  · exact h
  rename_i g1
  have g1' : modeN k.waits c.tx = 0 := Classical.byContradiction g1
  split
  · exact h
  rename_i g2
  split
  · refine ⟨elder_with h.held c, h.waits, fun o ho => ?_, h.wmode, fun d hd o ho e => ?_⟩
    · rcases (mem_with h.held c o).1 ho with rfl | ⟨ho, _⟩
      · exact hc
      · exact h.hmode o ho
    · rcases (mem_with h.held c o).1 ho with rfl | ⟨ho, _⟩
      · exact absurd e.symm ((mode_zero h.waits h.w0).1 g1' d hd)
      · exact h.wants d hd o ho e
  split
  · exact h
  · refine ⟨h.held, elder_with h.waits c, h.hmode, fun o ho => ?_, fun d hd o ho e => ?_⟩
    · rcases (mem_with h.waits c o).1 ho with rfl | ⟨ho, _⟩
      · exact hc
      · exact h.wmode o ho
    · rcases (mem_with h.waits c d).1 hd with rfl | ⟨hd, _⟩
      · have := mode_of h.held ho
        rw [e] at this
        omega
      · exact h.wants d hd o ho e
/-- Passing keeps that who waits wants more than it has. -/
theorem pass_wants : ∀ (q held kept : List ClmD), Elder held → Elder (kept ++ q) → (∀ c ∈ kept ++ q, ∀ o ∈ held, o.tx = c.tx → o.mode < c.mode) → ∀ c ∈ (passN held kept q).2.1, ∀ o ∈ (passN held kept q).1, o.tx = c.tx → o.mode < c.mode
  | [], held, kept, h1, h2, h3 => by simpa [passN] using h3
  | c :: q, held, kept, h1, h2, h3 => by
    unfold passN
    split
    · refine pass_wants q (withN held c) kept (elder_with h1 c) (h2.sublist (by simp)) (fun d hd o ho e => ?_)
      rcases (mem_with h1 c o).1 ho with rfl | ⟨ho, _⟩
      · exfalso
        rcases List.mem_append.1 hd with q1 | q1
        · have := (List.pairwise_append.1 h2).2.2 d q1 o (by simp); omega
        · have := List.rel_of_pairwise_cons (List.pairwise_append.1 h2).2.1 q1; omega
      · refine h3 d ?_ o ho e
        rcases List.mem_append.1 hd with q1 | q1
        · exact List.mem_append.2 (.inl q1)
        · exact List.mem_append.2 (.inr (List.mem_cons_of_mem _ q1))
    · exact pass_wants q held (kept ++ [c]) h1 (by simpa using h2) (by simpa using h3)
theorem out_ok {k : KeyS} (h : KeyOK k) (t : Int) : KeyOK (outN k t) := by
  obtain ⟨h1, h2⟩ := pass_elder (leaveN k.waits t) (leaveN k.held t) [] (elder_leave h.held t) (by simpa using elder_leave h.waits t)
  refine ⟨h1, h2, fun o ho => ?_, fun o ho => ?_, pass_wants _ _ _ (elder_leave h.held t) (by simpa using elder_leave h.waits t) (fun c hc o ho => h.wants c (by simp at hc; exact (mem_leave.1 hc).1) o (mem_leave.1 ho).1)⟩
  · rcases (pass_mem _ _ _ o).1 ho with q | q
    · exact h.hmode o (mem_leave.1 q).1
    · exact h.wmode o (mem_leave.1 q).1
  · rcases (pass_mem _ _ _ o).2.1 ho with q | q
    · simp at q
    · exact h.wmode o (mem_leave.1 q).1
theorem rel_ok {s : Tab} {k : ByteArray} (h : KeyOK (s k)) (t : Int) : KeyOK (relN s t k) := by
  unfold relN
  split
  · exact out_ok h t
  · exact h
theorem at_iff {k : KeyS} (h : KeyOK k) (t : Int) : atB k t = true ↔ (∃ c ∈ k.held, c.tx = t) ∨ ∃ c ∈ k.waits, c.tx = t := by
  unfold atB
  have e1 := mode_zero h.held h.h0 (t := t)
  have e2 := mode_zero h.waits h.w0 (t := t)
  simp only [Bool.or_eq_true, decide_eq_true_iff, ne_eq, e1, e2]
  constructor
  · rintro (q | q)
    · left; exact Classical.byContradiction fun n => q (fun c hc e => n ⟨c, hc, e⟩)
    · right; exact Classical.byContradiction fun n => q (fun c hc e => n ⟨c, hc, e⟩)
  · rintro (⟨c, hc, e⟩ | ⟨c, hc, e⟩)
    · exact .inl (fun q => q c hc e)
    · exact .inr (fun q => q c hc e)
/-- Whoever has left is not there. -/
theorem out_gone {k : KeyS} (t : Int) : (∀ c ∈ (outN k t).held, c.tx ≠ t) ∧ ∀ c ∈ (outN k t).waits, c.tx ≠ t := by
  refine ⟨fun c hc => ?_, fun c hc => ?_⟩
  · rcases (pass_mem _ _ _ c).1 hc with q | q
    · exact (mem_leave.1 q).2
    · exact (mem_leave.1 q).2
  · rcases (pass_mem _ _ _ c).2.1 hc with q | q
    · simp at q
    · exact (mem_leave.1 q).2
theorem rel_gone {s : Tab} {k : ByteArray} (h : KeyOK (s k)) (t : Int) : (∀ c ∈ (relN s t k).held, c.tx ≠ t) ∧ ∀ c ∈ (relN s t k).waits, c.tx ≠ t := by
  unfold relN
  split
  · exact out_gone t
  · rename_i q
    have := mt (at_iff h t).2 q
    exact ⟨fun c hc e => this (.inl ⟨c, hc, e⟩), fun c hc e => this (.inr ⟨c, hc, e⟩)⟩

def inK (P : List ByteArray) (k : ByteArray) : Bool := P.any fun y => decide (y = k)
theorem inK_iff {P : List ByteArray} {k : ByteArray} : inK P k = true ↔ k ∈ P := by
  unfold inK
  rw [List.any_eq_true]
  constructor
  · rintro ⟨y, hy, e⟩
    simp only [decide_eq_true_iff] at e
    rw [← e]; exact hy
  · exact fun h => ⟨k, h, by simp⟩
/-! The law LocksApart. -/
/-- Nobody is in the way: but for those of W, who are wounded. -/
structure Apart (W : List Int) (k : KeyS) : Prop where
  ok : KeyOK k
  alone : ∀ a ∈ k.held, ∀ b ∈ k.held, inWayB a b = false
  stuck : ∀ c ∈ k.waits, freeN k.held k.waits c = false
  elder : ∀ c ∈ k.waits, ∀ a ∈ k.held, inWayB a c = true → a.tx < c.tx ∨ a.tx ∈ W
theorem way_comm (a b : ClmD) : inWayB a b = inWayB b a := by
  unfold inWayB
  rw [show decide (a.tx ≠ b.tx) = decide (b.tx ≠ a.tx) by simp only [ne_eq, eq_comm], Bool.or_comm]
theorem way_self (a : ClmD) : inWayB a a = false := by simp [inWayB]
theorem way_same {a b : ClmD} (h : a.tx = b.tx) : inWayB a b = false := by simp [inWayB, h]
theorem Apart.nil (W : List Int) : Apart W ⟨[], []⟩ := ⟨KeyOK.nil, by simp, by simp, by simp⟩
theorem free_iff {held waits : List ClmD} {c : ClmD} : freeN held waits c = true ↔ (∀ o ∈ held, inWayB o c = false) ∧ ∀ o ∈ waits, o.tx < c.tx → inWayB o c = false := by
  unfold freeN
  simp only [Bool.and_eq_true, Bool.not_eq_true', List.any_eq_false, Bool.not_eq_true, decide_eq_true_iff]
  constructor
  · rintro ⟨h1, h2⟩
    refine ⟨h1, fun o ho hl => ?_⟩
    cases hi : inWayB o c with
    | false => rfl
    | true => exact absurd ⟨hl, hi⟩ (h2 o ho)
  · rintro ⟨h1, h2⟩
    refine ⟨h1, fun o ho hl => ?_⟩
    have := h2 o ho hl.1
    rw [hl.2] at this; cases this
/-- A greater mode is in the way of more. -/
theorem way_more {a b c : ClmD} (ht : a.tx = b.tx) (hm : a.mode = 2 → b.mode = 2) (h : inWayB a c = true) : inWayB b c = true := by
  unfold inWayB at *
  simp only [Bool.and_eq_true, Bool.or_eq_true, decide_eq_true_iff] at *
  exact ⟨by rw [← ht]; exact h.1, h.2.imp hm id⟩
/-- Those that hold are no fewer. -/
def Over (h h' : List ClmD) : Prop := ∀ a ∈ h, ∃ b ∈ h', a.tx = b.tx ∧ (a.mode = 2 → b.mode = 2)
theorem Over.refl (h : List ClmD) : Over h h := fun a ha => ⟨a, ha, rfl, id⟩
theorem Over.trans {a b c : List ClmD} (h : Over a b) (k : Over b c) : Over a c := fun x hx => by
  obtain ⟨y, hy, e1, e2⟩ := h x hx
  obtain ⟨z, hz, e3, e4⟩ := k y hy
  exact ⟨z, hz, e1.trans e3, fun e => e4 (e2 e)⟩
/-- Whoever may have a key gets it no worse. -/
theorem over_with {held : List ClmD} (hr : Elder held) {c : ClmD} (hc : c.mode = 1 ∨ c.mode = 2) (hup : ∀ o ∈ held, o.tx = c.tx → o.mode = 2 → c.mode = 2) : Over held (withN held c) := fun a ha => by
  by_cases e : a.tx = c.tx
  · exact ⟨c, (mem_with hr c c).2 (.inl rfl), e, hup a ha e⟩
  · exact ⟨a, (mem_with hr c a).2 (.inr ⟨ha, e⟩), rfl, id⟩
theorem not_free_over {held held' waits waits' : List ClmD} {c : ClmD} (h : freeN held waits c = false) (ho : Over held held') (hw : ∀ o ∈ waits, o.tx < c.tx → o ∈ waits') : freeN held' waits' c = false := by
  cases hf : freeN held' waits' c with
  | false => rfl
  | true =>
    exfalso
    obtain ⟨h1, h2⟩ := free_iff.1 hf
    have : freeN held waits c = true := free_iff.2 ⟨fun o hoo => ?_, fun o hoo hl => h2 o (hw o hoo hl) hl⟩
    · rw [h] at this; cases this
    · cases hi : inWayB o c with
      | false => rfl
      | true =>
        obtain ⟨b, hb, e1, e2⟩ := ho o hoo
        have := way_more e1 e2 hi
        rw [h1 b hb] at this; cases this
/-- The step of one who gets a key. -/
theorem apart_held {W : List Int} {held waits : List ClmD} {c : ClmD} (hr : Elder held) (ha : ∀ a ∈ held, ∀ b ∈ held, inWayB a b = false) (hf : ∀ o ∈ held, inWayB o c = false) : ∀ a ∈ withN held c, ∀ b ∈ withN held c, inWayB a b = false := fun a h1 b h2 => by
  rcases (mem_with hr c a).1 h1 with rfl | ⟨h1', _⟩
  · rcases (mem_with hr a b).1 h2 with rfl | ⟨h2, _⟩
    · exact way_self _
    · rw [way_comm]; exact hf b h2
  · rcases (mem_with hr c b).1 h2 with rfl | ⟨h2, _⟩
    · exact hf a h1'
    · exact ha a h1' b h2
/-- Who goes through finds all as it ought to be. -/
theorem pass_apart (W : List Int) : ∀ (q held kept : List ClmD), Elder held → Elder (kept ++ q) → (∀ c ∈ held, c.mode = 1 ∨ c.mode = 2) → (∀ c ∈ kept ++ q, c.mode = 1 ∨ c.mode = 2) →
    (∀ a ∈ held, ∀ b ∈ held, inWayB a b = false) → (∀ c ∈ kept, freeN held kept c = false) → (∀ c ∈ kept ++ q, ∀ a ∈ held, inWayB a c = true → a.tx < c.tx ∨ a.tx ∈ W) → (∀ c ∈ kept ++ q, ∀ o ∈ held, o.tx = c.tx → o.mode < c.mode) →
    Apart W ⟨(passN held kept q).1, (passN held kept q).2.1⟩
  | [], held, kept, h1, h2, h3, h4, h5, h6, h7, h8 => by
    simp only [List.append_nil] at *
    exact ⟨⟨h1, h2, h3, h4, h8⟩, h5, h6, h7⟩
  | c :: q, held, kept, h1, h2, h3, h4, h5, h6, h7, h8 => by
    have hcm := h4 c (by simp)
    unfold passN
    split
    · rename_i hf
      obtain ⟨f1, f2⟩ := free_iff.1 hf
      have hlt : ∀ o ∈ kept, o.tx < c.tx := fun o ho => (List.pairwise_append.1 h2).2.2 o ho c (by simp)
      have hgt : ∀ o ∈ q, c.tx < o.tx := fun o ho => List.rel_of_pairwise_cons (List.pairwise_append.1 h2).2.1 ho
      have hin : ∀ o, o ∈ kept ++ q → o ∈ kept ++ c :: q := fun o ho => by
        rcases List.mem_append.1 ho with e | e
        · exact List.mem_append.2 (.inl e)
        · exact List.mem_append.2 (.inr (List.mem_cons_of_mem _ e))
      have hov : Over held (withN held c) := over_with h1 hcm (fun o ho e e2 => by have := h8 c (by simp) o ho e; omega)
      refine pass_apart W q (withN held c) kept (elder_with h1 c) (h2.sublist (by simp)) (fun o ho => ?_) (fun o ho => h4 o (hin o ho)) (apart_held (W := W) (waits := []) h1 h5 f1) (fun o ho => not_free_over (h6 o ho) hov (fun _ h _ => h)) (fun o ho a ha hw => ?_) (fun o ho a ha e => ?_)
      · rcases (mem_with h1 c o).1 ho with rfl | ⟨ho, _⟩
        · exact hcm
        · exact h3 o ho
      · rcases (mem_with h1 c a).1 ha with rfl | ⟨ha, _⟩
        · rcases List.mem_append.1 ho with e | e
          · rw [way_comm, f2 o e (hlt o e)] at hw; cases hw
          · exact .inl (hgt o e)
        · exact h7 o (hin o ho) a ha hw
      · rcases (mem_with h1 c a).1 ha with rfl | ⟨ha, _⟩
        · exfalso
          rcases List.mem_append.1 ho with q1 | q1
          · have := hlt o q1; omega
          · have := hgt o q1; omega
        · exact h8 o (hin o ho) a ha e
    · rename_i hf
      simp only [Bool.not_eq_true] at hf
      have hcons : kept ++ c :: q = kept ++ [c] ++ q := by simp
      rw [hcons] at h2 h4 h7 h8
      have hlt : ∀ o ∈ kept, o.tx < c.tx := fun o ho => (List.pairwise_append.1 (List.pairwise_append.1 h2).1).2.2 o ho c (by simp)
      refine pass_apart W q held (kept ++ [c]) h1 h2 h3 h4 h5 (fun o ho => ?_) h7 h8
      rcases List.mem_append.1 ho with e | e
      · exact not_free_over (h6 o e) (Over.refl _) (fun x hx _ => List.mem_append.2 (.inl hx))
      · simp at e
        subst e
        exact not_free_over hf (Over.refl _) (fun x hx _ => List.mem_append.2 (.inl hx))
theorem apart_out {W : List Int} {k : KeyS} (h : Apart W k) (t : Int) : Apart W (outN k t) := by
  refine pass_apart W _ _ _ (elder_leave h.ok.held t) (by simpa using elder_leave h.ok.waits t) (fun c hc => h.ok.hmode c (mem_leave.1 hc).1) (fun c hc => h.ok.wmode c ?_) (fun a ha b hb => h.alone a (mem_leave.1 ha).1 b (mem_leave.1 hb).1) (by simp) (fun c hc a ha => h.elder c ?_ a (mem_leave.1 ha).1) (fun c hc a ha => h.ok.wants c ?_ a (mem_leave.1 ha).1)
  · simp at hc; exact (mem_leave.1 hc).1
  · simp at hc; exact (mem_leave.1 hc).1
  · simp at hc; exact (mem_leave.1 hc).1
theorem Apart.less {W : List Int} {k : KeyS} {t : Int} (h : Apart (t :: W) k) (hg : ∀ c ∈ k.held, c.tx ≠ t) : Apart W k :=
  ⟨h.ok, h.alone, h.stuck, fun c hc a ha hw => (h.elder c hc a ha hw).imp id (fun e => (List.mem_cons.1 e).resolve_left (hg a ha))⟩
theorem apart_lock {W : List Int} {k : KeyS} {c : ClmD} (h : Apart W k) (hc : c.mode = 1 ∨ c.mode = 2) : Apart ((lockN k c).2.2.1 ++ W) (lockN k c).1 ∧ (∀ x ∈ (lockN k c).2.2.1, c.tx < x) := by
  have hok := lock_ok h.ok hc
  revert hok
  unfold lockN
  split
  · exact fun _ => ⟨by simpa using h, by simp⟩
  rename_i g1
  have g1' : modeN k.waits c.tx = 0 := Classical.byContradiction g1
  have g1'' := (mode_zero h.ok.waits h.ok.w0).1 g1'
  split
  · exact fun _ => ⟨by simpa using h, by simp⟩
  rename_i g2
  have g2' : ∀ o ∈ k.held, o.tx = c.tx → o.mode < c.mode := fun o ho e => by
    have := mode_of h.ok.held ho
    rw [e] at this
    omega
  split
  · rename_i hf
    obtain ⟨f1, f2⟩ := free_iff.1 hf
    intro hok
    have hov : Over k.held (withN k.held c) := over_with h.ok.held hc (fun o ho e e2 => by have := g2' o ho e; omega)
    refine ⟨⟨hok, apart_held (W := W) (waits := []) h.ok.held h.alone f1, fun d hd => not_free_over (h.stuck d hd) hov (fun _ h _ => h), fun d hd a ha hw => ?_⟩, by simp⟩
    rcases (mem_with h.ok.held c a).1 ha with rfl | ⟨ha, _⟩
    · left
      rcases Int.lt_trichotomy a.tx d.tx with q | q | q
      · exact q
      · rw [way_same q] at hw; cases hw
      · rw [way_comm, f2 d hd q] at hw; cases hw
    · exact (h.elder d hd a ha hw).imp id (fun e => by simpa using e)
  rename_i hf
  simp only [Bool.not_eq_true] at hf
  split
  · exact fun _ => ⟨by simpa using h, by simp⟩
  · intro hok
    have hwd : ∀ x, x ∈ woundN k.held c ↔ ∃ o ∈ k.held, o.tx = x ∧ c.tx < x ∧ inWayB o c = true := fun x => by
      unfold woundN sparedB
      simp only [List.mem_map, List.mem_filter, Bool.not_or, Bool.not_not, Bool.and_eq_true, Bool.not_eq_true', decide_eq_false_iff_not]
      constructor
      · rintro ⟨o, ⟨h1, h2, h3⟩, rfl⟩
        refine ⟨o, h1, rfl, ?_, h3⟩
        have : o.tx ≠ c.tx := fun e => by rw [way_same e] at h3; cases h3
        omega
      · rintro ⟨o, h1, rfl, h2, h3⟩
        exact ⟨o, ⟨h1, by omega, h3⟩, rfl⟩
    refine ⟨⟨hok, h.alone, fun d hd => ?_, fun d hd a ha hw => ?_⟩, fun x hx => ?_⟩
    · rcases (mem_with h.ok.waits c d).1 hd with rfl | ⟨hd, _⟩
      · exact not_free_over hf (Over.refl _) (fun x hx _ => (mem_with h.ok.waits d x).2 (.inr ⟨hx, g1'' x hx⟩))
      · exact not_free_over (h.stuck d hd) (Over.refl _) (fun x hx _ => (mem_with h.ok.waits c x).2 (.inr ⟨hx, g1'' x hx⟩))
    · rcases (mem_with h.ok.waits c d).1 hd with rfl | ⟨hd, _⟩
      · rcases Int.lt_trichotomy a.tx d.tx with q | q | q
        · exact .inl q
        · rw [way_same q] at hw; cases hw
        · exact .inr (List.mem_append.2 (.inl ((hwd a.tx).2 ⟨a, ha, rfl, q, hw⟩)))
      · exact (h.elder d hd a ha hw).imp id (fun e => List.mem_append.2 (.inr e))
    · obtain ⟨o, _, _, q, _⟩ := (hwd x).1 hx
      exact q
theorem Apart.more {W W' : List Int} {k : KeyS} (h : Apart W k) (hs : ∀ x ∈ W, x ∈ W') : Apart W' k :=
  ⟨h.ok, h.alone, h.stuck, fun c hc a ha hw => (h.elder c hc a ha hw).imp id (hs _)⟩
theorem apart_rel {W : List Int} {s : Tab} {t : Int} (h : ∀ k, Apart (t :: W) (s k)) : ∀ k, Apart W (relN s t k) := fun k => by
  have hg := (rel_gone (h k).ok t).1
  refine Apart.less (t := t) ?_ hg
  unfold relN
  split
  · exact apart_out (h k) t
  · exact h k
/-- What the law counts: who holds, who writes, the youngest one. -/
def accN (m : Nat → Int) : Nat → Int × Int × Int
  | 0 => (0, 0, -1)
  | x + 1 => if m x = 1 then ((accN m x).1 + 1, (accN m x).2.1, (x : Int)) else if m x = 2 then ((accN m x).1 + 1, (accN m x).2.1 + 1, (x : Int)) else accN m x
theorem acc_bound (m : Nat → Int) : ∀ x : Nat, 0 ≤ (accN m x).1 ∧ (accN m x).1 ≤ x ∧ 0 ≤ (accN m x).2.1 ∧ (accN m x).2.1 ≤ x ∧ -1 ≤ (accN m x).2.2 ∧ (accN m x).2.2 < x
  | 0 => by simp [accN]
  | x + 1 => by
    have ih := acc_bound m x
    unfold accN
    split
    · simp only; omega
    split
    · simp only; omega
    · omega
theorem acc_some (m : Nat → Int) : ∀ (x y : Nat), y < x → (m y = 1 ∨ m y = 2) → 0 < (accN m x).1
  | 0, y, h, _ => by omega
  | x + 1, y, h, hm => by
    have hb := acc_bound m x
    unfold accN
    split
    · simp only; omega
    split
    · simp only; omega
    · by_cases e : y = x
      · subst e; rename_i h1 h2; rcases hm with q | q
        · exact absurd q h1
        · exact absurd q h2
      · exact acc_some m x y (by omega) hm
theorem acc_zero (m : Nat → Int) : ∀ (x : Nat), (∀ y, y < x → m y ≠ 1 ∧ m y ≠ 2) → accN m x = (0, 0, -1)
  | 0, _ => rfl
  | x + 1, h => by
    unfold accN
    rw [if_neg (h x (by omega)).1, if_neg (h x (by omega)).2]
    exact acc_zero m x (fun y hy => h y (by omega))
/-- Where one writes nobody else holds. -/
theorem acc_write (m : Nat → Int) (hm : ∀ y z : Nat, m y = 2 → y ≠ z → m z ≠ 1 ∧ m z ≠ 2) : ∀ (x : Nat), 0 < (accN m x).2.1 → (accN m x).1 = 1 ∧ ∃ y : Nat, y < x ∧ m y = 2 ∧ (accN m x).2.2 = y
  | 0, h => by simp [accN] at h
  | x + 1, h => by
    unfold accN at h ⊢
    split
    · rename_i e
      rw [if_pos e] at h
      simp only at h
      obtain ⟨_, y, hy, h2, _⟩ := acc_write m hm x h
      exact absurd e (hm y x h2 (by omega)).1
    · rename_i e
      rw [if_neg e] at h
      split
      · rename_i e2
        rw [acc_zero m x (fun y hy => hm x y e2 (by omega))]
        exact ⟨rfl, x, by omega, e2, rfl⟩
      · rename_i e2
        rw [if_neg e2] at h
        obtain ⟨h1, y, hy, h2, h3⟩ := acc_write m hm x h
        exact ⟨h1, y, by omega, h2, h3⟩
/-- What the law asks of a key. -/
theorem apart_law {k : KeyS} (h : Apart [] k) (n : Nat) (hh : ∀ c ∈ k.held, 0 ≤ c.tx ∧ c.tx < n) (m : Nat → Int) (hm : ∀ y, m y = modeN k.held y) :
    ¬ (0 < (accN m n).2.1 ∧ 1 < (accN m n).1) ∧ ∀ c ∈ k.waits, (accN m n).1 ≠ 0 ∧ ¬ (0 < (accN m n).2.1 ∧ c.tx < (accN m n).2.2) := by
  have hin : ∀ (y : Nat) (a : Int), a ≠ 0 → m y = a → (⟨y, a⟩ : ClmD) ∈ k.held := fun y a ha e => (mode_eq h.ok.held h.ok.h0 ha).1 (by rw [← hm]; exact e)
  have hw : ∀ y z : Nat, m y = 2 → y ≠ z → m z ≠ 1 ∧ m z ≠ 2 := fun y z e hne => by
    have h1 := hin y 2 (by omega) e
    constructor
    · intro e2
      have := h.alone _ h1 _ (hin z 1 (by omega) e2)
      simp [inWayB] at this
      omega
    · intro e2
      have := h.alone _ h1 _ (hin z 2 (by omega) e2)
      simp [inWayB] at this
      omega
  refine ⟨fun ⟨q1, q2⟩ => ?_, fun c hc => ⟨fun e => ?_, fun ⟨q1, q2⟩ => ?_⟩⟩
  · have := (acc_write m hw n q1).1
    omega
  · -- the eldest one who waits waits for a holder
    have hne : k.held ≠ [] := fun e0 => by
      cases hwl : k.waits with
      | nil => rw [hwl] at hc; simp at hc
      | cons d l =>
        have := h.stuck d (by rw [hwl]; simp)
        have hf : freeN k.held k.waits d = true := free_iff.2 ⟨by rw [e0]; simp, fun o ho hl => by
          rw [hwl] at ho
          rcases List.mem_cons.1 ho with rfl | ho
          · exact way_self _
          · have hr := h.ok.waits
            rw [hwl] at hr
            have := List.rel_of_pairwise_cons hr ho
            omega⟩
        rw [hf] at this; cases this
    cases hhl : k.held with
    | nil => exact hne hhl
    | cons d l =>
      have hd : d ∈ k.held := by rw [hhl]; simp
      obtain ⟨b1, b2⟩ := hh d hd
      obtain ⟨y, hy⟩ : ∃ y : Nat, d.tx = y := ⟨d.tx.toNat, by omega⟩
      have hmd := mode_of h.ok.held hd
      rw [hy, ← hm] at hmd
      have := acc_some m n y (by omega) (by rw [hmd]; exact h.ok.hmode d hd)
      omega
  · obtain ⟨_, y, hy, h2, h3⟩ := acc_write m hw n q1
    have h4 := hin y 2 (by omega) h2
    have hway : inWayB ⟨y, 2⟩ c = true := by
      simp [inWayB]
      omega
    rcases h.elder c hc _ h4 hway with q | q
    · simp only at q; omega
    · simp at q
end Go.Proofs.YtkoncehhpiegfaaGreatDoor
