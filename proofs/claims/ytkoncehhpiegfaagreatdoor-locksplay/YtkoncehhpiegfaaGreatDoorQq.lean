/- The law LocksPlay: both tables side by side (pure). -/
import Derived.Test.YtkoncehhpiegfaaGreatDoorQp
namespace Go.Proofs.YtkoncehhpiegfaaGreatDoor
set_option linter.unusedVariables false

def clmOf (a : AskD) : ClmD := ⟨a.tx, a.mode⟩
theorem RelT.empty : RelT (fun _ => ⟨[], []⟩) ⟨[], []⟩ := ⟨by simp, by simp, List.Pairwise.nil, List.Pairwise.nil⟩
/-- Somebody gets a key. -/
theorem RelT.got {s : Tab} {r : RefT} (h : RelT s r) {x : AskD} (hk : KeyOK (s x.key)) (hm : modeN (s x.key).held x.tx ≤ x.mode) (h0 : 0 ≤ x.mode) : RelT (updK s x.key { s x.key with held := withN (s x.key).held (clmOf x) }) ⟨hasR r.holds x, r.waits⟩ := by
  have hmem := fun a => mem_has h.uh (x := x) (by rw [h.how hk]; exact hm) h0 a
  refine ⟨fun k c => ?_, fun k c => ?_, uniq_has h.uh x, h.uw⟩
  · rw [hmem]
    by_cases e : k = x.key
    · subst e
      unfold updK
      rw [if_pos rfl]
      simp only
      rw [mem_with hk.held, h.held]
      obtain ⟨xt, xk, xm⟩ := x
      obtain ⟨ct, cm⟩ := c
      simp [clmOf]
    · unfold updK
      rw [if_neg e, h.held]
      constructor
      · rintro (q | q)
        · exact absurd (by rw [← q]) e
        · exact q.1
      · intro q
        exact .inr ⟨q, fun q2 => e q2.2⟩
  · rw [h.waits]
    unfold updK
    split
    · rename_i e; subst e; rfl
    · rfl
/-- What they had already. -/
theorem RelT.same {s : Tab} {r : RefT} (h : RelT s r) {x : AskD} (hk : KeyOK (s x.key)) (hx : x.mode = 1 ∨ x.mode = 2) (hm : x.mode ≤ modeN (s x.key).held x.tx) : hasR r.holds x = r.holds := by
  have hex : ∃ c ∈ (s x.key).held, c.tx = x.tx := Classical.byContradiction fun n => by
    rw [mode_none (fun c hc e => n ⟨c, hc, e⟩)] at hm; omega
  obtain ⟨c, hc, ht⟩ := hex
  have hin := (h.held x.key c).2 hc
  have hmc := mode_of hk.held hc
  rw [ht] at hmc
  unfold hasR
  rw [if_pos (List.any_eq_true.2 ⟨_, hin, by simp [sameA, ht]⟩)]
  conv => rhs; rw [← List.map_id r.holds]
  refine List.map_congr_left (fun a ha => ?_)
  split
  · rename_i e
    simp [sameA] at e
    have := uniq_eq h.uh ha hin (by simp [e.1, ht]) e.2
    subst this
    simp only [id]
    congr 1
    simp only at *
    omega
  · rfl
theorem uniq_snoc {l : List AskD} (hu : UniqA l) {x : AskD} (h : l.any (sameA x.tx x.key) = false) : UniqA (l ++ [x]) := by
  unfold UniqA
  rw [List.pairwise_append]
  refine ⟨hu, by simp, fun a ha b hb q => ?_⟩
  simp at hb
  subst hb
  rw [List.any_eq_false] at h
  exact h a ha (by simp [sameA, q.1, q.2])
/-- Somebody waits. -/
theorem RelT.waited {s : Tab} {r : RefT} (h : RelT s r) {x : AskD} (hk : KeyOK (s x.key)) (hm : modeN (s x.key).waits x.tx = 0) : RelT (updK s x.key { s x.key with waits := withN (s x.key).waits (clmOf x) }) ⟨r.holds, r.waits ++ [x]⟩ := by
  have hno := (mode_zero hk.waits hk.w0).1 hm
  refine ⟨fun k c => ?_, fun k c => ?_, h.uh, uniq_snoc h.uw (by rw [h.twice hk]; simp [hm])⟩
  · rw [h.held]
    unfold updK
    split
    · rename_i e; subst e; rfl
    · rfl
  · rw [List.mem_append, List.mem_singleton, h.waits]
    unfold updK
    by_cases e : k = x.key
    · subst e
      rw [if_pos rfl]
      simp only
      rw [mem_with hk.waits]
      obtain ⟨xt, xk, xm⟩ := x
      obtain ⟨ct, cm⟩ := c
      simp only [clmOf, ClmD.mk.injEq, AskD.mk.injEq, true_and]
      constructor
      · rintro (q | q)
        · exact .inr ⟨q, hno _ q⟩
        · exact .inl q
      · rintro (q | q)
        · exact .inr q
        · exact .inl q.1
    · rw [if_neg e]
      constructor
      · rintro (q | q)
        · exact q
        · exact absurd (by rw [← q]) e
      · exact .inl
/-- What the document's Lock comes to; l: those in the way, in order. -/
def lockR (r : RefT) (x : AskD) (l : List Int) : RefT × Bool × List Int × Int :=
  if r.waits.any (sameA x.tx x.key) then (r, false, [], 9)
  else if mayR r x then (⟨hasR r.holds x, r.waits⟩, true, [], 0)
  else if 50 ≤ (waitR r.waits x.key).length then (r, false, [], 4)
  else (⟨r.holds, r.waits ++ [x]⟩, false, l.filter (fun t => decide (t > x.tx)), 0)
theorem updK_same (s : Tab) (k : ByteArray) : updK s k (s k) = s := by
  funext y; unfold updK; split
  · rename_i e; rw [e]
  · rfl
theorem RelT.lock {s : Tab} {r : RefT} (h : RelT s r) {x : AskD} (hk : KeyOK (s x.key)) (hx : x.mode = 1 ∨ x.mode = 2) {l : List Int} (hp : l.Perm (wayR r.holds x)) (hs : l.Pairwise (· ≤ ·)) :
    RelT (updK s x.key (lockN (s x.key) (clmOf x)).1) (lockR r x l).1 ∧ (lockR r x l).2 = (lockN (s x.key) (clmOf x)).2 := by
  show RelT (updK s x.key (lockN (s x.key) ⟨x.tx, x.mode⟩).1) (lockR r x l).1 ∧ (lockR r x l).2 = (lockN (s x.key) ⟨x.tx, x.mode⟩).2
  unfold lockR lockN
  rw [h.twice hk, h.may hk]
  have hlen : (waitR r.waits x.key).length = (s x.key).waits.length := by
    have hps := (List.mergeSort_perm (waitR r.waits x.key) (fun a b => decide (a ≤ b)))
    have := h.wait_sorted hk hps (by
      have := List.pairwise_mergeSort (le := fun a b : Int => decide (a ≤ b)) (fun a b c h1 h2 => by simp only [decide_eq_true_iff] at *; omega) (fun a b => by simp only [Bool.or_eq_true, decide_eq_true_iff]; omega) (waitR r.waits x.key)
      exact List.Pairwise.imp (fun h => by simpa using h) this)
    rw [← hps.length_eq, this, List.length_map]
  rw [hlen]
  simp only [decide_eq_true_iff]
  by_cases g1 : modeN (s x.key).waits x.tx = 0
  · simp only [g1, ne_eq, not_true_eq_false, if_false]
    by_cases g2 : x.mode ≤ modeN (s x.key).held x.tx
    · simp only [g2, decide_true, Bool.true_or, if_true]
      rw [h.same hk hx g2, updK_same]
      simp only [and_true]
      exact h
    · simp only [g2, decide_false, Bool.false_or, if_false]
      by_cases g3 : freeN (s x.key).held (s x.key).waits ⟨x.tx, x.mode⟩ = true
      · rw [if_pos g3, if_pos g3]
        exact ⟨h.got hk (by omega) (by omega), rfl⟩
      · rw [if_neg g3, if_neg g3]
        by_cases g4 : 50 ≤ (s x.key).waits.length
        · rw [if_pos g4, if_pos g4, updK_same]
          exact ⟨h, rfl⟩
        · rw [if_neg g4, if_neg g4]
          exact ⟨h.waited hk g1, by rw [h.way_sorted hk hp hs]⟩
  · simp only [g1, ne_eq, not_false_eq_true, if_true]
    rw [updK_same]
    simp only [and_true]
    exact h
/-- A transaction that lets all go, ahead of what others get by it. -/
def cutR (r : RefT) (t : Int) : RefT := ⟨r.holds.filter fun a => decide (a.tx ≠ t), r.waits.filter fun a => decide (a.tx ≠ t)⟩
def cutS (s : Tab) (t : Int) : Tab := fun k => ⟨leaveN (s k).held t, leaveN (s k).waits t⟩
theorem RelT.cut {s : Tab} {r : RefT} (h : RelT s r) (t : Int) : RelT (cutS s t) (cutR r t) := by
  refine ⟨fun k c => ?_, fun k c => ?_, h.uh.sublist List.filter_sublist, h.uw.sublist List.filter_sublist⟩
  · simp only [cutR, cutS, mem_leave, List.mem_filter, h.held k c, decide_eq_true_iff]
  · simp only [cutR, cutS, mem_leave, List.mem_filter, h.waits k c, decide_eq_true_iff]
/-- One who waits asks once more: w at a key. -/
def askR (r : RefT) (k : ByteArray) (t : Int) : RefT × List AskD := match r.waits.find? (sameA t k) with
  | none => (r, [])
  | some a => if mayR r a then (⟨hasR r.holds a, withoutR r.waits a⟩, [a]) else (r, [])
/-- .. those of one key. -/
def asksR (k : ByteArray) : List Int → RefT → RefT × List AskD
  | [], r => (r, [])
  | t :: l, r => ((asksR k l (askR r k t).1).1, (askR r k t).2 ++ (asksR k l (askR r k t).1).2)
theorem find_sameA {l : List AskD} (hu : UniqA l) {a : AskD} (ha : a ∈ l) : l.find? (sameA a.tx a.key) = some a := by
  cases hf : l.find? (sameA a.tx a.key) with
  | none => exact absurd (List.find?_eq_none.1 hf a ha) (by simp [sameA])
  | some b =>
    have h1 := List.mem_of_find?_eq_some hf
    have h2 := List.find?_some hf
    simp [sameA] at h2
    rw [uniq_eq hu h1 ha h2.1 h2.2]
theorem updK_updK (s : Tab) (k : ByteArray) (a b : KeyS) : updK (updK s k a) k b = updK s k b := by
  funext y; unfold updK; split <;> rfl
theorem updK_at (s : Tab) (k : ByteArray) (a : KeyS) : updK s k a k = a := by unfold updK; rw [if_pos rfl]
/-- Who waits at a key goes through, in both tables. -/
theorem RelT.pass (k : ByteArray) : ∀ (q held kept : List ClmD) (s : Tab) (r : RefT), RelT (updK s k ⟨held, kept ++ q⟩) r → KeyOK ⟨held, kept ++ q⟩ →
    RelT (updK s k ⟨(passN held kept q).1, (passN held kept q).2.1⟩) (asksR k (q.map (·.tx)) r).1 ∧ (asksR k (q.map (·.tx)) r).2 = (passN held kept q).2.2.map fun c => ⟨c.tx, k, c.mode⟩
  | [], held, kept, s, r, h, hk => by
    simp only [List.append_nil] at h
    exact ⟨by simpa [passN, asksR] using h, rfl⟩
  | c :: q, held, kept, s, r, h, hk => by
    have hin : (⟨c.tx, k, c.mode⟩ : AskD) ∈ r.waits := (h.waits k c).2 (by rw [updK_at]; simp)
    have hkk : KeyOK (updK s k ⟨held, kept ++ c :: q⟩ k) := by rw [updK_at]; exact hk
    have hmay := h.may (x := ⟨c.tx, k, c.mode⟩) hkk
    simp only [updK_at] at hmay
    have hlt : modeN held c.tx < c.mode := by
      by_cases e : ∃ o ∈ held, o.tx = c.tx
      · obtain ⟨o, ho, e⟩ := e
        have := hk.wants c (by simp) o ho e
        rw [← e, mode_of hk.held ho]
        exact this
      · rw [mode_none (fun o ho e2 => e ⟨o, ho, e2⟩)]
        have := hk.wmode c (by simp)
        omega
    have hel := hk.waits
    have hfree : freeN held (kept ++ c :: q) c = freeN held kept c := by
      rw [Bool.eq_iff_iff, free_iff, free_iff]
      constructor
      · rintro ⟨h1, h2⟩
        exact ⟨h1, fun o ho hl => h2 o (List.mem_append.2 (.inl ho)) hl⟩
      · rintro ⟨h1, h2⟩
        refine ⟨h1, fun o ho hl => ?_⟩
        rcases List.mem_append.1 ho with e | e
        · exact h2 o e hl
        · rcases List.mem_cons.1 e with rfl | e
          · exact way_self _
          · have := List.rel_of_pairwise_cons (List.pairwise_append.1 hel).2.1 e
            omega
    have hmay2 : mayR r ⟨c.tx, k, c.mode⟩ = freeN held kept c := by
      rw [hmay, hfree]
      simp only [show ¬ (c.mode ≤ modeN held c.tx) by omega, decide_false, Bool.false_or]
    have hask : askR r k c.tx = if freeN held kept c then (⟨hasR r.holds ⟨c.tx, k, c.mode⟩, withoutR r.waits ⟨c.tx, k, c.mode⟩⟩, [⟨c.tx, k, c.mode⟩]) else (r, []) := by
      unfold askR
      have := find_sameA h.uw hin
      simp only at this
      rw [this]
      simp only [hmay2]
    simp only [List.map_cons, asksR, hask]
    by_cases hf : freeN held kept c = true
    · simp only [hf, if_true, passN]
      have hg := h.got (x := ⟨c.tx, k, c.mode⟩) hkk (by simp only [updK_at]; omega) (by have := hk.wmode c (by simp); simp only; omega)
      simp only [updK_at, updK_updK, clmOf] at hg
      have hlt2 : ∀ o ∈ kept, o.tx < c.tx := fun o ho => (List.pairwise_append.1 hel).2.2 o ho c (by simp)
      have hgt2 : ∀ o ∈ q, c.tx < o.tx := fun o ho => List.rel_of_pairwise_cons (List.pairwise_append.1 hel).2.1 ho
      have hsub : (kept ++ q).Sublist (kept ++ c :: q) := by simp
      have hr2 : RelT (updK s k ⟨withN held c, kept ++ q⟩) ⟨hasR r.holds ⟨c.tx, k, c.mode⟩, withoutR r.waits ⟨c.tx, k, c.mode⟩⟩ := by
        refine ⟨fun y d => ?_, fun y d => ?_, hg.uh, hg.uw.sublist List.filter_sublist⟩
        · have := hg.held y d
          unfold updK at this ⊢
          split
          · rename_i e; rw [if_pos e] at this; exact this
          · rename_i e; rw [if_neg e] at this; exact this
        · have := hg.waits y d
          unfold withoutR
          rw [List.mem_filter, this]
          unfold updK
          split
          · rename_i e
            subst e
            simp only [List.mem_append, List.mem_cons, decide_eq_true_iff, ne_eq, AskD.mk.injEq]
            constructor
            · rintro ⟨q1 | rfl | q1, q2⟩
              · exact .inl q1
              · exact absurd (by simp) q2
              · exact .inr q1
            · rintro (q1 | q1)
              · exact ⟨.inl q1, fun e => by have := hlt2 d q1; omega⟩
              · exact ⟨.inr (.inr q1), fun e => by have := hgt2 d q1; omega⟩
          · rename_i e
            simp only [decide_eq_true_iff, ne_eq, AskD.mk.injEq]
            constructor
            · exact fun q => q.1
            · exact fun q => ⟨q, fun q2 => e q2.2.1⟩
      have hok : KeyOK ⟨withN held c, kept ++ q⟩ := by
        refine ⟨elder_with hk.held c, hel.sublist hsub, fun o ho => ?_, fun o ho => hk.wmode o (hsub.subset ho), fun d hd o ho e => ?_⟩
        · rcases (mem_with hk.held c o).1 ho with rfl | ⟨ho, _⟩
          · exact hk.wmode o (by simp)
          · exact hk.hmode o ho
        · rcases (mem_with hk.held c o).1 ho with rfl | ⟨ho, _⟩
          · exfalso
            rcases List.mem_append.1 hd with q1 | q1
            · have := hlt2 d q1; omega
            · have := hgt2 d q1; omega
          · exact hk.wants d (hsub.subset hd) o ho e
      obtain ⟨i1, i2⟩ := RelT.pass k q (withN held c) kept s _ hr2 hok
      exact ⟨i1, by simp only [i2, List.singleton_append, List.map_cons]⟩
    · simp only [hf, passN]
      have hcons : kept ++ c :: q = kept ++ [c] ++ q := by simp
      rw [hcons] at h hk
      obtain ⟨i1, i2⟩ := RelT.pass k q held (kept ++ [c]) s r h hk
      exact ⟨by simpa using i1, by simpa using i2⟩
/-- Where nobody can go through nothing comes of asking. -/
theorem RelT.stuck {s : Tab} {r : RefT} (h : RelT s r) {k : ByteArray} (hk : KeyOK (s k)) (hst : ∀ c ∈ (s k).waits, freeN (s k).held (s k).waits c = false) : ∀ (l : List Int), asksR k l r = (r, [])
  | [] => rfl
  | t :: l => by
    have : askR r k t = (r, []) := by
      unfold askR
      cases hf : r.waits.find? (sameA t k) with
      | none => rfl
      | some a =>
        have h1 := List.mem_of_find?_eq_some hf
        have h2 := List.find?_some hf
        simp [sameA] at h2
        obtain ⟨e1, e2⟩ := h2
        have hc := (h.waitsM a).1 h1
        have hkk : KeyOK (s a.key) := by rw [e2]; exact hk
        have hm := h.may (x := a) hkk
        have hlt : modeN (s a.key).held a.tx < a.mode := by
          by_cases e : ∃ o ∈ (s a.key).held, o.tx = a.tx
          · obtain ⟨o, ho, e⟩ := e
            have := hkk.wants _ hc o ho e
            rw [← e, mode_of hkk.held ho]
            exact this
          · rw [mode_none (fun o ho e2 => e ⟨o, ho, e2⟩)]
            have := hkk.wmode _ hc
            simp only at this
            omega
        have hst2 : freeN (s a.key).held (s a.key).waits ⟨a.tx, a.mode⟩ = false := by rw [e2] at hc ⊢; exact hst _ hc
        have : mayR r a = false := by
          rw [hm, hst2]
          simp only [show ¬ (a.mode ≤ modeN (s a.key).held a.tx) by omega, decide_false, Bool.or_self]
        simp [this]
    simp only [asksR, this, RelT.stuck h hk hst l, List.append_nil]
/-- A release under way: those of P are done. -/
def relP (s : Tab) (t : Int) (P : List ByteArray) : Tab := fun k => if inK P k then relN s t k else cutS s t k
def gotS (s : Tab) (t : Int) (k : ByteArray) : List ClmD := if atB (s k) t then gotN (s k) t else []
theorem cut_not {k : KeyS} (h : KeyOK k) {t : Int} (ha : atB k t = false) : (⟨leaveN k.held t, leaveN k.waits t⟩ : KeyS) = k := by
  have hn : ¬ atB k t = true := by rw [ha]; simp
  have h1 := mt (at_iff h t).2 hn
  have e1 : leaveN k.held t = k.held := List.filter_eq_self.2 (fun c hc => by simp; exact fun e => h1 (.inl ⟨c, hc, e⟩))
  have e2 : leaveN k.waits t = k.waits := List.filter_eq_self.2 (fun c hc => by simp; exact fun e => h1 (.inr ⟨c, hc, e⟩))
  rw [e1, e2]
theorem relP_step {s : Tab} {t : Int} {P : List ByteArray} {k : ByteArray} (hk : k ∉ P) (x : KeyS) (hx : x = relN s t k) : updK (relP s t P) k x = relP s t (P ++ [k]) := by
  subst hx
  funext y
  unfold updK relP
  by_cases e : y = k
  · subst e
    rw [if_pos rfl, if_pos (inK_iff.2 (by simp))]
  · rw [if_neg e]
    have : inK (P ++ [k]) y = inK P y := by
      rw [Bool.eq_iff_iff, inK_iff, inK_iff, List.mem_append, List.mem_singleton]
      exact ⟨fun h => h.resolve_right e, .inl⟩
    rw [this]
theorem RelT.relStep {W : List Int} {s : Tab} {r : RefT} {t : Int} {P : List ByteArray} {k : ByteArray} (h : RelT (relP s t P) r) (ha : Apart W (s k)) (hk : k ∉ P) :
    RelT (relP s t (P ++ [k])) (asksR k ((cutS s t k).waits.map (·.tx)) r).1 ∧ (asksR k ((cutS s t k).waits.map (·.tx)) r).2 = (gotS s t k).map fun c => ⟨c.tx, k, c.mode⟩ := by
  have hat : relP s t P k = cutS s t k := by unfold relP; rw [if_neg (fun e => hk (inK_iff.1 e))]
  by_cases e : atB (s k) t = true
  · have hok : KeyOK ⟨leaveN (s k).held t, [] ++ leaveN (s k).waits t⟩ := ⟨elder_leave ha.ok.held t, elder_leave ha.ok.waits t, fun c hc => ha.ok.hmode c (mem_leave.1 hc).1, fun c hc => ha.ok.wmode c (mem_leave.1 hc).1, fun c hc o ho => ha.ok.wants c (mem_leave.1 hc).1 o (mem_leave.1 ho).1⟩
    have hself : updK (relP s t P) k ⟨leaveN (s k).held t, [] ++ leaveN (s k).waits t⟩ = relP s t P := by
      have := updK_same (relP s t P) k
      rw [hat] at this
      exact this
    obtain ⟨i1, i2⟩ := RelT.pass k (leaveN (s k).waits t) (leaveN (s k).held t) [] (relP s t P) r (by rw [hself]; exact h) hok
    refine ⟨?_, by rw [gotS, if_pos e]; exact i2⟩
    rw [relP_step hk _ (by unfold relN; rw [if_pos e]; rfl)] at i1
    exact i1
  · have e' : atB (s k) t = false := by simpa using e
    have hc := cut_not ha.ok e'
    have hk2 : relP s t P k = s k := by rw [hat]; exact hc
    rw [h.stuck (k := k) (by rw [hk2]; exact ha.ok) (by rw [hk2]; exact ha.stuck)]
    refine ⟨?_, by rw [gotS, if_neg e]; rfl⟩
    have := relP_step (s := s) (t := t) hk (s k) (by unfold relN; rw [if_neg e])
    rw [← this, ← hk2, updK_same]
    exact h
/-- All are done. -/
theorem relP_all {s : Tab} {t : Int} {P : List ByteArray} (h : ∀ k, ¬ (s k).bare → k ∈ P) : relP s t P = relN s t := by
  funext k
  unfold relP
  split
  · rfl
  · rename_i e
    have hb : (s k).bare := Classical.byContradiction fun n => e (inK_iff.2 (h k n))
    obtain ⟨h1, h2⟩ := hb
    unfold relN cutS
    rw [if_neg (by unfold atB modeN; rw [h1, h2]; simp)]
    have : s k = ⟨[], []⟩ := by cases hs : s k; rw [hs] at h1 h2; simp at h1 h2; rw [h1, h2]
    rw [this]; rfl
theorem relP_none (s : Tab) (t : Int) : relP s t [] = cutS s t := by funext k; simp [relP, inK]
end Go.Proofs.YtkoncehhpiegfaaGreatDoor
