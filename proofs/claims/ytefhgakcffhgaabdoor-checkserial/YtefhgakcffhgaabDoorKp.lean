/- A fact of the law: one reads what another one put. -/
import Derived.Test.YtefhgakcffhgaabDoorKn
namespace Go.Proofs.YtefhgakcffhgaabDoor
open Go.RowKit Go.Lib Go.Maps
set_option linter.unusedVariables false

def bsA : ByteArray := ⟨#[97]⟩
def bsX : ByteArray := ⟨#[120]⟩
def two : List TxD := [⟨[⟨1, bsA, bsX, true⟩], 0, 9⟩, ⟨[⟨2, bsA, bsX, false⟩], 0, 9⟩]
theorem two_first : doOps bareS [⟨1, bsA, bsX, true⟩] = none := by
  have : ¬ bareS bsA = toldV ⟨1, bsA, bsX, true⟩ := fun h => by simp [bareS, zeroVD, toldV] at h
  simp [doOps, doOp, this]
theorem two_only {o : List Nat} {s : Sta} (hg : goodR two [] bareS o = some s) (hw : Whole two o) : o = [1, 0] := by
  have h0 : 0 ∈ o := hw 0 _ rfl (by decide)
  have h1 : 1 ∈ o := hw 1 _ rfl (by decide)
  cases o with
  | nil => simp at h0
  | cons a o =>
    obtain ⟨_, t, r, ht, hr, hg2⟩ := goodR_cons hg
    have ha : a < 2 := (List.getElem?_eq_some_iff.1 ht).1
    have ha1 : a = 1 := by
      by_cases e : a = 0
      · subst e
        simp [two] at ht
        subst ht
        rw [two_first] at hr
        cases hr
      · omega
    subst ha1
    cases o with
    | nil => simp at h0
    | cons b o =>
      obtain ⟨hb, t2, r2, ht2, hr2, hg3⟩ := goodR_cons hg2
      have hb2 : b < 2 := (List.getElem?_eq_some_iff.1 ht2).1
      have hb0 : b = 0 := by
        by_cases e : b = 1
        · exact absurd (by simp [e]) hb.1
        · omega
      subst hb0
      cases o with
      | nil => rfl
      | cons c o =>
        obtain ⟨hc, t3, r3, ht3, _⟩ := goodR_cons hg3
        have hc2 : c < 2 := (List.getElem?_eq_some_iff.1 ht3).1
        exact absurd (by simp; omega) hc.1
theorem two_good : ∃ s, goodR two [] bareS [1, 0] = some s ∧ Whole two [1, 0] := by
  have n1 : NextOK two [] 1 := ⟨by simp, fun m t u hm hu hne ha => by
    simp [two] at hu
    subst hu
    match m, hm with
    | 0, hm => simp [two] at hm; subst hm; simp [aheadT] at ha
    | 1, hm => exact absurd rfl hne
    | m + 2, hm => simp [two] at hm⟩
  have n0 : NextOK two [1] 0 := ⟨by simp, fun m t u hm hu hne ha => by
    match m, hm with
    | 0, hm => exact absurd rfl hne
    | 1, hm => simp
    | m + 2, hm => simp [two] at hm⟩
  have d1 : doOps bareS [⟨2, bsA, bsX, false⟩] = some (updS bareS bsA ⟨bsX, true⟩, [(bsA, bareS bsA)]) := by simp [doOps, doOp]
  have e1 : updS bareS bsA ⟨bsX, true⟩ bsA = toldV ⟨1, bsA, bsX, true⟩ := by simp [updS, toldV]
  have d0 : doOps (updS bareS bsA ⟨bsX, true⟩) [⟨1, bsA, bsX, true⟩] = some (updS bareS bsA ⟨bsX, true⟩, []) := by simp [doOps, doOp, e1]
  refine ⟨updS bareS bsA ⟨bsX, true⟩, ?_, fun i t hi _ => ?_⟩
  · rw [goodR_mk n1 rfl d1]
    have := goodR_mk (rest := []) n0 rfl d0
    rw [List.nil_append, this]
    rfl
  · match i, hi with
    | 0, _ => simp
    | 1, _ => simp
    | i + 2, hi => simp [two] at hi
theorem blk_cells {w : World} {b i : Nat} {cs : List Value} {t : TypeId} (h : Blk w b cs t) {k : Nat} {xs : List Value} (hx : xs = (cs.drop k).take xs.length) : ∀ (j : Nat) x, xs[j]? = some x → w.cell? ⟨b, k + j, none⟩ = some x := fun j x hj => by
  refine h.cell (k + j) ?_
  have hl : j < xs.length := (List.getElem?_eq_some_iff.1 hj).1
  rw [hx, List.getElem?_take_of_lt hl, List.getElem?_drop] at hj
  exact hj
theorem two_txs {w : World} {N L : Nat} (h0 : Blk w N [.int .i64 1, .string bsA, .string bsX, .bool true] 54) (h1 : Blk w (N + 1) [.int .i64 2, .string bsA, .string bsX, .bool false] 54)
    (h2 : Blk w (N + 2) [.slice (some ⟨N, 0, none⟩) 1 1, .int .i64 0, .int .i64 9, .slice (some ⟨N + 1, 0, none⟩) 1 1, .int .i64 0, .int .i64 9] 25) (hL : N + 2 < L) : TxsV w L (.slice (some ⟨N + 2, 0, none⟩) 2 2) two := by
  have ok : bsA.size ≤ maxLen ∧ bsX.size ≤ maxLen := by unfold maxLen; decide
  have o0 : OpsV w L (.slice (some ⟨N, 0, none⟩) 1 1) [⟨1, bsA, bsX, true⟩] := ⟨_, 1, rfl, Nat.le_refl _, by unfold maxLen; decide, .inr ⟨N, 0, rfl, by omega, fun i d hi => by
    match i, hi with
    | 0, hi => simp at hi; subst hi; exact ⟨_, ⟨rfl, ok⟩, rfl, fun j x hx => by have := blk_cells h0 (k := 0) (i := 0) (xs := [.int .i64 1, .string bsA, .string bsX, .bool true]) rfl j x hx; simpa using this⟩
    | i + 1, hi => simp at hi⟩⟩
  have o1 : OpsV w L (.slice (some ⟨N + 1, 0, none⟩) 1 1) [⟨2, bsA, bsX, false⟩] := ⟨_, 1, rfl, Nat.le_refl _, by unfold maxLen; decide, .inr ⟨N + 1, 0, rfl, by omega, fun i d hi => by
    match i, hi with
    | 0, hi => simp at hi; subst hi; exact ⟨_, ⟨rfl, ok⟩, rfl, fun j x hx => by have := blk_cells h1 (k := 0) (i := 0) (xs := [.int .i64 2, .string bsA, .string bsX, .bool false]) rfl j x hx; simpa using this⟩
    | i + 1, hi => simp at hi⟩⟩
  refine ⟨_, 2, rfl, Nat.le_refl _, by unfold maxLen; decide, .inr ⟨N + 2, 0, rfl, hL, fun i d hi => ?_⟩⟩
  match i, hi with
  | 0, hi =>
    simp [two] at hi; subst hi
    exact ⟨_, ⟨_, rfl, o0, by simp [int64], by simp [int64]⟩, rfl, fun j x hx => by have := blk_cells h2 (k := 0) (i := 0) (xs := [.slice (some ⟨N, 0, none⟩) 1 1, .int .i64 0, .int .i64 9]) rfl j x hx; simpa using this⟩
  | 1, hi =>
    simp [two] at hi; subst hi
    exact ⟨_, ⟨_, rfl, o1, by simp [int64], by simp [int64]⟩, rfl, fun j x hx => by have := blk_cells h2 (k := 3) (i := 0) (xs := [.slice (some ⟨N + 1, 0, none⟩) 1 1, .int .i64 0, .int .i64 9]) rfl j x hx; simpa using this⟩
  | i + 2, hi => simp [two] at hi
end Go.Proofs.YtefhgakcffhgaabDoor
