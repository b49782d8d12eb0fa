/- The law LocksPlay: a release in both tables (pure). -/
import Derived.Test.YtkoncehhpiegfaaGreatDoorUj
namespace Go.Proofs.YtkoncehhpiegfaaGreatDoor
set_option linter.unusedVariables false

theorem cut_ok {k : KeyS} (h : KeyOK k) (t : Int) : KeyOK ⟨leaveN k.held t, leaveN k.waits t⟩ :=
  ⟨elder_leave h.held t, elder_leave h.waits t, fun c hc => h.hmode c (mem_leave.1 hc).1, fun c hc => h.wmode c (mem_leave.1 hc).1, fun c hc o ho => h.wants c (mem_leave.1 hc).1 o (mem_leave.1 ho).1⟩
theorem wsR_perm (r : RefT) (k : ByteArray) : (wsR r k).Perm (waitR r.waits k) := List.mergeSort_perm _ _
theorem wsR_sorted (r : RefT) (k : ByteArray) : (wsR r k).Pairwise (· ≤ ·) := msI_sorted _
/-- A key's turn in a release. -/
theorem RelT.keyStep {W : List Int} {s : Tab} {r : RefT} {t : Int} {P : List ByteArray} {k : ByteArray} (h : RelT (relP s t P) r) (ha : Apart W (s k)) (hk : k ∉ P) :
    RelT (relP s t (P ++ [k])) (keyR r k).1 ∧ (keyR r k).2 = (gotS s t k).map fun c => ⟨c.tx, k, c.mode⟩ := by
  have hat : relP s t P k = cutS s t k := by unfold relP; rw [if_neg (fun e => hk (inK_iff.1 e))]
  have hok : KeyOK (relP s t P k) := by rw [hat]; exact cut_ok ha.ok t
  have hw := h.wait_sorted hok (wsR_perm r k) (wsR_sorted r k)
  rw [hat] at hw
  unfold keyR
  rw [hw]
  exact h.relStep ha hk
def askOf (k : ByteArray) (c : ClmD) : AskD := ⟨c.tx, k, c.mode⟩
theorem RelT.keysStep {W : List Int} {s : Tab} {r : RefT} {t : Int} {ks : List ByteArray} (h : RelT s r) (ha : ∀ k, Apart W (s k)) (hn : ks.Nodup) : ∀ (n : Nat), n ≤ ks.length →
    RelT (relP s t (ks.take n)) (keysR (ks.take n) (cutR r t)).1 ∧ (keysR (ks.take n) (cutR r t)).2 = (ks.take n).flatMap fun k => (gotS s t k).map (askOf k)
  | 0, _ => by
    simp only [List.take_zero, keysR, List.flatMap_nil, and_true]
    rw [relP_none]
    exact h.cut t
  | n + 1, hle => by
    obtain ⟨i1, i2⟩ := RelT.keysStep h ha hn n (by omega)
    obtain ⟨k, hk⟩ : ∃ k, ks[n]? = some k := ⟨_, List.getElem?_eq_getElem (by omega)⟩
    have hnot : k ∉ ks.take n := fun e => by
      have h1 : ks = ks.take n ++ k :: ks.drop (n + 1) := by rw [← drop_consQ hk, List.take_append_drop]
      rw [h1, List.nodup_append] at hn
      exact hn.2.2 k e k (by simp) rfl
    obtain ⟨j1, j2⟩ := i1.keyStep (ha k) hnot
    rw [take_snocQ hk, keysR_snoc]
    refine ⟨j1, ?_⟩
    simp only [j2, i2, List.flatMap_append, List.flatMap_cons, List.flatMap_nil, List.append_nil]
    rfl
theorem RelT.keys_bare {s : Tab} {r : RefT} (h : RelT s r) (k : ByteArray) : k ∈ (r.holds ++ r.waits).map (·.key) ↔ ¬ (s k).bare := by
  rw [List.mem_map]
  constructor
  · rintro ⟨a, ha, rfl⟩ ⟨b1, b2⟩
    rcases List.mem_append.1 ha with q | q
    · have := (h.heldM a).1 q; rw [b1] at this; simp at this
    · have := (h.waitsM a).1 q; rw [b2] at this; simp at this
  · intro hb
    by_cases e : (s k).held = []
    · cases hw : (s k).waits with
      | nil => exact absurd ⟨e, hw⟩ hb
      | cons c l => exact ⟨⟨c.tx, k, c.mode⟩, List.mem_append.2 (.inr ((h.waits k c).2 (by rw [hw]; simp))), rfl⟩
    · cases hw : (s k).held with
      | nil => exact absurd hw e
      | cons c l => exact ⟨⟨c.tx, k, c.mode⟩, List.mem_append.2 (.inl ((h.held k c).2 (by rw [hw]; simp))), rfl⟩
theorem ltQ_nodup {ks : List ByteArray} (h : ks.Pairwise ltQ) : ks.Nodup := List.Pairwise.imp (fun {a b} q e => by subst e; exact ltQ_irrefl _ q) h
theorem flat_if {α β : Type} (p : α → Bool) (f : α → List β) : ∀ l : List α, (l.flatMap fun k => if p k then f k else []) = (l.filter p).flatMap f
  | [] => rfl
  | a :: l => by
    rw [List.flatMap_cons, flat_if p f l]
    cases h : p a <;> simp [h]
def grAsk (g : GrD) : AskD := ⟨g.tx, g.key, g.mode⟩
/-- A release in both tables: who gets what, and what is left. -/
theorem RelT.release {W : List Int} {s : Tab} {r : RefT} {t : Int} {ks ks2 : List ByteArray} (h : RelT s r) (ha : ∀ k, Apart W (s k)) (hs : ks.Pairwise ltQ) (hm : ∀ k, k ∈ ks ↔ k ∈ (r.holds ++ r.waits).map (·.key)) (hok : ∀ k ∈ ks, okQ k) (hn : NamesQ s (fun k => atB k t) ks2) :
    RelT (relN s t) (keysR ks (cutR r t)).1 ∧ (keysR ks (cutR r t)).2 = (grantsN s t ks2).map grAsk := by
  have hks : ∀ k, k ∈ ks ↔ ¬ (s k).bare := fun k => (hm k).trans (h.keys_bare k)
  obtain ⟨i1, i2⟩ := h.keysStep ha (ltQ_nodup hs) (t := t) ks.length (Nat.le_refl _)
  rw [List.take_length] at i1 i2
  rw [relP_all (fun k hb => (hks k).2 hb)] at i1
  refine ⟨i1, ?_⟩
  have hsame : ks.filter (fun k => atB (s k) t) = ks2 := by
    refine sortedQ_same (hs.sublist List.filter_sublist) hn.1 (fun k => ?_)
    rw [List.mem_filter, hn.2 k]
    constructor
    · rintro ⟨q1, q2⟩
      exact ⟨hok k q1, (hks k).1 q1, q2⟩
    · rintro ⟨q1, q2, q3⟩
      exact ⟨(hks k).2 q2, q3⟩
  rw [i2, ← hsame]
  unfold grantsN
  rw [List.map_flatMap]
  have h1 : (ks.flatMap fun k => (gotS s t k).map (askOf k)) = ks.flatMap fun k => if atB (s k) t then (gotN (s k) t).map (askOf k) else [] := by
    congr 1
    funext k
    unfold gotS
    split <;> rfl
  rw [h1, flat_if (fun k => atB (s k) t)]
  congr 1
  funext k
  rw [List.map_map]
  rfl
end Go.Proofs.YtkoncehhpiegfaaGreatDoor
