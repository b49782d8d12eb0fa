/- The law LocksPlay: both tables side by side, whatever is asked. -/
import Derived.Test.YtkoncehhpiegfaaGreatDoorUo
import Derived.Test.YtkoncehhpiegfaaGreatDoorUm
namespace Go.Proofs.YtkoncehhpiegfaaGreatDoor
open Go.RowKit Go.Lib Go.Maps
set_option linter.unusedVariables false

/-- Both tables, as they lie in memory; i: how many were asked. -/
structure BothP (W wr : World) (tb b i : Nat) (s : Tab) (r : RefT) : Prop where
  tab : TabP W wr tb i i s
  rt : ∃ hv wv, RtP wr W.heap.size b hv wv r
  rel : RelT s r
  apart : ∃ A, ∀ k, Apart A (s k)
  len : r.holds.length + r.waits.length ≤ i
  tb : tb < W.heap.size
  b : W.heap.size ≤ b
theorem BothP.quiet {W wr wr' : World} {tb b i : Nat} {s : Tab} {r : RefT} (h : BothP W wr tb b i s r) (hm : Mod noBlock wr wr') : BothP W wr' tb b i s r := by
  obtain ⟨hv, wv, hr⟩ := h.rt
  exact ⟨h.tab.mod hm, ⟨hv, wv, hr.quiet hm⟩, h.rel, h.apart, h.len, h.tb, h.b⟩
theorem lockR_len (r : RefT) (x : AskD) (l : List Int) : (lockR r x l).1.holds.length + (lockR r x l).1.waits.length ≤ r.holds.length + r.waits.length + 1 := by
  unfold lockR
  have := has_len r.holds x
  split
  · simp only; omega
  · split
    · simp only; omega
    · split
      · simp only; omega
      · simp only [List.length_append, List.length_singleton]; omega
theorem apart_lockT {A : List Int} {s : Tab} {k : ByteArray} {c : ClmD} (h : ∀ k, Apart A (s k)) (hc : c.mode = 1 ∨ c.mode = 2) : ∀ y, Apart ((lockN (s k) c).2.2.1 ++ A) (updK s k (lockN (s k) c).1 y) := fun y => by
  unfold updK
  split
  · exact (apart_lock (h k) hc).1
  · exact (h y).more (fun x hx => List.mem_append.2 (.inr hx))
/-- Both have locked. -/
theorem BothP.locked {W wr w3 : World} {tb b i : Nat} {s : Tab} {r : RefT} {x : AskD} {l : List Int} {hv wv : Value} (h : BothP W wr tb b i s r) (hx : x.mode = 1 ∨ x.mode = 2) (hp : l.Perm (wayR r.holds x)) (hs : l.Pairwise (· ≤ ·))
    (hr : RtP w3 W.heap.size b hv wv (lockR r x l).1) (ht : TabP W w3 tb (i + 1) (i + 1) (updK s x.key (lockN (s x.key) (clmOf x)).1)) :
    BothP W w3 tb b (i + 1) (updK s x.key (lockN (s x.key) (clmOf x)).1) (lockR r x l).1 ∧ (lockR r x l).2 = (lockN (s x.key) (clmOf x)).2 := by
  obtain ⟨A, hA⟩ := h.apart
  obtain ⟨q1, q2⟩ := h.rel.lock (hA x.key).ok hx hp hs
  exact ⟨⟨ht, ⟨hv, wv, hr⟩, q1, ⟨_, apart_lockT hA hx⟩, by have := lockR_len r x l; have := h.len; omega, h.tb, h.b⟩, q2⟩
/-- Both have released. -/
theorem BothP.released {W wr w3 : World} {tb b i : Nat} {s : Tab} {r : RefT} {t : Int} {ks ks2 : List ByteArray} {hv wv : Value} (h : BothP W wr tb b i s r) (hs : ks.Pairwise ltQ) (hm : ∀ k, k ∈ ks ↔ k ∈ (r.holds ++ r.waits).map (·.key)) (hn : NamesQ s (fun k => atB k t) ks2)
    (hr : RtP w3 W.heap.size b hv wv (keysR ks (cutR r t)).1) (hl : (keysR ks (cutR r t)).1.holds.length + (keysR ks (cutR r t)).1.waits.length ≤ i) (ht : TabP W w3 tb i i (relN s t)) :
    BothP W w3 tb b i (relN s t) (keysR ks (cutR r t)).1 ∧ (keysR ks (cutR r t)).2 = (grantsN s t ks2).map grAsk := by
  obtain ⟨A, hA⟩ := h.apart
  obtain ⟨hv0, wv0, hr0⟩ := h.rt
  have hok : ∀ k ∈ ks, okQ k := fun k hk => by
    obtain ⟨a, ha, rfl⟩ := List.mem_map.1 ((hm k).1 hk)
    rcases List.mem_append.1 ha with q | q
    · exact hr0.h.2 a q
    · exact hr0.w.2 a q
  obtain ⟨q1, q2⟩ := h.rel.release hA hs hm hok hn
  exact ⟨⟨ht, ⟨hv, wv, hr⟩, q1, ⟨A, apart_rel (fun k => (hA k).more (fun x hx => List.mem_cons_of_mem _ hx))⟩, hl, h.tb, h.b⟩, q2⟩
end Go.Proofs.YtkoncehhpiegfaaGreatDoor
