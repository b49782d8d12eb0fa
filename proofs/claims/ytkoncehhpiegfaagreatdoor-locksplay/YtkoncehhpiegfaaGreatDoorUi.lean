/- The document's table: Release (pure, and what it comes to in memory). -/
import Derived.Test.YtkoncehhpiegfaaGreatDoorUh
namespace Go.Proofs.YtkoncehhpiegfaaGreatDoor
open Go.RowKit Go.Lib Go.Maps
set_option linter.unusedVariables false

theorem asksR_snoc (k : ByteArray) : ∀ (l : List Int) (t : Int) (r : RefT), asksR k (l ++ [t]) r = ((askR (asksR k l r).1 k t).1, (asksR k l r).2 ++ (askR (asksR k l r).1 k t).2)
  | [], t, r => by simp [asksR]
  | a :: l, t, r => by
    have ih := asksR_snoc k l t (askR r k a).1
    simp only [List.cons_append, asksR, ih, List.append_assoc]
/-- Those that wait at a key, in order. -/
def wsR (r : RefT) (k : ByteArray) : List Int := (waitR r.waits k).mergeSort fun a b => decide (a ≤ b)
theorem sorted_perm : ∀ {a b : List Int}, a.Perm b → a.Pairwise (· ≤ ·) → b.Pairwise (· ≤ ·) → a = b := fun h h1 h2 => h.eq_of_pairwise (le := (· ≤ ·)) (fun x y _ _ q1 q2 => by omega) h1 h2
theorem wsR_eq {r : RefT} {k : ByteArray} {l : List Int} (hp : l.Perm (waitR r.waits k)) (hs : l.Pairwise (· ≤ ·)) : l = wsR r k :=
  sorted_perm (hp.trans (List.mergeSort_perm _ _).symm) hs (msI_sorted _)
def keyR (r : RefT) (k : ByteArray) : RefT × List AskD := asksR k (wsR r k) r
def keysR : List ByteArray → RefT → RefT × List AskD
  | [], r => (r, [])
  | k :: ks, r => ((keysR ks (keyR r k).1).1, (keyR r k).2 ++ (keysR ks (keyR r k).1).2)
theorem keysR_snoc : ∀ (ks : List ByteArray) (k : ByteArray) (r : RefT), keysR (ks ++ [k]) r = ((keyR (keysR ks r).1 k).1, (keysR ks r).2 ++ (keyR (keysR ks r).1 k).2)
  | [], k, r => by simp [keysR]
  | a :: ks, k, r => by
    have ih := keysR_snoc ks k (keyR r a).1
    simp only [List.cons_append, keysR, ih, List.append_assoc]
/-- None of those that ask may have it. -/
theorem askR_none {r : RefT} {k : ByteArray} {t : Int} (h : ∀ d ∈ r.waits, sameA t k d = true → mayR r d = false) : askR r k t = (r, []) := by
  unfold askR
  cases hf : r.waits.find? (sameA t k) with
  | none => rfl
  | some a =>
    have := h a (List.mem_of_find?_eq_some hf) (List.find?_some hf)
    simp [this]
theorem askR_some {r : RefT} {k : ByteArray} {t : Int} {d : AskD} (hu : UniqA r.waits) (hd : d ∈ r.waits) (hs : sameA t k d = true) (hm : mayR r d = true) : askR r k t = (⟨hasR r.holds d, withoutR r.waits d⟩, [d]) := by
  have hs' := hs
  simp [sameA] at hs
  have := find_sameA hu hd
  rw [hs.1, hs.2] at this
  unfold askR
  rw [this]
  simp [hm]
theorem has_len (l : List AskD) (x : AskD) : (hasR l x).length ≤ l.length + 1 := by
  unfold hasR; split <;> simp
theorem without_len {l : List AskD} {x : AskD} (h : x ∈ l) : (withoutR l x).length + 1 ≤ l.length := by
  unfold withoutR
  have : (l.filter fun a => decide (a ≠ x)).length < l.length := List.length_filter_lt_length_iff_exists.2 ⟨x, h, by simp⟩
  omega
/-- A release under way in memory: all of the document's table but its own block is newer than L. -/
structure RelS (w wr : World) (b L M : Nat) (hv wv : Value) (r : RefT) (u : Value) (o : List AskD) : Prop where
  rt : RtP wr L b hv wv r
  uh : UniqA r.holds
  uw : UniqA r.waits
  m1 : r.holds.length + r.waits.length ≤ M
  m2 : r.waits.length + o.length ≤ M
  out : RowA wr L u o
  ha : ∀ y, u.ownBlock = some y → hv.ownBlock ≠ some y ∧ wv.ownBlock ≠ some y
  md : Mod (oneBlock b) w wr
theorem RelS.quiet {w wr wr' : World} {b L M : Nat} {hv wv u : Value} {r : RefT} {o : List AskD} (h : RelS w wr b L M hv wv r u o) (hm : Mod noBlock wr wr') : RelS w wr' b L M hv wv r u o :=
  ⟨h.rt.quiet hm, h.uh, h.uw, h.m1, h.m2, h.out.mod hm (fun _ _ => id), h.ha, h.md.trans (hm.mono (fun _ _ e => e.elim))⟩
/-- Where what turns may lie. -/
structure Turn (wr w' : World) (b : Nat) (hv wv u hv' wv' u' : Value) : Prop where
  md : Mod (fun y => y = b ∨ hv.ownBlock = some y ∨ u.ownBlock = some y) wr w'
  h : hv'.ownBlock = hv.ownBlock ∨ ∀ y, hv'.ownBlock = some y → wr.heap.size ≤ y
  w : wv'.ownBlock = wv.ownBlock ∨ ∀ y, wv'.ownBlock = some y → wr.heap.size ≤ y
  u : u'.ownBlock = u.ownBlock ∨ ∀ y, u'.ownBlock = some y → wr.heap.size ≤ y
/-- Blocks that none of this touches. -/
structure Kept (F : Nat → Prop) (wa wr : World) (b : Nat) (hv wv u : Value) : Prop where
  lt : ∀ y, F y → y < wa.heap.size
  b : ¬ F b
  h : ∀ y, F y → hv.ownBlock ≠ some y
  w : ∀ y, F y → wv.ownBlock ≠ some y
  u : ∀ y, F y → u.ownBlock ≠ some y
  md : Mod (fun y => ¬ F y) wa wr
theorem Kept.quiet {F : Nat → Prop} {wa wr w' : World} {b : Nat} {hv wv u : Value} (h : Kept F wa wr b hv wv u) (hm : Mod noBlock wr w') : Kept F wa w' b hv wv u := ⟨h.lt, h.b, h.h, h.w, h.u, h.md.trans (hm.mono (fun _ _ e => e.elim))⟩
theorem Kept.turn {F : Nat → Prop} {wa wr w' : World} {b : Nat} {hv wv u hv' wv' u' : Value} (h : Kept F wa wr b hv wv u) (t : Turn wr w' b hv wv u hv' wv' u') : Kept F wa w' b hv' wv' u' := by
  have hz := h.md.size
  refine ⟨h.lt, h.b, fun y hy e => ?_, fun y hy e => ?_, fun y hy e => ?_, h.md.trans (t.md.mono (fun y _ e hF => ?_))⟩
  · rcases t.h with q | q
    · exact h.h y hy (by rw [← q]; exact e)
    · have := q y e; have := h.lt y hy; omega
  · rcases t.w with q | q
    · exact h.w y hy (by rw [← q]; exact e)
    · have := q y e; have := h.lt y hy; omega
  · rcases t.u with q | q
    · exact h.u y hy (by rw [← q]; exact e)
    · have := q y e; have := h.lt y hy; omega
  · rcases e with e | e | e
    · subst e; exact h.b hF
    · exact h.h y hF e
    · exact h.u y hF e
/-- One more gets what it waits for. -/
theorem RelS.step {w wr w2 w3 w4 : World} {b L M : Nat} {hv wv u u' : Value} {r : RefT} {o : List AskD} {d : AskD} (hL : L = w.heap.size) (h : RelS w wr b L M hv wv r u o) (hd : d ∈ r.waits)
    (hh : HasP wr L b hv wv r d w2) (hown : RowA w3 L u' (o ++ [d])) (hm3 : Mod (fun k => u.ownBlock = some k) w2 w3) (hat : u'.ownBlock = u.ownBlock ∨ ∀ y, u'.ownBlock = some y → w2.heap.size ≤ y)
    {wv' : Value} (hwo : RowA w4 w3.heap.size wv' (withoutR r.waits d)) (hm4 : Mod noBlock w3 w4) : ∃ hv', RelS w (w4.setCell ⟨b, 1, none⟩ wv') b L M hv' wv' ⟨hasR r.holds d, withoutR r.waits d⟩ u' (o ++ [d]) ∧ Turn wr (w4.setCell ⟨b, 1, none⟩ wv') b hv wv u hv' wv' u' := by
  obtain ⟨hv', k1, k2, k3⟩ := hh
  have hub : ∀ y, u.ownBlock = some y → y < wr.heap.size := fun y hy => (own_cellsVQ h.out.1 hy).2.1
  have hublk : u.ownBlock ≠ some b := row_rt h.rt.blk h.out
  have hhu : ∀ y, u.ownBlock = some y → hv'.ownBlock ≠ some y := fun y hy e => by
    rcases k3 with q | q
    · exact (h.ha y hy).1 (by rw [← q]; exact e)
    · have := q y e; have := hub y hy; omega
  have hm34 : Mod (fun k => u.ownBlock = some k) w2 w4 := hm3.trans (hm4.mono (fun _ _ e => e.elim))
  have r4 : RtP w4 L b hv' wv ⟨hasR r.holds d, r.waits⟩ := k1.mod hm34 hublk (fun y hy e => hhu y e hy) (fun y hy e => (h.ha y e).2 hy)
  have hL4 : L ≤ w3.heap.size := by
    have h1 := h.md.size
    have h2 := k2.size
    have h3 := hm3.size
    omega
  have hwn : ∀ y, wv'.ownBlock = some y → w3.heap.size ≤ y := fun y hy => (own_cellsVQ hwo.1 hy).1
  have hms : Mod (oneBlock b) w4 (w4.setCell ⟨b, 1, none⟩ wv') := Mod.setBlk b _ _
  have hwoL := hwo.low hL4
  have hu4 : RowA w4 L u' (o ++ [d]) := hown.mod hm4 (fun _ _ => id)
  have hone : ∀ {v : Value} {l : List AskD}, RowA w4 L v l → ∀ y, v.ownBlock = some y → ¬ oneBlock b y := fun hr y hy e => by simp only [oneBlock] at e; subst e; exact row_rt r4.blk hr hy
  have hul : ∀ y, u'.ownBlock = some y → y < w3.heap.size := fun y hy => (own_cellsVQ hown.1 hy).2.1
  have hz2 := k2.size
  have hz3 := hm3.size
  have hT : Turn wr (w4.setCell ⟨b, 1, none⟩ wv') b hv wv u hv' wv' u' := ⟨((k2.mono (fun y _ e => e.elim .inl (fun q => .inr (.inl q)))).trans (hm34.mono (fun y _ e => .inr (.inr e)))).trans (hms.mono (fun y _ e => .inl e)), k3, .inr (fun y hy => by have := hwn y hy; omega), hat.elim .inl (fun q => .inr (fun y hy => by have := q y hy; omega))⟩
  refine ⟨hv', ⟨⟨r4.blk.set 1 wv', r4.h.mod hms (hone r4.h), hwoL.mod hms (hone hwoL), fun y hy e => ?_⟩, uniq_has h.uh d, h.uw.sublist List.filter_sublist, ?_, ?_, hu4.mod hms (hone hu4), fun y hy => ⟨fun e => ?_, fun e => ?_⟩, ?_⟩, hT⟩
  · have h1 := (own_cellsVQ k1.h.1 hy).2.1
    have h2 := hwn y e
    have h3 := hm3.size
    omega
  · have h1 := has_len r.holds d
    have h2 := without_len hd
    have h3 := h.m1
    simp only
    omega
  · have h2 := without_len hd
    have h3 := h.m2
    simp only [List.length_append, List.length_singleton]
    omega
  · rcases hat with q | q
    · exact hhu y (by rw [← q]; exact hy) e
    · have h1 := q y hy
      have h2 := (own_cellsVQ k1.h.1 e).2.1
      omega
  · have h1 := hul y hy
    have h2 := hwn y e
    omega
  · refine (h.md.trans' k2 (fun y hy e => ?_)).trans' (hm34) (fun y hy e => ?_) |>.trans hms
    · rcases e with e | e
      · exact e
      · have := (own_cellsVQ h.rt.h.1 e).1; omega
    · have := (own_cellsVQ h.out.1 e).1; omega
end Go.Proofs.YtkoncehhpiegfaaGreatDoor
