/- Sizes of what the document's reader tells; strings as bytes. -/
import Derived.Test.YtdbbgfbcbfbihaaDoorRf2
namespace Go.Proofs.YtdbbgfbcbfbihaaDoor
open Go.RowKit Go.Lib

theorem str_size (xs : List Int) : (strOfNums xs).size = xs.length := strOfNums_size xs
theorem empty_size : ByteArray.empty.size = 0 := rfl
theorem etext_size (s : List Int × Bool) : (etext s).1.size + (etext s).2.1.length ≤ s.1.length ∧ ((etext s).2.2 = false → (etext s).1.size + (etext s).2.1.length < s.1.length) := by
  have h := enum_len s
  unfold etext
  split
  · simp only [empty_size]; exact ⟨by omega, by simp⟩
  · simp only [str_size, List.length_take, List.length_drop]
    exact ⟨by omega, fun e => by have := h.2 e; omega⟩
theorem enum_mono (s : List Int × Bool) (h : (enum s).2.2 = false) : s.2 = false := by
  unfold enum at h; split at h
  · simp at h
  · exact h
theorem etext_mono (s : List Int × Bool) (h : (etext s).2.2 = false) : s.2 = false := by
  unfold etext at h; split at h
  · simp at h
  · exact enum_mono s h
theorem epair_size (bs : List Int) : 18 + (epair (bs, false)).1.key.size + (epair (bs, false)).1.val.size + 19 * (epair (bs, false)).2.1.length ≤ 19 * bs.length + 18 ∧
    ((epair (bs, false)).2.2 = false → 18 + (epair (bs, false)).1.key.size + (epair (bs, false)).1.val.size + 19 * (epair (bs, false)).2.1.length ≤ 19 * bs.length) := by
  have h1 := etext_size (bs, false)
  have h2 := enum_len (etext (bs, false)).2
  have h3 := etext_size (enum (etext (bs, false)).2).2
  simp only at h1
  simp only [epair]
  split
  · simp only [empty_size]
    exact ⟨by omega, fun e => by have := h1.2 (enum_mono _ e); omega⟩
  · simp only
    exact ⟨by omega, fun e => by have := h1.2 (enum_mono _ (etext_mono _ e)); omega⟩
theorem epairs_size : ∀ (n : Nat) (s : List Int × Bool), psize (epairs n s).1 + 19 * (epairs n s).2.1.length ≤ 19 * s.1.length + 18
  | 0, s => by simp [epairs, psize]
  | n + 1, (bs, true) => by simp [epairs, psize]
  | n + 1, (bs, false) => by
    have h := epair_size bs
    have e := epairs_step (n := n) (bs := bs) (show ((epair (bs, false)).1, (epair (bs, false)).2) = epair (bs, false) from rfl)
    rw [e]
    simp only [psize]
    cases hb : (epair (bs, false)).2.2 with
    | false => have := h.2 hb; have ih := epairs_size n (epair (bs, false)).2; omega
    | true =>
      have e2 : (epair (bs, false)).2 = ((epair (bs, false)).2.1, true) := by rw [← hb]
      rw [e2, epairs_blind]
      simp only [psize]
      have := h.1; omega
theorem ecmd_size (s : List Int × Bool) : psize (ecmd s).1.writes + 19 * (ecmd s).2.1.length ≤ 19 * s.1.length + 18 := by
  have h1 := (enum_len s).1
  have h2 := (enum_len (enum s).2).1
  have h3 := (enum_len (enum (enum s).2).2).1
  have h4 := (enum_len (enum (enum (enum s).2).2).2).1
  have h5 := epairs_size (enum (enum (enum (enum s).2).2).2).1 (enum (enum (enum (enum s).2).2).2).2
  simp only [ecmd]
  omega
theorem BAt.of_own {w : World} {B L : Nat} {v : Value} {bs : List Int} (h : w.ownsRow B 5 1 v bs.length (bs.map (Value.int .u8))) (hb : ∀ x ∈ bs, 0 ≤ x ∧ x < 256) (hL : w.heap.size ≤ L) : BAt w L v bs := by
  rcases h.2 with ⟨rfl, h0⟩ | ⟨g, cap, cur, rfl, _, hg, h1, h2, _, _⟩
  · have : bs = [] := List.eq_nil_of_length_eq_zero h0
    subst this
    exact BAt.nil _ _
  · have hc := h.cells (g := g) rfl
    have add0 : ∀ j, (⟨g, 0, none⟩ : Addr).add j = ⟨g, 0 + j, none⟩ := fun j => by unfold Addr.add; split <;> simp_all
    refine ⟨hb, _, cap, rfl, h1, h2, .inr ⟨g, 0, rfl, by have := (Array.getElem?_eq_some_iff.1 hg).1; omega, fun j hj => ?_⟩⟩
    have := hc j (.int .u8 (bs.getD j 0)) (by simp [List.getElem?_eq_getElem hj])
    rw [add0] at this; exact this
theorem conv_bat {w : World} {L : Nat} {v : Value} {bs : List Int} (h : BAt w L v bs) : (convert 28 9 v).run Tryd.prog w = .ok (.string (strOfNums bs)) w := by
  obtain ⟨_, a, cap, rfl, _, _, h4⟩ := h
  rcases h4 with rfl | ⟨b, off, rfl, _, hc⟩
  · exact conv_zero
  · have := conv_take (cap := cap) hc bs.length (Nat.le_refl _)
    rw [List.take_length] at this
    exact this
theorem str_eq (xs ys : List Int) (hx : ∀ x ∈ xs, 0 ≤ x ∧ x < 256) (hy : ∀ x ∈ ys, 0 ≤ x ∧ x < 256) : ((strOfNums xs).toList == (strOfNums ys).toList) = decide (xs = ys) := by
  have inj : ∀ (xs ys : List Int), (∀ x ∈ xs, 0 ≤ x ∧ x < 256) → (∀ x ∈ ys, 0 ≤ x ∧ x < 256) → (xs.map fun n => UInt8.ofNat n.toNat) = (ys.map fun n => UInt8.ofNat n.toNat) → xs = ys := by
    intro xs
    induction xs with
    | nil => intro ys _ _ h; cases ys with
      | nil => rfl
      | cons y ys => simp at h
    | cons x xs ih => intro ys hx hy h; cases ys with
      | nil => simp at h
      | cons y ys =>
        simp only [List.map_cons, List.cons.injEq] at h
        have hxx := hx x (by simp)
        have hyy := hy y (by simp)
        have e : x = y := by
          have := congrArg UInt8.toNat h.1
          simp only [UInt8.toNat_ofNat'] at this
          omega
        rw [e, ih ys (fun z hz => hx z (by simp [hz])) (fun z hz => hy z (by simp [hz])) h.2]
  rw [Bool.eq_iff_iff]
  simp only [beq_iff_eq, decide_eq_true_eq]
  rw [ByteArray.toList_eq, ByteArray.toList_eq, strOfNums_data, strOfNums_data]
  exact ⟨inj xs ys hx hy, fun h => by rw [h]⟩
def Byt (l : List Int) : Prop := ∀ x ∈ l, 0 ≤ x ∧ x < 256
theorem Byt.app {a b : List Int} (h : Byt a) (k : Byt b) : Byt (a ++ b) := fun x hx => by
  rcases List.mem_append.1 hx with e | e
  · exact h x e
  · exact k x e
theorem byt_wnum (n : Int) {s : List Int × Int} (h : Byt s.1) : Byt (wnum n s).1 := by
  unfold wnum; split
  · exact h.app (enc_bytes _)
  · exact h.app (enc_bytes _)
theorem byt_sbytes (s : ByteArray) : Byt (sbytes s) := fun x hx => by
  simp [sbytes] at hx; obtain ⟨b, _, rfl⟩ := hx
  have := b.toNat_lt; omega
theorem byt_wtext (str : ByteArray) (most : Nat) {s : List Int × Int} (h : Byt s.1) : Byt (wtext str most s).1 := by
  unfold wtext; simp only; split
  · exact (byt_wnum _ (s := (s.1, 4)) h).app (byt_sbytes _)
  · exact (byt_wnum _ h).app (byt_sbytes _)
theorem byt_wpair (p : PairD) {s : List Int × Int} (h : Byt s.1) : Byt (wpair p s).1 := by
  unfold wpair; split
  · exact byt_wnum _ (byt_wtext _ _ h)
  · exact byt_wtext _ _ (byt_wnum _ (byt_wtext _ _ h))
theorem byt_wpairs (ps : List PairD) : ∀ {s : List Int × Int}, Byt s.1 → Byt (wpairs ps s).1 := by
  induction ps with
  | nil => intro s h; exact h
  | cons p ps ih => intro s h; exact ih (byt_wpair p h)
theorem byt_wcmd (c : CmdD) {s : List Int × Int} (h : Byt s.1) : Byt (wcmd c s).1 := by
  unfold wcmd whead
  refine byt_wpairs _ (byt_wnum _ (byt_wnum _ (byt_wnum _ (byt_wnum _ ?_))))
  split <;> split <;> exact h
theorem byt_wcmds (cs : List CmdD) : ∀ {s : List Int × Int}, Byt s.1 → Byt (wcmds cs s).1 := by
  induction cs with
  | nil => intro s h; exact h
  | cons p ps ih => intro s h; exact ih (byt_wcmd p h)
theorem byt_wnums (l : List Int) : ∀ {s : List Int × Int}, Byt s.1 → Byt (wnums l s).1 := by
  induction l with
  | nil => intro s h; exact h
  | cons p ps ih => intro s h; exact ih (byt_wnum p h)
theorem byt_nil : Byt [] := fun x hx => by simp at hx
theorem byt_finish {s : List Int × Int} (h : Byt s.1) : Byt (finish s).1 := by
  unfold finish; split
  · exact h
  · exact byt_nil
theorem byt_rMsg (m : MsgD) : Byt (rMsg m).1 := by
  unfold rMsg; split
  · exact byt_nil
  · split
    · exact byt_finish (byt_wcmd _ (byt_wnums _ byt_nil))
    · exact byt_finish (byt_wnums _ byt_nil)
theorem byt_rLog (cs : List CmdD) : Byt (rLog cs).1 := by
  unfold rLog; split
  · exact byt_nil
  · exact byt_finish (byt_wcmds _ (byt_wnum _ byt_nil))
end Go.Proofs.YtdbbgfbcbfbihaaDoor
