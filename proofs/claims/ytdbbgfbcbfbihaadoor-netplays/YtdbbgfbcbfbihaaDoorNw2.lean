/- Both nets side by side: one is turned, the other stays. -/
import Derived.Test.YtdbbgfbcbfbihaaDoorNw
namespace Go.Proofs.YtdbbgfbcbfbihaaDoor
open Go.RowKit Go.Lib Go.Maps

/-- The program's net in the state s, the document's in t, apart from each other. -/
structure Two (w : World) (L g h : Nat) (wv : Value) (mr : Option Nat) (lv dv : Value) (s t : NetS) : Prop where
  p : NetP w L g wv mr s
  r : RefP w L h lv dv t
  apart : ∀ k, netMay g wv mr k → ¬ refMay h lv dv k
theorem Two.quiet {w w' : World} {L g h : Nat} {wv : Value} {mr : Option Nat} {lv dv : Value} {s t : NetS} (b : Two w L g h wv mr lv dv s t) (hm : Mod noBlock w w') : Two w' L g h wv mr lv dv s t :=
  ⟨b.p.mod hm (Qm.none _ _) (fun _ _ => id), b.r.mod hm (Qm.none _ _) (fun _ _ => id), b.apart⟩
theorem Two.ref {w w' : World} {L g h : Nat} {wv : Value} {mr : Option Nat} {lv dv lv' dv' : Value} {s t t' : NetS} (b : Two w L g h wv mr lv dv s t) (hr : RefP w' L h lv' dv' t') (h1 : Moved w lv lv') (h2 : Moved w dv dv') (hm : Mod (refMay h lv dv) w w') : Two w' L g h wv mr lv' dv' s t' := by
  refine ⟨b.p.mod hm b.r.qm b.apart, hr, fun k hk e => ?_⟩
  have hlt := (b.p.lt hk).2.1
  rcases e with e | e | e
  · exact b.apart k hk (.inl e)
  · rcases h1 with h1 | h1
    · exact b.apart k hk (.inr (.inl (by rw [← h1]; exact e)))
    · have := h1 k e; omega
  · rcases h2 with h2 | h2
    · exact b.apart k hk (.inr (.inr (by rw [← h2]; exact e)))
    · have := h2 k e; omega
theorem Two.net {w w' : World} {L g h : Nat} {wv wv' : Value} {mr mr' : Option Nat} {lv dv : Value} {s s' t : NetS} (b : Two w L g h wv mr lv dv s t) (hp : NetP w' L g wv' mr' s') (h1 : Moved w wv wv') (h2 : mr' = mr ∨ ∀ k, mr' = some k → w.heap.size ≤ k) (hm : Mod (netMay g wv mr) w w') : Two w' L g h wv' mr' lv dv s' t := by
  refine ⟨hp, b.r.mod hm b.p.qm (fun k hk e => b.apart k e hk), fun k hk e => ?_⟩
  have hlt := (b.r.lt e).2.1
  rcases hk with hk | hk | hk
  · exact b.apart k (.inl hk) e
  · rcases h1 with h1 | h1
    · exact b.apart k (.inr (.inl (by rw [← h1]; exact hk))) e
    · have := h1 k hk; omega
  · rcases h2 with h2 | h2
    · exact b.apart k (.inr (.inr (by rw [← h2]; exact hk))) e
    · have := h2 k hk; omega
theorem Two.modP {w0 w w' : World} {L g h : Nat} {wv : Value} {mr : Option Nat} {lv dv : Value} {s t : NetS} (b : Two w L g h wv mr lv dv s t) (h0 : Mod noBlock w0 w) (hL : w0.heap.size ≤ L) (hm : Mod (netMay g wv mr) w w') : Mod noBlock w0 w' :=
  h0.trans' hm (fun i hi e => by have := (b.p.lt e).1; omega)
theorem Two.modR {w0 w w' : World} {L g h : Nat} {wv : Value} {mr : Option Nat} {lv dv : Value} {s t : NetS} (b : Two w L g h wv mr lv dv s t) (h0 : Mod noBlock w0 w) (hL : w0.heap.size ≤ L) (hm : Mod (refMay h lv dv) w w') : Mod noBlock w0 w' :=
  h0.trans' hm (fun i hi e => by have := (b.r.lt e).1; omega)
theorem RefP.not_blk {w : World} {L g q : Nat} {lv dv : Value} {s : NetS} {cs : List Value} {t : TypeId} (h : RefP w L g lv dv s) (hq : Blk w q cs t) (h1 : t ≠ 66) (h2 : t ≠ 26) (h3 : t ≠ 3) : ¬ refMay g lv dv q := by
  have own_at : ∀ {v : Value} {e : TypeId} {sz n : Nat} {xs : List Value}, w.ownsRow L e sz v n xs → ∀ {k : Nat}, v.ownBlock = some k → ∃ cur, w.heap[k]? = some (.cells cur e (0, 0)) := by
    intro v e sz n xs ho k hk
    rcases ho.2 with ⟨e', _⟩ | ⟨g', cap, cur, e', _, hg, _⟩
    · rw [e'] at hk; simp [Value.ownBlock] at hk
    · rw [e'] at hk; simp [Value.ownBlock] at hk; subst hk; exact ⟨cur, hg⟩
  simp only [Blk] at hq
  rintro (rfl | e | e)
  · have hb := h.blk
    simp only [Blk] at hb
    rw [hb] at hq; simp at hq; exact h1 hq.2.symm
  · obtain ⟨us, _, h4, _⟩ := h.row
    obtain ⟨cur, hc⟩ := own_at h4 e
    rw [hc] at hq; simp at hq; exact h2 hq.2.symm
  · obtain ⟨cur, hc⟩ := own_at h.dead e
    rw [hc] at hq; simp at hq; exact h3 hq.2.symm
/-- A block of another type stays, whichever net is turned. -/
theorem Two.blkP {w w' : World} {L g h q : Nat} {wv : Value} {mr : Option Nat} {lv dv : Value} {s t : NetS} {cs : List Value} (b : Two w L g h wv mr lv dv s t) (hq : Blk w q cs 69) (hm : Mod (netMay g wv mr) w w') : Blk w' q cs 69 :=
  hq.mod hm (b.p.not_blk hq (by decide) (by decide))
theorem Two.blkR {w w' : World} {L g h q : Nat} {wv : Value} {mr : Option Nat} {lv dv : Value} {s t : NetS} {cs : List Value} (b : Two w L g h wv mr lv dv s t) (hq : Blk w q cs 69) (hm : Mod (refMay h lv dv) w w') : Blk w' q cs 69 :=
  hq.mod hm (b.r.not_blk hq (by decide) (by decide) (by decide))
/-- The first messages of a list, all of them short. -/
theorem few_take {ms : List MsgD} {k : Nat} {m : MsgD} (h : ∀ x ∈ ms.take k, x.cmd.writes.length ≤ 40) (hm : ms[k]? = some m) (h1 : m.cmd.writes.length ≤ 40) : ∀ x ∈ ms.take (k + 1), x.cmd.writes.length ≤ 40 := by
  intro x hx
  rw [take_snoc_at hm] at hx
  rcases List.mem_append.1 hx with e | e
  · exact h x e
  · simp at e; subst e; exact h1
/-- A message in a block of its own, as a list of one. -/
theorem MsgsV.one (w : World) (L : Nat) (m : MsgD) (u : Value) (hu : PairsT w L u m.cmd.writes) (hg : goodM m) :
    MsgsV (w.alloc (.cells #[.int .i64 m.kind, .int .i64 m.frm, .int .i64 m.to, .int .i64 m.epoch, .int .i64 m.n, .int .i64 m.cmd.kind, .int .i64 m.cmd.tx, .int .i64 m.cmd.time, u] 26)) L (fun x => x = w.heap.size) (.slice (some ⟨w.heap.size, 0, none⟩) 1 1) [m] := by
  have hm1 : Mod noBlock w (w.alloc (.cells #[.int .i64 m.kind, .int .i64 m.frm, .int .i64 m.to, .int .i64 m.epoch, .int .i64 m.n, .int .i64 m.cmd.kind, .int .i64 m.cmd.tx, .int .i64 m.cmd.time, u] 26)) := (Mod.refl _ w).alloc _
  have hB1 := Blk.new w (msgCells m u) 26
  refine ⟨_, _, rfl, Nat.le_refl _, by unfold maxLen; omega, .inr ⟨w.heap.size, 0, rfl, rfl, fun i m' hi' => ?_⟩⟩
  have e : i = 0 ∧ m' = m := by
    cases i with
    | zero => simp at hi'; exact ⟨rfl, hi'.symm⟩
    | succ i => simp at hi'
  obtain ⟨rfl, rfl⟩ := e
  exact ⟨_, hu.mod hm1 (Qm.none _ _), hg, fun j x hx => by
    rw [show 0 + 0 * 9 + j = j by omega]; exact hB1.cell j hx⟩
end Go.Proofs.YtdbbgfbcbfbihaaDoor
