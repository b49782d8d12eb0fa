/- The program's node: a message to a neighbour. -/
import Derived.Test.YtefhgakcffhgaabCn4
import Derived.BigRegion
namespace Go.Proofs.Ytefhgakcffhgaab
open Go.RowKit Go.Lib Go.Maps

theorem RowM.one {w : World} {L : Nat} (m : MsgD) (u : Value) (hL : L ≤ w.heap.size) (hu : PairsT w L u m.cmd.writes) (hg : goodM m) :
    RowM (w.alloc (.cells #[.int .i64 m.kind, .int .i64 m.frm, .int .i64 m.to, .int .i64 m.epoch, .int .i64 m.n, .int .i64 m.cmd.kind, .int .i64 m.cmd.tx, .int .i64 m.cmd.time, u] 51)) L (.slice (some ⟨w.heap.size, 0, none⟩) 1 1) [m] := by
  refine ⟨[u], rfl, ⟨rfl, .inr ⟨w.heap.size, 1, _, rfl, hL, heap_alloc_new w _, Nat.le_refl _, by unfold maxLen; omega, rfl, rfl⟩⟩, fun i m' u' hi hu' => ?_, fun m' hm' => ?_⟩
  · have e : i = 0 := by
      cases i with
      | zero => rfl
      | succ i => simp at hi
    subst e
    simp at hi hu'
    subst hi hu'
    exact hu.mod ((Mod.refl noBlock w).alloc _) (Qm.none _ _)
  · simp at hm'; subst hm'; exact hg
/-- What is sent to a neighbour. -/
def sendN (s : NodeS) (wh : Int) (m : MsgD) : List MsgD := match nbrN s wh with
  | none => []
  | some t => [⟨m.kind, s.id, t, s.epoch, m.n, m.cmd⟩]
theorem nbrN_mem {s : NodeS} {wh t : Int} (h : nbrN s wh = some t) : t ∈ s.nodes := by
  unfold nbrN at h
  split at h
  · exact List.mem_of_getElem? h
  · cases h
def freshV (w : World) (v : Value) : Prop := ∀ k, v.ownBlock = some k → w.heap.size ≤ k

set_option maxRecDepth 100000 in
set_option maxHeartbeats 2000000 in
theorem csend_any (L g : Nat) (nv lv : Value) (s : NodeS) (wh : Int) (m : MsgD) (u : Value) (w : World) (h : NodeP w L g nv lv s) (hwh : wh = 1 ∨ wh = -1) (hu : PairsT w L u m.cmd.writes) (hgm : int64 m.kind ∧ int64 m.n ∧ goodC m.cmd) :
    Calls Try.prog 43 #[.pointer (some ⟨g, 0, none⟩), .int .i64 wh, .agg #[.int .i64 m.kind, .int .i64 m.frm, .int .i64 m.to, .int .i64 m.epoch, .int .i64 m.n, .int .i64 m.cmd.kind, .int .i64 m.cmd.tx, .int .i64 m.cmd.time, u]] w fun e w' =>
      ∃ v, e = .returned v ∧ RowM w' L v (sendN s wh m) ∧ freshV w v ∧ Mod noBlock w w' := by
  obtain ⟨ua, ucap, rfl⟩ : ∃ ua ucap, u = .slice ua m.cmd.writes.length ucap := by obtain ⟨ua, ucap, h, _⟩ := hu; exact ⟨ua, ucap, h⟩
  obtain ⟨w1, hw1⟩ : ∃ q, q = w.alloc (.cells #[.int .i64 m.kind, .int .i64 m.frm, .int .i64 m.to, .int .i64 m.epoch, .int .i64 m.n, .int .i64 m.cmd.kind, .int .i64 m.cmd.tx, .int .i64 m.cmd.time, .slice ua m.cmd.writes.length ucap] 51) := ⟨_, rfl⟩
  have hm1 : Mod noBlock w w1 := by rw [hw1]; exact (Mod.refl _ w).alloc _
  have hB1 : Blk w1 w.heap.size (msgCells m (.slice ua m.cmd.writes.length ucap)) 51 := by rw [hw1]; exact Blk.new w _ _
  have h1 := h.quiet hm1
  have hgl := h.blk.lt
  have hlow := h.low
  have HN := Hid.mk' (neighbour_any L g nv lv s wh w1 h1 hwh)
  have HINT := Hid.mk' h.ints
  have HU := Hid.mk' (hu.mod hm1 (Qm.none _ _))
  clear h hu
  go_enter Try.func43, Try.ntmps43
  go_upto_region 1 with fail
  rw [← hw1]
  clear hw1
  go_wp2_with fail
  refine HN.out.mono ?_
  rintro e w2 ⟨rfl, m1, rfl⟩
  cases hn : nbrN s wh with
  | none =>
    have HS : Hid (sendN s wh m = []) := by rw [Hid, sendN, hn]
    simp only [Option.getD_none, Option.isSome_none]
    clear HN
    go_wp2_with fail
    go_ret
    exact ⟨_, rfl, by rw [HS.out]; exact RowM.nil _ _, fun k hk => by simp [Value.ownBlock] at hk, hm1.drewN _⟩
  | some t =>
    have HS : Hid (sendN s wh m = [⟨m.kind, s.id, t, s.epoch, m.n, m.cmd⟩]) := by rw [Hid, sendN, hn]
    have ht : int64 t := HINT.out.2.2 t (nbrN_mem hn)
    simp only [Option.getD_some, Option.isSome_some]
    obtain ⟨c0, c1, c2, c3, c4⟩ := blkN5 h1.blk
    obtain ⟨⟨x0, x1, x2, x3, x4, x5, x6, x7, x8⟩, ⟨y0, y1, y2, y3, y4, y5, y6, y7, y8⟩⟩ := blk9 hB1
    have hz1 := hB1.lt
    have hgz1 : g < w1.heap.size := h1.blk.lt
    clear HN h1
    go_upto_region 4 with fail
    go_region
    all_goals go_wp2_with fail
    go_ret
    obtain ⟨w5, hw5⟩ : ∃ q, q = (((w1.drewN (m1 + 1)).setCell ⟨w.heap.size, 1, none⟩ (.int .i64 s.id)).setCell ⟨w.heap.size, 2, none⟩ (.int .i64 t)).setCell ⟨w.heap.size, 3, none⟩ (.int .i64 s.epoch) := ⟨_, rfl⟩
    have hz5 : w5.heap.size = w1.heap.size := by rw [hw5]; simp
    have hm15 : Mod (oneBlock w.heap.size) w1 w5 := by
      rw [hw5]
      exact ((((Mod.refl (oneBlock w.heap.size) w1).drewN (m1 + 1)).trans (Mod.setBlk _ 1 _)).trans (Mod.setBlk _ 2 _)).trans (Mod.setBlk _ 3 _)
    have hq : Qm w1 L (oneBlock w.heap.size) := fun k _ e => by
      simp only [oneBlock] at e; subst e
      have hb := hB1
      simp only [Blk] at hb
      rintro (e | ⟨cur, fr, e⟩)
      · omega
      · rw [hb] at e; simp at e
    have hm5 : Mod noBlock w w5 := hm1.trans' hm15 (fun i hi e => by simp only [oneBlock] at e; omega)
    rw [← hw5, ← hz5]
    have hL5 : L ≤ w5.heap.size := by omega
    refine ⟨_, rfl, ?_, fun k hk => ?_, hm5.alloc _⟩
    · rw [HS.out]
      exact RowM.one ⟨m.kind, s.id, t, s.epoch, m.n, m.cmd⟩ _ hL5 (HU.out.mod hm15 hq) ⟨⟨hgm.1, HINT.out.1, ht, HINT.out.2.1, hgm.2.1, hgm.2.2.1⟩, hgm.2.2.2⟩
    · have e : w5.heap.size = k := by simpa [Value.ownBlock] using hk
      omega
end Go.Proofs.Ytefhgakcffhgaab
