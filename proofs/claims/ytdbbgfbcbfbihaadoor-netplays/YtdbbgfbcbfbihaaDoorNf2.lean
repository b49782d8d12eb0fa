/- The document's Send. -/
import Derived.Test.YtdbbgfbcbfbihaaDoorNf
namespace Go.Proofs.YtdbbgfbcbfbihaaDoor
open Go.RowKit Go.Lib Go.Maps

theorem RefP.loses {w : World} {L g : Nat} {lv dv : Value} {s : NetS} (h : RefP w L g lv dv s) (n : Int) (hn : 0 ≤ n ∧ n ≤ 1099511627776) :
    RefP (w.setCell ⟨g, 2, none⟩ (.int .i64 n)) L g lv dv ⟨s.way, n, s.down⟩ ∧ Mod (refMay g lv dv) w (w.setCell ⟨g, 2, none⟩ (.int .i64 n)) := by
  obtain ⟨a1, a2, _⟩ := h.apart
  have hm : Mod (oneBlock g) w (w.setCell ⟨g, 2, none⟩ (.int .i64 n)) := Mod.setBlk g 2 _
  have hq : Qm w L (oneBlock g) := Qm.of_ref h (fun k _ e => .inl e)
  exact ⟨⟨h.blk.set 2 _, h.low, h.row.mod hm hq (fun k hk e => a1 (by rw [hk]; rw [e])), own_mod h.dead hm (fun k _ _ hk e => a2 (by rw [hk]; rw [e])), h.few, hn⟩, hm.mono (fun i _ e => .inl e)⟩
/-- The row of messages was turned, or made anew, and stored. -/
theorem RefP.rowed {w w6 : World} {L g : Nat} {lv v6 dv : Value} {s : NetS} {ms : List MsgD} (h : RefP w L g lv dv s) (hm6 : Mod (fun k => lv.ownBlock = some k) w w6) (hR : RowM w6 L v6 ms) (hv : v6.ownBlock = lv.ownBlock ∨ ∀ k, v6.ownBlock = some k → w.heap.size ≤ k) (hf : ms.length ≤ 200) :
    RefP (w6.setCell ⟨g, 0, none⟩ v6) L g v6 dv ⟨ms, s.lost, s.down⟩ ∧ Mod (refMay g lv dv) w (w6.setCell ⟨g, 0, none⟩ v6) := by
  obtain ⟨a1, a2, a3⟩ := h.apart
  have hb6 : Blk w6 g [lv, dv, .int .i64 s.lost] 66 := h.blk.mod hm6 a1
  have hb6' := hb6
  simp only [Blk] at hb6'
  have hms : Mod (oneBlock g) w6 (w6.setCell ⟨g, 0, none⟩ v6) := Mod.setBlk g 0 _
  have hqs : Qm w6 L (oneBlock g) := fun k _ e => by
    simp only [oneBlock] at e; subst e
    rintro (e | ⟨cur, fr, e⟩)
    · have := h.low; omega
    · rw [hb6'] at e; simp at e
  have hlt := h.blk.lt
  refine ⟨⟨hb6.set 0 _, h.low, hR.mod hms hqs (fun k hk e => ?_), own_mod (own_mod h.dead hm6 (fun k _ _ hk e => a3 k e hk)) hms (fun k _ _ hk e => a2 (by rw [hk, e])), hf, h.lo⟩, ?_⟩
  · simp only [oneBlock] at e; subst e
    rcases hv with e | e
    · exact a1 (by rw [← e]; exact hk)
    · have := e _ hk; omega
  exact (hm6.mono (fun i _ e => .inr (.inl e))).setCell (p := ⟨g, 0, none⟩) (fun _ => .inl rfl) _

set_option maxRecDepth 100000 in
set_option maxHeartbeats 1000000 in
theorem rsend_any (L g : Nat) (lv dv : Value) (s : NetS) (m : MsgD) (u : Value) (w : World) (h : RefP w L g lv dv s) (hu : PairsT w L u m.cmd.writes) (hgm : goodM m) (hds : s.down.length ≤ 1000000) (hlo : s.lost + 1 ≤ 1099511627776) :
    Calls Tryd.prog 28 #[.pointer (some ⟨g, 0, none⟩), .agg #[.int .i64 m.kind, .int .i64 m.frm, .int .i64 m.to, .int .i64 m.epoch, .int .i64 m.n, .int .i64 m.cmd.kind, .int .i64 m.cmd.tx, .int .i64 m.cmd.time, u]] w fun e w' =>
      ∃ lv', e = .returned (.bool (decide ((send1 s m).lost = s.lost))) ∧ RefP w' L g lv' dv (send1 s m) ∧ Moved w lv lv' ∧ Mod (refMay g lv dv) w w' := by
  obtain ⟨i0, hi, hz0, hz1, hz2⟩ := info_parts Tryd.info26
  obtain ⟨ua, ucap, rfl⟩ : ∃ ua ucap, u = .slice ua m.cmd.writes.length ucap := by obtain ⟨ua, ucap, h, _⟩ := hu; exact ⟨ua, ucap, h⟩
  obtain ⟨w1, hw1⟩ : ∃ q, q = w.alloc (.cells #[.int .i64 m.kind, .int .i64 m.frm, .int .i64 m.to, .int .i64 m.epoch, .int .i64 m.n, .int .i64 m.cmd.kind, .int .i64 m.cmd.tx, .int .i64 m.cmd.time, .slice ua m.cmd.writes.length ucap] 26) := ⟨_, rfl⟩
  have hm1 : Mod noBlock w w1 := by rw [hw1]; exact (Mod.refl _ w).alloc _
  have hB1 : Blk w1 w.heap.size (msgCells m (.slice ua m.cmd.writes.length ucap)) 26 := by rw [hw1]; exact Blk.new w _ _
  have h1 := h.mod hm1 (Qm.none _ _) (fun _ _ => id)
  have hu1 := hu.mod hm1 (Qm.none _ _)
  have hl0 := h.lo
  have HD1 := Hid.mk' (dead_any L g lv dv s m.frm w1 h1 hds)
  have HD2 := Hid.mk' (dead_any L g lv dv s m.to w1 h1 hds)
  clear h hu
  go_enter Tryd.func28, Tryd.ntmps28
  go_wp2_with fail
  rw [← hw1]
  clear hw1
  refine HD1.out.mono ?_
  rintro e w2 ⟨rfl, hw2⟩
  subst hw2
  obtain ⟨la, lcap, hlv⟩ := h1.row.slice
  subst hlv
  have c0 := h1.blk.cell 0 rfl
  have f0 := h1.blk.frozen 0
  have c2 := h1.blk.cell 2 rfl
  have f2 := h1.blk.frozen 2
  obtain ⟨⟨p0, p1, p2, p3, p4, p5, p6, p7, p8⟩, _⟩ := blk9 hB1
  have hgz := h1.blk.lt
  have hzz := hm1.size
  have HLS := Hid.mk' (h1.loses (s.lost + 1) (by omega))
  by_cases hfr : m.frm ∈ s.down
  · rw [decide_eq_true hfr]
    have HF : Hid (send1 s m = ⟨s.way, s.lost + 1, s.down⟩) := by rw [Hid, send1, silentB, decide_eq_true hfr]; rfl
    go_wp2_with fail
    go_ret
    refine ⟨_, ?_, by rw [HF.out]; exact HLS.out.1, Moved.refl _ _, (hm1.mono (fun _ _ e => e.elim)).trans HLS.out.2⟩
    rw [HF.out, decide_eq_false (by simp only; omega)]; rfl
  · rw [decide_eq_false hfr]
    go_wp2_with fail
    refine HD2.out.mono ?_
    rintro e w3 ⟨rfl, hw3⟩
    subst hw3
    by_cases hto : m.to ∈ s.down
    · rw [decide_eq_true hto]
      have HF : Hid (send1 s m = ⟨s.way, s.lost + 1, s.down⟩) := by rw [Hid, send1, silentB, decide_eq_false hfr, decide_eq_true hto]; rfl
      go_wp2_with fail
      go_ret
      refine ⟨_, ?_, by rw [HF.out]; exact HLS.out.1, Moved.refl _ _, (hm1.mono (fun _ _ e => e.elim)).trans HLS.out.2⟩
      rw [HF.out, decide_eq_false (by simp only; omega)]; rfl
    · rw [decide_eq_false hto]
      have hsf : silentB s.down m = false := by rw [silentB, decide_eq_false hfr, decide_eq_false hto]; rfl
      by_cases hro : 200 ≤ s.way.length
      · have hd : decide (200 ≤ (s.way.length : Int)) = true := decide_eq_true (by omega)
        have HF : Hid (send1 s m = ⟨s.way, s.lost + 1, s.down⟩) := by rw [Hid, send1, hsf, decide_eq_true hro]; rfl
        go_wp2_with fail
        go_ret
        refine ⟨_, ?_, by rw [HF.out]; exact HLS.out.1, Moved.refl _ _, (hm1.mono (fun _ _ e => e.elim)).trans HLS.out.2⟩
        rw [HF.out, decide_eq_false (by simp only; omega)]; rfl
      · have hd : decide (200 ≤ (s.way.length : Int)) = false := decide_eq_false (by omega)
        have HF : Hid (send1 s m = ⟨s.way ++ [m], s.lost, s.down⟩) := by rw [Hid, send1, hsf, decide_eq_false hro]; rfl
        obtain ⟨us, hus, hrow, hps, hgd⟩ := h1.row
        have HROW := Hid.mk' hrow
        have HPS := Hid.mk' hps
        have HGD := Hid.mk' hgd
        have hlow := h1.low
        have HAP := Hid.mk' h1.apart
        have HN1 := Hid.mk' h1
        have hk63 : s.way.length + 1 ≤ maxLen := by unfold maxLen; omega
        have hk47 : (s.way.length + 1) * 88 ≤ 140737488355328 := by omega
        clear h1 hrow hps hgd HLS HD1 HD2
        go_upto_region 4 with fail
        go_region_law
          ((first
            | (refine step_append_lies _ (by rfl) _ _ _ (by rfl) L 26 i0 _ 9 88 Tryd.underlying59 hi hz0 hz1 hz2 rfl (by omega) _ _ _ (by rfl) ((World.ownsRow.drew HROW.out).alloc _) ⟨w3.heap.size, 0, none⟩ 1 1 (msgCells m (.slice ua m.cmd.writes.length ucap)) (by rfl) (by rfl) (World.news_of_block (heap_alloc_new w3.drew _)) (msg_one _ _ _ _) (by omega) hk63 hk47 (by simp; omega) _ rfl ?_; intro g6 cap6 w6 hown6 hgrow hat hlt6; have hm36 : Mod (fun k => (Value.slice la s.way.length lcap).ownBlock = some k) w3 w6 := (((Mod.refl _ w3).drew).alloc _).grown hgrow (fun x hx _ => hx); have c6 := hm36.cell c0 HAP.out.1; have f6 := (hm36.frozen (p := ⟨g, 0, none⟩) hgz HAP.out.1).trans f0)
            | fail))
        all_goals
          have hd3 : Mod noBlock w3 w3.drew := (Mod.refl noBlock w3).drew
          have hR6 := RowM.push (w := w3.drew) hus (World.ownsRow.drew HROW.out) (fun i m u k1 k2 => (HPS.out i m u k1 k2).mod hd3 (Qm.none _ _)) HGD.out (hu1.mod hd3 (Qm.none _ _)) hgm hgrow hown6
          have hloc : (Value.slice (some ⟨g6, 0, none⟩) (s.way.length + 1) cap6).ownBlock = (Value.slice la s.way.length lcap).ownBlock ∨ ∀ k, (Value.slice (some ⟨g6, 0, none⟩) (s.way.length + 1) cap6).ownBlock = some k → w3.heap.size ≤ k := by
            rcases hat with e | e
            · exact .inl (by rw [e]; rfl)
            · exact .inr (fun k hk => by simp [Value.ownBlock] at hk; simp at e; omega)
          have R := HN1.out.rowed hm36 hR6 hloc (by simp; omega)
          have HR := Hid.mk' R
          clear R hR6 hown6 hgrow hat
          go_wp2_with fail
          go_ret
          refine ⟨_, ?_, by rw [HF.out]; exact HR.out.1, ?_, (hm1.mono (fun _ _ e => e.elim)).trans HR.out.2⟩
          · rw [HF.out, decide_eq_true rfl]; rfl
          · rcases hloc with e | e
            · exact .inl e
            · exact .inr (fun k hk => Nat.le_trans hzz (e k hk))
end Go.Proofs.YtdbbgfbcbfbihaaDoor
