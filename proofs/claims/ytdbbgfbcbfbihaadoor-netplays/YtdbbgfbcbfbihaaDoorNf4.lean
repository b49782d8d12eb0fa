/- The document's Down. -/
import Derived.Test.YtdbbgfbcbfbihaaDoorNf3
namespace Go.Proofs.YtdbbgfbcbfbihaaDoor
open Go.RowKit Go.Lib Go.Maps

theorem Tryd.info3 : (Tryd.prog.info? 3).map (fun i => (i.zero, i.size, i.bytes)) = some (some (.int .i64 0), 1, 8) := by kernel_rfl
def downR (s : NetS) (d : Int) : NetS := ⟨keepS [d] s.way, s.lost + ((s.way.length : Int) - ((keepS [d] s.way).length : Int)), s.down ++ [d]⟩
theorem keepS_le (ds : List Int) (ms : List MsgD) : (keepS ds ms).length ≤ ms.length := List.length_filter_le _ _
/-- One more is dead: the row of them grew, and was stored. -/
theorem RefP.dies {w w6 : World} {L g : Nat} {lv dv v6 : Value} {s : NetS} {d : Int} (h : RefP w L g lv dv s) (hm6 : Mod (fun k => dv.ownBlock = some k) w w6) (hd : w6.ownsRow L 3 1 v6 (s.down.length + 1) (s.down.map (Value.int .i64) ++ [.int .i64 d])) (hv : v6.ownBlock = dv.ownBlock ∨ ∀ k, v6.ownBlock = some k → w.heap.size ≤ k) :
    RefP (w6.setCell ⟨g, 1, none⟩ v6) L g lv v6 ⟨s.way, s.lost, s.down ++ [d]⟩ ∧ Mod (refMay g lv dv) w (w6.setCell ⟨g, 1, none⟩ v6) := by
  obtain ⟨a1, a2, a3⟩ := h.apart
  have hb6 : Blk w6 g [lv, dv, .int .i64 s.lost] 66 := h.blk.mod hm6 a2
  have hb6' := hb6
  simp only [Blk] at hb6'
  have hms : Mod (oneBlock g) w6 (w6.setCell ⟨g, 1, none⟩ v6) := Mod.setBlk g 1 _
  have hqs : Qm w6 L (oneBlock g) := fun k _ e => by
    simp only [oneBlock] at e; subst e
    rintro (e | ⟨cur, fr, e⟩)
    · have := h.low; omega
    · rw [hb6'] at e; simp at e
  have hlt := h.blk.lt
  have hq6 : Qm w L (fun k => dv.ownBlock = some k) := Qm.of_ref h (fun k _ e => .inr (.inr e))
  refine ⟨⟨hb6.set 1 _, h.low, (h.row.mod hm6 hq6 (fun k hk e => a3 k hk e)).mod hms hqs (fun k hk e => a1 (by rw [hk, e])), ?_, h.few, h.lo⟩, ?_⟩
  · have hd' : w6.ownsRow L 3 1 v6 (s.down ++ [d]).length ((s.down ++ [d]).map (Value.int .i64)) := by simpa using hd
    refine own_mod hd' hms (fun k _ _ hk e => ?_)
    simp only [oneBlock] at e; subst e
    rcases hv with e | e
    · exact a2 (by rw [← e]; exact hk)
    · have := e _ hk; omega
  exact (hm6.mono (fun i _ e => .inr (.inr e))).setCell (p := ⟨g, 1, none⟩) (fun _ => .inl rfl) _

set_option maxRecDepth 100000 in
set_option maxHeartbeats 2000000 in
theorem rdown_any (L g : Nat) (lv dv : Value) (s : NetS) (d : Int) (w : World) (h : RefP w L g lv dv s) (hds : s.down.length ≤ 1000000) (hlo : s.lost + 200 ≤ 1099511627776) :
    Calls Tryd.prog 34 #[.pointer (some ⟨g, 0, none⟩), .int .i64 d] w fun e w' => ∃ lv' dv', e = .returned (.int .i64 ((downR s d).lost - s.lost)) ∧ RefP w' L g lv' dv' (downR s d) ∧ Moved w lv lv' ∧ Moved w dv dv' ∧ Mod (refMay g lv dv) w w' := by
  obtain ⟨i0, hi, hz0, hz1, hz2⟩ := info_parts Tryd.info26
  obtain ⟨j0, hj, jz0, jz1, jz2⟩ := info_parts Tryd.info3
  obtain ⟨la, lcap, hlv⟩ := h.row.slice
  subst hlv
  obtain ⟨da, dcap, hdv⟩ := own_slice h.dead
  subst hdv
  have c1 := h.blk.cell 1 rfl
  have f1 := h.blk.frozen 1
  have hgz := h.blk.lt
  have hlow := h.low
  have hfew := h.few
  have HN := Hid.mk' h
  have HAP := Hid.mk' h.apart
  have HDD := Hid.mk' h.dead
  have hk63 : s.down.length + 1 ≤ maxLen := by unfold maxLen; omega
  have hk47 : (s.down.length + 1) * 8 ≤ 140737488355328 := by omega
  clear h
  go_enter Tryd.func34, Tryd.ntmps34
  go_wp2_with (first
    | (at_builtin; refine wpList_append_own_at _ rfl (.tmp 13) (.tmp 15) 64 rfl L 3 j0 _ 1 8 Tryd.underlying64 hj jz0 jz1 jz2 rfl (by omega) _ _ _ rfl (HDD.out.alloc _) ⟨w.heap.size, 0, none⟩ 1 1 [.int .i64 d] rfl rfl (World.news_of_block (heap_alloc_new w _)) (by simp [Value.oneCell']) hk63 hk47 (by simp; omega) ?_)
    | fail)
  intro v6 w6 hown6 hgrow _ hloc
  have hm6 : Mod (fun k => (Value.slice da s.down.length dcap).ownBlock = some k) w w6 := ((Mod.refl _ w).alloc _).grown hgrow (fun x hx _ => hx)
  have c6 := hm6.cell c1 HAP.out.2.1
  have f6 := (hm6.frozen (p := ⟨g, 1, none⟩) hgz HAP.out.2.1).trans f1
  have hgz6 := Nat.lt_of_lt_of_le hgz hm6.size
  have hlc : v6.ownBlock = (Value.slice da s.down.length dcap).ownBlock ∨ ∀ k, v6.ownBlock = some k → w.heap.size ≤ k := by
    rcases hloc with e | e
    · exact .inl e
    · exact .inr (fun k hk => by rw [e] at hk; simp at hk; omega)
  have R := HN.out.dies hm6 hown6 hlc
  obtain ⟨va, vc, hv6⟩ := own_slice hown6
  subst hv6
  have hr1 := R.1
  have c60 := hr1.blk.cell 0 rfl
  have HR := Hid.mk' R
  clear R hown6 hgrow hloc hr1 hm6
  go_wp2_with fail
  obtain ⟨w1, hw1⟩ : ∃ q, q = w6.setCell ⟨g, 1, none⟩ (.slice va (s.down.length + 1) vc) := ⟨_, rfl⟩
  rw [← hw1] at HR c60 ⊢
  have hm01 := HR.out.2.size
  rw [hw1] at hm01
  rw [← hw1] at hm01
  clear hw1 c6 f6 c1 f1 hk63 hk47 HDD
  go_loopw [5, 24] (fun v i wr => ∃ k : Nat, k ≤ s.way.length ∧ i = .int .i64 k ∧ RowM wr L v (keepS [d] (s.way.take k)) ∧ (∀ x, v.ownBlock = some x → w1.heap.size ≤ x) ∧ Mod noBlock w1 wr) (fun _ i _ => s.way.length - (intOf i).toNat)
  case atStart => exact ⟨0, Nat.zero_le _, rfl, RowM.nil _ _, fun x hx => by simp [Value.ownBlock] at hx, Mod.refl _ _⟩
  case round =>
    obtain ⟨k, hk, rfl, hR, hfr, hM⟩ := hrel
    clear c60
    have hNr := HR.out.1.mod hM (Qm.none _ _) (fun _ _ => id)
    have hgr := hNr.blk.lt
    by_cases hlt : k < s.way.length
    · obtain ⟨m, hm⟩ : ∃ m, s.way[k]? = some m := ⟨_, List.getElem?_eq_getElem hlt⟩
      obtain ⟨b, bcap, u, hv, _, _, hu, hgm, q0, q1, q2, q3, q4, q5, q6, q7, q8⟩ := hNr.row.at hm
      simp only [Value.slice.injEq] at hv
      obtain ⟨rfl, _, rfl⟩ := hv
      obtain ⟨ua, ucap, rfl⟩ : ∃ ua ucap, u = .slice ua m.cmd.writes.length ucap := by obtain ⟨ua, ucap, h, _⟩ := hu; exact ⟨ua, ucap, h⟩
      have HT : Hid (s.way.take (k + 1) = s.way.take k ++ [m]) := by
        rw [Hid, List.take_succ_eq_append_getElem hlt]
        rw [List.getElem?_eq_getElem hlt] at hm
        simp at hm; rw [hm]
      have hkl : (keepS [d] (s.way.take k)).length ≤ k := Nat.le_trans (keepS_le _ _) (by rw [List.length_take]; omega)
      obtain ⟨w5, hw5⟩ : ∃ q, q = wr.alloc (.cells #[.int .i64 m.kind, .int .i64 m.frm, .int .i64 m.to, .int .i64 m.epoch, .int .i64 m.n, .int .i64 m.cmd.kind, .int .i64 m.cmd.tx, .int .i64 m.cmd.time, .slice ua m.cmd.writes.length ucap] 26) := ⟨_, rfl⟩
      have hm5 : Mod noBlock wr w5 := by rw [hw5]; exact (Mod.refl _ wr).alloc _
      have hB5 : Blk w5 wr.heap.size (msgCells m (.slice ua m.cmd.writes.length ucap)) 26 := by rw [hw5]; exact Blk.new wr _ _
      by_cases hf : m.frm = d
      · have HS : Hid (silentB [d] m = true) := by rw [Hid, silentB, decide_eq_true (show m.frm ∈ [d] by simp [hf])]; rfl
        have e1 : (m.frm == d) = true := by simp [hf]
        have e2 : (m.frm != d) = false := by simp [hf]
        have HKS : Hid (keepS [d] (s.way.take (k + 1)) = keepS [d] (s.way.take k)) := by rw [Hid, HT.out, keepS_snoc, if_pos HS.out]
        clear hf
        go_wp2_with fail
        go_roundw
        case rel =>
          rw [← hw5]
          exact ⟨k + 1, by omega, by go_num, by rw [HKS.out]; exact hR.mod hm5 (Qm.none _ _) (fun _ _ => id), hfr, hM.trans hm5⟩
        case measure => simp [intOf]; omega
      · have hf1 : (m.frm == d) = false := by simpa using hf
        have hf2 : (m.frm != d) = true := by simpa using hf
        by_cases ht : m.to = d
        · have HS : Hid (silentB [d] m = true) := by rw [Hid, silentB, decide_eq_true (show m.to ∈ [d] by simp [ht])]; simp
          have e1 : (m.to == d) = true := by simp [ht]
          have e2 : (m.to != d) = false := by simp [ht]
          have HKS : Hid (keepS [d] (s.way.take (k + 1)) = keepS [d] (s.way.take k)) := by rw [Hid, HT.out, keepS_snoc, if_pos HS.out]
          clear ht hf
          go_wp2_with fail
          go_roundw
          case rel =>
            rw [← hw5]
            exact ⟨k + 1, by omega, by go_num, by rw [HKS.out]; exact hR.mod hm5 (Qm.none _ _) (fun _ _ => id), hfr, hM.trans hm5⟩
          case measure => simp [intOf]; omega
        · have ht1 : (m.to == d) = false := by simpa using ht
          have ht2 : (m.to != d) = true := by simpa using ht
          have HS : Hid (silentB [d] m = false) := by rw [Hid, silentB, decide_eq_false (show ¬ m.frm ∈ [d] by simpa using hf), decide_eq_false (show ¬ m.to ∈ [d] by simpa using ht)]; rfl
          have HKS : Hid (keepS [d] (s.way.take (k + 1)) = keepS [d] (s.way.take k) ++ [m]) := by rw [Hid, HT.out, keepS_snoc, if_neg (by rw [HS.out]; decide)]
          go_upto_if 37 with fail
          rw [← hw5]
          obtain ⟨us, hus, hrow, hps, hgd⟩ := hR.mod hm5 (Qm.none _ _) (fun _ _ => id)
          obtain ⟨⟨p0, p1, p2, p3, p4, p5, p6, p7, p8⟩, _⟩ := blk9 hB5
          obtain ⟨n5, hn5⟩ : ∃ q, q = (keepS [d] (s.way.take k)).length := ⟨_, rfl⟩
          rw [← hn5] at hkl hrow
          have HROW := Hid.mk' hrow
          have HPS := Hid.mk' hps
          have HGD := Hid.mk' hgd
          have HU := Hid.mk' (hu.mod hm5 (Qm.none _ _))
          have HN5 := Hid.mk' hn5
          have hM5 := hM.trans hm5
          have hz5 := hM5.size
          have hk63 : n5 + 1 ≤ maxLen := by unfold maxLen; omega
          have hk47 : (n5 + 1) * 88 ≤ 140737488355328 := by omega
          have hg5 := Nat.lt_of_lt_of_le hgr hm5.size
          clear hrow hps hgd hR hu hm5 hw5 hn5 q0 q1 q2 q3 q4 q5 q6 q7 q8
          go_wp2_with (first
            | (at_builtin; refine wpList_append_own_at _ rfl (.tmp 38) (.tmp 40) 59 rfl L 26 i0 _ 9 88 Tryd.underlying59 hi hz0 hz1 hz2 rfl (by omega) _ _ _ rfl (HROW.out.alloc _) ⟨w5.heap.size, 0, none⟩ 1 1 (msgCells m (.slice ua m.cmd.writes.length ucap)) rfl rfl (World.news_of_block (heap_alloc_new w5 _)) (msg_one _ _ _ _) hk63 hk47 (by simp; omega) ?_)
            | fail)
          intro v7 w7 hown7 hgrow _ hloc
          have hR7 : RowM w7 L v7 (keepS [d] (s.way.take k) ++ [m]) := RowM.push hus (by rw [← HN5.out]; exact HROW.out) HPS.out HGD.out HU.out hgm hgrow (by rw [← HN5.out]; exact hown7)
          have hM7 : Mod noBlock w1 w7 := hM5.trans' (((Mod.refl _ w5).alloc _).grown (G := fun k => u5.ownBlock = some k) hgrow (fun x hx _ => hx)) (fun i hi e => by have := hfr i e; omega)
          have hfr7 : ∀ x, v7.ownBlock = some x → w1.heap.size ≤ x := fun x hx => by
            rcases hloc with e | e
            · exact hfr x (by rw [← e]; exact hx)
            · rw [e] at hx; simp at hx; omega
          clear hown7 hgrow hloc HROW HPS HGD HU hM5 hM
          go_wp2_with fail
          go_roundw
          case rel => exact ⟨k + 1, by omega, by go_num, by rw [HKS.out]; exact hR7, hfr7, hM7⟩
          case measure => simp [intOf]; omega
    · have hkn : k = s.way.length := by omega
      subst hkn
      rw [List.take_length] at hR
      obtain ⟨ra, rcap, hrv⟩ := hR.slice
      subst hrv
      have c0r := hNr.blk.cell 0 rfl
      have f0r := hNr.blk.frozen 0
      have c2r := hNr.blk.cell 2 rfl
      have f2r := hNr.blk.frozen 2
      have hkl := keepS_le [d] s.way
      obtain ⟨R1, M1⟩ := HR.out.1.rowed (hM.mono (fun _ _ e => e.elim)) hR (.inr hfr) (by omega)
      have hlo' := HR.out.1.lo
      obtain ⟨R2, M2⟩ := R1.loses (s.lost + ((s.way.length : Int) - ((keepS [d] s.way).length : Int))) (by simp only at hlo'; omega)
      have HF1 := Hid.mk' R2
      have HF2 := Hid.mk' (M1.trans' M2 (fun i hi e => by
        rcases e with e | e | e
        · exact .inl e
        · have := hfr i e; omega
        · exact .inr (.inr e)))
      have hsb : IntKind.i64.wrap ((s.way.length : Int) - ((keepS [d] s.way).length : Int)) = (s.way.length : Int) - ((keepS [d] s.way).length : Int) := by rw [IntKind.wrap_i64]; omega
      have hsc : IntKind.i64.wrap (s.lost + ((s.way.length : Int) - ((keepS [d] s.way).length : Int))) = s.lost + ((s.way.length : Int) - ((keepS [d] s.way).length : Int)) := by rw [IntKind.wrap_i64]; simp only at hlo'; omega
      clear R1 R2 M1 M2 hR
      go_wp2_with fail
      go_ret
      refine ⟨?_, _, _, HF1.out, .inr (fun x hx => Nat.le_trans hm01 (hfr x hx)), hlc, HR.out.2.trans' HF2.out (fun i hi e => ?_)⟩
      · have e : (downR s d).lost - s.lost = (s.way.length : Int) - ((keepS [d] s.way).length : Int) := by simp only [downR]; omega
        rw [e]; rfl
      · rcases e with e | e | e
        · exact .inl e
        · exact .inr (.inl e)
        · rcases hlc with e' | e'
          · exact .inr (.inr (by rw [← e']; exact e))
          · have := e' i e; omega
end Go.Proofs.YtdbbgfbcbfbihaaDoor
