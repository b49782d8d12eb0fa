/- The program's Take, Lose, Twice. -/
import Derived.Test.YtefhgakcffhgaabNt6
namespace Go.Proofs.Ytefhgakcffhgaab
open Go.RowKit Go.Lib Go.Maps
variable {E : Ext}

def dropS (s : NetS) (k : Nat) : NetS := ⟨s.way.eraseIdx k, s.lost, s.down⟩
theorem split_at {α : Type} {l : List α} {k : Nat} {x : α} (h : l[k]? = some x) : ∃ a b, l = a ++ x :: b ∧ a.length = k ∧ l.eraseIdx k = a ++ b := by
  have hk : k < l.length := (List.getElem?_eq_some_iff.1 h).1
  refine ⟨l.take k, l.drop (k + 1), ?_, by rw [List.length_take]; omega, by rw [List.eraseIdx_eq_take_drop_succ]⟩
  rw [List.getElem?_eq_getElem hk] at h
  simp at h
  rw [← h, ← List.drop_eq_getElem_cons hk, List.take_append_drop]
/-- The row of the way was turned, and stored. -/
theorem NetP.rowed {w w6 : World} {L g : Nat} {wv v6 : Value} {mr : Option Nat} {s : NetS} {ms : List MsgD} (h : NetP E w L g wv mr s) (hm6 : Mod (fun k => wv.ownBlock = some k) w w6) (hR : RowM w6 L v6 ms) (hv : v6.ownBlock = wv.ownBlock) (hf : ms.length ≤ 200) :
    NetP E (w6.setCell ⟨g, 1, none⟩ v6) L g v6 mr ⟨ms, s.lost, s.down⟩ ∧ Mod (netMay g wv mr) w (w6.setCell ⟨g, 1, none⟩ v6) := by
  obtain ⟨a1, a2, a3⟩ := h.apart
  have hb6 : Blk w6 g [E.a0, wv, .int .i64 s.lost, .map mr, E.a4, E.a5, E.a6, E.a7, E.a8] 42 := h.blk.mod hm6 a1
  have hb6' := hb6
  simp only [Blk] at hb6'
  have hms : Mod (oneBlock g) w6 (w6.setCell ⟨g, 1, none⟩ v6) := Mod.setBlk g 1 _
  have hqs : Qm w6 L (oneBlock g) := fun k _ e => by
    simp only [oneBlock] at e; subst e
    rintro (e | ⟨cur, fr, e⟩)
    · have := h.low; omega
    · rw [hb6'] at e; simp at e
  refine ⟨⟨hb6.set 1 _, h.low, hR.mod hms hqs (fun k hk e => a1 (by rw [← hv, hk, e])), (h.dn.mod hm6 (fun k hk e => a3 k e hk)).mod hms (fun k hk e => a2 (by rw [hk, e])), hf, h.lo⟩, ?_⟩
  exact (hm6.mono (fun i _ e => .inr (.inl e))).setCell (p := ⟨g, 1, none⟩) (fun _ => .inl rfl) _

set_option maxRecDepth 100000 in
set_option maxHeartbeats 1000000 in
theorem take_yes (L g : Nat) (wv : Value) (mr : Option Nat) (s : NetS) (k : Nat) (m : MsgD) (w : World) (h : NetP E w L g wv mr s) (hm : s.way[k]? = some m) :
    Calls Try.prog 15 #[.pointer (some ⟨g, 1, none⟩), .int .i64 k] w fun e w' => ∃ wv' u, e = .returned (.tuple #[msgV m u, .nilIface]) ∧ NetP E w' L g wv' mr (dropS s k) ∧ PairsT w' L u m.cmd.writes ∧ wv'.ownBlock = wv.ownBlock ∧ Mod (netMay g wv mr) w w' := by
  have hk : k < s.way.length := (List.getElem?_eq_some_iff.1 hm).1
  have hfew := h.few
  have HH : Hid (Calls Try.prog 44 #[.pointer (some ⟨g, 1, none⟩), .int .i64 k] (w.alloc (.cells #[.int .i64 0, .int .i64 0, .int .i64 0, .int .i64 0, .int .i64 0, .int .i64 0, .int .i64 0, .int .i64 0, .slice none 0 0] 51)) fun e w' => e = .returned (.bool (hasB s k)) ∧ w' = (w.alloc (.cells #[.int .i64 0, .int .i64 0, .int .i64 0, .int .i64 0, .int .i64 0, .int .i64 0, .int .i64 0, .int .i64 0, .slice none 0 0] 51))) := has_any L g wv mr s k _ (h.mod ((Mod.refl noBlock w).alloc _) (Qm.none _ _) (fun _ _ => id))
  have hha : hasB s k = true := by simp [hasB]; omega
  rw [hha] at HH
  obtain ⟨w0, hw0⟩ : ∃ q, q = w.alloc (.cells #[.int .i64 0, .int .i64 0, .int .i64 0, .int .i64 0, .int .i64 0, .int .i64 0, .int .i64 0, .int .i64 0, .slice none 0 0] 51) := ⟨_, rfl⟩
  have hm0 : Mod noBlock w w0 := by rw [hw0]; exact (Mod.refl _ w).alloc _
  have hZ0 : Blk w0 w.heap.size [.int .i64 0, .int .i64 0, .int .i64 0, .int .i64 0, .int .i64 0, .int .i64 0, .int .i64 0, .int .i64 0, .slice none 0 0] 51 := by rw [hw0]; exact Blk.new w _ _
  have h0 := h.mod hm0 (Qm.none _ _) (fun _ _ => id)
  rw [← hw0] at HH
  go_enter Try.func15, Try.ntmps15
  go_wp2_with fail
  rw [← hw0]
  clear hw0 hha
  refine HH.out.mono ?_
  rintro e w1 ⟨rfl, hw1⟩
  subst hw1
  clear HH
  obtain ⟨b, bcap, u, hv, hcb, hcm, hu, hgm, q0, q1, q2, q3, q4, q5, q6, q7, q8⟩ := h0.row.at hm
  subst hv
  have c0 := h0.blk.cell 1 rfl
  obtain ⟨ua, ucap, rfl⟩ : ∃ ua ucap, u = .slice ua m.cmd.writes.length ucap := by obtain ⟨ua, ucap, h, _⟩ := hu; exact ⟨ua, ucap, h⟩
  obtain ⟨m1, m2, hsp, hl1, her⟩ := split_at hm
  have hR0 : RowM w1 L (.slice (some ⟨b, 0, none⟩) s.way.length bcap) (m1 ++ m :: m2) := by rw [← hsp]; exact h0.row
  have hgz := h0.blk.lt
  obtain ⟨w2, hw2⟩ : ∃ q, q = w1.alloc (.cells #[.int .i64 m.kind, .int .i64 m.frm, .int .i64 m.to, .int .i64 m.epoch, .int .i64 m.n, .int .i64 m.cmd.kind, .int .i64 m.cmd.tx, .int .i64 m.cmd.time, .slice ua m.cmd.writes.length ucap] 51) := ⟨_, rfl⟩
  have hm2 : Mod noBlock w1 w2 := by rw [hw2]; exact (Mod.refl _ w1).alloc _
  have hB2 : Blk w2 w1.heap.size (msgCells m (.slice ua m.cmd.writes.length ucap)) 51 := by rw [hw2]; exact Blk.new w1 _ _
  have h2 := h0.mod hm2 (Qm.none _ _) (fun _ _ => id)
  have c2 := h2.blk.cell 1 rfl
  have f2 := h2.blk.frozen 1
  have hD := delete_any L m1 m2 m _ w2 (hR0.mod hm2 (Qm.none _ _) (fun _ _ => id)) (by rw [← hsp]; exact hfew)
  rw [hl1] at hD
  have HD := Hid.mk' hD
  have HER := Hid.mk' her
  clear hD her hsp hR0
  go_wp2_with fail
  rw [← hw2]
  refine HD.out.mono ?_
  rintro e w3 ⟨v3, rfl, hR3, hv3, hm3⟩
  rw [← HER.out] at hR3
  have hAP := h2.apart
  have R := h2.rowed hm3 hR3 hv3 (by rw [List.length_eraseIdx]; split <;> omega)
  have c3 := hm3.cell c2 hAP.1
  have f3 := (hm3.frozen (p := ⟨g, 1, none⟩) h2.blk.lt hAP.1).trans f2
  have hu3 := ((hu.mod hm2 (Qm.none _ _)).mod hm3 (Qm.of_net h2 (fun k _ e => .inr (.inl e))))
  have hbl : b < w.heap.size := (h.lt (.inr (.inl rfl))).2.1
  have hz1 := hm0.size
  have hBr := hB2.mod hm3 (fun e => by simp [Value.ownBlock] at e; omega)
  have hZr := (hZ0.mod hm2 id).mod hm3 (fun e => by simp [Value.ownBlock] at e; omega)
  have hgw : g < w.heap.size := h.blk.lt
  have hBs := hBr.mod (Mod.setBlk (w := w3) g 1 v3) (fun e => by simp only [oneBlock] at e; omega)
  have hZs := hZr.mod (Mod.setBlk (w := w3) g 1 v3) (fun e => by simp only [oneBlock] at e; omega)
  obtain ⟨⟨p0, p1, p2, p3, p4, p5, p6, p7, p8⟩, _⟩ := blk9 hBs
  obtain ⟨⟨z0, z1, z2, z3, z4, z5, z6, z7, z8⟩, ⟨y0, y1, y2, y3, y4, y5, y6, y7, y8⟩⟩ := blk9 hZs
  obtain ⟨va3, vc3, hv3s⟩ := hR3.slice
  subst hv3s
  have HRR := Hid.mk' R
  have HM := Hid.mk' ((hm0.trans hm2).mono (G' := netMay g (.slice (some ⟨b, 0, none⟩) s.way.length bcap) mr) (fun _ _ e => e.elim))
  have HU3 := Hid.mk' (hu3.mod (Mod.setBlk (w := w3) g 1 (.slice va3 (s.way.eraseIdx k).length vc3)) (fun x hx e => by
    simp only [oneBlock] at e; subst e
    have hb := h2.blk.mod hm3 hAP.1
    simp only [Blk] at hb
    rintro (e | ⟨cur, fr, e⟩)
    · have := h.low; omega
    · rw [hb] at e; simp at e))
  have HV3 := Hid.mk' hv3
  have HMR : Hid (∀ k, mr = some k → k < w.heap.size) := fun k hk => (h.lt (.inr (.inr hk))).2.1
  have hlow := h.low
  clear R hm3 hu3 hBr hZr hR3 hB2 hm2 hm0 h2 HD hZ0 h0 hu h q0 q1 q2 q3 q4 q5 q6 q7 q8 c0 c2 f2 hAP hv3
  go_wp2_with fail
  have hq9 : Qm (w3.setCell ⟨g, 1, none⟩ (.slice va3 (s.way.eraseIdx k).length vc3)) L (oneBlock w.heap.size) := fun x hx e => by
    simp only [oneBlock] at e; subst e
    have hb := hZs
    simp only [Blk] at hb
    rintro (e | ⟨cur, fr, e⟩)
    · omega
    · rw [hb] at e; simp at e
  refine bodyPost_ret (res_cell_tmp Try.results15 _ ⟨w.heap.size, 0, none⟩ rfl rfl (put9_res hZs _ _ _ _ _ _ _ _ _)) rfl ⟨.slice va3 (s.way.eraseIdx k).length vc3, .slice ua m.cmd.writes.length ucap, rfl, ?_, ?_, HV3.out, ?_⟩
  · refine HRR.out.1.mod (put9_only _ _ _ _ _ _ _ _ _ _ _) hq9 (fun x hx e => ?_)
    simp only [oneBlock] at e
    rcases hx with hx | hx | hx
    · omega
    · rw [HV3.out] at hx; simp [Value.ownBlock] at hx; omega
    · have := HMR.out x hx; omega
  · exact HU3.out.mod (put9_only _ _ _ _ _ _ _ _ _ _ _) hq9
  · exact (HM.out.trans HRR.out.2).trans' (put9_only _ _ _ _ _ _ _ _ _ _ _) (fun i hi e => by simp only [oneBlock] at e; omega)
theorem take_no (L g : Nat) (wv : Value) (mr : Option Nat) (s : NetS) (k : Int) (w : World) (h : NetP E w L g wv mr s) (hk : hasB s k = false) :
    Calls Try.prog 15 #[.pointer (some ⟨g, 1, none⟩), .int .i64 k] w fun e w' => e = .returned (.tuple #[msgV zeroMsg (.slice none 0 0), .iface 108 (.int .i64 2)]) ∧ Mod noBlock w w' := by
  have HH := Hid.mk' (has_any L g wv mr s k _ (h.mod ((Mod.refl noBlock w).alloc (.cells #[.int .i64 0, .int .i64 0, .int .i64 0, .int .i64 0, .int .i64 0, .int .i64 0, .int .i64 0, .int .i64 0, .slice none 0 0] 51)) (Qm.none _ _) (fun _ _ => id)))
  rw [hk] at HH
  clear h hk
  go_enter Try.func15, Try.ntmps15
  go_wp2_with fail
  refine HH.out.mono ?_
  rintro e w1 ⟨rfl, rfl⟩
  go_wp2_with fail
  refine bodyPost_ret (res_cell_tmp Try.results15 _ ⟨w.heap.size, 0, none⟩ rfl rfl (load_msg (Blk.new w _ _))) rfl ⟨rfl, (Mod.refl _ w).alloc _⟩
end Go.Proofs.Ytefhgakcffhgaab
