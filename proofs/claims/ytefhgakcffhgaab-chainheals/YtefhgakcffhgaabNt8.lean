/- The program's Lose and Twice. -/
import Derived.Test.YtefhgakcffhgaabNt7
namespace Go.Proofs.Ytefhgakcffhgaab
open Go.RowKit Go.Lib Go.Maps
variable {E : Ext}

def loseS (s : NetS) (k : Nat) : NetS := ⟨s.way.eraseIdx k, s.lost + 1, s.down⟩
theorem Mod.net1 {w w1 w2 : World} {g : Nat} {v v' : Value} {mr : Option Nat} (h : Mod (netMay g v mr) w w1) (hm : v'.ownBlock = v.ownBlock) (k : Mod (netMay g v' mr) w1 w2) : Mod (netMay g v mr) w w2 := h.net (.inl hm) k
set_option maxRecDepth 100000 in
set_option maxHeartbeats 1000000 in
theorem lose_yes (L g : Nat) (wv : Value) (mr : Option Nat) (s : NetS) (k : Nat) (m : MsgD) (w : World) (h : NetP E w L g wv mr s) (hm : s.way[k]? = some m) (hlo : s.lost + 1 ≤ 1099511627776) :
    Calls Try.prog 34 #[.pointer (some ⟨g, 1, none⟩), .int .i64 k] w fun e w' => ∃ wv', e = .returned .nilIface ∧ NetP E w' L g wv' mr (loseS s k) ∧ wv'.ownBlock = wv.ownBlock ∧ Mod (netMay g wv mr) w w' := by
  have HT := Hid.mk' (take_yes L g wv mr s k m w h hm)
  have hl0 := h.lo
  clear h
  go_enter Try.func34, Try.ntmps34
  go_wp2_with fail
  refine HT.out.mono ?_
  rintro e w1 ⟨wv1, u, rfl, hN1, hu1, hv1, hm1⟩
  simp only [msgV]
  obtain ⟨ua, ucap, rfl⟩ : ∃ ua ucap, u = .slice ua m.cmd.writes.length ucap := by obtain ⟨ua, ucap, h, _⟩ := hu1; exact ⟨ua, ucap, h⟩
  have c1 := hN1.blk.cell 2 rfl
  have hgz := hN1.blk.lt
  have f1 := hN1.blk.frozen 2
  have HR := Hid.mk' (hN1.loses (s.lost + 1) (by omega))
  have HV := Hid.mk' hv1
  have HM := Hid.mk' (Mod.net1 hm1 hv1 HR.out.2)
  simp only [dropS] at c1
  clear hN1 hu1 hm1 HT hv1
  go_wp2_with fail
  go_ret
  exact ⟨wv1, rfl, HR.out.1.mod ((Mod.refl noBlock _).alloc _) (Qm.none _ _) (fun _ _ => id), HV.out, HM.out.alloc _⟩
theorem lose_no (L g : Nat) (wv : Value) (mr : Option Nat) (s : NetS) (k : Int) (w : World) (h : NetP E w L g wv mr s) (hk : hasB s k = false) :
    Calls Try.prog 34 #[.pointer (some ⟨g, 1, none⟩), .int .i64 k] w fun e w' => e = .returned (.iface 108 (.int .i64 2)) ∧ Mod noBlock w w' := by
  have HT := Hid.mk' (take_no L g wv mr s k w h hk)
  clear h hk
  go_enter Try.func34, Try.ntmps34
  go_wp2_with fail
  refine HT.out.mono ?_
  rintro e w1 ⟨rfl, hm1⟩
  simp only [msgV]
  go_wp2_with fail
  go_ret
  exact ⟨rfl, hm1.alloc _⟩
theorem twice_no (L g : Nat) (wv : Value) (mr : Option Nat) (s : NetS) (k : Int) (w : World) (h : NetP E w L g wv mr s) (hk : hasB s k = false) :
    Calls Try.prog 35 #[.pointer (some ⟨g, 1, none⟩), .int .i64 k] w fun e w' => e = .returned (.iface 108 (.int .i64 2)) ∧ Mod noBlock w w' := by
  have HT := Hid.mk' (has_any L g wv mr s k w h)
  rw [hk] at HT
  clear h hk
  go_enter Try.func35, Try.ntmps35
  go_wp2_with fail
  refine HT.out.mono ?_
  rintro e w1 ⟨rfl, rfl⟩
  go_wp2_with fail
  go_ret
  exact ⟨rfl, Mod.refl _ _⟩
theorem twice_full (L g : Nat) (wv : Value) (mr : Option Nat) (s : NetS) (k : Int) (w : World) (h : NetP E w L g wv mr s) (hk : hasB s k = true) (hr : ¬ s.way.length < 200) :
    Calls Try.prog 35 #[.pointer (some ⟨g, 1, none⟩), .int .i64 k] w fun e w' => e = .returned (.iface 108 (.int .i64 4)) ∧ Mod noBlock w w' := by
  have HT := Hid.mk' (has_any L g wv mr s k w h)
  rw [hk] at HT
  have HR := Hid.mk' (room_any L g wv mr s w h)
  rw [decide_eq_false hr] at HR
  clear h hk hr
  go_enter Try.func35, Try.ntmps35
  go_wp2_with fail
  refine HT.out.mono ?_
  rintro e w1 ⟨rfl, hw1⟩
  subst hw1
  go_wp2_with fail
  refine HR.out.mono ?_
  rintro e w2 ⟨rfl, hw2⟩
  subst hw2
  go_wp2_with fail
  go_ret
  exact ⟨rfl, Mod.refl _ _⟩

set_option maxRecDepth 100000 in
set_option maxHeartbeats 1000000 in
theorem twice_yes (L g : Nat) (wv : Value) (mr : Option Nat) (s : NetS) (k : Nat) (m : MsgD) (w : World) (h : NetP E w L g wv mr s) (hm : s.way[k]? = some m) (hr : s.way.length < 200) (hlo : s.lost + 1 ≤ 1099511627776) :
    Calls Try.prog 35 #[.pointer (some ⟨g, 1, none⟩), .int .i64 k] w fun e w' => ∃ wv', e = .returned .nilIface ∧ NetP E w' L g wv' mr (send1 s m) ∧ Moved w wv wv' ∧ Mod (netMay g wv mr) w w' := by
  have hk : k < s.way.length := (List.getElem?_eq_some_iff.1 hm).1
  have HT := Hid.mk' (has_any L g wv mr s k w h)
  have hha : hasB s k = true := by simp [hasB]; omega
  rw [hha] at HT
  have HR := Hid.mk' (room_any L g wv mr s w h)
  rw [decide_eq_true hr] at HR
  clear hha
  obtain ⟨b, bcap, u, hv, hcb, hcm, hu, hgm, q0, q1, q2, q3, q4, q5, q6, q7, q8⟩ := h.row.at hm
  subst hv
  have c0 := h.blk.cell 1 rfl
  obtain ⟨ua, ucap, rfl⟩ : ∃ ua ucap, u = .slice ua m.cmd.writes.length ucap := by obtain ⟨ua, ucap, h, _⟩ := hu; exact ⟨ua, ucap, h⟩
  have hm1 : Mod noBlock w (w.alloc (.cells #[.int .i64 m.kind, .int .i64 m.frm, .int .i64 m.to, .int .i64 m.epoch, .int .i64 m.n, .int .i64 m.cmd.kind, .int .i64 m.cmd.tx, .int .i64 m.cmd.time, .slice ua m.cmd.writes.length ucap] 51)) := (Mod.refl _ w).alloc _
  have hB1 := Blk.new w (msgCells m (.slice ua m.cmd.writes.length ucap)) 51
  have hV1 : MsgsV (w.alloc (.cells #[.int .i64 m.kind, .int .i64 m.frm, .int .i64 m.to, .int .i64 m.epoch, .int .i64 m.n, .int .i64 m.cmd.kind, .int .i64 m.cmd.tx, .int .i64 m.cmd.time, .slice ua m.cmd.writes.length ucap] 51)) L (fun x => x = w.heap.size) (.slice (some ⟨w.heap.size, 0, none⟩) 1 1) [m] := by
    refine ⟨_, _, rfl, Nat.le_refl _, by unfold maxLen; omega, .inr ⟨w.heap.size, 0, rfl, rfl, fun i m' hi' => ?_⟩⟩
    have e : i = 0 ∧ m' = m := by
      cases i with
      | zero => simp at hi'; exact ⟨rfl, hi'.symm⟩
      | succ i => simp at hi'
    obtain ⟨rfl, rfl⟩ := e
    exact ⟨_, hu.mod hm1 (Qm.none _ _), hgm, fun j x hx => by
      rw [show 0 + 0 * 9 + j = j by omega]; exact hB1.cell j hx⟩
  have HS := Hid.mk' (send_any L g _ mr s _ _ [m] _ (h.mod hm1 (Qm.none _ _) (fun _ _ => id)) hV1 (fun x hx => ⟨by subst hx; simp, fun e => by
    have := (h.lt e).2.1; omega⟩) (by simpa using hlo))
  clear h hV1 hB1 hu
  go_enter Try.func35, Try.ntmps35
  go_wp2_with fail
  refine HT.out.mono ?_
  rintro e w1 ⟨rfl, hw1⟩
  subst hw1
  go_wp2_with fail
  refine HR.out.mono ?_
  rintro e w2 ⟨rfl, hw2⟩
  subst hw2
  go_wp2_with fail
  refine HS.out.mono ?_
  rintro e w3 ⟨wv3, rfl, hN3, hv3, hm3⟩
  go_wp2_with fail
  go_ret
  refine ⟨wv3, rfl, hN3, ?_, (hm1.mono (fun _ _ e => e.elim)).trans hm3⟩
  rcases hv3 with e | e
  · exact .inl e
  · exact .inr (fun x hx => by have := e x hx; simp at this; omega)
end Go.Proofs.Ytefhgakcffhgaab
