/- The program's ReadMsg. -/
import Derived.Test.YtdbbgfbcbfbihaaDoorRd3
namespace Go.Proofs.YtdbbgfbcbfbihaaDoor
open Go.RowKit

theorem whole_any (L g : Nat) (bs : List Int) (sp : Bool) (w : World) (h : RAt w L g bs sp) :
    Calls Tryd.prog 79 #[.pointer (some ⟨g, 0, none⟩)] w fun e w' => e = .returned (.bool (whole (bs, sp))) ∧ w' = w := by
  obtain ⟨r, hr⟩ : ∃ r, r = whole (bs, sp) := ⟨_, rfl⟩
  rw [← hr]
  have HR : Hid (r = whole (bs, sp)) := hr
  clear hr
  obtain ⟨hLg, v, hblk, hb, a, cap, rfl, hlc, hcm0, hbs⟩ := h
  have h0 := hblk.cell 0 rfl
  have h1 := hblk.cell 1 rfl
  clear hbs hb
  go_enter Tryd.func79, Tryd.ntmps79
  cases sp
  all_goals
    go_wp2_with fail
    go_ret
    refine ⟨ret_bool ?_, rfl⟩
    rw [HR.out, Bool.eq_iff_iff]
    first | (simp [whole]; done) | (simp [whole]; omega)

theorem blk9 {w : World} {g : Nat} {a0 a1 a2 a3 a4 a5 a6 a7 a8 : Value} {t : TypeId} (h : Blk w g [a0, a1, a2, a3, a4, a5, a6, a7, a8] t) :
    (w.cell? ⟨g, 0, none⟩ = some a0 ∧ w.cell? ⟨g, 1, none⟩ = some a1 ∧ w.cell? ⟨g, 2, none⟩ = some a2 ∧ w.cell? ⟨g, 3, none⟩ = some a3 ∧ w.cell? ⟨g, 4, none⟩ = some a4 ∧ w.cell? ⟨g, 5, none⟩ = some a5 ∧ w.cell? ⟨g, 6, none⟩ = some a6 ∧ w.cell? ⟨g, 7, none⟩ = some a7 ∧ w.cell? ⟨g, 8, none⟩ = some a8) ∧
    (w.frozen? ⟨g, 0, none⟩ = false ∧ w.frozen? ⟨g, 1, none⟩ = false ∧ w.frozen? ⟨g, 2, none⟩ = false ∧ w.frozen? ⟨g, 3, none⟩ = false ∧ w.frozen? ⟨g, 4, none⟩ = false ∧ w.frozen? ⟨g, 5, none⟩ = false ∧ w.frozen? ⟨g, 6, none⟩ = false ∧ w.frozen? ⟨g, 7, none⟩ = false ∧ w.frozen? ⟨g, 8, none⟩ = false) :=
  ⟨⟨h.cell 0 rfl, h.cell 1 rfl, h.cell 2 rfl, h.cell 3 rfl, h.cell 4 rfl, h.cell 5 rfl, h.cell 6 rfl, h.cell 7 rfl, h.cell 8 rfl⟩,
    h.frozen 0, h.frozen 1, h.frozen 2, h.frozen 3, h.frozen 4, h.frozen 5, h.frozen 6, h.frozen 7, h.frozen 8⟩
theorem load_msg {w : World} {B : Nat} {a0 a1 a2 a3 a4 a5 a6 a7 a8 : Value} {t : TypeId} (h : Blk w B [a0, a1, a2, a3, a4, a5, a6, a7, a8] t) : (loadVar 26 ⟨B, 0, none⟩).run Tryd.prog w = .ok (.agg #[a0, a1, a2, a3, a4, a5, a6, a7, a8]) w := by
  obtain ⟨⟨k0, k1, k2, k3, k4, k5, k6, k7, k8⟩, _⟩ := blk9 h
  simp [go_sem, k0, k1, k2, k3, k4, k5, k6, k7, k8]
theorem res_cell_tmp {P : Program} {w : World} {fn : Func} {p u : Tmp} {ty : TypeId} {v x : Value} (h : fn.results = #[.cell p ty, .tmp u]) (tmps : Array Value) (a : Addr) (hp : tmps.getD p undef = .pointer (some a)) (hx : tmps.getD u undef = x) (hl : (loadVar ty a).run P w = .ok v w) : (results fn tmps).run P w = .ok (.tuple #[v, x]) w := by
  rw [results_cell_tmp h]
  simp [hp, hl, hx, asAddr]
def put9 (w : World) (N : Nat) (u0 u1 u2 u3 u4 u5 u6 u7 u8 : Value) : World := (((((((((w.setCell ⟨N, 0, none⟩ u0).setCell ⟨N, 1, none⟩ u1).setCell ⟨N, 2, none⟩ u2).setCell ⟨N, 3, none⟩ u3).setCell ⟨N, 4, none⟩ u4).setCell ⟨N, 5, none⟩ u5).setCell ⟨N, 6, none⟩ u6).setCell ⟨N, 7, none⟩ u7).setCell ⟨N, 8, none⟩ u8)
theorem put9_mod {N : Nat} {a w : World} (h : Mod (newer N) a w) (u0 u1 u2 u3 u4 u5 u6 u7 u8 : Value) : Mod (newer N) a (put9 w N u0 u1 u2 u3 u4 u5 u6 u7 u8) :=
  ((((((((h.put _ 0 (Nat.le_refl _) _).put _ 1 (Nat.le_refl _) _).put _ 2 (Nat.le_refl _) _).put _ 3 (Nat.le_refl _) _).put _ 4 (Nat.le_refl _) _).put _ 5 (Nat.le_refl _) _).put _ 6 (Nat.le_refl _) _).put _ 7 (Nat.le_refl _) _).put _ 8 (Nat.le_refl _) _
theorem put9_blk {w : World} {N : Nat} {a0 a1 a2 a3 a4 a5 a6 a7 a8 : Value} {t : TypeId} (hB : Blk w N [a0, a1, a2, a3, a4, a5, a6, a7, a8] t) (u0 u1 u2 u3 u4 u5 u6 u7 u8 : Value) : Blk (put9 w N u0 u1 u2 u3 u4 u5 u6 u7 u8) N [u0, u1, u2, u3, u4, u5, u6, u7, u8] t :=
  (((((((((hB.set 0 _).set 1 _).set 2 _).set 3 _).set 4 _).set 5 _).set 6 _).set 7 _).set 8 _)
theorem put9_only (w : World) (N : Nat) (u0 u1 u2 u3 u4 u5 u6 u7 u8 : Value) : Mod (oneBlock N) w (put9 w N u0 u1 u2 u3 u4 u5 u6 u7 u8) :=
  (((((((Mod.setBlk N 0 u0).trans (Mod.setBlk N 1 u1)).trans (Mod.setBlk N 2 u2)).trans (Mod.setBlk N 3 u3)).trans (Mod.setBlk N 4 u4)).trans (Mod.setBlk N 5 u5)).trans (Mod.setBlk N 6 u6)).trans ((Mod.setBlk N 7 u7).trans (Mod.setBlk N 8 u8))
/-- What the end of ReadMsg owes: the result's block R was written last. -/
theorem put9_res {w : World} {N : Nat} {a0 a1 a2 a3 a4 a5 a6 a7 a8 : Value} {t : TypeId} (hB : Blk w N [a0, a1, a2, a3, a4, a5, a6, a7, a8] t) (u0 u1 u2 u3 u4 u5 u6 u7 u8 : Value) : (loadVar 26 ⟨N, 0, none⟩).run Tryd.prog (put9 w N u0 u1 u2 u3 u4 u5 u6 u7 u8) = .ok (.agg #[u0, u1, u2, u3, u4, u5, u6, u7, u8]) (put9 w N u0 u1 u2 u3 u4 u5 u6 u7 u8) := load_msg (put9_blk hB u0 u1 u2 u3 u4 u5 u6 u7 u8)
/-- A message as a value; v: its command's writes. -/
def msgV (m : MsgD) (v : Value) : Value := .agg #[.int .i64 m.kind, .int .i64 m.frm, .int .i64 m.to, .int .i64 m.epoch, .int .i64 m.n, .int .i64 m.cmd.kind, .int .i64 m.cmd.tx, .int .i64 m.cmd.time, v]
def errV (ok : Bool) (e : Int) : Value := if ok then .nilIface else .iface 29 (.int .i64 e)
theorem pmsg_other {s k f t e n : List Int × Bool} {kind frm to epoch N : Nat} (hk : (kind, k) = pnum 1 4 s) (hf : (frm, f) = pnum 0 1099511627776 k) (ht : (to, t) = pnum 0 1099511627776 f) (he : (epoch, e) = pnum 0 1099511627776 t) (hn : (N, n) = pnum 0 1099511627776 e) (h3 : ¬ kind = 3) :
    pmsg s = (⟨kind, frm, to, epoch, N, zeroCmd⟩, n) := by
  simp only [pmsg, ← hk, ← hf, ← ht, ← he, ← hn, if_neg h3]
theorem pmsg_fwd {s k f t e n r : List Int × Bool} {kind frm to epoch N : Nat} {c : CmdD} (hk : (kind, k) = pnum 1 4 s) (hf : (frm, f) = pnum 0 1099511627776 k) (ht : (to, t) = pnum 0 1099511627776 f) (he : (epoch, e) = pnum 0 1099511627776 t) (hn : (N, n) = pnum 0 1099511627776 e) (h3 : kind = 3) (hc : (c, r) = pcmd n) :
    pmsg s = (⟨kind, frm, to, epoch, N, c⟩, r) := by
  simp only [pmsg, ← hk, ← hf, ← ht, ← he, ← hn, if_pos h3, ← hc]

set_option maxRecDepth 100000 in
set_option maxHeartbeats 2000000 in
theorem readMsg_any (bs : List Int) (v0 : Value) (w : World) (h : BAt w w.heap.size v0 bs) :
    Calls Tryd.prog 19 #[v0] w fun e w' => ∃ v, e = .returned (.tuple #[msgV ((pReadMsg bs).getD zeroMsg) v, errV (pReadMsg bs).isSome 3]) ∧
      w'.ownsRow w.heap.size 84 3 v ((pReadMsg bs).getD zeroMsg).cmd.writes.length (((pReadMsg bs).getD zeroMsg).cmd.writes.flatMap pairCells) ∧ Mod noBlock w w' := by
  obtain ⟨r, hr⟩ : ∃ r, r = pReadMsg bs := ⟨_, rfl⟩
  rw [← hr]
  have HR : Hid (r = pReadMsg bs) := hr
  clear hr
  have hb' := h
  obtain ⟨hbb, a, cap, rfl, hlc, hcm, hbs⟩ := hb'
  clear hbs hbb hlc hcm
  have hB0 := (Blk.new w [.int .i64 0, .int .i64 0, .int .i64 0, .int .i64 0, .int .i64 0, .int .i64 0, .int .i64 0, .int .i64 0, .slice none 0 0] 26).mod ((Mod.refl noBlock _).alloc (.cells #[.slice a bs.length cap, .bool false] 148)) id
  have hR0 : RAt ((w.alloc (.cells #[.int .i64 0, .int .i64 0, .int .i64 0, .int .i64 0, .int .i64 0, .int .i64 0, .int .i64 0, .int .i64 0, .slice none 0 0] 26)).alloc (.cells #[.slice a bs.length cap, .bool false] 148)) w.heap.size (w.heap.size + 1) bs false :=
    ⟨by omega, _, by have := Blk.new (w.alloc (.cells #[.int .i64 0, .int .i64 0, .int .i64 0, .int .i64 0, .int .i64 0, .int .i64 0, .int .i64 0, .int .i64 0, .slice none 0 0] 26)) [.slice a bs.length cap, .bool false] 148; simpa using this, h.mod (((Mod.refl noBlock w).alloc _).alloc _) (fun _ _ => id)⟩
  have hM0 : Mod (newer w.heap.size) w ((w.alloc (.cells #[.int .i64 0, .int .i64 0, .int .i64 0, .int .i64 0, .int .i64 0, .int .i64 0, .int .i64 0, .int .i64 0, .slice none 0 0] 26)).alloc (.cells #[.slice a bs.length cap, .bool false] 148)) := ((Mod.refl _ w).alloc _).alloc _
  go_enter Tryd.func19, Tryd.ntmps19
  go_wp2_with fail
  refine (number_at 1 4 _ hR0 rfl rfl).mono ?_
  rintro e w1 ⟨rfl, hR1, hm1⟩
  obtain ⟨⟨kind, bs1, sp1⟩, hq1⟩ : ∃ q, q = pnum 1 4 (bs, false) := ⟨_, rfl⟩
  rw [← hq1] at hR1 ⊢
  have hB1 := hB0.mod hm1 (fun e => by simp only [oneBlock] at e; omega)
  have hM1 := hM0.trans (hm1.mono (fun i _ e => by simp only [oneBlock, newer] at e ⊢; omega))
  have HQ1 : Hid ((kind, bs1, sp1) = pnum 1 4 (bs, false)) := hq1
  clear hq1 hB0 hm1 hR0 hM0
  go_wp2_with fail
  refine (number_at 0 1099511627776 _ hR1 rfl rfl).mono ?_
  rintro e w2 ⟨rfl, hR2, hm2⟩
  obtain ⟨⟨frm, bs2, sp2⟩, hq2⟩ : ∃ q, q = pnum 0 1099511627776 (bs1, sp1) := ⟨_, rfl⟩
  rw [← hq2] at hR2 ⊢
  have hB2 := hB1.mod hm2 (fun e => by simp only [oneBlock] at e; omega)
  have hM2 := hM1.trans (hm2.mono (fun i _ e => by simp only [oneBlock, newer] at e ⊢; omega))
  have HQ2 : Hid ((frm, bs2, sp2) = pnum 0 1099511627776 (bs1, sp1)) := hq2
  clear hq2 hB1 hm2 hR1 hM1
  go_wp2_with fail
  refine (number_at 0 1099511627776 _ hR2 rfl rfl).mono ?_
  rintro e w3 ⟨rfl, hR3, hm3⟩
  obtain ⟨⟨to, bs3, sp3⟩, hq3⟩ : ∃ q, q = pnum 0 1099511627776 (bs2, sp2) := ⟨_, rfl⟩
  rw [← hq3] at hR3 ⊢
  have hB3 := hB2.mod hm3 (fun e => by simp only [oneBlock] at e; omega)
  have hM3 := hM2.trans (hm3.mono (fun i _ e => by simp only [oneBlock, newer] at e ⊢; omega))
  have HQ3 : Hid ((to, bs3, sp3) = pnum 0 1099511627776 (bs2, sp2)) := hq3
  clear hq3 hB2 hm3 hR2 hM2
  go_wp2_with fail
  refine (number_at 0 1099511627776 _ hR3 rfl rfl).mono ?_
  rintro e w4 ⟨rfl, hR4, hm4⟩
  obtain ⟨⟨epoch, bs4, sp4⟩, hq4⟩ : ∃ q, q = pnum 0 1099511627776 (bs3, sp3) := ⟨_, rfl⟩
  rw [← hq4] at hR4 ⊢
  have hB4 := hB3.mod hm4 (fun e => by simp only [oneBlock] at e; omega)
  have hM4 := hM3.trans (hm4.mono (fun i _ e => by simp only [oneBlock, newer] at e ⊢; omega))
  have HQ4 : Hid ((epoch, bs4, sp4) = pnum 0 1099511627776 (bs3, sp3)) := hq4
  clear hq4 hB3 hm4 hR3 hM3
  go_wp2_with fail
  refine (number_at 0 1099511627776 _ hR4 rfl rfl).mono ?_
  rintro e w5 ⟨rfl, hR5, hm5⟩
  obtain ⟨⟨N, bs5, sp5⟩, hq5⟩ : ∃ q, q = pnum 0 1099511627776 (bs4, sp4) := ⟨_, rfl⟩
  rw [← hq5] at hR5 ⊢
  have hB5 := hB4.mod hm5 (fun e => by simp only [oneBlock] at e; omega)
  have hM5 := hM4.trans (hm5.mono (fun i _ e => by simp only [oneBlock, newer] at e ⊢; omega))
  have HQ5 : Hid ((N, bs5, sp5) = pnum 0 1099511627776 (bs4, sp4)) := hq5
  clear hq5 hB4 hm5 hR4 hM4
  have hz5 : w.heap.size + 1 < w5.heap.size := hR5.lt.2
  by_cases h3 : kind = 3
  · subst h3
    have hC6 := Blk.new w5 [.int .i64 ((3 : Nat) : Int), .int .i64 frm, .int .i64 to, .int .i64 epoch, .int .i64 N, .int .i64 0, .int .i64 0, .int .i64 0, .slice none 0 0] 26
    have hB6 := hB5.mod ((Mod.refl noBlock w5).alloc (.cells #[.int .i64 ((3 : Nat) : Int), .int .i64 frm, .int .i64 to, .int .i64 epoch, .int .i64 N, .int .i64 0, .int .i64 0, .int .i64 0, .slice none 0 0] 26)) id
    have hR6 := hR5.mod ((Mod.refl noBlock w5).alloc (.cells #[.int .i64 ((3 : Nat) : Int), .int .i64 frm, .int .i64 to, .int .i64 epoch, .int .i64 N, .int .i64 0, .int .i64 0, .int .i64 0, .slice none 0 0] 26)) id (fun _ _ => id)
    have hM6 := hM5.alloc (.cells #[.int .i64 ((3 : Nat) : Int), .int .i64 frm, .int .i64 to, .int .i64 epoch, .int .i64 N, .int .i64 0, .int .i64 0, .int .i64 0, .slice none 0 0] 26)
    go_wp2_with fail
    refine (command_any _ _ _ _ _ hR6).mono ?_
    rintro e w7 ⟨v, rfl, hown7, hR7, hm7⟩
    obtain ⟨⟨c, bs7, sp7⟩, hq7⟩ : ∃ q, q = pcmd (bs5, sp5) := ⟨_, rfl⟩
    rw [← hq7] at hown7 hR7 ⊢
    have HP : Hid (pmsg (bs, false) = (⟨((3 : Nat) : Int), frm, to, epoch, N, c⟩, bs7, sp7)) := pmsg_fwd HQ1.out HQ2.out HQ3.out HQ4.out HQ5.out rfl hq7
    obtain ⟨va, vc, rfl⟩ := own_slice hown7
    have hC7 := hC6.mod hm7 (fun e => by simp only [oneBlock] at e; omega)
    have hB7 := hB6.mod hm7 (fun e => by simp only [oneBlock] at e; omega)
    have hM7 := hM6.trans (hm7.mono (fun i _ e => by simp only [oneBlock, newer] at e ⊢; omega))
    have hz7 : w5.heap.size < w7.heap.size := hC7.lt
    clear hq7 HQ1 HQ2 HQ3 HQ4 HQ5 hC6 hB6 hR6 hM6 hm7 hB5 hR5 hM5
    simp only at hown7 hR7 ⊢
    obtain ⟨⟨c0, c1, c2, c3, c4, c5, c6, c7, c8⟩, f0, f1, f2, f3, f4, f5, f6, f7, f8⟩ := blk9 hC7
    have hm8 : Mod (newer w5.heap.size) w7 ((((w7.setCell ⟨w5.heap.size, 5, none⟩ (.int .i64 c.kind)).setCell ⟨w5.heap.size, 6, none⟩ (.int .i64 c.tx)).setCell ⟨w5.heap.size, 7, none⟩ (.int .i64 c.time)).setCell ⟨w5.heap.size, 8, none⟩ (.slice va c.writes.length vc)) := ((((Mod.refl _ w7).put _ 5 (Nat.le_refl _) _).put _ 6 (Nat.le_refl _) _).put _ 7 (Nat.le_refl _) _).put _ 8 (Nat.le_refl _) _
    have hC8 : Blk ((((w7.setCell ⟨w5.heap.size, 5, none⟩ (.int .i64 c.kind)).setCell ⟨w5.heap.size, 6, none⟩ (.int .i64 c.tx)).setCell ⟨w5.heap.size, 7, none⟩ (.int .i64 c.time)).setCell ⟨w5.heap.size, 8, none⟩ (.slice va c.writes.length vc)) w5.heap.size [.int .i64 ((3 : Nat) : Int), .int .i64 frm, .int .i64 to, .int .i64 epoch, .int .i64 N, .int .i64 c.kind, .int .i64 c.tx, .int .i64 c.time, .slice va c.writes.length vc] 26 := (((hC7.set 5 _).set 6 _).set 7 _).set 8 _
    have hB := hB7.mod hm8 (by simp only [newer]; omega)
    have hR8 := hR7.mod hm8 (by simp only [newer]; omega) (fun k hk e => by simp only [newer] at e; omega)
    have hM8 := hM7.trans (hm8.mono (fun i _ e => by simp only [newer] at e ⊢; omega))
    have hown8 := ownsRow_setCell_below (ownsRow_setCell_below (ownsRow_setCell_below (ownsRow_setCell_below hown7 (a := ⟨w5.heap.size, 5, none⟩) (by simp) (.int .i64 c.kind)) (a := ⟨w5.heap.size, 6, none⟩) (by simp) (.int .i64 c.tx)) (a := ⟨w5.heap.size, 7, none⟩) (by simp) (.int .i64 c.time)) (a := ⟨w5.heap.size, 8, none⟩) (by simp) (.slice va c.writes.length vc)
    go_wp2_with fail
    refine (whole_any _ _ _ _ _ hR8).mono ?_
    rintro e w9 ⟨rfl, rfl⟩
    generalize hW8 : ((((w7.setCell ⟨w5.heap.size, 5, none⟩ (.int .i64 c.kind)).setCell ⟨w5.heap.size, 6, none⟩ (.int .i64 c.tx)).setCell ⟨w5.heap.size, 7, none⟩ (.int .i64 c.time)).setCell ⟨w5.heap.size, 8, none⟩ (.slice va c.writes.length vc)) = w8 at *
    clear hW8 hC7 hB7 hR7 hM7 hm8 hown7 c0 c1 c2 c3 c4 c5 c6 c7 c8 f0 f1 f2 f3 f4 f5 f6 f7 f8
    obtain ⟨⟨c0, c1, c2, c3, c4, c5, c6, c7, c8⟩, f0, f1, f2, f3, f4, f5, f6, f7, f8⟩ := blk9 hC8
    obtain ⟨⟨d0, d1, d2, d3, d4, d5, d6, d7, d8⟩, e0, e1, e2, e3, e4, e5, e6, e7, e8⟩ := blk9 hB
    by_cases hwh : whole (bs7, sp7) = true
    · have HF : Hid (r = some ⟨((3 : Nat) : Int), frm, to, epoch, N, c⟩) := by rw [Hid, HR.out, pReadMsg, HP.out, if_pos hwh]
      rw [hwh]
      clear HR HP hwh
      go_wp2_with fail
      refine bodyPost_ret (res_cell_tmp Tryd.results19 _ ⟨w.heap.size, 0, none⟩ rfl rfl (put9_res hB _ _ _ _ _ _ _ _ _)) rfl ⟨.slice va c.writes.length vc, ?_, ?_, ?_⟩
      · rw [HF.out]; rfl
      · rw [HF.out]
        exact own_base (own_mod (G := oneBlock w.heap.size) hown8 (put9_only _ _ _ _ _ _ _ _ _ _ _) (fun k hk _ _ e => by simp only [oneBlock] at e; simp at hk; omega)) (by simp; omega)
      · exact (put9_mod hM8 _ _ _ _ _ _ _ _ _).mono (fun i hi e => by simp only [newer] at e; omega)
    · have HF : Hid (r = none) := by rw [Hid, HR.out, pReadMsg, HP.out, if_neg hwh]
      have hwf : whole (bs7, sp7) = false := by simpa using hwh
      rw [hwf]
      clear HR HP hwh hwf
      go_wp2_with fail
      refine bodyPost_ret (res_cell_tmp Tryd.results19 _ ⟨w.heap.size, 0, none⟩ rfl rfl (put9_res hB _ _ _ _ _ _ _ _ _)) rfl ⟨.slice none 0 0, ?_, ?_, ?_⟩
      · rw [HF.out]; rfl
      · rw [HF.out]; exact World.ownsRow_nil _ _ _ _
      · exact (put9_mod hM8 _ _ _ _ _ _ _ _ _).mono (fun i hi e => by simp only [newer] at e; omega)
  · have hC6 := Blk.new w5 [.int .i64 kind, .int .i64 frm, .int .i64 to, .int .i64 epoch, .int .i64 N, .int .i64 0, .int .i64 0, .int .i64 0, .slice none 0 0] 26
    have hB6 := hB5.mod ((Mod.refl noBlock w5).alloc (.cells #[.int .i64 kind, .int .i64 frm, .int .i64 to, .int .i64 epoch, .int .i64 N, .int .i64 0, .int .i64 0, .int .i64 0, .slice none 0 0] 26)) id
    have hR6 := hR5.mod ((Mod.refl noBlock w5).alloc (.cells #[.int .i64 kind, .int .i64 frm, .int .i64 to, .int .i64 epoch, .int .i64 N, .int .i64 0, .int .i64 0, .int .i64 0, .slice none 0 0] 26)) id (fun _ _ => id)
    have hM6 := hM5.alloc (.cells #[.int .i64 kind, .int .i64 frm, .int .i64 to, .int .i64 epoch, .int .i64 N, .int .i64 0, .int .i64 0, .int .i64 0, .slice none 0 0] 26)
    have HP : Hid (pmsg (bs, false) = (⟨kind, frm, to, epoch, N, zeroCmd⟩, bs5, sp5)) := pmsg_other HQ1.out HQ2.out HQ3.out HQ4.out HQ5.out h3
    clear HQ1 HQ2 HQ3 HQ4 HQ5 hB5 hM5 hR5
    go_wp2_with fail
    refine (whole_any _ _ _ _ _ hR6).mono ?_
    rintro e w7 ⟨rfl, rfl⟩
    obtain ⟨⟨c0, c1, c2, c3, c4, c5, c6, c7, c8⟩, f0, f1, f2, f3, f4, f5, f6, f7, f8⟩ := blk9 hC6
    obtain ⟨⟨d0, d1, d2, d3, d4, d5, d6, d7, d8⟩, e0, e1, e2, e3, e4, e5, e6, e7, e8⟩ := blk9 hB6
    generalize hW6 : w5.alloc (.cells #[.int .i64 kind, .int .i64 frm, .int .i64 to, .int .i64 epoch, .int .i64 N, .int .i64 0, .int .i64 0, .int .i64 0, .slice none 0 0] 26) = w6 at *
    clear hW6
    have hB := hB6
    by_cases hwh : whole (bs5, sp5) = true
    · have HF : Hid (r = some ⟨kind, frm, to, epoch, N, zeroCmd⟩) := by rw [Hid, HR.out, pReadMsg, HP.out, if_pos hwh]
      rw [hwh]
      clear HR HP hwh
      go_wp2_with fail
      refine bodyPost_ret (res_cell_tmp Tryd.results19 _ ⟨w.heap.size, 0, none⟩ rfl rfl (put9_res hB _ _ _ _ _ _ _ _ _)) rfl ⟨.slice none 0 0, ?_, ?_, ?_⟩
      · rw [HF.out]; rfl
      · rw [HF.out]; exact World.ownsRow_nil _ _ _ _
      · exact (put9_mod hM6 _ _ _ _ _ _ _ _ _).mono (fun i hi e => by simp only [newer] at e; omega)
    · have HF : Hid (r = none) := by rw [Hid, HR.out, pReadMsg, HP.out, if_neg hwh]
      have hwf : whole (bs5, sp5) = false := by simpa using hwh
      rw [hwf]
      clear HR HP hwh hwf
      go_wp2_with fail
      refine bodyPost_ret (res_cell_tmp Tryd.results19 _ ⟨w.heap.size, 0, none⟩ rfl rfl (put9_res hB _ _ _ _ _ _ _ _ _)) rfl ⟨.slice none 0 0, ?_, ?_, ?_⟩
      · rw [HF.out]; rfl
      · rw [HF.out]; exact World.ownsRow_nil _ _ _ _
      · exact (put9_mod hM6 _ _ _ _ _ _ _ _ _).mono (fun i hi e => by simp only [newer] at e; omega)
end Go.Proofs.YtdbbgfbcbfbihaaDoor
