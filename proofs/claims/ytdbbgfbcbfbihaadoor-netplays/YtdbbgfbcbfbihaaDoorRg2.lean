/- The document's ReadMsg (package chainmailref). -/
import Derived.Test.YtdbbgfbcbfbihaaDoorRg
namespace Go.Proofs.YtdbbgfbcbfbihaaDoor
open Go.RowKit Go.Lib

def emsg (s : List Int × Bool) : MsgD × List Int × Bool :=
  let k := enum s
  let f := enum k.2
  let t := enum f.2
  let e := enum t.2
  let n := enum e.2
  if k.1 = 3 then (⟨k.1, f.1, t.1, e.1, n.1, (ecmd n.2).1⟩, (ecmd n.2).2) else (⟨k.1, f.1, t.1, e.1, n.1, zeroCmd⟩, n.2)
theorem emsg_other {s k f t e n : List Int × Bool} {kind frm dst epoch N : Nat} (hk : (kind, k) = enum s) (hf : (frm, f) = enum k) (ht : (dst, t) = enum f) (he : (epoch, e) = enum t) (hn : (N, n) = enum e) (h3 : ¬ kind = 3) :
    emsg s = (⟨kind, frm, dst, epoch, N, zeroCmd⟩, n) := by
  simp only [emsg, ← hk, ← hf, ← ht, ← he, ← hn, if_neg h3]
theorem emsg_fwd {s k f t e n r : List Int × Bool} {kind frm dst epoch N : Nat} {c : CmdD} (hk : (kind, k) = enum s) (hf : (frm, f) = enum k) (ht : (dst, t) = enum f) (he : (epoch, e) = enum t) (hn : (N, n) = enum e) (h3 : kind = 3) (hc : (c, r) = ecmd n) :
    emsg s = (⟨kind, frm, dst, epoch, N, c⟩, r) := by
  simp only [emsg, ← hk, ← hf, ← ht, ← he, ← hn, if_pos h3, ← hc]
def eok (bl : Bool) (w : List Int × Int) (bs : List Int) : Bool := !bl && (w.2 == 0) && decide (w.1 = bs)
def eReadMsg (bs : List Int) : Option MsgD := if eok (emsg (bs, false)).2.2 (rMsg (emsg (bs, false)).1) bs then some (emsg (bs, false)).1 else none
def noErr (ok : Bool) : Int := if ok then 0 else 3
theorem ecmd_kind (bs : List Int) (sp : Bool) (hb : Byt bs) : kindOk (ecmd (bs, sp)).1 := by
  have := enum_lt (bs := bs) (bl := sp) hb
  have e : (ecmd (bs, sp)).1.kind = ((enum (bs, sp)).1 : Int) := rfl
  unfold kindOk; rw [e]; omega
theorem EAt.byt {w : World} {L g : Nat} {bs : List Int} {sp : Bool} (h : EAt w L g bs sp) : Byt bs := by obtain ⟨_, v, _, hb, _⟩ := h; exact hb
theorem EAt.cell1 {w : World} {L g : Nat} {bs : List Int} {sp : Bool} (h : EAt w L g bs sp) : w.cell? ⟨g, 1, none⟩ = some (.bool sp) := by obtain ⟨_, v, hb, _⟩ := h; exact hb.cell 1 rfl

set_option maxRecDepth 100000 in
set_option maxHeartbeats 4000000 in
theorem eReadMsg_any (bs : List Int) (v0 : Value) (w : World) (h : BAt w w.heap.size v0 bs) (hbl : bs.length ≤ 3000) :
    Calls Tryd.prog 18 #[v0] w fun e w' => ∃ v, e = .returned (.tuple #[msgV ((eReadMsg bs).getD zeroMsg) v, .int .i64 (noErr (eReadMsg bs).isSome)]) ∧
      w'.ownsRow w.heap.size 84 3 v ((eReadMsg bs).getD zeroMsg).cmd.writes.length (((eReadMsg bs).getD zeroMsg).cmd.writes.flatMap pairCells) ∧ Mod noBlock w w' := by
  obtain ⟨r, hr⟩ : ∃ r, r = eReadMsg bs := ⟨_, rfl⟩
  rw [← hr]
  have HR : Hid (r = eReadMsg bs) := hr
  clear hr
  have HBY : Hid (Byt bs) := h.1
  have hb' := h
  obtain ⟨hbb, a, cap, rfl, hlc, hcm, hbs⟩ := hb'
  clear hbs hbb hlc hcm
  have hB0 := (Blk.new w [.int .i64 0, .int .i64 0, .int .i64 0, .int .i64 0, .int .i64 0, .int .i64 0, .int .i64 0, .int .i64 0, .slice none 0 0] 26).mod ((Mod.refl noBlock _).alloc (.cells #[.slice a bs.length cap, .bool false] 145)) id
  have hR0 : EAt ((w.alloc (.cells #[.int .i64 0, .int .i64 0, .int .i64 0, .int .i64 0, .int .i64 0, .int .i64 0, .int .i64 0, .int .i64 0, .slice none 0 0] 26)).alloc (.cells #[.slice a bs.length cap, .bool false] 145)) w.heap.size (w.heap.size + 1) bs false :=
    ⟨by omega, _, by have := Blk.new (w.alloc (.cells #[.int .i64 0, .int .i64 0, .int .i64 0, .int .i64 0, .int .i64 0, .int .i64 0, .int .i64 0, .int .i64 0, .slice none 0 0] 26)) [.slice a bs.length cap, .bool false] 145; simpa using this, h.mod (((Mod.refl noBlock w).alloc _).alloc _) (fun _ _ => id)⟩
  have hM0 : Mod (newer w.heap.size) w ((w.alloc (.cells #[.int .i64 0, .int .i64 0, .int .i64 0, .int .i64 0, .int .i64 0, .int .i64 0, .int .i64 0, .int .i64 0, .slice none 0 0] 26)).alloc (.cells #[.slice a bs.length cap, .bool false] 145)) := ((Mod.refl _ w).alloc _).alloc _
  go_enter Tryd.func18, Tryd.ntmps18
  go_wp2_with fail
  refine (enum_any _ _ _ _ _ hR0).mono ?_
  rintro e w1 ⟨rfl, hR1, hm1⟩
  have hl1 := (enum_len (bs, false)).1
  obtain ⟨⟨kind, bs1, sp1⟩, hq1⟩ : ∃ q, q = enum (bs, false) := ⟨_, rfl⟩
  rw [← hq1] at hR1 hl1 ⊢
  have hB1 := hB0.mod hm1 (fun e => by simp only [oneBlock] at e; omega)
  have hM1 := hM0.trans (hm1.mono (fun i _ e => by simp only [oneBlock, newer] at e ⊢; omega))
  have HQ1 : Hid ((kind, bs1, sp1) = enum (bs, false)) := hq1
  clear hq1 hB0 hm1 hR0 hM0
  go_wp2_with fail
  refine (enum_any _ _ _ _ _ hR1).mono ?_
  rintro e w2 ⟨rfl, hR2, hm2⟩
  have hl2 := (enum_len (bs1, sp1)).1
  obtain ⟨⟨frm, bs2, sp2⟩, hq2⟩ : ∃ q, q = enum (bs1, sp1) := ⟨_, rfl⟩
  rw [← hq2] at hR2 hl2 ⊢
  have hB2 := hB1.mod hm2 (fun e => by simp only [oneBlock] at e; omega)
  have hM2 := hM1.trans (hm2.mono (fun i _ e => by simp only [oneBlock, newer] at e ⊢; omega))
  have HQ2 : Hid ((frm, bs2, sp2) = enum (bs1, sp1)) := hq2
  clear hq2 hB1 hm2 hR1 hM1
  go_wp2_with fail
  refine (enum_any _ _ _ _ _ hR2).mono ?_
  rintro e w3 ⟨rfl, hR3, hm3⟩
  have hl3 := (enum_len (bs2, sp2)).1
  obtain ⟨⟨dst, bs3, sp3⟩, hq3⟩ : ∃ q, q = enum (bs2, sp2) := ⟨_, rfl⟩
  rw [← hq3] at hR3 hl3 ⊢
  have hB3 := hB2.mod hm3 (fun e => by simp only [oneBlock] at e; omega)
  have hM3 := hM2.trans (hm3.mono (fun i _ e => by simp only [oneBlock, newer] at e ⊢; omega))
  have HQ3 : Hid ((dst, bs3, sp3) = enum (bs2, sp2)) := hq3
  clear hq3 hB2 hm3 hR2 hM2
  go_wp2_with fail
  refine (enum_any _ _ _ _ _ hR3).mono ?_
  rintro e w4 ⟨rfl, hR4, hm4⟩
  have hl4 := (enum_len (bs3, sp3)).1
  obtain ⟨⟨epoch, bs4, sp4⟩, hq4⟩ : ∃ q, q = enum (bs3, sp3) := ⟨_, rfl⟩
  rw [← hq4] at hR4 hl4 ⊢
  have hB4 := hB3.mod hm4 (fun e => by simp only [oneBlock] at e; omega)
  have hM4 := hM3.trans (hm4.mono (fun i _ e => by simp only [oneBlock, newer] at e ⊢; omega))
  have HQ4 : Hid ((epoch, bs4, sp4) = enum (bs3, sp3)) := hq4
  clear hq4 hB3 hm4 hR3 hM3
  go_wp2_with fail
  refine (enum_any _ _ _ _ _ hR4).mono ?_
  rintro e w5 ⟨rfl, hR5, hm5⟩
  have hl5 := (enum_len (bs4, sp4)).1
  obtain ⟨⟨N, bs5, sp5⟩, hq5⟩ : ∃ q, q = enum (bs4, sp4) := ⟨_, rfl⟩
  rw [← hq5] at hR5 hl5 ⊢
  have hB5 := hB4.mod hm5 (fun e => by simp only [oneBlock] at e; omega)
  have hM5 := hM4.trans (hm5.mono (fun i _ e => by simp only [oneBlock, newer] at e ⊢; omega))
  have HQ5 : Hid ((N, bs5, sp5) = enum (bs4, sp4)) := hq5
  clear hq5 hB4 hm5 hR4 hM4
  simp only at hl1 hl2 hl3 hl4 hl5
  have hz5 : w.heap.size + 1 < w5.heap.size := hR5.lt.2
  by_cases h3 : kind = 3
  · subst h3
    have hC6 := Blk.new w5 [.int .i64 ((3 : Nat) : Int), .int .i64 frm, .int .i64 dst, .int .i64 epoch, .int .i64 N, .int .i64 0, .int .i64 0, .int .i64 0, .slice none 0 0] 26
    have hB6 := hB5.mod ((Mod.refl noBlock w5).alloc (.cells #[.int .i64 ((3 : Nat) : Int), .int .i64 frm, .int .i64 dst, .int .i64 epoch, .int .i64 N, .int .i64 0, .int .i64 0, .int .i64 0, .slice none 0 0] 26)) id
    have hR6 := hR5.mod ((Mod.refl noBlock w5).alloc (.cells #[.int .i64 ((3 : Nat) : Int), .int .i64 frm, .int .i64 dst, .int .i64 epoch, .int .i64 N, .int .i64 0, .int .i64 0, .int .i64 0, .slice none 0 0] 26)) id (fun _ _ => id)
    have hM6 := hM5.alloc (.cells #[.int .i64 ((3 : Nat) : Int), .int .i64 frm, .int .i64 dst, .int .i64 epoch, .int .i64 N, .int .i64 0, .int .i64 0, .int .i64 0, .slice none 0 0] 26)
    go_wp2_with fail
    refine (ecmd_any _ _ _ _ _ hR6 (by omega)).mono ?_
    rintro e w7 ⟨v, rfl, hown7, hR7, hm7⟩
    have hes := ecmd_size (bs5, sp5)
    have hek := ecmd_kind bs5 sp5 hR5.byt
    obtain ⟨⟨c, bs7, sp7⟩, hq7⟩ : ∃ q, q = ecmd (bs5, sp5) := ⟨_, rfl⟩
    rw [← hq7] at hown7 hR7 hes hek ⊢
    have HP : Hid (emsg (bs, false) = (⟨((3 : Nat) : Int), frm, dst, epoch, N, c⟩, bs7, sp7)) := emsg_fwd HQ1.out HQ2.out HQ3.out HQ4.out HQ5.out rfl hq7
    obtain ⟨va, vc, rfl⟩ := own_slice hown7
    have hC7 := hC6.mod hm7 (fun e => by simp only [oneBlock] at e; omega)
    have hB7 := hB6.mod hm7 (fun e => by simp only [oneBlock] at e; omega)
    have hM7 := hM6.trans (hm7.mono (fun i _ e => by simp only [oneBlock, newer] at e ⊢; omega))
    have hz7 : w5.heap.size < w7.heap.size := hC7.lt
    clear hq7 HQ1 HQ2 HQ3 HQ4 HQ5 hC6 hB6 hR6 hM6 hm7 hB5 hR5 hM5
    simp only at hown7 hR7 hes hek ⊢
    obtain ⟨⟨c0, c1, c2, c3, c4, c5, c6, c7, c8⟩, f0, f1, f2, f3, f4, f5, f6, f7, f8⟩ := blk9 hC7
    have hm8 : Mod (newer w5.heap.size) w7 ((((w7.setCell ⟨w5.heap.size, 5, none⟩ (.int .i64 c.kind)).setCell ⟨w5.heap.size, 6, none⟩ (.int .i64 c.tx)).setCell ⟨w5.heap.size, 7, none⟩ (.int .i64 c.time)).setCell ⟨w5.heap.size, 8, none⟩ (.slice va c.writes.length vc)) := ((((Mod.refl _ w7).put _ 5 (Nat.le_refl _) _).put _ 6 (Nat.le_refl _) _).put _ 7 (Nat.le_refl _) _).put _ 8 (Nat.le_refl _) _
    have hCX : Blk ((((w7.setCell ⟨w5.heap.size, 5, none⟩ (.int .i64 c.kind)).setCell ⟨w5.heap.size, 6, none⟩ (.int .i64 c.tx)).setCell ⟨w5.heap.size, 7, none⟩ (.int .i64 c.time)).setCell ⟨w5.heap.size, 8, none⟩ (.slice va c.writes.length vc)) w5.heap.size [.int .i64 ((3 : Nat) : Int), .int .i64 frm, .int .i64 dst, .int .i64 epoch, .int .i64 N, .int .i64 c.kind, .int .i64 c.tx, .int .i64 c.time, .slice va c.writes.length vc] 26 := (((hC7.set 5 _).set 6 _).set 7 _).set 8 _
    have hBX := hB7.mod hm8 (by simp only [newer]; omega)
    have hRX := hR7.mod hm8 (by simp only [newer]; omega) (fun k hk e => by simp only [newer] at e; omega)
    have hMX := hM7.trans (hm8.mono (fun i _ e => by simp only [newer] at e ⊢; omega))
    have hownX := ownsRow_setCell_below (ownsRow_setCell_below (ownsRow_setCell_below (ownsRow_setCell_below hown7 (a := ⟨w5.heap.size, 5, none⟩) (by simp) (.int .i64 c.kind)) (a := ⟨w5.heap.size, 6, none⟩) (by simp) (.int .i64 c.tx)) (a := ⟨w5.heap.size, 7, none⟩) (by simp) (.int .i64 c.time)) (a := ⟨w5.heap.size, 8, none⟩) (by simp) (.slice va c.writes.length vc)
    go_wp2_with fail
    generalize hW8 : ((((w7.setCell ⟨w5.heap.size, 5, none⟩ (.int .i64 c.kind)).setCell ⟨w5.heap.size, 6, none⟩ (.int .i64 c.tx)).setCell ⟨w5.heap.size, 7, none⟩ (.int .i64 c.time)).setCell ⟨w5.heap.size, 8, none⟩ (.slice va c.writes.length vc)) = w8 at *
    clear hW8 hC7 hB7 hR7 hM7 hm8 hown7 c0 c1 c2 c3 c4 c5 c6 c7 c8 f0 f1 f2 f3 f4 f5 f6 f7 f8
    refine (rMsg_any w8.heap.size ⟨((3 : Nat) : Int), frm, dst, epoch, N, c⟩ (.slice va c.writes.length vc) w8 (Nat.le_refl _) (PairsR.of_own hownX (Nat.le_refl _)) (show psize c.writes ≤ _ by omega) hek.1 hek.2).mono ?_
    rintro e w9 ⟨v9, rfl, hown9, hm9⟩
    have hz9 := hm9.size
    have hC9 := hCX.mod hm9 id
    have hB9 := hBX.mod hm9 id
    have hE9 := (hRX.mod hm9 id (fun _ _ => id)).cell1
    have hM9 := hMX.trans (hm9.mono (fun _ _ e => e.elim))
    have HOW : Hid (w9.ownsRow (w5.alloc (.cells #[.int .i64 ((3 : Nat) : Int), .int .i64 frm, .int .i64 dst, .int .i64 epoch, .int .i64 N, .int .i64 0, .int .i64 0, .int .i64 0, .slice none 0 0] 26)).heap.size 84 3 (.slice va c.writes.length vc) c.writes.length (c.writes.flatMap pairCells)) := own_mod hownX hm9 (fun _ _ _ _ => id)
    clear hownX
    have hcb := byt_rMsg ⟨((3 : Nat) : Int), frm, dst, epoch, N, c⟩
    have hcw := conv_bat (BAt.of_own hown9 hcb (Nat.le_refl _))
    have hcv : (convert 28 9 (.slice a bs.length cap)).run Tryd.prog w9 = .ok (.string (strOfNums bs)) w9 := conv_bat (h.mod hM9 (fun k hk e => by simp only [newer] at e; omega))
    have hse := str_eq _ _ hcb HBY.out
    obtain ⟨⟨ws, wb⟩, hqw⟩ : ∃ q, q = rMsg ⟨((3 : Nat) : Int), frm, dst, epoch, N, c⟩ := ⟨_, rfl⟩
    have HP2 : Hid (eReadMsg bs = if eok sp7 (ws, wb) bs then some ⟨((3 : Nat) : Int), frm, dst, epoch, N, c⟩ else none) := by rw [Hid, eReadMsg, HP.out, hqw]
    rw [← hqw] at hcw hse ⊢
    simp only at hcw hse ⊢
    have hB := hB9
    obtain ⟨⟨x0, x1, x2, x3, x4, x5, x6, x7, x8⟩, _⟩ := blk9 hC9
    obtain ⟨⟨d0, d1, d2, d3, d4, d5, d6, d7, d8⟩, e0, e1, e2, e3, e4, e5, e6, e7, e8⟩ := blk9 hB9
    clear hqw hcb hown9 hm9 hCX hBX hRX hMX HP
    have HFno : Hid (eok sp7 (ws, wb) bs = false → r = none) := fun e => by rw [HR.out, HP2.out, e]; rfl
    have HFyes : Hid (eok sp7 (ws, wb) bs = true → r = some ⟨((3 : Nat) : Int), frm, dst, epoch, N, c⟩) := fun e => by rw [HR.out, HP2.out, e]; rfl
    clear HR HP2
    have hnoM : Mod noBlock w w9 := hM9.mono (fun i hi e => by simp only [newer] at e; omega)
    by_cases hbl2 : sp7 = true
    · have HG := HFno.out (by simp [eok, hbl2])
      have HGH : Hid (r = none) := HG
      clear HG HFno HFyes
      rw [hbl2] at hE9
      go_wp2_with fail
      refine bodyPost_ret (res_cell_tmp Tryd.results18 _ ⟨w.heap.size, 0, none⟩ rfl rfl (put9_res hB _ _ _ _ _ _ _ _ _)) rfl ⟨.slice none 0 0, ?_, ?_, ?_⟩
      · rw [HGH.out]; rfl
      · rw [HGH.out]; exact World.ownsRow_nil _ _ _ _
      · exact (put9_mod hM9 _ _ _ _ _ _ _ _ _).mono (fun i hi e => by simp only [newer] at e; omega)
    · have hblf : sp7 = false := by simpa using hbl2
      rw [hblf] at hE9
      by_cases hwb : wb = 0
      · subst hwb
        by_cases hws : ws = bs
        · have HGH : Hid (r = some ⟨((3 : Nat) : Int), frm, dst, epoch, N, c⟩) := HFyes.out (by simp [eok, hblf, hws])
          have hneq : (strOfNums ws).toList == (strOfNums bs).toList := by rw [hse]; simp [hws]
          clear HFno HFyes hse hbl2 hblf hws
          go_wp2_with fail
          refine bodyPost_ret (res_cell_tmp Tryd.results18 _ ⟨w.heap.size, 0, none⟩ rfl rfl (put9_res hB _ _ _ _ _ _ _ _ _)) rfl ⟨.slice va c.writes.length vc, ?_, ?_, ?_⟩
          · rw [HGH.out]; rfl
          · rw [HGH.out]
            exact own_base (own_mod (G := oneBlock w.heap.size) HOW.out (put9_only _ _ _ _ _ _ _ _ _ _ _) (fun k hk _ _ e => by simp only [oneBlock] at e; simp at hk; omega)) (by simp; omega)
          · exact (put9_mod hM9 _ _ _ _ _ _ _ _ _).mono (fun i hi e => by simp only [newer] at e; omega)
        · have HGH : Hid (r = none) := HFno.out (by simp [eok, hws])
          have hneq : ((strOfNums ws).toList == (strOfNums bs).toList) = false := by rw [hse]; simp [hws]
          clear HFno HFyes hse hbl2 hblf hws
          go_wp2_with fail
          refine bodyPost_ret (res_cell_tmp Tryd.results18 _ ⟨w.heap.size, 0, none⟩ rfl rfl (put9_res hB _ _ _ _ _ _ _ _ _)) rfl ⟨.slice none 0 0, ?_, ?_, ?_⟩
          · rw [HGH.out]; rfl
          · rw [HGH.out]; exact World.ownsRow_nil _ _ _ _
          · exact (put9_mod hM9 _ _ _ _ _ _ _ _ _).mono (fun i hi e => by simp only [newer] at e; omega)
      · have HGH : Hid (r = none) := HFno.out (by simp [eok, hwb])
        have hbn : (wb != 0) = true := by simp [hwb]
        clear HFno HFyes hse hbl2 hblf hwb
        go_wp2_with fail
        refine bodyPost_ret (res_cell_tmp Tryd.results18 _ ⟨w.heap.size, 0, none⟩ rfl rfl (put9_res hB _ _ _ _ _ _ _ _ _)) rfl ⟨.slice none 0 0, ?_, ?_, ?_⟩
        · rw [HGH.out]; rfl
        · rw [HGH.out]; exact World.ownsRow_nil _ _ _ _
        · exact (put9_mod hM9 _ _ _ _ _ _ _ _ _).mono (fun i hi e => by simp only [newer] at e; omega)
  · have hCX := Blk.new w5 [.int .i64 kind, .int .i64 frm, .int .i64 dst, .int .i64 epoch, .int .i64 N, .int .i64 0, .int .i64 0, .int .i64 0, .slice none 0 0] 26
    have hBX := hB5.mod ((Mod.refl noBlock w5).alloc (.cells #[.int .i64 kind, .int .i64 frm, .int .i64 dst, .int .i64 epoch, .int .i64 N, .int .i64 0, .int .i64 0, .int .i64 0, .slice none 0 0] 26)) id
    have hRX := hR5.mod ((Mod.refl noBlock w5).alloc (.cells #[.int .i64 kind, .int .i64 frm, .int .i64 dst, .int .i64 epoch, .int .i64 N, .int .i64 0, .int .i64 0, .int .i64 0, .slice none 0 0] 26)) id (fun _ _ => id)
    have hMX := hM5.alloc (.cells #[.int .i64 kind, .int .i64 frm, .int .i64 dst, .int .i64 epoch, .int .i64 N, .int .i64 0, .int .i64 0, .int .i64 0, .slice none 0 0] 26)
    have HP : Hid (emsg (bs, false) = (⟨kind, frm, dst, epoch, N, zeroCmd⟩, bs5, sp5)) := emsg_other HQ1.out HQ2.out HQ3.out HQ4.out HQ5.out h3
    clear HQ1 HQ2 HQ3 HQ4 HQ5 hB5 hM5 hR5
    go_wp2_with fail
    generalize hW6 : w5.alloc (.cells #[.int .i64 kind, .int .i64 frm, .int .i64 dst, .int .i64 epoch, .int .i64 N, .int .i64 0, .int .i64 0, .int .i64 0, .slice none 0 0] 26) = w6 at *
    clear hW6
    refine (rMsg_any w6.heap.size ⟨kind, frm, dst, epoch, N, zeroCmd⟩ (.slice none 0 0) w6 (Nat.le_refl _) ⟨none, 0, rfl, Nat.le_refl _, Nat.zero_le _, .inl rfl⟩ (by simp [zeroCmd, psize]) (by simp [zeroCmd]) (by simp [zeroCmd])).mono ?_
    rintro e w9 ⟨v9, rfl, hown9, hm9⟩
    have hz9 := hm9.size
    have hC9 := hCX.mod hm9 id
    have hB9 := hBX.mod hm9 id
    have hE9 := (hRX.mod hm9 id (fun _ _ => id)).cell1
    have hM9 := hMX.trans (hm9.mono (fun _ _ e => e.elim))
    have hcb := byt_rMsg ⟨kind, frm, dst, epoch, N, zeroCmd⟩
    have hcw := conv_bat (BAt.of_own hown9 hcb (Nat.le_refl _))
    have hcv : (convert 28 9 (.slice a bs.length cap)).run Tryd.prog w9 = .ok (.string (strOfNums bs)) w9 := conv_bat (h.mod hM9 (fun k hk e => by simp only [newer] at e; omega))
    have hse := str_eq _ _ hcb HBY.out
    obtain ⟨⟨ws, wb⟩, hqw⟩ : ∃ q, q = rMsg ⟨kind, frm, dst, epoch, N, zeroCmd⟩ := ⟨_, rfl⟩
    have HP2 : Hid (eReadMsg bs = if eok sp5 (ws, wb) bs then some ⟨kind, frm, dst, epoch, N, zeroCmd⟩ else none) := by rw [Hid, eReadMsg, HP.out, hqw]
    rw [← hqw] at hcw hse ⊢
    simp only at hcw hse ⊢
    have hB := hB9
    obtain ⟨⟨x0, x1, x2, x3, x4, x5, x6, x7, x8⟩, _⟩ := blk9 hC9
    obtain ⟨⟨d0, d1, d2, d3, d4, d5, d6, d7, d8⟩, e0, e1, e2, e3, e4, e5, e6, e7, e8⟩ := blk9 hB9
    clear hqw hcb hown9 hm9 hCX hBX hRX hMX HP
    have HFno : Hid (eok sp5 (ws, wb) bs = false → r = none) := fun e => by rw [HR.out, HP2.out, e]; rfl
    have HFyes : Hid (eok sp5 (ws, wb) bs = true → r = some ⟨kind, frm, dst, epoch, N, zeroCmd⟩) := fun e => by rw [HR.out, HP2.out, e]; rfl
    clear HR HP2
    have hnoM : Mod noBlock w w9 := hM9.mono (fun i hi e => by simp only [newer] at e; omega)
    by_cases hbl2 : sp5 = true
    · have HG := HFno.out (by simp [eok, hbl2])
      have HGH : Hid (r = none) := HG
      clear HG HFno HFyes
      rw [hbl2] at hE9
      go_wp2_with fail
      refine bodyPost_ret (res_cell_tmp Tryd.results18 _ ⟨w.heap.size, 0, none⟩ rfl rfl (put9_res hB _ _ _ _ _ _ _ _ _)) rfl ⟨.slice none 0 0, ?_, ?_, ?_⟩
      · rw [HGH.out]; rfl
      · rw [HGH.out]; exact World.ownsRow_nil _ _ _ _
      · exact (put9_mod hM9 _ _ _ _ _ _ _ _ _).mono (fun i hi e => by simp only [newer] at e; omega)
    · have hblf : sp5 = false := by simpa using hbl2
      rw [hblf] at hE9
      by_cases hwb : wb = 0
      · subst hwb
        by_cases hws : ws = bs
        · have HGH : Hid (r = some ⟨kind, frm, dst, epoch, N, zeroCmd⟩) := HFyes.out (by simp [eok, hblf, hws])
          have hneq : (strOfNums ws).toList == (strOfNums bs).toList := by rw [hse]; simp [hws]
          clear HFno HFyes hse hbl2 hblf hws
          go_wp2_with fail
          refine bodyPost_ret (res_cell_tmp Tryd.results18 _ ⟨w.heap.size, 0, none⟩ rfl rfl (put9_res hB _ _ _ _ _ _ _ _ _)) rfl ⟨.slice none 0 0, ?_, ?_, ?_⟩
          · rw [HGH.out]; rfl
          · rw [HGH.out]
            exact World.ownsRow_nil _ _ _ _
          · exact (put9_mod hM9 _ _ _ _ _ _ _ _ _).mono (fun i hi e => by simp only [newer] at e; omega)
        · have HGH : Hid (r = none) := HFno.out (by simp [eok, hws])
          have hneq : ((strOfNums ws).toList == (strOfNums bs).toList) = false := by rw [hse]; simp [hws]
          clear HFno HFyes hse hbl2 hblf hws
          go_wp2_with fail
          refine bodyPost_ret (res_cell_tmp Tryd.results18 _ ⟨w.heap.size, 0, none⟩ rfl rfl (put9_res hB _ _ _ _ _ _ _ _ _)) rfl ⟨.slice none 0 0, ?_, ?_, ?_⟩
          · rw [HGH.out]; rfl
          · rw [HGH.out]; exact World.ownsRow_nil _ _ _ _
          · exact (put9_mod hM9 _ _ _ _ _ _ _ _ _).mono (fun i hi e => by simp only [newer] at e; omega)
      · have HGH : Hid (r = none) := HFno.out (by simp [eok, hwb])
        have hbn : (wb != 0) = true := by simp [hwb]
        clear HFno HFyes hse hbl2 hblf hwb
        go_wp2_with fail
        refine bodyPost_ret (res_cell_tmp Tryd.results18 _ ⟨w.heap.size, 0, none⟩ rfl rfl (put9_res hB _ _ _ _ _ _ _ _ _)) rfl ⟨.slice none 0 0, ?_, ?_, ?_⟩
        · rw [HGH.out]; rfl
        · rw [HGH.out]; exact World.ownsRow_nil _ _ _ _
        · exact (put9_mod hM9 _ _ _ _ _ _ _ _ _).mono (fun i hi e => by simp only [newer] at e; omega)
end Go.Proofs.YtdbbgfbcbfbihaaDoor
