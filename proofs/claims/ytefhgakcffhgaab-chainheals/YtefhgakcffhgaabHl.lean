/- The law ChainHeals, walked. -/
import Derived.Test.YtefhgakcffhgaabHe
import Derived.Test.YtefhgakcffhgaabXb2
import Derived.Test.YtefhgakcffhgaabXc
namespace Go.Proofs.Ytefhgakcffhgaab
open Go.RowKit Go.Lib Go.Maps
set_option linter.unusedVariables false

set_option maxRecDepth 100000 in
set_option maxHeartbeats 16000000 in
theorem chainHeals_any (nodes : Int) (ts : List Turn3) (v : Value) (w : World) (hv : TurnsR w w.heap.size v ts) :
    Calls Try.prog 3 #[.int .i64 nodes, v] w fun e w' => e = .returned (.bool true) ∧ Mod noBlock w w' := by
  obtain ⟨a, cap, rfl, hc1, hc2⟩ := SlR.slice hv
  unfold maxLen at hc2
  have HV := Hid.mk' hv
  clear hv
  by_cases hbig : 100 < ts.length
  · have hd : decide ((ts.length : Int) > 100) = true := decide_eq_true (by omega)
    go_enter Try.func3, Try.ntmps3
    go_wp2_with fail
    go_ret
    exact ⟨rfl, Mod.refl _ _⟩
  · have hd : decide ((ts.length : Int) > 100) = false := decide_eq_false (by omega)
    have HCH := Hid.mk' (chained_any w)
    have HNW : Hid (∀ (k : Nat) (wq : World), k < 4 → Calls Try.prog 7 #[.int .i64 (1 + (k : Int))] wq fun e w' => ∃ g V W, e = .returned (.pointer (some ⟨g, 0, none⟩)) ∧ WorldP w' wq.heap.size g V W ∧ Inv W 0 10 ∧ InvS W ∧ Mod noBlock wq w') := fun k wq hk => by
      have := newWorld_any (1 + k) wq (by omega) (by omega)
      rw [show (((1 + k : Nat)) : Int) = 1 + (k : Int) by omega] at this
      exact this
    have HPK : Hid (∀ wq, Calls Try.prog 8 #[.int .i64 nodes, .int .i64 4] wq fun e w' => ∃ k : Nat, e = .returned (.int .i64 k) ∧ k < 4 ∧ w' = wq) := fun wq => pick_any nodes 4 wq (by decide) (by decide)
    go_enter Try.func3, Try.ntmps3
    go_wp2_with fail
    refine HCH.out.mono ?_
    rintro e w1 ⟨rfl, hm1⟩
    go_wp2_with fail
    refine (HPK.out w1).mono ?_
    rintro e w1' ⟨k4, rfl, hk4, hw1⟩
    subst hw1
    have hk4a : (1 : Int) + (k4 : Int) ≤ 4 := by omega
    have hk4b : (0 : Int) ≤ (k4 : Int) := by omega
    go_wp2_with fail
    refine (HNW.out k4 _ hk4).mono ?_
    rintro e w2 ⟨g, V0, W0, rfl, hW0, hI0, -, hm2⟩
    have hM2 := hm1.trans hm2
    obtain ⟨L, hL⟩ : ∃ q, q = w1'.heap.size := ⟨_, rfl⟩
    rw [← hL] at hW0
    have hL0 : w.heap.size ≤ L := by rw [hL]; exact hm1.size
    have HW0 := Hid.mk' hW0
    have HI0 := Hid.mk' hI0
    have HM2 := Hid.mk' hM2
    clear hW0 hI0 hM2 hm1 hm2 hL HCH HPK HNW hk4a hk4b hk4
    go_wp2_with fail
    go_loopw [6] (fun i0 wr => ∃ (i : Nat) (V : Vals) (W : WS), i ≤ ts.length ∧ i0 = .int .i64 i ∧ WorldP wr L g V W ∧ Inv W i (10 + 1000 * (i : Int)) ∧ Mod noBlock w wr) (fun i0 _ => ts.length - (intOf i0).toNat)
    case atStart => exact ⟨0, V0, W0, Nat.zero_le _, rfl, HW0.out, by simpa using HI0.out, HM2.out⟩
    case round =>
      obtain ⟨i, V, W, hi, rfl, hW, hI, hM⟩ := hrel
      clear HW0 HI0 HM2
      obtain ⟨w8, hw8⟩ : ∃ q, q = wr := ⟨_, rfl⟩
      subst hw8
      by_cases hlt : i < ts.length
      · have hltI : (i : Int) < (ts.length : Int) := by omega
        have hlt0 : (0 : Int) ≤ (i : Int) := by omega
        obtain ⟨t, ht⟩ : ∃ t, ts[i]? = some t := ⟨_, List.getElem?_eq_getElem hlt⟩
        obtain ⟨tb, toff, hta, htb, htI, t0, t1, t2⟩ := TurnsR.at HV.out ht
        subst hta
        have t0' := hM.cell t0 id
        have t1' := hM.cell t1 id
        have t2' := hM.cell t2 id
        have HPL := Hid.mk' (plays_any L g i (10 + 1000 * (i : Int)) V W t.what t.a t.b w8 hW hI (by omega) (by omega) htI)
        have HW := Hid.mk' hW
        have HM := Hid.mk' hM
        clear hI hM ht t0 t1 t2 hW htI
        go_wp2_with fail
        refine HPL.out.mono ?_
        rintro e w7 ⟨rfl, V7, W7, hWt, hI7, -⟩
        have HM7 := Hid.mk' (HM.out.trans' hWt.mod (fun y hy e => by have := (HW.out.may e).1; omega))
        have HW7 := Hid.mk' hWt.p
        have HI7 := Hid.mk' hI7
        clear hWt hI7 HPL t0' t1' t2' HW HM
        go_wp2_with fail
        go_roundw
        case rel => exact ⟨i + 1, V7, W7, by omega, by go_num, HW7.out, by have := HI7.out; rw [show 10 + 1000 * (((i + 1 : Nat)) : Int) = 10 + 1000 * (i : Int) + 1000 by omega]; exact this, HM7.out⟩
        case measure => simp [intOf]; omega
      · obtain rfl : i = ts.length := by omega
        have hep := hI.ep
        have HFX := Hid.mk' (wfix_any L g V W (-1) w8 hW (fun x hx => (hI.conf x hx).1) (conf_len hI) ⟨hep.1, by omega⟩ (.inl rfl))
        have HI1 := Hid.mk' hI.fix
        have HBS := Hid.mk' (BecI.start hI)
        have HPF : Hid (PhiW (wfix W (-1)) ≤ 200 + 1212 * 0) := by have h1 := phi_fix hI; have h2 := hW.net.few; rw [Hid, h1]; omega
        have HW := Hid.mk' hW
        have HM := Hid.mk' hM
        clear hI hM hep hW
        go_wp2_with fail
        refine HFX.out.mono ?_
        rintro e w9 ⟨rfl, V9, hW9, hm9, -⟩
        have HM9 := Hid.mk' (HM.out.trans' hm9 (fun y hy e => by have := (HW.out.may e).1; omega))
        have HW9 := Hid.mk' hW9
        clear hW9 hm9 HFX HW HM
        go_wp2_with fail
        go_loopw [7] (fun k0 wr => ∃ (k : Nat) (V : Vals) (W : WS), k ≤ 5 ∧ k0 = .int .i64 k ∧ WorldP wr L g V W ∧ Inv W (ts.length + 1) (10 + 1000 * (ts.length : Int) + k) ∧ BecI W k ∧ PhiW W ≤ 200 + 1212 * k ∧ Mod noBlock w wr) (fun k0 _ => 5 - (intOf k0).toNat)
        case atStart => exact ⟨0, V9, _, Nat.zero_le _, rfl, HW9.out, by simpa using HI1.out.1, HBS.out, HPF.out, HM9.out⟩
        case round =>
          clear HW9 HI1 HBS HPF HM9
          obtain ⟨k, V1, W1, hk, rfl, hW, hI, hBE, hPH, hM⟩ := hrel
          obtain ⟨w10, hw10⟩ : ∃ q, q = wr := ⟨_, rfl⟩
          subst hw10
          by_cases hk5 : k < 5
          · have hkI : (k : Int) < 5 := by omega
            have hdk : decide ((k : Int) < 5) = true := decide_eq_true hkI
            have HB := Hid.mk' (wbec_any L g k (ts.length + 1) (10 + 1000 * (ts.length : Int) + k) V1 W1 w10 hW hI hk5 (by omega) (by omega))
            have HI2 := Hid.mk' (hI.bec hk5)
            have HBE2 := Hid.mk' (hBE.step hk5)
            have HPH2 : Hid (PhiW (wbec W1 k) ≤ 200 + 1212 * (k + 1)) := by
              have h1 := phi_bec (k := k) (conf_len hI)
              have h2 : 200 + 1212 * (k + 1) = 200 + 1212 * k + 1212 := by omega
              rw [Hid, h2]
              exact Nat.le_trans h1 (Nat.add_le_add_right hPH _)
            have HW := Hid.mk' hW
            have HM := Hid.mk' hM
            clear hW hI hBE hPH hM
            go_wp2_with fail
            refine HB.out.mono ?_
            rintro e w11 ⟨rfl, V11, hW11, hm11, -⟩
            have HM11 := Hid.mk' (HM.out.trans' hm11 (fun y hy e => by have := (HW.out.may e).1; omega))
            go_wp2_with fail
            go_roundw
            case rel => exact ⟨k + 1, V11, _, by omega, by go_num, hW11, by have := HI2.out; rw [show 10 + 1000 * (ts.length : Int) + (((k + 1 : Nat)) : Int) = 10 + 1000 * (ts.length : Int) + (k : Int) + 1 by omega]; exact this, HBE2.out, HPH2.out, HM11.out⟩
            case measure => simp [intOf]; omega
          · have hke : k = 5 := by omega
            have hdk : decide ((k : Int) < 5) = false := decide_eq_false (by omega)
            have HR0 : Hid (RInv 0 W1) := ⟨by rw [hke] at hBE; exact hBE.cfg, fun _ => by omega, fun q => by omega, fun q => by omega, fun q => by omega⟩
            have HI2 : Hid (Inv W1 (ts.length + 1) (200000 + 20000000 * (0 : Int))) := hI.more (Nat.le_refl _) (by omega)
            have HW := Hid.mk' hW
            have HM := Hid.mk' hM
            clear hW hI hBE hPH hM hke hk hk5
            go_wp2_with fail
            go_loopw [8] (fun k0 wr => ∃ (r : Nat) (V : Vals) (W : WS), r ≤ 12 ∧ k0 = .int .i64 r ∧ WorldP wr L g V W ∧ Inv W (ts.length + 1) (200000 + 20000000 * (r : Int)) ∧ RInv r W ∧ Mod noBlock w wr) (fun k0 _ => 12 - (intOf k0).toNat)
            case atStart => exact ⟨0, V1, W1, Nat.zero_le _, rfl, HW.out, HI2.out, HR0.out, HM.out⟩
            case round =>
              clear HR0 HI2 HW HM
              obtain ⟨r, V2, W2, hr, rfl, hW, hI, hR, hM⟩ := hrel
              obtain ⟨w12, hw12⟩ : ∃ q, q = wr := ⟨_, rfl⟩
              subst hw12
              obtain ⟨-, -, -, -, -, c7, -⟩ := hW.cells
              have hc6 : 1 ≤ W2.conf.length := by cases hq : W2.conf with
                | nil => exact absurd hq hI.some_
                | cons x l => simp
              obtain ⟨bc, cc, hcv, _, zc, hcc1, hcc2, -⟩ := row_open hW.crow (by omega)
              rw [hcv] at c7
              unfold maxLen at hcc2
              have hcl := conf_len hI
              have zg := hW.net.blk.lt
              have HW := Hid.mk' hW
              have HI := Hid.mk' hI
              have HR := Hid.mk' hR
              have HM := Hid.mk' hM
              have HCV := Hid.mk' hcv
              clear hW hI hR hM hcv
              by_cases hr12 : r < 12
              · have hrI : (r : Int) < 12 := by omega
                have hdr : decide ((r : Int) < 12) = true := decide_eq_true hrI
                go_wp2_with fail
                go_loopw [58] (fun i0 wr => ∃ (k : Nat) (V : Vals) (W : WS), k ≤ W2.conf.length ∧ i0 = .int .i64 k ∧ WorldP wr L g V W ∧ V.cv = V2.cv ∧ Inv W (ts.length + 1) (200000 + 20000000 * (r : Int) + k) ∧ TInv r W2 W k ∧ Mod noBlock w wr) (fun i0 _ => W2.conf.length - (intOf i0).toNat)
                case atStart => exact ⟨0, V2, W2, Nat.zero_le _, rfl, HW.out, rfl, by simpa using HI.out, HR.out.start, HM.out⟩
                case round =>
                  clear c7
                  obtain ⟨k3, V3, W3, hk3, rfl, hW3, hcv3, hI3, hT3, hM3⟩ := hrel
                  obtain ⟨w13, hw13⟩ : ∃ q, q = wr := ⟨_, rfl⟩
                  subst hw13
                  have zg3 := hW3.net.blk.lt
                  by_cases hlt3 : k3 < W2.conf.length
                  · have hk3I : (k3 : Int) < (W2.conf.length : Int) := by omega
                    have hk30 : (0 : Int) ≤ (k3 : Int) := by omega
                    obtain ⟨x, hx⟩ : ∃ x, W2.conf[k3]? = some x := ⟨_, List.getElem?_eq_getElem hlt3⟩
                    have hx3 : W3.conf[k3]? = some x := by rw [hT3.cf]; exact hx
                    obtain ⟨q1, zb⟩ := conf_cell hW3 (by rw [hcv3]; exact HCV.out) hx3
                    obtain ⟨hs, -, -⟩ := hI3.conf x (List.mem_of_getElem? hx3)
                    have hx5 := (toNat_small hs).1
                    have hxa : 0 ≤ x := hs.1
                    have hxb : x < 5 := hs.2
                    obtain ⟨bn, nc, c0, zn, hn1, hn2, cn⟩ := hW3.nodeAt
                    have q2 := cn x.toNat hx5
                    unfold maxLen at hn2
                    have HT := Hid.mk' (ctick_any L (V3.b x.toNat) (V3.nv x.toNat) (V3.lv x.toNat) (W3.node x.toNat) w13.drew ((hW3.node x.toNat hx5).drewN 1))
                    have HIN := Hid.mk' (hI3.tick hx5)
                    have HTS := Hid.mk' (hT3.step HI.out HR.out.cfg hx)
                    have HLO := Hid.mk' hI3.lo
                    have HW3 := Hid.mk' hW3
                    have HM3 := Hid.mk' hM3
                    have HCV3 := Hid.mk' hcv3
                    clear hx hx3 hs cn hW3 hcv3 hI3 hT3 hM3
                    go_wp2_with fail
                    go_region_with (first
                      | (go_at_call 13; refine HT.out.mono ?_; rintro e w5 ⟨r5, rfl, hN5, hR5, hf5, hm5⟩; have hm6 : Mod (V3.at x.toNat) w13 w5 := ((Mod.refl (V3.at x.toNat) w13).drew).trans (hm5.mono (fun k _ e => .inl e)); have T := HW3.out.turn hx5 hN5 hm6 (.inl rfl) (.inl rfl); have HS := Hid.mk' (T.1.sentK HLO.out (ms := (tickN (W3.node x.toNat)).2) (by have := tick_len (W3.node x.toNat); omega) hR5 (turn_off (w1 := w5) HW3.out T.2.2 hf5 (msgs_off T.1 hR5) ⟨rfl, rfl, rfl, rfl, rfl, rfl, rfl⟩)); obtain ⟨ra, rcap, hr5⟩ := hR5.slice; subst hr5; have HTT := Hid.mk' T; clear T hN5 hR5 hf5 hm5 hm6)
                      | (go_at_call 12; refine HS.out.mono ?_; rintro e w7 ⟨x7, wv7, rfl, hW7, hm7, hg7⟩)
                      | fail)
                    all_goals
                      have HM7 := Hid.mk' (HM3.out.trans' (HTT.out.2.1.world HTT.out.2.2 hm7) (fun y hy e => by have := (HW3.out.may e).1; omega))
                      have HW7 := Hid.mk' hW7
                      clear hW7 hm7 hg7
                      go_wp2_with fail
                      go_roundw
                      case rel => exact ⟨k3 + 1, _, wnode W3 x.toNat (tickN (W3.node x.toNat)), by omega, by go_num, HW7.out, HCV3.out, by have := HIN.out; rw [show 200000 + 20000000 * (r : Int) + (((k3 + 1 : Nat)) : Int) = 200000 + 20000000 * (r : Int) + (k3 : Int) + 1 by omega]; exact this, HTS.out, HM7.out⟩
                      case measure => simp [intOf]; omega
                  · obtain rfl : k3 = W2.conf.length := by omega
                    have HD0 := Hid.mk' (hT3.done HR.out HI.out (by omega))
                    have HI0 : Hid (Inv W3 (ts.length + 1) (200010 + 20000000 * (r : Int) + 500 * (0 : Int))) := hI3.more (Nat.le_refl _) (by omega)
                    have HW3 := Hid.mk' hW3
                    have HM3 := Hid.mk' hM3
                    clear hW3 hcv3 hI3 hT3 hM3 HW HI HR HM HCV
                    go_wp2_with fail
                    go_loopw [11] (fun i0 wr => ∃ (c : Nat) (V : Vals) (W : WS), c ≤ 20000 ∧ i0 = .int .i64 c ∧ WorldP wr L g V W ∧ Inv W (ts.length + 1) (200010 + 20000000 * (r : Int) + 500 * (c : Int)) ∧ DInv r W c ∧ Mod noBlock w wr) (fun i0 _ => 20000 - (intOf i0).toNat)
                    case atStart => exact ⟨0, V3, W3, Nat.zero_le _, rfl, HW3.out, HI0.out, HD0.out, HM3.out⟩
                    case round =>
                      clear HD0 HI0 HW3 HM3
                      obtain ⟨c, V4, W4, hc, rfl, hW4, hI4, hD4, hM4⟩ := hrel
                      obtain ⟨w14, hw14⟩ : ∃ q, q = wr := ⟨_, rfl⟩
                      subst hw14
                      have zg4 := hW4.net.blk.lt
                      have HMA := Hid.mk' (many_any L g V4.wv V4.mr W4.net w14 hW4.net)
                      have hfew := hW4.net.few
                      by_cases hmore : c < 20000 ∧ 0 < W4.net.way.length
                      · obtain ⟨hcm, hw0⟩ := hmore
                        have hcI : decide ((c : Int) < 20000) = true := decide_eq_true (by omega)
                        have hwI : decide ((W4.net.way.length : Int) > 0) = true := decide_eq_true (by omega)
                        obtain ⟨m, R, hway⟩ : ∃ m R, W4.net.way = m :: R := by
                          cases hq : W4.net.way with
                          | nil => rw [hq] at hw0; simp at hw0
                          | cons m R => exact ⟨m, R, rfl⟩
                        have hm0 : W4.net.way[0]? = some m := by rw [hway]; rfl
                        have HTK := Hid.mk' (take_yes L g V4.wv V4.mr W4.net 0 m w14 hW4.net hm0)
                        have hgm : goodM m := by obtain ⟨us, _, _, _, h4⟩ := hW4.net.row; exact h4 m (List.mem_of_getElem? hm0)
                        have HGM := Hid.mk' hgm
                        have HWAY := Hid.mk' hway
                        have HST := Hid.mk' (stables hW4)
                        have HW4 := Hid.mk' hW4
                        have HI4 := Hid.mk' hI4
                        have HD4 := Hid.mk' hD4
                        have HM4 := Hid.mk' hM4
                        clear hW4 hI4 hD4 hM4 hm0 hgm hway
                        go_wp2_with fail
                        refine HMA.out.mono ?_
                        rintro e w15 ⟨rfl, hw15⟩
                        subst hw15
                        clear HMA
                        go_wp2_with fail
                        refine HTK.out.mono ?_
                        rintro e w5 ⟨wv5, u5, rfl, hN5, hu5, hwv5, hm5⟩
                        obtain ⟨ua5, uc5, rfl⟩ : ∃ ua ucap, u5 = .slice ua m.cmd.writes.length ucap := by obtain ⟨ua, ucap, h, _⟩ := hu5; exact ⟨ua, ucap, h⟩
                        dsimp only [msgV]
                        have T := HW4.out.nets hN5 hm5 (.inl hwv5) (.inl rfl)
                        obtain ⟨w6, hw6⟩ : ∃ q, q = w5.alloc (.cells #[.int .i64 m.kind, .int .i64 m.frm, .int .i64 m.to, .int .i64 m.epoch, .int .i64 m.n, .int .i64 m.cmd.kind, .int .i64 m.cmd.tx, .int .i64 m.cmd.time, .slice ua5 m.cmd.writes.length uc5] 51) := ⟨_, rfl⟩
                        have hma : Mod noBlock w5 w6 := by rw [hw6]; exact (Mod.refl noBlock w5).alloc _
                        have hBm : Blk w6 w5.heap.size (msgCells m (.slice ua5 m.cmd.writes.length uc5)) 51 := by rw [hw6]; exact Blk.new w5 _ _
                        have HT := Hid.mk' T
                        clear T hN5 hwv5 hm5 HTK
                        go_upto_region 27 with fail
                        rw [← hw6]
                        clear hw6
                        obtain ⟨⟨p0, p1, p2, p3, p4, p5, p6, p7, p8⟩, -⟩ := blk9 hBm
                        have hWq := HT.out.1.quiet hma
                        obtain ⟨bn, nc, c0, zn, hn1, hn2, cn⟩ := hWq.nodeAt
                        have zq := hBm.lt
                        have zgq := hWq.net.blk.lt
                        have HCN := Hid.mk' cn
                        have HSP : Hid (∀ j, j < 5 → Calls Try.prog 16 #[.pointer (some ⟨V4.b j, 0, none⟩), .agg #[.int .i64 m.kind, .int .i64 m.frm, .int .i64 m.to, .int .i64 m.epoch, .int .i64 m.n, .int .i64 m.cmd.kind, .int .i64 m.cmd.tx, .int .i64 m.cmd.time, .slice ua5 m.cmd.writes.length uc5]] w6.drew fun e w' =>
                          ∃ v lv', e = .returned v ∧ NodeP w' L (V4.b j) (V4.nv j) lv' (stepN (W4.node j) m).1 ∧ RowM w' L v (stepN (W4.node j) m).2 ∧ freshV w6.drew v ∧ Moved w6.drew (V4.lv j) lv' ∧ Mod (nodeMay (V4.b j) (V4.nv j) (V4.lv j)) w6.drew w') := fun j hj => cstep_any L _ _ _ _ m _ w6.drew ((hWq.node j hj).drewN 1) ((hu5.mod hma (Qm.none _ _)).mod ((Mod.refl noBlock w6).drew) (Qm.none _ _)) HGM.out
                        have HPK5 := Hid.mk' (pick5_dest m.to w6.drew)
                        have HID := Hid.mk' (HI4.out.drop 0)
                        have HWQ := Hid.mk' hWq
                        have HM6 := Hid.mk' ((HM4.out.trans' HT.out.2.1 (fun y hy e => by have := (HW4.out.may e).1; omega)).trans hma)
                        unfold maxLen at hn2
                        clear hBm hu5 hWq hma HT cn HW4 HM4
                        go_region_with (first
                          | (go_at_call 8; refine HPK5.out.mono ?_; rintro e wp ⟨j, rfl, hj, hdj, hwp⟩; subst hwp; have hjI : (j : Int) < 5 := (by omega); have hj0 : (0 : Int) ≤ (j : Int) := (by omega); have qj := HCN.out j hj; have HDJ := Hid.mk' hdj; clear hdj)
                          | (go_at_call 16; refine (HSP.out j hj).mono ?_; rintro e w8' ⟨r5, lv5, rfl, hN8, hR8, hf8, hlv8, hm8⟩; have T := HWQ.out.turn hj hN8 (((Mod.refl _ w6).drew).trans hm8) (.inl rfl) hlv8; have HS := Hid.mk' (T.1.sentK HID.out.lo (ms := (stepN (W4.node j) m).2) (by have h1 := step_len (W4.node j) m; have h2 := (HI4.out.each j hj).len; omega) hR8 (turn_off (w1 := w8') HWQ.out T.2.2 hf8 (msgs_off T.1 hR8) ⟨rfl, rfl, rfl, rfl, rfl, rfl, rfl⟩)); obtain ⟨ra, rcap, hr5⟩ := hR8.slice; subst hr5; have HTT := Hid.mk' T; clear T hN8 hR8 hf8 hlv8 hm8)
                          | (go_at_call 12; refine HS.out.mono ?_; rintro e w7 ⟨x7, wv7, rfl, hW7, hm7, hg7⟩)
                          | fail)
                        all_goals
                          have HTA : Hid (Takes W4 m R j) := ⟨HWAY.out, hj, HDJ.out⟩
                          have HI7 := Hid.mk' (HI4.out.drain HTA.out (by omega))
                          have HD7 := Hid.mk' (HD4.out.step HI4.out (by omega) HTA.out HST.out)
                          have HM7 := Hid.mk' (HM6.out.trans' (HTT.out.2.1.world HTT.out.2.2 hm7) (fun y hy e => by have := (HWQ.out.may e).1; omega))
                          have HW7 := Hid.mk' hW7
                          clear hW7 hm7 hg7 p0 p1 p2 p3 p4 p5 p6 p7 p8
                          go_wp2_with fail
                          go_roundw
                          case rel => exact ⟨c + 1, _, wdr W4 j m, by omega, by go_num, HW7.out, by have := HI7.out; rw [show 200010 + 20000000 * (r : Int) + 500 * (((c + 1 : Nat)) : Int) = 200010 + 20000000 * (r : Int) + 500 * (c : Int) + 500 by omega]; exact this, HD7.out, HM7.out⟩
                          case measure => simp [intOf]; omega
                      · by_cases hcm : c < 20000
                        · have hw0 : W4.net.way = [] := List.eq_nil_of_length_eq_zero (by omega)
                          have hcI : decide ((c : Int) < 20000) = true := decide_eq_true (by omega)
                          have HRN := Hid.mk' (hD4.done (.inl hw0))
                          rw [hw0] at HMA
                          have HIN : Hid (Inv W4 (ts.length + 1) (200000 + 20000000 * (((r + 1 : Nat)) : Int))) := hI4.more (Nat.le_refl _) (by omega)
                          have HW4 := Hid.mk' hW4
                          have HM4 := Hid.mk' hM4
                          clear hW4 hI4 hD4 hM4 hw0 hmore hfew
                          go_wp2_with fail
                          refine HMA.out.mono ?_
                          rintro e w15 ⟨rfl, hw15⟩
                          subst hw15
                          go_wp2_with fail
                          go_roundw
                          case rel => exact ⟨r + 1, V4, W4, by omega, by go_num, HW4.out, HIN.out, HRN.out, HM4.out⟩
                          case measure => simp [intOf]; omega
                        · have hcI : decide ((c : Int) < 20000) = false := decide_eq_false (by omega)
                          have HRN := Hid.mk' (hD4.done (.inr (by omega)))
                          have HIN : Hid (Inv W4 (ts.length + 1) (200000 + 20000000 * (((r + 1 : Nat)) : Int))) := hI4.more (Nat.le_refl _) (by omega)
                          have HW4 := Hid.mk' hW4
                          have HM4 := Hid.mk' hM4
                          clear hW4 hI4 hD4 hM4 hmore hfew HMA
                          go_wp2_with fail
                          go_roundw
                          case rel => exact ⟨r + 1, V4, W4, by omega, by go_num, HW4.out, HIN.out, HRN.out, HM4.out⟩
                          case measure => simp [intOf]; omega
              · have hre : r = 12 := by omega
                have hdr : decide ((r : Int) < 12) = false := decide_eq_false (by omega)
                obtain ⟨h, Y, hcf⟩ : ∃ h Y, W2.conf = h :: Y := by
                  cases hq : W2.conf with
                  | nil => rw [hq] at hc6; simp at hc6
                  | cons h Y => exact ⟨h, Y, rfl⟩
                have hall := heal_all HI.out (by have := HR.out; rw [hre] at this; exact this) hcf
                have hh : W2.conf[0]? = some h := by rw [hcf]; rfl
                obtain ⟨q1, zb⟩ := conf_cell HW.out HCV.out hh
                obtain ⟨hs, -, -⟩ := HI.out.conf h (List.mem_of_getElem? hh)
                have hh5 := (toNat_small hs).1
                have hha : 0 ≤ h := hs.1
                have hhb : h < 5 := hs.2
                obtain ⟨bn, nc, c0, zn, hn1, hn2, cn⟩ := HW.out.nodeAt
                have q2 := cn h.toNat hh5
                have HCN := Hid.mk' cn
                have HAL := Hid.mk' hall
                have HC0 := Hid.mk' c0
                have HC7 := Hid.mk' c7
                unfold maxLen at hn2
                have hc6I : (0 : Int) < (W2.conf.length : Int) := by omega
                clear hs hcf hh hall cn hre
                go_upto_region 28 with fail
                go_region
                all_goals go_wp2_with fail
                all_goals go_loopw [127] (fun i0 wr => ∃ (k : Nat), k ≤ W2.conf.length ∧ i0 = .int .i64 k ∧ Mod noBlock w12 wr) (fun i0 _ => W2.conf.length - (intOf i0).toNat)
                case atStart => exact ⟨0, Nat.zero_le _, rfl, (Mod.refl _ _).drew⟩
                case round =>
                  clear c0 c7 q1 q2
                  obtain ⟨k, hk, rfl, hMx⟩ := hrel
                  obtain ⟨wx, hwx⟩ : ∃ q, q = wr := ⟨_, rfl⟩
                  subst hwx
                  have hWx := HW.out.quiet hMx
                  by_cases hlt3 : k < W2.conf.length
                  · have hk3I : (k : Int) < (W2.conf.length : Int) := by omega
                    have hk30 : (0 : Int) ≤ (k : Int) := by omega
                    obtain ⟨x, hx⟩ : ∃ x, W2.conf[k]? = some x := ⟨_, List.getElem?_eq_getElem hlt3⟩
                    obtain ⟨q1, zbx⟩ := conf_cell hWx HCV.out hx
                    obtain ⟨hs, -, -⟩ := HI.out.conf x (List.mem_of_getElem? hx)
                    have hx5 := (toNat_small hs).1
                    have hxa : 0 ≤ x := hs.1
                    have hxb : x < 5 := hs.2
                    have q2 := hMx.cell (HCN.out x.toNat hx5) id
                    have c0x := hMx.cell HC0.out id
                    have zgx := hWx.net.blk.lt
                    obtain ⟨e1, e2⟩ := HAL.out.2 x (List.mem_of_getElem? hx)
                    have HLX : Hid (∀ wq, Mod noBlock wx wq → Calls Try.prog 18 #[.pointer (some ⟨V2.b x.toNat, 0, none⟩)] wq fun e w' => ∃ a cap, e = .returned (.slice a (W2.node h.toNat).log.length cap) ∧ RowC w' L (.slice a (W2.node h.toNat).log.length cap) (W2.node h.toNat).log ∧ Mod noBlock wq w') := fun wq hq => by
                      have := clogF L _ _ _ _ wq ((hWx.quiet hq).node x.toNat hx5)
                      rw [e1] at this
                      refine this.mono ?_
                      rintro e w' ⟨a, cap, rfl, hR, -, hm⟩
                      exact ⟨a, cap, rfl, hR, hm⟩
                    have HLH : Hid (∀ wq, Mod noBlock wx wq → Calls Try.prog 18 #[.pointer (some ⟨V2.b h.toNat, 0, none⟩)] wq fun e w' => ∃ a cap, e = .returned (.slice a (W2.node h.toNat).log.length cap) ∧ RowC w' L (.slice a (W2.node h.toNat).log.length cap) (W2.node h.toNat).log ∧ Mod noBlock wq w') := fun wq hq => by
                      refine (clogF L _ _ _ _ wq ((hWx.quiet hq).node h.toNat hh5)).mono ?_
                      rintro e w' ⟨a, cap, rfl, hR, -, hm⟩
                      exact ⟨a, cap, rfl, hR, hm⟩
                    have HSX : Hid (∀ wq, Mod noBlock wx wq → Calls Try.prog 19 #[.pointer (some ⟨V2.b x.toNat, 0, none⟩)] wq fun e w' => e = .returned (.int .i64 (W2.node h.toNat).log.length) ∧ w' = wq) := fun wq hq => by
                      have := cstable_any L _ _ _ _ wq ((hWx.quiet hq).node x.toNat hx5)
                      rw [e2] at this
                      exact this
                    have HNH : Hid (∀ wq, Mod noBlock wx wq → Calls Try.prog 20 #[.pointer (some ⟨V2.b h.toNat, 0, none⟩)] wq fun e w' => e = .returned (.int .i64 (W2.node h.toNat).log.length) ∧ w' = wq) := fun wq hq => clen_any L _ _ _ _ wq ((hWx.quiet hq).node h.toNat hh5)
                    have HBA : Hid (∀ c ∈ (W2.node h.toNat).log, c.writes = []) := (HI.out.each _ hh5).bare
                    have HMX := Hid.mk' hMx
                    clear hx hs e1 e2 hWx hMx
                    go_wp2_with fail
                    refine (HLX.out _ (Mod.refl _ _)).mono ?_
                    rintro e w5 ⟨a5, cap5, rfl, hR5, hm5⟩
                    have HM5 := Hid.mk' hm5
                    have HR5 := Hid.mk' hR5
                    clear hm5 hR5 q1 q2 c0x
                    go_wp2_with fail
                    refine (HLH.out _ HM5.out).mono ?_
                    rintro e w6 ⟨a6, cap6, rfl, hR6, hm6⟩
                    have HM6 := Hid.mk' (HM5.out.trans hm6)
                    have HLB := Hid.mk' (log_bare L L _ _ _ w6 (HR5.out.mod hm6 (Qm.none _ _) (fun _ _ => id)) hR6 HBA.out)
                    clear hm6 hR6
                    go_wp2_with fail
                    refine HLB.out.mono ?_
                    rintro e w7 ⟨rfl, hm7⟩
                    have HM7 := Hid.mk' (HM6.out.trans hm7)
                    clear hm7 HLB
                    go_wp2_with fail
                    refine (HSX.out _ HM7.out).mono ?_
                    rintro e w7a ⟨rfl, hw7a⟩
                    subst hw7a
                    go_wp2_with fail
                    refine (HNH.out _ HM7.out).mono ?_
                    rintro e w7b ⟨rfl, hw7b⟩
                    subst hw7b
                    go_wp2_with fail
                    go_roundw
                    case rel => exact ⟨k + 1, by omega, by go_num, HMX.out.trans HM7.out⟩
                    case measure => simp [intOf]; omega
                  · have HHD := Hid.mk' (head_any L _ _ _ _ wx (hWx.node h.toNat hh5))
                    have hhd := HAL.out.1
                    rw [hhd] at HHD
                    have HMX := Hid.mk' hMx
                    clear hWx hMx hhd
                    go_wp2_with fail
                    refine HHD.out.mono ?_
                    rintro e w5 ⟨rfl, m5, hw5⟩
                    subst hw5
                    go_wp2_with fail
                    go_ret
                    exact ⟨rfl, (HM.out.trans HMX.out).trans ((Mod.refl noBlock wx).drewN _)⟩
end Go.Proofs.Ytefhgakcffhgaab
