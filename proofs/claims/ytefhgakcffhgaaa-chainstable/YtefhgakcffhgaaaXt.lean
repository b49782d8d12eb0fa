/- The law ChainStable, walked. -/
import Derived.Test.YtefhgakcffhgaaaXs
import Derived.Test.YtefhgakcffhgaaaXf
namespace Go.Proofs.Ytefhgakcffhgaaa
open Go.RowKit Go.Lib Go.Maps
set_option linter.unusedVariables false

set_option maxRecDepth 100000 in
set_option maxHeartbeats 16000000 in
theorem chainStable_any (nodes : Int) (ts : List Turn3) (v : Value) (w : World) (hv : TurnsR w w.heap.size v ts) :
    Calls Try.prog 5 #[.int .i64 nodes, v] w fun e w' => e = .returned (.bool true) ∧ Mod noBlock w w' := by
  obtain ⟨a, cap, rfl, hc1, hc2⟩ := SlR.slice hv
  unfold maxLen at hc2
  have HV := Hid.mk' hv
  clear hv
  by_cases hbig : 120 < ts.length
  · have hd : decide ((ts.length : Int) > 120) = true := decide_eq_true (by omega)
    go_enter Try.func5, Try.ntmps5
    go_wp2_with fail
    go_ret
    exact ⟨rfl, Mod.refl _ _⟩
  · have hd : decide ((ts.length : Int) > 120) = false := decide_eq_false (by omega)
    have HCH := Hid.mk' (chained_any w)
    have HNW : Hid (∀ (k : Nat) (wq : World), k < 4 → Calls Try.prog 9 #[.int .i64 (1 + (k : Int))] wq fun e w' => ∃ g V W, e = .returned (.pointer (some ⟨g, 0, none⟩)) ∧ WorldP w' wq.heap.size g V W ∧ Inv W 0 10 ∧ InvS W ∧ Mod noBlock wq w') := fun k wq hk => by
      have := newWorld_any (1 + k) wq (by omega) (by omega)
      rw [show (((1 + k : Nat)) : Int) = 1 + (k : Int) by omega] at this
      exact this
    have HPK : Hid (∀ wq, Calls Try.prog 10 #[.int .i64 nodes, .int .i64 4] wq fun e w' => ∃ k : Nat, e = .returned (.int .i64 k) ∧ k < 4 ∧ w' = wq) := fun wq => pick_any nodes 4 wq (by decide) (by decide)
    go_enter Try.func5, Try.ntmps5
    go_wp2_with fail
    refine HCH.out.mono ?_
    rintro e w1 ⟨rfl, hm1⟩
    go_wp2_with fail
    refine (HPK.out w1).mono ?_
    rintro e w1' ⟨k4, rfl, hk4, hw1⟩
    subst hw1
    have hk4a : (1 : Int) + (k4 : Int) ≤ 4 := by omega
    have hk4b : (0 : Int) ≤ (k4 : Int) := by omega
    go_wp2_with fail
    refine (HNW.out k4 _ hk4).mono ?_
    rintro e w2 ⟨g, V0, W0, rfl, hW0, hI0, hS0, hm2⟩
    have hM2 := hm1.trans hm2
    obtain ⟨L, hL⟩ : ∃ q, q = w1'.heap.size := ⟨_, rfl⟩
    rw [← hL] at hW0
    have hL0 : w.heap.size ≤ L := by rw [hL]; exact hm1.size
    have HW0 := Hid.mk' hW0
    have HI0 := Hid.mk' hI0
    have HS0 := Hid.mk' hS0
    have HM2 := Hid.mk' hM2
    clear hW0 hI0 hS0 hM2 hm1 hm2 hL HCH HPK HNW hk4a hk4b hk4
    go_wp2_with fail
    go_loopw [6] (fun i0 wr => ∃ (i : Nat) (V : Vals) (W : WS), i ≤ ts.length ∧ i0 = .int .i64 i ∧ WorldP wr L g V W ∧ Inv W i (10 + 1000 * (i : Int)) ∧ InvS W ∧ Mod noBlock w wr) (fun i0 _ => ts.length - (intOf i0).toNat)
    case atStart => exact ⟨0, V0, W0, Nat.zero_le _, rfl, HW0.out, by simpa using HI0.out, HS0.out, HM2.out⟩
    case round =>
      obtain ⟨i, V, W, hi, rfl, hW, hI, hS, hM⟩ := hrel
      clear HW0 HI0 HS0 HM2
      obtain ⟨w8, hw8⟩ : ∃ q, q = wr := ⟨_, rfl⟩
      subst hw8
      by_cases hlt : i < ts.length
      · have hltI : (i : Int) < (ts.length : Int) := by omega
        have hlt0 : (0 : Int) ≤ (i : Int) := by omega
        obtain ⟨t, ht⟩ : ∃ t, ts[i]? = some t := ⟨_, List.getElem?_eq_getElem hlt⟩
        obtain ⟨tb, toff, hta, htb, htI, t0, t1, t2⟩ := TurnsR.at HV.out ht
        subst hta
        have t0' := hM.cell t0 id
        have t1' := hM.cell t1 id
        have t2' := hM.cell t2 id
        have HW := Hid.mk' hW
        have HI := Hid.mk' hI
        have HS := Hid.mk' hS
        have HM := Hid.mk' hM
        clear hI hS hM ht t0 t1 t2
        by_cases h7 : t.what = 7
        · have d7 : (t.what == 7) = true := by simp [h7]
          clear hW htI
          go_wp2_with fail
          go_roundw
          case rel => exact ⟨i + 1, V, W, by omega, by go_num, HW.out, HI.out.more (Nat.le_succ _) (by omega), HS.out, HM.out⟩
          case measure => simp [intOf]; omega
        · have d7 : (t.what == 7) = false := by simp [h7]
          have HPL := Hid.mk' (plays_any L g i (10 + 1000 * (i : Int)) V W t.what t.a t.b w8 hW HI.out (by omega) (by omega) htI)
          clear hW htI
          go_wp2_with fail
          refine HPL.out.mono ?_
          rintro e w7 ⟨rfl, V7, W7, hWt, hI7, hS7⟩
          have hM7 : Mod noBlock w w7 := HM.out.trans' hWt.mod (fun y hy e => by have := (HW.out.may e).1; omega)
          have HM7 := Hid.mk' hM7
          have HW7 := Hid.mk' hWt.p
          have HI7 := Hid.mk' hI7
          have HS7 := Hid.mk' (hS7 h7 HS.out)
          clear hM7 hWt hI7 hS7 HPL t0' t1' t2' HW HI HS HM
          go_wp2_with fail
          go_loopw [7] (fun k0 wr => ∃ (k : Nat) (V' : Vals) (W' : WS), k ≤ 5 ∧ k0 = .int .i64 k ∧ WorldP wr L g V' W' ∧ Inv W' (i + 1) (10 + 1000 * (i : Int) + 1000) ∧ InvS W' ∧ (∀ j, j < k → inN (W'.node j) = true → (W'.node j).stable ≤ W'.stable.length) ∧ Mod noBlock w wr) (fun k0 _ => 5 - (intOf k0).toNat)
          case atStart => exact ⟨0, V7, W7, Nat.zero_le _, rfl, HW7.out, HI7.out, HS7.out, fun j hj => by omega, HM7.out⟩
          case round =>
            clear HM7 HW7 HI7 HS7
            obtain ⟨k, V', W', hk, rfl, hW, hI, hS, hj, hM⟩ := hrel
            by_cases hk5 : k < 5
            · have hkI : (k : Int) < 5 := by omega
              have hk0 : (0 : Int) ≤ (k : Int) := by omega
              have hdk : decide ((k : Int) < 5) = true := decide_eq_true hkI
              obtain ⟨bn, nc, c0, zn, hn1, hn2, cn⟩ := hW.nodeAt
              have q1 := cn k hk5
              have c8 := hW.cells.2.2.2.2.2.2
              obtain ⟨sa, scap, hsv⟩ := hW.srow.slice
              rw [hsv] at c8
              unfold maxLen at hn2
              have zg := hW.net.blk.lt
              have HW := Hid.mk' hW
              have HI := Hid.mk' hI
              have HS := Hid.mk' hS
              have HJ := Hid.mk' hj
              have HM := Hid.mk' hM
              have HSV := Hid.mk' hsv
              have HIN : Hid (∀ wq, Mod noBlock wr wq → Calls Try.prog 11 #[.pointer (some ⟨V'.b k, 0, none⟩)] wq fun e w' => e = .returned (.bool (inN (W'.node k))) ∧ ∃ m, w' = wq.drewN m) := fun wq hq => in_any L _ _ _ _ wq ((hW.quiet hq).node k hk5)
              have HST : Hid (∀ wq, Mod noBlock wr wq → Calls Try.prog 16 #[.pointer (some ⟨V'.b k, 0, none⟩)] wq fun e w' => e = .returned (.int .i64 (W'.node k).stable) ∧ w' = wq) := fun wq hq => cstable_any L _ _ _ _ wq ((hW.quiet hq).node k hk5)
              have HLG : Hid (∀ wq, Mod noBlock wr wq → Calls Try.prog 12 #[.pointer (some ⟨V'.b k, 0, none⟩)] wq fun e w' => ∃ b cap, e = .returned (.slice (some ⟨b, 0, none⟩) (W'.node k).log.length cap) ∧ RowC w' L (.slice (some ⟨b, 0, none⟩) (W'.node k).log.length cap) (W'.node k).log ∧ freshV wq (.slice (some ⟨b, 0, none⟩) (W'.node k).log.length cap) ∧ (W'.node k).log.length ≤ cap ∧ cap ≤ maxLen ∧ Mod noBlock wq w') := fun wq hq => clogS L _ _ _ _ wq ((hW.quiet hq).node k hk5)
              obtain ⟨N, hNs⟩ : ∃ N : Nat, (W'.node k).stable = N := ⟨(W'.node k).stable.toNat, by have := (hW.node k hk5).st; omega⟩
              have hNl : N ≤ (W'.node k).log.length := by have := (hW.node k hk5).st; omega
              rw [hNs] at HST
              have f8 := hW.net.blk.frozen 8
              clear cn hW hI hS hj hM hsv
              have HC8 := Hid.mk' c8
              go_upto_region 15 with fail
              go_cut [62] (fun t wc => t = .bool (inN (W'.node k) && decide ((N : Int) > (W'.stable.length : Int))) ∧ Mod noBlock wr wc)
              case first =>
                cases hin : inN (W'.node k) with
                | false =>
                  rw [hin] at HIN
                  have HHN := Hid.mk' hin
                  clear hin
                  go_quiet (first
                    | (go_at_call 11; refine Calls.quiet_of (HIN.out _ ((Mod.refl noBlock wr).drewN _)))
                    | fail)
                  go_wp2_with fail
                  go_meet
                  case rel => exact ⟨by rw [HHN.out]; rfl, (Mod.refl noBlock wr).drewN _⟩
                | true =>
                  rw [hin] at HIN
                  have HHN := Hid.mk' hin
                  clear hin
                  go_region_with (first
                    | (go_at_call 11; refine (HIN.out _ ((Mod.refl noBlock wr).drew)).mono ?_; rintro e w5 ⟨rfl, m5, hw5⟩; have hM5 : Mod noBlock wr w5 := (by rw [hw5]; exact ((Mod.refl noBlock wr).drew).drewN _); have c85 := hM5.cell HC8.out id; clear hw5)
                    | (go_at_call 16; refine (HST.out _ hM5).mono ?_; rintro e w6 ⟨rfl, hw6⟩; subst hw6)
                    | fail)
                  all_goals
                    go_wp2_with fail
                    go_meet
                    case rel => exact ⟨by rw [HHN.out]; simp, hM5⟩
              case rest =>
                obtain ⟨rfl, hMc⟩ := hcut
                by_cases hup : inN (W'.node k) = true ∧ W'.stable.length < N
                · have hb : (inN (W'.node k) && decide ((N : Int) > (W'.stable.length : Int))) = true := by rw [hup.1]; simp; exact hup.2
                  rw [hb]
                  have HUP := Hid.mk' hup
                  have f8c := (hMc.frozen (p := ⟨g, 8, none⟩) zg id).trans f8
                  have c8c := hMc.cell c8 id
                  have zgc := Nat.lt_of_lt_of_le zg hMc.size
                  have HMC := Hid.mk' hMc
                  clear hb hup c8 c0 q1 f8 hMc HC8
                  go_wp2_with fail
                  refine (HLG.out _ HMC.out).mono ?_
                  rintro e w6 ⟨bl, lc, rfl, hR6, hf6, hlc1, hlc2, hm6⟩
                  have hM6 := HMC.out.trans hm6
                  have hcut := hR6.cut (k := N) hNl
                  have R := HW.out.stabs hM6 hcut.1 (fun x hx => by have h1 := hf6 x hx; have h2 := HMC.out.size; omega)
                  have c86 := hm6.cell c8c id
                  have f86 := (hm6.frozen (p := ⟨g, 8, none⟩) zgc id).trans f8c
                  have zg6 := Nat.lt_of_lt_of_le zgc hm6.size
                  have hNc : (N : Int) ≤ (lc : Int) := by have := hcut.2; omega
                  have hN0 : (0 : Int) ≤ (N : Int) := by omega
                  unfold maxLen at hlc2
                  have HR := Hid.mk' R
                  have HST6 := Hid.mk' (HST.out _ hM6)
                  clear R hcut hR6 hf6 hm6 hM6 c8c f8c
                  go_wp2_with fail
                  refine HST6.out.mono ?_
                  rintro e w6' ⟨rfl, hw6⟩
                  subst hw6
                  go_wp2_with fail
                  go_roundw
                  case rel =>
                    refine ⟨k + 1, _, _, by omega, by go_num, HR.out.1, HI.out.stabs _, HS.out.stabs (by have := (HS.out.st k hk5).2; rw [hNs, Int.toNat_natCast] at this; exact this), fun j hj hin => ?_, HM.out.trans' HR.out.2.1 (fun y hy e => by have := (HW.out.may e).1; omega)⟩
                    show (W'.node j).stable ≤ (((W'.node k).log.take N).length : Int)
                    rw [List.length_take, Nat.min_eq_left hNl]
                    by_cases e : j = k
                    · rw [e, hNs]; exact Int.le_refl _
                    · have h1 := HJ.out j (by omega) hin
                      have h2 := HUP.out.2
                      omega
                  case measure => simp [intOf]; omega
                · have hb : (inN (W'.node k) && decide ((N : Int) > (W'.stable.length : Int))) = false := by
                    cases hin : inN (W'.node k) with
                    | false => rfl
                    | true => simp; have := Nat.le_of_not_lt (fun h => hup ⟨hin, h⟩); omega
                  rw [hb]
                  have HUP := Hid.mk' hup
                  have HMC := Hid.mk' hMc
                  clear hb hup c8 c0 q1 f8 hMc HC8
                  go_wp2_with fail
                  go_roundw
                  case rel =>
                    refine ⟨k + 1, V', W', by omega, by go_num, HW.out.quiet HMC.out, HI.out, HS.out, fun j hj hin => ?_, HM.out.trans HMC.out⟩
                    by_cases e : j = k
                    · subst e
                      rw [hNs]
                      have := Nat.le_of_not_lt (fun h => HUP.out ⟨hin, h⟩)
                      omega
                    · exact HJ.out j (by omega) hin
                  case measure => simp [intOf]; omega
            · obtain ⟨wk, hwk⟩ : ∃ q, q = wr := ⟨_, rfl⟩
              subst hwk
              have hdk : decide ((k : Int) < 5) = false := decide_eq_false (by omega)
              have hjall : ∀ j, j < 5 → inN (W'.node j) = true → (W'.node j).stable ≤ W'.stable.length := fun j h => hj j (by omega)
              obtain ⟨-, -, -, -, -, c7, c8⟩ := hW.cells
              have hc6 : 1 ≤ W'.conf.length := by cases hq : W'.conf with
                | nil => exact absurd hq hI.some_
                | cons x l => simp
              obtain ⟨bc, cc, hcv, _, zc, hcc1, hcc2, ccell⟩ := row_open hW.crow (by omega)
              rw [hcv] at c7
              obtain ⟨sa, scap, hsv⟩ := hW.srow.slice
              have HSR := Hid.mk' hW.srow
              rw [hsv] at c8 HSR
              have hcl := conf_len hI
              have zg := hW.net.blk.lt
              obtain ⟨bn, nc, c0, zn, hn1, hn2, cn⟩ := hW.nodeAt
              unfold maxLen at hcc2 hn2
              have HW := Hid.mk' hW
              have HI := Hid.mk' hI
              have HS := Hid.mk' hS
              have HJ := Hid.mk' hjall
              have HM := Hid.mk' hM
              have HCC := Hid.mk' ccell
              have HCN := Hid.mk' cn
              have HC0 := Hid.mk' c0
              have HC8 := Hid.mk' c8
              clear hW hI hS hM hj hjall ccell cn hcv hsv
              go_wp2_with fail
              go_loopw [77] (fun i0 wx => ∃ q : Nat, q ≤ W'.conf.length ∧ i0 = .int .i64 q ∧ Mod noBlock wk wx) (fun i0 _ => W'.conf.length - (intOf i0).toNat)
              case atStart => exact ⟨0, Nat.zero_le _, rfl, Mod.refl _ _⟩
              case round =>
                obtain ⟨wx, hwx⟩ : ∃ q, q = wr := ⟨_, rfl⟩
                subst hwx
                obtain ⟨q, hq, rfl, hMx⟩ := hrel
                by_cases hql : q < W'.conf.length
                · have hqI : (q : Int) < (W'.conf.length : Int) := by omega
                  have hq0 : (0 : Int) ≤ (q : Int) := by omega
                  obtain ⟨x, hx⟩ : ∃ x, W'.conf[q]? = some x := ⟨_, List.getElem?_eq_getElem hql⟩
                  have hxm := List.mem_of_getElem? hx
                  obtain ⟨hs, -, -⟩ := HI.out.conf x hxm
                  have hx5 := (toNat_small hs).1
                  have q1 := hMx.cell (HCC.out q (.int .i64 x) (by rw [List.getElem?_map, hx]; rfl)) id
                  have q2 := hMx.cell (HCN.out x.toNat hx5) id
                  have c0x := hMx.cell HC0.out id
                  have c8x := hMx.cell HC8.out id
                  have hxa : 0 ≤ x := hs.1
                  have hxb : x < 5 := hs.2
                  have hWx := HW.out.quiet hMx
                  obtain ⟨N, hNs⟩ : ∃ N : Nat, (W'.node x.toNat).stable = N := ⟨(W'.node x.toNat).stable.toNat, by have := (hWx.node x.toNat hx5).st; omega⟩
                  have hNl : N ≤ (W'.node x.toNat).log.length := by have := (hWx.node x.toNat hx5).st; omega
                  have HIN : Hid (∀ wq, Mod noBlock wx wq → Calls Try.prog 11 #[.pointer (some ⟨V'.b x.toNat, 0, none⟩)] wq fun e w' => e = .returned (.bool (inN (W'.node x.toNat))) ∧ ∃ m, w' = wq.drewN m) := fun wq hq => in_any L _ _ _ _ wq ((hWx.quiet hq).node _ hx5)
                  have HST : Hid (∀ wq, Mod noBlock wx wq → Calls Try.prog 16 #[.pointer (some ⟨V'.b x.toNat, 0, none⟩)] wq fun e w' => e = .returned (.int .i64 (W'.node x.toNat).stable) ∧ w' = wq) := fun wq hq => cstable_any L _ _ _ _ wq ((hWx.quiet hq).node _ hx5)
                  have HLN : Hid (∀ wq, Mod noBlock wx wq → Calls Try.prog 17 #[.pointer (some ⟨V'.b x.toNat, 0, none⟩)] wq fun e w' => e = .returned (.int .i64 (W'.node x.toNat).log.length) ∧ w' = wq) := fun wq hq => clen_any L _ _ _ _ wq ((hWx.quiet hq).node _ hx5)
                  have HLG : Hid (∀ wq, Mod noBlock wx wq → Calls Try.prog 12 #[.pointer (some ⟨V'.b x.toNat, 0, none⟩)] wq fun e w' => ∃ b cap, e = .returned (.slice (some ⟨b, 0, none⟩) (W'.node x.toNat).log.length cap) ∧ RowC w' L (.slice (some ⟨b, 0, none⟩) (W'.node x.toNat).log.length cap) (W'.node x.toNat).log ∧ freshV wq (.slice (some ⟨b, 0, none⟩) (W'.node x.toNat).log.length cap) ∧ (W'.node x.toNat).log.length ≤ cap ∧ cap ≤ maxLen ∧ Mod noBlock wq w') := fun wq hq => clogS L _ _ _ _ wq ((hWx.quiet hq).node _ hx5)
                  have HSX : Hid (∀ wq, Mod noBlock wx wq → RowC wq L (.slice sa W'.stable.length scap) W'.stable) := fun wq hq => HSR.out.mod (hMx.trans hq) (Qm.none _ _) (fun _ _ => id)
                  have HP1 := Hid.mk' (HS.out.com x hxm)
                  have HP2 : Hid ((W'.node x.toNat).log.take N <+: W'.stable) := by have := HS.out.begins HI.out HJ.out hxm; rw [hNs, Int.toNat_natCast] at this; exact this
                  have HB1 : Hid (∀ c ∈ W'.stable, c.writes = []) := fun c hc => (HI.out.each _ hx5).bare c (HP1.out.subset hc)
                  have HB2 : Hid (∀ c ∈ (W'.node x.toNat).log.take N, c.writes = []) := fun c hc => (HI.out.each _ hx5).bare c (List.mem_of_mem_take hc)
                  rw [hNs] at HST
                  have HMX := Hid.mk' hMx
                  have HC8X := Hid.mk' c8x
                  have zgx := Nat.lt_of_lt_of_le zg hMx.size
                  clear hWx hMx hx hs hxm c0 c8 c7
                  go_upto_region 21 with fail
                  go_cut [99] (fun t wc => t = .bool false ∧ Mod noBlock wx wc)
                  case first =>
                    cases hin : inN (W'.node x.toNat) with
                    | false =>
                      rw [hin] at HIN
                      clear hin
                      go_quiet (first
                        | (go_at_call 11; refine Calls.quiet_of (HIN.out _ ((Mod.refl noBlock wx).drewN _)))
                        | fail)
                      go_wp2_with fail
                      go_meet
                      case rel => exact ⟨rfl, (Mod.refl noBlock wx).drewN _⟩
                    | true =>
                      rw [hin] at HIN
                      clear hin
                      go_region_with (first
                        | (go_at_call 11; refine (HIN.out _ ((Mod.refl noBlock wx).drew)).mono ?_; rintro e w5 ⟨rfl, m5, hw5⟩; have hM5 : Mod noBlock wx w5 := (by rw [hw5]; exact ((Mod.refl noBlock wx).drew).drewN _); have c85 := hM5.cell HC8X.out id; clear hw5)
                        | (go_at_call 12; refine (HLG.out _ hM5).mono ?_; rintro e w6 ⟨la6, lc6, rfl, hR6, -, -, -, hm6⟩; have hM6 : Mod noBlock wx w6 := hM5.trans hm6; have c86 := hM6.cell HC8X.out id)
                        | (go_at_call 14; refine (begins_bare L L _ _ _ _ _ HP1.out hR6 (HSX.out _ hM6) HB1.out).mono ?_; rintro e w9 ⟨rfl, hm9⟩; have hM9 : Mod noBlock wx w9 := hM6.trans hm9)
                        | fail)
                      all_goals
                        go_wp2_with fail
                        go_meet
                        case rel => exact ⟨rfl, hM9⟩
                  case rest =>
                    obtain ⟨rfl, hMc⟩ := hcut
                    have c0c := hMc.cell c0x id
                    have q2c := hMc.cell q2 id
                    have c8c := hMc.cell c8x id
                    have zgc := Nat.lt_of_lt_of_le zgx hMc.size
                    have HMC := Hid.mk' hMc
                    have HC8C := Hid.mk' c8c
                    have hN0 : (0 : Int) ≤ (N : Int) := by omega
                    have hmin : min (N : Int) ((W'.node x.toNat).log.length : Int) = N := by omega
                    clear c0x q1 q2 c8x hMc HIN
                    go_upto_region 24 with fail
                    go_cut [120] (fun t wd => t = .bool false ∧ Mod noBlock wx wd)
                    case first =>
                      go_region_with (first
                        | (go_at_call 12; refine (HLG.out _ (HMC.out.drew)).mono ?_; rintro e w6 ⟨bl, lc6, rfl, hR6, -, hl61, hl62, hm6⟩; have hM6 : Mod noBlock wx w6 := (HMC.out.drew).trans hm6; have c86 := hM6.cell HC8X.out id; have hcu := hR6.cut (k := N) hNl; have hNc : (N : Int) ≤ (lc6 : Int) := (by have := hcu.2; omega); unfold maxLen at hl62)
                        | (go_at_call 16; refine (HST.out _ hM6).mono ?_; rintro e w7 ⟨rfl, hw7⟩; subst hw7)
                        | (go_at_call 17; refine (HLN.out _ hM6).mono ?_; rintro e w7 ⟨rfl, hw7⟩; subst hw7)
                        | (go_at_call 14; refine (begins_bare L L _ _ _ _ _ HP2.out (HSX.out _ hM6) hcu.1 HB2.out).mono ?_; rintro e w9 ⟨rfl, hm9⟩; have hM9 : Mod noBlock wx w9 := hM6.trans hm9)
                        | fail)
                      all_goals
                        go_wp2_with fail
                        go_meet
                        case rel => exact ⟨rfl, hM9⟩
                    case rest =>
                      obtain ⟨rfl, hMd⟩ := hcut
                      have HMD := Hid.mk' (HMX.out.trans hMd)
                      clear c0c q2c c8c hMd
                      go_wp2_with fail
                      go_roundw
                      case rel => exact ⟨q + 1, by omega, by go_num, HMD.out⟩
                      case measure => simp [intOf]; omega
                · have HMX := Hid.mk' hMx
                  clear hMx c0 c7 c8
                  go_wp2_with fail
                  go_roundw
                  case rel => exact ⟨i + 1, V', W', by omega, by go_num, HW.out.quiet HMX.out, by have := HI.out; rw [show 10 + 1000 * (((i + 1 : Nat)) : Int) = 10 + 1000 * (i : Int) + 1000 by omega]; exact this, HS.out, HM.out.trans HMX.out⟩
                  case measure => simp [intOf]; omega
      · go_wp2_with fail
        go_ret
        exact ⟨rfl, hM⟩
end Go.Proofs.Ytefhgakcffhgaaa
