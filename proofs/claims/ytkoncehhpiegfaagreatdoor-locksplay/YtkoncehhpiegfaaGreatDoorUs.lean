/- The law LocksPlay. -/
import Derived.Test.YtkoncehhpiegfaaGreatDoorUt
namespace Go.Proofs.YtkoncehhpiegfaaGreatDoor
open Go.RowKit Go.Lib Go.Maps
set_option linter.unusedVariables false

set_option maxRecDepth 100000 in
set_option maxHeartbeats 40000000 in
theorem locksPlay_any (v : Value) (l : List HoldD) (w : World) (hv : HoldsV w w.heap.size v l) (hE : ET w) :
    Calls Tryz.prog 3 #[v] w fun e w' => e = .returned (.bool true) ∧ Mod noBlock w w' := by
  have HV := Hid.mkq hv
  have HE := Hid.mkq hE
  obtain ⟨a, cap, rfl, hc1, hc2⟩ := SlR.slice hv
  clear hv hE
  unfold maxLen at hc2
  by_cases hbig : (l.length : Int) > 120
  · have hd : decide ((l.length : Int) > 120) = true := decide_eq_true hbig
    go_enter Tryz.func3, Tryz.ntmps3
    go_wp2_with fail
    go_ret
    exact ⟨rfl, Mod.refl _ _⟩
  · have hd : decide ((l.length : Int) > 120) = false := decide_eq_false hbig
    have HI0 := Hid.mkq (BothP.start (w := w))
    obtain ⟨W, hW⟩ : ∃ x, x = w.alloc (.cells #[.map none] 25) := ⟨_, rfl⟩
    rw [← hW] at HI0
    obtain ⟨W2, hW2⟩ : ∃ x, x = W.alloc (.cells #[.slice none 0 0, .slice none 0 0] 29) := ⟨_, rfl⟩
    rw [← hW2] at HI0
    have HM0 : Hid (Mod noBlock w W) := by rw [hW]; exact (Mod.refl _ w).alloc _
    obtain ⟨tb, htb⟩ : ∃ x, x = w.heap.size := ⟨_, rfl⟩
    obtain ⟨b, hb⟩ : ∃ x, x = w.heap.size + 1 := ⟨_, rfl⟩
    rw [← hb, ← htb] at HI0
    have htw : w.heap.size ≤ tb := by omega
    go_enter Tryz.func3, Tryz.ntmps3
    go_upto_region 5 with fail
    rw [← hW]
    rw [← hW2]
    try rw [hW]
    try rw [World.size_alloc]
    try rw [← hW]
    rw [← hb, ← htb]
    clear hW hW2 htb hb
    go_wp2_with fail
    go_loopw [5] (fun i0 wr => ∃ (i : Nat) (s : Tab) (r : RefT), i ≤ l.length ∧ i0 = .int .i64 i ∧ BothP W wr tb b i s r) (fun i0 _ => l.length - (intOf i0).toNat)
    case atStart => exact ⟨0, bareT, ⟨[], []⟩, Nat.zero_le _, rfl, HI0.out⟩
    case round =>
      obtain ⟨i, s, r, hil, rfl, hI⟩ := hrel
      clear HI0
      obtain ⟨wo, hwo⟩ : ∃ x, x = wr := ⟨_, rfl⟩
      subst hwo
      have hMW := hI.tab.md
      have hmo : Mod noBlock w wo := HM0.out.trans' hMW (fun x hx e => by simp only [oneBlock] at e; omega)
      have HMO := Hid.mkq hmo
      have HI := Hid.mkq hI
      by_cases hlt : i < l.length
      · obtain ⟨x, hx⟩ : ∃ x, l[i]? = some x := ⟨_, List.getElem?_eq_getElem hlt⟩
        obtain ⟨lb, loff, rfl, hlL, hok, q0, q1, q2, q3⟩ := HoldsV.at HV.out hx
        have p0 := hmo.cell q0 id
        have p1 := hmo.cell q1 id
        have p2 := hmo.cell q2 id
        have p3 := hmo.cell q3 id
        have hz : lb < wo.heap.size := by have := hmo.size; omega
        have hiI : (i : Int) < (l.length : Int) := by omega
        have hi0 : (0 : Int) ≤ (i : Int) := by omega
        have hi120 : i ≤ 120 := by omega
        have HOK := Hid.mkq hok
        clear hI hMW hmo hx q0 q1 q2 q3 hok
        obtain ⟨wx, hwx⟩ : ∃ y, y = wo.alloc (.cells #[.int .i64 x.what, .int .i64 x.tx, .int .i64 x.mode, .string x.key] 31) := ⟨_, rfl⟩
        have hmx : Mod noBlock wo wx := by rw [hwx]; exact (Mod.refl _ wo).alloc _
        have hbx : askBlk wx wo.heap.size x := by rw [hwx]; exact Blk.new wo [.int .i64 x.what, .int .i64 x.tx, .int .i64 x.mode, .string x.key] 31
        obtain ⟨xb, hxb⟩ : ∃ y, y = wo.heap.size := ⟨_, rfl⟩
        rw [← hxb] at hbx
        have hxb2 : wo.heap.size ≤ xb := by omega
        have HMX := Hid.mkq hmx
        have HBX := Hid.mkq hbx
        go_upto_region 9 with fail
        rw [← hwx, ← hxb]
        have c0 := hbx.cell 0 rfl
        have c1 := hbx.cell 1 rfl
        have c2 := hbx.cell 2 rfl
        have c3 := hbx.cell 3 rfl
        have zx := hbx.lt
        clear hwx hxb hbx hmx p0 p1 p2 p3
        go_upto_block 2 with fail
        go_cut [] from 24 to 181 (fun wc => ∃ s' r', BothP W wc tb b (i + 1) s' r' ∧ askBlk wc xb x)
        case first =>
          by_cases hw0 : x.what = 0
          · have hg0 : (x.what == 0) = true := by simpa using hw0
            have HL2 := Hid.mkq (HI.out.lock2 HMX.out hxb2 HBX.out HOK.out (by omega))
            go_upto_region 11 with fail
            go_wp2_with fail
            refine HL2.out.mono ?_
            rintro e w3 ⟨ok, u, ws, er, rfl, hb3, hc3⟩
            have d1 := hb3.cell 1 rfl
            have d2 := hb3.cell 2 rfl
            have d3 := hb3.cell 3 rfl
            have z3 := hb3.lt
            have HC3 := Hid.mkq hc3
            clear hb3 hc3 HL2 c0 c1 c2 c3 zx
            go_upto_region 12 with fail
            go_wp2_with fail
            refine HC3.out.mono ?_
            rintro e w4 ⟨u2, rfl, hu2, hu, hb4, s2, r2, hB2⟩
            have HU2 := Hid.mkq hu2
            have HU := Hid.mkq hu
            have HB4 := Hid.mkq hb4
            have HB2 := Hid.mkq hB2
            have hE4 : ET w4 := HE.out.mod (HM0.out.trans' hB2.tab.md (fun x hx e => by simp only [oneBlock] at e; omega))
            have hbare : Calls Tryz.prog 6 #[errQ er, .int .i64 er] w4 fun ev w' => ev = .returned (.bool true) ∧ Mod noBlock w4 w' := by
              unfold errQ
              split
              · rename_i he
                refine (bare_nil er w4).mono ?_
                rintro e w' ⟨rfl, hm⟩
                exact ⟨by rw [he]; rfl, hm⟩
              · refine (bare_errno er er w4 hE4).mono ?_
                rintro e w' ⟨rfl, hm⟩
                exact ⟨by simp, hm⟩
            have HBA := Hid.mkq hbare
            clear hu2 hu hb4 hB2 hE4 hbare HC3 d1 d2 d3 z3 HI HBX
            have hokk : (ok == ok) = true := by simp
            go_upto_region 13 with fail
            go_wp2_with (first
              | (go_at_call 6
                 refine HBA.out.mono ?_
                 rintro e w5 ⟨rfl, hm5⟩
                 have HSM := Hid.mkq (sameQ_one _ _ u2 u ws w5 (HU2.out.mod hm5 (fun _ _ => id)) (HU.out.mod hm5 (fun _ _ => id)))
                 have HB5 := Hid.mkq (HB2.out.quiet hm5)
                 have HX5 := Hid.mkq (HB4.out.mod hm5 id)
                 clear hm5 HBA HU HU2 HB2 HB4)
              | (go_at_call 7
                 refine HSM.out.mono ?_
                 rintro e w6 ⟨rfl, hm6⟩
                 have HB6 := Hid.mkq (HB5.out.quiet hm6)
                 have HX6 := Hid.mkq (HX5.out.mod hm6 id)
                 clear hm6 HSM HB5 HX5)
              | fail)
            go_meet
            case rel => exact ⟨_, _, HB6.out, HX6.out⟩
          · have hg0 : (x.what == 0) = false := by simpa using hw0
            by_cases hw1 : x.what = 1
            · have hg1 : (x.what == 1) = true := by simpa using hw1
              have HL2 := Hid.mkq (HI.out.rel2 HMX.out hxb2 HBX.out (by omega))
              go_upto_region 16 with fail
              go_wp2_with fail
              refine HL2.out.mono ?_
              rintro e w3 ⟨u, os, rfl, hos, hb3, hc3⟩
              have d1 := hb3.cell 1 rfl
              have z3 := hb3.lt
              have HC3 := Hid.mkq hc3
              clear hb3 hc3 HL2 c0 c1 c2 c3 zx
              go_upto_region 17 with fail
              go_wp2_with fail
              refine HC3.out.mono ?_
              rintro e w4 ⟨u2, rfl, hu2, hu, hb4, s2, r2, hB2⟩
              obtain ⟨ga, gc, hga, _, _⟩ := SlR.slice hu2
              subst hga
              obtain ⟨ka, kc, hka, _, _⟩ := SlR.slice hu
              subst hka
              have HU2 := Hid.mkq hu2
              have HU := Hid.mkq hu
              have HB4 := Hid.mkq hb4
              have HB2 := Hid.mkq hB2
              clear hu2 hu hb4 hB2 HC3 d1 z3 HI HBX
              have hokk : ((os.length : Int) == (os.length : Int)) = true := by simp
              go_upto_block 3 with fail
              refine wp_mono (Q := pieceQ ?R2) (play3_any (R := ?R2) _ _ _ _ _ _ _ _ _ _ _ _ _ _ _ _ _ _ _ _ _ _ _ _ _ _ _ _ _ _ _ _ _ _ _ _ _ _ _ _ _ _ _ _ _ _ _ _ _ _ _ _ _ _ _ _ _ _ _ _ _ _ _ _ _ _ _ _ _ _ _ _ _ _ _ _ _ _ _ _ _ _ _ _ _ _ _ _ _ _ _ _ _ _ _ _ _ _ _ _ _ _ _ _ _ _ _ _ _ _ _ _ _ _ _ _ _ _ _ _ _ _ _ _ _ _ _ _ _ _ _ _ _ _ _ _ _ _ _ _ _ _ _ _ _ _ _ _ _ _ _ _ _ _ _ _ _ _ _ _ _ _ _ _ _ _ _ _ _ _ _ _ _ _ _ _ _ _ _ w4 _ _ ka ga kc gc os HU.out HU2.out (by omega) ?hN) ?hE
              case hE =>
                intro e a' wd hq
                cases e with
                | normal => exact hq
                | ret => exact hq.elim
                | exit id => exact hq.elim
                | goto l => exact hq.elim
                | panic ch => exact hq.elim
                | outgrown => exact hq.elim
              case hN =>
                intro y2 y15 y91 y92 y93 y94 y95 y96 y97 y98 y99 y100 y101 y102 y103 y104 y105 y106 y107 y108 y109 y110 y111 y112 y113 y114 y115 y116 y117 y118 y119 y120 y121 y122 y123 y124 y125 y126 y127 y128 y129 y130 y131 y132 y133 we hme
                have HB6 := Hid.mkq (HB2.out.quiet hme)
                have HX6 := Hid.mkq (HB4.out.mod hme id)
                clear hme HB2 HB4 HU HU2
                go_wp2_with fail
                go_meet
                case rel => exact ⟨_, _, HB6.out, HX6.out⟩
            · have hg1 : (x.what == 1) = false := by simpa using hw1
              have HB6 : Hid (BothP W wx tb b (i + 1) s r) := (HI.out.quiet HMX.out).more (by omega)
              go_wp2_with fail
              go_meet
              case rel => exact ⟨_, _, HB6.out, HBX.out⟩
        case rest =>
          obtain ⟨s', r', hB, hX⟩ := hcut
          obtain ⟨wk, hwk⟩ : ∃ y, y = wc := ⟨_, rfl⟩
          subst hwk
          have HB0 := Hid.mkq hB
          have HX0 := Hid.mkq hX
          have HKY := Hid.mkq (hB.keys2 (by omega))
          clear hB hX HI HBX HMX c0 c1 c2 c3 zx
          go_upto_region 25 with fail
          go_wp2_with fail
          refine HKY.out.mono ?_
          rintro e w1 ⟨ka, kc, ks, rfl, hk1, hkl, hm1, hc1'⟩
          have HK1 := Hid.mkq hk1
          have HM1 := Hid.mkq hm1
          have HC1 := Hid.mkq hc1'
          clear hk1 hm1 hc1' HKY
          go_upto_region 26 with fail
          go_wp2_with fail
          refine HC1.out.mono ?_
          rintro e w2 ⟨ga, gc, rfl, hk2, hm2⟩
          have HK2 := Hid.mkq hk2
          have HK1b := Hid.mkq (HK1.out.mod hm2 (fun _ _ => id))
          have HB3 := Hid.mkq (HB0.out.quiet (HM1.out.trans hm2))
          have HX3 := Hid.mkq (HX0.out.mod (HM1.out.trans hm2) id)
          obtain ⟨m, ws, hho, hhw, hwa, hwg⟩ := HB3.out.how2 (by omega) x.tx x.key HOK.out
          have HHO := Hid.mkq hho
          have HHW := Hid.mkq hhw
          have HWA := Hid.mkq hwa
          have HWG := Hid.mkq hwg
          clear hk2 hm2 hho hhw hwa hwg HC1 HK1 HB0 HX0 HM1
          go_upto_region 27 with fail
          refine wp_mono (Q := pieceQ ?R3) (play27_any (R := ?R3) _ _ _ _ _ _ _ _ _ _ _ _ _ _ _ _ _ _ _ _ _ _ _ _ _ _ _ _ _ _ _ _ _ _ _ _ _ _ _ _ _ _ _ _ _ _ _ _ _ _ _ _ _ _ _ _ _ _ _ _ _ _ _ _ _ _ _ _ _ _ _ _ _ _ _ _ _ _ _ _ _ _ _ _ _ _ _ _ _ _ _ _ _ _ _ _ _ _ _ _ _ _ _ _ _ _ _ _ _ _ _ _ _ _ _ _ _ _ _ _ _ _ _ _ _ _ _ _ _ _ _ _ _ _ _ _ _ _ _ _ _ _ _ _ _ _ _ _ _ _ _ _ _ _ _ _ _ _ _ _ _ _ _ _ _ _ _ _ _ _ _ _ _ _ _ _ _ w2 tb b xb x ka ga kc gc ks m ws HX3.out HHO.out HHW.out HWA.out HWG.out ?hN3) ?hE3
          case hE3 =>
            intro e a' wd hq
            cases e with
            | normal => exact hq
            | ret => exact hq.elim
            | exit id => exact hq.elim
            | goto l => exact hq.elim
            | panic ch => exact hq.elim
            | outgrown => exact hq.elim
          case hN3 =>
            intro z137 z138 z139 z140 z141 z142 z143 z144 z145 z146 z147 z148 z149 z150 z151 z152 z153 z154 z155 z156 z157 z158 z159 z160 z161 z162 z163 z164 z165 wa hma
            have HB7 := Hid.mkq (HB3.out.quiet hma)
            have HK7 := Hid.mkq (HK1b.out.mod hma (fun _ _ => id))
            have HK8 := Hid.mkq (HK2.out.mod hma (fun _ _ => id))
            clear hma HHO HHW HWA HWG HB3 HX3 HK1b HK2
            go_upto_block 5 with fail
            refine wp_mono (Q := pieceQ ?R4) (play5_any (R := ?R4) _ _ _ _ _ _ _ _ _ _ _ _ _ _ _ _ _ _ _ _ _ _ _ _ _ _ _ _ _ _ _ _ _ _ _ _ _ _ _ _ _ _ _ _ _ _ _ _ _ _ _ _ _ _ _ _ _ _ _ _ _ _ _ _ _ _ _ _ _ _ _ _ _ _ _ _ _ _ _ _ _ _ _ _ _ _ _ _ _ _ _ _ _ _ _ _ _ _ _ _ _ _ _ _ _ _ _ _ _ _ _ _ _ _ _ _ _ _ _ _ _ _ _ _ _ _ _ _ _ _ _ _ _ _ _ _ _ _ _ _ _ _ _ _ _ _ _ _ _ _ _ _ _ _ _ _ _ _ _ _ _ _ _ _ _ _ _ _ _ _ _ _ _ _ _ _ _ _ _ wa _ _ ka ga kc gc ks HK7.out HK8.out hkl ?hN4) ?hE4
            case hE4 =>
              intro e a' wd hq
              cases e with
              | normal => exact hq
              | ret => exact hq.elim
              | exit id => exact hq.elim
              | goto l => exact hq.elim
              | panic ch => exact hq.elim
              | outgrown => exact hq.elim
            case hN4 =>
              intro y2 y18 y167 y168 y169 y170 y171 y172 y173 y174 y175 y176 y177 y178 y179 y180 y181 we hme
              have HB9 := Hid.mkq (HB7.out.quiet hme)
              clear hme HB7 HK7 HK8
              go_wp2_with fail
              go_roundw
              case rel => exact ⟨i + 1, _, _, by omega, by go_num, HB9.out⟩
              case measure => simp [intOf]; omega
      · clear hMW hI hmo HI
        go_wp2_with fail
        go_ret
        exact ⟨rfl, HMO.out⟩
end Go.Proofs.YtkoncehhpiegfaaGreatDoor
