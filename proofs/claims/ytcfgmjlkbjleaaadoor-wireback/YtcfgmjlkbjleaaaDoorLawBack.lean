/- The law WireBack, walked. -/
import Derived.Test.YtcfgmjlkbjleaaaDoorBk
import Derived.Test.YtcfgmjlkbjleaaaDoorLawLogs
namespace Go.Proofs.YtcfgmjlkbjleaaaDoor
open Go.RowKit Go.Lib

theorem pick_any (a : Int) (n : Nat) (w : World) (hn : 0 < n) (hm : (n : Int) ≤ 9223372036854775807) :
    Calls Tryd.prog 25 #[.int .i64 a, .int .i64 n] w fun e w' => ∃ k : Nat, e = .returned (.int .i64 k) ∧ k < n ∧ w' = w := by
  have hw : IntKind.u64.wrap (n : Int) = n := by rw [IntKind.wrap_u64]; omega
  have h0 : 0 ≤ IntKind.u64.wrap a := wrap_u64_nonneg a
  have hnz : ((n : Int) == 0) = false := by simp; omega
  have hk : ∃ k : Nat, k < n ∧ wrap64 (IntKind.u64.wrap a % n) = k := by
    have h1 := Int.emod_nonneg (IntKind.u64.wrap a) (show (n : Int) ≠ 0 by omega)
    have h2 := Int.emod_lt_of_pos (IntKind.u64.wrap a) (show (0 : Int) < n by omega)
    refine ⟨(IntKind.u64.wrap a % n).toNat, by omega, ?_⟩
    rw [IntWalk.wrap64_in _ ⟨by omega, by omega⟩]; omega
  obtain ⟨k, hk1, hk2⟩ := hk
  go_enter Tryd.func25, Tryd.ntmps25
  go_wp2_with fail
  go_ret
  exact ⟨k, ret_int hk2, hk1, rfl⟩

def m300 : MsgD := ⟨3, 1, 2, 3, 300, ⟨3, 4, 5, []⟩⟩
theorem ok300 : okMsg m300 := by
  refine ⟨by decide, by decide, ⟨by decide, by decide⟩, ⟨by decide, by decide⟩, ⟨by decide, by decide⟩, ⟨by decide, by decide⟩, fun _ => ⟨by decide, by decide, ⟨by decide, by decide⟩, ⟨by decide, by decide⟩, by decide, fun p hp => by simp [m300] at hp⟩⟩
theorem ints300 : intsM m300 := ints_ok m300 ok300 ⟨fun p hp => by simp [m300] at hp, fun h => absurd rfl h⟩
theorem v300 : vMsg m300 = (mbytes m300, 0) := by
  have k := vMsg_ok m300
  have e := k.1.2 ok300
  exact Prod.ext (k.2 e) e
theorem r300 : pReadMsg (mbytes m300) = some m300 := read_back m300 ok300

set_option maxRecDepth 100000 in
set_option maxHeartbeats 1000000 in
theorem wired_any (w : World) : Calls Tryd.prog 24 #[] w fun e w' => e = .returned (.bool true) ∧ Mod noBlock w w' := by
  have X1 := wMsg_any 0 m300 (.slice none 0 0) w (Nat.zero_le _) ⟨none, 0, rfl, Nat.le_refl _, Nat.zero_le _, .inl rfl⟩ (by simp [m300]) ints300
  rw [v300] at X1
  have HX1 := Hid.mk' X1
  clear X1
  go_enter Tryd.func24, Tryd.ntmps24
  go_wp2_with fail
  refine HX1.out.mono ?_
  rintro e w1 ⟨v1, rfl, hown1, hm1⟩
  have X2 := readMsg_any (mbytes m300) v1 w1 (bytes_own hown1 (mbytes_byt _ ok300))
  rw [r300] at X2
  have HX2 := Hid.mk' X2
  clear X2 HX1 hown1
  have hw0 : werr 0 = .nilIface := by simp [werr]
  rw [hw0]
  go_wp2_with fail
  refine HX2.out.mono ?_
  rintro e w2 ⟨v2, rfl, hown2, hm2⟩
  simp only [Option.getD_some, msgV, errV, Option.isSome_some, if_true, m300]
  obtain ⟨va, vc, rfl⟩ := own_slice hown2
  go_wp2_with fail
  go_ret
  exact ⟨rfl, ((hm1.trans hm2).alloc _)⟩
theorem bat_up {w : World} {L L' : Nat} {v : Value} {bs : List Int} (h : BAt w L v bs) (hL : L ≤ L') : BAt w L' v bs := by
  obtain ⟨h0, a, cap, h1, h2, h3, h4⟩ := h
  refine ⟨h0, a, cap, h1, h2, h3, ?_⟩
  rcases h4 with h4 | ⟨b, off, h5, h6, h7⟩
  · exact .inl h4
  · exact .inr ⟨b, off, h5, Nat.lt_of_lt_of_le h6 hL, h7⟩
theorem BAt.take {w : World} {L : Nat} {a : Option Addr} {n cap : Nat} {bs : List Int} (h : BAt w L (.slice a n cap) bs) (k : Nat) (hk : k ≤ bs.length) : BAt w L (.slice a k cap) (bs.take k) := by
  obtain ⟨h0, a', cap', h1, h2, h3, h4⟩ := h
  simp only [Value.slice.injEq] at h1
  obtain ⟨rfl, _, rfl⟩ := h1
  refine ⟨fun x hx => h0 x (List.mem_of_mem_take hx), a, cap, by rw [List.length_take, Nat.min_eq_left hk], by rw [List.length_take]; omega, h3, ?_⟩
  rcases h4 with h4 | ⟨b, off, h5, h6, h7⟩
  · left; rw [h4]; simp
  · refine .inr ⟨b, off, h5, h6, fun j hj => ?_⟩
    rw [List.length_take] at hj
    rw [h7 j (by omega)]
    simp [List.getD_eq_getElem?_getD, show j < k by omega]

set_option maxRecDepth 100000 in
set_option maxHeartbeats 2000000 in
theorem wireBack_any (m : MsgD) (cs : List CmdD) (cut : Int) (v vl : Value) (w : World) (hv : PairsR w w.heap.size v m.cmd.writes) (hvl : CmdsR w w.heap.size vl cs) (hi : intsM m) (hic : ∀ c ∈ cs, intsC c) (het : ET w) :
    Calls Tryd.prog 6 #[.agg #[.int .i64 m.kind, .int .i64 m.frm, .int .i64 m.to, .int .i64 m.epoch, .int .i64 m.n, .int .i64 m.cmd.kind, .int .i64 m.cmd.tx, .int .i64 m.cmd.time, v], vl, .int .i64 cut] w fun e w' => e = .returned (.bool true) ∧ Mod noBlock w w' := by
  have hv0 := hv
  obtain ⟨a, cap, rfl, hpc, hcm, hcells⟩ := hv0
  have hvl0 := hvl
  obtain ⟨al, capl, rfl, hpcl, hcml, hcellsl⟩ := hvl0
  clear hcells hcellsl
  unfold maxLen at hcm hcml
  have HV := Hid.mk' hv
  have HVL := Hid.mk' hvl
  have HI := Hid.mk' hi
  have HIC := Hid.mk' hic
  have HET := Hid.mk' het
  clear hv hvl hi hic het
  have hB1 := Blk.new w [.int .i64 m.kind, .int .i64 m.frm, .int .i64 m.to, .int .i64 m.epoch, .int .i64 m.n, .int .i64 m.cmd.kind, .int .i64 m.cmd.tx, .int .i64 m.cmd.time, .slice a m.cmd.writes.length cap] 26
  have hM1 := (Mod.refl noBlock w).alloc (.cells #[.int .i64 m.kind, .int .i64 m.frm, .int .i64 m.to, .int .i64 m.epoch, .int .i64 m.n, .int .i64 m.cmd.kind, .int .i64 m.cmd.tx, .int .i64 m.cmd.time, .slice a m.cmd.writes.length cap] 26)
  go_enter Tryd.func6, Tryd.ntmps6
  by_cases h30 : 30 < m.cmd.writes.length
  · have hd : decide (30 < (m.cmd.writes.length : Int)) = true := by simp; omega
    go_wp2_with fail
    go_ret
    exact ⟨rfl, hM1⟩
  have hd : decide (30 < (m.cmd.writes.length : Int)) = false := by simp; omega
  by_cases h31 : 30 < cs.length
  · have hdl : decide (30 < (cs.length : Int)) = true := by simp; omega
    go_wp2_with fail
    go_ret
    exact ⟨rfl, hM1⟩
  have hdl : decide (30 < (cs.length : Int)) = false := by simp; omega
  go_wp2_with fail
  go_loopw [7] (fun i wr => ∃ k : Nat, k ≤ cs.length ∧ i = .int .i64 k ∧ (∀ c ∈ cs.take k, c.writes.length ≤ 30) ∧ Blk wr w.heap.size [.int .i64 m.kind, .int .i64 m.frm, .int .i64 m.to, .int .i64 m.epoch, .int .i64 m.n, .int .i64 m.cmd.kind, .int .i64 m.cmd.tx, .int .i64 m.cmd.time, .slice a m.cmd.writes.length cap] 26 ∧ Mod noBlock w wr) (fun i _ => cs.length - (intOf i).toNat)
  case atStart => exact ⟨0, Nat.zero_le _, rfl, by simp, hB1, hM1⟩
  case round =>
    obtain ⟨k, hk, rfl, hfew, hB, hM⟩ := hrel
    have hvr := HVL.out.mod hM (fun _ _ => id)
    have HFE := Hid.mk' hfew
    clear hfew hB1 hM1
    by_cases hlt : k < cs.length
    · obtain ⟨a', cap', ha', _, _, hcl⟩ := hvr
      simp only [Value.slice.injEq] at ha'
      obtain ⟨rfl, _, rfl⟩ := ha'
      rcases hcl with rfl | ⟨b, off, rfl, hbL, hcl⟩
      · simp at hlt
      obtain ⟨c, hc⟩ : ∃ c, cs[k]? = some c := ⟨_, List.getElem?_eq_getElem hlt⟩
      obtain ⟨u, q0, q1, q2, q3, hu⟩ := hcl k c hc
      obtain ⟨ua, ucap, rfl, h1, h2, _⟩ := hu
      unfold maxLen at h2
      have HT : Hid (cs.take (k + 1) = cs.take k ++ [c]) := by
        rw [Hid, List.take_succ_eq_append_getElem hlt]
        rw [List.getElem?_eq_getElem hlt] at hc
        simp at hc; rw [hc]
      clear hcl hc
      by_cases h30 : 30 < c.writes.length
      · have hd3 : decide (30 < (c.writes.length : Int)) = true := by simp; omega
        go_wp2_with fail
        go_ret
        exact ⟨rfl, hM⟩
      · have hd3 : decide (30 < (c.writes.length : Int)) = false := by simp; omega
        go_wp2_with fail
        go_roundw
        case rel =>
          refine ⟨k + 1, by omega, by go_num, ?_, hB, hM⟩
          rw [HT.out]
          intro c' hc'
          rcases List.mem_append.1 hc' with h | h
          · exact HFE.out c' h
          · simp at h; subst h; omega
        case measure => simp [intOf]; omega
    · have hkn : k = cs.length := by omega
      subst hkn
      rw [List.take_length] at HFE
      have HW := Hid.mk' (wired_any wr)
      clear hvr
      go_wp2_with fail
      refine HW.out.mono ?_
      rintro e w1 ⟨rfl, hm1⟩
      have hM1 := hM.trans hm1
      have hB1 := hB.mod hm1 id
      clear HW hB hM hm1
      obtain ⟨⟨x0, x1, x2, x3, x4, x5, x6, x7, x8⟩, _⟩ := blk9 hB1
      have X1 := Hid.mk' (wMsg_any w.heap.size m _ w1 hM1.size (HV.out.mod hM1 (fun _ _ => id)) (by omega) HI.out)
      go_wp2_with fail
      refine X1.out.mono ?_
      rintro e w2 ⟨v2, rfl, hown2, hm2⟩
      have hM2 := hM1.trans hm2
      clear X1 hB1 hM1 hm2 x0 x1 x2 x3 x4 x5 x6 x7 x8
      have HO2 := Hid.mk' hown2
      clear hown2
      obtain ⟨okb, hokb⟩ : ∃ okb : Bool, okb = true ↔ (vMsg m).2 = 0 := ⟨decide ((vMsg m).2 = 0), by simp⟩
      obtain ⟨ev, hev⟩ : ∃ ev, ev = werr (vMsg m).2 := ⟨_, rfl⟩
      rw [← hev]
      have HEV : Hid (ev = if okb then .nilIface else .iface 29 (.int .i64 (vMsg m).2)) := by
        rw [Hid, hev, werr]
        by_cases h : (vMsg m).2 = 0
        · rw [if_pos h, if_pos (hokb.2 h)]
        · rw [if_neg h, if_neg (fun x => h (hokb.1 x))]
      have HOKB := Hid.mk' hokb
      clear hev hokb
      go_upto_region 11 with fail
      go_cut [55] (fun t wc => t = .bool okb ∧ wc = w2)
      case first =>
        cases okb with
        | true =>
          have h := HEV.out
          simp only [if_true] at h
          subst h
          go_wp2_with fail
          go_meet
          case rel => exact ⟨rfl, rfl⟩
        | false =>
          have h := HEV.out
          simp only [Bool.false_eq_true, if_false] at h
          subst h
          go_wp2_with fail
          go_meet
          case rel => exact ⟨rfl, rfl⟩
      case rest =>
        obtain ⟨rfl, rfl⟩ := hcut
        go_upto_if 55 with fail
        go_cut [] (fun wc => Mod noBlock w wc)
        case first =>
          cases okb with
          | false =>
            go_wp2_with fail
            go_meet
            case rel => exact hM2
          | true =>
            have hok : okMsg m := (vMsg_ok m).1.1 (HOKB.out.1 rfl)
            have HBY : Hid (Byt (mbytes m)) := mbytes_byt m hok
            have hpos := mbytes_pos m
            have HE : Hid ((vMsg m).1 = mbytes m) := (vMsg_ok m).2 (HOKB.out.1 rfl)
            rw [HE.out] at HO2
            have HRB : Hid (pReadMsg (mbytes m) = some (cleanM m)) := read_back m hok
            have HRS : Hid (∀ k, k < (mbytes m).length → pReadMsg ((mbytes m).take k) = none) := fun k hk => read_short m hok k hk
            have HVC : Hid (vMsg (cleanM m) = (mbytes m, 0)) := vMsg_clean m hok
            have HIX : Hid (intsM (cleanM m)) := ints_ok _ (ok_cleanM m hok).1 (ok_cleanM m hok).2
            have hfx : (cleanM m).cmd.writes.length ≤ 20 := few_ok _ (ok_cleanM m hok).1 (ok_cleanM m hok).2
            obtain ⟨x, hx⟩ : ∃ x, x = cleanM m := ⟨_, rfl⟩
            obtain ⟨bs, hbs⟩ : ∃ bs, bs = mbytes m := ⟨_, rfl⟩
            rw [← hx] at HRB HVC HIX hfx
            rw [← hbs] at HO2 HBY HRB HRS HVC hpos
            clear hok HE HEV HOKB hx hbs
            have h2b := bytes_own HO2.out HBY.out
            have X2 := readMsg_any bs v2 wc h2b
            rw [HRB.out] at X2
            have HX2 := Hid.mk' X2
            clear X2
            go_wp2_with fail
            refine HX2.out.mono ?_
            rintro e w3 ⟨v3, rfl, hown3, hm3⟩
            simp only [Option.getD_some, msgV, errV, Option.isSome_some, if_true]
            have HO3 := Hid.mk' (HO2.out)
            have hP3 := PairsR.of_own hown3 (Nat.le_refl _)
            obtain ⟨va, vc, rfl⟩ := own_slice hown3
            have hB3 := Blk.new w3 [.int .i64 x.kind, .int .i64 x.frm, .int .i64 x.to, .int .i64 x.epoch, .int .i64 x.n, .int .i64 x.cmd.kind, .int .i64 x.cmd.tx, .int .i64 x.cmd.time, .slice va x.cmd.writes.length vc] 26
            have hM3 := (hM2.trans hm3).alloc (.cells #[.int .i64 x.kind, .int .i64 x.frm, .int .i64 x.to, .int .i64 x.epoch, .int .i64 x.n, .int .i64 x.cmd.kind, .int .i64 x.cmd.tx, .int .i64 x.cmd.time, .slice va x.cmd.writes.length vc] 26)
            have hm3a := hm3.alloc (.cells #[.int .i64 x.kind, .int .i64 x.frm, .int .i64 x.to, .int .i64 x.epoch, .int .i64 x.n, .int .i64 x.cmd.kind, .int .i64 x.cmd.tx, .int .i64 x.cmd.time, .slice va x.cmd.writes.length vc] 26)
            have X3 := wMsg_any w3.heap.size x (.slice va x.cmd.writes.length vc) _ (by rw [World.size_alloc]; omega) (hP3.mod ((Mod.refl noBlock w3).alloc (.cells #[.int .i64 x.kind, .int .i64 x.frm, .int .i64 x.to, .int .i64 x.epoch, .int .i64 x.n, .int .i64 x.cmd.kind, .int .i64 x.cmd.tx, .int .i64 x.cmd.time, .slice va x.cmd.writes.length vc] 26)) (fun _ _ => id)) (by omega) HIX.out
            rw [HVC.out] at X3
            have HX3 := Hid.mk' X3
            clear X3 HX2 hown3 hP3 hm3
            go_wp2_with fail
            refine HX3.out.mono ?_
            rintro e w4 ⟨v4, rfl, hown4, hm4⟩
            have hw0 : werr 0 = .nilIface := by simp [werr]
            rw [hw0]
            have HO4 := Hid.mk' hown4
            have hM4 := hM3.trans hm4
            have hm24 := hm3a.trans hm4
            have hlen2 := HO2.out
            obtain ⟨va2, vc2, rfl⟩ := own_slice hlen2
            have hbm : (bs.length : Int) ≤ 9223372036854775807 := by
              obtain ⟨_, a', cap', h1, h2, h3, _⟩ := h2b
              unfold maxLen at h3; omega
            have hcap2 : bs.length ≤ vc2 := by
              obtain ⟨_, a', cap', h1, h2, h3, _⟩ := h2b
              simp only [Value.slice.injEq] at h1; omega
            have HP := Hid.mk' (pick_any cut bs.length w4 hpos hbm)
            have HBT := Hid.mk' (h2b.mod hm24 (fun _ _ => id))
            clear hown4 hlen2 HX3 hB3 hm4 hm3a
            go_wp2_with fail
            refine HP.out.mono ?_
            rintro e w5 ⟨k, rfl, hk, rfl⟩
            have hk1 : (k : Int) ≤ (vc2 : Int) := by omega
            have X5 := readMsg_any (bs.take k) (.slice va2 k vc2) w5 (BAt.take (bat_up HBT.out (by have := hm24.size; omega)) k (by omega))
            rw [HRS.out k hk] at X5
            have HX5 := Hid.mk' X5
            clear X5 HP
            go_wp2_with fail
            refine HX5.out.mono ?_
            rintro e w6 ⟨v6, rfl, hown6, hm6⟩
            simp only [Option.getD_none, msgV, errV, Option.isSome_none, Bool.false_eq_true, if_false]
            obtain ⟨va6, vc6, rfl⟩ := own_slice hown6
            obtain ⟨z0, hz0⟩ : ∃ z, z = zeroMsg := ⟨_, rfl⟩
            rw [← hz0]
            have C4 := fun (o : Obj) => conv_bat (bytes_own (own_mod HO4.out (hm6.alloc o) (fun _ _ _ _ => id)) HBY.out)
            have C2 := fun (o : Obj) => conv_bat (BAt.mod HBT.out (hm6.alloc o) (fun _ _ => id))
            have HM6 := Hid.mk' (hM4.trans hm6)
            clear hown6 HX5 hz0 hm6
            go_wp2_with fail
            refine (tell_errno 3 _ (HET.out.mod (HM6.out.alloc _))).mono ?_
            rintro e w7 ⟨rfl, hm7⟩
            have hM7 := (HM6.out.alloc _).trans hm7
            clear C4 C2 hm7
            go_wp2_with fail
            go_meet
            case rel => exact hM7
        case rest =>
          have hM1 : Mod noBlock w wc := hcut
          clear hM2 hcut HO2 HEV HOKB
          have X1 := Hid.mk' (wLog_any w.heap.size cs _ wc hM1.size (HVL.out.mod hM1 (fun _ _ => id)) (fun c hc => Nat.le_trans (HFE.out c hc) (by omega)) HIC.out)
          go_wp2_with fail
          refine X1.out.mono ?_
          rintro e w2 ⟨v2, rfl, hown2, hm2⟩
          have hM2 := hM1.trans hm2
          have HO2 := Hid.mk' hown2
          clear X1 hM1 hm2 hown2
          obtain ⟨okb, hokb⟩ : ∃ okb : Bool, okb = true ↔ (vLog cs).2 = 0 := ⟨decide ((vLog cs).2 = 0), by simp⟩
          obtain ⟨ev, hev⟩ : ∃ ev, ev = werr (vLog cs).2 := ⟨_, rfl⟩
          rw [← hev]
          have HEV : Hid (ev = if okb then .nilIface else .iface 29 (.int .i64 (vLog cs).2)) := by
            rw [Hid, hev, werr]
            by_cases h : (vLog cs).2 = 0
            · rw [if_pos h, if_pos (hokb.2 h)]
            · rw [if_neg h, if_neg (fun x => h (hokb.1 x))]
          have HOKB := Hid.mk' hokb
          clear hev hokb
          go_upto_region 18 with fail
          go_cut [100] (fun t wc => t = .bool okb ∧ wc = w2)
          case first =>
            cases okb with
            | true =>
              have h := HEV.out
              simp only [if_true] at h
              subst h
              go_wp2_with fail
              go_meet
              case rel => exact ⟨rfl, rfl⟩
            | false =>
              have h := HEV.out
              simp only [Bool.false_eq_true, if_false] at h
              subst h
              go_wp2_with fail
              go_meet
              case rel => exact ⟨rfl, rfl⟩
          case rest =>
            obtain ⟨rfl, rfl⟩ := hcut
            go_upto_if 100 with fail
            cases okb with
            | false =>
              go_wp2_with fail
              go_ret
              exact ⟨rfl, hM2⟩
            | true =>
              have hok : okLog cs := (vLog_ok cs).1.1 (HOKB.out.1 rfl)
              have HBY : Hid (Byt (lbytes cs)) := lbytes_byt cs hok
              have hpos := lbytes_pos cs
              have HE : Hid ((vLog cs).1 = lbytes cs) := (vLog_ok cs).2 (HOKB.out.1 rfl)
              rw [HE.out] at HO2
              have HRB : Hid (pReadLog (lbytes cs) = some (cs.map cleanC)) := readl_back cs hok
              have HRS : Hid (∀ k, k < (lbytes cs).length → pReadLog ((lbytes cs).take k) = none) := fun k hk => readl_short cs hok k hk
              have HVC : Hid (vLog (cs.map cleanC) = (lbytes cs, 0)) := vLog_clean cs hok
              have HIX : Hid (∀ c ∈ cs.map cleanC, intsC c ∧ c.writes.length ≤ 1000000) := fun c hc => by
                have h1 := (ok_cleanL cs hok).1.2 c hc
                exact ⟨ints_okC c h1, by have := h1.2.2.2.2.1; omega⟩
              obtain ⟨x, hx⟩ : ∃ x, x = cs.map cleanC := ⟨_, rfl⟩
              obtain ⟨bs, hbs⟩ : ∃ bs, bs = lbytes cs := ⟨_, rfl⟩
              rw [← hx] at HRB HVC HIX
              rw [← hbs] at HO2 HBY HRB HRS HVC hpos
              clear hok HE HEV HOKB hx hbs
              have h2b := bytes_own HO2.out HBY.out
              have X2 := readLog_any bs v2 wc h2b
              rw [HRB.out] at X2
              have HX2 := Hid.mk' X2
              clear X2
              go_wp2_with fail
              refine HX2.out.mono ?_
              rintro e w3 ⟨v3, rfl, hat3, hm3⟩
              simp only [Option.getD_some, errV, Option.isSome_some, if_true] at hat3 ⊢
              have hC3 := CmdsR.of_at hat3 (Nat.le_refl _)
              have hM3 := hM2.trans hm3
              have X3 := wLog_any w3.heap.size x v3 w3 (Nat.le_refl _) hC3 (fun c hc => (HIX.out c hc).2) (fun c hc => (HIX.out c hc).1)
              rw [HVC.out] at X3
              have HX3 := Hid.mk' X3
              clear X3 HX2 hat3 hC3
              go_wp2_with fail
              refine HX3.out.mono ?_
              rintro e w4 ⟨v4, rfl, hown4, hm4⟩
              have hw0 : werr 0 = .nilIface := by simp [werr]
              rw [hw0]
              have HO4 := Hid.mk' hown4
              have hM4 := hM3.trans hm4
              have hm24 := hm3.trans hm4
              have hlen2 := HO2.out
              obtain ⟨va2, vc2, rfl⟩ := own_slice hlen2
              have hbm : (bs.length : Int) ≤ 9223372036854775807 := by
                obtain ⟨_, a', cap', h1, h2, h3, _⟩ := h2b
                unfold maxLen at h3; omega
              have hcap2 : bs.length ≤ vc2 := by
                obtain ⟨_, a', cap', h1, h2, h3, _⟩ := h2b
                simp only [Value.slice.injEq] at h1; omega
              have HP := Hid.mk' (pick_any cut bs.length w4 hpos hbm)
              have HBT := Hid.mk' (h2b.mod hm24 (fun _ _ => id))
              clear hown4 hlen2 HX3 hm4 hm3
              go_wp2_with fail
              refine HP.out.mono ?_
              rintro e w5 ⟨k, rfl, hk, rfl⟩
              have hk1 : (k : Int) ≤ (vc2 : Int) := by omega
              have X5 := readLog_any (bs.take k) (.slice va2 k vc2) w5 (BAt.take (bat_up HBT.out (by have := hm24.size; omega)) k (by omega))
              rw [HRS.out k hk] at X5
              have HX5 := Hid.mk' X5
              clear X5 HP
              go_wp2_with fail
              refine HX5.out.mono ?_
              rintro e w6 ⟨v6, rfl, hat6, hm6⟩
              simp only [errV, Option.isSome_none, Bool.false_eq_true, if_false]
              have C4 := conv_bat (bytes_own (own_mod HO4.out hm6 (fun _ _ _ _ => id)) HBY.out)
              have C2 := conv_bat (BAt.mod HBT.out hm6 (fun _ _ => id))
              have HM6 := Hid.mk' (hM4.trans hm6)
              clear hat6 HX5 hm6
              go_wp2_with fail
              refine (tell_errno 3 _ (HET.out.mod HM6.out)).mono ?_
              rintro e w7 ⟨rfl, hm7⟩
              have hM7 := HM6.out.trans hm7
              clear C4 C2 hm7
              go_wp2_with fail
              go_ret
              exact ⟨rfl, hM7⟩
end Go.Proofs.YtcfgmjlkbjleaaaDoor
