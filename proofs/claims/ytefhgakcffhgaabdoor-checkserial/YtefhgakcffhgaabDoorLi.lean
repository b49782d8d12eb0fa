/- The law CheckSerial. -/
import Derived.Test.YtefhgakcffhgaabDoorLg
import Derived.Test.YtefhgakcffhgaabDoorLh
import Derived.Test.YtefhgakcffhgaabDoorEr2
namespace Go.Proofs.YtefhgakcffhgaabDoor
open Go.RowKit Go.Lib Go.Maps
set_option linter.unusedVariables false

/-- What makes a history too great, as far as it is looked through. -/
def GreatB (ts : List TxD) (i : Nat) (g : Bool) : Prop := g = true ↔ 8 < ts.length ∨ ∃ (j : Nat) (t : TxD), j < i ∧ ts[j]? = some t ∧ 40 < t.ops.length
theorem GreatB.more {ts : List TxD} {i : Nat} {t : TxD} {g : Bool} (h : GreatB ts i g) (ht : ts[i]? = some t) : GreatB ts (i + 1) (g || decide (40 < t.ops.length)) := by
  unfold GreatB at *
  rw [Bool.or_eq_true, h]
  constructor
  · rintro ((h1 | ⟨j, u, h1, h2, h3⟩) | h1)
    · exact .inl h1
    · exact .inr ⟨j, u, by omega, h2, h3⟩
    · exact .inr ⟨i, t, by omega, ht, of_decide_eq_true h1⟩
  · rintro (h1 | ⟨j, u, h1, h2, h3⟩)
    · exact .inl (.inl h1)
    · by_cases e : j = i
      · subst e
        rw [ht] at h2
        cases h2
        exact .inr (decide_eq_true h3)
      · exact .inl (.inr ⟨j, u, by omega, h2, h3⟩)
theorem GreatB.yes {ts : List TxD} (h : GreatB ts ts.length true) : 8 < ts.length ∨ ∃ t ∈ ts, 40 < t.ops.length := (h.1 rfl).imp id (fun ⟨j, t, _, h2, h3⟩ => ⟨t, List.mem_of_getElem? h2, h3⟩)
theorem GreatB.no {ts : List TxD} (h : GreatB ts ts.length false) : ts.length ≤ 8 ∧ ∀ t ∈ ts, t.ops.length ≤ 40 := by
  have hn : ¬ (8 < ts.length ∨ ∃ (j : Nat) (t : TxD), j < ts.length ∧ ts[j]? = some t ∧ 40 < t.ops.length) := fun e => by have := h.2 e; cases this
  refine ⟨Nat.le_of_not_lt (fun e => hn (.inl e)), fun t hm => Nat.le_of_not_lt (fun e => ?_)⟩
  obtain ⟨j, hj, e2⟩ := List.getElem_of_mem hm
  exact hn (.inr ⟨j, t, hj, by rw [List.getElem?_eq_getElem hj, e2], e⟩)
set_option maxRecDepth 100000 in
set_option maxHeartbeats 8000000 in
theorem checkSerial_any (tv : Value) (ts : List TxD) (w : World) (ht : TxsV w w.heap.size tv ts) (het : ET w) :
    Calls Tryd.prog 3 #[tv] w fun e w' => e = .returned (.bool true) ∧ Mod noBlock w w' := by
  have HT := Hid.mk' ht
  have HE := Hid.mk' het
  obtain ⟨a, cap, rfl, hc1, hc2⟩ := SlR.slice ht
  unfold maxLen at hc2
  clear ht het
  rcases Nat.lt_or_ge 20 ts.length with h20 | h20
  · have hd : decide ((ts.length : Int) > 20) = true := decide_eq_true (by omega)
    go_enter Tryd.func3, Tryd.ntmps3
    go_wp2_with fail
    go_ret
    exact ⟨rfl, Mod.refl _ _⟩
  have hd : decide ((ts.length : Int) > 20) = false := decide_eq_false (by omega)
  go_enter Tryd.func3, Tryd.ntmps3
  go_wp2_with fail
  go_loopw [3, 4] (fun g0 i0 wr => ∃ (i : Nat) (g : Bool), i ≤ ts.length ∧ i0 = .int .i64 i ∧ g0 = .bool g ∧ GreatB ts i g ∧ wr = w) (fun _ i0 _ => ts.length - (intOf i0).toNat)
  case atStart =>
    refine ⟨0, decide ((ts.length : Int) > 8), Nat.zero_le _, rfl, rfl, ?_, rfl⟩
    unfold GreatB
    rw [decide_eq_true_iff]
    constructor
    · intro h; exact .inl (by omega)
    · rintro (h | ⟨j, t, h, _⟩) <;> omega
  case round =>
    obtain ⟨i, g, hi, rfl, rfl, hG, rfl⟩ := hrel
    have HG := Hid.mk' hG
    clear hG
    by_cases hlt : i < ts.length
    · obtain ⟨t, ht⟩ : ∃ t, ts[i]? = some t := ⟨_, List.getElem?_eq_getElem hlt⟩
      have HM := Hid.mk' (HG.out.more ht)
      have hltI : (i : Int) < (ts.length : Int) := by omega
      have hlt0 : (0 : Int) ≤ (i : Int) := by omega
      cases g with
      | true =>
        clear ht
        go_wp2_with fail
        go_roundw
        case rel => exact ⟨i + 1, true, by omega, by go_num, rfl, HM.out, by trivial⟩
        case measure => simp [intOf]; omega
      | false =>
        obtain ⟨b, off, opv, rfl, hbL, hopv, hints, q0, q1, q2⟩ := HT.out.at ht
        obtain ⟨ya, ycap, rfl, hyc1, hyc2⟩ := SlR.slice hopv
        have hdd : decide ((t.ops.length : Int) > 40) = decide (40 < t.ops.length) := by
          by_cases h : 40 < t.ops.length
          · rw [decide_eq_true h, decide_eq_true (by omega)]
          · rw [decide_eq_false h, decide_eq_false (by omega)]
        have HDD := Hid.mk' hdd
        clear ht hopv hints q1 q2 hdd
        go_wp2_with fail
        go_roundw
        case rel => exact ⟨i + 1, decide (40 < t.ops.length), by omega, by go_num, by first | exact congrArg Value.bool HDD.out | rw [← HDD.out]; rfl, by simpa using HM.out, by trivial⟩
        case measure => simp [intOf]; omega
    · obtain rfl : i = ts.length := by omega
      cases g with
      | true =>
        have HS := Hid.mk' (serial_great wr.heap.size _ ts wr HT.out (Nat.le_refl _) HG.out.yes)
        clear HG
        go_wp2_with fail
        refine HS.out.mono ?_
        rintro e w1 ⟨rfl, hm1⟩
        have HB := Hid.mk' (bare_errno 4 4 w1 (HE.out.mod hm1))
        have HM1 := Hid.mk' hm1
        clear HS hm1
        go_wp2_with fail
        refine HB.out.mono ?_
        rintro e w2 ⟨rfl, hm2⟩
        have HM2 := Hid.mk' (HM1.out.trans hm2)
        have h44 : ((4 : Int) == 4) = true := rfl
        clear hm2 HB
        go_wp2_with fail
        go_ret
        exact ⟨rfl, HM2.out⟩
      | false =>
        obtain ⟨hts, hops⟩ := HG.out.no
        have HS := Hid.mk' (serial_any wr.heap.size _ ts wr HT.out (Nat.le_refl _) hts hops)
        have HOPS := Hid.mk' hops
        clear HG hops
        go_wp2_with fail
        refine HS.out.mono ?_
        intro e w1 hP
        have HHI := Hid.mk' (fun (hm : Mod noBlock wr w1) => history_any wr.heap.size _ ts w1 (HT.out.mod hm (fun _ _ => id)) hm.size hts HOPS.out)
        clear HS
        rcases Nat.lt_or_ge 6 ts.length with h6 | h6
        · have hd6 : decide ((ts.length : Int) > 6) = true := decide_eq_true (by omega)
          rcases hP with ⟨hm1, ⟨ov, o, s, rfl, _⟩ | ⟨rfl, _⟩⟩
          all_goals
            have HM1 := Hid.mk' hm1
            clear hm1
            go_wp2_with fail
            go_ret
            exact ⟨rfl, HM1.out⟩
        · have hd6 : decide ((ts.length : Int) > 6) = false := decide_eq_false (by omega)
          rcases hP with ⟨hm1, ⟨ov, o, s, rfl, k1, k2, k3, k4⟩ | ⟨rfl, hno⟩⟩
          · obtain ⟨oa, ocap, rfl, _⟩ := id k1
            have HK := Hid.mk' (And.intro k1 (And.intro k2 (And.intro k3 k4)))
            have HM1 := Hid.mk' hm1
            have HH := Hid.mk' (HHI.out hm1)
            clear k1 k2 k3 k4 hm1 HHI
            go_wp2_with fail
            refine HH.out.mono ?_
            rintro e w2 ⟨hv, rfl, hV2, hm2⟩
            have HR := Hid.mk' (refserial_any w2.heap.size hv ts w2 hV2 (Nat.le_refl _) hts HOPS.out)
            obtain ⟨ha, hcap, rfl, _⟩ := SlR.slice hV2
            have HM2 := Hid.mk' (HM1.out.trans hm2)
            have HK2 := Hid.mk' (HK.out.1.mod hm2)
            clear hV2 hm2 HH
            go_wp2_with fail
            refine HR.out.mono ?_
            rintro e w3 ⟨hm3, ⟨ov3, o3, s3, rfl, j1, j2, j3, j4⟩ | ⟨rfl, hno⟩⟩
            · have heq : o = o3 := answer_one HK.out.2.1 HK.out.2.2.1 HK.out.2.2.2 j2 j3 j4
              subst heq
              have HSI := Hid.mk' (sameInts_one _ ov3 (ordI o) w3 (HK2.out.mod hm3) j1)
              obtain ⟨pa, pcap, rfl, _⟩ := j1
              have HM3 := Hid.mk' (HM2.out.trans hm3)
              clear hm3 j2 j3 j4
              go_wp2_with fail
              refine HSI.out.mono ?_
              rintro e w4 ⟨rfl, hm4⟩
              have HM4 := Hid.mk' (HM3.out.trans hm4)
              clear hm4
              go_wp2_with fail
              go_ret
              exact ⟨rfl, HM4.out⟩
            · exact (answer_none HK.out.2.1 HK.out.2.2.1 hno).elim
          · have HNO := Hid.mk' hno
            have HM1 := Hid.mk' hm1
            have HH := Hid.mk' (HHI.out hm1)
            clear hno hm1 HHI
            go_wp2_with fail
            refine HH.out.mono ?_
            rintro e w2 ⟨hv, rfl, hV2, hm2⟩
            have HR := Hid.mk' (refserial_any w2.heap.size hv ts w2 hV2 (Nat.le_refl _) hts HOPS.out)
            obtain ⟨ha, hcap, rfl, _⟩ := SlR.slice hV2
            have HM2 := Hid.mk' (HM1.out.trans hm2)
            clear hV2 hm2 HH
            go_wp2_with fail
            refine HR.out.mono ?_
            rintro e w3 ⟨hm3, ⟨ov3, o3, s3, rfl, j1, j2, j3, j4⟩ | ⟨rfl, hno⟩⟩
            · exact (answer_none j2 j3 HNO.out).elim
            · have HSI := Hid.mk' (sameInts_one (.slice none 0 0) (.slice none 0 0) [] w3 (IntsV.bare _) (IntsV.bare _))
              have HM3 := Hid.mk' (HM2.out.trans hm3)
              clear hm3 hno
              go_wp2_with fail
              refine HSI.out.mono ?_
              rintro e w4 ⟨rfl, hm4⟩
              have HM4 := Hid.mk' (HM3.out.trans hm4)
              clear hm4
              go_wp2_with fail
              go_ret
              exact ⟨rfl, HM4.out⟩
end Go.Proofs.YtefhgakcffhgaabDoor
