/- Package locks: claims in memory; place, modeOf. -/
import Derived.Test.YtkoncehhpiegfaaGreatDoorProg
import Derived.Test.YtkoncehhpiegfaaGreatDoorQb
import Derived.Test.YtkoncehhpiegfaaGreatDoorSl
import Derived.WalkKit
import Derived.Lib.AppendStr
import Derived.Deep.RegionLaw
import Derived.Deep.AppendLies
import Derived.Deep.DeepCutAuto
import Derived.Deep.Strs
import Derived.Deep.Slices
import Derived.OpenShut
import Derived.Maps.OwnSet
import Derived.Maps.AppendAt
import Derived.RegionTactic
import Derived.ChangeAlike
import Derived.Laws.IdiomCopy
import Derived.Deep.CutBlock
namespace Go.Proofs.YtkoncehhpiegfaaGreatDoor
open Go.RowKit Go.Lib Go.Maps
set_option linter.unusedVariables false

theorem Hid.mkq {p : Prop} (h : p) : Hid p := h
def clmR (d : ClmD) (cs : List Value) : Prop := cs = [.int .i64 d.tx, .int .i64 d.mode]
/-- Claims that lie where a slice says. -/
def ClmsV (w : World) (L : Nat) (v : Value) (l : List ClmD) : Prop := SlR w L 2 clmR v l
theorem ClmsV.mod {G : Nat → Prop} {w w' : World} {L : Nat} {v : Value} {l : List ClmD} (h : ClmsV w L v l) (hm : Mod G w w') (hG : ∀ k, k < L → ¬ G k) : ClmsV w' L v l := SlR.mod h hm hG (fun _ _ h => h)
theorem ClmsV.at {w : World} {L : Nat} {a : Option Addr} {n cap : Nat} {l : List ClmD} (h : ClmsV w L (.slice a n cap) l) {i : Nat} {d : ClmD} (hi : l[i]? = some d) :
    ∃ b off, a = some ⟨b, off, none⟩ ∧ b < L ∧ w.cell? ⟨b, off + i * 2, none⟩ = some (.int .i64 d.tx) ∧ w.cell? ⟨b, off + i * 2 + 1, none⟩ = some (.int .i64 d.mode) := by
  obtain ⟨b, off, cs, h1, h2, rfl, _, h5⟩ := SlR.at h hi
  exact ⟨b, off, h1, h2, by have := h5 0 _ rfl; simpa using this, h5 1 _ rfl⟩
def cmpI (x y : Int) : Int := if x < y then -1 else if x > y then 1 else 0
theorem isNaN_any (x : Int) (w : World) : Calls Tryz.prog 58 #[.int .i64 x] w fun e w' => e = .returned (.bool false) ∧ w' = w := by
  go_enter Tryz.func58, Tryz.ntmps58
  go_wp2_with fail
  go_ret
  exact ⟨by simp, rfl⟩
theorem cmpI_any (x y : Int) (w : World) : Calls Tryz.prog 50 #[.int .i64 x, .int .i64 y] w fun e w' => e = .returned (.int .i64 (cmpI x y)) ∧ w' = w := by
  have H1 := Hid.mkq (isNaN_any x w)
  have H2 := Hid.mkq (isNaN_any y w)
  have HC : Hid (cmpI x y = if x < y then -1 else if x > y then 1 else 0) := rfl
  generalize cmpI x y = z at HC
  by_cases h1 : x < y
  · have hz : z = -1 := by rw [HC.out, if_pos h1]
    subst hz
    clear HC
    go_enter Tryz.func50, Tryz.ntmps50
    go_wp2_with fail
    refine H1.out.mono ?_
    rintro e w1 ⟨rfl, rfl⟩
    go_wp2_with fail
    refine H2.out.mono ?_
    rintro e w1 ⟨rfl, rfl⟩
    go_wp2_with fail
    go_ret
    exact ⟨rfl, rfl⟩
  · by_cases h2 : x > y
    · have hz : z = 1 := by rw [HC.out, if_neg h1, if_pos h2]
      subst hz
      clear HC
      go_enter Tryz.func50, Tryz.ntmps50
      go_wp2_with fail
      refine H1.out.mono ?_
      rintro e w1 ⟨rfl, rfl⟩
      go_wp2_with fail
      refine H2.out.mono ?_
      rintro e w1 ⟨rfl, rfl⟩
      go_wp2_with fail
      go_ret
      exact ⟨rfl, rfl⟩
    · have hz : z = 0 := by rw [HC.out, if_neg h1, if_neg h2]
      subst hz
      clear HC
      go_enter Tryz.func50, Tryz.ntmps50
      go_wp2_with fail
      refine H1.out.mono ?_
      rintro e w1 ⟨rfl, rfl⟩
      go_wp2_with fail
      refine H2.out.mono ?_
      rintro e w1 ⟨rfl, rfl⟩
      go_wp2_with fail
      go_ret
      exact ⟨rfl, rfl⟩
theorem place1_any (d : ClmD) (t : Int) (w : World) : Calls Tryz.prog 49 #[.agg #[.int .i64 d.tx, .int .i64 d.mode], .int .i64 t] w fun e w' => e = .returned (.int .i64 (cmpI d.tx t)) ∧ Mod noBlock w w' := by
  have HC := fun w' => cmpI_any d.tx t w'
  have HM : Hid (Mod noBlock w (w.alloc (.cells #[.int .i64 d.tx, .int .i64 d.mode] 61))) := (Mod.refl _ w).alloc _
  go_enter Tryz.func49, Tryz.ntmps49
  go_wp2_with fail
  refine (HC _).mono ?_
  rintro e w1 ⟨rfl, rfl⟩
  go_wp2_with fail
  go_ret
  exact ⟨rfl, HM.out⟩
theorem cmpI_neg {x t : Int} : cmpI x t < 0 ↔ x < t := by
  unfold cmpI
  split
  · simp; omega
  split
  · simp; omega
  · simp; omega
theorem cmpI_zero {x t : Int} : cmpI x t = 0 ↔ x = t := by
  unfold cmpI
  split
  · simp; omega
  split
  · simp; omega
  · simp; omega
set_option maxRecDepth 100000 in
set_option maxHeartbeats 2000000 in
theorem bsearch_any (L : Nat) (v : Value) (l : List ClmD) (t : Int) (w : World) (hv : ClmsV w L v l) (hr : Elder l) (hl : l.length ≤ 1000) :
    Calls Tryz.prog 48 #[v, .int .i64 t, .func (.func 49) #[] #[]] w fun e w' => e = .returned (.tuple #[.int .i64 (plcN l t), .bool (fndN l t)]) ∧ Mod noBlock w w' := by
  have HV := Hid.mkq hv
  obtain ⟨a, cap, rfl, hc1, hc2⟩ := SlR.slice hv
  have HR := Hid.mkq hr
  clear hv hr
  go_enter Tryz.func48, Tryz.ntmps48
  go_wp2_with fail
  go_loopw [9, 10] (fun x y wr => ∃ i j : Nat, x = .int .i64 i ∧ y = .int .i64 j ∧ i ≤ j ∧ j ≤ l.length ∧ (∀ k d, k < i → l[k]? = some d → d.tx < t) ∧ (∀ k d, j ≤ k → l[k]? = some d → t ≤ d.tx) ∧ Mod noBlock w wr) (fun x y _ => (intOf y).toNat - (intOf x).toNat)
  case atStart => exact ⟨0, l.length, rfl, rfl, Nat.zero_le _, Nat.le_refl _, fun k d h => by omega, fun k d h hk => by have := (List.getElem?_eq_some_iff.1 hk).1; omega, Mod.refl _ _⟩
  case round =>
    obtain ⟨i, j, rfl, rfl, hij, hj, hlo, hhi, hM⟩ := hrel
    have HLO := Hid.mkq hlo
    have HHI := Hid.mkq hhi
    have HM := Hid.mkq hM
    clear hlo hhi hM
    by_cases hlt : i < j
    · obtain ⟨h, hh⟩ : ∃ h : Nat, h = (i + j) / 2 := ⟨_, rfl⟩
      have hhl : h < l.length := by omega
      obtain ⟨d, hd⟩ : ∃ d, l[h]? = some d := ⟨_, List.getElem?_eq_getElem hhl⟩
      obtain ⟨b, off, rfl, _, q0, q1⟩ := HV.out.at hd
      have p0 := HM.out.cell q0 id
      have p1 := HM.out.cell q1 id
      have HPL := Hid.mkq (place1_any d t wr)
      have HD := Hid.mkq hd
      have hltI : (i : Int) < (j : Int) := by omega
      have hhI : (h : Int) < (l.length : Int) := by omega
      have hh0 : (0 : Int) ≤ (h : Int) := by omega
      have HHH : Hid (((i : Int) + (j : Int)) / 2 = (h : Int)) := (by omega : ((i : Int) + (j : Int)) / 2 = (h : Int))
      have HHE := Hid.mkq hh
      clear hd q0 q1 hh
      go_upto_region 5 with fail
      rw [HHH.out]
      go_wp2_with fail
      refine HPL.out.mono ?_
      rintro e w5 ⟨rfl, hm5⟩
      have HM5 := Hid.mkq (HM.out.trans hm5)
      clear hm5 HPL p0 p1
      by_cases hgt : d.tx < t
      · have hdd : decide (cmpI d.tx t < 0) = true := decide_eq_true (cmpI_neg.2 hgt)
        go_wp2_with fail
        go_roundw
        case rel =>
          refine ⟨h + 1, j, by go_num, rfl, by have := HHE.out; omega, hj, fun k d' hk hd' => ?_, HHI.out, HM5.out⟩
          have h1 := (plcN_at HR.out t h d HD.out).2 (by omega)
          exact (plcN_at HR.out t k d' hd').1 (by omega)
        case measure => have := HHE.out; simp [intOf]; omega
      · have hdd : decide (cmpI d.tx t < 0) = false := decide_eq_false (fun h => hgt (cmpI_neg.1 h))
        go_wp2_with fail
        go_roundw
        case rel =>
          refine ⟨i, h, rfl, rfl, by have := HHE.out; omega, by omega, HLO.out, fun k d' hk hd' => ?_, HM5.out⟩
          have h1 := mt (plcN_at HR.out t h d HD.out).1 (by omega)
          have h2 := mt (plcN_at HR.out t k d' hd').2 (by omega)
          omega
        case measure => have := HHE.out; simp [intOf]; omega
    · obtain rfl : i = j := by omega
      have HP := Hid.mkq (plcN_eq HR.out hj HLO.out HHI.out)
      clear hlt
      by_cases hlt : i < l.length
      · obtain ⟨d, hd⟩ : ∃ d, l[i]? = some d := ⟨_, List.getElem?_eq_getElem hlt⟩
        obtain ⟨b, off, rfl, _, q0, q1⟩ := HV.out.at hd
        have p0 := HM.out.cell q0 id
        have p1 := HM.out.cell q1 id
        have HF : Hid (fndN l t = decide (d.tx = t)) := by unfold fndN; rw [HP.out, hd]; rfl
        have HPL := Hid.mkq (place1_any d t wr)
        have hiI : (i : Int) < (l.length : Int) := by omega
        have hi0 : (0 : Int) ≤ (i : Int) := by omega
        have hzz : (cmpI d.tx t == 0) = decide (d.tx = t) := by rw [Bool.eq_iff_iff, beq_iff_eq, decide_eq_true_iff]; exact cmpI_zero
        have HZZ := Hid.mkq hzz
        clear hd q0 q1 hzz
        go_wp2_with fail
        refine HPL.out.mono ?_
        rintro e w5 ⟨rfl, hm5⟩
        have HM5 := Hid.mkq (HM.out.trans hm5)
        clear hm5 HPL p0 p1
        go_wp2_with fail
        go_ret2
        exact ⟨by rw [HP.out, HF.out, ← HZZ.out]; rfl, HM5.out⟩
      · have HF : Hid (fndN l t = false) := by unfold fndN; rw [HP.out, List.getElem?_eq_none (by omega)]; rfl
        have hiI : ¬ (i : Int) < (l.length : Int) := by omega
        go_wp2_with fail
        go_ret2
        exact ⟨by rw [HP.out, HF.out]; rfl, HM.out⟩
theorem place_any (L : Nat) (v : Value) (l : List ClmD) (t : Int) (w : World) (hv : ClmsV w L v l) (hr : Elder l) (hl : l.length ≤ 1000) :
    Calls Tryz.prog 34 #[v, .int .i64 t] w fun e w' => e = .returned (.tuple #[.int .i64 (plcN l t), .bool (fndN l t)]) ∧ Mod noBlock w w' := by
  have HB := Hid.mkq (bsearch_any L v l t w hv hr hl)
  obtain ⟨a, cap, rfl, hc1, hc2⟩ := SlR.slice hv
  clear hv hr
  go_enter Tryz.func34, Tryz.ntmps34
  go_wp2_with fail
  refine HB.out.mono ?_
  rintro e w1 ⟨rfl, hm⟩
  go_wp2_with fail
  go_ret2
  exact ⟨rfl, hm⟩
theorem modeOf_any (L : Nat) (v : Value) (l : List ClmD) (t : Int) (w : World) (hv : ClmsV w L v l) (hr : Elder l) (hl : l.length ≤ 1000) :
    Calls Tryz.prog 19 #[v, .int .i64 t] w fun e w' => e = .returned (.int .i64 (modeN l t)) ∧ Mod noBlock w w' := by
  have HB := Hid.mkq (place_any L v l t w hv hr hl)
  have HV := Hid.mkq hv
  obtain ⟨a, cap, rfl, hc1, hc2⟩ := SlR.slice hv
  have hle := plcN_le l t
  clear hv hr
  cases hf : fndN l t with
  | true =>
    rw [hf] at HB
    obtain ⟨c, h1, h2⟩ := fnd_at hf
    have HMO : Hid (modeN l t = c.mode) := by rw [Hid]; unfold modeN; rw [h1]; simp [h2]
    obtain ⟨b, off, rfl, _, q0, q1⟩ := HV.out.at h1
    have hpl : plcN l t < l.length := (List.getElem?_eq_some_iff.1 h1).1
    generalize plcN l t = n at HB hle q1 hpl
    have hnI : (n : Int) < (l.length : Int) := by omega
    have hn0 : (0 : Int) ≤ (n : Int) := by omega
    clear hf h1 h2 q0
    go_enter Tryz.func19, Tryz.ntmps19
    go_wp2_with fail
    refine HB.out.mono ?_
    rintro e w1 ⟨rfl, hm⟩
    have p1 := hm.cell q1 id
    have HM := Hid.mkq hm
    clear hm q1
    go_wp2_with fail
    go_ret
    exact ⟨by rw [HMO.out]; rfl, HM.out⟩
  | false =>
    rw [hf] at HB
    have HMO : Hid (modeN l t = 0) := by
      rw [Hid]
      unfold fndN at hf
      unfold modeN
      cases hc : l[plcN l t]? with
      | none => rfl
      | some c => rw [hc] at hf; simp at hf; simp [hf]
    clear hf
    go_enter Tryz.func19, Tryz.ntmps19
    go_wp2_with fail
    refine HB.out.mono ?_
    rintro e w1 ⟨rfl, hm⟩
    go_wp2_with fail
    go_ret
    exact ⟨by rw [HMO.out]; rfl, hm⟩
end Go.Proofs.YtkoncehhpiegfaaGreatDoor
