/- Package mv: versions in memory; by, told, made. -/
import Derived.Test.YtefhgakcffhgaaaDoorProg
import Derived.Test.YtefhgakcffhgaaaDoorMa
import Derived.Test.YtefhgakcffhgaaaDoorSl
import Derived.WalkKit
import Derived.Lib.AppendStr
import Derived.Deep.RegionLaw
import Derived.Deep.AppendLies
import Derived.Deep.DeepCutAuto
import Derived.Deep.Strs
import Derived.Deep.Slices
import Derived.OpenShut
import Derived.Maps.OwnSet
import Derived.Maps.AppendAt
import Derived.RegionTactic
import Derived.ChangeAlike
import Derived.Laws.IdiomCopy
import Derived.Deep.CutBlock
namespace Go.Proofs.YtefhgakcffhgaaaDoor
open Go.RowKit Go.Lib Go.Maps
set_option linter.unusedVariables false

theorem Hid.mk'' {p : Prop} (h : p) : Hid p := h
def verR (d : VerD) (cs : List Value) : Prop := cs = [.int .i64 d.time, .string d.value, .bool d.gone] ∧ d.value.size ≤ maxLen
/-- Versions that lie where a slice says. -/
def VersV (w : World) (L : Nat) (v : Value) (l : List VerD) : Prop := SlR w L 3 verR v l
theorem VersV.mod {G : Nat → Prop} {w w' : World} {L : Nat} {v : Value} {l : List VerD} (h : VersV w L v l) (hm : Mod G w w') (hG : ∀ k, k < L → ¬ G k) : VersV w' L v l := SlR.mod h hm hG (fun _ _ h => h)
theorem VersV.at {w : World} {L : Nat} {a : Option Addr} {n cap : Nat} {l : List VerD} (h : VersV w L (.slice a n cap) l) {i : Nat} {d : VerD} (hi : l[i]? = some d) :
    ∃ b off, a = some ⟨b, off, none⟩ ∧ b < L ∧ d.value.size ≤ maxLen ∧ w.cell? ⟨b, off + i * 3, none⟩ = some (.int .i64 d.time) ∧ w.cell? ⟨b, off + i * 3 + 1, none⟩ = some (.string d.value) ∧ w.cell? ⟨b, off + i * 3 + 2, none⟩ = some (.bool d.gone) := by
  obtain ⟨b, off, cs, h1, h2, ⟨rfl, h3⟩, _, h5⟩ := SlR.at h hi
  exact ⟨b, off, h1, h2, h3, by have := h5 0 _ rfl; simpa using this, h5 1 _ rfl, h5 2 _ rfl⟩
theorem by1_any (a : Option Addr) (n cap k bl bt : Nat) (x t : Int) (b off : Nat) (w : World) (h1 : w.cell? ⟨bl, 0, none⟩ = some (.slice (some ⟨b, off, none⟩) n cap)) (h2 : w.cell? ⟨bt, 0, none⟩ = some (.int .i64 t)) (hk : k < n) (h3 : w.cell? ⟨b, off + k * 3, none⟩ = some (.int .i64 x)) :
    Calls Tryd.prog 125 #[.int .i64 k, .pointer (some ⟨bl, 0, none⟩), .pointer (some ⟨bt, 0, none⟩)] w fun e w' => e = .returned (.bool (decide (x > t))) ∧ Mod noBlock w w' := by
  have hltI : (k : Int) < (n : Int) := by omega
  have hlt0 : (0 : Int) ≤ (k : Int) := by omega
  go_enter Tryd.func125, Tryd.ntmps125
  go_wp2_with fail
  go_region
  all_goals
    go_wp2_with fail
    go_ret
    exact ⟨rfl, (Mod.refl _ w).drew⟩
set_option maxRecDepth 100000 in
set_option maxHeartbeats 2000000 in
theorem search_any (L : Nat) (bl bt : Nat) (v : Value) (l : List VerD) (t : Int) (w : World) (hv : VersV w L v l) (hr : Rising l) (h1 : w.cell? ⟨bl, 0, none⟩ = some v) (h2 : w.cell? ⟨bt, 0, none⟩ = some (.int .i64 t)) (hl : l.length ≤ 1000) :
    Calls Tryd.prog 124 #[.int .i64 l.length, .func (.func 125) #[] #[.pointer (some ⟨bl, 0, none⟩), .pointer (some ⟨bt, 0, none⟩)]] w fun e w' => e = .returned (.int .i64 (byN l t)) ∧ Mod noBlock w w' := by
  have HV := Hid.mk'' hv
  obtain ⟨a, cap, rfl, hc1, hc2⟩ := SlR.slice hv
  have HR := Hid.mk'' hr
  clear hv hr
  go_enter Tryd.func124, Tryd.ntmps124
  go_wp2_with fail
  go_loopw [5, 6] (fun x y wr => ∃ i j : Nat, x = .int .i64 i ∧ y = .int .i64 j ∧ i ≤ j ∧ j ≤ l.length ∧ (∀ k d, k < i → l[k]? = some d → d.time ≤ t) ∧ (∀ k d, j ≤ k → l[k]? = some d → t < d.time) ∧ Mod noBlock w wr) (fun x y _ => (intOf y).toNat - (intOf x).toNat)
  case atStart => exact ⟨0, l.length, rfl, rfl, Nat.zero_le _, Nat.le_refl _, fun k d h => by omega, fun k d h hk => by have := (List.getElem?_eq_some_iff.1 hk).1; omega, Mod.refl _ _⟩
  case round =>
    obtain ⟨i, j, rfl, rfl, hij, hj, hlo, hhi, hM⟩ := hrel
    have HLO := Hid.mk'' hlo
    have HHI := Hid.mk'' hhi
    have HM := Hid.mk'' hM
    clear hlo hhi hM
    by_cases hlt : i < j
    · obtain ⟨h, hh⟩ : ∃ h : Nat, h = (i + j) / 2 := ⟨_, rfl⟩
      have hhl : h < l.length := by omega
      obtain ⟨d, hd⟩ : ∃ d, l[h]? = some d := ⟨_, List.getElem?_eq_getElem hhl⟩
      obtain ⟨b, off, rfl, _, _, q0, _, _⟩ := HV.out.at hd
      have HBY : Hid (∀ wq, Mod noBlock w wq → Calls Tryd.prog 125 #[.int .i64 h, .pointer (some ⟨bl, 0, none⟩), .pointer (some ⟨bt, 0, none⟩)] wq fun e w' => e = .returned (.bool (decide (d.time > t))) ∧ Mod noBlock wq w') := fun wq hq => by1_any none l.length cap h bl bt d.time t b off wq (hq.cell h1 id) (hq.cell h2 id) hhl (hq.cell q0 id)
      have HD := Hid.mk'' hd
      have hltI : (i : Int) < (j : Int) := by omega
      have HHH : Hid (((i : Int) + (j : Int)) / 2 = (h : Int)) := (by omega : ((i : Int) + (j : Int)) / 2 = (h : Int))
      clear hd q0 h1 h2
      go_wp2_with fail
      rw [HHH.out]
      refine (HBY.out wr HM.out).mono ?_
      rintro e w5 ⟨rfl, hm5⟩
      have HM5 := Hid.mk'' (HM.out.trans hm5)
      clear hm5 HBY
      by_cases hgt : d.time > t
      · have hdd : decide (d.time > t) = true := decide_eq_true hgt
        go_wp2_with fail
        go_roundw
        case rel =>
          refine ⟨i, h, rfl, by rw [HHH.out], by omega, by omega, HLO.out, fun k d' hk hd' => ?_, HM5.out⟩
          have h1 := mt (byN_at HR.out t h d HD.out).1 (by omega)
          have h2 := mt (byN_at HR.out t k d' hd').2 (by omega)
          omega
        case measure => simp [intOf]; omega
      · have hdd : decide (d.time > t) = false := decide_eq_false hgt
        go_wp2_with fail
        go_roundw
        case rel =>
          refine ⟨h + 1, j, by first | go_num | (rw [HHH.out]; go_num), rfl, by omega, hj, fun k d' hk hd' => ?_, HHI.out, HM5.out⟩
          have h1 := (byN_at HR.out t h d HD.out).2 (by omega)
          exact (byN_at HR.out t k d' hd').1 (by omega)
        case measure => simp [intOf]; omega
    · go_wp2_with fail
      go_ret
      refine ⟨?_, HM.out⟩
      obtain rfl : i = j := by omega
      rw [byN_eq HR.out hj HLO.out HHI.out]
      rfl
theorem by_any (L : Nat) (v : Value) (l : List VerD) (t : Int) (w : World) (hv : VersV w L v l) (hL : L ≤ w.heap.size) (hr : Rising l) (hl : l.length ≤ 1000) :
    Calls Tryd.prog 90 #[v, .int .i64 t] w fun e w' => e = .returned (.int .i64 (byN l t)) ∧ Mod noBlock w w' := by
  have hmf : ∀ fn first cap w, (Instr.makeFunc fn first cap).run Tryd.prog w = .ok (.func fn first cap) w := fun _ _ _ _ => rfl
  have HV := Hid.mk'' hv
  obtain ⟨a, cap, rfl, hc1, hc2⟩ := SlR.slice hv
  have HR := Hid.mk'' hr
  obtain ⟨w2, hw2⟩ : ∃ q, q = (w.alloc (.cells #[.slice a l.length cap] 159)).alloc (.cells #[.int .i64 t] 3) := ⟨_, rfl⟩
  have hm2 : Mod noBlock w w2 := by rw [hw2]; exact ((Mod.refl _ w).alloc _).alloc _
  have hb1 : Blk w2 w.heap.size [.slice a l.length cap] 159 := by rw [hw2]; exact (Blk.new w [.slice a l.length cap] 159).mod ((Mod.refl noBlock _).alloc _) id
  have hb2 : Blk w2 (w.heap.size + 1) [.int .i64 t] 3 := by
    rw [hw2]
    have := Blk.new (w.alloc (.cells #[.slice a l.length cap] 159)) [.int .i64 t] 3
    simpa using this
  have HS := Hid.mk'' (search_any L w.heap.size (w.heap.size + 1) _ l t w2 (HV.out.mod hm2 (fun _ _ => id)) hr (hb1.cell 0 rfl) (hb2.cell 0 rfl) hl)
  have HM2 := Hid.mk'' hm2
  have c1 := hb1.cell 0 rfl
  clear hv hr hm2 hb1 hb2
  go_enter Tryd.func90, Tryd.ntmps90
  go_upto_region 1 with fail
  rw [← hw2]
  clear hw2
  go_wp2_with fail
  refine HS.out.mono ?_
  rintro e w5 ⟨rfl, hm5⟩
  go_wp2_with fail
  go_ret
  exact ⟨rfl, HM2.out.trans hm5⟩
set_option maxRecDepth 100000 in
set_option maxHeartbeats 2000000 in
theorem told_any (L : Nat) (v : Value) (l : List VerD) (t : Int) (w : World) (hv : VersV w L v l) (hL : L ≤ w.heap.size) (hr : Rising l) (hl : l.length ≤ 1000) :
    Calls Tryd.prog 93 #[v, .int .i64 t] w fun e w' => e = .returned (.tuple #[.string ((toldO l t).getD ByteArray.empty), .bool (toldO l t).isSome]) ∧ Mod noBlock w w' := by
  have HB := Hid.mk'' (by_any L v l t w hv hL hr hl)
  have HV := Hid.mk'' hv
  obtain ⟨a, cap, rfl, hc1, hc2⟩ := SlR.slice hv
  have hle := byN_le l t
  have HT : Hid (toldO l t = if byN l t = 0 then none else match l[byN l t - 1]? with | none => none | some v => if v.gone then none else some v.value) := rfl
  generalize byN l t = n at HB hle HT
  clear hv hr
  go_enter Tryd.func93, Tryd.ntmps93
  go_wp2_with fail
  refine HB.out.mono ?_
  rintro e w5 ⟨rfl, hm5⟩
  by_cases h0 : n = 0
  · subst h0
    have hT := HT.out
    simp only [if_true] at hT
    have HTT := Hid.mk'' hT
    clear hT
    go_wp2_with fail
    go_ret2
    exact ⟨by rw [HTT.out]; rfl, hm5⟩
  · obtain ⟨d, hd⟩ : ∃ d, l[n - 1]? = some d := ⟨_, List.getElem?_eq_getElem (by omega)⟩
    obtain ⟨b, off, rfl, hbL, _, q0, q1, q2⟩ := HV.out.at hd
    have hT := HT.out
    rw [if_neg h0, hd] at hT
    simp only at hT
    have HTT := Hid.mk'' hT
    obtain ⟨m, rfl⟩ : ∃ m, n = m + 1 := ⟨n - 1, by omega⟩
    have q1' := hm5.cell q1 id
    have q2' := hm5.cell q2 id
    simp only [Nat.add_sub_cancel] at q1' q2'
    have hne : (((m + 1 : Nat) : Int) == 0) = false := by simp; omega
    have hsub : ((m + 1 : Nat) : Int) - 1 = (m : Int) := by omega
    have hmI : (m : Int) < (l.length : Int) := by omega
    have hm0 : (0 : Int) ≤ (m : Int) := by omega
    have HM5 := Hid.mk'' hm5
    generalize ((m + 1 : Nat) : Int) = mi at hne hsub
    clear q0 q1 q2 hd hT hm5
    generalize hg : d.gone = g at q2' HTT
    clear hg
    cases g with
    | true =>
      go_wp2_with fail
      go_ret2
      exact ⟨by rw [HTT.out]; rfl, HM5.out⟩
    | false =>
      go_wp2_with fail
      go_ret2
      exact ⟨by rw [HTT.out]; rfl, HM5.out⟩
end Go.Proofs.YtefhgakcffhgaaaDoor
