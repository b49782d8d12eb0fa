/- Package check: who may be next in the order. -/
import Derived.Test.YtefhgakcffhgaabDoorKb
namespace Go.Proofs.YtefhgakcffhgaabDoor
open Go.RowKit Go.Lib Go.Maps
set_option linter.unusedVariables false

def aheadT (t u : TxD) : Prop := 0 ≤ t.til ∧ t.til < u.frm
instance (t u : TxD) : Decidable (aheadT t u) := by unfold aheadT; infer_instance
/-- It is not there, and all are that must be ahead of it. -/
def NextOK (ts : List TxD) (o : List Nat) (n : Nat) : Prop := n ∉ o ∧ ∀ m t u, ts[m]? = some t → ts[n]? = some u → m ≠ n → aheadT t u → m ∈ o
theorem IntsV.quiet {w w' : World} {v : Value} {ns : List Int} (h : IntsV w v ns) (hq : Mod noBlock w w') : IntsV w' v ns := by
  obtain ⟨a, cap, e, k1, k2, k3⟩ := h
  refine ⟨a, cap, e, k1, k2, ?_⟩
  rcases k3 with k3 | ⟨b, off, k4, k5⟩
  · exact .inl k3
  · exact .inr ⟨b, off, k4, fun j x hx => hq.cell (k5 j x hx) id⟩
set_option maxRecDepth 100000 in
set_option maxHeartbeats 20000000 in
theorem snext_any (L g : Nat) (tv v : Value) (ts : List TxD) (o : List Nat) (n : Nat) (u : TxD) (w : World) (h0 : w.cell? ⟨g, 0, none⟩ = some tv) (h1 : w.cell? ⟨g, 1, none⟩ = some v) (ht : TxsV w L tv ts) (hL : L ≤ w.heap.size) (hv : IntsV w v (ordI o)) (hn : ts[n]? = some u) :
    Calls Tryd.prog 18 #[.pointer (some ⟨g, 0, none⟩), .int .i64 n] w fun e w' => ∃ b : Bool, e = .returned (.bool b) ∧ (b = true ↔ NextOK ts o n) ∧ Mod noBlock w w' := by
  obtain ⟨a, cap, rfl, hc1, hc2⟩ := SlR.slice ht
  have hnl : n < ts.length := (List.getElem?_eq_some_iff.1 hn).1
  have HT := Hid.mk' ht
  have HH : Hid (∀ (n : Nat) (wq : World), Mod noBlock w wq → Calls Tryd.prog 23 #[.pointer (some ⟨g, 0, none⟩), .int .i64 n] wq fun e w' => e = .returned (.bool (decide (n ∈ o))) ∧ w' = wq) := fun n wq hq => shas_any g v o n wq (hq.cell h1 id) (hv.quiet hq)
  have z := World.block_lt_of_cell? w _ h0
  unfold maxLen at hc2
  have HN := Hid.mk' hn
  have HH0 := Hid.mk' h0
  clear ht hv h1 hn
  go_enter Tryd.func18, Tryd.ntmps18
  go_wp2_with fail
  refine (HH.out n w (Mod.refl _ _)).mono ?_
  rintro e w1 ⟨rfl, hw1⟩
  subst hw1
  by_cases hno : n ∈ o
  · have hd : decide (n ∈ o) = true := decide_eq_true hno
    rw [hd]
    go_wp2_with fail
    go_ret
    exact ⟨false, rfl, ⟨fun h => absurd h (by simp), fun h => absurd hno h.1⟩, Mod.refl _ _⟩
  · have hd : decide (n ∈ o) = false := decide_eq_false hno
    rw [hd]
    go_wp2_with fail
    go_loopw [15] (fun i wr => ∃ k : Nat, k ≤ ts.length ∧ i = .int .i64 k ∧ (∀ m t, m < k → ts[m]? = some t → m ≠ n → aheadT t u → m ∈ o) ∧ Mod noBlock w1 wr) (fun i _ => ts.length - (intOf i).toNat)
    case atStart => exact ⟨0, Nat.zero_le _, rfl, fun i t h => by omega, Mod.refl _ _⟩
    case round =>
      obtain ⟨k, hk, rfl, hall, hM⟩ := hrel
      have HAL := Hid.mk' hall
      have HM := Hid.mk' hM
      by_cases hlt : k < ts.length
      · obtain ⟨t, htk⟩ : ∃ t, ts[k]? = some t := ⟨_, List.getElem?_eq_getElem hlt⟩
        obtain ⟨b, off, ov, rfl, hbL, hops, hints, q0, q1, q2⟩ := HT.out.at htk
        obtain ⟨oa, ocap, rfl, _⟩ := SlR.slice hops
        obtain ⟨b', off', ov', hab, _, hops', _, r0, r1, r2⟩ := HT.out.at HN.out
        obtain ⟨oa', ocap', rfl, _⟩ := SlR.slice hops'
        simp only [Option.some.injEq, Addr.mk.injEq] at hab
        obtain ⟨rfl, rfl, _⟩ := hab
        have hltI : (k : Int) < (ts.length : Int) := by omega
        have hlt0 : (0 : Int) ≤ (k : Int) := by omega
        have hnI : (n : Int) < (ts.length : Int) := by omega
        have hn0 : (0 : Int) ≤ (n : Int) := by omega
        have q0' := hM.cell q0 id
        have q1' := hM.cell q1 id
        have q2' := hM.cell q2 id
        obtain ⟨w3, hw3⟩ : ∃ q, q = wr.alloc (.cells #[.slice oa t.ops.length ocap, .int .i64 t.frm, .int .i64 t.til] 25) := ⟨_, rfl⟩
        have hm3 : Mod noBlock wr w3 := by rw [hw3]; exact (Mod.refl _ wr).alloc _
        have hB3 : Blk w3 wr.heap.size [.slice oa t.ops.length ocap, .int .i64 t.frm, .int .i64 t.til] 25 := by rw [hw3]; exact Blk.new wr _ _
        have hM3 := hM.trans hm3
        have c0 := hM3.cell HH0.out id
        have r0' := hM3.cell r0 id
        have r1' := hM3.cell r1 id
        have r2' := hM3.cell r2 id
        have x0 := hB3.cell 0 rfl
        have x1 := hB3.cell 1 rfl
        have x2 := hB3.cell 2 rfl
        have z3 := hB3.lt
        have zg3 := Nat.lt_of_lt_of_le z hM3.size
        have zb3 := World.block_lt_of_cell? w3 _ r0'
        have HA : Hid (∀ wq, Calls Tryd.prog 24 #[.agg #[.slice oa t.ops.length ocap, .int .i64 t.frm, .int .i64 t.til], .agg #[.slice oa' u.ops.length ocap', .int .i64 u.frm, .int .i64 u.til]] wq fun e w' => e = .returned (.bool (decide (aheadT t u))) ∧ Mod noBlock wq w') := fun wq => tahead_any _ _ _ _ _ _ _ _ _ _ wq
        have HTK := Hid.mk' htk
        have HM3 := Hid.mk' hM3
        clear hall hM hops hints q0 q1 q2 r0 r1 r2 hops' htk hm3 hB3 hM3
        go_upto_region 6 with fail
        rw [← hw3]
        clear hw3 q0' q1' q2'
        go_cut [39] (fun x wc => x = .bool (decide (k ≠ n ∧ aheadT t u ∧ k ∉ o)) ∧ Mod noBlock w1 wc)
        case first =>
          by_cases hkn : k = n
          · subst hkn
            first
            | (go_region_with fail)
            | fail
            all_goals
              go_wp2_with fail
              go_meet
              case rel => exact ⟨by simp, HM3.out.drew⟩
          · have hd1 : decide (k = n) = false := decide_eq_false hkn
            have hd2 : ((k : Int) == (n : Int)) = false := by simp; omega
            have hd3 : decide ((k : Int) = (n : Int)) = false := decide_eq_false (by omega)
            have hd4 : ((k : Int) != (n : Int)) = true := by simp; omega
            have hd5 : (k == n) = false := by simp; omega
            by_cases hah : aheadT t u
            · have hda : decide (aheadT t u) = true := decide_eq_true hah
              rw [hda] at HA
              have HKN := Hid.mk' hkn
              have HAH := Hid.mk' hah
              clear hkn hah hda
              first
              | (go_region_with (first
                | (go_at_call 24; refine (HA.out _).mono ?_; rintro e w5 ⟨rfl, hm5⟩; have hM5 : Mod noBlock w1 w5 := (HM3.out.drew).trans hm5)
                | (go_at_call 23; refine (HH.out k _ hM5).mono ?_; rintro e w6 ⟨rfl, hw6⟩; subst hw6)
                | fail))
              | fail
              all_goals
                go_wp2_with fail
                go_meet
                case rel => exact ⟨by simp [HKN.out, HAH.out], hM5⟩
            · have hda : decide (aheadT t u) = false := decide_eq_false hah
              rw [hda] at HA
              have HKN := Hid.mk' hkn
              have HAH := Hid.mk' hah
              clear hkn hah hda
              first
              | (go_region_with (first
                | (go_at_call 24; refine (HA.out _).mono ?_; rintro e w5 ⟨rfl, hm5⟩; have hM5 : Mod noBlock w1 w5 := (HM3.out.drew).trans hm5)
                | fail))
              | fail
              all_goals
                go_wp2_with fail
                go_meet
                case rel => exact ⟨by simp [HAH.out], hM5⟩
        case rest =>
          obtain ⟨rfl, hMc⟩ := hcut
          have HMC := Hid.mk' hMc
          clear hMc c0 r0' r1' r2' x0 x1 x2
          by_cases hbad : k ≠ n ∧ aheadT t u ∧ k ∉ o
          · have hdb : decide (k ≠ n ∧ aheadT t u ∧ k ∉ o) = true := decide_eq_true hbad
            rw [hdb]
            have HBD := Hid.mk' hbad
            clear hbad hdb
            go_wp2_with fail
            go_ret
            exact .inl ⟨rfl, fun h => absurd (h.2 k t u HTK.out HN.out HBD.out.1 HBD.out.2.1) HBD.out.2.2, HMC.out⟩
          · have hdb : decide (k ≠ n ∧ aheadT t u ∧ k ∉ o) = false := decide_eq_false hbad
            rw [hdb]
            have HBD := Hid.mk' hbad
            clear hbad hdb
            go_wp2_with fail
            go_roundw
            case rel =>
              refine ⟨k + 1, by omega, by go_num, fun m t' hm hmt hne hat => ?_, HMC.out⟩
              by_cases e : m = k
              · subst e
                rw [HTK.out] at hmt
                simp at hmt
                subst hmt
                by_cases hin : m ∈ o
                · exact hin
                · exact absurd ⟨hne, hat, hin⟩ HBD.out
              · exact HAL.out m t' (by omega) hmt hne hat
            case measure => simp [intOf]; omega
      · clear hall hM
        go_wp2_with fail
        go_ret
        refine ⟨true, rfl, ⟨fun _ => ⟨hno, fun m t u' hm hu hne hat => ?_⟩, fun _ => rfl⟩, HM.out⟩
        rw [HN.out] at hu
        simp at hu
        subst hu
        exact HAL.out m t (by have := (List.getElem?_eq_some_iff.1 hm).1; omega) hm hne hat
end Go.Proofs.YtefhgakcffhgaabDoor
