/- The law's world: of two nodes the further one's log is the beginning of the other one's: prefixes, walked. -/
import Derived.Test.YtefhgakcffhgaaaWe
import Derived.Test.YtefhgakcffhgaaaXa
namespace Go.Proofs.Ytefhgakcffhgaaa
open Go.RowKit Go.Lib Go.Maps
set_option linter.unusedVariables false

theorem clogs (L g : Nat) (nv lv : Value) (s : NodeS) (w : World) (h : NodeP w L g nv lv s) : Calls Try.prog 12 #[.pointer (some ⟨g, 0, none⟩)] w fun e w' => ∃ a cap, e = .returned (.slice a s.log.length cap) ∧ RowC w' L (.slice a s.log.length cap) s.log ∧ Mod noBlock w w' := by
  refine (clog_any L g nv lv s w h).mono ?_
  rintro e w' ⟨v, rfl, hR, _, hm⟩
  obtain ⟨a, cap, rfl⟩ := hR.slice
  exact ⟨a, cap, rfl, hR, hm⟩
theorem pair_ahead {W : WS} {n : Nat} {B : Int} (h : Inv W n B) {k i : Nat} {x y : Int} (hki : k < i) (hx : W.conf[k]? = some x) (hy : W.conf[i]? = some y) : (W.node y.toNat).log <+: (W.node x.toNat).log := by
  have hp := List.pairwise_iff_getElem.1 h.ahead k i (List.getElem?_eq_some_iff.1 hx).1 (List.getElem?_eq_some_iff.1 hy).1 hki
  rw [(List.getElem?_eq_some_iff.1 hx).2, (List.getElem?_eq_some_iff.1 hy).2] at hp
  exact hp
set_option maxRecDepth 100000 in
set_option maxHeartbeats 40000000 in
theorem prefixes_any (L g n : Nat) (B : Int) (V : Vals) (W : WS) (w : World) (h : WorldP w L g V W) (hI : Inv W n B) :
    Calls Try.prog 15 #[.pointer (some ⟨g, 0, none⟩)] w fun e w' => e = .returned (.bool true) ∧ Mod noBlock w w' := by
  have hcl := conf_len hI
  have HH := Hid.mk' h
  have HI := Hid.mk' hI
  have HLEN : Hid (∃ ca ccap, V.cv = .slice ca W.conf.length ccap) := own_slice h.crow
  obtain ⟨ca, ccap, hcv⟩ := HLEN.out
  have HCV := Hid.mk' hcv
  clear h hI HLEN hcv
  go_enter Try.func15, Try.ntmps15
  go_wp2_with fail
  go_loopw [3] (fun i0 wr => ∃ i : Nat, i ≤ W.conf.length ∧ i0 = .int .i64 i ∧ Mod noBlock w wr) (fun i0 _ => W.conf.length - (intOf i0).toNat)
  case atStart => exact ⟨0, Nat.zero_le _, rfl, Mod.refl _ _⟩
  case round =>
    obtain ⟨i, hi, rfl, hM⟩ := hrel
    have c7 := (HH.out.quiet hM).cells.2.2.2.2.2.1
    rw [HCV.out] at c7
    have HM := Hid.mk' hM
    clear hM
    by_cases hlt : i < W.conf.length
    · have hltI : (i : Int) < (W.conf.length : Int) := by omega
      go_wp2_with fail
      clear c7
      obtain ⟨w1, hw1⟩ : ∃ q, q = wr := ⟨_, rfl⟩
      rw [← hw1] at HM
      go_loopw [4] (fun k0 wr => ∃ k : Nat, k ≤ i ∧ k0 = .int .i64 k ∧ Mod noBlock w wr) (fun k0 _ => i - (intOf k0).toNat)
      case atStart => exact ⟨0, Nat.zero_le _, rfl, by rw [← hw1]; exact HM.out⟩
      case round =>
        obtain ⟨k, hk, rfl, hM⟩ := hrel
        clear hw1 HM
        have HM := Hid.mk' hM
        by_cases hlt2 : k < i
        · have hltK : (k : Int) < (i : Int) := by omega
          have hltJ : (k : Int) < (W.conf.length : Int) := by omega
          have hk0 : (0 : Int) ≤ (k : Int) := by omega
          have hi0 : (0 : Int) ≤ (i : Int) := by omega
          obtain ⟨x, hx⟩ : ∃ x, W.conf[k]? = some x := ⟨_, List.getElem?_eq_getElem (by omega)⟩
          obtain ⟨y, hy⟩ : ∃ y, W.conf[i]? = some y := ⟨_, List.getElem?_eq_getElem hlt⟩
          obtain ⟨hsx, -, -⟩ := HI.out.conf x (List.mem_of_getElem? hx)
          obtain ⟨hsy, -, -⟩ := HI.out.conf y (List.mem_of_getElem? hy)
          have hWr := HH.out.quiet hM
          obtain ⟨-, -, -, -, c6, c7, -⟩ := hWr.cells
          obtain ⟨bn, nc, c0, zn, hn1, hn2, cn⟩ := hWr.nodeAt
          obtain ⟨bc, cc, hcv2, _, zc, hcc1, hcc2, ccell⟩ := row_open hWr.crow (by omega)
          rw [hcv2] at c7
          have q1 := ccell k (.int .i64 x) (by rw [List.getElem?_map, hx]; rfl)
          have q2 := ccell i (.int .i64 y) (by rw [List.getElem?_map, hy]; rfl)
          have q3 := cn x.toNat (toNat_small hsx).1
          have q4 := cn y.toNat (toNat_small hsy).1
          have hx0 : 0 ≤ x := hsx.1
          have hx5 : x < 5 := hsx.2
          have hy0 : 0 ≤ y := hsy.1
          have hy5 : y < 5 := hsy.2
          unfold maxLen at hn2 hcc2
          have HPA := Hid.mk' (pair_ahead HI.out hlt2 hx hy)
          have HBA : Hid (∀ c ∈ (W.node y.toNat).log, c.writes = []) := (HI.out.each y.toNat (toNat_small hsy).1).bare
          have HIA : Hid (∀ wq, Mod noBlock wr wq → Calls Try.prog 11 #[.pointer (some ⟨V.b x.toNat, 0, none⟩)] wq fun e w' => e = .returned (.bool (inN (W.node x.toNat))) ∧ ∃ m, w' = wq.drewN m) := fun wq hq => in_any L _ _ _ _ wq ((hWr.quiet hq).node _ (toNat_small hsx).1)
          have HIB : Hid (∀ wq, Mod noBlock wr wq → Calls Try.prog 11 #[.pointer (some ⟨V.b y.toNat, 0, none⟩)] wq fun e w' => e = .returned (.bool (inN (W.node y.toNat))) ∧ ∃ m, w' = wq.drewN m) := fun wq hq => in_any L _ _ _ _ wq ((hWr.quiet hq).node _ (toNat_small hsy).1)
          have HEA : Hid (∀ wq, Mod noBlock wr wq → Calls Try.prog 26 #[.pointer (some ⟨V.b x.toNat, 0, none⟩)] wq fun e w' => e = .returned (.int .i64 (W.node x.toNat).epoch) ∧ w' = wq) := fun wq hq => cepoch_any L _ _ _ _ wq ((hWr.quiet hq).node _ (toNat_small hsx).1)
          have HEB : Hid (∀ wq, Mod noBlock wr wq → Calls Try.prog 26 #[.pointer (some ⟨V.b y.toNat, 0, none⟩)] wq fun e w' => e = .returned (.int .i64 (W.node y.toNat).epoch) ∧ w' = wq) := fun wq hq => cepoch_any L _ _ _ _ wq ((hWr.quiet hq).node _ (toNat_small hsy).1)
          have HLA : Hid (∀ wq, Mod noBlock wr wq → Calls Try.prog 12 #[.pointer (some ⟨V.b x.toNat, 0, none⟩)] wq fun e w' => ∃ a cap, e = .returned (.slice a (W.node x.toNat).log.length cap) ∧ RowC w' L (.slice a (W.node x.toNat).log.length cap) (W.node x.toNat).log ∧ Mod noBlock wq w') := fun wq hq => clogs L _ _ _ _ wq ((hWr.quiet hq).node _ (toNat_small hsx).1)
          have HLB : Hid (∀ wq, Mod noBlock wr wq → Calls Try.prog 12 #[.pointer (some ⟨V.b y.toNat, 0, none⟩)] wq fun e w' => ∃ a cap, e = .returned (.slice a (W.node y.toNat).log.length cap) ∧ RowC w' L (.slice a (W.node y.toNat).log.length cap) (W.node y.toNat).log ∧ Mod noBlock wq w') := fun wq hq => clogs L _ _ _ _ wq ((hWr.quiet hq).node _ (toNat_small hsy).1)
          obtain ⟨pa, hpa⟩ : ∃ q, q = V.b x.toNat := ⟨_, rfl⟩
          obtain ⟨pb, hpb⟩ : ∃ q, q = V.b y.toNat := ⟨_, rfl⟩
          rw [← hpa] at q3 HIA HEA HLA
          rw [← hpb] at q4 HIB HEB HLB
          clear hpa hpb
          clear hM hWr hx hy hsx hsy ccell cn hcv2
          go_upto_region 7 with fail
          go_quiet (fail)
          go_upto_region 8 with fail
          obtain ⟨w2, hw2⟩ : ∃ q, q = wr.drewN nq := ⟨_, rfl⟩
          have hM2 : Mod noBlock wr w2 := by rw [hw2]; exact (Mod.refl noBlock wr).drewN _
          have c6' := hM2.cell c6 id
          have HC6 := Hid.mk' c6
          have zg2 : g < w2.heap.size := World.block_lt_of_cell? w2 _ c6'
          rw [← hw2]
          clear hw2 c6 c7 c0 q1 q2 q3 q4
          obtain ⟨eA, heA⟩ : ∃ q, q = (W.node x.toNat).epoch := ⟨_, rfl⟩
          obtain ⟨eB, heB⟩ : ∃ q, q = (W.node y.toNat).epoch := ⟨_, rfl⟩
          rw [← heA] at HEA
          rw [← heB] at HEB
          clear heA heB
          have HM2 := Hid.mk' hM2
          go_cut [80] (fun t wc => t = .bool false ∧ Mod noBlock w wc)
          case first =>
            cases hia : inN (W.node x.toNat) with
            | false =>
              rw [hia] at HIA
              clear hia
              go_quiet (first
                | (go_at_call 11; refine Calls.quiet_of (HIA.out _ (HM2.out.drewN _)))
                | fail)
              go_wp2_with fail
              go_meet
              case rel => exact ⟨rfl, HM.out.trans (HM2.out.drewN _)⟩
            | true =>
              rw [hia] at HIA
              clear hia
              cases hib : inN (W.node y.toNat) with
              | false =>
                rw [hib] at HIB
                clear hib
                go_quiet (first
                  | (go_at_call 11; refine Calls.quiet_of (HIA.out _ (HM2.out.drewN _)))
                  | (go_at_call 11; refine Calls.quiet_of (HIB.out _ (HM2.out.drewN _)))
                  | fail)
                go_wp2_with fail
                go_meet
                case rel => exact ⟨rfl, HM.out.trans (HM2.out.drewN _)⟩
              | true =>
                rw [hib] at HIB
                clear hib
                by_cases he1 : eA = eB
                · subst he1
                  by_cases he2 : eA = W.epoch
                  · subst he2
                    go_region_with (first
                      | (go_at_call 11; (first | with_reducible refine (HIA.out _ (by first | assumption | exact Mod.drew (by assumption))).mono ?_ | with_reducible refine (HIB.out _ (by first | assumption | exact Mod.drew (by assumption))).mono ?_); rintro e w5 ⟨rfl, m5, hw5⟩; have hM5 : Mod noBlock wr w5 := (by rw [hw5]; exact Mod.drewN (by first | assumption | exact Mod.drew (by assumption)) _); have c65 := hM5.cell (HC6.out) id; clear hw5)
                      | (go_at_call 26; (first | with_reducible refine (HEA.out _ (by first | assumption | exact Mod.drew (by assumption))).mono ?_ | with_reducible refine (HEB.out _ (by first | assumption | exact Mod.drew (by assumption))).mono ?_); rintro e w4 ⟨rfl, hw4⟩; subst hw4)
                      | (go_at_call 12; (first | with_reducible refine (HLA.out _ (by first | assumption | exact Mod.drew (by assumption))).mono ?_ | with_reducible refine (HLB.out _ (by first | assumption | exact Mod.drew (by assumption))).mono ?_); rintro e w6 ⟨la6, lc6, rfl, hR6, hm6⟩; have hM6 : Mod noBlock wr w6 := Mod.trans (by first | assumption | exact Mod.drew (by assumption)) hm6)
                      | (go_at_call 14; refine (begins_bare L L _ _ _ _ _ HPA.out (by first | assumption | exact RowC.mod (by assumption) (by assumption) (Qm.none _ _) (fun _ _ => id)) (by first | assumption | exact RowC.mod (by assumption) (by assumption) (Qm.none _ _) (fun _ _ => id)) HBA.out).mono ?_; rintro e w8 ⟨rfl, hm8⟩; have hM8 : Mod noBlock wr w8 := Mod.trans (by assumption) hm8)
                      | fail)
                    all_goals
                      go_wp2_with fail
                      go_meet
                      case rel => exact ⟨rfl, HM.out.trans hM8⟩
                  · have hne : (eA == W.epoch) = false := by simpa using he2
                    clear he2
                    go_quiet (first
                      | (go_at_call 11; refine Calls.quiet_of (HIA.out _ (HM2.out.drewN _)))
                      | (go_at_call 11; refine Calls.quiet_of (HIB.out _ (HM2.out.drewN _)))
                      | (go_at_call 26; refine Calls.quiet_of_same (HEA.out _ (HM2.out.drewN _)))
                      | (go_at_call 26; refine Calls.quiet_of_same (HEB.out _ (HM2.out.drewN _)))
                      | fail)
                    go_wp2_with fail
                    go_meet
                    case rel => exact ⟨rfl, HM.out.trans (HM2.out.drewN _)⟩
                · have hne : (eA == eB) = false := by simpa using he1
                  clear he1
                  go_quiet (first
                    | (go_at_call 11; refine Calls.quiet_of (HIA.out _ (HM2.out.drewN _)))
                    | (go_at_call 11; refine Calls.quiet_of (HIB.out _ (HM2.out.drewN _)))
                    | (go_at_call 26; refine Calls.quiet_of_same (HEA.out _ (HM2.out.drewN _)))
                    | (go_at_call 26; refine Calls.quiet_of_same (HEB.out _ (HM2.out.drewN _)))
                    | fail)
                  go_wp2_with fail
                  go_meet
                  case rel => exact ⟨rfl, HM.out.trans (HM2.out.drewN _)⟩
          case rest =>
            obtain ⟨rfl, hMc⟩ := hcut
            go_wp2_with fail
            go_roundw
            case rel => exact ⟨k + 1, by omega, by go_num, hMc⟩
            case measure => simp [intOf]; omega
        · obtain rfl : k = i := by omega
          go_wp2_with fail
          go_roundw
          case rel => exact ⟨k + 1, by omega, by go_num, HM.out⟩
          case measure => simp [intOf]; omega
    · go_wp2_with fail
      go_ret
      exact ⟨rfl, HM.out⟩
end Go.Proofs.Ytefhgakcffhgaaa
