/- The law ChainPrefix, walked. -/
import Derived.Test.YtefhgakcffhgaaaXl
import Derived.Test.YtefhgakcffhgaaaXb2
import Derived.Test.YtefhgakcffhgaaaXc
import Derived.Test.YtefhgakcffhgaaaXd
import Derived.Test.YtefhgakcffhgaaaXf
namespace Go.Proofs.Ytefhgakcffhgaaa
open Go.RowKit Go.Lib Go.Maps
set_option linter.unusedVariables false

def rowF (f : Nat → Value) : List Value := [f 0, f 1, f 2, f 3, f 4]
theorem rowF_at (f : Nat → Value) {i : Nat} (hi : i < 5) : (rowF f)[i]? = some (f i) := by
  have : i = 0 ∨ i = 1 ∨ i = 2 ∨ i = 3 ∨ i = 4 := by omega
  rcases this with rfl | rfl | rfl | rfl | rfl <;> rfl
theorem rowF_set (f : Nat → Value) {i : Nat} (hi : i < 5) (x : Value) : (rowF f).set i x = rowF (setF f i x) := by
  have : i = 0 ∨ i = 1 ∨ i = 2 ∨ i = 3 ∨ i = 4 := by omega
  rcases this with rfl | rfl | rfl | rfl | rfl <;> simp [rowF, setF]
/-- What was noted of the logs: beginnings of what they are. -/
def WasP (w : World) (L lo : Nat) (W : WS) (f : Nat → Value) : Prop := ∀ j, j < 5 → ∃ cs, cs <+: (W.node j).log ∧ RowC w L (f j) cs ∧ ∀ x, (f j).ownBlock = some x → lo ≤ x
theorem WasP.nil (w : World) (L lo : Nat) (W : WS) : WasP w L lo W (fun _ => .slice none 0 0) := fun j _ => ⟨[], List.nil_prefix, RowC.nil _ _, fun x hx => by simp [Value.ownBlock] at hx⟩
theorem WasP.mod {G : Nat → Prop} {w w' : World} {L lo : Nat} {W W' : WS} {f : Nat → Value} (h : WasP w L lo W f) (hm : Mod G w w') (hq : Qm w L G) (hG : ∀ k, lo ≤ k → k < w.heap.size → ¬ G k) (hk : ∀ j, j < 5 → (W.node j).log <+: (W'.node j).log) : WasP w' L lo W' f := fun j hj => by
  obtain ⟨cs, h1, h2, h3⟩ := h j hj
  exact ⟨cs, h1.trans (hk j hj), h2.mod hm hq (fun k e => hG k (h3 k e) (kind_rowC h2 e).2.2), h3⟩
theorem WasP.set {w w' : World} {L lo q : Nat} {W : WS} {f : Nat → Value} (h : WasP w L lo W f) (hm : Mod (oneBlock q) w w') (hq : Qm w L (oneBlock q)) (hk : kindOf w q ≠ some 62) {k : Nat} {v : Value} (hv : RowC w L v (W.node k).log) (hl : ∀ x, v.ownBlock = some x → lo ≤ x) : WasP w' L lo W (setF f k v) := fun j hj => by
  have key : ∀ {u : Value} {cs : List CmdD}, RowC w L u cs → RowC w' L u cs := fun hu => hu.mod hm hq (fun x e e' => by simp only [oneBlock] at e'; subst e'; exact hk (kind_rowC hu e).1)
  by_cases e : j = k
  · subst e
    rw [setF_same]
    exact ⟨_, List.prefix_refl _, key hv, hl⟩
  · rw [setF_ne _ _ e]
    obtain ⟨cs, h1, h2, h3⟩ := h j hj
    exact ⟨cs, h1, key h2, h3⟩
set_option maxRecDepth 100000 in
set_option maxHeartbeats 16000000 in
theorem chainPrefix_any (nodes : Int) (ts : List Turn3) (v : Value) (w : World) (hv : TurnsR w w.heap.size v ts) :
    Calls Try.prog 4 #[.int .i64 nodes, v] w fun e w' => e = .returned (.bool true) ∧ Mod noBlock w w' := by
  obtain ⟨a, cap, rfl, hc1, hc2⟩ := SlR.slice hv
  unfold maxLen at hc2
  have HV := Hid.mk' hv
  clear hv
  by_cases hbig : 120 < ts.length
  · have hd : decide ((ts.length : Int) > 120) = true := decide_eq_true (by omega)
    go_enter Try.func4, Try.ntmps4
    go_wp2_with fail
    go_ret
    exact ⟨rfl, Mod.refl _ _⟩
  · have hd : decide ((ts.length : Int) > 120) = false := decide_eq_false (by omega)
    have HCH := Hid.mk' (chained_any w)
    have HNW : Hid (∀ (k : Nat) (wq : World), k < 4 → Calls Try.prog 9 #[.int .i64 (1 + (k : Int))] wq fun e w' => ∃ g V W, e = .returned (.pointer (some ⟨g, 0, none⟩)) ∧ WorldP w' wq.heap.size g V W ∧ Inv W 0 10 ∧ InvS W ∧ Mod noBlock wq w') := fun k wq hk => by
      have := newWorld_any (1 + k) wq (by omega) (by omega)
      rw [show (((1 + k : Nat)) : Int) = 1 + (k : Int) by omega] at this
      exact this
    have HPK : Hid (∀ wq, Calls Try.prog 10 #[.int .i64 nodes, .int .i64 4] wq fun e w' => ∃ k : Nat, e = .returned (.int .i64 k) ∧ k < 4 ∧ w' = wq) := fun wq => pick_any nodes 4 wq (by decide) (by decide)
    go_enter Try.func4, Try.ntmps4
    go_wp2_with fail
    refine HCH.out.mono ?_
    rintro e w1 ⟨rfl, hm1⟩
    go_wp2_with fail
    refine (HPK.out w1).mono ?_
    rintro e w1' ⟨k4, rfl, hk4, hw1⟩
    subst hw1
    have hk4a : (1 : Int) + (k4 : Int) ≤ 4 := by omega
    have hk4b : (0 : Int) ≤ (k4 : Int) := by omega
    go_wp2_with fail
    refine (HNW.out k4 _ hk4).mono ?_
    rintro e w2 ⟨g, V0, W0, rfl, hW0, hI0, -, hm2⟩
    have hM2 := hm1.trans hm2
    obtain ⟨L, hL⟩ : ∃ q, q = w1'.heap.size := ⟨_, rfl⟩
    rw [← hL] at hW0
    have hL0 : w.heap.size ≤ L := by rw [hL]; exact hm1.size
    have HW0 := Hid.mk' hW0
    have HI0 := Hid.mk' hI0
    have HM2 := Hid.mk' hM2
    clear hW0 hI0 hM2 hm1 hm2 hL HCH HPK HNW hk4a hk4b hk4
    go_wp2_with fail
    go_loopw [6] (fun i0 wr => ∃ (i : Nat) (V : Vals) (W : WS), i ≤ ts.length ∧ i0 = .int .i64 i ∧ WorldP wr L g V W ∧ Inv W i (10 + 1000 * (i : Int)) ∧ Mod noBlock w wr) (fun i0 _ => ts.length - (intOf i0).toNat)
    case atStart => exact ⟨0, V0, W0, Nat.zero_le _, rfl, HW0.out, by simpa using HI0.out, HM2.out⟩
    case round =>
      obtain ⟨i, V, W, hi, rfl, hW, hI, hM⟩ := hrel
      clear HW0 HI0 HM2
      obtain ⟨w8, hw8⟩ : ∃ q, q = wr := ⟨_, rfl⟩
      subst hw8
      by_cases hlt : i < ts.length
      · have hltI : (i : Int) < (ts.length : Int) := by omega
        have hlt0 : (0 : Int) ≤ (i : Int) := by omega
        obtain ⟨t, ht⟩ : ∃ t, ts[i]? = some t := ⟨_, List.getElem?_eq_getElem hlt⟩
        obtain ⟨w3, hw3⟩ : ∃ q, q = w8.alloc (.cells #[.slice none 0 0, .slice none 0 0, .slice none 0 0, .slice none 0 0, .slice none 0 0] 32) := ⟨_, rfl⟩
        have hm3 : Mod noBlock w8 w3 := by rw [hw3]; exact (Mod.refl _ w8).alloc _
        have hB3 : Blk w3 w8.heap.size (rowF fun _ => .slice none 0 0) 32 := by rw [hw3]; exact Blk.new w8 _ _
        have HW := Hid.mk' hW
        have HI := Hid.mk' hI
        have HM := Hid.mk' hM
        have HB3 := Hid.mk' hB3
        have HM3 := Hid.mk' hm3
        have HT := Hid.mk' ht
        clear hW hI hM hB3 hm3 ht
        go_upto_region 10 with fail
        rw [← hw3]
        clear hw3
        go_wp2_with fail
        go_loopw [8] (fun k0 wr => ∃ (k : Nat) (f : Nat → Value), k ≤ 5 ∧ k0 = .int .i64 k ∧ Blk wr w8.heap.size (rowF f) 32 ∧ WasP wr L w8.heap.size W f ∧ Mod noBlock w8 wr) (fun k0 _ => 5 - (intOf k0).toNat)
        case atStart => exact ⟨0, _, Nat.zero_le _, rfl, HB3.out, WasP.nil _ _ _ _, HM3.out⟩
        case round =>
          obtain ⟨k, f, hk, rfl, hB, hWas, hMr⟩ := hrel
          clear HB3 HM3
          have hWr := HW.out.quiet hMr
          by_cases hk5 : k < 5
          · have hkI : (k : Int) < 5 := by omega
            have hk0 : (0 : Int) ≤ (k : Int) := by omega
            have hdk : decide ((k : Int) < 5) = true := decide_eq_true hkI
            obtain ⟨bn, nc, c0, zn, hn1, hn2, cn⟩ := hWr.nodeAt
            have q1 := cn k hk5
            unfold maxLen at hn2
            have zg := hWr.net.blk.lt
            have HWR := Hid.mk' hWr
            have HB := Hid.mk' hB
            have HWAS := Hid.mk' hWas
            have HMR := Hid.mk' hMr
            clear cn hWr hB hWas hMr
            cases hin : inN (W.node k) with
            | false =>
              have HX := in_any L _ _ _ _ wr (HWR.out.node k hk5)
              rw [hin] at HX
              have HX' := Hid.mk' HX
              clear HX hin
              go_wp2_with (first | (go_at_call 11; refine HX'.out.mono ?_; rintro e w5 ⟨rfl, m5, rfl⟩) | fail)
              go_roundw
              case rel => exact ⟨k + 1, f, by omega, by go_num, HB.out.mod ((Mod.refl noBlock wr).drewN m5) id, HWAS.out.mod ((Mod.refl noBlock wr).drewN m5) (Qm.none _ _) (fun _ _ _ => id) (fun _ _ => List.prefix_refl _), HMR.out.drewN m5⟩
              case measure => simp [intOf]; omega
            | true =>
              have HX := in_any L _ _ _ _ wr (HWR.out.node k hk5)
              rw [hin] at HX
              have HX' := Hid.mk' HX
              clear HX hin
              go_upto_region 14 with (first | (go_at_call 11; refine HX'.out.mono ?_; rintro e w5 ⟨rfl, m5, rfl⟩) | fail)
              obtain ⟨w5, hw5⟩ : ∃ q, q = wr.drewN m5 := ⟨_, rfl⟩
              rw [← hw5]
              have hm5 : Mod noBlock wr w5 := by rw [hw5]; exact (Mod.refl noBlock wr).drewN _
              have c05 := hm5.cell c0 id
              have q15 := hm5.cell q1 id
              have HLG := Hid.mk' (clogF L _ _ _ _ w5 ((HWR.out.quiet hm5).node k hk5))
              have HM5 := Hid.mk' hm5
              clear hw5 hm5 HX' c0 q1
              go_wp2_with fail
              refine HLG.out.mono ?_
              rintro e w6 ⟨la, lc, rfl, hR6, hf6, hm6⟩
              have hm86 : Mod noBlock w8 w6 := (HMR.out.trans HM5.out).trans hm6
              have hmr6 : Mod noBlock wr w6 := HM5.out.trans hm6
              have hB6 := HB.out.mod hmr6 id
              have x6 := hB6.cell k (rowF_at f hk5)
              have f6 := hB6.frozen k
              have z6 := hB6.lt
              have hz8 := (HMR.out.trans HM5.out).size
              have hWas6 := HWAS.out.mod hmr6 (Qm.none _ _) (fun _ _ _ => id) (fun _ _ => List.prefix_refl _)
              have hL8 : L ≤ w8.heap.size := by have := HW.out.net.low; have := HW.out.net.blk.lt; omega
              have hset : Mod (oneBlock w8.heap.size) w6 (w6.setCell ⟨w8.heap.size, k, none⟩ (.slice la (W.node k).log.length lc)) := Mod.setBlk _ k _
              have hqm : Qm w6 L (oneBlock w8.heap.size) := fun y _ e hs => by
                simp only [oneBlock] at e; subst e
                rcases hs with hs | ⟨cur, fr, hs⟩
                · omega
                · have := kind_blk hB6; unfold kindOf at this; rw [hs] at this; simp at this
              have hWas7 : WasP (w6.setCell ⟨w8.heap.size, k, none⟩ (.slice la (W.node k).log.length lc)) L w8.heap.size W (setF f k (.slice la (W.node k).log.length lc)) := hWas6.set hset hqm (by rw [kind_blk hB6]; decide) hR6 (fun x hx => by have := hf6 x hx; omega)
              have hB7 : Blk (w6.setCell ⟨w8.heap.size, k, none⟩ (.slice la (W.node k).log.length lc)) w8.heap.size (rowF (setF f k (.slice la (W.node k).log.length lc))) 32 := by rw [← rowF_set f hk5]; exact hB6.set k _
              have hM7 : Mod noBlock w8 (w6.setCell ⟨w8.heap.size, k, none⟩ (.slice la (W.node k).log.length lc)) := newer_none (Mod.put (hm86.mono (G' := newer w8.heap.size) (fun _ _ e => e.elim)) w8.heap.size k (Nat.le_refl _) _)
              have HB7 := Hid.mk' hB7
              have HW7 := Hid.mk' hWas7
              have HM7 := Hid.mk' hM7
              clear hB7 hWas7 hM7 hset hqm hWas6 hB6 hmr6 hm86 hm6 hR6 hf6 HLG c05 q15 HB HWAS HWR HMR
              go_wp2_with fail
              go_roundw
              case rel => exact ⟨k + 1, _, by omega, by go_num, HB7.out, HW7.out, HM7.out⟩
              case measure => simp [intOf]; omega
          · have hdk : decide ((k : Int) < 5) = false := decide_eq_false (by omega)
            obtain ⟨tb, toff, hta, htb, htI, t0, t1, t2⟩ := TurnsR.at HV.out HT.out
            subst hta
            have hMall := HM.out.trans hMr
            have t0' := hMall.cell t0 id
            have t1' := hMall.cell t1 id
            have t2' := hMall.cell t2 id
            have HPL := Hid.mk' (plays_any L g i (10 + 1000 * (i : Int)) V W t.what t.a t.b wr hWr HI.out (by omega) (by omega) htI)
            have HB := Hid.mk' hB
            have HWAS := Hid.mk' hWas
            have HMR := Hid.mk' hMr
            have HWR := Hid.mk' hWr
            clear hWr hB hWas hMr hMall t0 t1 t2 htI
            go_wp2_with fail
            refine HPL.out.mono ?_
            rintro e w7 ⟨rfl, V7, W7, hWt, hI7, -⟩
            have offq : ∀ y, w8.heap.size ≤ y → ¬ worldMay g V y := fun y hy e => by have := (HW.out.may e).2; omega
            have hB7 := HB.out.mod hWt.mod (offq _ (Nat.le_refl _))
            have hWas7 := HWAS.out.mod (W' := W7) hWt.mod HWR.out.qm (fun y hy _ => offq y hy) hWt.keeps
            have hM7 : Mod noBlock w w7 := (HM.out.trans HMR.out).trans' hWt.mod (fun y hy e => by have := (HWR.out.may e).1; omega)
            have HB7 := Hid.mk' hB7
            have HW7 := Hid.mk' hWas7
            have HM7 := Hid.mk' hM7
            have HWD7 := Hid.mk' hWt.p
            have HI7 := Hid.mk' hI7
            clear hB7 hWas7 hM7 hWt hI7 offq HB HWAS HMR HWR HPL t0' t1' t2' HW HI HM
            go_wp2_with fail
            go_loopw [9] (fun k0 wr => ∃ k : Nat, k ≤ 5 ∧ k0 = .int .i64 k ∧ Mod noBlock w7 wr) (fun k0 _ => 5 - (intOf k0).toNat)
            case atStart => exact ⟨0, Nat.zero_le _, rfl, Mod.refl _ _⟩
            case round =>
              obtain ⟨j, hj, rfl, hMr⟩ := hrel
              have hWr := HWD7.out.quiet hMr
              have HMR := Hid.mk' hMr
              by_cases hj5 : j < 5
              · have hjI : (j : Int) < 5 := by omega
                have hj0 : (0 : Int) ≤ (j : Int) := by omega
                have hdj : decide ((j : Int) < 5) = true := decide_eq_true hjI
                obtain ⟨bn, nc, c0, zn, hn1, hn2, cn⟩ := hWr.nodeAt
                have q1 := cn j hj5
                unfold maxLen at hn2
                have zg := hWr.net.blk.lt
                obtain ⟨cs, hpre, hRow, -⟩ := HW7.out j hj5
                obtain ⟨fa, fcap, hfj⟩ := hRow.slice
                have hBr := HB7.out.mod hMr id
                have xj := hBr.cell j (rowF_at f hj5)
                rw [hfj] at xj hRow
                have zb := hBr.lt
                have HIN : Hid (∀ wq, Mod noBlock wr wq → Calls Try.prog 11 #[.pointer (some ⟨V7.b j, 0, none⟩)] wq fun e w' => e = .returned (.bool (inN (W7.node j))) ∧ ∃ m, w' = wq.drewN m) := fun wq hq => in_any L _ _ _ _ wq ((hWr.quiet hq).node j hj5)
                have HLG : Hid (∀ wq, Mod noBlock wr wq → Calls Try.prog 12 #[.pointer (some ⟨V7.b j, 0, none⟩)] wq fun e w' => ∃ a cap, e = .returned (.slice a (W7.node j).log.length cap) ∧ RowC w' L (.slice a (W7.node j).log.length cap) (W7.node j).log ∧ Mod noBlock wq w') := fun wq hq => clogs L _ _ _ _ wq ((hWr.quiet hq).node j hj5)
                have HRO := Hid.mk' (hRow.mod hMr (Qm.none _ _) (fun _ _ => id))
                have HPR := Hid.mk' hpre
                have HBA : Hid (∀ c ∈ cs, c.writes = []) := fun c hc => (HI7.out.each j hj5).bare c (hpre.subset hc)
                have HC0 := Hid.mk' c0
                have HQ1 := Hid.mk' q1
                have HXJ := Hid.mk' xj
                clear cn hWr hBr hRow hpre hfj hMr
                go_upto_region 19 with fail
                go_cut [79] (fun t wc => t = .bool false ∧ Mod noBlock w7 wc)
                case first =>
                  cases hin : inN (W7.node j) with
                  | false =>
                    rw [hin] at HIN
                    clear hin
                    go_quiet (first
                      | (go_at_call 11; refine Calls.quiet_of (HIN.out _ ((Mod.refl noBlock wr).drewN _)))
                      | fail)
                    go_wp2_with fail
                    go_meet
                    case rel => exact ⟨rfl, HMR.out.trans ((Mod.refl noBlock wr).drewN _)⟩
                  | true =>
                    rw [hin] at HIN
                    clear hin
                    go_region_with (first
                      | (go_at_call 11; refine (HIN.out _ ((Mod.refl noBlock wr).drew)).mono ?_; rintro e w5 ⟨rfl, m5, hw5⟩; have hM5 : Mod noBlock wr w5 := (by rw [hw5]; exact ((Mod.refl noBlock wr).drew).drewN _); have c05 := hM5.cell HC0.out id; have q15 := hM5.cell HQ1.out id; have xj5 := hM5.cell HXJ.out id; clear hw5)
                      | (go_at_call 12; refine (HLG.out _ hM5).mono ?_; rintro e w6 ⟨la6, lc6, rfl, hR6, hm6⟩; have hM6 : Mod noBlock wr w6 := hM5.trans hm6; have xj6 := hM6.cell HXJ.out id)
                      | (go_at_call 14; refine (begins_bare L L _ _ _ _ _ HPR.out hR6 (HRO.out.mod hM6 (Qm.none _ _) (fun _ _ => id)) HBA.out).mono ?_; rintro e w9 ⟨rfl, hm9⟩; have hM9 : Mod noBlock wr w9 := hM6.trans hm9)
                      | fail)
                    all_goals
                      go_wp2_with fail
                      go_meet
                      case rel => exact ⟨rfl, HMR.out.trans hM9⟩
                case rest =>
                  obtain ⟨rfl, hMc⟩ := hcut
                  clear c0 q1 xj
                  go_wp2_with fail
                  go_roundw
                  case rel => exact ⟨j + 1, by omega, by go_num, hMc⟩
                  case measure => simp [intOf]; omega
              · have hdj : decide ((j : Int) < 5) = false := decide_eq_false (by omega)
                have HPX := Hid.mk' (prefixes_any L g (i + 1) _ V7 W7 wr hWr HI7.out)
                clear hWr hMr
                go_wp2_with fail
                refine HPX.out.mono ?_
                rintro e w9 ⟨rfl, hm9⟩
                have HM9 := Hid.mk' ((HM7.out.trans HMR.out).trans hm9)
                have HW9 := Hid.mk' ((HWD7.out.quiet HMR.out).quiet hm9)
                clear hm9 HPX HMR
                go_wp2_with fail
                go_roundw
                case rel => exact ⟨i + 1, V7, W7, by omega, by go_num, HW9.out, by have := HI7.out; rw [show 10 + 1000 * (((i + 1 : Nat)) : Int) = 10 + 1000 * (i : Int) + 1000 by omega]; exact this, HM9.out⟩
                case measure => simp [intOf]; omega
      · go_wp2_with fail
        go_ret
        exact ⟨rfl, hM⟩
end Go.Proofs.Ytefhgakcffhgaaa
