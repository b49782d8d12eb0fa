/- A turn: a command is added at the head. -/
import Derived.Test.YtefhgakcffhgaabWf
namespace Go.Proofs.Ytefhgakcffhgaab
open Go.RowKit Go.Lib Go.Maps
set_option linter.unusedVariables false

set_option maxRecDepth 100000 in
set_option maxHeartbeats 4000000 in
theorem plays0 (L g n : Nat) (B : Int) (V : Vals) (W : WS) (a b : Int) (w : World) (h : WorldP w L g V W) (hI : Inv W n B) (hn : n < 200) (hB : B + 1000 ≤ 1099511627776) (hb : int64 b) :
    Calls Try.prog 9 #[.pointer (some ⟨g, 0, none⟩), .agg #[.int .i64 0, .int .i64 a, .int .i64 b]] w (Played True w L g n B V W) := by
  obtain ⟨w1, hw1⟩ : ∃ q, q = w.alloc (.cells #[.int .i64 0, .int .i64 a, .int .i64 b] 29) := ⟨_, rfl⟩
  have hm1 : Mod noBlock w w1 := by rw [hw1]; exact (Mod.refl _ w).alloc _
  have hB1 : Blk w1 w.heap.size [.int .i64 0, .int .i64 a, .int .i64 b] 29 := by rw [hw1]; exact Blk.new w _ _
  have h1 := h.quiet hm1
  have x0 := hB1.cell 0 rfl
  have x1 := hB1.cell 1 rfl
  have x2 := hB1.cell 2 rfl
  have z1 := hB1.lt
  have HP := Hid.mk' (pick5_any a w1)
  have HM1 := Hid.mk' hm1
  have HH := Hid.mk' h
  have H1 := Hid.mk' h1
  have HI := Hid.mk' hI
  clear h hI hm1
  go_enter Try.func9, Try.ntmps9
  go_upto_region 1 with fail
  rw [← hw1]
  clear hw1
  go_wp2_with fail
  refine HP.out.mono ?_
  rintro e w2 ⟨i, rfl, hi, rfl⟩
  clear HP
  have zg := h1.net.blk.lt
  have HAD : Hid (∀ (j : Nat) (wq : World), j < 5 → headN (W.node j) = true → Mod noBlock w2 wq → Calls Try.prog 32 #[.pointer (some ⟨V.b j, 0, none⟩), .agg #[.int .i64 4, .int .i64 b, .int .i64 (W.node j).epoch, .slice none 0 0]] wq fun e w' =>
      ∃ v lv', e = .returned (.tuple #[.int .i64 (W.node j).log.length, v, .nilIface]) ∧ NodeP w' L (V.b j) (V.nv j) lv' (growN (W.node j) ⟨4, b, (W.node j).epoch, []⟩).1 ∧ RowM w' L v (growN (W.node j) ⟨4, b, (W.node j).epoch, []⟩).2 ∧ freshV wq v ∧ Moved wq (V.lv j) lv' ∧ Mod (nodeMay (V.b j) (V.nv j) (V.lv j)) wq w') := fun j wq hj hh hq => by
    have hN := ((H1.out.node j hj).quiet hq)
    have hl := (HI.out.each j hj).len
    exact cadd_yes L _ _ _ _ ⟨4, b, (W.node j).epoch, []⟩ (.slice none 0 0) wq hN hh (by omega) (PairsT.nil _ _) ⟨⟨⟨by show _ ≤ (4 : Int); decide, by show (4 : Int) ≤ _; decide⟩, hb, hN.ints.2.1⟩, by simp⟩
  have HHD : Hid (∀ (j : Nat) (wq : World), j < 5 → Mod noBlock w2 wq → Calls Try.prog 21 #[.pointer (some ⟨V.b j, 0, none⟩)] wq fun e w' => e = .returned (.bool (headN (W.node j))) ∧ ∃ m, w' = wq.drewN m) := fun j wq hj hq => head_any L _ _ _ _ wq ((H1.out.node j hj).quiet hq)
  have HEP : Hid (∀ (j : Nat) (wq : World), j < 5 → Mod noBlock w2 wq → Calls Try.prog 33 #[.pointer (some ⟨V.b j, 0, none⟩)] wq fun e w' => e = .returned (.int .i64 (W.node j).epoch) ∧ w' = wq) := fun j wq hj hq => cepoch_any L _ _ _ _ wq ((H1.out.node j hj).quiet hq)
  have HB1 := Hid.mk' hB1
  clear h1 hB1 x0 x1 x2 z1
  have x0 := HB1.out.cell 0 rfl
  go_wp2_with fail
  clear x0
  go_loopw [5] (fun i0 wr => ∃ k : Nat, k ≤ 5 ∧ i0 = .int .i64 k ∧ Mod noBlock w2 wr) (fun i0 _ => 5 - (intOf i0).toNat)
  case atStart => exact ⟨0, Nat.zero_le _, rfl, Mod.refl _ _⟩
  case round =>
    obtain ⟨k, hk, rfl, hM⟩ := hrel
    have hW := H1.out.quiet hM
    by_cases hlt : k < 5
    · have hltI : (k : Int) < 5 := by omega
      have hlt0 : (0 : Int) ≤ (k : Int) := by omega
      have hd : decide ((k : Int) < 5) = true := decide_eq_true hltI
      obtain ⟨bn, nc, c0, zn, hn1, hn2, cn⟩ := hW.nodeAt
      obtain ⟨bd, dc, c4, zd, hd1, hd2, cd⟩ := hW.downAt
      have q1 := cn k hlt
      have q2 := cd k hlt
      unfold maxLen at hn2 hd2
      have HM := Hid.mk' hM
      clear cn cd hM hW
      cases hdn : W.down k with
      | true =>
        rw [hdn] at q2
        clear hdn
        go_wp2_with fail
        go_roundw
        case rel => exact ⟨k + 1, by omega, by go_num, HM.out⟩
        case measure => simp [intOf]; omega
      | false =>
        rw [hdn] at q2
        have HDN := Hid.mk' hdn
        clear hdn
        cases hhd : headN (W.node k) with
        | false =>
          have HX := HHD.out k wr hlt HM.out
          rw [hhd] at HX
          have HX' := Hid.mk' HX
          clear HX hhd
          go_wp2_with (first | (go_at_call 21; refine HX'.out.mono ?_; rintro e w8 ⟨rfl, m8, rfl⟩) | fail)
          go_roundw
          case rel => exact ⟨k + 1, by omega, by go_num, HM.out.drewN _⟩
          case measure => simp [intOf]; omega
        | true =>
          have HX := HHD.out k wr hlt HM.out
          rw [hhd] at HX
          have HX' := Hid.mk' HX
          have HHH := Hid.mk' hhd
          clear HX hhd
          go_upto_region 9 with (first | (go_at_call 21; refine HX'.out.mono ?_; rintro e w8 ⟨rfl, m8, rfl⟩) | fail)
          obtain ⟨w8, hw8⟩ : ∃ q, q = wr.drewN m8 := ⟨_, rfl⟩
          rw [← hw8]
          have hM8 : Mod noBlock w2 w8 := by rw [hw8]; exact HM.out.drewN _
          have HM8 := Hid.mk' hM8
          have x2 := (HB1.out.mod hM8 id).cell 2 rfl
          have z2 := (HB1.out.mod hM8 id).lt
          have HE8 := Hid.mk' (HEP.out k w8.drew hlt hM8.drew)
          have HA8 := Hid.mk' (HAD.out k w8.drew hlt HHH.out hM8.drew)
          clear hw8 hM8 HX' HEP HHD HAD c0 c4 q1 q2
          go_region_with (first
            | (go_at_call 33; refine HE8.out.mono ?_; rintro e w4 ⟨rfl, hw4⟩; subst hw4)
            | (go_at_call 32; refine HA8.out.mono ?_; rintro e w5 ⟨r5, lv5, rfl, hN5, hR5, hf5, hlv5, hm5⟩)
            | fail)
          all_goals
            have hm6 : Mod (V.at k) w8 w5 := ((Mod.refl (V.at k) w8).drew).trans hm5
            have hW8 := H1.out.quiet HM8.out
            have T := hW8.turn hlt hN5 hm6 (.inl rfl) hlv5
            have HS := Hid.mk' (T.1.sent (n := n) HI.out.lo (ms := (growN (W.node k) ⟨4, b, (W.node k).epoch, []⟩).2) (by have := grow_len (W.node k) ⟨4, b, (W.node k).epoch, []⟩; omega) hR5 (turn_off (w1 := w5) hW8 T.2.2 hf5 (msgs_off T.1 hR5) ⟨rfl, rfl, rfl, rfl, rfl, rfl, rfl⟩))
            obtain ⟨ra, rcap, hr5⟩ := hR5.slice
            subst hr5
            have HTT := Hid.mk' T
            have HW8 := Hid.mk' hW8
            clear T hN5 hR5 hf5 hlv5 hm5 hm6 hW8
            go_wp2_with fail
            refine HS.out.mono ?_
            rintro e w7 ⟨x7, V7, rfl, hW7, hm7, hg7⟩
            go_wp2_with fail
            go_end0
            exact ⟨rfl, V7, wnode W k (growN (W.node k) ⟨4, b, (W.node k).epoch, []⟩), Went.quiet (HM1.out.trans HM8.out) (Went.told HW8.out hlt HTT.out hW7 hm7 hg7 (keeps_node (by rw [grow_log]; exact List.prefix_append _ _))), (HI.out.add hlt HDN.out HHH.out ⟨4, b, (W.node k).epoch, []⟩ rfl).more (Nat.le_refl _) (by omega), fun _ hS => hS.grow hlt HDN.out _ (HI.out.add hlt HDN.out HHH.out ⟨4, b, (W.node k).epoch, []⟩ rfl)⟩
    · obtain rfl : k = 5 := by omega
      have HM := Hid.mk' (HM1.out.trans hM)
      clear hM hW
      go_wp2_with fail
      go_end0
      exact Played.same HH.out HI.out HM.out
end Go.Proofs.Ytefhgakcffhgaab
