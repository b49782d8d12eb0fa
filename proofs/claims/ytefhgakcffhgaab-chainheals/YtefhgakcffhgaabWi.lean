/- A turn: a message is lost, or told twice. -/
import Derived.Test.YtefhgakcffhgaabWf
namespace Go.Proofs.Ytefhgakcffhgaab
open Go.RowKit Go.Lib Go.Maps
set_option linter.unusedVariables false

set_option maxRecDepth 100000 in
set_option maxHeartbeats 4000000 in
theorem plays2 (L g n : Nat) (B : Int) (V : Vals) (W : WS) (a b : Int) (w : World) (h : WorldP w L g V W) (hI : Inv W n B) (hn : n < 200) (hB : B + 1000 ≤ 1099511627776) :
    Calls Try.prog 9 #[.pointer (some ⟨g, 0, none⟩), .agg #[.int .i64 2, .int .i64 a, .int .i64 b]] w (Played True w L g n B V W) := by
  obtain ⟨w1, hw1⟩ : ∃ q, q = w.alloc (.cells #[.int .i64 2, .int .i64 a, .int .i64 b] 29) := ⟨_, rfl⟩
  have hm1 : Mod noBlock w w1 := by rw [hw1]; exact (Mod.refl _ w).alloc _
  have hB1 : Blk w1 w.heap.size [.int .i64 2, .int .i64 a, .int .i64 b] 29 := by rw [hw1]; exact Blk.new w _ _
  have h1 := h.quiet hm1
  have x0 := hB1.cell 0 rfl
  have x1 := hB1.cell 1 rfl
  have x2 := hB1.cell 2 rfl
  have z1 := hB1.lt
  have HP := Hid.mk' (pick5_any a w1)
  have HM1 := Hid.mk' hm1
  have HH := Hid.mk' h
  have H1 := Hid.mk' h1
  have HI := Hid.mk' hI
  clear h hI hm1
  go_enter Try.func9, Try.ntmps9
  go_upto_region 1 with fail
  rw [← hw1]
  clear hw1
  go_wp2_with fail
  refine HP.out.mono ?_
  rintro e w2 ⟨i, rfl, hi, rfl⟩
  clear HP
  have zg := h1.net.blk.lt
  have HMA := Hid.mk' (many_any L g V.wv V.mr W.net w2 h1.net)
  by_cases hw0 : 0 < W.net.way.length
  · have hd : decide ((W.net.way.length : Int) > 0) = true := decide_eq_true (by omega)
    have hfew := h1.net.few
    have HP2 := Hid.mk' (pick_any a W.net.way.length w2 hw0 (by omega))
    have hlo := HI.out.lo
    clear h1 hB1
    go_wp2_with (first | (go_at_call 14; refine HMA.out.mono ?_; rintro e w9 ⟨rfl, rfl⟩) | fail)
    refine HP2.out.mono ?_
    rintro e w9 ⟨k, rfl, hk, hw9⟩
    subst hw9
    obtain ⟨m, hm⟩ : ∃ m, W.net.way[k]? = some m := ⟨_, List.getElem?_eq_getElem hk⟩
    have HLO := Hid.mk' (lose_yes L g V.wv V.mr W.net k m w9 H1.out.net hm (by omega))
    clear hm HP2 HMA
    go_wp2_with fail
    refine HLO.out.mono ?_
    rintro e w5 ⟨wv5, rfl, hN5, hwv5, hm5⟩
    have T := H1.out.nets hN5 hm5 (.inl hwv5) (.inl rfl)
    have HTT := Hid.mk' T
    clear T hN5 hwv5 hm5 HLO
    go_wp2_with fail
    go_end0
    exact ⟨rfl, _, wnet W (loseS W.net k), Went.quiet HM1.out ⟨HTT.out.1, HTT.out.2.1, HTT.out.2.2, fun _ _ => List.prefix_refl _⟩, (HI.out.lose k).more (Nat.le_succ _) (by omega), fun _ hS => hS.lose k⟩
  · have hd : decide ((W.net.way.length : Int) > 0) = false := decide_eq_false (by omega)
    clear h1 hB1
    go_wp2_with (first | (go_at_call 14; refine HMA.out.mono ?_; rintro e w9 ⟨rfl, rfl⟩) | fail)
    go_end0
    exact Played.same HH.out HI.out HM1.out

set_option maxRecDepth 100000 in
set_option maxHeartbeats 4000000 in
theorem plays3 (L g n : Nat) (B : Int) (V : Vals) (W : WS) (a b : Int) (w : World) (h : WorldP w L g V W) (hI : Inv W n B) (hn : n < 200) (hB : B + 1000 ≤ 1099511627776) :
    Calls Try.prog 9 #[.pointer (some ⟨g, 0, none⟩), .agg #[.int .i64 3, .int .i64 a, .int .i64 b]] w (Played True w L g n B V W) := by
  obtain ⟨w1, hw1⟩ : ∃ q, q = w.alloc (.cells #[.int .i64 3, .int .i64 a, .int .i64 b] 29) := ⟨_, rfl⟩
  have hm1 : Mod noBlock w w1 := by rw [hw1]; exact (Mod.refl _ w).alloc _
  have hB1 : Blk w1 w.heap.size [.int .i64 3, .int .i64 a, .int .i64 b] 29 := by rw [hw1]; exact Blk.new w _ _
  have h1 := h.quiet hm1
  have x0 := hB1.cell 0 rfl
  have x1 := hB1.cell 1 rfl
  have x2 := hB1.cell 2 rfl
  have z1 := hB1.lt
  have HP := Hid.mk' (pick5_any a w1)
  have HM1 := Hid.mk' hm1
  have HH := Hid.mk' h
  have H1 := Hid.mk' h1
  have HI := Hid.mk' hI
  clear h hI hm1
  go_enter Try.func9, Try.ntmps9
  go_upto_region 1 with fail
  rw [← hw1]
  clear hw1
  go_wp2_with fail
  refine HP.out.mono ?_
  rintro e w2 ⟨i, rfl, hi, rfl⟩
  clear HP
  have zg := h1.net.blk.lt
  have HMA := Hid.mk' (many_any L g V.wv V.mr W.net w2 h1.net)
  by_cases hw0 : 0 < W.net.way.length
  · have hd : decide ((W.net.way.length : Int) > 0) = true := decide_eq_true (by omega)
    have hfew := h1.net.few
    have HP2 := Hid.mk' (pick_any a W.net.way.length w2 hw0 (by omega))
    have hlo := HI.out.lo
    clear h1 hB1
    go_wp2_with (first | (go_at_call 14; refine HMA.out.mono ?_; rintro e w9 ⟨rfl, rfl⟩) | fail)
    refine HP2.out.mono ?_
    rintro e w9 ⟨k, rfl, hk, hw9⟩
    subst hw9
    obtain ⟨m, hm⟩ : ∃ m, W.net.way[k]? = some m := ⟨_, List.getElem?_eq_getElem hk⟩
    by_cases hr : W.net.way.length < 200
    · have HLO := Hid.mk' (twice_yes L g V.wv V.mr W.net k m w9 H1.out.net hm hr (by omega))
      have HTW := Hid.mk' (HI.out.twice (List.mem_of_getElem? hm))
      have HMM := Hid.mk' (List.mem_of_getElem? hm)
      clear hm HP2 HMA
      go_wp2_with fail
      refine HLO.out.mono ?_
      rintro e w5 ⟨wv5, rfl, hN5, hwv5, hm5⟩
      have T := H1.out.nets hN5 hm5 hwv5 (.inl rfl)
      have HTT := Hid.mk' T
      clear T hN5 hwv5 hm5 HLO
      go_wp2_with fail
      go_end0
      exact ⟨rfl, _, wnet W (send1 W.net m), Went.quiet HM1.out ⟨HTT.out.1, HTT.out.2.1, HTT.out.2.2, fun _ _ => List.prefix_refl _⟩, HTW.out.more (Nat.le_succ _) (by omega), fun _ hS => hS.twice HMM.out⟩
    · have HLO := Hid.mk' (twice_full L g V.wv V.mr W.net k w9 H1.out.net (by simp [hasB]; omega) hr)
      clear hm HP2 HMA
      go_wp2_with fail
      refine HLO.out.mono ?_
      rintro e w5 ⟨rfl, hm5⟩
      have HM5 := Hid.mk' (HM1.out.trans hm5)
      clear HLO hm5
      go_wp2_with fail
      go_end0
      exact Played.same HH.out HI.out HM5.out
  · have hd : decide ((W.net.way.length : Int) > 0) = false := decide_eq_false (by omega)
    clear h1 hB1
    go_wp2_with (first | (go_at_call 14; refine HMA.out.mono ?_; rintro e w9 ⟨rfl, rfl⟩) | fail)
    go_end0
    exact Played.same HH.out HI.out HM1.out
end Go.Proofs.Ytefhgakcffhgaab
