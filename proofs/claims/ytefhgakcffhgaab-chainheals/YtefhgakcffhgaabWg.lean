/- A turn: a node is told the configuration; one comes in; no such turn. -/
import Derived.Test.YtefhgakcffhgaabWf
namespace Go.Proofs.Ytefhgakcffhgaab
open Go.RowKit Go.Lib Go.Maps
set_option linter.unusedVariables false

set_option maxRecDepth 100000 in
set_option maxHeartbeats 4000000 in
theorem plays6 (L g n : Nat) (B : Int) (V : Vals) (W : WS) (a b : Int) (w : World) (h : WorldP w L g V W) (hI : Inv W n B) (hn : n < 200) (hB : B + 1000 ≤ 1099511627776) :
    Calls Try.prog 9 #[.pointer (some ⟨g, 0, none⟩), .agg #[.int .i64 6, .int .i64 a, .int .i64 b]] w (Played True w L g n B V W) := by
  obtain ⟨w1, hw1⟩ : ∃ q, q = w.alloc (.cells #[.int .i64 6, .int .i64 a, .int .i64 b] 29) := ⟨_, rfl⟩
  have hm1 : Mod noBlock w w1 := by rw [hw1]; exact (Mod.refl _ w).alloc _
  have hB1 : Blk w1 w.heap.size [.int .i64 6, .int .i64 a, .int .i64 b] 29 := by rw [hw1]; exact Blk.new w _ _
  have h1 := h.quiet hm1
  have x0 := hB1.cell 0 rfl
  have x1 := hB1.cell 1 rfl
  have x2 := hB1.cell 2 rfl
  have z1 := hB1.lt
  have HP := Hid.mk' (pick5_any a w1)
  have HM1 := Hid.mk' hm1
  have HH := Hid.mk' h
  have H1 := Hid.mk' h1
  have HI := Hid.mk' hI
  clear h hI hm1
  go_enter Try.func9, Try.ntmps9
  go_upto_region 1 with fail
  rw [← hw1]
  clear hw1
  go_wp2_with fail
  refine HP.out.mono ?_
  rintro e w2 ⟨i, rfl, hi, rfl⟩
  clear HP
  have zg := h1.net.blk.lt
  have HB := Hid.mk' (wbec_any L g i n B V W w2 h1 HI.out hi (by omega) (by omega))
  clear h1 hB1
  go_wp2_with fail
  refine HB.out.mono ?_
  rintro e w7 ⟨rfl, V7, hW7, hm7, hg7⟩
  go_wp2_with fail
  go_end0
  exact ⟨rfl, V7, wbec W i, Went.quiet HM1.out ⟨hW7, hm7, hg7, keeps_bec HI.out hi⟩, (HI.out.bec hi).more (Nat.le_succ _) (by omega), fun _ hS => hS.bec HI.out hi⟩

set_option maxRecDepth 100000 in
set_option maxHeartbeats 4000000 in
theorem plays7 (L g n : Nat) (B : Int) (V : Vals) (W : WS) (a b : Int) (w : World) (h : WorldP w L g V W) (hI : Inv W n B) (hn : n < 200) (hB : B + 1000 ≤ 1099511627776) :
    Calls Try.prog 9 #[.pointer (some ⟨g, 0, none⟩), .agg #[.int .i64 7, .int .i64 a, .int .i64 b]] w (Played False w L g n B V W) := by
  obtain ⟨w1, hw1⟩ : ∃ q, q = w.alloc (.cells #[.int .i64 7, .int .i64 a, .int .i64 b] 29) := ⟨_, rfl⟩
  have hm1 : Mod noBlock w w1 := by rw [hw1]; exact (Mod.refl _ w).alloc _
  have hB1 : Blk w1 w.heap.size [.int .i64 7, .int .i64 a, .int .i64 b] 29 := by rw [hw1]; exact Blk.new w _ _
  have h1 := h.quiet hm1
  have x0 := hB1.cell 0 rfl
  have x1 := hB1.cell 1 rfl
  have x2 := hB1.cell 2 rfl
  have z1 := hB1.lt
  have HP := Hid.mk' (pick5_any a w1)
  have HM1 := Hid.mk' hm1
  have HH := Hid.mk' h
  have H1 := Hid.mk' h1
  have HI := Hid.mk' hI
  clear h hI hm1
  go_enter Try.func9, Try.ntmps9
  go_upto_region 1 with fail
  rw [← hw1]
  clear hw1
  go_wp2_with fail
  refine HP.out.mono ?_
  rintro e w2 ⟨i, rfl, hi, rfl⟩
  clear HP
  have zg := h1.net.blk.lt
  have HB := Hid.mk' (wjoins_any L g i n B V W w2 h1 HI.out hi (by omega) (by omega))
  clear h1 hB1
  go_wp2_with fail
  refine HB.out.mono ?_
  rintro e w7 ⟨rfl, V7, W7, hW7, hI7⟩
  go_wp2_with fail
  go_end0
  exact ⟨rfl, V7, W7, Went.quiet HM1.out hW7, hI7.more (Nat.le_refl _) (by omega), fun h => h.elim⟩

set_option maxRecDepth 100000 in
set_option maxHeartbeats 4000000 in
theorem playsNo (L g n : Nat) (B : Int) (V : Vals) (W : WS) (a b what : Int) (w : World) (h : WorldP w L g V W) (hI : Inv W n B) (hn : n < 200) (hB : B + 1000 ≤ 1099511627776) (hno : what < 0 ∨ 7 < what) :
    Calls Try.prog 9 #[.pointer (some ⟨g, 0, none⟩), .agg #[.int .i64 what, .int .i64 a, .int .i64 b]] w (Played True w L g n B V W) := by
  obtain ⟨w1, hw1⟩ : ∃ q, q = w.alloc (.cells #[.int .i64 what, .int .i64 a, .int .i64 b] 29) := ⟨_, rfl⟩
  have hm1 : Mod noBlock w w1 := by rw [hw1]; exact (Mod.refl _ w).alloc _
  have hB1 : Blk w1 w.heap.size [.int .i64 what, .int .i64 a, .int .i64 b] 29 := by rw [hw1]; exact Blk.new w _ _
  have h1 := h.quiet hm1
  have x0 := hB1.cell 0 rfl
  have x1 := hB1.cell 1 rfl
  have x2 := hB1.cell 2 rfl
  have z1 := hB1.lt
  have HP := Hid.mk' (pick5_any a w1)
  have HM1 := Hid.mk' hm1
  have HH := Hid.mk' h
  have H1 := Hid.mk' h1
  have HI := Hid.mk' hI
  clear h hI hm1
  go_enter Try.func9, Try.ntmps9
  go_upto_region 1 with fail
  rw [← hw1]
  clear hw1
  go_wp2_with fail
  refine HP.out.mono ?_
  rintro e w2 ⟨i, rfl, hi, rfl⟩
  clear HP
  have zg := h1.net.blk.lt
  have d0 : (what == 0) = false := by simp; omega
  have d1 : (what == 1) = false := by simp; omega
  have d2 : (what == 2) = false := by simp; omega
  have d3 : (what == 3) = false := by simp; omega
  have d4 : (what == 4) = false := by simp; omega
  have d5 : (what == 5) = false := by simp; omega
  have d6 : (what == 6) = false := by simp; omega
  have d7 : (what == 7) = false := by simp; omega
  clear h1 hB1 hno
  go_wp2_with fail
  go_end0
  exact Played.same HH.out HI.out HM1.out
end Go.Proofs.Ytefhgakcffhgaab
