/- The law's world plays a turn: a number picked; Tick; told the configuration; comes in; nothing. -/
import Derived.Test.YtefhgakcffhgaabWe
import Derived.Test.YtefhgakcffhgaabWa3
namespace Go.Proofs.Ytefhgakcffhgaab
open Go.RowKit Go.Lib Go.Maps
set_option linter.unusedVariables false

theorem u64_nonneg (a : Int) : 0 ≤ IntKind.u64.wrap a := by rw [IntKind.wrap_u64]; omega
theorem retI {x y : Int} (h : x = y) : Ending.returned (.int .i64 x) = Ending.returned (.int .i64 y) := by rw [h]
theorem pick_any (a : Int) (n : Nat) (w : World) (hn : 0 < n) (hm : (n : Int) ≤ 9223372036854775807) :
    Calls Try.prog 8 #[.int .i64 a, .int .i64 n] w fun e w' => ∃ k : Nat, e = .returned (.int .i64 k) ∧ k < n ∧ w' = w := by
  have hw : IntKind.u64.wrap (n : Int) = n := by rw [IntKind.wrap_u64]; omega
  have h0 : 0 ≤ IntKind.u64.wrap a := u64_nonneg a
  have hnz : ((n : Int) == 0) = false := by simp; omega
  have hk : ∃ k : Nat, k < n ∧ wrap64 (IntKind.u64.wrap a % n) = k := by
    have h1 := Int.emod_nonneg (IntKind.u64.wrap a) (show (n : Int) ≠ 0 by omega)
    have h2 := Int.emod_lt_of_pos (IntKind.u64.wrap a) (show (0 : Int) < n by omega)
    refine ⟨(IntKind.u64.wrap a % n).toNat, by omega, ?_⟩
    rw [IntWalk.wrap64_in _ ⟨by omega, by omega⟩]; omega
  obtain ⟨k, hk1, hk2⟩ := hk
  go_enter Try.func8, Try.ntmps8
  go_wp2_with fail
  go_ret
  exact ⟨k, retI hk2, hk1, rfl⟩
theorem pick5_any (a : Int) (w : World) : Calls Try.prog 8 #[.int .i64 a, .int .i64 5] w fun e w' => ∃ k : Nat, e = .returned (.int .i64 k) ∧ k < 5 ∧ w' = w := pick_any a 5 w (by decide) (by decide)
/-- What a turn comes to. -/
def Played (J : Prop) (w : World) (L g n : Nat) (B : Int) (V : Vals) (W : WS) (e : Ending) (w' : World) : Prop := e = .returned (.tuple #[]) ∧ ∃ V' W', Went w L g V W w' V' W' ∧ Inv W' (n + 1) (B + 1000) ∧ (J → InvS W → InvS W')
theorem Played.same {J : Prop} {w w' : World} {L g n : Nat} {B : Int} {V : Vals} {W : WS} (h : WorldP w L g V W) (hI : Inv W n B) (hm : Mod noBlock w w') : Played J w L g n B V W (.returned (.tuple #[])) w' :=
  ⟨rfl, V, W, Went.same h hm, hI.more (Nat.le_succ _) (by omega), fun _ h => h⟩
theorem Went.quiet {w w1 w' : World} {L g : Nat} {V V' : Vals} {W W' : WS} (hm : Mod noBlock w w1) (h : Went w1 L g V W w' V' W') : Went w L g V W w' V' W' :=
  ⟨h.p, (hm.mono (fun _ _ e => e.elim)).trans h.mod, fun k hk => by
    rcases h.grew k hk with e | e
    · exact .inl e
    · exact .inr (Nat.le_trans hm.size e), h.keeps⟩
/-- A node was turned, then what it told was sent. -/
theorem Went.told {w w5 w7 : World} {L g : Nat} {V V7 : Vals} {W W7 : WS} {i : Nat} (h : WorldP w L g V W) (hi : i < 5) {nv lv : Value} {s : NodeS} (T : WorldP w5 L g (V.turn i nv lv) (wput W i s) ∧ Mod (worldMay g V) w w5 ∧ Grew w g V (V.turn i nv lv)) (h7 : WorldP w7 L g V7 W7) (hm : Mod (worldMay g (V.turn i nv lv)) w5 w7) (hg : Grew w5 g (V.turn i nv lv) V7) (hk : ∀ i, i < 5 → (W.node i).log <+: (W7.node i).log) : Went w L g V W w7 V7 W7 :=
  ⟨h7, T.2.1.world T.2.2 hm, T.2.2.trans hg T.2.1.size, hk⟩
set_option maxRecDepth 100000 in
set_option maxHeartbeats 4000000 in
theorem plays4 (L g n : Nat) (B : Int) (V : Vals) (W : WS) (a b : Int) (w : World) (h : WorldP w L g V W) (hI : Inv W n B) (hn : n < 200) (hB : B + 1000 ≤ 1099511627776) :
    Calls Try.prog 9 #[.pointer (some ⟨g, 0, none⟩), .agg #[.int .i64 4, .int .i64 a, .int .i64 b]] w (Played True w L g n B V W) := by
  obtain ⟨w1, hw1⟩ : ∃ q, q = w.alloc (.cells #[.int .i64 4, .int .i64 a, .int .i64 b] 29) := ⟨_, rfl⟩
  have hm1 : Mod noBlock w w1 := by rw [hw1]; exact (Mod.refl _ w).alloc _
  have hB1 : Blk w1 w.heap.size [.int .i64 4, .int .i64 a, .int .i64 b] 29 := by rw [hw1]; exact Blk.new w _ _
  have h1 := h.quiet hm1
  have x0 := hB1.cell 0 rfl
  have x1 := hB1.cell 1 rfl
  have x2 := hB1.cell 2 rfl
  have z1 := hB1.lt
  have HP := Hid.mk' (pick5_any a w1)
  have HM1 := Hid.mk' hm1
  have HH := Hid.mk' h
  have H1 := Hid.mk' h1
  have HI := Hid.mk' hI
  clear h hI hm1 hB1
  go_enter Try.func9, Try.ntmps9
  go_upto_region 1 with fail
  rw [← hw1]
  clear hw1
  go_wp2_with fail
  refine HP.out.mono ?_
  rintro e w2 ⟨i, rfl, hi, rfl⟩
  clear HP
  obtain ⟨bn, nc, c0, zn, hn1, hn2, cn⟩ := h1.nodeAt
  obtain ⟨bd, dc, c4, zd, hd1, hd2, cd⟩ := h1.downAt
  have q1 := cn i hi
  have q2 := cd i hi
  have zg := h1.net.blk.lt
  have hltI : (i : Int) < 5 := by omega
  have hlt0 : (0 : Int) ≤ (i : Int) := by omega
  unfold maxLen at hn2 hd2
  clear cn cd
  cases hdn : W.down i with
  | true =>
    rw [hdn] at q2
    clear h1
    go_wp2_with fail
    go_end0
    exact Played.same HH.out HI.out HM1.out
  | false =>
    rw [hdn] at q2
    have HT := Hid.mk' (ctick_any L (V.b i) (V.nv i) (V.lv i) (W.node i) w2.drew ((h1.node i hi).drewN 1))
    have HDN := Hid.mk' hdn
    clear h1 hdn
    go_wp2_with fail
    go_region_with (first
      | (go_at_call 13; refine HT.out.mono ?_; rintro e w5 ⟨r5, rfl, hN5, hR5, hf5, hm5⟩; have hm6 : Mod (V.at i) w2 w5 := ((Mod.refl (V.at i) w2).drew).trans (hm5.mono (fun k _ e => .inl e)); have T := H1.out.turn hi hN5 hm6 (.inl rfl) (.inl rfl); have HS := Hid.mk' (T.1.sent (n := n) HI.out.lo (ms := (tickN (W.node i)).2) (by have := tick_len (W.node i); omega) hR5 (turn_off (w1 := w5) H1.out T.2.2 hf5 (msgs_off T.1 hR5) ⟨rfl, rfl, rfl, rfl, rfl, rfl, rfl⟩)); obtain ⟨ra, rcap, hr5⟩ := hR5.slice; subst hr5; have HTT := Hid.mk' T; clear T hN5 hR5 hf5 hm5 hm6)
      | (go_at_call 12; refine HS.out.mono ?_; rintro e w7 ⟨x7, V7, rfl, hW7, hm7, hg7⟩)
      | fail)
    all_goals
      go_wp2_with fail
      go_end0
      exact ⟨rfl, V7, wnode W i (tickN (W.node i)), Went.quiet HM1.out (Went.told H1.out hi HTT.out hW7 hm7 hg7 (keeps_node (by rw [tick_log]; exact List.prefix_refl _))), (HI.out.tick hi).more (Nat.le_succ _) (by omega), fun _ hS => hS.tick HI.out hi HDN.out⟩
end Go.Proofs.Ytefhgakcffhgaab
