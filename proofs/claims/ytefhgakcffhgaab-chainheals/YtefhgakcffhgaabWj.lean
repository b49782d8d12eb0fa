/- A turn: a message is brought. -/
import Derived.Test.YtefhgakcffhgaabWf
namespace Go.Proofs.Ytefhgakcffhgaab
open Go.RowKit Go.Lib Go.Maps
set_option linter.unusedVariables false

/-- A message is laid into a block of its own that was made ahead. -/
theorem laid_in {w w5 : World} {L g : Nat} {V : Vals} {W W' : WS} {wv : Value} {u : Value} {ps : List PairD} (h : WorldP w L g V W) (T : WorldP w5 L g (V.net wv V.mr) W' ∧ Mod (worldMay g V) w w5 ∧ Grew w g V (V.net wv V.mr)) (hwv : wv.ownBlock = V.wv.ownBlock) (hu : PairsT w5 L u ps)
    {a0 a1 a2 a3 a4 a5 a6 a7 a8 : Value} (hZ : Blk w5 w.heap.size [a0, a1, a2, a3, a4, a5, a6, a7, a8] 51) (u0 u1 u2 u3 u4 u5 u6 u7 u8 : Value) :
    Blk (put9 w5 w.heap.size u0 u1 u2 u3 u4 u5 u6 u7 u8) w.heap.size [u0, u1, u2, u3, u4, u5, u6, u7, u8] 51 ∧ PairsT (put9 w5 w.heap.size u0 u1 u2 u3 u4 u5 u6 u7 u8) L u ps ∧ WorldP (put9 w5 w.heap.size u0 u1 u2 u3 u4 u5 u6 u7 u8) L g (V.net wv V.mr) W' ∧ Mod (worldMay g V) w (put9 w5 w.heap.size u0 u1 u2 u3 u4 u5 u6 u7 u8) ∧ Grew w g V (V.net wv V.mr) := by
  have hm := put9_only w5 w.heap.size u0 u1 u2 u3 u4 u5 u6 u7 u8
  have hL : L ≤ w.heap.size := by have := h.net.low; have := h.net.blk.lt; omega
  have hq : Qm w5 L (oneBlock w.heap.size) := fun k _ e hs => by
    simp only [oneBlock] at e; subst e
    rcases hs with hs | ⟨cur, fr, hs⟩
    · omega
    · have := kind_blk hZ
      unfold kindOf at this; rw [hs] at this; simp at this
  refine ⟨put9_blk hZ _ _ _ _ _ _ _ _ _, hu.mod hm hq, T.1.keep hm hq (fun k hk e => ?_), T.2.1.trans' hm (fun i hi e => by simp only [oneBlock] at e; omega), T.2.2⟩
  simp only [oneBlock] at e; subst e
  have : worldMay g V w.heap.size := by
    rcases hk with (hk | hk | hk) | hk
    · exact .inl (.inl hk)
    · exact .inl (.inr (.inl (by rw [← hwv]; exact hk)))
    · exact .inl (.inr (.inr hk))
    · exact .inr hk
  have := (h.may this).2; omega
theorem step_len (s : NodeS) (m : MsgD) : (stepN s m).2.length ≤ s.log.length + 1 := by
  unfold stepN
  split
  · split
    · have := sendN_len s (-1) (plainMsg 2 s.log.length); simp only; omega
    split
    · simp only
      unfold haveN
      split
      · simp
      · simp [fwdL]; omega
    split
    · have := grow_len s m.cmd; omega
    split
    · have := sendN_len (stabN s m.n) (-1) (plainMsg 4 (stabN s m.n).stable); simp only; omega
    · simp
  · simp
theorem step_keeps (s : NodeS) (m : MsgD) : s.log <+: (stepN s m).1.log := by
  unfold stepN
  split
  · split
    · exact List.prefix_refl _
    split
    · exact List.prefix_refl _
    split
    · rw [grow_log]; exact List.prefix_append _ _
    split
    · exact List.prefix_refl _
    · exact List.prefix_refl _
  · exact List.prefix_refl _

set_option maxRecDepth 100000 in
set_option maxHeartbeats 4000000 in
theorem plays1 (L g n : Nat) (B : Int) (V : Vals) (W : WS) (a b : Int) (w : World) (h : WorldP w L g V W) (hI : Inv W n B) (hn : n < 200) (hB : B + 1000 ≤ 1099511627776) :
    Calls Try.prog 9 #[.pointer (some ⟨g, 0, none⟩), .agg #[.int .i64 1, .int .i64 a, .int .i64 b]] w (Played True w L g n B V W) := by
  obtain ⟨w1, hw1⟩ : ∃ q, q = w.alloc (.cells #[.int .i64 1, .int .i64 a, .int .i64 b] 29) := ⟨_, rfl⟩
  have hm1 : Mod noBlock w w1 := by rw [hw1]; exact (Mod.refl _ w).alloc _
  have hB1 : Blk w1 w.heap.size [.int .i64 1, .int .i64 a, .int .i64 b] 29 := by rw [hw1]; exact Blk.new w _ _
  have h1 := h.quiet hm1
  have x0 := hB1.cell 0 rfl
  have x1 := hB1.cell 1 rfl
  have x2 := hB1.cell 2 rfl
  have z1 := hB1.lt
  have HP := Hid.mk' (pick5_any a w1)
  have HM1 := Hid.mk' hm1
  have HH := Hid.mk' h
  have H1 := Hid.mk' h1
  have HI := Hid.mk' hI
  clear h hI hm1
  go_enter Try.func9, Try.ntmps9
  go_upto_region 1 with fail
  rw [← hw1]
  clear hw1
  go_wp2_with fail
  refine HP.out.mono ?_
  rintro e w2 ⟨i, rfl, hi, rfl⟩
  clear HP
  have zg := h1.net.blk.lt
  have HMA := Hid.mk' (many_any L g V.wv V.mr W.net w2 h1.net)
  by_cases hw0 : 0 < W.net.way.length
  · have hd : decide ((W.net.way.length : Int) > 0) = true := decide_eq_true (by omega)
    have hfew := h1.net.few
    have HP2 := Hid.mk' (pick_any a W.net.way.length w2 hw0 (by omega))
    have hlo := HI.out.lo
    have hlg := h1.net.low
    have HTK : Hid (∀ (k : Nat) (m : MsgD) (wq : World), W.net.way[k]? = some m → Mod noBlock w2 wq → Calls Try.prog 15 #[.pointer (some ⟨g, 1, none⟩), .int .i64 k] wq fun e w' => ∃ wv' u, e = .returned (.tuple #[msgV m u, .nilIface]) ∧ NetP (V.ext W.epoch) w' L g wv' V.mr (dropS W.net k) ∧ PairsT w' L u m.cmd.writes ∧ wv'.ownBlock = V.wv.ownBlock ∧ Mod (netMay g V.wv V.mr) wq w') := fun k m wq hm hq => take_yes L g V.wv V.mr W.net k m wq (H1.out.quiet hq).net hm
    have HGM : Hid (∀ m ∈ W.net.way, goodM m) := by obtain ⟨us, _, _, _, h4⟩ := h1.net.row; exact h4
    have HPK : Hid (∀ wq, Calls Try.prog 8 #[.int .i64 a, .int .i64 W.net.way.length] wq fun e w' => ∃ k : Nat, e = .returned (.int .i64 k) ∧ k < W.net.way.length ∧ w' = wq) := fun wq => pick_any a W.net.way.length wq hw0 (by omega)
    clear h1 HP2
    go_upto_region 13 with fail
    go_wp2_with (first | (go_at_call 14; refine HMA.out.mono ?_; rintro e w9 ⟨rfl, rfl⟩) | fail)
    clear HMA
    go_cut [11] (fun t wc => ∃ (q k : Nat) (m : MsgD) (u : Value) (V' : Vals), t = .pointer (some ⟨q, 0, none⟩) ∧ W.net.way[k]? = some m ∧ Blk wc q (msgCells m u) 51 ∧ PairsT wc L u m.cmd.writes ∧ WorldP wc L g V' (wnet W (dropS W.net k)) ∧ Mod (worldMay g V) w9 wc ∧ Grew w9 g V V')
    case first =>
      go_region_with (first
        | (go_at_call 8; refine (HPK.out _).mono ?_; rintro e wp ⟨k, rfl, hk, hwp⟩; subst hwp; obtain ⟨m, hm⟩ : ∃ m, W.net.way[k]? = some m := ⟨_, List.getElem?_eq_getElem hk⟩; have HMM := Hid.mk' hm; clear hm)
        | (go_at_call 15; refine (HTK.out k m _ HMM.out ((Mod.refl noBlock w9).drew)).mono ?_; rintro e w5 ⟨wv5, u5, rfl, hN5, hu5, hwv5, hm5⟩; obtain ⟨ua5, uc5, rfl⟩ : ∃ ua ucap, u5 = .slice ua m.cmd.writes.length ucap := (by obtain ⟨ua, ucap, h, _⟩ := hu5; exact ⟨ua, ucap, h⟩); dsimp only [msgV])
        | (go_at_call 15; refine (HTK.out k m _ HMM.out (((Mod.refl noBlock w9).alloc _).drew)).mono ?_; rintro e w5 ⟨wv5, u5, rfl, hN5, hu5, hwv5, hm5⟩; obtain ⟨ua5, uc5, rfl⟩ : ∃ ua ucap, u5 = .slice ua m.cmd.writes.length ucap := (by obtain ⟨ua, ucap, h, _⟩ := hu5; exact ⟨ua, ucap, h⟩); have hZ : Blk w5 w9.heap.size [.int .i64 0, .int .i64 0, .int .i64 0, .int .i64 0, .int .i64 0, .int .i64 0, .int .i64 0, .int .i64 0, .slice none 0 0] 51 := ((Blk.new w9 [.int .i64 0, .int .i64 0, .int .i64 0, .int .i64 0, .int .i64 0, .int .i64 0, .int .i64 0, .int .i64 0, .slice none 0 0] 51).mod ((Mod.refl noBlock _).drew) id).mod hm5 (fun e => (by have := (H1.out.net.lt e).2.1; omega)); obtain ⟨⟨y0, y1, y2, y3, y4, y5, y6, y7, y8⟩, ⟨f0, f1, f2, f3, f4, f5, f6, f7, f8⟩⟩ := blk9 hZ; have hzz := hZ.lt; dsimp only [msgV])
        | fail)
      all_goals first
        | (have T := H1.out.nets hN5 (((Mod.refl _ w9).drew).trans hm5) (.inl hwv5) (.inl rfl)
           have hma : Mod noBlock w5 (w5.alloc (.cells #[.int .i64 m.kind, .int .i64 m.frm, .int .i64 m.to, .int .i64 m.epoch, .int .i64 m.n, .int .i64 m.cmd.kind, .int .i64 m.cmd.tx, .int .i64 m.cmd.time, .slice ua5 m.cmd.writes.length uc5] 51)) := (Mod.refl noBlock w5).alloc _
           have hBm : Blk (w5.alloc (.cells #[.int .i64 m.kind, .int .i64 m.frm, .int .i64 m.to, .int .i64 m.epoch, .int .i64 m.n, .int .i64 m.cmd.kind, .int .i64 m.cmd.tx, .int .i64 m.cmd.time, .slice ua5 m.cmd.writes.length uc5] 51)) w5.heap.size (msgCells m (.slice ua5 m.cmd.writes.length uc5)) 51 := Blk.new w5 _ _
           have HREL := Hid.mk' (And.intro hBm (And.intro (hu5.mod hma (Qm.none _ _)) (And.intro (T.1.quiet hma) (And.intro (T.2.1.trans (hma.mono (fun _ _ e => e.elim))) T.2.2))))
           clear T hma hBm hN5 hu5 hwv5 hm5
           go_wp2_with fail
           go_meet
           case rel => exact ⟨_, k, m, _, _, rfl, HMM.out, HREL.out.1, HREL.out.2.1, HREL.out.2.2.1, HREL.out.2.2.2.1, HREL.out.2.2.2.2⟩)
        | (have T := H1.out.nets hN5 ((((Mod.refl _ w9).alloc _).drew).trans hm5) (.inl hwv5) (.inl rfl)
           have HREL := Hid.mk' (laid_in H1.out T hwv5 hu5 hZ (.int .i64 m.kind) (.int .i64 m.frm) (.int .i64 m.to) (.int .i64 m.epoch) (.int .i64 m.n) (.int .i64 m.cmd.kind) (.int .i64 m.cmd.tx) (.int .i64 m.cmd.time) (.slice ua5 m.cmd.writes.length uc5))
           clear T hN5 hu5 hwv5 hm5 hZ
           go_wp2_with fail
           go_meet
           case rel => exact ⟨_, k, m, _, _, rfl, HMM.out, HREL.out.1, HREL.out.2.1, HREL.out.2.2.1, HREL.out.2.2.2.1, HREL.out.2.2.2.2⟩)
        | fail
    case rest =>
      obtain ⟨q, k, m, u, V', rfl, hmk, hBq, huq, hWq, hMq, hGq⟩ := hcut
      obtain ⟨ua, uc, rfl⟩ : ∃ ua ucap, u = .slice ua m.cmd.writes.length ucap := by obtain ⟨ua, ucap, h, _⟩ := huq; exact ⟨ua, ucap, h⟩
      obtain ⟨⟨p0, p1, p2, p3, p4, p5, p6, p7, p8⟩, -⟩ := blk9 hBq
      obtain ⟨bn, nc, c0, zn, hn1, hn2, cn⟩ := hWq.nodeAt
      have HCN := Hid.mk' cn
      have zq := hBq.lt
      have zgq := hWq.net.blk.lt
      have hgm := HGM.out m (List.mem_of_getElem? hmk)
      obtain ⟨hok, hdm⟩ := HI.out.msgs m (List.mem_of_getElem? hmk)
      have HID := Hid.mk' (HI.out.drop k)
      have HMK := Hid.mk' (List.mem_of_getElem? hmk)
      have HST : Hid (∀ j, j < 5 → Calls Try.prog 16 #[.pointer (some ⟨V'.b j, 0, none⟩), .agg #[.int .i64 m.kind, .int .i64 m.frm, .int .i64 m.to, .int .i64 m.epoch, .int .i64 m.n, .int .i64 m.cmd.kind, .int .i64 m.cmd.tx, .int .i64 m.cmd.time, .slice ua m.cmd.writes.length uc]] wc.drew fun e w' =>
          ∃ v lv', e = .returned v ∧ NodeP w' L (V'.b j) (V'.nv j) lv' (stepN (W.node j) m).1 ∧ RowM w' L v (stepN (W.node j) m).2 ∧ freshV wc.drew v ∧ Moved wc.drew (V'.lv j) lv' ∧ Mod (nodeMay (V'.b j) (V'.nv j) (V'.lv j)) wc.drew w') := fun j hj => cstep_any L _ _ _ _ m _ wc.drew ((hWq.node j hj).drewN 1) (huq.mod ((Mod.refl noBlock wc).drew) (Qm.none _ _)) hgm
      have HPK5 := Hid.mk' (pick5_any m.to wc.drew)
      have HOK := Hid.mk' hok
      have HWQ := Hid.mk' hWq
      have HMQ := Hid.mk' hMq
      have HGQ := Hid.mk' hGq
      unfold maxLen at hn2
      clear hmk hBq huq hWq hMq hGq hgm hok HGM HPK HTK hB1 cn
      go_wp2_with fail
      go_region_with (first
        | (go_at_call 8; refine HPK5.out.mono ?_; rintro e wp ⟨j, rfl, hj, hwp⟩; subst hwp; have hjI : (j : Int) < 5 := (by omega); have hj0 : (0 : Int) ≤ (j : Int) := (by omega); have qj := HCN.out j hj)
        | (go_at_call 16; refine (HST.out j hj).mono ?_; rintro e w5 ⟨r5, lv5, rfl, hN5, hR5, hf5, hlv5, hm5⟩; have T := HWQ.out.turn hj hN5 (((Mod.refl _ wc).drew).trans hm5) (.inl rfl) hlv5; have HS := Hid.mk' (T.1.sent (n := n) HID.out.lo (ms := (stepN (W.node j) m).2) (by have h1 := step_len (W.node j) m; have h2 := (HI.out.each j hj).len; omega) hR5 (turn_off (w1 := w5) HWQ.out T.2.2 hf5 (msgs_off T.1 hR5) ⟨rfl, rfl, rfl, rfl, rfl, rfl, rfl⟩)); obtain ⟨ra, rcap, hr5⟩ := hR5.slice; subst hr5; have HTT := Hid.mk' T; clear T hN5 hR5 hf5 hlv5 hm5)
        | (go_at_call 12; refine HS.out.mono ?_; rintro e w7 ⟨x7, V7, rfl, hW7, hm7, hg7⟩)
        | fail)
      all_goals
        go_wp2_with fail
        go_end0
        have hG : Went wc L g V' (wnet W (dropS W.net k)) w7 V7 (wnode (wnet W (dropS W.net k)) j (stepN (W.node j) m)) := Went.told HWQ.out hj HTT.out hW7 hm7 hg7 (keeps_node (step_keeps _ _))
        exact ⟨rfl, V7, wnode (wnet W (dropS W.net k)) j (stepN (W.node j) m), Went.quiet HM1.out (Went.trans ⟨HWQ.out, HMQ.out, HGQ.out, fun _ _ => List.prefix_refl _⟩ hG), (HID.out.step hj HOK.out hdm (by omega)).more (Nat.le_refl _) (by omega), fun _ hS => (hS.drop k).step HID.out hj (hS.ms m HMK.out).1 (hS.ms m HMK.out).2 (HID.out.step hj HOK.out hdm (by omega))⟩
  · have hd : decide ((W.net.way.length : Int) > 0) = false := decide_eq_false (by omega)
    clear h1 hB1
    go_wp2_with (first | (go_at_call 14; refine HMA.out.mono ?_; rintro e w9 ⟨rfl, rfl⟩) | fail)
    go_end0
    exact Played.same HH.out HI.out HM1.out
end Go.Proofs.Ytefhgakcffhgaab
