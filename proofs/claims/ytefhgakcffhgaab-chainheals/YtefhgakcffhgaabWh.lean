/- A turn: a node goes down for ever. -/
import Derived.Test.YtefhgakcffhgaabWf
namespace Go.Proofs.Ytefhgakcffhgaab
open Go.RowKit Go.Lib Go.Maps
set_option linter.unusedVariables false

theorem downs_some {W : WS} {n : Nat} {B : Int} (h : Inv W n B) {i : Nat} (hl : 1 < W.conf.length) : (wfix (wdown W i) (-1)).conf ≠ [] := by
  have hc : (wfix (wdown W i) (-1)).conf = W.conf.filter (liveB (wdown W i)) := confF_live _
  rw [hc]
  have live : ∀ x ∈ W.conf, x ≠ (i : Int) → x ∈ W.conf.filter (liveB (wdown W i)) := fun x hx hne => by
    obtain ⟨h1, h2, _⟩ := h.conf x hx
    refine List.mem_filter.2 ⟨hx, ?_⟩
    have : x.toNat ≠ i := fun e => hne (by rw [← e]; exact (toNat_small h1).2.symm)
    simp [liveB, wdown, setF_ne _ _ this, h2]
  have hd := h.nodup
  match hq : W.conf, hl with
  | [], hl => simp at hl
  | [_], hl => simp at hl
  | x :: y :: l, _ =>
    rw [hq] at live hd
    have hxy : x ≠ y := by rw [List.nodup_cons] at hd; exact fun e => hd.1 (by simp [e])
    by_cases hx : x = (i : Int)
    · have := live y (by simp) (fun e => hxy (by rw [hx, e]))
      exact List.ne_nil_of_mem this
    · exact List.ne_nil_of_mem (live x (by simp) hx)

set_option maxRecDepth 100000 in
set_option maxHeartbeats 4000000 in
theorem plays5 (L g n : Nat) (B : Int) (V : Vals) (W : WS) (a b : Int) (w : World) (h : WorldP w L g V W) (hI : Inv W n B) (hn : n < 200) (hB : B + 1000 ≤ 1099511627776) :
    Calls Try.prog 9 #[.pointer (some ⟨g, 0, none⟩), .agg #[.int .i64 5, .int .i64 a, .int .i64 b]] w (Played True w L g n B V W) := by
  obtain ⟨w1, hw1⟩ : ∃ q, q = w.alloc (.cells #[.int .i64 5, .int .i64 a, .int .i64 b] 29) := ⟨_, rfl⟩
  have hm1 : Mod noBlock w w1 := by rw [hw1]; exact (Mod.refl _ w).alloc _
  have hB1 : Blk w1 w.heap.size [.int .i64 5, .int .i64 a, .int .i64 b] 29 := by rw [hw1]; exact Blk.new w _ _
  have h1 := h.quiet hm1
  have x0 := hB1.cell 0 rfl
  have x1 := hB1.cell 1 rfl
  have x2 := hB1.cell 2 rfl
  have z1 := hB1.lt
  have HP := Hid.mk' (pick5_any a w1)
  have HM1 := Hid.mk' hm1
  have HH := Hid.mk' h
  have H1 := Hid.mk' h1
  have HI := Hid.mk' hI
  clear h hI hm1
  go_enter Try.func9, Try.ntmps9
  go_upto_region 1 with fail
  rw [← hw1]
  clear hw1
  go_wp2_with fail
  refine HP.out.mono ?_
  rintro e w2 ⟨i, rfl, hi, rfl⟩
  clear HP
  have zg := h1.net.blk.lt
  obtain ⟨bd, dc, c4, zd, hd1, hd2, cd⟩ := h1.downAt
  have q2 := cd i hi
  have hltI : (i : Int) < 5 := by omega
  have hlt0 : (0 : Int) ≤ (i : Int) := by omega
  have HL := Hid.mk' (wlives_any L g n B V W w2 h1 HI.out)
  unfold maxLen at hd2
  clear cd
  cases hdn : W.down i with
  | true =>
    rw [hdn] at q2
    clear h1 hB1
    go_wp2_with fail
    go_end0
    exact Played.same HH.out HI.out HM1.out
  | false =>
    rw [hdn] at q2
    by_cases hl1 : 1 < W.conf.length
    · have hd : decide ((W.conf.length : Int) > 1) = true := decide_eq_true (by omega)
      obtain ⟨R1, R2⟩ := h1.setDown c4 hi
      have hkf : w2.frozen? ⟨bd, i, none⟩ = false := by
        have hv : V.dv = .slice (some ⟨bd, 0, none⟩) 5 dc := by have := h1.cells.2.2.1; rw [c4] at this; simpa using this.symm
        obtain ⟨_, _, cur, hcur⟩ := own_cells h1.drow (k := bd) (by rw [hv]; rfl)
        simp [World.frozen?, hcur]
      have hb2 := R1.net.blk.lt
      obtain ⟨w3, hw3⟩ : ∃ q, q = w2.setCell ⟨bd, i, none⟩ (.bool true) := ⟨_, rfl⟩
      rw [← hw3] at R1 R2 hb2
      have hlo := HI.out.lo
      have hndn := HI.out.ndn
      have hfew := R1.net.few
      have hfew' : W.net.way.length ≤ 200 := hfew
      have HD := Hid.mk' (down_any L g V.wv V.mr W.net i w3 R1.net (by unfold int64; omega) (by show W.net.down.length ≤ 1000000; omega) (by show W.net.lost + 200 ≤ _; omega))
      have HR1 := Hid.mk' R1
      have HR2 := Hid.mk' R2
      have hep := HI.out.ep
      have HC := Hid.mk' (fun x (hx : x ∈ W.conf) => (HI.out.conf x hx).1)
      have HDS := Hid.mk' (HI.out.downs hi (downs_some HI.out hl1))
      have hcl := conf_len HI.out
      clear R1 R2 h1 hB1 hdn hfew
      go_wp2_with (first | (go_at_call 36; refine HL.out.mono ?_; rintro e w9 ⟨rfl, rfl⟩) | fail)
      rw [← hw3]
      clear hw3 HL q2 c4 hkf
      refine HD.out.mono ?_
      rintro e w5 ⟨wv5, mr5, rfl, hN5, hwv5, hmr5, hm5⟩
      have T := HR1.out.nets hN5 hm5 (.inl hwv5) hmr5
      have HF := Hid.mk' (wfix_any L g _ _ (-1) w5 T.1 HC.out hcl ⟨hep.1, by show W.epoch ≤ 1000; omega⟩ (.inl rfl))
      have HTT := Hid.mk' T
      clear T hN5 hwv5 hmr5 hm5 HD
      go_wp2_with fail
      refine HF.out.mono ?_
      rintro e w7 ⟨rfl, V7, hW7, hm7, hg7⟩
      go_wp2_with fail
      go_end0
      refine ⟨rfl, V7, wfix (wdown W i) (-1), Went.quiet HM1.out ⟨hW7, ?_, ?_, fun _ _ => List.prefix_refl _⟩, HDS.out.more (Nat.le_refl _) (by omega), fun _ hS => hS.downs i⟩
      · exact (HR2.out.world (Grew.refl _ _ _) HTT.out.2.1).world (fun k hk => by
          rcases HTT.out.2.2 k hk with e | e
          · exact .inl e
          · exact .inr (Nat.le_trans HR2.out.size e)) hm7
      · refine fun k hk => ?_
        rcases hg7 k hk with e | e
        · rcases HTT.out.2.2 k e with e | e
          · exact .inl e
          · exact .inr (Nat.le_trans HR2.out.size e)
        · exact .inr (Nat.le_trans (Nat.le_trans HR2.out.size HTT.out.2.1.size) e)
    · have hd : decide ((W.conf.length : Int) > 1) = false := decide_eq_false (by omega)
      clear h1 hB1
      go_wp2_with (first | (go_at_call 36; refine HL.out.mono ?_; rintro e w9 ⟨rfl, rfl⟩) | fail)
      go_end0
      exact Played.same HH.out HI.out HM1.out
end Go.Proofs.Ytefhgakcffhgaab
