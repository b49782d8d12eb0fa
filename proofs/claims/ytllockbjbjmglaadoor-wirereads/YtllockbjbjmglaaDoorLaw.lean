/- The law WireReads, walked. -/
import Derived.Test.YtllockbjbjmglaaDoorEr2
import Derived.Test.YtllockbjbjmglaaDoorEq3
namespace Go.Proofs.YtllockbjbjmglaaDoor
open Go.RowKit Go.Lib

theorem wireReads_long (a : Option Addr) (len cap : Nat) (w : World) (h : 3000 < len) (hc : (len : Int) ≤ 9223372036854775807) :
    Calls Tryd.prog 4 #[.slice a len cap] w fun e w' => e = .returned (.bool true) ∧ Mod noBlock w w' := by
  go_enter Tryd.func4, Tryd.ntmps4
  go_wp2_with fail
  go_ret
  exact ⟨rfl, Mod.refl _ _⟩

theorem BAt.up {w : World} {L L' : Nat} {v : Value} {bs : List Int} (h : BAt w L v bs) (hL : L ≤ L') : BAt w L' v bs := by
  obtain ⟨h0, a, cap, h1, h2, h3, h4⟩ := h
  refine ⟨h0, a, cap, h1, h2, h3, ?_⟩
  rcases h4 with h4 | ⟨b, off, h5, h6, h7⟩
  · exact .inl h4
  · exact .inr ⟨b, off, h5, Nat.lt_of_lt_of_le h6 hL, h7⟩

set_option maxRecDepth 100000 in
set_option maxHeartbeats 4000000 in
theorem wireReads_any (bs : List Int) (v0 : Value) (w : World) (h : BAt w w.heap.size v0 bs) (hbl : bs.length ≤ 3000) (het : ET w) :
    Calls Tryd.prog 4 #[v0] w fun e w' => e = .returned (.bool true) ∧ Mod noBlock w w' := by
  have h' := h
  obtain ⟨hby, a, cap, rfl, hlc, hcm, _⟩ := h'
  unfold maxLen at hcm
  have hE1 := readMsg_eq bs hby
  have hE2 := readLog_eq bs hby
  have X1 := Hid.mk' (eReadMsg_any bs _ w h hbl)
  rw [hE1] at X1
  obtain ⟨pm, hpm⟩ : ∃ q, q = pReadMsg bs := ⟨_, rfl⟩
  obtain ⟨pl, hpl⟩ : ∃ q, q = pReadLog bs := ⟨_, rfl⟩
  rw [← hpm] at X1
  have HBAT := Hid.mk' h
  have HET := Hid.mk' het
  have HPM : Hid (pm = pReadMsg bs) := hpm
  have HPL : Hid (pl = pReadLog bs) := hpl
  have HEL : Hid (eReadLog bs = pReadLog bs) := hE2
  clear hE1 hE2 hby h het hpm hpl
  go_enter Tryd.func4, Tryd.ntmps4
  go_wp2_with fail
  refine X1.out.mono ?_
  rintro e w1 ⟨v1, rfl, hown1, hm1⟩
  have hP1 := PairsR.of_own hown1 (Nat.le_refl _)
  obtain ⟨va, vc, rfl⟩ := own_slice hown1
  obtain ⟨m, hm⟩ : ∃ m, m = pm.getD zeroMsg := ⟨_, rfl⟩
  rw [← hm] at hP1 ⊢
  have HMM : Hid (m = pm.getD zeroMsg) := hm
  clear hown1 X1 hm
  simp only [msgV]
  have hA1 := Blk.new w1 [.int .i64 m.kind, .int .i64 m.frm, .int .i64 m.to, .int .i64 m.epoch, .int .i64 m.n, .int .i64 m.cmd.kind, .int .i64 m.cmd.tx, .int .i64 m.cmd.time, .slice va m.cmd.writes.length vc] 26
  have hM1 := hm1.alloc (.cells #[.int .i64 m.kind, .int .i64 m.frm, .int .i64 m.to, .int .i64 m.epoch, .int .i64 m.n, .int .i64 m.cmd.kind, .int .i64 m.cmd.tx, .int .i64 m.cmd.time, .slice va m.cmd.writes.length vc] 26)
  have hP1a := hP1.mod ((Mod.refl noBlock w1).alloc (.cells #[.int .i64 m.kind, .int .i64 m.frm, .int .i64 m.to, .int .i64 m.epoch, .int .i64 m.n, .int .i64 m.cmd.kind, .int .i64 m.cmd.tx, .int .i64 m.cmd.time, .slice va m.cmd.writes.length vc] 26)) (fun _ _ => id)
  have hz1 := hm1.size
  have X2 := Hid.mk' (readMsg_any bs _ _ ((HBAT.out.mod hM1 (fun _ _ => id)).up (show w.heap.size ≤ (w1.alloc (.cells #[.int .i64 m.kind, .int .i64 m.frm, .int .i64 m.to, .int .i64 m.epoch, .int .i64 m.n, .int .i64 m.cmd.kind, .int .i64 m.cmd.tx, .int .i64 m.cmd.time, .slice va m.cmd.writes.length vc] 26)).heap.size by simp; omega)))
  rw [← HPM.out, ← HMM.out] at X2
  clear hP1 hm1
  go_wp2_with fail
  refine X2.out.mono ?_
  rintro e w2 ⟨v2, rfl, hown2, hm2⟩
  have hP2 := PairsR.of_own hown2 (Nat.le_refl _)
  obtain ⟨vb, vd, rfl⟩ := own_slice hown2
  have hA2 := hA1.mod hm2 id
  have hP1b := hP1a.mod hm2 (fun _ _ => id)
  have hM2 := hM1.trans hm2
  have hz2 : w1.heap.size < w2.heap.size := hA2.lt
  clear hown2 X2 hA1 hP1a hM1 hm2
  simp only [msgV]
  have hB2 := Blk.new w2 [.int .i64 m.kind, .int .i64 m.frm, .int .i64 m.to, .int .i64 m.epoch, .int .i64 m.n, .int .i64 m.cmd.kind, .int .i64 m.cmd.tx, .int .i64 m.cmd.time, .slice vb m.cmd.writes.length vd] 26
  have hal2 := (Mod.refl noBlock w2).alloc (.cells #[.int .i64 m.kind, .int .i64 m.frm, .int .i64 m.to, .int .i64 m.epoch, .int .i64 m.n, .int .i64 m.cmd.kind, .int .i64 m.cmd.tx, .int .i64 m.cmd.time, .slice vb m.cmd.writes.length vd] 26)
  have hA3 := hA2.mod hal2 id
  have hP1c := hP1b.mod hal2 (fun _ _ => id)
  have hP2c := hP2.mod hal2 (fun _ _ => id)
  have hM3 := hM2.trans hal2
  have X3 := Hid.mk' (eReadLog_any bs _ _ ((HBAT.out.mod hM3 (fun _ _ => id)).up (show w.heap.size ≤ (w2.alloc (.cells #[.int .i64 m.kind, .int .i64 m.frm, .int .i64 m.to, .int .i64 m.epoch, .int .i64 m.n, .int .i64 m.cmd.kind, .int .i64 m.cmd.tx, .int .i64 m.cmd.time, .slice vb m.cmd.writes.length vd] 26)).heap.size by simp; omega)) hbl)
  rw [HEL.out, ← HPL.out] at X3
  clear hA2 hP1b hP2 hM2 hal2
  go_wp2_with fail
  refine X3.out.mono ?_
  rintro e w3 ⟨v3, rfl, hat3, hm3⟩
  have hA4 := hA3.mod hm3 id
  have hB4 := hB2.mod hm3 id
  have hP1d := hP1c.mod hm3 (fun _ _ => id)
  have hP2d := hP2c.mod hm3 (fun _ _ => id)
  have hM4 := hM3.trans hm3
  have hL4 := CmdsR.of_at hat3 (Nat.le_refl _)
  have X4 := Hid.mk' (readLog_any bs _ _ ((HBAT.out.mod hM4 (fun _ _ => id)).up hM4.size))
  rw [← HPL.out] at X4
  clear hA3 hB2 hP1c hP2c hM3 hm3 hat3 X3
  go_wp2_with fail
  refine X4.out.mono ?_
  rintro e w4 ⟨v4, rfl, hat4, hm4⟩
  have hA5 := hA4.mod hm4 id
  have hB5 := hB4.mod hm4 id
  have hP1e := hP1d.mod hm4 (fun _ _ => id)
  have hP2e := hP2d.mod hm4 (fun _ _ => id)
  have hM5 := hM4.trans hm4
  have hL5 := hL4.mod hm4 (fun _ _ => id)
  have hK5 := CmdsR.of_at hat4 (Nat.le_refl _)
  clear hA4 hB4 hP1d hP2d hM4 hL4 hm4 hat4 X4
  have HA := Hid.mk' hA5
  have HB := Hid.mk' hB5
  have HP1 := Hid.mk' hP1e
  have HP2 := Hid.mk' hP2e
  have HL := Hid.mk' hL5
  have HK := Hid.mk' hK5
  have HM := Hid.mk' hM5
  clear hA5 hB5 hP1e hP2e hL5 hK5 hM5
  -- the first error
  have Y1 : Calls Tryd.prog 9 #[errV pm.isSome 3, .int .i64 (noErr pm.isSome)] w4 fun ev w' => ev = .returned (.bool true) ∧ Mod noBlock w4 w' := by
    cases pm.isSome
    · exact bare_errno 3 3 w4 (HET.out.mod HM.out)
    · exact bare_nil 0 w4
  have HY1 := Hid.mk' Y1
  clear Y1
  go_wp2_with fail
  refine HY1.out.mono ?_
  rintro ev w5 ⟨rfl, hm5⟩
  obtain ⟨⟨x0, x1, x2, x3, x4, x5, x6, x7, x8⟩, _⟩ := blk9 (HA.out.mod hm5 id)
  obtain ⟨⟨y0, y1, y2, y3, y4, y5, y6, y7, y8⟩, _⟩ := blk9 (HB.out.mod hm5 id)
  go_wp2_with fail
  refine (msg_same w2.heap.size w1.heap.size m _ _ _ (HP2.out.mod hm5 (fun _ _ => id)) (HP1.out.mod hm5 (fun _ _ => id))).mono ?_
  rintro ev w6 ⟨rfl, hm6⟩
  clear x0 x1 x2 x3 x4 x5 x6 x7 x8 y0 y1 y2 y3 y4 y5 y6 y7 y8
  have hm46 := hm5.trans hm6
  have Y2 : Calls Tryd.prog 9 #[errV pl.isSome 3, .int .i64 (noErr pl.isSome)] w6 fun ev w' => ev = .returned (.bool true) ∧ Mod noBlock w6 w' := by
    cases pl.isSome
    · exact bare_errno 3 3 w6 ((HET.out.mod HM.out).mod hm46)
    · exact bare_nil 0 w6
  have HY2 := Hid.mk' Y2
  clear Y2 hm5 hm6
  go_wp2_with fail
  refine HY2.out.mono ?_
  rintro ev w7 ⟨rfl, hm7⟩
  have hm47 := hm46.trans hm7
  clear hm46 hm7
  go_wp2_with fail
  refine (log_same w4.heap.size w3.heap.size (pl.getD []) _ _ _ (HK.out.mod hm47 (fun _ _ => id)) (HL.out.mod hm47 (fun _ _ => id))).mono ?_
  rintro ev w8 ⟨rfl, hm8⟩
  go_wp2_with fail
  go_ret
  exact ⟨rfl, (HM.out.trans hm47).trans hm8⟩
end Go.Proofs.YtllockbjbjmglaaDoor
