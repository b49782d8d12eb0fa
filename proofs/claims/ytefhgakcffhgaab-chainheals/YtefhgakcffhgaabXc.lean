/- The law's fact: a command goes down a chain of two. -/
import Derived.Test.YtefhgakcffhgaabWb
namespace Go.Proofs.Ytefhgakcffhgaab
open Go.RowKit Go.Lib Go.Maps
set_option linter.unusedVariables false

/-- Two nodes apart from each other. -/
structure PairP (w : World) (L a b : Nat) (na la nb lb : Value) (sa sb : NodeS) : Prop where
  pa : NodeP w L a na la sa
  pb : NodeP w L b nb lb sb
  ap : ∀ k, nodeMay a na la k → ¬ nodeMay b nb lb k
theorem PairP.quiet {w w' : World} {L a b : Nat} {na la nb lb : Value} {sa sb : NodeS} (h : PairP w L a b na la nb lb sa sb) (hm : Mod noBlock w w') : PairP w' L a b na la nb lb sa sb := ⟨h.pa.quiet hm, h.pb.quiet hm, h.ap⟩
theorem PairP.swap {w : World} {L a b : Nat} {na la nb lb : Value} {sa sb : NodeS} (h : PairP w L a b na la nb lb sa sb) : PairP w L b a nb lb na la sb sa := ⟨h.pb, h.pa, fun k h1 h2 => h.ap k h2 h1⟩
theorem PairP.turn {w w' : World} {L a b : Nat} {na la nb lb na' la' : Value} {sa sb sa' : NodeS} (h : PairP w L a b na la nb lb sa sb) (hN : NodeP w' L a na' la' sa') (hm : Mod (nodeMay a na la) w w') (h1 : Moved w na na') (h2 : Moved w la la') : PairP w' L a b na' la' nb lb sa' sb := by
  refine ⟨hN, h.pb.mod hm h.pa.qm (fun k hk e => h.ap k e hk), fun k hk e => ?_⟩
  have hlt := (h.pb.lt e).2.1
  rcases hk with hk | hk | hk
  · exact h.ap k (.inl hk) e
  · rcases h1 with h1 | h1
    · exact h.ap k (.inr (.inl (by rw [← h1]; exact hk))) e
    · have := h1 k hk; omega
  · rcases h2 with h2 | h2
    · exact h.ap k (.inr (.inr (by rw [← h2]; exact hk))) e
    · have := h2 k hk; omega
theorem PairP.mods {w0 w w' : World} {L a b : Nat} {na la nb lb : Value} {sa sb : NodeS} (h : PairP w L a b na la nb lb sa sb) (h0 : Mod noBlock w0 w) (hL : w0.heap.size ≤ L) (hm : Mod (nodeMay a na la) w w') : Mod noBlock w0 w' :=
  h0.trans' hm (fun i hi e => by have := (h.pa.lt e).1; omega)
def cA : CmdD := ⟨4, 7, 0, []⟩
def n1 : NodeS := ⟨1, 1, [1, 2], [], 0⟩
def n2 : NodeS := ⟨2, 1, [1, 2], [], 0⟩
def n1' : NodeS := ⟨1, 1, [1, 2], [cA], 0⟩
def n2' : NodeS := ⟨2, 1, [1, 2], [cA], 1⟩
def n1'' : NodeS := ⟨1, 1, [1, 2], [cA], 1⟩
def mF : MsgD := ⟨3, 1, 2, 1, 0, cA⟩
def mS : MsgD := ⟨4, 2, 1, 1, 1, zeroCmd⟩
theorem bec1 : (tickN (becN ⟨1, 0, [], [], 0⟩ 1 [1, 2])).1 = n1 := rfl
theorem bec2 : (tickN (becN ⟨2, 0, [], [], 0⟩ 1 [1, 2])).1 = n2 := rfl
theorem add1 : growN n1 cA = (n1', [mF]) := rfl
theorem stepF : stepN n2 mF = (n2', [mS]) := rfl
theorem stepS : stepN n1' mS = (n1'', []) := rfl
theorem NodeP.fresh {w : World} {g : Nat} {id : Int} (h : NodeP w g g (.slice none 0 0) (.slice none 0 0) ⟨id, 0, [], [], 0⟩) {L : Nat} (hL : L ≤ g) : NodeP w L g (.slice none 0 0) (.slice none 0 0) ⟨id, 0, [], [], 0⟩ :=
  ⟨h.blk, hL, World.ownsRow_nil _ _ _ _, RowC.nil _ _, h.ints, h.few, h.st⟩
theorem ints12 {w : World} {r : Nat} (h0 : w.cell? ⟨r, 0, none⟩ = some (.int .i64 1)) (h1 : w.cell? ⟨r, 1, none⟩ = some (.int .i64 2)) : IntsV w (.slice (some ⟨r, 0, none⟩) 2 2) [1, 2] := by
  refine ⟨some ⟨r, 0, none⟩, 2, rfl, Nat.le_refl _, by unfold maxLen; decide, .inr ⟨r, 0, rfl, fun j x hx => ?_⟩⟩
  have hj : j < 2 := by have := (List.getElem?_eq_some_iff.1 hx).1; simpa using this
  have : j = 0 ∨ j = 1 := by omega
  rcases this with rfl | rfl
  · simp at hx; subst hx; simpa using h0
  · simp at hx; subst hx; simpa using h1
/-- A row of one message, laid open. -/
theorem row1 {w : World} {L : Nat} {v : Value} {m : MsgD} (h : RowM w L v [m]) (hw : m.cmd.writes = []) : ∃ g cap ua uc, v = .slice (some ⟨g, 0, none⟩) 1 cap ∧ 1 ≤ cap ∧ cap ≤ maxLen ∧ PairsT w L (.slice ua 0 uc) m.cmd.writes ∧ goodM m ∧ g < w.heap.size ∧
    w.cell? ⟨g, 0, none⟩ = some (.int .i64 m.kind) ∧ w.cell? ⟨g, 1, none⟩ = some (.int .i64 m.frm) ∧ w.cell? ⟨g, 2, none⟩ = some (.int .i64 m.to) ∧ w.cell? ⟨g, 3, none⟩ = some (.int .i64 m.epoch) ∧ w.cell? ⟨g, 4, none⟩ = some (.int .i64 m.n) ∧ w.cell? ⟨g, 5, none⟩ = some (.int .i64 m.cmd.kind) ∧ w.cell? ⟨g, 6, none⟩ = some (.int .i64 m.cmd.tx) ∧ w.cell? ⟨g, 7, none⟩ = some (.int .i64 m.cmd.time) ∧ w.cell? ⟨g, 8, none⟩ = some (.slice ua 0 uc) := by
  obtain ⟨g, cap, u, hv, h1, h2, hu, hg, q0, q1, q2, q3, q4, q5, q6, q7, q8⟩ := h.at (i := 0) (m := m) rfl
  have hu' := hu
  obtain ⟨ua, uc, hu2, _⟩ := hu'
  rw [hw] at hu2
  subst hu2
  simp only [Nat.zero_mul, Nat.zero_add] at q0 q1 q2 q3 q4 q5 q6 q7 q8
  exact ⟨g, cap, ua, uc, hv, h1, h2, hu, hg, World.block_lt_of_cell? w _ q0, q0, q1, q2, q3, q4, q5, q6, q7, q8⟩
set_option maxRecDepth 100000 in
set_option maxHeartbeats 8000000 in
theorem chained_any (w : World) : Calls Try.prog 6 #[] w fun e w' => e = .returned (.bool true) ∧ Mod noBlock w w' := by
  have HN1 : Hid (∀ wq, Calls Try.prog 30 #[.int .i64 1] wq fun e w' => e = .returned (.pointer (some ⟨wq.heap.size, 0, none⟩)) ∧ NodeP w' wq.heap.size wq.heap.size (.slice none 0 0) (.slice none 0 0) ⟨1, 0, [], [], 0⟩ ∧ Mod noBlock wq w') := fun wq => cnew_any 1 wq ⟨by decide, by decide⟩
  have HN2 : Hid (∀ wq, Calls Try.prog 30 #[.int .i64 2] wq fun e w' => e = .returned (.pointer (some ⟨wq.heap.size, 0, none⟩)) ∧ NodeP w' wq.heap.size wq.heap.size (.slice none 0 0) (.slice none 0 0) ⟨2, 0, [], [], 0⟩ ∧ Mod noBlock wq w') := fun wq => cnew_any 2 wq ⟨by decide, by decide⟩
  go_enter Try.func6, Try.ntmps6
  go_wp2_with fail
  refine (HN1.out w).mono ?_
  rintro e w1 ⟨rfl, hN1, hm1⟩
  go_wp2_with fail
  refine (HN2.out w1).mono ?_
  rintro e w2 ⟨rfl, hN2, hm2⟩
  have hP : PairP w2 w.heap.size w.heap.size w1.heap.size (.slice none 0 0) (.slice none 0 0) (.slice none 0 0) (.slice none 0 0) ⟨1, 0, [], [], 0⟩ ⟨2, 0, [], [], 0⟩ := by
    have hz1 := hN1.blk.lt
    refine ⟨(hN1.fresh (Nat.le_refl _)).quiet hm2, hN2.fresh hm1.size, fun k h1 h2 => ?_⟩
    rcases h1 with h1 | h1 | h1
    · rcases h2 with h2 | h2 | h2
      · omega
      · simp [Value.ownBlock] at h2
      · simp [Value.ownBlock] at h2
    · simp [Value.ownBlock] at h1
    · simp [Value.ownBlock] at h1
  have hM2 := hm1.trans hm2
  obtain ⟨b, hb⟩ : ∃ q, q = w1.heap.size := ⟨_, rfl⟩
  rw [← hb] at hP ⊢
  have HP2 := Hid.mk' hP
  have HM2 := Hid.mk' hM2
  have hz2 := hM2.size
  have hz3 := hP.pb.blk.lt
  have hz4 := hP.pa.blk.lt
  clear hP hM2 hN1 hN2 hm1 hm2 HN1 HN2 hb
  go_upto_region 3 with fail
  obtain ⟨w3, hw3⟩ : ∃ q, q = (w2.alloc (.cells #[.int .i64 1, .int .i64 2] 3)).alloc (.cells #[.int .i64 1, .slice (some ⟨w2.heap.size, 0, none⟩) 2 2] 33) := ⟨_, rfl⟩
  have hm3 : Mod noBlock w2 w3 := by rw [hw3]; exact ((Mod.refl _ w2).alloc _).alloc _
  have hQ : Blk w3 (w2.heap.size + 1) [.int .i64 1, .slice (some ⟨w2.heap.size, 0, none⟩) 2 2] 33 := by
    rw [hw3]
    have := Blk.new (w2.alloc (.cells #[.int .i64 1, .int .i64 2] 3)) [.int .i64 1, .slice (some ⟨w2.heap.size, 0, none⟩) 2 2] 33
    simpa using this
  have hR : Blk w3 w2.heap.size [.int .i64 1, .int .i64 2] 3 := by
    rw [hw3]
    exact (Blk.new w2 [.int .i64 1, .int .i64 2] 3).mod ((Mod.refl noBlock _).alloc _) id
  rw [← hw3]
  clear hw3
  have hP3 := HP2.out.quiet hm3
  have hM3 := HM2.out.trans hm3
  have x0 := hQ.cell 0 rfl
  have x1 := hQ.cell 1 rfl
  have HB : Hid (Calls Try.prog 31 #[.pointer (some ⟨w.heap.size, 0, none⟩), .agg #[.int .i64 1, .slice (some ⟨w2.heap.size, 0, none⟩) 2 2]] w3 fun e w' => ∃ r nv' lv', e = .returned (.tuple #[r, .nilIface]) ∧ NodeP w' w.heap.size w.heap.size nv' lv' n1 ∧ RowM w' w.heap.size r (tickN (becN ⟨1, 0, [], [], 0⟩ 1 [1, 2])).2 ∧ freshV w3 r ∧ freshV w3 nv' ∧ Moved w3 (.slice none 0 0) lv' ∧ Mod (oneBlock w.heap.size) w3 w') := cbec_yes w.heap.size _ _ _ _ 1 _ [1, 2] w3 hP3.pa (by decide) ⟨by decide, by decide⟩ (ints12 (hR.cell 0 rfl) (hR.cell 1 rfl)) (fun x hx => by simp at hx; unfold int64; omega) (by decide) (by decide) (by decide)
  have HP3 := Hid.mk' hP3
  have HM3 := Hid.mk' hM3
  have HQ3 := Hid.mk' hQ
  have HR3 := Hid.mk' hR
  clear hP3 hM3 hQ hR hm3 HP2 HM2
  go_wp2_with fail
  refine HB.out.mono ?_
  rintro e w4 ⟨r4, nv4, lv4, rfl, hN4, hR4, hf4, hnv4, hlv4, hm4⟩
  have hP4 := HP3.out.turn hN4 (hm4.mono (fun k _ e => .inl e)) (.inr hnv4) hlv4
  have hM4 := HP3.out.mods HM3.out (Nat.le_refl _) (hm4.mono (fun k _ e => .inl e))
  have hQ4 := HQ3.out.mod hm4 (fun e => by simp only [oneBlock] at e; omega)
  have hR4' := HR3.out.mod hm4 (fun e => by simp only [oneBlock] at e; omega)
  have x0 := hQ4.cell 0 rfl
  have x1 := hQ4.cell 1 rfl
  have HB2 : Hid (Calls Try.prog 31 #[.pointer (some ⟨b, 0, none⟩), .agg #[.int .i64 1, .slice (some ⟨w2.heap.size, 0, none⟩) 2 2]] w4 fun e w' => ∃ r nv' lv', e = .returned (.tuple #[r, .nilIface]) ∧ NodeP w' w.heap.size b nv' lv' n2 ∧ RowM w' w.heap.size r (tickN (becN ⟨2, 0, [], [], 0⟩ 1 [1, 2])).2 ∧ freshV w4 r ∧ freshV w4 nv' ∧ Moved w4 (.slice none 0 0) lv' ∧ Mod (oneBlock b) w4 w') := cbec_yes w.heap.size _ _ _ _ 1 _ [1, 2] w4 hP4.pb (by decide) ⟨by decide, by decide⟩ (ints12 (hR4'.cell 0 rfl) (hR4'.cell 1 rfl)) (fun x hx => by simp at hx; unfold int64; omega) (by decide) (by decide) (by decide)
  have HP4 := Hid.mk' hP4
  have HM4 := Hid.mk' hM4
  clear hP4 hM4 hQ4 hR4' hN4 hR4 hf4 hnv4 hlv4 hm4 HB HP3 HM3 HQ3 HR3
  go_wp2_with fail
  refine HB2.out.mono ?_
  rintro e w5 ⟨r5, nv5, lv5, rfl, hN5, hR5, hf5, hnv5, hlv5, hm5⟩
  have hP5 := (HP4.out.swap.turn hN5 (hm5.mono (fun k _ e => .inl e)) (.inr hnv5) hlv5).swap
  have hM5 := HP4.out.swap.mods HM4.out (Nat.le_refl _) (hm5.mono (fun k _ e => .inl e))
  have HA : Hid (Calls Try.prog 32 #[.pointer (some ⟨w.heap.size, 0, none⟩), .agg #[.int .i64 4, .int .i64 7, .int .i64 0, .slice none 0 0]] w5 fun e w' => ∃ v lv', e = .returned (.tuple #[.int .i64 0, v, .nilIface]) ∧ NodeP w' w.heap.size w.heap.size nv4 lv' n1' ∧ RowM w' w.heap.size v [mF] ∧ freshV w5 v ∧ Moved w5 lv4 lv' ∧ Mod (nodeMay w.heap.size nv4 lv4) w5 w') := cadd_yes w.heap.size _ _ _ _ cA (.slice none 0 0) w5 hP5.pa rfl (by decide) (PairsT.nil _ _) ⟨⟨⟨by decide, by decide⟩, ⟨by decide, by decide⟩, ⟨by decide, by decide⟩⟩, by decide⟩
  have HP5 := Hid.mk' hP5
  have HM5 := Hid.mk' hM5
  clear hP5 hM5 hN5 hR5 hf5 hnv5 hlv5 hm5 HB2 HP4 HM4 x0 x1
  go_wp2_with fail
  refine HA.out.mono ?_
  rintro e w6 ⟨v6, lv6, rfl, hN6, hR6, hf6, hlv6, hm6⟩
  have hP6 := HP5.out.turn hN6 hm6 (.inl rfl) hlv6
  have hM6 := HP5.out.mods HM5.out (Nat.le_refl _) hm6
  obtain ⟨g6, c6, ua6, uc6, rfl, hc61, hc62, hu6, hg6, zg6, q0, q1, q2, q3, q4, q5, q6, q7, q8⟩ := row1 hR6 rfl
  have HS : Hid (Calls Try.prog 16 #[.pointer (some ⟨b, 0, none⟩), .agg #[.int .i64 mF.kind, .int .i64 mF.frm, .int .i64 mF.to, .int .i64 mF.epoch, .int .i64 mF.n, .int .i64 mF.cmd.kind, .int .i64 mF.cmd.tx, .int .i64 mF.cmd.time, .slice ua6 0 uc6]] w6 fun e w' => ∃ v lv', e = .returned v ∧ NodeP w' w.heap.size b nv5 lv' n2' ∧ RowM w' w.heap.size v [mS] ∧ freshV w6 v ∧ Moved w6 lv5 lv' ∧ Mod (nodeMay b nv5 lv5) w6 w') := cstep_any w.heap.size _ _ _ _ mF _ w6 hP6.pb hu6 hg6
  have HP6 := Hid.mk' hP6
  have HM6 := Hid.mk' hM6
  unfold maxLen at hc62
  clear hP6 hM6 hN6 hR6 hf6 hlv6 hm6 HA HP5 HM5 hu6 hg6
  go_wp2_with fail
  refine HS.out.mono ?_
  rintro e w7 ⟨v7, lv7, rfl, hN7, hR7, hf7, hlv7, hm7⟩
  have hP7 := (HP6.out.swap.turn hN7 hm7 (.inl rfl) hlv7).swap
  have hM7 := HP6.out.swap.mods HM6.out (Nat.le_refl _) hm7
  obtain ⟨g7, c7, ua7, uc7, rfl, hc71, hc72, hu7, hg7, zg7, p0, p1, p2, p3, p4, p5, p6, p7, p8⟩ := row1 hR7 rfl
  have HL : Hid (Calls Try.prog 20 #[.pointer (some ⟨b, 0, none⟩)] w7 fun e w' => e = .returned (.int .i64 1) ∧ w' = w7) := clen_any w.heap.size _ _ _ _ w7 hP7.pb
  have HT : Hid (Calls Try.prog 19 #[.pointer (some ⟨w.heap.size, 0, none⟩)] w7 fun e w' => e = .returned (.int .i64 0) ∧ w' = w7) := cstable_any w.heap.size _ _ _ _ w7 hP7.pa
  have HS2 : Hid (Calls Try.prog 16 #[.pointer (some ⟨w.heap.size, 0, none⟩), .agg #[.int .i64 mS.kind, .int .i64 mS.frm, .int .i64 mS.to, .int .i64 mS.epoch, .int .i64 mS.n, .int .i64 mS.cmd.kind, .int .i64 mS.cmd.tx, .int .i64 mS.cmd.time, .slice ua7 0 uc7]] w7 fun e w' => ∃ v lv', e = .returned v ∧ NodeP w' w.heap.size w.heap.size nv4 lv' n1'' ∧ RowM w' w.heap.size v [] ∧ freshV w7 v ∧ Moved w7 lv6 lv' ∧ Mod (nodeMay w.heap.size nv4 lv6) w7 w') := cstep_any w.heap.size _ _ _ _ mS _ w7 hP7.pa hu7 hg7
  have HP7 := Hid.mk' hP7
  have HM7 := Hid.mk' hM7
  unfold maxLen at hc72
  clear hP7 hM7 hN7 hR7 hf7 hlv7 hm7 HS HP6 HM6 hu7 hg7 q0 q1 q2 q3 q4 q5 q6 q7 q8
  go_wp2_with (first
    | (go_at_call 20; refine HL.out.mono ?_; rintro e w9 ⟨rfl, rfl⟩)
    | (go_at_call 19; refine HT.out.mono ?_; rintro e w9 ⟨rfl, rfl⟩)
    | fail)
  refine HS2.out.mono ?_
  rintro e w8 ⟨v8, lv8, rfl, hN8, hR8, hf8, hlv8, hm8⟩
  have hP8 := HP7.out.turn hN8 hm8 (.inl rfl) hlv8
  have hM8 := HP7.out.mods HM7.out (Nat.le_refl _) hm8
  have HT1 : Hid (Calls Try.prog 19 #[.pointer (some ⟨w.heap.size, 0, none⟩)] w8 fun e w' => e = .returned (.int .i64 1) ∧ w' = w8) := cstable_any w.heap.size _ _ _ _ w8 hP8.pa
  have HT2 : Hid (Calls Try.prog 19 #[.pointer (some ⟨b, 0, none⟩)] w8 fun e w' => e = .returned (.int .i64 1) ∧ w' = w8) := cstable_any w.heap.size _ _ _ _ w8 hP8.pb
  have HM8 := Hid.mk' hM8
  clear hP8 hM8 hN8 hR8 hf8 hlv8 hm8 HS2 HP7 HM7 p0 p1 p2 p3 p4 p5 p6 p7 p8
  go_wp2_with (first
    | (go_at_call 19; refine HT1.out.mono ?_; rintro e w9 ⟨rfl, rfl⟩)
    | (go_at_call 19; refine HT2.out.mono ?_; rintro e w9 ⟨rfl, rfl⟩)
    | fail)
  go_ret
  exact ⟨rfl, HM8.out⟩
end Go.Proofs.Ytefhgakcffhgaab
