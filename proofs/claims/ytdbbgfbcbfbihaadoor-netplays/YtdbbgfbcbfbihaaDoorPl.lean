/- Two commands, two logs, two messages that are the same are told so (package plain). -/
import Derived.Test.YtdbbgfbcbfbihaaDoorRg3
namespace Go.Proofs.YtdbbgfbcbfbihaaDoor
open Go.RowKit Go.Lib

set_option maxRecDepth 100000 in
set_option maxHeartbeats 4000000 in
theorem cmd_same (L L' : Nat) (c : CmdD) (va vb : Value) (w : World) (ha : PairsR w L va c.writes) (hb : PairsR w L' vb c.writes) :
    Calls Tryd.prog 80 #[.agg #[.int .i64 c.kind, .int .i64 c.tx, .int .i64 c.time, va], .agg #[.int .i64 c.kind, .int .i64 c.tx, .int .i64 c.time, vb]] w fun e w' => e = .returned (.bool true) ∧ Mod noBlock w w' := by
  obtain ⟨kind, tx, time, ps⟩ := c
  simp only at *
  have ha0 := ha
  have hb0 := hb
  obtain ⟨a, acap, rfl, hapc, hacm, _⟩ := ha0
  obtain ⟨b, bcap, rfl, hbpc, hbcm, _⟩ := hb0
  unfold maxLen at hacm hbcm
  have hA1 := (Blk.new w [.int .i64 kind, .int .i64 tx, .int .i64 time, .slice a ps.length acap] 24).mod ((Mod.refl noBlock _).alloc (.cells #[.int .i64 kind, .int .i64 tx, .int .i64 time, .slice b ps.length bcap] 24)) id
  have hB1 : Blk ((w.alloc (.cells #[.int .i64 kind, .int .i64 tx, .int .i64 time, .slice a ps.length acap] 24)).alloc (.cells #[.int .i64 kind, .int .i64 tx, .int .i64 time, .slice b ps.length bcap] 24)) (w.heap.size + 1) [.int .i64 kind, .int .i64 tx, .int .i64 time, .slice b ps.length bcap] 24 := by
    have := Blk.new (w.alloc (.cells #[.int .i64 kind, .int .i64 tx, .int .i64 time, .slice a ps.length acap] 24)) [.int .i64 kind, .int .i64 tx, .int .i64 time, .slice b ps.length bcap] 24
    simpa using this
  have hM1 : Mod noBlock w ((w.alloc (.cells #[.int .i64 kind, .int .i64 tx, .int .i64 time, .slice a ps.length acap] 24)).alloc (.cells #[.int .i64 kind, .int .i64 tx, .int .i64 time, .slice b ps.length bcap] 24)) := ((Mod.refl _ w).alloc _).alloc _
  go_enter Tryd.func80, Tryd.ntmps80
  go_wp2_with fail
  go_loopw [37] (fun i wr => ∃ k : Nat, k ≤ ps.length ∧ i = .int .i64 k ∧ Blk wr w.heap.size [.int .i64 kind, .int .i64 tx, .int .i64 time, .slice a ps.length acap] 24 ∧ Blk wr (w.heap.size + 1) [.int .i64 kind, .int .i64 tx, .int .i64 time, .slice b ps.length bcap] 24 ∧ Mod noBlock w wr) (fun i _ => ps.length - (intOf i).toNat)
  case atStart => exact ⟨0, Nat.zero_le _, rfl, hA1, hB1, hM1⟩
  case round =>
    obtain ⟨k, hk, rfl, hA, hB, hM⟩ := hrel
    clear hA1 hB1 hM1
    by_cases hlt : k < ps.length
    · obtain ⟨a', acap', ha', _, _, hacl⟩ := ha.mod hM (fun _ _ => id)
      simp only [Value.slice.injEq] at ha'
      obtain ⟨rfl, _, rfl⟩ := ha'
      obtain ⟨b', bcap', hb', _, _, hbcl⟩ := hb.mod hM (fun _ _ => id)
      simp only [Value.slice.injEq] at hb'
      obtain ⟨rfl, _, rfl⟩ := hb'
      rcases hacl with rfl | ⟨ab, aoff, rfl, _, hacl⟩
      · simp at hlt
      rcases hbcl with rfl | ⟨bb, boff, rfl, _, hbcl⟩
      · simp at hlt
      obtain ⟨p, hp⟩ : ∃ p, ps[k]? = some p := ⟨_, List.getElem?_eq_getElem hlt⟩
      obtain ⟨q0, q1, q2⟩ := hacl k p hp
      obtain ⟨r0, r1, r2⟩ := hbcl k p hp
      have a3 := hA.cell 3 rfl
      have b3 := hB.cell 3 rfl
      have hltI : (k : Int) < (ps.length : Int) := by omega
      have hlt0 : (0 : Int) ≤ (k : Int) := by omega
      obtain ⟨key, val, gone⟩ := p
      simp only at q0 q1 q2 r0 r1 r2
      clear hacl hbcl hp ha hb
      go_wp2_with fail
      go_quiet (fail)
      go_wp2_with fail
      go_roundw
      case rel => exact ⟨k + 1, by omega, by go_num, hA, hB, hM.drewN _⟩
      case measure => simp [intOf]; omega
    · go_wp2_with fail
      go_ret
      exact ⟨rfl, hM⟩

set_option maxRecDepth 100000 in
set_option maxHeartbeats 4000000 in
theorem begins_same (L L' : Nat) (cs : List CmdD) (va vb : Value) (w : World) (ha : CmdsR w L va cs) (hb : CmdsR w L' vb cs) :
    Calls Tryd.prog 81 #[va, vb] w fun e w' => e = .returned (.bool true) ∧ Mod noBlock w w' := by
  have ha0 := ha
  have hb0 := hb
  obtain ⟨a, acap, rfl, hapc, hacm, _⟩ := ha0
  obtain ⟨b, bcap, rfl, hbpc, hbcm, _⟩ := hb0
  unfold maxLen at hacm hbcm
  go_enter Tryd.func81, Tryd.ntmps81
  go_wp2_with fail
  go_loopw [13] (fun i wr => ∃ k : Nat, k ≤ cs.length ∧ i = .int .i64 k ∧ Mod noBlock w wr) (fun i _ => cs.length - (intOf i).toNat)
  case atStart => exact ⟨0, Nat.zero_le _, rfl, Mod.refl _ _⟩
  case round =>
    obtain ⟨k, hk, rfl, hM⟩ := hrel
    by_cases hlt : k < cs.length
    · obtain ⟨a', acap', ha', _, _, hacl⟩ := ha.mod hM (fun _ _ => id)
      simp only [Value.slice.injEq] at ha'
      obtain ⟨rfl, _, rfl⟩ := ha'
      obtain ⟨b', bcap', hb', _, _, hbcl⟩ := hb.mod hM (fun _ _ => id)
      simp only [Value.slice.injEq] at hb'
      obtain ⟨rfl, _, rfl⟩ := hb'
      rcases hacl with rfl | ⟨ab, aoff, rfl, _, hacl⟩
      · simp at hlt
      rcases hbcl with rfl | ⟨bb, boff, rfl, _, hbcl⟩
      · simp at hlt
      obtain ⟨c, hc⟩ : ∃ c, cs[k]? = some c := ⟨_, List.getElem?_eq_getElem hlt⟩
      obtain ⟨u, q0, q1, q2, q3, hu⟩ := hacl k c hc
      obtain ⟨v, r0, r1, r2, r3, hv⟩ := hbcl k c hc
      have HU : Hid (PairsR wr L u c.writes) := hu
      have HV : Hid (PairsR wr L' v c.writes) := hv
      have hltI : (k : Int) < (cs.length : Int) := by omega
      have hlt0 : (0 : Int) ≤ (k : Int) := by omega
      clear hacl hbcl hc ha hb hu hv
      go_wp2_with fail
      go_region_with (first
        | (go_at_call 80; refine (cmd_same L L' c u v _ (HU.out.mod ((Mod.refl noBlock wr).drew) (fun _ _ => id)) (HV.out.mod ((Mod.refl noBlock wr).drew) (fun _ _ => id))).mono ?_; rintro e w5 ⟨rfl, hm5⟩)
        | fail)
      all_goals go_wp2_with fail
      all_goals
        have hM5 : Mod noBlock w w5 := hM.drew.trans hm5
        go_roundw
        case rel => exact ⟨k + 1, by omega, by go_num, hM5⟩
        case measure => simp [intOf]; omega
    · go_wp2_with fail
      go_ret
      exact ⟨rfl, hM⟩
theorem log_same (L L' : Nat) (cs : List CmdD) (va vb : Value) (w : World) (ha : CmdsR w L va cs) (hb : CmdsR w L' vb cs) :
    Calls Tryd.prog 23 #[va, vb] w fun e w' => e = .returned (.bool true) ∧ Mod noBlock w w' := by
  have ha0 := ha
  have hb0 := hb
  obtain ⟨a, acap, rfl, hapc, hacm, _⟩ := ha0
  obtain ⟨b, bcap, rfl, hbpc, hbcm, _⟩ := hb0
  unfold maxLen at hacm hbcm
  go_enter Tryd.func23, Tryd.ntmps23
  go_wp2_with (first | (go_at_call 81; refine (begins_same L L' cs _ _ _ ha hb).mono ?_; rintro e w5 ⟨rfl, hm5⟩) | fail)
  go_ret
  exact ⟨rfl, hm5⟩
set_option maxRecDepth 100000 in
set_option maxHeartbeats 4000000 in
theorem msg_same (L L' : Nat) (m : MsgD) (va vb : Value) (w : World) (ha : PairsR w L va m.cmd.writes) (hb : PairsR w L' vb m.cmd.writes) :
    Calls Tryd.prog 22 #[msgV m va, msgV m vb] w fun e w' => e = .returned (.bool true) ∧ Mod noBlock w w' := by
  obtain ⟨kind, frm, dst, epoch, n, c⟩ := m
  simp only [msgV] at *
  have ha0 := ha
  have hb0 := hb
  obtain ⟨a, acap, rfl, hapc, hacm, _⟩ := ha0
  obtain ⟨b, bcap, rfl, hbpc, hbcm, _⟩ := hb0
  have HA : Hid (PairsR w L (.slice a c.writes.length acap) c.writes) := ha
  have HB : Hid (PairsR w L' (.slice b c.writes.length bcap) c.writes) := hb
  clear ha hb
  go_enter Tryd.func22, Tryd.ntmps22
  go_wp2_with (first | (go_at_call 80; refine (cmd_same L L' c _ _ _ (HA.out.mod (((Mod.refl noBlock w).alloc _).alloc _) (fun _ _ => id)) (HB.out.mod (((Mod.refl noBlock w).alloc _).alloc _) (fun _ _ => id))).mono ?_; rintro e w5 ⟨rfl, hm5⟩) | fail)
  go_ret
  exact ⟨rfl, (((Mod.refl noBlock w).alloc _).alloc _).trans hm5⟩
end Go.Proofs.YtdbbgfbcbfbihaaDoor
