/- A log that begins with another one is told so (package plain), where no command writes anything. -/
import Derived.Test.YtefhgakcffhgaabWb
namespace Go.Proofs.Ytefhgakcffhgaab
open Go.RowKit Go.Lib Go.Maps
set_option linter.unusedVariables false

set_option maxRecDepth 100000 in
set_option maxHeartbeats 4000000 in
theorem cmd_bare (k t m : Int) (a b : Option Addr) (acap bcap : Nat) (w : World) :
    Calls Try.prog 71 #[.agg #[.int .i64 k, .int .i64 t, .int .i64 m, .slice a 0 acap], .agg #[.int .i64 k, .int .i64 t, .int .i64 m, .slice b 0 bcap]] w fun e w' => e = .returned (.bool true) ∧ Mod noBlock w w' := by
  have hM1 : Mod noBlock w ((w.alloc (.cells #[.int .i64 k, .int .i64 t, .int .i64 m, .slice a 0 acap] 49)).alloc (.cells #[.int .i64 k, .int .i64 t, .int .i64 m, .slice b 0 bcap] 49)) := ((Mod.refl _ w).alloc _).alloc _
  go_enter Try.func71, Try.ntmps71
  go_wp2_with fail
  go_loopw [37] (fun i wr => i = .int .i64 0 ∧ Mod noBlock w wr) (fun i _ => 0)
  case atStart => exact ⟨rfl, hM1⟩
  case round =>
    obtain ⟨rfl, hM⟩ := hrel
    go_wp2_with fail
    go_ret
    exact ⟨rfl, hM⟩
set_option maxRecDepth 100000 in
set_option maxHeartbeats 4000000 in
theorem begins_bare (L L' : Nat) (ls cs : List CmdD) (va vb : Value) (w : World) (hp : cs <+: ls) (ha : RowC w L va ls) (hb : RowC w L' vb cs) (hw : ∀ c ∈ cs, c.writes = []) :
    Calls Try.prog 50 #[va, vb] w fun e w' => e = .returned (.bool true) ∧ Mod noBlock w w' := by
  obtain ⟨a, acap, rfl⟩ := ha.slice
  obtain ⟨b, bcap, rfl⟩ := hb.slice
  have hll : cs.length ≤ ls.length := hp.length_le
  have hd0 : decide (ls.length < cs.length) = false := decide_eq_false (by omega)
  have hd1 : ¬ ls.length < cs.length := by omega
  have HA := Hid.mk' ha
  have HB := Hid.mk' hb
  have HW := Hid.mk' hw
  have HPR := Hid.mk' hp
  clear ha hb hw hp
  go_enter Try.func50, Try.ntmps50
  go_wp2_with fail
  go_loopw [13] (fun i wr => ∃ k : Nat, k ≤ cs.length ∧ i = .int .i64 k ∧ Mod noBlock w wr) (fun i _ => cs.length - (intOf i).toNat)
  case atStart => exact ⟨0, Nat.zero_le _, rfl, Mod.refl _ _⟩
  case round =>
    obtain ⟨k, hk, rfl, hM⟩ := hrel
    by_cases hlt : k < cs.length
    · obtain ⟨c, hc⟩ : ∃ c, cs[k]? = some c := ⟨_, List.getElem?_eq_getElem hlt⟩
      have hc' : ls[k]? = some c := prefix_get HPR.out hc
      obtain ⟨ga, ca, ua, hva, _, hca, hua, _, q0, q1, q2, q3⟩ := (HA.out.mod hM (Qm.none _ _) (fun _ _ => id)).at hc'
      obtain ⟨gb, cb, ub, hvb, _, hcb, hub, _, r0, r1, r2, r3⟩ := (HB.out.mod hM (Qm.none _ _) (fun _ _ => id)).at hc
      simp only [Value.slice.injEq] at hva hvb
      obtain ⟨rfl, _, rfl⟩ := hva
      obtain ⟨rfl, _, rfl⟩ := hvb
      have hcw := HW.out c (List.mem_of_getElem? hc)
      rw [hcw] at hua hub
      obtain ⟨ua1, ua2, rfl, _⟩ := hua
      obtain ⟨ub1, ub2, rfl, _⟩ := hub
      unfold maxLen at hca hcb
      have hltI : (k : Int) < (cs.length : Int) := by omega
      have hltA : (k : Int) < (ls.length : Int) := by omega
      have hlt0 : (0 : Int) ≤ (k : Int) := by omega
      have za : ga < wr.heap.size := World.block_lt_of_cell? wr _ q0
      have zb : gb < wr.heap.size := World.block_lt_of_cell? wr _ r0
      have HC := Hid.mk' (cmd_bare c.kind c.tx c.time ua1 ub1 ua2 ub2 wr.drew)
      have HM := Hid.mk' hM
      clear hc hc' hcw hM
      simp only [List.length_nil] at q3 r3 HC
      go_wp2_with fail
      go_region_with (first
        | (go_at_call 71; refine HC.out.mono ?_; rintro e w5 ⟨rfl, hm5⟩)
        | fail)
      all_goals go_wp2_with fail
      all_goals
        have hM5 : Mod noBlock w w5 := HM.out.drew.trans hm5
        go_roundw
        case rel => exact ⟨k + 1, by omega, by go_num, hM5⟩
        case measure => simp [intOf]; omega
    · go_wp2_with fail
      go_ret
      exact ⟨rfl, hM⟩
end Go.Proofs.Ytefhgakcffhgaab
