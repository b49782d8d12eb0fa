/- The program's net: who is down (a map), and the closure that asks it. -/
import Derived.Test.YtefhgakcffhgaabBd
import Derived.Maps.OwnSet
import Derived.Maps.AppendAt
import Derived.RegionTactic
import Derived.ChangeAlike
namespace Go.Proofs.Ytefhgakcffhgaab
open Go.RowKit Go.Lib Go.Maps

theorem kInt : Keyed Try.prog 3 := int_keyed Try.underlying3
theorem zeroUnit (w : World) : (zeroValue 138).run Try.prog w = .ok (.agg #[]) w := by kernel_rfl
/-- Who is down: a map's keys, or no map. -/
def DownAt (w : World) (L : Nat) (mr : Option Nat) (ds : List Int) : Prop :=
  (mr = none ∧ ds = []) ∨ ∃ b, ∃ D : DataW Unit, mr = some b ∧ L ≤ b ∧ w.ownsMap Try.prog 3 unitElem b ds.length D ∧ ∀ x, (Lit.int .i64 x).wf = true → Maps.has D (.int .i64 x) = decide (x ∈ ds)
theorem DownAt.mod {G : Nat → Prop} {w w' : World} {L : Nat} {mr : Option Nat} {ds : List Int} (h : DownAt w L mr ds) (hm : Mod G w w') (hG : ∀ k, mr = some k → ¬ G k) : DownAt w' L mr ds := by
  rcases h with h | ⟨b, D, rfl, h2, h3, h4⟩
  · exact .inl h
  · have hlt := h3.lt
    obtain ⟨es, clock, hb, r⟩ := h3
    exact .inr ⟨b, D, rfl, h2, ⟨es, clock, (hm.block b hlt (hG b rfl)).trans hb, r⟩, h4⟩
theorem wf_of64 {x : Int} (h : int64 x) : (Lit.int .i64 x).wf = true := WalkArith.wf_i64 ⟨h.1, h.2⟩
theorem lookup_down {w : World} {L : Nat} {mr : Option Nat} {ds : List Int} (h : DownAt w L mr ds) {x : Int} (hx : int64 x) :
    (Instr.lookup 36 (.map mr) (.int .i64 x) true).run Try.prog w = .ok (.tuple #[.agg #[], .bool (decide (x ∈ ds))]) w := by
  have hk : keyOf Try.prog 3 (.int .i64 x) = some (.int .i64 x) := keyOf_int_mk Try.underlying3 (wf_of64 hx)
  rcases h with ⟨rfl, rfl⟩ | ⟨b, D, rfl, _, h3, h4⟩
  · have := Maps.look_nil (w := w) true kInt Try.underlying36 (zeroUnit w) hk
    simpa using this
  · obtain ⟨v, ps, hrun, hv⟩ := h3.look_ok kInt Try.underlying36 (zeroUnit w) unitElem_mk hk
    obtain ⟨rfl, _⟩ := unitElem_inv hv
    rw [hrun, h4 x (wf_of64 hx)]
def silentB (ds : List Int) (m : MsgD) : Bool := decide (m.frm ∈ ds) || decide (m.to ∈ ds)

set_option maxRecDepth 100000 in
set_option maxHeartbeats 1000000 in
theorem silent1_any (g q L : Nat) (m : MsgD) (u : Value) (mr : Option Nat) (ds : List Int) (w : World) (hq : w.cell? ⟨q, 0, none⟩ = some (.pointer (some ⟨g, 1, none⟩))) (hg2 : w.cell? ⟨g, 3, none⟩ = some (.map mr)) (hd : DownAt w L mr ds) (hi : intsM m) :
    Calls Try.prog 69 #[.agg #[.int .i64 m.kind, .int .i64 m.frm, .int .i64 m.to, .int .i64 m.epoch, .int .i64 m.n, .int .i64 m.cmd.kind, .int .i64 m.cmd.tx, .int .i64 m.cmd.time, u], .pointer (some ⟨q, 0, none⟩)] w fun e w' => e = .returned (.bool (silentB ds m)) ∧ Mod noBlock w w' := by
  obtain ⟨w1, hw1⟩ : ∃ q, q = w.alloc (.cells #[.int .i64 m.kind, .int .i64 m.frm, .int .i64 m.to, .int .i64 m.epoch, .int .i64 m.n, .int .i64 m.cmd.kind, .int .i64 m.cmd.tx, .int .i64 m.cmd.time, u] 51) := ⟨_, rfl⟩
  have hB1 : Blk w1 w.heap.size [.int .i64 m.kind, .int .i64 m.frm, .int .i64 m.to, .int .i64 m.epoch, .int .i64 m.n, .int .i64 m.cmd.kind, .int .i64 m.cmd.tx, .int .i64 m.cmd.time, u] 51 := by rw [hw1]; exact Blk.new w _ _
  have hM1 : Mod noBlock w w1 := by rw [hw1]; exact (Mod.refl _ w).alloc _
  have hq1 := hM1.cell hq id
  have hg1 := hM1.cell hg2 id
  have hd1 := hd.mod hM1 (fun _ _ => id)
  have l1 : (Instr.lookup 36 (.map mr) (.int .i64 m.frm) true).run Try.prog w1.drew = .ok (.tuple #[.agg #[], .bool (decide (m.frm ∈ ds))]) w1.drew := lookup_down (hd1.mod ((Mod.refl noBlock w1).drew) (fun _ _ => id)) hi.2.1
  have l1' : (Instr.lookup 36 (.map mr) (.int .i64 m.frm) true).run Try.prog (w1.alloc (.cells #[] 138)).drew = .ok (.tuple #[.agg #[], .bool (decide (m.frm ∈ ds))]) (w1.alloc (.cells #[] 138)).drew := lookup_down (hd1.mod (((Mod.refl noBlock w1).alloc _).drew) (fun _ _ => id)) hi.2.1
  obtain ⟨⟨c0, c1, c2, c3, c4, c5, c6, c7, c8⟩, _⟩ := blk9 hB1
  have z1 := hB1.lt
  have z2 : q < w1.heap.size := World.block_lt_of_cell? w1 _ hq1
  have z3 : g < w1.heap.size := World.block_lt_of_cell? w1 _ hg1
  have HI := Hid.mk' hi
  have HD := Hid.mk' hd1
  clear hq hg2 hd hi hd1
  go_enter Try.func69, Try.ntmps69
  go_wp2_with fail
  rw [← hw1]
  clear hw1
  go_cut [5] (fun t wc => t = .bool (decide (m.frm ∈ ds)) ∧ Blk wc w.heap.size [.int .i64 m.kind, .int .i64 m.frm, .int .i64 m.to, .int .i64 m.epoch, .int .i64 m.n, .int .i64 m.cmd.kind, .int .i64 m.cmd.tx, .int .i64 m.cmd.time, u] 51 ∧ Mod noBlock w1 wc)
  case first =>
    go_region
    all_goals
      go_wp2_with fail
      go_meet
      case rel => exact ⟨rfl, hB1.mod ((Mod.refl noBlock w1).alloc _).drew id, ((Mod.refl noBlock w1).alloc _).drew⟩
  case rest =>
    obtain ⟨rfl, hB2, hM2⟩ := hcut
    have hq2 := hM2.cell hq1 id
    have hg2 := hM2.cell hg1 id
    have hd2 := DownAt.mod HD.out hM2 (fun _ _ => id)
    clear l1 l1' c0 c1 c2 c3 c4 c5 c6 c7 c8 hq1 hg1 z1 z2 z3 hB1
    have l1 : (Instr.lookup 36 (.map mr) (.int .i64 m.to) true).run Try.prog wc.drew = .ok (.tuple #[.agg #[], .bool (decide (m.to ∈ ds))]) wc.drew := lookup_down (hd2.mod ((Mod.refl noBlock wc).drew) (fun _ _ => id)) HI.out.2.2.1
    have l1' : (Instr.lookup 36 (.map mr) (.int .i64 m.to) true).run Try.prog (wc.alloc (.cells #[] 138)).drew = .ok (.tuple #[.agg #[], .bool (decide (m.to ∈ ds))]) (wc.alloc (.cells #[] 138)).drew := lookup_down (hd2.mod (((Mod.refl noBlock wc).alloc _).drew) (fun _ _ => id)) HI.out.2.2.1
    obtain ⟨⟨c0, c1, c2, c3, c4, c5, c6, c7, c8⟩, _⟩ := blk9 hB2
    have z1 := hB2.lt
    have z2 : q < wc.heap.size := World.block_lt_of_cell? wc _ hq2
    have z3 : g < wc.heap.size := World.block_lt_of_cell? wc _ hg2
    clear hd2 HD HI
    go_upto_region 2 with fail
    go_cut [7] (fun t wd => t = .bool (decide (m.to ∈ ds)) ∧ Mod noBlock wc wd)
    case first =>
      go_region
      all_goals
        go_wp2_with fail
        go_meet
        case rel => exact ⟨rfl, ((Mod.refl noBlock wc).alloc _).drew⟩
    case rest =>
      obtain ⟨rfl, hM3⟩ := hcut
      clear l1 l1'
      have hM := (hM1.trans hM2).trans hM3
      cases h1 : decide (m.frm ∈ ds) <;> cases h2 : decide (m.to ∈ ds)
      all_goals
        go_wp2_with fail
        go_ret
        exact ⟨by simp only [silentB, h1, h2]; rfl, hM⟩
end Go.Proofs.Ytefhgakcffhgaab
