/- The program's node: a command of one's own; a message sent. -/
import Derived.Test.YtefhgakcffhgaabCn3
namespace Go.Proofs.Ytefhgakcffhgaab
open Go.RowKit Go.Lib Go.Maps

def put4 (w : World) (N : Nat) (u0 u1 u2 u3 : Value) : World := (((w.setCell ⟨N, 0, none⟩ u0).setCell ⟨N, 1, none⟩ u1).setCell ⟨N, 2, none⟩ u2).setCell ⟨N, 3, none⟩ u3
theorem put4_blk {w : World} {N : Nat} {a0 a1 a2 a3 : Value} {t : TypeId} (hB : Blk w N [a0, a1, a2, a3] t) (u0 u1 u2 u3 : Value) : Blk (put4 w N u0 u1 u2 u3) N [u0, u1, u2, u3] t := (((hB.set 0 _).set 1 _).set 2 _).set 3 _
theorem put4_only (w : World) (N : Nat) (u0 u1 u2 u3 : Value) : Mod (oneBlock N) w (put4 w N u0 u1 u2 u3) := (((Mod.setBlk N 0 u0).trans (Mod.setBlk N 1 u1)).trans (Mod.setBlk N 2 u2)).trans (Mod.setBlk N 3 u3)
theorem put4_res {w : World} {N : Nat} {a0 a1 a2 a3 : Value} {t : TypeId} (hB : Blk w N [a0, a1, a2, a3] t) (u0 u1 u2 u3 : Value) : (loadVar 49 ⟨N, 0, none⟩).run Try.prog (put4 w N u0 u1 u2 u3) = .ok (.agg #[u0, u1, u2, u3]) (put4 w N u0 u1 u2 u3) := load_cmd (put4_blk hB u0 u1 u2 u3)

set_option maxRecDepth 100000 in
set_option maxHeartbeats 1000000 in
theorem ownC_any (L : Nat) (c : CmdD) (u : Value) (w : World) (hu : PairsT w L u c.writes) (hl : c.writes.length ≤ 1000000) :
    Calls Try.prog 51 #[.agg #[.int .i64 c.kind, .int .i64 c.tx, .int .i64 c.time, u]] w fun e w' =>
      ∃ u', e = .returned (.agg #[.int .i64 c.kind, .int .i64 c.tx, .int .i64 c.time, u']) ∧ w'.ownsRow w.heap.size 163 3 u' c.writes.length (c.writes.flatMap pairCells) ∧ Mod noBlock w w' := by
  obtain ⟨i0, hi, hz0, hz1, hz2⟩ := info_parts Try.info163
  have hu0 := hu
  obtain ⟨a, cap, rfl, hpc, hcm, _⟩ := hu0
  go_enter Try.func51, Try.ntmps51
  by_cases h0 : c.writes = []
  · have h00 : c.writes.length = 0 := by rw [h0]; rfl
    rw [h00]
    have HF : Hid (c.writes.flatMap pairCells = []) := by rw [Hid, h0]; rfl
    go_wp2_with (first
      | (at_builtin; refine wpList_append_nothing rfl _ _ rfl rfl _ _ rfl ?_)
      | fail)
    have hb : Blk ((w.alloc (.cells #[.int .i64 c.kind, .int .i64 c.tx, .int .i64 c.time, .slice none 0 0] 49)).alloc (.cells #[.int .i64 c.kind, .int .i64 c.tx, .int .i64 c.time, .slice none 0 0] 49)) (w.heap.size + 1) [.int .i64 c.kind, .int .i64 c.tx, .int .i64 c.time, .slice none 0 0] 49 := by
      have := Blk.new (w.alloc (.cells #[.int .i64 c.kind, .int .i64 c.tx, .int .i64 c.time, .slice none 0 0] 49)) [.int .i64 c.kind, .int .i64 c.tx, .int .i64 c.time, .slice none 0 0] 49
      rw [World.size_alloc] at this; exact this
    refine bodyPost_ret (res_cell Try.results51 _ ⟨w.heap.size + 1, 0, none⟩ rfl (load_cmd hb)) rfl ⟨.slice none 0 0, rfl, ?_, ((Mod.refl _ w).alloc _).alloc _⟩
    rw [HF.out]
    exact World.ownsRow_nil _ _ _ _
  · obtain ⟨b, off, rfl, hcl⟩ := hu.cells h0
    have hM2 : Mod noBlock w ((w.alloc (.cells #[.int .i64 c.kind, .int .i64 c.tx, .int .i64 c.time, .slice (some ⟨b, off, none⟩) c.writes.length cap] 49)).alloc (.cells #[.int .i64 0, .int .i64 0, .int .i64 0, .slice none 0 0] 49)) := ((Mod.refl _ w).alloc _).alloc _
    have HCL : Hid (∀ (j : Nat) u, (c.writes.flatMap pairCells)[j]? = some u → ((w.alloc (.cells #[.int .i64 c.kind, .int .i64 c.tx, .int .i64 c.time, .slice (some ⟨b, off, none⟩) c.writes.length cap] 49)).alloc (.cells #[.int .i64 0, .int .i64 0, .int .i64 0, .slice none 0 0] 49)).cell? ((⟨b, off, none⟩ : Addr).add j) = some u) := fun j u hju => hM2.cell (hcl j u hju) id
    have HLC := Hid.mk' (pairCells_len c.writes)
    have HON := Hid.mk' (pairCells_one c.writes)
    have hk63 : 0 + c.writes.length ≤ maxLen := by unfold maxLen; omega
    have hk47 : (0 + c.writes.length) * 40 ≤ 140737488355328 := by omega
    clear hcl hu
    go_wp2_with (first
      | (at_builtin; refine wpList_append_own _ rfl _ _ 47 rfl (w.heap.size + 1 + 1) 163 i0 _ 3 40 Try.underlying47 hi hz0 hz1 hz2 rfl (by omega) _ _ _ rfl (World.ownsRow_nil _ _ _ _) ⟨b, off, none⟩ _ _ (c.writes.flatMap pairCells) rfl HLC.out HCL.out HON.out hk63 hk47 (by simp) ?_)
      | fail)
    intro v' w1 hown1 hgrow _
    have hm1 := (Mod.refl noBlock _).grown hgrow (fun x hx _ => by simp [Value.ownBlock] at hx)
    have hB1 := ((Blk.new w [.int .i64 c.kind, .int .i64 c.tx, .int .i64 c.time, .slice (some ⟨b, off, none⟩) c.writes.length cap] 49).mod ((Mod.refl noBlock _).alloc (.cells #[.int .i64 0, .int .i64 0, .int .i64 0, .slice none 0 0] 49)) id).mod hm1 id
    have hB2 := (Blk.new (w.alloc (.cells #[.int .i64 c.kind, .int .i64 c.tx, .int .i64 c.time, .slice (some ⟨b, off, none⟩) c.writes.length cap] 49)) [.int .i64 0, .int .i64 0, .int .i64 0, .slice none 0 0] 49).mod hm1 id
    rw [World.size_alloc] at hB2
    have hM1 := hM2.trans hm1
    obtain ⟨x0, x1, x2, x3, y0, y1, y2, y3⟩ := blk4 hB1
    obtain ⟨p0, p1, p2, p3, q0, q1, q2, q3⟩ := blk4 hB2
    obtain ⟨va, vc, rfl⟩ := own_slice hown1
    have HO := Hid.mk' hown1
    clear hown1 hgrow hm1 HCL HLC HON hM2
    go_wp2_with fail
    have hB2' := hB2.mod (Mod.setBlk (w := w1) w.heap.size 3 (.slice va c.writes.length vc)) (by simp [oneBlock])
    have hOW : w1.ownsRow (w.heap.size + 1 + 1) 163 3 (.slice va c.writes.length vc) c.writes.length (c.writes.flatMap pairCells) := by simpa using HO.out
    refine bodyPost_ret (res_cell Try.results51 _ ⟨w.heap.size + 1, 0, none⟩ rfl (put4_res hB2' _ _ _ _)) rfl ⟨.slice va c.writes.length vc, rfl, ?_, ?_⟩
    · refine own_base (own_mod (G := oneBlock (w.heap.size + 1)) (own_mod (G := oneBlock w.heap.size) hOW (Mod.setBlk _ 3 _) (fun k hk _ _ e => by simp only [oneBlock] at e; omega)) (put4_only _ _ _ _ _ _) (fun k hk _ _ e => by simp only [oneBlock] at e; omega)) (by omega)
    · have h1 : Mod (newer w.heap.size) w (w1.setCell ⟨w.heap.size, 3, none⟩ (.slice va c.writes.length vc)) := Mod.put (hM1.mono (fun _ _ e => e.elim)) _ _ (Nat.le_refl _) _
      have h2 := h1.trans ((put4_only (w1.setCell ⟨w.heap.size, 3, none⟩ (.slice va c.writes.length vc)) (w.heap.size + 1) (.int .i64 c.kind) (.int .i64 c.tx) (.int .i64 c.time) (.slice va c.writes.length vc)).mono (G' := newer w.heap.size) (fun i _ e => by simp only [oneBlock, newer] at e ⊢; omega))
      exact h2.mono (fun i hi e => by simp only [newer] at e; omega)
end Go.Proofs.Ytefhgakcffhgaab
