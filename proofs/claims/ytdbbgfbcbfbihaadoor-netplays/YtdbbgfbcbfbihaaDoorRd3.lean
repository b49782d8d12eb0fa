/- The program's reader: a command. -/
import Derived.Test.YtdbbgfbcbfbihaaDoorRd2
import Derived.Deep.RegionLaw
import Derived.Deep.AppendLies
namespace Go.Proofs.YtdbbgfbcbfbihaaDoor
open Go.RowKit

theorem Tryd.info84 : (Tryd.prog.info? 84).map (fun i => (i.zero, i.size, i.bytes)) = some (some (.agg #[.string ⟨#[]⟩, .string ⟨#[]⟩, .bool false]), 3, 40) := by kernel_rfl
def pairCells (p : PairD) : List Value := [.string p.key, .string p.val, .bool p.gone]
theorem blk4 {w : World} {g : Nat} {a b c d : Value} {t : TypeId} (h : Blk w g [a, b, c, d] t) : w.cell? ⟨g, 0, none⟩ = some a ∧ w.cell? ⟨g, 1, none⟩ = some b ∧ w.cell? ⟨g, 2, none⟩ = some c ∧ w.cell? ⟨g, 3, none⟩ = some d ∧ w.frozen? ⟨g, 0, none⟩ = false ∧ w.frozen? ⟨g, 1, none⟩ = false ∧ w.frozen? ⟨g, 2, none⟩ = false ∧ w.frozen? ⟨g, 3, none⟩ = false :=
  ⟨h.cell 0 rfl, h.cell 1 rfl, h.cell 2 rfl, h.cell 3 rfl, h.frozen 0, h.frozen 1, h.frozen 2, h.frozen 3⟩
theorem load_cmd {w : World} {B : Nat} {a b c d : Value} {t : TypeId} (h : Blk w B [a, b, c, d] t) : (loadVar 24 ⟨B, 0, none⟩).run Tryd.prog w = .ok (.agg #[a, b, c, d]) w := by
  obtain ⟨k0, k1, k2, k3, _⟩ := blk4 h
  simp [go_sem, k0, k1, k2, k3]
theorem pcmd_eq {s k x t n r : List Int × Bool} {kind tx time m : Nat} {ps : List PairD} (hk : (kind, k) = pnum 1 4 s) (hx : (tx, x) = pnum 0 1099511627776 k) (ht : (time, t) = pnum 0 1099511627776 x) (hn : (m, n) = pnum 0 20 t) (hr : (ps, r) = ppairs m n) :
    pcmd s = (⟨kind, tx, time, ps⟩, r) := by
  simp only [pcmd, ← hk, ← hx, ← ht, ← hn, ← hr]

theorem pair_one (a b : ByteArray) (c : Bool) : ∀ u ∈ [Value.string a, .string b, .bool c], u.oneCell' = true := by
  intro u hu; simp at hu; rcases hu with rfl | rfl | rfl <;> rfl

theorem cmd_round {w wr w5 w6 : World} {L g Bc k : Nat} {v v' : Value} {o : Obj} {bs6 : List Int} {sp6 : Bool} {a b c d0 d1 d2 d3 : Value} {xs : List Value} {t t' : TypeId} (hLg : L ≤ g) (hgl : g < w.heap.size) (hBBc : w.heap.size < Bc)
    (h5 : RAt w5 L g bs6 sp6) (hm5 : Mod (oneBlock g) wr.drew w5) (hgrow : (w5.alloc o).grownBy w6 v.ownBlock) (hvb : ∀ x, v.ownBlock = some x → Bc < x ∧ x < wr.heap.size)
    (hown6 : w6.ownsRow (Bc + 1) t 3 v' (k + 1) xs) (hC : Blk wr Bc [a, b, c, v] t') (hB : Blk wr w.heap.size [d0, d1, d2, d3] t') (hM : Mod (oneBlock g) w wr) :
    RAt (w6.setCell ⟨Bc, 3, none⟩ v') L g bs6 sp6 ∧ (w6.setCell ⟨Bc, 3, none⟩ v').ownsRow (Bc + 1) t 3 v' (k + 1) xs ∧ Blk (w6.setCell ⟨Bc, 3, none⟩ v') Bc [a, b, c, v'] t' ∧
      Blk (w6.setCell ⟨Bc, 3, none⟩ v') w.heap.size [d0, d1, d2, d3] t' ∧ Mod (oneBlock g) w (w6.setCell ⟨Bc, 3, none⟩ v') := by
  have hm6 : Mod (newer (Bc + 1)) w5 w6 := ((Mod.refl _ w5).alloc o).grown hgrow (fun x hx _ => (hvb x hx).1)
  have hm7 : Mod (newer Bc) w5 (w6.setCell ⟨Bc, 3, none⟩ v') := (hm6.mono (fun i _ h => by simp only [newer] at h ⊢; omega)).put _ _ (Nat.le_refl _) _
  have hC5 : Blk w5 Bc [a, b, c, v] t' := Blk.mod (w := wr.drew) hC hm5 (fun e => by simp only [oneBlock] at e; omega)
  have hB5 : Blk w5 w.heap.size [d0, d1, d2, d3] t' := Blk.mod (w := wr.drew) hB hm5 (fun e => by simp only [oneBlock] at e; omega)
  refine ⟨h5.mod hm7 (by simp only [newer]; omega) (fun k hk e => by simp only [newer] at e; omega), ownsRow_setCell_below hown6 (by simp) _, (hC5.mod hm6 (by simp only [newer]; omega)).set 3 v', hB5.mod hm7 (by simp only [newer]; omega), ?_⟩
  exact (hM.drew.trans hm5).since hm7 (by omega)
theorem ppairs_step {k : Nat} {s r q : List Int × Bool} {ps : List PairD} {p : PairD} (h : (ps, r) = ppairs k s) (hp : (p, q) = ppair r) : ppairs (k + 1) s = (ps ++ [p], q) := by
  rw [ppairs_snoc, ← h, ← hp]

set_option maxRecDepth 100000 in
set_option maxHeartbeats 1000000 in
theorem command_any (L g : Nat) (bs : List Int) (sp : Bool) (w : World) (h : RAt w L g bs sp) :
    Calls Tryd.prog 78 #[.pointer (some ⟨g, 0, none⟩)] w fun e w' => ∃ v, e = .returned (.agg #[.int .i64 (pcmd (bs, sp)).1.kind, .int .i64 (pcmd (bs, sp)).1.tx, .int .i64 (pcmd (bs, sp)).1.time, v]) ∧
      w'.ownsRow w.heap.size 84 3 v (pcmd (bs, sp)).1.writes.length ((pcmd (bs, sp)).1.writes.flatMap pairCells) ∧ RAt w' L g (pcmd (bs, sp)).2.1 (pcmd (bs, sp)).2.2 ∧ Mod (oneBlock g) w w' := by
  obtain ⟨i0, hi, hz0, hz1, hz2⟩ := info_parts Tryd.info84
  obtain ⟨r, hr⟩ : ∃ r, r = pcmd (bs, sp) := ⟨_, rfl⟩
  rw [← hr]
  have HR : Hid (r = pcmd (bs, sp)) := hr
  clear hr
  obtain ⟨hLg, hgl⟩ := h.lt
  have hB0 := Blk.new w [.int .i64 0, .int .i64 0, .int .i64 0, .slice none 0 0] 24
  go_enter Tryd.func78, Tryd.ntmps78
  go_wp2_with fail
  refine (number_at 1 4 _ (h.mod ((Mod.refl noBlock w).alloc _) id (fun _ _ => id)) rfl rfl).mono ?_
  rintro e w1 ⟨rfl, h1, hm1⟩
  obtain ⟨⟨kind, bs1, sp1⟩, hq1⟩ : ∃ q, q = pnum 1 4 (bs, sp) := ⟨_, rfl⟩
  rw [← hq1] at h1 ⊢
  have hB1 := hB0.mod hm1 (fun e => by simp only [oneBlock] at e; omega)
  have hM1 : Mod (oneBlock g) w w1 := ((Mod.refl _ w).alloc _).trans hm1
  have HQ1 : Hid ((kind, bs1, sp1) = pnum 1 4 (bs, sp)) := hq1
  clear hq1 hB0 hm1 h
  go_wp2_with fail
  refine (number_at 0 1099511627776 _ h1 rfl rfl).mono ?_
  rintro e w2 ⟨rfl, h2, hm2⟩
  obtain ⟨⟨tx, bs2, sp2⟩, hq2⟩ : ∃ q, q = pnum 0 1099511627776 (bs1, sp1) := ⟨_, rfl⟩
  rw [← hq2] at h2 ⊢
  have hB2 := hB1.mod hm2 (fun e => by simp only [oneBlock] at e; omega)
  have hM2 := hM1.trans hm2
  have HQ2 : Hid ((tx, bs2, sp2) = pnum 0 1099511627776 (bs1, sp1)) := hq2
  clear hq2 hB1 hm2 h1 hM1
  go_wp2_with fail
  refine (number_at 0 1099511627776 _ h2 rfl rfl).mono ?_
  rintro e w3 ⟨rfl, h3, hm3⟩
  obtain ⟨⟨time, bs3, sp3⟩, hq3⟩ : ∃ q, q = pnum 0 1099511627776 (bs2, sp2) := ⟨_, rfl⟩
  rw [← hq3] at h3 ⊢
  have hB3 := hB2.mod hm3 (fun e => by simp only [oneBlock] at e; omega)
  have hM3 := hM2.trans hm3
  have hgz : w.heap.size < w3.heap.size := hB3.lt
  have HQ3 : Hid ((time, bs3, sp3) = pnum 0 1099511627776 (bs2, sp2)) := hq3
  clear hq3 hB2 hm3 h2 hM2
  go_wp2_with fail
  refine (number_at 0 20 _ (h3.mod ((Mod.refl noBlock w3).alloc _) id (fun _ _ => id)) rfl rfl).mono ?_
  rintro e w4 ⟨rfl, h4, hm4⟩
  have hle := pnum_le 0 20 (bs3, sp3)
  obtain ⟨⟨n, bs4, sp4⟩, hq4⟩ : ∃ q, q = pnum 0 20 (bs3, sp3) := ⟨_, rfl⟩
  rw [← hq4] at h4 hle ⊢
  have hC4 := (Blk.new w3 [.int .i64 kind, .int .i64 tx, .int .i64 time, .slice none 0 0] 24).mod hm4 (fun e => by simp only [oneBlock] at e; omega)
  have hB4 := (hB3.mod ((Mod.refl noBlock w3).alloc (.cells #[.int .i64 kind, .int .i64 tx, .int .i64 time, .slice none 0 0] 24)) id).mod hm4 (fun e => by simp only [oneBlock] at e; omega)
  have hM4 : Mod (oneBlock g) w w4 := (hM3.alloc _).trans hm4
  have HQ4 : Hid ((n, bs4, sp4) = pnum 0 20 (bs3, sp3)) := hq4
  clear hq4 hB3 hm4 h3 hM3
  simp only at hle
  generalize hBc : w3.heap.size = Bc at *
  go_wp2_with fail
  go_loopw [13] (fun i wr => ∃ (k : Nat) (v : Value), k ≤ n ∧ i = .int .i64 k ∧ RAt wr L g (ppairs k (bs4, sp4)).2.1 (ppairs k (bs4, sp4)).2.2 ∧ wr.ownsRow (Bc + 1) 84 3 v k ((ppairs k (bs4, sp4)).1.flatMap pairCells) ∧
      Blk wr Bc [.int .i64 kind, .int .i64 tx, .int .i64 time, v] 24 ∧ Blk wr w.heap.size [.int .i64 0, .int .i64 0, .int .i64 0, .slice none 0 0] 24 ∧ Mod (oneBlock g) w wr)
    (fun i _ => n - (intOf i).toNat)
  case atStart => exact ⟨0, _, Nat.zero_le _, rfl, h4, World.ownsRow_nil _ _ _ _, hC4, hB4, hM4⟩
  case round =>
    obtain ⟨k, v, hk, rfl, hR, hown, hC, hB, hM⟩ := hrel
    obtain ⟨⟨ps, bs5, sp5⟩, hq5⟩ : ∃ q, q = ppairs k (bs4, sp4) := ⟨_, rfl⟩
    rw [← hq5] at hR hown
    have HQ5 : Hid ((ps, bs5, sp5) = ppairs k (bs4, sp4)) := hq5
    clear hq5 h4 hC4 hB4 hM4
    simp only at hR hown
    obtain ⟨hLg5, hgl5⟩ := hR.lt
    have hBcl := hC.lt
    have hBBc : w.heap.size < Bc := by omega
    by_cases hlt : k < n
    · have c3 := hC.cell 3 rfl
      have f3 := hC.frozen 3
      have HV : Hid (∀ x, v.ownBlock = some x → Bc < x ∧ x < wr.heap.size) := fun x hx => hown.lt x hx
      have HOW : Hid (wr.ownsRow (Bc + 1) 84 3 v k (ps.flatMap pairCells)) := hown
      clear hown
      have hk63 : k + 1 ≤ maxLen := by unfold maxLen; omega
      have hk47 : (k + 1) * 40 ≤ 140737488355328 := by omega
      go_wp2_with fail
      go_region_law
        ((first
          | (go_simp; go_at_call 117; (refine (pair_any L g bs5 sp5 _ (hR.mod ((Mod.refl noBlock wr).drew) id (fun _ _ => id))).mono ?_; rintro e w5 ⟨rfl, h5, hm5⟩; have c5 := hm5.cell (p := ⟨Bc, 3, none⟩) c3 (fun e => by simp only [oneBlock] at e; omega); have f5 : w5.frozen? ⟨Bc, 3, none⟩ = false := (hm5.frozen (p := ⟨Bc, 3, none⟩) hBcl (fun e => by simp only [oneBlock] at e; omega)).trans f3; have z5 : wr.heap.size ≤ w5.heap.size := hm5.size; have kal : ∀ o, (w5.alloc o).cell? ⟨Bc, 3, none⟩ = some v := fun o => (World.cell?_alloc_past (w := w5) o Bc 3 (by omega)).trans c5; have kfr : ∀ o, (w5.alloc o).frozen? ⟨Bc, 3, none⟩ = false := fun o => (World.frozen?_alloc_past (w := w5) o Bc 3 (by omega)).trans f5; have how5 : ∀ o, (w5.alloc o).ownsRow (Bc + 1) 84 3 v k (ps.flatMap pairCells) := fun o => (own_mod HOW.out (Mod.trans (Mod.refl _ wr).drew hm5) (fun x hx _ _ e => by simp only [oneBlock] at e; omega)).alloc o; obtain ⟨⟨⟨key, val, gone⟩, bs6, sp6⟩, hq6⟩ : ∃ q, q = ppair (bs5, sp5) := ⟨_, rfl⟩; rw [← hq6] at h5 ⊢; have HQ6 : Hid ((⟨key, val, gone⟩, bs6, sp6) = ppair (bs5, sp5)) := hq6; clear hq6; dsimp only))
          | ((refine step_append_lies _ (by rfl) _ _ _ (by rfl) (Bc + 1) 84 i0 _ 3 40 Tryd.underlying22 hi hz0 hz1 hz2 rfl (by omega) v k (ps.flatMap pairCells) (by rfl) (how5 _) ⟨w5.heap.size, 0, none⟩ 1 1 [.string key, .string val, .bool gone] (by rfl) rfl (World.news_of_block (heap_alloc_new w5 _)) (pair_one _ _ _) (by omega) hk63 hk47 (by simp; omega) _ rfl ?_); intro g5 cap5 w6 hown6 hgrow hat hlt6; have c6 := (hgrow.cell_far ⟨Bc, 3, none⟩ (by simp; omega) (fun e => by have := HV.out Bc e.symm; omega)).trans ((World.cell?_alloc_past (w := w5) _ Bc 3 (by omega)).trans c5); have f6 := (hgrow.frozen_far ⟨Bc, 3, none⟩ (by simp; omega) (fun e => by have := HV.out Bc e.symm; omega)).trans ((World.frozen?_alloc_past (w := w5) _ Bc 3 (by omega)).trans f5))
          | fail))
      all_goals go_wp2_with fail
      all_goals
        have HS := ppairs_step HQ5.out HQ6.out
        have R := cmd_round hLg hgl hBBc h5 hm5 hgrow HV.out hown6 hC hB hM
        clear h5 hm5 hgrow hown6 hC hB hM hR kal kfr how5
        go_roundw
        case rel => exact ⟨k + 1, _, by omega, by go_num, by rw [HS]; exact R.1, by rw [HS, List.flatMap_append]; exact R.2.1, R.2.2.1, R.2.2.2.1, R.2.2.2.2⟩
        case measure => simp [intOf]; omega
    · obtain ⟨va, vc, rfl⟩ := own_slice hown
      obtain ⟨c0, c1, c2, c3, f0, f1, f2, f3⟩ := blk4 hC
      obtain ⟨d0, d1, d2, d3, e0, e1, e2, e3⟩ := blk4 hB
      go_wp2_with fail
      have hkn : k = n := by omega
      subst hkn
      have HF := HR.out.trans (pcmd_eq HQ1.out HQ2.out HQ3.out HQ4.out HQ5.out)
      have hlen : ps.length = k := by have := ppairs_len k (bs4, sp4); rw [← HQ5.out] at this; exact this
      have hm7 : Mod (newer w.heap.size) wr ((((wr.setCell ⟨w.heap.size, 0, none⟩ (.int .i64 kind)).setCell ⟨w.heap.size, 1, none⟩ (.int .i64 tx)).setCell ⟨w.heap.size, 2, none⟩ (.int .i64 time)).setCell ⟨w.heap.size, 3, none⟩ (.slice va k vc)) :=
        ((((Mod.refl _ wr).put _ 0 (Nat.le_refl _) _).put _ 1 (Nat.le_refl _) _).put _ 2 (Nat.le_refl _) _).put _ 3 (Nat.le_refl _) _
      refine bodyPost_ret (res_cell Tryd.results78 _ ⟨w.heap.size, 0, none⟩ rfl (load_cmd ((((hB.set 0 (.int .i64 kind)).set 1 (.int .i64 tx)).set 2 (.int .i64 time)).set 3 (.slice va k vc)))) rfl ⟨.slice va k vc, ?_, ?_, ?_, ?_⟩
      · rw [HF]
      · rw [HF]
        simp only [hlen]
        exact own_base (ownsRow_setCell_below (ownsRow_setCell_below (ownsRow_setCell_below (ownsRow_setCell_below hown (by simp; omega) _) (by simp; omega) _) (by simp; omega) _) (by simp; omega) _) (by omega)
      · rw [HF]; exact hR.mod hm7 (by simp only [newer]; omega) (fun k hk e => by simp only [newer] at e; omega)
      · exact hM.since hm7 (Nat.le_refl _)
end Go.Proofs.YtdbbgfbcbfbihaaDoor
