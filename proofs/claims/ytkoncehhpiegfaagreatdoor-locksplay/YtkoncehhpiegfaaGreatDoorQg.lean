/- Package locks: inWay, free, wounded, leave. -/
import Derived.Test.YtkoncehhpiegfaaGreatDoorQf
namespace Go.Proofs.YtkoncehhpiegfaaGreatDoor
open Go.RowKit Go.Lib Go.Maps
set_option linter.unusedVariables false

def clmV (c : ClmD) : Value := .agg #[.int .i64 c.tx, .int .i64 c.mode]
theorem inWay_any (a b : ClmD) (w : World) :
    Calls Tryz.prog 36 #[.agg #[.int .i64 a.tx, .int .i64 a.mode], .agg #[.int .i64 b.tx, .int .i64 b.mode]] w fun e w' => e = .returned (.bool (inWayB a b)) ∧ Mod noBlock w w' := by
  obtain ⟨at', am⟩ := a
  obtain ⟨bt, bm⟩ := b
  have HM : Hid (Mod noBlock w ((w.alloc (.cells #[.int .i64 at', .int .i64 am] 61)).alloc (.cells #[.int .i64 bt, .int .i64 bm] 61))) := ((Mod.refl _ w).alloc _).alloc _
  have HI : Hid (inWayB ⟨at', am⟩ ⟨bt, bm⟩ = (decide (at' ≠ bt) && (decide (am = 2) || decide (bm = 2)))) := rfl
  generalize inWayB ⟨at', am⟩ ⟨bt, bm⟩ = r at HI
  by_cases h1 : at' = bt
  · have hr : r = false := by rw [HI.out]; simp [h1]
    subst hr
    subst h1
    clear HI
    go_enter Tryz.func36, Tryz.ntmps36
    go_wp2_with fail
    go_ret
    exact ⟨rfl, HM.out⟩
  · by_cases h2 : am = 2
    · have HR : Hid (r = (at' != bt)) := by rw [HI.out, Bool.eq_iff_iff]; simp [h1, h2, Hid]
      subst h2
      clear HI
      go_enter Tryz.func36, Tryz.ntmps36
      go_wp2_with fail
      go_ret
      exact ⟨by rw [HR.out]; rfl, HM.out⟩
    · have HR : Hid (r = (at' != bt && (am == 2 || bm == 2))) := by rw [HI.out, Bool.eq_iff_iff]; simp [h1, h2, Hid]
      clear HI
      go_enter Tryz.func36, Tryz.ntmps36
      go_wp2_with fail
      go_ret
      exact ⟨by rw [HR.out]; rfl, HM.out⟩
theorem cells_at {w wr : World} {q : Nat} {cs : List Value} {t : TypeId} (h : Blk w q cs t) (he : wr.heap[q]? = w.heap[q]?) : Blk wr q cs t := he.trans h
theorem ask_free1 {w : World} {q : Nat} {c : ClmD} (h : Blk w q (clmCells c) 61) : AskQ 35 q (fun o => inWayB o c) w := by
  refine ⟨enterQ Tryz.func35 (by kernel_rfl) rfl, fun d wr he => ?_⟩
  have hb := cells_at h he
  have p0 := hb.cell 0 rfl
  have p1 := hb.cell 1 rfl
  have hq := hb.lt
  have HM : Hid (Mod noBlock wr (wr.alloc (.cells #[.int .i64 d.tx, .int .i64 d.mode] 61))) := (Mod.refl _ wr).alloc _
  have HI := fun w => inWay_any d c w
  have HIH := Hid.mkq HI
  clear h hb he HI
  go_enter Tryz.func35, Tryz.ntmps35
  go_wp2_with fail
  refine (HIH.out _).mono ?_
  rintro e w1 ⟨rfl, hm⟩
  go_wp2_with fail
  go_ret
  exact ⟨rfl, HM.out.trans hm⟩
theorem ask_free2 {w : World} {q : Nat} {c : ClmD} (h : Blk w q (clmCells c) 61) : AskQ 37 q (fun o => decide (o.tx < c.tx) && inWayB o c) w := by
  refine ⟨enterQ Tryz.func37 (by kernel_rfl) rfl, fun d wr he => ?_⟩
  have hb := cells_at h he
  have p0 := hb.cell 0 rfl
  have p1 := hb.cell 1 rfl
  have hq := hb.lt
  have HM : Hid (Mod noBlock wr (wr.alloc (.cells #[.int .i64 d.tx, .int .i64 d.mode] 61))) := (Mod.refl _ wr).alloc _
  have HI := fun w => inWay_any d c w
  have HIH := Hid.mkq HI
  clear h hb he HI
  by_cases hl : d.tx < c.tx
  · have hd : decide (d.tx < c.tx) = true := decide_eq_true hl
    have HDD := Hid.mkq hd
    go_enter Tryz.func37, Tryz.ntmps37
    go_wp2_with fail
    refine (HIH.out _).mono ?_
    rintro e w1 ⟨rfl, hm⟩
    go_wp2_with fail
    go_ret
    exact ⟨by first | rfl | (rw [HDD.out]; rfl), HM.out.trans hm⟩
  · have hd : decide (d.tx < c.tx) = false := decide_eq_false hl
    have HDD := Hid.mkq hd
    go_enter Tryz.func37, Tryz.ntmps37
    go_wp2_with fail
    go_ret
    exact ⟨by first | rfl | (rw [HDD.out]; rfl), HM.out⟩
theorem ask_wounded {w : World} {q : Nat} {c : ClmD} (h : Blk w q (clmCells c) 61) : AskQ 40 q (sparedB c) w := by
  refine ⟨enterQ Tryz.func40 (by kernel_rfl) rfl, fun d wr he => ?_⟩
  have hb := cells_at h he
  have p0 := hb.cell 0 rfl
  have p1 := hb.cell 1 rfl
  have hq := hb.lt
  have HM : Hid (Mod noBlock wr (wr.alloc (.cells #[.int .i64 d.tx, .int .i64 d.mode] 61))) := (Mod.refl _ wr).alloc _
  have HI := fun w => inWay_any d c w
  have HIH := Hid.mkq HI
  clear h hb he HI
  unfold sparedB
  by_cases hl : d.tx < c.tx
  · have hd : decide (d.tx < c.tx) = true := decide_eq_true hl
    have HDD := Hid.mkq hd
    go_enter Tryz.func40, Tryz.ntmps40
    go_wp2_with fail
    go_ret
    exact ⟨by first | rfl | (rw [HDD.out]; rfl), HM.out⟩
  · have hd : decide (d.tx < c.tx) = false := decide_eq_false hl
    have HDD := Hid.mkq hd
    go_enter Tryz.func40, Tryz.ntmps40
    go_wp2_with fail
    refine (HIH.out _).mono ?_
    rintro e w1 ⟨rfl, hm⟩
    go_wp2_with fail
    go_ret
    exact ⟨by first | rfl | (rw [HDD.out]; rfl), HM.out.trans hm⟩
theorem ask_leave {w : World} {q : Nat} {t : Int} (h : Blk w q [.int .i64 t] 3) : AskQ 45 q (fun c => decide (c.tx = t)) w := by
  refine ⟨enterQ Tryz.func45 (by kernel_rfl) rfl, fun d wr he => ?_⟩
  have hb := cells_at h he
  have p0 := hb.cell 0 rfl
  have hq := hb.lt
  have HM : Hid (Mod noBlock wr (wr.alloc (.cells #[.int .i64 d.tx, .int .i64 d.mode] 61))) := (Mod.refl _ wr).alloc _
  clear h hb he
  go_enter Tryz.func45, Tryz.ntmps45
  go_wp2_with fail
  go_ret
  exact ⟨by first | rfl | (congr 2; rw [Bool.eq_iff_iff]; simp), HM.out⟩
set_option maxRecDepth 100000 in
set_option maxHeartbeats 2000000 in
theorem free_any (L kb : Nat) (hv wv : Value) (held waits : List ClmD) (c : ClmD) (w : World) (hk : Blk w kb [hv, wv] 59) (hh : ClmsV w L hv held) (hw : ClmsV w L wv waits) (h1 : held.length ≤ 1000) (h2 : waits.length ≤ 1000) :
    Calls Tryz.prog 20 #[.pointer (some ⟨kb, 0, none⟩), .agg #[.int .i64 c.tx, .int .i64 c.mode]] w fun e w' => e = .returned (.bool (freeN held waits c)) ∧ Mod noBlock w w' := by
  have hmf : ∀ fn first cap w, (Instr.makeFunc fn first cap).run Tryz.prog w = .ok (.func fn first cap) w := fun _ _ _ _ => rfl
  obtain ⟨w1, hw1⟩ : ∃ q, q = w.alloc (.cells #[.int .i64 c.tx, .int .i64 c.mode] 61) := ⟨_, rfl⟩
  have hm1 : Mod noBlock w w1 := by rw [hw1]; exact (Mod.refl _ w).alloc _
  have hb1 : Blk w1 w.heap.size (clmCells c) 61 := by rw [hw1]; exact Blk.new w (clmCells c) 61
  have HA := Hid.mkq (containsQ_any 35 w.heap.size L (fun o => inWayB o c) hv held w1 (hh.mod hm1 (fun _ _ => id)) (ask_free1 hb1) hb1.lt h1)
  have HB : Hid (∀ w2, Mod noBlock w1 w2 → Calls Tryz.prog 38 #[wv, .func (.func 37) #[] #[.pointer (some ⟨w.heap.size, 0, none⟩)]] w2 fun e w' => e = .returned (.bool (waits.any (fun o => decide (o.tx < c.tx) && inWayB o c))) ∧ Mod noBlock w2 w') := fun w2 hm2 =>
    containsQ_any 37 w.heap.size L _ wv waits w2 ((hw.mod hm1 (fun _ _ => id)).mod hm2 (fun _ _ => id)) (ask_free2 (hb1.mod hm2 id)) (hb1.mod hm2 id).lt h2
  have HK := Hid.mkq (hk.mod hm1 id)
  have HM1 := Hid.mkq hm1
  obtain ⟨ha, hcap, rfl, _, _⟩ := SlR.slice hh
  obtain ⟨wa, wcap, rfl, _, _⟩ := SlR.slice hw
  have c0 := HK.out.cell 0 rfl
  have c1 := HK.out.cell 1 rfl
  have hkl := hk.lt
  have HF : Hid (freeN held waits c = (!(held.any fun o => inWayB o c) && !(waits.any fun o => decide (o.tx < c.tx) && inWayB o c))) := rfl
  generalize freeN held waits c = r at HF
  clear hm1 hb1 hk hh hw
  cases hany : held.any (fun o => inWayB o c) with
  | true =>
    rw [hany] at HA HF
    have hr : r = false := by rw [HF.out]; rfl
    subst hr
    go_enter Tryz.func20, Tryz.ntmps20
    go_upto_region 1 with fail
    rw [← hw1]
    clear hw1
    go_wp2_with fail
    refine HA.out.mono ?_
    rintro e w2 ⟨rfl, hm2⟩
    go_wp2_with fail
    go_ret
    exact ⟨rfl, HM1.out.trans hm2⟩
  | false =>
    rw [hany] at HA HF
    have HR : Hid (r = !(waits.any fun o => decide (o.tx < c.tx) && inWayB o c)) := by rw [HF.out]; rfl
    clear HF
    go_enter Tryz.func20, Tryz.ntmps20
    go_upto_region 1 with fail
    rw [← hw1]
    clear hw1
    go_wp2_with fail
    refine HA.out.mono ?_
    rintro e w2 ⟨rfl, hm2⟩
    have d1 := hm2.cell c1 id
    have HM2 := Hid.mkq hm2
    have HB2 := Hid.mkq (HB.out w2 hm2)
    clear HB hm2 c0 c1
    go_wp2_with fail
    refine HB2.out.mono ?_
    rintro e w3 ⟨rfl, hm3⟩
    go_wp2_with fail
    go_ret
    exact ⟨by rw [HR.out]; rfl, (HM1.out.trans HM2.out).trans hm3⟩
end Go.Proofs.YtkoncehhpiegfaaGreatDoor
