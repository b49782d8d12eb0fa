/- The document's table: may, without. -/
import Derived.Test.YtkoncehhpiegfaaGreatDoorUc
namespace Go.Proofs.YtkoncehhpiegfaaGreatDoor
open Go.RowKit Go.Lib Go.Maps
set_option linter.unusedVariables false

theorem elderA_eq (x a : AskD) : elderA x a = (decide (a.key = x.key) && (decide (a.tx < x.tx) && (decide (a.mode = 2) || decide (x.mode = 2)))) := rfl
set_option maxRecDepth 100000 in
set_option maxHeartbeats 8000000 in
theorem may_any (B b : Nat) (hv wv : Value) (r : RefT) (x : AskD) (w : World) (h : RtP w B b hv wv r) (hl1 : r.holds.length ≤ 1000) (hl2 : r.waits.length ≤ 1000) :
    Calls Tryz.prog 17 #[.pointer (some ⟨b, 0, none⟩), .agg #[.int .i64 x.tx, .string x.key, .int .i64 x.mode]] w fun e w' => e = .returned (.bool (mayR r x)) ∧ Mod noBlock w w' := by
  obtain ⟨w1, hw1⟩ : ∃ q, q = w.alloc (.cells #[.int .i64 x.tx, .string x.key, .int .i64 x.mode] 37) := ⟨_, rfl⟩
  have hm1 : Mod noBlock w w1 := by rw [hw1]; exact (Mod.refl _ w).alloc _
  have hb1 : Blk w1 w.heap.size (askCells x) 37 := by rw [hw1]; exact Blk.new w (askCells x) 37
  have h1 := h.quiet hm1
  have HRT := Hid.mkq h1
  have HHO : Hid (∀ wq, Mod noBlock w1 wq → Calls Tryz.prog 13 #[.pointer (some ⟨b, 0, none⟩), .int .i64 x.tx, .string x.key] wq fun e w' => e = .returned (.int .i64 (howR r.holds x.tx x.key)) ∧ Mod noBlock wq w') := fun wq hq => how_any B b hv wv r x.tx x.key wq (h1.quiet hq) hl1
  have HWY : Hid (∀ wq, Mod noBlock w1 wq → Calls Tryz.prog 16 #[.pointer (some ⟨b, 0, none⟩), .agg #[.int .i64 x.tx, .string x.key, .int .i64 x.mode]] wq fun e w' => ∃ v ks, e = .returned v ∧ IntsQ w' w'.heap.size v ks ∧ ks.Perm (wayR r.holds x) ∧ ks.Pairwise (· ≤ ·) ∧ (∀ x, v.ownBlock = some x → wq.heap.size ≤ x) ∧ Mod noBlock wq w') := fun wq hq => way_any B b hv wv r x wq (h1.quiet hq) hl1
  obtain ⟨wa, wcap, rfl⟩ := own_slice h.w.1
  have HB1 := Hid.mkq hb1
  have HM1 := Hid.mkq hm1
  have HMA : Hid (mayR r x = (decide (x.mode ≤ howR r.holds x.tx x.key) || (!(r.waits.any (elderA x)) && decide (wayR r.holds x = [])))) := rfl
  have s0 := hb1.cell 0 rfl
  have s1 := hb1.cell 1 rfl
  have s2 := hb1.cell 2 rfl
  have hzx := hb1.lt
  have HWV := Hid.mkq (h1.w.toV (Nat.le_refl _))
  have c1 := h1.blk.cell 1 rfl
  have zb := h1.blk.lt
  clear h h1 hm1 hb1
  generalize mayR r x = res at HMA
  go_enter Tryz.func17, Tryz.ntmps17
  go_upto_region 1 with fail
  rw [← hw1]
  clear hw1
  go_cut [15] from 5 to 52 (fun bv wc => bv = .bool (decide (howR r.holds x.tx x.key ≥ x.mode)) ∧ Mod noBlock w1 wc)
  case first =>
    have HH2 := Hid.mkq (HHO.out w1.drew ((Mod.refl noBlock w1).drew))
    go_region_with (first
      | (go_at_call 13; refine HH2.out.mono ?_; rintro e w5 ⟨rfl, hm5⟩; have hm15 : Mod noBlock w1 w5 := ((Mod.refl noBlock w1).drew).trans hm5; have y2 := hm15.cell s2 id; have hzx5 := Nat.lt_of_lt_of_le hzx hm15.size)
      | fail)
    all_goals
      have HM5 := Hid.mkq hm15
      clear hm15 hm5
      go_wp2_with fail
      go_meet
      case rel => exact ⟨rfl, HM5.out⟩
  case rest =>
    obtain ⟨rfl, hmc⟩ := hcut
    by_cases g1 : x.mode ≤ howR r.holds x.tx x.key
    · have hd : decide (howR r.holds x.tx x.key ≥ x.mode) = true := decide_eq_true g1
      have HR : Hid (res = true) := by rw [HMA.out, decide_eq_true g1, Hid]; rfl
      have HMC := Hid.mkq hmc
      clear hmc
      go_wp2_with fail
      go_ret
      exact ⟨by rw [HR.out]; rfl, HM1.out.trans HMC.out⟩
    · have hd : decide (howR r.holds x.tx x.key ≥ x.mode) = false := decide_eq_false (by omega)
      have HR1 : Hid (res = (!(r.waits.any (elderA x)) && decide (wayR r.holds x = []))) := by rw [HMA.out, decide_eq_false g1, Hid]; rfl
      have c1' := hmc.cell c1 id
      have zb' := Nat.lt_of_lt_of_le zb hmc.size
      have HMC := Hid.mkq hmc
      clear hmc HMA HHO c1 zb
      generalize hwl : r.waits = l at HWV HR1 hl2 c1'
      obtain ⟨wk, hwk⟩ : ∃ y, y = wc := ⟨_, rfl⟩
      subst hwk
      go_wp2_with fail
      go_loopw [21] (fun i wr => ∃ n : Nat, n ≤ l.length ∧ i = .int .i64 n ∧ (l.take n).any (elderA x) = false ∧ Mod noBlock w1 wr) (fun i _ => l.length - (intOf i).toNat)
      case atStart => exact ⟨0, Nat.zero_le _, rfl, by simp, HMC.out⟩
      case round =>
        obtain ⟨n, hn, rfl, hfn, hM⟩ := hrel
        have HFN := Hid.mkq hfn
        have HM := Hid.mkq hM
        clear hfn hM
        by_cases hlt : n < l.length
        · obtain ⟨d, hdd⟩ : ∃ d, l[n]? = some d := ⟨_, List.getElem?_eq_getElem hlt⟩
          obtain ⟨hb, off, rfl, _, _, q0, q1, q2⟩ := HWV.out.at hdd
          have p0 := HM.out.cell q0 id
          have p1 := HM.out.cell q1 id
          have p2 := HM.out.cell q2 id
          have hltI : (n : Int) < (l.length : Int) := by omega
          have hlt0 : (0 : Int) ≤ (n : Int) := by omega
          obtain ⟨w3, hw3⟩ : ∃ q, q = wr.alloc (.cells #[.int .i64 d.tx, .string d.key, .int .i64 d.mode] 37) := ⟨_, rfl⟩
          have hm3 : Mod noBlock wr w3 := by rw [hw3]; exact (Mod.refl _ wr).alloc _
          have hb3 : Blk w3 wr.heap.size (askCells d) 37 := by rw [hw3]; exact Blk.new wr (askCells d) 37
          have r0 := hb3.cell 0 rfl
          have r1 := hb3.cell 1 rfl
          have r2 := hb3.cell 2 rfl
          have hz3 := hb3.lt
          have HM3 := Hid.mkq (HM.out.trans hm3)
          have hx3 := HB1.out.mod HM3.out id
          have t0 := hx3.cell 0 rfl
          have t1 := hx3.cell 1 rfl
          have t2 := hx3.cell 2 rfl
          have hzx3 := hx3.lt
          have HEL := Hid.mkq (elderA_eq x d)
          have HYES : Hid (elderA x d = true → l.any (elderA x) = true) := fun hf => List.any_eq_true.2 ⟨d, List.mem_of_getElem? hdd, hf⟩
          have HNO : Hid (elderA x d = false → (l.take (n + 1)).any (elderA x) = false) := fun hf => by rw [take_snocQ hdd, List.any_append, HFN.out]; simp [hf]
          clear hdd q0 q1 q2 hb3 hm3 hx3 s0 s1 s2
          go_upto_region 6 with fail
          rw [← hw3]
          clear hw3 p0 p1 p2
          go_cut [46] from 22 to 47 (fun bv wc => bv = .bool (elderA x d) ∧ wc = w3)
          case first =>
            by_cases e2 : d.key = x.key
            · have e2' : (d.key.toList == x.key.toList) = true := by rw [e2]; simp
              by_cases e1 : d.tx < x.tx
              · have e1' : decide (d.tx < x.tx) = true := decide_eq_true e1
                by_cases e3 : d.mode = 2
                · have HR : Hid (elderA x d = true) := by rw [HEL.out, Hid]; simp [e1, e2, e3]
                  rw [e3] at r2
                  go_wp2_with fail
                  go_meet
                  case rel => exact ⟨by rw [HR.out], rfl⟩
                · have HR : Hid (elderA x d = (d.mode == 2 || x.mode == 2)) := by rw [HEL.out, Hid, Bool.eq_iff_iff]; simp [e1, e2, e3]
                  go_wp2_with fail
                  go_meet
                  case rel => exact ⟨by rw [HR.out], rfl⟩
              · have e1' : decide (d.tx < x.tx) = false := decide_eq_false e1
                have HR : Hid (elderA x d = false) := by rw [HEL.out, Hid]; simp [e1]
                go_wp2_with fail
                go_meet
                case rel => exact ⟨by rw [HR.out], rfl⟩
            · have e2' : (d.key.toList == x.key.toList) = false := keyQ_ne e2
              have HR : Hid (elderA x d = false) := by rw [HEL.out, Hid]; simp [e2]
              go_wp2_with fail
              go_meet
              case rel => exact ⟨by rw [HR.out], rfl⟩
          case rest =>
            obtain ⟨rfl, hwc0⟩ := hcut
            rw [hwc0]
            clear hwc0
            cases hwa : elderA x d with
            | true =>
              have HR2 : Hid (res = false) := by rw [HR1.out, HYES.out hwa, Hid]; rfl
              go_wp2_with fail
              go_ret
              exact ⟨by rw [HR2.out]; rfl, HM1.out.trans HM3.out⟩
            | false =>
              have HO2 := Hid.mkq (HNO.out hwa)
              go_wp2_with fail
              go_roundw
              case rel => exact ⟨n + 1, by omega, by go_num, HO2.out, HM3.out⟩
              case measure => simp [intOf]; omega
        · obtain rfl : n = l.length := by omega
          have HF0 : Hid (l.any (elderA x) = false) := by have := HFN.out; rw [List.take_length] at this; exact this
          have HW2 := Hid.mkq (HWY.out wr HM.out)
          have hx3 := HB1.out.mod HM.out id
          have t0 := hx3.cell 0 rfl
          have t1 := hx3.cell 1 rfl
          have t2 := hx3.cell 2 rfl
          have hzx3 := hx3.lt
          clear HFN hx3 s0 s1 s2
          go_wp2_with fail
          refine HW2.out.mono ?_
          rintro e w5 ⟨v, ks, rfl, hks, hpm, -, -, hm5⟩
          obtain ⟨va, vc, hv0, _, _⟩ := SlR.slice hks
          subst hv0
          have HR2 : Hid (res = ((ks.length : Int) == 0)) := by
            rw [HR1.out, HF0.out, Hid, Bool.not_false, Bool.true_and, Bool.eq_iff_iff, decide_eq_true_iff, beq_iff_eq]
            constructor
            · intro e
              rw [e] at hpm
              rw [hpm.eq_nil]; rfl
            · intro e
              have : ks = [] := List.eq_nil_of_length_eq_zero (by omega)
              subst this
              exact hpm.symm.eq_nil
          have HM5 := Hid.mkq (HM.out.trans hm5)
          clear hks hpm hm5
          go_wp2_with fail
          go_ret
          exact ⟨by rw [HR2.out]; rfl, HM1.out.trans HM5.out⟩
end Go.Proofs.YtkoncehhpiegfaaGreatDoor
