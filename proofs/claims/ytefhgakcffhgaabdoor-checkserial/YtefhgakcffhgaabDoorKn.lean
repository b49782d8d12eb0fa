/- The document's answer whether an order fits: walked. -/
import Derived.Test.YtefhgakcffhgaabDoorKm
import Derived.Test.YtefhgakcffhgaabDoorKj
import Derived.Laws.OwnMore
namespace Go.Proofs.YtefhgakcffhgaabDoor
open Go.RowKit Go.Lib Go.Maps
set_option linter.unusedVariables false

theorem makeInts (w : World) (n : Nat) (hn : n ≤ 1000) : (Instr.makeSlice 26 (.int .i64 n) (.int .i64 n)).run Tryd.prog w = .ok (.slice (some ⟨w.heap.size, 0, none⟩) n n) (w.alloc (.cells (madeCells #[.int .i64 0] n) 3)) := by
  obtain ⟨i0, hi, hz0, hz1, hz2⟩ := info_parts Tryd.info3
  have := run_make (P := Tryd.prog) w 26 3 i0 _ Tryd.underlying26 hi hz0 .i64 .i64 n n (by omega) (by omega) (by rw [hz2]; omega) (by omega)
  rw [hz1] at this
  simpa [Value.cells] using this
theorem row_made (w : World) (n : Nat) (hn : n ≤ 1000) : (w.alloc (.cells (madeCells #[.int .i64 0] n) 3)).ownsRow w.heap.size 3 1 (.slice (some ⟨w.heap.size, 0, none⟩) n n) n (rowT [] n) := by
  refine ⟨by simp [rowT], .inr ⟨w.heap.size, n, madeCells #[.int .i64 0] n, rfl, Nat.le_refl _, heap_alloc_new w _, Nat.le_refl _, by unfold maxLen; omega, by simp [madeCells], ?_⟩⟩
  rw [toList_madeCells_one, rowT_nil]
  simp
theorem newerN {w w' : World} (h : Mod (newer w.heap.size) w w') : Mod noBlock w w' := h.mono (fun i hi e => by simp only [newer] at e; omega)
theorem row_cell {w : World} {L b n cap : Nat} {e : TypeId} {xs : List Value} (h : w.ownsRow L e 1 (.slice (some ⟨b, 0, none⟩) n cap) n xs) {j : Nat} {x : Value} (hx : xs[j]? = some x) : w.cell? ⟨b, j, none⟩ = some x := by
  have := h.cells (g := b) rfl j x hx
  rw [Go.WideShapes.add_plain, Nat.zero_add] at this
  exact this
theorem row_frozen {w : World} {L b n cap : Nat} {e : TypeId} {xs : List Value} (h : w.ownsRow L e 1 (.slice (some ⟨b, 0, none⟩) n cap) n xs) (j : Nat) : w.frozen? ⟨b, j, none⟩ = false ∧ b < w.heap.size := by
  obtain ⟨_, h2, cur, h3⟩ := own_cells h (k := b) rfl
  exact ⟨by simp [World.frozen?, h3], h2⟩
set_option maxRecDepth 100000 in
set_option maxHeartbeats 16000000 in
theorem fits_any (L : Nat) (tv ov : Value) (ts : List TxD) (o : List Nat) (s2 : Sta) (w : World) (ht : TxsV w L tv ts) (hL : L ≤ w.heap.size) (ho : IntsV w ov (ordI o)) (hg : goodR ts [] bareS o = some s2) (hw : Whole ts o) (hts : ts.length ≤ 8) (hops : ∀ t ∈ ts, t.ops.length ≤ 40) :
    Calls Tryd.prog 14 #[tv, ov] w fun e w' => e = .returned (.bool true) ∧ Mod noBlock w w' := by
  obtain ⟨ta, tcap, rfl, htc1, htc2⟩ := SlR.slice ht
  have hnd : o.Nodup := by have := goodR_nodup ts o [] bareS s2 hg (by simp); simpa using this
  have hin : ∀ n ∈ o, n < ts.length := fun n hn => by
    obtain ⟨p, hp, e⟩ := List.getElem_of_mem hn
    exact (goodR_at ts o [] bareS s2 hg p n (by rw [List.getElem?_eq_getElem hp, e])).2
  have hol : o.length ≤ 8 := by
    have := List.Nodup.length_le_of_subset hnd (l₂ := List.range ts.length) (fun x hx => List.mem_range.2 (hin x hx))
    simp at this
    omega
  obtain ⟨oa, ocap, rfl, hoc1, hoc2, hocl⟩ := ho
  have hmk := makeInts w ts.length (by omega)
  have hrow := row_made w ts.length (by omega)
  obtain ⟨w1, hw1⟩ : ∃ q, q = w.alloc (.cells (madeCells #[.int .i64 0] ts.length) 3) := ⟨_, rfl⟩
  rw [← hw1] at hmk hrow
  have hm1 : Mod noBlock w w1 := by rw [hw1]; exact (Mod.refl _ w).alloc _
  have HT := Hid.mk' ht
  have HOC := Hid.mk' hocl
  have HG := Hid.mk' hg
  have HWH := Hid.mk' hw
  have HND := Hid.mk' hnd
  have HIN := Hid.mk' hin
  have HOL := Hid.mk' (ordI_len o)
  have HOPS := Hid.mk' hops
  have HR1 := Hid.mk' hrow
  have HM1 := Hid.mk' hm1
  unfold maxLen at htc2 hoc2
  have hoI : ((ordI o).length : Int) ≤ 8 := by have := ordI_len o; omega
  clear ht hocl hg hw hnd hin hops hrow hm1 hw1
  go_enter Tryd.func14, Tryd.ntmps14
  go_wp2_with fail
  go_loopw [24] (fun i wr => ∃ p : Nat, p ≤ (ordI o).length ∧ i = .int .i64 p ∧ wr.ownsRow w.heap.size 3 1 (.slice (some ⟨w.heap.size, 0, none⟩) ts.length ts.length) ts.length (rowT (o.take p) ts.length) ∧ Mod noBlock w wr) (fun i _ => (ordI o).length - (intOf i).toNat)
  case atStart => exact ⟨0, Nat.zero_le _, rfl, by simpa using HR1.out, HM1.out⟩
  case round =>
    obtain ⟨p, hp, rfl, hR, hM⟩ := hrel
    clear HR1 HM1 hmk
    by_cases hlt : p < (ordI o).length
    · have hpo : p < o.length := by have := HOL.out; omega
      obtain ⟨n, hn⟩ : ∃ n, o[p]? = some n := ⟨_, List.getElem?_eq_getElem hpo⟩
      have hnI : (ordI o)[p]? = some (n : Int) := by unfold ordI; rw [List.getElem?_map, hn]; rfl
      have hnl := HIN.out n (List.mem_of_getElem? hn)
      have hnn : n ∉ o.take p := by have := (goodR_at ts o [] bareS s2 HG.out p n hn).1.1; simpa using this
      rcases HOC.out with e | ⟨ob, off, rfl, hcl⟩
      · rw [e] at hlt; simp at hlt
      have q0 := hM.cell (hcl p (n : Int) hnI) id
      have hz : plc (o.take p) n 0 = 0 := by
        by_cases e : plc (o.take p) n 0 = 0
        · exact e
        · exact absurd ((plc_in _ _ _).1 e) hnn
      have q1 := row_cell hR (rowT_at (o.take p) hnl)
      rw [hz] at q1
      obtain ⟨f1, z1⟩ := row_frozen hR n
      have hltI : (p : Int) < ((ordI o).length : Int) := by omega
      have hlt0 : (0 : Int) ≤ (p : Int) := by omega
      have hnlI : (n : Int) < (ts.length : Int) := by omega
      have hn0 : (0 : Int) ≤ (n : Int) := by omega
      have hp8 : (p : Int) ≤ 1000 := by omega
      have htl : (o.take p).length = p := by rw [List.length_take]; omega
      have hsn : o.take (p + 1) = o.take p ++ [n] := by
        rw [List.take_succ_eq_append_getElem hpo]
        rw [List.getElem?_eq_getElem hpo] at hn
        simp at hn
        rw [hn]
      have hR' := row_set hR hnl (.int .i64 ((p : Int) + 1))
      rw [show ((p : Int) + 1) = (((o.take p).length : Nat) : Int) + 1 by rw [htl], rowT_set hnl hnn, ← hsn, htl] at hR'
      have hM' : Mod noBlock w (wr.setCell ⟨w.heap.size, n, none⟩ (.int .i64 ((p : Int) + 1))) := newerN (Mod.put (hM.mono (G' := newer w.heap.size) (fun _ _ e => e.elim)) w.heap.size n (Nat.le_refl _) _)
      have HR' := Hid.mk' hR'
      have HM' := Hid.mk' hM'
      clear hR hM hR' hM' hn hnI hnn hz hcl hsn htl
      go_wp2_with fail
      go_roundw
      case rel => exact ⟨p + 1, by omega, by go_num, HR'.out, HM'.out⟩
      case measure => simp [intOf]; omega
    · have hpe : o.take p = o := by have := HOL.out; rw [List.take_of_length_le (by omega)]
      rw [hpe] at hR
      have HR := Hid.mk' hR
      have HM := Hid.mk' hM
      clear hR hM hpe
      go_wp2_with fail
      go_loopw [52] (fun i wr => ∃ k : Nat, k ≤ ts.length ∧ i = .int .i64 k ∧ wr.ownsRow w.heap.size 3 1 (.slice (some ⟨w.heap.size, 0, none⟩) ts.length ts.length) ts.length (rowT o ts.length) ∧ Mod noBlock w wr) (fun i _ => ts.length - (intOf i).toNat)
      case atStart => exact ⟨0, Nat.zero_le _, rfl, HR.out, HM.out⟩
      case round =>
        clear HR HM
        obtain ⟨k, hk, rfl, hR, hM⟩ := hrel
        obtain ⟨wk, hwk⟩ : ∃ q, q = wr := ⟨_, rfl⟩
        subst hwk
        by_cases hlt2 : k < ts.length
        · obtain ⟨t, ht⟩ : ∃ t, ts[k]? = some t := ⟨_, List.getElem?_eq_getElem hlt2⟩
          obtain ⟨b, off, xv, rfl, hbL, hopv, hints, q0, q1, q2⟩ := HT.out.at ht
          obtain ⟨xa, xcap, rfl, _⟩ := SlR.slice hopv
          have q0' := hM.cell q0 id
          have q1' := hM.cell q1 id
          have q2' := hM.cell q2 id
          have hltI : (k : Int) < (ts.length : Int) := by omega
          have hlt0 : (0 : Int) ≤ (k : Int) := by omega
          obtain ⟨w3, hw3⟩ : ∃ q, q = wk.alloc (.cells #[.slice xa t.ops.length xcap, .int .i64 t.frm, .int .i64 t.til] 52) := ⟨_, rfl⟩
          have hm3 : Mod noBlock wk w3 := by rw [hw3]; exact (Mod.refl _ wk).alloc _
          have hB3 : Blk w3 wk.heap.size [.slice xa t.ops.length xcap, .int .i64 t.frm, .int .i64 t.til] 52 := by rw [hw3]; exact Blk.new wk _ _
          have hR3 := own_mod hR hm3 (fun _ _ _ _ => id)
          have r1 := row_cell hR3 (rowT_at o hlt2)
          obtain ⟨f1, z1⟩ := row_frozen hR3 k
          have x2 := hB3.cell 2 rfl
          have z3 := hB3.lt
          have HR3 := Hid.mk' hR3
          have HB3 := Hid.mk' hB3
          have HM3 := Hid.mk' (hM.trans hm3)
          have HTK := Hid.mk' ht
          have HDN : Hid (0 ≤ t.til → plc o k 0 ≠ 0) := fun h => (plc_in _ _ _).2 (HWH.out k t ht h)
          clear hR hM hopv hints q0 q1 q2 ht hm3 hB3 hR3
          go_upto_region 12 with fail
          rw [← hw3]
          clear hw3 q0' q1' q2'
          go_cut [66] (fun v wc => v = .bool false ∧ wc = w3)
          case first =>
            by_cases htl : 0 ≤ t.til
            · have hd : decide (t.til ≥ 0) = true := decide_eq_true htl
              have hpz : ((plc o k 0 : Nat) : Int) ≠ 0 := by have := HDN.out htl; omega
              have hpd : (((plc o k 0 : Nat) : Int) == 0) = false := by simpa using hpz
              clear hpz
              go_wp2_with fail
              go_meet
              case rel => exact ⟨by first | rfl | simp, rfl⟩
            · have hd : decide (t.til ≥ 0) = false := decide_eq_false htl
              go_wp2_with fail
              go_meet
              case rel => exact ⟨by first | rfl | simp, rfl⟩
          case rest =>
            obtain ⟨rfl, hwc⟩ := hcut
            clear r1 f1 x2
            rw [hwc]
            clear hwc
            go_wp2_with fail
            go_loopw [69] (fun i wx => ∃ m : Nat, m ≤ ts.length ∧ i = .int .i64 m ∧ wx.ownsRow w.heap.size 3 1 (.slice (some ⟨w.heap.size, 0, none⟩) ts.length ts.length) ts.length (rowT o ts.length) ∧ Blk wx wk.heap.size [.slice xa t.ops.length xcap, .int .i64 t.frm, .int .i64 t.til] 52 ∧ Mod noBlock w wx) (fun i _ => ts.length - (intOf i).toNat)
            case atStart => exact ⟨0, Nat.zero_le _, rfl, HR3.out, HB3.out, HM3.out⟩
            case round =>
              clear HR3 HB3 HM3
              obtain ⟨m, hm, rfl, hR, hB, hM⟩ := hrel
              by_cases hlt3 : m < ts.length
              · obtain ⟨u, hu⟩ : ∃ u, ts[m]? = some u := ⟨_, List.getElem?_eq_getElem hlt3⟩
                obtain ⟨b', off', uv, hab, _, hupv, _, u0, u1, u2⟩ := HT.out.at hu
                obtain ⟨ya, ycap, rfl, _⟩ := SlR.slice hupv
                simp only [Option.some.injEq, Addr.mk.injEq] at hab
                obtain ⟨rfl, rfl, _⟩ := hab
                have u0' := hM.cell u0 id
                have u1' := hM.cell u1 id
                have u2' := hM.cell u2 id
                have hmI : (m : Int) < (ts.length : Int) := by omega
                have hm0 : (0 : Int) ≤ (m : Int) := by omega
                obtain ⟨w5, hw5⟩ : ∃ q, q = wr.alloc (.cells #[.slice ya u.ops.length ycap, .int .i64 u.frm, .int .i64 u.til] 52) := ⟨_, rfl⟩
                have hm5 : Mod noBlock wr w5 := by rw [hw5]; exact (Mod.refl _ wr).alloc _
                have hB5 : Blk w5 wr.heap.size [.slice ya u.ops.length ycap, .int .i64 u.frm, .int .i64 u.til] 52 := by rw [hw5]; exact Blk.new wr _ _
                have hR5 := own_mod hR hm5 (fun _ _ _ _ => id)
                have hBt := hB.mod hm5 id
                have rk := row_cell hR5 (rowT_at o hlt2)
                have rm := row_cell hR5 (rowT_at o hlt3)
                obtain ⟨fk, zk⟩ := row_frozen hR5 k
                have y1 := hB5.cell 1 rfl
                have y2 := hBt.cell 2 rfl
                have z5 := hB5.lt
                have zt := hBt.lt
                have HR5 := Hid.mk' hR5
                have HBt := Hid.mk' hBt
                have HM5 := Hid.mk' (hM.trans hm5)
                have HUM := Hid.mk' hu
                clear hR hB hM hupv u0 u1 u2 hu hm5 hB5 hR5 hBt
                go_upto_region 17 with fail
                rw [← hw5]
                clear hw5 u0' u1' u2'
                go_cut [101] (fun v wc => v = .bool false ∧ Mod noBlock w5 wc)
                case first =>
                  by_cases htl : 0 ≤ t.til
                  · have hd1 : decide (t.til ≥ 0) = true := decide_eq_true htl
                    by_cases hfr : t.til < u.frm
                    · have hd2 : decide (t.til < u.frm) = true := decide_eq_true hfr
                      by_cases hpm : plc o m 0 = 0
                      · rw [hpm] at rm
                        have HPM := Hid.mk' hpm
                        clear hpm
                        go_quiet (fail)
                        go_wp2_with fail
                        go_meet
                        case rel => exact ⟨by first | rfl | simp, (Mod.refl noBlock w5).drewN _⟩
                      · obtain ⟨am, ham⟩ : ∃ q : Int, q = ((plc o m 0 : Nat) : Int) := ⟨_, rfl⟩
                        obtain ⟨ak, hak⟩ : ∃ q : Int, q = ((plc o k 0 : Nat) : Int) := ⟨_, rfl⟩
                        rw [← ham] at rm
                        rw [← hak] at rk
                        have hd3 : decide (am > 0) = true := decide_eq_true (by omega)
                        have hd4 : decide (am < ak) = false := decide_eq_false (by have := never HG.out HTK.out HUM.out htl hfr hpm; omega)
                        clear hpm ham hak
                        go_quiet (fail)
                        go_wp2_with fail
                        go_meet
                        case rel => exact ⟨by first | rfl | simp, (Mod.refl noBlock w5).drewN _⟩
                    · have hd2 : decide (t.til < u.frm) = false := decide_eq_false hfr
                      go_quiet (fail)
                      go_wp2_with fail
                      go_meet
                      case rel => exact ⟨by first | rfl | simp, (Mod.refl noBlock w5).drewN _⟩
                  · have hd1 : decide (t.til ≥ 0) = false := decide_eq_false htl
                    go_quiet (fail)
                    go_wp2_with fail
                    go_meet
                    case rel => exact ⟨by first | rfl | simp, (Mod.refl noBlock w5).drewN _⟩
                case rest =>
                  obtain ⟨rfl, hMc⟩ := hcut
                  have HRC := Hid.mk' (own_mod HR5.out hMc (fun _ _ _ _ => id))
                  have HBC := Hid.mk' (HBt.out.mod hMc id)
                  have HMC := Hid.mk' (HM5.out.trans hMc)
                  clear hMc rk rm y1 y2 fk
                  go_wp2_with fail
                  go_roundw
                  case rel => exact ⟨m + 1, by omega, by go_num, HRC.out, HBC.out, HMC.out⟩
                  case measure => simp [intOf]; omega
              · have HR := Hid.mk' hR
                have HM := Hid.mk' hM
                clear hR hB hM
                go_wp2_with fail
                go_roundw
                case rel => exact ⟨k + 1, by omega, by go_num, HR.out, HM.out⟩
                case measure => simp [intOf]; omega
        · have hmm := @run_makeMap Tryd.prog
          obtain ⟨wj, hwj⟩ : ∃ q, q = wk.alloc (.map #[] 0) := ⟨_, rfl⟩
          have hN0 : NowP wj wk.heap.size 0 bareS := by
            rw [hwj]
            exact ⟨.map [], World.ownsMap_made wk Tryd.prog 9 (plainElem Tryd.prog 9), fun k _ => ⟨rfl, fun h => by simp [bareS, zeroVD] at h⟩⟩
          have hmj : Mod noBlock w wj := by rw [hwj]; exact hM.alloc _
          have HN0 := Hid.mk' hN0
          have HMJ := Hid.mk' hmj
          have hzk := hM.size
          clear hR hM hN0 hmj
          go_upto_region 22 with fail
          rw [← hwj]
          clear hwj
          go_wp2_with fail
          go_loopw [107] (fun i wx => ∃ (p n1 : Nat) (s1 : Sta), p ≤ (ordI o).length ∧ i = .int .i64 p ∧ goodR ts [] bareS (o.take p) = some s1 ∧ NowP wx wk.heap.size n1 s1 ∧ n1 ≤ 40 * p ∧ Mod noBlock w wx) (fun i _ => (ordI o).length - (intOf i).toNat)
          case atStart => exact ⟨0, 0, bareS, Nat.zero_le _, rfl, rfl, HN0.out, by omega, HMJ.out⟩
          case round =>
            clear HN0 HMJ hmm
            obtain ⟨p, n1, s1, hp, rfl, hg1, hN1, hn1, hM1⟩ := hrel
            obtain ⟨wp, hwp⟩ : ∃ q, q = wr := ⟨_, rfl⟩
            subst hwp
            by_cases hlt4 : p < (ordI o).length
            · have hpo : p < o.length := by have := HOL.out; omega
              obtain ⟨n, hn⟩ : ∃ n, o[p]? = some n := ⟨_, List.getElem?_eq_getElem hpo⟩
              have hnI : (ordI o)[p]? = some (n : Int) := by unfold ordI; rw [List.getElem?_map, hn]; rfl
              have hnl := HIN.out n (List.mem_of_getElem? hn)
              obtain ⟨t, ht⟩ : ∃ t, ts[n]? = some t := ⟨_, List.getElem?_eq_getElem hnl⟩
              obtain ⟨s1', r, g1, g2, g3⟩ := goodR_ops ts o [] bareS s2 HG.out p n t hn ht
              rw [hg1] at g1
              simp at g1
              subst g1
              have hlo := HOPS.out t (List.mem_of_getElem? ht)
              rcases HOC.out with e | ⟨ob, off, rfl, hcl⟩
              · rw [e] at hlt4; simp at hlt4
              obtain ⟨b, toff, xv, rfl, hbL, hopv, hints, q0, q1, q2⟩ := HT.out.at ht
              obtain ⟨xa, xcap, rfl, hxc1, hxc2⟩ := SlR.slice hopv
              have c0 := hM1.cell (hcl p (n : Int) hnI) id
              have q0' := hM1.cell q0 id
              have hltI : (p : Int) < ((ordI o).length : Int) := by omega
              have hlt0 : (0 : Int) ≤ (p : Int) := by omega
              have hnlI : (n : Int) < (ts.length : Int) := by omega
              have hn0 : (0 : Int) ≤ (n : Int) := by omega
              unfold maxLen at hxc2
              have HG2 := Hid.mk' g2
              have HG3 := Hid.mk' g3
              have HOPV := Hid.mk' hopv
              have HN1 := Hid.mk' hN1
              have HM1 := Hid.mk' hM1
              clear hg1 g2 g3 hopv hN1 hM1 hn hnI ht hcl q0 q1 q2 hints
              go_wp2_with fail
              go_loopw [117] (fun i wx => ∃ (j : Nat) (s3 : Sta) (us : List (ByteArray × VD)), j ≤ t.ops.length ∧ i = .int .i64 j ∧ doOps s1 (t.ops.take j) = some (s3, us) ∧ NowP wx wk.heap.size (n1 + j) s3 ∧ Mod noBlock w wx) (fun i _ => t.ops.length - (intOf i).toNat)
              case atStart => exact ⟨0, s1, [], Nat.zero_le _, rfl, by simp [doOps], HN1.out, HM1.out⟩
              case round =>
                clear HN1 HM1 c0 q0'
                obtain ⟨j, s3, us, hj, rfl, hdo, hN, hM⟩ := hrel
                by_cases hlt5 : j < t.ops.length
                · obtain ⟨kind, key, value, found, ho⟩ : ∃ kind key value found, t.ops[j]? = some ⟨kind, key, value, found⟩ := ⟨_, _, _, _, List.getElem?_eq_getElem hlt5⟩
                  obtain ⟨pb, poff, hpa, hpL, ⟨hs1, hs2⟩, e0, e1, e2, e3⟩ := HOPV.out.at ho
                  subst hpa
                  have hs1 : key.size ≤ maxLen := hs1
                  have hs2 : value.size ≤ maxLen := hs2
                  have e0' : wr.cell? ⟨pb, poff + j * 4, none⟩ = some (.int .i64 kind) := hM.cell e0 id
                  have e1' : wr.cell? ⟨pb, poff + j * 4 + 1, none⟩ = some (.string key) := hM.cell e1 id
                  have e2' : wr.cell? ⟨pb, poff + j * 4 + 2, none⟩ = some (.string value) := hM.cell e2 id
                  have e3' : wr.cell? ⟨pb, poff + j * 4 + 3, none⟩ = some (.bool found) := hM.cell e3 id
                  have hjI : (j : Int) < (t.ops.length : Int) := by omega
                  have hj0 : (0 : Int) ≤ (j : Int) := by omega
                  have hdop : doOp s3 ⟨kind, key, value, found⟩ ≠ none := fun hno => by
                    have := doOps_fail hdo ho hno
                    rw [HG2.out] at this
                    cases this
                  obtain ⟨w3, hw3⟩ : ∃ q, q = wr.alloc (.cells #[.int .i64 kind, .string key, .string value, .bool found] 55) := ⟨_, rfl⟩
                  have hm3 : Mod noBlock wr w3 := by rw [hw3]; exact (Mod.refl _ wr).alloc _
                  have hB3 : Blk w3 wr.heap.size [.int .i64 kind, .string key, .string value, .bool found] 55 := by rw [hw3]; exact Blk.new wr _ _
                  have hN3 := hN.mod hm3 id
                  obtain ⟨v, l3, hvt, hvs⟩ := hN3.look hs1
                  have x0 := hB3.cell 0 rfl
                  have x1 := hB3.cell 1 rfl
                  have x2 := hB3.cell 2 rfl
                  have x3 := hB3.cell 3 rfl
                  have z3 := hB3.lt
                  have HN3 := Hid.mk' hN3
                  have HM3 := Hid.mk' (hM.trans hm3)
                  have HDO := Hid.mk' hdo
                  have HOJ := Hid.mk' ho
                  have HDP := Hid.mk' hdop
                  have HVT := Hid.mk' hvt
                  obtain ⟨bt, hbt⟩ : ∃ q, q = (s3 key).there := ⟨_, rfl⟩
                  rw [← hbt] at l3
                  have HBT := Hid.mk' hbt
                  clear hdo hN hM ho hdop hm3 hB3 hN3 hvt hbt e0 e1 e2 e3
                  go_upto_region 28 with fail
                  rw [← hw3]
                  clear hw3 e0' e1' e2' e3'
                  by_cases h1 : kind = 1
                  · subst h1
                    have htold : s3 key = toldV ⟨1, key, value, found⟩ := by
                      by_cases e : s3 key = toldV ⟨1, key, value, found⟩
                      · exact e
                      · exact absurd (by simp [doOp, e]) HDP.out
                    have HFIN : Hid (doOps s1 (t.ops.take (j + 1)) = some (s3, us)) := by
                      rw [Hid, doOps_more HDO.out HOJ.out]
                      simp [doOp, htold]
                    have hbf : bt = found := by rw [HBT.out, htold]; unfold toldV; cases found <;> rfl
                    have hvf : found = true → v = value := fun hf => by
                      have := HVT.out (by rw [← HBT.out, hbf]; exact hf)
                      rw [this, htold, hf]; rfl
                    clear htold
                    subst hbf
                    cases bt with
                    | true =>
                      obtain rfl := hvf rfl
                      go_wp2_with fail
                      go_roundw
                      case rel => exact ⟨j + 1, s3, us, by omega, by go_num, HFIN.out, HN3.out.mono (by omega), HM3.out⟩
                      case measure => simp [intOf]; omega
                    | false =>
                      clear hvf
                      go_wp2_with fail
                      go_roundw
                      case rel => exact ⟨j + 1, s3, us, by omega, by go_num, HFIN.out, HN3.out.mono (by omega), HM3.out⟩
                      case measure => simp [intOf]; omega
                  · by_cases h2 : kind = 2
                    · subst h2
                      obtain ⟨D, hmap, hD⟩ := HN3.out
                      have hmx : n1 + j < maxLen := by unfold maxLen; omega
                      have HMP := Hid.mk' hmap
                      have HD := Hid.mk' hD
                      have HFIN : Hid (doOps s1 (t.ops.take (j + 1)) = some (updS s3 key ⟨value, true⟩, us ++ [(key, s3 key)])) := by
                        rw [Hid, doOps_more HDO.out HOJ.out]
                        simp [doOp]
                      clear hmap hD
                      go_wp2_with (first
                        | (at_mapUpdate; refine wpList_mapUpdate_own _ rfl _ _ _ 69 rfl 9 9 kStr Tryd.underlying69 (plainElem Tryd.prog 9) wk.heap.size (n1 + j) D rfl HMP.out hmx _ _ (.string key.data.toList) rfl rfl (Go.WideMaps.keyOf_string_mk Tryd.underlying9 hs1) (.lit (.string value.data.toList)) [] (plainElem_string Tryd.underlying9 hs2) ?_)
                        | fail)
                      intro w7 hown7 hgrow7
                      have hm7 : Mod (oneBlock wk.heap.size) w3 w7 := (Mod.refl _ w3).grown hgrow7 (fun x hx _ => by simp only [oneBlock]; simpa using hx.symm)
                      have hV7 := NowP.put HMP.out.isMap HD.out hown7
                      have hM7 : Mod noBlock w w7 := HM3.out.trans' hm7 (fun i hi e => by simp only [oneBlock] at e; omega)
                      have HV7 := Hid.mk' hV7
                      have HM7 := Hid.mk' hM7
                      clear hV7 hM7 hm7 hown7 hgrow7 x0 x1 x2 x3
                      go_wp2_with fail
                      go_roundw
                      case rel => exact ⟨j + 1, _, _, by omega, by go_num, HFIN.out, HV7.out, HM7.out⟩
                      case measure => simp [intOf]; omega
                    · by_cases h3 : kind = 3
                      · subst h3
                        obtain ⟨D, hmap, hD⟩ := HN3.out
                        have hmx : n1 + j < maxLen := by unfold maxLen; omega
                        have HMP := Hid.mk' hmap
                        have HD := Hid.mk' hD
                        have HFIN : Hid (doOps s1 (t.ops.take (j + 1)) = some (updS s3 key zeroVD, us ++ [(key, s3 key)])) := by
                          rw [Hid, doOps_more HDO.out HOJ.out]
                          simp [doOp]
                        clear hmap hD
                        go_wp2_with (first
                          | (at_delete; refine wpList_delete_own _ rfl _ _ 69 9 rfl 9 kStr Tryd.underlying69 (plainElem Tryd.prog 9) wk.heap.size (n1 + j) D rfl HMP.out _ (.string key.data.toList) rfl (Go.WideMaps.keyOf_string_mk Tryd.underlying9 hs1) ?_)
                          | fail)
                        intro w7 hown7 hgrow7
                        have hm7 : Mod (oneBlock wk.heap.size) w3 w7 := (Mod.refl _ w3).grown hgrow7.grown (fun x hx _ => by simp only [oneBlock]; simpa using hx.symm)
                        have hV7 := NowP.del (HMP.out.tidy kStr) HD.out hown7
                        have hM7 : Mod noBlock w w7 := HM3.out.trans' hm7 (fun i hi e => by simp only [oneBlock] at e; omega)
                        have HV7 := Hid.mk' hV7
                        have HM7 := Hid.mk' hM7
                        clear hV7 hM7 hm7 hown7 hgrow7 x0 x1 x2 x3
                        go_wp2_with fail
                        go_roundw
                        case rel => exact ⟨j + 1, _, _, by omega, by go_num, HFIN.out, HV7.out.mono (by omega), HM7.out⟩
                        case measure => simp [intOf]; omega
                      · have d1 : (kind == 1) = false := by simpa using h1
                        have d2 : (kind == 2) = false := by simpa using h2
                        have d3 : (kind == 3) = false := by simpa using h3
                        have HFIN : Hid (doOps s1 (t.ops.take (j + 1)) = some (s3, us)) := by
                          rw [Hid, doOps_more HDO.out HOJ.out]
                          simp [doOp, h1, h2, h3]
                        clear h1 h2 h3
                        go_wp2_with fail
                        go_roundw
                        case rel => exact ⟨j + 1, s3, us, by omega, by go_num, HFIN.out, HN3.out.mono (by omega), HM3.out⟩
                        case measure => simp [intOf]; omega
                · obtain rfl : j = t.ops.length := by omega
                  have HFIN : Hid (goodR ts [] bareS (o.take (p + 1)) = some s3) := by
                    have h1 := HG2.out
                    rw [List.take_length] at hdo
                    rw [hdo] at h1
                    simp at h1
                    rw [Hid, HG3.out, ← h1]
                  have HN := Hid.mk' hN
                  have HM := Hid.mk' hM
                  clear hdo hN hM
                  go_wp2_with fail
                  go_roundw
                  case rel => exact ⟨p + 1, n1 + t.ops.length, s3, by omega, by go_num, HFIN.out, HN.out, by omega, HM.out⟩
                  case measure => simp [intOf]; omega
            · go_wp2_with fail
              go_ret
              exact ⟨rfl, hM1⟩
end Go.Proofs.YtefhgakcffhgaabDoor
