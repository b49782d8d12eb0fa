/- The document's answer whether an order fits: of any order. -/
import Derived.Test.YtefhgakcffhgaabDoorKn
import Derived.Test.YtefhgakcffhgaabDoorKs
import Derived.Test.YtefhgakcffhgaabDoorLa
namespace Go.Proofs.YtefhgakcffhgaabDoor
open Go.RowKit Go.Lib Go.Maps
set_option linter.unusedVariables false

/-- What Fits comes to. -/
def FitsP (w : World) (ts : List TxD) (o : List Nat) (e : Ending) (w' : World) : Prop := Mod noBlock w w' ∧ ∃ b : Bool, e = .returned (.bool b) ∧ (b = true ↔ (Whole ts o ∧ AheadOK ts o ∧ ∃ s2, runR ts bareS o = some s2))
theorem FitsP.no {w w' : World} {ts : List TxD} {o : List Nat} (hm : Mod noBlock w w') (h : ¬ (Whole ts o ∧ AheadOK ts o ∧ ∃ s2, runR ts bareS o = some s2)) : FitsP w ts o (.returned (.bool false)) w' := ⟨hm, false, rfl, ⟨fun e => by simp at e, fun e => absurd e h⟩⟩
/-- Of one: it is there if it was done, and nobody ahead of it stands behind. -/
def RowOK (ts : List TxD) (o : List Nat) (i : Nat) (t : TxD) (m : Nat) : Prop := ∀ (k : Nat) u, k < m → ts[k]? = some u → 0 ≤ t.til → t.til < u.frm → plc o k 0 ≠ 0 → ¬ plc o k 0 < plc o i 0
def RowsOK (ts : List TxD) (o : List Nat) (j : Nat) : Prop := ∀ (i : Nat) t, i < j → ts[i]? = some t → (0 ≤ t.til → plc o i 0 ≠ 0) ∧ RowOK ts o i t ts.length
theorem rows_ok {ts : List TxD} {o : List Nat} (h : RowsOK ts o ts.length) : Whole ts o ∧ AheadOK ts o :=
  ⟨fun i t ht h0 => (plc_in o i 0).1 ((h i t (List.getElem?_eq_some_iff.1 ht).1 ht).1 h0), fun i k t u ht hu h1 h2 h3 => (h i t (List.getElem?_eq_some_iff.1 ht).1 ht).2 k u (List.getElem?_eq_some_iff.1 hu).1 hu h1 h2 h3⟩
theorem RowsOK.more {ts : List TxD} {o : List Nat} {j : Nat} {t : TxD} (h : RowsOK ts o j) (ht : ts[j]? = some t) (h1 : 0 ≤ t.til → plc o j 0 ≠ 0) (h2 : RowOK ts o j t ts.length) : RowsOK ts o (j + 1) := fun i t' hi ht' => by
  by_cases e : i = j
  · subst e
    rw [ht] at ht'
    simp at ht'
    subst ht'
    exact ⟨h1, h2⟩
  · exact h i t' (by omega) ht'
theorem RowOK.more {ts : List TxD} {o : List Nat} {i m : Nat} {t u : TxD} (h : RowOK ts o i t m) (hu : ts[m]? = some u) (h1 : ¬ (0 ≤ t.til ∧ t.til < u.frm ∧ plc o m 0 ≠ 0 ∧ plc o m 0 < plc o i 0)) : RowOK ts o i t (m + 1) := fun k u' hk hu' q1 q2 q3 q4 => by
  by_cases e : k = m
  · subst e
    rw [hu] at hu'
    simp at hu'
    subst hu'
    exact h1 ⟨q1, q2, q3, q4⟩
  · exact h k u' (by omega) hu' q1 q2 q3 q4
theorem runR_more {ts : List TxD} {o : List Nat} {p n : Nat} {t : TxD} {s1 : Sta} (hg : runR ts bareS (o.take p) = some s1) (hn : o[p]? = some n) (ht : ts[n]? = some t) : runR ts bareS (o.take (p + 1)) = (doOps s1 t.ops).map (·.1) := by
  obtain ⟨hp, e⟩ := List.getElem?_eq_some_iff.1 hn
  rw [List.take_succ_eq_append_getElem hp, e, runR_app, hg]
  simp only [Option.bind_some]
  rw [runR, ht]
  simp only
  cases doOps s1 t.ops with
  | none => rfl
  | some r => rfl
theorem runR_none {ts : List TxD} {o : List Nat} {p n : Nat} {t : TxD} {s1 : Sta} (hg : runR ts bareS (o.take p) = some s1) (hn : o[p]? = some n) (ht : ts[n]? = some t) (hd : doOps s1 t.ops = none) : ¬ ∃ s2, runR ts bareS o = some s2 := fun ⟨s2, h⟩ => by
  have h1 := runR_more hg hn ht
  rw [hd] at h1
  rw [← List.take_append_drop (p + 1) o, runR_app, h1] at h
  cases h
set_option maxRecDepth 100000 in
set_option maxHeartbeats 16000000 in
theorem fitsG_any (L : Nat) (tv ov : Value) (ts : List TxD) (o : List Nat) (w : World) (ht : TxsV w L tv ts) (hL : L ≤ w.heap.size) (ho : IntsV w ov (ordI o)) (hnd : o.Nodup) (hin : ∀ n ∈ o, n < ts.length) (hts : ts.length ≤ 8) (hops : ∀ t ∈ ts, t.ops.length ≤ 40) :
    Calls Tryd.prog 14 #[tv, ov] w (FitsP w ts o) := by
  obtain ⟨ta, tcap, rfl, htc1, htc2⟩ := SlR.slice ht
  have hol : o.length ≤ 8 := by
    have := List.Nodup.length_le_of_subset hnd (l₂ := List.range ts.length) (fun x hx => List.mem_range.2 (hin x hx))
    simp at this
    omega
  obtain ⟨oa, ocap, rfl, hoc1, hoc2, hocl⟩ := ho
  have hmk := makeInts w ts.length (by omega)
  have hrow := row_made w ts.length (by omega)
  obtain ⟨w1, hw1⟩ : ∃ q, q = w.alloc (.cells (madeCells #[.int .i64 0] ts.length) 3) := ⟨_, rfl⟩
  rw [← hw1] at hmk hrow
  have hm1 : Mod noBlock w w1 := by rw [hw1]; exact (Mod.refl _ w).alloc _
  have HT := Hid.mk' ht
  have HOC := Hid.mk' hocl
  have HND := Hid.mk' hnd
  have HIN := Hid.mk' hin
  have HOL := Hid.mk' (ordI_len o)
  have HOPS := Hid.mk' hops
  have HR1 := Hid.mk' hrow
  have HM1 := Hid.mk' hm1
  unfold maxLen at htc2 hoc2
  have hoI : ((ordI o).length : Int) ≤ 8 := by have := ordI_len o; omega
  clear ht hocl hnd hin hops hrow hm1 hw1
  go_enter Tryd.func14, Tryd.ntmps14
  go_wp2_with fail
  go_loopw [24] (fun i wr => ∃ p : Nat, p ≤ (ordI o).length ∧ i = .int .i64 p ∧ wr.ownsRow w.heap.size 3 1 (.slice (some ⟨w.heap.size, 0, none⟩) ts.length ts.length) ts.length (rowT (o.take p) ts.length) ∧ Mod noBlock w wr) (fun i _ => (ordI o).length - (intOf i).toNat)
  case atStart => exact ⟨0, Nat.zero_le _, rfl, by simpa using HR1.out, HM1.out⟩
  case round =>
    obtain ⟨p, hp, rfl, hR, hM⟩ := hrel
    clear HR1 HM1 hmk
    by_cases hlt : p < (ordI o).length
    · have hpo : p < o.length := by have := HOL.out; omega
      obtain ⟨n, hn⟩ : ∃ n, o[p]? = some n := ⟨_, List.getElem?_eq_getElem hpo⟩
      have hnI : (ordI o)[p]? = some (n : Int) := by unfold ordI; rw [List.getElem?_map, hn]; rfl
      have hnl := HIN.out n (List.mem_of_getElem? hn)
      have hnn : n ∉ o.take p := fun hm => by
        obtain ⟨j, hj, e⟩ := List.getElem_of_mem hm
        rw [List.getElem_take] at e
        have hj' : j < p := by simp at hj; omega
        obtain ⟨p1, p2⟩ := List.getElem?_eq_some_iff.1 hn
        exact (List.pairwise_iff_getElem.1 HND.out) j p (by omega) p1 hj' (by rw [e, p2])
      rcases HOC.out with e | ⟨ob, off, rfl, hcl⟩
      · rw [e] at hlt; simp at hlt
      have q0 := hM.cell (hcl p (n : Int) hnI) id
      have hz : plc (o.take p) n 0 = 0 := by
        by_cases e : plc (o.take p) n 0 = 0
        · exact e
        · exact absurd ((plc_in _ _ _).1 e) hnn
      have q1 := row_cell hR (rowT_at (o.take p) hnl)
      rw [hz] at q1
      obtain ⟨f1, z1⟩ := row_frozen hR n
      have hltI : (p : Int) < ((ordI o).length : Int) := by omega
      have hlt0 : (0 : Int) ≤ (p : Int) := by omega
      have hnlI : (n : Int) < (ts.length : Int) := by omega
      have hn0 : (0 : Int) ≤ (n : Int) := by omega
      have hp8 : (p : Int) ≤ 1000 := by omega
      have htl : (o.take p).length = p := by rw [List.length_take]; omega
      have hsn : o.take (p + 1) = o.take p ++ [n] := by
        rw [List.take_succ_eq_append_getElem hpo]
        rw [List.getElem?_eq_getElem hpo] at hn
        simp at hn
        rw [hn]
      have hR' := row_set hR hnl (.int .i64 ((p : Int) + 1))
      rw [show ((p : Int) + 1) = (((o.take p).length : Nat) : Int) + 1 by rw [htl], rowT_set hnl hnn, ← hsn, htl] at hR'
      have hM' : Mod noBlock w (wr.setCell ⟨w.heap.size, n, none⟩ (.int .i64 ((p : Int) + 1))) := newerN (Mod.put (hM.mono (G' := newer w.heap.size) (fun _ _ e => e.elim)) w.heap.size n (Nat.le_refl _) _)
      have HR' := Hid.mk' hR'
      have HM' := Hid.mk' hM'
      clear hR hM hR' hM' hn hnI hnn hz hcl hsn htl
      go_wp2_with fail
      go_roundw
      case rel => exact ⟨p + 1, by omega, by go_num, HR'.out, HM'.out⟩
      case measure => simp [intOf]; omega
    · have hpe : o.take p = o := by have := HOL.out; rw [List.take_of_length_le (by omega)]
      rw [hpe] at hR
      have HR := Hid.mk' hR
      have HM := Hid.mk' hM
      clear hR hM hpe
      go_wp2_with fail
      go_loopw [52] (fun i wr => ∃ k : Nat, k ≤ ts.length ∧ i = .int .i64 k ∧ wr.ownsRow w.heap.size 3 1 (.slice (some ⟨w.heap.size, 0, none⟩) ts.length ts.length) ts.length (rowT o ts.length) ∧ RowsOK ts o k ∧ Mod noBlock w wr) (fun i _ => ts.length - (intOf i).toNat)
      case atStart => exact ⟨0, Nat.zero_le _, rfl, HR.out, fun i t h => by omega, HM.out⟩
      case round =>
        clear HR HM
        obtain ⟨k, hk, rfl, hR, hRO, hM⟩ := hrel
        have HRO := Hid.mk' hRO
        clear hRO
        obtain ⟨wk, hwk⟩ : ∃ q, q = wr := ⟨_, rfl⟩
        subst hwk
        by_cases hlt2 : k < ts.length
        · obtain ⟨t, ht⟩ : ∃ t, ts[k]? = some t := ⟨_, List.getElem?_eq_getElem hlt2⟩
          obtain ⟨b, off, xv, rfl, hbL, hopv, hints, q0, q1, q2⟩ := HT.out.at ht
          obtain ⟨xa, xcap, rfl, _⟩ := SlR.slice hopv
          have q0' := hM.cell q0 id
          have q1' := hM.cell q1 id
          have q2' := hM.cell q2 id
          have hltI : (k : Int) < (ts.length : Int) := by omega
          have hlt0 : (0 : Int) ≤ (k : Int) := by omega
          obtain ⟨w3, hw3⟩ : ∃ q, q = wk.alloc (.cells #[.slice xa t.ops.length xcap, .int .i64 t.frm, .int .i64 t.til] 52) := ⟨_, rfl⟩
          have hm3 : Mod noBlock wk w3 := by rw [hw3]; exact (Mod.refl _ wk).alloc _
          have hB3 : Blk w3 wk.heap.size [.slice xa t.ops.length xcap, .int .i64 t.frm, .int .i64 t.til] 52 := by rw [hw3]; exact Blk.new wk _ _
          have hR3 := own_mod hR hm3 (fun _ _ _ _ => id)
          have r1 := row_cell hR3 (rowT_at o hlt2)
          obtain ⟨f1, z1⟩ := row_frozen hR3 k
          have x2 := hB3.cell 2 rfl
          have z3 := hB3.lt
          have HR3 := Hid.mk' hR3
          have HB3 := Hid.mk' hB3
          have HM3 := Hid.mk' (hM.trans hm3)
          have HTK := Hid.mk' ht
          clear hR hM hopv hints q0 q1 q2 ht hm3 hB3 hR3
          go_upto_region 12 with fail
          rw [← hw3]
          clear hw3 q0' q1' q2'
          obtain ⟨ak0, hak0⟩ : ∃ q : Int, q = ((plc o k 0 : Nat) : Int) := ⟨_, rfl⟩
          rw [← hak0] at r1
          have HAK0 := Hid.mk' hak0
          clear hak0
          go_cut [66] (fun v wc => v = .bool (decide (0 ≤ t.til ∧ ak0 = 0)) ∧ wc = w3)
          case first =>
            by_cases htl : 0 ≤ t.til
            · have hd : decide (t.til ≥ 0) = true := decide_eq_true htl
              by_cases hpz : ak0 = 0
              · have hpd : (ak0 == 0) = true := by simpa using hpz
                clear hpz
                go_wp2_with fail
                go_meet
                case rel => exact ⟨by rw [decide_eq_true ⟨htl, by simpa using hpd⟩], rfl⟩
              · have hpd : (ak0 == 0) = false := by simpa using hpz
                clear hpz
                go_wp2_with fail
                go_meet
                case rel => exact ⟨by rw [decide_eq_false (fun h => by rw [h.2] at hpd; simp at hpd)], rfl⟩
            · have hd : decide (t.til ≥ 0) = false := decide_eq_false htl
              go_wp2_with fail
              go_meet
              case rel => exact ⟨by rw [decide_eq_false (by omega)], rfl⟩
          case rest =>
            obtain ⟨hv66, hwc⟩ := hcut
            clear r1 f1 x2
            rw [hwc]
            clear hwc
            by_cases hbad : 0 ≤ t.til ∧ ak0 = 0
            · rw [decide_eq_true hbad] at hv66
              subst hv66
              have HNW : Hid (¬ Whole ts o) := fun h => by
                have h1 := (plc_in o k 0).2 (h k t HTK.out hbad.1)
                have h2 := HAK0.out
                have h3 := hbad.2
                omega
              clear hbad
              go_wp2_with fail
              go_ret
              exact FitsP.no HM3.out (fun h => HNW.out h.1)
            rw [decide_eq_false hbad] at hv66
            subst hv66
            have HDN : Hid (0 ≤ t.til → plc o k 0 ≠ 0) := fun h e => hbad ⟨h, by have := HAK0.out; omega⟩
            clear hbad
            go_wp2_with fail
            go_loopw [69] (fun i wx => ∃ m : Nat, m ≤ ts.length ∧ i = .int .i64 m ∧ wx.ownsRow w.heap.size 3 1 (.slice (some ⟨w.heap.size, 0, none⟩) ts.length ts.length) ts.length (rowT o ts.length) ∧ Blk wx wk.heap.size [.slice xa t.ops.length xcap, .int .i64 t.frm, .int .i64 t.til] 52 ∧ RowOK ts o k t m ∧ Mod noBlock w wx) (fun i _ => ts.length - (intOf i).toNat)
            case atStart => exact ⟨0, Nat.zero_le _, rfl, HR3.out, HB3.out, fun i u h => by omega, HM3.out⟩
            case round =>
              clear HR3 HB3 HM3
              obtain ⟨m, hm, rfl, hR, hB, hRW, hM⟩ := hrel
              have HRW := Hid.mk' hRW
              clear hRW
              by_cases hlt3 : m < ts.length
              · obtain ⟨u, hu⟩ : ∃ u, ts[m]? = some u := ⟨_, List.getElem?_eq_getElem hlt3⟩
                obtain ⟨b', off', uv, hab, _, hupv, _, u0, u1, u2⟩ := HT.out.at hu
                obtain ⟨ya, ycap, rfl, _⟩ := SlR.slice hupv
                simp only [Option.some.injEq, Addr.mk.injEq] at hab
                obtain ⟨rfl, rfl, _⟩ := hab
                have u0' := hM.cell u0 id
                have u1' := hM.cell u1 id
                have u2' := hM.cell u2 id
                have hmI : (m : Int) < (ts.length : Int) := by omega
                have hm0 : (0 : Int) ≤ (m : Int) := by omega
                obtain ⟨w5, hw5⟩ : ∃ q, q = wr.alloc (.cells #[.slice ya u.ops.length ycap, .int .i64 u.frm, .int .i64 u.til] 52) := ⟨_, rfl⟩
                have hm5 : Mod noBlock wr w5 := by rw [hw5]; exact (Mod.refl _ wr).alloc _
                have hB5 : Blk w5 wr.heap.size [.slice ya u.ops.length ycap, .int .i64 u.frm, .int .i64 u.til] 52 := by rw [hw5]; exact Blk.new wr _ _
                have hR5 := own_mod hR hm5 (fun _ _ _ _ => id)
                have hBt := hB.mod hm5 id
                have rk := row_cell hR5 (rowT_at o hlt2)
                have rm := row_cell hR5 (rowT_at o hlt3)
                obtain ⟨fk, zk⟩ := row_frozen hR5 k
                have y1 := hB5.cell 1 rfl
                have y2 := hBt.cell 2 rfl
                have z5 := hB5.lt
                have zt := hBt.lt
                have HR5 := Hid.mk' hR5
                have HBt := Hid.mk' hBt
                have HM5 := Hid.mk' (hM.trans hm5)
                have HUM := Hid.mk' hu
                clear hR hB hM hupv u0 u1 u2 hu hm5 hB5 hR5 hBt
                go_upto_region 17 with fail
                rw [← hw5]
                clear hw5 u0' u1' u2'
                obtain ⟨am, ham⟩ : ∃ q : Int, q = ((plc o m 0 : Nat) : Int) := ⟨_, rfl⟩
                obtain ⟨ak, hak⟩ : ∃ q : Int, q = ((plc o k 0 : Nat) : Int) := ⟨_, rfl⟩
                rw [← ham] at rm
                rw [← hak] at rk
                have HAM := Hid.mk' ham
                have HAK := Hid.mk' hak
                clear ham hak
                go_cut [101] (fun v wc => v = .bool (decide (0 ≤ t.til ∧ t.til < u.frm ∧ am > 0 ∧ am < ak)) ∧ Mod noBlock w5 wc)
                case first =>
                  by_cases htl : 0 ≤ t.til
                  · have hd1 : decide (t.til ≥ 0) = true := decide_eq_true htl
                    by_cases hfr : t.til < u.frm
                    · have hd2 : decide (t.til < u.frm) = true := decide_eq_true hfr
                      by_cases hpm : am > 0
                      · have hd3 : decide (am > 0) = true := decide_eq_true hpm
                        by_cases hpk : am < ak
                        · have hd4 : decide (am < ak) = true := decide_eq_true hpk
                          go_quiet (fail)
                          go_wp2_with fail
                          go_meet
                          case rel => exact ⟨by rw [decide_eq_true ⟨htl, hfr, hpm, hpk⟩], (Mod.refl noBlock w5).drewN _⟩
                        · have hd4 : decide (am < ak) = false := decide_eq_false hpk
                          go_quiet (fail)
                          go_wp2_with fail
                          go_meet
                          case rel => exact ⟨by rw [decide_eq_false (by omega)], (Mod.refl noBlock w5).drewN _⟩
                      · have hd3 : decide (am > 0) = false := decide_eq_false hpm
                        go_quiet (fail)
                        go_wp2_with fail
                        go_meet
                        case rel => exact ⟨by rw [decide_eq_false (by omega)], (Mod.refl noBlock w5).drewN _⟩
                    · have hd2 : decide (t.til < u.frm) = false := decide_eq_false hfr
                      go_quiet (fail)
                      go_wp2_with fail
                      go_meet
                      case rel => exact ⟨by rw [decide_eq_false (by omega)], (Mod.refl noBlock w5).drewN _⟩
                  · have hd1 : decide (t.til ≥ 0) = false := decide_eq_false htl
                    go_quiet (fail)
                    go_wp2_with fail
                    go_meet
                    case rel => exact ⟨by rw [decide_eq_false (by omega)], (Mod.refl noBlock w5).drewN _⟩
                case rest =>
                  obtain ⟨hv101, hMc⟩ := hcut
                  by_cases hbad : 0 ≤ t.til ∧ t.til < u.frm ∧ am > 0 ∧ am < ak
                  · rw [decide_eq_true hbad] at hv101
                    subst hv101
                    have HNA : Hid (¬ AheadOK ts o) := fun h => by
                      have h1 := HAM.out
                      have h2 := HAK.out
                      exact h k m t u HTK.out HUM.out hbad.1 hbad.2.1 (by have := hbad.2.2.1; omega) (by have := hbad.2.2.2; omega)
                    have HMC := Hid.mk' (HM5.out.trans hMc)
                    clear hbad hMc rk rm y1 y2 fk
                    go_wp2_with fail
                    go_ret
                    exact FitsP.no HMC.out (fun h => HNA.out h.2.1)
                  rw [decide_eq_false hbad] at hv101
                  subst hv101
                  have HRM : Hid (RowOK ts o k t (m + 1)) := HRW.out.more HUM.out (fun h => hbad ⟨h.1, h.2.1, by have := HAM.out; have := h.2.2.1; omega, by have := HAM.out; have := HAK.out; have := h.2.2.2; omega⟩)
                  clear hbad
                  have HRC := Hid.mk' (own_mod HR5.out hMc (fun _ _ _ _ => id))
                  have HBC := Hid.mk' (HBt.out.mod hMc id)
                  have HMC := Hid.mk' (HM5.out.trans hMc)
                  clear hMc rk rm y1 y2 fk
                  go_wp2_with fail
                  go_roundw
                  case rel => exact ⟨m + 1, by omega, by go_num, HRC.out, HBC.out, HRM.out, HMC.out⟩
                  case measure => simp [intOf]; omega
              · have HR := Hid.mk' hR
                have HM := Hid.mk' hM
                clear hR hB hM
                go_wp2_with fail
                go_roundw
                case rel => exact ⟨k + 1, by omega, by go_num, HR.out, HRO.out.more HTK.out HDN.out (by have h := HRW.out; rwa [show m = ts.length by omega] at h), HM.out⟩
                case measure => simp [intOf]; omega
        · have HWA : Hid (Whole ts o ∧ AheadOK ts o) := rows_ok (by have h := HRO.out; rwa [show k = ts.length by omega] at h)
          have hmm := @run_makeMap Tryd.prog
          obtain ⟨wj, hwj⟩ : ∃ q, q = wk.alloc (.map #[] 0) := ⟨_, rfl⟩
          have hN0 : NowP wj wk.heap.size 0 bareS := by
            rw [hwj]
            exact ⟨.map [], World.ownsMap_made wk Tryd.prog 9 (plainElem Tryd.prog 9), fun k _ => ⟨rfl, fun h => by simp [bareS, zeroVD] at h⟩⟩
          have hmj : Mod noBlock w wj := by rw [hwj]; exact hM.alloc _
          have HN0 := Hid.mk' hN0
          have HMJ := Hid.mk' hmj
          have hzk := hM.size
          clear hR hM hN0 hmj
          go_upto_region 22 with fail
          rw [← hwj]
          clear hwj
          go_wp2_with fail
          go_loopw [107] (fun i wx => ∃ (p n1 : Nat) (s1 : Sta), p ≤ (ordI o).length ∧ i = .int .i64 p ∧ runR ts bareS (o.take p) = some s1 ∧ tidyS s1 ∧ NowP wx wk.heap.size n1 s1 ∧ n1 ≤ 40 * p ∧ Mod noBlock w wx) (fun i _ => (ordI o).length - (intOf i).toNat)
          case atStart => exact ⟨0, 0, bareS, Nat.zero_le _, rfl, rfl, tidy_bare, HN0.out, by omega, HMJ.out⟩
          case round =>
            clear HN0 HMJ hmm
            obtain ⟨p, n1, s1, hp, rfl, hg1, htd, hN1, hn1, hM1⟩ := hrel
            have HTD := Hid.mk' htd
            have HG1 := Hid.mk' hg1
            clear htd
            obtain ⟨wp, hwp⟩ : ∃ q, q = wr := ⟨_, rfl⟩
            subst hwp
            by_cases hlt4 : p < (ordI o).length
            · have hpo : p < o.length := by have := HOL.out; omega
              obtain ⟨n, hn⟩ : ∃ n, o[p]? = some n := ⟨_, List.getElem?_eq_getElem hpo⟩
              have hnI : (ordI o)[p]? = some (n : Int) := by unfold ordI; rw [List.getElem?_map, hn]; rfl
              have hnl := HIN.out n (List.mem_of_getElem? hn)
              obtain ⟨t, ht⟩ : ∃ t, ts[n]? = some t := ⟨_, List.getElem?_eq_getElem hnl⟩
              have hlo := HOPS.out t (List.mem_of_getElem? ht)
              rcases HOC.out with e | ⟨ob, off, rfl, hcl⟩
              · rw [e] at hlt4; simp at hlt4
              obtain ⟨b, toff, xv, rfl, hbL, hopv, hints, q0, q1, q2⟩ := HT.out.at ht
              obtain ⟨xa, xcap, rfl, hxc1, hxc2⟩ := SlR.slice hopv
              have c0 := hM1.cell (hcl p (n : Int) hnI) id
              have q0' := hM1.cell q0 id
              have hltI : (p : Int) < ((ordI o).length : Int) := by omega
              have hlt0 : (0 : Int) ≤ (p : Int) := by omega
              have hnlI : (n : Int) < (ts.length : Int) := by omega
              have hn0 : (0 : Int) ≤ (n : Int) := by omega
              unfold maxLen at hxc2
              have HNN := Hid.mk' hn
              have HTT := Hid.mk' ht
              have HOPV := Hid.mk' hopv
              have HN1 := Hid.mk' hN1
              have HM1 := Hid.mk' hM1
              clear hg1 hopv hN1 hM1 hn hnI ht hcl q0 q1 q2 hints
              go_wp2_with fail
              go_loopw [117] (fun i wx => ∃ (j : Nat) (s3 : Sta) (us : List (ByteArray × VD)), j ≤ t.ops.length ∧ i = .int .i64 j ∧ doOps s1 (t.ops.take j) = some (s3, us) ∧ NowP wx wk.heap.size (n1 + j) s3 ∧ Mod noBlock w wx) (fun i _ => t.ops.length - (intOf i).toNat)
              case atStart => exact ⟨0, s1, [], Nat.zero_le _, rfl, by simp [doOps], HN1.out, HM1.out⟩
              case round =>
                clear HN1 HM1 c0 q0'
                obtain ⟨j, s3, us, hj, rfl, hdo, hN, hM⟩ := hrel
                by_cases hlt5 : j < t.ops.length
                · obtain ⟨kind, key, value, found, ho⟩ : ∃ kind key value found, t.ops[j]? = some ⟨kind, key, value, found⟩ := ⟨_, _, _, _, List.getElem?_eq_getElem hlt5⟩
                  obtain ⟨pb, poff, hpa, hpL, ⟨hs1, hs2⟩, e0, e1, e2, e3⟩ := HOPV.out.at ho
                  subst hpa
                  have hs1 : key.size ≤ maxLen := hs1
                  have hs2 : value.size ≤ maxLen := hs2
                  have e0' : wr.cell? ⟨pb, poff + j * 4, none⟩ = some (.int .i64 kind) := hM.cell e0 id
                  have e1' : wr.cell? ⟨pb, poff + j * 4 + 1, none⟩ = some (.string key) := hM.cell e1 id
                  have e2' : wr.cell? ⟨pb, poff + j * 4 + 2, none⟩ = some (.string value) := hM.cell e2 id
                  have e3' : wr.cell? ⟨pb, poff + j * 4 + 3, none⟩ = some (.bool found) := hM.cell e3 id
                  have hjI : (j : Int) < (t.ops.length : Int) := by omega
                  have hj0 : (0 : Int) ≤ (j : Int) := by omega
                  obtain ⟨w3, hw3⟩ : ∃ q, q = wr.alloc (.cells #[.int .i64 kind, .string key, .string value, .bool found] 55) := ⟨_, rfl⟩
                  have hm3 : Mod noBlock wr w3 := by rw [hw3]; exact (Mod.refl _ wr).alloc _
                  have hB3 : Blk w3 wr.heap.size [.int .i64 kind, .string key, .string value, .bool found] 55 := by rw [hw3]; exact Blk.new wr _ _
                  have hN3 := hN.mod hm3 id
                  obtain ⟨v, l3, hvt, hvs⟩ := hN3.look hs1
                  have x0 := hB3.cell 0 rfl
                  have x1 := hB3.cell 1 rfl
                  have x2 := hB3.cell 2 rfl
                  have x3 := hB3.cell 3 rfl
                  have z3 := hB3.lt
                  have HN3 := Hid.mk' hN3
                  have HM3 := Hid.mk' (hM.trans hm3)
                  have HDO := Hid.mk' hdo
                  have HOJ := Hid.mk' ho
                  have HVT := Hid.mk' hvt
                  obtain ⟨bt, hbt⟩ : ∃ q, q = (s3 key).there := ⟨_, rfl⟩
                  rw [← hbt] at l3
                  have HBT := Hid.mk' hbt
                  clear hdo hN hM ho hm3 hB3 hN3 hvt hbt e0 e1 e2 e3
                  go_upto_region 28 with fail
                  rw [← hw3]
                  clear hw3 e0' e1' e2' e3'
                  by_cases h1 : kind = 1
                  · subst h1
                    have HT3 : Hid (tidyS s3) := tidy_doOps _ _ _ _ HTD.out HDO.out
                    have hfail : s3 key ≠ toldV ⟨1, key, value, found⟩ → ¬ ∃ s2, runR ts bareS o = some s2 := fun e => runR_none HG1.out HNN.out HTT.out (doOps_fail HDO.out HOJ.out (by simp [doOp, e]))
                    have HFAIL := Hid.mk' hfail
                    have hfine : s3 key = toldV ⟨1, key, value, found⟩ → doOps s1 (t.ops.take (j + 1)) = some (s3, us) := fun e => by
                      rw [doOps_more HDO.out HOJ.out]
                      simp [doOp, e]
                    have HFINE := Hid.mk' hfine
                    clear hfail hfine
                    cases bt with
                    | true =>
                      cases found with
                      | true =>
                        by_cases hvv : v = value
                        · subst hvv
                          have HFIN : Hid (doOps s1 (t.ops.take (j + 1)) = some (s3, us)) := HFINE.out (by
                            have h1 := HVT.out HBT.out.symm
                            have h2 := HBT.out
                            unfold toldV
                            simp only [if_true]
                            rw [h1, h2])
                          go_wp2_with fail
                          go_roundw
                          case rel => exact ⟨j + 1, s3, us, by omega, by go_num, HFIN.out, HN3.out.mono (by omega), HM3.out⟩
                          case measure => simp [intOf]; omega
                        · have hvb : (v.toList == value.toList) = false := by
                            simp only [beq_eq_false_iff_ne, ne_eq]
                            intro e
                            rw [ByteArray.toList_eq, ByteArray.toList_eq] at e
                            exact hvv (bytes_inj e)
                          have HNO : Hid (¬ ∃ s2, runR ts bareS o = some s2) := HFAIL.out (fun e => by
                            have h1 := HVT.out HBT.out.symm
                            rw [e] at h1
                            exact hvv h1)
                          clear hvv
                          go_wp2_with fail
                          go_ret
                          exact FitsP.no HM3.out (fun h => HNO.out h.2.2)
                      | false =>
                        have HNO : Hid (¬ ∃ s2, runR ts bareS o = some s2) := HFAIL.out (fun e => by
                          have h2 := HBT.out
                          rw [e] at h2
                          simp [toldV, zeroVD] at h2)
                        go_wp2_with fail
                        go_ret
                        exact FitsP.no HM3.out (fun h => HNO.out h.2.2)
                    | false =>
                      cases found with
                      | true =>
                        have HNO : Hid (¬ ∃ s2, runR ts bareS o = some s2) := HFAIL.out (fun e => by
                          have h2 := HBT.out
                          rw [e] at h2
                          simp [toldV] at h2)
                        go_wp2_with fail
                        go_ret
                        exact FitsP.no HM3.out (fun h => HNO.out h.2.2)
                      | false =>
                        have HFIN : Hid (doOps s1 (t.ops.take (j + 1)) = some (s3, us)) := HFINE.out (HT3.out key HBT.out.symm)
                        go_wp2_with fail
                        go_roundw
                        case rel => exact ⟨j + 1, s3, us, by omega, by go_num, HFIN.out, HN3.out.mono (by omega), HM3.out⟩
                        case measure => simp [intOf]; omega
                  · by_cases h2 : kind = 2
                    · subst h2
                      obtain ⟨D, hmap, hD⟩ := HN3.out
                      have hmx : n1 + j < maxLen := by unfold maxLen; omega
                      have HMP := Hid.mk' hmap
                      have HD := Hid.mk' hD
                      have HFIN : Hid (doOps s1 (t.ops.take (j + 1)) = some (updS s3 key ⟨value, true⟩, us ++ [(key, s3 key)])) := by
                        rw [Hid, doOps_more HDO.out HOJ.out]
                        simp [doOp]
                      clear hmap hD
                      go_wp2_with (first
                        | (at_mapUpdate; refine wpList_mapUpdate_own _ rfl _ _ _ 69 rfl 9 9 kStr Tryd.underlying69 (plainElem Tryd.prog 9) wk.heap.size (n1 + j) D rfl HMP.out hmx _ _ (.string key.data.toList) rfl rfl (Go.WideMaps.keyOf_string_mk Tryd.underlying9 hs1) (.lit (.string value.data.toList)) [] (plainElem_string Tryd.underlying9 hs2) ?_)
                        | fail)
                      intro w7 hown7 hgrow7
                      have hm7 : Mod (oneBlock wk.heap.size) w3 w7 := (Mod.refl _ w3).grown hgrow7 (fun x hx _ => by simp only [oneBlock]; simpa using hx.symm)
                      have hV7 := NowP.put HMP.out.isMap HD.out hown7
                      have hM7 : Mod noBlock w w7 := HM3.out.trans' hm7 (fun i hi e => by simp only [oneBlock] at e; omega)
                      have HV7 := Hid.mk' hV7
                      have HM7 := Hid.mk' hM7
                      clear hV7 hM7 hm7 hown7 hgrow7 x0 x1 x2 x3
                      go_wp2_with fail
                      go_roundw
                      case rel => exact ⟨j + 1, _, _, by omega, by go_num, HFIN.out, HV7.out, HM7.out⟩
                      case measure => simp [intOf]; omega
                    · by_cases h3 : kind = 3
                      · subst h3
                        obtain ⟨D, hmap, hD⟩ := HN3.out
                        have hmx : n1 + j < maxLen := by unfold maxLen; omega
                        have HMP := Hid.mk' hmap
                        have HD := Hid.mk' hD
                        have HFIN : Hid (doOps s1 (t.ops.take (j + 1)) = some (updS s3 key zeroVD, us ++ [(key, s3 key)])) := by
                          rw [Hid, doOps_more HDO.out HOJ.out]
                          simp [doOp]
                        clear hmap hD
                        go_wp2_with (first
                          | (at_delete; refine wpList_delete_own _ rfl _ _ 69 9 rfl 9 kStr Tryd.underlying69 (plainElem Tryd.prog 9) wk.heap.size (n1 + j) D rfl HMP.out _ (.string key.data.toList) rfl (Go.WideMaps.keyOf_string_mk Tryd.underlying9 hs1) ?_)
                          | fail)
                        intro w7 hown7 hgrow7
                        have hm7 : Mod (oneBlock wk.heap.size) w3 w7 := (Mod.refl _ w3).grown hgrow7.grown (fun x hx _ => by simp only [oneBlock]; simpa using hx.symm)
                        have hV7 := NowP.del (HMP.out.tidy kStr) HD.out hown7
                        have hM7 : Mod noBlock w w7 := HM3.out.trans' hm7 (fun i hi e => by simp only [oneBlock] at e; omega)
                        have HV7 := Hid.mk' hV7
                        have HM7 := Hid.mk' hM7
                        clear hV7 hM7 hm7 hown7 hgrow7 x0 x1 x2 x3
                        go_wp2_with fail
                        go_roundw
                        case rel => exact ⟨j + 1, _, _, by omega, by go_num, HFIN.out, HV7.out.mono (by omega), HM7.out⟩
                        case measure => simp [intOf]; omega
                      · have d1 : (kind == 1) = false := by simpa using h1
                        have d2 : (kind == 2) = false := by simpa using h2
                        have d3 : (kind == 3) = false := by simpa using h3
                        have HFIN : Hid (doOps s1 (t.ops.take (j + 1)) = some (s3, us)) := by
                          rw [Hid, doOps_more HDO.out HOJ.out]
                          simp [doOp, h1, h2, h3]
                        clear h1 h2 h3
                        go_wp2_with fail
                        go_roundw
                        case rel => exact ⟨j + 1, s3, us, by omega, by go_num, HFIN.out, HN3.out.mono (by omega), HM3.out⟩
                        case measure => simp [intOf]; omega
                · obtain rfl : j = t.ops.length := by omega
                  have hdo' : doOps s1 t.ops = some (s3, us) := by rw [List.take_length] at hdo; exact hdo
                  have HFIN : Hid (runR ts bareS (o.take (p + 1)) = some s3 ∧ tidyS s3) := ⟨by rw [runR_more HG1.out HNN.out HTT.out, hdo']; rfl, tidy_doOps _ _ _ _ HTD.out hdo'⟩
                  have HN := Hid.mk' hN
                  have HM := Hid.mk' hM
                  clear hdo hdo' hN hM
                  go_wp2_with fail
                  go_roundw
                  case rel => exact ⟨p + 1, n1 + t.ops.length, s3, by omega, by go_num, HFIN.out.1, HFIN.out.2, HN.out, by omega, HM.out⟩
                  case measure => simp [intOf]; omega
            · go_wp2_with fail
              go_ret
              have hpe : o.take p = o := by have := HOL.out; rw [List.take_of_length_le (by omega)]
              have hg2 := HG1.out
              rw [hpe] at hg2
              exact ⟨hM1, true, rfl, ⟨fun _ => ⟨HWA.out.1, HWA.out.2, s1, hg2⟩, fun _ => rfl⟩⟩
end Go.Proofs.YtefhgakcffhgaabDoor
