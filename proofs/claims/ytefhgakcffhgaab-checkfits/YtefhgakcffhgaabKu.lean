/- The law CheckFits, walked. -/
import Derived.Test.YtefhgakcffhgaabKw
import Derived.Test.YtefhgakcffhgaabRc
import Derived.Deep.CutBlock
namespace Go.Proofs.Ytefhgakcffhgaab
open Go.RowKit Go.Lib Go.Maps
set_option linter.unusedVariables false

set_option maxRecDepth 100000 in
set_option maxHeartbeats 16000000 in
theorem checkFits_any (tv : Value) (ts : List TxD) (mb : Bool) (w : World) (ht : TxsV w w.heap.size tv ts) :
    Calls Try.prog 5 #[tv, .bool mb] w fun e w' => e = .returned (.bool true) ∧ Mod noBlock w w' := by
  obtain ⟨ta, tcap, rfl, htc1, htc2⟩ := SlR.slice ht
  obtain ⟨vs0, hvl, hvc, hvo, hv1⟩ := TxsV.flat ht
  obtain ⟨x0, xi, xz0, xz1, xz2⟩ := info_parts Try.info79
  obtain ⟨y0, yi, yz0, yz1, yz2⟩ := info_parts Try.info85
  obtain ⟨r0, ri, rz0, rz1, rz2⟩ := info_parts Try.info82
  obtain ⟨p0, pi, pz0, pz1, pz2⟩ := info_parts Try.info87
  have hmm := @run_makeMap Try.prog
  unfold maxLen at htc2
  go_enter Try.func5, Try.ntmps5
  rcases Nat.lt_or_ge 8 ts.length with h8 | h8
  · have hd : decide ((ts.length : Int) > 8) = true := decide_eq_true (by omega)
    go_wp2_with fail
    go_ret
    exact ⟨rfl, Mod.refl _ _⟩
  have hd : decide ((ts.length : Int) > 8) = false := decide_eq_false (by omega)
  go_wp2_with fail
  refine (ordered_any _).mono ?_
  rintro e w1 ⟨rfl, hm1⟩
  obtain ⟨wm, hwm⟩ : ∃ q, q = w1.alloc (.map #[] 0) := ⟨_, rfl⟩
  have hm2 : Mod noBlock w wm := by rw [hwm]; exact hm1.alloc _
  have HZM : Hid (wm.heap.size = w1.heap.size + 1) := by rw [Hid, hwm]; simp
  have hN0 : NowP wm w1.heap.size 0 bareS := by
    rw [hwm]
    exact ⟨.map [], World.ownsMap_made w1 Try.prog 9 (plainElem Try.prog 9), fun k _ => ⟨rfl, fun h => by simp [bareS, zeroVD] at h⟩⟩
  have HVC : Hid (ts.length = 0 ∨ ∃ p, ta = some p ∧ ∀ (j : Nat) u, (txsCells ts vs0)[j]? = some u → wm.cell? (p.add j) = some u) := by
    rcases hvc with e | ⟨p, e1, e2⟩
    · exact .inl e
    · exact .inr ⟨p, e1, fun j u hu => hm2.cell (e2 j u hu) id⟩
  have HVO := Hid.mk' hvo
  have HON := Hid.mk' (txsCells_one ts vs0 hv1)
  have HLC := Hid.mk' (txsCells_len ts vs0 hvl)
  have HVL := Hid.mk' hvl
  have HN0 := Hid.mk' hN0
  have HZ1 := Hid.mk' hm1.size
  have HM2 := Hid.mk' hm2
  have h63 : ts.length ≤ maxLen := by unfold maxLen; omega
  have h47 : ts.length * 40 ≤ 140737488355328 := by omega
  clear hvc hvo hv1 hvl hN0 hm2 hm1 ht
  go_upto_region 7 with fail
  rw [← hwm]
  clear hwm hmm
  go_wp2_with (first
    | (at_builtin; (refine wpList_copy (w0 := wm) rfl _ _ 74 rfl 79 x0 _ 3 40 Try.underlying74 xi xz0 xz1 xz2 rfl (by omega) append_emptyX rfl ta ts.length tcap (txsCells ts vs0) rfl HLC.out HVC.out HON.out h63 h47 ?_))
    | fail)
  intro gx xcap wa hrx hma
  obtain ⟨m, hm⟩ : ∃ m, m = ts.length := ⟨_, rfl⟩
  have hgx := own_cells hrx (k := gx) rfl
  have hR0 : RoundP w wa wa.heap.size w1.heap.size gx xcap mb m 0 0 ts vs0 [] (.slice none 0 0) bareS := by
    have hM := HM2.out.trans hma
    refine ⟨Nat.zero_le _, hm.symm, ?_, ?_, fun j t h => by omega, fun j t v _ h1 h2 => (HVO.out j t v h1 h2).1, fun j t h1 => ?_, HN0.out.mod hma id, by omega, tidy_bare, fun _ => MadeP.nil _, Nat.le_refl _, hM⟩
    · rw [hm]; exact ⟨HVL.out, own_base hrx (Nat.zero_le _)⟩
    · exact ⟨by simp, by simpa [txsCells] using World.ownsRow_nil _ _ _ _⟩
    · obtain ⟨v, hv⟩ : ∃ v, vs0[j]? = some v := ⟨_, List.getElem?_eq_getElem (by rw [HVL.out]; exact (List.getElem?_eq_some_iff.1 h1).1)⟩
      exact (HVO.out j t v h1 hv).2
  have hgm : w.heap.size ≤ w1.heap.size ∧ w.heap.size ≤ gx ∧ w1.heap.size < wa.heap.size ∧ gx < wa.heap.size ∧ w1.heap.size ≠ gx := by
    have h1 := hma.size
    have h2 := HZM.out
    have h3 := HZ1.out
    omega
  obtain ⟨gm, hgme⟩ : ∃ q, q = w1.heap.size := ⟨_, rfl⟩
  obtain ⟨N, hNe⟩ : ∃ q, q = wa.heap.size := ⟨_, rfl⟩
  rw [← hgme, ← hNe] at hR0 hgm
  rw [← hgme, ← hm]
  have hxc : m ≤ xcap ∧ xcap ≤ maxLen := by
    rcases hrx.2 with ⟨e, _⟩ | ⟨_, _, _, e, _, _, h1, h2, _⟩
    · cases e
    · simp only [Value.slice.injEq] at e; rw [hm, e.2.2]; exact ⟨h1, h2⟩
  have HR0 := Hid.mk' hR0
  have HGM := Hid.mk' hgm
  have hm8 : m ≤ 8 := by omega
  unfold maxLen at hxc
  clear hR0 hgm hgx hrx hma HVO HON HLC HVL HN0 HM2 HZM HVC h63 h47 hgme hNe hd h8 hm htc1
  go_wp2_with fail
  go_loopw [5, 8] (fun wv i0 wr => ∃ (i n : Nat) (xs : List TxD) (vs us : List Value) (s : Sta), i0 = .int .i64 i ∧ RoundP w wr N gm gx xcap mb m i n xs vs us wv s) (fun _ i0 _ => m - (intOf i0).toNat)
  case atStart => exact ⟨0, 0, ts, vs0, [], bareS, rfl, HR0.out⟩
  case round =>
    obtain ⟨i, n, xs, vs, us, s, rfl, hR⟩ := hrel
    clear HR0
    have htl : (xs.take i).length = i := by rw [List.length_take, hR.len]; have := hR.le; omega
    have hwr := hR.wrow.2
    rw [htl] at hwr
    obtain ⟨wa5, wcap5, hwv⟩ := own_slice hwr
    subst hwv
    have HWR := Hid.mk' hwr
    clear hwr htl
    by_cases hlt : i < m
    · have hltI : (i : Int) < (m : Int) := by omega
      have hlt0 : (0 : Int) ≤ (i : Int) := by omega
      obtain ⟨t, ht⟩ : ∃ t, xs[i]? = some t := ⟨_, List.getElem?_eq_getElem (by rw [hR.len]; exact hlt)⟩
      obtain ⟨v, hv⟩ : ∃ v, vs[i]? = some v := ⟨_, List.getElem?_eq_getElem (by rw [hR.xrow.1, hR.len]; exact hlt)⟩
      have hO := hR.given i t v (Nat.le_refl _) ht hv
      obtain ⟨oa, ocap, rfl, hoc1, hoc2⟩ := SlR.slice hO
      obtain ⟨c0, c1, c2⟩ := hR.xrow.cell ht hv
      have zx := (own_frozen hR.xrow.2 0).2
      unfold maxLen at hoc2
      have HR := Hid.mk' hR
      have HT := Hid.mk' ht
      have HV := Hid.mk' hv
      have HO := Hid.mk' hO
      clear hR ht hv hO
      rcases Nat.lt_or_ge 12 t.ops.length with h12 | h12
      · have hd : decide ((t.ops.length : Int) > 12) = true := decide_eq_true (by omega)
        go_wp2_with fail
        go_ret
        exact ⟨rfl, HR.out.mod⟩
      have hd : decide ((t.ops.length : Int) > 12) = false := decide_eq_false (by omega)
      obtain ⟨bt, hbt⟩ : ∃ q, q = wr.heap.size := ⟨_, rfl⟩
      obtain ⟨wk, hwk⟩ : ∃ q, q = wr := ⟨_, rfl⟩
      rw [← hwk] at hbt
      subst hwk
      have HBT := Hid.mk' hbt
      clear hbt
      go_upto_region 13 with fail
      go_cut [9] (fun p wc => p = .pointer (some ⟨bt, 0, none⟩) ∧ Blk wc bt [.slice none 0 0, .int .i64 t.frm, .int .i64 t.til] 82 ∧ Mod noBlock wk wc)
      case first =>
        go_region
        all_goals
          go_wp2_with fail
          go_meet
          case rel =>
            rw [HBT.out]
            exact ⟨rfl, Blk.new wk [.slice none 0 0, .int .i64 t.frm, .int .i64 t.til] 82, ((Mod.refl noBlock wk).alloc _).drew⟩
      case rest =>
        obtain ⟨rfl, hB2, hm2⟩ := hcut
        obtain ⟨w2, hw2⟩ : ∃ q, q = wc := ⟨_, rfl⟩
        subst hw2
        obtain ⟨hof, hoc, hok⟩ := HO.out.flat
        have d0 := hm2.cell c0 id
        have zx2 := Nat.lt_of_lt_of_le zx hm2.size
        have HFL : Hid (t.ops.length = 0 ∨ ∃ p, oa = some p ∧ ∀ (j : Nat) u, (opsCells t.ops)[j]? = some u → w2.cell? (p.add j) = some u) := by
          rcases hoc with e | ⟨p, e1, _, e2⟩
          · exact .inl e
          · exact .inr ⟨p, e1, fun j u hu => hm2.cell (HR.out.mod.cell (e2 j u hu) id) id⟩
        have HOK := Hid.mk' hok
        have HOC := Hid.mk' (opsCells_len t.ops)
        have HOO := Hid.mk' (opsCells_one t.ops)
        have h63 : t.ops.length ≤ maxLen := by unfold maxLen; omega
        have h47 : t.ops.length * 48 ≤ 140737488355328 := by omega
        have HB2 := Hid.mk' hB2
        have HM2 := Hid.mk' hm2
        clear hof hoc hok hB2 hm2 c0 c1 c2 zx
        go_wp2_with (first
          | (at_builtin; (refine wpList_copy (w0 := w2) rfl _ _ 77 rfl 85 y0 _ 4 48 Try.underlying77 yi yz0 yz1 yz2 rfl (by omega) append_emptyO rfl oa t.ops.length ocap (opsCells t.ops) rfl HOC.out HFL.out HOO.out h63 h47 ?_))
          | fail)
        intro ga acap w3 hra hm3
        have hX3 := ((HR.out.xrow.mod HM2.out (fun _ _ => id)).mod hm3 (fun _ _ => id))
        obtain ⟨fx, zx3⟩ := own_frozen hX3.2 (i * 3)
        have e0 := (hX3.cell HT.out HV.out).1
        have HB3 := Hid.mk' (HB2.out.mod hm3 id)
        have HX3 := Hid.mk' hX3
        have HRA := Hid.mk' hra
        have HM3 := Hid.mk' (HM2.out.trans hm3)
        have HGA : Hid (w2.heap.size ≤ ga ∧ ga < w3.heap.size) := by have h := own_cells hra (k := ga) rfl; exact ⟨h.1, h.2.1⟩
        have HZ2 : Hid (bt < w2.heap.size) := HB2.out.lt
        clear hX3 hra hm3 HFL HOC HOO HB2 HM2 d0 zx2
        have hbg : bt ≠ gx ∧ ga ≠ gx ∧ ga ≠ bt := by
          have h1 := HGM.out
          have h2 := HBT.out
          have h3 := HR.out.size
          have h4 := HGA.out
          have h5 := HZ2.out
          omega
        obtain ⟨w4, hw4⟩ : ∃ q, q = w3.setCell ⟨gx, i * 3, none⟩ (.slice (some ⟨ga, 0, none⟩) t.ops.length acap) := ⟨_, rfl⟩
        have hm4 : Mod (oneBlock gx) w3 w4 := by rw [hw4]; exact Mod.setBlk _ _ _
        have hX4 : RowX 79 w4 0 (.slice (some ⟨gx, 0, none⟩) m xcap) (xs.set i ⟨t.ops, t.frm, t.til⟩) (vs.set i (.slice (some ⟨ga, 0, none⟩) t.ops.length acap)) := by rw [hw4]; exact HX3.out.setOps HR.out.len.symm HT.out _ _
        have hB4 := HB3.out.mod hm4 (by simp only [oneBlock]; exact hbg.1)
        have hA4 : RowO 85 w4 0 (.slice (some ⟨ga, 0, none⟩) t.ops.length acap) t.ops := ⟨own_base (own_mod HRA.out hm4 (fun k _ _ hk e => by simp [Value.ownBlock] at hk; simp only [oneBlock] at e; omega)) (Nat.zero_le _), HOK.out⟩
        obtain ⟨f1, zx4⟩ := own_frozen hX4.2 (i * 3 + 1)
        obtain ⟨f2, _⟩ := own_frozen hX4.2 (i * 3 + 2)
        have g1 := hB4.frozen 1
        have g2 := hB4.frozen 2
        have b1 := hB4.cell 1 rfl
        have b2 := hB4.cell 2 rfl
        have zb4 := hB4.lt
        have hix : i < xs.length := by rw [HR.out.len]; exact hlt
        have HIX := Hid.mk' hix
        have hgi : (xs.set i (⟨t.ops, t.frm, t.til⟩ : TxD))[i]? = some ⟨t.ops, t.frm, t.til⟩ := List.getElem?_set_self hix
        have hgv : (vs.set i (.slice (some ⟨ga, 0, none⟩) t.ops.length acap))[i]? = some (.slice (some ⟨ga, 0, none⟩) t.ops.length acap) := List.getElem?_set_self (by rw [HR.out.xrow.1]; exact hix)
        obtain ⟨k0, k1, k2⟩ := hX4.cell hgi hgv
        have HX4 := Hid.mk' hX4
        have HB4 := Hid.mk' hB4
        have HA4 := Hid.mk' hA4
        have HM4 := Hid.mk' hm4
        have HBG := Hid.mk' hbg
        have HIT := Hid.mk' (HR.out.ints i t HT.out)
        clear hX4 hB4 hA4 hm4 hbg hix hgi
        go_upto_if 61 with fail
        rw [← hw4]
        clear hw4 fx e0 zx3 HB3 HX3 HRA
        go_cut [] (fun wc => ∃ f u : Int, RowX 79 wc 0 (.slice (some ⟨gx, 0, none⟩) m xcap) (xs.set i ⟨t.ops, f, u⟩) (vs.set i (.slice (some ⟨ga, 0, none⟩) t.ops.length acap)) ∧ Blk wc bt [.slice none 0 0, .int .i64 f, .int .i64 u] 82 ∧ Mod (fun k => k = gx ∨ k = bt) w4 wc ∧ int64 f ∧ int64 u ∧ (mb = true → f = 2 * (i : Int) ∧ u = 2 * (i : Int) + 3))
        case first =>
          cases mb with
          | true =>
            have hi8 : (i : Int) ≤ 8 := by omega
            have HBW : Hid (Blk ((w4.setCell ⟨gx, i * 3 + 1, none⟩ (.int .i64 (2 * (i : Int)))).setCell ⟨gx, i * 3 + 2, none⟩ (.int .i64 (2 * (i : Int) + 3))) bt [.slice none 0 0, .int .i64 t.frm, .int .i64 t.til] 82) := (HB4.out.mod (Mod.setBlk gx (i * 3 + 1) _) (by simp only [oneBlock]; exact HBG.out.1)).mod (Mod.setBlk gx (i * 3 + 2) _) (by simp only [oneBlock]; exact HBG.out.1)
            have j1 := HBW.out.frozen 1
            have j2 := HBW.out.frozen 2
            have l1 := HBW.out.cell 1 rfl
            have l2 := HBW.out.cell 2 rfl
            have lz := HBW.out.lt
            go_wp2_with fail
            go_meet
            case rel =>
              refine ⟨2 * (i : Int), 2 * (i : Int) + 3, ?_, ?_, ?_, ⟨by omega, by omega⟩, ⟨by omega, by omega⟩, fun _ => ⟨rfl, rfl⟩⟩
              · have h := HX4.out.setEnds (i := i) (by rw [List.length_set]; exact HR.out.len.symm) (by rw [List.length_set]; exact HIX.out) t.ops (2 * (i : Int)) (2 * (i : Int) + 3)
                rw [List.set_set] at h
                exact (h.mod (Mod.setBlk bt 1 _) (fun k hk e => by simp [Value.ownBlock] at hk; simp only [oneBlock] at e; exact HBG.out.1 (by omega))).mod (Mod.setBlk bt 2 _) (fun k hk e => by simp [Value.ownBlock] at hk; simp only [oneBlock] at e; exact HBG.out.1 (by omega))
              · exact (HBW.out.set 1 (.int .i64 (2 * (i : Int)))).set 2 (.int .i64 (2 * (i : Int) + 3))
              · exact ((((Mod.refl _ w4).setCell (p := ⟨gx, i * 3 + 1, none⟩) (fun _ => .inl rfl) _).setCell (p := ⟨gx, i * 3 + 2, none⟩) (fun _ => .inl rfl) _).setCell (p := ⟨bt, 1, none⟩) (fun _ => .inr rfl) _).setCell (p := ⟨bt, 2, none⟩) (fun _ => .inr rfl) _
          | false =>
            go_wp2_with fail
            go_meet
            case rel => exact ⟨t.frm, t.til, HX4.out, HB4.out, Mod.refl _ _, HIT.out.1, HIT.out.2, fun h => by simp at h⟩
        case rest =>
          obtain ⟨f, u, hX5, hB5, hm5, hf, hu, hfu⟩ := hcut
          obtain ⟨wb, hwb⟩ : ∃ q, q = wc := ⟨_, rfl⟩
          subst hwb
          have hne : gm ≠ gx ∧ gm ≠ bt ∧ gm ≠ ga ∧ gx ≠ ga ∧ gx ≠ bt ∧ bt ≠ ga := by
            have h1 := HGM.out
            have h2 := HBT.out
            have h3 := HR.out.size
            have h4 := HGA.out
            have h5 := HZ2.out
            have h6 := HBG.out
            omega
          have hN5 : NowP wb gm n s := ((HR.out.now.mod HM3.out id).mod HM4.out (by simp only [oneBlock]; exact hne.1)).mod hm5 (by have := hne; omega)
          have hA5 : RowO 85 wb 0 (.slice (some ⟨ga, 0, none⟩) t.ops.length acap) t.ops := HA4.out.mod hm5 (fun k hk e => by simp [Value.ownBlock] at hk; have := hne; omega)
          have hI0 : InnerP wb wb gm ga acap bt mb t.ops.length 0 n n t.ops (.slice none 0 0) f u s s :=
            ⟨Nat.zero_le _, rfl, hA5, ⟨by simpa [opsCells] using World.ownsRow_nil _ _ _ _, fun o ho => by simp at ho⟩, hB5, hN5, by omega, HR.out.tidy, fun _ => ⟨[], by simp [doOps]⟩, Mod.refl _ _⟩
          have HI0 := Hid.mk' hI0
          have HLT : Hid (gm < wb.heap.size ∧ ga < wb.heap.size ∧ bt < wb.heap.size ∧ gx < wb.heap.size) := ⟨hN5.lt, (own_frozen hA5.1 0).2, hB5.lt, (own_frozen hX5.2 0).2⟩
          have hn96 : n ≤ 96 := by have := HR.out.few; omega
          have HX5 := Hid.mk' hX5
          have HNE := Hid.mk' hne
          have HM5 := Hid.mk' hm5
          have HF := Hid.mk' hf
          have HU := Hid.mk' hu
          have HFU := Hid.mk' hfu
          have HGV := Hid.mk' hgv
          have HAC : Hid (t.ops.length ≤ acap ∧ acap ≤ maxLen) := by
            rcases hA5.1.2 with ⟨e, _⟩ | ⟨_, _, _, e, _, _, h1, h2, _⟩
            · cases e
            · simp only [Value.slice.injEq] at e; rw [e.2.2]; exact ⟨h1, h2⟩
          have HGI : Hid ((xs.set i (⟨t.ops, f, u⟩ : TxD))[i]? = some ⟨t.ops, f, u⟩) := List.getElem?_set_self HIX.out
          clear hI0 hX5 hB5 hm5 hf hu hfu hne hN5 hA5 hgv f1 f2 g1 g2 b1 b2 k0 k1 k2 zx4 zb4 HX4 HB4 HA4 HOK HIT
          go_wp2_with fail
          go_loopw [10] (fun k0 wr => ∃ (k n1 : Nat) (zs : List OpD) (tv : Value) (s1 : Sta), k0 = .int .i64 k ∧ InnerP wb wr gm ga acap bt mb t.ops.length k n n1 zs tv f u s s1) (fun k0 _ => t.ops.length - (intOf k0).toNat)
          case atStart => exact ⟨0, n, t.ops, _, s, rfl, HI0.out⟩
          case round =>
            obtain ⟨k, n1, zs, tv, s1, rfl, hI⟩ := hrel
            clear HI0
            have cx := hI.mod.cell (HX5.out.cell HGI.out HGV.out).1 (by have := HNE.out; simp; omega)
            have zx5 := World.block_lt_of_cell? _ _ cx
            obtain ⟨wi, hwi⟩ : ∃ q, q = wr := ⟨_, rfl⟩
            subst hwi
            by_cases hk : k < t.ops.length
            · have hkI : (k : Int) < (t.ops.length : Int) := by omega
              have hk0 : (0 : Int) ≤ (k : Int) := by omega
              obtain ⟨o, ho⟩ : ∃ o, zs[k]? = some o := ⟨_, List.getElem?_eq_getElem (by rw [hI.len]; exact hk)⟩
              obtain ⟨a0, a1, a2, a3⟩ := hI.arow.cell ho
              obtain ⟨fa2, za⟩ := own_frozen hI.arow.1 (k * 4 + 2)
              obtain ⟨fa3, _⟩ := own_frozen hI.arow.1 (k * 4 + 3)
              have hko := hI.arow.2 o (List.mem_of_getElem? ho)
              obtain ⟨lv, hlook, hlv, hls⟩ := hI.now.look hko.1
              have hac := HAC.out
              unfold maxLen at hac
              have HI := Hid.mk' hI
              have HOO := Hid.mk' ho
              have HKO := Hid.mk' hko
              have HLV := Hid.mk' hlv
              clear hI ho hko hlv
              obtain ⟨kind, key, value, found⟩ := o
              dsimp only at a0 a1 a2 a3 hlook
              generalize hthe : (s1 key).there = there at hlook
              have HTH := Hid.mk' hthe
              clear hthe
              go_upto_block 4 with fail
              go_cut [] (fun wc => ∃ (n2 : Nat) (zs' : List OpD) (o' : OpD) (s2 : Sta), ArmP wi wc gm ga acap mb t.ops.length k (n + k + 1) n2 zs zs' o' s1 s2)
              case first =>
                by_cases h1 : kind = 1
                · subst h1
                  have d1 : ((1 : Int) == 1) = true := rfl
                  cases mb with
                  | true =>
                    go_wp2_with fail
                    go_meet
                    case rel =>
                      have hI := HI.out
                      have hm : Mod (fun b => b = gm ∨ b = ga) wi ((wi.setCell ⟨ga, k * 4 + 2, none⟩ (.string lv)).setCell ⟨ga, k * 4 + 3, none⟩ (.bool there)) := ((Mod.refl _ wi).setCell (p := ⟨ga, k * 4 + 2, none⟩) (fun _ => .inr rfl) _).setCell (p := ⟨ga, k * 4 + 3, none⟩) (fun _ => .inr rfl) _
                      have hga := HNE.out
                      refine ⟨n1, zs.set k ⟨1, key, lv, there⟩, ⟨1, key, lv, there⟩, s1, by rw [List.length_set]; exact hI.len, hI.arow.set hI.len.symm HOO.out lv there hls, by rw [List.take_set_of_le (Nat.le_refl _)], List.getElem?_set_self (by rw [hI.len]; exact hk), (hI.now.mod (Mod.setBlk ga (k * 4 + 2) _) (by simp only [oneBlock]; omega)).mod (Mod.setBlk ga (k * 4 + 3) _) (by simp only [oneBlock]; omega), by have := hI.few; omega, hI.tidy, fun _ => ⟨[], ?_⟩, hm⟩
                      have := made_get hI.tidy (key := key) (v := lv) HLV.out
                      rw [HTH.out] at this
                      exact this
                  | false =>
                    go_wp2_with fail
                    go_meet
                    case rel => exact ⟨n1, zs, _, s1, HI.out.len, HI.out.arow, rfl, HOO.out, HI.out.now, by have := HI.out.few; omega, HI.out.tidy, fun h => by simp at h, Mod.refl _ _⟩
                · have d1 : (kind == 1) = false := by simpa using h1
                  obtain ⟨r, hr⟩ := other_op (s := s1) (o := ⟨kind, key, value, found⟩) h1
                  have HRR := Hid.mk' hr
                  clear hr
                  by_cases h2 : kind = 2
                  · subst h2
                    have d2 : ((2 : Int) == 2) = true := rfl
                    obtain ⟨D, hmap, hD⟩ := HI.out.now.mod ((Mod.refl noBlock wi).drew) id
                    have hfew := HI.out.few
                    obtain ⟨w7, hrun, hown7, hgrow7⟩ := hmap.update kStr Try.underlying76 (by unfold maxLen; omega) (Go.WideMaps.keyOf_string_mk Try.underlying9 HKO.out.1) (plainElem_string Try.underlying9 (s := value) HKO.out.2)
                    have HV7 := Hid.mk' (NowP.put hmap.isMap hD hown7)
                    have HM7 : Hid (Mod (oneBlock gm) wi w7) := ((Mod.refl _ wi).drew).grown hgrow7 (fun x hx _ => by simp only [oneBlock]; simpa using hx.symm)
                    clear hmap hD hown7 hgrow7
                    go_upto_region 28 with fail
                    go_region
                    all_goals
                      go_wp2_with fail
                      go_meet
                      case rel =>
                        have hI := HI.out
                        have hga := HNE.out
                        have ho : doOp s1 ⟨2, key, value, found⟩ = some (updS s1 key ⟨value, true⟩, [(key, s1 key)]) := by simp [doOp]
                        exact ⟨n1 + 1, zs, _, _, hI.len, hI.arow.mod HM7.out (fun x hx e => by simp [Value.ownBlock] at hx; simp only [oneBlock] at e; omega), rfl, HOO.out, HV7.out, by omega, tidy_doOp hI.tidy ho, fun _ => ⟨_, ho⟩, HM7.out.mono (fun _ _ e => .inl e)⟩
                  · have d2 : (kind == 2) = false := by simpa using h2
                    by_cases h3 : kind = 3
                    · subst h3
                      have d3 : ((3 : Int) == 3) = true := rfl
                      obtain ⟨D, hmap, hD⟩ := HI.out.now
                      have hfew := HI.out.few
                      have HMP := Hid.mk' hmap
                      have HD := Hid.mk' hD
                      have hs1 := HKO.out.1
                      clear hmap hD
                      go_wp2_with (first
                        | (at_delete; refine wpList_delete_own _ rfl _ _ 76 9 rfl 9 kStr Try.underlying76 (plainElem Try.prog 9) gm n1 D rfl HMP.out _ (.string key.data.toList) rfl (Go.WideMaps.keyOf_string_mk Try.underlying9 hs1) ?_)
                        | fail)
                      intro w7 hown7 hgrow7
                      have HV7 := Hid.mk' (NowP.del (HMP.out.tidy kStr) HD.out hown7)
                      have HM7 : Hid (Mod (oneBlock gm) wi w7) := (Mod.refl _ wi).grown hgrow7.grown (fun x hx _ => by simp only [oneBlock]; simpa using hx.symm)
                      clear hown7 hgrow7
                      go_wp2_with fail
                      go_meet
                      case rel =>
                        have hI := HI.out
                        have hga := HNE.out
                        have ho : doOp s1 ⟨3, key, value, found⟩ = some (updS s1 key zeroVD, [(key, s1 key)]) := by simp [doOp]
                        exact ⟨n1, zs, _, _, hI.len, hI.arow.mod HM7.out (fun x hx e => by simp [Value.ownBlock] at hx; simp only [oneBlock] at e; omega), rfl, HOO.out, HV7.out, by omega, tidy_doOp hI.tidy ho, fun _ => ⟨_, ho⟩, HM7.out.mono (fun _ _ e => .inl e)⟩
                    · have d3 : (kind == 3) = false := by simpa using h3
                      go_wp2_with fail
                      go_meet
                      case rel =>
                        have ho : doOp s1 ⟨kind, key, value, found⟩ = some (s1, []) := by simp [doOp, h1, h2, h3]
                        exact ⟨n1, zs, _, s1, HI.out.len, HI.out.arow, rfl, HOO.out, HI.out.now, by have := HI.out.few; omega, HI.out.tidy, fun _ => ⟨_, ho⟩, Mod.refl _ _⟩
              case rest =>
                obtain ⟨n2, zs', o', s2, hA⟩ := hcut
                obtain ⟨w6, hw6⟩ : ∃ q, q = wc := ⟨_, rfl⟩
                subst hw6
                obtain ⟨e0, e1, e2, e3⟩ := hA.arow.cell hA.here
                have za6 := (own_frozen hA.arow.1 0).2
                have hT6 := HI.out.trow.mod hA.mod (fun b hb e => by
                  have h1 := own_cells HI.out.trow.1 hb
                  have h2 := HLT.out
                  omega)
                have hB6 := HI.out.blk.mod hA.mod (by have := HNE.out; simp; omega)
                have c0 := hB6.cell 0 rfl
                have f0 := hB6.frozen 0
                have zb6 := hB6.lt
                have htl : (zs.take k).length = k := by rw [List.length_take, HI.out.len]; omega
                have hk63 : k + 1 ≤ maxLen := by unfold maxLen; omega
                have hk47 : (k + 1) * 48 ≤ 140737488355328 := by omega
                have hz6 := hA.mod.size
                have hzi := HI.out.mod.size
                have HTO := Hid.mk' hT6.2
                have hT7 := hT6.1
                rw [htl] at hT7
                have hT8 := HI.out.trow.1
                rw [htl] at hT8
                obtain ⟨ra, rcap, htv⟩ := own_slice hT7
                subst htv
                have HNB : Hid ((Value.slice ra k rcap).ownBlock ≠ some bt) := fun e => by have h2 := HLT.out; have h4 := own_cells hT8 e; omega
                have HNA : Hid ((Value.slice ra k rcap).ownBlock ≠ some ga) := fun e => by have h2 := HLT.out; have h4 := own_cells hT8 e; omega
                have HNG : Hid ((Value.slice ra k rcap).ownBlock ≠ some gm) := fun e => by have h2 := HLT.out; have h4 := own_cells hT8 e; omega
                have HT6 := Hid.mk' hT7
                have HB6 := Hid.mk' hB6
                have HA := Hid.mk' hA
                obtain ⟨kind', key', value', found'⟩ := o'
                dsimp only at e0 e1 e2 e3
                have HOE : Hid (∀ u ∈ opCells ⟨kind', key', value', found'⟩, u.oneCell' = true) := fun u hu => opsCells_one [⟨kind', key', value', found'⟩] u (by simpa [opsCells] using hu)
                have HT6D : ((w6.alloc (.cells #[.int .i64 kind', .string key', .string value', .bool found'] 87)).drew).ownsRow wb.heap.size 87 4 (.slice ra k rcap) k (opsCells (zs.take k)) := own_mod HT6.out (((Mod.refl noBlock w6).alloc _).drew) (fun _ _ _ _ => id)
                obtain ⟨v7, w7, hrun7, hown7, hgrow7, hnil7, hat7⟩ := run_append_own_at (P := Try.prog) _ wb.heap.size 80 80 87 p0 _ 4 48 Try.underlying80 pi pz0 pz1 pz2 rfl (by omega) _ _ _ HT6D ⟨w6.heap.size, 0, none⟩ 1 1 (opCells ⟨kind', key', value', found'⟩) rfl (World.news_of_block (heap_alloc_new w6 _)) HOE.out hk63 hk47 (by simp; omega)
                obtain ⟨a7, cap7, hv7⟩ := own_slice hown7
                subst hv7
                have hm67 : Mod (fun b => (Value.slice ra k rcap).ownBlock = some b) w6 w7 := (((Mod.refl _ w6).alloc _).drew).grown hgrow7 (fun x hx _ => hx)
                have c7 := hm67.cell c0 HNB.out
                have f7 := (hm67.frozen (p := ⟨bt, 0, none⟩) zb6 HNB.out).trans f0
                have zb7 := Nat.lt_of_lt_of_le zb6 hm67.size
                clear hA hT6 hT7 hT8 hB6 a0 a1 a2 a3 fa2 fa3 za hlook hls htl
                go_upto_region 31 with fail
                refine wp_with fun fr hfr => ?_
                have hsz : fr.tmps.size = 189 := by rw [hfr]; rfl
                obtain ⟨_, h9⟩ : ∃ h : 9 < fr.tmps.size, fr.tmps[9] = .pointer (some ⟨bt, 0, none⟩) := Array.getElem?_eq_some_iff.1 (by rw [hfr]; rfl)
                obtain ⟨_, h11⟩ : ∃ h : 11 < fr.tmps.size, fr.tmps[11] = .pointer (some ⟨ga, k * 4, none⟩) := Array.getElem?_eq_some_iff.1 (by rw [hfr]; rfl)
                have HFR := Hid.mk' hfr
                clear hfr
                refine wp_region_C 22 (fun wq => wq.cell? ⟨bt, 0, none⟩ = some (.slice ra k rcap) ∧ wq.cell? ⟨ga, k * 4, none⟩ = some (.int .i64 kind') ∧ wq.cell? ⟨ga, k * 4 + 1, none⟩ = some (.string key') ∧ wq.cell? ⟨ga, k * 4 + 2, none⟩ = some (.string value') ∧ wq.cell? ⟨ga, k * 4 + 3, none⟩ = some (.bool found')) rfl ?_
                have HC : Hid (w6.cell? ⟨bt, 0, none⟩ = some (.slice ra k rcap) ∧ w6.cell? ⟨ga, k * 4, none⟩ = some (.int .i64 kind') ∧ w6.cell? ⟨ga, k * 4 + 1, none⟩ = some (.string key') ∧ w6.cell? ⟨ga, k * 4 + 2, none⟩ = some (.string value') ∧ w6.cell? ⟨ga, k * 4 + 3, none⟩ = some (.bool found')) := ⟨c0, e0, e1, e2, e3⟩
                refine wpAnyC_take 22 0 (.pointer (some ⟨bt, 0, none⟩)) rfl (by kernel_rfl) (by kernel_rfl) (by kernel_rfl) (by kernel_rfl) (fun _ _ _ h => h) HC.out ⟨rfl, fun wq hq => by obtain ⟨q0, q1, q2, q3, q4⟩ := hq; go_simp⟩ ?_
                refine wpAnyC_take 22 1 (.slice ra k rcap) rfl (by kernel_rfl) (by kernel_rfl) (by kernel_rfl) (by kernel_rfl) (fun _ _ _ h => h) HC.out ⟨rfl, fun wq hq => by obtain ⟨q0, q1, q2, q3, q4⟩ := hq; go_simp⟩ ?_
                refine wpAnyC_take 22 2 (.pointer (some ⟨ga, k * 4, none⟩)) rfl (by kernel_rfl) (by kernel_rfl) (by kernel_rfl) (by kernel_rfl) (fun _ _ _ h => h) HC.out ⟨rfl, fun wq hq => by obtain ⟨q0, q1, q2, q3, q4⟩ := hq; go_simp⟩ ?_
                refine wpAnyC_take 22 3 (.pointer (some ⟨ga, k * 4, none⟩)) rfl (by kernel_rfl) (by kernel_rfl) (by kernel_rfl) (by kernel_rfl) (fun _ _ _ h => h) HC.out ⟨rfl, fun wq hq => by obtain ⟨q0, q1, q2, q3, q4⟩ := hq; go_simp⟩ ?_
                refine wpAnyC_take 22 4 (.pointer (some ⟨ga, k * 4, none⟩)) rfl (by kernel_rfl) (by kernel_rfl) (by kernel_rfl) (by kernel_rfl) (fun _ _ _ h => h) HC.out ⟨rfl, fun wq hq => by obtain ⟨q0, q1, q2, q3, q4⟩ := hq; go_simp⟩ ?_
                refine wpAnyC_take 22 5 (.int .i64 kind') rfl (by kernel_rfl) (by kernel_rfl) (by kernel_rfl) (by kernel_rfl) (fun _ _ _ h => h) HC.out ⟨rfl, fun wq hq => by obtain ⟨q0, q1, q2, q3, q4⟩ := hq; go_simp⟩ ?_
                refine wpAnyC_take 22 6 (.pointer (some ⟨ga, k * 4, none⟩)) rfl (by kernel_rfl) (by kernel_rfl) (by kernel_rfl) (by kernel_rfl) (fun _ _ _ h => h) HC.out ⟨rfl, fun wq hq => by obtain ⟨q0, q1, q2, q3, q4⟩ := hq; go_simp⟩ ?_
                refine wpAnyC_take 22 7 (.pointer (some ⟨ga, k * 4, none⟩)) rfl (by kernel_rfl) (by kernel_rfl) (by kernel_rfl) (by kernel_rfl) (fun _ _ _ h => h) HC.out ⟨rfl, fun wq hq => by obtain ⟨q0, q1, q2, q3, q4⟩ := hq; go_simp⟩ ?_
                refine wpAnyC_take 22 8 (.pointer (some ⟨ga, k * 4 + 1, none⟩)) rfl (by kernel_rfl) (by kernel_rfl) (by kernel_rfl) (by kernel_rfl) (fun _ _ _ h => h) HC.out ⟨rfl, fun wq hq => by obtain ⟨q0, q1, q2, q3, q4⟩ := hq; go_simp⟩ ?_
                refine wpAnyC_take 22 9 (.string key') rfl (by kernel_rfl) (by kernel_rfl) (by kernel_rfl) (by kernel_rfl) (fun _ _ _ h => h) HC.out ⟨rfl, fun wq hq => by obtain ⟨q0, q1, q2, q3, q4⟩ := hq; go_simp⟩ ?_
                refine wpAnyC_take 22 10 (.pointer (some ⟨ga, k * 4, none⟩)) rfl (by kernel_rfl) (by kernel_rfl) (by kernel_rfl) (by kernel_rfl) (fun _ _ _ h => h) HC.out ⟨rfl, fun wq hq => by obtain ⟨q0, q1, q2, q3, q4⟩ := hq; go_simp⟩ ?_
                refine wpAnyC_take 22 11 (.pointer (some ⟨ga, k * 4, none⟩)) rfl (by kernel_rfl) (by kernel_rfl) (by kernel_rfl) (by kernel_rfl) (fun _ _ _ h => h) HC.out ⟨rfl, fun wq hq => by obtain ⟨q0, q1, q2, q3, q4⟩ := hq; go_simp⟩ ?_
                refine wpAnyC_take 22 12 (.pointer (some ⟨ga, k * 4 + 2, none⟩)) rfl (by kernel_rfl) (by kernel_rfl) (by kernel_rfl) (by kernel_rfl) (fun _ _ _ h => h) HC.out ⟨rfl, fun wq hq => by obtain ⟨q0, q1, q2, q3, q4⟩ := hq; go_simp⟩ ?_
                refine wpAnyC_take 22 13 (.string value') rfl (by kernel_rfl) (by kernel_rfl) (by kernel_rfl) (by kernel_rfl) (fun _ _ _ h => h) HC.out ⟨rfl, fun wq hq => by obtain ⟨q0, q1, q2, q3, q4⟩ := hq; go_simp⟩ ?_
                refine wpAnyC_take 22 14 (.pointer (some ⟨ga, k * 4, none⟩)) rfl (by kernel_rfl) (by kernel_rfl) (by kernel_rfl) (by kernel_rfl) (fun _ _ _ h => h) HC.out ⟨rfl, fun wq hq => by obtain ⟨q0, q1, q2, q3, q4⟩ := hq; go_simp⟩ ?_
                refine wpAnyC_take 22 15 (.pointer (some ⟨ga, k * 4, none⟩)) rfl (by kernel_rfl) (by kernel_rfl) (by kernel_rfl) (by kernel_rfl) (fun _ _ _ h => h) HC.out ⟨rfl, fun wq hq => by obtain ⟨q0, q1, q2, q3, q4⟩ := hq; go_simp⟩ ?_
                refine wpAnyC_take 22 16 (.pointer (some ⟨ga, k * 4 + 3, none⟩)) rfl (by kernel_rfl) (by kernel_rfl) (by kernel_rfl) (by kernel_rfl) (fun _ _ _ h => h) HC.out ⟨rfl, fun wq hq => by obtain ⟨q0, q1, q2, q3, q4⟩ := hq; go_simp⟩ ?_
                refine wpAnyC_take 22 17 (.bool found') rfl (by kernel_rfl) (by kernel_rfl) (by kernel_rfl) (by kernel_rfl) (fun _ _ _ h => h) HC.out ⟨rfl, fun wq hq => by obtain ⟨q0, q1, q2, q3, q4⟩ := hq; go_simp⟩ ?_
                refine wpAnyC_take 22 18 (.agg #[.int .i64 kind', .string key', .string value', .bool found']) rfl (by kernel_rfl) (by kernel_rfl) (by kernel_rfl) (by kernel_rfl) (fun _ _ _ h => h) HC.out ⟨rfl, fun wq hq => by obtain ⟨q0, q1, q2, q3, q4⟩ := hq; go_simp⟩ ?_
                have HC1 : Hid ((w6.alloc (.cells #[.int .i64 kind', .string key', .string value', .bool found'] 87)).drew.cell? ⟨bt, 0, none⟩ = some (.slice ra k rcap) ∧ (w6.alloc (.cells #[.int .i64 kind', .string key', .string value', .bool found'] 87)).drew.cell? ⟨ga, k * 4, none⟩ = some (.int .i64 kind') ∧ (w6.alloc (.cells #[.int .i64 kind', .string key', .string value', .bool found'] 87)).drew.cell? ⟨ga, k * 4 + 1, none⟩ = some (.string key') ∧ (w6.alloc (.cells #[.int .i64 kind', .string key', .string value', .bool found'] 87)).drew.cell? ⟨ga, k * 4 + 2, none⟩ = some (.string value') ∧ (w6.alloc (.cells #[.int .i64 kind', .string key', .string value', .bool found'] 87)).drew.cell? ⟨ga, k * 4 + 3, none⟩ = some (.bool found')) := by
                  have hq : Mod noBlock w6 (w6.alloc (.cells #[.int .i64 kind', .string key', .string value', .bool found'] 87)).drew := ((Mod.refl _ w6).alloc _).drew
                  exact ⟨hq.cell c0 id, hq.cell e0 id, hq.cell e1 id, hq.cell e2 id, hq.cell e3 id⟩
                have HC7 : Hid (w7.cell? ⟨bt, 0, none⟩ = some (.slice ra k rcap) ∧ w7.cell? ⟨ga, k * 4, none⟩ = some (.int .i64 kind') ∧ w7.cell? ⟨ga, k * 4 + 1, none⟩ = some (.string key') ∧ w7.cell? ⟨ga, k * 4 + 2, none⟩ = some (.string value') ∧ w7.cell? ⟨ga, k * 4 + 3, none⟩ = some (.bool found')) := ⟨c7, hm67.cell e0 HNA.out, hm67.cell e1 HNA.out, hm67.cell e2 HNA.out, hm67.cell e3 HNA.out⟩
                refine wpAnyC_next 22 19 rfl (by kernel_rfl) rfl (v := .slice (some ⟨w6.heap.size, 0, none⟩) 1 1) (w' := (w6.alloc (.cells #[.int .i64 kind', .string key', .string value', .bool found'] 87)).drew) (by go_simp) HC1.out ?_
                refine wpAnyC_next 22 20 rfl (by kernel_rfl) rfl (v := .slice a7 (k + 1) cap7) (w' := w7) (exec_append (s := .tmp 142) (x := .tmp 160) (t := 80) rfl (by go_simp) (by go_simp) hrun7) HC7.out ?_
                refine wpAnyC_next 22 21 rfl (by kernel_rfl) rfl (v := .pointer (some ⟨bt, 0, none⟩)) (w' := w7) (by go_simp) HC7.out ?_
                refine wpAnyC_last 22 rfl (by kernel_rfl) rfl (w' := w7.setCell ⟨bt, 0, none⟩ (.slice a7 (k + 1) cap7)) (by go_simp) ?_
                refine ⟨by kernel_rfl, ?_⟩
                have hfr := HFR.out
                subst hfr
                have HIN : Hid (InnerP wb (w7.setCell ⟨bt, 0, none⟩ (.slice a7 (k + 1) cap7)) gm ga acap bt mb t.ops.length (k + 1) n n2 zs' (.slice a7 (k + 1) cap7) f u s s2) := HI.out.step HA.out hk ⟨HLT.out.1, HLT.out.2.1, HLT.out.2.2.1⟩ ⟨HNE.out.2.1, HNE.out.2.2.1, HNE.out.2.2.2.2.2⟩ hown7 hm67
                clear hown7 hgrow7 hnil7 hat7 hm67 hrun7 HT6D c0 f0 c7 f7 e0 e1 e2 e3 HC HC1 HC7
                go_wp2_with fail
                go_roundw
                case rel => exact ⟨k + 1, n2, zs', _, s2, by go_num, HIN.out⟩
                case measure => simp [intOf]; omega
            · obtain rfl : k = t.ops.length := by have := hI.le; omega
              have hkb : Mod (oneBlock gx) wk wb := ((HM3.out.mono (G' := oneBlock gx) (fun _ _ e => e.elim)).trans HM4.out).trans' HM5.out (fun b hb e => by have := HBT.out; simp only [oneBlock]; omega)
              have hkr : Mod (fun b => b = gx ∨ b = gm) wk wi := (hkb.mono (G' := fun b => b = gx ∨ b = gm) (fun _ _ e => .inl e)).trans' hI.mod (fun b hb e => by
                have h1 := HBT.out
                have h2 := HGA.out
                have h3 := HZ2.out
                rcases e with e | e | e
                · exact .inr e
                · omega
                · omega)
              have HWI : Hid (wi.ownsRow N 82 3 (.slice wa5 i wcap5) i (txsCells (xs.take i) us)) := own_mod HWR.out hkr (fun b hb _ _ e => by have := HGM.out; omega)
              obtain ⟨ra, rcap, htv⟩ := own_slice hI.trow.1
              subst htv
              have b0 := hI.blk.cell 0 rfl
              have b1 := hI.blk.cell 1 rfl
              have b2 := hI.blk.cell 2 rfl
              have zb := hI.blk.lt
              have hk63 : i + 1 ≤ maxLen := by unfold maxLen; omega
              have hk47 : (i + 1) * 40 ≤ 140737488355328 := by omega
              have HTO : Hid (∀ x ∈ [Value.slice ra (zs.take t.ops.length).length rcap, .int .i64 f, .int .i64 u], x.oneCell' = true) := fun x hx => by
                simp at hx
                rcases hx with rfl | rfl | rfl <;> rfl
              have hNi : N ≤ wi.heap.size := Nat.le_trans HR.out.size hkr.size
              have HI := Hid.mk' hI
              have HKB := Hid.mk' hkb
              have HL := Hid.mk' (rfl : (zs.take t.ops.length).length = (zs.take t.ops.length).length)
              generalize hlq : (zs.take t.ops.length).length = lq at b0 HTO HI
              clear hI hkb hkr hlq HL
              go_wp2_with (first
                | (at_builtin; refine wpList_append_own_at _ rfl (.tmp 163) (.tmp 165) 75 rfl N 82 r0 _ 3 40 Try.underlying75 ri rz0 rz1 rz2 rfl (by omega) _ _ _ rfl (HWI.out.alloc _) ⟨wi.heap.size, 0, none⟩ 1 1 [.slice ra lq rcap, .int .i64 f, .int .i64 u] rfl rfl (World.news_of_block (heap_alloc_new wi _)) HTO.out hk63 hk47 (by simp; omega) ?_)
                | fail)
              intro v9 w9 hown9 hgrow9 _ hloc9
              have hm9 : Mod (fun b => (Value.slice wa5 i wcap5).ownBlock = some b) wi w9 := ((Mod.refl _ wi).alloc _).grown hgrow9 (fun x hx _ => hx)
              have HRS := Hid.mk' (HR.out.step hlt h12 HGM.out (by have h1 := HBT.out; have h2 := HGA.out; have h3 := HZ2.out; omega) (by have h1 := HBT.out; omega) HX5.out HKB.out HF.out HU.out HFU.out HI.out hown9 hm9 (hloc9.imp id (fun e b hb => by rw [e] at hb; simp at hb; omega)))
              obtain ⟨a9, cap9, hv9⟩ := own_slice hown9
              subst hv9
              clear hown9 hgrow9 hloc9 hm9 b0 b1 b2
              go_wp2_with fail
              go_roundw
              case rel => exact ⟨i + 1, n1, _, _, _, s1, by go_num, HRS.out⟩
              case measure => simp [intOf]; omega
    · obtain rfl : i = m := by have := hR.le; omega
      have hxt : xs.take i = xs := List.take_of_length_le (by rw [hR.len]; exact Nat.le_refl _)
      have hops : ∀ t ∈ xs, t.ops.length ≤ 40 := fun t ht => by
        obtain ⟨j, hj, e⟩ := List.getElem_of_mem ht
        obtain ⟨_, _, _, _, _, _, _, h⟩ := hR.old j t (by rw [← hR.len]; exact hj) (by rw [List.getElem?_eq_getElem hj, e])
        omega
      have hXV : TxsV wr wr.heap.size (.slice (some ⟨gx, 0, none⟩) i xcap) xs := hR.xrow.toV (Nat.le_refl _) (fun j t v ht hv => by
        obtain ⟨u1, u2, k1, k2, k3, k4, _⟩ := hR.old j t (by rw [← hR.len]; exact (List.getElem?_eq_some_iff.1 ht).1) ht
        rw [hv] at k1
        simp only [Option.some.injEq] at k1
        subst k1
        exact ⟨k3.toV (Nat.le_refl _), hR.ints j t ht⟩)
      have hWV : TxsV wr wr.heap.size (.slice wa5 i wcap5) xs := by
        have h := hR.wrow
        rw [hxt] at h
        exact h.toV (Nat.le_refl _) (fun j t v ht hv => by
          obtain ⟨u1, u2, k1, k2, k3, k4, _⟩ := hR.old j t (by rw [← hR.len]; exact (List.getElem?_eq_some_iff.1 ht).1) ht
          rw [hv] at k2
          simp only [Option.some.injEq] at k2
          subst k2
          exact ⟨k4.toV (Nat.le_refl _), hR.ints j t ht⟩)
      have hx8 : xs.length ≤ 8 := by rw [hR.len]; exact hm8
      have HSR := Hid.mk' (serial_any wr.heap.size _ xs wr hXV (Nat.le_refl _) hx8 hops)
      have HMP : Hid (mb = true → MadeP xs xs.length s) := fun h => by rw [hR.len]; exact hR.made h
      have HM := Hid.mk' hR.mod
      have HWV := Hid.mk' hWV
      clear hR hXV hWV hxt HWR
      go_wp2_with fail
      refine HSR.out.mono ?_
      rintro e w5 ⟨hm5, ⟨ov, o, s5, rfl, hI, hg, hw, -⟩ | ⟨rfl, hno⟩⟩
      · have HFT := Hid.mk' (fits_any wr.heap.size _ ov xs o s5 w5 (HWV.out.mod hm5 (fun _ _ => id)) hm5.size hI hg hw hx8 hops)
        have HM5 := Hid.mk' (HM.out.trans hm5)
        obtain ⟨oa, ocap, rfl, _⟩ := hI
        clear hg hw hm5 HSR HM HWV HMP
        cases mb
        all_goals
          go_wp2_with fail
          refine HFT.out.mono ?_
          rintro e w6 ⟨rfl, hm6⟩
          have HM6 := Hid.mk' (HM5.out.trans hm6)
          clear hm6
          go_wp2_with fail
          go_ret
          exact ⟨rfl, HM6.out⟩
      · have HM5 := Hid.mk' (HM.out.trans hm5)
        cases mb with
        | true => exact absurd hno (HMP.out rfl).fits
        | false =>
          clear hm5 HSR HM HWV HMP hno
          go_wp2_with fail
          go_ret
          exact ⟨rfl, HM5.out⟩
end Go.Proofs.Ytefhgakcffhgaab
