/- The document's Serial: the trying. -/
import Derived.Test.YtefhgakcffhgaabDoorLd
import Derived.Deep.CutBlock
namespace Go.Proofs.YtefhgakcffhgaabDoor
open Go.RowKit Go.Lib Go.Maps
set_option linter.unusedVariables false

theorem goodR_app (ts : List TxD) : ∀ (l r d : List Nat) (s : Sta), goodR ts d s (l ++ r) = (goodR ts d s l).bind fun s1 => goodR ts (d ++ l) s1 r
  | [], r, d, s => by simp [goodR]
  | n :: l, r, d, s => by
    by_cases hn : NextOK ts d n
    · cases ht : ts[n]? with
      | none => rw [List.cons_append, goodR, goodR, if_pos hn, if_pos hn, ht]; rfl
      | some t =>
        cases hd : doOps s t.ops with
        | none => rw [List.cons_append, goodR, goodR, if_pos hn, if_pos hn, ht]; simp only; rw [hd]; rfl
        | some x =>
          rw [List.cons_append, goodR_mk hn ht hd, goodR_mk hn ht hd, goodR_app ts l r (d ++ [n]) x.1]
          simp
    · rw [List.cons_append, goodR, goodR, if_neg hn, if_neg hn]; rfl
/-- What the trying comes to. -/
def TryP (w : World) (ts : List TxD) (o : List Nat) (s : Sta) (e : Ending) (w' : World) : Prop :=
  Mod noBlock w w' ∧ ((∃ ov rest s', e = .returned (.tuple #[ov, .bool true]) ∧ IntsV w' ov (ordI (o ++ rest)) ∧ goodR ts o s rest = some s' ∧ Whole ts (o ++ rest) ∧ LeastR ts o s rest) ∨ (e = .returned (.tuple #[.slice none 0 0, .bool false]) ∧ NoneFits ts o s))
def TryAt (ts : List TxD) (r : Nat) : Prop := ∀ (L tb fb : Nat) (tv ov : Value) (o : List Nat) (s : Sta) (w : World), w.cell? ⟨tb, 0, none⟩ = some tv → w.cell? ⟨fb, 0, none⟩ = some (.func (.func 13) #[] #[.pointer (some ⟨tb, 0, none⟩), .pointer (some ⟨fb, 0, none⟩)]) → TxsV w L tv ts → L ≤ w.heap.size → IntsV w ov (ordI o) → o.Nodup → (∀ n ∈ o, n < ts.length) → goodR ts [] bareS o = some s → ts.length ≤ o.length + r →
  Calls Tryd.prog 13 #[ov, .pointer (some ⟨tb, 0, none⟩), .pointer (some ⟨fb, 0, none⟩)] w (TryP w ts o s)
/-- The order and one more, if that can be gone. -/
def canB (ts : List TxD) (o : List Nat) (k : Nat) : Prop := ∃ s2, goodR ts [] bareS (o ++ [k]) = some s2
theorem can_none {ts : List TxD} {o : List Nat} {s : Sta} {k : Nat} (hg : goodR ts [] bareS o = some s) (h : ¬ canB ts o k) : ∀ rest s2, goodR ts o s (k :: rest) = some s2 → ¬ Whole ts (o ++ k :: rest) := fun rest s2 h2 => by
  obtain ⟨h1, t, r, h3, h4, _⟩ := goodR_cons h2
  refine absurd ?_ h
  refine ⟨r.1, ?_⟩
  rw [goodR_app, hg]
  simp only [Option.bind_some, List.nil_append]
  rw [goodR_mk h1 h3 h4]
  rfl
theorem can_some {ts : List TxD} {o : List Nat} {s sk : Sta} {k : Nat} (hg : goodR ts [] bareS o = some s) (h : goodR ts [] bareS (o ++ [k]) = some sk) (rest : List Nat) : goodR ts o s (k :: rest) = goodR ts (o ++ [k]) sk rest := by
  rw [goodR_app, hg] at h
  simp only [Option.bind_some, List.nil_append] at h
  have := goodR_app ts [k] rest o s
  rw [List.singleton_append, h] at this
  exact this
theorem TryP.split {w w' : World} {ts : List TxD} {o : List Nat} {s : Sta} {e : Ending} (h : TryP w ts o s e w') : ∃ ov, ∃ ok : Bool, e = .returned (.tuple #[ov, .bool ok]) ∧ Mod noBlock w w' ∧ (ok = true → ∃ rest s', IntsV w' ov (ordI (o ++ rest)) ∧ goodR ts o s rest = some s' ∧ Whole ts (o ++ rest) ∧ LeastR ts o s rest) ∧ (ok = false → NoneFits ts o s) := by
  obtain ⟨hm, ⟨ov, rest, s', rfl, h⟩ | ⟨rfl, h⟩⟩ := h
  · exact ⟨ov, true, rfl, hm, fun _ => ⟨rest, s', h⟩, fun e => (by cases e)⟩
  · exact ⟨_, false, rfl, hm, fun e => (by cases e), fun _ => h⟩
set_option maxRecDepth 100000 in
set_option maxHeartbeats 16000000 in
theorem try_step (ts : List TxD) (hts : ts.length ≤ 8) (hops : ∀ t ∈ ts, t.ops.length ≤ 40) (r : Nat) (hrec : ∀ r', r = r' + 1 → TryAt ts r') : TryAt ts r := by
  intro L tb fb tv ov o s w c1 c2 ht hL hiv hnd hin hg hr
  have hol : o.length ≤ 8 := by
    have := List.Nodup.length_le_of_subset hnd (l₂ := List.range ts.length) (fun x hx => List.mem_range.2 (hin x hx))
    simp at this
    omega
  have HFT := Hid.mk' (fitsG_any L tv ov ts o w ht hL hiv hnd hin hts hops)
  obtain ⟨ta, tcap, rfl, htc1, htc2⟩ := SlR.slice ht
  have HIW := Hid.mk' hiv
  obtain ⟨oa, ocap, rfl, hoc1, hoc2, hocl⟩ := hiv
  have HOC := Hid.mk' hocl
  have HTX := Hid.mk' ht
  have HND := Hid.mk' hnd
  have HIN := Hid.mk' hin
  have HOPS := Hid.mk' hops
  have HG := Hid.mk' hg
  have HREC := Hid.mk' hrec
  have HOL := Hid.mk' (ordI_len o)
  have HFI := Hid.mk' (fits_iff (ts := ts) hnd)
  obtain ⟨i0, hi, hz0, hz1, hz2⟩ := info_parts Tryd.info3
  unfold maxLen at htc2 hoc2
  have hoI : ((ordI o).length : Int) ≤ 8 := by have := ordI_len o; omega
  clear ht hocl hnd hin hops hg hrec
  go_enter Tryd.func13, Tryd.ntmps13
  go_wp2_with fail
  refine HFT.out.mono ?_
  rintro e w1 ⟨hm1, b, rfl, hb⟩
  cases b with
  | true =>
    have HW : Hid (Whole ts o) := (hb.1 rfl).1
    have HFL : Hid ((ordI o).length = 0 ∨ ∃ p, oa = some p ∧ ∀ (j : Nat) u, ((ordI o).map (Value.int .i64))[j]? = some u → w1.cell? (p.add j) = some u) := by
      rcases HOC.out with e | ⟨b, off, e, hc⟩
      · exact .inl (by rw [e]; rfl)
      · refine .inr ⟨_, e, fun j u hu => ?_⟩
        rw [List.getElem?_map] at hu
        cases hj : (ordI o)[j]? with
        | none => rw [hj] at hu; cases hu
        | some x =>
          rw [hj] at hu
          simp only [Option.map_some, Option.some.injEq] at hu
          rw [← hu, Go.WideShapes.add_plain]
          exact hm1.cell (hc j x hj) id
    have HLC : Hid (((ordI o).map (Value.int .i64)).length = (ordI o).length * 1) := by simp [Hid]
    have HON : Hid (∀ u ∈ (ordI o).map (Value.int .i64), u.oneCell' = true) := fun u hu => by obtain ⟨x, _, rfl⟩ := List.mem_map.1 hu; rfl
    have h63 : (ordI o).length ≤ maxLen := by unfold maxLen; omega
    have h47 : (ordI o).length * 8 ≤ 140737488355328 := by omega
    have HM1 := Hid.mk' hm1
    clear hb hm1 HFT
    go_wp2_with (first
      | (at_builtin; (refine wpList_copy (w0 := w1) rfl _ _ 26 rfl 3 i0 _ 1 8 Tryd.underlying26 hi hz0 hz1 hz2 rfl (by omega) append_emptyI rfl oa (ordI o).length ocap ((ordI o).map (Value.int .i64)) rfl HLC.out HFL.out HON.out h63 h47 ?_))
      | fail)
    intro g c w2 hrow hm2
    have HI := Hid.mk' (IntsV.of_own hrow)
    have HM2 := Hid.mk' (HM1.out.trans hm2)
    clear hrow hm2
    go_wp2_with fail
    go_ret2
    exact ⟨HM2.out, .inl ⟨_, [], s, rfl, by rw [List.append_nil]; exact HI.out, rfl, by rw [List.append_nil]; exact HW.out, fun _ _ _ _ => trivial⟩⟩
  | false =>
    have HNW : Hid (¬ Whole ts o) := fun h => by
      have := hb.2 (HFI.out.1 ⟨⟨s, HG.out⟩, h⟩)
      cases this
    have c1' := hm1.cell c1 id
    have HM1 := Hid.mk' hm1
    clear hb hm1 HFT HFI
    go_wp2_with fail
    go_loopw [20] (fun i wr => ∃ k : Nat, k ≤ ts.length ∧ i = .int .i64 k ∧ (∀ i rest s2, i < k → goodR ts o s (i :: rest) = some s2 → ¬ Whole ts (o ++ i :: rest)) ∧ Mod noBlock w wr) (fun i _ => ts.length - (intOf i).toNat)
    case atStart => exact ⟨0, Nat.zero_le _, rfl, fun i _ _ h => by omega, HM1.out⟩
    case round =>
      clear HM1 c1'
      obtain ⟨k, hk, rfl, hall, hM⟩ := hrel
      obtain ⟨wk, hwk⟩ : ∃ q, q = wr := ⟨_, rfl⟩
      subst hwk
      have HALL := Hid.mk' hall
      have HM := Hid.mk' hM
      have hzk := hM.size
      clear hall
      by_cases hlt : k < ts.length
      · have hltI : (k : Int) < (ts.length : Int) := by omega
        have hlt0 : (0 : Int) ≤ (k : Int) := by omega
        have d1 := hM.cell c1 id
        have d2 := hM.cell c2 id
        clear hM
        go_wp2_with fail
        go_loopw [7, 25] (fun b p0 wx => ∃ p : Nat, p ≤ (ordI o).length ∧ p0 = .int .i64 p ∧ b = .bool (decide (k ∈ o.take p)) ∧ wk = wx) (fun _ p0 _ => (ordI o).length - (intOf p0).toNat)
        case atStart => exact ⟨0, Nat.zero_le _, rfl, by simp, rfl⟩
        case round =>
          obtain ⟨p, hp, rfl, rfl, rfl⟩ := hrel
          by_cases hlp : p < (ordI o).length
          · have hpo : p < o.length := by have := HOL.out; omega
            obtain ⟨n, hn⟩ : ∃ n, o[p]? = some n := ⟨_, List.getElem?_eq_getElem hpo⟩
            have hnI : (ordI o)[p]? = some (n : Int) := by unfold ordI; rw [List.getElem?_map, hn]; rfl
            rcases HOC.out with e | ⟨ob, off, rfl, hcl⟩
            · rw [e] at hlp; simp at hlp
            have q0 := HM.out.cell (hcl p (n : Int) hnI) id
            have hpI : (p : Int) < ((ordI o).length : Int) := by omega
            have hp0 : (0 : Int) ≤ (p : Int) := by omega
            have hsn : o.take (p + 1) = o.take p ++ [n] := by
              rw [List.take_succ_eq_append_getElem hpo]
              rw [List.getElem?_eq_getElem hpo] at hn
              simp at hn
              rw [hn]
            have HSN := Hid.mk' hsn
            clear hn hnI hcl hsn
            by_cases hin : k ∈ o.take p
            · rw [decide_eq_true hin]
              go_wp2_with fail
              go_roundw
              case rel => exact ⟨p + 1, by omega, by go_num, by rw [decide_eq_true (by rw [HSN.out]; simp [hin])], by trivial⟩
              case measure => simp [intOf]; omega
            · rw [decide_eq_false hin]
              by_cases hnj : n = k
              · subst hnj
                go_wp2_with fail
                go_roundw
                case rel => exact ⟨p + 1, by omega, by go_num, by rw [decide_eq_true (by rw [HSN.out]; simp)], by trivial⟩
                case measure => simp [intOf]; omega
              · have hnb : ((n : Int) == (k : Int)) = false := by simp; omega
                go_wp2_with fail
                go_roundw
                case rel => exact ⟨p + 1, by omega, by go_num, by rw [decide_eq_false (by rw [HSN.out]; simp [hin]; omega)], by trivial⟩
                case measure => simp [intOf]; omega
          · have hpe : o.take p = o := by have := HOL.out; rw [List.take_of_length_le (by omega)]
            rw [hpe]
            clear hpe
            obtain ⟨bi, hbi⟩ : ∃ b : Bool, b = decide (k ∈ o) := ⟨_, rfl⟩
            rw [← hbi]
            have HBI := Hid.mk' hbi
            clear hbi
            go_upto_region 12 with fail
            go_cut [47] (fun v wc => ∃ b : Bool, v = .bool b ∧ (b = false ↔ (k ∉ o ∧ canB ts o k)) ∧ Mod noBlock wk wc)
            case first =>
              cases bi with
              | true =>
                have hin : k ∈ o := of_decide_eq_true HBI.out.symm
                go_region
                all_goals
                  go_wp2_with fail
                  go_meet
                  case rel => exact ⟨true, rfl, ⟨fun h => (by cases h), fun h => absurd hin h.1⟩, (Mod.refl noBlock wk).drew⟩
              | false =>
                have hin : k ∉ o := of_decide_eq_false HBI.out.symm
                have HIV := Hid.mk' (HIW.out.mod HM.out)
                have HC0 : Hid (Mod noBlock wk wk.drew) := (Mod.refl noBlock wk).drew
                have HB1 := Hid.mk' (begin_1 wk)
                have HB2 := Hid.mk' (begin_2 wk (k : Int))
                have HB3 := Hid.mk' (begin_3 wk (k : Int))
                clear c1 c2
                have c1 := d1
                have c2 := d2
                refine wp_with fun fr hfr => ?_
                refine wp_withQ fun Q1 hQ1 => ?_
                have hpan : ∀ (d : Nat) (v : Value) (c : List PanicEntry) (a : Act) (w : World), Q1 (.panic c) (a.put (some d) v) w → Q1 (.panic c) a w := fun d v c a w h => by rw [hQ1] at h ⊢; exact h
                have HQ1 := Hid.mk' hQ1
                clear hQ1
                have hsz : fr.tmps.size = 62 := by rw [hfr]; rfl
                obtain ⟨_, h0⟩ : ∃ h : 0 < fr.tmps.size, fr.tmps[0] = .slice oa (ordI o).length ocap := Array.getElem?_eq_some_iff.1 (by rw [hfr]; rfl)
                obtain ⟨_, h1⟩ : ∃ h : 1 < fr.tmps.size, fr.tmps[1] = .pointer (some ⟨tb, 0, none⟩) := Array.getElem?_eq_some_iff.1 (by rw [hfr]; rfl)
                obtain ⟨_, h2⟩ : ∃ h : 2 < fr.tmps.size, fr.tmps[2] = .pointer (some ⟨fb, 0, none⟩) := Array.getElem?_eq_some_iff.1 (by rw [hfr]; rfl)
                obtain ⟨_, h6⟩ : ∃ h : 6 < fr.tmps.size, fr.tmps[6] = .int .i64 (k : Int) := Array.getElem?_eq_some_iff.1 (by rw [hfr]; rfl)
                obtain ⟨_, h7⟩ : ∃ h : 7 < fr.tmps.size, fr.tmps[7] = .bool false := Array.getElem?_eq_some_iff.1 (by rw [hfr]; rfl)
                have HFR := Hid.mk' hfr
                clear hfr
                refine wp_region_C 99 (fun wq => Mod noBlock wk wq) rfl ?_
                refine wpAnyC_takeD 99 0 36 (.bool false) rfl rfl (by kernel_rfl) (by kernel_rfl) (by kernel_rfl) (by kernel_rfl) (fun c a w h => hpan _ _ c a w h) HC0.out ⟨by rfl, fun wq hq => by have q1 := hq.cell c1 id; have q2 := hq.cell c2 id; go_simp⟩ ?_
                refine wpAnyC_takeD 99 1 37 (.bool false) rfl rfl (by kernel_rfl) (by kernel_rfl) (by kernel_rfl) (by kernel_rfl) (fun c a w h => hpan _ _ c a w h) HC0.out ⟨by rfl, fun wq hq => by have q1 := hq.cell c1 id; have q2 := hq.cell c2 id; go_simp⟩ ?_
                refine wpAnyC_takeD 99 2 38 (.slice ta ts.length tcap) rfl rfl (by kernel_rfl) (by kernel_rfl) (by kernel_rfl) (by kernel_rfl) (fun c a w h => hpan _ _ c a w h) HC0.out ⟨by exact wanted_guard rfl rfl rfl (by go_simp), fun wq hq => by have q1 := hq.cell c1 id; have q2 := hq.cell c2 id; go_simp⟩ ?_
                refine wpAnyC_takeD 99 4 40 (.slice oa (ordI o).length ocap) rfl rfl (by kernel_rfl) (by kernel_rfl) (by kernel_rfl) (by kernel_rfl) (fun c a w h => hpan _ _ c a w h) HC0.out ⟨by exact wanted_guard rfl rfl rfl (by go_simp), fun wq hq => by have q1 := hq.cell c1 id; have q2 := hq.cell c2 id; go_simp⟩ ?_
                refine wpAnyC_takeD 99 6 42 (.int .i64 (k : Int)) rfl rfl (by kernel_rfl) (by kernel_rfl) (by kernel_rfl) (by kernel_rfl) (fun c a w h => hpan _ _ c a w h) HC0.out ⟨by exact wanted_guard rfl rfl rfl (by go_simp), fun wq hq => by have q1 := hq.cell c1 id; have q2 := hq.cell c2 id; go_simp⟩ ?_
                refine wpAnyC_twoD 99 3 39 7 43 rfl rfl rfl rfl (by kernel_rfl) (by exact wanted_guard rfl rfl rfl (by go_simp)) (by exact wanted_guard rfl rfl rfl (by go_simp)) (vi := .slice (some ⟨wk.heap.size, 0, none⟩) 0 0) (wi := (wk.alloc (.cells #[] 3)).drew) (vj := .slice (some ⟨wk.heap.size, 0, none⟩) 1 1) (wj := (wk.alloc (.cells #[.int .i64 (k : Int)] 3)).drew) (by go_simp) (HB1.out.1) (by go_simp) (((Mod.refl noBlock wk).alloc _).drew) ?_ ?_
                · obtain ⟨g, c, W5, a8, c8, W8, r5, hm5, r8, hb8⟩ := built_1 wk o k oa ocap HIV.out hol wk.heap.size _ wk.heap.size HB1.out.1 HB1.out.2.1 HB1.out.2.2 (Nat.le_refl _) 26 26
                  refine wpAnyC_twoD 99 5 41 7 43 rfl rfl rfl rfl (by kernel_rfl) (by exact wanted_guard rfl rfl rfl (by go_simp)) (by exact wanted_guard rfl rfl rfl (by go_simp)) (vi := .slice (some ⟨g, 0, none⟩) (ordI o).length c) (wi := W5) (vj := .slice (some ⟨wk.heap.size + 1, 0, none⟩) 1 1) (wj := ((wk.alloc (.cells #[] 3)).alloc (.cells #[.int .i64 (k : Int)] 3)).drew) (exec_append (s := .tmp 39) (x := .tmp 40) (t := 26) rfl (by go_simp) (by go_simp) r5) (hm5) (by go_simp) (HB2.out.1) ?_ ?_
                  · refine wpAnyC_nextD 99 7 43 rfl rfl (by kernel_rfl) (by exact wanted_guard rfl rfl rfl (by go_simp)) (v := .slice (some ⟨W5.heap.size, 0, none⟩) 1 1) (w' := W5.alloc (.cells #[.int .i64 (k : Int)] 3)) (by go_simp) (hm5.alloc _) ?_
                    refine wpAnyC_nextD 99 8 44 rfl rfl (by kernel_rfl) (by exact wanted_guard rfl rfl rfl (by go_simp)) (v := .slice a8 ((ordI o).length + 1) c8) (w' := W8) (exec_append (s := .tmp 41) (x := .tmp 43) (t := 26) rfl (by go_simp) (by go_simp) r8) (hb8.mod) ?_
                    have HST := Hid.mk' (starts_any L _ _ ts (o ++ [k]) W8 (HTX.out.mod (HM.out.trans hb8.mod) (fun _ _ => id)) (Nat.le_trans hL (HM.out.trans hb8.mod).size) hb8.ints (List.nodup_append.2 ⟨HND.out, by simp, fun a ha b hb => by simp at hb; subst hb; exact fun e => hin (e ▸ ha)⟩) (fun n hn => by rcases List.mem_append.1 hn with h | h; exact HIN.out n h; simp at h; omega) hts HOPS.out)
                    refine wpAnyC_callD 99 9 45 rfl rfl (by kernel_rfl) (by exact wanted_guard rfl rfl rfl (by go_simp)) (f := 15) (args := #[.slice ta ts.length tcap, .slice a8 ((ordI o).length + 1) c8]) (by go_simp) (HST.out.mono ?_)
                    rintro e w9 ⟨hm9, b9, rfl, hb9⟩
                    have hm89 := hb8.mod.trans hm9
                    refine ⟨_, rfl, hm89, ?_⟩
                    refine wpAnyC_nextD 99 10 46 rfl rfl (by kernel_rfl) (by exact wanted_guard rfl rfl rfl (by go_simp)) (v := .bool (!b9)) (w' := w9) (by go_simp) hm89 ?_
                    refine wpAnyC_nextD 99 11 47 rfl rfl (by kernel_rfl) (by rfl) (v := .bool (!b9)) (w' := w9) (by go_simp) hm89 ?_
                    refine ⟨by kernel_rfl, ?_⟩
                    have hQ1 := HQ1.out
                    subst hQ1
                    have hfr := HFR.out
                    subst hfr
                    have HB9 : Hid ((!b9) = false ↔ (k ∉ o ∧ canB ts o k)) := ⟨fun h => ⟨hin, hb9.1 (by simpa using h)⟩, fun h => by rw [hb9.2 h.2]; rfl⟩
                    have HM9 := Hid.mk' hm89
                    clear hb9 hm9 hm89 hb8 r5 r8 hm5 HST
                    go_wp2_with fail
                    go_meet
                    case rel => exact ⟨_, rfl, HB9.out, HM9.out⟩
                  · clear r5 hm5 r8 hb8
                    obtain ⟨g, c, W5, a8, c8, W8, r5, hm5, r8, hb8⟩ := built_2 wk o k oa ocap HIV.out hol wk.heap.size (wk.heap.size + 1) _ wk.heap.size HB2.out.1 HB2.out.2.1 HB2.out.2.2.1 (Nat.le_refl _) HB2.out.2.2.2 (by omega) 26 26
                    refine wpAnyC_nextD 99 5 41 rfl rfl (by kernel_rfl) (by exact wanted_guard rfl rfl rfl (by go_simp)) (v := .slice (some ⟨g, 0, none⟩) (ordI o).length c) (w' := W5) (exec_append (s := .tmp 39) (x := .tmp 40) (t := 26) rfl (by go_simp) (by go_simp) r5) (hm5) ?_
                    refine wpAnyC_nextD 99 8 44 rfl rfl (by kernel_rfl) (by exact wanted_guard rfl rfl rfl (by go_simp)) (v := .slice a8 ((ordI o).length + 1) c8) (w' := W8) (exec_append (s := .tmp 41) (x := .tmp 43) (t := 26) rfl (by go_simp) (by go_simp) r8) (hb8.mod) ?_
                    have HST := Hid.mk' (starts_any L _ _ ts (o ++ [k]) W8 (HTX.out.mod (HM.out.trans hb8.mod) (fun _ _ => id)) (Nat.le_trans hL (HM.out.trans hb8.mod).size) hb8.ints (List.nodup_append.2 ⟨HND.out, by simp, fun a ha b hb => by simp at hb; subst hb; exact fun e => hin (e ▸ ha)⟩) (fun n hn => by rcases List.mem_append.1 hn with h | h; exact HIN.out n h; simp at h; omega) hts HOPS.out)
                    refine wpAnyC_callD 99 9 45 rfl rfl (by kernel_rfl) (by exact wanted_guard rfl rfl rfl (by go_simp)) (f := 15) (args := #[.slice ta ts.length tcap, .slice a8 ((ordI o).length + 1) c8]) (by go_simp) (HST.out.mono ?_)
                    rintro e w9 ⟨hm9, b9, rfl, hb9⟩
                    have hm89 := hb8.mod.trans hm9
                    refine ⟨_, rfl, hm89, ?_⟩
                    refine wpAnyC_nextD 99 10 46 rfl rfl (by kernel_rfl) (by exact wanted_guard rfl rfl rfl (by go_simp)) (v := .bool (!b9)) (w' := w9) (by go_simp) hm89 ?_
                    refine wpAnyC_nextD 99 11 47 rfl rfl (by kernel_rfl) (by rfl) (v := .bool (!b9)) (w' := w9) (by go_simp) hm89 ?_
                    refine ⟨by kernel_rfl, ?_⟩
                    have hQ1 := HQ1.out
                    subst hQ1
                    have hfr := HFR.out
                    subst hfr
                    have HB9 : Hid ((!b9) = false ↔ (k ∉ o ∧ canB ts o k)) := ⟨fun h => ⟨hin, hb9.1 (by simpa using h)⟩, fun h => by rw [hb9.2 h.2]; rfl⟩
                    have HM9 := Hid.mk' hm89
                    clear hb9 hm9 hm89 hb8 r5 r8 hm5 HST
                    go_wp2_with fail
                    go_meet
                    case rel => exact ⟨_, rfl, HB9.out, HM9.out⟩
                · obtain ⟨g, c, W5, a8, c8, W8, r5, hm5, r8, hb8⟩ := built_2 wk o k oa ocap HIV.out hol (wk.heap.size + 1) wk.heap.size _ (wk.heap.size + 1) HB3.out.1 HB3.out.2.1 HB3.out.2.2.1 (by omega) HB3.out.2.2.2 (by omega) 26 26
                  refine wpAnyC_nextD 99 3 39 rfl rfl (by kernel_rfl) (by exact wanted_guard rfl rfl rfl (by go_simp)) (v := .slice (some ⟨wk.heap.size + 1, 0, none⟩) 0 0) (w' := ((wk.alloc (.cells #[.int .i64 (k : Int)] 3)).alloc (.cells #[] 3)).drew) (by go_simp) (HB3.out.1) ?_
                  refine wpAnyC_nextD 99 5 41 rfl rfl (by kernel_rfl) (by exact wanted_guard rfl rfl rfl (by go_simp)) (v := .slice (some ⟨g, 0, none⟩) (ordI o).length c) (w' := W5) (exec_append (s := .tmp 39) (x := .tmp 40) (t := 26) rfl (by go_simp) (by go_simp) r5) (hm5) ?_
                  refine wpAnyC_nextD 99 8 44 rfl rfl (by kernel_rfl) (by exact wanted_guard rfl rfl rfl (by go_simp)) (v := .slice a8 ((ordI o).length + 1) c8) (w' := W8) (exec_append (s := .tmp 41) (x := .tmp 43) (t := 26) rfl (by go_simp) (by go_simp) r8) (hb8.mod) ?_
                  have HST := Hid.mk' (starts_any L _ _ ts (o ++ [k]) W8 (HTX.out.mod (HM.out.trans hb8.mod) (fun _ _ => id)) (Nat.le_trans hL (HM.out.trans hb8.mod).size) hb8.ints (List.nodup_append.2 ⟨HND.out, by simp, fun a ha b hb => by simp at hb; subst hb; exact fun e => hin (e ▸ ha)⟩) (fun n hn => by rcases List.mem_append.1 hn with h | h; exact HIN.out n h; simp at h; omega) hts HOPS.out)
                  refine wpAnyC_callD 99 9 45 rfl rfl (by kernel_rfl) (by exact wanted_guard rfl rfl rfl (by go_simp)) (f := 15) (args := #[.slice ta ts.length tcap, .slice a8 ((ordI o).length + 1) c8]) (by go_simp) (HST.out.mono ?_)
                  rintro e w9 ⟨hm9, b9, rfl, hb9⟩
                  have hm89 := hb8.mod.trans hm9
                  refine ⟨_, rfl, hm89, ?_⟩
                  refine wpAnyC_nextD 99 10 46 rfl rfl (by kernel_rfl) (by exact wanted_guard rfl rfl rfl (by go_simp)) (v := .bool (!b9)) (w' := w9) (by go_simp) hm89 ?_
                  refine wpAnyC_nextD 99 11 47 rfl rfl (by kernel_rfl) (by rfl) (v := .bool (!b9)) (w' := w9) (by go_simp) hm89 ?_
                  refine ⟨by kernel_rfl, ?_⟩
                  have hQ1 := HQ1.out
                  subst hQ1
                  have hfr := HFR.out
                  subst hfr
                  have HB9 : Hid ((!b9) = false ↔ (k ∉ o ∧ canB ts o k)) := ⟨fun h => ⟨hin, hb9.1 (by simpa using h)⟩, fun h => by rw [hb9.2 h.2]; rfl⟩
                  have HM9 := Hid.mk' hm89
                  clear hb9 hm9 hm89 hb8 r5 r8 hm5 HST
                  go_wp2_with fail
                  go_meet
                  case rel => exact ⟨_, rfl, HB9.out, HM9.out⟩
            case rest =>
              obtain ⟨b, hvb, hbb, hm2⟩ := hcut
              subst hvb
              obtain ⟨wz, hwz⟩ : ∃ q, q = wc := ⟨_, rfl⟩
              subst hwz
              have HM2 := Hid.mk' (HM.out.trans hm2)
              have e1 := hm2.cell d1 id
              have e2 := hm2.cell d2 id
              clear hm2 d1 d2
              cases b with
              | true =>
                have HNX : Hid (∀ rest s2, goodR ts o s (k :: rest) = some s2 → ¬ Whole ts (o ++ k :: rest)) := fun rest s2 h => by
                  by_cases hko : k ∈ o
                  · exact absurd hko (goodR_cons h).1.1
                  · exact can_none HG.out (fun hc => by have := hbb.2 ⟨hko, hc⟩; cases this) rest s2 h
                clear hbb
                go_wp2_with fail
                go_roundw
                case rel =>
                  refine ⟨k + 1, by omega, by go_num, fun i rest s2 hi hg => ?_, HM2.out⟩
                  by_cases e : i = k
                  · subst e; exact HNX.out rest s2 hg
                  · exact HALL.out i rest s2 (by omega) hg
                case measure => simp [intOf]; omega
              | false =>
                obtain ⟨hin, sk, hsk⟩ := hbb.1 rfl
                clear hbb
                have hroom := nodup_room HND.out HIN.out hlt hin
                obtain ⟨r', rfl⟩ : ∃ r', r = r' + 1 := ⟨r - 1, by omega⟩
                have HIH := Hid.mk' (HREC.out r' rfl)
                have HSK := Hid.mk' hsk
                have hlen : ts.length ≤ (o ++ [k]).length + r' := by simp; omega
                clear hsk
                go_upto_region 13 with fail
                go_cut [10, 11] (fun ov2 okv wc => ∃ ok : Bool, okv = .bool ok ∧ Mod noBlock wz wc ∧ (ok = true → ∃ rest s', IntsV wc ov2 (ordI (o ++ k :: rest)) ∧ goodR ts o s (k :: rest) = some s' ∧ Whole ts (o ++ k :: rest) ∧ LeastK ts o s k (k :: rest)) ∧ (ok = false → ∀ rest s2, goodR ts o s (k :: rest) = some s2 → ¬ Whole ts (o ++ k :: rest)))
                case first =>
                  have HIV := Hid.mk' (HIW.out.mod HM2.out)
                  have HC0 : Hid (Mod noBlock wz wz.drew) := (Mod.refl noBlock wz).drew
                  have HB1 := Hid.mk' (begin_1 wz)
                  have HB2 := Hid.mk' (begin_2 wz (k : Int))
                  have HB3 := Hid.mk' (begin_3 wz (k : Int))
                  clear c1 c2
                  have c1 := e1
                  have c2 := e2
                  refine wp_with fun fr hfr => ?_
                  refine wp_withQ fun Q1 hQ1 => ?_
                  have hpan : ∀ (d : Nat) (v : Value) (c : List PanicEntry) (a : Act) (w : World), Q1 (.panic c) (a.put (some d) v) w → Q1 (.panic c) a w := fun d v c a w h => by rw [hQ1] at h ⊢; exact h
                  have HQ1 := Hid.mk' hQ1
                  clear hQ1
                  have hsz : fr.tmps.size = 62 := by rw [hfr]; rfl
                  obtain ⟨_, h0⟩ : ∃ h : 0 < fr.tmps.size, fr.tmps[0] = .slice oa (ordI o).length ocap := Array.getElem?_eq_some_iff.1 (by rw [hfr]; rfl)
                  obtain ⟨_, h1⟩ : ∃ h : 1 < fr.tmps.size, fr.tmps[1] = .pointer (some ⟨tb, 0, none⟩) := Array.getElem?_eq_some_iff.1 (by rw [hfr]; rfl)
                  obtain ⟨_, h2⟩ : ∃ h : 2 < fr.tmps.size, fr.tmps[2] = .pointer (some ⟨fb, 0, none⟩) := Array.getElem?_eq_some_iff.1 (by rw [hfr]; rfl)
                  obtain ⟨_, h6⟩ : ∃ h : 6 < fr.tmps.size, fr.tmps[6] = .int .i64 (k : Int) := Array.getElem?_eq_some_iff.1 (by rw [hfr]; rfl)
                  have HFR := Hid.mk' hfr
                  clear hfr
                  refine wp_region_C 99 (fun wq => Mod noBlock wz wq) rfl ?_
                  refine wpAnyC_takeD 99 0 49 (.func (.func 13) #[] #[.pointer (some ⟨tb, 0, none⟩), .pointer (some ⟨fb, 0, none⟩)]) rfl rfl (by kernel_rfl) (by kernel_rfl) (by kernel_rfl) (by kernel_rfl) (fun c a w h => hpan _ _ c a w h) HC0.out ⟨by rfl, fun wq hq => by have q1 := hq.cell c1 id; have q2 := hq.cell c2 id; go_simp⟩ ?_
                  refine wpAnyC_takeD 99 2 51 (.slice oa (ordI o).length ocap) rfl rfl (by kernel_rfl) (by kernel_rfl) (by kernel_rfl) (by kernel_rfl) (fun c a w h => hpan _ _ c a w h) HC0.out ⟨by rfl, fun wq hq => by have q1 := hq.cell c1 id; have q2 := hq.cell c2 id; go_simp⟩ ?_
                  refine wpAnyC_takeD 99 4 53 (.int .i64 (k : Int)) rfl rfl (by kernel_rfl) (by kernel_rfl) (by kernel_rfl) (by kernel_rfl) (fun c a w h => hpan _ _ c a w h) HC0.out ⟨by rfl, fun wq hq => by have q1 := hq.cell c1 id; have q2 := hq.cell c2 id; go_simp⟩ ?_
                  refine wpAnyC_twoD 99 1 50 5 54 rfl rfl rfl rfl (by kernel_rfl) (by rfl) (by rfl) (vi := .slice (some ⟨wz.heap.size, 0, none⟩) 0 0) (wi := (wz.alloc (.cells #[] 3)).drew) (vj := .slice (some ⟨wz.heap.size, 0, none⟩) 1 1) (wj := (wz.alloc (.cells #[.int .i64 (k : Int)] 3)).drew) (by go_simp) (HB1.out.1) (by go_simp) (((Mod.refl noBlock wz).alloc _).drew) ?_ ?_
                  · obtain ⟨g, c, W5, a8, c8, W8, r5, hm5, r8, hb8⟩ := built_1 wz o k oa ocap HIV.out hol wz.heap.size _ wz.heap.size HB1.out.1 HB1.out.2.1 HB1.out.2.2 (Nat.le_refl _) 26 26
                    refine wpAnyC_twoD 99 3 52 5 54 rfl rfl rfl rfl (by kernel_rfl) (by rfl) (by rfl) (vi := .slice (some ⟨g, 0, none⟩) (ordI o).length c) (wi := W5) (vj := .slice (some ⟨wz.heap.size + 1, 0, none⟩) 1 1) (wj := ((wz.alloc (.cells #[] 3)).alloc (.cells #[.int .i64 (k : Int)] 3)).drew) (exec_append (s := .tmp 50) (x := .tmp 51) (t := 26) rfl (by go_simp) (by go_simp) r5) (hm5) (by go_simp) (HB2.out.1) ?_ ?_
                    · refine wpAnyC_nextD 99 5 54 rfl rfl (by kernel_rfl) (by rfl) (v := .slice (some ⟨W5.heap.size, 0, none⟩) 1 1) (w' := W5.alloc (.cells #[.int .i64 (k : Int)] 3)) (by go_simp) (hm5.alloc _) ?_
                      refine wpAnyC_nextD 99 6 55 rfl rfl (by kernel_rfl) (by rfl) (v := .slice a8 ((ordI o).length + 1) c8) (w' := W8) (exec_append (s := .tmp 52) (x := .tmp 54) (t := 26) rfl (by go_simp) (by go_simp) r8) (hb8.mod) ?_
                      have HTR := Hid.mk' (HIH.out L tb fb _ _ (o ++ [k]) sk W8 (hb8.mod.cell e1 id) (hb8.mod.cell e2 id) (HTX.out.mod (HM2.out.trans hb8.mod) (fun _ _ => id)) (Nat.le_trans hL (HM2.out.trans hb8.mod).size) hb8.ints (List.nodup_append.2 ⟨HND.out, by simp, fun a ha b hb => by simp at hb; subst hb; exact fun e => hin (e ▸ ha)⟩) (fun n hn => by rcases List.mem_append.1 hn with h | h; exact HIN.out n h; simp at h; omega) HSK.out hlen)
                      refine wpAnyC_callD 99 7 56 rfl rfl (by kernel_rfl) (by rfl) (f := 13) (args := #[.slice a8 ((ordI o).length + 1) c8, .pointer (some ⟨tb, 0, none⟩), .pointer (some ⟨fb, 0, none⟩)]) (by go_simp) (HTR.out.mono ?_)
                      intro e w9 h9
                      obtain ⟨ov9, ok9, rfl, hm9, hy9, hn9⟩ := h9.split
                      have hm89 := hb8.mod.trans hm9
                      refine ⟨_, rfl, hm89, ?_⟩
                      refine wpAnyC_takeD 99 8 48 (.tuple #[ov9, .bool ok9]) rfl rfl (by kernel_rfl) (by kernel_rfl) (by kernel_rfl) (by kernel_rfl) (fun c a w h => hpan _ _ c a w h) hm89 ⟨by rfl, fun wq hq => by go_simp⟩ ?_
                      refine wpAnyC_takeD 99 9 57 (ov9) rfl rfl (by kernel_rfl) (by kernel_rfl) (by kernel_rfl) (by kernel_rfl) (fun c a w h => hpan _ _ c a w h) hm89 ⟨by rfl, fun wq hq => by go_simp⟩ ?_
                      refine wpAnyC_takeD 99 10 58 (.bool ok9) rfl rfl (by kernel_rfl) (by kernel_rfl) (by kernel_rfl) (by kernel_rfl) (fun c a w h => hpan _ _ c a w h) hm89 ⟨by rfl, fun wq hq => by go_simp⟩ ?_
                      refine wpAnyC_takeD 99 11 10 (ov9) rfl rfl (by kernel_rfl) (by kernel_rfl) (by kernel_rfl) (by kernel_rfl) (fun c a w h => hpan _ _ c a w h) hm89 ⟨by rfl, fun wq hq => by go_simp⟩ ?_
                      refine wpAnyC_takeD 99 12 11 (.bool ok9) rfl rfl (by kernel_rfl) (by kernel_rfl) (by kernel_rfl) (by kernel_rfl) (fun c a w h => hpan _ _ c a w h) hm89 ⟨by rfl, fun wq hq => by go_simp⟩ ?_
                      refine ⟨by kernel_rfl, ?_⟩
                      have hQ1 := HQ1.out
                      subst hQ1
                      have hfr := HFR.out
                      subst hfr
                      have HY9 : Hid (ok9 = true → ∃ rest s', IntsV w9 ov9 (ordI (o ++ k :: rest)) ∧ goodR ts o s (k :: rest) = some s' ∧ Whole ts (o ++ k :: rest) ∧ LeastK ts o s k (k :: rest)) := fun h => by
                        obtain ⟨rest, s', k1, k2, k3, k4⟩ := hy9 h
                        refine ⟨rest, s', by simpa using k1, by rw [can_some HG.out HSK.out]; exact k2, by simpa using k3, rest, rfl, fun r' s2 hg hw => ?_⟩
                        rw [can_some HG.out HSK.out] at hg
                        exact k4 r' s2 hg (by simpa using hw)
                      have HN9 : Hid (ok9 = false → ∀ rest s2, goodR ts o s (k :: rest) = some s2 → ¬ Whole ts (o ++ k :: rest)) := fun h rest s2 hg => by
                        rw [can_some HG.out HSK.out] at hg
                        have := hn9 h rest s2 hg
                        simpa using this
                      have HM9 := Hid.mk' hm89
                      clear hy9 hn9 hm9 hm89 hb8 r5 r8 hm5 HTR
                      go_wp2_with fail
                      go_meet
                      case rel => exact ⟨_, rfl, HM9.out, HY9.out, HN9.out⟩
                    · clear r5 hm5 r8 hb8
                      obtain ⟨g, c, W5, a8, c8, W8, r5, hm5, r8, hb8⟩ := built_2 wz o k oa ocap HIV.out hol wz.heap.size (wz.heap.size + 1) _ wz.heap.size HB2.out.1 HB2.out.2.1 HB2.out.2.2.1 (Nat.le_refl _) HB2.out.2.2.2 (by omega) 26 26
                      refine wpAnyC_nextD 99 3 52 rfl rfl (by kernel_rfl) (by rfl) (v := .slice (some ⟨g, 0, none⟩) (ordI o).length c) (w' := W5) (exec_append (s := .tmp 50) (x := .tmp 51) (t := 26) rfl (by go_simp) (by go_simp) r5) (hm5) ?_
                      refine wpAnyC_nextD 99 6 55 rfl rfl (by kernel_rfl) (by rfl) (v := .slice a8 ((ordI o).length + 1) c8) (w' := W8) (exec_append (s := .tmp 52) (x := .tmp 54) (t := 26) rfl (by go_simp) (by go_simp) r8) (hb8.mod) ?_
                      have HTR := Hid.mk' (HIH.out L tb fb _ _ (o ++ [k]) sk W8 (hb8.mod.cell e1 id) (hb8.mod.cell e2 id) (HTX.out.mod (HM2.out.trans hb8.mod) (fun _ _ => id)) (Nat.le_trans hL (HM2.out.trans hb8.mod).size) hb8.ints (List.nodup_append.2 ⟨HND.out, by simp, fun a ha b hb => by simp at hb; subst hb; exact fun e => hin (e ▸ ha)⟩) (fun n hn => by rcases List.mem_append.1 hn with h | h; exact HIN.out n h; simp at h; omega) HSK.out hlen)
                      refine wpAnyC_callD 99 7 56 rfl rfl (by kernel_rfl) (by rfl) (f := 13) (args := #[.slice a8 ((ordI o).length + 1) c8, .pointer (some ⟨tb, 0, none⟩), .pointer (some ⟨fb, 0, none⟩)]) (by go_simp) (HTR.out.mono ?_)
                      intro e w9 h9
                      obtain ⟨ov9, ok9, rfl, hm9, hy9, hn9⟩ := h9.split
                      have hm89 := hb8.mod.trans hm9
                      refine ⟨_, rfl, hm89, ?_⟩
                      refine wpAnyC_takeD 99 8 48 (.tuple #[ov9, .bool ok9]) rfl rfl (by kernel_rfl) (by kernel_rfl) (by kernel_rfl) (by kernel_rfl) (fun c a w h => hpan _ _ c a w h) hm89 ⟨by rfl, fun wq hq => by go_simp⟩ ?_
                      refine wpAnyC_takeD 99 9 57 (ov9) rfl rfl (by kernel_rfl) (by kernel_rfl) (by kernel_rfl) (by kernel_rfl) (fun c a w h => hpan _ _ c a w h) hm89 ⟨by rfl, fun wq hq => by go_simp⟩ ?_
                      refine wpAnyC_takeD 99 10 58 (.bool ok9) rfl rfl (by kernel_rfl) (by kernel_rfl) (by kernel_rfl) (by kernel_rfl) (fun c a w h => hpan _ _ c a w h) hm89 ⟨by rfl, fun wq hq => by go_simp⟩ ?_
                      refine wpAnyC_takeD 99 11 10 (ov9) rfl rfl (by kernel_rfl) (by kernel_rfl) (by kernel_rfl) (by kernel_rfl) (fun c a w h => hpan _ _ c a w h) hm89 ⟨by rfl, fun wq hq => by go_simp⟩ ?_
                      refine wpAnyC_takeD 99 12 11 (.bool ok9) rfl rfl (by kernel_rfl) (by kernel_rfl) (by kernel_rfl) (by kernel_rfl) (fun c a w h => hpan _ _ c a w h) hm89 ⟨by rfl, fun wq hq => by go_simp⟩ ?_
                      refine ⟨by kernel_rfl, ?_⟩
                      have hQ1 := HQ1.out
                      subst hQ1
                      have hfr := HFR.out
                      subst hfr
                      have HY9 : Hid (ok9 = true → ∃ rest s', IntsV w9 ov9 (ordI (o ++ k :: rest)) ∧ goodR ts o s (k :: rest) = some s' ∧ Whole ts (o ++ k :: rest) ∧ LeastK ts o s k (k :: rest)) := fun h => by
                        obtain ⟨rest, s', k1, k2, k3, k4⟩ := hy9 h
                        refine ⟨rest, s', by simpa using k1, by rw [can_some HG.out HSK.out]; exact k2, by simpa using k3, rest, rfl, fun r' s2 hg hw => ?_⟩
                        rw [can_some HG.out HSK.out] at hg
                        exact k4 r' s2 hg (by simpa using hw)
                      have HN9 : Hid (ok9 = false → ∀ rest s2, goodR ts o s (k :: rest) = some s2 → ¬ Whole ts (o ++ k :: rest)) := fun h rest s2 hg => by
                        rw [can_some HG.out HSK.out] at hg
                        have := hn9 h rest s2 hg
                        simpa using this
                      have HM9 := Hid.mk' hm89
                      clear hy9 hn9 hm9 hm89 hb8 r5 r8 hm5 HTR
                      go_wp2_with fail
                      go_meet
                      case rel => exact ⟨_, rfl, HM9.out, HY9.out, HN9.out⟩
                  · obtain ⟨g, c, W5, a8, c8, W8, r5, hm5, r8, hb8⟩ := built_2 wz o k oa ocap HIV.out hol (wz.heap.size + 1) wz.heap.size _ (wz.heap.size + 1) HB3.out.1 HB3.out.2.1 HB3.out.2.2.1 (by omega) HB3.out.2.2.2 (by omega) 26 26
                    refine wpAnyC_nextD 99 1 50 rfl rfl (by kernel_rfl) (by rfl) (v := .slice (some ⟨wz.heap.size + 1, 0, none⟩) 0 0) (w' := ((wz.alloc (.cells #[.int .i64 (k : Int)] 3)).alloc (.cells #[] 3)).drew) (by go_simp) (HB3.out.1) ?_
                    refine wpAnyC_nextD 99 3 52 rfl rfl (by kernel_rfl) (by rfl) (v := .slice (some ⟨g, 0, none⟩) (ordI o).length c) (w' := W5) (exec_append (s := .tmp 50) (x := .tmp 51) (t := 26) rfl (by go_simp) (by go_simp) r5) (hm5) ?_
                    refine wpAnyC_nextD 99 6 55 rfl rfl (by kernel_rfl) (by rfl) (v := .slice a8 ((ordI o).length + 1) c8) (w' := W8) (exec_append (s := .tmp 52) (x := .tmp 54) (t := 26) rfl (by go_simp) (by go_simp) r8) (hb8.mod) ?_
                    have HTR := Hid.mk' (HIH.out L tb fb _ _ (o ++ [k]) sk W8 (hb8.mod.cell e1 id) (hb8.mod.cell e2 id) (HTX.out.mod (HM2.out.trans hb8.mod) (fun _ _ => id)) (Nat.le_trans hL (HM2.out.trans hb8.mod).size) hb8.ints (List.nodup_append.2 ⟨HND.out, by simp, fun a ha b hb => by simp at hb; subst hb; exact fun e => hin (e ▸ ha)⟩) (fun n hn => by rcases List.mem_append.1 hn with h | h; exact HIN.out n h; simp at h; omega) HSK.out hlen)
                    refine wpAnyC_callD 99 7 56 rfl rfl (by kernel_rfl) (by rfl) (f := 13) (args := #[.slice a8 ((ordI o).length + 1) c8, .pointer (some ⟨tb, 0, none⟩), .pointer (some ⟨fb, 0, none⟩)]) (by go_simp) (HTR.out.mono ?_)
                    intro e w9 h9
                    obtain ⟨ov9, ok9, rfl, hm9, hy9, hn9⟩ := h9.split
                    have hm89 := hb8.mod.trans hm9
                    refine ⟨_, rfl, hm89, ?_⟩
                    refine wpAnyC_takeD 99 8 48 (.tuple #[ov9, .bool ok9]) rfl rfl (by kernel_rfl) (by kernel_rfl) (by kernel_rfl) (by kernel_rfl) (fun c a w h => hpan _ _ c a w h) hm89 ⟨by rfl, fun wq hq => by go_simp⟩ ?_
                    refine wpAnyC_takeD 99 9 57 (ov9) rfl rfl (by kernel_rfl) (by kernel_rfl) (by kernel_rfl) (by kernel_rfl) (fun c a w h => hpan _ _ c a w h) hm89 ⟨by rfl, fun wq hq => by go_simp⟩ ?_
                    refine wpAnyC_takeD 99 10 58 (.bool ok9) rfl rfl (by kernel_rfl) (by kernel_rfl) (by kernel_rfl) (by kernel_rfl) (fun c a w h => hpan _ _ c a w h) hm89 ⟨by rfl, fun wq hq => by go_simp⟩ ?_
                    refine wpAnyC_takeD 99 11 10 (ov9) rfl rfl (by kernel_rfl) (by kernel_rfl) (by kernel_rfl) (by kernel_rfl) (fun c a w h => hpan _ _ c a w h) hm89 ⟨by rfl, fun wq hq => by go_simp⟩ ?_
                    refine wpAnyC_takeD 99 12 11 (.bool ok9) rfl rfl (by kernel_rfl) (by kernel_rfl) (by kernel_rfl) (by kernel_rfl) (fun c a w h => hpan _ _ c a w h) hm89 ⟨by rfl, fun wq hq => by go_simp⟩ ?_
                    refine ⟨by kernel_rfl, ?_⟩
                    have hQ1 := HQ1.out
                    subst hQ1
                    have hfr := HFR.out
                    subst hfr
                    have HY9 : Hid (ok9 = true → ∃ rest s', IntsV w9 ov9 (ordI (o ++ k :: rest)) ∧ goodR ts o s (k :: rest) = some s' ∧ Whole ts (o ++ k :: rest) ∧ LeastK ts o s k (k :: rest)) := fun h => by
                      obtain ⟨rest, s', k1, k2, k3, k4⟩ := hy9 h
                      refine ⟨rest, s', by simpa using k1, by rw [can_some HG.out HSK.out]; exact k2, by simpa using k3, rest, rfl, fun r' s2 hg hw => ?_⟩
                      rw [can_some HG.out HSK.out] at hg
                      exact k4 r' s2 hg (by simpa using hw)
                    have HN9 : Hid (ok9 = false → ∀ rest s2, goodR ts o s (k :: rest) = some s2 → ¬ Whole ts (o ++ k :: rest)) := fun h rest s2 hg => by
                      rw [can_some HG.out HSK.out] at hg
                      have := hn9 h rest s2 hg
                      simpa using this
                    have HM9 := Hid.mk' hm89
                    clear hy9 hn9 hm9 hm89 hb8 r5 r8 hm5 HTR
                    go_wp2_with fail
                    go_meet
                    case rel => exact ⟨_, rfl, HM9.out, HY9.out, HN9.out⟩
                case rest =>
                  obtain ⟨ok, hok, hm3, hyes, hno⟩ := hcut
                  subst hok
                  have HM3 := Hid.mk' (HM2.out.trans hm3)
                  cases ok with
                  | true =>
                    obtain ⟨rest, s', k1, k2, k3, k4⟩ := hyes rfl
                    have HK := Hid.mk' (And.intro k1 (And.intro k2 (And.intro k3 k4)))
                    clear k1 k2 k3 k4 hyes hno hm3
                    go_wp2_with fail
                    go_ret2
                    exact ⟨HM3.out, .inl ⟨_, k :: rest, s', rfl, HK.out.1, HK.out.2.1, HK.out.2.2.1, leastR_of HNW.out HALL.out HK.out.2.2.2⟩⟩
                  | false =>
                    have HNX := Hid.mk' (hno rfl)
                    clear hyes hno hm3
                    go_wp2_with fail
                    go_roundw
                    case rel =>
                      refine ⟨k + 1, by omega, by go_num, fun i rest s2 hi hg => ?_, HM3.out⟩
                      by_cases e : i = k
                      · subst e; exact HNX.out rest s2 hg
                      · exact HALL.out i rest s2 (by omega) hg
                    case measure => simp [intOf]; omega
      · clear hM
        go_wp2_with fail
        go_ret2
        exact ⟨HM.out, .inr ⟨rfl, noneFits_of HNW.out (fun i rest s2 hi hg => HALL.out i rest s2 (by omega) hg)⟩⟩
end Go.Proofs.YtefhgakcffhgaabDoor
