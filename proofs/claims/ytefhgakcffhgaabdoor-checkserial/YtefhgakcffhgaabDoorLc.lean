/- The document's answer whether an order may be the beginning of one that fits. -/
import Derived.Test.YtefhgakcffhgaabDoorLb
import Derived.Test.YtefhgakcffhgaabDoorKt
import Derived.Deep.CutBlock
namespace Go.Proofs.YtefhgakcffhgaabDoor
open Go.RowKit Go.Lib Go.Maps
set_option linter.unusedVariables false

theorem Tryd.info52 : (Tryd.prog.info? 52).map (fun i => (i.zero, i.size, i.bytes)) = some (some (.agg #[.slice none 0 0, .int .i64 0, .int .i64 0]), 3, 40) := by kernel_rfl
theorem append_emptyR (g : Nat) (a : Option Addr) (c : Nat) (ty : TypeId) (w : World) : (Builtin.append_ #[35, 35] ty #[.slice (some ⟨g, 0, none⟩) 0 0, .slice a 0 c]).run Tryd.prog w = .ok (.slice (some ⟨g, 0, none⟩) 0 0) w := by
  cases a <;> kernel_rfl
theorem txsCells_setTil : ∀ (ts : List TxD) (vs : List Value) (i : Nat) (t : TxD) (u : Int), vs.length = ts.length → ts[i]? = some t → (txsCells ts vs).set (i * 3 + 2) (.int .i64 u) = txsCells (ts.set i ⟨t.ops, t.frm, u⟩) vs
  | [], _, _, _, _, _, h => by simp at h
  | _ :: _, [], _, _, _, h, _ => by simp at h
  | p :: ts, q :: vs, 0, t, u, _, h => by
    simp at h
    subst h
    rfl
  | p :: ts, q :: vs, i + 1, t, u, hl, h => by
    have ih := txsCells_setTil ts vs i t u (by simpa using hl) (by simpa using h)
    rw [List.set_cons_succ, txsCells, txsCells, ← ih, show (i + 1) * 3 + 2 = i * 3 + 2 + 1 + 1 + 1 by omega]
    rfl
theorem RowX.setTil {ty : TypeId} {w : World} {B b n cap : Nat} {ts : List TxD} {vs : List Value} {i : Nat} {t : TxD} (h : RowX ty w B (.slice (some ⟨b, 0, none⟩) n cap) ts vs) (hn : n = ts.length) (hi : ts[i]? = some t) (u : Int) : RowX ty (w.setCell ⟨b, i * 3 + 2, none⟩ (.int .i64 u)) B (.slice (some ⟨b, 0, none⟩) n cap) (ts.set i ⟨t.ops, t.frm, u⟩) vs := by
  subst hn
  refine ⟨by simpa using h.1, ?_⟩
  rw [← txsCells_setTil ts vs i t u h.1 hi, List.length_set]
  exact rowset h.2 _ _
theorem cutT_step {ts : List TxD} {o : List Nat} {j : Nat} {t : TxD} (ht : ts[j]? = some t) (h1 : j ∉ o) (h2 : 0 ≤ t.til) : (cutT ts o j).set j ⟨t.ops, t.frm, -1⟩ = cutT ts o (j + 1) := by
  have hj : j < ts.length := (List.getElem?_eq_some_iff.1 ht).1
  apply List.ext_getElem?
  intro i
  by_cases e : i = j
  · subst e
    rw [List.getElem?_set_self (by rw [cutT_len]; exact hj), cutT_at ht, if_pos ⟨by omega, h1, h2⟩]
  · rw [List.getElem?_set_ne (fun q => e q.symm)]
    cases hi : ts[i]? with
    | none =>
      have hl : ts.length ≤ i := by simpa using hi
      rw [List.getElem?_eq_none (by rw [cutT_len]; exact hl), List.getElem?_eq_none (by rw [cutT_len]; exact hl)]
    | some t' =>
      rw [cutT_at hi, cutT_at hi]
      by_cases q : i < j
      · simp [q, show i < j + 1 by omega]
      · simp [q, show ¬ i < j + 1 by omega]
theorem cutT_stay {ts : List TxD} {o : List Nat} {j : Nat} {t : TxD} (ht : ts[j]? = some t) (h : j ∈ o ∨ ¬ 0 ≤ t.til) : cutT ts o j = cutT ts o (j + 1) := by
  apply List.ext_getElem?
  intro i
  cases hi : ts[i]? with
  | none =>
    have hl : ts.length ≤ i := by simpa using hi
    rw [List.getElem?_eq_none (by rw [cutT_len]; exact hl), List.getElem?_eq_none (by rw [cutT_len]; exact hl)]
  | some t' =>
    rw [cutT_at hi, cutT_at hi]
    by_cases e : i = j
    · subst e
      rw [ht] at hi
      simp only [Option.some.injEq] at hi
      subst hi
      rw [if_neg (by omega), if_neg (fun q => by rcases h with h | h; exact q.2.1 h; exact h q.2.2)]
    · by_cases q : i < j
      · simp [q, show i < j + 1 by omega]
      · simp [q, show ¬ i < j + 1 by omega]
theorem OutOK.stay {ts : List TxD} {o : List Nat} {j : Nat} {t : TxD} (hO : OutOK ts o j) (ht : ts[j]? = some t) (h : j ∈ o ∨ ¬ 0 ≤ t.til) : OutOK ts o (j + 1) := fun i t' hi ht' h1 h2 => by
  by_cases e : i = j
  · subst e
    rw [ht] at ht'
    simp only [Option.some.injEq] at ht'
    subst ht'
    exact absurd h (by simp [h1, h2])
  · exact hO i t' (by omega) ht' h1 h2
theorem OutOK.more {ts : List TxD} {o : List Nat} {j : Nat} {t : TxD} (hO : OutOK ts o j) (ht : ts[j]? = some t) (h : ∀ (p k : Nat) u, o[p]? = some k → ts[k]? = some u → ¬ t.til < u.frm) : OutOK ts o (j + 1) := fun i t' hi ht' h1 h2 k hk u hu => by
  by_cases e : i = j
  · subst e
    rw [ht] at ht'
    simp only [Option.some.injEq] at ht'
    subst ht'
    obtain ⟨p, hp, q⟩ := List.getElem_of_mem hk
    exact h p k u (by rw [List.getElem?_eq_getElem hp, q]) hu
  · exact hO i t' (by omega) ht' h1 h2 k hk u hu
theorem OpsV.up' {w : World} {L L' : Nat} {v : Value} {os : List OpD} (h : OpsV w L v os) (hL : L ≤ L') : OpsV w L' v os := by
  obtain ⟨a, cap, h1, h2, h3, h4⟩ := h
  refine ⟨a, cap, h1, h2, h3, ?_⟩
  rcases h4 with h4 | ⟨b, off, h5, h6, h7⟩
  · exact .inl h4
  · exact .inr ⟨b, off, h5, by omega, h7⟩
theorem IntsV.mod {w w' : World} {v : Value} {ns : List Int} (h : IntsV w v ns) (hm : Mod noBlock w w') : IntsV w' v ns := by
  obtain ⟨a, cap, h1, h2, h3, h4⟩ := h
  refine ⟨a, cap, h1, h2, h3, ?_⟩
  rcases h4 with h4 | ⟨b, off, h5, h6⟩
  · exact .inl h4
  · exact .inr ⟨b, off, h5, fun j x hx => hm.cell (h6 j x hx) id⟩
def StartsP (w : World) (ts : List TxD) (o : List Nat) (e : Ending) (w' : World) : Prop := Mod noBlock w w' ∧ ∃ b : Bool, e = .returned (.bool b) ∧ (b = true ↔ ∃ s2, goodR ts [] bareS o = some s2)
theorem RowX.cell' {ty : TypeId} {w : World} {B g n cap : Nat} {ts : List TxD} {vs : List Value} {i : Nat} {t : TxD} (h : RowX ty w B (.slice (some ⟨g, 0, none⟩) n cap) ts vs) (hi : ts[i]? = some t) : w.cell? ⟨g, i * 3 + 1, none⟩ = some (.int .i64 t.frm) ∧ w.cell? ⟨g, i * 3 + 2, none⟩ = some (.int .i64 t.til) ∧ w.frozen? ⟨g, i * 3 + 2, none⟩ = false ∧ g < w.heap.size := by
  obtain ⟨v, hv⟩ : ∃ v, vs[i]? = some v := ⟨_, List.getElem?_eq_getElem (by rw [h.1]; exact (List.getElem?_eq_some_iff.1 hi).1)⟩
  have key : ∀ j x, (txCells t v)[j]? = some x → w.cell? ⟨g, i * 3 + j, none⟩ = some x := fun j x hx => by
    have := h.2.cells (g := g) rfl _ _ (txsCells_cell ts vs i t v h.1 hi hv j x hx)
    rw [Go.WideShapes.add_plain, Nat.zero_add] at this
    exact this
  obtain ⟨_, h2, cur, h3⟩ := own_cells h.2 (k := g) rfl
  exact ⟨key 1 _ rfl, key 2 _ rfl, by simp [World.frozen?, h3], h2⟩
set_option maxRecDepth 100000 in
set_option maxHeartbeats 16000000 in
theorem starts_any (L : Nat) (tv ov : Value) (ts : List TxD) (o : List Nat) (w : World) (ht : TxsV w L tv ts) (hL : L ≤ w.heap.size) (ho : IntsV w ov (ordI o)) (hnd : o.Nodup) (hin : ∀ n ∈ o, n < ts.length) (hts : ts.length ≤ 8) (hops : ∀ t ∈ ts, t.ops.length ≤ 40) :
    Calls Tryd.prog 15 #[tv, ov] w (StartsP w ts o) := by
  obtain ⟨ta, tcap, rfl, htc1, htc2⟩ := SlR.slice ht
  obtain ⟨vs0, hvl, hvc, hvo, hv1⟩ := TxsV.flat ht
  obtain ⟨x0, xi, xz0, xz1, xz2⟩ := info_parts Tryd.info52
  have hol : o.length ≤ 8 := by
    have := List.Nodup.length_le_of_subset hnd (l₂ := List.range ts.length) (fun x hx => List.mem_range.2 (hin x hx))
    simp at this
    omega
  have HIV := Hid.mk' ho
  obtain ⟨oa, ocap, rfl, hoc1, hoc2, hocl⟩ := ho
  have HOC := Hid.mk' hocl
  have HVC := Hid.mk' hvc
  have HVO := Hid.mk' hvo
  have HON := Hid.mk' (txsCells_one ts vs0 hv1)
  have HLC := Hid.mk' (txsCells_len ts vs0 hvl)
  have HVL := Hid.mk' hvl
  have HND := Hid.mk' hnd
  have HIN := Hid.mk' hin
  have HOPS := Hid.mk' hops
  have HOL := Hid.mk' (ordI_len o)
  have h63 : ts.length ≤ maxLen := by unfold maxLen; omega
  have h47 : ts.length * 40 ≤ 140737488355328 := by omega
  unfold maxLen at htc2 hoc2
  have hoI : ((ordI o).length : Int) ≤ 8 := by have := ordI_len o; omega
  clear ht hvc hvo hv1 hvl hnd hin hops hocl
  go_enter Tryd.func15, Tryd.ntmps15
  go_wp2_with (first
    | (at_builtin; (refine wpList_copy (w0 := w) rfl _ _ 35 rfl 52 x0 _ 3 40 Tryd.underlying35 xi xz0 xz1 xz2 rfl (by omega) append_emptyR rfl ta ts.length tcap (txsCells ts vs0) rfl HLC.out HVC.out HON.out h63 h47 ?_))
    | fail)
  intro gx xcap wa hrx hma
  have hgx := (own_cells hrx (k := gx) rfl).1
  have hxc : ts.length ≤ xcap ∧ xcap ≤ maxLen := by
    rcases hrx.2 with ⟨e, _⟩ | ⟨_, _, _, e, _, _, h1, h2, _⟩
    · cases e
    · simp only [Value.slice.injEq] at e; rw [e.2.2]; exact ⟨h1, h2⟩
  have hR0 : RowX 52 wa 0 (.slice (some ⟨gx, 0, none⟩) ts.length xcap) (cutT ts o 0) vs0 := by rw [cutT_zero]; exact ⟨HVL.out, own_base hrx (Nat.zero_le _)⟩
  have HR0 := Hid.mk' hR0
  have HMA := Hid.mk' hma
  unfold maxLen at hxc
  clear hR0 hrx hma HON HLC HVC h63 h47
  go_wp2_with fail
  go_loopw [17] (fun i wr => ∃ j : Nat, j ≤ ts.length ∧ i = .int .i64 j ∧ RowX 52 wr 0 (.slice (some ⟨gx, 0, none⟩) ts.length xcap) (cutT ts o j) vs0 ∧ OutOK ts o j ∧ Mod noBlock w wr) (fun i _ => ts.length - (intOf i).toNat)
  case atStart => exact ⟨0, Nat.zero_le _, rfl, HR0.out, fun i t h => by omega, HMA.out⟩
  case round =>
    obtain ⟨j, hj, rfl, hR, hO, hM⟩ := hrel
    clear HR0 HMA
    obtain ⟨wk, hwk⟩ : ∃ q, q = wr := ⟨_, rfl⟩
    subst hwk
    by_cases hlt : j < ts.length
    · have hltI : (j : Int) < (ts.length : Int) := by omega
      have hlt0 : (0 : Int) ≤ (j : Int) := by omega
      obtain ⟨t, ht⟩ : ∃ t, ts[j]? = some t := ⟨_, List.getElem?_eq_getElem hlt⟩
      have hcj : (cutT ts o j)[j]? = some t := by rw [cutT_at ht, if_neg (by omega)]
      obtain ⟨c1, c2, f2, zx⟩ := hR.cell' hcj
      have HR := Hid.mk' hR
      have HO := Hid.mk' hO
      have HM := Hid.mk' hM
      have HT := Hid.mk' ht
      have HCJ := Hid.mk' hcj
      clear hR hO hM ht hcj
      go_wp2_with fail
      go_loopw [7, 22] (fun b p0 wx => ∃ p : Nat, p ≤ (ordI o).length ∧ p0 = .int .i64 p ∧ b = .bool (decide (j ∈ o.take p)) ∧ wk = wx) (fun _ p0 _ => (ordI o).length - (intOf p0).toNat)
      case atStart => exact ⟨0, Nat.zero_le _, rfl, by simp, rfl⟩
      case round =>
        obtain ⟨p, hp, rfl, rfl, rfl⟩ := hrel
        by_cases hlp : p < (ordI o).length
        · have hpo : p < o.length := by have := HOL.out; omega
          obtain ⟨n, hn⟩ : ∃ n, o[p]? = some n := ⟨_, List.getElem?_eq_getElem hpo⟩
          have hnI : (ordI o)[p]? = some (n : Int) := by unfold ordI; rw [List.getElem?_map, hn]; rfl
          rcases HOC.out with e | ⟨ob, off, rfl, hcl⟩
          · rw [e] at hlp; simp at hlp
          have q0 := HM.out.cell (hcl p (n : Int) hnI) id
          have hpI : (p : Int) < ((ordI o).length : Int) := by omega
          have hp0 : (0 : Int) ≤ (p : Int) := by omega
          have hsn : o.take (p + 1) = o.take p ++ [n] := by
            rw [List.take_succ_eq_append_getElem hpo]
            rw [List.getElem?_eq_getElem hpo] at hn
            simp at hn
            rw [hn]
          have HSN := Hid.mk' hsn
          clear hn hnI hcl hsn
          by_cases hin : j ∈ o.take p
          · rw [decide_eq_true hin]
            go_wp2_with fail
            go_roundw
            case rel => exact ⟨p + 1, by omega, by go_num, by rw [decide_eq_true (by rw [HSN.out]; simp [hin])], by trivial⟩
            case measure => simp [intOf]; omega
          · rw [decide_eq_false hin]
            by_cases hnj : n = j
            · subst hnj
              go_wp2_with fail
              go_roundw
              case rel => exact ⟨p + 1, by omega, by go_num, by rw [decide_eq_true (by rw [HSN.out]; simp)], by trivial⟩
              case measure => simp [intOf]; omega
            · have hnb : ((n : Int) == (j : Int)) = false := by simp; omega
              go_wp2_with fail
              go_roundw
              case rel => exact ⟨p + 1, by omega, by go_num, by rw [decide_eq_false (by rw [HSN.out]; simp [hin]; omega)], by trivial⟩
              case measure => simp [intOf]; omega
        · have hpe : o.take p = o := by have := HOL.out; rw [List.take_of_length_le (by omega)]
          rw [hpe]
          clear hpe
          by_cases hin : j ∈ o
          · rw [decide_eq_true hin]
            have HC : Hid (cutT ts o j = cutT ts o (j + 1)) := cutT_stay HT.out (.inl hin)
            have HOS := Hid.mk' (HO.out.stay HT.out (.inl hin))
            clear hin
            go_wp2_with fail
            go_roundw
            case rel => exact ⟨j + 1, by omega, by go_num, by rw [← HC.out]; exact HR.out, HOS.out, HM.out⟩
            case measure => simp [intOf]; omega
          · rw [decide_eq_false hin]
            by_cases htl : 0 ≤ t.til
            · have hd : decide (t.til ≥ 0) = true := decide_eq_true htl
              go_wp2_with fail
              go_loopw [45] (fun p0 wx => ∃ p : Nat, p ≤ (ordI o).length ∧ p0 = .int .i64 p ∧ (∀ (q k : Nat) u, q < p → o[q]? = some k → ts[k]? = some u → ¬ t.til < u.frm) ∧ RowX 52 wx 0 (.slice (some ⟨gx, 0, none⟩) ts.length xcap) (cutT ts o j) vs0 ∧ Mod noBlock w wx) (fun p0 _ => (ordI o).length - (intOf p0).toNat)
              case atStart => exact ⟨0, Nat.zero_le _, rfl, fun q k u h => by omega, HR.out, HM.out⟩
              case round =>
                obtain ⟨p, hp, rfl, hall, hRz, hMz⟩ := hrel
                obtain ⟨wz, hwz⟩ : ∃ q, q = wr := ⟨_, rfl⟩
                subst hwz
                obtain ⟨_, c2', f2', zx'⟩ := hRz.cell' HCJ.out
                have HRZ := Hid.mk' hRz
                have HALL := Hid.mk' hall
                have HMD := Hid.mk' hMz
                clear hall hRz hMz
                by_cases hlp : p < (ordI o).length
                · have hpo : p < o.length := by have := HOL.out; omega
                  obtain ⟨n, hn⟩ : ∃ n, o[p]? = some n := ⟨_, List.getElem?_eq_getElem hpo⟩
                  have hnI : (ordI o)[p]? = some (n : Int) := by unfold ordI; rw [List.getElem?_map, hn]; rfl
                  have hnl := HIN.out n (List.mem_of_getElem? hn)
                  obtain ⟨u, hu⟩ : ∃ u, ts[n]? = some u := ⟨_, List.getElem?_eq_getElem hnl⟩
                  rcases HOC.out with e | ⟨ob, off, rfl, hcl⟩
                  · rw [e] at hlp; simp at hlp
                  have q0 := HMD.out.cell (hcl p (n : Int) hnI) id
                  obtain ⟨u', hu', huf⟩ : ∃ u', (cutT ts o j)[n]? = some u' ∧ u'.frm = u.frm := ⟨_, cutT_at hu, by split <;> rfl⟩
                  have d1 := (HRZ.out.cell' hu').1
                  rw [huf] at d1
                  have hpI : (p : Int) < ((ordI o).length : Int) := by omega
                  have hp0 : (0 : Int) ≤ (p : Int) := by omega
                  have hnlI : (n : Int) < (ts.length : Int) := by omega
                  have hn0 : (0 : Int) ≤ (n : Int) := by omega
                  have HNN := Hid.mk' hn
                  have HUU := Hid.mk' hu
                  clear hn hnI hcl hu hu' huf f2'
                  by_cases hfr : t.til < u.frm
                  · have hdf : decide (t.til < u.frm) = true := decide_eq_true hfr
                    have HNO : Hid (¬ ∃ s2, goodR ts [] bareS o = some s2) := fun h => by
                      have h1 := ((starts_iff HND.out).2 h).1
                      exact h1 j t hlt HT.out hin htl n (List.mem_of_getElem? HNN.out) u HUU.out hfr
                    go_upto_region 15 with fail
                    go_quiet (fail)
                    go_wp2_with fail
                    go_ret
                    exact ⟨HMD.out.drewN _, false, rfl, ⟨fun e => by simp at e, fun e => absurd e HNO.out⟩⟩
                  · have hdf : decide (t.til < u.frm) = false := decide_eq_false hfr
                    have HAL : Hid (∀ (q k : Nat) u, q < p + 1 → o[q]? = some k → ts[k]? = some u → ¬ t.til < u.frm) := fun q k v hq hk hv => by
                      by_cases e : q = p
                      · subst e
                        rw [HNN.out] at hk
                        simp at hk
                        subst hk
                        rw [HUU.out] at hv
                        simp at hv
                        subst hv
                        exact hfr
                      · exact HALL.out q k v (by omega) hk hv
                    go_upto_region 15 with fail
                    go_quiet (fail)
                    go_wp2_with fail
                    go_roundw
                    case rel => exact ⟨p + 1, by omega, by go_num, HAL.out, HRZ.out.mod ((Mod.refl noBlock wz).drewN _) (fun _ _ => id), HMD.out.drewN _⟩
                    case measure => simp [intOf]; omega
                · have hR5 := HRZ.out.setTil (cutT_len ts o j).symm HCJ.out (-1)
                  rw [cutT_step HT.out hin htl] at hR5
                  have HR5 := Hid.mk' hR5
                  have HO5 : Hid (OutOK ts o (j + 1)) := HO.out.more HT.out (fun q k u hq hu => HALL.out q k u (by have := HOL.out; have := (List.getElem?_eq_some_iff.1 hq).1; omega) hq hu)
                  have HM5 : Hid (Mod noBlock w (wz.setCell ⟨gx, j * 3 + 2, none⟩ (.int .i64 (-1)))) := HMD.out.setCell (p := ⟨gx, j * 3 + 2, none⟩) (fun h => by simp at h; omega) _
                  clear hR5
                  go_wp2_with fail
                  go_roundw
                  case rel => exact ⟨j + 1, by omega, by go_num, HR5.out, HO5.out, HM5.out⟩
                  case measure => simp [intOf]; omega
            · have hd : decide (t.til ≥ 0) = false := decide_eq_false htl
              have HC : Hid (cutT ts o j = cutT ts o (j + 1)) := cutT_stay HT.out (.inr htl)
              have HOS := Hid.mk' (HO.out.stay HT.out (.inr htl))
              go_wp2_with fail
              go_roundw
              case rel => exact ⟨j + 1, by omega, by go_num, by rw [← HC.out]; exact HR.out, HOS.out, HM.out⟩
              case measure => simp [intOf]; omega
    · obtain rfl : j = ts.length := by omega
      have hXV : TxsV wk wk.heap.size (.slice (some ⟨gx, 0, none⟩) ts.length xcap) (cutT ts o ts.length) := by
        have h := hR
        have hl : (cutT ts o ts.length).length = ts.length := cutT_len _ _ _
        refine h.toV (Nat.le_refl _) (fun i t v hi hv => ?_)
        obtain ⟨t0, ht0, rfl⟩ := cutT_inv hi
        obtain ⟨k1, k2, k3⟩ := HVO.out i t0 v ht0 hv
        have k4 := (k1.mod hM (fun _ _ => id)).up' (Nat.le_trans hL hM.size)
        split
        · exact ⟨k4, k2, by simp [int64]⟩
        · exact ⟨k4, k2, k3⟩
      have HFT := Hid.mk' (fitsG_any wk.heap.size _ _ (cutT ts o ts.length) o wk hXV (Nat.le_refl _) (HIV.out.mod hM) HND.out (fun n hn => by rw [cutT_len]; exact HIN.out n hn) (by rw [cutT_len]; exact hts) (fun t ht => by
        obtain ⟨i, hi, e⟩ := List.getElem_of_mem ht
        obtain ⟨t0, ht0, h2⟩ := cutT_inv (ts := ts) (o := o) (j := ts.length) (i := i) (t' := t) (by rw [List.getElem?_eq_getElem hi, e])
        have h3 := HOPS.out t0 (List.mem_of_getElem? ht0)
        rw [h2]
        split <;> exact h3))
      have HO := Hid.mk' hO
      have HM := Hid.mk' hM
      clear hR hO hM hXV
      go_wp2_with fail
      refine HFT.out.mono ?_
      rintro e w5 ⟨hm5, b, rfl, hb⟩
      have HB : Hid (b = true ↔ ∃ s2, goodR ts [] bareS o = some s2) := by
        rw [Hid, hb]
        exact ⟨fun h => (starts_iff HND.out).1 ⟨HO.out, (fits_iff HND.out).2 h⟩, fun h => (fits_iff HND.out).1 ((starts_iff HND.out).2 h).2⟩
      have HM5 := Hid.mk' (HM.out.trans hm5)
      clear hb hm5
      go_wp2_with fail
      go_ret
      exact ⟨HM5.out, b, rfl, HB.out⟩
end Go.Proofs.YtefhgakcffhgaabDoor
