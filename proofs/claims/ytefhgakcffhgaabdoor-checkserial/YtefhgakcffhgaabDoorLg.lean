/- The law CheckSerial: the history as the document's. -/
import Derived.Test.YtefhgakcffhgaabDoorLf
namespace Go.Proofs.YtefhgakcffhgaabDoor
open Go.RowKit Go.Lib Go.Maps
set_option linter.unusedVariables false

theorem take_next' {α : Type} {l : List α} {k : Nat} {x : α} (h : l[k]? = some x) : l.take (k + 1) = l.take k ++ [x] := by
  obtain ⟨hk, e⟩ := List.getElem?_eq_some_iff.1 h
  rw [List.take_succ_eq_append_getElem hk, e]
/-- The operations of one that are copied. -/
structure HInP (wb wr : World) (bt k : Nat) (t : TxD) (tv : Value) : Prop where
  le : k ≤ t.ops.length
  row : RowO 55 wr wb.heap.size tv (t.ops.take k)
  blk : Blk wr bt [tv, .int .i64 t.frm, .int .i64 t.til] 52
  mod : Mod (oneBlock bt) wb wr
theorem HInP.step {wb wi w7 : World} {bt k : Nat} {t : TxD} {tv v7 : Value} {o : OpD} (hI : HInP wb wi bt k t tv) (ho : t.ops[k]? = some o) (hok : okOp o) (hbt : bt < wb.heap.size)
    (hrow : w7.ownsRow wb.heap.size 55 4 v7 (k + 1) (opsCells (t.ops.take k) ++ opCells o)) (hm : Mod (fun b => tv.ownBlock = some b) wi w7) : HInP wb (w7.setCell ⟨bt, 0, none⟩ v7) bt (k + 1) t v7 := by
  have hbase : ∀ b, tv.ownBlock = some b → wb.heap.size ≤ b := fun b hb => (own_cells hI.row.1 hb).1
  have hsb : Mod (oneBlock bt) w7 (w7.setCell ⟨bt, 0, none⟩ v7) := Mod.setBlk _ _ _
  have htk : t.ops.take (k + 1) = t.ops.take k ++ [o] := take_next' ho
  have hk : k < t.ops.length := (List.getElem?_eq_some_iff.1 ho).1
  have hB7 := hI.blk.mod hm (fun e => by have := hbase _ e; omega)
  refine ⟨hk, ⟨?_, fun x hx => ?_⟩, hB7.set 0 v7, ?_⟩
  · rw [htk, opsCells_snoc]
    have hl : (t.ops.take k ++ [o]).length = k + 1 := by simp; omega
    rw [hl]
    exact own_mod hrow hsb (fun b hb _ _ e => by simp only [oneBlock] at e; omega)
  · rw [htk] at hx
    rcases List.mem_append.1 hx with h | h
    · exact hI.row.2 x h
    · rw [List.mem_singleton.1 h]; exact hok
  · exact (hI.mod.trans' hm (fun b hb e => by have := hbase _ e; omega)).trans hsb
/-- The transactions that are copied: us where their operations lie. -/
structure HistP (w wr : World) (ts : List TxD) (i : Nat) (us : List Value) (ov : Value) : Prop where
  le : i ≤ ts.length
  row : RowX 52 wr w.heap.size ov (ts.take i) us
  old : ∀ (j : Nat) t u, j < i → ts[j]? = some t → us[j]? = some u → RowO 55 wr w.heap.size u t.ops ∧ ∀ b, u.ownBlock = some b → ov.ownBlock ≠ some b
  mod : Mod noBlock w wr
theorem HistP.step {w wk wb wi w9 : World} {ts : List TxD} {us : List Value} {i bt : Nat} {t : TxD} {ov v9 tv : Value} (hR : HistP w wk ts i us ov) (ht : ts[i]? = some t) (hkb : Mod noBlock wk wb) (hbt : wk.heap.size ≤ bt) (hI : HInP wb wi bt t.ops.length t tv)
    (hrow : w9.ownsRow w.heap.size 52 3 v9 (i + 1) (txsCells (ts.take i) us ++ [tv, .int .i64 t.frm, .int .i64 t.til])) (hm : Mod (fun b => ov.ownBlock = some b) wi w9) (hat : v9.ownBlock = ov.ownBlock ∨ ∀ b, v9.ownBlock = some b → wi.heap.size ≤ b) :
    HistP w w9 ts (i + 1) (us ++ [tv]) v9 := by
  have hi : i < ts.length := (List.getElem?_eq_some_iff.1 ht).1
  have hov : ∀ b, ov.ownBlock = some b → w.heap.size ≤ b ∧ b < wk.heap.size := fun b hb => by have h := own_cells hR.row.2 hb; exact ⟨h.1, h.2.1⟩
  have hki : Mod noBlock wk wi := hkb.trans' hI.mod (fun b hb e => by simp only [oneBlock] at e; omega)
  have h0 := hR.mod.size
  have h1 := hkb.size
  have h2 := hki.size
  have hlen : (ts.take i).length = i := by rw [List.length_take]; omega
  have husl : us.length = i := by have := hR.row.1; rw [hlen] at this; exact this
  have htk : ts.take (i + 1) = ts.take i ++ [t] := take_next' ht
  have hzq : t.ops.take t.ops.length = t.ops := List.take_of_length_le (Nat.le_refl _)
  have hrw := hI.row
  rw [hzq] at hrw
  refine ⟨hi, ⟨by rw [htk]; simp [husl, hlen], ?_⟩, fun j t' u hj ht' hu => ?_, ?_⟩
  · rw [htk, txsCells_snoc _ _ _ _ (by rw [husl, hlen])]
    have hl : (ts.take i ++ [t]).length = i + 1 := by simp; omega
    rw [hl]
    exact hrow
  · by_cases e : j = i
    · subst e
      rw [ht] at ht'
      obtain rfl := Option.some.inj ht'
      rw [List.getElem?_append_right (by omega), husl] at hu
      simp at hu
      subst hu
      refine ⟨RowO.mod ⟨own_base hrw.1 (by omega), hrw.2⟩ hm (fun b hb e => ?_), fun b hb e => ?_⟩
      · have q1 := hov _ e
        have q2 := (own_cells hrw.1 hb).1
        omega
      · have q2 := own_cells hrw.1 hb
        rcases hat with h | h
        · rw [h] at e; have := hov _ e; omega
        · have := h b e; omega
    · rw [List.getElem?_append_left (by omega)] at hu
      obtain ⟨q1, q2⟩ := hR.old j t' u (by omega) ht' hu
      refine ⟨(q1.mod hki (fun _ _ => id)).mod hm (fun b hb e => q2 b hb e), fun b hb e => ?_⟩
      rcases hat with h | h
      · rw [h] at e; exact q2 b hb e
      · have q3 := h b e
        have q4 := own_cells q1.1 hb
        omega
  · exact (hR.mod.trans hki).trans' hm (fun b hb e => by have := hov _ e; omega)
theorem HistP.new (w : World) (ts : List TxD) : HistP w w ts 0 [] (.slice none 0 0) :=
  ⟨Nat.zero_le _, ⟨by simp, by simpa [txsCells] using World.ownsRow_nil _ _ _ _⟩, fun j _ _ h => by omega, Mod.refl _ _⟩
theorem HistP.whole {w wr : World} {ts : List TxD} {us : List Value} {ov : Value} (h : HistP w wr ts ts.length us ov) (hi : ∀ t ∈ ts, int64 t.frm ∧ int64 t.til) : TxsV wr wr.heap.size ov ts := by
  have h1 := h.row
  rw [List.take_of_length_le (Nat.le_refl _)] at h1
  exact h1.toV (Nat.le_refl _) (fun j t u ht hu => ⟨((h.old j t u (List.getElem?_eq_some_iff.1 ht).1 ht hu).1).toV (Nat.le_refl _), hi t (List.mem_of_getElem? ht)⟩)
theorem Tryd.info55 : (Tryd.prog.info? 55).map (fun i => (i.zero, i.size, i.bytes)) = some (some (.agg #[.int .i64 0, .string ByteArray.empty, .string ByteArray.empty, .bool false]), 4, 48) := by kernel_rfl
set_option maxRecDepth 100000 in
set_option maxHeartbeats 8000000 in
theorem history_any (L : Nat) (tv : Value) (ts : List TxD) (w : World) (ht : TxsV w L tv ts) (hL : L ≤ w.heap.size) (hts : ts.length ≤ 8) (hops : ∀ t ∈ ts, t.ops.length ≤ 40) :
    Calls Tryd.prog 7 #[tv] w fun e w' => ∃ ov, e = .returned ov ∧ TxsV w' w'.heap.size ov ts ∧ Mod noBlock w w' := by
  obtain ⟨p0, pi, pz0, pz1, pz2⟩ := info_parts Tryd.info55
  obtain ⟨r0, ri, rz0, rz1, rz2⟩ := info_parts Tryd.info52
  obtain ⟨a, cap, rfl, hc1, hc2⟩ := SlR.slice ht
  unfold maxLen at hc2
  have HT := Hid.mk' ht
  have HOPS := Hid.mk' hops
  have HINT : Hid (∀ t ∈ ts, int64 t.frm ∧ int64 t.til) := fun t hm => by
    obtain ⟨j, hj, e⟩ := List.getElem_of_mem hm
    obtain ⟨_, _, _, _, _, _, h, _⟩ := ht.at (i := j) (t := t) (by rw [List.getElem?_eq_getElem hj, e])
    exact h
  clear ht hops
  go_enter Tryd.func7, Tryd.ntmps7
  go_wp2_with fail
  go_loopw [3, 4] (fun ov i0 wr => ∃ (i : Nat) (us : List Value), i0 = .int .i64 i ∧ HistP w wr ts i us ov) (fun _ i0 _ => ts.length - (intOf i0).toNat)
  case atStart => exact ⟨0, [], rfl, HistP.new w ts⟩
  case round =>
    obtain ⟨i, us, rfl, hR⟩ := hrel
    have htl : (ts.take i).length = i := by rw [List.length_take]; have := hR.le; omega
    have hwr := hR.row.2
    rw [htl] at hwr
    obtain ⟨oa, ocap, hov⟩ := own_slice hwr
    subst hov
    have HWR := Hid.mk' hwr
    clear hwr htl
    obtain ⟨wk, hwk⟩ : ∃ q, q = wr := ⟨_, rfl⟩
    subst hwk
    by_cases hlt : i < ts.length
    · have hltI : (i : Int) < (ts.length : Int) := by omega
      have hlt0 : (0 : Int) ≤ (i : Int) := by omega
      obtain ⟨t, ht⟩ : ∃ t, ts[i]? = some t := ⟨_, List.getElem?_eq_getElem hlt⟩
      obtain ⟨b, off, opv, rfl, hbL, hopv, hints, q0, q1, q2⟩ := HT.out.at ht
      obtain ⟨ya, ycap, rfl, hyc1, hyc2⟩ := SlR.slice hopv
      have h40 := HOPS.out t (List.mem_of_getElem? ht)
      unfold maxLen at hyc2
      have c0 := hR.mod.cell q0 id
      have c1 := hR.mod.cell q1 id
      have c2 := hR.mod.cell q2 id
      have hzk := hR.mod.size
      have zb0 := World.block_lt_of_cell? _ _ c0
      have HR := Hid.mk' hR
      have HTT := Hid.mk' ht
      have HOV := Hid.mk' (hopv.mod hR.mod (fun _ _ => id))
      obtain ⟨bt, hbt⟩ : ∃ q, q = wk.heap.size := ⟨_, rfl⟩
      have HBT := Hid.mk' hbt
      have hbb : b < bt := by omega
      clear hopv hints q0 q1 q2 ht hR hbt
      go_upto_region 5 with fail
      go_cut [5] (fun p wc => p = .pointer (some ⟨bt, 0, none⟩) ∧ Blk wc bt [.slice none 0 0, .int .i64 t.frm, .int .i64 t.til] 52 ∧ Mod noBlock wk wc)
      case first =>
        go_region
        all_goals
          go_wp2_with fail
          go_meet
          case rel =>
            rw [HBT.out]
            exact ⟨rfl, Blk.new wk [.slice none 0 0, .int .i64 t.frm, .int .i64 t.til] 52, ((Mod.refl noBlock wk).alloc _).drew⟩
      case rest =>
        obtain ⟨rfl, hB2, hm2⟩ := hcut
        obtain ⟨wb, hwb⟩ : ∃ q, q = wc := ⟨_, rfl⟩
        subst hwb
        have hbtl := hB2.lt
        have HI0 : Hid (HInP wb wb bt 0 t (.slice none 0 0)) := ⟨Nat.zero_le _, ⟨by simpa [opsCells] using World.ownsRow_nil _ _ _ _, fun o ho => by simp at ho⟩, hB2, Mod.refl _ _⟩
        have d0 := hm2.cell c0 id
        have HOB := Hid.mk' (HOV.out.mod hm2 (fun _ _ => id))
        have HM2 := Hid.mk' hm2
        have hbL2 : b < wb.heap.size := by omega
        clear hB2 hm2 c0 c1 c2 HOV
        go_wp2_with fail
        go_loopw [6] (fun k0 wr => ∃ (k : Nat) (tv : Value), k0 = .int .i64 k ∧ HInP wb wr bt k t tv) (fun k0 _ => t.ops.length - (intOf k0).toNat)
        case atStart => exact ⟨0, _, rfl, HI0.out⟩
        case round =>
          obtain ⟨k, tv, rfl, hI⟩ := hrel
          clear HI0
          obtain ⟨wi, hwi⟩ : ∃ q, q = wr := ⟨_, rfl⟩
          subst hwi
          have e0 := hI.mod.cell d0 (by simp only [oneBlock]; omega)
          have zb := World.block_lt_of_cell? _ _ e0
          by_cases hk : k < t.ops.length
          · have hkI : (k : Int) < (t.ops.length : Int) := by omega
            have hk0 : (0 : Int) ≤ (k : Int) := by omega
            obtain ⟨o, ho⟩ : ∃ o, t.ops[k]? = some o := ⟨_, List.getElem?_eq_getElem hk⟩
            obtain ⟨ob, ooff, rfl, hobL, hok, a0, a1, a2, a3⟩ := HOB.out.at ho
            have hobb : ob ≠ bt := by have := HBT.out; omega
            have a0' := hI.mod.cell a0 (by simp only [oneBlock]; exact hobb)
            have a1' := hI.mod.cell a1 (by simp only [oneBlock]; exact hobb)
            have a2' := hI.mod.cell a2 (by simp only [oneBlock]; exact hobb)
            have a3' := hI.mod.cell a3 (by simp only [oneBlock]; exact hobb)
            have hbc := hI.blk.cell 0 rfl
            have hbf := hI.blk.frozen 0
            have hbl := hI.blk.lt
            have htl : (t.ops.take k).length = k := by rw [List.length_take]; omega
            have hrow := hI.row.1
            rw [htl] at hrow
            obtain ⟨ra, rcap, htv⟩ := own_slice hrow
            subst htv
            obtain ⟨kind, key, value, found⟩ := o
            dsimp only at a0' a1' a2' a3'
            have HROW := Hid.mk' hrow
            have HI := Hid.mk' hI
            have HOO := Hid.mk' ho
            have HOK := Hid.mk' hok
            have hk63 : k + 1 ≤ maxLen := by unfold maxLen; omega
            have hk47 : (k + 1) * 48 ≤ 140737488355328 := by omega
            have hzi := hI.mod.size
            have HNB : Hid ((Value.slice ra k rcap).ownBlock ≠ some bt) := fun e => by have h4 := own_cells hrow e; omega
            have HOE : Hid (∀ u ∈ opCells ⟨kind, key, value, found⟩, u.oneCell' = true) := fun u hu => opsCells_one [⟨kind, key, value, found⟩] u (by simpa [opsCells] using hu)
            have HNW : Hid (∀ (j : Nat) u, (opCells ⟨kind, key, value, found⟩)[j]? = some u → ((wi.alloc (.cells #[.int .i64 kind, .string key, .string value, .bool found] 54)).alloc (.cells #[.int .i64 kind, .string key, .string value, .bool found] 55)).cell? ((⟨wi.heap.size + 1, 0, none⟩ : Addr).add j) = some u) := fun j u hu => by
              have h1 := Blk.new (wi.alloc (.cells #[.int .i64 kind, .string key, .string value, .bool found] 54)) [.int .i64 kind, .string key, .string value, .bool found] 55
              rw [Go.WideShapes.add_plain, Nat.zero_add]
              have h2 := h1.cell j hu
              simpa using h2
            clear hI ho hok hrow a0 a1 a2 a3
            go_wp2_with (first
              | (at_builtin; refine wpList_append_own_at _ rfl (.tmp 44) (.tmp 54) 50 rfl wb.heap.size 55 p0 _ 4 48 Tryd.underlying50 pi pz0 pz1 pz2 rfl (by omega) _ _ _ rfl ((HROW.out.alloc _).alloc _) ⟨wi.heap.size + 1, 0, none⟩ 1 1 (opCells ⟨kind, key, value, found⟩) rfl rfl HNW.out HOE.out hk63 hk47 (by simp; omega) ?_)
              | fail)
            intro v7 w7 hown7 hgrow7 _ _
            have hm67 : Mod (fun b => (Value.slice ra k rcap).ownBlock = some b) wi w7 := (((Mod.refl _ wi).alloc _).alloc _).grown hgrow7 (fun x hx _ => hx)
            have c7 := hm67.cell hbc HNB.out
            have f7 := (hm67.frozen (p := ⟨bt, 0, none⟩) hbl HNB.out).trans hbf
            have zb7 := Nat.lt_of_lt_of_le hbl hm67.size
            have HST := Hid.mk' (HI.out.step HOO.out HOK.out hbtl hown7 hm67)
            obtain ⟨a7, cap7, hv7⟩ := own_slice hown7
            subst hv7
            clear hown7 hgrow7 hm67 HNW a0' a1' a2' a3' hbc hbf
            go_wp2_with fail
            go_roundw
            case rel => exact ⟨k + 1, _, by go_num, HST.out⟩
            case measure => simp [intOf]; omega
          · obtain rfl : k = t.ops.length := by have := hI.le; omega
            have hki : Mod noBlock wk wi := HM2.out.trans' hI.mod (fun x hx e => by simp only [oneBlock] at e; have := HBT.out; omega)
            have HWI : Hid (wi.ownsRow w.heap.size 52 3 (.slice oa i ocap) i (txsCells (ts.take i) us)) := own_mod HWR.out hki (fun _ _ _ _ => id)
            obtain ⟨ra, rcap, htv⟩ := own_slice hI.row.1
            subst htv
            have b0 := hI.blk.cell 0 rfl
            have b1 := hI.blk.cell 1 rfl
            have b2 := hI.blk.cell 2 rfl
            have zbt := hI.blk.lt
            have hk63 : i + 1 ≤ maxLen := by unfold maxLen; omega
            have hk47 : (i + 1) * 40 ≤ 140737488355328 := by omega
            have hNi : w.heap.size ≤ wi.heap.size := Nat.le_trans hzk hki.size
            have HI := Hid.mk' hI
            generalize hlq : (t.ops.take t.ops.length).length = lq at b0 HI
            have HTO : Hid (∀ x ∈ [Value.slice ra lq rcap, .int .i64 t.frm, .int .i64 t.til], x.oneCell' = true) := fun x hx => by
              simp at hx
              rcases hx with rfl | rfl | rfl <;> rfl
            clear hI hki hlq
            go_wp2_with (first
              | (at_builtin; refine wpList_append_own_at _ rfl (.tmp 57) (.tmp 59) 35 rfl w.heap.size 52 r0 _ 3 40 Tryd.underlying35 ri rz0 rz1 rz2 rfl (by omega) _ _ _ rfl (HWI.out.alloc _) ⟨wi.heap.size, 0, none⟩ 1 1 [.slice ra lq rcap, .int .i64 t.frm, .int .i64 t.til] rfl rfl (World.news_of_block (heap_alloc_new wi _)) HTO.out hk63 hk47 (by simp; omega) ?_)
              | fail)
            intro v9 w9 hown9 hgrow9 _ hloc9
            have hm9 : Mod (fun b => (Value.slice oa i ocap).ownBlock = some b) wi w9 := ((Mod.refl _ wi).alloc _).grown hgrow9 (fun x hx _ => hx)
            have HRS := Hid.mk' (HR.out.step HTT.out HM2.out (by have := HBT.out; omega) HI.out hown9 hm9 (hloc9.imp id (fun e b hb => by rw [e] at hb; simp at hb; omega)))
            obtain ⟨a9, cap9, hv9⟩ := own_slice hown9
            subst hv9
            clear hown9 hgrow9 hloc9 hm9 b0 b1 b2
            go_wp2_with fail
            go_roundw
            case rel => exact ⟨i + 1, _, by go_num, HRS.out⟩
            case measure => simp [intOf]; omega
    · obtain rfl : i = ts.length := by have := hR.le; omega
      have HWH := Hid.mk' (hR.whole HINT.out)
      have HM := Hid.mk' hR.mod
      clear hR
      go_wp2_with fail
      go_ret
      exact ⟨_, rfl, HWH.out, HM.out⟩
end Go.Proofs.YtefhgakcffhgaabDoor
