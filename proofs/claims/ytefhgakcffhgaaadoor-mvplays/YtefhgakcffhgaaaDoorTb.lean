/- The law MvPlays: the document's store in memory; its Put. -/
import Derived.Test.YtefhgakcffhgaaaDoorTa
namespace Go.Proofs.YtefhgakcffhgaaaDoor
open Go.RowKit Go.Lib Go.Maps
set_option linter.unusedVariables false

def entC (e : EntD) : List Value := [.string e.key, .string e.value, .bool e.gone, .int .i64 e.time]
def entsC : List EntD → List Value
  | [] => []
  | e :: es => entC e ++ entsC es
theorem entsC_len : ∀ es, (entsC es).length = es.length * 4
  | [] => rfl
  | e :: es => by simp [entsC, entC, entsC_len es]; omega
theorem entsC_snoc : ∀ es e, entsC (es ++ [e]) = entsC es ++ entC e
  | [], e => by simp [entsC]
  | x :: es, e => by simp [entsC, entsC_snoc es e]
theorem entsC_cell : ∀ (es : List EntD) (i : Nat) (e : EntD), es[i]? = some e → ∀ j x, (entC e)[j]? = some x → (entsC es)[i * 4 + j]? = some x
  | [], i, e, h, _, _, _ => by simp at h
  | y :: es, 0, e, h, j, x, hx => by
    simp at h
    subst h
    have hj : j < (entC y).length := (List.getElem?_eq_some_iff.1 hx).1
    rw [entsC, Nat.zero_mul, Nat.zero_add, List.getElem?_append_left hj]
    exact hx
  | y :: es, i + 1, e, h, j, x, hx => by
    have ih := entsC_cell es i e (by simpa using h) j x hx
    have hl : (entC y).length = 4 := rfl
    rw [entsC, List.getElem?_append_right (by omega), hl, show (i + 1) * 4 + j - 4 = i * 4 + j by omega]
    exact ih
theorem entC_one (e : EntD) : ∀ u ∈ entC e, u.oneCell' = true := fun u hu => by
  simp [entC] at hu
  rcases hu with rfl | rfl | rfl | rfl <;> rfl
/-- Where the document's store lies. -/
structure RfM where
  b : Nat
  rv : Value
  low : Int
def RfM.own (r : RfM) (x : Nat) : Prop := x = r.b ∨ r.rv.ownBlock = some x
structure RfP (w : World) (B : Nat) (r : RfM) (all : List EntD) : Prop where
  blk : Blk w r.b [r.rv, .int .i64 r.low] 97
  base : B ≤ r.b
  row : w.ownsRow B 172 4 r.rv all.length (entsC all)
theorem RfP.mod {G : Nat → Prop} {w w' : World} {B : Nat} {r : RfM} {all : List EntD} (h : RfP w B r all) (hm : Mod G w w') (hG : ∀ x, r.own x → ¬ G x) : RfP w' B r all :=
  ⟨h.blk.mod hm (hG _ (.inl rfl)), h.base, own_mod h.row hm (fun k _ _ hk => hG k (.inr hk))⟩
theorem RfP.lt {w : World} {B : Nat} {r : RfM} {all : List EntD} (h : RfP w B r all) {x : Nat} (hx : r.own x) : B ≤ x ∧ x < w.heap.size := by
  rcases hx with rfl | hx
  · exact ⟨h.base, h.blk.lt⟩
  · have := own_cellsV h.row hx
    exact ⟨this.1, this.2.1⟩
theorem RfP.ne {w : World} {B : Nat} {r : RfM} {all : List EntD} (h : RfP w B r all) : r.rv.ownBlock ≠ some r.b := fun e => by
  obtain ⟨_, _, cur, hc⟩ := own_cellsV h.row e
  have := h.blk
  unfold Blk at this
  rw [hc] at this
  simp at this
theorem RfP.sl {w : World} {B : Nat} {r : RfM} {all : List EntD} (h : RfP w B r all) : ∃ a cap, r.rv = .slice a all.length cap ∧ all.length ≤ cap ∧ cap ≤ maxLen := by
  rcases h.row.2 with ⟨e, h0⟩ | ⟨g, cap, cur, e, _, _, h1, h2, _⟩
  · exact ⟨none, 0, by rw [e, h0], by omega, Nat.zero_le _⟩
  · exact ⟨_, cap, e, h1, h2⟩
theorem RfP.at {w : World} {B : Nat} {r : RfM} {all : List EntD} (h : RfP w B r all) {i : Nat} {e : EntD} (hi : all[i]? = some e) : ∃ g cap, r.rv = .slice (some ⟨g, 0, none⟩) all.length cap ∧ w.cell? ⟨g, i * 4, none⟩ = some (.string e.key) ∧ w.cell? ⟨g, i * 4 + 1, none⟩ = some (.string e.value) ∧ w.cell? ⟨g, i * 4 + 2, none⟩ = some (.bool e.gone) ∧ w.cell? ⟨g, i * 4 + 3, none⟩ = some (.int .i64 e.time) := by
  have hr := h.row
  rcases hr.2 with ⟨e1, h0⟩ | ⟨g, cap, cur, e1, _⟩
  · have := (List.getElem?_eq_some_iff.1 hi).1; omega
  · rw [e1] at hr
    have key : ∀ j x, (entC e)[j]? = some x → w.cell? ⟨g, i * 4 + j, none⟩ = some x := fun j x hx => by
      have := hr.cells (g := g) rfl _ _ (entsC_cell all i e hi j x hx)
      rw [Go.WideShapes.add_plain, Nat.zero_add] at this
      exact this
    exact ⟨g, cap, e1, key 0 _ rfl, key 1 _ rfl, key 2 _ rfl, key 3 _ rfl⟩
theorem Tryd.infoE : (Tryd.prog.info? 172).map (fun i => (i.zero, i.size, i.bytes)) = some (some (.agg #[.string ByteArray.empty, .string ByteArray.empty, .bool false, .int .i64 0]), 4, 48) := by kernel_rfl
theorem exec_appendM {P : Program} {w w' : World} {o : Oper} {a : Act} {s x : Operand} {t : TypeId} {vs vx v : Value} (ho : o.op = .call { callee := .builtin .append, args := #[s, x], argTypes := #[t, t] }) (hs : a.eval s = vs) (hx : a.eval x = vx)
    (hr : (Builtin.append_ #[t, t] o.type #[vs, vx]).run P w = .ok v w') : (execOp a.eval o).run P w = .ok (.value v) w' := by
  simp only [execOp, ho, resolve, invoke, builtin, Sem.run_bind, Sem.run_pure, Result.andThen_ok, List.map_toArray, List.map_cons, List.map_nil, hs, hx, hr]
theorem toList_inj {a b : ByteArray} (h : a.toList = b.toList) : a = b := by
  have e : ∀ x : ByteArray, x.toList = x.data.toList := ByteArray.toList_eq
  rw [e, e] at h
  exact bytes_inj h
theorem key_ne {a b : ByteArray} (h : a ≠ b) : (a.toList == b.toList) = false := by rw [beq_eq_false_iff_ne]; exact fun e => h (toList_inj e)
/-- What Put tells. -/
def PutNo (t : Int) (key value : ByteArray) (low : Int) (twice : Prop) (c : Int) : Prop :=
  ((t < 0 ∨ 1099511627776 < t) ∧ c = 2) ∨ (0 ≤ t ∧ t ≤ 1099511627776 ∧ ¬ (key.size ≤ 20 ∧ value.size ≤ 40) ∧ c = 4) ∨ (0 ≤ t ∧ t ≤ 1099511627776 ∧ key.size ≤ 20 ∧ value.size ≤ 40 ∧ t < low ∧ c = 8) ∨ (0 ≤ t ∧ t ≤ 1099511627776 ∧ key.size ≤ 20 ∧ value.size ≤ 40 ∧ low ≤ t ∧ twice ∧ c = 9)
set_option maxRecDepth 100000 in
set_option maxHeartbeats 8000000 in
theorem rput_loop (r : RfM) (B : Nat) (all : List EntD) (t : Int) (key value : ByteArray) (gone : Bool) (w : World) (h : RfP w B r all) (hB : B ≤ w.heap.size) (hr1 : 0 ≤ t) (hr2 : t ≤ 1099511627776) (hk : key.size ≤ 20) (hv : value.size ≤ 40) (hlow : r.low ≤ t) (hl : all.length ≤ 800) :
    Calls Tryd.prog 44 #[.pointer (some ⟨r.b, 0, none⟩), .int .i64 t, .agg #[.string key, .string value, .bool gone]] w fun e w' =>
      ((∃ x ∈ all, x.key = key ∧ x.time = t) ∧ e = .returned (.int .i64 9) ∧ Mod noBlock w w') ∨
      ((∀ x ∈ all, x.key = key → x.time ≠ t) ∧ e = .returned (.int .i64 0) ∧ ∃ r', RfP w' B r' (all ++ [⟨key, value, gone, t⟩]) ∧ r'.b = r.b ∧ r'.low = r.low ∧ Mod r.own w w' ∧ ∀ x, r'.own x → r.own x ∨ w.heap.size ≤ x) := by
  obtain ⟨i0, yi, yz0, yz1, yz2⟩ := info_parts Tryd.infoE
  obtain ⟨w1, hw1⟩ : ∃ x, x = w.alloc (.cells #[.string key, .string value, .bool gone] 84) := ⟨_, rfl⟩
  have hM1 : Mod noBlock w w1 := by rw [hw1]; exact (Mod.refl _ w).alloc _
  obtain ⟨pb, hpb⟩ : ∃ x, x = w.heap.size := ⟨_, rfl⟩
  have hP1 : Blk w1 pb [.string key, .string value, .bool gone] 84 := by rw [hw1, hpb]; exact Blk.new w [.string key, .string value, .bool gone] 84
  have h1 := h.mod hM1 (fun _ _ => id)
  have HH := Hid.mk'' h1
  have HM1 := Hid.mk'' hM1
  have HP1 := Hid.mk'' hP1
  have HPB := Hid.mk'' hpb
  obtain ⟨ra, rcap, hrv, hrc1, hrc2⟩ := h1.sl
  have c0 := h1.blk.cell 0 rfl
  have c1 := h1.blk.cell 1 rfl
  have z0 := h1.blk.lt
  have p0 := hP1.cell 0 rfl
  have p1 := hP1.cell 1 rfl
  have zp := hP1.lt
  rw [hrv] at c0
  have HRV := Hid.mk'' hrv
  unfold maxLen at hrc2
  have d1 : decide (t < 0) = false := decide_eq_false (by omega)
  have d2 : decide (t > 1099511627776) = false := decide_eq_false (by omega)
  have d3 : decide ((key.size : Int) > 20) = false := decide_eq_false (by omega)
  have d4 : decide ((value.size : Int) > 40) = false := decide_eq_false (by omega)
  have d5 : decide (t < r.low) = false := decide_eq_false (by omega)
  clear h h1 hM1 hP1 hrv
  go_enter Tryd.func44, Tryd.ntmps44
  go_upto_region 1 with fail
  rw [← hpb, ← hw1]
  clear hw1 hpb
  go_wp2_with fail
  go_loopw [39] (fun i0 wr => ∃ i : Nat, i ≤ all.length ∧ i0 = .int .i64 i ∧ (∀ (j : Nat) x, j < i → all[j]? = some x → x.key = key → x.time ≠ t) ∧ Mod noBlock w1 wr) (fun i0 _ => all.length - (intOf i0).toNat)
  case atStart => exact ⟨0, Nat.zero_le _, rfl, fun j x h => by omega, Mod.refl _ _⟩
  case round =>
    obtain ⟨i, hi, rfl, hno, hM⟩ := hrel
    have HNO := Hid.mk'' hno
    have HM := Hid.mk'' hM
    clear hno
    by_cases hlt : i < all.length
    · have hltI : (i : Int) < (all.length : Int) := by omega
      have hlt0 : (0 : Int) ≤ (i : Int) := by omega
      obtain ⟨x, hx⟩ : ∃ x, all[i]? = some x := ⟨_, List.getElem?_eq_getElem hlt⟩
      obtain ⟨g, cap', hrv', q0, q1, q2, q3⟩ := (HH.out.mod hM (fun _ _ => id)).at hx
      have hrv'' := hrv'
      rw [HRV.out] at hrv''
      simp only [Value.slice.injEq] at hrv''
      obtain ⟨rfl, _, rfl⟩ := hrv''
      have p0' := hM.cell p0 id
      have zg := World.block_lt_of_cell? _ _ q0
      have zp' := Nat.lt_of_lt_of_le zp hM.size
      have HX := Hid.mk'' hx
      clear hM hx hrv'
      obtain ⟨xk, xv, xg, xt⟩ := x
      dsimp only at q0 q1 q2 q3
      by_cases hk2 : xk = key
      · subst hk2
        by_cases ht2 : xt = t
        · subst ht2
          have HM2 : Hid (Mod noBlock w (wr.alloc (.cells #[.string xk, .string xv, .bool xg, .int .i64 xt] 172))) := HM1.out.trans (HM.out.alloc _)
          have HEX : Hid (∃ x ∈ all, x.key = xk ∧ x.time = xt) := ⟨_, List.mem_of_getElem? HX.out, rfl, rfl⟩
          go_wp2_with fail
          go_ret
          exact .inl ⟨HEX.out, rfl, HM2.out⟩
        · have hte : (xt == t) = false := by simpa using ht2
          go_wp2_with fail
          refine ⟨⟨i + 1, by omega, by go_num, fun j x hj hx hxk => ?_, HM.out.alloc _⟩, by simp [intOf]; omega⟩
          by_cases e : j = i
          · subst e
            have := HX.out
            rw [this] at hx
            cases hx
            exact ht2
          · exact HNO.out j x (by omega) hx hxk
      · have hke := key_ne hk2
        go_wp2_with fail
        refine ⟨⟨i + 1, by omega, by go_num, fun j x hj hx hxk => ?_, HM.out.alloc _⟩, by simp [intOf]; omega⟩
        by_cases e : j = i
        · subst e
          have := HX.out
          rw [this] at hx
          cases hx
          exact absurd hxk hk2
        · exact HNO.out j x (by omega) hx hxk
    · have HALL : Hid (∀ x ∈ all, x.key = key → x.time ≠ t) := fun x hx hxk => by
        obtain ⟨j, hj, e⟩ := List.getElem_of_mem hx
        exact HNO.out j x (by omega) (by rw [List.getElem?_eq_getElem hj, e]) hxk
      have hRk := HH.out.mod hM (fun _ _ => id)
      have hPk := HP1.out.mod hM id
      have x0 := hRk.blk.cell 0 rfl
      rw [HRV.out] at x0
      have xf := hRk.blk.frozen 0
      have xz := hRk.blk.lt
      have y0 := hPk.cell 0 rfl
      have y1 := hPk.cell 1 rfl
      have y2 := hPk.cell 2 rfl
      have yz := hPk.lt
      have HRK := Hid.mk'' hRk
      have HPK := Hid.mk'' hPk
      obtain ⟨wk, hwk⟩ : ∃ q, q = wr := ⟨_, rfl⟩
      subst hwk
      have hk63 : all.length + 1 ≤ maxLen := by unfold maxLen; omega
      have hk47 : (all.length + 1) * 48 ≤ 140737488355328 := by omega
      have hzk := hM.size
      have hrow := hRk.row
      rw [HRV.out] at hrow
      have HOE := Hid.mk'' (entC_one ⟨key, value, gone, t⟩)
      have HNB : Hid (¬ (Value.slice ra all.length rcap).ownBlock = some r.b) := fun e => HRK.out.ne (by rw [HRV.out]; exact e)
      have HNP : Hid (¬ (Value.slice ra all.length rcap).ownBlock = some pb) := fun e => by
        obtain ⟨_, _, cur, hc⟩ := own_cellsV hrow e
        have h2 := HPK.out
        unfold Blk at h2
        rw [hc] at h2
        simp at h2
      have hrow2 : ((wk.alloc (.cells #[.string key, .string value, .bool gone, .int .i64 t] 172)).drew).ownsRow B 172 4 (.slice ra all.length rcap) all.length (entsC all) := own_mod hrow (((Mod.refl noBlock wk).alloc _).drew) (fun _ _ _ _ => id)
      obtain ⟨v7, w7, hrun7, hown7, hgrow7, hnil7, hat7⟩ := run_append_own_at (P := Tryd.prog) _ B 95 95 172 i0 _ 4 48 Tryd.underlying95 yi yz0 yz1 yz2 rfl (by omega) _ _ _ hrow2 ⟨wk.heap.size, 0, none⟩ 1 1 [.string key, .string value, .bool gone, .int .i64 t] rfl (World.news_of_block (heap_alloc_new wk _)) HOE.out hk63 hk47 (by have := HM1.out.size; simp; omega)
      obtain ⟨a7, cap7, hv7⟩ := own_slice hown7
      subst hv7
      have hm67 : Mod (fun b => (Value.slice ra all.length rcap).ownBlock = some b) wk w7 := (((Mod.refl _ wk).alloc _).drew).grown hgrow7 (fun x hx _ => hx)
      have HC : Hid (wk.cell? ⟨r.b, 0, none⟩ = some (.slice ra all.length rcap) ∧ wk.cell? ⟨pb, 0, none⟩ = some (.string key) ∧ wk.cell? ⟨pb, 1, none⟩ = some (.string value) ∧ wk.cell? ⟨pb, 2, none⟩ = some (.bool gone)) := ⟨x0, y0, y1, y2⟩
      have HC1 : Hid ((wk.alloc (.cells #[.string key, .string value, .bool gone, .int .i64 t] 172)).drew.cell? ⟨r.b, 0, none⟩ = some (.slice ra all.length rcap) ∧ (wk.alloc (.cells #[.string key, .string value, .bool gone, .int .i64 t] 172)).drew.cell? ⟨pb, 0, none⟩ = some (.string key) ∧ (wk.alloc (.cells #[.string key, .string value, .bool gone, .int .i64 t] 172)).drew.cell? ⟨pb, 1, none⟩ = some (.string value) ∧ (wk.alloc (.cells #[.string key, .string value, .bool gone, .int .i64 t] 172)).drew.cell? ⟨pb, 2, none⟩ = some (.bool gone)) := by
        have hq : Mod noBlock wk (wk.alloc (.cells #[.string key, .string value, .bool gone, .int .i64 t] 172)).drew := ((Mod.refl _ wk).alloc _).drew
        exact ⟨hq.cell x0 id, hq.cell y0 id, hq.cell y1 id, hq.cell y2 id⟩
      have HC7 : Hid (w7.cell? ⟨r.b, 0, none⟩ = some (.slice ra all.length rcap) ∧ w7.cell? ⟨pb, 0, none⟩ = some (.string key) ∧ w7.cell? ⟨pb, 1, none⟩ = some (.string value) ∧ w7.cell? ⟨pb, 2, none⟩ = some (.bool gone)) := ⟨hm67.cell x0 HNB.out, hm67.cell y0 HNP.out, hm67.cell y1 HNP.out, hm67.cell y2 HNP.out⟩
      have f7 := (hm67.frozen (p := ⟨r.b, 0, none⟩) xz HNB.out).trans xf
      have c7 := HC7.out.1
      have z7 := Nat.lt_of_lt_of_le xz hm67.size
      go_upto_region 13 with fail
      refine wp_with fun fr hfr => ?_
      refine wp_withQ fun Q1 hQ1 => ?_
      have hpan : ∀ (d : Nat) (v : Value) (c : List PanicEntry) (a : Act) (w : World), Q1 (.panic c) (a.put (some d) v) w → Q1 (.panic c) a w := fun d v c a w h => by rw [hQ1] at h ⊢; exact h
      have HQ1 := Hid.mk'' hQ1
      clear hQ1
      have hsz : fr.tmps.size = 72 := by rw [hfr]; rfl
      obtain ⟨_, t0⟩ : ∃ h : 0 < fr.tmps.size, fr.tmps[0] = .pointer (some ⟨r.b, 0, none⟩) := Array.getElem?_eq_some_iff.1 (by rw [hfr]; rfl)
      obtain ⟨_, t1⟩ : ∃ h : 1 < fr.tmps.size, fr.tmps[1] = .int .i64 t := Array.getElem?_eq_some_iff.1 (by rw [hfr]; rfl)
      obtain ⟨_, t5⟩ : ∃ h : 5 < fr.tmps.size, fr.tmps[5] = .pointer (some ⟨pb, 0, none⟩) := Array.getElem?_eq_some_iff.1 (by rw [hfr]; rfl)
      have HFR := Hid.mk'' hfr
      clear hfr
      refine wp_region_C 17 (fun wq => wq.cell? ⟨r.b, 0, none⟩ = some (.slice ra all.length rcap) ∧ wq.cell? ⟨pb, 0, none⟩ = some (.string key) ∧ wq.cell? ⟨pb, 1, none⟩ = some (.string value) ∧ wq.cell? ⟨pb, 2, none⟩ = some (.bool gone)) rfl ?_
      refine wpAnyC_takeD 17 0 55 (.pointer (some ⟨r.b, 0, none⟩)) rfl rfl (by kernel_rfl) (by kernel_rfl) (by kernel_rfl) (by kernel_rfl) (fun c a w h => hpan _ _ c a w h) HC.out ⟨by rfl, fun wq hq => by obtain ⟨q0, q1, q2, q3⟩ := hq; go_simp⟩ ?_
      refine wpAnyC_takeD 17 1 56 (.pointer (some ⟨r.b, 0, none⟩)) rfl rfl (by kernel_rfl) (by kernel_rfl) (by kernel_rfl) (by kernel_rfl) (fun c a w h => hpan _ _ c a w h) HC.out ⟨by rfl, fun wq hq => by obtain ⟨q0, q1, q2, q3⟩ := hq; go_simp⟩ ?_
      refine wpAnyC_takeD 17 2 57 (.pointer (some ⟨r.b, 0, none⟩)) rfl rfl (by kernel_rfl) (by kernel_rfl) (by kernel_rfl) (by kernel_rfl) (fun c a w h => hpan _ _ c a w h) HC.out ⟨by rfl, fun wq hq => by obtain ⟨q0, q1, q2, q3⟩ := hq; go_simp⟩ ?_
      refine wpAnyC_takeD 17 3 58 (.pointer (some ⟨r.b, 0, none⟩)) rfl rfl (by kernel_rfl) (by kernel_rfl) (by kernel_rfl) (by kernel_rfl) (fun c a w h => hpan _ _ c a w h) HC.out ⟨by rfl, fun wq hq => by obtain ⟨q0, q1, q2, q3⟩ := hq; go_simp⟩ ?_
      refine wpAnyC_takeD 17 4 59 (.slice ra all.length rcap) rfl rfl (by kernel_rfl) (by kernel_rfl) (by kernel_rfl) (by kernel_rfl) (fun c a w h => hpan _ _ c a w h) HC.out ⟨by rfl, fun wq hq => by obtain ⟨q0, q1, q2, q3⟩ := hq; go_simp⟩ ?_
      refine wpAnyC_takeD 17 5 60 (.pointer (some ⟨pb, 0, none⟩)) rfl rfl (by kernel_rfl) (by kernel_rfl) (by kernel_rfl) (by kernel_rfl) (fun c a w h => hpan _ _ c a w h) HC.out ⟨by rfl, fun wq hq => by obtain ⟨q0, q1, q2, q3⟩ := hq; go_simp⟩ ?_
      refine wpAnyC_takeD 17 6 61 (.string key) rfl rfl (by kernel_rfl) (by kernel_rfl) (by kernel_rfl) (by kernel_rfl) (fun c a w h => hpan _ _ c a w h) HC.out ⟨by rfl, fun wq hq => by obtain ⟨q0, q1, q2, q3⟩ := hq; go_simp⟩ ?_
      refine wpAnyC_takeD 17 7 62 (.pointer (some ⟨pb, 1, none⟩)) rfl rfl (by kernel_rfl) (by kernel_rfl) (by kernel_rfl) (by kernel_rfl) (fun c a w h => hpan _ _ c a w h) HC.out ⟨by rfl, fun wq hq => by obtain ⟨q0, q1, q2, q3⟩ := hq; go_simp⟩ ?_
      refine wpAnyC_takeD 17 8 63 (.string value) rfl rfl (by kernel_rfl) (by kernel_rfl) (by kernel_rfl) (by kernel_rfl) (fun c a w h => hpan _ _ c a w h) HC.out ⟨by rfl, fun wq hq => by obtain ⟨q0, q1, q2, q3⟩ := hq; go_simp⟩ ?_
      refine wpAnyC_takeD 17 9 64 (.pointer (some ⟨pb, 2, none⟩)) rfl rfl (by kernel_rfl) (by kernel_rfl) (by kernel_rfl) (by kernel_rfl) (fun c a w h => hpan _ _ c a w h) HC.out ⟨by rfl, fun wq hq => by obtain ⟨q0, q1, q2, q3⟩ := hq; go_simp⟩ ?_
      refine wpAnyC_takeD 17 10 65 (.bool gone) rfl rfl (by kernel_rfl) (by kernel_rfl) (by kernel_rfl) (by kernel_rfl) (fun c a w h => hpan _ _ c a w h) HC.out ⟨by rfl, fun wq hq => by obtain ⟨q0, q1, q2, q3⟩ := hq; go_simp⟩ ?_
      refine wpAnyC_takeD 17 11 66 (.int .i64 t) rfl rfl (by kernel_rfl) (by kernel_rfl) (by kernel_rfl) (by kernel_rfl) (fun c a w h => hpan _ _ c a w h) HC.out ⟨by rfl, fun wq hq => by obtain ⟨q0, q1, q2, q3⟩ := hq; go_simp⟩ ?_
      refine wpAnyC_takeD 17 12 67 (.agg #[.string key, .string value, .bool gone, .int .i64 t]) rfl rfl (by kernel_rfl) (by kernel_rfl) (by kernel_rfl) (by kernel_rfl) (fun c a w h => hpan _ _ c a w h) HC.out ⟨by rfl, fun wq hq => by obtain ⟨q0, q1, q2, q3⟩ := hq; go_simp⟩ ?_
      refine wpAnyC_nextD 17 13 68 rfl rfl (by kernel_rfl) (by rfl) (v := .slice (some ⟨wk.heap.size, 0, none⟩) 1 1) (w' := (wk.alloc (.cells #[.string key, .string value, .bool gone, .int .i64 t] 172)).drew) (by go_simp) HC1.out ?_
      refine wpAnyC_nextD 17 14 69 rfl rfl (by kernel_rfl) (by rfl) (v := .slice a7 (all.length + 1) cap7) (w' := w7) (exec_appendM (s := .tmp 59) (x := .tmp 68) (t := 95) rfl (by go_simp) (by go_simp) hrun7) HC7.out ?_
      refine wpAnyC_nextD 17 15 70 rfl rfl (by kernel_rfl) (by rfl) (v := .pointer (some ⟨r.b, 0, none⟩)) (w' := w7) (by go_simp) HC7.out ?_
      refine wpAnyC_nextD 17 16 71 rfl rfl (by kernel_rfl) (by rfl) (v := .pointer (some ⟨r.b, 0, none⟩)) (w' := w7) (by go_simp) HC7.out ?_
      refine wpAnyC_last 17 rfl (by kernel_rfl) rfl (w' := w7.setCell ⟨r.b, 0, none⟩ (.slice a7 (all.length + 1) cap7)) (by go_simp) ?_
      refine ⟨by kernel_rfl, ?_⟩
      have hQ1 := HQ1.out
      subst hQ1
      have hfr := HFR.out
      subst hfr
      have hsb : Mod (oneBlock r.b) w7 (w7.setCell ⟨r.b, 0, none⟩ (.slice a7 (all.length + 1) cap7)) := Mod.setBlk _ _ _
      have hn7 : (Value.slice a7 (all.length + 1) cap7).ownBlock ≠ some r.b := fun e => by
        rcases hat7 with h | h
        · rw [h] at e; exact HNB.out e
        · rw [h] at e; simp at e; omega
      have HFIN : Hid (∃ r', RfP (w7.setCell ⟨r.b, 0, none⟩ (.slice a7 (all.length + 1) cap7)) B r' (all ++ [⟨key, value, gone, t⟩]) ∧ r'.b = r.b ∧ r'.low = r.low ∧ Mod r.own w (w7.setCell ⟨r.b, 0, none⟩ (.slice a7 (all.length + 1) cap7)) ∧ ∀ x, r'.own x → r.own x ∨ w.heap.size ≤ x) := by
        refine ⟨⟨r.b, .slice a7 (all.length + 1) cap7, r.low⟩, ⟨?_, HRK.out.base, ?_⟩, rfl, rfl, ?_, fun x hx => ?_⟩
        · exact (HRK.out.blk.mod hm67 HNB.out).set 0 _
        · rw [List.length_append, entsC_snoc]
          exact own_mod hown7 hsb (fun k _ _ hk e => by simp only [oneBlock] at e; exact hn7 (by rw [← e]; exact hk))
        · have h1 : Mod r.own w wk := (HM1.out.trans HM.out).mono (fun _ _ e => e.elim)
          have h2 : Mod r.own w w7 := h1.trans' hm67 (fun x _ e => .inr (by rw [HRV.out]; exact e))
          exact h2.trans' hsb (fun x _ e => .inl e)
        · rcases hx with hx | hx
          · exact .inl (.inl hx)
          · rcases hat7 with h | h
            · left; right; rw [HRV.out, ← h]; exact hx
            · right
              have : (Value.slice a7 (all.length + 1) cap7).ownBlock = some x := hx
              rw [h] at this
              simp at this
              have := HM1.out.size
              omega
      clear hrun7 hown7 hgrow7 hnil7 hat7 hm67 hrow2 hrow hsb hn7 x0 xf y0 y1 y2 f7 c7 HC HC1 HC7 hpan
      go_wp2_with fail
      go_ret
      exact .inr ⟨HALL.out, rfl, HFIN.out⟩
end Go.Proofs.YtefhgakcffhgaaaDoor
