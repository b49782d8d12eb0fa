/- The law MvPlays: the document's Get; Puts that are refused. -/
import Derived.Test.YtefhgakcffhgaaaDoorTb
namespace Go.Proofs.YtefhgakcffhgaaaDoor
open Go.RowKit Go.Lib Go.Maps
set_option linter.unusedVariables false

theorem rget_no (r : RfM) (B : Nat) (all : List EntD) (k : ByteArray) (t : Int) (w : World) (h : RfP w B r all) (ht : t < r.low) :
    Calls Tryd.prog 46 #[.pointer (some ⟨r.b, 0, none⟩), .string k, .int .i64 t] w fun e w' => e = .returned (.tuple #[.string ByteArray.empty, .bool false, .int .i64 8]) ∧ w' = w := by
  have c1 := h.blk.cell 1 rfl
  have z0 := h.blk.lt
  have hd0 : decide (t < r.low) = true := decide_eq_true ht
  clear h
  go_enter Tryd.func46, Tryd.ntmps46
  go_wp2_with fail
  go_ret3
  exact ⟨rfl, rfl⟩
/-- The best of those that were looked at. -/
def BestAt (all : List EntD) (k : ByteArray) (t : Int) (i : Nat) (v : Value) : Prop :=
  (v = .int .i64 (-1) ∧ ∀ (j : Nat) x, j < i → all[j]? = some x → x.key = k → ¬ x.time ≤ t) ∨
  ∃ (m : Nat) (e : EntD), m < i ∧ all[m]? = some e ∧ e.key = k ∧ e.time ≤ t ∧ v = .int .i64 m ∧ ∀ (j : Nat) x, j < i → all[j]? = some x → x.key = k → x.time ≤ t → x.time ≤ e.time
theorem BestAt.skip {all : List EntD} {k : ByteArray} {t : Int} {i : Nat} {v : Value} {x : EntD} (h : BestAt all k t i v) (hx : all[i]? = some x) (hn : ¬ (x.key = k ∧ x.time ≤ t)) : BestAt all k t (i + 1) v := by
  rcases h with ⟨h1, h2⟩ | ⟨m, e, h1, h2, h3, h4, h5, h6⟩
  · refine .inl ⟨h1, fun j y hj hy hk ht => ?_⟩
    by_cases e : j = i
    · subst e; rw [hx] at hy; cases hy; exact hn ⟨hk, ht⟩
    · exact h2 j y (by omega) hy hk ht
  · refine .inr ⟨m, e, by omega, h2, h3, h4, h5, fun j y hj hy hk ht => ?_⟩
    by_cases q : j = i
    · subst q; rw [hx] at hy; cases hy; exact absurd ⟨hk, ht⟩ hn
    · exact h6 j y (by omega) hy hk ht
theorem BestAt.take {all : List EntD} {k : ByteArray} {t : Int} {i : Nat} {v : Value} {x : EntD} (h : BestAt all k t i v) (hx : all[i]? = some x) (hk : x.key = k) (ht : x.time ≤ t) (hn : v = .int .i64 (-1) ∨ ∃ (m : Nat) (e : EntD), v = .int .i64 m ∧ all[m]? = some e ∧ e.time < x.time) : BestAt all k t (i + 1) (.int .i64 i) := by
  refine .inr ⟨i, x, by omega, hx, hk, ht, rfl, fun j y hj hy hyk hyt => ?_⟩
  by_cases q : j = i
  · subst q; rw [hx] at hy; cases hy; omega
  · rcases h with ⟨h1, h2⟩ | ⟨m, e, h1, h2, h3, h4, h5, h6⟩
    · exact absurd hyt (h2 j y (by omega) hy hyk)
    · rcases hn with hn | ⟨m', e', hn, he', hlt⟩
      · rw [h5] at hn; simp at hn
      · rw [h5] at hn
        simp at hn
        have : m = m' := by omega
        subst this
        rw [h2] at he'
        cases he'
        have := h6 j y (by omega) hy hyk hyt
        omega
theorem BestAt.stay {all : List EntD} {k : ByteArray} {t : Int} {i m : Nat} {x e : EntD} (h : BestAt all k t i (.int .i64 m)) (hx : all[i]? = some x) (he : all[m]? = some e) (hle : x.time ≤ e.time) : BestAt all k t (i + 1) (.int .i64 m) := by
  rcases h with ⟨h1, h2⟩ | ⟨m', e', h1, h2, h3, h4, h5, h6⟩
  · simp at h1
  · simp at h5
    have : m = m' := by omega
    subst this
    rw [he] at h2
    cases h2
    refine .inr ⟨m, e, by omega, he, h3, h4, rfl, fun j y hj hy hk ht => ?_⟩
    by_cases q : j = i
    · subst q; rw [hx] at hy; cases hy; exact hle
    · exact h6 j y (by omega) hy hk ht
set_option maxRecDepth 100000 in
set_option maxHeartbeats 16000000 in
theorem rget_yes (r : RfM) (B : Nat) (all : List EntD) (s : Vers) (k : ByteArray) (t : Int) (w : World) (h : RfP w B r all) (hrel : Rel s all) (ht : r.low ≤ t) (hl : all.length ≤ 800) :
    Calls Tryd.prog 46 #[.pointer (some ⟨r.b, 0, none⟩), .string k, .int .i64 t] w fun e w' => e = .returned (.tuple #[.string ((toldO (s k) t).getD ByteArray.empty), .bool (toldO (s k) t).isSome, .int .i64 0]) ∧ Mod noBlock w w' := by
  have HH := Hid.mk'' h
  have HREL := Hid.mk'' hrel
  obtain ⟨ra, rcap, hrv, hrc1, hrc2⟩ := h.sl
  have c0 := h.blk.cell 0 rfl
  have c1 := h.blk.cell 1 rfl
  have z0 := h.blk.lt
  rw [hrv] at c0
  have HRV := Hid.mk'' hrv
  unfold maxLen at hrc2
  have d5 : decide (t < r.low) = false := decide_eq_false (by omega)
  clear h hrv hrel
  go_enter Tryd.func46, Tryd.ntmps46
  go_wp2_with fail
  go_loopw [9, 23] (fun v i0 wr => ∃ i : Nat, i ≤ all.length ∧ i0 = .int .i64 i ∧ BestAt all k t i v ∧ Mod noBlock w wr) (fun _ i0 _ => all.length - (intOf i0).toNat)
  case atStart => exact ⟨0, Nat.zero_le _, rfl, .inl ⟨rfl, fun j x h => by omega⟩, Mod.refl _ _⟩
  case round =>
    rename_i v9 _ wr
    obtain ⟨i, hi, rfl, hB, hM⟩ := hrel
    have HM := Hid.mk'' hM
    have HB := Hid.mk'' hB
    by_cases hlt : i < all.length
    · have hltI : (i : Int) < (all.length : Int) := by omega
      have hlt0 : (0 : Int) ≤ (i : Int) := by omega
      obtain ⟨x, hx⟩ : ∃ x, all[i]? = some x := ⟨_, List.getElem?_eq_getElem hlt⟩
      have hRk := HH.out.mod hM (fun _ _ => id)
      obtain ⟨g, cap', hrv', q0, q1, q2, q3⟩ := hRk.at hx
      have hrv'' := hrv'
      rw [HRV.out] at hrv''
      simp only [Value.slice.injEq] at hrv''
      obtain ⟨rfl, _, rfl⟩ := hrv''
      have c0' := hM.cell c0 id
      have zg := World.block_lt_of_cell? _ _ q0
      have z0' := Nat.lt_of_lt_of_le z0 hM.size
      have HX := Hid.mk'' hx
      have HRK := Hid.mk'' hRk
      obtain ⟨xk, xv, xg, xt⟩ := x
      dsimp only at q0 q1 q2 q3
      clear hM hx hrv' hRk
      by_cases hk2 : xk = k
      · subst hk2
        by_cases ht2 : xt ≤ t
        · have htd : decide (xt ≤ t) = true := decide_eq_true ht2
          rcases hB with ⟨rfl, _⟩ | ⟨m, e, hm, he, hek, het, rfl, _⟩
          · have HBN := Hid.mk'' (HB.out.take HX.out rfl ht2 (.inl rfl))
            go_upto_region 7 with fail
            go_region
            all_goals
              go_wp2_with fail
              exact ⟨⟨i + 1, by omega, by go_num, HBN.out, (HM.out.alloc _).drew⟩, by simp [intOf]; omega⟩
          · obtain ⟨g2, cap2, hrv2, r0, r1, r2, r3⟩ := HRK.out.at he
            rw [HRV.out] at hrv2
            simp only [Value.slice.injEq, Option.some.injEq, Addr.mk.injEq] at hrv2
            obtain ⟨⟨rfl, _⟩, _⟩ := hrv2
            have hml : m < all.length := (List.getElem?_eq_some_iff.1 he).1
            have hmI : (m : Int) < (all.length : Int) := by omega
            have hm0 : (0 : Int) ≤ (m : Int) := by omega
            have hmd : decide ((m : Int) < 0) = false := decide_eq_false (by omega)
            by_cases hgt : e.time < xt
            · have hgd : decide (xt > e.time) = true := decide_eq_true hgt
              have HBN := Hid.mk'' (HB.out.take HX.out rfl ht2 (.inr ⟨m, e, rfl, he, hgt⟩))
              go_upto_region 7 with fail
              go_region
              all_goals
                go_wp2_with fail
                exact ⟨⟨i + 1, by omega, by go_num, HBN.out, (HM.out.alloc _).drew⟩, by simp [intOf]; omega⟩
            · have hgd : decide (xt > e.time) = false := decide_eq_false hgt
              have HBN := Hid.mk'' (HB.out.stay HX.out he (by show xt ≤ e.time; omega))
              go_upto_region 7 with fail
              go_region
              all_goals
                go_wp2_with fail
                exact ⟨⟨i + 1, by omega, by go_num, HBN.out, (HM.out.alloc _).drew⟩, by simp [intOf]; omega⟩
        · have htd : decide (xt ≤ t) = false := decide_eq_false ht2
          have HBN := Hid.mk'' (HB.out.skip HX.out (fun q => ht2 q.2))
          go_upto_region 7 with fail
          go_region
          all_goals
            go_wp2_with fail
            exact ⟨⟨i + 1, by omega, by go_num, HBN.out, (HM.out.alloc _).drew⟩, by simp [intOf]; omega⟩
      · have hke := key_ne hk2
        have HBN := Hid.mk'' (HB.out.skip HX.out (fun q => hk2 q.1))
        go_upto_region 7 with fail
        go_region
        all_goals
          go_wp2_with fail
          exact ⟨⟨i + 1, by omega, by go_num, HBN.out, (HM.out.alloc _).drew⟩, by simp [intOf]; omega⟩
    · have hRk := HH.out.mod hM (fun _ _ => id)
      have c0' := hM.cell c0 id
      have z0' := Nat.lt_of_lt_of_le z0 hM.size
      have hin : ∀ y ∈ all, ∃ j, j < i ∧ all[j]? = some y := fun y hy => by
        obtain ⟨j, hj, e⟩ := List.getElem_of_mem hy
        exact ⟨j, by omega, by rw [List.getElem?_eq_getElem hj, e]⟩
      rcases hB with ⟨rfl, hno⟩ | ⟨m, e, hm, he, hek, het, rfl, hbest⟩
      · have HT : Hid (toldO (s k) t = none) := HREL.out.none (fun y hy hyk => by
          obtain ⟨j, hj, e⟩ := hin y hy
          exact hno j y hj e hyk)
        clear hno hin hRk
        go_wp2_with fail
        go_ret3
        exact ⟨by rw [HT.out]; rfl, HM.out⟩
      · have HT : Hid (toldO (s k) t = if e.gone then none else some e.value) := HREL.out.best ⟨List.mem_of_getElem? he, hek, het, fun y hy hyk hyt => by
          obtain ⟨j, hj, e⟩ := hin y hy
          exact hbest j y hj e hyk hyt⟩
        obtain ⟨g2, cap2, hrv2, r0, r1, r2, r3⟩ := hRk.at he
        rw [HRV.out] at hrv2
        simp only [Value.slice.injEq] at hrv2
        obtain ⟨rfl, _, rfl⟩ := hrv2
        have hml : m < all.length := (List.getElem?_eq_some_iff.1 he).1
        have hmI : (m : Int) < (all.length : Int) := by omega
        have hm0 : (0 : Int) ≤ (m : Int) := by omega
        have hmd : decide ((m : Int) < 0) = false := decide_eq_false (by omega)
        have zg := World.block_lt_of_cell? _ _ r0
        clear hbest hin hRk he
        obtain ⟨ek, ev, eg, et⟩ := e
        dsimp only at r0 r1 r2 r3 HT
        cases eg with
        | true =>
          go_wp2_with fail
          go_ret3
          exact ⟨by rw [HT.out]; rfl, HM.out⟩
        | false =>
          go_wp2_with fail
          go_ret3
          exact ⟨by rw [HT.out]; rfl, HM.out⟩
set_option maxRecDepth 100000 in
set_option maxHeartbeats 4000000 in
theorem rput_no (r : RfM) (B : Nat) (all : List EntD) (t : Int) (key value : ByteArray) (gone : Bool) (w : World) (h : RfP w B r all) (c : Int)
    (hc : ((t < 0 ∨ 1099511627776 < t) ∧ c = 2) ∨ (0 ≤ t ∧ t ≤ 1099511627776 ∧ ¬ (key.size ≤ 20 ∧ value.size ≤ 40) ∧ c = 4) ∨ (0 ≤ t ∧ t ≤ 1099511627776 ∧ key.size ≤ 20 ∧ value.size ≤ 40 ∧ t < r.low ∧ c = 8)) :
    Calls Tryd.prog 44 #[.pointer (some ⟨r.b, 0, none⟩), .int .i64 t, .agg #[.string key, .string value, .bool gone]] w fun e w' => e = .returned (.int .i64 c) ∧ Mod noBlock w w' := by
  have HM : Hid (Mod noBlock w (w.alloc (.cells #[.string key, .string value, .bool gone] 84))) := (Mod.refl _ w).alloc _
  have c1 := (h.mod HM.out (fun _ _ => id)).blk.cell 1 rfl
  have z0 := (h.mod HM.out (fun _ _ => id)).blk.lt
  have z1 := h.blk.lt
  have c1' := h.blk.cell 1 rfl
  clear h
  rcases hc with ⟨hr, rfl⟩ | ⟨hr1, hr2, hs, rfl⟩ | ⟨hr1, hr2, hs1, hs2, hlo, rfl⟩
  · by_cases h0 : t < 0
    · have d1 : decide (t < 0) = true := decide_eq_true h0
      go_enter Tryd.func44, Tryd.ntmps44
      go_wp2_with fail
      go_ret
      exact ⟨rfl, HM.out⟩
    · have d1 : decide (t < 0) = false := decide_eq_false h0
      have d2 : decide (t > 1099511627776) = true := decide_eq_true (by omega)
      go_enter Tryd.func44, Tryd.ntmps44
      go_wp2_with fail
      go_ret
      exact ⟨rfl, HM.out⟩
  · have d1 : decide (t < 0) = false := decide_eq_false (by omega)
    have d2 : decide (t > 1099511627776) = false := decide_eq_false (by omega)
    by_cases h3 : key.size ≤ 20
    · have d3 : decide ((key.size : Int) > 20) = false := decide_eq_false (by omega)
      have d4 : decide ((value.size : Int) > 40) = true := decide_eq_true (by omega)
      go_enter Tryd.func44, Tryd.ntmps44
      go_wp2_with fail
      go_ret
      exact ⟨rfl, HM.out⟩
    · have d3 : decide ((key.size : Int) > 20) = true := decide_eq_true (by omega)
      go_enter Tryd.func44, Tryd.ntmps44
      go_wp2_with fail
      go_ret
      exact ⟨rfl, HM.out⟩
  · have d1 : decide (t < 0) = false := decide_eq_false (by omega)
    have d2 : decide (t > 1099511627776) = false := decide_eq_false (by omega)
    have d3 : decide ((key.size : Int) > 20) = false := decide_eq_false (by omega)
    have d4 : decide ((value.size : Int) > 40) = false := decide_eq_false (by omega)
    have d5 : decide (t < r.low) = true := decide_eq_true hlo
    go_enter Tryd.func44, Tryd.ntmps44
    go_wp2_with fail
    go_ret
    exact ⟨rfl, HM.out⟩
end Go.Proofs.YtefhgakcffhgaaaDoor
