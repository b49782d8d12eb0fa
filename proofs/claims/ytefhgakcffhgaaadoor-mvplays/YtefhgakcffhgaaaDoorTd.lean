/- The law MvPlays: the document's Trim. -/
import Derived.Test.YtefhgakcffhgaaaDoorTc
namespace Go.Proofs.YtefhgakcffhgaaaDoor
open Go.RowKit Go.Lib Go.Maps
set_option linter.unusedVariables false

def FollowsTo (all : List EntD) (lo : Int) (e : EntD) (j : Nat) : Prop := ∃ (m : Nat) (x : EntD), m < j ∧ all[m]? = some x ∧ x.key = e.key ∧ e.time < x.time ∧ x.time ≤ lo
theorem followsTo_all {all : List EntD} {lo : Int} {e : EntD} : FollowsTo all lo e all.length ↔ Follows all lo e := by
  constructor
  · rintro ⟨m, x, _, h2, h3⟩; exact ⟨x, List.mem_of_getElem? h2, h3⟩
  · rintro ⟨x, h2, h3⟩
    obtain ⟨m, hm, q⟩ := List.getElem_of_mem h2
    exact ⟨m, x, hm, by rw [List.getElem?_eq_getElem hm, q], h3⟩
theorem followsTo_more {all : List EntD} {lo : Int} {e x : EntD} {j : Nat} {f : Bool} (h : f = true ↔ FollowsTo all lo e j) (hx : all[j]? = some x) : (f || (decide (x.key = e.key) && (decide (e.time < x.time) && decide (x.time ≤ lo)))) = true ↔ FollowsTo all lo e (j + 1) := by
  simp only [Bool.or_eq_true, Bool.and_eq_true, decide_eq_true_iff]
  rw [h]
  constructor
  · rintro (⟨m, y, h1, h2⟩ | h2)
    · exact ⟨m, y, by omega, h2⟩
    · exact ⟨j, x, by omega, hx, h2⟩
  · rintro ⟨m, y, h1, h2, h3⟩
    by_cases q : m = j
    · subst q; rw [hx] at h2; cases h2; exact .inr h3
    · exact .inl ⟨m, y, by omega, h2, h3⟩
/-- What is left of the first ones. -/
structure TrimI (all left : List EntD) (lo : Int) (i : Nat) : Prop where
  sub : left.Sublist (all.take i)
  mem : ∀ e, e ∈ left ↔ e ∈ all.take i ∧ ¬ Follows all lo e ∧ ¬ (e.gone = true ∧ e.time ≤ lo)
theorem TrimI.nil (all : List EntD) (lo : Int) : TrimI all [] lo 0 := ⟨by simp, fun e => by simp⟩
theorem TrimI.keep {all left : List EntD} {lo : Int} {i : Nat} {x : EntD} (h : TrimI all left lo i) (hx : all[i]? = some x) (h1 : ¬ Follows all lo x) (h2 : ¬ (x.gone = true ∧ x.time ≤ lo)) : TrimI all (left ++ [x]) lo (i + 1) := by
  have e : all.take (i + 1) = all.take i ++ [x] := by
    obtain ⟨hk, q⟩ := List.getElem?_eq_some_iff.1 hx
    rw [List.take_succ_eq_append_getElem hk, q]
  refine ⟨by rw [e]; exact h.sub.append (List.Sublist.refl _), fun y => ?_⟩
  rw [e, List.mem_append, List.mem_append, h.mem, List.mem_singleton]
  constructor
  · rintro (⟨a, b⟩ | rfl)
    · exact ⟨.inl a, b⟩
    · exact ⟨.inr rfl, h1, h2⟩
  · rintro ⟨a | rfl, b⟩
    · exact .inl ⟨a, b⟩
    · exact .inr rfl
theorem TrimI.drop {all left : List EntD} {lo : Int} {i : Nat} {x : EntD} (h : TrimI all left lo i) (hx : all[i]? = some x) (h1 : Follows all lo x ∨ (x.gone = true ∧ x.time ≤ lo)) : TrimI all left lo (i + 1) := by
  have e : all.take (i + 1) = all.take i ++ [x] := by
    obtain ⟨hk, q⟩ := List.getElem?_eq_some_iff.1 hx
    rw [List.take_succ_eq_append_getElem hk, q]
  refine ⟨by rw [e]; exact h.sub.trans (List.sublist_append_left _ _), fun y => ?_⟩
  rw [e, List.mem_append, h.mem, List.mem_singleton]
  constructor
  · rintro ⟨a, b⟩; exact ⟨.inl a, b⟩
  · rintro ⟨a | rfl, b, c⟩
    · exact ⟨a, b, c⟩
    · rcases h1 with h1 | h1
      · exact absurd h1 b
      · exact absurd h1 c
theorem TrimI.all {all left : List EntD} {lo : Int} (h : TrimI all left lo all.length) : TrimE all left lo := by
  obtain ⟨h1, h2⟩ := h
  rw [List.take_of_length_le (Nat.le_refl _)] at h1 h2
  exact ⟨h1, h2⟩
theorem rtrim_order (r : RfM) (B : Nat) (all : List EntD) (lo : Int) (w : World) (h : RfP w B r all) (ht : lo < r.low) :
    Calls Tryd.prog 45 #[.pointer (some ⟨r.b, 0, none⟩), .int .i64 lo] w fun e w' => e = .returned (.int .i64 10) ∧ w' = w := by
  have c1 := h.blk.cell 1 rfl
  have z0 := h.blk.lt
  have hd0 : decide (lo < r.low) = true := decide_eq_true ht
  clear h
  go_enter Tryd.func45, Tryd.ntmps45
  go_wp2_with fail
  go_ret
  exact ⟨rfl, rfl⟩
theorem rtrim_range (r : RfM) (B : Nat) (all : List EntD) (lo : Int) (w : World) (h : RfP w B r all) (ht : r.low ≤ lo) (hr : 1099511627776 < lo) :
    Calls Tryd.prog 45 #[.pointer (some ⟨r.b, 0, none⟩), .int .i64 lo] w fun e w' => e = .returned (.int .i64 2) ∧ w' = w := by
  have c1 := h.blk.cell 1 rfl
  have z0 := h.blk.lt
  have hd0 : decide (lo < r.low) = false := decide_eq_false (by omega)
  have hd1 : decide (lo > 1099511627776) = true := decide_eq_true hr
  clear h
  go_enter Tryd.func45, Tryd.ntmps45
  go_wp2_with fail
  go_ret
  exact ⟨rfl, rfl⟩
set_option maxRecDepth 100000 in
set_option maxHeartbeats 16000000 in
theorem rtrim_yes (r : RfM) (B : Nat) (all : List EntD) (lo : Int) (w : World) (h : RfP w B r all) (hB : B ≤ w.heap.size) (ht : r.low ≤ lo) (hr : lo ≤ 1099511627776) (hl : all.length ≤ 800) :
    Calls Tryd.prog 45 #[.pointer (some ⟨r.b, 0, none⟩), .int .i64 lo] w fun e w' => e = .returned (.int .i64 0) ∧ ∃ r' left, TrimE all left lo ∧ RfP w' B r' left ∧ r'.b = r.b ∧ r'.low = lo ∧ Mod r.own w w' ∧ ∀ x, r'.own x → r.own x ∨ w.heap.size ≤ x := by
  obtain ⟨i0, yi, yz0, yz1, yz2⟩ := info_parts Tryd.infoE
  have c0 := h.blk.cell 0 rfl
  have c1 := h.blk.cell 1 rfl
  have f1 := h.blk.frozen 1
  have z0 := h.blk.lt
  have HH := Hid.mk'' h
  obtain ⟨w1, hw1⟩ : ∃ x, x = w.setCell ⟨r.b, 1, none⟩ (.int .i64 lo) := ⟨_, rfl⟩
  have hM1 : Mod (oneBlock r.b) w w1 := by rw [hw1]; exact Mod.setBlk _ _ _
  have hz1 : w1.heap.size = w.heap.size := by rw [hw1]; simp
  have hR1 : RfP w1 B ⟨r.b, r.rv, lo⟩ all := by
    refine ⟨by rw [hw1]; exact h.blk.set 1 _, h.base, own_mod h.row hM1 (fun k _ _ hk e => ?_)⟩
    simp only [oneBlock] at e
    exact h.ne (by rw [← e]; exact hk)
  obtain ⟨ra, rcap, hrv, hrc1, hrc2⟩ := h.sl
  rw [hrv] at c0
  have HRV := Hid.mk'' hrv
  have d0 := hR1.blk.cell 0 rfl
  dsimp only at d0
  rw [hrv] at d0
  have z1 := hR1.blk.lt
  dsimp only at z1
  have HR1 := Hid.mk'' hR1
  have HM1 := Hid.mk'' hM1
  have HZ1 := Hid.mk'' hz1
  unfold maxLen at hrc2
  have d5 : decide (lo < r.low) = false := decide_eq_false (by omega)
  have d6 : decide (lo > 1099511627776) = false := decide_eq_false (by omega)
  clear h hrv hR1 hM1 hz1
  go_enter Tryd.func45, Tryd.ntmps45
  go_upto_region 6 with fail
  rw [← hw1]
  clear hw1 c0 c1 f1 z0
  go_wp2_with fail
  go_loopw [5, 28] (fun v i0 wr => ∃ (i : Nat) (left : List EntD), i ≤ all.length ∧ i0 = .int .i64 i ∧ wr.ownsRow w1.heap.size 172 4 v left.length (entsC left) ∧ TrimI all left lo i ∧ Mod noBlock w1 wr) (fun _ i0 _ => all.length - (intOf i0).toNat)
  case atStart => exact ⟨0, [], Nat.zero_le _, rfl, World.ownsRow_nil _ _ _ _, TrimI.nil _ _, Mod.refl _ _⟩
  case round =>
    obtain ⟨i, left, hi, rfl, hrow, hT, hM⟩ := hrel
    obtain ⟨wk, hwk⟩ : ∃ q, q = wr := ⟨_, rfl⟩
    subst hwk
    have hll : left.length ≤ all.length := by have h1 := hT.sub.length_le; rw [List.length_take] at h1; omega
    obtain ⟨la, lcap, hlv⟩ := own_slice hrow
    subst hlv
    have HROW := Hid.mk'' hrow
    have HT := Hid.mk'' hT
    have HM := Hid.mk'' hM
    have e0 := hM.cell d0 id
    have ez := Nat.lt_of_lt_of_le z1 hM.size
    by_cases hlt : i < all.length
    · have hltI : (i : Int) < (all.length : Int) := by omega
      have hlt0 : (0 : Int) ≤ (i : Int) := by omega
      obtain ⟨x, hx⟩ : ∃ x, all[i]? = some x := ⟨_, List.getElem?_eq_getElem hlt⟩
      obtain ⟨g, cap', hrv', q0, q1, q2, q3⟩ := (HR1.out.mod hM (fun _ _ => id)).at hx
      dsimp only at hrv'
      rw [HRV.out] at hrv'
      simp only [Value.slice.injEq] at hrv'
      obtain ⟨rfl, _, rfl⟩ := hrv'
      have zg := World.block_lt_of_cell? _ _ q0
      have HX := Hid.mk'' hx
      obtain ⟨xk, xv, xg, xt⟩ := x
      dsimp only at q0 q1 q2 q3
      obtain ⟨wb, hwb⟩ : ∃ q, q = wk.alloc (.cells #[.string xk, .string xv, .bool xg, .int .i64 xt] 172) := ⟨_, rfl⟩
      obtain ⟨vb, hvb⟩ : ∃ q, q = wk.heap.size := ⟨_, rfl⟩
      have hBV : Blk wb vb [.string xk, .string xv, .bool xg, .int .i64 xt] 172 := by rw [hwb, hvb]; exact Blk.new wk [.string xk, .string xv, .bool xg, .int .i64 xt] 172
      have hmb : Mod noBlock wk wb := by rw [hwb]; exact (Mod.refl _ wk).alloc _
      have g0 := hmb.cell e0 id
      have gz := Nat.lt_of_lt_of_le ez hmb.size
      have HBV := Hid.mk'' hBV
      have HMB := Hid.mk'' hmb
      clear hrow hT hx hBV hmb
      go_upto_region 10 with fail
      rw [← hvb, ← hwb]
      clear hwb hvb q0 q1 q2 q3 e0 ez zg hM
      go_wp2_with fail
      go_loopw [8, 37] (fun f j0 wr => ∃ (j : Nat) (fb : Bool), j ≤ all.length ∧ j0 = .int .i64 j ∧ f = .bool fb ∧ (fb = true ↔ FollowsTo all lo ⟨xk, xv, xg, xt⟩ j) ∧ Mod noBlock wb wr) (fun _ j0 _ => all.length - (intOf j0).toNat)
      case atStart => exact ⟨0, false, Nat.zero_le _, rfl, rfl, ⟨fun h => (by cases h), fun ⟨m, _, h, _⟩ => by omega⟩, Mod.refl _ _⟩
      case round =>
        obtain ⟨j, fb, hj, rfl, rfl, hf, hMj⟩ := hrel
        have hBj := HBV.out.mod hMj id
        have b0 := hBj.cell 0 rfl
        have b1 := hBj.cell 1 rfl
        have b2 := hBj.cell 2 rfl
        have b3 := hBj.cell 3 rfl
        have bz := hBj.lt
        have HMJ := Hid.mk'' hMj
        by_cases hjl : j < all.length
        · have hjI : (j : Int) < (all.length : Int) := by omega
          have hj0 : (0 : Int) ≤ (j : Int) := by omega
          obtain ⟨y, hy⟩ : ∃ y, all[j]? = some y := ⟨_, List.getElem?_eq_getElem hjl⟩
          obtain ⟨g', cap', hrv', r0, r1, r2, r3⟩ := (HR1.out.mod ((HM.out.trans HMB.out).trans hMj) (fun _ _ => id)).at hy
          dsimp only at hrv'
          rw [HRV.out] at hrv'
          simp only [Value.slice.injEq, Option.some.injEq, Addr.mk.injEq] at hrv'
          obtain ⟨⟨rfl, _⟩, _, rfl⟩ := hrv'
          have zg := World.block_lt_of_cell? _ _ r0
          have HFM := Hid.mk'' (followsTo_more hf hy)
          obtain ⟨yk, yv, yg, yt⟩ := y
          dsimp only at r0 r1 r2 r3 HFM
          clear hf hy hMj hBj
          cases fb with
          | true =>
            go_wp2_with fail
            exact ⟨⟨j + 1, true, by omega, by go_num, rfl, by simpa using HFM.out, HMJ.out.alloc _⟩, by simp [intOf]; omega⟩
          | false =>
            by_cases hk2 : yk = xk
            · subst hk2
              by_cases h1 : xt < yt
              · have d1 : decide (yt > xt) = true := decide_eq_true h1
                by_cases h2 : yt ≤ lo
                · have d2 : decide (yt ≤ lo) = true := decide_eq_true h2
                  go_wp2_with fail
                  exact ⟨⟨j + 1, true, by omega, by go_num, rfl, by simpa [h1, h2] using HFM.out, HMJ.out.alloc _⟩, by simp [intOf]; omega⟩
                · have d2 : decide (yt ≤ lo) = false := decide_eq_false h2
                  go_wp2_with fail
                  exact ⟨⟨j + 1, false, by omega, by go_num, rfl, by simpa [h1, h2] using HFM.out, HMJ.out.alloc _⟩, by simp [intOf]; omega⟩
              · have d1 : decide (yt > xt) = false := decide_eq_false h1
                go_wp2_with fail
                exact ⟨⟨j + 1, false, by omega, by go_num, rfl, by simpa [h1] using HFM.out, HMJ.out.alloc _⟩, by simp [intOf]; omega⟩
            · have hke := key_ne hk2
              go_wp2_with fail
              exact ⟨⟨j + 1, false, by omega, by go_num, rfl, by simpa [hk2] using HFM.out, HMJ.out.alloc _⟩, by simp [intOf]; omega⟩
        · obtain rfl : j = all.length := by omega
          rw [followsTo_all] at hf
          have hmkj := HMB.out.trans hMj
          have hrowj := own_mod HROW.out hmkj (fun _ _ _ _ => id)
          have HRJ := Hid.mk'' hrowj
          have HMK := Hid.mk'' (HM.out.trans hmkj)
          have hzj := (HM.out.trans hmkj).size
          have hk63 : left.length + 1 ≤ maxLen := by unfold maxLen; omega
          have hk47 : (left.length + 1) * 48 ≤ 140737488355328 := by omega
          have HOE := Hid.mk'' (entC_one ⟨xk, xv, xg, xt⟩)
          have HF := Hid.mk'' hf
          clear hf hMj hBj hmkj hrowj
          cases fb with
          | true =>
            have HTN := Hid.mk'' (HT.out.drop HX.out (.inl (HF.out.1 rfl)))
            go_wp2_with fail
            exact ⟨⟨i + 1, left, by omega, by go_num, HRJ.out, HTN.out, HMK.out⟩, by simp [intOf]; omega⟩
          | false =>
            have hnf : ¬ Follows all lo ⟨xk, xv, xg, xt⟩ := fun q => by have := HF.out.2 q; cases this
            by_cases hg : xg = true ∧ xt ≤ lo
            · have HTN := Hid.mk'' (HT.out.drop HX.out (.inr hg))
              obtain ⟨rfl, hle⟩ := hg
              have d1 : decide (xt ≤ lo) = true := decide_eq_true hle
              go_wp2_with fail
              exact ⟨⟨i + 1, left, by omega, by go_num, HRJ.out, HTN.out, HMK.out⟩, by simp [intOf]; omega⟩
            · have HTN := Hid.mk'' (HT.out.keep HX.out hnf hg)
              have hcase : xg = false ∨ (xg = true ∧ decide (xt ≤ lo) = false) := by
                cases xg with
                | false => exact .inl rfl
                | true => exact .inr ⟨rfl, decide_eq_false (fun q => hg ⟨rfl, q⟩)⟩
              clear hnf hg
              rcases hcase with rfl | ⟨rfl, d1⟩
              all_goals
                go_wp2_with (first
                  | (at_builtin; refine wpList_append_own_at _ rfl (.tmp 76) (.tmp 78) 95 rfl w1.heap.size 172 i0 _ 4 48 Tryd.underlying95 yi yz0 yz1 yz2 rfl (by omega) _ _ _ rfl (HRJ.out.alloc _) ⟨_, 0, none⟩ 1 1 [.string xk, .string xv, _, .int .i64 xt] rfl rfl (World.news_of_block (heap_alloc_new _ _)) HOE.out hk63 hk47 (by simp; omega) ?_)
                  | fail)
                intro v7 w7 hown7 hgrow7 _ hat7
                have HM7 : Hid (Mod noBlock w1 w7) := (HMK.out.alloc _).grown hgrow7 (fun y hy hlt => by have := (own_cellsV HRJ.out hy).1; omega)
                obtain ⟨a7, cap7, hv7⟩ := own_slice hown7
                subst hv7
                have HW7 := Hid.mk'' hown7
                clear hown7 hgrow7 hat7
                go_wp2_with fail
                exact ⟨⟨i + 1, left ++ [⟨xk, xv, _, xt⟩], by omega, by go_num, by rw [List.length_append, entsC_snoc]; exact HW7.out, HTN.out, HM7.out⟩, by simp [intOf]; omega⟩
    · obtain rfl : i = all.length := by omega
      have hRk := HR1.out.mod hM (fun _ _ => id)
      have ff := hRk.blk.frozen 0
      dsimp only at ff
      have hsb : Mod (oneBlock r.b) wk (wk.setCell ⟨r.b, 0, none⟩ (.slice la left.length lcap)) := Mod.setBlk _ _ _
      have hzz := HZ1.out
      have hzk := hM.size
      have HFIN : Hid (∃ r' lf, TrimE all lf lo ∧ RfP (wk.setCell ⟨r.b, 0, none⟩ (.slice la left.length lcap)) B r' lf ∧ r'.b = r.b ∧ r'.low = lo ∧ Mod r.own w (wk.setCell ⟨r.b, 0, none⟩ (.slice la left.length lcap)) ∧ ∀ x, r'.own x → r.own x ∨ w.heap.size ≤ x) := by
        refine ⟨⟨r.b, .slice la left.length lcap, lo⟩, left, hT.all, ⟨hRk.blk.set 0 _, hRk.base, ?_⟩, rfl, rfl, ?_, fun x hx => ?_⟩
        · exact own_base (own_mod hrow hsb (fun k hk _ _ e => by simp only [oneBlock] at e; omega)) (by omega)
        · exact ((HM1.out.mono (G' := r.own) (fun x _ e => .inl e)).trans' hM (fun _ _ e => e.elim)).trans' hsb (fun x _ e => .inl e)
        · rcases hx with hx | hx
          · exact .inl (.inl hx)
          · exact .inr (by have := (own_cellsV hrow hx).1; omega)
      clear hRk hsb hrow hT hM
      go_wp2_with fail
      go_ret
      exact ⟨rfl, HFIN.out⟩
end Go.Proofs.YtefhgakcffhgaaaDoor
