/- Package check: operations are done, as long as what they told is so. -/
import Derived.Test.YtefhgakcffhgaabDoorKd
import Derived.Test.YtefhgakcffhgaabDoorKz
namespace Go.Proofs.YtefhgakcffhgaabDoor
open Go.RowKit Go.Lib Go.Maps
set_option linter.unusedVariables false

theorem lookV {w : World} {b n : Nat} {s : Sta} (h : ValsP w b n s) {k : ByteArray} (hk : k.size ≤ maxLen) : (Instr.lookup 42 (.map (some b)) (.string k) false).run Tryd.prog w = .ok (.agg #[.string (s k).text, .bool (s k).there]) w := (h.ok hk).1
/-- What the doing of operations comes to. -/
def DoneP (w : World) (b n : Nat) (s : Sta) (ops : List OpD) (e : Ending) (w' : World) : Prop :=
  ∃ uv us s1, ∃ ok : Bool, e = .returned (.tuple #[uv, .bool ok]) ∧ ValsP w' b (n + ops.length) s1 ∧ UndoP w' w.heap.size uv us ∧ us.length ≤ ops.length ∧ undoS s1 us = s ∧ (ok = true → doOps s ops = some (s1, us)) ∧ (ok = false → doOps s ops = none) ∧ Mod (oneBlock b) w w'
theorem own_ne_blk {w : World} {B sz n g : Nat} {e t : TypeId} {v : Value} {xs cs : List Value} (ho : w.ownsRow B e sz v n xs) (hb : Blk w g cs t) (hne : e ≠ t) : v.ownBlock ≠ some g := fun hk => by
  obtain ⟨_, _, cur, h3⟩ := own_cells ho hk
  simp only [Blk] at hb
  rw [h3] at hb
  simp at hb
  exact hne hb.2
theorem eqT {t1 t2 : ByteArray} {b1 b2 : Bool} : (t1.toList = t2.toList ∧ b1 = b2) ↔ (⟨t1, b1⟩ : VD) = ⟨t2, b2⟩ := by
  constructor
  · rintro ⟨h1, rfl⟩
    rw [ByteArray.toList_eq, ByteArray.toList_eq] at h1
    rw [bytes_inj h1]
  · intro h
    simp at h
    rw [h.1, h.2]
    exact ⟨rfl, rfl⟩
theorem doOps_more {s s1 : Sta} {us : List (ByteArray × VD)} {ops : List OpD} {k : Nat} {o : OpD} (h : doOps s (ops.take k) = some (s1, us)) (ho : ops[k]? = some o) : doOps s (ops.take (k + 1)) = (doOp s1 o).map (fun r => (r.1, us ++ r.2)) := by
  have hk := (List.getElem?_eq_some_iff.1 ho).1
  rw [List.take_succ_eq_append_getElem hk]
  have : ops[k] = o := by rw [List.getElem?_eq_getElem hk] at ho; simpa using ho
  rw [this]
  exact doOps_snoc _ _ _ _ _ h
theorem doOps_fail {s s1 : Sta} {us : List (ByteArray × VD)} {ops : List OpD} {k : Nat} {o : OpD} (h : doOps s (ops.take k) = some (s1, us)) (ho : ops[k]? = some o) (hf : doOp s1 o = none) : doOps s ops = none := by
  cases hq : doOps s ops with
  | none => rfl
  | some r =>
    obtain ⟨s2, vs, e⟩ := doOps_take ops s r.1 r.2 (k + 1) hq
    rw [doOps_more h ho, hf] at e
    cases e
set_option maxRecDepth 100000 in
set_option maxHeartbeats 8000000 in
theorem vdo_any (L b n : Nat) (s : Sta) (v : Value) (ops : List OpD) (w : World) (hv : OpsV w L v ops) (hs : ValsP w b n s) (hLb : L ≤ b) (hlen : ops.length ≤ 40) (hn : n + 40 < maxLen) :
    Calls Tryd.prog 19 #[.map (some b), v] w (DoneP w b n s ops) := by
  obtain ⟨i0, hi, hz0, hz1, hz2⟩ := info_parts Tryd.info75
  obtain ⟨a, cap, rfl, hc1, hc2⟩ := SlR.slice hv
  unfold maxLen at hc2
  have HV := Hid.mk' hv
  have HS0 := Hid.mk' hs
  have HBW := Hid.mk' hs.lt
  clear hv hs
  go_enter Tryd.func19, Tryd.ntmps19
  go_wp2_with fail
  go_loopw [6, 12] (fun uv i wr => ∃ (k : Nat) (us : List (ByteArray × VD)) (s1 : Sta), k ≤ ops.length ∧ i = .int .i64 k ∧ doOps s (ops.take k) = some (s1, us) ∧ ValsP wr b (n + k) s1 ∧ UndoP wr w.heap.size uv us ∧ Mod (oneBlock b) w wr) (fun _ i _ => ops.length - (intOf i).toNat)
  case atStart => exact ⟨0, [], s, Nat.zero_le _, rfl, by simp [doOps], HS0.out, UndoP.nil _ _, Mod.refl _ _⟩
  case round =>
    obtain ⟨k, us, s1, hk, rfl, hdo, hvs, hun, hM⟩ := hrel
    clear HS0
    have HDO := Hid.mk' hdo
    have HVS := Hid.mk' hvs
    have HUN := Hid.mk' hun
    have HM := Hid.mk' hM
    obtain ⟨ua, ucap, hua⟩ := own_slice hun.1
    subst hua
    by_cases hlt : k < ops.length
    · obtain ⟨kind, key, value, found, ho⟩ : ∃ kind key value found, ops[k]? = some ⟨kind, key, value, found⟩ := ⟨_, _, _, _, List.getElem?_eq_getElem hlt⟩
      obtain ⟨ob, off, rfl, hbL, ⟨hs1, hs2⟩, q0, q1, q2, q3⟩ := HV.out.at ho
      have hne : ¬ oneBlock b ob := fun e => by simp only [oneBlock] at e; omega
      have q0' : wr.cell? ⟨ob, off + k * 4, none⟩ = some (.int .i64 kind) := hM.cell q0 hne
      have q1' : wr.cell? ⟨ob, off + k * 4 + 1, none⟩ = some (.string key) := hM.cell q1 hne
      have q2' : wr.cell? ⟨ob, off + k * 4 + 2, none⟩ = some (.string value) := hM.cell q2 hne
      have q3' : wr.cell? ⟨ob, off + k * 4 + 3, none⟩ = some (.bool found) := hM.cell q3 hne
      have hs1 : key.size ≤ maxLen := hs1
      have hs2 : value.size ≤ maxLen := hs2
      have hltI : (k : Int) < (ops.length : Int) := by omega
      have hlt0 : (0 : Int) ≤ (k : Int) := by omega
      obtain ⟨w3, hw3⟩ : ∃ q, q = wr.alloc (.cells #[.int .i64 kind, .string key, .string value, .bool found] 54) := ⟨_, rfl⟩
      have hm3 : Mod noBlock wr w3 := by rw [hw3]; exact (Mod.refl _ wr).alloc _
      have hB3 : Blk w3 wr.heap.size [.int .i64 kind, .string key, .string value, .bool found] 54 := by rw [hw3]; exact Blk.new wr _ _
      obtain ⟨t1, b1, e1⟩ : ∃ t b, s1 key = ⟨t, b⟩ := ⟨_, _, rfl⟩
      have l3 : (Instr.lookup 42 (.map (some b)) (.string key) false).run Tryd.prog w3 = .ok (.agg #[.string t1, .bool b1]) w3 := by have := lookV (hvs.mod hm3 id) hs1; rw [e1] at this; exact this
      have HE1 := Hid.mk' e1
      have HOK1 : Hid (okVD ⟨t1, b1⟩) := by have := (hvs.ok hs1).2; rw [e1] at this; exact this
      have x0 := hB3.cell 0 rfl
      have x1 := hB3.cell 1 rfl
      have x2 := hB3.cell 2 rfl
      have x3 := hB3.cell 3 rfl
      have z3 := hB3.lt
      have HO := Hid.mk' ho
      have HM3 := Hid.mk' hm3
      have HB3 := Hid.mk' hB3
      clear hdo hvs hun hM q0 q1 q2 q3 ho hm3 hB3 e1
      go_upto_region 5 with fail
      rw [← hw3]
      clear hw3
      obtain ⟨w4, hw4⟩ : ∃ q, q = w3.alloc (.cells #[.string t1, .bool b1] 72) := ⟨_, rfl⟩
      go_upto_region 7 with fail
      rw [← hw4]
      have hm4 : Mod noBlock w3 w4 := by rw [hw4]; exact (Mod.refl _ w3).alloc _
      have hB4 : Blk w4 w3.heap.size [.string t1, .bool b1] 72 := by rw [hw4]; exact Blk.new w3 _ _
      have hB34 := HB3.out.mod hm4 id
      have y0 := hB4.cell 0 rfl
      have y1 := hB4.cell 1 rfl
      have z4 := hB4.lt
      have x04 := hB34.cell 0 rfl
      have x14 := hB34.cell 1 rfl
      have x24 := hB34.cell 2 rfl
      have x34 := hB34.cell 3 rfl
      have z34 := hB34.lt
      have HM4 := Hid.mk' (HM3.out.trans hm4)
      have HB4 := Hid.mk' hB4
      have HB34 := Hid.mk' hB34
      clear hw4 hm4 hB4 hB34 x0 x1 x2 x3 l3 q0' q1' q2' q3' HB3 HM3
      by_cases h1 : kind = 1
      · subst h1
        obtain ⟨t2, b2, e2⟩ : ∃ t b, toldV ⟨1, key, value, found⟩ = ⟨t, b⟩ := ⟨_, _, rfl⟩
        have HTL : Hid (∀ wq, Calls Tryd.prog 25 #[.agg #[.int .i64 1, .string key, .string value, .bool found]] wq fun e w' => e = .returned (.agg #[.string t2, .bool b2]) ∧ Mod noBlock wq w') := fun wq => by have := told_any ⟨1, key, value, found⟩ wq; rw [e2] at this; exact this
        have HE2 := Hid.mk' e2
        clear e2
        go_upto_region 8 with fail
        go_cut [27] (fun t wc => t = .bool (!decide (t1.toList = t2.toList ∧ b1 = b2)) ∧ Mod noBlock wr wc)
        case first =>
          by_cases ht : t1.toList = t2.toList
          · by_cases hb : b1 = b2
            · have HX : Hid (t1.toList = t2.toList ∧ b1 = b2) := ⟨ht, hb⟩
              go_region_with (first
                | (go_at_call 25; refine (HTL.out _).mono ?_; rintro e w5 ⟨rfl, hm5⟩; have hm45 : Mod noBlock w4 w5 := ((Mod.refl noBlock w4).drew).trans hm5; have hM5 : Mod noBlock wr w5 := HM4.out.trans hm45; have y05 := (HB4.out.mod hm45 id).cell 0 rfl; have y15 := (HB4.out.mod hm45 id).cell 1 rfl; have zz5 := (HB4.out.mod hm45 id).lt)
                | fail)
              all_goals
                go_wp2_with fail
                go_meet
                case rel => exact ⟨by simp [HX.out], hM5⟩
            · have HX : Hid (¬ (t1.toList = t2.toList ∧ b1 = b2)) := fun h => hb h.2
              go_region_with (first
                | (go_at_call 25; refine (HTL.out _).mono ?_; rintro e w5 ⟨rfl, hm5⟩; have hm45 : Mod noBlock w4 w5 := ((Mod.refl noBlock w4).drew).trans hm5; have hM5 : Mod noBlock wr w5 := HM4.out.trans hm45; have y05 := (HB4.out.mod hm45 id).cell 0 rfl; have y15 := (HB4.out.mod hm45 id).cell 1 rfl; have zz5 := (HB4.out.mod hm45 id).lt)
                | fail)
              all_goals
                go_wp2_with fail
                go_meet
                case rel => exact ⟨by simp [HX.out], hM5⟩
          · have HX : Hid (¬ (t1.toList = t2.toList ∧ b1 = b2)) := fun h => ht h.1
            go_region_with (first
              | (go_at_call 25; refine (HTL.out _).mono ?_; rintro e w5 ⟨rfl, hm5⟩; have hm45 : Mod noBlock w4 w5 := ((Mod.refl noBlock w4).drew).trans hm5; have hM5 : Mod noBlock wr w5 := HM4.out.trans hm45; have y05 := (HB4.out.mod hm45 id).cell 0 rfl; have y15 := (HB4.out.mod hm45 id).cell 1 rfl; have zz5 := (HB4.out.mod hm45 id).lt)
              | fail)
            all_goals
              go_wp2_with fail
              go_meet
              case rel => exact ⟨by simp [HX.out], hM5⟩
        case rest =>
          obtain ⟨rfl, hMc⟩ := hcut
          have HMC := Hid.mk' hMc
          clear hMc y0 y1 x04 x14 x24 x34
          by_cases heq : t1.toList = t2.toList ∧ b1 = b2
          · have hde : (!decide (t1.toList = t2.toList ∧ b1 = b2)) = false := by simp [heq]
            rw [hde]
            have HFIN : Hid (doOps s (ops.take (k + 1)) = some (s1, us)) := by
              have h1 : s1 key = toldV ⟨1, key, value, found⟩ := by rw [HE1.out, HE2.out]; exact eqT.1 heq
              rw [Hid, doOps_more HDO.out HO.out]
              simp [doOp, h1]
            clear heq hde
            go_wp2_with fail
            go_roundw
            case rel => exact ⟨k + 1, us, s1, by omega, by go_num, HFIN.out, (HVS.out.mod HMC.out id).mono (by omega), HUN.out.mod HMC.out (fun _ _ => id), HM.out.trans (HMC.out.mono (fun _ _ e => e.elim))⟩
            case measure => simp [intOf]; omega
          · have hde : (!decide (t1.toList = t2.toList ∧ b1 = b2)) = true := by simp only [decide_eq_false heq]; rfl
            rw [hde]
            have HFAIL : Hid (doOps s ops = none) := by
              refine doOps_fail HDO.out HO.out ?_
              have h1 : ¬ s1 key = toldV ⟨1, key, value, found⟩ := by rw [HE1.out, HE2.out]; exact fun h => heq (eqT.2 h)
              simp [doOp, h1]
            clear heq hde
            go_wp2_with fail
            refine bodyPost_ret (results_tmp2 rfl _ _ _) rfl ?_
            refine ⟨_, us, s1, false, rfl, (HVS.out.mod HMC.out id).mono (by omega), HUN.out.mod HMC.out (fun _ _ => id), ?_, doOps_undo _ _ _ _ HDO.out, fun h => by simp at h, fun _ => HFAIL.out, HM.out.trans (HMC.out.mono (fun _ _ e => e.elim))⟩
            have h1 := doOps_len _ _ _ _ HDO.out
            rw [List.length_take] at h1
            omega
      · by_cases h2 : kind = 2
        · subst h2
          have hun4 := HUN.out.mod HM4.out (fun _ _ => id)
          have hvs4 := HVS.out.mod HM4.out id
          have hbw := HVS.out.lt
          have hz4 := HM4.out.size
          have hzw := HM.out.size
          have HROW := Hid.mk' hun4.1
          have hul : us.length ≤ k := by have h1 := doOps_len _ _ _ _ HDO.out; rw [List.length_take] at h1; omega
          have hk63 : us.length + 1 ≤ maxLen := by unfold maxLen; omega
          have hk47 : (us.length + 1) * 40 ≤ 140737488355328 := by omega
          have HVS4 := Hid.mk' hvs4
          have hrow : ∀ x, (Value.slice ua us.length ucap).ownBlock = some x → w.heap.size ≤ x := fun x hx => by obtain ⟨h1, _⟩ := own_cells hun4.1 hx; exact h1
          have hbw0 : b < w.heap.size := HBW.out
          have hnb : (Value.slice ua us.length ucap).ownBlock ≠ some b := fun e => by have := hrow b e; omega
          have hno : (Value.slice ua us.length ucap).ownBlock ≠ some wr.heap.size := own_ne_blk hun4.1 HB34.out (by decide)
          have HNO := Hid.mk' hno
          have HNB := Hid.mk' hnb
          have HRW := Hid.mk' hrow
          have HUK : Hid (∀ u ∈ us, okU u) := hun4.2
          clear hun4 hvs4 hno hnb hrow hbw
          go_wp2_with (first
            | (at_builtin; refine wpList_append_own_at _ rfl (.tmp 31) (.tmp 36) 59 rfl w.heap.size 75 i0 _ 3 40 Tryd.underlying59 hi hz0 hz1 hz2 rfl (by omega) _ _ _ rfl (HROW.out.alloc _) ⟨w4.heap.size, 0, none⟩ 1 1 [.string key, .string t1, .bool b1] rfl rfl (World.news_of_block (heap_alloc_new w4 _)) (by simp [Value.oneCell']) hk63 hk47 (by simp; omega) ?_)
            | fail)
          intro v6 w6 hown6 hgrow _ hloc
          have hm6 : Mod (fun x => (Value.slice ua us.length ucap).ownBlock = some x) w4 w6 := ((Mod.refl _ w4).alloc _).grown hgrow (fun x hx _ => hx)
          obtain ⟨va6, vc6, hv6⟩ := own_slice hown6
          subst hv6
          have hB6 := HB34.out.mod hm6 HNO.out
          have x16 := hB6.cell 1 rfl
          have x26 := hB6.cell 2 rfl
          have z6 := hB6.lt
          obtain ⟨D, hmap6, hD6⟩ := HVS4.out.mod hm6 HNB.out
          have hIM := hmap6.isMap
          have hmx : n + k < maxLen := by omega
          have HOW6 := Hid.mk' hown6
          have HMP6 := Hid.mk' hmap6
          have HD6 := Hid.mk' hD6
          have HIM := Hid.mk' hIM
          have HM6 := Hid.mk' hm6
          clear hown6 hgrow hloc hm6 hB6 hmap6 hD6 hIM HB34 HB4 y0 y1 x04 x14 x24 x34
          go_wp2_with (first
            | (at_mapUpdate; refine wpList_mapUpdate_own _ rfl _ _ _ 42 rfl 9 72 kStr Tryd.underlying42 valElem b (n + k) D rfl HMP6.out hmx _ _ (.string key.data.toList) rfl rfl (Go.WideMaps.keyOf_string_mk Tryd.underlying9 hs1) (encV ⟨value, true⟩) [] (valElem_mk (v := ⟨value, true⟩) hs2) ?_)
            | fail)
          intro w7 hown7 hgrow7
          have hm7 : Mod (oneBlock b) w6 w7 := (Mod.refl _ w6).grown hgrow7 (fun x hx _ => by simp only [oneBlock]; simpa using hx.symm)
          have hV7 := ValsP.put HIM.out HD6.out hown7
          have hU7 : UndoP w7 w.heap.size (.slice va6 (us.length + 1) vc6) (us ++ [(key, s1 key)]) := by
            refine ⟨?_, fun u hu => ?_⟩
            · rw [undoCells_snoc, HE1.out]
              have := own_mod (G := oneBlock b) HOW6.out hm7 (fun x _ _ hx e => by
                simp only [oneBlock] at e; subst e
                have := (own_cells HOW6.out hx).1; omega)
              simpa using this
            · rcases List.mem_append.1 hu with hu | hu
              · exact HUK.out u hu
              · simp at hu; subst hu; rw [HE1.out]; exact ⟨hs1, HOK1.out⟩
          have hM7 : Mod (oneBlock b) w w7 := (((HM.out.trans (HM4.out.mono (fun _ _ e => e.elim))).trans' HM6.out (fun i hi e => by have := HRW.out i e; omega)).trans hm7)
          have HFIN : Hid (doOps s (ops.take (k + 1)) = some (updS s1 key ⟨value, true⟩, us ++ [(key, s1 key)])) := by
            rw [Hid, doOps_more HDO.out HO.out]
            simp [doOp]
          have HV7 := Hid.mk' hV7
          have HU7 := Hid.mk' hU7
          have HM7 := Hid.mk' hM7
          clear hV7 hU7 hM7 hm7 hown7 hgrow7 x16 x26
          go_wp2_with fail
          go_roundw
          case rel => exact ⟨k + 1, _, _, by omega, by go_num, HFIN.out, by have := HV7.out; rw [show n + (k + 1) = n + k + 1 by omega]; exact this, HU7.out, HM7.out⟩
          case measure => simp [intOf]; omega
        · by_cases h3 : kind = 3
          · subst h3
            have hun4 := HUN.out.mod HM4.out (fun _ _ => id)
            have hvs4 := HVS.out.mod HM4.out id
            have hbw := HVS.out.lt
            have hz4 := HM4.out.size
            have hzw := HM.out.size
            have HROW := Hid.mk' hun4.1
            have hul : us.length ≤ k := by have h1 := doOps_len _ _ _ _ HDO.out; rw [List.length_take] at h1; omega
            have hk63 : us.length + 1 ≤ maxLen := by unfold maxLen; omega
            have hk47 : (us.length + 1) * 40 ≤ 140737488355328 := by omega
            have HVS4 := Hid.mk' hvs4
            have hrow : ∀ x, (Value.slice ua us.length ucap).ownBlock = some x → w.heap.size ≤ x := fun x hx => by obtain ⟨h1, _⟩ := own_cells hun4.1 hx; exact h1
            have hbw0 : b < w.heap.size := HBW.out
            have hnb : (Value.slice ua us.length ucap).ownBlock ≠ some b := fun e => by have := hrow b e; omega
            have hno : (Value.slice ua us.length ucap).ownBlock ≠ some wr.heap.size := own_ne_blk hun4.1 HB34.out (by decide)
            have HNO := Hid.mk' hno
            have HNB := Hid.mk' hnb
            have HRW := Hid.mk' hrow
            have HUK : Hid (∀ u ∈ us, okU u) := hun4.2
            clear hun4 hvs4 hno hnb hrow hbw
            go_wp2_with (first
              | (at_builtin; refine wpList_append_own_at _ rfl (.tmp 46) (.tmp 51) 59 rfl w.heap.size 75 i0 _ 3 40 Tryd.underlying59 hi hz0 hz1 hz2 rfl (by omega) _ _ _ rfl (HROW.out.alloc _) ⟨w4.heap.size, 0, none⟩ 1 1 [.string key, .string t1, .bool b1] rfl rfl (World.news_of_block (heap_alloc_new w4 _)) (by simp [Value.oneCell']) hk63 hk47 (by simp; omega) ?_)
              | fail)
            intro v6 w6 hown6 hgrow _ hloc
            have hm6 : Mod (fun x => (Value.slice ua us.length ucap).ownBlock = some x) w4 w6 := ((Mod.refl _ w4).alloc _).grown hgrow (fun x hx _ => hx)
            obtain ⟨va6, vc6, hv6⟩ := own_slice hown6
            subst hv6
            have hB6 := HB34.out.mod hm6 HNO.out
            have x16 := hB6.cell 1 rfl
            have x26 := hB6.cell 2 rfl
            have z6 := hB6.lt
            obtain ⟨D, hmap6, hD6⟩ := HVS4.out.mod hm6 HNB.out
            have hIM := hmap6.isMap
            have hmx : n + k < maxLen := by omega
            have HOW6 := Hid.mk' hown6
            have HMP6 := Hid.mk' hmap6
            have HD6 := Hid.mk' hD6
            have HIM := Hid.mk' hIM
            have HM6 := Hid.mk' hm6
            clear hown6 hgrow hloc hm6 hB6 hmap6 hD6 hIM HB34 HB4 y0 y1 x04 x14 x24 x34
            go_wp2_with (first
              | (at_mapUpdate; refine wpList_mapUpdate_own _ rfl _ _ _ 42 rfl 9 72 kStr Tryd.underlying42 valElem b (n + k) D rfl HMP6.out hmx _ _ (.string key.data.toList) rfl rfl (Go.WideMaps.keyOf_string_mk Tryd.underlying9 hs1) (encV zeroVD) [] (valElem_mk (v := zeroVD) okZ) ?_)
              | fail)
            intro w7 hown7 hgrow7
            have hm7 : Mod (oneBlock b) w6 w7 := (Mod.refl _ w6).grown hgrow7 (fun x hx _ => by simp only [oneBlock]; simpa using hx.symm)
            have hV7 := ValsP.put HIM.out HD6.out hown7
            have hU7 : UndoP w7 w.heap.size (.slice va6 (us.length + 1) vc6) (us ++ [(key, s1 key)]) := by
              refine ⟨?_, fun u hu => ?_⟩
              · rw [undoCells_snoc, HE1.out]
                have := own_mod (G := oneBlock b) HOW6.out hm7 (fun x _ _ hx e => by
                  simp only [oneBlock] at e; subst e
                  have := (own_cells HOW6.out hx).1; omega)
                simpa using this
              · rcases List.mem_append.1 hu with hu | hu
                · exact HUK.out u hu
                · simp at hu; subst hu; rw [HE1.out]; exact ⟨hs1, HOK1.out⟩
            have hM7 : Mod (oneBlock b) w w7 := (((HM.out.trans (HM4.out.mono (fun _ _ e => e.elim))).trans' HM6.out (fun i hi e => by have := HRW.out i e; omega)).trans hm7)
            have HFIN : Hid (doOps s (ops.take (k + 1)) = some (updS s1 key zeroVD, us ++ [(key, s1 key)])) := by
              rw [Hid, doOps_more HDO.out HO.out]
              simp [doOp]
            have HV7 := Hid.mk' hV7
            have HU7 := Hid.mk' hU7
            have HM7 := Hid.mk' hM7
            clear hV7 hU7 hM7 hm7 hown7 hgrow7 x16 x26
            go_wp2_with fail
            go_roundw
            case rel => exact ⟨k + 1, _, _, by omega, by go_num, HFIN.out, by have := HV7.out; rw [show n + (k + 1) = n + k + 1 by omega]; exact this, HU7.out, HM7.out⟩
            case measure => simp [intOf]; omega
          · have d1 : (kind == 1) = false := by simpa using h1
            have d2 : (kind == 2) = false := by simpa using h2
            have d3 : (kind == 3) = false := by simpa using h3
            have HFIN : Hid (doOps s (ops.take (k + 1)) = some (s1, us)) := by
              rw [Hid, doOps_more HDO.out HO.out]
              simp [doOp, h1, h2, h3]
            clear h1 h2 h3
            go_wp2_with fail
            go_roundw
            case rel => exact ⟨k + 1, us, s1, by omega, by go_num, HFIN.out, (HVS.out.mod HM4.out id).mono (by omega), HUN.out.mod HM4.out (fun _ _ => id), HM.out.trans (HM4.out.mono (fun _ _ e => e.elim))⟩
            case measure => simp [intOf]; omega
    · obtain rfl : k = ops.length := by omega
      clear hdo hvs hun hM
      go_wp2_with fail
      refine bodyPost_ret (results_tmp2 rfl _ _ _) rfl ?_
      have hfin := HDO.out
      rw [List.take_length] at hfin
      exact ⟨_, us, s1, true, rfl, HVS.out, HUN.out, doOps_len _ _ _ _ hfin, doOps_undo _ _ _ _ hfin, fun _ => hfin, fun h => by simp at h, HM.out⟩
end Go.Proofs.YtefhgakcffhgaabDoor
