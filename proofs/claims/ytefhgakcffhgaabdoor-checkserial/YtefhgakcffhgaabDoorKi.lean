/- Package check: an order is made, or there is none. -/
import Derived.Test.YtefhgakcffhgaabDoorKh
namespace Go.Proofs.YtefhgakcffhgaabDoor
open Go.RowKit Go.Lib Go.Maps
set_option linter.unusedVariables false
theorem Tryd.info3 : (Tryd.prog.info? 3).map (fun i => (i.zero, i.size, i.bytes)) = some (some (.int .i64 0), 1, 8) := by kernel_rfl

def FinP (w : World) (L g b n r : Nat) (tv ov : Value) (ts : List TxD) (o : List Nat) (s : Sta) (e : Ending) (w' : World) : Prop :=
  ∃ ov' o' s' n', ∃ ok : Bool, e = .returned (.bool ok) ∧ SrchP w' L g b n' tv ov' ts o' s' ∧ n' ≤ n + stores r ∧ Mod (srchMay g b ov) w w' ∧ MovedS w ov ov' ∧ (ok = true → ∃ rest, o' = o ++ rest ∧ goodR ts o s rest = some s' ∧ Whole ts o' ∧ LeastR ts o s rest) ∧ (ok = false → o' = o ∧ s' = s ∧ NoneFits ts o s)
def FinAt (ts : List TxD) (r : Nat) : Prop := ∀ (L g b n : Nat) (tv ov : Value) (o : List Nat) (s : Sta) (w : World), SrchP w L g b n tv ov ts o s → o.Nodup → (∀ i ∈ o, i < ts.length) → ts.length ≤ o.length + r → n + stores r + 1000 < maxLen →
  Calls Tryd.prog 11 #[.pointer (some ⟨g, 0, none⟩)] w (FinP w L g b n r tv ov ts o s)
def st1 (r : Nat) : Nat := match r with
  | 0 => 0
  | r + 1 => 80 + stores r
theorem st1_le (r : Nat) {k : Nat} (hk : k ≤ 8) : k * st1 r ≤ stores r := by
  cases r with
  | zero => simp [st1, stores]
  | succ r => simp only [st1, stores]; exact Nat.mul_le_mul_right _ hk
theorem ordI_len (o : List Nat) : (ordI o).length = o.length := by simp [ordI]
set_option maxRecDepth 100000 in
set_option maxHeartbeats 16000000 in
theorem finish_step (ts : List TxD) (hts : ts.length ≤ 8) (hops : ∀ t ∈ ts, t.ops.length ≤ 40) (r : Nat) (hrec : ∀ r', r = r' + 1 → FinAt ts r') : FinAt ts r := by
  intro L g b n tv ov o s w h hnd hin hr hmx
  obtain ⟨j0, hj, jz0, jz1, jz2⟩ := info_parts Tryd.info3
  obtain ⟨ta, tcap, rfl, htc1, htc2⟩ := SlR.slice h.txs
  have h0 := h.blk.cell 0 rfl
  have hgl := h.blk.lt
  have HWH := Hid.mk' (swhole_any L g _ ov ts o w h0 (h.blk.cell 1 rfl) h.txs h.le h.ints)
  have HH := Hid.mk' h
  have HREC := Hid.mk' hrec
  unfold maxLen at htc2
  clear h hrec
  go_enter Tryd.func11, Tryd.ntmps11
  go_wp2_with fail
  refine HWH.out.mono ?_
  rintro e w1 ⟨bw, rfl, hbw, hm1⟩
  have HM1 : Hid (Mod (srchMay g b ov) w w1) := hm1.mono (fun _ _ e => e.elim)
  have HH1 := Hid.mk' (HH.out.quiet hm1)
  have c01 := hm1.cell h0 id
  have zg1 := Nat.lt_of_lt_of_le hgl hm1.size
  have hz1 := hm1.size
  clear HWH hm1
  cases bw with
  | true =>
    have HWB : Hid (Whole ts o) := hbw.1 rfl
    clear hbw
    go_wp2_with fail
    go_ret
    exact ⟨ov, o, s, n, true, rfl, HH1.out, by omega, HM1.out, MovedS.refl _ _, fun _ => ⟨[], by simp, rfl, HWB.out, fun _ _ _ _ => trivial⟩, fun h => by simp at h⟩
  | false =>
    have HNW : Hid (¬ Whole ts o) := fun h => by have := hbw.2 h; simp at this
    clear hbw
    go_wp2_with fail
    go_loopw [14] (fun i wr => ∃ (k n1 : Nat) (ov1 : Value), k ≤ ts.length ∧ i = .int .i64 k ∧ SrchP wr L g b n1 (.slice ta ts.length tcap) ov1 ts o s ∧ n1 ≤ n + k * st1 r ∧ (∀ i rest s2, i < k → goodR ts o s (i :: rest) = some s2 → ¬ Whole ts (o ++ i :: rest)) ∧ Mod (srchMay g b ov) w wr ∧ MovedS w ov ov1) (fun i _ => ts.length - (intOf i).toNat)
    case atStart => exact ⟨0, n, ov, Nat.zero_le _, rfl, HH1.out, by omega, fun i _ _ h => by omega, HM1.out, MovedS.refl _ _⟩
    case round =>
      clear HH1 HM1 c01
      obtain ⟨k, n1, ov1, hk, rfl, hS, hn1, hall, hM, hmv⟩ := hrel
      have hzr := hM.size
      have HALL := Hid.mk' hall
      have HM := Hid.mk' hM
      have HMV := Hid.mk' hmv
      have HS := Hid.mk' hS
      by_cases hlt : k < ts.length
      · obtain ⟨t, ht⟩ : ∃ t, ts[k]? = some t := ⟨_, List.getElem?_eq_getElem hlt⟩
        obtain ⟨tb, toff, tov, rfl, htb, hopv, hti, q0, q1, q2⟩ := hS.txs.at ht
        obtain ⟨pa, pcap, rfl, hpc1, hpc2⟩ := SlR.slice hopv
        have hltI : (k : Int) < (ts.length : Int) := by omega
        have hlt0 : (0 : Int) ≤ (k : Int) := by omega
        obtain ⟨w3, hw3⟩ : ∃ q, q = wr.alloc (.cells #[.slice pa t.ops.length pcap, .int .i64 t.frm, .int .i64 t.til] 25) := ⟨_, rfl⟩
        have hm3 : Mod noBlock wr w3 := by rw [hw3]; exact (Mod.refl _ wr).alloc _
        have hB3 : Blk w3 wr.heap.size [.slice pa t.ops.length pcap, .int .i64 t.frm, .int .i64 t.til] 25 := by rw [hw3]; exact Blk.new wr _ _
        have hS3 := hS.quiet hm3
        have HNX := Hid.mk' (snext_any L g _ ov1 ts o k t w3 (hS3.blk.cell 0 rfl) (hS3.blk.cell 1 rfl) hS3.txs hS3.le hS3.ints ht)
        have HT := Hid.mk' ht
        have HOPV := Hid.mk' (hopv.mod hm3 (fun _ _ => id))
        have HM3 := Hid.mk' hm3
        have HB3 := Hid.mk' hB3
        have HS3 := Hid.mk' hS3
        have zg3 := hS3.blk.lt
        clear hall hM hmv hS ht hopv hm3 hB3 hS3
        go_upto_region 6 with fail
        rw [← hw3]
        clear hw3 q0 q1 q2
        go_wp2_with fail
        refine HNX.out.mono ?_
        rintro e w5 ⟨bn, rfl, hbn, hm5⟩
        have HS5 := Hid.mk' (HS3.out.quiet hm5)
        have HB5 := Hid.mk' (HB3.out.mod hm5 id)
        have HOP5 := Hid.mk' (HOPV.out.mod hm5 (fun _ _ => id))
        have HM5 := Hid.mk' (HM3.out.trans hm5)
        clear HNX hm5 HS3 HB3 HOPV HM3
        cases bn with
        | false =>
          have HNO : Hid (¬ NextOK ts o k) := fun h => by have := hbn.2 h; simp at this
          clear hbn
          go_wp2_with fail
          go_roundw
          case rel =>
            refine ⟨k + 1, n1, ov1, by omega, by go_num, HS5.out, by rw [Nat.add_mul]; omega, fun i rest s2 hi hg => ?_, HM.out.trans (HM5.out.mono (fun _ _ e => e.elim)), HMV.out⟩
            by_cases e : i = k
            · subst e; exact absurd (goodR_cons hg).1 HNO.out
            · exact HALL.out i rest s2 (by omega) hg
          case measure => simp [intOf]; omega
        | true =>
          have HNX : Hid (NextOK ts o k) := hbn.1 rfl
          clear hbn
          have hrl : o.length < ts.length := nodup_room hnd hin hlt HNX.out.1
          obtain ⟨r', hr'⟩ : ∃ r', r = r' + 1 := ⟨r - 1, by omega⟩
          have HIH := Hid.mk' (HREC.out r' hr')
          have hsle : k * st1 r + st1 r ≤ stores r := by have := st1_le r (k := k + 1) (by omega); rw [Nat.add_mul, Nat.one_mul] at this; exact this
          have hse : stores r = 8 * (80 + stores r') := by rw [hr']; rfl
          have hs1e : st1 r = 80 + stores r' := by rw [hr']; rfl
          have hlo : t.ops.length ≤ 40 := hops t (List.mem_of_getElem? HT.out)
          have c2 := HS5.out.blk.cell 2 rfl
          have x0 := HB5.out.cell 0 rfl
          have zg5 := HS5.out.blk.lt
          have zB5 := HB5.out.lt
          have hbl := HS5.out.vals.lt
          have HDO : Hid (∀ wq, Mod noBlock w5 wq → Calls Tryd.prog 19 #[.map (some b), .slice pa t.ops.length pcap] wq (DoneP wq b n1 s t.ops)) := fun wq hq => vdo_any L b n1 s _ t.ops wq (HOP5.out.mod hq (fun _ _ => id)) (HS5.out.vals.mod hq id) HS5.out.blow hlo (by omega)
          go_upto_region 7 with fail
          go_cut [5, 6] (fun uvv fv wc => ∃ us s1 B0, ∃ ok : Bool, fv = .bool ok ∧ ValsP wc b (n1 + t.ops.length) s1 ∧ UndoP wc B0 uvv us ∧ b < B0 ∧ us.length ≤ t.ops.length ∧ undoS s1 us = s ∧ (ok = true → doOps s t.ops = some (s1, us)) ∧ (ok = false → doOps s t.ops = none) ∧ Mod (oneBlock b) w5 wc)
          case first =>
            go_region_with (first
              | (go_at_call 19; refine (HDO.out _ ((Mod.refl noBlock w5).drew)).mono ?_; rintro e w6 ⟨uv, us, s1, ok, rfl, hd⟩; have HD := Hid.mk' hd; clear hd)
              | fail)
            all_goals
              go_wp2_with fail
              go_meet
              case rel =>
                obtain ⟨d1, d2, d3, d4, d5, d6, d7⟩ := HD.out
                exact ⟨us, s1, _, ok, rfl, d1, d2, hbl, d3, d4, d5, d6, ((Mod.refl (oneBlock b) w5).drew).trans d7⟩
          case rest =>
            obtain ⟨us, s1, B0, ok, rfl, hv1, hu1, hbB, hul, hund, hok1, hok0, hMc⟩ := hcut
            obtain ⟨ua, ucap, hua⟩ := own_slice hu1.1
            subst hua
            have hSc := HS5.out.turned hMc hv1
            obtain ⟨oa, ocap, hov⟩ := own_slice hSc.row
            subst hov
            have c1 := hSc.blk.cell 1 rfl
            have f1 := hSc.blk.frozen 1
            have zgc := hSc.blk.lt
            have hLc := hSc.le
            have hk63 : (ordI o).length + 1 ≤ maxLen := by have := ordI_len o; unfold maxLen; omega
            have hk47 : ((ordI o).length + 1) * 8 ≤ 140737488355328 := by have := ordI_len o; omega
            have HROW := Hid.mk' hSc.row
            have HSC := Hid.mk' hSc
            have HU1 := Hid.mk' hu1
            have HUND := Hid.mk' hund
            have HOK1 := Hid.mk' hok1
            have HOK0 := Hid.mk' hok0
            have HMC := Hid.mk' hMc
            clear hv1 hu1 hund hok1 hok0 hMc hSc c2 x0 HDO
            go_wp2_with (first
              | (at_builtin; refine wpList_append_own_at _ rfl (.tmp 37) (.tmp 39) 26 rfl L 3 j0 _ 1 8 Tryd.underlying26 hj jz0 jz1 jz2 rfl (by decide) _ _ _ rfl (HROW.out.alloc _) ⟨wc.heap.size, 0, none⟩ 1 1 [.int .i64 k] rfl rfl (World.news_of_block (heap_alloc_new wc _)) (by simp [Value.oneCell']) hk63 hk47 (by simp; omega) ?_)
              | fail)
            intro v6 w6 hown6 hgrow _ hloc
            have hm6 : Mod (fun x => (Value.slice oa (ordI o).length ocap).ownBlock = some x) wc w6 := ((Mod.refl _ wc).alloc _).grown hgrow (fun x hx _ => hx)
            obtain ⟨va6, vc6, hv6⟩ := own_slice hown6
            subst hv6
            have hoe : ordI (o ++ [k]) = ordI o ++ [(k : Int)] := by simp [ordI]
            have hrow6 : w6.ownsRow L 3 1 (.slice va6 ((ordI o).length + 1) vc6) (ordI (o ++ [k])).length ((ordI (o ++ [k])).map (Value.int .i64)) := by rw [hoe]; simpa using hown6
            have R := HSC.out.reordered hm6 hrow6
            have hB6 := HSC.out.blk.mod hm6 (own_ne_blk HSC.out.row HSC.out.blk (by decide))
            have c16 := hB6.cell 1 rfl
            have f16 := hB6.frozen 1
            have zg6 := hB6.lt
            have hmv6 : MovedS wc (.slice oa (ordI o).length ocap) (.slice va6 ((ordI o).length + 1) vc6) := fun x hx => by
              rcases hloc with e | e
              · exact .inl (by rw [← e]; exact hx)
              · rw [e] at hx; simp at hx; exact .inr (by omega)
            obtain ⟨w7, hw7⟩ : ∃ q, q = w6.setCell ⟨g, 1, none⟩ (.slice va6 ((ordI o).length + 1) vc6) := ⟨_, rfl⟩
            rw [← hw7] at R
            have HR := Hid.mk' R
            have HMV6 := Hid.mk' hmv6
            have HU7 := Hid.mk' (HSC.out.undo R.2 HU1.out)
            clear R hmv6 hown6 hgrow hloc hm6 hB6 hrow6 hoe c1 f1
            go_upto_region 9 with fail
            rw [← hw7]
            clear hw7 c16 f16
            go_cut [47] (fun t w8 => ∃ ov8 o8 s8 n8, ∃ okk : Bool, t = .bool okk ∧ SrchP w8 L g b n8 (.slice (some ⟨tb, toff, none⟩) ts.length tcap) ov8 ts o8 s8 ∧ n8 ≤ n1 + 40 + stores r' ∧ Mod (srchMay g b (.slice va6 ((ordI o).length + 1) vc6)) w7 w8 ∧ MovedS w7 (.slice va6 ((ordI o).length + 1) vc6) ov8 ∧ (okk = true → ∃ rest, o8 = o ++ rest ∧ goodR ts o s rest = some s8 ∧ Whole ts o8 ∧ LeastK ts o s k rest) ∧ (okk = false → o8 = o ++ [k] ∧ s8 = s1 ∧ ∀ rest s2, goodR ts o s (k :: rest) = some s2 → ¬ Whole ts (o ++ k :: rest)))
            case first =>
              cases ok with
              | false =>
                have HDN : Hid (doOps s t.ops = none) := HOK0.out rfl
                clear HOK0 HOK1
                go_wp2_with fail
                go_meet
                case rel =>
                  refine ⟨_, _, _, _, false, rfl, HR.out.1, by omega, Mod.refl _ _, MovedS.refl _ _, fun h => by simp at h, fun _ => ⟨rfl, rfl, fun rest s2 hg => ?_⟩⟩
                  obtain ⟨_, t', r2, h1, h2, _⟩ := goodR_cons hg
                  rw [HT.out] at h1
                  simp at h1
                  subst h1
                  rw [HDN.out] at h2
                  cases h2
              | true =>
                have HDY : Hid (doOps s t.ops = some (s1, us)) := HOK1.out rfl
                clear HOK0 HOK1
                have HFN := Hid.mk' (HIH.out L g b (n1 + t.ops.length) _ _ (o ++ [k]) s1 w7 HR.out.1 (List.nodup_append.2 ⟨hnd, by simp, fun a ha b hb => by simp at hb; subst hb; exact fun e => HNX.out.1 (e ▸ ha)⟩) (fun i hi => by
                  rcases List.mem_append.1 hi with hi | hi
                  · exact hin i hi
                  · simp at hi; omega) (by simp; omega) (by omega))
                go_wp2_with fail
                refine HFN.out.mono ?_
                rintro e w8 ⟨ov8, o8, s8, n8, ok8, rfl, hd⟩
                have HD := Hid.mk' hd
                clear hd
                go_wp2_with fail
                go_meet
                case rel =>
                  obtain ⟨d1, d2, d3, d4, d5, d6⟩ := HD.out
                  refine ⟨ov8, o8, s8, n8, ok8, by cases ok8 <;> rfl, d1, by omega, d3, d4, fun h => ?_, fun h => ?_⟩
                  · obtain ⟨rest, e1, e2, e3, e4⟩ := d5 h
                    refine ⟨k :: rest, by rw [e1]; simp, by rw [goodR_mk HNX.out HT.out HDY.out]; exact e2, e3, rest, rfl, fun r' s2 hg hwh => ?_⟩
                    rw [goodR_mk HNX.out HT.out HDY.out] at hg
                    exact e4 r' s2 hg (by simpa using hwh)
                  · obtain ⟨e1, e2, e3⟩ := d6 h
                    refine ⟨e1, e2, fun rest s2 hg => ?_⟩
                    rw [goodR_mk HNX.out HT.out HDY.out] at hg
                    have := e3 rest s2 hg
                    simpa using this
            case rest =>
              obtain ⟨w8, hw8⟩ : ∃ q, q = wc := ⟨_, rfl⟩
              subst hw8
              obtain ⟨ov8, o8, s8, n8, okk, rfl, hS8, hn8, hM8, hmv8, hyes, hno⟩ := hcut
              have hz5 := HM5.out.size
              have hzc := HMC.out.size
              have hz7 := HR.out.2.size
              have HMW7 : Hid (Mod (srchMay g b ov) w w7) := HM.out.srch HMV.out (((HM5.out.mono (fun _ _ e => e.elim)).trans (HMC.out.mono (fun _ _ e => .inr (.inl e)))).trans HR.out.2)
              have HMV7 : Hid (MovedS w ov (.slice va6 ((ordI o).length + 1) vc6)) := HMV.out.trans HMV6.out (by omega)
              have HMW8 := Hid.mk' (HMW7.out.srch HMV7.out hM8)
              have HMV8 := Hid.mk' (HMV7.out.trans hmv8 (by omega))
              have HU8 := Hid.mk' (HR.out.1.undo hM8 HU7.out)
              cases okk with
              | true =>
                have HYES := Hid.mk' (hyes rfl)
                have HS8 := Hid.mk' hS8
                clear hS8 hM8 hmv8 hyes hno
                go_wp2_with fail
                go_ret
                exact ⟨ov8, o8, s8, n8, true, rfl, HS8.out, by omega, HMW8.out, HMV8.out, fun _ => by obtain ⟨rest, e1, e2, e3, e4⟩ := HYES.out; exact ⟨rest, e1, e2, e3, leastR_of HNW.out HALL.out e4⟩, fun h => by simp at h⟩
              | false =>
                obtain ⟨rfl, rfl, hnone⟩ := hno rfl
                have HNONE := Hid.mk' hnone
                obtain ⟨m, hm⟩ : ∃ m, m = (ordI o).length := ⟨_, rfl⟩
                have hme : (ordI (o ++ [k])).length = m + 1 := by rw [hm]; simp [ordI]
                have htk : (ordI (o ++ [k])).take m = ordI o := by rw [hm]; simp [ordI]
                obtain ⟨a8, c8, hov8⟩ := own_slice hS8.row
                rw [hme] at hov8
                subst hov8
                obtain ⟨b8, hb8⟩ : ∃ b8, a8 = some ⟨b8, 0, none⟩ := by
                  rcases hS8.row.2 with ⟨e, _⟩ | ⟨gg, cp, cur, e, _⟩
                  · simp at e
                  · simp only [Value.slice.injEq] at e; exact ⟨gg, e.1⟩
                subst hb8
                have hcut8 := row_cut (k := m) hS8.row (by omega)
                rw [htk] at hcut8
                have hcut9 : w8.drew.ownsRow L 3 1 (.slice (some ⟨b8, 0, none⟩) m c8) (ordI o).length ((ordI o).map (Value.int .i64)) := hcut8.1
                have R := hS8.reordered ((Mod.refl _ w8).drew) hcut9
                have hmc : (m : Int) ≤ (c8 : Int) := by have := hcut8.2; omega
                have hm0 : (0 : Int) ≤ (m : Int) := by omega
                have hm8 : (m : Int) ≤ 1000 := by have := ordI_len o; omega
                have hmw : wrap64 (m : Int) = m := IntWalk.wrap64_in _ ⟨by omega, by omega⟩
                have c18 := hS8.blk.cell 1 rfl
                have c28 := hS8.blk.cell 2 rfl
                have f18 := hS8.blk.frozen 1
                have zg8 := hS8.blk.lt
                have hmi : ((m + 1 : Nat) : Int) - 1 = (m : Int) := by omega
                have hU9 := hS8.undo R.2 HU8.out
                obtain ⟨w9, hw9⟩ : ∃ q, q = (w8.setCell ⟨g, 1, none⟩ (.slice (some ⟨b8, 0, none⟩) m c8)).drew := ⟨_, rfl⟩
                rw [show w8.drew.setCell ⟨g, 1, none⟩ (.slice (some ⟨b8, 0, none⟩) m c8) = (w8.setCell ⟨g, 1, none⟩ (.slice (some ⟨b8, 0, none⟩) m c8)).drew from rfl, ← hw9] at R hU9
                have c29 := R.1.blk.cell 2 rfl
                have zg9 := R.1.blk.lt
                have HUN := Hid.mk' (vundo_any B0 b n8 s8 _ us w9 R.1.vals hU9 hbB (by omega) (by omega))
                have HR9 := Hid.mk' R
                have hz8 := HMW8.out.size
                have HMV9 : Hid (MovedS w ov (.slice (some ⟨b8, 0, none⟩) m c8)) := HMV8.out.trans (b := w8) (fun x hx => .inl hx) hz8
                have HMW9 := Hid.mk' (HMW8.out.srch HMV8.out R.2)
                clear R hU9 hcut8 hcut9 hS8 hM8 hmv8 hyes hno hnone hm htk
                go_upto_region 11 with fail
                go_region
                all_goals
                  rw [← hw9]
                  clear hw9
                  go_wp2_with fail
                  refine HUN.out.mono ?_
                  rintro e w10 ⟨rfl, hv10, hm10⟩
                  rw [HUND.out] at hv10
                  have HS10 := Hid.mk' (HR9.out.1.turned hm10 hv10)
                  have HMW10 : Hid (Mod (srchMay g b ov) w w10) := HMW9.out.trans (hm10.mono (fun _ _ e => .inr (.inl e)))
                  clear hv10 hm10 c29 c18 c28 f18
                  go_wp2_with fail
                  go_roundw
                  case rel =>
                    refine ⟨k + 1, n8 + us.length, _, by omega, by go_num, HS10.out, by rw [Nat.add_mul, Nat.one_mul]; omega, fun i rest s2 hi hg => ?_, HMW10.out, HMV9.out⟩
                    by_cases e : i = k
                    · subst e; exact HNONE.out rest s2 hg
                    · exact HALL.out i rest s2 (by omega) hg
                  case measure => simp [intOf]; omega
      · clear hall hM hmv hS
        go_wp2_with fail
        go_ret
        refine ⟨ov1, o, s, n1, false, rfl, HS.out, ?_, HM.out, HMV.out, fun h => by simp at h, fun _ => ⟨rfl, rfl, noneFits_of HNW.out (fun i rest s2 hi hg => HALL.out i rest s2 (by omega) hg)⟩⟩
        have := st1_le r (k := k) (by omega)
        omega
end Go.Proofs.YtefhgakcffhgaabDoor
