/- The program's node: a command more (grow). -/
import Derived.Test.YtefhgakcffhgaabCn7
namespace Go.Proofs.Ytefhgakcffhgaab
open Go.RowKit Go.Lib Go.Maps

def logN (s : NodeS) (l : List CmdD) : NodeS := ⟨s.id, s.epoch, s.nodes, l, s.stable⟩
def growN (s : NodeS) (c : CmdD) : NodeS × List MsgD := if tailN s then tickN (logN s (s.log ++ [c])) else (logN s (s.log ++ [c]), match nbrN s 1 with
  | none => []
  | some t => [fwdM s t s.log.length c])
theorem tailN_log (s : NodeS) (l : List CmdD) : tailN (logN s l) = tailN s := rfl
theorem nbrN_log (s : NodeS) (l : List CmdD) (wh : Int) : nbrN (logN s l) wh = nbrN s wh := rfl
theorem not_tail {s : NodeS} (hi : inN s = true) (ht : tailN s = false) : ∃ t, nbrN s 1 = some t := by
  simp only [inN, decide_eq_true_eq] at hi
  rcases placeN_cases s with e | ⟨k, e, _, hk⟩
  · omega
  · have hne : ¬ (placeN s = (s.nodes.length : Int) - 1) := by
      intro h2
      have : tailN s = true := by unfold tailN inN; rw [decide_eq_true hi, h2]; simp
      rw [this] at ht; cases ht
    obtain ⟨t, ht2⟩ : ∃ t, s.nodes[k + 1]? = some t := ⟨_, List.getElem?_eq_getElem (by omega)⟩
    refine ⟨t, ?_⟩
    have h3 : (placeN s + 1).toNat = k + 1 := by omega
    have h1 : inN s = true := by simp only [inN, decide_eq_true_eq]; exact hi
    unfold nbrN
    rw [h1, decide_eq_true (show (0 : Int) ≤ placeN s + 1 by omega), decide_eq_true (show placeN s + 1 < (s.nodes.length : Int) by omega), h3]
    simpa using ht2
theorem Mod.node {w w1 w2 : World} {g : Nat} {nv v v' : Value} (h : Mod (nodeMay g nv v) w w1) (hm : Moved w v v') (k : Mod (nodeMay g nv v') w1 w2) : Mod (nodeMay g nv v) w w2 :=
  h.trans' k (fun i hi e => by
    rcases e with e | e | e
    · exact .inl e
    · exact .inr (.inl e)
    · rcases hm with hm | hm
      · exact .inr (.inr (by rw [← hm]; exact e))
      · have := hm i e; omega)
/-- The log's row was turned, or made anew, and stored. -/
theorem NodeP.logged {w w6 : World} {L g : Nat} {nv lv v6 : Value} {s : NodeS} {cs : List CmdD} (h : NodeP w L g nv lv s) (hm6 : Mod (fun k => lv.ownBlock = some k) w w6) (hR : RowC w6 L v6 cs) (hv : v6.ownBlock = lv.ownBlock ∨ ∀ k, v6.ownBlock = some k → w.heap.size ≤ k) (hf : cs.length ≤ 500) (hst : s.stable ≤ cs.length) :
    NodeP (w6.setCell ⟨g, 3, none⟩ v6) L g nv v6 (logN s cs) ∧ Mod (nodeMay g nv lv) w (w6.setCell ⟨g, 3, none⟩ v6) := by
  obtain ⟨a1, a2, a3⟩ := h.apart
  have hb6 : Blk w6 g [.int .i64 s.id, .int .i64 s.epoch, nv, lv, .int .i64 s.stable] 106 := h.blk.mod hm6 a2
  have hb6' := hb6
  simp only [Blk] at hb6'
  have hms : Mod (oneBlock g) w6 (w6.setCell ⟨g, 3, none⟩ v6) := Mod.setBlk g 3 _
  have hqs : Qm w6 L (oneBlock g) := fun k _ e => by
    simp only [oneBlock] at e; subst e
    rintro (e | ⟨cur, fr, e⟩)
    · have := h.low; omega
    · rw [hb6'] at e; simp at e
  have hlt := h.blk.lt
  refine ⟨⟨hb6.set 3 _, h.low, own_mod (own_mod h.ns hm6 (fun k _ _ hk e => a3 k hk e)) hms (fun k _ _ hk e => a1 (by rw [hk, e])), hR.mod hms hqs (fun k hk e => ?_), h.ints, ⟨h.few.1, hf⟩, ⟨h.st.1, hst⟩⟩, ?_⟩
  · simp only [oneBlock] at e; subst e
    rcases hv with e | e
    · exact a2 (by rw [← e]; exact hk)
    · have := e _ hk; omega
  exact (hm6.mono (fun i _ e => .inr (.inr e))).setCell (p := ⟨g, 3, none⟩) (fun _ => .inl rfl) _
set_option maxRecDepth 100000 in
set_option maxHeartbeats 2000000 in
theorem grow_any (L g : Nat) (nv lv : Value) (s : NodeS) (c : CmdD) (u : Value) (w : World) (h : NodeP w L g nv lv s) (hin : inN s = true) (hro : s.log.length < 500) (hu : PairsT w L u c.writes) (hgc : goodC c) :
    Calls Try.prog 49 #[.pointer (some ⟨g, 0, none⟩), .agg #[.int .i64 c.kind, .int .i64 c.tx, .int .i64 c.time, u]] w fun e w' =>
      ∃ v lv', e = .returned v ∧ NodeP w' L g nv lv' (growN s c).1 ∧ RowM w' L v (growN s c).2 ∧ freshV w v ∧ Moved w lv lv' ∧ Mod (nodeMay g nv lv) w w' := by
  obtain ⟨i0, hi, hz0, hz1, hz2⟩ := info_parts Try.info49
  obtain ⟨ua, ucap, rfl⟩ : ∃ ua ucap, u = .slice ua c.writes.length ucap := by obtain ⟨ua, ucap, h, _⟩ := hu; exact ⟨ua, ucap, h⟩
  obtain ⟨w1, hw1⟩ : ∃ q, q = w.alloc (.cells #[.int .i64 c.kind, .int .i64 c.tx, .int .i64 c.time, .slice ua c.writes.length ucap] 49) := ⟨_, rfl⟩
  have hm1 : Mod noBlock w w1 := by rw [hw1]; exact (Mod.refl _ w).alloc _
  have hB1 : Blk w1 w.heap.size [.int .i64 c.kind, .int .i64 c.tx, .int .i64 c.time, .slice ua c.writes.length ucap] 49 := by rw [hw1]; exact Blk.new w _ _
  have h1 := h.quiet hm1
  have hz01 := hm1.size
  obtain ⟨la, lcap, hlv⟩ := h1.lg.slice
  subst hlv
  obtain ⟨c0, c1, c2, c3, c4⟩ := blkN5 h1.blk
  have f3 := h1.blk.frozen 3
  obtain ⟨x0, x1, x2, x3, _⟩ := blk4 hB1
  have hgz := h1.blk.lt
  have hbz := hB1.lt
  have HU : Hid (PairsT w1.drew L (.slice ua c.writes.length ucap) c.writes) := (hu.mod hm1 (Qm.none _ _)).mod ((Mod.refl noBlock w1).drew) (Qm.none _ _)
  have hml : c.writes.length ≤ 1000000 := by have := hgc.2; omega
  have hk63 : s.log.length + 1 ≤ maxLen := by unfold maxLen; omega
  have hk47 : (s.log.length + 1) * 48 ≤ 140737488355328 := by omega
  obtain ⟨us, hus, hrow, hps, hgd⟩ := h1.lg
  have HROW := Hid.mk' hrow
  have HPS := Hid.mk' hps
  have HGD := Hid.mk' hgd
  have HAP := Hid.mk' h1.apart
  have HN1 := Hid.mk' h1
  have hlow := h1.low
  have hst := h1.st
  clear h hu h1 hrow hps hgd
  go_enter Try.func49, Try.ntmps49
  go_upto_region 1 with fail
  rw [← hw1]
  clear hw1
  go_upto_region 2 with fail
  go_cut [] (fun wc => ∃ lv', NodeP wc L g nv lv' (logN s (s.log ++ [c])) ∧ Moved w1 (.slice la s.log.length lcap) lv' ∧ Mod (nodeMay g nv (.slice la s.log.length lcap)) w1 wc)
  case first =>
   go_region_law
      ((first
        | (go_simp; go_at_call 51; (refine (ownC_any L c _ _ HU.out hml).mono ?_; rintro e w5 ⟨uo, rfl, hown5, hm5⟩; obtain ⟨ua5, uc5, rfl⟩ := own_slice hown5; have hm35 : Mod noBlock w1 w5 := (((Mod.refl noBlock w1).drew).trans hm5); have d3 := hm35.cell c3 id; have e3 := (hm35.frozen (p := ⟨g, 3, none⟩) hgz id).trans f3; have z5 := hm35.size; have gz5 : g < w5.heap.size := Nat.lt_of_lt_of_le hgz z5; have HR5 := Hid.mk' (own_mod HROW.out hm35 (fun _ _ _ _ => id))))
        | (refine step_append_lies _ (by rfl) _ _ _ (by rfl) L 49 i0 _ 4 48 Try.underlying40 hi hz0 hz1 hz2 rfl (by omega) _ _ _ (by rfl) (HR5.out.alloc _) ⟨w5.heap.size, 0, none⟩ 1 1 (cmdCells c (.slice ua5 c.writes.length uc5)) (by rfl) (by rfl) (World.news_of_block (heap_alloc_new w5 _)) (cmd_one _ _ _ _) (by omega) hk63 hk47 (by simp; omega) _ rfl ?_; intro g6 cap6 w6 hown6 hgrow hat hlt6; have hm56 : Mod (fun k => (Value.slice la s.log.length lcap).ownBlock = some k) w5 w6 := ((Mod.refl _ w5).alloc _).grown hgrow (fun x hx _ => hx); have d6 := hm56.cell d3 HAP.out.2.1; have e6 := (hm56.frozen (p := ⟨g, 3, none⟩) (Nat.lt_of_lt_of_le hgz z5) HAP.out.2.1).trans e3)
        | fail))
   all_goals
    have hN5 := HN1.out.quiet hm35
    have hR6 : RowC w6 L (.slice (some ⟨g6, 0, none⟩) (s.log.length + 1) cap6) (s.log ++ [c]) := RowC.snoc hus (own_mod HROW.out hm35 (fun _ _ _ _ => id)) (fun i m u h1 h2 => (HPS.out i m u h1 h2).mod hm35 (Qm.none _ _)) HGD.out (PairsT.of_own hown5) hgc hm56 hown6
    have hloc : (Value.slice (some ⟨g6, 0, none⟩) (s.log.length + 1) cap6).ownBlock = (Value.slice la s.log.length lcap).ownBlock ∨ ∀ k, (Value.slice (some ⟨g6, 0, none⟩) (s.log.length + 1) cap6).ownBlock = some k → w5.heap.size ≤ k := by
      rcases hat with e | e
      · exact .inl (by rw [e]; rfl)
      · exact .inr (fun k hk => by simp [Value.ownBlock] at hk; simp at e; omega)
    have R := hN5.logged hm56 hR6 hloc (by simp; omega) (by simp; omega)
    have HR := Hid.mk' R
    have HL : Hid (Moved w1 (.slice la s.log.length lcap) (.slice (some ⟨g6, 0, none⟩) (s.log.length + 1) cap6)) := by
      rcases hloc with e | e
      · exact .inl e
      · exact .inr (fun k hk => Nat.le_trans z5 (e k hk))
    have HM : Hid (Mod (nodeMay g nv (.slice la s.log.length lcap)) w1 w5) := hm35.mono (fun _ _ e => e.elim)
    clear R hR6 hown6 hgrow hat hloc hown5 hN5
    go_wp2_with fail
    go_meet
    case rel => exact ⟨_, HR.out.1, HL.out, HM.out.trans HR.out.2⟩
  case rest =>
    obtain ⟨lv2, hN2, hmv2, hm2⟩ := hcut
    clear HROW HPS HGD HAP HN1 HU c0 c1 c2 c3 c4 f3 x0 x1 x2 x3 hgz hbz hB1
    have HT := Hid.mk' (tail_any L g nv lv2 _ wc hN2)
    rw [tailN_log] at HT
    have hmv : Moved w (.slice la s.log.length lcap) lv2 := by
      rcases hmv2 with e | e
      · exact .inl e
      · exact .inr (fun k hk => Nat.le_trans hz01 (e k hk))
    have hm02 : Mod (nodeMay g nv (.slice la s.log.length lcap)) w wc := (hm1.mono (fun _ _ e => e.elim)).trans hm2
    have hz02 := hm02.size
    go_wp2_with fail
    refine HT.out.mono ?_
    rintro e w3 ⟨rfl, m3, rfl⟩
    have hN3 := hN2.drewN m3
    have hm03 : Mod (nodeMay g nv (.slice la s.log.length lcap)) w (wc.drewN m3) := hm02.drewN m3
    cases ht : tailN s with
    | true =>
      have HG : Hid (growN s c = tickN (logN s (s.log ++ [c]))) := by rw [Hid, growN, ht]; rfl
      have HK := Hid.mk' (ctick_any L g nv lv2 _ _ hN3)
      clear HT hN2 hN3 hm2 hmv2
      go_wp2_with fail
      refine HK.out.mono ?_
      rintro e w4 ⟨v, rfl, hN4, hR4, hf4, hm4⟩
      clear HK
      go_wp2_with fail
      go_ret
      exact ⟨v, lv2, rfl, by rw [HG.out]; exact hN4, by rw [HG.out]; exact hR4, fun k hk => Nat.le_trans hz02 (hf4 k hk), hmv, hm03.node hmv (hm4.mono (fun i _ e => .inl e))⟩
    | false =>
      obtain ⟨t, hnt⟩ := not_tail hin ht
      have HG : Hid (growN s c = (logN s (s.log ++ [c]), [fwdM s t s.log.length c])) := by rw [Hid, growN, ht, hnt]; rfl
      have HF := forward_any L g nv lv2 (logN s (s.log ++ [c])) t s.log.length _ hN3 hnt (by omega)
      have hfl : fwdL (logN s (s.log ++ [c])) t s.log.length 1 = [fwdM s t s.log.length c] := by
        simp [fwdL, fwdM, logN]
      rw [Int.toNat_natCast, show (logN s (s.log ++ [c])).log.length - s.log.length = 1 by simp [logN], hfl] at HF
      have HF' := Hid.mk' HF
      have HN3 := Hid.mk' hN3
      clear HT hN2 hN3 hm2 hmv2 HF hfl
      go_wp2_with fail
      refine HF'.out.mono ?_
      rintro e w4 ⟨v, rfl, hR4, hf4, hm4⟩
      clear HF'
      go_wp2_with fail
      go_ret
      exact ⟨v, lv2, rfl, by rw [HG.out]; exact HN3.out.quiet hm4, by rw [HG.out]; exact hR4, fun k hk => Nat.le_trans hz02 (hf4 k hk), hmv, hm03.trans (hm4.mono (fun _ _ e => e.elim))⟩
end Go.Proofs.Ytefhgakcffhgaab
