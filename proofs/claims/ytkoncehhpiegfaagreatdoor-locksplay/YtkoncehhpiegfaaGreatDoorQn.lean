/- Package locks: keep, the walk. -/
import Derived.Test.YtkoncehhpiegfaaGreatDoorQm
import Derived.ChangeMaps5
namespace Go.Proofs.YtkoncehhpiegfaaGreatDoor
open Go.RowKit Go.Lib Go.Maps
set_option linter.unusedVariables false

theorem MapQ.get {w : World} {B n g : Nat} {m : Option Nat} {hd : ByteArray → Bool → Value} {s : Tab} (h : MapQ w B m n hd s) (hm : m = some g) : B ≤ g ∧ ∃ D, w.ownsMap Tryz.prog 9 elemQ g n D ∧ ∀ k, okQ k → D.atKey (keyQ k) zeroK = encK (hd k true) (hd k false) ∧ (Maps.has D (keyQ k) = true ↔ ¬ (s k).bare) := by
  subst hm; exact h
set_option maxRecDepth 100000 in
set_option maxHeartbeats 8000000 in
theorem keep_any (B N N' : Nat) (q : TbM) (s : Tab) (name : ByteArray) (v : Bool → Value) (k' : KeyS) (w : World) (h : TbX w B N q s (· = name)) (hn : okQ name) (hk : KeptQ w B q name v k') (hok : KeyOK k') (hN : k'.held.length + k'.waits.length ≤ N') (hNN : N ≤ N') (hqn : q.n ≤ 1000000) (hB : B ≤ w.heap.size) :
    Calls Tryz.prog 22 #[.pointer (some ⟨q.b, q.pre.length, none⟩), .string name, .agg #[v true, v false]] w fun e w' => e = .returned (.tuple #[]) ∧ ∃ q', KeepQ w w' B N' q q' s name v k' := by
  have hkl : Hid (keyOf Tryz.prog 9 (.string name) = some (keyQ name)) := Go.WideMaps.keyOf_string_mk Tryz.underlying9 hn
  obtain ⟨ha, hcap, hhv⟩ := own_slice (hk.row true)
  obtain ⟨wa, wcap, hwv⟩ := own_slice (hk.row false)
  have e1 : k'.list true = k'.held := rfl
  have e2 : k'.list false = k'.waits := rfl
  rw [e1] at hhv
  rw [e2] at hwv
  obtain ⟨w1, hw1⟩ : ∃ x, x = w.alloc (.cells #[v true, v false] 59) := ⟨_, rfl⟩
  have hm1 : Mod noBlock w w1 := by rw [hw1]; exact (Mod.refl _ w).alloc _
  have hb1 : Blk w1 w.heap.size [v true, v false] 59 := by rw [hw1]; exact Blk.new w [v true, v false] 59
  have p0 := hb1.cell 0 rfl
  have p1 := hb1.cell 1 rfl
  have hz1 := hb1.lt
  have h1 := h.mod hm1 id (fun _ _ => id)
  have c0 := h1.cell
  have hzb := h1.blk.lt
  have HT := Hid.mkq h
  have HT1 := Hid.mkq h1
  have HK := Hid.mkq hk
  have HM1 := Hid.mkq hm1
  have HOK := Hid.mkq hok
  have HB1 := Hid.mkq hb1
  have HW : Hid (w1.heap.size = w.heap.size + 1) := by rw [hw1, Hid]; simp
  rw [hhv] at p0
  rw [hwv] at p1
  rw [hhv, hwv] at hw1
  rw [hhv, hwv]
  have HHV := Hid.mkq hhv
  have HWV := Hid.mkq hwv
  have hqb : q.b < w.heap.size := h.blk.lt
  clear h hk hok hm1 hb1 h1 hhv hwv e1 e2
  generalize hlh : k'.held.length = lh at p0 p1 hw1 HHV hN
  generalize hlw : k'.waits.length = lw at p0 p1 hw1 HWV hN
  by_cases hbare : lh = 0 ∧ lw = 0
  · obtain ⟨rfl, rfl⟩ := hbare
    have HBR : Hid k'.bare := ⟨List.eq_nil_of_length_eq_zero hlh, List.eq_nil_of_length_eq_zero hlw⟩
    cases hm : q.m with
    | none =>
      have hdn : ∀ ty (w : World), (Builtin.delete_ #[23, 9] ty #[.map none, .string name]).run Tryz.prog w = .ok (.tuple #[]) w := fun ty w => Go.ChangeMaps.run_delete_nil Tryz.underlying23 Tryz.underlying9 name
      rw [hm] at c0
      have HQ := Hid.mkq (keep_none (v := v) HT.out hn HBR.out hNN HM1.out hm)
      clear hm hlh hlw
      go_enter Tryz.func22, Tryz.ntmps22
      go_upto_region 1 with fail
      rw [← hw1]
      clear hw1
      go_wp2_with fail
      first
        | go_end0
        | refine bodyPost_ret (results_none rfl _ _ _) rfl ?_
      exact ⟨rfl, HQ.out⟩
    | some g =>
      rw [hm] at c0
      obtain ⟨hBg, D, hown, hD⟩ := HT1.out.map.get hm
      have HO := Hid.mkq hown
      have HD := Hid.mkq hD
      have HQM := Hid.mkq hm
      clear hm hlh hlw hown hD
      go_enter Tryz.func22, Tryz.ntmps22
      go_upto_region 1 with fail
      rw [← hw1]
      clear hw1
      go_wp2_with (first
        | (at_delete; refine wpList_delete_own _ rfl _ _ 23 9 rfl 59 kStrQ Tryz.underlying23 elemQ g q.n D rfl HO.out _ (keyQ name) rfl hkl.out ?_)
        | fail)
      intro w2 hown2 hturn2
      have hm2 : Mod (oneBlock g) w1 w2 := (Mod.refl _ w1).grown hturn2.grown (fun x hx _ => by simp only [oneBlock]; simpa using hx.symm)
      have HQ := Hid.mkq (keep_del (v := v) HT.out hn HBR.out hNN HM1.out HQM.out hBg HD.out hown2 hm2)
      clear hown2 hturn2 hm2
      go_wp2_with fail
      first
        | go_end0
        | refine bodyPost_ret (results_none rfl _ _ _) rfl ?_
      exact ⟨rfl, HQ.out⟩
  · have HBR : Hid (¬ k'.bare) := fun e => hbare ⟨by rw [← hlh, e.1]; rfl, by rw [← hlw, e.2]; rfl⟩
    have hen := eqlMapQ q.m w1
    have hmm := run_makeMapQ
    have HLEN : Hid (k'.held.length + k'.waits.length ≤ N') := by rw [Hid, hlh, hlw]; exact hN
    have hf0 := HT1.out.blk.frozen q.pre.length
    have HKP : Hid (∀ wc, Mod (oneBlock q.b) w1 wc → KeptQ wc B q name v k') := fun wc hmc => by
      have hmw : Mod (oneBlock q.b) w wc := (HM1.out.mono (fun _ _ e => e.elim)).trans hmc
      refine ⟨fun i => (HK.out.row i).mod hmw (fun x hx e => ?_), HK.out.ne, HK.out.out⟩
      simp only [oneBlock] at e
      subst e
      obtain ⟨_, _, cur, hc⟩ := own_cellsVQ (HK.out.row i) hx
      have := HT.out.blk
      unfold Blk at this
      rw [hc] at this
      simp at this
      exact HT.out.bt this.2.symm
    clear hlh hlw
    go_enter Tryz.func22, Tryz.ntmps22
    go_upto_region 1 with fail
    rw [← hw1]
    clear hw1
    have hg0 : (lh = 0 ∧ ¬ lw = 0) ∨ ¬ lh = 0 := by omega
    go_cut [15] (fun b15 wc => b15 = .bool false ∧ wc = w1)
    case first =>
      rcases hg0 with ⟨rfl, hg1⟩ | hg1
      · have hi1 : ¬ (lw : Int) = 0 := by omega
        go_wp2_with fail
        go_meet
        case rel => exact ⟨by first | (simp; done) | (simp; omega), rfl⟩
      · have hi1 : ¬ (lh : Int) = 0 := by omega
        go_wp2_with fail
        go_meet
        case rel => exact ⟨by first | (simp; done) | (simp; omega), rfl⟩
    case rest =>
      obtain ⟨rfl, hwc0⟩ := hcut
      rw [hwc0]
      clear hwc0
      go_upto_if 25 with fail
      go_cut [] (fun wc => ∃ (g n2 : Nat), TbX wc B N { q with m := some g, n := n2 } s (· = name) ∧ n2 ≤ q.n ∧ Mod (oneBlock q.b) w1 wc ∧ (q.m = some g ∨ w1.heap.size ≤ g))
      case first =>
        cases hqm : q.m with
        | none =>
          have HPN := Hid.mkq (keep_new HT1.out (Nat.le_trans hB HM1.out.size) hqm)
          have hqi : q.m.isNone = true := by rw [hqm]; rfl
          have HQM := Hid.mkq hqm
          clear hqm
          go_wp2_with fail
          go_meet
          case rel => exact ⟨w1.heap.size, 0, HPN.out.1, Nat.zero_le _, HPN.out.2, .inr (Nat.le_refl _)⟩
        | some g =>
          have HPS : Hid (TbX w1 B N { q with m := some g, n := q.n } s (· = name)) := by
            have : ({ q with m := some g, n := q.n } : TbM) = q := by rw [← hqm]
            rw [this]; exact HT1.out
          have hqi : q.m.isNone = false := by rw [hqm]; rfl
          have HQM := Hid.mkq hqm
          clear hqm
          go_wp2_with fail
          go_meet
          case rel => exact ⟨g, q.n, HPS.out, Nat.le_refl _, Mod.refl _ _, .inl HQM.out⟩
      case rest =>
        obtain ⟨g, n2, hS, hn2, hm3, hgq⟩ := hcut
        obtain ⟨q2, hq2⟩ : ∃ x : TbM, x = { q with m := some g, n := n2 } := ⟨_, rfl⟩
        rw [← hq2] at hS
        have hmm2 : q2.m = some g := by rw [hq2]
        have hnn2 : q2.n = n2 := by rw [hq2]
        have hSd : TbX wc.drew B N q2 s (· = name) := hS.mod ((Mod.refl noBlock wc).drew) id (fun _ _ => id)
        obtain ⟨hBg, D, hown, hD⟩ := hSd.map.get hmm2
        have hmw : Mod (oneBlock q.b) w1 wc.drew := hm3.drew
        have hKP : KeptQ wc.drew B q2 name v k' := by
          have h9 := HKP.out wc.drew hmw
          exact ⟨h9.row, h9.ne, by rw [hq2]; exact h9.out⟩
        obtain ⟨w7, hrun7, hown7, hturn7⟩ := hown.store kStrQ Tryz.underlying23 (by rw [hnn2]; unfold maxLen; omega) hkl.out (elemQ_mk (own_hdrQ (HK.out.row true)) (own_hdrQ (HK.out.row false)))
        have hm7 : Mod (oneBlock g) wc.drew w7 := (Mod.refl _ wc.drew).grown hturn7.grown (fun x hx _ => by simp only [oneBlock]; simpa using hx.symm)
        have HFIN : Hid (∃ q', KeepQ w w7 B N' q q' s name v k') := by
          obtain ⟨q', hQ⟩ := keep_put hSd hn hKP HOK.out HLEN.out hNN HBR.out hmm2 hBg hown hD hown7 hm7
          refine ⟨q', ⟨hQ.tb, by rw [hQ.b, hq2], by rw [hQ.pre, hq2], by rw [hQ.post, hq2], by rw [hQ.t, hq2], by have := hQ.n1; omega, fun hb => by have := hQ.n0 hb; omega, ?_, fun x hx => ?_⟩⟩
          · have a1 : Mod (oneBlock q.b) w wc.drew := (HM1.out.mono (fun _ _ e => e.elim)).trans hmw
            refine (a1.mono (G' := fun x => x = q.b ∨ q.m = some x) (fun x _ e => .inl e)).trans' hm7 (fun x hx e => ?_)
            simp only [oneBlock] at e
            rcases hgq with e2 | e2
            · exact .inr (by rw [e2, e])
            · have := HM1.out.size; omega
          · have hz3 := hmw.size
            have hz1' := HM1.out.size
            rcases hQ.own x hx with h3 | h3 | h3
            · rw [hq2] at h3
              rcases h3 with h3 | h3
              · simp at h3
                rcases hgq with e2 | e2
                · exact .inl (.inl (by rw [e2, h3]))
                · exact .inr (.inl (by omega))
              · exact .inl (.inr h3)
            · exact .inr (.inl (by omega))
            · exact .inr (.inr h3)
        have x0 : wc.cell? ⟨q.b, q.pre.length, none⟩ = some (.map (some g)) := by have := hS.cell; rw [hq2] at this; exact this
        have zb : q.b < wc.heap.size := Nat.lt_of_lt_of_le hzb hm3.size
        have hne : w.heap.size ≠ q.b := by omega
        have y0 := hm3.cell p0 hne
        have y1 := hm3.cell p1 hne
        have zk : w.heap.size < wc.heap.size := Nat.lt_of_lt_of_le hz1 hm3.size
        rw [HHV.out, HWV.out] at hrun7
        clear hS hSd hown hD hKP hown7 hturn7 hm7 hmw hm3 hgq hq2 hmm2 hnn2 hen hmm
        go_upto_region 5 with fail
        go_region
        all_goals
          go_wp2_with fail
          first
            | go_end0
            | refine bodyPost_ret (results_none rfl _ _ _) rfl ?_
          exact ⟨rfl, HFIN.out⟩
end Go.Proofs.YtkoncehhpiegfaaGreatDoor
