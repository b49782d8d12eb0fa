/- Package mv: Put. -/
import Derived.Test.YtefhgakcffhgaaaDoorMf
import Derived.Test.YtefhgakcffhgaaaDoorRc
namespace Go.Proofs.YtefhgakcffhgaaaDoor
open Go.RowKit Go.Lib Go.Maps
set_option linter.unusedVariables false

def updV (s : Vers) (k : ByteArray) (l : List VerD) : Vers := fun x => if x = k then l else s x
def updH (h : ByteArray → Value) (k : ByteArray) (v : Value) : ByteArray → Value := fun x => if x = k then v else h x
/-- What Put comes to. -/
def PutP (w : World) (B : Nat) (q : StM) (s : Vers) (k : ByteArray) (d : VerD) (e : Ending) (w' : World) : Prop :=
  e = .returned .nilIface ∧ ∃ q', StP w' B q' (updV s k (insV (s k) d)) ∧ q'.b = q.b ∧ q'.low = q.low ∧ q'.n ≤ q.n + 1 ∧ Mod q.own w w' ∧ ∀ x, q'.own x → q.own x ∨ w.heap.size ≤ x
theorem put_new {w : World} {B : Nat} {q : StM} {s : Vers} (h : StP w B q s) (hB : B ≤ w.heap.size) (hm : q.m = none) :
    StP ((w.setCell ⟨q.b, 1, none⟩ (.map (some w.heap.size))).alloc (.map #[] 0)) B { q with m := some w.heap.size, n := 0 } s ∧ Mod (oneBlock q.b) w ((w.setCell ⟨q.b, 1, none⟩ (.map (some w.heap.size))).alloc (.map #[] 0)) := by
  have hmo : Mod (oneBlock q.b) w ((w.setCell ⟨q.b, 1, none⟩ (.map (some w.heap.size))).alloc (.map #[] 0)) := (Mod.setBlk _ _ _).alloc _
  have hlt := h.blk.lt
  have hmap := h.map
  rw [hm] at hmap
  refine ⟨⟨?_, h.base, ⟨hB, .map [], ?_, fun k hk => ?_⟩, fun k hk => (h.rows k hk).mod hmo (fun x hx e => ?_), h.apart, h.rise, h.few⟩, hmo⟩
  · exact (h.blk.set 1 _).mod ((Mod.refl noBlock _).alloc _) id
  · have h1 := World.ownsMap_made (w.setCell ⟨q.b, 1, none⟩ (.map (some w.heap.size))) Tryd.prog 9 hdrElem
    simpa using h1
  · obtain ⟨h1, h2⟩ := hmap k hk
    show DataW.atKey (.map []) (keyL k) .nil = encH (q.hd k) ∧ _
    rw [h1, h2]
    exact ⟨rfl, by simp [has]⟩
  · simp only [oneBlock] at e
    exact (h.row_ne hk hx).1 e
theorem put_map {w w6 w7 : World} {B g n : Nat} {q : StM} {s : Vers} {k : ByteArray} {d : VerD} {u : Value} {D : DataW Unit} (h : StP w B q s) (hk : okK k) (hd : okVer d) (hm : q.m = some g) (hBg : B ≤ g) (hno : ∀ v ∈ s k, v.time ≠ d.time) (hfew : (s k).length ≤ 800)
    (hD : IsMap D) (h2 : ∀ k, okK k → D.atKey (keyL k) .nil = encH (q.hd k) ∧ (Maps.has D (keyL k) = true ↔ s k ≠ []))
    (hrow : w6.ownsRow B 162 3 u ((s k).length + 1) (versCells (insV (s k) d))) (hm6 : Mod (fun b => (q.hd k).ownBlock = some b) w w6) (hat : u.ownBlock = (q.hd k).ownBlock ∨ ∀ b, u.ownBlock = some b → w.heap.size ≤ b)
    (h7 : w7.ownsMap Tryd.prog 9 hdrElem g n (D.put (keyL k) (encH u))) (hm7 : Mod (oneBlock g) w6 w7) :
    StP w7 B { q with n := n, hd := updH q.hd k u } (updV s k (insV (s k) d)) ∧ Mod q.own w w7 ∧ ∀ x, ({ q with n := n, hd := updH q.hd k u } : StM).own x → q.own x ∨ w.heap.size ≤ x := by
  have hg : g < w.heap.size := (h.lt (.inr (.inl hm))).2
  have hux : ∀ x, u.ownBlock = some x → q.own x ∨ w.heap.size ≤ x := fun x hx => by
    rcases hat with e | e
    · exact .inl (.inr (.inr ⟨k, hk, by rw [← e]; exact hx⟩))
    · exact .inr (e x hx)
  have hune : ∀ x, u.ownBlock = some x → x ≠ g := fun x hx e => by
    subst e
    rcases hat with e | e
    · rw [e] at hx; exact (h.row_ne hk hx).2 hm
    · have := e x hx; omega
  refine ⟨⟨?_, h.base, ?_, fun x hx => ?_, fun x y z hx hy h1 h2 => ?_, fun x hx => ?_, fun x hx => ?_⟩, ?_, ?_⟩
  · exact (h.blk.mod hm6 (fun e => (h.row_ne hk e).1 rfl)).mod hm7 (fun e => by simp only [oneBlock] at e; exact h.map_ne (by rw [hm, e]))
  · show MapP w7 B q.m n (updH q.hd k u) _
    rw [hm]
    refine ⟨hBg, _, h7, fun x hx => ?_⟩
    unfold updH updV
    by_cases e : x = k
    · subst e
      rw [if_pos rfl, if_pos rfl, has_put_same hD (by simp [WideAt.IsKeyLit, keyL]), atKey_put_same hD (by simp [WideAt.IsKeyLit, keyL])]
      refine ⟨rfl, ⟨fun _ e => ?_, fun _ => rfl⟩⟩
      have := ins_len (s x) d
      rw [e] at this
      simp at this
    · have hne : keyL x ≠ keyL k := fun e2 => e (keyL_inj e2)
      rw [if_neg e, if_neg e, has_put_other hne, atKey_put_other hne]
      exact h2 x hx
  · show RowV w7 B (updH q.hd k u x) _
    unfold updH updV
    by_cases e : x = k
    · subst e
      rw [if_pos rfl, if_pos rfl]
      refine ⟨?_, fun o ho => ?_⟩
      · rw [ins_len]
        exact own_mod hrow hm7 (fun y _ _ hy e => by simp only [oneBlock] at e; exact hune y hy e)
      · rcases ins_mem.1 ho with rfl | ho
        · exact hd
        · exact (h.rows x hx).2 o ho
    · rw [if_neg e, if_neg e]
      exact ((h.rows x hx).mod hm6 (fun y hy hy2 => e (h.apart x k y hx hk hy hy2))).mod hm7 (fun y hy e2 => by simp only [oneBlock] at e2; exact (h.row_ne hx hy).2 (by rw [hm, e2]))
  · simp only [updH] at h1 h2
    by_cases e1 : x = k
    · by_cases e2 : y = k
      · rw [e1, e2]
      · rw [if_pos e1] at h1
        rw [if_neg e2] at h2
        exfalso
        rcases hat with e | e
        · rw [e] at h1; exact e2 (h.apart y k z hy hk h2 h1)
        · have q1 := e z h1
          have q2 := (own_cellsV (h.rows y hy).1 h2).2.1
          omega
    · rw [if_neg e1] at h1
      by_cases e2 : y = k
      · rw [if_pos e2] at h2
        exfalso
        rcases hat with e | e
        · rw [e] at h2; exact e1 (h.apart x k z hx hk h1 h2)
        · have q1 := e z h2
          have q2 := (own_cellsV (h.rows x hx).1 h1).2.1
          omega
      · rw [if_neg e2] at h2
        exact h.apart x y z hx hy h1 h2
  · unfold updV
    by_cases e : x = k
    · rw [if_pos e]
      exact ins_rising (h.rise k hk) hno
    · rw [if_neg e]; exact h.rise x hx
  · unfold updV
    by_cases e : x = k
    · rw [if_pos e, ins_len]; omega
    · rw [if_neg e]; exact h.few x hx
  · refine (hm6.mono (G' := q.own) (fun x _ e => .inr (.inr ⟨k, hk, e⟩))).trans' hm7 (fun x _ e => ?_)
    simp only [oneBlock] at e
    exact .inr (.inl (by rw [hm, e]))
  · intro x hx
    rcases hx with hx | hx | ⟨y, hy, hx⟩
    · exact .inl (.inl hx)
    · exact .inl (.inr (.inl hx))
    · simp only [updH] at hx
      by_cases e : y = k
      · rw [if_pos e] at hx; exact hux x hx
      · rw [if_neg e] at hx; exact .inl (.inr (.inr ⟨y, hy, hx⟩))
theorem eqlMapV (m : Option Nat) (w : World) : (binOp .eql 79 (.map m) (.map none)).run Tryd.prog w = .ok (.bool m.isNone) w := by cases m <;> kernel_rfl
theorem run_makeMapV (w : World) : (Instr.makeMap 79 none).run Tryd.prog w = .ok (.map (some w.heap.size)) (w.alloc (.map #[] 0)) := by kernel_rfl
set_option maxRecDepth 100000 in
set_option maxHeartbeats 16000000 in
theorem put_yes (q : StM) (B : Nat) (s : Vers) (t : Int) (key value : ByteArray) (gone : Bool) (w : World) (h : StP w B q s) (hB : B ≤ w.heap.size) (hr1 : 0 ≤ t) (hr2 : t ≤ 1099511627776) (hk : key.size ≤ 20) (hv : value.size ≤ 40) (hlow : q.low ≤ t) (hno : ∀ v ∈ s key, v.time ≠ t) (hfew : (s key).length ≤ 800) (hn : q.n ≤ 1000) :
    Calls Tryd.prog 38 #[.pointer (some ⟨q.b, 0, none⟩), .int .i64 t, .agg #[.string key, .string value, .bool gone]] w (PutP w B q s key (madeV t value gone)) := by
  have hkk : okK key := by unfold okK maxLen; omega
  have hvd : okVer (madeV t value gone) := by unfold okVer madeV maxLen; split <;> simp <;> omega
  obtain ⟨w1, hw1⟩ : ∃ x, x = w.alloc (.cells #[.string key, .string value, .bool gone] 84) := ⟨_, rfl⟩
  have hM1 : Mod noBlock w w1 := by rw [hw1]; exact (Mod.refl _ w).alloc _
  obtain ⟨pb, hpb⟩ : ∃ x, x = w.heap.size := ⟨_, rfl⟩
  have hP1 : Blk w1 pb [.string key, .string value, .bool gone] 84 := by rw [hw1, hpb]; exact Blk.new w [.string key, .string value, .bool gone] 84
  have h1 := h.mod hM1 (fun _ _ => id)
  have hbp : q.b ≠ pb := by have := h.blk.lt; omega
  have HH := Hid.mk'' h1
  have HW1 := Hid.mk'' hw1
  have HM1 := Hid.mk'' hM1
  have HP1 := Hid.mk'' hP1
  have HPB := Hid.mk'' hpb
  have c0 := h1.blk.cell 0 rfl
  have c1 := h1.blk.cell 1 rfl
  have z0 := h1.blk.lt
  have p0 := hP1.cell 0 rfl
  have p1 := hP1.cell 1 rfl
  have zp := hP1.lt
  have hlook := (h1.mod ((Mod.refl noBlock w1).drew) (fun _ _ => id)).look hkk
  have HBY := Hid.mk'' (fun wq (hq : Mod noBlock w1 wq) => by_any w1.heap.size (q.hd key) (s key) t wq ((h1.vers hkk).mod hq (fun _ _ => id)) hq.size (h1.rise key hkk) (by omega))
  have HNO := Hid.mk'' hno
  obtain ⟨la, lcap, hhd⟩ := own_slice (h1.rows key hkk).1
  have HHD := Hid.mk'' hhd
  rw [hhd] at hlook HBY
  have d1 : decide (t < 0) = false := decide_eq_false (by omega)
  have d2 : decide (t > 1099511627776) = false := decide_eq_false (by omega)
  have d3 : decide ((key.size : Int) > 20) = false := decide_eq_false (by omega)
  have d4 : decide ((value.size : Int) > 40) = false := decide_eq_false (by omega)
  have d5 : decide (t < q.low) = false := decide_eq_false (by omega)
  have hmm := run_makeMapV
  have hbl := byN_le (s key) t
  clear h h1 hM1 hP1 hno hhd
  go_enter Tryd.func38, Tryd.ntmps38
  go_upto_region 1 with fail
  rw [← hpb, ← hw1]
  clear hw1 hpb
  go_upto_region 7 with fail
  go_region
  go_wp2_with fail
  refine (HBY.out _ ((Mod.refl noBlock w1).drew)).mono ?_
  rintro e w2 ⟨rfl, hm2⟩
  have hm12 : Mod noBlock w1 w2 := ((Mod.refl noBlock w1).drew).trans hm2
  have h2 := HH.out.mod hm12 (fun _ _ => id)
  have HP2 := Hid.mk'' (HP1.out.mod hm12 id)
  have e0 := h2.blk.cell 0 rfl
  have e1 := h2.blk.cell 1 rfl
  have f1 := h2.blk.frozen 1
  have y0 := h2.blk.lt
  have HM2 := Hid.mk'' (HM1.out.trans hm12)
  have HH2 := Hid.mk'' h2
  have hsz12 := hm12.size
  clear HBY hm2 hlook hm12
  -- whether there is one of that time
  have hno2 : byN (s key) t = 0 ∨ ∃ (m : Nat) (d : VerD) (b off : Nat), byN (s key) t = m + 1 ∧ m < (s key).length ∧ la = some ⟨b, off, none⟩ ∧ w2.cell? ⟨b, off + m * 3, none⟩ = some (.int .i64 d.time) ∧ (d.time == t) = false := by
    rcases Nat.eq_zero_or_pos (byN (s key) t) with h0 | h0
    · exact .inl h0
    · obtain ⟨d, hd⟩ : ∃ d, (s key)[byN (s key) t - 1]? = some d := ⟨_, List.getElem?_eq_getElem (by omega)⟩
      have hvv := h2.vers hkk
      rw [HHD.out] at hvv
      obtain ⟨b, off, e, _, _, q0, _⟩ := hvv.at hd
      exact .inr ⟨byN (s key) t - 1, d, b, off, by omega, by omega, e, q0, by simpa using HNO.out d (List.mem_of_getElem? hd)⟩
  clear h2 c0 c1 z0 p0 p1 zp
  generalize hbn : byN (s key) t = n at hno2 hbl
  have HBN := Hid.mk'' hbn
  clear hbn
  rcases hno2 with h0 | ⟨m, d, b, off, hnm, hml, rfl, q0, hdt⟩
  · subst h0
    have hen := eqlMapV q.m w2
    go_upto_if 61 with fail
    go_cut [] (fun wc => ∃ (g n2 : Nat), StP wc B { q with m := some g, n := n2 } s ∧ n2 ≤ q.n ∧ Mod (oneBlock q.b) w2 wc ∧ (q.m = some g ∨ w2.heap.size ≤ g))
    case first =>
      cases hqm : q.m with
      | none =>
        have HPN := Hid.mk'' (put_new HH2.out (Nat.le_trans hB HM2.out.size) hqm)
        have hqi : q.m.isNone = true := by rw [hqm]; rfl
        have HQM := Hid.mk'' hqm
        clear hqm
        go_wp2_with fail
        go_meet
        case rel => exact ⟨w2.heap.size, 0, HPN.out.1, Nat.zero_le _, HPN.out.2, .inr (Nat.le_refl _)⟩
      | some g =>
        have HPS : Hid (StP w2 B { q with m := some g, n := q.n } s) := by rw [← hqm]; exact HH2.out
        have hqi : q.m.isNone = false := by rw [hqm]; rfl
        have HQM := Hid.mk'' hqm
        clear hqm
        go_wp2_with fail
        go_meet
        case rel => exact ⟨g, q.n, HPS.out, Nat.le_refl _, Mod.refl _ _, .inl HQM.out⟩
    case rest =>
      obtain ⟨g, n2, hS, hn2, hm3, hgq⟩ := hcut
      obtain ⟨wk, hwk⟩ : ∃ x, x = wc := ⟨_, rfl⟩
      subst hwk
      obtain ⟨q2, hq2⟩ : ∃ x : StM, x = { q with m := some g, n := n2 } := ⟨_, rfl⟩
      rw [← hq2] at hS
      have hb2 : q2.b = q.b := by rw [hq2]
      have hh2 : q2.hd = q.hd := by rw [hq2]
      have hmm2 : q2.m = some g := by rw [hq2]
      have hrowk := (hS.rows key hkk)
      rw [hh2] at hrowk
      have x1 : wk.cell? ⟨q.b, 1, none⟩ = some (.map (some g)) := by have := hS.blk.cell 1 rfl; rw [hb2, hmm2] at this; exact this
      have zb : q.b < wk.heap.size := by have := hS.blk.lt; rw [hb2] at this; exact this
      have HP3 := Hid.mk'' (HP2.out.mod hm3 (by simp only [oneBlock]; exact fun e => hbp e.symm))
      have y0 := HP3.out.cell 0 rfl
      have y1 := HP3.out.cell 1 rfl
      have y2 := HP3.out.cell 2 rfl
      have zp := HP3.out.lt
      have HN1 : Hid (¬ (q.hd key).ownBlock = some q.b) := fun e => by have := hS.row_ne hkk (x := q.b) (by rw [hh2]; exact e); exact this.1 hb2.symm
      have HNP : Hid (¬ (q.hd key).ownBlock = some pb) := fun e => by have h1 := (own_cellsV (HH.out.rows key hkk).1 e).2.2; obtain ⟨cur, hc⟩ := h1; have h2 := HP1.out; unfold Blk at h2; rw [hc] at h2; simp at h2
      have HC0 : Hid (Mod (fun b => (q.hd key).ownBlock = some b) wk wk.drew) := (Mod.refl _ wk).drew
      have HSS := Hid.mk'' hS
      have HRK := Hid.mk'' hrowk
      have HM3 := Hid.mk'' hm3
      have HGQ := Hid.mk'' hgq
      have HQ2 := Hid.mk'' hq2
      have HMM := Hid.mk'' hmm2
      have HHH2 := Hid.mk'' hh2
      have HB2 := Hid.mk'' hb2
      clear hS hrowk hm3 hgq hq2 hmm2 hh2 hb2 e0 e1 f1 hen
      go_upto_region 13 with fail
      refine wp_with fun fr hfr => ?_
      refine wp_withQ fun Q1 hQ1 => ?_
      have hpan : ∀ (d : Nat) (v : Value) (c : List PanicEntry) (a : Act) (w : World), Q1 (.panic c) (a.put (some d) v) w → Q1 (.panic c) a w := fun d v c a w h => by rw [hQ1] at h ⊢; exact h
      have HQ1 := Hid.mk'' hQ1
      clear hQ1
      have hsz : fr.tmps.size = 79 := by rw [hfr]; rfl
      obtain ⟨_, t0⟩ : ∃ h : 0 < fr.tmps.size, fr.tmps[0] = .pointer (some ⟨q.b, 0, none⟩) := Array.getElem?_eq_some_iff.1 (by rw [hfr]; rfl)
      obtain ⟨_, t1⟩ : ∃ h : 1 < fr.tmps.size, fr.tmps[1] = .int .i64 t := Array.getElem?_eq_some_iff.1 (by rw [hfr]; rfl)
      obtain ⟨_, t5⟩ : ∃ h : 5 < fr.tmps.size, fr.tmps[5] = .pointer (some ⟨pb, 0, none⟩) := Array.getElem?_eq_some_iff.1 (by rw [hfr]; rfl)
      obtain ⟨_, t7⟩ : ∃ h : 7 < fr.tmps.size, fr.tmps[7] = .slice la (s key).length lcap := Array.getElem?_eq_some_iff.1 (by rw [hfr]; rfl)
      obtain ⟨_, t8⟩ : ∃ h : 8 < fr.tmps.size, fr.tmps[8] = .int .i64 0 := Array.getElem?_eq_some_iff.1 (by rw [hfr]; rfl)
      have HFR := Hid.mk'' hfr
      clear hfr
      refine wp_region_C 13 (fun wq => Mod (fun b => (q.hd key).ownBlock = some b) wk wq) rfl ?_
      refine wpAnyC_takeD 13 0 66 (.pointer (some ⟨q.b, 0, none⟩)) rfl rfl (by kernel_rfl) (by kernel_rfl) (by kernel_rfl) (by kernel_rfl) (fun c a w h => hpan _ _ c a w h) HC0.out ⟨by rfl, fun wq hq => by have q0 := hq.cell x1 HN1.out; have q1 := hq.cell y0 HNP.out; have q2 := hq.cell y1 HNP.out; have q3 := hq.cell y2 HNP.out; go_simp⟩ ?_
      refine wpAnyC_takeD 13 1 67 (.pointer (some ⟨q.b, 0, none⟩)) rfl rfl (by kernel_rfl) (by kernel_rfl) (by kernel_rfl) (by kernel_rfl) (fun c a w h => hpan _ _ c a w h) HC0.out ⟨by rfl, fun wq hq => by have q0 := hq.cell x1 HN1.out; have q1 := hq.cell y0 HNP.out; have q2 := hq.cell y1 HNP.out; have q3 := hq.cell y2 HNP.out; go_simp⟩ ?_
      refine wpAnyC_takeD 13 2 68 (.pointer (some ⟨q.b, 1, none⟩)) rfl rfl (by kernel_rfl) (by kernel_rfl) (by kernel_rfl) (by kernel_rfl) (fun c a w h => hpan _ _ c a w h) HC0.out ⟨by rfl, fun wq hq => by have q0 := hq.cell x1 HN1.out; have q1 := hq.cell y0 HNP.out; have q2 := hq.cell y1 HNP.out; have q3 := hq.cell y2 HNP.out; go_simp⟩ ?_
      refine wpAnyC_takeD 13 3 69 (.map (some g)) rfl rfl (by kernel_rfl) (by kernel_rfl) (by kernel_rfl) (by kernel_rfl) (fun c a w h => hpan _ _ c a w h) HC0.out ⟨by rfl, fun wq hq => by have q0 := hq.cell x1 HN1.out; have q1 := hq.cell y0 HNP.out; have q2 := hq.cell y1 HNP.out; have q3 := hq.cell y2 HNP.out; go_simp⟩ ?_
      refine wpAnyC_takeD 13 4 70 (.pointer (some ⟨pb, 0, none⟩)) rfl rfl (by kernel_rfl) (by kernel_rfl) (by kernel_rfl) (by kernel_rfl) (fun c a w h => hpan _ _ c a w h) HC0.out ⟨by rfl, fun wq hq => by have q0 := hq.cell x1 HN1.out; have q1 := hq.cell y0 HNP.out; have q2 := hq.cell y1 HNP.out; have q3 := hq.cell y2 HNP.out; go_simp⟩ ?_
      refine wpAnyC_takeD 13 5 71 (.string key) rfl rfl (by kernel_rfl) (by kernel_rfl) (by kernel_rfl) (by kernel_rfl) (fun c a w h => hpan _ _ c a w h) HC0.out ⟨by rfl, fun wq hq => by have q0 := hq.cell x1 HN1.out; have q1 := hq.cell y0 HNP.out; have q2 := hq.cell y1 HNP.out; have q3 := hq.cell y2 HNP.out; go_simp⟩ ?_
      refine wpAnyC_takeD 13 6 72 (.slice la (s key).length lcap) rfl rfl (by kernel_rfl) (by kernel_rfl) (by kernel_rfl) (by kernel_rfl) (fun c a w h => hpan _ _ c a w h) HC0.out ⟨by rfl, fun wq hq => by have q0 := hq.cell x1 HN1.out; have q1 := hq.cell y0 HNP.out; have q2 := hq.cell y1 HNP.out; have q3 := hq.cell y2 HNP.out; go_simp⟩ ?_
      refine wpAnyC_takeD 13 7 73 (.int .i64 0) rfl rfl (by kernel_rfl) (by kernel_rfl) (by kernel_rfl) (by kernel_rfl) (fun c a w h => hpan _ _ c a w h) HC0.out ⟨by rfl, fun wq hq => by have q0 := hq.cell x1 HN1.out; have q1 := hq.cell y0 HNP.out; have q2 := hq.cell y1 HNP.out; have q3 := hq.cell y2 HNP.out; go_simp⟩ ?_
      refine wpAnyC_takeD 13 8 74 (.int .i64 t) rfl rfl (by kernel_rfl) (by kernel_rfl) (by kernel_rfl) (by kernel_rfl) (fun c a w h => hpan _ _ c a w h) HC0.out ⟨by rfl, fun wq hq => by have q0 := hq.cell x1 HN1.out; have q1 := hq.cell y0 HNP.out; have q2 := hq.cell y1 HNP.out; have q3 := hq.cell y2 HNP.out; go_simp⟩ ?_
      refine wpAnyC_takeD 13 9 75 (.agg #[.string key, .string value, .bool gone]) rfl rfl (by kernel_rfl) (by kernel_rfl) (by kernel_rfl) (by kernel_rfl) (fun c a w h => hpan _ _ c a w h) HC0.out ⟨by rfl, fun wq hq => by have q0 := hq.cell x1 HN1.out; have q1 := hq.cell y0 HNP.out; have q2 := hq.cell y1 HNP.out; have q3 := hq.cell y2 HNP.out; go_simp⟩ ?_
      refine wpAnyC_callD 13 10 76 rfl rfl (by kernel_rfl) (by rfl) (f := 92) (args := #[.int .i64 t, .agg #[.string key, .string value, .bool gone]]) (by go_simp) ((made_any t key value gone wk.drew).mono ?_)
      rintro e w5 ⟨rfl, hm5⟩
      have hmk5 : Mod noBlock wk w5 := ((Mod.refl noBlock wk).drew).trans hm5
      refine ⟨_, rfl, hmk5.mono (fun _ _ e => e.elim), ?_⟩
      obtain ⟨vd, hvdd⟩ : ∃ x, x = madeV t value gone := ⟨_, rfl⟩
      rw [← hvdd]
      have HVDD := Hid.mk'' hvdd
      have htm : vd.time = t := by rw [hvdd]; exact madeV_time _ _ _
      have HVO : Hid (okVer vd) := by rw [hvdd]; exact hvd
      have hm56 : Mod noBlock wk (w5.alloc (.cells #[.int .i64 vd.time, .string vd.value, .bool vd.gone] 162)) := hmk5.alloc _
      refine wpAnyC_nextD 13 11 77 rfl rfl (by kernel_rfl) (by rfl) (v := .slice (some ⟨w5.heap.size, 0, none⟩) 1 1) (w' := w5.alloc (.cells #[.int .i64 vd.time, .string vd.value, .bool vd.gone] 162)) (by go_simp) (hm56.mono (fun _ _ e => e.elim)) ?_
      have hb5 : Blk (w5.alloc (.cells #[.int .i64 vd.time, .string vd.value, .bool vd.gone] 162)) w5.heap.size (verCells vd) 162 := Blk.new w5 (verCells vd) 162
      have HIN : Hid (InsP (w5.alloc (.cells #[.int .i64 vd.time, .string vd.value, .bool vd.gone] 162)) B (q.hd key) (s key) (byN (s key) t) vd = InsP (w5.alloc (.cells #[.int .i64 vd.time, .string vd.value, .bool vd.gone] 162)) B (q.hd key) (s key) (byN (s key) t) vd) := rfl
      have hins := insert_any B (q.hd key) (s key) (byN (s key) t) vd w5.heap.size _ (own_mod HRK.out.1 hm56 (fun _ _ _ _ => id)) (byN_le _ _) hb5 (fun e => by have := (own_cellsV HRK.out.1 e).2.1; have := hmk5.size; omega) (by omega) (by have h1 := hm56.size; have h2 := HM2.out.size; have h3 := HM3.out.size; omega)
      have hnv : Value.int .i64 ((byN (s key) t : Nat) : Int) = .int .i64 0 := by rw [HBN.out]; first | rfl | (congr 1; omega)
      rw [hnv] at hins
      have hins2 : Calls Tryd.prog 91 #[.slice la (s key).length lcap, .int .i64 0, .slice (some ⟨w5.heap.size, 0, none⟩) 1 1] (w5.alloc (.cells #[.int .i64 vd.time, .string vd.value, .bool vd.gone] 162)) (InsP (w5.alloc (.cells #[.int .i64 vd.time, .string vd.value, .bool vd.gone] 162)) B (q.hd key) (s key) (byN (s key) t) vd) := by rw [← HHD.out]; exact hins
      refine wpAnyC_callD 13 12 78 rfl rfl (by kernel_rfl) (by rfl) (f := 91) (args := #[.slice la (s key).length lcap, .int .i64 0, .slice (some ⟨w5.heap.size, 0, none⟩) 1 1]) (by go_simp) (hins2.mono ?_)
      rintro e w6 ⟨u, rfl, hrow6, hm6, hat6⟩
      have hmk6 : Mod (fun b => (q.hd key).ownBlock = some b) wk w6 := (hm56.mono (G' := fun b => (q.hd key).ownBlock = some b) (fun _ _ e => e.elim)).trans hm6
      refine ⟨_, rfl, hmk6, ?_⟩
      obtain ⟨hBg, D, hown, hD⟩ : B ≤ g ∧ ∃ D, wk.ownsMap Tryd.prog 9 hdrElem g n2 D ∧ ∀ k, okK k → D.atKey (keyL k) .nil = encH (q.hd k) ∧ (Maps.has D (keyL k) = true ↔ s k ≠ []) := by have h1 := HSS.out.map; rw [HMM.out, HHH2.out] at h1; have h2 : q2.n = n2 := (by rw [HQ2.out]); rw [h2] at h1; exact h1
      have hown6 : w6.ownsMap Tryd.prog 9 hdrElem g n2 D := by
        have hlt := hown.lt
        obtain ⟨es, clock, hb, r⟩ := hown
        exact ⟨es, clock, (hmk6.block g hlt (fun e => (HSS.out.row_ne hkk (x := g) (by rw [HHH2.out]; exact e)).2 HMM.out)).trans hb, r⟩
      obtain ⟨w7, hrun7, hown7, hgrow7⟩ := hown6.update kStr Tryd.underlying79 (by unfold maxLen; omega) (Go.WideMaps.keyOf_string_mk Tryd.underlying9 hkk) (hdr_mk (own_hdr hrow6))
      have hm7 : Mod (oneBlock g) w6 w7 := (Mod.refl _ w6).grown hgrow7 (fun x hx _ => by simp only [oneBlock]; simpa using hx.symm)
      have hmapD := hown.isMap
      refine wpAnyC_last 13 rfl (by kernel_rfl) rfl (w' := w7) (by go_simp) ?_
      refine ⟨by kernel_rfl, ?_⟩
      have HFIN := Hid.mk'' (put_map (n := n2 + 1) HSS.out hkk HVO.out HMM.out hBg (fun v hv => by rw [htm]; exact HNO.out v hv) hfew hmapD (by rw [HHH2.out]; exact hD) (by unfold insV; rw [htm]; exact hrow6) (by rw [HHH2.out]; exact hmk6) (by rw [HHH2.out]; exact hat6.imp id (fun h b hb => Nat.le_trans hm56.size (h b hb))) hown7 hm7)
      have hQ1 := HQ1.out
      subst hQ1
      have hfr := HFR.out
      subst hfr
      clear hrun7 hown7 hgrow7 hm7 hmapD hown6 hown hD hrow6 hm6 hat6 hmk6 hins2 hins hb5 hm56 hmk5 hm5 x1 y0 y1 y2
      go_wp2_with fail
      go_ret
      obtain ⟨hst, hmd, hon⟩ := HFIN.out
      have hsb : Mod q.own w wk := (HM2.out.mono (G' := q.own) (fun _ _ e => e.elim)).trans' HM3.out (fun x _ e => by simp only [oneBlock] at e; exact .inl e)
      have hqo : ∀ x, q2.own x → q.own x ∨ w.heap.size ≤ x := fun x hx => by
        rw [HQ2.out] at hx
        rcases hx with hx | hx | hx
        · exact .inl (.inl hx)
        · rcases HGQ.out with e | e
          · exact .inl (.inr (.inl (by rw [e]; exact hx)))
          · simp at hx; have := HM2.out.size; exact .inr (by omega)
        · exact .inl (.inr (.inr hx))
      refine ⟨rfl, _, by rw [← HVDD.out]; exact hst, by rw [HQ2.out], by rw [HQ2.out], by show n2 + 1 ≤ q.n + 1; omega, hsb.trans' hmd (fun x hx e => ?_), fun x hx => ?_⟩
      · exact (hqo x e).resolve_right (by omega)
      · rcases hon x hx with e | e
        · exact hqo x e
        · have := hsb.size; exact .inr (by omega)
  · subst hnm
    have hmI : (m : Int) < ((s key).length : Int) := by omega
    have hm0 : (0 : Int) ≤ (m : Int) := by omega
    have hen := eqlMapV q.m w2
    go_upto_if 61 with fail
    go_cut [] (fun wc => ∃ (g n2 : Nat), StP wc B { q with m := some g, n := n2 } s ∧ n2 ≤ q.n ∧ Mod (oneBlock q.b) w2 wc ∧ (q.m = some g ∨ w2.heap.size ≤ g))
    case first =>
      cases hqm : q.m with
      | none =>
        have HPN := Hid.mk'' (put_new HH2.out (Nat.le_trans hB HM2.out.size) hqm)
        have hqi : q.m.isNone = true := by rw [hqm]; rfl
        have HQM := Hid.mk'' hqm
        clear hqm
        go_wp2_with fail
        go_meet
        case rel => exact ⟨w2.heap.size, 0, HPN.out.1, Nat.zero_le _, HPN.out.2, .inr (Nat.le_refl _)⟩
      | some g =>
        have HPS : Hid (StP w2 B { q with m := some g, n := q.n } s) := by rw [← hqm]; exact HH2.out
        have hqi : q.m.isNone = false := by rw [hqm]; rfl
        have HQM := Hid.mk'' hqm
        clear hqm
        go_wp2_with fail
        go_meet
        case rel => exact ⟨g, q.n, HPS.out, Nat.le_refl _, Mod.refl _ _, .inl HQM.out⟩
    case rest =>
      obtain ⟨g, n2, hS, hn2, hm3, hgq⟩ := hcut
      obtain ⟨wk, hwk⟩ : ∃ x, x = wc := ⟨_, rfl⟩
      subst hwk
      obtain ⟨q2, hq2⟩ : ∃ x : StM, x = { q with m := some g, n := n2 } := ⟨_, rfl⟩
      rw [← hq2] at hS
      have hb2 : q2.b = q.b := by rw [hq2]
      have hh2 : q2.hd = q.hd := by rw [hq2]
      have hmm2 : q2.m = some g := by rw [hq2]
      have hrowk := (hS.rows key hkk)
      rw [hh2] at hrowk
      have x1 : wk.cell? ⟨q.b, 1, none⟩ = some (.map (some g)) := by have := hS.blk.cell 1 rfl; rw [hb2, hmm2] at this; exact this
      have zb : q.b < wk.heap.size := by have := hS.blk.lt; rw [hb2] at this; exact this
      have HP3 := Hid.mk'' (HP2.out.mod hm3 (by simp only [oneBlock]; exact fun e => hbp e.symm))
      have y0 := HP3.out.cell 0 rfl
      have y1 := HP3.out.cell 1 rfl
      have y2 := HP3.out.cell 2 rfl
      have zp := HP3.out.lt
      have HN1 : Hid (¬ (q.hd key).ownBlock = some q.b) := fun e => by have := hS.row_ne hkk (x := q.b) (by rw [hh2]; exact e); exact this.1 hb2.symm
      have HNP : Hid (¬ (q.hd key).ownBlock = some pb) := fun e => by have h1 := (own_cellsV (HH.out.rows key hkk).1 e).2.2; obtain ⟨cur, hc⟩ := h1; have h2 := HP1.out; unfold Blk at h2; rw [hc] at h2; simp at h2
      have HC0 : Hid (Mod (fun b => (q.hd key).ownBlock = some b) wk wk.drew) := (Mod.refl _ wk).drew
      have HSS := Hid.mk'' hS
      have HRK := Hid.mk'' hrowk
      have HM3 := Hid.mk'' hm3
      have HGQ := Hid.mk'' hgq
      have HQ2 := Hid.mk'' hq2
      have HMM := Hid.mk'' hmm2
      have HHH2 := Hid.mk'' hh2
      have HB2 := Hid.mk'' hb2
      clear hS hrowk hm3 hgq hq2 hmm2 hh2 hb2 e0 e1 f1 hen
      go_upto_region 13 with fail
      refine wp_with fun fr hfr => ?_
      refine wp_withQ fun Q1 hQ1 => ?_
      have hpan : ∀ (d : Nat) (v : Value) (c : List PanicEntry) (a : Act) (w : World), Q1 (.panic c) (a.put (some d) v) w → Q1 (.panic c) a w := fun d v c a w h => by rw [hQ1] at h ⊢; exact h
      have HQ1 := Hid.mk'' hQ1
      clear hQ1
      have hsz : fr.tmps.size = 79 := by rw [hfr]; rfl
      obtain ⟨_, t0⟩ : ∃ h : 0 < fr.tmps.size, fr.tmps[0] = .pointer (some ⟨q.b, 0, none⟩) := Array.getElem?_eq_some_iff.1 (by rw [hfr]; rfl)
      obtain ⟨_, t1⟩ : ∃ h : 1 < fr.tmps.size, fr.tmps[1] = .int .i64 t := Array.getElem?_eq_some_iff.1 (by rw [hfr]; rfl)
      obtain ⟨_, t5⟩ : ∃ h : 5 < fr.tmps.size, fr.tmps[5] = .pointer (some ⟨pb, 0, none⟩) := Array.getElem?_eq_some_iff.1 (by rw [hfr]; rfl)
      obtain ⟨_, t7⟩ : ∃ h : 7 < fr.tmps.size, fr.tmps[7] = .slice (some ⟨b, off, none⟩) (s key).length lcap := Array.getElem?_eq_some_iff.1 (by rw [hfr]; rfl)
      obtain ⟨_, t8⟩ : ∃ h : 8 < fr.tmps.size, fr.tmps[8] = .int .i64 ((m : Int) + 1) := Array.getElem?_eq_some_iff.1 (by rw [hfr]; rfl)
      have HFR := Hid.mk'' hfr
      clear hfr
      refine wp_region_C 13 (fun wq => Mod (fun b => (q.hd key).ownBlock = some b) wk wq) rfl ?_
      refine wpAnyC_takeD 13 0 66 (.pointer (some ⟨q.b, 0, none⟩)) rfl rfl (by kernel_rfl) (by kernel_rfl) (by kernel_rfl) (by kernel_rfl) (fun c a w h => hpan _ _ c a w h) HC0.out ⟨by rfl, fun wq hq => by have q0 := hq.cell x1 HN1.out; have q1 := hq.cell y0 HNP.out; have q2 := hq.cell y1 HNP.out; have q3 := hq.cell y2 HNP.out; go_simp⟩ ?_
      refine wpAnyC_takeD 13 1 67 (.pointer (some ⟨q.b, 0, none⟩)) rfl rfl (by kernel_rfl) (by kernel_rfl) (by kernel_rfl) (by kernel_rfl) (fun c a w h => hpan _ _ c a w h) HC0.out ⟨by rfl, fun wq hq => by have q0 := hq.cell x1 HN1.out; have q1 := hq.cell y0 HNP.out; have q2 := hq.cell y1 HNP.out; have q3 := hq.cell y2 HNP.out; go_simp⟩ ?_
      refine wpAnyC_takeD 13 2 68 (.pointer (some ⟨q.b, 1, none⟩)) rfl rfl (by kernel_rfl) (by kernel_rfl) (by kernel_rfl) (by kernel_rfl) (fun c a w h => hpan _ _ c a w h) HC0.out ⟨by rfl, fun wq hq => by have q0 := hq.cell x1 HN1.out; have q1 := hq.cell y0 HNP.out; have q2 := hq.cell y1 HNP.out; have q3 := hq.cell y2 HNP.out; go_simp⟩ ?_
      refine wpAnyC_takeD 13 3 69 (.map (some g)) rfl rfl (by kernel_rfl) (by kernel_rfl) (by kernel_rfl) (by kernel_rfl) (fun c a w h => hpan _ _ c a w h) HC0.out ⟨by rfl, fun wq hq => by have q0 := hq.cell x1 HN1.out; have q1 := hq.cell y0 HNP.out; have q2 := hq.cell y1 HNP.out; have q3 := hq.cell y2 HNP.out; go_simp⟩ ?_
      refine wpAnyC_takeD 13 4 70 (.pointer (some ⟨pb, 0, none⟩)) rfl rfl (by kernel_rfl) (by kernel_rfl) (by kernel_rfl) (by kernel_rfl) (fun c a w h => hpan _ _ c a w h) HC0.out ⟨by rfl, fun wq hq => by have q0 := hq.cell x1 HN1.out; have q1 := hq.cell y0 HNP.out; have q2 := hq.cell y1 HNP.out; have q3 := hq.cell y2 HNP.out; go_simp⟩ ?_
      refine wpAnyC_takeD 13 5 71 (.string key) rfl rfl (by kernel_rfl) (by kernel_rfl) (by kernel_rfl) (by kernel_rfl) (fun c a w h => hpan _ _ c a w h) HC0.out ⟨by rfl, fun wq hq => by have q0 := hq.cell x1 HN1.out; have q1 := hq.cell y0 HNP.out; have q2 := hq.cell y1 HNP.out; have q3 := hq.cell y2 HNP.out; go_simp⟩ ?_
      refine wpAnyC_takeD 13 6 72 (.slice (some ⟨b, off, none⟩) (s key).length lcap) rfl rfl (by kernel_rfl) (by kernel_rfl) (by kernel_rfl) (by kernel_rfl) (fun c a w h => hpan _ _ c a w h) HC0.out ⟨by rfl, fun wq hq => by have q0 := hq.cell x1 HN1.out; have q1 := hq.cell y0 HNP.out; have q2 := hq.cell y1 HNP.out; have q3 := hq.cell y2 HNP.out; go_simp⟩ ?_
      refine wpAnyC_takeD 13 7 73 (.int .i64 ((m : Int) + 1)) rfl rfl (by kernel_rfl) (by kernel_rfl) (by kernel_rfl) (by kernel_rfl) (fun c a w h => hpan _ _ c a w h) HC0.out ⟨by rfl, fun wq hq => by have q0 := hq.cell x1 HN1.out; have q1 := hq.cell y0 HNP.out; have q2 := hq.cell y1 HNP.out; have q3 := hq.cell y2 HNP.out; go_simp⟩ ?_
      refine wpAnyC_takeD 13 8 74 (.int .i64 t) rfl rfl (by kernel_rfl) (by kernel_rfl) (by kernel_rfl) (by kernel_rfl) (fun c a w h => hpan _ _ c a w h) HC0.out ⟨by rfl, fun wq hq => by have q0 := hq.cell x1 HN1.out; have q1 := hq.cell y0 HNP.out; have q2 := hq.cell y1 HNP.out; have q3 := hq.cell y2 HNP.out; go_simp⟩ ?_
      refine wpAnyC_takeD 13 9 75 (.agg #[.string key, .string value, .bool gone]) rfl rfl (by kernel_rfl) (by kernel_rfl) (by kernel_rfl) (by kernel_rfl) (fun c a w h => hpan _ _ c a w h) HC0.out ⟨by rfl, fun wq hq => by have q0 := hq.cell x1 HN1.out; have q1 := hq.cell y0 HNP.out; have q2 := hq.cell y1 HNP.out; have q3 := hq.cell y2 HNP.out; go_simp⟩ ?_
      refine wpAnyC_callD 13 10 76 rfl rfl (by kernel_rfl) (by rfl) (f := 92) (args := #[.int .i64 t, .agg #[.string key, .string value, .bool gone]]) (by go_simp) ((made_any t key value gone wk.drew).mono ?_)
      rintro e w5 ⟨rfl, hm5⟩
      have hmk5 : Mod noBlock wk w5 := ((Mod.refl noBlock wk).drew).trans hm5
      refine ⟨_, rfl, hmk5.mono (fun _ _ e => e.elim), ?_⟩
      obtain ⟨vd, hvdd⟩ : ∃ x, x = madeV t value gone := ⟨_, rfl⟩
      rw [← hvdd]
      have HVDD := Hid.mk'' hvdd
      have htm : vd.time = t := by rw [hvdd]; exact madeV_time _ _ _
      have HVO : Hid (okVer vd) := by rw [hvdd]; exact hvd
      have hm56 : Mod noBlock wk (w5.alloc (.cells #[.int .i64 vd.time, .string vd.value, .bool vd.gone] 162)) := hmk5.alloc _
      refine wpAnyC_nextD 13 11 77 rfl rfl (by kernel_rfl) (by rfl) (v := .slice (some ⟨w5.heap.size, 0, none⟩) 1 1) (w' := w5.alloc (.cells #[.int .i64 vd.time, .string vd.value, .bool vd.gone] 162)) (by go_simp) (hm56.mono (fun _ _ e => e.elim)) ?_
      have hb5 : Blk (w5.alloc (.cells #[.int .i64 vd.time, .string vd.value, .bool vd.gone] 162)) w5.heap.size (verCells vd) 162 := Blk.new w5 (verCells vd) 162
      have HIN : Hid (InsP (w5.alloc (.cells #[.int .i64 vd.time, .string vd.value, .bool vd.gone] 162)) B (q.hd key) (s key) (byN (s key) t) vd = InsP (w5.alloc (.cells #[.int .i64 vd.time, .string vd.value, .bool vd.gone] 162)) B (q.hd key) (s key) (byN (s key) t) vd) := rfl
      have hins := insert_any B (q.hd key) (s key) (byN (s key) t) vd w5.heap.size _ (own_mod HRK.out.1 hm56 (fun _ _ _ _ => id)) (byN_le _ _) hb5 (fun e => by have := (own_cellsV HRK.out.1 e).2.1; have := hmk5.size; omega) (by omega) (by have h1 := hm56.size; have h2 := HM2.out.size; have h3 := HM3.out.size; omega)
      have hnv : Value.int .i64 ((byN (s key) t : Nat) : Int) = .int .i64 ((m : Int) + 1) := by rw [HBN.out]; first | rfl | (congr 1; omega)
      rw [hnv] at hins
      have hins2 : Calls Tryd.prog 91 #[.slice (some ⟨b, off, none⟩) (s key).length lcap, .int .i64 ((m : Int) + 1), .slice (some ⟨w5.heap.size, 0, none⟩) 1 1] (w5.alloc (.cells #[.int .i64 vd.time, .string vd.value, .bool vd.gone] 162)) (InsP (w5.alloc (.cells #[.int .i64 vd.time, .string vd.value, .bool vd.gone] 162)) B (q.hd key) (s key) (byN (s key) t) vd) := by rw [← HHD.out]; exact hins
      refine wpAnyC_callD 13 12 78 rfl rfl (by kernel_rfl) (by rfl) (f := 91) (args := #[.slice (some ⟨b, off, none⟩) (s key).length lcap, .int .i64 ((m : Int) + 1), .slice (some ⟨w5.heap.size, 0, none⟩) 1 1]) (by go_simp) (hins2.mono ?_)
      rintro e w6 ⟨u, rfl, hrow6, hm6, hat6⟩
      have hmk6 : Mod (fun b => (q.hd key).ownBlock = some b) wk w6 := (hm56.mono (G' := fun b => (q.hd key).ownBlock = some b) (fun _ _ e => e.elim)).trans hm6
      refine ⟨_, rfl, hmk6, ?_⟩
      obtain ⟨hBg, D, hown, hD⟩ : B ≤ g ∧ ∃ D, wk.ownsMap Tryd.prog 9 hdrElem g n2 D ∧ ∀ k, okK k → D.atKey (keyL k) .nil = encH (q.hd k) ∧ (Maps.has D (keyL k) = true ↔ s k ≠ []) := by have h1 := HSS.out.map; rw [HMM.out, HHH2.out] at h1; have h2 : q2.n = n2 := (by rw [HQ2.out]); rw [h2] at h1; exact h1
      have hown6 : w6.ownsMap Tryd.prog 9 hdrElem g n2 D := by
        have hlt := hown.lt
        obtain ⟨es, clock, hb, r⟩ := hown
        exact ⟨es, clock, (hmk6.block g hlt (fun e => (HSS.out.row_ne hkk (x := g) (by rw [HHH2.out]; exact e)).2 HMM.out)).trans hb, r⟩
      obtain ⟨w7, hrun7, hown7, hgrow7⟩ := hown6.update kStr Tryd.underlying79 (by unfold maxLen; omega) (Go.WideMaps.keyOf_string_mk Tryd.underlying9 hkk) (hdr_mk (own_hdr hrow6))
      have hm7 : Mod (oneBlock g) w6 w7 := (Mod.refl _ w6).grown hgrow7 (fun x hx _ => by simp only [oneBlock]; simpa using hx.symm)
      have hmapD := hown.isMap
      refine wpAnyC_last 13 rfl (by kernel_rfl) rfl (w' := w7) (by go_simp) ?_
      refine ⟨by kernel_rfl, ?_⟩
      have HFIN := Hid.mk'' (put_map (n := n2 + 1) HSS.out hkk HVO.out HMM.out hBg (fun v hv => by rw [htm]; exact HNO.out v hv) hfew hmapD (by rw [HHH2.out]; exact hD) (by unfold insV; rw [htm]; exact hrow6) (by rw [HHH2.out]; exact hmk6) (by rw [HHH2.out]; exact hat6.imp id (fun h b hb => Nat.le_trans hm56.size (h b hb))) hown7 hm7)
      have hQ1 := HQ1.out
      subst hQ1
      have hfr := HFR.out
      subst hfr
      clear hrun7 hown7 hgrow7 hm7 hmapD hown6 hown hD hrow6 hm6 hat6 hmk6 hins2 hins hb5 hm56 hmk5 hm5 x1 y0 y1 y2
      go_wp2_with fail
      go_ret
      obtain ⟨hst, hmd, hon⟩ := HFIN.out
      have hsb : Mod q.own w wk := (HM2.out.mono (G' := q.own) (fun _ _ e => e.elim)).trans' HM3.out (fun x _ e => by simp only [oneBlock] at e; exact .inl e)
      have hqo : ∀ x, q2.own x → q.own x ∨ w.heap.size ≤ x := fun x hx => by
        rw [HQ2.out] at hx
        rcases hx with hx | hx | hx
        · exact .inl (.inl hx)
        · rcases HGQ.out with e | e
          · exact .inl (.inr (.inl (by rw [e]; exact hx)))
          · simp at hx; have := HM2.out.size; exact .inr (by omega)
        · exact .inl (.inr (.inr hx))
      refine ⟨rfl, _, by rw [← HVDD.out]; exact hst, by rw [HQ2.out], by rw [HQ2.out], by show n2 + 1 ≤ q.n + 1; omega, hsb.trans' hmd (fun x hx e => ?_), fun x hx => ?_⟩
      · exact (hqo x e).resolve_right (by omega)
      · rcases hon x hx with e | e
        · exact hqo x e
        · have := hsb.size; exact .inr (by omega)
end Go.Proofs.YtefhgakcffhgaaaDoor
