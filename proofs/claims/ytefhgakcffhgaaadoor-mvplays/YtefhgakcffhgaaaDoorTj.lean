/- The law MvPlays. -/
import Derived.Test.YtefhgakcffhgaaaDoorTi
import Derived.Deep.CutBlock
namespace Go.Proofs.YtefhgakcffhgaaaDoor
open Go.RowKit Go.Lib Go.Maps
set_option linter.unusedVariables false

/-- One of a store, as it is given. -/
structure ActD where
  what : Int
  time : Int
  key : ByteArray
  value : ByteArray
  gone : Bool
def actR (d : ActD) (cs : List Value) : Prop := cs = [.int .i64 d.what, .int .i64 d.time, .string d.key, .string d.value, .bool d.gone] ∧ okK d.key
def ActsV (w : World) (L : Nat) (v : Value) (l : List ActD) : Prop := SlR w L 5 actR v l
theorem ActsV.at {w : World} {L : Nat} {a : Option Addr} {n cap : Nat} {l : List ActD} (h : ActsV w L (.slice a n cap) l) {i : Nat} {d : ActD} (hi : l[i]? = some d) :
    ∃ b off, a = some ⟨b, off, none⟩ ∧ b < L ∧ okK d.key ∧ w.cell? ⟨b, off + i * 5, none⟩ = some (.int .i64 d.what) ∧ w.cell? ⟨b, off + i * 5 + 1, none⟩ = some (.int .i64 d.time) ∧ w.cell? ⟨b, off + i * 5 + 2, none⟩ = some (.string d.key) ∧ w.cell? ⟨b, off + i * 5 + 3, none⟩ = some (.string d.value) ∧ w.cell? ⟨b, off + i * 5 + 4, none⟩ = some (.bool d.gone) := by
  obtain ⟨b, off, cs, h1, h2, ⟨rfl, h3⟩, _, h5⟩ := SlR.at h hi
  exact ⟨b, off, h1, h2, h3, by have := h5 0 _ rfl; simpa using this, h5 1 _ rfl, h5 2 _ rfl, h5 3 _ rfl, h5 4 _ rfl⟩
theorem bare_same (c : Int) (w : World) (h : ET w) : Calls Tryd.prog 15 #[errV c, .int .i64 c] w fun ev w' => ev = .returned (.bool true) ∧ Mod noBlock w w' := by
  have := bare_any c c w h
  rw [beq_self_eq_true] at this
  exact this
theorem gets_both {w wr : World} {i : Nat} {q : StM} {s : Vers} {r : RfM} {all : List EntD} (h : Both w wr i q s r all) (hi : i ≤ 100) (k : ByteArray) (t : Int) (hk : okK k) : ∃ (gv : ByteArray) (gb : Bool) (gc : Int),
    (∀ wq, Mod noBlock wr wq → Calls Tryd.prog 46 #[.pointer (some ⟨r.b, 0, none⟩), .string k, .int .i64 t] wq fun e w' => e = .returned (.tuple #[.string gv, .bool gb, .int .i64 gc]) ∧ Mod noBlock wq w') ∧
    (∀ wq, Mod noBlock wr wq → Calls Tryd.prog 43 #[.pointer (some ⟨q.b, 0, none⟩), .string k, .int .i64 t] wq fun e w' => e = .returned (.tuple #[.string gv, .bool gb, errV gc]) ∧ Mod noBlock wq w') :=
  ⟨_, _, _, fun wq hq => rget_both (h.more hq) hi k t, fun wq hq => get_both (h.more hq) hi k t hk⟩
/-- All that is told of a time: of both the same. -/
theorem ats_both {w wr : World} {i : Nat} {q : StM} {s : Vers} {r : RfM} {all : List EntD} (h : Both w wr i q s r all) (hi : i ≤ 100) (t : Int) : ∃ (ac : Int) (ps : List PairD),
    (∀ wq, Mod noBlock wr wq → Calls Tryd.prog 47 #[.pointer (some ⟨r.b, 0, none⟩), .int .i64 t] wq fun e w' => ∃ v, e = .returned (.tuple #[v, .int .i64 ac]) ∧ PairsV w' w'.heap.size v ps ∧ Mod noBlock wq w') ∧
    (∀ wq, Mod noBlock wr wq → Calls Tryd.prog 39 #[.pointer (some ⟨q.b, 0, none⟩), .int .i64 t] wq fun e w' => ∃ v, e = .returned (.tuple #[v, errV ac]) ∧ PairsV w' w'.heap.size v ps ∧ Mod noBlock wq w') := by
  by_cases hex : ∃ ps, toldAt q.low s t ps
  · obtain ⟨ps, hps⟩ := hex
    refine ⟨if t < q.low then 8 else 0, ps, fun wq hq => (rat_both (h.more hq) hi t).mono ?_, fun wq hq => (at_both (h.more hq) hi t).mono ?_⟩
    · rintro e w' ⟨v, ps', rfl, h1, h2, hm⟩
      rw [toldAt_one h2 hps] at h1
      exact ⟨v, rfl, h1, hm⟩
    · rintro e w' ⟨v, ps', rfl, h1, h2, hm⟩
      rw [toldAt_one h2 hps] at h1
      exact ⟨v, rfl, h1, hm⟩
  · refine ⟨0, [], fun wq hq => (rat_both (h.more hq) hi t).mono ?_, fun wq hq => (at_both (h.more hq) hi t).mono ?_⟩
    · rintro e w' ⟨v, ps', rfl, h1, h2, hm⟩
      exact absurd ⟨ps', h2⟩ hex
    · rintro e w' ⟨v, ps', rfl, h1, h2, hm⟩
      exact absurd ⟨ps', h2⟩ hex
/-- A store of the document's that is new. -/
def newR (b : Nat) : RfM := ⟨b, .slice none 0 0, 0⟩
theorem both_new {w w1 : World} (hw1 : w1 = (w.alloc (.cells #[.int .i64 0, .map none] 81)).alloc (.cells #[.slice none 0 0, .int .i64 0] 97)) : Both w w1 0 (newQ w.heap.size) (fun _ => []) (newR (w.heap.size + 1)) [] := by
  have hM1 : Mod noBlock w w1 := by rw [hw1]; exact ((Mod.refl _ w).alloc _).alloc _
  have hb1 : Blk w1 w.heap.size [.int .i64 0, .map none] 81 := by
    rw [hw1]
    exact (Blk.new w [.int .i64 0, .map none] 81).mod ((Mod.refl noBlock _).alloc _) id
  have hb2 : Blk w1 (w.heap.size + 1) [.slice none 0 0, .int .i64 0] 97 := by
    rw [hw1]
    have := Blk.new (w.alloc (.cells #[.int .i64 0, .map none] 81)) [.slice none 0 0, .int .i64 0] 97
    simpa using this
  refine ⟨newSt hb1 (Nat.le_refl _), ⟨hb2, by show w.heap.size ≤ w.heap.size + 1; omega, World.ownsRow_nil _ _ _ _⟩, Rel.nil, rfl, fun x h1 h2 => ?_, Nat.le_refl _, Nat.le_refl _, fun e he => by simp at he, hM1⟩
  have := newQ_own h1
  rcases h2 with h2 | h2
  · have h3 : x = w.heap.size + 1 := h2
    omega
  · simp [newR, Value.ownBlock] at h2
set_option maxRecDepth 100000 in
set_option maxHeartbeats 16000000 in
theorem mvPlays_any (v : Value) (l : List ActD) (w : World) (hv : ActsV w w.heap.size v l) (het : ET w) :
    Calls Tryd.prog 9 #[v] w fun e w' => e = .returned (.bool true) ∧ Mod noBlock w w' := by
  have HV := Hid.mk'' hv
  have HE := Hid.mk'' het
  obtain ⟨a, cap, rfl, hc1, hc2⟩ := SlR.slice hv
  unfold maxLen at hc2
  clear hv het
  rcases Nat.lt_or_ge 80 l.length with h80 | h80
  · have hd : decide ((l.length : Int) > 80) = true := decide_eq_true (by omega)
    go_enter Tryd.func9, Tryd.ntmps9
    go_wp2_with fail
    go_ret
    exact ⟨rfl, Mod.refl _ _⟩
  have hd : decide ((l.length : Int) > 80) = false := decide_eq_false (by omega)
  obtain ⟨w1, hw1⟩ : ∃ x, x = (w.alloc (.cells #[.int .i64 0, .map none] 81)).alloc (.cells #[.slice none 0 0, .int .i64 0] 97) := ⟨_, rfl⟩
  have HB0 := Hid.mk'' (both_new hw1)
  obtain ⟨bq, hbq⟩ : ∃ x, x = w.heap.size := ⟨_, rfl⟩
  obtain ⟨br, hbr⟩ : ∃ x, x = w.heap.size + 1 := ⟨_, rfl⟩
  go_enter Tryd.func9, Tryd.ntmps9
  go_upto_region 5 with fail
  rw [← hw1, ← hbr, ← hbq]
  have HBQ := Hid.mk'' hbq
  have HBR := Hid.mk'' hbr
  clear hw1 hbq hbr
  go_wp2_with fail
  go_loopw [5] (fun i0 wr => ∃ (i : Nat) (q : StM) (s : Vers) (r : RfM) (all : List EntD), i ≤ l.length ∧ i0 = .int .i64 i ∧ Both w wr i q s r all ∧ q.b = bq ∧ r.b = br) (fun i0 _ => l.length - (intOf i0).toNat)
  case atStart => exact ⟨0, _, _, _, _, Nat.zero_le _, rfl, HB0.out, HBQ.out.symm, HBR.out.symm⟩
  case round =>
    obtain ⟨i, q, s, r, all, hil, rfl, hB, hqb, hrb⟩ := hrel
    obtain ⟨wk, hwk⟩ : ∃ x, x = wr := ⟨_, rfl⟩
    subst hwk
    have HB := Hid.mk'' hB
    by_cases hlt : i < l.length
    · have hltI : (i : Int) < (l.length : Int) := by omega
      have hlt0 : (0 : Int) ≤ (i : Int) := by omega
      obtain ⟨x, hx⟩ : ∃ x, l[i]? = some x := ⟨_, List.getElem?_eq_getElem hlt⟩
      obtain ⟨b, off, rfl, hbL, hok, q0, q1, q2, q3, q4⟩ := HV.out.at hx
      have c0 := hB.mod.cell q0 id
      have c1 := hB.mod.cell q1 id
      have c2 := hB.mod.cell q2 id
      have c3 := hB.mod.cell q3 id
      have c4 := hB.mod.cell q4 id
      have zb := World.block_lt_of_cell? _ _ c0
      clear hx q0 q1 q2 q3 q4
      obtain ⟨xw, xt, xk, xv, xg⟩ := x
      dsimp only at c0 c1 c2 c3 c4 hok
      obtain ⟨wa, hwa⟩ : ∃ y, y = wk.alloc (.cells #[.int .i64 xw, .int .i64 xt, .string xk, .string xv, .bool xg] 99) := ⟨_, rfl⟩
      obtain ⟨xb, hxb⟩ : ∃ y, y = wk.heap.size := ⟨_, rfl⟩
      have hBa : Both w wa i q s r all := hB.more (by rw [hwa]; exact (Mod.refl _ _).alloc _)
      have hXa : Blk wa xb [.int .i64 xw, .int .i64 xt, .string xk, .string xv, .bool xg] 99 := by
        rw [hwa, hxb]
        exact Blk.new wk [.int .i64 xw, .int .i64 xt, .string xk, .string xv, .bool xg] 99
      have hq1 : ∀ y, q.own y → y ≠ xb := fun y hy e => by have := (hB.st.lt hy).2; omega
      have hr1 : ∀ y, r.own y → y ≠ xb := fun y hy e => by have := (hB.rf.lt hy).2; omega
      clear hB
      go_upto_region 9 with fail
      rw [← hxb, ← hwa]
      have e0 := hXa.cell 0 rfl
      have HBA := Hid.mk'' hBa
      have HXA := Hid.mk'' hXa
      have HQX := Hid.mk'' hq1
      have HRX := Hid.mk'' hr1
      have HOK := Hid.mk'' hok
      have zx := hXa.lt
      clear hwa hxb hBa hXa hq1 hr1 hok c0 c1 c2 c3 c4 zb
      go_upto_block 2 with fail
      go_cut [] (fun wc => ∃ (q' : StM) (s' : Vers) (r' : RfM) (all' : List EntD), Both w wc (i + 1) q' s' r' all' ∧ q'.b = bq ∧ r'.b = br ∧ Blk wc xb [.int .i64 xw, .int .i64 xt, .string xk, .string xv, .bool xg] 99)
      case first =>
        by_cases h0 : xw = 0
        · have hb0 : (xw == 0) = true := by simp [h0]
          clear h0
          have hc1 := HXA.out.cell 1 rfl
          have hc2 := HXA.out.cell 2 rfl
          have hc3 := HXA.out.cell 3 rfl
          have hc4 := HXA.out.cell 4 rfl
          have HC0 : Hid (wa.drew.cell? ⟨xb, 1, none⟩ = some (.int .i64 xt) ∧ wa.drew.cell? ⟨xb, 2, none⟩ = some (.string xk) ∧ wa.drew.cell? ⟨xb, 3, none⟩ = some (.string xv) ∧ wa.drew.cell? ⟨xb, 4, none⟩ = some (.bool xg)) := ⟨hc1, hc2, hc3, hc4⟩
          have HPF := Hid.mk'' (put_first (HBA.out.more ((Mod.refl noBlock wa).drew)) (by omega) xt xk xv xg)
          rw [hqb] at HPF
          clear hc1 hc2 hc3 hc4
          go_upto_region 11 with fail
          refine wp_with fun fr hfr => ?_
          refine wp_withQ fun Q1 hQ1 => ?_
          have hpan : ∀ (d : Nat) (v : Value) (c : List PanicEntry) (a : Act) (w : World), Q1 (.panic c) (a.put (some d) v) w → Q1 (.panic c) a w := fun d v c a w h => by rw [hQ1] at h ⊢; exact h
          have HQ1 := Hid.mk'' hQ1
          clear hQ1
          have hsz : fr.tmps.size = 154 := by rw [hfr]; rfl
          obtain ⟨_, t3⟩ : ∃ h : 3 < fr.tmps.size, fr.tmps[3] = .pointer (some ⟨bq, 0, none⟩) := Array.getElem?_eq_some_iff.1 (by rw [hfr]; rfl)
          obtain ⟨_, t4⟩ : ∃ h : 4 < fr.tmps.size, fr.tmps[4] = .pointer (some ⟨br, 0, none⟩) := Array.getElem?_eq_some_iff.1 (by rw [hfr]; rfl)
          obtain ⟨_, t6⟩ : ∃ h : 6 < fr.tmps.size, fr.tmps[6] = .pointer (some ⟨xb, 0, none⟩) := Array.getElem?_eq_some_iff.1 (by rw [hfr]; rfl)
          have HFR := Hid.mk'' hfr
          clear hfr
          refine wp_region_C 99 (fun wq => wq.cell? ⟨xb, 1, none⟩ = some (.int .i64 xt) ∧ wq.cell? ⟨xb, 2, none⟩ = some (.string xk) ∧ wq.cell? ⟨xb, 3, none⟩ = some (.string xv) ∧ wq.cell? ⟨xb, 4, none⟩ = some (.bool xg)) rfl ?_
          refine wpAnyC_takeD 99 0 37 (.pointer (some ⟨xb, 1, none⟩)) rfl rfl (by kernel_rfl) (by kernel_rfl) (by kernel_rfl) (by kernel_rfl) (fun c a w h => hpan _ _ c a w h) HC0.out ⟨by rfl, fun wq hq => by obtain ⟨y1, y2, y3, y4⟩ := hq; go_simp⟩ ?_
          refine wpAnyC_takeD 99 1 38 (.int .i64 xt) rfl rfl (by kernel_rfl) (by kernel_rfl) (by kernel_rfl) (by kernel_rfl) (fun c a w h => hpan _ _ c a w h) HC0.out ⟨by rfl, fun wq hq => by obtain ⟨y1, y2, y3, y4⟩ := hq; go_simp⟩ ?_
          refine wpAnyC_takeD 99 2 39 (.pointer (some ⟨xb, 2, none⟩)) rfl rfl (by kernel_rfl) (by kernel_rfl) (by kernel_rfl) (by kernel_rfl) (fun c a w h => hpan _ _ c a w h) HC0.out ⟨by rfl, fun wq hq => by obtain ⟨y1, y2, y3, y4⟩ := hq; go_simp⟩ ?_
          refine wpAnyC_takeD 99 3 40 (.agg #[.string xk, .string xv, .bool xg]) rfl rfl (by kernel_rfl) (by kernel_rfl) (by kernel_rfl) (by kernel_rfl) (fun c a w h => hpan _ _ c a w h) HC0.out ⟨by rfl, fun wq hq => by obtain ⟨y1, y2, y3, y4⟩ := hq; go_simp⟩ ?_
          refine wpAnyC_takeD 99 5 42 (.pointer (some ⟨br, 0, none⟩)) rfl rfl (by kernel_rfl) (by kernel_rfl) (by kernel_rfl) (by kernel_rfl) (fun c a w h => hpan _ _ c a w h) HC0.out ⟨by rfl, fun wq hq => by obtain ⟨y1, y2, y3, y4⟩ := hq; go_simp⟩ ?_
          refine wpAnyC_takeD 99 6 43 (.pointer (some ⟨xb, 1, none⟩)) rfl rfl (by kernel_rfl) (by kernel_rfl) (by kernel_rfl) (by kernel_rfl) (fun c a w h => hpan _ _ c a w h) HC0.out ⟨by rfl, fun wq hq => by obtain ⟨y1, y2, y3, y4⟩ := hq; go_simp⟩ ?_
          refine wpAnyC_takeD 99 7 44 (.int .i64 xt) rfl rfl (by kernel_rfl) (by kernel_rfl) (by kernel_rfl) (by kernel_rfl) (fun c a w h => hpan _ _ c a w h) HC0.out ⟨by rfl, fun wq hq => by obtain ⟨y1, y2, y3, y4⟩ := hq; go_simp⟩ ?_
          refine wpAnyC_takeD 99 8 45 (.pointer (some ⟨xb, 2, none⟩)) rfl rfl (by kernel_rfl) (by kernel_rfl) (by kernel_rfl) (by kernel_rfl) (fun c a w h => hpan _ _ c a w h) HC0.out ⟨by rfl, fun wq hq => by obtain ⟨y1, y2, y3, y4⟩ := hq; go_simp⟩ ?_
          refine wpAnyC_takeD 99 9 46 (.agg #[.string xk, .string xv, .bool xg]) rfl rfl (by kernel_rfl) (by kernel_rfl) (by kernel_rfl) (by kernel_rfl) (fun c a w h => hpan _ _ c a w h) HC0.out ⟨by rfl, fun wq hq => by obtain ⟨y1, y2, y3, y4⟩ := hq; go_simp⟩ ?_
          refine wpAnyC_callD 99 4 41 rfl rfl (by kernel_rfl) (by rfl) (f := 38) (args := #[.pointer (some ⟨bq, 0, none⟩), .int .i64 xt, .agg #[.string xk, .string xv, .bool xg]]) (by go_simp) (HPF.out.mono ?_)
          rintro e w2 ⟨c, rfl, hmid, hm2⟩
          have HX2 := Hid.mk'' ((HXA.out.mod ((Mod.refl noBlock wa).drew) id).mod hm2 (fun e => HQX.out xb e rfl))
          refine ⟨_, rfl, ⟨HX2.out.cell 1 rfl, HX2.out.cell 2 rfl, HX2.out.cell 3 rfl, HX2.out.cell 4 rfl⟩, ?_⟩
          have HPS := Hid.mk'' (put_second hmid (by omega))
          rw [hrb] at HPS
          clear hmid hm2
          refine wpAnyC_callD 99 10 47 rfl rfl (by kernel_rfl) (by rfl) (f := 44) (args := #[.pointer (some ⟨br, 0, none⟩), .int .i64 xt, .agg #[.string xk, .string xv, .bool xg]]) (by go_simp) (HPS.out.mono ?_)
          rintro e w3 ⟨rfl, ⟨q', s', r', all', hB', hqb', hrb'⟩, hm3⟩
          have HX3 := Hid.mk'' (HX2.out.mod hm3 (fun e => HRX.out xb e rfl))
          refine ⟨_, rfl, ⟨HX3.out.cell 1 rfl, HX3.out.cell 2 rfl, HX3.out.cell 3 rfl, HX3.out.cell 4 rfl⟩, ?_⟩
          have HBR := Hid.mk'' (bare_same c w3 (HE.out.mod hB'.mod))
          have HB3 := Hid.mk'' hB'
          clear hB' hm3
          refine wpAnyC_callD 99 11 48 rfl rfl (by kernel_rfl) (by rfl) (f := 15) (args := #[errV c, .int .i64 c]) (by go_simp) (HBR.out.mono ?_)
          rintro e w4 ⟨rfl, hm4⟩
          have HX4 := Hid.mk'' (HX3.out.mod hm4 id)
          have HB4 := Hid.mk'' (HB3.out.more hm4)
          have HC4 : Hid (w4.cell? ⟨xb, 1, none⟩ = some (.int .i64 xt) ∧ w4.cell? ⟨xb, 2, none⟩ = some (.string xk) ∧ w4.cell? ⟨xb, 3, none⟩ = some (.string xv) ∧ w4.cell? ⟨xb, 4, none⟩ = some (.bool xg)) := ⟨HX4.out.cell 1 rfl, HX4.out.cell 2 rfl, HX4.out.cell 3 rfl, HX4.out.cell 4 rfl⟩
          refine ⟨_, rfl, HC4.out, ?_⟩
          clear hm4
          refine wpAnyC_nextD 99 12 49 rfl rfl (by kernel_rfl) (by rfl) (v := .bool false) (w' := w4) (by go_simp) HC4.out ?_
          refine ⟨by kernel_rfl, ?_⟩
          have hQ1 := HQ1.out
          subst hQ1
          have hfr := HFR.out
          subst hfr
          clear HC0 HC4 HPF HPS HBR hpan t3 t4 t6
          go_simp
          go_wp2_with fail
          go_meet
          case rel => exact ⟨q', s', r', all', HB4.out, hqb'.trans hqb, hrb', HX4.out⟩
        · have hb0 : (xw == 0) = false := by simp [h0]
          by_cases h1 : xw = 1
          · have hb1 : (xw == 1) = true := by simp [h1]
            clear h0 h1
            have hc1 := HXA.out.cell 1 rfl
            have hc2 := HXA.out.cell 2 rfl
            have hc3 := HXA.out.cell 3 rfl
            have hc4 := HXA.out.cell 4 rfl
            have HC0 : Hid (wa.drew.cell? ⟨xb, 1, none⟩ = some (.int .i64 xt) ∧ wa.drew.cell? ⟨xb, 2, none⟩ = some (.string xk) ∧ wa.drew.cell? ⟨xb, 3, none⟩ = some (.string xv) ∧ wa.drew.cell? ⟨xb, 4, none⟩ = some (.bool xg)) := ⟨hc1, hc2, hc3, hc4⟩
            have HPF := Hid.mk'' (trim_first (HBA.out.more ((Mod.refl noBlock wa).drew)) (by omega) xt)
            rw [hqb] at HPF
            clear hc1 hc2 hc3 hc4
            go_upto_region 14 with fail
            refine wp_with fun fr hfr => ?_
            refine wp_withQ fun Q1 hQ1 => ?_
            have hpan : ∀ (d : Nat) (v : Value) (c : List PanicEntry) (a : Act) (w : World), Q1 (.panic c) (a.put (some d) v) w → Q1 (.panic c) a w := fun d v c a w h => by rw [hQ1] at h ⊢; exact h
            have HQ1 := Hid.mk'' hQ1
            clear hQ1
            have hsz : fr.tmps.size = 154 := by rw [hfr]; rfl
            obtain ⟨_, t3⟩ : ∃ h : 3 < fr.tmps.size, fr.tmps[3] = .pointer (some ⟨bq, 0, none⟩) := Array.getElem?_eq_some_iff.1 (by rw [hfr]; rfl)
            obtain ⟨_, t4⟩ : ∃ h : 4 < fr.tmps.size, fr.tmps[4] = .pointer (some ⟨br, 0, none⟩) := Array.getElem?_eq_some_iff.1 (by rw [hfr]; rfl)
            obtain ⟨_, t6⟩ : ∃ h : 6 < fr.tmps.size, fr.tmps[6] = .pointer (some ⟨xb, 0, none⟩) := Array.getElem?_eq_some_iff.1 (by rw [hfr]; rfl)
            have HFR := Hid.mk'' hfr
            clear hfr
            refine wp_region_C 99 (fun wq => wq.cell? ⟨xb, 1, none⟩ = some (.int .i64 xt) ∧ wq.cell? ⟨xb, 2, none⟩ = some (.string xk) ∧ wq.cell? ⟨xb, 3, none⟩ = some (.string xv) ∧ wq.cell? ⟨xb, 4, none⟩ = some (.bool xg)) rfl ?_
            refine wpAnyC_takeD 99 0 52 (.pointer (some ⟨xb, 1, none⟩)) rfl rfl (by kernel_rfl) (by kernel_rfl) (by kernel_rfl) (by kernel_rfl) (fun c a w h => hpan _ _ c a w h) HC0.out ⟨by rfl, fun wq hq => by obtain ⟨y1, y2, y3, y4⟩ := hq; go_simp⟩ ?_
            refine wpAnyC_takeD 99 1 53 (.int .i64 xt) rfl rfl (by kernel_rfl) (by kernel_rfl) (by kernel_rfl) (by kernel_rfl) (fun c a w h => hpan _ _ c a w h) HC0.out ⟨by rfl, fun wq hq => by obtain ⟨y1, y2, y3, y4⟩ := hq; go_simp⟩ ?_
            refine wpAnyC_takeD 99 3 55 (.pointer (some ⟨br, 0, none⟩)) rfl rfl (by kernel_rfl) (by kernel_rfl) (by kernel_rfl) (by kernel_rfl) (fun c a w h => hpan _ _ c a w h) HC0.out ⟨by rfl, fun wq hq => by obtain ⟨y1, y2, y3, y4⟩ := hq; go_simp⟩ ?_
            refine wpAnyC_takeD 99 4 56 (.pointer (some ⟨xb, 1, none⟩)) rfl rfl (by kernel_rfl) (by kernel_rfl) (by kernel_rfl) (by kernel_rfl) (fun c a w h => hpan _ _ c a w h) HC0.out ⟨by rfl, fun wq hq => by obtain ⟨y1, y2, y3, y4⟩ := hq; go_simp⟩ ?_
            refine wpAnyC_takeD 99 5 57 (.int .i64 xt) rfl rfl (by kernel_rfl) (by kernel_rfl) (by kernel_rfl) (by kernel_rfl) (fun c a w h => hpan _ _ c a w h) HC0.out ⟨by rfl, fun wq hq => by obtain ⟨y1, y2, y3, y4⟩ := hq; go_simp⟩ ?_
            refine wpAnyC_callD 99 2 54 rfl rfl (by kernel_rfl) (by rfl) (f := 41) (args := #[.pointer (some ⟨bq, 0, none⟩), .int .i64 xt]) (by go_simp) (HPF.out.mono ?_)
            rintro e w2 ⟨c, rfl, hmid, hm2⟩
            have HX2 := Hid.mk'' ((HXA.out.mod ((Mod.refl noBlock wa).drew) id).mod hm2 (fun e => HQX.out xb e rfl))
            refine ⟨_, rfl, ⟨HX2.out.cell 1 rfl, HX2.out.cell 2 rfl, HX2.out.cell 3 rfl, HX2.out.cell 4 rfl⟩, ?_⟩
            have HPS := Hid.mk'' (trim_second hmid (by omega))
            rw [hrb] at HPS
            clear hmid hm2
            refine wpAnyC_callD 99 6 58 rfl rfl (by kernel_rfl) (by rfl) (f := 45) (args := #[.pointer (some ⟨br, 0, none⟩), .int .i64 xt]) (by go_simp) (HPS.out.mono ?_)
            rintro e w3 ⟨rfl, ⟨q', s', r', all', hB', hqb', hrb'⟩, hm3⟩
            have HX3 := Hid.mk'' (HX2.out.mod hm3 (fun e => HRX.out xb e rfl))
            refine ⟨_, rfl, ⟨HX3.out.cell 1 rfl, HX3.out.cell 2 rfl, HX3.out.cell 3 rfl, HX3.out.cell 4 rfl⟩, ?_⟩
            have HBR := Hid.mk'' (bare_same c w3 (HE.out.mod hB'.mod))
            have HB3 := Hid.mk'' hB'
            clear hB' hm3
            refine wpAnyC_callD 99 7 59 rfl rfl (by kernel_rfl) (by rfl) (f := 15) (args := #[errV c, .int .i64 c]) (by go_simp) (HBR.out.mono ?_)
            rintro e w4 ⟨rfl, hm4⟩
            have HX4 := Hid.mk'' (HX3.out.mod hm4 id)
            have HB4 := Hid.mk'' (HB3.out.more hm4)
            have HC4 : Hid (w4.cell? ⟨xb, 1, none⟩ = some (.int .i64 xt) ∧ w4.cell? ⟨xb, 2, none⟩ = some (.string xk) ∧ w4.cell? ⟨xb, 3, none⟩ = some (.string xv) ∧ w4.cell? ⟨xb, 4, none⟩ = some (.bool xg)) := ⟨HX4.out.cell 1 rfl, HX4.out.cell 2 rfl, HX4.out.cell 3 rfl, HX4.out.cell 4 rfl⟩
            refine ⟨_, rfl, HC4.out, ?_⟩
            clear hm4
            refine wpAnyC_nextD 99 8 60 rfl rfl (by kernel_rfl) (by rfl) (v := .bool false) (w' := w4) (by go_simp) HC4.out ?_
            refine ⟨by kernel_rfl, ?_⟩
            have hQ1 := HQ1.out
            subst hQ1
            have hfr := HFR.out
            subst hfr
            clear HC0 HC4 HPF HPS HBR hpan t3 t4 t6
            go_simp
            go_wp2_with fail
            go_meet
            case rel => exact ⟨q', s', r', all', HB4.out, hqb'.trans hqb, hrb', HX4.out⟩
          · have hb1 : (xw == 1) = false := by simp [h1]
            go_wp2_with fail
            go_meet
            case rel => exact ⟨q, s, r, all, HBA.out.next, hqb, hrb, HXA.out⟩
      case rest =>
        obtain ⟨q', s', r', all', hB', hqb', hrb', hX'⟩ := hcut
        obtain ⟨wm, hwm⟩ : ∃ x, x = wc := ⟨_, rfl⟩
        subst hwm
        have i1 := hX'.cell 1 rfl
        have i2 := hX'.cell 2 rfl
        have zx' := hX'.lt
        obtain ⟨gv, gb, gc, hG1, hG2⟩ := gets_both hB' (by omega) xk xt HOK.out
        obtain ⟨ac, ps, hA1, hA2⟩ := ats_both hB' (by omega) xt
        rw [hrb'] at hG1 hA1
        rw [hqb'] at hG2 hA2
        have HG1 := Hid.mk'' hG1
        have HG2 := Hid.mk'' hG2
        have HA1 := Hid.mk'' hA1
        have HA2 := Hid.mk'' hA2
        have HB2 := Hid.mk'' hB'
        have HX2 := Hid.mk'' hX'
        clear hG1 hG2 hA1 hA2 hB' hX' e0 zx HBA HXA HQX HRX HOK HB
        go_wp2_with fail
        refine (HG1.out _ (Mod.refl _ _)).mono ?_
        rintro e w5 ⟨rfl, hm5⟩
        have i1' := hm5.cell i1 id
        have i2' := hm5.cell i2 id
        have HM5 := Hid.mk'' hm5
        clear i1 i2 hm5 HG1
        go_wp2_with fail
        refine (HG2.out _ HM5.out).mono ?_
        rintro e w6 ⟨rfl, hm6⟩
        have j1 := hm6.cell i1' id
        have HM6 := Hid.mk'' (HM5.out.trans hm6)
        clear i1' i2' hm6 HG2 HM5
        go_wp2_with fail
        refine (HA1.out _ HM6.out).mono ?_
        rintro e w7 ⟨va, rfl, hpa, hm7⟩
        obtain ⟨pa, pac, rfl, hpa1, hpa2⟩ := SlR.slice hpa
        unfold maxLen at hpa2
        have j1' := hm7.cell j1 id
        have HPA := Hid.mk'' hpa
        have HM7 := Hid.mk'' (HM6.out.trans hm7)
        clear j1 hm7 HA1 HM6 hpa
        go_wp2_with fail
        refine (HA2.out _ HM7.out).mono ?_
        rintro e w8 ⟨vb, rfl, hpb, hm8⟩
        obtain ⟨pb, pbc, rfl, hpb1, hpb2⟩ := SlR.slice hpb
        unfold maxLen at hpb2
        have HPA8 := Hid.mk'' (HPA.out.mod hm8 (fun _ _ => id))
        have HPB := Hid.mk'' hpb
        have HB8 := Hid.mk'' (HB2.out.more (HM7.out.trans hm8))
        clear j1' hm8 HA2 HM7 hpb HPA HB2
        go_upto_region 20 with fail
        go_cut [138] (fun t wc => t = .bool false ∧ Mod noBlock w8 wc)
        case first =>
          obtain ⟨ra, rcap, hrv, hrc1, hrc2⟩ := HB8.out.rf.sl
          have k0 := HB8.out.rf.blk.cell 0 rfl
          have k1 := HB8.out.rf.blk.cell 1 rfl
          have kz := HB8.out.rf.blk.lt
          rw [hrb'] at k0 k1 kz
          rw [hrv] at k0
          rw [HB8.out.low] at k1
          unfold maxLen at hrc2
          have HC0 : Hid (Mod noBlock w8 w8.drew) := (Mod.refl _ w8).drew
          clear hrv
          refine wp_with fun fr hfr => ?_
          refine wp_withQ fun Q1 hQ1 => ?_
          have hpan : ∀ (d : Nat) (v : Value) (c : List PanicEntry) (a : Act) (w : World), Q1 (.panic c) (a.put (some d) v) w → Q1 (.panic c) a w := fun d v c a w h => by rw [hQ1] at h ⊢; exact h
          have HQ1 := Hid.mk'' hQ1
          clear hQ1
          have hsz : fr.tmps.size = 154 := by rw [hfr]; rfl
          obtain ⟨_, t3⟩ : ∃ h : 3 < fr.tmps.size, fr.tmps[3] = .pointer (some ⟨bq, 0, none⟩) := Array.getElem?_eq_some_iff.1 (by rw [hfr]; rfl)
          obtain ⟨_, t4⟩ : ∃ h : 4 < fr.tmps.size, fr.tmps[4] = .pointer (some ⟨br, 0, none⟩) := Array.getElem?_eq_some_iff.1 (by rw [hfr]; rfl)
          obtain ⟨_, t7⟩ : ∃ h : 7 < fr.tmps.size, fr.tmps[7] = .string gv := Array.getElem?_eq_some_iff.1 (by rw [hfr]; rfl)
          obtain ⟨_, t8⟩ : ∃ h : 8 < fr.tmps.size, fr.tmps[8] = .bool gb := Array.getElem?_eq_some_iff.1 (by rw [hfr]; rfl)
          obtain ⟨_, t9⟩ : ∃ h : 9 < fr.tmps.size, fr.tmps[9] = .int .i64 gc := Array.getElem?_eq_some_iff.1 (by rw [hfr]; rfl)
          obtain ⟨_, t10⟩ : ∃ h : 10 < fr.tmps.size, fr.tmps[10] = .string gv := Array.getElem?_eq_some_iff.1 (by rw [hfr]; rfl)
          obtain ⟨_, t11⟩ : ∃ h : 11 < fr.tmps.size, fr.tmps[11] = .bool gb := Array.getElem?_eq_some_iff.1 (by rw [hfr]; rfl)
          obtain ⟨_, t12⟩ : ∃ h : 12 < fr.tmps.size, fr.tmps[12] = errV gc := Array.getElem?_eq_some_iff.1 (by rw [hfr]; rfl)
          obtain ⟨_, t13⟩ : ∃ h : 13 < fr.tmps.size, fr.tmps[13] = .slice pa ps.length pac := Array.getElem?_eq_some_iff.1 (by rw [hfr]; rfl)
          obtain ⟨_, t14⟩ : ∃ h : 14 < fr.tmps.size, fr.tmps[14] = .int .i64 ac := Array.getElem?_eq_some_iff.1 (by rw [hfr]; rfl)
          obtain ⟨_, t15⟩ : ∃ h : 15 < fr.tmps.size, fr.tmps[15] = .slice pb ps.length pbc := Array.getElem?_eq_some_iff.1 (by rw [hfr]; rfl)
          obtain ⟨_, t16⟩ : ∃ h : 16 < fr.tmps.size, fr.tmps[16] = errV ac := Array.getElem?_eq_some_iff.1 (by rw [hfr]; rfl)
          have HFR := Hid.mk'' hfr
          clear hfr
          refine wp_region_C 99 (fun wq => Mod noBlock w8 wq) rfl ?_
          refine wpAnyC_takeD 99 0 95 (errV gc) rfl rfl (by kernel_rfl) (by kernel_rfl) (by kernel_rfl) (by kernel_rfl) (fun c a w h => hpan _ _ c a w h) HC0.out ⟨by rfl, fun wq hq => by skip; go_simp⟩ ?_
          refine wpAnyC_takeD 99 1 96 (.int .i64 gc) rfl rfl (by kernel_rfl) (by kernel_rfl) (by kernel_rfl) (by kernel_rfl) (fun c a w h => hpan _ _ c a w h) HC0.out ⟨by rfl, fun wq hq => by skip; go_simp⟩ ?_
          have HR2 := Hid.mk'' (bare_same gc _ (HE.out.mod (HB8.out.mod.trans HC0.out)))
          refine wpAnyC_callD 99 2 97 rfl rfl (by kernel_rfl) (by rfl) (f := 15) (args := #[errV gc, .int .i64 gc]) (by go_simp) (HR2.out.mono ?_)
          rintro e w9 ⟨rfl, hm⟩
          have HC1 : Hid (Mod noBlock w8 w9) := HC0.out.trans hm
          clear hm HR2
          refine ⟨_, rfl, HC1.out, ?_⟩
          refine wpAnyC_takeD 99 3 98 (.bool false) rfl rfl (by kernel_rfl) (by kernel_rfl) (by kernel_rfl) (by kernel_rfl) (fun c a w h => hpan _ _ c a w h) HC1.out ⟨by rfl, fun wq hq => by skip; go_simp⟩ ?_
          refine wpAnyC_takeD 99 4 99 (.bool false) rfl rfl (by kernel_rfl) (by kernel_rfl) (by kernel_rfl) (by kernel_rfl) (fun c a w h => hpan _ _ c a w h) HC1.out ⟨by rfl, fun wq hq => by skip; go_simp⟩ ?_
          refine wpAnyC_takeD 99 5 100 (.string gv) rfl rfl (by kernel_rfl) (by kernel_rfl) (by kernel_rfl) (by kernel_rfl) (fun c a w h => hpan _ _ c a w h) HC1.out ⟨by exact wanted_guard rfl rfl rfl (by go_simp), fun wq hq => by skip; go_simp⟩ ?_
          refine wpAnyC_takeD 99 6 101 (.string gv) rfl rfl (by kernel_rfl) (by kernel_rfl) (by kernel_rfl) (by kernel_rfl) (fun c a w h => hpan _ _ c a w h) HC1.out ⟨by exact wanted_guard rfl rfl rfl (by go_simp), fun wq hq => by skip; go_simp⟩ ?_
          refine wpAnyC_takeD 99 7 102 (.bool false) rfl rfl (by kernel_rfl) (by kernel_rfl) (by kernel_rfl) (by kernel_rfl) (fun c a w h => hpan _ _ c a w h) HC1.out ⟨by exact wanted_guard rfl rfl rfl (by go_simp), fun wq hq => by skip; go_simp⟩ ?_
          refine wpAnyC_takeD 99 8 103 (.bool false) rfl rfl (by kernel_rfl) (by kernel_rfl) (by kernel_rfl) (by kernel_rfl) (fun c a w h => hpan _ _ c a w h) HC1.out ⟨by rfl, fun wq hq => by skip; go_simp⟩ ?_
          refine wpAnyC_takeD 99 9 104 (.bool false) rfl rfl (by kernel_rfl) (by kernel_rfl) (by kernel_rfl) (by kernel_rfl) (fun c a w h => hpan _ _ c a w h) HC1.out ⟨by rfl, fun wq hq => by skip; go_simp⟩ ?_
          refine wpAnyC_takeD 99 10 105 (.bool gb) rfl rfl (by kernel_rfl) (by kernel_rfl) (by kernel_rfl) (by kernel_rfl) (fun c a w h => hpan _ _ c a w h) HC1.out ⟨by exact wanted_guard rfl rfl rfl (by go_simp), fun wq hq => by skip; go_simp⟩ ?_
          refine wpAnyC_takeD 99 11 106 (.bool gb) rfl rfl (by kernel_rfl) (by kernel_rfl) (by kernel_rfl) (by kernel_rfl) (fun c a w h => hpan _ _ c a w h) HC1.out ⟨by exact wanted_guard rfl rfl rfl (by go_simp), fun wq hq => by skip; go_simp⟩ ?_
          refine wpAnyC_takeD 99 12 107 (.bool false) rfl rfl (by kernel_rfl) (by kernel_rfl) (by kernel_rfl) (by kernel_rfl) (fun c a w h => hpan _ _ c a w h) HC1.out ⟨by exact wanted_guard rfl rfl rfl (by go_simp), fun wq hq => by skip; go_simp⟩ ?_
          refine wpAnyC_takeD 99 13 108 (.bool false) rfl rfl (by kernel_rfl) (by kernel_rfl) (by kernel_rfl) (by kernel_rfl) (fun c a w h => hpan _ _ c a w h) HC1.out ⟨by rfl, fun wq hq => by skip; go_simp⟩ ?_
          refine wpAnyC_takeD 99 14 109 (.bool false) rfl rfl (by kernel_rfl) (by kernel_rfl) (by kernel_rfl) (by kernel_rfl) (fun c a w h => hpan _ _ c a w h) HC1.out ⟨by rfl, fun wq hq => by skip; go_simp⟩ ?_
          refine wpAnyC_takeD 99 15 110 (errV ac) rfl rfl (by kernel_rfl) (by kernel_rfl) (by kernel_rfl) (by kernel_rfl) (fun c a w h => hpan _ _ c a w h) HC1.out ⟨by exact wanted_guard rfl rfl rfl (by go_simp), fun wq hq => by skip; go_simp⟩ ?_
          refine wpAnyC_takeD 99 16 111 (.int .i64 ac) rfl rfl (by kernel_rfl) (by kernel_rfl) (by kernel_rfl) (by kernel_rfl) (fun c a w h => hpan _ _ c a w h) HC1.out ⟨by exact wanted_guard rfl rfl rfl (by go_simp), fun wq hq => by skip; go_simp⟩ ?_
          have HR17 := Hid.mk'' (bare_same ac _ (HE.out.mod (HB8.out.mod.trans HC1.out)))
          refine wpAnyC_callD 99 17 112 rfl rfl (by kernel_rfl) (by exact wanted_guard rfl rfl rfl (by go_simp)) (f := 15) (args := #[errV ac, .int .i64 ac]) (by go_simp) (HR17.out.mono ?_)
          rintro e wA ⟨rfl, hm⟩
          have HC2 : Hid (Mod noBlock w8 wA) := HC1.out.trans hm
          clear hm HR17
          refine ⟨_, rfl, HC2.out, ?_⟩
          refine wpAnyC_takeD 99 18 113 (.bool false) rfl rfl (by kernel_rfl) (by kernel_rfl) (by kernel_rfl) (by kernel_rfl) (fun c a w h => hpan _ _ c a w h) HC2.out ⟨by exact wanted_guard rfl rfl rfl (by go_simp), fun wq hq => by skip; go_simp⟩ ?_
          refine wpAnyC_takeD 99 19 114 (.bool false) rfl rfl (by kernel_rfl) (by kernel_rfl) (by kernel_rfl) (by kernel_rfl) (fun c a w h => hpan _ _ c a w h) HC2.out ⟨by rfl, fun wq hq => by skip; go_simp⟩ ?_
          refine wpAnyC_takeD 99 20 115 (.bool false) rfl rfl (by kernel_rfl) (by kernel_rfl) (by kernel_rfl) (by kernel_rfl) (fun c a w h => hpan _ _ c a w h) HC2.out ⟨by rfl, fun wq hq => by skip; go_simp⟩ ?_
          refine wpAnyC_takeD 99 21 116 (.slice pb ps.length pbc) rfl rfl (by kernel_rfl) (by kernel_rfl) (by kernel_rfl) (by kernel_rfl) (fun c a w h => hpan _ _ c a w h) HC2.out ⟨by exact wanted_guard rfl rfl rfl (by go_simp), fun wq hq => by skip; go_simp⟩ ?_
          refine wpAnyC_takeD 99 22 117 (.int .i64 (ps.length : Int)) rfl rfl (by kernel_rfl) (by kernel_rfl) (by kernel_rfl) (by kernel_rfl) (fun c a w h => hpan _ _ c a w h) HC2.out ⟨by exact wanted_guard rfl rfl rfl (by go_simp), fun wq hq => by skip; go_simp⟩ ?_
          refine wpAnyC_takeD 99 23 118 (.slice pa ps.length pac) rfl rfl (by kernel_rfl) (by kernel_rfl) (by kernel_rfl) (by kernel_rfl) (fun c a w h => hpan _ _ c a w h) HC2.out ⟨by exact wanted_guard rfl rfl rfl (by go_simp), fun wq hq => by skip; go_simp⟩ ?_
          refine wpAnyC_takeD 99 24 119 (.int .i64 (ps.length : Int)) rfl rfl (by kernel_rfl) (by kernel_rfl) (by kernel_rfl) (by kernel_rfl) (fun c a w h => hpan _ _ c a w h) HC2.out ⟨by exact wanted_guard rfl rfl rfl (by go_simp), fun wq hq => by skip; go_simp⟩ ?_
          refine wpAnyC_takeD 99 25 120 (.bool false) rfl rfl (by kernel_rfl) (by kernel_rfl) (by kernel_rfl) (by kernel_rfl) (fun c a w h => hpan _ _ c a w h) HC2.out ⟨by exact wanted_guard rfl rfl rfl (by go_simp), fun wq hq => by skip; go_simp⟩ ?_
          refine wpAnyC_takeD 99 26 121 (.bool false) rfl rfl (by kernel_rfl) (by kernel_rfl) (by kernel_rfl) (by kernel_rfl) (fun c a w h => hpan _ _ c a w h) HC2.out ⟨by rfl, fun wq hq => by skip; go_simp⟩ ?_
          refine wpAnyC_takeD 99 27 122 (.bool false) rfl rfl (by kernel_rfl) (by kernel_rfl) (by kernel_rfl) (by kernel_rfl) (fun c a w h => hpan _ _ c a w h) HC2.out ⟨by rfl, fun wq hq => by skip; go_simp⟩ ?_
          refine wpAnyC_takeD 99 29 124 (.pointer (some ⟨br, 0, none⟩)) rfl rfl (by kernel_rfl) (by kernel_rfl) (by kernel_rfl) (by kernel_rfl) (fun c a w h => hpan _ _ c a w h) HC2.out ⟨by exact wanted_guard rfl rfl rfl (by go_simp), fun wq hq => by skip; go_simp⟩ ?_
          refine wpAnyC_takeD 99 30 125 (.pointer (some ⟨br, 0, none⟩)) rfl rfl (by kernel_rfl) (by kernel_rfl) (by kernel_rfl) (by kernel_rfl) (fun c a w h => hpan _ _ c a w h) HC2.out ⟨by exact wanted_guard rfl rfl rfl (by go_simp), fun wq hq => by have y0 := hq.cell k0 id; have y1 := hq.cell k1 id; have yz := Nat.lt_of_lt_of_le kz hq.size; go_simp⟩ ?_
          refine wpAnyC_takeD 99 31 126 (.pointer (some ⟨br, 1, none⟩)) rfl rfl (by kernel_rfl) (by kernel_rfl) (by kernel_rfl) (by kernel_rfl) (fun c a w h => hpan _ _ c a w h) HC2.out ⟨by exact wanted_guard rfl rfl rfl (by go_simp), fun wq hq => by skip; go_simp⟩ ?_
          refine wpAnyC_takeD 99 32 127 (.int .i64 q'.low) rfl rfl (by kernel_rfl) (by kernel_rfl) (by kernel_rfl) (by kernel_rfl) (fun c a w h => hpan _ _ c a w h) HC2.out ⟨by exact wanted_guard rfl rfl rfl (by go_simp), fun wq hq => by have y0 := hq.cell k0 id; have y1 := hq.cell k1 id; have yz := Nat.lt_of_lt_of_le kz hq.size; go_simp⟩ ?_
          have HLW := Hid.mk'' (low_any q' _ s' wA (HB8.out.more HC2.out).st)
          rw [hqb'] at HLW
          refine wpAnyC_callD 99 28 123 rfl rfl (by kernel_rfl) (by exact wanted_guard rfl rfl rfl (by go_simp)) (f := 48) (args := #[.pointer (some ⟨bq, 0, none⟩)]) (by go_simp) (HLW.out.mono ?_)
          rintro e wB ⟨rfl, rfl⟩
          refine ⟨_, rfl, HC2.out, ?_⟩
          refine wpAnyC_takeD 99 33 128 (.bool false) rfl rfl (by kernel_rfl) (by kernel_rfl) (by kernel_rfl) (by kernel_rfl) (fun c a w h => hpan _ _ c a w h) HC2.out ⟨by exact wanted_guard rfl rfl rfl (by go_simp), fun wq hq => by skip; go_simp⟩ ?_
          refine wpAnyC_takeD 99 34 129 (.bool false) rfl rfl (by kernel_rfl) (by kernel_rfl) (by kernel_rfl) (by kernel_rfl) (fun c a w h => hpan _ _ c a w h) HC2.out ⟨by rfl, fun wq hq => by skip; go_simp⟩ ?_
          refine wpAnyC_takeD 99 35 130 (.bool false) rfl rfl (by kernel_rfl) (by kernel_rfl) (by kernel_rfl) (by kernel_rfl) (fun c a w h => hpan _ _ c a w h) HC2.out ⟨by rfl, fun wq hq => by skip; go_simp⟩ ?_
          refine wpAnyC_takeD 99 37 132 (.pointer (some ⟨br, 0, none⟩)) rfl rfl (by kernel_rfl) (by kernel_rfl) (by kernel_rfl) (by kernel_rfl) (fun c a w h => hpan _ _ c a w h) HC2.out ⟨by exact wanted_guard rfl rfl rfl (by go_simp), fun wq hq => by skip; go_simp⟩ ?_
          refine wpAnyC_takeD 99 38 133 (.pointer (some ⟨br, 0, none⟩)) rfl rfl (by kernel_rfl) (by kernel_rfl) (by kernel_rfl) (by kernel_rfl) (fun c a w h => hpan _ _ c a w h) HC2.out ⟨by exact wanted_guard rfl rfl rfl (by go_simp), fun wq hq => by have y0 := hq.cell k0 id; have y1 := hq.cell k1 id; have yz := Nat.lt_of_lt_of_le kz hq.size; go_simp⟩ ?_
          refine wpAnyC_takeD 99 39 134 (.pointer (some ⟨br, 0, none⟩)) rfl rfl (by kernel_rfl) (by kernel_rfl) (by kernel_rfl) (by kernel_rfl) (fun c a w h => hpan _ _ c a w h) HC2.out ⟨by exact wanted_guard rfl rfl rfl (by go_simp), fun wq hq => by skip; go_simp⟩ ?_
          refine wpAnyC_takeD 99 40 135 (.slice ra all'.length rcap) rfl rfl (by kernel_rfl) (by kernel_rfl) (by kernel_rfl) (by kernel_rfl) (fun c a w h => hpan _ _ c a w h) HC2.out ⟨by exact wanted_guard rfl rfl rfl (by go_simp), fun wq hq => by have y0 := hq.cell k0 id; have y1 := hq.cell k1 id; have yz := Nat.lt_of_lt_of_le kz hq.size; go_simp⟩ ?_
          refine wpAnyC_takeD 99 41 136 (.int .i64 (all'.length : Int)) rfl rfl (by kernel_rfl) (by kernel_rfl) (by kernel_rfl) (by kernel_rfl) (fun c a w h => hpan _ _ c a w h) HC2.out ⟨by exact wanted_guard rfl rfl rfl (by go_simp), fun wq hq => by skip; go_simp⟩ ?_
          have HMY := Hid.mk'' (many_both (HB8.out.more HC2.out) (by omega))
          rw [hqb'] at HMY
          refine wpAnyC_callD 99 36 131 rfl rfl (by kernel_rfl) (by exact wanted_guard rfl rfl rfl (by go_simp)) (f := 42) (args := #[.pointer (some ⟨bq, 0, none⟩)]) (by go_simp) (HMY.out.mono ?_)
          rintro e wC ⟨rfl, hm⟩
          have HC3 : Hid (Mod noBlock w8 wC) := HC2.out.trans hm
          clear hm HMY HLW
          refine ⟨_, rfl, HC3.out, ?_⟩
          refine wpAnyC_takeD 99 42 137 (.bool false) rfl rfl (by kernel_rfl) (by kernel_rfl) (by kernel_rfl) (by kernel_rfl) (fun c a w h => hpan _ _ c a w h) HC3.out ⟨by exact wanted_guard rfl rfl rfl (by go_simp), fun wq hq => by skip; go_simp⟩ ?_
          refine wpAnyC_takeD 99 43 138 (.bool false) rfl rfl (by kernel_rfl) (by kernel_rfl) (by kernel_rfl) (by kernel_rfl) (fun c a w h => hpan _ _ c a w h) HC3.out ⟨by rfl, fun wq hq => by skip; go_simp⟩ ?_
          refine ⟨by kernel_rfl, ?_⟩
          have hQ1 := HQ1.out
          subst hQ1
          have hfr := HFR.out
          subst hfr
          go_wp2_with fail
          go_meet
          case rel => exact ⟨rfl, HC3.out⟩
        case rest =>
          obtain ⟨rfl, hmc⟩ := hcut
          obtain ⟨wn, hwn⟩ : ∃ x, x = wc := ⟨_, rfl⟩
          subst hwn
          have HPA9 := Hid.mk'' (HPA8.out.mod hmc (fun _ _ => id))
          have HPB9 := Hid.mk'' (HPB.out.mod hmc (fun _ _ => id))
          have HB9 := Hid.mk'' (HB8.out.more hmc)
          clear hmc HPA8 HPB HB8
          go_wp2_with fail
          go_loopw [17] (fun i0 wr => ∃ k : Nat, k ≤ ps.length ∧ i0 = .int .i64 k ∧ Mod noBlock wn wr) (fun i0 _ => ps.length - (intOf i0).toNat)
          case atStart => exact ⟨0, Nat.zero_le _, rfl, Mod.refl _ _⟩
          case round =>
            obtain ⟨k, hk, rfl, hM⟩ := hrel
            by_cases hkl : k < ps.length
            · have hkI : (k : Int) < (ps.length : Int) := by omega
              have hk0 : (0 : Int) ≤ (k : Int) := by omega
              obtain ⟨p, hp⟩ : ∃ p, ps[k]? = some p := ⟨_, List.getElem?_eq_getElem hkl⟩
              obtain ⟨b1, o1, rfl, _, f0, f1, f2⟩ := HPB9.out.at hp
              obtain ⟨b2, o2, rfl, _, g0, g1, g2⟩ := HPA9.out.at hp
              have f0' := hM.cell f0 id
              have f1' := hM.cell f1 id
              have f2' := hM.cell f2 id
              have g0' := hM.cell g0 id
              have g1' := hM.cell g1 id
              have g2' := hM.cell g2 id
              have HM := Hid.mk'' hM
              obtain ⟨pk, pv⟩ := p
              dsimp only at f0' f1' g0' g1'
              clear f0 f1 f2 g0 g1 g2 hp hM
              go_upto_region 25 with fail
              go_region
              all_goals
                go_wp2_with fail
                go_roundw
                case rel => exact ⟨k + 1, by omega, by go_num, HM.out.drew⟩
                case measure => simp [intOf]; omega
            · have HBN := Hid.mk'' (HB9.out.more hM)
              clear hM
              go_wp2_with fail
              go_roundw
              case rel => exact ⟨i + 1, q', s', r', all', by omega, by go_num, HBN.out, hqb', hrb'⟩
              case measure => simp [intOf]; omega
    · have HMW := Hid.mk'' hB.mod
      clear hB
      go_wp2_with fail
      go_ret
      exact ⟨rfl, HMW.out⟩
end Go.Proofs.YtefhgakcffhgaaaDoor
