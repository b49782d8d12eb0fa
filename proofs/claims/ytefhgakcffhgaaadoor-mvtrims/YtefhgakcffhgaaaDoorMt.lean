/- The law MvTrims. -/
import Derived.Test.YtefhgakcffhgaaaDoorMo
import Derived.Test.YtefhgakcffhgaaaDoorMq
namespace Go.Proofs.YtefhgakcffhgaaaDoor
open Go.RowKit Go.Lib Go.Maps
set_option linter.unusedVariables false

def setR (d : SetD) (cs : List Value) : Prop := cs = [.int .i64 d.time, .string d.key, .string d.value, .bool d.gone] ∧ okK d.key
/-- What is to be put, as it is given. -/
def SetsV (w : World) (L : Nat) (v : Value) (l : List SetD) : Prop := SlR w L 4 setR v l
theorem SetsV.mod {G : Nat → Prop} {w w' : World} {L : Nat} {v : Value} {l : List SetD} (h : SetsV w L v l) (hm : Mod G w w') (hG : ∀ k, k < L → ¬ G k) : SetsV w' L v l := SlR.mod h hm hG (fun _ _ h => h)
theorem SetsV.at {w : World} {L : Nat} {a : Option Addr} {n cap : Nat} {l : List SetD} (h : SetsV w L (.slice a n cap) l) {i : Nat} {d : SetD} (hi : l[i]? = some d) :
    ∃ b off, a = some ⟨b, off, none⟩ ∧ b < L ∧ okK d.key ∧ w.cell? ⟨b, off + i * 4, none⟩ = some (.int .i64 d.time) ∧ w.cell? ⟨b, off + i * 4 + 1, none⟩ = some (.string d.key) ∧ w.cell? ⟨b, off + i * 4 + 2, none⟩ = some (.string d.value) ∧ w.cell? ⟨b, off + i * 4 + 3, none⟩ = some (.bool d.gone) := by
  obtain ⟨b, off, cs, h1, h2, ⟨rfl, h3⟩, _, h5⟩ := SlR.at h hi
  exact ⟨b, off, h1, h2, h3, by have := h5 0 _ rfl; simpa using this, h5 1 _ rfl, h5 2 _ rfl, h5 3 _ rfl⟩
theorem run_makeMapS (w : World) : (Instr.makeMap 82 none).run Tryd.prog w = .ok (.map (some w.heap.size)) (w.alloc (.map #[] 0)) := by kernel_rfl
/-- Behind the keys that are seen. -/
structure SeenL (w1 wr : World) (gs i : Nat) (l : List SetD) : Prop where
  le : i ≤ l.length
  seen : SeenP wr gs i ((l.take i).map tk)
  nodup : ((l.take i).map tk).Nodup
  mod : Mod (oneBlock gs) w1 wr
theorem putSet_any (q : StM) (B : Nat) (s : Vers) (x : SetD) (w : World) (h : StP w B q s) (hB : B ≤ w.heap.size) (hlow : q.low = 0) (hn : q.n ≤ 900) (hnew : ∀ v ∈ s x.key, v.time ≠ (verOf x).time) (hfew : (s x.key).length ≤ 800) :
    Calls Tryd.prog 38 #[.pointer (some ⟨q.b, 0, none⟩), .int .i64 (pickN x.time 50 : Nat), .agg #[.string x.key, .string x.value, .bool x.gone]] w fun e w' => (∃ v, e = .returned v) ∧ ∃ q', StP w' B q' (addS s x) ∧ q'.b = q.b ∧ q'.low = q.low ∧ q'.n ≤ q.n + 1 ∧ Mod q.own w w' ∧ ∀ z, q'.own z → q.own z ∨ w.heap.size ≤ z := by
  have hp := pickN_lt x.time 50 (by omega)
  have h0 : (0 : Int) ≤ (pickN x.time 50 : Nat) := by omega
  have h1 : ((pickN x.time 50 : Nat) : Int) ≤ 1099511627776 := by omega
  unfold addS
  by_cases hok : okSet x
  · rw [if_pos hok]
    refine (put_yes q B s (pickN x.time 50 : Nat) x.key x.value x.gone w h hB h0 h1 hok.1 hok.2 (by rw [hlow]; exact h0) (fun v hv => by have := hnew v hv; rw [verOf_time] at this; exact this) hfew (by omega)).mono ?_
    rintro e w' ⟨rfl, q', h2⟩
    exact ⟨⟨_, rfl⟩, q', h2⟩
  · rw [if_neg hok]
    refine (put_limit q B s (pickN x.time 50 : Nat) x.key x.value x.gone w h h0 h1 hok).mono ?_
    rintro e w' ⟨rfl, hm⟩
    exact ⟨⟨_, rfl⟩, q, h.mod hm (fun _ _ => id), rfl, rfl, by omega, hm.mono (fun _ _ e => e.elim), fun z hz => .inl hz⟩
/-- Behind some Puts, into a from the front, into b from the end. -/
structure FillL (w wr : World) (ba bb i : Nat) (l : List SetD) (qa qb : StM) (sa sb : Vers) : Prop where
  le : i ≤ l.length
  sta : StP wr w.heap.size qa sa
  stb : StP wr w.heap.size qb sb
  fa : FillP (l.take i) sa
  fb : FillP (l.drop (l.length - i)) sb
  ea : qa.b = ba ∧ qa.low = 0 ∧ qa.n ≤ i
  eb : qb.b = bb ∧ qb.low = 0 ∧ qb.n ≤ i
  apart : ∀ x, qa.own x → ¬ qb.own x
  mod : Mod noBlock w wr
theorem two_new (w : World) (cs cs' : List Value) (t : TypeId) : Blk ((w.alloc (.cells cs.toArray t)).alloc (.cells cs'.toArray t)).drew w.heap.size cs t ∧ Blk ((w.alloc (.cells cs.toArray t)).alloc (.cells cs'.toArray t)).drew (w.heap.size + 1) cs' t ∧ Mod noBlock w ((w.alloc (.cells cs.toArray t)).alloc (.cells cs'.toArray t)).drew := by
  refine ⟨((Blk.new w cs t).mod ((Mod.refl noBlock _).alloc _) id).mod ((Mod.refl noBlock _).drew) id, ?_, (((Mod.refl noBlock w).alloc _).alloc _).drew⟩
  have := Blk.new (w.alloc (.cells cs.toArray t)) cs' t
  have h2 : Blk ((w.alloc (.cells cs.toArray t)).alloc (.cells cs'.toArray t)) (w.heap.size + 1) cs' t := by simpa using this
  exact h2.mod ((Mod.refl noBlock _).drew) id
theorem take_nextM {α : Type} {l : List α} {k : Nat} {x : α} (h : l[k]? = some x) : l.take (k + 1) = l.take k ++ [x] := by
  obtain ⟨hk, e⟩ := List.getElem?_eq_some_iff.1 h
  rw [List.take_succ_eq_append_getElem hk, e]
theorem drop_nextM {α : Type} {l : List α} {k : Nat} {x : α} (h : l[k]? = some x) : l.drop k = x :: l.drop (k + 1) := by
  obtain ⟨hk, e⟩ := List.getElem?_eq_some_iff.1 h
  rw [List.drop_eq_getElem_cons hk, e]
theorem nodup_take {l : List SetD} {i : Nat} {x : SetD} (hn : (l.map tk).Nodup) (hx : l[i]? = some x) : tk x ∉ (l.take i).map tk := fun hm => by
  have h1 : l.map tk = (l.take i).map tk ++ (tk x :: (l.drop (i + 1)).map tk) := by
    rw [← List.map_cons, ← drop_nextM hx, ← List.map_append, List.take_append_drop]
  rw [h1, List.nodup_append] at hn
  exact hn.2.2 _ hm (tk x) (by simp) rfl
theorem nodup_drop {l : List SetD} {i : Nat} {x : SetD} (hn : (l.map tk).Nodup) (hx : l[i]? = some x) : tk x ∉ (l.drop (i + 1)).map tk := fun hm => by
  have h1 : l.map tk = (l.take i).map tk ++ (tk x :: (l.drop (i + 1)).map tk) := by
    rw [← List.map_cons, ← drop_nextM hx, ← List.map_append, List.take_append_drop]
  rw [h1, List.nodup_append] at hn
  exact (List.nodup_cons.1 hn.2.1).1 hm
set_option maxRecDepth 100000 in
set_option maxHeartbeats 16000000 in
theorem mvTrims_any (v : Value) (l : List SetD) (lo0 ask0 : Int) (w : World) (hv : SetsV w w.heap.size v l) (het : ET w) :
    Calls Tryd.prog 8 #[v, .int .i64 lo0, .int .i64 ask0] w fun e w' => e = .returned (.bool true) ∧ Mod noBlock w w' := by
  have HV := Hid.mk'' hv
  have HE := Hid.mk'' het
  obtain ⟨a, cap, rfl, hc1, hc2⟩ := SlR.slice hv
  unfold maxLen at hc2
  clear hv het
  rcases Nat.lt_or_ge 60 l.length with h60 | h60
  · have hd : decide ((l.length : Int) > 60) = true := decide_eq_true (by omega)
    go_enter Tryd.func8, Tryd.ntmps8
    go_wp2_with fail
    go_ret
    exact ⟨rfl, Mod.refl _ _⟩
  have hd : decide ((l.length : Int) > 60) = false := decide_eq_false (by omega)
  obtain ⟨w1, hw1⟩ : ∃ x, x = ((w.alloc (.cells #[.int .i64 0, .map none] 81)).alloc (.cells #[.int .i64 0, .map none] 81)).alloc (.map #[] 0) := ⟨_, rfl⟩
  have hM1 : Mod noBlock w w1 := by rw [hw1]; exact (((Mod.refl _ w).alloc _).alloc _).alloc _
  have hz1 : w1.heap.size = w.heap.size + 3 := by rw [hw1]; simp
  have hb1 : Blk w1 w.heap.size [.int .i64 0, .map none] 81 := by
    rw [hw1]
    exact ((Blk.new w [.int .i64 0, .map none] 81).mod ((Mod.refl noBlock _).alloc _) id).mod ((Mod.refl noBlock _).alloc _) id
  have hb2 : Blk w1 (w.heap.size + 1) [.int .i64 0, .map none] 81 := by
    rw [hw1]
    have := Blk.new (w.alloc (.cells #[.int .i64 0, .map none] 81)) [.int .i64 0, .map none] 81
    exact (by simpa using this : Blk ((w.alloc (.cells #[.int .i64 0, .map none] 81)).alloc (.cells #[.int .i64 0, .map none] 81)) (w.heap.size + 1) [.int .i64 0, .map none] 81).mod ((Mod.refl noBlock _).alloc _) id
  have hsn : SeenP w1 (w.heap.size + 2) 0 [] := by
    rw [hw1]
    have := SeenP.new ((w.alloc (.cells #[.int .i64 0, .map none] 81)).alloc (.cells #[.int .i64 0, .map none] 81))
    simpa using this
  have HSA := Hid.mk'' (newSt (B := w.heap.size) hb1 (Nat.le_refl _))
  have HSB := Hid.mk'' (newSt (B := w.heap.size) hb2 (by omega))
  have HM1 := Hid.mk'' hM1
  have HZ1 := Hid.mk'' hz1
  have HL0 : Hid (SeenL w1 w1 (w.heap.size + 2) 0 l) := ⟨Nat.zero_le _, hsn, by simp, Mod.refl _ _⟩
  have hmm := run_makeMapS
  obtain ⟨ba, hba⟩ : ∃ x, x = w.heap.size := ⟨_, rfl⟩
  obtain ⟨bb, hbb⟩ : ∃ x, x = w.heap.size + 1 := ⟨_, rfl⟩
  obtain ⟨gs, hgs⟩ : ∃ x, x = w.heap.size + 1 + 1 := ⟨_, rfl⟩
  clear hM1 hz1 hb1 hb2 hsn
  go_enter Tryd.func8, Tryd.ntmps8
  go_upto_region 5 with fail
  rw [← hw1, ← hgs, ← hbb, ← hba]
  have HBA := Hid.mk'' hba
  have HBB := Hid.mk'' hbb
  have HGS := Hid.mk'' hgs
  clear hw1 hba hbb hgs hmm
  go_wp2_with fail
  go_loopw [10] (fun i0 wr => ∃ i : Nat, i0 = .int .i64 i ∧ SeenL w1 wr gs i l) (fun i0 _ => l.length - (intOf i0).toNat)
  case atStart => exact ⟨0, rfl, by rw [HGS.out]; exact HL0.out⟩
  case round =>
    obtain ⟨i, rfl, hL⟩ := hrel
    obtain ⟨wk, hwk⟩ : ∃ x, x = wr := ⟨_, rfl⟩
    subst hwk
    have HL := Hid.mk'' hL
    by_cases hlt : i < l.length
    · have hltI : (i : Int) < (l.length : Int) := by omega
      have hlt0 : (0 : Int) ≤ (i : Int) := by omega
      obtain ⟨x, hx⟩ : ∃ x, l[i]? = some x := ⟨_, List.getElem?_eq_getElem hlt⟩
      have hmk : Mod (oneBlock gs) w wk := (HM1.out.mono (G' := oneBlock gs) (fun _ _ e => e.elim)).trans hL.mod
      obtain ⟨b, off, rfl, hbL, hok, q0, q1, q2, q3⟩ := HV.out.at hx
      have hbg : b ≠ gs := by have := HGS.out; omega
      have c0 := hmk.cell q0 (by simp only [oneBlock]; exact hbg)
      have c1 := hmk.cell q1 (by simp only [oneBlock]; exact hbg)
      have zb := World.block_lt_of_cell? _ _ c0
      have HX := Hid.mk'' hx
      have HMK := Hid.mk'' hmk
      have hpl := pickN_lt x.time 50 (by omega)
      have HPK := Hid.mk'' (fun wq => pickM_any x.time 50 wq (by omega) (by omega))
      clear hL q0 q1 q2 q3 hx hmk
      go_upto_region 8 with fail
      go_cut [11] (fun p wc => ∃ sb : Nat, p = .pointer (some ⟨sb, 0, none⟩) ∧ Blk wc sb [.int .i64 (pickN x.time 50 : Nat), .string x.key, .string ⟨#[]⟩, .bool false] 86 ∧ Mod noBlock wk wc)
      case first =>
        have HC0 : Hid (Mod noBlock wk wk.drew) := (Mod.refl _ wk).drew
        refine wp_with fun fr hfr => ?_
        refine wp_withQ fun Q1 hQ1 => ?_
        have hpan : ∀ (d : Nat) (v : Value) (c : List PanicEntry) (a : Act) (w : World), Q1 (.panic c) (a.put (some d) v) w → Q1 (.panic c) a w := fun d v c a w h => by rw [hQ1] at h ⊢; exact h
        have HQ1 := Hid.mk'' hQ1
        clear hQ1
        have hsz : fr.tmps.size = 176 := by rw [hfr]; rfl
        obtain ⟨_, t0⟩ : ∃ h : 0 < fr.tmps.size, fr.tmps[0] = .slice (some ⟨b, off, none⟩) l.length cap := Array.getElem?_eq_some_iff.1 (by rw [hfr]; rfl)
        obtain ⟨_, t10⟩ : ∃ h : 10 < fr.tmps.size, fr.tmps[10] = .int .i64 (i : Int) := Array.getElem?_eq_some_iff.1 (by rw [hfr]; rfl)
        have HFR := Hid.mk'' hfr
        clear hfr
        refine wp_region_C 15 (fun wq => Mod noBlock wk wq) rfl ?_
        refine wpAnyC_takeD 15 0 32 (.slice (some ⟨b, off, none⟩) l.length cap) rfl rfl (by kernel_rfl) (by kernel_rfl) (by kernel_rfl) (by kernel_rfl) (fun c a w h => hpan _ _ c a w h) HC0.out ⟨by rfl, fun wq hq => by have q0 := hq.cell c0 id; have q1 := hq.cell c1 id; have qz := Nat.lt_of_lt_of_le zb hq.size; go_simp⟩ ?_
        refine wpAnyC_takeD 15 1 33 (.int .i64 (i : Int)) rfl rfl (by kernel_rfl) (by kernel_rfl) (by kernel_rfl) (by kernel_rfl) (fun c a w h => hpan _ _ c a w h) HC0.out ⟨by rfl, fun wq hq => by have q0 := hq.cell c0 id; have q1 := hq.cell c1 id; have qz := Nat.lt_of_lt_of_le zb hq.size; go_simp⟩ ?_
        refine wpAnyC_takeD 15 2 34 (.pointer (some ⟨b, off + i * 4, none⟩)) rfl rfl (by kernel_rfl) (by kernel_rfl) (by kernel_rfl) (by kernel_rfl) (fun c a w h => hpan _ _ c a w h) HC0.out ⟨by rfl, fun wq hq => by have q0 := hq.cell c0 id; have q1 := hq.cell c1 id; have qz := Nat.lt_of_lt_of_le zb hq.size; go_simp⟩ ?_
        refine wpAnyC_takeD 15 3 35 (.pointer (some ⟨b, off + i * 4, none⟩)) rfl rfl (by kernel_rfl) (by kernel_rfl) (by kernel_rfl) (by kernel_rfl) (fun c a w h => hpan _ _ c a w h) HC0.out ⟨by rfl, fun wq hq => by have q0 := hq.cell c0 id; have q1 := hq.cell c1 id; have qz := Nat.lt_of_lt_of_le zb hq.size; go_simp⟩ ?_
        refine wpAnyC_takeD 15 4 36 (.int .i64 x.time) rfl rfl (by kernel_rfl) (by kernel_rfl) (by kernel_rfl) (by kernel_rfl) (fun c a w h => hpan _ _ c a w h) HC0.out ⟨by rfl, fun wq hq => by have q0 := hq.cell c0 id; have q1 := hq.cell c1 id; have qz := Nat.lt_of_lt_of_le zb hq.size; go_simp⟩ ?_
        refine wpAnyC_takeD 15 6 38 (.slice (some ⟨b, off, none⟩) l.length cap) rfl rfl (by kernel_rfl) (by kernel_rfl) (by kernel_rfl) (by kernel_rfl) (fun c a w h => hpan _ _ c a w h) HC0.out ⟨by rfl, fun wq hq => by have q0 := hq.cell c0 id; have q1 := hq.cell c1 id; have qz := Nat.lt_of_lt_of_le zb hq.size; go_simp⟩ ?_
        refine wpAnyC_takeD 15 7 39 (.int .i64 (i : Int)) rfl rfl (by kernel_rfl) (by kernel_rfl) (by kernel_rfl) (by kernel_rfl) (fun c a w h => hpan _ _ c a w h) HC0.out ⟨by rfl, fun wq hq => by have q0 := hq.cell c0 id; have q1 := hq.cell c1 id; have qz := Nat.lt_of_lt_of_le zb hq.size; go_simp⟩ ?_
        refine wpAnyC_takeD 15 8 40 (.pointer (some ⟨b, off + i * 4, none⟩)) rfl rfl (by kernel_rfl) (by kernel_rfl) (by kernel_rfl) (by kernel_rfl) (fun c a w h => hpan _ _ c a w h) HC0.out ⟨by rfl, fun wq hq => by have q0 := hq.cell c0 id; have q1 := hq.cell c1 id; have qz := Nat.lt_of_lt_of_le zb hq.size; go_simp⟩ ?_
        refine wpAnyC_takeD 15 9 41 (.pointer (some ⟨b, off + i * 4 + 1, none⟩)) rfl rfl (by kernel_rfl) (by kernel_rfl) (by kernel_rfl) (by kernel_rfl) (fun c a w h => hpan _ _ c a w h) HC0.out ⟨by rfl, fun wq hq => by have q0 := hq.cell c0 id; have q1 := hq.cell c1 id; have qz := Nat.lt_of_lt_of_le zb hq.size; go_simp⟩ ?_
        refine wpAnyC_takeD 15 10 42 (.pointer (some ⟨b, off + i * 4 + 1, none⟩)) rfl rfl (by kernel_rfl) (by kernel_rfl) (by kernel_rfl) (by kernel_rfl) (fun c a w h => hpan _ _ c a w h) HC0.out ⟨by rfl, fun wq hq => by have q0 := hq.cell c0 id; have q1 := hq.cell c1 id; have qz := Nat.lt_of_lt_of_le zb hq.size; go_simp⟩ ?_
        refine wpAnyC_takeD 15 11 43 (.string x.key) rfl rfl (by kernel_rfl) (by kernel_rfl) (by kernel_rfl) (by kernel_rfl) (fun c a w h => hpan _ _ c a w h) HC0.out ⟨by rfl, fun wq hq => by have q0 := hq.cell c0 id; have q1 := hq.cell c1 id; have qz := Nat.lt_of_lt_of_le zb hq.size; go_simp⟩ ?_
        refine wpAnyC_takeD 15 12 44 (.agg #[.string x.key, .string ⟨#[]⟩, .bool false]) rfl rfl (by kernel_rfl) (by kernel_rfl) (by kernel_rfl) (by kernel_rfl) (fun c a w h => hpan _ _ c a w h) HC0.out ⟨by rfl, fun wq hq => by have q0 := hq.cell c0 id; have q1 := hq.cell c1 id; have qz := Nat.lt_of_lt_of_le zb hq.size; go_simp⟩ ?_
        refine wpAnyC_twoCallD 15 5 37 14 11 rfl rfl rfl rfl (by kernel_rfl) (by rfl) (by rfl) (f := 25) (args := #[.int .i64 x.time, .int .i64 50]) (vj := .pointer (some ⟨wk.heap.size, 0, none⟩)) (wj := (wk.alloc (.cells #[.int .i64 0, .string ⟨#[]⟩, .string ⟨#[]⟩, .bool false] 86)).drew) (by go_simp) (by go_simp) (((Mod.refl noBlock wk).alloc _).drew) ((HPK.out _).mono ?_) ?_
        · rintro e w5 ⟨rfl, rfl⟩
          refine ⟨_, rfl, HC0.out, ?_⟩
          refine wpAnyC_takeD 15 13 45 (.agg #[.int .i64 (pickN x.time 50 : Nat), .string x.key, .string ⟨#[]⟩, .bool false]) rfl rfl (by kernel_rfl) (by kernel_rfl) (by kernel_rfl) (by kernel_rfl) (fun c a w h => hpan _ _ c a w h) HC0.out ⟨by rfl, fun wq hq => by skip; go_simp⟩ ?_
          refine wpAnyC_nextD 15 14 11 rfl rfl (by kernel_rfl) (by rfl) (v := .pointer (some ⟨wk.heap.size, 0, none⟩)) (w' := (wk.alloc (.cells #[.int .i64 0, .string ⟨#[]⟩, .string ⟨#[]⟩, .bool false] 86)).drew) (by go_simp) (((Mod.refl noBlock wk).alloc _).drew) ?_
          refine wpAnyC_last 15 rfl (by kernel_rfl) rfl (w' := (wk.alloc (.cells #[.int .i64 (pickN x.time 50 : Nat), .string x.key, .string ⟨#[]⟩, .bool false] 86)).drew) (by go_simp) ?_
          refine ⟨by kernel_rfl, ?_⟩
          have hQ1 := HQ1.out
          subst hQ1
          have hfr := HFR.out
          subst hfr
          go_wp2_with fail
          go_meet
          case rel => exact ⟨_, rfl, Blk.new wk [.int .i64 (pickN x.time 50 : Nat), .string x.key, .string ⟨#[]⟩, .bool false] 86, ((Mod.refl noBlock wk).alloc _).drew⟩
        · refine wpAnyC_callD 15 5 37 rfl rfl (by kernel_rfl) (by rfl) (f := 25) (args := #[.int .i64 x.time, .int .i64 50]) (by go_simp) ((HPK.out _).mono ?_)
          rintro e w5 ⟨rfl, rfl⟩
          have HC1 : Hid (Mod noBlock wk (wk.alloc (.cells #[.int .i64 0, .string ⟨#[]⟩, .string ⟨#[]⟩, .bool false] 86)).drew) := ((Mod.refl noBlock wk).alloc _).drew
          refine ⟨_, rfl, HC1.out, ?_⟩
          refine wpAnyC_takeD 15 13 45 (.agg #[.int .i64 (pickN x.time 50 : Nat), .string x.key, .string ⟨#[]⟩, .bool false]) rfl rfl (by kernel_rfl) (by kernel_rfl) (by kernel_rfl) (by kernel_rfl) (fun c a w h => hpan _ _ c a w h) HC1.out ⟨by rfl, fun wq hq => by skip; go_simp⟩ ?_
          refine wpAnyC_last 15 rfl (by kernel_rfl) rfl (w' := (wk.alloc (.cells #[.int .i64 (pickN x.time 50 : Nat), .string x.key, .string ⟨#[]⟩, .bool false] 86)).drew) (by go_simp) ?_
          refine ⟨by kernel_rfl, ?_⟩
          have hQ1 := HQ1.out
          subst hQ1
          have hfr := HFR.out
          subst hfr
          go_wp2_with fail
          go_meet
          case rel => exact ⟨_, rfl, Blk.new wk [.int .i64 (pickN x.time 50 : Nat), .string x.key, .string ⟨#[]⟩, .bool false] 86, ((Mod.refl noBlock wk).alloc _).drew⟩
      case rest =>
        obtain ⟨sb, rfl, hB, hm⟩ := hcut
        obtain ⟨wb, hwb⟩ : ∃ x, x = wc := ⟨_, rfl⟩
        subst hwb
        have d0 := hB.cell 0 rfl
        have d1 := hB.cell 1 rfl
        have d2 := hB.cell 2 rfl
        have d3 := hB.cell 3 rfl
        have zs := hB.lt
        have hSn := HL.out.seen.mod hm id
        obtain ⟨bs, hlook, hbs⟩ := hSn.look (pickN x.time 50 : Nat) x.key (by omega) (by omega) hok
        obtain ⟨w3, hrun3, hS3, hm3⟩ := hSn.put (pickN x.time 50 : Nat) x.key (by omega) (by omega) hok (by omega)
        unfold setKey at hlook hrun3
        have HM3 : Hid (Mod (oneBlock gs) wk w3) := (hm.mono (G' := oneBlock gs) (fun _ _ e => e.elim)).trans hm3
        have HMB := Hid.mk'' hm
        have HS3 := Hid.mk'' hS3
        have HBS := Hid.mk'' hbs
        clear hB hm hSn hS3 hm3 hbs c0 c1
        cases bs with
        | true =>
          go_wp2_with fail
          go_ret
          exact ⟨rfl, HM1.out.trans' (HL.out.mod.trans' HMB.out (fun _ _ e => e.elim)) (fun y hy e => by simp only [oneBlock] at e; have := HGS.out; omega)⟩
        | false =>
          go_wp2_with fail
          go_roundw
          case rel =>
            have hnm : tk x ∉ (l.take i).map tk := fun hm => by have := HBS.out.2 hm; cases this
            refine ⟨i + 1, by go_num, by omega, ?_, ?_, HL.out.mod.trans HM3.out⟩
            · rw [take_nextM HX.out, List.map_append]; exact HS3.out
            · rw [take_nextM HX.out, List.map_append, List.nodup_append]
              refine ⟨HL.out.nodup, by simp, fun a ha b hb e => ?_⟩
              simp at hb
              subst hb
              exact hnm (by rw [← e]; exact ha)
          case measure => simp [intOf]; omega
    · have hnd : (l.map tk).Nodup := by have := hL.nodup; rw [List.take_of_length_le (by omega)] at this; exact this
      have hmk : Mod noBlock w wk := HM1.out.trans' hL.mod (fun y hy e => by simp only [oneBlock] at e; have := HGS.out; omega)
      have HF0 : Hid (FillL w wk ba bb 0 l (newQ ba) (newQ bb) (fun _ => []) (fun _ => [])) := by
        have e1 := HBA.out
        have e2 := HBB.out
        have e3 := HGS.out
        subst e1 e2 e3
        refine ⟨Nat.zero_le _, HSA.out.mod hL.mod (fun y hy e => ?_), HSB.out.mod hL.mod (fun y hy e => ?_), by simpa using FillP.nil, by simpa using FillP.nil, ⟨rfl, rfl, Nat.le_refl _⟩, ⟨rfl, rfl, Nat.le_refl _⟩, fun y h1 h2 => ?_, hmk⟩
        · have := newQ_own hy; simp only [oneBlock] at e; omega
        · have := newQ_own hy; simp only [oneBlock] at e; omega
        · have := newQ_own h1; have := newQ_own h2; omega
      have HND := Hid.mk'' hnd
      clear hL hnd hmk HL HL0 HSA HSB HGS HM1 HZ1
      go_wp2_with fail
      go_loopw [12] (fun i0 wr => ∃ (i : Nat) (qa qb : StM) (sa sb : Vers), i0 = .int .i64 i ∧ FillL w wr ba bb i l qa qb sa sb) (fun i0 _ => l.length - (intOf i0).toNat)
      case atStart => exact ⟨0, _, _, _, _, rfl, HF0.out⟩
      case round =>
        clear HF0
        obtain ⟨j, qa, qb, sa, sb, rfl, hF⟩ := hrel
        obtain ⟨wf, hwf⟩ : ∃ x, x = wr := ⟨_, rfl⟩
        subst hwf
        have HF := Hid.mk'' hF
        by_cases hjl : j < l.length
        · obtain ⟨m, hm⟩ : ∃ m : Nat, m = l.length - 1 - j := ⟨_, rfl⟩
          have hml : m < l.length := by omega
          have hmI : (l.length : Int) - 1 - (j : Int) = (m : Int) := by omega
          have hjI : (j : Int) < (l.length : Int) := by omega
          have hj0 : (0 : Int) ≤ (j : Int) := by omega
          have hmI2 : (m : Int) < (l.length : Int) := by omega
          have hm0 : (0 : Int) ≤ (m : Int) := by omega
          obtain ⟨x, hx⟩ : ∃ x, l[j]? = some x := ⟨_, List.getElem?_eq_getElem hjl⟩
          obtain ⟨y, hy⟩ : ∃ y, l[m]? = some y := ⟨_, List.getElem?_eq_getElem hml⟩
          obtain ⟨b, off, hab, hbL, hokx, q0, q1, q2, q3⟩ := HV.out.at hx
          obtain ⟨b', off', hab', hbL', hoky, r0, r1, r2, r3⟩ := HV.out.at hy
          rw [hab] at hab'
          simp only [Option.some.injEq, Addr.mk.injEq, and_true] at hab'
          obtain ⟨rfl, rfl⟩ := hab'
          subst hab
          have c0 := hF.mod.cell q0 id
          have c1 := hF.mod.cell q1 id
          have c2 := hF.mod.cell q2 id
          have c3 := hF.mod.cell q3 id
          have e0 := hF.mod.cell r0 id
          have e1 := hF.mod.cell r1 id
          have e2 := hF.mod.cell r2 id
          have e3 := hF.mod.cell r3 id
          have zb := World.block_lt_of_cell? _ _ c0
          have HX := Hid.mk'' hx
          have HY := Hid.mk'' hy
          have HMM := Hid.mk'' hm
          clear hF q0 q1 q2 q3 r0 r1 r2 r3 hx hy hm
          obtain ⟨xt, xk, xv, xg⟩ := x
          obtain ⟨yt, yk, yv, yg⟩ := y
          dsimp only at c0 c1 c2 c3 e0 e1 e2 e3
          go_upto_region 15 with fail
          go_cut [13, 14] (fun p1 p2 wc => ∃ xb yb : Nat, p1 = .pointer (some ⟨xb, 0, none⟩) ∧ p2 = .pointer (some ⟨yb, 0, none⟩) ∧ Blk wc xb [.int .i64 xt, .string xk, .string xv, .bool xg] 86 ∧ Blk wc yb [.int .i64 yt, .string yk, .string yv, .bool yg] 86 ∧ Mod noBlock wf wc ∧ wf.heap.size ≤ xb ∧ wf.heap.size ≤ yb)
          case first =>
            go_region
            all_goals
              go_wp2_with fail
              go_meet
              case rel =>
                first
                  | exact ⟨_, _, rfl, rfl, (two_new wf [.int .i64 xt, .string xk, .string xv, .bool xg] [.int .i64 yt, .string yk, .string yv, .bool yg] 86).1, (two_new wf [.int .i64 xt, .string xk, .string xv, .bool xg] [.int .i64 yt, .string yk, .string yv, .bool yg] 86).2.1, (two_new wf [.int .i64 xt, .string xk, .string xv, .bool xg] [.int .i64 yt, .string yk, .string yv, .bool yg] 86).2.2, Nat.le_refl _, Nat.le_succ _⟩
                  | exact ⟨_, _, rfl, rfl, (two_new wf [.int .i64 yt, .string yk, .string yv, .bool yg] [.int .i64 xt, .string xk, .string xv, .bool xg] 86).2.1, (two_new wf [.int .i64 yt, .string yk, .string yv, .bool yg] [.int .i64 xt, .string xk, .string xv, .bool xg] 86).1, (two_new wf [.int .i64 yt, .string yk, .string yv, .bool yg] [.int .i64 xt, .string xk, .string xv, .bool xg] 86).2.2, Nat.le_succ _, Nat.le_refl _⟩
          case rest =>
            obtain ⟨xb, yb, rfl, rfl, hBX, hBY, hm, hxb, hyb⟩ := hcut
            obtain ⟨wx, hwx⟩ : ∃ x, x = wc := ⟨_, rfl⟩
            subst hwx
            have hFM := HF.out.mod.trans hm
            have sa1 := HF.out.sta.mod hm (fun _ _ => id)
            have sb1 := HF.out.stb.mod hm (fun _ _ => id)
            have hxa : ¬ qa.own xb := fun e => by have := (HF.out.sta.lt e).2; omega
            have hya : ¬ qa.own yb := fun e => by have := (HF.out.sta.lt e).2; omega
            have hyb2 : ¬ qb.own yb := fun e => by have := (HF.out.stb.lt e).2; omega
            have hna := HF.out.fa.new (x := ⟨xt, xk, xv, xg⟩) (nodup_take HND.out HX.out)
            have hnb : tk ⟨yt, yk, yv, yg⟩ ∉ (l.drop (l.length - j)).map tk := by have := nodup_drop HND.out HY.out; rw [show m + 1 = l.length - j by have := HMM.out; omega] at this; exact this
            have hnb2 := HF.out.fb.new (x := ⟨yt, yk, yv, yg⟩) hnb
            have hla := HF.out.fa.len xk
            have hlb := HF.out.fb.len yk
            rw [List.length_take] at hla
            rw [List.length_drop] at hlb
            have hea := HF.out.ea
            have heb := HF.out.eb
            have HPX := Hid.mk'' (fun wq => pickM_any xt 50 wq (by omega) (by omega))
            have HPY := Hid.mk'' (fun wq => pickM_any yt 50 wq (by omega) (by omega))
            have HPA := Hid.mk'' (fun wq (hq : Mod noBlock wx wq) => putSet_any qa w.heap.size sa ⟨xt, xk, xv, xg⟩ wq (sa1.mod hq (fun _ _ => id)) (Nat.le_trans hFM.size hq.size) hea.2.1 (by omega) hna (by show (sa xk).length ≤ 800; omega))
            rw [hea.1] at HPA
            have HSB1 := Hid.mk'' sb1
            have HBX := Hid.mk'' hBX
            have HBY := Hid.mk'' hBY
            have HFM := Hid.mk'' hFM
            have HMX := Hid.mk'' hm
            clear hm sa1 sb1 hBX hBY hFM hna c0 c1 c2 c3 e0 e1 e2 e3
            go_upto_region 16 with fail
            refine wp_with fun fr hfr => ?_
            refine wp_withQ fun Q1 hQ1 => ?_
            have hpan : ∀ (d : Nat) (v : Value) (c : List PanicEntry) (a : Act) (w : World), Q1 (.panic c) (a.put (some d) v) w → Q1 (.panic c) a w := fun d v c a w h => by rw [hQ1] at h ⊢; exact h
            have HQ1 := Hid.mk'' hQ1
            clear hQ1
            have hsz : fr.tmps.size = 176 := by rw [hfr]; rfl
            obtain ⟨_, t1⟩ : ∃ h : 13 < fr.tmps.size, fr.tmps[13] = .pointer (some ⟨xb, 0, none⟩) := Array.getElem?_eq_some_iff.1 (by rw [hfr]; rfl)
            obtain ⟨_, t2⟩ : ∃ h : 7 < fr.tmps.size, fr.tmps[7] = .pointer (some ⟨ba, 0, none⟩) := Array.getElem?_eq_some_iff.1 (by rw [hfr]; rfl)
            have HFR := Hid.mk'' hfr
            clear hfr
            have HC0 : Hid (Blk wx.drew xb [.int .i64 xt, .string xk, .string xv, .bool xg] 86) := HBX.out
            refine wp_region_C 99 (fun wq => Blk wq xb [.int .i64 xt, .string xk, .string xv, .bool xg] 86) rfl ?_
            refine wpAnyC_takeD 99 0 69 (.pointer (some ⟨xb, 0, none⟩)) rfl rfl (by kernel_rfl) (by kernel_rfl) (by kernel_rfl) (by kernel_rfl) (fun c a w h => hpan _ _ c a w h) HC0.out ⟨by rfl, fun wq hq => by have q0 := Blk.cell hq 0 rfl; have q1 := Blk.cell hq 1 rfl; have q2 := Blk.cell hq 2 rfl; have q3 := Blk.cell hq 3 rfl; have qz := Blk.lt hq; go_simp⟩ ?_
            refine wpAnyC_takeD 99 1 70 (.int .i64 xt) rfl rfl (by kernel_rfl) (by kernel_rfl) (by kernel_rfl) (by kernel_rfl) (fun c a w h => hpan _ _ c a w h) HC0.out ⟨by rfl, fun wq hq => by have q0 := Blk.cell hq 0 rfl; have q1 := Blk.cell hq 1 rfl; have q2 := Blk.cell hq 2 rfl; have q3 := Blk.cell hq 3 rfl; have qz := Blk.lt hq; go_simp⟩ ?_
            refine wpAnyC_takeD 99 3 72 (.pointer (some ⟨xb, 1, none⟩)) rfl rfl (by kernel_rfl) (by kernel_rfl) (by kernel_rfl) (by kernel_rfl) (fun c a w h => hpan _ _ c a w h) HC0.out ⟨by rfl, fun wq hq => by have q0 := Blk.cell hq 0 rfl; have q1 := Blk.cell hq 1 rfl; have q2 := Blk.cell hq 2 rfl; have q3 := Blk.cell hq 3 rfl; have qz := Blk.lt hq; go_simp⟩ ?_
            refine wpAnyC_takeD 99 4 73 (.agg #[.string xk, .string xv, .bool xg]) rfl rfl (by kernel_rfl) (by kernel_rfl) (by kernel_rfl) (by kernel_rfl) (fun c a w h => hpan _ _ c a w h) HC0.out ⟨by rfl, fun wq hq => by have q0 := Blk.cell hq 0 rfl; have q1 := Blk.cell hq 1 rfl; have q2 := Blk.cell hq 2 rfl; have q3 := Blk.cell hq 3 rfl; have qz := Blk.lt hq; go_simp⟩ ?_
            refine wpAnyC_callD 99 2 71 rfl rfl (by kernel_rfl) (by rfl) (f := 25) (args := #[.int .i64 xt, .int .i64 50]) (by go_simp) ((HPX.out _).mono ?_)
            rintro e w5 ⟨rfl, rfl⟩
            refine ⟨_, rfl, HC0.out, ?_⟩
            refine wpAnyC_callD 99 5 74 rfl rfl (by kernel_rfl) (by rfl) (f := 38) (args := #[.pointer (some ⟨ba, 0, none⟩), .int .i64 (pickN xt 50 : Nat), .agg #[.string xk, .string xv, .bool xg]]) (by go_simp) ((HPA.out _ ((Mod.refl noBlock wx).drew)).mono ?_)
            rintro e w6 ⟨⟨ve, rfl⟩, qa2, sa2, ka1, ka2, ka3, hma, hoa⟩
            have hma' : Mod qa.own wx w6 := ((Mod.refl qa.own wx).drew).trans hma
            have hoa' : ∀ z, qa2.own z → qa.own z ∨ wx.heap.size ≤ z := hoa
            have hzx := HMX.out.size
            refine ⟨_, rfl, HBX.out.mod hma' hxa, ?_⟩
            refine ⟨by kernel_rfl, ?_⟩
            have hQ1 := HQ1.out
            subst hQ1
            have hfr := HFR.out
            subst hfr
            have sb2 := HSB1.out.mod hma' (fun z hz e => HF.out.apart z e hz)
            have HBY2 := Hid.mk'' (HBY.out.mod hma' hya)
            have HFM2 : Hid (Mod noBlock w w6) := HFM.out.trans' hma' (fun z hz e => by have := (HF.out.sta.lt e).1; omega)
            have HPB := Hid.mk'' (fun wq (hq : Mod noBlock w6 wq) => putSet_any qb w.heap.size sb ⟨yt, yk, yv, yg⟩ wq (sb2.mod hq (fun _ _ => id)) (Nat.le_trans HFM2.out.size hq.size) heb.2.1 (by omega) hnb2 (by show (sb yk).length ≤ 800; omega))
            rw [heb.1] at HPB
            have HSA2 := Hid.mk'' sa2
            have HMA := Hid.mk'' hma'
            have HOA := Hid.mk'' hoa'
            have HKA := Hid.mk'' (And.intro ka1 (And.intro ka2 ka3))
            clear sb2 sa2 hma hma' hoa hoa' ka1 ka2 ka3 hpan hsz t1 t2 HQ1 HFR HC0 hnb2 hea
            go_upto_region 17 with fail
            refine wp_with fun fr hfr => ?_
            refine wp_withQ fun Q1 hQ1 => ?_
            have hpan : ∀ (d : Nat) (v : Value) (c : List PanicEntry) (a : Act) (w : World), Q1 (.panic c) (a.put (some d) v) w → Q1 (.panic c) a w := fun d v c a w h => by rw [hQ1] at h ⊢; exact h
            have HQ1 := Hid.mk'' hQ1
            clear hQ1
            have hsz : fr.tmps.size = 176 := by rw [hfr]; rfl
            obtain ⟨_, t1⟩ : ∃ h : 14 < fr.tmps.size, fr.tmps[14] = .pointer (some ⟨yb, 0, none⟩) := Array.getElem?_eq_some_iff.1 (by rw [hfr]; rfl)
            obtain ⟨_, t2⟩ : ∃ h : 8 < fr.tmps.size, fr.tmps[8] = .pointer (some ⟨bb, 0, none⟩) := Array.getElem?_eq_some_iff.1 (by rw [hfr]; rfl)
            have HFR := Hid.mk'' hfr
            clear hfr
            have HC0 : Hid (Blk w6.drew yb [.int .i64 yt, .string yk, .string yv, .bool yg] 86) := HBY2.out
            refine wp_region_C 99 (fun wq => Blk wq yb [.int .i64 yt, .string yk, .string yv, .bool yg] 86) rfl ?_
            refine wpAnyC_takeD 99 0 75 (.pointer (some ⟨yb, 0, none⟩)) rfl rfl (by kernel_rfl) (by kernel_rfl) (by kernel_rfl) (by kernel_rfl) (fun c a w h => hpan _ _ c a w h) HC0.out ⟨by rfl, fun wq hq => by have q0 := Blk.cell hq 0 rfl; have q1 := Blk.cell hq 1 rfl; have q2 := Blk.cell hq 2 rfl; have q3 := Blk.cell hq 3 rfl; have qz := Blk.lt hq; go_simp⟩ ?_
            refine wpAnyC_takeD 99 1 76 (.int .i64 yt) rfl rfl (by kernel_rfl) (by kernel_rfl) (by kernel_rfl) (by kernel_rfl) (fun c a w h => hpan _ _ c a w h) HC0.out ⟨by rfl, fun wq hq => by have q0 := Blk.cell hq 0 rfl; have q1 := Blk.cell hq 1 rfl; have q2 := Blk.cell hq 2 rfl; have q3 := Blk.cell hq 3 rfl; have qz := Blk.lt hq; go_simp⟩ ?_
            refine wpAnyC_takeD 99 3 78 (.pointer (some ⟨yb, 1, none⟩)) rfl rfl (by kernel_rfl) (by kernel_rfl) (by kernel_rfl) (by kernel_rfl) (fun c a w h => hpan _ _ c a w h) HC0.out ⟨by rfl, fun wq hq => by have q0 := Blk.cell hq 0 rfl; have q1 := Blk.cell hq 1 rfl; have q2 := Blk.cell hq 2 rfl; have q3 := Blk.cell hq 3 rfl; have qz := Blk.lt hq; go_simp⟩ ?_
            refine wpAnyC_takeD 99 4 79 (.agg #[.string yk, .string yv, .bool yg]) rfl rfl (by kernel_rfl) (by kernel_rfl) (by kernel_rfl) (by kernel_rfl) (fun c a w h => hpan _ _ c a w h) HC0.out ⟨by rfl, fun wq hq => by have q0 := Blk.cell hq 0 rfl; have q1 := Blk.cell hq 1 rfl; have q2 := Blk.cell hq 2 rfl; have q3 := Blk.cell hq 3 rfl; have qz := Blk.lt hq; go_simp⟩ ?_
            refine wpAnyC_callD 99 2 77 rfl rfl (by kernel_rfl) (by rfl) (f := 25) (args := #[.int .i64 yt, .int .i64 50]) (by go_simp) ((HPY.out _).mono ?_)
            rintro e w5 ⟨rfl, rfl⟩
            refine ⟨_, rfl, HC0.out, ?_⟩
            refine wpAnyC_callD 99 5 80 rfl rfl (by kernel_rfl) (by rfl) (f := 38) (args := #[.pointer (some ⟨bb, 0, none⟩), .int .i64 (pickN yt 50 : Nat), .agg #[.string yk, .string yv, .bool yg]]) (by go_simp) ((HPB.out _ ((Mod.refl noBlock w6).drew)).mono ?_)
            rintro e w7 ⟨⟨vf, rfl⟩, qb2, sb2, kb1, kb2, kb3, hmb, hob⟩
            have hmb' : Mod qb.own w6 w7 := ((Mod.refl qb.own w6).drew).trans hmb
            have hob' : ∀ z, qb2.own z → qb.own z ∨ w6.heap.size ≤ z := hob
            refine ⟨_, rfl, HBY2.out.mod hmb' hyb2, ?_⟩
            refine ⟨by kernel_rfl, ?_⟩
            have hQ1 := HQ1.out
            subst hQ1
            have hfr := HFR.out
            subst hfr
            have hzx6 := HMA.out.size
            have HFIN : Hid (FillL w w7 ba bb (j + 1) l qa2 qb2 (addS sa ⟨xt, xk, xv, xg⟩) (addS sb ⟨yt, yk, yv, yg⟩)) := by
              have hab6 : ∀ z, qa2.own z → ¬ qb.own z := fun z h1 h2 => by
                rcases HOA.out z h1 with h | h
                · exact HF.out.apart z h h2
                · have := (HF.out.stb.lt h2).2; omega
              have hfl : l.drop (l.length - (j + 1)) = ⟨yt, yk, yv, yg⟩ :: l.drop (l.length - j) := by
                have h1 := drop_nextM HY.out
                have h2 := HMM.out
                rw [show l.length - (j + 1) = m by omega, h1, show m + 1 = l.length - j by omega]
              refine ⟨by omega, HSA2.out.mod hmb' (fun z hz e => hab6 z hz e), sb2, ?_, ?_, ⟨?_, ?_, ?_⟩, ⟨?_, ?_, ?_⟩, fun z h1 h2 => ?_, HFM2.out.trans' hmb' (fun z hz e => by have := (HF.out.stb.lt e).1; omega)⟩
              · exact HF.out.fa.step (nodup_take HND.out HX.out) (fun z => by rw [take_nextM HX.out, List.mem_append, List.mem_singleton]; exact Or.comm) (by rw [take_nextM HX.out]; simp)
              · exact HF.out.fb.step hnb (fun z => by rw [hfl, List.mem_cons]) (by rw [hfl]; simp)
              · exact HKA.out.1
              · rw [HKA.out.2.1]; exact HF.out.ea.2.1
              · have h1 := HKA.out.2.2; have h2 := HF.out.ea.2.2; omega
              · exact kb1
              · rw [kb2]; exact HF.out.eb.2.1
              · have h2 := HF.out.eb.2.2; omega
              · rcases hob' z h2 with h | h
                · exact hab6 z h1 h
                · have := (HSA2.out.lt h1).2; omega
            clear hmb hmb' hob hob' sb2 kb1 kb2 kb3 hpan hsz t1 t2
            go_wp2_with fail
            go_roundw
            case rel => exact ⟨j + 1, _, _, _, _, by go_num, HFIN.out⟩
            case measure => simp [intOf]; omega
        · obtain rfl : j = l.length := by have := hF.le; omega
          have hfa := hF.fa
          rw [List.take_of_length_le (Nat.le_refl _)] at hfa
          have hfb := hF.fb
          rw [Nat.sub_self, List.drop_zero] at hfb
          obtain rfl := hfa.same hfb
          obtain ⟨K, k1, k2, k3⟩ := keys_of (l.map (·.key))
          have hokl : ∀ x ∈ l, okK x.key := fun x hx => by
            obtain ⟨n, hn, e⟩ := List.getElem_of_mem hx
            obtain ⟨_, _, _, _, h, _⟩ := HV.out.at (i := n) (d := x) (by rw [List.getElem?_eq_getElem hn, e])
            exact h
          have hK := hfa.keys hokl k1 k2
          have hKl : K.length ≤ 60 := by rw [List.length_map] at k3; omega
          have hsum : sumAll K sa ≤ 3600 := by
            have h1 := sumAll_le sa 60 K (fun k _ => by have := hfa.len k; omega)
            have h2 : K.length * 60 ≤ 60 * 60 := Nat.mul_le_mul_right _ hKl
            omega
          obtain ⟨lo, hlo⟩ : ∃ x, x = pickN lo0 60 := ⟨_, rfl⟩
          obtain ⟨ak, hak⟩ : ∃ x, x = pickN ask0 20 := ⟨_, rfl⟩
          have hlol : lo < 60 := by rw [hlo]; exact pickN_lt lo0 60 (by omega)
          have hakl : ak < 20 := by rw [hak]; exact pickN_lt ask0 20 (by omega)
          have HP1 := Hid.mk'' (fun wq => pickM_any lo0 60 wq (by omega) (by omega))
          have HP2 := Hid.mk'' (fun wq => pickM_any ask0 20 wq (by omega) (by omega))
          rw [← hlo] at HP1
          rw [← hak] at HP2
          have hea := hF.ea
          have heb := hF.eb
          have HAB := Hid.mk'' (at_yes qb w.heap.size sa K ((lo : Int) + (ak : Int)) wf hF.stb hK (by omega) (by rw [heb.2.1]; omega))
          rw [heb.1] at HAB
          have HK := Hid.mk'' hK
          have HFA := Hid.mk'' hfa
          have HRI : Hid (∀ k, Rising (sa k)) := hfa.rise
          clear hF hfa hfb hK k1 k2 k3 hokl hlo hak
          go_wp2_with fail
          refine (HP1.out _).mono ?_
          rintro e w1' ⟨rfl, rfl⟩
          go_wp2_with fail
          refine (HP2.out _).mono ?_
          rintro e w2' ⟨rfl, rfl⟩
          go_wp2_with fail
          refine HAB.out.mono ?_
          rintro e w2 ⟨vb, ps, rfl, hpb, hwb, hAb, hfrb, hm2⟩
          have HAA := Hid.mk'' (at_yes qa w.heap.size sa K ((lo : Int) + (ak : Int)) w2 (HF.out.sta.mod hm2 (fun _ _ => id)) HK.out (by omega) (by rw [hea.2.1]; omega))
          rw [hea.1] at HAA
          have HPB := Hid.mk'' hpb
          have HWB := Hid.mk'' hwb
          have HAL := Hid.mk'' hAb
          have HFRB := Hid.mk'' hfrb
          have HM2 := Hid.mk'' hm2
          obtain ⟨pb, pbc, rfl, hpc1, hpc2⟩ := SlR.slice hpb
          unfold maxLen at hpc2
          clear hpb hwb hAb hfrb hm2 HAB
          go_wp2_with fail
          refine HAA.out.mono ?_
          rintro e w3 ⟨va, ps', rfl, hpa, hwa, hAa, hfra, hm3⟩
          obtain rfl : ps' = ps := hAa.one HAL.out hwa HWB.out
          have HPA := Hid.mk'' hpa
          have HFRA := Hid.mk'' hfra
          have HM3 := Hid.mk'' (HM2.out.trans hm3)
          have HM23 := Hid.mk'' hm3
          obtain ⟨pa, pac, rfl, hpc3, hpc4⟩ := SlR.slice hpa
          unfold maxLen at hpc4
          have HTI := Hid.mk'' (timed_any w3)
          clear hpa hwa hAa hfra hm3 HAA
          go_wp2_with fail
          refine HTI.out.mono ?_
          rintro e w4 ⟨rfl, hm4⟩
          have hm4f := HM3.out.trans hm4
          have HTR := Hid.mk'' (trim_yes qa w.heap.size sa (lo : Int) w4 (HF.out.sta.mod hm4f (fun _ _ => id)) (Nat.le_trans HF.out.mod.size hm4f.size) (by rw [hea.2.1]; omega) (by omega) (by omega))
          rw [hea.1] at HTR
          have HM4 := Hid.mk'' hm4
          have HM4F := Hid.mk'' hm4f
          clear hm4 hm4f HTI
          go_wp2_with fail
          refine HTR.out.mono ?_
          rintro e w5 ⟨rfl, q5, hS5, kb5, kl5, kn5, hm5, ho5⟩
          obtain ⟨n1, hn1⟩ : ∃ x, x = sumAll K (trimA sa lo) := ⟨_, rfl⟩
          obtain ⟨n2, hn2⟩ : ∃ x, x = sumAll K sa := ⟨_, rfl⟩
          have hn12 : n1 ≤ n2 := by rw [hn1, hn2]; exact sumAll_trim sa lo K
          have HMA := Hid.mk'' (many_any q5 w.heap.size (trimA sa lo) K w5 hS5 (HK.out.trim lo) (by have := sumAll_trim sa lo K; omega))
          rw [kb5, hea.1, ← hn1] at HMA
          have HS5 := Hid.mk'' hS5
          have HM5 := Hid.mk'' hm5
          have HK5 := Hid.mk'' (And.intro kb5 kl5)
          have hnl : (lo : Int) ≤ (lo : Int) := Int.le_refl _
          clear hS5 hm5 ho5 HTR kb5 kl5 kn5
          have hlen : (((ps'.length : Int) == (ps'.length : Int))) = true := by simp
          go_wp2_with fail
          refine HMA.out.mono ?_
          rintro e w6 ⟨rfl, hm6⟩
          have hb6 : StP w6 w.heap.size qb sa := ((HF.out.stb.mod HM4F.out (fun _ _ => id)).mod HM5.out (fun z hz e => HF.out.apart z e hz)).mod hm6 (fun _ _ => id)
          have HMB := Hid.mk'' (many_any qb w.heap.size sa K w6 hb6 HK.out (by omega))
          rw [heb.1, ← hn2] at HMB
          have HM6 := Hid.mk'' hm6
          clear hm6 hb6 HMA
          go_wp2_with fail
          refine HMB.out.mono ?_
          rintro e w7 ⟨rfl, hm7⟩
          have hmany : decide ((n1 : Int) > (n2 : Int)) = false := decide_eq_false (by omega)
          have hmany2 : ¬ ((n2 : Int) < (n1 : Int)) := by omega
          have hmany3 : ¬ (n2 < n1) := by omega
          have HM7 := Hid.mk'' (HM6.out.trans hm7)
          have HAN := Hid.mk'' (at_yes q5 w.heap.size (trimA sa lo) K ((lo : Int) + (ak : Int)) w7 (HS5.out.mod (HM6.out.trans hm7) (fun _ _ => id)) (HK.out.trim lo) (by omega) (by rw [HK5.out.2]; omega))
          rw [HK5.out.1, hea.1] at HAN
          clear hm7 HMB
          go_wp2_with fail
          refine HAN.out.mono ?_
          rintro e w8 ⟨vn, pn, rfl, hpn, hwn, hAn, hfrn, hm8⟩
          obtain rfl : pn = ps' := (hAn.trim HRI.out (by omega)).one HAL.out hwn HWB.out
          have hm78 := HM7.out.trans hm8
          have HPB8 : Hid (PairsV w8 w2.heap.size (.slice pb pn.length pbc) pn) := by
            have h1 := (HPB.out.mod' HM23.out (fun _ _ => id)).mod' HM4.out (fun _ _ => id)
            have h2 := h1.mod' HM5.out (fun b hb e => by have h3 := HFRB.out b hb; have h4 := (HF.out.sta.lt e).2; omega)
            exact h2.mod' hm78 (fun _ _ => id)
          have HPA8 : Hid (PairsV w8 w3.heap.size (.slice pa pn.length pac) pn) := by
            have h1 := HPA.out.mod' HM4.out (fun _ _ => id)
            have h2 := h1.mod' HM5.out (fun b hb e => by have h3 := HFRA.out b hb; have h4 := (HF.out.sta.lt e).2; have h5 := HM2.out.size; omega)
            exact h2.mod' hm78 (fun _ _ => id)
          have HPN := Hid.mk'' hpn
          have HMW : Hid (Mod noBlock w w8) := ((HF.out.mod.trans HM4F.out).trans' HM5.out (fun z hz e => by have := (HF.out.sta.lt e).1; omega)).trans hm78
          have HS8 := Hid.mk'' (HS5.out.mod hm78 (fun _ _ => id))
          obtain ⟨pnn, pnc, rfl, hpc5, hpc6⟩ := SlR.slice hpn
          unfold maxLen at hpc6
          clear hpn hwn hAn hfrn hm8 hm78 HAN HPB HPA HM23 HM4 HM5 HM6 HM7
          go_wp2_with fail
          go_loopw [21] (fun i0 wr => ∃ k : Nat, k ≤ pn.length ∧ i0 = .int .i64 k ∧ Mod noBlock w8 wr) (fun i0 _ => pn.length - (intOf i0).toNat)
          case atStart => exact ⟨0, Nat.zero_le _, rfl, Mod.refl _ _⟩
          case round =>
            obtain ⟨k, hk, rfl, hM⟩ := hrel
            by_cases hkl : k < pn.length
            · have hkI : (k : Int) < (pn.length : Int) := by omega
              have hk0 : (0 : Int) ≤ (k : Int) := by omega
              obtain ⟨p, hp⟩ : ∃ p, pn[k]? = some p := ⟨_, List.getElem?_eq_getElem hkl⟩
              obtain ⟨b1, o1, rfl, _, f0, f1, f2⟩ := HPB8.out.at hp
              obtain ⟨b2, o2, rfl, _, g0, g1, g2⟩ := HPA8.out.at hp
              obtain ⟨b3, o3, rfl, _, h0, h1, h2⟩ := HPN.out.at hp
              have f0' := hM.cell f0 id
              have f1' := hM.cell f1 id
              have f2' := hM.cell f2 id
              have g0' := hM.cell g0 id
              have g1' := hM.cell g1 id
              have g2' := hM.cell g2 id
              have h0' := hM.cell h0 id
              have h1' := hM.cell h1 id
              have h2' := hM.cell h2 id
              have HM := Hid.mk'' hM
              obtain ⟨pk, pv⟩ := p
              dsimp only at f0' f1' g0' g1' h0' h1'
              clear f0 f1 f2 g0 g1 g2 h0 h1 h2 hp hM
              go_upto_region 30 with fail
              go_region
              all_goals
                go_wp2_with fail
                go_roundw
                case rel => exact ⟨k + 1, by omega, by go_num, HM.out.drew⟩
                case measure => simp [intOf]; omega
            · have hm9 := HMW.out.trans hM
              have HM9 := Hid.mk'' hm9
              have HG := Hid.mk'' (get_no q5 w.heap.size (trimA sa lo) bsA ((lo : Int) - 1) wr (HS8.out.mod hM (fun _ _ => id)) (by rw [HK5.out.2]; omega))
              rw [HK5.out.1, hea.1] at HG
              have HTE := Hid.mk'' (tell_errno 8 wr (HE.out.mod hm9))
              clear hM hm9
              by_cases hl0 : lo = 0
              · have hd0 : decide ((lo : Int) > 0) = false := decide_eq_false (by omega)
                go_wp2_with fail
                go_ret
                exact ⟨rfl, HM9.out⟩
              · have hd0 : decide ((lo : Int) > 0) = true := decide_eq_true (by omega)
                go_wp2_with fail
                refine HG.out.mono ?_
                rintro e w10 ⟨rfl, rfl⟩
                go_wp2_with fail
                refine HTE.out.mono ?_
                rintro e w11 ⟨rfl, hm11⟩
                have HM11 := Hid.mk'' (HM9.out.trans hm11)
                have h88 : ((8 : Int) == 8) = true := rfl
                clear hm11
                go_wp2_with fail
                go_ret
                exact ⟨rfl, HM11.out⟩
end Go.Proofs.YtefhgakcffhgaaaDoor
