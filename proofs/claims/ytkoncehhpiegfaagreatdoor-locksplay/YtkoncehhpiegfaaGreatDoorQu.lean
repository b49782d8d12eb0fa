/- Package locks: named, of, Keys. -/
import Derived.Test.YtkoncehhpiegfaaGreatDoorQt
namespace Go.Proofs.YtkoncehhpiegfaaGreatDoor
open Go.RowKit Go.Lib Go.Maps
set_option linter.unusedVariables false

/-- Keys of some kind, as they come. -/
structure CollQ (s : Tab) (p : KeyS → Bool) (D : DataW Unit) (left : Lit → Bool) (ks : List ByteArray) : Prop where
  nodup : ks.Nodup
  mem : ∀ k, k ∈ ks ↔ okQ k ∧ has D (keyQ k) = true ∧ left (keyQ k) = false ∧ p (s k) = true
theorem CollQ.start (s : Tab) (p : KeyS → Bool) (D : DataW Unit) : CollQ s p D (has D) [] :=
  ⟨by simp, fun k => ⟨fun h => by simp at h, fun ⟨_, h1, h2, _⟩ => by rw [h1] at h2; cases h2⟩⟩
theorem CollQ.skip {s : Tab} {p : KeyS → Bool} {D : DataW Unit} {left : Lit → Bool} {ks : List ByteArray} (h : CollQ s p D left ks) {x : ByteArray} (hp : p (s x) = false) : CollQ s p D (fun z => left z && !z.sameKey (keyQ x)) ks :=
  ⟨h.nodup, fun k => by
    rw [h.mem]
    simp only [sameQ_key]
    by_cases e : k = x
    · subst e; simp [hp]
    · simp [e]⟩
theorem CollQ.take {s : Tab} {p : KeyS → Bool} {D : DataW Unit} {left : Lit → Bool} {ks : List ByteArray} (h : CollQ s p D left ks) {x : ByteArray} (hok : okQ x) (hl : left (keyQ x) = true) (hh : has D (keyQ x) = true) (hp : p (s x) = true) : CollQ s p D (fun z => left z && !z.sameKey (keyQ x)) (ks ++ [x]) := by
  have hno : x ∉ ks := fun hx => by have := ((h.mem x).1 hx).2.2.1; rw [hl] at this; cases this
  refine ⟨?_, fun k => ?_⟩
  · rw [List.nodup_append]
    refine ⟨h.nodup, by simp, fun a ha b hb e => ?_⟩
    simp at hb
    subst hb
    subst e
    exact hno ha
  · rw [List.mem_append, List.mem_singleton, h.mem]
    simp only [sameQ_key]
    by_cases e : k = x
    · subst e; simp [hok, hh, hp]
    · simp [e]
/-- The keys of some kind. -/
def NamesQ (s : Tab) (p : KeyS → Bool) (ks : List ByteArray) : Prop := ks.Pairwise ltQ ∧ ∀ k, k ∈ ks ↔ okQ k ∧ ¬ (s k).bare ∧ p (s k) = true
/-- A closure that asks a key. -/
structure AskK (f : Nat) (caps : Array Value) (p : KeyS → Bool) (B N : Nat) (q : TbM) (s : Tab) (w : World) : Prop where
  enter : ∀ (args : Array Value) (w : World), (callFunc f args).run Tryz.prog w = .ok (.enter f args) w
  ask : ∀ (k : ByteArray) (wr : World), okQ k → TbP wr B N q s → Mod noBlock w wr →
    Calls Tryz.prog f (#[.agg #[q.hd k true, q.hd k false]] ++ caps) wr fun e w' => e = .returned (.bool (p (s k))) ∧ Mod noBlock wr w'
theorem Tryz.infoSQ : (Tryz.prog.info? 9).map (fun i => (i.zero, i.size, i.bytes)) = some (some (.string ByteArray.empty), 1, 16) := by kernel_rfl
/-- What named comes to. -/
def NamedP (w : World) (s : Tab) (p : KeyS → Bool) (n : Nat) (e : Ending) (w' : World) : Prop := ∃ v ks, e = .returned v ∧ KeysQ w' w'.heap.size v ks ∧ NamesQ s p ks ∧ (∀ b, v.ownBlock = some b → w.heap.size ≤ b) ∧ ks.length ≤ n ∧ Mod noBlock w w'
set_option maxRecDepth 100000 in
set_option maxHeartbeats 4000000 in
theorem named_any (f : Nat) (caps : Array Value) (p : KeyS → Bool) (B N : Nat) (q : TbM) (s : Tab) (w : World) (h : TbP w B N q s) (hA : AskK f caps p B N q s w) (hqn : q.n ≤ 1000000) :
    Calls Tryz.prog 30 #[.pointer (some ⟨q.b, q.pre.length, none⟩), .func (.func f) #[] caps] w (NamedP w s p q.n) := by
  obtain ⟨i0, yi, yz0, yz1, yz2⟩ := info_parts Tryz.infoSQ
  have c0 := h.cell
  have z0 := h.blk.lt
  have HH := Hid.mkq h
  have HA := Hid.mkq hA
  have hent := hA.enter
  cases hm : q.m with
  | none =>
    have hmp := h.map
    rw [hm] at hmp
    have HNN : Hid (NamesQ s p []) := ⟨List.Pairwise.nil, fun k => ⟨fun h => by simp at h, fun ⟨h1, h2, _⟩ => absurd (hmp k h1).2 h2⟩⟩
    rw [hm] at c0
    have hrg := run_range_nilMap (P := Tryz.prog) w 23 9 59 Tryz.underlying23
    have hnx : ∀ ty, (Instr.next (.pointer (some ⟨w.heap.size, 0, none⟩)) false ty).run Tryz.prog (w.alloc (.mapIter none 0 #[] 0)) = _ := fun ty => run_next_nilMap w ty 0 0 #[]
    have HM : Hid (Mod noBlock w (w.alloc (.mapIter none 0 #[] 0))) := (Mod.refl _ w).alloc _
    have HS := Hid.mkq (sortQ_any 0 (.slice none 0 0) [] (w.alloc (.mapIter none 0 #[] 0)) (World.ownsRow_nil _ _ _ _) (by simp) (by simp))
    clear h hA hmp hent
    go_enter Tryz.func30, Tryz.ntmps30
    go_wp2
    refine wp_loop_rounds 1 ?_
    rw [rounds_succ]
    go_wp2_with (first | (go_at_call 46; refine HS.out.mono ?_; rintro e w5 ⟨rfl, ps', hps, hpm, hpw, hmm⟩) | go_in)
    go_ret
    have hnil : ps' = [] := List.Perm.eq_nil hpm
    subst hnil
    exact ⟨_, [], rfl, hps, HNN.out, fun b hb => by simp [Value.ownBlock] at hb, Nat.zero_le _, HM.out.trans' hmm (fun _ _ e => by cases e)⟩
  | some g =>
    obtain ⟨_, D, hown, hD⟩ := h.map.get hm
    rw [hm] at c0
    have HD := Hid.mkq hD
    have HOWN := Hid.mkq hown
    have hgl := hown.lt
    have hsz := hown.size_le
    clear h hA hD hown hm
    go_enter Tryz.func30, Tryz.ntmps30
    go_wp2_with (first
      | (at_range; refine wpList_range_own _ rfl _ 23 rfl 9 59 kStrQ Tryz.underlying23 _ g q.n D rfl HOWN.out ?_; intro w0 hrg0 hg0 hs0)
      | go_in)
    go_frame
    have HM0 : Hid (Mod noBlock w w0) := (Mod.refl _ w).grown hg0 (fun x hx _ => by cases hx)
    have HRG0 := Hid.mkq hrg0
    have HS0 := Hid.mkq hs0
    clear hrg0 hg0 hs0
    go_loopw [5] (fun v0 wr => ∃ (left : Lit → Bool) (cnt : Nat) (ks : List ByteArray), wr.ranges Tryz.prog 9 elemQ g w.heap.size q.n D left cnt ∧ RowS wr (w.heap.size + 1) v0 ks ∧ CollQ s p D left ks ∧ Mod noBlock w wr ∧ w.heap.size + 1 ≤ wr.heap.size ∧ ks.length + cnt ≤ q.n) (fun _ wr => wr.rangeLeft g w.heap.size)
    case atStart => exact ⟨_, _, [], HRG0.out, World.ownsRow_nil _ _ _ _, CollQ.start s p D, HM0.out, by rw [HS0.out]; exact Nat.le_refl _, by simpa using hsz⟩
    case round =>
      obtain ⟨left, cnt, ks, hrg, hrow, hC, hM, hz, hcn⟩ := hrel
      have HM := Hid.mkq hM
      have HRG := Hid.mkq hrg
      have HROW := Hid.mkq hrow
      have HC := Hid.mkq hC
      obtain ⟨pa, pcap, hpv⟩ := own_slice hrow
      subst hpv
      clear hrg hM hrow hC HRG0 HM0 HS0
      go_wp2_with (first
        | (at_next; refine wpList_nextQ _ rfl _ rfl g w.heap.size q.n D left cnt rfl HRG.out ?_ ?_)
        | go_in)
      · intro hl0
        have HS := Hid.mkq (sortQ_any _ _ ks wr HROW.out HC.out.nodup (by omega))
        have HAL : Hid (∀ k, k ∈ ks ↔ okQ k ∧ ¬ (s k).bare ∧ p (s k) = true) := fun k => by
          rw [HC.out.mem]
          constructor
          · rintro ⟨h1, h2, _, h4⟩; exact ⟨h1, ((HD.out k h1).2).1 h2, h4⟩
          · rintro ⟨h1, h2, h4⟩; exact ⟨h1, ((HD.out k h1).2).2 h2, hl0 _, h4⟩
        have HRB : Hid (∀ b, (Value.slice pa ks.length pcap).ownBlock = some b → w.heap.size + 1 ≤ b) := fun b hb => (own_cellsVQ HROW.out hb).1
        clear hl0
        go_wp2_with (first | (go_at_call 46; refine HS.out.mono ?_; rintro e w5 ⟨rfl, ps', hps, hpm, hpw, hmm⟩) | go_in)
        go_ret
        exact ⟨_, ps', rfl, hps, ⟨hpw, fun k => by rw [hpm.mem_iff]; exact HAL.out k⟩, fun b hb => by have := HRB.out b hb; omega, by rw [hpm.length_eq]; omega, HM.out.trans' hmm (fun b hb e => by have := HRB.out b e; omega)⟩
      · intro x c d w1 cnt1 hok hlx hc hd hat hrg1 hlt hg1 hen
        have hdd : D.atKey (keyQ x) zeroK = encK (q.hd x true) (q.hd x false) := (HD.out x hok).1
        obtain ⟨rfl, rfl⟩ : c = q.hd x true ∧ d = q.hd x false := encK_inj hc hd (HH.out.hdr x true hok) (HH.out.hdr x false hok) (by rw [← hat, hdd])
        obtain ⟨ha, hcap, hhv⟩ := own_slice (HH.out.rows x true hok id)
        obtain ⟨wa, wcap, hwv⟩ := own_slice (HH.out.rows x false hok id)
        have hm1 : Mod noBlock w w1 := HM.out.grown hg1 (fun y hy hlt => by cases hy; omega)
        have hm2 : Mod noBlock w (w1.alloc (.cells #[q.hd x true, q.hd x false] 59)) := hm1.alloc _
        have HAS := HA.out.ask x (w1.alloc (.cells #[q.hd x true, q.hd x false] 59)) hok (HH.out.mod hm2 id (fun _ _ => id)) hm2
        rw [hhv, hwv] at hen HAS ⊢
        have hhas := hasQ_of_left HRG.out hlx
        have HASK := Hid.mkq HAS
        rw [hhv, hwv] at hm2
        have HM2 := Hid.mkq hm2
        have HRG1 := Hid.mkq (hrg1.alloc (.cells #[.slice ha ((s x).list true).length hcap, .slice wa ((s x).list false).length wcap] 59))
        have HR1 : Hid (RowS (w1.alloc (.cells #[.slice ha ((s x).list true).length hcap, .slice wa ((s x).list false).length wcap] 59)) (w.heap.size + 1) (.slice pa ks.length pcap) ks) := by
          have hmr : Mod (oneBlock w.heap.size) wr w1 := (Mod.refl _ wr).grown hg1 (fun y hy _ => by cases hy; rfl)
          exact RowS.mod (own_mod HROW.out hmr (fun k hk _ _ e => by simp only [oneBlock] at e; omega)) ((Mod.refl noBlock _).alloc _) (fun _ _ => id)
        have hz1 : w.heap.size + 1 ≤ w1.heap.size := Nat.le_trans hz hg1.size
        have HHN := Hid.mkq hhv
        have HWN := Hid.mkq hwv
        clear hrg1 hg1 hat hc hd hm1 hm2 HAS hdd hhv hwv
        go_wp2_with fail
        refine HASK.out.mono ?_
        rintro e w2 ⟨rfl, hm2⟩
        have HR2 := Hid.mkq (HRG1.out.kept hm2.growsQ (by simp) (by simp))
        have HW2 := Hid.mkq (HR1.out.mod hm2 (fun _ _ => id))
        have HM3 := Hid.mkq (HM2.out.trans hm2)
        have hz2 : w.heap.size + 1 ≤ w2.heap.size := Nat.le_trans hz1 (by have := hm2.size; simp at this; omega)
        clear hm2
        cases hps : p (s x) with
        | false =>
          have HCS := Hid.mkq (HC.out.skip hps)
          go_wp2_with fail
          go_roundw
          case rel => exact ⟨_, cnt1, ks, HR2.out, HW2.out, HCS.out, HM3.out, hz2, by omega⟩
          case measure => rw [HR2.out.left_eq, HRG.out.left_eq]; exact hlt
        | true =>
          have HCS := Hid.mkq (HC.out.take hok hlx hhas hps)
          have hk63 : ks.length + 1 ≤ maxLen := by unfold maxLen; omega
          have hk47 : (ks.length + 1) * 16 ≤ 140737488355328 := by omega
          have HOE : Hid (∀ u ∈ [Value.string x], u.oneCell' = true) := fun u hu => by simp at hu; rw [hu]; rfl
          go_wp2_with (first
            | (at_builtin; refine wpList_append_own_at _ rfl (.tmp 21) (.tmp 23) 48 rfl (w.heap.size + 1) 9 i0 _ 1 16 Tryz.underlying48 yi yz0 yz1 yz2 rfl (by omega) _ _ _ rfl (HW2.out.alloc _) ⟨w2.heap.size, 0, none⟩ 1 1 [.string x] rfl rfl (World.news_of_block (heap_alloc_new w2 _)) HOE.out hk63 hk47 (by simp; omega) ?_)
            | fail)
          intro v7 w7 hown7 hgrow7 _ _
          have HR7 := Hid.mkq ((HR2.out.alloc _).kept hgrow7 (fun e => by have := (own_cellsVQ HW2.out e.symm).1; omega) (fun e => by have := (own_cellsVQ HW2.out e.symm).1; omega))
          have HM7 : Hid (Mod noBlock w w7) := (HM3.out.alloc _).grown hgrow7 (fun k hk hlt => by have := (own_cellsVQ HW2.out hk).1; omega)
          have hz7 : w.heap.size + 1 ≤ w7.heap.size := Nat.le_trans (by simp; omega) hgrow7.size
          obtain ⟨a7, cap7, hv7⟩ := own_slice hown7
          subst hv7
          have HW7 := Hid.mkq hown7
          clear hown7 hgrow7
          go_wp2_with fail
          go_roundw
          case rel => exact ⟨_, cnt1, ks ++ [x], HR7.out, by unfold RowS; rw [List.length_append, List.map_append]; exact HW7.out, HCS.out, HM7.out, hz7, by simp; omega⟩
          case measure => rw [HR7.out.left_eq, HRG.out.left_eq]; exact hlt
set_option maxRecDepth 100000 in
set_option maxHeartbeats 1000000 in
theorem of1_any {B N : Nat} {q : TbM} {s : Tab} {w : World} {tb : Nat} {t : Int} (hN : N ≤ 900) (ht : Blk w tb [.int .i64 t] 3) : AskK 44 #[.pointer (some ⟨tb, 0, none⟩)] (fun k => atB k t) B N q s w := by
  refine ⟨enterQ Tryz.func44 (by kernel_rfl) rfl, fun k wr hk hT hm => ?_⟩
  show Calls Tryz.prog 44 #[.agg #[q.hd k true, q.hd k false], .pointer (some ⟨tb, 0, none⟩)] wr _
  have ht2 := ht.mod hm id
  have hfew := hT.few k hk
  obtain ⟨w1, hw1⟩ : ∃ x, x = wr.alloc (.cells #[q.hd k true, q.hd k false] 59) := ⟨_, rfl⟩
  have hm1 : Mod noBlock wr w1 := by rw [hw1]; exact (Mod.refl _ wr).alloc _
  have hb1 : Blk w1 wr.heap.size [q.hd k true, q.hd k false] 59 := by rw [hw1]; exact Blk.new wr [q.hd k true, q.hd k false] 59
  have hr1 := (hT.rows k true hk id).mod hm1 (fun _ _ => id)
  have hr2 := (hT.rows k false hk id).mod hm1 (fun _ _ => id)
  have H1 := Hid.mkq (modeOf_any w1.heap.size (q.hd k true) (s k).held t w1 (hr1.toV (Nat.le_refl _)) (hT.ok k hk).held (by omega))
  have H2 : Hid (∀ w2, Mod noBlock w1 w2 → Calls Tryz.prog 19 #[q.hd k false, .int .i64 t] w2 fun e w' => e = .returned (.int .i64 (modeN (s k).waits t)) ∧ Mod noBlock w2 w') := fun w2 hm2 => modeOf_any w2.heap.size (q.hd k false) (s k).waits t w2 ((RowK.mod hr2 hm2 (fun _ _ => id)).toV (Nat.le_refl _)) (hT.ok k hk).waits (by have := hfew; omega)
  have HAT : Hid (atB (s k) t = (decide (modeN (s k).held t ≠ 0) || decide (modeN (s k).waits t ≠ 0))) := rfl
  obtain ⟨ha, hcap, hhv⟩ := own_slice (hT.rows k true hk id)
  obtain ⟨wa, wcap, hwv⟩ := own_slice (hT.rows k false hk id)
  have p0 := hb1.cell 0 rfl
  have p1 := hb1.cell 1 rfl
  have hz := hb1.lt
  have t0 := (ht2.mod hm1 id).cell 0 rfl
  have htz := (ht2.mod hm1 id).lt
  rw [hhv] at p0 H1
  rw [hwv] at p1 H2
  rw [hhv, hwv] at hw1 ⊢
  have HM1 := Hid.mkq hm1
  generalize atB (s k) t = r at HAT
  clear hm1 hb1 hr1 hr2 ht2 ht hT
  by_cases g1 : modeN (s k).held t = 0
  · have HR : Hid (r = (modeN (s k).waits t != 0)) := by rw [HAT.out, Hid, g1]; rw [Bool.eq_iff_iff]; simp
    rw [g1] at H1
    clear HAT
    go_enter Tryz.func44, Tryz.ntmps44
    go_upto_region 1 with fail
    rw [← hw1]
    clear hw1
    go_wp2_with fail
    refine H1.out.mono ?_
    rintro e w2 ⟨rfl, hm2⟩
    have q1 := hm2.cell p1 id
    have u0 := hm2.cell t0 id
    have hz2 := Nat.lt_of_lt_of_le hz hm2.size
    have htz2 := Nat.lt_of_lt_of_le htz hm2.size
    have H22 := Hid.mkq (H2.out w2 hm2)
    have HM2 := Hid.mkq (HM1.out.trans hm2)
    clear p0 p1 t0 hm2 H2
    go_wp2_with fail
    refine H22.out.mono ?_
    rintro e w3 ⟨rfl, hm3⟩
    go_wp2_with fail
    go_ret
    exact ⟨by rw [HR.out]; rfl, HM2.out.trans hm3⟩
  · have HR : Hid (r = (modeN (s k).held t != 0)) := by rw [HAT.out, Hid]; rw [Bool.eq_iff_iff]; simp [g1]
    clear HAT
    generalize modeN (s k).held t = mm at g1 H1 HR
    go_enter Tryz.func44, Tryz.ntmps44
    go_upto_region 1 with fail
    rw [← hw1]
    clear hw1
    go_wp2_with fail
    refine H1.out.mono ?_
    rintro e w2 ⟨rfl, hm2⟩
    have HM2 := Hid.mkq (HM1.out.trans hm2)
    clear p0 p1 t0 hm2 H2
    have hmm : (mm == 0) = false := by simpa using g1
    go_wp2_with fail
    go_ret
    exact ⟨by rw [HR.out]; first | rfl | (simp [g1]), HM2.out⟩
set_option maxRecDepth 100000 in
theorem of_any (B N : Nat) (q : TbM) (s : Tab) (t : Int) (w : World) (h : TbP w B N q s) (hqn : q.n ≤ 1000000) (hN : N ≤ 900) :
    Calls Tryz.prog 26 #[.pointer (some ⟨q.b, q.pre.length, none⟩), .int .i64 t] w (NamedP w s (fun k => atB k t) q.n) := by
  have hmf : ∀ fn first cap w, (Instr.makeFunc fn first cap).run Tryz.prog w = .ok (.func fn first cap) w := fun _ _ _ _ => rfl
  obtain ⟨w1, hw1⟩ : ∃ x, x = w.alloc (.cells #[.int .i64 t] 3) := ⟨_, rfl⟩
  have hm1 : Mod noBlock w w1 := by rw [hw1]; exact (Mod.refl _ w).alloc _
  have hb1 : Blk w1 w.heap.size [.int .i64 t] 3 := by rw [hw1]; exact Blk.new w [.int .i64 t] 3
  have HN := Hid.mkq (named_any 44 #[.pointer (some ⟨w.heap.size, 0, none⟩)] (fun k => atB k t) B N q s w1 (h.mod hm1 id (fun _ _ => id)) (of1_any hN hb1) hqn)
  have HM1 := Hid.mkq hm1
  clear h hm1 hb1
  go_enter Tryz.func26, Tryz.ntmps26
  go_upto_region 1 with fail
  rw [← hw1]
  clear hw1
  go_wp2_with fail
  refine HN.out.mono ?_
  rintro e w2 ⟨v, ks, rfl, hk, hs, hv, hl, hm⟩
  obtain ⟨a, cap, rfl, h1, h2⟩ := SlR.slice hk
  have HK := Hid.mkq hk
  clear hk
  go_wp2_with fail
  go_ret
  exact ⟨_, ks, rfl, HK.out, hs, fun b hb => Nat.le_trans HM1.out.size (hv b hb), hl, HM1.out.trans hm⟩
end Go.Proofs.YtkoncehhpiegfaaGreatDoor
