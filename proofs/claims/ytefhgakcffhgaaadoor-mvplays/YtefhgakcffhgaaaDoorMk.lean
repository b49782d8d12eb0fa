/- Package mv: At, the walk. -/
import Derived.Test.YtefhgakcffhgaaaDoorMj
namespace Go.Proofs.YtefhgakcffhgaaaDoor
open Go.RowKit Go.Lib Go.Maps Go.Sort Go.Shelf
set_option linter.unusedVariables false

theorem Mod.grows {w w' : World} (h : Mod noBlock w w') : w.grownBy w' none := ⟨h.os, h.tape, h.output, h.size, fun i hi _ => h.block i hi id⟩
/-- All that is there at a time. -/
def AllAt (s : Vers) (t : Int) (ps : List PairD) : Prop := ∀ k v, (k, v) ∈ ps ↔ okK k ∧ toldO (s k) t = some v
/-- .. of those that have come. -/
structure Coll (s : Vers) (t : Int) (D : DataW Unit) (left : Lit → Bool) (ps : List PairD) : Prop where
  nodup : (ps.map (·.1)).Nodup
  mem : ∀ k v, (k, v) ∈ ps ↔ okK k ∧ has D (keyL k) = true ∧ left (keyL k) = false ∧ toldO (s k) t = some v
theorem told_some {l : List VerD} {t : Int} {v : ByteArray} (h : toldO l t = some v) : l ≠ [] := fun e => by
  subst e
  simp [toldO, byN] at h
theorem Coll.start (s : Vers) (t : Int) (D : DataW Unit) : Coll s t D (has D) [] := ⟨by simp, fun k v => ⟨fun h => by simp at h, fun ⟨_, h1, h2, _⟩ => by rw [h1] at h2; cases h2⟩⟩
theorem Coll.take {s : Vers} {t : Int} {D : DataW Unit} {left : Lit → Bool} {ps : List PairD} {x v : ByteArray} (h : Coll s t D left ps) (hx : okK x) (hl : left (keyL x) = true) (hd : has D (keyL x) = true) (ht : toldO (s x) t = some v) : Coll s t D (fun z => left z && !z.sameKey (keyL x)) (ps ++ [(x, v)]) := by
  refine ⟨?_, fun k u => ?_⟩
  · rw [List.map_append, List.nodup_append]
    refine ⟨h.nodup, by simp, fun a ha b hb e => ?_⟩
    simp at hb
    subst hb
    subst e
    obtain ⟨p, hp, e⟩ := List.mem_map.1 ha
    obtain ⟨k, u⟩ := p
    simp at e
    subst e
    have := ((h.mem k u).1 hp).2.2.1
    rw [hl] at this
    cases this
  · rw [List.mem_append, h.mem, List.mem_singleton, same_key]
    constructor
    · rintro (⟨h1, h2, h3, h4⟩ | e)
      · exact ⟨h1, h2, by rw [h3]; rfl, h4⟩
      · cases e
        exact ⟨hx, hd, by simp, ht⟩
    · rintro ⟨h1, h2, h3, h4⟩
      by_cases e : k = x
      · subst e
        rw [ht] at h4
        cases h4
        exact .inr rfl
      · simp [e] at h3
        exact .inl ⟨h1, h2, h3, h4⟩
theorem Coll.skip {s : Vers} {t : Int} {D : DataW Unit} {left : Lit → Bool} {ps : List PairD} {x : ByteArray} (h : Coll s t D left ps) (ht : toldO (s x) t = none) : Coll s t D (fun z => left z && !z.sameKey (keyL x)) ps := by
  refine ⟨h.nodup, fun k u => ?_⟩
  rw [h.mem, same_key]
  constructor
  · rintro ⟨h1, h2, h3, h4⟩
    exact ⟨h1, h2, by rw [h3]; rfl, h4⟩
  · rintro ⟨h1, h2, h3, h4⟩
    by_cases e : k = x
    · subst e; rw [ht] at h4; cases h4
    · simp [e] at h3
      exact ⟨h1, h2, h3, h4⟩
theorem Coll.len {s : Vers} {t : Int} {D : DataW Unit} {left : Lit → Bool} {ps : List PairD} {K : List ByteArray} (h : Coll s t D left ps) (hK : KeysP K s) : ps.length ≤ K.length := by
  have := List.Nodup.length_le_of_subset h.nodup (l₂ := K) (fun k hk => by
    obtain ⟨p, hp, e⟩ := List.mem_map.1 hk
    obtain ⟨k', u⟩ := p
    simp at e
    subst e
    obtain ⟨h1, _, _, h4⟩ := (h.mem k' u).1 hp
    exact hK.all k' h1 (told_some h4))
  simpa using this
theorem Coll.all {s : Vers} {t : Int} {D : DataW Unit} {left : Lit → Bool} {ps : List PairD} (h : Coll s t D left ps) (hl : ∀ kl, left kl = false) (hD : ∀ k, okK k → s k ≠ [] → has D (keyL k) = true) : AllAt s t ps := fun k v => by
  rw [h.mem]
  constructor
  · rintro ⟨h1, _, _, h4⟩; exact ⟨h1, h4⟩
  · rintro ⟨h1, h4⟩; exact ⟨h1, hD k h1 (told_some h4), hl _, h4⟩
/-- What At comes to. -/
def AtP (w : World) (s : Vers) (t : Int) (e : Ending) (w' : World) : Prop := ∃ v ps, e = .returned (.tuple #[v, .nilIface]) ∧ PairsV w' w'.heap.size v ps ∧ ps.Pairwise ltP ∧ AllAt s t ps ∧ (∀ b, v.ownBlock = some b → w.heap.size ≤ b) ∧ Mod noBlock w w'
theorem PairsV.mod' {G : Nat → Prop} {w w' : World} {L : Nat} {v : Value} {ps : List PairD} (h : PairsV w L v ps) (hm : Mod G w w') (hG : ∀ b, v.ownBlock = some b → ¬ G b) : PairsV w' L v ps := by
  obtain ⟨a, cap, rfl, h1, h2, h3⟩ := h
  refine ⟨a, cap, rfl, h1, h2, ?_⟩
  rcases h3 with h3 | ⟨b, off, rfl, h4, h5⟩
  · exact .inl h3
  · refine .inr ⟨b, off, rfl, h4, fun i d hi => ?_⟩
    obtain ⟨cs, k1, k2, k3⟩ := h5 i d hi
    exact ⟨cs, k1, k2, fun j x hx => hm.cell (k3 j x hx) (hG b rfl)⟩
theorem sort_any (B : Nat) (v : Value) (ps : List PairD) (w : World) (hrow : w.ownsRow B 84 3 v ps.length (pairsC ps)) (hn : (ps.map (·.1)).Nodup) (hl : ps.length ≤ 1000) :
    Calls Tryd.prog 94 #[v, .func (.func 95) #[] #[]] w fun e w' => e = .returned (.tuple #[]) ∧ ∃ ps', PairsV w' w'.heap.size v ps' ∧ ps'.Perm ps ∧ ps'.Pairwise ltP ∧ Mod (fun b => v.ownBlock = some b) w w' := by
  by_cases h0 : ps = []
  · subst h0
    have hv : ∃ a cap, v = .slice a 0 cap ∧ cap ≤ maxLen := by
      rcases hrow.2 with ⟨rfl, _⟩ | ⟨g, cap, cur, rfl, _, _, _, h2, _⟩
      · exact ⟨none, 0, rfl, Nat.zero_le _⟩
      · exact ⟨_, cap, rfl, h2⟩
    obtain ⟨a, cap, rfl, hc⟩ := hv
    have hcon := AnyF.slices_SortFunc_none Tryd.sortPairs a cap (.func (.func 95) #[] #[]) w
    refine Calls.mono hcon ?_
    rintro e w' ⟨rfl, rfl⟩
    exact ⟨rfl, [], ⟨a, cap, rfl, Nat.zero_le _, hc, .inl rfl⟩, List.Perm.refl _, List.Pairwise.nil, Mod.refl _ _⟩
  · have hv : ∃ g cap, v = .slice (some ⟨g, 0, none⟩) ps.length cap ∧ ps.length ≤ cap ∧ cap ≤ maxLen := by
      rcases hrow.2 with ⟨rfl, h1⟩ | ⟨g, cap, cur, rfl, _, _, h1, h2, _⟩
      · exact absurd (List.eq_nil_of_length_eq_zero h1) h0
      · exact ⟨g, cap, rfl, h1, h2⟩
    obtain ⟨g, cap, rfl, hc1, hc2⟩ := hv
    have hg : g < w.heap.size := (own_cellsV hrow (k := g) rfl).2.1
    have hH := holdsP hrow
    have eg : ∀ args w, (callFunc 95 args).run Tryd.prog w = .ok (.enter 95 args) w := enters_of Tryd.func95 (by kernel_rfl) rfl
    have hcon := AnyQ.slices_SortFunc Tryd.sortPairs 3 Tryd.isAgg84 Tryd.sizeOf84 pairC (fun _ => rfl) (fun x v hv => by simp [pairC] at hv; rcases hv with rfl | rfl | rfl <;> rfl) cmpP swoP 95 #[] g 0 cap ps.toArray w eg (cmpLaysP g 0 _ w) hH hg (by simp; omega)
    simp only [List.size_toArray] at hcon
    refine Calls.mono hcon ?_
    rintro e w' ⟨rfl, d', n, os, hp, hs, rfl⟩
    have hp' : PermIn 0 ps.toArray.size ps.toArray d' := by simpa using hp
    have hs' : SortedIn (ltOf cmpP) 0 ps.toArray.size d' := by simpa using hs
    obtain ⟨h1, h2⟩ := rising_of hp' hs' (by simpa using hn)
    refine ⟨rfl, d'.toList, ?_, by simpa using h1, h2, ?_⟩
    · have := sortedV (n := n) (os := os) (cap := cap) (d' := d') hH hp'.1 hg (by simpa using hc1) hc2
      simpa using this
    · exact (Mod.refl _ w).grown (grownBy_sortK d') (fun x hx _ => by cases hx; rfl)
theorem at_no (q : StM) (B : Nat) (s : Vers) (t : Int) (w : World) (h : StP w B q s) (ht : t < q.low) :
    Calls Tryd.prog 39 #[.pointer (some ⟨q.b, 0, none⟩), .int .i64 t] w fun e w' => e = .returned (.tuple #[.slice none 0 0, .iface 29 (.int .i64 8)]) ∧ w' = w := by
  have c0 := h.blk.cell 0 rfl
  have z0 := h.blk.lt
  have hd0 : decide (t < q.low) = true := decide_eq_true ht
  clear h
  go_enter Tryd.func39, Tryd.ntmps39
  go_wp2_with fail
  go_ret2
  exact ⟨rfl, rfl⟩
theorem has_of_left {w : World} {g r n cnt : Nat} {D : DataW Unit} {left : Lit → Bool} {x : ByteArray} (h : w.ranges Tryd.prog 9 hdrElem g r n D left cnt) (hl : left (keyL x) = true) : has D (keyL x) = true := by
  obtain ⟨es, clock, since, seen, c0, hb, F, hs, hDD, hr, hold, hcn, hl1, hl2, hsc, hsk⟩ := h
  obtain ⟨y, hy, e⟩ := hl2 _ hl
  rw [hDD]
  exact List.any_eq_true.2 ⟨_, mem_sorted.2 (List.mem_map.2 ⟨y, hy, rfl⟩), by rw [e]; exact WideAt.sameKey_self (by simp [WideAt.IsKeyLit, keyL])⟩
set_option maxRecDepth 100000 in
set_option maxHeartbeats 4000000 in
theorem at_yes (q : StM) (B : Nat) (s : Vers) (K : List ByteArray) (t : Int) (w : World) (h : StP w B q s) (hK : KeysP K s) (hKl : K.length ≤ 900) (ht : q.low ≤ t) :
    Calls Tryd.prog 39 #[.pointer (some ⟨q.b, 0, none⟩), .int .i64 t] w (AtP w s t) := by
  obtain ⟨i0, yi, yz0, yz1, yz2⟩ := info_parts Tryd.infoPr
  have c0 := h.blk.cell 0 rfl
  have c1 := h.blk.cell 1 rfl
  have z0 := h.blk.lt
  have hd0 : decide (t < q.low) = false := decide_eq_false (by omega)
  have HH := Hid.mk'' h
  have HK := Hid.mk'' hK
  cases hm : q.m with
  | none =>
    have hmp := h.map
    rw [hm] at hmp
    have HA : Hid (AllAt s t []) := fun k v => ⟨fun h => by simp at h, fun ⟨h1, h2⟩ => absurd (hmp k h1).2 (told_some h2)⟩
    rw [hm] at c1
    have hrg := run_range_nilMap (P := Tryd.prog) w 79 9 159 Tryd.underlying79
    have hnx : ∀ ty, (Instr.next (.pointer (some ⟨w.heap.size, 0, none⟩)) false ty).run Tryd.prog (w.alloc (.mapIter none 0 #[] 0)) = _ := fun ty => run_next_nilMap w ty 0 0 #[]
    have HM : Hid (Mod noBlock w (w.alloc (.mapIter none 0 #[] 0))) := (Mod.refl _ w).alloc _
    have HS := Hid.mk'' (sort_any 0 (.slice none 0 0) [] (w.alloc (.mapIter none 0 #[] 0)) (World.ownsRow_nil _ _ _ _) (by simp) (by simp))
    clear h hK hmp
    go_enter Tryd.func39, Tryd.ntmps39
    go_wp2
    refine wp_loop_rounds 1 ?_
    rw [rounds_succ]
    go_wp2_with (first | (go_at_call 94; refine HS.out.mono ?_; rintro e w5 ⟨rfl, ps', hps, hpm, hpw, hmm⟩) | go_in)
    go_ret2
    have hnil : ps' = [] := List.Perm.eq_nil hpm
    subst hnil
    exact ⟨_, [], rfl, hps, List.Pairwise.nil, HA.out, fun b hb => by simp [Value.ownBlock] at hb, HM.out.trans' hmm (fun _ _ e => by cases e)⟩
  | some g =>
    have hmp := h.map
    rw [hm] at hmp
    obtain ⟨_, D, hown, hD⟩ := hmp
    rw [hm] at c1
    have HD := Hid.mk'' hD
    have HOWN := Hid.mk'' hown
    have hgl := hown.lt
    clear h hK hD hown hm
    go_enter Tryd.func39, Tryd.ntmps39
    go_wp2_with (first
      | (at_range; refine wpList_range_own _ rfl _ 79 rfl 9 159 kStr Tryd.underlying79 _ g q.n D rfl HOWN.out ?_; intro w0 hrg0 hg0 hs0)
      | go_in)
    go_frame
    have HM0 : Hid (Mod noBlock w w0) := (Mod.refl _ w).grown hg0 (fun x hx _ => by cases hx)
    have HRG0 := Hid.mk'' hrg0
    have HS0 := Hid.mk'' hs0
    clear hrg0 hg0 hs0
    go_loopw [6, 7] (fun v0 _ wr => ∃ (left : Lit → Bool) (cnt : Nat) (ps : List PairD), wr.ranges Tryd.prog 9 hdrElem g w.heap.size q.n D left cnt ∧ wr.ownsRow (w.heap.size + 1) 84 3 v0 ps.length (pairsC ps) ∧ Coll s t D left ps ∧ Mod noBlock w wr ∧ w.heap.size + 1 ≤ wr.heap.size) (fun _ _ wr => wr.rangeLeft g w.heap.size)
    case atStart => exact ⟨_, _, [], HRG0.out, World.ownsRow_nil _ _ _ _, Coll.start s t D, HM0.out, by rw [HS0.out]; exact Nat.le_refl _⟩
    case round =>
      obtain ⟨left, cnt, ps, hrg, hrow, hC, hM, hz⟩ := hrel
      have hpl := hC.len HK.out
      have HM := Hid.mk'' hM
      have HRG := Hid.mk'' hrg
      have HROW := Hid.mk'' hrow
      have HC := Hid.mk'' hC
      obtain ⟨pa, pcap, hpv⟩ := own_slice hrow
      subst hpv
      clear hrg hM hrow hC HRG0 HM0 HS0
      go_wp2_with (first
        | (at_next; refine wpList_next_vers _ rfl _ rfl g w.heap.size q.n D left cnt rfl HRG.out ?_ ?_)
        | go_in)
      · intro hl0
        have HS := Hid.mk'' (sort_any _ _ ps wr HROW.out HC.out.nodup (by omega))
        have HAL := Hid.mk'' (HC.out.all hl0 (fun k hk hs => (HD.out k hk).2.2 hs))
        have HRB : Hid (∀ b, (Value.slice pa ps.length pcap).ownBlock = some b → w.heap.size + 1 ≤ b) := fun b hb => (own_cellsV HROW.out hb).1
        clear hl0
        go_wp2_with (first | (go_at_call 94; refine HS.out.mono ?_; rintro e w5 ⟨rfl, ps', hps, hpm, hpw, hmm⟩) | go_in)
        go_ret2
        exact ⟨_, ps', rfl, hps, hpw, fun k v => by rw [hpm.mem_iff]; exact HAL.out k v, fun b hb => by have := HRB.out b hb; omega, HM.out.trans' hmm (fun b hb e => by have := HRB.out b e; omega)⟩
      · intro x c w1 cnt1 hok hlx hc hat hrg1 hlt hg1 hen
        obtain rfl : c = q.hd x := encH_inj hc (own_hdr (HH.out.rows x hok).1) (by rw [← hat]; exact (HD.out x hok).1)
        have hm1 : Mod noBlock w w1 := HM.out.grown hg1 (fun y hy hlt => by cases hy; omega)
        have HTO := Hid.mk'' (told_any w1.heap.size (q.hd x) (s x) t w1 ((HH.out.mod hm1 (fun _ _ => id)).vers hok) (Nat.le_refl _) (HH.out.rise x hok) (by have := HH.out.few x hok; omega))
        obtain ⟨ca, ccap, hcd⟩ := own_slice (HH.out.rows x hok).1
        rw [hcd] at hen HTO ⊢
        have hhas := has_of_left HRG.out hlx
        have HM1 := Hid.mk'' hm1
        have HRG1 := Hid.mk'' hrg1
        have HR1 : Hid (w1.ownsRow (w.heap.size + 1) 84 3 (.slice pa ps.length pcap) ps.length (pairsC ps)) := by
          have hmr : Mod (oneBlock w.heap.size) wr w1 := (Mod.refl _ wr).grown hg1 (fun y hy _ => by cases hy; rfl)
          exact own_mod HROW.out hmr (fun k hk _ _ e => by simp only [oneBlock] at e; omega)
        have hz1 : w.heap.size + 1 ≤ w1.heap.size := Nat.le_trans hz hg1.size
        clear hrg1 hg1 hat hc hm1 hcd
        generalize hto : toldO (s x) t = to1 at HTO
        have HTT := Hid.mk'' hto
        clear hto
        cases to1 with
        | none =>
          have HCS := Hid.mk'' (HC.out.skip HTT.out)
          go_wp2_with fail
          refine HTO.out.mono ?_
          rintro e w2 ⟨rfl, hm2⟩
          have HR2 := Hid.mk'' (HRG1.out.kept hm2.grows (by simp) (by simp))
          have HW2 := Hid.mk'' (own_mod HR1.out hm2 (fun _ _ _ _ => id))
          have HM2 := Hid.mk'' (HM1.out.trans hm2)
          have hz2 := Nat.le_trans hz1 hm2.size
          clear hm2
          go_wp2_with fail
          go_roundw
          case rel => exact ⟨_, cnt1, ps, HR2.out, HW2.out, HCS.out, HM2.out, hz2⟩
          case measure => rw [HR2.out.left_eq, HRG.out.left_eq]; exact hlt
        | some val =>
          have HCS := Hid.mk'' (HC.out.take hok hlx hhas HTT.out)
          have hk63 : ps.length + 1 ≤ maxLen := by unfold maxLen; omega
          have hk47 : (ps.length + 1) * 40 ≤ 140737488355328 := by omega
          have HOE : Hid (∀ u ∈ [Value.string x, .string val, .bool false], u.oneCell' = true) := fun u hu => by simp at hu; rcases hu with rfl | rfl | rfl <;> rfl
          go_wp2_with fail
          refine HTO.out.mono ?_
          rintro e w2 ⟨rfl, hm2⟩
          have HR2 := Hid.mk'' (HRG1.out.kept hm2.grows (by simp) (by simp))
          have HW2 := Hid.mk'' (own_mod HR1.out hm2 (fun _ _ _ _ => id))
          have HM2 := Hid.mk'' (HM1.out.trans hm2)
          have hz2 := Nat.le_trans hz1 hm2.size
          clear hm2
          go_wp2_with (first
            | (at_builtin; refine wpList_append_own_at _ rfl (.tmp 35) (.tmp 39) 22 rfl (w.heap.size + 1) 84 i0 _ 3 40 Tryd.underlying22 yi yz0 yz1 yz2 rfl (by omega) _ _ _ rfl (HW2.out.alloc _) ⟨w2.heap.size, 0, none⟩ 1 1 [.string x, .string val, .bool false] rfl rfl (World.news_of_block (heap_alloc_new w2 _)) HOE.out hk63 hk47 (by simp; omega) ?_)
            | fail)
          intro v7 w7 hown7 hgrow7 _ _
          have HR7 := Hid.mk'' ((HR2.out.alloc _).kept hgrow7 (fun e => by have := (own_cellsV HW2.out e.symm).1; omega) (fun e => by have := (own_cellsV HW2.out e.symm).1; omega))
          have HM7 : Hid (Mod noBlock w w7) := (HM2.out.alloc _).grown hgrow7 (fun k hk hlt => by have := (own_cellsV HW2.out hk).1; omega)
          have hz7 : w.heap.size + 1 ≤ w7.heap.size := Nat.le_trans (by simp; omega) hgrow7.size
          obtain ⟨a7, cap7, hv7⟩ := own_slice hown7
          subst hv7
          have HW7 := Hid.mk'' hown7
          clear hown7 hgrow7
          go_wp2_with fail
          go_roundw
          case rel => exact ⟨_, cnt1, ps ++ [(x, val)], HR7.out, by rw [List.length_append, pairsC_snoc]; exact HW7.out, HCS.out, HM7.out, hz7⟩
          case measure => rw [HR7.out.left_eq, HRG.out.left_eq]; exact hlt
end Go.Proofs.YtefhgakcffhgaaaDoor
