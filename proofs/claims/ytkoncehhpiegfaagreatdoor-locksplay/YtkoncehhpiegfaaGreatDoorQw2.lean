/- Package locks: Release, the walk itself. -/
import Derived.Test.YtkoncehhpiegfaaGreatDoorQw
namespace Go.Proofs.YtkoncehhpiegfaaGreatDoor
open Go.RowKit Go.Lib Go.Maps
set_option linter.unusedVariables false

theorem got_len (k : KeyS) (t : Int) : (gotN k t).length ≤ k.waits.length := by
  have := (pass_len (leaveN k.waits t) (leaveN k.held t) []).2.2
  have := len_leave k.waits t
  unfold gotN
  omega
theorem grants_len (s : Tab) (t : Int) (M : Nat) : ∀ (ks : List ByteArray), (∀ k ∈ ks, (s k).waits.length ≤ M) → (grantsN s t ks).length ≤ ks.length * M
  | [], _ => by simp [grantsN]
  | k :: ks, h => by
    have ih := grants_len s t M ks (fun x hx => h x (List.mem_cons_of_mem _ hx))
    have h1 := got_len (s k) t
    have h2 := h k (by simp)
    have e : grantsN s t (k :: ks) = (gotN (s k) t).map (grOf k) ++ grantsN s t ks := by simp [grantsN]
    rw [e, List.length_append, List.length_map, List.length_cons, Nat.add_mul]
    omega
/-- The next key is done. -/
theorem RelI.next {w w1 wr w6 wq w7 : World} {B N : Nat} {q q' q2 : TbM} {s : Tab} {t : Int} {ks : List ByteArray} {i : Nat} {gv0 gq got : Value} {name : ByteArray} {v : Bool → Value} (h : RelI w w1 wr B N q q' s t ks i gv0) (hty : q.t ≠ 47) (hname : ks[i]? = some name) (hns : NamesQ s (fun k => atB k t) ks) (hqo : ∀ x, q.own x → x < w1.heap.size) (hqb : q.b < w1.heap.size)
    (hR : RoundQ wr w6 B N q' (relSQ s t (ks.take i)) name wr.heap.size v got (s name) t) (hmq : Mod (fun x => gv0.ownBlock = some x) w6 wq) (hg : RowG wq w1.heap.size gq (grantsN s t (ks.take i) ++ (gotN (s name) t).map (grOf name)))
    (hK : KeepQ wq w7 B N q' q2 (relSQ s t (ks.take i)) name v (outN (s name) t)) (hTq : TbX wq B N q' (relSQ s t (ks.take i)) (· = name)) : RelI w w1 w7 B N q q2 s t ks (i + 1) gq := by
  have hin := (hns.2 name).1 (List.mem_of_getElem? hname)
  have hz1 := h.md.size
  have hzr := hR.md.size
  have hnot : name ∉ ks.take i := fun hm => by
    obtain ⟨j, hj⟩ := List.getElem?_of_mem hm
    rw [List.getElem?_take] at hj
    split at hj
    · rename_i hlt
      obtain ⟨a1, a2⟩ := List.getElem?_eq_some_iff.1 hj
      obtain ⟨b1, b2⟩ := List.getElem?_eq_some_iff.1 hname
      have := List.pairwise_iff_getElem.1 hns.1 j i a1 b1 hlt
      rw [a2, b2] at this
      exact ltQ_irrefl _ this
    · cases hj
  have hsn : relSQ s t (ks.take i) name = s name := relSQ_at hnot
  have hg0 : ∀ x, gv0.ownBlock = some x → w1.heap.size ≤ x := fun x hx => (own_cellsVQ h.gr hx).1
  refine ⟨?_, hK.b.trans h.b, hK.pre.trans h.pre, hK.post.trans h.post, hK.t.trans h.ty, Nat.le_trans (hK.n0 (by rw [hsn]; exact hin.2.1)) h.n, ?_, ?_, fun x hx => ?_⟩
  · have e := relSQ_step (s := s) (t := t) hnot hin.2.2
    rw [← take_snocQ hname] at e
    rw [← e]
    exact hK.tb
  · rw [take_snocQ hname, grantsN_snoc]
    refine hg.mod hK.md (fun x hx e => ?_)
    rcases e with e | e
    · exact grant_blk hg hTq.blk (by rw [h.ty]; exact hty) hx e
    · obtain ⟨c1, h1⟩ := grant_kind hg hx
      obtain ⟨_, D, ⟨es, clock, hb, _⟩, _⟩ := hTq.map.get e
      rw [h1] at hb
      cases hb
  · have hlt : ∀ x, x < w1.heap.size → q'.own x → q.own x := fun x hx hq => by
      rcases h.own x hq with e | e
      · exact e
      · omega
    have a1 : Mod (fun x => x = q.b ∨ q.own x) w1 w6 := h.md.trans' hR.md (fun x hx e => by
      rcases e with ⟨j, e⟩ | e
      · exact .inr (hlt x hx (.inr ⟨name, j, hin.1, e⟩))
      · omega)
    have a2 : Mod (fun x => x = q.b ∨ q.own x) w1 wq := a1.trans' hmq (fun x hx e => by have := hg0 x e; omega)
    exact a2.trans' hK.md (fun x hx e => by
      rcases e with e | e
      · exact .inl (by rw [e, h.b])
      · exact .inr (hlt x hx (.inl e)))
  · rcases hK.own x hx with e | e | ⟨j, e⟩
    · exact h.own x e
    · have := hmq.size; exact .inr (by omega)
    · rcases hR.vo j x e with e2 | e2
      · exact h.own x e2
      · exact .inr (by omega)
set_option maxRecDepth 100000 in
set_option maxHeartbeats 8000000 in
theorem release_any (B N : Nat) (q : TbM) (s : Tab) (t : Int) (w : World) (h : TbP w B N q s) (hty : q.t ≠ 47) (hN : N ≤ 390) (hqn : q.n ≤ 10000) (hB : B ≤ w.heap.size) :
    Calls Tryz.prog 9 #[.pointer (some ⟨q.b, q.pre.length, none⟩), .int .i64 t] w fun e w' => ∃ gv q' ks, e = .returned gv ∧ RelQ w w' B N q q' s t gv ks := by
  obtain ⟨i0, hi, hz0, hz1, hz2⟩ := info_parts Tryz.infoGQ
  have HOF := Hid.mkq (of_any B N q s t w h (by omega) (by omega))
  have HT := Hid.mkq h
  have hqbw := h.blk.lt
  clear h
  go_enter Tryz.func9, Tryz.ntmps9
  go_wp2_with fail
  refine HOF.out.mono ?_
  rintro e w1 ⟨nv, ks, rfl, hks, hns, hnv, hkl, hm1⟩
  obtain ⟨na, ncap, hnv0, hnc1, hnc2⟩ := SlR.slice hks
  subst hnv0
  unfold maxLen at hnc2
  have HKS := Hid.mkq hks
  have HNS := Hid.mkq hns
  have HM1 := Hid.mkq hm1
  have hz01 := hm1.size
  have HNB : Hid (∀ x, (Value.slice na ks.length ncap).ownBlock = some x → ¬ (x = q.b ∨ q.own x)) := fun x hx e => by
    have h1 := hnv x hx
    rcases e with e | e
    · omega
    · have := (HT.out.lt e).2; omega
  have HQO : Hid (∀ x, q.own x → x < w1.heap.size) := fun x hx => Nat.lt_of_lt_of_le (HT.out.lt hx).2 hz01
  have HI0 : Hid (RelI w w1 w1 B N q q s t ks 0 (.slice none 0 0)) :=
    ⟨by rw [List.take_zero, relSQ_none]; exact HT.out.mod hm1 id (fun _ _ => id), rfl, rfl, rfl, rfl, Nat.le_refl _, by rw [List.take_zero]; exact World.ownsRow_nil _ _ _ _, Mod.refl _ _, fun x hx => .inl hx⟩
  have HGL : Hid (∀ i, i ≤ ks.length → (grantsN s t (ks.take i)).length ≤ 10000 * 390) := fun i hik => by
    have := grants_len s t 390 (ks.take i) (fun k hk => by
      have := HT.out.few k ((HNS.out.2 k).1 (List.mem_of_mem_take hk)).1
      omega)
    have h2 : (ks.take i).length ≤ 10000 := by rw [List.length_take]; omega
    exact Nat.le_trans this (Nat.mul_le_mul_right _ h2)
  have hqb1 : q.b < w1.heap.size := by omega
  clear hks hns hnv hm1 HOF
  go_wp2_with fail
  go_loopw [5, 15] (fun g0 i0 wr => ∃ (i : Nat) (q' : TbM), i ≤ ks.length ∧ i0 = .int .i64 i ∧ RelI w w1 wr B N q q' s t ks i g0) (fun _ i0 _ => ks.length - (intOf i0).toNat)
  case atStart => exact ⟨0, q, Nat.zero_le _, rfl, HI0.out⟩
  case round =>
    obtain ⟨i, q', hik, rfl, hI⟩ := hrel
    clear HI0
    obtain ⟨wo, hwo⟩ : ∃ x, x = wr := ⟨_, rfl⟩
    subst hwo
    by_cases hlt : i < ks.length
    · obtain ⟨name, hname⟩ : ∃ k, ks[i]? = some k := ⟨_, List.getElem?_eq_getElem hlt⟩
      have hin := (HNS.out.2 name).1 (List.mem_of_getElem? hname)
      have hok := hin.1
      have hsn : relSQ s t (ks.take i) name = s name := by
        refine relSQ_at (fun hm => ?_)
        obtain ⟨j, hj⟩ := List.getElem?_of_mem hm
        rw [List.getElem?_take] at hj
        split at hj
        · rename_i hlt2
          obtain ⟨a1, a2⟩ := List.getElem?_eq_some_iff.1 hj
          obtain ⟨b1, b2⟩ := List.getElem?_eq_some_iff.1 hname
          have := List.pairwise_iff_getElem.1 HNS.out.1 j i a1 b1 hlt2
          rw [a2, b2] at this
          exact ltQ_irrefl _ this
        · cases hj
      obtain ⟨nb, noff, rfl, _, n0⟩ := (HKS.out.mod hI.md HNB.out).at hname
      have c0 := hI.tb.cell
      rw [hI.b, hI.pre] at c0
      have z0 := hI.tb.blk.lt
      rw [hI.b] at z0
      have hlook := hI.tb.look hok
      obtain ⟨ha, hcap, hhv⟩ := own_slice (hI.tb.rows name true hok id)
      obtain ⟨wa, wcap, hwv⟩ := own_slice (hI.tb.rows name false hok id)
      obtain ⟨ga, gcap, hgv⟩ := own_slice hI.gr
      subst hgv
      have hfew := hI.tb.few name hok
      rw [hsn] at hhv hwv hfew
      have e1 : (s name).list true = (s name).held := rfl
      have e2 : (s name).list false = (s name).waits := rfl
      rw [e1] at hhv
      rw [e2] at hwv
      obtain ⟨w3, hw3⟩ : ∃ x, x = wo.alloc (.cells #[q'.hd name true, q'.hd name false] 59) := ⟨_, rfl⟩
      have hm3 : Mod noBlock wo w3 := by rw [hw3]; exact (Mod.refl _ wo).alloc _
      have hb3 : Blk w3 wo.heap.size [q'.hd name true, q'.hd name false] 59 := by rw [hw3]; exact Blk.new wo [q'.hd name true, q'.hd name false] 59
      have hky : KyP w3 B wo.heap.size (q'.hd name true) (q'.hd name false) (s name).held (s name).waits := by
        have hr1 := (hI.tb.rows name true hok id).mod hm3 (fun _ _ => id)
        have hr2 := (hI.tb.rows name false hok id).mod hm3 (fun _ _ => id)
        rw [hsn] at hr1 hr2
        exact ⟨hb3, hr1, hr2, fun x h1 h2 => by have := (hI.tb.apart name name true false x hok hok h1 h2).2; cases this⟩
      have HLV := Hid.mkq (leave_any B wo.heap.size _ _ _ _ t w3 hky (by omega) (by omega))
      have hKO := hI.tb.ok name hok
      rw [hsn] at hKO
      have HI := Hid.mkq hI
      have HNAME := Hid.mkq hname
      have HSN := Hid.mkq hsn
      have HM3 := Hid.mkq hm3
      have HKO := Hid.mkq hKO
      have HBZ : Hid (wo.heap.size < w3.heap.size) := hb3.lt
      have hzr := hI.md.size
      have hltI : (i : Int) < (ks.length : Int) := by omega
      have hlt0 : (0 : Int) ≤ (i : Int) := by omega
      rw [hhv, hwv] at hlook hw3
      have HHV := Hid.mkq hhv
      have HWV := Hid.mkq hwv
      clear hI hname hsn hm3 hb3 hky hhv hwv e1 e2 hKO hin
      go_upto_region 6 with fail
      rw [← hw3]
      clear hw3 hlook c0 n0
      go_wp2_with fail
      refine HLV.out.mono ?_
      rintro e w4 ⟨rfl, hv4, wv4, hk4, ho1, ho2, hm4⟩
      have hle1 := len_leave (s name).held t
      have hle2 := len_leave (s name).waits t
      have HPA := Hid.mkq (pass_any B wo.heap.size hv4 wv4 _ _ w4 hk4 (elder_leave HKO.out.held t) (by omega) (by omega) (by have := hm4.size; have := HM3.out.size; omega))
      have HK4 := Hid.mkq hk4
      have HO1 := Hid.mkq ho1
      have HO2 := Hid.mkq ho2
      have HM4 := Hid.mkq hm4
      clear hk4 ho1 ho2 hm4 HLV
      go_upto_region 7 with fail
      go_wp2_with (first
        | (go_at_call 28; refine HPA.out.mono ?_; rintro e w6 ⟨got, hv6, wv6, rfl, hP⟩; obtain ⟨gta, gtcap, hgt⟩ := own_slice (show RowK w6 B got (gotN (s name) t) from hP.got); subst hgt)
        | go_in)
      have hR := round_of HI.out.tb hok HM3.out HBZ.out (by rw [HSN.out]; exact HK4.out) HO1.out HO2.out HM4.out (by rw [HSN.out]; exact hP)
      rw [HSN.out] at hR
      obtain ⟨v, hv⟩ : ∃ v : Bool → Value, v = fun i => if i then hv6 else wv6 := ⟨_, rfl⟩
      rw [← hv] at hR
      have hvt : v true = hv6 := by rw [hv]; rfl
      have hvf : v false = wv6 := by rw [hv]; rfl
      have HR := Hid.mkq hR
      have hgl := got_len (s name) t
      have hGL := HGL.out i hik
      have hgtab := fun x hx => grant_tab HI.out.gr HI.out.tb (by rw [HI.out.ty]; exact hty) (x := x) hx
      have HGT := Hid.mkq hgtab
      have HGB : Hid (∀ x, (Value.slice ga (grantsN s t (ks.take i)).length gcap).ownBlock = some x → w1.heap.size ≤ x ∧ x < wo.heap.size) := fun x hx => ⟨(own_cellsVQ HI.out.gr hx).1, (own_cellsVQ HI.out.gr hx).2.1⟩
      have hg6 : RowG w6 w1.heap.size (.slice ga (grantsN s t (ks.take i)).length gcap) (grantsN s t (ks.take i)) := HI.out.gr.mod hR.md (fun x hx e => by
        rcases e with ⟨j, e⟩ | e
        · exact (hgtab x hx).2 (.inr ⟨name, j, hok, e⟩)
        · have := (HGB.out x hx).2; omega)
      have HG6 := Hid.mkq hg6
      have HVT := Hid.mkq hvt
      have HVF := Hid.mkq hvf
      have HNG : Hid (∀ x, (Value.slice ga (grantsN s t (ks.take i)).length gcap).ownBlock = some x → (Value.slice gta (gotN (s name) t).length gtcap).ownBlock ≠ some x) := fun x hx => grant_row hg6 hR.got hx
      have hzr6 := hR.md.size
      have HLH : Hid (IsHdrQ hv6 ∧ IsHdrQ wv6) := ⟨own_hdrQ (by rw [← hvt]; exact hR.kept.row true), own_hdrQ (by rw [← hvf]; exact hR.kept.row false)⟩
      generalize hGN : (grantsN s t (ks.take i)).length = gn at hGL HGB HG6 HNG HGT HI
      have HGN := Hid.mkq hGN
      clear hP hR hgtab hg6 hv hvt hvf HPA HK4 HO1 HO2 HM4 hGN
      go_loopw [5, 29] (fun g1 j0 wq => ∃ j : Nat, j ≤ (gotN (s name) t).length ∧ j0 = .int .i64 j ∧ RowG wq w1.heap.size g1 (grantsN s t (ks.take i) ++ ((gotN (s name) t).take j).map (grOf name)) ∧ (g1.ownBlock = (Value.slice ga gn gcap).ownBlock ∨ ∀ x, g1.ownBlock = some x → w6.heap.size ≤ x) ∧ Mod (fun x => (Value.slice ga gn gcap).ownBlock = some x) w6 wq) (fun _ j0 _ => (gotN (s name) t).length - (intOf j0).toNat)
      case atStart => exact ⟨0, Nat.zero_le _, rfl, by simpa using HG6.out, .inl rfl, Mod.refl _ _⟩
      case round =>
        obtain ⟨j, hjl, rfl, hrow, hloc, hmq⟩ := hrel
        have HLOC := Hid.mkq hloc
        clear hloc
        obtain ⟨g1a, g1cap, hg1⟩ := own_slice hrow
        subst hg1
        have HROW := Hid.mkq hrow
        have HMQ := Hid.mkq hmq
        have hz6q := hmq.size
        clear hrow hmq HG6
        by_cases hjlt : j < (gotN (s name) t).length
        · obtain ⟨c, hc⟩ : ∃ c, (gotN (s name) t)[j]? = some c := ⟨_, List.getElem?_eq_getElem hjlt⟩
          obtain ⟨tb, toff, rfl, _, q0, q1⟩ := ((HR.out.got.mod HMQ.out (fun x hx e => HNG.out x e hx)).toV (Nat.le_refl _)).at hc
          obtain ⟨w8, hw8⟩ : ∃ x, x = wr.alloc (.cells #[.int .i64 c.tx, .int .i64 c.mode] 61) := ⟨_, rfl⟩
          have hm8 : Mod noBlock wr w8 := by rw [hw8]; exact (Mod.refl _ wr).alloc _
          have hb8 : Blk w8 wr.heap.size (clmCells c) 61 := by rw [hw8]; exact Blk.new wr (clmCells c) 61
          have y0 := hb8.cell 0 rfl
          have y1 := hb8.cell 1 rfl
          have hz8 := hb8.lt
          have HROW8 := Hid.mkq (HROW.out.mod hm8 (fun _ _ => id))
          have hmt := map_take_snoc (grOf name) hc
          have HMT := Hid.mkq hmt
          have hln : (grantsN s t (ks.take i) ++ ((gotN (s name) t).take j).map (grOf name)).length = gn + j := by rw [List.length_append, HGN.out, List.length_map, List.length_take]; omega
          rw [hln] at HROW8 ⊢
          have HROW9 : Hid (w8.ownsRow w1.heap.size 47 3 (.slice g1a (gn + j) g1cap) (gn + j) (grsCells (grantsN s t (ks.take i) ++ ((gotN (s name) t).take j).map (grOf name)))) := by
            have h9 := HROW8.out
            unfold RowG at h9
            rw [hln] at h9
            exact h9
          have HLN := Hid.mkq hln
          have hk63 : gn + j + 1 ≤ maxLen := by unfold maxLen; omega
          have hk47 : (gn + j + 1) * 32 ≤ 140737488355328 := by omega
          have hbz : w1.heap.size ≤ w8.heap.size := by have := hm8.size; omega
          have HM8 := Hid.mkq hm8
          have hjI : (j : Int) < ((gotN (s name) t).length : Int) := by omega
          have hj0 : (0 : Int) ≤ (j : Int) := by omega
          clear hc hm8 hb8 hmt hln HROW8
          go_upto_region 10 with fail
          rw [← hw8]
          clear hw8 q0 q1
          go_wp2_with (first
            | (at_builtin; refine wpList_append_own_at _ rfl (.tmp 33) (.tmp 40) 45 rfl w1.heap.size 47 i0 _ 3 32 Tryz.underlying45 hi hz0 hz1 hz2 rfl (by omega) _ _ _ rfl (HROW9.out.alloc _) ⟨w8.heap.size, 0, none⟩ 1 1 (grCells (grOf name c)) rfl rfl (World.news_of_block (heap_alloc_new w8 _)) (grsCells_one _) hk63 hk47 (by simp; omega) ?_)
            | fail)
          intro v9 w9 hown9 hgrow9 _ hat9
          have hm9 : Mod (fun x => (Value.slice g1a (gn + j) g1cap).ownBlock = some x) w8 w9 := ((Mod.refl _ w8).alloc _).grown hgrow9 (fun x hx _ => hx)
          have hm69 : Mod (fun x => (Value.slice ga gn gcap).ownBlock = some x) w6 w9 := (HMQ.out.trans (HM8.out.mono (fun _ _ e => e.elim))).trans' hm9 (fun x hx e => by
            have e' : (Value.slice g1a (grantsN s t (ks.take i) ++ ((gotN (s name) t).take j).map (grOf name)).length g1cap).ownBlock = some x := by rw [HLN.out]; exact e
            rcases HLOC.out with h9 | h9
            · rw [← h9]; exact e'
            · have := h9 x e'; omega)
          have hloc9 : v9.ownBlock = (Value.slice ga gn gcap).ownBlock ∨ ∀ x, v9.ownBlock = some x → w6.heap.size ≤ x := by
            rcases hat9 with e | e
            · rcases HLOC.out with h9 | h9
              · left; rw [e, ← h9, HLN.out]
              · right; intro x hx; exact h9 x (by rw [HLN.out, ← e]; exact hx)
            · right; intro x hx; rw [e] at hx; simp at hx; have := HM8.out.size; omega
          obtain ⟨a9, cap9, hv9⟩ := own_slice hown9
          subst hv9
          have HM69 := Hid.mkq hm69
          have HL9 := Hid.mkq hloc9
          have HW9 : Hid (RowG w9 w1.heap.size (.slice a9 (gn + j + 1) cap9) (grantsN s t (ks.take i) ++ ((gotN (s name) t).take (j + 1)).map (grOf name))) := by
            rw [HMT.out, Hid]
            unfold RowG
            rw [← List.append_assoc, grsCells_app (grantsN s t (ks.take i) ++ ((gotN (s name) t).take j).map (grOf name)), List.length_append, HLN.out]
            have : grsCells [grOf name c] = grCells (grOf name c) := by simp [grsCells]
            rw [this, List.map_take]
            exact hown9
          clear hown9 hgrow9 hat9 hm9 hm69 hloc9
          go_wp2_with fail
          go_roundw
          case rel => exact ⟨j + 1, by omega, by go_num, HW9.out, HL9.out, HM69.out⟩
          case measure => simp [intOf]; omega
        · obtain rfl : j = (gotN (s name) t).length := by omega
          have hrow2 := HROW.out
          rw [List.take_length] at hrow2
          have hgx : ∀ x, (Value.slice ga gn gcap).ownBlock = some x → x < wo.heap.size ∧ ¬ q'.own x ∧ x ≠ q'.b := fun x hx => ⟨(HGB.out x hx).2, (HGT.out x hx).2, (HGT.out x hx).1⟩
          have hvx : ∀ (l : Bool) x, (v l).ownBlock = some x → ¬ (Value.slice ga gn gcap).ownBlock = some x := fun l x hx e => by
            rcases HR.out.vo l x hx with e2 | e2
            · exact (hgx x e).2.1 e2
            · have := (hgx x e).1; omega
          have hTq : TbX wr B N q' (relSQ s t (ks.take i)) (· = name) := HR.out.tx.turn HMQ.out (fun e => (hgx _ e).2.2 rfl) (fun x hx e => (hgx x e).2.1 (.inl hx)) (fun k l x hk _ hx e => (hgx x e).2.1 (.inr ⟨k, l, hk, hx⟩))
          have hKq : KeptQ wr B q' name v (outN (s name) t) := ⟨fun l => (HR.out.kept.row l).mod HMQ.out (fun x hx e => hvx l x hx e), HR.out.kept.ne, HR.out.kept.out⟩
          have hbq : Blk wr wo.heap.size [v true, v false] 59 := HR.out.blk.mod HMQ.out (fun e => by have := (hgx _ e).1; omega)
          have hke := keep_any B N N q' (relSQ s t (ks.take i)) name v (outN (s name) t) wr hTq hok hKq (out_ok HKO.out t) (Nat.le_trans (out_len (s name) t) hfew) (Nat.le_refl _) (by have := HI.out.n; omega) (by omega)
          rw [HI.out.b, HI.out.pre, HVT.out, HVF.out] at hke
          have HKE := Hid.mkq hke
          have HTQ := Hid.mkq hTq
          have HRW := Hid.mkq hrow2
          have k0 := hbq.cell 0 rfl
          have k1 := hbq.cell 1 rfl
          rw [HVT.out] at k0
          rw [HVF.out] at k1
          have hzk := hbq.lt
          have hHH := HLH.out
          have HLN : Hid ((grantsN s t (ks.take i) ++ ((gotN (s name) t).take (gotN (s name) t).length).map (grOf name)).length = gn + (gotN (s name) t).length) := by rw [Hid, List.length_append, HGN.out, List.length_map, List.length_take]; omega
          rw [HLN.out]
          have HLN2 : Hid ((grantsN s t (ks.take i) ++ (gotN (s name) t).map (grOf name)).length = gn + (gotN (s name) t).length) := by rw [Hid, List.length_append, HGN.out, List.length_map]
          obtain ⟨h6a, h6n, h6c, hh6⟩ : ∃ a n c, hv6 = .slice a n c := by rcases hHH.1 with e | ⟨a, n, c, e⟩ <;> exact ⟨_, _, _, e⟩
          obtain ⟨w6a, w6n, w6c, hw6⟩ : ∃ a n c, wv6 = .slice a n c := by rcases hHH.2 with e | ⟨a, n, c, e⟩ <;> exact ⟨_, _, _, e⟩
          rw [hh6] at k0 HKE
          rw [hw6] at k1 HKE
          clear hrow2 hgx hvx hTq hKq hbq hke hHH hh6 hw6
          go_upto_region 12 with fail
          go_wp2_with (first
            | (go_at_call 22; refine HKE.out.mono ?_; rintro e w7 ⟨rfl, q2, hQ⟩; have HFIN := Hid.mkq (RelI.next HI.out hty HNAME.out HNS.out HQO.out hqb1 HR.out HMQ.out HRW.out hQ HTQ.out); clear hQ)
            | go_in)
          go_roundw
          case rel => exact ⟨i + 1, q2, by omega, by go_num, by have h9 := HFIN.out; first | (rw [HLN2.out] at h9; exact h9) | (rw [HLN.out] at h9; exact h9)⟩
          case measure => simp [intOf]; omega
    · obtain rfl : i = ks.length := by omega
      obtain ⟨ga, gcap, hgv⟩ := own_slice hI.gr
      subst hgv
      have HFIN : Hid (RelQ w wo B N q q' s t (.slice ga (grantsN s t (ks.take ks.length)).length gcap) ks) := by
        have htb := hI.tb
        have hgr := hI.gr
        rw [List.take_length] at htb hgr ⊢
        exact ⟨HNS.out, htb.congr (fun k hk => relSQ_all HNS.out k hk), hI.b, hI.pre, hI.post, hI.ty, hI.n, own_base hgr hz01, (HM1.out.mono (fun _ _ e => e.elim)).trans hI.md, fun x hx => (hI.own x hx).imp id (fun e => Nat.le_trans hz01 e)⟩
      clear hI
      go_wp2_with fail
      go_ret
      exact ⟨_, q', ks, rfl, HFIN.out⟩
end Go.Proofs.YtkoncehhpiegfaaGreatDoor
