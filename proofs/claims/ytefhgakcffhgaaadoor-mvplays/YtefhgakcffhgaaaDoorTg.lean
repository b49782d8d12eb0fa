/- The law MvPlays: the document's At, the walk. -/
import Derived.Test.YtefhgakcffhgaaaDoorTf
namespace Go.Proofs.YtefhgakcffhgaaaDoor
open Go.RowKit Go.Lib Go.Maps
set_option linter.unusedVariables false

theorem KeysV.mod' {G : Nat → Prop} {w w' : World} {L : Nat} {v : Value} {ks : List ByteArray} (h : KeysV w L v ks) (hm : Mod G w w') (hG : ∀ b, v.ownBlock = some b → ¬ G b) : KeysV w' L v ks := by
  obtain ⟨a, cap, rfl, h1, h2, h3⟩ := h
  refine ⟨a, cap, rfl, h1, h2, ?_⟩
  rcases h3 with h3 | ⟨b, off, rfl, h4, h5⟩
  · exact .inl h3
  · refine .inr ⟨b, off, rfl, h4, fun i d hi => ?_⟩
    obtain ⟨cs, k1, k2, k3⟩ := h5 i d hi
    exact ⟨cs, k1, k2, fun j x hx => hm.cell (k3 j x hx) (hG b rfl)⟩
theorem KeysV.at {w : World} {L : Nat} {a : Option Addr} {n cap : Nat} {ks : List ByteArray} (h : KeysV w L (.slice a n cap) ks) {i : Nat} {k : ByteArray} (hi : ks[i]? = some k) : ∃ b off, a = some ⟨b, off, none⟩ ∧ w.cell? ⟨b, off + i, none⟩ = some (.string k) := by
  obtain ⟨b, off, cs, h1, h2, rfl, _, h5⟩ := SlR.at h hi
  exact ⟨b, off, h1, by have := h5 0 _ rfl; simpa using this⟩
set_option maxRecDepth 100000 in
set_option maxHeartbeats 16000000 in
theorem rat_yes (hsort : SortK) (r : RfM) (B : Nat) (all : List EntD) (s : Vers) (t : Int) (w : World) (h : RfP w B r all) (hrel : Rel s all) (hok : ∀ e ∈ all, okK e.key) (ht : r.low ≤ t) (hl : all.length ≤ 800) :
    Calls Tryd.prog 47 #[.pointer (some ⟨r.b, 0, none⟩), .int .i64 t] w fun e w' => ∃ v ps, e = .returned (.tuple #[v, .int .i64 0]) ∧ PairsV w' w'.heap.size v ps ∧ ps.Pairwise ltP ∧ AllAt s t ps ∧ Mod noBlock w w' := by
  obtain ⟨i0, yi, yz0, yz1, yz2⟩ := info_parts Tryd.infoPr
  obtain ⟨j0, xi, xz0, xz1, xz2⟩ := info_parts Tryd.infoS
  have HSORT := Hid.mk'' hsort
  have HREL := Hid.mk'' hrel
  have HOKE := Hid.mk'' hok
  obtain ⟨w1, hw1⟩ : ∃ x, x = w.alloc (.map #[] 0) := ⟨_, rfl⟩
  obtain ⟨gs, hgs⟩ : ∃ x, x = w.heap.size := ⟨_, rfl⟩
  have hM1 : Mod noBlock w w1 := by rw [hw1]; exact (Mod.refl _ w).alloc _
  have hz1 : w1.heap.size = gs + 1 := by rw [hw1, hgs]; simp
  have hR1 := h.mod hM1 (fun _ _ => id)
  have hrg : ∀ x, r.own x → x < gs := fun x hx => by rw [hgs]; exact (h.lt hx).2
  have HK0 : Hid (KeysL w1 w1 gs 0 all (.slice none 0 0) []) := ⟨Nat.zero_le _, World.ownsRow_nil _ _ _ _, by simp, fun k => by simp, Nat.le_refl _, by rw [hw1, hgs]; exact SeenK.new w, Mod.refl _ _⟩
  obtain ⟨ra, rcap, hrv, hrc1, hrc2⟩ := h.sl
  have c1 := h.blk.cell 1 rfl
  have c0 := hR1.blk.cell 0 rfl
  rw [hrv] at c0
  have z0 := h.blk.lt
  have z1 := hR1.blk.lt
  have HRV := Hid.mk'' hrv
  have HR1 := Hid.mk'' hR1
  have HM1 := Hid.mk'' hM1
  have HRG := Hid.mk'' hrg
  have hrbg : r.b < gs := hrg _ (.inl rfl)
  have hmm := run_makeMapK
  unfold maxLen at hrc2
  have d5 : decide (t < r.low) = false := decide_eq_false (by omega)
  clear h hrv hrel hok hsort hR1 hM1 hrg
  go_enter Tryd.func47, Tryd.ntmps47
  go_upto_region 4 with fail
  rw [← hgs, ← hw1]
  have HGS := Hid.mk'' hgs
  have HZ1 := Hid.mk'' hz1
  clear hw1 hmm c1 hgs hz1 z0
  go_wp2_with fail
  go_loopw [7, 28] (fun v i0 wr => ∃ (i : Nat) (ks : List ByteArray), i0 = .int .i64 i ∧ KeysL w1 wr gs i all v ks) (fun _ i0 _ => all.length - (intOf i0).toNat)
  case atStart => exact ⟨0, [], rfl, HK0.out⟩
  case round =>
    obtain ⟨i, ks, rfl, hL⟩ := hrel
    clear HK0
    obtain ⟨wk, hwk⟩ : ∃ q, q = wr := ⟨_, rfl⟩
    subst hwk
    have HL := Hid.mk'' hL
    obtain ⟨la, lcap, hlv⟩ := own_slice hL.row
    subst hlv
    have hlen := hL.len
    have hle := hL.le
    by_cases hlt : i < all.length
    · have hltI : (i : Int) < (all.length : Int) := by omega
      have hlt0 : (0 : Int) ≤ (i : Int) := by omega
      obtain ⟨x, hx⟩ : ∃ x, all[i]? = some x := ⟨_, List.getElem?_eq_getElem hlt⟩
      have hxo : okK x.key := HOKE.out x (List.mem_of_getElem? hx)
      obtain ⟨g, cap', hrv', q0, q1, q2, q3⟩ := (HR1.out.mod hL.mod (fun y hy e => by simp only [oneBlock] at e; have := HRG.out y hy; omega)).at hx
      rw [HRV.out] at hrv'
      simp only [Value.slice.injEq] at hrv'
      obtain ⟨rfl, _, rfl⟩ := hrv'
      have zg := World.block_lt_of_cell? _ _ q0
      have HX := Hid.mk'' hx
      obtain ⟨xk, xv, xg, xt⟩ := x
      dsimp only at q0 q1 q2 q3 hxo
      obtain ⟨wb, hwb⟩ : ∃ q, q = wk.alloc (.cells #[.string xk, .string xv, .bool xg, .int .i64 xt] 172) := ⟨_, rfl⟩
      obtain ⟨vb, hvb⟩ : ∃ q, q = wk.heap.size := ⟨_, rfl⟩
      have hBV : Blk wb vb [.string xk, .string xv, .bool xg, .int .i64 xt] 172 := by rw [hwb, hvb]; exact Blk.new wk [.string xk, .string xv, .bool xg, .int .i64 xt] 172
      have hmb : Mod noBlock wk wb := by rw [hwb]; exact (Mod.refl _ wk).alloc _
      have hSn := hL.seen.mod hmb id
      obtain ⟨bs, hlook, hbs⟩ := hSn.look xk hxo
      obtain ⟨w3, hrun3, hS3, hm3⟩ := hSn.put xk hxo (by omega)
      have hvbg : vb ≠ gs := by have h1 := hL.mod.size; have h2 := HZ1.out; omega
      have b0 := hBV.cell 0 rfl
      have bz := hBV.lt
      have b0' := hm3.cell b0 (by simp only [oneBlock]; exact hvbg)
      have bz' := Nat.lt_of_lt_of_le bz hm3.size
      have hm13 : Mod (oneBlock gs) w1 w3 := (hL.mod.trans' hmb (fun _ _ e => e.elim)).trans hm3
      have hrow3 : w3.ownsRow w1.heap.size 9 1 (.slice la ks.length lcap) ks.length (ks.map Value.string) := own_mod (own_mod hL.row hmb (fun _ _ _ _ => id)) hm3 (fun k hk _ _ e => by simp only [oneBlock] at e; have := HZ1.out; omega)
      have HROW3 := Hid.mk'' hrow3
      have HM13 := Hid.mk'' hm13
      have HS3 := Hid.mk'' hS3
      have HBS := Hid.mk'' hbs
      have HMB := Hid.mk'' hmb
      have hk63 : ks.length + 1 ≤ maxLen := by unfold maxLen; omega
      have hk47 : (ks.length + 1) * 16 ≤ 140737488355328 := by omega
      have HOE : Hid (∀ u ∈ [Value.string xk], u.oneCell' = true) := fun u hu => by simp at hu; rw [hu]; rfl
      have hz3 := hm13.size
      clear hL hx hBV hmb hSn hbs hS3 hm3 hm13 hrow3
      go_upto_region 8 with fail
      rw [← hvb, ← hwb]
      clear hwb hvb q0 q1 q2 q3 zg
      cases bs with
      | true =>
        go_wp2_with fail
        refine ⟨⟨i + 1, ks, by go_num, by omega, own_mod HL.out.row HMB.out (fun _ _ _ _ => id), HL.out.nodup, fun k => ?_, by omega, HL.out.seen.mod HMB.out id, HL.out.mod.trans' HMB.out (fun _ _ e => e.elim)⟩, by simp [intOf]; omega⟩
        rw [HL.out.mem, take_nextE HX.out, List.map_append, List.mem_append]
        constructor
        · exact fun h => .inl h
        · rintro (h | h)
          · exact h
          · simp at h
            rw [h, ← HL.out.mem]
            exact HBS.out.1 rfl
      | false =>
        have hnx : xk ∉ ks := fun q => by have := HBS.out.2 q; cases this
        have HNX := Hid.mk'' hnx
        clear hnx
        go_wp2_with (first
          | (at_builtin; refine wpList_append_own_at _ rfl (.tmp 40) (.tmp 43) 174 rfl w1.heap.size 9 j0 _ 1 16 Tryd.underlying174 xi xz0 xz1 xz2 rfl (by omega) _ _ _ rfl (HROW3.out.alloc _) ⟨w3.heap.size, 0, none⟩ 1 1 [.string xk] rfl rfl (World.news_of_block (heap_alloc_new w3 _)) HOE.out hk63 hk47 (by simp; omega) ?_)
          | fail)
        intro v7 w7 hown7 hgrow7 _ hat7
        have hm37 : Mod noBlock w3 w7 ∨ True := .inr trivial
        have hgr : Mod (fun b => (Value.slice la ks.length lcap).ownBlock = some b) w3 w7 := ((Mod.refl _ w3).alloc _).grown hgrow7 (fun y hy _ => hy)
        have HM7 : Hid (Mod (oneBlock gs) w1 w7) := HM13.out.trans' hgr (fun y hy e => by have := (own_cellsV HROW3.out e).1; omega)
        have HS7 := Hid.mk'' (HS3.out.mod hgr (fun e => by have h1 := (own_cellsV HROW3.out e).1; have h2 := HZ1.out; omega))
        obtain ⟨a7, cap7, hv7⟩ := own_slice hown7
        subst hv7
        have HW7 := Hid.mk'' hown7
        clear hown7 hgrow7 hat7 hgr
        go_wp2_with fail
        refine ⟨⟨i + 1, ks ++ [xk], by go_num, by omega, by rw [List.length_append, List.map_append]; exact HW7.out, ?_, fun k => ?_, by rw [List.length_append]; simp; omega, by rw [List.length_append]; exact HS7.out, HM7.out⟩, by simp [intOf]; omega⟩
        · rw [List.nodup_append]
          refine ⟨HL.out.nodup, by simp, fun a ha b hb e => ?_⟩
          simp at hb
          subst hb
          subst e
          exact HNX.out ha
        · rw [List.mem_append, HL.out.mem, take_nextE HX.out, List.map_append, List.mem_append]
          simp
    · obtain rfl : i = all.length := by omega
      have HSK := Hid.mk'' (HSORT.out w1.heap.size _ ks wk hL.row hL.nodup (by omega))
      have HRB : Hid (∀ b, (Value.slice la ks.length lcap).ownBlock = some b → w1.heap.size ≤ b) := fun b hb => (own_cellsV hL.row hb).1
      have hmem : ∀ k, k ∈ ks ↔ k ∈ all.map (·.key) := fun k => by have := hL.mem k; rw [List.take_of_length_le (Nat.le_refl _)] at this; exact this
      have HMEM := Hid.mk'' hmem
      clear hL hmem
      go_wp2_with fail
      refine HSK.out.mono ?_
      rintro e w5 ⟨rfl, ks', hkv, hperm, hrise, hm5⟩
      have hlk : ks'.length = ks.length := hperm.length_eq
      have HKV := Hid.mk'' hkv
      have HPERM := Hid.mk'' hperm
      have HRISE := Hid.mk'' hrise
      have hm5b : Mod (oneBlock gs) w1 w5 := HL.out.mod.trans' hm5 (fun y hy e => by have := HRB.out y e; omega)
      have HM5 : Hid (Mod noBlock w w5) := HM1.out.trans' hm5b (fun y hy e => by simp only [oneBlock] at e; have := HGS.out; omega)
      have HR5 : Hid (RfP w5 B r all) := HR1.out.mod hm5b (fun y hy e => by simp only [oneBlock] at e; have := HRG.out y hy; omega)
      have HP0 : Hid (PairsL w5 w5 0 ks' s t (.slice none 0 0) []) := ⟨Nat.zero_le _, World.ownsRow_nil _ _ _ _, List.Pairwise.nil, fun k u => by simp, Nat.le_refl _, Mod.refl _ _⟩
      have hkeq : ∃ cap', (Value.slice la ks.length lcap) = .slice la ks'.length cap' := ⟨lcap, by rw [hlk]⟩
      rw [← hlk] at HKV
      clear hkv hperm hrise hm5 hm5b HSK HRB hkeq
      rw [← hlk]
      go_wp2_with fail
      go_loopw [10, 50] (fun v m0 wr => ∃ (m : Nat) (ps : List PairD), m0 = .int .i64 m ∧ PairsL w5 wr m ks' s t v ps) (fun _ m0 _ => ks'.length - (intOf m0).toNat)
      case atStart => exact ⟨0, [], rfl, HP0.out⟩
      case round =>
        obtain ⟨m, ps, rfl, hP⟩ := hrel
        clear HP0
        obtain ⟨wj, hwj⟩ : ∃ q, q = wr := ⟨_, rfl⟩
        subst hwj
        have HP := Hid.mk'' hP
        obtain ⟨pa, pcap, hpv⟩ := own_slice hP.row
        subst hpv
        have hpl := hP.len
        have hple := hP.le
        by_cases hml : m < ks'.length
        · have hmI : (m : Int) < (ks'.length : Int) := by omega
          have hm0 : (0 : Int) ≤ (m : Int) := by omega
          obtain ⟨k, hk⟩ : ∃ k, ks'[m]? = some k := ⟨_, List.getElem?_eq_getElem hml⟩
          obtain ⟨kb, koff, rfl, kc⟩ := (HKV.out.mod' hP.mod (fun _ _ => id)).at hk
          have HG := Hid.mk'' (rget_yes r B all s k t wj (HR5.out.mod hP.mod (fun _ _ => id)) HREL.out ht hl)
          have HKK := Hid.mk'' hk
          have hk63 : ps.length + 1 ≤ maxLen := by unfold maxLen; omega
          have hk47 : (ps.length + 1) * 40 ≤ 140737488355328 := by omega
          clear hP hk
          generalize hto : toldO (s k) t = to1 at HG
          have HTT := Hid.mk'' hto
          clear hto
          cases to1 with
          | none =>
            go_wp2_with fail
            refine HG.out.mono ?_
            rintro e w6 ⟨rfl, hm6⟩
            have HN := Hid.mk'' (HP.out.skip HKK.out HTT.out (own_mod HP.out.row hm6 (fun _ _ _ _ => id)) (HP.out.mod.trans hm6))
            clear hm6
            go_wp2_with fail
            exact ⟨⟨m + 1, ps, by go_num, HN.out⟩, by simp [intOf]; omega⟩
          | some val =>
            have HOE : Hid (∀ u ∈ [Value.string k, .string val, .bool false], u.oneCell' = true) := fun u hu => by simp at hu; rcases hu with rfl | rfl | rfl <;> rfl
            go_wp2_with fail
            refine HG.out.mono ?_
            rintro e w6 ⟨rfl, hm6⟩
            have HROW6 := Hid.mk'' (own_mod HP.out.row hm6 (fun _ _ _ _ => id))
            have HM6 := Hid.mk'' (HP.out.mod.trans hm6)
            have hz6 := (HP.out.mod.trans hm6).size
            clear hm6
            go_wp2_with (first
              | (at_builtin; refine wpList_append_own_at _ rfl (.tmp 63) (.tmp 67) 22 rfl w5.heap.size 84 i0 _ 3 40 Tryd.underlying22 yi yz0 yz1 yz2 rfl (by omega) _ _ _ rfl (HROW6.out.alloc _) ⟨w6.heap.size, 0, none⟩ 1 1 [.string k, .string val, .bool false] rfl rfl (World.news_of_block (heap_alloc_new w6 _)) HOE.out hk63 hk47 (by simp; omega) ?_)
              | fail)
            intro v7 w7 hown7 hgrow7 _ _
            have hm7 : Mod noBlock w5 w7 := (HM6.out.alloc _).grown hgrow7 (fun y hy hlt => by have := (own_cellsV HROW6.out hy).1; omega)
            have HN := Hid.mk'' (HP.out.take_ HKK.out HTT.out HRISE.out hown7 hm7)
            obtain ⟨a7, cap7, hv7⟩ := own_slice hown7
            subst hv7
            clear hown7 hgrow7 hm7
            go_wp2_with fail
            exact ⟨⟨m + 1, _, by go_num, HN.out⟩, by simp [intOf]; omega⟩
        · obtain rfl : m = ks'.length := by omega
          have HFIN : Hid (PairsV wj wj.heap.size (.slice pa ps.length pcap) ps ∧ ps.Pairwise ltP ∧ AllAt s t ps ∧ Mod noBlock w wj) := by
            refine ⟨?_, hP.rise, fun k u => ?_, HM5.out.trans hP.mod⟩
            · rcases hP.row.2 with ⟨e, h0⟩ | ⟨g, cap, cur, e, q1, q2, q3, q4, q5, q6⟩
              · have : ps = [] := List.eq_nil_of_length_eq_zero h0
                subst this
                rw [e]
                exact SlR.nil _ _ _ _
              · have hc := hP.row
                rw [e] at hc ⊢
                have hcl := hc.cells (g := g) rfl
                have hgl : g < wj.heap.size := (Array.getElem?_eq_some_iff.1 q2).1
                refine ⟨_, cap, rfl, q3, q4, .inr ⟨g, 0, rfl, hgl, fun i p hi => ⟨pairC p, rfl, rfl, fun j x hx => ?_⟩⟩⟩
                have := hcl _ _ (pairsC_cell ps i p hi j x hx)
                rw [Go.WideShapes.add_plain, Nat.zero_add] at this
                rw [Nat.zero_add]
                exact this
            · rw [hP.mem, List.take_of_length_le (Nat.le_refl _), HPERM.out.mem_iff, HMEM.out]
              constructor
              · rintro ⟨h1, h2⟩
                obtain ⟨e, he, rfl⟩ := List.mem_map.1 h1
                exact ⟨HOKE.out e he, h2⟩
              · rintro ⟨h1, h2⟩
                obtain ⟨e, he, q⟩ := HREL.out.keys (told_some h2)
                exact ⟨List.mem_map.2 ⟨e, he, q⟩, h2⟩
          clear hP
          go_wp2_with fail
          go_ret2
          exact ⟨_, ps, rfl, HFIN.out⟩
end Go.Proofs.YtefhgakcffhgaaaDoor
