/- The law's world is made: newWorld, walked. -/
import Derived.Test.YtefhgakcffhgaabXb
import Derived.Test.YtefhgakcffhgaabWf
namespace Go.Proofs.Ytefhgakcffhgaab
open Go.RowKit Go.Lib Go.Maps
set_option linter.unusedVariables false

theorem row5 {w : World} {L b : Nat} (h : Blk w b [.bool false, .bool false, .bool false, .bool false, .bool false] 4) (hL : L ≤ b) : w.ownsRow L 4 1 (.slice (some ⟨b, 0, none⟩) 5 5) 5 (bools fun _ => false) := by
  refine ⟨by simp [bools], .inr ⟨b, 5, #[.bool false, .bool false, .bool false, .bool false, .bool false], rfl, hL, h, Nat.le_refl _, by unfold maxLen; decide, rfl, ?_⟩⟩
  simp [bools, List.range, List.range.loop]
theorem made0 {w w3 : World} {g bd be : Nat} (hB : Blk w3 g [.slice none 0 0, .slice none 0 0, .int .i64 0, .map none, .slice (some ⟨bd, 0, none⟩) 5 5, .slice (some ⟨be, 0, none⟩) 5 5, .int .i64 0, .slice none 0 0, .slice none 0 0] 42)
    (hd : Blk w3 bd [.bool false, .bool false, .bool false, .bool false, .bool false] 4) (he : Blk w3 be [.bool false, .bool false, .bool false, .bool false, .bool false] 4) (hg : w.heap.size ≤ g) (h1 : w.heap.size ≤ bd) (h2 : w.heap.size ≤ be) (hne : bd ≠ be) :
    MakeP w3 w.heap.size g (.slice none 0 0) (.slice (some ⟨bd, 0, none⟩) 5 5) (.slice (some ⟨be, 0, none⟩) 5 5) (.slice none 0 0) (fun _ => 0) 0 0 :=
  ⟨hB, hg, World.ownsRow_nil _ _ _ _, fun i hi => by omega, fun i j hi => by omega, row5 hd h1, row5 he h2, fun x hx hy => by
    simp [Value.ownBlock] at hx hy; omega, World.ownsRow_nil _ _ _ _⟩
theorem intsK_succ (c : Nat) : intsK (c + 1) = intsK c ++ [(c : Int)] := by unfold intsK; rw [List.range_succ, List.map_append]; rfl

theorem made3 (w : World) (bd be : Nat) (hb : bd = w.heap.size ∧ be = w.heap.size + 1 ∨ bd = w.heap.size + 1 ∧ be = w.heap.size) :
    MakeP (((w.alloc (.cells #[.bool false, .bool false, .bool false, .bool false, .bool false] 4)).alloc (.cells #[.bool false, .bool false, .bool false, .bool false, .bool false] 4)).alloc (.cells #[.slice none 0 0, .slice none 0 0, .int .i64 0, .map none, .slice (some ⟨bd, 0, none⟩) 5 5, .slice (some ⟨be, 0, none⟩) 5 5, .int .i64 0, .slice none 0 0, .slice none 0 0] 42)).drew w.heap.size (w.heap.size + 1 + 1) (.slice none 0 0) (.slice (some ⟨bd, 0, none⟩) 5 5) (.slice (some ⟨be, 0, none⟩) 5 5) (.slice none 0 0) (fun _ => 0) 0 0 ∧ Mod noBlock w (((w.alloc (.cells #[.bool false, .bool false, .bool false, .bool false, .bool false] 4)).alloc (.cells #[.bool false, .bool false, .bool false, .bool false, .bool false] 4)).alloc (.cells #[.slice none 0 0, .slice none 0 0, .int .i64 0, .map none, .slice (some ⟨bd, 0, none⟩) 5 5, .slice (some ⟨be, 0, none⟩) 5 5, .int .i64 0, .slice none 0 0, .slice none 0 0] 42)).drew := by
  have hM := ((((Mod.refl noBlock w).alloc (.cells #[.bool false, .bool false, .bool false, .bool false, .bool false] 4)).alloc (.cells #[.bool false, .bool false, .bool false, .bool false, .bool false] 4)).alloc (.cells #[.slice none 0 0, .slice none 0 0, .int .i64 0, .map none, .slice (some ⟨bd, 0, none⟩) 5 5, .slice (some ⟨be, 0, none⟩) 5 5, .int .i64 0, .slice none 0 0, .slice none 0 0] 42)).drew
  have h1 := (((Blk.new w [.bool false, .bool false, .bool false, .bool false, .bool false] 4).mod ((Mod.refl noBlock _).alloc (.cells #[.bool false, .bool false, .bool false, .bool false, .bool false] 4)) id).mod ((Mod.refl noBlock _).alloc (.cells #[.slice none 0 0, .slice none 0 0, .int .i64 0, .map none, .slice (some ⟨bd, 0, none⟩) 5 5, .slice (some ⟨be, 0, none⟩) 5 5, .int .i64 0, .slice none 0 0, .slice none 0 0] 42)) id).mod ((Mod.refl noBlock _).drew) id
  have h2 := ((Blk.new (w.alloc (.cells #[.bool false, .bool false, .bool false, .bool false, .bool false] 4)) [.bool false, .bool false, .bool false, .bool false, .bool false] 4).mod ((Mod.refl noBlock _).alloc (.cells #[.slice none 0 0, .slice none 0 0, .int .i64 0, .map none, .slice (some ⟨bd, 0, none⟩) 5 5, .slice (some ⟨be, 0, none⟩) 5 5, .int .i64 0, .slice none 0 0, .slice none 0 0] 42)) id).mod ((Mod.refl noBlock _).drew) id
  have h3 := (Blk.new ((w.alloc (.cells #[.bool false, .bool false, .bool false, .bool false, .bool false] 4)).alloc (.cells #[.bool false, .bool false, .bool false, .bool false, .bool false] 4)) [.slice none 0 0, .slice none 0 0, .int .i64 0, .map none, .slice (some ⟨bd, 0, none⟩) 5 5, .slice (some ⟨be, 0, none⟩) 5 5, .int .i64 0, .slice none 0 0, .slice none 0 0] 42).mod ((Mod.refl noBlock _).drew) id
  simp only [World.size_alloc] at h2 h3
  refine ⟨?_, hM⟩
  rcases hb with ⟨rfl, rfl⟩ | ⟨rfl, rfl⟩
  · exact made0 h3 h1 h2 (by omega) (by omega) (by omega) (by omega)
  · exact made0 h3 h2 h1 (by omega) (by omega) (by omega) (by omega)
theorem make5 (w : World) : (Instr.makeSlice 39 (.int .i64 5) (.int .i64 5)).run Try.prog w = .ok (.slice (some ⟨w.heap.size, 0, none⟩) 5 5) (w.alloc (.cells #[.bool false, .bool false, .bool false, .bool false, .bool false] 4)) := by kernel_rfl
set_option maxRecDepth 100000 in
set_option maxHeartbeats 4000000 in
theorem newWorld_any (n : Nat) (w : World) (h1n : 1 ≤ n) (h4n : n ≤ 4) :
    Calls Try.prog 7 #[.int .i64 n] w fun e w' => ∃ g V W, e = .returned (.pointer (some ⟨g, 0, none⟩)) ∧ WorldP w' w.heap.size g V W ∧ Inv W 0 10 ∧ InvS W ∧ Mod noBlock w w' := by
  obtain ⟨j0, hj, jz0, jz1, jz2⟩ := info_parts Try.info3
  obtain ⟨i0, hi, hz0, hz1, hz2⟩ := info_parts Try.info44
  go_enter Try.func7, Try.ntmps7
  go_upto_region 1 with fail
  go_cut [3] (fun t wc => ∃ g dv ev, t = .pointer (some ⟨g, 0, none⟩) ∧ MakeP wc w.heap.size g (.slice none 0 0) dv ev (.slice none 0 0) (fun _ => 0) 0 0 ∧ Mod noBlock w wc)
  case first =>
    have hk1 := make5 w.drew
    have hk2 := make5 (w.alloc (.cells #[.bool false, .bool false, .bool false, .bool false, .bool false] 4)).drew
    go_region
    all_goals
      go_wp2_with fail
      go_meet
      case rel =>
        first
        | exact ⟨_, _, _, rfl, made3 w w.heap.size (w.heap.size + 1) (.inl ⟨rfl, rfl⟩)⟩
        | exact ⟨_, _, _, rfl, made3 w (w.heap.size + 1) w.heap.size (.inr ⟨rfl, rfl⟩)⟩
  case rest =>
    obtain ⟨g, dv, ev, rfl, hMk, hMod⟩ := hcut
    go_wp2_with fail
    go_loopw [4] (fun k0 wr => ∃ (k : Nat) (nodesv cv : Value) (b : Nat → Nat), k ≤ 5 ∧ k0 = .int .i64 k ∧ MakeP wr w.heap.size g nodesv dv ev cv b k (min k n) ∧ Mod noBlock w wr) (fun k0 _ => 5 - (intOf k0).toNat)
    case atStart => exact ⟨0, _, _, _, Nat.zero_le _, rfl, by rw [Nat.zero_min]; exact hMk, hMod⟩
    case round =>
      obtain ⟨k, nodesv, cv, b, hk, rfl, hP, hM⟩ := hrel
      clear hMk hMod
      obtain ⟨c, hc⟩ : ∃ c, c = min k n := ⟨_, rfl⟩
      rw [← hc] at hP
      obtain ⟨ca, ccap, hcv⟩ := own_slice hP.crow
      subst hcv
      by_cases hlt : k < 5
      · have hd : decide ((k : Int) < 5) = true := decide_eq_true (by omega)
        obtain ⟨na, nc, hnv⟩ := own_slice hP.nrow
        subst hnv
        have c0 := hP.blk.cell 0 rfl
        have f0 := hP.blk.frozen 0
        have zg := hP.blk.lt
        have hz := hM.size
        have HN : Hid (Calls Try.prog 30 #[.int .i64 k] wr.drew fun e w' => e = .returned (.pointer (some ⟨wr.heap.size, 0, none⟩)) ∧ NodeP w' wr.heap.size wr.heap.size (.slice none 0 0) (.slice none 0 0) ⟨k, 0, [], [], 0⟩ ∧ Mod noBlock wr.drew w') := cnew_any (k : Int) wr.drew ⟨by omega, by omega⟩
        have HROW := Hid.mk' hP.nrow
        have HKN := Hid.mk' hP.kinds
        have hk63 : k + 1 ≤ maxLen := by unfold maxLen; omega
        have hk47 : (k + 1) * 8 ≤ 140737488355328 := by omega
        have HP := Hid.mk' hP
        have hlow := hP.low
        clear hP
        have hgo : (Value.slice na k nc).ownBlock ≠ some g := fun e => kind_ne (HKN.out.2.2.1 g e) HKN.out.1 (by decide)
        go_upto_region 5 with fail
        go_region_law
          ((first
            | (go_simp; go_at_call 30; (refine HN.out.mono ?_; rintro e w5 ⟨rfl, hN5, hm5⟩; have hm35 : Mod noBlock wr w5 := (((Mod.refl noBlock wr).drew).trans hm5); have c5 := hm35.cell c0 id; have f5 := (hm35.frozen (p := ⟨g, 0, none⟩) zg id).trans f0; have z5 := hm35.size; have gz5 : g < w5.heap.size := Nat.lt_of_lt_of_le zg z5; have HR5 := Hid.mk' (own_mod HROW.out hm35 (fun _ _ _ _ => id))))
            | (refine step_append_lies _ (by rfl) _ _ _ (by rfl) w.heap.size 44 i0 _ 1 8 Try.underlying34 hi hz0 hz1 hz2 rfl (by omega) _ _ _ (by rfl) (HR5.out.alloc _) ⟨w5.heap.size, 0, none⟩ 1 1 [.pointer (some ⟨wr.heap.size, 0, none⟩)] (by rfl) (by rfl) (World.news_of_block (heap_alloc_new w5 _)) (by simp [Value.oneCell']) (by omega) hk63 hk47 (by simp; omega) _ rfl ?_; intro g6 cap6 w6 hown6 hgrow hat hlt6; have hm56 : Mod (fun x => (Value.slice na k nc).ownBlock = some x) w5 w6 := ((Mod.refl _ w5).alloc _).grown hgrow (fun x hx _ => hx); have c6 := hm56.cell c5 hgo; have f6 := (hm56.frozen (p := ⟨g, 0, none⟩) gz5 hgo).trans f5; have gz6 : g < w6.heap.size := Nat.lt_of_lt_of_le gz5 hm56.size)
            | fail))
        all_goals
          have R := HP.out.node1 hm35 hN5.blk (Nat.le_refl _) hm56 hown6
          have hM6 : Mod noBlock w (w6.setCell ⟨g, 0, none⟩ (.slice (some ⟨g6, 0, none⟩) (k + 1) cap6)) := newer_none (Mod.put (((hM.trans hm35).trans' hm56 (fun i hi e => by have := (kind_row HR5.out e).2.1; omega)).mono (G' := newer w.heap.size) (fun _ _ e => e.elim)) g 0 hlow _)
          obtain ⟨w7, hw7⟩ : ∃ q, q = w6.setCell ⟨g, 0, none⟩ (.slice (some ⟨g6, 0, none⟩) (k + 1) cap6) := ⟨_, rfl⟩
          rw [← hw7] at R hM6
          have HR := Hid.mk' R
          have HM6 := Hid.mk' hM6
          clear R hM6 hN5 hm5 hm35 hm56 hown6 hgrow hat c0 c5 c6 f0 f5 f6 HP HROW HKN HN HR5 hgo
          have x7 := HR.out.blk.cell 7 rfl
          have g7 := HR.out.blk.frozen 7
          have z7 := HR.out.blk.lt
          rw [← hw7]
          clear hw7
          by_cases hkn : k < n
          · have hkI : (k : Int) < (n : Int) := by omega
            obtain rfl : c = k := by omega
            clear hc
            have HCR := Hid.mk' HR.out.crow
            have hg7 : (Value.slice ca c ccap).ownBlock ≠ some g := fun e => kind_ne (HR.out.kinds.2.2.2.2.2 g e) HR.out.kinds.1 (by decide)
            have HG7 := Hid.mk' hg7
            have zw7 : w.heap.size ≤ w7.heap.size := HM6.out.size
            clear hg7
            go_wp2_with (first
              | (at_builtin; refine wpList_append_own_at _ rfl (.tmp 33) (.tmp 35) 31 rfl w.heap.size 3 j0 _ 1 8 Try.underlying31 hj jz0 jz1 jz2 rfl (by decide) _ _ _ rfl (HCR.out.alloc _) ⟨w7.heap.size, 0, none⟩ 1 1 [.int .i64 c] rfl rfl (World.news_of_block (heap_alloc_new w7 _)) (by simp [Value.oneCell']) hk63 hk47 (by simp; omega) ?_)
              | fail)
            intro v8 w8 hown8 hgrow8 _ _
            have hm8 : Mod (fun x => (Value.slice ca c ccap).ownBlock = some x) w7 w8 := ((Mod.refl _ w7).alloc _).grown hgrow8 (fun x hx _ => hx)
            have y7 := hm8.cell x7 HG7.out
            have f8 := (hm8.frozen (p := ⟨g, 7, none⟩) z7 HG7.out).trans g7
            have z8 := Nat.lt_of_lt_of_le z7 hm8.size
            have R8 := HR.out.conf1 hm8 (v6 := v8) (by rw [intsK_succ, List.map_append]; exact hown8)
            have hM8 : Mod noBlock w (w8.setCell ⟨g, 7, none⟩ v8) := newer_none (Mod.put ((HM6.out.trans' hm8 (fun i hi e => by have := (kind_row HCR.out e).2.1; omega)).mono (G' := newer w.heap.size) (fun _ _ e => e.elim)) g 7 hlow _)
            have HR8 := Hid.mk' R8
            have HM8 := Hid.mk' hM8
            obtain ⟨va8, vc8, hv8⟩ := own_slice hown8
            subst hv8
            clear R8 hM8 hm8 hown8 hgrow8 x7 g7 HR
            go_wp2_with fail
            go_roundw
            case rel => exact ⟨c + 1, _, _, _, by omega, by go_num, by rw [show min (c + 1) n = c + 1 by omega]; exact HR8.out, HM8.out⟩
            case measure => simp [intOf]; omega
          · have hkI : ¬ (k : Int) < (n : Int) := by omega
            have HMN : Hid (min (k + 1) n = c) := by rw [Hid]; omega
            clear x7 g7 hc
            go_wp2_with fail
            go_roundw
            case rel => exact ⟨k + 1, _, _, _, by omega, by go_num, by rw [HMN.out]; exact HR.out, HM6.out⟩
            case measure => simp [intOf]; omega
      · have hd : decide ((k : Int) < 5) = false := decide_eq_false (by omega)
        have hcn : c = n := by omega
        have hk5 : k = 5 := by omega
        rw [hcn, hk5] at hP
        clear hk5 hlt hk
        have c6 := hP.blk.cell 6 rfl
        have f6 := hP.blk.frozen 6
        have zg := hP.blk.lt
        have R := hP.done
        have hM9 : Mod noBlock w (wr.setCell ⟨g, 6, none⟩ (.int .i64 1)) := newer_none (Mod.put (hM.mono (G' := newer w.heap.size) (fun _ _ e => e.elim)) g 6 hP.low _)
        obtain ⟨w9, hw9⟩ : ∃ q, q = wr.setCell ⟨g, 6, none⟩ (.int .i64 1) := ⟨_, rfl⟩
        rw [← hw9] at R hM9
        have HR := Hid.mk' R
        have HM9 := Hid.mk' hM9
        clear R hM9 hP hM hc hcn
        go_upto_region 9 with fail
        rw [← hw9]
        clear hw9 c6 f6
        go_wp2_with fail
        go_loopw [5] (fun k0 wx => ∃ (k : Nat) (V' : Vals) (W' : WS), k ≤ n ∧ k0 = .int .i64 k ∧ WorldP wx w.heap.size g V' W' ∧ (∀ i, i < k → W'.ever i = true) ∧ (∀ i, W'.down i = false) ∧ W'.conf = intsK n ∧ W'.epoch = 1 ∧ Inv (allE W') 0 k ∧ InvS (allE W') ∧ Mod noBlock w wx) (fun k0 _ => n - (intOf k0).toNat)
        case atStart => exact ⟨0, _, _, Nat.zero_le _, rfl, HR.out, fun i hi => by omega, fun _ => rfl, rfl, rfl, raw_inv h1n (by omega), raw_invS n, HM9.out⟩
        case round =>
          obtain ⟨k, V', W', hk, rfl, hW, hev, hdn, hcf, hep, hIn, hSn, hMx⟩ := hrel
          clear hd
          by_cases hlt2 : k < n
          · have hkI : (k : Int) < (n : Int) := by omega
            have hk5 : (k : Int) < 5 := by omega
            have hk0 : (0 : Int) ≤ (k : Int) := by omega
            obtain ⟨be, ec, c5, ze, he1, he2, ce⟩ := hW.everAt
            have q1 := ce k (by omega)
            obtain ⟨R1, R2⟩ := hW.setEver c5 (show k < 5 by omega)
            have hkf : wr.frozen? ⟨be, k, none⟩ = false := by
              have hv : V'.ev = .slice (some ⟨be, 0, none⟩) 5 ec := by have := hW.cells.2.2.2.1; rw [c5] at this; simpa using this.symm
              obtain ⟨_, _, cur, hcur⟩ := own_cells hW.erow (k := be) (by rw [hv]; rfl)
              simp [World.frozen?, hcur]
            obtain ⟨w1, hw1⟩ : ∃ q, q = wr.setCell ⟨be, k, none⟩ (.bool true) := ⟨_, rfl⟩
            rw [← hw1] at R1 R2
            have hM1 : Mod noBlock w w1 := hMx.trans' R2 (fun i hi e => by have := (hW.may e).1; omega)
            have hlo := hIn.lo
            have hlo' : W'.net.lost ≤ k := hlo
            have HBE := Hid.mk' (wbec_raw w.heap.size g k V' (wever W' k) w1 R1 ⟨by show W'.conf.Nodup; rw [hcf]; exact intsK_nodup n, fun x hx => by have hx' : x ∈ W'.conf := hx; rw [hcf] at hx'; have := intsK_mem hx'; unfold small; omega, by show 1 ≤ W'.conf.length; rw [hcf]; simp [intsK]; omega, by show W'.conf.length ≤ 5; rw [hcf]; simp [intsK]; omega, by show 1 ≤ W'.epoch; omega, by show W'.epoch ≤ 10000; omega⟩ (by omega) (by show W'.net.lost + 1 ≤ _; omega))
            have hI2 : Inv (allE (wbec (wever W' k) k)) 0 (k + 1 : Nat) := by
              rw [allE_bec]
              have := hIn.bec (i := k) (by omega)
              exact_mod_cast this
            have hS2 : InvS (allE (wbec (wever W' k) k)) := by
              rw [allE_bec]
              exact hSn.bec hIn (by omega)
            obtain ⟨b1, b2, b3, b4⟩ := bec_rest_w (wever W' k) k
            have HF : Hid ((∀ i, i < k + 1 → (wbec (wever W' k) k).ever i = true) ∧ (∀ i, (wbec (wever W' k) k).down i = false) ∧ (wbec (wever W' k) k).conf = intsK n ∧ (wbec (wever W' k) k).epoch = 1) := by
              refine ⟨fun i hi => ?_, fun i => ?_, ?_, ?_⟩
              · rw [b2]
                show setF W'.ever k true i = true
                unfold setF
                split
                · rfl
                · exact hev i (by omega)
              · rw [b1]; exact hdn i
              · rw [b3]; exact hcf
              · rw [b4]; exact hep
            have HI2 := Hid.mk' hI2
            have HS2 := Hid.mk' hS2
            have HM1 := Hid.mk' hM1
            have HR1 := Hid.mk' R1
            unfold maxLen at he2
            clear R1 R2 hW hev hdn hcf hep hIn hSn hMx hM1 hI2 hS2 b1 b2 b3 b4 hlo hlo' ce HR HM9
            go_upto_region 13 with fail
            rw [← hw1]
            clear hw1 c5 q1 hkf
            go_wp2_with fail
            refine HBE.out.mono ?_
            rintro e w3 ⟨rfl, V3, hW3, hm3, hg3⟩
            have hM3 : Mod noBlock w w3 := HM1.out.trans' hm3 (fun i hi e => by have := (HR1.out.may e).1; omega)
            have HW3 := Hid.mk' hW3
            have HM3 := Hid.mk' hM3
            clear hW3 hm3 hg3 hM3 HBE
            go_wp2_with fail
            go_roundw
            case rel => exact ⟨k + 1, V3, _, by omega, by go_num, HW3.out, HF.out.1, HF.out.2.1, HF.out.2.2.1, HF.out.2.2.2, HI2.out, HS2.out, HM3.out⟩
            case measure => simp [intOf]; omega
          · obtain rfl : k = n := by omega
            have hfin : Inv W' 0 10 := (inv_real hIn (fun i _ => hdn i) (fun x hx => by
              rw [hcf] at hx
              have := intsK_mem hx
              exact hev x.toNat (by omega))).more (Nat.le_refl _) (by omega)
            have HW := Hid.mk' hW
            have HMX := Hid.mk' hMx
            have HFI := Hid.mk' hfin
            have HFS : Hid (InvS W') := ⟨hSn.own, hSn.st, hSn.ms, hSn.com⟩
            clear hW hev hdn hcf hep hIn hSn hMx hfin HR HM9
            go_wp2_with fail
            go_ret
            exact ⟨g, V', W', rfl, HW.out, HFI.out, HFS.out, HMX.out⟩
end Go.Proofs.Ytefhgakcffhgaab
