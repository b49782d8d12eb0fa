/- The document's table: Release. -/
import Derived.Test.YtkoncehhpiegfaaGreatDoorUi
namespace Go.Proofs.YtkoncehhpiegfaaGreatDoor
open Go.RowKit Go.Lib Go.Maps
set_option linter.unusedVariables false

/-- Those that a transaction leaves behind, in both rows. -/
theorem RelS.start {w w5 : World} {B b M : Nat} {hv wv hv2 wv2 : Value} {r : RefT} {t : Int} (h : RtP w B b hv wv r) (hu : UniqA r.holds) (huw : UniqA r.waits) (hM : r.holds.length + r.waits.length ≤ M) (hm : Mod noBlock w w5)
    (h2 : RowA w5 w.heap.size hv2 (cutR r t).holds) (w2 : RowA w5 w.heap.size wv2 (cutR r t).waits) (hne : ∀ x, hv2.ownBlock = some x → wv2.ownBlock ≠ some x) :
    RelS w ((w5.setCell ⟨b, 0, none⟩ hv2).setCell ⟨b, 1, none⟩ wv2) b w.heap.size M hv2 wv2 (cutR r t) (.slice none 0 0) [] := by
  have hb5 := h.blk.mod hm id
  have hb6 := (hb5.set 0 hv2).set 1 wv2
  have hms : Mod (oneBlock b) w5 ((w5.setCell ⟨b, 0, none⟩ hv2).setCell ⟨b, 1, none⟩ wv2) := (Mod.setBlk b 0 hv2).trans (Mod.setBlk b 1 wv2)
  have hone : ∀ {v : Value} {l : List AskD}, RowA w5 w.heap.size v l → ∀ y, v.ownBlock = some y → ¬ oneBlock b y := fun hr y hy e => by simp only [oneBlock] at e; subst e; exact row_rt hb5 hr hy
  refine ⟨⟨hb6, h2.mod hms (hone h2), w2.mod hms (hone w2), hne⟩, hu.sublist List.filter_sublist, huw.sublist List.filter_sublist, ?_, ?_, ⟨World.ownsRow_nil _ _ _ _, by simp⟩, fun y hy => by simp [Value.ownBlock] at hy, (hm.mono (fun _ _ e => e.elim)).trans hms⟩
  · have h1 : (cutR r t).holds.length ≤ r.holds.length := List.length_filter_le _ _
    have h2 : (cutR r t).waits.length ≤ r.waits.length := List.length_filter_le _ _
    omega
  · have h2 : (cutR r t).waits.length ≤ r.waits.length := List.length_filter_le _ _
    simp only [List.length_nil]
    omega
/-- What the document's Release comes to. -/
def RelDP (w : World) (b M : Nat) (r : RefT) (t : Int) (e : Ending) (w' : World) : Prop :=
  ∃ u hv' wv' ks, e = .returned u ∧ ks.Pairwise ltQ ∧ (∀ k, k ∈ ks ↔ k ∈ (r.holds ++ r.waits).map (·.key)) ∧ RelS w w' b w.heap.size M hv' wv' (keysR ks (cutR r t)).1 u (keysR ks (cutR r t)).2
set_option maxRecDepth 100000 in
set_option maxHeartbeats 16000000 in
theorem reld_any (B b M : Nat) (hv wv : Value) (r : RefT) (t : Int) (w : World) (h : RtP w B b hv wv r) (hu : UniqA r.holds) (huw : UniqA r.waits) (hM : r.holds.length + r.waits.length ≤ M) (hM4 : M ≤ 390) (hB : B ≤ w.heap.size) :
    Calls Tryz.prog 8 #[.pointer (some ⟨b, 0, none⟩), .int .i64 t] w (RelDP w b M r t) := by
  obtain ⟨j0, hj, jz0, jz1, jz2⟩ := info_parts Tryz.info37
  have HKY := Hid.mkq (keysd_any B b hv wv r w h (by omega) (by omega))
  have HST : Hid (∀ (w5 : World) (hv2 wv2 : Value), Mod noBlock w w5 → RowA w5 w.heap.size hv2 (cutR r t).holds → RowA w5 w.heap.size wv2 (cutR r t).waits → (∀ x, hv2.ownBlock = some x → wv2.ownBlock ≠ some x) → RelS w ((w5.setCell ⟨b, 0, none⟩ hv2).setCell ⟨b, 1, none⟩ wv2) b w.heap.size M hv2 wv2 (cutR r t) (.slice none 0 0) []) := fun w5 hv2 wv2 hm h1 h2 h3 => RelS.start h hu huw hM hm h1 h2 h3
  have HRB : Hid (Blk w b [hv, wv] 29) := h.blk
  have HHV := Hid.mkq (h.h.toV (Nat.le_refl _))
  have HWV := Hid.mkq (h.w.toV (Nat.le_refl _))
  obtain ⟨ha, hcap, rfl⟩ := own_slice h.h.1
  obtain ⟨wa, wcap, rfl⟩ := own_slice h.w.1
  have HC1 : Hid ((cutR r t).holds = r.holds.filter fun a => decide (a.tx ≠ t)) := rfl
  have HC2 : Hid ((cutR r t).waits = r.waits.filter fun a => decide (a.tx ≠ t)) := rfl
  have hl1 : r.holds.length ≤ 390 := by omega
  have hl2 : r.waits.length ≤ 390 := by omega
  have HBZ : Hid (b < w.heap.size) := h.blk.lt
  clear h hu huw hM
  go_enter Tryz.func8, Tryz.ntmps8
  go_wp2_with (first | (go_at_call 10; refine HKY.out.mono ?_) | fail)
  rintro e w1 ⟨kv, ks, rfl, hkq, hks, hkm, hkl, hkv, hm1⟩
  obtain ⟨ka, kcap, hk0, _, _⟩ := SlR.slice hkq
  subst hk0
  have HKQ := Hid.mkq hkq
  have HKS := Hid.mkq hks
  have HKM := Hid.mkq hkm
  have HKV := Hid.mkq hkv
  have HM1 := Hid.mkq hm1
  have hz1 := hm1.size
  have hb1 := HRB.out.mod hm1 id
  have c0 := hb1.cell 0 rfl
  have c1 := hb1.cell 1 rfl
  have zb := hb1.lt
  have HB1 := Hid.mkq hb1
  have HR0 : Hid (RowA w1 w1.heap.size (.slice none 0 0) []) := ⟨World.ownsRow_nil _ _ _ _, by simp⟩
  clear hkq hks hkm hkv hm1 hb1 HKY HRB
  go_wp2_with fail
  go_loopw [6, 26] (fun u i wr => ∃ (n : Nat) (o : List AskD), n ≤ r.holds.length ∧ i = .int .i64 n ∧ o = (r.holds.take n).filter (fun a => decide (a.tx ≠ t)) ∧ o.length ≤ n ∧ RowA wr w1.heap.size u o ∧ Mod noBlock w1 wr) (fun _ i _ => r.holds.length - (intOf i).toNat)
  case atStart => exact ⟨0, [], Nat.zero_le _, rfl, by simp, Nat.le_refl _, HR0.out, Mod.refl _ _⟩
  case round =>
    obtain ⟨n, o, hn, rfl, ho, hol, hrow, hM⟩ := hrel
    obtain ⟨ua, ucap, rfl⟩ := own_slice hrow.1
    have HROW := Hid.mkq hrow
    have HO := Hid.mkq ho
    have HM := Hid.mkq hM
    have HM01 := Hid.mkq (HM1.out.trans hM)
    clear hrow hM ho
    by_cases hlt : n < r.holds.length
    · obtain ⟨d, hd⟩ : ∃ d, r.holds[n]? = some d := ⟨_, List.getElem?_eq_getElem hlt⟩
      obtain ⟨hb, off, rfl, _, hok, q0, q1, q2⟩ := HHV.out.at hd
      have p0 := HM01.out.cell q0 id
      have p1 := HM01.out.cell q1 id
      have p2 := HM01.out.cell q2 id
      have hltI : (n : Int) < (r.holds.length : Int) := by omega
      have hlt0 : (0 : Int) ≤ (n : Int) := by omega
      obtain ⟨w3, hw3⟩ : ∃ q, q = wr.alloc (.cells #[.int .i64 d.tx, .string d.key, .int .i64 d.mode] 37) := ⟨_, rfl⟩
      have hm3 : Mod noBlock wr w3 := by rw [hw3]; exact (Mod.refl _ wr).alloc _
      have hb3 : Blk w3 wr.heap.size (askCells d) 37 := by rw [hw3]; exact Blk.new wr (askCells d) 37
      have r0 := hb3.cell 0 rfl
      have r1 := hb3.cell 1 rfl
      have r2 := hb3.cell 2 rfl
      have hz3 := hb3.lt
      have HM3 := Hid.mkq (HM.out.trans hm3)
      have hz3' := HM3.out.size
      have HROW3 : Hid (RowA w3 w1.heap.size (.slice ua o.length ucap) o) := HROW.out.mod hm3 (fun _ _ => id)
      have HFS := Hid.mkq (filter_snoc (fun a : AskD => decide (a.tx ≠ t)) r.holds n d hd)
      clear hd q0 q1 q2 hb3 hm3 c0 c1
      go_upto_region 6 with fail
      rw [← hw3]
      clear hw3 p0 p1 p2
      by_cases e1 : d.tx = t
      · have HO2 : Hid (o = (r.holds.take (n + 1)).filter (fun a => decide (a.tx ≠ t))) := by rw [Hid, HFS.out, if_neg (by simp [e1])]; exact HO.out
        have e1' : (d.tx != t) = false := by simpa using e1
        go_wp2_with fail
        go_roundw
        case rel => exact ⟨n + 1, o, by omega, by go_num, HO2.out, by omega, HROW3.out, HM3.out⟩
        case measure => simp [intOf]; omega
      · have HO2 : Hid (o ++ [d] = (r.holds.take (n + 1)).filter (fun a => decide (a.tx ≠ t))) := by rw [Hid, HFS.out, if_pos (by simpa using e1), ← HO.out]
        have e1' : (d.tx != t) = true := by simpa using e1
        have hk63 : o.length + 1 ≤ maxLen := by unfold maxLen; omega
        have hk47 : (o.length + 1) * 32 ≤ 140737488355328 := by omega
        have HROW9 : Hid (w3.ownsRow w1.heap.size 37 3 (.slice ua o.length ucap) o.length (asksCells o)) := HROW3.out.1
        have HONE := Hid.mkq (askCells_one d)
        go_wp2_with (first
          | (at_builtin; refine wpList_append_own_at _ rfl (.tmp 34) (.tmp 36) 27 rfl w1.heap.size 37 j0 _ 3 32 Tryz.underlying27 hj jz0 jz1 jz2 rfl (by omega) _ _ _ rfl (HROW9.out.alloc _) ⟨w3.heap.size, 0, none⟩ 1 1 (askCells d) rfl rfl (World.news_of_block (heap_alloc_new w3 _)) HONE.out hk63 hk47 (by simp; omega) ?_)
          | fail)
        intro v7 w7 hown7 hgrow7 _ hat7
        have hm7 : Mod noBlock w1 w7 := (HM3.out.alloc _).grown hgrow7 (fun y hy hlt => by have := (own_cellsVQ HROW3.out.1 hy).1; omega)
        obtain ⟨a7, cap7, hv7⟩ := own_slice hown7
        subst hv7
        have HW7 : Hid (RowA w7 w1.heap.size (.slice a7 (o.length + 1) cap7) (o ++ [d])) := RowA.snoc rfl hown7 HROW3.out.2 hok
        have HM7 := Hid.mkq hm7
        clear hown7 hgrow7 hat7 hm7
        go_wp2_with fail
        go_roundw
        case rel => exact ⟨n + 1, o ++ [d], by omega, by go_num, HO2.out, by simp; omega, by simpa using HW7.out, HM7.out⟩
        case measure => simp [intOf]; omega
    · obtain rfl : n = r.holds.length := by omega
      have HRES : Hid (o = (cutR r t).holds) := by rw [HC1.out, HO.out, List.take_length, Hid]
      obtain ⟨w5, hw5⟩ : ∃ x, x = wr := ⟨_, rfl⟩
      subst hw5
      have HROW1 := Hid.mkq HROW.out
      have HM05 := HM01
      have HM15 := HM
      have c1' := HM.out.cell c1 id
      have zb' := Nat.lt_of_lt_of_le zb HM.out.size
      have hz5 := HM.out.size
      have HR5 : Hid (RowA w5 w5.heap.size (.slice none 0 0) []) := ⟨World.ownsRow_nil _ _ _ _, by simp⟩
      rw [← HRES.out] at HST
      clear HROW HO HM HM01 HC1 HR0 hn hlt c0 c1 zb HHV
      go_wp2_with fail
      go_loopw [7, 44] (fun u i wr => ∃ (m : Nat) (p : List AskD), m ≤ r.waits.length ∧ i = .int .i64 m ∧ p = (r.waits.take m).filter (fun a => decide (a.tx ≠ t)) ∧ p.length ≤ m ∧ RowA wr w5.heap.size u p ∧ Mod noBlock w5 wr) (fun _ i _ => r.waits.length - (intOf i).toNat)
      case atStart => exact ⟨0, [], Nat.zero_le _, rfl, by simp, Nat.le_refl _, HR5.out, Mod.refl _ _⟩
      case round =>
        obtain ⟨m, p, hn, rfl, ho, hpl, hrow, hM⟩ := hrel
        obtain ⟨va, vcap, rfl⟩ := own_slice hrow.1
        have HROW := Hid.mkq hrow
        have HO := Hid.mkq ho
        have HM := Hid.mkq hM
        have HM01 := Hid.mkq (HM05.out.trans hM)
        clear hrow hM ho
        by_cases hlt : m < r.waits.length
        · obtain ⟨d, hd⟩ : ∃ d, r.waits[m]? = some d := ⟨_, List.getElem?_eq_getElem hlt⟩
          obtain ⟨hb, off, rfl, _, hok, q0, q1, q2⟩ := HWV.out.at hd
          have p0 := HM01.out.cell q0 id
          have p1 := HM01.out.cell q1 id
          have p2 := HM01.out.cell q2 id
          have hltI : (m : Int) < (r.waits.length : Int) := by omega
          have hlt0 : (0 : Int) ≤ (m : Int) := by omega
          obtain ⟨w3, hw3⟩ : ∃ q, q = wr.alloc (.cells #[.int .i64 d.tx, .string d.key, .int .i64 d.mode] 37) := ⟨_, rfl⟩
          have hm3 : Mod noBlock wr w3 := by rw [hw3]; exact (Mod.refl _ wr).alloc _
          have hb3 : Blk w3 wr.heap.size (askCells d) 37 := by rw [hw3]; exact Blk.new wr (askCells d) 37
          have r0 := hb3.cell 0 rfl
          have r1 := hb3.cell 1 rfl
          have r2 := hb3.cell 2 rfl
          have hz3 := hb3.lt
          have HM3 := Hid.mkq (HM.out.trans hm3)
          have hz3' := HM3.out.size
          have HROW3 : Hid (RowA w3 w5.heap.size (.slice va p.length vcap) p) := HROW.out.mod hm3 (fun _ _ => id)
          have HFS := Hid.mkq (filter_snoc (fun a : AskD => decide (a.tx ≠ t)) r.waits m d hd)
          clear hd q0 q1 q2 hb3 hm3 c1'
          go_upto_region 12 with fail
          rw [← hw3]
          clear hw3 p0 p1 p2
          by_cases e1 : d.tx = t
          · have HO2 : Hid (p = (r.waits.take (m + 1)).filter (fun a => decide (a.tx ≠ t))) := by rw [Hid, HFS.out, if_neg (by simp [e1])]; exact HO.out
            have e1' : (d.tx != t) = false := by simpa using e1
            go_wp2_with fail
            go_roundw
            case rel => exact ⟨m + 1, p, by omega, by go_num, HO2.out, by omega, HROW3.out, HM3.out⟩
            case measure => simp [intOf]; omega
          · have HO2 : Hid (p ++ [d] = (r.waits.take (m + 1)).filter (fun a => decide (a.tx ≠ t))) := by rw [Hid, HFS.out, if_pos (by simpa using e1), ← HO.out]
            have e1' : (d.tx != t) = true := by simpa using e1
            have hk63 : p.length + 1 ≤ maxLen := by unfold maxLen; omega
            have hk47 : (p.length + 1) * 32 ≤ 140737488355328 := by omega
            have HROW9 : Hid (w3.ownsRow w5.heap.size 37 3 (.slice va p.length vcap) p.length (asksCells p)) := HROW3.out.1
            have HONE := Hid.mkq (askCells_one d)
            go_wp2_with (first
              | (at_builtin; refine wpList_append_own_at _ rfl (.tmp 52) (.tmp 54) 27 rfl w5.heap.size 37 j0 _ 3 32 Tryz.underlying27 hj jz0 jz1 jz2 rfl (by omega) _ _ _ rfl (HROW9.out.alloc _) ⟨w3.heap.size, 0, none⟩ 1 1 (askCells d) rfl rfl (World.news_of_block (heap_alloc_new w3 _)) HONE.out hk63 hk47 (by simp; omega) ?_)
              | fail)
            intro v7 w7 hown7 hgrow7 _ hat7
            have hm7 : Mod noBlock w5 w7 := (HM3.out.alloc _).grown hgrow7 (fun y hy hlt => by have := (own_cellsVQ HROW3.out.1 hy).1; omega)
            obtain ⟨a7, cap7, hv7⟩ := own_slice hown7
            subst hv7
            have HW7 : Hid (RowA w7 w5.heap.size (.slice a7 (p.length + 1) cap7) (p ++ [d])) := RowA.snoc rfl hown7 HROW3.out.2 hok
            have HM7 := Hid.mkq hm7
            clear hown7 hgrow7 hat7 hm7
            go_wp2_with fail
            go_roundw
            case rel => exact ⟨m + 1, p ++ [d], by omega, by go_num, HO2.out, by simp; omega, by simpa using HW7.out, HM7.out⟩
            case measure => simp [intOf]; omega
        · obtain rfl : m = r.waits.length := by omega
          have HRES2 : Hid (p = (cutR r t).waits) := by rw [HC2.out, HO.out, List.take_length, Hid]
          obtain ⟨w6, hw6⟩ : ∃ x, x = wr := ⟨_, rfl⟩
          subst hw6
          have hm16 : Mod noBlock w1 w6 := HM15.out.trans HM.out
          have hb6 := HB1.out.mod hm16 id
          have kc0 := hb6.cell 0 rfl
          have kc1 := hb6.cell 1 rfl
          have kf0 := hb6.frozen 0
          have kf1 := hb6.frozen 1
          have kz := hb6.lt
          have hne : ∀ x, (Value.slice ua o.length ucap).ownBlock = some x → (Value.slice va p.length vcap).ownBlock ≠ some x := fun x hx e => by
            have h1 := (own_cellsVQ HROW1.out.1 hx).2.1
            have h2 := (own_cellsVQ HROW.out.1 e).1
            omega
          have HRS := Hid.mkq (HST.out w6 (.slice ua o.length ucap) (.slice va p.length vcap) (HM1.out.trans hm16) ((HROW1.out.mod HM.out (fun _ _ => id)).low hz1) (by rw [← HRES2.out]; exact HROW.out.low (Nat.le_trans hz1 hz5)) hne)
          have HKP : Hid (Kept (fun y => ks ≠ [] ∧ (Value.slice ka ks.length kcap).ownBlock = some y) w1 ((w6.setCell ⟨b, 0, none⟩ (.slice ua o.length ucap)).setCell ⟨b, 1, none⟩ (.slice va p.length vcap)) b (.slice ua o.length ucap) (.slice va p.length vcap) (.slice none 0 0)) := by
            have hlt1 : ∀ y, (ks ≠ [] ∧ (Value.slice ka ks.length kcap).ownBlock = some y) → y < w1.heap.size := fun y e => by
              obtain ⟨k, hk⟩ : ∃ k, ks[0]? = some k := ⟨_, List.getElem?_eq_getElem (List.length_pos_iff.2 e.1)⟩
              obtain ⟨kb, koff, rfl, h1, _⟩ := HKQ.out.at hk
              simp [Value.ownBlock] at e
              omega
            have hbn : ¬ (ks ≠ [] ∧ (Value.slice ka ks.length kcap).ownBlock = some b) := fun e => by have := HKV.out b e.2; have := HBZ.out; omega
            refine ⟨hlt1, hbn, fun y hy e => ?_, fun y hy e => ?_, fun y hy e => by simp [Value.ownBlock] at e, ((hm16.mono (fun _ _ e => e.elim)).trans ((Mod.setBlk b 0 _).mono (fun y _ e => ?_))).trans ((Mod.setBlk b 1 _).mono (fun y _ e => ?_))⟩
            · have h1 := hlt1 y hy
              have h2 := (own_cellsVQ HROW1.out.1 e).1
              omega
            · have h1 := hlt1 y hy
              have h2 := (own_cellsVQ HROW.out.1 e).1
              omega
            · simp only [oneBlock] at e; subst e; exact hbn
            · simp only [oneBlock] at e; subst e; exact hbn
          clear hb6 hm16 hne HROW HROW1 HO HM HST HR5 c1' zb' hn hpl HWV HC2 HM15 HM05 HB1
          go_upto_region 16 with fail
          obtain ⟨w8, hw8⟩ : ∃ x, x = (w6.setCell ⟨b, 0, none⟩ (.slice ua o.length ucap)).setCell ⟨b, 1, none⟩ (.slice va p.length vcap) := ⟨_, rfl⟩
          rw [← hw8] at HRS HKP ⊢
          clear hw8 kc0 kc1 kf0 kf1 kz
          go_wp2_with fail
          go_loopw [12, 67] (fun u i wr => ∃ (n : Nat) (hv wv : Value), n ≤ ks.length ∧ i = .int .i64 n ∧ RelS w wr b w.heap.size M hv wv (keysR (ks.take n) (cutR r t)).1 u (keysR (ks.take n) (cutR r t)).2 ∧ Kept (fun y => ks ≠ [] ∧ (Value.slice ka ks.length kcap).ownBlock = some y) w1 wr b hv wv u) (fun _ i _ => ks.length - (intOf i).toNat)
          case atStart => exact ⟨0, _, _, Nat.zero_le _, rfl, by rw [List.take_zero]; exact HRS.out, HKP.out⟩
          case round =>
            obtain ⟨n, hv, wv, hn, rfl, hS, hK⟩ := hrel
            clear HRS HKP
            obtain ⟨ua, ucap, rfl⟩ := own_slice hS.out.1
            obtain ⟨wl, hwl⟩ : ∃ x, x = wr := ⟨_, rfl⟩
            subst hwl
            have HS := Hid.mkq hS
            have HK := Hid.mkq hK
            clear hS hK
            by_cases hlt : n < ks.length
            · obtain ⟨k, hk⟩ : ∃ k, ks[n]? = some k := ⟨_, List.getElem?_eq_getElem hlt⟩
              obtain ⟨kb, koff, rfl, _, q0⟩ := HKQ.out.at hk
              have hksne : ks ≠ [] := fun e => by rw [e] at hlt; simp at hlt
              have p0 := HK.out.md.cell q0 (fun e => e ⟨hksne, rfl⟩)
              have hltI : (n : Int) < (ks.length : Int) := by omega
              have hlt0 : (0 : Int) ≤ (n : Int) := by omega
              obtain ⟨r1, hr1⟩ : ∃ x, x = (keysR (ks.take n) (cutR r t)).1 := ⟨_, rfl⟩
              obtain ⟨o1, ho1⟩ : ∃ x, x = (keysR (ks.take n) (cutR r t)).2 := ⟨_, rfl⟩
              rw [← hr1, ← ho1] at HS
              rw [← ho1] at HK
              have HNX : Hid (keysR (ks.take (n + 1)) (cutR r t) = ((asksR k (wsR r1 k) r1).1, o1 ++ (asksR k (wsR r1 k) r1).2)) := by rw [Hid, take_snocQ hk, keysR_snoc, ← hr1, ← ho1]; rfl
              have hm1' := HS.out.m1
              have HWT := Hid.mkq (waiting_any w.heap.size b hv wv r1 k wl HS.out.rt (by omega))
              rw [← ho1]
              clear hk q0 hr1 ho1
              go_upto_region 20 with fail
              go_wp2_with (first | (go_at_call 15; refine HWT.out.mono ?_) | fail)
              rintro e w7 ⟨tv, ws, rfl, hts, htp, hsr, htv, hm7⟩
              obtain ⟨ta, tc, hv0, _, _⟩ := SlR.slice hts
              subst hv0
              have hws := wsR_eq htp hsr
              rw [← hws] at HNX
              have HTS := Hid.mkq hts
              have HS7 := Hid.mkq (HS.out.quiet hm7)
              have HK7 := Hid.mkq (HK.out.quiet hm7)
              have hwl : ws.length ≤ 390 := by rw [htp.length_eq]; unfold waitR; rw [List.length_map]; exact Nat.le_trans (List.length_filter_le _ _) (by omega)
              have HV7 : Hid (Kept (fun y => ws ≠ [] ∧ (Value.slice ta ws.length tc).ownBlock = some y) w7 w7 b hv wv (.slice ua o1.length ucap)) := by
                have hge : ∀ y, (ws ≠ [] ∧ (Value.slice ta ws.length tc).ownBlock = some y) → wl.heap.size ≤ y := fun y e => htv y e.2
                refine ⟨fun y e => ?_, fun e => ?_, fun y hy e => ?_, fun y hy e => ?_, fun y hy e => ?_, Mod.refl _ _⟩
                · obtain ⟨x, hx⟩ : ∃ x, ws[0]? = some x := ⟨_, List.getElem?_eq_getElem (List.length_pos_iff.2 e.1)⟩
                  obtain ⟨kb, koff, rfl, h1, _⟩ := IntsQ.at hts hx
                  simp [Value.ownBlock] at e
                  omega
                · have h1 := hge b e
                  have h2 := HS.out.rt.blk.lt
                  omega
                · have h1 := hge y hy
                  have h2 := (own_cellsVQ HS.out.rt.h.1 e).2.1
                  omega
                · have h1 := hge y hy
                  have h2 := (own_cellsVQ HS.out.rt.w.1 e).2.1
                  omega
                · have h1 := hge y hy
                  have h2 := (own_cellsVQ HS.out.out.1 e).2.1
                  omega
              clear hts htp hsr htv hm7 hws HS HK HWT p0 hm1'
              go_wp2_with fail
              go_loopw [12, 75] (fun u i wr => ∃ (m : Nat) (hv wv : Value), m ≤ ws.length ∧ i = .int .i64 m ∧ RelS w wr b w.heap.size M hv wv (asksR k (ws.take m) r1).1 u (o1 ++ (asksR k (ws.take m) r1).2) ∧ Kept (fun y => ks ≠ [] ∧ (Value.slice (some ⟨kb, koff, none⟩) ks.length kcap).ownBlock = some y) w1 wr b hv wv u ∧ Kept (fun y => ws ≠ [] ∧ (Value.slice ta ws.length tc).ownBlock = some y) w7 wr b hv wv u) (fun _ i _ => ws.length - (intOf i).toNat)
              case atStart => exact ⟨0, hv, wv, Nat.zero_le _, rfl, by simpa [asksR] using HS7.out, HK7.out, HV7.out⟩
              case round =>
                obtain ⟨m, hv, wv, hn, rfl, hS, hK, hV⟩ := hrel
                clear HS7 HK7 HV7
                obtain ⟨ua, ucap, rfl⟩ := own_slice hS.out.1
                obtain ⟨wm, hwm⟩ : ∃ x, x = wr := ⟨_, rfl⟩
                subst hwm
                have HS := Hid.mkq hS
                have HK := Hid.mkq hK
                have HV := Hid.mkq hV
                clear hS hK hV
                by_cases hmt : m < ws.length
                · obtain ⟨x, hx⟩ : ∃ x, ws[m]? = some x := ⟨_, List.getElem?_eq_getElem hmt⟩
                  obtain ⟨tb, toff, rfl, _, q0⟩ := HTS.out.at hx
                  have hwsne : ws ≠ [] := fun e => by rw [e] at hmt; simp at hmt
                  have p0 := HV.out.md.cell q0 (fun e => e ⟨hwsne, rfl⟩)
                  have hmI : (m : Int) < (ws.length : Int) := by omega
                  have hm0 : (0 : Int) ≤ (m : Int) := by omega
                  obtain ⟨r2, hr2⟩ : ∃ x, x = (asksR k (ws.take m) r1).1 := ⟨_, rfl⟩
                  obtain ⟨o2, ho2⟩ : ∃ x, x = o1 ++ (asksR k (ws.take m) r1).2 := ⟨_, rfl⟩
                  rw [← hr2, ← ho2] at HS
                  rw [← ho2] at HK HV ⊢
                  have HNY : Hid ((asksR k (ws.take (m + 1)) r1).1 = (askR r2 k x).1 ∧ o1 ++ (asksR k (ws.take (m + 1)) r1).2 = o2 ++ (askR r2 k x).2) := by
                    rw [Hid, take_snocQ hx, asksR_snoc, ← hr2, ho2]
                    exact ⟨rfl, by rw [List.append_assoc]⟩
                  have HWV2 := Hid.mkq (HS.out.rt.w.toV (Nat.le_refl _))
                  obtain ⟨wa2, wc2, hwe⟩ := own_slice HS.out.rt.w.1
                  subst hwe
                  have c1 := HS.out.rt.blk.cell 1 rfl
                  have zb := HS.out.rt.blk.lt
                  have hm1' := HS.out.m1
                  have hm2' := HS.out.m2
                  clear hx q0 hr2 ho2
                  go_wp2_with fail
                  go_loopw [12, 84] (fun u i wr => ∃ j : Nat, j ≤ r2.waits.length ∧ i = .int .i64 j ∧ u = .slice ua o2.length ucap ∧ (∀ d ∈ r2.waits.take j, sameA x k d = true → mayR r2 d = false) ∧ Mod noBlock wm wr) (fun _ i _ => r2.waits.length - (intOf i).toNat)
                  case atStart => exact ⟨0, Nat.zero_le _, rfl, rfl, by simp, Mod.refl _ _⟩
                  case round =>
                    obtain ⟨j, hjl, rfl, rfl, hno, hM⟩ := hrel
                    have HNO := Hid.mkq hno
                    have HM := Hid.mkq hM
                    clear hno hM p0 c1 zb
                    by_cases hjt : j < r2.waits.length
                    · obtain ⟨d, hd⟩ : ∃ d, r2.waits[j]? = some d := ⟨_, List.getElem?_eq_getElem hjt⟩
                      obtain ⟨hb, off, rfl, _, hok, q0, q1, q2⟩ := HWV2.out.at hd
                      have p0 := HM.out.cell q0 id
                      have p1 := HM.out.cell q1 id
                      have p2 := HM.out.cell q2 id
                      have hltI' : (j : Int) < (r2.waits.length : Int) := by omega
                      have hlt0' : (0 : Int) ≤ (j : Int) := by omega
                      obtain ⟨w3, hw3⟩ : ∃ q, q = wr.alloc (.cells #[.int .i64 d.tx, .string d.key, .int .i64 d.mode] 37) := ⟨_, rfl⟩
                      obtain ⟨ab, hab⟩ : ∃ q, q = wr.heap.size := ⟨_, rfl⟩
                      have hm3 : Mod noBlock wr w3 := by rw [hw3]; exact (Mod.refl _ wr).alloc _
                      have hb3 : Blk w3 ab (askCells d) 37 := by rw [hw3, hab]; exact Blk.new wr (askCells d) 37
                      have r0 := hb3.cell 0 rfl
                      have r1' := hb3.cell 1 rfl
                      have r2' := hb3.cell 2 rfl
                      have hz3 := hb3.lt
                      have HB3 := Hid.mkq hb3
                      have HM3 := Hid.mkq (HM.out.trans hm3)
                      have habz : wm.heap.size ≤ ab := by rw [hab]; exact HM.out.size
                      have HDM : Hid (d ∈ r2.waits) := List.mem_of_getElem? hd
                      have HNX2 : Hid ((sameA x k d && mayR r2 d) = false → ∀ e ∈ r2.waits.take (j + 1), sameA x k e = true → mayR r2 e = false) := fun hf e he hs => by
                        rw [take_snocQ hd] at he
                        rcases List.mem_append.1 he with he | he
                        · exact HNO.out e he hs
                        · simp at he
                          subst he
                          rw [hs] at hf
                          simpa using hf
                      have HSM : Hid (sameA x k d = (decide (d.tx = x) && decide (d.key = k))) := rfl
                      clear hd q0 q1 q2 hb3 hm3 HNO
                      go_upto_region 26 with fail
                      rw [← hab, ← hw3]
                      clear hw3 p0 p1 p2 hab
                      go_cut [102] from 88 to 119 (fun bv wc => bv = .bool (sameA x k d && mayR r2 d) ∧ Mod noBlock w3 wc)
                      case first =>
                        by_cases e1 : d.tx = x
                        · have e1' : (d.tx == x) = true := by simpa using e1
                          by_cases e2 : d.key = k
                          · have e2' : (d.key.toList == k.toList) = true := by rw [e2]; simp
                            have HR : Hid ((sameA x k d && mayR r2 d) = mayR r2 d) := by rw [HSM.out, Hid]; simp [e1, e2]
                            have HMY := Hid.mkq (may_any w.heap.size b hv (.slice (some ⟨hb, off, none⟩) r2.waits.length wc2) r2 d w3 (HS.out.rt.quiet HM3.out) (by omega) (by omega))
                            clear e1 e2
                            go_wp2_with (first | (go_at_call 17; with_reducible refine HMY.out.mono ?_) | fail)
                            rintro e w5 ⟨rfl, hm5⟩
                            go_wp2_with fail
                            go_meet
                            case rel => exact ⟨by rw [HR.out], hm5⟩
                          · have e2' : (d.key.toList == k.toList) = false := keyQ_ne e2
                            have HR : Hid ((sameA x k d && mayR r2 d) = false) := by rw [HSM.out, Hid]; simp [e2]
                            go_wp2_with fail
                            go_meet
                            case rel => exact ⟨by rw [HR.out], Mod.refl _ _⟩
                        · have e1' : (d.tx == x) = false := by simpa using e1
                          have HR : Hid ((sameA x k d && mayR r2 d) = false) := by rw [HSM.out, Hid]; simp [e1]
                          go_wp2_with fail
                          go_meet
                          case rel => exact ⟨by rw [HR.out], Mod.refl _ _⟩
                      case rest =>
                        obtain ⟨rfl, hmc⟩ := hcut
                        obtain ⟨wq, hwq⟩ : ∃ y, y = wc := ⟨_, rfl⟩
                        subst hwq
                        have HMC := Hid.mkq (HM3.out.trans hmc)
                        have hbc := HB3.out.mod hmc id
                        have s0 := hbc.cell 0 rfl
                        have s1 := hbc.cell 1 rfl
                        have s2 := hbc.cell 2 rfl
                        have hzc := hbc.lt
                        have HBC := Hid.mkq hbc
                        clear hmc hbc r0 r1' r2' hz3 HB3 HM3 HM
                        cases hsm : (sameA x k d && mayR r2 d) with
                        | false =>
                          have HNE := Hid.mkq (HNX2.out hsm)
                          go_wp2_with fail
                          go_roundw
                          case rel => exact ⟨j + 1, by omega, by go_num, rfl, HNE.out, HMC.out⟩
                          case measure => simp [intOf]; omega
                        | true =>
                          have hsm2 : sameA x k d = true ∧ mayR r2 d = true := by simpa using hsm
                          have HASK := Hid.mkq (askR_some HS.out.uw HDM.out hsm2.1 hsm2.2)
                          have hzmc := HMC.out.size
                          have hzw := HS.out.md.size
                          have HHS := Hid.mkq (has_any w.heap.size b hv (.slice (some ⟨hb, off, none⟩) r2.waits.length wc2) r2 d wq (HS.out.rt.quiet HMC.out) HS.out.uh (by omega) hok (by omega))
                          go_wp2_with (first | (go_at_call 18; with_reducible refine HHS.out.mono ?_) | fail)
                          rintro e w8 ⟨rfl, hh8⟩
                          have HH8 := Hid.mkq hh8
                          obtain ⟨hv8, hrt8, hm8, -⟩ := hh8
                          have hb8 := HBC.out.mod hm8 (fun e => by
                            rcases e with e | e
                            · have := HS.out.rt.blk.lt; omega
                            · have := (own_cellsVQ HS.out.rt.h.1 e).2.1; omega)
                          have t0 := hb8.cell 0 rfl
                          have t1 := hb8.cell 1 rfl
                          have t2 := hb8.cell 2 rfl
                          have hz8 := hb8.lt
                          have HB8 := Hid.mkq hb8
                          have hout8 : RowA w8 w.heap.size (.slice ua o2.length ucap) o2 := (HS.out.out.mod HMC.out (fun _ _ => id)).mod hm8 (fun y hy e => by
                            rcases e with e | e
                            · subst e; exact row_rt HS.out.rt.blk HS.out.out hy
                            · exact (HS.out.ha y hy).1 e)
                          have HOUT8 := Hid.mkq hout8
                          have HROW9 : Hid (w8.ownsRow w.heap.size 37 3 (.slice ua o2.length ucap) o2.length (asksCells o2)) := hout8.1
                          have hk63 : o2.length + 1 ≤ maxLen := by unfold maxLen; omega
                          have hk47 : (o2.length + 1) * 32 ≤ 140737488355328 := by omega
                          have HONE := Hid.mkq (askCells_one d)
                          have hzw8 : w.heap.size ≤ w8.heap.size := by have := hm8.size; omega
                          have HRT8 := Hid.mkq hrt8
                          clear hrt8 hm8 hb8 hout8 s0 s1 s2 hzc HBC HHS
                          go_wp2_with (first
                            | (at_builtin; refine wpList_append_own_at _ rfl (.tmp 106) (.tmp 108) 27 rfl w.heap.size 37 j0 _ 3 32 Tryz.underlying27 hj jz0 jz1 jz2 rfl (by omega) _ _ _ rfl (HROW9.out.alloc _) ⟨w8.heap.size, 0, none⟩ 1 1 (askCells d) rfl rfl (World.news_of_block (heap_alloc_new w8 _)) HONE.out hk63 hk47 (by simp; omega) ?_)
                            | fail)
                          intro v9 w9 hown9 hgrow9 _ hat9
                          have hm9 : Mod (fun y => (Value.slice ua o2.length ucap).ownBlock = some y) w8 w9 := ((Mod.refl _ w8).alloc _).grown hgrow9 (fun y hy _ => hy)
                          obtain ⟨a9, c9, hv9⟩ := own_slice hown9
                          subst hv9
                          have hat' : (Value.slice a9 (o2.length + 1) c9).ownBlock = (Value.slice ua o2.length ucap).ownBlock ∨ ∀ y, (Value.slice a9 (o2.length + 1) c9).ownBlock = some y → w8.heap.size ≤ y := by
                            rcases hat9 with q | q
                            · exact .inl q
                            · refine .inr (fun y hy => ?_)
                              rw [q] at hy
                              simp at hy
                              omega
                          have HAT := Hid.mkq hat'
                          have HOWN9 : Hid (RowA w9 w.heap.size (.slice a9 (o2.length + 1) c9) (o2 ++ [d])) := RowA.snoc rfl hown9 HS.out.out.2 hok
                          have HM9 := Hid.mkq hm9
                          have hbb := HRT8.out.blk.mod hm9 (row_rt HS.out.rt.blk HS.out.out)
                          have kb1 := hbb.cell 1 rfl
                          have kf1 := hbb.frozen 1
                          have kzb := hbb.lt
                          have hb9 := HB8.out.mod hm9 (fun e => by have := (own_cellsVQ HS.out.out.1 e).2.1; omega)
                          have s0 := hb9.cell 0 rfl
                          have s1 := hb9.cell 1 rfl
                          have s2 := hb9.cell 2 rfl
                          have hz9 := hb9.lt
                          have hwv9 : RowA w9.drew w.heap.size (.slice (some ⟨hb, off, none⟩) r2.waits.length wc2) r2.waits := (HRT8.out.w.mod hm9 (fun y hy e => (HS.out.ha y e).2 hy)).mod ((Mod.refl noBlock w9).drew) (fun _ _ => id)
                          have HWO := Hid.mkq (without_any _ r2.waits d w9.drew (hwv9.toV (Nat.le_refl _)) (by omega))
                          clear hown9 hgrow9 hat9 hm9 hat' hbb hb9 hwv9 t0 t1 t2 hz8 HB8 HROW9 HOUT8 HRT8 HNX2 HSM
                          go_upto_region 29 with fail
                          go_cut [] (fun wc => ∃ w10 wv', RowA w10 w9.heap.size wv' (withoutR r2.waits d) ∧ Mod noBlock w9 w10 ∧ wc = w10.setCell ⟨b, 1, none⟩ wv')
                          case first =>
                            go_region_with (first
                              | (go_at_call 25; refine HWO.out.mono ?_; rintro e w10 ⟨u10, rfl, hu10, hm10⟩; have hm910 : Mod noBlock w9 w10 := ((Mod.refl _ w9).drew).trans hm10; have d6 := hm910.cell kb1 id; have f6 := (hm910.frozen (p := ⟨b, 1, none⟩) kzb id).trans kf1; obtain ⟨ua10, uc10, rfl⟩ := own_slice hu10.1)
                              | fail)
                            all_goals
                              have HU10 := Hid.mkq hu10
                              have HM10 := Hid.mkq hm910
                              clear hu10 hm10 hm910
                              go_wp2_with fail
                              go_meet
                              case rel => exact ⟨w10, _, HU10.out, HM10.out, rfl⟩
                          case rest =>
                            obtain ⟨w10, wv', hwo, hm10, hwc⟩ := hcut
                            obtain ⟨hv', hS2, hT⟩ := RelS.step rfl (HS.out.quiet HMC.out) HDM.out HH8.out HOWN9.out HM9.out HAT.out hwo hm10
                            rw [← hwc] at hS2 hT
                            have HE : Hid (RelS w wc b w.heap.size M hv' wv' (asksR k (ws.take (m + 1)) r1).1 (.slice a9 (o2.length + 1) c9) (o1 ++ (asksR k (ws.take (m + 1)) r1).2)) := by
                              rw [Hid, HNY.out.1, HNY.out.2, HASK.out]
                              exact hS2
                            have HKE := Hid.mkq ((HK.out.quiet HMC.out).turn hT)
                            have HVE := Hid.mkq ((HV.out.quiet HMC.out).turn hT)
                            clear hwo hm10 hwc hS2 hT kb1 kf1 kzb s0 s1 s2 hz9 HWO
                            go_wp2_with fail
                            go_roundw
                            case rel => exact ⟨m + 1, hv', wv', by omega, by go_num, HE.out, HKE.out, HVE.out⟩
                            case measure => simp [intOf]; omega
                    · obtain rfl : j = r2.waits.length := by omega
                      have hnone : askR r2 k x = (r2, []) := askR_none (fun d hd => HNO.out d (by rw [List.take_length]; exact hd))
                      have HE : Hid (RelS w wr b w.heap.size M hv (.slice wa2 r2.waits.length wc2) (asksR k (ws.take (m + 1)) r1).1 (.slice ua o2.length ucap) (o1 ++ (asksR k (ws.take (m + 1)) r1).2)) := by
                        rw [Hid, HNY.out.1, HNY.out.2, hnone]
                        simp only [List.append_nil]
                        exact HS.out.quiet HM.out
                      have HKE := Hid.mkq (HK.out.quiet HM.out)
                      have HVE := Hid.mkq (HV.out.quiet HM.out)
                      clear HNO
                      go_wp2_with fail
                      go_roundw
                      case rel => exact ⟨m + 1, hv, _, by omega, by go_num, HE.out, HKE.out, HVE.out⟩
                      case measure => simp [intOf]; omega
                · obtain rfl : m = ws.length := by omega
                  have HE : Hid (RelS w wm b w.heap.size M hv wv (keysR (ks.take (n + 1)) (cutR r t)).1 (.slice ua (o1 ++ (asksR k (ws.take ws.length) r1).2).length ucap) (keysR (ks.take (n + 1)) (cutR r t)).2) := by have := HS.out; rw [List.take_length] at this; rw [Hid, HNX.out, List.take_length]; exact this
                  go_wp2_with fail
                  go_roundw
                  case rel => exact ⟨n + 1, hv, wv, by omega, by go_num, HE.out, HK.out⟩
                  case measure => simp [intOf]; omega
            · obtain rfl : n = ks.length := by omega
              have HFIN : Hid (RelDP w b M r t (.returned (.slice ua (keysR (ks.take ks.length) (cutR r t)).2.length ucap)) wl) := ⟨_, hv, wv, ks, rfl, HKS.out, HKM.out, by have := HS.out; rw [List.take_length] at this; rw [List.take_length]; exact this⟩
              go_wp2_with fail
              go_ret
              exact HFIN.out
end Go.Proofs.YtkoncehhpiegfaaGreatDoor
