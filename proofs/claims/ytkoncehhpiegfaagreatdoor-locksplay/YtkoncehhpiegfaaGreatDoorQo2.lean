/- Package locks: Lock, the walk. -/
import Derived.Test.YtkoncehhpiegfaaGreatDoorQo
namespace Go.Proofs.YtkoncehhpiegfaaGreatDoor
open Go.RowKit Go.Lib Go.Maps
set_option linter.unusedVariables false

theorem makeErrQ (e : Int) (w : World) : (Instr.makeInterface 33 (.int .i64 e)).run Tryz.prog w = .ok (.iface 33 (.int .i64 e)) w := by kernel_rfl
/-- A row of the key laid anew, and the key kept: what it comes to. -/
theorem lock_end {w w6 w7 w8 : World} {B N : Nat} {q q' : TbM} {s : Tab} {name : ByteArray} {v : Bool → Value} {k' : KeyS} {c : ClmD} {u : Value} (i0 : Bool) (h : TbP w B N q s) (hn : okQ name) (hm6 : Mod (fun x => (q.hd name i0).ownBlock = some x ∨ w.heap.size ≤ x) w w6)
    (hvo : ∀ i x, (v i).ownBlock = some x → q.own x ∨ w.heap.size ≤ x) (hk : KeepQ w6 w7 B (N + 1) q q' s name v k') (hm8 : Mod noBlock w7 w8) (hk' : (lockN (s name) c).1 = k') (hu : RowI w8 w.heap.size u (lockN (s name) c).2.2.1) : LockQ w w8 B (N + 1) q q' s name c u := by
  have hmb : ∀ x, x < w.heap.size → (q.hd name i0).ownBlock = some x ∨ w.heap.size ≤ x → q.own x := fun x hx e => by
    rcases e with e | e
    · exact .inr ⟨name, i0, hn, e⟩
    · omega
  have a1 : Mod (fun x => x = q.b ∨ q.own x) w w6 := hm6.mono (fun x hx e => .inr (hmb x hx e))
  have a2 := a1.trans (hk.md.mono (G' := fun x => x = q.b ∨ q.own x) (fun x _ e => e.imp id (fun e => .inl e)))
  refine ⟨hu, by rw [hk']; exact hk.tb.mod hm8 id (fun _ _ => id), hk.b, hk.pre, hk.post, hk.t, hk.n1, a2.trans (hm8.mono (fun _ _ e => e.elim)), fun x hx => ?_⟩
  rcases hk.own x hx with e | e | ⟨i, e⟩
  · exact .inl e
  · exact .inr (Nat.le_trans hm6.size e)
  · exact hvo i x e
set_option maxRecDepth 100000 in
set_option maxHeartbeats 8000000 in
theorem lock_any (B N : Nat) (q : TbM) (s : Tab) (t : Int) (name : ByteArray) (m : Int) (w : World) (h : TbP w B N q s) (hm12 : m = 1 ∨ m = 2) (hn : name.size ≤ 20) (hN : N ≤ 390) (hqn : q.n ≤ 1000000) (hB : B ≤ w.heap.size) :
    Calls Tryz.prog 5 #[.pointer (some ⟨q.b, q.pre.length, none⟩), .int .i64 t, .string name, .int .i64 m] w (LockP w B (N + 1) q s name ⟨t, m⟩) := by
  have hok : okQ name := by unfold okQ maxLen; omega
  have hd13 : (m != 1 && m != 2) = false := by rcases hm12 with rfl | rfl <;> rfl
  have c0 := h.cell
  have z0 := h.blk.lt
  have hlook := h.look hok
  have hfew := h.few name hok
  have hKO := h.ok name hok
  obtain ⟨ha, hcap, hhv⟩ := own_slice (h.rows name true hok id)
  obtain ⟨wa, wcap, hwv⟩ := own_slice (h.rows name false hok id)
  have e1 : (s name).list true = (s name).held := rfl
  have e2 : (s name).list false = (s name).waits := rfl
  rw [e1] at hhv
  rw [e2] at hwv
  obtain ⟨w1, hw1⟩ : ∃ x, x = (w.alloc (.cells #[q.hd name true, q.hd name false] 59)).alloc (.cells #[.int .i64 t, .int .i64 m] 61) := ⟨_, rfl⟩
  have hm1 : Mod noBlock w w1 := by rw [hw1]; exact ((Mod.refl _ w).alloc _).alloc _
  have hb1 : Blk w1 w.heap.size [q.hd name true, q.hd name false] 59 := by rw [hw1]; exact (Blk.new w [q.hd name true, q.hd name false] 59).mod ((Mod.refl noBlock _).alloc _) id
  have hc1 : Blk w1 (w.heap.size + 1) (clmCells ⟨t, m⟩) 61 := by
    rw [hw1]
    have := Blk.new (w.alloc (.cells #[q.hd name true, q.hd name false] 59)) (clmCells ⟨t, m⟩) 61
    rw [World.size_alloc] at this
    exact this
  have h1 := h.mod hm1 id (fun _ _ => id)
  have hz1 : w1.heap.size = w.heap.size + 1 + 1 := by rw [hw1]; simp
  have HT := Hid.mkq h
  have HT1 := Hid.mkq h1
  have HM1 := Hid.mkq hm1
  have HB1 := Hid.mkq hb1
  have HC1 := Hid.mkq hc1
  have HKO := Hid.mkq hKO
  -- what is asked of the lists
  have HMW := Hid.mkq (modeOf_any w1.heap.size (q.hd name false) (s name).waits t w1 ((h1.rows name false hok id).toV (Nat.le_refl _)) hKO.waits (by omega))
  have HMH : Hid (∀ w2, Mod noBlock w1 w2 → Calls Tryz.prog 19 #[q.hd name true, .int .i64 t] w2 fun e w' => e = .returned (.int .i64 (modeN (s name).held t)) ∧ Mod noBlock w2 w') := fun w2 hm2 =>
    modeOf_any w2.heap.size _ _ t w2 (((h1.rows name true hok id).mod hm2 (fun _ _ => id)).toV (Nat.le_refl _)) hKO.held (by have := hfew; omega)
  have HFR : Hid (∀ w2, Mod noBlock w1 w2 → Calls Tryz.prog 20 #[.pointer (some ⟨w.heap.size, 0, none⟩), .agg #[.int .i64 t, .int .i64 m]] w2 fun e w' => e = .returned (.bool (freeN (s name).held (s name).waits ⟨t, m⟩)) ∧ Mod noBlock w2 w') := fun w2 hm2 =>
    free_any w2.heap.size w.heap.size (q.hd name true) (q.hd name false) (s name).held (s name).waits ⟨t, m⟩ w2 (hb1.mod hm2 id) (((h1.rows name true hok id).mod hm2 (fun _ _ => id)).toV (Nat.le_refl _)) (((h1.rows name false hok id).mod hm2 (fun _ _ => id)).toV (Nat.le_refl _)) (by omega) (by omega)
  have HWI : Hid (∀ (i : Bool) (w2 : World), Mod noBlock w1 w2 → Calls Tryz.prog 21 #[q.hd name i, .agg #[.int .i64 t, .int .i64 m]] w2 (WithP w2 B (q.hd name i) ((s name).list i) ⟨t, m⟩)) := fun i w2 hm2 =>
    with_any B _ _ ⟨t, m⟩ w2 ((h1.rows name i hok id).mod hm2 (fun _ _ => id)) (by cases i; exact hKO.waits; exact hKO.held) (by cases i <;> simp only [KeyS.list] <;> (try simp) <;> omega) (Nat.le_trans hB (Nat.le_trans hm1.size hm2.size))
  have HLK := Hid.mkq (lock_ok (c := ⟨t, m⟩) hKO hm12)
  have HLL := Hid.mkq (lockN_len (s name) ⟨t, m⟩)
  have HLN : Hid (lockN (s name) ⟨t, m⟩ = if modeN (s name).waits t ≠ 0 then (s name, false, [], 9) else if m ≤ modeN (s name).held t then (s name, true, [], 0) else if freeN (s name).held (s name).waits ⟨t, m⟩ then ({ s name with held := withN (s name).held ⟨t, m⟩ }, true, [], 0) else if 50 ≤ (s name).waits.length then (s name, false, [], 4) else ({ s name with waits := withN (s name).waits ⟨t, m⟩ }, false, woundN (s name).held ⟨t, m⟩, 0)) := rfl
  have p0 := hb1.cell 0 rfl
  have p1 := hb1.cell 1 rfl
  have x0 := hc1.cell 0 rfl
  have x1 := hc1.cell 1 rfl
  have HHV := Hid.mkq hhv
  have HWV := Hid.mkq hwv
  rw [hhv] at p0
  rw [hwv] at p1
  rw [hhv, hwv] at hw1 hlook
  rw [hwv] at HMW
  have hmi := makeErrQ
  have hlI : ¬ ((name.size : Int) > 20) := by omega
  have hzk : w.heap.size < w1.heap.size := by omega
  have hzc : w.heap.size + 1 < w1.heap.size := by omega
  clear h h1 hm1 hb1 hc1 hhv hwv e1 e2 hKO
  go_enter Tryz.func5, Tryz.ntmps5
  go_upto_region 1 with fail
  go_cut [18] (fun b wc => b = .bool false ∧ wc = w)
  case first =>
    rcases hm12 with rfl | rfl
    · go_wp2_with fail
      go_meet
      case rel => exact ⟨rfl, rfl⟩
    · go_wp2_with fail
      go_meet
      case rel => exact ⟨rfl, rfl⟩
  obtain ⟨rfl, hwc0⟩ := hcut
  rw [hwc0]
  clear hwc0
  go_upto_region 6 with fail
  rw [← hw1]
  clear hw1 hlook c0
  go_wp2_with fail
  refine HMW.out.mono ?_
  rintro e w2 ⟨rfl, hm2⟩
  have HM2 := Hid.mkq hm2
  clear HMW
  by_cases g1 : modeN (s name).waits t = 0
  · have HLN1 : Hid (lockN (s name) ⟨t, m⟩ = if m ≤ modeN (s name).held t then (s name, true, [], 0) else if freeN (s name).held (s name).waits ⟨t, m⟩ then ({ s name with held := withN (s name).held ⟨t, m⟩ }, true, [], 0) else if 50 ≤ (s name).waits.length then (s name, false, [], 4) else ({ s name with waits := withN (s name).waits ⟨t, m⟩ }, false, woundN (s name).held ⟨t, m⟩, 0)) := by rw [HLN.out, if_neg (by simp [g1])]; rfl
    have HMH2 := HMH.out w2 hm2
    rw [HHV.out] at HMH2
    have HMH3 := Hid.mkq HMH2
    have y0 := hm2.cell p0 id
    have y1 := hm2.cell p1 id
    have u0 := hm2.cell x0 id
    have u1 := hm2.cell x1 id
    have hzk2 := Nat.lt_of_lt_of_le hzk hm2.size
    have hzc2 := Nat.lt_of_lt_of_le hzc hm2.size
    clear HMH HLN HMH2 p0 p1 x0 x1 hm2
    rw [g1]
    go_wp2_with fail
    refine HMH3.out.mono ?_
    rintro e w3 ⟨rfl, hm3⟩
    have HM3 := Hid.mkq (HM2.out.trans hm3)
    by_cases g2 : m ≤ modeN (s name).held t
    · have hge : decide (modeN (s name).held t ≥ m) = true := decide_eq_true g2
      have HFIN : Hid (LockP w B (N + 1) q s name ⟨t, m⟩ (.returned (.tuple #[.bool true, .slice none 0 0, .nilIface])) w3) := by
        have hl : lockN (s name) ⟨t, m⟩ = (s name, true, [], 0) := by rw [HLN1.out, if_pos g2]
        refine ⟨q, .slice none 0 0, by rw [hl]; rfl, lock_same HT.out (HM1.out.trans HM3.out) (by rw [hl]) (by rw [hl])⟩
      clear HLN1
      go_wp2_with fail
      go_ret3
      exact HFIN.out
    · have hge : decide (modeN (s name).held t ≥ m) = false := decide_eq_false (by omega)
      have HLN2 : Hid (lockN (s name) ⟨t, m⟩ = if freeN (s name).held (s name).waits ⟨t, m⟩ then ({ s name with held := withN (s name).held ⟨t, m⟩ }, true, [], 0) else if 50 ≤ (s name).waits.length then (s name, false, [], 4) else ({ s name with waits := withN (s name).waits ⟨t, m⟩ }, false, woundN (s name).held ⟨t, m⟩, 0)) := by rw [HLN1.out, if_neg g2]; rfl
      have HFR3 := Hid.mkq (HFR.out w3 HM3.out)
      have z0' := hm3.cell y0 id
      have z1' := hm3.cell y1 id
      have v0 := hm3.cell u0 id
      have v1 := hm3.cell u1 id
      have hzk3 := Nat.lt_of_lt_of_le hzk2 hm3.size
      have hzc3 := Nat.lt_of_lt_of_le hzc2 hm3.size
      clear HFR HLN1 y0 y1 u0 u1 hm3 g2
      go_wp2_with fail
      refine HFR3.out.mono ?_
      rintro e w4 ⟨rfl, hm4⟩
      have HM4 := Hid.mkq (HM3.out.trans hm4)
      have HB4 := Hid.mkq (HB1.out.mod HM4.out id)
      have HC4 := Hid.mkq (HC1.out.mod HM4.out id)
      have r0 := hm4.cell z0' id
      have r1 := hm4.cell z1' id
      have s0 := hm4.cell v0 id
      have s1 := hm4.cell v1 id
      have hzk4 := Nat.lt_of_lt_of_le hzk3 hm4.size
      have hzc4 := Nat.lt_of_lt_of_le hzc3 hm4.size
      have HT4 : Hid (TbP w4 B N q s) := HT1.out.mod HM4.out id (fun _ _ => id)
      clear z0' z1' v0 v1 hm4 HFR3
      cases hfr : freeN (s name).held (s name).waits ⟨t, m⟩ with
      | true =>
        have HLN3 : Hid (lockN (s name) ⟨t, m⟩ = ({ s name with held := withN (s name).held ⟨t, m⟩ }, true, [], 0)) := by rw [HLN2.out, hfr]; rfl
        clear HLN2
        have hwi := HWI.out true w4 HM4.out
        rw [HHV.out] at hwi
        have HWI4 := Hid.mkq hwi
        clear hwi HWI
        go_upto_region 11 with fail
        go_wp2_with fail
        refine HWI4.out.mono ?_
        rintro e w5 ⟨u, rfl, hru, hm5, hat5⟩
        have hkne : ¬ (Value.slice ha (s name).held.length hcap).ownBlock = some w.heap.size := fun e => by
          have hr := HT.out.rows name true hok id
          rw [HHV.out] at hr
          have := (own_cellsVQ hr e).2.1; omega
        have hb5 := HB4.out.mod hm5 hkne
        have hb6 := hb5.set 0 u
        obtain ⟨w6, hw6⟩ : ∃ x, x = w5.setCell ⟨w.heap.size, 0, none⟩ u := ⟨_, rfl⟩
        rw [← hw6] at hb6
        have hm56 : Mod (oneBlock w.heap.size) w5 w6 := by rw [hw6]; exact Mod.setBlk _ _ _
        have hm6 : Mod (fun x => (q.hd name true).ownBlock = some x ∨ w.heap.size ≤ x) w w6 := by
          refine ((HM1.out.trans HM4.out).mono (fun _ _ e => e.elim)).trans ((hm5.mono (fun x _ e => .inl (by rw [HHV.out]; exact e))).trans (hm56.mono (fun x _ e => .inr (by simp only [oneBlock] at e; omega))))
        have hz4 := HM4.out.size
        have hat : u.ownBlock = (q.hd name true).ownBlock ∨ ∀ x, u.ownBlock = some x → w.heap.size ≤ x := by
          rw [HHV.out]
          exact hat5.imp id (fun h x hx => by have := h x hx; omega)
        have hru6 : RowK w6 B u (withN (s name).held ⟨t, m⟩) := hru.mod hm56 (fun x hx e => by
          simp only [oneBlock] at e
          rw [e] at hx
          rcases hat5 with h9 | h9
          · rw [h9] at hx; exact hkne hx
          · have := h9 _ hx; omega)
        obtain ⟨hKP, hTX⟩ := kept_one true { s name with held := withN (s name).held ⟨t, m⟩ } HT.out hok hru6 rfl rfl hm6 hat
        obtain ⟨v, hv⟩ : ∃ v : Bool → Value, v = fun i => if i = true then u else q.hd name i := ⟨_, rfl⟩
        rw [← hv] at hKP
        have hvt : v true = u := by rw [hv]; rfl
        have hvf : v false = q.hd name false := by rw [hv]; rfl
        have hlk := HLK.out
        have hll := HLL.out
        rw [HLN3.out] at hlk hll
        have hke := keep_any B N (N + 1) q s name v _ w6 hTX hok hKP hlk (by simp only at hll ⊢; omega) (by omega) hqn (Nat.le_trans hB hm6.size)
        rw [hvt, hvf, HWV.out] at hke
        have HKE := Hid.mkq hke
        have HVO : Hid (∀ i x, (v i).ownBlock = some x → q.own x ∨ w.heap.size ≤ x) := fun i x hx => by
          cases i with
          | false => rw [hvf] at hx; exact .inl (.inr ⟨name, false, hok, hx⟩)
          | true =>
            rw [hvt] at hx
            rcases hat with h9 | h9
            · exact .inl (.inr ⟨name, true, hok, by rw [← h9]; exact hx⟩)
            · exact .inr (h9 x hx)
        have HM6 := Hid.mkq hm6
        have f5 := hb5.frozen 0
        have d5 := hb5.cell 0 rfl
        have hzk5 := hb5.lt
        have b60 := hb6.cell 0 rfl
        have b61 := hb6.cell 1 rfl
        have hzk6 := hb6.lt
        rw [HWV.out] at b61
        obtain ⟨ua, ucap, hu⟩ := own_slice hru
        subst hu
        clear hru hm5 hat5 hb5 hb6 hm56 hm6 hat hru6 hKP hTX hv hvt hvf hke hlk hll HWI4 r0 r1
        go_upto_region 12 with fail
        rw [← hw6]
        clear hw6 f5 d5 hzk5
        go_wp2_with fail
        refine HKE.out.mono ?_
        rintro e w7 ⟨rfl, q', hQ⟩
        have HFIN : Hid (LockP w B (N + 1) q s name ⟨t, m⟩ (.returned (.tuple #[.bool true, .slice none 0 0, .nilIface])) w7) := by
          refine ⟨q', .slice none 0 0, by rw [HLN3.out]; rfl, lock_end true HT.out hok HM6.out HVO.out hQ (Mod.refl _ _) (by rw [HLN3.out]) (by rw [HLN3.out]; exact World.ownsRow_nil _ _ _ _)⟩
        clear hQ HKE
        go_wp2_with fail
        go_ret3
        exact HFIN.out
      | false =>
        have HLN3 : Hid (lockN (s name) ⟨t, m⟩ = if 50 ≤ (s name).waits.length then (s name, false, [], 4) else ({ s name with waits := withN (s name).waits ⟨t, m⟩ }, false, woundN (s name).held ⟨t, m⟩, 0)) := by rw [HLN2.out, hfr]; rfl
        clear HLN2
        by_cases g4 : 50 ≤ (s name).waits.length
        · have hgi : decide (((s name).waits.length : Int) ≥ 50) = true := decide_eq_true (by omega)
          have HFIN : Hid (LockP w B (N + 1) q s name ⟨t, m⟩ (.returned (.tuple #[.bool false, .slice none 0 0, .iface 33 (.int .i64 4)])) w4) := by
            have hl : lockN (s name) ⟨t, m⟩ = (s name, false, [], 4) := by rw [HLN3.out, if_pos g4]
            refine ⟨q, .slice none 0 0, by rw [hl]; rfl, lock_same HT.out (HM1.out.trans HM4.out) (by rw [hl]) (by rw [hl])⟩
          clear HLN3
          go_wp2_with fail
          go_ret3
          exact HFIN.out
        · have hgi : decide (((s name).waits.length : Int) ≥ 50) = false := decide_eq_false (by omega)
          have HLN4 : Hid (lockN (s name) ⟨t, m⟩ = ({ s name with waits := withN (s name).waits ⟨t, m⟩ }, false, woundN (s name).held ⟨t, m⟩, 0)) := by rw [HLN3.out, if_neg g4]; rfl
          clear HLN3
          have hwi := HWI.out false w4 HM4.out
          rw [HWV.out] at hwi
          have HWI4 := Hid.mkq hwi
          clear hwi HWI
          go_upto_region 16 with fail
          go_wp2_with fail
          refine HWI4.out.mono ?_
          rintro e w5 ⟨u, rfl, hru, hm5, hat5⟩
          have hkne : ¬ (Value.slice wa (s name).waits.length wcap).ownBlock = some w.heap.size := fun e => by
            have hr := HT.out.rows name false hok id
            rw [HWV.out] at hr
            have := (own_cellsVQ hr e).2.1; omega
          have hkne1 : ¬ (Value.slice wa (s name).waits.length wcap).ownBlock = some (w.heap.size + 1) := fun e => by
            have hr := HT.out.rows name false hok id
            rw [HWV.out] at hr
            have := (own_cellsVQ hr e).2.1; omega
          have hb5 := HB4.out.mod hm5 hkne
          have hc5 := HC4.out.mod hm5 hkne1
          have hb6 := hb5.set 1 u
          obtain ⟨w6, hw6⟩ : ∃ x, x = w5.setCell ⟨w.heap.size, 1, none⟩ u := ⟨_, rfl⟩
          rw [← hw6] at hb6
          have hm56 : Mod (oneBlock w.heap.size) w5 w6 := by rw [hw6]; exact Mod.setBlk _ _ _
          have hc6 := hc5.mod hm56 (fun e => by simp only [oneBlock] at e; omega)
          have hm6 : Mod (fun x => (q.hd name false).ownBlock = some x ∨ w.heap.size ≤ x) w w6 := by
            refine ((HM1.out.trans HM4.out).mono (fun _ _ e => e.elim)).trans ((hm5.mono (fun x _ e => .inl (by rw [HWV.out]; exact e))).trans (hm56.mono (fun x _ e => .inr (by simp only [oneBlock] at e; omega))))
          have hz4 := HM4.out.size
          have hat : u.ownBlock = (q.hd name false).ownBlock ∨ ∀ x, u.ownBlock = some x → w.heap.size ≤ x := by
            rw [HWV.out]
            exact hat5.imp id (fun h x hx => by have := h x hx; omega)
          have hru6 : RowK w6 B u (withN (s name).waits ⟨t, m⟩) := hru.mod hm56 (fun x hx e => by
            simp only [oneBlock] at e
            rw [e] at hx
            rcases hat5 with h9 | h9
            · rw [h9] at hx; exact hkne hx
            · have := h9 _ hx; omega)
          obtain ⟨hKP, hTX⟩ := kept_one false { s name with waits := withN (s name).waits ⟨t, m⟩ } HT.out hok hru6 rfl rfl hm6 hat
          obtain ⟨v, hv⟩ : ∃ v : Bool → Value, v = fun i => if i = false then u else q.hd name i := ⟨_, rfl⟩
          rw [← hv] at hKP
          have hvt : v true = q.hd name true := by rw [hv]; rfl
          have hvf : v false = u := by rw [hv]; rfl
          have hlk := HLK.out
          have hll := HLL.out
          rw [HLN4.out] at hlk hll
          have hke := keep_any B N (N + 1) q s name v _ w6 hTX hok hKP hlk (by simp only at hll ⊢; omega) (by omega) hqn (Nat.le_trans hB hm6.size)
          rw [hvt, hvf, HHV.out] at hke
          have HKE := Hid.mkq hke
          have HVO : Hid (∀ i x, (v i).ownBlock = some x → q.own x ∨ w.heap.size ≤ x) := fun i x hx => by
            cases i with
            | true => rw [hvt] at hx; exact .inl (.inr ⟨name, true, hok, hx⟩)
            | false =>
              rw [hvf] at hx
              rcases hat with h9 | h9
              · exact .inl (.inr ⟨name, false, hok, by rw [← h9]; exact hx⟩)
              · exact .inr (h9 x hx)
          have HRT : Hid (RowK w6 B (q.hd name true) (s name).held) := by have := hKP.row true; rw [hvt] at this; exact this
          have HM6 := Hid.mkq hm6
          have HB6 := Hid.mkq hb6
          have HC6 := Hid.mkq hc6
          have f5 := hb5.frozen 1
          have d5 := hb5.cell 1 rfl
          have hzk5 := hb5.lt
          have b60 := hb6.cell 0 rfl
          have b61 := hb6.cell 1 rfl
          have hzk6 := hb6.lt
          rw [HHV.out] at b60
          obtain ⟨ua, ucap, hu⟩ := own_slice hru
          subst hu
          clear hru hm5 hat5 hb5 hb6 hm56 hm6 hat hru6 hKP hTX hv hvt hvf hke hlk hll HWI4 r0 r1 hc5 hc6
          go_upto_region 17 with fail
          rw [← hw6]
          clear hw6 f5 d5 hzk5
          go_wp2_with fail
          refine HKE.out.mono ?_
          rintro e w7 ⟨rfl, q', hQ⟩
          have hnb : ∀ y, w.heap.size ≤ y → ¬ (y = q.b ∨ q.m = some y) := fun y hy e => by
            rcases e with e | e
            · omega
            · have := (HT.out.lt (.inl e)).2; omega
          have hb7 := HB6.out.mod hQ.md (hnb _ (Nat.le_refl _))
          have hc7 := HC6.out.mod hQ.md (hnb _ (by omega))
          have hr7 := HRT.out.mod hQ.md (fun x hx e => by
            have hne := HT.out.row_ne hok id hx
            exact e.elim hne.1 hne.2)
          have HWO := Hid.mkq (wounded_any B w.heap.size _ _ (s name).held ⟨t, m⟩ w7 hb7 hr7 (by omega))
          have s70 := hc7.cell 0 rfl
          have s71 := hc7.cell 1 rfl
          have hzc7 := hc7.lt
          have HQ := Hid.mkq hQ
          have hz67 := hQ.md.size
          have hz06 := HM6.out.size
          clear hQ HKE hb7 hc7 hr7 b60 b61 s0 s1
          go_upto_region 18 with fail
          go_wp2_with fail
          refine HWO.out.mono ?_
          rintro e w8 ⟨u8, rfl, hr8, hm8⟩
          have HR8 := Hid.mkq (own_base hr8 (Nat.le_trans hz06 hz67))
          obtain ⟨u8a, u8cap, hu8⟩ := own_slice hr8
          subst hu8
          have HFIN : Hid (LockP w B (N + 1) q s name ⟨t, m⟩ (.returned (.tuple #[.bool false, .slice u8a (woundN (s name).held ⟨t, m⟩).length u8cap, .nilIface])) w8) := by
            refine ⟨q', .slice u8a (woundN (s name).held ⟨t, m⟩).length u8cap, by rw [HLN4.out]; rfl, lock_end false HT.out hok HM6.out HVO.out HQ.out hm8 (by rw [HLN4.out]) (by rw [HLN4.out]; exact HR8.out)⟩
          clear hr8 HR8
          go_wp2_with fail
          go_ret3
          exact HFIN.out
  · have g1b : (modeN (s name).waits t == 0) = false := by simpa using g1
    have HFIN : Hid (LockP w B (N + 1) q s name ⟨t, m⟩ (.returned (.tuple #[.bool false, .slice none 0 0, .iface 33 (.int .i64 9)])) w2) := by
      have hl : lockN (s name) ⟨t, m⟩ = (s name, false, [], 9) := by rw [HLN.out, if_pos g1]
      refine ⟨q, .slice none 0 0, by rw [hl]; rfl, lock_same HT.out (HM1.out.trans HM2.out) (by rw [hl]) (by rw [hl])⟩
    clear HLN HMH
    go_wp2_with fail
    go_ret3
    exact HFIN.out
end Go.Proofs.YtkoncehhpiegfaaGreatDoor
