/- The law LocksApart. -/
import Derived.Test.YtefhgakcffhgaabQz5
namespace Go.Proofs.Ytefhgakcffhgaab
open Go.RowKit Go.Lib Go.Maps
set_option linter.unusedVariables false

set_option maxRecDepth 100000 in
set_option maxHeartbeats 40000000 in
theorem locksApart_any (L : Nat) (v : Value) (l : List HldD) (w : World) (hv : HldV w L v l) (hL : L ≤ w.heap.size) :
    Calls Try.prog 4 #[v] w fun e w' => e = .returned (.bool true) ∧ Mod noBlock w w' := by
  have HV := Hid.mkq hv
  obtain ⟨a, cap, rfl, hc1, hc2⟩ := SlR.slice hv
  clear hv
  by_cases hbig : (l.length : Int) > 100
  · have hd : decide ((l.length : Int) > 100) = true := decide_eq_true hbig
    go_enter Try.func4, Try.ntmps4
    go_wp2_with fail
    go_ret
    exact ⟨rfl, Mod.refl _ _⟩
  · have hd : decide ((l.length : Int) > 100) = false := decide_eq_false hbig
    have HLK := Hid.mkq (locked_any w)
    unfold maxLen at hc2
    go_enter Try.func4, Try.ntmps4
    go_wp2_with fail
    refine HLK.out.mono ?_
    rintro e w1 ⟨rfl, hm1⟩
    obtain ⟨W, hW⟩ : ∃ x, x = (w1.alloc (.cells #[.map none] 63)).alloc (.cells #[.string ⟨#[97]⟩, .string ⟨#[98]⟩, .string ⟨#[99]⟩] 9) := ⟨_, rfl⟩
    have hmW : Mod noBlock w1 W := by rw [hW]; exact ((Mod.refl _ w1).alloc _).alloc _
    have hbT : Blk W w1.heap.size [.map none] 63 := by rw [hW]; exact (Blk.new w1 [.map none] 63).mod ((Mod.refl noBlock _).alloc _) id
    have hbK : Blk W (w1.heap.size + 1) [.string ⟨#[97]⟩, .string ⟨#[98]⟩, .string ⟨#[99]⟩] 9 := by
      rw [hW]
      have := Blk.new (w1.alloc (.cells #[.map none] 63)) [.string ⟨#[97]⟩, .string ⟨#[98]⟩, .string ⟨#[99]⟩] 9
      rw [World.size_alloc] at this
      exact this
    have HM0 := Hid.mkq (hm1.trans hmW)
    have HBK := Hid.mkq hbK
    have HI0 : Hid (LawQ W W w1.heap.size 0 bareT) := ⟨TabP.new hbT, fun k => Apart.nil [], TxB.bare⟩
    obtain ⟨tb, htb⟩ : ∃ x, x = w1.heap.size := ⟨_, rfl⟩
    have htw : w.heap.size ≤ tb := by rw [htb]; exact hm1.size
    have htW : tb < W.heap.size := by rw [htb]; exact hbT.lt
    rw [← htb] at HBK HI0
    clear hm1 hmW hbT hbK HLK
    go_upto_region 7 with fail
    rw [← hW, ← htb]
    clear hW htb
    go_wp2_with fail
    go_loopw [5] (fun i0 wr => ∃ (i : Nat) (s : Tab), i ≤ l.length ∧ i0 = .int .i64 i ∧ LawQ W wr tb i s) (fun i0 _ => l.length - (intOf i0).toNat)
    case atStart => exact ⟨0, bareT, Nat.zero_le _, rfl, HI0.out⟩
    case round =>
      obtain ⟨i, s, hil, rfl, hI⟩ := hrel
      clear HI0
      obtain ⟨wo, hwo⟩ : ∃ x, x = wr := ⟨_, rfl⟩
      subst hwo
      have hMW := hI.tab.md
      have hkb : Blk wo (tb + 1) [.string ⟨#[97]⟩, .string ⟨#[98]⟩, .string ⟨#[99]⟩] 9 := HBK.out.mod hMW (fun e => by simp only [oneBlock] at e; omega)
      by_cases hlt : i < l.length
      · obtain ⟨x, hx⟩ : ∃ x, l[i]? = some x := ⟨_, List.getElem?_eq_getElem hlt⟩
        obtain ⟨lb, loff, rfl, hlL, q0, q1, q2⟩ := HV.out.at hx
        have hmo : Mod noBlock w wo := HM0.out.trans' hMW (fun x hx e => by simp only [oneBlock] at e; omega)
        have p0 := hmo.cell q0 id
        have p1 := hmo.cell q1 id
        have p2 := hmo.cell q2 id
        have hz : lb < wo.heap.size := by have := hmo.size; omega
        have hp9 := pickQ_lt x.tx 9 (by omega)
        have hp3 := pickQ_lt x.key 3 (by omega)
        have hpm := pickQ_lt x.mode 3 (by omega)
        have kc := key3_cell hkb hp3
        have hzk := hkb.lt
        have HP9 := Hid.mkq (fun wq => pickQ_any x.tx 9 wq (by omega) (by omega))
        have HPK := Hid.mkq (fun wq => pickQ_any x.key 3 wq (by omega) (by omega))
        have HPM := Hid.mkq (fun wq => pickQ_any x.mode 3 wq (by omega) (by omega))
        generalize pickQ x.tx 9 = tx at hp9 HP9
        generalize pickQ x.key 3 = kk at hp3 kc HPK
        generalize pickQ x.mode 3 = md at hpm HPM
        have hkI : (kk : Int) < 3 := by omega
        have hk0 : (0 : Int) ≤ (kk : Int) := by omega
        have hiI : (i : Int) < (l.length : Int) := by omega
        have hi0 : (0 : Int) ≤ (i : Int) := by omega
        have HI := Hid.mkq hI
        have HKB := Hid.mkq hkb
        have HMO := Hid.mkq hmo
        clear hI hMW hkb hmo hx q0 q1 q2
        go_upto_region 10 with fail
        go_quiet (first
          | (go_at_call 8; with_reducible refine Calls.quiet_of_same (HP9.out _))
          | (go_at_call 8; with_reducible refine Calls.quiet_of_same (HPK.out _))
          | (go_at_call 8; with_reducible refine Calls.quiet_of_same (HPM.out _))
          | fail)
        obtain ⟨wn, hwn⟩ : ∃ y, y = wo.drewN nq := ⟨_, rfl⟩
        rw [← hwn]
        have hmn : Mod noBlock wo wn := by rw [hwn]; exact (Mod.refl noBlock wo).drewN nq
        have HIN : Hid (LawQ W wn tb i s) := ⟨HI.out.tab.mod hmn, HI.out.ap, HI.out.tx⟩
        clear hwn hmn HI HP9 HPK HPM p0 p1 p2 kc
        go_upto_if 54 with fail
        go_cut [] from 26 to 156 (fun wc => ∃ s', LawQ W wc tb (i + 1) s')
        case first =>
          by_cases hm0 : md = 0
          · have hmd : (md : Int) = 0 := by omega
            have HRE := Hid.mkq (HIN.out.tab.release tx (by omega) (by omega))
            subst hm0
            go_wp2_with fail
            refine HRE.out.mono ?_
            rintro e w5 ⟨gv, ks, rfl, -, -, ht5, -⟩
            have HN5 : Hid (LawQ W w5 tb (i + 1) (relN s tx)) := ⟨ht5.more (by omega) (by omega), apart_rel (fun k => (HIN.out.ap k).more (by simp)), HIN.out.tx.rel _⟩
            clear ht5 HRE
            go_wp2_with fail
            go_meet
            case rel => exact ⟨_, HN5.out⟩
          · have hmd : ¬ (md : Int) = 0 := by omega
            have hm12 : (md : Int) = 1 ∨ (md : Int) = 2 := by omega
            have HLO := Hid.mkq (HIN.out.tab.lock tx (key3 kk) md hm12 (key3_ok kk) (by omega) (by omega))
            have hap := apart_updK (W := []) (name := key3 kk) (c := ⟨tx, md⟩) HIN.out.ap hm12
            have hwo := (apart_lock (HIN.out.ap (key3 kk)) (c := ⟨tx, md⟩) hm12).2
            have htx := HIN.out.tx.lock (name := key3 kk) (c := ⟨tx, md⟩) (fun k => (HIN.out.ap k).ok) ⟨by show (0 : Int) ≤ (tx : Int); omega, by show (tx : Int) < 9; omega⟩
            have her := lockN_err (s (key3 kk)) ⟨tx, md⟩
            have hwl := lockN_wound (s (key3 kk)) ⟨tx, md⟩
            have hfew : (s (key3 kk)).held.length ≤ 100 := by
              obtain ⟨q, h1, _⟩ := HIN.out.tab
              have := h1.few _ (key3_okQ kk)
              omega
            generalize hl : lockN (s (key3 kk)) ⟨tx, md⟩ = lk at HLO hap hwo htx her hwl
            obtain ⟨k', ok, ws, er⟩ := lk
            simp only at HLO hap hwo htx her hwl
            have HAP := Hid.mkq hap
            have HWO := Hid.mkq hwo
            have HTX := Hid.mkq htx
            have HER := Hid.mkq her
            have hwn := HIN.out.tab.md.size
            clear hap hwo htx her hl
            go_upto_region 13 with fail
            go_wp2_with fail
            refine HLO.out.mono ?_
            rintro e w5 ⟨u, rfl, hu, ht5, hst⟩
            obtain ⟨ua, uc, hua⟩ := own_slice hu
            subst hua
            have HU := Hid.mkq hu
            have HT5 := Hid.mkq ht5
            have HNT : Hid (∀ y, (Value.slice ua ws.length uc).ownBlock = some y → y ≠ tb) := fun y hy => by have := (own_cellsVQ hu hy).1; omega
            clear hu ht5 hst HLO
            by_cases he : er = 0
            · have heq : errQ er = .nilIface := by unfold errQ; rw [if_pos he]
              rw [heq]
              clear heq he HER
              go_wp2_with fail
              go_loopw [12] (fun k0 wr => ∃ (k : Nat) (s' : Tab), k ≤ ws.length ∧ k0 = .int .i64 k ∧ TabP W wr tb (i + 1) (i + 1) s' ∧ (∀ y, Apart (ws.drop k) (s' y)) ∧ TxB s' ∧ RowI wr wn.heap.size (.slice ua ws.length uc) ws) (fun k0 _ => ws.length - (intOf k0).toNat)
              case atStart => exact ⟨0, _, Nat.zero_le _, rfl, HT5.out, by simpa using HAP.out, HTX.out, HU.out⟩
              case round =>
                obtain ⟨k, s', hkl, rfl, ht, hap, htx, hru⟩ := hrel
                clear HT5 HAP HTX HU
                by_cases hklt : k < ws.length
                · obtain ⟨y, hy⟩ : ∃ y, ws[k]? = some y := ⟨_, List.getElem?_eq_getElem hklt⟩
                  obtain ⟨ub, rfl, _, hub2, c0⟩ := hru.at hy
                  have hgt := HWO.out y (List.mem_of_getElem? hy)
                  have hle : decide (y ≤ (tx : Int)) = false := decide_eq_false (by omega)
                  have hdr := drop_consQ hy
                  rw [hdr] at hap
                  have HRE := Hid.mkq (ht.release y (by omega) (by omega))
                  have HAP := Hid.mkq hap
                  have HTX := Hid.mkq htx
                  have HRU := Hid.mkq hru
                  have hkI : (k : Int) < (ws.length : Int) := by omega
                  have hk0' : (0 : Int) ≤ (k : Int) := by omega
                  clear ht hap htx hru hy hdr
                  go_wp2_with fail
                  refine HRE.out.mono ?_
                  rintro e w6 ⟨gv, ks, rfl, -, -, ht6, hst6⟩
                  have HT6 := Hid.mkq ht6
                  have HRU6 := Hid.mkq (hst6.ints HRU.out HNT.out)
                  have HAP6 := Hid.mkq (apart_rel HAP.out)
                  clear ht6 hst6 HRE
                  go_wp2_with fail
                  go_roundw
                  case rel => exact ⟨k + 1, _, by omega, by go_num, HT6.out, HAP6.out, HTX.out.rel _, HRU6.out⟩
                  case measure => simp [intOf]; omega
                · obtain rfl : k = ws.length := by omega
                  rw [List.drop_length] at hap
                  have HFIN : Hid (LawQ W wr tb (i + 1) s') := ⟨ht, hap, htx⟩
                  clear ht hap htx hru
                  go_wp2_with fail
                  go_meet
                  case rel => exact ⟨_, HFIN.out⟩
            · have heq : errQ er = .iface 108 (.int .i64 er) := by unfold errQ; rw [if_neg he]
              rw [heq]
              have hws := HER.out he
              subst hws
              have HFIN : Hid (LawQ W w5 tb (i + 1) (updK s (key3 kk) k')) := ⟨HT5.out, HAP.out, HTX.out⟩
              clear heq HER
              go_wp2_with fail
              go_meet
              case rel => exact ⟨_, HFIN.out⟩
        case rest =>
          obtain ⟨s', hL⟩ := hcut
          obtain ⟨wk, hwk⟩ : ∃ y, y = wc := ⟨_, rfl⟩
          subst hwk
          have HL := Hid.mkq hL
          have HKB2 := Hid.mkq (HBK.out.mod hL.tab.md (fun e => by simp only [oneBlock] at e; omega))
          clear hL HKB HIN
          go_wp2_with fail
          go_loopw [13] (fun k0 wr => ∃ k : Nat, k ≤ 3 ∧ k0 = .int .i64 k ∧ Mod noBlock wk wr) (fun k0 _ => 3 - (intOf k0).toNat)
          case atStart => exact ⟨0, by omega, rfl, Mod.refl _ _⟩
          case round =>
            obtain ⟨k, hk3, rfl, hmk⟩ := hrel
            obtain ⟨wq, hwq⟩ : ∃ y, y = wr := ⟨_, rfl⟩
            subst hwq
            have HMK := Hid.mkq hmk
            clear hmk
            by_cases hklt : k < 3
            · have hkI : (k : Int) < 3 := by omega
              have hk0' : (0 : Int) ≤ (k : Int) := by omega
              obtain ⟨m, hm⟩ : ∃ m : Nat → Int, m = fun y : Nat => modeN (s' (key3 k)).held y := ⟨_, rfl⟩
              have hlaw := apart_law (HL.out.ap (key3 k)) 9 (fun c hc => HL.out.tx (key3 k) c (.inl hc)) m (fun y => by rw [hm])
              have HLAW := Hid.mkq hlaw
              have HHO : Hid (∀ (y : Nat) (wz : World), Mod noBlock wk wz → Calls Try.prog 25 #[.pointer (some ⟨tb, 0, none⟩), .int .i64 y, .string (key3 k)] wz fun e w' => e = .returned (.int .i64 (m y)) ∧ Mod noBlock wz w') := fun y wz hz => by
                rw [hm]
                exact (HL.out.tab.mod hz).holds y (key3 k) (key3_okQ k) (by omega)
              have HWA : Hid (∀ (wz : World), Mod noBlock wk wz → Calls Try.prog 26 #[.pointer (some ⟨tb, 0, none⟩), .string (key3 k)] wz fun e w' => ∃ u, e = .returned u ∧ RowI w' wz.heap.size u ((s' (key3 k)).waits.map (·.tx)) ∧ Mod noBlock wz w') := fun wz hz => (HL.out.tab.mod hz).waits (key3 k) (key3_okQ k) (by omega)
              clear hm hlaw
              go_wp2_with fail
              go_loopw [14, 15, 16, 17] (fun h0 w0 y0 x0 wr => ∃ y : Nat, y ≤ 9 ∧ h0 = .int .i64 (accN m y).1 ∧ w0 = .int .i64 (accN m y).2.1 ∧ y0 = .int .i64 (accN m y).2.2 ∧ x0 = .int .i64 y ∧ Mod noBlock wk wr) (fun _ _ _ x0 _ => 9 - (intOf x0).toNat)
              case atStart => exact ⟨0, by omega, rfl, rfl, rfl, rfl, HMK.out⟩
              case round =>
                obtain ⟨y, hy9, rfl, rfl, rfl, rfl, hmy⟩ := hrel
                have hb := acc_bound m y
                have HACC : Hid (accN m (y + 1) = if m y = 1 then ((accN m y).1 + 1, (accN m y).2.1, (y : Int)) else if m y = 2 then ((accN m y).1 + 1, (accN m y).2.1 + 1, (y : Int)) else accN m y) := rfl
                by_cases hylt : y < 9
                · have hyI : (y : Int) < 9 := by omega
                  have kc := key3_cell (HKB2.out.mod hmy id) hklt
                  have hzk2 := (HKB2.out.mod hmy id).lt
                  have HH2 := Hid.mkq (HHO.out y wr hmy)
                  have HMY := Hid.mkq hmy
                  generalize accN m y = av at hb HACC
                  obtain ⟨ah, aw, ay⟩ := av
                  simp only at hb
                  have hb1 : (ah : Int) + 1 ≤ 10 := by omega
                  have hb2 : (aw : Int) + 1 ≤ 10 := by omega
                  clear hmy
                  go_wp2_with fail
                  refine HH2.out.mono ?_
                  rintro e w6 ⟨rfl, hm6⟩
                  have HM6 := Hid.mkq (HMY.out.trans hm6)
                  clear hm6 HH2 kc
                  by_cases h1 : m y = 1
                  · have hA : accN m (y + 1) = (ah + 1, aw, (y : Int)) := by rw [HACC.out, if_pos h1]
                    have HA := Hid.mkq hA
                    rw [h1]
                    clear hA HACC
                    go_wp2_with fail
                    go_roundw
                    case rel => exact ⟨y + 1, by omega, by rw [HA.out], by rw [HA.out], by rw [HA.out], by go_num, HM6.out⟩
                    case measure => simp [intOf]; omega
                  · by_cases h2 : m y = 2
                    · have hA : accN m (y + 1) = (ah + 1, aw + 1, (y : Int)) := by rw [HACC.out, if_neg h1, if_pos h2]
                      have HA := Hid.mkq hA
                      rw [h2]
                      clear hA HACC
                      go_wp2_with fail
                      go_roundw
                      case rel => exact ⟨y + 1, by omega, by rw [HA.out], by rw [HA.out], by rw [HA.out], by go_num, HM6.out⟩
                      case measure => simp [intOf]; omega
                    · have hA : accN m (y + 1) = (ah, aw, ay) := by rw [HACC.out, if_neg h1, if_neg h2]
                      have HA := Hid.mkq hA
                      clear hA HACC
                      go_wp2_with fail
                      go_roundw
                      case rel => exact ⟨y + 1, by omega, by rw [HA.out], by rw [HA.out], by rw [HA.out], by go_num, HM6.out⟩
                      case measure => simp [intOf]; omega
                · obtain rfl : y = 9 := by omega
                  obtain ⟨wz, hwz⟩ : ∃ z, z = wr := ⟨_, rfl⟩
                  subst hwz
                  have HMY := Hid.mkq hmy
                  have hlw := HLAW.out
                  have hwx := hb
                  generalize accN m 9 = av at hwx hlw
                  obtain ⟨ah, aw, ay⟩ := av
                  simp only at hwx hlw
                  obtain ⟨hl1, hl2⟩ := hlw
                  have HL2 := Hid.mkq hl2
                  have kc := key3_cell (HKB2.out.mod hmy id) hklt
                  have hzk2 := (HKB2.out.mod hmy id).lt
                  have HW2 := Hid.mkq (HWA.out wz hmy)
                  have hg36 : (decide (aw > 0) = true ∧ decide (ah > 1) = false) ∨ decide (aw > 0) = false := by
                    by_cases ha : aw > 0
                    · exact .inl ⟨decide_eq_true ha, decide_eq_false (fun hh => hl1 ⟨ha, hh⟩)⟩
                    · exact .inr (decide_eq_false ha)
                  clear hb hl1 hl2 hmy HACC HLAW HHO HWA
                  rcases hg36 with ⟨g1, g2⟩ | g1
                  all_goals
                    go_wp2_with fail
                    refine HW2.out.mono ?_
                    rintro e w7 ⟨u, rfl, hu, hm7⟩
                    obtain ⟨ua, uc, hua⟩ := own_slice hu
                    subst hua
                    have HU := Hid.mkq hu
                    have HM7 := Hid.mkq (HMY.out.trans hm7)
                    have HRS := Hid.mkq (rising_txs0 (HL.out.ap (key3 k)).ok.waits)
                    have hlen : ((s' (key3 k)).waits.map (·.tx)).length ≤ 200 := by
                      obtain ⟨q, h1, _⟩ := HL.out.tab
                      have := h1.few _ (key3_okQ k)
                      rw [List.length_map]
                      omega
                    have HWX : Hid (∀ t ∈ (s' (key3 k)).waits.map (·.tx), ah ≠ 0 ∧ ¬ (0 < aw ∧ t < ay)) := fun t ht => by
                      obtain ⟨c, hc, rfl⟩ := List.mem_map.1 ht
                      exact HL2.out c hc
                    generalize (s' (key3 k)).waits.map (·.tx) = ws at HU HRS HWX hlen
                    clear hu hm7 HW2 kc HL2
                    go_upto_block 9 with fail
                    refine wp_mono (Q := pieceQ ?R2) (apart9_any (R := ?R2) _ _ _ _ _ _ _ _ _ _ _ _ _ _ _ _ _ _ _ _ _ _ _ _ _ _ _ _ _ _ _ _ _ _ _ _ _ _ _ _ _ _ _ _ _ _ _ _ _ _ _ _ _ _ _ _ _ _ _ _ _ _ _ _ _ _ _ _ _ _ _ _ _ _ _ _ _ _ _ _ _ _ _ _ _ _ _ _ _ _ _ _ _ _ _ _ _ _ _ _ _ _ _ _ _ _ _ _ _ _ _ _ _ _ _ _ _ _ _ _ _ _ _ _ _ _ _ _ _ _ _ _ _ _ _ _ _ _ _ _ _ _ _ _ _ _ _ _ _ _ _ _ _ w7 ah aw ay ua uc ws HU.out HRS.out hlen HWX.out ?hN) ?hE
                    case hE =>
                      intro e a' wd hq
                      cases e with
                      | normal => exact hq
                      | ret => exact hq.elim
                      | exit id => exact hq.elim
                      | goto l => exact hq.elim
                      | panic ch => exact hq.elim
                      | outgrown => exact hq.elim
                    case hN =>
                      intro y2 y19 y121 y122 y123 y124 y125 y126 y127 y128 y129 y130 y131 y132 y133 y134 y135 y136 y137 y138 y139 y140 y141 y142 y143 y144 y145 y146 y147 y148 y149 y150 y151 y152 y153 y154 y155 y156 we hme
                      have HFIN := Hid.mkq (HM7.out.trans hme)
                      clear hme
                      go_wp2_with fail
                      go_roundw
                      case rel => exact ⟨k + 1, by omega, by go_num, HFIN.out⟩
                      case measure => simp [intOf]; omega
            · obtain rfl : k = 3 := by omega
              have HFIN : Hid (LawQ W wq tb (i + 1) s') := ⟨HL.out.tab.mod HMK.out, HL.out.ap, HL.out.tx⟩
              go_wp2_with fail
              go_roundw
              case rel => exact ⟨i + 1, _, by omega, by go_num, HFIN.out⟩
              case measure => simp [intOf]; omega
      · clear hkb
        have hmo : Mod noBlock w wo := HM0.out.trans' hMW (fun x hx e => by simp only [oneBlock] at e; omega)
        have HMO := Hid.mkq hmo
        clear hMW hI hmo
        go_wp2_with fail
        go_ret
        exact ⟨rfl, HMO.out⟩
end Go.Proofs.Ytefhgakcffhgaab
