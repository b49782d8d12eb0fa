/- The document's writer (package chainmailref): a command, walked. -/
import Derived.Test.YtdbbgfbcbfbihaaDoorPn3
import Derived.Deep.DeepCutAuto
namespace Go.Proofs.YtdbbgfbcbfbihaaDoor
open Go.RowKit Go.Lib

theorem PAt.alloc {w : World} {g : Nat} {bs : List Int} {bad : Int} (h : PAt w g bs bad) (o : Obj) : PAt (w.alloc o) g bs bad := by
  obtain ⟨v, h1, h2⟩ := h
  exact ⟨v, h1.mod ((Mod.refl noBlock w).alloc o) id, h2.alloc o⟩
theorem PAt.cell1 {w : World} {g : Nat} {bs : List Int} {bad : Int} (h : PAt w g bs bad) : w.cell? ⟨g, 1, none⟩ = some (.int .i64 bad) ∧ w.frozen? ⟨g, 1, none⟩ = false := by
  obtain ⟨v, h1, _⟩ := h
  exact ⟨h1.cell 1 rfl, h1.frozen 1⟩

theorem wtext_at (most : Nat) (g : Nat) (bs : List Int) (bad : Int) (str : ByteArray) {m : Int} (w : World) (h : PAt w g bs bad) (hl : bs.length + str.size + 6 ≤ 1099511627776) (hm : m = most) :
    Calls Tryd.prog 111 #[.pointer (some ⟨g, 0, none⟩), .string str, .int .i64 m] w fun e w' => e = .returned (.tuple #[]) ∧ PAt w' g (wtext str most (bs, bad)).1 (wtext str most (bs, bad)).2 ∧ Mod (penMay w g) w w' := by
  subst hm; exact wtext_any g bs bad str most w h hl
theorem kmod (k : Int) : (wrap64 (k.tmod 8 + 8)).tmod 8 = k % 8 := by
  have hb : -8 < k.tmod 8 ∧ k.tmod 8 < 8 ∧ (k.tmod 8 + 8) % 8 = k % 8 := by
    rcases Int.le_total 0 k with h | h
    · rw [Int.tmod_eq_emod_of_nonneg h]; omega
    · have e : k.tmod 8 = -((-k) % 8) := by
        have := Int.neg_tmod (-k) 8
        rw [Int.neg_neg] at this
        rw [this, Int.tmod_eq_emod_of_nonneg (by omega)]
      rw [e]; omega
  rw [IntWalk.wrap64_in _ ⟨by omega, by omega⟩, Int.tmod_eq_emod_of_nonneg (by omega)]
  exact hb.2.2

set_option maxRecDepth 100000 in
set_option maxHeartbeats 4000000 in
theorem wcmd_any (g L : Nat) (bs : List Int) (bad : Int) (c : CmdD) (v : Value) (w : World) (h : PAt w g bs bad) (hLg : L ≤ g) (hv : PairsR w L v c.writes) (hl : bs.length + 24 + psize c.writes ≤ 549755813888)
    (hk1 : -9223372036854775808 ≤ c.kind) (hk2 : c.kind ≤ 9223372036854775807) :
    Calls Tryd.prog 70 #[.pointer (some ⟨g, 0, none⟩), .agg #[.int .i64 c.kind, .int .i64 c.tx, .int .i64 c.time, v]] w fun e w' => e = .returned (.tuple #[]) ∧ PAt w' g (wcmd c (bs, bad)).1 (wcmd c (bs, bad)).2 ∧ Mod (penMay w g) w w' := by
  obtain ⟨kind, tx, time, ps⟩ := c
  simp only at *
  obtain ⟨r, hr⟩ : ∃ r, r = wcmd ⟨kind, tx, time, ps⟩ (bs, bad) := ⟨_, rfl⟩
  rw [← hr]
  have HR : Hid (r = wcmd ⟨kind, tx, time, ps⟩ (bs, bad)) := hr
  clear hr
  have hgl := h.lt
  have hv0 := hv
  obtain ⟨a, cap, rfl, hpc, hcm, hcells⟩ := hv0
  unfold maxLen at hcm
  obtain ⟨b1, hb1⟩ : ∃ b1 : Int, b1 = if kind < 1 ∨ 4 < kind then 1 else bad := ⟨_, rfl⟩
  obtain ⟨b2, hb2⟩ : ∃ b2 : Int, b2 = if 20 < ps.length then 4 else b1 := ⟨_, rfl⟩
  have HF : Hid (r = wpairs ps (wnum ps.length (wnum time (wnum tx (wnum (kind % 8) (bs, b2)))))) := by
    rw [Hid, HR.out, hb2, hb1]; unfold wcmd whead; simp only; split <;> split <;> rfl
  have HB1 : Hid (b1 = if kind < 1 ∨ 4 < kind then 1 else bad) := hb1
  have HB2 : Hid (b2 = if 20 < ps.length then 4 else b1) := hb2
  clear HR hb1 hb2
  have hP1 := h.alloc (.cells #[.int .i64 kind, .int .i64 tx, .int .i64 time, .slice a ps.length cap] 24)
  have hC1 := Blk.new w [.int .i64 kind, .int .i64 tx, .int .i64 time, .slice a ps.length cap] 24
  have hM1 := (Mod.refl (penMay w g) w).alloc (.cells #[.int .i64 kind, .int .i64 tx, .int .i64 time, .slice a ps.length cap] 24)
  obtain ⟨c1, f1⟩ := hP1.cell1
  go_enter Tryd.func70, Tryd.ntmps70
  go_upto_region 1 with fail
  go_cut [13] (fun t wc => t = .bool (decide (kind < 1 ∨ 4 < kind)) ∧ wc = w.alloc (.cells #[.int .i64 kind, .int .i64 tx, .int .i64 time, .slice a ps.length cap] 24))
  case first =>
    by_cases k1 : kind < 1
    · go_wp2_with fail
      go_meet
      case rel => exact ⟨by simp [k1], rfl⟩
    · by_cases k4 : 4 < kind
      all_goals
        go_wp2_with fail
        go_meet
        case rel => exact ⟨by simp; omega, rfl⟩
  case rest =>
    obtain ⟨rfl, rfl⟩ := hcut
    go_upto_if 13 with fail
    go_cut [] (fun wc => PAt wc g bs b1 ∧ Mod (penMay w g) w wc ∧ Blk wc w.heap.size [.int .i64 kind, .int .i64 tx, .int .i64 time, .slice a ps.length cap] 24)
    case first =>
      by_cases hk : kind < 1 ∨ 4 < kind
      · have e1 : b1 = 1 := by rw [HB1.out, if_pos hk]
        have HS := h.set1 1
        have HM := HS.2.alloc (.cells #[.int .i64 kind, .int .i64 tx, .int .i64 time, .slice a ps.length cap] 24)
        have HC : Blk ((w.setCell ⟨g, 1, none⟩ (.int .i64 1)).alloc (.cells #[.int .i64 kind, .int .i64 tx, .int .i64 time, .slice a ps.length cap] 24)) w.heap.size [.int .i64 kind, .int .i64 tx, .int .i64 time, .slice a ps.length cap] 24 := by
          have := Blk.new (w.setCell ⟨g, 1, none⟩ (.int .i64 1)) [.int .i64 kind, .int .i64 tx, .int .i64 time, .slice a ps.length cap] 24
          simpa [World.setCell] using this
        have HT : Hid (PAt ((w.setCell ⟨g, 1, none⟩ (.int .i64 1)).alloc (.cells #[.int .i64 kind, .int .i64 tx, .int .i64 time, .slice a ps.length cap] 24)) g bs b1) := by rw [Hid, e1]; exact HS.1.alloc _
        clear e1 HS
        go_wp2_with fail
        go_meet
        case rel => exact ⟨HT.out, HM, HC⟩
      · have e1 : b1 = bad := by rw [HB1.out, if_neg hk]
        have HT : Hid (PAt (w.alloc (.cells #[.int .i64 kind, .int .i64 tx, .int .i64 time, .slice a ps.length cap] 24)) g bs b1) := by rw [Hid, e1]; exact hP1
        clear e1
        go_wp2_with fail
        go_meet
        case rel => exact ⟨HT.out, hM1, hC1⟩
    case rest =>
      obtain ⟨hP2, hM2, hC2⟩ := hcut
      clear hP1 hM1 hC1 c1 f1 HB1
      obtain ⟨c1, f1⟩ := hP2.cell1
      obtain ⟨d0, d1, d2, d3, e0, e1, e2, e3⟩ := blk4 hC2
      have hv2 : PairsR wc L (.slice a ps.length cap) ps := hv.mod hM2 (fun k hk e => by rcases e with e | e <;> omega)
      go_upto_if 20 with fail
      go_cut [] (fun wd => PAt wd g bs b2 ∧ Mod (penMay w g) w wd ∧ Blk wd w.heap.size [.int .i64 kind, .int .i64 tx, .int .i64 time, .slice a ps.length cap] 24)
      case first =>
        by_cases hk : 20 < ps.length
        · have e1 : b2 = 4 := by rw [HB2.out, if_pos hk]
          have HS := hP2.set1 4
          have HM := penMay_trans hM2 HS.2
          have HC := hC2.pen HS.2 (by omega) (by decide)
          have HT : Hid (PAt (wc.setCell ⟨g, 1, none⟩ (.int .i64 4)) g bs b2) := by rw [Hid, e1]; exact HS.1
          clear e1 HS
          go_wp2_with fail
          go_meet
          case rel => exact ⟨HT.out, HM, HC⟩
        · have e1 : b2 = b1 := by rw [HB2.out, if_neg hk]
          have HT : Hid (PAt wc g bs b2) := by rw [Hid, e1]; exact hP2
          clear e1
          go_wp2_with fail
          go_meet
          case rel => exact ⟨HT.out, hM2, hC2⟩
      case rest =>
        obtain ⟨hP3, hM3, hC3⟩ := hcut
        clear hP2 hM2 hC2 c1 f1 d0 d1 d2 d3 e0 e1 e2 e3 HB2 hv2
        obtain ⟨d0, d1, d2, d3, e0, e1, e2, e3⟩ := blk4 hC3
        have hkm := kmod kind
        go_wp2_with fail
        refine (wnum_any _ _ _ _ _ hP3 (by omega)).mono ?_
        rintro e w4 ⟨rfl, hP4, hm4⟩
        have hl4 := wnum_len (kind % 8) (bs, b2)
        obtain ⟨⟨bs4, b4⟩, hq4⟩ : ∃ q, q = wnum (kind % 8) (bs, b2) := ⟨_, rfl⟩
        rw [← hq4] at hP4 hl4 HF
        have hM4 := penMay_trans hM3 hm4
        have hC4 := hC3.pen hm4 (by omega) (by decide)
        clear hq4 hkm hP3 hM3 hC3 hm4 d0 d1 d2 d3 e0 e1 e2 e3
        simp only at hP4 hl4
        obtain ⟨d0, d1, d2, d3, e0, e1, e2, e3⟩ := blk4 hC4
        go_wp2_with fail
        refine (wnum_any _ _ _ _ _ hP4 (by omega)).mono ?_
        rintro e w5 ⟨rfl, hP5, hm5⟩
        have hl5 := wnum_len tx (bs4, b4)
        obtain ⟨⟨bs5, b5⟩, hq5⟩ : ∃ q, q = wnum tx (bs4, b4) := ⟨_, rfl⟩
        rw [← hq5] at hP5 hl5 HF
        have hM5 := penMay_trans hM4 hm5
        have hC5 := hC4.pen hm5 (by omega) (by decide)
        clear hq5 hP4 hM4 hC4 hm5 d0 d1 d2 d3 e0 e1 e2 e3
        simp only at hP5 hl5
        obtain ⟨d0, d1, d2, d3, e0, e1, e2, e3⟩ := blk4 hC5
        go_wp2_with fail
        refine (wnum_any _ _ _ _ _ hP5 (by omega)).mono ?_
        rintro e w6 ⟨rfl, hP6, hm6⟩
        have hl6 := wnum_len time (bs5, b5)
        obtain ⟨⟨bs6, b6⟩, hq6⟩ : ∃ q, q = wnum time (bs5, b5) := ⟨_, rfl⟩
        rw [← hq6] at hP6 hl6 HF
        have hM6 := penMay_trans hM5 hm6
        have hC6 := hC5.pen hm6 (by omega) (by decide)
        clear hq6 hP5 hM5 hC5 hm6 d0 d1 d2 d3 e0 e1 e2 e3
        simp only at hP6 hl6
        obtain ⟨d0, d1, d2, d3, e0, e1, e2, e3⟩ := blk4 hC6
        go_wp2_with fail
        refine (wnum_any _ _ _ _ _ hP6 (by omega)).mono ?_
        rintro e w7 ⟨rfl, hP7, hm7⟩
        have hl7 := wnum_len ps.length (bs6, b6)
        obtain ⟨⟨bs7, b7⟩, hq7⟩ : ∃ q, q = wnum ps.length (bs6, b6) := ⟨_, rfl⟩
        rw [← hq7] at hP7 hl7 HF
        have hM7 := penMay_trans hM6 hm7
        have hC7 := hC6.pen hm7 (by omega) (by decide)
        clear hq7 hP6 hM6 hC6 hm7 d0 d1 d2 d3 e0 e1 e2 e3
        simp only at hP7 hl7
        obtain ⟨d0, d1, d2, d3, e0, e1, e2, e3⟩ := blk4 hC7
        have hlen7 : bs7.length + psize ps ≤ 1099511627000 := by omega
        clear hl4 hl5 hl6 hl7 hl
        go_wp2_with fail
        clear d0 d1 d2 d3 e0 e1 e2 e3 hC7
        go_loopw [47] (fun i wr => ∃ k : Nat, k ≤ ps.length ∧ i = .int .i64 k ∧ PAt wr g (wpairs (ps.take k) (bs7, b7)).1 (wpairs (ps.take k) (bs7, b7)).2 ∧ Mod (penMay w g) w wr) (fun i _ => ps.length - (intOf i).toNat)
        case atStart => exact ⟨0, Nat.zero_le _, rfl, by simpa [wpairs] using hP7, hM7⟩
        case round =>
          obtain ⟨k, hk, rfl, hP, hM⟩ := hrel
          have hvr : PairsR wr L (.slice a ps.length cap) ps := hv.mod hM (fun k hk e => by rcases e with e | e <;> omega)
          clear hP7 hM7
          by_cases hlt : k < ps.length
          · obtain ⟨a', cap', ha', _, _, hcl⟩ := hvr
            simp only [Value.slice.injEq] at ha'
            obtain ⟨rfl, _, rfl⟩ := ha'
            rcases hcl with rfl | ⟨b, off, rfl, hbL, hcl⟩
            · simp at hlt
            obtain ⟨p, hp⟩ : ∃ p, ps[k]? = some p := ⟨_, List.getElem?_eq_getElem hlt⟩
            obtain ⟨q0, q1, q2⟩ := hcl k p hp
            have hsz := psize_take ps k p hp
            have hwl := wpairs_len (ps.take k) (bs7, b7)
            have HT : Hid (ps.take (k + 1) = ps.take k ++ [p]) := by
              rw [Hid, List.take_succ_eq_append_getElem hlt]
              rw [List.getElem?_eq_getElem hlt] at hp
              simp at hp; rw [hp]
            have HS : Hid (wpairs (ps.take (k + 1)) (bs7, b7) = wpair p (wpairs (ps.take k) (bs7, b7))) := by rw [Hid, HT.out, wpairs_snoc]
            obtain ⟨⟨bs8, b8⟩, hq8⟩ : ∃ q, q = wpairs (ps.take k) (bs7, b7) := ⟨_, rfl⟩
            rw [← hq8] at hP hwl HS
            simp only at hP hwl
            clear hq8 HT hcl hp hv hcells
            have hgr := hP.lt
            obtain ⟨key, val, gone⟩ := p
            simp only at q0 q1 q2 hsz
            have hPa := hP.alloc (.cells #[.string key, .string val, .bool gone] 84)
            have hQa := Blk.new wr [.string key, .string val, .bool gone] 84
            have hMa := hM.alloc (.cells #[.string key, .string val, .bool gone] 84)
            have hwt := wtext_len key 20 (bs8, b8)
            clear hP hM
            cases gone with
            | true =>
              go_wp2_with fail
              refine (wtext_at 20 _ _ _ _ _ hPa (by omega) rfl).mono ?_
              rintro e w9 ⟨rfl, hP9, hm9⟩
              have HS2 : Hid (wpairs (ps.take (k + 1)) (bs7, b7) = wnum 1 (wtext key 20 (bs8, b8))) := HS.out
              clear HS
              obtain ⟨⟨bs9, b9⟩, hq9⟩ : ∃ q, q = wtext key 20 (bs8, b8) := ⟨_, rfl⟩
              rw [← hq9] at hP9 hwt HS2
              simp only at hP9 hwt
              have hQ9 := hQa.pen hm9 (by omega) (by decide)
              have hM9 := penMay_trans hMa hm9
              clear hq9 hPa hQa hMa hm9
              obtain ⟨x0, x1, x2, y0, y1, y2⟩ := blk3 hQ9
              go_wp2_with fail
              refine (wnum_any _ _ _ _ _ hP9 (by omega)).mono ?_
              rintro e w10 ⟨rfl, hP10, hm10⟩
              have hM10 := penMay_trans hM9 hm10
              clear x0 x1 x2 y0 y1 y2 hP9 hM9 hm10 hQ9
              go_wp2_with fail
              go_roundw
              case rel => exact ⟨k + 1, by omega, by go_num, by rw [HS2.out]; exact hP10, hM10⟩
              case measure => simp [intOf]; omega
            | false =>
              go_wp2_with fail
              refine (wtext_at 20 _ _ _ _ _ hPa (by omega) rfl).mono ?_
              rintro e w9 ⟨rfl, hP9, hm9⟩
              have HS2 : Hid (wpairs (ps.take (k + 1)) (bs7, b7) = wtext val 40 (wnum 0 (wtext key 20 (bs8, b8)))) := HS.out
              clear HS
              obtain ⟨⟨bs9, b9⟩, hq9⟩ : ∃ q, q = wtext key 20 (bs8, b8) := ⟨_, rfl⟩
              rw [← hq9] at hP9 hwt HS2
              simp only at hP9 hwt
              have hQ9 := hQa.pen hm9 (by omega) (by decide)
              have hM9 := penMay_trans hMa hm9
              clear hq9 hPa hQa hMa hm9
              obtain ⟨x0, x1, x2, y0, y1, y2⟩ := blk3 hQ9
              go_wp2_with fail
              refine (wnum_any _ _ _ _ _ hP9 (by omega)).mono ?_
              rintro e w10 ⟨rfl, hP10, hm10⟩
              have hwn := wnum_len 0 (bs9, b9)
              obtain ⟨⟨bs10, b10⟩, hq10⟩ : ∃ q, q = wnum 0 (bs9, b9) := ⟨_, rfl⟩
              rw [← hq10] at hP10 hwn HS2
              simp only at hP10 hwn
              have hQ10 := hQ9.pen hm10 (by have := hP9.lt; omega) (by decide)
              have hM10 := penMay_trans hM9 hm10
              clear hq10 x0 x1 x2 y0 y1 y2 hP9 hM9 hm10 hQ9
              obtain ⟨x0, x1, x2, y0, y1, y2⟩ := blk3 hQ10
              go_wp2_with fail
              refine (wtext_at 40 _ _ _ _ _ hP10 (by omega) rfl).mono ?_
              rintro e w11 ⟨rfl, hP11, hm11⟩
              have hM11 := penMay_trans hM10 hm11
              clear x0 x1 x2 y0 y1 y2 hP10 hM10 hm11 hQ10
              go_wp2_with fail
              go_roundw
              case rel => exact ⟨k + 1, by omega, by go_num, by rw [HS2.out]; exact hP11, hM11⟩
              case measure => simp [intOf]; omega
          · have hkn : k = ps.length := by omega
            subst hkn
            rw [List.take_length] at hP
            go_wp2_with fail
            go_end0
            rw [HF.out]
            exact ⟨rfl, hP, hM⟩
end Go.Proofs.YtdbbgfbcbfbihaaDoor
