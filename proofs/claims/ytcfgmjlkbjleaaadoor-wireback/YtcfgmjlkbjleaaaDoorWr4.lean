/- The program's writer: a command. -/
import Derived.Test.YtcfgmjlkbjleaaaDoorWr3
import Derived.Test.YtcfgmjlkbjleaaaDoorOp
namespace Go.Proofs.YtcfgmjlkbjleaaaDoor
open Go.RowKit Go.Lib

def vpairs : List PairD → List Int × Int → List Int × Int
  | [], s => s
  | p :: ps, s => vpairs ps (vpair p s)
theorem vpairs_snoc : ∀ ps p s, vpairs (ps ++ [p]) s = vpair p (vpairs ps s)
  | [], _, _ => rfl
  | q :: ps, p, s => by simp [vpairs, vpairs_snoc ps p]
def vcmd (c : CmdD) (s : List Int × Int) : List Int × Int := vpairs c.writes (whead c s)
theorem i64_and7 (n : Int) : bits .and .i64 n 7 = n % 8 := by
  have h7 : (BitVec.ofInt 64 7).toNat = 2 ^ 3 - 1 := by decide
  have key : (BitVec.ofInt 64 n &&& BitVec.ofInt 64 7).toNat = (n % ((2 ^ 64 : Nat) : Int)).toNat % 2 ^ 3 := by
    rw [BitVec.toNat_and, BitVec.toNat_ofInt, h7, Nat.and_two_pow_sub_one_eq_mod]
  show IntKind.i64.wrap ((BitVec.ofInt 64 n &&& BitVec.ofInt 64 7).toNat : Nat) = n % 8
  rw [key, IntKind.wrap_i64]
  omega
theorem neead_lo (k : Int) (s : List Int × Int) : neead (decide (1 ≤ k ∧ k ≤ 4)) 1 s = if k < 1 ∨ 4 < k then (s.1, 1) else s := by
  unfold neead
  by_cases h : k < 1 ∨ 4 < k
  · rw [if_pos h, if_neg (by simp; omega)]
  · rw [if_neg h, if_pos (by simp; omega)]
theorem neead_hi (n : Nat) (t : List Int × Int) : neead (decide (n ≤ 20)) 4 t = if 20 < n then (t.1, 4) else t := by
  unfold neead
  by_cases h : 20 < n
  · rw [if_pos h, if_neg (by simp; omega)]
  · rw [if_neg h, if_pos (by simp; omega)]
theorem whead_nums (c : CmdD) (s : List Int × Int) : whead c s = wnums [c.kind % 8, c.tx, c.time, c.writes.length] (neead (decide (c.writes.length ≤ 20)) 4 (neead (decide (1 ≤ c.kind ∧ c.kind ≤ 4)) 1 s)) := by
  rw [neead_lo, neead_hi]
  rfl
/-- The four numbers at a command's head. -/
theorem four_any (g : Nat) (s : List Int × Int) (N : Nat) (a b c d : Int) (w : World) (h : WAt w g s N) (hN : N + 40 ≤ 1099511627776) (ha : a ≤ 9223372036854775807) (hb : b ≤ 9223372036854775807) (hc : c ≤ 9223372036854775807) (hd : d ≤ 9223372036854775807) :
    Calls Tryd.prog 71 #[.pointer (some ⟨g, 0, none⟩), .slice (some ⟨w.heap.size, 0, none⟩) 4 4] (w.alloc (.cells #[.int .i64 a, .int .i64 b, .int .i64 c, .int .i64 d] 3)) fun ev w' => ev = .returned (.tuple #[]) ∧ WAt w' g (wnums [a, b, c, d] s) (N + 40) ∧ Mod (penMay w g) w w' := by
  have hg := h.lt
  have := numbers_any g w.heap.size s N [a, b, c, d] 4 (w.alloc (.cells #[.int .i64 a, .int .i64 b, .int .i64 c, .int .i64 d] 3)) (h.alloc _) (Blk.new w [.int .i64 a, .int .i64 b, .int .i64 c, .int .i64 d] 3) (by omega) (by simp; omega) (by simp; omega)
  refine this.mono ?_
  rintro ev w' ⟨rfl, h1, h2⟩
  exact ⟨rfl, by simpa using h1, Mod.penOf ((Mod.refl _ w).alloc _) h2⟩

set_option maxRecDepth 100000 in
set_option maxHeartbeats 4000000 in
theorem command_wr (g L : Nat) (s : List Int × Int) (N : Nat) (c : CmdD) (v : Value) (w : World) (h : WAt w g s N) (hLg : L ≤ g) (hv : PairsR w L v c.writes) (hN : N + 40 + 90 * c.writes.length ≤ 1099511627776)
    (hk : int64 c.kind) (hx : int64 c.tx) (ht : int64 c.time) :
    Calls Tryd.prog 72 #[.pointer (some ⟨g, 0, none⟩), .agg #[.int .i64 c.kind, .int .i64 c.tx, .int .i64 c.time, v]] w fun e w' => e = .returned (.tuple #[]) ∧ WAt w' g (vcmd c s) (N + 40 + 90 * c.writes.length) ∧ Mod (penMay w g) w w' := by
  obtain ⟨kind, tx, time, ps⟩ := c
  simp only at *
  obtain ⟨hk1, hk2⟩ := hk
  obtain ⟨_, hx2⟩ := hx
  obtain ⟨_, ht2⟩ := ht
  have HR : Hid (vcmd ⟨kind, tx, time, ps⟩ s = vpairs ps (wnums [kind % 8, tx, time, ps.length] (neead (decide (ps.length ≤ 20)) 4 (neead (decide (1 ≤ kind ∧ kind ≤ 4)) 1 s)))) := by
    rw [Hid, vcmd, whead_nums]
  obtain ⟨r, hr⟩ : ∃ r, r = vcmd ⟨kind, tx, time, ps⟩ s := ⟨_, rfl⟩
  rw [← hr] at HR ⊢
  clear hr
  have hgl := h.lt
  have hv0 := hv
  obtain ⟨a, cap, rfl, hpc, hcm, _⟩ := hv0
  unfold maxLen at hcm
  have hW1 := h.alloc (.cells #[.int .i64 kind, .int .i64 tx, .int .i64 time, .slice a ps.length cap] 24)
  have hC1 := Blk.new w [.int .i64 kind, .int .i64 tx, .int .i64 time, .slice a ps.length cap] 24
  have hM1 := (Mod.refl (penMay w g) w).alloc (.cells #[.int .i64 kind, .int .i64 tx, .int .i64 time, .slice a ps.length cap] 24)
  clear h
  go_enter Tryd.func72, Tryd.ntmps72
  go_upto_region 1 with fail
  go_cut [] (fun wc => WAt wc g (neead (decide (1 ≤ kind ∧ kind ≤ 4)) 1 s) N ∧ Mod (penMay w g) w wc ∧ Blk wc w.heap.size [.int .i64 kind, .int .i64 tx, .int .i64 time, .slice a ps.length cap] 24)
  case first =>
    have hcs : (kind < 1 ∧ decide (1 ≤ kind ∧ kind ≤ 4) = false) ∨ (4 < kind ∧ 1 ≤ kind ∧ decide (1 ≤ kind ∧ kind ≤ 4) = false) ∨ (1 ≤ kind ∧ kind ≤ 4 ∧ decide (1 ≤ kind ∧ kind ≤ 4) = true) := by
      by_cases h1 : 1 ≤ kind
      · by_cases h2 : kind ≤ 4
        · exact .inr (.inr ⟨h1, h2, by simp [h1, h2]⟩)
        · exact .inr (.inl ⟨by omega, h1, by simp [h2]⟩)
      · exact .inl ⟨by omega, by simp [h1]⟩
    rcases hcs with ⟨h1, h2⟩ | ⟨h1, h0, h2⟩ | ⟨h1, h0, h2⟩
    · have H2 := Hid.mk' h2
      have HN := Hid.mk' (need_any g s N false 1 _ hW1 (by omega))
      have e1 : decide (1 ≤ kind) = false := by simp; omega
      clear h2
      go_wp2_with fail
      refine HN.out.mono ?_
      rintro e w1 ⟨rfl, hW2, hm2⟩
      have hM2 := penMay_trans hM1 hm2
      have hC2 := hC1.pen hm2 (by omega) (by decide)
      clear hm2
      go_wp2_with fail
      go_meet
      case rel => exact ⟨by rw [H2.out]; exact hW2, hM2, hC2⟩
    · have H2 := Hid.mk' h2
      have HN := Hid.mk' (need_any g s N false 1 _ hW1 (by omega))
      have e1 : decide (1 ≤ kind) = true := by simpa using h0
      have e2 : decide (kind ≤ 4) = false := by simp; omega
      clear h2
      go_wp2_with fail
      refine HN.out.mono ?_
      rintro e w1 ⟨rfl, hW2, hm2⟩
      have hM2 := penMay_trans hM1 hm2
      have hC2 := hC1.pen hm2 (by omega) (by decide)
      clear hm2
      go_wp2_with fail
      go_meet
      case rel => exact ⟨by rw [H2.out]; exact hW2, hM2, hC2⟩
    · have H2 := Hid.mk' h2
      have HN := Hid.mk' (need_any g s N true 1 _ hW1 (by omega))
      have e1 : decide (1 ≤ kind) = true := by simpa using h1
      have e2 : decide (kind ≤ 4) = true := by simpa using h0
      clear h2
      go_wp2_with fail
      refine HN.out.mono ?_
      rintro e w1 ⟨rfl, hW2, hm2⟩
      have hM2 := penMay_trans hM1 hm2
      have hC2 := hC1.pen hm2 (by omega) (by decide)
      clear hm2
      go_wp2_with fail
      go_meet
      case rel => exact ⟨by rw [H2.out]; exact hW2, hM2, hC2⟩
  case rest =>
    obtain ⟨hW2, hM2, hC2⟩ := hcut
    clear hW1 hM1 hC1
    obtain ⟨s2, hs2⟩ : ∃ q, q = neead (decide (1 ≤ kind ∧ kind ≤ 4)) 1 s := ⟨_, rfl⟩
    rw [← hs2] at hW2 HR
    clear hs2
    obtain ⟨d0, d1, d2, d3, e0, e1, e2, e3⟩ := blk4 hC2
    have hdl : decide ((ps.length : Int) ≤ 20) = decide (ps.length ≤ 20) := decide_eq_decide.2 (by omega)
    have HN := Hid.mk' (need_any g s2 N (decide (ps.length ≤ 20)) 4 _ hW2 (by omega))
    go_wp2_with fail
    refine HN.out.mono ?_
    rintro e w3 ⟨rfl, hW3, hm3⟩
    have hM3 := penMay_trans hM2 hm3
    have hC3 := hC2.pen hm3 (by omega) (by decide)
    obtain ⟨s3, hs3⟩ : ∃ q, q = neead (decide (ps.length ≤ 20)) 4 s2 := ⟨_, rfl⟩
    rw [← hs3] at hW3 HR
    clear hs3 hW2 hM2 hC2 hm3 HN d0 d1 d2 d3 e0 e1 e2 e3 hdl
    obtain ⟨d0, d1, d2, d3, e0, e1, e2, e3⟩ := blk4 hC3
    have hk7 := i64_and7 kind
    have HN := Hid.mk' (four_any g s3 N (kind % 8) tx time ps.length _ hW3 (by omega) (by omega) hx2 ht2 (by omega))
    go_wp2_with fail
    refine HN.out.mono ?_
    rintro e w4 ⟨rfl, hW4, hm4⟩
    have hM4 := penMay_trans hM3 hm4
    have hC4 := hC3.pen hm4 (by omega) (by decide)
    obtain ⟨s4, hs4⟩ : ∃ q, q = wnums [kind % 8, tx, time, ps.length] s3 := ⟨_, rfl⟩
    rw [← hs4] at hW4 HR
    clear hs4 hW3 hM3 hC3 hm4 HN d0 d1 d2 d3 e0 e1 e2 e3 hk7
    obtain ⟨d0, d1, d2, d3, e0, e1, e2, e3⟩ := blk4 hC4
    go_wp2_with fail
    clear d0 d1 d2 d3 e0 e1 e2 e3 hC4
    go_loopw [38] (fun i wr => ∃ k : Nat, k ≤ ps.length ∧ i = .int .i64 k ∧ WAt wr g (vpairs (ps.take k) s4) (N + 40 + 90 * k) ∧ Mod (penMay w g) w wr) (fun i _ => ps.length - (intOf i).toNat)
    case atStart => exact ⟨0, Nat.zero_le _, rfl, by simpa [vpairs] using hW4, hM4⟩
    case round =>
      obtain ⟨k, hk, rfl, hW, hM⟩ := hrel
      have hvr : PairsR wr L (.slice a ps.length cap) ps := hv.mod hM (fun k hk e => by rcases e with e | e <;> omega)
      clear hW4 hM4
      by_cases hlt : k < ps.length
      · obtain ⟨a', cap', ha', _, _, hcl⟩ := hvr
        simp only [Value.slice.injEq] at ha'
        obtain ⟨rfl, _, rfl⟩ := ha'
        rcases hcl with rfl | ⟨b, off, rfl, hbL, hcl⟩
        · simp at hlt
        obtain ⟨p, hp⟩ : ∃ p, ps[k]? = some p := ⟨_, List.getElem?_eq_getElem hlt⟩
        obtain ⟨q0, q1, q2⟩ := hcl k p hp
        have HT : Hid (ps.take (k + 1) = ps.take k ++ [p]) := by
          rw [Hid, List.take_succ_eq_append_getElem hlt]
          rw [List.getElem?_eq_getElem hlt] at hp
          simp at hp; rw [hp]
        have HS : Hid (vpairs (ps.take (k + 1)) s4 = vpair p (vpairs (ps.take k) s4)) := by rw [Hid, HT.out, vpairs_snoc]
        obtain ⟨s8, hq8⟩ : ∃ q, q = vpairs (ps.take k) s4 := ⟨_, rfl⟩
        rw [← hq8] at hW HS
        have HP := Hid.mk' (fun x => pair_wr g s8 (N + 40 + 90 * k) p _ (hW.alloc (.cells #[.string p.key, .string p.val, .bool p.gone] 84)) x)
        have hMa := hM.alloc (.cells #[.string p.key, .string p.val, .bool p.gone] 84)
        clear hq8 HT hcl hp hv hW
        go_wp2_with fail
        refine (HP.out (by omega)).mono ?_
        rintro e w9 ⟨rfl, hW9, hm9⟩
        have hM9 := penMay_trans hMa hm9
        clear HP hM hMa hm9 q0 q1 q2
        go_wp2_with fail
        go_roundw
        case rel => exact ⟨k + 1, by omega, by go_num, by rw [HS.out]; exact hW9, hM9⟩
        case measure => simp [intOf]; omega
      · have hkn : k = ps.length := by omega
        subst hkn
        rw [List.take_length] at hW
        go_wp2_with fail
        go_end0
        rw [HR.out]
        exact ⟨rfl, hW, hM⟩
end Go.Proofs.YtcfgmjlkbjleaaaDoor
