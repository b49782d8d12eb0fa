/- The program's writer: numbers. -/
import Derived.Test.YtcfgmjlkbjleaaaDoorRg
namespace Go.Proofs.YtcfgmjlkbjleaaaDoor
open Go.RowKit Go.Lib

theorem byte_or (j : Nat) : bits .or .i64 (bits .and .i64 (j : Int) 127) 128 % 256 = ((j % 128 + 128 : Nat) : Int) := by
  rw [i64_and127]
  have key : (BitVec.ofInt 64 ((j : Int) % 128) ||| BitVec.ofInt 64 128).toNat = j % 128 + 128 := by
    have h128 : (BitVec.ofInt 64 128).toNat = 128 := by decide
    have hj : (BitVec.ofInt 64 ((j : Int) % 128)).toNat = j % 128 := by rw [BitVec.toNat_ofInt]; omega
    rw [BitVec.toNat_or, h128, hj, nat_join7' 128 (j % 128) (by decide) (by omega)]
    omega
  show IntKind.i64.wrap ((BitVec.ofInt 64 ((j : Int) % 128) ||| BitVec.ofInt 64 128).toNat : Nat) % 256 = _
  rw [key, IntKind.wrap_i64]
  omega
theorem enc_step {j : Nat} {pre tot : List Int} (h : 127 < (j : Int)) (hp : pre ++ enc j = tot) : (pre ++ [((j % 128 + 128 : Nat) : Int)]) ++ enc (j / 128) = tot := by
  rw [← hp, enc_big (n := j) (by omega)]; simp
theorem enc_last {j : Nat} {pre tot : List Int} (h : (j : Int) ≤ 127) (hp : pre ++ enc j = tot) : pre ++ [(j : Int)] = tot := by
  rw [← hp, enc_small (n := j) (by omega)]
theorem enc_len10 (n : Nat) (h : (n : Int) ≤ 9223372036854775807) : (enc n).length ≤ 10 := enc_length 9 n (by omega)
theorem enc_pre {j : Nat} {pre : List Int} {n : Nat} (hn : (n : Int) ≤ 9223372036854775807) (hp : pre ++ enc j = enc n) : pre.length ≤ 10 := by
  have := enc_len10 n hn
  rw [← hp] at this
  simp at this; omega
theorem one_at (w : World) (x : Value) (e : TypeId) : ∀ j u, [x][j]? = some u → (w.alloc (.cells #[x] e)).cell? ((⟨w.heap.size, 0, none⟩ : Addr).add j) = some u := by
  intro j u hj
  match j, hj with
  | 0, hj => simp at hj; subst hj; simp [Addr.add]
theorem one_u8 (x : Int) : ∀ u ∈ [Value.int .u8 x], u.oneCell' = true := by
  intro u hu; simp at hu; subst hu; rfl
/-- What Put writes. -/
def putB (n : Int) : List Int := if n < 0 then [n % 256] else enc n.toNat
theorem putB_len (n : Int) (h : n ≤ 9223372036854775807) : (putB n).length ≤ 10 := by
  unfold putB; split
  · simp
  · exact enc_len10 _ (by omega)
theorem putB_in (n : Int) (h : 0 ≤ n) : putB n = enc n.toNat := by unfold putB; rw [if_neg (by omega)]
/-- The rows of bytes from block B on, and new memory. -/
def rowMay (w : World) (B k : Nat) : Prop := B ≤ k ∧ ∃ cur fr, w.heap[k]? = some (.cells cur 5 fr)
theorem rowMay_trans {w w1 w2 : World} {B : Nat} (h : Mod (rowMay w B) w w1) (k : Mod (rowMay w1 B) w1 w2) : Mod (rowMay w B) w w2 := by
  refine ⟨k.os.trans h.os, k.tape.trans h.tape, k.output.trans h.output, Nat.le_trans h.size k.size, fun i hi hG => ?_⟩
  have h1 := h.block i hi hG
  refine (k.block i (Nat.lt_of_lt_of_le hi h.size) (fun x => hG ?_)).trans h1
  obtain ⟨x, cur, fr, hx⟩ := x
  exact ⟨x, cur, fr, by rw [← h1]; exact hx⟩
theorem rowMay_grown {w w' : World} {B : Nat} {v : Value} {n : Nat} {xs : List Value} {o : Obj} (h : w.ownsRow B 5 1 v n xs) (hg : (w.alloc o).grownBy w' v.ownBlock) : Mod (rowMay w B) w w' :=
  ((Mod.refl _ w).alloc o).grown hg (fun x hx _ => by
    rcases h.2 with ⟨rfl, _⟩ | ⟨q, cap, cur, rfl, h1, h2, _⟩
    · simp [Value.ownBlock] at hx
    · simp [Value.ownBlock] at hx; subst hx
      exact ⟨h1, cur, _, h2⟩)

set_option maxHeartbeats 1000000 in
theorem put_pos (B : Nat) (w : World) (v : Value) (m : Nat) (xs : List Value) (n : Nat) (hn : (n : Int) ≤ 9223372036854775807) (hm : (m : Int) ≤ 1099511627776)
    (hown : w.ownsRow B 5 1 v m xs) (hB : B ≤ w.heap.size) :
    Calls Tryd.prog 113 #[v, .int .i64 n] w fun e w' => ∃ v', e = .returned v' ∧ w'.ownsRow B 5 1 v' (m + (enc n).length) (xs ++ (enc n).map (Value.int .u8)) ∧ Mod (rowMay w B) w w' := by
  obtain ⟨i0, hi, hz0, hz1, hz2⟩ := info_parts Tryd.info5
  go_enter Tryd.func113, Tryd.ntmps113
  go_wp2_with fail
  go_loopw [0, 1] (fun v' i wr => ∃ (j : Nat) (pre : List Int), (j : Int) ≤ 9223372036854775807 ∧ i = .int .i64 j ∧ pre ++ enc j = enc n ∧ wr.ownsRow B 5 1 v' (m + pre.length) (xs ++ pre.map (Value.int .u8)) ∧ Mod (rowMay w B) w wr)
    (fun _ i _ => (intOf i).toNat)
  case atStart => exact ⟨n, [], hn, rfl, rfl, by simpa using hown, Mod.refl _ _⟩
  case round =>
    obtain ⟨j, pre, hj, rfl, hpre, hownr, hbr⟩ := hrel
    have hpl := enc_pre hn hpre
    have HP : Hid (pre ++ enc j = enc n) := hpre
    have hsz := hbr.size
    clear hpre hown
    by_cases hlt : 127 < (j : Int)
    · go_wp2_with (at_builtin; refine wpList_append_own _ rfl (.tmp 7) (.tmp 12) 28 rfl B 5 i0 (.int .u8 0) 1 1 Tryd.underlying28 hi hz0 hz1 hz2 rfl (by decide) _ _ _ rfl (hownr.alloc _) ⟨wr.heap.size, 0, none⟩ 1 1 [.int .u8 (bits BinOp.or IntKind.i64 (bits BinOp.and IntKind.i64 (↑j) 127) 128 % 256)] rfl rfl (one_at _ _ _) (one_u8 _) (by unfold maxLen; omega) (by omega) (by simp; omega) ?_)
      intro v' w1 hown' hgrow _
      rw [byte_or] at hown'
      have hb' := rowMay_trans hbr (rowMay_grown hownr hgrow)
      clear hgrow hownr
      go_wp2_with fail
      go_roundw
      case rel => exact ⟨j / 128, pre ++ [((j % 128 + 128 : Nat) : Int)], by omega, by go_num, enc_step hlt HP.out, by simpa [Nat.add_assoc] using hown', hb'⟩
      case measure => simp [intOf]; omega
    · go_wp2_with (at_builtin; refine wpList_append_own _ rfl (.tmp 16) (.tmp 19) 28 rfl B 5 i0 (.int .u8 0) 1 1 Tryd.underlying28 hi hz0 hz1 hz2 rfl (by decide) _ _ _ rfl (hownr.alloc _) ⟨wr.heap.size, 0, none⟩ 1 1 [.int .u8 (j : Int)] rfl rfl (one_at _ _ _) (one_u8 _) (by unfold maxLen; omega) (by omega) (by simp; omega) ?_)
      intro v' w1 hown' hgrow _
      have hb' := rowMay_trans hbr (rowMay_grown hownr hgrow)
      clear hgrow hownr
      go_wp2_with fail
      go_ret
      refine ⟨v', rfl, ?_, hb'⟩
      rw [← enc_last (by omega) HP.out]
      simpa [Nat.add_assoc] using hown'
set_option maxRecDepth 100000 in
set_option maxHeartbeats 1000000 in
theorem put_neg (B : Nat) (w : World) (v : Value) (m : Nat) (xs : List Value) (n : Int) (hn : n < 0) (hm : (m : Int) ≤ 1099511627776)
    (hown : w.ownsRow B 5 1 v m xs) (hB : B ≤ w.heap.size) :
    Calls Tryd.prog 113 #[v, .int .i64 n] w fun e w' => ∃ v', e = .returned v' ∧ w'.ownsRow B 5 1 v' (m + 1) (xs ++ [.int .u8 (n % 256)]) ∧ Mod (rowMay w B) w w' := by
  obtain ⟨i0, hi, hz0, hz1, hz2⟩ := info_parts Tryd.info5
  go_enter Tryd.func113, Tryd.ntmps113
  go_wp2_with fail
  refine wp_loop_rounds 1 ?_
  rw [rounds_succ]
  go_wp2_with (at_builtin; refine wpList_append_own _ rfl (.tmp 16) (.tmp 19) 28 rfl B 5 i0 (.int .u8 0) 1 1 Tryd.underlying28 hi hz0 hz1 hz2 rfl (by decide) _ _ _ rfl (hown.alloc _) ⟨w.heap.size, 0, none⟩ 1 1 [.int .u8 (n % 256)] rfl rfl (one_at _ _ _) (one_u8 _) (by unfold maxLen; omega) (by omega) (by simp; omega) ?_)
  intro v' w1 hown' hgrow _
  have hb' := rowMay_grown hown hgrow
  clear hgrow hown
  go_wp2_with fail
  go_ret
  exact ⟨v', rfl, hown', hb'⟩
theorem put_any (B : Nat) (w : World) (v : Value) (row : List Int) (n : Int) (hn : n ≤ 9223372036854775807) (hm : row.length ≤ 1099511627776)
    (hown : w.ownsRow B 5 1 v row.length (row.map (Value.int .u8))) (hB : B ≤ w.heap.size) :
    Calls Tryd.prog 113 #[v, .int .i64 n] w fun e w' => ∃ v', e = .returned v' ∧ w'.ownsRow B 5 1 v' (row ++ putB n).length ((row ++ putB n).map (Value.int .u8)) ∧ Mod (rowMay w B) w w' := by
  by_cases h : n < 0
  · refine (put_neg B w v row.length _ n h (by omega) hown hB).mono ?_
    rintro e w' ⟨v', rfl, h1, h2⟩
    exact ⟨v', rfl, by simpa [putB, h] using h1, h2⟩
  · obtain ⟨k, rfl⟩ := Int.eq_ofNat_of_zero_le (Int.not_lt.1 h)
    refine (put_pos B w v row.length _ k hn (by omega) hown hB).mono ?_
    rintro e w' ⟨v', rfl, h1, h2⟩
    exact ⟨v', rfl, by rw [putB_in _ (by omega), Int.toNat_natCast]; simpa using h1, h2⟩
end Go.Proofs.YtcfgmjlkbjleaaaDoor
