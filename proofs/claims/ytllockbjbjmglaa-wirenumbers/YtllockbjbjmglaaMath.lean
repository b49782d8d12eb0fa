/- The bytes of a number: seven bits each, the least ones first, 128 added to all but the last one. Plain mathematics, no program. -/
import Derived.WalkKit
namespace Go.Proofs.Ytllockbjbjmglaa

def enc (n : Nat) : List Int := if n < 128 then [(n : Int)] else ((n % 128 + 128 : Nat) : Int) :: enc (n / 128)
  decreasing_by omega

theorem enc_small {n : Nat} (h : n < 128) : enc n = [(n : Int)] := by rw [enc, if_pos h]
theorem enc_big {n : Nat} (h : ¬ n < 128) : enc n = ((n % 128 + 128 : Nat) : Int) :: enc (n / 128) := by rw [enc, if_neg h]
theorem enc_length (k : Nat) : ∀ n, n < 128 ^ (k + 1) → (enc n).length ≤ k + 1 := by
  induction k with
  | zero => intro n h; rw [enc_small (by simpa using h)]; simp
  | succ k ih =>
    intro n h
    by_cases hs : n < 128
    · rw [enc_small hs]; simp
    · rw [enc_big hs]
      have := ih (n / 128) (by rw [Nat.pow_succ] at h; exact Nat.div_lt_of_lt_mul (by rw [Nat.mul_comm]; exact h))
      simp; omega

theorem byte_or (j : Nat) : bits .or .i64 (bits .and .i64 (j : Int) 127) 128 % 256 = ((j % 128 + 128 : Nat) : Int) := by
  rw [i64_and127]
  have key : (BitVec.ofInt 64 ((j : Int) % 128) ||| BitVec.ofInt 64 128).toNat = j % 128 + 128 := by
    have h128 : (BitVec.ofInt 64 128).toNat = 128 := by decide
    have hj : (BitVec.ofInt 64 ((j : Int) % 128)).toNat = j % 128 := by rw [BitVec.toNat_ofInt]; omega
    rw [BitVec.toNat_or, h128, hj, nat_join7' 128 (j % 128) (by decide) (by omega)]
    omega
  show IntKind.i64.wrap ((BitVec.ofInt 64 ((j : Int) % 128) ||| BitVec.ofInt 64 128).toNat : Nat) % 256 = _
  rw [key, IntKind.wrap_i64]
  omega

theorem enc_step {j : Nat} {pre tot : List Int} (h : 127 < (j : Int)) (hp : pre ++ enc j = tot) : (pre ++ [((j % 128 + 128 : Nat) : Int)]) ++ enc (j / 128) = tot := by
  rw [← hp, enc_big (n := j) (by omega)]; simp
theorem enc_last {j : Nat} {pre tot : List Int} (h : (j : Int) ≤ 127) (hp : pre ++ enc j = tot) : pre ++ [(j : Int)] = tot := by
  rw [← hp, enc_small (n := j) (by omega)]
theorem enc_len6 (n : Nat) (h : (n : Int) ≤ 1099511627776) : (enc n).length ≤ 6 := enc_length 5 n (by omega)
theorem enc_pre {j : Nat} {pre : List Int} {n : Nat} (hn : (n : Int) ≤ 1099511627776) (hp : pre ++ enc j = enc n) : pre.length ≤ 6 := by
  have := enc_len6 n hn
  rw [← hp] at this
  simp at this; omega

end Go.Proofs.Ytllockbjbjmglaa
