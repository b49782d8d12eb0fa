/- What bytes tell: plain mathematics, no program. -/
import Derived.WalkKit
import Derived.Laws.BytesArg
namespace Go.Proofs.YtefhgakcffhgaabDoor

/-- The bytes of a number: seven bits each, the least ones first, 128 added to all but the last one. -/
def enc (n : Nat) : List Int := if n < 128 then [(n : Int)] else ((n % 128 + 128 : Nat) : Int) :: enc (n / 128)
  decreasing_by omega

theorem enc_small {n : Nat} (h : n < 128) : enc n = [(n : Int)] := by rw [enc, if_pos h]
theorem enc_big {n : Nat} (h : ¬ n < 128) : enc n = ((n % 128 + 128 : Nat) : Int) :: enc (n / 128) := by rw [enc, if_neg h]
theorem enc_length (k : Nat) : ∀ n, n < 128 ^ (k + 1) → (enc n).length ≤ k + 1 := by
  induction k with
  | zero => intro n h; rw [enc_small (by simpa using h)]; simp
  | succ k ih =>
    intro n h
    by_cases hs : n < 128
    · rw [enc_small hs]; simp
    · rw [enc_big hs]
      have := ih (n / 128) (by rw [Nat.pow_succ] at h; exact Nat.div_lt_of_lt_mul (by rw [Nat.mul_comm]; exact h))
      simp; omega
theorem enc_pos (n : Nat) : 0 < (enc n).length := by rw [enc]; split <;> simp
theorem enc_len6 (n : Nat) (h : (n : Int) ≤ 1099511627776) : (enc n).length ≤ 6 := enc_length 5 n (by omega)
theorem enc_bytes (n : Nat) : ∀ x ∈ enc n, 0 ≤ x ∧ x < 256 := by
  induction n using Nat.strongRecOn with
  | _ n ih =>
    by_cases h : n < 128
    · rw [enc_small h]; intro x hx; simp at hx; omega
    · rw [enc_big h]; intro x hx
      rcases List.mem_cons.1 hx with rfl | hx
      · omega
      · exact ih (n / 128) (by omega) x hx

/-- What a number's bytes at the head of a list tell: the number, and the rest; at most k bytes are looked at. -/
def scan : Nat → List Int → Option (Nat × List Int)
  | 0, _ => none
  | _, [] => none
  | k + 1, c :: r => if c < 128 then some (c.toNat, r) else (scan k r).map fun (n, r') => ((c % 128).toNat + 128 * n, r')

theorem scan_enc (k : Nat) : ∀ n r, (enc n).length ≤ k → scan k (enc n ++ r) = some (n, r) := by
  induction k with
  | zero => intro n r h; have := enc_pos n; omega
  | succ k ih =>
    intro n r h
    by_cases hs : n < 128
    · rw [enc_small hs]; simp only [List.cons_append, List.nil_append, scan]; rw [if_pos (by omega)]; simp
    · rw [enc_big hs] at h ⊢
      simp only [List.cons_append, scan]
      rw [if_neg (by omega), ih (n / 128) r (by simpa using h)]
      simp; omega

/-- What bytes tell, seven bits each. -/
def vl : List Int → Int
  | [] => 0
  | c :: r => c % 128 + 128 * vl r
theorem vl_nonneg : ∀ l, 0 ≤ vl l
  | [] => Int.le_refl _
  | c :: r => by have := vl_nonneg r; simp only [vl]; omega
theorem vl_lt : ∀ l : List Int, vl l < 128 ^ l.length
  | [] => by simp [vl]
  | c :: r => by
    have := vl_lt r
    simp only [vl, List.length_cons, Int.pow_succ]; omega
theorem vl_snoc : ∀ (l : List Int) (c : Int), vl (l ++ [c]) = vl l + 128 ^ l.length * (c % 128)
  | [], c => by simp [vl]
  | x :: r, c => by
    simp only [List.cons_append, vl, vl_snoc r c, List.length_cons, Int.pow_succ]
    rw [Int.mul_add, ← Int.mul_assoc, Int.mul_comm 128 (128 ^ r.length)]; omega
theorem take_snoc (l : List Int) (k : Nat) (h : k < l.length) : l.take (k + 1) = l.take k ++ [l.getD k 0] := by
  rw [List.take_succ_eq_append_getElem h, List.getD_eq_getElem?_getD, List.getElem?_eq_getElem h]; rfl
theorem vl_take (l : List Int) (k : Nat) (h : k < l.length) : vl (l.take (k + 1)) = vl (l.take k) + 128 ^ k * (l.getD k 0 % 128) := by
  rw [take_snoc l k h, vl_snoc, List.length_take, Nat.min_eq_left (Nat.le_of_lt h)]
theorem vl_take_lt (l : List Int) (k : Nat) : vl (l.take k) < 128 ^ k := by
  have h1 := vl_lt (l.take k)
  have h2 : (128 : Int) ^ (l.take k).length ≤ 128 ^ k := by
    have : (128 : Nat) ^ (l.take k).length ≤ 128 ^ k := Nat.pow_le_pow_right (by omega) (List.length_take_le _ _)
    exact_mod_cast this
  omega

theorem scan_stop : ∀ (k f : Nat) (bs : List Int), k < f → k < bs.length → (∀ j, j < k → 128 ≤ bs.getD j 0) → bs.getD k 0 < 128 → 0 ≤ bs.getD k 0 → scan f bs = some ((vl (bs.take (k + 1))).toNat, bs.drop (k + 1))
  | 0, f + 1, c :: r, _, _, _, h1, h2 => by
    simp at h1 h2
    simp only [scan, if_pos h1, List.take_succ_cons, List.take_zero, vl, List.drop_succ_cons, List.drop_zero]
    congr 2; omega
  | k + 1, f + 1, c :: r, hf, hl, hj, h1, h2 => by
    have h0 : 128 ≤ c := by simpa using hj 0 (by omega)
    have ih := scan_stop k f r (by omega) (by simpa using hl) (fun j hj' => by simpa using hj (j + 1) (by omega)) (by simpa using h1) (by simpa using h2)
    have hv := vl_nonneg (r.take (k + 1))
    simp only [scan, if_neg (show ¬ c < 128 by omega), ih, Option.map_some, List.take_succ_cons (as := r) (i := k + 1), vl, List.drop_succ_cons]
    congr 2; omega
theorem scan_none : ∀ (f : Nat) (bs : List Int), (∀ j, j < f → j < bs.length → 128 ≤ bs.getD j 0) → scan f bs = none
  | 0, _, _ => rfl
  | _ + 1, [], _ => rfl
  | f + 1, c :: r, h => by
    have h0 : 128 ≤ c := by simpa using h 0 (by omega) (by simp)
    simp only [scan, if_neg (show ¬ c < 128 by omega)]
    rw [scan_none f r (fun j hj hl => by simpa using h (j + 1) (by omega) (by simpa using hl))]; rfl

theorem vl_pos : ∀ (k : Nat) (bs : List Int), k < bs.length → bs.getD k 0 < 128 → 0 < bs.getD k 0 → 0 < vl (bs.take (k + 1))
  | 0, c :: r, _, h1, h2 => by simp at h1 h2; simp only [List.take_succ_cons, List.take_zero, vl]; omega
  | k + 1, c :: r, hl, h1, h2 => by
    have := vl_pos k r (by simpa using hl) (by simpa using h1) (by simpa using h2)
    simp only [List.take_succ_cons (as := r) (i := k + 1), vl]; omega
theorem canon_iff : ∀ (k : Nat) (bs : List Int), k < bs.length → (∀ j, j < k → 128 ≤ bs.getD j 0 ∧ bs.getD j 0 < 256) → 0 ≤ bs.getD k 0 → bs.getD k 0 < 128 →
    (bs = enc (vl (bs.take (k + 1))).toNat ++ bs.drop (k + 1) ↔ (k = 0 ∨ bs.getD k 0 ≠ 0))
  | 0, c :: r, _, _, h1, h2 => by
    simp at h1 h2
    have e : vl (List.take (0 + 1) (c :: r)) = c := by simp only [List.take_succ_cons, List.take_zero, vl]; omega
    rw [e, enc_small (by omega)]
    simp; omega
  | k + 1, c :: r, hl, hj, h1, h2 => by
    have h0 : 128 ≤ c ∧ c < 256 := by simpa using hj 0 (by omega)
    have ih := canon_iff k r (by simpa using hl) (fun j hj' => by simpa using hj (j + 1) (by omega)) (by simpa using h1) (by simpa using h2)
    have hv := vl_nonneg (r.take (k + 1))
    have e : vl (List.take (k + 1 + 1) (c :: r)) = c % 128 + 128 * vl (r.take (k + 1)) := by simp only [List.take_succ_cons (as := r) (i := k + 1), vl]
    rw [e]
    have g : (c :: r).getD (k + 1) 0 = r.getD k 0 := by simp
    rw [g] at h1 h2 ⊢
    by_cases hm : vl (r.take (k + 1)) = 0
    · have hz : r.getD k 0 = 0 := by
        rcases Int.lt_or_eq_of_le h1 with h | h
        · have := vl_pos k r (by simpa using hl) h2 h; omega
        · exact h.symm
      rw [hm, enc_small (by omega)]
      constructor
      · intro h; simp at h; omega
      · rintro (h | h)
        · omega
        · exact absurd hz h
    · rw [enc_big (by omega), show (c % 128 + 128 * vl (r.take (k + 1))).toNat / 128 = (vl (r.take (k + 1))).toNat by omega]
      have hc : (((c % 128 + 128 * vl (r.take (k + 1))).toNat % 128 + 128 : Nat) : Int) = c := by omega
      rw [hc]
      simp only [List.drop_succ_cons, List.cons_append, List.cons.injEq, true_and]
      rw [ih]
      constructor
      · rintro (h | h)
        · subst h
          right; intro hz
          apply hm
          match r, hl with
          | x :: r', _ => simp at hz; subst hz; simp [vl]
        · exact .inr h
      · rintro (h | h)
        · omega
        · exact .inr h

/-- A byte's seven bits, laid behind what is there. -/
theorem or_shift (x c : Int) (k : Nat) (hk : k < 6) (hx : 0 ≤ x) (hxl : x < 128 ^ k) (hc0 : 0 ≤ c) (hc1 : c < 256) :
    bits .or .i64 x (RowKit.wrap64 (RowKit.wrap64 (bits .and .u8 c 127) * 2 ^ (7 * k))) = x + 128 ^ k * (c % 128) := by
  have e1 : bits .and .u8 c 127 = c % 128 := by
    rw [u8_and c 127 hc0 hc1 (by omega) (by omega)]
    have : (127 : Int).toNat = 127 := rfl
    rw [this, nat_mask7]; omega
  rw [e1]
  have hp : (2 : Int) ^ (7 * k) = 128 ^ k := by rw [Int.pow_mul]; rfl
  rw [hp]
  have hpk : (128 : Int) ^ k ≤ 34359738368 := by
    have : (128 : Nat) ^ k ≤ 128 ^ 5 := Nat.pow_le_pow_right (by omega) (by omega)
    have h2 : ((128 ^ k : Nat) : Int) ≤ ((128 ^ 5 : Nat) : Int) := by exact_mod_cast this
    simpa using h2
  have hpp : (0 : Int) < 128 ^ k := Int.pow_pos (by omega)
  have w1 : RowKit.wrap64 (c % 128) = c % 128 := IntWalk.wrap64_in _ ⟨by omega, by omega⟩
  rw [w1]
  have hm : 0 ≤ c % 128 ∧ c % 128 ≤ 127 := by omega
  have hprod : c % 128 * 128 ^ k ≤ 127 * 34359738368 := Int.mul_le_mul hm.2 hpk (Int.le_of_lt hpp) (by omega)
  have hprod0 : 0 ≤ c % 128 * 128 ^ k := Int.mul_nonneg hm.1 (Int.le_of_lt hpp)
  have w2 : RowKit.wrap64 (c % 128 * 128 ^ k) = c % 128 * 128 ^ k := IntWalk.wrap64_in _ ⟨by omega, by omega⟩
  rw [w2]
  obtain ⟨X, rfl⟩ := Int.eq_ofNat_of_zero_le hx
  obtain ⟨m, hmm⟩ := Int.eq_ofNat_of_zero_le hm.1
  rw [hmm] at hprod hprod0 ⊢
  have hpN : (128 : Int) ^ k = ((2 ^ (7 * k) : Nat) : Int) := by rw [← hp]; exact_mod_cast rfl
  rw [hpN] at hprod hprod0 hxl ⊢
  generalize hP : 2 ^ (7 * k) = P at hprod hprod0 hxl ⊢
  have hmul : (m : Int) * (P : Int) = ((m * P : Nat) : Int) := by exact_mod_cast rfl
  rw [hmul] at hprod ⊢
  have key : (BitVec.ofInt 64 (X : Int) ||| BitVec.ofInt 64 ((m * P : Nat) : Int)).toNat = m * P + X := by
    have h1 : (BitVec.ofInt 64 (X : Int)).toNat = X := by rw [BitVec.toNat_ofInt]; omega
    have h2 : (BitVec.ofInt 64 ((m * P : Nat) : Int)).toNat = m * P := by rw [BitVec.toNat_ofInt]; omega
    rw [BitVec.toNat_or, h1, h2, Nat.or_comm]
    have hX : X < P := by omega
    rw [← hP]
    exact nat_join (7 * k) (m * 2 ^ (7 * k)) X (Nat.mul_mod_left _ _) (by rw [hP]; exact hX)
  show IntKind.i64.wrap ((BitVec.ofInt 64 (X : Int) ||| BitVec.ofInt 64 ((m * P : Nat) : Int)).toNat : Nat) = _
  rw [key, IntKind.wrap_i64]
  have : (P : Int) * (m : Int) = ((m * P : Nat) : Int) := by rw [Int.mul_comm]; exact_mod_cast rfl
  rw [this]
  omega
theorem or_vl (bs : List Int) (k : Nat) (hk : k < 6) (hl : k < bs.length) (c : Int) (hc : c = bs.getD k 0) (hc0 : 0 ≤ c) (hc1 : c < 256) :
    bits .or .i64 (vl (bs.take k)) (RowKit.wrap64 (RowKit.wrap64 (bits .and .u8 c 127) * 2 ^ (7 * k))) = vl (bs.take (k + 1)) := by
  rw [or_shift _ _ _ hk (vl_nonneg _) (vl_take_lt _ _) hc0 hc1, vl_take bs k hl, hc]

/-- What the program's reader does at a number. -/
def pnum (lo hi : Nat) (s : List Int × Bool) : Nat × List Int × Bool :=
  match scan 6 s.1 with
  | none => (0, [], true)
  | some (n, r) => if s.1 = enc n ++ r ∧ lo ≤ n ∧ n ≤ hi then (n, r, s.2) else (0, [], true)
theorem pnum_none {bs : List Int} {sp : Bool} {lo hi : Nat} (h : ∀ j, j < 6 → j < bs.length → 128 ≤ bs.getD j 0) : pnum lo hi (bs, sp) = (0, [], true) := by
  simp only [pnum, scan_none 6 bs h]
theorem pnum_at {bs : List Int} {sp : Bool} {lo hi k : Nat} {c y : Int} (hk : k < 6) (hl : k < bs.length) (hb : ∀ x ∈ bs, 0 ≤ x ∧ x < 256) (hj : ∀ j, j < k → 128 ≤ bs.getD j 0) (hc : c = bs.getD k 0) (hc1 : c < 128) (hy : y = vl (bs.take (k + 1))) :
    pnum lo hi (bs, sp) = if (k = 0 ∨ c ≠ 0) ∧ (lo : Int) ≤ y ∧ y ≤ hi then (y.toNat, bs.drop (k + 1), sp) else (0, [], true) := by
  have hmem : ∀ j, j < bs.length → 0 ≤ bs.getD j 0 ∧ bs.getD j 0 < 256 := fun j h => hb _ (by rw [List.getD_eq_getElem?_getD, List.getElem?_eq_getElem h]; exact List.getElem_mem _)
  subst hc
  have h1 := scan_stop k 6 bs hk hl hj hc1 (hmem k hl).1
  have h2 := canon_iff k bs hl (fun j h => ⟨hj j h, (hmem j (by omega)).2⟩) (hmem k hl).1 hc1
  have h3 := vl_nonneg (bs.take (k + 1))
  simp only [pnum, h1]
  rw [← hy] at h2 h3 ⊢
  have e : (bs = enc y.toNat ++ bs.drop (k + 1) ∧ lo ≤ y.toNat ∧ y.toNat ≤ hi) ↔ ((k = 0 ∨ bs.getD k 0 ≠ 0) ∧ (lo : Int) ≤ y ∧ y ≤ hi) := by
    rw [h2]
    constructor
    · rintro ⟨a, b, c⟩; exact ⟨a, by omega, by omega⟩
    · rintro ⟨a, b, c⟩; exact ⟨a, by omega, by omega⟩
  by_cases h : (k = 0 ∨ bs.getD k 0 ≠ 0) ∧ (lo : Int) ≤ y ∧ y ≤ hi
  · rw [if_pos h, if_pos (e.2 h)]
  · rw [if_neg h, if_neg (fun x => h (e.1 x))]

theorem pnum_le (lo hi : Nat) (s : List Int × Bool) : (pnum lo hi s).1 ≤ hi := by
  unfold pnum; split
  · exact Nat.zero_le _
  · split
    · rename_i h; exact h.2.2
    · exact Nat.zero_le _
def ptruth (s : List Int × Bool) : Bool × List Int × Bool := ((pnum 0 1 s).1 == 1, (pnum 0 1 s).2)
def ptext (most : Nat) (s : List Int × Bool) : ByteArray × List Int × Bool :=
  if (pnum 0 most s).2.1.length < (pnum 0 most s).1 then (ByteArray.empty, [], true)
  else (strOfNums ((pnum 0 most s).2.1.take (pnum 0 most s).1), (pnum 0 most s).2.1.drop (pnum 0 most s).1, (pnum 0 most s).2.2)
theorem ptext_no {most : Nat} {s : List Int × Bool} {n : Nat} {bs : List Int} {sp : Bool} (h : (n, bs, sp) = pnum 0 most s) (hl : bs.length < n) : ptext most s = (ByteArray.empty, [], true) := by
  unfold ptext; rw [← h, if_pos hl]
theorem ptext_yes {most : Nat} {s : List Int × Bool} {n : Nat} {bs : List Int} {sp : Bool} (h : (n, bs, sp) = pnum 0 most s) (hl : ¬ bs.length < n) : ptext most s = (strOfNums (bs.take n), bs.drop n, sp) := by
  unfold ptext; rw [← h, if_neg hl]
theorem ptruth_eq {s : List Int × Bool} {n : Nat} {bs : List Int} {sp : Bool} (h : (n, bs, sp) = pnum 0 1 s) : ptruth s = (n == 1, bs, sp) := by
  unfold ptruth; rw [← h]
structure PairD where
  key : ByteArray
  val : ByteArray
  gone : Bool
def ppair (s : List Int × Bool) : PairD × List Int × Bool :=
  let k := ptext 20 s
  let g := ptruth k.2
  if g.1 then (⟨k.1, ByteArray.empty, true⟩, g.2) else (⟨k.1, (ptext 40 g.2).1, false⟩, (ptext 40 g.2).2)
def ppairs : Nat → List Int × Bool → List PairD × List Int × Bool
  | 0, s => ([], s)
  | n + 1, s => ((ppair s).1 :: (ppairs n (ppair s).2).1, (ppairs n (ppair s).2).2)
structure CmdD where
  kind : Int
  tx : Int
  time : Int
  writes : List PairD
def pcmd (s : List Int × Bool) : CmdD × List Int × Bool :=
  let k := pnum 1 4 s
  let x := pnum 0 1099511627776 k.2
  let t := pnum 0 1099511627776 x.2
  let n := pnum 0 20 t.2
  let r := ppairs n.1 n.2
  (⟨k.1, x.1, t.1, r.1⟩, r.2)
def pcmds : Nat → List Int × Bool → List CmdD × List Int × Bool
  | 0, s => ([], s)
  | n + 1, s => ((pcmd s).1 :: (pcmds n (pcmd s).2).1, (pcmds n (pcmd s).2).2)
structure MsgD where
  kind : Int
  frm : Int
  to : Int
  epoch : Int
  n : Int
  cmd : CmdD
def zeroCmd : CmdD := ⟨0, 0, 0, []⟩
def zeroMsg : MsgD := ⟨0, 0, 0, 0, 0, zeroCmd⟩
/-- All of the message, and what is left. -/
def pmsg (s : List Int × Bool) : MsgD × List Int × Bool :=
  let k := pnum 1 4 s
  let f := pnum 0 1099511627776 k.2
  let t := pnum 0 1099511627776 f.2
  let e := pnum 0 1099511627776 t.2
  let n := pnum 0 1099511627776 e.2
  if k.1 = 3 then (⟨k.1, f.1, t.1, e.1, n.1, (pcmd n.2).1⟩, (pcmd n.2).2) else (⟨k.1, f.1, t.1, e.1, n.1, zeroCmd⟩, n.2)
def whole (s : List Int × Bool) : Bool := !s.2 && s.1.isEmpty
def pReadMsg (bs : List Int) : Option MsgD := if whole (pmsg (bs, false)).2 then some (pmsg (bs, false)).1 else none
def plog (s : List Int × Bool) : List CmdD × List Int × Bool := pcmds (pnum 0 500 s).1 (pnum 0 500 s).2
def pReadLog (bs : List Int) : Option (List CmdD) := if whole (plog (bs, false)).2 then some (plog (bs, false)).1 else none
theorem ppairs_snoc : ∀ n s, ppairs (n + 1) s = ((ppairs n s).1 ++ [(ppair (ppairs n s).2).1], (ppair (ppairs n s).2).2)
  | 0, s => rfl
  | n + 1, s => by rw [ppairs, ppairs_snoc n (ppair s).2]; rfl
theorem ppairs_len : ∀ n s, (ppairs n s).1.length = n
  | 0, _ => rfl
  | n + 1, s => by simp [ppairs, ppairs_len n]
theorem pcmds_len : ∀ n s, (pcmds n s).1.length = n
  | 0, _ => rfl
  | n + 1, s => by simp [pcmds, pcmds_len n]
theorem pcmds_snoc : ∀ n s, pcmds (n + 1) s = ((pcmds n s).1 ++ [(pcmd (pcmds n s).2).1], (pcmd (pcmds n s).2).2)
  | 0, s => rfl
  | n + 1, s => by rw [pcmds, pcmds_snoc n (pcmd s).2]; rfl
end Go.Proofs.YtefhgakcffhgaabDoor
