/- The law LocksApart: what is given, what is kept (pure and memory). -/
import Derived.Test.YtefhgakcffhgaabQx
namespace Go.Proofs.Ytefhgakcffhgaab
open Go.RowKit Go.Lib Go.Maps
set_option linter.unusedVariables false

def pickQ (a : Int) (n : Nat) : Nat := (IntKind.u64.wrap a % n).toNat
theorem pickQ_lt (a : Int) (n : Nat) (hn : 0 < n) : pickQ a n < n := by
  have h1 := Int.emod_nonneg (IntKind.u64.wrap a) (show (n : Int) ≠ 0 by omega)
  have h2 := Int.emod_lt_of_pos (IntKind.u64.wrap a) (show (0 : Int) < n by omega)
  unfold pickQ; omega
theorem retIQ {x y : Int} (h : x = y) : Ending.returned (.int .i64 x) = Ending.returned (.int .i64 y) := by rw [h]
theorem pickQ_any (a : Int) (n : Nat) (w : World) (hn : 0 < n) (hm : (n : Int) ≤ 1000) :
    Calls Try.prog 8 #[.int .i64 a, .int .i64 n] w fun e w' => e = .returned (.int .i64 (pickQ a n)) ∧ w' = w := by
  have hw : IntKind.u64.wrap (n : Int) = n := by rw [IntKind.wrap_u64]; omega
  have h0 : 0 ≤ IntKind.u64.wrap a := by rw [IntKind.wrap_u64]; omega
  have hnz : ((n : Int) == 0) = false := by rw [beq_eq_false_iff_ne]; omega
  have hk : wrap64 (IntKind.u64.wrap a % n) = (pickQ a n : Nat) := by
    have h1 := Int.emod_nonneg (IntKind.u64.wrap a) (show (n : Int) ≠ 0 by omega)
    have h2 := Int.emod_lt_of_pos (IntKind.u64.wrap a) (show (0 : Int) < n by omega)
    unfold pickQ
    rw [IntWalk.wrap64_in _ ⟨by omega, by omega⟩]; omega
  go_enter Try.func8, Try.ntmps8
  go_wp2_with fail
  go_ret
  first
    | exact ⟨rfl, rfl⟩
    | (refine ⟨?_, rfl⟩; exact retIQ hk)
structure HldD where
  tx : Int
  key : Int
  mode : Int
def hldR (d : HldD) (cs : List Value) : Prop := cs = [.int .i64 d.tx, .int .i64 d.key, .int .i64 d.mode]
def HldV (w : World) (L : Nat) (v : Value) (l : List HldD) : Prop := SlR w L 3 hldR v l
theorem HldV.at {w : World} {L : Nat} {a : Option Addr} {n cap : Nat} {l : List HldD} (h : HldV w L (.slice a n cap) l) {i : Nat} {d : HldD} (hi : l[i]? = some d) :
    ∃ b off, a = some ⟨b, off, none⟩ ∧ b < L ∧ w.cell? ⟨b, off + i * 3, none⟩ = some (.int .i64 d.tx) ∧ w.cell? ⟨b, off + i * 3 + 1, none⟩ = some (.int .i64 d.key) ∧ w.cell? ⟨b, off + i * 3 + 2, none⟩ = some (.int .i64 d.mode) := by
  obtain ⟨b, off, cs, h1, h2, rfl, _, h5⟩ := SlR.at h hi
  exact ⟨b, off, h1, h2, by have := h5 0 _ rfl; simpa using this, h5 1 _ rfl, h5 2 _ rfl⟩
/-- All transactions are from 0 to 8. -/
def TxB (s : Tab) : Prop := ∀ k c, c ∈ (s k).held ∨ c ∈ (s k).waits → 0 ≤ c.tx ∧ c.tx < 9
theorem TxB.bare : TxB bareT := fun k c h => by simp [bareT] at h
theorem TxB.lock {s : Tab} (h : TxB s) (ha : ∀ k, KeyOK (s k)) {name : ByteArray} {c : ClmD} (hc : 0 ≤ c.tx ∧ c.tx < 9) : TxB (updK s name (lockN (s name) c).1) := fun k d hd => by
  by_cases e : k = name
  · subst e
    rw [updK_at'] at hd
    unfold lockN at hd
    split at hd
    · exact h k d hd
    split at hd
    · exact h k d hd
    split at hd
    · rcases hd with hd | hd
      · rcases (mem_with (ha k).held c d).1 hd with rfl | ⟨hd, _⟩
        · exact hc
        · exact h k d (.inl hd)
      · exact h k d (.inr hd)
    split at hd
    · exact h k d hd
    · rcases hd with hd | hd
      · exact h k d (.inl hd)
      · rcases (mem_with (ha k).waits c d).1 hd with rfl | ⟨hd, _⟩
        · exact hc
        · exact h k d (.inr hd)
  · rw [updK_ne' e] at hd
    exact h k d hd
theorem TxB.rel {s : Tab} (h : TxB s) (t : Int) : TxB (relN s t) := fun k d hd => by
  unfold relN at hd
  split at hd
  · unfold outN at hd
    rcases hd with hd | hd
    · rcases (pass_mem _ _ _ d).1 hd with q | q
      · exact h k d (.inl (mem_leave.1 q).1)
      · exact h k d (.inr (mem_leave.1 q).1)
    · rcases (pass_mem _ _ _ d).2.1 hd with q | q
      · simp at q
      · exact h k d (.inr (mem_leave.1 q).1)
  · exact h k d hd
theorem apart_updK {W : List Int} {s : Tab} {name : ByteArray} {c : ClmD} (h : ∀ k, Apart [] (s k)) (hc : c.mode = 1 ∨ c.mode = 2) : ∀ k, Apart (lockN (s name) c).2.2.1 (updK s name (lockN (s name) c).1 k) := fun k => by
  by_cases e : k = name
  · subst e
    rw [updK_at']
    have := (apart_lock (h k) hc).1
    simpa using this
  · rw [updK_ne' e]
    exact (h k).more (by simp)
def key3 : Nat → ByteArray
  | 0 => ⟨#[97]⟩
  | 1 => ⟨#[98]⟩
  | _ => ⟨#[99]⟩
theorem key3_ok (k : Nat) : (key3 k).size ≤ 20 := by
  match k with
  | 0 => decide
  | 1 => decide
  | _ + 2 => show (⟨#[99]⟩ : ByteArray).size ≤ 20; decide
theorem key3_okQ (k : Nat) : okQ (key3 k) := by have := key3_ok k; unfold okQ maxLen; omega
theorem key3_cell {w : World} {b : Nat} (h : Blk w b [.string ⟨#[97]⟩, .string ⟨#[98]⟩, .string ⟨#[99]⟩] 9) {k : Nat} (hk : k < 3) : w.cell? ⟨b, k, none⟩ = some (.string (key3 k)) := by
  match k, hk with
  | 0, _ => exact h.cell 0 rfl
  | 1, _ => exact h.cell 1 rfl
  | 2, _ => exact h.cell 2 rfl
theorem RowI.at {w : World} {B : Nat} {a : Option Addr} {n cap : Nat} {l : List Int} (h : RowI w B (.slice a n cap) l) {i : Nat} {x : Int} (hi : l[i]? = some x) : ∃ b, a = some ⟨b, 0, none⟩ ∧ B ≤ b ∧ b < w.heap.size ∧ w.cell? ⟨b, i, none⟩ = some (.int .i64 x) := by
  rcases h.2 with ⟨e, h0⟩ | ⟨g, c, cur, e, q1, q2, q3, q4, q5, q6⟩
  · have : l = [] := List.eq_nil_of_length_eq_zero h0
    subst this; simp at hi
  · simp only [Value.slice.injEq] at e
    obtain ⟨rfl, rfl, rfl⟩ := e
    have hh : w.ownsRow B 3 1 (.slice (some ⟨g, 0, none⟩) l.length cap) l.length (intsCells l) := h
    have := hh.cells (g := g) rfl i (.int .i64 x) (by unfold intsCells; rw [List.getElem?_map, hi]; rfl)
    rw [Go.WideShapes.add_plain, Nat.zero_add] at this
    exact ⟨g, rfl, q1, (Array.getElem?_eq_some_iff.1 q2).1, this⟩
/-- What holds at the beginning of each round, and at its end. -/
structure LawQ (W wr : World) (tb N : Nat) (s : Tab) : Prop where
  tab : TabP W wr tb N N s
  ap : ∀ k, Apart [] (s k)
  tx : TxB s
theorem lockN_err (k : KeyS) (c : ClmD) (h : (lockN k c).2.2.2 ≠ 0) : (lockN k c).2.2.1 = [] := by
  revert h
  unfold lockN
  split
  · exact fun _ => rfl
  split
  · exact fun _ => rfl
  split
  · exact fun _ => rfl
  split
  · exact fun _ => rfl
  · exact fun h => absurd rfl h
theorem lockN_wound (k : KeyS) (c : ClmD) : (lockN k c).2.2.1.length ≤ k.held.length := by
  unfold lockN
  split
  · simp
  split
  · simp
  split
  · simp
  split
  · simp
  · unfold woundN
    simp only [List.length_map]
    exact List.length_filter_le _ _
theorem rising_txs0 {l : List ClmD} (h : Elder l) : (l.map (·.tx)).Pairwise (· < ·) := by
  rw [List.pairwise_map]; exact h
end Go.Proofs.Ytefhgakcffhgaab
