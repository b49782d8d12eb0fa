/- The law MvPlays: keys in order. -/
import Derived.Test.YtefhgakcffhgaaaDoorTd
namespace Go.Proofs.YtefhgakcffhgaaaDoor
open Go.RowKit Go.Lib Go.Maps
set_option linter.unusedVariables false

theorem lt_iff_cb : ∀ (a b : List UInt8), a < b ↔ compareBytes a b < 0
  | [], [] => by simp [compareBytes]
  | [], _ :: _ => by simp [compareBytes]
  | _ :: _, [] => by simp [compareBytes]
  | x :: a, y :: b => by
    rw [List.cons_lt_cons_iff]
    simp only [compareBytes]
    by_cases h1 : x < y
    · simp [h1]
    · by_cases h2 : y < x
      · have hne : x ≠ y := fun e => h1 (by rw [e] at h2 ⊢; exact h2)
        simp [h1, h2, hne]
      · have hxy : x = y := by rw [UInt8.lt_iff_toNat_lt] at *; exact UInt8.toNat_inj.1 (by omega)
        simp [hxy, lt_iff_cb a b]
theorem le_iff_cb (a b : List UInt8) : a ≤ b ↔ compareBytes a b ≤ 0 := by
  have h := lt_iff_cb b a
  have n := cb_neg a b
  rw [← List.not_lt, h]
  omega
theorem ms_rising (ss : List (List UInt8)) (hn : ss.Nodup) : (ss.mergeSort fun x y => decide (x ≤ y)).Pairwise fun x y => compareBytes x y < 0 := by
  have hp : (ss.mergeSort fun x y => decide (x ≤ y)).Perm ss := List.mergeSort_perm _ _
  have hs : (ss.mergeSort fun x y => decide (x ≤ y)).Pairwise fun x y => decide (x ≤ y) = true := by
    first
      | exact List.pairwise_mergeSort (fun a b c h1 h2 => by simp only [decide_eq_true_iff] at *; exact List.le_trans h1 h2) (fun a b => by simp only [Bool.or_eq_true, decide_eq_true_iff]; exact List.le_total a b) ss
      | exact List.sorted_mergeSort (fun a b c h1 h2 => by simp only [decide_eq_true_iff] at *; exact List.le_trans h1 h2) (fun a b => by simp only [Bool.or_eq_true, decide_eq_true_iff]; exact List.le_total a b) ss
  have hnd : (ss.mergeSort fun x y => decide (x ≤ y)).Nodup := hp.nodup_iff.2 hn
  refine List.Pairwise.imp₂ ?_ hs hnd
  intro a b h1 h2
  simp only [decide_eq_true_iff] at h1
  rw [le_iff_cb] at h1
  have : compareBytes a b ≠ 0 := fun e => h2 (cb_zero e)
  omega
/-- Keys that lie where a slice says. -/
def keyR (k : ByteArray) (cs : List Value) : Prop := cs = [.string k]
def KeysV (w : World) (L : Nat) (v : Value) (ks : List ByteArray) : Prop := SlR w L 1 keyR v ks
def ltK (a b : ByteArray) : Prop := compareBytes a.data.toList b.data.toList < 0
/-- What sort.Strings does. -/
def SortK : Prop := ∀ (B : Nat) (v : Value) (ks : List ByteArray) (w : World), w.ownsRow B 9 1 v ks.length (ks.map Value.string) → ks.Nodup → ks.length ≤ 1000 →
    Calls Tryd.prog 98 #[v] w fun e w' => e = .returned (.tuple #[]) ∧ ∃ ks', KeysV w' w'.heap.size v ks' ∧ ks'.Perm ks ∧ ks'.Pairwise ltK ∧ Mod (fun b => v.ownBlock = some b) w w'
end Go.Proofs.YtefhgakcffhgaaaDoor
