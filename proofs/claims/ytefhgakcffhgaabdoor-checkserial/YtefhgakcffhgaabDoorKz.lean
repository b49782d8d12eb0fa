/- What package check's texts take of others': for a seat that has check alone. -/
import Derived.Test.YtefhgakcffhgaabDoorRows
import Derived.Test.YtefhgakcffhgaabDoorMem
import Derived.Test.YtefhgakcffhgaabDoorPure
import Derived.WalkKit
import Derived.Lib.AppendStr
import Derived.Deep.RegionLaw
import Derived.Deep.AppendLies
import Derived.Deep.DeepCutAuto
import Derived.Deep.Strs
import Derived.Deep.Slices
import Derived.OpenShut
import Derived.Maps.OwnSet
import Derived.Maps.AppendAt
import Derived.RegionTactic
import Derived.ChangeAlike
import Derived.Laws.IdiomCopy
import Derived.Deep.CutBlock
namespace Go.Proofs.YtefhgakcffhgaabDoor
open Go.RowKit Go.Lib Go.Maps

theorem Hid.mk' {p : Prop} (h : p) : Hid p := h
def int64 (x : Int) : Prop := -9223372036854775808 ≤ x ∧ x ≤ 9223372036854775807
/-- The first place of a number in a list. -/
def firstX (x : Int) : List Int → Option Nat
  | [] => none
  | y :: ys => if x = y then some 0 else (firstX x ys).map (· + 1)
theorem firstX_at (x : Int) : ∀ (l : List Int) (k : Nat), (∀ i y, i < k → l[i]? = some y → x ≠ y) → l[k]? = some x → firstX x l = some k
  | [], _, _, h => by simp at h
  | y :: ys, 0, _, h => by simp at h; subst h; simp [firstX]
  | y :: ys, k + 1, hf, h => by
    have h0 := hf 0 y (by omega) rfl
    have := firstX_at x ys k (fun i z hi hz => hf (i + 1) z (by omega) (by simpa using hz)) (by simpa using h)
    simp [firstX, h0, this]
theorem firstX_none (x : Int) : ∀ (l : List Int), (∀ (i : Nat) y, l[i]? = some y → x ≠ y) → firstX x l = none
  | [], _ => rfl
  | y :: ys, h => by
    have h0 := h 0 y rfl
    simp [firstX, h0, firstX_none x ys (fun i z hz => h (i + 1) z (by simpa using hz))]
theorem firstX_some (x : Int) : ∀ (l : List Int) (k : Nat), firstX x l = some k → l[k]? = some x
  | [], _, h => by simp [firstX] at h
  | y :: ys, k, h => by
    unfold firstX at h
    split at h
    · rename_i e; simp at h; subst h; simp [e]
    · cases hf : firstX x ys with
      | none => rw [hf] at h; simp at h
      | some j =>
        rw [hf] at h; simp at h; subst h
        simpa using firstX_some x ys j hf
def plI (o : Option Nat) : Int := match o with | none => -1 | some k => k
/-- Numbers that lie where the slice v says. -/
def IntsV (w : World) (v : Value) (ns : List Int) : Prop :=
  ∃ a cap, v = .slice a ns.length cap ∧ ns.length ≤ cap ∧ cap ≤ maxLen ∧ (ns = [] ∨ ∃ b off, a = some ⟨b, off, none⟩ ∧ ∀ (j : Nat) x, ns[j]? = some x → w.cell? ⟨b, off + j, none⟩ = some (.int .i64 x))
theorem IntsV.drewN {w : World} {v : Value} {ns : List Int} (h : IntsV w v ns) (n : Nat) : IntsV (w.drewN n) v ns := h
theorem IntsV.of_own {w : World} {B : Nat} {v : Value} {ns : List Int} (h : w.ownsRow B 3 1 v ns.length (ns.map (Value.int .i64))) : IntsV w v ns := by
  rcases h.2 with ⟨e, h0⟩ | ⟨g, cap, cur, e, _, hg, hc1, hc2, _⟩
  · have : ns = [] := List.eq_nil_of_length_eq_zero h0
    subst this
    exact ⟨none, 0, e, Nat.le_refl _, Nat.zero_le _, .inl rfl⟩
  · refine ⟨_, cap, e, hc1, hc2, .inr ⟨g, 0, rfl, fun j x hx => ?_⟩⟩
    subst e
    have hc := h.cells (g := g) rfl j (.int .i64 x) (by simp [hx])
    rw [Go.WideShapes.add_plain] at hc; exact hc

set_option maxRecDepth 100000 in
set_option maxHeartbeats 1000000 in
theorem indexI_any (v : Value) (ns : List Int) (x : Int) (w : World) (hv : IntsV w v ns) :
    Calls Tryd.prog 34 #[v, .int .i64 x] w fun e w' => e = .returned (.int .i64 (plI (firstX x ns))) ∧ w' = w := by
  obtain ⟨a, cap, rfl, hc1, hc2, hcl⟩ := hv
  unfold maxLen at hc2
  have HCL := Hid.mk' hcl
  clear hcl
  go_enter Tryd.func34, Tryd.ntmps34
  go_wp2_with fail
  go_loopw [8] (fun i wr => ∃ k : Nat, k ≤ ns.length ∧ i = .int .i64 k ∧ (∀ i y, i < k → ns[i]? = some y → x ≠ y) ∧ wr = w) (fun i _ => ns.length - (intOf i).toNat)
  case atStart => exact ⟨0, Nat.zero_le _, rfl, fun i y h => by omega, rfl⟩
  case round =>
    obtain ⟨k, hk, rfl, hno, rfl⟩ := hrel
    have HNO := Hid.mk' hno
    clear hno
    by_cases hlt : k < ns.length
    · obtain ⟨y, hy⟩ : ∃ y, ns[k]? = some y := ⟨_, List.getElem?_eq_getElem hlt⟩
      rcases HCL.out with e | ⟨b, off, rfl, hcl⟩
      · rw [e] at hlt; simp at hlt
      have q0 := hcl k y hy
      have HY := Hid.mk' hy
      have hltI : (k : Int) < (ns.length : Int) := by omega
      have hlt0 : (0 : Int) ≤ (k : Int) := by omega
      clear hcl hy
      by_cases hxy : x = y
      · subst hxy
        have HF : Hid (firstX x ns = some k) := firstX_at x ns k HNO.out HY.out
        go_wp2_with fail
        go_ret
        exact ⟨by rw [HF.out]; rfl, rfl⟩
      · have hne : (x == y) = false := by simpa using hxy
        go_wp2_with fail
        go_roundw
        case rel =>
          refine ⟨k + 1, by omega, by go_num, fun i z hi hz => ?_, by trivial⟩
          by_cases e : i = k
          · subst e; have h2 := HY.out; rw [h2] at hz; cases hz; exact hxy
          · exact HNO.out i z (by omega) hz
        case measure => simp [intOf]; omega
    · obtain rfl : k = ns.length := by omega
      have HF : Hid (firstX x ns = none) := firstX_none x ns (fun i y hi => HNO.out i y ((List.getElem?_eq_some_iff.1 hi).1) hi)
      go_wp2_with fail
      go_ret
      exact ⟨by rw [HF.out]; rfl, rfl⟩
theorem own_cells {w : World} {B : Nat} {v : Value} {e : TypeId} {sz n : Nat} {xs : List Value} (ho : w.ownsRow B e sz v n xs) {k : Nat} (hk : v.ownBlock = some k) : B ≤ k ∧ k < w.heap.size ∧ ∃ cur, w.heap[k]? = some (.cells cur e (0, 0)) := by
  rcases ho.2 with ⟨e', _⟩ | ⟨g', cap, cur, e', hb, hg, _⟩
  · rw [e'] at hk; simp [Value.ownBlock] at hk
  · rw [e'] at hk; simp [Value.ownBlock] at hk; subst hk; exact ⟨hb, (Array.getElem?_eq_some_iff.1 hg).1, cur, hg⟩
end Go.Proofs.YtefhgakcffhgaabDoor
