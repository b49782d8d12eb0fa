/- Package mv: pairs, sorted by their keys. -/
import Derived.Test.YtefhgakcffhgaaaDoorMh
import Derived.Test.YtefhgakcffhgaaaDoorMs
import Derived.Lib.Bytealg
namespace Go.Proofs.YtefhgakcffhgaaaDoor
open Go.RowKit Go.Lib Go.Maps Go.Sort Go.Shelf
set_option linter.unusedVariables false

theorem cb_neg : ∀ a b : List UInt8, compareBytes b a = - compareBytes a b
  | [], [] => rfl
  | [], _ :: _ => rfl
  | _ :: _, [] => rfl
  | x :: a, y :: b => by
    simp only [compareBytes]
    by_cases h1 : x < y
    · have h2 : ¬ y < x := by rw [UInt8.lt_iff_toNat_lt] at *; omega
      simp [h1, h2]
    · by_cases h2 : y < x
      · simp [h1, h2]
      · simp [h1, h2, cb_neg a b]
theorem cb_zero : ∀ {a b : List UInt8}, compareBytes a b = 0 → a = b
  | [], [], _ => rfl
  | [], _ :: _, h => by simp [compareBytes] at h
  | _ :: _, [], h => by simp [compareBytes] at h
  | x :: a, y :: b, h => by
    simp only [compareBytes] at h
    by_cases h1 : x < y
    · simp [h1] at h
    · by_cases h2 : y < x
      · simp [h1, h2] at h
      · simp [h1, h2] at h
        have : x = y := by rw [UInt8.lt_iff_toNat_lt] at *; exact UInt8.toNat_inj.1 (by omega)
        rw [this, cb_zero h]
theorem cb_trans : ∀ {a b c : List UInt8}, compareBytes a b < 0 → compareBytes b c < 0 → compareBytes a c < 0
  | [], [], _, h, _ => by simp [compareBytes] at h
  | [], _ :: _, [], _, h => by simp [compareBytes] at h
  | [], _ :: _, _ :: _, _, _ => by simp [compareBytes]
  | _ :: _, [], _, h, _ => by simp [compareBytes] at h
  | _ :: _, _ :: _, [], _, h => by simp [compareBytes] at h
  | x :: a, y :: b, z :: c, h1, h2 => by
    simp only [compareBytes] at h1 h2 ⊢
    by_cases xy : x < y
    · by_cases yz : y < z
      · have : x < z := by rw [UInt8.lt_iff_toNat_lt] at *; omega
        simp [this]
      · by_cases zy : z < y
        · simp [yz, zy] at h2
        · have : x < z := by rw [UInt8.lt_iff_toNat_lt] at *; omega
          simp [this]
    · by_cases yx : y < x
      · simp [xy, yx] at h1
      · simp only [xy, yx, if_false] at h1
        by_cases yz : y < z
        · have : x < z := by rw [UInt8.lt_iff_toNat_lt] at *; omega
          simp [this]
        · by_cases zy : z < y
          · simp [yz, zy] at h2
          · simp only [yz, zy, if_false] at h2
            have e1 : ¬ x < z := by rw [UInt8.lt_iff_toNat_lt] at *; omega
            have e2 : ¬ z < x := by rw [UInt8.lt_iff_toNat_lt] at *; omega
            simp only [e1, e2, if_false]
            exact cb_trans h1 h2
abbrev PairD := ByteArray × ByteArray
/-- By keys. -/
def cmpP (x y : PairD) : Int := compareBytes x.1.data.toList y.1.data.toList
def ltP (x y : PairD) : Prop := cmpP x y < 0
theorem swoP : SWO (ltOf cmpP) where
  irrefl x := by
    have := cb_neg x.1.data.toList x.1.data.toList
    unfold ltOf cmpP
    simp; omega
  trans x y z h1 h2 := by
    unfold ltOf cmpP at *
    simp at *
    exact cb_trans h1 h2
  ntrans x y z h1 h2 := by
    unfold ltOf cmpP at *
    simp at *
    rcases Int.lt_or_le (compareBytes x.1.data.toList z.1.data.toList) 0 with h | h
    · exfalso
      have n1 := cb_neg x.1.data.toList y.1.data.toList
      rcases Int.lt_or_le 0 (compareBytes x.1.data.toList y.1.data.toList) with h3 | h3
      · have := cb_trans (a := y.1.data.toList) (b := x.1.data.toList) (c := z.1.data.toList) (by omega) h
        omega
      · have := cb_zero (a := x.1.data.toList) (b := y.1.data.toList) (by omega)
        rw [this] at h
        omega
    · exact h
theorem ltP_asymm {x y : PairD} (h : ltP x y) : ¬ ltP y x := fun k => by
  have := cb_neg x.1.data.toList y.1.data.toList
  unfold ltP cmpP at *
  omega
theorem pairwise_ext {α : Type} {r : α → α → Prop} (asy : ∀ x y, r x y → ¬ r y x) : ∀ {a b : List α}, a.Pairwise r → b.Pairwise r → (∀ x, x ∈ a ↔ x ∈ b) → a = b
  | [], [], _, _, _ => rfl
  | [], y :: b, _, _, h => by have := (h y).2 (by simp); simp at this
  | x :: a, [], _, _, h => by have := (h x).1 (by simp); simp at this
  | x :: a, y :: b, ha, hb, h => by
    have irr : ∀ z, ¬ r z z := fun z hz => asy z z hz hz
    have hxy : x = y := by
      rcases List.mem_cons.1 ((h x).1 (by simp)) with e | h1
      · exact e
      · rcases List.mem_cons.1 ((h y).2 (by simp)) with e | h2
        · exact e.symm
        · exact absurd (List.rel_of_pairwise_cons hb h1) (asy _ _ (List.rel_of_pairwise_cons ha h2))
    subst hxy
    rw [pairwise_ext asy (List.Pairwise.of_cons ha) (List.Pairwise.of_cons hb) fun z => ?_]
    constructor
    · intro hz
      rcases List.mem_cons.1 ((h z).1 (List.mem_cons_of_mem _ hz)) with e | h1
      · have := List.rel_of_pairwise_cons ha hz
        rw [e] at this; exact absurd this (irr _)
      · exact h1
    · intro hz
      rcases List.mem_cons.1 ((h z).2 (List.mem_cons_of_mem _ hz)) with e | h1
      · have := List.rel_of_pairwise_cons hb hz
        rw [e] at this; exact absurd this (irr _)
      · exact h1
/-- Sorted, and no key twice: rising. -/
theorem rising_of {d d' : Array PairD} (hp : PermIn 0 d.size d d') (hs : SortedIn (ltOf cmpP) 0 d.size d') (hn : (d.toList.map (·.1)).Nodup) : d'.toList.Perm d.toList ∧ d'.toList.Pairwise ltP := by
  obtain ⟨h1, _, h3⟩ := hp
  have hperm : d'.toList.Perm d.toList := by
    have e1 : d'.extract 0 d.size = d' := by rw [← h1]; simp
    have e2 : d.extract 0 d.size = d := by simp
    rw [e1, e2] at h3
    exact h3
  refine ⟨hperm, List.pairwise_iff_getElem.2 fun i j hi hj hij => ?_⟩
  have hi' : i < d'.size := by simpa using hi
  have hj' : j < d'.size := by simpa using hj
  have h4 := hs i j (Nat.zero_le _) hij (by omega)
  rw [getElem!_pos d' j hj', getElem!_pos d' i hi'] at h4
  unfold ltOf at h4
  simp at h4
  have hne : d'.toList[i].1 ≠ d'.toList[j].1 := fun e => by
    have hn' : (d'.toList.map (·.1)).Nodup := (hperm.map (·.1)).nodup_iff.2 hn
    have := List.pairwise_iff_getElem.1 hn' i j (by simpa using hi) (by simpa using hj) hij
    simp at this
    exact this (by simpa using e)
  have n1 := cb_neg d'[i].1.data.toList d'[j].1.data.toList
  have hnz : compareBytes d'[i].1.data.toList d'[j].1.data.toList ≠ 0 := fun e => hne (by simpa using bytes_inj (cb_zero e))
  show cmpP _ _ < 0
  unfold cmpP at *
  simp only [Array.getElem_toList] at *
  omega
end Go.Proofs.YtefhgakcffhgaaaDoor
