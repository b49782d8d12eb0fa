/- Operations that were made: what they told is so. Pure. -/
import Derived.Test.YtefhgakcffhgaabDoorKj
import Derived.Test.YtefhgakcffhgaabDoorKk
namespace Go.Proofs.YtefhgakcffhgaabDoor
open Go.RowKit Go.Lib Go.Maps

/-- What is not there is nothing. -/
def tidyS (s : Sta) : Prop := ∀ k, (s k).there = false → s k = zeroVD
theorem tidy_bare : tidyS bareS := fun _ _ => rfl
theorem tidy_doOp {s s1 : Sta} {o : OpD} {u : List (ByteArray × VD)} (h : tidyS s) (hd : doOp s o = some (s1, u)) : tidyS s1 := by
  have key : ∀ v : VD, (v.there = false → v = zeroVD) → tidyS (updS s o.key v) := fun v hv k hk => by
    unfold updS at hk ⊢
    split
    · rename_i e; rw [if_pos e] at hk; exact hv hk
    · rename_i e; rw [if_neg e] at hk; exact h k hk
  unfold doOp at hd
  split at hd
  · split at hd
    · simp at hd; obtain ⟨rfl, _⟩ := hd; exact h
    · cases hd
  · split at hd
    · simp at hd; obtain ⟨rfl, _⟩ := hd; exact key _ (fun h => by simp at h)
    · split at hd
      · simp at hd; obtain ⟨rfl, _⟩ := hd; exact key _ (fun _ => rfl)
      · simp at hd; obtain ⟨rfl, _⟩ := hd; exact h
theorem tidy_doOps : ∀ (os : List OpD) (s s1 : Sta) (us : List (ByteArray × VD)), tidyS s → doOps s os = some (s1, us) → tidyS s1
  | [], s, s1, us, h, hd => by simp [doOps] at hd; obtain ⟨rfl, _⟩ := hd; exact h
  | p :: os, s, s1, us, h, hd => by
    rw [doOps] at hd
    cases hp : doOp s p with
    | none => rw [hp] at hd; cases hd
    | some r =>
      rw [hp] at hd
      simp only at hd
      cases hq : doOps r.1 os with
      | none => rw [hq] at hd; cases hd
      | some t =>
        rw [hq] at hd
        simp at hd
        obtain ⟨rfl, _⟩ := hd
        exact tidy_doOps os r.1 t.1 t.2 (tidy_doOp h hp) hq
/-- A Get that tells what is so. -/
theorem made_get {s : Sta} (h : tidyS s) {key v : ByteArray} (hv : (s key).there = true → v = (s key).text) : doOp s ⟨1, key, v, (s key).there⟩ = some (s, []) := by
  have : s key = toldV ⟨1, key, v, (s key).there⟩ := by
    cases ht : (s key).there with
    | false => rw [h key ht]; rfl
    | true => rw [hv ht]; unfold toldV; simp only [if_true]; rw [← ht]
  simp [doOp, ← this]
theorem other_op {s : Sta} {o : OpD} (h : o.kind ≠ 1) : ∃ r, doOp s o = some r := by
  unfold doOp
  rw [if_neg h]
  split
  · exact ⟨_, rfl⟩
  · split <;> exact ⟨_, rfl⟩
end Go.Proofs.YtefhgakcffhgaabDoor
