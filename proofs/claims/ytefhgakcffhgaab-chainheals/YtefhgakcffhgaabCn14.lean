/- The program's node: Step, whole. -/
import Derived.Test.YtefhgakcffhgaabCn13
namespace Go.Proofs.Ytefhgakcffhgaab
open Go.RowKit Go.Lib Go.Maps

set_option maxHeartbeats 1000000 in
theorem cstep_any (L g : Nat) (nv lv : Value) (s : NodeS) (m : MsgD) (u : Value) (w : World) (h : NodeP w L g nv lv s) (hu : PairsT w L u m.cmd.writes) (hgm : goodM m) :
    Calls Try.prog 16 #[.pointer (some ⟨g, 0, none⟩), .agg #[.int .i64 m.kind, .int .i64 m.frm, .int .i64 m.to, .int .i64 m.epoch, .int .i64 m.n, .int .i64 m.cmd.kind, .int .i64 m.cmd.tx, .int .i64 m.cmd.time, u]] w fun e w' =>
      ∃ v lv', e = .returned v ∧ NodeP w' L g nv lv' (stepN s m).1 ∧ RowM w' L v (stepN s m).2 ∧ freshV w v ∧ Moved w lv lv' ∧ Mod (nodeMay g nv lv) w w' := by
  have nil : ∀ (P : stepN s m = (s, [])) (e : Ending) (w' : World), e = .returned (.slice none 0 0) ∧ Mod noBlock w w' → ∃ v lv', e = .returned v ∧ NodeP w' L g nv lv' (stepN s m).1 ∧ RowM w' L v (stepN s m).2 ∧ freshV w v ∧ Moved w lv lv' ∧ Mod (nodeMay g nv lv) w w' := by
    rintro P e w' ⟨rfl, hm⟩
    rw [P]
    exact ⟨_, lv, rfl, h.quiet hm, RowM.nil _ _, fun k hk => by simp [Value.ownBlock] at hk, Moved.refl _ _, hm.mono (fun _ _ e => e.elim)⟩
  have say : ∀ (ms : List MsgD) (P : stepN s m = (s, ms)) (e : Ending) (w' : World), (∃ v, e = .returned v ∧ RowM w' L v ms ∧ freshV w v ∧ Mod noBlock w w') → ∃ v lv', e = .returned v ∧ NodeP w' L g nv lv' (stepN s m).1 ∧ RowM w' L v (stepN s m).2 ∧ freshV w v ∧ Moved w lv lv' ∧ Mod (nodeMay g nv lv) w w' := by
    rintro ms P e w' ⟨v, rfl, hR, hf, hm⟩
    rw [P]
    exact ⟨v, lv, rfl, h.quiet hm, hR, hf, Moved.refl _ _, hm.mono (fun _ _ e => e.elim)⟩
  by_cases hon : m.epoch = s.epoch ∧ m.to = s.id
  · obtain ⟨hep, hto⟩ := hon
    by_cases hk1 : m.kind = 1
    · cases hi : isN s (-1) m.frm with
      | true => exact (cstep_sync L g nv lv s m u w h hu hgm hep hto hk1 hi).mono (say _ (by simp [stepN, hep, hto, hk1, hi]))
      | false => exact (cstep_sync_no L g nv lv s m u w h hu hgm hep hto hk1 hi).mono (nil (by simp [stepN, hep, hto, hk1, hi]))
    by_cases hk2 : m.kind = 2
    · by_cases hc : isN s 1 m.frm = true ∧ 0 ≤ m.n
      · exact (cstep_have L g nv lv s m u w h hu hgm hep hto hk2 hc.1 hc.2).mono (say _ (by simp [stepN, hep, hto, hk2, hc]))
      · exact (cstep_have_no L g nv lv s m u w h hu hgm hep hto hk2 hc).mono (nil (by simp [stepN, hep, hto, hk2]; intro a b; exact absurd ⟨a, b⟩ hc))
    by_cases hk3 : m.kind = 3
    · by_cases hc : isN s (-1) m.frm = true ∧ m.n = s.log.length ∧ s.log.length < 500
      · have P : stepN s m = growN s m.cmd := by simp [stepN, hep, hto, hk3, hc]
        rw [P]
        exact cstep_fwd L g nv lv s m u w h hu hgm hep hto hk3 hc.1 hc.2.1 hc.2.2
      · exact (cstep_fwd_no L g nv lv s m u w h hu hgm hep hto hk3 hc).mono (nil (by simp [stepN, hep, hto, hk3]; intro a b c; exact absurd ⟨a, b, c⟩ hc))
    by_cases hk4 : m.kind = 4
    · by_cases hc : isN s 1 m.frm = true ∧ 0 ≤ m.n ∧ m.n ≤ s.log.length
      · have P : stepN s m = (stabN s m.n, sendN (stabN s m.n) (-1) (plainMsg 4 (stabN s m.n).stable)) := by simp [stepN, hep, hto, hk4, hc]
        rw [P]
        refine (cstep_stab L g nv lv s m u w h hu hgm hep hto hk4 hc.1 hc.2.1 hc.2.2).mono ?_
        rintro e w' ⟨v, rfl, hN, hR, hf, hm⟩
        exact ⟨v, lv, rfl, hN, hR, hf, Moved.refl _ _, hm.mono (fun i _ e => .inl e)⟩
      · exact (cstep_stab_no L g nv lv s m u w h hu hgm hep hto hk4 hc).mono (nil (by simp [stepN, hep, hto, hk4]; intro a b c; exact absurd ⟨a, b, c⟩ hc))
    · exact (cstep_none L g nv lv s m u w h hu hgm hep hto hk1 hk2 hk3 hk4).mono (nil (by simp [stepN, hep, hto, hk1, hk2, hk3, hk4]))
  · exact (cstep_off L g nv lv s m u w h hu hgm hon).mono (nil (by simp [stepN]; intro a b; exact absurd ⟨a, b⟩ hon))
end Go.Proofs.Ytefhgakcffhgaab
