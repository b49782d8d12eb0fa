/- What the program's writer tells, held against what the document's tells. -/
import Derived.Test.YtcfgmjlkbjleaaaDoorWr5
import Derived.Test.YtcfgmjlkbjleaaaDoorEq
namespace Go.Proofs.YtcfgmjlkbjleaaaDoor
open Go.RowKit Go.Lib

/-- The same error, and, while there is none, the same bytes. -/
def sim (s t : List Int × Int) : Prop := s.2 = t.2 ∧ (t.2 = 0 → s.1 = t.1)
theorem sim.refl (s : List Int × Int) : sim s s := ⟨rfl, fun _ => rfl⟩
theorem sim_wnum (n : Int) {s t : List Int × Int} (h : sim s t) : sim (wnum n s) (wnum n t) := by
  unfold wnum; split
  · exact ⟨h.1, fun e => by simp only at e ⊢; rw [h.2 e]⟩
  · exact ⟨rfl, fun e => absurd e (by simp)⟩
theorem sim_vtext (str : ByteArray) (most : Nat) (hs : str.size ≤ 1099511627776) {s t : List Int × Int} (h : sim s t) : sim (vtext str most s) (wtext str most t) := by
  unfold vtext wtext
  by_cases hm : most < str.size
  · simp only [if_pos hm]
    have e : (wnum (str.size : Int) (t.1, 4)).2 = 4 := by unfold wnum; rw [if_pos ⟨by omega, by omega⟩]
    exact ⟨e.symm, fun x => by rw [e] at x; omega⟩
  · simp only [if_neg hm]
    have := sim_wnum (str.size : Int) h
    exact ⟨this.1, fun e => by simp only at e ⊢; rw [this.2 e]⟩
theorem sim_vpair (p : PairD) (hk : p.key.size ≤ 1099511627776) (hv : p.val.size ≤ 1099511627776) {s t : List Int × Int} (h : sim s t) : sim (vpair p s) (wpair p t) := by
  unfold vpair wpair; split
  · exact sim_wnum _ (sim_vtext _ _ hk h)
  · exact sim_vtext _ _ hv (sim_wnum _ (sim_vtext _ _ hk h))
theorem sim_vpairs (ps : List PairD) (hp : ∀ p ∈ ps, p.key.size ≤ 1099511627776 ∧ p.val.size ≤ 1099511627776) : ∀ {s t : List Int × Int}, sim s t → sim (vpairs ps s) (wpairs ps t) := by
  induction ps with
  | nil => intro s t h; exact h
  | cons p ps ih => intro s t h; exact ih (fun q hq => hp q (by simp [hq])) (sim_vpair p (hp p (by simp)).1 (hp p (by simp)).2 h)
theorem sim_whead (c : CmdD) {s t : List Int × Int} (h : sim s t) : sim (whead c s) (whead c t) := by
  unfold whead
  refine sim_wnum _ (sim_wnum _ (sim_wnum _ (sim_wnum _ ?_)))
  split
  · exact ⟨rfl, fun e => absurd e (by simp)⟩
  · split
    · exact ⟨rfl, fun e => absurd e (by simp)⟩
    · exact h
def smallC (c : CmdD) : Prop := ∀ p ∈ c.writes, p.key.size ≤ 1099511627776 ∧ p.val.size ≤ 1099511627776
theorem sim_vcmd (c : CmdD) (hc : smallC c) {s t : List Int × Int} (h : sim s t) : sim (vcmd c s) (wcmd c t) := sim_vpairs _ hc (sim_whead c h)
theorem sim_vcmds (cs : List CmdD) (hc : ∀ c ∈ cs, smallC c) : ∀ {s t : List Int × Int}, sim s t → sim (vcmds cs s) (wcmds cs t) := by
  induction cs with
  | nil => intro s t h; exact h
  | cons c cs ih => intro s t h; exact ih (fun q hq => hc q (by simp [hq])) (sim_vcmd c (hc c (by simp)) h)
theorem sim_finish {s t : List Int × Int} (h : sim s t) : finish s = finish t := by
  unfold finish; rw [h.1]; split
  · rename_i e; rw [h.2 e]
  · rfl
theorem vMsg_eq (m : MsgD) (hc : smallC m.cmd) : vMsg m = rMsg m := by
  unfold vMsg rMsg; split
  · rfl
  · split
    · exact sim_finish (sim_vcmd _ hc (sim.refl _))
    · rfl
theorem vLog_eq (cs : List CmdD) (hc : ∀ c ∈ cs, smallC c) : vLog cs = rLog cs := by
  unfold vLog rLog; split
  · rfl
  · exact sim_finish (sim_vcmds _ hc (sim.refl _))

/-- Both wrong, or both right and with the same bytes. -/
def wim (s t : List Int × Int) : Prop := (s.2 = 0 ↔ t.2 = 0) ∧ (t.2 = 0 → s.1 = t.1)
theorem wim.refl (s : List Int × Int) : wim s s := ⟨Iff.rfl, fun _ => rfl⟩
theorem wim_wnum (n : Int) {s t : List Int × Int} (h : wim s t) : wim (wnum n s) (wnum n t) := by
  unfold wnum; split
  · exact ⟨h.1, fun e => by simp only at e ⊢; rw [h.2 e]⟩
  · exact ⟨Iff.rfl, fun e => absurd e (by simp)⟩
theorem wim_vtext (str : ByteArray) (most : Nat) {s t : List Int × Int} (h : wim s t) : wim (vtext str most s) (wtext str most t) := by
  unfold vtext wtext
  by_cases hm : most < str.size
  · simp only [if_pos hm]
    have e : (wnum (str.size : Int) (t.1, 4)).2 ≠ 0 := by unfold wnum; split <;> simp
    exact ⟨⟨fun x => absurd x (by simp), fun x => absurd x e⟩, fun x => absurd x e⟩
  · simp only [if_neg hm]
    have := wim_wnum (str.size : Int) h
    exact ⟨this.1, fun e => by simp only at e ⊢; rw [this.2 e]⟩
theorem wim_vpair (p : PairD) {s t : List Int × Int} (h : wim s t) : wim (vpair p s) (wpair p t) := by
  unfold vpair wpair; split
  · exact wim_wnum _ (wim_vtext _ _ h)
  · exact wim_vtext _ _ (wim_wnum _ (wim_vtext _ _ h))
theorem wim_vpairs (ps : List PairD) : ∀ {s t : List Int × Int}, wim s t → wim (vpairs ps s) (wpairs ps t) := by
  induction ps with
  | nil => intro s t h; exact h
  | cons p ps ih => intro s t h; exact ih (wim_vpair p h)
theorem wim_whead (c : CmdD) {s t : List Int × Int} (h : wim s t) : wim (whead c s) (whead c t) := by
  unfold whead
  refine wim_wnum _ (wim_wnum _ (wim_wnum _ (wim_wnum _ ?_)))
  split
  · exact ⟨Iff.rfl, fun e => absurd e (by simp)⟩
  · split
    · exact ⟨Iff.rfl, fun e => absurd e (by simp)⟩
    · exact h
theorem wim_vcmd (c : CmdD) {s t : List Int × Int} (h : wim s t) : wim (vcmd c s) (wcmd c t) := wim_vpairs _ (wim_whead c h)
theorem wim_vcmds (cs : List CmdD) : ∀ {s t : List Int × Int}, wim s t → wim (vcmds cs s) (wcmds cs t) := by
  induction cs with
  | nil => intro s t h; exact h
  | cons c cs ih => intro s t h; exact ih (wim_vcmd c h)
theorem wim_finish {s t : List Int × Int} (h : wim s t) : wim (finish s) (finish t) := by
  unfold finish
  by_cases e : t.2 = 0
  · rw [if_pos e, if_pos (h.1.2 e)]; exact ⟨Iff.rfl, fun _ => h.2 e⟩
  · rw [if_neg e, if_neg (fun x => e (h.1.1 x))]; exact ⟨⟨fun x => absurd (h.1.1 x) e, fun x => absurd x e⟩, fun _ => rfl⟩
theorem vMsg_ok (m : MsgD) : ((vMsg m).2 = 0 ↔ okMsg m) ∧ ((vMsg m).2 = 0 → (vMsg m).1 = mbytes m) := by
  have h : wim (vMsg m) (rMsg m) := by
    unfold vMsg rMsg; split
    · exact wim.refl _
    · split
      · exact wim_finish (wim_vcmd _ (wim.refl _))
      · exact wim.refl _
  have k := rMsg_ok m
  exact ⟨h.1.trans k.1, fun e => (h.2 (h.1.1 e)).trans (k.2 (h.1.1 e))⟩
theorem vLog_ok (cs : List CmdD) : ((vLog cs).2 = 0 ↔ okLog cs) ∧ ((vLog cs).2 = 0 → (vLog cs).1 = lbytes cs) := by
  have h : wim (vLog cs) (rLog cs) := by
    unfold vLog rLog; split
    · exact wim.refl _
    · exact wim_finish (wim_vcmds _ (wim.refl _))
  have k := rLog_ok cs
  exact ⟨h.1.trans k.1, fun e => (h.2 (h.1.1 e)).trans (k.2 (h.1.1 e))⟩
end Go.Proofs.YtcfgmjlkbjleaaaDoor
