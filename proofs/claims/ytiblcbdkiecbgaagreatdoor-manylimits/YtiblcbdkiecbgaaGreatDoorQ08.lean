import Derived.Test.YtiblcbdkiecbgaaGreatDoorQ07
import Derived.Calls
import Derived.Conc.Own4
namespace Go.Proofs.Q
open Go Go.Conc
set_option linter.unusedVariables false
set_option linter.unusedSectionVars false
set_option linter.unusedSimpArgs false
variable [Gds]
section
variable {P : Program} {base : Nat} {ks : List Frame}
theorem notP_ren {T : Tok} {ρ : Nat → Nat} {o : Obj} (h : notP o) : notP (@rO _ T ρ o) := by
  cases o with
  | pending c e => exact h.elim
  | loop l =>
    have h : okL l := h
    refine ⟨?_, ?_, fun c hc => ?_⟩
    · show Gds.gc (T.chi l.assign); rw [T.chi_fix _ h.1]; exact h.1
    · show Gds.gc (T.chi l.body); rw [T.chi_fix _ h.2.1]; exact h.2.1
    · cases hp : l.pending with
      | none =>
        have hc : l.pending.map T.chi = some c := hc
        rw [hp] at hc; cases hc
      | some x =>
        have hc : l.pending.map T.chi = some c := hc
        rw [hp] at hc
        simp at hc
        subst hc
        rw [T.chi_fix _ (h.2.2 x hp)]; exact h.2.2 x hp
  | deferred c =>
    cases c with
    | none => trivial
    | some ds =>
      intro d hd
      obtain ⟨j, hj, rfl⟩ := List.mem_map.1 hd
      exact okT_ren (h j hj)
  | _ => trivial
theorem bare_go {C : GStep} {g : Goroutine} {w : World} (h : C.bare = .go g w #[]) : ∃ es, C = .go g w es := by
  cases C <;> simp [GStep.bare] at h
  obtain ⟨rfl, rfl⟩ := h
  exact ⟨_, rfl⟩
def evn (L k : Nat) : Nat := if k < L then k else L + 2 * (k - L)
def odn (L k : Nat) : Nat := if k < L then k else L + 2 * (k - L) + 1
theorem evn_inj (L : Nat) : ∀ a b, evn L a = evn L b → a = b := fun a b h => by unfold evn at h; split at h <;> split at h <;> omega
theorem odn_inj (L : Nat) : ∀ a b, odn L a = odn L b → a = b := fun a b h => by unfold odn at h; split at h <;> split at h <;> omega
theorem evn_dis (L : Nat) : Dis L (evn L) (odn L) := fun a b h => by unfold evn odn at *; split at h <;> split at h <;> split <;> omega
theorem LI.sim (z : Gz) (hp : ∀ fl ρ, @PP _ z.tok P base fl ρ) (hq : PQ P) (hnr : NoRF ks) (hks : ks ≠ []) {c c1 : LC} (h : LI P base c) {τ : Nat → Question → Nat} (hτ : (stepG P true (G c.fr (c.cs ++ ks)) (tpW c.w τ)).bare = .go (G c1.fr (c1.cs ++ ks)) (tpW c1.w τ) #[])
    (hout : ¬ LOut c) (hsafe : ¬ LEnd P ks c) {lim : Nat} {ρ π : Nat → Nat} (hπ : π = id ∨ π = Gds.sg) (hi : ∀ a b, ρ a = ρ b → a = b) (hl : c.w.heap.size ≤ lim) (hl1 : c1.w.heap.size ≤ lim) (hr : ∀ k, k < lim → ρ k = π k) (hf : ∀ k, lim ≤ k → lim ≤ ρ k) :
    ∃ fr1 cs1 w1 es, c1.fr = @rFr _ z.tok ρ fr1 ∧ c1.cs = cs1.map (@rFr _ z.tok ρ) ∧ @HR _ z.tok base ⟨false, lim, base, some τ⟩ ρ w1 (tpW c1.w τ) ∧ Gu base ⟨false, lim, base, some τ⟩ ρ c.w (tpW c.w τ) (tpW c1.w τ) es ∧ CfOK P fr1 cs1 ∧ fr1 = c1.fr ∧ cs1 = c1.cs ∧ w1.heap = c1.w.heap := by
  have hfr := h.frs (T := z.tok) (ρ := ρ) hπ (fun k hk => hr k (by omega))
  have h0 := @step_so _ z.tok P base ⟨false, lim, base, some τ⟩ ρ ks ks c.w (tpW c.w τ) (hp _ ρ) hq (h.hr (T := z.tok) hπ hi hl hr hf τ) c.fr c.cs h.ok hnr hnr h.good (h.clean _) (fun hc => by
    by_cases hm : c.fr.mode = .run
    · exact .inl hm
    · exact .inr fun hd => hout ⟨hc, hm, hd⟩)
  rw [hfr.1, hfr.2] at h0
  obtain ⟨k0, ks0, hk0⟩ : ∃ k0 ks0, c.cs ++ ks = k0 :: ks0 := by
    cases hh : c.cs ++ ks with
    | nil => exact absurd (List.append_eq_nil_iff.1 hh).2 hks
    | cons a b => exact ⟨a, b, rfl⟩
  have hmain : stepG P false (G c.fr (c.cs ++ ks)) (tpW c.w τ) = stepG P true (G c.fr (c.cs ++ ks)) (tpW c.w τ) := by rw [hk0]; exact stepG_main
  rw [hmain] at h0
  obtain ⟨es, hes⟩ := bare_go hτ
  rcases h0 with h0 | ⟨fr1, cs1, w1, w1', es1, ⟨τ1, t1, d1, hL⟩, h2, h3, h4, h5, h6⟩ | h0
  · exact absurd h0 hsafe
  · rw [hes] at h2
    simp only [GStep.go.injEq] at h2
    obtain ⟨hg, rfl, rfl⟩ := h2
    have e1 : c1.fr = @rFr _ z.tok ρ fr1 := congrArg Goroutine.frame hg
    have e2 : c1.cs ++ ks = cs1.map (@rFr _ z.tok ρ) ++ ks := congrArg Goroutine.callers hg
    have ht := t1 τ rfl
    subst ht
    have h7 := hL τ1 (fun _ _ _ => rfl)
    have h7 : (stepG P true (G c.fr (c.cs ++ ks)) (tpW c.w τ1)).bare = _ := h7
    rw [hτ] at h7
    simp only [GStep.go.injEq] at h7
    obtain ⟨g1, g2, _⟩ := h7
    have f1 : c1.fr = fr1 := congrArg Goroutine.frame g1
    have f2 : c1.cs ++ ks = cs1 ++ ks := congrArg Goroutine.callers g1
    have f3 : (tpW c1.w τ1).heap = (tpW w1 τ1).heap := by rw [g2]
    have f3 : c1.w.heap = w1.heap := f3
    exact ⟨fr1, cs1, w1, es, e1, List.append_cancel_right e2, h3, h5, h6, f1.symm, (List.append_cancel_right f2).symm, f3.symm⟩
  · rw [hes] at h0
    have : lim < c1.w.heap.size := h0
    omega
theorem LI.step (z : Gz) (hp : ∀ fl ρ, @PP _ z.tok P base fl ρ) (hq : PQ P) (hnr : NoRF ks) (hks : ks ≠ []) {c c1 : LC} (h : LI P base c) (hgo : LGo P ks c c1) (hout : ¬ LOut c) (hsafe : ¬ LEnd P ks c) : LI P base c1 ∧ c.w.heap.size ≤ c1.w.heap.size := by
  obtain ⟨τ, hd, hτ⟩ := hgo
  have hτ := hτ τ (fun _ _ _ => rfl)
  obtain ⟨_, _, _, _, _, _, _, g0, _⟩ := h.sim z hp hq hnr hks hτ hout hsafe (lim := max c.w.heap.size c1.w.heap.size) (ρ := id) (.inl rfl) (fun _ _ e => e) (by omega) (by omega) (fun _ _ => rfl) (fun _ e => e)
  have hsz : c.w.heap.size ≤ c1.w.heap.size := g0.size
  obtain ⟨f1, s1, w1, es1, a1, a2, a3, a4, a5, _, _, _⟩ := h.sim z hp hq hnr hks hτ hout hsafe (lim := c1.w.heap.size) (ρ := evn c1.w.heap.size) (.inl rfl) (evn_inj _) hsz (Nat.le_refl _) (fun k hk => by unfold evn; rw [if_pos hk]; rfl) (fun k hk => by unfold evn; rw [if_neg (by omega)]; omega)
  obtain ⟨f2, s2, w2, es2, b1, b2, b3, b4, b5, _, _, _⟩ := h.sim z hp hq hnr hks hτ hout hsafe (lim := c1.w.heap.size) (ρ := odn c1.w.heap.size) (.inl rfl) (odn_inj _) hsz (Nat.le_refl _) (fun k hk => by unfold odn; rw [if_pos hk]; rfl) (fun k hk => by unfold odn; rw [if_neg (by omega)]; omega)
  have visb : ∀ k, base ≤ k → Gds.hv k = false := fun k hk => by
    cases hq : Gds.hv k with
    | false => rfl
    | true => have := h.hb k hq; omega
  have hbs := h.bs
  obtain ⟨f3, s3, w3, es3, c1f, c2f, c3, _, _, k1, k2, k3⟩ := h.sim z hp hq hnr hks hτ hout hsafe (lim := c1.w.heap.size) (ρ := Gds.sg) (.inr rfl) (fun a b e => by rw [← Gds.sg_sg a, e, Gds.sg_sg]) hsz (Nat.le_refl _) (fun k hk => rfl) (fun k hk => by rw [Gds.sg_vis k (visb k (by omega))]; exact hk)
  have lta : ∀ {u : World} {k : Nat} {o : Obj}, u.heap[k]? = some o → k < u.heap.size := fun h => (Array.getElem?_eq_some_iff.1 h).1
  have a3far := @HR.far _ z.tok _ _ _ _ _ a3
  have a3sh := @HR.sh _ z.tok _ _ _ _ _ a3
  have a3own := @HR.own _ z.tok _ _ _ _ _ a3
  have a3np := @HR.np _ z.tok _ _ _ _ _ a3
  have b3far := @HR.far _ z.tok _ _ _ _ _ b3
  have b3sh := @HR.sh _ z.tok _ _ _ _ _ b3
  have b3own := @HR.own _ z.tok _ _ _ _ _ b3
  have b3np := @HR.np _ z.tok _ _ _ _ _ b3
  have hdis := evn_dis c1.w.heap.size
  have lowE : ∀ k, k < c1.w.heap.size → evn c1.w.heap.size k = k := fun k hk => by unfold evn; rw [if_pos hk]
  have lowO : ∀ k, k < c1.w.heap.size → odn c1.w.heap.size k = k := fun k hk => by unfold odn; rw [if_pos hk]
  have in1 : ∀ k, k < c1.w.heap.size → k < w1.heap.size := fun k hk => by
    rcases Nat.lt_or_ge k w1.heap.size with q | q
    · exact q
    · have := a3far k q
      rw [lowE k hk] at this
      have : c1.w.heap.size ≤ k := this
      omega
  have in2 : ∀ k, k < c1.w.heap.size → k < w2.heap.size := fun k hk => by
    rcases Nat.lt_or_ge k w2.heap.size with q | q
    · exact q
    · have := b3far k q
      rw [lowO k hk] at this
      have : c1.w.heap.size ≤ k := this
      omega
  have lowc : ∀ (k : Nat) (o : Obj), k < base → c1.w.heap[k]? = some o → (Gds.hv k = false ∧ ((∃ x e f, o = .cells x e f) ∨ o = .coro none)) ∨ (Gds.hv k = true ∧ o = .view ⟨k, 0, none⟩ 0) := by
    intro k o hk ho
    have hkc : k < c.w.heap.size := by have := h.bs; omega
    obtain ⟨o0, ho0⟩ : ∃ o0, c.w.heap[k]? = some o0 := ⟨_, Array.getElem?_eq_getElem hkc⟩
    obtain ⟨o', h1, h2⟩ := a4.nc k o0 hk ho0
    have h1 : c1.w.heap[k]? = some o' := h1
    rw [ho] at h1
    cases h1
    rcases h.low k o0 hk ho0 with ⟨hv, ⟨x, e, f, rfl⟩ | rfl⟩ | ⟨hv, rfl⟩
    · rcases h2 with rfl | ⟨_, _, _, _, _, _, rfl, _⟩ <;> exact .inl ⟨hv, .inl ⟨_, _, _, rfl⟩⟩
    · rcases h2 with rfl | ⟨_, _, _, _, _, q, _, _⟩
      · exact .inl ⟨hv, .inr rfl⟩
      · cases q
    · rcases h2 with rfl | ⟨_, _, _, _, _, q, _, _⟩
      · exact .inr ⟨hv, rfl⟩
      · cases q
  have htop : bFr c1.w.heap.size c1.fr := by
    have := frame_img (z := z) hdis (a := f1) (b := f2) (by rw [← a1, ← b1])
    rw [← a1] at this
    exact this
  have hrest : ∀ f, f ∈ c1.cs → bFr c1.w.heap.size f := by
    intro f hf
    have e : s1.map (@rFr _ z.tok (evn c1.w.heap.size)) = s2.map (@rFr _ z.tok (odn c1.w.heap.size)) := by rw [← a2, ← b2]
    rw [a2] at hf
    obtain ⟨y1, y2, _, _, rfl, h3⟩ := list_img e hf
    exact frame_img (z := z) hdis h3
  have hheap : ∀ (k : Nat) (o : Obj), c1.w.heap[k]? = some o → bO c1.w.heap.size o ∧ notP o := by
    intro k o ho
    have hk := lta ho
    obtain ⟨o1, ho1⟩ : ∃ o1, w1.heap[k]? = some o1 := ⟨_, Array.getElem?_eq_getElem (in1 k hk)⟩
    obtain ⟨o2, ho2⟩ : ∃ o2, w2.heap[k]? = some o2 := ⟨_, Array.getElem?_eq_getElem (in2 k hk)⟩
    by_cases hb : base ≤ k
    · have q1 := a3own k o1 hb ho1
      have q2 := b3own k o2 hb ho2
      rw [lowE k hk] at q1
      rw [lowO k hk] at q2
      have q1 : c1.w.heap[k]? = _ := q1
      have q2 : c1.w.heap[k]? = _ := q2
      rw [ho] at q1 q2
      simp only [Option.some.injEq] at q1 q2
      refine ⟨?_, by rw [q1]; exact notP_ren (a3np k o1 ho1)⟩
      have := obj_img (z := z) hdis (a := o1) (b := o2) (by rw [← q1, ← q2])
      rw [← q1] at this
      exact this
    · obtain ⟨x1, r1, t1⟩ := a3sh k o1 (by omega) ho1
      obtain ⟨x2, r2, t2⟩ := b3sh k o2 (by omega) ho2
      rw [lowE k hk] at r1
      rw [lowO k hk] at r2
      have r1 : c1.w.heap[k]? = _ := r1
      have r2 : c1.w.heap[k]? = _ := r2
      rw [ho] at r1 r2
      cases r1
      cases r2
      rcases lowc k o (by omega) ho with ⟨hv, ⟨x, e, f, rfl⟩ | rfl⟩ | ⟨_, rfl⟩
      · refine ⟨?_, trivial⟩
        rcases t1 with ⟨_, y1, _, _, _, _, q1, _⟩ | ⟨_, _, q, _⟩ | ⟨q, _⟩
        · rcases t2 with ⟨_, y2, _, _, _, _, q2, _⟩ | ⟨_, _, q, _⟩ | ⟨q, _⟩
          · simp only [Obj.cells.injEq] at q1 q2
            have := vals_img (z := z) hdis (a := y1) (b := y2) (by rw [← q1.1, ← q2.1])
            rw [← q1.1] at this
            exact this
          · exact absurd rfl (q _ _ _)
          · rw [hv] at q; cases q
        · exact absurd rfl (q _ _ _)
        · rw [hv] at q; cases q
      · exact ⟨trivial, trivial⟩
      · exact ⟨hk, trivial⟩
  have c3own := @HR.own _ z.tok _ _ _ _ _ c3
  have c3sh := @HR.sh _ z.tok _ _ _ _ _ c3
  rw [k3] at c3own c3sh
  refine ⟨⟨?_, htop, hrest, hheap, lowc, by have := h.bs; omega, h.hb, ⟨?_, ?_⟩, ?_⟩, hsz⟩
  · rw [a1, a2]; exact CfOK_ren a5
  · rw [rFr_agr (T := Tok.one) (U := z.tok) (σ := Gds.sg) (fun _ _ => rfl) htop]
    rw [k1] at c1f
    exact c1f.symm
  · rw [rFrs_agr (T := Tok.one) (U := z.tok) (σ := Gds.sg) (fun _ _ => rfl) hrest]
    rw [k2] at c2f
    exact c2f.symm
  · intro k o hv ho
    rw [rO_agr (T := Tok.one) (U := z.tok) (σ := Gds.sg) (fun _ _ => rfl) (hheap k o ho).1 (hheap k o ho).2]
    by_cases hb : base ≤ k
    · have q := c3own k o hb ho
      rw [Gds.sg_vis k hv] at q
      have q : c1.w.heap[k]? = _ := q
      rw [ho] at q
      exact (Option.some.inj q).symm
    · obtain ⟨o', q, hs⟩ := c3sh k o (by omega) ho
      rw [Gds.sg_vis k hv] at q
      have q : c1.w.heap[k]? = _ := q
      rw [ho] at q
      cases q
      rcases hs with ⟨_, x, e, f, f', q1, q2, _⟩ | ⟨_, q1, _⟩ | ⟨q1, _⟩
      · rw [q1] at q2 ⊢
        simp only [Obj.cells.injEq] at q2
        simp only [rO]
        rw [← q2.1]
      · rw [q1]; rfl
      · rw [hv] at q1; cases q1
theorem LI.flag (z : Gz) (hp : ∀ fl ρ, @PP _ z.tok P base fl ρ) (hq : PQ P) (hnr : NoRF ks) (hks : ks ≠ []) {c c1 : LC} (h : LI P base c) (hgo : LGo P ks c c1) (hout : ¬ LOut c) (hsafe : ¬ LEnd P ks c) {k : Nat} {x : Array Value} {e : TypeId} {f : Nat × Nat} (hk : k < base) (ho : c.w.heap[k]? = some (.cells x e f)) : ∃ x' f', c1.w.heap[k]? = some (.cells x' e f') ∧ fle f f' := by
  obtain ⟨τ, hd, hτ⟩ := hgo
  have hτ := hτ τ (fun _ _ _ => rfl)
  obtain ⟨_, _, _, _, _, _, _, g0, _⟩ := h.sim z hp hq hnr hks hτ hout hsafe (lim := max c.w.heap.size c1.w.heap.size) (ρ := id) (.inl rfl) (fun _ _ e => e) (by omega) (by omega) (fun _ _ => rfl) (fun _ e => e)
  obtain ⟨o', h1, h2⟩ := g0.nc k _ hk ho
  rcases h2 with rfl | ⟨_, _, _, x', f', q, rfl, hf⟩
  · exact ⟨x, f, h1, .inl rfl⟩
  · cases q
    exact ⟨x', f', h1, hf⟩
end
end Go.Proofs.Q
namespace Go.Proofs.Q
open Go Go.Conc
set_option linter.unusedVariables false
set_option linter.unusedSectionVars false
set_option linter.unusedSimpArgs false
variable [Gds]
section
variable {P : Program} {base : Nat}
def Kf : Frame := { fn := 0, tmps := #[], todo := [.code (.refuse "")], defers := [⟨.nil, #[]⟩], mode := .run, kind := .normal }
theorem Kf_fin (v : Value) (u : World) : ∃ o u', step P (lone (Kf.finish v) [] u) = .ended o u' := ⟨_, _, step_lone_ended rfl⟩
theorem Kf_rai (l : List PanicEntry) (u : World) : ∃ o u', step P (lone (Kf.raise l) [] u) = .ended o u' := ⟨_, _, step_lone_ended rfl⟩
theorem Kf_norf : NoRF [Kf] := fun f hf k t h => by
  simp only [List.mem_cons, List.not_mem_nil, or_false] at hf
  subst hf
  cases h
theorem runN_next (n : Nat) : ∀ m : Machine, runN P (n + 1) m = match runN P n m with | .next m1 => step P m1 | e => e := by
  induction n with
  | zero =>
    intro m
    simp only [runN]
    cases step P m <;> rfl
  | succ n ih =>
    intro m
    have e1 : runN P (n + 1 + 1) m = match step P m with | .next m => runN P (n + 1) m | e => e := rfl
    have e2 : runN P (n + 1) m = match step P m with | .next m => runN P n m | e => e := rfl
    rw [e1, e2]
    cases step P m with
    | next m1 => exact ih m1
    | ended o w => rfl
theorem runN_ended {n k : Nat} {m : Machine} {o : Outcome} {w : World} (h : runN P n m = .ended o w) : runN P (n + k) m = .ended o w := by
  induction k with
  | zero => exact h
  | succ k ih =>
    show runN P (n + k + 1) m = _
    rw [runN_next, ih]
def mch (c : LC) (τ : Nat → Question → Nat) : Machine := lone c.fr (c.cs ++ [Kf]) (tpW c.w τ)
theorem mch_inj {c c1 : LC} {τ : Nat → Question → Nat} {fr : Frame} {w : World} (h : mch c τ = lone fr [Kf] w) : c.fr = fr ∧ c.cs = [] ∧ tpW c.w τ = w := by
  simp only [mch, lone, Machine.mk.injEq, Array.mk.injEq, List.cons.injEq, Goroutine.mk.injEq] at h
  obtain ⟨h1, ⟨⟨h2, h3, _⟩, _⟩, _⟩ := h
  refine ⟨h2, ?_, h1⟩
  have := congrArg List.length h3
  simp at this
  exact this
theorem mch_ne {c : LC} {τ : Nat → Question → Nat} {fr : Frame} {w : World} : mch c τ ≠ lone fr [] w := by
  intro h
  simp only [mch, lone, Machine.mk.injEq, Array.mk.injEq, List.cons.injEq, Goroutine.mk.injEq] at h
  obtain ⟨h1, ⟨⟨h2, h3, _⟩, _⟩, _⟩ := h
  simp at h3
theorem LGo.mch {c c1 : LC} (h : LGo P [Kf] c c1) : ∃ τ : Nat → Question → Nat, c.w.drawn ≤ c1.w.drawn ∧ ∀ τ', (∀ i, c.w.drawn ≤ i → i < c1.w.drawn → τ' i = τ i) → step P (Q.mch c τ') = .next (Q.mch c1 τ') := by
  obtain ⟨τ, hd, h⟩ := h
  exact ⟨τ, hd, fun τ' ht => step_lone_go (h τ' ht)⟩
def RunsTo (P : Program) (c0 c : LC) (n : Nat) : Prop :=
  ∃ τ : Nat → Question → Nat, c0.w.drawn ≤ c.w.drawn ∧ ∀ τ', (∀ i, c0.w.drawn ≤ i → i < c.w.drawn → τ' i = τ i) → runN P n (mch c0 τ') = .next (mch c τ')
theorem RunsTo.refl (c : LC) : RunsTo P c c 0 := ⟨c.w.tape, Nat.le_refl _, fun τ' _ => rfl⟩
theorem RunsTo.next {c0 c c1 : LC} {n : Nat} (h : RunsTo P c0 c n) (h1 : LGo P [Kf] c c1) : RunsTo P c0 c1 (n + 1) := by
  obtain ⟨τ, hd, h⟩ := h
  obtain ⟨τ1, hd1, h1⟩ := h1.mch
  refine ⟨fun i => if i < c.w.drawn then τ i else τ1 i, by omega, fun τ' ht => ?_⟩
  rw [runN_next, h τ' (fun i hi hj => by rw [ht i hi (by omega)]; simp only [if_pos hj])]
  exact h1 τ' (fun i hi hj => by rw [ht i (by omega) hj]; simp only [if_neg (Nat.not_lt.2 hi)])
structure Back (P : Program) (f : FuncId) (args : Array Value) (w0 : World) (R : (Nat → Question → Nat) → Value → World → Prop) : Prop where
  calls : ∀ τ, Calls P f args (tpW w0 τ) fun e w' => ∃ v, e = .returned v ∧ R τ v w'
variable {f : FuncId} {args : Array Value} {w0 : World} {R : (Nat → Question → Nat) → Value → World → Prop}
def c0 (P : Program) (f : FuncId) (args : Array Value) (w0 : World) : LC := ⟨Frame.enter P f args .normal, [], w0⟩
theorem Back.ends (h : Back P f args w0 R) (τ : Nat → Question → Nat) : ∃ n fr w' v, runN P n (mch (c0 P f args w0) τ) = .next (lone fr [Kf] w') ∧ fr.leaving P w' (.returned v) ∧ R τ v w' ∧ fr.fn = f := by
  obtain ⟨e, w', fr, ⟨v, rfl, hR⟩, h1, h2, h3⟩ := h.calls τ [Kf]
  obtain ⟨n, hn⟩ := h1
  exact ⟨n, fr, w', v, hn, h3, hR, h2⟩
theorem after_end {m : Machine} {n k : Nat} {fr : Frame} {w' : World} {v : Value} {c : LC} {τ : Nat → Question → Nat} (h : runN P n m = .next (lone fr [Kf] w')) (hl : fr.leaving P w' (.returned v)) (hk : runN P k m = .next (mch c τ)) : k ≤ n := by
  rcases Nat.lt_or_ge n k with hlt | hge
  · exfalso
    have s1 : runN P (n + 1) m = .next (lone (Kf.finish v) [] w') := by rw [runN_next, h]; exact step_leave_returned hl
    obtain ⟨o, u, hu⟩ := Kf_fin (P := P) v w'
    have s2 : runN P (n + 2) m = .ended o u := by rw [runN_next, s1]; exact hu
    rcases Nat.lt_or_ge k (n + 2) with h2 | h2
    · obtain rfl : k = n + 1 := by omega
      rw [s1] at hk
      simp only [Stepped.next.injEq] at hk
      exact mch_ne hk.symm
    · have := runN_ended (k := k - (n + 2)) s2
      rw [show n + 2 + (k - (n + 2)) = k by omega, hk] at this
      cases this
  · exact hge
theorem Back.safe (h : Back P f args w0 R) {c : LC} {n : Nat} (hr : RunsTo P (c0 P f args w0) c n) (ho : ¬ LOut c) : ¬ LEnd P [Kf] c := by
  intro ⟨τ2, d, he⟩
  obtain ⟨τ, hd, hr⟩ := hr
  let τ' : Nat → Question → Nat := fun i => if i < c.w.drawn then τ i else τ2 i
  have h1 := hr τ' (fun i hi hj => by simp only [τ', if_pos hj])
  obtain ⟨o, u, h2⟩ := he τ' (fun i hi hj => by simp only [τ', if_neg (Nat.not_lt.2 hi)])
  have h2 : step P (mch c τ') = .ended o u := step_lone_ended h2
  obtain ⟨n0, fr, w', v, e1, e2, e3, _⟩ := h.ends τ'
  have hle := after_end e1 e2 h1
  rcases Nat.lt_or_ge n n0 with hlt | hge
  · have s1 : runN P (n + 1) (mch (c0 P f args w0) τ') = .ended o u := by rw [runN_next, h1]; exact h2
    have := runN_ended (k := n0 - (n + 1)) s1
    rw [show n + 1 + (n0 - (n + 1)) = n0 by omega, e1] at this
    cases this
  · obtain rfl : n0 = n := by omega
    rw [h1] at e1
    simp only [Stepped.next.injEq] at e1
    obtain ⟨rfl, hc, _⟩ := mch_inj (c1 := c) e1
    refine ho ⟨hc, fun hm => ?_, e2.2.1⟩
    rw [e2.1] at hm
    cases hm
theorem Back.out (h : Back P f args w0 R) {c : LC} {n : Nat} (hr : RunsTo P (c0 P f args w0) c n) (ho : LOut c) (ok : CfOK P c.fr c.cs) : ∃ τ : Nat → Question → Nat, (c0 P f args w0).w.drawn ≤ c.w.drawn ∧ ∀ τ', (∀ i, w0.drawn ≤ i → i < c.w.drawn → τ' i = τ i) → ∃ v, c.fr.leaving P (tpW c.w τ') (.returned v) ∧ R τ' v (tpW c.w τ') ∧ c.fr.fn = f := by
  obtain ⟨τ, hd, hr⟩ := hr
  refine ⟨τ, hd, fun τ' ht => ?_⟩
  have h1 := hr τ' ht
  obtain ⟨n0, fr, w', v, e1, e2, e3, e4⟩ := h.ends τ'
  have hle := after_end e1 e2 h1
  rcases Nat.lt_or_ge n n0 with hlt | hge
  · exfalso
    obtain ⟨hc, hm, hdf⟩ := ho
    have hb : c.fr.kind = .normal := by have := ok.bot; rw [hc] at this; exact this.1
    have hcat : c.fr.catches P = false := by
      unfold Frame.catches
      split
      · rename_i d w r s k _ e
        have := ok.top.it (.call d w r s) (by rw [e]; simp)
        exact this.elim
      · rfl
    have key : (∃ o u, step P (mch c τ') = .ended o u) ∨ ∃ x u, step P (mch c τ') = .next (lone x [] u) ∧ ∃ o u', step P (lone x [] u) = .ended o u' := by
      have hmc : mch c τ' = lone c.fr [Kf] (tpW c.w τ') := by simp only [mch, hc, List.nil_append]
      rw [hmc]
      cases hmo : c.fr.mode with
      | run => exact (hm hmo).elim
      | panicking l => exact .inr ⟨Kf.raise l, tpW c.w τ', step_lone_go (by simp [stepG, unwind, hmo, hdf, hcat]), Kf_rai l _⟩
      | returning =>
        cases hfn : P.funcs[c.fr.fn]? with
        | none => exact .inr ⟨Kf.finish (c.fr.tmps.getD 0 undef), tpW c.w τ', step_lone_go (by simp [stepG, unwind, hmo, hdf, hfn, doReturn, hb]), Kf_fin _ _⟩
        | some fn =>
          cases hres : (results fn c.fr.tmps).run P (tpW c.w τ') with
          | ok x u => exact .inr ⟨Kf.finish x, u, step_lone_go (by simp [stepG, unwind, hmo, hdf, hfn, doReturn, hb, hres]), Kf_fin _ _⟩
          | halt hh u =>
            refine .inl ?_
            cases hh <;> exact ⟨_, _, step_lone_ended (by simp [stepG, unwind, hmo, hdf, hfn, hres]; exact ⟨rfl, rfl⟩)⟩
    rcases key with ⟨o, u, hk⟩ | ⟨x, u, hk, o, u', hk2⟩
    · have s1 : runN P (n + 1) (mch (c0 P f args w0) τ') = .ended o u := by rw [runN_next, h1]; exact hk
      have := runN_ended (k := n0 - (n + 1)) s1
      rw [show n + 1 + (n0 - (n + 1)) = n0 by omega, e1] at this
      cases this
    · have s1 : runN P (n + 1) (mch (c0 P f args w0) τ') = .next (lone x [] u) := by rw [runN_next, h1]; exact hk
      have s2 : runN P (n + 2) (mch (c0 P f args w0) τ') = .ended o u' := by rw [runN_next, s1]; exact hk2
      rcases Nat.lt_or_ge n0 (n + 2) with h2 | h2
      · obtain rfl : n0 = n + 1 := by omega
        rw [s1] at e1
        simp only [Stepped.next.injEq, lone, Machine.mk.injEq, Array.mk.injEq, List.cons.injEq, Goroutine.mk.injEq] at e1
        obtain ⟨_, ⟨⟨_, q, _⟩, _⟩, _⟩ := e1
        cases q
      · have := runN_ended (k := n0 - (n + 2)) s2
        rw [show n + 2 + (n0 - (n + 2)) = n0 by omega, e1] at this
        cases this
  · obtain rfl : n0 = n := by omega
    rw [h1] at e1
    simp only [Stepped.next.injEq] at e1
    obtain ⟨rfl, hc, hw⟩ := mch_inj (c1 := c) e1
    rw [← hw] at e2 e3
    exact ⟨v, e2, e3, e4⟩
open Classical in
theorem Back.acc (h : Back P f args w0 R) : Acc (fun c1 c => LGo P [Kf] c c1) (c0 P f args w0) := by
  apply Classical.byContradiction
  intro hn
  have nx : ∀ c, ¬ Acc (fun c1 c => LGo P [Kf] c c1) c → ∃ c1, LGo P [Kf] c c1 ∧ ¬ Acc (fun c1 c => LGo P [Kf] c c1) c1 := by
    intro c hc
    apply Classical.byContradiction
    intro hq
    apply hc
    refine ⟨_, fun c1 h1 => ?_⟩
    apply Classical.byContradiction
    intro h2
    exact hq ⟨c1, h1, h2⟩
  let S := { c : LC // ¬ Acc (fun c1 c => LGo P [Kf] c c1) c }
  let nxt : S → S := fun c => ⟨Classical.choose (nx c.1 c.2), (Classical.choose_spec (nx c.1 c.2)).2⟩
  have hnxt : ∀ c : S, LGo P [Kf] c.1 (nxt c).1 := fun c => (Classical.choose_spec (nx c.1 c.2)).1
  let sq : Nat → S := fun n => Nat.rec ⟨c0 P f args w0, hn⟩ (fun _ c => nxt c) n
  have hsq : ∀ n, LGo P [Kf] (sq n).1 (sq (n + 1)).1 := fun n => hnxt (sq n)
  let d : Nat → Nat := fun n => (sq n).1.w.drawn
  let τs : Nat → Nat → Question → Nat := fun n => Classical.choose (hsq n).mch
  have hτs : ∀ n, d n ≤ d (n + 1) ∧ ∀ τ', (∀ i, d n ≤ i → i < d (n + 1) → τ' i = τs n i) → step P (mch (sq n).1 τ') = .next (mch (sq (n + 1)).1 τ') := fun n => Classical.choose_spec (hsq n).mch
  have mono : ∀ a b, a ≤ b → d a ≤ d b := by
    intro a b hab
    induction hab with
    | refl => exact Nat.le_refl _
    | step _ ih => exact Nat.le_trans ih (hτs _).1
  let T : Nat → Question → Nat := fun i => if hx : ∃ n, d n ≤ i ∧ i < d (n + 1) then τs (Classical.choose hx) i else fun _ => 0
  have hT : ∀ n i, d n ≤ i → i < d (n + 1) → T i = τs n i := by
    intro n i h1 h2
    have hx : ∃ n, d n ≤ i ∧ i < d (n + 1) := ⟨n, h1, h2⟩
    have hs := Classical.choose_spec hx
    have : Classical.choose hx = n := by
      rcases Nat.lt_trichotomy (Classical.choose hx) n with q | q | q
      · have := mono (Classical.choose hx + 1) n q; omega
      · exact q
      · have := mono (n + 1) (Classical.choose hx) q; omega
    simp only [T, dif_pos hx, this]
  have run : ∀ n, runN P n (mch (c0 P f args w0) T) = .next (mch (sq n).1 T) := by
    intro n
    induction n with
    | zero => rfl
    | succ n ih => rw [runN_next, ih]; exact (hτs n).2 T (hT n)
  obtain ⟨n0, fr, w', v, e1, e2, e3, _⟩ := h.ends T
  have := after_end e1 e2 (run (n0 + 1))
  omega
end
end Go.Proofs.Q
namespace Go.Proofs.Q
open Go Go.Conc
set_option linter.unusedVariables false
set_option linter.unusedSectionVars false
set_option linter.unusedSimpArgs false
variable [Gds]
section
variable {P : Program} {base : Nat}
structure HX (b : Bool) (base : Nat) (ρ : Nat → Nat) (w w' : World) : Prop where
  hr : ∀ lim, @HR _ Tok.one base ⟨b, lim, base, none⟩ ρ w w'
  fx : ∀ k, k < base → ρ k = k
  hc : ∀ k, k < base → Gds.hv k = true → ∃ c e f, w'.heap[k]? = some (.cells c e f) ∧ 0 < c.size
  nx : ∀ j, ρ (w.heap.size + j) = w'.heap.size + j
def own (base : Nat) (ρ : Nat → Nat) (w : World) (k : Nat) : Prop := ∃ j, base ≤ j ∧ j < w.heap.size ∧ ρ j = k
structure Rely (base : Nat) (S : Nat → Prop) (w w1 : World) : Prop where
  size : w.heap.size ≤ w1.heap.size
  os : w1.os = w.os
  mine : ∀ k, S k → w1.heap[k]? = w.heap[k]?
  low : ∀ k o, k < base → w.heap[k]? = some o → ∃ o', w1.heap[k]? = some o' ∧ (sameButF o o' ∨ ((∀ c e f, o ≠ .cells c e f) ∧ (∀ c e f, o' ≠ .cells c e f) ∧ (∀ a t, o' ≠ .view a t) ∧ (∀ a l, o' ≠ .number a l) ∧ ∀ c e, o' ≠ .pending c e))
theorem HX.rely {b : Bool} {ρ : Nat → Nat} {c : LC} {w' w1' : World} (hi : LI P base c) (h : HX b base ρ c.w w') (hr : Rely base (own base ρ c.w) w' w1') (hlo : b = false → ∀ k, k < base → w1'.heap[k]? = w'.heap[k]?) :
    ∃ σ, (∀ k, k < c.w.heap.size → σ k = ρ k) ∧ HX b base σ c.w w1' := by
  have h0 := h.hr 0
  have inj := @HR.inj _ Tok.one _ _ _ _ _ h0
  have fxx := h.fx
  have hob := @HR.ob _ Tok.one _ _ _ _ _ h0
  have hown := @HR.own _ Tok.one _ _ _ _ _ h0
  have hsh := @HR.sh _ Tok.one _ _ _ _ _ h0
  have hos := @HR.os _ Tok.one _ _ _ _ _ h0
  have lowr : ∀ k, k < c.w.heap.size → ρ k < w'.heap.size := fun k hk => @HR.low _ Tok.one _ _ _ _ _ h0 k hk
  let σ : Nat → Nat := fun k => if k < c.w.heap.size then ρ k else w1'.heap.size + (k - c.w.heap.size)
  have s1 : ∀ k, k < c.w.heap.size → σ k = ρ k := fun k hk => by simp only [σ, if_pos hk]
  have s2 : ∀ k, c.w.heap.size ≤ k → σ k = w1'.heap.size + (k - c.w.heap.size) := fun k hk => by simp only [σ, if_neg (Nat.not_lt.2 hk)]
  have hsz := hr.size
  have sO : ∀ (k : Nat) (o : Obj), c.w.heap[k]? = some o → @rO _ Tok.one σ o = @rO _ Tok.one ρ o := fun k o ho => rO_agr (T := Tok.one) (U := Tok.one) s1 (hi.heap k o ho).1 (hi.heap k o ho).2
  have hbs := hi.bs
  have hb' : base ≤ w'.heap.size := by
    rcases Nat.eq_zero_or_pos base with q | q
    · omega
    · have := lowr (base - 1) (by omega)
      rw [fxx (base - 1) (by omega)] at this
      omega
  have sx : ∀ k, k < base → σ k = k := fun k hk => by rw [s1 k (by omega)]; exact fxx k hk
  refine ⟨σ, s1, fun lim => @HR.mk _ Tok.one base ⟨b, lim, base, none⟩ σ c.w w1' (fun a a' hab => ?_) (fun k hk _ => sx k hk) (fun k hk hv => by rw [sx k hk]; exact hv) (fun k hk => by show σ k < base; rw [sx k hk]; exact hk) (fun k hk => by
    show base ≤ σ k
    rcases Nat.lt_or_ge k c.w.heap.size with q | q
    · rw [s1 k q]; exact hob k hk
    · rw [s2 k q]; omega) hi.bs (hr.os.trans hos) (fun j _ => ?_) (fun k hk => ?_) (fun k o hk ho => ?_) (fun k o hk ho => ?_) (fun k o ho => (hi.heap k o ho).2) (hi.vwo _) (fun τ0 q => by cases q), sx, fun k hk hv => by
    obtain ⟨x, e, f, q1, q2⟩ := h.hc k hk hv
    cases b with
    | false => exact ⟨x, e, f, (hlo rfl k hk).trans q1, q2⟩
    | true =>
      obtain ⟨o', q3, q4⟩ := hr.low k _ hk q1
      rcases q4 with (rfl | ⟨c4, e4, f4, f4', h5, rfl, _⟩) | ⟨q4, _⟩
      · exact ⟨x, e, f, q3, q2⟩
      · cases h5; exact ⟨_, _, _, q3, q2⟩
      · exact absurd rfl (q4 _ _ _), fun j => ?_⟩
  · rcases Nat.lt_or_ge a c.w.heap.size with qa | qa <;> rcases Nat.lt_or_ge a' c.w.heap.size with qb | qb
    · rw [s1 a qa, s1 a' qb] at hab; exact inj a a' hab
    · rw [s1 a qa, s2 a' qb] at hab; have := lowr a qa; omega
    · rw [s2 a qa, s1 a' qb] at hab; have := lowr a' qb; omega
    · rw [s2 a qa, s2 a' qb] at hab; omega
  · rw [s2 _ (by omega)]; omega
  · rw [s2 k hk]; omega
  · have hk2 : k < c.w.heap.size := (Array.getElem?_eq_some_iff.1 ho).1
    rw [s1 k hk2, sO k o ho, hr.mine _ ⟨k, hk, hk2, rfl⟩]
    exact hown k o hk ho
  · obtain ⟨o1, h1, h2⟩ := hsh k o hk ho
    rw [fxx k hk] at h1
    rw [sx k hk]
    cases b with
    | false =>
      refine ⟨o1, (hlo rfl k hk).trans h1, ?_⟩
      rcases h2 with ⟨hv, x, e, f, f', rfl, rfl, q1, q2⟩ | ⟨hv, rfl, q⟩ | ⟨hv, u, rfl, q⟩
      · have hx : x.map (@rV _ Tok.one σ) = x.map (@rV _ Tok.one ρ) := by
          have := sO k _ ho
          simp only [rO, Obj.cells.injEq] at this
          exact this.1
        exact .inl ⟨hv, x, e, f, f', rfl, by rw [hx], q1, q2⟩
      · exact .inr (.inl ⟨hv, rfl, q⟩)
      · exact .inr (.inr ⟨hv, u, rfl, by rw [sx k hk]; rw [fxx k hk] at q; exact q⟩)
    | true =>
    obtain ⟨o2, h3, h4⟩ := hr.low k o1 hk h1
    refine ⟨o2, h3, ?_⟩
    rcases h2 with ⟨hv, x, e, f, f', rfl, rfl, q1, q2⟩ | ⟨hv, rfl, q⟩ | ⟨hv, u, rfl, q⟩
    · rcases h4 with h4 | ⟨h4, _⟩
      · have hx : x.map (@rV _ Tok.one σ) = x.map (@rV _ Tok.one ρ) := by
          have := sO k _ ho
          simp only [rO, Obj.cells.injEq] at this
          exact this.1
        rcases h4 with rfl | ⟨c4, e4, f4, f4', h5, rfl, h6⟩
        · exact .inl ⟨hv, x, e, f, f', rfl, by rw [hx], q1, fun q => by cases q⟩
        · simp only [Obj.cells.injEq] at h5
          obtain ⟨rfl, rfl, rfl⟩ := h5
          obtain ⟨g1, g2, g3⟩ := q1 rfl
          refine .inl ⟨hv, x, _, f, f4', rfl, by rw [hx], fun _ => ⟨g1, g2, ?_⟩, fun q => by cases q⟩
          simp only [Array.size_map] at h6
          omega
      · exact absurd rfl (h4 _ _ _)
    · rcases h4 with h4 | ⟨_, h5⟩
      · rcases h4 with rfl | ⟨_, _, _, _, h6, _⟩
        · exact .inr (.inl ⟨hv, rfl, q⟩)
        · exact absurd h6 (q.1 _ _ _)
      · exact .inr (.inl ⟨hv, rfl, h5⟩)
    · rcases q with ⟨c3, e3, f3, rfl, q3⟩ | rfl
      · rcases h4 with h4 | ⟨h4, _⟩
        · rcases h4 with rfl | ⟨c4, e4, f4, f4', h5, rfl, h6⟩
          · exact .inr (.inr ⟨hv, u, rfl, .inl ⟨_, _, _, rfl, q3⟩⟩)
          · cases h5
            exact .inr (.inr ⟨hv, u, rfl, .inl ⟨_, _, _, rfl, q3⟩⟩)
        · exact absurd rfl (h4 _ _ _)
      · rcases h4 with h4 | ⟨_, _, h4, _⟩
        · rcases h4 with rfl | ⟨_, _, _, _, h5, _⟩
          · exact .inr (.inr ⟨hv, u, rfl, .inr (by rw [sx k hk, fxx k hk])⟩)
          · cases h5
        · obtain ⟨c3, e3, f3, hc1, _⟩ := h.hc k hk hv
          rw [h1] at hc1
          cases hc1
  · rw [s2 _ (by omega)]; omega
structure InCall (b : Bool) (P : Program) (base : Nat) (f : FuncId) (args : Array Value) (w0 : World) (cs' : List Frame) (ρ : Nat → Nat) (c : LC) (g : Goroutine) (w' : World) : Prop where
  li : LI P base c
  to : ∃ n, RunsTo P (c0 P f args w0) c n
  hx : HX b base ρ c.w w'
  g : g = G (@rFr _ Tok.one ρ c.fr) (c.cs.map (@rFr _ Tok.one ρ) ++ cs')
structure Guar (base : Nat) (S : Nat → Prop) (w w1 : World) (es : Array Event) : Prop where
  size : w.heap.size ≤ w1.heap.size
  tape : w1.tape = w.tape
  out : w1.output = w.output
  os : w1.os = w.os
  rest : ∀ k, base ≤ k → k < w.heap.size → ¬ S k → w1.heap[k]? = w.heap[k]?
  low : ∀ k o, k < base → w.heap[k]? = some o → ∃ o', w1.heap[k]? = some o' ∧ sameButF o o'
theorem InCall.rely {b : Bool} {f : FuncId} {args : Array Value} {w0 : World} {cs' : List Frame} {ρ : Nat → Nat} {c : LC} {g : Goroutine} {w' w1' : World} (h : InCall b P base f args w0 cs' ρ c g w') (hr : Rely base (own base ρ c.w) w' w1') (hlo : b = false → ∀ k, k < base → w1'.heap[k]? = w'.heap[k]?) :
    ∃ σ, (∀ k, k < c.w.heap.size → σ k = ρ k) ∧ InCall b P base f args w0 cs' σ c g w1' := by
  obtain ⟨σ, h1, h2⟩ := h.hx.rely h.li hr hlo
  refine ⟨σ, h1, h.li, h.to, h2, ?_⟩
  rw [h.g, rFr_agr (T := Tok.one) (U := Tok.one) (ρ := ρ) (σ := σ) (fun k hk => (h1 k hk).symm) h.li.top, rFrs_agr (T := Tok.one) (U := Tok.one) (ρ := ρ) (σ := σ) (fun k hk => (h1 k hk).symm) h.li.rest]
theorem InCall.stepB {b : Bool} (z : Gz) (hp : ∀ fl ρ, @PP _ z.tok P base fl ρ) (hp1 : ∀ fl ρ, @PP _ Tok.one P base fl ρ) (hq : PQ P) {f : FuncId} {args : Array Value} {w0 : World} {R : (Nat → Question → Nat) → Value → World → Prop} (hB : Back P f args w0 R) {cs' : List Frame} (hnr : NoRF cs')
    {ρ : Nat → Nat} {c : LC} {g : Goroutine} {w' : World} (h : InCall b P base f args w0 cs' ρ c g w') (ho : ¬ LOut c) :
    ∃ c1 g1 w1' es, LGo P [Kf] c c1 ∧ stepG P false g w' = .go g1 w1' es ∧ InCall b P base f args w0 cs' ρ c1 g1 w1' ∧ (∃ lim, Gu base ⟨b, lim, base, none⟩ ρ c.w w' w1' es) ∧ c.w.heap.size ≤ c1.w.heap.size := by
  obtain ⟨n, hto⟩ := h.to
  have hsafe := hB.safe hto ho
  have key : ∀ lim, @SO _ Tok.one P base ⟨b, lim, base, none⟩ ρ [Kf] cs' c.w w' (fun u => (stepG P true (G c.fr (c.cs ++ [Kf])) u).bare) (stepG P false g w') := fun lim => by
    rw [h.g]
    exact @step_so _ Tok.one P base ⟨b, lim, base, none⟩ ρ [Kf] cs' c.w w' (hp1 _ ρ) hq (h.hx.hr lim) c.fr c.cs h.li.ok Kf_norf hnr h.li.good (h.li.clean _) (fun hc => by
      by_cases hm : c.fr.mode = .run
      · exact .inl hm
      · exact .inr fun hd => ho ⟨hc, hm, hd⟩)
  rcases key (gsz (stepG P false g w')) with h0 | ⟨fr1, cs1, w1, w1', es, h1, h2, h3, h4, h5, h6⟩ | h0
  · exact absurd h0 hsafe
  · obtain ⟨τ1, _, hd1, hh1⟩ := h1
    have hgo : LGo P [Kf] c ⟨fr1, cs1, w1⟩ := ⟨τ1, hd1, hh1⟩
    obtain ⟨hli, hsz⟩ := h.li.step z hp hq Kf_norf (by simp) hgo ho hsafe
    have hsz : c.w.heap.size ≤ w1.heap.size := hsz
    have far := @HR.far _ Tok.one _ _ _ _ _ h3
    have lowr : ∀ k, k < w1.heap.size → ρ k < w1'.heap.size := fun k hk => @HR.low _ Tok.one _ _ _ _ _ h3 k hk
    have esz : w1'.heap.size = w'.heap.size + (w1.heap.size - c.w.heap.size) := by
      have q1 := far w1.heap.size (Nat.le_refl _)
      have q2 := h.hx.nx (w1.heap.size - c.w.heap.size)
      rw [show c.w.heap.size + (w1.heap.size - c.w.heap.size) = w1.heap.size by omega] at q2
      have q3 := h5.size
      by_cases hz : w1.heap.size = c.w.heap.size
      · omega
      · have q4 := lowr (w1.heap.size - 1) (by omega)
        have q5 := h.hx.nx (w1.heap.size - 1 - c.w.heap.size)
        rw [show c.w.heap.size + (w1.heap.size - 1 - c.w.heap.size) = w1.heap.size - 1 by omega] at q5
        omega
    have nx : ∀ j, ρ (w1.heap.size + j) = w1'.heap.size + j := fun j => by
      have := h.hx.nx (w1.heap.size - c.w.heap.size + j)
      rw [show c.w.heap.size + (w1.heap.size - c.w.heap.size + j) = w1.heap.size + j by omega] at this
      omega
    have hx : HX b base ρ w1 w1' := ⟨fun lim => @HR.mk _ Tok.one base ⟨b, lim, base, none⟩ ρ w1 w1' (@HR.inj _ Tok.one _ _ _ _ _ h3) (@HR.fix _ Tok.one _ _ _ _ _ h3) (@HR.hh _ Tok.one _ _ _ _ _ h3) (fun k hk => @HR.lo _ Tok.one _ _ _ _ _ h3 k hk) (fun k hk => @HR.ob _ Tok.one _ _ _ _ _ h3 k hk) (@HR.bs _ Tok.one _ _ _ _ _ h3) (@HR.os _ Tok.one _ _ _ _ _ h3) (fun j _ => nx j) far (@HR.own _ Tok.one _ _ _ _ _ h3) (fun k o hk ho => by obtain ⟨o', q1, q2⟩ := @HR.sh _ Tok.one _ _ _ _ _ h3 k o hk ho; exact ⟨o', q1, q2⟩) (@HR.np _ Tok.one _ _ _ _ _ h3) (fun k o ho => @HR.vw _ Tok.one _ _ _ _ _ h3 k o ho) (fun τ0 q => by cases q), h.hx.fx, (fun k hk hv => by
      obtain ⟨x, e, f, q1, q2⟩ := h.hx.hc k hk hv
      obtain ⟨o', q3, q4⟩ := h5.nc k _ hk q1
      obtain ⟨u, _, q5⟩ := @HR.hid _ Tok.one base _ ρ w1 w1' h3 k ⟨hk, hv⟩
      rw [h.hx.fx k hk] at q5
      rcases q5 with ⟨x5, e5, f5, q5, q6⟩ | q5
      · exact ⟨_, _, _, q5, q6⟩
      · rw [q3] at q5
        cases q5
        rcases q4 with q4 | ⟨_, _, _, _, _, _, q4, _⟩ <;> cases q4), nx⟩
    refine ⟨⟨fr1, cs1, w1⟩, _, w1', es, hgo, h2, ⟨hli, ⟨n + 1, hto.next hgo⟩, hx, rfl⟩, ⟨_, h5⟩, hsz⟩
  · exact absurd h0 (Nat.lt_irrefl _)
theorem InCall.step (z : Gz) (hp : ∀ fl ρ, @PP _ z.tok P base fl ρ) (hp1 : ∀ fl ρ, @PP _ Tok.one P base fl ρ) (hq : PQ P) {f : FuncId} {args : Array Value} {w0 : World} {R : (Nat → Question → Nat) → Value → World → Prop} (hB : Back P f args w0 R) {cs' : List Frame} (hnr : NoRF cs')
    {ρ : Nat → Nat} {c : LC} {g : Goroutine} {w' : World} (h : InCall true P base f args w0 cs' ρ c g w') (ho : ¬ LOut c) :
    ∃ c1 g1 w1' es, LGo P [Kf] c c1 ∧ stepG P false g w' = .go g1 w1' es ∧ InCall true P base f args w0 cs' ρ c1 g1 w1' ∧ Guar base (own base ρ c.w) w' w1' es ∧ (∀ e ∈ es, EvG base base ρ e) ∧ c.w.heap.size ≤ c1.w.heap.size := by
  obtain ⟨c1, g1, w1', es, h1, h2, h3, ⟨lim, h5⟩, h6⟩ := h.stepB z hp hp1 hq hB hnr ho
  exact ⟨c1, g1, w1', es, h1, h2, h3, ⟨h5.size, h5.tape, h5.out, h5.os, fun k hk1 hk2 hk3 => h5.fr k hk1 hk2 (fun j hj1 hj2 e => hk3 ⟨j, hj1, hj2, e⟩), h5.sh rfl⟩, h5.evs rfl, h6⟩
theorem InCall.flags (z : Gz) (hp : ∀ fl ρ, @PP _ z.tok P base fl ρ) (hp1 : ∀ fl ρ, @PP _ Tok.one P base fl ρ) (hq : PQ P) {f : FuncId} {args : Array Value} {w0 : World} {R : (Nat → Question → Nat) → Value → World → Prop} (hB : Back P f args w0 R) (hR : ∀ τ v w, R τ v w → ∀ k, k < base → w.heap[k]? = w0.heap[k]?) {cs' : List Frame} (hnr : NoRF cs') :
    ∀ {c : LC}, Acc (fun c1 c => LGo P [Kf] c c1) c → ∀ {ρ : Nat → Nat} {g : Goroutine} {w' : World}, InCall false P base f args w0 cs' ρ c g w' → (∀ k x e f, k < base → w0.heap[k]? = some (.cells x e f) → ∃ x' f', c.w.heap[k]? = some (.cells x' e f') ∧ fle f f') →
      ∀ k x e f, k < base → w0.heap[k]? = some (.cells x e f) → ∃ x', c.w.heap[k]? = some (.cells x' e f) := by
  intro c hacc
  induction hacc with
  | intro c _ ih =>
    intro ρ g w' h hs k x e f hk ho
    obtain ⟨x1, f1, h1, h2⟩ := hs k x e f hk ho
    by_cases hout : LOut c
    · obtain ⟨n, hto⟩ := h.to
      obtain ⟨τ, _, hend⟩ := hB.out hto hout h.li.ok
      obtain ⟨v, _, hr, _⟩ := hend τ (fun _ _ _ => rfl)
      have := hR _ _ _ hr k hk
      have this : c.w.heap[k]? = w0.heap[k]? := this
      exact ⟨x, this.trans ho⟩
    · obtain ⟨n, hto⟩ := h.to
      obtain ⟨c1, g1, w1', es, hgo, hst, hin, _, _⟩ := h.stepB z hp hp1 hq hB hnr hout
      have hfl := fun {k x e f} => h.li.flag z hp hq Kf_norf (by simp) hgo hout (hB.safe hto hout) (k := k) (x := x) (e := e) (f := f)
      obtain ⟨x2, h3⟩ := ih c1 hgo hin (fun k x e f hk ho => by
        obtain ⟨y, fy, q1, q2⟩ := hs k x e f hk ho
        obtain ⟨y2, f2, q3, q4⟩ := hfl hk q1
        exact ⟨y2, f2, q3, q2.trans q4⟩) k x e f hk ho
      obtain ⟨y2, f2, q3, q4⟩ := hfl hk h1
      rw [h3] at q3
      simp only [Option.some.injEq, Obj.cells.injEq, true_and] at q3
      obtain ⟨_, rfl⟩ := q3
      have := fle.anti q4 h2
      exact ⟨x1, by rw [h1, this]⟩
end
end Go.Proofs.Q
namespace Go.Proofs.Q
open Go Go.Conc
set_option linter.unusedVariables false
set_option linter.unusedSectionVars false
set_option linter.unusedSimpArgs false
variable [Gds]
section
variable {P : Program} {base : Nat}
def lowC (b : Bool) : Obj → Obj
  | .cells c e f => .cells c e (if b then (0, max f.2 (c.size + 1)) else f)
  | _ => .coro none
def lowO (b : Bool) (k : Nat) (o : Obj) : Obj := if Gds.hv k = true then .view ⟨k, 0, none⟩ 0 else lowC b o
def lowW (b : Bool) (base : Nat) (w : World) : World := { w with heap := (w.heap.extract 0 base).mapIdx (lowO b) }
theorem lowO_hid {b : Bool} {k : Nat} {o : Obj} (h : Gds.hv k = true) : lowO b k o = .view ⟨k, 0, none⟩ 0 := if_pos h
theorem lowO_vis {b : Bool} {k : Nat} {o : Obj} (h : Gds.hv k = false) : lowO b k o = lowC b o := if_neg (by rw [h]; simp)
theorem lowW_at {b : Bool} (w : World) (k : Nat) : (lowW b base w).heap[k]? = if k < base then (w.heap[k]?).map (lowO b k) else none := by
  simp only [lowW, Array.getElem?_mapIdx, Array.getElem?_extract]
  split
  · rename_i h; rw [if_pos (by omega)]; simp
  · rename_i h
    split
    · rename_i h2
      have : w.heap[k]? = none := Array.getElem?_eq_none (by omega)
      simp [this]
    · rfl
theorem lowW_size {b : Bool} {w : World} (h : base ≤ w.heap.size) : (lowW b base w).heap.size = base := by
  simp only [lowW, Array.size_mapIdx, Array.size_extract]
  omega
structure Shar (base : Nat) (w : World) : Prop where
  bs : base ≤ w.heap.size
  cl : ∀ k c e f, k < base → Gds.hv k = false → w.heap[k]? = some (.cells c e f) → bVs base c ∧ c.map (@rV _ Tok.one Gds.sg) = c
  hb : ∀ k, Gds.hv k = true → k < base
  hc : ∀ k, Gds.hv k = true → ∃ c e f, w.heap[k]? = some (.cells c e f) ∧ 0 < c.size
  np : ∀ k o, k < base → w.heap[k]? = some o → (∀ a t, o ≠ .view a t) ∧ (∀ a l, o ≠ .number a l) ∧ ∀ c e, o ≠ .pending c e
def begR (base n k : Nat) : Nat := if k < base then k else n + (k - base)
theorem lowW_li {b : Bool} (hq : PQ P) {w : World} (h : Shar base w) {f : FuncId} (hf : Gds.gf f) {args : Array Value} (ha : bVs base args) (hac : args.map (@rV _ Tok.one Gds.sg) = args) : LI P base (c0 P f args (lowW b base w)) := by
  have hs := lowW_size (b := b) h.bs
  refine ⟨⟨@enter_ok _ Tok.one _ hq _ hf args _ (.inl rfl), fun f hf => by simp [c0] at hf, ⟨rfl, rfl⟩⟩, ?_, fun f hf => by simp [c0] at hf, fun k o ho => ?_, fun k o hk ho => ?_, ?_, h.hb, ⟨?_, rfl⟩, fun k o hv ho => ?_⟩
  · show bFr (lowW b base w).heap.size (Frame.enter P f args .normal)
    rw [hs]
    refine ⟨fun x hx => ?_, fun x hx => ?_, fun x hx => by simp [Frame.enter] at hx, trivial, fun x hx => by simp [Frame.enter] at hx⟩
    · simp only [Frame.enter, Array.mem_append, Array.mem_replicate] at hx
      rcases hx with hx | ⟨_, rfl⟩
      · exact ha x hx
      · simp [undef, bV]
    · simp only [Frame.enter, List.mem_cons, List.not_mem_nil, or_false] at hx
      subst hx
      trivial
  · have ho : (lowW b base w).heap[k]? = some o := ho
    show bO (lowW b base w).heap.size o ∧ notP o
    rw [hs]
    rw [lowW_at] at ho
    split at ho
    · rename_i hk
      cases hw : w.heap[k]? with
      | none => rw [hw] at ho; cases ho
      | some o1 =>
        rw [hw] at ho
        simp at ho
        subst ho
        cases hv : Gds.hv k with
        | true => rw [lowO_hid hv]; exact ⟨hk, trivial⟩
        | false =>
          rw [lowO_vis hv]
          cases o1 <;> first | exact ⟨trivial, trivial⟩ | skip
          exact ⟨(h.cl k _ _ _ hk hv hw).1, trivial⟩
    · cases ho
  · have ho : (lowW b base w).heap[k]? = some o := ho
    rw [lowW_at, if_pos hk] at ho
    cases hw : w.heap[k]? with
    | none => rw [hw] at ho; cases ho
    | some o1 =>
      rw [hw] at ho
      simp at ho
      subst ho
      cases hv : Gds.hv k with
      | true => exact .inr ⟨rfl, lowO_hid hv⟩
      | false =>
        rw [lowO_vis hv]
        cases o1 <;> first | exact .inl ⟨rfl, .inr rfl⟩ | exact .inl ⟨rfl, .inl ⟨_, _, _, rfl⟩⟩
  · show base ≤ (lowW b base w).heap.size; omega
  · have := @enter_ren _ Tok.one P Gds.sg f args .normal
    rw [hac] at this
    exact this.symm
  · have ho : (lowW b base w).heap[k]? = some o := ho
    rw [lowW_at] at ho
    split at ho
    · rename_i hk
      cases hw : w.heap[k]? with
      | none => rw [hw] at ho; cases ho
      | some o1 =>
        rw [hw] at ho
        simp at ho
        subst ho
        rw [lowO_vis hv]
        cases o1 <;> first | rfl | skip
        simp only [lowC, rO, (h.cl k _ _ _ hk hv hw).2]
    · cases ho
theorem lowW_hx {b : Bool} {w w' : World} (h : Shar base w) (hlo : b = false → ∀ k, k < base → w'.heap[k]? = w.heap[k]?) (hl : ∀ k o, k < base → w.heap[k]? = some o → ∃ o', w'.heap[k]? = some o' ∧ (sameButF o o' ∨ ((∀ c e f, o ≠ .cells c e f) ∧ (∀ c e f, o' ≠ .cells c e f) ∧ (∀ a t, o' ≠ .view a t) ∧ (∀ a l, o' ≠ .number a l) ∧ ∀ c e, o' ≠ .pending c e))) (hos : w'.os = w.os) (hsz : base ≤ w'.heap.size) : HX b base (begR base w'.heap.size) (lowW b base w) w' := by
  have hs := lowW_size (b := b) h.bs
  have fx : ∀ k, k < base → begR base w'.heap.size k = k := fun k hk => by unfold begR; rw [if_pos hk]
  have nx : ∀ j, begR base w'.heap.size ((lowW b base w).heap.size + j) = w'.heap.size + j := fun j => by rw [hs]; unfold begR; rw [if_neg (by omega)]; omega
  have hcc : ∀ k, k < base → Gds.hv k = true → ∃ c e f, w'.heap[k]? = some (.cells c e f) ∧ 0 < c.size := fun k hk hv => by
    obtain ⟨c, e, f, q1, q2⟩ := h.hc k hv
    obtain ⟨o', q3, q4⟩ := hl k _ hk q1
    rcases q4 with (rfl | ⟨c4, e4, f4, f4', h5, rfl, _⟩) | ⟨q4, _⟩
    · exact ⟨c, e, f, q3, q2⟩
    · cases h5; exact ⟨_, _, _, q3, q2⟩
    · exact absurd rfl (q4 _ _ _)
  refine ⟨fun lim => @HR.mk _ Tok.one base ⟨b, lim, base, none⟩ _ _ w' (fun a a' hab => ?_) (fun k hk _ => fx k hk) (fun k hk hv => by rw [fx k hk]; exact hv) (fun k hk => by show begR base w'.heap.size k < base; rw [fx k hk]; exact hk) (fun k hk => by
    show base ≤ begR base w'.heap.size k
    unfold begR; rw [if_neg (by omega)]; omega) (by omega) hos (fun j _ => nx j) (fun k hk => ?_) (fun k o hk ho => ?_) (fun k o hk ho => ?_) (fun k o ho => ?_) (fun k o ho => ?_) (fun τ0 q => by cases q), fx, hcc, nx⟩
  · unfold begR at hab; split at hab <;> split at hab <;> omega
  · rw [hs] at hk; unfold begR; rw [if_neg (by omega)]; omega
  · rw [lowW_at, if_neg (by omega)] at ho; cases ho
  · rw [lowW_at, if_pos hk] at ho
    rw [fx k hk]
    cases hw : w.heap[k]? with
    | none => rw [hw] at ho; cases ho
    | some o1 =>
      rw [hw] at ho
      simp at ho
      subst ho
      cases hv : Gds.hv k with
      | true =>
        obtain ⟨c, e, f, q1, q2⟩ := hcc k hk hv
        exact ⟨_, q1, .inr (.inr ⟨hv, 0, lowO_hid hv, .inl ⟨c, e, f, rfl, q2⟩⟩)⟩
      | false =>
      rw [lowO_vis hv]
      cases b with
      | false =>
        refine ⟨o1, (hlo rfl k hk).trans hw, ?_⟩
        by_cases hc : ∃ c e f, o1 = .cells c e f
        · obtain ⟨c, e, f, rfl⟩ := hc
          have hcl := (h.cl k c e f hk hv hw).1
          have hm : c.map (@rV _ Tok.one (begR base w'.heap.size)) = c := by
            rw [rVs_agr (T := Tok.one) (U := Tok.one) (σ := id) (fun k hk => by unfold begR; rw [if_pos hk]; rfl) hcl, rVf_one, Array.map_id]
          exact .inl ⟨hv, c, e, f, f, by simp [lowC], by rw [hm], (fun q => by cases q), fun _ => rfl⟩
        · have hn : lowC false o1 = .coro none := by cases o1 <;> first | rfl | exact absurd ⟨_, _, _, rfl⟩ hc
          exact .inr (.inl ⟨hv, hn, fun c e f q => hc ⟨c, e, f, q⟩, h.np k o1 hk hw⟩)
      | true =>
      obtain ⟨o2, h1, h2⟩ := hl k o1 hk hw
      refine ⟨o2, h1, ?_⟩
      by_cases hc : ∃ c e f, o1 = .cells c e f
      · obtain ⟨c, e, f, rfl⟩ := hc
        have hcl := (h.cl k c e f hk hv hw).1
        have hm : c.map (@rV _ Tok.one (begR base w'.heap.size)) = c := by
          rw [rVs_agr (T := Tok.one) (U := Tok.one) (σ := id) (fun k hk => by unfold begR; rw [if_pos hk]; rfl) hcl, rVf_one, Array.map_id]
        rcases h2 with h2 | ⟨h2, _⟩
        · rcases h2 with rfl | ⟨c2, e2, f2, f2', h3, rfl, h4⟩
          · exact .inl ⟨hv, c, e, _, f, rfl, by rw [hm], fun _ => ⟨rfl, by simp; omega, by simp; omega⟩, fun q => by cases q⟩
          · cases h3
            exact .inl ⟨hv, c, e, _, f2', rfl, by rw [hm], fun _ => ⟨rfl, by simp; omega, by simp; omega⟩, fun q => by cases q⟩
        · exact absurd rfl (h2 _ _ _)
      · have hn : lowC true o1 = .coro none := by cases o1 <;> first | rfl | exact absurd ⟨_, _, _, rfl⟩ hc
        have hnp := h.np k o1 hk hw
        rcases h2 with h2 | ⟨_, h2⟩
        · rcases h2 with rfl | ⟨_, _, _, _, h3, _⟩
          · exact .inr (.inl ⟨hv, hn, fun c e f q => hc ⟨c, e, f, q⟩, hnp⟩)
          · exact absurd ⟨_, _, _, h3⟩ hc
        · exact .inr (.inl ⟨hv, hn, h2⟩)
  · rw [lowW_at] at ho
    split at ho
    · cases hw : w.heap[k]? with
      | none => rw [hw] at ho; cases ho
      | some o1 =>
        rw [hw] at ho
        simp at ho
        subst ho
        cases hv : Gds.hv k with
        | true => rw [lowO_hid hv]; trivial
        | false => rw [lowO_vis hv]; cases o1 <;> trivial
    · cases ho
  · rw [lowW_at] at ho
    split at ho
    · cases hw : w.heap[k]? with
      | none => rw [hw] at ho; cases ho
      | some o1 =>
        rw [hw] at ho
        simp at ho
        subst ho
        cases hv : Gds.hv k with
        | true =>
          rw [lowO_hid hv]
          intro a u q _
          cases q; exact ⟨rfl, rfl⟩
        | false =>
          rw [lowO_vis hv]
          intro a u q
          cases o1 <;> cases q
    · cases ho
end
end Go.Proofs.Q
namespace Go.Proofs.Q
inductive OneOf {α : Type} (r : α → α → Prop) : List α → List α → Prop
  | head {x y : α} {l : List α} : r x y → OneOf r (x :: l) (y :: l)
  | tail {x : α} {l m : List α} : OneOf r l m → OneOf r (x :: l) (x :: m)
theorem acc_cons {α : Type} {r : α → α → Prop} {x : α} (hx : Acc r x) : ∀ {l : List α}, Acc (OneOf r) l → Acc (OneOf r) (x :: l) := by
  induction hx with
  | intro x _ ihx =>
    intro l hl
    induction hl with
    | intro l hl' ihl =>
      refine ⟨_, fun m hm => ?_⟩
      cases hm with
      | head h => exact ihx _ h ⟨_, hl'⟩
      | tail h => exact ihl _ h
theorem acc_list {α : Type} {r : α → α → Prop} : ∀ {l : List α}, (∀ x, x ∈ l → Acc r x) → Acc (OneOf r) l
  | [], _ => ⟨_, fun m hm => by cases hm⟩
  | x :: l, h => acc_cons (h x (by simp)) (acc_list fun y hy => h y (by simp [hy]))
end Go.Proofs.Q
namespace Go.Proofs.Q
open Go Go.Conc
set_option linter.unusedVariables false
set_option linter.unusedSectionVars false
set_option linter.unusedSimpArgs false
variable [Gds]
section
variable {P : Program} {base : Nat}
def EvIn (B : Nat) (e : Event) : Prop := match e.loc with
  | .cell a => a.block < B
  | .obj r => r < B
  | _ => True
theorem EvG.in2 {B : Nat} {ρ σ : Nat → Nat} {e : Event} (hb : base ≤ B) (hd : ∀ a b, ρ a = σ b → ρ a < B) (h1 : EvG base base ρ e) (h2 : EvG base base σ e) : EvIn B e := by
  unfold EvG at h1 h2
  unfold EvIn
  split <;> rename_i he
  · rw [he] at h1 h2
    simp only at h1 h2
    rcases h1 with ⟨k, _, h1⟩ | ⟨_, h1⟩
    · rcases h2 with ⟨l, _, h2⟩ | ⟨_, h2⟩
      · rw [← h1]; exact hd k l (h1.trans h2.symm)
      · omega
    · omega
  · rw [he] at h1 h2
    simp only at h1 h2
    rcases h1 with ⟨k, _, h1⟩ | ⟨_, h1⟩
    · rcases h2 with ⟨l, _, h2⟩ | ⟨_, h2⟩
      · rw [← h1]; exact hd k l (h1.trans h2.symm)
      · omega
    · omega
  · trivial
theorem HX.other {ρ σ : Nat → Nat} {c : LC} {w' : World} {L : Nat} (hi : LI P base c) (h : HX true base ρ c.w w') (hL : w'.heap.size ≤ L) (inj : ∀ a b, σ a = σ b → a = b) (h1 : ∀ k, ρ k < L → σ k = ρ k) (h2 : ∀ k, L ≤ ρ k → L ≤ σ k) :
    @HR _ Tok.one base ⟨true, L, base, none⟩ σ c.w w' := by
  have h0 := h.hr 0
  have fxx := h.fx
  have hob := @HR.ob _ Tok.one _ _ _ _ _ h0
  have far := @HR.far _ Tok.one _ _ _ _ _ h0
  have hown := @HR.own _ Tok.one _ _ _ _ _ h0
  have hsh := @HR.sh _ Tok.one _ _ _ _ _ h0
  have hos := @HR.os _ Tok.one _ _ _ _ _ h0
  have hbs := hi.bs
  have lowr : ∀ k, k < c.w.heap.size → ρ k < w'.heap.size := fun k hk => @HR.low _ Tok.one _ _ _ _ _ h0 k hk
  have s1 : ∀ k, k < c.w.heap.size → σ k = ρ k := fun k hk => h1 k (by have := lowr k hk; omega)
  have sO : ∀ (k : Nat) (o : Obj), c.w.heap[k]? = some o → @rO _ Tok.one σ o = @rO _ Tok.one ρ o := fun k o ho => rO_agr (T := Tok.one) (U := Tok.one) s1 (hi.heap k o ho).1 (hi.heap k o ho).2
  have sx : ∀ k, k < base → σ k = k := fun k hk => by rw [s1 k (by omega)]; exact fxx k hk
  have hb' : base ≤ w'.heap.size := by
    rcases Nat.eq_zero_or_pos base with q | q
    · omega
    · have := lowr (base - 1) (by omega)
      rw [fxx (base - 1) (by omega)] at this
      omega
  refine @HR.mk _ Tok.one base ⟨true, L, base, none⟩ σ c.w w' inj (fun k hk _ => sx k hk) (fun k hk hv => by rw [sx k hk]; exact hv) (fun k hk => by show σ k < base; rw [sx k hk]; exact hk) (fun k hk => by
    show base ≤ σ k
    have : base ≤ ρ k := hob k hk
    by_cases q : ρ k < L
    · rw [h1 k q]; exact this
    · have := h2 k (by omega); omega) hbs hos (fun j hj => ?_) (fun k hk => ?_) (fun k o hk ho => ?_) (fun k o hk ho => ?_) (fun k o ho => (hi.heap k o ho).2) (hi.vwo _) (fun τ0 q => by cases q)
  · have hj : w'.heap.size + j < L := hj
    have := h.nx j
    rw [h1 _ (by omega)]; exact this
  · have := far k hk
    by_cases q : ρ k < L
    · rw [h1 k q]; exact this
    · have := h2 k (by omega); omega
  · have hk2 : k < c.w.heap.size := (Array.getElem?_eq_some_iff.1 ho).1
    rw [s1 k hk2, sO k o ho]
    exact hown k o hk ho
  · obtain ⟨o1, q1, q2⟩ := hsh k o hk ho
    rw [sx k hk, ← fxx k hk]
    refine ⟨o1, q1, ?_⟩
    rw [fxx k hk]
    rcases q2 with ⟨hv, x, e, f, f', rfl, rfl, q3, q4⟩ | ⟨hv, q⟩ | ⟨hv, u, rfl, q⟩
    · have hx : x.map (@rV _ Tok.one σ) = x.map (@rV _ Tok.one ρ) := by
        have := sO k _ ho
        simp only [rO, Obj.cells.injEq] at this
        exact this.1
      exact .inl ⟨hv, x, e, f, f', rfl, by rw [hx], q3, q4⟩
    · exact .inr (.inl ⟨hv, q⟩)
    · exact .inr (.inr ⟨hv, u, rfl, by rw [sx k hk]; rw [fxx k hk] at q; exact q⟩)
theorem InCall.evin (hp1 : ∀ fl ρ, @PP _ Tok.one P base fl ρ) (hq : PQ P) {f : FuncId} {args : Array Value} {w0 : World} {R : (Nat → Question → Nat) → Value → World → Prop} (hB : Back P f args w0 R) {cs' : List Frame} (hnr : NoRF cs')
    {ρ : Nat → Nat} {c : LC} {g : Goroutine} {w' : World} (h : InCall true P base f args w0 cs' ρ c g w') (ho : ¬ LOut c) {g1 : Goroutine} {w1' : World} {es : Array Event} (hs : stepG P false g w' = .go g1 w1' es) (hsz : w'.heap.size ≤ w1'.heap.size) :
    ∀ e ∈ es, EvIn w1'.heap.size e := by
  obtain ⟨n, hto⟩ := h.to
  have hsafe := hB.safe hto ho
  have h0 := h.hx.hr 0
  have inj := @HR.inj _ Tok.one _ _ _ _ _ h0
  have hbs := h.li.bs
  have lowr : ∀ k, k < c.w.heap.size → ρ k < w'.heap.size := fun k hk => @HR.low _ Tok.one _ _ _ _ _ h0 k hk
  have fix := h.hx.fx
  have hbw : base ≤ w'.heap.size := by
    rcases Nat.eq_zero_or_pos base with q | q
    · omega
    · have := lowr (base - 1) (by omega)
      rw [fix (base - 1) (by omega)] at this
      omega
  have key : ∀ σ : Nat → Nat, (∀ a b, σ a = σ b → a = b) → (∀ k, ρ k < w1'.heap.size → σ k = ρ k) → (∀ k, w1'.heap.size ≤ ρ k → w1'.heap.size ≤ σ k) → ∀ e ∈ es, EvG base base σ e := fun σ i1 i2 i3 => by
    have s1 : ∀ k, k < c.w.heap.size → ρ k = σ k := fun k hk => (i2 k (by have := lowr k hk; omega)).symm
    have hst := @step_so _ Tok.one P base ⟨true, w1'.heap.size, base, none⟩ σ [Kf] cs' c.w w' (hp1 _ σ) hq (h.hx.other h.li hsz i1 i2 i3) c.fr c.cs h.li.ok Kf_norf hnr h.li.good (h.li.clean _) (fun hc => by
      by_cases hm : c.fr.mode = .run
      · exact .inl hm
      · exact .inr fun hd => ho ⟨hc, hm, hd⟩)
    rw [← rFr_agr (T := Tok.one) (U := Tok.one) (ρ := ρ) (σ := σ) s1 h.li.top, ← rFrs_agr (T := Tok.one) (U := Tok.one) (ρ := ρ) (σ := σ) s1 h.li.rest, ← h.g, hs] at hst
    rcases hst with h0 | ⟨fr1, cs1, w1, w2', es1, _, h2, _, _, h5, _⟩ | h0
    · exact absurd h0 hsafe
    · simp only [GStep.go.injEq] at h2
      obtain ⟨_, rfl, rfl⟩ := h2
      exact h5.evs rfl
    · exact absurd h0 (Nat.lt_irrefl _)
  intro e he
  have e1 := key (fun k => evn w1'.heap.size (ρ k)) (fun a b q => inj a b (evn_inj _ _ _ q)) (fun k q => by simp only [evn, if_pos q]) (fun k q => by simp only [evn, if_neg (Nat.not_lt.2 q)]; omega) e he
  have e2 := key (fun k => odn w1'.heap.size (ρ k)) (fun a b q => inj a b (odn_inj _ _ _ q)) (fun k q => by simp only [odn, if_pos q]) (fun k q => by simp only [odn, if_neg (Nat.not_lt.2 q)]; omega) e he
  exact EvG.in2 (by omega) (fun a b q => evn_dis w1'.heap.size (ρ a) (ρ b) q) e1 e2
theorem InCall.out {f : FuncId} {args : Array Value} {w0 : World} {R : (Nat → Question → Nat) → Value → World → Prop} (hB : Back P f args w0 R) {a : Value} (hR : ∀ τ v w, R τ v w → v = a) (ha : plainV a) {fn : Func} (hfn : P.funcs[f]? = some fn) {t : Tmp} (hres : fn.results = #[.tmp t])
    {k : Frame} {cs' : List Frame} {ρ : Nat → Nat} {c : LC} {g : Goroutine} {w' : World} (h : InCall true P base f args w0 (k :: cs') ρ c g w') (ho : LOut c) {main : Bool} : stepG P main g w' = .go (G (k.finish a) cs') w' #[] := by
  obtain ⟨n, hto⟩ := h.to
  obtain ⟨τ, _, hτ⟩ := hB.out hto ho h.li.ok
  obtain ⟨v, ⟨h1, h2, h3, fn', h4, h5⟩, h6, h7⟩ := hτ τ (fun _ _ _ => rfl)
  rw [h7, hfn] at h4
  cases h4
  rw [results_tmp hres] at h5
  have hv : c.fr.tmps.getD t undef = a := by
    have := hR _ _ _ h6
    simp only [Result.ok.injEq] at h5
    rw [h5.1, this]
  have hv' : (@rFr _ Tok.one ρ c.fr).tmps.getD t undef = a := by
    simp only [rFr, Array.getD_eq_getD_getElem?, Array.getElem?_map] at hv ⊢
    cases hc : c.fr.tmps[t]? with
    | none => rw [hc] at hv; simpa using hv
    | some x =>
      rw [hc] at hv
      simp only [Option.getD_some] at hv
      subst hv
      simp only [Option.map_some, Option.getD_some]
      exact @plainV_ren _ Tok.one ρ _ ha
  have hc := ho.1
  have e1 : (@rFr _ Tok.one ρ c.fr).mode = .returning := by simp only [rFr, h1, rMo]
  have e2 : (@rFr _ Tok.one ρ c.fr).defers = [] := by simp only [rFr, h2, List.map_nil]
  have e3 : (@rFr _ Tok.one ρ c.fr).kind = .normal := h3
  have e4 : (@rFr _ Tok.one ρ c.fr).fn = f := h7
  have hev := events_results_tmp (P := P) (w := w') hres (@rFr _ Tok.one ρ c.fr).tmps #[]
  have hrun := results_tmp hres (@rFr _ Tok.one ρ c.fr).tmps P w'
  rw [h.g, hc]
  simp only [stepG, G, List.map_nil, List.nil_append, e1, unwind, e2, e4, hfn, Sem.runT_eq, hrun, doReturn, e3, hv']
  rw [hev]
  simp [GStep.after, seen]
end
end Go.Proofs.Q
