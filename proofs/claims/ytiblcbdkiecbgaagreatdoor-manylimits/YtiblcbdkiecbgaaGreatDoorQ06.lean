import Derived.Test.YtiblcbdkiecbgaaGreatDoorQ05
import Derived.Conc.Listed
namespace Go.Proofs.Q
open Go Go.Conc
set_option linter.unusedVariables false
set_option linter.unusedSectionVars false
variable [Gds] [Tok]
section
variable {P : Program} {base : Nat} {fl : Fl} {ρ : Nat → Nat} {α β : Type} {R : α → β → Prop}
omit [Tok] in
structure FrOK (P : Program) (fr : Frame) : Prop where
  it : ∀ i, i ∈ fr.todo → okI P fr.roundOf.isNone i
  df : ∀ d, d ∈ fr.defers → okT d.target ∨ ∃ b, d.target = .collected b
  kd : fr.kind = .normal ∨ fr.kind = .deferred
omit [Tok] in
structure CfOK (P : Program) (fr : Frame) (cs : List Frame) : Prop where
  top : FrOK P fr
  rest : ∀ f, f ∈ cs → FrOK P f
  bot : Bot fr cs
def gsz : GStep → Nat
  | .go _ w _ | .comm _ _ _ _ w _ | .spawn _ _ w _ | .count _ w _ | .timer _ _ w _ | .alone _ _ w _ | .newcoro _ _ _ w _ | .coroswitch _ _ _ w _ | .collect _ w _ | .watch _ w _ | .ended _ w _ => w.heap.size
theorem gsz_after (es : Array Event) (x : GStep) : gsz (GStep.after es x) = gsz x := by cases x <;> rfl
def SO (P : Program) (base : Nat) (fl : Fl) (ρ : Nat → Nat) (ks cs' : List Frame) (w w' : World) (L : World → GStep) (C : GStep) : Prop :=
  (∃ (τ : Nat → Question → Nat) (d : Nat), ∀ τ', (∀ i, w.drawn ≤ i → i < d → τ' i = τ i) → ∃ o u, L (tpW w τ') = .ended o u #[]) ∨
  (∃ fr1 cs1 w1 w1' es, (∃ τ : Nat → Question → Nat, (∀ τ0, fl.tp = some τ0 → τ = τ0) ∧ w.drawn ≤ w1.drawn ∧ ∀ τ', (∀ i, w.drawn ≤ i → i < w1.drawn → τ' i = τ i) → L (tpW w τ') = .go (G fr1 (cs1 ++ ks)) (tpW w1 τ') #[]) ∧
    C = .go (G (rFr ρ fr1) (cs1.map (rFr ρ) ++ cs')) w1' es ∧ HR base fl ρ w1 w1' ∧ w.heap.size ≤ w1.heap.size ∧ Gu base fl ρ w w' w1' es ∧ CfOK P fr1 cs1) ∨
  fl.lim < gsz C
variable {ks cs' : List Frame} {w w' : World} {L : World → GStep} {C : GStep}
theorem SO.still {fr1 : Frame} {cs1 : List Frame} (hw : HR base fl ρ w w') (ok : CfOK P fr1 cs1) (hL : ∀ u, L u = .go (G fr1 (cs1 ++ ks)) u #[]) (hC : C = .go (G (rFr ρ fr1) (cs1.map (rFr ρ) ++ cs')) w' #[]) : SO P base fl ρ ks cs' w w' L C :=
  .inr <| .inl ⟨fr1, cs1, w, w', #[], ⟨fl.tp.getD w.tape, fun τ0 h => by rw [h]; rfl, Nat.le_refl _, fun τ' _ => hL _⟩, hC, hw, Nat.le_refl _, Gu.refl w w', ok⟩
theorem SO.dead (hL : ∀ u, ∃ o u', L u = .ended o u' #[]) : SO P base fl ρ ks cs' w w' L C := .inl ⟨w.tape, 0, fun τ' _ => hL _⟩
theorem Gu.sub {w1' : World} {es es0 : Array Event} (h : Gu base fl ρ w w' w1' es) (hs : ∀ e, e ∈ es0 → e ∈ es) : Gu base fl ρ w w' w1' es0 :=
  ⟨h.size, h.tape, h.out, h.fr, h.sh, fun hf e he => h.evs hf e (hs e he), h.nc, h.os, h.hid⟩
theorem SO.par' {s : Sem α} {s' : Sem β} (h : Par P base fl ρ R s s') (hw : HR base fl ρ w w') {es0 : Array Event}
    (hs : ∀ e, e ∈ es0 → e ∈ s'.events P w' #[]) (hO : (resW (s'.run P w')).heap.size ≤ gsz C)
    (hok : ∀ a b w1 w1', R a b → HR base fl ρ w1 w1' → s'.run P w' = .ok b w1' → ∃ L1 C1, (∀ u u1, s.run P u = .ok a u1 → L u = L1 u1) ∧ C = GStep.after es0 C1 ∧ SO P base fl ρ ks cs' w1 w1' L1 C1)
    (hpa : ∀ v w1 w1', HR base fl ρ w1 w1' → s'.run P w' = .halt (.panic (rV ρ v)) w1' → ∃ L1 C1, (∀ u u1, s.run P u = .halt (.panic v) u1 → L u = L1 u1) ∧ C = GStep.after es0 C1 ∧ SO P base fl ρ ks cs' w1 w1' L1 C1)
    (hd : ∀ hh u u1, deadH hh → s.run P u = .halt hh u1 → ∃ o u', L u = .ended o u' #[]) : SO P base fl ρ ks cs' w w' L C := by
  obtain ⟨r, h1, h2⟩ := h w w' hw
  obtain ⟨τ1, t1, d1, h1⟩ | ⟨u, rfl⟩ := h1
  case inr => exact .inr <| .inr (Nat.lt_of_lt_of_le h2 hO)
  have key : ∀ {w1 w1' : World} {L1 : World → GStep} {C1 : GStep}, w.drawn ≤ w1.drawn → (∀ τ', (∀ i, w.drawn ≤ i → i < w1.drawn → τ' i = τ1 i) → L (tpW w τ') = L1 (tpW w1 τ')) → w.heap.size ≤ w1.heap.size → Gu base fl ρ w w' w1' es0 → C = GStep.after es0 C1 → SO P base fl ρ ks cs' w1 w1' L1 C1 → SO P base fl ρ ks cs' w w' L C := by
    intro w1 w1' L1 C1 hd1 hl hsz hg hc hso
    rcases hso with ⟨τ2, d, h3⟩ | ⟨fr1, cs1, w2, w2', es, ⟨τ2, t2, d2, h3⟩, h4, h5, h6, h7, h8⟩ | h3
    · refine .inl ⟨fun i => if i < w1.drawn then τ1 i else τ2 i, max d w1.drawn, fun τ' ht => ?_⟩
      rw [hl τ' (fun i hi hj => by rw [ht i hi (by omega)]; simp only [if_pos hj])]
      exact h3 τ' (fun i hi hj => by rw [ht i (by omega) (by omega)]; simp only [if_neg (Nat.not_lt.2 hi)])
    · refine .inr <| .inl ⟨fr1, cs1, w2, w2', es0 ++ es, ⟨fun i => if i < w1.drawn then τ1 i else τ2 i, fun τ0 h => by funext i; rw [t1 τ0 h, t2 τ0 h]; split <;> rfl, by omega, fun τ' ht => ?_⟩, ?_, h5, by omega, hg.trans hw hsz h7, h8⟩
      · rw [hl τ' (fun i hi hj => by rw [ht i hi (by omega)]; simp only [if_pos hj])]
        exact h3 τ' (fun i hi hj => by rw [ht i (by omega) (by omega)]; simp only [if_neg (Nat.not_lt.2 hi)])
      · rw [hc, h4]; rfl
    · refine .inr <| .inr ?_
      rw [hc, gsz_after]
      exact h3
  cases r with
  | ok a w1 =>
    cases hc : s'.run P w' with
    | halt hh wc => rw [hc] at h2; exact absurd h2 id
    | ok b w1' =>
      rw [hc] at h2
      obtain ⟨hR, hH, hsz, hG⟩ := h2
      obtain ⟨L1, C1, q1, q2, q3⟩ := hok a b w1 w1' hR hH hc
      exact key (w1 := w1) d1 (fun τ' ht => q1 _ _ (h1 τ' ht)) hsz (hG.sub hs) q2 q3
  | halt hh w1 =>
    by_cases hp : ∃ v, hh = .panic v
    · obtain ⟨v, rfl⟩ := hp
      cases hc : s'.run P w' with
      | ok b wc => rw [hc] at h2; exact absurd h2 id
      | halt h' w1' =>
        rw [hc] at h2
        cases h' with
        | panic v' =>
          obtain ⟨rfl, hH, hsz, hG⟩ := h2
          obtain ⟨L1, C1, q1, q2, q3⟩ := hpa v w1 w1' hH hc
          exact key (w1 := w1) d1 (fun τ' ht => q1 _ _ (h1 τ' ht)) hsz (hG.sub hs) q2 q3
        | _ => exact absurd h2 id
    · by_cases hbl : hh = .blocked
      · subst hbl
        exact .inr <| .inr (Nat.lt_of_lt_of_le h2 hO)
      have hdh : deadH hh := by
        cases hh with
        | panic v => exact absurd ⟨v, rfl⟩ hp
        | blocked => exact absurd rfl hbl
        | _ => exact h2
      refine .inl ⟨τ1, w1.drawn, fun τ' ht => ?_⟩
      exact hd hh _ _ hdh (h1 τ' ht)
theorem SO.par {s : Sem α} {s' : Sem β} (h : Par P base fl ρ R s s') (hw : HR base fl ρ w w') {F : Result α → GStep} {F' : Result β → GStep} {es0 : Array Event}
    (hL : ∀ u, L u = F (s.run P u)) (hs : ∀ e, e ∈ es0 → e ∈ s'.events P w' #[]) (hC : C = GStep.after es0 (F' (s'.run P w')))
    (hok : ∀ a b w1 w1', R a b → HR base fl ρ w1 w1' → SO P base fl ρ ks cs' w1 w1' (fun u => F (.ok a u)) (F' (.ok b w1')))
    (hpa : ∀ v w1 w1', HR base fl ρ w1 w1' → SO P base fl ρ ks cs' w1 w1' (fun u => F (.halt (.panic v) u)) (F' (.halt (.panic (rV ρ v)) w1')))
    (hd : ∀ hh u, deadH hh → ∃ o u', F (.halt hh u) = .ended o u' #[]) (hO : ∀ r, (resW r).heap.size ≤ gsz (F' r)) : SO P base fl ρ ks cs' w w' L C :=
  SO.par' h hw hs (by rw [hC, gsz_after]; exact hO _) (fun a b w1 w1' hR hH hc => ⟨_, _, fun u u1 hu => by rw [hL, hu], by rw [hC, hc], hok a b w1 w1' hR hH⟩)
    (fun v w1 w1' hH hc => ⟨_, _, fun u u1 hu => by rw [hL, hu], by rw [hC, hc], hpa v w1 w1' hH⟩)
    (fun hh u u1 hdh hu => by rw [hL, hu]; exact hd hh u1 hdh)
theorem finish_ok {fr : Frame} (h : FrOK P fr) (v : Value) : FrOK P (fr.finish v) := by
  obtain ⟨fn, tmps, todo, defers, mode, kind, rd⟩ := fr
  obtain ⟨h1, h2, h3⟩ := h
  cases todo with
  | nil => exact ⟨h1, h2, h3⟩
  | cons i k =>
    have hk : ∀ i, i ∈ k → okI P rd.isNone i := fun j hj => h1 j (List.mem_cons_of_mem _ hj)
    have hi : okI P rd.isNone i := h1 i (List.mem_cons_self ..)
    cases i with
    | inRegion ops l =>
      cases l with
      | nil => exact ⟨h1, h2, h3⟩
      | cons i rest =>
        refine ⟨fun j hj => ?_, h2, h3⟩
        simp only [Frame.finish, List.mem_cons] at hj
        rcases hj with rfl | hj
        · exact hi
        · exact hk j hj
    | inRangeFunc l =>
      refine ⟨fun j hj => ?_, h2, h3⟩
      simp only [Frame.finish, List.mem_cons] at hj
      rcases hj with rfl | hj
      · trivial
      · exact hk j hj
    | beginRound => exact ⟨fun j hj => hk j hj, h2, h3⟩
    | call d w r s => exact hi.elim
    | extern r a => exact hi.elim
    | _ => exact ⟨h1, h2, h3⟩
theorem raise_ok {fr : Frame} (h : FrOK P fr) (vs : List PanicEntry) : FrOK P (fr.raise vs) := by
  obtain ⟨h1, h2, h3⟩ := h
  unfold Frame.raise
  split <;> exact ⟨h1, h2, h3⟩
theorem finish_kind (fr : Frame) (v : Value) : (fr.finish v).kind = fr.kind ∧ (fr.finish v).roundOf = fr.roundOf := by
  unfold Frame.finish
  split <;> exact ⟨rfl, rfl⟩
theorem raise_kind (fr : Frame) (v : List PanicEntry) : (fr.raise v).kind = fr.kind ∧ (fr.raise v).roundOf = fr.roundOf := by
  unfold Frame.raise
  split <;> exact ⟨rfl, rfl⟩
theorem Bot.same {fr fr1 : Frame} {cs : List Frame} (h : Bot fr cs) (hk : fr1.kind = fr.kind) (hr : fr1.roundOf = fr.roundOf) : Bot fr1 cs := by
  cases cs with
  | nil => exact ⟨hk.trans h.1, hr.trans h.2⟩
  | cons c cs => exact h
theorem CfOK.turn {fr fr1 : Frame} {cs : List Frame} (h : CfOK P fr cs) (h1 : FrOK P fr1) (hk : fr1.kind = fr.kind) (hr : fr1.roundOf = fr.roundOf) : CfOK P fr1 cs := ⟨h1, h.rest, h.bot.same hk hr⟩
theorem CfOK.fin {fr : Frame} {cs : List Frame} (h : CfOK P fr cs) (v : Value) : CfOK P (fr.finish v) cs := h.turn (finish_ok h.top v) (finish_kind fr v).1 (finish_kind fr v).2
theorem CfOK.rai {fr : Frame} {cs : List Frame} (h : CfOK P fr cs) (v : List PanicEntry) : CfOK P (fr.raise v) cs := h.turn (raise_ok h.top v) (raise_kind fr v).1 (raise_kind fr v).2
theorem CfOK.push {fr fr1 : Frame} {cs : List Frame} (h : CfOK P fr cs) (h1 : FrOK P fr1) : CfOK P fr1 (fr :: cs) := ⟨h1, fun f hf => by rcases List.mem_cons.1 hf with rfl | hf; exact h.top; exact h.rest f hf, h.bot⟩
theorem CfOK.pop {fr c : Frame} {cs : List Frame} (h : CfOK P fr (c :: cs)) : CfOK P c cs := ⟨h.rest c (List.mem_cons_self ..), fun f hf => h.rest f (List.mem_cons_of_mem _ hf), h.bot⟩
theorem enter_ok (hq : PQ P) {f : FuncId} (hf : Gds.gf f) (args : Array Value) {k : CallKind} (hk : k = .normal ∨ k = .deferred) : FrOK P (Frame.enter P f args k) := by
  refine ⟨fun i hi => ?_, fun d hd => (by cases hd), hk⟩
  simp only [Frame.enter, List.mem_cons, List.not_mem_nil, or_false] at hi
  subst hi
  show okC P true _
  cases h1 : P.funcs[f]? with
  | none => trivial
  | some fn =>
    cases h2 : fn.body with
    | none => simp [h2]; trivial
    | some b => simp only [Option.bind_some, h2, Option.getD_some]; exact hq.fc f fn b hf h1 h2
theorem round_ok (hq : PQ P) (l : Nat) (f : FuncId) (t : Array Value) {a b : Code} (ha : Gds.gc a) (hb : Gds.gc b) {k : CallKind} (hk : k = .normal ∨ k = .deferred) : FrOK P (Frame.round l f t a b k) := by
  refine ⟨fun i hi => ?_, fun d hd => (by cases hd), hk⟩
  simp only [Frame.round, List.mem_cons, List.not_mem_nil, or_false] at hi
  rcases hi with rfl | rfl | rfl
  · exact (hq.cc _).1 ha
  · trivial
  · exact (hq.cc _).1 hb
theorem round_ren (l : Nat) (f : FuncId) (t : Array Value) (a b : Code) (k : CallKind) : Frame.round (ρ l) f (t.map (rV ρ)) a b k = rFr ρ (Frame.round l f t a b k) := by
  simp [Frame.round, rFr, rI, rMo]
theorem tryRecover_ok : ∀ (cs : List Frame) (fr : Frame) (v : Value) (cs1 : List Frame), tryRecover fr cs = some (v, cs1) → (∀ f, f ∈ cs → FrOK P f) → (∀ f, f ∈ cs1 → FrOK P f) ∧ (Bot fr cs → Bot fr cs1)
  | [], fr, v, cs1, h, _ => by unfold tryRecover at h; cases hk : fr.kind <;> rw [hk] at h <;> cases h
  | c :: cs, fr, v, cs1, h, hc => by
    unfold tryRecover at h
    cases hk : fr.kind <;> rw [hk] at h <;> simp only at h <;> (try cases h)
    · split at h
      · cases h
        refine ⟨fun f hf => ?_, fun hb => ?_⟩
        · rcases List.mem_cons.1 hf with rfl | hf
          · obtain ⟨q1, q2, q3⟩ := hc c (List.mem_cons_self ..)
            exact ⟨q1, q2, q3⟩
          · exact hc f (List.mem_cons_of_mem _ hf)
        · have hb : Bot c cs := hb
          exact hb.same rfl rfl
      · cases h
    · cases h2 : tryRecover c cs with
      | none => rw [h2] at h; cases h
      | some x =>
        rw [h2] at h
        cases h
        have ih := tryRecover_ok cs c x.1 x.2 h2 (fun f hf => hc f (List.mem_cons_of_mem _ hf))
        refine ⟨fun f hf => ?_, fun hb => ih.2 hb⟩
        rcases List.mem_cons.1 hf with rfl | hf
        · exact hc _ (List.mem_cons_self ..)
        · exact ih.1 f hf
theorem tryRecoverLoop_ok : ∀ (cs : List Frame) (l : Nat) (v : Value) (cs1 : List Frame), tryRecoverLoop l cs = some (v, cs1) → (∀ f, f ∈ cs → FrOK P f) → (∀ f, f ∈ cs1 → FrOK P f) ∧ ∀ fr, Bot fr cs → Bot fr cs1
  | [], l, v, cs1, h, _ => by cases h
  | c :: cs, l, v, cs1, h, hc => by
    have hc2 : ∀ f, f ∈ cs → FrOK P f := fun f hf => hc f (List.mem_cons_of_mem _ hf)
    unfold tryRecoverLoop at h
    have key : ∀ x : Option (Value × List Frame), (∀ y, x = some y → (∀ f, f ∈ y.2 → FrOK P f) ∧ (Bot c cs → Bot c y.2)) → x.map (fun x => (x.1, c :: x.2)) = some (v, cs1) → (∀ f, f ∈ cs1 → FrOK P f) ∧ ∀ fr, Bot fr (c :: cs) → Bot fr cs1 := by
      intro x hx he
      cases x with
      | none => cases he
      | some y =>
        cases he
        have := hx y rfl
        refine ⟨fun f hf => ?_, fun fr hb => this.2 hb⟩
        rcases List.mem_cons.1 hf with rfl | hf
        · exact hc _ (List.mem_cons_self ..)
        · exact this.1 f hf
    refine key _ (fun y hy => ?_) h
    split at hy
    · have := tryRecoverLoop_ok cs _ y.1 y.2 hy hc2
      exact ⟨this.1, this.2 c⟩
    · split at hy
      · exact tryRecover_ok cs c y.1 y.2 hy hc2
      · have := tryRecoverLoop_ok cs _ y.1 y.2 hy hc2
        exact ⟨this.1, this.2 c⟩
    · have := tryRecoverLoop_ok cs _ y.1 y.2 hy hc2
      exact ⟨this.1, this.2 c⟩
end
end Go.Proofs.Q
namespace Go.Proofs.Q
open Go Go.Conc
set_option linter.unusedVariables false
set_option linter.unusedSectionVars false
set_option linter.unusedSimpArgs false
variable [Gds] [Tok]
section
variable {P : Program} {base : Nat} {fl : Fl} {ρ : Nat → Nat} {α β : Type} {R : α → β → Prop}
variable {ks cs' : List Frame} {w w' : World}
def apR (P : Program) (fr : Frame) (cs : List Frame) : Result Next → GStep
  | .ok a u1 => stepG.apply P true fr cs none (.pure a) u1
  | .halt h u1 => stepG.apply P true fr cs none (.halt h) u1
theorem apply_bare (fr : Frame) (cs : List Frame) (s : Sem Next) (u : World) : (stepG.apply P true fr cs none s u).bare = (apR P fr cs (s.run P u)).bare := by
  unfold stepG.apply
  simp only [Sem.runT_eq, if_true, GStep.bare_after]
  cases s.run P u <;> simp only [apR, stepG.apply, Sem.runT_eq, if_true, GStep.bare_after, Sem.run]
theorem apply_after (fr : Frame) (cs : List Frame) (s : Sem Next) (u : World) : ∃ es0 : Array Event, (∀ e, e ∈ es0 → e ∈ s.events P u #[]) ∧ stepG.apply P true fr cs none s u = GStep.after es0 (apR P fr cs (s.run P u)) := by
  have e0 : ∀ g : GStep, GStep.after #[] g = g := fun g => by cases g <;> simp [GStep.after]
  refine ⟨seen P fr.fn (if fr.kind == .early then #[] else match s.run P u with | .halt .blocked _ | .halt .waiting _ | .halt (.unsupported (.initOrder _)) _ => #[] | _ => s.events P u #[]), fun e he => ?_, ?_⟩
  · have := mem_seen he
    split at this
    · simp at this
    · split at this <;> first | exact this | (simp at this)
  · have hs : seen P fr.fn #[] = #[] := by simp [seen]
    have hz : ∀ b : Bool, (if b = true then (#[] : Array Event) else #[]) = #[] := fun b => by split <;> rfl
    unfold stepG.apply
    simp only [Sem.runT_eq, if_true]
    congr 1
    cases hr : s.run P u with
    | ok a u1 => simp only [apR, stepG.apply, Sem.runT_eq, if_true, Sem.run, Sem.events, Sem.runT, hz, hs, e0]
    | halt h u1 =>
      cases h with
      | unsupported x => cases x <;> simp only [apR, stepG.apply, Sem.runT_eq, if_true, Sem.run, Sem.events, Sem.runT, hz, hs, e0]
      | _ => simp only [apR, stepG.apply, Sem.runT_eq, if_true, Sem.run, Sem.events, Sem.runT, hz, hs, e0]
theorem kind_normal {fr : Frame} (h : FrOK P fr) : (match fr.todo with | .call _ true _ _ :: _ => CallKind.wrapped | _ => .normal) = .normal := by
  split
  · rename_i d r s k e
    have := h.it (.call d true r s) (by rw [e]; simp)
    exact this.elim
  · rfl
theorem kind_ren {fr : Frame} (h : FrOK P fr) : (match (rFr ρ fr).todo with | .call _ true _ _ :: _ => CallKind.wrapped | _ => .normal) = .normal := by
  have : (rFr ρ fr).todo = fr.todo.map (rI ρ) := rfl
  rw [this]
  cases h1 : fr.todo with
  | nil => rfl
  | cons i k =>
    have hi := h.it i (by rw [h1]; simp)
    cases i <;> first | exact hi.elim | rfl
theorem run_le {α : Type} {s : Sem α} {u : World} {r : Result α} (h : s.run P u = r) : u.heap.size ≤ (resW r).heap.size := h ▸ run_size P s u
theorem endFatal_size {f : Frame} {c : List Frame} {m : String} {u : World} : u.heap.size ≤ gsz (endFatal P f c none m u) := by
  unfold endFatal
  simp only
  split
  · rename_i x w q
    have := run_le q
    simpa [dieOf, gsz, resW] using this
  · rename_i x w q
    have := run_le q
    simpa [dieOf, gsz, resW] using this
  · rename_i x w q
    have := run_le q
    simpa [dieOf, gsz, resW] using this
theorem early_size {f : Frame} {c : List Frame} {x : Nat} {u : World} : u.heap.size ≤ gsz (early P f c none x u) := by
  have hrs := run_size P (choose (.early x)) u
  unfold early
  simp only
  repeat' split
  all_goals first
    | exact Nat.le_refl _
    | (simp [gsz]; done)
    | (have q := ‹Sem.run P (choose (.early x)) u = _›; rw [q] at hrs; simpa [resW, gsz] using hrs)
theorem apR_size {f : Frame} {c : List Frame} (r : Result Next) : (resW r).heap.size ≤ gsz (apR P f c r) := by
  cases r with
  | ok n u =>
    simp only [apR, stepG.apply, Sem.runT, if_true, gsz_after]
    cases n <;> (try simp only) <;> repeat' split
    all_goals first | exact Nat.le_refl _ | (simp [endThrow, dieOf, gsz, resW]; done)
  | halt hh u =>
    simp only [apR, stepG.apply, Sem.runT, if_true, gsz_after]
    cases hh with
    | fatal m => exact endFatal_size
    | throw m => exact Nat.le_refl _
    | unsupported x =>
      cases x with
      | initOrder g0 => exact early_size
      | _ => exact Nat.le_refl _
    | _ => exact Nat.le_refl _
theorem apply_so (hq : PQ P) {s s' : Sem Next} (h : PN P base fl ρ s s') (hw : HR base fl ρ w w') {fr : Frame} {cs : List Frame} (ok : CfOK P fr cs) (hks : NoRF ks) (hr : NoRF cs') :
    SO P base fl ρ ks cs' w w' (fun u => (stepG.apply P true fr (cs ++ ks) none s u).bare) (stepG.apply P true (rFr ρ fr) (cs.map (rFr ρ) ++ cs') none s' w') := by
  obtain ⟨es0, h1, h2⟩ := apply_after (P := P) (rFr ρ fr) (cs.map (rFr ρ) ++ cs') s' w'
  have hk := kind_normal ok.top
  have hk' := kind_ren (ρ := ρ) ok.top
  have hi := hw.inj
  refine SO.par (F := fun r => (apR P fr (cs ++ ks) r).bare) (F' := apR P (rFr ρ fr) (cs.map (rFr ρ) ++ cs')) h hw (apply_bare fr (cs ++ ks) s) h1 h2 ?_ ?_ ?_ (fun r => apR_size r)
  · rintro n _ w1 w1' ⟨rfl, hn⟩ hw1
    cases n with
    | value v =>
      refine SO.still hw1 (ok.fin v) (fun u => ?_) ?_
      · simp [apR, stepG.apply, Sem.runT, GStep.after, GStep.bare, G]
      · simp [apR, stepG.apply, Sem.runT, GStep.after, seen, rN, G, finish_ren]
    | skip =>
      refine SO.still hw1 (ok.fin undef) (fun u => ?_) ?_
      · simp [apR, stepG.apply, Sem.runT, GStep.after, GStep.bare, G]
      · have := finish_ren (ρ := ρ) fr undef
        rw [rV_undef] at this
        simp [apR, stepG.apply, Sem.runT, GStep.after, seen, rN, G, this]
    | enter f args =>
      refine SO.still hw1 (ok.push (enter_ok hq hn args (.inl rfl))) (fun u => ?_) ?_
      · simp [apR, stepG.apply, Sem.runT, GStep.after, GStep.bare, G]
        exact congrArg (Frame.enter P f args) hk
      · simp [apR, stepG.apply, Sem.runT, GStep.after, seen, rN, G]
        exact (congrArg (Frame.enter P f _) hk').trans (enter_ren f args .normal)
    | round l f t a b =>
      refine SO.still hw1 (ok.push (round_ok hq l f t hn.1 hn.2 (.inl rfl))) (fun u => ?_) ?_
      · simp [apR, stepG.apply, Sem.runT, GStep.after, GStep.bare, G]
      · simp [apR, stepG.apply, Sem.runT, GStep.after, seen, rN, G, Tok.chi_fix a hn.1, Tok.chi_fix b hn.2, round_ren]
    | defer d =>
      have ok2 : CfOK P { fr with defers := d :: fr.defers } cs := ok.turn ⟨ok.top.it, fun e he => by rcases List.mem_cons.1 he with rfl | he; exact .inl hn; exact ok.top.df e he, ok.top.kd⟩ rfl rfl
      refine SO.still hw1 (ok2.fin undef) (fun u => ?_) ?_
      · simp [apR, stepG.apply, Sem.runT, GStep.after, GStep.bare, G]
      · have := finish_ren (ρ := ρ) { fr with defers := d :: fr.defers } undef
        rw [rV_undef] at this
        simp only [apR, stepG.apply, Sem.runT, GStep.after, seen, rN, ← this]
        simp [G, rFr]
    | recover =>
      have e1 : (rFr ρ fr).roundOf = fr.roundOf.map ρ := rfl
      have hb : BotL cs ∨ cs = [] := by cases cs with | nil => exact .inr rfl | cons c cs => exact .inl ok.bot
      have hb' : BotL cs := by cases cs with | nil => trivial | cons c cs => exact ok.bot
      have t1 := tryRecover_ren (ρ := ρ) cs' cs fr ok.bot
      have t0 := tryRecover_app ks cs fr ok.bot
      have fn0 := finish_ren (ρ := ρ) fr .nilIface
      have e2 : rV ρ Value.nilIface = .nilIface := by simp [rV]
      rw [e2] at fn0
      have key : ∀ (x : Option (Value × List Frame)), (∀ y, x = some y → (∀ f, f ∈ y.2 → FrOK P f) ∧ Bot fr y.2) →
          SO P base fl ρ ks cs' w1 w1' (fun u => (match x.map fun x => (x.1, x.2 ++ ks) with
            | some (v, callers) => GStep.go { frame := fr.finish v, callers, status := .running, dying := none } u
            | none => GStep.go { frame := fr.finish .nilIface, callers := cs ++ ks, status := .running, dying := none } u))
            (match x.map fun x => (rV ρ x.1, x.2.map (rFr ρ) ++ cs') with
            | some (v, callers) => GStep.go { frame := (rFr ρ fr).finish v, callers, status := .running, dying := none } w1'
            | none => GStep.go { frame := (rFr ρ fr).finish .nilIface, callers := cs.map (rFr ρ) ++ cs', status := .running, dying := none } w1') := by
        intro x hx
        cases x with
        | none => exact SO.still hw1 (ok.fin .nilIface) (fun u => rfl) (by simp only [Option.map_none, fn0]; rfl)
        | some y =>
          have := hx y rfl
          have ok2 : CfOK P fr y.2 := ⟨ok.top, this.1, this.2⟩
          exact SO.still hw1 (ok2.fin y.1) (fun u => rfl) (by simp only [Option.map_some, finish_ren]; rfl)
      have ap : ∀ (f : Frame) (c : List Frame) (u : World) (x : Option (Value × List Frame)), (match f.roundOf with
               | some l => if P.follows .rangeFuncRecover then tryRecover f c else tryRecoverLoop l c
               | none => tryRecover f c) = x → stepG.apply P true f c none (.pure .recover) u = (match x with
            | some (v, callers) => GStep.go { frame := f.finish v, callers, status := .running, dying := none } u
            | none => GStep.go { frame := f.finish .nilIface, callers := c, status := .running, dying := none } u) := by
        intro f c u x hx
        simp only [stepG.apply, Sem.runT, if_true]
        subst hx
        have hs : ∀ b : Bool, seen P f.fn (if b = true then (#[] : Array Event) else #[]) = #[] := fun b => by cases b <;> simp [seen]
        have e0 : ∀ g : GStep, GStep.after #[] g = g := fun g => by cases g <;> simp [GStep.after]
        rw [hs, e0]
        rfl
      have bare2 : ∀ (x : Option (Value × List Frame)) (u : World), (match x with
            | some (v, callers) => GStep.go { frame := fr.finish v, callers, status := .running, dying := none } u
            | none => GStep.go { frame := fr.finish .nilIface, callers := cs ++ ks, status := .running, dying := none } u).bare = (match x with
            | some (v, callers) => GStep.go { frame := fr.finish v, callers, status := .running, dying := none } u
            | none => GStep.go { frame := fr.finish .nilIface, callers := cs ++ ks, status := .running, dying := none } u) := by
        intro x u
        rcases x with _ | ⟨v, c⟩ <;> rfl
      have go : ∀ x : Option (Value × List Frame), (match fr.roundOf with
               | some l => if P.follows .rangeFuncRecover then tryRecover fr (cs ++ ks) else tryRecoverLoop l (cs ++ ks)
               | none => tryRecover fr (cs ++ ks)) = (x.map fun x => (x.1, x.2 ++ ks)) → (match (rFr ρ fr).roundOf with
               | some l => if P.follows .rangeFuncRecover then tryRecover (rFr ρ fr) (cs.map (rFr ρ) ++ cs') else tryRecoverLoop l (cs.map (rFr ρ) ++ cs')
               | none => tryRecover (rFr ρ fr) (cs.map (rFr ρ) ++ cs')) = (x.map fun x => (rV ρ x.1, x.2.map (rFr ρ) ++ cs')) → (∀ y, x = some y → (∀ f, f ∈ y.2 → FrOK P f) ∧ Bot fr y.2) → SO P base fl ρ ks cs' w1 w1' (fun u => (apR P fr (cs ++ ks) (.ok .recover u)).bare) (apR P (rFr ρ fr) (cs.map (rFr ρ) ++ cs') (.ok (rN ρ .recover) w1')) := by
        intro x hx hx' hy
        have := key x hy
        simp only [apR, rN]
        rw [ap _ _ w1' _ hx']
        have hl : (fun u => (stepG.apply P true fr (cs ++ ks) none (Sem.pure Next.recover) u).bare) = _ := funext fun u => by rw [ap fr (cs ++ ks) u _ hx, bare2]
        rw [hl]
        exact this
      cases hro : fr.roundOf with
      | none =>
        refine go (tryRecover fr cs) (by rw [hro]; exact t0) (by rw [e1, hro]; exact t1) (fun y hy => ⟨(tryRecover_ok cs fr y.1 y.2 hy ok.rest).1, (tryRecover_ok cs fr y.1 y.2 hy ok.rest).2 ok.bot⟩)
      | some l =>
        by_cases hf : P.follows .rangeFuncRecover = true
        · refine go (tryRecover fr cs) (by rw [hro]; simp only [hf, if_true]; exact t0) (by rw [e1, hro]; simp only [Option.map_some, hf, if_true]; exact t1) (fun y hy => ⟨(tryRecover_ok cs fr y.1 y.2 hy ok.rest).1, (tryRecover_ok cs fr y.1 y.2 hy ok.rest).2 ok.bot⟩)
        · have t2 := tryRecoverLoop_ren (ρ := ρ) hi cs' hr cs l hb'
          exact go (tryRecoverLoop l cs) (by rw [hro]; simp only [hf, if_false, Bool.false_eq_true]; exact tryRecoverLoop_app ks hks cs l hb') (by rw [e1, hro]; simp only [Option.map_some, hf, if_false, Bool.false_eq_true]; exact t2) (fun y hy => ⟨(tryRecoverLoop_ok cs l y.1 y.2 hy ok.rest).1, (tryRecoverLoop_ok cs l y.1 y.2 hy ok.rest).2 fr ok.bot⟩)
    | _ => exact hn.elim
  · intro v w1 w1' hw1
    refine SO.still hw1 (ok.rai [{ v, recovered := false }]) (fun u => ?_) ?_
    · simp [apR, stepG.apply, Sem.runT, GStep.after, GStep.bare, G]
    · have := raise_ren (ρ := ρ) fr [{ v, recovered := false }]
      simp only [List.map_cons, List.map_nil, rP] at this
      simp [apR, stepG.apply, Sem.runT, GStep.after, seen, G, this]
  · intro hh u hd
    cases hh with
    | stuck s => exact ⟨_, _, rfl⟩
    | unsupported x => cases x <;> first | exact hd.elim | exact ⟨_, _, rfl⟩
    | _ => exact hd.elim
end
end Go.Proofs.Q
namespace Go.Proofs.Q
open Go Go.Conc
set_option linter.unusedVariables false
set_option linter.unusedSectionVars false
set_option linter.unusedSimpArgs false
variable [Gds] [Tok]
section
variable {P : Program} {base : Nat} {fl : Fl} {ρ : Nat → Nat} {α β : Type} {R : α → β → Prop}
variable {ks cs' : List Frame} {w w' : World}
theorem dropW_ren : ∀ l : List PanicEntry, (l.map (rP ρ)).dropWhile (!·.goexit) = (l.dropWhile (!·.goexit)).map (rP ρ)
  | [] => rfl
  | e :: l => by
    have h : (rP ρ e).goexit = e.goexit := rfl
    simp only [List.map_cons, List.dropWhile_cons, h]
    split
    · exact dropW_ren l
    · rfl
def backF (c : Frame) : Frame := match c.mode with
  | .panicking ({ recovered := true, .. } :: older) =>
    match older.dropWhile (!·.goexit) with
    | [] => { c with mode := .returning }
    | rest => { c with mode := .panicking rest }
  | _ => c
theorem backF_ren (c : Frame) : backF (rFr ρ c) = rFr ρ (backF c) := by
  obtain ⟨fn, tmps, todo, defers, mode, kind, rd⟩ := c
  cases mode with
  | run => rfl
  | returning => rfl
  | panicking l =>
    cases l with
    | nil => rfl
    | cons e l =>
      obtain ⟨v, r, g⟩ := e
      cases r with
      | false => rfl
      | true =>
        have := dropW_ren (ρ := ρ) l
        simp only [backF, rFr, rMo, List.map_cons, rP] at this ⊢
        have h2 : (l.map (rP ρ)).dropWhile (!·.goexit) = (l.dropWhile (!·.goexit)).map (rP ρ) := dropW_ren l
        rw [show (List.map (rP ρ) l) = l.map (rP ρ) from rfl, h2]
        cases h3 : l.dropWhile (!·.goexit) with
        | nil => rfl
        | cons e2 l2 => rfl
theorem backF_ok {c : Frame} (h : FrOK P c) : FrOK P (backF c) ∧ (backF c).kind = c.kind ∧ (backF c).roundOf = c.roundOf := by
  obtain ⟨h1, h2, h3⟩ := h
  unfold backF
  split
  · split <;> exact ⟨⟨h1, h2, h3⟩, rfl, rfl⟩
  · exact ⟨⟨h1, h2, h3⟩, rfl, rfl⟩
theorem doReturn_so (hw : HR base fl ρ w w') {fr c : Frame} {cs : List Frame} (ok : CfOK P fr (c :: cs)) (v : Value) :
    SO P base fl ρ ks cs' w w' (fun u => (doReturn P true fr ((c :: cs) ++ ks) none v u).bare) (doReturn P false (rFr ρ fr) ((c :: cs).map (rFr ρ) ++ cs') none (rV ρ v) w') := by
  have e1 : (rFr ρ fr).kind = fr.kind := rfl
  rcases ok.top.kd with hk | hk
  · refine SO.still hw (ok.pop.fin v) (fun u => ?_) ?_
    · simp only [doReturn, hk]; rfl
    · simp only [List.map_cons, List.cons_append, doReturn, e1, hk, finish_ren]; rfl
  · have h := backF_ok (ok.pop.top)
    refine SO.still hw (ok.pop.turn h.1 h.2.1 h.2.2) (fun u => ?_) ?_
    · simp only [doReturn, hk]; rfl
    · have := backF_ren (ρ := ρ) c
      simp only [List.map_cons, List.cons_append, doReturn, e1, hk]
      show GStep.go (G (backF (rFr ρ c)) _) w' _ = _
      rw [this]
theorem doReturn_size {main : Bool} {fr : Frame} {cs : List Frame} {v : Value} {u : World} : u.heap.size ≤ gsz (doReturn P main fr cs none v u) := by
  unfold doReturn
  repeat' split
  all_goals exact Nat.le_refl _
def leaveG (P : Program) (main : Bool) (fr : Frame) (cs : List Frame) (jump : Option Code) (w : World) : GStep :=
  match fr.roundOf with
  | none => if jump matches none | some .ret then .go (G { fr with mode := .returning } cs) w else .ended (.stuck "exit, goto: no such block or label" (fr.pos P)) w
  | some l =>
    let (r, es) := (Instr.endRound l jump).runT P w #[]
    GStep.after (seen P fr.fn es) <| match r with
    | .ok v w => doReturn P main fr cs none v w
    | .halt _ w => .ended (.stuck "range over a function: no such loop" (fr.pos P)) w
theorem Bot.round {fr : Frame} {cs : List Frame} (h : Bot fr cs) {l : Nat} (hr : fr.roundOf = some l) : ∃ c cs1, cs = c :: cs1 := by
  cases cs with
  | nil => rw [h.2] at hr; cases hr
  | cons c cs1 => exact ⟨c, cs1, rfl⟩
theorem leave_so (hq : PQ P) (hw : HR base fl ρ w w') {fr : Frame} {cs : List Frame} (ok : CfOK P fr cs) (hm : fr.mode = .run) {jump : Option Code} (hj : ∀ c, jump = some c → okC P false c) :
    SO P base fl ρ ks cs' w w' (fun u => (leaveG P true fr (cs ++ ks) jump u).bare) (leaveG P false (rFr ρ fr) (cs.map (rFr ρ) ++ cs') jump w') := by
  have e1 : (rFr ρ fr).roundOf = fr.roundOf.map ρ := rfl
  cases hr : fr.roundOf with
  | none =>
    have hgo : SO P base fl ρ ks cs' w w' (fun u => (GStep.go (G { fr with mode := .returning } (cs ++ ks)) u).bare) (.go (G { rFr ρ fr with mode := .returning } (cs.map (rFr ρ) ++ cs')) w') :=
      SO.still hw (ok.turn (fr1 := { fr with mode := .returning }) ⟨ok.top.it, ok.top.df, ok.top.kd⟩ rfl rfl) (fun u => rfl) rfl
    dsimp only at hgo
    rw [hr] at hgo
    have e2 : (rFr ρ fr).roundOf = none := by rw [e1, hr]; rfl
    rw [e2] at hgo
    simp only [leaveG, e2, hr]
    split
    · exact hgo
    · exact hgo
    · exact SO.dead fun u => ⟨_, _, rfl⟩
  | some l =>
    obtain ⟨c, cs1, rfl⟩ := ok.bot.round hr
    simp only [leaveG, e1, hr, Option.map_some, Sem.runT_eq, GStep.bare_after]
    refine SO.par (F := fun r => (match r with
      | .ok v w => doReturn P true fr ((c :: cs1) ++ ks) none v w
      | .halt _ w => .ended (.stuck "range over a function: no such loop" (fr.pos P)) w : GStep).bare) (F' := fun r => match r with
      | .ok v w => doReturn P false (rFr ρ fr) ((c :: cs1).map (rFr ρ) ++ cs') none v w
      | .halt _ w => .ended (.stuck "range over a function: no such loop" ((rFr ρ fr).pos P)) w) (endRound_par l jump fun x hx => (hq.cc x).2 (hj x hx)) hw (fun u => rfl) (fun e he => mem_seen he) rfl ?_ ?_ ?_ ?_
    · rintro v _ w1 w1' rfl hw1
      exact doReturn_so hw1 ok v
    · intro v w1 w1' hw1
      exact SO.dead fun u => ⟨_, _, rfl⟩
    · intro hh u hd
      exact ⟨_, _, rfl⟩
    · intro r
      cases r with
      | ok v u => exact doReturn_size
      | halt hh u => exact Nat.le_refl _
end
end Go.Proofs.Q
namespace Go.Proofs.Q
open Go Go.Conc
set_option linter.unusedVariables false
set_option linter.unusedSectionVars false
set_option linter.unusedSimpArgs false
variable [Gds] [Tok]
section
variable {P : Program} {base : Nat} {fl : Fl} {ρ : Nat → Nat} {α β : Type} {R : α → β → Prop}
variable {ks cs' : List Frame} {w w' : World}
theorem rFr_mk (fn : FuncId) (tmps : Array Value) (todo : List Item) (defers : List Deferred) (mode : FrameMode) (kind : CallKind) (rd : Option Nat) : rFr ρ ⟨fn, tmps, todo, defers, mode, kind, rd⟩ = ⟨fn, tmps.map (rV ρ), todo.map (rI ρ), defers.map (rD ρ), rMo ρ mode, kind, rd.map ρ⟩ := rfl
theorem good_eval {fr : Frame} (hg : ∀ (t : Nat) f a b, fr.tmps[t]? = some (.func f a b) → GoodFn f) {x : Operand} (hx : okX P x) {f : Fn} {a b : Array Value} (h : fr.eval x = .func f a b) : GoodFn f := by
  cases x with
  | tmp t =>
    simp only [Frame.eval, Array.getD_eq_getD_getElem?] at h
    cases ht : fr.tmps[t]? with
    | none => rw [ht] at h; simp [undef] at h
    | some v => rw [ht] at h; simp at h; subst h; exact hg t f a b ht
  | const v =>
    have h : v = .func f a b := h
    subst h
    simp [okX, plainV] at hx
  | global g => simp [Frame.eval] at h
  | func k => simp [Frame.eval] at h; obtain ⟨rfl, _⟩ := h; exact hx
theorem clean_eval {fr : Frame} (hg : ∀ (t : Nat) a l k, fr.tmps[t]? = some (.slice (some a) l k) → ¬ Hid fl base a.block) {x : Operand} (hx : okX P x) {a : Addr} {l k : Nat} (h : fr.eval x = .slice (some a) l k) : ¬ Hid fl base a.block := by
  cases x with
  | tmp t =>
    simp only [Frame.eval, Array.getD_eq_getD_getElem?] at h
    cases ht : fr.tmps[t]? with
    | none => rw [ht] at h; simp [undef] at h
    | some v => rw [ht] at h; simp at h; subst h; exact hg t a l k ht
  | const v =>
    have h : v = .slice (some a) l k := h
    subst h
    simp [okX, plainV] at hx
  | global g => simp [Frame.eval] at h
  | func k => simp [Frame.eval] at h
theorem oper_so (hp : PP P base fl ρ) (hq : PQ P) (hw : HR base fl ρ w w') {fr : Frame} {cs : List Frame} (ok : CfOK P fr cs) (hks : NoRF ks) (hr : NoRF cs') (hg : ∀ (t : Nat) f a b, fr.tmps[t]? = some (.func f a b) → GoodFn f) (hcl : ∀ (t : Nat) a l k, fr.tmps[t]? = some (.slice (some a) l k) → ¬ Hid fl base a.block) :
    SO P base fl ρ ks cs' w w' (fun u => (stepG.oper P true fr (cs ++ ks) none u).bare) (stepG.oper P true (rFr ρ fr) (cs.map (rFr ρ) ++ cs') none w') := by
  have e1 : (rFr ρ fr).oper? = fr.oper? := by
    unfold Frame.oper? rFr
    cases fr.todo with
    | nil => rfl
    | cons i k =>
      cases i with
      | inRegion ops l => cases l <;> rfl
      | _ => rfl
  cases ho : fr.oper? with
  | none =>
    refine SO.dead fun u => ?_
    simp only [stepG.oper, ho]
    exact ⟨_, _, rfl⟩
  | some o =>
    have hok : okOper P fr.roundOf.isNone o := by
      unfold Frame.oper? at ho
      cases ht : fr.todo with
      | nil => rw [ht] at ho; cases ho
      | cons i k =>
        rw [ht] at ho
        have hi := ok.top.it i (by rw [ht]; simp)
        cases i with
        | inRegion ops l =>
          cases l with
          | nil => cases ho
          | cons j l => exact hi o (Array.mem_of_getElem? ho)
        | _ => cases ho
    have hpn : PN P base fl ρ (execOp fr.eval o) (execOp (rFr ρ fr).eval o) := by
      rcases hok with hok | ⟨g, h1, h2, h3⟩
      · exact execOp_par hp hok.1 (ev := fr.eval) (ev' := (rFr ρ fr).eval) (fun x hx => eval_ren hp.z.low hw.fix fr (hok.2.1 x hx)) (fun x f a b he hx => good_eval hg (hok.2.1 x hx) he) (fun x a l k he hx => clean_eval hcl (hok.2.1 x hx) he)
      · exact execOp_hid hp h1 h2 h3 rfl
    have hnd0 : fr.roundOf.isNone = false → noDefer o.op := fun q => by
      rcases hok with hok | ⟨g, h1, h2, h3⟩
      · exact hok.2.2 q
      · rw [h1]; trivial
    have ha := apply_so hq hpn hw ok hks hr
    have e2 : (rFr ρ fr).roundOf = fr.roundOf.map ρ := rfl
    simp only [stepG.oper, e1, ho]
    cases hro : fr.roundOf with
    | none =>
      rw [e2, hro]
      exact ha
    | some l =>
      rw [e2, hro]
      have hnd := hnd0 (by rw [hro]; rfl)
      simp only [Option.map_some]
      revert ha hnd
      cases o.op <;> intro ha hnd <;> first | exact ha | exact hnd.elim
theorem cd_enter {f : Frame} {c : List Frame} {dd : Deferred} {u u1 : World} (hc : dd.target = .nil → ∀ ch, f.mode ≠ .panicking ch) {g : FuncId} {args : Array Value} (h : (invoke dd.target dd.args).run P u = .ok (.enter g args) u1) :
    callDeferred P f c none dd u = GStep.after (seen P f.fn ((invoke dd.target dd.args).events P u #[])) (.go (G (Frame.enter P g args .deferred) (f :: c)) u1) := by
  unfold callDeferred
  rw [if_neg (fun hx => by
    cases h1 : dd.target <;> simp [h1] at hx
    cases h2 : f.mode <;> simp [h2] at hx
    exact hc h1 _ h2)]
  simp only [Sem.runT_eq, h]
  rfl
theorem cd_round {f : Frame} {c : List Frame} {dd : Deferred} {u u1 : World} (hc : dd.target = .nil → ∀ ch, f.mode ≠ .panicking ch) {l : Nat} {g : FuncId} {t : Array Value} {a b : Code} (h : (invoke dd.target dd.args).run P u = .ok (.round l g t a b) u1) :
    callDeferred P f c none dd u = GStep.after (seen P f.fn ((invoke dd.target dd.args).events P u #[])) (.go (G (Frame.round l g t a b .deferred) (f :: c)) u1) := by
  unfold callDeferred
  rw [if_neg (fun hx => by
    cases h1 : dd.target <;> simp [h1] at hx
    cases h2 : f.mode <;> simp [h2] at hx
    exact hc h1 _ h2)]
  simp only [Sem.runT_eq, h]
  rfl
theorem cd_value {f : Frame} {c : List Frame} {dd : Deferred} {u u1 : World} (hc : dd.target = .nil → ∀ ch, f.mode ≠ .panicking ch) {v : Value} (h : (invoke dd.target dd.args).run P u = .ok (.value v) u1) :
    callDeferred P f c none dd u = GStep.after (seen P f.fn ((invoke dd.target dd.args).events P u #[])) (.go (G f c) u1) := by
  unfold callDeferred
  rw [if_neg (fun hx => by
    cases h1 : dd.target <;> simp [h1] at hx
    cases h2 : f.mode <;> simp [h2] at hx
    exact hc h1 _ h2)]
  simp only [Sem.runT_eq, h]
  rfl
theorem cd_skip {f : Frame} {c : List Frame} {dd : Deferred} {u u1 : World} (hc : dd.target = .nil → ∀ ch, f.mode ≠ .panicking ch)  (h : (invoke dd.target dd.args).run P u = .ok .skip u1) :
    callDeferred P f c none dd u = GStep.after (seen P f.fn ((invoke dd.target dd.args).events P u #[])) (.go (G f c) u1) := by
  unfold callDeferred
  rw [if_neg (fun hx => by
    cases h1 : dd.target <;> simp [h1] at hx
    cases h2 : f.mode <;> simp [h2] at hx
    exact hc h1 _ h2)]
  simp only [Sem.runT_eq, h]
  rfl
theorem cd_defer {f : Frame} {c : List Frame} {dd : Deferred} {u u1 : World} (hc : dd.target = .nil → ∀ ch, f.mode ≠ .panicking ch) {d : Deferred} (h : (invoke dd.target dd.args).run P u = .ok (.defer d) u1) :
    callDeferred P f c none dd u = GStep.after (seen P f.fn ((invoke dd.target dd.args).events P u #[])) (.go (G f c) u1) := by
  unfold callDeferred
  rw [if_neg (fun hx => by
    cases h1 : dd.target <;> simp [h1] at hx
    cases h2 : f.mode <;> simp [h2] at hx
    exact hc h1 _ h2)]
  simp only [Sem.runT_eq, h]
  rfl
theorem cd_recover {f : Frame} {c : List Frame} {dd : Deferred} {u u1 : World} (hc : dd.target = .nil → ∀ ch, f.mode ≠ .panicking ch)  (h : (invoke dd.target dd.args).run P u = .ok .recover u1) :
    callDeferred P f c none dd u = GStep.after (seen P f.fn ((invoke dd.target dd.args).events P u #[])) (match f.mode, tryRecover f c with | .returning, some (_, callers) => .go (G f callers) u1 | _, _ => .go (G f c) u1) := by
  unfold callDeferred
  rw [if_neg (fun hx => by
    cases h1 : dd.target <;> simp [h1] at hx
    cases h2 : f.mode <;> simp [h2] at hx
    exact hc h1 _ h2)]
  simp only [Sem.runT_eq, h]
  rfl
theorem cd_panic {f : Frame} {c : List Frame} {dd : Deferred} {u u1 : World} (hc : dd.target = .nil → ∀ ch, f.mode ≠ .panicking ch) {v : Value} (h : (invoke dd.target dd.args).run P u = .halt (.panic v) u1) :
    callDeferred P f c none dd u = GStep.after (seen P f.fn ((invoke dd.target dd.args).events P u #[])) (.go (G (f.raise [{ v, recovered := false }]) c) u1) := by
  unfold callDeferred
  rw [if_neg (fun hx => by
    cases h1 : dd.target <;> simp [h1] at hx
    cases h2 : f.mode <;> simp [h2] at hx
    exact hc h1 _ h2)]
  simp only [Sem.runT_eq, h]
  rfl
theorem cd_dead {f : Frame} {c : List Frame} {dd : Deferred} {u u1 : World} {hh : Halt} (hc : dd.target = .nil → ∀ ch, f.mode ≠ .panicking ch) (hd : deadH hh) (h : (invoke dd.target dd.args).run P u = .halt hh u1) : ∃ o u', (callDeferred P f c none dd u).bare = .ended o u' #[] := by
  unfold callDeferred
  rw [if_neg (fun hx => by
    cases h1 : dd.target <;> simp [h1] at hx
    cases h2 : f.mode <;> simp [h2] at hx
    exact hc h1 _ h2)]
  simp only [Sem.runT_eq, h, GStep.bare_after]
  cases hh with
  | stuck s => exact ⟨_, _, rfl⟩
  | unsupported x => exact ⟨_, _, rfl⟩
  | _ => exact hd.elim
theorem cd_size {f : Frame} {c : List Frame} {dd : Deferred} {u : World} (hc : dd.target = .nil → ∀ ch, f.mode ≠ .panicking ch) : (resW ((invoke dd.target dd.args).run P u)).heap.size ≤ gsz (callDeferred P f c none dd u) := by
  unfold callDeferred
  rw [if_neg (fun hx => by
    cases h1 : dd.target <;> simp [h1] at hx
    cases h2 : f.mode <;> simp [h2] at hx
    exact hc h1 _ h2)]
  simp only [Sem.runT_eq, gsz_after]
  cases hr : (invoke dd.target dd.args).run P u with
  | ok n u1 =>
    cases n with
    | coroswitch c0 e => cases e <;> exact Nat.le_refl _
    | alone on v => cases on <;> exact Nat.le_refl _
    | recover =>
      simp only
      split <;> exact Nat.le_refl _
    | _ => exact Nat.le_refl _
  | halt hh u1 =>
    cases hh with
    | fatal m => exact endFatal_size
    | _ => exact Nat.le_refl _
theorem call_so (hp : PP P base fl ρ) (hq : PQ P) (hw : HR base fl ρ w w') {fr : Frame} {cs : List Frame} (ok : CfOK P fr cs) {d : Deferred} (hd : okT d.target) :
    SO P base fl ρ ks cs' w w' (fun u => (callDeferred P fr (cs ++ ks) none d u).bare) (callDeferred P (rFr ρ fr) (cs.map (rFr ρ) ++ cs') none (rD ρ d) w') := by
  by_cases hnil : d.target = .nil ∧ ∃ ch, fr.mode = .panicking ch
  · refine SO.dead fun u => ?_
    obtain ⟨h1, ch, h2⟩ := hnil
    unfold callDeferred
    rw [if_pos (by simp [h1, h2])]
    exact ⟨_, _, rfl⟩
  have hc : d.target = .nil → ∀ ch, fr.mode ≠ .panicking ch := fun h1 ch h2 => hnil ⟨h1, ch, h2⟩
  have hc' : (rD ρ d).target = .nil → ∀ ch, (rFr ρ fr).mode ≠ .panicking ch := fun h1 ch h2 => by
    have h1' : d.target = .nil := by
      obtain ⟨t, a⟩ := d
      cases t <;> simp [rD, rT] at h1 ⊢
    cases h3 : fr.mode with
    | panicking c => exact hc h1' c h3
    | _ => simp [rFr, rMo, h3] at h2
  have t1 := tryRecover_ren (ρ := ρ) cs' cs fr ok.bot
  have t0 := tryRecover_app ks cs fr ok.bot
  have hi : PN P base fl ρ (invoke d.target d.args) (invoke (rD ρ d).target (rD ρ d).args) := invoke_par hp hd d.args
  refine SO.par' (es0 := seen P (rFr ρ fr).fn ((invoke (rD ρ d).target (rD ρ d).args).events P w' #[])) hi hw (fun e he => mem_seen he) (cd_size hc') ?_ ?_ (fun hh u u1 hdh hu => cd_dead hc hdh hu)
  · rintro n _ w1 w1' ⟨rfl, hn⟩ hw1 hrun
    cases n with
    | enter f args =>
      refine ⟨_, _, fun u u1 hu => by rw [cd_enter hc hu, GStep.bare_after]; rfl, cd_enter hc' hrun, SO.still hw1 (ok.push (enter_ok hq hn args (.inr rfl))) (fun u => rfl) ?_⟩
      rw [enter_ren]; rfl
    | round l f t a b =>
      refine ⟨_, _, fun u u1 hu => by rw [cd_round hc hu, GStep.bare_after]; rfl, cd_round hc' hrun, SO.still hw1 (ok.push (round_ok hq l f t hn.1 hn.2 (.inr rfl))) (fun u => rfl) ?_⟩
      rw [Tok.chi_fix a hn.1, Tok.chi_fix b hn.2, round_ren]; rfl
    | value v => exact ⟨_, _, fun u u1 hu => by rw [cd_value hc hu, GStep.bare_after]; rfl, cd_value hc' hrun, SO.still hw1 ok (fun u => rfl) rfl⟩
    | skip => exact ⟨_, _, fun u u1 hu => by rw [cd_skip hc hu, GStep.bare_after]; rfl, cd_skip hc' hrun, SO.still hw1 ok (fun u => rfl) rfl⟩
    | defer d => exact ⟨_, _, fun u u1 hu => by rw [cd_defer hc hu, GStep.bare_after]; rfl, cd_defer hc' hrun, SO.still hw1 ok (fun u => rfl) rfl⟩
    | recover =>
      refine ⟨_, _, fun u u1 hu => by rw [cd_recover hc hu, GStep.bare_after], cd_recover hc' hrun, ?_⟩
      have e1 : (rFr ρ fr).mode = rMo ρ fr.mode := rfl
      rw [t1, e1, t0]
      cases hm : fr.mode with
      | run => exact SO.still hw1 ok (fun u => rfl) rfl
      | panicking c => exact SO.still hw1 ok (fun u => rfl) rfl
      | returning =>
        cases hx : tryRecover fr cs with
        | none => exact SO.still hw1 ok (fun u => rfl) rfl
        | some y =>
          have := tryRecover_ok cs fr y.1 y.2 hx ok.rest
          have ok2 : CfOK P fr y.2 := ⟨ok.top, this.1, this.2 ok.bot⟩
          exact SO.still hw1 ok2 (fun u => rfl) rfl
    | _ => exact hn.elim
  · intro v w1 w1' hw1 hrun
    refine ⟨_, _, fun u u1 hu => by rw [cd_panic hc hu, GStep.bare_after]; rfl, cd_panic hc' hrun, SO.still hw1 (ok.rai [{ v, recovered := false }]) (fun u => rfl) ?_⟩
    have := raise_ren (ρ := ρ) fr [{ v, recovered := false }]
    simp only [List.map_cons, List.map_nil, rP] at this
    rw [this]
end
end Go.Proofs.Q
