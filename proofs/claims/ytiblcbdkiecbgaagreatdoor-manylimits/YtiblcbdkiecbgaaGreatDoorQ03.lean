import Derived.Test.YtiblcbdkiecbgaaGreatDoorQ02
namespace Go.Proofs.Q
open Go
set_option linter.unusedVariables false
set_option linter.unusedSectionVars false
variable [Gds] [Tok]
section
variable {P : Program} {base : Nat} {fl : Fl} {ρ : Nat → Nat} {α β γ δ : Type} {R : α → β → Prop} {R' : γ → δ → Prop}
theorem Par.look {s : Sem α} {s' : Sem β} {f : World → α} {f' : World → β} (h1 : ∀ u, s.run P u = .ok (f u) u) (h0 : ∀ (u : World) τ, f (tpW u τ) = f u) (h2 : ∀ u, s'.run P u = .ok (f' u) u) (h3 : ∀ u, s'.events P u #[] = #[])
    (hR : ∀ w w', HR base fl ρ w w' → R (f w) (f' w')) : Par P base fl ρ R s s' := fun w w' hw => by
  refine ⟨.ok (f w) w, Runs.still rfl fun τ => by rw [h1, h0]; rfl, ?_⟩
  rw [h2, h3]
  exact ⟨hR w w' hw, hw, Nat.le_refl _, Gu.refl _ _⟩
theorem HR.shape {w w' : World} (hw : HR base fl ρ w w') {r : Nat} (hh : ¬ Hid fl base r) : w'.shape? (ρ r) = w.shape? r := by
  by_cases hk : ∃ c e f, w.heap[r]? = some (.cells c e f)
  · obtain ⟨c, e, f, hk⟩ := hk
    obtain ⟨f', h1, _⟩ := hw.cells hk
    unfold World.shape?
    rw [hk, h1]
    simp
  · have hk1 : ∀ c e f, w.heap[r]? ≠ some (.cells c e f) := fun c e f q => hk ⟨c, e, f, q⟩
    have hk2 := hw.notCells hh hk1
    unfold World.shape?
    split
    · rename_i c e f q; exact absurd q (hk2 _ _ _)
    · first | rfl | (split; · rename_i c e f q; exact absurd q (hk1 _ _ _)
                     · rfl)
theorem HR.frozen {w w' : World} (hw : HR base fl ρ w w') {a : Addr} (hh : ¬ Hid fl base a.block) (h : w'.frozen? (rA ρ a) = true) : w.frozen? a = true := by
  by_cases hk : ∃ c e f, w.heap[a.block]? = some (.cells c e f)
  · obtain ⟨c, e, f, hk⟩ := hk
    obtain ⟨f', h1, h2, h3, h4⟩ := hw.cells hk
    unfold World.frozen? at h ⊢
    rw [show (rA ρ a).block = ρ a.block from rfl, show (rA ρ a).off = a.off from rfl, h1] at h
    rw [hk]
    simp only [Bool.and_eq_true, decide_eq_true_eq] at h ⊢
    by_cases hb : base ≤ a.block
    · rw [h2 hb] at h; exact h
    · cases hflb : fl.b with
      | false => rw [h4 hflb] at h; exact h
      | true => have := h3 (by omega) hflb; omega
  · have hk1 : ∀ c e f, w.heap[a.block]? ≠ some (.cells c e f) := fun c e f q => hk ⟨c, e, f, q⟩
    have hk2 := hw.notCells hh hk1
    rw [frozen_off (a := rA ρ a) hk2] at h
    cases h
def strF (u : World) (a : Addr) : Bool := u.frozen? a || match u.shape? a.block with
  | some (_, n) => u.frozen? { block := a.block, off := n }
  | none => false
theorem strF_run (a : Addr) (u : World) : (stringish a).run P u = .ok (strF u a) u ∧ (stringish a).events P u #[] = #[] := by
  unfold stringish strF
  constructor
  · cases h : u.frozen? a <;> cases h2 : u.shape? a.block <;> simp [Go.frozen, Go.shape, Sem.run, h, h2]
  · cases h : u.frozen? a <;> cases h2 : u.shape? a.block <;> simp [Go.frozen, Go.shape, Sem.events, Sem.runT, h, h2, -Sem.runT_eq, Bind.bind, Sem.bind, Pure.pure]
theorem HR.frozenE {w w' : World} (hw : HR base fl ρ w w') {a : Addr} (hh : ¬ Hid fl base a.block) (hb : fl.b = false) : w'.frozen? (rA ρ a) = w.frozen? a := by
  by_cases hk : ∃ c e f, w.heap[a.block]? = some (.cells c e f)
  · obtain ⟨c, e, f, hk⟩ := hk
    obtain ⟨f', h1, h2, h3, h4⟩ := hw.cells hk
    unfold World.frozen?
    rw [show (rA ρ a).block = ρ a.block from rfl, show (rA ρ a).off = a.off from rfl, h1, hk, h4 hb]
  · have hk1 : ∀ c e f, w.heap[a.block]? ≠ some (.cells c e f) := fun c e f q => hk ⟨c, e, f, q⟩
    have hk2 := hw.notCells hh hk1
    rw [frozen_off hk1, frozen_off (a := rA ρ a) hk2]
theorem HR.strF {w w' : World} (hw : HR base fl ρ w w') {a : Addr} (hh : ¬ Hid fl base a.block) (h : strF w' (rA ρ a) = true) : strF w a = true := by
  unfold Q.strF at h ⊢
  rw [show (rA ρ a).block = ρ a.block from rfl, hw.shape hh] at h
  simp only [Bool.or_eq_true] at h ⊢
  rcases h with h | h
  · exact .inl (hw.frozen hh h)
  · right
    cases hs : w.shape? a.block with
    | none => rw [hs] at h; cases h
    | some x => rw [hs] at h; exact hw.frozen (a := { block := a.block, off := x.2 }) hh h
def nilF (u : World) (a : Addr) : Bool := (u.shape? a.block) matches some (_, 0)
def mayF (u : World) (a b : Addr) : Bool := (strF u a && strF u b) || (strF u a && nilF u a) || (strF u b && nilF u b)
theorem mayF_run (a b : Addr) (u : World) : (mayBeOne a b).run P u = .ok (mayF u a b) u ∧ (mayBeOne a b).events P u #[] = #[] := by
  have h1 := strF_run (P := P) a u
  have h2 := strF_run (P := P) b u
  unfold mayBeOne mayF nilF
  constructor
  · simp [h1.1, h2.1, Go.shape, Sem.run]
    rfl
  · simp [h1.1, h2.1, h1.2, h2.2, Go.shape, Sem.run]
    rfl
theorem HR.mayF {w w' : World} (hw : HR base fl ρ w w') {a b : Addr} (ha : ¬ Hid fl base a.block) (hb : ¬ Hid fl base b.block) (h : mayF w' (rA ρ a) (rA ρ b) = true) : mayF w a b = true := by
  unfold Q.mayF at h ⊢
  have n1 : ∀ x : Addr, ¬ Hid fl base x.block → nilF w' (rA ρ x) = nilF w x := fun x hx => by unfold nilF; rw [show (rA ρ x).block = ρ x.block from rfl, hw.shape hx]
  rw [n1 a ha, n1 b hb] at h
  simp only [Bool.or_eq_true, Bool.and_eq_true] at h ⊢
  rcases h with (⟨h1, h2⟩ | ⟨h1, h2⟩) | ⟨h1, h2⟩
  · exact .inl (.inl ⟨hw.strF ha h1, hw.strF hb h2⟩)
  · exact .inl (.inr ⟨hw.strF ha h1, h2⟩)
  · exact .inr ⟨hw.strF hb h1, h2⟩
theorem HR.mayE {w w' : World} (hw : HR base fl ρ w w') {a b : Addr} (ha : ¬ Hid fl base a.block) (hb : ¬ Hid fl base b.block) (h : fl.b = false) : Q.mayF w' (rA ρ a) (rA ρ b) = Q.mayF w a b := by
  have n1 : ∀ x : Addr, ¬ Hid fl base x.block → nilF w' (rA ρ x) = nilF w x := fun x hx => by unfold nilF; rw [show (rA ρ x).block = ρ x.block from rfl, hw.shape hx]
  have n2 : ∀ x : Addr, ¬ Hid fl base x.block → Q.strF w' (rA ρ x) = Q.strF w x := fun x hx => by
    unfold Q.strF
    rw [show (rA ρ x).block = ρ x.block from rfl, hw.shape hx, hw.frozenE hx h]
    cases hs : w.shape? x.block with
    | none => rfl
    | some y => simp only; rw [← hw.frozenE (a := { block := x.block, off := y.2 }) hx h]; rfl
  unfold Q.mayF
  rw [n1 a ha, n1 b hb, n2 a ha, n2 b hb]
theorem mayBeOne_par {a b : Addr} (ha : ¬ Hid fl base a.block) (hb : ¬ Hid fl base b.block) : Par P base fl ρ (fun x y => (y = true → x = true) ∧ (fl.b = false → y = x)) (mayBeOne a b) (mayBeOne (rA ρ a) (rA ρ b)) :=
  Par.look (f := fun u => mayF u a b) (f' := fun u => mayF u (rA ρ a) (rA ρ b)) (fun u => (mayF_run a b u).1) (fun u τ => rfl) (fun u => (mayF_run _ _ u).1) (fun u => (mayF_run _ _ u).2) (fun w w' hw => ⟨fun h => hw.mayF ha hb h, fun h => hw.mayE ha hb h⟩)
theorem frozen_mono {a : Addr} (hh : ¬ Hid fl base a.block) : Par P base fl ρ (fun x y => y = true → x = true) (Go.frozen a) (Go.frozen (rA ρ a)) :=
  Par.look (f := fun u => u.frozen? a) (f' := fun u => u.frozen? (rA ρ a)) (fun u => rfl) (fun u τ => rfl) (fun u => rfl) (fun u => rfl) (fun w w' hw h => hw.frozen hh h)
theorem rA_beq (hi : ∀ a b, ρ a = ρ b → a = b) (a b : Addr) : (rA ρ a == rA ρ b) = (a == b) := by
  rw [Bool.eq_iff_iff]
  simp only [beq_iff_eq]
  constructor
  · intro h
    cases a; cases b
    simp only [rA, Addr.mk.injEq] at h ⊢
    exact ⟨hi _ _ h.1, h.2⟩
  · rintro rfl; rfl
theorem ρ_beq (hi : ∀ a b, ρ a = ρ b → a = b) (a b : Nat) : (ρ a == ρ b) = (a == b) := by
  rw [Bool.eq_iff_iff]
  simp only [beq_iff_eq]
  exact ⟨hi _ _, fun h => by rw [h]⟩
theorem apart_par {k : Bool → Sem α} {k' : Bool → Sem β} {a b : Addr} (ha : ¬ Hid fl base a.block) (hb : ¬ Hid fl base b.block) (h1 : ∀ x : Bool, Par P base fl ρ R (k x) (k' x)) :
    Par P base fl ρ R ((mayBeOne a b) >>= fun m => if m = true then (choose (.extern "sameAddr.stringBytes" 2)) >>= fun n => k (n == 1) else k false)
      ((mayBeOne (rA ρ a) (rA ρ b)) >>= fun m => if m = true then (choose (.extern "sameAddr.stringBytes" 2)) >>= fun n => k' (n == 1) else k' false) := by
  refine Par.bnd (mayBeOne_par ha hb) ?_
  rintro x y ⟨hxy, hxe⟩
  cases y with
  | true =>
    rw [hxy rfl]
    simp only [if_true]
    refine Par.bnd (Par.choose _) ?_
    rintro _ n rfl
    exact h1 _
  | false =>
    cases x with
    | false => exact h1 false
    | true =>
      simp only [if_true, Bool.false_eq_true, if_false]
      have hb1 : fl.b = true := by
        cases hq : fl.b with
        | true => rfl
        | false => have := hxe hq; cases this
      exact Par.choose_lone hb1 0 (h1 false)
def LDead (P : Program) (base : Nat) (fl : Fl) (ρ : Nat → Nat) {α : Type} (s : Sem α) : Prop := ∀ w, (∃ w', HR base fl ρ w w') → ∃ h, deadH h ∧ Runs P fl.tp s w (.halt h w)
theorem LDead.par {s : Sem α} {s' : Sem β} (h : LDead P base fl ρ s) : Par P base fl ρ R s s' := fun w w' hw => by
  obtain ⟨x, h1, h2⟩ := h w ⟨w', hw⟩
  exact ⟨_, h2, Out.dead h1 _ _⟩
theorem LDead.bnd {s : Sem α} {f : α → Sem γ} (h : LDead P base fl ρ s) : LDead P base fl ρ (s >>= f) := fun w hw => by
  obtain ⟨x, h1, h2⟩ := h w hw
  exact ⟨x, h1, h2.bind_halt⟩
theorem LDead.look {s : Sem α} {f : α → Sem γ} (h : ∀ w, (∃ a, Runs P fl.tp s w (.ok a w)) ∨ ∃ x, deadH x ∧ Runs P fl.tp s w (.halt x w)) (hf : ∀ a, LDead P base fl ρ (f a)) : LDead P base fl ρ (s >>= f) := fun w hw => by
  rcases h w with ⟨a, h1⟩ | ⟨x, h1, h2⟩
  · obtain ⟨x, h2, h3⟩ := hf a w hw
    exact ⟨x, h2, h1.bind h3⟩
  · exact ⟨x, h1, h2.bind_halt⟩
theorem noView_look {T : Option (Nat → Question → Nat)} (a : Addr) (w : World) : (∃ x, Runs P T (noView a) w (.ok x w)) ∨ ∃ x, deadH x ∧ Runs P T (noView a) w (.halt x w) := by
  cases ho : w.heap[a.block]? with
  | none =>
    refine .inr ⟨.stuck "getObj: no such block", trivial, Runs.still rfl fun τ => ?_⟩
    have h2 : (tpW w τ).shape? a.block = none := by simp [World.shape?, tpW, ho]
    have h3 : (tpW w τ).heap[a.block]? = none := ho
    simp [noView, viewAt, Bind.bind, Sem.bind, Pure.pure, Go.shape, Go.getObj, Sem.run, h2, h3, tpR]
  | some o =>
    by_cases hc : ∃ c e f, o = .cells c e f
    · obtain ⟨c, e, f, rfl⟩ := hc
      refine .inl ⟨(), Runs.still rfl fun τ => ?_⟩
      have := (viewAt_cells (P := P) (w := tpW w τ) ho).1
      show ((viewAt a.block).bind _).run P (tpW w τ) = _
      rw [Sem.run_bind', this]
      rfl
    · have h2 : ∀ τ, (tpW w τ).shape? a.block = none := fun τ => by
        unfold World.shape?
        split
        · rename_i c e f q
          have q : w.heap[a.block]? = _ := q
          rw [ho] at q; cases q; exact absurd ⟨_, _, _, rfl⟩ hc
        · rfl
      by_cases hv : ∃ b u, o = .view b u
      · obtain ⟨b, u, rfl⟩ := hv
        refine .inr ⟨.unsupported (.unsafePointer "memory seen as another type"), trivial, Runs.still rfl fun τ => ?_⟩
        have h3 : (tpW w τ).heap[a.block]? = some (.view b u) := ho
        simp [noView, viewAt, Bind.bind, Sem.bind, Pure.pure, Go.shape, Go.getObj, Sem.run, h2, h3, tpR]
      · refine .inl ⟨(), Runs.still rfl fun τ => ?_⟩
        have h3 : (tpW w τ).heap[a.block]? = some o := ho
        cases o <;> first
          | exact absurd ⟨_, _, _, rfl⟩ hc
          | exact absurd ⟨_, _, rfl⟩ hv
          | (simp [noView, viewAt, Bind.bind, Sem.bind, Pure.pure, Go.shape, Go.getObj, Sem.run, h2, h3, tpR]; done)
theorem noView_dead {a : Addr} (hh : Hid fl base a.block) : LDead P base fl ρ (noView a) := fun w ⟨w', hw⟩ => by
  obtain ⟨u, h1, _⟩ := hw.hid hh
  refine ⟨.unsupported (.unsafePointer "memory seen as another type"), trivial, Runs.still rfl fun τ => ?_⟩
  have := (viewAt_hid (P := P) (w := tpW w τ) h1).1
  show ((viewAt a.block).bind _).run P (tpW w τ) = _
  rw [Sem.run_bind', this]
  rfl
theorem frozen_look {T : Option (Nat → Question → Nat)} (a : Addr) (w : World) : (∃ x, Runs P T (Go.frozen a) w (.ok x w)) ∨ ∃ x, deadH x ∧ Runs P T (Go.frozen a) w (.halt x w) := .inl ⟨w.frozen? a, Runs.still rfl fun τ => rfl⟩
theorem LDead.uns {u : Unsupported} (hu : deadH (.unsupported u) := by trivial) : LDead P base fl ρ (unsupported u : Sem α) := fun w _ => ⟨_, hu, Runs.halt _ w⟩
theorem LDead.prog {f : Program → Sem α} (h : LDead P base fl ρ (f P)) : LDead P base fl ρ (Go.program >>= f) := fun w hw => by
  obtain ⟨x, h1, h2⟩ := h w hw
  exact ⟨x, h1, (Runs.still rfl fun τ => rfl : Runs P fl.tp Go.program w (.ok P w)).bind h2⟩
theorem LDead.shape {r : Nat} (hh : Hid fl base r) {f : Option (TypeId × Nat) → Sem α} (h : LDead P base fl ρ (f none)) : LDead P base fl ρ (Go.shape r >>= f) := fun w ⟨w', hw⟩ => by
  obtain ⟨u, q1, _⟩ := hw.hid hh
  obtain ⟨x, h1, h2⟩ := h w ⟨w', hw⟩
  exact ⟨x, h1, (Runs.still rfl fun τ => by simp [Go.shape, Sem.run, World.shape?, tpW, q1, tpR] : Runs P fl.tp (Go.shape r) w (.ok none w)).bind h2⟩
theorem LDead.stk {why : String} : LDead P base fl ρ (stuck why : Sem α) := fun w _ => ⟨.stuck why, trivial, Runs.halt _ w⟩
theorem sameAddr_dead {a b : Addr} (hab : Hid fl base a.block ∨ Hid fl base b.block) (k : Sem α) : LDead P base fl ρ (do
    if (← Go.frozen a) && (← Go.frozen b) then unsupported .addressObserved
    noView a
    noView b
    k) := by
  refine LDead.look (frozen_look a) fun x => LDead.look (frozen_look b) fun y => ?_
  cases x && y with
  | true => exact LDead.bnd LDead.uns
  | false =>
    rcases hab with h | h
    · exact (LDead.bnd (noView_dead h) : LDead P base fl ρ (noView a >>= fun _ => noView b >>= fun _ => k))
    · exact (LDead.look (noView_look a) fun _ => LDead.bnd (noView_dead h) : LDead P base fl ρ (noView a >>= fun _ => noView b >>= fun _ => k))
theorem sameAddr_par (a b : Addr) : PE P base fl ρ (sameAddr a b) (sameAddr (rA ρ a) (rA ρ b)) := Par.ren fun hi hf => by
  unfold sameAddr
  rw [show (rA ρ a).block = ρ a.block from rfl, show (rA ρ b).block = ρ b.block from rfl, ρ_beq hi, rA_beq hi]
  split
  · exact Par.pur rfl
  · by_cases hab : Hid fl base a.block ∨ Hid fl base b.block
    · exact (sameAddr_dead hab _).par
    have ha : ¬ Hid fl base a.block := fun h => hab (.inl h)
    have hb : ¬ Hid fl base b.block := fun h => hab (.inr h)
    refine Par.bnd (frozen_mono ha) ?_
    intro x y hxy
    refine Par.bnd (frozen_mono hb) ?_
    intro x2 y2 hxy2
    cases h : (x && x2) with
    | true => exact Par.uns
    | false =>
      have : (y && y2) = false := by
        cases y <;> cases y2 <;> simp_all
      rw [this]
      simp only [Bool.false_eq_true, if_false]
      refine Par.bnd (noView_par a) ?_
      rintro _ _ -
      refine Par.bnd (noView_par b) ?_
      rintro _ _ -
      exact apart_par ha hb (k := fun x => Pure.pure x) (k' := fun x => Pure.pure x) (fun x => Par.pur rfl)
theorem samePointer_par (a b : Option Addr) : PE P base fl ρ (samePointer a b) (samePointer (a.map (rA ρ)) (b.map (rA ρ))) := by
  cases a <;> cases b <;> first | exact sameAddr_par _ _ | exact Par.pur rfl
end
end Go.Proofs.Q
namespace Go.Proofs.Q
open Go
set_option linter.unusedVariables false
set_option linter.unusedSectionVars false
variable [Gds] [Tok]
section
variable {P : Program} {base : Nat} {fl : Fl} {ρ : Nat → Nat} {α β γ δ : Type} {R : α → β → Prop} {R' : γ → δ → Prop}
theorem forIn_list {ι σ : Type} {f f' : ι → σ → Sem (ForInStep σ)} : ∀ (l : List ι) (b : σ), (∀ x b, PE P base fl ρ (f x b) (f' x b)) → PE P base fl ρ (forIn l b f) (forIn l b f')
  | [], b, h => Par.pur rfl
  | x :: l, b, h => by
    rw [List.forIn_cons, List.forIn_cons]
    refine Par.bnd (h x b) ?_
    rintro _ s rfl
    cases s with
    | done b => exact Par.pur rfl
    | yield b => exact forIn_list l b h
theorem forIn_arr {ι σ : Type} {f f' : ι → σ → Sem (ForInStep σ)} (l : Array ι) (b : σ) (h : ∀ x b, PE P base fl ρ (f x b) (f' x b)) : PE P base fl ρ (forIn l b f) (forIn l b f') := by
  rw [← Array.forIn_toList, ← Array.forIn_toList]
  exact forIn_list _ _ h
theorem forIn_range {σ : Type} {f f' : Nat → σ → Sem (ForInStep σ)} (r : Std.Legacy.Range) (b : σ) (h : ∀ x b, PE P base fl ρ (f x b) (f' x b)) : PE P base fl ρ (forIn r b f) (forIn r b f') := by
  rw [Std.Legacy.Range.forIn_eq_forIn_range', Std.Legacy.Range.forIn_eq_forIn_range']
  exact forIn_list _ _ h
theorem opt_beq (hi : ∀ a b, ρ a = ρ b → a = b) (a b : Option Nat) : (a.map ρ == b.map ρ) = (a == b) := by
  cases a <;> cases b <;> simp [ρ_beq hi, Option.map]
theorem equalIn_par (hz : PZ P base) : ∀ (d : Nat) (t : TypeId) (x y : Value), PE P base fl ρ (Op.equalIn d t x y) (Op.equalIn d t (rV ρ x) (rV ρ y))
  | 0, t, x, y => Par.uns
  | d + 1, t, x, y => Par.renG hz fun hi hf => by
    unfold Op.equalIn
    refine Par.bnd (underlying_par t) ?_
    rintro _ u rfl
    split <;> (try exact Par.stk) <;> (try exact Par.uns) <;> simp only [rV, Option.map_none, Option.map_some] <;> (try exact Par.pur rfl) <;> (try exact Par.pur (by simp)) <;> (try (split <;> first | exact Par.pur rfl | exact Par.stk))
    case h_5 =>
      refine Par.bnd (behindNumber_par _) ?_
      rintro x _ rfl
      refine Par.bnd (behindNumber_par _) ?_
      rintro y _ rfl
      refine prog_par ?_
      have e1 : ((rA ρ x.1).block == (rA ρ y.1).block && decide ((rA ρ x.1).block < P.globals.size)) = (x.1.block == y.1.block && decide (x.1.block < P.globals.size)) := by
        rw [show (rA ρ x.1).block = ρ x.1.block from rfl, show (rA ρ y.1).block = ρ y.1.block from rfl, ρ_beq hi]
        have hl := hz.low
        congr 1
        rw [decide_eq_decide]
        exact hf _
      simp only [e1, rA_beq hi]
      split
      · refine Par.bnd (byteOf_par _) ?_
        rintro _ p rfl
        refine Par.bnd (byteOf_par _) ?_
        rintro _ q rfl
        exact Par.pur rfl
      · refine Par.bnd (typeInfo_par t) ?_
        rintro _ i rfl
        split
        · split
          · exact Par.pur rfl
          · exact Par.uns
        · exact Par.uns
    case h_12 =>
      rename_i e a h
      cases a with
      | none => exact absurd rfl h
      | some a => exact Par.pur rfl
    case h_13 =>
      refine Par.bnd (sizeOf_par _) ?_
      rintro _ n rfl
      split
      · exact sameAddr_par _ _
      · rw [rA_beq hi]
        split
        · exact Par.pur rfl
        · refine Par.bnd (Par.choose _) ?_
          rintro _ n rfl
          exact Par.pur rfl
    case h_14 => exact samePointer_par _ _
    case h_15 => exact Par.pur (opt_beq hi _ _)
    case h_19 =>
      split
      · exact Par.pur rfl
      · refine Par.bnd (typeInfo_par _) ?_
        rintro _ i rfl
        split
        · refine prog_par ?_
          refine prog_par ?_
          split
          · exact Par.bnd (R := fun _ _ => True) Par.uns (fun _ _ _ => Par.bnd (typeStr_par _) (by rintro _ s rfl; exact runtimePanic_par hz _))
          · refine Par.bnd (typeStr_par _) ?_
            rintro _ s rfl
            exact runtimePanic_par hz _
        · exact equalIn_par hz d _ _ _
    case h_20 =>
      rename_i fields xs ys
      have hloop : PE P base fl ρ (forIn (m := Sem) fields ((none, ()) : Option Bool × Unit) fun f __s =>
          if f.name ≠ "_" then do
            let a ← part f.type xs f.offset
            let b ← part f.type ys f.offset
            let c ← Op.equalIn d f.type a b
            if (!c) = true then pure (ForInStep.done (some false, ())) else pure (ForInStep.yield (none, ()))
          else pure (ForInStep.yield (none, ())))
          (forIn (m := Sem) fields ((none, ()) : Option Bool × Unit) fun f __s =>
          if f.name ≠ "_" then do
            let a ← part f.type (xs.map (rV ρ)) f.offset
            let b ← part f.type (ys.map (rV ρ)) f.offset
            let c ← Op.equalIn d f.type a b
            if (!c) = true then pure (ForInStep.done (some false, ())) else pure (ForInStep.yield (none, ()))
          else pure (ForInStep.yield (none, ()))) := by
        refine forIn_arr _ _ fun f b => ?_
        split
        · refine Par.bnd (part_par _ _ _) ?_
          rintro a _ rfl
          refine Par.bnd (part_par _ _ _) ?_
          rintro b _ rfl
          refine Par.bnd (equalIn_par hz d _ _ _) ?_
          rintro _ c rfl
          split <;> exact Par.pur rfl
        · exact Par.pur rfl
      refine prog_par ?_
      split
      · exact Par.bnd (R := fun _ _ => True) Par.uns (fun _ _ _ => Par.bnd hloop (by rintro _ s rfl; split <;> exact Par.pur rfl))
      · refine Par.bnd hloop ?_
        rintro _ s rfl
        split <;> exact Par.pur rfl
    case h_21 =>
      refine Par.bnd (sizeOf_par _) ?_
      rintro _ n rfl
      refine Par.bnd (R := fun a b => b = a) (forIn_range _ _ fun i b => ?_) ?_
      · refine Par.bnd (part_par _ _ _) ?_
        rintro a _ rfl
        refine Par.bnd (part_par _ _ _) ?_
        rintro b _ rfl
        refine Par.bnd (equalIn_par hz d _ _ _) ?_
        rintro _ c rfl
        split <;> exact Par.pur rfl
      · rintro _ s rfl
        split <;> exact Par.pur rfl
    case h_23 =>
      rename_i e a l c l2 c2 h
      cases a with
      | none => exact (h rfl).elim
      | some a => exact Par.pur rfl
    case h_25 =>
      rename_i e a r h
      cases r with
      | none => exact absurd rfl h
      | some a => exact Par.pur rfl
theorem equal_par (hz : PZ P base) (t : TypeId) (x y : Value) : PE P base fl ρ (Op.equal t x y) (Op.equal t (rV ρ x) (rV ρ y)) := equalIn_par hz _ t x y
end
end Go.Proofs.Q
namespace Go.Proofs.Q
open Go
set_option linter.unusedVariables false
set_option linter.unusedSectionVars false
variable [Gds] [Tok]
section
variable {P : Program} {base : Nat} {fl : Fl} {ρ : Nat → Nat} {α β γ δ : Type} {R : α → β → Prop} {R' : γ → δ → Prop}
theorem rV_nilIface {x : Value} (h : rV ρ x = .nilIface) : x = .nilIface := by cases x <;> simp [rV] at h ⊢
theorem rV_agg {x : Value} {ys : Array Value} (h : rV ρ x = .agg ys) : ∃ xs, x = .agg xs := by cases x <;> simp [rV] at h ⊢
theorem eqGuardIn_par : ∀ (d : Nat) (t : TypeId) (x y : Value), PE P base fl ρ (Op.eqGuardIn d t x y) (Op.eqGuardIn d t (rV ρ x) (rV ρ y))
  | 0, t, x, y => Par.uns
  | d + 1, t, x, y => by
    unfold Op.eqGuardIn
    refine Par.bnd (underlying_par t) ?_
    rintro _ u rfl
    split <;> simp only [rV] <;> (try exact Par.pur rfl)
    case h_2 =>
      refine Par.bnd (R := fun a b => b = a) (forIn_arr _ _ fun f b => ?_) ?_
      · split
        · refine Par.bnd (part_par _ _ _) ?_
          rintro a _ rfl
          refine Par.bnd (part_par _ _ _) ?_
          rintro b _ rfl
          refine Par.bnd (eqGuardIn_par d _ _ _) ?_
          rintro _ c rfl
          split <;> exact Par.pur rfl
        · exact Par.pur rfl
      · rintro _ s rfl
        split <;> exact Par.pur rfl
    case h_3 =>
      refine Par.bnd (sizeOf_par _) ?_
      rintro _ n rfl
      refine Par.bnd (R := fun a b => b = a) (forIn_range _ _ fun i b => ?_) ?_
      · refine Par.bnd (part_par _ _ _) ?_
        rintro a _ rfl
        refine Par.bnd (part_par _ _ _) ?_
        rintro b _ rfl
        refine Par.bnd (eqGuardIn_par d _ _ _) ?_
        rintro _ c rfl
        split <;> exact Par.pur rfl
      · rintro _ s rfl
        split <;> exact Par.pur rfl
    case h_4 =>
      rename_i h1 h2 h3
      split
      · rename_i q1 q2
        exact (h1 _ rfl (rV_nilIface q1) (rV_nilIface q2)).elim
      · rename_i q1 q2
        obtain ⟨_, q3⟩ := rV_agg q1
        obtain ⟨_, q4⟩ := rV_agg q2
        exact (h2 _ _ _ rfl q3 q4).elim
      · rename_i q1 q2
        obtain ⟨_, q3⟩ := rV_agg q1
        obtain ⟨_, q4⟩ := rV_agg q2
        exact (h3 _ _ _ _ rfl q3 q4).elim
      · exact Par.pur rfl
theorem int_par (hz : PZ P base) (op : BinOp) (k : IntKind) (a b : Int) : PV P base fl ρ (Op.intArith op k a b) (Op.intArith op k a b) ∧ PV P base fl ρ (Op.intDiv op k a b) (Op.intDiv op k a b) ∧ PV P base fl ρ (Op.intBits op k a b) (Op.intBits op k a b) ∧ PV P base fl ρ (Op.intCmp op a b) (Op.intCmp op a b) := by
  refine ⟨?_, ?_, ?_, ?_⟩
  · unfold Op.intArith; split <;> first | exact Par.pur (by simp [rV]) | exact Par.stk
  · unfold Op.intDiv
    split
    · exact runtimePanic_par hz _
    · split <;> first | exact Par.pur (by simp [rV]) | exact Par.stk
  · unfold Op.intBits; dsimp only; split <;> first | exact Par.pur (by simp [rV]) | exact Par.stk
  · unfold Op.intCmp; split <;> first | exact Par.pur (by simp [rV]) | exact Par.stk
theorem shift_par (hz : PZ P base) (op : BinOp) (k : IntKind) (a : Int) (k' : IntKind) (b : Int) : PV P base fl ρ (Op.shift op k a k' b) (Op.shift op k a k' b) := by
  unfold Op.shift
  split
  · exact runtimePanic_par hz _
  · dsimp only
    split <;> first | exact Par.pur (by simp [rV]) | exact Par.stk
theorem stringOp_par (op : BinOp) (a b : ByteArray) : PV P base fl ρ (Op.stringOp op a b) (Op.stringOp op a b) := by
  unfold Op.stringOp
  dsimp only
  split <;> (try split) <;> first | exact Par.pur (by simp [rV]) | exact Par.stk | exact Par.uns
theorem unary_par (hz : PZ P base) (op : UnOp) (x : Value) : PV P base fl ρ (Op.unary op x) (Op.unary op (rV ρ x)) := by
  unfold Op.unary
  split <;> (try simp only [rV, Option.map_some]) <;> first | exact (int_par hz _ _ _ _).1 | exact (int_par hz _ _ _ _).2.2.1 | exact Par.pur (by simp [rV]) | exact Par.uns | exact Par.stk
theorem floatArith_par (op : BinOp) (k : FloatKind) (a b : Nat) : PV P base fl ρ (Op.floatArith op k a b) (Op.floatArith op k a b) := by
  unfold Op.floatArith
  have hr : ∀ r : Option Nat, PV P base fl ρ (match r with | some r => pure (Value.float k r) | none => do pure (Value.float k (← choose (.nanBits k a b)))) (match r with | some r => pure (Value.float k r) | none => do pure (Value.float k (← choose (.nanBits k a b)))) := fun r => by
    cases r with
    | some r => exact Par.pur (by simp [rV])
    | none =>
      refine Par.bnd (Par.choose _) ?_
      rintro _ n rfl
      exact Par.pur (by simp [rV])
  dsimp only
  split <;> first | exact Par.bnd (R := fun x y => y = x) (Par.pur rfl) (by rintro _ r rfl; exact hr _) | exact Par.bnd (R := fun x y => y = x) Par.stk (by rintro _ r rfl; exact hr _)
theorem floatCmp_par (op : BinOp) (k : FloatKind) (a b : Nat) : PV P base fl ρ (Op.floatCmp op k a b) (Op.floatCmp op k a b) := by
  unfold Op.floatCmp
  dsimp only
  split <;> first | exact Par.pur (by simp [rV]) | exact Par.stk
theorem arith_par (op : BinOp) (k : FloatKind) (a b : Nat) : PE P base fl ρ (Op.Complex.arith op k a b) (Op.Complex.arith op k a b) := by
  unfold Op.Complex.arith
  refine Par.bnd (floatArith_par op k a b) ?_
  rintro v _ rfl
  cases v <;> simp only [rV] <;> first | exact Par.pur rfl | exact Par.stk
theorem cmp_par (op : BinOp) (k : FloatKind) (a b : Nat) : PE P base fl ρ (Op.Complex.cmp op k a b) (Op.Complex.cmp op k a b) := by
  unfold Op.Complex.cmp
  refine Par.bnd (floatCmp_par op k a b) ?_
  rintro v _ rfl
  exact asBool_par v
theorem floatToFloat_par (s : FloatKind) (b : Nat) (d : FloatKind) : PV P base fl ρ (Conv.floatToFloat s b d) (Conv.floatToFloat s b d) := by
  unfold Conv.floatToFloat
  split
  · exact Par.pur (by simp [rV])
  · split
    · exact Par.bnd (Par.choose _) (by rintro _ n rfl; exact Par.pur (by simp [rV]))
    · exact Par.pur (by simp [rV])
    · dsimp only
      split
      · exact Par.bnd (Par.choose _) (by rintro _ n rfl; exact Par.pur (by simp [rV]))
      · exact Par.pur (by simp [rV])
theorem conv_par (s : FloatKind) (b : Nat) (d : FloatKind) : PE P base fl ρ (Op.Complex.conv s b d) (Op.Complex.conv s b d) := by
  unfold Op.Complex.conv
  split
  · exact Par.pur rfl
  · refine Par.bnd (floatToFloat_par s b d) ?_
    rintro v _ rfl
    cases v <;> simp only [rV] <;> first | exact Par.pur rfl | exact Par.stk
theorem PE.then {s : Sem α} {f : α → Sem γ} {f' : α → Sem δ} (h : PE P base fl ρ s s) (hf : ∀ a, Par P base fl ρ R' (f a) (f' a)) : Par P base fl ρ R' (s >>= f) (s >>= f') := Par.bnd h (by rintro _ a rfl; exact hf a)
theorem PE.pur (a : α) : PE P base fl ρ (Pure.pure a : Sem α) (Pure.pure a) := Par.pur rfl
theorem PE.ite {c : Prop} [Decidable c] {s t : Sem α} (h1 : PE P base fl ρ s s) (h2 : PE P base fl ρ t t) : PE P base fl ρ (if c then s else t) (if c then s else t) := by
  split
  · exact h1
  · exact h2
theorem product_par (a b c d : Nat) : PE P base fl ρ (Op.Complex.product a b c d) (Op.Complex.product a b c d) := by
  unfold Op.Complex.product Op.Complex.sub Op.Complex.mul Op.Complex.add
  repeat (refine PE.then (arith_par _ _ _ _) fun _ => ?_)
  exact Par.pur rfl
theorem corrected_par (s a b c d : Nat) : PE P base fl ρ (Op.Complex.corrected s a b c d) (Op.Complex.corrected s a b c d) := by
  unfold Op.Complex.corrected Op.Complex.sub Op.Complex.mul Op.Complex.add
  repeat (refine PE.then (arith_par _ _ _ _) fun _ => ?_)
  exact Par.pur rfl
theorem quotient_par (a b c d : Nat) : PE P base fl ρ (Op.Complex.quotient a b c d) (Op.Complex.quotient a b c d) := by
  unfold Op.Complex.quotient Op.Complex.sub Op.Complex.mul Op.Complex.add Op.Complex.quo
  refine PE.then (cmp_par _ _ _ _) fun t => ?_
  cases t <;> simp only [Bool.false_eq_true, if_false, if_true]
  all_goals
    iterate 9 (refine PE.then (arith_par _ _ _ _) fun _ => ?_)
    refine PE.then (PE.pur _) fun x => ?_
    obtain ⟨e, f⟩ := x
    dsimp only
    iterate 2 (refine PE.then (cmp_par _ _ _ _) fun _ => ?_)
    refine PE.ite (PE.pur _) (PE.ite ?_ (PE.ite (corrected_par _ _ _ _ _) (PE.ite (corrected_par _ _ _ _ _) (PE.pur _))))
    iterate 2 (refine PE.then (arith_par _ _ _ _) fun _ => ?_)
    exact PE.pur _
theorem complexOp_par (op : BinOp) (k : FloatKind) (a b c d : Nat) : PV P base fl ρ (Op.complexOp op k a b c d) (Op.complexOp op k a b c d) := by
  unfold Op.complexOp
  split
  all_goals (first
    | exact Par.stk
    | (iterate 2 (refine PE.then (arith_par _ _ _ _) fun _ => ?_)
       exact Par.pur (by simp [rV]))
    | (iterate 2 (refine PE.then (cmp_par _ _ _ _) fun _ => ?_)
       exact Par.pur (by simp [rV]))
    | (iterate 4 (refine PE.then (conv_par _ _ _) fun _ => ?_)
       dsimp only
       split
       · refine PE.then (product_par _ _ _ _) fun x => ?_
         iterate 2 (refine PE.then (conv_par _ _ _) fun _ => ?_)
         exact Par.pur (by simp [rV])
       · refine PE.then (quotient_par _ _ _ _) fun x => ?_
         iterate 2 (refine PE.then (conv_par _ _ _) fun _ => ?_)
         exact Par.pur (by simp [rV])))
theorem twoPlaces_par (hz : PZ P base) (a b : Addr) : PE P base fl ρ (Op.twoPlaces a b) (Op.twoPlaces (rA ρ a) (rA ρ b)) := Par.renG hz fun hi hf => by
  unfold Op.twoPlaces
  refine prog_par ?_
  have hl := hz.low
  have e1 : ((rA ρ a).block != (rA ρ b).block || decide ((rA ρ a).block ≥ P.globals.size)) = (a.block != b.block || decide (a.block ≥ P.globals.size)) := by
    rw [show (rA ρ a).block = ρ a.block from rfl, show (rA ρ b).block = ρ b.block from rfl]
    have : (ρ a.block != ρ b.block) = (a.block != b.block) := by rw [bne, bne, ρ_beq hi]
    rw [this]
    congr 1
    rw [decide_eq_decide]
    have := hf a.block
    omega
  simp only [e1]
  split
  · exact Par.bnd (R := fun _ _ => True) Par.uns (fun _ _ _ => Par.bnd (byteOf_par a) (by rintro _ x rfl; exact Par.bnd (byteOf_par b) (by rintro _ y rfl; exact Par.pur rfl)))
  · exact Par.bnd (byteOf_par a) (by rintro _ x rfl; exact Par.bnd (byteOf_par b) (by rintro _ y rfl; exact Par.pur rfl))
theorem asNumber_par (a : Addr) (l : Bool) : PV P base fl ρ (asNumber a l) (asNumber (rA ρ a) l) := by
  unfold asNumber
  refine Par.bnd (Par.newObj (.number a l)) ?_
  rintro r _ ⟨rfl, -⟩
  exact Par.pur (by simp [rV, rA])
theorem unsafeAdd_par (ts : Array TypeId) (t : TypeId) (x y : Value) : PV P base fl ρ (Builtin.unsafeAdd_ ts t #[x, y]) (Builtin.unsafeAdd_ ts t #[rV ρ x, rV ρ y]) := by
  cases x with
  | pointer p =>
    simp only [rV]
    refine (Par.bind (asInt_par y) ?_ : Par P base fl ρ _ (Sem.bind (asInt y) _) (Sem.bind (asInt (rV ρ y)) _))
    rintro _ n rfl
    dsimp only
    cases p with
    | none =>
      split
      · exact Par.uns
      · split
        · exact Par.uns
        · exact Par.uns
    | some a =>
      simp only [Option.map_some]
      split
      · refine Par.bnd (viewAt_par a.block) ?_
        rintro v _ (⟨rfl, -⟩ | ⟨_, _, rfl, rfl⟩)
        · cases v with
          | none => exact Par.pur (by simp [rV])
          | some v => exact Par.uns
        · exact Par.uns
      · split
        · exact Par.uns
        · by_cases hh : Hid fl base a.block
          · refine Par.bnd (Par.shape_hid hh) ?_
            rintro _ s ⟨rfl, -⟩
            exact Par.uns
          refine Par.bnd (Par.shape hh) ?_
          rintro _ s rfl
          split
          · refine prog_par ?_
            rw [show (rA ρ a).off = a.off from rfl]
            split
            · exact Par.pur (by simp [rV, rA])
            · exact Par.uns
          · exact Par.uns
  | _ => exact Par.stk
end
end Go.Proofs.Q
namespace Go.Proofs.Q
open Go
set_option linter.unusedVariables false
set_option linter.unusedSectionVars false
variable [Gds] [Tok]
section
variable {P : Program} {base : Nat} {fl : Fl} {ρ : Nat → Nat} {α β γ δ : Type} {R : α → β → Prop} {R' : γ → δ → Prop}
theorem Par.ite {c : Prop} [Decidable c] {s t : Sem α} {s' t' : Sem β} (h1 : c → Par P base fl ρ R s s') (h2 : ¬ c → Par P base fl ρ R t t') : Par P base fl ρ R (if c then s else t) (if c then s' else t') := by
  by_cases h : c
  · rw [if_pos h, if_pos h]; exact h1 h
  · rw [if_neg h, if_neg h]; exact h2 h
theorem movedNumber_par (t : TypeId) (x y : Value) : PV P base fl ρ (movedNumber t x y) (movedNumber t (rV ρ x) (rV ρ y)) := by
  unfold movedNumber
  refine Par.bnd (underlying_par t) ?_
  rintro _ u rfl
  dsimp only
  refine Par.ite (fun _ => Par.uns) (fun _ => ?_)
  · cases x with
    | pointer p =>
      cases p with
      | none =>
        have := unsafeAdd_par (P := P) (base := base) (fl := fl) (ρ := ρ) #[] t (.pointer none) y
        simpa only [rV, Option.map_none] using this
      | some n =>
        simp only [rV, Option.map_some]
        refine Par.bnd (behindNumber_par n) ?_
        rintro x _ rfl
        obtain ⟨a, l⟩ := x
        have := unsafeAdd_par (P := P) (base := base) (fl := fl) (ρ := ρ) #[] t (.pointer (some a)) y
        simp only [rV, Option.map_some] at this
        refine Par.bnd this ?_
        rintro v _ rfl
        cases v with
        | pointer p => cases p <;> simp only [rV, Option.map_some, Option.map_none] <;> first | exact asNumber_par _ _ | exact Par.pur (by simp [rV])
        | _ => simp only [rV]; exact Par.pur (by simp [rV])
    | _ => first | exact Par.stk | (simp only [rV]; exact Par.stk)
theorem movedPointer_par (t : TypeId) (x y : Value) : PV P base fl ρ (movedPointer t x y) (movedPointer t (rV ρ x) (rV ρ y)) := by
  unfold movedPointer
  have hu := unsafeAdd_par (P := P) (base := base) (fl := fl) (ρ := ρ) #[] t x y
  cases x with
  | pointer p =>
    cases p with
    | none => simpa only [rV, Option.map_none] using hu
    | some a =>
      simp only [rV, Option.map_some] at hu ⊢
      refine Par.bnd (numberAt_par a.block) ?_
      rintro v _ rfl
      cases v with
      | none => exact hu
      | some v => exact Par.uns
  | _ => simp only [rV] at hu ⊢; exact hu
theorem eqGuard_par (op : BinOp) (t : TypeId) (x y : Operand) (a b : Value) : Par P base fl ρ (fun _ _ => True) (eqGuard op t x y a b) (eqGuard op t x y (rV ρ a) (rV ρ b)) := by
  unfold eqGuard
  refine Par.ite (fun _ => Par.pur trivial) (fun _ => ?_)
  · split
    · simp only [rV]
      refine Par.ite (fun _ => Par.pur trivial) (fun _ => ?_)
      · refine Par.bnd (R := fun a b => b = a) ?_ ?_
        · have := eqGuardIn_par (P := P) (base := base) (fl := fl) (ρ := ρ) Op.maxDepth t .nilIface .nilIface
          simpa only [rV] using this
        · rintro _ c rfl
          split
          · exact Par.uns
          · exact Par.pur trivial
    · rename_i xs ys
      simp only [rV]
      refine prog_par ?_
      refine prog_par ?_
      refine Par.ite (fun _ => Par.pur trivial) (fun _ => ?_)
      · refine Par.bnd (R := fun a b => b = a) ?_ ?_
        · have := eqGuardIn_par (P := P) (base := base) (fl := fl) (ρ := ρ) Op.maxDepth t (.agg xs) (.agg ys)
          simpa only [rV] using this
        · rintro _ c rfl
          split
          · exact Par.uns
          · exact Par.pur trivial
    · rename_i h1 h2
      split
      · rename_i q1 q2
        exact (h1 (rV_nilIface q1) (rV_nilIface q2)).elim
      · rename_i q1 q2
        obtain ⟨_, q3⟩ := rV_agg q1
        obtain ⟨_, q4⟩ := rV_agg q2
        exact (h2 _ _ q3 q4).elim
      · exact Par.pur trivial
theorem addrs_par (hz : PZ P base) (k : IntKind) (op : BinOp) (a b : Addr) : PV P base fl ρ (Op.addrSub k a b) (Op.addrSub k (rA ρ a) (rA ρ b)) ∧ PV P base fl ρ (Op.addrCmp op a b) (Op.addrCmp op (rA ρ a) (rA ρ b)) := by
  constructor
  · unfold Op.addrSub
    refine Par.bnd (twoPlaces_par hz a b) ?_
    rintro _ x rfl
    exact Par.pur (by simp [rV])
  · unfold Op.addrCmp
    refine Par.bnd (twoPlaces_par hz a b) ?_
    rintro _ x rfl
    split
    rename_i p q
    split <;> first | exact Par.pur (by simp [rV]) | exact Par.uns
theorem addrMod_par (k : IntKind) (a : Addr) (n : Int) : PV P base fl ρ (Op.addrMod k a n) (Op.addrMod k (rA ρ a) n) := by
  unfold Op.addrMod
  by_cases hh : Hid fl base a.block
  · refine Par.bnd (Par.shape_hid hh) ?_
    rintro _ s ⟨rfl, -⟩
    exact Par.uns
  refine Par.bnd (Par.shape hh) ?_
  rintro _ s rfl
  split
  · refine Par.bnd (typeInfo_par _) ?_
    rintro _ i rfl
    dsimp only
    split
    · exact Par.uns
    · refine Par.bnd (byteOf_par a) ?_
      rintro _ x rfl
      exact Par.pur (by simp [rV])
  · exact Par.uns
theorem eqB_par (hz : PZ P base) (t : TypeId) (x y : Value) (n : Bool) : PV P base fl ρ (do pure (.bool (n ^^ (← Op.equal t x y)))) (do pure (.bool (n ^^ (← Op.equal t (rV ρ x) (rV ρ y))))) := by
  refine Par.bnd (equal_par hz t x y) ?_
  rintro _ c rfl
  exact Par.pur (by simp [rV])
theorem binOp_par (hz : PZ P base) (op : BinOp) (t : TypeId) (x y : Value) : PV P base fl ρ (binOp op t x y) (binOp op t (rV ρ x) (rV ρ y)) := by
  unfold binOp
  split
  case h_1 => simp only [rV]; exact shift_par hz _ _ _ _ _
  case h_2 => simp only [rV]; exact shift_par hz _ _ _ _ _
  case h_3 =>
    rename_i k a k' b h1 h2
    simp only [rV]
    cases op <;> first
      | exact (h1 rfl).elim
      | exact (h2 rfl).elim
      | (refine Par.ite (fun _ => Par.stk) (fun _ => ?_)
         first | exact (int_par hz _ _ _ _).1 | exact (int_par hz _ _ _ _).2.1 | exact (int_par hz _ _ _ _).2.2.1 | exact (int_par hz _ k _ _).2.2.2)
  case h_4 =>
    simp only [rV]
    cases op <;> (refine Par.ite (fun _ => Par.stk) (fun _ => ?_); first | exact floatArith_par _ _ _ _ | exact floatCmp_par _ _ _ _)
  case h_5 =>
    simp only [rV]
    cases op <;> exact Par.ite (fun _ => Par.stk) (fun _ => complexOp_par _ _ _ _ _ _)
  case h_6 =>
    simp only [rV]
    cases op <;> exact stringOp_par _ _ _
  case h_7 =>
    rename_i h1 h2 h3 h4
    have he : PV P base fl ρ (do pure (.bool (← Op.equal t x y))) (do pure (.bool (← Op.equal t (rV ρ x) (rV ρ y)))) := Par.bnd (equal_par hz t x y) (by rintro _ c rfl; exact Par.pur (by simp [rV]))
    cases x <;> cases y <;> first
      | exact (h1 _ _ _ _ rfl rfl).elim
      | exact (h2 _ _ _ _ rfl rfl).elim
      | exact (h3 _ _ _ _ _ _ rfl rfl).elim
      | exact (h4 _ _ rfl rfl).elim
      | (simp only [rV] at he ⊢; exact he)
  case h_8 =>
    rename_i h1 h2 h3 h4
    have he : PV P base fl ρ (do pure (.bool (!(← Op.equal t x y)))) (do pure (.bool (!(← Op.equal t (rV ρ x) (rV ρ y))))) := Par.bnd (equal_par hz t x y) (by rintro _ c rfl; exact Par.pur (by simp [rV]))
    cases x <;> cases y <;> first
      | exact (h1 _ _ _ _ rfl rfl).elim
      | exact (h2 _ _ _ _ rfl rfl).elim
      | exact (h3 _ _ _ _ _ _ rfl rfl).elim
      | exact (h4 _ _ rfl rfl).elim
      | (simp only [rV] at he ⊢; exact he)
  case h_9 =>
    rename_i a k n
    have h1 := movedPointer_par (P := P) (base := base) (fl := fl) (ρ := ρ) t (.pointer a) (.int k n)
    have h2 := movedNumber_par (P := P) (base := base) (fl := fl) (ρ := ρ) t (.pointer a) (.int k n)
    simp only [rV] at h1 h2 ⊢
    refine Par.bnd (underlying_par t) ?_
    rintro _ u rfl
    exact Par.ite (fun _ => h1) (fun _ => h2)
  case h_10 =>
    rename_i k n a
    have h2 := movedNumber_par (P := P) (base := base) (fl := fl) (ρ := ρ) t (.pointer a) (.int k n)
    simp only [rV] at h2 ⊢
    exact h2
  case h_11 =>
    rename_i a k n
    have h2 := movedNumber_par (P := P) (base := base) (fl := fl) (ρ := ρ) t (.pointer a) (.int k (-n))
    simp only [rV] at h2 ⊢
    exact h2
  case h_12 =>
    simp only [rV, Option.map_some]
    refine Par.bnd (behindNumber_par _) ?_
    rintro x _ rfl
    refine Par.bnd (behindNumber_par _) ?_
    rintro y _ rfl
    exact (addrs_par hz _ .add _ _).1
  case h_13 =>
    simp only [rV, Option.map_some]
    refine Par.bnd (behindNumber_par _) ?_
    rintro x _ rfl
    refine Par.bnd (behindNumber_par _) ?_
    rintro y _ rfl
    exact (addrs_par hz .i64 _ _ _).2
  case h_14 =>
    simp only [rV, Option.map_some]
    refine Par.bnd (behindNumber_par _) ?_
    rintro x _ rfl
    refine Par.bnd (behindNumber_par _) ?_
    rintro y _ rfl
    exact (addrs_par hz .i64 _ _ _).2
  case h_15 =>
    simp only [rV, Option.map_some]
    refine Par.bnd (behindNumber_par _) ?_
    rintro x _ rfl
    refine Par.bnd (behindNumber_par _) ?_
    rintro y _ rfl
    exact (addrs_par hz .i64 _ _ _).2
  case h_16 =>
    simp only [rV, Option.map_some]
    refine Par.bnd (behindNumber_par _) ?_
    rintro x _ rfl
    refine Par.bnd (behindNumber_par _) ?_
    rintro y _ rfl
    exact (addrs_par hz .i64 _ _ _).2
  case h_17 =>
    simp only [rV, Option.map_some]
    refine Par.bnd (behindNumber_par _) ?_
    rintro x _ rfl
    exact addrMod_par _ _ _
  case h_18 =>
    simp only [rV, Option.map_some]
    refine Par.bnd (behindNumber_par _) ?_
    rintro x _ rfl
    exact addrMod_par _ _ _
  case h_19 =>
    simp only [rV, Option.map_some]
    refine Par.bnd (behindNumber_par _) ?_
    rintro x _ rfl
    exact addrMod_par _ _ _
  all_goals first | exact Par.uns | exact Par.stk
end
end Go.Proofs.Q
namespace Go.Proofs.Q
open Go
set_option linter.unusedVariables false
set_option linter.unusedSectionVars false
variable [Gds] [Tok]
section
variable {P : Program} {base : Nat} {fl : Fl} {ρ : Nat → Nat} {α β γ δ : Type} {R : α → β → Prop} {R' : γ → δ → Prop}
theorem intTo_par (k : IntKind) (f : FloatKind) (n : Int) : PV P base fl ρ (Conv.intToInt k n) (Conv.intToInt k n) ∧ PV P base fl ρ (Conv.intToFloat f n) (Conv.intToFloat f n) ∧ PV P base fl ρ (Conv.intToString n) (Conv.intToString n) :=
  ⟨Par.pur (by simp [rV]), Par.pur (by simp [rV]), Par.pur (by simp [rV])⟩
theorem floatToInt_par (s : FloatKind) (b : Nat) (k : IntKind) : PV P base fl ρ (Conv.floatToInt s b k) (Conv.floatToInt s b k) := by
  unfold Conv.floatToInt
  dsimp only
  split
  · refine Par.ite (fun _ => Par.pur (by simp [rV])) (fun _ => PE.then (Par.choose _) fun n => Par.pur (by simp [rV]))
  · exact PE.then (Par.choose _) fun n => Par.pur (by simp [rV])
theorem complexTo_par (s : FloatKind) (a b : Nat) (d : FloatKind) : PV P base fl ρ (Conv.complexToComplex s a b d) (Conv.complexToComplex s a b d) := by
  unfold Conv.complexToComplex
  refine Par.bnd (floatToFloat_par s a d) ?_
  rintro v _ rfl
  cases v <;> simp only [rV] <;> (try exact Par.stk)
  refine Par.bnd (floatToFloat_par s b d) ?_
  rintro v _ rfl
  cases v <;> simp only [rV] <;> first | exact Par.stk | exact Par.pur (by simp [rV])
theorem map_plain {l : Array Value} (h : ∀ v ∈ l, rV ρ v = v) : l.map (rV ρ) = l := by
  apply Array.ext_getElem?
  intro i
  rw [Array.getElem?_map]
  cases hi : l[i]? with
  | none => rfl
  | some v => simp only [Option.map_some]; rw [h v (Array.mem_of_getElem? hi)]
theorem newRowC (e : TypeId) (cs : Array Value) (h : ∀ v ∈ cs, rV ρ v = v) : Par P base fl ρ (fun a b => b = rA ρ a ∧ base ≤ a.block) (newRow e cs) (newRow e cs) := by
  have := newRow_par (P := P) (base := base) (fl := fl) (ρ := ρ) e cs
  rwa [map_plain h] at this
theorem stringToBytes_par (e : TypeId) (s : ByteArray) : PV P base fl ρ (Conv.stringToBytes e s) (Conv.stringToBytes e s) := by
  unfold Conv.stringToBytes
  refine PE.then (Par.choose _) fun cap => ?_
  dsimp only
  refine Par.bnd (newRowC e _ (fun v hv => ?_)) ?_
  · simp only [Array.mem_append, Array.mem_map, Array.mem_replicate] at hv
    rcases hv with ⟨b, _, rfl⟩ | ⟨_, rfl⟩ <;> simp [rV]
  · rintro a _ ⟨rfl, hb⟩
    refine Par.bnd (markStringish_par (fun q => by have := q.1; omega)) ?_
    rintro _ _ -
    exact Par.pur (by simp [rV])
theorem runesFrom_plain (s : ByteArray) : ∀ (n i : Nat) (acc : Array Value), (∀ v ∈ acc, rV ρ v = v) → ∀ v ∈ Conv.runesFrom s n i acc, rV ρ v = v
  | 0, i, acc, h => h
  | n + 1, i, acc, h => by
    unfold Conv.runesFrom
    split
    · dsimp only
      refine runesFrom_plain s n _ _ fun v hv => ?_
      rcases Array.mem_push.1 hv with h1 | rfl
      · exact h v h1
      · simp [rV]
    · exact h
theorem stringToRunes_par (e : TypeId) (s : ByteArray) : PV P base fl ρ (Conv.stringToRunes e s) (Conv.stringToRunes e s) := by
  unfold Conv.stringToRunes
  dsimp only
  refine PE.then (Par.choose _) fun cap => ?_
  refine Par.bnd (newRowC e _ (fun v hv => ?_)) ?_
  · simp only [Array.mem_append, Array.mem_replicate] at hv
    rcases hv with hv | ⟨_, rfl⟩
    · exact runesFrom_plain s _ _ _ (fun v hv => by simp at hv) v hv
    · simp [rV]
  · rintro a _ ⟨rfl, -⟩
    exact Par.pur (by simp [rV])
theorem forIn_vals {σ : Type} {f : Value → σ → Sem (ForInStep σ)} : ∀ (l : List Value) (b : σ), (∀ v b, PE P base fl ρ (f v b) (f (rV ρ v) b)) → PE P base fl ρ (forIn l b f) (forIn (l.map (rV ρ)) b f)
  | [], b, h => Par.pur rfl
  | x :: l, b, h => by
    rw [List.map_cons, List.forIn_cons, List.forIn_cons]
    refine Par.bnd (h x b) ?_
    rintro _ s rfl
    cases s with
    | done b => exact Par.pur rfl
    | yield b => exact forIn_vals l b h
theorem forIn_valsA {σ : Type} {f : Value → σ → Sem (ForInStep σ)} (l : Array Value) (b : σ) (h : ∀ v b, PE P base fl ρ (f v b) (f (rV ρ v) b)) : PE P base fl ρ (forIn l b f) (forIn (l.map (rV ρ)) b f) := by
  rw [← Array.forIn_toList, ← Array.forIn_toList, Array.toList_map]
  exact forIn_vals _ _ h
theorem bytesToString_par (x : Value) : PV P base fl ρ (Conv.bytesToString x) (Conv.bytesToString (rV ρ x)) := by
  cases x with
  | slice a l c =>
    cases a with
    | none => simp only [rV, Option.map_none]; exact Par.pur (by simp [rV])
    | some a =>
      simp only [rV, Option.map_some]
      unfold Conv.bytesToString
      dsimp only
      refine Par.bnd (loadCells_par a l) ?_
      rintro cs _ rfl
      refine Par.bnd (forIn_valsA cs _ fun v b => ?_) ?_
      · cases v with
        | int k n => cases k <;> simp only [rV] <;> first | exact Par.stk | exact Par.pur rfl
        | _ => exact Par.stk
      · rintro _ s rfl
        exact Par.pur (by simp [rV])
  | _ => exact Par.stk
theorem runesToString_par (x : Value) : PV P base fl ρ (Conv.runesToString x) (Conv.runesToString (rV ρ x)) := by
  cases x with
  | slice a l c =>
    cases a with
    | none => simp only [rV, Option.map_none]; exact Par.pur (by simp [rV])
    | some a =>
      simp only [rV, Option.map_some]
      unfold Conv.runesToString
      dsimp only
      refine Par.bnd (loadCells_par a l) ?_
      rintro cs _ rfl
      refine Par.bnd (forIn_valsA cs _ fun v b => ?_) ?_
      · cases v with
        | int k n => cases k <;> simp only [rV] <;> first | exact Par.stk | exact Par.pur rfl
        | _ => exact Par.stk
      · rintro _ s rfl
        exact Par.pur (by simp [rV])
  | _ => exact Par.stk
theorem seenAt_par (a : Addr) : Par P base fl ρ (fun b b' => b' = rA ρ b ∧ (Hid fl base b.block → b.off = 0 ∧ b.spot = none)) (Conv.seenAt a) (Conv.seenAt (rA ρ a)) := by
  unfold Conv.seenAt
  rw [show (rA ρ a).block = ρ a.block from rfl, show (rA ρ a).spot = a.spot from rfl, show (rA ρ a).off = a.off from rfl]
  refine Par.bnd (viewAt_par a.block) ?_
  rintro v _ (⟨rfl, hn, hs⟩ | ⟨u, hu, rfl, rfl⟩)
  · cases v with
    | none => exact Par.pur ⟨rfl, fun h => absurd h (hn rfl)⟩
    | some v =>
      obtain ⟨s, u⟩ := v
      dsimp only [Option.map_some]
      refine Par.ite (fun _ => Par.pur ⟨rfl, hs _ _ rfl⟩) (fun _ => ?_)
      refine Par.ite (fun _ => Par.uns) (fun _ => ?_)
      refine prog_par ?_
      split
      · by_cases hh : Hid fl base s.block
        · refine Par.bnd (Par.shape_hid hh) ?_
          rintro _ s ⟨rfl, -⟩
          exact Par.uns
        refine Par.bnd (Par.shape hh) ?_
        rintro _ x rfl
        split
        · refine Par.ite (fun _ => Par.uns) (fun _ => ?_)
          rw [show (rA ρ s).off = s.off from rfl]
          split
          · exact Par.pur ⟨rfl, fun h => absurd h hh⟩
          · exact Par.uns
        · exact Par.uns
      · exact Par.uns
  · dsimp only [Option.map_some]
    by_cases h0 : (decide (a.off = 0) && a.spot.isNone) = true
    · simp only [h0, if_true]
      simp only [Bool.and_eq_true, decide_eq_true_eq, Option.isNone_iff_eq_none] at h0
      refine Par.pur ⟨?_, fun _ => ⟨rfl, rfl⟩⟩
      obtain ⟨b, o, s⟩ := a
      obtain ⟨rfl, rfl⟩ := h0
      rfl
    · simp only [h0]
      refine (LDead.par ?_ : Par P base fl ρ _ _ _)
      simp only [Bool.false_eq_true, if_false]
      split
      · exact LDead.uns
      · refine LDead.prog ?_
        split
        · exact LDead.shape hu LDead.uns
        · exact LDead.uns
end
end Go.Proofs.Q
namespace Go.Proofs.Q
open Go
set_option linter.unusedVariables false
set_option linter.unusedSectionVars false
variable [Gds] [Tok]
section
variable {P : Program} {base : Nat} {fl : Fl} {ρ : Nat → Nat} {α β γ δ : Type} {R : α → β → Prop} {R' : γ → δ → Prop}
theorem newView_par {a : Addr} (ha : Hid fl base a.block → a.off = 0 ∧ a.spot = none) (t : TypeId) : PV P base fl ρ (do pure (.pointer (some ⟨← newObj (.view a t), 0, none⟩))) (do pure (.pointer (some ⟨← newObj (.view (rA ρ a) t), 0, none⟩))) := by
  refine Par.bnd (Par.newObj (.view a t) (hvw := by intro b u q; cases q; exact ha)) ?_
  rintro r _ ⟨rfl, -⟩
  exact Par.pur (by simp [rV, rA])
theorem unsafePointer_par (src dst : TypeId) (x : Value) : PV P base fl ρ (Conv.unsafePointer src dst x) (Conv.unsafePointer src dst (rV ρ x)) := by
  unfold Conv.unsafePointer
  refine PE.then (underlying_par src) fun u => ?_
  refine PE.then (underlying_par dst) fun v => ?_
  split <;> (try exact Par.uns) <;> (try exact Par.stk)
  case h_1 => simp only [rV, Option.map_none]; exact Par.pur (by simp [rV])
  case h_2 =>
    simp only [rV, Option.map_some]
    refine Par.bnd (seenAt_par _) ?_
    rintro s _ ⟨rfl, hs⟩
    refine Par.bnd (cellsIn_par s.block) ?_
    rintro c _ (rfl | ⟨hh, rfl, n, rfl, hn⟩)
    · refine PE.then (sizeOf_par _) fun n => ?_
      refine Par.ite (fun _ => newView_par hs _) (fun _ => Par.pur (by simp [rV]))
    · refine PE.then (sizeOf_par _) fun m => ?_
      have e : (decide ((rA ρ s).off ≥ n) && (rA ρ s).spot.isNone) = false := by
        rw [show (rA ρ s).off = s.off from rfl, (hs hh).1]
        simp; omega
      simp only [e]
      refine Par.ite (fun _ => newView_par hs _) (fun _ => Par.pur (by simp [rV]))
  case h_3 => simp only [rV, Option.map_none]; exact Par.pur (by simp [rV])
  case h_4 =>
    simp only [rV, Option.map_some]
    refine Par.bnd (seenAt_par _) ?_
    rintro s _ ⟨rfl, hs⟩
    refine PE.then (sizeOf_par _) fun n => ?_
    refine Par.bnd (variablesAt_par s _ _) ?_
    rintro c _ (⟨hh, rfl⟩ | ⟨hh, rfl⟩)
    rotate_left
    · by_cases hn : n = 0
      · simp only [hn, decide_true, Bool.true_or, if_true]
        exact Par.pur (by simp [rV])
      · simp only [hn, decide_false, Bool.false_or, Bool.false_eq_true, if_false]
        exact (LDead.shape hh LDead.uns).par
    refine Par.ite (fun _ => Par.pur (by simp [rV])) (fun _ => ?_)
    refine Par.bnd (Par.shape hh) ?_
    rintro _ x rfl
    split
    · refine prog_par ?_
      refine prog_par ?_
      exact Par.ite (fun _ => Par.uns) (fun _ => newView_par hs _)
    · exact Par.uns
  case h_5 => simp only [rV]; exact Par.pur (by simp [rV])
  case h_6 => simp only [rV, Option.map_none]; exact Par.pur (by simp [rV])
  case h_7 => simp only [rV, Option.map_some]; exact asNumber_par _ _
theorem convert_par (src dst : TypeId) (x : Value) (hx : ∀ a l c, x = .slice (some a) l c → ¬ Hid fl base a.block) : PV P base fl ρ (convert src dst x) (convert src dst (rV ρ x)) := by
  unfold convert
  refine PE.then (underlying_par src) fun u => ?_
  refine PE.then (underlying_par dst) fun v => ?_
  split <;> (try exact Par.uns) <;> (try exact Par.stk)
  case h_1 => simp only [rV]; exact (intTo_par _ .f64 _).1
  case h_2 => simp only [rV]; exact (intTo_par .i64 _ _).2.1
  case h_3 => simp only [rV]; exact floatToInt_par _ _ _
  case h_4 => simp only [rV]; exact floatToFloat_par _ _ _
  case h_5 => simp only [rV]; exact complexTo_par _ _ _ _
  case h_6 => simp only [rV]; exact (intTo_par .i64 .f64 _).2.2
  case h_7 => simp only [rV]; exact Par.pur (by simp [rV])
  case h_8 =>
    simp only [rV]
    refine PE.then (underlying_par _) fun w => ?_
    split
    · exact stringToBytes_par _ _
    · exact stringToRunes_par _ _
    · exact Par.stk
  case h_9 =>
    simp only [rV, Option.map_some]
    refine PE.then (underlying_par _) fun w => ?_
    split
    · refine Par.bnd (markStringish_par (hx _ _ _ rfl)) ?_
      rintro _ _ -
      exact Par.pur (by simp [rV])
    · exact Par.uns
  case h_10 =>
    rename_i e h1 h2
    have hb := bytesToString_par (P := P) (base := base) (fl := fl) (ρ := ρ) x
    have hr := runesToString_par (P := P) (base := base) (fl := fl) (ρ := ρ) x
    cases x <;> first
      | exact (h1 _ _ rfl).elim
      | exact (h2 _ rfl).elim
      | (simp only [rV] at hb hr ⊢
         refine PE.then (underlying_par _) fun w => ?_
         split
         · exact hb
         · exact hr
         · exact Par.stk)
  case h_11 =>
    rename_i h1 h2 h3 h4 h5 h6 h7 h8
    have hu := unsafePointer_par (P := P) (base := base) (fl := fl) (ρ := ρ) src dst x
    cases x <;> cases v <;> first
      | exact (h1 _ _ _ rfl rfl).elim
      | exact (h2 _ _ _ rfl rfl).elim
      | exact (h3 _ _ _ rfl rfl).elim
      | exact (h4 _ _ _ rfl rfl).elim
      | exact (h5 _ _ _ _ rfl rfl).elim
      | exact (h6 _ _ rfl rfl).elim
      | exact (h7 _ rfl rfl).elim
      | exact (h8 _ _ rfl rfl).elim
      | (simp only [rV] at hu ⊢; exact hu)
  case h_12 =>
    rename_i h1
    have hu := unsafePointer_par (P := P) (base := base) (fl := fl) (ρ := ρ) src dst x
    exact hu
end
end Go.Proofs.Q
