import Derived.Test.YtiblcbdkiecbgaaGreatDoorQ01
namespace Go.Proofs.Q
open Go
set_option linter.unusedVariables false
set_option linter.unusedSectionVars false
variable [Gds] [Tok]
section
variable {P : Program} {base : Nat} {fl : Fl} {ρ : Nat → Nat} {w w' : World}
theorem viewStore_par (h : HR base fl ρ w w') {p : Program} {at_ k : Addr} {u : TypeId} {v : Value} {atomic : Bool} {w1 : World} {l : List Addr} (hx : w.viewStore p at_ u k v atomic = .ok (w1, l)) :
    (∀ τ, (tpW w τ).viewStore p at_ u k v atomic = .ok (tpW w1 τ, l)) ∧ w1.drawn = w.drawn ∧
    ∃ w1', w'.viewStore p (rA ρ at_) u (rA ρ k) (rV ρ v) atomic = .ok (w1', l.map (rA ρ)) ∧ HR base fl ρ w1 w1' ∧ w.heap.size ≤ w1.heap.size ∧
      ∀ s, Gu base fl ρ w w' w1' ((l.map (rA ρ)).toArray.map (⟨.cell ·, true, s⟩)) := by
  rw [viewStore_eq] at hx
  split at hx
  · cases hx
  rename_i q0
  cases hs : w.seen p at_ u k atomic with
  | error e => rw [hs] at hx; cases hx
  | ok x =>
  rw [hs] at hx
  simp only at hx
  cases hv : v.bytes? with
  | none => rw [hv] at hx; cases hx
  | some bytes =>
  rw [hv] at hx
  simp only at hx
  split at hx
  · cases hx
  rename_i q1
  cases hF : x.2.2.2.2.2.foldlM (stepV x.2.2.2.1 bytes x.2.2.1) x.1 with
  | error e => rw [hF] at hx; cases hx
  | ok c1 =>
  rw [hF] at hx
  cases hx
  obtain ⟨fr', h1, h2, h3⟩ := seen_par h hs
  obtain ⟨f2, g1, g2, g3, g4⟩ := h.cells h2
  rw [h3] at g1
  cases g1
  have hfr : fr' = x.2.2.1 ∨ (x.2.2.1.1 = 0 ∧ x.1.size < x.2.2.1.2) := by
    by_cases hb : base ≤ at_.block
    · exact .inl (g2 hb)
    · cases hflb : fl.b with
      | false => exact .inl (g4 hflb)
      | true => exact .inr ⟨(g3 (by omega) hflb).1, (g3 (by omega) hflb).2.1⟩
  obtain ⟨r1, r2, r3⟩ := fold_par (ρ := ρ) (fr' := fr') _ _ _ hfr hF
  refine ⟨fun τ => ?_, rfl, { w' with heap := w'.heap.setIfInBounds (ρ at_.block) (.cells (c1.map (rV ρ)) x.2.1 fr') }, ?_, ?_⟩
  · have hs' : (tpW w τ).seen p at_ u k atomic = .ok x := hs
    rw [viewStore_eq, if_neg q0, hs']
    simp only [hv, q1, if_false, hF]
    rfl
  · rw [viewStore_eq, if_neg q0, h1]
    simp only [bytes_rV, hv, q1, if_false, r3]
    simp only [List.map_map]
    rfl
  · rcases r2 with hE | ⟨hE, hn⟩
    · rw [hE] at hF
      cases hF
      have e1 : ({ w with heap := w.heap.setIfInBounds at_.block (.cells x.1 x.2.1 x.2.2.1) } : World) = w := by rw [set_same _ _ h2]
      have e2 : ({ w' with heap := w'.heap.setIfInBounds (ρ at_.block) (.cells (x.1.map (rV ρ)) x.2.1 fr') } : World) = w' := by rw [set_same _ _ h3]
      rw [e1, e2, hE]
      exact ⟨h, Nat.le_refl _, fun s => Gu.quiet fun _ e he => by simp at he⟩
    · subst hE
      have hfl : at_.block < base → fl.b = false := fun hb => by
        cases hflb : fl.b with
        | false => rfl
        | true => exact absurd ⟨(g3 hb hflb).1, (g3 hb hflb).2.1⟩ hn
      have hA := fun s => store_both (w1 := { w with heap := w.heap.setIfInBounds at_.block (.cells c1 x.2.1 x.2.2.1) }) (w1' := { w' with heap := w'.heap.setIfInBounds (ρ at_.block) (.cells (c1.map (rV ρ)) x.2.1 x.2.2.1) }) (es := ((x.2.2.2.2.2.map fun y => ({ block := at_.block, off := y.1 } : Addr)).map (rA ρ)).toArray.map (⟨.cell ·, true, s⟩)) h h2 h3 hfl r1 (at_set w.heap _ _ (lt_of_at h2)) (by simp) (at_set w'.heap _ _ (lt_of_at h3)) (by simp) rfl rfl rfl rfl (fun hf e he => by
        simp at he
        obtain ⟨a, b, c, _, rfl⟩ := he
        refine evWrite h (a := { block := at_.block, off := a }) ?_ s
        show base ≤ at_.block
        by_cases hb : base ≤ at_.block
        · exact hb
        · rw [hfl (by omega)] at hf; cases hf)
      exact ⟨(hA true).1, (hA true).2.1, fun s => (hA s).2.2⟩
theorem viewStore_seen {p : Program} {at_ k : Addr} {u : TypeId} {v : Value} {atomic : Bool} {x : World × List Addr} (hx : w.viewStore p at_ u k v atomic = .ok x) : ∃ y, w.seen p at_ u k atomic = .ok y := by
  rw [viewStore_eq] at hx
  split at hx
  · cases hx
  cases hs : w.seen p at_ u k atomic with
  | error e => rw [hs] at hx; cases hx
  | ok y => exact ⟨y, rfl⟩
theorem viewStore_err {p : Program} {at_ k : Addr} {u : TypeId} {v : Value} {atomic : Bool} {e : String} (h : w.viewStore p at_ u k v atomic = .error e) (τ : Nat → Question → Nat) : (tpW w τ).viewStore p at_ u k v atomic = .error e := by
  rw [viewStore_eq] at h ⊢
  have hs : (tpW w τ).seen p at_ u k atomic = w.seen p at_ u k atomic := rfl
  rw [hs]
  split at h
  · rename_i q; rw [if_pos q]; exact h
  · rename_i q
    rw [if_neg q]
    cases hx : w.seen p at_ u k atomic with
    | error e' => rw [hx] at h; exact h
    | ok x =>
      rw [hx] at h
      simp only at h ⊢
      cases hv : v.bytes? with
      | none => rw [hv] at h; exact h
      | some bytes =>
        rw [hv] at h
        simp only at h ⊢
        split at h
        · rename_i q1; rw [if_pos q1]; exact h
        · rename_i q1
          rw [if_neg q1]
          cases hF : x.2.2.2.2.2.foldlM (stepV x.2.2.2.1 bytes x.2.2.1) x.1 with
          | error e' => rw [hF] at h; exact h
          | ok c1 => rw [hF] at h; cases h
theorem store_run {x : Value} {m : Mode} (hv : ∀ cs, x ≠ .agg cs) (hv' : ∀ cs, x ≠ .tuple cs) (b : Addr) (u : World) : (Go.store b x m).run P u = match u.cell? b with
        | some _ => if u.frozen? b then .halt (.unsupported (.unsafePointer "a write to bytes that a string shares")) u else .ok () (u.setCell b x)
        | none => match u.farStore P b x (m == .atomic) with
          | .ok (u, _) => .ok () u
          | .error h => .halt h u := by
  unfold Go.store
  cases x <;> first | exact absurd rfl (hv _) | exact absurd rfl (hv' _) | rfl
theorem store_ev {x : Value} {m : Mode} (hv : ∀ cs, x ≠ .agg cs) (hv' : ∀ cs, x ≠ .tuple cs) (b : Addr) (u : World) : (Go.store b x m).events P u #[] = match u.cell? b with
        | some _ => if u.frozen? b then #[] else #[⟨.cell b, true, m == .atomic⟩]
        | none => match u.farStore P b x (m == .atomic) with
          | .ok (_, l) => l.toArray.map (⟨.cell ·, true, m == .atomic⟩)
          | .error h => #[] := by
  have h : (Go.store b x m).runT P u #[] = match u.cell? b with
        | some _ => if u.frozen? b then (.halt (.unsupported (.unsafePointer "a write to bytes that a string shares")) u, #[]) else (.ok () (u.setCell b x), #[].push ⟨.cell b, true, m == .atomic⟩)
        | none => match u.farStore P b x (m == .atomic) with
          | .ok (u, l) => (.ok () u, #[] ++ l.toArray.map (⟨.cell ·, true, m == .atomic⟩))
          | .error h => (.halt h u, #[]) := by
    unfold Go.store
    cases x <;> first | exact absurd rfl (hv _) | exact absurd rfl (hv' _) | rfl
  unfold Sem.events
  rw [h]
  cases u.cell? b with
  | some y => simp only; split <;> rfl
  | none =>
    simp only
    cases u.farStore P b x (m == .atomic) with
    | ok y => simp
    | error e => rfl
theorem Par.store (a : Addr) (v : Value) (m : Mode) : Par P base fl ρ (fun _ _ => True) (Go.store a v m) (Go.store (rA ρ a) (rV ρ v) m) := fun w w' hw => by
  have key : ∀ (hv : ∀ cs, v ≠ .agg cs) (hv' : ∀ cs, v ≠ .tuple cs), ∃ r, Runs P fl.tp (Go.store a v m) w r ∧ Out base fl ρ (fun _ _ => True) w w' r ((Go.store (rA ρ a) (rV ρ v) m).run P w') ((Go.store (rA ρ a) (rV ρ v) m).events P w' #[]) := by
    intro hv hv'
    have hr : (∀ cs, rV ρ v ≠ .agg cs) ∧ ∀ cs, rV ρ v ≠ .tuple cs := by
      cases v <;> simp [rV] <;> first | exact absurd rfl (hv _) | exact absurd rfl (hv' _)
    have run1 := fun b u => store_run (P := P) (m := m) hv hv' b u
    have run2 := fun b u => store_run (P := P) (m := m) hr.1 hr.2 b u
    have ev2 := fun b u => store_ev (P := P) (m := m) hr.1 hr.2 b u
    cases hc : w.cell? a with
    | some v0 =>
      obtain ⟨c, e, f, hk, hs, hi⟩ := cells_of_cell hc
      obtain ⟨f', h1, h2, h3, h4⟩ := hw.cells hk
      by_cases hz : w.frozen? a = true
      · refine ⟨.halt (.unsupported (.unsafePointer "a write to bytes that a string shares")) w, Runs.still rfl fun τ => ?_, Out.dead (by trivial) _ _⟩
        rw [run1]
        have q1 : (tpW w τ).cell? a = some v0 := hc
        have q2 : (tpW w τ).frozen? a = true := hz
        rw [q1, if_pos q2]
        rfl
      · have hfz : w.frozen? a = (f.1 ≤ a.off && a.off < f.2) := by
          unfold World.frozen?
          rw [hk]
        have hi' : a.off < c.size := (Array.getElem?_eq_some_iff.1 hi).1
        have hfl : a.block < base → fl.b = false := fun hb => by
          cases hflb : fl.b with
          | false => rfl
          | true =>
            obtain ⟨q1, q2, -⟩ := h3 hb hflb
            exfalso; apply hz; rw [hfz]; simp; omega
        have hff : f' = f := by
          by_cases hb : base ≤ a.block
          · exact h2 hb
          · exact h4 (hfl (by omega))
        subst hff
        refine ⟨.ok () (w.setCell a v), Runs.still rfl fun τ => ?_, ?_⟩
        · rw [run1]
          have q1 : (tpW w τ).cell? a = some v0 := hc
          have q2 : ¬ (tpW w τ).frozen? a = true := hz
          rw [q1]
          simp only [q2]
          rfl
        · have q1 := hw.cell hc
          have q2 : ¬ w'.frozen? (rA ρ a) = true := by
            have : w'.frozen? (rA ρ a) = (f'.1 ≤ a.off && a.off < f'.2) := by
              unfold World.frozen?
              rw [show (rA ρ a).block = ρ a.block from rfl, h1]
              rfl
            rw [this, ← hfz]
            exact hz
          rw [run2, ev2, q1]
          simp only [q2]
          have e1 : ∀ i, (w.setCell a v).heap[i]? = if i = a.block then some (.cells (c.setIfInBounds a.off v) e f') else w.heap[i]? := fun i => by
            unfold World.setCell
            rw [at_modify _ _ _ hk]
            simp [hs]
          have e2 : ∀ i, (w'.setCell (rA ρ a) (rV ρ v)).heap[i]? = if i = ρ a.block then some (.cells ((c.setIfInBounds a.off v).map (rV ρ)) e f') else w'.heap[i]? := fun i => by
            unfold World.setCell
            rw [at_modify _ _ _ (show w'.heap[(rA ρ a).block]? = _ from h1)]
            rw [show (rA ρ a).block = ρ a.block from rfl, show (rA ρ a).spot = a.spot from rfl, show (rA ρ a).off = a.off from rfl]
            simp only [hs, Bool.false_eq_true, if_false, Array.map_setIfInBounds]
          obtain ⟨r1, r2, r3⟩ := store_both (es := #[⟨.cell (rA ρ a), true, m == .atomic⟩]) hw hk h1 hfl (by simp) e1 (by simp [World.setCell]) e2 (by simp [World.setCell]) rfl rfl rfl rfl (fun hf x hx => by
            simp at hx
            subst hx
            refine evWrite hw ?_ _
            by_cases hb : base ≤ a.block
            · exact hb
            · rw [hfl (by omega)] at hf; cases hf)
          exact ⟨trivial, r1, r2, r3⟩
    | none =>
      cases hf : w.farStore P a v (m == .atomic) with
      | error hh =>
        refine ⟨.halt hh w, Runs.still rfl fun τ => ?_, Out.dead (farStore_dead hw.np hf) _ _⟩
        have q1 : (tpW w τ).cell? a = none := hc
        have q2 : (tpW w τ).farStore P a v (m == .atomic) = .error hh := by
          unfold World.farStore at hf ⊢
          rw [show (tpW w τ).heap = w.heap from rfl]
          split at hf
          · rename_i at_ u hk
            cases hv2 : w.viewStore P at_ u a v (m == .atomic) with
            | ok x => rw [hv2] at hf; cases hf
            | error e =>
              rw [hv2] at hf
              have : (tpW w τ).viewStore P at_ u a v (m == .atomic) = .error e := viewStore_err hv2 τ
              rw [this]
              exact hf
          · exact hf
        rw [run1, q1, q2]
        rfl
      | ok x =>
        obtain ⟨w1, l⟩ := x
        have hf0 := hf
        unfold World.farStore at hf
        split at hf
        · rename_i at_ u hk
          cases hv2 : w.viewStore P at_ u a v (m == .atomic) with
          | error e => rw [hv2] at hf; cases hf
          | ok x =>
            rw [hv2] at hf
            cases hf
            have hb : base ≤ a.block := by
              by_cases hb : base ≤ a.block
              · exact hb
              · obtain ⟨o', _, h2⟩ := hw.sh a.block _ (by omega) hk
                rcases h2 with ⟨_, _, _, _, _, q, _⟩ | ⟨_, q, _⟩ | ⟨_, _, q, _⟩
                · cases q
                · cases q
                · cases q
                  obtain ⟨y, hy⟩ := viewStore_seen hv2
                  obtain ⟨_, _, h3, _⟩ := seen_par hw hy
                  have h3 : w.heap[a.block]? = _ := h3
                  rw [hk] at h3
                  cases h3
            obtain ⟨r1, r2, w1', r3, r4, r5, r6⟩ := viewStore_par hw hv2
            have h1 : w'.heap[(rA ρ a).block]? = some (.view (rA ρ at_) u) := hw.own _ _ hb hk
            have h3 : w'.cell? (rA ρ a) = none := by unfold World.cell?; rw [h1]
            have h4 : w'.farStore P (rA ρ a) (rV ρ v) (m == .atomic) = .ok (w1', l.map (rA ρ)) := by
              unfold World.farStore
              rw [h1]
              simp only [r3]
            refine ⟨.ok () w1, Runs.still r2 fun τ => ?_, ?_⟩
            · have q1 : (tpW w τ).cell? a = none := hc
              have q2 : (tpW w τ).farStore P a v (m == .atomic) = .ok (tpW w1 τ, l) := by
                unfold World.farStore
                rw [show (tpW w τ).heap = w.heap from rfl, hk]
                simp only [r1 τ]
              rw [run1, q1, q2]
              rfl
            · rw [run2, ev2, h3, h4]
              exact ⟨trivial, r4, r5, r6 _⟩
        · cases hf
  cases v with
  | agg cs => exact ⟨_, Runs.still (r := .halt _ w) rfl fun τ => rfl, Out.dead (by trivial) _ _⟩
  | tuple cs => exact ⟨_, Runs.still (r := .halt _ w) rfl fun τ => rfl, Out.dead (by trivial) _ _⟩
  | _ => exact key (fun cs e => by cases e) (fun cs e => by cases e)
end
end Go.Proofs.Q
namespace Go.Proofs.Q
open Go
set_option linter.unusedVariables false
set_option linter.unusedSectionVars false
variable [Gds] [Tok]
section
variable {P : Program} {base : Nat} {fl : Fl} {ρ : Nat → Nat}
theorem HR.notCells {w w' : World} (hw : HR base fl ρ w w') {k : Nat} (hh : ¬ Hid fl base k) (hk : ∀ c e f, w.heap[k]? ≠ some (.cells c e f)) : ∀ c e f, w'.heap[ρ k]? ≠ some (.cells c e f) := fun c e f q => by
  by_cases hz : k < w.heap.size
  · have hq := Array.getElem?_eq_getElem hz
    by_cases hb : base ≤ k
    · have h2 := hw.own _ _ hb hq
      rw [q] at h2
      cases ho : w.heap[k] <;> rw [ho] at h2 <;> simp [rO] at h2
      exact hk _ _ _ (hq.trans (by rw [ho]))
    · obtain ⟨o', h2, h3⟩ := hw.sh _ _ (by omega) hq
      rw [q] at h2
      cases h2
      rcases h3 with ⟨_, c1, e1, f1, f2, h4, _⟩ | ⟨_, _, h4, _⟩ | ⟨h4, _⟩
      · exact hk _ _ _ (hq.trans (by rw [h4]))
      · exact absurd rfl (h4 _ _ _)
      · exact hh ⟨by omega, h4⟩
  · have h2 := hw.far k (by omega)
    have h3 := lt_of_at q
    omega
theorem Par.newObj (o : Obj) (hnp : notP o := by trivial) (hvw : VwOk fl base o := by intro a u q; cases q) : Par P base fl ρ (fun r r' => r' = ρ r ∧ base ≤ r) (Go.newObj o) (Go.newObj (rO ρ o)) := fun w w' hw => by
  by_cases hlim : w'.heap.size < fl.lim
  case neg =>
    refine ⟨.halt .blocked w, .inr ⟨_, rfl⟩, ?_⟩
    show fl.lim < (w'.heap.push (rO ρ o)).size
    simp; omega
  refine ⟨.ok w.heap.size { w with heap := w.heap.push o }, Runs.still rfl fun τ => rfl, ?_⟩
  have h0 := hw.next 0 (by simpa using hlim)
  simp only [Nat.add_zero] at h0
  have hl : ∀ k, k < w.heap.size → ρ k < w'.heap.size := fun k hk => hw.low hk
  refine ⟨⟨h0.symm, hw.bs⟩, ⟨hw.inj, hw.fix, hw.hh, hw.lo, hw.ob, ?_, hw.os, fun j hj => ?_, fun k hk => ?_, fun k o' hk ho => ?_, fun k o' hk ho => ?_, fun k o' ho => ?_, fun k o' ho => by
    simp only [Array.getElem?_push] at ho
    split at ho
    · cases ho; exact hvw
    · exact hw.vw k o' ho, hw.tq⟩, ?_, ⟨?_, rfl, rfl, fun c q1 q2 q3 => ?_, fun _ c o' q1 q2 => ⟨o', ?_, .inl rfl⟩, fun _ e he => ?_, fun c o' q1 q2 => ⟨o', ?_, .inl rfl⟩, rfl, fun i hi => by
    simp only [Array.getElem?_push]
    rw [if_neg (by have := hl i (by have := hi.1; have := hw.bs; omega); omega)]⟩⟩
  · have := hw.bs; simp; omega
  · simp only [Array.size_push] at hj
    have := hw.next (1 + j) (by omega)
    simp only [Array.size_push]
    rw [show w.heap.size + 1 + j = w.heap.size + (1 + j) by omega, this]
    omega
  · simp only [Array.size_push] at hk ⊢
    have h1 := hw.far k (by omega)
    have h2 : ρ k ≠ w'.heap.size := fun e => by have := hw.inj k w.heap.size (e.trans h0.symm); omega
    omega
  · simp only [Array.getElem?_push] at ho ⊢
    by_cases e : k = w.heap.size
    · rw [if_pos e] at ho
      cases ho
      rw [if_pos (by rw [e, h0])]
    · rw [if_neg e] at ho
      rw [if_neg (fun q => e (hw.inj _ _ (q.trans h0.symm)))]
      exact hw.own k o' hk ho
  · simp only [Array.getElem?_push] at ho ⊢
    have := hw.bs
    rw [if_neg (by omega)] at ho
    obtain ⟨o2, h1, h2⟩ := hw.sh k o' hk ho
    refine ⟨o2, ?_, h2⟩
    rw [if_neg (by have := lt_of_at h1; omega)]
    exact h1
  · simp only [Array.getElem?_push] at ho
    split at ho
    · cases ho; exact hnp
    · exact hw.np k o' ho
  · simp
  · simp
  · simp only [Array.getElem?_push]
    rw [if_neg (by omega)]
  · simp only [Array.getElem?_push]
    rw [if_neg (by have := lt_of_at q2; omega)]
    exact q2
  · simp [Sem.events, Go.newObj, Sem.runT, -Sem.runT_eq] at he
  · simp only [Array.getElem?_push]
    rw [if_neg (by have := lt_of_at q2; omega)]
    exact q2
theorem World.freeze_at {w : World} {a : Addr} {n : Nat} {c : Array Value} {e : TypeId} {f : Nat × Nat} (hn : n ≠ 0) (h : w.heap[a.block]? = some (.cells c e f)) (i : Nat) :
    (w.freeze a n).heap[i]? = if i = a.block then some (.cells c e (if f.1 == f.2 then (a.off, a.off + n) else (min f.1 a.off, max f.2 (a.off + n)))) else w.heap[i]? := by
  unfold World.freeze
  rw [if_neg hn]
  simp only
  rw [at_modify _ _ _ h]
theorem World.freeze_off {w : World} {a : Addr} {n : Nat} (h : ∀ c e f, w.heap[a.block]? ≠ some (.cells c e f)) : w.freeze a n = w := by
  unfold World.freeze
  split
  · rfl
  · have : ∀ g : Obj → Obj, (∀ o, (∀ c e f, o ≠ .cells c e f) → g o = o) → w.heap.modify a.block g = w.heap := fun g hg => by
      apply Array.ext_getElem?
      intro i
      rw [Array.getElem?_modify]
      split
      · rename_i e
        subst e
        cases ho : w.heap[a.block]? with
        | none => rfl
        | some o => rw [Option.map_some, hg o (fun c e f q => h c e f (by rw [ho, q]))]
      · rfl
    rw [this]
    intro o ho
    cases o <;> first | rfl | exact absurd rfl (ho _ _ _)
theorem Par.freezeAt (a : Addr) (n : Nat) {w w' : World} (hh : ¬ Hid fl base a.block) (hin : a.block < base → ∀ c e f, w'.heap[ρ a.block]? = some (.cells c e f) → a.off + n ≤ c.size + 1) : ParAt P base fl ρ (fun _ _ => True) (Go.freeze a n) (Go.freeze (rA ρ a) n) w w' := fun hw => by
  refine ⟨.ok () (w.freeze a n), Runs.still (by simp only [resW]; unfold World.freeze; split <;> rfl) fun τ => ?_, ?_⟩
  · simp only [Go.freeze, Sem.run, tpR]
    unfold World.freeze tpW
    split <;> rfl
  · have hev : (Go.freeze (rA ρ a) n).events P w' #[] = #[] := by simp [Sem.events, Go.freeze, Sem.runT, -Sem.runT_eq]
    have hrun : (Go.freeze (rA ρ a) n).run P w' = .ok () (w'.freeze (rA ρ a) n) := rfl
    rw [hev, hrun]
    refine ⟨trivial, ?_⟩
    by_cases hn : n = 0
    · have e1 : w.freeze a n = w := by unfold World.freeze; rw [if_pos hn]
      have e2 : w'.freeze (rA ρ a) n = w' := by unfold World.freeze; rw [if_pos hn]
      rw [e1, e2]
      exact ⟨hw, Nat.le_refl _, Gu.refl _ _⟩
    · by_cases hk : ∃ c e f, w.heap[a.block]? = some (.cells c e f)
      · obtain ⟨c, e, f, hk⟩ := hk
        obtain ⟨f', h1, h2, h3, h4⟩ := hw.cells hk
        have a1 := World.freeze_at (w := w) (a := a) hn hk
        have a2 := World.freeze_at (w := w') (a := rA ρ a) hn (show w'.heap[(rA ρ a).block]? = _ from h1)
        rw [show (rA ρ a).block = ρ a.block from rfl, show (rA ρ a).off = a.off from rfl] at a2
        have s1 : (w.freeze a n).heap.size = w.heap.size := by unfold World.freeze; rw [if_neg hn]; simp
        have s2 : (w'.freeze (rA ρ a) n).heap.size = w'.heap.size := by unfold World.freeze; rw [if_neg hn]; simp
        have o1 : (w.freeze a n).os = w.os := by unfold World.freeze; rw [if_neg hn]
        have o2 : (w'.freeze (rA ρ a) n).os = w'.os := by unfold World.freeze; rw [if_neg hn]
        have t2 : (w'.freeze (rA ρ a) n).tape = w'.tape := by unfold World.freeze; rw [if_neg hn]
        have u2 : (w'.freeze (rA ρ a) n).output = w'.output := by unfold World.freeze; rw [if_neg hn]
        by_cases hb : base ≤ a.block
        · obtain rfl := h2 hb
          exact ⟨hw.turn hb (lt_of_at hk) a1 s1 a2 s2 (by rw [o1, o2]; exact hw.os) (dr := ⟨by unfold World.freeze; split <;> rfl, by unfold World.freeze; split <;> rfl, t2⟩), Nat.le_of_eq s1.symm, Gu.turn hw hb (lt_of_at hk) a2 s2 t2 u2 (fun _ e he => by simp at he) o2⟩
        · have hb' : a.block < base := by omega
          refine ⟨hw.turnS hb' a1 s1 a2 s2 (by rw [o1, o2]; exact hw.os) (.inl ⟨hw.vis hb' hk, _, _, _, _, rfl, rfl, fun hf => ?_, fun hf => ?_⟩) (dr := ⟨by unfold World.freeze; split <;> rfl, by unfold World.freeze; split <;> rfl, t2⟩), Nat.le_of_eq s1.symm, ⟨Nat.le_of_eq s2.symm, t2, u2, fun x q1 q2 q3 => ?_, fun hf x o q1 q2 => ?_, (fun _ e he => by simp at he), fun x o q1 q2 => ?_, o2, fun i hi => by rw [a2, if_neg (fun q => by have := hw.inj _ _ q; rw [this] at hi; exact hh hi)]⟩⟩
          · obtain ⟨q1, q2, q4⟩ := h3 hb' hf
            have q3 : ¬ (f.1 == f.2) = true := by simp; omega
            simp only [q3, if_false, Bool.false_eq_true]
            simp only [q1]
            refine ⟨by omega, by omega, ?_⟩
            split <;> simp <;> omega
          · rw [h4 hf]
          · rw [a2, if_neg (by have := hw.lo _ hb'; omega)]
          · rw [a2]
            by_cases e : x = ρ a.block
            · rw [if_pos e]
              subst e
              rw [q2] at h1
              cases h1
              have := hin hb' _ _ _ q2
              refine ⟨_, rfl, .inr ⟨_, _, _, _, rfl, rfl, ?_⟩⟩
              simp only [Array.size_map] at this ⊢
              split <;> simp <;> omega
            · rw [if_neg e]
              exact ⟨o, q2, .inl rfl⟩
          · rw [a2]
            by_cases e : x = ρ a.block
            · subst e
              rw [q2] at h1
              cases h1
              rw [if_pos rfl]
              refine ⟨_, rfl, .inr ⟨_, _, _, _, _, rfl, rfl, .inr ⟨?_, ?_⟩⟩⟩
              · split <;> simp <;> omega
              · split
                · rename_i q; exact .inl (by simpa using q)
                · exact .inr (by simp; omega)
            · rw [if_neg e]; exact ⟨o, q2, .inl rfl⟩
      · have hk1 : ∀ c e f, w.heap[a.block]? ≠ some (.cells c e f) := fun c e f q => hk ⟨c, e, f, q⟩
        have hk2 : ∀ c e f, w'.heap[(rA ρ a).block]? ≠ some (.cells c e f) := hw.notCells hh hk1
        rw [World.freeze_off hk1, World.freeze_off hk2]
        exact ⟨hw, Nat.le_refl _, Gu.refl _ _⟩
theorem frozen_off {u : World} {a : Addr} (h : ∀ c e f, u.heap[a.block]? ≠ some (.cells c e f)) : u.frozen? a = false := by
  unfold World.frozen?
  split
  · rename_i c e lo hi q; exact absurd q (h _ _ _)
  · rfl
theorem Par.frozen {a : Addr} (hh : ¬ Hid fl base a.block) : Par P base fl ρ (fun b b' => b' = b ∨ (fl.b = true ∧ a.block < base)) (Go.frozen a) (Go.frozen (rA ρ a)) := fun w w' hw => by
  refine ⟨.ok (w.frozen? a) w, Runs.still rfl fun τ => rfl, ?_⟩
  have hev : (Go.frozen (rA ρ a)).events P w' #[] = #[] := by simp [Sem.events, Go.frozen, Sem.runT, -Sem.runT_eq]
  have hrun : (Go.frozen (rA ρ a)).run P w' = .ok (w'.frozen? (rA ρ a)) w' := rfl
  rw [hev, hrun]
  refine ⟨?_, hw, Nat.le_refl _, Gu.refl _ _⟩
  by_cases hs : fl.b = true ∧ a.block < base
  · exact .inr hs
  · refine .inl ?_
    by_cases hk : ∃ c e f, w.heap[a.block]? = some (.cells c e f)
    · obtain ⟨c, e, f, hk⟩ := hk
      obtain ⟨f', h1, h2, h3, h4⟩ := hw.cells hk
      have : f' = f := by
        by_cases hb : base ≤ a.block
        · exact h2 hb
        · cases hflb : fl.b with
          | false => exact h4 hflb
          | true => exact absurd ⟨hflb, by omega⟩ hs
      unfold World.frozen?
      rw [show (rA ρ a).block = ρ a.block from rfl, show (rA ρ a).off = a.off from rfl, h1, hk, this]
    · have hk1 : ∀ c e f, w.heap[a.block]? ≠ some (.cells c e f) := fun c e f q => hk ⟨c, e, f, q⟩
      have hk2 := hw.notCells hh hk1
      rw [frozen_off hk1, frozen_off (a := rA ρ a) hk2]
def ObjR [Gds] [Tok] (base : Nat) (ρ : Nat → Nat) (r : Nat) (o o' : Obj) : Prop :=
  (base ≤ r ∧ o' = rO ρ o ∧ ∀ c e f, o ≠ .cells c e f) ∨ (r < base ∧ o = .coro none ∧ (∀ c e f, o' ≠ .cells c e f) ∧ (∀ a t, o' ≠ .view a t) ∧ (∀ a l, o' ≠ .number a l) ∧ ∀ c e, o' ≠ .pending c e)
theorem getObj_run {u : World} {r : Nat} {o : Obj} (h : u.heap[r]? = some o) (hn : ∀ c e f, o ≠ .cells c e f) : (Go.getObj r).run P u = .ok o u ∧ (Go.getObj r).events P u #[] = #[⟨.obj r, false, o.isChan⟩] := by
  constructor
  · cases o <;> first | exact absurd rfl (hn _ _ _) | simp only [Go.getObj, Sem.run, h]
  · cases o <;> first | exact absurd rfl (hn _ _ _) | simp [Sem.events, Go.getObj, Sem.runT, h, -Sem.runT_eq]
theorem Par.getObjN {r : Nat} (hh : ¬ Hid fl base r) : Par P base fl ρ (fun o o' => ObjR base ρ r o o' ∧ notP o ∧ VwOk fl base o) (Go.getObj r) (Go.getObj (ρ r)) := fun w w' hw => by
  cases ho : w.heap[r]? with
  | none =>
    refine ⟨.halt (.stuck "getObj: no such block") w, Runs.still rfl fun τ => ?_, Out.dead (by trivial) _ _⟩
    simp only [Go.getObj, Sem.run, tpW, ho, tpR]
  | some o =>
    by_cases hc : ∃ c e f, o = .cells c e f
    · obtain ⟨c, e, f, rfl⟩ := hc
      refine ⟨.halt (.stuck "getObj: a row of cells") w, Runs.still rfl fun τ => ?_, Out.dead (by trivial) _ _⟩
      simp only [Go.getObj, Sem.run, tpW, ho, tpR]
    · have hn : ∀ c e f, o ≠ .cells c e f := fun c e f q => hc ⟨c, e, f, q⟩
      refine ⟨.ok o w, Runs.still rfl fun τ => (getObj_run (u := tpW w τ) ho hn).1, ?_⟩
      have key : ∃ o', w'.heap[ρ r]? = some o' ∧ ObjR base ρ r o o' ∧ ∀ c e f, o' ≠ .cells c e f := by
        by_cases hb : base ≤ r
        · refine ⟨rO ρ o, hw.own r o hb ho, .inl ⟨hb, rfl, hn⟩, fun c e f q => ?_⟩
          cases o <;> simp [rO] at q
          exact hn _ _ _ rfl
        · obtain ⟨o', h1, h2⟩ := hw.sh r o (by omega) ho
          rcases h2 with ⟨_, c, e, f, f', q, _⟩ | ⟨_, q1, q2, q3⟩ | ⟨q1, _⟩
          · exact absurd q (hn _ _ _)
          · exact ⟨o', h1, .inr ⟨by omega, q1, q2, q3⟩, q2⟩
          · exact absurd ⟨by omega, q1⟩ hh
      obtain ⟨o', h1, h2, h3⟩ := key
      obtain ⟨g1, g2⟩ := getObj_run (P := P) h1 h3
      rw [g1, g2]
      refine ⟨⟨h2, hw.np r o ho, hw.vw r o ho⟩, hw, Nat.le_refl _, Gu.quiet fun _ e he => ?_⟩
      simp at he
      subst he
      exact evObj hw r _
theorem Par.getObjN_bnd {α β : Type} {R' : α → β → Prop} (r : Nat) {f : Obj → Sem α} {f' : Obj → Sem β} (h1 : ∀ o o', ObjR base ρ r o o' ∧ notP o → Par P base fl ρ R' (f o) (f' o')) (h2 : ∀ u (s' : Sem β), Par P base fl ρ R' (f (.view ⟨r, 0, none⟩ u)) s') : Par P base fl ρ R' (Go.getObj r >>= f) (Go.getObj (ρ r) >>= f') := by
  by_cases hh : Hid fl base r
  · intro w w' hw
    obtain ⟨u, q1, q2⟩ := hw.hid hh
    have hg : ∀ τ, (Go.getObj r).run P (tpW w τ) = .ok (.view ⟨r, 0, none⟩ u) (tpW w τ) := fun τ => (getObj_run (u := tpW w τ) q1 (fun c e f q => by cases q)).1
    have hr0 : Runs P fl.tp (Go.getObj r) w (.ok (.view ⟨r, 0, none⟩ u) w) := Runs.still rfl hg
    obtain ⟨x, h3, h4⟩ := h2 u (Go.getObj (ρ r) >>= f') w w' hw
    exact ⟨x, hr0.bind h3, h4⟩
  · exact Par.bind (Par.getObjN hh) fun o o' h => h1 o o' ⟨h.1, h.2.1⟩
theorem Par.getObj_bnd {α β : Type} {R' : α → β → Prop} (r : Nat) {f : Obj → Sem α} {f' : Obj → Sem β} (h1 : ∀ o o', ObjR base ρ r o o' → Par P base fl ρ R' (f o) (f' o')) (h2 : ∀ u (s' : Sem β), Par P base fl ρ R' (f (.view ⟨r, 0, none⟩ u)) s') : Par P base fl ρ R' (Go.getObj r >>= f) (Go.getObj (ρ r) >>= f') :=
  Par.getObjN_bnd r (fun o o' h => h1 o o' h.1) h2
theorem Par.getObj {r : Nat} (hh : ¬ Hid fl base r) : Par P base fl ρ (ObjR base ρ r) (Go.getObj r) (Go.getObj (ρ r)) := (Par.getObjN hh).mono fun _ _ h => h.1
theorem Par.setObj {r : Nat} (hb : base ≤ r) (o : Obj) (hnp : notP o := by trivial) (hvw : VwOk fl base o := by intro a u q; cases q) : Par P base fl ρ (fun _ _ => True) (Go.setObj r o) (Go.setObj (ρ r) (rO ρ o)) := fun w w' hw => by
  cases ho : w.heap[r]? with
  | none =>
    refine ⟨.halt (.stuck "setObj: no such block") w, Runs.still rfl fun τ => ?_, Out.dead (by trivial) _ _⟩
    simp only [Go.setObj, Sem.run, tpW, ho, tpR]
  | some o0 =>
    by_cases hc : ∃ c e f, o0 = .cells c e f
    · obtain ⟨c, e, f, rfl⟩ := hc
      refine ⟨.halt (.stuck "setObj: a row of cells") w, Runs.still rfl fun τ => ?_, Out.dead (by trivial) _ _⟩
      simp only [Go.setObj, Sem.run, tpW, ho, tpR]
    · have hn : ∀ c e f, o0 ≠ .cells c e f := fun c e f q => hc ⟨c, e, f, q⟩
      have h1 := hw.own r o0 hb ho
      have hn' : ∀ c e f, rO ρ o0 ≠ .cells c e f := fun c e f q => by
        cases o0 <;> simp [rO] at q
        exact hn _ _ _ rfl
      have run : ∀ (u : World) (k : Nat) (x y : Obj), u.heap[k]? = some x → (∀ c e f, x ≠ .cells c e f) → (Go.setObj k y).run P u = .ok () { u with heap := u.heap.setIfInBounds k y } ∧ (Go.setObj k y).events P u #[] = #[⟨.obj k, true, y.isChan⟩] := fun u k x y h hx => by
        constructor
        · cases x <;> first | exact absurd rfl (hx _ _ _) | simp only [Go.setObj, Sem.run, h]
        · cases x <;> first | exact absurd rfl (hx _ _ _) | simp [Sem.events, Go.setObj, Sem.runT, h, -Sem.runT_eq]
      refine ⟨.ok () { w with heap := w.heap.setIfInBounds r o }, Runs.still rfl fun τ => (run (tpW w τ) r o0 o ho hn).1, ?_⟩
      obtain ⟨g1, g2⟩ := run w' _ _ (rO ρ o) h1 hn'
      rw [g1, g2]
      refine ⟨trivial, hw.turn hb (lt_of_at ho) (at_set w.heap _ _ (lt_of_at ho)) (by simp) (at_set w'.heap _ _ (lt_of_at h1)) (by simp) hw.os hnp hvw, by simp, Gu.turn hw hb (lt_of_at ho) (at_set w'.heap _ _ (lt_of_at h1)) (by simp) rfl rfl fun _ e he => ?_⟩
      simp at he
      subst he
      exact .inl ⟨r, hb, rfl⟩
end
end Go.Proofs.Q
namespace Go.Proofs.Q
open Go
set_option linter.unusedVariables false
set_option linter.unusedSectionVars false
variable [Gds] [Tok]
section
variable {P : Program} {base : Nat} {fl : Fl} {ρ : Nat → Nat} {α β γ δ : Type} {R : α → β → Prop} {R' : γ → δ → Prop}
theorem Par.bnd {s : Sem α} {s' : Sem β} {f : α → Sem γ} {f' : β → Sem δ} (h : Par P base fl ρ R s s') (hf : ∀ a b, R a b → Par P base fl ρ R' (f a) (f' b)) : Par P base fl ρ R' (s >>= f) (s' >>= f') := Par.bind h hf
theorem Par.pur {a : α} {b : β} (h : R a b) : Par P base fl ρ R (Pure.pure a : Sem α) (Pure.pure b : Sem β) := Par.pure h
theorem Par.map {s : Sem α} {s' : Sem β} {f : α → γ} {f' : β → δ} (h : Par P base fl ρ R s s') (hf : ∀ a b, R a b → R' (f a) (f' b)) : Par P base fl ρ R' (f <$> s) (f' <$> s') := Par.bind h fun a b q => Par.pure (hf a b q)
theorem Par.stk {why : String} {s' : Sem β} : Par P base fl ρ R (stuck why : Sem α) s' := Par.dead (by trivial) _
theorem Par.uns {u : Unsupported} {s' : Sem β} (hu : deadH (.unsupported u) := by trivial) : Par P base fl ρ R (unsupported u : Sem α) s' := Par.dead hu _
abbrev PE (P : Program) (base : Nat) (fl : Fl) (ρ : Nat → Nat) {α : Type} (s s' : Sem α) : Prop := Par P base fl ρ (fun a b => b = a) s s'
abbrev PV (P : Program) (base : Nat) (fl : Fl) (ρ : Nat → Nat) (s s' : Sem Value) : Prop := Par P base fl ρ (fun v v' => v' = rV ρ v) s s'
abbrev PVs (P : Program) (base : Nat) (fl : Fl) (ρ : Nat → Nat) (s s' : Sem (Array Value)) : Prop := Par P base fl ρ (fun v v' => v' = v.map (rV ρ)) s s'
abbrev PA (P : Program) (base : Nat) (fl : Fl) (ρ : Nat → Nat) (s s' : Sem Addr) : Prop := Par P base fl ρ (fun v v' => v' = rA ρ v) s s'
structure PZ (P : Program) (fx : Nat) : Prop where
  zero : ∀ t i v, P.info? t = some i → i.zero = some v → ∀ ρ, rV ρ v = v
  low : P.globals.size + 1 ≤ fx
  vis : ∀ k, Gds.hv k = true → k < P.globals.size
theorem prog_par {f : Program → Sem α} {f' : Program → Sem β} (h : Par P base fl ρ R (f P) (f' P)) : Par P base fl ρ R (Go.program >>= f) (Go.program >>= f') := Par.program h
theorem underlying_par (t : TypeId) : PE P base fl ρ (underlying t) (underlying t) := by
  unfold underlying
  refine prog_par ?_
  split
  · exact Par.pur rfl
  · exact Par.stk
theorem typeInfo_eq {t : TypeId} : ∀ {f : TypeInfo → Sem α} {f' : TypeInfo → Sem β}, (∀ i, P.info? t = some i → Par P base fl ρ R (f i) (f' i)) → Par P base fl ρ R (typeInfo t >>= f) (typeInfo t >>= f') := fun {f f'} h => by
  unfold typeInfo
  rw [bind_assoc, bind_assoc]
  refine prog_par ?_
  split
  · rename_i i hi
    exact h i hi
  · exact Par.stk
theorem typeInfo_par (t : TypeId) : PE P base fl ρ (typeInfo t) (typeInfo t) := by
  unfold typeInfo
  refine prog_par ?_
  split
  · exact Par.pur rfl
  · exact Par.stk
theorem sizeOf_par (t : TypeId) : PE P base fl ρ (sizeOf t) (sizeOf t) := by
  unfold sizeOf
  refine Par.bnd (typeInfo_par t) ?_
  rintro _ i rfl
  exact Par.pur rfl
theorem isAgg_par (t : TypeId) : PE P base fl ρ (isAgg t) (isAgg t) := by
  unfold isAgg
  refine Par.bnd (underlying_par t) ?_
  rintro _ i rfl
  split <;> exact Par.pur rfl
theorem elemOf_par (t : TypeId) : PE P base fl ρ (elemOf t) (elemOf t) := by
  unfold elemOf
  refine Par.bnd (underlying_par t) ?_
  rintro _ i rfl
  split
  · exact Par.pur rfl
  · exact Par.stk
theorem typeStr_par (t : TypeId) : PE P base fl ρ (typeStr t) (typeStr t) := by
  unfold typeStr
  refine Par.bnd (typeInfo_par t) ?_
  rintro _ i rfl
  dsimp only
  split
  · exact Par.uns
  · exact Par.pur rfl
theorem zeroValue_par (hz : PZ P base) (t : TypeId) : Par P base fl ρ (fun v v' => v' = v ∧ rV ρ v = v) (zeroValue t) (zeroValue t) := by
  unfold zeroValue
  refine typeInfo_eq fun i hi => ?_
  split
  · rename_i v hv
    exact Par.pur ⟨rfl, hz.zero t i v hi hv ρ⟩
  · exact Par.uns
theorem zeroV_par (hz : PZ P base) (t : TypeId) : PV P base fl ρ (zeroValue t) (zeroValue t) := (zeroValue_par hz t).mono fun a b h => by rw [h.1, h.2]
theorem loadCellsFrom_par (a : Addr) : ∀ (n i : Nat) (acc : Array Value), PVs P base fl ρ (loadCellsFrom a i n acc) (loadCellsFrom (rA ρ a) i n (acc.map (rV ρ)))
  | 0, i, acc => Par.pur rfl
  | n + 1, i, acc => by
    unfold loadCellsFrom
    rw [← rA_add]
    refine Par.bnd (Par.load _ _) ?_
    rintro v _ rfl
    rw [← Array.map_push]
    exact loadCellsFrom_par a n (i + 1) _
theorem loadCells_par (a : Addr) (n : Nat) : PVs P base fl ρ (loadCells a n) (loadCells (rA ρ a) n) := by
  have h := loadCellsFrom_par (P := P) (base := base) (fl := fl) (ρ := ρ) a n 0 #[]
  rwa [Array.map_empty] at h
theorem storeCells_par (a : Addr) : ∀ (vs : List Value) (i : Nat), Par P base fl ρ (fun _ _ => True) (storeCells a vs i) (storeCells (rA ρ a) (vs.map (rV ρ)) i)
  | [], i => Par.pur trivial
  | v :: rest, i => by
    rw [List.map_cons]
    unfold storeCells
    rw [← rA_add]
    refine Par.bnd (Par.store _ _ _) ?_
    rintro _ _ -
    exact storeCells_par a rest (i + 1)
theorem loadVar_par (t : TypeId) (a : Addr) : PV P base fl ρ (loadVar t a) (loadVar t (rA ρ a)) := by
  unfold loadVar
  refine Par.bnd (isAgg_par t) ?_
  rintro _ b rfl
  split
  · refine Par.bnd (sizeOf_par t) ?_
    rintro _ n rfl
    refine Par.bnd (loadCells_par a n) ?_
    rintro cs _ rfl
    exact Par.pur (by simp [rV])
  · exact Par.load _ _
theorem storeVar_par (t : TypeId) (a : Addr) (v : Value) : Par P base fl ρ (fun _ _ => True) (storeVar t a v) (storeVar t (rA ρ a) (rV ρ v)) := by
  unfold storeVar
  refine Par.bnd (sizeOf_par t) ?_
  rintro _ n rfl
  have h1 : (rV ρ v).cells.size = v.cells.size := by rw [rV_cells]; simp
  rw [h1]
  have h2 : (rV ρ v).cells.toList = v.cells.toList.map (rV ρ) := by rw [rV_cells]; simp
  rw [h2]
  split
  · exact Par.bnd (R := fun _ _ => True) Par.stk (fun _ _ _ => storeCells_par a _ 0)
  · exact storeCells_par a _ 0
theorem newRow_par (e : TypeId) (cs : Array Value) : Par P base fl ρ (fun a b => b = rA ρ a ∧ base ≤ a.block) (newRow e cs) (newRow e (cs.map (rV ρ))) := by
  unfold newRow
  refine Par.bnd (Par.newObj (.cells cs e)) ?_
  rintro r _ ⟨rfl, hb⟩
  exact Par.pur ⟨rfl, hb⟩
theorem newVar_par (t : TypeId) (v : Value) : Par P base fl ρ (fun a b => b = rA ρ a ∧ base ≤ a.block) (newVar t v) (newVar t (rV ρ v)) := by
  unfold newVar
  rw [rV_cells]
  exact newRow_par t _
theorem part_par (t : TypeId) (cs : Array Value) (off : Nat) : PV P base fl ρ (part t cs off) (part t (cs.map (rV ρ)) off) := by
  unfold part
  refine Par.bnd (isAgg_par t) ?_
  rintro _ b rfl
  split
  · refine Par.bnd (sizeOf_par t) ?_
    rintro _ n rfl
    exact Par.pur (by simp [rV, Array.map_extract])
  · simp only [Array.getElem?_map]
    cases cs[off]? with
    | none => exact Par.stk
    | some v => exact Par.pur rfl
theorem goPanic_par (v : Value) : Par P base fl ρ R (goPanic v : Sem α) (goPanic (rV ρ v) : Sem β) := Par.panic v
theorem typeHandle_par (hz : PZ P base) (h : ∀ k, k < base → Gds.hv k = false → ρ k = k) (t : TypeId) : rV ρ (typeHandle P t) = typeHandle P t := by
  have := hz.low
  have hv : Gds.hv P.globals.size = false := by
    cases hq : Gds.hv P.globals.size with
    | false => rfl
    | true => exact absurd (hz.vis _ hq) (Nat.lt_irrefl _)
  simp [typeHandle, rV, rA, h P.globals.size (by omega) hv]
end
end Go.Proofs.Q
namespace Go.Proofs.Q
open Go
set_option linter.unusedVariables false
set_option linter.unusedSectionVars false
variable [Gds] [Tok]
section
variable {P : Program} {base : Nat} {fl : Fl} {ρ : Nat → Nat} {α β γ δ : Type} {R : α → β → Prop} {R' : γ → δ → Prop}
theorem Par.ren {s : Sem α} {s' : Sem β} (h : (∀ a b, ρ a = ρ b → a = b) → (∀ k, k < base → Gds.hv k = false → ρ k = k) → Par P base fl ρ R s s') : Par P base fl ρ R s s' := fun w w' hw => h hw.inj hw.fix w w' hw
theorem HR.gs (hz : PZ P base) {w w' : World} (hw : HR base fl ρ w w') (k : Nat) : ρ k < P.globals.size ↔ k < P.globals.size := by
  have hl := hz.low
  have hcb : P.globals.size < fl.cb := by
    have hv : Gds.hv P.globals.size = false := by
      cases hq : Gds.hv P.globals.size with
      | false => rfl
      | true => exact absurd (hz.vis _ hq) (Nat.lt_irrefl _)
    have := hw.lo P.globals.size (by omega)
    rwa [hw.fix _ (by omega) hv] at this
  constructor
  · intro h
    have hb : k < base := (hw.shared (k := k)).1 (by omega)
    cases hv : Gds.hv k with
    | true => exact hz.vis k hv
    | false => rw [hw.fix k hb hv] at h; exact h
  · intro h
    cases hv : Gds.hv k with
    | true => exact hz.vis _ (hw.hh k (by omega) hv)
    | false => rw [hw.fix k (by omega) hv]; exact h
theorem Par.renG (hz : PZ P base) {s : Sem α} {s' : Sem β} (h : (∀ a b, ρ a = ρ b → a = b) → (∀ k, ρ k < P.globals.size ↔ k < P.globals.size) → Par P base fl ρ R s s') : Par P base fl ρ R s s' := fun w w' hw => h hw.inj (hw.gs hz) w w' hw
theorem panic_par (v : Value) (h : rV ρ v = v) : Par P base fl ρ R (goPanic v : Sem α) (goPanic v : Sem β) := by
  have := Par.panic (P := P) (base := base) (fl := fl) (ρ := ρ) (R := R) v
  rwa [h] at this
theorem newVarC (t : TypeId) (v : Value) (h : rV ρ v = v) : Par P base fl ρ (fun a b => b = rA ρ a ∧ base ≤ a.block) (newVar t v) (newVar t v) := by
  have := newVar_par (P := P) (base := base) (fl := fl) (ρ := ρ) t v
  rwa [h] at this
theorem runtimePanic_par (hz : PZ P base) (e : RuntimeError) : Par P base fl ρ R (runtimePanic e : Sem α) (runtimePanic e : Sem β) := Par.ren fun hi hf => by
  unfold runtimePanic
  refine prog_par ?_
  dsimp only
  have hh := typeHandle_par (P := P) hz hf
  cases e with
  | bounds x y s c => exact panic_par _ (by simp [rV])
  | error m => exact panic_par _ (by simp [rV, strVal])
  | plain m => exact panic_par _ (by simp [rV, strVal])
  | nilDeref => exact panic_par _ (by simp [rV, strVal])
  | unhashable t => exact panic_par _ (by simp [rV, hh])
  | panicNil =>
    refine Par.bnd (elemOf_par _) ?_
    rintro _ t rfl
    have h := newVar_par (P := P) (base := base) (fl := fl) (ρ := ρ) t (.agg #[])
    rw [show rV ρ (.agg #[]) = .agg #[] by simp [rV]] at h
    refine Par.bnd h ?_
    rintro r _ ⟨rfl, -⟩
    have := Par.panic (P := P) (base := base) (fl := fl) (ρ := ρ) (R := R) (.iface P.rt.panicNilError (.pointer (some r)))
    simpa [rV, goPanic] using this
  | typeAssertion i c a m =>
    refine Par.bnd (elemOf_par _) ?_
    rintro _ t rfl
    refine Par.bnd (newVarC t _ (by cases i <;> cases c <;> simp [rV, hh, strVal])) ?_
    rintro r _ ⟨rfl, -⟩
    have := Par.panic (P := P) (base := base) (fl := fl) (ρ := ρ) (R := R) (.iface P.rt.typeAssertionError (.pointer (some r)))
    simpa [rV, goPanic] using this
theorem panicString_par (m : String) : Par P base fl ρ R (panicString m : Sem α) (panicString m : Sem β) := by
  unfold panicString
  refine prog_par ?_
  exact panic_par _ (by simp [rV, strVal])
theorem boundsPanic_par (hz : PZ P base) (k : IntKind) (x y : Int) (c : BoundsCode) : Par P base fl ρ R (boundsPanic k x y c : Sem α) (boundsPanic k x y c : Sem β) := by
  unfold boundsPanic
  dsimp only
  split
  · refine Par.bnd (Par.map (R' := fun a b => b = a) (Par.choose _) (fun a b h => by rw [h])) ?_
    rintro _ b rfl
    exact runtimePanic_par hz _
  · exact Par.bnd (Par.pur rfl) (R := fun a b => b = a) (by rintro _ b rfl; exact runtimePanic_par hz _)
theorem asIntOf_par (v : Value) : PE P base fl ρ (asIntOf v) (asIntOf (rV ρ v)) := by
  cases v with
  | int k n => simp only [rV]; exact Par.pur rfl
  | pointer a => cases a <;> simp only [rV, Option.map_none, Option.map_some] <;> first | exact Par.stk | exact Par.uns
  | _ => exact Par.stk
theorem asInt_par (v : Value) : PE P base fl ρ (asInt v) (asInt (rV ρ v)) := by
  unfold asInt
  refine Par.bnd (asIntOf_par v) ?_
  rintro _ b rfl
  exact Par.pur rfl
theorem asBool_par (v : Value) : PE P base fl ρ (asBool v) (asBool (rV ρ v)) := by
  cases v with
  | bool b => simp only [rV]; exact Par.pur rfl
  | _ => exact Par.stk
theorem asString_par (v : Value) : PE P base fl ρ (asString v) (asString (rV ρ v)) := by
  cases v with
  | string b => simp only [rV]; exact Par.pur rfl
  | _ => exact Par.stk
theorem asAgg_par (v : Value) : PVs P base fl ρ (asAgg v) (asAgg (rV ρ v)) := by
  cases v with
  | agg b => simp only [rV]; exact Par.pur rfl
  | _ => exact Par.stk
theorem asAddr_par (hz : PZ P base) (v : Value) : PA P base fl ρ (asAddr v) (asAddr (rV ρ v)) := by
  cases v with
  | pointer a =>
    cases a with
    | none => simp only [rV, Option.map_none]; unfold asAddr; exact runtimePanic_par hz _
    | some a => simp only [rV, Option.map_some]; exact Par.pur rfl
  | _ => exact Par.stk
theorem sureAddr_par (v : Value) : PA P base fl ρ (Instr.sureAddr v) (Instr.sureAddr (rV ρ v)) := by
  cases v with
  | pointer a =>
    cases a with
    | none => simp only [rV, Option.map_none]; exact Par.stk
    | some a => simp only [rV, Option.map_some]; exact Par.pur rfl
  | _ => exact Par.stk
theorem viewAt_hid {w : World} {r u : Nat} (h1 : w.heap[r]? = some (.view ⟨r, 0, none⟩ u)) : (viewAt r).run P w = .ok (some (⟨r, 0, none⟩, u)) w ∧ (viewAt r).events P w #[] = #[⟨.obj r, false, false⟩] := by
  have h2 : w.shape? r = none := by simp [World.shape?, h1]
  constructor
  · simp [viewAt, Bind.bind, Sem.bind, Pure.pure, Go.shape, Go.getObj, Sem.run, h1, h2]
  · simp [viewAt, Bind.bind, Sem.bind, Pure.pure, Go.shape, Go.getObj, Sem.events, Sem.runT, h1, h2, Obj.isChan, -Sem.runT_eq]
theorem viewAt_cells {w : World} {r : Nat} {c : Array Value} {e : TypeId} {f : Nat × Nat} (h1 : w.heap[r]? = some (.cells c e f)) : (viewAt r).run P w = .ok none w ∧ (viewAt r).events P w #[] = #[] := by
  have h2 : w.shape? r = some (e, c.size) := by simp [World.shape?, h1]
  constructor
  · simp [viewAt, Bind.bind, Sem.bind, Pure.pure, Go.shape, Sem.run, h2]
  · simp [viewAt, Bind.bind, Sem.bind, Pure.pure, Go.shape, Sem.events, Sem.runT, h2, -Sem.runT_eq]
theorem viewAt_par (r : Nat) : Par P base fl ρ (fun x y => (y = x.map (fun z => (rA ρ z.1, z.2)) ∧ (x = none → ¬ Hid fl base r) ∧ ∀ s u, x = some (s, u) → Hid fl base s.block → s.off = 0 ∧ s.spot = none) ∨ (∃ u, Hid fl base r ∧ x = some (⟨r, 0, none⟩, u) ∧ y = none)) (viewAt r) (viewAt (ρ r)) := by
  by_cases hh : Hid fl base r
  · intro w w' hw
    obtain ⟨u, h1, h2⟩ := hw.hid hh
    refine ⟨.ok (some (⟨r, 0, none⟩, u)) w, Runs.still rfl fun τ => (viewAt_hid (w := tpW w τ) h1).1, ?_⟩
    rcases h2 with ⟨c, e, f, h2, hc⟩ | h2
    · rw [(viewAt_cells h2).1, (viewAt_cells h2).2]
      exact ⟨.inr ⟨u, hh, rfl, rfl⟩, hw, Nat.le_refl _, Gu.refl _ _⟩
    · rw [(viewAt_hid h2).1, (viewAt_hid h2).2]
      refine ⟨.inl ⟨rfl, fun q => (by cases q), fun s v q _ => (by cases q; exact ⟨rfl, rfl⟩)⟩, hw, Nat.le_refl _, Gu.quiet fun _ e he => ?_⟩
      simp at he
      subst he
      exact evObj hw r _
  unfold viewAt
  refine Par.bnd (Par.shape hh) ?_
  rintro _ s rfl
  split
  · exact Par.pur (.inl ⟨rfl, fun _ => hh, fun s u q => (by cases q)⟩)
  · refine Par.bnd (Par.getObjN hh) ?_
    rintro o o' ⟨⟨h1, rfl, h3⟩ | ⟨h1, rfl, h3, h4, h5, h6⟩, -, hv⟩
    · cases o with
      | view at_ as_ => exact Par.pur (.inl ⟨rfl, fun q => (by cases q), fun s u q hs => (by cases q; exact hv _ _ rfl hs)⟩)
      | cells c e f => exact absurd rfl (h3 _ _ _)
      | _ => exact Par.pur (.inl ⟨rfl, fun _ => hh, fun s u q => (by cases q)⟩)
    · cases o' <;> first | exact Par.pur (.inl ⟨rfl, fun _ => hh, fun s u q => (by cases q)⟩) | exact absurd rfl (h4 _ _)
theorem numberAt_hid {w : World} {r u : Nat} {a : Addr} (h1 : w.heap[r]? = some (.view a u)) : (numberAt r).run P w = .ok none w ∧ (numberAt r).events P w #[] = #[⟨.obj r, false, false⟩] := by
  have h2 : w.shape? r = none := by simp [World.shape?, h1]
  constructor
  · simp [numberAt, Bind.bind, Sem.bind, Pure.pure, Go.shape, Go.getObj, Sem.run, h1, h2]
  · simp [numberAt, Bind.bind, Sem.bind, Pure.pure, Go.shape, Go.getObj, Sem.events, Sem.runT, h1, h2, Obj.isChan, -Sem.runT_eq]
theorem numberAt_cells {w : World} {r : Nat} {c : Array Value} {e : TypeId} {f : Nat × Nat} (h1 : w.heap[r]? = some (.cells c e f)) : (numberAt r).run P w = .ok none w ∧ (numberAt r).events P w #[] = #[] := by
  have h2 : w.shape? r = some (e, c.size) := by simp [World.shape?, h1]
  constructor
  · simp [numberAt, Bind.bind, Sem.bind, Pure.pure, Go.shape, Sem.run, h2]
  · simp [numberAt, Bind.bind, Sem.bind, Pure.pure, Go.shape, Sem.events, Sem.runT, h2, -Sem.runT_eq]
theorem numberAt_par (r : Nat) : Par P base fl ρ (fun x y => y = x.map fun z => (rA ρ z.1, z.2)) (numberAt r) (numberAt (ρ r)) := by
  by_cases hh : Hid fl base r
  · intro w w' hw
    obtain ⟨u, h1, h2⟩ := hw.hid hh
    refine ⟨.ok none w, Runs.still rfl fun τ => (numberAt_hid (w := tpW w τ) h1).1, ?_⟩
    rcases h2 with ⟨c, e, f, h2, hc⟩ | h2
    · rw [(numberAt_cells h2).1, (numberAt_cells h2).2]
      exact ⟨rfl, hw, Nat.le_refl _, Gu.refl _ _⟩
    · rw [(numberAt_hid h2).1, (numberAt_hid h2).2]
      refine ⟨rfl, hw, Nat.le_refl _, Gu.quiet fun _ e he => ?_⟩
      simp at he
      subst he
      exact evObj hw r _
  unfold numberAt
  refine Par.bnd (Par.shape hh) ?_
  rintro _ s rfl
  split
  · exact Par.pur rfl
  · refine Par.bnd (Par.getObj hh) ?_
    rintro o o' (⟨h1, rfl, h3⟩ | ⟨h1, rfl, h3, h4, h5, h6⟩)
    · cases o <;> simp only [rO] <;> first | exact Par.pur rfl | exact absurd rfl (h3 _ _ _)
    · cases o' <;> first | exact Par.pur rfl | exact absurd rfl (h5 _ _)
theorem cellsIn_hid {w : World} {r u : Nat} {a : Addr} (h1 : w.heap[r]? = some (.view a u)) : (cellsIn r).run P w = .ok none w ∧ (cellsIn r).events P w #[] = #[⟨.obj r, false, false⟩] := by
  have h2 : w.shape? r = none := by simp [World.shape?, h1]
  constructor
  · simp [cellsIn, Bind.bind, Sem.bind, Pure.pure, Go.shape, Go.getObj, Sem.run, h1, h2]
  · simp [cellsIn, Bind.bind, Sem.bind, Pure.pure, Go.shape, Go.getObj, Sem.events, Sem.runT, h1, h2, Obj.isChan, -Sem.runT_eq]
theorem cellsIn_cells {w : World} {r : Nat} {c : Array Value} {e : TypeId} {f : Nat × Nat} (h1 : w.heap[r]? = some (.cells c e f)) : (cellsIn r).run P w = .ok (some c.size) w ∧ (cellsIn r).events P w #[] = #[] := by
  have h2 : w.shape? r = some (e, c.size) := by simp [World.shape?, h1]
  constructor
  · simp [cellsIn, Bind.bind, Sem.bind, Pure.pure, Go.shape, Sem.run, h2]
  · simp [cellsIn, Bind.bind, Sem.bind, Pure.pure, Go.shape, Sem.events, Sem.runT, h2, -Sem.runT_eq]
theorem cellsIn_par (r : Nat) : Par P base fl ρ (fun x y => y = x ∨ (Hid fl base r ∧ x = none ∧ ∃ n, y = some n ∧ 0 < n)) (cellsIn r) (cellsIn (ρ r)) := by
  by_cases hh : Hid fl base r
  · intro w w' hw
    obtain ⟨u, h1, h2⟩ := hw.hid hh
    refine ⟨.ok none w, Runs.still rfl fun τ => (cellsIn_hid (w := tpW w τ) h1).1, ?_⟩
    rcases h2 with ⟨c, e, f, h2, hc⟩ | h2
    · rw [(cellsIn_cells h2).1, (cellsIn_cells h2).2]
      exact ⟨.inr ⟨hh, rfl, _, rfl, hc⟩, hw, Nat.le_refl _, Gu.refl _ _⟩
    · rw [(cellsIn_hid h2).1, (cellsIn_hid h2).2]
      refine ⟨.inl rfl, hw, Nat.le_refl _, Gu.quiet fun _ e he => ?_⟩
      simp at he
      subst he
      exact evObj hw r _
  unfold cellsIn
  refine Par.bnd (Par.shape hh) ?_
  rintro _ s rfl
  split
  · exact Par.pur (.inl rfl)
  · refine Par.bnd (Par.getObj hh) ?_
    rintro o o' (⟨h1, rfl, h3⟩ | ⟨h1, rfl, h3, h4, h5, h6⟩)
    · cases o <;> simp only [rO] <;> first | exact Par.pur (.inl (by simp)) | exact absurd rfl (h3 _ _ _)
    · cases o' <;> first | exact Par.pur (.inl rfl) | exact absurd rfl (h6 _ _)
theorem noView_par (a : Addr) : Par P base fl ρ (fun _ _ => ¬ Hid fl base a.block) (noView a) (noView (rA ρ a)) := by
  unfold noView
  rw [show (rA ρ a).block = ρ a.block from rfl]
  by_cases hh : Hid fl base a.block
  · intro w w' hw
    obtain ⟨u, h1, _⟩ := hw.hid hh
    refine ⟨.halt (.unsupported (.unsafePointer "memory seen as another type")) w, Runs.still rfl fun τ => ?_, Out.dead (by trivial) _ _⟩
    have := (viewAt_hid (P := P) (w := tpW w τ) h1).1
    show ((viewAt a.block).bind _).run P (tpW w τ) = _
    rw [Sem.run_bind', this]
    rfl
  refine Par.bnd (viewAt_par a.block) ?_
  rintro x _ (⟨rfl, -⟩ | ⟨_, q, _⟩)
  · cases x with
    | none => exact Par.pur hh
    | some x => exact Par.uns
  · exact absurd q hh
theorem behindNumber_par (a : Addr) : Par P base fl ρ (fun x y => y = (rA ρ x.1, x.2)) (behindNumber a) (behindNumber (rA ρ a)) := by
  unfold behindNumber
  rw [show (rA ρ a).block = ρ a.block from rfl]
  refine Par.bnd (numberAt_par a.block) ?_
  rintro x _ rfl
  cases x <;> exact Par.pur rfl
theorem byteOf_par (a : Addr) : PE P base fl ρ (byteOf a) (byteOf (rA ρ a)) := by
  unfold byteOf
  rw [show (rA ρ a).block = ρ a.block from rfl, show (rA ρ a).spot = a.spot from rfl, show (rA ρ a).off = a.off from rfl]
  cases a.spot with
  | some s => exact Par.pur rfl
  | none =>
    refine prog_par ?_
    refine Par.bnd (noView_par a) ?_
    rintro _ _ hh
    refine Par.bnd (Par.shape hh) ?_
    rintro _ s rfl
    split
    · dsimp only
      split
      · exact Par.pur rfl
      · split
        · exact Par.pur rfl
        · exact Par.stk
    · exact Par.stk
theorem partAt_par (a : Addr) (c b : Nat) : PA P base fl ρ (partAt a c b) (partAt (rA ρ a) c b) := by
  unfold partAt
  refine Par.bnd (byteOf_par a) ?_
  rintro _ x rfl
  dsimp only
  have h := byteOf_par (P := P) (base := base) (fl := fl) (ρ := ρ) { block := a.block, off := a.off + c }
  refine Par.bnd h ?_
  rintro _ y rfl
  split
  · rename_i q
    refine Par.pur ?_
    rfl
  · exact Par.pur rfl
theorem fieldPlace_par (a : Addr) (f : Field) : PA P base fl ρ (fieldPlace a f) (fieldPlace (rA ρ a) f) := by
  unfold fieldPlace
  refine Par.bnd (sizeOf_par _) ?_
  rintro _ n rfl
  split
  · exact partAt_par a _ _
  · exact Par.pur (rA_add ρ a _).symm
theorem variablesAt_par (a : Addr) (u : TypeId) (n : Nat) : Par P base fl ρ (fun x y => (¬ Hid fl base a.block ∧ y = x) ∨ (Hid fl base a.block ∧ x = false)) (variablesAt a u n) (variablesAt (rA ρ a) u n) := by
  unfold variablesAt
  refine prog_par ?_
  by_cases hh : Hid fl base a.block
  · refine Par.bnd (Par.shape_hid hh) ?_
    rintro _ s ⟨rfl, -⟩
    dsimp only
    split <;> exact Par.pur (.inr ⟨hh, rfl⟩)
  refine Par.bnd (Par.shape hh) ?_
  rintro _ s rfl
  split <;> exact Par.pur (.inl ⟨hh, rfl⟩)
theorem loadBytes_par : ∀ (n : Nat) (a : Addr) (acc : ByteArray), PE P base fl ρ (loadBytes a acc n) (loadBytes (rA ρ a) acc n)
  | 0, a, acc => Par.pur rfl
  | n + 1, a, acc => by
    unfold loadBytes
    refine Par.bnd (Par.load a _) ?_
    rintro v _ rfl
    cases v with
    | int k b =>
      simp only [rV]
      cases k <;> first | exact Par.stk | (rw [← rA_add]; exact loadBytes_par n _ _)
    | _ => exact Par.stk
theorem askRoom_par (n : Nat) : Par P base fl ρ (fun _ _ => True) (askRoom n) (askRoom n) := by
  unfold askRoom
  split
  · exact Par.mark (.inr rfl)
  · exact Par.pur trivial
theorem markStringish_par {a : Addr} (hh : ¬ Hid fl base a.block) : Par P base fl ρ (fun _ _ => True) (markStringish a) (markStringish (rA ρ a)) := by
  unfold markStringish
  refine (Par.bindW (Par.shape hh) ?_ : Par P base fl ρ _ (Sem.bind (Go.shape a.block) _) (Sem.bind (Go.shape (ρ a.block)) _))
  rintro _ s u' w1 w1' rfl hrun
  have hrun : (Result.ok (u'.shape? (ρ a.block)) u' : Result (Option (TypeId × Nat))) = .ok s w1' := hrun
  cases hrun
  split
  · rename_i x t n hs
    intro hw
    refine Par.freezeAt { block := a.block, off := n } 1 hh (fun hb c e f hc => ?_) hw
    unfold World.shape? at hs
    rw [hc] at hs
    simp at hs
    simp [hs.2]
  · exact (Par.pur trivial : Par P base fl ρ _ _ _) _ _
end
end Go.Proofs.Q
