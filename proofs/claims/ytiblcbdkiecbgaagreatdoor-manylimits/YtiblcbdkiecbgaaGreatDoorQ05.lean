import Derived.Test.YtiblcbdkiecbgaaGreatDoorQ04
import Derived.Conc.Own
namespace Go.Proofs.Q
open Go
set_option linter.unusedVariables false
set_option linter.unusedSectionVars false
variable [Gds] [Tok]
section
variable {P : Program} {base : Nat} {fl : Fl} {ρ : Nat → Nat} {α β γ δ : Type} {R : α → β → Prop} {R' : γ → δ → Prop}
theorem at_map (args : Array Value) (i : Nat) : (args.map (rV ρ))[i]? = (args[i]?).map (rV ρ) := Array.getElem?_map ..
theorem lenOf_par (x : Value) : PE P base fl ρ (Builtin.lenOf x) (Builtin.lenOf (rV ρ x)) := by
  unfold Builtin.lenOf
  cases x <;> simp only [rV] <;> first | exact Par.pur rfl | exact Par.stk
theorem firstCells_par (s n : Nat) (x : Value) : PVs P base fl ρ (Builtin.firstCells s n x) (Builtin.firstCells s n (rV ρ x)) := by
  cases x with
  | slice a l c =>
    cases a with
    | none => simp only [rV, Option.map_none]; exact Par.pur (by simp)
    | some a => simp only [rV, Option.map_some]; exact loadCells_par _ _
  | string b =>
    simp only [rV]
    refine Par.pur ?_
    rw [map_plain]
    intro v hv
    simp only [Array.mem_map] at hv
    obtain ⟨_, _, rfl⟩ := hv
    simp [rV]
  | _ => exact Par.stk
theorem zeroCells_plain {zero : Array Value} (h : zero.map (rV ρ) = zero) (n : Nat) : (Builtin.zeroCells zero n).map (rV ρ) = Builtin.zeroCells zero n := zeros_plain h rV_default _
def RO (P : Program) (s : Sem α) : Prop := ∀ u, ∃ a, (∀ τ, s.run P (tpW u τ) = .ok a (tpW u τ)) ∧ s.events P u #[] = #[]
theorem RO.bind {s : Sem α} {f : α → Sem γ} (h : RO P s) (hf : ∀ a, RO P (f a)) : RO P (s >>= f) := fun u => by
  obtain ⟨a, h1, h2⟩ := h u
  obtain ⟨b, h3, h4⟩ := hf a u
  refine ⟨b, fun τ => ?_, ?_⟩
  · show (s.bind f).run P _ = _
    rw [Sem.run_bind', h1]
    exact h3 τ
  · show (s.bind f).events P _ _ = _
    rw [Sem.events_bind', h2]
    have := h1 u.tape
    rw [show s.run P u = .ok a u from this]
    exact h4
theorem RO.pure (a : α) : RO P (Pure.pure a : Sem α) := fun u => ⟨a, fun τ => rfl, rfl⟩
theorem RO.shape (r : Nat) : RO P (Go.shape r) := fun u => ⟨u.shape? r, fun τ => rfl, rfl⟩
theorem RO.frozen (a : Addr) : RO P (Go.frozen a) := fun u => ⟨u.frozen? a, fun τ => rfl, rfl⟩
theorem Par.ro {s : Sem α} {s' : Sem β} (h : RO P s) (h' : RO P s') : Par P base fl ρ (fun _ _ => True) s s' := fun w w' hw => by
  obtain ⟨a, h1, h2⟩ := h w
  obtain ⟨b, h3, h4⟩ := h' w'
  refine ⟨.ok a w, Runs.still rfl fun τ => h1 τ, ?_⟩
  rw [show s'.run P w' = .ok b w' from h3 w'.tape, h4]
  exact ⟨trivial, hw, Nat.le_refl _, Gu.refl _ _⟩
theorem holdsCells_ro (a : Addr) (c : Nat) : RO P (Builtin.holdsCells a c) := by
  unfold Builtin.holdsCells
  refine RO.bind (RO.shape _) fun s => ?_
  split <;> exact RO.pure _
theorem mayShare_ro (size sLen n : Nat) (b : Option Addr) (x : Value) : RO P (Builtin.mayShare size sLen n b x) := by
  unfold Builtin.mayShare
  have hx : ∀ t : Bool, RO P (if (!t) = true then Pure.pure true else match x with
      | .slice (some b') _ _ => do pure (!(← Builtin.holdsCells b' (n * size)) || b.any (·.block == b'.block))
      | _ => Pure.pure false : Sem Bool) := fun t => by
    split
    · exact RO.pure _
    · split
      · exact RO.bind (holdsCells_ro _ _) fun _ => RO.pure _
      · exact RO.pure _
  cases b with
  | none => exact RO.bind (RO.pure _) hx
  | some a => exact RO.bind (holdsCells_ro _ _) fun p => RO.bind (RO.frozen _) fun q => RO.bind (RO.pure _) hx
theorem markDead {m : Mark} {u : Unsupported} {s' : Sem δ} {f : Unit → Sem γ} (hu : deadH (.unsupported u) := by trivial) : Par P base fl ρ R' (Go.mark m >>= fun _ => (unsupported u : Sem Unit) >>= f) s' := fun w w' hw =>
  ⟨.halt (.unsupported u) w, Runs.still rfl fun τ => rfl, Out.dead hu _ _⟩
theorem markDead2 {m : Mark} {u : Unsupported} {s' : Sem δ} (hu : deadH (.unsupported u) := by trivial) : Par P base fl ρ R' (Go.mark m >>= fun _ => (unsupported u : Sem γ)) s' := fun w w' hw =>
  ⟨.halt (.unsupported u) w, Runs.still rfl fun τ => rfl, Out.dead hu _ _⟩
theorem append_par (hz : PZ P base) (ts : Array TypeId) (t : TypeId) (args : Array Value) : PV P base fl ρ (Builtin.append_ ts t args) (Builtin.append_ ts t (args.map (rV ρ))) := by
  unfold Builtin.append_
  rw [at_map, at_map]
  cases ts[0]? with
  | none => exact Par.stk
  | some sT =>
  cases args[0]? with
  | none => exact Par.stk
  | some s =>
  cases args[1]? with
  | none => exact Par.stk
  | some x =>
  simp only [Option.map_some]
  refine PE.then (underlying_par sT) fun u => ?_
  cases u <;> (try exact Par.stk)
  rename_i elem
  cases s <;> (try exact Par.stk)
  rename_i b sLen sCap
  simp only [rV]
  refine PE.then (sizeOf_par _) fun size => ?_
  have hz0 := zeroValue_par (fl := fl) (ρ := ρ) hz elem
  have hap : ∀ (zs : Bool) (n : Nat), PVs P base fl ρ (if (!zs) = true then Builtin.firstCells size n x else if n * size = 0 then Pure.pure #[] else do pure (Builtin.zeroCells (← zeroValue elem).cells n)) (if (!zs) = true then Builtin.firstCells size n (rV ρ x) else if n * size = 0 then Pure.pure #[] else do pure (Builtin.zeroCells (← zeroValue elem).cells n)) := fun zs n => by
    refine Par.ite (fun _ => firstCells_par _ _ _) (fun _ => Par.ite (fun _ => Par.pur (by simp)) (fun _ => ?_))
    refine Par.bnd hz0 ?_
    rintro _ v ⟨rfl, hv⟩
    exact Par.pur (zeroCells_plain (plain_map (cs := #[]) hv) n).symm
  have hfs : PVs P base fl ρ (Builtin.firstCells size sLen (.slice b sLen sCap)) (Builtin.firstCells size sLen (.slice (b.map (rA ρ)) sLen sCap)) := by
    have := firstCells_par (P := P) (base := base) (fl := fl) (ρ := ρ) size sLen (.slice b sLen sCap)
    simpa only [rV] using this
  have hrow : ∀ (old new : Array Value) (v : Value) (k : Nat), rV ρ v = v → Par P base fl ρ (fun a b => b = rA ρ a ∧ base ≤ a.block) (newRow elem (old ++ new ++ Builtin.zeroCells v.cells k)) (newRow elem (old.map (rV ρ) ++ new.map (rV ρ) ++ Builtin.zeroCells v.cells k)) := fun old new v k hv => by
    have := newRow_par (P := P) (base := base) (fl := fl) (ρ := ρ) elem (old ++ new ++ Builtin.zeroCells v.cells k)
    rwa [Array.map_append, Array.map_append, zeroCells_plain (plain_map (cs := #[]) hv)] at this
  split
  all_goals
    repeat' (first
      | with_reducible exact Par.uns
      | with_reducible exact Par.stk
      | with_reducible exact rp_par hz _
      | with_reducible exact runtimePanic_par hz _
      | with_reducible exact markDead
      | (with_reducible refine PE.then (underlying_par _) fun _ => ?_)
      | (with_reducible refine PE.then (typeInfo_par _) fun _ => ?_)
      | (with_reducible refine PE.then (Par.choose _) fun _ => ?_)
      | (with_reducible refine PE.then (PE.pur _) fun _ => ?_)
      | (with_reducible refine Par.bnd (asInt_par x) ?_; rintro _ _ rfl)
      | (with_reducible refine Par.bnd (lenOf_par x) ?_; rintro _ _ rfl)
      | (with_reducible refine Par.bnd (askRoom_par _) ?_; rintro _ _ -)
      | (with_reducible refine Par.bnd hfs ?_; rintro _ _ rfl)
      | (with_reducible refine Par.bnd (hap _ _) ?_; rintro _ _ rfl)
      | (with_reducible refine Par.bnd hz0 ?_; rintro _ _ ⟨rfl, _⟩)
      | (with_reducible refine Par.ite (fun _ => ?_) (fun _ => ?_)))
  all_goals first
    | (refine Par.bnd (hrow _ _ _ _ (by assumption)) ?_
       rintro a _ ⟨rfl, -⟩
       exact Par.pur (by simp [rV]))
    | (refine Par.bnd (R := fun _ _ => False) (Par.ite (fun _ => runtimePanic_par hz _) (fun _ => Par.bnd (Par.ro (mayShare_ro _ _ _ _ _) (mayShare_ro _ _ _ _ _)) (fun p q _ => ?_))) (fun _ _ h => h.elim)
       cases p
       · exact markDead2
       · exact Par.uns)
    | (cases b with
       | none => exact Par.pur (by simp [rV])
       | some a =>
         simp only [Option.map_some, Array.toList_map]
         rw [← rA_add]
         refine Par.bnd (storeCells_par _ _ _) ?_
         rintro _ _ -
         exact Par.pur (by simp [rV]))
theorem copy_par (ts : Array TypeId) (t : TypeId) (args : Array Value) : PV P base fl ρ (Builtin.copy_ ts t args) (Builtin.copy_ ts t (args.map (rV ρ))) := by
  unfold Builtin.copy_
  rw [at_map, at_map]
  cases ts[0]? with
  | none => exact Par.stk
  | some sT =>
  cases args[0]? with
  | none => exact Par.stk
  | some s =>
  cases args[1]? with
  | none => exact Par.stk
  | some x =>
  simp only [Option.map_some]
  refine PE.then (underlying_par sT) fun u => ?_
  cases u <;> (try exact Par.stk)
  rename_i elem
  cases s <;> (try exact Par.stk)
  rename_i b sLen sCap
  simp only [rV]
  refine Par.bnd (lenOf_par x) ?_
  rintro _ n rfl
  refine PE.then (sizeOf_par _) fun size => ?_
  refine Par.bnd (firstCells_par _ _ _) ?_
  rintro cs _ rfl
  cases b with
  | none => exact Par.pur (by simp [rV, goInt])
  | some a =>
    simp only [Option.map_some, Array.toList_map]
    refine Par.bnd (storeCells_par _ _ _) ?_
    rintro _ _ -
    exact Par.pur (by simp [rV, goInt])
theorem clear_par (hz : PZ P base) (ts : Array TypeId) (t : TypeId) (args : Array Value) : PV P base fl ρ (Builtin.clear_ ts t args) (Builtin.clear_ ts t (args.map (rV ρ))) := by
  unfold Builtin.clear_
  rw [at_map]
  cases ts[0]? with
  | none => exact Par.stk
  | some T =>
  cases args[0]? with
  | none => exact Par.stk
  | some x =>
  simp only [Option.map_some]
  refine PE.then (underlying_par T) fun u => ?_
  have he : PV P base fl ρ (Pure.pure (.tuple #[])) (Pure.pure (.tuple #[])) := Par.pur (by simp [rV])
  cases x with
  | map r =>
    cases r with
    | none => simp only [rV, Option.map_none]; exact he
    | some r =>
      simp only [rV, Option.map_some]
      refine Par.getObj_bnd r ?_ (fun u s' => Par.stk)
      rintro o o' (⟨hb, rfl, hn⟩ | ⟨_, rfl, _⟩)
      · cases o <;> simp only [rO] <;> (try exact Par.stk)
        rename_i es clock
        have h := Par.setObj (P := P) (fl := fl) (ρ := ρ) hb (.map #[] clock)
        simp only [rO, Array.map_empty] at h
        exact Par.bnd h (fun _ _ _ => he)
      · exact Par.stk
  | slice a n c =>
    cases a with
    | none => simp only [rV, Option.map_none]; exact he
    | some a =>
      simp only [rV, Option.map_some]
      cases n with
      | zero => exact he
      | succ n =>
        cases u <;> (try exact Par.stk)
        refine Par.bnd (zeroValue_par hz _) ?_
        rintro _ v ⟨rfl, hv⟩
        have h := storeCells_par (P := P) (base := base) (fl := fl) (ρ := ρ) a (Builtin.zeroCells v.cells (n + 1)).toList 0
        rw [← Array.toList_map, zeroCells_plain (plain_map (cs := #[]) hv)] at h
        exact Par.bnd h (fun _ _ _ => he)
  | _ => simp only [rV]; exact Par.stk
theorem delete_par (hz : PZ P base) (ts : Array TypeId) (t : TypeId) (args : Array Value) : PV P base fl ρ (Builtin.delete_ ts t args) (Builtin.delete_ ts t (args.map (rV ρ))) := by
  unfold Builtin.delete_
  rw [at_map, at_map]
  cases ts[0]? with
  | none => exact Par.stk
  | some T =>
  cases args[0]? with
  | none => exact Par.stk
  | some m =>
  cases args[1]? with
  | none => exact Par.stk
  | some k =>
  simp only [Option.map_some]
  refine PE.then (underlying_par T) fun u => ?_
  cases u <;> (try exact Par.stk)
  have he : PV P base fl ρ (Pure.pure (.tuple #[])) (Pure.pure (.tuple #[])) := Par.pur (by simp [rV])
  cases m with
  | map r =>
    cases r with
    | none => simp only [rV, Option.map_none]; exact Par.bnd (checkKey_par hz _ _ _ _) (fun _ _ _ => he)
    | some r =>
      simp only [rV, Option.map_some]
      refine Par.getObj_bnd r ?_ (fun u s' => Par.stk)
      rintro o o' (⟨hb, rfl, hn⟩ | ⟨_, rfl, _⟩)
      · cases o <;> simp only [rO] <;> (try exact Par.stk)
        rename_i es clock
        have h1 : (es.map (rE ρ)).isEmpty = es.isEmpty := by simp [Array.isEmpty]
        have h2 : (es.map (rE ρ)).toList = es.toList.map (rE ρ) := by simp
        rw [h1, h2]
        refine Par.bnd (checkKey_par hz _ _ _ _) ?_
        rintro _ _ -
        refine Par.bnd (findKey_par hz _ _ _) ?_
        rintro x _ rfl
        cases x with
        | none =>
          have h := Par.setObj (P := P) (fl := fl) (ρ := ρ) hb (.map es clock)
          simp only [rO] at h
          exact Par.bnd h (fun _ _ _ => he)
        | some x =>
          have h := Par.setObj (P := P) (fl := fl) (ρ := ρ) hb (.map (es.eraseIdxIfInBounds x.1) clock)
          have h3 : (es.eraseIdxIfInBounds x.1).map (rE ρ) = (es.map (rE ρ)).eraseIdxIfInBounds x.1 := by
            unfold Array.eraseIdxIfInBounds
            simp only [Array.size_map]
            split
            · apply Array.ext_getElem?
              intro j
              rw [Array.getElem?_map, Array.getElem?_eraseIdx, Array.getElem?_eraseIdx, Array.getElem?_map, Array.getElem?_map]
              split <;> rfl
            · rfl
          simp only [rO] at h
          rw [h3] at h
          exact Par.bnd h (fun _ _ _ => he)
      · exact Par.stk
  | _ => simp only [rV]; exact Par.stk
theorem len_par (ts : Array TypeId) (t : TypeId) (args : Array Value) : PV P base fl ρ (Builtin.len_ ts t args) (Builtin.len_ ts t (args.map (rV ρ))) := by
  unfold Builtin.len_
  rw [at_map]
  cases ts[0]? with
  | none => exact Par.stk
  | some T =>
  cases args[0]? with
  | none => exact Par.stk
  | some x =>
  simp only [Option.map_some]
  refine PE.then (underlying_par T) fun u => ?_
  split <;> (try simp only [rV, Option.map_none, Option.map_some]) <;> (try exact Par.stk) <;> (try exact Par.pur (by simp [rV, goInt]))
  case h_3 =>
    refine PE.then (underlying_par _) fun w => ?_
    split
    · exact Par.pur (by simp [rV, goInt])
    · exact Par.stk
  all_goals
    refine Par.getObj_bnd _ ?_ (fun u s' => Par.stk)
    rintro o o' (⟨hb, rfl, hn⟩ | ⟨_, rfl, _⟩)
    · cases o <;> simp only [rO] <;> (try exact Par.stk)
      exact Par.pur (by simp [rV, goInt])
    · exact Par.stk
theorem cap_par (ts : Array TypeId) (t : TypeId) (args : Array Value) : PV P base fl ρ (Builtin.cap_ ts t args) (Builtin.cap_ ts t (args.map (rV ρ))) := by
  unfold Builtin.cap_
  rw [at_map]
  cases ts[0]? with
  | none => exact Par.stk
  | some T =>
  cases args[0]? with
  | none => exact Par.stk
  | some x =>
  simp only [Option.map_some]
  refine PE.then (underlying_par T) fun u => ?_
  split <;> (try simp only [rV, Option.map_none, Option.map_some]) <;> (try exact Par.stk) <;> (try exact Par.pur (by simp [rV, goInt]))
  · refine PE.then (underlying_par _) fun w => ?_
    split
    · exact Par.pur (by simp [rV, goInt])
    · exact Par.stk
  · refine Par.getObj_bnd _ ?_ (fun u s' => Par.stk)
    rintro o o' (⟨hb, rfl, hn⟩ | ⟨_, rfl, _⟩)
    · cases o <;> simp only [rO] <;> (try exact Par.stk)
      exact Par.pur (by simp [rV, goInt])
    · exact Par.stk
theorem max2_par (x y : Value) : PV P base fl ρ (Builtin.max2 x y) (Builtin.max2 (rV ρ x) (rV ρ y)) := by
  unfold Builtin.max2
  split <;> (try exact Par.uns) <;> (try exact Par.stk) <;> simp only [rV]
  · exact Par.pur (by simp [rV])
  · split
    · exact PE.then (Par.choose _) fun n => Par.pur (by simp [rV])
    all_goals exact Par.pur (by simp [rV])
  · refine Par.bnd (stringOp_par _ _ _) ?_
    rintro v _ rfl
    refine Par.bnd (asBool_par v) ?_
    rintro _ b rfl
    exact Par.pur (by simp [rV])
theorem max_par (ts : Array TypeId) (t : TypeId) (args : Array Value) : PV P base fl ρ (Builtin.max_ ts t args) (Builtin.max_ ts t (args.map (rV ρ))) := by
  unfold Builtin.max_
  rw [Array.toList_map]
  cases args.toList with
  | nil => exact Par.stk
  | cons x l =>
    rw [List.map_cons]
    have h : ∀ (l : List Value) (x : Value), PV P base fl ρ (l.foldlM Builtin.max2 x) ((l.map (rV ρ)).foldlM Builtin.max2 (rV ρ x)) := fun l => by
      induction l with
      | nil => intro x; exact Par.pur rfl
      | cons y l ih =>
        intro x
        rw [List.map_cons, List.foldlM_cons, List.foldlM_cons]
        refine Par.bnd (max2_par x y) ?_
        rintro v _ rfl
        exact ih v
    exact h l x
theorem loadBytes_in : ∀ (n : Nat) (b : Addr) (acc s : ByteArray) (u u1 : World), (loadBytes b acc n).run P u = .ok s u1 → u1 = u ∧ (n ≠ 0 → ∀ c e f, u.heap[b.block]? = some (.cells c e f) → b.off + n ≤ c.size)
  | 0, b, acc, s, u, u1, h => by
    have h : (Result.ok acc u : Result ByteArray) = .ok s u1 := h
    cases h
    exact ⟨rfl, fun q => absurd rfl q⟩
  | n + 1, b, acc, s, u, u1, h => by
    unfold loadBytes at h
    have h : ((Go.load b).bind _).run P u = .ok s u1 := h
    rw [Sem.run_bind'] at h
    have hl : (Go.load b).run P u = (match u.cell? b with
      | some v => .ok v u
      | none => match u.farLoad P b false with
        | .ok (v, _) => .ok v u
        | .error hh => .halt hh u) := by
      simp only [Go.load, Sem.run]
      cases u.cell? b <;> rfl
    rw [hl] at h
    have key : ∀ v : Value, (match v with | .int .u8 x => loadBytes (b.add 1) (acc.push x.toNat.toUInt8) n | _ => stuck "a byte variable that holds no byte" : Sem ByteArray).run P u = .ok s u1 → u1 = u ∧ (n ≠ 0 → ∀ c e f, u.heap[b.block]? = some (.cells c e f) → b.off + 1 + n ≤ c.size) := by
      intro v hv
      split at hv
      · have := loadBytes_in n _ _ _ _ _ hv
        simpa [Addr.add] using this
      · cases hv
    cases hc : u.cell? b with
    | some v =>
      rw [hc] at h
      have := key v h
      refine ⟨this.1, fun _ c e f hq => ?_⟩
      unfold World.cell? at hc
      rw [hq] at hc
      simp only at hc
      split at hc
      · cases hc
      · have h1 := (Array.getElem?_eq_some_iff.1 hc).1
        by_cases hn : n = 0
        · omega
        · have := this.2 hn c e f hq; omega
    | none =>
      rw [hc] at h
      simp only at h
      cases hf : u.farLoad P b false with
      | error hh => rw [hf] at h; cases h
      | ok x =>
        rw [hf] at h
        refine ⟨(key x.1 h).1, fun _ c e f hq => ?_⟩
        unfold World.farLoad at hf
        rw [hq] at hf
        cases hf
theorem unsafeString_par (hz : PZ P base) (ts : Array TypeId) (t : TypeId) (args : Array Value) : PV P base fl ρ (Builtin.unsafeString_ ts t args) (Builtin.unsafeString_ ts t (args.map (rV ρ))) := by
  by_cases ha : ∃ p n, args = #[.pointer p, n]
  · obtain ⟨p, n, rfl⟩ := ha
    rw [show (#[Value.pointer p, n]).map (rV ρ) = #[.pointer (p.map (rA ρ)), rV ρ n] by simp [rV]]
    refine (Par.bind (asInt_par n) ?_ : Par P base fl ρ _ (Sem.bind (asInt n) _) (Sem.bind (asInt (rV ρ n)) _))
    rintro _ n rfl
    cases ts[0]? with
    | none => exact Par.stk
    | some pt =>
      refine Par.ite (fun _ => rp_par hz _) (fun _ => Par.ite (fun _ => Par.uns) (fun _ => ?_))
      cases p with
      | none => exact Par.ite (fun _ => Par.pur (by simp [rV])) (fun _ => runtimePanic_par hz _)
      | some a =>
        refine Par.ite (fun _ => Par.pur (by simp [rV])) (fun _ => ?_)
        refine PE.then (elemOf_par _) fun e => ?_
        refine Par.bnd (variablesAt_par a _ _) ?_
        rintro b _ (⟨hh, rfl⟩ | ⟨_, rfl⟩)
        rotate_left
        · exact Par.uns
        refine Par.ite (fun _ => ?_) (fun _ => Par.uns)
        refine (Par.bindW (loadBytes_par n.toNat a .empty) ?_ : Par P base fl ρ _ (Sem.bind (loadBytes a .empty n.toNat) _) (Sem.bind (loadBytes (rA ρ a) .empty n.toNat) _))
        rintro _ s u' w1 w1' rfl hrun
        obtain ⟨rfl, hin⟩ := loadBytes_in _ _ _ _ _ _ hrun
        intro hw
        refine (ParAt.bindW (Par.freezeAt a n.toNat hh (fun hb c e f hc => ?_)) ?_ : ParAt P base fl ρ _ (Sem.bind (Go.freeze a n.toNat) _) (Sem.bind (Go.freeze (rA ρ a) n.toNat) _) w1 w1') hw
        · by_cases hn : n.toNat = 0
          · rename_i hn1 hn2 hn3 _; exfalso; omega
          · have := hin hn c e f hc
            have : a.off + n.toNat ≤ c.size := this
            omega
        · rintro _ _ w2 w2' - -
          exact (Par.pur (by simp [rV]) : Par P base fl ρ _ _ _) _ _
  · have : Builtin.unsafeString_ ts t args = stuck "unsafe.String: a pointer and an integer expected" := by
      obtain ⟨l⟩ := args
      rcases l with _ | ⟨x, _ | ⟨y, _ | ⟨z, l⟩⟩⟩
      · rfl
      · rfl
      · cases x <;> first | rfl | exact absurd ⟨_, _, rfl⟩ ha
      · rfl
    rw [this]
    exact Par.stk
theorem unsafeSliceData_par (ts : Array TypeId) (t : TypeId) (args : Array Value) (hcl : ∀ v, v ∈ args → ∀ a l c, v = .slice (some a) l c → ¬ Hid fl base a.block) : PV P base fl ρ (Builtin.unsafeSliceData_ ts t args) (Builtin.unsafeSliceData_ ts t (args.map (rV ρ))) := by
  by_cases ha : ∃ a l c, args = #[.slice a l c]
  · obtain ⟨a, l, c, rfl⟩ := ha
    rw [show (#[Value.slice a l c]).map (rV ρ) = #[.slice (a.map (rA ρ)) l c] by simp [rV]]
    cases a with
    | none => exact Par.pur (by simp [rV])
    | some a =>
      refine (Par.ite (fun _ => Par.pur (by simp [rV])) (fun _ => ?_) : Par P base fl ρ (fun v v' => v' = rV ρ v) (if c ≠ 0 then Pure.pure (.pointer (some a)) else _) (if c ≠ 0 then Pure.pure (.pointer (some (rA ρ a))) else _))
      have hna : ¬ Hid fl base a.block := hcl _ (by simp) a l c rfl
      refine Par.bnd (viewAt_par a.block) ?_
      rintro v _ (⟨rfl, -⟩ | ⟨_, q, _⟩)
      rotate_left
      · exact absurd q hna
      cases v with
      | some v => exact Par.pur (by simp [rV])
      | none =>
        refine PE.then (elemOf_par _) fun e => ?_
        exact newView_par (fun q => absurd q hna) e
  · have : Builtin.unsafeSliceData_ ts t args = stuck "unsafe.SliceData: a slice expected" := by
      obtain ⟨l⟩ := args
      rcases l with _ | ⟨x, _ | ⟨y, l⟩⟩
      · rfl
      · cases x <;> first | rfl | exact absurd ⟨_, _, _, rfl⟩ ha
      · rfl
    rw [this]
    exact Par.stk
end
end Go.Proofs.Q
namespace Go.Proofs.Q
open Go
set_option linter.unusedVariables false
set_option linter.unusedSectionVars false
variable [Gds] [Tok]
section
variable {P : Program} {base : Nat} {fl : Fl} {ρ : Nat → Nat} {α β γ δ : Type} {R : α → β → Prop} {R' : γ → δ → Prop}
def rPl (ρ : Nat → Nat) : Place → Place
  | .val v => .val (rV ρ v)
  | .var a => .var (rA ρ a)
theorem get_par (t : TypeId) (x : Place) : PV P base fl ρ (x.get t) ((rPl ρ x).get t) := by
  cases x with
  | val v => exact Par.pur rfl
  | var a => exact loadVar_par t a
theorem follow_par (hz : PZ P base) : ∀ (l : List FieldStep) (t : TypeId) (x : Place), Par P base fl ρ (fun a b => b = (a.1, rPl ρ a.2)) (follow l t x) (follow l t (rPl ρ x))
  | [], t, x => Par.pur rfl
  | s :: l, t, x => by
    unfold follow
    refine PE.then (underlying_par _) fun u => ?_
    cases u <;> (try exact Par.stk)
    rename_i fields
    dsimp only
    cases fields[s.index]? with
    | none => exact Par.stk
    | some f =>
      refine Par.ite (fun _ => ?_) (fun _ => ?_)
      · refine Par.bnd (get_par t x) ?_
        rintro v _ rfl
        refine Par.bnd (asAddr_par hz v) ?_
        rintro a _ rfl
        refine Par.bnd (fieldPlace_par a f) ?_
        rintro b _ rfl
        exact follow_par hz l _ (.var b)
      · cases x with
        | var a =>
          refine Par.bnd (fieldPlace_par a f) ?_
          rintro b _ rfl
          exact follow_par hz l _ (.var b)
        | val v =>
          cases v <;> simp only [rPl, rV] <;> (try exact Par.stk)
          refine Par.bnd (part_par _ _ _) ?_
          rintro b _ rfl
          exact follow_par hz l _ (.val b)
theorem wrapNil_par (hz : PZ P base) (ts : Array TypeId) (t : TypeId) (p : Value) (m : ByteArray) : PV P base fl ρ (Builtin.ssaWrapNilChk_ ts t #[p, strVal "", .string m]) (Builtin.ssaWrapNilChk_ ts t #[rV ρ p, strVal "", .string m]) := by
  cases p with
  | pointer a =>
    cases a with
    | some a =>
      simp only [rV, Option.map_some]
      exact (Par.pur (by simp [rV]) : Par P base fl ρ (fun v v' => v' = rV ρ v) (Pure.pure (Value.pointer (some a)) : Sem Value) (Pure.pure (Value.pointer (some (rA ρ a)))))
    | none =>
      simp only [rV, Option.map_none]
      refine (PE.then (Par.choose _) fun n => ?_ : Par P base fl ρ (fun v v' => v' = rV ρ v) (choose (.extern "ssa:wrapnilchk.dereferenced" 2) >>= _) (choose (.extern "ssa:wrapnilchk.dereferenced" 2) >>= _))
      refine Par.ite (fun _ => rp_par hz _) (fun _ => ?_)
      cases ts[0]? with
      | none => exact Par.stk
      | some pt =>
        refine PE.then (underlying_par _) fun u => ?_
        cases u <;> (try exact Par.stk)
        refine PE.then (typeInfo_par _) fun i => ?_
        split
        · split
          · dsimp only
            split
            · exact runtimePanic_par hz _
            · exact Par.uns
          · exact Par.stk
        · exact Par.stk
  | _ => exact Par.stk
theorem receiverAt_par (hz : PZ P base) (t : TypeId) (x : Place) (p : Bool) (w : Option String) : PV P base fl ρ (receiverAt t x p w) (receiverAt t (rPl ρ x) p w) := by
  unfold receiverAt
  refine PE.then (underlying_par t) fun u => ?_
  cases u with
  | pointer e =>
    cases p with
    | true => exact get_par t x
    | false =>
      refine Par.bnd (get_par t x) ?_
      rintro v _ rfl
      cases w with
      | none =>
        refine Par.bnd (R := fun v v' => v' = rV ρ v) (Par.pur rfl) ?_
        rintro v _ rfl
        refine Par.bnd (asAddr_par hz v) ?_
        rintro a _ rfl
        exact loadVar_par e a
      | some n =>
        refine Par.bnd (wrapNil_par hz _ _ v _) ?_
        rintro v _ rfl
        refine Par.bnd (asAddr_par hz v) ?_
        rintro a _ rfl
        exact loadVar_par e a
  | _ =>
    cases p with
    | true =>
      cases x with
      | var a => exact Par.pur (by simp [rV])
      | val v => exact Par.stk
    | false => exact get_par t x
theorem receiverVia_par (hz : PZ P base) (t : TypeId) (v : Value) (path : Array FieldStep) (p : Bool) : PV P base fl ρ (receiverVia t v path p) (receiverVia t (rV ρ v) path p) := by
  unfold receiverVia
  refine Par.bnd (follow_par hz path.toList t (.val v)) ?_
  rintro x _ rfl
  exact receiverAt_par hz _ _ _ _
omit [Tok] in
def MT (P : Program) : Prop := ∀ t i m f p, P.info? t = some i → m ∈ i.methods → Gds.gn m.name → m.func = some (f, p) → Gds.gf f
theorem method_par (hz : PZ P base) (hm : MT P) : ∀ (n : Nat) (t : TypeId) (v : Value) (name : String), Gds.gn name → Par P base fl ρ (fun a b => b = (a.1, rV ρ a.2) ∧ Gds.gf a.1) (method n t v name) (method n t (rV ρ v) name)
  | 0, t, v, name, hn => Par.uns
  | n + 1, t, v, name, hn => by
    unfold method
    refine typeInfo_eq fun i hi => ?_
    cases hfi : i.methods.find? (·.name == name) with
    | none => exact Par.stk
    | some m =>
      dsimp only
      refine Par.bnd (follow_par hz m.path.toList t (.val v)) ?_
      rintro x _ rfl
      cases hmf : m.func with
      | none =>
        refine Par.bnd (get_par _ _) ?_
        rintro y _ rfl
        cases y <;> simp only [rV] <;> first | exact Par.stk | exact runtimePanic_par hz _ | exact method_par hz hm n _ _ _ hn
      | some f =>
        refine Par.bnd (receiverAt_par hz _ _ _ _) ?_
        rintro y _ rfl
        have h1 : m.name = name := by have := Array.find?_some hfi; simpa using this
        exact Par.pur ⟨rfl, hm t i m f.1 f.2 hi (Array.mem_of_find?_eq_some hfi) (by rw [h1]; exact hn) hmf⟩
def XP (P : Program) (base : Nat) (fl : Fl) (ρ : Nat → Nat) : Prop := ∀ (f : Nat) (fn : Func), Gds.gf f → P.funcs[f]? = some fn → fn.body.isNone = true → (fn.name == "runtime.NumGoroutine") = false ∧
  (∀ e args, Extern.findNext fn = some e → PN P base fl ρ (e args) (e (args.map (rV ρ)))) ∧ (∀ e args, Extern.findNext fn = none → Extern.find fn = some e → PV P base fl ρ (e args) (e (args.map (rV ρ))))
theorem callFunc_par (hx : XP P base fl ρ) (hq : ∀ (f : Nat) (fn : Func), P.funcs[f]? = some fn → (fn.name == "runtime.NumGoroutine") = false) {f : FuncId} (hg : Gds.gf f) (args : Array Value) : PN P base fl ρ (callFunc f args) (callFunc f (args.map (rV ρ))) := by
  unfold callFunc
  refine prog_par ?_
  cases hf : P.funcs[f]? with
  | none => exact Par.stk
  | some fn =>
    dsimp only
    rw [hq f fn hf]
    simp only [Bool.false_eq_true, if_false]
    by_cases hb : fn.body.isNone = true
    · obtain ⟨_, h2, h3⟩ := hx f fn hg hf hb
      simp only [hb, if_true]
      refine Par.bnd (Par.mark (.inl ⟨f, rfl⟩)) ?_
      rintro _ _ -
      cases hn : Extern.findNext fn with
      | some e => exact h2 e args hn
      | none =>
        dsimp only
        cases he : Extern.find fn with
        | some e =>
          refine Par.bnd (h3 e args hn he) ?_
          rintro v _ rfl
          exact Par.pur ⟨rfl, trivial⟩
        | none => exact Par.ite (fun _ => Par.pur ⟨by simp [rN, rV], trivial⟩) (fun _ => Par.uns)
    · simp only [hb, if_false, Bool.false_eq_true]
      exact Par.pur ⟨rfl, hg⟩
end
end Go.Proofs.Q
namespace Go.Proofs.Q
open Go
set_option linter.unusedVariables false
set_option linter.unusedSectionVars false
variable [Gds] [Tok]
section
variable {P : Program} {base : Nat} {fl : Fl} {ρ : Nat → Nat} {α β γ δ : Type} {R : α → β → Prop} {R' : γ → δ → Prop}
def okB : Builtin → Prop
  | .append | .cap | .clear | .copy | .delete | .len | .max | .panic | .recover | .unsafeString | .unsafeSliceData => True
  | _ => False
structure PP (P : Program) (base : Nat) (fl : Fl) (ρ : Nat → Nat) : Prop where
  z : PZ P base
  x : XP P base fl ρ
  q : ∀ (f : Nat) (fn : Func), P.funcs[f]? = some fn → (fn.name == "runtime.NumGoroutine") = false
  m : MT P
  b : ∀ b, Gds.gb b → okB b
  hd : ∀ g, Gds.hv g = true → g < P.globals.size → LDead P base fl ρ (Instr.loadAt Gds.ht (.pointer (some ⟨g, 0, none⟩)))
theorem callMethod_par (h : PP P base fl ρ) (r : Value) {name : String} (hn : Gds.gn name) (args : Array Value) : PN P base fl ρ (callMethod r name args) (callMethod (rV ρ r) name (args.map (rV ρ))) := by
  unfold callMethod
  cases r with
  | iface t v =>
    simp only [rV]
    refine prog_par ?_
    refine Par.bnd (method_par h.z h.m _ _ _ _ hn) ?_
    rintro x _ ⟨rfl, hg⟩
    have := callFunc_par h.x h.q hg (#[x.2] ++ args)
    simpa using this
  | nilIface => simp only [rV]; exact runtimePanic_par h.z _
  | _ => exact Par.stk
theorem valN {s s' : Sem Value} (h : PV P base fl ρ s s') : PN P base fl ρ (do pure (.value (← s))) (do pure (.value (← s'))) := Par.bnd h (by rintro v _ rfl; exact Par.pur ⟨rfl, trivial⟩)
theorem unitN {s s' : Sem Unit} (h : Par P base fl ρ (fun _ _ => True) s s') : PN P base fl ρ (do s; pure .skip) (do s'; pure .skip) := Par.bnd h (by rintro _ _ -; exact Par.pur ⟨rfl, trivial⟩)
theorem builtin_par (h : PP P base fl ρ) {b : Builtin} (hb : okB b) (hb2 : b ≠ .unsafeSliceData) (ts : Array TypeId) (t : TypeId) (c : Array Bool) (args : Array Value) : PN P base fl ρ (builtin b ts t c args) (builtin b ts t c (args.map (rV ρ))) := by
  unfold builtin
  cases b <;> first
    | exact hb.elim
    | exact valN (append_par h.z _ _ _)
    | exact valN (cap_par _ _ _)
    | exact valN (clear_par h.z _ _ _)
    | exact valN (copy_par _ _ _)
    | exact valN (delete_par h.z _ _ _)
    | exact valN (len_par _ _ _)
    | exact valN (max_par _ _ _)
    | exact valN (unsafeString_par h.z _ _ _)
    | exact absurd rfl hb2
    | exact Par.pur ⟨rfl, trivial⟩
    | skip
  have := panicI_par (fl := fl) (ρ := ρ) h.z (args.getD 0 .nilIface)
  have e : (args.map (rV ρ)).getD 0 .nilIface = rV ρ (args.getD 0 .nilIface) := by
    simp only [Array.getD_eq_getD_getElem?, Array.getElem?_map]
    cases args[0]? <;> simp [rV]
  dsimp only
  rw [e]
  exact valN this
theorem invoke_par (h : PP P base fl ρ) {t : Target} (ht : okT t) (args : Array Value) : PN P base fl ρ (invoke t args) (invoke (rT ρ t) (args.map (rV ρ))) := by
  unfold invoke
  cases t with
  | nil => exact runtimePanic_par h.z _
  | builtin b ts t c =>
    simp only [rT, Tok.beta_fix b ht.1]
    exact builtin_par h (h.b b ht.1) ht.2 _ _ _ _
  | collected r => exact ht.elim
  | coroexit c => exact ht.elim
  | fn f cap =>
    cases f with
    | func f =>
      have hg : Gds.gf f := ht
      have := callFunc_par h.x h.q hg (args ++ cap)
      simpa [rT, rF, Tok.phi_fix f hg] using this
    | yield l => exact yield_par l args
    | method name =>
      have hg : Gds.gn name := ht
      simp only [rT, rF, at_map, Tok.nu_fix name hg]
      cases args[0]? with
      | none => exact Par.stk
      | some r =>
        have := callMethod_par h r hg (args.extract 1 args.size)
        simpa [Array.map_extract] using this
    | methodOf t name =>
      have hg : Gds.gn name := ht
      simp only [rT, rF, at_map, Tok.nu_fix name hg]
      cases args[0]? with
      | none => exact Par.stk
      | some r =>
        refine PE.then (underlying_par t) fun u => ?_
        cases u with
        | interface ms =>
          have := callMethod_par h r hg (args.extract 1 args.size)
          simpa [Array.map_extract] using this
        | _ =>
          have := callMethod_par h (.iface t r) hg (args.extract 1 args.size)
          simpa [Array.map_extract, rV] using this
    | via t path f p =>
      have hg : Gds.gf f := ht
      simp only [rT, rF, at_map, Tok.phi_fix f hg]
      cases args[0]? with
      | none => exact Par.stk
      | some r =>
        refine Par.bnd (receiverVia_par h.z t r path p) ?_
        rintro v _ rfl
        have := callFunc_par h.x h.q hg (#[v] ++ args.extract 1 args.size)
        simpa [Array.map_extract] using this
theorem resolve_par {ev ev' : Operand → Value} (c : Call) (t : TypeId) (hev : ∀ x, x ∈ c.operands → ev' x = rV ρ (ev x)) (hc : ∀ b, c.callee = .builtin b → Gds.gb b ∧ b ≠ .unsafeSliceData) (hn : ∀ r n, c.callee = .invoke r n → Gds.gn n) (hg : ∀ x f a b, c.callee = .value x → ev x = .func f a b → GoodFn f) :
    Par P base fl ρ (fun d d' => d' = rD ρ d ∧ okT d.target) (resolve ev c t) (resolve ev' c t) := by
  unfold resolve
  have ha : c.args.map ev' = (c.args.map ev).map (rV ρ) := by
    rw [Array.map_map]
    apply Array.map_congr_left
    intro x hx
    exact hev x (by unfold Call.operands; cases c.callee <;> simp [hx])
  dsimp only
  cases hcc : c.callee with
  | builtin b => exact Par.pur ⟨by simp [rD, rT, ha, Tok.beta_fix b (hc b hcc).1], hc b hcc⟩
  | invoke r name =>
    have hr := hev r (by unfold Call.operands; rw [hcc]; simp)
    exact Par.pur ⟨by simp [rD, rT, rF, ha, hr, Tok.nu_fix name (hn r name hcc)], hn r name hcc⟩
  | value f =>
    have hr := hev f (by unfold Call.operands; rw [hcc]; simp)
    dsimp only
    rw [hr]
    unfold Deferred.ofValue
    cases he : ev f <;> simp only [rV] <;> first | exact Par.stk | exact Par.pur ⟨by simp [rD, rT, ha], trivial⟩ | exact Par.pur ⟨by simp [rD, rT, ha], hg f _ _ _ hcc he⟩
theorem sliceData_par {ev ev' : Operand → Value} (c : Call) (t : TypeId) (hev : ∀ x, x ∈ c.operands → ev' x = rV ρ (ev x)) (hcc : c.callee = .builtin .unsafeSliceData) (hcl : ∀ x a l k, ev x = .slice (some a) l k → x ∈ c.operands → ¬ Hid fl base a.block) :
    PN P base fl ρ (resolve ev c t >>= fun d => invoke d.target d.args) (resolve ev' c t >>= fun d => invoke d.target d.args) := by
  have ho : ∀ x, x ∈ c.args → x ∈ c.operands := fun x hx => by unfold Call.operands; rw [hcc]; simp [hx]
  have ha : c.args.map ev' = (c.args.map ev).map (rV ρ) := by
    rw [Array.map_map]
    apply Array.map_congr_left
    intro x hx
    exact hev x (ho x hx)
  unfold resolve
  rw [hcc]
  dsimp only
  rw [ha]
  have := unsafeSliceData_par (P := P) (base := base) (fl := fl) (ρ := ρ) c.argTypes t (c.args.map ev) (fun v hv a l k q => by
    simp only [Array.mem_map] at hv
    obtain ⟨x, hx, rfl⟩ := hv
    exact hcl x a l k q (ho x hx))
  exact valN this
end
end Go.Proofs.Q
namespace Go.Proofs.Q
open Go
set_option linter.unusedVariables false
set_option linter.unusedSectionVars false
variable [Gds] [Tok]
section
variable {P : Program} {base : Nat} {fl : Fl} {ρ : Nat → Nat} {α β γ δ : Type} {R : α → β → Prop} {R' : γ → δ → Prop}
def rBl (ρ : Nat → Nat) : Except (Option Bool) (TypeId × Option Value) → Except (Option Bool) (TypeId × Option Value)
  | .ok (t, x) => .ok (t, x.map (rV ρ))
  | .error e => .error e
theorem followBlind_par : ∀ (l : List FieldStep) (t : TypeId) (x : Option Value), Par P base fl ρ (fun a b => b = rBl ρ a) (followBlind l t x) (followBlind l t (x.map (rV ρ)))
  | [], t, x => Par.pur rfl
  | s :: l, t, x => by
    unfold followBlind
    refine PE.then (underlying_par _) fun u => ?_
    cases u <;> (try exact Par.stk)
    rename_i fields
    dsimp only
    cases fields[s.index]? with
    | none => exact Par.stk
    | some f =>
      dsimp only
      cases hd : s.deref with
      | true =>
        cases x with
        | none => exact Par.pur rfl
        | some v =>
          simp only [Option.map_some]
          cases v with
          | pointer p => cases p <;> simp only [rV, Option.map_none, Option.map_some] <;> first | exact Par.pur rfl | exact followBlind_par l _ none
          | _ => exact Par.stk
      | false =>
        cases x with
        | none => exact followBlind_par l _ none
        | some v =>
          simp only [Option.map_some]
          cases v with
          | agg cs =>
            simp only [rV]
            refine Par.bnd (part_par _ _ _) ?_
            rintro y _ rfl
            exact followBlind_par l _ (some y)
          | _ => exact Par.stk
theorem nilAhead_par : ∀ (n : Nat) (t : TypeId) (v : Value) (name : String), PE P base fl ρ (nilAhead n t v name) (nilAhead n t (rV ρ v) name)
  | 0, t, v, name => Par.pur rfl
  | n + 1, t, v, name => by
    unfold nilAhead
    refine PE.then (typeInfo_par _) fun i => ?_
    cases i.methods.find? (·.name == name) with
    | none => exact Par.stk
    | some m =>
      dsimp only
      refine Par.bnd (followBlind_par m.path.toList t (some v)) ?_
      rintro x _ rfl
      cases x with
      | error r => exact Par.pur rfl
      | ok x =>
        obtain ⟨xt, x⟩ := x
        simp only [rBl]
        cases m.func with
        | none =>
          cases x with
          | none => exact Par.pur rfl
          | some y =>
            simp only [Option.map_some]
            cases y <;> simp only [rV] <;> first | exact Par.stk | exact Par.pur rfl | exact nilAhead_par n _ _ _
        | some f =>
          obtain ⟨f, b⟩ := f
          cases b with
          | true => exact Par.pur rfl
          | false =>
            refine PE.then (underlying_par _) fun u => ?_
            cases u <;> (try exact Par.pur rfl)
            cases x with
            | none => exact Par.pur rfl
            | some y =>
              simp only [Option.map_some]
              cases y with
              | pointer p => cases p <;> simp only [rV, Option.map_none, Option.map_some] <;> exact Par.pur rfl
              | _ => simp only [rV]; exact Par.pur rfl
omit [Tok] in
def okO : Op → Prop
  | .move _ | .assign _ | .pick .. | .alloc _ | .box .. | .build .. | .buildSlice .. | .load .. | .store .. | .nilCheck _ | .binOp .. | .unOp .. | .convert .. | .makeInterface .. | .makeMap .. | .makeSlice .. | .slice .. | .fieldAddr .. | .field ..
  | .indexAddr .. | .index .. | .lookup .. | .mapUpdate .. | .insert .. | .range .. | .next .. | .entry _ | .typeAssert .. | .extract .. | .panic _ => True
  | .makeFunc f _ _ => (∀ l, f ≠ .yield l) ∧ GoodFn f
  | .call c => (∀ b, c.callee = .builtin b → Gds.gb b) ∧ ∀ r n, c.callee = .invoke r n → Gds.gn n
  | .defer c => (∀ b, c.callee = .builtin b → Gds.gb b ∧ b ≠ .unsafeSliceData) ∧ ∀ r n, c.callee = .invoke r n → Gds.gn n
  | _ => False
theorem rF_fix {f : Fn} (h : ∀ l, f ≠ .yield l) (hg : GoodFn f) : rF ρ f = f := by
  cases f with
  | yield l => exact absurd rfl (h _)
  | func k => simp only [rF]; rw [Tok.phi_fix k hg]
  | method n => simp only [rF]; rw [Tok.nu_fix n hg]
  | methodOf t n => simp only [rF]; rw [Tok.nu_fix n hg]
  | via t p k b => simp only [rF]; rw [Tok.phi_fix k hg]
theorem parts_map {ev ev' : Operand → Value} (ps : Array (Nat × Operand)) (h : ∀ x, x ∈ (ps.toList.map (·.2)).toArray → ev' x = rV ρ (ev x)) : ps.map (fun x => (x.1, ev' x.2)) = (ps.map (fun x => (x.1, ev x.2))).map (rI2 ρ) := by
  rw [Array.map_map]
  apply Array.map_congr_left
  intro x hx
  simp only [Function.comp, rI2]
  rw [h x.2 (by simp; exact ⟨x.1, hx⟩)]
theorem ops_map {ev ev' : Operand → Value} (ps : Array Operand) (h : ∀ x, x ∈ ps → ev' x = rV ρ (ev x)) : ps.map ev' = (ps.map ev).map (rV ρ) := by
  rw [Array.map_map]
  apply Array.map_congr_left
  intro x hx
  exact h x hx
theorem opt_map {ev ev' : Operand → Value} (o : Option Operand) (h : ∀ x, o = some x → ev' x = rV ρ (ev x)) : o.map ev' = (o.map ev).map (rV ρ) := by
  cases o with
  | none => rfl
  | some x => simp [h x rfl]
theorem execOp_par (h : PP P base fl ρ) {ev ev' : Operand → Value} {o : Oper} (ho : okO o.op) (hev : ∀ x, x ∈ o.op.operands → ev' x = rV ρ (ev x)) (hgo : ∀ x f a b, ev x = .func f a b → x ∈ o.op.operands → GoodFn f) (hcl : ∀ x a l k, ev x = .slice (some a) l k → x ∈ o.op.operands → ¬ Hid fl base a.block) : PN P base fl ρ (execOp ev o) (execOp ev' o) := by
  unfold execOp
  cases hop : o.op <;> rw [hop] at ho hev hgo hcl <;> (try exact ho.elim) <;> dsimp only
  case move x => rw [hev x (by simp [Op.operands])]; exact Par.pur ⟨rfl, trivial⟩
  case assign x => rw [hev x (by simp [Op.operands])]; exact Par.pur ⟨rfl, trivial⟩
  case pick c a b =>
    rw [hev c (by simp [Op.operands]), hev a (by simp [Op.operands]), hev b (by simp [Op.operands])]
    refine Par.bnd (asBool_par _) ?_
    rintro _ t rfl
    exact Par.pur ⟨by cases t <;> rfl, trivial⟩
  case alloc e => exact valN (alloc_par h.z e)
  case box e x => rw [hev x (by simp [Op.operands])]; exact valN (box_par _ _)
  case build t ps =>
    have := parts_map ps (fun x hx => hev x (by simpa [Op.operands] using hx))
    rw [this]
    exact valN (build_par h.z _ _)
  case buildSlice t l ps =>
    have := parts_map ps (fun x hx => hev x (by simpa [Op.operands] using hx))
    rw [this]
    exact valN (buildSlice_par h.z _ _ _)
  case load t x => rw [hev x (by simp [Op.operands])]; exact valN (loadAt_par _ _)
  case store t a x => rw [hev a (by simp [Op.operands]), hev x (by simp [Op.operands])]; exact unitN (storeAt_par _ _ _)
  case binOp op t x y r =>
    rw [hev x (by simp [Op.operands]), hev y (by simp [Op.operands])]
    refine valN (Par.bnd (eqGuard_par _ _ _ _ _ _) ?_)
    rintro _ _ -
    exact binOp_par h.z _ _ _ _
  case unOp op t x => rw [hev x (by simp [Op.operands])]; exact valN (unary_par h.z _ _)
  case convert s d x => rw [hev x (by simp [Op.operands])]; exact valN (convert_par _ _ _ (fun a l k q => hcl x a l k q (by simp [Op.operands])))
  case makeInterface t x => rw [hev x (by simp [Op.operands])]; exact valN (makeInterface_par _ _)
  case makeFunc f a b =>
    rw [ops_map a (fun x hx => hev x (by simp [Op.operands, hx])), ops_map b (fun x hx => hev x (by simp [Op.operands, hx]))]
    exact valN (makeFunc_par f (rF_fix ho.1 ho.2) _ _)
  case makeMap t r =>
    rw [opt_map r (fun x hx => hev x (by simp [Op.operands, hx]))]
    exact valN (makeMap_par _ _)
  case makeSlice t l c => rw [hev l (by simp [Op.operands]), hev c (by simp [Op.operands])]; exact valN (makeSlice_par h.z _ _ _)
  case slice t x lo hi mx =>
    rw [hev x (by simp [Op.operands]), opt_map lo (fun x hx => hev x (by simp [Op.operands, hx])), opt_map hi (fun x hx => hev x (by simp [Op.operands, hx])), opt_map mx (fun x hx => hev x (by simp [Op.operands, hx]))]
    exact valN (sliceAt_par h.z _ _ _ _ _)
  case fieldAddr s x f => rw [hev x (by simp [Op.operands])]; exact valN (fieldAt_par _ _ _)
  case field s x f => rw [hev x (by simp [Op.operands])]; exact valN (field_par _ _ _)
  case indexAddr t x i => rw [hev x (by simp [Op.operands]), hev i (by simp [Op.operands])]; exact valN (indexAt_par h.z _ _ _)
  case index t x i => rw [hev x (by simp [Op.operands]), hev i (by simp [Op.operands])]; exact valN (index_par h.z _ _ _)
  case lookup t x i ok => rw [hev x (by simp [Op.operands]), hev i (by simp [Op.operands])]; exact valN (lookup_par h.z _ _ _ _)
  case mapUpdate t m k v => rw [hev m (by simp [Op.operands]), hev k (by simp [Op.operands]), hev v (by simp [Op.operands])]; exact unitN (mapUpdate_par h.z _ _ _ _)
  case insert t m k v => rw [hev m (by simp [Op.operands]), hev k (by simp [Op.operands]), hev v (by simp [Op.operands])]; exact unitN (mapUpdate_par h.z _ _ _ _)
  case range t x => rw [hev x (by simp [Op.operands])]; exact valN (range_par _ _)
  case next x s => rw [hev x (by simp [Op.operands])]; exact valN (next_par _ _ _)
  case entry x => rw [hev x (by simp [Op.operands])]; exact valN (entry_par _)
  case typeAssert x t a ok => rw [hev x (by simp [Op.operands])]; exact valN (typeAssert_par h.z _ _ _ _)
  case extract x i => rw [hev x (by simp [Op.operands])]; exact valN (extract_par _ _)
  case panic x => rw [hev x (by simp [Op.operands])]; exact valN (panicI_par h.z _)
  case call c =>
    by_cases hb : c.callee = .builtin .unsafeSliceData
    · exact sliceData_par c _ (fun x hx => hev x (by simpa [Op.operands] using hx)) hb (fun x a l k q hx => hcl x a l k q (by simpa [Op.operands] using hx))
    refine Par.bnd (resolve_par c _ (fun x hx => hev x (by simpa [Op.operands] using hx)) (fun b q => ⟨ho.1 b q, fun e => hb (by rw [q, e])⟩) ho.2 (fun x f a b hc he => hgo x f a b he (by simp [Op.operands, Call.operands, hc]))) ?_
    rintro d _ ⟨rfl, hd⟩
    exact invoke_par h hd _
  case defer c =>
    refine Par.bnd (resolve_par c _ (fun x hx => hev x (by simpa [Op.operands] using hx)) ho.1 ho.2 (fun x f a b hc he => hgo x f a b he (by simp [Op.operands, Call.operands, hc]))) ?_
    rintro d _ ⟨rfl, hd⟩
    exact Par.pur ⟨rfl, hd⟩
  case nilCheck x =>
    rw [hev x (by simp [Op.operands])]
    have hgx : ∀ f a b, ev x = .func f a b → GoodFn f := fun f a b he => hgo x f a b he (by simp [Op.operands])
    generalize ev x = v at hgx
    cases v with
    | pointer p => cases p <;> simp only [rV, Option.map_none, Option.map_some] <;> first | exact runtimePanic_par h.z _ | exact Par.pur ⟨by simp [rN, rV], trivial⟩
    | nilIface => simp only [rV]; exact runtimePanic_par h.z _
    | nilFunc => simp only [rV]; exact runtimePanic_par h.z _
    | func f a b =>
      simp only [rV]
      cases f with
      | method name =>
        have hn : Gds.gn name := hgx _ _ _ rfl
        simp only [rF, at_map, Tok.nu_fix name hn]
        have hp : PN P base fl ρ (Pure.pure (Next.value (.func (.method name) a b))) (Pure.pure (Next.value (.func (.method name) (a.map (rV ρ)) (b.map (rV ρ))))) := Par.pur ⟨by simp [rN, rV, rF, Tok.nu_fix name hn], trivial⟩
        cases a[0]? with
        | none => exact hp
        | some w =>
          simp only [Option.map_some]
          cases w with
          | nilIface => simp only [rV]; exact runtimePanic_par h.z _
          | iface t w =>
            simp only [rV]
            refine prog_par ?_
            refine Par.bnd (nilAhead_par _ _ _ _) ?_
            rintro _ b rfl
            exact Par.ite (fun _ => Par.uns) (fun _ => hp)
          | _ => simp only [rV]; exact hp
      | _ => simp only [rF]; exact Par.pur ⟨by simp [rN, rV, rF], trivial⟩
    | _ => simp only [rV]; exact Par.pur ⟨by simp [rN, rV], trivial⟩
theorem execOp_hid (h : PP P base fl ρ) {ev ev' : Operand → Value} {o : Oper} {g : Nat} (ho : o.op = .load Gds.ht (.global g)) (hg : Gds.hv g = true) (hs : g < P.globals.size) (he : ev (.global g) = .pointer (some ⟨g, 0, none⟩)) : PN P base fl ρ (execOp ev o) (execOp ev' o) := by
  unfold execOp
  rw [ho]
  dsimp only
  rw [he]
  exact (LDead.bnd (h.hd g hg hs)).par
end
end Go.Proofs.Q
namespace Go.Proofs.Q
open Go
set_option linter.unusedVariables false
set_option linter.unusedSectionVars false
variable [Gds] [Tok]
section
variable {P : Program} {base : Nat} {fl : Fl} {ρ : Nat → Nat}
omit [Tok] in
def okX (P : Program) : Operand → Prop
  | .const v => plainV v
  | .global g => g < P.globals.size ∧ Gds.hv g = false
  | .func f => Gds.gf f
  | .tmp _ => True
omit [Tok] in
def noDefer : Op → Prop
  | .defer _ => False
  | _ => True
omit [Tok] in
def okOper (P : Program) (d : Bool) (o : Oper) : Prop := (okO o.op ∧ (∀ x, x ∈ o.op.operands → okX P x) ∧ (d = false → noDefer o.op)) ∨ ∃ g, o.op = .load Gds.ht (.global g) ∧ Gds.hv g = true ∧ g < P.globals.size
omit [Tok] in
def okC (P : Program) (d : Bool) : Code → Prop
  | .region _ ops _ => ∀ o, o ∈ ops → okOper P d o
  | .seq a b => okC P d a ∧ okC P d b
  | .cond c a b => okX P c ∧ okC P d a ∧ okC P d b
  | .block _ b => okC P d b
  | .loop b => okC P d b
  | .rangeFunc f _ a b => okX P f ∧ okC P false a ∧ okC P false b
  | .scope _ | .goto _ => False
  | .exit _ | .ret | .skip | .label _ | .refuse _ => True
omit [Tok] in
def okI (P : Program) (d : Bool) : Item → Prop
  | .code c => okC P d c
  | .inLoop b => okC P d b
  | .inRegion ops _ => ∀ o, o ∈ ops → okOper P d o
  | .inScope _ | .call _ _ _ _ | .extern _ _ => False
  | .inBlock _ | .inRangeFunc _ | .endRangeFunc _ | .beginRound => True
omit [Tok] in
structure PQ (P : Program) : Prop where
  cc : ∀ c, Gds.gc c ↔ okC P false c
  fc : ∀ f fn b, Gds.gf f → P.funcs[f]? = some fn → fn.body = some b → okC P true b
theorem rV_undef : rV ρ undef = undef := by simp [rV, undef]
theorem eval_ren {fx : Nat} (hz : P.globals.size + 1 ≤ fx) (hf : ∀ k, k < fx → Gds.hv k = false → ρ k = k) (fr : Frame) {x : Operand} (hx : okX P x) : (rFr ρ fr).eval x = rV ρ (fr.eval x) := by
  cases x with
  | tmp t =>
    simp only [Frame.eval, rFr, Array.getD_eq_getD_getElem?, Array.getElem?_map]
    cases fr.tmps[t]? with
    | none => simp [rV_undef]
    | some v => rfl
  | const v => simp only [Frame.eval]; rw [plainV_ren hx]
  | global g =>
    have hg : g < P.globals.size := hx.1
    simp [Frame.eval, rV, rA, hf g (by omega) hx.2]
  | func f =>
    have hg : Gds.gf f := hx
    simp [Frame.eval, rV, rF, Tok.phi_fix f hg]
theorem finish_ren (fr : Frame) (v : Value) : (rFr ρ fr).finish (rV ρ v) = rFr ρ (fr.finish v) := by
  obtain ⟨fn, tmps, todo, defers, mode, kind, rd⟩ := fr
  cases todo with
  | nil => simp [Frame.finish, rFr]
  | cons i k =>
    cases i with
    | inRegion ops l =>
      cases l with
      | nil => simp [Frame.finish, rFr, rI]
      | cons i rest =>
        simp only [Frame.finish, rFr, List.map_cons, rI]
        cases (ops[i]?).bind (·.dst) <;> simp [Array.map_setIfInBounds]
    | _ => simp [Frame.finish, rFr, rI]
theorem enter_ren (f : FuncId) (args : Array Value) (k : CallKind) : Frame.enter P f (args.map (rV ρ)) k = rFr ρ (Frame.enter P f args k) := by
  simp [Frame.enter, rFr, rI, rMo, Array.map_replicate, rV_undef]
theorem raise_ren (fr : Frame) (vs : List PanicEntry) : (rFr ρ fr).raise (vs.map (rP ρ)) = rFr ρ (fr.raise vs) := by
  obtain ⟨fn, tmps, todo, defers, mode, kind, rd⟩ := fr
  cases mode <;> simp [Frame.raise, rFr, rMo]
theorem exitTo_ren (id : Nat) : ∀ l : List Item, exitTo id (l.map (rI ρ)) = (exitTo id l).map (List.map (rI ρ))
  | [] => rfl
  | i :: l => by
    rw [List.map_cons]
    cases i <;> simp only [exitTo, rI, exitTo_ren id l]
    split <;> rfl
theorem yielded_ren (ops : Array Oper) (tmps : Array Value) (j : Nat) : yielded ops (tmps.map (rV ρ)) j = yielded ops tmps j := by
  unfold yielded
  cases (ops[j]?).bind (·.dst) with
  | none => rfl
  | some d =>
    simp only [Option.bind_some, Array.getElem?_map]
    cases tmps[d]? with
    | none => rfl
    | some v => cases v <;> simp [rV]
omit [Tok] in
def Bot : Frame → List Frame → Prop
  | fr, [] => fr.kind = .normal ∧ fr.roundOf = none
  | _, c :: cs => Bot c cs
theorem tryRecover_ren (cs' : List Frame) : ∀ (cs : List Frame) (fr : Frame), Bot fr cs → tryRecover (rFr ρ fr) (cs.map (rFr ρ) ++ cs') = (tryRecover fr cs).map fun x => (rV ρ x.1, x.2.map (rFr ρ) ++ cs')
  | [], fr, h => by
    have hk : fr.kind = .normal := h.1
    have hk' : (rFr ρ fr).kind = .normal := h.1
    unfold tryRecover
    rw [hk, hk']
    rfl
  | c :: cs, fr, h => by
    have hb : Bot c cs := h
    have ih := tryRecover_ren cs' cs c hb
    have e1 : (rFr ρ fr).kind = fr.kind := rfl
    rw [List.map_cons, List.cons_append]
    unfold tryRecover
    rw [e1]
    cases hk : fr.kind with
    | deferred =>
      simp only
      have e2 : (rFr ρ c).mode = rMo ρ c.mode := rfl
      rw [e2]
      cases hm : c.mode with
      | run => rfl
      | returning => rfl
      | panicking l =>
        cases l with
        | nil => rfl
        | cons p l =>
          obtain ⟨v, r, g⟩ := p
          cases r <;> cases g <;> simp [rMo, rP, rFr]
    | wrapped =>
      simp only
      rw [ih]
      cases tryRecover c cs <;> simp
    | _ => rfl
theorem tryRecover_app (ks : List Frame) : ∀ (cs : List Frame) (fr : Frame), Bot fr cs → tryRecover fr (cs ++ ks) = (tryRecover fr cs).map fun x => (x.1, x.2 ++ ks)
  | [], fr, h => by
    have hk : fr.kind = .normal := h.1
    unfold tryRecover
    rw [hk]
    rfl
  | c :: cs, fr, h => by
    have hb : Bot c cs := h
    have ih := tryRecover_app ks cs c hb
    rw [List.cons_append]
    unfold tryRecover
    cases hk : fr.kind with
    | deferred =>
      simp only
      cases hm : c.mode with
      | run => rfl
      | returning => rfl
      | panicking l =>
        cases l with
        | nil => rfl
        | cons p l =>
          obtain ⟨v, r, g⟩ := p
          cases r <;> cases g <;> simp
    | wrapped =>
      simp only
      rw [ih]
      cases tryRecover c cs <;> simp
    | _ => rfl
omit [Tok] in
def NoRF (l : List Frame) : Prop := ∀ f, f ∈ l → ∀ k t, f.todo ≠ .inRangeFunc k :: t
theorem tryRecoverLoop_none : ∀ (l : List Frame) (k : Nat), NoRF l → tryRecoverLoop k l = none
  | [], k, h => rfl
  | f :: l, k, h => by
    unfold tryRecoverLoop
    have h1 := h f (by simp)
    have h2 : NoRF l := fun g hg => h g (by simp [hg])
    split
    · rename_i q _; exact absurd q (h1 _ _)
    · rename_i q _; exact absurd q (h1 _ _)
    · rw [tryRecoverLoop_none l k h2]; rfl
omit [Tok] in
def BotL : List Frame → Prop
  | [] => True
  | c :: cs => Bot c cs
theorem tryRecoverLoop_ren (hi : ∀ a b, ρ a = ρ b → a = b) (cs' : List Frame) (hr : NoRF cs') : ∀ (cs : List Frame) (l : Nat), BotL cs → tryRecoverLoop (ρ l) (cs.map (rFr ρ) ++ cs') = (tryRecoverLoop l cs).map fun x => (rV ρ x.1, x.2.map (rFr ρ) ++ cs')
  | [], l, h => by rw [List.map_nil, List.nil_append, tryRecoverLoop_none cs' _ hr]; rfl
  | c :: cs, l, h => by
    have hb : BotL cs := by
      cases cs with
      | nil => trivial
      | cons d cs => exact h
    have h3 := tryRecover_ren (ρ := ρ) cs' cs c h
    rw [List.map_cons, List.cons_append]
    unfold tryRecoverLoop
    obtain ⟨fn, tmps, todo, defers, mode, kind, rd⟩ := c
    have e1 : ∀ x : Nat, (ρ x == ρ l) = (x == l) := fun x => ρ_beq hi x l
    cases todo with
    | nil =>
      simp only [rFr, List.map_nil]
      rw [tryRecoverLoop_ren hi cs' hr cs l hb]
      cases tryRecoverLoop l cs <;> simp [rFr]
    | cons i t =>
      cases i with
      | inRangeFunc x =>
        cases rd with
        | none =>
          simp only [rFr, List.map_cons, rI, Option.map_none, e1] at h3 ⊢
          split
          · rw [h3]
            cases tryRecover _ cs <;> simp [rFr, rI]
          · rw [tryRecoverLoop_ren hi cs' hr cs l hb]
            cases tryRecoverLoop l cs <;> simp [rFr, rI]
        | some o =>
          simp only [rFr, List.map_cons, rI, Option.map_some, e1]
          have e2 : (if (x == l) = true then ρ o else ρ l) = ρ (if (x == l) = true then o else l) := by split <;> rfl
          rw [e2, tryRecoverLoop_ren hi cs' hr cs _ hb]
          cases tryRecoverLoop (if (x == l) = true then o else l) cs <;> simp [rFr, rI]
      | _ =>
        simp only [rFr, List.map_cons, rI]
        rw [tryRecoverLoop_ren hi cs' hr cs l hb]
        cases tryRecoverLoop l cs <;> simp [rFr, rI]
theorem tryRecoverLoop_app (ks : List Frame) (hr : NoRF ks) : ∀ (cs : List Frame) (l : Nat), BotL cs → tryRecoverLoop l (cs ++ ks) = (tryRecoverLoop l cs).map fun x => (x.1, x.2 ++ ks)
  | [], l, h => by rw [List.nil_append, tryRecoverLoop_none ks _ hr]; rfl
  | c :: cs, l, h => by
    have hb : BotL cs := by
      cases cs with
      | nil => trivial
      | cons d cs => exact h
    have h3 := tryRecover_app ks cs c h
    rw [List.cons_append]
    unfold tryRecoverLoop
    have e : ∀ (x : Option (Value × List Frame)), (x.map fun x => (x.1, x.2 ++ ks)).map (fun x => (x.1, c :: x.2)) = (x.map fun x => (x.1, c :: x.2)).map fun x => (x.1, x.2 ++ ks) := fun x => by cases x <;> simp
    split
    · rw [tryRecoverLoop_app ks hr cs _ hb, e]
    · split
      · rw [h3, e]
      · rw [tryRecoverLoop_app ks hr cs _ hb, e]
    · rw [tryRecoverLoop_app ks hr cs _ hb, e]
end
end Go.Proofs.Q
