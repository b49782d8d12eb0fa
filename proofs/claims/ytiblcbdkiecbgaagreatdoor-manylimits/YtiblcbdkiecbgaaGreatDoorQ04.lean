import Derived.Test.YtiblcbdkiecbgaaGreatDoorQ03
namespace Go.Proofs.Q
open Go
set_option linter.unusedVariables false
set_option linter.unusedSectionVars false
variable [Gds] [Tok]
section
variable {P : Program} {base : Nat} {fl : Fl} {ρ : Nat → Nat} {α β γ δ : Type} {R : α → β → Prop} {R' : γ → δ → Prop}
theorem alloc_par (hz : PZ P base) (e : TypeId) : PV P base fl ρ (Instr.alloc e true (.tuple #[])) (Instr.alloc e true (.tuple #[])) := by
  unfold Instr.alloc
  refine Par.bnd (zeroValue_par hz e) ?_
  rintro _ v ⟨rfl, hv⟩
  refine Par.bnd (newVarC e _ hv) ?_
  rintro r _ ⟨rfl, -⟩
  exact Par.pur (by simp [rV])
theorem box_par (e : TypeId) (v : Value) : PV P base fl ρ (Instr.box e v) (Instr.box e (rV ρ v)) := by
  unfold Instr.box
  refine Par.bnd (newVar_par e v) ?_
  rintro r _ ⟨rfl, -⟩
  exact Par.pur (by simp [rV])
def rI2 (ρ : Nat → Nat) (x : Nat × Value) : Nat × Value := (x.1, rV ρ x.2)
theorem put_map (off : Nat) : ∀ (l : List (Value × Nat)) (cells : Array Value), (l.map fun x => (rV ρ x.1, x.2)).foldl (fun cs x => cs.setIfInBounds (off + x.2) x.1) (cells.map (rV ρ)) = (l.foldl (fun cs x => cs.setIfInBounds (off + x.2) x.1) cells).map (rV ρ)
  | [], cells => rfl
  | x :: l, cells => by
    simp only [List.map_cons, List.foldl_cons]
    rw [← Array.map_setIfInBounds]
    exact put_map off l _
theorem fill_map (place : Nat → Option (Nat × Nat)) : ∀ (l : List (Nat × Value)) (cells : Array Value), Instr.fill place (cells.map (rV ρ)) (l.map (rI2 ρ)) = (Instr.fill place cells l).map (Array.map (rV ρ))
  | [], cells => rfl
  | (i, v) :: l, cells => by
    rw [List.map_cons]
    unfold Instr.fill
    simp only [rI2]
    cases place i with
    | none => rfl
    | some x =>
      obtain ⟨off, size⟩ := x
      simp only [rV_cells, Array.size_map]
      split
      · rfl
      · rw [← fill_map place l]
        congr 1
        have h1 : ∀ (cs : Array Value) (ys : Array Value), (ys.zipIdx.foldl (fun cs (x : Value × Nat) => cs.setIfInBounds (off + x.2) x.1) cs) = (ys.zipIdx.toList.foldl (fun cs x => cs.setIfInBounds (off + x.2) x.1) cs) := fun cs ys => by rw [Array.foldl_toList]
        have h2 : ((v.cells.map (rV ρ)).zipIdx).toList = (v.cells.zipIdx.toList.map fun x => (rV ρ x.1, x.2)) := by
          simp [List.zipIdx_map]
        refine (h1 _ _).trans ?_
        rw [h2, put_map]
        rw [← h1]
theorem mapM_same {ι κ : Type} {f : ι → Sem κ} (h : ∀ x, PE P base fl ρ (f x) (f x)) (l : Array ι) : PE P base fl ρ (l.mapM f) (l.mapM f) := by
  have hl : ∀ l : List ι, PE P base fl ρ (l.mapM f) (l.mapM f) := fun l => by
    induction l with
    | nil => rw [List.mapM_nil]; exact Par.pur rfl
    | cons x l ih =>
      rw [List.mapM_cons]
      refine PE.then (h x) fun y => ?_
      exact PE.then ih fun z => Par.pur rfl
  rw [Array.mapM_eq_mapM_toList]
  exact Par.map (hl _) (fun a b h => by rw [h])
theorem plain_map {cs : Array Value} {v : Value} (h : rV ρ v = v) : v.cells.map (rV ρ) = v.cells := by rw [← rV_cells, h]
theorem build_par (hz : PZ P base) (t : TypeId) (parts : Array (Nat × Value)) : PV P base fl ρ (Instr.build t parts) (Instr.build t (parts.map (rI2 ρ))) := by
  unfold Instr.build
  refine Par.bnd (zeroValue_par hz t) ?_
  rintro _ v ⟨rfl, hv⟩
  dsimp only
  refine PE.then (underlying_par t) fun u => ?_
  have hm : (parts.map (rI2 ρ)).toList = parts.toList.map (rI2 ρ) := by simp
  split
  · refine PE.then (mapM_same (fun f => PE.then (sizeOf_par _) fun n => Par.pur rfl) _) fun places => ?_
    have h := fill_map (ρ := ρ) (fun x => places[x]?) parts.toList v.cells
    rw [plain_map (cs := #[]) hv] at h
    rw [hm, h]
    cases Instr.fill (fun x => places[x]?) v.cells parts.toList with
    | none => exact Par.stk
    | some cs => exact Par.pur (by simp [rV])
  · refine PE.then (sizeOf_par _) fun n => ?_
    have h := fill_map (ρ := ρ) (fun i => some (i * n, n)) parts.toList v.cells
    rw [plain_map (cs := #[]) hv] at h
    rw [hm, h]
    cases Instr.fill (fun i => some (i * n, n)) v.cells parts.toList with
    | none => exact Par.stk
    | some cs => exact Par.pur (by simp [rV])
  · exact Par.stk
theorem zeros_plain {zero : Array Value} (h : zero.map (rV ρ) = zero) (hd : rV ρ (default : Value) = default) (n : Nat) : ((Array.range n).map (zero[· % zero.size]!)).map (rV ρ) = (Array.range n).map (zero[· % zero.size]!) := by
  rw [Array.map_map]
  apply Array.map_congr_left
  intro i _
  simp only [Function.comp]
  by_cases hi : i % zero.size < zero.size
  · rw [getElem!_pos zero _ hi]
    have h2 := congrArg (fun z : Array Value => z[i % zero.size]?) h
    simp only [Array.getElem?_map, Array.getElem?_eq_getElem hi, Option.map_some, Option.some.injEq] at h2
    exact h2
  · rw [getElem!_neg zero _ hi]
    exact hd
theorem rV_default : rV ρ (default : Value) = default := by
  show rV ρ (.bool default) = .bool default
  simp [rV]
theorem buildSlice_par (hz : PZ P base) (t : TypeId) (len : Nat) (parts : Array (Nat × Value)) : PV P base fl ρ (Instr.buildSlice t len parts) (Instr.buildSlice t len (parts.map (rI2 ρ))) := by
  unfold Instr.buildSlice
  refine PE.then (underlying_par t) fun u => ?_
  cases u <;> (try exact Par.stk)
  rename_i elem
  refine PE.then (sizeOf_par _) fun n => ?_
  dsimp only
  refine Par.ite (fun _ => Par.uns) (fun _ => ?_)
  have hm : (parts.map (rI2 ρ)).toList = parts.toList.map (rI2 ρ) := by simp
  have hF : ∀ zero : Array Value, zero.map (rV ρ) = zero → Instr.fill (fun i => some (i * n, n)) ((Array.range (len * n)).map (zero[· % zero.size]!)) (parts.map (rI2 ρ)).toList = (Instr.fill (fun i => some (i * n, n)) ((Array.range (len * n)).map (zero[· % zero.size]!)) parts.toList).map (Array.map (rV ρ)) := fun zero hzero => by
    have h := fill_map (ρ := ρ) (fun i => some (i * n, n)) parts.toList ((Array.range (len * n)).map (zero[· % zero.size]!))
    rw [zeros_plain hzero rV_default] at h
    rw [hm, h]
  have hZ : Par P base fl ρ (fun a b => b = a ∧ a.map (rV ρ) = a) (if len * n = 0 then Pure.pure #[] else do pure (← zeroValue elem).cells : Sem (Array Value)) (if len * n = 0 then Pure.pure #[] else do pure (← zeroValue elem).cells : Sem (Array Value)) := by
    refine Par.ite (fun _ => Par.pur ⟨rfl, by simp⟩) (fun _ => ?_)
    refine Par.bnd (zeroValue_par hz elem) ?_
    rintro _ v ⟨rfl, hv⟩
    exact Par.pur ⟨rfl, plain_map (cs := #[]) hv⟩
  refine Par.ite (fun _ => ?_) (fun _ => ?_)
  · refine Par.bnd (R := fun a b => b = a ∧ a = #[]) (Par.pur ⟨rfl, rfl⟩) ?_
    rintro _ zero ⟨rfl, rfl⟩
    rw [hF #[] (by simp)]
    cases Instr.fill (fun i => some (i * n, n)) ((Array.range (len * n)).map ((#[] : Array Value)[· % (#[] : Array Value).size]!)) parts.toList with
    | none => exact Par.stk
    | some cs =>
      refine Par.bnd (newRow_par elem cs) ?_
      rintro a _ ⟨rfl, -⟩
      exact Par.pur (by simp [rV])
  · refine Par.bnd (zeroValue_par hz elem) ?_
    rintro _ v ⟨rfl, hv⟩
    refine Par.bnd (R := fun a b => b = a ∧ a = v.cells) (Par.pur ⟨rfl, rfl⟩) ?_
    rintro _ zero ⟨rfl, rfl⟩
    rw [hF v.cells (plain_map (cs := #[]) hv)]
    cases Instr.fill (fun i => some (i * n, n)) ((Array.range (len * n)).map (v.cells[· % v.cells.size]!)) parts.toList with
    | none => exact Par.stk
    | some cs =>
      refine Par.bnd (newRow_par elem cs) ?_
      rintro a _ ⟨rfl, -⟩
      exact Par.pur (by simp [rV])
end
end Go.Proofs.Q
namespace Go.Proofs.Q
open Go
set_option linter.unusedVariables false
set_option linter.unusedSectionVars false
variable [Gds] [Tok]
section
variable {P : Program} {base : Nat} {fl : Fl} {ρ : Nat → Nat} {α β γ δ : Type} {R : α → β → Prop} {R' : γ → δ → Prop}
theorem loadAt_par (t : TypeId) (a : Value) : PV P base fl ρ (Instr.loadAt t a) (Instr.loadAt t (rV ρ a)) := by
  unfold Instr.loadAt
  refine Par.bnd (sureAddr_par a) ?_
  rintro x _ rfl
  exact loadVar_par t x
theorem storeAt_par (t : TypeId) (a v : Value) : Par P base fl ρ (fun _ _ => True) (Instr.storeAt t a v) (Instr.storeAt t (rV ρ a) (rV ρ v)) := by
  unfold Instr.storeAt
  refine Par.bnd (sureAddr_par a) ?_
  rintro x _ rfl
  exact storeVar_par t x v
theorem fieldAt_par (s : TypeId) (a : Value) (f : Nat) : PV P base fl ρ (Instr.fieldAt s a f) (Instr.fieldAt s (rV ρ a) f) := by
  unfold Instr.fieldAt
  refine PE.then (underlying_par s) fun u => ?_
  split
  · split
    · refine Par.bnd (sureAddr_par a) ?_
      rintro x _ rfl
      refine Par.bnd (fieldPlace_par x _) ?_
      rintro y _ rfl
      exact Par.pur (by simp [rV])
    · exact Par.stk
  · exact Par.stk
theorem indexAt_par (hz : PZ P base) (t : TypeId) (x i : Value) : PV P base fl ρ (Instr.indexAt t x i) (Instr.indexAt t (rV ρ x) (rV ρ i)) := by
  unfold Instr.indexAt
  refine Par.bnd (asIntOf_par i) ?_
  rintro _ ki rfl
  obtain ⟨k, i⟩ := ki
  dsimp only
  refine PE.then (underlying_par t) fun u => ?_
  split
  · rename_i len elem
    refine Par.bnd (sureAddr_par x) ?_
    rintro a _ rfl
    refine Par.bnd (R := fun x y => x = (some a, len, elem) ∧ y = (some (rA ρ a), len, elem)) (Par.pur ⟨rfl, rfl⟩) ?_
    rintro _ _ ⟨rfl, rfl⟩
    refine PE.then (underlying_par t) fun u => ?_
    dsimp only
    refine Par.ite (fun _ => ?_) (fun _ => Par.ite (fun _ => Par.uns) (fun _ => boundsPanic_par hz _ _ _ _))
    refine PE.then (sizeOf_par _) fun n => ?_
    exact Par.pur (by simp [rV, rA_add])
  · rename_i elem b len cap
    simp only [rV]
    refine Par.bnd (R := fun x y => x = (b, len, elem) ∧ y = (b.map (rA ρ), len, elem)) (Par.pur ⟨rfl, rfl⟩) ?_
    rintro _ _ ⟨rfl, rfl⟩
    cases b with
    | none =>
      refine PE.then (underlying_par t) fun u => ?_
      exact boundsPanic_par hz _ _ _ _
    | some a =>
      refine PE.then (underlying_par t) fun u => ?_
      dsimp only
      refine Par.ite (fun _ => ?_) (fun _ => Par.ite (fun _ => Par.uns) (fun _ => boundsPanic_par hz _ _ _ _))
      refine PE.then (sizeOf_par _) fun n => ?_
      exact Par.pur (by simp [rV, rA_add])
  · exact Par.stk
theorem sliceBound_par (hz : PZ P base) (x : Value) (y : Nat) (c : BoundsCode) : PE P base fl ρ (Instr.sliceBound x y c) (Instr.sliceBound (rV ρ x) y c) := by
  unfold Instr.sliceBound
  refine Par.bnd (asIntOf_par x) ?_
  rintro _ ki rfl
  obtain ⟨k, i⟩ := ki
  exact Par.ite (fun _ => Par.pur rfl) (fun _ => boundsPanic_par hz _ _ _ _)
theorem sliceBounds_par (hz : PZ P base) (b : Bool) (l c : Nat) (lo hi mx : Option Value) : PE P base fl ρ (Instr.sliceBounds b l c lo hi mx) (Instr.sliceBounds b l c (lo.map (rV ρ)) (hi.map (rV ρ)) (mx.map (rV ρ))) := by
  unfold Instr.sliceBounds
  cases lo <;> cases hi <;> cases mx <;> simp only [Option.map_none, Option.map_some] <;>
    (repeat (first | (with_reducible refine Par.bnd (sliceBound_par hz _ _ _) ?_; rintro _ _ rfl) | (with_reducible refine PE.then (PE.pur _) fun _ => ?_) | (with_reducible exact PE.pur _) | exact Par.stk))
theorem slice_par (hz : PZ P base) (t : TypeId) (x : Value) (lo hi mx : Option Value) : PV P base fl ρ (Instr.slice t x lo hi mx) (Instr.slice t (rV ρ x) (lo.map (rV ρ)) (hi.map (rV ρ)) (mx.map (rV ρ))) := by
  unfold Instr.slice
  refine PE.then (underlying_par t) fun u => ?_
  split
  · simp only [rV, Option.isSome_map]
    refine Par.ite (fun _ => Par.stk) (fun _ => ?_)
    rename_i s hm
    have h := sliceBounds_par (P := P) (base := base) (fl := fl) (ρ := ρ) hz false s.size s.size lo hi none
    rw [Option.map_none] at h
    refine Par.bnd h ?_
    rintro _ x rfl
    exact Par.pur (by simp [rV])
  · simp only [rV]
    refine Par.bnd (sliceBounds_par hz _ _ _ _ _ _) ?_
    rintro _ x rfl
    obtain ⟨l, h, m⟩ := x
    dsimp only
    refine PE.then (sizeOf_par _) fun n => ?_
    rename_i a len cap
    refine Par.pur ?_
    split
    · simp [rV]
    · cases a <;> simp [rV, rA_add]
  · refine Par.bnd (asAddr_par hz x) ?_
    rintro a _ rfl
    refine PE.then (underlying_par _) fun u => ?_
    split
    · refine Par.bnd (sliceBounds_par hz _ _ _ _ _ _) ?_
      rintro _ x rfl
      obtain ⟨l, h, m⟩ := x
      dsimp only
      refine PE.then (sizeOf_par _) fun n => ?_
      refine Par.pur ?_
      split <;> simp [rV, rA_add]
    · exact Par.stk
  · exact Par.stk
end
end Go.Proofs.Q
namespace Go.Proofs.Q
open Go
set_option linter.unusedVariables false
set_option linter.unusedSectionVars false
variable [Gds] [Tok]
section
variable {P : Program} {base : Nat} {fl : Fl} {ρ : Nat → Nat} {α β γ δ : Type} {R : α → β → Prop} {R' : γ → δ → Prop}
theorem rp_par (hz : PZ P base) (e : RuntimeError) {f : α → Sem γ} {f' : β → Sem δ} : Par P base fl ρ R' ((runtimePanic e : Sem α) >>= f) ((runtimePanic e : Sem β) >>= f') :=
  Par.bnd (R := fun _ _ => False) (runtimePanic_par hz _) (fun _ _ h => h.elim)
theorem sliceAt_par (hz : PZ P base) (t : TypeId) (x : Value) (lo hi mx : Option Value) : PV P base fl ρ (Instr.sliceAt t x lo hi mx) (Instr.sliceAt t (rV ρ x) (lo.map (rV ρ)) (hi.map (rV ρ)) (mx.map (rV ρ))) := by
  unfold Instr.sliceAt
  refine PE.then (underlying_par t) fun u => ?_
  split
  · refine Par.bnd (sureAddr_par x) ?_
    rintro a _ rfl
    refine Par.bnd (sliceBounds_par hz _ _ _ _ _ _) ?_
    rintro _ x rfl
    obtain ⟨l, h, m⟩ := x
    dsimp only
    refine PE.then (sizeOf_par _) fun n => ?_
    refine Par.pur ?_
    split <;> simp [rV, rA_add]
  · exact slice_par hz t x lo hi mx
theorem arrayAt_par (hz : PZ P base) (t : TypeId) (x : Value) : PV P base fl ρ (Instr.arrayAt t x) (Instr.arrayAt t (rV ρ x)) := by
  unfold Instr.arrayAt
  refine PE.then (underlying_par t) fun u => ?_
  split
  · cases x with
    | slice a l c =>
      simp only [rV]
      exact Par.ite (fun _ => runtimePanic_par hz _) (fun _ => Par.pur (by simp [rV]))
    | _ => exact Par.stk
  · exact Par.stk
theorem makeInterface_par (t : TypeId) (x : Value) : PV P base fl ρ (Instr.makeInterface t x) (Instr.makeInterface t (rV ρ x)) := by
  unfold Instr.makeInterface
  refine PE.then (underlying_par t) fun u => ?_
  split
  · exact Par.stk
  · exact Par.pur (by simp [rV])
theorem makeFunc_par (f : Fn) (hf : rF ρ f = f) (a b : Array Value) : PV P base fl ρ (Instr.makeFunc f a b) (Instr.makeFunc f (a.map (rV ρ)) (b.map (rV ρ))) := Par.pur (by simp [rV, hf])
theorem makeMap_par (t : TypeId) (r : Option Value) : PV P base fl ρ (Instr.makeMap t r) (Instr.makeMap t (r.map (rV ρ))) := by
  have hn : PV P base fl ρ (do pure (.map (some (← newObj (.map #[] 0))))) (do pure (.map (some (← newObj (.map #[] 0))))) := by
    have h := Par.newObj (P := P) (base := base) (fl := fl) (ρ := ρ) (.map #[] 0)
    rw [show rO ρ (.map #[] 0) = .map #[] 0 by simp [rO]] at h
    refine Par.bnd h ?_
    rintro r _ ⟨rfl, -⟩
    exact Par.pur (by simp [rV])
  unfold Instr.makeMap
  cases r with
  | none => exact hn
  | some v =>
    simp only [Option.map_some]
    refine PE.then (underlying_par t) fun u => ?_
    split
    · refine Par.bnd (asInt_par v) ?_
      rintro _ n rfl
      exact hn
    · exact Par.stk
theorem makeSlice_par (hz : PZ P base) (t : TypeId) (l c : Value) : PV P base fl ρ (Instr.makeSlice t l c) (Instr.makeSlice t (rV ρ l) (rV ρ c)) := by
  unfold Instr.makeSlice
  refine PE.then (underlying_par t) fun u => ?_
  cases u <;> (try exact Par.stk)
  rename_i elem
  refine Par.bnd (asInt_par l) ?_
  rintro _ len rfl
  refine Par.bnd (asInt_par c) ?_
  rintro _ cap rfl
  refine PE.then (typeInfo_par elem) fun info => ?_
  dsimp only
  refine Par.ite (fun _ => ?_) (fun _ => ?_)
  · refine Par.ite (fun _ => rp_par hz _) (fun _ => Par.ite (fun _ => rp_par hz _) (fun _ => ?_))
    refine PE.then (Par.choose _) fun n => ?_
    exact rp_par hz _
  · refine Par.bnd (askRoom_par _) ?_
    rintro _ _ -
    refine PE.then (sizeOf_par _) fun n => ?_
    have hZ : ∀ zero : Array Value, zero.map (rV ρ) = zero → PV P base fl ρ (do let a ← newRow elem ((Array.range ((IntKind.i64.wrap cap).toNat * n)).map (zero[· % zero.size]!)); pure (.slice (some a) (IntKind.i64.wrap len).toNat (IntKind.i64.wrap cap).toNat)) (do let a ← newRow elem ((Array.range ((IntKind.i64.wrap cap).toNat * n)).map (zero[· % zero.size]!)); pure (.slice (some a) (IntKind.i64.wrap len).toNat (IntKind.i64.wrap cap).toNat)) := fun zero hzero => by
      have h := newRow_par (P := P) (base := base) (fl := fl) (ρ := ρ) elem ((Array.range ((IntKind.i64.wrap cap).toNat * n)).map (zero[· % zero.size]!))
      rw [zeros_plain hzero rV_default] at h
      refine Par.bnd h ?_
      rintro a _ ⟨rfl, -⟩
      exact Par.pur (by simp [rV])
    refine Par.ite (fun _ => ?_) (fun _ => ?_)
    · exact Par.bnd (R := fun a b => b = a ∧ a.map (rV ρ) = a) (Par.pur ⟨rfl, by simp⟩) (by rintro _ z ⟨rfl, hh⟩; exact hZ z hh)
    · refine Par.bnd (zeroValue_par hz elem) ?_
      rintro _ v ⟨rfl, hv⟩
      exact Par.bnd (R := fun a b => b = a ∧ a.map (rV ρ) = a) (Par.pur ⟨rfl, plain_map (cs := #[]) hv⟩) (by rintro _ z ⟨rfl, hh⟩; exact hZ z hh)
theorem field_par (t : TypeId) (x : Value) (f : Nat) : PV P base fl ρ (Instr.field t x f) (Instr.field t (rV ρ x) f) := by
  unfold Instr.field
  refine PE.then (underlying_par t) fun u => ?_
  split
  · split
    · refine Par.bnd (asAgg_par x) ?_
      rintro cs _ rfl
      exact part_par _ _ _
    · exact Par.stk
  · exact Par.stk
theorem index_par (hz : PZ P base) (t : TypeId) (x i : Value) : PV P base fl ρ (Instr.index t x i) (Instr.index t (rV ρ x) (rV ρ i)) := by
  unfold Instr.index
  refine Par.bnd (asIntOf_par i) ?_
  rintro _ ki rfl
  obtain ⟨k, i⟩ := ki
  dsimp only
  refine PE.then (underlying_par t) fun u => ?_
  split
  · simp only [rV]
    refine Par.ite (fun _ => ?_) (fun _ => boundsPanic_par hz _ _ _ _)
    refine PE.then (sizeOf_par _) fun n => ?_
    exact part_par _ _ _
  · simp only [rV]
    split
    · exact Par.pur (by simp [rV])
    · exact boundsPanic_par hz _ _ _ _
  · exact Par.stk
theorem extract_par (x : Value) (i : Nat) : PV P base fl ρ (Instr.extract x i) (Instr.extract (rV ρ x) i) := by
  unfold Instr.extract
  cases x with
  | tuple vs =>
    simp only [rV, Array.getElem?_map]
    cases vs[i]? with
    | none => exact Par.stk
    | some v => exact Par.pur rfl
  | _ => exact Par.stk
theorem checkKey_par (hz : PZ P base) (e : Bool) : ∀ (n : Nat) (t : TypeId) (v : Value), Par P base fl ρ (fun _ _ => True) (Instr.checkKey e n t v) (Instr.checkKey e n t (rV ρ v))
  | 0, t, v => Par.uns
  | n + 1, t, v => by
    unfold Instr.checkKey
    refine PE.then (underlying_par t) fun u => ?_
    split <;> (try exact Par.stk) <;> (try exact Par.uns)
    · simp only [rV]
      refine PE.then (typeInfo_par _) fun info => ?_
      refine Par.ite (fun _ => ?_) (fun _ => checkKey_par hz e n _ _)
      refine Par.ite (fun _ => rp_par hz _) (fun _ => ?_)
      refine PE.then (typeStr_par _) fun s => ?_
      exact rp_par hz _
    · simp only [rV]
      refine Par.bnd (forIn_range _ _ fun i b => ?_) (fun _ _ _ => Par.pur trivial)
      refine PE.then (sizeOf_par _) fun m => ?_
      refine Par.bnd (part_par _ _ _) ?_
      rintro x _ rfl
      refine Par.bnd (checkKey_par hz e n _ _) ?_
      rintro _ _ -
      exact Par.pur rfl
    · simp only [rV]
      refine Par.bnd (forIn_arr _ _ fun f b => ?_) (fun _ _ _ => Par.pur trivial)
      refine Par.ite (fun _ => ?_) (fun _ => Par.pur rfl)
      refine Par.bnd (part_par _ _ _) ?_
      rintro x _ rfl
      refine Par.bnd (checkKey_par hz e n _ _) ?_
      rintro _ _ -
      exact Par.pur rfl
    · simp only [rV]
      exact Par.pur trivial
    · have ht : Par P base fl ρ (fun _ _ => True) (Pure.pure () : Sem Unit) (Pure.pure () : Sem Unit) := Par.pur trivial
      cases u <;> first
        | exact ht
        | (exfalso; simp_all; done)
        | trace_state
end
end Go.Proofs.Q
namespace Go.Proofs.Q
open Go
set_option linter.unusedVariables false
set_option linter.unusedSectionVars false
variable [Gds] [Tok]
section
variable {P : Program} {base : Nat} {fl : Fl} {ρ : Nat → Nat} {α β γ δ : Type} {R : α → β → Prop} {R' : γ → δ → Prop}
def rX (ρ : Nat → Nat) (x : Nat × Value) : Nat × Value := (x.1, rV ρ x.2)
theorem findAsking_par (hz : PZ P base) (t : TypeId) (k : Value) : ∀ (l : List MapEntry) (i : Nat), Par P base fl ρ (fun x y => y = x.map (rX ρ)) (Instr.findAsking t k l i) (Instr.findAsking t (rV ρ k) (l.map (rE ρ)) i)
  | [], i => Par.pur rfl
  | e :: l, i => by
    rw [List.map_cons]
    unfold Instr.findAsking
    refine Par.bnd (equal_par hz t k e.key) ?_
    rintro _ b rfl
    exact Par.ite (fun _ => Par.pur rfl) (fun _ => findAsking_par hz t k l (i + 1))
theorem sameNow_map (d : TypeDesc) (x y : Value) : Instr.sameNow d (rV ρ x) (rV ρ y) = Instr.sameNow d x y := by
  cases d <;> cases x <;> first | rfl | (cases y <;> simp [rV, Instr.sameNow])
theorem findNow_map (d : TypeDesc) (k : Value) : ∀ (l : List MapEntry) (i : Nat), Instr.findNow d (rV ρ k) (l.map (rE ρ)) i = (Instr.findNow d k l i).map (Option.map (rX ρ))
  | [], i => rfl
  | e :: l, i => by
    rw [List.map_cons]
    unfold Instr.findNow
    rw [show (rE ρ e).key = rV ρ e.key from rfl, sameNow_map]
    split
    · rfl
    · exact findNow_map d k l (i + 1)
    · rfl
theorem findKey_par (hz : PZ P base) (t : TypeId) (k : Value) (l : List MapEntry) : Par P base fl ρ (fun x y => y = x.map (rX ρ)) (Instr.findKey t k l) (Instr.findKey t (rV ρ k) (l.map (rE ρ))) := by
  unfold Instr.findKey
  refine PE.then (underlying_par t) fun u => ?_
  rw [findNow_map]
  cases Instr.findNow u k l 0 with
  | none => exact findAsking_par hz t k l 0
  | some r => exact Par.pur rfl
theorem lookup_par (hz : PZ P base) (t : TypeId) (x i : Value) (ok : Bool) : PV P base fl ρ (Instr.lookup t x i ok) (Instr.lookup t (rV ρ x) (rV ρ i) ok) := by
  unfold Instr.lookup
  refine PE.then (underlying_par t) fun u => ?_
  cases u <;> (try exact Par.stk)
  rename_i key elem
  cases x with
  | map r =>
    cases r with
    | none =>
      simp only [rV, Option.map_none]
      refine Par.bnd (R := fun a b => b = a.map (rE ρ)) (Par.pur (by simp)) ?_
      rintro es _ rfl
      have h1 : (es.map (rE ρ)).isEmpty = es.isEmpty := by simp [Array.isEmpty]
      have h2 : (es.map (rE ρ)).toList = es.toList.map (rE ρ) := by simp
      rw [h1, h2]
      refine Par.bnd (checkKey_par hz _ _ _ _) ?_
      rintro _ _ -
      refine Par.bnd (findKey_par hz _ _ _) ?_
      rintro r _ rfl
      cases r with
      | some x =>
        refine Par.bnd (R := fun a b => b = (rV ρ a.1, a.2)) (Par.pur rfl) ?_
        rintro ⟨v, b⟩ _ rfl
        exact Par.pur (by dsimp only; split <;> simp [rV])
      | none =>
        refine Par.bnd (zeroV_par hz elem) ?_
        rintro v _ rfl
        refine Par.bnd (R := fun a b => b = (rV ρ a.1, a.2)) (Par.pur rfl) ?_
        rintro ⟨v, b⟩ _ rfl
        exact Par.pur (by dsimp only; split <;> simp [rV])
    | some r =>
      simp only [rV, Option.map_some]
      refine Par.getObj_bnd r ?_ (fun u s' => Par.stk)
      rintro o o' (⟨hb, rfl, hn⟩ | ⟨_, rfl, _⟩)
      · cases o <;> simp only [rO] <;> (try exact Par.stk)
        rename_i es0 clock
        refine Par.bnd (R := fun a b => b = a.map (rE ρ)) (Par.pur rfl) ?_
        rintro es _ rfl
        have h1 : (es.map (rE ρ)).isEmpty = es.isEmpty := by simp [Array.isEmpty]
        have h2 : (es.map (rE ρ)).toList = es.toList.map (rE ρ) := by simp
        rw [h1, h2]
        refine Par.bnd (checkKey_par hz _ _ _ _) ?_
        rintro _ _ -
        refine Par.bnd (findKey_par hz _ _ _) ?_
        rintro r _ rfl
        cases r with
        | some x =>
          refine Par.bnd (R := fun a b => b = (rV ρ a.1, a.2)) (Par.pur rfl) ?_
          rintro ⟨v, b⟩ _ rfl
          exact Par.pur (by dsimp only; split <;> simp [rV])
        | none =>
          refine Par.bnd (zeroV_par hz elem) ?_
          rintro v _ rfl
          refine Par.bnd (R := fun a b => b = (rV ρ a.1, a.2)) (Par.pur rfl) ?_
          rintro ⟨v, b⟩ _ rfl
          exact Par.pur (by dsimp only; split <;> simp [rV])
      · exact Par.stk
  | _ => exact Par.stk
theorem oA_beq (hi : ∀ a b, ρ a = ρ b → a = b) (a b : Option Addr) : (a.map (rA ρ) == b.map (rA ρ)) = (a == b) := by
  cases a <;> cases b <;> simp [Option.map]
  exact rA_beq hi _ _
theorem sameBits_map (hi : ∀ a b, ρ a = ρ b → a = b) : ∀ (n : Nat) (x y : Value), Instr.sameBits n (rV ρ x) (rV ρ y) = Instr.sameBits n x y
  | 0, x, y => by
    cases x <;> cases y <;> first | (simp only [rV, Instr.sameBits]; done) | (simp only [rV, Instr.sameBits, oA_beq hi, opt_beq hi]; done)
  | n + 1, x, y => by
    cases x <;> cases y <;> first | (simp only [rV, Instr.sameBits]; done) | (simp only [rV, Instr.sameBits, oA_beq hi, opt_beq hi]; done) | (simp only [rV, Instr.sameBits, sameBits_map hi n]; done) | skip
    rename_i a b
    simp only [rV, Instr.sameBits, Array.size_map, Array.toList_map]
    congr 1
    have : ∀ l m : List Value, ((l.map (rV ρ)).zip (m.map (rV ρ))).all (fun x => Instr.sameBits n x.1 x.2) = (l.zip m).all (fun x => Instr.sameBits n x.1 x.2) := fun l => by
      induction l with
      | nil => intro m; rfl
      | cons x l ih =>
        intro m
        cases m with
        | nil => rfl
        | cons y m => simp only [List.map_cons, List.zip_cons_cons, List.all_cons, ih, sameBits_map hi n]
    exact this _ _
theorem keyThatStays_par (a b : Value) : PV P base fl ρ (Instr.keyThatStays a b) (Instr.keyThatStays (rV ρ a) (rV ρ b)) := Par.ren fun hi hf => by
  unfold Instr.keyThatStays
  rw [sameBits_map hi]
  refine Par.ite (fun _ => Par.pur rfl) (fun _ => PE.then (Par.choose _) fun n => Par.pur ?_)
  split <;> rfl
theorem rE_modify (es : Array MapEntry) (i : Nat) (f f' : MapEntry → MapEntry) (h : ∀ e, f' (rE ρ e) = rE ρ (f e)) : (es.map (rE ρ)).modify i f' = (es.modify i f).map (rE ρ) := by
  apply Array.ext_getElem?
  intro j
  rw [Array.getElem?_modify, Array.getElem?_map, Array.getElem?_map, Array.getElem?_modify]
  split
  · cases es[j]? with
    | none => rfl
    | some e => simp [h]
  · rfl
theorem mapUpdate_par (hz : PZ P base) (t : TypeId) (m k v : Value) : Par P base fl ρ (fun _ _ => True) (Instr.mapUpdate t m k v) (Instr.mapUpdate t (rV ρ m) (rV ρ k) (rV ρ v)) := by
  unfold Instr.mapUpdate
  refine PE.then (underlying_par t) fun u => ?_
  cases u <;> (try exact Par.stk)
  rename_i key elem
  cases m with
  | map r =>
    cases r with
    | none => simp only [rV, Option.map_none]; exact runtimePanic_par hz _
    | some r =>
      simp only [rV, Option.map_some]
      refine Par.getObj_bnd r ?_ (fun u s' => Par.stk)
      rintro o o' (⟨hb, rfl, hn⟩ | ⟨_, rfl, _⟩)
      · cases o <;> simp only [rO] <;> (try exact Par.stk)
        rename_i es clock
        refine Par.bnd (checkKey_par hz _ _ _ _) ?_
        rintro _ _ -
        have h2 : (es.map (rE ρ)).toList = es.toList.map (rE ρ) := by simp
        rw [h2]
        refine Par.bnd (findKey_par hz _ _ _) ?_
        rintro x _ rfl
        cases x with
        | some x =>
          obtain ⟨i, y⟩ := x
          have h3 : (((es.map (rE ρ))[i]?).map (·.key)).getD (rV ρ k) = rV ρ (((es[i]?).map (·.key)).getD k) := by
            rw [Array.getElem?_map]
            cases es[i]? <;> rfl
          simp only [Option.map_some, rX, h3]
          refine Par.bnd (keyThatStays_par _ _) ?_
          rintro key' _ rfl
          have h := Par.setObj (P := P) (fl := fl) (ρ := ρ) hb (.map (es.modify i fun e => { e with key := key', val := v }) clock)
          simp only [rO] at h
          rw [← rE_modify es i (fun e => { e with key := key', val := v }) (fun e => { e with key := rV ρ key', val := rV ρ v }) (fun e => rfl)] at h
          exact h
        | none =>
          have h := Par.setObj (P := P) (fl := fl) (ρ := ρ) hb (.map (es.push { key := k, val := v, born := clock }) (clock + 1))
          simp only [rO, Array.map_push] at h
          exact h
      · exact Par.stk
  | _ => exact Par.stk
theorem range_par (t : TypeId) (x : Value) : PV P base fl ρ (Instr.range t x) (Instr.range t (rV ρ x)) := by
  have hn : ∀ o : Obj, notP o ∧ VwOk fl base o → PV P base fl ρ (do pure (.pointer (some ⟨← newObj o, 0, none⟩))) (do pure (.pointer (some ⟨← newObj (rO ρ o), 0, none⟩))) := fun o ho => by
    refine Par.bnd (Par.newObj o ho.1 ho.2) ?_
    rintro r _ ⟨rfl, -⟩
    exact Par.pur (by simp [rV, rA])
  unfold Instr.range
  refine PE.then (underlying_par t) fun u => ?_
  split
  · simp only [rV]
    exact Par.bnd (R := fun a b => b = rO ρ a ∧ notP a ∧ VwOk fl base a) (Par.pur ⟨by simp [rO], trivial, by intro b u q; cases q⟩) (by rintro o _ ⟨rfl, ho⟩; exact hn o ho)
  · simp only [rV, Option.map_none]
    exact Par.bnd (R := fun a b => b = rO ρ a ∧ notP a ∧ VwOk fl base a) (Par.pur ⟨by simp [rO], trivial, by intro b u q; cases q⟩) (by rintro o _ ⟨rfl, ho⟩; exact hn o ho)
  · simp only [rV, Option.map_some]
    refine Par.getObj_bnd _ ?_ (fun u s' => Par.stk)
    rintro o o' (⟨hb, rfl, hq⟩ | ⟨_, rfl, _⟩)
    · cases o <;> simp only [rO] <;> (try exact Par.stk)
      exact Par.bnd (R := fun a b => b = rO ρ a ∧ notP a ∧ VwOk fl base a) (Par.pur ⟨by simp [rO], trivial, by intro b u q; cases q⟩) (by rintro o _ ⟨rfl, ho⟩; exact hn o ho)
    · exact Par.stk
  · exact Par.stk
end
end Go.Proofs.Q
namespace Go.Proofs.Q
open Go
set_option linter.unusedVariables false
set_option linter.unusedSectionVars false
variable [Gds] [Tok]
section
variable {P : Program} {base : Nat} {fl : Fl} {ρ : Nat → Nat} {α β γ δ : Type} {R : α → β → Prop} {R' : γ → δ → Prop}
theorem filter_rE (es : Array MapEntry) (p : MapEntry → Bool) (h : ∀ e, p (rE ρ e) = p e) : (es.map (rE ρ)).filter p = (es.filter p).map (rE ρ) := by
  rw [Array.filter_map]
  congr 2
  funext e
  exact h e
theorem next_par (it : Value) (s : Bool) (t : TypeId) : PV P base fl ρ (Instr.next it s t) (Instr.next (rV ρ it) s t) := by
  unfold Instr.next
  have hov : PV P base fl ρ (Pure.pure (.tuple #[.bool false])) (Pure.pure (.tuple #[.bool false])) := Par.pur (by simp [rV])
  cases it with
  | pointer p =>
    cases p with
    | none => exact Par.stk
    | some a =>
      obtain ⟨r, off, sp⟩ := a
      simp only [rV, Option.map_some, rA]
      cases off with
      | succ n => exact Par.stk
      | zero =>
        refine Par.getObj_bnd r ?_ (fun u s' => Par.stk)
        rintro o o' (⟨hb, rfl, hn⟩ | ⟨_, rfl, _⟩)
        · cases o <;> cases s <;> simp only [rO] <;> (try exact Par.stk)
          · rename_i str pos
            refine Par.ite (fun _ => ?_) (fun _ => hov)
            have h := Par.setObj (P := P) (fl := fl) (ρ := ρ) hb (.stringIter str (pos + (Utf8.decode str pos).2))
            simp only [rO] at h
            refine Par.bnd h ?_
            rintro _ _ -
            exact Par.pur (by simp [rV, goInt])
          · rename_i m since seen last
            cases m with
            | none => exact hov
            | some m =>
              simp only [Option.map_some]
              refine Par.getObj_bnd m ?_ (fun u s' => Par.stk)
              rintro o o' (⟨hb2, rfl, hn2⟩ | ⟨_, rfl, _⟩)
              · cases o <;> simp only [rO] <;> (try exact Par.stk)
                rename_i es clock
                have e1 : (!seen.isEmpty && !(es.map (rE ρ)).isEmpty && (es.map (rE ρ)).all (fun x => decide (x.born ≥ last))) = (!seen.isEmpty && !es.isEmpty && es.all (fun x => decide (x.born ≥ last))) := by
                  simp [Array.isEmpty, rE, Function.comp_def]
                  rfl
                rw [e1]
                refine Par.ite (fun _ => Par.uns) (fun _ => ?_)
                have f1 : (es.map (rE ρ)).filter (fun e => !seen.contains e.born) = (es.filter (fun e => !seen.contains e.born)).map (rE ρ) := filter_rE _ _ (fun e => rfl)
                have f2 : ∀ l : Array MapEntry, (l.map (rE ρ)).filter (fun e => decide (e.born < since)) = (l.filter (fun e => decide (e.born < since))).map (rE ρ) := fun l => filter_rE _ _ (fun e => rfl)
                have f3 : ∀ l : Array MapEntry, (l.map (rE ρ)).filter (fun e => decide (e.born ≥ since)) = (l.filter (fun e => decide (e.born ≥ since))).map (rE ρ) := fun l => filter_rE _ _ (fun e => rfl)
                rw [f1, f2, f3]
                generalize es.filter (fun e => !seen.contains e.born) = left
                generalize left.filter (fun e => decide (e.born < since)) = old
                generalize left.filter (fun e => decide (e.born ≥ since)) = new
                have f4 : ((if (old.map (rE ρ)).isEmpty = true then #[none] else #[]) ++ (old.map (rE ρ) ++ new.map (rE ρ)).map some) = (((if old.isEmpty = true then #[none] else #[]) ++ (old ++ new).map some).map (Option.map (rE ρ)) : Array (Option MapEntry)) := by
                  have f5 : (old.map (rE ρ)).isEmpty = old.isEmpty := by simp [Array.isEmpty]
                  rw [f5]
                  split <;> simp [Function.comp_def]
                rw [f4, Array.size_map]
                generalize ((if old.isEmpty = true then #[none] else #[]) ++ (old ++ new).map some : Array (Option MapEntry)) = cand
                refine PE.then (Par.choose _) fun n => ?_
                rw [Array.getElem?_map]
                cases cand[n]? with
                | none => exact Par.stk
                | some x =>
                  cases x with
                  | none => exact hov
                  | some e =>
                    have h := Par.setObj (P := P) (fl := fl) (ρ := ρ) hb (.mapIter (some m) since (seen.push e.born) clock)
                    simp only [rO, Option.map_some] at h
                    refine Par.bnd h ?_
                    rintro _ _ -
                    exact Par.pur (by simp [rV, rE])
              · exact Par.stk
        · exact Par.stk
  | _ => exact Par.stk
theorem entry_par (it : Value) : PV P base fl ρ (Instr.entry it) (Instr.entry (rV ρ it)) := by
  unfold Instr.entry
  cases it with
  | pointer p =>
    cases p with
    | none => exact Par.stk
    | some a =>
      obtain ⟨r, off, sp⟩ := a
      simp only [rV, Option.map_some, rA]
      cases off with
      | succ n => exact Par.stk
      | zero =>
        refine Par.getObj_bnd r ?_ (fun u s' => Par.stk)
        rintro o o' (⟨hb, rfl, hn⟩ | ⟨_, rfl, _⟩)
        · cases o <;> simp only [rO] <;> (try exact Par.stk)
          rename_i m since seen last
          cases m with
          | none => exact Par.stk
          | some m =>
            simp only [Option.map_some]
            cases seen.back? with
            | none => exact Par.stk
            | some stamp =>
              refine Par.getObj_bnd m ?_ (fun u s' => Par.stk)
              rintro o o' (⟨hb2, rfl, hn2⟩ | ⟨_, rfl, _⟩)
              · cases o <;> simp only [rO] <;> (try exact Par.stk)
                rename_i es clock
                refine Par.ite (fun _ => Par.uns) (fun _ => ?_)
                have h : (es.map (rE ρ)).find? (fun x => x.born == stamp) = (es.find? (fun x => x.born == stamp)).map (rE ρ) := by
                  rw [Array.find?_map]
                  rfl
                rw [h]
                cases es.find? (fun x => x.born == stamp) with
                | none => exact Par.uns
                | some e => exact Par.pur (by simp [rV, rE])
              · exact Par.stk
        · exact Par.stk
  | _ => exact Par.stk
theorem typeAssert_par (hz : PZ P base) (x : Value) (t a : TypeId) (ok : Bool) : PV P base fl ρ (Instr.typeAssert x t a ok) (Instr.typeAssert (rV ρ x) t a ok) := by
  unfold Instr.typeAssert
  have hf : ∀ (s d : Option TypeId) (m : String), PV P base fl ρ (if ok = true then do pure (.tuple #[← zeroValue a, .bool false]) else runtimePanic (.typeAssertion s d a m)) (if ok = true then do pure (.tuple #[← zeroValue a, .bool false]) else runtimePanic (.typeAssertion s d a m)) := fun s d m => by
    refine Par.ite (fun _ => ?_) (fun _ => runtimePanic_par hz _)
    refine Par.bnd (zeroV_par hz a) ?_
    rintro v _ rfl
    exact Par.pur (by simp [rV])
  have hh : ∀ v : Value, PV P base fl ρ (Pure.pure (if ok = true then .tuple #[v, .bool true] else v)) (Pure.pure (if ok = true then .tuple #[rV ρ v, .bool true] else rV ρ v)) := fun v => Par.pur (by split <;> simp [rV])
  refine PE.then (underlying_par a) fun u => ?_
  dsimp only
  cases x with
  | nilIface =>
    simp only [rV]
    cases u <;> exact hf _ _ _
  | iface t' v =>
    have hv := hh v
    have hx := hh (.iface t' v)
    simp only [rV] at hx ⊢
    cases u with
    | interface want =>
      refine PE.then (typeInfo_par _) fun info => ?_
      split
      · exact hx
      · exact hf _ _ _
    | _ => exact Par.ite (fun _ => hv) (fun _ => hf _ _ _)
  | _ => cases u <;> exact Par.stk
end
end Go.Proofs.Q
namespace Go.Proofs.Q
open Go
set_option linter.unusedVariables false
set_option linter.unusedSectionVars false
variable [Gds] [Tok]
section
variable {P : Program} {base : Nat} {fl : Fl} {ρ : Nat → Nat} {α β γ δ : Type} {R : α → β → Prop} {R' : γ → δ → Prop}
theorem env_run (w : World) : w.sys .env = (.strings w.os.env, w) := rfl
theorem env_par : Par P base fl ρ (fun a b => b = a) (Go.sys .env) (Go.sys .env) := fun w w' hw => by
  refine ⟨.ok (.strings w.os.env) w, Runs.still rfl fun τ => rfl, ?_⟩
  have h2 : (Go.sys .env).run P w' = .ok (.strings w'.os.env) w' := rfl
  rw [h2]
  refine ⟨by rw [hw.os], hw, Nat.le_refl _, Gu.quiet fun _ e he => ?_⟩
  simp [Sem.events, Go.sys, Sem.runT, -Sem.runT_eq] at he
  subst he
  trivial
theorem panicI_par (hz : PZ P base) (x : Value) : PV P base fl ρ (Instr.panic x) (Instr.panic (rV ρ x)) := by
  unfold Instr.panic
  cases x with
  | iface t v =>
    have := Par.panic (P := P) (base := base) (fl := fl) (ρ := ρ) (R := fun (v v' : Value) => v' = rV ρ v) (.iface t v)
    simp only [rV] at this ⊢
    exact this
  | nilIface =>
    simp only [rV]
    refine PE.then ?_ fun n => ?_
    · unfold Instr.panicnil
      refine PE.then env_par fun s => ?_
      split
      · refine prog_par ?_
        exact Par.pur rfl
      · exact Par.stk
    · exact Par.ite (fun _ => panic_par _ (by simp [rV])) (fun _ => runtimePanic_par hz _)
  | _ => exact Par.stk
theorem getLoop_par (l : Nat) : Par P base fl ρ (fun a b => b = rL ρ a ∧ base ≤ l ∧ okL a) (Instr.getLoop l) (Instr.getLoop (ρ l)) := by
  unfold Instr.getLoop
  refine Par.getObjN_bnd l ?_ (fun u s' => Par.stk)
  rintro o o' ⟨⟨hb, rfl, hn⟩ | ⟨_, rfl, _⟩, hq⟩
  · cases o <;> simp only [rO] <;> first | exact Par.stk | exact Par.pur ⟨rfl, hb, hq⟩
  · exact Par.stk
theorem enterLoop_par (fn : FuncId) (tmps : Array Value) (params : Array Tmp) {a b : Code} (ga : Gds.gc a) (gb : Gds.gc b) (l : Option Nat) : Par P base fl ρ (fun x y => y = (ρ x.1, x.2.map (rD ρ)) ∧ base ≤ x.1 ∧ ∀ d, d ∈ x.2 → ∃ b, d.target = .collected b) (Instr.enterLoop fn tmps params a b l) (Instr.enterLoop fn (tmps.map (rV ρ)) params a b (l.map ρ)) := by
  unfold Instr.enterLoop
  have ha := Tok.chi_fix a ga
  have hb0 := Tok.chi_fix b gb
  have hn : ∀ (x : Nat × List Deferred), (∀ d, d ∈ x.2 → ∃ b, d.target = .collected b) → Par P base fl ρ (fun x y => y = (ρ x.1, x.2.map (rD ρ)) ∧ base ≤ x.1 ∧ ∀ d, d ∈ x.2 → ∃ b, d.target = .collected b) (do pure (← newObj (.loop { state := .ready, pending := none, fn, tmps, params, assign := a, body := b, defers := x.1 }), x.2)) (do pure (← newObj (.loop { state := .ready, pending := none, fn, tmps := tmps.map (rV ρ), params, assign := a, body := b, defers := ρ x.1 }), x.2.map (rD ρ))) := fun x hx => by
    have h := Par.newObj (P := P) (base := base) (fl := fl) (ρ := ρ) (.loop { state := .ready, pending := none, fn, tmps, params, assign := a, body := b, defers := x.1 }) ⟨ga, gb, fun c h => by cases h⟩
    simp only [rO, rL, ha, hb0, Option.map_none] at h
    refine Par.bnd h ?_
    rintro r _ ⟨rfl, hb⟩
    exact Par.pur ⟨rfl, hb, hx⟩
  cases l with
  | some l =>
    simp only [Option.map_some]
    refine Par.bnd (getLoop_par l) ?_
    rintro lp _ ⟨rfl, hb, hq⟩
    exact Par.bnd (R := fun x y => y = (ρ x.1, x.2.map (rD ρ)) ∧ ∀ d, d ∈ x.2 → ∃ b, d.target = .collected b) (Par.pur ⟨rfl, by simp⟩) (by rintro x _ ⟨rfl, hx⟩; exact hn x hx)
  | none =>
    simp only [Option.map_none]
    refine Par.bnd (Par.newObj (.deferred (some [])) (fun d hd => by cases hd)) ?_
    rintro r _ ⟨rfl, hb⟩
    exact Par.bnd (R := fun x y => y = (ρ x.1, x.2.map (rD ρ)) ∧ ∀ d, d ∈ x.2 → ∃ b, d.target = .collected b) (Par.pur ⟨by simp [rD, rT], by simp⟩) (by rintro x _ ⟨rfl, hx⟩; exact hn x hx)
theorem set_zip (tmps : Array Value) (ps : Array Tmp) (args : Array Value) : (ps.zip (args.map (rV ρ))).foldl (fun t x => t.setIfInBounds x.1 x.2) (tmps.map (rV ρ)) = ((ps.zip args).foldl (fun t x => t.setIfInBounds x.1 x.2) tmps).map (rV ρ) := by
  have h : ∀ (l : List (Tmp × Value)) (t : Array Value), (l.map fun x => (x.1, rV ρ x.2)).foldl (fun t x => t.setIfInBounds x.1 x.2) (t.map (rV ρ)) = (l.foldl (fun t x => t.setIfInBounds x.1 x.2) t).map (rV ρ) := fun l => by
    induction l with
    | nil => intro t; rfl
    | cons x l ih =>
      intro t
      simp only [List.map_cons, List.foldl_cons]
      rw [← Array.map_setIfInBounds]
      exact ih _
  rw [← Array.foldl_toList, ← Array.foldl_toList, ← h]
  congr 1
  simp [List.zip_map_right]
def rN (ρ : Nat → Nat) : Next → Next
  | .value v => .value (rV ρ v)
  | .skip => .skip
  | .enter f a => .enter f (a.map (rV ρ))
  | .round l f t a b => .round (ρ l) f (t.map (rV ρ)) (Tok.chi a) (Tok.chi b)
  | .defer d => .defer (rD ρ d)
  | .recover => .recover
  | .callThen d r s w => .callThen (rD ρ d) r (s.map (rV ρ)) w
  | .row r a => .row r (a.map (rV ρ))
  | n => n
def okN : Next → Prop
  | .enter f _ => Gds.gf f
  | .round _ _ _ a b => Gds.gc a ∧ Gds.gc b
  | .defer d => okT d.target
  | .value _ | .skip | .recover => True
  | _ => False
abbrev PN (P : Program) (base : Nat) (fl : Fl) (ρ : Nat → Nat) (s s' : Sem Next) : Prop := Par P base fl ρ (fun n n' => n' = rN ρ n ∧ okN n) s s'
theorem yield_par (l : Nat) (args : Array Value) : PN P base fl ρ (Instr.yield l args) (Instr.yield (ρ l) (args.map (rV ρ))) := by
  unfold Instr.yield
  refine Par.bnd (getLoop_par l) ?_
  rintro lp _ ⟨rfl, hb, hq⟩
  rw [Array.size_map]
  refine Par.ite (fun _ => Par.stk) (fun _ => ?_)
  refine Par.pur ⟨?_, hq.1, hq.2.1⟩
  simp only [rN, rL]
  rw [set_zip]
theorem beginRound_par (hz : PZ P base) (l : Nat) : Par P base fl ρ (fun _ _ => True) (Instr.beginRound l) (Instr.beginRound (ρ l)) := by
  unfold Instr.beginRound
  refine Par.bnd (getLoop_par l) ?_
  rintro lp _ ⟨rfl, hb, hq⟩
  refine Par.bnd (Par.setObj hb (.loop { lp with state := .busy }) hq) ?_
  rintro _ _ -
  have : (rL ρ lp).state = lp.state := rfl
  rw [this]
  split <;> first | exact Par.pur trivial | exact runtimePanic_par hz _
theorem endRound_par (l : Nat) (j : Option Code) (gj : ∀ c, j = some c → Gds.gc c) : PV P base fl ρ (Instr.endRound l j) (Instr.endRound (ρ l) j) := by
  unfold Instr.endRound
  refine Par.bnd (getLoop_par l) ?_
  rintro lp _ ⟨rfl, hb, hq⟩
  have hj : j.map Tok.chi = j := by cases j with | none => rfl | some c => simp [Tok.chi_fix c (gj c rfl)]
  have h := Par.setObj (P := P) (fl := fl) (ρ := ρ) hb (.loop { lp with state := if j.isNone then .ready else .done, pending := j }) ⟨hq.1, hq.2.1, gj⟩
  simp only [rO, rL, hj] at h
  refine Par.bnd h ?_
  rintro _ _ -
  exact Par.pur (by simp [rV])
theorem endLoop_par (hz : PZ P base) (l : Nat) : Par P base fl ρ (fun x y => y = x ∧ ∀ c, x = some c → Gds.gc c) (Instr.endLoop l) (Instr.endLoop (ρ l)) := by
  unfold Instr.endLoop
  refine Par.bnd (getLoop_par l) ?_
  rintro lp _ ⟨rfl, hb, hq⟩
  refine Par.ite (fun _ => rp_par hz _) (fun _ => ?_)
  refine Par.bnd (Par.setObj hb (.loop { lp with state := .exhausted }) hq) ?_
  rintro _ _ -
  refine Par.pur ⟨?_, hq.2.2⟩
  show lp.pending.map Tok.chi = lp.pending
  cases h : lp.pending with
  | none => rfl
  | some c => simp [Tok.chi_fix c (hq.2.2 c h)]
theorem takeDeferred_par (b : Nat) : Par P base fl ρ (fun x y => y = x.map (rD ρ) ∧ ∀ d, d ∈ x → okT d.target) (Instr.takeDeferred b) (Instr.takeDeferred (ρ b)) := by
  unfold Instr.takeDeferred
  refine Par.getObjN_bnd b ?_ (fun u s' => Par.stk)
  rintro o o' ⟨⟨hb, rfl, hn⟩ | ⟨_, rfl, _⟩, hg⟩
  · cases o <;> simp only [rO] <;> (try exact Par.stk)
    rename_i c
    cases c with
    | none => exact Par.stk
    | some ds =>
      have h := Par.setObj (P := P) (fl := fl) (ρ := ρ) hb (.deferred none)
      simp only [rO, Option.map_none] at h
      refine Par.bnd h ?_
      rintro _ _ -
      exact Par.pur ⟨rfl, hg⟩
  · exact Par.stk
end
end Go.Proofs.Q
