import Derived.Test.YtiblcbdkiecbgaaGreatDoorQ07
import GoSem.Dispatch
import Derived.Test.YtiblcbdkiecbgaaGreatDoorProg
import Derived.Conc.WgLib
import Derived.Tactics2
import Derived.ProofKit
import Derived.Test.YtiblcbdkiecbgaaGreatDoorQ12
import Derived.Conc.WgGenN2
import Derived.Conc.WgGenWait
import Derived.Conc.MuWords
namespace Go.Proofs.Q
open Go
set_option linter.unusedVariables false
set_option linter.unusedSectionVars false
set_option linter.unusedSimpArgs false
variable [Gds] [Tok]
section
variable {P : Program} {base : Nat} {fl : Fl} {ρ : Nat → Nat} {α β γ δ : Type} {R : α → β → Prop}
open Go.Extern Go.Extern.Rtype
theorem PE.val {s : Sem Value} (h : PE P base fl ρ s s) (hp : ∀ v u u', s.run P u = .ok v u' → rV ρ v = v) : True := trivial
theorem frozen_any (a : Addr) : Par P base fl ρ (fun _ _ => True) (Go.frozen a) (Go.frozen (rA ρ a)) :=
  Par.look (f := fun u => u.frozen? a) (f' := fun u => u.frozen? (rA ρ a)) (fun u => rfl) (fun u τ => rfl) (fun u => rfl) (fun u => rfl) (fun w w' hw => trivial)
theorem ofHandle_par (hz : PZ P base) (h : Value) : PE P base fl ρ (ofHandle h) (ofHandle (rV ρ h)) := by
  refine Par.ren fun hi hf => ?_
  unfold ofHandle
  refine prog_par ?_
  have hv0 : Gds.hv P.globals.size = false := by
    cases hq : Gds.hv P.globals.size with
    | false => rfl
    | true => exact absurd (hz.vis _ hq) (Nat.lt_irrefl _)
  have hg := hf P.globals.size (by have := hz.low; omega) hv0
  have key : handleType P (rV ρ h) = handleType P h := by
    cases h <;> (try simp only [rV]) <;> (try rfl)
    rename_i a
    cases a with
    | none => rfl
    | some a =>
      simp only [Option.map_some, rA, handleType]
      have : (ρ a.block == P.globals.size) = (a.block == P.globals.size) := by
        by_cases e : a.block = P.globals.size
        · rw [e, hg]
        · have e2 : ρ a.block ≠ P.globals.size := fun q => e (hi _ _ (q.trans hg.symm))
          rw [beq_eq_false_iff_ne.2 e, beq_eq_false_iff_ne.2 e2]
      rw [this]
  rw [key]
  cases handleType P h with
  | none => exact Par.stk
  | some t => exact Par.pur rfl
theorem handle_par (hz : PZ P base) (t : TypeId) : Par P base fl ρ (fun v v' => v' = v ∧ rV ρ v = v) (handle t) (handle t) := by
  refine Par.ren fun hi hf => ?_
  unfold handle
  refine prog_par ?_
  exact Par.pur ⟨rfl, typeHandle_par hz hf t⟩
theorem noPack_par (what : String) (t : TypeId) : PE P base fl ρ (noPack what t) (noPack what t) := by
  unfold noPack
  refine prog_par ?_
  exact Par.ite (fun _ => Par.uns) (fun _ => Par.pur rfl)
theorem noPackNamed_par (what : String) (t : TypeId) : PE P base fl ρ (noPackNamed what t) (noPackNamed what t) := by
  unfold noPackNamed
  refine prog_par (prog_par ?_)
  exact Par.ite (fun _ => Par.uns) (fun _ => Par.pur rfl)
theorem noPackMethods_par (what : String) (t : TypeId) : PE P base fl ρ (noPackMethods what t) (noPackMethods what t) := by
  unfold noPackMethods
  refine prog_par (prog_par ?_)
  exact Par.ite (fun _ => Par.uns) (fun _ => Par.pur rfl)
theorem spelt_par (t : TypeId) : PE P base fl ρ (spelt t) (spelt t) := by
  unfold spelt
  exact PE.then (noPackNamed_par _ _) fun _ => typeStr_par t
theorem under_par (t : TypeId) : PE P base fl ρ (under t) (under t) := by
  unfold under
  refine PE.then (typeInfo_par _) fun i => ?_
  split
  · exact PE.then (typeInfo_par _) fun _ => Par.pur rfl
  · exact Par.pur rfl
theorem kind_par (t : TypeId) : PE P base fl ρ (kind t) (kind t) := by
  unfold kind
  refine PE.then (under_par _) fun x => ?_
  obtain ⟨_, i⟩ := x
  dsimp only
  split <;> first | exact Par.pur rfl | exact Par.stk
theorem hasName_par (t : TypeId) : PE P base fl ρ (hasName t) (hasName t) := by
  unfold hasName
  refine PE.then (typeInfo_par _) fun i => ?_
  split <;> exact Par.pur rfl
theorem elem?_par (t : TypeId) : PE P base fl ρ (elem? t) (elem? t) := by
  unfold elem?
  refine PE.then (under_par _) fun i => ?_
  split <;> exact Par.pur rfl
theorem implements_par (T V : TypeId) : PE P base fl ρ (Rtype.implements T V) (Rtype.implements T V) := by
  unfold Rtype.implements
  refine PE.then (noPackMethods_par _ _) fun _ => PE.then (noPackMethods_par _ _) fun _ => PE.then (under_par _) fun x => PE.then (under_par _) fun y => ?_
  split
  · exact Par.pur rfl
  · exact PE.then (typeInfo_par _) fun _ => Par.pur rfl
  · exact Par.pur rfl
theorem directlyAssignable_par (T V : TypeId) : PE P base fl ρ (directlyAssignable T V) (directlyAssignable T V) := by
  unfold directlyAssignable
  refine Par.ite (fun _ => Par.pur rfl) fun _ => ?_
  refine PE.then (hasName_par _) fun a => PE.then (hasName_par _) fun b => Par.ite (fun _ => Par.pur rfl) fun _ => ?_
  refine PE.then (under_par _) fun x => PE.then (under_par _) fun y => ?_
  obtain ⟨t, ti⟩ := x
  obtain ⟨v, vi⟩ := y
  dsimp only
  split <;> exact Par.pur rfl
theorem cutType_par (n : String) : PE P base fl ρ (cutType n) (cutType n) := by
  unfold cutType
  refine prog_par ?_
  split
  · exact Par.pur rfl
  · exact Par.stk
theorem toType_par (hz : PZ P base) (t : TypeId) : PV P base fl ρ (ReflectliteType.toType t) (ReflectliteType.toType t) := by
  unfold ReflectliteType.toType
  refine PE.then (cutType_par _) fun c => ?_
  refine Par.bnd (handle_par hz t) ?_
  rintro h _ ⟨rfl, hr⟩
  exact Par.pur (by simp [rV, hr])
theorem ofRtype_par (hz : PZ P base) (v : Value) : PE P base fl ρ (ReflectliteType.ofRtype v) (ReflectliteType.ofRtype (rV ρ v)) := by
  cases v with
  | agg cs =>
    obtain ⟨l⟩ := cs
    match l with
    | [h] =>
      simp only [rV, List.map_toArray, List.map_cons, List.map_nil]
      show PE P base fl ρ (ofHandle h >>= fun t => noPack _ t >>= fun _ => pure t) (ofHandle (rV ρ h) >>= fun t => noPack _ t >>= fun _ => pure t)
      refine Par.bnd (ofHandle_par hz h) ?_
      rintro t _ rfl
      exact PE.then (noPack_par _ _) fun _ => Par.pur rfl
    | [] => exact Par.stk
    | _ :: _ :: _ => exact Par.stk
  | _ => exact Par.stk
theorem typeOf_par (hz : PZ P base) (args : Array Value) : PV P base fl ρ (ReflectliteType.typeOf args) (ReflectliteType.typeOf (args.map (rV ρ))) := by
  obtain ⟨l⟩ := args
  match l with
  | [] => exact Par.stk
  | [v] =>
    simp only [List.map_toArray, List.map_cons, List.map_nil]
    cases v with
    | iface t x => simp only [rV]; exact toType_par hz t
    | nilIface => simp only [rV]; exact Par.pur (by simp [rV])
    | _ => exact Par.stk
  | _ :: _ :: _ => exact Par.stk
theorem rmethod_par (hz : PZ P base) {f : TypeId → Sem Value} (hf : ∀ t, PV P base fl ρ (f t) (f t)) (args : Array Value) : PV P base fl ρ (ReflectliteType.method f args) (ReflectliteType.method f (args.map (rV ρ))) := by
  obtain ⟨l⟩ := args
  match l with
  | [] => exact Par.stk
  | [v] =>
    simp only [List.map_toArray, List.map_cons, List.map_nil]
    show PV P base fl ρ (ReflectliteType.ofRtype v >>= f) (ReflectliteType.ofRtype (rV ρ v) >>= f)
    refine Par.bnd (ofRtype_par hz v) ?_
    rintro t _ rfl
    exact hf _
  | _ :: _ :: _ => exact Par.stk
theorem relem_par (hz : PZ P base) (t : TypeId) : PV P base fl ρ (ReflectliteType.elem t) (ReflectliteType.elem t) := by
  unfold ReflectliteType.elem
  refine PE.then (elem?_par _) fun e => ?_
  cases e with
  | some e => exact toType_par hz e
  | none => exact PE.then (spelt_par _) fun s => panicString_par _
theorem relation_par (hz : PZ P base) (what : String) {f : TypeId → TypeId → Sem Bool} (hf : ∀ t u, PE P base fl ρ (f t u) (f t u)) (args : Array Value) : PV P base fl ρ (ReflectliteType.relation what f args) (ReflectliteType.relation what f (args.map (rV ρ))) := by
  obtain ⟨l⟩ := args
  match l with
  | [] => exact Par.stk
  | [_] => exact Par.stk
  | [r, v] =>
    simp only [List.map_toArray, List.map_cons, List.map_nil]
    cases v with
    | nilIface => simp only [rV]; exact panicString_par _
    | iface t u =>
      simp only [rV]
      show PV P base fl ρ (ReflectliteType.ofRtype u >>= fun a => ReflectliteType.ofRtype r >>= fun b => f a b >>= fun x => pure (.bool x)) (ReflectliteType.ofRtype (rV ρ u) >>= fun a => ReflectliteType.ofRtype (rV ρ r) >>= fun b => f a b >>= fun x => pure (.bool x))
      refine Par.bnd (ofRtype_par hz u) ?_
      rintro a _ rfl
      refine Par.bnd (ofRtype_par hz r) ?_
      rintro b _ rfl
      exact PE.then (hf _ _) fun x => Par.pur (by simp [rV])
    | _ => exact Par.stk
  | _ :: _ :: _ :: _ => exact Par.stk
theorem implements__par (u t : TypeId) : PE P base fl ρ (ReflectliteType.implements_ u t) (ReflectliteType.implements_ u t) := by
  unfold ReflectliteType.implements_
  refine PE.then (kind_par _) fun k => Par.ite (fun _ => ?_) fun _ => ?_
  · exact panicString_par _
  · exact PE.then (noPackMethods_par _ _) fun _ => PE.then (noPack_par _ _) fun _ => implements_par _ _
theorem assignableTo_par (u t : TypeId) : PE P base fl ρ (ReflectliteType.assignableTo u t) (ReflectliteType.assignableTo u t) := by
  unfold ReflectliteType.assignableTo
  refine Par.ite (fun _ => ?_) fun _ => ?_
  · exact PE.then (noPackMethods_par _ _) fun _ => PE.then (noPackMethods_par _ _) fun _ => PE.then (directlyAssignable_par _ _) fun a => PE.then (implements_par _ _) fun b => Par.pur rfl
  · exact PE.then (directlyAssignable_par _ _) fun a => PE.then (implements_par _ _) fun b => Par.pur rfl
theorem abiKind_par (hz : PZ P base) (args : Array Value) : PV P base fl ρ (ReflectliteType.abiMethod (fun t => do pure (.int .u8 (← kind t))) args) (ReflectliteType.abiMethod (fun t => do pure (.int .u8 (← kind t))) (args.map (rV ρ))) := by
  obtain ⟨l⟩ := args
  match l with
  | [] => exact Par.stk
  | [v] =>
    simp only [List.map_toArray, List.map_cons, List.map_nil]
    show PV P base fl ρ (ofHandle v >>= fun t => noPack _ t >>= fun _ => kind t >>= fun k => pure (.int .u8 k)) (ofHandle (rV ρ v) >>= fun t => noPack _ t >>= fun _ => kind t >>= fun k => pure (.int .u8 k))
    refine Par.bnd (ofHandle_par hz v) ?_
    rintro t _ rfl
    exact PE.then (noPack_par _ _) fun _ => PE.then (kind_par _) fun k => Par.pur (by simp [rV])
  | _ :: _ :: _ => exact Par.stk
theorem rmk_par (hz : PZ P base) (t : TypeId) (a : Addr) (f : Nat) : PV P base fl ρ (ReflectliteValue.mk t a f) (ReflectliteValue.mk t (rA ρ a) f) := by
  unfold ReflectliteValue.mk
  refine Par.bnd (handle_par hz t) ?_
  rintro h _ ⟨rfl, hr⟩
  exact PE.then (kind_par _) fun k => Par.pur (by simp [rV, hr])
theorem unpack_par (hz : PZ P base) (v : Value) : PV P base fl ρ (ReflectliteValue.unpack v) (ReflectliteValue.unpack (rV ρ v)) := by
  cases v with
  | nilIface => simp only [rV]; exact Par.pur (by simp [ReflectliteValue.zeroV, rV])
  | iface t x =>
    simp only [rV]
    show PV P base fl ρ (newVar t x >>= fun a => ReflectliteValue.mk t a 0) (newVar t (rV ρ x) >>= fun a => ReflectliteValue.mk t a 0)
    refine Par.bnd (newVar_par t x) ?_
    rintro a _ ⟨rfl, _⟩
    exact rmk_par hz _ _ _
  | _ => exact Par.stk
theorem valueError_par (m : String) (k : Nat) : Par P base fl ρ R (ReflectliteValue.valueError m k : Sem α) (ReflectliteValue.valueError m k : Sem β) := by
  unfold ReflectliteValue.valueError
  refine PE.then (cutType_par _) fun t => PE.then (elemOf_par _) fun e => ?_
  have := newVar_par (P := P) (base := base) (fl := fl) (ρ := ρ) e (.agg #[strVal m, .int .u8 (Int.ofNat k)])
  have hr : rV ρ (.agg #[strVal m, .int .u8 (Int.ofNat k)]) = .agg #[strVal m, .int .u8 (Int.ofNat k)] := by simp [rV, strVal]
  rw [hr] at this
  refine Par.bnd this ?_
  rintro a _ ⟨rfl, _⟩
  have := goPanic_par (P := P) (base := base) (fl := fl) (ρ := ρ) (R := R) (.iface t (.pointer (some a)))
  simpa [rV] using this
def rPt (ρ : Nat → Nat) (x : TypeId × Addr × Nat) : TypeId × Addr × Nat := (x.1, rA ρ x.2.1, x.2.2)
theorem partsAny_par (hz : PZ P base) (v : Value) : Par P base fl ρ (fun a b => b = a.map (rPt ρ)) (ReflectliteValue.partsAny v) (ReflectliteValue.partsAny (rV ρ v)) := by
  cases v with
  | agg cs =>
    obtain ⟨l⟩ := cs
    match l with
    | [h, q, f] =>
      simp only [rV, List.map_toArray, List.map_cons, List.map_nil]
      have key : ∀ n : Int, n ≠ 0 → Par P base fl ρ (fun a b => b = a.map (rPt ρ)) (ReflectliteValue.partsAny (.agg #[h, q, .int .u64 n])) (ReflectliteValue.partsAny (.agg #[rV ρ h, rV ρ q, .int .u64 n])) := by
        intro n hn
        have go : ∀ a, Par P base fl ρ (fun a b => b = a.map (rPt ρ)) (ofHandle h >>= fun t => pure (some (t, a, n.toNat))) (ofHandle (rV ρ h) >>= fun t => pure (some (t, rA ρ a, n.toNat))) := fun a => by
          refine Par.bnd (ofHandle_par hz h) ?_
          rintro t _ rfl
          exact Par.pur rfl
        cases n with
        | ofNat m =>
          cases m with
          | zero => exact absurd rfl hn
          | succ m =>
            cases q with
            | pointer a =>
              cases a with
              | none => exact Par.stk
              | some a => simp only [rV, Option.map_some]; exact go a
            | _ => exact Par.stk
        | negSucc m =>
          cases q with
          | pointer a =>
            cases a with
            | none => exact Par.stk
            | some a => simp only [rV, Option.map_some]; exact go a
          | _ => exact Par.stk
      cases f with
      | int k n =>
        simp only [rV]
        cases k <;> first | exact Par.stk | skip
        by_cases hn : n = 0
        · subst hn
          exact Par.pur rfl
        · exact key n hn
      | _ => exact Par.stk
    | [] => exact Par.stk
    | [_] => exact Par.stk
    | [_, _] => exact Par.stk
    | _ :: _ :: _ :: _ :: _ => exact Par.stk
  | _ => exact Par.stk
theorem parts_par (hz : PZ P base) (v : Value) : Par P base fl ρ (fun a b => b = a.map (rPt ρ)) (ReflectliteValue.parts v) (ReflectliteValue.parts (rV ρ v)) := by
  unfold ReflectliteValue.parts
  refine Par.bnd (partsAny_par hz v) ?_
  rintro x _ rfl
  cases x with
  | none => exact Par.pur rfl
  | some x => exact PE.then (noPack_par _ _) fun _ => Par.pur rfl
theorem vmethod_par (hz : PZ P base) {zero : Sem Value} {f : TypeId → Addr → Nat → Nat → Sem Value} (h0 : PV P base fl ρ zero zero) (hf : ∀ t a g k, PV P base fl ρ (f t a g k) (f t (rA ρ a) g k)) (args : Array Value) : PV P base fl ρ (ReflectliteValue.method zero f args) (ReflectliteValue.method zero f (args.map (rV ρ))) := by
  obtain ⟨l⟩ := args
  match l with
  | [] => exact Par.stk
  | [v] =>
    simp only [List.map_toArray, List.map_cons, List.map_nil]
    unfold ReflectliteValue.method
    refine Par.bnd (parts_par hz v) ?_
    rintro x _ rfl
    cases x with
    | none => exact h0
    | some x => exact hf _ _ _ _
  | _ :: _ :: _ => exact Par.stk
theorem vmethodAny_par (hz : PZ P base) {zero : Sem Value} {f : TypeId → Addr → Nat → Nat → Sem Value} (h0 : PV P base fl ρ zero zero) (hf : ∀ t a g k, PV P base fl ρ (f t a g k) (f t (rA ρ a) g k)) (args : Array Value) : PV P base fl ρ (ReflectliteValue.methodAny zero f args) (ReflectliteValue.methodAny zero f (args.map (rV ρ))) := by
  obtain ⟨l⟩ := args
  match l with
  | [] => exact Par.stk
  | [v] =>
    simp only [List.map_toArray, List.map_cons, List.map_nil]
    unfold ReflectliteValue.methodAny
    refine Par.bnd (partsAny_par hz v) ?_
    rintro x _ rfl
    cases x with
    | none => exact h0
    | some x => exact hf _ _ _ _
  | _ :: _ :: _ => exact Par.stk
theorem visNil_par (t : TypeId) (a : Addr) (g k : Nat) : PV P base fl ρ (ReflectliteValue.isNil t a g k) (ReflectliteValue.isNil t (rA ρ a) g k) := by
  unfold ReflectliteValue.isNil
  have tail : PV P base fl ρ (do match ← loadVar t a with
      | .chan none | .nilFunc | .nilIface | .map none | .pointer none | .slice none _ _ => pure (.bool true)
      | _ => pure (.bool false)) (do match ← loadVar t (rA ρ a) with
      | .chan none | .nilFunc | .nilIface | .map none | .pointer none | .slice none _ _ => pure (.bool true)
      | _ => pure (.bool false)) := by
    refine Par.bnd (loadVar_par t a) ?_
    rintro v _ rfl
    cases v with
    | chan r => cases r <;> (simp only [rV, Option.map_none, Option.map_some]; exact Par.pur (by simp [rV]))
    | map r => cases r <;> (simp only [rV, Option.map_none, Option.map_some]; exact Par.pur (by simp [rV]))
    | pointer r => cases r <;> (simp only [rV, Option.map_none, Option.map_some]; exact Par.pur (by simp [rV]))
    | slice r l c => cases r <;> (simp only [rV, Option.map_none, Option.map_some]; exact Par.pur (by simp [rV]))
    | _ => simp only [rV]; exact Par.pur (by simp [rV])
  refine Par.ite (fun _ => Par.bnd (R := fun _ _ => True) (valueError_par _ _) (fun _ _ _ => tail)) fun _ => ?_
  exact tail
theorem velem_par (hz : PZ P base) (t : TypeId) (a : Addr) (g k : Nat) : PV P base fl ρ (ReflectliteValue.elem t a g k) (ReflectliteValue.elem t (rA ρ a) g k) := by
  unfold ReflectliteValue.elem
  have tail : ∀ (v : Value) (e : Option TypeId), PV P base fl ρ (match k, v, e with
      | 20, i, _ => ReflectliteValue.unpack i
      | 22, .pointer none, _ => pure ReflectliteValue.zeroV
      | 22, .pointer (some p), some e => ReflectliteValue.mk e p ReflectliteValue.flagAddr
      | _, _, _ => ReflectliteValue.valueError "reflectlite.Value.Elem" k) (match k, rV ρ v, e with
      | 20, i, _ => ReflectliteValue.unpack i
      | 22, .pointer none, _ => pure ReflectliteValue.zeroV
      | 22, .pointer (some p), some e => ReflectliteValue.mk e p ReflectliteValue.flagAddr
      | _, _, _ => ReflectliteValue.valueError "reflectlite.Value.Elem" k) := fun v e => by
    by_cases h20 : k = 20
    · subst h20
      exact unpack_par hz v
    · by_cases h22 : k = 22
      · subst h22
        cases v with
        | pointer r =>
          cases r with
          | none => simp only [rV]; exact Par.pur (by simp [ReflectliteValue.zeroV, rV])
          | some q =>
            cases e with
            | none => simp only [rV]; exact valueError_par _ _
            | some e => simp only [rV]; exact rmk_par hz _ _ _
        | _ => simp only [rV]; exact valueError_par _ _
      · split
        · exact absurd rfl h20
        · exact absurd rfl h22
        · exact absurd rfl h22
        · split
          · exact absurd rfl h20
          · exact absurd rfl h22
          · exact absurd rfl h22
          · exact valueError_par _ _
  have all : PV P base fl ρ (do match k, ← loadVar t a, ← elem? t with
      | 20, i, _ => ReflectliteValue.unpack i
      | 22, .pointer none, _ => pure ReflectliteValue.zeroV
      | 22, .pointer (some p), some e => ReflectliteValue.mk e p ReflectliteValue.flagAddr
      | _, _, _ => ReflectliteValue.valueError "reflectlite.Value.Elem" k) (do match k, ← loadVar t (rA ρ a), ← elem? t with
      | 20, i, _ => ReflectliteValue.unpack i
      | 22, .pointer none, _ => pure ReflectliteValue.zeroV
      | 22, .pointer (some p), some e => ReflectliteValue.mk e p ReflectliteValue.flagAddr
      | _, _, _ => ReflectliteValue.valueError "reflectlite.Value.Elem" k) := by
    refine Par.bnd (loadVar_par t a) ?_
    rintro v _ rfl
    exact PE.then (elem?_par _) fun e => tail v e
  exact Par.ite (fun _ => Par.bnd (R := fun _ _ => True) (valueError_par _ _) (fun _ _ _ => all)) fun _ => all
theorem same_par (args : Array Value) : PV P base fl ρ (AbiNoEscape.same args) (AbiNoEscape.same (args.map (rV ρ))) := by
  obtain ⟨l⟩ := args
  match l with
  | [] => exact Par.stk
  | [v] => simp only [List.map_toArray, List.map_cons, List.map_nil]; exact Par.pur rfl
  | _ :: _ :: _ => exact Par.stk
theorem loadBytesX_par : ∀ (n : Nat) (a : Addr) (acc : ByteArray), PE P base fl ρ (Bytes.loadBytes a n acc) (Bytes.loadBytes (rA ρ a) n acc)
  | 0, a, acc => Par.pur rfl
  | n + 1, a, acc => by
    unfold Bytes.loadBytes
    refine Par.bnd (Par.load a _) ?_
    rintro v _ rfl
    cases v with
    | int k x =>
      cases k <;> simp only [rV] <;> first | exact Par.stk | skip
      have := loadBytesX_par n (a.add 1) (acc.push x.toNat.toUInt8)
      rw [rA_add] at this
      exact this
    | _ => simp only [rV]; exact Par.stk
theorem bytesOf_par (v : Value) : PE P base fl ρ (Bytes.bytesOf v) (Bytes.bytesOf (rV ρ v)) := by
  cases v with
  | string s => simp only [rV]; exact Par.pur rfl
  | slice a l c =>
    cases a with
    | none => simp only [rV]; exact Par.pur rfl
    | some a => simp only [rV, Option.map_some]; exact loadBytesX_par l a _
  | _ => simp only [rV]; exact Par.stk
theorem asByte_par (v : Value) : PE P base fl ρ (Bytes.asByte v) (Bytes.asByte (rV ρ v)) := by
  cases v with
  | int k x => cases k <;> simp only [rV] <;> first | exact Par.stk | exact Par.pur rfl
  | _ => simp only [rV]; exact Par.stk
theorem indexByte_par (args : Array Value) : PV P base fl ρ (BytealgIndexByte.indexByte args) (BytealgIndexByte.indexByte (args.map (rV ρ))) := by
  obtain ⟨l⟩ := args
  match l with
  | [] => exact Par.stk
  | [_] => exact Par.stk
  | [b, c] =>
    simp only [List.map_toArray, List.map_cons, List.map_nil]
    unfold BytealgIndexByte.indexByte
    refine Par.bnd (bytesOf_par b) ?_
    rintro b _ rfl
    refine Par.bnd (asByte_par c) ?_
    rintro c _ rfl
    split <;> exact Par.pur (by simp [rV, goInt])
  | _ :: _ :: _ :: _ => exact Par.stk
theorem globalAddr_par (hz : PZ P base) (n : String) (hn : ∀ g, Array.findIdx? (fun x => x.name == n) P.globals = some g → Gds.hv g = false) : Par P base fl ρ (fun a b => b = rA ρ a) (globalAddr n) (globalAddr n) := by
  refine Par.ren fun hi hf => ?_
  unfold globalAddr
  refine prog_par ?_
  split
  · rename_i g hg
    refine Par.pur ?_
    have hlt : g < P.globals.size := by
      have := Array.findIdx?_eq_some_iff_getElem.1 hg
      obtain ⟨h, _⟩ := this
      exact h
    have := hz.low
    simp [rA, hf g (by omega) (hn g hg)]
  · first | exact Par.stk | exact Par.uns
theorem index_ext_par (hz : PZ P base) (hn : ∀ g, Array.findIdx? (fun x => x.name == "internal/bytealg.MaxLen") P.globals = some g → Gds.hv g = false) (args : Array Value) : PV P base fl ρ (BytealgIndex.index args) (BytealgIndex.index (args.map (rV ρ))) := by
  obtain ⟨l⟩ := args
  match l with
  | [] => exact Par.stk
  | [_] => exact Par.stk
  | [a, b] =>
    simp only [List.map_toArray, List.map_cons, List.map_nil]
    unfold BytealgIndex.index
    refine Par.bnd (bytesOf_par a) ?_
    rintro a _ rfl
    refine Par.bnd (bytesOf_par b) ?_
    rintro b _ rfl
    have hml : PE P base fl ρ BytealgIndex.maxLen BytealgIndex.maxLen := by
      unfold BytealgIndex.maxLen
      refine Par.bnd (globalAddr_par hz _ hn) ?_
      rintro ad _ rfl
      refine Par.bnd (Par.load ad _) ?_
      rintro v _ rfl
      exact asInt_par v
    refine PE.then hml fun m => ?_
    refine Par.ite (fun _ => Par.uns) fun _ => Par.ite (fun _ => Par.uns) fun _ => ?_
    split <;> exact Par.pur (by simp [rV, goInt])
  | _ :: _ :: _ :: _ => exact Par.stk
theorem digits_ren : ∀ (n t : Nat) (acc : Array Value), acc.map (rV ρ) = acc → (BytealgMakeNoZero.digits n t acc).map (rV ρ) = BytealgMakeNoZero.digits n t acc
  | 0, t, acc, h => h
  | n + 1, t, acc, h => by
    unfold BytealgMakeNoZero.digits
    exact digits_ren n _ _ (by rw [Array.map_push, h]; simp [rV])
theorem makeNoZero_par (hz : PZ P base) (ps rs : Array TypeId) (args : Array Value) : PV P base fl ρ (BytealgMakeNoZero.makeNoZero ps rs args) (BytealgMakeNoZero.makeNoZero ps rs (args.map (rV ρ))) := by
  obtain ⟨l⟩ := args
  match l with
  | [] => exact Par.stk
  | [v] =>
    simp only [List.map_toArray, List.map_cons, List.map_nil]
    cases v with
    | int k n =>
      cases k <;> simp only [rV] <;> first | exact Par.stk | skip
      unfold BytealgMakeNoZero.makeNoZero
      cases hr : rs[0]? with
      | none => exact Par.stk
      | some t =>
        refine PE.then (underlying_par t) fun d => ?_
        cases d with
        | slice elem =>
          have tail : PV P base fl ρ (do
              let cap ← choose (.appendCap n.toNat 0 elem)
              askRoom cap
              let bytes ← choose (.extern "internal/bytealg.MakeNoZero.bytes" 0)
              let a ← newRow elem (BytealgMakeNoZero.digits cap bytes #[])
              pure (.slice (some a) n.toNat cap)) (do
              let cap ← choose (.appendCap n.toNat 0 elem)
              askRoom cap
              let bytes ← choose (.extern "internal/bytealg.MakeNoZero.bytes" 0)
              let a ← newRow elem (BytealgMakeNoZero.digits cap bytes #[])
              pure (.slice (some a) n.toNat cap)) := by
            refine PE.then (Par.choose _) fun cap => ?_
            refine Par.bnd (askRoom_par _) ?_
            rintro _ _ -
            refine PE.then (Par.choose _) fun bytes => ?_
            have := newRow_par (P := P) (base := base) (fl := fl) (ρ := ρ) elem (BytealgMakeNoZero.digits cap bytes #[])
            rw [digits_ren _ _ _ (by simp)] at this
            refine Par.bnd this ?_
            rintro a _ ⟨rfl, _⟩
            exact Par.pur (by simp [rV])
          refine Par.ite (fun _ => ?_) fun _ => tail
          exact Par.bnd (R := fun _ _ => True) (runtimePanic_par hz _) (fun _ _ _ => tail)
        | _ => exact Par.stk
    | _ => simp only [rV]; exact Par.stk
  | _ :: _ :: _ => exact Par.stk
theorem overlaps_par (ps rs : Array TypeId) (args : Array Value) : PV P base fl ρ (SlicesOverlaps.overlaps ps rs args) (SlicesOverlaps.overlaps ps rs (args.map (rV ρ))) := by
  refine Par.ren fun hi hf => ?_
  obtain ⟨l⟩ := args
  match l with
  | [] => exact Par.stk
  | [_] => cases ‹Value› <;> exact Par.stk
  | [u, v] =>
    simp only [List.map_toArray, List.map_cons, List.map_nil]
    cases u with
    | slice a la ca =>
      cases v with
      | slice b lb cb =>
        simp only [rV]
        unfold SlicesOverlaps.overlaps
        cases hr : ps[0]? with
        | none => exact Par.stk
        | some t =>
          refine PE.then (underlying_par t) fun d => ?_
          cases d with
          | slice elem =>
            refine PE.then (sizeOf_par elem) fun size => ?_
            cases a with
            | none => exact Par.pur (by simp [rV])
            | some a =>
              cases b with
              | none => exact Par.pur (by simp [rV])
              | some b =>
                simp only [Option.map_some]
                refine Par.ite (fun _ => Par.pur (by simp [rV])) fun _ => ?_
                have eb : ((rA ρ a).block != (rA ρ b).block) = (a.block != b.block) := by
                  show (!(ρ a.block == ρ b.block)) = _
                  rw [ρ_beq hi]; rfl
                have eb2 : ((rA ρ a).block == (rA ρ b).block) = (a.block == b.block) := ρ_beq hi _ _
                rw [eb, eb2]
                by_cases hb : a.block = b.block
                · refine Par.bnd (frozen_any a) ?_
                  rintro x y -
                  refine Par.bnd (frozen_any b) ?_
                  rintro x2 y2 -
                  simp only [hb, bne_self_eq_false, Bool.false_and, Bool.false_eq_true, if_false, beq_self_eq_true, Bool.true_and]
                  exact Par.pur (by simp only [rV]; rfl)
                · have h1 : (a.block != b.block) = true := by simp [hb]
                  have h2 : (a.block == b.block) = false := by simp [hb]
                  rw [h1, h2]
                  simp only [Bool.true_and, if_true, Bool.false_and]
                  by_cases hab : Hid fl base a.block ∨ Hid fl base b.block
                  · refine (LDead.look (frozen_look a) fun x => LDead.look (frozen_look b) fun x2 => ?_ : LDead P base fl ρ _).par
                    cases x && x2 with
                    | true => exact LDead.uns
                    | false =>
                      simp only [Bool.false_eq_true, if_false]
                      rcases hab with h | h
                      · exact LDead.bnd (noView_dead h)
                      · exact LDead.look (noView_look a) fun _ => LDead.bnd (noView_dead h)
                  have hna : ¬ Hid fl base a.block := fun h => hab (.inl h)
                  have hnb : ¬ Hid fl base b.block := fun h => hab (.inr h)
                  refine Par.bnd (frozen_mono hna) ?_
                  intro x y hxy
                  refine Par.bnd (frozen_mono hnb) ?_
                  intro x2 y2 hxy2
                  cases h : (x && x2) with
                  | true => exact Par.uns
                  | false =>
                    have h3 : (y && y2) = false := by cases y <;> cases y2 <;> simp_all
                    rw [h3]
                    simp only [Bool.false_eq_true, if_false]
                    refine Par.bnd (noView_par a) ?_
                    rintro _ _ -
                    refine Par.bnd (noView_par b) ?_
                    rintro _ _ -
                    exact apart_par hna hnb (k := fun x => (Pure.pure (Value.bool x) : Sem Value)) (k' := fun x => (Pure.pure (Value.bool x) : Sem Value)) (fun x => Par.pur (by simp [rV]))
          | _ => exact Par.stk
      | _ => simp only [rV]; exact Par.stk
    | _ => cases v <;> simp only [rV] <;> exact Par.stk
  | _ :: _ :: _ :: _ => exact Par.stk
theorem set_par (hz : PZ P base) (args : Array Value) : PV P base fl ρ (ReflectliteValue.set args) (ReflectliteValue.set (args.map (rV ρ))) := by
  obtain ⟨l⟩ := args
  match l with
  | [] => exact Par.stk
  | [_] => exact Par.stk
  | [v, x] =>
    simp only [List.map_toArray, List.map_cons, List.map_nil]
    unfold ReflectliteValue.set
    refine Par.bnd (parts_par hz v) ?_
    rintro p1 _ rfl
    refine Par.bnd (parts_par hz x) ?_
    rintro p2 _ rfl
    cases p1 with
    | none => cases p2 <;> exact Par.uns
    | some p1 =>
      cases p2 with
      | none => exact Par.uns
      | some p2 =>
        obtain ⟨dst, a, f1⟩ := p1
        obtain ⟨src, b, f2⟩ := p2
        simp only [Option.map_some, rPt]
        have fin : ∀ {s s' : Sem Unit}, Par P base fl ρ (fun _ _ => True) s s' → PV P base fl ρ (s >>= fun _ => pure (.tuple #[])) (s' >>= fun _ => pure (.tuple #[])) := fun h => Par.bnd h (fun _ _ _ => Par.pur (by simp [rV]))
        refine Par.ite (fun _ => Par.bnd (R := fun _ _ => False) Par.uns (fun _ _ h => h.elim)) fun _ => ?_
        refine Par.bnd (loadVar_par src b) ?_
        rintro val _ rfl
        refine PE.then (directlyAssignable_par _ _) fun d => Par.ite (fun _ => fin (storeVar_par dst a val)) fun _ => ?_
        refine PE.then (implements_par _ _) fun i => Par.ite (fun _ => ?_) fun _ => ?_
        · refine PE.then (kind_par _) fun k => Par.ite (fun _ => ?_) fun _ => ?_
          · have hv := fin (storeVar_par (P := P) (base := base) (fl := fl) (ρ := ρ) dst a val)
            cases val with
            | nilIface => simp only [rV]; exact Par.bnd (R := fun _ _ => False) Par.uns (fun _ _ h => h.elim)
            | _ => simp only [rV] at hv ⊢; exact hv
          · have h := fin (storeVar_par (P := P) (base := base) (fl := fl) (ρ := ρ) dst a (.iface src val))
            simp only [rV] at h
            exact h
        · exact PE.then (spelt_par _) fun s1 => PE.then (spelt_par _) fun s2 => Par.bnd (R := fun _ _ => False) (panicString_par _) (fun _ _ h => h.elim)
  | _ :: _ :: _ :: _ => exact Par.stk
end
end Go.Proofs.Q
namespace Go.Proofs.Q
open Go.Proofs
abbrev link : Go.Conc.Lib.WgLink := { add := 9, done := 11, wait := 13, relMerge := 22, disable := 23, enable := 24, inBubble := 25, associate := 26, fatal := 27, uOr := 28, uAdd := 29, raceRead := 30, uLoad := 31, uStore := 32, disassociate := 33, semrelease := 34, acquire := 35, isAssociated := 36, uCas := 37, raceWrite := 38, semacquire := 39, orU64 := 69, addU64 := 70, loadU64 := 71, storeU64 := 72, casU64 := 73, tWgP := 65, tUP := 67, tAssoc := 69, tWg := 43, tAU := 40, tU64 := 38, tUint := 48, tU32 := 41, tPU32 := 73, tPAU := 109, tPU64 := 111, tNoCopy := 35, tANoCopy := 36, tAlign64 := 37 }
theorem wgLib : Go.Conc.Lib.WgLib Tryz.prog link :=
  ⟨Tryz.func9, Tryz.func11, Tryz.func13, Tryz.func22, Tryz.func23, Tryz.func24, Tryz.func25, Tryz.func26, Tryz.func27, Tryz.func28, Tryz.func29, Tryz.func30, Tryz.func31, Tryz.func32, Tryz.func33, Tryz.func34, Tryz.func35, Tryz.func36, Tryz.func37, Tryz.func38, Tryz.func39, Tryz.func69, Tryz.func70, Tryz.func71, Tryz.func72, Tryz.func73, Tryz.underlying65, Tryz.runUnderlying65, Tryz.sizeOf65, Tryz.isAgg65, Tryz.zeroValue65, Tryz.underlying67, Tryz.runUnderlying67, Tryz.sizeOf67, Tryz.isAgg67, Tryz.zeroValue67, Tryz.underlying69, Tryz.runUnderlying69, Tryz.sizeOf69, Tryz.isAgg69, Tryz.zeroValue69, Tryz.underlying43, Tryz.runUnderlying43, Tryz.sizeOf43, Tryz.isAgg43, Tryz.zeroValue43, Tryz.underlying40, Tryz.runUnderlying40, Tryz.sizeOf40, Tryz.isAgg40, Tryz.zeroValue40, Tryz.underlying38, Tryz.runUnderlying38, Tryz.sizeOf38, Tryz.isAgg38, Tryz.zeroValue38, Tryz.underlying48, Tryz.runUnderlying48, Tryz.sizeOf48, Tryz.isAgg48, Tryz.zeroValue48, Tryz.underlying41, Tryz.runUnderlying41, Tryz.sizeOf41, Tryz.isAgg41, Tryz.zeroValue41, Tryz.underlying73, Tryz.runUnderlying73, Tryz.sizeOf73, Tryz.isAgg73, Tryz.zeroValue73, Tryz.underlying109, Tryz.runUnderlying109, Tryz.sizeOf109, Tryz.isAgg109, Tryz.zeroValue109, Tryz.underlying111, Tryz.runUnderlying111, Tryz.sizeOf111, Tryz.isAgg111, Tryz.zeroValue111, Tryz.underlying0, Tryz.runUnderlying0, Tryz.sizeOf0, Tryz.isAgg0, Tryz.zeroValue0, Tryz.underlying3, Tryz.runUnderlying3, Tryz.sizeOf3, Tryz.isAgg3, Tryz.zeroValue3, Tryz.underlying4, Tryz.runUnderlying4, Tryz.sizeOf4, Tryz.isAgg4, Tryz.zeroValue4, Tryz.underlying9, Tryz.runUnderlying9, Tryz.sizeOf9, Tryz.isAgg9, Tryz.zeroValue9, Tryz.underlying20, Tryz.runUnderlying20, Tryz.sizeOf20, Tryz.isAgg20, Tryz.zeroValue20, Tryz.underlying21, Tryz.runUnderlying21, Tryz.sizeOf21, Tryz.isAgg21, Tryz.zeroValue21, (by kernel_rfl), (by kernel_rfl)⟩
end Go.Proofs.Q
namespace Go.Proofs.Q
open Go Go.Conc Go.RowKit Go.Conc.Lib Go.ConcR.Gen
open Go.ConcR (KK stA smA rd wr DC0)
set_option linter.unusedVariables false
set_option linter.unusedSectionVars false
set_option linter.unusedSimpArgs false
def RK (p : Pm) (_ w1 : World) : Prop := KN p w1
theorem rk {p : Pm} {w w1 : World} (_ : KN p w) (h : RK p w w1) : KN p w1 := h
theorem lva {p : Pm} {main : Bool} {Stop : Goroutine → World → Prop} {g : Goroutine} (n : Nat) (h : ∀ w, KN p w → Goes p.P main (RK p) DC0 Stop n g w) : LvA p main Stop g := fun w hw =>
  Lv.of_goes (R := RK p) (fun _ _ _ q => q.kn) (fun g w hk hs => .stop fun w1 h1 => hs w1 h1.kn) hw (h w hw)
theorem lvq {p : Pm} {Stop : Goroutine → World → Prop} {g : Goroutine} (n : Nat) (h : ∀ w, KN p w → Goes p.P false (RK p) DC0 Stop n g w) : LvQ p Stop g := fun w hw =>
  Lv.of_goes (R := RK p) (fun _ _ _ q => q.kn) (fun g w hk hs => .stop fun w1 h1 => hs w1 h1.kn) hw (h w hw)
theorem lva_then {p : Pm} {main : Bool} {Stop Stop' : Goroutine → World → Prop} {g : Goroutine} (h : LvA p main Stop' g) (hs : ∀ g w, KN p w → Stop' g w → LvA p main Stop g) : LvA p main Stop g := fun w hw =>
  (h w hw).mono (fun S g w hk q => (hs g w hk q w hk).wide fun b hb => hb.elim) hw
theorem kn_cell0 {p : Pm} {w : World} (h : KN p w) : ∃ v, w.cell? ⟨p.Wg, 0, none⟩ = some v := by
  obtain ⟨st, sm, hw⟩ := h.wg
  exact ⟨.int .u64 st, by simp [World.cell?, hw]⟩
theorem kn_cell1 {p : Pm} {w : World} (h : KN p w) : ∃ v, w.cell? ⟨p.Wg, 1, none⟩ = some v := by
  obtain ⟨st, sm, hw⟩ := h.wg
  exact ⟨.int .u32 sm, by simp [World.cell?, hw]⟩
section
variable {p : Pm} {L : WgLink} {Aft Anch Recv : Goroutine → Prop}
  {b₀ : Frame} {a₀ : Act} {ops₀ : Array Oper} {i₀ : Nat} {rest₀ : List Nat} {k₀ : List Item} {cs : List Frame}
set_option maxRecDepth 100000 in
set_option maxHeartbeats 8000000 in
theorem add_lv (H : WgLib p.P L) {r : Nat} (hT : LvA p true (SGo p Anch Recv r) (G (b₀.at (a₀.put ((ops₀[i₀]?).bind (·.dst)) (.tuple #[])) (.inRegion ops₀ rest₀ :: k₀)) cs)) :
    LvA p true (SKd p Anch Recv (r + 1)) (G ((base L.add).at ⟨#[.pointer (some ⟨p.Wg, 0, none⟩), .int .i64 1] ++ Array.replicate 115 undef, []⟩ [.code (body_add L)]) (b₀.at a₀ (.inRegion ops₀ (i₀ :: rest₀) :: k₀) :: cs)) := by
  lib_facts
  simp only [body_add, addFn, Option.getD_some]
  refine lva 20 fun w hF => ?_
  simp only [Array.replicate, List.replicate, List.append_toArray, List.cons_append, List.nil_append]
  repeat w_go rk
  refine Goes.stop (fun w₁ h₁ => (SKd_succ _ _ _ _ _ _).2 ⟨rfl, _, stepG_mark0 .disable (by simp) rfl rfl (by k_ne) rfl H.f_disable (x_disable_n L) (x_disable_b L) (x_disable_x L) (x_disable_f L), ?_⟩)
  refine lva 50 fun w hF => ?_
  walk_nrm
  repeat (first | w_go rk | u_defer rk hF | u_bub rk hF | u_call H.f_uAdd (nm_uAdd L) uAddFn rk hF)
  refine Goes.stop (fun w₂ h₂ => ⟨rfl, fun v hv hw => ?_⟩)
  have hw' : Go.ConcR.WgAt p.ty p.Wg w₂ (v * KK) 0 := hw
  rcases Nat.eq_zero_or_pos v with rfl | hvp
  · have e0 : IntKind.u64.wrap (((0 : Nat) : Int) * KK + 4294967296) = (((0 : Nat) : Int) + 1) * KK := by decide
    refine ⟨_, (stepG_add_atomic rfl rfl (by k_ne) rfl H.f_addU64 (x_addU64_n L) (x_addU64_b L) (x_addU64_x L) .u64 (x_addU64_f L) rfl rfl hw'.cellSt (hw'.thaw 0)).trans (by rw [e0]; rfl), fun _ => ?_, fun h => absurd rfl h⟩
    refine lva 120 fun w hF => ?_
    clear hw hw'
    have z : (((0 : Nat) : Int) + 1) * KK = 4294967296 := by decide
    rw [z]
    walk_nrm
    repeat (first | w_go rk | u_leave1 H.f_uAdd rk hF)
    m_convG p.P H.underlying_tUP H.underlying_tPU32 H.room_tU32 (kn_cell1 hF).choose_spec rk hF
    refine Goes.stop (fun w₃ h₃ => ⟨rfl, _, stepG_markAt .read (by simp) rfl rfl (by k_ne) rfl H.f_raceRead (x_raceRead_n L) (x_raceRead_b L) (x_raceRead_x L) (x_raceRead_f L) (ad := ⟨p.Wg, 1, none⟩) (by simp [Act.eval]), ?_⟩)
    refine lva 60 fun w hF => ?_
    walk_nrm
    repeat w_go rk
    refine Goes.stop (fun w₃ h₃ => ⟨rfl, _, stepG_unwind_entry (v := .tuple #[]) (evs := #[ConcR.mk .enable]) rfl H.f_enable (x_enable_n L) (x_enable_b L) (x_enable_x L) (x_enable_f L) (by simp [Extern.Race.none_]) (by simp [ConcR.mk]) (by simp [ConcR.mk]), ?_⟩)
    refine lva_then (lva 1 fun w hF => ?_) fun g w hk hs => hs
    u_leave0 H.f_add rk hF
    exact Goes.stop fun _ _ => hT
  · obtain ⟨V, hV⟩ : ∃ V : Int, V = (v : Int) + 1 := ⟨_, rfl⟩
    obtain ⟨S, hS⟩ : ∃ S : Int, S = V * KK := ⟨_, rfl⟩
    have eS : IntKind.u64.wrap ((v : Int) * KK + 4294967296) = S := by rw [IntKind.wrap_u64, hS, hV]; simp only [KK]; omega
    rw [← hV, ← hS]
    have a1 : S / 4294967296 = V := by rw [hS]; simp only [KK]; omega
    have b1 : bits .and .u64 S 2147483648 = 0 := by rw [hS, hV]; have := Go.ConcN.st_flag (v + 1) 0 (by omega) (by omega); simpa [KK] using this
    have b2 : bits .and .u64 S 2147483647 = 0 := by rw [hS, hV]; have := Go.ConcN.st_waiters (v + 1) 0 (by omega) (by omega); simpa [KK] using this
    have c1 : IntKind.i32.wrap V = V := by rw [IntKind.wrap_i32]; omega
    have hV1 : 1 < V := by omega
    have q1 : (V == 1) = false := by simp; omega
    have q2 : decide (V = 1) = false := decide_eq_false (by omega)
    have q3 : decide (V < 0) = false := decide_eq_false (by omega)
    have q4 : decide (0 < V) = true := decide_eq_true (by omega)
    have q5 : (V == 0) = false := by simp; omega
    have q6 : decide (V = 0) = false := decide_eq_false (by omega)
    refine ⟨_, (stepG_add_atomic rfl rfl (by k_ne) rfl H.f_addU64 (x_addU64_n L) (x_addU64_b L) (x_addU64_x L) .u64 (x_addU64_f L) rfl rfl hw'.cellSt (hw'.thaw 0)).trans (by rw [eS]; rfl), fun h => absurd h (by omega), fun _ => ?_⟩
    clear hw hw' hS hV eS
    refine lva 120 fun w hF => ?_
    walk_nrm
    repeat (first | w_but "code.cond" rk | u_leave1 H.f_uAdd rk hF)
    u_cnd false rk hF
    repeat w_but "code.cond" rk
    u_cnd false rk hF
    repeat w_but "code.cond" rk
    u_cnd false rk hF
    repeat w_but "code.cond" rk
    u_cnd false rk hF
    repeat w_but "code.cond" rk
    u_cnd true rk hF
    repeat w_but "code.cond" rk
    refine Goes.stop (fun w₃ h₃ => ⟨rfl, _, stepG_unwind_entry (v := .tuple #[]) (evs := #[ConcR.mk .enable]) rfl H.f_enable (x_enable_n L) (x_enable_b L) (x_enable_x L) (x_enable_f L) (by simp [Extern.Race.none_]) (by simp [ConcR.mk]) (by simp [ConcR.mk]), ?_⟩)
    refine lva_then (lva 1 fun w hF => ?_) fun g w hk hs => hs
    u_leave0 H.f_add rk hF
    exact Goes.stop fun _ _ => hT
end
end Go.Proofs.Q
namespace Go.Proofs.Q
open Go Go.Conc Go.RowKit Go.Conc.Lib Go.ConcR.Gen
open Go.ConcR (KK stA smA rd wr DC0)
set_option linter.unusedVariables false
set_option linter.unusedSectionVars false
set_option linter.unusedSimpArgs false
section
variable {p : Pm} {L : WgLink}
def AnW (p : Pm) (L : WgLink) (c : Frame) (cs : List Frame) (g : Goroutine) : Prop :=
  ∃ T : Array Value, g = G ((base L.wait).at ⟨T, []⟩ [.code (L7 L), .inLoop (L7 L), .inBlock 0]) (c :: cs) ∧ T.size = 84 ∧ T[0]? = some (.pointer (some ⟨p.Wg, 0, none⟩))
def AfW (p : Pm) (gf : Goroutine) (g : Goroutine) : Prop := ∀ w, KN p w → Goes p.P true (RK p) DC0 (fun g _ => g = gf) 30 g w
variable {b₀ : Frame} {a₀ : Act} {ops₀ : Array Oper} {i₀ : Nat} {rest₀ : List Nat} {k₀ : List Item} {cs : List Frame}
set_option maxRecDepth 100000 in
set_option maxHeartbeats 8000000 in
theorem wait_lv (H : WgLib p.P L) :
    LvA p true (SWkd p (AnW p L (b₀.at a₀ (.inRegion ops₀ (i₀ :: rest₀) :: k₀)) cs)) (G ((base L.wait).at ⟨#[.pointer (some ⟨p.Wg, 0, none⟩)] ++ Array.replicate 83 undef, []⟩ [.code (body_wait L)]) (b₀.at a₀ (.inRegion ops₀ (i₀ :: rest₀) :: k₀) :: cs)) := by
  lib_facts
  simp only [body_wait, waitFn, Option.getD_some]
  refine lva 20 fun w hF => ?_
  simp only [Array.replicate, List.replicate, List.append_toArray, List.cons_append, List.nil_append]
  repeat w_go rk
  refine Goes.stop (fun w₁ h₁ => ⟨rfl, _, stepG_mark0 .disable (by simp) rfl rfl (by k_ne) rfl H.f_disable (x_disable_n L) (x_disable_b L) (x_disable_x L) (x_disable_f L), ?_⟩)
  refine lva 3 fun w hF => ?_
  walk_nrm
  u_c stepG_region_end rk hF
  u_c stepG_block rk hF
  u_c stepG_loop rk hF
  exact Goes.stop (fun w₂ h₂ => ⟨_, rfl, by simp, by simp⟩)
set_option maxRecDepth 100000 in
set_option maxHeartbeats 8000000 in
theorem wait_round (H : WgLib p.P L) : AnchI p (AfW p (G (b₀.at (a₀.put ((ops₀[i₀]?).bind (·.dst)) (.tuple #[])) (.inRegion ops₀ rest₀ :: k₀)) cs)) (AnW p L (b₀.at a₀ (.inRegion ops₀ (i₀ :: rest₀) :: k₀)) cs) := by
  rintro g ⟨T, rfl, hT84, t0⟩
  lib_facts
  obtain ⟨v0, v1, v2, v3, v4, v5, v6, v7, v8, v9, v10, v11, v12, v13, v14, v15, v16, v17, v18, v19, v20, v21, v22, v23, v24, v25, v26, v27, v28, v29, v30, v31, v32, v33, v34, v35, v36, v37, v38, v39, v40, v41, v42, v43, v44, v45, v46, v47, v48, v49, v50, v51, v52, v53, v54, v55, v56, v57, v58, v59, v60, v61, v62, v63, v64, v65, v66, v67, v68, v69, v70, v71, v72, v73, v74, v75, v76, v77, v78, v79, v80, v81, v82, v83, rfl⟩ := array84 T hT84
  simp only [List.getElem?_toArray, List.getElem?_cons_zero, Option.some.injEq] at t0
  subst t0
  refine lva 30 fun w hF => ?_
  simp only [L7, body_wait, waitFn, Option.getD_some]
  repeat (first | w_go rk | u_call H.f_uLoad (nm_uLoad L) uLoadFn rk hF)
  refine Goes.stop (fun w₁ h₁ => ⟨rfl, fun v hv hw => ?_⟩)
  have hw' : Go.ConcR.WgAt p.ty p.Wg w₁ (v * KK) 0 := hw
  rcases Nat.eq_zero_or_pos v with rfl | hvp
  · have z0 : (((0 : Nat) : Int) * KK) = 0 := by decide
    rw [z0] at hw hw'
    refine ⟨_, stepG_load_atomic (v := 0) rfl rfl (by k_ne) rfl H.f_loadU64 (x_loadU64_n L) (x_loadU64_b L) (x_loadU64_x L) .u64 (x_loadU64_f L) rfl hw'.cellSt, fun _ => ?_, fun h => absurd rfl h⟩
    clear hw hw'
    refine lva 60 fun w hF => ?_
    walk_nrm
    repeat (first | w_go rk | u_leave1 H.f_uLoad rk hF)
    refine Goes.stop (fun w₅ h₅ => ⟨rfl, _, stepG_mark0 .enable (by simp) rfl rfl (by k_ne) rfl H.f_enable (x_enable_n L) (x_enable_b L) (x_enable_x L) (x_enable_f L), ?_⟩)
    refine lva 20 fun w hF => ?_
    walk_nrm
    repeat w_go rk
    m_convG p.P H.underlying_tUP H.underlying_tWgP H.room_tWg (kn_cell0 hF).choose_spec rk hF
    refine Goes.stop (fun w₆ h₆ => ⟨rfl, _, stepG_markAt .acquire (by simp) rfl rfl (by k_ne) rfl H.f_acquire (x_acquire_n L) (x_acquire_b L) (x_acquire_x L) (x_acquire_f L) (by simp [Act.eval, stA]), fun w hF => ?_⟩)
    walk_nrm
    repeat w_go rk
    u_leave0 H.f_wait rk hF
    exact Goes.stop fun _ _ => rfl
  · obtain ⟨S, hS⟩ : ∃ S : Int, (v : Int) * KK = S := ⟨_, rfl⟩
    have a1 : S / 4294967296 = (v : Int) := by rw [← hS]; simp only [KK]; omega
    have b1 : bits .and .u64 S 2147483648 = 0 := by rw [← hS]; have := Go.ConcN.st_flag v 0 (by omega) (by omega); simpa [KK] using this
    have b2 : bits .and .u64 S 2147483647 = 0 := by rw [← hS]; have := Go.ConcN.st_waiters v 0 (by omega) (by omega); simpa [KK] using this
    have c1 : IntKind.i32.wrap (v : Int) = (v : Int) := by rw [IntKind.wrap_i32]; omega
    have w1 : IntKind.u64.wrap (S + 1) = S + 1 := by rw [IntKind.wrap_u64, ← hS]; simp only [KK]; omega
    have q3 : decide ((v : Int) < 0) = false := decide_eq_false (by omega)
    have q4 : decide (0 < (v : Int)) = true := decide_eq_true (by omega)
    have q5 : ((v : Int) == 0) = false := by simp; omega
    have q6 : decide ((v : Int) = 0) = false := decide_eq_false (by omega)
    rw [hS] at hw hw'
    refine ⟨_, stepG_load_atomic (v := S) rfl rfl (by k_ne) rfl H.f_loadU64 (x_loadU64_n L) (x_loadU64_b L) (x_loadU64_x L) .u64 (x_loadU64_f L) rfl hw'.cellSt, fun h0 => absurd h0 (by omega), fun _ => ?_⟩
    clear hw hw'
    refine lva 70 fun w hF => ?_
    walk_nrm
    repeat (first | w_but "code.cond" rk | u_leave1 H.f_uLoad rk hF)
    u_cnd false rk hF
    repeat (first | w_but "code.cond" rk | u_call H.f_uCas (nm_uCas L) uCasFn rk hF)
    refine Goes.stop (fun w₂ h₂ => ⟨rfl, fun v' hv' hw => ⟨fun e => ?_, fun e => ?_⟩⟩)
    · subst e
      have hw' : Go.ConcR.WgAt p.ty p.Wg w₂ (v' * KK) 0 := hw
      rw [hS] at hw hw' ⊢
      refine ⟨_, (stepG_cas_hit (v := S) (n := S + 1) rfl rfl (by k_ne) rfl H.f_casU64 (x_casU64_n L) (x_casU64_b L) (x_casU64_x L) .u64 (x_casU64_f L) rfl rfl rfl hw'.cellSt (hw'.thaw 0)).trans (by rfl), ?_⟩
      clear hw hw'
      refine lva 40 fun w hF => ?_
      walk_nrm
      repeat (first | w_go rk | u_leave1 H.f_uCas rk hF)
      m_convG p.P H.underlying_tUP H.underlying_tPU32 H.room_tU32 (kn_cell1 hF).choose_spec rk hF
      refine Goes.stop (fun w₃ h₃ => ⟨rfl, _, stepG_markAt .write (by simp) rfl rfl (by k_ne) rfl H.f_raceWrite (x_raceWrite_n L) (x_raceWrite_b L) (x_raceWrite_x L) (x_raceWrite_f L) (ad := ⟨p.Wg, 1, none⟩) (by simp [Act.eval]), ?_⟩)
      refine lva 40 fun w hF => ?_
      walk_nrm
      repeat w_go rk
      refine Goes.stop (fun w₃ h₃ => ⟨rfl, rfl, fun ⟨st, hw⟩ => stepG_semacquire_wait rfl rfl rfl H.f_semacquire (x_semacquire_n L) (x_semacquire_b L) (x_semacquire_x L) (x_semacquire_f L) (by simp [Act.eval, smA]) (Go.ConcR.WgAt.cellSm (ty := p.ty) (Wg := p.Wg) hw), fun hf => ?_⟩)
      have hf' : Go.ConcR.WgAt p.ty p.Wg w₃ 0 1 := hf
      refine ⟨_, (stepG_semacquire (n := 1) rfl rfl (by k_ne) rfl H.f_semacquire (x_semacquire_n L) (x_semacquire_b L) (x_semacquire_x L) (x_semacquire_f L) (by simp [Act.eval, smA]) hf'.cellSm (by k_ne) (hf'.thaw 1)).trans (by rfl), ?_⟩
      clear hf hf'
      refine lva 30 fun w hF => ?_
      walk_nrm
      repeat (first | w_go rk | u_call H.f_uLoad (nm_uLoad L) uLoadFn rk hF)
      refine Goes.stop (fun w₄ h₄ => ⟨rfl, fun hw => ⟨_, stepG_load_atomic (v := 0) rfl rfl (by k_ne) rfl H.f_loadU64 (x_loadU64_n L) (x_loadU64_b L) (x_loadU64_x L) .u64 (x_loadU64_f L) rfl (Go.ConcR.WgAt.cellSt (ty := p.ty) (Wg := p.Wg) hw), ?_⟩⟩)
      refine lva 40 fun w hF => ?_
      walk_nrm
      repeat (first | w_go rk | u_leave1 H.f_uLoad rk hF)
      refine Goes.stop (fun w₅ h₅ => ⟨rfl, _, stepG_mark0 .enable (by simp) rfl rfl (by k_ne) rfl H.f_enable (x_enable_n L) (x_enable_b L) (x_enable_x L) (x_enable_f L), ?_⟩)
      refine lva 20 fun w hF => ?_
      walk_nrm
      repeat w_go rk
      m_convG p.P H.underlying_tUP H.underlying_tWgP H.room_tWg (kn_cell0 hF).choose_spec rk hF
      refine Goes.stop (fun w₆ h₆ => ⟨rfl, _, stepG_markAt .acquire (by simp) rfl rfl (by k_ne) rfl H.f_acquire (x_acquire_n L) (x_acquire_b L) (x_acquire_x L) (x_acquire_f L) (by simp [Act.eval, stA]), fun w hF => ?_⟩)
      walk_nrm
      repeat w_go rk
      u_leave0 H.f_wait rk hF
      exact Goes.stop fun _ _ => rfl
    · have hw' : Go.ConcR.WgAt p.ty p.Wg w₂ (v' * KK) 0 := hw
      refine ⟨_, stepG_cas_miss (v := (v' : Int) * KK) (old := S) (n := S + 1) rfl rfl (by k_ne) rfl H.f_casU64 (x_casU64_n L) (x_casU64_b L) (x_casU64_x L) .u64 (x_casU64_f L) rfl rfl rfl hw'.cellSt (hw'.thaw 0) (by rw [← hS]; simp only [KK]; omega), ?_⟩
      clear hw hw'
      refine lva 20 fun w hF => ?_
      walk_nrm
      repeat (first | w_nl rk | u_leave1 H.f_uCas rk hF)
      u_c stepG_inLoop rk hF
      exact Goes.stop fun _ _ => ⟨_, rfl, by simp, by simp⟩
end
end Go.Proofs.Q
namespace Go.Proofs.Q
open Go Go.Conc Go.RowKit Go.Conc.Lib Go.ConcR.Gen
open Go.ConcR (KK stA smA rd wr DC0)
set_option linter.unusedVariables false
set_option linter.unusedSectionVars false
set_option linter.unusedSimpArgs false
theorem quit_more {P : Program} : ∀ {n d : Nat} {g : Goroutine}, QuitsD P n d g → QuitsD P (n + 1) d g
  | 0, d, g, h => .inl h
  | n + 1, d, g, h => h.elim .inl fun ⟨h1, g', es, h2, h3, h4⟩ => .inr ⟨h1, g', es, h2, h3, quit_more h4⟩
theorem quit_le {P : Program} {n m d : Nat} {g : Goroutine} (h : QuitsD P n d g) (hm : n ≤ m) : QuitsD P m d g := by
  induction hm with
  | refl => exact h
  | step _ ih => exact quit_more ih
section
variable {p : Pm} {L : WgLink}
variable {b₀ : Frame} {a₀ : Act} {ops₀ : Array Oper} {i₀ : Nat} {rest₀ : List Nat} {k₀ : List Item} {cs : List Frame}
set_option maxRecDepth 100000 in
set_option maxHeartbeats 8000000 in
theorem done_lv (H : WgLib p.P L) {c : Frame} {qt : Nat} (hcm : c.mode = .returning) (hT : QuitsD p.P qt 0 (G c cs)) :
    LvA p false (SRel p) (G ((baseD L.done).at ⟨#[.pointer (some ⟨p.Wg, 0, none⟩), undef, undef, undef], []⟩ [.code (body_done L)]) (c :: cs)) := by
  lib_facts
  simp only [body_done, doneFn, Option.getD_some]
  refine lva 60 fun w hF => ?_
  repeat w_go rk
  u_in rk hF
  refine goes_call rfl rfl (by k_ne) rfl H.f_add (nm_add L) rfl ⟨by u_nil, ?_⟩
  walk_nrmf addFn
  repeat w_go rk
  m_convG p.P H.underlying_tUP H.underlying_tWgP H.room_tWg (kn_cell0 hF).choose_spec rk hF
  refine Goes.stop (fun w₁ h₁ => ⟨rfl, _, stepG_markAt .releaseMerge (by simp) rfl rfl (by k_ne) rfl H.f_relMerge (x_relMerge_n L) (x_relMerge_b L) (x_relMerge_x L) (x_relMerge_f L) (by simp [Act.eval, stA]), ?_⟩)
  refine lvq 20 fun w hF => ?_
  walk_nrm
  repeat w_go rk
  refine Goes.stop (fun w₁ h₁ => ⟨rfl, _, stepG_mark0 .disable (by simp) rfl rfl (by k_ne) rfl H.f_disable (x_disable_n L) (x_disable_b L) (x_disable_x L) (x_disable_f L), ?_⟩)
  refine lvq 50 fun w hF => ?_
  walk_nrm
  repeat (first | w_go rk | u_defer rk hF | u_bub rk hF | u_call H.f_uAdd (nm_uAdd L) uAddFn rk hF)
  refine Goes.stop (fun w₁ h₁ => ⟨rfl, fun v wt hwt hv hw => ?_⟩)
  have hw' : Go.ConcR.WgAt p.ty p.Wg w₁ ((v + 1) * KK + wt) 0 := hw
  have eS : IntKind.u64.wrap ((((v : Int) + 1) * KK + wt) + 18446744069414584320) = (v : Int) * KK + wt := by rw [IntKind.wrap_u64]; simp only [KK]; omega
  refine ⟨_, (stepG_add_atomic rfl rfl (by k_ne) rfl H.f_addU64 (x_addU64_n L) (x_addU64_b L) (x_addU64_x L) .u64 (x_addU64_f L) rfl rfl hw'.cellSt (hw'.thaw 0)).trans (by rw [eS]; rfl), fun hl => ?_, fun hl => ?_⟩
  · obtain ⟨rfl, rfl⟩ := hl
    clear hw hw' eS
    have z : ((0 : Nat) : Int) * KK + ((1 : Nat) : Int) = 1 := by decide
    rw [z]
    refine lvq 130 fun w hF => ?_
    walk_nrm
    repeat (first | w_go rk | u_leave1 H.f_uAdd rk hF | u_call H.f_uLoad (nm_uLoad L) uLoadFn rk hF)
    refine Goes.stop (fun w₂ h₂ => ⟨rfl, fun hw => ⟨_, stepG_load_atomic (v := 1) rfl rfl (by k_ne) rfl H.f_loadU64 (x_loadU64_n L) (x_loadU64_b L) (x_loadU64_x L) .u64 (x_loadU64_f L) rfl (Go.ConcR.WgAt.cellSt (ty := p.ty) (Wg := p.Wg) hw), ?_⟩⟩)
    refine lvq 60 fun w hF => ?_
    walk_nrm
    repeat (first | w_go rk | u_leave1 H.f_uLoad rk hF | u_call H.f_uStore (nm_uStore L) uStoreFn rk hF)
    refine Goes.stop (fun w₃ h₃ => ⟨rfl, fun hw => ⟨_, stepG_store_atomic rfl rfl (by k_ne) rfl H.f_storeU64 (x_storeU64_n L) (x_storeU64_b L) (x_storeU64_x L) (x_storeU64_f L) rfl rfl (Go.ConcR.WgAt.cellSt (ty := p.ty) (Wg := p.Wg) hw) (Go.ConcR.WgAt.thaw (ty := p.ty) (Wg := p.Wg) hw 0), ?_⟩⟩)
    refine lvq 60 fun w hF => ?_
    walk_nrm
    repeat (first | w_go rk | u_leave0 H.f_uStore rk hF)
    refine Goes.stop (fun w₄ h₄ => ⟨rfl, mayWake_entry rfl rfl H.f_semrelease (x_semrelease_b L), fun hw => ⟨_, (stepG_semrelease rfl rfl (by k_ne) rfl H.f_semrelease (x_semrelease_n L) (x_semrelease_b L) (x_semrelease_x L) (x_semrelease_f L) (by simp [Act.eval, smA]) (Go.ConcR.WgAt.cellSm (ty := p.ty) (Wg := p.Wg) hw) (Go.ConcR.WgAt.thaw (ty := p.ty) (Wg := p.Wg) hw 1)).trans (by rfl), ?_⟩⟩)
    refine ⟨qt + 160, ?_⟩
    walk_nrm
    repeat q_go
    q_enable
    q_leave0 H.f_add
    repeat q_go
    exact QuitsD.leaveD rfl rfl H.f_done rfl hcm (quit_le hT (by omega))
  · clear hw hw' eS
    rcases Nat.eq_zero_or_pos v with rfl | hvp
    · refine ⟨qt + 160, ?_⟩
      obtain rfl : wt = 0 := by omega
      obtain ⟨S, hS⟩ : ∃ S : Int, S = ((0 : Nat) : Int) * KK + ((0 : Nat) : Int) := ⟨_, rfl⟩
      have a1 : S / 4294967296 = 0 := by rw [hS]; decide
      have b1 : bits .and .u64 S 2147483648 = 0 := by rw [hS]; decide
      have b2 : bits .and .u64 S 2147483647 = 0 := by rw [hS]; decide
      have c1 : IntKind.i32.wrap 0 = 0 := by decide
      have c2 : IntKind.u32.wrap 0 = 0 := by decide
      rw [← hS]
      clear hS hl hwt hv
      walk_nrm
      change QuitsD p.P (qt + 160) 1 _
      repeat (first | q_go | q_leave1 H.f_uAdd)
      q_enable
      q_leave0 H.f_add
      repeat q_go
      exact QuitsD.leaveD rfl rfl H.f_done rfl hcm (quit_le hT (by omega))
    · rcases (show wt = 0 ∨ wt = 1 by omega) with rfl | rfl
      · refine ⟨qt + 160, ?_⟩
        obtain ⟨S, hS⟩ : ∃ S : Int, S = (v : Int) * KK + ((0 : Nat) : Int) := ⟨_, rfl⟩
        have a1 : S / 4294967296 = (v : Int) := by rw [hS]; simp only [KK]; omega
        have b1 : bits .and .u64 S 2147483648 = 0 := by rw [hS]; have := Go.ConcN.st_flag v 0 (by omega) (by omega); simpa [KK] using this
        have b2 : bits .and .u64 S 2147483647 = 0 := by rw [hS]; have := Go.ConcN.st_waiters v 0 (by omega) (by omega); simpa [KK] using this
        have c1 : IntKind.i32.wrap (v : Int) = (v : Int) := by rw [IntKind.wrap_i32]; omega
        have c2 : IntKind.u32.wrap 0 = 0 := by decide
        have q3 : decide ((v : Int) < 0) = false := decide_eq_false (by omega)
        have q4 : decide (0 < (v : Int)) = true := decide_eq_true (by omega)
        have q5 : ((v : Int) == 0) = false := by simp; omega
        have q6 : decide ((v : Int) = 0) = false := decide_eq_false (by omega)
        have q7 : decide (0 < v) = true := decide_eq_true hvp
        have q8 : decide (v = 0) = false := decide_eq_false (by omega)
        rw [← hS]
        clear hS hl hwt hv hvp
        walk_nrm
        change QuitsD p.P (qt + 160) 1 _
        repeat (first | q_go | q_leave1 H.f_uAdd)
        q_enable
        q_leave0 H.f_add
        repeat q_go
        exact QuitsD.leaveD rfl rfl H.f_done rfl hcm (quit_le hT (by omega))
      · refine ⟨qt + 160, ?_⟩
        obtain ⟨S, hS⟩ : ∃ S : Int, S = (v : Int) * KK + ((1 : Nat) : Int) := ⟨_, rfl⟩
        have a1 : S / 4294967296 = (v : Int) := by rw [hS]; simp only [KK]; omega
        have b1 : bits .and .u64 S 2147483648 = 0 := by rw [hS]; have := Go.ConcN.st_flag v 1 (by omega) (by omega); simpa [KK] using this
        have b2 : bits .and .u64 S 2147483647 = 1 := by rw [hS]; have := Go.ConcN.st_waiters v 1 (by omega) (by omega); simpa [KK] using this
        have c1 : IntKind.i32.wrap (v : Int) = (v : Int) := by rw [IntKind.wrap_i32]; omega
        have c2 : IntKind.u32.wrap 1 = 1 := by decide
        have q3 : decide ((v : Int) < 0) = false := decide_eq_false (by omega)
        have q4 : decide (0 < (v : Int)) = true := decide_eq_true (by omega)
        have q5 : ((v : Int) == 0) = false := by simp; omega
        have q6 : decide ((v : Int) = 0) = false := decide_eq_false (by omega)
        have q7 : decide (0 < v) = true := decide_eq_true hvp
        have q8 : decide (v = 0) = false := decide_eq_false (by omega)
        rw [← hS]
        clear hS hl hwt hv hvp
        walk_nrm
        change QuitsD p.P (qt + 160) 1 _
        repeat (first | q_go | q_leave1 H.f_uAdd)
        q_enable
        q_leave0 H.f_add
        repeat q_go
        exact QuitsD.leaveD rfl rfl H.f_done rfl hcm (quit_le hT (by omega))
end
end Go.Proofs.Q
