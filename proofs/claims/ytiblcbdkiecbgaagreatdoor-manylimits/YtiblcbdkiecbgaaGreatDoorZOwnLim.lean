/-
  PROVED: whatever two numbers are handed in, the law ManyLimits returns true: for more than 50 texts, or workers that are not from 1 to 16, All tells ErrLimit and no answers; else it answers as many as there are texts, whatever the goroutines' order is; the arguments read as they did.
  CONDITIONS: none of ours; the variables math/bits.deBruijn32tab, math/bits.deBruijn64tab, internal/strconv.uint64pow10, errors.errorType, strconv.ErrRange and strconv.ErrSyntax are as the program's text lays them (the card ties them).
-/
import Derived.Test.YtiblcbdkiecbgaaGreatDoorQ17
import Derived.Test.YtiblcbdkiecbgaaGreatDoorM29
import Derived.Test.YtiblcbdkiecbgaaGreatDoorZRh
import Derived.Test.YtiblcbdkiecbgaaGreatDoorRows
import Derived.Test.YtiblcbdkiecbgaaGreatDoorTie
import Derived.Test.YtiblcbdkiecbgaaGreatDoorCards
import Derived.ProofKit
import Derived.OpenShut
import Derived.ChangeOld
import Derived.ChangeSame
import Derived.ChangeVars
import Derived.ChangeMaps5
import Derived.JoinedOf
import Derived.LaidLaws
import Derived.LaidHandle
import Derived.Lib.LaidTab
import Derived.Deep.DeepHandedRow
import Derived.Deep.DeepWitnessRowRef
import Derived.SevenTiedAt
import Derived.Conc.Holds
import Derived.Conc.LeavingOf
namespace Go.Proofs.YtiblcbdkiecbgaaGreatDoor
open Go.ChangeShapes Go.WideShapes Go.ChangeAt Go.RowKit Go.Conc
set_option linter.unusedVariables false

theorem own : ownKnob Tryz.prog.godebug = none := by kernel_rfl
theorem laidOut : laidOutB Tryz.prog = true := by kernel_rfl
theorem Tryz.et : Tryz.prog.globalNamed "errors.errorType" = some 0 := by kernel_rfl
theorem Tryz.gP : Tryz.prog.globalNamed "internal/strconv.uint64pow10" = some 2 := by kernel_rfl
theorem Tryz.gPT : (Tryz.prog.globals[2]?).map (·.type) = some 253 := by kernel_rfl
theorem Tryz.gS : Tryz.prog.globalNamed "strconv.ErrSyntax" = some 3 := by kernel_rfl
theorem Tryz.gST : (Tryz.prog.globals[3]?).map (·.type) = some 24 := by kernel_rfl
theorem Tryz.gR : Tryz.prog.globalNamed "strconv.ErrRange" = some 4 := by kernel_rfl
theorem Tryz.gRT : (Tryz.prog.globals[4]?).map (·.type) = some 24 := by kernel_rfl
theorem Tryz.rt : (Tryz.prog.cutTypes.find? (·.1 == "internal/reflectlite.rtype")).map (·.2) = some 135 := by kernel_rfl
theorem Tryz.oneRow : ((List.range 374).filter fun t => Tryz.prog.rowNamed t [101, 114, 114, 111, 114]) = [24] := by kernel_rfl
theorem Tryz.size : Tryz.prog.types.size = 374 := by kernel_rfl
def laidL : List (String × DataW Unit) := [("math/bits.deBruijn32tab", Rows.laid_math_bits_deBruijn32tab), ("math/bits.deBruijn64tab", Rows.laid_math_bits_deBruijn64tab), ("internal/strconv.uint64pow10", Rows.laid_internal_strconv_uint64pow10), ("errors.errorType", Rows.laid_errors_errorType), ("strconv.ErrRange", Rows.laid_strconv_ErrRange), ("strconv.ErrSyntax", Rows.laid_strconv_ErrSyntax)]
theorem row0 : ((begin Tryz.prog (fun _ _ => 0) default).world.heap[1]?).bind Obj.row? = some (#[.int .i64 0], 3) := by kernel_rfl
theorem row6 : (((begin Tryz.prog (fun _ _ => 0) default).world.heap[7 - 1]?).bind Obj.row?).isSome = true := by kernel_rfl
theorem types0 : Tryz.prog.cellTypes Tryz.prog.depth 3 = some [3] := by kernel_rfl
set_option maxRecDepth 100000 in
theorem vd_of_laid {W : World} (h : laidMetH Tryz.prog laidL W) (hs : W.ShapedOpen Tryz.prog) : VD W := by
  have h' : laidMet Tryz.prog [("math/bits.deBruijn32tab", Rows.laid_math_bits_deBruijn32tab), ("math/bits.deBruijn64tab", Rows.laid_math_bits_deBruijn64tab), ("internal/strconv.uint64pow10", Rows.laid_internal_strconv_uint64pow10), ("strconv.ErrRange", Rows.laid_strconv_ErrRange), ("strconv.ErrSyntax", Rows.laid_strconv_ErrSyntax)] W ∧ handlesMet Tryz.prog [("errors.errorType", Rows.laid_errors_errorType)] W := h
  obtain ⟨ps, ⟨_, _, _, _, _, _, _, _, _, _, ⟨_, _, _, _, _, _, _, _, _, _, ⟨g2, t2, cs2, f2, p2, q2, a1, a2, a3, a4, ⟨g3, t3, cs3, f3, p3, q3, b1, b2, b3, b4, ⟨g4, t4, cs4, f4, p4, q4, c1, c2, c3, c4, _, _⟩, _⟩, _⟩, _⟩, _⟩, _⟩ := h'.1
  obtain rfl := Option.some.inj (Tryz.gP.symm.trans a1)
  obtain rfl := Option.some.inj (Tryz.gPT.symm.trans a2)
  obtain rfl := Option.some.inj (Tryz.gR.symm.trans b1)
  obtain rfl := Option.some.inj (Tryz.gRT.symm.trans b2)
  obtain rfl := Option.some.inj (Tryz.gS.symm.trans c1)
  obtain rfl := Option.some.inj (Tryz.gST.symm.trans c2)
  obtain ⟨name, u, ty, e1, e2, e3, e4, e5⟩ := h'.2 _ (List.mem_singleton.2 rfl)
  have en : name = [101, 114, 114, 111, 114] := (Option.some.inj e1).symm
  subst en
  obtain rfl := Option.some.inj (Tryz.rt.symm.trans e2)
  have hm : ty ∈ (List.range 374).filter fun t => Tryz.prog.rowNamed t [101, 114, 114, 111, 114] := List.mem_filter.2 ⟨List.mem_range.2 (by rw [← Tryz.size]; exact e3), e4⟩
  rw [Tryz.oneRow] at hm
  obtain rfl := List.mem_singleton.1 hm
  have hh : typeHandle Tryz.prog 24 = .pointer (some ⟨7, 24, none⟩) := by kernel_rfl
  rw [hh] at e5
  refine ⟨?_, ?_, ?_, (by simpa using World.var?_cell Tryz.et e5 0 : W.cell? ⟨0, 0, none⟩ = _)⟩
  · obtain ⟨⟨z, t⟩, hz⟩ := Option.isSome_iff_exists.1 row6
    obtain ⟨cs, hc, _⟩ := hs.1 (7 - 1) z t (show 7 - 1 < Tryz.prog.globals.size from of_decide_eq_true (by kernel_rfl)) hz
    have := (Array.getElem?_eq_some_iff.1 hc).1
    omega
  · obtain ⟨cs, hc, hn, hok⟩ := hs.1 1 _ _ (show 1 < Tryz.prog.globals.size from of_decide_eq_true (by kernel_rfl)) row0
    obtain ⟨ts, h1, _, h3⟩ := hok (by kernel_rfl)
    obtain rfl := Option.some.inj (types0.symm.trans h1)
    have h0 : 0 < cs.size := by rw [hn]; decide
    obtain ⟨u, hu, hv⟩ := h3 0 cs[0] (Array.getElem?_eq_getElem h0)
    obtain rfl : 3 = u := by simpa using hu
    unfold Cell.ok at hv
    rw [Tryz.underlying3] at hv
    have hcell : W.cell? ⟨1, 0, none⟩ = some cs[0] := by
      simp [World.cell?, hc, h0]
    rw [hcell]
    cases hx : cs[0] <;> rw [hx] at hv <;> simp at hv
    obtain ⟨rfl, _⟩ := hv
    exact ⟨_, rfl⟩
  · have hd : DataW.trod (fun _ => ()) Tryz.prog W 0 (fun _ => true) false f2 253 cs2.toList = some (Lib.tabData .u64 Lib.pow10Tab, p2) := a4
    have hc := Lib.cells_of_tab Tryz.underlying253 Tryz.underlying38 (by kernel_rfl) (by kernel_rfl) hd
    unfold Lib.TabIs
    rw [a3, ← hc]
def tabOf (d : DataW Unit) : Array Value := match d with
  | .agg l => (l.map fun x => match x with
    | .lit (.int k z) => Value.int k z
    | _ => .int .i64 0).toArray
  | _ => #[]
noncomputable def laidWorld (os : Os) : World :=
  let w0 := World.holding Tryz.prog os ⟨#[], #[], []⟩
  let put (g : Nat) (cs : Array Value) (h : Array Obj) : Array Obj := h.modify g fun
    | .cells _ t frozen => .cells cs t frozen
    | o => o
  { w0 with heap := ((put 2 (tabOf Rows.laid_internal_strconv_uint64pow10) <| put 5 (tabOf Rows.laid_math_bits_deBruijn32tab) <| put 6 (tabOf Rows.laid_math_bits_deBruijn64tab) <|
      put 0 #[.iface 135 (.agg #[.pointer (some ⟨7, 24, none⟩)])] <| put 4 #[.iface 340 (.pointer (some ⟨w0.heap.size, 0, none⟩))] <| put 3 #[.iface 340 (.pointer (some ⟨w0.heap.size + 1, 0, none⟩))] w0.heap).push
      (.cells #[.string ⟨#[118, 97, 108, 117, 101, 32, 111, 117, 116, 32, 111, 102, 32, 114, 97, 110, 103, 101]⟩] 342 (0, 0))).push (.cells #[.string ⟨#[105, 110, 118, 97, 108, 105, 100, 32, 115, 121, 110, 116, 97, 120]⟩] 342 (0, 0)) }
theorem laidWorld_met (os : Os) (args : Array Value) : laidMetH Tryz.prog laidL ((laidWorld os).forCall (fun _ _ => 0) ⟨#[], args, []⟩).memory :=
  laidMetH_of_parts (laidMet_of_run' 8 (by kernel_rfl) (by kernel_rfl)) (by kernel_rfl)

def wit : Array Value := #[.int .i64 0, .int .i64 0]
theorem reads (os : Os) {H : Type} (enc : TypeId × Value → H) : ∃ places, DataW.whole enc Tryz.prog ((laidWorld os).forCall (fun _ _ => 0) ⟨#[], wit, []⟩).memory Tryz.f4.params.toList Rows.manyLimitsSpec.vars false wit.toList 8 = some ([.lit (.int .i64 0), .lit (.int .i64 0)], [], places) :=
  ⟨[], by kernel_rfl⟩
/-- A call that comes back by itself is a good run. -/
theorem good_of_calls {P : Program} {f : FuncId} {args : Array Value} {W : World} {R : Value → World → Prop} (hi : P.inits.idxOf? f = none) (h : Calls P f args W fun e w' => ∃ v, e = .returned v ∧ R v w') :
    ∃ N last o w' t', runNT P (N + 1) (solo (G (Frame.enter P f args .normal) []) W) #[] = (.ended o w', t') ∧ runN P N (solo (G (Frame.enter P f args .normal) []) W) = .next last ∧ step P last = .ended o w' ∧ Conc.Good P R last o w' t' := by
  have h' : Calls P f args W fun | .returned v, w' => R v w' | _, _ => False := h.mono fun e w' ⟨v, he, hr⟩ => by subst he; exact hr
  obtain ⟨n, v, w', fr, hn, hend, hp⟩ := h'.done_lone hi
  have e : solo (G (Frame.enter P f args .normal) []) W = lone (Frame.enter P f args .normal) [] W := rfl
  rw [e]
  have h2 := runNT_fst P (n + 1) (lone (Frame.enter P f args .normal) [] W) #[]
  rw [hend] at h2
  have hc := fun (said : Bool) => not_race_of_allBy (said := said) (allBy_of_lone P n _ _ hn (by simp [lone]) rfl)
  refine ⟨n, _, _, w', (runNT P (n + 1) (lone (Frame.enter P f args .normal) [] W) #[]).2, ?_, hn, step_of_runs hn hend, v, rfl, hp, hc, handedOver_of_lone hn, ⟨fun g hg => by simp [lone] at hg, by simp [lone]⟩, fun i g hg hne => ?_⟩
  · exact Prod.ext h2 rfl
  · cases i with
    | zero => exact absurd rfl hne
    | succ k => simp [lone] at hg
section
variable {H : Type} {enc : TypeId × Value → H}
/-- From one good run at every start to the row, whatever of conditions and laid variables it bears. -/
theorem leaving_of_row {a : Assume} {C : Checked} {os : Os} {f : FuncId} {fn : Func} {s : ChangeSpec} {conds : List PathCond} {apart fresh handsOn again : Bool} {laid : List (String × DataW Unit)}
    (own : ownKnob C.prog.godebug = none) (started : os.Started) (hfn : C.prog.funcs[f]? = some fn)
    (witness : ∃ (w : World) (tape : Tape) (i : Input), w.os = os ∧ (w.forCall tape i).Shaped C.prog ∧ i.vars = [] ∧ Input.okWide C.prog (w.forCall tape i) .any w.heap.size f i ∧
      (OpenSpec.ofChange s).preRow enc C.prog fn conds apart laid (w.forCall tape i).memory i.args ∧ a.holds C.prog (lone (Frame.enter C.prog f i.args .normal) [] (w.forCall tape i)))
    (runs : ∀ (W : World) (base : Nat) (args : Array Value) (ds gs : List (DataW H)) (before : List MemPlace),
      (∀ (j : Nat) t v, fn.params[j]? = some t → args[j]? = some v → Value.okWide C.prog W .any base t v) →
      DataW.Whole enc C.prog fn.params.toList s.vars apart W args.toList ds gs before →
      laidMetH C.prog laid W →
      W.ShapedOpen C.prog →
      ∃ M last o w' t', runNT C.prog (M + 1) (solo (G (Frame.enter C.prog f args .normal) []) W) #[] = (.ended o w', t') ∧ runN C.prog M (solo (G (Frame.enter C.prog f args .normal) []) W) = .next last ∧
        step C.prog last = .ended o w' ∧ Conc.Good C.prog (fun v W' => s.post enc C.prog fn apart fresh handsOn again W args v W') last o w' t') :
    ReturnsInLeavingWide a C os f .any ((OpenSpec.ofChange s).preRow enc C.prog fn conds apart laid) (s.post enc C.prog fn apart fresh handsOn again) := by
  refine returnsInLeavingWide_of_good own started witness ?_
  intro w tape i _ hsh _ hok hpre _
  obtain ⟨_, _, _, fn', hfn', _, _, _, _, hval⟩ := hok
  have e : fn' = fn := Option.some.inj (hfn'.symm.trans hfn)
  subst e
  obtain ⟨⟨hp, hl⟩, hz⟩ := hpre
  obtain ⟨ds, gs, before, hw, hc, hk⟩ := OpenSpec.pre_parts hp
  have hw' := DataW.Whole.of_heap (w' := w.forCall tape i) (by rfl) hw
  obtain ⟨M, last, o, w', t', h1, h2, h3, h4⟩ := runs (w.forCall tape i) w.heap.size i.args ds gs before hval hw' (hl.of_heap (by rfl)) hsh
  exact ⟨M, last, o, w', t', h1, h2, h3, h4.mono fun v hp => ChangeSpec.post_blind hp⟩
end
/-- The law, run. -/
theorem limits_all (n k : Int) (W : World) (hv : VD W) (hs : W.ShapedOpen Tryz.prog) :
    ∃ M last o w' t', runNT Tryz.prog (M + 1) (solo (G (Frame.enter Tryz.prog 4 #[.int .i64 n, .int .i64 k] .normal) []) W) #[] = (.ended o w', t') ∧ runN Tryz.prog M (solo (G (Frame.enter Tryz.prog 4 #[.int .i64 n, .int .i64 k] .normal) []) W) = .next last ∧
      step Tryz.prog last = .ended o w' ∧ Conc.Good Tryz.prog (Q.Res W true) last o w' t' := by
  by_cases h : 0 ≤ n ∧ n ≤ 50 ∧ 1 ≤ k ∧ k ≤ 16
  · obtain ⟨m, rfl⟩ : ∃ m : Nat, n = m := ⟨n.toNat, by omega⟩
    obtain ⟨j, rfl⟩ : ∃ j : Nat, k = (j + 1 : Nat) := ⟨k.toNat - 1, by omega⟩
    exact Q.limits_run (Q.good0 hv hs) (fun w h => session_blank w ⟨by have := h.sz; omega, h.ml, h.tab, h.et⟩) (fun w h => session_begin w ⟨by have := h.sz; omega, h.ml, h.tab, h.et⟩) (by omega) (by omega)
  · exact good_of_calls (by kernel_rfl) ((limits_else n k h W hv).mono fun e w' ⟨he, hm⟩ => ⟨_, he, rfl, hm.os, hm.output, hm.size, fun i hi => hm.block i hi id⟩)

set_option maxRecDepth 100000 in
theorem lifted (os : Os) (started : os.Started) (H : Type) (enc : TypeId × Value → H) :
    ReturnsInLeavingWide {} Tryz.checked os 4 .any ((OpenSpec.ofChange Rows.manyLimitsSpec).preRow enc Tryz.prog Tryz.f4 Rows.manyLimitsRow.domain false Rows.manyLimitsRow.laid) (Rows.manyLimitsSpec.post enc Tryz.prog Tryz.f4 false true false false) := by
  obtain ⟨places, hx⟩ := reads os enc
  refine leaving_of_row (C := Tryz.checked) own started Tryz.func4
    (witness_row_atRef (enc := enc) (C := Tryz.checked) false (laidWorld os) wit rfl (by kernel_rfl) (by kernel_rfl) (by kernel_rfl)
      (OpenSpec.preRow_of_cond 8 hx (by kernel_rfl) (fun k hk => by cases hk) (by kernel_rfl) (laidWorld_met os _))) ?_
  intro W base args ds gs before hval0 hW hL hsh
  have hval : ∀ (j : Nat) t v, Tryz.f4.params[j]? = some t → args[j]? = some v → Value.okWide Tryz.prog W .any base t v := hval0
  have hW' := hW
  obtain ⟨p, q, hA0, hV0, rfl, hfz, hnd⟩ := hW
  have hA : DataW.TrodAll enc Tryz.prog W 0 (fun _ => true) true Tryz.f4.params.toList args.toList ds p := hA0
  have hV : DataW.TrodVars enc Tryz.prog W (fun _ => true) [] gs q := hV0
  rw [Tryz.params4] at hA hval
  obtain ⟨v0, v1, d0, d1, p0, p1, rfl, rfl, rfl, h0, h1⟩ := trodAll_two hA
  obtain ⟨rfl, rfl⟩ := trodVars_none hV
  obtain ⟨n, rfl, rfl, rfl, w0⟩ := open_int Tryz.underlying3 (hval 0 3 v0 rfl rfl) h0
  obtain ⟨k, rfl, rfl, rfl, w1⟩ := open_int Tryz.underlying3 (hval 1 3 v1 rfl rfl) h1
  clear hA0 hval0
  obtain ⟨M, last, o, w', t', r1, r2, r3, r4⟩ := limits_all n k W (vd_of_laid hL hsh) hsh
  refine ⟨M, last, o, w', t', r1, r2, r3, r4.mono fun v hF => ?_⟩
  obtain ⟨rfl, ho, hu, hs, hl⟩ := hF
  have hfr : ∀ may : MemPlace → Prop, W.keptBut w' may := fun may => ⟨ho, hu, fun i hi => by rw [hl i hi]; split <;> simp_all⟩
  exact ⟨_, _, _, [], _, [], hW', trodAll_mk1 (shut_bool Tryz.underlying4 _), trodAll_mk2 (shut_int Tryz.underlying3 w0) (shut_int Tryz.underlying3 w1), rfl, hfr _, fun h => by cases h⟩

theorem row_holds : Rows.ManyLimitsSaid :=
  OpenClaim.holds_of_wide_leaving 4 Tryz.f4 rfl rfl rfl rfl rfl rfl rfl ⟨rfl, rfl, rfl, rfl, rfl⟩ rfl rfl rfl rfl rfl rh_fn Tryz.func4 rh_closed rh_inst rh_wrap
    (fun os started H enc _ => by rw [OpenClaim.pre_eq_preRow]; exact lifted os started H enc)

theorem plainArgs (f : FuncId) (fn : Func) (hf : Tryz.pinned.checked.prog.funcNamed "chainmail/chainmailkeep.ManyLimits" = some f) (hfn : Tryz.pinned.checked.prog.funcs[f]? = some fn) :
    true = Tryz.pinned.checked.prog.looks [] ∧ ∀ (j : Nat) t, fn.params[j]? = some t → Tryz.pinned.checked.prog.wantsStandIn t = false := by
  obtain rfl : f = 4 := Option.some.inj ((show Tryz.prog.funcNamed "chainmail/chainmailkeep.ManyLimits" = some 4 by kernel_rfl).symm.trans hf) |>.symm
  obtain rfl : fn = Tryz.f4 := (Option.some.inj (Tryz.func4.symm.trans hfn)).symm
  refine ⟨by kernel_rfl, fun j t ht => ?_⟩
  rw [Tryz.params4] at ht
  have h2 : t = 3 := by simpa using Array.mem_of_getElem? ht
  subst h2
  exact (show Tryz.prog.wantsStandIn 3 = false by kernel_rfl)

/-- A tied card that says that goroutines are started. -/
theorem tied_goes (Lk : Looks) {p : Pinned} {s : OpenSpec} {c : OpenClaim} (kinds : List LaidKind) (tests : Bool) (har : Bool × String) (lk : Bool)
    (hc : c.holds p s) (hw : c.wfByText s = true) (htie : c.laidByTextAt Lk p kinds tests)
    (hst : c.start = .entering) (hnb : c.noBlocks = false ∧ c.again = false) (hm : p.checked.prog.mainIs = some (har.1, har.2.toList)) (hn : (!har.1 && har.2.isEmpty && !lk) = false)
    (hl : ∀ f fn, p.checked.prog.funcNamed c.func = some f → p.checked.prog.funcs[f]? = some fn → lk = p.checked.prog.looks [] ∧ ∀ (j : Nat) t, fn.params[j]? = some t → p.checked.prog.wantsStandIn t = false)
    (hg : true = c.goesBy p.checked.prog) :
    Claim7.holds p (.plain s) { stood := { row := c, standIns := [], harness := har, looks := lk }, kinds := [], alts := [], goes := true, laidByText := true, laidKinds := kinds, laidTests := tests, laidLooks := Lk } := by
  have h6 : ∀ r : OpenClaim, Claim7.isSixth { stood := { row := r, standIns := [], harness := har, looks := lk }, kinds := [] } = false := fun r => by simpa [Claim7.isSixth] using hn
  exact ⟨Claim7.tied_new_at Lk kinds tests (Claim7.new_of_sixth hc har lk hst hnb hm (h6 c) hl) hw, (fun D hD => by cases hD), htie, (fun h => by cases h), hg⟩
theorem manyLimits_holds : Rows.ManyLimitsCardSaid :=
  tied_goes .later _ _ _ _ row_holds (by kernel_rfl) manyLimits_row_tie rfl ⟨rfl, rfl⟩ (by kernel_rfl) rfl plainArgs (by kernel_rfl)
#print axioms manyLimits_holds
end Go.Proofs.YtiblcbdkiecbgaaGreatDoor
