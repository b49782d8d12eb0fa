/-
  PROVED: whatever two texts are handed in, the law DeskPieces returns true: the answers to the first lines of a session are the beginning of the answers to all; the arguments read as they did.
  CONDITIONS: none of ours; the variables math/bits.deBruijn32tab, math/bits.deBruijn64tab, internal/strconv.uint64pow10, errors.errorType, strconv.ErrRange and strconv.ErrSyntax are as the program's text lays them (the card ties them).
-/
import Derived.Test.YtogaigioeohjaaaGreatDoorD49
import Derived.Test.YtogaigioeohjaaaGreatDoorRows
import Derived.Test.YtogaigioeohjaaaGreatDoorTie
import Derived.Test.YtogaigioeohjaaaGreatDoorCards
import Derived.ProofKit
import Derived.OpenShut
import Derived.ChangeOld
import Derived.ChangeSame
import Derived.ChangeVars
import Derived.ChangeMaps5
import Derived.JoinedOf
import Derived.LaidLaws
import Derived.LaidHandle
import Derived.Lib.LaidTab
import Derived.Deep.DeepHandedRow
import Derived.Deep.DeepWitnessRowRef
import Derived.SevenTiedAt
set_option linter.unusedVariables false
set_option maxRecDepth 100000
set_option maxHeartbeats 16000000
namespace Go.Proofs.YtogaigioeohjaaaGreatDoor
open Go.ChangeShapes Go.WideShapes Go.ChangeAt Go.RowKit
theorem own : ownKnob Tryz.prog.godebug = none := by kernel_rfl
theorem Tryz.et : Tryz.prog.globalNamed "errors.errorType" = some 2 := by kernel_rfl
theorem Tryz.gP : Tryz.prog.globalNamed "internal/strconv.uint64pow10" = some 1 := by kernel_rfl
theorem Tryz.gPT : (Tryz.prog.globals[1]?).map (·.type) = some 191 := by kernel_rfl
theorem Tryz.gS : Tryz.prog.globalNamed "strconv.ErrSyntax" = some 3 := by kernel_rfl
theorem Tryz.gST : (Tryz.prog.globals[3]?).map (·.type) = some 36 := by kernel_rfl
theorem Tryz.gR : Tryz.prog.globalNamed "strconv.ErrRange" = some 4 := by kernel_rfl
theorem Tryz.gRT : (Tryz.prog.globals[4]?).map (·.type) = some 36 := by kernel_rfl
theorem Tryz.rt : (Tryz.prog.cutTypes.find? (·.1 == "internal/reflectlite.rtype")).map (·.2) = some 257 := by kernel_rfl
theorem Tryz.oneRow : ((List.range 341).filter fun t => Tryz.prog.rowNamed t [101, 114, 114, 111, 114]) = [36] := by kernel_rfl
theorem Tryz.size : Tryz.prog.types.size = 341 := by kernel_rfl
def laidL : List (String × DataW Unit) := [("math/bits.deBruijn32tab", Rows.laid_math_bits_deBruijn32tab), ("math/bits.deBruijn64tab", Rows.laid_math_bits_deBruijn64tab), ("internal/strconv.uint64pow10", Rows.laid_internal_strconv_uint64pow10), ("errors.errorType", Rows.laid_errors_errorType), ("strconv.ErrRange", Rows.laid_strconv_ErrRange), ("strconv.ErrSyntax", Rows.laid_strconv_ErrSyntax)]
theorem err_cell {W : World} {name : String} {g : Nat} {cs : Array Value} {fuel : Nat} {nm : String} {d : DataW Unit} {p : List MemPlace} (hg : Tryz.prog.globalNamed name = some g) (hv : W.var? Tryz.prog name = some cs)
    (hd : DataW.trod (fun _ => ()) Tryz.prog W 0 (fun _ => true) false fuel 36 cs.toList = some (.iface nm d, p)) : ∃ te pe, W.cell? ⟨g, 0, none⟩ = some (.iface te pe) := by
  obtain ⟨_, u, v, h, _, _⟩ := iface_of_trod Tryz.underlying36 hd
  exact ⟨u, v, by rw [World.var?_cell hg hv 0, ← Array.getElem?_toList, h]; rfl⟩
theorem row0 : ((begin Tryz.prog (fun _ _ => 0) default).world.heap[0]?).bind Obj.row? = some (#[.int .i64 0], 3) := by kernel_rfl
theorem row6 : (((begin Tryz.prog (fun _ _ => 0) default).world.heap[7 - 1]?).bind Obj.row?).isSome = true := by kernel_rfl
theorem types0 : Tryz.prog.cellTypes Tryz.prog.depth 3 = some [3] := by kernel_rfl
theorem vd_of_laid {W : World} (h : laidMetH Tryz.prog laidL W) (hs : W.ShapedOpen Tryz.prog) : VD W := by
  have h' : laidMet Tryz.prog [("math/bits.deBruijn32tab", Rows.laid_math_bits_deBruijn32tab), ("math/bits.deBruijn64tab", Rows.laid_math_bits_deBruijn64tab), ("internal/strconv.uint64pow10", Rows.laid_internal_strconv_uint64pow10), ("strconv.ErrRange", Rows.laid_strconv_ErrRange), ("strconv.ErrSyntax", Rows.laid_strconv_ErrSyntax)] W ∧ handlesMet Tryz.prog [("errors.errorType", Rows.laid_errors_errorType)] W := h
  obtain ⟨ps, ⟨_, _, _, _, _, _, _, _, _, _, ⟨_, _, _, _, _, _, _, _, _, _, ⟨g2, t2, cs2, f2, p2, q2, a1, a2, a3, a4, ⟨g3, t3, cs3, f3, p3, q3, b1, b2, b3, b4, ⟨g4, t4, cs4, f4, p4, q4, c1, c2, c3, c4, _, _⟩, _⟩, _⟩, _⟩, _⟩, _⟩ := h'.1
  obtain rfl := Option.some.inj (Tryz.gP.symm.trans a1)
  obtain rfl := Option.some.inj (Tryz.gPT.symm.trans a2)
  obtain rfl := Option.some.inj (Tryz.gR.symm.trans b1)
  obtain rfl := Option.some.inj (Tryz.gRT.symm.trans b2)
  obtain rfl := Option.some.inj (Tryz.gS.symm.trans c1)
  obtain rfl := Option.some.inj (Tryz.gST.symm.trans c2)
  obtain ⟨name, u, ty, e1, e2, e3, e4, e5⟩ := h'.2 _ (List.mem_singleton.2 rfl)
  have en : name = [101, 114, 114, 111, 114] := (Option.some.inj e1).symm
  subst en
  obtain rfl := Option.some.inj (Tryz.rt.symm.trans e2)
  have hm : ty ∈ (List.range 341).filter fun t => Tryz.prog.rowNamed t [101, 114, 114, 111, 114] := List.mem_filter.2 ⟨List.mem_range.2 (by rw [← Tryz.size]; exact e3), e4⟩
  rw [Tryz.oneRow] at hm
  obtain rfl := List.mem_singleton.1 hm
  have hh : typeHandle Tryz.prog 36 = .pointer (some ⟨7, 36, none⟩) := by kernel_rfl
  rw [hh] at e5
  refine ⟨?_, ?_, ?_, err_cell Tryz.gS c3 c4, err_cell Tryz.gR b3 b4, (by simpa using World.var?_cell Tryz.et e5 0 : W.cell? ⟨2, 0, none⟩ = _)⟩
  · obtain ⟨⟨z, t⟩, hz⟩ := Option.isSome_iff_exists.1 row6
    obtain ⟨cs, hc, _⟩ := hs.1 (7 - 1) z t (show 7 - 1 < Tryz.prog.globals.size from of_decide_eq_true (by kernel_rfl)) hz
    have := (Array.getElem?_eq_some_iff.1 hc).1
    omega
  · obtain ⟨cs, hc, hn, hok⟩ := hs.1 0 _ _ (show 0 < Tryz.prog.globals.size from of_decide_eq_true (by kernel_rfl)) row0
    obtain ⟨ts, h1, _, h3⟩ := hok (by kernel_rfl)
    obtain rfl := Option.some.inj (types0.symm.trans h1)
    have h0 : 0 < cs.size := by rw [hn]; decide
    obtain ⟨u, hu, hv⟩ := h3 0 cs[0] (Array.getElem?_eq_getElem h0)
    obtain rfl : 3 = u := by simpa using hu
    unfold Cell.ok at hv
    rw [Tryz.underlying3] at hv
    have hcell : W.cell? ⟨0, 0, none⟩ = some cs[0] := by
      simp [World.cell?, hc, h0]
    rw [hcell]
    cases hx : cs[0] <;> rw [hx] at hv <;> simp at hv
    obtain ⟨rfl, _⟩ := hv
    exact ⟨_, rfl⟩
  · have hd : DataW.trod (fun _ => ()) Tryz.prog W 0 (fun _ => true) false f2 191 cs2.toList = some (Lib.tabData .u64 Lib.pow10Tab, p2) := a4
    have hc := Lib.cells_of_tab Tryz.underlying191 Tryz.underlying136 (by kernel_rfl) (by kernel_rfl) hd
    unfold Lib.TabIs
    rw [a3, ← hc]
def tabOf (d : DataW Unit) : Array Value := match d with
  | .agg l => (l.map fun x => match x with
    | .lit (.int k z) => Value.int k z
    | _ => .int .i64 0).toArray
  | _ => #[]
noncomputable def laidWorld (os : Os) : World :=
  let w0 := World.holding Tryz.prog os ⟨#[], #[], []⟩
  let put (g : Nat) (cs : Array Value) (h : Array Obj) : Array Obj := h.modify g fun
    | .cells _ t frozen => .cells cs t frozen
    | o => o
  { w0 with heap := ((put 1 (tabOf Rows.laid_internal_strconv_uint64pow10) <| put 5 (tabOf Rows.laid_math_bits_deBruijn32tab) <| put 6 (tabOf Rows.laid_math_bits_deBruijn64tab) <|
      put 2 #[.iface 257 (.agg #[.pointer (some ⟨7, 36, none⟩)])] <| put 4 #[.iface 307 (.pointer (some ⟨w0.heap.size, 0, none⟩))] <| put 3 #[.iface 307 (.pointer (some ⟨w0.heap.size + 1, 0, none⟩))] w0.heap).push
      (.cells #[.string ⟨#[118, 97, 108, 117, 101, 32, 111, 117, 116, 32, 111, 102, 32, 114, 97, 110, 103, 101]⟩] 309 (0, 0))).push (.cells #[.string ⟨#[105, 110, 118, 97, 108, 105, 100, 32, 115, 121, 110, 116, 97, 120]⟩] 309 (0, 0)) }
theorem laidWorld_met (os : Os) (args : Array Value) : laidMetH Tryz.prog laidL ((laidWorld os).forCall (fun _ _ => 0) ⟨#[], args, []⟩).memory :=
  laidMetH_of_parts (laidMet_of_run' 8 (by kernel_rfl) (by kernel_rfl)) (by kernel_rfl)
def wit : Array Value := #[.string ⟨#[]⟩, .string ⟨#[]⟩]
theorem reads (os : Os) {H : Type} (enc : TypeId × Value → H) : ∃ places, DataW.whole enc Tryz.prog ((laidWorld os).forCall (fun _ _ => 0) ⟨#[], wit, []⟩).memory Tryz.f3.params.toList Rows.deskPiecesSpec.vars false wit.toList 8 = some ([.lit (.string []), .lit (.string [])], [], places) :=
  ⟨[], by kernel_rfl⟩
theorem lifted (os : Os) (started : os.Started) (H : Type) (enc : TypeId × Value → H) (F : Stop.Interp) :
    ReturnsInHanded {} Tryz.checked os 3 .any ((OpenSpec.ofChange Rows.deskPiecesSpec).preRow enc Tryz.prog Tryz.f3 Rows.deskPiecesRow.domain false Rows.deskPiecesRow.laid) (((OpenSpec.ofChange Rows.deskPiecesSpec).at F).post enc Tryz.prog Tryz.f3 false true false false) := by
  obtain ⟨places, hx⟩ := reads os enc
  refine returnsInHanded_of_row (C := Tryz.checked) (s := OpenSpec.ofChange Rows.deskPiecesSpec) own started (by kernel_rfl) Tryz.func3
    (witness_row_atRef (enc := enc) (C := Tryz.checked) false (laidWorld os) wit rfl (by kernel_rfl) (by kernel_rfl) (by kernel_rfl)
      (OpenSpec.preRow_of_cond 8 hx (by kernel_rfl) (fun k hk => by cases hk) (by kernel_rfl) (laidWorld_met os _))) ?_
  intro W base args ds gs before hval0 hW _ _ hwt hL hsh _
  have hval : ∀ (j : Nat) t v, Tryz.f3.params[j]? = some t → args[j]? = some v → Value.okWide Tryz.prog W .any base t v := hval0
  have hW' := hW
  obtain ⟨p, q, hA0, hV0, rfl, hfz, hnd⟩ := hW
  have hA : DataW.TrodAll enc Tryz.prog W 0 (fun _ => true) true Tryz.f3.params.toList args.toList ds p := hA0
  have hV : DataW.TrodVars enc Tryz.prog W (fun _ => true) [] gs q := hV0
  rw [Tryz.params3] at hA hval
  obtain ⟨v0, v1, d0, d1, p0, p1, rfl, rfl, rfl, h0, h1⟩ := trodAll_two hA
  obtain ⟨rfl, rfl⟩ := trodVars_none hV
  obtain ⟨a0, rfl, rfl, rfl, w0⟩ := ChangeMaps.open_string Tryz.underlying9 (hval 0 9 v0 rfl rfl) h0
  obtain ⟨a1, rfl, rfl, rfl, w1⟩ := ChangeMaps.open_string Tryz.underlying9 (hval 1 9 v1 rfl rfl) h1
  clear hA0 hval0
  have hwt' : (DataW.weightsEach (H := H) Tryz.prog [9, 9] [.lit (.string a0.data.toList), .lit (.string a1.data.toList)]).all (· ≤ reachBytes) = true := hwt
  have k0 : a0.size ≤ 140737488355328 := by
    have := List.all_eq_true.1 hwt' a0.data.toList.length (by simp [DataW.weightsEach, DataW.weights])
    rw [size_list] at this
    exact Nat.le_trans (of_decide_eq_true this) (by decide)
  have k1 : a1.size ≤ 140737488355328 := by
    have := List.all_eq_true.1 hwt' a1.data.toList.length (by simp [DataW.weightsEach, DataW.weights])
    rw [size_list] at this
    exact Nat.le_trans (of_decide_eq_true this) (by decide)
  have hvd := vd_of_laid hL hsh
  refine (deskPieces_any a0 a1 k0 k1 W hvd).mono fun e W' ⟨he, hm⟩ => ?_
  subst he
  have bel : Below W.heap.size W W' := hm.below (Nat.le_refl _) (fun _ _ => id)
  exact ⟨_, rfl, _, _, _, [], _, [], hW', trodAll_mk1 (shut_bool Tryz.underlying4 _), trodAll_mk2 (ChangeMaps.shut_string Tryz.underlying9 w0) (ChangeMaps.shut_string Tryz.underlying9 w1), rfl, bel.frame _, fun h => by cases h⟩
theorem row_holds : Rows.DeskPiecesSaid :=
  OpenClaim.holds_of_cond 3 Tryz.f3 rfl rfl rfl rfl rfl rfl rfl ⟨rfl, rfl, rfl, rfl, rfl⟩ rfl rfl rfl rfl rfl (by kernel_rfl) Tryz.func3 (by kernel_rfl)
    (of_decide_eq_true (by kernel_rfl)) (by unfold Func.isWrapper; rw [if_neg (of_decide_eq_false (by kernel_rfl))]; exact ⟨rfl, rfl⟩)
    (fun os started H enc _ F => by rw [OpenClaim.pre_eq_preRow]; exact lifted os started H enc F)
theorem plainArgs (f : FuncId) (fn : Func) (hf : Tryz.pinned.checked.prog.funcNamed "chainmail/chainmailkeep.DeskPieces" = some f) (hfn : Tryz.pinned.checked.prog.funcs[f]? = some fn) :
    true = Tryz.pinned.checked.prog.looks [] ∧ ∀ (j : Nat) t, fn.params[j]? = some t → Tryz.pinned.checked.prog.wantsStandIn t = false := by
  obtain rfl : f = 3 := Option.some.inj ((show Tryz.prog.funcNamed "chainmail/chainmailkeep.DeskPieces" = some 3 by kernel_rfl).symm.trans hf) |>.symm
  obtain rfl : fn = Tryz.f3 := (Option.some.inj (Tryz.func3.symm.trans hfn)).symm
  refine ⟨by kernel_rfl, fun j t ht => ?_⟩
  rw [Tryz.params3] at ht
  have h2 : t = 9 := by simpa using Array.mem_of_getElem? ht
  subst h2
  exact (show Tryz.prog.wantsStandIn 9 = false by kernel_rfl)
theorem deskPieces_holds : Rows.DeskPiecesCardSaid :=
  Claim7.holds_tied_plain_at .later [] _ _ _ _ row_holds (fun _ h => by cases h) (by kernel_rfl) (fun _ h => by cases h) deskPieces_row_tie rfl ⟨rfl, rfl⟩ (by kernel_rfl) rfl plainArgs (by kernel_rfl)
#print axioms deskPieces_holds
end Go.Proofs.YtogaigioeohjaaaGreatDoor
