/- The law NetPlays: its pieces (blocks of the translation, taken out by a function), what holds behind one way. -/
import Derived.Test.YtdbbgfbcbfbihaaDoorNw2
import Derived.Test.YtdbbgfbcbfbihaaDoorFb
import Derived.Deep.CutBlock
namespace Go.Proofs.YtdbbgfbcbfbihaaDoor
open Go.RowKit Go.Lib Go.Maps

/-- The block of that number, out of a body. -/
def findBlock (n : Nat) : Code → Option Code
  | .block m c => if m == n then some (.block m c) else findBlock n c
  | .loop c => findBlock n c
  | .seq a b => match findBlock n a with
    | some c => some c
    | none => findBlock n b
  | .scope c => findBlock n c
  | .cond _ a b => match findBlock n a with
    | some c => some c
    | none => findBlock n b
  | _ => none
noncomputable def netSw : Code := (Tryd.f7.body.bind (findBlock 4)).getD .skip
noncomputable def netCmp : Code := (Tryd.f7.body.bind (findBlock 7)).getD .skip
noncomputable def netMain : Code := (Tryd.f7.body.bind (findBlock 2)).getD .skip
/-- How a piece may end: normally, with R; or the law returns true. -/
def netQ (w : World) (R : Act → World → Prop) : Exit → Act → World → Prop
  | .normal, a, wd => R a wd
  | .ret, a, wd => a.defers = [] ∧ a.tmps.getD 4 undef = .bool true ∧ Mod noBlock w wd
  | _, _, _ => False
/-- Both nets are in one state; what was lost and who is down is bounded. -/
def After (w : World) (lo : Int) (dn : Nat) (wd : World) : Prop :=
  ∃ (wv : Value) (mr : Option Nat) (lv dv : Value) (s : NetS), Two wd w.heap.size w.heap.size (w.heap.size + 1) wv mr lv dv s s ∧ clean s ∧ s.lost ≤ lo ∧ s.down.length ≤ dn ∧ Mod noBlock w wd
end Go.Proofs.YtdbbgfbcbfbihaaDoor
