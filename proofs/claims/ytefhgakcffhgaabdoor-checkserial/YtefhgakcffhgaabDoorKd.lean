/- Package check: what an operation told; operations are done. -/
import Derived.Test.YtefhgakcffhgaabDoorKb
namespace Go.Proofs.YtefhgakcffhgaabDoor
open Go.RowKit Go.Lib Go.Maps
set_option linter.unusedVariables false
theorem Tryd.info75 : (Tryd.prog.info? 75).map (fun i => (i.zero, i.size, i.bytes)) = some (some (.agg #[.string ByteArray.empty, .string ByteArray.empty, .bool false]), 3, 40) := by kernel_rfl

set_option maxRecDepth 100000 in
set_option maxHeartbeats 1000000 in
theorem told_any (o : OpD) (w : World) :
    Calls Tryd.prog 25 #[.agg #[.int .i64 o.kind, .string o.key, .string o.value, .bool o.found]] w fun e w' => e = .returned (valV (toldV o)) ∧ Mod noBlock w w' := by
  obtain ⟨kind, key, value, found⟩ := o
  have hM : ∀ a b : Obj, Mod noBlock w ((w.alloc a).alloc b) := fun a b => ((Mod.refl _ w).alloc _).alloc _
  cases found with
  | true =>
    go_enter Tryd.func25, Tryd.ntmps25
    go_wp2_with fail
    refine bodyPost_ret (results_cell_row rfl _ _ (w.heap.size + 1) _ _ _ _ rfl (heap_alloc2_new w _ _) Tryd.underlying72 rfl (by kernel_rfl)) rfl ?_
    exact ⟨rfl, hM _ _⟩
  | false =>
    go_enter Tryd.func25, Tryd.ntmps25
    go_wp2_with fail
    refine bodyPost_ret (results_cell_row rfl _ _ (w.heap.size + 1) _ _ _ _ rfl (heap_alloc2_new w _ _) Tryd.underlying72 rfl (by kernel_rfl)) rfl ?_
    exact ⟨rfl, hM _ _⟩
def undoCells : List (ByteArray × VD) → List Value
  | [] => []
  | u :: us => .string u.1 :: .string u.2.text :: .bool u.2.there :: undoCells us
theorem undoCells_len : ∀ us, (undoCells us).length = us.length * 3
  | [] => rfl
  | u :: us => by simp [undoCells, undoCells_len us]; omega
theorem undoCells_snoc : ∀ us u, undoCells (us ++ [u]) = undoCells us ++ [.string u.1, .string u.2.text, .bool u.2.there]
  | [], u => rfl
  | v :: us, u => by simp [undoCells, undoCells_snoc us u]
def okU (u : ByteArray × VD) : Prop := u.1.size ≤ maxLen ∧ okVD u.2
/-- What to undo, in a row of one's own. -/
def UndoP (w : World) (B : Nat) (v : Value) (us : List (ByteArray × VD)) : Prop := w.ownsRow B 75 3 v us.length (undoCells us) ∧ ∀ u ∈ us, okU u
theorem UndoP.nil (w : World) (B : Nat) : UndoP w B (.slice none 0 0) [] := ⟨World.ownsRow_nil _ _ _ _, by simp⟩
theorem UndoP.mod {G : Nat → Prop} {w w' : World} {B : Nat} {v : Value} {us : List (ByteArray × VD)} (h : UndoP w B v us) (hm : Mod G w w') (hG : ∀ k, v.ownBlock = some k → ¬ G k) : UndoP w' B v us := ⟨own_mod h.1 hm (fun k _ _ e => hG k e), h.2⟩
end Go.Proofs.YtefhgakcffhgaabDoor
