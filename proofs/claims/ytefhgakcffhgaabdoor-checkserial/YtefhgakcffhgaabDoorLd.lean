/- The document's Serial: a number behind an order, in memory. -/
import Derived.Test.YtefhgakcffhgaabDoorLc
import Derived.Test.YtefhgakcffhgaabDoorRc
namespace Go.Proofs.YtefhgakcffhgaabDoor
open Go.RowKit Go.Lib Go.Maps
set_option linter.unusedVariables false

theorem append_emptyI (g : Nat) (a : Option Addr) (c : Nat) (ty : TypeId) (w : World) : (Builtin.append_ #[26, 26] ty #[.slice (some ⟨g, 0, none⟩) 0 0, .slice a 0 c]).run Tryd.prog w = .ok (.slice (some ⟨g, 0, none⟩) 0 0) w := by
  cases a <;> kernel_rfl
/-- Numbers behind an empty row of one's own. -/
theorem copyI_run (W : World) (B g0 : Nat) (hE : W.ownsRow B 3 1 (.slice (some ⟨g0, 0, none⟩) 0 0) 0 []) (hB : B ≤ W.heap.size) (ns : List Int) (a : Option Addr) (cap : Nat) (hv : IntsV W (.slice a ns.length cap) ns) (hl : ns.length ≤ 1000) (ty : TypeId) :
    ∃ g c W', (Builtin.append_ #[26, 26] ty #[.slice (some ⟨g0, 0, none⟩) 0 0, .slice a ns.length cap]).run Tryd.prog W = .ok (.slice (some ⟨g, 0, none⟩) ns.length c) W' ∧ W'.ownsRow B 3 1 (.slice (some ⟨g, 0, none⟩) ns.length c) ns.length (ns.map (Value.int .i64)) ∧ Mod (oneBlock g0) W W' := by
  obtain ⟨i0, hi, hz0, hz1, hz2⟩ := info_parts Tryd.info3
  by_cases h0 : ns.length = 0
  · have hn : ns = [] := List.eq_nil_of_length_eq_zero h0
    subst hn
    exact ⟨g0, 0, W, append_emptyI g0 a cap ty W, hE, Mod.refl _ _⟩
  · obtain ⟨a', cap', e1, _, _, h4⟩ := hv
    simp only [Value.slice.injEq] at e1
    obtain ⟨rfl, _, rfl⟩ := e1
    rcases h4 with h4 | ⟨b, off, rfl, hc⟩
    · rw [h4] at h0; simp at h0
    obtain ⟨v', w', hr, hown, hgrow, hnil, _⟩ := run_append_own_at (P := Tryd.prog) W B 26 ty 3 i0 _ 1 8 Tryd.underlying26 hi hz0 hz1 hz2 rfl (by omega) _ _ _ hE ⟨b, off, none⟩ ns.length cap (ns.map (Value.int .i64)) (by simp) (fun j u hu => by
      rw [List.getElem?_map] at hu
      cases hj : ns[j]? with
      | none => rw [hj] at hu; cases hu
      | some x =>
        rw [hj] at hu
        simp only [Option.map_some, Option.some.injEq] at hu
        rw [← hu, Go.WideShapes.add_plain]
        exact hc j x hj) (fun u hu => by
      obtain ⟨x, _, rfl⟩ := List.mem_map.1 hu
      rfl) (by unfold maxLen; omega) (by omega) hB
    have hm : Mod (oneBlock g0) W w' := (Mod.refl _ W).grown hgrow (fun x hx _ => by simp [Value.ownBlock] at hx; simp only [oneBlock]; omega)
    simp only [Nat.zero_add, List.nil_append] at hown
    rcases hown.2 with ⟨_, e⟩ | ⟨g, c, cur, rfl, _⟩
    · exact absurd e h0
    · exact ⟨g, c, w', hr, hown, hm⟩
/-- One number more. -/
theorem snocI_run (W : World) (B g n c g1 : Nat) (xs : List Value) (k : Int) (hR : W.ownsRow B 3 1 (.slice (some ⟨g, 0, none⟩) n c) n xs) (hB : B ≤ W.heap.size) (hc : W.cell? ⟨g1, 0, none⟩ = some (.int .i64 k)) (hn : n ≤ 1000) (ty : TypeId) :
    ∃ a8 c8 W8, (Builtin.append_ #[26, 26] ty #[.slice (some ⟨g, 0, none⟩) n c, .slice (some ⟨g1, 0, none⟩) 1 1]).run Tryd.prog W = .ok (.slice a8 (n + 1) c8) W8 ∧ W8.ownsRow B 3 1 (.slice a8 (n + 1) c8) (n + 1) (xs ++ [.int .i64 k]) ∧ Mod (oneBlock g) W W8 := by
  obtain ⟨i0, hi, hz0, hz1, hz2⟩ := info_parts Tryd.info3
  obtain ⟨v', w', hr, hown, hgrow, _, _⟩ := run_append_own_at (P := Tryd.prog) W B 26 ty 3 i0 _ 1 8 Tryd.underlying26 hi hz0 hz1 hz2 rfl (by omega) _ _ _ hR ⟨g1, 0, none⟩ 1 1 [.int .i64 k] rfl (fun j u hu => by
    match j, hu with
    | 0, hu => simp at hu; subst hu; rw [Go.WideShapes.add_plain]; exact hc
    | j + 1, hu => simp at hu) (fun u hu => by simp at hu; subst hu; rfl) (by unfold maxLen; omega) (by omega) hB
  obtain ⟨a8, c8, rfl⟩ := own_slice hown
  exact ⟨a8, c8, w', hr, hown, (Mod.refl _ W).grown hgrow (fun x hx _ => by simp [Value.ownBlock] at hx; simp only [oneBlock]; omega)⟩
theorem exec_append {P : Program} {w w' : World} {o : Oper} {a : Act} {s x : Operand} {t : TypeId} {vs vx v : Value} (ho : o.op = .call { callee := .builtin .append, args := #[s, x], argTypes := #[t, t] }) (hs : a.eval s = vs) (hx : a.eval x = vx)
    (hr : (Builtin.append_ #[t, t] o.type #[vs, vx]).run P w = .ok v w') : (execOp a.eval o).run P w = .ok (.value v) w' := by
  simp only [execOp, ho, resolve, invoke, builtin, Sem.run_bind, Sem.run_pure, Result.andThen_ok, List.map_toArray, List.map_cons, List.map_nil, hs, hx, hr]
/-- The order and one more, whichever of the two rows is laid first. -/
structure Built (wk W : World) (v : Value) (o : List Nat) (k : Nat) : Prop where
  ints : IntsV W v (ordI (o ++ [k]))
  mod : Mod noBlock wk W
theorem built_of {wk W : World} {B : Nat} {v : Value} {o : List Nat} {k : Nat} (h : W.ownsRow B 3 1 v ((ordI o).length + 1) ((ordI o).map (Value.int .i64) ++ [.int .i64 (k : Int)])) (hm : Mod noBlock wk W) : Built wk W v o k := by
  have e : ordI (o ++ [k]) = ordI o ++ [(k : Int)] := by simp [ordI]
  refine ⟨?_, hm⟩
  rw [e]
  refine IntsV.of_own (B := B) ?_
  simpa using h
/-- First the empty row, then the copy, then the one. -/
theorem built_1 (wk : World) (o : List Nat) (k : Nat) (a : Option Addr) (cap : Nat) (hv : IntsV wk (.slice a (ordI o).length cap) (ordI o)) (hl : o.length ≤ 8) (g0 : Nat) (W : World) (B : Nat) (hW : Mod noBlock wk W) (hE : W.ownsRow B 3 1 (.slice (some ⟨g0, 0, none⟩) 0 0) 0 []) (hB : B ≤ W.heap.size) (hkB : wk.heap.size ≤ B) (ty ty' : TypeId) :
    ∃ g c W5 a8 c8 W8, (Builtin.append_ #[26, 26] ty #[.slice (some ⟨g0, 0, none⟩) 0 0, .slice a (ordI o).length cap]).run Tryd.prog W = .ok (.slice (some ⟨g, 0, none⟩) (ordI o).length c) W5 ∧ Mod noBlock wk W5 ∧
      (Builtin.append_ #[26, 26] ty' #[.slice (some ⟨g, 0, none⟩) (ordI o).length c, .slice (some ⟨W5.heap.size, 0, none⟩) 1 1]).run Tryd.prog (W5.alloc (.cells #[.int .i64 (k : Int)] 3)) = .ok (.slice a8 ((ordI o).length + 1) c8) W8 ∧ Built wk W8 (.slice a8 ((ordI o).length + 1) c8) o k := by
  have hol := ordI_len o
  obtain ⟨g, c, W5, r5, o5, m5⟩ := copyI_run W B g0 hE hB (ordI o) a cap (hv.mod hW) (by omega) ty
  have hg0 := own_cells hE (k := g0) rfl
  have hm5 : Mod noBlock wk W5 := hW.trans' m5 (fun i hi e => by simp only [oneBlock] at e; omega)
  have hz5 := m5.size
  have hg := own_cells o5 (k := g) rfl
  obtain ⟨a8, c8, W8, r8, o8, m8⟩ := snocI_run (W5.alloc (.cells #[.int .i64 (k : Int)] 3)) B g _ c W5.heap.size _ (k : Int) (o5.alloc _) (by simp; omega) ((Blk.new W5 [.int .i64 (k : Int)] 3).cell 0 rfl) (by omega) ty'
  exact ⟨g, c, W5, a8, c8, W8, r5, hm5, r8, built_of o8 ((hm5.alloc _).trans' m8 (fun i hi e => by simp only [oneBlock] at e; omega))⟩
/-- First the empty row, then the one, then the copy; or first the one. -/
theorem built_2 (wk : World) (o : List Nat) (k : Nat) (a : Option Addr) (cap : Nat) (hv : IntsV wk (.slice a (ordI o).length cap) (ordI o)) (hl : o.length ≤ 8) (g0 g1 : Nat) (W : World) (B : Nat) (hW : Mod noBlock wk W) (hE : W.ownsRow B 3 1 (.slice (some ⟨g0, 0, none⟩) 0 0) 0 []) (hB : B ≤ W.heap.size) (hkB : wk.heap.size ≤ B) (hc : W.cell? ⟨g1, 0, none⟩ = some (.int .i64 (k : Int))) (hne : g1 ≠ g0) (ty ty' : TypeId) :
    ∃ g c W5 a8 c8 W8, (Builtin.append_ #[26, 26] ty #[.slice (some ⟨g0, 0, none⟩) 0 0, .slice a (ordI o).length cap]).run Tryd.prog W = .ok (.slice (some ⟨g, 0, none⟩) (ordI o).length c) W5 ∧ Mod noBlock wk W5 ∧
      (Builtin.append_ #[26, 26] ty' #[.slice (some ⟨g, 0, none⟩) (ordI o).length c, .slice (some ⟨g1, 0, none⟩) 1 1]).run Tryd.prog W5 = .ok (.slice a8 ((ordI o).length + 1) c8) W8 ∧ Built wk W8 (.slice a8 ((ordI o).length + 1) c8) o k := by
  have hol := ordI_len o
  obtain ⟨g, c, W5, r5, o5, m5⟩ := copyI_run W B g0 hE hB (ordI o) a cap (hv.mod hW) (by omega) ty
  have hg0 := own_cells hE (k := g0) rfl
  have hm5 : Mod noBlock wk W5 := hW.trans' m5 (fun i hi e => by simp only [oneBlock] at e; omega)
  have hg := own_cells o5 (k := g) rfl
  obtain ⟨a8, c8, W8, r8, o8, m8⟩ := snocI_run W5 B g _ c g1 _ (k : Int) o5 (Nat.le_trans hB m5.size) (m5.cell hc (by simp only [oneBlock]; exact hne)) (by omega) ty'
  exact ⟨g, c, W5, a8, c8, W8, r5, hm5, r8, built_of o8 (hm5.trans' m8 (fun i hi e => by simp only [oneBlock] at e; omega))⟩
theorem begin_1 (wk : World) : Mod noBlock wk (wk.alloc (.cells #[] 3)).drew ∧ (wk.alloc (.cells #[] 3)).drew.ownsRow wk.heap.size 3 1 (.slice (some ⟨wk.heap.size, 0, none⟩) 0 0) 0 [] ∧ wk.heap.size ≤ (wk.alloc (.cells #[] 3)).drew.heap.size :=
  ⟨((Mod.refl _ wk).alloc _).drew, own_mod (row_empty wk _ _) ((Mod.refl noBlock _).drew) (fun _ _ _ _ => id), (((Mod.refl noBlock wk).alloc (.cells #[] 3)).drew).size⟩
theorem begin_2 (wk : World) (k : Int) : Mod noBlock wk ((wk.alloc (.cells #[] 3)).alloc (.cells #[.int .i64 k] 3)).drew ∧ ((wk.alloc (.cells #[] 3)).alloc (.cells #[.int .i64 k] 3)).drew.ownsRow wk.heap.size 3 1 (.slice (some ⟨wk.heap.size, 0, none⟩) 0 0) 0 [] ∧ wk.heap.size ≤ ((wk.alloc (.cells #[] 3)).alloc (.cells #[.int .i64 k] 3)).drew.heap.size ∧ ((wk.alloc (.cells #[] 3)).alloc (.cells #[.int .i64 k] 3)).drew.cell? ⟨wk.heap.size + 1, 0, none⟩ = some (.int .i64 k) := by
  have h := (Blk.new (wk.alloc (.cells #[] 3)) [.int .i64 k] 3).cell 0 rfl
  rw [World.size_alloc] at h
  exact ⟨(((Mod.refl _ wk).alloc _).alloc _).drew, own_mod (row_empty wk _ _) (((Mod.refl noBlock _).alloc _).drew) (fun _ _ _ _ => id), ((((Mod.refl noBlock wk).alloc (.cells #[] 3)).alloc (.cells #[.int .i64 k] 3)).drew).size, h⟩
theorem begin_3 (wk : World) (k : Int) : Mod noBlock wk ((wk.alloc (.cells #[.int .i64 k] 3)).alloc (.cells #[] 3)).drew ∧ ((wk.alloc (.cells #[.int .i64 k] 3)).alloc (.cells #[] 3)).drew.ownsRow (wk.heap.size + 1) 3 1 (.slice (some ⟨wk.heap.size + 1, 0, none⟩) 0 0) 0 [] ∧ wk.heap.size + 1 ≤ ((wk.alloc (.cells #[.int .i64 k] 3)).alloc (.cells #[] 3)).drew.heap.size ∧ ((wk.alloc (.cells #[.int .i64 k] 3)).alloc (.cells #[] 3)).drew.cell? ⟨wk.heap.size, 0, none⟩ = some (.int .i64 k) := by
  have h := row_empty (wk.alloc (.cells #[.int .i64 k] 3)) 3 1
  rw [World.size_alloc] at h
  have hz := (((Mod.refl noBlock (wk.alloc (.cells #[.int .i64 k] 3))).alloc (.cells #[] 3)).drew).size
  rw [World.size_alloc] at hz
  exact ⟨(((Mod.refl _ wk).alloc _).alloc _).drew, own_mod h ((Mod.refl noBlock _).drew) (fun _ _ _ _ => id), hz, (((Mod.refl noBlock (wk.alloc (.cells #[.int .i64 k] 3))).alloc (.cells #[] 3)).drew).cell ((Blk.new wk [.int .i64 k] 3).cell 0 rfl) id⟩
end Go.Proofs.YtefhgakcffhgaabDoor
