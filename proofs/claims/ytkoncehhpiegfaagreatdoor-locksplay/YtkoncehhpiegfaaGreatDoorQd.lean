/- Package locks: a copy of claims. -/
import Derived.Test.YtkoncehhpiegfaaGreatDoorQc
import Derived.Lib.SliceRun
namespace Go.Proofs.YtkoncehhpiegfaaGreatDoor
open Go.RowKit Go.Lib Go.Maps
set_option linter.unusedVariables false

theorem row_emptyQ (w : World) (e : TypeId) (sz : Nat) : (w.alloc (.cells #[] e)).ownsRow w.heap.size e sz (.slice (some ⟨w.heap.size, 0, none⟩) 0 0) 0 [] :=
  ⟨by simp, .inr ⟨w.heap.size, 0, #[], rfl, Nat.le_refl _, heap_alloc_new w _, Nat.le_refl _, by unfold maxLen; omega, by simp, by simp⟩⟩
/-- A given list behind an empty one of one's own. -/
theorem wpList_copyQ {w0 : World} {ops : Array Oper} {rest : List Oper} {o : Oper} {a : Act} {Q : Exit → Act → World → Prop} (hgd : o.guard = none) (s x : Operand) (t : TypeId)
    (ho : o.op = .call { callee := .builtin .append, args := #[s, x], argTypes := #[t, t] })
    (e : TypeId) (i : TypeInfo) (z : Value) (size bytes : Nat) (ht : Tryz.prog.underlying t = some (.slice e)) (hi : Tryz.prog.info? e = some i) (hz : i.zero = some z)
    (hsize : i.size = size) (hby : i.bytes = bytes) (hzs : z.cells.size = size) (hsz : 0 < size)
    (hnil : ∀ (g : Nat) (a : Option Addr) (c : Nat) (ty : TypeId) (w : World), (Builtin.append_ #[t, t] ty #[.slice (some ⟨g, 0, none⟩) 0 0, .slice a 0 c]).run Tryz.prog w = .ok (.slice (some ⟨g, 0, none⟩) 0 0) w)
    (hs : a.eval s = .slice (some ⟨w0.heap.size, 0, none⟩) 0 0)
    (ad : Option Addr) (m c : Nat) (news : List Value) (hx : a.eval x = .slice ad m c) (hl : news.length = m * size) (hnews : m = 0 ∨ ∃ p, ad = some p ∧ ∀ j u, news[j]? = some u → w0.cell? (p.add j) = some u) (h1 : ∀ u ∈ news, u.oneCell' = true)
    (h63 : m ≤ maxLen) (hbytes : m * bytes ≤ 140737488355328)
    (h : ∀ (g cap : Nat) w', w'.ownsRow w0.heap.size e size (.slice (some ⟨g, 0, none⟩) m cap) m news → Mod noBlock w0 w' → wpList Tryz.prog ops Q rest (a.put o.dst (.slice (some ⟨g, 0, none⟩) m cap)) w') :
    wpList Tryz.prog ops Q (o :: rest) a (w0.alloc (.cells #[] e)) := by
  have hm0 : Mod noBlock w0 (w0.alloc (.cells #[] e)) := (Mod.refl _ w0).alloc _
  by_cases hm : m = 0
  · subst hm
    have hn : news = [] := List.eq_nil_of_length_eq_zero (by simpa using hl)
    subst hn
    refine wpList_plain hgd fun K hK => ?_
    have hr := hnil w0.heap.size ad c o.type (w0.alloc (.cells #[] e))
    unfold Oper.wp execOp
    simp only [ho, resolve, invoke, builtin, Sem.run_bind, Sem.run_pure, Result.andThen_ok, List.map_toArray, List.map_cons, List.map_nil, hs, hx, hr]
    exact hK _ _ (h _ _ _ (row_emptyQ w0 e size) hm0)
  · obtain ⟨p, rfl, hc⟩ := hnews.resolve_left hm
    refine wpList_append_own _ hgd s x t ho w0.heap.size e i z size bytes ht hi hz hsize hby hzs hsz _ 0 [] hs (row_emptyQ w0 e size) p m c news hx hl (fun j u hu => hm0.cell (hc j u hu) id) h1 (by omega) (by rw [Nat.zero_add]; exact hbytes) (by simp) ?_
    intro v' w' hown hgrow hne
    have hm1 : Mod noBlock w0 w' := hm0.grown hgrow (fun x hx hlt => by simp [Value.ownBlock] at hx; omega)
    simp only [Nat.zero_add, List.nil_append] at hown
    rcases hown.2 with ⟨e0, e1⟩ | ⟨g, cap, cur, rfl, _⟩
    · exact absurd e1 hm
    · exact h g cap w' hown hm1
theorem append_emptyVQ (g : Nat) (a : Option Addr) (c : Nat) (ty : TypeId) (w : World) : (Builtin.append_ #[57, 57] ty #[.slice (some ⟨g, 0, none⟩) 0 0, .slice a 0 c]).run Tryz.prog w = .ok (.slice (some ⟨g, 0, none⟩) 0 0) w := by
  cases a <;> kernel_rfl
theorem clmsCells_inv : ∀ (os : List ClmD) (j : Nat) (x : Value), (clmsCells os)[j]? = some x → ∃ (i r : Nat) (o : ClmD), j = i * 2 + r ∧ os[i]? = some o ∧ (clmCells o)[r]? = some x := fun os j x h => by
  have hj : j < os.length * 2 := by rw [← clmsCells_len]; exact (List.getElem?_eq_some_iff.1 h).1
  have hi : j / 2 < os.length := by omega
  have hr : j % 2 < (clmCells os[j / 2]).length := by show j % 2 < 2; omega
  have h1 := clmsCells_cell os (j / 2) os[j / 2] (List.getElem?_eq_getElem hi) (j % 2) _ (List.getElem?_eq_getElem hr)
  rw [show j / 2 * 2 + j % 2 = j by omega, h] at h1
  simp only [Option.some.injEq] at h1
  exact ⟨j / 2, j % 2, os[j / 2], by omega, List.getElem?_eq_getElem hi, by rw [h1]; exact List.getElem?_eq_getElem hr⟩
set_option maxRecDepth 100000 in
/-- A copy of a list that lies somewhere. -/
theorem cloneQ_any (p : Addr) (m c : Nat) (l : List ClmD) (w : World) (hm : m = l.length) (hc : ∀ (j : Nat) u, (clmsCells l)[j]? = some u → w.cell? (p.add j) = some u) (hl : l.length ≤ 1000) :
    Calls Tryz.prog 42 #[.slice (some p) m c] w fun e w' => ∃ g cap, e = .returned (.slice (some ⟨g, 0, none⟩) m cap) ∧ w'.ownsRow w.heap.size 61 2 (.slice (some ⟨g, 0, none⟩) m cap) m (clmsCells l) ∧ Mod noBlock w w' := by
  obtain ⟨i0, hi, hz0, hz1, hz2⟩ := info_parts Tryz.info61
  have h63 : m ≤ maxLen := by unfold maxLen; omega
  have h47 : m * 16 ≤ 140737488355328 := by omega
  have HLC : Hid ((clmsCells l).length = m * 2) := by rw [hm]; exact clmsCells_len l
  have HFL : Hid (m = 0 ∨ ∃ q, some p = some q ∧ ∀ (j : Nat) u, (clmsCells l)[j]? = some u → w.cell? (q.add j) = some u) := .inr ⟨p, rfl, hc⟩
  have HON := Hid.mkq (clmsCells_one l)
  have hen := run_eql_slice_nil (P := Tryz.prog) w 57 61 (some p) m c 0 0 Tryz.underlying57
  clear hc hm
  go_enter Tryz.func42, Tryz.ntmps42
  go_wp2_with (first
    | (at_builtin; (refine wpList_copyQ (w0 := w) rfl _ _ 57 rfl 61 i0 _ 2 16 Tryz.underlying57 hi hz0 hz1 hz2 rfl (by omega) append_emptyVQ rfl (some p) m c (clmsCells l) rfl HLC.out HFL.out HON.out h63 h47 ?_))
    | fail)
  intro g cap w2 hrow hm2
  go_wp2_with fail
  go_ret
  exact ⟨g, cap, rfl, hrow, hm2⟩
end Go.Proofs.YtkoncehhpiegfaaGreatDoor
