/- Histories in rows of one's own: operations, transactions. -/
import Derived.Test.YtefhgakcffhgaabDoorKa
import Derived.Test.YtefhgakcffhgaabDoorKz
namespace Go.Proofs.YtefhgakcffhgaabDoor
open Go.RowKit Go.Lib Go.Maps

def opCells (o : OpD) : List Value := [.int .i64 o.kind, .string o.key, .string o.value, .bool o.found]
def opsCells : List OpD → List Value
  | [] => []
  | o :: os => opCells o ++ opsCells os
theorem opsCells_len : ∀ os, (opsCells os).length = os.length * 4
  | [] => rfl
  | o :: os => by simp [opsCells, opCells, opsCells_len os]; omega
theorem opsCells_snoc : ∀ os o, opsCells (os ++ [o]) = opsCells os ++ opCells o
  | [], o => by simp [opsCells]
  | p :: os, o => by simp [opsCells, opsCells_snoc os o]
theorem opsCells_cell : ∀ (os : List OpD) (i : Nat) (o : OpD), os[i]? = some o → ∀ j x, (opCells o)[j]? = some x → (opsCells os)[i * 4 + j]? = some x
  | [], i, o, h, _, _, _ => by simp at h
  | p :: os, 0, o, h, j, x, hx => by
    simp at h
    subst h
    have hj : j < (opCells p).length := (List.getElem?_eq_some_iff.1 hx).1
    rw [opsCells, Nat.zero_mul, Nat.zero_add, List.getElem?_append_left hj]
    exact hx
  | p :: os, i + 1, o, h, j, x, hx => by
    have ih := opsCells_cell os i o (by simpa using h) j x hx
    have hl : (opCells p).length = 4 := rfl
    rw [opsCells, List.getElem?_append_right (by omega), hl, show (i + 1) * 4 + j - 4 = i * 4 + j by omega]
    exact ih
def okOp (o : OpD) : Prop := o.key.size ≤ maxLen ∧ o.value.size ≤ maxLen
/-- Operations in a row of one's own; t: which package's. -/
def RowO (t : TypeId) (w : World) (B : Nat) (v : Value) (os : List OpD) : Prop := w.ownsRow B t 4 v os.length (opsCells os) ∧ ∀ o ∈ os, okOp o
theorem RowO.toV {t : TypeId} {w : World} {B L : Nat} {v : Value} {os : List OpD} (h : RowO t w B v os) (hL : w.heap.size ≤ L) : OpsV w L v os := by
  obtain ⟨⟨h1, h2⟩, h3⟩ := h
  rcases h2 with ⟨rfl, hn⟩ | ⟨g, cap, cur, rfl, q1, q2, q3, q4, q5, q6⟩
  · have : os = [] := List.eq_nil_of_length_eq_zero hn
    subst this
    exact SlR.nil _ _ _ _
  · have hc : w.ownsRow B t 4 (.slice (some ⟨g, 0, none⟩) os.length cap) os.length (opsCells os) := ⟨h1, .inr ⟨g, cap, cur, rfl, q1, q2, q3, q4, q5, q6⟩⟩
    have hcl := hc.cells (g := g) rfl
    have hgl : g < w.heap.size := (Array.getElem?_eq_some_iff.1 q2).1
    refine ⟨_, cap, rfl, q3, q4, .inr ⟨g, 0, rfl, by omega, fun i o hi => ⟨opCells o, ⟨rfl, h3 o (List.mem_of_getElem? hi)⟩, rfl, fun j x hx => ?_⟩⟩⟩
    have := hcl _ _ (opsCells_cell os i o hi j x hx)
    rw [Go.WideShapes.add_plain, Nat.zero_add] at this
    rw [Nat.zero_add]
    exact this
theorem RowO.mod {t : TypeId} {G : Nat → Prop} {w w' : World} {B : Nat} {v : Value} {os : List OpD} (h : RowO t w B v os) (hm : Mod G w w') (hG : ∀ k, v.ownBlock = some k → ¬ G k) : RowO t w' B v os := ⟨own_mod h.1 hm (fun k _ _ e => hG k e), h.2⟩
def txCells (t : TxD) (v : Value) : List Value := [v, .int .i64 t.frm, .int .i64 t.til]
def txsCells : List TxD → List Value → List Value
  | t :: ts, v :: vs => txCells t v ++ txsCells ts vs
  | _, _ => []
theorem txsCells_len : ∀ (ts : List TxD) (vs : List Value), vs.length = ts.length → (txsCells ts vs).length = ts.length * 3
  | [], [], _ => rfl
  | [], _ :: _, h => by simp at h
  | _ :: _, [], h => by simp at h
  | t :: ts, v :: vs, h => by simp [txsCells, txCells, txsCells_len ts vs (by simpa using h)]; omega
theorem txsCells_snoc : ∀ (ts : List TxD) (vs : List Value) (t : TxD) (v : Value), vs.length = ts.length → txsCells (ts ++ [t]) (vs ++ [v]) = txsCells ts vs ++ txCells t v
  | [], [], t, v, _ => by simp [txsCells]
  | [], _ :: _, _, _, h => by simp at h
  | _ :: _, [], _, _, h => by simp at h
  | p :: ts, q :: vs, t, v, h => by simp [txsCells, txsCells_snoc ts vs t v (by simpa using h)]
theorem txsCells_cell : ∀ (ts : List TxD) (vs : List Value) (i : Nat) (t : TxD) (v : Value), vs.length = ts.length → ts[i]? = some t → vs[i]? = some v → ∀ j x, (txCells t v)[j]? = some x → (txsCells ts vs)[i * 3 + j]? = some x
  | [], _, _, _, _, _, h, _, _, _, _ => by simp at h
  | _ :: _, [], _, _, _, h, _, _, _, _, _ => by simp at h
  | p :: ts, q :: vs, 0, t, v, _, h, h', j, x, hx => by
    simp at h h'
    subst h h'
    have hj : j < (txCells p q).length := (List.getElem?_eq_some_iff.1 hx).1
    rw [txsCells, Nat.zero_mul, Nat.zero_add, List.getElem?_append_left hj]
    exact hx
  | p :: ts, q :: vs, i + 1, t, v, hl, h, h', j, x, hx => by
    have ih := txsCells_cell ts vs i t v (by simpa using hl) (by simpa using h) (by simpa using h') j x hx
    have hl : (txCells p q).length = 3 := rfl
    rw [txsCells, List.getElem?_append_right (by omega), hl, show (i + 1) * 3 + j - 3 = i * 3 + j by omega]
    exact ih
/-- Transactions in a row of one's own; their operations lie where the slices vs say. -/
def RowX (ty : TypeId) (w : World) (B : Nat) (v : Value) (ts : List TxD) (vs : List Value) : Prop := vs.length = ts.length ∧ w.ownsRow B ty 3 v ts.length (txsCells ts vs)
theorem RowX.toV {ty : TypeId} {w : World} {B L : Nat} {v : Value} {ts : List TxD} {vs : List Value} (h : RowX ty w B v ts vs) (hL : w.heap.size ≤ L) (hv : ∀ (i : Nat) t u, ts[i]? = some t → vs[i]? = some u → OpsV w L u t.ops ∧ int64 t.frm ∧ int64 t.til) : TxsV w L v ts := by
  obtain ⟨h0, h1, h2⟩ := h
  rcases h2 with ⟨rfl, hn⟩ | ⟨g, cap, cur, rfl, q1, q2, q3, q4, q5, q6⟩
  · have : ts = [] := List.eq_nil_of_length_eq_zero hn
    subst this
    exact SlR.nil _ _ _ _
  · have hc : w.ownsRow B ty 3 (.slice (some ⟨g, 0, none⟩) ts.length cap) ts.length (txsCells ts vs) := ⟨h1, .inr ⟨g, cap, cur, rfl, q1, q2, q3, q4, q5, q6⟩⟩
    have hcl := hc.cells (g := g) rfl
    have hgl : g < w.heap.size := (Array.getElem?_eq_some_iff.1 q2).1
    refine ⟨_, cap, rfl, q3, q4, .inr ⟨g, 0, rfl, by omega, fun i t hi => ?_⟩⟩
    have hil : i < vs.length := by rw [h0]; exact (List.getElem?_eq_some_iff.1 hi).1
    obtain ⟨u, hu⟩ : ∃ u, vs[i]? = some u := ⟨_, List.getElem?_eq_getElem hil⟩
    obtain ⟨k1, k2, k3⟩ := hv i t u hi hu
    refine ⟨txCells t u, ⟨u, rfl, k1, k2, k3⟩, rfl, fun j x hx => ?_⟩
    have := hcl _ _ (txsCells_cell ts vs i t u h0 hi hu j x hx)
    rw [Go.WideShapes.add_plain, Nat.zero_add] at this
    rw [Nat.zero_add]
    exact this
theorem RowX.mod {ty : TypeId} {G : Nat → Prop} {w w' : World} {B : Nat} {v : Value} {ts : List TxD} {vs : List Value} (h : RowX ty w B v ts vs) (hm : Mod G w w') (hG : ∀ k, v.ownBlock = some k → ¬ G k) : RowX ty w' B v ts vs := ⟨h.1, own_mod h.2 hm (fun k _ _ e => hG k e)⟩
end Go.Proofs.YtefhgakcffhgaabDoor
