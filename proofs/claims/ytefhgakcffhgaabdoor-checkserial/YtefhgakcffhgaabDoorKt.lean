/- The law CheckFits: rows turned, and what transactions made. -/
import Derived.Test.YtefhgakcffhgaabDoorKr
import Derived.Test.YtefhgakcffhgaabDoorKs
import Derived.Test.YtefhgakcffhgaabDoorKp
import Derived.Test.YtefhgakcffhgaabDoorKq
namespace Go.Proofs.YtefhgakcffhgaabDoor
open Go.RowKit Go.Lib Go.Maps
set_option linter.unusedVariables false

theorem rowset {w : World} {L : Nat} {e : TypeId} {sz b n cap : Nat} {xs : List Value} (h : w.ownsRow L e sz (.slice (some ⟨b, 0, none⟩) n cap) n xs) (i : Nat) (u : Value) : (w.setCell ⟨b, i, none⟩ u).ownsRow L e sz (.slice (some ⟨b, 0, none⟩) n cap) n (xs.set i u) := by
  refine ⟨by rw [List.length_set]; exact h.1, ?_⟩
  rcases h.2 with ⟨h0, _⟩ | ⟨g, cap', cur, hv, h1, hg, h2, h3, h4, h5⟩
  · cases h0
  · simp only [Value.slice.injEq, Option.some.injEq, Addr.mk.injEq] at hv
    obtain ⟨⟨rfl, _⟩, _, rfl⟩ := hv
    refine .inr ⟨b, cap, cur.setIfInBounds i u, rfl, h1, ?_, h2, h3, by simpa using h4, ?_⟩
    · simp [World.setCell, Array.getElem?_modify, hg]
    · rw [Array.toList_setIfInBounds, List.take_set, h5]
theorem opsCells_set : ∀ (os : List OpD) (k : Nat) (o : OpD) (v : ByteArray) (f : Bool), os[k]? = some o → ((opsCells os).set (k * 4 + 2) (.string v)).set (k * 4 + 3) (.bool f) = opsCells (os.set k ⟨o.kind, o.key, v, f⟩)
  | [], k, o, v, f, h => by simp at h
  | p :: os, 0, o, v, f, h => by
    simp at h
    subst h
    rfl
  | p :: os, k + 1, o, v, f, h => by
    have ih := opsCells_set os k o v f (by simpa using h)
    rw [List.set_cons_succ, opsCells, opsCells, ← ih, show (k + 1) * 4 + 2 = k * 4 + 2 + 1 + 1 + 1 + 1 by omega, show (k + 1) * 4 + 3 = k * 4 + 3 + 1 + 1 + 1 + 1 by omega]
    rfl
theorem txsCells_setOps : ∀ (ts : List TxD) (vs : List Value) (i : Nat) (t : TxD) (os : List OpD) (v : Value), vs.length = ts.length → ts[i]? = some t → (txsCells ts vs).set (i * 3) v = txsCells (ts.set i ⟨os, t.frm, t.til⟩) (vs.set i v)
  | [], _, _, _, _, _, _, h => by simp at h
  | _ :: _, [], _, _, _, _, h, _ => by simp at h
  | p :: ts, q :: vs, 0, t, os, v, _, h => by
    simp at h
    subst h
    rfl
  | p :: ts, q :: vs, i + 1, t, os, v, hl, h => by
    have ih := txsCells_setOps ts vs i t os v (by simpa using hl) (by simpa using h)
    rw [List.set_cons_succ, List.set_cons_succ, txsCells, txsCells, ← ih, show (i + 1) * 3 = i * 3 + 1 + 1 + 1 by omega]
    rfl
theorem txsCells_setEnds : ∀ (ts : List TxD) (vs : List Value) (i : Nat) (os : List OpD) (f u : Int), vs.length = ts.length → i < ts.length → ((txsCells ts vs).set (i * 3 + 1) (.int .i64 f)).set (i * 3 + 2) (.int .i64 u) = txsCells (ts.set i ⟨os, f, u⟩) vs
  | [], _, _, _, _, _, _, h => by simp at h
  | _ :: _, [], _, _, _, _, h, _ => by simp at h
  | p :: ts, q :: vs, 0, os, f, u, _, h => rfl
  | p :: ts, q :: vs, i + 1, os, f, u, hl, h => by
    have ih := txsCells_setEnds ts vs i os f u (by simpa using hl) (by simpa using h)
    rw [List.set_cons_succ, txsCells, txsCells, ← ih, show (i + 1) * 3 + 1 = i * 3 + 1 + 1 + 1 + 1 by omega, show (i + 1) * 3 + 2 = i * 3 + 2 + 1 + 1 + 1 by omega]
    rfl
theorem txsCells_ops : ∀ (ts : List TxD) (vs : List Value) (i : Nat) (os os' : List OpD) (f u : Int), txsCells (ts.set i ⟨os, f, u⟩) vs = txsCells (ts.set i ⟨os', f, u⟩) vs
  | [], _, _, _, _, _, _ => rfl
  | _ :: _, [], 0, _, _, _, _ => rfl
  | _ :: _, [], _ + 1, _, _, _, _ => rfl
  | p :: ts, q :: vs, 0, os, os', f, u => rfl
  | p :: ts, q :: vs, i + 1, os, os', f, u => by
    rw [List.set_cons_succ, List.set_cons_succ, txsCells, txsCells, txsCells_ops ts vs i os os' f u]
theorem RowX.ops {ty : TypeId} {w : World} {B : Nat} {v : Value} {ts : List TxD} {vs : List Value} {i : Nat} {os os' : List OpD} {f u : Int} (h : RowX ty w B v (ts.set i ⟨os, f, u⟩) vs) : RowX ty w B v (ts.set i ⟨os', f, u⟩) vs := by
  obtain ⟨h1, h2⟩ := h
  rw [txsCells_ops ts vs i os os' f u] at h2
  simp only [List.length_set] at h1 h2
  exact ⟨by simpa using h1, by simpa using h2⟩
theorem RowX.setOps {ty : TypeId} {w : World} {B b n cap : Nat} {ts : List TxD} {vs : List Value} {i : Nat} {t : TxD} (h : RowX ty w B (.slice (some ⟨b, 0, none⟩) n cap) ts vs) (hn : n = ts.length) (hi : ts[i]? = some t) (os : List OpD) (v : Value) : RowX ty (w.setCell ⟨b, i * 3, none⟩ v) B (.slice (some ⟨b, 0, none⟩) n cap) (ts.set i ⟨os, t.frm, t.til⟩) (vs.set i v) := by
  subst hn
  refine ⟨by simpa using h.1, ?_⟩
  rw [← txsCells_setOps ts vs i t os v h.1 hi, List.length_set]
  exact rowset h.2 _ _
theorem RowX.setEnds {ty : TypeId} {w : World} {B b n cap : Nat} {ts : List TxD} {vs : List Value} {i : Nat} (h : RowX ty w B (.slice (some ⟨b, 0, none⟩) n cap) ts vs) (hn : n = ts.length) (hi : i < ts.length) (os : List OpD) (f u : Int) : RowX ty ((w.setCell ⟨b, i * 3 + 1, none⟩ (.int .i64 f)).setCell ⟨b, i * 3 + 2, none⟩ (.int .i64 u)) B (.slice (some ⟨b, 0, none⟩) n cap) (ts.set i ⟨os, f, u⟩) vs := by
  subst hn
  refine ⟨by simpa using h.1, ?_⟩
  rw [← txsCells_setEnds ts vs i os f u h.1 hi, List.length_set]
  exact rowset (rowset h.2 _ _) _ _
theorem RowO.set {ty : TypeId} {w : World} {B b n cap : Nat} {os : List OpD} {k : Nat} {o : OpD} (h : RowO ty w B (.slice (some ⟨b, 0, none⟩) n cap) os) (hn : n = os.length) (hk : os[k]? = some o) (v : ByteArray) (f : Bool) (hv : v.size ≤ maxLen) : RowO ty ((w.setCell ⟨b, k * 4 + 2, none⟩ (.string v)).setCell ⟨b, k * 4 + 3, none⟩ (.bool f)) B (.slice (some ⟨b, 0, none⟩) n cap) (os.set k ⟨o.kind, o.key, v, f⟩) := by
  subst hn
  refine ⟨?_, fun x hx => ?_⟩
  · rw [← opsCells_set os k o v f hk, List.length_set]
    exact rowset (rowset h.1 _ _) _ _
  · rcases List.mem_or_eq_of_mem_set hx with e | e
    · exact h.2 x e
    · subst e; exact ⟨(h.2 o (List.mem_of_getElem? hk)).1, hv⟩
/-- What the first i transactions made, one behind the other. -/
def MadeP (xs : List TxD) (i : Nat) (s : Sta) : Prop := ∃ sts : Nat → Sta, sts 0 = bareS ∧ sts i = s ∧ ∀ (j : Nat) t, j < i → xs[j]? = some t → (∃ us, doOps (sts j) t.ops = some (sts (j + 1), us)) ∧ t.frm = 2 * (j : Int) ∧ t.til = 2 * (j : Int) + 3
theorem MadeP.nil (xs : List TxD) : MadeP xs 0 bareS := ⟨fun _ => bareS, rfl, rfl, fun j t h => by omega⟩
theorem MadeP.step {xs : List TxD} {i : Nat} {s s' : Sta} {zs : List OpD} {us : List (ByteArray × VD)} (h : MadeP xs i s) (hi : i < xs.length) (hd : doOps s zs = some (s', us)) : MadeP (xs.set i ⟨zs, 2 * (i : Int), 2 * (i : Int) + 3⟩) (i + 1) s' := by
  obtain ⟨sts, h0, h1, h2⟩ := h
  refine ⟨fun m => if m = i + 1 then s' else sts m, (if_neg (by omega)).trans h0, if_pos rfl, fun j t hj ht => ?_⟩
  by_cases e : j = i
  · subst e
    rw [List.getElem?_set_self hi] at ht
    simp at ht
    subst ht
    refine ⟨⟨us, ?_⟩, rfl, rfl⟩
    show doOps (if j = j + 1 then s' else sts j) zs = some (if j + 1 = j + 1 then s' else sts (j + 1), us)
    rw [if_neg (by omega), if_pos rfl, h1]
    exact hd
  · rw [List.getElem?_set_ne (fun q => e q.symm)] at ht
    obtain ⟨⟨us', k1⟩, k2⟩ := h2 j t (by omega) ht
    refine ⟨⟨us', ?_⟩, k2⟩
    show doOps (if j = i + 1 then s' else sts j) t.ops = some (if j + 1 = i + 1 then s' else sts (j + 1), us')
    rw [if_neg (by omega), if_neg (by omega)]
    exact k1
theorem MadeP.fits {xs : List TxD} {s : Sta} (h : MadeP xs xs.length s) : ¬ NoneFits xs [] bareS := fun hno => by
  obtain ⟨sts, h0, h1, h2⟩ := h
  have hlt : ∀ (i : Nat) t, xs[i]? = some t → i < xs.length := fun i t h => (List.getElem?_eq_some_iff.1 h).1
  have := made_good sts (fun i t ht => (h2 i t (hlt i t ht) ht).1) (fun m n t u ht hu ha => by
    have e1 := (h2 m t (hlt m t ht) ht).2
    have e2 := (h2 n u (hlt n u hu) hu).2
    have := ha.2
    omega) xs.length (Nat.le_refl _)
  rw [Nat.sub_self, h0] at this
  refine hno _ _ (by simpa using this) (fun i t hi _ => ?_)
  simp
  exact hlt i t hi
/-- The rows of the first i transactions' operations, both packages'. -/
def OldP (w : World) (B : Nat) (wv : Value) (xs : List TxD) (vs us : List Value) (i : Nat) : Prop := ∀ (j : Nat) t, j < i → xs[j]? = some t → ∃ u u', vs[j]? = some u ∧ us[j]? = some u' ∧ RowO 54 w B u t.ops ∧ RowO 55 w B u' t.ops ∧ (∀ k, wv.ownBlock = some k → u.ownBlock ≠ some k ∧ u'.ownBlock ≠ some k) ∧ t.ops.length ≤ 12
theorem OldP.mod {G : Nat → Prop} {w w' : World} {B : Nat} {wv : Value} {xs : List TxD} {vs us : List Value} {i : Nat} (h : OldP w B wv xs vs us i) (hm : Mod G w w') (hG : ∀ k, B ≤ k → k < w.heap.size → G k → wv.ownBlock = some k) : OldP w' B wv xs vs us i := fun j t hj ht => by
  obtain ⟨u, u', h1, h2, h3, h4, h5, h6⟩ := h j t hj ht
  refine ⟨u, u', h1, h2, h3.mod hm (fun k hk g => ?_), h4.mod hm (fun k hk g => ?_), h5, h6⟩
  · obtain ⟨q1, q2, _⟩ := own_cells h3.1 hk
    exact (h5 k (hG k q1 q2 g)).1 hk
  · obtain ⟨q1, q2, _⟩ := own_cells h4.1 hk
    exact (h5 k (hG k q1 q2 g)).2 hk
theorem append_emptyO (g : Nat) (a : Option Addr) (c : Nat) (ty : TypeId) (w : World) : (Builtin.append_ #[23, 23] ty #[.slice (some ⟨g, 0, none⟩) 0 0, .slice a 0 c]).run Tryd.prog w = .ok (.slice (some ⟨g, 0, none⟩) 0 0) w := by
  cases a <;> kernel_rfl
theorem append_emptyX (g : Nat) (a : Option Addr) (c : Nat) (ty : TypeId) (w : World) : (Builtin.append_ #[22, 22] ty #[.slice (some ⟨g, 0, none⟩) 0 0, .slice a 0 c]).run Tryd.prog w = .ok (.slice (some ⟨g, 0, none⟩) 0 0) w := by
  cases a <;> kernel_rfl
theorem row_empty (w : World) (e : TypeId) (sz : Nat) : (w.alloc (.cells #[] e)).ownsRow w.heap.size e sz (.slice (some ⟨w.heap.size, 0, none⟩) 0 0) 0 [] :=
  ⟨by simp, .inr ⟨w.heap.size, 0, #[], rfl, Nat.le_refl _, heap_alloc_new w _, Nat.le_refl _, by unfold maxLen; omega, by simp, by simp⟩⟩
/-- A given list behind an empty one of one's own. -/
theorem wpList_copy {w0 : World} {ops : Array Oper} {rest : List Oper} {o : Oper} {a : Act} {Q : Exit → Act → World → Prop} (hgd : o.guard = none) (s x : Operand) (t : TypeId)
    (ho : o.op = .call { callee := .builtin .append, args := #[s, x], argTypes := #[t, t] })
    (e : TypeId) (i : TypeInfo) (z : Value) (size bytes : Nat) (ht : Tryd.prog.underlying t = some (.slice e)) (hi : Tryd.prog.info? e = some i) (hz : i.zero = some z)
    (hsize : i.size = size) (hby : i.bytes = bytes) (hzs : z.cells.size = size) (hsz : 0 < size)
    (hnil : ∀ (g : Nat) (a : Option Addr) (c : Nat) (ty : TypeId) (w : World), (Builtin.append_ #[t, t] ty #[.slice (some ⟨g, 0, none⟩) 0 0, .slice a 0 c]).run Tryd.prog w = .ok (.slice (some ⟨g, 0, none⟩) 0 0) w)
    (hs : a.eval s = .slice (some ⟨w0.heap.size, 0, none⟩) 0 0)
    (ad : Option Addr) (m c : Nat) (news : List Value) (hx : a.eval x = .slice ad m c) (hl : news.length = m * size) (hnews : m = 0 ∨ ∃ p, ad = some p ∧ ∀ j u, news[j]? = some u → w0.cell? (p.add j) = some u) (h1 : ∀ u ∈ news, u.oneCell' = true)
    (h63 : m ≤ maxLen) (hbytes : m * bytes ≤ 140737488355328)
    (h : ∀ (g cap : Nat) w', w'.ownsRow w0.heap.size e size (.slice (some ⟨g, 0, none⟩) m cap) m news → Mod noBlock w0 w' → wpList Tryd.prog ops Q rest (a.put o.dst (.slice (some ⟨g, 0, none⟩) m cap)) w') :
    wpList Tryd.prog ops Q (o :: rest) a (w0.alloc (.cells #[] e)) := by
  have hm0 : Mod noBlock w0 (w0.alloc (.cells #[] e)) := (Mod.refl _ w0).alloc _
  by_cases hm : m = 0
  · subst hm
    have hn : news = [] := List.eq_nil_of_length_eq_zero (by simpa using hl)
    subst hn
    refine wpList_plain hgd fun K hK => ?_
    have hr := hnil w0.heap.size ad c o.type (w0.alloc (.cells #[] e))
    unfold Oper.wp execOp
    simp only [ho, resolve, invoke, builtin, Sem.run_bind, Sem.run_pure, Result.andThen_ok, List.map_toArray, List.map_cons, List.map_nil, hs, hx, hr]
    exact hK _ _ (h _ _ _ (row_empty w0 e size) hm0)
  · obtain ⟨p, rfl, hc⟩ := hnews.resolve_left hm
    refine wpList_append_own _ hgd s x t ho w0.heap.size e i z size bytes ht hi hz hsize hby hzs hsz _ 0 [] hs (row_empty w0 e size) p m c news hx hl (fun j u hu => hm0.cell (hc j u hu) id) h1 (by omega) (by rw [Nat.zero_add]; exact hbytes) (by simp) ?_
    intro v' w' hown hgrow hne
    have hm1 : Mod noBlock w0 w' := hm0.grown hgrow (fun x hx hlt => by simp [Value.ownBlock] at hx; omega)
    simp only [Nat.zero_add, List.nil_append] at hown
    rcases hown.2 with ⟨e0, e1⟩ | ⟨g, cap, cur, rfl, _⟩
    · exact absurd e1 hm
    · exact h g cap w' hown hm1
theorem opsCells_inv : ∀ (os : List OpD) (j : Nat) (x : Value), (opsCells os)[j]? = some x → ∃ (i r : Nat) (o : OpD), j = i * 4 + r ∧ os[i]? = some o ∧ (opCells o)[r]? = some x := fun os j x h => by
  have hj : j < os.length * 4 := by rw [← opsCells_len]; exact (List.getElem?_eq_some_iff.1 h).1
  have hi : j / 4 < os.length := by omega
  have hr : j % 4 < (opCells os[j / 4]).length := by show j % 4 < 4; omega
  have h1 := opsCells_cell os (j / 4) os[j / 4] (List.getElem?_eq_getElem hi) (j % 4) _ (List.getElem?_eq_getElem hr)
  rw [show j / 4 * 4 + j % 4 = j by omega, h] at h1
  simp only [Option.some.injEq] at h1
  exact ⟨j / 4, j % 4, os[j / 4], by omega, List.getElem?_eq_getElem hi, by rw [h1]; exact List.getElem?_eq_getElem hr⟩
theorem opsCells_one : ∀ (os : List OpD), ∀ u ∈ opsCells os, u.oneCell' = true
  | [], u, h => by simp [opsCells] at h
  | o :: os, u, h => by
    rcases List.mem_append.1 h with h | h
    · simp [opCells] at h
      rcases h with rfl | rfl | rfl | rfl <;> rfl
    · exact opsCells_one os u h
theorem OpsV.flat {w : World} {L : Nat} {a : Option Addr} {cap n : Nat} {os : List OpD} (h : OpsV w L (.slice a n cap) os) : n = os.length ∧ (n = 0 ∨ ∃ p, a = some p ∧ p.block < L ∧ ∀ (j : Nat) u, (opsCells os)[j]? = some u → w.cell? (p.add j) = some u) ∧ ∀ o ∈ os, okOp o := by
  have h0 := h
  obtain ⟨a', cap', h1, _, _, h4⟩ := h
  simp only [Value.slice.injEq] at h1
  obtain ⟨rfl, rfl, rfl⟩ := h1
  refine ⟨rfl, ?_, fun o ho => ?_⟩
  · rcases h4 with h4 | ⟨b, off, h5, h6, h7⟩
    · exact .inl (by rw [h4]; rfl)
    · refine .inr ⟨_, h5, h6, fun j u hu => ?_⟩
      obtain ⟨i, r, o, rfl, ho, hr⟩ := opsCells_inv os j u hu
      obtain ⟨cs, ⟨k1, _⟩, _, k3⟩ := h7 i o ho
      subst k1
      rw [Go.WideShapes.add_plain, ← Nat.add_assoc]
      exact k3 r u hr
  · obtain ⟨i, hi, e⟩ := List.getElem_of_mem ho
    obtain ⟨_, _, _, _, hok, _⟩ := h0.at (i := i) (o := o) (by rw [List.getElem?_eq_getElem hi, e])
    exact hok
theorem txsCells_inv : ∀ (ts : List TxD) (vs : List Value) (j : Nat) (x : Value), vs.length = ts.length → (txsCells ts vs)[j]? = some x → ∃ (i r : Nat) (t : TxD) (v : Value), j = i * 3 + r ∧ ts[i]? = some t ∧ vs[i]? = some v ∧ (txCells t v)[r]? = some x := fun ts vs j x hl h => by
  have hj : j < ts.length * 3 := by rw [← txsCells_len ts vs hl]; exact (List.getElem?_eq_some_iff.1 h).1
  have hi : j / 3 < ts.length := by omega
  have hi' : j / 3 < vs.length := by omega
  have hr : j % 3 < (txCells ts[j / 3] vs[j / 3]).length := by show j % 3 < 3; omega
  have h1 := txsCells_cell ts vs (j / 3) ts[j / 3] vs[j / 3] hl (List.getElem?_eq_getElem hi) (List.getElem?_eq_getElem hi') (j % 3) _ (List.getElem?_eq_getElem hr)
  rw [show j / 3 * 3 + j % 3 = j by omega, h] at h1
  simp only [Option.some.injEq] at h1
  exact ⟨j / 3, j % 3, ts[j / 3], vs[j / 3], by omega, List.getElem?_eq_getElem hi, List.getElem?_eq_getElem hi', by rw [h1]; exact List.getElem?_eq_getElem hr⟩
theorem txsCells_one : ∀ (ts : List TxD) (vs : List Value), (∀ v ∈ vs, v.oneCell' = true) → ∀ u ∈ txsCells ts vs, u.oneCell' = true
  | [], _, _, u, h => by simp [txsCells] at h
  | _ :: _, [], _, u, h => by simp [txsCells] at h
  | t :: ts, v :: vs, hv, u, h => by
    rcases List.mem_append.1 h with h | h
    · simp [txCells] at h
      rcases h with rfl | rfl | rfl
      · exact hv _ (by simp)
      · rfl
      · rfl
    · exact txsCells_one ts vs (fun v hv' => hv v (by simp [hv'])) u h
/-- A given history: its cells, and where its operations lie. -/
theorem TxsV.flat {w : World} {L : Nat} {a : Option Addr} {cap n : Nat} {ts : List TxD} (h : TxsV w L (.slice a n cap) ts) : ∃ vs : List Value, vs.length = ts.length ∧ (n = 0 ∨ ∃ p, a = some p ∧ ∀ (j : Nat) u, (txsCells ts vs)[j]? = some u → w.cell? (p.add j) = some u) ∧ (∀ (i : Nat) t v, ts[i]? = some t → vs[i]? = some v → OpsV w L v t.ops ∧ int64 t.frm ∧ int64 t.til) ∧ ∀ v ∈ vs, v.oneCell' = true := by
  obtain ⟨a', cap', h1, _, _, h4⟩ := h
  simp only [Value.slice.injEq] at h1
  obtain ⟨rfl, rfl, rfl⟩ := h1
  rcases h4 with rfl | ⟨b, off, rfl, h6, h7⟩
  · exact ⟨[], rfl, .inl rfl, fun i t v h => by simp at h, fun v h => by simp at h⟩
  have hch : ∀ i, i < ts.length → ∃ v : Value, ∀ t, ts[i]? = some t → (OpsV w L v t.ops ∧ int64 t.frm ∧ int64 t.til) ∧ ∀ (j : Nat) x, (txCells t v)[j]? = some x → w.cell? ⟨b, off + i * 3 + j, none⟩ = some x := fun i hi => by
    obtain ⟨cs, ⟨v, rfl, k1, k2, k3⟩, _, k4⟩ := h7 i ts[i] (List.getElem?_eq_getElem hi)
    refine ⟨v, fun t ht => ?_⟩
    rw [List.getElem?_eq_getElem hi] at ht
    simp only [Option.some.injEq] at ht
    subst ht
    exact ⟨⟨k1, k2, k3⟩, k4⟩
  obtain ⟨f, hf⟩ := Go.Deep.choose_lt (α := Value) hch
  have hget : ∀ (i : Nat) t v, ts[i]? = some t → ((List.range ts.length).map f)[i]? = some v → i < ts.length ∧ v = f i := fun i t v ht hv => by
    have hi : i < ts.length := (List.getElem?_eq_some_iff.1 ht).1
    rw [List.getElem?_map, List.getElem?_range hi] at hv
    exact ⟨hi, by simpa using hv.symm⟩
  refine ⟨(List.range ts.length).map f, by simp, .inr ⟨_, rfl, fun j u hu => ?_⟩, fun i t v ht hv => ?_, fun v hv => ?_⟩
  · obtain ⟨i, r, t, v, rfl, ht, hv, hr⟩ := txsCells_inv ts _ j u (by simp) hu
    obtain ⟨hi, rfl⟩ := hget i t v ht hv
    rw [Go.WideShapes.add_plain, ← Nat.add_assoc]
    exact (hf i hi t ht).2 r u hr
  · obtain ⟨hi, rfl⟩ := hget i t v ht hv
    exact (hf i hi t ht).1
  · obtain ⟨i, hi, rfl⟩ := List.mem_map.1 hv
    have hi' : i < ts.length := by simpa using hi
    obtain ⟨_, _, e, _⟩ := ((hf i hi' ts[i] (List.getElem?_eq_getElem hi')).1).1
    rw [e]
    rfl
end Go.Proofs.YtefhgakcffhgaabDoor
