/- The laws' arguments, opened: pairs, commands, messages, lists of them. -/
import Derived.Test.YtdbbgfbcbfbihaaDoorRf2
import Derived.Deep.Strs
import Derived.Deep.Slices
import Derived.OpenShut
namespace Go.Proofs.YtdbbgfbcbfbihaaDoor
open Go.ChangeShapes Go.WideShapes Go.RowKit Go.Deep

theorem list3 {α : Type} {l : List α} (h : l.length = 3) : ∃ a b c, l = [a, b, c] := by
  match l, h with
  | [a, b, c], _ => exact ⟨a, b, c, rfl⟩
theorem list4 {α : Type} {l : List α} (h : l.length = 4) : ∃ a b c d, l = [a, b, c, d] := by
  match l, h with
  | [a, b, c, d], _ => exact ⟨a, b, c, d, rfl⟩
theorem list9 {α : Type} {l : List α} (h : l.length = 9) : ∃ a0 a1 a2 a3 a4 a5 a6 a7 a8, l = [a0, a1, a2, a3, a4, a5, a6, a7, a8] := by
  match l, h with
  | [a0, a1, a2, a3, a4, a5, a6, a7, a8], _ => exact ⟨a0, a1, a2, a3, a4, a5, a6, a7, a8, rfl⟩
section
variable {H : Type} {enc : TypeId × Value → H} {P : Program} {w : World} {base : Nat} {spare : Nat → Bool} {held : Bool}
theorem tstruct4 {t : TypeId} {f0 f1 f2 f3 : Field} {fuel : Nat} {cs : List Value} {x : DataW H × List MemPlace} (ht : P.underlying t = some (.struct #[f0, f1, f2, f3])) (h : DataW.trod enc P w base spare held fuel t cs = some x) :
    ∃ y0 y1 y2 y3 n, x.1 = .agg [y0.1, y1.1, y2.1, y3.1] ∧ cs.length = P.cellsOf t ∧ DataW.trod enc P w base spare held n f0.type ((cs.drop f0.offset).take (P.cellsOf f0.type)) = some y0 ∧
      DataW.trod enc P w base spare held n f1.type ((cs.drop f1.offset).take (P.cellsOf f1.type)) = some y1 ∧ DataW.trod enc P w base spare held n f2.type ((cs.drop f2.offset).take (P.cellsOf f2.type)) = some y2 ∧
      DataW.trod enc P w base spare held n f3.type ((cs.drop f3.offset).take (P.cellsOf f3.type)) = some y3 := by
  obtain ⟨xs, n, _, rfl, hl, hlen, hf⟩ := DataW.trod_struct ht h
  match xs, hlen with
  | [y0, y1, y2, y3], _ => exact ⟨y0, y1, y2, y3, n, by simp, hl, by simpa using hf 0 f0 rfl, by simpa using hf 1 f1 rfl, by simpa using hf 2 f2 rfl, by simpa using hf 3 f3 rfl⟩
theorem tstruct6 {t : TypeId} {f0 f1 f2 f3 f4 f5 : Field} {fuel : Nat} {cs : List Value} {x : DataW H × List MemPlace} (ht : P.underlying t = some (.struct #[f0, f1, f2, f3, f4, f5])) (h : DataW.trod enc P w base spare held fuel t cs = some x) :
    ∃ y0 y1 y2 y3 y4 y5 n, x.1 = .agg [y0.1, y1.1, y2.1, y3.1, y4.1, y5.1] ∧ cs.length = P.cellsOf t ∧ DataW.trod enc P w base spare held n f0.type ((cs.drop f0.offset).take (P.cellsOf f0.type)) = some y0 ∧
      DataW.trod enc P w base spare held n f1.type ((cs.drop f1.offset).take (P.cellsOf f1.type)) = some y1 ∧ DataW.trod enc P w base spare held n f2.type ((cs.drop f2.offset).take (P.cellsOf f2.type)) = some y2 ∧
      DataW.trod enc P w base spare held n f3.type ((cs.drop f3.offset).take (P.cellsOf f3.type)) = some y3 ∧ DataW.trod enc P w base spare held n f4.type ((cs.drop f4.offset).take (P.cellsOf f4.type)) = some y4 ∧
      DataW.trod enc P w base spare held n f5.type ((cs.drop f5.offset).take (P.cellsOf f5.type)) = some y5 := by
  obtain ⟨xs, n, _, rfl, hl, hlen, hf⟩ := DataW.trod_struct ht h
  match xs, hlen with
  | [y0, y1, y2, y3, y4, y5], _ => exact ⟨y0, y1, y2, y3, y4, y5, n, by simp, hl, by simpa using hf 0 f0 rfl, by simpa using hf 1 f1 rfl, by simpa using hf 2 f2 rfl, by simpa using hf 3 f3 rfl, by simpa using hf 4 f4 rfl, by simpa using hf 5 f5 rfl⟩
end
section
variable {H : Type} {enc : TypeId × Value → H} {w : World} {base : Nat} {spare : Nat → Bool} {held : Bool}
def int64 (x : Int) : Prop := -9223372036854775808 ≤ x ∧ x ≤ 9223372036854775807
def intsC (c : CmdD) : Prop := int64 c.kind ∧ int64 c.tx ∧ int64 c.time
def intsM (m : MsgD) : Prop := int64 m.kind ∧ int64 m.frm ∧ int64 m.to ∧ int64 m.epoch ∧ int64 m.n ∧ intsC m.cmd
instance : Inhabited PairD := ⟨⟨ByteArray.empty, ByteArray.empty, false⟩⟩
instance : Inhabited CmdD := ⟨zeroCmd⟩
instance : Inhabited MsgD := ⟨zeroMsg⟩
theorem cellsString : Tryd.prog.cellsOf 9 = 1 := by kernel_rfl
theorem cellsInt : Tryd.prog.cellsOf 3 = 1 := by kernel_rfl
theorem cellsBool : Tryd.prog.cellsOf 4 = 1 := by kernel_rfl
theorem cellsPairs : Tryd.prog.cellsOf 22 = 1 := by kernel_rfl
theorem cellsPair : Tryd.prog.cellsOf 84 = 3 := by kernel_rfl
theorem cellsCmd : Tryd.prog.cellsOf 24 = 4 := by kernel_rfl
theorem cellsMsg : Tryd.prog.cellsOf 26 = 9 := by kernel_rfl
theorem open_pairC {fuel : Nat} {cs : List Value} {x : DataW H × List MemPlace} (h : DataW.trod enc Tryd.prog w base spare held fuel 84 cs = some x) :
    ∃ p : PairD, cs = pairCells p ∧ 18 + p.key.size + p.val.size ≤ 18 * Rows.uptoBulk x.1 := by
  obtain ⟨y0, y1, y2, n, rfl, hl, h0, h1, h2⟩ := trod_struct3 Tryd.underlying84 h
  rw [cellsPair] at hl
  obtain ⟨a, b, c, rfl⟩ := list3 hl
  · simp only [cellsString, cellsBool, List.drop_zero, List.drop_succ_cons, List.take_succ_cons, List.take_zero] at h0 h1 h2
    obtain ⟨s0, e0, rfl, _⟩ := DataW.trod_string Tryd.underlying9 h0
    obtain ⟨s1, e1, rfl, _⟩ := DataW.trod_string Tryd.underlying9 h1
    obtain ⟨s2, e2, rfl⟩ := DataW.trod_bool Tryd.underlying4 h2
    simp only [List.cons.injEq, and_true] at e0 e1 e2
    subst e0 e1 e2
    refine ⟨⟨s0, s1, s2⟩, rfl, ?_⟩
    have l0 : s0.data.toList.length = s0.size := by rw [Array.length_toList]; rfl
    have l1 : s1.data.toList.length = s1.size := by rw [Array.length_toList]; rfl
    simp only [Rows.uptoBulk, Rows.uptoBulkAll]
    omega
theorem bulk_map (n : Nat) (D : Nat → DataW H) (f : Nat → PairD) (h : ∀ i, i < n → 18 + (f i).key.size + (f i).val.size ≤ 18 * Rows.uptoBulk (D i)) :
    psize ((List.range n).map f) ≤ 18 * Rows.uptoBulkAll ((List.range n).map D) := by
  induction n with
  | zero => simp [psize]
  | succ n ih =>
    have a := ih (fun i hi => h i (by omega))
    have b := h n (by omega)
    have e : ∀ (l : List (DataW H)) (x : DataW H), Rows.uptoBulkAll (l ++ [x]) = Rows.uptoBulkAll l + Rows.uptoBulk x := by
      intro l x
      induction l with
      | nil => simp [Rows.uptoBulkAll]
      | cons y l ih => simp only [List.cons_append, Rows.uptoBulkAll, ih]; omega
    rw [List.range_succ, List.map_append, List.map_append, List.map_singleton, List.map_singleton, psize_snoc, e]
    omega
theorem plain_at {a : Addr} {v : Value} (h : w.cell? (a.add 0) = some v) : ∃ b off, a = ⟨b, off, none⟩ := by
  obtain ⟨b, off, spot⟩ := a
  have hs : spot = none := by simpa [Addr.add] using World.cell?_spot h
  exact ⟨b, off, by rw [hs]⟩
theorem open_pairsR {fuel : Nat} {v : Value} {x : DataW H × List MemPlace} (h : DataW.trod enc Tryd.prog w base spare held fuel 22 [v] = some x) :
    ∃ ps, PairsR w w.heap.size v ps ∧ psize ps ≤ 18 * Rows.uptoBulk x.1 := by
  rcases open_slice Tryd.underlying22 h with ⟨hcs, rfl⟩ | ⟨a, len, cap, m, n, D, Pl, hcs, hb, hl, hm, hmm, rfl, hx⟩
  · simp only [List.cons.injEq, and_true] at hcs
    subst hcs
    exact ⟨[], ⟨none, 0, rfl, Nat.le_refl _, Nat.zero_le _, .inl rfl⟩, by simp [psize]⟩
  · simp only [List.cons.injEq, and_true] at hcs
    subst hcs
    have hlm : len ≤ m := by rw [hmm]; split <;> omega
    rw [cellsPair] at hx
    obtain ⟨f, hf⟩ := choose_lt (α := PairD) (p := fun i p => (w.cell? (a.add (i * 3)) = some (.string p.key) ∧ w.cell? (a.add (i * 3 + 1)) = some (.string p.val) ∧ w.cell? (a.add (i * 3 + 2)) = some (.bool p.gone)) ∧ 18 + p.key.size + p.val.size ≤ 18 * Rows.uptoBulk (D i)) (n := len) (fun i hi => by
      obtain ⟨cs', h1, h2⟩ := hx i (by omega)
      obtain ⟨p, rfl, h3⟩ := open_pairC h2
      obtain ⟨_, _, h4⟩ := World.cells?_some h1
      refine ⟨p, ⟨?_, ?_, ?_⟩, h3⟩
      · have := h4 0 (by omega); rw [add_add] at this; exact this
      · have := h4 1 (by omega); rw [add_add] at this; exact this
      · have := h4 2 (by omega); rw [add_add] at this; exact this)
    refine ⟨(List.range len).map f, ⟨some a, cap, by simp, by simpa using hl, hm, ?_⟩, ?_⟩
    · by_cases h0 : len = 0
      · subst h0; exact .inl rfl
      · right
        obtain ⟨b, off, rfl⟩ := plain_at (by have := (hf 0 (by omega)).1.1; rw [Nat.zero_mul] at this; exact this)
        refine ⟨b, off, rfl, World.block_lt_of_cell? w _ (by have := (hf 0 (by omega)).1.1; rw [add_plain] at this; exact this), fun j p hp => ?_⟩
        have hj : j < len := by
          have := (List.getElem?_eq_some_iff.1 hp).1
          simpa using this
        have hpf : p = f j := by
          rw [List.getElem?_map, List.getElem?_range hj] at hp
          simpa using hp.symm
        subst hpf
        obtain ⟨⟨q0, q1, q2⟩, _⟩ := hf j hj
        rw [add_plain] at q0 q1 q2
        exact ⟨q0, by rw [Nat.add_assoc]; exact q1, by rw [Nat.add_assoc]; exact q2⟩
    · have := bulk_map len D f (fun i hi => (hf i hi).2)
      simp only [Rows.uptoBulk]
      omega
theorem wf64 {n : Int} (h : (Lit.int .i64 n).wf = true) : int64 n := bounds_i64 h
set_option maxRecDepth 100000 in
theorem open_cmdC {fuel : Nat} {cs : List Value} {x : DataW H × List MemPlace} (h : DataW.trod enc Tryd.prog w base spare held fuel 24 cs = some x) :
    ∃ (c : CmdD) (v : Value), cs = cmdCells c v ∧ PairsR w w.heap.size v c.writes ∧ intsC c ∧ psize c.writes ≤ 18 * Rows.uptoBulk x.1 := by
  obtain ⟨y0, y1, y2, y3, n, hx1, hl, h0, h1, h2, h3⟩ := tstruct4 Tryd.underlying24 h
  rw [cellsCmd] at hl
  obtain ⟨a, b, c, d, rfl⟩ := list4 hl
  · simp only [cellsInt, cellsPairs, List.drop_zero, List.drop_succ_cons, List.take_succ_cons, List.take_zero] at h0 h1 h2 h3
    obtain ⟨k0, e0, rfl, w0⟩ := DataW.trod_int Tryd.underlying3 h0
    obtain ⟨k1, e1, rfl, w1⟩ := DataW.trod_int Tryd.underlying3 h1
    obtain ⟨k2, e2, rfl, w2⟩ := DataW.trod_int Tryd.underlying3 h2
    obtain ⟨ps, hp, hz⟩ := open_pairsR h3
    simp only [List.cons.injEq, and_true] at e0 e1 e2
    subst e0 e1 e2
    refine ⟨⟨k0, k1, k2, ps⟩, d, rfl, hp, ⟨wf64 w0, wf64 w1, wf64 w2⟩, ?_⟩
    rw [hx1]
    simp only [Rows.uptoBulk, Rows.uptoBulkAll]
    omega
set_option maxRecDepth 100000 in
theorem open_msgC {fuel : Nat} {cs : List Value} {x : DataW H × List MemPlace} (h : DataW.trod enc Tryd.prog w base spare held fuel 26 cs = some x) :
    ∃ (m : MsgD) (v : Value), cs = [.int .i64 m.kind, .int .i64 m.frm, .int .i64 m.to, .int .i64 m.epoch, .int .i64 m.n, .int .i64 m.cmd.kind, .int .i64 m.cmd.tx, .int .i64 m.cmd.time, v] ∧ PairsR w w.heap.size v m.cmd.writes ∧ intsM m ∧ psize m.cmd.writes ≤ 18 * Rows.uptoBulk x.1 := by
  obtain ⟨y0, y1, y2, y3, y4, y5, n, hx1, hl, h0, h1, h2, h3, h4, h5⟩ := tstruct6 Tryd.underlying26 h
  rw [cellsMsg] at hl
  obtain ⟨a0, a1, a2, a3, a4, a5, a6, a7, a8, rfl⟩ := list9 hl
  · simp only [cellsInt, cellsCmd, List.drop_zero, List.drop_succ_cons, List.take_succ_cons, List.take_zero] at h0 h1 h2 h3 h4 h5
    obtain ⟨k0, e0, rfl, w0⟩ := DataW.trod_int Tryd.underlying3 h0
    obtain ⟨k1, e1, rfl, w1⟩ := DataW.trod_int Tryd.underlying3 h1
    obtain ⟨k2, e2, rfl, w2⟩ := DataW.trod_int Tryd.underlying3 h2
    obtain ⟨k3, e3, rfl, w3⟩ := DataW.trod_int Tryd.underlying3 h3
    obtain ⟨k4, e4, rfl, w4⟩ := DataW.trod_int Tryd.underlying3 h4
    obtain ⟨c, v, e5, hp, hi, hz⟩ := open_cmdC h5
    simp only [List.cons.injEq, and_true] at e0 e1 e2 e3 e4
    simp only [cmdCells, List.cons.injEq, and_true] at e5
    obtain ⟨rfl, rfl, rfl, rfl⟩ := e5
    subst e0 e1 e2 e3 e4
    refine ⟨⟨k0, k1, k2, k3, k4, c⟩, _, rfl, hp, ⟨wf64 w0, wf64 w1, wf64 w2, wf64 w3, wf64 w4, hi⟩, ?_⟩
    rw [hx1]
    simp only [Rows.uptoBulk, Rows.uptoBulkAll]
    omega
theorem open_cmdsR {fuel : Nat} {v : Value} {x : DataW H × List MemPlace} (h : DataW.trod enc Tryd.prog w base spare held fuel 38 [v] = some x) :
    ∃ cs, CmdsR w w.heap.size v cs ∧ (∀ c ∈ cs, intsC c) ∧ lsize cs ≤ 42 * Rows.uptoBulk x.1 := by
  rcases open_slice Tryd.underlying38 h with ⟨hcs, rfl⟩ | ⟨a, len, cap, m, n, D, Pl, hcs, hb, hl, hm, hmm, rfl, hx⟩
  · simp only [List.cons.injEq, and_true] at hcs
    subst hcs
    exact ⟨[], ⟨none, 0, rfl, Nat.le_refl _, Nat.zero_le _, .inl rfl⟩, by simp, by simp [lsize]⟩
  · simp only [List.cons.injEq, and_true] at hcs
    subst hcs
    have hlm : len ≤ m := by rw [hmm]; split <;> omega
    rw [cellsCmd] at hx
    obtain ⟨f, hf⟩ := choose_lt (α := CmdD) (p := fun i c => (∃ u, w.cell? (a.add (i * 4)) = some (.int .i64 c.kind) ∧ w.cell? (a.add (i * 4 + 1)) = some (.int .i64 c.tx) ∧ w.cell? (a.add (i * 4 + 2)) = some (.int .i64 c.time) ∧ w.cell? (a.add (i * 4 + 3)) = some u ∧ PairsR w w.heap.size u c.writes) ∧ intsC c ∧ psize c.writes ≤ 18 * Rows.uptoBulk (D i)) (n := len) (fun i hi => by
      obtain ⟨cs', h1, h2⟩ := hx i (by omega)
      obtain ⟨c, u, rfl, h3, h5, h6⟩ := open_cmdC h2
      obtain ⟨_, _, h4⟩ := World.cells?_some h1
      refine ⟨c, ⟨u, ?_, ?_, ?_, ?_, h3⟩, h5, h6⟩
      · have := h4 0 (by omega); rw [add_add] at this; exact this
      · have := h4 1 (by omega); rw [add_add] at this; exact this
      · have := h4 2 (by omega); rw [add_add] at this; exact this
      · have := h4 3 (by omega); rw [add_add] at this; exact this)
    refine ⟨(List.range len).map f, ⟨some a, cap, by simp, by simpa using hl, hm, ?_⟩, ?_, ?_⟩
    · by_cases h0 : len = 0
      · subst h0; exact .inl rfl
      · right
        obtain ⟨u0, g0, _⟩ := (hf 0 (by omega)).1
        obtain ⟨b, off, rfl⟩ := plain_at (by rw [Nat.zero_mul] at g0; exact g0)
        refine ⟨b, off, rfl, World.block_lt_of_cell? w _ (by rw [add_plain] at g0; exact g0), fun j c hc => ?_⟩
        have hj : j < len := by
          have := (List.getElem?_eq_some_iff.1 hc).1
          simpa using this
        have hcf : c = f j := by
          rw [List.getElem?_map, List.getElem?_range hj] at hc
          simpa using hc.symm
        subst hcf
        obtain ⟨⟨u, q0, q1, q2, q3, q4⟩, _⟩ := hf j hj
        rw [add_plain] at q0 q1 q2 q3
        exact ⟨u, q0, by rw [Nat.add_assoc]; exact q1, by rw [Nat.add_assoc]; exact q2, by rw [Nat.add_assoc]; exact q3, q4⟩
    · intro c hc
      obtain ⟨j, hj, rfl⟩ := List.mem_map.1 hc
      exact (hf j (List.mem_range.1 hj)).2.1
    · have key : ∀ n, n ≤ len → lsize ((List.range n).map f) ≤ 42 * Rows.uptoBulkAll ((List.range n).map D) := by
        intro n
        induction n with
        | zero => intro _; simp [lsize]
        | succ n ih =>
          intro hn
          have a := ih (by omega)
          have b := (hf n (by omega)).2.2
          have e : ∀ (l : List (DataW H)) (x : DataW H), Rows.uptoBulkAll (l ++ [x]) = Rows.uptoBulkAll l + Rows.uptoBulk x := by
            intro l x
            induction l with
            | nil => simp [Rows.uptoBulkAll]
            | cons y l ih => simp only [List.cons_append, Rows.uptoBulkAll, ih]; omega
          have e' : ∀ (l : List CmdD) (c : CmdD), lsize (l ++ [c]) = lsize l + (24 + psize c.writes) := by
            intro l c
            induction l with
            | nil => simp [lsize]
            | cons y l ih => simp only [List.cons_append, lsize, ih]; omega
          have one : 1 ≤ Rows.uptoBulk (D n) := by cases D n with
            | lit l => cases l <;> simp [Rows.uptoBulk]
            | nil => simp [Rows.uptoBulk]
            | ptr d => simp [Rows.uptoBulk]
            | slice elems spare => simp [Rows.uptoBulk]
            | agg parts => simp [Rows.uptoBulk]
            | iface t d => simp [Rows.uptoBulk]
            | map entries => simp [Rows.uptoBulk]
            | held h => simp [Rows.uptoBulk]
          rw [List.range_succ, List.map_append, List.map_append, List.map_singleton, List.map_singleton, e', e]
          omega
      have := key len (Nat.le_refl _)
      simp only [Rows.uptoBulk]
      omega
end
end Go.Proofs.YtdbbgfbcbfbihaaDoor
