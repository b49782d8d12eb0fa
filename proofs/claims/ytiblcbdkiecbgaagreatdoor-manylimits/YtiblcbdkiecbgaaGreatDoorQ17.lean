import Derived.Test.YtiblcbdkiecbgaaGreatDoorQ16
namespace Go.Proofs.Q
open Go Go.Proofs Go.Proofs.YtiblcbdkiecbgaaGreatDoor
set_option linter.unusedVariables false
set_option linter.unusedSectionVars false
set_option linter.unusedSimpArgs false
noncomputable def w00 : World := (begin Tryz.prog (fun _ _ => 0) default).world
def isIntB : Option TypeDesc → Bool
  | some (.int _) => true
  | _ => false
set_option maxRecDepth 100000 in
theorem row_ints {W : World} {t : TypeId} {cs : Array Value} (h : Row.ok Tryz.prog W .any 0 t cs) (ht : (Tryz.prog.cellTypes Tryz.prog.depth t).map (fun ts => ts.all fun u => isIntB (Tryz.prog.underlying u)) = some true) : ∀ x, x ∈ cs → ∃ k n, x = .int k n := by
  obtain ⟨ts, h1, _, h3⟩ := h
  rw [h1] at ht
  simp only [Option.map_some, Option.some.injEq] at ht
  intro x hx
  obtain ⟨i, hi, rfl⟩ := Array.getElem_of_mem hx
  obtain ⟨u, hu, hv⟩ := h3 i _ (Array.getElem?_eq_getElem hi)
  have := List.all_eq_true.1 ht u (List.mem_of_getElem? hu)
  unfold Cell.ok at hv
  cases hq : Tryz.prog.underlying u with
  | none => rw [hq] at this; cases this
  | some d =>
    rw [hq] at this hv
    cases d <;> first | (cases this; done) | skip
    cases hx : cs[i] <;> rw [hx] at hv <;> simp at hv
    exact ⟨_, _, rfl⟩
theorem ints_ok {cs : Array Value} (h : ∀ x, x ∈ cs → ∃ k n, x = .int k n) : @bVs G1 12 cs ∧ cs.map (@rV G1 Tok.one sgF) = cs := by
  constructor
  · intro x hx
    obtain ⟨k, n, rfl⟩ := h x hx
    simp [bV]
  · conv => rhs; rw [← Array.map_id cs]
    refine Array.map_congr_left fun x hx => ?_
    obtain ⟨k, n, rfl⟩ := h x hx
    simp [rV]
theorem plain_bV {L : Nat} : ∀ {v : Value}, plainV v → @bV G1 L v
  | .pointer a, h => by simp only [plainV] at h; subst h; simp [bV]
  | .slice a l c, h => by simp only [plainV] at h; subst h; simp [bV]
  | .map r, h => by simp only [plainV] at h; subst h; simp [bV]
  | .chan r, h => by simp only [plainV] at h; subst h; simp [bV]
  | .func _ _ _, h => by simp [plainV] at h
  | .iface t v, h => by simp only [plainV] at h; simp only [bV]; exact plain_bV h
  | .agg cs, h => by
    simp only [plainV] at h
    simp only [bV]
    exact fun x hx => plain_bV (h x hx)
  | .tuple cs, h => by
    simp only [plainV] at h
    simp only [bV]
    exact fun x hx => plain_bV (h x hx)
  | .bool _, _ => by simp [bV]
  | .int _ _, _ => by simp [bV]
  | .float _ _, _ => by simp [bV]
  | .complex _ _ _, _ => by simp [bV]
  | .string _, _ => by simp [bV]
  | .nilFunc, _ => by simp [bV]
  | .nilIface, _ => by simp [bV]
def goodO : Obj → Bool
  | .cells c _ _ => c.toList.all (plainB 9)
  | .map _ _ => true
  | .finalizers _ _ => true
  | _ => false
noncomputable def rowT (k : Nat) : Option (Nat × TypeId) := ((w00.heap[k]?).bind Obj.row?).map fun x => (x.1.size, x.2)
theorem size00 : w00.heap.size = 12 := by kernel_rfl
theorem goods : [7, 8, 9, 10, 11].all (fun k => (w00.heap[k]?).map goodO == some true) = true := by kernel_rfl
theorem rows00 : [0, 1, 2, 3, 4, 5, 6].map (fun k => (rowT k).map (·.1)) = [some 1, some 1, some 20, some 1, some 1, some 32, some 64] := by kernel_rfl
theorem ints00 : [1, 2, 5, 6].all (fun k => match rowT k with | some (_, t) => Tryz.prog.buildable t && (Tryz.prog.cellTypes Tryz.prog.depth t).map (fun ts => ts.all fun u => isIntB (Tryz.prog.underlying u)) == some true | none => false) = true := by kernel_rfl
theorem alike_good {o o0 : Obj} (h : o.alike o0) (h0 : goodO o0 = true) : goodO o = true := by
  unfold Obj.alike at h
  split at h
  · rfl
  · rfl
  · rw [h]; exact h0
theorem special {W : World} (hs : W.ShapedOpen Tryz.prog) {k : Nat} (h1 : 7 ≤ k) (h2 : k < 12) : ∃ o, W.heap[k]? = some o ∧ goodO o = true := by
  obtain ⟨o, o0, q1, q2, q3⟩ := hs.2 k (by rw [gsize]; exact h1) (by show k < w00.heap.size; rw [size00]; exact h2)
  have q2 : w00.heap[k]? = some o0 := q2
  have hg : goodO o0 = true := by
    have := List.all_eq_true.1 goods k (by simp; omega)
    rw [q2] at this
    simpa using this
  refine ⟨o, q1, ?_⟩
  split at q3
  · exact alike_good q3 hg
  · rw [q3]; exact hg
theorem variable_ {W : World} (hs : W.ShapedOpen Tryz.prog) {k n : Nat} {t : TypeId} (hk : k < 7) (h : rowT k = some (n, t)) : ∃ cs, W.heap[k]? = some (.cells cs t) ∧ cs.size = n ∧ (Tryz.prog.buildable t = true → Row.ok Tryz.prog W .any 0 t cs) := by
  obtain ⟨⟨z, t'⟩, h1, h2⟩ := Option.map_eq_some_iff.1 h
  cases h2
  exact hs.1 k z _ (by rw [gsize]; exact hk) h1
end Go.Proofs.Q
namespace Go.Proofs.Q
open Go Go.Proofs Go.Proofs.YtiblcbdkiecbgaaGreatDoor
set_option linter.unusedVariables false
set_option linter.unusedSectionVars false
set_option linter.unusedSimpArgs false
theorem row_some {k n : Nat} (h : (rowT k).map (·.1) = some n) : ∃ t, rowT k = some (n, t) := by
  obtain ⟨⟨m, t⟩, h1, h2⟩ := Option.map_eq_some_iff.1 h
  cases h2
  exact ⟨t, h1⟩
theorem rows_at : (∃ t, rowT 0 = some (1, t)) ∧ (∃ t, rowT 3 = some (1, t)) ∧ (∃ t, rowT 4 = some (1, t)) := by
  have h := rows00
  simp only [List.map_cons, List.map_nil, List.cons.injEq] at h
  exact ⟨row_some h.1, row_some h.2.2.2.1, row_some h.2.2.2.2.1⟩
theorem ints_at {W : World} (hs : W.ShapedOpen Tryz.prog) {k : Nat} (hk : k ∈ [1, 2, 5, 6]) (h7 : k < 7) : ∃ cs t, W.heap[k]? = some (.cells cs t) ∧ ∀ x, x ∈ cs → ∃ kd n, x = .int kd n := by
  have h := List.all_eq_true.1 ints00 k hk
  cases hr : rowT k with
  | none => rw [hr] at h; cases h
  | some x =>
    obtain ⟨n, t⟩ := x
    rw [hr] at h
    simp only [Bool.and_eq_true, beq_iff_eq] at h
    obtain ⟨cs, q1, _, q3⟩ := variable_ hs h7 hr
    exact ⟨cs, t, q1, row_ints (q3 h.1) h.2⟩
theorem shar12 {W : World} (hs : W.ShapedOpen Tryz.prog) (he : ET W) : @Shar G1 12 W := by
  obtain ⟨⟨t0, r0⟩, ⟨t3, r3⟩, ⟨t4, r4⟩⟩ := rows_at
  obtain ⟨c0, w0, s0, _⟩ := variable_ hs (by omega) r0
  obtain ⟨c3, w3, s3, _⟩ := variable_ hs (by omega) r3
  obtain ⟨c4, w4, s4, _⟩ := variable_ hs (by omega) r4
  have sp := fun k (h1 : 7 ≤ k) (h2 : k < 12) => special hs h1 h2
  have hsz : 12 ≤ W.heap.size := by
    obtain ⟨o, h1, _⟩ := sp 11 (by omega) (by omega)
    have := (Array.getElem?_eq_some_iff.1 h1).1
    omega
  refine @Shar.mk G1 12 W hsz (fun k c e f hk hv hc => ?_) (fun k hv => ?_) (fun k hv => ?_) (fun k o hk ho => ?_)
  · have hv : hvB k = false := hv
    by_cases h7 : 7 ≤ k
    · obtain ⟨o, h1, h2⟩ := sp k h7 hk
      rw [hc] at h1
      cases h1
      have hp : ∀ x, x ∈ c → plainV x := fun x hx => plainB_ok 9 x (List.all_eq_true.1 h2 x (by simpa using hx))
      refine ⟨fun x hx => plain_bV (hp x hx), ?_⟩
      conv => rhs; rw [← Array.map_id c]
      exact Array.map_congr_left fun x hx => @plainV_ren G1 Tok.one sgF x (hp x hx)
    · by_cases h0 : k = 0
      · subst h0
        rw [w0] at hc
        cases hc
        have he : W.cell? ⟨0, 0, none⟩ = _ := he
        unfold World.cell? at he
        simp only [w0] at he
        have e1 : c0 = #[c0[0]'(by omega)] := by
          apply Array.ext
          · simp [s0]
          · intro i h1 h2
            obtain rfl : i = 0 := by simp at h2; omega
            rfl
        have e2 : c0[0]? = some (c0[0]'(by omega)) := Array.getElem?_eq_getElem _
        simp [e2] at he
        rw [e1, he]
        refine ⟨fun x hx => ?_, ?_⟩
        · simp at hx
          subst hx
          simp [bV]
        · simp [rV, rA]
          rfl
      · simp [hvB] at hv
        obtain ⟨cs, t, q1, q2⟩ := ints_at hs (k := k) (by simp; omega) (by omega)
        rw [hc] at q1
        cases q1
        exact ints_ok q2
  · have hv : hvB k = true := hv
    simp [hvB] at hv
    omega
  · have hv : hvB k = true := hv
    simp [hvB] at hv
    rcases hv with rfl | rfl
    · exact ⟨c3, _, _, w3, by omega⟩
    · exact ⟨c4, _, _, w4, by omega⟩
  · by_cases h7 : 7 ≤ k
    · obtain ⟨o', h1, h2⟩ := sp k h7 hk
      rw [ho] at h1
      cases h1
      cases o <;> first | (cases h2; done) | simp
    · have : ∃ c t, W.heap[k]? = some (.cells c t) := by
        by_cases h0 : k = 0
        · subst h0; exact ⟨_, _, w0⟩
        by_cases h3 : k = 3
        · subst h3; exact ⟨_, _, w3⟩
        by_cases h4 : k = 4
        · subst h4; exact ⟨_, _, w4⟩
        obtain ⟨cs, t, q1, _⟩ := ints_at hs (k := k) (by simp; omega) (by omega)
        exact ⟨cs, t, q1⟩
      obtain ⟨c, t, q⟩ := this
      rw [ho] at q
      cases q
      simp
theorem good0 {W : World} (hv : VD W) (hs : W.ShapedOpen Tryz.prog) : Good0 W := by
  have h := shar12 hs hv.et
  exact ⟨VL.of hv h.bs, h⟩
end Go.Proofs.Q
