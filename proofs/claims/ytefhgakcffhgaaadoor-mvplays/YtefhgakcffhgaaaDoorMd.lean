/- Package mv: left: what times from one on ask for. -/
import Derived.Test.YtefhgakcffhgaaaDoorMc
import Derived.Lib.SliceRun
namespace Go.Proofs.YtefhgakcffhgaaaDoor
open Go.RowKit Go.Lib Go.Maps
set_option linter.unusedVariables false

theorem row_empty (w : World) (e : TypeId) (sz : Nat) : (w.alloc (.cells #[] e)).ownsRow w.heap.size e sz (.slice (some ⟨w.heap.size, 0, none⟩) 0 0) 0 [] :=
  ⟨by simp, .inr ⟨w.heap.size, 0, #[], rfl, Nat.le_refl _, heap_alloc_new w _, Nat.le_refl _, by unfold maxLen; omega, by simp, by simp⟩⟩
/-- A given list behind an empty one of one's own. -/
theorem wpList_copy {w0 : World} {ops : Array Oper} {rest : List Oper} {o : Oper} {a : Act} {Q : Exit → Act → World → Prop} (hgd : o.guard = none) (s x : Operand) (t : TypeId)
    (ho : o.op = .call { callee := .builtin .append, args := #[s, x], argTypes := #[t, t] })
    (e : TypeId) (i : TypeInfo) (z : Value) (size bytes : Nat) (ht : Tryd.prog.underlying t = some (.slice e)) (hi : Tryd.prog.info? e = some i) (hz : i.zero = some z)
    (hsize : i.size = size) (hby : i.bytes = bytes) (hzs : z.cells.size = size) (hsz : 0 < size)
    (hnil : ∀ (g : Nat) (a : Option Addr) (c : Nat) (ty : TypeId) (w : World), (Builtin.append_ #[t, t] ty #[.slice (some ⟨g, 0, none⟩) 0 0, .slice a 0 c]).run Tryd.prog w = .ok (.slice (some ⟨g, 0, none⟩) 0 0) w)
    (hs : a.eval s = .slice (some ⟨w0.heap.size, 0, none⟩) 0 0)
    (ad : Option Addr) (m c : Nat) (news : List Value) (hx : a.eval x = .slice ad m c) (hl : news.length = m * size) (hnews : m = 0 ∨ ∃ p, ad = some p ∧ ∀ j u, news[j]? = some u → w0.cell? (p.add j) = some u) (h1 : ∀ u ∈ news, u.oneCell' = true)
    (h63 : m ≤ maxLen) (hbytes : m * bytes ≤ 140737488355328)
    (h : ∀ (g cap : Nat) w', w'.ownsRow w0.heap.size e size (.slice (some ⟨g, 0, none⟩) m cap) m news → Mod noBlock w0 w' → wpList Tryd.prog ops Q rest (a.put o.dst (.slice (some ⟨g, 0, none⟩) m cap)) w') :
    wpList Tryd.prog ops Q (o :: rest) a (w0.alloc (.cells #[] e)) := by
  have hm0 : Mod noBlock w0 (w0.alloc (.cells #[] e)) := (Mod.refl _ w0).alloc _
  by_cases hm : m = 0
  · subst hm
    have hn : news = [] := List.eq_nil_of_length_eq_zero (by simpa using hl)
    subst hn
    refine wpList_plain hgd fun K hK => ?_
    have hr := hnil w0.heap.size ad c o.type (w0.alloc (.cells #[] e))
    unfold Oper.wp execOp
    simp only [ho, resolve, invoke, builtin, Sem.run_bind, Sem.run_pure, Result.andThen_ok, List.map_toArray, List.map_cons, List.map_nil, hs, hx, hr]
    exact hK _ _ (h _ _ _ (row_empty w0 e size) hm0)
  · obtain ⟨p, rfl, hc⟩ := hnews.resolve_left hm
    refine wpList_append_own _ hgd s x t ho w0.heap.size e i z size bytes ht hi hz hsize hby hzs hsz _ 0 [] hs (row_empty w0 e size) p m c news hx hl (fun j u hu => hm0.cell (hc j u hu) id) h1 (by omega) (by rw [Nat.zero_add]; exact hbytes) (by simp) ?_
    intro v' w' hown hgrow hne
    have hm1 : Mod noBlock w0 w' := hm0.grown hgrow (fun x hx hlt => by simp [Value.ownBlock] at hx; omega)
    simp only [Nat.zero_add, List.nil_append] at hown
    rcases hown.2 with ⟨e0, e1⟩ | ⟨g, cap, cur, rfl, _⟩
    · exact absurd e1 hm
    · exact h g cap w' hown hm1
theorem append_emptyV (g : Nat) (a : Option Addr) (c : Nat) (ty : TypeId) (w : World) : (Builtin.append_ #[159, 159] ty #[.slice (some ⟨g, 0, none⟩) 0 0, .slice a 0 c]).run Tryd.prog w = .ok (.slice (some ⟨g, 0, none⟩) 0 0) w := by
  cases a <;> kernel_rfl
theorem versCells_inv : ∀ (os : List VerD) (j : Nat) (x : Value), (versCells os)[j]? = some x → ∃ (i r : Nat) (o : VerD), j = i * 3 + r ∧ os[i]? = some o ∧ (verCells o)[r]? = some x := fun os j x h => by
  have hj : j < os.length * 3 := by rw [← versCells_len]; exact (List.getElem?_eq_some_iff.1 h).1
  have hi : j / 3 < os.length := by omega
  have hr : j % 3 < (verCells os[j / 3]).length := by show j % 3 < 3; omega
  have h1 := versCells_cell os (j / 3) os[j / 3] (List.getElem?_eq_getElem hi) (j % 3) _ (List.getElem?_eq_getElem hr)
  rw [show j / 3 * 3 + j % 3 = j by omega, h] at h1
  simp only [Option.some.injEq] at h1
  exact ⟨j / 3, j % 3, os[j / 3], by omega, List.getElem?_eq_getElem hi, by rw [h1]; exact List.getElem?_eq_getElem hr⟩
set_option maxRecDepth 100000 in
/-- A copy of a list that lies somewhere. -/
theorem cloneV_any (p : Addr) (m c : Nat) (l : List VerD) (w : World) (hm : m = l.length) (hc : ∀ (j : Nat) u, (versCells l)[j]? = some u → w.cell? (p.add j) = some u) (hl : l.length ≤ 1000) :
    Calls Tryd.prog 131 #[.slice (some p) m c] w fun e w' => ∃ g cap, e = .returned (.slice (some ⟨g, 0, none⟩) m cap) ∧ w'.ownsRow w.heap.size 162 3 (.slice (some ⟨g, 0, none⟩) m cap) m (versCells l) ∧ Mod noBlock w w' := by
  obtain ⟨i0, hi, hz0, hz1, hz2⟩ := info_parts Tryd.info162
  have h63 : m ≤ maxLen := by unfold maxLen; omega
  have h47 : m * 32 ≤ 140737488355328 := by omega
  have HLC : Hid ((versCells l).length = m * 3) := by rw [hm]; exact versCells_len l
  have HFL : Hid (m = 0 ∨ ∃ q, some p = some q ∧ ∀ (j : Nat) u, (versCells l)[j]? = some u → w.cell? (q.add j) = some u) := .inr ⟨p, rfl, hc⟩
  have HON := Hid.mk'' (versCells_one l)
  have hen := run_eql_slice_nil (P := Tryd.prog) w 159 162 (some p) m c 0 0 Tryd.underlying159
  clear hc hm
  go_enter Tryd.func131, Tryd.ntmps131
  go_wp2_with (first
    | (at_builtin; (refine wpList_copy (w0 := w) rfl _ _ 159 rfl 162 i0 _ 3 32 Tryd.underlying159 hi hz0 hz1 hz2 rfl (by omega) append_emptyV rfl (some p) m c (versCells l) rfl HLC.out HFL.out HON.out h63 h47 ?_))
    | fail)
  intro g cap w2 hrow hm2
  go_wp2_with fail
  go_ret
  exact ⟨g, cap, rfl, hrow, hm2⟩
set_option maxRecDepth 100000 in
set_option maxHeartbeats 2000000 in
theorem left_any (L : Nat) (v : Value) (l : List VerD) (low : Int) (w : World) (hv : VersV w L v l) (hL : L ≤ w.heap.size) (hr : Rising l) (hl : l.length ≤ 1000) :
    Calls Tryd.prog 97 #[v, .int .i64 low] w fun e w' => Mod noBlock w w' ∧ ((e = .returned v ∧ leftL l low = l) ∨ ∃ u, e = .returned u ∧ w'.ownsRow w.heap.size 162 3 u (leftL l low).length (versCells (leftL l low))) := by
  have HB := Hid.mk'' (by_any L v l low w hv hL hr hl)
  have HV := Hid.mk'' hv
  obtain ⟨a, cap, rfl, hc1, hc2⟩ := SlR.slice hv
  have hle := byN_le l low
  have HD : Hid (dropN l low = if byN l low = 0 then 0 else match l[byN l low - 1]? with | none => 0 | some v => if v.gone then byN l low else byN l low - 1) := rfl
  unfold maxLen at hc2
  generalize byN l low = n at HB hle HD
  clear hv hr
  -- behind the count
  have HCL : Hid (∀ (k : Nat) (wq : World), Mod noBlock w wq → dropN l low = k → 0 < k → k ≤ l.length → ∃ b off, a = some ⟨b, off, none⟩ ∧ ∀ p c, (l.length = k ∨ p = ⟨b, off + k * 3, none⟩) → Calls Tryd.prog 131 #[.slice (some p) (l.length - k) c] wq fun e w' => ∃ g cap, e = .returned (.slice (some ⟨g, 0, none⟩) (l.length - k) cap) ∧ w'.ownsRow wq.heap.size 162 3 (.slice (some ⟨g, 0, none⟩) (l.length - k) cap) (l.length - k) (versCells (leftL l low)) ∧ Mod noBlock wq w') := fun k wq hq hk h0 hkl => by
    obtain ⟨d, hd⟩ : ∃ d, l[0]? = some d := ⟨_, List.getElem?_eq_getElem (by omega)⟩
    obtain ⟨b, off, rfl, _⟩ := HV.out.at hd
    have hll : (leftL l low).length = l.length - k := by unfold leftL; rw [List.length_drop, hk]
    refine ⟨b, off, rfl, fun p c hp => cloneV_any p _ _ (leftL l low) wq hll.symm (fun j u hu => ?_) (by have := left_len l low; omega)⟩
    obtain ⟨i, r, o, rfl, ho, hr⟩ := versCells_inv _ j u hu
    have hil := (List.getElem?_eq_some_iff.1 ho).1
    rcases hp with hp | rfl
    · omega
    rw [Go.WideShapes.add_plain]
    unfold leftL at ho
    rw [List.getElem?_drop, hk] at ho
    obtain ⟨b', off', e, _, _, q0, q1, q2⟩ := HV.out.at ho
    cases e
    have key : w.cell? ⟨b, off + (k + i) * 3 + r, none⟩ = some u := by
      match r, hr with
      | 0, hr => simp [verCells] at hr; rw [← hr]; exact q0
      | 1, hr => simp [verCells] at hr; rw [← hr]; exact q1
      | 2, hr => simp [verCells] at hr; rw [← hr]; exact q2
      | r + 3, hr => simp [verCells] at hr
    have := hq.cell key id
    rw [show off + k * 3 + (i * 3 + r) = off + (k + i) * 3 + r by omega]
    exact this
  have HLL : Hid (∀ k, dropN l low = k → (leftL l low).length = l.length - k) := fun k hk => by unfold leftL; rw [List.length_drop, hk]
  go_enter Tryd.func97, Tryd.ntmps97
  go_wp2_with fail
  refine HB.out.mono ?_
  rintro e w5 ⟨rfl, hm5⟩
  by_cases h0 : n = 0
  · subst h0
    have hD := HD.out
    simp only [if_true] at hD
    have HDD := Hid.mk'' hD
    clear hD
    go_wp2_with fail
    go_ret
    exact ⟨hm5, .inl ⟨rfl, by unfold leftL; rw [HDD.out]; simp⟩⟩
  · obtain ⟨d, hd⟩ : ∃ d, l[n - 1]? = some d := ⟨_, List.getElem?_eq_getElem (by omega)⟩
    obtain ⟨b, off, rfl, hbL, _, q0, q1, q2⟩ := HV.out.at hd
    have hD := HD.out
    rw [if_neg h0, hd] at hD
    simp only at hD
    obtain ⟨m, rfl⟩ : ∃ m, n = m + 1 := ⟨n - 1, by omega⟩
    have q2' := hm5.cell q2 id
    simp only [Nat.add_sub_cancel] at q2' hD
    have HDD := Hid.mk'' hD
    have HM5 := Hid.mk'' hm5
    generalize hg : d.gone = g at q2' HDD
    clear hg q0 q1 q2 hd hD hm5
    have hmI : (m : Int) < (l.length : Int) := by omega
    have hm0 : (0 : Int) ≤ (m : Int) := by omega
    cases g with
    | true =>
      have hkk : dropN l low = m + 1 := by rw [HDD.out]; rfl
      obtain ⟨b', off', e', hcl⟩ := HCL.out (m + 1) w5 HM5.out hkk (by omega) hle
      cases e'
      have HLK := Hid.mk'' (HLL.out _ hkk)
      clear HCL HLL HDD hkk
      by_cases hcap : cap = m + 1
      all_goals
        first
          | (have HC := Hid.mk'' (hcl ⟨b, off, none⟩ 0 (.inl (by omega))); rw [show l.length - (m + 1) = 0 by omega] at HC HLK; subst hcap)
          | have HC := Hid.mk'' (hcl ⟨b, off + (m + 1) * 3, none⟩ (cap - (m + 1)) (.inr rfl))
        clear hcl
        go_wp2_with fail
        refine HC.out.mono ?_
        rintro e w6 ⟨g, cap6, rfl, hrow, hm6⟩
        have HRW := Hid.mk'' (own_base hrow HM5.out.size)
        have HM6 := Hid.mk'' (HM5.out.trans hm6)
        clear hrow hm6
        go_wp2_with fail
        go_ret
        exact ⟨HM6.out, .inr ⟨_, rfl, by rw [HLK.out]; exact HRW.out⟩⟩
    | false =>
      have hkk : dropN l low = m := by rw [HDD.out]; rfl
      cases m with
      | zero =>
        have HDZ := Hid.mk'' hkk
        clear hkk HCL HLL HDD
        go_wp2_with fail
        go_ret
        exact ⟨HM5.out, .inl ⟨rfl, by unfold leftL; rw [HDZ.out]; simp⟩⟩
      | succ m =>
        obtain ⟨b', off', e', hcl⟩ := HCL.out (m + 1) w5 HM5.out hkk (by omega) (by omega)
        cases e'
        have HLK := Hid.mk'' (HLL.out _ hkk)
        have hne : (((m : Int) + 1) == 0) = false := by simp; omega
        have hcap : ¬ (cap = m + 1) := by omega
        have HC := Hid.mk'' (hcl ⟨b, off + (m + 1) * 3, none⟩ (cap - (m + 1)) (.inr rfl))
        clear hcl HCL HLL HDD hkk
        go_wp2_with fail
        all_goals
          refine HC.out.mono ?_
          rintro e w6 ⟨g, cap6, rfl, hrow, hm6⟩
          have HRW := Hid.mk'' (own_base hrow HM5.out.size)
          have HM6 := Hid.mk'' (HM5.out.trans hm6)
          clear hrow hm6
          go_wp2_with fail
          go_ret
          exact ⟨HM6.out, .inr ⟨_, rfl, by rw [HLK.out]; exact HRW.out⟩⟩
end Go.Proofs.YtefhgakcffhgaaaDoor
