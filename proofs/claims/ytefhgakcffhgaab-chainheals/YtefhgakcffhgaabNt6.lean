/- slices.Delete of one message; the program's Take. -/
import Derived.Test.YtefhgakcffhgaabNt5
import Derived.Lib.SliceRun
namespace Go.Proofs.Ytefhgakcffhgaab
open Go.RowKit Go.Lib Go.Maps

theorem Blk.setCells {g : Nat} {t : TypeId} : ∀ (vs : List Value) (w : World) (a old c : List Value), Blk w g (a ++ old ++ c) t → old.length = vs.length → Blk (w.setCells g a.length vs) g (a ++ vs ++ c) t
  | [], w, a, old, c, h, hl => by
    have : old = [] := List.eq_nil_of_length_eq_zero hl
    subst this; exact h
  | v :: vs, w, a, [], c, h, hl => by simp at hl
  | v :: vs, w, a, x :: old, c, h, hl => by
    have h1 := h.set a.length v
    have e : ((a ++ x :: old ++ c).set a.length v) = (a ++ [v]) ++ old ++ c := by simp
    rw [e] at h1
    have := Blk.setCells vs (w.setCell ⟨g, a.length, none⟩ v) (a ++ [v]) old c h1 (by simpa using hl)
    simp only [List.length_append, List.length_cons, List.length_nil] at this
    rw [World.setCells]
    simpa using this
theorem Mod.setCells {g : Nat} : ∀ (vs : List Value) (o : Nat) (w : World), Mod (oneBlock g) w (w.setCells g o vs)
  | [], _, _ => Mod.refl _ _
  | v :: vs, o, w => (Mod.setBlk g o v).trans (Mod.setCells vs (o + 1) (w.setCell ⟨g, o, none⟩ v))
theorem msgsCells_append : ∀ (a b : List MsgD) (ua ub : List Value), ua.length = a.length → msgsCells (a ++ b) (ua ++ ub) = msgsCells a ua ++ msgsCells b ub
  | [], b, [], ub, _ => by simp [msgsCells]
  | [], _, _ :: _, _, h => by simp at h
  | _ :: _, _, [], _, h => by simp at h
  | m :: a, b, u :: ua, ub, h => by simp [msgsCells, msgsCells_append a b ua ub (by simpa using h)]
def zero9 : List Value := [.int .i64 0, .int .i64 0, .int .i64 0, .int .i64 0, .int .i64 0, .int .i64 0, .int .i64 0, .int .i64 0, .slice none 0 0]
theorem zeroMsgV (w : World) : (zeroValue 51).run Try.prog w = .ok (.agg #[.int .i64 0, .int .i64 0, .int .i64 0, .int .i64 0, .int .i64 0, .int .i64 0, .int .i64 0, .int .i64 0, .slice none 0 0]) w := by kernel_rfl
theorem zero9_one : ∀ v ∈ zero9, v.oneCell' = true := by
  intro v hv; simp [zero9] at hv; rcases hv with rfl | rfl <;> rfl
theorem run_clear_one (w : World) (ty : TypeId) (b o c : Nat) (hc : ∀ j, j < 9 → (w.cell? ⟨b, o + j, none⟩).isSome = true) (hf : ∀ j, j < 9 → w.frozen? ⟨b, o + j, none⟩ = false) :
    (Builtin.clear_ #[35] ty #[.slice (some ⟨b, o, none⟩) 1 c]).run Try.prog w = .ok (.tuple #[]) (w.setCells b o zero9) := by
  have hst := run_storeCells_cells (P := Try.prog) b o zero9 0 w (by simpa [zero9] using hc) (by simpa [zero9] using hf) zero9_one
  simp only [Nat.add_zero] at hst
  have hzc : (Builtin.zeroCells (Value.agg #[.int .i64 0, .int .i64 0, .int .i64 0, .int .i64 0, .int .i64 0, .int .i64 0, .int .i64 0, .int .i64 0, .slice none 0 0]).cells 1).toList = zero9 := by kernel_rfl
  simp [Builtin.clear_, run_underlying Try.underlying35, hzc, hst]
theorem wpList_clear_one {w : World} {ops : Array Oper} {rest : List Oper} {o : Oper} {a : Act} {Q : Exit → Act → World → Prop} (hgd : o.guard = none) (s : Operand)
    (ho : o.op = .call { callee := .builtin .clear, args := #[s], argTypes := #[35] }) (b off n c : Nat) (hs : a.eval s = .slice (some ⟨b, off, none⟩) n c) (hn : n = 1)
    (hc : ∀ j, j < 9 → (w.cell? ⟨b, off + j, none⟩).isSome = true) (hf : ∀ j, j < 9 → w.frozen? ⟨b, off + j, none⟩ = false)
    (h : wpList Try.prog ops Q rest (a.put o.dst (.tuple #[])) (w.setCells b off zero9)) : wpList Try.prog ops Q (o :: rest) a w := by
  refine wpList_plain hgd fun K hK => ?_
  subst hn
  have hr := run_clear_one w o.type b off c hc hf
  unfold Oper.wp execOp
  simp only [ho, resolve, invoke, builtin, Sem.run_bind, Sem.run_pure, Result.andThen_ok, List.map_toArray, List.map_cons, List.map_nil, hs, hr]
  exact hK _ _ h

theorem msgs_one : ∀ (ms : List MsgD) (us : List Value), us.length = ms.length → (∀ (i : Nat) m u, ms[i]? = some m → us[i]? = some u → u.oneCell' = true) → ∀ x ∈ msgsCells ms us, x.oneCell' = true
  | [], _, _, _, x, hx => by simp [msgsCells] at hx
  | _ :: _, [], h, _, _, _ => by simp at h
  | m :: ms, u :: us, h, hu, x, hx => by
    rw [msgsCells] at hx
    rcases List.mem_append.1 hx with hx | hx
    · have h0 := hu 0 m u rfl rfl
      simp [msgCells] at hx
      rcases hx with rfl | rfl | rfl | rfl | rfl | rfl | rfl | rfl | rfl
      · rfl
      · rfl
      · rfl
      · rfl
      · rfl
      · rfl
      · rfl
      · rfl
      · exact h0
    · exact msgs_one ms us (by simpa using h) (fun i m' u' h1 h2 => hu (i + 1) m' u' (by simpa using h1) (by simpa using h2)) x hx
theorem mid_split {α : Type} (A X R : List α) (k : Nat) : A ++ X.take k ++ (X.drop k ++ R) = A ++ X ++ R := by
  rw [List.append_assoc, List.append_assoc, ← List.append_assoc (X.take k), List.take_append_drop]

set_option maxRecDepth 100000 in
set_option maxHeartbeats 1000000 in
theorem delete_any (L : Nat) (m1 m2 : List MsgD) (m : MsgD) (v : Value) (w : World) (hR : RowM w L v (m1 ++ m :: m2)) (hf : (m1 ++ m :: m2).length ≤ 200) :
    Calls Try.prog 45 #[v, .int .i64 m1.length, .int .i64 ((m1.length : Int) + 1)] w fun e w' => ∃ v', e = .returned v' ∧ RowM w' L v' (m1 ++ m2) ∧ v'.ownBlock = v.ownBlock ∧ Mod (fun x => v.ownBlock = some x) w w' := by
  obtain ⟨i0, hi, hz0, hz1, hz2⟩ := info_parts Try.info51
  obtain ⟨us, hus, hrow, hps, hgd⟩ := hR
  rcases hrow.2 with ⟨_, h0⟩ | ⟨g, cap, cur, rfl, hLg, hg, hcap, hcm, hcs, htk⟩
  · simp at h0
  unfold maxLen at hcm
  have hlen : (m1 ++ m :: m2).length = m1.length + 1 + m2.length := by simp; omega
  rw [hlen] at hcap hf ⊢
  have hne : (((m1.length : Int)) == (m1.length : Int) + 1) = false := by
    rw [beq_eq_false_iff_ne]; omega
  obtain ⟨us1, u, us2, husp, hl1, hl2⟩ : ∃ us1 u us2, us = us1 ++ u :: us2 ∧ us1.length = m1.length ∧ us2.length = m2.length := by
    rw [hlen] at hus
    have h1 : m1.length < us.length := by omega
    refine ⟨us.take m1.length, us[m1.length], us.drop (m1.length + 1), ?_, by rw [List.length_take]; omega, by rw [List.length_drop]; omega⟩
    rw [← List.drop_eq_getElem_cons h1, List.take_append_drop]
  subst husp
  have hcells : msgsCells (m1 ++ m :: m2) (us1 ++ u :: us2) = msgsCells m1 us1 ++ (msgCells m u ++ msgsCells m2 us2) := by
    rw [msgsCells_append _ _ _ _ hl1, msgsCells]
  obtain ⟨R, hR⟩ : ∃ R, cur.toList = msgsCells m1 us1 ++ (msgCells m u ++ msgsCells m2 us2) ++ R := by
    refine ⟨cur.toList.drop ((m1 ++ m :: m2).length * 9), ?_⟩
    rw [← hcells, ← htk, List.take_append_drop]
  have lA := msgsCells_len m1 us1 hl1
  have lB := msgsCells_len m2 us2 hl2
  have hB0 : Blk w g (msgsCells m1 us1 ++ (msgCells m u ++ msgsCells m2 us2) ++ R) 51 := by
    rw [Blk, ← hR]; exact hg
  have lR : (msgsCells m1 us1 ++ (msgCells m u ++ msgsCells m2 us2) ++ R).length = cap * 9 := by rw [← hR]; simpa using hcs
  simp only [List.length_append, lA, lB, show (msgCells m u).length = 9 from rfl] at lR
  obtain ⟨A, hA⟩ : ∃ A, A = msgsCells m1 us1 := ⟨_, rfl⟩
  obtain ⟨M, hM⟩ : ∃ M, M = msgCells m u := ⟨_, rfl⟩
  obtain ⟨B, hB⟩ : ∃ B, B = msgsCells m2 us2 := ⟨_, rfl⟩
  rw [← hA] at lA hB0
  rw [← hB] at lB hB0
  rw [← hM] at hB0
  have lM : M.length = 9 := by rw [hM]; rfl
  have hone : ∀ x ∈ B, x.oneCell' = true := by
    rw [hB]
    refine msgs_one m2 us2 hl2 (fun i m' u' h1 h2 => ?_)
    obtain ⟨ua, ucap, e, _⟩ := hps (m1.length + 1 + i) m' u' (by rw [List.getElem?_append_right (by omega), show m1.length + 1 + i - m1.length = i + 1 by omega, List.getElem?_cons_succ]; exact h1) (by rw [List.getElem?_append_right (by omega), hl1, show m1.length + 1 + i - m1.length = i + 1 by omega, List.getElem?_cons_succ]; exact h2)
    rw [e]; rfl
  have hcB : ∀ (j : Nat) x, B[j]? = some x → w.drew.cell? ((⟨g, (m1.length + 1) * 9, none⟩ : Addr).add j) = some x := fun j x hx => by
    rw [Go.WideShapes.add_plain]
    exact hB0.cell _ (by
      rw [List.append_assoc, List.getElem?_append_right (by omega), lA, List.append_assoc, List.getElem?_append_right (by omega), lM]
      have hj := (List.getElem?_eq_some_iff.1 hx).1
      rw [List.getElem?_append_left (by omega)]
      rw [show (m1.length + 1) * 9 + j - m1.length * 9 - 9 = j by omega]; exact hx)
  have hspare : ∀ j, j < B.length → (w.drew.cell? ⟨g, 0 + m1.length * 9 + j, none⟩).isSome = true ∧ w.drew.frozen? ⟨g, 0 + m1.length * 9 + j, none⟩ = false := fun j hj => by
    refine ⟨?_, hB0.frozen _⟩
    obtain ⟨x, hx⟩ : ∃ x, (A ++ (M ++ B) ++ R)[0 + m1.length * 9 + j]? = some x := ⟨_, List.getElem?_eq_getElem (by simp only [List.length_append]; omega)⟩
    rw [show w.drew.cell? ⟨g, 0 + m1.length * 9 + j, none⟩ = some x from hB0.cell _ hx]; rfl
  have HB := Hid.mk' hB0
  have HCB := Hid.mk' hcB
  have HSP := Hid.mk' hspare
  have HON := Hid.mk' hone
  have HPS := Hid.mk' hps
  have HGD := Hid.mk' hgd
  have HA := Hid.mk' hA
  have HBB := Hid.mk' hB
  clear hB0 hcB hspare hone hps hgd hg hcs htk hrow hcells hR hus hA hM hB
  have hroom : m1.length + m2.length ≤ cap := by omega
  have hb1 : m1.length ≤ cap := by omega
  have hb2 : (m1.length : Int) + 1 ≤ (m1.length : Int) + 1 + (m2.length : Int) := by omega
  have hb4 : 0 ≤ (m1.length : Int) + 1 := by omega
  go_enter Try.func45, Try.ntmps45
  go_upto_region 5 with fail
  go_cut [0] (fun v0 wc => v0 = .slice (some ⟨g, 0, none⟩) (m1.length + m2.length) cap ∧ (∃ tail : List Value, tail.length = 9 ∧ Blk wc g (A ++ B ++ (tail ++ R)) 51) ∧ Mod (oneBlock g) w wc)
  case first =>
    have HF : Hid ((∃ tail : List Value, tail.length = 9 ∧ Blk (w.drew.setCells g (m1.length * 9) B) g (A ++ B ++ (tail ++ R)) 51) ∧ Mod (oneBlock g) w (w.drew.setCells g (m1.length * 9) B)) := by
      have e : m1.length * 9 = A.length := by omega
      rw [Hid, e]
      refine ⟨⟨(M ++ B).drop B.length, by simp; omega, ?_⟩, ((Mod.refl (oneBlock g) w).drew).trans (Mod.setCells B A.length w.drew)⟩
      have := Blk.setCells (g := g) (t := 51) B w.drew A ((M ++ B).take B.length) ((M ++ B).drop B.length ++ R) (by
        have := HB.out
        rw [Blk] at this ⊢
        rw [mid_split]
        exact this) (by simp)
      exact this
    by_cases hc1 : m1.length + 1 < cap
    · have hb3 : ¬ cap = m1.length + 1 := by omega
      go_region_law
        ((first
          | (refine step_append_room (by rfl) _ _ _ (by rfl) 51 i0 9 Try.underlying35 hi hz1 g 0 m1.length cap (by rfl) ⟨g, (m1.length + 1) * 9, none⟩ m2.length _ B (by rfl) lB HCB.out HON.out hroom HSP.out ?_)
          | fail))
      all_goals
        go_wp2_with fail
        go_meet
        case rel => exact ⟨rfl, HF.out⟩
    · obtain rfl : cap = m1.length + 1 := by omega
      obtain rfl : m2 = [] := List.eq_nil_of_length_eq_zero (by omega)
      have hb8 : (m1.length : Int) ≤ (m1.length : Int) + 1 := by omega
      have hBn : B = [] := List.eq_nil_of_length_eq_zero lB
      have HCB' : Hid (∀ (j : Nat) x, B[j]? = some x → w.drew.cell? ((⟨g, 0, none⟩ : Addr).add j) = some x) := fun j x hx => by rw [hBn] at hx; simp at hx
      have HBN := Hid.mk' hBn
      clear hBn
      go_region_law
        ((first
          | (refine step_append_room (by rfl) _ _ _ (by rfl) 51 i0 9 Try.underlying35 hi hz1 g 0 m1.length cap (by rfl) ⟨g, 0, none⟩ 0 _ B (by rfl) lB HCB'.out HON.out hroom HSP.out ?_)
          | fail))
      all_goals
        go_wp2_with fail
        go_meet
        case rel => exact ⟨rfl, by have := HF.out; rw [show w.drew.setCells g (m1.length * 9) B = w.drew by rw [HBN.out]; rfl] at this; exact this⟩
  case rest =>
    obtain ⟨rfl, ⟨tail, htl, hB1⟩, hM1⟩ := hcut
    have hcz : ∀ j, j < 9 → (wc.cell? ⟨g, (m1.length + m2.length) * 9 + j, none⟩).isSome = true := fun j hj => by
      obtain ⟨x, hx⟩ : ∃ x, (A ++ B ++ (tail ++ R))[(m1.length + m2.length) * 9 + j]? = some x := ⟨_, List.getElem?_eq_getElem (by simp only [List.length_append]; omega)⟩
      rw [show wc.cell? ⟨g, (m1.length + m2.length) * 9 + j, none⟩ = some x from hB1.cell _ hx]; rfl
    have hfz : ∀ j, j < 9 → wc.frozen? ⟨g, (m1.length + m2.length) * 9 + j, none⟩ = false := fun j _ => hB1.frozen _
    have HCZ := Hid.mk' hcz
    have HFZ := Hid.mk' hfz
    have hb6 : (m1.length : Int) + (m2.length : Int) ≤ (m1.length : Int) + 1 + (m2.length : Int) := by omega
    have hb7 : ¬ cap = m1.length + m2.length := by omega
    clear hcz hfz HCB HSP HON
    go_wp2_with (first
      | (refine wpList_clear_one rfl _ rfl g ((m1.length + m2.length) * 9) _ _ rfl (by omega) HCZ.out HFZ.out ?_)
      | fail)
    go_ret
    have e : (m1.length + m2.length) * 9 = (A ++ B).length := by rw [List.length_append]; omega
    have hB2 : Blk (wc.setCells g ((m1.length + m2.length) * 9) zero9) g (A ++ B ++ zero9 ++ R) 51 := by
      rw [e]
      exact Blk.setCells zero9 wc (A ++ B) tail R (by rw [List.append_assoc (A ++ B)]; exact hB1) (by rw [htl]; rfl)
    have hM2 : Mod (oneBlock g) w (wc.setCells g ((m1.length + m2.length) * 9) zero9) := hM1.trans (Mod.setCells _ _ _)
    have hq : Qm w L (oneBlock g) := fun k _ ek => by
      simp only [oneBlock] at ek; subst ek
      have := HB.out; rw [Blk] at this
      rintro (e1 | ⟨cur', fr, e1⟩)
      · omega
      · rw [this] at e1; simp at e1
    refine ⟨_, rfl, ⟨us1 ++ us2, by simp [hl1, hl2], ⟨?_, .inr ⟨g, cap, (A ++ B ++ zero9 ++ R).toArray, by simp, hLg, hB2, by simp; omega, by unfold maxLen; omega, ?_, ?_⟩⟩, ?_, ?_⟩, rfl, hM2.mono (fun i _ ei => by simp only [oneBlock] at ei; rw [ei]; rfl)⟩
    · rw [msgsCells_len _ _ (by simp [hl1, hl2])]
    · simp only [List.size_toArray, List.length_append, show zero9.length = 9 from rfl]; omega
    · rw [msgsCells_append _ _ _ _ hl1, ← HA.out, ← HBB.out, List.length_append, e, List.append_assoc (A ++ B), List.take_left]
    · intro i m' u' hi' hu'
      refine PairsT.mod ?_ hM2 hq
      by_cases hlt : i < m1.length
      · rw [List.getElem?_append_left hlt] at hi'
        rw [List.getElem?_append_left (by omega)] at hu'
        exact HPS.out i m' u' (by rw [List.getElem?_append_left hlt]; exact hi') (by rw [List.getElem?_append_left (by omega)]; exact hu')
      · rw [List.getElem?_append_right (by omega)] at hi' hu'
        refine HPS.out (i + 1) m' u' ?_ ?_
        · rw [List.getElem?_append_right (by omega), show i + 1 - m1.length = i - m1.length + 1 by omega, List.getElem?_cons_succ]; exact hi'
        · rw [List.getElem?_append_right (by omega), show i + 1 - us1.length = i - us1.length + 1 by omega, List.getElem?_cons_succ]; exact hu'
    · intro m' hm'
      refine HGD.out m' ?_
      rcases List.mem_append.1 hm' with h | h
      · exact List.mem_append.2 (.inl h)
      · exact List.mem_append.2 (.inr (List.mem_cons_of_mem _ h))
end Go.Proofs.Ytefhgakcffhgaab
