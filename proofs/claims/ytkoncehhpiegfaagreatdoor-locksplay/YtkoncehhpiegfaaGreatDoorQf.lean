/- slices.IndexFunc, ContainsFunc, DeleteFunc over claims, with any closure that asks one claim. -/
import Derived.Test.YtkoncehhpiegfaaGreatDoorQd
import Derived.Lib.SliceRun
namespace Go.Proofs.YtkoncehhpiegfaaGreatDoor
open Go.RowKit Go.Lib Go.Maps
set_option linter.unusedVariables false

/-- A closure that asks a claim, by what lies in block q. -/
structure AskQ (f q : Nat) (p : ClmD → Bool) (w : World) : Prop where
  enter : ∀ (args : Array Value) (w : World), (callFunc f args).run Tryz.prog w = .ok (.enter f args) w
  ask : ∀ (d : ClmD) (wr : World), wr.heap[q]? = w.heap[q]? →
    Calls Tryz.prog f #[.agg #[.int .i64 d.tx, .int .i64 d.mode], .pointer (some ⟨q, 0, none⟩)] wr fun e w' => e = .returned (.bool (p d)) ∧ Mod noBlock wr w'
theorem AskQ.keep {f q : Nat} {p : ClmD → Bool} {w w' : World} (h : AskQ f q p w) (he : w'.heap[q]? = w.heap[q]?) : AskQ f q p w' := ⟨h.enter, fun d wr hr => h.ask d wr (hr.trans he)⟩
theorem enterQ {f : FuncId} {fn : Func} {c : Code} (hf : Tryz.prog.funcs[f]? = some fn) (hname : (fn.name == "runtime.NumGoroutine") = false) (hb : fn.body = some c) (args : Array Value) (w : World) : (callFunc f args).run Tryz.prog w = .ok (.enter f args) w := by
  have h1 : fn.name ≠ "runtime.NumGoroutine" := by simpa using hname
  simp [callFunc, hf, h1, hb]
def firstQ (p : ClmD → Bool) : List ClmD → Option Nat
  | [] => none
  | m :: ms => if p m then some 0 else (firstQ p ms).map (· + 1)
theorem firstQ_at (p : ClmD → Bool) : ∀ (ms : List ClmD) (k : Nat), (∀ i m, i < k → ms[i]? = some m → p m = false) → ∀ m, ms[k]? = some m → p m = true → firstQ p ms = some k
  | [], _, _, m, h, _ => by simp at h
  | m' :: ms, 0, _, m, h, hs => by simp at h; subst h; simp [firstQ, hs]
  | m' :: ms, k + 1, hf, m, h, hs => by
    have h0 := hf 0 m' (by omega) rfl
    have := firstQ_at p ms k (fun i m hi hm => hf (i + 1) m (by omega) (by simpa using hm)) m (by simpa using h) hs
    simp [firstQ, h0, this]
theorem firstQ_none (p : ClmD → Bool) : ∀ (ms : List ClmD), (∀ (i : Nat) m, ms[i]? = some m → p m = false) → firstQ p ms = none
  | [], _ => rfl
  | m :: ms, h => by
    have h0 := h 0 m rfl
    simp [firstQ, h0, firstQ_none p ms (fun i m hm => h (i + 1) m (by simpa using hm))]
theorem firstQ_any (p : ClmD → Bool) : ∀ (ms : List ClmD), (firstQ p ms).isSome = ms.any p
  | [] => rfl
  | m :: ms => by
    unfold firstQ
    by_cases h : p m = true
    · simp [h]
    · simp [h, firstQ_any p ms]
def firstQI (o : Option Nat) : Int := match o with | none => -1 | some k => k
set_option maxRecDepth 100000 in
set_option maxHeartbeats 1000000 in
theorem indexQ_any (f q L : Nat) (p : ClmD → Bool) (v : Value) (ms : List ClmD) (w : World) (hv : ClmsV w L v ms) (hA : AskQ f q p w) (hq : q < w.heap.size) (hf : ms.length ≤ 1000) :
    Calls Tryz.prog 51 #[v, .func (.func f) #[] #[.pointer (some ⟨q, 0, none⟩)]] w fun e w' => e = .returned (.int .i64 (firstQI (firstQ p ms))) ∧ Mod noBlock w w' := by
  have HV := Hid.mkq hv
  obtain ⟨a, cap, rfl, hc1, hc2⟩ := SlR.slice hv
  have HA := Hid.mkq hA
  have hen := hA.enter
  clear hv hA
  go_enter Tryz.func51, Tryz.ntmps51
  go_wp2_with fail
  go_loopw [8] (fun i wr => ∃ k : Nat, k ≤ ms.length ∧ i = .int .i64 k ∧ (∀ i m, i < k → ms[i]? = some m → p m = false) ∧ Mod noBlock w wr) (fun i _ => ms.length - (intOf i).toNat)
  case atStart => exact ⟨0, Nat.zero_le _, rfl, fun i m h => by omega, Mod.refl _ _⟩
  case round =>
    obtain ⟨k, hk, rfl, hno, hM⟩ := hrel
    have HNO := Hid.mkq hno
    have HM := Hid.mkq hM
    clear hno hM
    by_cases hlt : k < ms.length
    · obtain ⟨m, hm⟩ : ∃ m, ms[k]? = some m := ⟨_, List.getElem?_eq_getElem hlt⟩
      obtain ⟨b, off, rfl, _, q0, q1⟩ := HV.out.at hm
      have p0 := HM.out.cell q0 id
      have p1 := HM.out.cell q1 id
      have HC := Hid.mkq (HA.out.ask m wr (HM.out.block q hq id))
      have HMM := Hid.mkq hm
      have hltI : (k : Int) < (ms.length : Int) := by omega
      have hlt0 : (0 : Int) ≤ (k : Int) := by omega
      clear hm q0 q1
      go_wp2_with fail
      refine HC.out.mono ?_
      rintro e w5 ⟨rfl, hm5⟩
      have HM5 := Hid.mkq (HM.out.trans hm5)
      clear HC p0 p1 hm5
      cases hs : p m with
      | true =>
        have HF := Hid.mkq (firstQ_at p ms k HNO.out m HMM.out hs)
        go_wp2_with fail
        go_ret
        exact ⟨by rw [HF.out]; rfl, HM5.out⟩
      | false =>
        go_wp2_with fail
        go_roundw
        case rel =>
          refine ⟨k + 1, by omega, by go_num, fun i m' hi' hm' => ?_, HM5.out⟩
          by_cases hik : i < k
          · exact HNO.out i m' hik hm'
          · obtain rfl : i = k := by omega
            rw [HMM.out] at hm'; cases hm'; exact hs
        case measure => simp [intOf]; omega
    · have HF := Hid.mkq (firstQ_none p ms (fun i m hm => HNO.out i m (by have := (List.getElem?_eq_some_iff.1 hm).1; omega) hm))
      go_wp2_with fail
      go_ret
      exact ⟨by rw [HF.out]; rfl, HM.out⟩
theorem containsQ_any (f q L : Nat) (p : ClmD → Bool) (v : Value) (ms : List ClmD) (w : World) (hv : ClmsV w L v ms) (hA : AskQ f q p w) (hq : q < w.heap.size) (hf : ms.length ≤ 1000) :
    Calls Tryz.prog 38 #[v, .func (.func f) #[] #[.pointer (some ⟨q, 0, none⟩)]] w fun e w' => e = .returned (.bool (ms.any p)) ∧ Mod noBlock w w' := by
  have HI := Hid.mkq (indexQ_any f q L p v ms w hv hA hq hf)
  obtain ⟨a, cap, rfl, hc1, hc2⟩ := SlR.slice hv
  have HAN : Hid (decide (firstQI (firstQ p ms) ≥ 0) = ms.any p) := by
    rw [Hid, ← firstQ_any]
    cases firstQ p ms with
    | none => rfl
    | some k => simp [firstQI]
  clear hv hA
  go_enter Tryz.func38, Tryz.ntmps38
  go_wp2_with fail
  refine HI.out.mono ?_
  rintro e w1 ⟨rfl, hm⟩
  go_wp2_with fail
  go_ret
  exact ⟨by rw [← HAN.out]; rfl, hm⟩

def zeroClmA : Array Value := #[.int .i64 0, .int .i64 0]
def zerosQ (n : Nat) : List Value := (Builtin.zeroCells zeroClmA n).toList
theorem zerosQ_len (n : Nat) : (zerosQ n).length = n * 2 := by rw [zerosQ, Array.length_toList, size_zeroCells]; rfl
theorem zerosQ_one (n : Nat) : ∀ v ∈ zerosQ n, v.oneCell' = true := by
  intro v hv
  simp only [zerosQ, Builtin.zeroCells, Array.toList_map, List.mem_map] at hv
  obtain ⟨i, _, rfl⟩ := hv
  have h9 : ∀ j, j < 2 → (zeroClmA[j]!).oneCell' = true := by
    intro j hj
    match j, hj with
    | 0, _ => rfl
    | 1, _ => rfl
  exact h9 _ (Nat.mod_lt _ (by decide))
theorem zeroClmV (w : World) : (zeroValue 61).run Tryz.prog w = .ok (.agg #[.int .i64 0, .int .i64 0]) w := by kernel_rfl
theorem run_clearQ (w : World) (ty : TypeId) (b o n c : Nat) (hn : 0 < n) (hc : ∀ j, j < n * 2 → (w.cell? ⟨b, o + j, none⟩).isSome = true) (hf : ∀ j, j < n * 2 → w.frozen? ⟨b, o + j, none⟩ = false) :
    (Builtin.clear_ #[57] ty #[.slice (some ⟨b, o, none⟩) n c]).run Tryz.prog w = .ok (.tuple #[]) (w.setCells b o (zerosQ n)) := by
  have hst := run_storeCells_cells (P := Tryz.prog) b o (zerosQ n) 0 w (by simpa [zerosQ_len] using hc) (by simpa [zerosQ_len] using hf) (zerosQ_one n)
  simp only [Nat.add_zero] at hst
  obtain ⟨m, rfl⟩ : ∃ m, n = m + 1 := ⟨n - 1, by omega⟩
  have hz := zeroClmV
  have e : (Value.agg #[.int .i64 0, .int .i64 0]).cells = zeroClmA := rfl
  simp only [zerosQ] at hst ⊢
  simp [Builtin.clear_, run_underlying Tryz.underlying57, hz, e, hst]
theorem wpList_clearQ {w : World} {ops : Array Oper} {rest : List Oper} {o : Oper} {a : Act} {Q : Exit → Act → World → Prop} (hgd : o.guard = none) (s : Operand)
    (ho : o.op = .call { callee := .builtin .clear, args := #[s], argTypes := #[57] }) (b off n c : Nat) (hs : a.eval s = .slice (some ⟨b, off, none⟩) n c) (hn : 0 < n)
    (hc : ∀ j, j < n * 2 → (w.cell? ⟨b, off + j, none⟩).isSome = true) (hf : ∀ j, j < n * 2 → w.frozen? ⟨b, off + j, none⟩ = false)
    (h : wpList Tryz.prog ops Q rest (a.put o.dst (.tuple #[])) (w.setCells b off (zerosQ n))) : wpList Tryz.prog ops Q (o :: rest) a w := by
  refine wpList_plain hgd fun K hK => ?_
  have hr := run_clearQ w o.type b off n c hn hc hf
  unfold Oper.wp execOp
  simp only [ho, resolve, invoke, builtin, Sem.run_bind, Sem.run_pure, Result.andThen_ok, List.map_toArray, List.map_cons, List.map_nil, hs, hr]
  exact hK _ _ h
theorem Blk.midQ {g : Nat} {t : TypeId} : ∀ (vs : List Value) (w : World) (a old c : List Value), Blk w g (a ++ old ++ c) t → old.length = vs.length → Blk (w.setCells g a.length vs) g (a ++ vs ++ c) t
  | [], w, a, old, c, h, hl => by
    have : old = [] := List.eq_nil_of_length_eq_zero hl
    subst this; exact h
  | v :: vs, w, a, [], c, h, hl => by simp at hl
  | v :: vs, w, a, x :: old, c, h, hl => by
    have h1 := h.set a.length v
    have e : ((a ++ x :: old ++ c).set a.length v) = (a ++ [v]) ++ old ++ c := by simp
    rw [e] at h1
    have := Blk.midQ vs (w.setCell ⟨g, a.length, none⟩ v) (a ++ [v]) old c h1 (by simpa using hl)
    simp only [List.length_append, List.length_cons, List.length_nil] at this
    rw [World.setCells]
    simpa using this
theorem Mod.midQ {g : Nat} : ∀ (vs : List Value) (o : Nat) (w : World), Mod (oneBlock g) w (w.setCells g o vs)
  | [], _, _ => Mod.refl _ _
  | v :: vs, o, w => (Mod.setBlk g o v).trans (Mod.midQ vs (o + 1) (w.setCell ⟨g, o, none⟩ v))
theorem mid_splitQ {α : Type} (A X R : List α) (k : Nat) : A ++ X.take k ++ (X.drop k ++ R) = A ++ X ++ R := by
  rw [List.append_assoc, List.append_assoc, ← List.append_assoc (X.take k), List.take_append_drop]
theorem drop_consQ {α : Type} {l : List α} {j : Nat} {x : α} (h : l[j]? = some x) : l.drop j = x :: l.drop (j + 1) := by
  have hj : j < l.length := (List.getElem?_eq_some_iff.1 h).1
  rw [List.getElem?_eq_getElem hj] at h; simp at h
  rw [← h, ← List.drop_eq_getElem_cons hj]
theorem take_snocQ {α : Type} {l : List α} {j : Nat} {x : α} (h : l[j]? = some x) : l.take (j + 1) = l.take j ++ [x] := by
  have hj : j < l.length := (List.getElem?_eq_some_iff.1 h).1
  rw [List.getElem?_eq_getElem hj] at h; simp at h
  rw [List.take_succ_eq_append_getElem hj, h]
def keepQ (p : ClmD → Bool) (ms : List ClmD) : List ClmD := ms.filter (fun m => !p m)
theorem keepQ_snoc (p : ClmD → Bool) (ms : List ClmD) (m : ClmD) : keepQ p (ms ++ [m]) = if p m then keepQ p ms else keepQ p ms ++ [m] := by
  unfold keepQ; rw [List.filter_append]
  cases h : p m <;> simp [h]
theorem firstQ_all (p : ClmD → Bool) : ∀ ms, firstQ p ms = none → keepQ p ms = ms
  | [], _ => rfl
  | m :: ms, h => by
    unfold firstQ at h
    split at h
    · cases h
    · rename_i hs
      have hs' : p m = false := by simpa using hs
      have := firstQ_all p ms (by simpa using h)
      unfold keepQ at this ⊢
      rw [List.filter_cons, if_pos (by simp [hs']), this]
theorem firstQ_some (p : ClmD → Bool) : ∀ ms k, firstQ p ms = some k → k < ms.length ∧ keepQ p (ms.take (k + 1)) = ms.take k
  | [], _, h => by simp [firstQ] at h
  | m :: ms, k, h => by
    unfold firstQ at h
    split at h
    · rename_i hs
      simp at h; subst h
      refine ⟨by simp, ?_⟩
      simp [keepQ, hs]
    · rename_i hs
      have hs' : p m = false := by simpa using hs
      obtain ⟨k', hk', rfl⟩ := Option.map_eq_some_iff.1 h
      obtain ⟨h1, h2⟩ := firstQ_some p ms k' hk'
      refine ⟨by simp; omega, ?_⟩
      unfold keepQ at h2 ⊢
      rw [List.take_succ_cons, List.filter_cons, if_pos (by simp [hs']), h2, List.take_succ_cons]
/-- DeleteFunc's loop: what is kept so far, what lies between, what is still to be looked at. -/
def DelQ (w wr : World) (b : Nat) (p : ClmD → Bool) (ms : List ClmD) (R : List Value) (i j : Nat) : Prop :=
  ∃ mid : List Value, i = (keepQ p (ms.take j)).length ∧ mid.length = (j - i) * 2 ∧ i < j ∧ j ≤ ms.length ∧
    Blk wr b (clmsCells (keepQ p (ms.take j)) ++ mid ++ (clmsCells (ms.drop j) ++ R)) 61 ∧ Mod (oneBlock b) w wr
theorem DelQ.start {w wr : World} {b k0 : Nat} {p : ClmD → Bool} {ms : List ClmD} {R : List Value} (hk : k0 < ms.length) (hkt : keepQ p (ms.take (k0 + 1)) = ms.take k0) (hB : Blk w b (clmsCells ms ++ R) 61) (hm : Mod noBlock w wr) : DelQ w wr b p ms R k0 (k0 + 1) := by
  obtain ⟨m, hm0⟩ : ∃ m, ms[k0]? = some m := ⟨_, List.getElem?_eq_getElem hk⟩
  have hms : ms = ms.take k0 ++ m :: ms.drop (k0 + 1) := by
    rw [← drop_consQ hm0, List.take_append_drop]
  refine ⟨clmCells m, by rw [hkt, List.length_take]; omega, by simp [clmCells], by omega, by omega, ?_, hm.mono (fun _ _ e => e.elim)⟩
  rw [hkt]
  have := hB.mod hm id
  have e : clmsCells ms = clmsCells (ms.take k0) ++ (clmCells m ++ clmsCells (ms.drop (k0 + 1))) := by
    conv => lhs; rw [hms]
    rw [clmsCells_app, clmsCells]
  rw [e] at this
  simpa [List.append_assoc] using this
theorem DelQ.look {w wr : World} {b i j : Nat} {p : ClmD → Bool} {ms : List ClmD} {R : List Value} (h : DelQ w wr b p ms R i j) {m : ClmD} (hm : ms[j]? = some m) :
    ∀ n x, (clmCells m)[n]? = some x → wr.cell? ⟨b, j * 2 + n, none⟩ = some x := by
  obtain ⟨mid, h1, h3, h4, h5, h6, h8⟩ := h
  intro n x hx
  have hn : n < 2 := (List.getElem?_eq_some_iff.1 hx).1
  refine h6.cell _ ?_
  rw [drop_consQ hm, clmsCells]
  have l1 := clmsCells_len (keepQ p (ms.take j))
  rw [List.getElem?_append_right (by rw [List.length_append]; omega), List.length_append, l1, h3, ← h1]
  rw [show j * 2 + n - (i * 2 + (j - i) * 2) = n by omega, List.append_assoc, List.getElem?_append_left hn]
  exact hx
theorem DelQ.skip {w wr wr' : World} {b i j : Nat} {p : ClmD → Bool} {ms : List ClmD} {R : List Value} (h : DelQ w wr b p ms R i j) {m : ClmD} (hm : ms[j]? = some m) (hs : p m = true) (hmd : Mod noBlock wr wr') :
    DelQ w wr' b p ms R i (j + 1) := by
  obtain ⟨mid, h1, h3, h4, h5, h6, h8⟩ := h
  have hj : j < ms.length := (List.getElem?_eq_some_iff.1 hm).1
  have e : keepQ p (ms.take (j + 1)) = keepQ p (ms.take j) := by rw [take_snocQ hm, keepQ_snoc, if_pos hs]
  refine ⟨mid ++ clmCells m, by rw [e]; exact h1, by rw [List.length_append, h3]; simp [clmCells]; omega, by omega, by omega, ?_, h8.trans (hmd.mono (fun _ _ e => e.elim))⟩
  rw [e]
  have := h6.mod hmd id
  rw [drop_consQ hm, clmsCells] at this
  simpa [List.append_assoc] using this
theorem DelQ.keep {w wr wr' : World} {b i j : Nat} {p : ClmD → Bool} {ms : List ClmD} {R : List Value} (h : DelQ w wr b p ms R i j) {m : ClmD} (hm : ms[j]? = some m) (hs : p m = false) (hmd : Mod noBlock wr wr') :
    DelQ w (wr'.setCells b (i * 2) (clmCells m)) b p ms R (i + 1) (j + 1) := by
  obtain ⟨mid, h1, h3, h4, h5, h6, h8⟩ := h
  have hj : j < ms.length := (List.getElem?_eq_some_iff.1 hm).1
  have e : keepQ p (ms.take (j + 1)) = keepQ p (ms.take j) ++ [m] := by rw [take_snocQ hm, keepQ_snoc, if_neg (by simp [hs])]
  have l1 := clmsCells_len (keepQ p (ms.take j))
  refine ⟨mid.drop 2 ++ clmCells m, by rw [e, List.length_append, ← h1]; rfl, by rw [List.length_append, List.length_drop, h3]; simp [clmCells]; omega, by omega, by omega, ?_, (h8.trans (hmd.mono (fun _ _ e => e.elim))).trans (Mod.midQ _ _ _)⟩
  rw [e, clmsCells_app, clmsCells_one1]
  have h9 := h6.mod hmd id
  rw [drop_consQ hm, clmsCells] at h9
  have := Blk.midQ (g := b) (t := 61) (clmCells m) wr' (clmsCells (keepQ p (ms.take j))) (mid.take 2) (mid.drop 2 ++ (clmCells m ++ clmsCells (ms.drop (j + 1)) ++ R)) (by
    rw [mid_splitQ]; exact h9) (by rw [List.length_take, h3]; simp [clmCells]; omega)
  rw [l1, ← h1] at this
  simpa [List.append_assoc] using this
theorem DelQ.room {w wr : World} {b i j : Nat} {p : ClmD → Bool} {ms : List ClmD} {R : List Value} (h : DelQ w wr b p ms R i j) : i < j ∧ j ≤ ms.length ∧ Mod (oneBlock b) w wr ∧
    (∀ n, n < (j - i) * 2 → (wr.cell? ⟨b, i * 2 + n, none⟩).isSome = true) ∧ ∀ n, wr.frozen? ⟨b, n, none⟩ = false := by
  obtain ⟨mid, h1, h3, h4, h5, h6, h8⟩ := h
  have l1 := clmsCells_len (keepQ p (ms.take j))
  refine ⟨h4, h5, h8, fun n hn => ?_, fun n => h6.frozen n⟩
  obtain ⟨x, hx⟩ : ∃ x, (clmsCells (keepQ p (ms.take j)) ++ mid ++ (clmsCells (ms.drop j) ++ R))[i * 2 + n]? = some x := ⟨_, List.getElem?_eq_getElem (by simp only [List.length_append]; omega)⟩
  rw [show wr.cell? ⟨b, i * 2 + n, none⟩ = some x from h6.cell _ hx]; rfl
theorem DelQ.done {w wr : World} {B b i cap : Nat} {p : ClmD → Bool} {ms : List ClmD} {R : List Value} (h : DelQ w wr b p ms R i ms.length) (hBb : B ≤ b) (hcap : ms.length ≤ cap) (hcm : cap ≤ maxLen) (lR : ms.length * 2 + R.length = cap * 2) :
    RowK (wr.setCells b (i * 2) (zerosQ (ms.length - i))) B (.slice (some ⟨b, 0, none⟩) i cap) (keepQ p ms) ∧ Mod (oneBlock b) w (wr.setCells b (i * 2) (zerosQ (ms.length - i))) := by
  obtain ⟨mid, h1, h3, h4, h5, h6, h8⟩ := h
  rw [List.take_length] at h1 h6
  have l1 := clmsCells_len (keepQ p ms)
  have l2 := zerosQ_len (ms.length - i)
  have hM := h8.trans (Mod.midQ (zerosQ (ms.length - i)) (i * 2) wr)
  have e0 : clmsCells (ms.drop ms.length) = [] := by rw [List.drop_length]; rfl
  rw [e0, List.nil_append] at h6
  have hB := Blk.midQ (g := b) (t := 61) (zerosQ (ms.length - i)) wr (clmsCells (keepQ p ms)) mid R h6 (by omega)
  rw [l1, ← h1] at hB
  refine ⟨⟨by omega, .inr ⟨b, cap, (clmsCells (keepQ p ms) ++ zerosQ (ms.length - i) ++ R).toArray, by rw [← h1], hBb, hB, by omega, hcm, ?_, ?_⟩⟩, hM⟩
  · simp only [List.size_toArray, List.length_append]; omega
  · rw [← l1, List.append_assoc, List.take_left]
set_option maxRecDepth 100000 in
set_option maxHeartbeats 2000000 in
theorem deleteQ_any (f q B : Nat) (p : ClmD → Bool) (v : Value) (ms : List ClmD) (w : World) (hR : RowK w B v ms) (hA : AskQ f q p w) (hq : q < w.heap.size) (hqv : v.ownBlock ≠ some q) (hf : ms.length ≤ 1000) :
    Calls Tryz.prog 41 #[v, .func (.func f) #[] #[.pointer (some ⟨q, 0, none⟩)]] w fun e w' => ∃ v', e = .returned v' ∧ RowK w' B v' (keepQ p ms) ∧ v'.ownBlock = v.ownBlock ∧ Mod (fun x => v.ownBlock = some x) w w' := by
  have HIX := Hid.mkq (indexQ_any f q w.heap.size p v ms w (hR.toV (Nat.le_refl _)) hA hq hf)
  cases hfi : firstQ p ms with
  | none =>
    rw [hfi] at HIX
    have HK := Hid.mkq (firstQ_all p ms hfi)
    have HR := Hid.mkq hR
    obtain ⟨a, cap, rfl⟩ := own_slice hR
    clear hR hA
    go_enter Tryz.func41, Tryz.ntmps41
    go_wp2_with fail
    refine HIX.out.mono ?_
    rintro e w1 ⟨rfl, hm1⟩
    simp only [firstQI]
    go_wp2_with fail
    go_ret
    exact ⟨_, rfl, by rw [HK.out]; exact HR.out.mod hm1 (fun _ _ => id), rfl, hm1.mono (fun _ _ e => e.elim)⟩
  | some k0 =>
    rw [hfi] at HIX
    obtain ⟨hk0, hkt⟩ := firstQ_some p ms k0 hfi
    rcases hR.2 with ⟨_, h0⟩ | ⟨b, cap, cur, rfl, hLg, hg, hcap, hcm, hcs, htk⟩
    · omega
    unfold maxLen at hcm
    obtain ⟨R, hRR⟩ : ∃ R, cur.toList = clmsCells ms ++ R := by
      refine ⟨cur.toList.drop (ms.length * 2), ?_⟩
      rw [← htk, List.take_append_drop]
    have lA := clmsCells_len ms
    have hB0 : Blk w b (clmsCells ms ++ R) 61 := by rw [Blk, ← hRR]; exact hg
    have lR : ms.length * 2 + R.length = cap * 2 := by
      have : (clmsCells ms ++ R).length = cap * 2 := by rw [← hRR]; simpa using hcs
      rw [List.length_append, lA] at this; exact this
    have hqb : b ≠ q := fun e => hqv (by rw [e]; rfl)
    have HB0 := Hid.mkq hB0
    have HKT := Hid.mkq hkt
    have HA := Hid.mkq hA
    have hen := hA.enter
    clear hB0 hRR hg hcs htk hR hkt hfi lA hA hqv
    go_enter Tryz.func41, Tryz.ntmps41
    go_wp2_with fail
    refine HIX.out.mono ?_
    rintro e w1 ⟨rfl, hm1⟩
    simp only [firstQI]
    have hne : ((k0 : Int) == -1) = false := by rw [beq_eq_false_iff_ne]; omega
    go_wp2_with fail
    go_loopw [5, 6] (fun x y wr => ∃ i j : Nat, x = .int .i64 i ∧ y = .int .i64 j ∧ DelQ w wr b p ms R i j) (fun _ y _ => ms.length - (intOf y).toNat)
    case atStart => exact ⟨k0, k0 + 1, rfl, by go_num, DelQ.start hk0 HKT.out HB0.out hm1⟩
    case round =>
      obtain ⟨i, j, rfl, rfl, hI⟩ := hrel
      obtain ⟨hij, hjn, hMr, hcell, hfro⟩ := hI.room
      by_cases hlt : j < ms.length
      · obtain ⟨m, hm⟩ : ∃ m, ms[j]? = some m := ⟨_, List.getElem?_eq_getElem hlt⟩
        have hlk := hI.look hm
        have q0 := hlk 0 _ rfl
        have q1 := hlk 1 _ rfl
        simp only [Nat.add_zero] at q0
        have hqr : wr.heap[q]? = w.heap[q]? := hMr.block q hq (fun e => hqb e.symm)
        have hqz : q < wr.heap.size := Nat.lt_of_lt_of_le hq hMr.size
        have HC := Hid.mkq (HA.out.ask m (wr.alloc (.cells #[.int .i64 m.tx, .int .i64 m.mode] 61)) ((Below.heap_alloc _ _ _ hqz).trans hqr))
        have HI := Hid.mkq hI
        have HMM := Hid.mkq hm
        have HCE := Hid.mkq hcell
        have HFR := Hid.mkq hfro
        have hB1 := Blk.new wr (clmCells m) 61
        have hbz : b < wr.heap.size := World.block_lt_of_cell? wr _ q0
        clear hI hm hlk hcell hfro hqr hqz
        go_wp2_with fail
        refine HC.out.mono ?_
        rintro e w5 ⟨rfl, hm5⟩
        have hB5 : Blk w5 wr.heap.size (clmCells m) 61 := hB1.mod hm5 id
        have hmr5 := ((Mod.refl noBlock wr).alloc (.cells #[.int .i64 m.tx, .int .i64 m.mode] 61)).trans hm5
        clear HC q0 q1 hB1
        cases hs : p m with
        | true =>
          have HN := Hid.mkq (HI.out.skip HMM.out hs hmr5)
          go_wp2_with fail
          go_roundw
          case rel => exact ⟨i, j + 1, rfl, by go_num, HN.out⟩
          case measure => simp [intOf]; omega
        | false =>
          have HN := Hid.mkq (HI.out.keep HMM.out hs hmr5)
          have p0 := hB5.cell 0 rfl
          have p1 := hB5.cell 1 rfl
          have hex : ∀ c, c < 2 → ∃ y, w5.cell? ⟨b, i * 2 + c, none⟩ = some y := fun c hc => by
            obtain ⟨y, hy⟩ := Option.isSome_iff_exists.1 (HCE.out c (by omega))
            exact ⟨y, hmr5.cell hy id⟩
          have hfz : ∀ c, w5.frozen? ⟨b, c, none⟩ = false := fun c => (hmr5.frozen (p := ⟨b, c, none⟩) hbz id).trans (HFR.out c)
          obtain ⟨y0, hy0⟩ := hex 0 (by omega)
          obtain ⟨y1, hy1⟩ := hex 1 (by omega)
          have f0 := hfz (i * 2 + 0)
          have f1 := hfz (i * 2 + 1)
          simp only [Nat.add_zero] at hy0 f0
          have hbn : b ≠ wr.heap.size := by omega
          clear hex hfz
          go_wp2_with fail
          go_roundw
          case rel => exact ⟨i + 1, j + 1, by go_num, by go_num, by simpa [World.setCells, clmCells, Nat.add_assoc] using HN.out⟩
          case measure => simp [intOf]; omega
      · obtain rfl : j = ms.length := by omega
        have HDN := Hid.mkq (hI.done (B := B) (cap := cap) hLg hcap (by unfold maxLen; omega) lR)
        have hb3 : ¬ cap = i := by omega
        have hb4 : i ≤ cap := by omega
        have HCE := Hid.mkq hcell
        have HFR : Hid (∀ n, n < (ms.length - i) * 2 → wr.frozen? ⟨b, i * 2 + n, none⟩ = false) := fun n _ => hfro _
        clear hI hcell hfro
        go_wp2_with (first
          | (refine wpList_clearQ rfl _ rfl b (i * 2) (ms.length - i) _ rfl (by omega) HCE.out HFR.out ?_)
          | fail)
        go_ret
        exact ⟨_, rfl, HDN.out.1, rfl, HDN.out.2.mono (fun x _ e => by simp only [oneBlock] at e; rw [e]; rfl)⟩
end Go.Proofs.YtkoncehhpiegfaaGreatDoor
