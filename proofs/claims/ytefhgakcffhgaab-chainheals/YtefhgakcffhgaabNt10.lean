/- slices.DeleteFunc with the program's closure. -/
import Derived.Test.YtefhgakcffhgaabNt9
namespace Go.Proofs.Ytefhgakcffhgaab
open Go.RowKit Go.Lib Go.Maps
variable {E : Ext}

def zeroMsgA : Array Value := #[.int .i64 0, .int .i64 0, .int .i64 0, .int .i64 0, .int .i64 0, .int .i64 0, .int .i64 0, .int .i64 0, .slice none 0 0]
def zeros (n : Nat) : List Value := (Builtin.zeroCells zeroMsgA n).toList
theorem zeros_len (n : Nat) : (zeros n).length = n * 9 := by rw [zeros, Array.length_toList, size_zeroCells]; rfl
theorem zeros_one (n : Nat) : ∀ v ∈ zeros n, v.oneCell' = true := by
  intro v hv
  simp only [zeros, Builtin.zeroCells, Array.toList_map, List.mem_map] at hv
  obtain ⟨i, _, rfl⟩ := hv
  have h9 : ∀ j, j < 9 → (zeroMsgA[j]!).oneCell' = true := by
    intro j hj
    match j, hj with
    | 0, _ => rfl
    | 1, _ => rfl
    | 2, _ => rfl
    | 3, _ => rfl
    | 4, _ => rfl
    | 5, _ => rfl
    | 6, _ => rfl
    | 7, _ => rfl
    | 8, _ => rfl
  exact h9 _ (Nat.mod_lt _ (by decide))
theorem run_clear_n (w : World) (ty : TypeId) (b o n c : Nat) (hn : 0 < n) (hc : ∀ j, j < n * 9 → (w.cell? ⟨b, o + j, none⟩).isSome = true) (hf : ∀ j, j < n * 9 → w.frozen? ⟨b, o + j, none⟩ = false) :
    (Builtin.clear_ #[35] ty #[.slice (some ⟨b, o, none⟩) n c]).run Try.prog w = .ok (.tuple #[]) (w.setCells b o (zeros n)) := by
  have hst := run_storeCells_cells (P := Try.prog) b o (zeros n) 0 w (by simpa [zeros_len] using hc) (by simpa [zeros_len] using hf) (zeros_one n)
  simp only [Nat.add_zero] at hst
  obtain ⟨m, rfl⟩ : ∃ m, n = m + 1 := ⟨n - 1, by omega⟩
  have hz := zeroMsgV
  have e : (Value.agg #[.int .i64 0, .int .i64 0, .int .i64 0, .int .i64 0, .int .i64 0, .int .i64 0, .int .i64 0, .int .i64 0, .slice none 0 0]).cells = zeroMsgA := rfl
  simp only [zeros] at hst ⊢
  simp [Builtin.clear_, run_underlying Try.underlying35, hz, e, hst]
theorem wpList_clear_n {w : World} {ops : Array Oper} {rest : List Oper} {o : Oper} {a : Act} {Q : Exit → Act → World → Prop} (hgd : o.guard = none) (s : Operand)
    (ho : o.op = .call { callee := .builtin .clear, args := #[s], argTypes := #[35] }) (b off n c : Nat) (hs : a.eval s = .slice (some ⟨b, off, none⟩) n c) (hn : 0 < n)
    (hc : ∀ j, j < n * 9 → (w.cell? ⟨b, off + j, none⟩).isSome = true) (hf : ∀ j, j < n * 9 → w.frozen? ⟨b, off + j, none⟩ = false)
    (h : wpList Try.prog ops Q rest (a.put o.dst (.tuple #[])) (w.setCells b off (zeros n))) : wpList Try.prog ops Q (o :: rest) a w := by
  refine wpList_plain hgd fun K hK => ?_
  have hr := run_clear_n w o.type b off n c hn hc hf
  unfold Oper.wp execOp
  simp only [ho, resolve, invoke, builtin, Sem.run_bind, Sem.run_pure, Result.andThen_ok, List.map_toArray, List.map_cons, List.map_nil, hs, hr]
  exact hK _ _ h
def keepS (ds : List Int) (ms : List MsgD) : List MsgD := ms.filter (fun m => !silentB ds m)
theorem keepS_snoc (ds : List Int) (ms : List MsgD) (m : MsgD) : keepS ds (ms ++ [m]) = if silentB ds m then keepS ds ms else keepS ds ms ++ [m] := by
  unfold keepS; rw [List.filter_append]
  cases h : silentB ds m <;> simp [h]
theorem firstB_all (ds : List Int) : ∀ ms, firstB ds ms = none → keepS ds ms = ms
  | [], _ => rfl
  | m :: ms, h => by
    unfold firstB at h
    split at h
    · cases h
    · rename_i hs
      have hs' : silentB ds m = false := by simpa using hs
      have := firstB_all ds ms (by simpa using h)
      unfold keepS at this ⊢
      rw [List.filter_cons, if_pos (by simp [hs']), this]
theorem firstB_some (ds : List Int) : ∀ ms k, firstB ds ms = some k → k < ms.length ∧ keepS ds (ms.take (k + 1)) = ms.take k
  | [], _, h => by simp [firstB] at h
  | m :: ms, k, h => by
    unfold firstB at h
    split at h
    · rename_i hs
      simp at h; subst h
      refine ⟨by simp, ?_⟩
      simp [keepS, hs]
    · rename_i hs
      have hs' : silentB ds m = false := by simpa using hs
      obtain ⟨k', hk', rfl⟩ := Option.map_eq_some_iff.1 h
      obtain ⟨h1, h2⟩ := firstB_some ds ms k' hk'
      refine ⟨by simp; omega, ?_⟩
      unfold keepS at h2 ⊢
      rw [List.take_succ_cons, List.filter_cons, if_pos (by simp [hs']), h2, List.take_succ_cons]
theorem keepS_len (ds : List Int) (ms : List MsgD) : (keepS ds ms).length ≤ ms.length := List.length_filter_le _ _

/-- DeleteFunc's loop: what is kept so far, what lies between, what is still to be looked at. -/
def DelInv (w wr : World) (L b : Nat) (ds : List Int) (ms : List MsgD) (us R : List Value) (i j : Nat) : Prop :=
  ∃ kus mid : List Value, i = (keepS ds (ms.take j)).length ∧ kus.length = i ∧ mid.length = (j - i) * 9 ∧ i < j ∧ j ≤ ms.length ∧
    Blk wr b (msgsCells (keepS ds (ms.take j)) kus ++ mid ++ (msgsCells (ms.drop j) (us.drop j) ++ R)) 51 ∧ (∀ (n : Nat) m u, (keepS ds (ms.take j))[n]? = some m → kus[n]? = some u → PairsT w L u m.cmd.writes) ∧ Mod (oneBlock b) w wr
theorem DelInv.start {w wr : World} {L b k0 : Nat} {ds : List Int} {ms : List MsgD} {us R : List Value} (hus : us.length = ms.length) (hk : k0 < ms.length) (hkt : keepS ds (ms.take (k0 + 1)) = ms.take k0) (hB : Blk w b (msgsCells ms us ++ R) 51)
    (hps : ∀ (i : Nat) m u, ms[i]? = some m → us[i]? = some u → PairsT w L u m.cmd.writes) (hm : Mod noBlock w wr) : DelInv w wr L b ds ms us R k0 (k0 + 1) := by
  obtain ⟨m, hm0⟩ : ∃ m, ms[k0]? = some m := ⟨_, List.getElem?_eq_getElem hk⟩
  obtain ⟨u, hu0⟩ : ∃ u, us[k0]? = some u := ⟨_, List.getElem?_eq_getElem (by omega)⟩
  have hms : ms = ms.take k0 ++ m :: ms.drop (k0 + 1) := by
    rw [List.getElem?_eq_getElem hk] at hm0; simp at hm0
    rw [← hm0, ← List.drop_eq_getElem_cons hk, List.take_append_drop]
  have hul : k0 < us.length := by omega
  have husp : us = us.take k0 ++ u :: us.drop (k0 + 1) := by
    rw [List.getElem?_eq_getElem hul] at hu0; simp at hu0
    rw [← hu0, ← List.drop_eq_getElem_cons hul, List.take_append_drop]
  refine ⟨us.take k0, msgCells m u, by rw [hkt, List.length_take]; omega, by rw [List.length_take]; omega, by simp [msgCells], by omega, by omega, ?_, fun n m' u' h1 h2 => ?_, hm.mono (fun _ _ e => e.elim)⟩
  · rw [hkt]
    have := hB.mod hm id
    have e : msgsCells ms us = msgsCells (ms.take k0) (us.take k0) ++ (msgCells m u ++ msgsCells (ms.drop (k0 + 1)) (us.drop (k0 + 1))) := by
      conv => lhs; rw [hms, husp]
      rw [msgsCells_append _ _ _ _ (by simp [hus]), msgsCells]
    rw [e] at this
    simpa [List.append_assoc] using this
  · rw [hkt] at h1
    have hn : n < k0 := by have := (List.getElem?_eq_some_iff.1 h1).1; rw [List.length_take] at this; omega
    rw [List.getElem?_take, if_pos hn] at h1 h2
    exact hps n m' u' h1 h2
theorem drop_cons_at {α : Type} {l : List α} {j : Nat} {x : α} (h : l[j]? = some x) : l.drop j = x :: l.drop (j + 1) := by
  have hj : j < l.length := (List.getElem?_eq_some_iff.1 h).1
  rw [List.getElem?_eq_getElem hj] at h; simp at h
  rw [← h, ← List.drop_eq_getElem_cons hj]
theorem take_snoc_at {α : Type} {l : List α} {j : Nat} {x : α} (h : l[j]? = some x) : l.take (j + 1) = l.take j ++ [x] := by
  have hj : j < l.length := (List.getElem?_eq_some_iff.1 h).1
  rw [List.getElem?_eq_getElem hj] at h; simp at h
  rw [List.take_succ_eq_append_getElem hj, h]
/-- The message that is looked at. -/
theorem DelInv.look {w wr : World} {L b i j : Nat} {ds : List Int} {ms : List MsgD} {us R : List Value} (h : DelInv w wr L b ds ms us R i j) {m : MsgD} {u : Value} (hm : ms[j]? = some m) (hu : us[j]? = some u) :
    ∀ n x, (msgCells m u)[n]? = some x → wr.cell? ⟨b, j * 9 + n, none⟩ = some x := by
  obtain ⟨kus, mid, h1, h2, h3, h4, h5, h6, h7, h8⟩ := h
  intro n x hx
  have hn : n < 9 := (List.getElem?_eq_some_iff.1 hx).1
  refine h6.cell _ ?_
  rw [drop_cons_at hm, drop_cons_at hu, msgsCells]
  have l1 := msgsCells_len (keepS ds (ms.take j)) kus (by omega)
  rw [List.getElem?_append_right (by rw [List.length_append]; omega), List.length_append, l1, h3, ← h1]
  rw [show j * 9 + n - (i * 9 + (j - i) * 9) = n by omega, List.append_assoc, List.getElem?_append_left hn]
  exact hx
/-- It is silent: it goes. -/
theorem DelInv.skip {w wr wr' : World} {L b i j : Nat} {ds : List Int} {ms : List MsgD} {us R : List Value} (h : DelInv w wr L b ds ms us R i j) {m : MsgD} {u : Value} (hm : ms[j]? = some m) (hu : us[j]? = some u) (hs : silentB ds m = true) (hmd : Mod noBlock wr wr') :
    DelInv w wr' L b ds ms us R i (j + 1) := by
  obtain ⟨kus, mid, h1, h2, h3, h4, h5, h6, h7, h8⟩ := h
  have hj : j < ms.length := (List.getElem?_eq_some_iff.1 hm).1
  have e : keepS ds (ms.take (j + 1)) = keepS ds (ms.take j) := by rw [take_snoc_at hm, keepS_snoc, if_pos hs]
  refine ⟨kus, mid ++ msgCells m u, by rw [e]; exact h1, h2, by rw [List.length_append, h3]; simp [msgCells]; omega, by omega, by omega, ?_, by rw [e]; exact h7, h8.trans (hmd.mono (fun _ _ e => e.elim))⟩
  rw [e]
  have := h6.mod hmd id
  rw [drop_cons_at hm, drop_cons_at hu, msgsCells] at this
  simpa [List.append_assoc] using this
/-- It is kept: it is stored further ahead. -/
theorem DelInv.keep {w wr wr' : World} {L b i j : Nat} {ds : List Int} {ms : List MsgD} {us R : List Value} (h : DelInv w wr L b ds ms us R i j) (hps : ∀ (i : Nat) m u, ms[i]? = some m → us[i]? = some u → PairsT w L u m.cmd.writes)
    {m : MsgD} {u : Value} (hm : ms[j]? = some m) (hu : us[j]? = some u) (hs : silentB ds m = false) (hmd : Mod noBlock wr wr') :
    DelInv w (wr'.setCells b (i * 9) (msgCells m u)) L b ds ms us R (i + 1) (j + 1) := by
  obtain ⟨kus, mid, h1, h2, h3, h4, h5, h6, h7, h8⟩ := h
  have hj : j < ms.length := (List.getElem?_eq_some_iff.1 hm).1
  have e : keepS ds (ms.take (j + 1)) = keepS ds (ms.take j) ++ [m] := by rw [take_snoc_at hm, keepS_snoc, if_neg (by simp [hs])]
  have l1 := msgsCells_len (keepS ds (ms.take j)) kus (by omega)
  refine ⟨kus ++ [u], mid.drop 9 ++ msgCells m u, by rw [e, List.length_append, ← h1]; rfl, by simp [h2], by rw [List.length_append, List.length_drop, h3]; simp [msgCells]; omega, by omega, by omega, ?_, fun n m' u' k1 k2 => ?_, (h8.trans (hmd.mono (fun _ _ e => e.elim))).trans (Mod.setCells _ _ _)⟩
  · rw [e, msgsCells_snoc _ _ _ _ (by omega)]
    have h9 := h6.mod hmd id
    rw [drop_cons_at hm, drop_cons_at hu, msgsCells] at h9
    have := Blk.setCells (g := b) (t := 51) (msgCells m u) wr' (msgsCells (keepS ds (ms.take j)) kus) (mid.take 9) (mid.drop 9 ++ (msgCells m u ++ msgsCells (ms.drop (j + 1)) (us.drop (j + 1)) ++ R)) (by
      rw [mid_split]; exact h9) (by rw [List.length_take, h3]; simp [msgCells]; omega)
    rw [l1, ← h1] at this
    simpa [List.append_assoc] using this
  · rw [e] at k1
    by_cases hn : n < i
    · rw [List.getElem?_append_left (by omega)] at k1
      rw [List.getElem?_append_left (by omega)] at k2
      exact h7 n m' u' k1 k2
    · have hn' : n = i := by
        have := (List.getElem?_eq_some_iff.1 k1).1
        rw [List.length_append] at this; simp at this; omega
      subst hn'
      rw [List.getElem?_append_right (by omega)] at k1 k2
      simp [h2, ← h1] at k1 k2
      subst k1 k2
      exact hps j m u hm hu
/-- There is room for what is stored. -/
theorem DelInv.room {w wr : World} {L b i j : Nat} {ds : List Int} {ms : List MsgD} {us R : List Value} (h : DelInv w wr L b ds ms us R i j) : i < j ∧ j ≤ ms.length ∧ Mod (oneBlock b) w wr ∧
    (∀ n, n < (j - i) * 9 → (wr.cell? ⟨b, i * 9 + n, none⟩).isSome = true) ∧ ∀ n, wr.frozen? ⟨b, n, none⟩ = false := by
  obtain ⟨kus, mid, h1, h2, h3, h4, h5, h6, h7, h8⟩ := h
  have l1 := msgsCells_len (keepS ds (ms.take j)) kus (by omega)
  refine ⟨h4, h5, h8, fun n hn => ?_, fun n => h6.frozen n⟩
  obtain ⟨x, hx⟩ : ∃ x, (msgsCells (keepS ds (ms.take j)) kus ++ mid ++ (msgsCells (ms.drop j) (us.drop j) ++ R))[i * 9 + n]? = some x := ⟨_, List.getElem?_eq_getElem (by simp only [List.length_append]; omega)⟩
  rw [show wr.cell? ⟨b, i * 9 + n, none⟩ = some x from h6.cell _ hx]; rfl

/-- All were looked at; what is left behind is cleared. -/
theorem DelInv.done {w wr : World} {L b i cap : Nat} {ds : List Int} {ms : List MsgD} {us R : List Value} {cs0 : List Value} (h : DelInv w wr L b ds ms us R i ms.length) (hB0 : Blk w b cs0 51) (hLb : L ≤ b) (_hcap : ms.length ≤ cap) (hcm : cap ≤ maxLen) (lR : ms.length * 9 + R.length = cap * 9) (hgd : ∀ m ∈ ms, goodM m) :
    RowM (wr.setCells b (i * 9) (zeros (ms.length - i))) L (.slice (some ⟨b, 0, none⟩) i cap) (keepS ds ms) ∧ Mod (fun x => (Value.slice (some ⟨b, 0, none⟩) ms.length cap).ownBlock = some x) w (wr.setCells b (i * 9) (zeros (ms.length - i))) := by
  obtain ⟨kus, mid, h1, h2, h3, h4, h5, h6, h7, h8⟩ := h
  rw [List.take_length] at h1 h6 h7
  have l1 := msgsCells_len (keepS ds ms) kus (by omega)
  have l2 := zeros_len (ms.length - i)
  have hM := h8.trans (Mod.setCells (zeros (ms.length - i)) (i * 9) wr)
  have e0 : msgsCells (ms.drop ms.length) (us.drop ms.length) = [] := by rw [List.drop_length]; cases us.drop ms.length <;> rfl
  rw [e0, List.nil_append] at h6
  have hB := Blk.setCells (g := b) (t := 51) (zeros (ms.length - i)) wr (msgsCells (keepS ds ms) kus) mid R h6 (by omega)
  rw [l1, ← h1] at hB
  have hq : Qm w L (oneBlock b) := by
    intro k hk e
    simp only [oneBlock] at e; subst e
    rintro (e | ⟨cur, fr, e⟩)
    · omega
    · simp only [Blk] at hB0; rw [hB0] at e; simp at e
  refine ⟨⟨kus, by omega, ⟨by omega, .inr ⟨b, cap, (msgsCells (keepS ds ms) kus ++ zeros (ms.length - i) ++ R).toArray, by rw [← h1], hLb, hB, by omega, hcm, ?_, ?_⟩⟩, fun n m u k1 k2 => (h7 n m u k1 k2).mod hM hq, fun m hm => hgd m (List.mem_filter.1 hm).1⟩, hM.mono (fun x _ e => by simp only [oneBlock] at e; rw [e]; rfl)⟩
  · simp only [List.size_toArray, List.length_append]; omega
  · rw [← l1, List.append_assoc, List.take_left]

set_option maxRecDepth 100000 in
set_option maxHeartbeats 2000000 in
theorem deleteFunc_any (L g q : Nat) (mr : Option Nat) (ds : List Int) (v : Value) (ms : List MsgD) (w : World) (hR : RowM w L v ms) (hA : Asks w L g q mr ds) (hqv : v.ownBlock ≠ some q) (hgv : v.ownBlock ≠ some g) (hrv : ∀ k, v.ownBlock = some k → mr ≠ some k) (hf : ms.length ≤ 200) :
    Calls Try.prog 68 #[v, .func (.func 69) #[] #[.pointer (some ⟨q, 0, none⟩)]] w fun e w' => ∃ v', e = .returned v' ∧ RowM w' L v' (keepS ds ms) ∧ v'.ownBlock = v.ownBlock ∧ Mod (fun x => v.ownBlock = some x) w w' := by
  have HIX := Hid.mk' (index_any L g q mr ds v ms w hR hA hf)
  cases hfi : firstB ds ms with
  | none =>
    rw [hfi] at HIX
    have HK := Hid.mk' (firstB_all ds ms hfi)
    go_enter Try.func68, Try.ntmps68
    go_wp2_with fail
    refine HIX.out.mono ?_
    rintro e w1 ⟨rfl, hm1⟩
    simp only [firstI]
    go_wp2_with fail
    go_ret
    exact ⟨v, rfl, by rw [HK.out]; exact hR.mod hm1 (Qm.none _ _) (fun _ _ => id), rfl, hm1.mono (fun _ _ e => e.elim)⟩
  | some k0 =>
    rw [hfi] at HIX
    obtain ⟨hk0, hkt⟩ := firstB_some ds ms k0 hfi
    obtain ⟨us, hus, hrow, hps, hgd⟩ := hR
    rcases hrow.2 with ⟨_, h0⟩ | ⟨b, cap, cur, rfl, hLg, hg, hcap, hcm, hcs, htk⟩
    · omega
    unfold maxLen at hcm
    obtain ⟨R, hR⟩ : ∃ R, cur.toList = msgsCells ms us ++ R := by
      refine ⟨cur.toList.drop (ms.length * 9), ?_⟩
      rw [← htk, List.take_append_drop]
    have lA := msgsCells_len ms us hus
    have hB0 : Blk w b (msgsCells ms us ++ R) 51 := by rw [Blk, ← hR]; exact hg
    have lR : ms.length * 9 + R.length = cap * 9 := by
      have : (msgsCells ms us ++ R).length = cap * 9 := by rw [← hR]; simpa using hcs
      rw [List.length_append, lA] at this; exact this
    have HPS := Hid.mk' hps
    have HGD := Hid.mk' hgd
    have HB0 := Hid.mk' hB0
    have HKT := Hid.mk' hkt
    clear hps hgd hB0 hR hg hcs htk hrow hkt hfi lA
    go_enter Try.func68, Try.ntmps68
    go_wp2_with fail
    refine HIX.out.mono ?_
    rintro e w1 ⟨rfl, hm1⟩
    simp only [firstI]
    have hne : ((k0 : Int) == -1) = false := by rw [beq_eq_false_iff_ne]; omega
    go_wp2_with fail
    go_loopw [5, 6] (fun x y wr => ∃ i j : Nat, x = .int .i64 i ∧ y = .int .i64 j ∧ DelInv w wr L b ds ms us R i j) (fun _ y _ => ms.length - (intOf y).toNat)
    case atStart => exact ⟨k0, k0 + 1, rfl, by go_num, DelInv.start hus hk0 HKT.out HB0.out HPS.out hm1⟩
    case round =>
      obtain ⟨i, j, rfl, rfl, hI⟩ := hrel
      obtain ⟨hij, hjn, hMr, hcell, hfro⟩ := hI.room
      by_cases hlt : j < ms.length
      · obtain ⟨m, hm⟩ : ∃ m, ms[j]? = some m := ⟨_, List.getElem?_eq_getElem hlt⟩
        obtain ⟨u, hu⟩ : ∃ u, us[j]? = some u := ⟨_, List.getElem?_eq_getElem (by omega)⟩
        have hlk := hI.look hm hu
        have q0 := hlk 0 _ rfl
        have q1 := hlk 1 _ rfl
        have q2 := hlk 2 _ rfl
        have q3 := hlk 3 _ rfl
        have q4 := hlk 4 _ rfl
        have q5 := hlk 5 _ rfl
        have q6 := hlk 6 _ rfl
        have q7 := hlk 7 _ rfl
        have q8 := hlk 8 _ rfl
        simp only [Nat.add_zero] at q0
        have hgm := HGD.out m (List.mem_of_getElem? hm)
        obtain ⟨ua, ucap, rfl⟩ : ∃ ua ucap, u = .slice ua m.cmd.writes.length ucap := by obtain ⟨ua, ucap, h, _⟩ := HPS.out j m u hm hu; exact ⟨ua, ucap, h⟩
        have hA2 := (hA.mod hMr (fun e => hqv (by rw [e]; rfl)) (fun e => hgv (by rw [e]; rfl)) (fun k hk e => hrv k (by rw [e]; rfl) hk)).mod ((Mod.refl noBlock wr).alloc (.cells #[.int .i64 m.kind, .int .i64 m.frm, .int .i64 m.to, .int .i64 m.epoch, .int .i64 m.n, .int .i64 m.cmd.kind, .int .i64 m.cmd.tx, .int .i64 m.cmd.time, .slice ua m.cmd.writes.length ucap] 51)) id id (fun _ _ => id)
        have HC := Hid.mk' (hA2.call m (.slice ua m.cmd.writes.length ucap) hgm.1)
        have HI := Hid.mk' hI
        have HMM := Hid.mk' hm
        have HUU := Hid.mk' hu
        have HCE := Hid.mk' hcell
        have HFR := Hid.mk' hfro
        have hB1 := Blk.new wr (msgCells m (.slice ua m.cmd.writes.length ucap)) 51
        have hbz : b < wr.heap.size := World.block_lt_of_cell? wr _ q0
        clear hI hm hu hlk hA2 hcell hfro
        go_wp2_with fail
        refine HC.out.mono ?_
        rintro e w5 ⟨rfl, hm5⟩
        have hB5 : Blk w5 wr.heap.size (msgCells m (.slice ua m.cmd.writes.length ucap)) 51 := hB1.mod hm5 id
        have hmr5 := ((Mod.refl noBlock wr).alloc (.cells #[.int .i64 m.kind, .int .i64 m.frm, .int .i64 m.to, .int .i64 m.epoch, .int .i64 m.n, .int .i64 m.cmd.kind, .int .i64 m.cmd.tx, .int .i64 m.cmd.time, .slice ua m.cmd.writes.length ucap] 51)).trans hm5
        clear HC q0 q1 q2 q3 q4 q5 q6 q7 q8 hB1
        cases hs : silentB ds m with
        | true =>
          have HN := Hid.mk' (HI.out.skip HMM.out HUU.out hs hmr5)
          go_wp2_with fail
          go_roundw
          case rel => exact ⟨i, j + 1, rfl, by go_num, HN.out⟩
          case measure => simp [intOf]; omega
        | false =>
          have HN := Hid.mk' (HI.out.keep HPS.out HMM.out HUU.out hs hmr5)
          obtain ⟨⟨p0, p1, p2, p3, p4, p5, p6, p7, p8⟩, _⟩ := blk9 hB5
          have hex : ∀ c, c < 9 → ∃ y, w5.cell? ⟨b, i * 9 + c, none⟩ = some y := fun c hc => by
            obtain ⟨y, hy⟩ := Option.isSome_iff_exists.1 (HCE.out c (by omega))
            exact ⟨y, hmr5.cell hy id⟩
          have hfz : ∀ c, w5.frozen? ⟨b, c, none⟩ = false := fun c => (hmr5.frozen (p := ⟨b, c, none⟩) hbz id).trans (HFR.out c)
          obtain ⟨y0, hy0⟩ := hex 0 (by omega)
          obtain ⟨y1, hy1⟩ := hex 1 (by omega)
          obtain ⟨y2, hy2⟩ := hex 2 (by omega)
          obtain ⟨y3, hy3⟩ := hex 3 (by omega)
          obtain ⟨y4, hy4⟩ := hex 4 (by omega)
          obtain ⟨y5, hy5⟩ := hex 5 (by omega)
          obtain ⟨y6, hy6⟩ := hex 6 (by omega)
          obtain ⟨y7, hy7⟩ := hex 7 (by omega)
          obtain ⟨y8, hy8⟩ := hex 8 (by omega)
          have f0 := hfz (i * 9 + 0)
          have f1 := hfz (i * 9 + 1)
          have f2 := hfz (i * 9 + 2)
          have f3 := hfz (i * 9 + 3)
          have f4 := hfz (i * 9 + 4)
          have f5 := hfz (i * 9 + 5)
          have f6 := hfz (i * 9 + 6)
          have f7 := hfz (i * 9 + 7)
          have f8 := hfz (i * 9 + 8)
          simp only [Nat.add_zero] at hy0 f0
          have hbn : b ≠ wr.heap.size := by omega
          clear hex hfz
          go_wp2_with fail
          go_roundw
          case rel => exact ⟨i + 1, j + 1, by go_num, by go_num, by simpa [World.setCells, msgCells, Nat.add_assoc] using HN.out⟩
          case measure => simp [intOf]; omega
      · obtain rfl : j = ms.length := by omega
        have HDN := Hid.mk' (hI.done (cap := cap) HB0.out hLg hcap (by unfold maxLen; omega) lR HGD.out)
        have hb3 : ¬ cap = i := by omega
        have hb4 : i ≤ cap := by omega
        have HCE := Hid.mk' hcell
        have HFR : Hid (∀ n, n < (ms.length - i) * 9 → wr.frozen? ⟨b, i * 9 + n, none⟩ = false) := fun n _ => hfro _
        clear hI hcell hfro
        go_wp2_with (first
          | (refine wpList_clear_n rfl _ rfl b (i * 9) (ms.length - i) _ rfl (by omega) HCE.out HFR.out ?_)
          | fail)
        go_ret
        exact ⟨_, rfl, HDN.out.1, rfl, HDN.out.2⟩
end Go.Proofs.Ytefhgakcffhgaab
