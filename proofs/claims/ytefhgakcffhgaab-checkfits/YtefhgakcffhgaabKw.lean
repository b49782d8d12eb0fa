/- The law CheckFits: its two loops, as they lie in memory. -/
import Derived.Test.YtefhgakcffhgaabKt
namespace Go.Proofs.Ytefhgakcffhgaab
open Go.RowKit Go.Lib Go.Maps
set_option linter.unusedVariables false

theorem Try.info79 : (Try.prog.info? 79).map (fun i => (i.zero, i.size, i.bytes)) = some (some (.agg #[.slice none 0 0, .int .i64 0, .int .i64 0]), 3, 40) := by kernel_rfl
theorem Try.info82 : (Try.prog.info? 82).map (fun i => (i.zero, i.size, i.bytes)) = some (some (.agg #[.slice none 0 0, .int .i64 0, .int .i64 0]), 3, 40) := by kernel_rfl
theorem Try.info85 : (Try.prog.info? 85).map (fun i => (i.zero, i.size, i.bytes)) = some (some (.agg #[.int .i64 0, .string ByteArray.empty, .string ByteArray.empty, .bool false]), 4, 48) := by kernel_rfl
theorem Try.info87 : (Try.prog.info? 87).map (fun i => (i.zero, i.size, i.bytes)) = some (some (.agg #[.int .i64 0, .string ByteArray.empty, .string ByteArray.empty, .bool false]), 4, 48) := by kernel_rfl
/-- The loop over the transactions: xs as they are now, vs where their operations lie, us where the copies' do. -/
structure RoundP (w wr : World) (N gm gx xcap : Nat) (mb : Bool) (m i n : Nat) (xs : List TxD) (vs us : List Value) (wv : Value) (s : Sta) : Prop where
  le : i ≤ m
  len : xs.length = m
  xrow : RowX 79 wr 0 (.slice (some ⟨gx, 0, none⟩) m xcap) xs vs
  wrow : RowX 82 wr N wv (xs.take i) us
  old : OldP wr N wv xs vs us i
  given : ∀ (j : Nat) t v, i ≤ j → xs[j]? = some t → vs[j]? = some v → OpsV w w.heap.size v t.ops
  ints : ∀ (j : Nat) t, xs[j]? = some t → int64 t.frm ∧ int64 t.til
  now : NowP wr gm n s
  few : n ≤ 12 * i
  tidy : tidyS s
  made : mb = true → MadeP xs i s
  size : N ≤ wr.heap.size
  mod : Mod noBlock w wr
theorem RowX.cell {ty : TypeId} {w : World} {B g n cap : Nat} {ts : List TxD} {vs : List Value} {i : Nat} {t : TxD} {v : Value} (h : RowX ty w B (.slice (some ⟨g, 0, none⟩) n cap) ts vs) (hi : ts[i]? = some t) (hv : vs[i]? = some v) : w.cell? ⟨g, i * 3, none⟩ = some v ∧ w.cell? ⟨g, i * 3 + 1, none⟩ = some (.int .i64 t.frm) ∧ w.cell? ⟨g, i * 3 + 2, none⟩ = some (.int .i64 t.til) := by
  have key : ∀ j x, (txCells t v)[j]? = some x → w.cell? ⟨g, i * 3 + j, none⟩ = some x := fun j x hx => by
    have := h.2.cells (g := g) rfl _ _ (txsCells_cell ts vs i t v h.1 hi hv j x hx)
    rw [Go.WideShapes.add_plain, Nat.zero_add] at this
    exact this
  exact ⟨key 0 _ rfl, key 1 _ rfl, key 2 _ rfl⟩
theorem own_frozen {w : World} {B g n m cap sz : Nat} {e : TypeId} {xs : List Value} (h : w.ownsRow B e sz (.slice (some ⟨g, 0, none⟩) n cap) m xs) (j : Nat) : w.frozen? ⟨g, j, none⟩ = false ∧ g < w.heap.size := by
  obtain ⟨_, h2, cur, h3⟩ := own_cells h (k := g) rfl
  exact ⟨by simp [World.frozen?, h3], h2⟩
theorem RowO.cell {ty : TypeId} {w : World} {B g n cap : Nat} {os : List OpD} {i : Nat} {o : OpD} (h : RowO ty w B (.slice (some ⟨g, 0, none⟩) n cap) os) (hi : os[i]? = some o) : w.cell? ⟨g, i * 4, none⟩ = some (.int .i64 o.kind) ∧ w.cell? ⟨g, i * 4 + 1, none⟩ = some (.string o.key) ∧ w.cell? ⟨g, i * 4 + 2, none⟩ = some (.string o.value) ∧ w.cell? ⟨g, i * 4 + 3, none⟩ = some (.bool o.found) := by
  have key : ∀ j x, (opCells o)[j]? = some x → w.cell? ⟨g, i * 4 + j, none⟩ = some x := fun j x hx => by
    have := h.1.cells (g := g) rfl _ _ (opsCells_cell os i o hi j x hx)
    rw [Go.WideShapes.add_plain, Nat.zero_add] at this
    exact this
  exact ⟨key 0 _ rfl, key 1 _ rfl, key 2 _ rfl, key 3 _ rfl⟩
theorem exec_append {P : Program} {w w' : World} {o : Oper} {a : Act} {s x : Operand} {t : TypeId} {vs vx v : Value} (ho : o.op = .call { callee := .builtin .append, args := #[s, x], argTypes := #[t, t] }) (hs : a.eval s = vs) (hx : a.eval x = vx)
    (hr : (Builtin.append_ #[t, t] o.type #[vs, vx]).run P w = .ok v w') : (execOp a.eval o).run P w = .ok (.value v) w' := by
  simp only [execOp, ho, resolve, invoke, builtin, Sem.run_bind, Sem.run_pure, Result.andThen_ok, List.map_toArray, List.map_cons, List.map_nil, hs, hx, hr]
/-- The loop over the operations of one: zs as they are now. -/
structure InnerP (wb wr : World) (gm ga acap bt : Nat) (mb : Bool) (q k n0 n : Nat) (zs : List OpD) (tv : Value) (f u : Int) (s0 s : Sta) : Prop where
  le : k ≤ q
  len : zs.length = q
  arow : RowO 85 wr 0 (.slice (some ⟨ga, 0, none⟩) q acap) zs
  trow : RowO 87 wr wb.heap.size tv (zs.take k)
  blk : Blk wr bt [tv, .int .i64 f, .int .i64 u] 82
  now : NowP wr gm n s
  few : n ≤ n0 + k
  tidy : tidyS s
  made : mb = true → ∃ us, doOps s0 (zs.take k) = some (s, us)
  mod : Mod (fun b => b = gm ∨ b = ga ∨ b = bt) wb wr
/-- Behind the switch. -/
structure ArmP (wr wc : World) (gm ga acap : Nat) (mb : Bool) (q k n1 n : Nat) (zs zs' : List OpD) (o : OpD) (s s' : Sta) : Prop where
  len : zs'.length = q
  arow : RowO 85 wc 0 (.slice (some ⟨ga, 0, none⟩) q acap) zs'
  same : zs'.take k = zs.take k
  here : zs'[k]? = some o
  now : NowP wc gm n s'
  few : n ≤ n1
  tidy : tidyS s'
  made : mb = true → ∃ us, doOp s o = some (s', us)
  mod : Mod (fun b => b = gm ∨ b = ga) wr wc
theorem own_rebase {w : World} {N g n m cap sz : Nat} {e : TypeId} {xs : List Value} (h : w.ownsRow 0 e sz (.slice (some ⟨g, 0, none⟩) n cap) m xs) (hg : N ≤ g) : w.ownsRow N e sz (.slice (some ⟨g, 0, none⟩) n cap) m xs := by
  refine ⟨h.1, ?_⟩
  rcases h.2 with ⟨e, _⟩ | ⟨g', cap', cur, e, _, r⟩
  · cases e
  · have e' := e
    simp only [Value.slice.injEq, Option.some.injEq, Addr.mk.injEq] at e'
    obtain ⟨⟨rfl, _⟩, _⟩ := e'
    exact .inr ⟨_, cap', cur, e, hg, r⟩
theorem take_next {α : Type} {l : List α} {k : Nat} {x : α} (h : l[k]? = some x) : l.take (k + 1) = l.take k ++ [x] := by
  obtain ⟨hk, e⟩ := List.getElem?_eq_some_iff.1 h
  rw [List.take_succ_eq_append_getElem hk, e]
theorem InnerP.step {wb wi w6 w7 : World} {gm ga acap bt : Nat} {mb : Bool} {q k n0 n1 n2 : Nat} {zs zs' : List OpD} {tv v7 : Value} {f u : Int} {s0 s1 s2 : Sta} {o : OpD}
    (hI : InnerP wb wi gm ga acap bt mb q k n0 n1 zs tv f u s0 s1) (hA : ArmP wi w6 gm ga acap mb q k (n0 + k + 1) n2 zs zs' o s1 s2) (hk : k < q)
    (hlt : gm < wb.heap.size ∧ ga < wb.heap.size ∧ bt < wb.heap.size) (hne : gm ≠ bt ∧ gm ≠ ga ∧ bt ≠ ga)
    (hrow : w7.ownsRow wb.heap.size 87 4 v7 (k + 1) (opsCells (zs.take k) ++ opCells o)) (hm : Mod (fun b => tv.ownBlock = some b) w6 w7) :
    InnerP wb (w7.setCell ⟨bt, 0, none⟩ v7) gm ga acap bt mb q (k + 1) n0 n2 zs' v7 f u s0 s2 := by
  have hbase : ∀ b, tv.ownBlock = some b → wb.heap.size ≤ b := fun b hb => (own_cells hI.trow.1 hb).1
  have hsb : Mod (oneBlock bt) w7 (w7.setCell ⟨bt, 0, none⟩ v7) := Mod.setBlk _ _ _
  have htk : zs'.take (k + 1) = zs.take k ++ [o] := by rw [take_next hA.here, hA.same]
  have hB7 : Blk w7 bt [tv, .int .i64 f, .int .i64 u] 82 := (hI.blk.mod hA.mod (by omega)).mod hm (fun e => by have := hbase _ e; omega)
  refine ⟨hk, hA.len, ?_, ⟨?_, fun x hx => hA.arow.2 x (List.mem_of_mem_take hx)⟩, hB7.set 0 v7, (hA.now.mod hm (fun e => by have := hbase _ e; omega)).mod hsb (by simp only [oneBlock]; omega), by have := hA.few; omega, hA.tidy, fun hmb => ?_, ?_⟩
  · exact (hA.arow.mod hm (fun b hb e => by simp [Value.ownBlock] at hb; have := hbase _ e; omega)).mod hsb (fun b hb e => by simp [Value.ownBlock] at hb; simp only [oneBlock] at e; omega)
  · rw [htk, opsCells_snoc]
    have hl : (zs.take k ++ [o]).length = k + 1 := by simp [hI.len]; omega
    rw [hl]
    exact own_mod hrow hsb (fun b hb _ _ e => by simp only [oneBlock] at e; omega)
  · obtain ⟨us, h1⟩ := hI.made hmb
    obtain ⟨us', h2⟩ := hA.made hmb
    exact ⟨us ++ us', by rw [htk, doOps_snoc _ _ _ _ _ h1, h2]; rfl⟩
  · exact ((hI.mod.trans' hA.mod (fun b _ e => by omega)).trans' hm (fun b hb e => by have := hbase _ e; omega)).trans (hsb.mono (fun b _ e => by simp only [oneBlock] at e; omega))
theorem RoundP.step {w wk wb wr w9 : World} {N gm gx xcap ga acap bt : Nat} {mb : Bool} {m i n n1 q : Nat} {xs : List TxD} {vs us : List Value} {wv v9 tv : Value} {s s1 : Sta} {zs : List OpD} {f u : Int} {os : List OpD}
    (hR : RoundP w wk N gm gx xcap mb m i n xs vs us wv s) (hi : i < m) (hq : q ≤ 12) (hgm : w.heap.size ≤ gm ∧ w.heap.size ≤ gx ∧ gm < N ∧ gx < N ∧ gm ≠ gx) (hga : wk.heap.size ≤ ga) (hbt : wk.heap.size ≤ bt)
    (hX : RowX 79 wb 0 (.slice (some ⟨gx, 0, none⟩) m xcap) (xs.set i ⟨os, f, u⟩) (vs.set i (.slice (some ⟨ga, 0, none⟩) q acap))) (hkb : Mod (oneBlock gx) wk wb) (hf : int64 f) (hu : int64 u) (hfu : mb = true → f = 2 * (i : Int) ∧ u = 2 * (i : Int) + 3)
    (hI : InnerP wb wr gm ga acap bt mb q q n n1 zs tv f u s s1)
    (hrow : w9.ownsRow N 82 3 v9 (i + 1) (txsCells (xs.take i) us ++ [tv, .int .i64 f, .int .i64 u])) (hm : Mod (fun b => wv.ownBlock = some b) wr w9) (hat : v9.ownBlock = wv.ownBlock ∨ ∀ b, v9.ownBlock = some b → wr.heap.size ≤ b) :
    RoundP w w9 N gm gx xcap mb m (i + 1) n1 (xs.set i ⟨zs, f, u⟩) (vs.set i (.slice (some ⟨ga, 0, none⟩) q acap)) (us ++ [tv]) v9 s1 := by
  have hix : i < xs.length := by rw [hR.len]; exact hi
  have hwv : ∀ b, wv.ownBlock = some b → N ≤ b ∧ b < wk.heap.size := fun b hb => by have h := own_cells hR.wrow.2 hb; exact ⟨h.1, h.2.1⟩
  have hzk := hkb.size
  have hkr : Mod (fun b => b = gx ∨ b = gm) wk wr := (hkb.mono (G' := fun b => b = gx ∨ b = gm) (fun _ _ e => .inl e)).trans' hI.mod (fun b hb e => by
    rcases e with e | e | e
    · exact .inr e
    · omega
    · omega)
  have hN := hR.size
  have hzr := hkr.size
  have hlen : (xs.take i).length = i := by rw [List.length_take]; omega
  have husl : us.length = i := by have := hR.wrow.1; rw [hlen] at this; exact this
  have hzq : zs.take q = zs := List.take_of_length_le (by rw [hI.len]; exact Nat.le_refl _)
  have hgal : ga < wr.heap.size := (own_frozen hI.arow.1 0).2
  have hset : (xs.set i (⟨zs, f, u⟩ : TxD)).take (i + 1) = xs.take i ++ [⟨zs, f, u⟩] := by
    rw [take_next (List.getElem?_set_self hix), List.take_set_of_le (Nat.le_refl _)]
  have hO0 := hR.old.mod hkr (fun b hb _ e => by omega)
  refine ⟨hi, by rw [List.length_set]; exact hR.len, ?_, ⟨by rw [hset]; simp [husl, hlen], ?_⟩, fun j t hj ht => ?_, fun j t v hj ht hv => ?_, fun j t ht => ?_, ?_, by have := hI.few; have := hR.few; omega, hI.tidy, fun hmb => ?_, Nat.le_trans hN (Nat.le_trans hzr hm.size), ?_⟩
  · exact RowX.ops ((hX.mod hI.mod (fun b hb e => by simp [Value.ownBlock] at hb; omega)).mod hm (fun b hb e => by simp [Value.ownBlock] at hb; have := hwv _ e; omega))
  · rw [hset, txsCells_snoc _ _ _ _ (by rw [husl, hlen])]
    have hl : (xs.take i ++ [(⟨zs, f, u⟩ : TxD)]).length = i + 1 := by simp; omega
    rw [hl]
    exact hrow
  · by_cases e : j = i
    · subst e
      rw [List.getElem?_set_self hix] at ht
      simp only [Option.some.injEq] at ht
      subst ht
      refine ⟨.slice (some ⟨ga, 0, none⟩) q acap, tv, List.getElem?_set_self (by rw [hR.xrow.1]; exact hix), by rw [List.getElem?_append_right (by omega), husl]; simp, ?_, ?_, fun b hb => ?_, by rw [hI.len]; exact hq⟩
      · exact RowO.mod ⟨own_rebase hI.arow.1 (by omega), hI.arow.2⟩ hm (fun b hb e => by simp [Value.ownBlock] at hb; have := hwv _ e; omega)
      · have h1 := hI.trow
        rw [hzq] at h1
        exact RowO.mod ⟨own_base h1.1 (by omega), h1.2⟩ hm (fun b hb e => by have := hwv _ e; have h2 := own_cells h1.1 hb; omega)
      · have h1 := hI.trow.1
        refine ⟨fun e => ?_, fun e => ?_⟩
        · simp [Value.ownBlock] at e
          rcases hat with h | h
          · rw [h] at hb; have := hwv _ hb; omega
          · have := h b hb; omega
        · have h2 := own_cells h1 e
          rcases hat with h | h
          · rw [h] at hb; have := hwv _ hb; omega
          · have := h b hb; omega
    · rw [List.getElem?_set_ne (fun q => e q.symm)] at ht
      obtain ⟨u1, u2, k1, k2, k3, k4, k5, k6⟩ := hO0 j t (by omega) ht
      refine ⟨u1, u2, by rw [List.getElem?_set_ne (fun q => e q.symm)]; exact k1, by rw [List.getElem?_append_left (by omega)]; exact k2, k3.mod hm (fun b hb e => (k5 b e).1 hb), k4.mod hm (fun b hb e => (k5 b e).2 hb), fun b hb => ?_, k6⟩
      rcases hat with h | h
      · exact k5 b (by rw [← h]; exact hb)
      · have hbz := h b hb
        exact ⟨fun e => by have := own_cells k3.1 e; omega, fun e => by have := own_cells k4.1 e; omega⟩
  · rw [List.getElem?_set_ne (by omega)] at ht hv
    exact hR.given j t v (by omega) ht hv
  · by_cases e : j = i
    · subst e
      rw [List.getElem?_set_self hix] at ht
      simp only [Option.some.injEq] at ht
      subst ht
      exact ⟨hf, hu⟩
    · rw [List.getElem?_set_ne (fun q => e q.symm)] at ht
      exact hR.ints j t ht
  · exact hI.now.mod hm (fun e => by have := hwv _ e; omega)
  · obtain ⟨us', h1⟩ := hI.made hmb
    rw [hzq] at h1
    obtain ⟨rfl, rfl⟩ := hfu hmb
    exact (hR.made hmb).step hix h1
  · exact (hR.mod.trans' hkr (fun b hb e => by omega)).trans' hm (fun b hb e => by have := hwv _ e; omega)
end Go.Proofs.Ytefhgakcffhgaab
