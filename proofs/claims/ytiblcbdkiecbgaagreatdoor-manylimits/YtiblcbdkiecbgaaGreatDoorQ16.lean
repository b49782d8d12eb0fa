import Derived.Test.YtiblcbdkiecbgaaGreatDoorQ12
import Derived.Test.YtiblcbdkiecbgaaGreatDoorQ15
import Derived.Laws.MakeOwn
import Derived.Test.YtiblcbdkiecbgaaGreatDoorQ14
import Derived.Test.YtiblcbdkiecbgaaGreatDoorM12
import Derived.Test.YtiblcbdkiecbgaaGreatDoorM16
namespace Go.Proofs.Q
open Go Go.Conc
open Go.ConcN (sumTo upd sumTo_upd upd_ne upd_same)
set_option linter.unusedVariables false
set_option linter.unusedSectionVars false
set_option linter.unusedSimpArgs false
inductive Al (P : Program) (Shun : Loc → Prop) (Stop : Goroutine → World → Prop) : Goroutine → World → Prop
  | stop {g : Goroutine} {w : World} : (∀ d, Stop g (w.at d)) → Al P Shun Stop g w
  | step {g : Goroutine} {w : World} : g.status = .running → (∀ d, ∃ g' w' es, stepG P true g (w.at d) = .go g' w' es ∧ w.heap.size ≤ w'.heap.size ∧ ∀ e ∈ es, EvL Shun w'.heap.size e) →
      (∀ d g' w' es, stepG P true g (w.at d) = .go g' w' es → Al P Shun Stop g' w') → Al P Shun Stop g w
section
variable {P : Program} {Shun : Loc → Prop} {Stop : Goroutine → World → Prop}
theorem Al.run {g : Goroutine} {w : World} (h : Al P Shun Stop g w) : ∀ (d : Nat) (gs : Array Goroutine) (sl : Option (Nat × Nat)) (t : Trace) (q : Nat → Nat), gs[0]? = some g → Leavers P t gs q → Past Shun w.heap.size t →
    ∃ (N : Nat) (gs' : Array Goroutine) (a' : Goroutine) (w' : World) (sl' : Option (Nat × Nat)) (t' : Trace) (q' : Nat → Nat), runNT P N (crowd gs (w.at d) sl) t = (.next (crowd gs' w' sl'), t') ∧ gs'[0]? = some a' ∧ Stop a' w' ∧ Leavers P t' gs' q' ∧ Past Shun w'.heap.size t' := by
  induction h with
  | stop h => intro d gs sl t q h0 hL hP; exact ⟨0, gs, _, _, sl, t, q, rfl, h0, h d, hL, hP⟩
  | @step a w hrun h1 _ ih =>
    have key : ∀ (M d : Nat) (gs : Array Goroutine) (sl : Option (Nat × Nat)) (t : Trace) (q : Nat → Nat), sumTo gs.size q ≤ M → gs[0]? = some a → Leavers P t gs q → Past Shun w.heap.size t →
        ∃ (N : Nat) (gs' : Array Goroutine) (a' : Goroutine) (w' : World) (sl' : Option (Nat × Nat)) (t' : Trace) (q' : Nat → Nat), runNT P N (crowd gs (w.at d) sl) t = (.next (crowd gs' w' sl'), t') ∧ gs'[0]? = some a' ∧ Stop a' w' ∧ Leavers P t' gs' q' ∧ Past Shun w'.heap.size t' := by
      intro M
      induction M using Nat.strongRecOn with
      | _ M ihM =>
        intro d gs sl t q hM h0 hL hP
        have haw : ∀ g ∈ gs, awake g := by
          intro g hg
          obtain ⟨i, hi, rfl⟩ := Array.mem_iff_getElem.1 hg
          rcases Nat.eq_zero_or_pos i with rfl | hpos
          · have : gs[0] = a := by simpa [Array.getElem?_eq_getElem hi] using h0
            rw [this]; exact awake_of (.inl hrun)
          · exact awake_of ((hL.old i _ hpos (Array.getElem?_eq_getElem hi)).status.elim .inl fun x => .inr (.inr x))
        obtain ⟨i, g, d', sl', hi, hg, hst⟩ := crowd_pick (P := P) (w := w.at d) (sl := sl) haw ⟨0, a, h0, hrun⟩
        have e0 : (w.at d).at d' = w.at d' := rfl
        rw [e0] at hst
        have other : ∀ {u : Trace} {j k : Nat} {fn : FuncId} {pos : String} {es : Array Event}, k ≠ j → Deaf (u ++ MemOp.ofEvents k fn pos es) j = Deaf u j := fun hne => Deaf_other _ hne _ (fun op hop => by obtain ⟨e, _, rfl⟩ := Go.Conc.mem_ofEvents hop; rfl)
        rcases Nat.eq_zero_or_pos i with rfl | hpos
        · obtain rfl : g = a := by rw [h0] at hi; exact (Option.some.inj hi).symm
          obtain ⟨g', w', es, hgo, hsz, hev⟩ := h1 d'
          have hlt : 0 < gs.size := (Array.getElem?_eq_some_iff.1 h0).1
          obtain ⟨N, gs', a'', w'', sl'', t', q', hr, h0', hS, hL', hP'⟩ := ih d' g' w' es hgo w'.drawn ((gs.map (woken P g g' w')).setIfInBounds 0 g') sl' (t ++ MemOp.ofEvents 0 g.frame.fn g.frame.place es) q (by simp [hlt])
            ⟨fun j x hj hx => by
              rw [Array.getElem?_setIfInBounds_ne (by omega), Array.getElem?_map] at hx
              obtain ⟨y, hy, rfl⟩ := Option.map_eq_some_iff.1 hx
              have hq := hL.old j y hj hy
              rw [woken_quitsD hq, other (by omega)]
              exact hq, fun j hj => by
              rw [other (by simp at hj; omega)]
              exact hL.above j (by simpa using hj)⟩
            ((hP.mono hsz).own hev)
          have hrunT := runT_crowd_go (P := P) (sl := sl') (i := 0) hi (show stepG P (0 == 0) g (w.at d') = _ from hgo)
          exact ⟨N + 1, gs', a'', w'', sl'', t', q', by simp only [runNT, hst, hrunT]; exact hr, h0', hS, hL', hP'⟩
        · have hq := hL.old i g hpos hi
          have hi0 : (i == 0) = false := by simp; omega
          have hlt : i < gs.size := (Array.getElem?_eq_some_iff.1 hi).1
          cases hqi : q i with
          | zero => rw [hqi] at hq; rw [hq.1] at hg; cases hg
          | succ k =>
            rw [hqi] at hq
            rcases hq with ⟨hf, _⟩ | ⟨_, g', es, hm, hstp, hq'⟩
            · rw [hf] at hg; cases hg
            have hrunT := runT_crowd_go (P := P) (sl := sl') (i := i) hi (by rw [hi0]; exact hstp (w.at d'))
            have hsz : ((gs.map (woken P g g' (w.at d'))).setIfInBounds i g').size = gs.size := by simp
            have hsum : sumTo gs.size (upd q i k) + (k + 1) = sumTo gs.size q + k := by
              have := sumTo_upd q k id hlt
              simpa [hqi] using this
            obtain ⟨N, gs', a'', w'', sl'', t', q', hr, h0', hS, hL', hP'⟩ := ihM (sumTo gs.size (upd q i k)) (by omega) d' ((gs.map (woken P g g' (w.at d'))).setIfInBounds i g') sl' (t ++ MemOp.ofEvents i g.frame.fn g.frame.place es) (upd q i k) (by rw [hsz]; exact Nat.le_refl _)
              (by
                rw [Array.getElem?_setIfInBounds_ne (by omega), Array.getElem?_map, h0]
                simp [woken_run hrun])
              ⟨fun j x hj hx => by
                by_cases hji : i = j
                · subst hji
                  rw [Array.getElem?_setIfInBounds_self_of_lt (by simpa using hlt)] at hx
                  obtain rfl := Option.some.inj hx
                  rw [upd_same, Deaf_own]
                  exact hq'
                · rw [Array.getElem?_setIfInBounds_ne hji, Array.getElem?_map] at hx
                  obtain ⟨y, hy, rfl⟩ := Option.map_eq_some_iff.1 hx
                  have hqj := hL.old j y hj hy
                  rw [woken_quitsD hqj, upd_ne q k (Ne.symm hji), other hji]
                  exact hqj, fun j hj => by
                rw [other (by simp at hj; omega)]
                exact hL.above j (by simpa using hj)⟩
              (hP.mute (by omega) hm)
            exact ⟨N + 1, gs', a'', w'', sl'', t', q', by simp only [runNT, hst, hrunT]; exact hr, h0', hS, hL', hP'⟩
    exact fun d gs sl t q h0 hL hP => key _ d gs sl t q (Nat.le_refl _) h0 hL hP
end
theorem Lv.al {p : Pm} {Stop : Goroutine → World → Prop} {S : Nat → Prop} {g : Goroutine} {w : World} (h : Lv p true false Stop S g w) : KN p w → (∀ b, S b → p.top ≤ b ∧ b < w.heap.size) → Al p.P (Shr p) (fun g w => KN p w ∧ Stop g w) g w := by
  have atR : ∀ {S : Nat → Prop} {w : World}, KN p w → ∀ d, Rl p S w (w.at d) := fun hk d => (Rl.refl hk).at d
  induction h with
  | stop h => exact fun hk hS => .stop fun d => ⟨hk.at d, h _ (atR hk d)⟩
  | @step S g w hr h1 _ ih =>
    intro hk hS
    refine .step hr (fun d => ?_) fun d g' w' es hgo => ?_
    · obtain ⟨g', w', es, hgo, hp, _⟩ := h1 _ (atR hk d)
      refine ⟨g', w', es, hgo, hp.size, fun e he => ?_⟩
      have hW := p.bWg; have hJ := p.bJ; have hC := p.bC
      have hsz : p.top ≤ w.heap.size := hk.size
      have hsz2 : w.heap.size ≤ w'.heap.size := hp.size
      have hev := hp.evs e he
      unfold EvP at hev
      obtain ⟨loc, wr, sy⟩ := e
      cases loc with
      | cell a =>
        have hev : ((S a.block ∨ (w.at d).heap.size ≤ a.block) ∧ a.block < w'.heap.size) ∨ (wr = false ∧ p.RdB a.block) := hev
        refine ⟨fun x hx hs => ?_, by simp, by simp, ?_⟩
        · obtain rfl : x = ⟨.cell a, wr, _⟩ := by simpa [MemAct.ofEvent, MemAct.touch?] using hx.symm
          have hs : a.block = p.Wg := hs
          rcases hev with ⟨q | q, _⟩ | ⟨_, q⟩
          · have := (hS _ q).1; omega
          · have q : w.heap.size ≤ a.block := q; omega
          · exact absurd hs q.2.2.2
        · show a.block < _
          rcases hev with ⟨_, q⟩ | ⟨_, q⟩
          · exact q
          · have := q.1; omega
      | obj r =>
        have hev : ((S r ∨ (w.at d).heap.size ≤ r) ∧ r < w'.heap.size) ∨ (wr = false ∧ p.RdB r) := hev
        have key : r ≠ p.J ∧ r < w'.heap.size := by
          rcases hev with ⟨q | q, q2⟩ | ⟨_, q⟩
          · have := (hS _ q).1; omega
          · have q : w.heap.size ≤ r := q; omega
          · exact ⟨q.2.2.1, by have := q.1; omega⟩
        refine ⟨fun x hx hs => ?_, by simp, by simp, ?_⟩
        · have hl : x.loc = .obj r := by cases wr <;> cases sy <;> simp [MemAct.ofEvent, MemAct.touch?] at hx <;> subst hx <;> rfl
          rw [hl] at hs
          exact absurd hs key.1
        · cases wr <;> cases sy <;> exact key.2
      | mark m => cases m <;> first | exact hev.elim | exact ⟨fun x hx => by simp [MemAct.ofEvent, MemAct.touch?] at hx, by simp, by simp, trivial⟩
      | output =>
        refine ⟨fun x hx hs => ?_, by simp, by simp, trivial⟩
        have hl : x.loc = .output := by simp [MemAct.ofEvent, MemAct.touch?] at hx; subst hx; rfl
        rw [hl] at hs
        exact hs.elim
      | goroutines => exact hev.elim
    · obtain ⟨g2, w2, es2, hgo2, hp, _⟩ := h1 _ (atR hk d)
      rw [hgo] at hgo2
      cases hgo2
      refine ih (w.at d) g' w' es (atR hk d) hgo hp.kn fun b hb => ?_
      have hsz2 : w.heap.size ≤ w'.heap.size := hp.size
      rcases hb with hb | ⟨hb, hb2⟩
      · have := hS b hb; omega
      · have hb : w.heap.size ≤ b := hb
        have := hk.size; omega
end Go.Proofs.Q
namespace Go.Proofs.Q
open Go Go.Proofs Go.Conc Go.RowKit Go.Conc.Lib Go.ConcR.Gen
open Go.ConcR (KK stA smA rd wr mk DC0)
set_option linter.unusedVariables false
set_option linter.unusedSectionVars false
set_option linter.unusedSimpArgs false
structure Ph (W : World) (objs : Array Obj) (w : World) : Prop where
  heap : w.heap = W.heap ++ objs
  os : w.os = W.os
  tape : w.tape = W.tape
  out : w.output = W.output
theorem Ph.at {W w w1 : World} {objs : Array Obj} (h : Ph W objs w) (hr : AtRel w w1) : Ph W objs w1 := by
  obtain ⟨d, rfl⟩ := hr
  exact ⟨h.heap, h.os, h.tape, h.out⟩
theorem Ph.alloc {W w : World} {objs : Array Obj} (h : Ph W objs w) (o : Obj) : Ph W (objs.push o) (w.alloc o) :=
  ⟨by show w.heap.push o = _; rw [h.heap]; simp, h.os, h.tape, h.out⟩
theorem Ph.size {W w : World} {objs : Array Obj} (h : Ph W objs w) : w.heap.size = W.heap.size + objs.size := by rw [h.heap]; simp
theorem Ph.get {W w : World} {objs : Array Obj} (h : Ph W objs w) {i : Nat} {o : Obj} (ho : objs[i]? = some o) : w.heap[W.heap.size + i]? = some o := by
  rw [h.heap, Array.getElem?_append_right (by omega)]
  simpa using ho
theorem Ph.low {W w : World} {objs : Array Obj} (h : Ph W objs w) {i : Nat} (hi : i < W.heap.size) : w.heap[i]? = W.heap[i]? := by
  rw [h.heap, Array.getElem?_append_left hi]
theorem Ph.set {W w : World} {objs : Array Obj} (h : Ph W objs w) {i : Nat} {x : Value} {t : TypeId} {f : Nat × Nat} (ho : objs[i]? = some (.cells #[x] t f)) (v : Value) : Ph W (objs.setIfInBounds i (.cells #[v] t f)) (w.setCell ⟨W.heap.size + i, 0, none⟩ v) := by
  have hg := h.get ho
  refine ⟨?_, h.os, h.tape, h.out⟩
  apply Array.ext_getElem?
  intro k
  show (w.heap.modify _ _)[k]? = _
  rw [Array.getElem?_modify]
  have hi : i < objs.size := (Array.getElem?_eq_some_iff.1 ho).1
  by_cases e : W.heap.size + i = k
  · subst e
    rw [if_pos rfl, hg, Array.getElem?_append_right (by omega)]
    simp [hi]
  · rw [if_neg e, h.heap]
    rcases Nat.lt_or_ge k W.heap.size with q | q
    · rw [Array.getElem?_append_left q, Array.getElem?_append_left q]
    · rw [Array.getElem?_append_right q, Array.getElem?_append_right q, Array.getElem?_setIfInBounds_ne (by omega)]
def EvB (N : Nat) (e : Event) : Prop := ∃ a : Addr, e.loc = .cell a ∧ (a.block = N + 1 ∨ a.block = N + 3)
noncomputable def body4 : Code := Tryz.f4.body.getD .skip
noncomputable def rest3 : Code := match body4 with | .seq _ (.seq _ c) => c | _ => .skip
noncomputable def opsL : Array Oper := match rest3 with | .seq (.region _ ops _) _ => ops | _ => #[]
noncomputable def rest4 : Code := match rest3 with | .seq _ c => c | _ => .skip
theorem rest3_is : rest3 = .seq (.region 3 opsL false) rest4 := rfl
def gd (i : Nat) : Edge := { on := i, ground := Ground.guard }
def mkG (ln : String) (d : Option Nat) (op : Op) (t : TypeId) (af : Array Edge) (g : Nat × Bool) : Oper := { dst := d, op := op, type := t, pos := ln, after := af, guard := some g }
noncomputable def early4 : Code := match body4 with | .seq _ (.seq (.seq _ (.cond _ c _)) _) => c | _ => .skip
theorem body4_is : body4 = .seq (.region 0 #[mkL "keep.go:769" (some 4) (.assign (.const (.bool false))) 4 #[]] false) (.seq (.seq
    (.region 1 #[mkL "keep.go:770" (some 7) (.move (.tmp 0)) 3 #[], mkL "keep.go:770" (some 8) (.binOp .lss 3 (.tmp 7) (.const (.int .i64 0)) 3) 4 #[dt 0], mkL "keep.go:770" (some 9) (.move (.tmp 8)) 4 #[dt 1],
      mkG "keep.go:770" (some 10) (.move (.tmp 0)) 3 #[gd 2] (2, false), mkG "keep.go:770" (some 11) (.binOp .gtr 3 (.tmp 10) (.const (.int .i64 60)) 3) 4 #[dt 3, gd 2] (2, false),
      mkL "keep.go:770" (some 12) (.pick (.tmp 9) (.const (.bool true)) (.tmp 11)) 4 #[dt 2, dt 4]] false) (.cond (.tmp 12) early4 .skip)) rest3) := rfl
def mkE (ln : String) (d : Option Nat) (op : Op) (t : TypeId) (af : Array Edge) : Oper := { dst := d, op := op, type := t, pos := ln, after := af, guard := none }
noncomputable def afterL : List Oper := opsL.toList.drop 4
theorem opsL_is : opsL = #[mkL "keep.go:773" (some 14) (.move (.tmp 0)) 3 #[], mkL "keep.go:773" (some 15) (.makeSlice 22 (.tmp 14) (.tmp 14)) 22 #[dt 0, dt 0], mkL "keep.go:773" (some 16) (.move (.tmp 1)) 3 #[],
    mkL "keep.go:773" (some 17) (.call { callee := .value (.func 5), args := #[.tmp 15, .tmp 16], argTypes := #[22, 3] }) 25 #[dt 1, dt 2],
    mkL "keep.go:773" (some 13) (.move (.tmp 17)) 25 #[dt 3], mkL "keep.go:773" (some 18) (.extract (.tmp 13) 0) 22 #[dt 4],
    mkL "keep.go:773" (some 19) (.extract (.tmp 13) 1) 24 #[dt 4, { on := 7, ground := .gcOnly .lateStores }],
    mkL "keep.go:773" (some 5) (.assign (.tmp 18)) 22 #[dt 5, { on := 3, ground := .chain }, ph 0, ph 1, ph 2, ph 3, ph 4, ph 5, { on := 6, ground := .textOnly .lateStores }],
    mkL "keep.go:773" (some 6) (.assign (.tmp 19)) 24 #[dt 6, { on := 7, ground := .chain }, ph 0, ph 1, ph 2, ph 3, ph 4, ph 5, ph 6, ph 7]] := rfl
theorem u22 : Tryz.prog.underlying 22 = some (.slice 9) := by kernel_rfl
noncomputable def i9 : TypeInfo := (Tryz.prog.info? 9).getD default
theorem i9_is : Tryz.prog.info? 9 = some i9 := by kernel_rfl
theorem z9 : i9.zero = some (.string ⟨#[]⟩) := by kernel_rfl
theorem s9 : i9.size = 1 ∧ i9.bytes = 16 := ⟨by kernel_rfl, by kernel_rfl⟩
theorem mk22 {n : Nat} (hn : n ≤ 60) (w : World) : (Instr.makeSlice 22 (.int .i64 n) (.int .i64 n)).run Tryz.prog w = .ok (.slice (some ⟨w.heap.size, 0, none⟩) n n) (w.alloc (.cells (Array.replicate n (.string ⟨#[]⟩)) 9)) := by
  have h := run_makeSlice (P := Tryz.prog) (w := w) 22 9 i9 (.string ⟨#[]⟩) u22 i9_is z9 .i64 .i64 n n (by omega) (by omega) (by rw [s9.1]; omega) (by rw [s9.2]; omega) (by omega)
  rw [h, s9.1]
  have e : madeCells (Value.cells (.string ⟨#[]⟩)) ((n : Int).toNat * 1) = Array.replicate n (.string ⟨#[]⟩) := by
    apply Array.ext
    · simp [madeCells]
    · intro i h1 h2
      simp [madeCells, Value.cells, Nat.mod_one]
  rw [e]
  rfl
theorem mk22e {n : Nat} (hn : n ≤ 60) (w : World) : (Instr.makeSlice 22 (.int .i64 n) (.int .i64 n)).events Tryz.prog w #[] = #[] := by
  have w1 : IntKind.i64.wrap (n : Int) = n := by rw [IntKind.wrap_i64]; omega
  have n1 : ¬ (n : Int) < 0 := by omega
  have n2 : ¬ (281474976710656 < (i9.bytes : Int) * n) := by rw [s9.2]; omega
  simp [Instr.makeSlice, asInt, asIntOf, run_underlying u22, typeInfo, i9_is, sizeOf, zeroValue, z9, w1, n1, n2, newRow]
  rw [askRoom, if_neg (by rw [s9.2]; unfold roomBytes; omega)]
  rfl
attribute [local go_sem] mk22 mk22e
def objT (n : Nat) : Obj := .cells (Array.replicate n (.string ⟨#[]⟩)) 9
def T4 (n k b : Nat) : Array Value := #[.int .i64 n, .int .i64 k, undef, undef, .bool false, undef, undef, .int .i64 n, .bool false, .bool false, .int .i64 n, .bool false, .bool false, undef, .int .i64 n, .slice (some ⟨b, 0, none⟩) n n, .int .i64 k] ++ Array.replicate 33 undef
noncomputable def law4 (n k b : Nat) : Frame := (base 4).at ⟨T4 n k b, []⟩ (.inRegion opsL (3 :: [4, 5, 6, 7, 8]) :: [.code rest4])
section
variable {W : World}
set_option maxRecDepth 100000 in
set_option maxHeartbeats 4000000 in
theorem pre_law {n k : Nat} (hn : n ≤ 50) (hk1 : 1 ≤ k) (hk : k ≤ 16) : Goes Tryz.prog true AtRel (DE (EvB (W.heap.size + 1))) (fun g w => Ph W #[objT n] w ∧ g = G ((base 5).at ⟨#[.slice (some ⟨W.heap.size, 0, none⟩) n n, .int .i64 k] ++ Array.replicate 46 undef, []⟩ [.code body5]) [law4 n k W.heap.size]) 100 (G (Frame.enter Tryz.prog 4 #[.int .i64 n, .int .i64 k] .normal) []) W := by
  have hF : Ph W #[] W := ⟨by simp, rfl, rfl, rfl⟩
  have rk : ∀ {objs : Array Obj} {w w1 : World}, Ph W objs w → AtRel w w1 → Ph W objs w1 := fun h r => h.at r
  rw [enter_at (c := body4) _ Tryz.func4 rfl, show Tryz.f4.ntmps = 50 from rfl]
  simp only [List.size_toArray, List.length_cons, List.length_nil, Nat.reduceAdd, Nat.reduceSub, Array.replicate, List.replicate, List.append_toArray, List.cons_append, List.nil_append]
  have h1 : decide ((n : Int) < 0) = false := decide_eq_false (by omega)
  have h2 : decide ((60 : Int) < n) = false := decide_eq_false (by omega)
  have h3 : decide ((50 : Int) < n) = false := decide_eq_false (by omega)
  have h4 : decide ((k : Int) < 1) = false := decide_eq_false (by omega)
  have h5 : decide ((16 : Int) < k) = false := decide_eq_false (by omega)
  have h6 : ¬ (60 : Int) < n := by omega
  have h7 : ¬ (50 : Int) < n := by omega
  have h8 : ¬ (k : Int) < 1 := by omega
  have h9 : ¬ (16 : Int) < k := by omega
  rw [body4_is]
  generalize early4 = ea
  have e3 := rest3_is
  generalize rest3 = r3 at e3 ⊢
  unfold mkL mkG
  repeat w_go rk
  rw [e3]
  u_c stepG_seq rk hF
  u_c stepG_region rk hF
  rw [show List.range opsL.size = [0, 1, 2, 3, 4, 5, 6, 7, 8] from rfl]
  have o0 : opsL[0]? = some (mkL "keep.go:773" (some 14) (.move (.tmp 0)) 3 #[]) := by rw [opsL_is]; rfl
  have o1 : opsL[1]? = some (mkL "keep.go:773" (some 15) (.makeSlice 22 (.tmp 14) (.tmp 14)) 22 #[dt 0, dt 0]) := by rw [opsL_is]; rfl
  have o2 : opsL[2]? = some (mkL "keep.go:773" (some 16) (.move (.tmp 1)) 3 #[]) := by rw [opsL_is]; rfl
  have o3 : opsL[3]? = some (mkL "keep.go:773" (some 17) (.call { callee := .value (.func 5), args := #[.tmp 15, .tmp 16], argTypes := #[22, 3] }) 25 #[dt 1, dt 2]) := by rw [opsL_is]; rfl
  unfold law4 T4
  simp only [Array.replicate, List.replicate, List.append_toArray, List.cons_append, List.nil_append]
  generalize opsL = oL at o0 o1 o2 o3 ⊢
  generalize rest4 = r4
  unfold mkL at o0 o1 o2
  u_in rk hF
  refine goes_oper_k o0 rfl (by k_ne) fun K hK => ?_
  go_simp
  refine hK _ _ ⟨fun e he => by (have hm := mem_listed he; simp [go_sem, *] at hm), ?_⟩
  clear hK K
  u_in rk hF
  have hn60 : n ≤ 60 := by omega
  refine goes_oper_k o1 rfl (by k_ne) fun K hK => ?_
  go_simp
  refine hK _ _ ⟨fun e he => by (have hm := mem_listed he; simp [go_sem, *] at hm), ?_⟩
  have hb := hF.size
  simp only [List.size_toArray, List.length_nil, Nat.add_zero] at hb
  rw [hb]
  replace hF := hF.alloc (objT n)
  clear hK K hb
  u_in rk hF
  refine goes_oper_k o2 rfl (by k_ne) fun K hK => ?_
  go_simp
  refine hK _ _ ⟨fun e he => by (have hm := mem_listed he; simp [go_sem, *] at hm), ?_⟩
  clear hK K
  u_in rk hF
  refine goes_call (c := body5) o3 rfl (by k_ne) rfl Tryz.func5 (name_ok Tryz.func5) rfl ⟨by u_nil, ?_⟩
  refine Goes.stop fun w₁ h₁ => ⟨rk hF h₁, ?_⟩
  walk_nrm
  simp only [show Tryz.f5.ntmps = 48 from rfl, Nat.reduceSub, Array.replicate, List.replicate, List.append_toArray, List.cons_append, List.nil_append]
end
end Go.Proofs.Q
namespace Go.Proofs.Q
open Go Go.Proofs Go.Conc Go.RowKit Go.Conc.Lib Go.ConcR.Gen
open Go.ConcR (KK stA smA rd wr mk DC0)
set_option linter.unusedVariables false
set_option linter.unusedSectionVars false
set_option linter.unusedSimpArgs false
@[local go_sem] theorem mkch33 (w : World) : (Instr.makeChan 33 (.int .i64 0)).events Tryz.prog w #[] = #[] := by kernel_rfl
attribute [local go_sem] mk22 mk22e
noncomputable def early5 : Code := match body5 with | .seq _ (.seq (.seq _ (.cond _ c _)) _) => c | _ => .skip
theorem body5_is : body5 = .seq (.region 0 #[mkL "many.go:24" (some 4) (.assign (.const (.slice none 0 0))) 22 #[], mkL "many.go:24" (some 5) (.assign (.const .nilIface)) 24 #[{ on := 0, ground := .chain }]] false) (.seq (.seq
    (.region 1 #[mkL "many.go:25" (some 11) (.move (.tmp 0)) 22 #[], mkL "many.go:25" (some 12) (.call { callee := .builtin .len, args := #[.tmp 11], argTypes := #[22] }) 3 #[dt 0],
      mkL "many.go:25" (some 13) (.binOp .gtr 3 (.tmp 12) (.const (.int .i64 50)) 3) 4 #[dt 1], mkL "many.go:25" (some 14) (.move (.tmp 13)) 4 #[dt 2],
      mkG "many.go:25" (some 15) (.move (.tmp 1)) 3 #[gd 3] (3, false), mkG "many.go:25" (some 16) (.binOp .lss 3 (.tmp 15) (.const (.int .i64 1)) 3) 4 #[dt 4, gd 3] (3, false),
      mkL "many.go:25" (some 17) (.pick (.tmp 14) (.const (.bool true)) (.tmp 16)) 4 #[dt 3, dt 5], mkL "many.go:25" (some 18) (.move (.tmp 17)) 4 #[dt 6, { on := 3, ground := .chain }],
      mkG "many.go:25" (some 19) (.move (.tmp 1)) 3 #[gd 7] (7, false), mkG "many.go:25" (some 20) (.binOp .gtr 3 (.tmp 19) (.const (.int .i64 16)) 3) 4 #[dt 8, gd 7] (7, false),
      mkL "many.go:25" (some 21) (.pick (.tmp 18) (.const (.bool true)) (.tmp 20)) 4 #[dt 7, dt 9]] false) (.cond (.tmp 21) early5 .skip)) rest5) := rfl
def ops5a : Array Oper := #[mkL "many.go:28" (some 23) (.move (.tmp 0)) 22 #[], mkL "many.go:28" (some 24) (.call { callee := .builtin .len, args := #[.tmp 23], argTypes := #[22] }) 3 #[dt 0],
  mkL "many.go:28" (some 25) (.makeSlice 22 (.tmp 24) (.tmp 24)) 22 #[dt 1, dt 1], mkL "many.go:28" (some 6) (.alloc 22) 0 #[], mkL "many.go:28" none (.store 22 (.tmp 6) (.tmp 25)) 0 #[dt 3, dt 2, ph 0, ph 1, ph 2, ph 3]]
def ops5b : Array Oper := #[mkL "many.go:29" (some 26) (.makeChan 33 (.const (.int .i64 0))) 33 #[], mkL "many.go:29" (some 7) (.alloc 33) 0 #[], mkL "many.go:29" none (.store 33 (.tmp 7) (.tmp 26)) 0 #[dt 1, dt 0, ph 0, ph 1]]
def ops5c : Array Oper := #[mkL "many.go:30" (some 8) (.alloc 43) 0 #[]]
def ops5d : Array Oper := #[mkL "many.go:31" (some 27) (.move (.tmp 1)) 3 #[], mkL "many.go:31" (some 28) (.move (.const (.int .i64 0))) 3 #[]]
theorem rest5_is : rest5 = .seq (.region 3 ops5a false) (.seq (.region 4 ops5b false) (.seq (.region 5 ops5c false) restX)) := rfl
theorem restX_is : restX = .seq (.seq (.region 6 ops5d false) (.block 0 (.loop LA))) restA := rfl
section
variable {W : World} {cs : List Frame}
def objsW (W : World) (n : Nat) : Array Obj := #[objT n, objT n, .cells #[.slice (some ⟨W.heap.size + 1, 0, none⟩) n n] 22, .chan 0 #[] false 0 0 false, .cells #[.chan (some (W.heap.size + 3))] 33, .cells #[.int .u64 0, .int .u32 0] 43]
set_option maxRecDepth 100000 in
set_option maxHeartbeats 4000000 in
theorem pre_all {n k : Nat} (hn : n ≤ 50) (hk1 : 1 ≤ k) (hk : k ≤ 16) {w : World} (hF : Ph W #[objT n] w) :
    Goes Tryz.prog true AtRel (DE (EvB (W.heap.size + 1))) (fun g w => Ph W (objsW W n) w ∧ ∃ T, g = G (F5 T [.code LA, .inLoop LA, .inBlock 0, .code restA]) cs ∧ T.size = 48 ∧ T[0]? = some (.slice (some ⟨W.heap.size, 0, none⟩) n n) ∧
        T[6]? = some (.pointer (some ⟨W.heap.size + 2, 0, none⟩)) ∧ T[7]? = some (.pointer (some ⟨W.heap.size + 4, 0, none⟩)) ∧ T[8]? = some (.pointer (some ⟨W.heap.size + 5, 0, none⟩)) ∧ T[27]? = some (.int .i64 k) ∧ T[28]? = some (.int .i64 0)) 100
      (G ((base 5).at ⟨#[.slice (some ⟨W.heap.size, 0, none⟩) n n, .int .i64 k] ++ Array.replicate 46 undef, []⟩ [.code body5]) cs) w := by
  have rk : ∀ {objs : Array Obj} {w w1 : World}, Ph W objs w → AtRel w w1 → Ph W objs w1 := fun h r => h.at r
  simp only [Array.replicate, List.replicate, List.append_toArray, List.cons_append, List.nil_append]
  have h3 : decide ((50 : Int) < n) = false := decide_eq_false (by omega)
  have h4 : decide ((k : Int) < 1) = false := decide_eq_false (by omega)
  have h5 : decide ((16 : Int) < k) = false := decide_eq_false (by omega)
  have h7 : ¬ (50 : Int) < n := by omega
  have h8 : ¬ (k : Int) < 1 := by omega
  have h9 : ¬ (16 : Int) < k := by omega
  have h10 : ¬ 50 < n := by omega
  have h11 : ¬ 16 < k := by omega
  have h12 : k ≠ 0 := by omega
  rw [body5_is]
  generalize early5 = ea
  have e3 := rest5_is
  generalize rest5 = r3 at e3 ⊢
  unfold mkL mkG
  repeat w_go rk
  rw [e3]
  clear e3
  u_c stepG_seq rk hF
  unfold ops5a mkL
  u_reg rk hF
  u_op rk hF
  u_op rk hF
  have hn60 : n ≤ 60 := by omega
  u_in rk hF
  refine goes_oper_k rfl rfl (by k_ne) fun K hK => ?_
  go_simp
  refine hK _ _ ⟨fun e he => by (have hm := mem_listed he; simp [go_sem, *] at hm), ?_⟩
  have hb := hF.size
  simp only [List.size_toArray, List.length_cons, List.length_nil, Nat.reduceAdd] at hb
  rw [hb]
  replace hF := hF.alloc (objT n)
  simp only [List.push_toArray, List.cons_append, List.nil_append] at hF
  clear hK K hb
  u_in rk hF
  refine goes_oper_k rfl rfl (by k_ne) fun K hK => ?_
  go_simp
  refine hK _ _ ⟨fun e he => by (have hm := mem_listed he; simp [go_sem, *] at hm), ?_⟩
  have hb := hF.size
  simp only [List.size_toArray, List.length_cons, List.length_nil, Nat.reduceAdd] at hb
  rw [hb]
  replace hF := hF.alloc (.cells #[.slice none 0 0] 22)
  simp only [List.push_toArray, List.cons_append, List.nil_append] at hF
  clear hK K hb
  refine Goes.step rfl fun w₁ h₁ => ?_
  replace hF := rk hF h₁
  clear h₁
  have hg := hF.get (i := 2) (o := .cells #[.slice none 0 0] 22) rfl
  have hc : w₁.cell? ⟨W.heap.size + 2, 0, none⟩ = some (.slice none 0 0) := by unfold World.cell?; rw [hg]; rfl
  have hz : w₁.frozen? ⟨W.heap.size + 2, 0, none⟩ = false := by unfold World.frozen?; rw [hg]; rfl
  refine goes_oper_k rfl rfl (by k_ne) fun K hK => ?_
  go_simp
  refine hK _ _ ⟨fun e he => by (have hm := mem_listed he; (try simp [go_sem] at hm); (try rw [events_store Tryz.prog _ _ _ _ _ rfl] at hm); (try simp [storedEv, hc, hz] at hm); subst hm; exact ⟨_, rfl, by simp⟩), ?_⟩
  replace hF := hF.set (i := 2) (x := .slice none 0 0) (t := 22) (f := (0, 0)) rfl (.slice (some ⟨W.heap.size + 1, 0, none⟩) n n)
  clear hK K hc hz hg
  simp only [List.setIfInBounds_toArray, List.set_cons_succ, List.set_cons_zero] at hF
  u_c stepG_region_end rk hF
  u_c stepG_seq rk hF
  unfold ops5b mkL
  u_reg rk hF
  u_in rk hF
  refine goes_oper_k rfl rfl (by k_ne) fun K hK => ?_
  go_simp
  refine hK _ _ ⟨fun e he => by (have hm := mem_listed he; simp [go_sem, *] at hm), ?_⟩
  have hb := hF.size
  simp only [List.size_toArray, List.length_cons, List.length_nil, Nat.reduceAdd] at hb
  rw [hb]
  replace hF := hF.alloc (.chan 0 #[] false 0 0 false)
  simp only [List.push_toArray, List.cons_append, List.nil_append] at hF
  clear hK K hb
  u_in rk hF
  refine goes_oper_k rfl rfl (by k_ne) fun K hK => ?_
  go_simp
  refine hK _ _ ⟨fun e he => by (have hm := mem_listed he; simp [go_sem, *] at hm), ?_⟩
  have hb := hF.size
  simp only [List.size_toArray, List.length_cons, List.length_nil, Nat.reduceAdd] at hb
  rw [hb]
  replace hF := hF.alloc (.cells #[.chan none] 33)
  simp only [List.push_toArray, List.cons_append, List.nil_append] at hF
  clear hK K hb
  refine Goes.step rfl fun w₁ h₁ => ?_
  replace hF := rk hF h₁
  clear h₁
  have hg := hF.get (i := 4) (o := .cells #[.chan none] 33) rfl
  have hc : w₁.cell? ⟨W.heap.size + 4, 0, none⟩ = some (.chan none) := by unfold World.cell?; rw [hg]; rfl
  have hz : w₁.frozen? ⟨W.heap.size + 4, 0, none⟩ = false := by unfold World.frozen?; rw [hg]; rfl
  refine goes_oper_k rfl rfl (by k_ne) fun K hK => ?_
  go_simp
  refine hK _ _ ⟨fun e he => by (have hm := mem_listed he; (try simp [go_sem] at hm); (try rw [events_store Tryz.prog _ _ _ _ _ rfl] at hm); (try simp [storedEv, hc, hz] at hm); subst hm; exact ⟨_, rfl, by simp⟩), ?_⟩
  replace hF := hF.set (i := 4) (x := .chan none) (t := 33) (f := (0, 0)) rfl (.chan (some (W.heap.size + 3)))
  clear hK K hc hz hg
  simp only [List.setIfInBounds_toArray, List.set_cons_succ, List.set_cons_zero] at hF
  u_c stepG_region_end rk hF
  u_c stepG_seq rk hF
  unfold ops5c mkL
  u_reg rk hF
  u_in rk hF
  refine goes_oper_k rfl rfl (by k_ne) fun K hK => ?_
  go_simp
  refine hK _ _ ⟨fun e he => by (have hm := mem_listed he; simp [go_sem, *] at hm), ?_⟩
  have hb := hF.size
  simp only [List.size_toArray, List.length_cons, List.length_nil, Nat.reduceAdd] at hb
  rw [hb]
  replace hF := hF.alloc (.cells #[.int .u64 0, .int .u32 0] 43)
  simp only [List.push_toArray, List.cons_append, List.nil_append] at hF
  clear hK K hb
  u_c stepG_region_end rk hF
  rw [restX_is]
  generalize LA = la
  generalize restA = rA
  u_c stepG_seq rk hF
  u_c stepG_seq rk hF
  unfold ops5d mkL
  u_reg rk hF
  u_op rk hF
  u_op rk hF
  u_c stepG_region_end rk hF
  u_c stepG_block rk hF
  u_c stepG_loop rk hF
  refine Goes.stop fun w₁ h₁ => ⟨rk hF h₁, _, rfl, rfl, rfl, rfl, rfl, rfl, rfl, rfl⟩
end
end Go.Proofs.Q
namespace Go.Proofs.Q
open Go Go.Proofs Go.Conc Go.RowKit Go.Conc.Lib Go.ConcR.Gen
open Go.ConcR (KK stA smA rd wr mk DC0)
set_option linter.unusedVariables false
set_option linter.unusedSectionVars false
set_option linter.unusedSimpArgs false
def lit18 : Array Oper := #[mkL "many.go:43" (some 47) (.load 22 (.tmp 6)) 22 #[], mkL "many.go:43" (some 4) (.assign (.tmp 47)) 22 #[dt 0, ph 0], mkL "many.go:43" (some 5) (.assign (.const .nilIface)) 24 #[{ on := 1, ground := .chain }, ph 0, ph 1]]
theorem restC_is : restC = .seq (.region 18 lit18 false) .ret := rfl
noncomputable def early6 : Code := match rest4 with | .seq (.seq _ (.cond _ c _)) _ => c | _ => .skip
def opsR4 : Array Oper := #[mkL "keep.go:774" (some 20) (.move (.tmp 0)) 3 #[], mkL "keep.go:774" (some 21) (.binOp .gtr 3 (.tmp 20) (.const (.int .i64 50)) 3) 4 #[dt 0], mkL "keep.go:774" (some 22) (.move (.tmp 21)) 4 #[dt 1],
  mkG "keep.go:774" (some 23) (.move (.tmp 1)) 3 #[gd 2] (2, false), mkG "keep.go:774" (some 24) (.binOp .lss 3 (.tmp 23) (.const (.int .i64 1)) 3) 4 #[dt 3, gd 2] (2, false),
  mkL "keep.go:774" (some 25) (.pick (.tmp 22) (.const (.bool true)) (.tmp 24)) 4 #[dt 2, dt 4], mkL "keep.go:774" (some 26) (.move (.tmp 25)) 4 #[dt 5, { on := 2, ground := .chain }],
  mkG "keep.go:774" (some 27) (.move (.tmp 1)) 3 #[gd 6] (6, false), mkG "keep.go:774" (some 28) (.binOp .gtr 3 (.tmp 27) (.const (.int .i64 16)) 3) 4 #[dt 7, gd 6] (6, false),
  mkL "keep.go:774" (some 29) (.pick (.tmp 26) (.const (.bool true)) (.tmp 28)) 4 #[dt 6, dt 8]]
def beginB : ByteArray := ⟨#[98, 101, 103, 105, 110]⟩
def opsR6 : Array Oper := #[mkL "keep.go:777" (some 38) (.move (.tmp 6)) 24 #[], mkL "keep.go:777" (some 39) (.binOp .eql 24 (.tmp 38) (.const .nilIface) 24) 4 #[dt 0], mkL "keep.go:777" (some 40) (.move (.tmp 39)) 4 #[dt 1],
  mkG "keep.go:777" (some 41) (.move (.tmp 5)) 22 #[gd 2] (2, true), mkG "keep.go:777" (some 42) (.call { callee := .builtin .len, args := #[.tmp 41], argTypes := #[22] }) 3 #[dt 3, gd 2] (2, true),
  mkG "keep.go:777" (some 43) (.move (.tmp 0)) 3 #[gd 2] (2, true), mkG "keep.go:777" (some 44) (.binOp .eql 3 (.tmp 42) (.tmp 43) 3) 4 #[dt 4, dt 5, gd 2] (2, true),
  mkL "keep.go:777" (some 45) (.pick (.tmp 40) (.tmp 44) (.const (.bool false))) 4 #[dt 2, dt 6], mkL "keep.go:777" (some 46) (.move (.tmp 45)) 4 #[dt 7, { on := 2, ground := .chain }],
  mkG "keep.go:777" (some 47) (.call { callee := .value (.func 7), args := #[.const (.string beginB)], argTypes := #[9] }) 9 #[{ on := 8, ground := .chain }, gd 8] (8, true),
  mkG "keep.go:777" (some 48) (.binOp .eql 9 (.tmp 47) (.const (.string ⟨#[49, 10]⟩)) 9) 4 #[dt 9, gd 8] (8, true),
  mkL "keep.go:777" (some 49) (.pick (.tmp 46) (.tmp 48) (.const (.bool false))) 4 #[dt 8, dt 10],
  mkL "keep.go:777" (some 4) (.assign (.tmp 49)) 4 #[dt 11, { on := 9, ground := .chain }, ph 0, ph 1, ph 2, ph 3, ph 4, ph 5, ph 6, ph 7, ph 8, ph 9, ph 10, ph 11]]
theorem rest4_is : rest4 = .seq (.seq (.region 4 opsR4 false) (.cond (.tmp 29) early6 .skip)) (.seq (.region 6 opsR6 false) .ret) := rfl
theorem end_step {b : Frame} {a : Act} {todo : List Item} {w : World} {v : Value} (hb : b.fn = 4) (hn : b.kind = .normal) (hd : a.defers = []) (hv : a.tmps.getD 4 undef = v) : stepG Tryz.prog true (G { b.at a todo with mode := .returning } []) w = .ended (.done v) w #[] := by
  have hf : Tryz.prog.funcs[4]? = some Tryz.f4 := Tryz.func4
  have hr := results_tmp (fn := Tryz.f4) (t := 4) rfl a.tmps Tryz.prog w
  have he := events_results_tmp (fn := Tryz.f4) (t := 4) (w := w) (P := Tryz.prog) rfl a.tmps #[]
  rw [hv] at hr
  simp [G, stepG, unwind, doReturn, Frame.at, hn, hd, hb, hf, hr, he, seen, GStep.after]
def EndL (b : Bool) (g : Goroutine) (_ : World) : Prop := g.status = .running ∧ ∀ w, stepG Tryz.prog true g w = .ended (.done (.bool b)) w #[]
set_option maxRecDepth 100000 in
theorem call7_lv {m : MQ} {t a : ByteArray} (hs : Shar m.base m.W0) (hb12 : 12 ≤ m.base) (hB : Back Tryz.prog 7 #[.string t] (lowW true m.base m.W0) fun _ v _ => v = .string a) (hB2 : Back Tryz.prog 7 #[.string t] (lowW false m.base m.W0) fun _ _ w => ∀ k, k < m.base → w.heap[k]? = (lowW false m.base m.W0).heap[k]?)
    {b : Frame} {A : Act} {ops : Array Oper} {i : Nat} {rest : List Nat} {k : List Item} {cs : List Frame} {o : Oper} {x : Operand} {ats : Array TypeId} (ho : ops[i]? = some o) (hw : Region.wanted o (yielded ops A.tmps) = true) (hk : b.kind ≠ .early)
    (hop : o.op = .call { callee := .value (.func 7), args := #[x], argTypes := ats }) (hx : A.eval x = .string t) (hnr : NoRF (b.at A (.inRegion ops (i :: rest) :: k) :: cs)) {Stop : Goroutine → World → Prop}
    (next : LvA m.p true Stop (G (b.at (A.put o.dst (.string a)) (.inRegion ops rest :: k)) cs)) : LvA m.p true Stop (G (b.at A (.inRegion ops (i :: rest) :: k)) cs) := by
  intro w hkn
  refine Lv.one rfl fun w1 hr => ?_
  have hargs : #[x].map A.eval = #[.string t] := by simp [hx]
  have hstep : stepG Tryz.prog true (G (b.at A (.inRegion ops (i :: rest) :: k)) cs) w1 = .go (G (Frame.enter Tryz.prog 7 #[.string t] .normal) (b.at A (.inRegion ops (i :: rest) :: k) :: cs)) w1 #[] := by
    have h1 := stepG_enter (P := Tryz.prog) (main := true) (b := b) (a := A) (ops := ops) (i := i) (rest := rest) (k := k) (cs := cs) (w := w1) (o := o) ho hw hk (run_call_body hop Tryz.func7 (name_ok Tryz.func7) rfl)
    have h2 : Conc.listed Tryz.prog b.fn A o w1 = #[] := by
      unfold Conc.listed; rw [events_call_body hop Tryz.func7 (name_ok Tryz.func7) rfl]; exact seen_none Tryz.prog _
    rw [h2, hargs] at h1
    exact h1
  refine ⟨_, w1, #[], hstep, Priv.idle hr.kn, (fun q => by cases q), ?_⟩
  rw [more_idle]
  refine lv_enter gz (fun fl ρ => pp hb12) (fun fl ρ => pp hb12) pq hs (f := 7) (by show goodF 7 = true; decide) (args := #[.string t]) ?_ (by simp [rV]) hB hB2 (fun τ v w h => h) (fun τ v w h => h) (by simp [plainV]) Tryz.func7 rfl (k := b.at A (.inRegion ops (i :: rest) :: k)) (cs' := cs) hnr (Q := none1) (H := fun _ => none) ?_ hr.kn (fun b q => q.elim) (fun b q => q.elim) (fun b q => q.elim)
  · intro x hx
    simp only [List.mem_toArray, List.mem_cons, List.not_mem_nil, or_false] at hx
    subst hx
    simp [bV]
  · intro S w2 hk2 _ _
    rw [Frame.finish_at, ho]
    exact (next w2 hk2).wide fun b q => q.elim
@[local go_sem] theorem evq24 (w : World) : (binOp .eql 24 .nilIface .nilIface).events Tryz.prog w #[] = #[] := by kernel_rfl
theorem nrf_law {A : Act} {ops : Array Oper} {l : List Nat} {k : List Item} : NoRF [(base 4).at A (.inRegion ops l :: k)] := by
  intro f hf k t
  simp only [List.mem_cons, List.not_mem_nil, or_false] at hf
  subst hf
  simp [Frame.at]
set_option maxRecDepth 100000 in
set_option maxHeartbeats 4000000 in
theorem aft_lv {m : MQ} {k b bt : Nat} (hn : m.n ≤ 50) (hk1 : 1 ≤ k) (hk : k ≤ 16) (hs : Shar m.base m.W0) (hb12 : 12 ≤ m.base) (hB : Back Tryz.prog 7 #[.string beginB] (lowW true m.base m.W0) fun _ v _ => v = .string ⟨#[49, 10]⟩) (hB2 : Back Tryz.prog 7 #[.string beginB] (lowW false m.base m.W0) fun _ _ w => ∀ k, k < m.base → w.heap[k]? = (lowW false m.base m.W0).heap[k]?)
    (T : Array Value) (hT : FitA m bt 0 T) : LvA m.p true (EndL true) (G ((base 5).at ⟨T, []⟩ (.inRegion lit17 [] :: [.code restC])) [law4 m.n k b]) := by
  obtain ⟨hsz, t0, t6, t7, t8⟩ := hT
  obtain ⟨v0, v1, v2, v3, v4, v5, v6, v7, v8, v9, v10, v11, v12, v13, v14, v15, v16, v17, v18, v19, v20, v21, v22, v23, v24, v25, v26, v27, v28, v29, v30, v31, v32, v33, v34, v35, v36, v37, v38, v39, v40, v41, v42, v43, v44, v45, v46, v47, rfl⟩ := array48 T hsz
  simp at t0 t6 t7 t8
  subst t0 t6 t7 t8
  clear hsz
  have hlaw : law4 m.n k b = (base 4).at ⟨T4 m.n k b, []⟩ (.inRegion opsL (3 :: [4, 5, 6, 7, 8]) :: [.code rest4]) := rfl
  rw [hlaw]
  unfold T4
  simp only [Array.replicate, List.replicate, List.append_toArray, List.cons_append, List.nil_append]
  refine lva_then (Stop' := fun g _ => LvA m.p true (EndL true) g) (lva 40 fun w hF => ?_) (fun g w hk q => q)
  rw [restC_is]
  unfold lit18
  u_c stepG_region_end (rk) hF
  u_c stepG_seq (rk) hF
  u_reg (rk) hF
  refine Goes.stop fun w₁ h₁ => ?_
  clear h₁ w₁ hF w
  refine LvA.go rfl fun w hk => ?_
  obtain ⟨c1, c2⟩ := kn_box hk
  unfold sl at c1
  refine goes_oper_k (o := mkL "many.go:43" (some 47) (.load 22 (.tmp 6)) 22 #[]) rfl rfl (by k_ne) fun K hK => ?_
  unfold mkL at hK ⊢
  go_simp
  refine hK _ _ ⟨⟨rfl, ⟨rfl, rfl⟩, fun e he => by (have hm := mem_listed he; simp [go_sem, *] at hm; subst hm; exact ⟨_, rfl, rfl, .inr (rd_boxes m).1⟩)⟩, ?_⟩
  clear hK K hk c1 c2 w
  refine lva_then (Stop' := fun g _ => LvA m.p true (EndL true) g) (lva 40 fun w hF => ?_) (fun g w hk q => q)
  u_op (rk) hF
  u_op (rk) hF
  u_c stepG_region_end (rk) hF
  u_c stepG_ret' (rk) hF
  u_in (rk) hF
  refine goes_leave2 rfl rfl Tryz.func5 rfl ?_
  refine ⟨by u_nil, ?_⟩
  rw [opsL_is]
  unfold mkL
  walk_nrm
  try simp only [List.set_cons_succ, List.set_cons_zero]
  have e4 := rest4_is
  generalize rest4 = r4 at e4 ⊢
  u_op (rk) hF
  u_op (rk) hF
  u_op (rk) hF
  u_op (rk) hF
  u_op (rk) hF
  u_c stepG_region_end (rk) hF
  rw [e4]
  clear e4
  generalize early6 = ea
  refine Goes.stop fun w₁ h₁ => ?_
  clear h₁ w₁ hF w
  refine lva_then (Stop' := fun g _ => LvA m.p true (EndL true) g) (lva 60 fun w hF => ?_) (fun g w hk q => q)
  have h3 : decide ((50 : Int) < m.n) = false := decide_eq_false (by omega)
  have h4 : decide ((k : Int) < 1) = false := decide_eq_false (by omega)
  have h5 : decide ((16 : Int) < k) = false := decide_eq_false (by omega)
  have h7 : ¬ (50 : Int) < m.n := by omega
  have h8 : ¬ (k : Int) < 1 := by omega
  have h9 : ¬ (16 : Int) < k := by omega
  have h10 : ¬ 50 < m.n := by omega
  have h11 : ¬ 16 < k := by omega
  have h12 : k ≠ 0 := by omega
  unfold opsR4 opsR6 mkL mkG
  repeat w_go rk
  refine Goes.stop fun w₁ h₁ => ?_
  clear h₁ w₁ hF w
  refine call7_lv hs hb12 hB hB2 rfl rfl (by k_ne) rfl rfl nrf_law ?_
  walk_nrm
  try simp only [List.set_cons_succ, List.set_cons_zero]
  refine lva_then (Stop' := fun g _ => LvA m.p true (EndL true) g) (lva 60 fun w hF => ?_) (fun g w hk q => q)
  repeat w_but "code.ret" rk
  u_c stepG_ret' (rk) hF
  refine Goes.stop fun w₁ h₁ => LvA.stop fun w hk => ⟨rfl, fun w => end_step rfl rfl rfl rfl⟩
end Go.Proofs.Q
namespace Go.Proofs.Q
open Go Go.Proofs Go.Conc Go.ConcN Go.RowKit Go.Conc.Lib Go.ConcR.Gen Go.Proofs.YtiblcbdkiecbgaaGreatDoor
open Go.ConcR (KK stA smA rd wr mk DC0)
set_option linter.unusedVariables false
set_option linter.unusedSectionVars false
set_option linter.unusedSimpArgs false
def T0 (E : Event → Prop) (t : Trace) : Prop := ∀ op ∈ t, op.g = 0 ∧ ∃ e, op.act = MemAct.ofEvent e ∧ E e
theorem lone_run {P : Program} {E : Event → Prop} {Stop : Goroutine → World → Prop} : ∀ (n : Nat) (g : Goroutine) (w : World) (t : Trace) (sl : Option (Nat × Nat)), Goes P true AtRel (DE E) Stop n g w → T0 E t →
    ∃ N g' w' sl' t', runNT P N (crowd #[g] w sl) t = (.next (crowd #[g'] w' sl'), t') ∧ Stop g' w' ∧ T0 E t'
  | 0, g, w, t, sl, h, ht => ⟨0, g, w, sl, t, rfl, h w (atRel_refl w), ht⟩
  | n + 1, g, w, t, sl, h, ht => by
    rcases h with h | ⟨hr, h⟩
    · exact ⟨0, g, w, sl, t, rfl, h w (atRel_refl w), ht⟩
    · have haw : ∀ x ∈ #[g], awake x := by
        intro x hx
        simp only [List.mem_toArray, List.mem_cons, List.not_mem_nil, or_false] at hx
        subst hx
        exact awake_of (.inl hr)
      obtain ⟨i, g1, d, sl', hi, hg, hst⟩ := crowd_pick (P := P) (w := w) (sl := sl) haw ⟨0, g, rfl, hr⟩
      have hi0 : i = 0 := by
        have := (Array.getElem?_eq_some_iff.1 hi).1
        simp at this
        omega
      subst hi0
      have : g1 = g := by simpa using hi.symm
      subst this
      obtain ⟨g', w', es, hgo, hd, hG⟩ := goes_elim (h (w.at d) ⟨d, rfl⟩)
      have hrunT := runT_crowd_go (P := P) (sl := sl') (i := 0) hi (show stepG P (0 == 0) g1 (w.at d) = _ from hgo)
      have hgs : (#[g1].map (woken P g1 g' w')).setIfInBounds 0 g' = #[g'] := by simp
      rw [hgs] at hrunT
      obtain ⟨N, g2, w2, sl2, t2, h1, h2, h3⟩ := lone_run n g' w' (t ++ MemOp.ofEvents 0 g1.frame.fn g1.frame.place es) sl' hG (fun op hop => by
        rcases Array.mem_append.1 hop with q | q
        · exact ht op q
        · obtain ⟨e, he, rfl⟩ := Go.Conc.mem_ofEvents q
          exact ⟨rfl, e, rfl, hd e he⟩)
      exact ⟨N + 1, g2, w2, sl2, t2, by simp only [runNT, hst, hrunT]; exact h1, h2, h3⟩
theorem t0_g {E : Event → Prop} {t : Trace} (h : T0 E t) {i k : Nat} (hg : t.g? i = some k) : k = 0 := by
  unfold Trace.g? at hg
  obtain ⟨z, hz, rfl⟩ := Option.map_eq_some_iff.1 hg
  exact (h z (mem_of_getElem? hz)).1
theorem tr_pre (m : MQ) {t : Trace} (h : T0 (EvB m.N) t) : TR m.p (fun _ => 0) (fun _ => 0) 0 (m.N + 5) t := by
  have hx : ∀ {i x}, touchAt t i = some x → ∃ a, x.loc = .cell a ∧ (a.block = m.N + 1 ∨ a.block = m.N + 3) := by
    intro i x hx
    obtain ⟨z, hz, hz2⟩ := touch_of hx
    obtain ⟨_, e, he, a, ha, hb⟩ := h z (mem_of_getElem? hz)
    rw [he] at hz2
    obtain ⟨loc, wr, sy⟩ := e
    have ha : loc = .cell a := ha
    subst ha
    refine ⟨a, ?_, hb⟩
    simp [MemAct.ofEvent, MemAct.touch?] at hz2
    subst hz2
    rfl
  refine ⟨fun i x k hx' hm hg hne => absurd (t0_g h hg) hne, fun i x hx' hm hg => .inr ⟨fun k hk q => ?_, fun q => ?_, fun _ _ i' k hg' hne => absurd (t0_g h hg') hne⟩, fun k h1 h2 => by omega, fun i k hg => by rw [t0_g h hg]; exact Nat.le_refl _, fun op hop => ?_, fun i x a hx' hl hb => ?_, fun i q => ?_⟩
  · obtain ⟨a, ha, hb⟩ := hx hx'
    rw [ha] at q
    rcases q with ⟨_, q⟩ | ⟨_, q⟩ <;> (have q : 0 = k := q; omega)
  · obtain ⟨a, ha, hb⟩ := hx hx'
    rw [ha] at q
    have q : a.block = m.N + 4 := q
    omega
  · obtain ⟨_, e, he, a, ha, hb⟩ := h op hop
    rw [he]
    obtain ⟨loc, wr, sy⟩ := e
    have ha : loc = .cell a := ha
    subst ha
    show a.block < m.N + 5
    omega
  · obtain ⟨a', ha, hb'⟩ := hx hx'
    rw [hl] at ha
    cases ha
    have hb : a.block = m.N := hb
    omega
  · obtain ⟨z, hz, hz2⟩ : ∃ z, t[i]? = some z ∧ z.act = .mark (.release (stA m.p.Wg)) := by
      unfold Trace.act? at q
      obtain ⟨z, hz, hz2⟩ := Option.map_eq_some_iff.1 q
      exact ⟨z, hz, hz2⟩
    obtain ⟨_, e, he, a, ha, hb⟩ := h z (mem_of_getElem? hz)
    rw [he] at hz2
    obtain ⟨loc, wr, sy⟩ := e
    have ha : loc = .cell a := ha
    subst ha
    simp [MemAct.ofEvent] at hz2
end Go.Proofs.Q
namespace Go.Proofs.Q
open Go Go.Proofs Go.Conc Go.ConcN Go.RowKit Go.Conc.Lib Go.ConcR.Gen Go.Proofs.YtiblcbdkiecbgaaGreatDoor
open Go.ConcR (KK stA smA rd wr mk DC0)
set_option linter.unusedVariables false
set_option linter.unusedSectionVars false
set_option linter.unusedSimpArgs false
def okS : ByteArray := ⟨#[111, 107, 10]⟩
structure Good0 (W : World) : Prop where
  vd : VL W
  sh : Shar 12 W
theorem Ph.mod {W w : World} {objs : Array Obj} (h : Ph W objs w) : Mod noBlock W w := ⟨h.os, h.tape, h.out, by rw [h.size]; omega, fun k hk _ => h.low hk⟩
def mq {W w0 : World} {n : Nat} (h : Good0 W) (hF : Ph W (objsW W n) w0) : MQ :=
  { base := 12, N := W.heap.size + 1, n := n, W0 := w0, ans := fun _ => .string okS, txt := fun _ => ⟨#[]⟩, hB := by have := h.vd.sz; omega,
    boxA := hF.get (i := 2) rfl, boxJ := hF.get (i := 4) rfl }
theorem deaf_t0 {N : Nat} {t : Trace} (h : T0 (EvB N) t) (i : Nat) : Deaf t i = 0 := by
  have e := Deaf_append #[] i t.toList
  have key : ∀ (l : List MemOp), (∀ y ∈ l, y ∈ t) → l.foldl (deafStep i) 0 = 0 := fun l => by
    induction l with
    | nil => intro _; rfl
    | cons y l ih =>
      intro hl
      obtain ⟨_, ev, he, a, ha, _⟩ := h y (hl y (by simp))
      obtain ⟨loc, wr, sy⟩ := ev
      have ha : loc = .cell a := ha
      subst ha
      have hs : deafStep i 0 y = 0 := by unfold deafStep; rw [he]; simp [MemAct.ofEvent]
      rw [List.foldl_cons, hs]
      exact ih fun z hz => hl z (by simp [hz])
  have e2 : (#[] : Trace) ++ t.toList.toArray = t := by simp
  rw [e2, show Deaf #[] i = 0 from rfl, key _ (fun y hy => Array.mem_toList_iff.1 hy)] at e
  exact e
section
variable {W w0 : World} {n : Nat}
theorem mq_kn (h : Good0 W) (hF : Ph W (objsW W n) w0) : KN (mq h hF).p w0 := by
  refine ⟨?_, rfl, rfl, fun _ _ => rfl, fun b o _ ho => ⟨o, ho, .inl rfl⟩, fun _ _ _ => rfl, ⟨0, 0, hF.get (i := 5) rfl⟩, ⟨_, hF.get (i := 1) rfl, by simp [mq]⟩, ⟨false, 0, 0, false, hF.get (i := 3) rfl⟩⟩
  show W.heap.size + 1 + 5 ≤ _
  rw [hF.size]
  show _ ≤ W.heap.size + 6
  omega
theorem mq_shar (h : Good0 W) (hF : Ph W (objsW W n) w0) : Shar (mq h hF).base (mq h hF).W0 := by
  have hs := h.vd.sz
  have e : ∀ k, k < 12 → w0.heap[k]? = W.heap[k]? := fun k hk => hF.low (by omega)
  refine ⟨by show 12 ≤ w0.heap.size; rw [hF.size]; omega, fun k c t f hk hv hc => ?_, h.sh.hb, fun k hv => ?_, fun k o hk ho => ?_⟩
  · have hc : w0.heap[k]? = _ := hc
    rw [e k hk] at hc
    exact h.sh.cl k c t f hk hv hc
  · obtain ⟨c, t, f, q1, q2⟩ := h.sh.hc k hv
    exact ⟨c, t, f, (e k (h.sh.hb k hv)).trans q1, q2⟩
  · have ho : w0.heap[k]? = _ := ho
    rw [e k hk] at ho
    exact h.sh.np k o hk ho
theorem mq_ok (h : Good0 W) (hF : Ph W (objsW W n) w0) (hn : n ≤ 50) (S1 : SessOk ⟨#[]⟩ okS) : (mq h hF).Ok := by
  have hs := mq_shar h hF
  have hv : VL w0 := h.vd.quiet hF.mod
  refine ⟨hs, (Nat.le_refl 12), fun j _ => (S1.back true hv (Nat.le_refl 12) hs.bs).weak fun τ v w q => q.1, fun j _ => (S1.back false hv (Nat.le_refl 12) hs.bs).weak fun τ v w q => q.2, fun j => ⟨_, rfl⟩, hn⟩
theorem mq_txt (h : Good0 W) (hF : Ph W (objsW W n) w0) : TxtOk (mq h hF) W.heap.size :=
  ⟨h.vd.sz, by show W.heap.size < W.heap.size + 1; omega, ⟨_, _, hF.get (i := 0) rfl, fun i hi => by
    have hi : i < n := hi
    show (Array.replicate n (Value.string ⟨#[]⟩))[i]? = some (.string ⟨#[]⟩)
    simp [hi]⟩⟩
def Res (W : World) (b : Bool) (v : Value) (w' : World) : Prop := v = .bool b ∧ w'.os = W.os ∧ w'.output = W.output ∧ W.heap.size ≤ w'.heap.size ∧ ∀ i, i < W.heap.size → w'.heap[i]? = W.heap[i]?
theorem sit0 (h : Good0 W) (hF : Ph W (objsW W n) w0) (hn : n ≤ 50) (S1 : SessOk ⟨#[]⟩ okS) {k : Nat} (hk : k < 16) {cs : List Frame} {g : Goroutine} {t : Trace}
    (hlv : LvA (mq h hF).p true (SKd (mq h hF).p (AnchM (mq h hF) W.heap.size cs) (RecvW (mq h hF)) (k + 1)) g) (ht : T0 (EvB (W.heap.size + 1)) t) :
    ∃ (l0 : LL (mq h hF).p), Sit (mq h hF).p (AftM (mq h hF) W.heap.size cs) (AnchM (mq h hF) W.heap.size cs) (RecvW (mq h hF)) (k + 1) #[g] w0 t 0 (fun _ => .recv) (fun _ => .inr 0) (.kd k) l0 (fun _ => 0) (fun _ => 0) 0 0 := by
  have hkn := mq_kn h hF
  obtain ⟨x, hx⟩ := hlv.way hkn (fun _ => 0) 0
  have hdeaf : ∀ i, Deaf t i = 0 := deaf_t0 ht
  refine ⟨.inl x, { size := rfl, kn := hkn, zero := ⟨g, rfl, ?_⟩, wks := fun i hi => by omega, wg := hF.get (i := 5) rfl, md := ?_, ch := ⟨0, 0, false, hF.get (i := 3) rfl⟩, op := fun _ i hi => by omega, cl := (fun q => by cases q), np := (fun i q => by cases q), jb := ⟨fun c hc => by (have hc : c < 0 := hc; omega), fun _ _ => rfl, fun k c hk => by omega, Nat.zero_le _⟩, left := by (show 0 + (k + 1) = k + 1; omega), few := by omega, tr := ?_, df0 := hdeaf 0, dfw := fun i hi => by omega, dfx := fun i _ => hdeaf i, rel := fun i hi => by omega, own := fun _ _ => rfl }⟩
  · exact hx
  · have := MD.opn (j := 0) (D := fun _ => WTag.recv) (tag := .kd k) trivial (fun i hi => by omega) (fun vs q => by cases q)
    have e : ((Vc 0 (fun _ => WTag.recv) + (STag.kd k).pend : Nat) : Int) * KK = 0 := by
      have : Vc 0 (fun _ => WTag.recv) + (STag.kd k).pend = 0 := rfl
      rw [this]; simp
    rw [e] at this
    exact this
  · have := tr_pre (mq h hF) ht
    have hsz : w0.heap.size = W.heap.size + 1 + 5 := by rw [hF.size]; rfl
    rw [hsz]
    exact this
end
end Go.Proofs.Q
namespace Go.Proofs.Q
open Go Go.Proofs Go.Conc Go.ConcN Go.RowKit Go.Conc.Lib Go.ConcR.Gen Go.Proofs.YtiblcbdkiecbgaaGreatDoor
open Go.ConcR (KK stA smA rd wr mk DC0)
set_option linter.unusedVariables false
set_option linter.unusedSectionVars false
set_option linter.unusedSimpArgs false
theorem run_then {P : Program} {N N' : Nat} {m m1 : Machine} {t t1 : Trace} {x : Stepped × Trace} (h : runNT P N m t = (.next m1, t1)) (hk : runNT P N' m1 t1 = x) : runNT P (N + N') m t = x := by
  rw [runNT_add, h]; exact hk
theorem runN_of {P : Program} {N : Nat} {m m1 : Machine} {t t1 : Trace} (h : runNT P N m t = (.next m1, t1)) : runN P N m = .next m1 := by rw [← runNT_fst P N m t, h]
theorem limits_run {W : World} (h : Good0 W) (S1 : SessOk ⟨#[]⟩ okS) (S2 : SessOk beginB ⟨#[49, 10]⟩) {n k : Nat} (hn : n ≤ 50) (hk : k < 16) :
    ∃ N last o w' t', runNT Tryz.prog (N + 1) (crowd #[G (Frame.enter Tryz.prog 4 #[.int .i64 n, .int .i64 (k + 1 : Nat)] .normal) []] W none) #[] = (.ended o w', t') ∧
      runN Tryz.prog N (crowd #[G (Frame.enter Tryz.prog 4 #[.int .i64 n, .int .i64 (k + 1 : Nat)] .normal) []] W none) = .next last ∧ step Tryz.prog last = .ended o w' ∧ Conc.Good Tryz.prog (Res W true) last o w' t' := by
  have p1 := pre_law (W := W) (k := k + 1) hn (by omega) (by omega)
  obtain ⟨N1, g1, w1, sl1, t1, r1, ⟨hF1, rfl⟩, ht1⟩ := lone_run _ _ _ #[] none p1 (fun op hop => by simp at hop)
  have p2 := pre_all (cs := [law4 n (k + 1) W.heap.size]) (k := k + 1) hn (by omega) (by omega) hF1
  obtain ⟨N2, g2, w2, sl2, t2, r2, ⟨hF, T, rfl, hsz, q0, q6, q7, q8, q27, q28⟩, ht2⟩ := lone_run _ _ _ t1 sl1 p2 ht1
  have O := mq_ok h hF hn S1
  have hn' : (mq h hF).n ≤ 50 := hn
  have hlv := workers_lv (m := mq h hF) (bt := W.heap.size) (W := k + 1) (cs := [law4 n (k + 1) W.heap.size]) (Anch := AnchM (mq h hF) W.heap.size [law4 n (k + 1) W.heap.size]) (by omega) hn'
    (fun T hT => sends_lv hn' (mq_txt h hF) (fun T hT => close_lv T hT) (mq h hF).n 0 (by omega) T hT) (k + 1) 0 (by omega) T ⟨hsz, q0, q6, q7, q8⟩ q27 q28
  obtain ⟨l0, S⟩ := sit0 h hF hn S1 hk hlv ht2
  obtain ⟨N3, gs3, w3, sl3, t3, r3, D⟩ := S.run (recvI O) anchI _ rfl (sl := sl2)
  obtain ⟨a, ha, T', hT', haf⟩ := D.zero
  have hv : VL w2 := h.vd.quiet hF.mod
  have hs := mq_shar h hF
  have hl : LvA (mq h hF).p true (EndL true) a := lva_then (Stop' := fun g _ => g = _) (lva 30 haf) (fun g w hk q => by
    rw [q]
    exact aft_lv (m := mq h hF) hn' (by omega) (by omega) hs (Nat.le_refl 12) ((S2.back true hv (Nat.le_refl 12) hs.bs).weak fun τ v w q => q.1) ((S2.back false hv (Nat.le_refl 12) hs.bs).weak fun τ v w q => q.2) T' hT')
  have al := (hl w3 D.kn).al D.kn (fun b q => q.elim)
  obtain ⟨q, hL⟩ := D.lv
  obtain ⟨N4, gs4, a4, w4, sl4, t4, q4, r4, h04, ⟨hk4, hend⟩, hL4, hP4⟩ := al.run w3.drawn gs3 sl3 t3 q ha hL D.past
  have res : ∀ d, Res W true (.bool true) (w4.at d) := fun d => by
    refine ⟨rfl, hk4.os.trans hF.os, hk4.out.trans hF.out, ?_, fun i hi => ?_⟩
    have : W.heap.size + 1 + 5 ≤ w4.heap.size := hk4.size
    show W.heap.size ≤ w4.heap.size
    omega
    · refine Eq.trans ?_ (hF.low hi)
      by_cases h12 : i < 12
      · exact hk4.lo i h12
      · have hlt : i < W.heap.size := hi
        refine hk4.mid i (by show 12 ≤ i; omega) ⟨?_, ?_, ?_, ?_⟩
        · show i < W.heap.size + 1 + 5; omega
        · show i ≠ W.heap.size + 1; omega
        · show i ≠ W.heap.size + 1 + 2; omega
        · show i ≠ W.heap.size + 1 + 4; omega
  obtain ⟨N5, last, o, w5, t5, e1, e2, e3, e4⟩ := beside_ends (P := Tryz.prog) (Shun := Shr (mq h hF).p) (B := w4.heap.size) (D := fun _ _ es => ∀ e ∈ es, EvL (Shr (mq h hF).p) w4.heap.size e) (Post := Res W true) (sl := sl4) (n := 0) (fun _ _ _ q => q) h04 hL4 hP4
    (fun w1 hr => by
      obtain ⟨d, rfl⟩ := hr
      exact ⟨hend.1, .bool true, #[], hend.2 _, fun e he => by simp at he, res d⟩)
  have r := run_then (run_then (run_then r1 r2) r3) r4
  refine ⟨N1 + N2 + N3 + N4 + N5, last, o, w5, t5, ?_, ?_, e3, e4⟩
  · rw [Nat.add_assoc _ N5 1]
    exact run_then r e1
  · rw [runN_add, runN_of r]
    exact e2
end Go.Proofs.Q
namespace Go.Proofs.YtiblcbdkiecbgaaGreatDoor
open Go.RowKit Go.Extern.Stop Go.Stop Go.Extern
set_option linter.unusedVariables false
set_option maxRecDepth 100000 in
set_option maxHeartbeats 4000000 in
theorem limits_far (n k : Int) (hn : n < 0 ∨ 60 < n) (w : World) : Calls Tryz.prog 4 #[.int .i64 n, .int .i64 k] w fun e w' => e = .returned (.bool true) ∧ Mod noBlock w w' := by
  rcases hn with hn | hn
  · have h1 : decide (n < 0) = true := decide_eq_true hn
    go_enter Tryz.func4, Tryz.ntmps4
    go_wp2_with fail
    go_ret
    exact ⟨rfl, Mod.refl _ _⟩
  · have h0 : ¬ n < 0 := by omega
    have h1 : decide (n < 0) = false := decide_eq_false h0
    have h2 : decide (60 < n) = true := decide_eq_true hn
    go_enter Tryz.func4, Tryz.ntmps4
    go_wp2_with fail
    go_ret
    exact ⟨rfl, Mod.refl _ _⟩
set_option maxRecDepth 100000 in
set_option maxHeartbeats 4000000 in
theorem all_no (b : Nat) (n : Nat) (k : Int) (hk : 50 < n ∨ k < 1 ∨ 16 < k) (w : World) : Calls Tryz.prog 5 #[.slice (some ⟨b, 0, none⟩) n n, .int .i64 k] w fun e w' => e = .returned (.tuple #[.slice none 0 0, .iface 30 (.int .i64 4)]) ∧ w' = w := by
  by_cases h1 : (50 : Int) < n
  · have h2 : decide ((50 : Int) < n) = true := decide_eq_true h1
    go_enter Tryz.func5, Tryz.ntmps5
    go_wp2_with fail
    go_ret2
    exact ⟨rfl, rfl⟩
  · have h2 : decide ((50 : Int) < n) = false := decide_eq_false h1
    have h50 : ¬ 50 < n := by omega
    by_cases h3 : k < 1
    · have h4 : decide (k < 1) = true := decide_eq_true h3
      go_enter Tryz.func5, Tryz.ntmps5
      go_wp2_with fail
      go_ret2
      exact ⟨rfl, rfl⟩
    · have h4 : decide (k < 1) = false := decide_eq_false h3
      have h5 : 16 < k := by omega
      have h6 : decide (16 < k) = true := decide_eq_true h5
      go_enter Tryz.func5, Tryz.ntmps5
      go_wp2_with fail
      go_ret2
      exact ⟨rfl, rfl⟩
theorem mk22' (n : Nat) (hn : n ≤ 60) (w : World) : (Instr.makeSlice 22 (.int .i64 n) (.int .i64 n)).run Tryz.prog w = .ok (.slice (some ⟨w.heap.size, 0, none⟩) n n) (w.alloc (.cells (Array.replicate n (.string ⟨#[]⟩)) 9)) := Go.Proofs.Q.mk22 hn w
set_option maxRecDepth 100000 in
set_option maxHeartbeats 4000000 in
theorem limits_no (n : Nat) (hn : n ≤ 60) (k : Int) (hk : 50 < n ∨ k < 1 ∨ 16 < k) (w : World) (hv : VD w) : Calls Tryz.prog 4 #[.int .i64 n, .int .i64 k] w fun e w' => e = .returned (.bool true) ∧ Mod noBlock w w' := by
  have m1 : Mod noBlock w (w.alloc (.cells (Array.replicate n (.string ⟨#[]⟩)) 9)) := (Mod.refl _ w).alloc _
  have HM := Hmq (mk22' n hn w)
  have H1 := Hmq (all_no w.heap.size n k (hk.imp (fun h => by omega) id) (w.alloc (.cells (Array.replicate n (.string ⟨#[]⟩)) 9)))
  have H2 := Hmq (tell_errno 4 (w.alloc (.cells (Array.replicate n (.string ⟨#[]⟩)) 9)) (hv.et.mod m1))
  have M1 := Hmq m1
  have a0 : ¬ (n : Int) < 0 := by omega
  have a1 : decide ((n : Int) < 0) = false := decide_eq_false a0
  have a2 : ¬ 60 < n := by omega
  have a3 : decide ((60 : Int) < n) = false := decide_eq_false (by omega)
  clear hv m1
  have h50 : (50 : Int) < n ∨ ¬ (50 : Int) < n := Classical.em _
  rcases h50 with h1 | h1
  · have h2 : decide ((50 : Int) < n) = true := decide_eq_true h1
    clear hk
    go_enter Tryz.func4, Tryz.ntmps4
    go_wp2_with (first
      | (go_at_call 8; with_reducible refine H2.out.mono ?_; rintro e w2 ⟨rfl, hm2⟩)
      | (go_at_call 5; with_reducible refine H1.out.mono ?_; rintro e w1 ⟨rfl, rfl⟩)
      | (rw [HM.out]))
    go_ret
    exact ⟨rfl, M1.out.trans hm2⟩
  · have h2 : decide ((50 : Int) < n) = false := decide_eq_false h1
    have h50 : ¬ 50 < n := by omega
    have h51 : n ≤ 50 := by omega
    have hk2 : k < 1 ∨ 16 < k := by omega
    by_cases h3 : k < 1
    · have h4 : decide (k < 1) = true := decide_eq_true h3
      clear hk2
      clear hk
      go_enter Tryz.func4, Tryz.ntmps4
      go_wp2_with (first
        | (go_at_call 8; with_reducible refine H2.out.mono ?_; rintro e w2 ⟨rfl, hm2⟩)
        | (go_at_call 5; with_reducible refine H1.out.mono ?_; rintro e w1 ⟨rfl, rfl⟩)
        | (rw [HM.out]))
      go_ret
      exact ⟨rfl, M1.out.trans hm2⟩
    · have h4 : decide (k < 1) = false := decide_eq_false h3
      have h5 : 16 < k := by omega
      have h6 : decide (16 < k) = true := decide_eq_true h5
      clear hk2
      clear hk
      go_enter Tryz.func4, Tryz.ntmps4
      go_wp2_with (first
        | (go_at_call 8; with_reducible refine H2.out.mono ?_; rintro e w2 ⟨rfl, hm2⟩)
        | (go_at_call 5; with_reducible refine H1.out.mono ?_; rintro e w1 ⟨rfl, rfl⟩)
        | (rw [HM.out]))
      go_ret
      exact ⟨rfl, M1.out.trans hm2⟩
theorem limits_else (n k : Int) (h : ¬ (0 ≤ n ∧ n ≤ 50 ∧ 1 ≤ k ∧ k ≤ 16)) (w : World) (hv : VD w) : Calls Tryz.prog 4 #[.int .i64 n, .int .i64 k] w fun e w' => e = .returned (.bool true) ∧ Mod noBlock w w' := by
  by_cases hf : n < 0 ∨ 60 < n
  · exact limits_far n k hf w
  · obtain ⟨m, rfl⟩ : ∃ m : Nat, n = m := ⟨n.toNat, by omega⟩
    exact limits_no m (by omega) k (by omega) w hv
end Go.Proofs.YtiblcbdkiecbgaaGreatDoor
