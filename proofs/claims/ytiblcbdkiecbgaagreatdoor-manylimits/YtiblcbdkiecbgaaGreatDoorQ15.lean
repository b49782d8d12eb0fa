import Derived.Test.YtiblcbdkiecbgaaGreatDoorQ14
import Derived.Test.YtiblcbdkiecbgaaGreatDoorQ13
import Derived.Conc.TokenWalk
namespace Go.Proofs.Q
open Go Go.Proofs Go.Conc Go.RowKit Go.Conc.Lib Go.ConcR.Gen
open Go.ConcR (KK stA smA rd wr DC0)
set_option linter.unusedVariables false
set_option linter.unusedSectionVars false
set_option linter.unusedSimpArgs false
structure MQ.Ok (m : MQ) : Prop where
  shar : Shar m.base m.W0
  b12 : 12 ≤ m.base
  back : ∀ j, j < m.n → Back Tryz.prog 7 #[.string (m.txt j)] (lowW true m.base m.W0) fun _ v _ => v = m.ans j
  back2 : ∀ j, j < m.n → Back Tryz.prog 7 #[.string (m.txt j)] (lowW false m.base m.W0) fun _ _ w => ∀ k, k < m.base → w.heap[k]? = (lowW false m.base m.W0).heap[k]?
  str : ∀ j, ∃ t, m.ans j = .string t
  few : m.n ≤ 50
theorem loud12 : (Tryz.prog.funcs[(base 12).fn]?).any (·.norace) = false := by kernel_rfl
section
variable {main : Bool} {b : Frame} {a : Act} {kk : List Item} {cs : List Frame} {w : World} {ops : Array Oper} {i : Nat} {rest : List Nat} {o : Oper}
theorem stepG_store9 {x y : Operand} (ho : ops[i]? = some o) (hw : Region.wanted o (yielded ops a.tmps) = true) (hk : b.kind ≠ .early) (hop : o.op = .store 9 x y)
    {ad : Addr} {v : ByteArray} {u : Value} (hx : a.eval x = .pointer (some ad)) (hy : a.eval y = .string v) (hc : w.cell? ad = some u) (hz : w.frozen? ad = false) (hq : (Tryz.prog.funcs[b.fn]?).any (·.norace) = false) :
    stepG Tryz.prog main (G (b.at a (.inRegion ops (i :: rest) :: kk)) cs) w = .go (G (b.at (a.put o.dst undef) (.inRegion ops rest :: kk)) cs) (w.setCell ad (.string v)) #[⟨.cell ad, true, false⟩] := by
  have hr : (execOp a.eval o).run Tryz.prog w = .ok .skip (w.setCell ad (.string v)) := by
    unfold execOp
    simp only [hop, hx, hy]
    simp [go_sem, stored, hc, hz]
  have he : (execOp a.eval o).events Tryz.prog w #[] = #[⟨.cell ad, true, false⟩] := by
    unfold execOp
    simp only [hop, hx, hy]
    simp only [Sem.events_bind, Sem.events_pure]
    simp [go_sem, events_store Tryz.prog w _ ad (.string v) .plain rfl, storedEv, hc, hz]
  rw [stepG_none ho hw hk hr]
  unfold Conc.listed
  rw [he, seen_eq hq (by simp)]
end
theorem kn_ans {m : MQ} {w : World} (h : KN m.p w) {j : Nat} (hj : j < m.n) : (∃ u, w.cell? ⟨m.N, j, none⟩ = some u) ∧ w.frozen? ⟨m.N, j, none⟩ = false := by
  obtain ⟨cs, h1, h2⟩ := h.pay
  have h1 : w.heap[m.N]? = some (.cells cs 9) := h1
  have h2 : cs.size = m.n := h2
  exact ⟨⟨cs[j], by simp [World.cell?, h1, Array.getElem?_eq_getElem (by omega : j < cs.size)]⟩, by simp [World.frozen?, h1]⟩
noncomputable def K3 : List Item := [.inBlock 1, .inLoop L1, .inBlock 0]
def objJ (m : MQ) (j : Nat) : Obj := .cells #[.int .i64 j, .string (m.txt j)] 47
theorem L1_is : L1 = .seq (.region 1 ops1 false) C1 := rfl
theorem back_recv (m : MQ) (T : Array Value) (h1 : T.size = 16) (h2 : T[1]? = some (sl m)) (h3 : T[5]? = some (.chan (some (m.N + 2)))) : LvA m.p false (fun g _ => RecvW m g) (G ((base 12).at ⟨T, []⟩ (.inRegion lit3 [] :: K3)) [cfr m, bot]) := by
  refine lva 8 fun w hF => ?_
  unfold K3
  u_c stepG_region_end (rk) hF
  u_c stepG_inBlock (rk) hF
  u_c stepG_inLoop (rk) hF
  rw [show (Item.code L1) = Item.code (.seq (.region 1 ops1 false) C1) from congrArg Item.code L1_is]
  u_c stepG_seq (rk) hF
  u_c stepG_region (rk) hF
  exact Goes.stop fun w₁ h₁ => ⟨T, rfl, rfl, rfl, rfl, h1, h2, h3⟩
set_option maxRecDepth 100000 in
theorem job_ord {m : MQ} (O : m.Ok) {j : Nat} (hj : j < m.n) {bj : Nat} (htop : m.N + 5 ≤ bj) {listed : Array Bool} {order : List Nat} (hO : Ord .any lit3 listed order) :
    ∀ (l0 l1 l2 l3 l4 l5 l6 : Bool), listed = st3 l0 l1 l2 l3 l4 l5 l6 → ∀ v0 v2 v3 v6 v7 v8 v9 v10 v11 v12 v13 v14 v15 : Value,
      (l0 = true → v9 = sl m) → (l1 = true → v10 = .pointer (some ⟨bj, 0, none⟩)) → (l2 = true → v11 = .int .i64 j) → (l3 = true → v12 = .pointer (some ⟨bj, 1, none⟩)) → (l4 = true → v13 = .string (m.txt j)) → (l5 = true → v14 = m.ans j) → (l6 = true → v15 = .pointer (some ⟨m.N, j, none⟩)) →
      LvJ m.p bj (objJ m j) false (SSto m.p (RecvW m) j) (G ((base 12).at ⟨#[v0, sl m, v2, v3, .pointer (some ⟨bj, 0, none⟩), .chan (some (m.N + 2)), v6, v7, v8, v9, v10, v11, v12, v13, v14, v15], []⟩ (.inRegion lit3 order :: K3)) [cfr m, bot]) := by
  induction hO with
  | @nil listed h =>
    intro l0 l1 l2 l3 l4 l5 l6 e
    subst e
    have := (ready3 l0 l1 l2 l3 l4 l5 l6).2
    rw [h] at this
    cases this
  | @cons listed i rest h hrest ih =>
    intro l0 l1 l2 l3 l4 l5 l6 e v0 v2 v3 v6 v7 v8 v9 v10 v11 v12 v13 v14 v15 h0 h1 h2 h3 h4 h5 h6
    subst e
    have hc := List.all_eq_true.1 (ready3 l0 l1 l2 l3 l4 l5 l6).1 i h
    have hk : base 12 = base 12 := rfl
    rcases i with _ | _ | _ | _ | _ | _ | _ | _ | i <;> simp only [can3, Bool.and_eq_true, Bool.not_eq_true'] at hc
    · refine LvJ.go rfl fun w hk hb => ?_
      refine goes_oper_k (o := mkO (some 9) (.move (.tmp 1)) 22 #[]) rfl rfl (by k_ne) fun K hK => ?_
      unfold mkO at hK ⊢
      go_simp
      refine hK _ _ ⟨DR.none fun e he => by (have hm := mem_listed he; simp [go_sem, *] at hm), ih true l1 l2 l3 l4 l5 l6 rfl _ _ _ _ _ _ _ _ _ _ _ _ _ (fun _ => rfl) h1 h2 h3 h4 h5 h6⟩
    · refine LvJ.go rfl fun w hk hb => ?_
      refine goes_oper_k (o := mkO (some 10) (.fieldAddr 47 (.tmp 4) 0) 0 #[]) rfl rfl (by k_ne) fun K hK => ?_
      unfold mkO at hK ⊢
      go_simp
      refine hK _ _ ⟨DR.none fun e he => by (have hm := mem_listed he; simp [go_sem, *] at hm), ih l0 true l2 l3 l4 l5 l6 rfl _ _ _ _ _ _ _ _ _ _ _ _ _ h0 (fun _ => rfl) h2 h3 h4 h5 h6⟩
    · obtain ⟨d1, d2⟩ := hc
      obtain rfl := h1 d1
      refine LvJ.go rfl fun w hk hb => ?_
      refine goes_oper_k (o := mkO (some 11) (.load 3 (.tmp 10)) 3 #[dt 1]) rfl rfl (by k_ne) fun K hK => ?_
      unfold mkO at hK ⊢
      have hc1 : w.cell? ⟨bj, 0, none⟩ = some (.int .i64 j) := by simp [World.cell?, hb, objJ]
      go_simp
      refine hK _ _ ⟨⟨rfl, ⟨rfl, rfl⟩, fun e he => by (have hm := mem_listed he; simp [go_sem, *] at hm; subst hm; exact ⟨_, rfl, rfl, .inl rfl⟩)⟩, ih l0 l1 true l3 l4 l5 l6 rfl _ _ _ _ _ _ _ _ _ _ _ _ _ h0 h1 (fun _ => rfl) h3 h4 h5 h6⟩
    · refine LvJ.go rfl fun w hk hb => ?_
      refine goes_oper_k (o := mkO (some 12) (.fieldAddr 47 (.tmp 4) 1) 0 #[]) rfl rfl (by k_ne) fun K hK => ?_
      unfold mkO at hK ⊢
      go_simp
      refine hK _ _ ⟨DR.none fun e he => by (have hm := mem_listed he; simp [go_sem, *] at hm), ih l0 l1 l2 true l4 l5 l6 rfl _ _ _ _ _ _ _ _ _ _ _ _ _ h0 h1 h2 (fun _ => rfl) h4 h5 h6⟩
    · obtain ⟨d1, d2⟩ := hc
      obtain rfl := h3 d1
      refine LvJ.go rfl fun w hk hb => ?_
      refine goes_oper_k (o := mkO (some 13) (.load 9 (.tmp 12)) 9 #[dt 3]) rfl rfl (by k_ne) fun K hK => ?_
      unfold mkO at hK ⊢
      have hc1 : w.cell? ⟨bj, 1, none⟩ = some (.string (m.txt j)) := by simp [World.cell?, hb, objJ]
      go_simp
      refine hK _ _ ⟨⟨rfl, ⟨rfl, rfl⟩, fun e he => by (have hm := mem_listed he; simp [go_sem, *] at hm; subst hm; exact ⟨_, rfl, rfl, .inl rfl⟩)⟩, ih l0 l1 l2 l3 true l5 l6 rfl _ _ _ _ _ _ _ _ _ _ _ _ _ h0 h1 h2 h3 (fun _ => rfl) h5 h6⟩
    · obtain ⟨d1, d2⟩ := hc
      obtain rfl := h4 d1
      intro w hk hb
      refine Lv.one rfl fun w1 hr => ?_
      obtain ⟨A, hA⟩ : ∃ A : Act, A = ⟨#[v0, sl m, v2, v3, .pointer (some ⟨bj, 0, none⟩), .chan (some (m.N + 2)), v6, v7, v8, v9, v10, v11, v12, .string (m.txt j), v14, v15], []⟩ := ⟨_, rfl⟩
      have hev : (Operand.tmp 13 : Operand) = .tmp 13 → #[Operand.tmp 13].map A.eval = #[.string (m.txt j)] := fun _ => by rw [hA]; simp [Act.eval]
      have hstep : stepG Tryz.prog false (G ((base 12).at A (.inRegion lit3 (5 :: rest) :: K3)) [cfr m, bot]) w1 = .go (G (Frame.enter Tryz.prog 7 #[.string (m.txt j)] .normal) ((base 12).at A (.inRegion lit3 (5 :: rest) :: K3) :: [cfr m, bot])) w1 #[] := by
        have h1 := stepG_enter (P := Tryz.prog) (main := false) (b := base 12) (a := A) (ops := lit3) (i := 5) (rest := rest) (k := K3) (cs := [cfr m, bot]) (w := w1) (o := mkO (some 14) (.call { callee := .value (.func 7), args := #[.tmp 13], argTypes := #[9] }) 9 #[dt 4]) rfl rfl (by k_ne) (run_call_body rfl Tryz.func7 (name_ok Tryz.func7) rfl)
        have h2 : Conc.listed Tryz.prog (base 12).fn A (mkO (some 14) (.call { callee := .value (.func 7), args := #[.tmp 13], argTypes := #[9] }) 9 #[dt 4]) w1 = #[] := by
          unfold Conc.listed; rw [events_call_body rfl Tryz.func7 (name_ok Tryz.func7) rfl]; exact seen_none Tryz.prog _
        rw [h2, hev rfl] at h1
        exact h1
      rw [← hA]
      refine ⟨_, w1, #[], hstep, Priv.idle hr.kn, (fun q => by cases q), ?_⟩
      rw [more_idle]
      refine lv_enter gz (fun fl ρ => pp O.b12) (fun fl ρ => pp O.b12) pq O.shar (f := 7) (by show goodF 7 = true; decide) (args := #[.string (m.txt j)]) ?_ (by simp [rV]) (O.back j hj) (O.back2 j hj) (fun τ v w h => h) (fun τ v w h => h) (by obtain ⟨t, ht⟩ := O.str j; rw [ht]; simp [plainV]) Tryz.func7 rfl (k := (base 12).at A (.inRegion lit3 (5 :: rest) :: K3)) (cs' := [cfr m, bot]) ?_ (Q := fun b => b = bj) (H := fun _ => some (objJ m j)) ?_ hr.kn (fun b q => by subst q; exact ⟨rfl, (Array.getElem?_eq_some_iff.1 ((hr.mine b rfl).trans hb)).1⟩) (fun b q => by subst q; exact (hr.mine b rfl).trans hb) (fun b q => by rw [q]; exact htop)
      · intro x hx
        simp only [List.mem_toArray, List.mem_cons, List.not_mem_nil, or_false] at hx
        subst hx
        simp [bV]
      · intro f hf k t
        simp only [List.mem_cons, List.not_mem_nil, or_false] at hf
        rcases hf with rfl | rfl | rfl
        · simp [Frame.at]
        · simp [cfr, Frame.at]
        · intro q; have e : (default : Frame).todo = [] := rfl; rw [show bot.todo = (default : Frame).todo from rfl, e] at q; cases q
      · intro S w2 hk2 hS hb2
        rw [Frame.finish_at, hA]
        exact (ih l0 l1 l2 l3 l4 true l6 rfl _ _ _ _ _ _ _ _ _ _ _ _ _ h0 h1 h2 h3 h4 (fun _ => rfl) h6 w2 hk2 (hb2 bj rfl)).wide fun b q => by rw [q]; exact hS bj rfl
    · obtain ⟨⟨⟨⟨⟨⟨d0, d1⟩, d2⟩, d3⟩, d4⟩, d5⟩, d6⟩ := hc
      obtain rfl := h0 d0
      obtain rfl := h2 d2
      refine LvJ.go rfl fun w hk hb => ?_
      refine goes_oper_k (o := mkO (some 15) (.indexAddr 22 (.tmp 9) (.tmp 11)) 0 #[dt 0, dt 2, ph 0, ph 1, ph 2, ph 3, ph 4, ph 5]) rfl rfl (by k_ne) fun K hK => ?_
      unfold mkO at hK ⊢
      unfold sl at hK ⊢
      go_simp
      refine hK _ _ ⟨DR.none fun e he => by (have hm := mem_listed he; simp [go_sem, *] at hm), ih l0 l1 l2 l3 l4 l5 true rfl _ _ _ _ _ _ _ _ _ _ _ _ _ (fun _ => rfl) (fun _ => rfl) (fun _ => rfl) (fun _ => rfl) (fun _ => rfl) (fun _ => rfl) (fun _ => rfl)⟩
    · obtain ⟨⟨⟨⟨⟨⟨d0, d1⟩, d2⟩, d3⟩, d4⟩, d5⟩, d6⟩ := hc
      obtain rfl := h5 d5
      obtain rfl := h6 d6
      obtain ⟨ta, hta⟩ := O.str j
      have hrest' : rest = [] := by
        subst d0 d1 d2 d3 d4 d5 d6
        cases hrest with
        | nil => rfl
        | cons q _ =>
          have e : (st3 true true true true true true true).setIfInBounds (0 + 1 + 1 + 1 + 1 + 1 + 1 + 1) true = #[true, true, true, true, true, true, true, true] := rfl
          rw [e, ready_end] at q
          cases q
      subst hrest'
      refine LvJ.stop fun w hk hb => ?_
      obtain ⟨⟨u, hu⟩, hz⟩ := kn_ans hk hj
      refine ⟨rfl, _, (stepG_store9 (o := mkO none (.store 9 (.tmp 15) (.tmp 14)) 0 #[dt 6, dt 5, { on := 5, ground := Ground.chain }, ph 0, ph 1, ph 2, ph 3, ph 4, ph 5]) (ad := ⟨m.N, j, none⟩) (v := ta) rfl rfl (by k_ne) rfl rfl (by rw [← hta]; rfl) hu hz loud12).trans (by rw [← hta]), ?_⟩
      exact back_recv m _ (by rfl) rfl rfl
    · simp [can3] at hc
end Go.Proofs.Q
namespace Go.Proofs.Q
open Go Go.Proofs Go.Conc Go.RowKit Go.Conc.Lib Go.ConcR.Gen
open Go.ConcR (KK stA smA rd wr DC0)
set_option linter.unusedVariables false
set_option linter.unusedSectionVars false
set_option linter.unusedSimpArgs false
def mkR (d : Option Nat) (op : Op) (t : TypeId) (af : Array Edge) : Oper := { dst := d, op := op, type := t, pos := "many.go:48", after := af, guard := none }
def lit2 : Array Oper := #[mkR (some 8) (.extract (.tmp 6) 0) 47 #[], mkR (some 4) (.alloc 47) 0 #[], mkR none (.store 47 (.tmp 4) (.tmp 8)) 0 #[dt 1, dt 0, ph 0, ph 1]]
theorem ops2_eq : ops2 = lit2 := rfl
theorem mixed : Tryz.prog.follows .mixedOrders = true := by kernel_rfl
theorem draw_step {P : Program} {main : Bool} {b : Frame} {a : Act} {k : List Item} {cs : List Frame} {w : World} {id : Nat} {ops : Array Oper} :
    stepG P main (G (b.at a (.code (.region id ops true) :: k)) cs) w =
      .go (G (b.at a (.inRegion ops (Region.schedule (P.follows .mixedOrders) ops (w.tape w.drawn (.order b.fn id))) :: k)) cs) { w with drawn := w.drawn + 1 } #[] := by
  simp [G, stepG, stepG.exec, Frame.at, choose, Sem.run, Question.forced, Question.cut]
theorem two_set {w : World} {bj : Nat} {x y : Value} {t : TypeId} (hb : w.heap[bj]? = some (.cells #[x, y] t)) (x' y' : Value) :
    ((w.setCell ⟨bj, 0, none⟩ x').setCell ⟨bj, 1, none⟩ y').heap = w.heap.setIfInBounds bj (.cells #[x', y'] t) := by
  apply Array.ext_getElem?
  intro i
  have hlt : bj < w.heap.size := (Array.getElem?_eq_some_iff.1 hb).1
  by_cases h : bj = i
  · subst h
    unfold World.setCell
    simp only [Array.getElem?_modify, if_true, hb, Option.map_some]
    simp [hlt]
  · simp [World.setCell, Array.getElem?_modify, h, Array.getElem?_setIfInBounds_ne h]
set_option maxRecDepth 100000 in
theorem job_lv {m : MQ} (O : m.Ok) {j : Nat} (hj : j < m.n) (g : Goroutine) (h : RecvW m g) : LvA m.p false (SSto m.p (RecvW m) j) ({ g with offers := none }.finishComm Tryz.prog #[rcase (m.N + 2) zJ] (.recv true) 0 (jobOf m.txt j) true) := by
  obtain ⟨T, q1, q2, q3, q4, q5, q6, q7⟩ := h
  obtain ⟨fr, cs, st, dy, off⟩ := g
  simp only at q1 q2 q3 q4
  subst q1 q2 q3 q4
  obtain ⟨v0, v1, v2, v3, v4, v5, v6, v7, v8, v9, v10, v11, v12, v13, v14, v15, rfl⟩ := array16 T q5
  simp at q6 q7
  subst q6 q7
  clear q5
  have e : (Goroutine.finishComm Tryz.prog { frame := (base 12).at ⟨#[v0, sl m, v2, v3, v4, .chan (some (m.N + 2)), v6, v7, v8, v9, v10, v11, v12, v13, v14, v15], []⟩ [.inRegion ops1 [0, 1], .code C1, .inLoop L1, .inBlock 0], callers := [cfr m, bot], status := .running, dying := none, offers := none } #[rcase (m.N + 2) zJ] (.recv true) 0 (jobOf m.txt j) true) =
      G ((base 12).at ⟨#[v0, sl m, v2, v3, v4, .chan (some (m.N + 2)), .tuple #[jobOf m.txt j, .bool true], v7, v8, v9, v10, v11, v12, v13, v14, v15], []⟩ [.inRegion ops1 [1], .code C1, .inLoop L1, .inBlock 0]) [cfr m, bot] := by
    unfold Goroutine.finishComm
    simp only
    rw [Frame.finish_at, ops1_two]
    rfl
  refine lva_then (Stop' := fun g _ => g = G ((base 12).at ⟨#[v0, sl m, v2, v3, v4, .chan (some (m.N + 2)), .tuple #[jobOf m.txt j, .bool true], .bool true, jobOf m.txt j, v9, v10, v11, v12, v13, v14, v15], []⟩ (.inRegion lit2 [1, 2] :: .code (.region 3 ops3 true) :: K3)) [cfr m, bot]) ?_ (fun g w hk q => ?_)
  · refine lva 20 fun w hF => ?_
    show Goes _ _ _ _ _ _ (Goroutine.finishComm Tryz.prog { frame := (base 12).at ⟨#[v0, sl m, v2, v3, v4, .chan (some (m.N + 2)), v6, v7, v8, v9, v10, v11, v12, v13, v14, v15], []⟩ [.inRegion ops1 [0, 1], .code C1, .inLoop L1, .inBlock 0], callers := [cfr m, bot], status := .running, dying := none, offers := none } #[rcase (m.N + 2) zJ] (.recv true) 0 (jobOf m.txt j) true) _
    rw [e, C1_is]
    unfold cfr K3
    generalize L1 = l1
    generalize opsB = oB
    generalize ops3 = o3
    rw [ops1_two, ops2_eq]
    clear e
    simp only [lit2, mkR]
    repeat w_go rk
    refine Goes.stop fun w₁ h₁ => rfl
  · subst q
    refine LvA.make (ob := .cells #[.int .i64 0, .string ⟨#[]⟩] 47) rfl fun w hk => ?_
    refine goes_oper_k (o := mkR (some 4) (.alloc 47) 0 #[]) rfl rfl (by k_ne) fun K hK => ?_
    unfold mkR at hK ⊢
    go_simp
    refine hK _ _ ⟨⟨rfl, ⟨rfl, rfl⟩, fun e he => by (have hm := mem_listed he; simp [go_sem, *] at hm)⟩, ?_⟩
    have htop : m.N + 5 ≤ w.heap.size := hk.size
    generalize w.heap.size = bj at htop
    clear hK K hk w
    refine LvJ.turn (ob' := objJ m j) htop rfl fun w hk hb => ?_
    refine goes_oper_k (o := mkR none (.store 47 (.tmp 4) (.tmp 8)) 0 #[dt 1, dt 0, ph 0, ph 1]) rfl rfl (by k_ne) fun K hK => ?_
    unfold mkR at hK ⊢
    unfold jobOf at hK ⊢
    have hc0 : w.cell? ⟨bj, 0, none⟩ = some (.int .i64 0) := by simp [World.cell?, hb]
    have hc1 : w.cell? ⟨bj, 1, none⟩ = some (.string ⟨#[]⟩) := by simp [World.cell?, hb]
    have hz : ∀ k, w.frozen? ⟨bj, k, none⟩ = false := fun k => by simp [World.frozen?, hb]
    go_simp
    have hlt : bj < w.heap.size := (Array.getElem?_eq_some_iff.1 hb).1
    refine hK _ _ ⟨⟨two_set hb _ _, ⟨by simp [World.setCell, hb, hlt], by simp [World.setCell, hb, hlt]⟩, fun e he => ?_⟩, ?_⟩
    · have hm := mem_listed he
      have hc2 : (w.setCell ⟨bj, 0, none⟩ (.int .i64 j)).cell? ⟨bj, 1, none⟩ = some (.string ⟨#[]⟩) := by
        unfold World.setCell World.cell?; simp only [Array.getElem?_modify, if_true, hb, Option.map_some]; simp
      have hz2 : (w.setCell ⟨bj, 0, none⟩ (.int .i64 j)).frozen? ⟨bj, 1, none⟩ = false := by
        unfold World.setCell World.frozen?; simp only [Array.getElem?_modify, if_true, hb, Option.map_some]; simp
      simp [go_sem, storedEv, *] at hm
      rw [events_store Tryz.prog _ _ _ _ _ rfl] at hm
      simp [storedEv, hc2, hz2] at hm
      rcases hm with rfl | rfl <;> exact ⟨_, rfl, rfl⟩
    clear hK K hc0 hc1 hz hb hlt hk w
    refine LvJ.go rfl fun w hk hb => ?_
    rw [stepG_region_end]
    simp only [goes_go]
    refine ⟨DR.none (fun e he => by simp at he), ?_⟩
    refine LvJ.go rfl fun w hk hb => ?_
    rw [draw_step]
    simp only [goes_go]
    refine ⟨⟨rfl, ⟨rfl, rfl⟩, fun e he => by simp at he⟩, ?_⟩
    rw [mixed, ops3_eq]
    simp only [Region.schedule, Bool.true_or, if_true]
    refine job_ord O hj htop (ord_of lit3.size _ (st3 false false false false false false false) (by decide)) false false false false false false false rfl _ _ _ _ _ _ _ _ _ _ _ _ _ (fun q => by cases q) (fun q => by cases q) (fun q => by cases q) (fun q => by cases q) (fun q => by cases q) (fun q => by cases q) (fun q => by cases q)
end Go.Proofs.Q
namespace Go.Proofs.Q
open Go Go.Proofs Go.Conc Go.RowKit Go.Conc.Lib Go.ConcR.Gen
open Go.ConcR (KK stA smA rd wr DC0)
set_option linter.unusedVariables false
set_option linter.unusedSectionVars false
set_option linter.unusedSimpArgs false
theorem recvI {m : MQ} (O : m.Ok) : RecvI m.p (RecvW m) :=
  ⟨fun g h => by obtain ⟨_, _, _, _, q, _⟩ := h; exact q, recv_same m, fun g h => ⟨zJ, fun w hk => recv_step m g h w, fun j hj => job_lv O hj g h, recv_end m g h⟩⟩
noncomputable def opsA : Array Oper := match childB with | .seq (.region _ ops _) _ => ops | _ => #[]
theorem childB_is : childB = .seq (.region 0 opsA false) (.region 1 opsB false) := rfl
theorem workB_is : ∃ ops, workB = .seq (.region 0 ops false) (.block 0 (.loop L1)) ∧ ops = #[mkR (some 5) (.move (.tmp 0)) 78 #[]] := ⟨_, rfl, rfl⟩
def mkC (d : Option Nat) (op : Op) (t : TypeId) (af : Array Edge) : Oper := { dst := d, op := op, type := t, pos := "many.go:35", after := af, guard := none }
def litB : Array Oper := #[mkC (some 3) (.load 33 (.tmp 1)) 33 #[], mkC (some 4) (.load 22 (.tmp 2)) 22 #[], mkC (some 5) (.call { callee := .value (.func 12), args := #[.tmp 3, .tmp 4], argTypes := #[78, 22] }) 0 #[dt 0, dt 1]]
theorem opsB_is : opsB = litB := rfl
theorem opsA_is : ∃ o : Oper, opsA = #[o] ∧ o = { o with dst := none, op := .defer { callee := .value (.func 11), args := #[.tmp 0], argTypes := #[43] }, guard := none } := ⟨_, rfl, rfl⟩
theorem rd_boxes (m : MQ) : m.p.RdB (m.N + 1) ∧ m.p.RdB (m.N + 3) :=
  ⟨⟨by show m.N + 1 < m.N + 5; omega, by show m.N + 1 ≠ m.N; omega, by show m.N + 1 ≠ m.N + 2; omega, by show m.N + 1 ≠ m.N + 4; omega⟩, ⟨by show m.N + 3 < m.N + 5; omega, by show m.N + 3 ≠ m.N; omega, by show m.N + 3 ≠ m.N + 2; omega, by show m.N + 3 ≠ m.N + 4; omega⟩⟩
set_option maxRecDepth 100000 in
theorem born_lv (m : MQ) : LvA m.p false (fun g _ => RecvW m g) (born Tryz.prog (call10 m)) := by
  refine LvA.go rfl fun w hk => ?_
  rw [show stepG m.p.P false (born Tryz.prog (call10 m)) w = _ from born_step m w]
  simp only [goes_go]
  refine ⟨DR.none (fun e he => by simp at he), ?_⟩
  clear hk w
  refine lva_then (Stop' := fun g _ => g = G (b10.at ⟨#[.pointer (some ⟨m.N + 4, 0, none⟩), .pointer (some ⟨m.N + 3, 0, none⟩), .pointer (some ⟨m.N + 1, 0, none⟩), undef, undef, undef], [dcall 11 #[.pointer (some ⟨m.N + 4, 0, none⟩)]]⟩ [.inRegion litB [0, 1, 2]]) [bot]) ?_ (fun g w hk q => ?_)
  · refine lva 20 fun w hF => ?_
    rw [childB_is, opsB_is]
    obtain ⟨o, ho, ho2⟩ := opsA_is
    rw [ho, ho2]
    u_c stepG_seq (rk) hF
    u_reg (rk) hF
    u_defer (rk) hF
    u_c stepG_region_end (rk) hF
    u_c stepG_region (rk) hF
    exact Goes.stop fun w₁ h₁ => rfl
  · subst q
    clear hk w
    refine LvA.go rfl fun w hk => ?_
    refine goes_oper_k (o := mkC (some 3) (.load 33 (.tmp 1)) 33 #[]) rfl rfl (by k_ne) fun K hK => ?_
    unfold mkC at hK ⊢
    obtain ⟨c1, c2⟩ := kn_box hk
    go_simp
    refine hK _ _ ⟨⟨rfl, ⟨rfl, rfl⟩, fun e he => by (have hm := mem_listed he; simp [go_sem, *] at hm; subst hm; exact ⟨_, rfl, rfl, .inr (rd_boxes m).2⟩)⟩, ?_⟩
    clear hK K c1 c2 hk w
    refine LvA.go rfl fun w hk => ?_
    refine goes_oper_k (o := mkC (some 4) (.load 22 (.tmp 2)) 22 #[]) rfl rfl (by k_ne) fun K hK => ?_
    unfold mkC at hK ⊢
    obtain ⟨c1, c2⟩ := kn_box hk
    unfold sl at c1
    go_simp
    refine hK _ _ ⟨⟨rfl, ⟨rfl, rfl⟩, fun e he => by (have hm := mem_listed he; simp [go_sem, *] at hm; subst hm; exact ⟨_, rfl, rfl, .inr (rd_boxes m).1⟩)⟩, ?_⟩
    clear hK K c1 c2 hk w
    obtain ⟨ops, hw1, hw2⟩ := workB_is
    refine lva 20 fun w hF => ?_
    u_in (rk) hF
    refine goes_call (o := mkC (some 5) (.call { callee := .value (.func 12), args := #[.tmp 3, .tmp 4], argTypes := #[78, 22] }) 0 #[dt 0, dt 1]) rfl rfl (by k_ne) rfl Tryz.func12 (name_ok Tryz.func12) (c := workB) rfl ⟨by u_nil, ?_⟩
    rw [hw1, hw2]
    u_c stepG_seq (rk) hF
    u_reg (rk) hF
    simp only [mkR, show Tryz.f12.ntmps = 16 from rfl]
    walk_nrm
    try simp only [Nat.reduceSub, Array.replicate, List.replicate, List.append_toArray, List.cons_append, List.nil_append]
    u_op (rk) hF
    u_c stepG_region_end (rk) hF
    u_c stepG_block (rk) hF
    u_c stepG_loop (rk) hF
    rw [show (Item.code L1) = Item.code (.seq (.region 1 ops1 false) C1) from congrArg Item.code L1_is]
    u_c stepG_seq (rk) hF
    u_c stepG_region (rk) hF
    exact Goes.stop fun w₁ h₁ => ⟨_, rfl, rfl, rfl, rfl, rfl, rfl, rfl⟩
end Go.Proofs.Q
namespace Go.Proofs.Q
open Go Go.Proofs Go.Conc Go.RowKit Go.Conc.Lib Go.ConcR.Gen
open Go.ConcR (KK stA smA rd wr DC0)
set_option linter.unusedVariables false
set_option linter.unusedSectionVars false
set_option linter.unusedSimpArgs false
noncomputable def body5 : Code := Tryz.f5.body.getD .skip
noncomputable def rest5 : Code := match body5 with | .seq _ (.seq _ c) => c | _ => .skip
noncomputable def restX : Code := match rest5 with | .seq _ (.seq _ (.seq _ c)) => c | _ => .skip
noncomputable def LA : Code := match restX with | .seq (.seq _ (.block _ (.loop c))) _ => c | _ => .skip
noncomputable def restA : Code := match restX with | .seq _ c => c | _ => .skip
noncomputable def LB : Code := match restA with | .seq (.seq _ (.block _ (.loop c))) _ => c | _ => .skip
noncomputable def restB : Code := match restA with | .seq _ c => c | _ => .skip
def mkL (ln : String) (d : Option Nat) (op : Op) (t : TypeId) (af : Array Edge) : Oper := { dst := d, op := op, type := t, pos := ln, after := af, guard := none }
theorem LA_is : LA = .seq (.region 7 #[mkL "many.go:31" (some 29) (.binOp .lss 3 (.tmp 28) (.tmp 27) 3) 4 #[]] false) (.seq (.cond (.tmp 29) .skip (.exit 0)) (.seq (.block 1 (.seq
    (.region 8 #[mkL "many.go:32" (some 30) (.call { callee := .value (.func 9), args := #[.tmp 8, .const (.int .i64 1)], argTypes := #[43, 3] }) 0 #[]] false)
    (.region 9 #[mkL "many.go:33" (some 31) (.makeFunc (.func 10) #[] #[.tmp 8, .tmp 7, .tmp 6]) 1 #[], mkL "many.go:33" none (.go { callee := .value (.tmp 31), args := #[], argTypes := #[] }) 0 #[dt 0]] false)))
    (.region 10 #[mkL "many.go:31" (some 32) (.binOp .add 3 (.tmp 28) (.const (.int .i64 1)) 3) 3 #[], mkL "many.go:31" (some 28) (.move (.tmp 32)) 3 #[dt 0]] false))) := rfl
theorem array48 (T : Array Value) (h : T.size = 48) : ∃ v0 v1 v2 v3 v4 v5 v6 v7 v8 v9 v10 v11 v12 v13 v14 v15 v16 v17 v18 v19 v20 v21 v22 v23 v24 v25 v26 v27 v28 v29 v30 v31 v32 v33 v34 v35 v36 v37 v38 v39 v40 v41 v42 v43 v44 v45 v46 v47, T = #[v0, v1, v2, v3, v4, v5, v6, v7, v8, v9, v10, v11, v12, v13, v14, v15, v16, v17, v18, v19, v20, v21, v22, v23, v24, v25, v26, v27, v28, v29, v30, v31, v32, v33, v34, v35, v36, v37, v38, v39, v40, v41, v42, v43, v44, v45, v46, v47] := by
  obtain ⟨l⟩ := T
  simp only [List.size_toArray] at h
  rcases l with _ | ⟨v0, l⟩
  · simp at h
  rcases l with _ | ⟨v1, l⟩
  · simp at h
  rcases l with _ | ⟨v2, l⟩
  · simp at h
  rcases l with _ | ⟨v3, l⟩
  · simp at h
  rcases l with _ | ⟨v4, l⟩
  · simp at h
  rcases l with _ | ⟨v5, l⟩
  · simp at h
  rcases l with _ | ⟨v6, l⟩
  · simp at h
  rcases l with _ | ⟨v7, l⟩
  · simp at h
  rcases l with _ | ⟨v8, l⟩
  · simp at h
  rcases l with _ | ⟨v9, l⟩
  · simp at h
  rcases l with _ | ⟨v10, l⟩
  · simp at h
  rcases l with _ | ⟨v11, l⟩
  · simp at h
  rcases l with _ | ⟨v12, l⟩
  · simp at h
  rcases l with _ | ⟨v13, l⟩
  · simp at h
  rcases l with _ | ⟨v14, l⟩
  · simp at h
  rcases l with _ | ⟨v15, l⟩
  · simp at h
  rcases l with _ | ⟨v16, l⟩
  · simp at h
  rcases l with _ | ⟨v17, l⟩
  · simp at h
  rcases l with _ | ⟨v18, l⟩
  · simp at h
  rcases l with _ | ⟨v19, l⟩
  · simp at h
  rcases l with _ | ⟨v20, l⟩
  · simp at h
  rcases l with _ | ⟨v21, l⟩
  · simp at h
  rcases l with _ | ⟨v22, l⟩
  · simp at h
  rcases l with _ | ⟨v23, l⟩
  · simp at h
  rcases l with _ | ⟨v24, l⟩
  · simp at h
  rcases l with _ | ⟨v25, l⟩
  · simp at h
  rcases l with _ | ⟨v26, l⟩
  · simp at h
  rcases l with _ | ⟨v27, l⟩
  · simp at h
  rcases l with _ | ⟨v28, l⟩
  · simp at h
  rcases l with _ | ⟨v29, l⟩
  · simp at h
  rcases l with _ | ⟨v30, l⟩
  · simp at h
  rcases l with _ | ⟨v31, l⟩
  · simp at h
  rcases l with _ | ⟨v32, l⟩
  · simp at h
  rcases l with _ | ⟨v33, l⟩
  · simp at h
  rcases l with _ | ⟨v34, l⟩
  · simp at h
  rcases l with _ | ⟨v35, l⟩
  · simp at h
  rcases l with _ | ⟨v36, l⟩
  · simp at h
  rcases l with _ | ⟨v37, l⟩
  · simp at h
  rcases l with _ | ⟨v38, l⟩
  · simp at h
  rcases l with _ | ⟨v39, l⟩
  · simp at h
  rcases l with _ | ⟨v40, l⟩
  · simp at h
  rcases l with _ | ⟨v41, l⟩
  · simp at h
  rcases l with _ | ⟨v42, l⟩
  · simp at h
  rcases l with _ | ⟨v43, l⟩
  · simp at h
  rcases l with _ | ⟨v44, l⟩
  · simp at h
  rcases l with _ | ⟨v45, l⟩
  · simp at h
  rcases l with _ | ⟨v46, l⟩
  · simp at h
  rcases l with _ | ⟨v47, l⟩
  · simp at h
  rcases l with _ | ⟨v, l⟩
  · exact ⟨v0, v1, v2, v3, v4, v5, v6, v7, v8, v9, v10, v11, v12, v13, v14, v15, v16, v17, v18, v19, v20, v21, v22, v23, v24, v25, v26, v27, v28, v29, v30, v31, v32, v33, v34, v35, v36, v37, v38, v39, v40, v41, v42, v43, v44, v45, v46, v47, rfl⟩
  · simp at h
structure FitA (m : MQ) (bt W : Nat) (T : Array Value) : Prop where
  size : T.size = 48
  t0 : T[0]? = some (.slice (some ⟨bt, 0, none⟩) m.n m.n)
  t6 : T[6]? = some (.pointer (some ⟨m.N + 1, 0, none⟩))
  t7 : T[7]? = some (.pointer (some ⟨m.N + 3, 0, none⟩))
  t8 : T[8]? = some (.pointer (some ⟨m.N + 4, 0, none⟩))
noncomputable def F5 (T : Array Value) (k : List Item) : Frame := (base 5).at ⟨T, []⟩ k
theorem spawn10 {m : MQ} {b : Frame} {k : List Item} {cs : List Frame} {A : Act} {w : World} {ops : Array Oper} {i : Nat} {rest : List Nat}
    (h31 : A.eval (.tmp 31) = .func (.func 10) #[] #[.pointer (some ⟨m.N + 4, 0, none⟩), .pointer (some ⟨m.N + 3, 0, none⟩), .pointer (some ⟨m.N + 1, 0, none⟩)])
    (ho : ops[i]? = some (mkL "many.go:33" none (.go { callee := .value (.tmp 31), args := #[], argTypes := #[] }) 0 #[dt 0])) (hk : b.kind ≠ .early) :
    stepG Tryz.prog true (G (b.at A (.inRegion ops (i :: rest) :: k)) cs) w = .spawn (G (b.at A (.inRegion ops rest :: k)) cs) (born Tryz.prog (call10 m)) w #[] := by
  have hr : (execOp A.eval (mkL "many.go:33" none (.go { callee := .value (.tmp 31), args := #[], argTypes := #[] }) 0 #[dt 0])).run Tryz.prog w = .ok (.spawn (call10 m)) w := by
    unfold execOp
    simp only [mkL, resolve, h31, Deferred.ofValue]
    simp [go_sem, call10]
  have he : (execOp A.eval (mkL "many.go:33" none (.go { callee := .value (.tmp 31), args := #[], argTypes := #[] }) 0 #[dt 0])).events Tryz.prog w #[] = #[] := by
    unfold execOp
    simp only [mkL, resolve, h31, Deferred.ofValue]
    simp [go_sem]
  rw [stepG_spawn ho rfl hk hr rfl]
  unfold Conc.listed
  rw [he, seen_none]
  rfl
section
variable {m : MQ} {bt W : Nat} {cs : List Frame} {Anch : Goroutine → Prop}
set_option maxRecDepth 100000 in
set_option maxHeartbeats 4000000 in
theorem more_lv (r c : Nat) (hc : c < W) (hW : W ≤ 16) (T : Array Value) (hT : FitA m bt W T) (h27 : T[27]? = some (.int .i64 W)) (h28 : T[28]? = some (.int .i64 c))
    (next : ∀ T, FitA m bt W T → T[27]? = some (.int .i64 W) → T[28]? = some (.int .i64 (c + 1 : Nat)) → LvA m.p true (SKd m.p Anch (RecvW m) r) (G (F5 T [.code LA, .inLoop LA, .inBlock 0, .code restA]) cs)) :
    LvA m.p true (SKd m.p Anch (RecvW m) (r + 1)) (G (F5 T [.code LA, .inLoop LA, .inBlock 0, .code restA]) cs) := by
  obtain ⟨hsz, t0, t6, t7, t8⟩ := hT
  obtain ⟨v0, v1, v2, v3, v4, v5, v6, v7, v8, v9, v10, v11, v12, v13, v14, v15, v16, v17, v18, v19, v20, v21, v22, v23, v24, v25, v26, v27, v28, v29, v30, v31, v32, v33, v34, v35, v36, v37, v38, v39, v40, v41, v42, v43, v44, v45, v46, v47, rfl⟩ := array48 T hsz
  simp at t0 t6 t7 t8 h27 h28
  subst t0 t6 t7 t8 h27 h28
  clear hsz
  have hlt : decide ((c : Int) < (W : Int)) = true := decide_eq_true (by omega)
  have hlt2 : (c : Int) < (W : Int) := by omega
  have hlt3 : c < W := hc
  unfold F5 at next ⊢
  refine lva_then (Stop' := fun g _ => LvA m.p true (SKd m.p Anch (RecvW m) (r + 1)) g) (lva 20 fun w hF => ?_) (fun g w hk q => q)
  rw [show Item.code LA = _ from congrArg Item.code LA_is]
  generalize LA = la at next ⊢
  simp only [mkL]
  u_c stepG_seq (rk) hF
  u_reg (rk) hF
  u_op (rk) hF
  u_c stepG_region_end (rk) hF
  u_c stepG_seq (rk) hF
  u_cond true (rk) hF
  u_c stepG_skip (rk) hF
  u_c stepG_seq (rk) hF
  u_c stepG_block (rk) hF
  u_c stepG_seq (rk) hF
  u_reg (rk) hF
  u_in (rk) hF
  refine goes_call (c := body_add link) rfl rfl (by k_ne) rfl wgLib.f_add (nm_add link) rfl ⟨by u_nil, ?_⟩
  walk_nrm
  refine Goes.stop fun w₁ h₁ => ?_
  refine add_lv (p := m.p) (L := link) (Anch := Anch) (Recv := RecvW m) wgLib ?_
  walk_nrm
  refine lva_then (Stop' := fun g _ => LvA m.p true (SGo m.p Anch (RecvW m) r) g) (lva 20 fun w hF => ?_) (fun g w hk q => q)
  u_c stepG_region_end (rk) hF
  u_reg (rk) hF
  u_op (rk) hF
  refine Goes.stop fun w₁ h₁ => ?_
  refine LvA.stop fun w hk => ?_
  refine ⟨rfl, _, _, spawn10 (m := m) rfl rfl (by k_ne), rfl, born_lv m, ?_⟩
  refine lva_then (Stop' := fun g _ => LvA m.p true (SKd m.p Anch (RecvW m) r) g) (lva 20 fun w hF => ?_) (fun g w hk q => q)
  simp only [mkL]
  have hw : IntKind.i64.wrap ((c : Int) + 1) = ((c + 1 : Nat) : Int) := by rw [IntKind.wrap_i64]; omega
  u_c stepG_region_end (rk) hF
  u_c stepG_inBlock (rk) hF
  u_reg (rk) hF
  u_op (rk) hF
  u_op (rk) hF
  u_c stepG_region_end (rk) hF
  u_c stepG_inLoop (rk) hF
  refine Goes.stop fun w₁ h₁ => next _ ⟨rfl, rfl, rfl, rfl, rfl⟩ rfl ?_
  simp [hw]
end
end Go.Proofs.Q
namespace Go.Proofs.Q
open Go Go.Proofs Go.Conc Go.RowKit Go.Conc.Lib Go.ConcR.Gen
open Go.ConcR (KK stA smA rd wr DC0)
set_option linter.unusedVariables false
set_option linter.unusedSectionVars false
set_option linter.unusedSimpArgs false
theorem restA_is : restA = .seq (.seq (.region 11 #[mkL "many.go:38" (some 33) (.move (.tmp 0)) 22 #[], mkL "many.go:38" (some 34) (.call { callee := .builtin .len, args := #[.tmp 33], argTypes := #[22] }) 3 #[dt 0], mkL "many.go:38" (some 35) (.move (.const (.int .i64 0))) 3 #[]] false) (.block 2 (.loop LB))) restB := rfl
noncomputable def C13 : Code := match LB with | .seq _ (.seq _ c) => c | _ => .skip
noncomputable def C15 : Code := match C13 with | .seq _ c => c | _ => .skip
noncomputable def C14 : Code := match C13 with | .seq (.block _ c) _ => c | _ => .skip
theorem LB_is : LB = .seq (.region 12 #[mkL "many.go:38" (some 36) (.binOp .lss 3 (.tmp 35) (.tmp 34) 3) 0 #[]] false) (.seq (.cond (.tmp 36) .skip (.exit 2)) C13) := rfl
theorem C13_is : C13 = .seq (.block 3 C14) C15 := rfl
theorem C14_is : C14 = .seq
    (.region 13 #[mkL "many.go:38" (some 37) (.move (.tmp 35)) 3 #[], mkL "many.go:38" (some 38) (.indexAddr 22 (.tmp 33) (.tmp 35)) 0 #[], mkL "many.go:38" (some 39) (.load 9 (.tmp 38)) 9 #[dt 1],
      mkL "many.go:38" (some 9) (.assign (.tmp 37)) 3 #[dt 0, ph 0, ph 1, ph 2], mkL "many.go:38" (some 10) (.assign (.tmp 39)) 9 #[dt 2, { on := 3, ground := .chain }, ph 0, ph 1, ph 2, ph 3]] false)
    (.region 14 #[mkL "many.go:39" (some 40) (.load 33 (.tmp 7)) 33 #[], mkL "many.go:39" (some 41) (.move (.tmp 9)) 3 #[], mkL "many.go:39" (some 42) (.move (.tmp 10)) 9 #[],
      mkL "many.go:39" (some 43) (.build 47 #[(0, .tmp 41), (1, .tmp 42)]) 47 #[dt 1, dt 2], mkL "many.go:39" none (.send (.tmp 40) (.tmp 43)) 0 #[dt 0, dt 3]] false) := rfl
theorem C15_is : C15 = .region 15 #[mkL "many.go:38" (some 44) (.binOp .add 3 (.tmp 35) (.const (.int .i64 1)) 3) 3 #[], mkL "many.go:38" (some 35) (.move (.tmp 44)) 3 #[dt 0]] false := rfl
structure TxtOk (m : MQ) (bt : Nat) : Prop where
  lo : m.base ≤ bt
  hi : bt < m.N
  at_ : ∃ cs fz, m.W0.heap[bt]? = some (.cells cs 9 fz) ∧ ∀ i, i < m.n → cs[i]? = some (.string (m.txt i))
theorem txt_cell {m : MQ} {bt : Nat} (h : TxtOk m bt) {w : World} (hk : KN m.p w) {i : Nat} (hi : i < m.n) : w.cell? ⟨bt, i, none⟩ = some (.string (m.txt i)) := by
  have h1 := h.hi
  obtain ⟨cs, fz, h2, h3⟩ := h.at_
  have h4 := hk.mid bt h.lo ⟨by show bt < m.N + 5; omega, by show bt ≠ m.N; omega, by show bt ≠ m.N + 2; omega, by show bt ≠ m.N + 4; omega⟩
  have h4 : w.heap[bt]? = _ := h4.trans h2
  simp [World.cell?, h4, h3 i hi]
theorem txt_rd {m : MQ} {bt : Nat} (h : TxtOk m bt) : m.p.RdB bt := by
  have h1 := h.hi
  exact ⟨by show bt < m.N + 5; omega, by show bt ≠ m.N; omega, by show bt ≠ m.N + 2; omega, by show bt ≠ m.N + 4; omega⟩
structure FitB (m : MQ) (bt i : Nat) (T : Array Value) : Prop where
  a : FitA m bt 0 T
  t33 : T[33]? = some (.slice (some ⟨bt, 0, none⟩) m.n m.n)
  t34 : T[34]? = some (.int .i64 m.n)
  t35 : T[35]? = some (.int .i64 i)
section
variable {m : MQ} {bt : Nat} {cs : List Frame} {Anch : Goroutine → Prop}
set_option maxRecDepth 100000 in
set_option maxHeartbeats 4000000 in
theorem workers_lv {W : Nat} (hW : W ≤ 16) (hn : m.n ≤ 50) (after : ∀ T, FitB m bt 0 T → LvA m.p true (SSnd m.p Anch m.n 0) (G (F5 T [.code LB, .inLoop LB, .inBlock 2, .code restB]) cs)) :
    ∀ (r c : Nat), c + r = W → ∀ T, FitA m bt W T → T[27]? = some (.int .i64 W) → T[28]? = some (.int .i64 c) → LvA m.p true (SKd m.p Anch (RecvW m) r) (G (F5 T [.code LA, .inLoop LA, .inBlock 0, .code restA]) cs)
  | r + 1, c, hc, T, hT, h27, h28 => more_lv r c (by omega) hW T hT h27 h28 fun T' hT' q1 q2 => workers_lv hW hn after r (c + 1) (by omega) T' hT' q1 q2
  | 0, c, hc, T, hT, h27, h28 => by
    obtain rfl : c = W := by omega
    obtain ⟨hsz, t0, t6, t7, t8⟩ := hT
    obtain ⟨v0, v1, v2, v3, v4, v5, v6, v7, v8, v9, v10, v11, v12, v13, v14, v15, v16, v17, v18, v19, v20, v21, v22, v23, v24, v25, v26, v27, v28, v29, v30, v31, v32, v33, v34, v35, v36, v37, v38, v39, v40, v41, v42, v43, v44, v45, v46, v47, rfl⟩ := array48 T hsz
    simp at t0 t6 t7 t8 h27 h28
    subst t0 t6 t7 t8 h27 h28
    clear hsz
    have hlt : decide ((c : Int) < (c : Int)) = false := decide_eq_false (by omega)
    have hlt3 : ¬ c < c := by omega
    have hlt2 : ¬ (c : Int) < (c : Int) := by omega
    unfold F5 at after ⊢
    refine lva_then (Stop' := fun g _ => LvA m.p true (SSnd m.p Anch m.n 0) g) (lva 40 fun w hF => ?_) (fun g w hk q => q)
    rw [show Item.code LA = _ from congrArg Item.code LA_is, show Item.code restA = _ from congrArg Item.code restA_is]
    generalize LA = la
    simp only [mkL]
    u_c stepG_seq (rk) hF
    u_reg (rk) hF
    u_op (rk) hF
    u_c stepG_region_end (rk) hF
    u_c stepG_seq (rk) hF
    u_cond false (rk) hF
    u_exit (rk) hF
    u_c stepG_seq (rk) hF
    u_c stepG_seq (rk) hF
    u_reg (rk) hF
    u_op (rk) hF
    u_op (rk) hF
    u_op (rk) hF
    u_c stepG_region_end (rk) hF
    u_c stepG_block (rk) hF
    u_c stepG_loop (rk) hF
    refine Goes.stop fun w₁ h₁ => after _ ⟨⟨rfl, rfl, rfl, rfl, rfl⟩, rfl, rfl, rfl⟩
end
end Go.Proofs.Q
namespace Go.Proofs.Q
open Go Go.Proofs Go.Conc Go.RowKit Go.Conc.Lib Go.ConcR.Gen
open Go.ConcR (KK stA smA rd wr DC0)
set_option linter.unusedVariables false
set_option linter.unusedSectionVars false
set_option linter.unusedSimpArgs false
theorem send_step {m : MQ} {b : Frame} {k : List Item} {cs : List Frame} {A : Act} {w : World} {ops : Array Oper} {i j : Nat} {rest : List Nat} {t : ByteArray}
    (h40 : A.eval (.tmp 40) = .chan (some (m.N + 2))) (h43 : A.eval (.tmp 43) = .agg #[.int .i64 j, .string t])
    (ho : ops[i]? = some (mkL "many.go:39" none (.send (.tmp 40) (.tmp 43)) 0 #[dt 0, dt 3])) (hk : b.kind ≠ .early) :
    stepG Tryz.prog true (G (b.at A (.inRegion ops (i :: rest) :: k)) cs) w = .comm (G (b.at A (.inRegion ops (i :: rest) :: k)) cs) #[scase (m.N + 2) (.agg #[.int .i64 j, .string t]) (.tuple #[])] true .send w #[] := by
  have hr : (execOp A.eval (mkL "many.go:39" none (.send (.tmp 40) (.tmp 43)) 0 #[dt 0, dt 3])).run Tryz.prog w = .ok (.comm #[scase (m.N + 2) (.agg #[.int .i64 j, .string t]) (.tuple #[])] true .send) w := by
    unfold execOp
    simp only [mkL, h40, h43]
    simp [go_sem, scase]
  have he : (execOp A.eval (mkL "many.go:39" none (.send (.tmp 40) (.tmp 43)) 0 #[dt 0, dt 3])).events Tryz.prog w #[] = #[] := by
    unfold execOp
    simp only [mkL, h40, h43]
    simp [go_sem]
  rw [stepG_comm ho rfl hk hr]
  unfold Conc.listed
  rw [he, seen_none]
theorem fin_send {P : Program} {b : Frame} {A : Act} {ops : Array Oper} {i : Nat} {rest : List Nat} {k : List Item} {cs : List Frame} {cases_ : Array CommCase} (hd : (ops[i]?).bind (·.dst) = none) :
    Goroutine.finishComm P (G (b.at A (.inRegion ops (i :: rest) :: k)) cs) cases_ .send 0 undef false = G (b.at A (.inRegion ops rest :: k)) cs := by
  unfold Goroutine.finishComm
  simp only [G]
  rw [Frame.finish_at, hd]
  rfl
@[local go_sem] theorem build47 (i : Int) (t : ByteArray) (w : World) : (Instr.build 47 #[(0, .int .i64 i), (1, .string t)]).run Tryz.prog w = .ok (.agg #[.int .i64 i, .string t]) w := run_build w 47 _ _ (by kernel_rfl)
@[local go_sem] theorem ev47 (i : Int) (t : ByteArray) (w : World) : (Instr.build 47 #[(0, .int .i64 i), (1, .string t)]).events Tryz.prog w #[] = #[] := by kernel_rfl
section
variable {m : MQ} {bt : Nat} {cs : List Frame} {Anch : Goroutine → Prop}
set_option maxRecDepth 100000 in
set_option maxHeartbeats 4000000 in
theorem sends_lv (hn : m.n ≤ 50) (hx : TxtOk m bt) (after : ∀ T, FitA m bt 0 T → LvA m.p true (SCl m.p Anch) (G (F5 T [.code restB]) cs)) :
    ∀ (l i : Nat), i + l = m.n → ∀ T, FitB m bt i T → LvA m.p true (SSnd m.p Anch l i) (G (F5 T [.code LB, .inLoop LB, .inBlock 2, .code restB]) cs)
  | 0, i, hi, T, hT => by
    obtain ⟨⟨hsz, t0, t6, t7, t8⟩, t33, t34, t35⟩ := hT
    obtain ⟨v0, v1, v2, v3, v4, v5, v6, v7, v8, v9, v10, v11, v12, v13, v14, v15, v16, v17, v18, v19, v20, v21, v22, v23, v24, v25, v26, v27, v28, v29, v30, v31, v32, v33, v34, v35, v36, v37, v38, v39, v40, v41, v42, v43, v44, v45, v46, v47, rfl⟩ := array48 T hsz
    obtain rfl : i = m.n := by omega
    simp at t0 t6 t7 t8 t33 t34 t35
    subst t0 t6 t7 t8 t33 t34 t35
    clear hsz
    have hlt : decide ((m.n : Int) < (m.n : Int)) = false := decide_eq_false (by omega)
    have hlt3 : ¬ m.n < m.n := by omega
    have hlt2 : ¬ (m.n : Int) < (m.n : Int) := by omega
    unfold F5 at after ⊢
    refine lva_then (Stop' := fun g _ => LvA m.p true (SCl m.p Anch) g) (lva 40 fun w hF => ?_) (fun g w hk q => q)
    rw [show Item.code LB = _ from congrArg Item.code LB_is]
    generalize LB = lb
    generalize C13 = c13
    generalize restB = rB at after ⊢
    simp only [mkL]
    u_c stepG_seq (rk) hF
    u_reg (rk) hF
    u_op (rk) hF
    u_c stepG_region_end (rk) hF
    u_c stepG_seq (rk) hF
    u_cond false (rk) hF
    u_exit (rk) hF
    refine Goes.stop fun w₁ h₁ => after _ ⟨rfl, rfl, rfl, rfl, rfl⟩
  | l + 1, i, hi, T, hT => by
    have ih := sends_lv hn hx after l (i + 1) (by omega)
    obtain ⟨⟨hsz, t0, t6, t7, t8⟩, t33, t34, t35⟩ := hT
    obtain ⟨v0, v1, v2, v3, v4, v5, v6, v7, v8, v9, v10, v11, v12, v13, v14, v15, v16, v17, v18, v19, v20, v21, v22, v23, v24, v25, v26, v27, v28, v29, v30, v31, v32, v33, v34, v35, v36, v37, v38, v39, v40, v41, v42, v43, v44, v45, v46, v47, rfl⟩ := array48 T hsz
    simp at t0 t6 t7 t8 t33 t34 t35
    subst t0 t6 t7 t8 t33 t34 t35
    clear hsz after
    have hin : i < m.n := by omega
    have hlt : decide ((i : Int) < (m.n : Int)) = true := decide_eq_true (by omega)
    have hlt2 : (i : Int) < (m.n : Int) := by omega
    unfold F5 at ih ⊢
    refine lva_then (Stop' := fun g _ => LvA m.p true (SSnd m.p Anch (l + 1) i) g) (lva 40 fun w hF => ?_) (fun g w hk q => q)
    rw [show Item.code LB = _ from congrArg Item.code LB_is, C13_is, C14_is, C15_is]
    generalize LB = lb at ih ⊢
    generalize restB = rB at ih ⊢
    u_c stepG_seq (rk) hF
    u_c stepG_region (rk) hF
    unfold mkL
    u_op (rk) hF
    u_c stepG_region_end (rk) hF
    u_c stepG_seq (rk) hF
    u_cond true (rk) hF
    u_c stepG_skip (rk) hF
    u_c stepG_seq (rk) hF
    u_c stepG_block (rk) hF
    u_c stepG_seq (rk) hF
    u_reg (rk) hF
    u_op (rk) hF
    u_op (rk) hF
    refine Goes.stop fun w₁ h₁ => ?_
    clear h₁ w₁ hF w
    refine LvA.go rfl fun w hk => ?_
    have hc := txt_cell hx hk hin
    refine goes_oper_k rfl rfl (by k_ne) fun K hK => ?_
    go_simp
    refine hK _ _ ⟨⟨rfl, ⟨rfl, rfl⟩, fun e he => by (have hm := mem_listed he; simp [go_sem, *] at hm; subst hm; exact ⟨_, rfl, rfl, .inr (txt_rd hx)⟩)⟩, ?_⟩
    clear hK K hk hc w
    refine lva_then (Stop' := fun g _ => LvA m.p true (SSnd m.p Anch (l + 1) i) g) (lva 40 fun w hF => ?_) (fun g w hk q => q)
    u_op (rk) hF
    u_op (rk) hF
    u_c stepG_region_end (rk) hF
    u_reg (rk) hF
    refine Goes.stop fun w₁ h₁ => ?_
    clear h₁ w₁ hF w
    refine LvA.go rfl fun w hk => ?_
    obtain ⟨c1, c2⟩ := kn_box hk
    refine goes_oper_k rfl rfl (by k_ne) fun K hK => ?_
    go_simp
    refine hK _ _ ⟨⟨rfl, ⟨rfl, rfl⟩, fun e he => by (have hm := mem_listed he; simp [go_sem, *] at hm; subst hm; exact ⟨_, rfl, rfl, .inr (rd_boxes m).2⟩)⟩, ?_⟩
    clear hK K hk c1 c2 w
    refine lva_then (Stop' := fun g _ => LvA m.p true (SSnd m.p Anch (l + 1) i) g) (lva 40 fun w hF => ?_) (fun g w hk q => q)
    u_op (rk) hF
    u_op (rk) hF
    u_op (rk) hF
    refine Goes.stop fun w₁ h₁ => LvA.stop fun w hk => ⟨rfl, _, .tuple #[], rfl, send_step rfl rfl rfl (by k_ne), ?_⟩
    clear h₁ w₁ hF hk w
    rw [fin_send rfl]
    have hw : IntKind.i64.wrap ((i : Int) + 1) = ((i + 1 : Nat) : Int) := by rw [IntKind.wrap_i64]; omega
    refine lva_then (Stop' := fun g _ => LvA m.p true (SSnd m.p Anch l (i + 1)) g) (lva 40 fun w hF => ?_) (fun g w hk q => q)
    u_c stepG_region_end (rk) hF
    u_c stepG_inBlock (rk) hF
    u_reg (rk) hF
    u_op (rk) hF
    u_op (rk) hF
    u_c stepG_region_end (rk) hF
    u_c stepG_inLoop (rk) hF
    refine Goes.stop fun w₁ h₁ => ih _ ⟨⟨rfl, rfl, rfl, rfl, rfl⟩, rfl, rfl, ?_⟩
    simp [hw]
end
end Go.Proofs.Q
namespace Go.Proofs.Q
open Go Go.Proofs Go.Conc Go.RowKit Go.Conc.Lib Go.ConcR.Gen
open Go.ConcR (KK stA smA rd wr mk DC0)
set_option linter.unusedVariables false
set_option linter.unusedSectionVars false
set_option linter.unusedSimpArgs false
theorem Lv.imp {p : Pm} {main q : Bool} {St St' : Goroutine → World → Prop} {S : Nat → Prop} {g : Goroutine} {w : World} (h : Lv p main q St S g w) (hs : ∀ g w, St g w → St' g w) : Lv p main q St' S g w := by
  induction h with
  | stop h => exact .stop fun w1 h1 => hs _ _ (h w1 h1)
  | step h1 h2 _ ih => exact .step h1 h2 ih
theorem LvA.imp {p : Pm} {main : Bool} {S S' : Goroutine → World → Prop} {g : Goroutine} (h : LvA p main S g) (hs : ∀ g w, S g w → S' g w) : LvA p main S' g := fun w hw => (h w hw).imp hs
section
variable {p : Pm} {Aft Aft' Anch Anch' : Goroutine → Prop}
theorem SWkd.imp (hA : ∀ g, Anch g → Anch' g) {g : Goroutine} {w : World} (h : SWkd p Anch g w) : SWkd p Anch' g w := by
  obtain ⟨h1, g', h2, h3⟩ := h
  exact ⟨h1, g', h2, h3.imp fun g _ q => hA g q⟩
theorem SAcq.imp (hF : ∀ g, Aft g → Aft' g) {g : Goroutine} {w : World} (h : SAcq p Aft g w) : SAcq p Aft' g w := by
  obtain ⟨h1, g', h2, h3⟩ := h
  exact ⟨h1, g', h2, hF _ h3⟩
theorem SWke.imp (hF : ∀ g, Aft g → Aft' g) {g : Goroutine} {w : World} (h : SWke p Aft g w) : SWke p Aft' g w := by
  obtain ⟨h1, g', h2, h3⟩ := h
  exact ⟨h1, g', h2, h3.imp fun g w q => q.imp hF⟩
theorem SW4.imp (hF : ∀ g, Aft g → Aft' g) {g : Goroutine} {w : World} (h : SW4 p Aft g w) : SW4 p Aft' g w :=
  ⟨h.1, fun q => by obtain ⟨g', h2, h3⟩ := h.2 q; exact ⟨g', h2, h3.imp fun g w q => q.imp hF⟩⟩
theorem SW3.imp (hF : ∀ g, Aft g → Aft' g) {g : Goroutine} {w : World} (h : SW3 p Aft g w) : SW3 p Aft' g w :=
  ⟨h.1, h.2.1, h.2.2.1, fun q => by obtain ⟨g', h2, h3⟩ := h.2.2.2 q; exact ⟨g', h2, h3.imp fun g w q => q.imp hF⟩⟩
theorem SW2m.imp (hF : ∀ g, Aft g → Aft' g) {g : Goroutine} {w : World} (h : SW2m p Aft g w) : SW2m p Aft' g w := by
  obtain ⟨h1, g', h2, h3⟩ := h
  exact ⟨h1, g', h2, h3.imp fun g w q => q.imp hF⟩
theorem SW2.imp (hF : ∀ g, Aft g → Aft' g) (hA : ∀ g, Anch g → Anch' g) {vs : Nat} {g : Goroutine} {w : World} (h : SW2 p Aft Anch vs g w) : SW2 p Aft' Anch' vs g w :=
  ⟨h.1, fun v hv hw => ⟨fun e => by obtain ⟨g', h2, h3⟩ := (h.2 v hv hw).1 e; exact ⟨g', h2, h3.imp fun g w q => q.imp hF⟩, fun e => by obtain ⟨g', h2, h3⟩ := (h.2 v hv hw).2 e; exact ⟨g', h2, h3.imp fun g w q => hA _ q⟩⟩⟩
theorem SW1.imp (hF : ∀ g, Aft g → Aft' g) (hA : ∀ g, Anch g → Anch' g) {g : Goroutine} {w : World} (h : SW1 p Aft Anch g w) : SW1 p Aft' Anch' g w :=
  ⟨h.1, fun v hv hw => by
    obtain ⟨g', h2, h3, h4⟩ := h.2 v hv hw
    exact ⟨g', h2, fun e => (h3 e).imp fun g w q => q.imp hF, fun e => (h4 e).imp fun g w q => q.imp hF hA⟩⟩
end
noncomputable def restC : Code := match restB with | .seq _ (.seq _ c) => c | _ => .skip
def lit16 : Array Oper := #[mkL "many.go:41" (some 45) (.load 33 (.tmp 7)) 33 #[], mkL "many.go:41" none (.call { callee := .builtin .close, args := #[.tmp 45], argTypes := #[33] }) 0 #[dt 0]]
def lit17 : Array Oper := #[mkL "many.go:42" (some 46) (.call { callee := .value (.func 13), args := #[.tmp 8], argTypes := #[43] }) 0 #[]]
theorem restB_is : restB = .seq (.region 16 lit16 false) (.seq (.region 17 lit17 false) restC) := rfl
theorem loud5 : (Tryz.prog.funcs[(base 5).fn]?).any (·.norace) = false := by kernel_rfl
section
variable (m : MQ) (bt : Nat) (cs : List Frame)
def AnchM (g : Goroutine) : Prop := ∃ T, FitA m bt 0 T ∧ AnW m.p link ((base 5).at ⟨T, []⟩ (.inRegion lit17 (0 :: []) :: [.code restC])) cs g
def AftM (g : Goroutine) : Prop := ∃ T, FitA m bt 0 T ∧ AfW m.p (G ((base 5).at ⟨T, []⟩ (.inRegion lit17 [] :: [.code restC])) cs) g
end
section
variable {m : MQ} {bt : Nat} {cs : List Frame}
theorem fitA_put {T : Array Value} (h : FitA m bt 0 T) {d : Nat} (hd : 9 ≤ d) (v : Value) : FitA m bt 0 (T.setIfInBounds d v) := by
  obtain ⟨h1, h2, h3, h4, h5⟩ := h
  have ne : ∀ k, k < 9 → (T.setIfInBounds d v)[k]? = T[k]? := fun k hk => Array.getElem?_setIfInBounds_ne (by omega)
  exact ⟨by simpa using h1, (ne 0 (by omega)).trans h2, (ne 6 (by omega)).trans h3, (ne 7 (by omega)).trans h4, (ne 8 (by omega)).trans h5⟩
theorem anchI : AnchI m.p (AftM m bt cs) (AnchM m bt cs) := by
  rintro g ⟨T, hT, h⟩
  have := wait_round (p := m.p) (L := link) (b₀ := base 5) (a₀ := ⟨T, []⟩) (ops₀ := lit17) (i₀ := 0) (rest₀ := []) (k₀ := [.code restC]) (cs := cs) wgLib g h
  refine this.imp fun g w q => q.imp (fun g q => ⟨_, fitA_put (d := 46) hT (by omega) (.tuple #[]), q⟩) (fun g q => ⟨T, hT, q⟩)
theorem wait_entry {T : Array Value} (hT : FitA m bt 0 T) : LvA m.p true (SWkd m.p (AnchM m bt cs)) (G ((base 13).at ⟨#[.pointer (some ⟨m.N + 4, 0, none⟩)] ++ Array.replicate 83 undef, []⟩ [.code (body_wait link)]) ((base 5).at ⟨T, []⟩ (.inRegion lit17 (0 :: []) :: [.code restC]) :: cs)) :=
  (wait_lv (p := m.p) (L := link) (b₀ := base 5) (a₀ := ⟨T, []⟩) (ops₀ := lit17) (i₀ := 0) (rest₀ := []) (k₀ := [.code restC]) (cs := cs) wgLib).imp fun g w q => q.imp fun g q => ⟨T, hT, q⟩
set_option maxRecDepth 100000 in
set_option maxHeartbeats 4000000 in
theorem close_lv (T : Array Value) (hT : FitA m bt 0 T) : LvA m.p true (SCl m.p (AnchM m bt cs)) (G (F5 T [.code restB]) cs) := by
  obtain ⟨hsz, t0, t6, t7, t8⟩ := hT
  obtain ⟨v0, v1, v2, v3, v4, v5, v6, v7, v8, v9, v10, v11, v12, v13, v14, v15, v16, v17, v18, v19, v20, v21, v22, v23, v24, v25, v26, v27, v28, v29, v30, v31, v32, v33, v34, v35, v36, v37, v38, v39, v40, v41, v42, v43, v44, v45, v46, v47, rfl⟩ := array48 T hsz
  simp at t0 t6 t7 t8
  subst t0 t6 t7 t8
  clear hsz
  unfold F5
  refine lva_then (Stop' := fun g _ => LvA m.p true (SCl m.p (AnchM m bt cs)) g) (lva 40 fun w hF => ?_) (fun g w hk q => q)
  rw [show Item.code restB = _ from congrArg Item.code restB_is]
  u_c stepG_seq (rk) hF
  u_c stepG_region (rk) hF
  refine Goes.stop fun w₁ h₁ => ?_
  clear h₁ w₁ hF w
  refine LvA.go rfl fun w hk => ?_
  obtain ⟨c1, c2⟩ := kn_box hk
  refine goes_oper_k (o := mkL "many.go:41" (some 45) (.load 33 (.tmp 7)) 33 #[]) rfl rfl (by k_ne) fun K hK => ?_
  unfold mkL at hK ⊢
  go_simp
  refine hK _ _ ⟨⟨rfl, ⟨rfl, rfl⟩, fun e he => by (have hm := mem_listed he; simp [go_sem, *] at hm; subst hm; exact ⟨_, rfl, rfl, .inr (rd_boxes m).2⟩)⟩, ?_⟩
  clear hK K hk c1 c2 w
  refine LvA.stop fun w hk => ⟨rfl, rfl, fun s r tm hc => ⟨_, stepG_close (o := mkL "many.go:41" none (.call { callee := .builtin .close, args := #[.tmp 45], argTypes := #[33] }) 0 #[dt 0]) rfl rfl (by k_ne) rfl rfl hc loud5, rfl, ?_⟩⟩
  clear hc hk w
  refine lva_then (Stop' := fun g _ => LvA m.p true (SWkd m.p (AnchM m bt cs)) g) (lva 40 fun w hF => ?_) (fun g w hk q => q)
  u_c stepG_region_end (rk) hF
  u_c stepG_seq (rk) hF
  u_c stepG_region (rk) hF
  u_in (rk) hF
  refine goes_call (o := mkL "many.go:42" (some 46) (.call { callee := .value (.func 13), args := #[.tmp 8], argTypes := #[43] }) 0 #[]) (c := body_wait link) rfl rfl (by k_ne) rfl wgLib.f_wait (nm_wait link) rfl ⟨by u_nil, ?_⟩
  walk_nrm
  refine Goes.stop fun w₁ h₁ => ?_
  exact wait_entry ⟨rfl, rfl, rfl, rfl, rfl⟩
end
end Go.Proofs.Q
