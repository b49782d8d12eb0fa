import Derived.Test.YtiblcbdkiecbgaaGreatDoorQ06
namespace Go.Proofs.Q
open Go Go.Conc
set_option linter.unusedVariables false
set_option linter.unusedSectionVars false
set_option linter.unusedSimpArgs false
variable [Gds] [Tok]
section
variable {P : Program} {base : Nat} {fl : Fl} {ρ : Nat → Nat} {α β : Type} {R : α → β → Prop}
variable {ks cs' : List Frame} {w w' : World}
theorem unwind_so (hp : PP P base fl ρ) (hq : PQ P) (hw : HR base fl ρ w w') {fr : Frame} {cs : List Frame} (ok : CfOK P fr cs) (hl : cs = [] → fr.defers ≠ []) :
    SO P base fl ρ ks cs' w w' (fun u => (unwind P true fr (cs ++ ks) none u).bare) (unwind P false (rFr ρ fr) (cs.map (rFr ρ) ++ cs') none w') := by
  have e1 : (rFr ρ fr).defers = fr.defers.map (rD ρ) := rfl
  have e2 : (rFr ρ fr).mode = rMo ρ fr.mode := rfl
  cases hdf : fr.defers with
  | cons d ds =>
    have hds : ∀ x, x ∈ ds → okT x.target ∨ ∃ b, x.target = .collected b := fun x hx => ok.top.df x (by rw [hdf]; simp [hx])
    have ok2 : CfOK P { fr with defers := ds } cs := ok.turn ⟨ok.top.it, hds, ok.top.kd⟩ rfl rfl
    obtain ⟨t, args⟩ := d
    rcases ok.top.df ⟨t, args⟩ (by rw [hdf]; simp) with hd | ⟨b, hb⟩
    · have h := call_so (ks := ks) (cs' := cs') hp hq hw ok2 (d := ⟨t, args⟩) hd
      cases t with
      | collected b => exact hd.elim
      | coroexit c => exact hd.elim
      | _ =>
        unfold unwind
        rw [e1]
        simp only [hdf, List.map_cons]
        exact h
    · have hb : t = .collected b := hb
      subst hb
      unfold unwind
      rw [e1]
      simp only [hdf, List.map_cons, rD, rT, Sem.runT_eq, GStep.bare_after]
      refine SO.par (F := fun r => (match r with
        | .ok calls w => .go { frame := { fr with defers := calls ++ ds }, callers := cs ++ ks, status := .running, dying := none } w
        | .halt _ w => .ended (.stuck "the deferred calls of a range-over-func loop have been taken" (fr.pos P)) w : GStep).bare) (F' := fun r => match r with
        | .ok calls w => .go { frame := { rFr ρ fr with defers := calls ++ ds.map (rD ρ) }, callers := cs.map (rFr ρ) ++ cs', status := .running, dying := none } w
        | .halt _ w => .ended (.stuck "the deferred calls of a range-over-func loop have been taken" ((rFr ρ fr).pos P)) w) (takeDeferred_par b) hw (fun u => rfl) (fun e he => mem_seen he) rfl ?_ ?_ ?_ ?_
      · rintro calls _ w1 w1' ⟨rfl, hcl⟩ hw1
        have ok3 : CfOK P { fr with defers := calls ++ ds } cs := ok.turn ⟨ok.top.it, fun x hx => by rcases List.mem_append.1 hx with hx | hx; exact .inl (hcl x hx); exact hds x hx, ok.top.kd⟩ rfl rfl
        refine SO.still hw1 ok3 (fun u => rfl) ?_
        simp [rFr, G]
      · intro v w1 w1' hw1
        exact SO.dead fun u => ⟨_, _, rfl⟩
      · intro hh u hd
        exact ⟨_, _, rfl⟩
      · intro r
        cases r <;> exact Nat.le_refl _
  | nil =>
    cases cs with
    | nil => exact absurd hdf (hl rfl)
    | cons c cs =>
      unfold unwind
      rw [e1, e2]
      simp only [hdf, List.map_nil]
      cases hm : fr.mode with
      | run => exact SO.dead fun u => ⟨_, _, rfl⟩
      | panicking chain =>
        have hca : ∀ f : Frame, (∀ d w r s k, f.todo ≠ .call d w r s :: k) → f.catches P = false := fun f hf => by
          unfold Frame.catches
          split
          · rename_i e; exact absurd e (hf _ _ _ _ _)
          · rfl
        have h1 : fr.catches P = false := hca fr fun d w r s k e => by
          have := ok.top.it (.call d w r s) (by rw [e]; simp)
          exact this
        have h2 : (rFr ρ fr).catches P = false := hca _ fun d w r s k e => by
          have e' : fr.todo.map (rI ρ) = .call d w r s :: k := e
          cases ht : fr.todo with
          | nil => rw [ht] at e'; cases e'
          | cons i k =>
            rw [ht] at e'
            have hi := ok.top.it i (by rw [ht]; simp)
            cases i <;> first | exact hi.elim | (simp [rI] at e')
        simp only [h1, rMo, h2, Bool.false_eq_true, if_false, List.map_cons, List.cons_append]
        refine SO.still hw (ok.pop.rai chain) (fun u => rfl) ?_
        rw [raise_ren]; rfl
      | returning =>
        simp only [rMo]
        have e3 : (rFr ρ fr).fn = fr.fn := rfl
        rw [e3]
        cases hf : P.funcs[fr.fn]? with
        | none =>
          have h := doReturn_so (ks := ks) (cs' := cs') hw ok (fr.tmps.getD 0 undef)
          have e4 : (rFr ρ fr).tmps.getD 0 undef = rV ρ (fr.tmps.getD 0 undef) := by
            simp only [rFr, Array.getD_eq_getD_getElem?, Array.getElem?_map]
            cases fr.tmps[0]? <;> simp [rV_undef]
          simp only
          rw [e4]
          exact h
        | some fn =>
          have hres : PV P base fl ρ (results fn fr.tmps) (results fn (fr.tmps.map (rV ρ))) := by
            have hg : ∀ t : Nat, (fr.tmps.map (rV ρ)).getD t undef = rV ρ (fr.tmps.getD t undef) := fun t => by
              simp only [Array.getD_eq_getD_getElem?, Array.getElem?_map]
              cases fr.tmps[t]? <;> simp [rV_undef]
            unfold results
            refine Par.bnd (R := fun a b => b = a.map (rV ρ)) ?_ ?_
            · have hl : ∀ (f f' : ResultVar → Sem Value), (∀ x, PV P base fl ρ (f x) (f' x)) → ∀ l : List ResultVar, Par P base fl ρ (fun a b => b = a.map (rV ρ)) (l.mapM f) (l.mapM f') := fun f f' h l => by
                induction l with
                | nil => rw [List.mapM_nil, List.mapM_nil]; exact Par.pur rfl
                | cons x l ih =>
                  rw [List.mapM_cons, List.mapM_cons]
                  refine Par.bnd (h x) ?_
                  rintro v _ rfl
                  refine Par.bnd ih ?_
                  rintro vs _ rfl
                  exact Par.pur rfl
              rw [Array.mapM_eq_mapM_toList, Array.mapM_eq_mapM_toList]
              refine Par.map (hl _ _ (fun x => ?_) _) (fun a b h => by rw [h]; simp)
              cases x with
              | tmp t =>
                simp only
                rw [hg]
                exact Par.pur rfl
              | cell a t =>
                simp only
                rw [hg]
                refine Par.bnd (asAddr_par hp.z _) ?_
                rintro ad _ rfl
                exact loadVar_par t ad
            · rintro vs _ rfl
              refine Par.pur ?_
              simp only [Array.size_map]
              split
              · simp
              · simp [rV]
          simp only [Sem.runT_eq, GStep.bare_after]
          refine SO.par (F := fun r => (match r with
            | .ok v w => doReturn P true fr ((c :: cs) ++ ks) none v w
            | .halt (.stuck s) w => .ended (.stuck s (fr.pos P)) w
            | .halt _ w => .ended (.stuck "return: the result variables cannot be read" (fr.pos P)) w : GStep).bare) (F' := fun r => match r with
            | .ok v w => doReturn P false (rFr ρ fr) ((c :: cs).map (rFr ρ) ++ cs') none v w
            | .halt (.stuck s) w => .ended (.stuck s ((rFr ρ fr).pos P)) w
            | .halt _ w => .ended (.stuck "return: the result variables cannot be read" ((rFr ρ fr).pos P)) w) hres hw (fun u => rfl) (fun e he => mem_seen he) rfl ?_ ?_ ?_ ?_
          · rintro v _ w1 w1' rfl hw1
            exact doReturn_so hw1 ok v
          · intro v w1 w1' hw1
            exact SO.dead fun u => ⟨_, _, rfl⟩
          · intro hh u hd
            cases hh <;> first | exact hd.elim | exact ⟨_, _, rfl⟩
          · intro r
            cases r with
            | ok v u => exact doReturn_size
            | halt hh u => cases hh <;> exact Nat.le_refl _
theorem okC_mono {d : Bool} : ∀ {c : Code}, okC P false c → okC P d c
  | .region _ ops _, h => fun o ho => (h o ho).imp (fun q => ⟨q.1, q.2.1, fun _ => q.2.2 rfl⟩) id
  | .seq a b, h => ⟨okC_mono h.1, okC_mono h.2⟩
  | .cond c a b, h => ⟨h.1, okC_mono h.2.1, okC_mono h.2.2⟩
  | .block _ b, h => okC_mono (c := b) h
  | .loop b, h => okC_mono (c := b) h
  | .rangeFunc _ _ _ _, h => h
  | .scope _, h => h
  | .goto _, h => h
  | .exit _, _ => trivial
  | .ret, _ => trivial
  | .skip, _ => trivial
  | .label _, _ => trivial
  | .refuse _, _ => trivial
theorem exitTo_ok {d : Bool} (id : Nat) : ∀ (k t : List Item), exitTo id k = some t → (∀ i, i ∈ k → okI P d i) → ∀ i, i ∈ t → okI P d i
  | [], t, h, _ => by cases h
  | i :: k, t, h, hk => by
    have hk2 : ∀ i, i ∈ k → okI P d i := fun j hj => hk j (by simp [hj])
    cases i <;> simp only [exitTo] at h <;> first | exact exitTo_ok id k t h hk2 | skip
    split at h
    · cases h; exact hk2
    · exact exitTo_ok id k t h hk2
theorem exec_so (hp : PP P base fl ρ) (hq : PQ P) (hw : HR base fl ρ w w') {fr : Frame} {cs : List Frame} (ok : CfOK P fr cs) (hks : NoRF ks) (hr : NoRF cs') (hm : fr.mode = .run) (hg : ∀ (t : Nat) f a b, fr.tmps[t]? = some (.func f a b) → GoodFn f) (hcl : ∀ (t : Nat) a l k, fr.tmps[t]? = some (.slice (some a) l k) → ¬ Hid fl base a.block) :
    SO P base fl ρ ks cs' w w' (fun u => (stepG.exec P true true fr (cs ++ ks) none u).bare) (stepG.exec P false true (rFr ρ fr) (cs.map (rFr ρ) ++ cs') none w') := by
  have hop := oper_so (ks := ks) (cs' := cs') hp hq hw ok hks hr hg hcl
  obtain ⟨fn, tmps, todo, defers, mode, kind, rd⟩ := fr
  have hm : mode = .run := hm
  subst hm
  have lv : ∀ jump : Option Code, (∀ c, jump = some c → okC P false c) → SO P base fl ρ ks cs' w w' (fun u => (leaveG P true ⟨fn, tmps, todo, defers, .run, kind, rd⟩ (cs ++ ks) jump u).bare) (leaveG P false (rFr ρ ⟨fn, tmps, todo, defers, .run, kind, rd⟩) (cs.map (rFr ρ) ++ cs') jump w') := fun jump hj => leave_so hq hw ok rfl hj
  have tod : ∀ t : List Item, (∀ i, i ∈ t → okI P rd.isNone i) → CfOK P ⟨fn, tmps, t, defers, .run, kind, rd⟩ cs := fun t ht => ok.turn ⟨ht, ok.top.df, ok.top.kd⟩ rfl rfl
  have mv : ∀ t : List Item, (∀ i, i ∈ t → okI P rd.isNone i) → SO P base fl ρ ks cs' w w' (fun u => (GStep.go (G ⟨fn, tmps, t, defers, .run, kind, rd⟩ (cs ++ ks)) u).bare) (.go (G ⟨fn, tmps.map (rV ρ), t.map (rI ρ), defers.map (rD ρ), .run, kind, rd.map ρ⟩ (cs.map (rFr ρ) ++ cs')) w') := fun t ht => SO.still hw (tod t ht) (fun u => rfl) rfl
  have hit := ok.top.it
  cases todo with
  | nil => exact lv none (fun c h => by cases h)
  | cons i k =>
    have hi : okI P rd.isNone i := hit i (by simp)
    have hk : ∀ j, j ∈ k → okI P rd.isNone j := fun j hj => hit j (by simp [hj])
    have mv1 : ∀ j : Item, okI P rd.isNone j → ∀ l, l ∈ j :: k → okI P rd.isNone l := fun j hj l hl => by rcases List.mem_cons.1 hl with rfl | hl; exact hj; exact hk l hl
    have mv2 : ∀ j j2 : Item, okI P rd.isNone j → okI P rd.isNone j2 → ∀ l, l ∈ j :: j2 :: k → okI P rd.isNone l := fun j j2 hj hj2 l hl => by rcases List.mem_cons.1 hl with rfl | hl; exact hj; exact mv1 j2 hj2 l hl
    cases i with
    | inBlock id => exact mv k hk
    | inScope b => exact hi.elim
    | call d a b c => exact hi.elim
    | extern a b => exact hi.elim
    | inLoop b => exact mv (.code b :: .inLoop b :: k) (mv2 _ _ hi hi)
    | inRangeFunc l => exact SO.dead fun u => ⟨_, _, rfl⟩
    | beginRound =>
      cases rd with
      | none =>
        exact apply_so hq (s := do (none : Option Nat).elim (stuck "beginRound: no round") Instr.beginRound; pure .skip) (s' := do (none : Option Nat).elim (stuck "beginRound: no round") Instr.beginRound; pure .skip) (Par.bnd (R := fun _ _ => True) Par.stk (fun _ _ _ => Par.pur ⟨rfl, trivial⟩)) hw ok hks hr
      | some l =>
        exact apply_so hq (s := do (some l).elim (stuck "beginRound: no round") Instr.beginRound; pure .skip) (s' := do (some (ρ l)).elim (stuck "beginRound: no round") Instr.beginRound; pure .skip) (Par.bnd (beginRound_par hp.z l) (fun _ _ _ => Par.pur ⟨rfl, trivial⟩)) hw ok hks hr
    | endRangeFunc l =>
      unfold stepG.exec
      simp only [rFr_mk, List.map_cons, rI, Sem.runT_eq, GStep.bare_after]
      refine SO.par (F := fun r => (match r with
        | .ok jump w => .go { frame := ⟨fn, tmps, (jump.map Item.code).toList ++ k, defers, .run, kind, rd⟩, callers := cs ++ ks, status := .running, dying := none } w
        | .halt (.panic v) w => .go { frame := (⟨fn, tmps, .endRangeFunc l :: k, defers, .run, kind, rd⟩ : Frame).raise [{ v, recovered := false }], callers := cs ++ ks, status := .running, dying := none } w
        | .halt _ w => .ended (.stuck "range over a function: no such loop" ((⟨fn, tmps, .endRangeFunc l :: k, defers, .run, kind, rd⟩ : Frame).pos P)) w : GStep).bare) (F' := fun r => match r with
        | .ok jump w => .go { frame := ⟨fn, tmps.map (rV ρ), (jump.map Item.code).toList ++ k.map (rI ρ), defers.map (rD ρ), .run, kind, rd.map ρ⟩, callers := cs.map (rFr ρ) ++ cs', status := .running, dying := none } w
        | .halt (.panic v) w => .go { frame := (rFr ρ ⟨fn, tmps, .endRangeFunc l :: k, defers, .run, kind, rd⟩ : Frame).raise [{ v, recovered := false }], callers := cs.map (rFr ρ) ++ cs', status := .running, dying := none } w
        | .halt _ w => .ended (.stuck "range over a function: no such loop" ((rFr ρ ⟨fn, tmps, .endRangeFunc l :: k, defers, .run, kind, rd⟩ : Frame).pos P)) w) (endLoop_par hp.z l) hw (fun u => rfl) (fun e he => mem_seen (fn := fn) (P := P) he) rfl ?_ ?_ ?_ ?_
      · rintro _ jump w1 w1' ⟨rfl, hj⟩ hw1
        refine SO.still hw1 (tod ((jump.map Item.code).toList ++ k) (fun j hj2 => ?_)) (fun u => rfl) ?_
        · rcases List.mem_append.1 hj2 with h | h
          · cases jump with
            | none => simp at h
            | some c =>
              simp at h
              subst h
              exact okC_mono ((hq.cc c).1 (hj c rfl))
          · exact hk j h
        · cases jump <;> simp [rFr, rI, G, rMo]
      · intro v w1 w1' hw1
        refine SO.still hw1 (ok.rai [{ v, recovered := false }]) (fun u => rfl) ?_
        have := raise_ren (ρ := ρ) ⟨fn, tmps, .endRangeFunc l :: k, defers, .run, kind, rd⟩ [{ v, recovered := false }]
        simp only [List.map_cons, List.map_nil, rP] at this
        simp only [this]; rfl
      · intro hh u hd
        cases hh <;> first | exact hd.elim | exact ⟨_, _, rfl⟩
      · intro r
        cases r with
        | ok v u => exact Nat.le_refl _
        | halt hh u => cases hh <;> exact Nat.le_refl _
    | inRegion ops l =>
      cases l with
      | nil => exact mv k hk
      | cons j l =>
        have ey : (fun x => Region.wanted x (yielded ops (tmps.map (rV ρ)))) = (fun x => Region.wanted x (yielded ops tmps)) := by
          funext x; congr 1; funext q; exact yielded_ren ops tmps q
        unfold stepG.exec
        simp only [rFr_mk, List.map_cons, rI]
        rw [ey]
        split
        · exact hop
        · refine SO.still hw (ok.fin undef) (fun u => rfl) ?_
          have := finish_ren (ρ := ρ) ⟨fn, tmps, .inRegion ops (j :: l) :: k, defers, .run, kind, rd⟩ undef
          rw [rV_undef] at this
          rw [← this]; rfl
    | code c =>
      cases c with
      | ret => exact lv (some .ret) (fun c h => by cases h; trivial)
      | skip => exact mv k hk
      | label l => exact mv k hk
      | seq a b => exact mv (.code a :: .code b :: k) (mv2 _ _ hi.1 hi.2)
      | block id b => exact mv (.code b :: .inBlock id :: k) (mv2 _ _ hi trivial)
      | loop b => exact mv (.code b :: .inLoop b :: k) (mv2 _ _ hi hi)
      | scope b => exact hi.elim
      | goto l => exact hi.elim
      | refuse s => exact SO.dead fun u => ⟨_, _, rfl⟩
      | cond c a b =>
        have he := eval_ren (ρ := ρ) hp.z.low hw.fix ⟨fn, tmps, .code (.cond c a b) :: k, defers, .run, kind, rd⟩ hi.1
        unfold stepG.exec
        rw [rFr_mk] at he ⊢
        simp only [List.map_cons, rI] at he ⊢
        rw [he]
        cases hv : (⟨fn, tmps, .code (.cond c a b) :: k, defers, .run, kind, rd⟩ : Frame).eval c with
        | bool x =>
          simp only [rV]
          have := mv (.code (if x then a else b) :: k) (mv1 _ (by cases x; exact hi.2.2; exact hi.2.1))
          exact this
        | _ => exact SO.dead fun u => ⟨_, _, rfl⟩
      | exit id =>
        have he := exitTo_ren (ρ := ρ) id k
        unfold stepG.exec
        simp only [rFr_mk, List.map_cons, rI]
        rw [he]
        cases hx : exitTo id k with
        | none => exact lv (some (.exit id)) (fun c h => by cases h; trivial)
        | some t => exact mv t (exitTo_ok id k t hx hk)
      | region id ops draw =>
        cases draw with
        | false => exact mv (.inRegion ops (List.range ops.size) :: k) (mv1 _ hi)
        | true =>
          unfold stepG.exec
          simp only [rFr_mk, List.map_cons, rI, Bool.not_true, Bool.false_eq_true, if_false]
          refine SO.par (es0 := #[]) (F := fun r => (match r with
            | .ok t w => .go { frame := ⟨fn, tmps, .inRegion ops (Region.schedule (P.follows .mixedOrders) ops t) :: k, defers, .run, kind, rd⟩, callers := cs ++ ks, status := .running, dying := none } w
            | .halt _ w => .ended (.stuck "order" ((⟨fn, tmps, .code (.region id ops true) :: k, defers, .run, kind, rd⟩ : Frame).pos P)) w : GStep).bare) (F' := fun r => match r with
            | .ok t w => .go { frame := ⟨fn, tmps.map (rV ρ), .inRegion ops (Region.schedule (P.follows .mixedOrders) ops t) :: k.map (rI ρ), defers.map (rD ρ), .run, kind, rd.map ρ⟩, callers := cs.map (rFr ρ) ++ cs', status := .running, dying := none } w
            | .halt _ w => .ended (.stuck "order" ((rFr ρ ⟨fn, tmps, .code (.region id ops true) :: k, defers, .run, kind, rd⟩ : Frame).pos P)) w) (Par.choose (.order fn id)) hw (fun u => ?_) (fun e he => by simp at he) ?_ ?_ ?_ ?_ ?_
          · rfl
          · have e0 : ∀ g : GStep, GStep.after #[] g = g := fun g => by cases g <;> simp [GStep.after]
            rw [e0]; rfl
          · rintro _ t w1 w1' rfl hw1
            exact SO.still hw1 (tod (.inRegion ops (Region.schedule (P.follows .mixedOrders) ops t) :: k) (mv1 _ hi)) (fun u => rfl) rfl
          · intro v w1 w1' hw1
            exact SO.dead fun u => ⟨_, _, rfl⟩
          · intro hh u hd
            exact ⟨_, _, rfl⟩
          · intro r
            cases r <;> exact Nat.le_refl _
      | rangeFunc f params assign body =>
        unfold stepG.exec
        simp only [rFr_mk, List.map_cons, rI, Sem.runT_eq, GStep.bare_after]
        refine SO.par (F := fun r => (match r with
          | .ok (l, mark) w => stepG.apply P true ⟨fn, tmps, .inRangeFunc l :: k, mark ++ defers, .run, kind, rd⟩ (cs ++ ks) none (do let d ← resolve (⟨fn, tmps, .inRangeFunc l :: k, mark ++ defers, .run, kind, rd⟩ : Frame).eval { callee := .value f, args := #[.const (.func (.yield l) #[] #[])], argTypes := #[] } 0; invoke d.target d.args) w
          | .halt _ w => .ended (.stuck "range over a function: no such loop" ((⟨fn, tmps, .code (.rangeFunc f params assign body) :: k, defers, .run, kind, rd⟩ : Frame).pos P)) w : GStep).bare) (F' := fun r => match r with
          | .ok (l, mark) w => stepG.apply P true ⟨fn, tmps.map (rV ρ), .inRangeFunc l :: k.map (rI ρ), mark ++ defers.map (rD ρ), .run, kind, rd.map ρ⟩ (cs.map (rFr ρ) ++ cs') none (do let d ← resolve (⟨fn, tmps.map (rV ρ), .inRangeFunc l :: k.map (rI ρ), mark ++ defers.map (rD ρ), .run, kind, rd.map ρ⟩ : Frame).eval { callee := .value f, args := #[.const (.func (.yield l) #[] #[])], argTypes := #[] } 0; invoke d.target d.args) w
          | .halt _ w => .ended (.stuck "range over a function: no such loop" ((rFr ρ ⟨fn, tmps, .code (.rangeFunc f params assign body) :: k, defers, .run, kind, rd⟩ : Frame).pos P)) w) (enterLoop_par fn tmps params ((hq.cc _).2 hi.2.1) ((hq.cc _).2 hi.2.2) rd) hw (fun u => rfl) (fun e he => mem_seen (fn := fn) (P := P) he) rfl ?_ ?_ ?_ ?_
        · rintro ⟨l, mark⟩ _ w1 w1' ⟨rfl, hb, hmk⟩ hw1
          have ok3 : CfOK P ⟨fn, tmps, .inRangeFunc l :: k, mark ++ defers, .run, kind, rd⟩ cs := ok.turn ⟨mv1 _ trivial, fun x hx => by rcases List.mem_append.1 hx with hx | hx; exact .inr (hmk x hx); exact ok.top.df x hx, ok.top.kd⟩ rfl rfl
          have efr : rFr ρ ⟨fn, tmps, .inRangeFunc l :: k, mark ++ defers, .run, kind, rd⟩ = ⟨fn, tmps.map (rV ρ), .inRangeFunc (ρ l) :: k.map (rI ρ), mark.map (rD ρ) ++ defers.map (rD ρ), .run, kind, rd.map ρ⟩ := by simp [rFr, rI, rMo]
          have hev := eval_ren (ρ := ρ) hp.z.low hw1.fix ⟨fn, tmps, .inRangeFunc l :: k, mark ++ defers, .run, kind, rd⟩ hi.1
          have hrs : Par P base fl ρ (fun d d' => d' = rD ρ d ∧ okT d.target) (resolve (⟨fn, tmps, .inRangeFunc l :: k, mark ++ defers, .run, kind, rd⟩ : Frame).eval { callee := .value f, args := #[.const (.func (.yield l) #[] #[])], argTypes := #[] } 0)
              (resolve (rFr ρ ⟨fn, tmps, .inRangeFunc l :: k, mark ++ defers, .run, kind, rd⟩).eval { callee := .value f, args := #[.const (.func (.yield (ρ l)) #[] #[])], argTypes := #[] } 0) := by
            unfold resolve
            dsimp only
            rw [hev]
            unfold Deferred.ofValue
            cases he : (⟨fn, tmps, .inRangeFunc l :: k, mark ++ defers, .run, kind, rd⟩ : Frame).eval f <;> simp only [rV] <;> first
              | exact Par.stk
              | exact Par.pur ⟨by simp [rD, rT, Frame.eval, rV, rF], trivial⟩
              | exact Par.pur ⟨by simp [rD, rT, Frame.eval, rV, rF], good_eval (fr := ⟨fn, tmps, .inRangeFunc l :: k, mark ++ defers, .run, kind, rd⟩) hg hi.1 he⟩
          have hpn : PN P base fl ρ (do let d ← resolve (⟨fn, tmps, .inRangeFunc l :: k, mark ++ defers, .run, kind, rd⟩ : Frame).eval { callee := .value f, args := #[.const (.func (.yield l) #[] #[])], argTypes := #[] } 0; invoke d.target d.args)
              (do let d ← resolve (rFr ρ ⟨fn, tmps, .inRangeFunc l :: k, mark ++ defers, .run, kind, rd⟩).eval { callee := .value f, args := #[.const (.func (.yield (ρ l)) #[] #[])], argTypes := #[] } 0; invoke d.target d.args) := by
            refine Par.bnd hrs ?_
            rintro d _ ⟨rfl, hd⟩
            exact invoke_par hp hd _
          have := apply_so hq hpn hw1 ok3 hks hr
          rw [efr] at this
          exact this
        · intro v w1 w1' hw1
          exact SO.dead fun u => ⟨_, _, rfl⟩
        · intro hh u hd
          exact ⟨_, _, rfl⟩
        · intro r
          cases r with
          | ok v u =>
            obtain ⟨es0, h1, h2⟩ := apply_after (P := P) ⟨fn, tmps.map (rV ρ), .inRangeFunc v.1 :: k.map (rI ρ), v.2 ++ defers.map (rD ρ), .run, kind, rd.map ρ⟩ (cs.map (rFr ρ) ++ cs') (do let d ← resolve (⟨fn, tmps.map (rV ρ), .inRangeFunc v.1 :: k.map (rI ρ), v.2 ++ defers.map (rD ρ), .run, kind, rd.map ρ⟩ : Frame).eval { callee := .value f, args := #[.const (.func (.yield v.1) #[] #[])], argTypes := #[] } 0; invoke d.target d.args) u
            refine Nat.le_trans (run_size P (do let d ← resolve (⟨fn, tmps.map (rV ρ), .inRangeFunc v.1 :: k.map (rI ρ), v.2 ++ defers.map (rD ρ), .run, kind, rd.map ρ⟩ : Frame).eval { callee := .value f, args := #[.const (.func (.yield v.1) #[] #[])], argTypes := #[] } 0; invoke d.target d.args) u) ?_
            show _ ≤ gsz (stepG.apply P true _ _ none _ u)
            rw [h2, gsz_after]
            exact apR_size _
          | halt hh u => exact Nat.le_refl _
theorem step_so (hp : PP P base fl ρ) (hq : PQ P) (hw : HR base fl ρ w w') {fr : Frame} {cs : List Frame} (ok : CfOK P fr cs) (hks : NoRF ks) (hr : NoRF cs') (hg : ∀ (t : Nat) f a b, fr.tmps[t]? = some (.func f a b) → GoodFn f) (hcl : ∀ (t : Nat) a l k, fr.tmps[t]? = some (.slice (some a) l k) → ¬ Hid fl base a.block) (hl : cs = [] → fr.mode = .run ∨ fr.defers ≠ []) :
    SO P base fl ρ ks cs' w w' (fun u => (stepG P true (G fr (cs ++ ks)) u).bare) (stepG P false (G (rFr ρ fr) (cs.map (rFr ρ) ++ cs')) w') := by
  have e2 : (rFr ρ fr).mode = rMo ρ fr.mode := rfl
  cases hm : fr.mode with
  | run =>
    have h := exec_so hp hq hw ok hks hr hm hg hcl
    simp only [stepG, G, e2, hm, rMo]
    exact h
  | returning =>
    have h := unwind_so (ks := ks) (cs' := cs') hp hq hw ok (fun hc => (hl hc).resolve_left (by rw [hm]; simp))
    simp only [stepG, G, e2, hm, rMo]
    exact h
  | panicking c =>
    have h := unwind_so (ks := ks) (cs' := cs') hp hq hw ok (fun hc => (hl hc).resolve_left (by rw [hm]; simp))
    simp only [stepG, G, e2, hm, rMo]
    exact h
end
end Go.Proofs.Q
namespace Go.Proofs.Q
open Go Go.Conc
set_option linter.unusedVariables false
set_option linter.unusedSectionVars false
set_option linter.unusedSimpArgs false
variable [Gds]
def bF (L : Nat) : Fn → Prop
  | .yield l => l < L
  | .func f => Gds.gf f
  | .method n => Gds.gn n
  | .methodOf _ n => Gds.gn n
  | .via _ _ f _ => Gds.gf f
def bV (L : Nat) : Value → Prop
  | .pointer a => ∀ x, a = some x → x.block < L
  | .slice a _ _ => ∀ x, a = some x → x.block < L
  | .map r => ∀ x, r = some x → x < L
  | .chan r => ∀ x, r = some x → x < L
  | .func fn first cap => bF L fn ∧ (∀ x, (_ : x ∈ first) → bV L x) ∧ ∀ x, (_ : x ∈ cap) → bV L x
  | .iface _ v => bV L v
  | .agg cs => ∀ x, (_ : x ∈ cs) → bV L x
  | .tuple cs => ∀ x, (_ : x ∈ cs) → bV L x
  | _ => True
def bVs (L : Nat) (cs : Array Value) : Prop := ∀ x, x ∈ cs → bV L x
def bT (L : Nat) : Target → Prop
  | .fn f c => bF L f ∧ bVs L c
  | .builtin b _ _ _ => Gds.gb b
  | .collected r => r < L
  | .coroexit c => c < L
  | .nil => True
def bD (L : Nat) (d : Deferred) : Prop := bT L d.target ∧ bVs L d.args
def bLp (L : Nat) (l : Loop) : Prop := bVs L l.tmps ∧ l.defers < L
def bO (L : Nat) : Obj → Prop
  | .cells c _ _ => bVs L c
  | .pending c _ => bVs L c
  | .view a _ => a.block < L
  | .number a _ => a.block < L
  | .map es _ => ∀ e, e ∈ es → bV L e.key ∧ bV L e.val
  | .chan _ buf _ _ _ _ => bVs L buf
  | .mapIter m _ _ _ => ∀ x, m = some x → x < L
  | .loop l => bLp L l
  | .deferred c => ∀ ds, c = some ds → ∀ d, d ∈ ds → bD L d
  | .finalizers fs _ => ∀ x, x ∈ fs → x.1 < L ∧ bD L x.2
  | _ => True
def bI (L : Nat) : Item → Prop
  | .inRangeFunc l => l < L
  | .endRangeFunc l => l < L
  | .call d _ _ s => bD L d ∧ bVs L s
  | .extern _ a => bVs L a
  | _ => True
def bMo (L : Nat) : FrameMode → Prop
  | .panicking c => ∀ e, e ∈ c → bV L e.v
  | _ => True
structure bFr (L : Nat) (f : Frame) : Prop where
  t : bVs L f.tmps
  i : ∀ x, x ∈ f.todo → bI L x
  d : ∀ x, x ∈ f.defers → bD L x
  m : bMo L f.mode
  r : ∀ x, f.roundOf = some x → x < L
section
variable {L : Nat} {ρ σ : Nat → Nat} {T U : Tok}
theorem rA_agr (h : ∀ k, k < L → ρ k = σ k) {a : Option Addr} (ha : ∀ x, a = some x → x.block < L) : a.map (rA ρ) = a.map (rA σ) := by
  cases a with
  | none => rfl
  | some x => simp [rA, h _ (ha x rfl)]
theorem rN_agr (h : ∀ k, k < L → ρ k = σ k) {a : Option Nat} (ha : ∀ x, a = some x → x < L) : a.map ρ = a.map σ := by
  cases a with
  | none => rfl
  | some x => simp [h _ (ha x rfl)]
theorem rF_agr (h : ∀ k, k < L → ρ k = σ k) {f : Fn} (hf : bF L f) : @rF _ T ρ f = @rF _ U σ f := by
  cases f with
  | yield l => simp [rF, h l hf]
  | func k => simp only [rF]; rw [T.phi_fix k hf, U.phi_fix k hf]
  | method n => simp only [rF]; rw [T.nu_fix n hf, U.nu_fix n hf]
  | methodOf t n => simp only [rF]; rw [T.nu_fix n hf, U.nu_fix n hf]
  | via t p k b => simp only [rF]; rw [T.phi_fix k hf, U.phi_fix k hf]
theorem rV_agr (h : ∀ k, k < L → ρ k = σ k) : ∀ {v : Value}, bV L v → @rV _ T ρ v = @rV _ U σ v
  | .pointer a, hv => by simp only [bV] at hv; simp only [rV, rA_agr h hv]
  | .slice a l c, hv => by simp only [bV] at hv; simp only [rV, rA_agr h hv]
  | .map r, hv => by simp only [bV] at hv; simp only [rV, rN_agr h hv]
  | .chan r, hv => by simp only [bV] at hv; simp only [rV, rN_agr h hv]
  | .func f a b, hv => by
    simp only [bV] at hv
    have e1 : a.map (@rV _ T ρ) = a.map (@rV _ U σ) := Array.map_congr_left fun x hx => rV_agr h (hv.2.1 x hx)
    have e2 : b.map (@rV _ T ρ) = b.map (@rV _ U σ) := Array.map_congr_left fun x hx => rV_agr h (hv.2.2 x hx)
    simp only [rV, e1, e2, rF_agr (T := T) (U := U) h hv.1]
  | .iface t v, hv => by simp only [bV] at hv; simp only [rV, rV_agr h hv]
  | .agg cs, hv => by
    simp only [bV] at hv
    have e1 : cs.map (@rV _ T ρ) = cs.map (@rV _ U σ) := Array.map_congr_left fun x hx => rV_agr h (hv x hx)
    simp only [rV, e1]
  | .tuple cs, hv => by
    simp only [bV] at hv
    have e1 : cs.map (@rV _ T ρ) = cs.map (@rV _ U σ) := Array.map_congr_left fun x hx => rV_agr h (hv x hx)
    simp only [rV, e1]
  | .bool _, _ => by simp [rV]
  | .int _ _, _ => by simp [rV]
  | .float _ _, _ => by simp [rV]
  | .complex _ _ _, _ => by simp [rV]
  | .string _, _ => by simp [rV]
  | .nilFunc, _ => by simp [rV]
  | .nilIface, _ => by simp [rV]
theorem rVs_agr (h : ∀ k, k < L → ρ k = σ k) {cs : Array Value} (hv : bVs L cs) : cs.map (@rV _ T ρ) = cs.map (@rV _ U σ) := Array.map_congr_left fun x hx => rV_agr h (hv x hx)
theorem rT_agr (h : ∀ k, k < L → ρ k = σ k) {t : Target} (ht : bT L t) : @rT _ T ρ t = @rT _ U σ t := by
  cases t with
  | fn f c => simp only [rT, rF_agr (T := T) (U := U) h ht.1, rVs_agr (T := T) (U := U) h ht.2]
  | builtin b a c d => simp only [rT]; rw [T.beta_fix b ht, U.beta_fix b ht]
  | collected r => simp [rT, h r ht]
  | coroexit r => simp [rT, h r ht]
  | nil => rfl
theorem rD_agr (h : ∀ k, k < L → ρ k = σ k) {d : Deferred} (hd : bD L d) : @rD _ T ρ d = @rD _ U σ d := by
  simp only [rD, rT_agr (T := T) (U := U) h hd.1, rVs_agr (T := T) (U := U) h hd.2]
theorem rDs_agr (h : ∀ k, k < L → ρ k = σ k) {ds : List Deferred} (hd : ∀ d, d ∈ ds → bD L d) : ds.map (@rD _ T ρ) = ds.map (@rD _ U σ) := List.map_congr_left fun x hx => rD_agr h (hd x hx)
theorem rO_agr (h : ∀ k, k < L → ρ k = σ k) {o : Obj} (ho : bO L o) (hn : notP o) : @rO _ T ρ o = @rO _ U σ o := by
  cases o with
  | cells c e f => simp only [rO, rVs_agr (T := T) (U := U) h ho]
  | pending c e => simp only [rO, rVs_agr (T := T) (U := U) h ho]
  | view a t => simp [rO, rA, h _ ho]
  | number a t => simp [rO, rA, h _ ho]
  | map es c =>
    have : es.map (@rE _ T ρ) = es.map (@rE _ U σ) := Array.map_congr_left fun x hx => by simp only [rE, rV_agr (T := T) (U := U) h (ho x hx).1, rV_agr (T := T) (U := U) h (ho x hx).2]
    simp only [rO, this]
  | chan a b c d e f => simp only [rO, rVs_agr (T := T) (U := U) h ho]
  | stringIter s p => rfl
  | mapIter m s se st => simp only [rO, rN_agr h ho]
  | loop l =>
    have hn : okL l := hn
    have e1 : @Tok.chi _ T l.assign = @Tok.chi _ U l.assign := by rw [T.chi_fix _ hn.1, U.chi_fix _ hn.1]
    have e2 : @Tok.chi _ T l.body = @Tok.chi _ U l.body := by rw [T.chi_fix _ hn.2.1, U.chi_fix _ hn.2.1]
    have e3 : l.pending.map (@Tok.chi _ T) = l.pending.map (@Tok.chi _ U) := by
      cases hp : l.pending with
      | none => rfl
      | some c => simp [T.chi_fix _ (hn.2.2 c hp), U.chi_fix _ (hn.2.2 c hp)]
    simp only [rO, rL, rVs_agr (T := T) (U := U) h ho.1, h _ ho.2, e1, e2, e3]
  | deferred c =>
    cases c with
    | none => rfl
    | some ds => simp only [rO, Option.map_some, rDs_agr (T := T) (U := U) h (ho ds rfl)]
  | coro p => rfl
  | finalizers fs r =>
    have : fs.map (fun x => (ρ x.1, @rD _ T ρ x.2)) = fs.map (fun x => (σ x.1, @rD _ U σ x.2)) := Array.map_congr_left fun x hx => by rw [h _ (ho x hx).1, rD_agr (T := T) (U := U) h (ho x hx).2]
    simp only [rO, this]
theorem rI_agr (h : ∀ k, k < L → ρ k = σ k) {i : Item} (hi : bI L i) : @rI _ T ρ i = @rI _ U σ i := by
  cases i with
  | inRangeFunc l => simp [rI, h l hi]
  | endRangeFunc l => simp [rI, h l hi]
  | call d w r s => simp only [rI, rD_agr (T := T) (U := U) h hi.1, rVs_agr (T := T) (U := U) h hi.2]
  | extern r a => simp only [rI, rVs_agr (T := T) (U := U) h hi]
  | _ => rfl
theorem rMo_agr (h : ∀ k, k < L → ρ k = σ k) {m : FrameMode} (hm : bMo L m) : @rMo _ T ρ m = @rMo _ U σ m := by
  cases m with
  | panicking c =>
    have : c.map (@rP _ T ρ) = c.map (@rP _ U σ) := List.map_congr_left fun x hx => by simp only [rP, rV_agr (T := T) (U := U) h (hm x hx)]
    simp only [rMo, this]
  | _ => rfl
theorem rFr_agr (h : ∀ k, k < L → ρ k = σ k) {f : Frame} (hf : bFr L f) : @rFr _ T ρ f = @rFr _ U σ f := by
  have e1 : f.todo.map (@rI _ T ρ) = f.todo.map (@rI _ U σ) := List.map_congr_left fun x hx => rI_agr h (hf.i x hx)
  simp only [rFr, rVs_agr (T := T) (U := U) h hf.t, e1, rDs_agr (T := T) (U := U) h hf.d, rMo_agr (T := T) (U := U) h hf.m, rN_agr h hf.r]
theorem rFrs_agr (h : ∀ k, k < L → ρ k = σ k) {cs : List Frame} (hf : ∀ f, f ∈ cs → bFr L f) : cs.map (@rFr _ T ρ) = cs.map (@rFr _ U σ) := List.map_congr_left fun x hx => rFr_agr h (hf x hx)
@[reducible] def Tok.one : Tok := { phi := id, nu := id, chi := id, beta := id, phi_fix := fun _ _ => rfl, nu_fix := fun _ _ => rfl, chi_fix := fun _ _ => rfl, beta_fix := fun _ _ => rfl }
theorem rF_one (f : Fn) : @rF _ Tok.one id f = f := by cases f <;> rfl
theorem rV_one : ∀ v : Value, @rV _ Tok.one id v = v
  | .pointer a => by cases a <;> simp [rV, rA]
  | .slice a l c => by cases a <;> simp [rV, rA]
  | .map r => by cases r <;> simp [rV]
  | .chan r => by cases r <;> simp [rV]
  | .func f a b => by
    have e1 : a.map (@rV _ Tok.one id) = a.map id := Array.map_congr_left fun x hx => rV_one x
    have e2 : b.map (@rV _ Tok.one id) = b.map id := Array.map_congr_left fun x hx => rV_one x
    simp only [rV, e1, e2, rF_one, Array.map_id]
  | .iface t v => by simp only [rV, rV_one v]
  | .agg cs => by
    have e1 : cs.map (@rV _ Tok.one id) = cs.map id := Array.map_congr_left fun x hx => rV_one x
    simp only [rV, e1, Array.map_id]
  | .tuple cs => by
    have e1 : cs.map (@rV _ Tok.one id) = cs.map id := Array.map_congr_left fun x hx => rV_one x
    simp only [rV, e1, Array.map_id]
  | .bool _ => by simp [rV]
  | .int _ _ => by simp [rV]
  | .float _ _ => by simp [rV]
  | .complex _ _ _ => by simp [rV]
  | .string _ => by simp [rV]
  | .nilFunc => by simp [rV]
  | .nilIface => by simp [rV]
theorem rVf_one : @rV _ Tok.one id = id := funext rV_one
theorem rT_one (t : Target) : @rT _ Tok.one id t = t := by
  cases t with
  | fn f c => simp only [rT, rF_one, rVf_one, Array.map_id]
  | _ => rfl
theorem rDf_one : @rD _ Tok.one id = id := funext fun d => by simp only [rD, rT_one, rVf_one, Array.map_id]; rfl
theorem rO_one (o : Obj) : @rO _ Tok.one id o = o := by
  cases o with
  | map es c =>
    have : es.map (@rE _ Tok.one id) = es.map id := Array.map_congr_left fun x hx => by simp only [rE, rV_one]; rfl
    simp only [rO, this, Array.map_id]
  | mapIter m s se st => cases m <;> rfl
  | loop l => simp only [rO, rL, rVf_one, Array.map_id]; congr; cases l.pending <;> rfl
  | deferred c => cases c <;> simp [rO, rDf_one]
  | finalizers fs r =>
    have : fs.map (fun x => (id x.1, @rD _ Tok.one id x.2)) = fs.map id := Array.map_congr_left fun x hx => by rw [rDf_one]; rfl
    simp only [rO, this, Array.map_id]
  | cells c e f => simp [rO, rVf_one]
  | pending c e => simp [rO, rVf_one]
  | chan a b c d e f => simp [rO, rVf_one]
  | _ => rfl
theorem rFr_one (f : Frame) : @rFr _ Tok.one id f = f := by
  obtain ⟨fn, tmps, todo, defers, mode, kind, rd⟩ := f
  have e1 : todo.map (@rI _ Tok.one id) = todo.map id := List.map_congr_left fun x hx => by cases x <;> simp [rI, rDf_one, rVf_one]
  have e2 : @rMo _ Tok.one id mode = mode := by
    cases mode with
    | panicking c =>
      have : c.map (@rP _ Tok.one id) = c.map id := List.map_congr_left fun x hx => by simp only [rP, rV_one]; rfl
      simp only [rMo, this, List.map_id]
    | _ => rfl
  have e3 : rd.map id = rd := by cases rd <;> rfl
  simp only [rFr, e1, e2, e3, rVf_one, rDf_one, Array.map_id, List.map_id]
end
end Go.Proofs.Q
namespace Go.Proofs.Q
open Go Go.Conc
set_option linter.unusedVariables false
set_option linter.unusedSectionVars false
set_option linter.unusedSimpArgs false
variable [Gds]
structure Gz where
  f0 : Nat
  n0 : String
  b0 : Builtin
  hf : Gds.gf f0
  hn : Gds.gn n0
  hb : Gds.gb b0
open Classical in
@[reducible] noncomputable def Gz.tok (z : Gz) : Tok where
  phi f := if Gds.gf f then f else z.f0
  nu f := if Gds.gn f then f else z.n0
  chi := id
  beta f := if Gds.gb f then f else z.b0
  phi_fix _ h := if_pos h
  nu_fix _ h := if_pos h
  chi_fix _ _ := rfl
  beta_fix _ h := if_pos h
section
variable {L : Nat} {ρ σ : Nat → Nat} {z : Gz}
open Classical in
theorem gphi (f : Nat) : Gds.gf (z.tok.phi f) := by
  show Gds.gf (if Gds.gf f then f else z.f0)
  split
  · assumption
  · exact z.hf
open Classical in
theorem gnu (f : String) : Gds.gn (z.tok.nu f) := by
  show Gds.gn (if Gds.gn f then f else z.n0)
  split
  · assumption
  · exact z.hn
open Classical in
theorem gbeta (f : Builtin) : Gds.gb (z.tok.beta f) := by
  show Gds.gb (if Gds.gb f then f else z.b0)
  split
  · assumption
  · exact z.hb
def Dis (L : Nat) (ρ σ : Nat → Nat) : Prop := ∀ a b, ρ a = σ b → ρ a < L
theorem arr_img {α β : Type} {f g : α → β} {a b : Array α} (h : a.map f = b.map g) {x : β} (hx : x ∈ a.map f) : ∃ y1 y2, y1 ∈ a ∧ y2 ∈ b ∧ x = f y1 ∧ f y1 = g y2 := by
  obtain ⟨i, hi, rfl⟩ := Array.getElem_of_mem hx
  have hs : a.size = b.size := by have := congrArg Array.size h; simpa using this
  have hi1 : i < a.size := by simpa using hi
  have hi2 : i < b.size := by omega
  refine ⟨a[i], b[i], Array.getElem_mem _, Array.getElem_mem _, by simp, ?_⟩
  have : (a.map f)[i]? = (b.map g)[i]? := by rw [h]
  simpa [hi1, hi2] using this
theorem list_img {α β : Type} {f g : α → β} {a b : List α} (h : a.map f = b.map g) {x : β} (hx : x ∈ a.map f) : ∃ y1 y2, y1 ∈ a ∧ y2 ∈ b ∧ x = f y1 ∧ f y1 = g y2 := by
  have h2 : a.toArray.map f = b.toArray.map g := by simp [h]
  have := arr_img h2 (x := x) (by simpa using hx)
  simpa using this
theorem addr_img (hd : Dis L ρ σ) {a b : Option Addr} (h : a.map (rA ρ) = b.map (rA σ)) : ∀ x, a.map (rA ρ) = some x → x.block < L := by
  intro x hx
  cases a with
  | none => cases hx
  | some a =>
    cases b with
    | none => cases h
    | some b =>
      simp at hx h
      subst hx
      have := congrArg Addr.block h
      exact hd _ _ this
theorem nat_img (hd : Dis L ρ σ) {a b : Option Nat} (h : a.map ρ = b.map σ) : ∀ x, a.map ρ = some x → x < L := by
  intro x hx
  cases a with
  | none => cases hx
  | some a =>
    cases b with
    | none => cases h
    | some b =>
      simp at hx h
      subst hx
      exact hd _ _ h
theorem fn_img (hd : Dis L ρ σ) {a b : Fn} (h : @rF _ z.tok ρ a = @rF _ z.tok σ b) : bF L (@rF _ z.tok ρ a) := by
  cases a with
  | yield l =>
    cases b <;> simp [rF] at h
    exact hd _ _ h
  | func f => exact gphi f
  | method n => exact gnu n
  | methodOf t n => exact gnu n
  | via t p f b => exact gphi f
theorem val_img (hd : Dis L ρ σ) : ∀ {a b : Value}, @rV _ z.tok ρ a = @rV _ z.tok σ b → bV L (@rV _ z.tok ρ a)
  | .pointer a, b, h => by
    cases b <;> simp only [rV, reduceCtorEq, Value.pointer.injEq] at h
    simp only [rV, bV]; exact addr_img hd h
  | .slice a l c, b, h => by
    cases b <;> simp only [rV, reduceCtorEq, Value.slice.injEq] at h
    simp only [rV, bV]; exact addr_img hd h.1
  | .map r, b, h => by
    cases b <;> simp only [rV, reduceCtorEq, Value.map.injEq] at h
    simp only [rV, bV]; exact nat_img hd h
  | .chan r, b, h => by
    cases b <;> simp only [rV, reduceCtorEq, Value.chan.injEq] at h
    simp only [rV, bV]; exact nat_img hd h
  | .func f a c, b, h => by
    cases b <;> simp only [rV, reduceCtorEq, Value.func.injEq] at h
    simp only [rV, bV]
    refine ⟨fn_img hd h.1, fun x hx => ?_, fun x hx => ?_⟩
    · obtain ⟨y1, y2, h1, _, rfl, h3⟩ := arr_img h.2.1 hx
      exact val_img hd h3
    · obtain ⟨y1, y2, h1, _, rfl, h3⟩ := arr_img h.2.2 hx
      exact val_img hd h3
  | .iface t v, b, h => by
    cases b <;> simp only [rV, reduceCtorEq, Value.iface.injEq] at h
    simp only [rV, bV]; exact val_img hd h.2
  | .agg cs, b, h => by
    cases b <;> simp only [rV, reduceCtorEq, Value.agg.injEq] at h
    simp only [rV, bV]
    intro x hx
    obtain ⟨y1, y2, h1, _, rfl, h3⟩ := arr_img h hx
    exact val_img hd h3
  | .tuple cs, b, h => by
    cases b <;> simp only [rV, reduceCtorEq, Value.tuple.injEq] at h
    simp only [rV, bV]
    intro x hx
    obtain ⟨y1, y2, h1, _, rfl, h3⟩ := arr_img h hx
    exact val_img hd h3
  | .bool _, _, _ => by simp [rV, bV]
  | .int _ _, _, _ => by simp [rV, bV]
  | .float _ _, _, _ => by simp [rV, bV]
  | .complex _ _ _, _, _ => by simp [rV, bV]
  | .string _, _, _ => by simp [rV, bV]
  | .nilFunc, _, _ => by simp [rV, bV]
  | .nilIface, _, _ => by simp [rV, bV]
theorem vals_img (hd : Dis L ρ σ) {a b : Array Value} (h : a.map (@rV _ z.tok ρ) = b.map (@rV _ z.tok σ)) : bVs L (a.map (@rV _ z.tok ρ)) := fun x hx => by
  obtain ⟨y1, y2, h1, _, rfl, h3⟩ := arr_img h hx
  exact val_img hd h3
theorem tgt_img (hd : Dis L ρ σ) {a b : Target} (h : @rT _ z.tok ρ a = @rT _ z.tok σ b) : bT L (@rT _ z.tok ρ a) := by
  cases a with
  | fn f c =>
    cases b <;> simp only [rT, reduceCtorEq, Target.fn.injEq] at h
    exact ⟨fn_img hd h.1, vals_img hd h.2⟩
  | builtin b x y w => exact gbeta b
  | collected r =>
    cases b <;> simp only [rT, reduceCtorEq, Target.collected.injEq] at h
    exact hd _ _ h
  | coroexit r =>
    cases b <;> simp only [rT, reduceCtorEq, Target.coroexit.injEq] at h
    exact hd _ _ h
  | nil => trivial
theorem def_img (hd : Dis L ρ σ) {a b : Deferred} (h : @rD _ z.tok ρ a = @rD _ z.tok σ b) : bD L (@rD _ z.tok ρ a) := by
  simp only [rD, Deferred.mk.injEq] at h
  exact ⟨tgt_img hd h.1, vals_img hd h.2⟩
theorem obj_img (hd : Dis L ρ σ) {a b : Obj} (h : @rO _ z.tok ρ a = @rO _ z.tok σ b) : bO L (@rO _ z.tok ρ a) := by
  cases a with
  | cells c e f =>
    cases b <;> simp only [rO, reduceCtorEq, Obj.cells.injEq] at h
    exact vals_img hd h.1
  | pending c e =>
    cases b <;> simp only [rO, reduceCtorEq, Obj.pending.injEq] at h
    exact vals_img hd h.1
  | view a t =>
    cases b <;> simp only [rO, reduceCtorEq, Obj.view.injEq] at h
    exact hd _ _ (congrArg Addr.block h.1)
  | number a t =>
    cases b <;> simp only [rO, reduceCtorEq, Obj.number.injEq] at h
    exact hd _ _ (congrArg Addr.block h.1)
  | map es c =>
    cases b <;> simp only [rO, reduceCtorEq, Obj.map.injEq] at h
    intro e he
    obtain ⟨y1, y2, h1, _, rfl, h3⟩ := arr_img h.1 he
    simp only [rE, MapEntry.mk.injEq] at h3
    exact ⟨val_img hd h3.1, val_img hd h3.2.1⟩
  | chan a1 a2 a3 a4 a5 a6 =>
    cases b <;> simp only [rO, reduceCtorEq, Obj.chan.injEq] at h
    exact vals_img hd h.2.1
  | stringIter s p => trivial
  | mapIter m s se st =>
    cases b <;> simp only [rO, reduceCtorEq, Obj.mapIter.injEq] at h
    exact nat_img hd h.1
  | loop l =>
    cases b <;> simp only [rO, reduceCtorEq, Obj.loop.injEq] at h
    rename_i l2
    exact ⟨vals_img hd (congrArg Loop.tmps h), hd _ _ (congrArg Loop.defers h)⟩
  | deferred c =>
    cases b <;> simp only [rO, reduceCtorEq, Obj.deferred.injEq] at h
    rename_i c2
    cases c with
    | none => intro ds e; cases e
    | some ds =>
      cases c2 with
      | none => cases h
      | some ds2 =>
        simp at h
        intro ds3 e d hd3
        cases e
        obtain ⟨y1, y2, h1, _, rfl, h3⟩ := list_img h hd3
        exact def_img hd h3
  | coro p => trivial
  | finalizers fs r =>
    cases b <;> simp only [rO, reduceCtorEq, Obj.finalizers.injEq] at h
    intro x hx
    obtain ⟨y1, y2, h1, _, rfl, h3⟩ := arr_img h.1 hx
    simp only [Prod.mk.injEq] at h3
    exact ⟨hd _ _ h3.1, def_img hd h3.2⟩
theorem item_img (hd : Dis L ρ σ) {a b : Item} (h : @rI _ z.tok ρ a = @rI _ z.tok σ b) : bI L (@rI _ z.tok ρ a) := by
  cases a with
  | inRangeFunc l =>
    cases b <;> simp only [rI, reduceCtorEq, Item.inRangeFunc.injEq] at h
    exact hd _ _ h
  | endRangeFunc l =>
    cases b <;> simp only [rI, reduceCtorEq, Item.endRangeFunc.injEq] at h
    exact hd _ _ h
  | call d w r s =>
    cases b <;> simp only [rI, reduceCtorEq, Item.call.injEq] at h
    exact ⟨def_img hd h.1, vals_img hd h.2.2.2⟩
  | extern r a =>
    cases b <;> simp only [rI, reduceCtorEq, Item.extern.injEq] at h
    exact vals_img hd h.2
  | _ => trivial
theorem mode_img (hd : Dis L ρ σ) {a b : FrameMode} (h : @rMo _ z.tok ρ a = @rMo _ z.tok σ b) : bMo L (@rMo _ z.tok ρ a) := by
  cases a with
  | panicking c =>
    cases b <;> simp only [rMo, reduceCtorEq, FrameMode.panicking.injEq] at h
    intro e he
    obtain ⟨y1, y2, h1, _, rfl, h3⟩ := list_img h he
    simp only [rP, PanicEntry.mk.injEq] at h3
    exact val_img hd h3.1
  | _ => trivial
theorem frame_img (hd : Dis L ρ σ) {a b : Frame} (h : @rFr _ z.tok ρ a = @rFr _ z.tok σ b) : bFr L (@rFr _ z.tok ρ a) := by
  have ht := congrArg Frame.tmps h
  have hi := congrArg Frame.todo h
  have hdf := congrArg Frame.defers h
  have hm := congrArg Frame.mode h
  have hr := congrArg Frame.roundOf h
  refine ⟨vals_img hd ht, fun x hx => ?_, fun x hx => ?_, mode_img hd hm, nat_img hd hr⟩
  · obtain ⟨y1, y2, h1, _, rfl, h3⟩ := list_img hi hx
    exact item_img hd h3
  · obtain ⟨y1, y2, h1, _, rfl, h3⟩ := list_img hdf hx
    exact def_img hd h3
end
end Go.Proofs.Q
namespace Go.Proofs.Q
open Go Go.Conc
set_option linter.unusedVariables false
set_option linter.unusedSectionVars false
set_option linter.unusedSimpArgs false
variable [Gds]
structure LC where
  fr : Frame
  cs : List Frame
  w : World
section
variable {P : Program} {base : Nat} {ks : List Frame}
def LGo (P : Program) (ks : List Frame) (c c1 : LC) : Prop :=
  ∃ τ : Nat → Question → Nat, c.w.drawn ≤ c1.w.drawn ∧ ∀ τ', (∀ i, c.w.drawn ≤ i → i < c1.w.drawn → τ' i = τ i) → (stepG P true (G c.fr (c.cs ++ ks)) (tpW c.w τ')).bare = .go (G c1.fr (c1.cs ++ ks)) (tpW c1.w τ') #[]
def LEnd (P : Program) (ks : List Frame) (c : LC) : Prop :=
  ∃ (τ : Nat → Question → Nat) (d : Nat), ∀ τ', (∀ i, c.w.drawn ≤ i → i < d → τ' i = τ i) → ∃ o u, (stepG P true (G c.fr (c.cs ++ ks)) (tpW c.w τ')).bare = .ended o u #[]
def LOut (c : LC) : Prop := c.cs = [] ∧ (c.fr.mode = .run → False) ∧ c.fr.defers = []
structure LI (P : Program) (base : Nat) (c : LC) : Prop where
  ok : CfOK P c.fr c.cs
  top : bFr c.w.heap.size c.fr
  rest : ∀ f, f ∈ c.cs → bFr c.w.heap.size f
  heap : ∀ (k : Nat) (o : Obj), c.w.heap[k]? = some o → bO c.w.heap.size o ∧ notP o
  low : ∀ (k : Nat) (o : Obj), k < base → c.w.heap[k]? = some o → (Gds.hv k = false ∧ ((∃ x e f, o = .cells x e f) ∨ o = .coro none)) ∨ (Gds.hv k = true ∧ o = .view ⟨k, 0, none⟩ 0)
  bs : base ≤ c.w.heap.size
  hb : ∀ k, Gds.hv k = true → k < base
  sw : @rFr _ Tok.one Gds.sg c.fr = c.fr ∧ c.cs.map (@rFr _ Tok.one Gds.sg) = c.cs
  swh : ∀ (k : Nat) (o : Obj), Gds.hv k = false → c.w.heap[k]? = some o → @rO _ Tok.one Gds.sg o = o
theorem sg_fixed {k : Nat} (h : Gds.sg k = k) : Gds.hv k = false := by
  cases hq : Gds.hv k with
  | false => rfl
  | true => exact absurd h (Gds.sg_hid k hq).1
theorem LI.clean {c : LC} (h : LI P base c) : ∀ (fl : Fl) (t : Nat) a l k, c.fr.tmps[t]? = some (.slice (some a) l k) → ¬ Hid fl base a.block := fun fl t a l k ht hh => by
  have h1 := congrArg Frame.tmps h.sw.1
  have h2 : (c.fr.tmps.map (@rV _ Tok.one Gds.sg))[t]? = some (.slice (some a) l k) := by
    have h1 : c.fr.tmps.map (@rV _ Tok.one Gds.sg) = c.fr.tmps := h1
    rw [h1]; exact ht
  rw [Array.getElem?_map, ht] at h2
  simp only [Option.map_some, rV, Option.some.injEq, Value.slice.injEq, and_true] at h2
  have h3 : Gds.sg a.block = a.block := congrArg Addr.block h2
  have := sg_fixed h3
  rw [hh.2] at this
  cases this
theorem LI.vwo {c : LC} (h : LI P base c) (fl : Fl) : ∀ (k : Nat) (o : Obj), c.w.heap[k]? = some o → VwOk fl base o := fun k o ho a u e hh => by
  subst e
  cases hv : Gds.hv k with
  | false =>
    have h1 := h.swh k _ hv ho
    simp only [rO, Obj.view.injEq, and_true] at h1
    have h3 : Gds.sg a.block = a.block := congrArg Addr.block h1
    have := sg_fixed h3
    rw [hh.2] at this
    cases this
  | true =>
    rcases h.low k _ (h.hb k hv) ho with ⟨q, _⟩ | ⟨_, q⟩
    · rw [hv] at q; cases q
    · cases q; exact ⟨rfl, rfl⟩
theorem bF_good {L : Nat} {f : Fn} (h : bF L f) : GoodFn f := by cases f <;> first | exact h | trivial
theorem LI.good {c : LC} (h : LI P base c) : ∀ (t : Nat) f a b, c.fr.tmps[t]? = some (.func f a b) → GoodFn f := fun t f a b ht => by
  have := h.top.t _ (Array.mem_of_getElem? ht)
  simp only [bV] at this
  exact bF_good this.1
theorem rO_two {c : LC} (h : LI P base c) {π : Nat → Nat} (hπ : π = id ∨ π = Gds.sg) {k : Nat} {o : Obj} (hv : Gds.hv k = false) (ho : c.w.heap[k]? = some o) : @rO _ Tok.one π o = o := by
  rcases hπ with rfl | rfl
  · exact rO_one o
  · exact h.swh k o hv ho
theorem two_vis {π : Nat → Nat} (hπ : π = id ∨ π = Gds.sg) {k : Nat} (hv : Gds.hv k = false) : π k = k := by
  rcases hπ with rfl | rfl
  · rfl
  · exact Gds.sg_vis k hv
theorem two_hid {π : Nat → Nat} (hπ : π = id ∨ π = Gds.sg) {k : Nat} (hv : Gds.hv k = true) : Gds.hv (π k) = true := by
  rcases hπ with rfl | rfl
  · exact hv
  · exact (Gds.sg_hid k hv).2
theorem LI.hr {c : LC} (h : LI P base c) {T : Tok} {ρ π : Nat → Nat} {lim : Nat} (hπ : π = id ∨ π = Gds.sg) (hi : ∀ a b, ρ a = ρ b → a = b) (hl : c.w.heap.size ≤ lim) (hr : ∀ k, k < lim → ρ k = π k) (hf : ∀ k, lim ≤ k → lim ≤ ρ k) (τ : Nat → Question → Nat) :
    @HR _ T base ⟨false, lim, base, some τ⟩ ρ c.w (tpW c.w τ) := by
  have hsz := h.bs
  have vis : ∀ k, base ≤ k → Gds.hv k = false := fun k hk => by
    cases hq : Gds.hv k with
    | false => rfl
    | true => have := h.hb k hq; omega
  have fixO : ∀ (k : Nat) (o : Obj), Gds.hv k = false → c.w.heap[k]? = some o → @rO _ T ρ o = o := fun k o hv ho => by
    have := rO_agr (T := T) (U := Tok.one) (L := c.w.heap.size) (ρ := ρ) (σ := π) (fun k hk => hr k (by omega)) (h.heap k o ho).1 (h.heap k o ho).2
    rw [this]
    exact rO_two h hπ hv ho
  have far : ∀ k, base ≤ k → k < lim → ρ k = k := fun k h1 h2 => by rw [hr k h2]; exact two_vis hπ (vis k h1)
  refine ⟨hi, fun k hk hv => ?_, fun k hk hv => ?_, fun k hk => ?_, fun k hk => ?_, hsz, rfl, fun j hj => ?_, fun k hk => ?_, fun k o hk ho => ?_, fun k o hk ho => ?_, fun k o ho => (h.heap k o ho).2, h.vwo _, fun τ0 h0 => ⟨rfl, Option.some.inj h0, rfl⟩⟩
  · rw [hr k (by omega)]; exact two_vis hπ hv
  · rw [hr k (by omega)]; exact two_hid hπ hv
  · show ρ k < base
    rw [hr k (by omega)]
    cases hv : Gds.hv k with
    | false => rw [two_vis hπ hv]; exact hk
    | true => exact h.hb _ (two_hid hπ hv)
  · show base ≤ ρ k
    by_cases q : k < lim
    · rw [far k hk q]; exact hk
    · have := hf k (by omega); omega
  · have hj : c.w.heap.size + j < lim := hj
    exact far _ (by omega) hj
  · have hk : c.w.heap.size ≤ k := hk
    show c.w.heap.size ≤ ρ k
    by_cases q : k < lim
    · rw [far k (by omega) q]; exact hk
    · have := hf k (by omega); omega
  · have hkl := lt_of_at ho
    rw [fixO k o (vis k hk) ho, far k hk (by omega)]
    exact ho
  · rcases h.low k o hk ho with ⟨hv, hc⟩ | ⟨hv, rfl⟩
    · have e : ρ k = k := by rw [hr k (by omega)]; exact two_vis hπ hv
      refine ⟨o, by rw [e]; exact ho, ?_⟩
      rcases hc with ⟨x, e, f, rfl⟩ | rfl
      · have := fixO k _ hv ho
        simp only [rO, Obj.cells.injEq, and_true] at this
        exact .inl ⟨hv, x, e, f, f, rfl, by rw [this], (fun q => by cases q), (fun _ => rfl)⟩
      · exact .inr (.inl ⟨hv, rfl, by simp, by simp, by simp, by simp⟩)
    · have hv2 : Gds.hv (ρ k) = true := by rw [hr k (by omega)]; exact two_hid hπ hv
      have hb2 := h.hb _ hv2
      have ho2 : c.w.heap[ρ k]? = some c.w.heap[ρ k] := Array.getElem?_eq_getElem (by omega)
      refine ⟨_, ho2, .inr (.inr ⟨hv, 0, rfl, .inr ?_⟩)⟩
      rcases h.low _ _ hb2 ho2 with ⟨q, _⟩ | ⟨_, q⟩
      · rw [hv2] at q; cases q
      · exact q
theorem LI.frs {c : LC} (h : LI P base c) {T : Tok} {ρ π : Nat → Nat} (hπ : π = id ∨ π = Gds.sg) (hr : ∀ k, k < c.w.heap.size → ρ k = π k) : @rFr _ T ρ c.fr = c.fr ∧ c.cs.map (@rFr _ T ρ) = c.cs := by
  rw [rFr_agr (T := T) (U := Tok.one) (σ := π) hr h.top, rFrs_agr (T := T) (U := Tok.one) (σ := π) hr h.rest]
  rcases hπ with rfl | rfl
  · refine ⟨rFr_one _, ?_⟩
    conv => rhs; rw [← List.map_id c.cs]
    exact List.map_congr_left fun x _ => rFr_one x
  · exact h.sw
theorem okI_ren {T : Tok} {ρ : Nat → Nat} {d : Bool} {i : Item} (h : okI P d i) : okI P d (@rI _ T ρ i) := by
  cases i <;> first | exact h | exact h.elim
theorem okT_ren {T : Tok} {ρ : Nat → Nat} {t : Target} (h : okT t) : okT (@rT _ T ρ t) := by
  cases t with
  | fn f c =>
    cases f with
    | yield l => trivial
    | func f => show Gds.gf _; rw [T.phi_fix f h]; exact h
    | method n => show Gds.gn _; rw [T.nu_fix n h]; exact h
    | methodOf t n => show Gds.gn _; rw [T.nu_fix n h]; exact h
    | via t p f b => show Gds.gf _; rw [T.phi_fix f h]; exact h
  | builtin b x y z => show Gds.gb _ ∧ _ ≠ _; rw [T.beta_fix b h.1]; exact h
  | collected r => exact h.elim
  | coroexit r => exact h.elim
  | nil => trivial
theorem FrOK_ren {T : Tok} {ρ : Nat → Nat} {f : Frame} (h : FrOK P f) : FrOK P (@rFr _ T ρ f) := by
  refine ⟨fun i hi => ?_, fun d hd => ?_, h.kd⟩
  · obtain ⟨j, hj, rfl⟩ := List.mem_map.1 hi
    have e : (@rFr _ T ρ f).roundOf.isNone = f.roundOf.isNone := by
      show (f.roundOf.map ρ).isNone = _
      cases f.roundOf <;> rfl
    rw [e]
    exact okI_ren (h.it j hj)
  · obtain ⟨j, hj, rfl⟩ := List.mem_map.1 hd
    rcases h.df j hj with q | ⟨b, q⟩
    · exact .inl (okT_ren q)
    · refine .inr ⟨ρ b, ?_⟩
      show @rT _ T ρ j.target = _
      rw [q]; rfl
theorem Bot_ren {T : Tok} {ρ : Nat → Nat} : ∀ {cs : List Frame} {f : Frame}, Bot f cs → Bot (@rFr _ T ρ f) (cs.map (@rFr _ T ρ))
  | [], f, h => ⟨h.1, by show f.roundOf.map ρ = none; rw [h.2]; rfl⟩
  | c :: cs, f, h => Bot_ren (cs := cs) (f := c) h
theorem CfOK_ren {T : Tok} {ρ : Nat → Nat} {f : Frame} {cs : List Frame} (h : CfOK P f cs) : CfOK P (@rFr _ T ρ f) (cs.map (@rFr _ T ρ)) :=
  ⟨FrOK_ren h.top, fun g hg => by obtain ⟨j, hj, rfl⟩ := List.mem_map.1 hg; exact FrOK_ren (h.rest j hj), Bot_ren h.bot⟩
theorem stepG_main {fr c : Frame} {cs : List Frame} {u : World} : stepG P false (G fr (c :: cs)) u = stepG P true (G fr (c :: cs)) u := by
  obtain ⟨fn, tmps, todo, defers, mode, kind, rd⟩ := fr
  cases mode with
  | run => rfl
  | returning => rfl
  | panicking l => rfl
end
end Go.Proofs.Q
