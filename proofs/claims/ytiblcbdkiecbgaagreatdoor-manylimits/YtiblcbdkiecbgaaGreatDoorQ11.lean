import Derived.Test.YtiblcbdkiecbgaaGreatDoorQ10
namespace Go.Proofs.Q
open Go Go.Conc Go.ConcN
open Go.ConcR (KK stA smA rd wr)
set_option linter.unusedVariables false
set_option linter.unusedSectionVars false
set_option linter.unusedSimpArgs false
def Mild (p : Pm) (j : Nat) (u : Trace) : Prop := ∀ op ∈ u, op.g ≤ j ∧ op.act.touch? = none ∧ (∀ m, op.act ≠ .mark m) ∧ op.act.low p.top
section
variable {p : Pm} {ow oj : Nat → Nat} {j B : Nat} {t u : Trace}
theorem TR.mild (h : TR p ow oj j B t) (hu : Mild p j u) (hB : p.top ≤ B) : TR p ow oj j B (t ++ u) := by
  have old : ∀ {i : Nat} {a : Touch}, touchAt (t ++ u) i = some a → i < t.size ∧ touchAt t i = some a := by
    intro i a ha
    obtain ⟨z, hz, hza⟩ := touch_of ha
    rcases getElem?_append_cases hz with ⟨hi, hz'⟩ | ⟨_, hzu⟩
    · exact ⟨hi, by rw [touchAt_of hz']; exact hza⟩
    · rw [(hu z hzu).2.1] at hza; cases hza
  have gnew : ∀ {i k' : Nat}, t.size ≤ i → (t ++ u).g? i = some k' → k' ≤ j := by
    intro i k' hi hg
    unfold Trace.g? at hg
    obtain ⟨z, hz, rfl⟩ := Option.map_eq_some_iff.1 hg
    rcases getElem?_append_cases hz with ⟨h1, _⟩ | ⟨_, h1⟩
    · omega
    · exact (hu z h1).1
  refine ⟨fun i a k' ha hm hg hne => ?_, fun i a ha hm hg => ?_, fun k' h1 h2 => ?_, fun i k' hg => ?_, seen_app h.seen (fun op hop => MemAct.low_mono hB (hu op hop).2.2.2), fun i a c ha hl hb => h.cseen i a c (old ha).2 hl hb, h.nrel.app fun op hop => (hu op hop).2.2.1 _⟩
  · obtain ⟨q, ha'⟩ := old ha
    rw [g?_old q] at hg
    exact (h.wk i a k' ha' hm hg hne).imp id fun ⟨c, b⟩ => ⟨(heard_old q).2 c, b⟩
  · obtain ⟨q, ha'⟩ := old ha
    rw [g?_old q] at hg
    refine (h.st i a ha' hm hg).imp id fun ⟨b, c, d⟩ => ⟨b, c, fun w1 w2 i' k' hg' hne => ?_⟩
    rcases Nat.lt_or_ge i' t.size with q' | q'
    · rw [g?_old q'] at hg'
      exact hb_app _ (d w1 w2 i' k' hg' hne)
    · obtain ⟨q0, hq0⟩ := h.beg k' (by omega) (gnew q' hg')
      have hl := g_lt hq0
      exact (hb_app u (d w1 w2 q0 k' hq0 hne)).trans (po (by omega) (by rw [g?_old hl]; exact hq0) hg')
  · obtain ⟨q0, hq⟩ := h.beg k' h1 h2
    exact ⟨q0, by rw [g?_old (g_lt hq)]; exact hq⟩
  · rcases Nat.lt_or_ge i t.size with q | q
    · rw [g?_old q] at hg; exact h.gs i k' hg
    · exact gnew q hg
theorem Mild.deaf (hu : Mild p j u) (g : Nat) : Deaf (t ++ u) g = Deaf t g := by
  have := Deaf_append t g u.toList
  simp only [Array.toArray_toList] at this
  rw [this]
  have key : ∀ (l : List MemOp) (d : Nat), (∀ op ∈ l, ∀ m, op.act ≠ .mark m) → l.foldl (deafStep g) d = d := by
    intro l
    induction l with
    | nil => intro d _; rfl
    | cons y l ih =>
      intro d hl
      have hy : deafStep g d y = d := by
        unfold deafStep
        split
        · rename_i q; exact absurd q (hl y (by simp) _)
        · rename_i q; exact absurd q (hl y (by simp) _)
        · rfl
      rw [List.foldl_cons, hy]
      exact ih d fun op hop => hl op (by simp [hop])
  exact key _ _ fun op hop => (hu op (by simpa using hop)).2.2.1
theorem Mild.rel (hu : Mild p j u) {a : Addr} {k r : Nat} (h : RelBy a t k r) : RelBy a (t ++ u) k r := by
  refine h.app fun i hi hg hc => ?_
  obtain ⟨x, hx, _⟩ := hc
  obtain ⟨z, hz, hza⟩ := touch_of hx
  rcases getElem?_append_cases hz with ⟨h1, _⟩ | ⟨_, hzu⟩
  · omega
  · rw [(hu z hzu).2.1] at hza; cases hza
end
section
variable {p : Pm} {Aft Anch Recv : Goroutine → Prop} {nW : Nat} {gs : Array Goroutine} {w : World} {t : Trace} {j : Nat} {D : Nat → WTag} {L : Nat → LL p} {tag : STag} {l0 : LL p} {ow oj : Nat → Nat} {st sm : Int} {sl : Option (Nat × Nat)} {i : Nat} {g : Goroutine}
theorem Sit.wset (h : Sit p Aft Anch Recv nW gs w t j D L tag l0 ow oj st sm) (hi : i < j) {g' : Goroutine} {u : Trace} (hu : Mild p j u) {d' : WTag} {l' : LL p} (hws : WS p Recv ow (i + 1) d' l' g' w) (hmd : MD j (upd D i d') tag st sm)
    (hop : tag.closed = false → 8 ≤ d'.stage) (hcl : tag.closed = true → d' ≠ .park) (hnp : ∀ i0, tag = .sndp i0 → d' ≠ .park) (h1 : ∀ c, D i ≠ .job c) (h2 : ∀ c, d' ≠ .job c) (hdf : (D i).deaf = d'.deaf) (hrel : 6 < d'.stage) :
    Sit p Aft Anch Recv nW (gs.setIfInBounds (i + 1) g') w (t ++ u) j (upd D i d') (upd L i l') tag l0 ow oj st sm := by
  obtain ⟨a, ha, hcs⟩ := h.zero
  refine ⟨by simp [h.size], h.kn, ⟨a, by rw [Array.getElem?_setIfInBounds_ne (by omega)]; exact ha, hcs⟩, fun k hk => ?_, h.wg, hmd, h.ch, fun q k hk => ?_, fun q k hk => ?_, fun i' q k hk => ?_, h.jb.keep rfl h1 h2, h.left, h.few, h.tr.mild hu h.kn.size, by rw [hu.deaf]; exact h.df0, fun k hk => ?_, fun k hk => by rw [hu.deaf]; exact h.dfx k hk, fun k hk hst => ?_, h.own⟩
  · by_cases q : k = i
    · subst q
      exact ⟨g', Array.getElem?_setIfInBounds_self_of_lt (by rw [h.size]; omega), by rw [upd_same, upd_same]; exact hws⟩
    · obtain ⟨o, ho, hwo⟩ := h.wks k hk
      exact ⟨o, by rw [Array.getElem?_setIfInBounds_ne (by omega)]; exact ho, by rw [upd_ne _ _ q, upd_ne _ _ q]; exact hwo⟩
  · unfold upd; split; exact hop q; exact h.op q k hk
  · unfold upd; split; exact hcl q; exact h.cl q k hk
  · unfold upd; split; exact hnp i' q; exact h.np i' q k hk
  · rw [hu.deaf]
    by_cases q : k = i
    · subst q; rw [upd_same, h.dfw k hk]; exact hdf
    · rw [upd_ne _ _ q]; exact h.dfw k hk
  · by_cases q : k = i
    · subst q; rw [upd_same] at hst; omega
    · rw [upd_ne _ _ q] at hst
      obtain ⟨r, hr⟩ := h.rel k hk hst
      exact ⟨r, hu.rel hr⟩
theorem noev {k : Nat} {fn : FuncId} {pos : String} : MemOp.ofEvents k fn pos #[] = #[] := by simp [MemOp.ofEvents]
theorem WS.noSend (I : RecvI p Recv) {k : Nat} {d : WTag} {l : LL p} {o : Goroutine} (h : WS p Recv ow k d l o w) : offersAt o p.J true = [] := by
  rcases h.status I with ⟨rfl, _⟩ | ⟨_, h1⟩
  · cases l <;> simp only [WS] at h
    obtain ⟨g0, z, _, _, rfl⟩ := h
    exact offersAt_parked_recv' _ _ _ _ _
  · exact offersAt_of_not_blocked (by rcases h1 with h1 | ⟨h1, _⟩ <;> rw [h1] <;> simp) _ _
theorem CS.offers {a : Goroutine} (h : CS p Aft Anch Recv ow tag l0 a w) (hs : ∀ i, tag ≠ .sndp i) (b : Bool) : offersAt a p.J b = [] := by
  have hway : ∀ {x : X}, Way p ow 0 (tag.stop p Aft Anch Recv) true false x a w → offersAt a p.J b = [] := fun hw => offersAt_of_not_blocked (by rw [hw.running (stop_run0 tag)]; simp) _ _
  cases tag <;> cases l0 <;> simp only [CS] at h
  case sndp.inr i m => exact absurd rfl (hs i)
  case blk.inr m =>
    obtain ⟨g0, S, wa, rfl, h2, h3, h4⟩ := h
    have := (h4 w h3).2.1
    simp [offersAt, this]
  all_goals exact hway h
theorem Sit.others (h : Sit p Aft Anch Recv nW gs w t j D L tag l0 ow oj st sm) (hi : i < j) {k : Nat} {x : Goroutine} (hx : (gs.setIfInBounds (i + 1) ph)[k]? = some x) :
    (k = i + 1 ∧ x = ph) ∨ (k = 0 ∧ gs[0]? = some x ∧ CS p Aft Anch Recv ow tag l0 x w) ∨ ∃ m, m < j ∧ m ≠ i ∧ k = m + 1 ∧ gs[m + 1]? = some x ∧ WS p Recv ow (m + 1) (D m) (L m) x w := by
  rcases getElem?_stand _ _ _ _ hx with ⟨h1, h2⟩ | ⟨h1, h2⟩
  · exact .inl ⟨h1, h2⟩
  · refine .inr ?_
    rcases Nat.eq_zero_or_pos k with rfl | hpos
    · obtain ⟨a, ha, hcs⟩ := h.zero
      rw [h2] at ha
      cases ha
      exact .inl ⟨rfl, h2, hcs⟩
    · obtain ⟨m, rfl⟩ : ∃ m, k = m + 1 := ⟨k - 1, by omega⟩
      have hm : m < j := by have := (Array.getElem?_eq_some_iff.1 h2).1; rw [h.size] at this; omega
      obtain ⟨o, ho, hwo⟩ := h.wks m hm
      rw [h2] at ho
      cases ho
      exact .inr ⟨m, hm, by omega, rfl, h2, hwo⟩
theorem Sit.meet (h : Sit p Aft Anch Recv nW gs w t j D L tag l0 ow oj st sm) (hi : i < j) {c : Nat} (hc : c < p.n) (htag : tag = .snd c ∨ tag = .sndp c) (hD : D i = .recv ∨ D i = .park) {gw g0 : Goroutine} (hw1 : LvA p false (SSto p Recv c) gw) (h0 : LvA p true (SSnd p Anch (p.n - (c + 1)) (c + 1)) g0)
    {w' : World} {s r : Nat} {tm : Bool} (hA : Aside p.J w w') (hch : w'.heap[p.J]? = some (.chan 0 #[] false s r tm)) {u : Trace} (hu : Mild p j u) {gs' : Array Goroutine} (hsz : gs'.size = gs.size) (hg0 : gs'[0]? = some g0) (hgi : gs'[i + 1]? = some gw) (hgo : ∀ m, m < j → m ≠ i → gs'[m + 1]? = gs[m + 1]?) :
    ∃ L' l0', Sit p Aft Anch Recv nW gs' w' (t ++ u) j (upd D i (.job c)) L' (.snd (c + 1)) l0' ow (upd oj c (i + 1)) st sm ∧ MuLtR p (mu p j (upd D i (.job c)) L' (.snd (c + 1)) l0') (mu p j D L tag l0) := by
  have hkn : KN p w' := h.kn.setJ hA ⟨_, _, _, _, hch⟩
  have d1 := p.dJW; have d2 := p.dJC
  obtain ⟨x, hx⟩ := hw1.way hkn ow (i + 1)
  obtain ⟨x0, hx0⟩ := h0.way hkn ow 0
  have hE : ∀ k, Eff p ow k w w' := fun k => eff_block p.bJ hA hkn
  have hst : 5 ≤ (D i).stage := by rcases hD with q | q <;> rw [q] <;> simp [WTag.stage]
  have hst9 : (D i).stage = 9 := by rcases hD with q | q <;> rw [q] <;> rfl
  have hcl : tag.closed = false := by rcases htag with rfl | rfl <;> rfl
  have hsent : tag.sent p.n = c := by rcases htag with rfl | rfl <;> rfl
  have hoj : oj c = 0 := h.jb.free c (by rw [hsent]; exact Nat.le_refl _)
  have hnj : ∀ c', D i ≠ .job c' := fun c' => by rcases hD with q | q <;> rw [q] <;> simp
  have hMD : MD j (upd D i (.job c)) (.snd (c + 1)) st sm := by
    have := h.md.work hi (d := .job c) hst (by simp [WTag.stage]) (.inl rfl)
    have hpe : (STag.snd (c + 1)).pend = tag.pend := by rcases htag with rfl | rfl <;> rfl
    cases this with
    | opn q1 q2 q3 => rw [← hpe]; exact .opn trivial q2 (fun vs hv => by cases hv)
    | reg q1 => rcases htag with rfl | rfl <;> exact q1.elim
    | last L' q1 => rcases htag with rfl | rfl <;> exact q1.elim
    | sema q1 => rcases htag with rfl | rfl <;> exact q1.elim
    | fin q1 => rcases htag with rfl | rfl <;> exact q1.elim
  obtain ⟨lx, hlx⟩ : ∃ l : LL p, l = .inl x := ⟨_, rfl⟩
  refine ⟨upd L i lx, .inl x0, ⟨by rw [hsz]; exact h.size, hkn, ⟨g0, hg0, hx0⟩, fun k hk => ?_, ?_, hMD, ⟨s, r, tm, hch⟩, fun _ k hk => ?_, (fun q => by cases q), (fun i' q => by cases q), ⟨fun c' hc' => ?_, fun c' hc' => ?_, fun k c' hk e => ?_, hc⟩, ?_, h.few, ?_, ?_, fun k hk => ?_, fun k hk => by rw [hu.deaf]; exact h.dfx k hk, fun k hk hs => ?_, fun b hb => h.own b (by rw [hA.size] at hb; exact hb)⟩, ?_⟩
  · by_cases q : k = i
    · subst q
      exact ⟨gw, hgi, by rw [upd_same, upd_same, hlx]; exact hx⟩
    · obtain ⟨o, ho, hwo⟩ := h.wks k hk
      exact ⟨o, by rw [hgo k hk q]; exact ho, by rw [upd_ne _ _ q, upd_ne _ _ q]; exact hwo.eff (hE 0) (by omega) (fun _ _ => rfl)⟩
  · show w'.heap[p.Wg]? = _
    rw [hA.block p.Wg (fun q => d1 q.symm)]; exact h.wg
  · unfold upd; split; simp [WTag.stage]; exact h.op hcl k hk
  · have hcell : w'.cell? ⟨p.C, c', none⟩ = w.cell? ⟨p.C, c', none⟩ := by unfold World.cell?; rw [hA.block p.C (fun q => d2 q.symm)]
    have hc' : c' < c + 1 := hc'
    by_cases q : c' = c
    · subst q
      exact ⟨by rw [upd_same]; omega, .inl ⟨i, hi, upd_same _ _ _⟩⟩
    · obtain ⟨q1, q2⟩ := h.jb.sent c' (by rw [hsent]; omega)
      refine ⟨by rw [upd_ne _ _ q]; exact q1, q2.imp (fun ⟨k, hk, e⟩ => ⟨k, hk, ?_⟩) fun e => by rw [hcell]; exact e⟩
      rw [upd_ne]
      · exact e
      · intro q'; subst q'; exact hnj _ e
  · have hc' : c + 1 ≤ c' := hc'
    rw [upd_ne _ _ (by omega)]
    exact h.jb.free c' (by rw [hsent]; omega)
  · show c' < c + 1 ∧ _
    by_cases q : k = i
    · subst q
      rw [upd_same] at e
      cases e
      exact ⟨by omega, upd_same _ _ _⟩
    · rw [upd_ne _ _ q] at e
      obtain ⟨q1, q2⟩ := h.jb.mine k c' hk e
      rw [hsent] at q1
      exact ⟨by omega, by rw [upd_ne _ _ (by omega)]; exact q2⟩
  · have := h.left
    rcases htag with rfl | rfl <;> exact this
  · rw [hA.size]
    exact (h.tr.growJ hoj (fun b hb => upd_ne _ _ hb)).mild hu h.kn.size
  · rw [hu.deaf, h.df0]
    rcases htag with rfl | rfl <;> rfl
  · rw [hu.deaf]
    by_cases q : k = i
    · subst q
      rw [upd_same, h.dfw k hk]
      rcases hD with q | q <;> rw [q] <;> rfl
    · rw [upd_ne _ _ q]; exact h.dfw k hk
  · by_cases q : k = i
    · subst q; rw [upd_same] at hs; simp [WTag.stage] at hs
    · rw [upd_ne _ _ q] at hs
      obtain ⟨r, hr⟩ := h.rel k hk hs
      exact ⟨r, hu.rel hr⟩
  · refine Prod.Lex.left _ _ ?_
    have e1 := Vc_upd (D := D) hi (.job c)
    have e2 := St_upd (D := D) hi (.job c)
    have c1 : (D i).cnt = 1 := by unfold WTag.cnt; rw [if_pos hst]
    have c2 : (WTag.job c).cnt = 1 := rfl
    have c3 : (WTag.job c).stage = 10 := rfl
    have ev : Vc j (upd D i (.job c)) = Vc j D := by omega
    unfold Gm
    rw [ev]
    rcases htag with rfl | rfl <;> simp only [STag.phi] <;> omega
theorem Sit.wrecv (I : RecvI p Recv) (h : Sit p Aft Anch Recv nW gs w t j D L tag l0 ow oj st sm) (hi : i < j) (hg : gs[i + 1]? = some g) (hD : D i = .recv) {x : { x : X // Acc (NxW p) x }} (hL : L i = .inl x) (hs : Recv g) :
    Nxt p Aft Anch Recv nW (mu p j D L tag l0) (runT p.P (crowd gs w sl) (i + 1)) t := by
  obtain ⟨z, hst, hjob, hrel⟩ := I.step g hs
  have hstep : stepG p.P (i + 1 == 0) g w = .comm { g with offers := none } #[rcase p.J z] true (.recv true) w #[] := by simpa using hst w h.kn
  obtain ⟨s, r, tm, hch⟩ := h.ch
  have hJ := p.bJ
  have hlow : p.J < p.top := hJ.2
  by_cases hcl : tag.closed = true
  · rw [hcl] at hch
    have hpn : partners (gs.setIfInBounds (i + 1) ph) p.J true = [] := partners_nil fun k o ho => by
      rcases h.others hi ho with ⟨_, rfl⟩ | ⟨_, _, hcs⟩ | ⟨m, _, _, _, _, hwo⟩
      · exact offersAt_ph _ _
      · exact hcs.offers (fun q e => by subst e; cases hcl) _
      · exact hwo.noSend I
    have hrun := crowd_recv_closed (P := p.P) (sl := sl) (i := i + 1) hg hstep hch hpn
    rw [noev, Array.empty_append] at hrun
    obtain ⟨y, hy⟩ := hrel.way h.kn ow (i + 1)
    have hy' : WS p Recv ow (i + 1) .rel (.inl y) ({ g with offers := none }.finishComm p.P #[rcase p.J z] (.recv true) 0 z false) w := hy
    have hsit := h.wset hi (u := #[{ g := i + 1, fn := g.frame.fn, pos := g.frame.place, act := .recvClosed p.J }]) (fun op hop => by simp at hop; subst hop; exact ⟨Nat.succ_le_of_lt hi, rfl, by simp, hlow⟩) (d' := .rel) (l' := .inl y) hy' (h.md.work hi (by rw [hD]; simp [WTag.stage]) (by simp [WTag.stage]) (.inl rfl)) (fun q => by rw [hcl] at q; cases q) (fun _ => by simp) (fun _ _ => by simp) (by rw [hD]; simp) (by simp) (by rw [hD]; rfl) (by simp [WTag.stage])
    refine ⟨_, w, sl, _, j, _, _, tag, l0, ow, oj, st, sm, hrun, hsit, ?_⟩
    refine Prod.Lex.left _ _ ?_
    have e1 := Vc_upd (D := D) hi .rel
    have e2 := St_upd (D := D) hi .rel
    have c1 : (D i).cnt = 1 := by rw [hD]; rfl
    have c2 : WTag.rel.cnt = 1 := rfl
    have c3 : (D i).stage = 9 := by rw [hD]; rfl
    have c4 : WTag.rel.stage = 7 := rfl
    have ev : Vc j (upd D i .rel) = Vc j D := by omega
    unfold Gm
    rw [ev]
    omega
  · have hcl : tag.closed = false := by simpa using hcl
    rw [hcl] at hch
    by_cases hsp : ∃ c, tag = .sndp c
    · obtain ⟨c, rfl⟩ := hsp
      obtain ⟨a, ha, hcs⟩ := h.zero
      have hcs' := hcs
      cases l0 <;> simp only [CS] at hcs
      obtain ⟨hc, g2, zj, hg2, rfl, hcont⟩ := hcs
      have hp1 : partners (gs.setIfInBounds (i + 1) ph) p.J true = [(0, 0)] := by
        rw [partners_one (j := 0) (g := parked g2 #[scase p.J (p.jobV c) zj] .send) (by rw [Array.getElem?_setIfInBounds_ne (by omega)]; exact ha) (fun k o hk ho => ?_), offersAt_parked_send]
        · simp
        · rcases h.others hi ho with ⟨_, rfl⟩ | ⟨h0, _⟩ | ⟨m, _, _, _, _, hwo⟩
          · exact offersAt_ph _ _
          · exact absurd h0 hk
          · exact hwo.noSend I
      have hrun := crowd_recv_meets (P := p.P) (sl := sl) (i := i + 1) (j := 0) hg hstep hch (by omega) ha hp1
      rw [noev, Array.empty_append] at hrun
      have hAs : Aside p.J w (w.setChan p.J 0 #[] false (s + 1) (r + 1) tm) := by
        refine ⟨rfl, rfl, rfl, by simp [World.setChan], fun k hk => ?_⟩
        simp [World.setChan, Array.getElem?_setIfInBounds_ne (fun q : p.J = k => hk q.symm)]
      have hch' : (w.setChan p.J 0 #[] false (s + 1) (r + 1) tm).heap[p.J]? = some (.chan 0 #[] false (s + 1) (r + 1) tm) := by
        have : p.J < w.heap.size := by have := h.kn.size; omega
        simp [World.setChan, this]
      obtain ⟨gs', u, hrun', hu, q1, q2, q3, q4⟩ : ∃ gs' u, runT p.P (crowd gs w sl) (i + 1) = (.next (crowd gs' (w.setChan p.J 0 #[] false (s + 1) (r + 1) tm) sl), u) ∧ Mild p j u ∧ gs'.size = gs.size ∧ gs'[0]? = some (g2.finishComm p.P #[scase p.J (p.jobV c) zj] .send 0 undef false) ∧ gs'[i + 1]? = some ({ g with offers := none }.finishComm p.P #[rcase p.J z] (.recv true) 0 (p.jobV c) true) ∧ ∀ m, m < j → m ≠ i → gs'[m + 1]? = gs[m + 1]? := by
        refine ⟨_, _, hrun, fun op hop => ?_, by simp, ?_, ?_, fun m hm hne => ?_⟩
        · simp at hop
          rcases hop with rfl | rfl | rfl | rfl <;> exact ⟨by first | exact Nat.zero_le _ | exact Nat.succ_le_of_lt hi, rfl, by simp, hlow⟩
        · rw [Array.getElem?_setIfInBounds_ne (by omega), Array.getElem?_setIfInBounds_self_of_lt (by rw [h.size]; omega)]
        · rw [Array.getElem?_setIfInBounds_self_of_lt (by simp [h.size]; omega)]
        · rw [Array.getElem?_setIfInBounds_ne (by omega), Array.getElem?_setIfInBounds_ne (by omega)]
      obtain ⟨L', l0', hsit, hmu⟩ := h.meet hi hc (.inr rfl) (.inl hD) (hjob c hc) hcont hAs hch' hu q1 q2 q3 q4
      exact ⟨_, _, sl, _, j, _, L', _, l0', ow, _, st, sm, hrun', hsit, hmu⟩
    · have hsp : ∀ c, tag ≠ .sndp c := fun c q => hsp ⟨c, q⟩
      have hrun := crowd_waits (P := p.P) (sl := sl) (i := i + 1) hg hstep (fun cc hcc => by
        simp at hcc
        subst hcc
        refine ⟨made_recv z hch, ?_⟩
        have hpn : partners (gs.setIfInBounds (i + 1) ph) p.J true = [] := partners_nil fun k o ho => by
          rcases h.others hi ho with ⟨_, rfl⟩ | ⟨_, _, hcs⟩ | ⟨m, _, _, _, _, hwo⟩
          · exact offersAt_ph _ _
          · exact hcs.offers hsp _
          · exact hwo.noSend I
        simp [ways, rcase, hch, hpn])
      rw [noev] at hrun
      have hsit := h.wset hi (g' := parked { g with offers := none } #[rcase p.J z] (.recv true)) (u := #[]) (fun op hop => by simp at hop) (d' := .park) (l' := .inr 0) ⟨g, z, hs, ⟨hst, hjob, hrel⟩, rfl⟩ (h.md.work hi (by rw [hD]; simp [WTag.stage]) (by simp [WTag.stage]) (.inl rfl)) (fun _ => by simp [WTag.stage]) (fun q => by rw [hcl] at q; cases q) (fun c q => absurd q (hsp c)) (by rw [hD]; simp) (by simp) (by rw [hD]; rfl) (by simp [WTag.stage])
      refine ⟨_, w, sl, _, j, _, _, tag, l0, ow, oj, st, sm, hrun, hsit, ?_⟩
      have e1 := Vc_upd (D := D) hi .park
      have e2 := St_upd (D := D) hi .park
      have c1 : (D i).cnt = 1 := by rw [hD]; rfl
      have c2 : WTag.park.cnt = 1 := rfl
      have c3 : (D i).stage = 9 := by rw [hD]; rfl
      have c4 : WTag.park.stage = 9 := rfl
      have ev : Vc j (upd D i .park) = Vc j D := by omega
      have es' : (sumTo j fun a => (upd D i .park a).stage) = sumTo j fun a => (D a).stage := by omega
      unfold mu Gm
      rw [ev, es']
      refine Prod.Lex.right _ (Prod.Lex.left _ _ (oneOf_upd0 L ?_ hi))
      rw [hL]
      exact .near
end
end Go.Proofs.Q
namespace Go.Proofs.Q
open Go Go.Conc Go.ConcN
open Go.ConcR (KK stA smA rd wr)
set_option linter.unusedVariables false
set_option linter.unusedSectionVars false
set_option linter.unusedSimpArgs false
section
variable {p : Pm} {ow oj : Nat → Nat} {j B : Nat} {t : Trace}
theorem TR.priv0 (h : TR p ow oj j B t) {S : Nat → Prop} {w w' : World} (hB : B = w.heap.size) {es : Array Event} (hp : Priv p S w w' es) (hS : ∀ b, S b → p.top ≤ b ∧ ow b = 0) (ht : p.top ≤ w.heap.size)
    (ho' : ∀ b, w.heap.size ≤ b → ow b = 0) (fn : FuncId) (pos : String) : TR p ow oj j w'.heap.size (t ++ MemOp.ofEvents 0 fn pos es) := by
  subst hB
  have hsz := hp.size
  have hC := p.bC; have hJ := p.bJ; have hW := p.bWg
  have hmem : ∀ op ∈ MemOp.ofEvents 0 fn pos es, ∃ e ∈ es, op = { g := 0, fn, pos, act := .ofEvent e } := fun op hop => Go.Conc.mem_ofEvents hop
  have own : ∀ b, ((S b ∨ w.heap.size ≤ b) ∧ b < w'.heap.size) → p.top ≤ b ∧ ow b = 0 := by
    rintro b ⟨h1 | h1, h2⟩
    · exact hS b h1
    · exact ⟨by omega, ho' b h1⟩
  refine h.app0 (fun op hop => by obtain ⟨e, _, rfl⟩ := hmem op hop; rfl) hsz (fun op hop x hx hm => .inr ?_) (fun op hop => by obtain ⟨e, he, rfl⟩ := hmem op hop; exact ((hp.evs e he).low (by omega)).1) (fun op hop => ?_) (fun op hop x a hx hl hb => ?_)
  · obtain ⟨e, he, rfl⟩ := hmem op hop
    rcases (hp.evs e he).touch hx hm with ⟨b, hb, ⟨a, h1, h2⟩ | h1⟩ | ⟨h1, h2⟩
    · have := own b hb
      rw [h1]
      refine ⟨fun k hk q => ?_, fun q => ?_, fun _ q => ?_⟩
      · rcases q with ⟨q, _⟩ | ⟨_, q⟩
        · omega
        · rw [h2] at q; omega
      · have q : a.block = p.Wg := q; omega
      · have q : p.RdB a.block := q; have := q.1; omega
    · have := own b hb
      rw [h1]
      refine ⟨fun k hk q => ?_, fun q => ?_, fun _ q => ?_⟩
      · have q := q.2; omega
      · have q : b = p.J := q; omega
      · have q : p.RdB b := q; have := q.1; omega
    · exact ⟨fun k hk q => own_rd q h1, rd_sh h1, fun q => by rw [h2] at q; cases q⟩
  · obtain ⟨e, he, rfl⟩ := hmem op hop
    have := ((hp.evs e he).low (by omega)).2.2.2 (stA p.Wg)
    obtain ⟨loc, wr, sy⟩ := e
    cases loc with
    | mark m => intro q; simp only [MemAct.ofEvent, MemAct.mark.injEq] at q; exact this (by simp [q])
    | obj r => cases wr <;> cases sy <;> simp [MemAct.ofEvent]
    | _ => simp [MemAct.ofEvent]
  · obtain ⟨e, he, rfl⟩ := hmem op hop
    rcases (hp.evs e he).touch hx (by rw [hl]; rfl) with ⟨b, hb', ⟨a', h1, h2⟩ | h1⟩ | h1
    · rw [hl] at h1
      cases h1
      have := own b hb'
      omega
    · rw [hl] at h1; cases h1
    · rw [hl] at h1
      exact absurd hb h1.1.2.1
def GrpE (p : Pm) (e : Event) : Prop := (∃ a wr, e = ⟨.cell a, wr, true⟩ ∧ a.block = p.Wg) ∨ (∃ wr, e = ⟨.obj p.J, wr, true⟩) ∨ ∃ m, e = ConcR.mk m ∧ (m = .disable ∨ m = .enable ∨ m = .acquire (stA p.Wg) ∨ m = .read (smA p.Wg) ∨ m = .write (smA p.Wg))
theorem TR.grp0 (h : TR p ow oj j B t) {es : Array Event} (hes : ∀ e ∈ es, GrpE p e) (hB : p.top ≤ B) (fn : FuncId) (pos : String) : TR p ow oj j B (t ++ MemOp.ofEvents 0 fn pos es) := by
  have hW := p.bWg; have hJ := p.bJ
  have hWC := p.dWC
  have hmem : ∀ op ∈ MemOp.ofEvents 0 fn pos es, ∃ e ∈ es, op = { g := 0, fn, pos, act := .ofEvent e } := fun op hop => Go.Conc.mem_ofEvents hop
  refine h.app0 (fun op hop => by obtain ⟨e, _, rfl⟩ := hmem op hop; rfl) (Nat.le_refl _) (fun op hop x hx hm => .inl ?_) (fun op hop => ?_) (fun op hop => ?_) (fun op hop x a hx hl hb => ?_)
  · obtain ⟨e, he, rfl⟩ := hmem op hop
    rcases hes e he with ⟨a, wr, rfl, ha⟩ | ⟨wr, rfl⟩ | ⟨m, rfl, hm'⟩
    · simp only [MemAct.ofEvent, MemAct.touch?, Option.some.injEq] at hx
      subst hx
      exact ⟨ha, by simp⟩
    · cases wr <;> simp only [MemAct.ofEvent, MemAct.touch?, Option.some.injEq] at hx
      · subst hx
        exact ⟨rfl, by simp⟩
      · cases hx
    · rcases hm' with rfl | rfl | rfl | rfl | rfl <;> simp only [ConcR.mk, MemAct.ofEvent, MemAct.touch?, Option.some.injEq] at hx <;> first | (subst hx; exact ⟨rfl, by simp⟩) | cases hx
  · obtain ⟨e, he, rfl⟩ := hmem op hop
    rcases hes e he with ⟨a, wr, rfl, ha⟩ | ⟨wr, rfl⟩ | ⟨m, rfl, hm'⟩
    · show a.block < B; omega
    · cases wr <;> (show p.J < B; omega)
    · rcases hm' with rfl | rfl | rfl | rfl | rfl <;> first | trivial | (show p.Wg < B; omega)
  · obtain ⟨e, he, rfl⟩ := hmem op hop
    rcases hes e he with ⟨a, wr, rfl, ha⟩ | ⟨wr, rfl⟩ | ⟨m, rfl, hm'⟩
    · simp [MemAct.ofEvent]
    · cases wr <;> simp [MemAct.ofEvent]
    · rcases hm' with rfl | rfl | rfl | rfl | rfl <;> simp [ConcR.mk, MemAct.ofEvent]
  · obtain ⟨e, he, rfl⟩ := hmem op hop
    rcases hes e he with ⟨a', wr, rfl, ha⟩ | ⟨wr, rfl⟩ | ⟨m, rfl, hm'⟩
    · simp only [MemAct.ofEvent, MemAct.touch?, Option.some.injEq] at hx
      subst hx
      simp only [Loc.cell.injEq] at hl
      subst hl
      exact absurd (ha.symm.trans hb) hWC
    · cases wr <;> simp only [MemAct.ofEvent, MemAct.touch?, Option.some.injEq] at hx
      · subst hx; cases hl
      · cases hx
    · rcases hm' with rfl | rfl | rfl | rfl | rfl <;> simp only [ConcR.mk, MemAct.ofEvent, MemAct.touch?, Option.some.injEq] at hx <;> first | cases hx; done | skip
      all_goals
        subst hx
        simp only [Loc.cell.injEq] at hl
        subst hl
        exact absurd hb hWC
end
section
variable {p : Pm} {Aft Anch Recv : Goroutine → Prop} {nW : Nat} {gs : Array Goroutine} {w : World} {t : Trace} {j : Nat} {D : Nat → WTag} {L : Nat → LL p} {tag : STag} {l0 : LL p} {ow oj : Nat → Nat} {st sm : Int} {sl : Option (Nat × Nat)} {a : Goroutine}
theorem Sit.cstep (I : RecvI p Recv) (h : Sit p Aft Anch Recv nW gs w t j D L tag l0 ow oj st sm) {a' : Goroutine} {w' : World} {es : Array Event} (ha : gs[0]? = some a) (hgo : stepG p.P true a w = .go a' w' es)
    (e : Eff p ow 0 w w') {tag' : STag} {l' : LL p} (hcs : CS p Aft Anch Recv ow tag' l' a' w') {st' sm' : Int} (hwg : WgA p w' st' sm') (hch : w'.heap[p.J]? = w.heap[p.J]?) (hC : w'.heap[p.C]? = w.heap[p.C]?)
    (hmd : MD j D tag' st' sm') (hcl : tag'.closed = tag.closed) (hsp : ∀ i, tag' ≠ .sndp i) (hsent : tag'.sent p.n = tag.sent p.n) (hleft : tag'.left = tag.left)
    (htr : TR p ow oj j w'.heap.size (t ++ MemOp.ofEvents 0 a.frame.fn a.frame.place es)) (hdf : deafBehind tag.deaf es = tag'.deaf)
    (hlt : tag'.phi p.n (Vc j D) < tag.phi p.n (Vc j D) ∨ (tag'.phi p.n (Vc j D) = tag.phi p.n (Vc j D) ∧ LLt p l' l0)) : Nxt p Aft Anch Recv nW (mu p j D L tag l0) (runT p.P (crowd gs w sl) 0) t := by
  obtain ⟨s, r, tm, hc⟩ := h.ch
  have hops : ∀ op ∈ MemOp.ofEvents 0 a.frame.fn a.frame.place es, op.g = 0 := fun op hop => by obtain ⟨e, _, rfl⟩ := Go.Conc.mem_ofEvents hop; rfl
  have hrun := runT_crowd_go (P := p.P) (sl := sl) (i := 0) ha (by simpa using hgo)
  refine ⟨_, w', sl, _, j, D, L, tag', l', ow, oj, st', sm', hrun, ?_, ?_⟩
  · refine ⟨by simp [h.size], e.kn, ⟨a', get_map_set_same _ _ _ (by rw [h.size]; omega), hcs⟩, fun k hk => ?_, hwg, hmd, ⟨s, r, tm, by rw [hch, hc, hcl]⟩, fun q k hk => h.op (hcl ▸ q) k hk, fun q k hk => h.cl (hcl ▸ q) k hk, fun i' q k hk => absurd q (hsp i'), by rw [hsent]; exact h.jb.stay hC, by rw [hleft]; exact h.left, h.few, htr, ?_, fun k hk => ?_, fun k hk => ?_, fun k hk hst => ?_, fun b hb => h.own b (Nat.le_trans e.size hb)⟩
    · obtain ⟨o, ho, hwo⟩ := h.wks k hk
      have hwo' := hwo.eff e (ow' := ow) (by omega) (fun _ _ => rfl)
      refine ⟨o, ?_, hwo'⟩
      rw [get_map_set _ _ _ _ (by omega), ho, Option.map_some, hwo'.woken I (fun hp => ?_)]
      by_cases hcl' : tag.closed = true
      · exact absurd hp (h.cl hcl' k hk)
      · exact ⟨s, r, tm, by rw [hch, hc]; simp [hcl']⟩
    · rw [Deaf_own, h.df0]; exact hdf
    · rw [Deaf_other t (by omega) _ hops]; exact h.dfw k hk
    · rw [Deaf_other t (by omega) _ hops]; exact h.dfx k hk
    · obtain ⟨r, hr⟩ := h.rel k hk hst
      exact ⟨r, hr.appOther hops (by omega)⟩
  · unfold mu Gm
    rcases hlt with h1 | ⟨h1, h2⟩
    · exact Prod.Lex.left _ _ (by omega)
    · rw [h1]
      exact Prod.Lex.right _ (Prod.Lex.right _ h2)
theorem Sit.cpriv (I : RecvI p Recv) (h : Sit p Aft Anch Recv nW gs w t j D L tag l0 ow oj st sm) (ha : gs[0]? = some a) {x : { x : X // Acc (NxW p) x }} (hL : l0 = .inl x) (hx : Way p ow 0 (tag.stop p Aft Anch Recv) true false x.1 a w) (hs : ¬ x.1.stops p) (hsp : ∀ i, tag ≠ .sndp i) (hws : ∀ x' g' w', Way p ow 0 (tag.stop p Aft Anch Recv) true false x'.1 g' w' → CS p Aft Anch Recv ow tag (.inl x') g' w') :
    Nxt p Aft Anch Recv nW (mu p j D L tag l0) (runT p.P (crowd gs w sl) 0) t := by
  obtain ⟨x, hacc⟩ := x
  obtain ⟨xm, xS, S, xg, xw⟩ := x
  obtain ⟨e1, e2, e3, lv, rl, own⟩ := hx
  simp only at e1 e2 e3 lv rl own
  subst e1 e2 e3
  cases lv with
  | stop q => exact absurd q hs
  | step hr q1 q2 =>
    obtain ⟨g', w', es, hgo, hp, hqe⟩ := q1 w rl
    have hlv := q2 w g' w' es rl hgo
    have hsz := rl.size
    have htop := h.kn.size
    have hC := p.bC; have hW := p.bWg; have hJ := p.bJ
    have keep : ∀ b, p.base ≤ b → b < p.top → w'.heap[b]? = w.heap[b]? := fun b h1 h2 => hp.rest b h1 (by omega) (fun q => by have := (own b q).1; omega)
    have hE : Eff p ow 0 w w' := ⟨hp.kn, hp.size, fun b h1 h2 h3 => hp.rest b (by omega) h2 (fun q => h3 (own b q).2.2), hp.low⟩
    have hacc' := hlv.acc
    have hw' : Way p ow 0 (tag.stop p Aft Anch Recv) true false ⟨true, tag.stop p Aft Anch Recv, more S w w', g', w'⟩ g' w' := ⟨rfl, rfl, rfl, hlv, Rl.refl hp.kn, fun b hb => by
      have := hp.size
      rcases hb with hb | ⟨hb1, hb2⟩
      · obtain ⟨q1, q2, q3⟩ := own b hb
        exact ⟨q1, by show b < w'.heap.size; omega, q3⟩
      · exact ⟨by omega, hb2, h.own b hb1⟩⟩
    refine h.cstep I ha hgo hE (tag' := tag) (l' := .inl ⟨⟨true, tag.stop p Aft Anch Recv, more S w w', g', w'⟩, hacc'⟩) (hws ⟨_, hacc'⟩ _ _ hw') (st' := st) (sm' := sm) ?_ (keep p.J hJ.1 hJ.2) (keep p.C hC.1 hC.2) h.md rfl hsp rfl rfl ?_ ?_ (.inr ⟨rfl, ?_⟩)
    · show w'.heap[p.Wg]? = _
      rw [keep p.Wg hW.1 hW.2]; exact h.wg
    · exact h.tr.priv0 rfl hp (fun b hb => ⟨(own b hb).1, (own b hb).2.2⟩) htop h.own _ _
    · exact deafBehind_still (fun e he => ⟨((hp.evs e he).low (by have := hp.size; omega)).2.1, ((hp.evs e he).low (by have := hp.size; omega)).2.2.1⟩) _
    · rw [hL]
      exact .way ⟨hs, w, es, rl, hgo, rfl, rfl, rfl⟩
theorem Sit.cmark (I : RecvI p Recv) (h : Sit p Aft Anch Recv nW gs w t j D L tag l0 ow oj st sm) {a' : Goroutine} {es : Array Event} (ha : gs[0]? = some a) (hgo : stepG p.P true a w = .go a' w es) {tag' : STag} (hlv : LvA p true (tag'.stop p Aft Anch Recv) a') (hcs : ∀ x g' w', Way p ow 0 (tag'.stop p Aft Anch Recv) true false x.1 g' w' → CS p Aft Anch Recv ow tag' (.inl x) g' w')
    (hmd : MD j D tag' st sm) (hcl : tag'.closed = tag.closed) (hsp : ∀ i, tag' ≠ .sndp i) (hsent : tag'.sent p.n = tag.sent p.n) (hleft : tag'.left = tag.left) (hes : ∀ e ∈ es, GrpE p e) (hdf : deafBehind tag.deaf es = tag'.deaf) (hlt : tag'.phi p.n (Vc j D) < tag.phi p.n (Vc j D)) : Nxt p Aft Anch Recv nW (mu p j D L tag l0) (runT p.P (crowd gs w sl) 0) t := by
  obtain ⟨x, hx⟩ := hlv.way h.kn ow 0
  exact h.cstep I ha hgo (eff_same h.kn) (hcs x _ _ hx) h.wg rfl rfl hmd hcl hsp hsent hleft (h.tr.grp0 hes h.kn.size _ _) hdf (.inl hlt)
theorem Sit.cwg (I : RecvI p Recv) (h : Sit p Aft Anch Recv nW gs w t j D L tag l0 ow oj st sm) {a' : Goroutine} {w' : World} {es : Array Event} (ha : gs[0]? = some a) (hgo : stepG p.P true a w = .go a' w' es) (hA : Aside p.Wg w w') {st' sm' : Int} (hwg : WgA p w' st' sm') {tag' : STag} (hlv : LvA p true (tag'.stop p Aft Anch Recv) a') (hcs : ∀ x g' w', Way p ow 0 (tag'.stop p Aft Anch Recv) true false x.1 g' w' → CS p Aft Anch Recv ow tag' (.inl x) g' w')
    (hmd : MD j D tag' st' sm') (hcl : tag'.closed = tag.closed) (hsp : ∀ i, tag' ≠ .sndp i) (hsent : tag'.sent p.n = tag.sent p.n) (hleft : tag'.left = tag.left) (hes : ∀ e ∈ es, GrpE p e) (hdf : deafBehind tag.deaf es = tag'.deaf) (hlt : tag'.phi p.n (Vc j D) < tag.phi p.n (Vc j D)) : Nxt p Aft Anch Recv nW (mu p j D L tag l0) (runT p.P (crowd gs w sl) 0) t := by
  have hkn := h.kn.setWg hA hwg
  have d1 := p.dJW; have d2 := p.dWC
  obtain ⟨x, hx⟩ := hlv.way hkn ow 0
  exact h.cstep I ha hgo (eff_block p.bWg hA hkn) (hcs x _ _ hx) hwg (hA.block p.J d1) (hA.block p.C (fun q => d2 q.symm)) hmd hcl hsp hsent hleft (by rw [hA.size]; exact h.tr.grp0 hes h.kn.size _ _) hdf (.inl hlt)
end
end Go.Proofs.Q
namespace Go.Proofs.Q
open Go Go.Conc Go.ConcN
open Go.ConcR (KK stA smA rd wr)
set_option linter.unusedVariables false
set_option linter.unusedSectionVars false
set_option linter.unusedSimpArgs false
def AnchI (p : Pm) (Aft Anch : Goroutine → Prop) : Prop := ∀ g, Anch g → LvA p true (SW1 p Aft Anch) g
theorem AnchI.go {p : Pm} {Aft Anch : Goroutine → Prop} (h : AnchI p Aft Anch) {g : Goroutine} (hl : LvA p true (fun g _ => Anch g) g) : LvA p true (SW1 p Aft Anch) g := fun w hw =>
  (hl w hw).mono (fun S g w hw ha => (h g ha w hw).wide fun b hb => hb.elim) hw
section
variable {p : Pm} {Aft Anch Recv : Goroutine → Prop} {nW : Nat} {gs : Array Goroutine} {w : World} {t : Trace} {j : Nat} {D : Nat → WTag} {L : Nat → LL p} {tag : STag} {l0 : LL p} {ow oj : Nat → Nat} {st sm : Int} {sl : Option (Nat × Nat)} {a : Goroutine} {r : Nat}
theorem MD.open_st (h : MD j D tag st sm) (ho : tag.isOpen) : st = (((Vc j D + tag.pend : Nat) : Int) * KK) ∧ sm = 0 ∧ OpenSt j D := by
  cases h with
  | opn q1 q2 q3 => exact ⟨rfl, rfl, q2⟩
  | reg q1 => cases tag <;> first | exact q1.elim | exact ho.elim
  | last L' q1 => cases tag <;> first | exact q1.elim | exact ho.elim
  | sema q1 => cases tag <;> first | exact q1.elim | exact ho.elim
  | fin q1 => cases tag <;> first | exact q1.elim | exact ho.elim
theorem MD.to_open {tag' : STag} (h : MD j D tag st sm) (ho : tag.isOpen) (ho' : tag'.isOpen) (hp : tag'.pend = tag.pend) (hv : ∀ vs, tag' = .w2 vs → Vc j D ≤ vs ∧ 1 ≤ vs ∧ vs < 1000) : MD j D tag' st sm := by
  obtain ⟨h1, h2, h3⟩ := h.open_st ho
  subst h1 h2
  rw [← hp]
  exact .opn ho' h3 hv
theorem Sit.few' (h : Sit p Aft Anch Recv nW gs w t j D L tag l0 ow oj st sm) : Vc j D < 1000 := by
  have := Vc_le j D; have := h.left; have := h.few; omega
theorem grp_mark {m : Mark} (h : m = .disable ∨ m = .enable ∨ m = .acquire (stA p.Wg) ∨ m = .read (smA p.Wg) ∨ m = .write (smA p.Wg)) : ∀ e ∈ #[ConcR.mk m], GrpE p e := fun e he => by
  simp at he; subst he; exact .inr (.inr ⟨m, rfl, h⟩)
theorem grp_rd : ∀ e ∈ #[rd (stA p.Wg)], GrpE p e := fun e he => by simp at he; subst he; exact .inl ⟨_, _, rfl, rfl⟩
theorem grp_rw : ∀ e ∈ #[rd (stA p.Wg), wr (stA p.Wg)], GrpE p e := fun e he => by
  simp at he; rcases he with rfl | rfl <;> exact .inl ⟨_, _, rfl, rfl⟩
theorem grp_sem : ∀ e ∈ semEvents (smA p.Wg), GrpE p e := fun e he => by
  simp [semEvents] at he
  rcases he with rfl | rfl | rfl | rfl
  · exact .inr (.inr ⟨.disable, rfl, .inl rfl⟩)
  · exact .inl ⟨_, _, rfl, rfl⟩
  · exact .inl ⟨_, _, rfl, rfl⟩
  · exact .inr (.inr ⟨.enable, rfl, .inr (.inl rfl)⟩)
theorem Sit.ckd (I : RecvI p Recv) (h : Sit p Aft Anch Recv nW gs w t j D L (.kd r) l0 ow oj st sm) (ha : gs[0]? = some a) (hs : SKd p Anch Recv (r + 1) a w) : Nxt p Aft Anch Recv nW (mu p j D L (.kd r) l0) (runT p.P (crowd gs w sl) 0) t := by
  obtain ⟨_, a', hgo, hlv⟩ := (SKd_succ p Anch Recv r a w).1 hs
  exact h.cmark I ha hgo (tag' := .a1 r) hlv (fun _ _ _ q => q) (h.md.to_open trivial trivial rfl (fun _ q => by cases q)) rfl (by simp) rfl rfl (grp_mark (.inl rfl)) rfl (by simp only [STag.phi]; omega)
theorem Sit.ca1 (I : RecvI p Recv) (h : Sit p Aft Anch Recv nW gs w t j D L (.a1 r) l0 ow oj st sm) (ha : gs[0]? = some a) (hs : SA1 p Anch Recv r a w) : Nxt p Aft Anch Recv nW (mu p j D L (.a1 r) l0) (runT p.P (crowd gs w sl) 0) t := by
  obtain ⟨h1, h2, h3⟩ := h.md.open_st trivial
  have h1 : st = (((Vc j D : Nat) : Int) * KK) := h1
  subst h1 h2
  obtain ⟨a', hgo, hz, hn⟩ := hs.2 (Vc j D) h.few' h.wg
  have hA := aside_setCell w (stA p.Wg) (.int .u64 (((Vc j D : Nat) + 1) * KK))
  have hwg := h.wg.setSt (((Vc j D : Nat) + 1) * KK)
  have hmd : ∀ tag' : STag, tag'.isOpen → tag'.pend = 1 → (∀ vs, tag' ≠ .w2 vs) → MD j D tag' (((Vc j D : Nat) + 1) * KK) 0 := fun tag' q1 q2 q3 => by
    have : ((((Vc j D : Nat) : Int) + 1) * KK) = (((Vc j D + tag'.pend : Nat) : Int) * KK) := by rw [q2]; simp
    rw [this]
    exact .opn q1 h3 (fun vs q => absurd q (q3 vs))
  by_cases hv : Vc j D = 0
  · exact h.cwg I ha hgo hA hwg (tag' := .rm r) (hz hv) (fun _ _ _ q => q) (hmd _ trivial rfl (by simp)) rfl (by simp) rfl rfl grp_rw rfl (by simp only [STag.phi]; omega)
  · exact h.cwg I ha hgo hA hwg (tag' := .ke r) (hn hv) (fun _ _ _ q => q) (hmd _ trivial rfl (by simp)) rfl (by simp) rfl rfl grp_rw rfl (by simp only [STag.phi]; omega)
theorem Sit.crm (I : RecvI p Recv) (h : Sit p Aft Anch Recv nW gs w t j D L (.rm r) l0 ow oj st sm) (ha : gs[0]? = some a) (hs : SRm p Anch Recv r a w) : Nxt p Aft Anch Recv nW (mu p j D L (.rm r) l0) (runT p.P (crowd gs w sl) 0) t := by
  obtain ⟨_, a', hgo, hlv⟩ := hs
  exact h.cmark I ha hgo (tag' := .ke r) hlv (fun _ _ _ q => q) (h.md.to_open trivial trivial rfl (fun _ q => by cases q)) rfl (by simp) rfl rfl (grp_mark (.inr (.inr (.inr (.inl rfl))))) rfl (by simp only [STag.phi]; omega)
theorem Sit.cke (I : RecvI p Recv) (h : Sit p Aft Anch Recv nW gs w t j D L (.ke r) l0 ow oj st sm) (ha : gs[0]? = some a) (hs : SKe p Anch Recv r a w) : Nxt p Aft Anch Recv nW (mu p j D L (.ke r) l0) (runT p.P (crowd gs w sl) 0) t := by
  obtain ⟨_, a', hgo, hlv⟩ := hs
  exact h.cmark I ha hgo (tag' := .go r) hlv (fun _ _ _ q => q) (h.md.to_open trivial trivial rfl (fun _ q => by cases q)) rfl (by simp) rfl rfl (grp_mark (.inr (.inl rfl))) rfl (by simp only [STag.phi]; omega)
theorem sumTo_last (f : Nat → Nat) (j : Nat) : sumTo (j + 1) f = sumTo j f + f j := rfl
theorem Sit.cgo (I : RecvI p Recv) (h : Sit p Aft Anch Recv nW gs w t j D L (.go r) l0 ow oj st sm) (ha : gs[0]? = some a) (hs : SGo p Anch Recv r a w) : Nxt p Aft Anch Recv nW (mu p j D L (.go r) l0) (runT p.P (crowd gs w sl) 0) t := by
  obtain ⟨_, a', child, hgo, hcr, hch, hlv⟩ := hs
  obtain ⟨h1, h2, h3⟩ := h.md.open_st trivial
  have h1 : st = (((Vc j D + 1 : Nat) : Int) * KK) := h1
  subst h1 h2
  have hrun := runT_crowd_spawn (P := p.P) (sl := sl) (i := 0) ha (by simpa using hgo)
  obtain ⟨x, hx⟩ := hch.way h.kn ow (j + 1)
  obtain ⟨lx, hlx⟩ : ∃ l : LL p, l = .inl x := ⟨_, rfl⟩
  obtain ⟨x0, hx0⟩ := hlv.way h.kn ow 0
  obtain ⟨s, rr, tm, hc⟩ := h.ch
  rw [noev] at hrun
  obtain ⟨tag', hst', ho', hp', hw2, hcl', hsp', hse', hle', hde', hcs', hphi⟩ : ∃ tag' : STag, tag'.stop p Aft Anch Recv = SKd p Anch Recv r ∧ tag'.isOpen ∧ tag'.pend = 0 ∧ (∀ vs, tag' ≠ .w2 vs) ∧ tag'.closed = false ∧ (∀ i, tag' ≠ .sndp i) ∧ tag'.sent p.n = 0 ∧ tag'.left = r ∧ tag'.deaf = 0 ∧ (∀ x g' w', Way p ow 0 (tag'.stop p Aft Anch Recv) true false x.1 g' w' → CS p Aft Anch Recv ow tag' (.inl x) g' w') ∧ tag'.phi p.n (Vc j D + 1) + 9 < (STag.go r).phi p.n (Vc j D) := by
    cases r with
    | zero => exact ⟨.snd 0, by simp [STag.stop, SKd], trivial, rfl, by simp, rfl, by simp, rfl, rfl, rfl, fun _ _ _ q => q, by simp only [STag.phi]; omega⟩
    | succ r => exact ⟨.kd r, rfl, trivial, rfl, by simp, rfl, by simp, rfl, rfl, rfl, fun _ _ _ q => q, by simp only [STag.phi]; omega⟩
  have hne : ∀ k, k < j → k ≠ j := fun k hk => by omega
  have hVc : Vc (j + 1) (upd D j .recv) = Vc j D + 1 := by
    unfold Vc
    rw [sumTo_last, upd_same]
    have : (sumTo j fun i => (upd D j .recv i).cnt) = sumTo j fun i => (D i).cnt := sumTo_congr fun i hi => by rw [upd_ne _ _ (hne i hi)]
    rw [this]; rfl
  have hSt : (sumTo (j + 1) fun i => (upd D j .recv i).stage) = (sumTo j fun i => (D i).stage) + 9 := by
    rw [sumTo_last, upd_same]
    have : (sumTo j fun i => (upd D j .recv i).stage) = sumTo j fun i => (D i).stage := sumTo_congr fun i hi => by rw [upd_ne _ _ (hne i hi)]
    rw [this]; rfl
  have hu : Mild p (j + 1) #[{ g := 0, fn := a.frame.fn, pos := a.frame.place, act := .go gs.size }, { g := gs.size, fn := child.frame.fn, pos := a.frame.place, act := .start }] := fun op hop => by
    simp at hop
    rcases hop with rfl | rfl
    · exact ⟨Nat.zero_le _, rfl, by simp, trivial⟩
    · exact ⟨by rw [h.size]; exact Nat.le_refl _, rfl, by simp, trivial⟩
  have hopen := h.op rfl
  refine ⟨_, w, sl, _, j + 1, upd D j .recv, upd L j lx, tag', .inl x0, ow, oj, ((Vc j D + 1 : Nat) : Int) * KK, 0, hrun, ?_, ?_⟩
  · have e : (t ++ ((#[] : Array MemOp).push { g := 0, fn := a.frame.fn, pos := a.frame.place, act := .go gs.size }).push { g := gs.size, fn := child.frame.fn, pos := a.frame.place, act := .start }) = t ++ #[{ g := 0, fn := a.frame.fn, pos := a.frame.place, act := .go gs.size }, { g := gs.size, fn := child.frame.fn, pos := a.frame.place, act := .start }] := by simp
    rw [e]
    have hsz := h.size
    refine ⟨by simp [hsz], h.kn, ⟨a', ?_, hcs' x0 _ _ (by rw [hst']; exact hx0)⟩, fun k hk => ?_, h.wg, ?_, ⟨s, rr, tm, by rw [hcl']; exact hc⟩, fun _ k hk => ?_, (fun q => by rw [hcl'] at q; cases q), fun i q => absurd q (hsp' i), ⟨fun c hc => ?_, fun c hc => ?_, fun k c hk e => ?_, ?_⟩, ?_, h.few, ?_, ?_, fun k hk => ?_, fun k hk => ?_, fun k hk hst => ?_, h.own⟩
    · rw [Array.getElem?_push, if_neg (by simp [hsz])]
      rw [Array.getElem?_setIfInBounds_self_of_lt (by rw [hsz]; omega)]
    · rcases Nat.lt_or_ge k j with q | q
      · obtain ⟨o, ho, hwo⟩ := h.wks k q
        refine ⟨o, ?_, by rw [upd_ne _ _ (hne k q), upd_ne _ _ (hne k q)]; exact hwo⟩
        rw [Array.getElem?_push, if_neg (by simp [hsz]; omega), Array.getElem?_setIfInBounds_ne (by omega)]
        exact ho
      · obtain rfl : k = j := by omega
        refine ⟨child, ?_, by rw [upd_same, upd_same, hlx]; exact hx⟩
        rw [Array.getElem?_push, if_pos (by simp [hsz])]
    · have : (((Vc j D + 1 : Nat) : Int) * KK) = (((Vc (j + 1) (upd D j .recv) + tag'.pend : Nat) : Int) * KK) := by rw [hVc, hp']
      rw [this]
      refine .opn ho' (fun k hk => ?_) (fun vs q => absurd q (hw2 vs))
      unfold upd
      split
      · exact .inl (by simp [WTag.stage])
      · exact h3 k (by omega)
    · unfold upd
      split
      · simp [WTag.stage]
      · exact hopen k (by omega)
    · rw [hse'] at hc; omega
    · exact h.jb.free c (Nat.zero_le _)
    · rcases Nat.lt_or_ge k j with q | q
      · rw [upd_ne _ _ (hne k q)] at e
        have := (h.jb.mine k c q e).1
        exact absurd this (Nat.not_lt_zero _)
      · obtain rfl : k = j := by omega
        rw [upd_same] at e; cases e
    · rw [hse']; exact Nat.zero_le _
    · have := h.left
      have hl : (STag.go r).left = r + 1 := rfl
      rw [hle']; omega
    · exact h.tr.fork ⟨rfl, by rw [hsz]⟩ ⟨hsz, rfl⟩ h.df0
    · rw [hu.deaf, hde']; exact h.df0
    · rw [hu.deaf]
      rcases Nat.lt_or_ge k j with q | q
      · rw [upd_ne _ _ (hne k q)]; exact h.dfw k q
      · obtain rfl : k = j := by omega
        rw [upd_same]; exact h.dfx (k + 1) (by omega)
    · rw [hu.deaf]; exact h.dfx k (by omega)
    · rcases Nat.lt_or_ge k j with q | q
      · rw [upd_ne _ _ (hne k q)] at hst
        have := hopen k q
        omega
      · obtain rfl : k = j := by omega
        rw [upd_same] at hst
        simp [WTag.stage] at hst
  · refine Prod.Lex.left _ _ ?_
    unfold Gm
    rw [hVc, hSt]
    omega
end
end Go.Proofs.Q
