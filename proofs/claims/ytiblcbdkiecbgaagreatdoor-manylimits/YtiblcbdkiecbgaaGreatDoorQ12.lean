import Derived.Test.YtiblcbdkiecbgaaGreatDoorQ11
namespace Go.Proofs.Q
open Go Go.Conc Go.ConcN
open Go.ConcR (KK stA smA rd wr)
set_option linter.unusedVariables false
set_option linter.unusedSectionVars false
set_option linter.unusedSimpArgs false
section
variable {p : Pm} {Aft Anch Recv : Goroutine → Prop} {nW : Nat} {gs : Array Goroutine} {w : World} {t : Trace} {j : Nat} {D : Nat → WTag} {L : Nat → LL p} {tag : STag} {l0 : LL p} {ow oj : Nat → Nat} {st sm : Int} {sl : Option (Nat × Nat)} {a : Goroutine} {r c : Nat}
theorem Sit.others0 (h : Sit p Aft Anch Recv nW gs w t j D L tag l0 ow oj st sm) {k : Nat} {x : Goroutine} (hx : (gs.setIfInBounds 0 ph)[k]? = some x) :
    (k = 0 ∧ x = ph) ∨ ∃ m, m < j ∧ k = m + 1 ∧ gs[m + 1]? = some x ∧ WS p Recv ow (m + 1) (D m) (L m) x w := by
  rcases getElem?_stand _ _ _ _ hx with ⟨h1, h2⟩ | ⟨h1, h2⟩
  · exact .inl ⟨h1, h2⟩
  · obtain ⟨m, rfl⟩ : ∃ m, k = m + 1 := ⟨k - 1, by omega⟩
    have hm : m < j := by have := (Array.getElem?_eq_some_iff.1 h2).1; rw [h.size] at this; omega
    obtain ⟨o, ho, hwo⟩ := h.wks m hm
    rw [h2] at ho
    cases ho
    exact .inr ⟨m, hm, rfl, h2, hwo⟩
theorem WS.recvs (I : RecvI p Recv) {k : Nat} {d : WTag} {l : LL p} {o : Goroutine} (h : WS p Recv ow k d l o w) : (d ≠ .park ∧ offersAt o p.J false = []) ∨ (d = .park ∧ ∃ g0 z, Recv g0 ∧ RecvS p Recv g0 z ∧ o = parked { g0 with offers := none } #[rcase p.J z] (.recv true)) := by
  rcases h.status I with ⟨rfl, _⟩ | ⟨h0, h1⟩
  · cases l <;> simp only [WS] at h
    exact .inr ⟨rfl, h⟩
  · exact .inl ⟨h0, offersAt_of_not_blocked (by rcases h1 with h1 | ⟨h1, _⟩ <;> rw [h1] <;> simp) _ _⟩
theorem Sit.csnd (I : RecvI p Recv) (h : Sit p Aft Anch Recv nW gs w t j D L (.snd c) l0 ow oj st sm) (ha : gs[0]? = some a) (hc : c < p.n) {x : { x : X // Acc (NxW p) x }} (hL : l0 = .inl x) (hs : SSnd p Anch (p.n - c) c a w) : Nxt p Aft Anch Recv nW (mu p j D L (.snd c) l0) (runT p.P (crowd gs w sl) 0) t := by
  rw [show p.n - c = (p.n - (c + 1)) + 1 by omega] at hs
  obtain ⟨_, g2, z, hg2, hst, hcont⟩ := hs
  have hstep : stepG p.P (0 == 0) a w = .comm g2 #[scase p.J (p.jobV c) z] true .send w #[] := hst
  obtain ⟨s, r, tm, hch⟩ := h.ch
  have hch : w.heap[p.J]? = some (.chan 0 #[] false s r tm) := hch
  have hlow : p.J < p.top := p.bJ.2
  by_cases hpk : ∃ m, m < j ∧ D m = .park
  · obtain ⟨m, hm, hDm⟩ := hpk
    have hne : partners (gs.setIfInBounds 0 ph) p.J false ≠ [] := by
      obtain ⟨o, ho, hwo⟩ := h.wks m hm
      rcases hwo.recvs I with ⟨q, _⟩ | ⟨_, g0, z0, _, _, rfl⟩
      · exact absurd hDm q
      · intro q
        have : (m + 1, 0) ∈ partners (gs.setIfInBounds 0 ph) p.J false := mem_partners.2 ⟨_, by rw [Array.getElem?_setIfInBounds_ne (by omega)]; exact ho, by rw [offersAt_parked_recv]; simp⟩
        rw [q] at this
        cases this
    obtain ⟨k, gj, zj, shj, d, hk0, hgk, hrun⟩ := crowd_send_meets_some (P := p.P) (sl := sl) (i := 0) ha hstep hch hne (fun k q hm => by
      obtain ⟨o, ho, hq⟩ := mem_partners.1 hm
      rcases h.others0 ho with ⟨_, rfl⟩ | ⟨m', hm', rfl, hg', hwo⟩
      · rw [offersAt_ph] at hq; cases hq
      · rcases hwo.recvs I with ⟨_, e⟩ | ⟨_, g0, z0, _, _, rfl⟩
        · rw [e] at hq; cases hq
        · rw [offersAt_parked_recv] at hq
          simp at hq
          exact ⟨hq, by omega, _, z0, _, hg'⟩)
    rw [noev, Array.empty_append] at hrun
    obtain ⟨i, rfl⟩ : ∃ i, k = i + 1 := ⟨k - 1, by omega⟩
    have hi : i < j := by have := (Array.getElem?_eq_some_iff.1 hgk).1; rw [h.size] at this; omega
    obtain ⟨o, ho, hwo⟩ := h.wks i hi
    rw [hgk] at ho
    cases ho
    rcases hwo.recvs I with ⟨_, e⟩ | ⟨hDi, g0, z0, hr0, ⟨hs1, hs2, hs3⟩, hpe⟩
    · rw [offersAt_parked_recv] at e; simp at e
    · obtain ⟨e1, e2, e3, e4⟩ : gj.frame = g0.frame ∧ gj.callers = g0.callers ∧ gj.dying = g0.dying ∧ (zj = z0 ∧ shj = .recv true) := by
        have q := congrArg Goroutine.frame hpe
        have q2 := congrArg Goroutine.callers hpe
        have q3 := congrArg Goroutine.dying hpe
        have q4 := congrArg Goroutine.offers hpe
        simp only [parked, Option.some.injEq, Prod.mk.injEq] at q q2 q3 q4
        refine ⟨q, q2, q3, ?_, q4.2⟩
        have := q4.1
        simp [rcase] at this
        exact this
      obtain ⟨rfl, rfl⟩ := e4
      have efin : gj.finishComm p.P #[rcase p.J zj] (.recv true) 0 (p.jobV c) true = { g0 with offers := none }.finishComm p.P #[rcase p.J zj] (.recv true) 0 (p.jobV c) true := by
        simp only [Goroutine.finishComm, e1, e2, e3]
      have hAs : Aside p.J w ((w.at d).setChan p.J 0 #[] false (s + 1) (r + 1) tm) := by
        refine ⟨rfl, rfl, rfl, by simp [World.setChan, World.at], fun k hk => ?_⟩
        simp [World.setChan, World.at, Array.getElem?_setIfInBounds_ne (fun q : p.J = k => hk q.symm)]
      have hch' : ((w.at d).setChan p.J 0 #[] false (s + 1) (r + 1) tm).heap[p.J]? = some (.chan 0 #[] false (s + 1) (r + 1) tm) := by
        have : p.J < w.heap.size := by have := h.kn.size; omega
        simp [World.setChan, World.at, this]
      obtain ⟨gs', u, hrun', hu, q1, q2, q3, q4⟩ : ∃ gs' u, runT p.P (crowd gs w sl) 0 = (.next (crowd gs' ((w.at d).setChan p.J 0 #[] false (s + 1) (r + 1) tm) sl), u) ∧ Mild p j u ∧ gs'.size = gs.size ∧ gs'[0]? = some (g2.finishComm p.P #[scase p.J (p.jobV c) z] .send 0 undef false) ∧ gs'[i + 1]? = some ({ g0 with offers := none }.finishComm p.P #[rcase p.J zj] (.recv true) 0 (p.jobV c) true) ∧ ∀ m, m < j → m ≠ i → gs'[m + 1]? = gs[m + 1]? := by
        refine ⟨_, _, hrun, fun op hop => ?_, by simp, ?_, ?_, fun m hm hne => ?_⟩
        · simp at hop
          rcases hop with rfl | rfl | rfl | rfl <;> exact ⟨by first | exact Nat.zero_le _ | exact Nat.succ_le_of_lt hi, rfl, by simp, hlow⟩
        · rw [Array.getElem?_setIfInBounds_self_of_lt (by simp [h.size])]
        · rw [Array.getElem?_setIfInBounds_ne (by omega), Array.getElem?_setIfInBounds_self_of_lt (by rw [h.size]; omega), efin]
        · rw [Array.getElem?_setIfInBounds_ne (by omega), Array.getElem?_setIfInBounds_ne (by omega)]
      obtain ⟨L', l0', hsit, hmu⟩ := h.meet hi hc (.inl rfl) (.inr hDi) (hs2 c hc) hcont hAs hch' hu q1 q2 q3 q4
      exact ⟨_, _, sl, _, j, _, L', _, l0', ow, _, st, sm, hrun', hsit, hmu⟩
  · have hpk : ∀ m, m < j → D m ≠ .park := fun m hm q => hpk ⟨m, hm, q⟩
    have hrun := crowd_waits (P := p.P) (sl := sl) (i := 0) ha hstep (fun cc hcc => by
      simp at hcc
      subst hcc
      refine ⟨made_send _ z hch, ?_⟩
      have hpn : partners (gs.setIfInBounds 0 ph) p.J false = [] := partners_nil fun k o ho => by
        rcases h.others0 ho with ⟨_, rfl⟩ | ⟨m, hm, _, _, hwo⟩
        · exact offersAt_ph _ _
        · rcases hwo.recvs I with ⟨_, e⟩ | ⟨e, _⟩
          · exact e
          · exact absurd e (hpk m hm)
      simp [ways, scase, hch, hpn])
    rw [noev] at hrun
    refine ⟨_, w, sl, _, j, D, L, .sndp c, .inr 0, ow, oj, st, sm, hrun, ?_, ?_⟩
    · rw [Array.append_empty]
      refine ⟨by simp [h.size], h.kn, ⟨_, Array.getElem?_setIfInBounds_self_of_lt (by rw [h.size]; omega), hc, g2, z, hg2, rfl, hcont⟩, fun k hk => ?_, h.wg, h.md.to_open trivial trivial rfl (fun _ q => by cases q), h.ch, h.op, h.cl, fun _ _ => hpk, h.jb, h.left, h.few, h.tr, h.df0, h.dfw, h.dfx, h.rel, h.own⟩
      obtain ⟨o, ho, hwo⟩ := h.wks k hk
      exact ⟨o, by rw [Array.getElem?_setIfInBounds_ne (by omega)]; exact ho, hwo⟩
    · refine Prod.Lex.left _ _ ?_
      unfold Gm
      simp only [STag.phi]
      omega
theorem Sit.ccl (I : RecvI p Recv) (h : Sit p Aft Anch Recv nW gs w t j D L (.snd c) l0 ow oj st sm) (ha : gs[0]? = some a) (hc : p.n ≤ c) (hs : SSnd p Anch (p.n - c) c a w) : Nxt p Aft Anch Recv nW (mu p j D L (.snd c) l0) (runT p.P (crowd gs w sl) 0) t := by
  rw [show p.n - c = 0 by omega] at hs
  obtain ⟨_, hmw, hs⟩ := hs
  obtain ⟨s, r, tm, hch⟩ := h.ch
  have hch : w.heap[p.J]? = some (.chan 0 #[] false s r tm) := hch
  obtain ⟨a', hgo, hra, hlv⟩ := hs s r tm hch
  have hcn : c = p.n := by have := h.jb.le; have h2 : (STag.snd c).sent p.n = c := rfl; omega
  subst hcn
  have hlow : p.J < w.heap.size := by have := h.kn.size; have := p.bJ; omega
  have hAs : Aside p.J w (w.setChan p.J 0 #[] true s r tm) := by
    refine ⟨rfl, rfl, rfl, by simp [World.setChan], fun k hk => ?_⟩
    simp [World.setChan, Array.getElem?_setIfInBounds_ne (fun q : p.J = k => hk q.symm)]
  have hch' : (w.setChan p.J 0 #[] true s r tm).heap[p.J]? = some (.chan 0 #[] true s r tm) := by simp [World.setChan, hlow]
  have hkn : KN p (w.setChan p.J 0 #[] true s r tm) := h.kn.setJ hAs ⟨_, _, _, _, hch'⟩
  have hE : Eff p ow 0 w (w.setChan p.J 0 #[] true s r tm) := eff_block p.bJ hAs hkn
  have d1 := p.dJW; have d2 := p.dJC
  obtain ⟨x0, hx0⟩ := hlv.way hkn ow 0
  have hrun := runT_crowd_go (P := p.P) (sl := sl) (i := 0) ha (by simpa using hgo)
  have hops : ∀ op ∈ MemOp.ofEvents 0 a.frame.fn a.frame.place #[⟨.obj p.J, false, true⟩, ⟨.obj p.J, true, true⟩], op.g = 0 := fun op hop => by obtain ⟨e, _, rfl⟩ := Go.Conc.mem_ofEvents hop; rfl
  have hwk : (mayWake p.P a && a'.status != .blocked && a'.status != .waiting) = true := by simp [hmw, hra]
  have key : ∀ k, ∃ dl : WTag × LL p, k < j → (∃ g, ((gs.map (woken p.P a a' (w.setChan p.J 0 #[] true s r tm))).setIfInBounds 0 a')[k + 1]? = some g ∧ WS p Recv ow (k + 1) dl.1 dl.2 g (w.setChan p.J 0 #[] true s r tm)) ∧ dl.1.stage = (D k).stage ∧ dl.1 ≠ .park ∧ dl.1.deaf = (D k).deaf ∧ (∀ c, dl.1 = .job c ↔ D k = .job c) := by
    intro k
    by_cases hk : k < j
    case neg => exact ⟨(.recv, .inr 0), fun q => absurd q hk⟩
    obtain ⟨o, ho, hwo⟩ := h.wks k hk
    have hget := get_map_set (gs := gs) (woken p.P a a' (w.setChan p.J 0 #[] true s r tm)) 0 a' (k + 1) (by omega)
    rcases hwo.recvs I with ⟨hnp, _⟩ | ⟨hDk, g0, z, hr0, hrs, rfl⟩
    · have hwo' := hwo.eff hE (ow' := ow) (by omega) (fun _ _ => rfl)
      refine ⟨(D k, L k), fun _ => ⟨⟨o, ?_, hwo'⟩, rfl, hnp, rfl, fun _ => Iff.rfl⟩⟩
      rw [hget, ho, Option.map_some, hwo'.woken I (fun q => absurd q hnp)]
    · have hrec : Recv { parked { g0 with offers := none } #[rcase p.J z] (.recv true) with status := .running } := I.same g0 _ hr0 rfl rfl rfl rfl
      have hlv' : LvA p false (fun g _ => Recv g) { parked { g0 with offers := none } #[rcase p.J z] (.recv true) with status := .running } := fun w1 _ => .stop fun _ _ => hrec
      obtain ⟨x, hx⟩ := hlv'.way hkn ow (k + 1)
      refine ⟨(.recv, .inl x), fun _ => ⟨⟨_, ?_, hx⟩, by rw [hDk]; rfl, by simp, by rw [hDk]; rfl, fun c => by rw [hDk]; simp⟩⟩
      rw [hget, ho, Option.map_some]
      unfold woken
      rw [if_pos hwk, again_recv_closed hch']
  obtain ⟨DL, hDL⟩ := Classical.axiomOfChoice key
  have hstg : ∀ k, k < j → (DL k).1.stage = (D k).stage := fun k hk => (hDL k hk).2.1
  have hcnt : ∀ k, k < j → (DL k).1.cnt = (D k).cnt := fun k hk => by unfold WTag.cnt; rw [hstg k hk]
  have hV : Vc j (fun k => (DL k).1) = Vc j D := sumTo_congr hcnt
  have hS : (sumTo j fun i => (DL i).1.stage) = sumTo j fun i => (D i).stage := sumTo_congr hstg
  obtain ⟨h1, h2, h3⟩ := h.md.open_st trivial
  refine ⟨_, _, sl, _, j, fun k => (DL k).1, fun k => (DL k).2, .wkd, .inl x0, ow, oj, st, sm, hrun, ?_, ?_⟩
  · refine ⟨by simp [h.size], hkn, ⟨a', get_map_set_same _ _ _ (by rw [h.size]; omega), hx0⟩, fun k hk => (hDL k hk).1, ?_, ?_, ⟨s, r, tm, hch'⟩, (fun q => by cases q), fun _ k hk => (hDL k hk).2.2.1, (fun i q => by cases q), ⟨fun c hc => ?_, h.jb.free, fun k c hk e => ?_, Nat.le_refl _⟩, h.left, h.few, ?_, ?_, fun k hk => ?_, fun k hk => ?_, fun k hk hst => ?_, fun b hb => h.own b (by rw [hAs.size] at hb; exact hb)⟩
    · show (w.setChan p.J 0 #[] true s r tm).heap[p.Wg]? = _
      rw [hAs.block p.Wg (fun q => d1 q.symm)]; exact h.wg
    · subst h1 h2
      have : (((Vc j D + (STag.snd p.n).pend : Nat) : Int) * KK) = (((Vc j (fun k => (DL k).1) + STag.wkd.pend : Nat) : Int) * KK) := by rw [hV]; rfl
      rw [this]
      exact .opn trivial (fun k hk => by rw [hstg k hk]; exact h3 k hk) (fun _ q => by cases q)
    · have hcell : (w.setChan p.J 0 #[] true s r tm).cell? ⟨p.C, c, none⟩ = w.cell? ⟨p.C, c, none⟩ := by unfold World.cell?; rw [hAs.block p.C (fun q => d2 q.symm)]
      obtain ⟨q1, q2⟩ := h.jb.sent c hc
      exact ⟨q1, q2.imp (fun ⟨k, hk, e⟩ => ⟨k, hk, ((hDL k hk).2.2.2.2 c).2 e⟩) fun e => by rw [hcell]; exact e⟩
    · exact h.jb.mine k c hk (((hDL k hk).2.2.2.2 c).1 e)
    · rw [hAs.size]
      refine h.tr.grp0 (fun e he => ?_) h.kn.size _ _
      simp at he
      rcases he with rfl | rfl <;> exact .inr (.inl ⟨_, rfl⟩)
    · rw [Deaf_own, h.df0]; rfl
    · rw [Deaf_other t (by omega) _ hops, (hDL k hk).2.2.2.1]; exact h.dfw k hk
    · rw [Deaf_other t (by omega) _ hops]; exact h.dfx k hk
    · obtain ⟨r, hr⟩ := h.rel k hk (by rw [← hstg k hk]; exact hst)
      exact ⟨r, hr.appOther hops (by omega)⟩
  · refine Prod.Lex.left _ _ ?_
    unfold Gm
    rw [hV, hS]
    simp only [STag.phi]
    omega
theorem Sit.cwkd (I : RecvI p Recv) (A : AnchI p Aft Anch) (h : Sit p Aft Anch Recv nW gs w t j D L .wkd l0 ow oj st sm) (ha : gs[0]? = some a) (hs : SWkd p Anch a w) : Nxt p Aft Anch Recv nW (mu p j D L .wkd l0) (runT p.P (crowd gs w sl) 0) t := by
  obtain ⟨_, a', hgo, hlv⟩ := hs
  exact h.cmark I ha hgo (tag' := .w1) (A.go hlv) (fun _ _ _ q => q) (h.md.to_open trivial trivial rfl (fun _ q => by cases q)) rfl (by simp) rfl rfl (grp_mark (.inl rfl)) rfl (by simp only [STag.phi]; omega)
theorem Sit.cw1 (I : RecvI p Recv) (h : Sit p Aft Anch Recv nW gs w t j D L .w1 l0 ow oj st sm) (ha : gs[0]? = some a) (hs : SW1 p Aft Anch a w) : Nxt p Aft Anch Recv nW (mu p j D L .w1 l0) (runT p.P (crowd gs w sl) 0) t := by
  have hmd := h.md
  obtain ⟨h1, h2, h3⟩ := h.md.open_st trivial
  have h1 : st = (((Vc j D : Nat) : Int) * KK) := h1
  subst h1 h2
  obtain ⟨a', hgo, hz, hn⟩ := hs.2 (Vc j D) h.few' h.wg
  by_cases hv : Vc j D = 0
  · refine h.cmark I ha hgo (tag' := .wke) (hz hv) (fun _ _ _ q => q) ?_ rfl (by simp) rfl rfl grp_rd rfl (by simp only [STag.phi]; omega)
    rw [hv]
    have e : (((0 : Nat) : Int) * KK) = 0 := by simp
    rw [e]
    refine .fin trivial fun k hk => (h3 k hk).resolve_left fun q => ?_
    have := le_sumTo (f := fun i => (D i).cnt) hk
    have h2 : (D k).cnt = 1 := by unfold WTag.cnt; rw [if_pos q]
    unfold Vc at hv
    omega
  · exact h.cmark I ha hgo (tag' := .w2 (Vc j D)) (hn hv) (fun _ _ _ q => q) (hmd.to_open trivial trivial rfl (fun vs q => by cases q; exact ⟨Nat.le_refl _, by omega, h.few'⟩)) rfl (by simp) rfl rfl grp_rd rfl (by simp only [STag.phi]; omega)
theorem Sit.cw2 (I : RecvI p Recv) (A : AnchI p Aft Anch) {vs : Nat} (h : Sit p Aft Anch Recv nW gs w t j D L (.w2 vs) l0 ow oj st sm) (ha : gs[0]? = some a) (hs : SW2 p Aft Anch vs a w) : Nxt p Aft Anch Recv nW (mu p j D L (.w2 vs) l0) (runT p.P (crowd gs w sl) 0) t := by
  have hmd := h.md
  have hvs : Vc j D ≤ vs ∧ 1 ≤ vs := by
    have := h.md
    cases this with
    | opn _ _ q3 => exact ⟨(q3 vs rfl).1, (q3 vs rfl).2.1⟩
    | reg q => exact q.elim
    | last _ q => exact q.elim
    | fin q => exact q.elim
    | sema q => exact q.elim
  obtain ⟨h1, h2, h3⟩ := h.md.open_st trivial
  have h1 : st = (((Vc j D : Nat) : Int) * KK) := h1
  subst h1 h2
  obtain ⟨hy, hn⟩ := hs.2 (Vc j D) h.few' h.wg
  by_cases hv : Vc j D = vs
  · obtain ⟨a', hgo, hlv⟩ := hy hv
    exact h.cwg I ha hgo (aside_setCell w (stA p.Wg) _) (h.wg.setSt _) (tag' := .w2m) hlv (fun _ _ _ q => q) (.reg trivial h3 (by omega)) rfl (by simp) rfl rfl grp_rw rfl (by simp only [STag.phi]; omega)
  · obtain ⟨a', hgo, hlv⟩ := hn hv
    exact h.cmark I ha hgo (tag' := .w1) (A.go hlv) (fun _ _ _ q => q) (hmd.to_open trivial trivial rfl (fun _ q => by cases q)) rfl (by simp) rfl rfl grp_rd rfl (by simp only [STag.phi]; omega)
theorem MD.to_reg {tag' : STag} (h : MD j D tag st sm) (ho : tag.isReg) (ho' : tag'.isReg) (hb : sm = 1 → tag' ≠ .blk) : MD j D tag' st sm := by
  cases h with
  | opn q1 => cases tag <;> first | exact ho.elim | exact q1.elim
  | reg q1 q2 q3 => exact .reg ho' q2 q3
  | last L' q1 q2 q3 q4 => exact .last L' ho' q2 q3 q4
  | sema q1 q2 q3 => exact .sema ho' (hb rfl) q3
  | fin q1 => cases tag <;> first | exact ho.elim | exact q1.elim
theorem Sit.cw2m (I : RecvI p Recv) (h : Sit p Aft Anch Recv nW gs w t j D L .w2m l0 ow oj st sm) (ha : gs[0]? = some a) (hs : SW2m p Aft a w) : Nxt p Aft Anch Recv nW (mu p j D L .w2m l0) (runT p.P (crowd gs w sl) 0) t := by
  obtain ⟨_, a', hgo, hlv⟩ := hs
  exact h.cmark I ha hgo (tag' := .w3) hlv (fun _ _ _ q => q) (h.md.to_reg trivial trivial (fun _ => by simp)) rfl (by simp) rfl rfl (grp_mark (.inr (.inr (.inr (.inr rfl))))) rfl (by simp only [STag.phi]; omega)
theorem Sit.cw3 (I : RecvI p Recv) (h : Sit p Aft Anch Recv nW gs w t j D L .w3 l0 ow oj st sm) (ha : gs[0]? = some a) {x : { x : X // Acc (NxW p) x }} (hL : l0 = .inl x) (hx : Way p ow 0 (SW3 p Aft) true false x.1 a w) (hs : x.1.stops p) : Nxt p Aft Anch Recv nW (mu p j D L .w3 l0) (runT p.P (crowd gs w sl) 0) t := by
  have hs' : ∀ w1, Rl p x.1.S x.1.w w1 → SW3 p Aft a w1 := fun w1 q => by have := hs w1 q; rw [hx.s, hx.gg] at this; exact this
  obtain ⟨_, hoff, hblk, htak⟩ := hs' w hx.rl
  by_cases hsm : sm = 0
  · subst hsm
    refine h.cstep I ha (hblk ⟨st, h.wg⟩) (eff_same h.kn) (tag' := .blk) (l' := .inr 0) ⟨a, x.1.S, x.1.w, rfl, hx.own, hx.rl, hs'⟩ h.wg rfl rfl (h.md.to_reg trivial trivial (fun q => by cases q)) rfl (by simp) rfl rfl ?_ rfl (.inr ⟨rfl, by rw [hL]; exact .near⟩)
    exact h.tr.grp0 (fun e he => by simp at he) h.kn.size _ _
  · have hmd := h.md
    cases hmd with
    | opn q => exact q.elim
    | reg => exact absurd rfl hsm
    | last => exact absurd rfl hsm
    | fin q => exact q.elim
    | sema q1 q2 q3 =>
      obtain ⟨a', hgo, hlv⟩ := htak h.wg
      exact h.cwg I ha hgo (aside_setCell w (smA p.Wg) _) (h.wg.setSm 0) (tag' := .w4) hlv (fun _ _ _ q => q) (.fin trivial q3) rfl (by simp) rfl rfl grp_sem rfl (by simp only [STag.phi]; omega)
theorem MD.fin_st (h : MD j D tag st sm) (ho : tag.isFin) : st = 0 ∧ sm = 0 ∧ ∀ i, i < j → (D i).stage = 1 := by
  cases h with
  | opn q1 => cases tag <;> first | exact ho.elim | exact q1.elim
  | reg q1 => cases tag <;> first | exact ho.elim | exact q1.elim
  | last L' q1 => cases tag <;> first | exact ho.elim | exact q1.elim
  | sema q1 => cases tag <;> first | exact ho.elim | exact q1.elim
  | fin q1 q2 => exact ⟨rfl, rfl, q2⟩
theorem Sit.cw4 (I : RecvI p Recv) (h : Sit p Aft Anch Recv nW gs w t j D L .w4 l0 ow oj st sm) (ha : gs[0]? = some a) (hs : SW4 p Aft a w) : Nxt p Aft Anch Recv nW (mu p j D L .w4 l0) (runT p.P (crowd gs w sl) 0) t := by
  obtain ⟨h1, h2, h3⟩ := h.md.fin_st trivial
  subst h1 h2
  obtain ⟨a', hgo, hlv⟩ := hs.2 h.wg
  exact h.cmark I ha hgo (tag' := .wke) hlv (fun _ _ _ q => q) (.fin trivial h3) rfl (by simp) rfl rfl grp_rd rfl (by simp only [STag.phi]; omega)
theorem Sit.cwke (I : RecvI p Recv) (h : Sit p Aft Anch Recv nW gs w t j D L .wke l0 ow oj st sm) (ha : gs[0]? = some a) (hs : SWke p Aft a w) : Nxt p Aft Anch Recv nW (mu p j D L .wke l0) (runT p.P (crowd gs w sl) 0) t := by
  obtain ⟨h1, h2, h3⟩ := h.md.fin_st trivial
  subst h1 h2
  obtain ⟨_, a', hgo, hlv⟩ := hs
  exact h.cmark I ha hgo (tag' := .acq) hlv (fun _ _ _ q => q) (.fin trivial h3) rfl (by simp) rfl rfl (grp_mark (.inr (.inl rfl))) rfl (by simp only [STag.phi]; omega)
end
end Go.Proofs.Q
namespace Go.Proofs.Q
open Go Go.Conc Go.ConcN
open Go.ConcR (KK stA smA rd wr)
set_option linter.unusedVariables false
set_option linter.unusedSectionVars false
set_option linter.unusedSimpArgs false
structure Done (p : Pm) (Aft : Goroutine → Prop) (gs : Array Goroutine) (w : World) (t : Trace) : Prop where
  kn : KN p w
  zero : ∃ a, gs[0]? = some a ∧ Aft a
  lv : ∃ q, Leavers p.P t gs q
  past : Past (Shr p) w.heap.size t
  ans : ∀ c, c < p.n → w.cell? ⟨p.C, c, none⟩ = some (p.ans c)
section
variable {p : Pm} {Aft Anch Recv : Goroutine → Prop} {nW : Nat} {gs : Array Goroutine} {w : World} {t : Trace} {j : Nat} {D : Nat → WTag} {L : Nat → LL p} {tag : STag} {l0 : LL p} {ow oj : Nat → Nat} {st sm : Int} {sl : Option (Nat × Nat)} {a : Goroutine}
theorem Sit.cacq (I : RecvI p Recv) (h : Sit p Aft Anch Recv nW gs w t j D L .acq l0 ow oj st sm) (ha : gs[0]? = some a) (hs : SAcq p Aft a w) : ∃ gs' w' sl' ops, runT p.P (crowd gs w sl) 0 = (.next (crowd gs' w' sl'), ops) ∧ Done p Aft gs' w' (t ++ ops) := by
  obtain ⟨_, a', hgo, haft⟩ := hs
  obtain ⟨h1, h2, h3⟩ := h.md.fin_st trivial
  have hrun := runT_crowd_go (P := p.P) (sl := sl) (i := 0) ha (by simpa using hgo)
  have hops : ∀ op ∈ MemOp.ofEvents 0 a.frame.fn a.frame.place #[ConcR.mk (.acquire (stA p.Wg))], op.g = 0 := fun op hop => by obtain ⟨e, _, rfl⟩ := Go.Conc.mem_ofEvents hop; rfl
  have htr := h.tr.grp0 (es := #[ConcR.mk (.acquire (stA p.Wg))]) (grp_mark (.inr (.inr (.inl rfl)))) h.kn.size a.frame.fn a.frame.place
  have hu1 : MemOp.ofEvents 0 a.frame.fn a.frame.place #[ConcR.mk (.acquire (stA p.Wg))] = #[{ g := 0, fn := a.frame.fn, pos := a.frame.place, act := .mark (.acquire (stA p.Wg)) }] := by simp [MemOp.ofEvents, ConcR.mk, MemAct.ofEvent]
  have hq : ∀ i, i < j → ∃ q, L i = .inr q ∧ ∃ d, D i = .quit d := fun i hi => by
    obtain ⟨o, ho, hwo⟩ := h.wks i hi
    have := h3 i hi
    cases hd : D i <;> rw [hd] at this <;> simp [WTag.stage] at this
    cases hl : L i with
    | inl x => rw [hd, hl] at hwo; exact hwo.elim
    | inr q => exact ⟨q, rfl, _, rfl⟩
  have hrels : ∀ i, i < j → ∃ r, RelBy (stA p.Wg) (t ++ MemOp.ofEvents 0 a.frame.fn a.frame.place #[ConcR.mk (.acquire (stA p.Wg))]) (i + 1) r ∧ r < t.size := fun i hi => by
    obtain ⟨r, hr⟩ := h.rel i hi (by rw [h3 i hi]; omega)
    exact ⟨r, hr.appOther hops (by omega), lt_of_act? hr.act⟩
  generalize hT : t ++ MemOp.ofEvents 0 a.frame.fn a.frame.place #[ConcR.mk (.acquire (stA p.Wg))] = T at *
  have hat : T[t.size]? = some { g := 0, fn := a.frame.fn, pos := a.frame.place, act := .mark (.acquire (stA p.Wg)) } := by
    rw [← hT, hu1, Array.getElem?_append_right (Nat.le_refl _)]; simp
  have hact : T.act? t.size = some (.mark (.acquire (stA p.Wg))) := by rw [act?_of hat]
  have hg0 : T.g? t.size = some 0 := by simp [Trace.g?, hat]
  have hheard : T.heard t.size := ⟨0, hg0, by rw [← hT, deaf_old (Nat.le_refl _)]; exact h.df0⟩
  have hall : ∀ i g, T.g? i = some g → g ≠ 0 → ∃ r, RelBy (stA p.Wg) T g r ∧ r < t.size := fun i g hg hne => by
    have := htr.gs i g hg
    obtain ⟨k, rfl⟩ : ∃ k, g = k + 1 := ⟨g - 1, by omega⟩
    exact hrels k (by omega)
  have hover : T.HandedOver := handedOver_all hall htr.nrel hact hg0 hheard
  refine ⟨_, w, sl, _, hrun, ?_⟩
  rw [hT]
  refine ⟨h.kn, ⟨a', get_map_set_same _ _ _ (by rw [h.size]; omega), haft⟩, ⟨fun i => match i with | 0 => 0 | i + 1 => (match L i with | .inr q => q | _ => 0), fun i g hi hg => ?_, fun i hi => ?_⟩, ⟨htr.nr, fun i x hx hm => ?_, hover, ?_, htr.seen⟩, fun c hc => ?_⟩
  · obtain ⟨k, rfl⟩ : ∃ k, i = k + 1 := ⟨i - 1, by omega⟩
    have hk : k < j := by have := (Array.getElem?_eq_some_iff.1 hg).1; simp [h.size] at this; omega
    obtain ⟨o, ho, hwo⟩ := h.wks k hk
    obtain ⟨q, hq1, d, hq2⟩ := hq k hk
    have hwo' := hwo
    rw [hq1, hq2] at hwo
    have hwo : QuitsD p.P q d o := hwo
    rw [get_map_set _ _ _ _ (by omega), ho, Option.map_some, woken_quitsD hwo, Option.some.injEq] at hg
    subst hg
    show QuitsD p.P (match L k with | .inr q => q | _ => 0) (Deaf T (k + 1)) o
    rw [hq1, ← hT, Deaf_other t (by omega) _ hops, h.dfw k hk, hq2]
    exact hwo
  · rw [← hT, Deaf_other t (by simp [h.size] at hi; omega) _ hops]
    exact h.dfx i (by simp [h.size] at hi; omega)
  · obtain ⟨k, hk⟩ := touch_g hx
    by_cases k0 : k = 0
    · subst k0
      obtain ⟨z, hz, _⟩ := touch_of hx
      have := knows_own hz
      have e : z.g = 0 := by simpa [Trace.g?, hz] using hk
      rw [e] at this
      exact .inl this
    · rcases htr.wk i x k hx hm hk k0 with ⟨q1, q2⟩ | ⟨q1, _⟩
      · exact .inr ⟨q1, q2⟩
      · obtain ⟨r, hr, hrq⟩ := hall i k hk k0
        have hle : i ≤ r := Nat.le_of_not_lt fun hlt => hr.after i hlt hk ⟨x, hx, hm, .inr q1⟩
        have edge : HappensBefore T r t.size := .single (.inr ⟨.marked hrq (.inr hr.act) hact (fun k _ _ => htr.nrel k), hr.heard, hheard⟩)
        refine .inl ⟨t.size, _, hat, rfl, .inr ?_⟩
        rcases Nat.lt_or_ge i r with hlt | hge
        · exact .trans (.single (.inl ⟨hlt, k, hk, hr.g⟩)) edge
        · obtain rfl : i = r := by omega
          exact edge
  · rw [← hT, Deaf_own, h.df0]; rfl
  · rcases (h.jb.sent c hc).2 with ⟨k, hk, e⟩ | e
    · have := h3 k hk; rw [e] at this; simp [WTag.stage] at this
    · exact e
theorem Sit.step (I : RecvI p Recv) (A : AnchI p Aft Anch) (h : Sit p Aft Anch Recv nW gs w t j D L tag l0 ow oj st sm) :
    (∃ gs' w' sl' ops, stepT p.P (crowd gs w sl) = (.next (crowd gs' w' sl'), ops) ∧ Done p Aft gs' w' (t ++ ops)) ∨ Nxt p Aft Anch Recv nW (mu p j D L tag l0) (stepT p.P (crowd gs w sl)) t := by
  obtain ⟨a, ha, hcs⟩ := h.zero
  have hst0 : a.status = .running ∨ (a.status = .blocked ∧ (tag = .blk ∨ ∃ i, tag = .sndp i)) := by
    have hway : ∀ {x : X}, Way p ow 0 (tag.stop p Aft Anch Recv) true false x a w → a.status = .running := fun q => q.running (stop_run0 tag)
    clear h
    cases tag <;> cases l0 <;> simp only [CS] at hcs
    case sndp.inr i m => obtain ⟨_, g2, z, _, rfl, _⟩ := hcs; exact .inr ⟨rfl, .inr ⟨_, rfl⟩⟩
    case blk.inr m => obtain ⟨g0, S, wa, rfl, _⟩ := hcs; exact .inr ⟨rfl, .inl rfl⟩
    all_goals exact .inl (hway hcs)
  have hstk : ∀ k, k < j → ∃ g, gs[k + 1]? = some g ∧ (g.status = .running ∨ g.status = .blocked ∨ g.status = .finished) ∧ (D k ≠ .park → 2 ≤ (D k).stage → g.status = .running) := fun k hk => by
    obtain ⟨o, ho, hwo⟩ := h.wks k hk
    refine ⟨o, ho, ?_⟩
    rcases hwo.status I with ⟨h1, h2⟩ | ⟨h1, h2 | ⟨h2, d, h3⟩⟩
    · exact ⟨.inr (.inl h2), fun q => absurd h1 q⟩
    · exact ⟨.inl h2, fun _ _ => h2⟩
    · exact ⟨.inr (.inr h2), fun _ q => by rw [h3] at q; simp [WTag.stage] at q⟩
  have haw : ∀ g ∈ gs, awake g := by
    intro g hg
    obtain ⟨i, hi, rfl⟩ := Array.mem_iff_getElem.1 hg
    rcases Nat.eq_zero_or_pos i with rfl | hpos
    · have : gs[0] = a := by simpa [Array.getElem?_eq_getElem hi] using ha
      rw [this]
      exact awake_of (hst0.imp id fun q => .inl q.1)
    · obtain ⟨k, rfl⟩ : ∃ k, i = k + 1 := ⟨i - 1, by omega⟩
      obtain ⟨g, hg, h1, _⟩ := hstk k (by rw [h.size] at hi; omega)
      have : gs[k + 1] = g := by simpa [Array.getElem?_eq_getElem hi] using hg
      rw [this]
      exact awake_of h1
  have some1 : ∃ (i : Nat) (g : Goroutine), gs[i]? = some g ∧ g.status = .running := by
    rcases hst0 with h0 | ⟨_, h0⟩
    · exact ⟨0, a, ha, h0⟩
    · have hj : ∃ k, k < j ∧ D k ≠ .park ∧ 2 ≤ (D k).stage := by
        rcases h0 with rfl | ⟨i, rfl⟩
        · have hmd := h.md
          cases hmd with
          | opn q => exact q.elim
          | reg q1 q2 q3 =>
            by_cases hx : ∃ k, k < j ∧ 5 ≤ (D k).stage
            · obtain ⟨k, hk, q⟩ := hx
              exact ⟨k, hk, h.cl rfl k hk, by omega⟩
            · exfalso
              have : Vc j D = 0 := by
                have := sumTo_le (f := fun i => (D i).cnt) (c := 0) (j := j) (fun i hi => by unfold WTag.cnt; rw [if_neg fun q => hx ⟨i, hi, q⟩]; exact Nat.le_refl _)
                unfold Vc; omega
              omega
          | last L' q1 q2 q3 q4 => exact ⟨L', q2, h.cl rfl L' q2, by omega⟩
          | sema q1 q2 => exact absurd rfl q2
          | fin q => exact q.elim
        · have hl := h.left
          have h2 : (STag.sndp i).left = 0 := rfl
          have hf := h.few
          have hop := h.op rfl 0 (by omega)
          exact ⟨0, by omega, h.np i rfl 0 (by omega), by omega⟩
      obtain ⟨k, hk, q1, q2⟩ := hj
      obtain ⟨g, hg, _, h2⟩ := hstk k hk
      exact ⟨k + 1, g, hg, h2 q1 q2⟩
  obtain ⟨i, g, d, sl', hi, hg, hst⟩ := crowd_pick (P := p.P) (w := w) (sl := sl) haw some1
  rw [hst]
  have h := h.at d
  obtain ⟨a1, ha1, hcd⟩ := h.zero
  obtain rfl : a = a1 := by rw [ha] at ha1; exact Option.some.inj ha1
  rcases Nat.eq_zero_or_pos i with rfl | hpos
  · obtain rfl : g = a := by rw [ha] at hi; exact (Option.some.inj hi).symm
    have hway : ∀ {x : { x : X // Acc (NxW p) x }}, l0 = .inl x → (∀ i, tag ≠ .sndp i) → tag ≠ .blk → (∀ x' g' w', Way p ow 0 (tag.stop p Aft Anch Recv) true false x'.1 g' w' → CS p Aft Anch Recv ow tag (.inl x') g' w') → Way p ow 0 (tag.stop p Aft Anch Recv) true false x.1 g (w.at d) →
        (∃ gs' w' sl2 ops, runT p.P (crowd gs (w.at d) sl') 0 = (.next (crowd gs' w' sl2), ops) ∧ Done p Aft gs' w' (t ++ ops)) ∨ Nxt p Aft Anch Recv nW (mu p j D L tag l0) (runT p.P (crowd gs (w.at d) sl') 0) t := by
      intro x hl hsp hnb hws hx
      by_cases hs : x.1.stops p
      · have hs' : tag.stop p Aft Anch Recv g (w.at d) := by have := hs _ hx.rl; rw [hx.s, hx.gg] at this; exact this
        cases tag with
        | kd r => exact .inr (h.ckd I ha hs')
        | a1 r => exact .inr (h.ca1 I ha hs')
        | rm r => exact .inr (h.crm I ha hs')
        | ke r => exact .inr (h.cke I ha hs')
        | go r => exact .inr (h.cgo I ha hs')
        | snd c =>
          rcases Nat.lt_or_ge c p.n with q | q
          · exact .inr (h.csnd I ha q hl hs')
          · exact .inr (h.ccl I ha q hs')
        | sndp i => exact absurd rfl (hsp i)
        | wkd => exact .inr (h.cwkd I A ha hs')
        | w1 => exact .inr (h.cw1 I ha hs')
        | w2 vs => exact .inr (h.cw2 I A ha hs')
        | w2m => exact .inr (h.cw2m I ha hs')
        | w3 => exact .inr (h.cw3 I ha hl hx hs)
        | blk => exact absurd rfl hnb
        | w4 => exact .inr (h.cw4 I ha hs')
        | wke => exact .inr (h.cwke I ha hs')
        | acq =>
          obtain ⟨gs', w', sl2, ops, hr, hd⟩ := h.cacq (sl := sl') I ha hs'
          exact .inl ⟨gs', w', sl2, ops, hr, hd⟩
      · exact .inr (h.cpriv I ha hl hx hs hsp hws)
    have hfin := @hway
    clear hway
    clear hcs
    cases tag <;> cases hl : l0 <;> rw [hl] at hcd <;> simp only [CS] at hcd
    case sndp.inr i m => obtain ⟨_, g2, z, _, rfl, _⟩ := hcd; cases hg
    case blk.inr m => obtain ⟨g0, S, wa, rfl, _⟩ := hcd; cases hg
    all_goals
      subst hl
      exact hfin rfl (by simp) (by simp) (fun _ _ _ q => q) hcd
  · obtain ⟨k, rfl⟩ : ∃ k, i = k + 1 := ⟨i - 1, by omega⟩
    have hk : k < j := by have := (Array.getElem?_eq_some_iff.1 hi).1; rw [h.size] at this; omega
    refine .inr ?_
    obtain ⟨o, ho, hwo⟩ := h.wks k hk
    rw [hi] at ho
    cases ho
    have hway : ∀ {x : { x : X // Acc (NxW p) x }}, L k = .inl x → D k ≠ .park → (∀ dd, D k ≠ .quit dd) → (∀ ow' x' g' w', Way p ow' (k + 1) ((D k).stop p Recv) false (D k).q x'.1 g' w' → WS p Recv ow' (k + 1) (D k) (.inl x') g' w') → Way p ow (k + 1) ((D k).stop p Recv) false (D k).q x.1 g (w.at d) → Nxt p Aft Anch Recv nW (mu p j D L tag l0) (runT p.P (crowd gs (w.at d) sl') (k + 1)) t := by
      intro x hl hnp hnq hws hx
      by_cases hs : x.1.stops p
      · have hs' : (D k).stop p Recv g (w.at d) := by have := hs _ hx.rl; rw [hx.s, hx.gg] at this; exact this
        cases hD : D k with
        | recv => rw [hD] at hs'; exact h.wrecv I hk hi hD hl hs'
        | park => exact absurd hD hnp
        | job c => rw [hD] at hs'; exact h.wstor I hk hi hD hs'
        | rel => rw [hD] at hs'; exact h.wrel I hk hi hD hs'
        | k1 => rw [hD] at hs'; exact h.wk1 I hk hi hD hs'
        | d1 => rw [hD] at hs'; exact h.wd1 I hk hi hD hs'
        | d2 => rw [hD] at hs'; exact h.wd2 I hk hi hD hs'
        | d3 => rw [hD] at hs'; exact h.wd3 I hk hi hD hs'
        | d4 => rw [hD] at hs'; exact h.wd4 I hk hi hD hs'
        | quit dd => exact absurd hD (hnq dd)
      · exact h.wpriv I hk hi hl hx hs hnp hws
    cases hD : D k <;> cases hl : L k <;> rw [hD, hl] at hwo <;> simp only [WS] at hwo
    case park.inr q => obtain ⟨g0, z, _, _, rfl⟩ := hwo; cases hg
    case quit.inr dd q => exact h.wquit I hk hi hg hD hl hwo
    all_goals exact hway hl (by rw [hD]; simp) (by rw [hD]; simp) (fun _ _ _ _ q => by rw [hD] at q ⊢; exact q) (by rw [hD]; exact hwo)
theorem Sit.run (I : RecvI p Recv) (A : AnchI p Aft Anch) : ∀ (μ : Mu p) {gs : Array Goroutine} {w : World} {t : Trace} {j : Nat} {D : Nat → WTag} {L : Nat → LL p} {tag : STag} {l0 : LL p} {ow oj : Nat → Nat} {st sm : Int} {sl : Option (Nat × Nat)}, Sit p Aft Anch Recv nW gs w t j D L tag l0 ow oj st sm → mu p j D L tag l0 = μ →
    ∃ N gs' w' sl' t', runNT p.P N (crowd gs w sl) t = (.next (crowd gs' w' sl'), t') ∧ Done p Aft gs' w' t' := by
  intro μ
  induction (MuLtR.wf p).apply μ with
  | intro μ _ ih =>
    intro gs w t j D L tag l0 ow oj st sm sl h hμ
    rcases h.step (sl := sl) I A with ⟨gs', w', sl', ops, h1, h2⟩ | ⟨gs', w', sl', ops, j', D', L', tag', l0', ow', oj', st', sm', h1, h2, h3⟩
    · exact ⟨1, gs', w', sl', t ++ ops, by simp only [runNT, h1], h2⟩
    · rw [hμ] at h3
      obtain ⟨N, gs2, w2, sl2, t2, h4, h5⟩ := ih _ h3 (sl := sl') h2 rfl
      exact ⟨N + 1, gs2, w2, sl2, t2, by simp only [runNT, h1]; exact h4, h5⟩
end
end Go.Proofs.Q
namespace Go.Proofs.Q
open Go Go.Conc
set_option linter.unusedVariables false
set_option linter.unusedSectionVars false
set_option linter.unusedSimpArgs false
variable [Gds]
section
variable {p : Pm}
theorem KN.guar {w w1 : World} (h : KN p w) {S : Nat → Prop} {es : Array Event} (hg : Guar p.base S w w1 es) (hS : ∀ b, S b → p.top ≤ b) (hl : ∀ b, b < p.base → w1.heap[b]? = w.heap[b]?) : KN p w1 := by
  have hC := p.bC; have hW := p.bWg; have hJ := p.bJ
  have hsz := h.size
  have keep : ∀ b, p.base ≤ b → b < p.top → w1.heap[b]? = w.heap[b]? := fun b h1 h2 => hg.rest b h1 (by omega) (fun q => by have := hS b q; omega)
  refine ⟨Nat.le_trans h.size hg.size, hg.os.trans h.os, hg.out.trans h.out, fun b hb => (hl b hb).trans (h.lo b hb), fun b o hb ho => ?_, fun b hb hr => by rw [keep b hb hr.1]; exact h.mid b hb hr, by rw [keep _ hW.1 hW.2]; exact h.wg, by rw [keep _ hC.1 hC.2]; exact h.pay, by rw [keep _ hJ.1 hJ.2]; exact h.ch⟩
  obtain ⟨o1, h1, h2⟩ := h.low b o hb ho
  obtain ⟨o2, h3, h4⟩ := hg.low b o1 hb h1
  exact ⟨o2, h3, sbf_trans h2 h4⟩
theorem out_same {P : Program} {base : Nat} {b b' : Bool} {f : FuncId} {args : Array Value} {w0 w0' : World} {cs' : List Frame} {ρ ρ' : Nat → Nat} {c c' : LC} {g : Goroutine} {w : World} (h : InCall b P base f args w0 cs' ρ c g w) (h' : InCall b' P base f args w0' cs' ρ' c' g w) (ho : LOut c') : LOut c := by
  have e := h.g.symm.trans h'.g
  have e1 : @rFr _ Tok.one ρ c.fr = @rFr _ Tok.one ρ' c'.fr := congrArg Goroutine.frame e
  have e2 : c.cs.map (@rFr _ Tok.one ρ) ++ cs' = c'.cs.map (@rFr _ Tok.one ρ') ++ cs' := congrArg Goroutine.callers e
  have e3 := List.append_cancel_right e2
  obtain ⟨o1, o2, o3⟩ := ho
  rw [o1] at e3
  refine ⟨by simpa using e3, fun q => o2 ?_, ?_⟩
  · have e4 : (@rFr _ Tok.one ρ c.fr).mode = (@rFr _ Tok.one ρ' c'.fr).mode := congrArg Frame.mode e1
    cases hm : c'.fr.mode with
    | run => rfl
    | returning => simp [rFr, q, hm, rMo] at e4
    | panicking l => simp [rFr, q, hm, rMo] at e4
  · have e4 : c.fr.defers.map (@rD _ Tok.one ρ) = c'.fr.defers.map (@rD _ Tok.one ρ') := congrArg Frame.defers e1
    rw [o3] at e4
    simpa using e4
theorem low_same {P : Program} {base : Nat} {f : FuncId} {args : Array Value} {w0 : World} {cs' : List Frame} {ρ ρ' : Nat → Nat} {c c1 : LC} {g g1 : Goroutine} {w w1 : World} (h : InCall false P base f args w0 cs' ρ c g w) (h1 : InCall false P base f args w0 cs' ρ' c1 g1 w1)
    (hl : ∀ k o, k < base → w.heap[k]? = some o → ∃ o', w1.heap[k]? = some o' ∧ sameButF o o') (hw : ∀ k x e f, k < base → Gds.hv k = false → w.heap[k]? = some (.cells x e f) → w0.heap[k]? = some (.cells x e f))
    (hf : ∀ k x e f, k < base → w0.heap[k]? = some (.cells x e f) → ∃ x', c1.w.heap[k]? = some (.cells x' e f)) (hh : ∀ k, k < base → Gds.hv k = true → w1.heap[k]? = w.heap[k]?) : ∀ k, k < base → w1.heap[k]? = w.heap[k]? := by
  intro k hk
  cases hv : Gds.hv k with
  | true => exact hh k hk hv
  | false =>
  have hsz : k < c.w.heap.size := by have := h.li.bs; omega
  obtain ⟨o1, q1, _⟩ := @HR.sh _ Tok.one _ _ _ _ _ (h.hx.hr 0) k _ hk (Array.getElem?_eq_getElem hsz)
  rw [h.hx.fx k hk] at q1
  rw [q1]
  obtain ⟨o2, q2, q3⟩ := hl k o1 hk q1
  rw [q2]
  rcases q3 with rfl | ⟨x, e, f, f', rfl, rfl, _⟩
  · rfl
  · obtain ⟨x', q4⟩ := hf k x e f hk (hw k x e f hk hv q1)
    obtain ⟨o3, q5, q6⟩ := @HR.sh _ Tok.one _ _ _ _ _ (h1.hx.hr 0) k _ hk q4
    rw [h1.hx.fx k hk] at q5
    rw [q2] at q5
    cases q5
    rcases q6 with ⟨_, y, e2, f2, f3, r1, r2, _, r3⟩ | ⟨_, r, _⟩ | ⟨_, _, r, _⟩
    · have := r3 rfl
      cases r1
      simp only [Obj.cells.injEq] at r2
      rw [r2.2.2, this]
    · cases r
    · cases r
theorem lv_call (z : Gz) (hp : ∀ fl ρ, @PP _ z.tok p.P p.base fl ρ) (hp1 : ∀ fl ρ, @PP _ Tok.one p.P p.base fl ρ) (hq : PQ p.P) {f : FuncId} {args : Array Value} {R : (Nat → Question → Nat) → Value → World → Prop} (hB : Back p.P f args (lowW true p.base p.W0) R) {R2 : (Nat → Question → Nat) → Value → World → Prop} (hB2 : Back p.P f args (lowW false p.base p.W0) R2) (hR2 : ∀ τ v w, R2 τ v w → ∀ k, k < p.base → w.heap[k]? = (lowW false p.base p.W0).heap[k]?)
    {a : Value} (hR : ∀ τ v w, R τ v w → v = a) (ha : plainV a) {fn : Func} (hfn : p.P.funcs[f]? = some fn) {t : Tmp} (hres : fn.results = #[.tmp t]) {k : Frame} {cs' : List Frame} (hnr : NoRF (k :: cs')) {Stop : Goroutine → World → Prop} {Q : Nat → Prop} {H : Nat → Option Obj} {main : Bool}
    (next : ∀ S w, KN p w → (∀ b, Q b → S b) → (∀ b, Q b → w.heap[b]? = H b) → Lv p main false Stop S (G (k.finish a) cs') w) :
    ∀ {c : LC}, Acc (fun c1 c => LGo p.P [Kf] c c1) c → ∀ {S : Nat → Prop} {ρ : Nat → Nat} {g : Goroutine} {w : World}, InCall true p.P p.base f args (lowW true p.base p.W0) (k :: cs') ρ c g w → ∀ {c2 : LC}, Acc (fun c1 c => LGo p.P [Kf] c c1) c2 → ∀ {ρ2 : Nat → Nat}, InCall false p.P p.base f args (lowW false p.base p.W0) (k :: cs') ρ2 c2 g w → (∀ k x e f, k < p.base → (lowW false p.base p.W0).heap[k]? = some (.cells x e f) → ∃ x' f', c2.w.heap[k]? = some (.cells x' e f') ∧ fle f f') → KN p w → (∀ b, Q b → S b ∧ b < w.heap.size) → (∀ b, Q b → w.heap[b]? = H b) →
      (∀ x, p.base ≤ x → x < c.w.heap.size → S (ρ x) ∧ ¬ Q (ρ x)) → (∀ x, p.base ≤ x → x < c2.w.heap.size → S (ρ2 x)) → (∀ b, S b → p.top ≤ b) → Lv p main false Stop S g w := by
  intro c hacc
  induction hacc with
  | intro c _ ih =>
    intro S ρ g w hin c2 hacc2 ρ2 hin2' hfl hkn hbj hob hown hownB htop
    have hrun : g.status = .running := by rw [hin.g]; rfl
    refine Lv.one hrun fun w1 hr => ?_
    have hrely : Rely p.base (own p.base ρ c.w) w w1 := ⟨hr.size, hr.kn.os.trans hkn.os.symm, fun b ⟨x, h1, h2, h3⟩ => hr.mine b (h3 ▸ (hown x h1 h2).1), fun b o hb ho => by
      obtain ⟨o', h1, h2⟩ := hr.low b o hb ho
      exact ⟨o', h1, .inl h2⟩⟩
    obtain ⟨σ, hσ, hin1⟩ := hin.rely hrely (fun q => by cases q)
    have hlo1 : ∀ k, k < p.base → w1.heap[k]? = w.heap[k]? := fun k hk => (hr.kn.lo k hk).trans (hkn.lo k hk).symm
    have hown2 : ∀ k, own p.base ρ2 c2.w k → w1.heap[k]? = w.heap[k]? := fun k ⟨x, h1, h2, h3⟩ => hr.mine k (h3 ▸ hownB x h1 h2)
    obtain ⟨σ2, hσ2, hin12⟩ := hin2'.rely ⟨hr.size, hr.kn.os.trans hkn.os.symm, hown2, fun b o hb ho => ⟨o, (hlo1 b hb).trans ho, .inl (.inl rfl)⟩⟩ (fun _ => hlo1)
    have hob1 : ∀ b, Q b → w1.heap[b]? = H b := fun b q => (hr.mine b (hbj b q).1).trans (hob b q)
    have hbl : ∀ b, Q b → b < w1.heap.size := fun b q => by have := hr.size; have := (hbj b q).2; omega
    by_cases ho : LOut c
    · refine ⟨_, w1, #[], hin1.out hB hR ha hfn hres ho, Priv.idle hr.kn, fun q => rfl, ?_⟩
      rw [more_idle]
      exact next S w1 hr.kn (fun b q => (hbj b q).1) hob1
    · obtain ⟨c1, g1, w1', es, hgo, hst, hin2, hgu, hev, hsz⟩ := hin1.step z hp hp1 hq hB hnr ho
      have ho2 : ¬ LOut c2 := fun q => ho (out_same hin1 hin12 q)
      obtain ⟨c21, g1', w1'', es', hgo2, hst2, hin22, ⟨lim2, hgu2⟩, _⟩ := hin12.stepB z hp hp1 hq hB2 hnr ho2
      rw [hst] at hst2
      simp only [GStep.go.injEq] at hst2
      obtain ⟨rfl, rfl, rfl⟩ := hst2
      obtain ⟨n2, hto2⟩ := hin12.to
      have hfl2 : ∀ k x e f, k < p.base → (lowW false p.base p.W0).heap[k]? = some (.cells x e f) → ∃ x' f', c21.w.heap[k]? = some (.cells x' e f') ∧ fle f f' := fun k x e f hk ho' => by
        obtain ⟨y, fy, q1, q2⟩ := hfl k x e f hk ho'
        obtain ⟨y2, f2, q3, q4⟩ := hin12.li.flag z hp hq Kf_norf (by simp) hgo2 ho2 (hB2.safe hto2 ho2) hk q1
        exact ⟨y2, f2, q3, q2.trans q4⟩
      have hlo : ∀ k, k < p.base → w1'.heap[k]? = w1.heap[k]? := low_same hin12 hin22 hgu.low (fun k x e f hk hv hc => by
        rw [lowW_at, if_pos hk, ← hr.kn.lo k hk, hc]; simp [lowO_vis hv, lowC]) (InCall.flags z hp hp1 hq hB2 hR2 hnr (hacc2.inv hgo2) hin22 hfl2) (fun k hk hv => by
        have := hgu2.hid k ⟨hk, hv⟩
        rwa [hin12.hx.fx k hk] at this)
      have hei := hin1.evin hp1 hq hB hnr ho hst hgu.size
      have hown1 : ∀ b, own p.base σ c.w b → S b := fun b ⟨x, h1, h2, h3⟩ => by rw [hσ x h2] at h3; exact h3 ▸ (hown x h1 h2).1
      have hstm : stepG p.P main g w1 = .go g1 w1' es := by
        cases main with
        | false => exact hst
        | true =>
          rw [hin1.g] at hst ⊢
          cases hh : c.cs.map (@rFr _ Tok.one σ) ++ (k :: cs') with
          | nil => simp at hh
          | cons a b => rw [hh] at hst; rw [← stepG_main]; exact hst
      have far : ∀ x, c.w.heap.size ≤ x → w1.heap.size ≤ σ x := @HR.far _ Tok.one _ _ _ _ _ (hin1.hx.hr 0)
      have low1 : ∀ x, x < c1.w.heap.size → σ x < w1'.heap.size := fun x hx => @HR.low _ Tok.one _ _ _ _ _ (hin2.hx.hr 0) x hx
      have hC := p.bC; have hW := p.bWg; have hJ := p.bJ
      have rdb : ∀ b, b < p.base → p.RdB b := fun b hb => ⟨by omega, by omega, by omega, by omega⟩
      have hkn1 : KN p w1' := hr.kn.guar hgu (fun b hb => htop b (hown1 b hb)) hlo
      have hpriv : Priv p S w1 w1' es := by
        refine ⟨hkn1, hgu.size, fun b h1 h2 h3 => hgu.rest b h1 h2 fun q => h3 (hown1 b q), hgu.low, fun e he => ?_⟩
        have h1 := hev e he
        have h2 := hei e he
        unfold EvG at h1
        unfold EvIn at h2
        unfold EvP
        have own2 : ∀ b, (∃ x, p.base ≤ x ∧ σ x = b) → S b ∨ w1.heap.size ≤ b := fun b ⟨x, q1, q2⟩ => by
          rcases Nat.lt_or_ge x c.w.heap.size with q | q
          · exact .inl (hown1 b ⟨x, q1, q, q2⟩)
          · exact .inr (q2 ▸ far x q)
        cases hl : e.loc with
        | cell ad =>
          rw [hl] at h1 h2
          exact h1.imp (fun q => ⟨own2 _ q, h2⟩) fun q => ⟨q.1, rdb _ q.2⟩
        | obj r =>
          rw [hl] at h1 h2
          exact h1.imp (fun q => ⟨own2 _ q, h2⟩) fun q => ⟨q.1, rdb _ q.2⟩
        | mark m => rw [hl] at h1; cases m <;> first | exact h1.elim | trivial
        | output => trivial
        | _ => rw [hl] at h1; exact h1.elim
      refine ⟨g1, w1', es, hstm, hpriv, (fun q => by cases q), ih c1 hgo hin2 (hacc2.inv hgo2) hin22 hfl2 hkn1 (fun b q => ⟨.inl (hbj b q).1, by have := hbl b q; have := hgu.size; omega⟩) (fun b q => ?_) (fun x h1 h2 => ?_) (fun x h1 h2 => ?_) (fun b hb => ?_)⟩
      · have hb2 := htop b (hbj b q).1
        rw [hgu.rest b (by omega) (hbl b q) fun ⟨x, h1, h2, h3⟩ => (hown x h1 h2).2 (by rw [← hσ x h2, h3]; exact q)]
        exact hob1 b q
      · rcases Nat.lt_or_ge x c.w.heap.size with q | q
        · rw [hσ x q]
          exact ⟨.inl (hown x h1 q).1, (hown x h1 q).2⟩
        · have := far x q
          exact ⟨.inr ⟨this, low1 x h2⟩, fun q => by have := hbl _ q; omega⟩
      · rcases Nat.lt_or_ge x c2.w.heap.size with q | q
        · rw [hσ2 x q]
          exact .inl (hownB x h1 q)
        · exact .inr ⟨@HR.far _ Tok.one _ _ _ _ _ (hin12.hx.hr 0) x q, @HR.low _ Tok.one _ _ _ _ _ (hin22.hx.hr 0) x h2⟩
      · rcases hb with hb | ⟨hb, _⟩
        · exact htop b hb
        · have := hr.kn.size; omega
theorem lv_enter (z : Gz) (hp : ∀ fl ρ, @PP _ z.tok p.P p.base fl ρ) (hp1 : ∀ fl ρ, @PP _ Tok.one p.P p.base fl ρ) (hq : PQ p.P) (hs : Shar p.base p.W0) {f : FuncId} (hgf : Gds.gf f) {args : Array Value} (hargs : bVs p.base args) (hac : args.map (@rV _ Tok.one Gds.sg) = args) {R : (Nat → Question → Nat) → Value → World → Prop} (hB : Back p.P f args (lowW true p.base p.W0) R) {R2 : (Nat → Question → Nat) → Value → World → Prop} (hB2 : Back p.P f args (lowW false p.base p.W0) R2) (hR2 : ∀ τ v w, R2 τ v w → ∀ k, k < p.base → w.heap[k]? = (lowW false p.base p.W0).heap[k]?)
    {a : Value} (hR : ∀ τ v w, R τ v w → v = a) (ha : plainV a) {fn : Func} (hfn : p.P.funcs[f]? = some fn) {t : Tmp} (hres : fn.results = #[.tmp t]) {k : Frame} {cs' : List Frame} (hnr : NoRF (k :: cs')) {Stop : Goroutine → World → Prop} {Q : Nat → Prop} {H : Nat → Option Obj} {main : Bool}
    (next : ∀ S w, KN p w → (∀ b, Q b → S b) → (∀ b, Q b → w.heap[b]? = H b) → Lv p main false Stop S (G (k.finish a) cs') w) {S : Nat → Prop} {w : World} (hkn : KN p w) (hbj : ∀ b, Q b → S b ∧ b < w.heap.size) (hob : ∀ b, Q b → w.heap[b]? = H b) (hS : ∀ b, S b → p.top ≤ b) : Lv p main false Stop S (G (Frame.enter p.P f args .normal) (k :: cs')) w := by
  have hbase : p.base ≤ w.heap.size := by have := hkn.size; have := p.bC; omega
  have hx := lowW_hx (b := true) hs (fun q => by cases q) (fun b o hb ho => by obtain ⟨o', h1, h2⟩ := hkn.low b o hb ho; exact ⟨o', h1, .inl h2⟩) hkn.os hbase
  have hx2 := lowW_hx (b := false) hs (fun _ => hkn.lo) (fun b o hb ho => by obtain ⟨o', h1, h2⟩ := hkn.low b o hb ho; exact ⟨o', h1, .inl h2⟩) hkn.os hbase
  have hli := lowW_li (b := true) hq hs hgf hargs hac
  have hli2 := lowW_li (b := false) hq hs hgf hargs hac
  have hsz := lowW_size (b := true) hs.bs
  have hsz2 := lowW_size (b := false) hs.bs
  have hg : G (Frame.enter p.P f args .normal) (k :: cs') = G (@rFr _ Tok.one (begR p.base w.heap.size) (Frame.enter p.P f args .normal)) ([].map (@rFr _ Tok.one (begR p.base w.heap.size)) ++ (k :: cs')) := by
    have e : args.map (@rV _ Tok.one (begR p.base w.heap.size)) = args := by
      rw [rVs_agr (T := Tok.one) (U := Tok.one) (σ := id) (fun k hk => by unfold begR; rw [if_pos hk]; rfl) hargs, rVf_one, Array.map_id]
    have := @enter_ren _ Tok.one p.P (begR p.base w.heap.size) f args .normal
    rw [e] at this
    rw [← this]
    rfl
  refine lv_call z hp hp1 hq hB hB2 hR2 hR ha hfn hres hnr next hB.acc (ρ := begR p.base w.heap.size) ⟨hli, ⟨0, RunsTo.refl _⟩, hx, hg⟩ hB2.acc (ρ2 := begR p.base w.heap.size) ⟨hli2, ⟨0, RunsTo.refl _⟩, hx2, hg⟩ (fun k x e f _ ho => ⟨x, f, ho, .inl rfl⟩) hkn hbj hob (fun x h1 h2 => ?_) (fun x h1 h2 => ?_) hS
  · have h2 : x < (lowW true p.base p.W0).heap.size := h2
    omega
  · have h2 : x < (lowW false p.base p.W0).heap.size := h2
    omega
end
end Go.Proofs.Q
