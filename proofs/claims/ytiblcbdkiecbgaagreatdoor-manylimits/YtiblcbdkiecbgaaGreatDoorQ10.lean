import Derived.Test.YtiblcbdkiecbgaaGreatDoorQ09
namespace Go.Proofs.Q
open Go Go.Conc Go.ConcN
open Go.ConcR (KK stA smA rd wr mk)
set_option linter.unusedVariables false
set_option linter.unusedSectionVars false
set_option linter.unusedSimpArgs false
section
variable {p : Pm} {ow oj : Nat → Nat} {j B : Nat} {t : Trace}
theorem ofEvents_at {k : Nat} {fn : FuncId} {pos : String} {es : Array Event} {i : Nat} {op : MemOp} (h : (MemOp.ofEvents k fn pos es)[i]? = some op) : ∃ e, es[i]? = some e ∧ op = { g := k, fn, pos, act := .ofEvent e } := by
  rw [ofEvents_eq, Array.getElem?_map] at h
  obtain ⟨e, he, rfl⟩ := Option.map_eq_some_iff.1 h
  exact ⟨e, he, rfl⟩
theorem append_at {u : Trace} {i : Nat} {op : MemOp} (h : (t ++ u)[i]? = some op) (hi : t.size ≤ i) : u[i - t.size]? = some op := by
  rw [Array.getElem?_append] at h
  simpa [Nat.not_lt.2 hi] using h
theorem TR.appE (h : TR p ow oj j B t) {k B' : Nat} (hk : 1 ≤ k) (hkj : k ≤ j) (hB : B ≤ B') (fn : FuncId) (pos : String) {es : Array Event}
    (hes : ∀ i e x, es[i]? = some e → (MemAct.ofEvent e).touch? = some x → x.loc.isMemory = true → (Shr p x.loc ∧ x.kind = .atomic) ∨ (deafBehind (Deaf t k) (es.extract 0 i) = 0 ∧ OkT p ow oj k x))
    (hl : ∀ e ∈ es, (MemAct.ofEvent e).low B') (hn : ∀ e ∈ es, e.loc ≠ .mark (.release (stA p.Wg))) (hc : ∀ e ∈ es, ∀ x a, (MemAct.ofEvent e).touch? = some x → x.loc = .cell a → a.block = p.C → 1 ≤ oj a.off) : TR p ow oj j B' (t ++ MemOp.ofEvents k fn pos es) := by
  have hmem : ∀ op ∈ MemOp.ofEvents k fn pos es, ∃ e ∈ es, op = { g := k, fn, pos, act := .ofEvent e } := fun op hop => Go.Conc.mem_ofEvents hop
  refine h.app (fun op hop => by obtain ⟨e, _, rfl⟩ := hmem op hop; rfl) hk hkj hB (fun i x hi hx hm => ?_) (fun op hop => by obtain ⟨e, he, rfl⟩ := hmem op hop; exact hl e he) (fun op hop => ?_) (fun op hop x a => by obtain ⟨e, he, rfl⟩ := hmem op hop; exact hc e he x a)
  · obtain ⟨z, hz, hz2⟩ := touch_of hx
    obtain ⟨e, he, rfl⟩ := ofEvents_at (append_at hz hi)
    refine (hes _ e x he hz2 hm).imp id fun ⟨h1, h2⟩ => ⟨⟨k, by simp [Trace.g?, hz], ?_⟩, h2⟩
    have hlt : i - t.size < es.size := (Array.getElem?_eq_some_iff.1 he).1
    have := deaf_inside t k fn pos es (i - t.size) (by omega)
    rw [show t.size + (i - t.size) = i by omega] at this
    rw [this]; exact h1
  · obtain ⟨e, he, rfl⟩ := hmem op hop
    have := hn e he
    obtain ⟨loc, wr, sy⟩ := e
    cases loc with
    | mark m => intro q; simp only [MemAct.ofEvent, MemAct.mark.injEq] at q; exact this (by simp [q])
    | obj r => cases wr <;> cases sy <;> simp [MemAct.ofEvent]
    | _ => simp [MemAct.ofEvent]
theorem RdB_low {b : Nat} (h : p.RdB b) (hB : p.top ≤ B) : b < B := by have := h.1; omega
theorem EvP.low {S : Nat → Prop} {w w' : World} {e : Event} (h : EvP p S w w' e) (hs : p.top ≤ w'.heap.size) : (MemAct.ofEvent e).low w'.heap.size ∧ e.loc ≠ .mark .disable ∧ e.loc ≠ .mark .enable ∧ ∀ a, e.loc ≠ .mark (.release a) := by
  obtain ⟨loc, wr, sy⟩ := e
  cases loc with
  | cell a =>
    have h : ((S a.block ∨ w.heap.size ≤ a.block) ∧ a.block < w'.heap.size) ∨ (wr = false ∧ p.RdB a.block) := h
    refine ⟨?_, by simp, by simp, by simp⟩
    show a.block < _
    rcases h with h | h
    · exact h.2
    · exact RdB_low h.2 hs
  | obj r =>
    have h : ((S r ∨ w.heap.size ≤ r) ∧ r < w'.heap.size) ∨ (wr = false ∧ p.RdB r) := h
    have hr : r < w'.heap.size := by
      rcases h with h | h
      · exact h.2
      · exact RdB_low h.2 hs
    refine ⟨?_, by simp, by simp, by simp⟩
    cases wr <;> cases sy <;> exact hr
  | mark m => cases m <;> first | exact h.elim | exact ⟨trivial, by simp, by simp, by simp⟩
  | output => exact ⟨trivial, by simp, by simp, by simp⟩
  | _ => exact h.elim
theorem EvP.touch {S : Nat → Prop} {w w' : World} {e : Event} (h : EvP p S w w' e) {x : Touch} (hx : (MemAct.ofEvent e).touch? = some x) (hm : x.loc.isMemory = true) :
    (∃ b, ((S b ∨ w.heap.size ≤ b) ∧ b < w'.heap.size) ∧ ((∃ a : Addr, x.loc = .cell a ∧ a.block = b) ∨ x.loc = .obj b)) ∨ (RdL p x.loc ∧ x.write = false) := by
  obtain ⟨loc, wr, sy⟩ := e
  cases loc with
  | cell a =>
    have h : ((S a.block ∨ w.heap.size ≤ a.block) ∧ a.block < w'.heap.size) ∨ (wr = false ∧ p.RdB a.block) := h
    simp only [MemAct.ofEvent, MemAct.touch?, Option.some.injEq] at hx
    subst hx
    rcases h with h | ⟨h1, h2⟩
    · exact .inl ⟨a.block, h, .inl ⟨a, rfl, rfl⟩⟩
    · exact .inr ⟨h2, h1⟩
  | obj r =>
    have h : ((S r ∨ w.heap.size ≤ r) ∧ r < w'.heap.size) ∨ (wr = false ∧ p.RdB r) := h
    cases wr <;> cases sy <;> simp only [MemAct.ofEvent, MemAct.touch?, Option.some.injEq] at hx <;> first | cases hx; done | skip
    all_goals
      subst hx
      rcases h with h | ⟨h1, h2⟩
      · exact .inl ⟨r, h, .inr rfl⟩
      · first | exact .inr ⟨h2, h1⟩ | cases h1
  | mark m => cases m <;> first | exact h.elim | (simp [MemAct.ofEvent, MemAct.touch?] at hx; done)
  | output =>
    simp only [MemAct.ofEvent, MemAct.touch?, Option.some.injEq] at hx
    subst hx
    cases hm
  | _ => exact h.elim
theorem TR.priv (h : TR p ow oj j B t) {k : Nat} (hk : 1 ≤ k) (hkj : k ≤ j) {S : Nat → Prop} {w w' : World} (hB : B = w.heap.size) {es : Array Event} (hp : Priv p S w w' es) (hd : Deaf t k = 0 ∨ es = #[]) (hS : ∀ b, S b → p.top ≤ b ∧ ow b = k) (ht : p.top ≤ w.heap.size)
    {ow' : Nat → Nat} (ho : ∀ b, b < w.heap.size → ow' b = ow b) (ho' : ∀ b, w.heap.size ≤ b → b < w'.heap.size → ow' b = k) (hS' : ∀ b, S b → b < w.heap.size) (fn : FuncId) (pos : String) : TR p ow' oj j w'.heap.size (t ++ MemOp.ofEvents k fn pos es) := by
  subst hB
  have hsz := hp.size
  have hC := p.bC
  have own : ∀ b, ((S b ∨ w.heap.size ≤ b) ∧ b < w'.heap.size) → p.top ≤ b ∧ ow' b = k := by
    rintro b ⟨h1 | h1, h2⟩
    · exact ⟨(hS b h1).1, by rw [ho b (hS' b h1)]; exact (hS b h1).2⟩
    · exact ⟨by omega, ho' b h1 h2⟩
  refine (h.grow ho).appE hk hkj hsz fn pos (fun i e x he hx hm => .inr ⟨?_, ?_⟩) (fun e he => ((hp.evs e he).low (by omega)).1) (fun e he => ((hp.evs e he).low (by omega)).2.2.2 _) (fun e he x a hx hl hb => ?_)
  · have hd : Deaf t k = 0 := hd.resolve_right fun q => by rw [q] at he; simp at he
    rw [hd]
    exact deafBehind_still (fun e he => by
      have he' : e ∈ es := by
        obtain ⟨q, hq, rfl⟩ := Array.mem_iff_getElem.1 he
        simp
      exact ⟨((hp.evs e he').low (by omega)).2.1, ((hp.evs e he').low (by omega)).2.2.1⟩) 0
  · rcases (hp.evs e (Array.mem_of_getElem? he)).touch hx hm with ⟨b, hb, ⟨a, h1, h2⟩ | h1⟩ | h1
    · refine .inl ?_
      rw [h1]
      have := own b hb
      exact .inr (by rw [h2]; exact this)
    · refine .inl ?_
      rw [h1]
      exact own b hb
    · exact .inr h1
  · rcases (hp.evs e he).touch hx (by rw [hl]; rfl) with ⟨b, hb', ⟨a', h1, h2⟩ | h1⟩ | h1
    · rw [hl] at h1
      cases h1
      have := own b hb'
      omega
    · rw [hl] at h1; cases h1
    · rw [hl] at h1
      exact absurd hb h1.1.2.1
theorem TR.grp (h : TR p ow oj j B t) {k : Nat} (hk : 1 ≤ k) (hkj : k ≤ j) {es : Array Event} (hes : ∀ e ∈ es, (∃ a wr, e = ⟨.cell a, wr, true⟩ ∧ a.block = p.Wg) ∨ ∃ m, e = ConcR.mk m ∧ (m = .disable ∨ m = .enable ∨ m = .releaseMerge (stA p.Wg))) (hB : p.top ≤ B) (fn : FuncId) (pos : String) : TR p ow oj j B (t ++ MemOp.ofEvents k fn pos es) := by
  have hW := p.bWg
  have hWC := p.dWC
  refine h.appE hk hkj (Nat.le_refl _) fn pos (fun i e x he hx hm => .inl ?_) (fun e he => ?_) (fun e he => ?_) (fun e he x a hx hl hb => ?_)
  · rcases hes e (Array.mem_of_getElem? he) with ⟨a, wr, rfl, ha⟩ | ⟨m, rfl, hm'⟩
    · simp only [MemAct.ofEvent, MemAct.touch?, Option.some.injEq] at hx
      subst hx
      exact ⟨ha, rfl⟩
    · rcases hm' with rfl | rfl | rfl <;> simp [ConcR.mk, MemAct.ofEvent, MemAct.touch?] at hx
  · rcases hes e he with ⟨a, wr, rfl, ha⟩ | ⟨m, rfl, hm'⟩
    · show a.block < B; omega
    · rcases hm' with rfl | rfl | rfl <;> first | trivial | (show p.Wg < B; omega)
  · rcases hes e he with ⟨a, wr, rfl, ha⟩ | ⟨m, rfl, hm'⟩
    · simp
    · rcases hm' with rfl | rfl | rfl <;> simp [ConcR.mk]
  · rcases hes e he with ⟨a', wr, rfl, ha⟩ | ⟨m, rfl, hm'⟩
    · simp only [MemAct.ofEvent, MemAct.touch?, Option.some.injEq] at hx
      subst hx
      simp only [Loc.cell.injEq] at hl
      subst hl
      exact absurd (ha.symm.trans hb) hWC
    · rcases hm' with rfl | rfl | rfl <;> simp [ConcR.mk, MemAct.ofEvent, MemAct.touch?] at hx
end
section
variable {p : Pm} {Aft Anch Recv : Goroutine → Prop} {nW : Nat} {gs : Array Goroutine} {w : World} {t : Trace} {j : Nat} {D : Nat → WTag} {L : Nat → LL p} {tag : STag} {l0 : LL p} {ow oj : Nat → Nat} {st sm : Int} {sl : Option (Nat × Nat)}
def Nxt (p : Pm) (Aft Anch Recv : Goroutine → Prop) (nW : Nat) (μ : Mu p) (r : Stepped × Array MemOp) (t : Trace) : Prop :=
  ∃ gs' w' sl' ops j' D' L' tag' l0' ow' oj' st' sm', r = (.next (crowd gs' w' sl'), ops) ∧ Sit p Aft Anch Recv nW gs' w' (t ++ ops) j' D' L' tag' l0' ow' oj' st' sm' ∧ MuLtR p (mu p j' D' L' tag' l0') μ
theorem CS.woken {a g g' : Goroutine} (h : CS p Aft Anch Recv ow tag l0 a w) (hch : tag.closed = false → ∃ s r tm, w.heap[p.J]? = some (.chan 0 #[] false s r tm)) :
    ∃ tag' l', CS p Aft Anch Recv ow tag' l' (woken p.P g g' w a) w ∧ ((tag' = tag ∧ l' = l0) ∨ (tag = .blk ∧ tag' = .w3)) ∧ (mayWake p.P g = true → g'.status = .running → tag' ≠ .blk) := by
  have hway : ∀ {x : { x : X // Acc (NxW p) x }}, l0 = .inl x → tag ≠ .blk → (∀ i, tag ≠ .sndp i) → Way p ow 0 (tag.stop p Aft Anch Recv) true false x.1 a w → ∃ tag' l', CS p Aft Anch Recv ow tag' l' (Conc.woken p.P g g' w a) w ∧ ((tag' = tag ∧ l' = l0) ∨ (tag = .blk ∧ tag' = .w3)) ∧ (mayWake p.P g = true → g'.status = .running → tag' ≠ .blk) := by
    intro x hl h1 h2 hw
    refine ⟨tag, l0, ?_, .inl ⟨rfl, rfl⟩, fun _ _ => h1⟩
    rw [woken_run (hw.running (stop_run0 tag))]
    exact h
  cases tag <;> cases l0 <;> simp only [CS] at h
  case sndp.inr i m =>
    refine ⟨.sndp i, .inr m, ?_, .inl ⟨rfl, rfl⟩, fun _ _ => by simp⟩
    obtain ⟨h1, g2, z, h2, rfl, h3⟩ := h
    obtain ⟨s, r, tm, hc⟩ := hch rfl
    rw [woken_send_open _ _ hc]
    exact ⟨h1, g2, z, h2, rfl, h3⟩
  case blk.inr m =>
    obtain ⟨g0, S, wa, rfl, h2, h3, h4⟩ := h
    by_cases hw : (mayWake p.P g && g'.status != .blocked && g'.status != .waiting) = true
    · have h5 := h4 w h3
      have hl : Lv p true false (SW3 p Aft) S g0 wa := .stop h4
      refine ⟨.w3, .inl ⟨⟨true, SW3 p Aft, S, g0, wa⟩, hl.acc⟩, ?_, .inr ⟨rfl, rfl⟩, fun _ _ => by simp⟩
      have e : Conc.woken p.P g g' w { g0 with status := .blocked } = g0 := by
        unfold Conc.woken
        rw [if_pos hw]
        exact Go.ConcR.again_blocked h5.1 h5.2.1 w
      rw [e]
      exact ⟨rfl, rfl, rfl, hl, h3, h2⟩
    · refine ⟨.blk, .inr m, ?_, .inl ⟨rfl, rfl⟩, fun h1 h2 => absurd (by simp [h1, h2]) hw⟩
      have e : Conc.woken p.P g g' w { g0 with status := .blocked } = { g0 with status := .blocked } := by
        unfold Conc.woken
        rw [if_neg hw]
      rw [e]
      exact ⟨g0, S, wa, rfl, h2, h3, h4⟩
  all_goals exact hway rfl (by simp) (by simp) h
theorem WS.woken (I : RecvI p Recv) {k : Nat} {d : WTag} {l : LL p} {o g g' : Goroutine} (h : WS p Recv ow k d l o w) (hch : d = .park → ∃ s r tm, w.heap[p.J]? = some (.chan 0 #[] false s r tm)) : Conc.woken p.P g g' w o = o := by
  rcases h.status I with ⟨rfl, _⟩ | ⟨_, h1⟩
  · cases l <;> simp only [WS] at h
    obtain ⟨g0, z, _, _, rfl⟩ := h
    obtain ⟨s, r, tm, hc⟩ := hch rfl
    exact woken_recv_open _ _ hc
  · unfold Conc.woken
    split
    · exact again_running _ (h1.imp id fun q => q.1)
    · rfl
theorem phi_retag (n V : Nat) {tag tag' : STag} (e : tag' = tag ∨ (tag = .blk ∧ tag' = .w3)) : tag'.phi n V = tag.phi n V := by
  rcases e with rfl | ⟨rfl, rfl⟩ <;> rfl
theorem phi_mono (n : Nat) {V V' : Nat} (h : V' ≤ V) (tag : STag) : tag.phi n V' ≤ tag.phi n V := by
  cases tag <;> simp only [STag.phi] <;> omega
theorem Sit.wstep (I : RecvI p Recv) (h : Sit p Aft Anch Recv nW gs w t j D L tag l0 ow oj st sm) {i : Nat} (hi : i < j) {g g' : Goroutine} {w' : World} {es : Array Event} (hg : gs[i + 1]? = some g) (hgo : stepG p.P false g w = .go g' w' es)
    (e : Eff p ow (i + 1) w w') {ow' : Nat → Nat} (how : ∀ b, b < w.heap.size → ow' b = ow b) (hown : ∀ b, w'.heap.size ≤ b → ow' b = 0) {d' : WTag} {l' : LL p} (hws : WS p Recv ow' (i + 1) d' l' g' w') {st' sm' : Int} (hwg : WgA p w' st' sm') (hch : w'.heap[p.J]? = w.heap[p.J]?)
    (hmd : ∀ tag', (tag' = tag ∨ (tag = .blk ∧ tag' = .w3)) → (mayWake p.P g = true → g'.status = .running → tag' ≠ .blk) → MD j (upd D i d') tag' st' sm')
    (hop : tag.closed = false → 8 ≤ d'.stage) (hnp : d' ≠ .park) (hjb : JB p j (upd D i d') oj (tag.sent p.n) w')
    (htr : TR p ow' oj j w'.heap.size (t ++ MemOp.ofEvents (i + 1) g.frame.fn g.frame.place es)) (hdf : deafBehind (D i).deaf es = d'.deaf)
    (hrel : d'.stage ≤ 6 → ∃ r, RelBy (stA p.Wg) (t ++ MemOp.ofEvents (i + 1) g.frame.fn g.frame.place es) (i + 1) r)
    (hlt : (d'.stage < (D i).stage ∧ d'.cnt ≤ (D i).cnt) ∨ (d'.stage = (D i).stage ∧ LLt p l' (L i))) : Nxt p Aft Anch Recv nW (mu p j D L tag l0) (runT p.P (crowd gs w sl) (i + 1)) t := by
  obtain ⟨a, ha, hcs⟩ := h.zero
  obtain ⟨s, r, tm, hc⟩ := h.ch
  have hops : ∀ op ∈ MemOp.ofEvents (i + 1) g.frame.fn g.frame.place es, op.g = i + 1 := fun op hop => by obtain ⟨e, _, rfl⟩ := Go.Conc.mem_ofEvents hop; rfl
  obtain ⟨tag', l0', hcs', htag, hwk⟩ := (hcs.eff e (by omega) how).woken (g := g) (g' := g') (fun q => ⟨s, r, tm, by rw [hch, hc, q]⟩)
  have htag2 : tag' = tag ∨ (tag = .blk ∧ tag' = .w3) := htag.imp (·.1) id
  have hclo : tag'.closed = tag.closed := by rcases htag2 with rfl | ⟨rfl, rfl⟩ <;> rfl
  have hsent : tag'.sent p.n = tag.sent p.n := by rcases htag2 with rfl | ⟨rfl, rfl⟩ <;> rfl
  have hleft : tag'.left = tag.left := by rcases htag2 with rfl | ⟨rfl, rfl⟩ <;> rfl
  have hdeaf : tag'.deaf = tag.deaf := by rcases htag2 with rfl | ⟨rfl, rfl⟩ <;> rfl
  have hrun := runT_crowd_go (P := p.P) (sl := sl) (i := i + 1) hg (by simpa using hgo)
  refine ⟨_, w', sl, _, j, upd D i d', upd L i l', tag', l0', ow', oj, st', sm', hrun, ?_, ?_⟩
  · refine ⟨by simp [h.size], e.kn, ⟨_, by rw [get_map_set _ _ _ _ (by omega), ha]; rfl, hcs'⟩, fun k hk => ?_, hwg, hmd tag' htag2 hwk, ⟨s, r, tm, by rw [hch, hc, hclo]⟩, fun q k hk => ?_, fun q k hk => ?_, fun i' q k hk => ?_, by rw [hsent]; exact hjb, by rw [hleft]; exact h.left, h.few, htr, ?_, fun k hk => ?_, fun k hk => ?_, fun k hk hst => ?_, hown⟩
    · by_cases q : k = i
      · subst q
        exact ⟨g', get_map_set_same _ _ _ (by rw [h.size]; omega), by rw [upd_same, upd_same]; exact hws⟩
      · obtain ⟨o, ho, hwo⟩ := h.wks k hk
        have hwo' := hwo.eff e (by omega) how
        refine ⟨o, ?_, by rw [upd_ne _ _ q, upd_ne _ _ q]; exact hwo'⟩
        rw [get_map_set _ _ _ _ (by omega), ho, Option.map_some, hwo'.woken I (fun hp => ?_)]
        by_cases hcl : tag.closed = true
        · exact absurd hp (h.cl hcl k hk)
        · exact ⟨s, r, tm, by rw [hch, hc]; simp [hcl]⟩
    · rw [hclo] at q
      unfold upd
      split
      · exact hop q
      · exact h.op q k hk
    · rw [hclo] at q
      unfold upd
      split
      · exact hnp
      · exact h.cl q k hk
    · have q' : tag = .sndp i' := by rcases htag2 with rfl | ⟨rfl, rfl⟩; exact q; cases q
      unfold upd
      split
      · exact hnp
      · exact h.np i' q' k hk
    · rw [Deaf_other t (by omega) _ hops, hdeaf]; exact h.df0
    · by_cases q : k = i
      · subst q
        rw [Deaf_own, upd_same, h.dfw k hk]; exact hdf
      · rw [Deaf_other t (by omega) _ hops, upd_ne _ _ q]; exact h.dfw k hk
    · rw [Deaf_other t (by omega) _ hops]; exact h.dfx k hk
    · by_cases q : k = i
      · subst q
        rw [upd_same] at hst
        exact hrel hst
      · rw [upd_ne _ _ q] at hst
        obtain ⟨r, hr⟩ := h.rel k hk hst
        exact ⟨r, hr.appOther hops (by omega)⟩
  · have e1 := Vc_upd (D := D) hi d'
    have e2 := St_upd (D := D) hi d'
    unfold mu Gm
    rw [phi_retag p.n _ htag2]
    rcases hlt with ⟨h1, h2⟩ | ⟨h1, h2⟩
    · refine Prod.Lex.left _ _ ?_
      have := phi_mono p.n (V := Vc j D) (V' := Vc j (upd D i d')) (by omega) tag
      omega
    · have hcn : d'.cnt = (D i).cnt := by unfold WTag.cnt; rw [h1]
      have ev : Vc j (upd D i d') = Vc j D := by omega
      have es' : (sumTo j fun a => (upd D i d' a).stage) = sumTo j fun a => (D a).stage := by omega
      rw [ev, es']
      refine Prod.Lex.right _ (Prod.Lex.left _ _ ?_)
      exact oneOf_upd0 L h2 hi
end
end Go.Proofs.Q
namespace Go.Proofs.Q
open Go Go.Conc Go.ConcN
open Go.ConcR (KK stA smA rd wr)
set_option linter.unusedVariables false
set_option linter.unusedSectionVars false
set_option linter.unusedSimpArgs false
section
variable {p : Pm} {w w1 : World} {st sm st' sm' : Int} {ow : Nat → Nat} {k : Nat}
theorem KN.setWg (h : KN p w) (hA : Aside p.Wg w w1) (hw : WgA p w1 st' sm') : KN p w1 := by
  have hW := p.bWg; have h1 := p.dJW; have h2 := p.dWC
  exact ⟨by rw [hA.size]; exact h.size, hA.os.trans h.os, hA.output.trans h.out, fun b hb => by rw [hA.block b (by omega)]; exact h.lo b hb, fun b o hb ho => by rw [hA.block b (by omega)]; exact h.low b o hb ho, fun b hb hr => by rw [hA.block b hr.2.2.2]; exact h.mid b hb hr, ⟨_, _, hw⟩, by rw [hA.block p.C (by omega)]; exact h.pay, by rw [hA.block p.J h1]; exact h.ch⟩
theorem KN.setC (h : KN p w) (hA : Aside p.C w w1) (hc : ∃ cs : Array Value, w1.heap[p.C]? = some (.cells cs p.eC) ∧ cs.size = p.n) : KN p w1 := by
  have hW := p.bC; have h1 := p.dJC; have h2 := p.dWC
  exact ⟨by rw [hA.size]; exact h.size, hA.os.trans h.os, hA.output.trans h.out, fun b hb => by rw [hA.block b (by omega)]; exact h.lo b hb, fun b o hb ho => by rw [hA.block b (by omega)]; exact h.low b o hb ho, fun b hb hr => by rw [hA.block b hr.2.1]; exact h.mid b hb hr, by rw [hA.block p.Wg h2]; exact h.wg, hc, by rw [hA.block p.J h1]; exact h.ch⟩
theorem KN.setJ (h : KN p w) (hA : Aside p.J w w1) (hc : ∃ closed s r tm, w1.heap[p.J]? = some (.chan 0 #[] closed s r tm)) : KN p w1 := by
  have hW := p.bJ; have h1 := p.dJC; have h2 := p.dJW
  exact ⟨by rw [hA.size]; exact h.size, hA.os.trans h.os, hA.output.trans h.out, fun b hb => by rw [hA.block b (by omega)]; exact h.lo b hb, fun b o hb ho => by rw [hA.block b (by omega)]; exact h.low b o hb ho, fun b hb hr => by rw [hA.block b hr.2.2.1]; exact h.mid b hb hr, by rw [hA.block p.Wg (by omega)]; exact h.wg, by rw [hA.block p.C (by omega)]; exact h.pay, hc⟩
theorem eff_block {b0 : Nat} (hb : p.base ≤ b0 ∧ b0 < p.top) (hA : Aside b0 w w1) (hk : KN p w1) : Eff p ow k w w1 :=
  ⟨hk, Nat.le_of_eq hA.size.symm, fun b h1 _ _ => hA.block b (by omega), fun b o hb' ho => ⟨o, by rw [hA.block b (by omega)]; exact ho, .inl rfl⟩⟩
theorem eff_same (hk : KN p w) : Eff p ow k w w := ⟨hk, Nat.le_refl _, fun _ _ _ _ => rfl, fun b o _ ho => ⟨o, ho, .inl rfl⟩⟩
theorem WgA.setSt (h : WgA p w st sm) (v : Int) : WgA p (w.setCell (stA p.Wg) (.int .u64 v)) v sm := Go.ConcR.WgAt.setSt (ty := p.ty) (Wg := p.Wg) h v
theorem WgA.setSm (h : WgA p w st sm) (v : Int) : WgA p (w.setCell (smA p.Wg) (.int .u32 v)) st v := Go.ConcR.WgAt.setSm (ty := p.ty) (Wg := p.Wg) h v
end
section
variable {j : Nat} {D : Nat → WTag} {tag tag' : STag} {st sm : Int}
theorem MD.retag (h : MD j D tag st sm) (e : tag' = tag ∨ (tag = .blk ∧ tag' = .w3)) : MD j D tag' st sm := by
  rcases e with rfl | ⟨rfl, rfl⟩
  · exact h
  · cases h with
    | opn h1 _ _ => exact h1.elim
    | reg _ h2 h3 => exact .reg trivial h2 h3
    | last L _ h2 h3 h4 => exact .last L trivial h2 h3 h4
    | sema _ h1 _ => exact absurd rfl h1
    | fin h1 _ => exact h1.elim
theorem MD.work (h : MD j D tag st sm) {i : Nat} (hi : i < j) {d : WTag} (h1 : 5 ≤ (D i).stage) (h2 : 5 ≤ d.stage) (e : tag' = tag ∨ (tag = .blk ∧ tag' = .w3)) : MD j (upd D i d) tag' st sm := by
  refine MD.retag ?_ e
  have c1 : (D i).cnt = 1 := by unfold WTag.cnt; rw [if_pos h1]
  have c2 : d.cnt = 1 := by unfold WTag.cnt; rw [if_pos h2]
  have hv : Vc j (upd D i d) = Vc j D := by have := Vc_upd (D := D) hi d; omega
  have ho : OpenSt j D → OpenSt j (upd D i d) := fun q k hk => by unfold upd; split; exact .inl h2; exact q k hk
  cases h with
  | opn q1 q2 q3 => rw [← hv]; exact .opn q1 (ho q2) (by rw [hv]; exact q3)
  | reg q1 q2 q3 => rw [← hv]; exact .reg q1 (ho q2) (by rw [hv]; exact q3)
  | last L q1 q2 q3 q4 =>
    by_cases e : i = L
    · subst e; omega
    · have := q4 i hi e; omega
  | sema q1 q2 q3 => have := q3 i hi; omega
  | fin q1 q2 => have := q2 i hi; omega
theorem MD.done (h : MD j D tag st sm) {i : Nat} (hi : i < j) {d : WTag} (h1 : (D i).stage = 1) (h2 : d.stage = 1) (e : tag' = tag ∨ (tag = .blk ∧ tag' = .w3)) : MD j (upd D i d) tag' st sm := by
  refine MD.retag ?_ e
  have c1 : d.cnt = (D i).cnt := by unfold WTag.cnt; rw [h1, h2]
  have hv : Vc j (upd D i d) = Vc j D := by have := Vc_upd (D := D) hi d; omega
  have hst : ∀ k, (upd D i d k).stage = (D k).stage := fun k => by unfold upd; split <;> simp_all
  have ho : OpenSt j D → OpenSt j (upd D i d) := fun q k hk => by rw [hst]; exact q k hk
  cases h with
  | opn q1 q2 q3 => rw [← hv]; exact .opn q1 (ho q2) (by rw [hv]; exact q3)
  | reg q1 q2 q3 => rw [← hv]; exact .reg q1 (ho q2) (by rw [hv]; exact q3)
  | last L q1 q2 q3 q4 =>
    have := MD.last (D := upd D i d) L q1 q2 (by rw [hst]; exact q3) (fun k hk hne => by rw [hst]; exact q4 k hk hne)
    rw [hst] at this
    exact this
  | sema q1 q2 q3 => exact .sema q1 q2 fun k hk => by rw [hst]; exact q3 k hk
  | fin q1 q2 => exact .fin q1 fun k hk => by rw [hst]; exact q2 k hk
end
section
variable {p : Pm} {Aft Anch Recv : Goroutine → Prop} {nW : Nat} {gs : Array Goroutine} {w : World} {t : Trace} {j : Nat} {D : Nat → WTag} {L : Nat → LL p} {tag : STag} {l0 : LL p} {ow oj : Nat → Nat} {st sm : Int} {sl : Option (Nat × Nat)} {i : Nat} {g : Goroutine}
theorem JB.keep {oj : Nat → Nat} {i0 : Nat} (h : JB p j D oj i0 w) {w' : World} (hc : w'.heap[p.C]? = w.heap[p.C]?) {d : WTag} (h1 : ∀ c, D i ≠ .job c) (h2 : ∀ c, d ≠ .job c) : JB p j (upd D i d) oj i0 w' := by
  have hcell : ∀ c, w'.cell? ⟨p.C, c, none⟩ = w.cell? ⟨p.C, c, none⟩ := fun c => by unfold World.cell?; rw [hc]
  refine ⟨fun c hc => ⟨(h.sent c hc).1, (h.sent c hc).2.imp (fun ⟨k, hk, e⟩ => ⟨k, hk, by
    by_cases q : k = i
    · subst q; exact absurd e (h1 c)
    · rw [upd_ne _ _ q]; exact e⟩) fun e => by rw [hcell]; exact e⟩, h.free, fun k c hk e => ?_, h.le⟩
  by_cases q : k = i
  · subst q; rw [upd_same] at e; exact absurd e (h2 c)
  · rw [upd_ne _ _ q] at e; exact h.mine k c hk e
theorem JB.stay {oj : Nat → Nat} {i0 : Nat} (h : JB p j D oj i0 w) {w' : World} (hc : w'.heap[p.C]? = w.heap[p.C]?) : JB p j D oj i0 w' := by
  have hcell : ∀ c, w'.cell? ⟨p.C, c, none⟩ = w.cell? ⟨p.C, c, none⟩ := fun c => by unfold World.cell?; rw [hc]
  exact ⟨fun c hc => ⟨(h.sent c hc).1, (h.sent c hc).2.imp id fun e => by rw [hcell]; exact e⟩, h.free, h.mine, h.le⟩
def owN (ow : Nat → Nat) (w w' : World) (k b : Nat) : Nat := if w.heap.size ≤ b ∧ b < w'.heap.size then k else ow b
theorem Sit.wpriv (I : RecvI p Recv) (h : Sit p Aft Anch Recv nW gs w t j D L tag l0 ow oj st sm) (hi : i < j) (hg : gs[i + 1]? = some g) {x : { x : X // Acc (NxW p) x }} (hL : L i = .inl x) (hx : Way p ow (i + 1) ((D i).stop p Recv) false (D i).q x.1 g w) (hs : ¬ x.1.stops p) (hnp : D i ≠ .park) (hws : ∀ ow' x' g' w', Way p ow' (i + 1) ((D i).stop p Recv) false (D i).q x'.1 g' w' → WS p Recv ow' (i + 1) (D i) (.inl x') g' w') :
    Nxt p Aft Anch Recv nW (mu p j D L tag l0) (runT p.P (crowd gs w sl) (i + 1)) t := by
  obtain ⟨x, hacc⟩ := x
  obtain ⟨xm, xS, S, xg, xw⟩ := x
  obtain ⟨e1, e2, e3, lv, rl, own⟩ := hx
  simp only at e1 e2 e3 lv rl own
  subst e1 e2 e3
  cases lv with
  | stop q => exact absurd q hs
  | step hr q1 q2 =>
    obtain ⟨g', w', es, hgo, hp, hqe⟩ := q1 w rl
    have hlv := q2 w g' w' es rl hgo
    have hsz := rl.size
    have htop := h.kn.size
    have hC := p.bC; have hW := p.bWg; have hJ := p.bJ
    have keep : ∀ b, p.base ≤ b → b < p.top → w'.heap[b]? = w.heap[b]? := fun b h1 h2 => hp.rest b h1 (by omega) (fun q => by have := (own b q).1; omega)
    have hE : Eff p ow (i + 1) w w' := ⟨hp.kn, hp.size, fun b h1 h2 h3 => hp.rest b (by omega) h2 (fun q => h3 (own b q).2.2), hp.low⟩
    have hacc' := hlv.acc
    have hw' : Way p (owN ow w w' (i + 1)) (i + 1) ((D i).stop p Recv) false (D i).q ⟨false, (D i).stop p Recv, more S w w', g', w'⟩ g' w' := ⟨rfl, rfl, rfl, hlv, Rl.refl hp.kn, fun b hb => by
      have := hp.size
      rcases hb with hb | ⟨hb1, hb2⟩
      · obtain ⟨q1, q2, q3⟩ := own b hb
        exact ⟨q1, by show b < w'.heap.size; omega, by unfold owN; rw [if_neg (by omega)]; exact q3⟩
      · exact ⟨by omega, hb2, by unfold owN; rw [if_pos ⟨hb1, hb2⟩]⟩⟩
    have hdq : (D i).deaf = 0 ∨ (D i).q = true := by cases hd : D i <;> first | exact .inl rfl | exact .inr rfl
    refine h.wstep I hi hg hgo hE (ow' := owN ow w w' (i + 1)) (fun b hb => by unfold owN; rw [if_neg (by omega)]) (fun b hb => ?_) (d' := D i) (l' := .inl ⟨⟨false, (D i).stop p Recv, more S w w', g', w'⟩, hacc'⟩) (hws _ ⟨_, hacc'⟩ _ _ hw') (st' := st) (sm' := sm) ?_ (keep p.J hJ.1 hJ.2) (fun tag' ht _ => ?_) (fun q => h.op q i hi) hnp ?_ ?_ ?_ (fun q => ?_) (.inr ⟨rfl, ?_⟩)
    · have := hp.size
      unfold owN
      rw [if_neg (by omega)]
      exact h.own b (by omega)
    · show w'.heap[p.Wg]? = _
      rw [keep p.Wg hW.1 hW.2]; exact h.wg
    · rw [upd_eta]; exact h.md.retag ht
    · rw [upd_eta]; exact h.jb.stay (keep p.C hC.1 hC.2)
    · exact h.tr.priv (by omega) (by omega) rfl hp (by rw [h.dfw i hi]; exact hdq.imp id hqe) (fun b hb => ⟨(own b hb).1, (own b hb).2.2⟩) htop (fun b hb => by unfold owN; rw [if_neg (by omega)]) (fun b h1 h2 => by unfold owN; rw [if_pos ⟨h1, h2⟩]) (fun b hb => by have := (own b hb).2.1; omega) _ _
    · exact deafBehind_still (fun e he => ⟨((hp.evs e he).low (by have := hp.size; omega)).2.1, ((hp.evs e he).low (by have := hp.size; omega)).2.2.1⟩) _
    · obtain ⟨r, hr⟩ := h.rel i hi q
      have he : es = #[] := hqe (by simp [WTag.q, q])
      exact ⟨r, hr.appOwn _ _ _ (fun j e hj => by rw [he] at hj; simp at hj)⟩
    · rw [hL]
      exact .way ⟨hs, w, es, rl, hgo, rfl, rfl, rfl⟩
theorem Sit.wquit (I : RecvI p Recv) (h : Sit p Aft Anch Recv nW gs w t j D L tag l0 ow oj st sm) (hi : i < j) (hg : gs[i + 1]? = some g) (hrun : g.status = .running) {d q : Nat} (hD : D i = .quit d) (hL : L i = .inr q) (hq : QuitsD p.P q d g) :
    Nxt p Aft Anch Recv nW (mu p j D L tag l0) (runT p.P (crowd gs w sl) (i + 1)) t := by
  cases q with
  | zero => rw [hq.1] at hrun; cases hrun
  | succ q =>
    rcases hq with ⟨hf, _⟩ | ⟨_, g', es, hm, hst, hq'⟩
    · rw [hf] at hrun; cases hrun
    · obtain ⟨r, hr⟩ := h.rel i hi (by rw [hD]; simp [WTag.stage])
      have hcl : tag.closed = true := by
        cases hc : tag.closed with
        | true => rfl
        | false => have := h.op hc i hi; rw [hD] at this; simp [WTag.stage] at this
      refine h.wstep I hi hg (hst w) (eff_same h.kn) (fun _ _ => rfl) h.own (d' := .quit (deafBehind d es)) (l' := .inr q) hq' h.wg rfl (fun tag' ht _ => h.md.done hi (by rw [hD]; rfl) rfl ht) (fun q => by rw [hcl] at q; cases q) (by simp) (h.jb.keep rfl (by rw [hD]; simp) (by simp)) ?_ (by rw [hD]; rfl) (fun _ => ⟨r, hr.appOwn _ _ _ (fun j e hj => .inl (touch_mute (hm e (Array.mem_of_getElem? hj))))⟩) (.inr ⟨by rw [hD]; rfl, by rw [hL]; exact .fuel (Nat.lt_succ_self _)⟩)
      refine h.tr.appE (by omega) (by omega) (Nat.le_refl _) _ _ (fun k e x he hx => ?_) (fun e he => low_mute (hm e he) _) (fun e he q => ?_) (fun e he x a hx => ?_)
      · rw [touch_mute (hm e (Array.mem_of_getElem? he))] at hx; cases hx
      · have := hm e he
        obtain ⟨loc, wr, sy⟩ := e
        simp only at q
        subst q
        simp [Event.mute] at this
      · rw [touch_mute (hm e he)] at hx; cases hx
end
end Go.Proofs.Q
namespace Go.Proofs.Q
open Go Go.Conc Go.ConcN
open Go.ConcR (KK stA smA rd wr)
set_option linter.unusedVariables false
set_option linter.unusedSectionVars false
set_option linter.unusedSimpArgs false
section
variable {p : Pm} {Aft Anch Recv : Goroutine → Prop} {nW : Nat} {gs : Array Goroutine} {w : World} {t : Trace} {j : Nat} {D : Nat → WTag} {L : Nat → LL p} {tag : STag} {l0 : LL p} {ow oj : Nat → Nat} {st sm : Int} {sl : Option (Nat × Nat)} {i : Nat} {g : Goroutine}
theorem Sit.closed_of (h : Sit p Aft Anch Recv nW gs w t j D L tag l0 ow oj st sm) (hi : i < j) (hs : (D i).stage < 8) : tag.closed = true := by
  cases hc : tag.closed with
  | true => rfl
  | false => have := h.op hc i hi; omega
theorem Sit.wstor (I : RecvI p Recv) (h : Sit p Aft Anch Recv nW gs w t j D L tag l0 ow oj st sm) (hi : i < j) (hg : gs[i + 1]? = some g) {c : Nat} (hD : D i = .job c) (hs : SSto p Recv c g w) :
    Nxt p Aft Anch Recv nW (mu p j D L tag l0) (runT p.P (crowd gs w sl) (i + 1)) t := by
  obtain ⟨_, g', hgo, hlv⟩ := hs
  obtain ⟨hc1, hc2⟩ := h.jb.mine i c hi hD
  have hcn : c < p.n := Nat.lt_of_lt_of_le hc1 h.jb.le
  have hA := aside_setCell w ⟨p.C, c, none⟩ (p.ans c)
  obtain ⟨cs, hcs, hsz⟩ := h.kn.pay
  have hC : (w.setCell ⟨p.C, c, none⟩ (p.ans c)).heap[p.C]? = some (.cells (cs.setIfInBounds c (p.ans c)) p.eC) := by
    simp [World.setCell, Array.getElem?_modify, hcs]
  have hkn : KN p (w.setCell ⟨p.C, c, none⟩ (p.ans c)) := h.kn.setC hA ⟨_, hC, by simp [hsz]⟩
  have hE : Eff p ow (i + 1) w (w.setCell ⟨p.C, c, none⟩ (p.ans c)) := eff_block p.bC hA hkn
  obtain ⟨x, hx⟩ := hlv.way hkn ow (i + 1)
  have d1 := p.dWC; have d2 := p.dJC; have hCt := p.bC; have htop := h.kn.size
  refine h.wstep I hi hg hgo hE (fun _ _ => rfl) (fun b hb => h.own b (by rw [hA.size] at hb; exact hb)) (d' := .recv) (l' := .inl x) hx (st' := st) (sm' := sm) ?_ (hA.block p.J d2) (fun tag' ht _ => h.md.work hi (by rw [hD]; simp [WTag.stage]) (by simp [WTag.stage]) ht) (fun _ => by simp [WTag.stage]) (by simp) ⟨fun c' hc' => ⟨(h.jb.sent c' hc').1, ?_⟩, h.jb.free, fun k c' hk e => ?_, h.jb.le⟩ ?_ (by rw [hD]; rfl) (fun q => by simp [WTag.stage] at q) (.inl ⟨by rw [hD]; simp [WTag.stage], by rw [hD]; simp [WTag.cnt, WTag.stage]⟩)
  · show (w.setCell ⟨p.C, c, none⟩ (p.ans c)).heap[p.Wg]? = _
    rw [hA.block p.Wg d1]; exact h.wg
  · by_cases e : c' = c
    · subst e
      refine .inr ?_
      unfold World.cell?
      simp only [hC]
      simp [hsz, hcn]
    · rcases (h.jb.sent c' hc').2 with ⟨k, hk, q⟩ | q
      · refine .inl ⟨k, hk, ?_⟩
        have hne : k ≠ i := fun q' => by subst q'; rw [hD] at q; cases q; exact e rfl
        rw [upd_ne _ _ hne]; exact q
      · refine .inr ?_
        unfold World.cell? at q ⊢
        simp only [hC]
        simp only [hcs] at q
        simp only [Option.isSome_none, Bool.false_eq_true, if_false] at q ⊢
        rw [Array.getElem?_setIfInBounds_ne (fun q' => e q'.symm)]; exact q
  · by_cases q : k = i
    · subst q; rw [upd_same] at e; cases e
    · rw [upd_ne _ _ q] at e; exact h.jb.mine k c' hk e
  · refine h.tr.appE (by omega) (by omega) (by rw [hA.size]; exact Nat.le_refl _) _ _ (fun k e x he hx hm => .inr ⟨?_, ?_⟩) (fun e he => ?_) (fun e he => ?_) (fun e he x a hx hl hb => ?_)
    · rw [h.dfw i hi, hD]
      have : k = 0 := by
        have := (Array.getElem?_eq_some_iff.1 he).1
        simp at this; exact this
      subst this
      rfl
    · have : k = 0 := by
        have := (Array.getElem?_eq_some_iff.1 he).1
        simp at this; exact this
      subst this
      simp at he
      subst he
      simp only [MemAct.ofEvent, MemAct.touch?, Option.some.injEq] at hx
      subst hx
      exact .inl (.inl ⟨rfl, hc2⟩)
    · simp at he
      subst he
      show p.C < _
      rw [hA.size]
      omega
    · simp at he
      subst he
      simp
    · simp at he
      subst he
      simp only [MemAct.ofEvent, MemAct.touch?, Option.some.injEq] at hx
      subst hx
      simp only [Loc.cell.injEq] at hl
      subst hl
      show 1 ≤ oj c
      omega
theorem Sit.wrel (I : RecvI p Recv) (h : Sit p Aft Anch Recv nW gs w t j D L tag l0 ow oj st sm) (hi : i < j) (hg : gs[i + 1]? = some g) (hD : D i = .rel) (hs : SRel p g w) :
    Nxt p Aft Anch Recv nW (mu p j D L tag l0) (runT p.P (crowd gs w sl) (i + 1)) t := by
  obtain ⟨_, g', hgo, hlv⟩ := hs
  obtain ⟨x, hx⟩ := hlv.way h.kn ow (i + 1)
  have hcl := h.closed_of hi (by rw [hD]; simp [WTag.stage])
  refine h.wstep I hi hg hgo (eff_same h.kn) (fun _ _ => rfl) h.own (d' := .k1) (l' := .inl x) hx h.wg rfl (fun tag' ht _ => h.md.work hi (by rw [hD]; simp [WTag.stage]) (by simp [WTag.stage]) ht) (fun q => by rw [hcl] at q; cases q) (by simp) (h.jb.keep rfl (by rw [hD]; simp) (by simp)) (h.tr.grp (by omega) (by omega) (fun e he => .inr ⟨.releaseMerge (stA p.Wg), by simpa using he, .inr (.inr rfl)⟩) h.kn.size _ _) (by rw [hD]; rfl) (fun _ => ⟨_, RelBy.new (by rw [h.dfw i hi, hD]; rfl) _ _⟩) (.inl ⟨by rw [hD]; simp [WTag.stage], by rw [hD]; simp [WTag.cnt, WTag.stage]⟩)
theorem Sit.wk1 (I : RecvI p Recv) (h : Sit p Aft Anch Recv nW gs w t j D L tag l0 ow oj st sm) (hi : i < j) (hg : gs[i + 1]? = some g) (hD : D i = .k1) (hs : SK1 p g w) :
    Nxt p Aft Anch Recv nW (mu p j D L tag l0) (runT p.P (crowd gs w sl) (i + 1)) t := by
  obtain ⟨_, g', hgo, hlv⟩ := hs
  obtain ⟨x, hx⟩ := hlv.way h.kn ow (i + 1)
  have hcl := h.closed_of hi (by rw [hD]; simp [WTag.stage])
  obtain ⟨r, hr⟩ := h.rel i hi (by rw [hD]; simp [WTag.stage])
  refine h.wstep I hi hg hgo (eff_same h.kn) (fun _ _ => rfl) h.own (d' := .d1) (l' := .inl x) hx h.wg rfl (fun tag' ht _ => h.md.work hi (by rw [hD]; simp [WTag.stage]) (by simp [WTag.stage]) ht) (fun q => by rw [hcl] at q; cases q) (by simp) (h.jb.keep rfl (by rw [hD]; simp) (by simp)) (h.tr.grp (by omega) (by omega) (fun e he => .inr ⟨.disable, by simpa using he, .inl rfl⟩) h.kn.size _ _) (by rw [hD]; rfl) (fun _ => ⟨r, hr.appOwn _ _ _ (fun k e hk => .inl ?_)⟩) (.inl ⟨by rw [hD]; simp [WTag.stage], by rw [hD]; simp [WTag.cnt, WTag.stage]⟩)
  have : e = ConcR.mk .disable := by simpa using Array.mem_of_getElem? hk
  subst this
  rfl
theorem two_at {α : Type} {a b e : α} {k : Nat} (h : (#[a, b] : Array α)[k]? = some e) : (k = 0 ∧ e = a) ∨ (k = 1 ∧ e = b) := by
  match k with
  | 0 => simp at h; exact .inl ⟨rfl, h.symm⟩
  | 1 => simp at h; exact .inr ⟨rfl, h.symm⟩
  | k + 2 => simp at h
theorem one_at {α : Type} {a e : α} {k : Nat} (h : (#[a] : Array α)[k]? = some e) : k = 0 ∧ e = a := by
  match k with
  | 0 => simp at h; exact ⟨rfl, h.symm⟩
  | k + 1 => simp at h
theorem Sit.wd1 (I : RecvI p Recv) (h : Sit p Aft Anch Recv nW gs w t j D L tag l0 ow oj st sm) (hi : i < j) (hg : gs[i + 1]? = some g) (hD : D i = .d1) (hs : SD1 p g w) :
    Nxt p Aft Anch Recv nW (mu p j D L tag l0) (runT p.P (crowd gs w sl) (i + 1)) t := by
  have hcl := h.closed_of hi (by rw [hD]; simp [WTag.stage])
  obtain ⟨r, hr⟩ := h.rel i hi (by rw [hD]; simp [WTag.stage])
  have d1 := p.dJW; have d2 := p.dWC
  have hVj := Vc_le j D
  have hV1 : 1 ≤ Vc j D := by
    have := le_sumTo (f := fun i => (D i).cnt) hi
    have h2 : (D i).cnt = 1 := by rw [hD]; rfl
    unfold Vc
    omega
  have hpl : tag.pend ≤ tag.left := by cases tag <;> simp [STag.pend, STag.left]
  have hleft := h.left
  have hfew := h.few
  have main : ∀ (v wt : Nat) (d' : WTag) (l' : LL p) (g' : Goroutine), stepG p.P false g w = .go g' (w.setCell (stA p.Wg) (.int .u64 (v * KK + wt))) #[rd (stA p.Wg), wr (stA p.Wg)] → (d' = .d2 ∨ d' = .quit 1) →
      (KN p (w.setCell (stA p.Wg) (.int .u64 (v * KK + wt))) → WS p Recv ow (i + 1) d' l' g' (w.setCell (stA p.Wg) (.int .u64 (v * KK + wt)))) → sm = 0 →
      (∀ tag', (tag' = tag ∨ (tag = .blk ∧ tag' = .w3)) → MD j (upd D i d') tag' (v * KK + wt) 0) → Nxt p Aft Anch Recv nW (mu p j D L tag l0) (runT p.P (crowd gs w sl) (i + 1)) t := by
    intro v wt d' l' g' hgo hd' hws hsm hmd
    subst hsm
    have hA := aside_setCell w (stA p.Wg) (.int .u64 (v * KK + wt))
    have hwg := h.wg.setSt (v * KK + wt)
    have hkn := h.kn.setWg hA hwg
    refine h.wstep I hi hg hgo (eff_block p.bWg hA hkn) (fun _ _ => rfl) (fun b hb => h.own b (by rw [hA.size] at hb; exact hb)) (hws hkn) hwg (hA.block p.J d1) (fun tag' ht _ => hmd tag' ht) (fun q => by rw [hcl] at q; cases q) (by rcases hd' with rfl | rfl <;> simp) (h.jb.keep (hA.block p.C (by exact fun q => d2 q.symm)) (by rw [hD]; simp) (by rcases hd' with rfl | rfl <;> simp)) ?_ (by rw [hD]; rcases hd' with rfl | rfl <;> rfl) (fun _ => ⟨r, hr.appOwn _ _ _ (fun k e hk => .inr ⟨?_, ?_⟩)⟩) (.inl ⟨by rw [hD]; rcases hd' with rfl | rfl <;> simp [WTag.stage], by rw [hD]; rcases hd' with rfl | rfl <;> simp [WTag.cnt, WTag.stage]⟩)
    · rw [hA.size]
      refine h.tr.grp (by omega) (by omega) (fun e he => .inl ?_) h.kn.size _ _
      simp at he
      rcases he with rfl | rfl <;> exact ⟨_, _, rfl, rfl⟩
    · rcases two_at hk with ⟨_, rfl⟩ | ⟨_, rfl⟩ <;> exact ⟨_, _, rfl⟩
    · rw [h.dfw i hi, hD]
      rcases two_at hk with ⟨rfl, _⟩ | ⟨rfl, _⟩ <;> simp [deafBehind, WTag.deaf, rd, wr]
  have hcnt : ∀ d' : WTag, d'.cnt = 0 → Vc j (upd D i d') = Vc j D - 1 := fun d' hd => by
    have := Vc_upd (D := D) hi d'
    have h2 : (D i).cnt = 1 := by rw [hD]; rfl
    omega
  have hwg := h.wg
  have hmd := h.md
  cases hmd with
  | opn q1 q2 q3 =>
    obtain ⟨v, hv⟩ : ∃ v, Vc j D + tag.pend = v + 1 := ⟨Vc j D + tag.pend - 1, by omega⟩
    obtain ⟨g', hgo, _, h4⟩ := hs.2 v 0 (by omega) (by omega) (by
      have e : (((v : Int) + 1) * KK + ((0 : Nat) : Int)) = (((Vc j D + tag.pend : Nat) : Int) * KK) := by rw [hv]; simp
      rw [e]; exact hwg)
    obtain ⟨q, hq⟩ := h4 (by omega)
    refine main v 0 (.quit 1) (.inr q) g' hgo (.inr rfl) (fun _ => hq) rfl (fun tag' ht => MD.retag ?_ ht)
    have e : ((v : Int) * KK + ((0 : Nat) : Int)) = (((Vc j (upd D i (.quit 1)) + tag.pend : Nat) : Int) * KK) := by
      rw [hcnt _ rfl, show Vc j D - 1 + tag.pend = v by omega]; simp
    rw [e]
    refine .opn q1 (fun k hk => ?_) (fun vs hvs => ?_)
    · unfold upd; split
      · exact .inr rfl
      · exact q2 k hk
    · obtain ⟨r1, r2, r3⟩ := q3 vs hvs
      rw [hcnt _ rfl]
      exact ⟨by omega, r2, r3⟩
  | reg q1 q2 q3 =>
    obtain ⟨v, hv⟩ : ∃ v, Vc j D = v + 1 := ⟨Vc j D - 1, by omega⟩
    obtain ⟨g', hgo, h3, h4⟩ := hs.2 v 1 (by omega) (by omega) (by
      have e : (((v : Int) + 1) * KK + ((1 : Nat) : Int)) = ((Vc j D : Nat) : Int) * KK + 1 := by rw [hv]; simp
      rw [e]; exact hwg)
    by_cases hv0 : v = 0
    · subst hv0
      have hlv := h3 ⟨rfl, rfl⟩
      have hkn : KN p (w.setCell (stA p.Wg) (.int .u64 ((0 : Nat) * KK + (1 : Nat)))) := h.kn.setWg (aside_setCell w (stA p.Wg) _) (h.wg.setSt _)
      obtain ⟨x, hx⟩ := hlv.way hkn ow (i + 1)
      refine main 0 1 .d2 (.inl x) g' hgo (.inl rfl) (fun _ => hx) rfl (fun tag' ht => MD.retag ?_ ht)
      have oth : ∀ k, k < j → k ≠ i → (D k).stage = 1 := by
        intro k hk hne
        rcases q2 k hk with q | q
        · exfalso
          have hu := Vc_upd (D := D) hi (.quit 0)
          have h0 : (WTag.quit 0).cnt = 0 := rfl
          have h1 : (D i).cnt = 1 := by rw [hD]; rfl
          have := le_sumTo (f := fun a => (upd D i (.quit 0) a).cnt) hk
          have h2 : (upd D i (.quit 0) k).cnt = 1 := by rw [upd_ne _ _ hne]; unfold WTag.cnt; rw [if_pos q]
          unfold Vc at *
          omega
        · exact q
      have := MD.last (D := upd D i .d2) i q1 hi (by rw [upd_same]; exact .inl rfl) (fun k hk hne => by rw [upd_ne _ _ hne]; exact oth k hk hne)
      rw [upd_same] at this
      simpa [WTag.stage] using this
    · obtain ⟨q, hq⟩ := h4 (by omega)
      refine main v 1 (.quit 1) (.inr q) g' hgo (.inr rfl) (fun _ => hq) rfl (fun tag' ht => MD.retag ?_ ht)
      have e : ((v : Int) * KK + ((1 : Nat) : Int)) = ((Vc j (upd D i (.quit 1)) : Nat) : Int) * KK + 1 := by
        rw [hcnt _ rfl, show Vc j D - 1 = v by omega]; simp
      rw [e]
      refine .reg q1 (fun k hk => ?_) (by rw [hcnt _ rfl]; omega)
      unfold upd; split
      · exact .inr rfl
      · exact q2 k hk
  | last L' q1 q2 q3 q4 =>
    exfalso
    by_cases e : i = L'
    · subst e; rw [hD] at q3; simp [WTag.stage] at q3
    · have := q4 i hi e; rw [hD] at this; simp [WTag.stage] at this
  | sema q1 q2 q3 => have := q3 i hi; rw [hD] at this; simp [WTag.stage] at this
  | fin q1 q2 => have := q2 i hi; rw [hD] at this; simp [WTag.stage] at this
theorem Sit.last_of (h : Sit p Aft Anch Recv nW gs w t j D L tag l0 ow oj st sm) (hi : i < j) (hs : (D i).stage = 4 ∨ (D i).stage = 3 ∨ (D i).stage = 2) : tag.isReg ∧ (∀ k, k < j → k ≠ i → (D k).stage = 1) ∧ st = (if (D i).stage = 2 then 0 else 1) ∧ sm = 0 := by
  have hmd := h.md
  cases hmd with
  | opn q1 q2 q3 => have := q2 i hi; omega
  | reg q1 q2 q3 => have := q2 i hi; omega
  | last L' q1 q2 q3 q4 =>
    by_cases e : i = L'
    · subst e; exact ⟨q1, q4, rfl, rfl⟩
    · have := q4 i hi e; omega
  | sema q1 q2 q3 => have := q3 i hi; omega
  | fin q1 q2 => have := q2 i hi; omega
theorem last_upd {d' : WTag} (hi : i < j) (hr : tag.isReg) (ho : ∀ k, k < j → k ≠ i → (D k).stage = 1) (hd : d'.stage = 4 ∨ d'.stage = 3 ∨ d'.stage = 2) {tag' : STag} (ht : tag' = tag ∨ (tag = .blk ∧ tag' = .w3)) : MD j (upd D i d') tag' (if d'.stage = 2 then 0 else 1) 0 := by
  refine MD.retag ?_ ht
  have := MD.last (D := upd D i d') i hr hi (by rw [upd_same]; exact hd) (fun k hk hne => by rw [upd_ne _ _ hne]; exact ho k hk hne)
  rw [upd_same] at this
  exact this
theorem Sit.wd2 (I : RecvI p Recv) (h : Sit p Aft Anch Recv nW gs w t j D L tag l0 ow oj st sm) (hi : i < j) (hg : gs[i + 1]? = some g) (hD : D i = .d2) (hs : SD2 p g w) :
    Nxt p Aft Anch Recv nW (mu p j D L tag l0) (runT p.P (crowd gs w sl) (i + 1)) t := by
  have hcl := h.closed_of hi (by rw [hD]; simp [WTag.stage])
  obtain ⟨r, hr⟩ := h.rel i hi (by rw [hD]; simp [WTag.stage])
  obtain ⟨l1, l2, l3, l4⟩ := h.last_of hi (by rw [hD]; exact .inl rfl)
  rw [hD] at l3
  simp [WTag.stage] at l3
  subst l3 l4
  obtain ⟨g', hgo, hlv⟩ := hs.2 h.wg
  obtain ⟨x, hx⟩ := hlv.way h.kn ow (i + 1)
  refine h.wstep I hi hg hgo (eff_same h.kn) (fun _ _ => rfl) h.own (d' := .d3) (l' := .inl x) hx h.wg rfl (fun tag' ht _ => by have := last_upd (d' := .d3) hi l1 l2 (.inr (.inl rfl)) ht; simpa [WTag.stage] using this) (fun q => by rw [hcl] at q; cases q) (by simp) (h.jb.keep rfl (by rw [hD]; simp) (by simp)) (h.tr.grp (by omega) (by omega) (fun e he => .inl (by simp at he; subst he; exact ⟨_, _, rfl, rfl⟩)) h.kn.size _ _) (by rw [hD]; rfl) (fun _ => ⟨r, hr.appOwn _ _ _ (fun k e hk => .inr ?_)⟩) (.inl ⟨by rw [hD]; simp [WTag.stage], by rw [hD]; simp [WTag.cnt, WTag.stage]⟩)
  rw [h.dfw i hi, hD]
  obtain ⟨rfl, rfl⟩ := one_at hk
  exact ⟨⟨_, _, rfl⟩, by simp [deafBehind, WTag.deaf, rd, wr]⟩
theorem Sit.wd3 (I : RecvI p Recv) (h : Sit p Aft Anch Recv nW gs w t j D L tag l0 ow oj st sm) (hi : i < j) (hg : gs[i + 1]? = some g) (hD : D i = .d3) (hs : SD3 p g w) :
    Nxt p Aft Anch Recv nW (mu p j D L tag l0) (runT p.P (crowd gs w sl) (i + 1)) t := by
  have hcl := h.closed_of hi (by rw [hD]; simp [WTag.stage])
  obtain ⟨r, hr⟩ := h.rel i hi (by rw [hD]; simp [WTag.stage])
  obtain ⟨l1, l2, l3, l4⟩ := h.last_of hi (by rw [hD]; exact .inr (.inl rfl))
  rw [hD] at l3
  simp [WTag.stage] at l3
  subst l3 l4
  have d1 := p.dJW; have d2 := p.dWC
  obtain ⟨g', hgo, hlv⟩ := hs.2 h.wg
  have hA := aside_setCell w (stA p.Wg) (.int .u64 0)
  have hwg := h.wg.setSt 0
  have hkn := h.kn.setWg hA hwg
  obtain ⟨x, hx⟩ := hlv.way hkn ow (i + 1)
  refine h.wstep I hi hg hgo (eff_block p.bWg hA hkn) (fun _ _ => rfl) (fun b hb => h.own b (by rw [hA.size] at hb; exact hb)) (d' := .d4) (l' := .inl x) hx hwg (hA.block p.J d1) (fun tag' ht _ => by have := last_upd (d' := .d4) hi l1 l2 (.inr (.inr rfl)) ht; simpa [WTag.stage] using this) (fun q => by rw [hcl] at q; cases q) (by simp) (h.jb.keep (hA.block p.C (fun q => d2 q.symm)) (by rw [hD]; simp) (by simp)) ?_ (by rw [hD]; rfl) (fun _ => ⟨r, hr.appOwn _ _ _ (fun k e hk => .inr ?_)⟩) (.inl ⟨by rw [hD]; simp [WTag.stage], by rw [hD]; simp [WTag.cnt, WTag.stage]⟩)
  · rw [hA.size]
    exact h.tr.grp (by omega) (by omega) (fun e he => .inl (by simp at he; subst he; exact ⟨_, _, rfl, rfl⟩)) h.kn.size _ _
  · rw [h.dfw i hi, hD]
    obtain ⟨rfl, rfl⟩ := one_at hk
    exact ⟨⟨_, _, rfl⟩, by simp [deafBehind, WTag.deaf, rd, wr]⟩
theorem Sit.wd4 (I : RecvI p Recv) (h : Sit p Aft Anch Recv nW gs w t j D L tag l0 ow oj st sm) (hi : i < j) (hg : gs[i + 1]? = some g) (hD : D i = .d4) (hs : SD4 p g w) :
    Nxt p Aft Anch Recv nW (mu p j D L tag l0) (runT p.P (crowd gs w sl) (i + 1)) t := by
  have hcl := h.closed_of hi (by rw [hD]; simp [WTag.stage])
  obtain ⟨r, hr⟩ := h.rel i hi (by rw [hD]; simp [WTag.stage])
  obtain ⟨l1, l2, l3, l4⟩ := h.last_of hi (by rw [hD]; exact .inr (.inr rfl))
  rw [hD] at l3
  simp [WTag.stage] at l3
  subst l3 l4
  have d1 := p.dJW; have d2 := p.dWC
  obtain ⟨_, hmw, hs⟩ := hs
  obtain ⟨g', hgo, q, hq⟩ := hs h.wg
  have hrun' : g'.status = .running := by
    cases q with
    | zero => have := hq.2; cases this
    | succ q => rcases hq with ⟨_, h0⟩ | ⟨h0, _⟩; cases h0; exact h0
  have hA := aside_setCell w (smA p.Wg) (.int .u32 1)
  have hwg := h.wg.setSm 1
  have hkn := h.kn.setWg hA hwg
  have hsem : ∀ k e, (semEvents (smA p.Wg))[k]? = some e → (k = 0 ∧ e = ConcR.mk .disable) ∨ (k = 1 ∧ e = rd (smA p.Wg)) ∨ (k = 2 ∧ e = wr (smA p.Wg)) ∨ (k = 3 ∧ e = ConcR.mk .enable) := by
    intro k e hk
    match k with
    | 0 => simp [semEvents] at hk; exact .inl ⟨rfl, hk.symm⟩
    | 1 => simp [semEvents] at hk; exact .inr (.inl ⟨rfl, hk.symm⟩)
    | 2 => simp [semEvents] at hk; exact .inr (.inr (.inl ⟨rfl, hk.symm⟩))
    | 3 => simp [semEvents] at hk; exact .inr (.inr (.inr ⟨rfl, hk.symm⟩))
    | k + 4 => simp [semEvents] at hk
  refine h.wstep I hi hg hgo (eff_block p.bWg hA hkn) (fun _ _ => rfl) (fun b hb => h.own b (by rw [hA.size] at hb; exact hb)) (d' := .quit 1) (l' := .inr q) hq hwg (hA.block p.J d1) (fun tag' ht hb => .sema (by rcases ht with rfl | ⟨_, rfl⟩; exact l1; trivial) (hb hmw hrun') (fun k hk => by unfold upd; split; rfl; exact l2 k hk ‹_›)) (fun q => by rw [hcl] at q; cases q) (by simp) (h.jb.keep (hA.block p.C (fun q => d2 q.symm)) (by rw [hD]; simp) (by simp)) ?_ (by rw [hD]; rfl) (fun _ => ⟨r, hr.appOwn _ _ _ (fun k e hk => ?_)⟩) (.inl ⟨by rw [hD]; simp [WTag.stage], by rw [hD]; simp [WTag.cnt, WTag.stage]⟩)
  · rw [hA.size]
    refine h.tr.grp (by omega) (by omega) (fun e he => ?_) h.kn.size _ _
    obtain ⟨k, hk⟩ := Array.mem_iff_getElem?.1 he
    rcases hsem k e hk with ⟨_, rfl⟩ | ⟨_, rfl⟩ | ⟨_, rfl⟩ | ⟨_, rfl⟩
    · exact .inr ⟨.disable, rfl, .inl rfl⟩
    · exact .inl ⟨_, _, rfl, rfl⟩
    · exact .inl ⟨_, _, rfl, rfl⟩
    · exact .inr ⟨.enable, rfl, .inr (.inl rfl)⟩
  · rw [h.dfw i hi, hD]
    rcases hsem k e hk with ⟨rfl, rfl⟩ | ⟨rfl, rfl⟩ | ⟨rfl, rfl⟩ | ⟨rfl, rfl⟩
    · exact .inl rfl
    · exact .inr ⟨⟨_, _, rfl⟩, by simp [semEvents, deafBehind, WTag.deaf]⟩
    · exact .inr ⟨⟨_, _, rfl⟩, by simp [semEvents, deafBehind, WTag.deaf]⟩
    · exact .inl rfl
end
end Go.Proofs.Q
