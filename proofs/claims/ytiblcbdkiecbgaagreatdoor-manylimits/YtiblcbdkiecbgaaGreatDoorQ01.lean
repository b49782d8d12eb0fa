import GoSem.Step
import Derived.Conc.Events
import Derived.Laws.World
import Derived.Laws.NewFold
namespace Go.Proofs.Q
open Go
set_option linter.unusedVariables false
set_option linter.unusedSectionVars false
class Gds where
  gf : Nat → Prop
  gn : String → Prop
  gc : Code → Prop
  gb : Builtin → Prop
  hv : Nat → Bool
  ht : Nat
  sg : Nat → Nat
  sg_vis : ∀ k, hv k = false → sg k = k
  sg_hid : ∀ k, hv k = true → sg k ≠ k ∧ hv (sg k) = true
  sg_sg : ∀ k, sg (sg k) = k
class Tok [Gds] where
  phi : Nat → Nat
  nu : String → String
  chi : Code → Code
  beta : Builtin → Builtin
  phi_fix : ∀ f, Gds.gf f → phi f = f
  nu_fix : ∀ n, Gds.gn n → nu n = n
  chi_fix : ∀ c, Gds.gc c → chi c = c
  beta_fix : ∀ b, Gds.gb b → beta b = b
variable [Gds] [Tok]
def rA (ρ : Nat → Nat) (a : Addr) : Addr := { a with block := ρ a.block }
def rF (ρ : Nat → Nat) : Fn → Fn
  | .yield l => .yield (ρ l)
  | .func f => .func (Tok.phi f)
  | .method n => .method (Tok.nu n)
  | .methodOf t n => .methodOf t (Tok.nu n)
  | .via t p f b => .via t p (Tok.phi f) b
def rV (ρ : Nat → Nat) : Value → Value
  | .pointer a => .pointer (a.map (rA ρ))
  | .slice a l c => .slice (a.map (rA ρ)) l c
  | .map r => .map (r.map ρ)
  | .chan r => .chan (r.map ρ)
  | .func fn first cap => .func (rF ρ fn) (first.map (rV ρ)) (cap.map (rV ρ))
  | .iface t v => .iface t (rV ρ v)
  | .agg cs => .agg (cs.map (rV ρ))
  | .tuple cs => .tuple (cs.map (rV ρ))
  | v => v
def rE (ρ : Nat → Nat) (e : MapEntry) : MapEntry := { e with key := rV ρ e.key, val := rV ρ e.val }
def rT (ρ : Nat → Nat) : Target → Target
  | .fn f c => .fn (rF ρ f) (c.map (rV ρ))
  | .builtin b ts t cs => .builtin (Tok.beta b) ts t cs
  | .collected r => .collected (ρ r)
  | .coroexit c => .coroexit (ρ c)
  | t => t
def rD (ρ : Nat → Nat) (d : Deferred) : Deferred := ⟨rT ρ d.target, d.args.map (rV ρ)⟩
def rL (ρ : Nat → Nat) (l : Loop) : Loop := { l with tmps := l.tmps.map (rV ρ), defers := ρ l.defers, assign := Tok.chi l.assign, body := Tok.chi l.body, pending := l.pending.map Tok.chi }
def rO (ρ : Nat → Nat) : Obj → Obj
  | .cells c e f => .cells (c.map (rV ρ)) e f
  | .pending c e => .pending (c.map (rV ρ)) e
  | .view a t => .view (rA ρ a) t
  | .number a l => .number (rA ρ a) l
  | .map es c => .map (es.map (rE ρ)) c
  | .chan cap buf cl s r t => .chan cap (buf.map (rV ρ)) cl s r t
  | .stringIter s p => .stringIter s p
  | .mapIter m s seen st => .mapIter (m.map ρ) s seen st
  | .loop l => .loop (rL ρ l)
  | .deferred c => .deferred (c.map (List.map (rD ρ)))
  | .coro p => .coro p
  | .finalizers fs r => .finalizers (fs.map fun x => (ρ x.1, rD ρ x.2)) r
def rM (ρ : Nat → Nat) : Mark → Mark
  | .acquire a => .acquire (rA ρ a)
  | .release a => .release (rA ρ a)
  | .releaseMerge a => .releaseMerge (rA ρ a)
  | .read a => .read (rA ρ a)
  | .write a => .write (rA ρ a)
  | m => m
def rP (ρ : Nat → Nat) (e : PanicEntry) : PanicEntry := { e with v := rV ρ e.v }
def rI (ρ : Nat → Nat) : Item → Item
  | .inRangeFunc l => .inRangeFunc (ρ l)
  | .endRangeFunc l => .endRangeFunc (ρ l)
  | .call d w r s => .call (rD ρ d) w r (s.map (rV ρ))
  | .extern r a => .extern r (a.map (rV ρ))
  | i => i
def rMo (ρ : Nat → Nat) : FrameMode → FrameMode
  | .panicking c => .panicking (c.map (rP ρ))
  | m => m
def rFr (ρ : Nat → Nat) (f : Frame) : Frame :=
  { f with tmps := f.tmps.map (rV ρ), todo := f.todo.map (rI ρ), defers := f.defers.map (rD ρ), mode := rMo ρ f.mode, roundOf := f.roundOf.map ρ }
omit [Tok] in
def GoodFn : Fn → Prop
  | .func f => Gds.gf f
  | .method n => Gds.gn n
  | .methodOf _ n => Gds.gn n
  | .via _ _ f _ => Gds.gf f
  | .yield _ => True
omit [Tok] in
def okT : Target → Prop
  | .builtin b _ _ _ => Gds.gb b ∧ b ≠ .unsafeSliceData
  | .collected _ | .coroexit _ => False
  | .fn f _ => GoodFn f
  | .nil => True
omit [Tok] in
def okL (l : Loop) : Prop := Gds.gc l.assign ∧ Gds.gc l.body ∧ ∀ c, l.pending = some c → Gds.gc c
theorem rV_cells (ρ : Nat → Nat) (v : Value) : (rV ρ v).cells = v.cells.map (rV ρ) := by
  cases v <;> simp [rV, Value.cells]
theorem rA_add (ρ : Nat → Nat) (a : Addr) (n : Nat) : rA ρ (a.add n) = (rA ρ a).add n := by
  unfold Addr.add rA
  split <;> rfl
omit [Gds] [Tok] in
def plainV : Value → Prop
  | .pointer a => a = none
  | .slice a _ _ => a = none
  | .map r => r = none
  | .chan r => r = none
  | .func _ _ _ => False
  | .iface _ v => plainV v
  | .agg cs => ∀ x, (_ : x ∈ cs) → plainV x
  | .tuple cs => ∀ x, (_ : x ∈ cs) → plainV x
  | _ => True
theorem plainV_ren {ρ : Nat → Nat} : ∀ {v : Value}, plainV v → rV ρ v = v
  | .pointer a, h => by simp only [plainV] at h; subst h; simp [rV]
  | .slice a l c, h => by simp only [plainV] at h; subst h; simp [rV]
  | .map r, h => by simp only [plainV] at h; subst h; simp [rV]
  | .chan r, h => by simp only [plainV] at h; subst h; simp [rV]
  | .func _ _ _, h => by simp [plainV] at h
  | .iface t v, h => by simp only [plainV] at h; rw [rV, plainV_ren h]
  | .agg cs, h => by
    simp only [plainV] at h
    rw [rV]
    congr 1
    conv => rhs; rw [← Array.map_id cs]
    exact Array.map_congr_left fun x hx => plainV_ren (h x hx)
  | .tuple cs, h => by
    simp only [plainV] at h
    rw [rV]
    congr 1
    conv => rhs; rw [← Array.map_id cs]
    exact Array.map_congr_left fun x hx => plainV_ren (h x hx)
  | .bool _, _ => by simp [rV]
  | .int _ _, _ => by simp [rV]
  | .float _ _, _ => by simp [rV]
  | .complex _ _ _, _ => by simp [rV]
  | .string _, _ => by simp [rV]
  | .nilFunc, _ => by simp [rV]
  | .nilIface, _ => by simp [rV]
end Go.Proofs.Q
namespace Go.Proofs.Q
open Go
set_option linter.unusedVariables false
set_option linter.unusedSectionVars false
variable [Gds] [Tok]
def tpW (w : World) (τ : Nat → Question → Nat) : World := { w with tape := τ }
def tpR {α : Type} (r : Result α) (τ : Nat → Question → Nat) : Result α := match r with
  | .ok a w => .ok a (tpW w τ)
  | .halt h w => .halt h (tpW w τ)
def resW {α : Type} : Result α → World
  | .ok _ w => w
  | .halt _ w => w
structure Fl where
  b : Bool
  lim : Nat
  cb : Nat
  tp : Option (Nat → Question → Nat)
def Run0 (P : Program) (T : Option (Nat → Question → Nat)) {α : Type} (s : Sem α) (w : World) (r : Result α) : Prop :=
  ∃ τ : Nat → Question → Nat, (∀ τ0, T = some τ0 → τ = τ0) ∧ w.drawn ≤ (resW r).drawn ∧ ∀ τ', (∀ i, w.drawn ≤ i → i < (resW r).drawn → τ' i = τ i) → s.run P (tpW w τ') = tpR r τ'
def Runs (P : Program) (T : Option (Nat → Question → Nat)) {α : Type} (s : Sem α) (w : World) (r : Result α) : Prop := Run0 P T s w r ∨ ∃ u, r = .halt .blocked u
section
variable {P : Program} {T : Option (Nat → Question → Nat)} {α β : Type}
theorem Runs.still {s : Sem α} {w : World} {r : Result α} (hd : (resW r).drawn = w.drawn) (h : ∀ τ, s.run P (tpW w τ) = tpR r τ) : Runs P T s w r :=
  .inl ⟨T.getD w.tape, fun τ0 h => by rw [h]; rfl, Nat.le_of_eq hd.symm, fun τ' _ => h τ'⟩
theorem Runs.pure (a : α) (w : World) : Runs P T (.pure a) w (.ok a w) := Runs.still rfl fun τ => rfl
theorem Runs.halt (h : Halt) (w : World) : Runs P T (.halt h : Sem α) w (.halt h w) := Runs.still rfl fun τ => rfl
theorem Runs.bind {s : Sem α} {f : α → Sem β} {w w1 : World} {a : α} {r : Result β} (h1 : Runs P T s w (.ok a w1)) (h2 : Runs P T (f a) w1 r) : Runs P T (s.bind f) w r := by
  obtain ⟨τ1, t1, d1, h1⟩ | ⟨u, h1⟩ := h1
  case inr => cases h1
  obtain ⟨τ2, t2, d2, h2⟩ | h2 := h2
  case inr => exact .inr h2
  refine .inl ⟨fun i => if i < w1.drawn then τ1 i else τ2 i, fun τ0 h => ?_, Nat.le_trans d1 d2, fun τ' ht => ?_⟩
  · funext i
    rw [t1 τ0 h, t2 τ0 h]
    split <;> rfl
  have e1 := h1 τ' (fun i hi hj => by rw [ht i hi (Nat.lt_of_lt_of_le hj d2)]; simp only [if_pos (show i < w1.drawn from hj)])
  have e2 := h2 τ' (fun i hi hj => by rw [ht i (Nat.le_trans d1 hi) hj]; simp only [if_neg (Nat.not_lt.2 hi)])
  rw [Sem.run_bind', e1]
  exact e2
theorem Runs.bind_halt {s : Sem α} {f : α → Sem β} {w w1 : World} {h : Halt} (h1 : Runs P T s w (.halt h w1)) : Runs P T (s.bind f) w (.halt h w1) := by
  obtain ⟨τ1, t1, d1, h1⟩ | ⟨u, h1⟩ := h1
  case inr => cases h1; exact .inr ⟨_, rfl⟩
  refine .inl ⟨τ1, t1, d1, fun τ' ht => ?_⟩
  rw [Sem.run_bind', h1 τ' ht]
  rfl
theorem Runs.choose (q : Question) (w : World) (n : Nat) (hn : ∀ τ0, T = some τ0 → n = τ0 w.drawn q) : Runs P T (Go.choose q) w (if q.forced then .ok 0 w else .ok (q.cut n) w.drew) := by
  by_cases hq : q.forced = true
  · rw [if_pos hq]
    exact Runs.still rfl fun τ => by rw [run_choose_drew, if_pos hq]; rfl
  · rw [if_neg hq]
    cases T with
    | none =>
      refine .inl ⟨fun _ _ => n, (fun τ0 h => by cases h), Nat.le_succ _, fun τ' ht => ?_⟩
      have : τ' w.drawn q = n := by rw [ht w.drawn (Nat.le_refl _) (Nat.lt_succ_self _)]
      rw [run_choose_drew, if_neg hq]
      show Result.ok (q.cut (τ' w.drawn q)) _ = _
      rw [this]
      rfl
    | some τ0 =>
      refine .inl ⟨τ0, (fun τ1 h => Option.some.inj h), Nat.le_succ _, fun τ' ht => ?_⟩
      have : τ' w.drawn q = n := by rw [ht w.drawn (Nat.le_refl _) (Nat.lt_succ_self _), hn τ0 rfl]
      rw [run_choose_drew, if_neg hq]
      show Result.ok (q.cut (τ' w.drawn q)) _ = _
      rw [this]
      rfl
end
def ShR (fl : Fl) (ρ : Nat → Nat) (k : Nat) (o o' : Obj) : Prop :=
  (Gds.hv k = false ∧ ∃ c e f f', o = .cells c e f ∧ o' = .cells (c.map (rV ρ)) e f' ∧ (fl.b = true → f.1 = 0 ∧ c.size < f.2 ∧ f'.2 ≤ f.2) ∧ (fl.b = false → f' = f)) ∨
  (Gds.hv k = false ∧ o = .coro none ∧ (∀ c e f, o' ≠ .cells c e f) ∧ (∀ a t, o' ≠ .view a t) ∧ (∀ a l, o' ≠ .number a l) ∧ ∀ c e, o' ≠ .pending c e) ∨
  (Gds.hv k = true ∧ ∃ u, o = .view ⟨k, 0, none⟩ u ∧ ((∃ c e f, o' = .cells c e f ∧ 0 < c.size) ∨ o' = .view ⟨ρ k, 0, none⟩ u))
omit [Tok] in
def notP : Obj → Prop
  | .pending _ _ => False
  | .loop l => okL l
  | .deferred (some ds) => ∀ d, d ∈ ds → okT d.target
  | _ => True
def Hid (fl : Fl) (base k : Nat) : Prop := k < base ∧ Gds.hv k = true
def VwOk (fl : Fl) (base : Nat) (o : Obj) : Prop := ∀ a u, o = .view a u → Hid fl base a.block → a.off = 0 ∧ a.spot = none
structure HR (base : Nat) (fl : Fl) (ρ : Nat → Nat) (w w' : World) : Prop where
  inj : ∀ a b, ρ a = ρ b → a = b
  fix : ∀ k, k < base → Gds.hv k = false → ρ k = k
  hh : ∀ k, k < base → Gds.hv k = true → Gds.hv (ρ k) = true
  lo : ∀ k, k < base → ρ k < fl.cb
  ob : ∀ k, base ≤ k → fl.cb ≤ ρ k
  bs : base ≤ w.heap.size
  os : w'.os = w.os
  next : ∀ j, w'.heap.size + j < fl.lim → ρ (w.heap.size + j) = w'.heap.size + j
  far : ∀ k, w.heap.size ≤ k → w'.heap.size ≤ ρ k
  own : ∀ k o, base ≤ k → w.heap[k]? = some o → w'.heap[ρ k]? = some (rO ρ o)
  sh : ∀ k o, k < base → w.heap[k]? = some o → ∃ o', w'.heap[ρ k]? = some o' ∧ ShR fl ρ k o o'
  np : ∀ (k : Nat) (o : Obj), w.heap[k]? = some o → notP o
  vw : ∀ (k : Nat) (o : Obj), w.heap[k]? = some o → VwOk fl base o
  tq : ∀ τ0, fl.tp = some τ0 → fl.b = false ∧ w'.tape = τ0 ∧ w'.drawn = w.drawn
def EvG (base cb : Nat) (ρ : Nat → Nat) (e : Event) : Prop := match e.loc with
  | .cell a => (∃ k, base ≤ k ∧ ρ k = a.block) ∨ (e.write = false ∧ a.block < cb)
  | .obj r => (∃ k, base ≤ k ∧ ρ k = r) ∨ (e.write = false ∧ r < cb)
  | .mark (.extern _) => True
  | .mark .noRoom => True
  | .output => True
  | _ => False
def fle (f f' : Nat × Nat) : Prop := f' = f ∨ (f'.1 < f'.2 ∧ (f.1 = f.2 ∨ (f'.1 ≤ f.1 ∧ f.2 ≤ f'.2)))
omit [Tok] in
theorem fle.trans {a b c : Nat × Nat} (h : fle a b) (h' : fle b c) : fle a c := by
  rcases h with rfl | ⟨h1, h2⟩
  · exact h'
  · rcases h' with rfl | ⟨h3, h4⟩
    · exact .inr ⟨h1, h2⟩
    · refine .inr ⟨h3, ?_⟩
      rcases h2 with h2 | h2
      · exact .inl h2
      · exact .inr (by omega)
omit [Tok] in
theorem fle.anti {a b : Nat × Nat} (h : fle a b) (h' : fle b a) : b = a := by
  rcases h with rfl | ⟨h1, h2⟩
  · rfl
  · rcases h' with rfl | ⟨h3, h4⟩
    · rfl
    · have e1 : a.1 = b.1 := by omega
      have e2 : a.2 = b.2 := by omega
      exact (Prod.ext e1 e2).symm
def kin (o o' : Obj) : Prop := o' = o ∨ ∃ x e f x' f', o = .cells x e f ∧ o' = .cells x' e f' ∧ fle f f'
theorem kin.trans {a b c : Obj} (h : kin a b) (h' : kin b c) : kin a c := by
  rcases h with rfl | ⟨x, e, f, x', f', rfl, rfl, hf⟩
  · exact h'
  · rcases h' with rfl | ⟨x1, e1, f1, x2, f2, h1, rfl, hg⟩
    · exact .inr ⟨_, _, _, _, _, rfl, rfl, hf⟩
    · cases h1
      exact .inr ⟨_, _, _, _, _, rfl, rfl, hf.trans hg⟩
def sameButF (o o' : Obj) : Prop := o' = o ∨ ∃ c e f f', o = .cells c e f ∧ o' = .cells c e f' ∧ f'.2 ≤ max f.2 (c.size + 1)
structure Gu (base : Nat) (fl : Fl) (ρ : Nat → Nat) (w w' w1' : World) (es : Array Event) : Prop where
  size : w'.heap.size ≤ w1'.heap.size
  tape : w1'.tape = w'.tape
  out : w1'.output = w'.output
  fr : ∀ c, fl.cb ≤ c → c < w'.heap.size → (∀ k, base ≤ k → k < w.heap.size → ρ k ≠ c) → w1'.heap[c]? = w'.heap[c]?
  sh : fl.b = true → ∀ c o, c < fl.cb → w'.heap[c]? = some o → ∃ o', w1'.heap[c]? = some o' ∧ sameButF o o'
  evs : fl.b = true → ∀ e ∈ es, EvG base fl.cb ρ e
  nc : ∀ c o, c < fl.cb → w'.heap[c]? = some o → ∃ o', w1'.heap[c]? = some o' ∧ kin o o'
  os : w1'.os = w'.os
  hid : ∀ k, Hid fl base k → w1'.heap[ρ k]? = w'.heap[ρ k]?
def deadH : Halt → Prop
  | .unsupported (.initOrder _) => False
  | .stuck _ | .unsupported _ => True
  | _ => False
def Out (base : Nat) (fl : Fl) (ρ : Nat → Nat) {α β : Type} (R : α → β → Prop) (w w' : World) (r : Result α) (c : Result β) (es : Array Event) : Prop :=
  match r, c with
  | .ok a w1, .ok b w1' => R a b ∧ HR base fl ρ w1 w1' ∧ w.heap.size ≤ w1.heap.size ∧ Gu base fl ρ w w' w1' es
  | .halt (.panic v) w1, .halt (.panic v') w1' => v' = rV ρ v ∧ HR base fl ρ w1 w1' ∧ w.heap.size ≤ w1.heap.size ∧ Gu base fl ρ w w' w1' es
  | .halt .blocked _, c => fl.lim < (resW c).heap.size
  | .halt h _, _ => deadH h
  | _, _ => False
def Par (P : Program) (base : Nat) (fl : Fl) (ρ : Nat → Nat) {α β : Type} (R : α → β → Prop) (s : Sem α) (s' : Sem β) : Prop :=
  ∀ w w', HR base fl ρ w w' → ∃ r, Runs P fl.tp s w r ∧ Out base fl ρ R w w' r (s'.run P w') (s'.events P w' #[])
section
variable {P : Program} {base : Nat} {fl : Fl} {ρ : Nat → Nat} {α β γ δ : Type} {R : α → β → Prop} {R' : γ → δ → Prop}
theorem Gu.refl (w w' : World) : Gu base fl ρ w w' w' #[] := ⟨Nat.le_refl _, rfl, rfl, fun _ _ _ _ => rfl, fun _ c o _ h => ⟨o, h, .inl rfl⟩, (fun _ e he => by simp at he), fun c o _ h => ⟨o, h, .inl rfl⟩, rfl, fun _ _ => rfl⟩
theorem sameButF.trans {a b c : Obj} (h : sameButF a b) (h' : sameButF b c) : sameButF a c := by
  rcases h with rfl | ⟨x, e, f, f', rfl, rfl, hf⟩
  · exact h'
  · rcases h' with rfl | ⟨x', e', g, g', h1, rfl, hg⟩
    · exact .inr ⟨_, _, _, _, rfl, rfl, hf⟩
    · cases h1
      exact .inr ⟨_, _, _, _, rfl, rfl, by omega⟩
theorem Gu.trans {w w' w1 w1' w2' : World} {es es' : Array Event} (hr : HR base fl ρ w w') (hs : w.heap.size ≤ w1.heap.size) (h : Gu base fl ρ w w' w1' es) (h' : Gu base fl ρ w1 w1' w2' es') : Gu base fl ρ w w' w2' (es ++ es') := by
  refine ⟨Nat.le_trans h.size h'.size, h'.tape.trans h.tape, h'.out.trans h.out, fun c hb hc hk => ?_, fun hf c o hc ho => ?_, fun hf e he => ?_, fun c o hc ho => by
    obtain ⟨o1, h1, h2⟩ := h.nc c o hc ho
    obtain ⟨o2, h3, h4⟩ := h'.nc c o1 hc h1
    exact ⟨o2, h3, h2.trans h4⟩, h'.os.trans h.os, fun k hk => (h'.hid k hk).trans (h.hid k hk)⟩
  · rw [h'.fr c hb (Nat.lt_of_lt_of_le hc h.size) (fun k hk1 hk2 e => ?_)]
    · exact h.fr c hb hc hk
    · by_cases hw : k < w.heap.size
      · exact hk k hk1 hw e
      · have := hr.far k (by omega)
        omega
  · obtain ⟨o1, h1, h2⟩ := h.sh hf c o hc ho
    obtain ⟨o2, h3, h4⟩ := h'.sh hf c o1 hc h1
    exact ⟨o2, h3, h2.trans h4⟩
  · rcases Array.mem_append.1 he with h1 | h1
    · exact h.evs hf e h1
    · exact h'.evs hf e h1
theorem events_acc {α : Type} (P : Program) (s : Sem α) : ∀ (w : World) (es : Array Event), (s.runT P w es).2 = es ++ (s.runT P w #[]).2 := by
  induction s with
  | pure a => intro w es; simp [Sem.runT]
  | load m a k ih =>
    intro w es
    simp only [Sem.runT]
    split
    · rw [ih _ _ (es.push _), ih _ _ (#[].push _)]; simp
    · split
      · rw [ih _ _ (es ++ _), ih _ _ (#[] ++ _)]; simp
      · simp
  | store m a v k ih =>
    intro w es
    cases v <;> simp only [Sem.runT] <;> (try split) <;> (try split) <;> (first
      | (simp [-Sem.runT_eq]; done)
      | (rw [ih _ (es.push _), ih _ (#[].push _)]; simp [-Sem.runT_eq]; done)
      | (rw [ih _ (es ++ _), ih _ (#[] ++ _)]; simp [-Sem.runT_eq]; done))
  | new o k ih => intro w es; simp only [Sem.runT]; exact ih _ _ _
  | shape r k ih => intro w es; simp only [Sem.runT]; exact ih _ _ _
  | freeze a n k ih => intro w es; simp only [Sem.runT]; exact ih _ _
  | frozen a k ih => intro w es; simp only [Sem.runT]; exact ih _ _ _
  | getObj r k ih =>
    intro w es
    simp only [Sem.runT]
    split
    · simp
    · rw [ih _ _ (es.push _), ih _ _ (#[].push _)]; simp
    · simp
  | setObj r o k ih =>
    intro w es
    simp only [Sem.runT]
    split
    · simp
    · rw [ih _ (es.push _), ih _ (#[].push _)]; simp
    · simp
  | choose q k ih => intro w es; simp only [Sem.runT]; split <;> exact ih _ _ _
  | sys c k ih => intro w es; simp only [Sem.runT]; rw [ih _ _ (es.push _), ih _ _ (#[].push _)]; simp
  | program k ih => intro w es; simp only [Sem.runT]; exact ih _ _ _
  | mark m k ih => intro w es; simp only [Sem.runT]; rw [ih _ (es.push _), ih _ (#[].push _)]; simp
  | halt h => intro w es; simp [Sem.runT]
theorem events_acc' {α : Type} (P : Program) (s : Sem α) (w : World) (es : Array Event) : s.events P w es = es ++ s.events P w #[] := events_acc P s w es
theorem run_size {α : Type} (P : Program) (s : Sem α) : ∀ w : World, w.heap.size ≤ (resW (s.run P w)).heap.size := by
  induction s with
  | pure a => intro w; exact Nat.le_refl _
  | load m a k ih =>
    intro w
    simp only [Sem.run]
    split
    · exact ih _ _
    · split
      · exact ih _ _
      · exact Nat.le_refl _
  | store m a v k ih =>
    intro w
    have hst : ∀ (p : Program) (u u1 : World) (b : Addr) (x : Value) (t : Bool) (l : List Addr), u.farStore p b x t = .ok (u1, l) → u1.heap.size = u.heap.size := by
      intro p u u1 b x t l h
      unfold World.farStore at h
      split at h
      · split at h
        · rename_i q
          cases h
          unfold World.viewStore at q
          simp only [bind, Except.bind, pure, Except.pure] at q
          repeat (split at q <;> try cases q)
          all_goals first | rfl | simp
        · cases h
      · cases h
    cases v <;> simp only [Sem.run] <;> first
      | exact Nat.le_refl _
      | (split
         · split
           · exact Nat.le_refl _
           · exact Nat.le_trans (by simp [World.setCell]) (ih _)
         · split
           · rename_i q; exact Nat.le_trans (Nat.le_of_eq (hst _ _ _ _ _ _ _ q).symm) (ih _)
           · exact Nat.le_refl _)
  | new o k ih => intro w; simp only [Sem.run]; exact Nat.le_trans (by simp) (ih _ _)
  | shape r k ih => intro w; simp only [Sem.run]; exact ih _ _
  | freeze a n k ih =>
    intro w
    simp only [Sem.run]
    refine Nat.le_trans ?_ (ih _)
    unfold World.freeze
    split <;> simp
  | frozen a k ih => intro w; simp only [Sem.run]; exact ih _ _
  | getObj r k ih =>
    intro w
    simp only [Sem.run]
    split
    · exact Nat.le_refl _
    · exact ih _ _
    · exact Nat.le_refl _
  | setObj r o k ih =>
    intro w
    simp only [Sem.run]
    split
    · exact Nat.le_refl _
    · exact Nat.le_trans (by simp) (ih _)
    · exact Nat.le_refl _
  | choose q k ih =>
    intro w
    simp only [Sem.run]
    split
    · exact ih _ _
    · exact ih _ { w with drawn := w.drawn + 1 }
  | sys c k ih =>
    intro w
    simp only [Sem.run]
    refine Nat.le_trans (Nat.le_of_eq ?_) (ih _ _)
    have hask : ∀ {β : Type} (a : Ask β) (u : World), (u.ask a).2.heap = u.heap := by
      intro β a
      induction a with
      | done b => intro u; rfl
      | ask what range k ih2 =>
        intro u
        simp only [World.ask]
        split
        · exact ih2 _ _
        · rw [ih2]
    unfold World.sys
    split
    · rfl
    · rename_i q
      have := hask (Kernel.perform c w.os) w
      rw [q] at this
      exact congrArg Array.size this.symm
  | program k ih => intro w; simp only [Sem.run]; exact ih _ _
  | mark m k ih => intro w; simp only [Sem.run]; exact ih _
  | halt h => intro w; exact Nat.le_refl _
def ParAt (P : Program) (base : Nat) (fl : Fl) (ρ : Nat → Nat) {α β : Type} (R : α → β → Prop) (s : Sem α) (s' : Sem β) (w w' : World) : Prop :=
  HR base fl ρ w w' → ∃ r, Runs P fl.tp s w r ∧ Out base fl ρ R w w' r (s'.run P w') (s'.events P w' #[])
theorem ParAt.bindW {w w' : World} {s : Sem α} {s' : Sem β} {f : α → Sem γ} {f' : β → Sem δ} (h : ParAt P base fl ρ R s s' w w') (hf : ∀ a b w1 w1', R a b → s'.run P w' = .ok b w1' → ParAt P base fl ρ R' (f a) (f' b) w1 w1') : ParAt P base fl ρ R' (s.bind f) (s'.bind f') w w' := by
  intro hw
  obtain ⟨r, h1, h2⟩ := h hw
  rw [Sem.run_bind', Sem.events_bind']
  cases r with
  | ok a w1 =>
    cases hc : s'.run P w' with
    | halt hh wc => rw [hc] at h2; exact absurd h2 id
    | ok b w1' =>
      rw [hc] at h2
      obtain ⟨hR, hH, hs, hG⟩ := h2
      obtain ⟨r2, h3, h4⟩ := hf a b w1 w1' hR hc hH
      refine ⟨r2, h1.bind h3, ?_⟩
      simp only [Result.andThen_ok, Result.evThen_ok]
      rw [events_acc']
      cases r2 with
      | ok a2 w2 =>
        cases hc2 : (f' b).run P w1' with
        | halt hh wc => rw [hc2] at h4; exact absurd h4 id
        | ok b2 w2' =>
          rw [hc2] at h4
          obtain ⟨q1, q2, q3, q4⟩ := h4
          exact ⟨q1, q2, Nat.le_trans hs q3, hG.trans hw hs q4⟩
      | halt hh w2 =>
        rw [hc] at *
        cases hh with
        | panic v =>
          cases hc2 : (f' b).run P w1' with
          | ok b2 w2' => rw [hc2] at h4; exact absurd h4 id
          | halt h2' w2' =>
            rw [hc2] at h4
            cases h2' with
            | panic v' =>
              obtain ⟨q1, q2, q3, q4⟩ := h4
              exact ⟨q1, q2, Nat.le_trans hs q3, hG.trans hw hs q4⟩
            | _ => exact absurd h4 id
        | _ => exact h4
  | halt hh w1 =>
    refine ⟨.halt hh w1, h1.bind_halt, ?_⟩
    cases hh with
    | blocked =>
      have h2 : fl.lim < (resW (s'.run P w')).heap.size := h2
      show fl.lim < (resW ((s'.run P w').andThen _)).heap.size
      cases hc : s'.run P w' with
      | ok b w1' => rw [hc] at h2; exact Nat.lt_of_lt_of_le h2 (run_size P _ _)
      | halt h' w1' => rw [hc] at h2; exact h2
    | panic v =>
      cases hc : s'.run P w' with
      | ok b w1' => rw [hc] at h2; exact absurd h2 id
      | halt h2' w1' =>
        rw [hc] at h2
        cases h2' with
        | panic v' => exact h2
        | _ => exact absurd h2 id
    | _ => exact h2
theorem Par.bindW {s : Sem α} {s' : Sem β} {f : α → Sem γ} {f' : β → Sem δ} (h : Par P base fl ρ R s s') (hf : ∀ a b u' w1 w1', R a b → s'.run P u' = .ok b w1' → ParAt P base fl ρ R' (f a) (f' b) w1 w1') : Par P base fl ρ R' (s.bind f) (s'.bind f') := fun w w' =>
  ParAt.bindW (h w w') fun a b w1 w1' hR hc => hf a b w' w1 w1' hR hc
theorem Par.bind {s : Sem α} {s' : Sem β} {f : α → Sem γ} {f' : β → Sem δ} (h : Par P base fl ρ R s s') (hf : ∀ a b, R a b → Par P base fl ρ R' (f a) (f' b)) : Par P base fl ρ R' (s.bind f) (s'.bind f') :=
  Par.bindW h fun a b _ w1 w1' hR _ => hf a b hR w1 w1'
theorem Par.pure {a : α} {b : β} (h : R a b) : Par P base fl ρ R (.pure a) (.pure b) := fun w w' hw =>
  ⟨_, Runs.pure a w, h, hw, Nat.le_refl _, Gu.refl w w'⟩
theorem Par.dead {h : Halt} (hh : deadH h) (s' : Sem β) : Par P base fl ρ R (.halt h) s' := fun w w' hw =>
  ⟨_, Runs.halt h w, by cases h <;> first | exact hh | exact hh.elim⟩
theorem Par.panic (v : Value) : Par P base fl ρ R (.halt (.panic v)) (.halt (.panic (rV ρ v))) := fun w w' hw =>
  ⟨_, Runs.halt _ w, rfl, hw, Nat.le_refl _, Gu.refl w w'⟩
theorem Par.mono {R2 : α → β → Prop} {s : Sem α} {s' : Sem β} (h : Par P base fl ρ R s s') (hr : ∀ a b, R a b → R2 a b) : Par P base fl ρ R2 s s' := by
  have := h.bind (f := Sem.pure) (f' := Sem.pure) (R' := R2) (fun a b q => Par.pure (hr a b q))
  rwa [Sem.bind_pure', Sem.bind_pure'] at this
end
end Go.Proofs.Q
namespace Go.Proofs.Q
open Go
set_option linter.unusedVariables false
set_option linter.unusedSectionVars false
variable [Gds] [Tok]
section
variable {P : Program} {base : Nat} {fl : Fl} {ρ : Nat → Nat} {w w' : World}
theorem HR.cells (h : HR base fl ρ w w') {k : Nat} {c : Array Value} {e : TypeId} {f : Nat × Nat} (hk : w.heap[k]? = some (.cells c e f)) :
    ∃ f', w'.heap[ρ k]? = some (.cells (c.map (rV ρ)) e f') ∧ (base ≤ k → f' = f) ∧ (k < base → fl.b = true → f.1 = 0 ∧ c.size < f.2 ∧ f'.2 ≤ f.2) ∧ (fl.b = false → f' = f) := by
  by_cases hb : base ≤ k
  · exact ⟨f, h.own k _ hb hk, fun _ => rfl, fun q => absurd q (by omega), fun _ => rfl⟩
  · obtain ⟨o', h1, h2⟩ := h.sh k _ (by omega) hk
    rcases h2 with ⟨_, c1, e1, f1, f', q1, rfl, q3, q4⟩ | ⟨_, q, _⟩ | ⟨_, _, q, _⟩
    · cases q1
      exact ⟨f', h1, fun q => absurd q hb, fun _ => q3, q4⟩
    · cases q
    · cases q
theorem HR.low (h : HR base fl ρ w w') {k : Nat} (hk : k < w.heap.size) : ρ k < w'.heap.size := by
  by_cases hb : base ≤ k
  · have := h.own k _ hb (Array.getElem?_eq_getElem hk)
    exact (Array.getElem?_eq_some_iff.1 this).1
  · obtain ⟨o', h1, _⟩ := h.sh k _ (by omega) (Array.getElem?_eq_getElem hk)
    exact (Array.getElem?_eq_some_iff.1 h1).1
theorem HR.shared (h : HR base fl ρ w w') {k : Nat} : ρ k < fl.cb ↔ k < base := by
  constructor
  · intro q
    by_cases hb : k < base
    · exact hb
    · have := h.ob k (by omega)
      omega
  · exact h.lo k
theorem HR.vis (h : HR base fl ρ w w') {k : Nat} {c : Array Value} {e : TypeId} {f : Nat × Nat} (hb : k < base) (hk : w.heap[k]? = some (.cells c e f)) : Gds.hv k = false := by
  obtain ⟨o', _, h2⟩ := h.sh k _ hb hk
  rcases h2 with ⟨q, _⟩ | ⟨q, _⟩ | ⟨_, _, q, _⟩
  · exact q
  · exact q
  · cases q
theorem HR.hid (h : HR base fl ρ w w') {k : Nat} (hh : Hid fl base k) : ∃ u, w.heap[k]? = some (.view ⟨k, 0, none⟩ u) ∧ ((∃ c e f, w'.heap[ρ k]? = some (.cells c e f) ∧ 0 < c.size) ∨ w'.heap[ρ k]? = some (.view ⟨ρ k, 0, none⟩ u)) := by
  have hk : k < w.heap.size := Nat.lt_of_lt_of_le hh.1 h.bs
  obtain ⟨o', h1, h2⟩ := h.sh k _ hh.1 (Array.getElem?_eq_getElem hk)
  rcases h2 with ⟨q, _⟩ | ⟨q, _⟩ | ⟨_, u, q, h3⟩
  · rw [hh.2] at q; cases q
  · rw [hh.2] at q; cases q
  · refine ⟨u, by rw [Array.getElem?_eq_getElem hk, q], ?_⟩
    rcases h3 with ⟨c, e, f, rfl, hc⟩ | rfl
    · exact .inl ⟨c, e, f, h1, hc⟩
    · exact .inr h1
theorem HR.cell (h : HR base fl ρ w w') {a : Addr} {v : Value} (hc : w.cell? a = some v) : w'.cell? (rA ρ a) = some (rV ρ v) := by
  unfold World.cell? at hc ⊢
  split at hc
  · rename_i c e f hk
    obtain ⟨f', h1, _⟩ := h.cells hk
    have : (rA ρ a).block = ρ a.block := rfl
    rw [this, h1]
    have e2 : (rA ρ a).spot = a.spot := rfl
    have e3 : (rA ρ a).off = a.off := rfl
    simp only [e2, e3]
    split at hc
    · cases hc
    · rename_i hs
      rw [if_neg hs]
      simp [hc]
  · cases hc
theorem HR.turn (h : HR base fl ρ w w') {k : Nat} {o1 : Obj} {w1 w1' : World} (hb : base ≤ k) (hk : k < w.heap.size) (e1 : ∀ i, w1.heap[i]? = if i = k then some o1 else w.heap[i]?) (s1 : w1.heap.size = w.heap.size)
    (e2 : ∀ i, w1'.heap[i]? = if i = ρ k then some (rO ρ o1) else w'.heap[i]?) (s2 : w1'.heap.size = w'.heap.size) (os : w1'.os = w1.os) (hnp : notP o1 := by trivial) (hvw : VwOk fl base o1 := by intro a u q; cases q) (dr : w1.drawn = w.drawn ∧ w1'.drawn = w'.drawn ∧ w1'.tape = w'.tape := by exact ⟨rfl, rfl, rfl⟩) : HR base fl ρ w1 w1' := by
  refine ⟨h.inj, h.fix, h.hh, h.lo, h.ob, by rw [s1]; exact h.bs, os, fun j hj => by rw [s2] at hj; rw [s1, s2]; exact h.next j hj, fun k hk => by rw [s2]; exact h.far k (by rw [← s1]; exact hk), fun i o hi ho => ?_, fun i o hi ho => ?_, fun i o ho => ?_, fun i o ho => by
    rw [e1] at ho
    split at ho
    · cases ho; exact hvw
    · exact h.vw i o ho, fun τ0 h0 => by obtain ⟨q1, q2, q3⟩ := h.tq τ0 h0; exact ⟨q1, dr.2.2.trans q2, by rw [dr.1, dr.2.1, q3]⟩⟩
  rotate_right
  · rw [e1] at ho
    split at ho
    · cases ho; exact hnp
    · exact h.np i o ho
  · rw [e1] at ho
    rw [e2]
    by_cases e : i = k
    · rw [if_pos e] at ho
      cases ho
      rw [if_pos (by rw [e])]
    · rw [if_neg e] at ho
      rw [if_neg (fun q => e (h.inj _ _ q))]
      exact h.own i o hi ho
  · rw [e1, if_neg (by omega)] at ho
    rw [e2, if_neg (fun q => by have := h.inj _ _ q; omega)]
    exact h.sh i o hi ho
theorem HR.turnS (h : HR base fl ρ w w') {k : Nat} {o1 o1' : Obj} {w1 w1' : World} (hb : k < base) (e1 : ∀ i, w1.heap[i]? = if i = k then some o1 else w.heap[i]?) (s1 : w1.heap.size = w.heap.size)
    (e2 : ∀ i, w1'.heap[i]? = if i = ρ k then some o1' else w'.heap[i]?) (s2 : w1'.heap.size = w'.heap.size) (os : w1'.os = w1.os) (hs : ShR fl ρ k o1 o1') (hnp : notP o1 := by trivial) (hvw : VwOk fl base o1 := by intro a u q; cases q) (dr : w1.drawn = w.drawn ∧ w1'.drawn = w'.drawn ∧ w1'.tape = w'.tape := by exact ⟨rfl, rfl, rfl⟩) : HR base fl ρ w1 w1' := by
  refine ⟨h.inj, h.fix, h.hh, h.lo, h.ob, by rw [s1]; exact h.bs, os, fun j hj => by rw [s2] at hj; rw [s1, s2]; exact h.next j hj, fun k hk => by rw [s2]; exact h.far k (by rw [← s1]; exact hk), fun i o hi ho => ?_, fun i o hi ho => ?_, fun i o ho => ?_, fun i o ho => by
    rw [e1] at ho
    split at ho
    · cases ho; exact hvw
    · exact h.vw i o ho, fun τ0 h0 => by obtain ⟨q1, q2, q3⟩ := h.tq τ0 h0; exact ⟨q1, dr.2.2.trans q2, by rw [dr.1, dr.2.1, q3]⟩⟩
  rotate_right
  · rw [e1] at ho
    split at ho
    · cases ho; exact hnp
    · exact h.np i o ho
  · rw [e1, if_neg (by omega)] at ho
    rw [e2, if_neg (fun q => by have := h.inj _ _ q; omega)]
    exact h.own i o hi ho
  · rw [e1] at ho
    rw [e2]
    by_cases e : i = k
    · rw [if_pos e] at ho
      cases ho
      rw [if_pos (by rw [e])]
      exact ⟨_, rfl, e ▸ hs⟩
    · rw [if_neg e] at ho
      rw [if_neg (fun q => e (h.inj _ _ q))]
      exact h.sh i o hi ho
theorem Gu.turn (h : HR base fl ρ w w') {k : Nat} {w1' : World} {o : Obj} {es : Array Event} (hb : base ≤ k) (hk : k < w.heap.size) (e2 : ∀ i, w1'.heap[i]? = if i = ρ k then some o else w'.heap[i]?) (s2 : w1'.heap.size = w'.heap.size)
    (ht : w1'.tape = w'.tape) (ho : w1'.output = w'.output) (hes : fl.b = true → ∀ e ∈ es, EvG base fl.cb ρ e) (hos : w1'.os = w'.os := by rfl) : Gu base fl ρ w w' w1' es := by
  refine ⟨Nat.le_of_eq s2.symm, ht, ho, fun c q1 q2 q3 => ?_, fun _ c o q1 q2 => ?_, hes, fun c o q1 q2 => ?_, hos, fun i hi => by rw [e2, if_neg (fun q => by have := h.inj _ _ q; have := hi.1; omega)]⟩
  · rw [e2, if_neg (fun q => q3 k hb hk q.symm)]
  · rw [e2, if_neg (fun q => by have := h.shared (k := k); omega)]
    exact ⟨o, q2, .inl rfl⟩
  · rw [e2, if_neg (fun q => by have := h.shared (k := k); omega)]
    exact ⟨o, q2, .inl rfl⟩
theorem Gu.quiet {es : Array Event} (hes : fl.b = true → ∀ e ∈ es, EvG base fl.cb ρ e) : Gu base fl ρ w w' w' es :=
  ⟨Nat.le_refl _, rfl, rfl, fun _ _ _ _ => rfl, fun _ c o _ q => ⟨o, q, .inl rfl⟩, hes, fun c o _ h => ⟨o, h, .inl rfl⟩, rfl, fun _ _ => rfl⟩
theorem HR.ev (h : HR base fl ρ w w') (b : Nat) : (∃ k, base ≤ k ∧ ρ k = ρ b) ∨ ρ b < fl.cb := by
  by_cases hb : base ≤ b
  · exact .inl ⟨b, hb, rfl⟩
  · exact .inr (h.lo b (by omega))
theorem evRead (h : HR base fl ρ w w') (a : Addr) (s : Bool) : EvG base fl.cb ρ ⟨.cell (rA ρ a), false, s⟩ := by
  rcases h.ev a.block with q | q
  · exact .inl q
  · exact .inr ⟨rfl, q⟩
theorem evObj (h : HR base fl ρ w w') (r : Nat) (s : Bool) : EvG base fl.cb ρ ⟨.obj (ρ r), false, s⟩ := by
  rcases h.ev r with q | q
  · exact .inl q
  · exact .inr ⟨rfl, q⟩
end
section
variable {P : Program} {base : Nat} {fl : Fl} {ρ : Nat → Nat} {α β : Type} {R : α → β → Prop}
theorem Par.program {k : Program → Sem α} {k' : Program → Sem β} (h : Par P base fl ρ R (k P) (k' P)) : Par P base fl ρ R (.program k) (.program k') := fun w w' hw => by
  obtain ⟨r, h1, h2⟩ := h w w' hw
  refine ⟨r, ?_, h2⟩
  rcases h1 with ⟨τ, h0, h2, h1⟩ | h1
  · exact .inl ⟨τ, h0, h2, fun τ' ht => h1 τ' ht⟩
  · exact .inr h1
theorem Par.choose (q : Question) : Par P base fl ρ (fun a b => b = a) (Go.choose q) (Go.choose q) := fun w w' hw => by
  refine ⟨_, Runs.choose q w (w'.tape w'.drawn q) (fun τ0 h => by obtain ⟨_, q1, q2⟩ := hw.tq τ0 h; rw [q1, q2]), ?_⟩
  rw [run_choose_drew]
  by_cases hq : q.forced = true
  · rw [if_pos hq, if_pos hq]
    exact ⟨rfl, hw, Nat.le_refl _, Gu.quiet (fun _ e he => by simp [Sem.events, Go.choose, Sem.runT, hq, -Sem.runT_eq] at he)⟩
  · rw [if_neg hq, if_neg hq]
    refine ⟨rfl, ⟨hw.inj, hw.fix, hw.hh, hw.lo, hw.ob, hw.bs, hw.os, hw.next, hw.far, hw.own, hw.sh, hw.np, hw.vw, fun τ0 h => by obtain ⟨q0, q1, q2⟩ := hw.tq τ0 h; exact ⟨q0, q1, congrArg (· + 1) q2⟩⟩, Nat.le_refl _, ⟨Nat.le_refl _, rfl, rfl, fun _ _ _ _ => rfl, fun _ c o _ q => ⟨o, q, .inl rfl⟩, (fun _ e he => by simp [Sem.events, Go.choose, Sem.runT, hq, -Sem.runT_eq] at he), fun c o _ h => ⟨o, h, .inl rfl⟩, rfl, fun _ _ => rfl⟩⟩
theorem Gu.sizeW {w u w' w1' : World} {es : Array Event} (hs : u.heap.size = w.heap.size) (h : Gu base fl ρ u w' w1' es) : Gu base fl ρ w w' w1' es :=
  ⟨h.size, h.tape, h.out, fun c q1 q2 q3 => h.fr c q1 q2 (fun k q4 q5 => q3 k q4 (hs ▸ q5)), h.sh, h.evs, h.nc, h.os, h.hid⟩
theorem Out.sizeW {w u w' : World} {r : Result α} {c : Result β} {es : Array Event} (hs : u.heap.size = w.heap.size) (h : Out base fl ρ R u w' r c es) : Out base fl ρ R w w' r c es := by
  cases r with
  | ok a w1 =>
    cases c with
    | ok b w1' => exact ⟨h.1, h.2.1, hs ▸ h.2.2.1, h.2.2.2.sizeW hs⟩
    | halt _ _ => exact h
  | halt hh w1 =>
    cases hh with
    | panic v =>
      cases c with
      | ok b w1' => exact h
      | halt h2 w1' =>
        cases h2 with
        | panic v' => exact ⟨h.1, h.2.1, hs ▸ h.2.2.1, h.2.2.2.sizeW hs⟩
        | _ => exact h
    | _ => exact h
theorem Par.choose_lone (hb : fl.b = true) {q : Question} {k : Nat → Sem α} {s' : Sem β} (n : Nat) (h : Par P base fl ρ R (k (if q.forced then 0 else q.cut n)) s') : Par P base fl ρ R ((Go.choose q).bind k) s' := fun w w' hw => by
  have hT : ∀ τ0, fl.tp = some τ0 → False := fun τ0 h => by have := (hw.tq τ0 h).1; rw [hb] at this; cases this
  have h1 := Runs.choose (P := P) (T := fl.tp) q w n (fun τ0 h => (hT τ0 h).elim)
  by_cases hq : q.forced = true
  · rw [if_pos hq] at h1 h
    obtain ⟨r, h2, h3⟩ := h w w' hw
    exact ⟨r, h1.bind h2, h3⟩
  · rw [if_neg hq] at h1 h
    obtain ⟨r, h2, h3⟩ := h w.drew w' ⟨hw.inj, hw.fix, hw.hh, hw.lo, hw.ob, hw.bs, hw.os, hw.next, hw.far, hw.own, hw.sh, hw.np, hw.vw, fun τ0 h => (hT τ0 h).elim⟩
    exact ⟨r, h1.bind h2, Out.sizeW (u := w.drew) rfl h3⟩
theorem Par.mark {m : Mark} (hm : (∃ f, m = .extern f) ∨ m = .noRoom) : Par P base fl ρ (fun _ _ => True) (Go.mark m) (Go.mark m) := fun w w' hw => by
  refine ⟨.ok () w, Runs.still rfl fun τ => rfl, trivial, hw, Nat.le_refl _, Gu.quiet (fun _ e he => ?_)⟩
  simp [Sem.events, Go.mark, Sem.runT, -Sem.runT_eq] at he
  subst he
  rcases hm with ⟨f, rfl⟩ | rfl
  · trivial
  · trivial
theorem Par.shape_hid {r : Nat} (hh : Hid fl base r) : Par P base fl ρ (fun a b => a = none ∧ (b = none ∨ ∃ e n, b = some (e, n) ∧ 0 < n)) (Go.shape r) (Go.shape (ρ r)) := fun w w' hw => by
  obtain ⟨u, h1, h2⟩ := hw.hid hh
  refine ⟨.ok none w, Runs.still rfl fun τ => by simp [Go.shape, Sem.run, World.shape?, tpW, h1, tpR], ?_⟩
  have hev : (Go.shape (ρ r)).events P w' #[] = #[] := by simp [Sem.events, Go.shape, Sem.runT, -Sem.runT_eq]
  have hrun : (Go.shape (ρ r)).run P w' = .ok (w'.shape? (ρ r)) w' := rfl
  rw [hev, hrun]
  refine ⟨⟨rfl, ?_⟩, hw, Nat.le_refl _, Gu.refl _ _⟩
  rcases h2 with ⟨c, e, f, h2, hc⟩ | h2
  · exact .inr ⟨e, c.size, by simp [World.shape?, h2], hc⟩
  · exact .inl (by simp [World.shape?, h2])
theorem Par.shape {r : Nat} (hh : ¬ Hid fl base r) : Par P base fl ρ (fun a b => b = a) (Go.shape r) (Go.shape (ρ r)) := fun w w' hw => by
  by_cases hr : ∃ c e f, w.heap[r]? = some (.cells c e f)
  · obtain ⟨c, e, f, hr⟩ := hr
    obtain ⟨f', h1, _⟩ := hw.cells hr
    refine ⟨.ok (some (e, c.size)) w, Runs.still rfl fun τ => by simp [Go.shape, Sem.run, World.shape?, tpW, hr, tpR], ?_⟩
    have : (Go.shape (ρ r)).run P w' = .ok (some (e, c.size)) w' := by simp [Go.shape, Sem.run, World.shape?, h1]
    rw [this]
    exact ⟨rfl, hw, Nat.le_refl _, Gu.quiet (fun _ e he => by simp [Sem.events, Go.shape, Sem.runT, -Sem.runT_eq] at he)⟩
  · have h0 : ∀ τ, (tpW w τ).shape? r = none := fun τ => by
      unfold World.shape?
      split
      · rename_i c e f q; exact absurd ⟨c, e, f, q⟩ hr
      · rfl
    have h1 : w'.shape? (ρ r) = none := by
      unfold World.shape?
      split
      · rename_i c e f q
        by_cases hz : r < w.heap.size
        · have hq := Array.getElem?_eq_getElem hz
          by_cases hb : base ≤ r
          · have h2 := hw.own r _ hb hq
            rw [q] at h2
            cases ho : w.heap[r] <;> rw [ho] at h2 <;> simp [rO] at h2
            exact absurd ⟨_, _, _, hq.trans (by rw [ho])⟩ hr
          · obtain ⟨o', h2, h3⟩ := hw.sh r _ (by omega) hq
            rw [q] at h2
            cases h2
            rcases h3 with ⟨_, c1, e1, f1, f2, h4, _⟩ | ⟨_, _, h4, _⟩ | ⟨h4, _⟩
            · exact absurd ⟨_, _, _, hq.trans (by rw [h4])⟩ hr
            · exact absurd rfl (h4 _ _ _)
            · exact absurd ⟨by omega, h4⟩ hh
        · have h2 := hw.far r (by omega)
          have h3 := (Array.getElem?_eq_some_iff.1 q).1
          omega
      · rfl
    refine ⟨.ok none w, Runs.still rfl fun τ => by simp only [Go.shape, Sem.run, h0, tpR], ?_⟩
    have : (Go.shape (ρ r)).run P w' = .ok none w' := by simp only [Go.shape, Sem.run, h1]
    rw [this]
    exact ⟨rfl, hw, Nat.le_refl _, Gu.quiet (fun _ e he => by simp [Sem.events, Go.shape, Sem.runT, -Sem.runT_eq] at he)⟩
end
end Go.Proofs.Q
namespace Go.Proofs.Q
open Go
set_option linter.unusedVariables false
set_option linter.unusedSectionVars false
variable [Gds] [Tok]
section
variable {P : Program} {base : Nat} {fl : Fl} {ρ : Nat → Nat} {w w' : World}
theorem bytes_rV (v : Value) : (rV ρ v).bytes? = v.bytes? := by cases v <;> simp [rV, Value.bytes?]
theorem ofBytes_rV (v : Value) (bs : List UInt8) : (rV ρ v).ofBytes bs = v.ofBytes bs := by cases v <;> simp [rV, Value.ofBytes]
theorem ofBytes_plain {like v : Value} {bs : List UInt8} (h : like.ofBytes bs = some v) : rV ρ v = v := by
  cases like <;> simp only [Value.ofBytes] at h <;> (try (split at h)) <;> (try cases h) <;> (try simp [rV])
  all_goals (try (simp at h; subst h; simp [rV]))
theorem seenCells_map (p : Program) (c : Array Value) (e : TypeId) : ∀ (f x stop : Nat), seenCells p (c.map (rV ρ)) e f x stop = seenCells p c e f x stop
  | 0, _, _ => rfl
  | f + 1, x, stop => by
    unfold seenCells
    simp only [Array.getElem?_map]
    split
    · rfl
    · split
      · rfl
      · split
        · rfl
        · rename_i i s hh
          cases hc : c[i]? with
          | none => rfl
          | some v =>
            simp only [Option.map_some, bytes_rV, seenCells_map p c e f]
theorem thr {ε α β : Type} (e : ε) (f : α → Except ε β) : ((MonadExcept.throw e : Except ε α) >>= f) = .error e := rfl
theorem thr' {ε α : Type} (e : ε) : (MonadExcept.throw e : Except ε α) = .error e := rfl
theorem seen_par (h : HR base fl ρ w w') {p : Program} {at_ k : Addr} {u : TypeId} {atomic : Bool} {x : Array Value × TypeId × (Nat × Nat) × Nat × Value × List (Nat × Nat × List UInt8)} (hx : w.seen p at_ u k atomic = .ok x) :
    ∃ fr', w'.seen p (rA ρ at_) u (rA ρ k) atomic = .ok (x.1.map (rV ρ), x.2.1, fr', x.2.2.2) ∧ w.heap[at_.block]? = some (.cells x.1 x.2.1 x.2.2.1) ∧ w'.heap[ρ at_.block]? = some (.cells (x.1.map (rV ρ)) x.2.1 fr') := by
  unfold World.seen at hx ⊢
  have e1 : (rA ρ at_).block = ρ at_.block := rfl
  have e2 : (rA ρ at_).spot = at_.spot := rfl
  have e3 : (rA ρ at_).off = at_.off := rfl
  have e4 : (rA ρ k).spot = k.spot := rfl
  have e5 : (rA ρ k).off = k.off := rfl
  rw [e1, e2, e3, e4, e5]
  by_cases q1 : (k.spot.isSome || at_.spot.isSome) = true
  · simp only [q1, if_true, thr] at hx; cases hx
  simp only [q1] at hx ⊢
  cases q2 : plainCell p p.depth u k.off with
  | none => simp only [q2, thr', if_false, Bool.false_eq_true] at hx; cases hx
  | some like =>
  cases q3 : like.bytes?.map (·.length) with
  | none => simp only [q2, q3, thr', if_false, Bool.false_eq_true] at hx; cases hx
  | some size =>
  cases q4 : byteOfCell p p.depth u k.off with
  | none => simp only [q2, q3, q4, thr', if_false, Bool.false_eq_true] at hx; cases hx
  | some b =>
  cases hk : w.heap[at_.block]? with
  | none => simp only [q2, q3, q4, hk, thr', if_false, Bool.false_eq_true] at hx; cases hx
  | some o =>
  cases o with
  | cells c e f =>
    obtain ⟨f', h1, _⟩ := h.cells hk
    by_cases q5 : p.cellsOf e = 0
    · simp only [q2, q3, q4, hk, q5, if_true, if_false, Bool.false_eq_true, thr] at hx; cases hx
    cases q6 : byteOfCell p p.depth e (at_.off % p.cellsOf e) with
    | none => simp only [q2, q3, q4, hk, q5, q6, thr', if_false, Bool.false_eq_true] at hx; cases hx
    | some b0 =>
    cases q7 : seenCells p c e (size + 1) (at_.off / p.cellsOf e * p.bytesOf e + b0 + b) (at_.off / p.cellsOf e * p.bytesOf e + b0 + b + size) with
    | error er => simp only [q2, q3, q4, hk, q5, q6, q7, if_false, Bool.false_eq_true, bind, Except.bind] at hx; cases hx
    | ok cells =>
    simp only [q2, q3, q4, hk, h1, q5, q6, q7, seenCells_map, if_false, Bool.false_eq_true] at hx ⊢
    have q7' : seenCells p (c.map (rV ρ)) e (size + 1) (at_.off / p.cellsOf e * p.bytesOf e + b0 + b) (at_.off / p.cellsOf e * p.bytesOf e + b0 + b + size) = .ok cells := by rw [seenCells_map]; exact q7
    refine ⟨f', ?_⟩
    by_cases q8 : atomic = true
    · simp only [q8, if_true, bind, Except.bind, pure, Except.pure] at hx ⊢
      split at hx
      · split at hx
        · cases hx
        · rename_i q9
          rw [if_neg q9]
          cases hx
          exact ⟨rfl, rfl, rfl⟩
      · cases hx
    · simp only [q8, bind, Except.bind, pure, Except.pure] at hx ⊢
      cases hx
      exact ⟨rfl, rfl, rfl⟩
  | _ => simp only [q2, q3, q4, hk, thr', if_false, Bool.false_eq_true] at hx; cases hx
theorem viewLoad_seen {p : Program} {at_ k : Addr} {u : TypeId} {atomic : Bool} {x : Value × List Addr} (hx : w.viewLoad p at_ u k atomic = .ok x) : ∃ y, w.seen p at_ u k atomic = .ok y := by
  unfold World.viewLoad at hx
  cases hs : w.seen p at_ u k atomic with
  | error e => rw [hs] at hx; cases hx
  | ok y => exact ⟨y, rfl⟩
theorem viewLoad_par (h : HR base fl ρ w w') {p : Program} {at_ k : Addr} {u : TypeId} {atomic : Bool} {v : Value} {l : List Addr} (hx : w.viewLoad p at_ u k atomic = .ok (v, l)) :
    w'.viewLoad p (rA ρ at_) u (rA ρ k) atomic = .ok (rV ρ v, l.map (rA ρ)) := by
  unfold World.viewLoad at hx ⊢
  cases hs : w.seen p at_ u k atomic with
  | error e => rw [hs] at hx; cases hx
  | ok x =>
    obtain ⟨f', h1, _, _⟩ := seen_par h hs
    rw [hs] at hx
    rw [h1]
    obtain ⟨c, e, f, first, like, cells⟩ := x
    simp only [bind, Except.bind, pure, Except.pure] at hx ⊢
    split at hx
    · rename_i v' hv
      cases hx
      simp only [ofBytes_plain hv, List.map_map]
      rfl
    · cases hx
theorem farLoad_dead {p : Program} {a : Addr} {at_ : Bool} {hh : Halt} (hn : ∀ (k : Nat) (o : Obj), w.heap[k]? = some o → notP o) (h : w.farLoad p a at_ = .error hh) : deadH hh := by
  unfold World.farLoad at h
  split at h
  · split at h
    · cases h
    · cases h; trivial
  · cases h
    unfold World.noCell
    split
    · rename_i q; exact (hn _ _ q).elim
    · trivial
    · trivial
end
section
variable {P : Program} {base : Nat} {fl : Fl} {ρ : Nat → Nat}
theorem Out.dead {α β : Type} {R : α → β → Prop} {w w' w1 : World} {hh : Halt} (h : deadH hh) (c : Result β) (es : Array Event) : Out base fl ρ R w w' (.halt hh w1) c es := by
  cases hh <;> first | exact h | exact h.elim
theorem Par.load (a : Addr) (m : Mode) : Par P base fl ρ (fun v v' => v' = rV ρ v) (Go.load a m) (Go.load (rA ρ a) m) := fun w w' hw => by
  cases hc : w.cell? a with
  | some v =>
    refine ⟨.ok v w, Runs.still rfl fun τ => ?_, ?_⟩
    · have : (tpW w τ).cell? a = some v := hc
      simp only [Go.load, Sem.run, this, tpR]
    · have h1 := hw.cell hc
      have h2 : (Go.load (rA ρ a) m).run P w' = .ok (rV ρ v) w' := by simp only [Go.load, Sem.run, h1]
      rw [h2]
      refine ⟨rfl, hw, Nat.le_refl _, Gu.quiet fun _ e he => ?_⟩
      simp [Sem.events, Go.load, Sem.runT, h1, -Sem.runT_eq] at he
      subst he
      exact evRead hw _ _
  | none =>
    cases hf : w.farLoad P a (m == .atomic) with
    | error hh =>
      refine ⟨.halt hh w, Runs.still rfl fun τ => ?_, Out.dead (farLoad_dead hw.np hf) _ _⟩
      have : (tpW w τ).cell? a = none := hc
      have h2 : (tpW w τ).farLoad P a (m == .atomic) = .error hh := hf
      simp only [Go.load, Sem.run, this, h2, tpR]
    | ok x =>
      obtain ⟨v, l⟩ := x
      refine ⟨.ok v w, Runs.still rfl fun τ => ?_, ?_⟩
      · have : (tpW w τ).cell? a = none := hc
        have h2 : (tpW w τ).farLoad P a (m == .atomic) = .ok (v, l) := hf
        simp only [Go.load, Sem.run, this, h2, tpR]
      · unfold World.farLoad at hf
        split at hf
        · rename_i at_ u hk
          split at hf
          · rename_i r hv
            cases hf
            have hb : base ≤ a.block := by
              by_cases hb : base ≤ a.block
              · exact hb
              · obtain ⟨o', _, h2⟩ := hw.sh a.block _ (by omega) hk
                rcases h2 with ⟨_, _, _, _, _, q, _⟩ | ⟨_, q, _⟩ | ⟨_, _, q, _⟩
                · cases q
                · cases q
                · cases q
                  obtain ⟨y, hy⟩ := viewLoad_seen hv
                  obtain ⟨_, _, h3, _⟩ := seen_par hw hy
                  have h3 : w.heap[a.block]? = _ := h3
                  rw [hk] at h3
                  cases h3
            have h1 : w'.heap[(rA ρ a).block]? = some (.view (rA ρ at_) u) := hw.own _ _ hb hk
            have h3 : w'.cell? (rA ρ a) = none := by unfold World.cell?; rw [h1]
            have h4 : w'.farLoad P (rA ρ a) (m == .atomic) = .ok (rV ρ v, l.map (rA ρ)) := by
              unfold World.farLoad
              rw [h1]
              simp only [viewLoad_par hw hv]
            have h2 : (Go.load (rA ρ a) m).run P w' = .ok (rV ρ v) w' := by simp only [Go.load, Sem.run, h3, h4]
            rw [h2]
            refine ⟨rfl, hw, Nat.le_refl _, Gu.quiet fun _ e he => ?_⟩
            simp [Sem.events, Go.load, Sem.runT, h3, h4, -Sem.runT_eq] at he
            obtain ⟨y, hy, rfl⟩ := he
            exact evRead hw _ _
          · cases hf
        · cases hf
end
end Go.Proofs.Q
namespace Go.Proofs.Q
open Go
set_option linter.unusedVariables false
set_option linter.unusedSectionVars false
variable [Gds] [Tok]
theorem at_modify {α : Type} (xs : Array α) (k : Nat) (f : α → α) {o : α} (h : xs[k]? = some o) (i : Nat) : (xs.modify k f)[i]? = if i = k then some (f o) else xs[i]? := by
  rw [Array.getElem?_modify]
  by_cases e : k = i
  · subst e; simp [h]
  · rw [if_neg e, if_neg (fun q => e q.symm)]
theorem at_set {α : Type} (xs : Array α) (k : Nat) (v : α) (h : k < xs.size) (i : Nat) : (xs.setIfInBounds k v)[i]? = if i = k then some v else xs[i]? := by
  rw [Array.getElem?_setIfInBounds]
  by_cases e : k = i
  · subst e; simp [h]
  · rw [if_neg e, if_neg (fun q => e q.symm)]
section
variable {P : Program} {base : Nat} {fl : Fl} {ρ : Nat → Nat} {w w' : World}
theorem evWrite (h : HR base fl ρ w w') {a : Addr} (hb : base ≤ a.block) (s : Bool) : EvG base fl.cb ρ ⟨.cell (rA ρ a), true, s⟩ := .inl ⟨a.block, hb, rfl⟩
theorem lt_of_at {o : Obj} {k : Nat} (h : w.heap[k]? = some o) : k < w.heap.size := (Array.getElem?_eq_some_iff.1 h).1
theorem store_both (h : HR base fl ρ w w') {k : Nat} {c c1 : Array Value} {e : TypeId} {f f' : Nat × Nat} {w1 w1' : World} {es : Array Event} (hk : w.heap[k]? = some (.cells c e f)) (hk' : w'.heap[ρ k]? = some (.cells (c.map (rV ρ)) e f')) (hfl : k < base → fl.b = false)
    (hs : c1.size = c.size) (e1 : ∀ i, w1.heap[i]? = if i = k then some (.cells c1 e f) else w.heap[i]?) (s1 : w1.heap.size = w.heap.size) (e2 : ∀ i, w1'.heap[i]? = if i = ρ k then some (.cells (c1.map (rV ρ)) e f') else w'.heap[i]?) (s2 : w1'.heap.size = w'.heap.size)
    (o1 : w1.os = w.os) (o2 : w1'.os = w'.os) (ht : w1'.tape = w'.tape) (ho : w1'.output = w'.output) (hes : fl.b = true → ∀ x ∈ es, EvG base fl.cb ρ x) (d1 : w1.drawn = w.drawn := by rfl) (d2 : w1'.drawn = w'.drawn := by rfl) : HR base fl ρ w1 w1' ∧ w.heap.size ≤ w1.heap.size ∧ Gu base fl ρ w w' w1' es := by
  obtain ⟨g, g1, g2, g3, g4⟩ := h.cells hk
  rw [hk'] at g1
  cases g1
  by_cases hb : base ≤ k
  · obtain rfl := g2 hb
    exact ⟨h.turn hb (lt_of_at hk) e1 s1 e2 s2 (by rw [o1, o2]; exact h.os) (dr := ⟨d1, d2, ht⟩), Nat.le_of_eq s1.symm, Gu.turn h hb (lt_of_at hk) e2 s2 ht ho hes o2⟩
  · have hb' : k < base := by omega
    have hf := hfl hb'
    obtain rfl := g4 hf
    refine ⟨h.turnS hb' e1 s1 e2 s2 (by rw [o1, o2]; exact h.os) (.inl ⟨h.vis hb' hk, _, _, _, _, rfl, rfl, (fun q => by rw [hf] at q; cases q), (fun _ => rfl)⟩) (dr := ⟨d1, d2, ht⟩), Nat.le_of_eq s1.symm, ⟨Nat.le_of_eq s2.symm, ht, ho, fun x q1 q2 q3 => ?_, (fun q => by rw [hf] at q; cases q), (fun q => by rw [hf] at q; cases q), fun x o q1 q2 => ?_, o2, fun i hi => by rw [e2, if_neg (fun q => by have := h.inj _ _ q; have hv := h.vis hb' hk; rw [this] at hi; rw [hi.2] at hv; cases hv)]⟩⟩
    · rw [e2, if_neg (by have := h.lo k hb'; omega)]
    · rw [e2]
      by_cases e0 : x = ρ k
      · subst e0
        rw [q2] at hk'
        cases hk'
        rw [if_pos rfl]
        exact ⟨_, rfl, .inr ⟨_, _, _, _, _, rfl, rfl, .inl rfl⟩⟩
      · rw [if_neg e0]; exact ⟨o, q2, .inl rfl⟩
theorem cells_of_cell {a : Addr} {v : Value} (h : w.cell? a = some v) : ∃ c e f, w.heap[a.block]? = some (.cells c e f) ∧ a.spot.isSome = false ∧ c[a.off]? = some v := by
  unfold World.cell? at h
  split at h
  · rename_i c e f hk
    split at h
    · cases h
    · rename_i hs
      exact ⟨c, e, f, hk, by simpa using hs, h⟩
  · cases h
theorem farStore_dead {p : Program} {a : Addr} {v : Value} {at_ : Bool} {hh : Halt} (hn : ∀ (k : Nat) (o : Obj), w.heap[k]? = some o → notP o) (h : w.farStore p a v at_ = .error hh) : deadH hh := by
  unfold World.farStore at h
  split at h
  · split at h
    · cases h
    · cases h; trivial
  · cases h
    unfold World.noCell
    split
    · rename_i q; exact (hn _ _ q).elim
    · trivial
    · trivial
def stepV (first : Nat) (bytes : List UInt8) (fr : Nat × Nat) (c : Array Value) (x : Nat × Nat × List UInt8) : Except String (Array Value) :=
  if (x.2.1 < first || x.2.1 + x.2.2.length > first + bytes.length) = true then .error "memory seen as another type: a part of a cell written" else
  if (fr.1 ≤ x.1 && x.1 < fr.2) = true then .error "a write to bytes that a string shares" else
  match c[x.1]? with
  | none => .error "memory seen as another type: no such cell"
  | some old => match old.ofBytes ((bytes.drop (x.2.1 - first)).take x.2.2.length) with
    | none => .error "memory seen as another type: a bool from a byte other than 0 or 1"
    | some new => .ok (c.setIfInBounds x.1 new)
theorem viewStore_eq (p : Program) (at_ : Addr) (u : TypeId) (k : Addr) (v : Value) (atomic : Bool) : w.viewStore p at_ u k v atomic =
    if tight p p.depth u = false then .error "memory seen as another type: a store through a type with padding" else
    match w.seen p at_ u k atomic with
    | .error e => .error e
    | .ok x => match v.bytes? with
      | none => .error "memory seen as another type: a value that is no plain data"
      | some bytes => if some bytes.length ≠ x.2.2.2.2.1.bytes?.map (·.length) then .error "memory seen as another type: a value of another size" else
        match x.2.2.2.2.2.foldlM (stepV x.2.2.2.1 bytes x.2.2.1) x.1 with
        | .error e => .error e
        | .ok c1 => .ok ({ w with heap := w.heap.setIfInBounds at_.block (.cells c1 x.2.1 x.2.2.1) }, x.2.2.2.2.2.map fun y => { block := at_.block, off := y.1 }) := by
  unfold World.viewStore
  by_cases q0 : tight p p.depth u = false
  · simp only [q0, Bool.not_false, if_true]; rfl
  · have qt : tight p p.depth u = true := by simpa using q0
    simp only [qt, Bool.not_true, Bool.true_eq_false, if_false, Bool.false_eq_true]
    cases w.seen p at_ u k atomic with
    | error e => rfl
    | ok x =>
      obtain ⟨c, e, f, first, like, cells⟩ := x
      simp only [bind, Except.bind]
      cases v.bytes? with
      | none => rfl
      | some bytes =>
        simp only
        split
        · rfl
        · have hF : ∀ (F : Array Value → Nat × Nat × List UInt8 → Except String (Array Value)), (∀ c x, F c x = stepV first bytes f c x) → List.foldlM F c cells = List.foldlM (stepV first bytes f) c cells := fun F h => by
            rw [show F = stepV first bytes f from funext fun c => funext fun x => h c x]
          rw [hF]
          · cases List.foldlM (stepV first bytes f) c cells <;> rfl
          · intro c x
            unfold stepV
            split
            · rfl
            · split
              · rfl
              · cases c[x.1]? with
                | none => rfl
                | some old => cases hq : old.ofBytes ((bytes.drop (x.2.1 - first)).take x.2.2.length) <;> simp only [hq] <;> rfl
theorem set_same {α : Type} (xs : Array α) (k : Nat) {v : α} (h : xs[k]? = some v) : xs.setIfInBounds k v = xs := by
  apply Array.ext_getElem?
  intro i
  rw [at_set _ _ _ (Array.getElem?_eq_some_iff.1 h).1]
  split
  · rename_i e; rw [e, h]
  · rfl
theorem fold_par {first : Nat} {bytes : List UInt8} {fr fr' : Nat × Nat} : ∀ (cells : List (Nat × Nat × List UInt8)) (c c1 : Array Value), (fr' = fr ∨ (fr.1 = 0 ∧ c.size < fr.2)) → cells.foldlM (stepV first bytes fr) c = .ok c1 →
    c1.size = c.size ∧ (cells = [] ∨ (fr' = fr ∧ ¬ (fr.1 = 0 ∧ c.size < fr.2))) ∧ cells.foldlM (stepV first bytes fr') (c.map (rV ρ)) = .ok (c1.map (rV ρ))
  | [], c, c1, hf, h => by
    cases h
    exact ⟨rfl, .inl rfl, rfl⟩
  | x :: l, c, c1, hf, h => by
    simp only [List.foldlM_cons] at h ⊢
    unfold stepV at h ⊢
    by_cases q1 : (x.2.1 < first || x.2.1 + x.2.2.length > first + bytes.length) = true
    · simp only [q1, if_true, bind, Except.bind] at h; cases h
    by_cases q2 : (fr.1 ≤ x.1 && x.1 < fr.2) = true
    · simp only [q1, q2, if_true, bind, Except.bind, Bool.false_eq_true, if_false] at h; cases h
    cases q3 : c[x.1]? with
    | none => simp only [q1, q2, q3, bind, Except.bind, Bool.false_eq_true, if_false] at h; cases h
    | some old =>
    cases q4 : old.ofBytes ((bytes.drop (x.2.1 - first)).take x.2.2.length) with
    | none => simp only [q1, q2, q3, q4, bind, Except.bind, Bool.false_eq_true, if_false] at h; cases h
    | some new =>
    have hi : x.1 < c.size := (Array.getElem?_eq_some_iff.1 q3).1
    have hfr : fr' = fr := by
      rcases hf with e | ⟨e1, e2⟩
      · exact e
      · exfalso; apply q2; simp; omega
    subst hfr
    simp only [q1, q2, q3, q4, bind, Except.bind, Bool.false_eq_true, if_false] at h
    have h' : l.foldlM (stepV first bytes fr') (c.setIfInBounds x.1 new) = .ok c1 := h
    obtain ⟨r1, r2, r3⟩ := fold_par l _ c1 (.inl rfl) h'
    refine ⟨by simpa using r1, .inr ⟨rfl, fun ⟨e1, e2⟩ => q2 (by simp; omega)⟩, ?_⟩
    have q5 : (c.map (rV ρ))[x.1]? = some (rV ρ old) := by simp [q3]
    simp only [q1, q2, q5, ofBytes_rV, q4, bind, Except.bind, Bool.false_eq_true, if_false]
    have q6 : (c.map (rV ρ)).setIfInBounds x.1 new = (c.setIfInBounds x.1 new).map (rV ρ) := by
      rw [Array.map_setIfInBounds, ofBytes_plain q4]
    rw [q6]
    exact r3
end
end Go.Proofs.Q
