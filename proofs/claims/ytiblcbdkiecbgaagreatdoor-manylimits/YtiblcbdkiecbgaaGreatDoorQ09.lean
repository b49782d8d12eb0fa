import Derived.Test.YtiblcbdkiecbgaaGreatDoorQ08
import Derived.Conc.CrowdComm
import Derived.Conc.Beside
import Derived.Conc.CrowdCom
namespace Go.Proofs.Q
open Go Go.Conc
set_option linter.unusedVariables false
set_option linter.unusedSectionVars false
set_option linter.unusedSimpArgs false
theorem sbf_trans {a b c : Obj} (h : sameButF a b) (h' : sameButF b c) : sameButF a c := by
  rcases h with rfl | ⟨x, e, f, f', rfl, rfl, hf⟩
  · exact h'
  · rcases h' with rfl | ⟨x', e', g, g', h1, rfl, hg⟩
    · exact .inr ⟨_, _, _, _, rfl, rfl, hf⟩
    · cases h1
      exact .inr ⟨_, _, _, _, rfl, rfl, by omega⟩
structure Pm where
  P : Program
  base : Nat
  top : Nat
  J : Nat
  Wg : Nat
  C : Nat
  n : Nat
  ty : TypeId
  eC : TypeId
  W0 : World
  ans : Nat → Value
  jobV : Nat → Value
  bJ : base ≤ J ∧ J < top
  bWg : base ≤ Wg ∧ Wg < top
  bC : base ≤ C ∧ C < top
  dJW : J ≠ Wg
  dJC : J ≠ C
  dWC : Wg ≠ C
def Pm.RdB (p : Pm) (b : Nat) : Prop := b < p.top ∧ b ≠ p.C ∧ b ≠ p.J ∧ b ≠ p.Wg
structure KN (p : Pm) (w : World) : Prop where
  size : p.top ≤ w.heap.size
  os : w.os = p.W0.os
  out : w.output = p.W0.output
  lo : ∀ b, b < p.base → w.heap[b]? = p.W0.heap[b]?
  low : ∀ b o, b < p.base → p.W0.heap[b]? = some o → ∃ o', w.heap[b]? = some o' ∧ sameButF o o'
  mid : ∀ b, p.base ≤ b → p.RdB b → w.heap[b]? = p.W0.heap[b]?
  wg : ∃ st sm, w.heap[p.Wg]? = some (.cells #[.int .u64 st, .int .u32 sm] p.ty)
  pay : ∃ cs : Array Value, w.heap[p.C]? = some (.cells cs p.eC) ∧ cs.size = p.n
  ch : ∃ closed s r tm, w.heap[p.J]? = some (.chan 0 #[] closed s r tm)
structure Rl (p : Pm) (S : Nat → Prop) (w w1 : World) : Prop where
  kn : KN p w1
  size : w.heap.size ≤ w1.heap.size
  mine : ∀ b, S b → w1.heap[b]? = w.heap[b]?
  low : ∀ b o, b < p.base → w.heap[b]? = some o → ∃ o', w1.heap[b]? = some o' ∧ sameButF o o'
theorem Rl.refl {p : Pm} {S : Nat → Prop} {w : World} (h : KN p w) : Rl p S w w := ⟨h, Nat.le_refl _, fun _ _ => rfl, fun b o _ ho => ⟨o, ho, .inl rfl⟩⟩
theorem Rl.trans {p : Pm} {S : Nat → Prop} {w w1 w2 : World} (h : Rl p S w w1) (h' : Rl p S w1 w2) : Rl p S w w2 :=
  ⟨h'.kn, Nat.le_trans h.size h'.size, fun b hb => (h'.mine b hb).trans (h.mine b hb), fun b o hb ho => by
    obtain ⟨o1, h1, h2⟩ := h.low b o hb ho
    obtain ⟨o2, h3, h4⟩ := h'.low b o1 hb h1
    exact ⟨o2, h3, sbf_trans h2 h4⟩⟩
theorem Rl.sub {p : Pm} {S S' : Nat → Prop} {w w1 : World} (h : Rl p S w w1) (hs : ∀ b, S' b → S b) : Rl p S' w w1 := ⟨h.kn, h.size, fun b hb => h.mine b (hs b hb), h.low⟩
def EvP (p : Pm) (S : Nat → Prop) (w w' : World) (e : Event) : Prop := match e.loc with
  | .cell a => ((S a.block ∨ w.heap.size ≤ a.block) ∧ a.block < w'.heap.size) ∨ (e.write = false ∧ p.RdB a.block)
  | .obj r => ((S r ∨ w.heap.size ≤ r) ∧ r < w'.heap.size) ∨ (e.write = false ∧ p.RdB r)
  | .mark (.extern _) => True
  | .mark .noRoom => True
  | .output => True
  | _ => False
structure Priv (p : Pm) (S : Nat → Prop) (w w' : World) (es : Array Event) : Prop where
  kn : KN p w'
  size : w.heap.size ≤ w'.heap.size
  rest : ∀ b, p.base ≤ b → b < w.heap.size → ¬ S b → w'.heap[b]? = w.heap[b]?
  low : ∀ b o, b < p.base → w.heap[b]? = some o → ∃ o', w'.heap[b]? = some o' ∧ sameButF o o'
  evs : ∀ e ∈ es, EvP p S w w' e
def more (S : Nat → Prop) (w w' : World) : Nat → Prop := fun b => S b ∨ (w.heap.size ≤ b ∧ b < w'.heap.size)
theorem Priv.idle {p : Pm} {S : Nat → Prop} {w : World} (h : KN p w) : Priv p S w w #[] := ⟨h, Nat.le_refl _, fun _ _ _ _ => rfl, fun b o _ ho => ⟨o, ho, .inl rfl⟩, fun e he => by simp at he⟩
theorem more_idle (S : Nat → Prop) (w : World) : more S w w = S := by funext b; apply propext; unfold more; constructor <;> (intro h; first | exact h.resolve_right (by omega) | exact .inl h)
inductive Lv (p : Pm) (main q : Bool) (Stop : Goroutine → World → Prop) : (Nat → Prop) → Goroutine → World → Prop
  | stop {S : Nat → Prop} {g : Goroutine} {w : World} : (∀ w1, Rl p S w w1 → Stop g w1) → Lv p main q Stop S g w
  | step {S : Nat → Prop} {g : Goroutine} {w : World} : g.status = .running → (∀ w1, Rl p S w w1 → ∃ g' w' es, stepG p.P main g w1 = .go g' w' es ∧ Priv p S w1 w' es ∧ (q = true → es = #[])) →
      (∀ w1 g' w' es, Rl p S w w1 → stepG p.P main g w1 = .go g' w' es → Lv p main q Stop (more S w1 w') g' w') → Lv p main q Stop S g w
section
variable {p : Pm} {main q : Bool} {Stop : Goroutine → World → Prop}
theorem Lv.rely {S : Nat → Prop} {g : Goroutine} {w w1 : World} (h : Lv p main q Stop S g w) (hr : Rl p S w w1) : Lv p main q Stop S g w1 := by
  cases h with
  | stop h => exact .stop fun w2 h2 => h w2 (hr.trans h2)
  | step hs h1 h2 => exact .step hs (fun w2 h3 => h1 w2 (hr.trans h3)) fun w2 g' w' es h3 => h2 w2 g' w' es (hr.trans h3)
theorem more_sub {S S' : Nat → Prop} {w w' : World} (hs : ∀ b, S b → S' b) : ∀ b, more S w w' b → more S' w w' b := fun b hb => hb.imp (hs b) id
theorem EvP.sub {S S' : Nat → Prop} (hs : ∀ b, S b → S' b) {w w' : World} {e : Event} (h : EvP p S w w' e) : EvP p S' w w' e := by
  unfold EvP at *
  split <;> rename_i he
  · rw [he] at h; exact h.imp (fun ⟨a, b⟩ => ⟨a.imp (hs _) id, b⟩) id
  · rw [he] at h; exact h.imp (fun ⟨a, b⟩ => ⟨a.imp (hs _) id, b⟩) id
  · trivial
  · trivial
  · trivial
  · rename_i h1 h2 h3 h4
    revert h
    split
    all_goals first | (intro _; simp_all; done) | exact id
theorem Lv.wide {S : Nat → Prop} {g : Goroutine} {w : World} (h : Lv p main q Stop S g w) : ∀ {S' : Nat → Prop}, (∀ b, S b → S' b) → Lv p main q Stop S' g w := by
  induction h with
  | stop h => exact fun hs => .stop fun w1 h1 => h w1 (h1.sub hs)
  | step hr h1 _ ih =>
    intro S' hs
    refine .step hr (fun w1 h3 => ?_) fun w1 g' w' es h3 hh => ih w1 g' w' es (h3.sub hs) hh (more_sub hs)
    obtain ⟨g', w', es, q1, q2, q3⟩ := h1 w1 (h3.sub hs)
    exact ⟨g', w', es, q1, ⟨q2.kn, q2.size, fun b hb hl hn => q2.rest b hb hl fun h => hn (hs b h), q2.low, fun e he => (q2.evs e he).sub hs⟩, q3⟩
theorem Lv.one {S : Nat → Prop} {g : Goroutine} {w : World} (hs : g.status = .running) (h : ∀ w1, Rl p S w w1 → ∃ g' w' es, stepG p.P main g w1 = .go g' w' es ∧ Priv p S w1 w' es ∧ (q = true → es = #[]) ∧ Lv p main q Stop (more S w1 w') g' w') : Lv p main q Stop S g w :=
  .step hs (fun w1 h1 => by obtain ⟨g', w', es, q1, q2, q3, _⟩ := h w1 h1; exact ⟨g', w', es, q1, q2, q3⟩) fun w1 g' w' es h1 hh => by
    obtain ⟨g2, w2, es2, q1, _, _, q3⟩ := h w1 h1
    rw [hh] at q1
    cases q1
    exact q3
theorem Lv.mono {Stop' : Goroutine → World → Prop} {S : Nat → Prop} {g : Goroutine} {w : World} (h : Lv p main q Stop S g w) (hs : ∀ S g w, KN p w → Stop g w → Lv p main q Stop' S g w) (hk : KN p w) : Lv p main q Stop' S g w := by
  induction h with
  | stop h => exact hs _ _ _ hk (h _ (Rl.refl hk))
  | step hr h1 _ ih => exact .step hr h1 fun w1 g' w' es h3 hh => ih w1 g' w' es h3 hh (by
      obtain ⟨g2, w2, es2, q1, q2, _⟩ := h1 w1 h3
      rw [hh] at q1; cases q1; exact q2.kn)
theorem Lv.of_goes {S : Nat → Prop} {R : World → World → Prop} {Stop' : Goroutine → World → Prop} (hR : ∀ w w1, KN p w → Rl p S w w1 → R w w1) (hs : ∀ g w, KN p w → (∀ w1, R w w1 → Stop' g w1) → Lv p main q Stop S g w) :
    ∀ {n : Nat} {g : Goroutine} {w : World}, KN p w → Goes p.P main R Go.ConcR.DC0 Stop' n g w → Lv p main q Stop S g w
  | 0, g, w, hk, h => hs g w hk h
  | n + 1, g, w, hk, h => by
    rcases h with h | ⟨hr, h⟩
    · exact hs g w hk h
    · refine Lv.one hr fun w1 h1 => ?_
      obtain ⟨g', w', es, hgo, ⟨rfl, rfl⟩, hg⟩ := goes_elim (h w1 (hR _ _ hk h1))
      refine ⟨g', _, _, hgo, Priv.idle h1.kn, fun _ => rfl, ?_⟩
      rw [more_idle]
      exact Lv.of_goes hR hs h1.kn hg
end
structure X where
  main : Bool
  Stop : Goroutine → World → Prop
  S : Nat → Prop
  g : Goroutine
  w : World
def X.stops (p : Pm) (x : X) : Prop := ∀ w1, Rl p x.S x.w w1 → x.Stop x.g w1
def NxW (p : Pm) (x' x : X) : Prop :=
  ¬ x.stops p ∧ ∃ w1 es, Rl p x.S x.w w1 ∧ stepG p.P x.main x.g w1 = .go x'.g x'.w es ∧ x'.S = more x.S w1 x'.w ∧ x'.main = x.main ∧ x'.Stop = x.Stop
theorem Lv.acc {p : Pm} {main q : Bool} {Stop : Goroutine → World → Prop} {S : Nat → Prop} {g : Goroutine} {w : World} (h : Lv p main q Stop S g w) : Acc (NxW p) ⟨main, Stop, S, g, w⟩ := by
  induction h with
  | stop h => exact ⟨_, fun y hy => absurd h hy.1⟩
  | @step S g w hs h1 _ ih =>
    refine ⟨_, fun y hy => ?_⟩
    obtain ⟨m', St', S', g', w'⟩ := y
    obtain ⟨_, w1, es, q1, q2, q3, q4, q5⟩ := hy
    simp only at q1 q2 q3 q4 q5
    subst q3 q4 q5
    exact ih w1 g' w' es q1 q2
def LL (p : Pm) : Type := { x : X // Acc (NxW p) x } ⊕ Nat
inductive LLt (p : Pm) : LL p → LL p → Prop
  | way {x y : { x : X // Acc (NxW p) x }} : NxW p y.1 x.1 → LLt p (.inl y) (.inl x)
  | near {x : { x : X // Acc (NxW p) x }} {m : Nat} : LLt p (.inr m) (.inl x)
  | fuel {m m' : Nat} : m' < m → LLt p (.inr m') (.inr m)
theorem LLt.wf (p : Pm) : WellFounded (LLt p) := by
  have hn : ∀ m : Nat, Acc (LLt p) (.inr m) := fun m => by
    induction m using Nat.strongRecOn with
    | _ m ih => exact ⟨_, fun y hy => by cases hy with | fuel h => exact ih _ h⟩
  refine ⟨fun y => ?_⟩
  cases y with
  | inr m => exact hn m
  | inl x =>
    obtain ⟨x, hx⟩ := x
    induction hx with
    | intro x h ih =>
      refine ⟨_, fun y hy => ?_⟩
      cases hy with
      | near => exact hn _
      | @way _ y hy => exact ih y.1 hy
def Mu (p : Pm) : Type := Nat × (List (LL p) × LL p)
def MuLt (p : Pm) : Mu p → Mu p → Prop := Prod.Lex (· < ·) (Prod.Lex (OneOf fun a b => LLt p b a) (LLt p))
theorem OneOf.flip {α : Type} {r : α → α → Prop} (h : WellFounded r) (l : List α) : Acc (fun m l => OneOf (fun a b => r b a) l m) l := by
  have hx : ∀ x : α, ∀ {l : List α}, Acc (fun m l => OneOf (fun a b => r b a) l m) l → Acc (fun m l => OneOf (fun a b => r b a) l m) (x :: l) := fun x => by
    induction h.apply x with
    | intro x _ ihx =>
      intro l hl
      induction hl with
      | intro l hl' ihl =>
        refine ⟨_, fun m hm => ?_⟩
        cases hm with
        | head h => exact ihx _ h ⟨_, hl'⟩
        | tail h => exact ihl _ h
  induction l with
  | nil => exact ⟨_, fun m hm => by cases hm⟩
  | cons x l ih => exact hx x ih
end Go.Proofs.Q
namespace Go.Proofs.Q
open Go Go.Conc
open Go.ConcR (KK stA smA rd wr mk)
set_option linter.unusedVariables false
set_option linter.unusedSectionVars false
set_option linter.unusedSimpArgs false
def WgA (p : Pm) (w : World) (st sm : Int) : Prop := w.heap[p.Wg]? = some (.cells #[.int .u64 st, .int .u32 sm] p.ty)
abbrev none1 : Nat → Prop := fun _ => False
section
variable (p : Pm)
def LvA (main : Bool) (Stop : Goroutine → World → Prop) (g : Goroutine) : Prop := ∀ w, KN p w → Lv p main false Stop none1 g w
def LvQ (Stop : Goroutine → World → Prop) (g : Goroutine) : Prop := ∀ w, KN p w → Lv p false true Stop none1 g w
def SD4 (g : Goroutine) (w : World) : Prop :=
  g.status = .running ∧ mayWake p.P g = true ∧ (WgA p w 0 0 → ∃ g', stepG p.P false g w = .go g' (w.setCell (smA p.Wg) (.int .u32 1)) (semEvents (smA p.Wg)) ∧ ∃ q, QuitsD p.P q 1 g')
def SD3 (g : Goroutine) (w : World) : Prop :=
  g.status = .running ∧ (WgA p w 1 0 → ∃ g', stepG p.P false g w = .go g' (w.setCell (stA p.Wg) (.int .u64 0)) #[wr (stA p.Wg)] ∧ LvQ p (SD4 p) g')
def SD2 (g : Goroutine) (w : World) : Prop :=
  g.status = .running ∧ (WgA p w 1 0 → ∃ g', stepG p.P false g w = .go g' w #[rd (stA p.Wg)] ∧ LvQ p (SD3 p) g')
def SD1 (g : Goroutine) (w : World) : Prop :=
  g.status = .running ∧ ∀ v wt : Nat, wt ≤ 1 → v < 1000 → WgA p w ((v + 1) * KK + wt) 0 →
    ∃ g', stepG p.P false g w = .go g' (w.setCell (stA p.Wg) (.int .u64 (v * KK + wt))) #[rd (stA p.Wg), wr (stA p.Wg)] ∧
      ((v = 0 ∧ wt = 1) → LvQ p (SD2 p) g') ∧ (¬ (v = 0 ∧ wt = 1) → ∃ q, QuitsD p.P q 1 g')
def SK1 (g : Goroutine) (w : World) : Prop :=
  g.status = .running ∧ ∃ g', stepG p.P false g w = .go g' w #[mk .disable] ∧ LvQ p (SD1 p) g'
def SRel (g : Goroutine) (w : World) : Prop :=
  g.status = .running ∧ ∃ g', stepG p.P false g w = .go g' w #[mk (.releaseMerge (stA p.Wg))] ∧ LvQ p (SK1 p) g'
def SSto (Recv : Goroutine → Prop) (j : Nat) (g : Goroutine) (w : World) : Prop :=
  g.status = .running ∧ ∃ g', stepG p.P false g w = .go g' (w.setCell ⟨p.C, j, none⟩ (p.ans j)) #[⟨.cell ⟨p.C, j, none⟩, true, false⟩] ∧ LvA p false (fun g _ => Recv g) g'
def RecvS (Recv : Goroutine → Prop) (g : Goroutine) (z : Value) : Prop :=
  (∀ w, KN p w → stepG p.P false g w = .comm { g with offers := none } #[rcase p.J z] true (.recv true) w #[]) ∧
    (∀ j, j < p.n → LvA p false (SSto p Recv j) ({ g with offers := none }.finishComm p.P #[rcase p.J z] (.recv true) 0 (p.jobV j) true)) ∧
    LvA p false (SRel p) ({ g with offers := none }.finishComm p.P #[rcase p.J z] (.recv true) 0 z false)
structure RecvI (Recv : Goroutine → Prop) : Prop where
  run : ∀ g, Recv g → g.status = .running
  same : ∀ g g', Recv g → g'.frame = g.frame → g'.callers = g.callers → g'.dying = g.dying → g'.status = .running → Recv g'
  step : ∀ g, Recv g → ∃ z, RecvS p Recv g z
variable (Aft : Goroutine → Prop) (Anch : Goroutine → Prop)
def SAcq (g : Goroutine) (w : World) : Prop :=
  g.status = .running ∧ ∃ g', stepG p.P true g w = .go g' w #[mk (.acquire (stA p.Wg))] ∧ Aft g'
def SWke (g : Goroutine) (w : World) : Prop :=
  g.status = .running ∧ ∃ g', stepG p.P true g w = .go g' w #[mk .enable] ∧ LvA p true (SAcq p Aft) g'
def SW4 (g : Goroutine) (w : World) : Prop :=
  g.status = .running ∧ (WgA p w 0 0 → ∃ g', stepG p.P true g w = .go g' w #[rd (stA p.Wg)] ∧ LvA p true (SWke p Aft) g')
def SW3 (g : Goroutine) (w : World) : Prop :=
  g.status = .running ∧ g.offers = none ∧ ((∃ st, WgA p w st 0) → stepG p.P true g w = .go { g with status := .blocked } w #[]) ∧
    (WgA p w 0 1 → ∃ g', stepG p.P true g w = .go g' (w.setCell (smA p.Wg) (.int .u32 0)) (semEvents (smA p.Wg)) ∧ LvA p true (SW4 p Aft) g')
def SW2m (g : Goroutine) (w : World) : Prop :=
  g.status = .running ∧ ∃ g', stepG p.P true g w = .go g' w #[mk (.write (smA p.Wg))] ∧ LvA p true (SW3 p Aft) g'
def SW2 (vs : Nat) (g : Goroutine) (w : World) : Prop :=
  g.status = .running ∧ ∀ v : Nat, v < 1000 → WgA p w (v * KK) 0 →
    (v = vs → ∃ g', stepG p.P true g w = .go g' (w.setCell (stA p.Wg) (.int .u64 (v * KK + 1))) #[rd (stA p.Wg), wr (stA p.Wg)] ∧ LvA p true (SW2m p Aft) g') ∧
    (v ≠ vs → ∃ g', stepG p.P true g w = .go g' w #[rd (stA p.Wg)] ∧ LvA p true (fun g _ => Anch g) g')
def SW1 (g : Goroutine) (w : World) : Prop :=
  g.status = .running ∧ ∀ v : Nat, v < 1000 → WgA p w (v * KK) 0 → ∃ g', stepG p.P true g w = .go g' w #[rd (stA p.Wg)] ∧
    (v = 0 → LvA p true (SWke p Aft) g') ∧ (v ≠ 0 → LvA p true (SW2 p Aft Anch v) g')
def SWkd (g : Goroutine) (w : World) : Prop :=
  g.status = .running ∧ ∃ g', stepG p.P true g w = .go g' w #[mk .disable] ∧ LvA p true (fun g _ => Anch g) g'
def SCl (g : Goroutine) (w : World) : Prop :=
  g.status = .running ∧ mayWake p.P g = true ∧ ∀ s r tm, w.heap[p.J]? = some (.chan 0 #[] false s r tm) →
    ∃ g', stepG p.P true g w = .go g' (w.setChan p.J 0 #[] true s r tm) #[⟨.obj p.J, false, true⟩, ⟨.obj p.J, true, true⟩] ∧ g'.status = .running ∧ LvA p true (SWkd p Anch) g'
def SSnd : Nat → Nat → Goroutine → World → Prop
  | 0, _ => SCl p Anch
  | l + 1, i => fun g w => g.status = .running ∧ ∃ g2 z, g2.status = .running ∧ stepG p.P true g w = .comm g2 #[scase p.J (p.jobV i) z] true .send w #[] ∧
      LvA p true (SSnd l (i + 1)) (g2.finishComm p.P #[scase p.J (p.jobV i) z] .send 0 undef false)
def SKd (Recv : Goroutine → Prop) : Nat → Goroutine → World → Prop
  | 0 => SSnd p Anch p.n 0
  | r + 1 => fun g w =>
    let Go1 : Goroutine → World → Prop := fun g w => g.status = .running ∧ ∃ g' child, stepG p.P true g w = .spawn g' child w #[] ∧ child.status = .running ∧ LvA p false (fun g _ => Recv g) child ∧ LvA p true (SKd Recv r) g'
    let Ke : Goroutine → World → Prop := fun g w => g.status = .running ∧ ∃ g', stepG p.P true g w = .go g' w #[mk .enable] ∧ LvA p true Go1 g'
    let Rm : Goroutine → World → Prop := fun g w => g.status = .running ∧ ∃ g', stepG p.P true g w = .go g' w #[mk (.read (smA p.Wg))] ∧ LvA p true Ke g'
    let A1 : Goroutine → World → Prop := fun g w => g.status = .running ∧ ∀ v : Nat, v < 1000 → WgA p w (v * KK) 0 →
      ∃ g', stepG p.P true g w = .go g' (w.setCell (stA p.Wg) (.int .u64 ((v + 1) * KK))) #[rd (stA p.Wg), wr (stA p.Wg)] ∧ (v = 0 → LvA p true Rm g') ∧ (v ≠ 0 → LvA p true Ke g')
    g.status = .running ∧ ∃ g', stepG p.P true g w = .go g' w #[mk .disable] ∧ LvA p true A1 g'
end
section
variable (p : Pm) (Anch Recv : Goroutine → Prop)
def SGo (r : Nat) (g : Goroutine) (w : World) : Prop := g.status = .running ∧ ∃ g' child, stepG p.P true g w = .spawn g' child w #[] ∧ child.status = .running ∧ LvA p false (fun g _ => Recv g) child ∧ LvA p true (SKd p Anch Recv r) g'
def SKe (r : Nat) (g : Goroutine) (w : World) : Prop := g.status = .running ∧ ∃ g', stepG p.P true g w = .go g' w #[mk .enable] ∧ LvA p true (SGo p Anch Recv r) g'
def SRm (r : Nat) (g : Goroutine) (w : World) : Prop := g.status = .running ∧ ∃ g', stepG p.P true g w = .go g' w #[mk (.read (smA p.Wg))] ∧ LvA p true (SKe p Anch Recv r) g'
def SA1 (r : Nat) (g : Goroutine) (w : World) : Prop := g.status = .running ∧ ∀ v : Nat, v < 1000 → WgA p w (v * KK) 0 →
      ∃ g', stepG p.P true g w = .go g' (w.setCell (stA p.Wg) (.int .u64 ((v + 1) * KK))) #[rd (stA p.Wg), wr (stA p.Wg)] ∧ (v = 0 → LvA p true (SRm p Anch Recv r) g') ∧ (v ≠ 0 → LvA p true (SKe p Anch Recv r) g')
theorem SKd_succ (r : Nat) (g : Goroutine) (w : World) : SKd p Anch Recv (r + 1) g w ↔ (g.status = .running ∧ ∃ g', stepG p.P true g w = .go g' w #[mk .disable] ∧ LvA p true (SA1 p Anch Recv r) g') := Iff.rfl
end
inductive WTag where
  | recv | park | job (j : Nat) | rel | k1 | d1 | d2 | d3 | d4 | quit (d : Nat)
def WTag.stage : WTag → Nat
  | .job _ => 10 | .recv => 9 | .park => 9 | .rel => 7 | .k1 => 6 | .d1 => 5 | .d2 => 4 | .d3 => 3 | .d4 => 2 | .quit _ => 1
def WTag.deaf : WTag → Nat
  | .d1 | .d2 | .d3 | .d4 => 1 | .quit d => d | _ => 0
def WTag.q (d : WTag) : Bool := decide (d.stage ≤ 6)
def WTag.cnt (d : WTag) : Nat := if 5 ≤ d.stage then 1 else 0
def WTag.stop (p : Pm) (Recv : Goroutine → Prop) : WTag → Goroutine → World → Prop
  | .recv => fun g _ => Recv g
  | .job j => SSto p Recv j
  | .rel => SRel p
  | .k1 => SK1 p
  | .d1 => SD1 p
  | .d2 => SD2 p
  | .d3 => SD3 p
  | .d4 => SD4 p
  | _ => fun _ _ => False
inductive STag where
  | kd (r : Nat) | a1 (r : Nat) | rm (r : Nat) | ke (r : Nat) | go (r : Nat) | snd (i : Nat) | sndp (i : Nat) | wkd | w1 | w2 (vs : Nat) | w2m | w3 | blk | w4 | wke | acq
def STag.left : STag → Nat
  | .kd r | .a1 r | .rm r | .ke r | .go r => r + 1
  | _ => 0
def STag.sent (n : Nat) : STag → Nat
  | .kd _ | .a1 _ | .rm _ | .ke _ | .go _ => 0
  | .snd i | .sndp i => i
  | _ => n
def STag.closed : STag → Bool
  | .kd _ | .a1 _ | .rm _ | .ke _ | .go _ | .snd _ | .sndp _ => false
  | _ => true
def STag.deaf : STag → Nat
  | .a1 _ | .rm _ | .ke _ | .w1 | .w2 _ | .w2m | .w3 | .blk | .w4 | .wke => 1
  | _ => 0
def STag.pend : STag → Nat
  | .rm _ | .ke _ | .go _ => 1
  | _ => 0
def STag.isOpen : STag → Prop
  | .w2m | .w3 | .blk | .w4 | .wke | .acq => False
  | _ => True
def STag.isReg : STag → Prop
  | .w2m | .w3 | .blk => True
  | _ => False
def STag.isFin : STag → Prop
  | .w4 | .wke | .acq => True
  | _ => False
def STag.phi (n V : Nat) : STag → Nat
  | .kd r => 8 * V + 20 * n + 100 + 60 * r + 55
  | .a1 r => 8 * V + 20 * n + 100 + 60 * r + 54
  | .rm r => 8 * V + 20 * n + 100 + 60 * r + 53
  | .ke r => 8 * V + 20 * n + 100 + 60 * r + 52
  | .go r => 8 * V + 20 * n + 100 + 60 * r + 51
  | .snd i => 8 * V + 20 * (n - i) + 32
  | .sndp i => 8 * V + 20 * (n - i) + 31
  | .wkd => 8 * V + 22
  | .w1 => 8 * V + 20
  | .w2 vs => 8 * vs + 19
  | .w2m => 18
  | .w3 => 17
  | .blk => 17
  | .w4 => 16
  | .wke => 15
  | .acq => 14
def STag.stop (p : Pm) (Aft Anch Recv : Goroutine → Prop) : STag → Goroutine → World → Prop
  | .kd r => SKd p Anch Recv (r + 1)
  | .a1 r => SA1 p Anch Recv r
  | .rm r => SRm p Anch Recv r
  | .ke r => SKe p Anch Recv r
  | .go r => SGo p Anch Recv r
  | .snd i => SSnd p Anch (p.n - i) i
  | .wkd => SWkd p Anch
  | .w1 => SW1 p Aft Anch
  | .w2 vs => SW2 p Aft Anch vs
  | .w2m => SW2m p Aft
  | .w3 => SW3 p Aft
  | .w4 => SW4 p Aft
  | .wke => SWke p Aft
  | .acq => SAcq p Aft
  | _ => fun _ _ => False
end Go.Proofs.Q
namespace Go.Proofs.Q
open Go Go.Conc Go.ConcN
open Go.ConcR (KK stA smA rd wr mk)
set_option linter.unusedVariables false
set_option linter.unusedSectionVars false
set_option linter.unusedSimpArgs false
section
variable (p : Pm) (ow oj : Nat → Nat)
def Shr : Loc → Prop
  | .cell a => a.block = p.Wg
  | .obj r => r = p.J
  | _ => False
def OwnL (k : Nat) : Loc → Prop
  | .cell a => (a.block = p.C ∧ oj a.off = k) ∨ (p.top ≤ a.block ∧ ow a.block = k)
  | .obj r => p.top ≤ r ∧ ow r = k
  | _ => False
def RdL : Loc → Prop
  | .cell a => p.RdB a.block
  | .obj r => p.RdB r
  | _ => False
def OkT (k : Nat) (x : Touch) : Prop := OwnL p ow oj k x.loc ∨ (RdL p x.loc ∧ x.write = false)
structure TR (j B : Nat) (t : Trace) : Prop where
  wk : ∀ i x k, touchAt t i = some x → x.loc.isMemory = true → t.g? i = some k → k ≠ 0 → (Shr p x.loc ∧ x.kind = .atomic) ∨ (t.heard i ∧ OkT p ow oj k x)
  st : ∀ i x, touchAt t i = some x → x.loc.isMemory = true → t.g? i = some 0 → (Shr p x.loc ∧ x.kind ≠ .plain) ∨ ((∀ k, 1 ≤ k → ¬ OwnL p ow oj k x.loc) ∧ ¬ Shr p x.loc ∧ (x.write = true → RdL p x.loc → ∀ i' k, t.g? i' = some k → k ≠ 0 → HappensBefore t i i'))
  beg : ∀ k, 1 ≤ k → k ≤ j → ∃ q, t.g? q = some k
  gs : ∀ i k, t.g? i = some k → k ≤ j
  seen : ∀ op ∈ t, op.act.low B
  cseen : ∀ i x a, touchAt t i = some x → x.loc = .cell a → a.block = p.C → 1 ≤ oj a.off
  nrel : NoRelease (stA p.Wg) t
end
section
variable {p : Pm} {ow oj : Nat → Nat} {j B : Nat} {t : Trace}
theorem own_one {k k' : Nat} {l : Loc} (h : OwnL p ow oj k l) (h' : OwnL p ow oj k' l) : k = k' := by
  have := p.bC
  cases l <;> simp only [OwnL] at h h'
  · rcases h with ⟨h1, h2⟩ | ⟨h1, h2⟩ <;> rcases h' with ⟨h3, h4⟩ | ⟨h3, h4⟩ <;> omega
  · omega
theorem own_rd {k : Nat} {l : Loc} (h : OwnL p ow oj k l) : ¬ RdL p l := by
  intro h'
  cases l <;> simp only [OwnL, RdL, Pm.RdB] at h h'
  · rcases h with ⟨h1, h2⟩ | ⟨h1, h2⟩ <;> omega
  · omega
theorem own_sh {k : Nat} {l : Loc} (h : OwnL p ow oj k l) : ¬ Shr p l := by
  have := p.bC; have := p.bWg; have := p.dWC; have := p.bJ
  intro h'
  cases l <;> simp only [OwnL, Shr] at h h'
  · rcases h with ⟨h1, h2⟩ | ⟨h1, h2⟩ <;> omega
  · omega
theorem rd_sh {l : Loc} (h : RdL p l) : ¬ Shr p l := by
  intro h'
  cases l <;> simp only [RdL, Shr, Pm.RdB] at h h' <;> omega
theorem g_lt {i k : Nat} (h : t.g? i = some k) : i < t.size := by
  unfold Trace.g? at h
  obtain ⟨z, hz, _⟩ := Option.map_eq_some_iff.1 h
  exact lt_size_of_getElem? hz
theorem touch_lt {i : Nat} {x : Touch} (h : touchAt t i = some x) : i < t.size := by
  obtain ⟨z, hz, _⟩ := touch_of h
  exact lt_size_of_getElem? hz
theorem touch_g {i : Nat} {x : Touch} (h : touchAt t i = some x) : ∃ k, t.g? i = some k := by
  obtain ⟨z, hz, _⟩ := touch_of h
  exact ⟨z.g, by simp [Trace.g?, hz]⟩
theorem po {i i' k : Nat} (h : i < i') (h1 : t.g? i = some k) (h2 : t.g? i' = some k) : HappensBefore t i i' := .single (.inl ⟨h, k, h1, h2⟩)
theorem TR.nr (h : TR p ow oj j B t) (said : Bool) : ¬ Race said t := by
  rintro ⟨i, i', hlt, ⟨a, b, ha, hb, hl, hm, hw, hk⟩, n1, n2⟩
  have ha : touchAt t i = some a := ha
  have hb : touchAt t i' = some b := hb
  obtain ⟨k, hk1⟩ := touch_g ha
  obtain ⟨k', hk2⟩ := touch_g hb
  have hmb : b.loc.isMemory = true := hl ▸ hm
  by_cases e : k = k'
  · subst e; exact n1 (po hlt hk1 hk2)
  have key : ∀ {c d : Touch} {u v : Nat} {kc kd : Nat}, c.loc = d.loc → (c.write = true ∨ d.write = true) → (c.kind = .plain ∨ d.kind = .plain ∨ (said = true ∧ c.kind = .said ∧ d.kind = .said)) → touchAt t u = some c → touchAt t v = some d → c.loc.isMemory = true → t.g? u = some 0 → t.g? v = some kd → kd ≠ 0 → ¬ HappensBefore t u v → False := by
    intro c d u v kc kd hl hw hk hc hd hm hu hv hne hn
    have hmd : d.loc.isMemory = true := hl ▸ hm
    rcases h.wk v d kd hd hmd hv hne with ⟨s1, s2⟩ | ⟨_, o⟩
    · rcases h.st u c hc hm hu with ⟨s3, s4⟩ | ⟨_, s3, _⟩
      · rcases hk with q | q | ⟨_, _, q⟩
        · exact s4 q
        · rw [s2] at q; cases q
        · rw [s2] at q; cases q
      · exact s3 (hl ▸ s1)
    · rcases h.st u c hc hm hu with ⟨s3, s4⟩ | ⟨s3, _, s5⟩
      · rcases o with o | ⟨o, _⟩
        · exact own_sh o (hl ▸ s3)
        · exact rd_sh o (hl ▸ s3)
      · rcases o with o | ⟨o, ow'⟩
        · exact s3 kd (by omega) (hl ▸ o)
        · have : c.write = true := hw.resolve_right (by simp [ow'])
          exact hn (s5 this (hl ▸ o) v kd hv hne)
  by_cases k0 : k = 0
  · subst k0
    exact key (kc := 0) hl (by simpa using hw) hk ha hb hm hk1 hk2 (fun q => e q.symm) n1
  · by_cases k0' : k' = 0
    · subst k0'
      exact key (kc := 0) hl.symm (by simpa [or_comm] using hw) (by rcases hk with q | q | ⟨q1, q2, q3⟩; exact .inr (.inl q); exact .inl q; exact .inr (.inr ⟨q1, q3, q2⟩)) hb ha hmb hk2 hk1 k0 n2
    · rcases h.wk i a k ha hm hk1 k0 with ⟨s1, s2⟩ | ⟨_, o1⟩ <;> rcases h.wk i' b k' hb hmb hk2 k0' with ⟨s3, s4⟩ | ⟨_, o2⟩
      · rcases hk with q | q | ⟨_, q, _⟩
        · rw [s2] at q; cases q
        · rw [s4] at q; cases q
        · rw [s2] at q; cases q
      · rcases o2 with o | ⟨o, _⟩
        · exact own_sh o (hl ▸ s1)
        · exact rd_sh o (hl ▸ s1)
      · rcases o1 with o | ⟨o, _⟩
        · exact own_sh o (hl ▸ s3)
        · exact rd_sh o (hl ▸ s3)
      · rcases o1 with o1 | ⟨o1, w1⟩ <;> rcases o2 with o2 | ⟨o2, w2⟩
        · exact e (own_one o1 (hl ▸ o2))
        · exact own_rd o1 (hl ▸ o2)
        · exact own_rd o2 (hl ▸ o1)
        · rcases hw with q | q
          · rw [w1] at q; cases q
          · rw [w2] at q; cases q
theorem TR.app (h : TR p ow oj j B t) {u : Trace} {k B' : Nat} (hu : ∀ op ∈ u, op.g = k) (hk : 1 ≤ k) (hkj : k ≤ j) (hB : B ≤ B')
    (hw : ∀ i x, t.size ≤ i → touchAt (t ++ u) i = some x → x.loc.isMemory = true → (Shr p x.loc ∧ x.kind = .atomic) ∨ ((t ++ u).heard i ∧ OkT p ow oj k x))
    (hs : ∀ op ∈ u, op.act.low B') (hn : ∀ op ∈ u, op.act ≠ .mark (.release (stA p.Wg))) (hc : ∀ op ∈ u, ∀ x a, op.act.touch? = some x → x.loc = .cell a → a.block = p.C → 1 ≤ oj a.off) : TR p ow oj j B' (t ++ u) := by
  have gnew : ∀ {i k' : Nat}, t.size ≤ i → (t ++ u).g? i = some k' → k' = k := by
    intro i k' hi hg
    unfold Trace.g? at hg
    obtain ⟨z, hz, rfl⟩ := Option.map_eq_some_iff.1 hg
    rcases getElem?_append_cases hz with ⟨h1, _⟩ | ⟨_, h1⟩
    · omega
    · exact hu z h1
  refine ⟨fun i x k' hx hm hg hne => ?_, fun i x hx hm hg => ?_, fun k' h1 h2 => ?_, fun i k' hg => ?_, seen_app (fun op hop => MemAct.low_mono hB (h.seen op hop)) hs, fun i x a hx hl hb => ?_, h.nrel.app hn⟩
  · rcases Nat.lt_or_ge i t.size with q | q
    · rw [touchAt_old q] at hx
      rw [g?_old q] at hg
      exact (h.wk i x k' hx hm hg hne).imp id fun ⟨a, b⟩ => ⟨(heard_old q).2 a, b⟩
    · obtain rfl := gnew q hg
      exact hw i x q hx hm
  · rcases Nat.lt_or_ge i t.size with q | q
    · rw [touchAt_old q] at hx
      rw [g?_old q] at hg
      refine (h.st i x hx hm hg).imp id fun ⟨a, b, c⟩ => ⟨a, b, fun w1 w2 i' k' hg' hne => ?_⟩
      rcases Nat.lt_or_ge i' t.size with q' | q'
      · rw [g?_old q'] at hg'
        exact hb_app u (c w1 w2 i' k' hg' hne)
      · obtain rfl := gnew q' hg'
        obtain ⟨q0, hq0⟩ := h.beg k' hk hkj
        have hl := g_lt hq0
        exact (hb_app u (c w1 w2 q0 k' hq0 hne)).trans (po (by omega) (by rw [g?_old hl]; exact hq0) hg')
    · have := gnew q hg; omega
  · obtain ⟨q, hq⟩ := h.beg k' h1 h2
    exact ⟨q, by rw [g?_old (g_lt hq)]; exact hq⟩
  · rcases Nat.lt_or_ge i t.size with q | q
    · rw [g?_old q] at hg; exact h.gs i k' hg
    · obtain rfl := gnew q hg; exact hkj
  · rcases Nat.lt_or_ge i t.size with q | q
    · rw [touchAt_old q] at hx; exact h.cseen i x a hx hl hb
    · obtain ⟨z, hz, hz2⟩ := touch_of hx
      rcases getElem?_append_cases hz with ⟨h1, _⟩ | ⟨_, h1⟩
      · omega
      · exact hc z h1 x a hz2 hl hb
theorem TR.app0 (h : TR p ow oj j B t) {u : Trace} {B' : Nat} (hu : ∀ op ∈ u, op.g = 0) (hB : B ≤ B')
    (hw : ∀ op ∈ u, ∀ x, op.act.touch? = some x → x.loc.isMemory = true → (Shr p x.loc ∧ x.kind ≠ .plain) ∨ ((∀ k, 1 ≤ k → ¬ OwnL p ow oj k x.loc) ∧ ¬ Shr p x.loc ∧ (x.write = true → RdL p x.loc → j = 0)))
    (hs : ∀ op ∈ u, op.act.low B') (hn : ∀ op ∈ u, op.act ≠ .mark (.release (stA p.Wg))) (hc : ∀ op ∈ u, ∀ x a, op.act.touch? = some x → x.loc = .cell a → a.block = p.C → 1 ≤ oj a.off) : TR p ow oj j B' (t ++ u) := by
  have gnew : ∀ {i k' : Nat}, t.size ≤ i → (t ++ u).g? i = some k' → k' = 0 := by
    intro i k' hi hg
    unfold Trace.g? at hg
    obtain ⟨z, hz, rfl⟩ := Option.map_eq_some_iff.1 hg
    rcases getElem?_append_cases hz with ⟨h1, _⟩ | ⟨_, h1⟩
    · omega
    · exact hu z h1
  refine ⟨fun i x k' hx hm hg hne => ?_, fun i x hx hm hg => ?_, fun k' h1 h2 => ?_, fun i k' hg => ?_, seen_app (fun op hop => MemAct.low_mono hB (h.seen op hop)) hs, fun i x a hx hl hb => ?_, h.nrel.app hn⟩
  · rcases Nat.lt_or_ge i t.size with q | q
    · rw [touchAt_old q] at hx
      rw [g?_old q] at hg
      exact (h.wk i x k' hx hm hg hne).imp id fun ⟨a, b⟩ => ⟨(heard_old q).2 a, b⟩
    · exact absurd (gnew q hg) hne
  · rcases Nat.lt_or_ge i t.size with q | q
    · rw [touchAt_old q] at hx
      rw [g?_old q] at hg
      refine (h.st i x hx hm hg).imp id fun ⟨a, b, c⟩ => ⟨a, b, fun w1 w2 i' k' hg' hne => ?_⟩
      rcases Nat.lt_or_ge i' t.size with q' | q'
      · rw [g?_old q'] at hg'
        exact hb_app u (c w1 w2 i' k' hg' hne)
      · exact absurd (gnew q' hg') hne
    · obtain ⟨z, hz, hz2⟩ := touch_of hx
      rcases getElem?_append_cases hz with ⟨h1, _⟩ | ⟨_, h1⟩
      · omega
      · refine (hw z h1 x hz2 hm).imp id fun ⟨a, b, c⟩ => ⟨a, b, fun w1 w2 i' k' hg' hne => ?_⟩
        have hj := c w1 w2
        rcases Nat.lt_or_ge i' t.size with q' | q'
        · rw [g?_old q'] at hg'
          have := h.gs i' k' hg'
          omega
        · exact absurd (gnew q' hg') hne
  · obtain ⟨q, hq⟩ := h.beg k' h1 h2
    exact ⟨q, by rw [g?_old (g_lt hq)]; exact hq⟩
  · rcases Nat.lt_or_ge i t.size with q | q
    · rw [g?_old q] at hg; exact h.gs i k' hg
    · rw [gnew q hg]; exact Nat.zero_le _
  · rcases Nat.lt_or_ge i t.size with q | q
    · rw [touchAt_old q] at hx; exact h.cseen i x a hx hl hb
    · obtain ⟨z, hz, hz2⟩ := touch_of hx
      rcases getElem?_append_cases hz with ⟨h1, _⟩ | ⟨_, h1⟩
      · omega
      · exact hc z h1 x a hz2 hl hb
theorem TR.fork (h : TR p ow oj j B t) {x y : MemOp} (hx : x.g = 0 ∧ x.act = .go (j + 1)) (hy : y.g = j + 1 ∧ y.act = .start) (h0 : Deaf t 0 = 0) : TR p ow oj (j + 1) B (t ++ #[x, y]) := by
  have hk : Deaf t (j + 1) = 0 := Deaf_absent fun i op hi e => by
    have := h.gs i op.g (by simp [Trace.g?, hi])
    omega
  have hnt : ∀ op ∈ #[x, y], ∀ b, op.act.touch? = some b → False := by
    intro op hop b hb
    simp only [List.mem_toArray, List.mem_cons, List.not_mem_nil, or_false] at hop
    rcases hop with rfl | rfl
    · rw [hx.2] at hb; cases hb
    · rw [hy.2] at hb; cases hb
  have old : ∀ {i : Nat} {a : Touch}, touchAt (t ++ #[x, y]) i = some a → i < t.size ∧ touchAt t i = some a := by
    intro i a ha
    obtain ⟨z, hz, hza⟩ := touch_of ha
    rcases getElem?_append_cases hz with ⟨hi, hz'⟩ | ⟨_, hzu⟩
    · exact ⟨hi, by rw [touchAt_of hz']; exact hza⟩
    · exact (hnt z hzu a hza).elim
  have hxp : (t ++ #[x, y])[t.size]? = some x := by rw [Array.getElem?_append_right (Nat.le_refl _)]; simp
  have hyp : (t ++ #[x, y])[t.size + 1]? = some y := by rw [Array.getElem?_append_right (by omega)]; simp
  have gnew : ∀ {i k' : Nat}, t.size ≤ i → (t ++ #[x, y]).g? i = some k' → k' = 0 ∨ (k' = j + 1 ∧ i = t.size + 1) := by
    intro i k' hi hg
    have hl := g_lt hg
    simp only [Array.size_append, List.size_toArray, List.length_cons, List.length_nil] at hl
    rcases Nat.lt_or_ge i (t.size + 1) with q | q
    · obtain rfl : i = t.size := by omega
      simp only [Trace.g?, hxp, Option.map_some, Option.some.injEq] at hg
      rw [hx.1] at hg
      exact .inl hg.symm
    · obtain rfl : i = t.size + 1 := by omega
      simp only [Trace.g?, hyp, Option.map_some, Option.some.injEq] at hg
      rw [hy.1] at hg
      exact .inr ⟨hg.symm, rfl⟩
  refine ⟨fun i a k' ha hm hg hne => ?_, fun i a ha hm hg => ?_, fun k' h1 h2 => ?_, fun i k' hg => ?_, seen_app h.seen (fun op hop => ?_), fun i a c ha hl hb => h.cseen i a c (old ha).2 hl hb, h.nrel.app fun op hop => ?_⟩
  · obtain ⟨q, ha'⟩ := old ha
    rw [g?_old q] at hg
    exact (h.wk i a k' ha' hm hg hne).imp id fun ⟨c, b⟩ => ⟨(heard_old q).2 c, b⟩
  · obtain ⟨q, ha'⟩ := old ha
    rw [g?_old q] at hg
    refine (h.st i a ha' hm hg).imp id fun ⟨b, c, d⟩ => ⟨b, c, fun w1 w2 i' k' hg' hne => ?_⟩
    rcases Nat.lt_or_ge i' t.size with q' | q'
    · rw [g?_old q'] at hg'
      exact hb_app _ (d w1 w2 i' k' hg' hne)
    · rcases gnew q' hg' with e | ⟨rfl, rfl⟩
      · exact absurd e hne
      · have h1 : HappensBefore (t ++ #[x, y]) i t.size := po q (by rw [g?_old q]; exact hg) (by simp [Trace.g?, hxp, hx.1])
        have e0 : (t ++ #[x, y]).heard t.size := ⟨0, by simp [Trace.g?, hx.1], by rw [deaf_old (Nat.le_refl _)]; exact h0⟩
        have e1 : (t ++ #[x, y]).heard (t.size + 1) := ⟨j + 1, by simp [Trace.g?, hy.1], by rw [deaf_succ hxp, deaf_old (Nat.le_refl _)]; simp only [deafStep, hx.2]; exact hk⟩
        exact h1.trans (.single (.inr ⟨.spawn (child := j + 1) (by rw [act?_of hxp, hx.2]) (by rw [act?_of hyp, hy.2]) (by simp [Trace.g?, hy.1]), e0, e1⟩))
  · rcases Nat.lt_or_ge j k' with q | q
    · obtain rfl : k' = j + 1 := by omega
      exact ⟨t.size + 1, by simp [Trace.g?, hyp, hy.1]⟩
    · obtain ⟨q0, hq⟩ := h.beg k' h1 q
      exact ⟨q0, by rw [g?_old (g_lt hq)]; exact hq⟩
  · rcases Nat.lt_or_ge i t.size with q | q
    · rw [g?_old q] at hg; have := h.gs i k' hg; omega
    · rcases gnew q hg with e | ⟨e, _⟩ <;> omega
  · simp only [List.mem_toArray, List.mem_cons, List.not_mem_nil, or_false] at hop
    rcases hop with rfl | rfl
    · rw [hx.2]; trivial
    · rw [hy.2]; trivial
  · simp only [List.mem_toArray, List.mem_cons, List.not_mem_nil, or_false] at hop
    rcases hop with rfl | rfl
    · rw [hx.2]; simp
    · rw [hy.2]; simp
theorem TR.grow (h : TR p ow oj j B t) {ow' : Nat → Nat} (he : ∀ b, b < B → ow' b = ow b) : TR p ow' oj j B t := by
  have key : ∀ {i x}, touchAt t i = some x → ∀ k, OwnL p ow' oj k x.loc ↔ OwnL p ow oj k x.loc := by
    intro i x hx k
    obtain ⟨z, hz, hz2⟩ := touch_of hx
    have hl := h.seen z (mem_of_getElem? hz)
    have hloc : x.loc.low B := by
      cases hza : z.act with
      | access e => rw [hza] at hz2 hl; simp only [MemAct.touch?, Option.some.injEq] at hz2; subst hz2; exact hl
      | mark m =>
        rw [hza] at hz2 hl
        cases m <;> simp only [MemAct.touch?, Option.some.injEq] at hz2 <;> first | (subst hz2; exact hl) | cases hz2
      | _ => rw [hza] at hz2; cases hz2
    cases hx2 : x.loc with
    | cell a => rw [hx2] at hloc; have hloc : a.block < B := hloc; simp only [OwnL, he _ hloc]
    | obj r => rw [hx2] at hloc; have hloc : r < B := hloc; simp only [OwnL, he _ hloc]
    | _ => exact Iff.rfl
  exact ⟨fun i x k hx hm hg hne => (h.wk i x k hx hm hg hne).imp id fun ⟨a, b⟩ => ⟨a, b.imp (key hx k).2 id⟩, fun i x hx hm hg => (h.st i x hx hm hg).imp id fun ⟨a, b, c⟩ => ⟨fun k hk q => a k hk ((key hx k).1 q), b, c⟩, h.beg, h.gs, h.seen, h.cseen, h.nrel⟩
theorem TR.growJ (h : TR p ow oj j B t) {oj' : Nat → Nat} {c : Nat} (h0 : oj c = 0) (he : ∀ b, b ≠ c → oj' b = oj b) : TR p ow oj' j B t := by
  have key : ∀ {i x}, touchAt t i = some x → ∀ k, OwnL p ow oj' k x.loc ↔ OwnL p ow oj k x.loc := by
    intro i x hx k
    cases hx2 : x.loc with
    | cell a =>
      by_cases hb : a.block = p.C
      · have := h.cseen i x a hx hx2 hb
        have hne : a.off ≠ c := fun q => by rw [q, h0] at this; omega
        simp only [OwnL, he _ hne]
      · simp only [OwnL, hb, false_and, false_or]
    | obj r => exact Iff.rfl
    | _ => exact Iff.rfl
  refine ⟨fun i x k hx hm hg hne => (h.wk i x k hx hm hg hne).imp id fun ⟨a, b⟩ => ⟨a, b.imp (key hx k).2 id⟩, fun i x hx hm hg => (h.st i x hx hm hg).imp id fun ⟨a, b, c⟩ => ⟨fun k hk q => a k hk ((key hx k).1 q), b, c⟩, h.beg, h.gs, h.seen, fun i x a hx hl hb => ?_, h.nrel⟩
  have := h.cseen i x a hx hl hb
  have hne : a.off ≠ c := fun q => by rw [q, h0] at this; omega
  rw [he _ hne]; exact this
end
end Go.Proofs.Q
namespace Go.Proofs.Q
open Go Go.Conc Go.ConcN
open Go.ConcR (KK stA smA rd wr mk)
set_option linter.unusedVariables false
set_option linter.unusedSectionVars false
set_option linter.unusedSimpArgs false
structure Eff (p : Pm) (ow : Nat → Nat) (k : Nat) (w w1 : World) : Prop where
  kn : KN p w1
  size : w.heap.size ≤ w1.heap.size
  own : ∀ b, p.top ≤ b → b < w.heap.size → ow b ≠ k → w1.heap[b]? = w.heap[b]?
  low : ∀ b o, b < p.base → w.heap[b]? = some o → ∃ o', w1.heap[b]? = some o' ∧ sameButF o o'
structure Way (p : Pm) (ow : Nat → Nat) (k : Nat) (Stop : Goroutine → World → Prop) (main q : Bool) (x : X) (g : Goroutine) (w : World) : Prop where
  m : x.main = main
  s : x.Stop = Stop
  gg : x.g = g
  lv : Lv p main q Stop x.S x.g x.w
  rl : Rl p x.S x.w w
  own : ∀ b, x.S b → p.top ≤ b ∧ b < x.w.heap.size ∧ ow b = k
theorem Way.eff {p : Pm} {ow ow' : Nat → Nat} {k k' : Nat} {Stop : Goroutine → World → Prop} {main q : Bool} {x : X} {g : Goroutine} {w w1 : World} (h : Way p ow k Stop main q x g w) (e : Eff p ow k' w w1) (hk : k' ≠ k) (ho : ∀ b, b < w.heap.size → ow' b = ow b) : Way p ow' k Stop main q x g w1 := by
  refine ⟨h.m, h.s, h.gg, h.lv, h.rl.trans ⟨e.kn, e.size, fun b hb => ?_, e.low⟩, fun b hb => ?_⟩
  · obtain ⟨h1, h2, h3⟩ := h.own b hb
    have := h.rl.size
    exact e.own b h1 (by omega) (by omega)
  · obtain ⟨h1, h2, h3⟩ := h.own b hb
    have := h.rl.size
    exact ⟨h1, h2, by rw [ho b (by omega)]; exact h3⟩
theorem Way.running {p : Pm} {ow : Nat → Nat} {k : Nat} {Stop : Goroutine → World → Prop} {main q : Bool} {x : X} {g : Goroutine} {w : World} (h : Way p ow k Stop main q x g w) (hs : ∀ g w, Stop g w → g.status = .running) : g.status = .running := by
  have hl := h.lv
  rw [h.gg] at hl
  cases hl with
  | stop q => exact hs _ _ (q w h.rl)
  | step q _ _ => exact q
theorem LvA.way {p : Pm} {main : Bool} {Stop : Goroutine → World → Prop} {g : Goroutine} (h : LvA p main Stop g) {w : World} (hk : KN p w) (ow : Nat → Nat) (k : Nat) : ∃ x : { x : X // Acc (NxW p) x }, Way p ow k Stop main false x.1 g w :=
  ⟨⟨⟨main, Stop, none1, g, w⟩, (h w hk).acc⟩, rfl, rfl, rfl, h w hk, Rl.refl hk, fun b hb => hb.elim⟩
theorem LvQ.way {p : Pm} {Stop : Goroutine → World → Prop} {g : Goroutine} (h : LvQ p Stop g) {w : World} (hk : KN p w) (ow : Nat → Nat) (k : Nat) : ∃ x : { x : X // Acc (NxW p) x }, Way p ow k Stop false true x.1 g w :=
  ⟨⟨⟨false, Stop, none1, g, w⟩, (h w hk).acc⟩, rfl, rfl, rfl, h w hk, Rl.refl hk, fun b hb => hb.elim⟩
def WS (p : Pm) (Recv : Goroutine → Prop) (ow : Nat → Nat) (k : Nat) (d : WTag) (l : LL p) (g : Goroutine) (w : World) : Prop :=
  match d, l with
  | .park, .inr _ => ∃ g0 z, Recv g0 ∧ RecvS p Recv g0 z ∧ g = parked { g0 with offers := none } #[rcase p.J z] (.recv true)
  | .quit dd, .inr q => QuitsD p.P q dd g
  | .park, _ => False
  | .quit _, _ => False
  | d, .inl x => Way p ow k (d.stop p Recv) false d.q x.1 g w
  | _, .inr _ => False
def CS (p : Pm) (Aft Anch Recv : Goroutine → Prop) (ow : Nat → Nat) (d : STag) (l : LL p) (g : Goroutine) (w : World) : Prop :=
  match d, l with
  | .sndp i, .inr _ => i < p.n ∧ ∃ g2 z, g2.status = .running ∧ g = parked g2 #[scase p.J (p.jobV i) z] .send ∧ LvA p true (SSnd p Anch (p.n - (i + 1)) (i + 1)) (g2.finishComm p.P #[scase p.J (p.jobV i) z] .send 0 undef false)
  | .blk, .inr _ => ∃ g0 S wa, g = { g0 with status := .blocked } ∧ (∀ b, S b → p.top ≤ b ∧ b < wa.heap.size ∧ ow b = 0) ∧ Rl p S wa w ∧ ∀ w1, Rl p S wa w1 → SW3 p Aft g0 w1
  | .sndp _, _ => False
  | .blk, _ => False
  | d, .inl x => Way p ow 0 (d.stop p Aft Anch Recv) true false x.1 g w
  | _, .inr _ => False
def Vc (j : Nat) (D : Nat → WTag) : Nat := sumTo j fun i => (D i).cnt
def OpenSt (j : Nat) (D : Nat → WTag) : Prop := ∀ i, i < j → 5 ≤ (D i).stage ∨ (D i).stage = 1
inductive MD (j : Nat) (D : Nat → WTag) : STag → Int → Int → Prop
  | opn {tag : STag} : tag.isOpen → OpenSt j D → (∀ vs, tag = .w2 vs → Vc j D ≤ vs ∧ 1 ≤ vs ∧ vs < 1000) → MD j D tag (((Vc j D + tag.pend : Nat) : Int) * KK) 0
  | reg {tag : STag} : tag.isReg → OpenSt j D → 1 ≤ Vc j D → MD j D tag (((Vc j D : Nat) : Int) * KK + 1) 0
  | last {tag : STag} (L : Nat) : tag.isReg → L < j → ((D L).stage = 4 ∨ (D L).stage = 3 ∨ (D L).stage = 2) → (∀ i, i < j → i ≠ L → (D i).stage = 1) → MD j D tag (if (D L).stage = 2 then 0 else 1) 0
  | sema {tag : STag} : tag.isReg → tag ≠ .blk → (∀ i, i < j → (D i).stage = 1) → MD j D tag 0 1
  | fin {tag : STag} : tag.isFin → (∀ i, i < j → (D i).stage = 1) → MD j D tag 0 0
structure JB (p : Pm) (j : Nat) (D : Nat → WTag) (oj : Nat → Nat) (i0 : Nat) (w : World) : Prop where
  sent : ∀ c, c < i0 → 1 ≤ oj c ∧ ((∃ k, k < j ∧ D k = .job c) ∨ w.cell? ⟨p.C, c, none⟩ = some (p.ans c))
  free : ∀ c, i0 ≤ c → oj c = 0
  mine : ∀ k c, k < j → D k = .job c → c < i0 ∧ oj c = k + 1
  le : i0 ≤ p.n
structure Sit (p : Pm) (Aft Anch Recv : Goroutine → Prop) (nW : Nat) (gs : Array Goroutine) (w : World) (t : Trace) (j : Nat) (D : Nat → WTag) (L : Nat → LL p) (tag : STag) (l0 : LL p) (ow oj : Nat → Nat) (st sm : Int) : Prop where
  size : gs.size = j + 1
  kn : KN p w
  zero : ∃ a, gs[0]? = some a ∧ CS p Aft Anch Recv ow tag l0 a w
  wks : ∀ i, i < j → ∃ g, gs[i + 1]? = some g ∧ WS p Recv ow (i + 1) (D i) (L i) g w
  wg : WgA p w st sm
  md : MD j D tag st sm
  ch : ∃ s r tm, w.heap[p.J]? = some (.chan 0 #[] tag.closed s r tm)
  op : tag.closed = false → ∀ i, i < j → 8 ≤ (D i).stage
  cl : tag.closed = true → ∀ i, i < j → D i ≠ .park
  np : ∀ i, tag = .sndp i → ∀ k, k < j → D k ≠ .park
  jb : JB p j D oj (tag.sent p.n) w
  left : j + tag.left = nW
  few : nW < 900 ∧ 1 ≤ nW
  tr : TR p ow oj j w.heap.size t
  df0 : Deaf t 0 = tag.deaf
  dfw : ∀ i, i < j → Deaf t (i + 1) = (D i).deaf
  dfx : ∀ i, j < i → Deaf t i = 0
  rel : ∀ i, i < j → (D i).stage ≤ 6 → ∃ r, RelBy (stA p.Wg) t (i + 1) r
  own : ∀ b, w.heap.size ≤ b → ow b = 0
def Gm (p : Pm) (j : Nat) (D : Nat → WTag) (tag : STag) : Nat := tag.phi p.n (Vc j D) + sumTo j fun i => (D i).stage
def mu (p : Pm) (j : Nat) (D : Nat → WTag) (L : Nat → LL p) (tag : STag) (l0 : LL p) : Mu p := (Gm p j D tag, ((List.range j).map L, l0))
def MuLtR (p : Pm) : Mu p → Mu p → Prop := Prod.Lex (· < ·) (Prod.Lex (fun m l => OneOf (fun a b => LLt p b a) l m) (LLt p))
theorem MuLtR.wf (p : Pm) : WellFounded (MuLtR p) :=
  (Prod.lex ⟨(· < ·), Nat.lt_wfRel.wf⟩ (Prod.lex ⟨fun m l => OneOf (fun a b => LLt p b a) l m, ⟨OneOf.flip (LLt.wf p)⟩⟩ ⟨LLt p, LLt.wf p⟩)).wf
theorem oneOf_upd {α : Type} {r : α → α → Prop} (L : Nat → α) {i : Nat} {x : α} (h : r (L i) x) : ∀ {j s : Nat}, s ≤ i → i < s + j → OneOf r ((List.range' s j).map L) ((List.range' s j).map (upd L i x))
  | 0, s, h1, h2 => by omega
  | j + 1, s, h1, h2 => by
    rw [List.range'_succ, List.map_cons, List.map_cons]
    rcases Nat.eq_or_lt_of_le h1 with rfl | hlt
    · have e : (List.range' (s + 1) j).map (upd L s x) = (List.range' (s + 1) j).map L := List.map_congr_left fun a ha => upd_ne L x (by have := List.mem_range'.1 ha; omega)
      rw [e, upd_same]
      exact .head h
    · rw [upd_ne L x (by omega)]
      exact .tail (oneOf_upd L h (by omega) (by omega))
theorem oneOf_upd0 {α : Type} {r : α → α → Prop} (L : Nat → α) {i j : Nat} {x : α} (h : r (L i) x) (hi : i < j) : OneOf r ((List.range j).map L) ((List.range j).map (upd L i x)) := by
  rw [List.range_eq_range']
  exact oneOf_upd L h (Nat.zero_le _) (by omega)
theorem stop_run {p : Pm} {Recv : Goroutine → Prop} (I : RecvI p Recv) (d : WTag) (g : Goroutine) (w : World) (h : d.stop p Recv g w) : g.status = .running := by
  cases d <;> first | exact I.run g h | exact h.1 | exact h.elim
theorem stop_run0 {p : Pm} {Aft Anch Recv : Goroutine → Prop} (d : STag) (g : Goroutine) (w : World) (h : d.stop p Aft Anch Recv g w) : g.status = .running := by
  cases d <;> simp only [STag.stop] at h
  case snd i =>
    cases hl : p.n - i with
    | zero => rw [hl] at h; exact h.1
    | succ l => rw [hl] at h; exact h.1
  all_goals first | exact h.1 | exact h.elim
theorem WS.status {p : Pm} {Recv : Goroutine → Prop} (I : RecvI p Recv) {ow : Nat → Nat} {k : Nat} {d : WTag} {l : LL p} {g : Goroutine} {w : World} (h : WS p Recv ow k d l g w) : (d = .park ∧ g.status = .blocked) ∨ (d ≠ .park ∧ (g.status = .running ∨ (g.status = .finished ∧ ∃ dd, d = .quit dd))) := by
  cases d <;> cases l <;> simp only [WS] at h
  case park.inr q =>
    obtain ⟨g0, z, _, _, rfl⟩ := h
    exact .inl ⟨rfl, rfl⟩
  case quit.inr dd q => exact .inr ⟨by simp, h.status.imp id fun e => ⟨e, _, rfl⟩⟩
  all_goals exact .inr ⟨by simp, .inl (h.running (stop_run I _))⟩
theorem WS.eff {p : Pm} {Recv : Goroutine → Prop} {ow ow' : Nat → Nat} {k k' : Nat} {d : WTag} {l : LL p} {g : Goroutine} {w w1 : World} (h : WS p Recv ow k d l g w) (e : Eff p ow k' w w1) (hk : k' ≠ k) (ho : ∀ b, b < w.heap.size → ow' b = ow b) : WS p Recv ow' k d l g w1 := by
  cases d <;> cases l <;> simp only [WS] at h ⊢ <;> first | exact h | exact Way.eff h e hk ho
theorem CS.eff {p : Pm} {Aft Anch Recv : Goroutine → Prop} {ow ow' : Nat → Nat} {k' : Nat} {d : STag} {l : LL p} {g : Goroutine} {w w1 : World} (h : CS p Aft Anch Recv ow d l g w) (e : Eff p ow k' w w1) (hk : k' ≠ 0) (ho : ∀ b, b < w.heap.size → ow' b = ow b) : CS p Aft Anch Recv ow' d l g w1 := by
  cases d <;> cases l <;> simp only [CS] at h ⊢
  case blk.inr m =>
    obtain ⟨g0, S, wa, h1, h2, h3, h4⟩ := h
    refine ⟨g0, S, wa, h1, fun b hb => ?_, h3.trans ⟨e.kn, e.size, fun b hb => ?_, e.low⟩, h4⟩
    · obtain ⟨q1, q2, q3⟩ := h2 b hb
      have := h3.size
      exact ⟨q1, q2, by rw [ho b (by omega)]; exact q3⟩
    · obtain ⟨q1, q2, q3⟩ := h2 b hb
      have := h3.size
      exact e.own b q1 (by omega) (by omega)
  all_goals first | exact h | exact Way.eff h e hk ho
theorem KN.at {p : Pm} {w : World} (h : KN p w) (d : Nat) : KN p (w.at d) := ⟨h.size, h.os, h.out, h.lo, h.low, h.mid, h.wg, h.pay, h.ch⟩
theorem Rl.at {p : Pm} {S : Nat → Prop} {w w1 : World} (h : Rl p S w w1) (d : Nat) : Rl p S w (w1.at d) := ⟨h.kn.at d, h.size, h.mine, h.low⟩
theorem WS.at {p : Pm} {Recv : Goroutine → Prop} {ow : Nat → Nat} {k : Nat} {d : WTag} {l : LL p} {g : Goroutine} {w : World} (h : WS p Recv ow k d l g w) (n : Nat) : WS p Recv ow k d l g (w.at n) := by
  cases d <;> cases l <;> simp only [WS] at h ⊢ <;> first | exact h | exact ⟨h.m, h.s, h.gg, h.lv, h.rl.at n, h.own⟩
theorem CS.at {p : Pm} {Aft Anch Recv : Goroutine → Prop} {ow : Nat → Nat} {d : STag} {l : LL p} {g : Goroutine} {w : World} (h : CS p Aft Anch Recv ow d l g w) (n : Nat) : CS p Aft Anch Recv ow d l g (w.at n) := by
  cases d <;> cases l <;> simp only [CS] at h ⊢
  case blk.inr m =>
    obtain ⟨g0, S, wa, h1, h2, h3, h4⟩ := h
    exact ⟨g0, S, wa, h1, h2, h3.at n, h4⟩
  all_goals first | exact h | exact ⟨h.m, h.s, h.gg, h.lv, h.rl.at n, h.own⟩
section
variable {p : Pm} {Aft Anch Recv : Goroutine → Prop} {nW : Nat} {gs : Array Goroutine} {w : World} {t : Trace} {j : Nat} {D : Nat → WTag} {L : Nat → LL p} {tag : STag} {l0 : LL p} {ow oj : Nat → Nat} {st sm : Int}
theorem Sit.at (h : Sit p Aft Anch Recv nW gs w t j D L tag l0 ow oj st sm) (n : Nat) : Sit p Aft Anch Recv nW gs (w.at n) t j D L tag l0 ow oj st sm :=
  ⟨h.size, h.kn.at n, (let ⟨a, h1, h2⟩ := h.zero; ⟨a, h1, h2.at n⟩), fun i hi => (let ⟨a, h1, h2⟩ := h.wks i hi; ⟨a, h1, h2.at n⟩), h.wg, h.md, h.ch, h.op, h.cl, h.np, ⟨h.jb.sent, h.jb.free, h.jb.mine, h.jb.le⟩, h.left, h.few, h.tr, h.df0, h.dfw, h.dfx, h.rel, h.own⟩
theorem Vc_le (j : Nat) (D : Nat → WTag) : Vc j D ≤ j := by
  have := sumTo_le (f := fun i => (D i).cnt) (c := 1) (j := j) (fun i _ => by unfold WTag.cnt; split <;> omega)
  unfold Vc
  omega
theorem Vc_upd {i : Nat} (hi : i < j) (d : WTag) : Vc j (upd D i d) + (D i).cnt = Vc j D + d.cnt := sumTo_upd D d WTag.cnt hi
theorem St_upd {i : Nat} (hi : i < j) (d : WTag) : (sumTo j fun a => (upd D i d a).stage) + (D i).stage = (sumTo j fun a => (D a).stage) + d.stage := sumTo_upd D d WTag.stage hi
theorem upd_eta {α : Type} (f : Nat → α) (i : Nat) : upd f i (f i) = f := by funext a; unfold upd; split <;> simp_all
end
end Go.Proofs.Q
