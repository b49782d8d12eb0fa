import Derived.Test.YtiblcbdkiecbgaaGreatDoorQ13
import Derived.Test.YtiblcbdkiecbgaaGreatDoorQ12
import Derived.Test.YtiblcbdkiecbgaaGreatDoorProg
import Derived.KernelRfl
import Derived.Test.YtiblcbdkiecbgaaGreatDoorM16
namespace Go.Proofs.Q
open Go Go.Proofs
set_option linter.unusedVariables false
set_option linter.unusedSectionVars false
set_option linter.unusedSimpArgs false
def mask : Nat := 140208375089117649091156162034265254391923191713951755599808990063482148802596212328413359998578442624
def goodF (f : Nat) : Bool := Nat.testBit mask f
def goodN (n : String) : Bool := n == "Implements" || n == "Kind" || n == "Elem" || n == "Unwrap" || n == "As" || n == "AssignableTo"
def goodB : Builtin → Bool
  | .append | .cap | .clear | .copy | .delete | .len | .max | .panic | .recover | .unsafeString | .unsafeSliceData => true
  | _ => false
def hvB (k : Nat) : Bool := k == 3 || k == 4
def sgF (k : Nat) : Nat := if k = 3 then 4 else if k = 4 then 3 else k
theorem sgF_vis (k : Nat) (h : hvB k = false) : sgF k = k := by
  simp [hvB] at h
  unfold sgF
  rw [if_neg h.1, if_neg h.2]
theorem sgF_hid (k : Nat) (h : hvB k = true) : sgF k ≠ k ∧ hvB (sgF k) = true := by
  simp [hvB] at h
  rcases h with rfl | rfl <;> decide
theorem sgF_sg (k : Nat) : sgF (sgF k) = k := by
  unfold sgF
  by_cases h3 : k = 3
  · subst h3; rfl
  · by_cases h4 : k = 4
    · subst h4; rfl
    · simp [h3, h4]
abbrev G0 : Gds := ⟨fun f => goodF f = true, fun n => goodN n = true, fun _ => True, fun b => goodB b = true, hvB, 24, sgF, sgF_vis, sgF_hid, sgF_sg⟩
instance G1 : Gds := ⟨fun f => goodF f = true, fun n => goodN n = true, fun c => @okC G0 Tryz.prog false c, fun b => goodB b = true, hvB, 24, sgF, sgF_vis, sgF_hid, sgF_sg⟩
def plainB : Nat → Value → Bool
  | _, .pointer a => a.isNone
  | _, .slice a _ _ => a.isNone
  | _, .map r => r.isNone
  | _, .chan r => r.isNone
  | _, .func _ _ _ => false
  | 0, _ => false
  | n + 1, .iface _ v => plainB n v
  | n + 1, .agg cs => cs.all (plainB n)
  | n + 1, .tuple cs => cs.all (plainB n)
  | _, _ => true
theorem plainB_ok : ∀ (n : Nat) (v : Value), plainB n v = true → plainV v
  | n, .pointer a, h => by cases n <;> (simp only [plainB] at h; simp only [plainV]; simpa using h)
  | n, .slice a _ _, h => by cases n <;> (simp only [plainB] at h; simp only [plainV]; simpa using h)
  | n, .map r, h => by cases n <;> (simp only [plainB] at h; simp only [plainV]; simpa using h)
  | n, .chan r, h => by cases n <;> (simp only [plainB] at h; simp only [plainV]; simpa using h)
  | n, .func _ _ _, h => by cases n <;> simp [plainB] at h
  | 0, .iface _ _, h => by simp [plainB] at h
  | 0, .agg _, h => by simp [plainB] at h
  | 0, .tuple _, h => by simp [plainB] at h
  | n + 1, .iface _ v, h => by simp only [plainB] at h; simp only [plainV]; exact plainB_ok n v h
  | n + 1, .agg cs, h => by
    simp only [plainB] at h
    simp only [plainV]
    intro x hx
    exact plainB_ok n x (Array.all_eq_true_iff_forall_mem.1 h x hx)
  | n + 1, .tuple cs, h => by
    simp only [plainB] at h
    simp only [plainV]
    intro x hx
    exact plainB_ok n x (Array.all_eq_true_iff_forall_mem.1 h x hx)
  | n, .bool _, h => by simp [plainV]
  | n, .int _ _, h => by simp [plainV]
  | n, .float _ _, h => by simp [plainV]
  | n, .complex _ _ _, h => by simp [plainV]
  | n, .string _, h => by simp [plainV]
  | n, .nilFunc, h => by simp [plainV]
  | n, .nilIface, h => by simp [plainV]
def okXb (g : Nat) : Operand → Bool
  | .const v => plainB 9 v
  | .global k => k < g && !hvB k
  | .func f => goodF f
  | .tmp _ => true
def goodFnB : Fn → Bool
  | .func f => goodF f
  | .method n => goodN n
  | .methodOf _ n => goodN n
  | .via _ _ f _ => goodF f
  | .yield _ => true
def isSD : Builtin → Bool
  | .unsafeSliceData => false
  | _ => true
def hidB : Op → Bool
  | .load t (.global g) => t == 24 && hvB g
  | _ => false
def okOb : Op → Bool
  | .move _ | .assign _ | .pick .. | .alloc _ | .box .. | .build .. | .buildSlice .. | .load .. | .store .. | .nilCheck _ | .binOp .. | .unOp .. | .convert .. | .makeInterface .. | .makeMap .. | .makeSlice .. | .slice .. | .field .. | .fieldAddr ..
  | .indexAddr .. | .index .. | .lookup .. | .mapUpdate .. | .insert .. | .range .. | .next .. | .entry _ | .typeAssert .. | .extract .. | .panic _ => true
  | .makeFunc f _ _ => (match f with | .yield _ => false | _ => true) && goodFnB f
  | .call c => (match c.callee with | .builtin b => goodB b | .invoke _ n => goodN n | _ => true)
  | .defer c => (match c.callee with | .builtin b => goodB b && isSD b | .invoke _ n => goodN n | _ => true)
  | _ => false
theorem goodFnB_ok {f : Fn} (h : goodFnB f = true) : @GoodFn G1 f := by cases f <;> first | exact h | trivial
theorem okOb_ok {o : Op} (h : okOb o = true) : @okO G1 o := by
  cases o with
  | makeFunc f a b =>
    simp only [okOb, Bool.and_eq_true] at h
    refine ⟨fun l q => ?_, goodFnB_ok h.2⟩
    subst q
    simp at h
  | call c =>
    refine ⟨fun b hb => ?_, fun r n hn => ?_⟩
    · simp only [okOb, hb] at h; exact h
    · simp only [okOb, hn] at h; exact h
  | defer c =>
    refine ⟨fun b hb => ?_, fun r n hn => ?_⟩
    · simp only [okOb, hb, Bool.and_eq_true] at h
      exact ⟨h.1, fun q => by subst q; exact absurd h.2 (by decide)⟩
    · simp only [okOb, hn] at h; exact h
  | _ => first | trivial | (simp [okOb] at h)
def isDefer : Op → Bool
  | .defer _ => true
  | _ => false
def okOperB (d : Bool) (o : Oper) : Bool := (okOb o.op && o.op.operands.all (okXb 7) && (d || !isDefer o.op)) || hidB o.op
def okCb (d : Bool) : Code → Bool
  | .region _ ops _ => ops.all (okOperB d)
  | .seq a b => okCb d a && okCb d b
  | .cond c a b => okXb 7 c && okCb d a && okCb d b
  | .block _ b => okCb d b
  | .loop b => okCb d b
  | .rangeFunc f _ a b => okXb 7 f && okCb false a && okCb false b
  | .scope _ | .goto _ => false
  | .exit _ | .ret | .skip | .label _ | .refuse _ => true
theorem gsize : Tryz.prog.globals.size = 7 := by kernel_rfl
theorem okXb_ok {x : Operand} (h : okXb 7 x = true) : @okX G1 Tryz.prog x := by
  cases x with
  | const v => exact plainB_ok 9 v h
  | global g =>
    show g < Tryz.prog.globals.size ∧ hvB g = false
    rw [gsize]
    simpa [okXb] using h
  | func f => exact h
  | tmp _ => trivial
theorem okOperB_ok {d : Bool} {o : Oper} (h : okOperB d o = true) : @okOper G1 Tryz.prog d o := by
  simp only [okOperB, Bool.and_eq_true, Bool.or_eq_true] at h
  rcases h with h | h
  rotate_left
  · right
    cases ho : o.op <;> rw [ho] at h <;> simp [hidB] at h
    rename_i t x
    cases x <;> simp [hidB] at h
    rename_i g
    refine ⟨g, ?_, h.2, ?_⟩
    · rw [h.1]; rfl
    · rw [gsize]
      have := h.2
      simp [hvB] at this
      omega
  left
  refine ⟨okOb_ok h.1.1, fun x hx => okXb_ok (Array.all_eq_true_iff_forall_mem.1 h.1.2 x hx), fun hd => ?_⟩
  subst hd
  have := h.2
  cases ho : o.op <;> rw [ho] at this <;> first | trivial | (simp [isDefer] at this)
theorem okCb_ok : ∀ {d : Bool} {c : Code}, okCb d c = true → @okC G1 Tryz.prog d c
  | d, .region _ ops _, h => fun o ho => okOperB_ok (Array.all_eq_true_iff_forall_mem.1 h o ho)
  | d, .seq a b, h => by simp only [okCb, Bool.and_eq_true] at h; exact ⟨okCb_ok h.1, okCb_ok h.2⟩
  | d, .cond c a b, h => by simp only [okCb, Bool.and_eq_true] at h; exact ⟨okXb_ok h.1.1, okCb_ok h.1.2, okCb_ok h.2⟩
  | d, .block _ b, h => okCb_ok (c := b) h
  | d, .loop b, h => okCb_ok (c := b) h
  | d, .rangeFunc f _ a b, h => by simp only [okCb, Bool.and_eq_true] at h; exact ⟨okXb_ok h.1.1, okCb_ok h.1.2, okCb_ok h.2⟩
  | d, .scope _, h => by simp [okCb] at h
  | d, .goto _, h => by simp [okCb] at h
  | d, .exit _, _ => trivial
  | d, .ret, _ => trivial
  | d, .skip, _ => trivial
  | d, .label _, _ => trivial
  | d, .refuse _, _ => trivial
theorem okC_same : ∀ (d : Bool) (c : Code), @okC G0 Tryz.prog d c ↔ @okC G1 Tryz.prog d c
  | d, .region _ ops _ => Iff.rfl
  | d, .seq a b => and_congr (okC_same d a) (okC_same d b)
  | d, .cond c a b => and_congr Iff.rfl (and_congr (okC_same d a) (okC_same d b))
  | d, .block _ b => okC_same d b
  | d, .loop b => okC_same d b
  | d, .rangeFunc f _ a b => and_congr Iff.rfl (and_congr (okC_same false a) (okC_same false b))
  | d, .scope _ => Iff.rfl
  | d, .goto _ => Iff.rfl
  | d, .exit _ => Iff.rfl
  | d, .ret => Iff.rfl
  | d, .skip => Iff.rfl
  | d, .label _ => Iff.rfl
  | d, .refuse _ => Iff.rfl
def exts : List Nat := [65, 66, 67, 101, 102, 103, 104, 197, 241, 253, 289, 313, 314, 320, 323, 325, 326]
def okFn (f : Nat) (fn : Func) : Bool := !(fn.name == "runtime.NumGoroutine") && (!goodF f || match fn.body with | some b => okCb true b | none => exts.contains f)
def okFns : Nat → List Func → Bool
  | _, [] => true
  | k, fn :: l => okFn k fn && okFns (k + 1) l
theorem okFns_at : ∀ (l : List Func) (k i : Nat) (fn : Func), okFns k l = true → l[i]? = some fn → okFn (k + i) fn = true
  | [], k, i, fn, _, h => by simp at h
  | x :: l, k, 0, fn, h, he => by
    simp only [okFns, Bool.and_eq_true] at h
    simp at he
    subst he
    exact h.1
  | x :: l, k, i + 1, fn, h, he => by
    simp only [okFns, Bool.and_eq_true] at h
    have := okFns_at l (k + 1) i fn h.2 (by simpa using he)
    rw [show k + (i + 1) = k + 1 + i by omega]
    exact this
theorem fns_ok : okFns 0 Tryz.prog.funcs.toList = true := by kernel_rfl
end Go.Proofs.Q
namespace Go.Proofs.Q
open Go Go.Proofs
set_option linter.unusedVariables false
set_option linter.unusedSectionVars false
set_option linter.unusedSimpArgs false
theorem fn_ok {f : Nat} {fn : Func} (h : Tryz.prog.funcs[f]? = some fn) : okFn f fn = true := by
  have := okFns_at Tryz.prog.funcs.toList 0 f fn fns_ok (by simpa using h)
  simpa using this
theorem pq : @PQ G1 Tryz.prog := by
  refine @PQ.mk G1 Tryz.prog (fun c => okC_same false c) (fun f fn b hf hfn hb => ?_)
  have h := fn_ok hfn
  have hf : goodF f = true := hf
  simp only [okFn, hf, hb, Bool.not_true, Bool.false_or, Bool.and_eq_true] at h
  exact okCb_ok h.2
def MthOk (i : TypeInfo) : Prop := ∀ m f p, m ∈ i.methods → goodN m.name = true → m.func = some (f, p) → goodF f = true
def TyOk (i : TypeInfo) : Prop := (∀ v, i.zero = some v → plainV v) ∧ MthOk i
def tyOk (i : TypeInfo) : Bool := (match i.zero with | some v => plainB 20 v | none => true) && i.methods.all fun m => !goodN m.name || match m.func with | some (f, _) => goodF f | none => true
theorem tyOk_ok {i : TypeInfo} (h : tyOk i = true) : TyOk i := by
  simp only [tyOk, Bool.and_eq_true] at h
  refine ⟨fun v hv => ?_, fun m f p hm hn hf => ?_⟩
  · have := h.1
    rw [hv] at this
    exact plainB_ok 20 v this
  · have h2 := Array.all_eq_true_iff_forall_mem.1 h.2 m hm
    simpa [hn, hf] using h2
theorem tys_ok : Tryz.prog.types.toList.all tyOk = true := by kernel_rfl
theorem ty_at {t : TypeId} {i : TypeInfo} (h : Tryz.prog.types[t]? = some i) : TyOk i := by
  have hm : i ∈ Tryz.prog.types.toList := by
    have := Array.mem_of_getElem? h
    simpa using this
  exact tyOk_ok (List.all_eq_true.1 tys_ok i hm)
theorem plain_cells {v : Value} (h : plainV v) : ∀ x, x ∈ v.cells → plainV x := by
  cases v <;> simp only [Value.cells] <;> first
    | (intro x hx; simp at hx; subst hx; exact h)
    | (simp only [plainV] at h; exact h)
theorem word_ok (d : TypeDesc) (s : String) {z : Value} (hz : plainV z) (c : Bool) (n : Nat) : TyOk (Made.word d s z c n) := by
  refine ⟨fun v hv => ?_, fun m f p hm => ?_⟩
  · simp only [Made.word, Option.some.injEq] at hv
    subst hv
    exact hz
  · simp [Made.word] at hm
def fisV {β : Type} : ForInStep β → β
  | .done b => b
  | .yield b => b
theorem forIn_inv {α β : Type} {f : α → β → Option (ForInStep β)} {I : β → Prop} (hf : ∀ a b s, I b → f a b = some s → I (fisV s)) : ∀ (l : List α) (b b' : β), I b → forIn l b f = some b' → I b'
  | [], b, b', h, e => by simp at e; subst e; exact h
  | a :: l, b, b', h, e => by
    rw [List.forIn_cons] at e
    cases hfa : f a b with
    | none => rw [hfa] at e; simp at e
    | some s =>
      rw [hfa] at e
      have := hf a b s h hfa
      cases s with
      | done c => simp at e; subst e; exact this
      | yield c => exact forIn_inv hf l c b' this (by simpa using e)
abbrev RS := Array Field × Nat × Nat × Nat × Nat × Bool × Bool × Option (Array Value) × String
theorem reckonStruct_ok {info : TypeId → Option TypeInfo} (hi : ∀ t i, info t = some i → TyOk i) {fs : Array Field} {i : TypeInfo} (h : Made.reckonStruct info fs = some i) : TyOk i := by
  unfold Made.reckonStruct at h
  simp only [bind, Option.bind_eq_some_iff] at h
  obtain ⟨s, h1, h2⟩ := h
  have hI : ∀ arr, s.2.2.2.2.2.2.2.1 = some arr → ∀ x, x ∈ arr → plainV x := by
    rw [← Array.forIn_toList] at h1
    refine forIn_inv (I := fun s : RS => ∀ arr, s.2.2.2.2.2.2.2.1 = some arr → ∀ x, x ∈ arr → plainV x) (fun a b st hb he => ?_) fs.toList _ s ?_ h1
    · simp only [Option.bind_eq_some_iff] at he
      obtain ⟨j, hj, he⟩ := he
      have key : ∀ z : Option (Array Value), z = (if b.2.1 + j.size > Made.mostCells then none else (b.2.2.2.2.2.2.2.1).bind fun x => (j.zero).bind fun y => pure (x ++ y.cells)) → ∀ arr, z = some arr → ∀ x, x ∈ arr → plainV x := by
        intro z hz arr ha x hx
        rw [hz] at ha
        split at ha
        · cases ha
        · simp only [Option.bind_eq_some_iff] at ha
          obtain ⟨u, hu, v, hv, e⟩ := ha
          simp only [pure, Option.some.injEq] at e
          subst e
          rcases Array.mem_append.1 hx with q | q
          · exact hb u hu x q
          · exact plain_cells ((hi _ _ hj).1 v hv) x q
      have fin : ∀ (o : Array Field) (c : Nat) (z1 z2 z3 : Nat) (p1 p2 : Bool) (r : String), some (ForInStep.yield ((o, c, z1, z2, z3, p1, p2, (if b.2.1 + j.size > Made.mostCells then none else (b.2.2.2.2.2.2.2.1).bind fun x => (j.zero).bind fun y => pure (x ++ y.cells)), r) : RS)) = some st → ∀ arr, (fisV st).2.2.2.2.2.2.2.1 = some arr → ∀ x, x ∈ arr → plainV x := by
        intro o c z1 z2 z3 p1 p2 r e
        simp only [Option.some.injEq] at e
        subst e
        exact key _ rfl
      by_cases e1 : j.str.isEmpty = true
      · rw [if_pos e1] at he; cases he
      rw [if_neg e1] at he
      by_cases e2 : a.embedded = true
      · rw [if_pos e2] at he; cases he
      rw [if_neg e2] at he
      by_cases e3 : a.tag.isEmpty = true
      · rw [if_pos e3] at he
        simp only [pure, Option.bind_some] at he
        by_cases e4 : j.bytes = 0
        · rw [if_pos e4] at he; exact fin _ _ _ _ _ _ _ _ he
        · rw [if_neg e4] at he; exact fin _ _ _ _ _ _ _ _ he
      · rw [if_neg e3] at he
        obtain ⟨tag, _, he⟩ := Option.bind_eq_some_iff.1 he
        by_cases e4 : j.bytes = 0
        · rw [if_pos e4] at he; exact fin _ _ _ _ _ _ _ _ he
        · rw [if_neg e4] at he; exact fin _ _ _ _ _ _ _ _ he
    · intro arr ha x hx
      simp at ha
      subst ha
      simp at hx
  have fin2 : ∀ (o : Array Field) (st1 : String) (c1 : Nat) (c2 : Nat) (p1 p2 : Bool) (al : Nat), some ({ desc := .struct o, str := st1, size := c1, bytes := c2, hasPointers := p1, align := al, fieldAlign := al, zero := s.2.2.2.2.2.2.2.1.map .agg, comparable := p2, methods := #[] } : TypeInfo) = some i → TyOk i := by
    intro o st1 c1 c2 p1 p2 al e
    simp only [Option.some.injEq] at e
    subst e
    refine ⟨fun v hv => ?_, fun m f p hm => by simp at hm⟩
    simp only [Option.map_eq_some_iff] at hv
    obtain ⟨arr, ha, rfl⟩ := hv
    simp only [plainV]
    exact fun x hx => hI arr ha x hx
  by_cases e : (decide (s.2.2.1 > 0) && decide (s.2.2.2.2.1 = s.2.2.1)) = true
  · rw [if_pos e] at h2; exact fin2 _ _ _ _ _ _ _ h2
  · rw [if_neg e] at h2; exact fin2 _ _ _ _ _ _ _ h2
theorem reckon_ok {info : TypeId → Option TypeInfo} (hi : ∀ t i, info t = some i → TyOk i) {d : TypeDesc} {i : TypeInfo} (h : Made.reckon info d = some i) : TyOk i := by
  unfold Made.reckon at h
  cases d with
  | pointer e =>
    simp only [bind, Option.bind_eq_some_iff] at h
    obtain ⟨j, hj, h⟩ := h
    have key : ∀ {s : Option String} {d1 : TypeDesc}, (s.bind fun x => (pure (Made.word d1 ("*" ++ x) (.pointer none) true) : Option TypeInfo)) = some i → TyOk i := by
      intro s d1 q
      obtain ⟨x, _, q⟩ := Option.bind_eq_some_iff.1 q
      simp only [pure, Option.some.injEq] at q
      subst q
      exact word_ok _ _ (by simp [plainV]) _ _
    split at h
    · cases h
    · split at h
      · cases h
      · exact key h
    · exact key h
  | struct fs => exact reckonStruct_ok hi h
  | array n e =>
    simp only [bind, Option.bind_eq_some_iff] at h
    obtain ⟨j, hj, x, hx, h⟩ := h
    simp only [pure, Option.some.injEq] at h
    subst h
    refine ⟨fun v hv => ?_, fun m f p hm => by simp at hm⟩
    simp only at hv
    split at hv
    · cases hv
    · split at hv
      · simp only [Option.some.injEq] at hv; subst hv; simp [plainV]
      · simp only [Option.map_eq_some_iff] at hv
        obtain ⟨z, hz, rfl⟩ := hv
        simp only [plainV]
        intro y hy
        rw [Array.mem_flatten] at hy
        obtain ⟨l, hl, hy⟩ := hy
        have := (Array.mem_replicate.1 hl).2
        subst this
        exact plain_cells ((hi _ _ hj).1 z hz) y hy
  | _ =>
    first
    | (simp at h; done)
    | (simp only [bind, Option.bind_eq_some_iff, pure, Option.some.injEq] at h
       first
       | (obtain ⟨_, ⟨_, _, _⟩, _, ⟨_, _, _⟩, rfl⟩ := h; exact word_ok _ _ (by simp [plainV]) _ _)
       | (obtain ⟨_, _, _, _, _, _, _, _, rfl⟩ := h; exact word_ok _ _ (by simp [plainV]) _ _)
       | (obtain ⟨_, ⟨_, _, _⟩, rfl⟩ := h; exact word_ok _ _ (by simp [plainV]) _ _)
       | (obtain ⟨_, _, _, _, rfl⟩ := h; exact word_ok _ _ (by simp [plainV]) _ _)
       | (obtain ⟨_, _, rfl⟩ := h; exact word_ok _ _ (by simp [plainV]) _ _))
theorem infoAt_ok {T : Tables} (hT : ∀ (t : Nat) (i : TypeInfo), T.types[t]? = some i → TyOk i) : ∀ (n : Nat) (t : TypeId) (i : TypeInfo), Made.infoAt T n t = some i → TyOk i
  | 0, t, i, h => by cases h
  | n + 1, t, i, h => by
    unfold Made.infoAt at h
    split at h
    · exact hT t i h
    · obtain ⟨d, _, h⟩ := Option.bind_eq_some_iff.1 h
      exact reckon_ok (infoAt_ok hT n) h
theorem info_ok {T : Tables} (hT : ∀ (t : Nat) (i : TypeInfo), T.types[t]? = some i → TyOk i) {t : TypeId} {i : TypeInfo} (h : T.info? t = some i) : TyOk i := by
  unfold Tables.info? at h
  split at h
  · exact hT t i h
  · exact infoAt_ok hT _ _ _ h
theorem ty_ok {t : TypeId} {i : TypeInfo} (h : Tryz.prog.info? t = some i) : TyOk i := info_ok (fun t i h => ty_at h) h
theorem pz {base : Nat} (hb : 12 ≤ base) {T : @Tok G1} : @PZ G1 T Tryz.prog base := by
  refine @PZ.mk G1 T Tryz.prog base (fun t i v h hv ρ => ?_) (by rw [gsize]; omega) (fun k hk => by
    rw [gsize]
    have hk : hvB k = true := hk
    simp [hvB] at hk
    omega)
  exact @plainV_ren G1 T ρ v ((ty_ok h).1 v hv)
theorem mt : @MT G1 Tryz.prog := fun t i m f p h hm hn hf => (ty_ok h).2 m f p hm hn hf
end Go.Proofs.Q
namespace Go.Proofs.Q
open Go Go.Proofs Go.Extern
set_option linter.unusedVariables false
set_option linter.unusedSectionVars false
set_option linter.unusedSimpArgs false
theorem n65 : Extern.findNext Tryz.f65 = none := by kernel_rfl
theorem n66 : Extern.findNext Tryz.f66 = none := by kernel_rfl
theorem n67 : Extern.findNext Tryz.f67 = none := by kernel_rfl
theorem n101 : Extern.findNext Tryz.f101 = none := by kernel_rfl
theorem n102 : Extern.findNext Tryz.f102 = none := by kernel_rfl
theorem n103 : Extern.findNext Tryz.f103 = none := by kernel_rfl
theorem n104 : Extern.findNext Tryz.f104 = none := by kernel_rfl
theorem n197 : Extern.findNext Tryz.f197 = none := by kernel_rfl
theorem n241 : Extern.findNext Tryz.f241 = none := by kernel_rfl
theorem n253 : Extern.findNext Tryz.f253 = none := by kernel_rfl
theorem n289 : Extern.findNext Tryz.f289 = none := by kernel_rfl
theorem n313 : Extern.findNext Tryz.f313 = none := by kernel_rfl
theorem n314 : Extern.findNext Tryz.f314 = none := by kernel_rfl
theorem n320 : Extern.findNext Tryz.f320 = none := by kernel_rfl
theorem n323 : Extern.findNext Tryz.f323 = none := by kernel_rfl
theorem n325 : Extern.findNext Tryz.f325 = none := by kernel_rfl
theorem n326 : Extern.findNext Tryz.f326 = none := by kernel_rfl
theorem e65 : Extern.find Tryz.f65 = some (fun args => ReflectliteValue.unpack (args.getD 0 (.tuple #[]))) := by kernel_rfl
theorem e66 : Extern.find Tryz.f66 = some (ReflectliteValue.methodAny (ReflectliteValue.valueError "reflectlite.Value.Type" 0) fun t _ _ _ => ReflectliteType.toType t) := by kernel_rfl
theorem e67 : Extern.find Tryz.f67 = some (ReflectliteValue.method (ReflectliteValue.valueError "reflectlite.Value.IsNil" 0) ReflectliteValue.isNil) := by kernel_rfl
theorem e101 : Extern.find Tryz.f101 = some AbiNoEscape.same := by kernel_rfl
theorem e102 : Extern.find Tryz.f102 = some ReflectliteType.typeOf := by kernel_rfl
theorem e103 : Extern.find Tryz.f103 = some (ReflectliteValue.method (ReflectliteValue.valueError "reflectlite.Value.Elem" 0) ReflectliteValue.elem) := by kernel_rfl
theorem e104 : Extern.find Tryz.f104 = some ReflectliteValue.set := by kernel_rfl
theorem e197 : Extern.find Tryz.f197 = some BytealgIndex.index := by kernel_rfl
theorem e241 : Extern.find Tryz.f241 = some (BytealgMakeNoZero.makeNoZero Tryz.f241.params Tryz.f241.resultTypes) := by kernel_rfl
theorem e253 : Extern.find Tryz.f253 = some BytealgIndexByte.indexByte := by kernel_rfl
theorem e289 : Extern.find Tryz.f289 = some (SlicesOverlaps.overlaps Tryz.f289.params Tryz.f289.resultTypes) := by kernel_rfl
theorem e313 : Extern.find Tryz.f313 = none := by kernel_rfl
theorem e314 : Extern.find Tryz.f314 = some (ReflectliteType.abiMethod fun t => do pure (.int .u8 (← Rtype.kind t))) := by kernel_rfl
theorem e320 : Extern.find Tryz.f320 = some (ReflectliteValue.method (pure (.int .u8 0)) fun _ _ _ k => pure (.int .u8 (Int.ofNat k))) := by kernel_rfl
theorem e323 : Extern.find Tryz.f323 = some (ReflectliteType.relation "AssignableTo" ReflectliteType.assignableTo) := by kernel_rfl
theorem e325 : Extern.find Tryz.f325 = some (ReflectliteType.method ReflectliteType.elem) := by kernel_rfl
theorem e326 : Extern.find Tryz.f326 = some (ReflectliteType.relation "Implements" ReflectliteType.implements_) := by kernel_rfl
end Go.Proofs.Q
namespace Go.Proofs.Q
open Go Go.Proofs Go.Extern
set_option linter.unusedVariables false
set_option linter.unusedSectionVars false
set_option linter.unusedSimpArgs false
section
variable [Gds] [Tok] {P : Program} {base : Nat} {fl : Fl} {ρ : Nat → Nat}
theorem LDead.load {a : Addr} {m : Mode} (hh : Hid fl base a.block) : LDead P base fl ρ (Go.load a m) := fun w ⟨w', hw⟩ => by
  obtain ⟨u, h1, _⟩ := hw.hid hh
  have hc : w.cell? a = none := by unfold World.cell?; rw [h1]
  cases hf : w.farLoad P a (m == .atomic) with
  | error x =>
    refine ⟨x, farLoad_dead hw.np hf, Runs.still rfl fun τ => ?_⟩
    have h2 : (tpW w τ).cell? a = none := hc
    have h3 : (tpW w τ).farLoad P a (m == .atomic) = .error x := hf
    simp only [Go.load, Sem.run, h2, h3, tpR]
  | ok y =>
    exfalso
    unfold World.farLoad at hf
    rw [h1] at hf
    simp only at hf
    cases hv : w.viewLoad P ⟨a.block, 0, none⟩ u a (m == .atomic) with
    | error e => rw [hv] at hf; cases hf
    | ok z =>
      obtain ⟨s, hs⟩ := viewLoad_seen hv
      obtain ⟨_, _, h4, _⟩ := seen_par hw hs
      have h4 : w.heap[a.block]? = _ := h4
      rw [h1] at h4
      cases h4
end
section
variable {base : Nat} {T : @Tok G1} {fl : Fl} {ρ : Nat → Nat}
theorem name_ok {f : Nat} {fn : Func} (h : Tryz.prog.funcs[f]? = some fn) : (fn.name == "runtime.NumGoroutine") = false := by
  have := fn_ok h
  simp only [okFn, Bool.and_eq_true, Bool.not_eq_true'] at this
  exact this.1
theorem ext_in {f : Nat} {fn : Func} (hf : goodF f = true) (h : Tryz.prog.funcs[f]? = some fn) (hb : fn.body.isNone = true) : f ∈ exts := by
  have := fn_ok h
  have hb : fn.body = none := by cases he : fn.body with | none => rfl | some b => rw [he] at hb; cases hb
  simp only [okFn, hf, hb, Bool.and_eq_true, Bool.not_true, Bool.false_or] at this
  simpa using this.2
theorem ml_at : Array.findIdx? (fun x => x.name == "internal/bytealg.MaxLen") Tryz.prog.globals = some 1 := by kernel_rfl
theorem ml_vis : ∀ g, Array.findIdx? (fun x => x.name == "internal/bytealg.MaxLen") Tryz.prog.globals = some g → @Gds.hv G1 g = false := fun g h => by
  rw [ml_at] at h
  cases h
  rfl
theorem under24 : (match Tryz.prog.underlying 24 with | some (.struct _) | some (.array _ _) | none => false | _ => true) = true := by kernel_rfl
theorem xp (hb : 12 ≤ base) : @XP G1 T Tryz.prog base fl ρ := by
  have hz : @PZ G1 T Tryz.prog base := pz hb
  intro f fn hf hfn hbody
  refine ⟨name_ok hfn, ?_⟩
  have hm := ext_in hf hfn hbody
  have key : ∀ {g : Func} {e0 : Array Value → Sem Value}, fn = g → Extern.findNext g = none → (Extern.find g = some e0) → (∀ args, PV Tryz.prog base fl ρ (e0 args) (e0 (args.map (@rV G1 T ρ)))) → (∀ e args, Extern.findNext fn = some e → PN Tryz.prog base fl ρ (e args) (e (args.map (@rV G1 T ρ)))) ∧ (∀ e args, Extern.findNext fn = none → Extern.find fn = some e → PV Tryz.prog base fl ρ (e args) (e (args.map (@rV G1 T ρ)))) := by
    intro g e0 hg hn he hp
    subst hg
    refine ⟨(fun e args q => by rw [hn] at q; cases q), fun e args _ q => ?_⟩
    rw [he] at q
    cases q
    exact hp args
  have at_ : ∀ {k : Nat} {g : Func}, Tryz.prog.funcs[k]? = some g → f = k → fn = g := fun h1 h2 => by subst h2; rw [h1] at hfn; exact (Option.some.inj hfn).symm
  simp only [exts, List.mem_cons, List.not_mem_nil, or_false] at hm
  rcases hm with h | h | h | h | h | h | h | h | h | h | h | h | h | h | h | h | h
  · refine key (at_ Tryz.func65 h) n65 e65 fun args => ?_
    have e : (args.map (@rV G1 T ρ)).getD 0 (.tuple #[]) = @rV G1 T ρ (args.getD 0 (.tuple #[])) := by
      simp only [Array.getD_eq_getD_getElem?, Array.getElem?_map]
      cases args[0]? <;> simp [rV]
    rw [e]
    exact unpack_par hz _
  · exact key (at_ Tryz.func66 h) n66 e66 fun args => vmethodAny_par hz (valueError_par _ _) (fun t a g k => toType_par hz t) args
  · exact key (at_ Tryz.func67 h) n67 e67 fun args => vmethod_par hz (valueError_par _ _) (fun t a g k => visNil_par t a g k) args
  · exact key (at_ Tryz.func101 h) n101 e101 fun args => same_par args
  · exact key (at_ Tryz.func102 h) n102 e102 fun args => typeOf_par hz args
  · exact key (at_ Tryz.func103 h) n103 e103 fun args => vmethod_par hz (valueError_par _ _) (fun t a g k => velem_par hz t a g k) args
  · exact key (at_ Tryz.func104 h) n104 e104 fun args => set_par hz args
  · exact key (at_ Tryz.func197 h) n197 e197 fun args => index_ext_par hz ml_vis args
  · exact key (at_ Tryz.func241 h) n241 e241 fun args => makeNoZero_par hz _ _ args
  · exact key (at_ Tryz.func253 h) n253 e253 fun args => indexByte_par args
  · exact key (at_ Tryz.func289 h) n289 e289 fun args => overlaps_par _ _ args
  · have hg := at_ Tryz.func313 h
    subst hg
    exact ⟨(fun e args q => by rw [n313] at q; cases q), (fun e args _ q => by rw [e313] at q; cases q)⟩
  · exact key (at_ Tryz.func314 h) n314 e314 fun args => abiKind_par hz args
  · exact key (at_ Tryz.func320 h) n320 e320 fun args => vmethod_par hz (Par.pur (by simp [rV])) (fun t a g k => Par.pur (by simp [rV])) args
  · exact key (at_ Tryz.func323 h) n323 e323 fun args => relation_par hz _ (fun t u => assignableTo_par t u) args
  · exact key (at_ Tryz.func325 h) n325 e325 fun args => rmethod_par hz (fun t => relem_par hz t) args
  · exact key (at_ Tryz.func326 h) n326 e326 fun args => relation_par hz _ (fun t u => implements__par t u) args
def notAgg : TypeDesc → Bool
  | .struct _ => false
  | .array _ _ => false
  | _ => true
theorem agg_run {P : Program} {t : TypeId} {d : TypeDesc} (h : P.underlying t = some d) (hd : notAgg d = true) (w : World) : (isAgg t).run P w = .ok false w := by
  have hu : (underlying t).run P w = .ok d w := by
    unfold underlying
    show ((Go.program).bind _).run P w = _
    rw [Sem.run_bind']
    show (match P.underlying t with | some d => Pure.pure d | none => stuck _ : Sem TypeDesc).run P w = _
    rw [h]; rfl
  unfold isAgg
  show ((underlying t).bind _).run P w = _
  rw [Sem.run_bind', hu]
  cases d <;> first | rfl | (cases hd)
theorem under24' : (Tryz.prog.underlying 24).map notAgg = some true := by kernel_rfl
theorem hid_dead (hb : 12 ≤ base) (g : Nat) (hg : hvB g = true) (hs : g < Tryz.prog.globals.size) : @LDead G1 T Tryz.prog base fl ρ _ (Instr.loadAt 24 (.pointer (some ⟨g, 0, none⟩))) := by
  have hh : @Hid G1 fl base g := ⟨by rw [gsize] at hs; omega, hg⟩
  obtain ⟨d, h1, h2⟩ := Option.map_eq_some_iff.1 under24'
  intro w hw
  obtain ⟨x, q1, q2⟩ := @LDead.load G1 T Tryz.prog base fl ρ ⟨g, 0, none⟩ .plain hh w hw
  refine ⟨x, q1, ?_⟩
  show Runs Tryz.prog fl.tp ((isAgg 24).bind _) w _
  exact (Runs.still rfl fun τ => agg_run h1 h2 _ : Runs Tryz.prog fl.tp (isAgg 24) w (.ok false w)).bind q2
theorem pp (hb : 12 ≤ base) : @PP G1 T Tryz.prog base fl ρ :=
  @PP.mk G1 T Tryz.prog base fl ρ (pz hb) (xp hb) (fun f fn h => name_ok h) mt (fun b h => by cases b <;> first | trivial | (simp [Gds.gb, G1, goodB] at h)) (fun g h1 h2 => hid_dead hb g h1 h2)
end
def gz : @Gz G1 := @Gz.mk G1 7 "Kind" .len (by show goodF 7 = true; decide) (by show goodN "Kind" = true; decide) (by show goodB .len = true; rfl)
end Go.Proofs.Q
namespace Go.Proofs.Q
open Go Go.Proofs Go.Proofs.YtiblcbdkiecbgaaGreatDoor
set_option linter.unusedVariables false
set_option linter.unusedSectionVars false
set_option linter.unusedSimpArgs false
theorem cell_low {b : Bool} {base : Nat} {w : World} {a : Addr} (h : a.block < base) (hv : hvB a.block = false) : (lowW b base w).cell? a = w.cell? a := by
  unfold World.cell?
  rw [lowW_at, if_pos h]
  cases w.heap[a.block]? with
  | none => rfl
  | some o =>
    rw [Option.map_some, lowO_vis (show @Gds.hv G1 a.block = false from hv)]
    cases o <;> rfl
structure VL (w : World) : Prop where
  sz : 12 ≤ w.heap.size
  ml : ∃ m, w.cell? ⟨1, 0, none⟩ = some (.int .i64 m)
  tab : Lib.TabIs Tryz.prog w "internal/strconv.uint64pow10" .u64 Lib.pow10Tab
  et : ET w
theorem VL.of {w : World} (h : VD w) (hs : 12 ≤ w.heap.size) : VL w := ⟨hs, h.ml, h.tab, h.et⟩
theorem vl_low {b : Bool} {base : Nat} {w : World} (h : VL w) (hb : 12 ≤ base) (hs : base ≤ w.heap.size) : VL (lowW b base w) := by
  have hsz := lowW_size (b := b) hs
  refine ⟨by rw [hsz]; omega, ?_, ?_, ?_⟩
  · obtain ⟨m, q⟩ := h.ml; exact ⟨m, by rw [cell_low (Nat.lt_of_lt_of_le (by decide : _ < 12) hb) rfl]; exact q⟩
  · have q := h.tab
    unfold Lib.TabIs World.var? at q ⊢
    rw [pow10_at] at q ⊢
    simp only [Option.bind_some] at q ⊢
    rw [lowW_at, if_pos (by omega)]
    split at q
    · rename_i c _ _ hc
      rw [hc, Option.map_some, lowO_vis (show @Gds.hv G1 _ = false from rfl)]
      exact q
    · cases q
  · have q := h.et
    unfold ET at q ⊢
    rw [cell_low (Nat.lt_of_lt_of_le (by decide : _ < 12) hb) rfl]; exact q
theorem vl_tape {w : World} (h : VL w) (τ : Nat → Question → Nat) : VL (tpW w τ) := ⟨h.sz, h.ml, h.tab, h.et⟩
def SessOk (t a : ByteArray) : Prop := ∀ w, VL w → Calls Tryz.prog 7 #[.string t] w fun e w' => e = .returned (.string a) ∧ Mod noBlock w w'
theorem SessOk.back {t a : ByteArray} (h : SessOk t a) (b : Bool) {base : Nat} {w : World} (hv : VL w) (hb : 12 ≤ base) (hs : base ≤ w.heap.size) : Back Tryz.prog 7 #[.string t] (lowW b base w) fun _ v w' => v = .string a ∧ ∀ k, k < base → w'.heap[k]? = (lowW b base w).heap[k]? :=
  ⟨fun τ => (h _ (vl_tape (vl_low hv hb hs) τ)).mono fun e w' he => ⟨_, he.1, rfl, fun k hk => he.2.block k (by show k < (lowW b base w).heap.size; rw [lowW_size hs]; exact hk) (fun q => q)⟩⟩
theorem VL.quiet {w w' : World} (h : VL w) (hm : Mod noBlock w w') : VL w' := by
  have hs := h.sz
  refine ⟨Nat.le_trans h.sz hm.size, ?_, ?_, hm.cell h.et id⟩
  · obtain ⟨m, q⟩ := h.ml; exact ⟨m, hm.cell q id⟩
  · have q := h.tab
    unfold Lib.TabIs World.var? at q ⊢
    rw [pow10_at] at q ⊢
    simp only [Option.bind_some] at q ⊢
    rw [hm.block _ (by omega) id]
    exact q
theorem Back.weak {P : Program} {f : FuncId} {args : Array Value} {w0 : World} {R R' : (Nat → Question → Nat) → Value → World → Prop} (h : Back P f args w0 R) (hr : ∀ τ v w, R τ v w → R' τ v w) : Back P f args w0 R' :=
  ⟨fun τ => (h.calls τ).mono fun e w' ⟨v, h1, h2⟩ => ⟨v, h1, hr _ _ _ h2⟩⟩
end Go.Proofs.Q
namespace Go.Proofs.Q
open Go Go.Conc Go.RowKit Go.Conc.Lib Go.ConcR.Gen
open Go.ConcR (KK stA smA rd wr DC0)
set_option linter.unusedVariables false
set_option linter.unusedSectionVars false
set_option linter.unusedSimpArgs false
section
variable {p : Pm}
theorem KN.same {w w' : World} (h : KN p w) (hh : w'.heap = w.heap) (ho : w'.os = w.os ∧ w'.output = w.output) : KN p w' :=
  ⟨by rw [hh]; exact h.size, by rw [ho.1]; exact h.os, by rw [ho.2]; exact h.out, by rw [hh]; exact h.lo, by rw [hh]; exact h.low, by rw [hh]; exact h.mid, by rw [hh]; exact h.wg, by rw [hh]; exact h.pay, by rw [hh]; exact h.ch⟩
def DR (p : Pm) (S : Nat → Prop) (w w' : World) (es : Array Event) : Prop :=
  w'.heap = w.heap ∧ (w'.os = w.os ∧ w'.output = w.output) ∧ ∀ e ∈ es, ∃ a : Addr, e.loc = .cell a ∧ e.write = false ∧ (S a.block ∨ p.RdB a.block)
theorem DR.none {S : Nat → Prop} {w : World} {es : Array Event} (h : ∀ e ∈ es, False) : DR p S w w es := ⟨rfl, ⟨rfl, rfl⟩, fun e he => (h e he).elim⟩
theorem DR.priv {S : Nat → Prop} {w w' : World} {es : Array Event} (h : DR p S w w' es) (hk : KN p w) (hS : ∀ b, S b → b < w.heap.size) : Priv p S w w' es := by
  obtain ⟨h1, h2, h3⟩ := h
  refine ⟨hk.same h1 h2, by rw [h1]; exact Nat.le_refl _, fun b _ _ _ => by rw [h1], fun b o _ ho => ⟨o, by rw [h1]; exact ho, .inl rfl⟩, fun e he => ?_⟩
  obtain ⟨a, q1, q2, q3⟩ := h3 e he
  unfold EvP
  rw [q1]
  exact q3.imp (fun q => ⟨.inl q, by rw [h1]; exact hS _ q⟩) fun q => ⟨q2, q⟩
theorem more_same (S : Nat → Prop) {w w' : World} (h : w'.heap = w.heap) : more S w w' = S := by
  funext b; apply propext; unfold more; rw [h]
  constructor
  · intro q; exact q.resolve_right (by omega)
  · exact .inl
theorem LvA.go {main : Bool} {Stop : Goroutine → World → Prop} {g : Goroutine} (hr : g.status = .running) (h : ∀ w, KN p w → (stepG p.P main g w).goes fun g' w' es => DR p none1 w w' es ∧ LvA p main Stop g') : LvA p main Stop g := fun w hk => by
  refine Lv.one hr fun w1 h1 => ?_
  obtain ⟨g', w', es, hgo, hd, hl⟩ := goes_elim (h w1 h1.kn)
  have hp := hd.priv h1.kn (fun b hb => hb.elim)
  exact ⟨g', w', es, hgo, hp, (fun q => by cases q), by rw [more_same _ hd.1]; exact hl w' hp.kn⟩
theorem LvA.stop {main : Bool} {Stop : Goroutine → World → Prop} {g : Goroutine} (h : ∀ w, KN p w → Stop g w) : LvA p main Stop g := fun w hk => .stop fun w1 h1 => h w1 h1.kn
def LvJ (p : Pm) (bj : Nat) (ob : Obj) (main : Bool) (Stop : Goroutine → World → Prop) (g : Goroutine) : Prop := ∀ w, KN p w → w.heap[bj]? = some ob → Lv p main false Stop (fun b => b = bj) g w
theorem LvJ.go {main : Bool} {bj : Nat} {ob : Obj} {Stop : Goroutine → World → Prop} {g : Goroutine} (hr : g.status = .running) (h : ∀ w, KN p w → w.heap[bj]? = some ob → (stepG p.P main g w).goes fun g' w' es => DR p (fun b => b = bj) w w' es ∧ LvJ p bj ob main Stop g') : LvJ p bj ob main Stop g := fun w hk hb => by
  refine Lv.one hr fun w1 h1 => ?_
  have hb1 := (h1.mine bj rfl).trans hb
  obtain ⟨g', w', es, hgo, hd, hl⟩ := goes_elim (h w1 h1.kn hb1)
  have hp := hd.priv h1.kn (fun b q => by rw [q]; exact (Array.getElem?_eq_some_iff.1 hb1).1)
  exact ⟨g', w', es, hgo, hp, (fun q => by cases q), by rw [more_same _ hd.1]; exact hl w' hp.kn (by rw [hd.1]; exact hb1)⟩
theorem LvJ.stop {main : Bool} {bj : Nat} {ob : Obj} {Stop : Goroutine → World → Prop} {g : Goroutine} (h : ∀ w, KN p w → w.heap[bj]? = some ob → Stop g w) : LvJ p bj ob main Stop g := fun w hk hb => .stop fun w1 h1 => h w1 h1.kn ((h1.mine bj rfl).trans hb)
theorem LvJ.done {main : Bool} {bj : Nat} {ob : Obj} {Stop : Goroutine → World → Prop} {g : Goroutine} (h : LvA p main Stop g) : LvJ p bj ob main Stop g := fun w hk _ => (h w hk).wide fun b hb => hb.elim
theorem LvJ.turn {main : Bool} {bj : Nat} {ob ob' : Obj} (hbj : p.top ≤ bj) {Stop : Goroutine → World → Prop} {g : Goroutine} (hr : g.status = .running) (h : ∀ w, KN p w → w.heap[bj]? = some ob → (stepG p.P main g w).goes fun g' w' es => (w'.heap = w.heap.setIfInBounds bj ob' ∧ (w'.os = w.os ∧ w'.output = w.output) ∧ ∀ e ∈ es, ∃ a : Addr, e.loc = .cell a ∧ a.block = bj) ∧ LvJ p bj ob' main Stop g') : LvJ p bj ob main Stop g := fun w hk hb => by
  refine Lv.one hr fun w1 h1 => ?_
  have hb1 := (h1.mine bj rfl).trans hb
  have hlt := (Array.getElem?_eq_some_iff.1 hb1).1
  obtain ⟨g', w', es, hgo, ⟨e1, e2, e3⟩, hl⟩ := goes_elim (h w1 h1.kn hb1)
  have hk1 := h1.kn
  have hC := p.bC; have hW := p.bWg; have hJ := p.bJ
  have ne : ∀ b, b ≠ bj → w'.heap[b]? = w1.heap[b]? := fun b hn => by rw [e1, Array.getElem?_setIfInBounds_ne (fun q => hn q.symm)]
  have sz : w'.heap.size = w1.heap.size := by rw [e1]; simp
  have eq : w'.heap[bj]? = some ob' := by rw [e1]; simp [hlt]
  have hkn : KN p w' := by
    refine ⟨by rw [sz]; exact hk1.size, by rw [e2.1]; exact hk1.os, by rw [e2.2]; exact hk1.out, fun b hb => by rw [ne b (by omega)]; exact hk1.lo b hb, fun b o hb ho => ?_, fun b hb hr => ?_, ?_, ?_, ?_⟩
    · obtain ⟨o', q1, q2⟩ := hk1.low b o hb ho
      exact ⟨o', by rw [ne b (by omega)]; exact q1, q2⟩
    · rw [ne b (by have := hr.1; omega)]; exact hk1.mid b hb hr
    · rw [ne _ (by omega)]; exact hk1.wg
    · rw [ne _ (by omega)]; exact hk1.pay
    · rw [ne _ (by omega)]; exact hk1.ch
  have hp : Priv p (fun b => b = bj) w1 w' es := by
    refine ⟨hkn, by rw [sz]; exact Nat.le_refl _, fun b _ _ hn => ne b hn, fun b o hb ho => ⟨o, by rw [ne b (by omega)]; exact ho, .inl rfl⟩, fun e he => ?_⟩
    obtain ⟨a, q1, q2⟩ := e3 e he
    unfold EvP
    rw [q1]
    exact .inl ⟨.inl q2, by rw [q2, sz]; exact hlt⟩
  have em : more (fun b => b = bj) w1 w' = fun b => b = bj := by
    funext b; apply propext; unfold more; rw [sz]
    constructor
    · intro q; exact q.resolve_right (by omega)
    · exact .inl
  exact ⟨g', w', es, hgo, hp, (fun q => by cases q), by rw [em]; exact hl w' hkn eq⟩
theorem LvA.make {main : Bool} {ob : Obj} {Stop : Goroutine → World → Prop} {g : Goroutine} (hr : g.status = .running) (h : ∀ w, KN p w → (stepG p.P main g w).goes fun g' w' es => (w'.heap = w.heap.push ob ∧ (w'.os = w.os ∧ w'.output = w.output) ∧ ∀ e ∈ es, ∃ a : Addr, e.loc = .cell a ∧ a.block = w.heap.size) ∧ LvJ p w.heap.size ob main Stop g') : LvA p main Stop g := fun w hk => by
  refine Lv.one hr fun w1 h1 => ?_
  obtain ⟨g', w', es, hgo, ⟨e1, e2, e3⟩, hl⟩ := goes_elim (h w1 h1.kn)
  have hk1 := h1.kn
  have hC := p.bC; have hW := p.bWg; have hJ := p.bJ
  have hsz := hk1.size
  have sz : w'.heap.size = w1.heap.size + 1 := by rw [e1]; simp
  have eq : w'.heap[w1.heap.size]? = some ob := by rw [e1]; simp
  have lo : ∀ b, b < w1.heap.size → w'.heap[b]? = w1.heap[b]? := fun b hb => by rw [e1, Array.getElem?_push_lt hb, Array.getElem?_eq_getElem hb]
  have hkn : KN p w' := by
    refine ⟨by rw [sz]; omega, by rw [e2.1]; exact hk1.os, by rw [e2.2]; exact hk1.out, fun b hb => by rw [lo b (by omega)]; exact hk1.lo b hb, fun b o hb ho => ?_, fun b hb hr => ?_, ?_, ?_, ?_⟩
    · obtain ⟨o', q1, q2⟩ := hk1.low b o hb ho
      exact ⟨o', by rw [lo b (by omega)]; exact q1, q2⟩
    · rw [lo b (by have := hr.1; omega)]; exact hk1.mid b hb hr
    · rw [lo _ (by omega)]; exact hk1.wg
    · rw [lo _ (by omega)]; exact hk1.pay
    · rw [lo _ (by omega)]; exact hk1.ch
  have hp : Priv p none1 w1 w' es := by
    refine ⟨hkn, by omega, fun b _ hl hn => lo b hl, fun b o hb ho => ⟨o, by rw [lo b (by omega)]; exact ho, .inl rfl⟩, fun e he => ?_⟩
    obtain ⟨a, q1, q2⟩ := e3 e he
    unfold EvP
    rw [q1]
    exact .inl ⟨.inr (by rw [q2]; exact Nat.le_refl _), by rw [q2]; omega⟩
  have em : more none1 w1 w' = fun b => b = w1.heap.size := by
    funext b; apply propext; unfold more; rw [sz]
    constructor
    · intro q; have := q.resolve_left id; omega
    · intro q; exact .inr (by omega)
  exact ⟨g', w', es, hgo, hp, (fun q => by cases q), by rw [em]; exact hl w' hkn eq⟩
end
end Go.Proofs.Q
namespace Go.Proofs.Q
open Go Go.Proofs Go.Conc Go.RowKit Go.Conc.Lib Go.ConcR.Gen
open Go.ConcR (KK stA smA rd wr DC0)
set_option linter.unusedVariables false
set_option linter.unusedSectionVars false
set_option linter.unusedSimpArgs false
structure MQ where
  base : Nat
  N : Nat
  n : Nat
  W0 : World
  ans : Nat → Value
  txt : Nat → ByteArray
  hB : base ≤ N
  boxA : W0.heap[N + 1]? = some (.cells #[.slice (some ⟨N, 0, none⟩) n n] 22)
  boxJ : W0.heap[N + 3]? = some (.cells #[.chan (some (N + 2))] 33)
def jobOf (txt : Nat → ByteArray) (c : Nat) : Value := .agg #[.int .i64 c, .string (txt c)]
@[reducible] noncomputable def MQ.p (m : MQ) : Pm :=
  { P := Tryz.prog, base := m.base, top := m.N + 5, J := m.N + 2, Wg := m.N + 4, C := m.N, n := m.n, ty := 43, eC := 9, W0 := m.W0, ans := m.ans, jobV := jobOf m.txt,
    bJ := ⟨by have := m.hB; omega, by omega⟩, bWg := ⟨by have := m.hB; omega, by omega⟩, bC := ⟨m.hB, by omega⟩, dJW := by omega, dJC := by omega, dWC := by omega }
noncomputable def workB : Code := Tryz.f12.body.getD .skip
noncomputable def childB : Code := Tryz.f10.body.getD .skip
noncomputable def L1 : Code := match workB with | .seq _ (.block _ (.loop c)) => c | _ => .skip
noncomputable def ops1 : Array Oper := match L1 with | .seq (.region _ ops _) _ => ops | _ => #[]
noncomputable def C1 : Code := match L1 with | .seq _ c => c | _ => .skip
noncomputable def opsB : Array Oper := match childB with | .seq _ (.region _ ops _) => ops | _ => #[]
noncomputable def bot : Frame := { (default : Frame) with fn := Tryz.prog.funcs.size, defers := [], mode := .panicking [goexitEntry] }
def b10 : Frame := baseD 10
section
variable (m : MQ)
def sl : Value := .slice (some ⟨m.N, 0, none⟩) m.n m.n
noncomputable def cfr : Frame := b10.at ⟨#[.pointer (some ⟨m.N + 4, 0, none⟩), .pointer (some ⟨m.N + 3, 0, none⟩), .pointer (some ⟨m.N + 1, 0, none⟩), .chan (some (m.N + 2)), sl m, undef], [dcall 11 #[.pointer (some ⟨m.N + 4, 0, none⟩)]]⟩ [.inRegion opsB [2]]
def RecvW (g : Goroutine) : Prop :=
  ∃ T : Array Value, g.frame = (base 12).at ⟨T, []⟩ [.inRegion ops1 [0, 1], .code C1, .inLoop L1, .inBlock 0] ∧ g.callers = [cfr m, bot] ∧ g.dying = none ∧ g.status = .running ∧ T.size = 16 ∧ T[1]? = some (sl m) ∧ T[5]? = some (.chan (some (m.N + 2)))
end
theorem array16 (T : Array Value) (h : T.size = 16) : ∃ v0 v1 v2 v3 v4 v5 v6 v7 v8 v9 v10 v11 v12 v13 v14 v15, T = #[v0, v1, v2, v3, v4, v5, v6, v7, v8, v9, v10, v11, v12, v13, v14, v15] := by
  obtain ⟨l⟩ := T
  match l, h with
  | [v0, v1, v2, v3, v4, v5, v6, v7, v8, v9, v10, v11, v12, v13, v14, v15], _ => exact ⟨v0, v1, v2, v3, v4, v5, v6, v7, v8, v9, v10, v11, v12, v13, v14, v15, rfl⟩
theorem kn_box {m : MQ} {w : World} (h : KN m.p w) : w.cell? ⟨m.N + 1, 0, none⟩ = some (sl m) ∧ w.cell? ⟨m.N + 3, 0, none⟩ = some (.chan (some (m.N + 2))) := by
  have h1 := h.mid (m.N + 1) (show m.base ≤ _ by have := m.hB; omega) ⟨by show m.N + 1 < m.N + 5; omega, by show m.N + 1 ≠ m.N; omega, by show m.N + 1 ≠ m.N + 2; omega, by show m.N + 1 ≠ m.N + 4; omega⟩
  have h2 := h.mid (m.N + 3) (show m.base ≤ _ by have := m.hB; omega) ⟨by show m.N + 3 < m.N + 5; omega, by show m.N + 3 ≠ m.N; omega, by show m.N + 3 ≠ m.N + 2; omega, by show m.N + 3 ≠ m.N + 4; omega⟩
  have h1 : w.heap[m.N + 1]? = _ := h1.trans m.boxA
  have h2 : w.heap[m.N + 3]? = _ := h2.trans m.boxJ
  exact ⟨by simp [World.cell?, h1, sl], by simp [World.cell?, h2]⟩
theorem recv_same (m : MQ) (g g' : Goroutine) (h : RecvW m g) (h1 : g'.frame = g.frame) (h2 : g'.callers = g.callers) (h3 : g'.dying = g.dying) (h4 : g'.status = .running) : RecvW m g' := by
  obtain ⟨T, q1, q2, q3, q4, q5⟩ := h
  exact ⟨T, h1.trans q1, h2.trans q2, h3.trans q3, h4, q5⟩
def zJ : Value := .agg #[.int .i64 0, .string ⟨#[]⟩]
theorem recv_step (m : MQ) (g : Goroutine) (h : RecvW m g) (w : World) : stepG Tryz.prog false g w = .comm { g with offers := none } #[rcase (m.N + 2) zJ] true (.recv true) w #[] := by
  obtain ⟨T, q1, q2, q3, q4, q5, q6, q7⟩ := h
  obtain ⟨fr, cs, st, dy, off⟩ := g
  simp only at q1 q2 q3 q4
  subst q1 q2 q3 q4
  obtain ⟨v0, v1, v2, v3, v4, v5, v6, v7, v8, v9, v10, v11, v12, v13, v14, v15, rfl⟩ := array16 T q5
  simp at q6 q7
  subst q6 q7
  generalize C1 = c1
  generalize L1 = l1
  have ho : ops1[0]? = some { dst := some 6, op := Op.recv 78 (Operand.tmp 5) true, type := 0, pos := "many.go:48", after := #[], guard := none } := rfl
  generalize ops1 = o1 at ho
  have hr : (execOp (Act.eval ⟨#[v0, sl m, v2, v3, v4, .chan (some (m.N + 2)), v6, v7, v8, v9, v10, v11, v12, v13, v14, v15], []⟩) { dst := some 6, op := Op.recv 78 (Operand.tmp 5) true, type := 0, pos := "many.go:48", after := #[], guard := none }).run Tryz.prog w = .ok (.comm #[rcase (m.N + 2) zJ] true (.recv true)) w := by
    simp [go_sem, execOp, rcase, Act.eval, zJ]
  have h := stepG_comm (P := Tryz.prog) (main := false) (b := base 12) (k := [.code c1, .inLoop l1, .inBlock 0]) (cs := [cfr m, bot]) (rest := [1]) ho rfl (by decide) hr
  have he : ∀ (a : Act) (o : Oper), (execOp a.eval o).events Tryz.prog w #[] = #[] → listed Tryz.prog (base 12).fn a o w = #[] := fun a o he => by unfold listed; rw [he]; rfl
  rw [he _ _ (by simp [go_sem, execOp])] at h
  exact h
theorem quitsTail (T : Array Value) : QuitsD Tryz.prog 2 0 (G { b10.at ⟨T, []⟩ [] with mode := .returning } [bot]) := by
  refine QuitsD.ctl (g' := G bot []) rfl (fun w => ?_) ?_
  · simp [G, stepG, unwind, doReturn, results, Frame.at, b10, baseD, bot, Tryz.func10, Tryz.f10, seen, GStep.after, goexitEntry]
  refine QuitsD.ctl (g' := { G bot [] with status := .finished }) rfl (fun w => ?_) ⟨rfl, rfl⟩
  simp [G, stepG, unwind, bot, goexitEntry, Frame.catches]
  rfl
theorem C1_eq : ∃ r, C1 = .seq (.cond (.tmp 7) .skip (.exit 0)) r := ⟨_, rfl⟩
theorem ops1_eq : ops1 = ops1.toList.toArray := rfl
theorem ops1_size : ops1.size = 2 := rfl
theorem ops1_1 : ops1[1]? = some { dst := some 7, op := Op.extract (Operand.tmp 6) 1, type := 4, pos := "many.go:48", after := #[{ on := 0, ground := Ground.data }], guard := none } := rfl
end Go.Proofs.Q
namespace Go.Proofs.Q
open Go Go.Proofs Go.Conc Go.RowKit Go.Conc.Lib Go.ConcR.Gen
open Go.ConcR (KK stA smA rd wr DC0)
set_option linter.unusedVariables false
set_option linter.unusedSectionVars false
set_option linter.unusedSimpArgs false
theorem opsB_eq : ∃ o0 o1 o2, opsB = #[o0, o1, o2] ∧ o2.dst = some 5 := ⟨_, _, _, rfl, rfl⟩
theorem ops1_two : ops1 = #[{ dst := some 6, op := Op.recv 78 (Operand.tmp 5) true, type := 0, pos := "many.go:48", after := #[], guard := none }, { dst := some 7, op := Op.extract (Operand.tmp 6) 1, type := 4, pos := "many.go:48", after := #[{ on := 0, ground := Ground.data }], guard := none }] := rfl
theorem end_lv (m : MQ) (T : Array Value) : LvA m.p false (SRel m.p) (G (b10.at ⟨T, [dcall 11 #[.pointer (some ⟨m.N + 4, 0, none⟩)]]⟩ [.inRegion opsB []]) [bot]) := by
  have hd := done_lv (p := m.p) (L := link) (cs := [bot]) wgLib (c := { b10.at ⟨T, []⟩ [] with mode := .returning }) rfl (quitsTail T)
  refine lva_then (Stop' := fun g _ => g = _) (lva 3 fun w hF => ?_) (fun g w hk q => by rw [q]; exact hd)
  u_c stepG_region_end (rk) hF
  u_c stepG_end (rk) hF
  u_in rk hF
  rw [stepG_unwind_enter rfl Tryz.func11 (nm_done link) rfl]
  simp only [goes_go]
  refine ⟨by u_nil, ?_⟩
  exact Goes.stop (fun w₁ h₁ => rfl)
set_option maxRecDepth 100000 in
theorem recv_end (m : MQ) (g : Goroutine) (h : RecvW m g) : LvA m.p false (SRel m.p) ({ g with offers := none }.finishComm Tryz.prog #[rcase (m.N + 2) zJ] (.recv true) 0 zJ false) := by
  obtain ⟨T, q1, q2, q3, q4, q5, q6, q7⟩ := h
  obtain ⟨fr, cs, st, dy, off⟩ := g
  simp only at q1 q2 q3 q4
  subst q1 q2 q3 q4
  obtain ⟨v0, v1, v2, v3, v4, v5, v6, v7, v8, v9, v10, v11, v12, v13, v14, v15, rfl⟩ := array16 T q5
  clear q5 q6 q7
  obtain ⟨r, hr⟩ := C1_eq
  have e : (Goroutine.finishComm Tryz.prog { frame := (base 12).at ⟨#[v0, v1, v2, v3, v4, v5, v6, v7, v8, v9, v10, v11, v12, v13, v14, v15], []⟩ [.inRegion ops1 [0, 1], .code C1, .inLoop L1, .inBlock 0], callers := [cfr m, bot], status := .running, dying := none, offers := none } #[rcase (m.N + 2) zJ] (.recv true) 0 zJ false) =
      G ((base 12).at ⟨#[v0, v1, v2, v3, v4, v5, .tuple #[zJ, .bool false], v7, v8, v9, v10, v11, v12, v13, v14, v15], []⟩ [.inRegion ops1 [1], .code C1, .inLoop L1, .inBlock 0]) [cfr m, bot] := by
    unfold Goroutine.finishComm
    simp only
    rw [Frame.finish_at, ops1_two]
    rfl
  refine lva_then (Stop' := fun g _ => ∃ T, g = G (b10.at ⟨T, [dcall 11 #[.pointer (some ⟨m.N + 4, 0, none⟩)]]⟩ [.inRegion opsB []]) [bot]) ?_ (fun g w hk q => by obtain ⟨T, rfl⟩ := q; exact end_lv m _)
  refine lva 20 fun w hF => ?_
  show Goes _ _ _ _ _ _ (Goroutine.finishComm Tryz.prog { frame := (base 12).at ⟨#[v0, v1, v2, v3, v4, v5, v6, v7, v8, v9, v10, v11, v12, v13, v14, v15], []⟩ [.inRegion ops1 [0, 1], .code C1, .inLoop L1, .inBlock 0], callers := [cfr m, bot], status := .running, dying := none, offers := none } #[rcase (m.N + 2) zJ] (.recv true) 0 zJ false) _
  rw [e, hr]
  generalize L1 = l1
  unfold cfr
  generalize opsB = oB
  rw [ops1_two]
  clear e hr
  repeat w_go rk
  u_in rk hF
  refine goes_leave0 (fn := Tryz.f12) rfl rfl Tryz.func12 rfl ⟨by u_nil, ?_⟩
  refine Goes.stop (fun w₁ h₁ => ?_)
  generalize (oB[2]?.bind fun x => x.dst) = d
  cases d <;> exact ⟨_, rfl⟩
end Go.Proofs.Q
namespace Go.Proofs.Q
open Go Go.Proofs Go.Conc Go.RowKit Go.Conc.Lib Go.ConcR.Gen
open Go.ConcR (KK stA smA rd wr DC0)
set_option linter.unusedVariables false
set_option linter.unusedSectionVars false
set_option linter.unusedSimpArgs false
def call10 (m : MQ) : Deferred := { target := .fn (.func 10) #[.pointer (some ⟨m.N + 4, 0, none⟩), .pointer (some ⟨m.N + 3, 0, none⟩), .pointer (some ⟨m.N + 1, 0, none⟩)], args := #[] }
theorem born_step (m : MQ) (w : World) : stepG Tryz.prog false (born Tryz.prog (call10 m)) w =
    .go (G (b10.at ⟨#[.pointer (some ⟨m.N + 4, 0, none⟩), .pointer (some ⟨m.N + 3, 0, none⟩), .pointer (some ⟨m.N + 1, 0, none⟩), undef, undef, undef], []⟩ [.code childB]) [bot]) w #[] := by
  simp [born, call10, stepG, unwind, callDeferred, invoke, callFunc, Tryz.func10, Tryz.f10, seen, GStep.after, G, Frame.enter, Frame.at, b10, baseD, bot, childB]
end Go.Proofs.Q
namespace Go.Proofs.Q
open Go Go.Proofs Go.Conc Go.RowKit Go.Conc.Lib Go.ConcR.Gen
open Go.ConcR (KK stA smA rd wr DC0)
set_option linter.unusedVariables false
set_option linter.unusedSectionVars false
set_option linter.unusedSimpArgs false
inductive Ord (md : Region.Mode) (ops : Array Oper) : Array Bool → List Nat → Prop
  | nil {listed : Array Bool} : Region.ready md ops listed = [] → Ord md ops listed []
  | cons {listed : Array Bool} {i : Nat} {rest : List Nat} : i ∈ Region.ready md ops listed → Ord md ops (listed.setIfInBounds i true) rest → Ord md ops listed (i :: rest)
def cnt (l : Array Bool) : Nat := l.toList.countP (! ·)
theorem cnt_set {l : Array Bool} {i : Nat} (h : l.getD i true = false) : cnt (l.setIfInBounds i true) + 1 = cnt l := by
  have hi : i < l.size := by
    apply Nat.lt_of_not_le; intro q
    simp [Array.getElem?_eq_none q] at h
  have hv : l.toList[i] = false := by simpa [hi] using h
  unfold cnt
  have hp : 0 < l.toList.countP (! ·) := List.countP_pos_iff.2 ⟨false, by rw [← hv]; exact List.getElem_mem _, rfl⟩
  rw [Array.toList_setIfInBounds, List.countP_set (by simpa using hi)]
  rw [hv]
  simp only [Bool.not_false, Bool.not_true, if_true, Bool.false_eq_true, if_false]
  omega
theorem ord_of {md : Region.Mode} {ops : Array Oper} : ∀ (fuel t : Nat) (listed : Array Bool), cnt listed ≤ fuel → Ord md ops listed (Region.linearise.go md ops fuel t listed [])
  | 0, t, listed, h => .nil (by
    cases hr : Region.ready md ops listed with
    | nil => rfl
    | cons x xs =>
      have := cnt_set (mem_ready.1 (hr ▸ List.mem_cons_self : x ∈ Region.ready md ops listed)).1
      omega)
  | fuel + 1, t, listed, h => by
    simp only [Region.linearise.go]
    change Ord md ops listed (match (Region.ready md ops listed)[t % (Region.ready md ops listed).length]? with
      | some i => Region.linearise.go md ops fuel (t / (Region.ready md ops listed).length) (listed.setIfInBounds i true) [i]
      | none => [].reverse)
    cases hi : (Region.ready md ops listed)[t % (Region.ready md ops listed).length]? with
    | none =>
      refine .nil ?_
      cases hr : Region.ready md ops listed with
      | nil => rfl
      | cons x xs =>
        rw [hr] at hi
        have hlt : t % (x :: xs).length < (x :: xs).length := Nat.mod_lt _ (by simp)
        simp at hi
        simp at hlt
        omega
    | some i =>
      simp only []
      rw [linearise_go_acc, List.reverse_singleton, List.singleton_append]
      have hm := List.mem_of_getElem? hi
      have := cnt_set (mem_ready.1 hm).1
      exact .cons hm (ord_of fuel _ _ (by omega))
def mkO (d : Option Nat) (op : Op) (t : TypeId) (af : Array Edge) : Oper := { dst := d, op := op, type := t, pos := "many.go:49", after := af, guard := none }
abbrev dt (i : Nat) : Edge := { on := i, ground := Ground.data }
abbrev ph (i : Nat) : Edge := { on := i, ground := Ground.phase }
noncomputable def B1 : Code := match C1 with | .seq _ (.block _ c) => c | _ => .skip
noncomputable def ops2 : Array Oper := match B1 with | .seq (.region _ ops _) _ => ops | _ => #[]
noncomputable def ops3 : Array Oper := match B1 with | .seq _ (.region _ ops _) => ops | _ => #[]
theorem C1_is : C1 = .seq (.cond (.tmp 7) .skip (.exit 0)) (.block 1 (.seq (.region 2 ops2 false) (.region 3 ops3 true))) := rfl
def lit3 : Array Oper := #[mkO (some 9) (.move (.tmp 1)) 22 #[], mkO (some 10) (.fieldAddr 47 (.tmp 4) 0) 0 #[], mkO (some 11) (.load 3 (.tmp 10)) 3 #[dt 1],
  mkO (some 12) (.fieldAddr 47 (.tmp 4) 1) 0 #[], mkO (some 13) (.load 9 (.tmp 12)) 9 #[dt 3], mkO (some 14) (.call { callee := .value (.func 7), args := #[.tmp 13], argTypes := #[9] }) 9 #[dt 4],
  mkO (some 15) (.indexAddr 22 (.tmp 9) (.tmp 11)) 0 #[dt 0, dt 2, ph 0, ph 1, ph 2, ph 3, ph 4, ph 5],
  mkO none (.store 9 (.tmp 15) (.tmp 14)) 0 #[dt 6, dt 5, { on := 5, ground := Ground.chain }, ph 0, ph 1, ph 2, ph 3, ph 4, ph 5]]
theorem ops3_eq : ops3 = lit3 := rfl
def st3 (l0 l1 l2 l3 l4 l5 l6 : Bool) : Array Bool := #[l0, l1, l2, l3, l4, l5, l6, false]
def can3 (l0 l1 l2 l3 l4 l5 l6 : Bool) : Nat → Bool
  | 0 => !l0 | 1 => !l1 | 2 => l1 && !l2 | 3 => !l3 | 4 => l3 && !l4 | 5 => l4 && !l5 | 6 => l0 && l1 && l2 && l3 && l4 && l5 && !l6 | 7 => l0 && l1 && l2 && l3 && l4 && l5 && l6 | _ => false
theorem ready3 : ∀ l0 l1 l2 l3 l4 l5 l6 : Bool, (Region.ready .any lit3 (st3 l0 l1 l2 l3 l4 l5 l6)).all (can3 l0 l1 l2 l3 l4 l5 l6) = true ∧ (Region.ready .any lit3 (st3 l0 l1 l2 l3 l4 l5 l6)).isEmpty = false := by
  decide +kernel
theorem ready_end : Region.ready .any lit3 (#[true, true, true, true, true, true, true, true]) = [] := by decide +kernel
end Go.Proofs.Q
