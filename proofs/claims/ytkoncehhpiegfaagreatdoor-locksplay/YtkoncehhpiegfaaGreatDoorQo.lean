/- Package locks: Holds, Waits, Lock. -/
import Derived.Test.YtkoncehhpiegfaaGreatDoorQn
namespace Go.Proofs.YtkoncehhpiegfaaGreatDoor
open Go.RowKit Go.Lib Go.Maps
set_option linter.unusedVariables false

theorem field0Q (a : Option Addr) (n c : Nat) (a' : Option Addr) (n' c' : Nat) (w : World) : (Instr.field 59 (.agg #[.slice a n c, .slice a' n' c']) 0).run Tryz.prog w = .ok (.slice a n c) w := by kernel_rfl
theorem field1Q (a : Option Addr) (n c : Nat) (a' : Option Addr) (n' c' : Nat) (w : World) : (Instr.field 59 (.agg #[.slice a n c, .slice a' n' c']) 1).run Tryz.prog w = .ok (.slice a' n' c') w := by kernel_rfl
set_option maxRecDepth 100000 in
theorem holds_any (B N : Nat) (q : TbM) (s : Tab) (t : Int) (name : ByteArray) (w : World) (h : TbP w B N q s) (hn : okQ name) (hN : N ≤ 900) :
    Calls Tryz.prog 12 #[.pointer (some ⟨q.b, q.pre.length, none⟩), .int .i64 t, .string name] w fun e w' => e = .returned (.int .i64 (modeN (s name).held t)) ∧ Mod noBlock w w' := by
  have c0 := h.cell
  have z0 := h.blk.lt
  have hlook := h.look hn
  have hfew := h.few name hn
  have hr := h.rows name true hn id
  have HM := Hid.mkq (modeOf_any w.heap.size (q.hd name true) (s name).held t w (hr.toV (Nat.le_refl _)) (h.ok name hn).held (by omega))
  obtain ⟨a, cap, hd⟩ := own_slice hr
  obtain ⟨a', cap', hd'⟩ := own_slice (h.rows name false hn id)
  rw [hd] at hlook HM
  rw [hd'] at hlook
  have hf0 := field0Q
  clear h hr
  go_enter Tryz.func12, Tryz.ntmps12
  go_wp2_with fail
  refine HM.out.mono ?_
  rintro e w1 ⟨rfl, hm⟩
  go_wp2_with fail
  go_ret
  exact ⟨rfl, hm⟩
set_option maxRecDepth 100000 in
theorem waits_any (B N : Nat) (q : TbM) (s : Tab) (name : ByteArray) (w : World) (h : TbP w B N q s) (hn : okQ name) (hN : N ≤ 900) :
    Calls Tryz.prog 14 #[.pointer (some ⟨q.b, q.pre.length, none⟩), .string name] w fun e w' => ∃ u, e = .returned u ∧ RowI w' w.heap.size u ((s name).waits.map (·.tx)) ∧ Mod noBlock w w' := by
  have c0 := h.cell
  have z0 := h.blk.lt
  have hlook := h.look hn
  have hfew := h.few name hn
  have hr := h.rows name false hn id
  have HM := Hid.mkq (txs_any w.heap.size (q.hd name false) (s name).waits w (hr.toV (Nat.le_refl _)) (by omega))
  obtain ⟨a, cap, hd⟩ := own_slice hr
  obtain ⟨a', cap', hd'⟩ := own_slice (h.rows name true hn id)
  rw [hd] at hlook HM
  rw [hd'] at hlook
  have hf0 := field1Q
  clear h hr
  go_enter Tryz.func14, Tryz.ntmps14
  go_wp2_with fail
  refine HM.out.mono ?_
  rintro e w1 ⟨u, rfl, hu, hm⟩
  have HU := Hid.mkq hu
  obtain ⟨ua, ucap, hua⟩ := own_slice hu
  subst hua
  have HU2 : Hid (RowI w1 w.heap.size (.slice ua (s name).waits.length ucap) ((s name).waits.map (·.tx))) := by
    have h1 := HU.out
    rw [List.length_map] at h1
    exact h1
  clear hu HU
  go_wp2_with fail
  go_ret
  exact ⟨_, rfl, HU2.out, hm⟩
/-- An error, as a value. -/
def errQ (e : Int) : Value := if e = 0 then .nilIface else .iface 33 (.int .i64 e)
/-- What Lock comes to. -/
structure LockQ (w w' : World) (B N : Nat) (q q' : TbM) (s : Tab) (name : ByteArray) (c : ClmD) (u : Value) : Prop where
  wound : RowI w' w.heap.size u (lockN (s name) c).2.2.1
  tb : TbP w' B N q' (updK s name (lockN (s name) c).1)
  b : q'.b = q.b
  pre : q'.pre = q.pre
  post : q'.post = q.post
  t : q'.t = q.t
  n : q'.n ≤ q.n + 1
  md : Mod (fun x => x = q.b ∨ q.own x) w w'
  own : ∀ x, q'.own x → q.own x ∨ w.heap.size ≤ x
def LockP (w : World) (B N : Nat) (q : TbM) (s : Tab) (name : ByteArray) (c : ClmD) (e : Ending) (w' : World) : Prop :=
  ∃ q' u, e = .returned (.tuple #[.bool (lockN (s name) c).2.1, u, errQ (lockN (s name) c).2.2.2]) ∧ LockQ w w' B N q q' s name c u
theorem updK_self (s : Tab) (k : ByteArray) : updK s k (s k) = s := by
  funext y; unfold updK; split
  · rename_i e; rw [e]
  · rfl
theorem TbX.more {w : World} {B N N' : Nat} {q : TbM} {s : Tab} {no : ByteArray → Prop} (h : TbX w B N q s no) (hN : N ≤ N') : TbX w B N' q s no :=
  ⟨h.blk, h.bt, h.map, h.hdr, h.rows, h.apart, h.ok, fun k hk => Nat.le_trans (h.few k hk) hN⟩
/-- Nothing was turned. -/
theorem lock_same {w w' : World} {B N : Nat} {q : TbM} {s : Tab} {name : ByteArray} {c : ClmD} (h : TbP w B N q s) (hm : Mod noBlock w w') (h1 : (lockN (s name) c).1 = s name) (h2 : (lockN (s name) c).2.2.1 = []) : LockQ w w' B (N + 1) q q s name c (.slice none 0 0) := by
  refine ⟨by rw [h2]; exact World.ownsRow_nil _ _ _ _, ?_, rfl, rfl, rfl, rfl, by omega, hm.mono (fun _ _ e => e.elim), fun x hx => .inl hx⟩
  rw [h1, updK_self]
  exact (h.more (by omega)).mod hm id (fun _ _ => id)
theorem lockN_len (k : KeyS) (c : ClmD) : (lockN k c).1.held.length + (lockN k c).1.waits.length ≤ k.held.length + k.waits.length + 1 := by
  unfold lockN
  split
  · simp only; omega
  split
  · simp only; omega
  split
  · have := len_with k.held c; simp only; omega
  split
  · simp only; omega
  · have := len_with k.waits c; simp only; omega
/-- A row of the key has been laid anew: what is to be kept. -/
theorem kept_one {w w6 : World} {B N : Nat} {q : TbM} {s : Tab} {name : ByteArray} {u : Value} {l : List ClmD} (i0 : Bool) (k' : KeyS) (h : TbP w B N q s) (hn : okQ name) (hu : RowK w6 B u l) (hl : k'.list i0 = l) (ho : k'.list (!i0) = (s name).list (!i0))
    (hm : Mod (fun x => (q.hd name i0).ownBlock = some x ∨ w.heap.size ≤ x) w w6) (hat : u.ownBlock = (q.hd name i0).ownBlock ∨ ∀ x, u.ownBlock = some x → w.heap.size ≤ x) :
    KeptQ w6 B q name (fun i => if i = i0 then u else q.hd name i) k' ∧ TbX w6 B N q s (· = name) := by
  have hub : ∀ x, u.ownBlock = some x → (q.hd name i0).ownBlock = some x ∨ w.heap.size ≤ x := fun x hx => by
    rcases hat with e | e
    · exact .inl (by rw [← e]; exact hx)
    · exact .inr (e x hx)
  have hlt : ∀ k i x, okQ k → (q.hd k i).ownBlock = some x → x < w.heap.size := fun k i x hk hx => (h.old hk id hx).2.1
  have hne : ∀ x, (q.hd name (!i0)).ownBlock = some x → u.ownBlock ≠ some x := fun x hx e => by
    rcases hub x e with e2 | e2
    · have := (h.apart name name (!i0) i0 x hn hn hx e2).2; cases i0 <;> cases this
    · have := hlt name (!i0) x hn hx; omega
  refine ⟨⟨fun i => ?_, fun x h1 h2 => ?_, fun k i j x hk hkn h1 h2 => ?_⟩, (h.less _).turn hm (fun e => ?_) (fun x hx e => ?_) (fun k i x hk hkn hx e => ?_)⟩
  · by_cases e : i = i0
    · subst e; simp only [if_true]; rw [hl]; exact hu
    · have : i = !i0 := by cases i <;> cases i0 <;> simp_all
      subst this
      simp only [e, if_false]
      rw [ho]
      refine (h.rows name (!i0) hn id).mod hm (fun x hx e2 => ?_)
      rcases e2 with e2 | e2
      · have := (h.apart name name (!i0) i0 x hn hn hx e2).2; cases i0 <;> cases this
      · have := hlt name (!i0) x hn hx; omega
  · cases i0
    · simp only [Bool.true_eq_false, if_false, if_true] at h1 h2
      exact hne x h1 h2
    · simp only [Bool.false_eq_true, if_false, if_true] at h1 h2
      exact hne x h2 h1
  · by_cases e : j = i0
    · subst e
      simp only [if_true] at h2
      rcases hub x h2 with e2 | e2
      · exact hkn (h.apart k name i j x hk hn h1 e2).1
      · have := hlt k i x hk h1; omega
    · simp only [e, if_false] at h2
      exact hkn (h.apart k name i j x hk hn h1 h2).1
  · rcases e with e | e
    · exact (h.row_ne hn id e).1 rfl
    · have := h.blk.lt; omega
  · rcases e with e | e
    · exact (h.row_ne hn id e).2 hx
    · have := (h.lt (.inl hx)).2; omega
  · rcases e with e | e
    · exact hkn (h.apart k name i i0 x hk hn hx e).1
    · have := hlt k i x hk hx; omega
end Go.Proofs.YtkoncehhpiegfaaGreatDoor
