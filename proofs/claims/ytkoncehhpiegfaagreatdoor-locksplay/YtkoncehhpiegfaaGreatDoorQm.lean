/- Package locks: keep. -/
import Derived.Test.YtkoncehhpiegfaaGreatDoorQl
namespace Go.Proofs.YtkoncehhpiegfaaGreatDoor
open Go.RowKit Go.Lib Go.Maps
set_option linter.unusedVariables false

def updHQ (h : ByteArray → Bool → Value) (k : ByteArray) (v : Bool → Value) : ByteArray → Bool → Value := fun x => if x = k then v else h x
theorem updHQ_at (h : ByteArray → Bool → Value) (k : ByteArray) (v : Bool → Value) : updHQ h k v k = v := by unfold updHQ; rw [if_pos rfl]
theorem updHQ_ne {h : ByteArray → Bool → Value} {k x : ByteArray} {v : Bool → Value} (e : x ≠ k) : updHQ h k v x = h x := by unfold updHQ; rw [if_neg e]
theorem updK_at' (s : Tab) (k : ByteArray) (a : KeyS) : updK s k a k = a := by unfold updK; rw [if_pos rfl]
theorem updK_ne' {s : Tab} {k x : ByteArray} {a : KeyS} (e : x ≠ k) : updK s k a x = s x := by unfold updK; rw [if_neg e]
/-- A key's rows that are to be kept. -/
structure KeptQ (w : World) (B : Nat) (q : TbM) (name : ByteArray) (v : Bool → Value) (k' : KeyS) : Prop where
  row : ∀ i, RowK w B (v i) (k'.list i)
  ne : ∀ x, (v true).ownBlock = some x → (v false).ownBlock ≠ some x
  out : ∀ k i j x, okQ k → k ≠ name → (q.hd k i).ownBlock = some x → (v j).ownBlock ≠ some x
/-- What keep comes to. -/
structure KeepQ (w w' : World) (B N : Nat) (q q' : TbM) (s : Tab) (name : ByteArray) (v : Bool → Value) (k' : KeyS) : Prop where
  tb : TbP w' B N q' (updK s name k')
  b : q'.b = q.b
  pre : q'.pre = q.pre
  post : q'.post = q.post
  t : q'.t = q.t
  n1 : q'.n ≤ q.n + 1
  n0 : ¬ (s name).bare → q'.n ≤ q.n
  md : Mod (fun x => x = q.b ∨ q.m = some x) w w'
  own : ∀ x, q'.own x → q.own x ∨ w.heap.size ≤ x ∨ ∃ i, (v i).ownBlock = some x
theorem list_nil {k : KeyS} (h : k.bare) (i : Bool) : k.list i = [] := by cases i <;> simp [KeyS.list, h.1, h.2]
/-- All that is laid anew but the map. -/
theorem keep_rows {w w' : World} {B N N' : Nat} {q : TbM} {s : Tab} {name : ByteArray} {v : Bool → Value} {k' : KeyS} {m : Option Nat} {n : Nat} {G : Nat → Prop} (h : TbX w B N q s (· = name)) (hn : okQ name) (hk : KeptQ w B q name v k') (hok : KeyOK k') (hN : k'.held.length + k'.waits.length ≤ N') (hNN : N ≤ N')
    (hm : Mod G w w') (hG : ∀ k i x, okQ k → (updHQ q.hd name v k i).ownBlock = some x → ¬ G x) (hb : Blk w' q.b (q.pre ++ .map m :: q.post) q.t) (hmap : MapQ w' B m n (updHQ q.hd name v) (updK s name k')) :
    TbP w' B N' { q with m := m, n := n, hd := updHQ q.hd name v } (updK s name k') := by
  have hrow : ∀ k i, okQ k → RowK w B (updHQ q.hd name v k i) ((updK s name k' k).list i) := fun k i hk2 => by
    by_cases e : k = name
    · subst e; rw [updHQ_at, updK_at']; exact hk.row i
    · rw [updHQ_ne e, updK_ne' e]; exact h.rows k i hk2 e
  refine ⟨hb, h.bt, hmap, fun k i hk2 => own_hdrQ (hrow k i hk2), fun k i hk2 _ => (hrow k i hk2).mod hm (fun x hx => hG k i x hk2 hx), fun k k2 i i2 x hk1 hk2 h1 h2 => ?_, fun k hk2 => ?_, fun k hk2 => ?_⟩
  · simp only at h1 h2
    by_cases e1 : k = name
    · by_cases e2 : k2 = name
      · subst e1
        refine ⟨e2.symm, ?_⟩
        subst e2
        rw [updHQ_at] at h1 h2
        cases i <;> cases i2
        · rfl
        · exact absurd h1 (hk.ne x h2)
        · exact absurd h2 (hk.ne x h1)
        · rfl
      · subst e1
        rw [updHQ_at] at h1
        rw [updHQ_ne e2] at h2
        exact absurd h1 (hk.out k2 i2 i x hk2 e2 h2)
    · rw [updHQ_ne e1] at h1
      by_cases e2 : k2 = name
      · subst e2
        rw [updHQ_at] at h2
        exact absurd h2 (hk.out k i i2 x hk1 e1 h1)
      · rw [updHQ_ne e2] at h2
        exact h.apart k k2 i i2 x hk1 hk2 h1 h2
  · by_cases e : k = name
    · rw [e, updK_at']; exact hok
    · rw [updK_ne' e]; exact h.ok k hk2
  · by_cases e : k = name
    · rw [e, updK_at']; exact hN
    · rw [updK_ne' e]; exact Nat.le_trans (h.few k hk2) hNN
theorem kept_nil (w : World) (B : Nat) (q : TbM) (name : ByteArray) : KeptQ w B q name (fun _ => .slice none 0 0) ⟨[], []⟩ :=
  ⟨fun i => by cases i <;> exact World.ownsRow_nil _ _ _ _, fun x hx => by simp [Value.ownBlock] at hx, fun k i j x _ _ _ => by simp [Value.ownBlock]⟩
theorem bare_eq {k : KeyS} (h : k.bare) : k = ⟨[], []⟩ := by cases k; obtain ⟨h1, h2⟩ := h; simp at h1 h2; rw [h1, h2]
theorem bare_lit (h v : List ClmD) : (⟨h, v⟩ : KeyS).bare ↔ h = [] ∧ v = [] := Iff.rfl
/-- Nobody is there any more, and nobody was. -/
theorem keep_none {w w' : World} {B N N' : Nat} {q : TbM} {s : Tab} {name : ByteArray} {v : Bool → Value} {k' : KeyS} (h : TbX w B N q s (· = name)) (hn : okQ name) (hbare : k'.bare) (hNN : N ≤ N') (hm : Mod noBlock w w') (hq : q.m = none) :
    ∃ q', KeepQ w w' B N' q q' s name v k' := by
  have hb := bare_eq hbare
  subst hb
  have hmap := h.map
  rw [hq] at hmap
  refine ⟨_, ⟨keep_rows (m := none) (n := q.n) h hn (kept_nil w B q name) KeyOK.nil (by simp) hNN hm (fun _ _ _ _ _ => id) (by have := h.blk.mod hm id; rw [hq] at this; exact this) (fun k hk => ?_), rfl, rfl, rfl, rfl, by show q.n ≤ q.n + 1; omega, fun _ => Nat.le_refl _, hm.mono (fun _ _ e => e.elim), fun x hx => ?_⟩⟩
  · by_cases e : k = name
    · subst e; rw [updHQ_at, updK_at']; exact ⟨fun _ => rfl, rfl, rfl⟩
    · rw [updHQ_ne e, updK_ne' e]; exact hmap k hk
  · rcases hx with hx | ⟨k, i, hk, hx⟩
    · cases hx
    · simp only at hx
      by_cases e : k = name
      · subst e; rw [updHQ_at] at hx; simp [Value.ownBlock] at hx
      · rw [updHQ_ne e] at hx; exact .inl (.inr ⟨k, i, hk, hx⟩)
theorem ownsMap_tight {w : World} {g n : Nat} {D : DataW Unit} (h : w.ownsMap Tryz.prog 9 elemQ g n D) : w.ownsMap Tryz.prog 9 elemQ g (Maps.size D) D := by
  obtain ⟨es, clock, hb, F, _, rfl⟩ := h
  exact ⟨es, clock, hb, F, by simp [Maps.size, length_sorted], rfl⟩
/-- Nobody is there any more: the key is taken away. -/
theorem keep_del {w w1 w' : World} {B N N' g : Nat} {q : TbM} {s : Tab} {name : ByteArray} {v : Bool → Value} {k' : KeyS} {D : DataW Unit} (h : TbX w B N q s (· = name)) (hn : okQ name) (hbare : k'.bare) (hNN : N ≤ N') (hm1 : Mod noBlock w w1) (hq : q.m = some g) (hBg : B ≤ g)
    (h2 : ∀ k, okQ k → D.atKey (keyQ k) zeroK = encK (q.hd k true) (q.hd k false) ∧ (Maps.has D (keyQ k) = true ↔ ¬ (s k).bare)) (hown : w'.ownsMap Tryz.prog 9 elemQ g q.n (D.del (keyQ name))) (hm : Mod (oneBlock g) w1 w') :
    ∃ q', KeepQ w w' B N' q q' s name v k' := by
  have hb := bare_eq hbare
  subst hb
  have hmo : Mod (oneBlock g) w w' := (hm1.mono (fun _ _ e => e.elim)).trans hm
  refine ⟨_, ⟨keep_rows (m := some g) (n := q.n) h hn (kept_nil w B q name) KeyOK.nil (by simp) hNN hmo (fun k i x hk hx e => ?_) ?_ ⟨hBg, _, hown, fun k hk => ?_⟩, rfl, rfl, rfl, rfl, by show q.n ≤ q.n + 1; omega, fun _ => Nat.le_refl _, hmo.mono (fun x _ e => .inr (by simp only [oneBlock] at e; rw [hq, e])), fun x hx => ?_⟩⟩
  · simp only [oneBlock] at e
    by_cases e1 : k = name
    · subst e1; rw [updHQ_at] at hx; simp [Value.ownBlock] at hx
    · rw [updHQ_ne e1] at hx; exact (h.row_ne hk e1 hx).2 (by rw [hq, e])
  · have := h.blk.mod hmo (fun e => by simp only [oneBlock] at e; exact h.map_ne (by rw [hq, e]))
    rw [hq] at this
    exact this
  · by_cases e : k = name
    · subst e
      rw [updHQ_at, updK_at', atKey_del_same, has_del_same]
      refine ⟨rfl, ?_⟩
      simp [KeyS.bare]
    · have hne : keyQ k ≠ keyQ name := fun e2 => e (keyQ_inj e2)
      rw [updHQ_ne e, updK_ne' e, atKey_del_other hne, has_del_other hne]
      exact h2 k hk
  · rcases hx with hx | ⟨k, i, hk, hx⟩
    · exact .inl (.inl (by rw [hq]; exact hx))
    · simp only at hx
      by_cases e : k = name
      · subst e; rw [updHQ_at] at hx; simp [Value.ownBlock] at hx
      · rw [updHQ_ne e] at hx; exact .inl (.inr ⟨k, i, hk, hx⟩)
/-- A map for a table that has none. -/
theorem keep_new {w : World} {B N : Nat} {q : TbM} {s : Tab} {name : ByteArray} (h : TbX w B N q s (· = name)) (hB : B ≤ w.heap.size) (hm : q.m = none) :
    TbX ((w.setCell ⟨q.b, q.pre.length, none⟩ (.map (some w.heap.size))).alloc (.map #[] 0)) B N { q with m := some w.heap.size, n := 0 } s (· = name) ∧ Mod (oneBlock q.b) w ((w.setCell ⟨q.b, q.pre.length, none⟩ (.map (some w.heap.size))).alloc (.map #[] 0)) := by
  have hmo : Mod (oneBlock q.b) w ((w.setCell ⟨q.b, q.pre.length, none⟩ (.map (some w.heap.size))).alloc (.map #[] 0)) := (Mod.setBlk _ _ _).alloc _
  have hmap := h.map
  rw [hm] at hmap
  refine ⟨⟨?_, h.bt, ⟨hB, .map [], ?_, fun k hk => ?_⟩, h.hdr, fun k i hk hno => (h.rows k i hk hno).mod hmo (fun x hx e => ?_), h.apart, h.ok, h.few⟩, hmo⟩
  · have := (h.blk.set q.pre.length (.map (some w.heap.size))).mod ((Mod.refl noBlock _).alloc (.map #[] 0)) id
    rw [List.set_append_right _ _ (Nat.le_refl _), Nat.sub_self, List.set_cons_zero] at this
    exact this
  · have h1 := World.ownsMap_made (w.setCell ⟨q.b, q.pre.length, none⟩ (.map (some w.heap.size))) Tryz.prog 9 elemQ
    simpa using h1
  · obtain ⟨h1, h2⟩ := hmap k hk
    show DataW.atKey (.map []) (keyQ k) zeroK = encK (q.hd k true) (q.hd k false) ∧ _
    rw [h1 true, h1 false]
    exact ⟨rfl, by simp [has, h2]⟩
  · simp only [oneBlock] at e
    exact (h.row_ne hk hno hx).1 e
/-- The key is laid back. -/
theorem keep_put {w w7 : World} {B N N' g : Nat} {q : TbM} {s : Tab} {name : ByteArray} {v : Bool → Value} {k' : KeyS} {D : DataW Unit} (h : TbX w B N q s (· = name)) (hn : okQ name) (hk : KeptQ w B q name v k') (hok : KeyOK k') (hN : k'.held.length + k'.waits.length ≤ N') (hNN : N ≤ N') (hbare : ¬ k'.bare) (hq : q.m = some g) (hBg : B ≤ g)
    (hown : w.ownsMap Tryz.prog 9 elemQ g q.n D) (h2 : ∀ k, okQ k → D.atKey (keyQ k) zeroK = encK (q.hd k true) (q.hd k false) ∧ (Maps.has D (keyQ k) = true ↔ ¬ (s k).bare))
    (h7 : w7.ownsMap Tryz.prog 9 elemQ g (q.n + 1) (D.put (keyQ name) (encK (v true) (v false)))) (hm7 : Mod (oneBlock g) w w7) :
    ∃ q', KeepQ w w7 B N' q q' s name v k' := by
  have hD := hown.isMap
  have hty := hown.tidy kStrQ
  have hsz := hown.size_le
  have h7t := ownsMap_tight h7
  obtain ⟨n', hn', h7n, hn0⟩ : ∃ n', n' ≤ q.n + 1 ∧ w7.ownsMap Tryz.prog 9 elemQ g n' (D.put (keyQ name) (encK (v true) (v false))) ∧ (¬ (s name).bare → n' ≤ q.n) := by
    refine ⟨_, h7.size_le, h7t, fun hnb => ?_⟩
    rw [size_put hty, if_pos ((h2 name hn).2.2 hnb)]
    exact hsz
  have hvg : ∀ i x, (v i).ownBlock = some x → x ≠ g := fun i x hx e => by
    obtain ⟨_, _, cur, hc⟩ := own_cellsVQ (hk.row i) hx
    obtain ⟨es, clock, hb, _⟩ := hown
    rw [e] at hc
    rw [hc] at hb
    cases hb
  refine ⟨_, ⟨keep_rows (m := some g) (n := n') h hn hk hok hN hNN hm7 (fun k i x hk2 hx e => ?_) ?_ ⟨hBg, _, h7n, fun k hk2 => ?_⟩, rfl, rfl, rfl, rfl, hn', hn0, hm7.mono (fun x _ e => .inr (by simp only [oneBlock] at e; rw [hq, e])), fun x hx => ?_⟩⟩
  · simp only [oneBlock] at e
    by_cases e1 : k = name
    · subst e1; rw [updHQ_at] at hx; exact hvg i x hx e
    · rw [updHQ_ne e1] at hx; exact (h.row_ne hk2 e1 hx).2 (by rw [hq, e])
  · have := h.blk.mod hm7 (fun e => by simp only [oneBlock] at e; exact h.map_ne (by rw [hq, e]))
    rw [hq] at this
    exact this
  · by_cases e : k = name
    · subst e
      rw [updHQ_at, updK_at', atKey_put_same hD (keyQ_lit _), has_put_same hD (keyQ_lit _)]
      exact ⟨rfl, by simp [hbare]⟩
    · have hne : keyQ k ≠ keyQ name := fun e2 => e (keyQ_inj e2)
      rw [updHQ_ne e, updK_ne' e, atKey_put_other hne, has_put_other hne]
      exact h2 k hk2
  · rcases hx with hx | ⟨k, i, hk2, hx⟩
    · exact .inl (.inl (by rw [hq]; exact hx))
    · simp only at hx
      by_cases e : k = name
      · subst e; rw [updHQ_at] at hx; exact .inr (.inr ⟨i, hx⟩)
      · rw [updHQ_ne e] at hx; exact .inl (.inr ⟨k, i, hk2, hx⟩)
theorem eqlMapQ (m : Option Nat) (w : World) : (binOp .eql 23 (.map m) (.map none)).run Tryz.prog w = .ok (.bool m.isNone) w := by cases m <;> kernel_rfl
theorem run_makeMapQ (w : World) : (Instr.makeMap 23 none).run Tryz.prog w = .ok (.map (some w.heap.size)) (w.alloc (.map #[] 0)) := by kernel_rfl
end Go.Proofs.YtkoncehhpiegfaaGreatDoor
