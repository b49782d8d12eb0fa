/- Package check: orders that can be gone; the search, as it lies in memory. -/
import Derived.Test.YtefhgakcffhgaabDoorKc
import Derived.Test.YtefhgakcffhgaabDoorKe
import Derived.Test.YtefhgakcffhgaabDoorKg
namespace Go.Proofs.YtefhgakcffhgaabDoor
open Go.RowKit Go.Lib Go.Maps
set_option linter.unusedVariables false

open Classical in
/-- What keys have behind those that come next, one by one; none: that cannot be. -/
noncomputable def goodR (ts : List TxD) : List Nat → Sta → List Nat → Option Sta
  | _, s, [] => some s
  | d, s, n :: rest => if NextOK ts d n then (match ts[n]? with
    | none => none
    | some t => match doOps s t.ops with
      | none => none
      | some r => goodR ts (d ++ [n]) r.1 rest) else none
theorem goodR_cons {ts : List TxD} {d : List Nat} {s s2 : Sta} {n : Nat} {rest : List Nat} (h : goodR ts d s (n :: rest) = some s2) : NextOK ts d n ∧ ∃ t r, ts[n]? = some t ∧ doOps s t.ops = some r ∧ goodR ts (d ++ [n]) r.1 rest = some s2 := by
  rw [goodR] at h
  split at h
  · rename_i hn
    refine ⟨hn, ?_⟩
    cases ht : ts[n]? with
    | none => rw [ht] at h; cases h
    | some t =>
      rw [ht] at h
      simp only at h
      cases hr : doOps s t.ops with
      | none => rw [hr] at h; cases h
      | some r => rw [hr] at h; exact ⟨t, r, rfl, hr, h⟩
  · cases h
theorem goodR_mk {ts : List TxD} {d : List Nat} {s : Sta} {n : Nat} {rest : List Nat} {t : TxD} {r : Sta × List (ByteArray × VD)} (hn : NextOK ts d n) (ht : ts[n]? = some t) (hr : doOps s t.ops = some r) : goodR ts d s (n :: rest) = goodR ts (d ++ [n]) r.1 rest := by
  rw [goodR, if_pos hn, ht]
  simp only
  rw [hr]
/-- No order that begins so fits. -/
def NoneFits (ts : List TxD) (o : List Nat) (s : Sta) : Prop := ∀ rest s2, goodR ts o s rest = some s2 → ¬ Whole ts (o ++ rest)
theorem noneFits_of {ts : List TxD} {o : List Nat} {s : Sta} (hw : ¬ Whole ts o) (h : ∀ i rest s2, i < ts.length → goodR ts o s (i :: rest) = some s2 → ¬ Whole ts (o ++ i :: rest)) : NoneFits ts o s := fun rest s2 hg => by
  cases rest with
  | nil => simpa using hw
  | cons i rest =>
    obtain ⟨_, t, _, ht, _⟩ := goodR_cons hg
    exact h i rest s2 (List.getElem?_eq_some_iff.1 ht).1 hg
/-- Which of two orders is less: by its first numbers that differ; a beginning is less. -/
def lexLe : List Nat → List Nat → Prop
  | [], _ => True
  | _ :: _, [] => False
  | a :: xs, b :: ys => a < b ∨ (a = b ∧ lexLe xs ys)
theorem lexLe_eq : ∀ {a b : List Nat}, lexLe a b → lexLe b a → a = b
  | [], [], _, _ => rfl
  | [], _ :: _, _, h => h.elim
  | _ :: _, [], h, _ => h.elim
  | a :: xs, b :: ys, h, k => by
    rcases h with h | ⟨rfl, h⟩
    · rcases k with k | ⟨k, _⟩ <;> omega
    · rcases k with k | ⟨_, k⟩
      · omega
      · rw [lexLe_eq h k]
/-- Of all that fit, and begin so, this one is the least. -/
def LeastR (ts : List TxD) (o : List Nat) (s : Sta) (rest : List Nat) : Prop := ∀ rest' s2, goodR ts o s rest' = some s2 → Whole ts (o ++ rest') → lexLe rest rest'
def LeastK (ts : List TxD) (o : List Nat) (s : Sta) (k : Nat) (rest : List Nat) : Prop := ∃ r, rest = k :: r ∧ ∀ r' s2, goodR ts o s (k :: r') = some s2 → Whole ts (o ++ k :: r') → lexLe r r'
theorem leastR_of {ts : List TxD} {o : List Nat} {s : Sta} {k : Nat} {rest : List Nat} (hw : ¬ Whole ts o) (h : ∀ i rest s2, i < k → goodR ts o s (i :: rest) = some s2 → ¬ Whole ts (o ++ i :: rest)) (hk : LeastK ts o s k rest) : LeastR ts o s rest := by
  obtain ⟨r, rfl, hk⟩ := hk
  intro rest' s2 hg hwh
  cases rest' with
  | nil => exact absurd (by simpa using hwh) hw
  | cons i r' =>
    by_cases h1 : i < k
    · exact absurd hwh (h i r' s2 h1 hg)
    · by_cases h2 : i = k
      · subst h2; exact .inr ⟨rfl, hk r' s2 hg hwh⟩
      · exact .inl (by omega)
def stores : Nat → Nat
  | 0 => 0
  | r + 1 => 8 * (80 + stores r)
theorem nodup_room {ts : List TxD} {o : List Nat} {k : Nat} (hd : o.Nodup) (hl : ∀ i ∈ o, i < ts.length) (hk : k < ts.length) (hn : k ∉ o) : o.length < ts.length := by
  have h1 : (k :: o).Nodup := List.nodup_cons.2 ⟨hn, hd⟩
  have h2 := List.Nodup.length_le_of_subset h1 (l₂ := List.range ts.length) (fun x hx => by
    rcases List.mem_cons.1 hx with rfl | hx
    · exact List.mem_range.2 hk
    · exact List.mem_range.2 (hl x hx))
  simp at h2
  omega
structure SrchP (w : World) (L g b n : Nat) (tv ov : Value) (ts : List TxD) (o : List Nat) (s : Sta) : Prop where
  blk : Blk w g [tv, ov, .map (some b)] 44
  low : L ≤ g
  row : w.ownsRow L 3 1 ov (ordI o).length ((ordI o).map (Value.int .i64))
  vals : ValsP w b n s
  blow : L ≤ b
  txs : TxsV w L tv ts
theorem SrchP.quiet {w w' : World} {L g b n : Nat} {tv ov : Value} {ts : List TxD} {o : List Nat} {s : Sta} (h : SrchP w L g b n tv ov ts o s) (hm : Mod noBlock w w') : SrchP w' L g b n tv ov ts o s :=
  ⟨h.blk.mod hm id, h.low, own_mod h.row hm (fun _ _ _ _ => id), h.vals.mod hm id, h.blow, h.txs.mod hm (fun _ _ => id)⟩
theorem SrchP.le {w : World} {L g b n : Nat} {tv ov : Value} {ts : List TxD} {o : List Nat} {s : Sta} (h : SrchP w L g b n tv ov ts o s) : L ≤ w.heap.size := Nat.le_of_lt (Nat.lt_of_le_of_lt h.low h.blk.lt)
theorem blk_ne_map {w : World} {g b n : Nat} {cs : List Value} {t : TypeId} {s : Sta} (hb : Blk w g cs t) (hv : ValsP w b n s) : g ≠ b := fun e => by
  obtain ⟨D, ⟨es, clock, h1, _⟩, _⟩ := hv
  simp only [Blk] at hb
  rw [e, h1] at hb
  cases hb
theorem row_ne_map {w : World} {B sz m b n : Nat} {e : TypeId} {v : Value} {xs : List Value} {s : Sta} (ho : w.ownsRow B e sz v m xs) (hv : ValsP w b n s) : v.ownBlock ≠ some b := fun hk => by
  obtain ⟨_, _, cur, h3⟩ := own_cells ho hk
  obtain ⟨D, ⟨es, clock, h1, _⟩, _⟩ := hv
  rw [h1] at h3
  cases h3
/-- What keys have was turned. -/
theorem SrchP.turned {w w' : World} {L g b n n' : Nat} {tv ov : Value} {ts : List TxD} {o : List Nat} {s s' : Sta} (h : SrchP w L g b n tv ov ts o s) (hm : Mod (oneBlock b) w w') (hv : ValsP w' b n' s') : SrchP w' L g b n' tv ov ts o s' :=
  ⟨h.blk.mod hm (fun e => blk_ne_map h.blk h.vals e), h.low, own_mod h.row hm (fun k _ _ hk e => by simp only [oneBlock] at e; subst e; exact row_ne_map h.row h.vals hk), hv, h.blow, h.txs.mod hm (fun k hk e => by simp only [oneBlock] at e; have := h.blow; omega)⟩
theorem SrchP.ints {w : World} {L g b n : Nat} {tv ov : Value} {ts : List TxD} {o : List Nat} {s : Sta} (h : SrchP w L g b n tv ov ts o s) : IntsV w ov (ordI o) := IntsV.of_own h.row
def srchMay (g b : Nat) (ov : Value) (k : Nat) : Prop := k = g ∨ k = b ∨ ov.ownBlock = some k
def MovedS (w : World) (v v' : Value) : Prop := ∀ k, v'.ownBlock = some k → v.ownBlock = some k ∨ w.heap.size ≤ k
theorem MovedS.refl (w : World) (v : Value) : MovedS w v v := fun _ h => .inl h
theorem MovedS.trans {a b : World} {u v v' : Value} (h : MovedS a u v) (k : MovedS b v v') (hz : a.heap.size ≤ b.heap.size) : MovedS a u v' := fun x hx => by
  rcases k x hx with e | e
  · exact h x e
  · exact .inr (Nat.le_trans hz e)
theorem Mod.srch {a c d : World} {g b : Nat} {ov ov1 : Value} (h : Mod (srchMay g b ov) a c) (hmv : MovedS a ov ov1) (k : Mod (srchMay g b ov1) c d) : Mod (srchMay g b ov) a d :=
  h.trans' k (fun i hi e => by
    rcases e with e | e | e
    · exact .inl e
    · exact .inr (.inl e)
    · rcases hmv i e with e | e
      · exact .inr (.inr e)
      · omega)
/-- The order was turned: its row, and where it lies. -/
theorem SrchP.reordered {w w6 : World} {L g b n : Nat} {tv ov ov' : Value} {ts : List TxD} {o o' : List Nat} {s : Sta} (h : SrchP w L g b n tv ov ts o s) (hm6 : Mod (fun x => ov.ownBlock = some x) w w6) (ho : w6.ownsRow L 3 1 ov' (ordI o').length ((ordI o').map (Value.int .i64))) :
    SrchP (w6.setCell ⟨g, 1, none⟩ ov') L g b n tv ov' ts o' s ∧ Mod (srchMay g b ov) w (w6.setCell ⟨g, 1, none⟩ ov') := by
  have hr : ∀ x, ov.ownBlock = some x → L ≤ x := fun x hx => (own_cells h.row hx).1
  have hms : Mod (oneBlock g) w6 (w6.setCell ⟨g, 1, none⟩ ov') := Mod.setBlk g 1 _
  have hb6 := h.blk.mod hm6 (own_ne_blk h.row h.blk (by decide))
  have hv6 := h.vals.mod hm6 (row_ne_map h.row h.vals)
  refine ⟨⟨hb6.set 1 _, h.low, own_mod ho hms (fun k _ _ hk e => ?_), hv6.mod hms (fun e => blk_ne_map hb6 hv6 (show g = b from (show b = g from e).symm)), h.blow, (h.txs.mod hm6 (fun k hk e => by have := hr k e; omega)).mod hms (fun k hk e => by simp only [oneBlock] at e; have := h.low; omega)⟩, ?_⟩
  · simp only [oneBlock] at e
    subst e
    exact own_ne_blk ho hb6 (by decide) hk
  · exact (hm6.mono (fun i _ e => .inr (.inr e))).trans (hms.mono (fun i _ e => .inl e))
/-- A row of numbers, without its last ones. -/
theorem row_cut {w : World} {L : Nat} {a : Option Addr} {m cap k : Nat} {ns : List Int} (h : w.ownsRow L 3 1 (.slice a m cap) ns.length (ns.map (Value.int .i64))) (hk : k ≤ ns.length) : w.ownsRow L 3 1 (.slice a k cap) (ns.take k).length ((ns.take k).map (Value.int .i64)) ∧ k ≤ cap := by
  have hlk : (ns.take k).length = k := by rw [List.length_take]; omega
  obtain ⟨e1, e2⟩ := h
  rcases e2 with ⟨e, hn⟩ | ⟨g, cp, cur, e, q1, q2, q3, q4, q5, q6⟩
  · simp only [Value.slice.injEq] at e
    obtain ⟨rfl, _, rfl⟩ := e
    obtain rfl : k = 0 := by omega
    exact ⟨⟨by simp, .inl ⟨rfl, by simp⟩⟩, Nat.le_refl _⟩
  · simp only [Value.slice.injEq] at e
    obtain ⟨rfl, _, rfl⟩ := e
    refine ⟨⟨by simp, .inr ⟨g, cap, cur, by rw [hlk], q1, q2, by omega, q4, q5, ?_⟩⟩, by omega⟩
    rw [hlk, List.map_take, ← q6, List.take_take]
    congr 1
    omega
theorem SrchP.undo {w w' : World} {L g b n B : Nat} {tv ov uv : Value} {ts : List TxD} {o : List Nat} {s : Sta} {us : List (ByteArray × VD)} (h : SrchP w L g b n tv ov ts o s) (hm : Mod (srchMay g b ov) w w') (hu : UndoP w B uv us) : UndoP w' B uv us :=
  hu.mod hm (fun k hk e => by
    rcases e with e | e | e
    · subst e; exact own_ne_blk hu.1 h.blk (by decide) hk
    · subst e; exact row_ne_map hu.1 h.vals hk
    · obtain ⟨_, _, cur, h3⟩ := own_cells hu.1 hk
      obtain ⟨_, _, cur', h4⟩ := own_cells h.row e
      rw [h3] at h4
      simp at h4)
theorem vundo_any (B b n0 : Nat) (s : Sta) (uv : Value) (us : List (ByteArray × VD)) (w : World) (hv : ValsP w b n0 s) (hu : UndoP w B uv us) (hbB : b < B) (hlen : us.length ≤ 1000000) (hmx : n0 + us.length < maxLen) :
    Calls Tryd.prog 20 #[.map (some b), uv] w fun e w' => e = .returned (.tuple #[]) ∧ ValsP w' b (n0 + us.length) (undoS s us) ∧ Mod (oneBlock b) w w' :=
  (callsIn_wide (n := 3)).1 (undo_in Fence.wide 3 trivial trivial trivial rfl (by omega) B b n0 s uv us w hv hu hbB hlen hmx)
end Go.Proofs.YtefhgakcffhgaabDoor
