/- Package check: what operations do to what keys have, and back. Pure; and a map of values in memory. -/
import Derived.Test.YtefhgakcffhgaabDoorSl
import Derived.Test.YtefhgakcffhgaabDoorKz
import Derived.Maps.OwnSet
import Derived.Maps.AppendAt
import Derived.RegionTactic
import Derived.StringKeys
namespace Go.Proofs.YtefhgakcffhgaabDoor
open Go.RowKit Go.Lib Go.Maps

structure VD where
  text : ByteArray
  there : Bool
  deriving DecidableEq
def zeroVD : VD := ⟨ByteArray.empty, false⟩
abbrev Sta := ByteArray → VD
def updS (s : Sta) (k : ByteArray) (v : VD) : Sta := fun x => if x = k then v else s x
structure OpD where
  kind : Int
  key : ByteArray
  value : ByteArray
  found : Bool
instance : Inhabited OpD := ⟨⟨0, ByteArray.empty, ByteArray.empty, false⟩⟩
structure TxD where
  ops : List OpD
  frm : Int
  til : Int
instance : Inhabited TxD := ⟨⟨[], 0, 0⟩⟩
def toldV (o : OpD) : VD := if o.found then ⟨o.value, true⟩ else zeroVD
/-- One operation: what it leaves, and what to undo; none: what it told is not so. -/
def doOp (s : Sta) (o : OpD) : Option (Sta × List (ByteArray × VD)) :=
  if o.kind = 1 then (if s o.key = toldV o then some (s, []) else none)
  else if o.kind = 2 then some (updS s o.key ⟨o.value, true⟩, [(o.key, s o.key)])
  else if o.kind = 3 then some (updS s o.key zeroVD, [(o.key, s o.key)])
  else some (s, [])
def doOps : Sta → List OpD → Option (Sta × List (ByteArray × VD))
  | s, [] => some (s, [])
  | s, o :: os => match doOp s o with
    | none => none
    | some (s1, u) => match doOps s1 os with
      | none => none
      | some (s2, us) => some (s2, u ++ us)
def undoS (s : Sta) (us : List (ByteArray × VD)) : Sta := us.foldr (fun u s => updS s u.1 u.2) s
theorem updS_back (s : Sta) (k : ByteArray) (v : VD) : updS (updS s k v) k (s k) = s := by
  funext x
  unfold updS
  split
  · rename_i e; rw [e]
  · rfl
theorem doOp_undo {s s1 : Sta} {o : OpD} {u : List (ByteArray × VD)} (h : doOp s o = some (s1, u)) : undoS s1 u = s := by
  unfold doOp at h
  split at h
  · split at h
    · simp at h; obtain ⟨rfl, rfl⟩ := h; rfl
    · cases h
  · split at h
    · simp at h; obtain ⟨rfl, rfl⟩ := h; exact updS_back _ _ _
    · split at h
      · simp at h; obtain ⟨rfl, rfl⟩ := h; exact updS_back _ _ _
      · simp at h; obtain ⟨rfl, rfl⟩ := h; rfl
theorem undoS_app (s : Sta) (us vs : List (ByteArray × VD)) : undoS s (us ++ vs) = undoS (undoS s vs) us := by simp [undoS, List.foldr_append]
theorem doOps_snoc : ∀ (os : List OpD) (s s1 : Sta) (us : List (ByteArray × VD)) (o : OpD), doOps s os = some (s1, us) → doOps s (os ++ [o]) = (doOp s1 o).map (fun r => (r.1, us ++ r.2))
  | [], s, s1, us, o, h => by
    simp [doOps] at h
    obtain ⟨rfl, rfl⟩ := h
    rw [List.nil_append, doOps]
    cases doOp s o with
    | none => rfl
    | some r => simp [doOps]
  | p :: os, s, s1, us, o, h => by
    rw [doOps] at h
    rw [List.cons_append, doOps]
    cases hp : doOp s p with
    | none => rw [hp] at h; cases h
    | some r =>
      rw [hp] at h
      simp only at h ⊢
      cases hq : doOps r.1 os with
      | none => rw [hq] at h; cases h
      | some t =>
        rw [hq] at h
        simp at h
        obtain ⟨rfl, rfl⟩ := h
        rw [doOps_snoc os r.1 t.1 t.2 o hq]
        cases doOp t.1 o with
        | none => rfl
        | some x => simp
theorem doOps_undo : ∀ (os : List OpD) (s s1 : Sta) (us : List (ByteArray × VD)), doOps s os = some (s1, us) → undoS s1 us = s
  | [], s, s1, us, h => by simp [doOps] at h; obtain ⟨rfl, rfl⟩ := h; rfl
  | p :: os, s, s1, us, h => by
    rw [doOps] at h
    cases hp : doOp s p with
    | none => rw [hp] at h; cases h
    | some r =>
      rw [hp] at h
      simp only at h
      cases hq : doOps r.1 os with
      | none => rw [hq] at h; cases h
      | some t =>
        rw [hq] at h
        simp at h
        obtain ⟨rfl, rfl⟩ := h
        rw [undoS_app, doOps_undo os r.1 t.1 t.2 hq]
        exact doOp_undo hp
theorem doOp_len {s s1 : Sta} {o : OpD} {u : List (ByteArray × VD)} (h : doOp s o = some (s1, u)) : u.length ≤ 1 := by
  unfold doOp at h
  split at h
  · split at h
    · simp at h; obtain ⟨_, rfl⟩ := h; simp
    · cases h
  · split at h
    · simp at h; obtain ⟨_, rfl⟩ := h; simp
    · split at h
      · simp at h; obtain ⟨_, rfl⟩ := h; simp
      · simp at h; obtain ⟨_, rfl⟩ := h; simp
theorem doOps_len : ∀ (os : List OpD) (s s1 : Sta) (us : List (ByteArray × VD)), doOps s os = some (s1, us) → us.length ≤ os.length
  | [], s, s1, us, h => by simp [doOps] at h; obtain ⟨_, rfl⟩ := h; simp
  | p :: os, s, s1, us, h => by
    rw [doOps] at h
    cases hp : doOp s p with
    | none => rw [hp] at h; cases h
    | some r =>
      rw [hp] at h
      simp only at h
      cases hq : doOps r.1 os with
      | none => rw [hq] at h; cases h
      | some t =>
        rw [hq] at h
        simp at h
        obtain ⟨_, rfl⟩ := h
        have h1 := doOp_len hp
        have h2 := doOps_len os r.1 t.1 t.2 hq
        simp; omega
/-- A beginning of what fits fits. -/
theorem doOps_take : ∀ (os : List OpD) (s s1 : Sta) (us : List (ByteArray × VD)) (k : Nat), doOps s os = some (s1, us) → ∃ s2 vs, doOps s (os.take k) = some (s2, vs)
  | [], s, s1, us, k, h => ⟨s, [], by simp [doOps]⟩
  | p :: os, s, s1, us, 0, h => ⟨s, [], by simp [doOps]⟩
  | p :: os, s, s1, us, k + 1, h => by
    rw [doOps] at h
    rw [List.take_succ_cons, doOps]
    cases hp : doOp s p with
    | none => rw [hp] at h; cases h
    | some r =>
      rw [hp] at h
      simp only at h ⊢
      cases hq : doOps r.1 os with
      | none => rw [hq] at h; cases h
      | some t =>
        obtain ⟨s2, vs, e⟩ := doOps_take os r.1 t.1 t.2 k hq
        rw [e]
        exact ⟨_, _, rfl⟩

def valV (v : VD) : Value := .agg #[.string v.text, .bool v.there]
def encV (v : VD) : DataW Unit := .agg [.lit (.string v.text.data.toList), .lit (.bool v.there)]
def okVD (v : VD) : Prop := v.text.size ≤ maxLen
def valElem : Value → Option (DataW Unit × List MemPlace)
  | .agg a => match a.toList with
    | [.string s, .bool b] => if s.size ≤ maxLen then some (encV ⟨s, b⟩, []) else none
    | _ => none
  | _ => none
theorem valElem_mk {v : VD} (h : okVD v) : valElem (valV v) = some (encV v, []) := by
  unfold okVD at h
  simp [valElem, valV, h]
theorem valElem_inv {v : Value} {d : DataW Unit} {ps : List MemPlace} (h : valElem v = some (d, ps)) : ∃ x : VD, v = valV x ∧ d = encV x ∧ okVD x := by
  unfold valElem at h
  split at h
  · rename_i a
    split at h
    · rename_i s b ha
      split at h
      · rename_i hs
        simp at h
        refine ⟨⟨s, b⟩, ?_, h.1.symm, hs⟩
        have : a = #[.string s, .bool b] := by rw [← Array.toList_inj]; exact ha
        rw [this]; rfl
      · cases h
    · cases h
  · cases h
theorem bytes_inj {a b : ByteArray} (h : a.data.toList = b.data.toList) : a = b := by
  have : a.data = b.data := Array.toList_inj.1 h
  exact ByteArray.ext this
theorem encV_inj {x y : VD} (h : encV x = encV y) : x = y := by
  obtain ⟨a, b⟩ := x
  obtain ⟨c, d⟩ := y
  simp [encV] at h
  obtain ⟨h1, h2⟩ := h
  have h3 : a = c := bytes_inj (by simpa using h1)
  rw [h3, h2]
theorem okZ : okVD zeroVD := by simp [okVD, zeroVD]
/-- What keys have, as a map. -/
def ValsP (w : World) (b n : Nat) (s : Sta) : Prop := ∃ D : DataW Unit, w.ownsMap Tryd.prog 9 valElem b n D ∧ ∀ k : ByteArray, k.size ≤ maxLen → D.atKey (.string k.data.toList) (encV zeroVD) = encV (s k)
theorem kStr : Keyed Tryd.prog 9 := string_keyed Tryd.underlying9
theorem zeroVal (w : World) : (zeroValue 72).run Tryd.prog w = .ok (valV zeroVD) w := by kernel_rfl
theorem ValsP.mod {G : Nat → Prop} {w w' : World} {b n : Nat} {s : Sta} (h : ValsP w b n s) (hm : Mod G w w') (hG : ¬ G b) : ValsP w' b n s := by
  obtain ⟨D, h1, h2⟩ := h
  have hlt := h1.lt
  obtain ⟨es, clock, hb, r⟩ := h1
  exact ⟨D, ⟨es, clock, (hm.block b hlt hG).trans hb, r⟩, h2⟩
theorem ValsP.ok {w : World} {b n : Nat} {s : Sta} (h : ValsP w b n s) {k : ByteArray} (hk : k.size ≤ maxLen) : (Instr.lookup 42 (.map (some b)) (.string k) false).run Tryd.prog w = .ok (valV (s k)) w ∧ okVD (s k) := by
  obtain ⟨D, h1, h2⟩ := h
  obtain ⟨v, ps, hrun, hv⟩ := h1.lookup kStr Tryd.underlying42 (zeroVal w) (valElem_mk okZ) (Go.WideMaps.keyOf_string_mk Tryd.underlying9 hk)
  obtain ⟨x, rfl, hx, hok⟩ := valElem_inv hv
  rw [h2 k hk] at hx
  have := encV_inj hx
  rw [this]
  exact ⟨hrun, hok⟩
theorem ValsP.put {w' : World} {b n : Nat} {s : Sta} {D : DataW Unit} {k : ByteArray} {v : VD} (hD : IsMap D) (h2 : ∀ k : ByteArray, k.size ≤ maxLen → D.atKey (.string k.data.toList) (encV zeroVD) = encV (s k)) (h : w'.ownsMap Tryd.prog 9 valElem b n (D.put (.string k.data.toList) (encV v))) : ValsP w' b n (updS s k v) := by
  refine ⟨_, h, fun x hx => ?_⟩
  unfold updS
  split
  · rename_i e
    rw [e]
    exact atKey_put_same hD (by simp [WideAt.IsKeyLit]) _ _
  · rename_i e
    rw [atKey_put_other (fun q => e (bytes_inj (by simpa using q)))]
    exact h2 x hx
theorem ValsP.lt {w : World} {b n : Nat} {s : Sta} (h : ValsP w b n s) : b < w.heap.size := by obtain ⟨D, h1, _⟩ := h; exact h1.lt
theorem ValsP.mono {w : World} {b n n' : Nat} {s : Sta} (h : ValsP w b n s) (hn : n ≤ n') : ValsP w b n' s := by obtain ⟨D, h1, h2⟩ := h; exact ⟨D, h1.mono hn, h2⟩
def opR (o : OpD) (cs : List Value) : Prop := cs = [.int .i64 o.kind, .string o.key, .string o.value, .bool o.found] ∧ o.key.size ≤ maxLen ∧ o.value.size ≤ maxLen
def OpsV (w : World) (L : Nat) (v : Value) (os : List OpD) : Prop := SlR w L 4 opR v os
def txR (w : World) (L : Nat) (t : TxD) (cs : List Value) : Prop := ∃ v, cs = [v, .int .i64 t.frm, .int .i64 t.til] ∧ OpsV w L v t.ops ∧ int64 t.frm ∧ int64 t.til
def TxsV (w : World) (L : Nat) (v : Value) (ts : List TxD) : Prop := SlR w L 3 (txR w L) v ts
theorem OpsV.mod {G : Nat → Prop} {w w' : World} {L : Nat} {v : Value} {os : List OpD} (h : OpsV w L v os) (hm : Mod G w w') (hG : ∀ k, k < L → ¬ G k) : OpsV w' L v os := SlR.mod h hm hG (fun _ _ h => h)
theorem TxsV.mod {G : Nat → Prop} {w w' : World} {L : Nat} {v : Value} {ts : List TxD} (h : TxsV w L v ts) (hm : Mod G w w') (hG : ∀ k, k < L → ¬ G k) : TxsV w' L v ts :=
  SlR.mod h hm hG (fun _ _ ⟨v, h1, h2, h3⟩ => ⟨v, h1, h2.mod hm hG, h3⟩)
theorem OpsV.at {w : World} {L : Nat} {a : Option Addr} {n cap : Nat} {os : List OpD} (h : OpsV w L (.slice a n cap) os) {i : Nat} {o : OpD} (hi : os[i]? = some o) :
    ∃ b off, a = some ⟨b, off, none⟩ ∧ b < L ∧ (o.key.size ≤ maxLen ∧ o.value.size ≤ maxLen) ∧ w.cell? ⟨b, off + i * 4, none⟩ = some (.int .i64 o.kind) ∧ w.cell? ⟨b, off + i * 4 + 1, none⟩ = some (.string o.key) ∧ w.cell? ⟨b, off + i * 4 + 2, none⟩ = some (.string o.value) ∧ w.cell? ⟨b, off + i * 4 + 3, none⟩ = some (.bool o.found) := by
  obtain ⟨b, off, cs, h1, h2, ⟨rfl, h3⟩, _, h5⟩ := SlR.at h hi
  exact ⟨b, off, h1, h2, h3, by have := h5 0 _ rfl; simpa using this, h5 1 _ rfl, h5 2 _ rfl, h5 3 _ rfl⟩
theorem TxsV.at {w : World} {L : Nat} {a : Option Addr} {n cap : Nat} {ts : List TxD} (h : TxsV w L (.slice a n cap) ts) {i : Nat} {t : TxD} (hi : ts[i]? = some t) :
    ∃ b off v, a = some ⟨b, off, none⟩ ∧ b < L ∧ OpsV w L v t.ops ∧ (int64 t.frm ∧ int64 t.til) ∧ w.cell? ⟨b, off + i * 3, none⟩ = some v ∧ w.cell? ⟨b, off + i * 3 + 1, none⟩ = some (.int .i64 t.frm) ∧ w.cell? ⟨b, off + i * 3 + 2, none⟩ = some (.int .i64 t.til) := by
  obtain ⟨b, off, cs, h1, h2, ⟨v, rfl, h3, h4⟩, _, h5⟩ := SlR.at h hi
  exact ⟨b, off, v, h1, h2, h3, h4, by have := h5 0 _ rfl; simpa using this, h5 1 _ rfl, h5 2 _ rfl⟩
end Go.Proofs.YtefhgakcffhgaabDoor
