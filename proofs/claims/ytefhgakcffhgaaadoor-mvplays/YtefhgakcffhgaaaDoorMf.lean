/- Package mv: the store in memory; Get, Low. -/
import Derived.Test.YtefhgakcffhgaaaDoorMe
import Derived.Maps.StringElems
import Derived.Maps.RangeWalk
namespace Go.Proofs.YtefhgakcffhgaaaDoor
open Go.RowKit Go.Lib Go.Maps
set_option linter.unusedVariables false

def okK (k : ByteArray) : Prop := k.size ≤ maxLen
/-- A slice's header, as an element of a map. -/
def hdrElem : Value → Option (DataW Unit × List MemPlace)
  | .slice none n c => if n = 0 ∧ c = 0 then some (.nil, []) else none
  | .slice (some a) n c => if a.off = 0 ∧ a.spot = none then some (.agg [.lit (.int .i64 a.block), .lit (.int .i64 n), .lit (.int .i64 c)], []) else none
  | _ => none
def encH (v : Value) : DataW Unit := ((hdrElem v).map (·.1)).getD .nil
def IsHdr (v : Value) : Prop := v = .slice none 0 0 ∨ ∃ g n c, v = .slice (some ⟨g, 0, none⟩) n c
theorem hdr_mk {v : Value} (h : IsHdr v) : hdrElem v = some (encH v, []) := by
  rcases h with rfl | ⟨g, n, c, rfl⟩ <;> simp [hdrElem, encH]
theorem hdr_inv {v : Value} {y : DataW Unit × List MemPlace} (h : hdrElem v = some y) : IsHdr v ∧ y.1 = encH v := by
  have hh : IsHdr v := by
    unfold hdrElem at h
    split at h
    · rename_i n c
      split at h
      · rename_i e; obtain ⟨rfl, rfl⟩ := e; exact .inl rfl
      · cases h
    · rename_i a n c
      split at h
      · rename_i e
        obtain ⟨b, o, s⟩ := a
        simp at e
        obtain ⟨rfl, rfl⟩ := e
        exact .inr ⟨b, n, c, rfl⟩
      · cases h
    · cases h
  refine ⟨hh, ?_⟩
  rw [hdr_mk hh] at h
  cases h
  rfl
theorem encH_inj {v u : Value} (hv : IsHdr v) (hu : IsHdr u) (h : encH v = encH u) : v = u := by
  rcases hv with rfl | ⟨g, n, c, rfl⟩ <;> rcases hu with rfl | ⟨g', n', c', rfl⟩
  · rfl
  · simp [encH, hdrElem] at h
  · simp [encH, hdrElem] at h
  · simp [encH, hdrElem] at h
    obtain ⟨h1, h2, h3⟩ := h
    have : g = g' := by omega
    have : n = n' := by omega
    have : c = c' := by omega
    subst_vars
    rfl
theorem own_hdr {w : World} {B : Nat} {e : TypeId} {sz : Nat} {v : Value} {n : Nat} {xs : List Value} (h : w.ownsRow B e sz v n xs) : IsHdr v := by
  rcases h.2 with ⟨rfl, _⟩ | ⟨g, cap, cur, rfl, _⟩
  · exact .inl rfl
  · exact .inr ⟨g, n, cap, rfl⟩
theorem bytes_inj {a b : ByteArray} (h : a.data.toList = b.data.toList) : a = b := by
  cases a; cases b; simp at h; simp; exact h
/-- Where a store lies. -/
structure StM where
  b : Nat
  low : Int
  m : Option Nat
  n : Nat
  hd : ByteArray → Value
/-- The blocks that are its own. -/
def StM.own (q : StM) (x : Nat) : Prop := x = q.b ∨ q.m = some x ∨ ∃ k, okK k ∧ (q.hd k).ownBlock = some x
abbrev Vers := ByteArray → List VerD
def keyL (k : ByteArray) : Lit := .string k.data.toList
theorem keyL_inj {a b : ByteArray} (h : keyL a = keyL b) : a = b := bytes_inj (by simpa [keyL] using h)
/-- The store's map. -/
def MapP (w : World) (B : Nat) (m : Option Nat) (n : Nat) (hd : ByteArray → Value) (s : Vers) : Prop := match m with
  | none => ∀ k, okK k → hd k = .slice none 0 0 ∧ s k = []
  | some g => B ≤ g ∧ ∃ D, w.ownsMap Tryd.prog 9 hdrElem g n D ∧ ∀ k, okK k → D.atKey (keyL k) .nil = encH (hd k) ∧ (Maps.has D (keyL k) = true ↔ s k ≠ [])
structure StP (w : World) (B : Nat) (q : StM) (s : Vers) : Prop where
  blk : Blk w q.b [.int .i64 q.low, .map q.m] 81
  base : B ≤ q.b
  map : MapP w B q.m q.n q.hd s
  rows : ∀ k, okK k → RowV w B (q.hd k) (s k)
  apart : ∀ k k' x, okK k → okK k' → (q.hd k).ownBlock = some x → (q.hd k').ownBlock = some x → k = k'
  rise : ∀ k, okK k → Rising (s k)
  few : ∀ k, okK k → (s k).length ≤ 900
theorem MapP.mod {G : Nat → Prop} {w w' : World} {B : Nat} {m : Option Nat} {n : Nat} {hd : ByteArray → Value} {s : Vers} (h : MapP w B m n hd s) (hm : Mod G w w') (hG : ∀ x, m = some x → ¬ G x) : MapP w' B m n hd s := by
  cases m with
  | none => exact h
  | some g =>
    obtain ⟨h0, D, h1, h2⟩ := h
    have hlt := h1.lt
    obtain ⟨es, clock, hb, r⟩ := h1
    exact ⟨h0, D, ⟨es, clock, (hm.block g hlt (hG g rfl)).trans hb, r⟩, h2⟩
theorem StP.mod {G : Nat → Prop} {w w' : World} {B : Nat} {q : StM} {s : Vers} (h : StP w B q s) (hm : Mod G w w') (hG : ∀ x, q.own x → ¬ G x) : StP w' B q s :=
  ⟨h.blk.mod hm (hG _ (.inl rfl)), h.base, h.map.mod hm (fun x hx => hG x (.inr (.inl hx))), fun k hk => (h.rows k hk).mod hm (fun x hx => hG x (.inr (.inr ⟨k, hk, hx⟩))), h.apart, h.rise, h.few⟩
theorem StP.lt {w : World} {B : Nat} {q : StM} {s : Vers} (h : StP w B q s) {x : Nat} (hx : q.own x) : B ≤ x ∧ x < w.heap.size := by
  rcases hx with rfl | hx | ⟨k, hk, hx⟩
  · exact ⟨h.base, h.blk.lt⟩
  · have := h.map
    rw [hx] at this
    obtain ⟨h0, D, h1, _⟩ := this
    exact ⟨h0, h1.lt⟩
  · have := own_cellsV (h.rows k hk).1 hx
    exact ⟨this.1, this.2.1⟩
/-- A row of versions is no other block of the store's. -/
theorem StP.row_ne {w : World} {B : Nat} {q : StM} {s : Vers} (h : StP w B q s) {k : ByteArray} (hk : okK k) {x : Nat} (hx : (q.hd k).ownBlock = some x) : x ≠ q.b ∧ q.m ≠ some x := by
  obtain ⟨_, _, cur, hc⟩ := own_cellsV (h.rows k hk).1 hx
  refine ⟨fun e => ?_, fun e => ?_⟩
  · subst e
    have := h.blk
    unfold Blk at this
    rw [hc] at this
    simp at this
  · have hm := h.map
    rw [e] at hm
    obtain ⟨_, D, ⟨es, clock, hb, _⟩, _⟩ := hm
    rw [hc] at hb
    cases hb
theorem StP.map_ne {w : World} {B : Nat} {q : StM} {s : Vers} (h : StP w B q s) : q.m ≠ some q.b := fun e => by
  have hm := h.map
  rw [e] at hm
  obtain ⟨_, D, ⟨es, clock, hb, _⟩, _⟩ := hm
  have := h.blk
  unfold Blk at this
  rw [this] at hb
  cases hb
theorem kStr : Keyed Tryd.prog 9 := string_keyed Tryd.underlying9
theorem zeroHdr (w : World) : (zeroValue 159).run Tryd.prog w = .ok (.slice none 0 0) w := by kernel_rfl
theorem lookNil (k : ByteArray) (w : World) : (Instr.lookup 79 (.map none) (.string k) false).run Tryd.prog w = .ok (.slice none 0 0) w := by kernel_rfl
theorem StP.look {w : World} {B : Nat} {q : StM} {s : Vers} (h : StP w B q s) {k : ByteArray} (hk : okK k) : (Instr.lookup 79 (.map q.m) (.string k) false).run Tryd.prog w = .ok (q.hd k) w := by
  have hm := h.map
  have hh := own_hdr (h.rows k hk).1
  cases hq : q.m with
  | none =>
    rw [hq] at hm
    rw [(hm k hk).1]
    exact lookNil k w
  | some g =>
    rw [hq] at hm
    obtain ⟨_, D, h1, h2⟩ := hm
    obtain ⟨v, ps, hrun, hv⟩ := h1.lookup kStr Tryd.underlying79 (zeroHdr w) (zd := .nil) (zp := []) rfl (Go.WideMaps.keyOf_string_mk Tryd.underlying9 hk)
    obtain ⟨e1, e2⟩ := hdr_inv hv
    have e3 : encH v = encH (q.hd k) := by rw [← e2]; exact (h2 k hk).1
    rw [encH_inj e1 hh e3] at hrun
    exact hrun
/-- What is told of a key. -/
theorem StP.vers {w : World} {B : Nat} {q : StM} {s : Vers} (h : StP w B q s) {k : ByteArray} (hk : okK k) : VersV w w.heap.size (q.hd k) (s k) := (h.rows k hk).toV (Nat.le_refl _)
theorem low_any (q : StM) (B : Nat) (s : Vers) (w : World) (h : StP w B q s) :
    Calls Tryd.prog 48 #[.pointer (some ⟨q.b, 0, none⟩)] w fun e w' => e = .returned (.int .i64 q.low) ∧ w' = w := by
  have c0 := h.blk.cell 0 rfl
  have z0 := h.blk.lt
  clear h
  go_enter Tryd.func48, Tryd.ntmps48
  go_wp2_with fail
  go_ret
  exact ⟨rfl, rfl⟩
set_option maxRecDepth 100000 in
theorem get_yes (q : StM) (B : Nat) (s : Vers) (k : ByteArray) (t : Int) (w : World) (h : StP w B q s) (hk : okK k) (ht : q.low ≤ t) :
    Calls Tryd.prog 43 #[.pointer (some ⟨q.b, 0, none⟩), .string k, .int .i64 t] w fun e w' => e = .returned (.tuple #[.string ((toldO (s k) t).getD ByteArray.empty), .bool (toldO (s k) t).isSome, .nilIface]) ∧ Mod noBlock w w' := by
  have c0 := h.blk.cell 0 rfl
  have c1 := h.blk.cell 1 rfl
  have z0 := h.blk.lt
  have hlook := h.look hk
  have HT := Hid.mk'' (told_any w.heap.size (q.hd k) (s k) t w (h.vers hk) (Nat.le_refl _) (h.rise k hk) (by have := h.few k hk; omega))
  obtain ⟨a, cap, hd⟩ := own_slice (h.rows k hk).1
  rw [hd] at hlook HT
  have hd0 : decide (t < q.low) = false := decide_eq_false (by omega)
  clear h
  go_enter Tryd.func43, Tryd.ntmps43
  go_wp2_with fail
  refine HT.out.mono ?_
  rintro e w5 ⟨rfl, hm5⟩
  go_wp2_with fail
  go_ret3
  exact ⟨rfl, hm5⟩
theorem get_no (q : StM) (B : Nat) (s : Vers) (k : ByteArray) (t : Int) (w : World) (h : StP w B q s) (ht : t < q.low) :
    Calls Tryd.prog 43 #[.pointer (some ⟨q.b, 0, none⟩), .string k, .int .i64 t] w fun e w' => e = .returned (.tuple #[.string ByteArray.empty, .bool false, .iface 29 (.int .i64 8)]) ∧ w' = w := by
  have c0 := h.blk.cell 0 rfl
  have z0 := h.blk.lt
  have hd0 : decide (t < q.low) = true := decide_eq_true ht
  clear h
  go_enter Tryd.func43, Tryd.ntmps43
  go_wp2_with fail
  go_ret3
  exact ⟨rfl, rfl⟩
end Go.Proofs.YtefhgakcffhgaaaDoor
