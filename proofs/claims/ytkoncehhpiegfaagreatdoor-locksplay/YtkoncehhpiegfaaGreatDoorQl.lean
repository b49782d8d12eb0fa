/- Package locks: the table in memory. -/
import Derived.Test.YtkoncehhpiegfaaGreatDoorQk
import Derived.Maps.StringElems
import Derived.Maps.RangeWalk
namespace Go.Proofs.YtkoncehhpiegfaaGreatDoor
open Go.RowKit Go.Lib Go.Maps
set_option linter.unusedVariables false

def okQ (k : ByteArray) : Prop := k.size ≤ maxLen
/-- A slice's header, as a part of a map's element. -/
def hdrQ : Value → Option (DataW Unit)
  | .slice none n c => if n = 0 ∧ c = 0 then some .nil else none
  | .slice (some a) n c => if a.off = 0 ∧ a.spot = none then some (.agg [.lit (.int .i64 a.block), .lit (.int .i64 n), .lit (.int .i64 c)]) else none
  | _ => none
def encQ (v : Value) : DataW Unit := (hdrQ v).getD .nil
def IsHdrQ (v : Value) : Prop := v = .slice none 0 0 ∨ ∃ g n c, v = .slice (some ⟨g, 0, none⟩) n c
theorem hdrQ_mk {v : Value} (h : IsHdrQ v) : hdrQ v = some (encQ v) := by
  rcases h with rfl | ⟨g, n, c, rfl⟩ <;> simp [hdrQ, encQ]
theorem hdrQ_inv {v : Value} {y : DataW Unit} (h : hdrQ v = some y) : IsHdrQ v ∧ y = encQ v := by
  have hh : IsHdrQ v := by
    unfold hdrQ at h
    split at h
    · rename_i n c
      split at h
      · rename_i e; obtain ⟨rfl, rfl⟩ := e; exact .inl rfl
      · cases h
    · rename_i a n c
      split at h
      · rename_i e
        obtain ⟨b, o, s⟩ := a
        simp at e
        obtain ⟨rfl, rfl⟩ := e
        exact .inr ⟨b, n, c, rfl⟩
      · cases h
    · cases h
  refine ⟨hh, ?_⟩
  rw [hdrQ_mk hh] at h
  cases h
  rfl
theorem encQ_inj {v u : Value} (hv : IsHdrQ v) (hu : IsHdrQ u) (h : encQ v = encQ u) : v = u := by
  rcases hv with rfl | ⟨g, n, c, rfl⟩ <;> rcases hu with rfl | ⟨g', n', c', rfl⟩
  · rfl
  · simp [encQ, hdrQ] at h
  · simp [encQ, hdrQ] at h
  · simp [encQ, hdrQ] at h
    obtain ⟨h1, h2, h3⟩ := h
    have : g = g' := by omega
    have : n = n' := by omega
    have : c = c' := by omega
    subst_vars
    rfl
theorem own_hdrQ {w : World} {B : Nat} {e : TypeId} {sz : Nat} {v : Value} {n : Nat} {xs : List Value} (h : w.ownsRow B e sz v n xs) : IsHdrQ v := by
  rcases h.2 with ⟨rfl, _⟩ | ⟨g, cap, cur, rfl, _⟩
  · exact .inl rfl
  · exact .inr ⟨g, n, cap, rfl⟩
/-- A key, as an element of the map. -/
def elemQ : Value → Option (DataW Unit × List MemPlace)
  | .agg xs => match xs.toList with
    | [h, v] => match hdrQ h, hdrQ v with
      | some a, some b => some (.agg [a, b], [])
      | _, _ => none
    | _ => none
  | _ => none
def encK (h v : Value) : DataW Unit := .agg [encQ h, encQ v]
def zeroK : DataW Unit := .agg [.nil, .nil]
theorem elemQ_mk {h v : Value} (hh : IsHdrQ h) (hv : IsHdrQ v) : elemQ (.agg #[h, v]) = some (encK h v, []) := by
  simp [elemQ, hdrQ_mk hh, hdrQ_mk hv, encK]
theorem elemQ_inv {x : Value} {y : DataW Unit × List MemPlace} (h : elemQ x = some y) : ∃ a b, x = .agg #[a, b] ∧ IsHdrQ a ∧ IsHdrQ b ∧ y.1 = encK a b := by
  unfold elemQ at h
  split at h
  · rename_i xs
    split at h
    · rename_i a b e
      split at h
      · rename_i p q ha hb
        obtain ⟨h1, rfl⟩ := hdrQ_inv ha
        obtain ⟨h2, rfl⟩ := hdrQ_inv hb
        cases h
        refine ⟨a, b, ?_, h1, h2, rfl⟩
        have : xs = #[a, b] := by apply Array.ext'; simpa using e
        rw [this]
      · cases h
    · cases h
  · cases h
theorem encK_inj {h v h' v' : Value} (a : IsHdrQ h) (b : IsHdrQ v) (a' : IsHdrQ h') (b' : IsHdrQ v') (e : encK h v = encK h' v') : h = h' ∧ v = v' := by
  simp [encK] at e
  exact ⟨encQ_inj a a' e.1, encQ_inj b b' e.2⟩
theorem bytesQ_inj {a b : ByteArray} (h : a.data.toList = b.data.toList) : a = b := by
  cases a; cases b; simp at h; simp; exact h
def keyQ (k : ByteArray) : Lit := .string k.data.toList
theorem keyQ_inj {a b : ByteArray} (h : keyQ a = keyQ b) : a = b := bytesQ_inj (by simpa [keyQ] using h)
theorem keyQ_lit (k : ByteArray) : WideAt.IsKeyLit (keyQ k) := by simp [WideAt.IsKeyLit, keyQ]
/-- Where a table lies: a field of a block. -/
structure TbM where
  b : Nat
  pre : List Value
  post : List Value
  t : TypeId
  m : Option Nat
  n : Nat
  hd : ByteArray → Bool → Value
/-- The blocks that are its own. -/
def TbM.own (q : TbM) (x : Nat) : Prop := q.m = some x ∨ ∃ k i, okQ k ∧ (q.hd k i).ownBlock = some x
def KeyS.list (k : KeyS) (i : Bool) : List ClmD := if i then k.held else k.waits
/-- The table's map. -/
def MapQ (w : World) (B : Nat) (m : Option Nat) (n : Nat) (hd : ByteArray → Bool → Value) (s : Tab) : Prop := match m with
  | none => ∀ k, okQ k → (∀ i, hd k i = .slice none 0 0) ∧ (s k).bare
  | some g => B ≤ g ∧ ∃ D, w.ownsMap Tryz.prog 9 elemQ g n D ∧ ∀ k, okQ k → D.atKey (keyQ k) zeroK = encK (hd k true) (hd k false) ∧ (Maps.has D (keyQ k) = true ↔ ¬ (s k).bare)
/-- All but what a key's rows hold. -/
structure TbX (w : World) (B N : Nat) (q : TbM) (s : Tab) (no : ByteArray → Prop) : Prop where
  blk : Blk w q.b (q.pre ++ .map q.m :: q.post) q.t
  bt : q.t ≠ 61
  map : MapQ w B q.m q.n q.hd s
  hdr : ∀ k i, okQ k → IsHdrQ (q.hd k i)
  rows : ∀ k i, okQ k → ¬ no k → RowK w B (q.hd k i) ((s k).list i)
  apart : ∀ k k' i i' x, okQ k → okQ k' → (q.hd k i).ownBlock = some x → (q.hd k' i').ownBlock = some x → k = k' ∧ i = i'
  ok : ∀ k, okQ k → KeyOK (s k)
  few : ∀ k, okQ k → (s k).held.length + (s k).waits.length ≤ N
def noKey (_ : ByteArray) : Prop := False
/-- The table. -/
abbrev TbP (w : World) (B N : Nat) (q : TbM) (s : Tab) : Prop := TbX w B N q s noKey
theorem MapQ.mod {G : Nat → Prop} {w w' : World} {B : Nat} {m : Option Nat} {n : Nat} {hd : ByteArray → Bool → Value} {s : Tab} (h : MapQ w B m n hd s) (hm : Mod G w w') (hG : ∀ x, m = some x → ¬ G x) : MapQ w' B m n hd s := by
  cases m with
  | none => exact h
  | some g =>
    obtain ⟨h0, D, h1, h2⟩ := h
    have hlt := h1.lt
    obtain ⟨es, clock, hb, r⟩ := h1
    exact ⟨h0, D, ⟨es, clock, (hm.block g hlt (hG g rfl)).trans hb, r⟩, h2⟩
theorem TbX.mod {G : Nat → Prop} {w w' : World} {B N : Nat} {q : TbM} {s : Tab} {no : ByteArray → Prop} (h : TbX w B N q s no) (hm : Mod G w w') (hb : ¬ G q.b) (hG : ∀ x, q.own x → ¬ G x) : TbX w' B N q s no :=
  ⟨h.blk.mod hm hb, h.bt, h.map.mod hm (fun x hx => hG x (.inl hx)), h.hdr, fun k i hk hn => (h.rows k i hk hn).mod hm (fun x hx => hG x (.inr ⟨k, i, hk, hx⟩)), h.apart, h.ok, h.few⟩
theorem TbX.old {w : World} {B N : Nat} {q : TbM} {s : Tab} {no : ByteArray → Prop} (h : TbX w B N q s no) {k : ByteArray} {i : Bool} {x : Nat} (hk : okQ k) (hno : ¬ no k) (hx : (q.hd k i).ownBlock = some x) : B ≤ x ∧ x < w.heap.size ∧ ∃ cur, w.heap[x]? = some (.cells cur 61 (0, 0)) := own_cellsVQ (h.rows k i hk hno) hx
theorem TbX.lt {w : World} {B N : Nat} {q : TbM} {s : Tab} (h : TbP w B N q s) {x : Nat} (hx : q.own x) : B ≤ x ∧ x < w.heap.size := by
  rcases hx with hx | ⟨k, i, hk, hx⟩
  · have := h.map
    rw [hx] at this
    obtain ⟨h0, D, h1, _⟩ := this
    exact ⟨h0, h1.lt⟩
  · have := h.old hk id hx
    exact ⟨this.1, this.2.1⟩
theorem TbX.row_ne {w : World} {B N : Nat} {q : TbM} {s : Tab} {no : ByteArray → Prop} (h : TbX w B N q s no) {k : ByteArray} {i : Bool} (hk : okQ k) (hno : ¬ no k) {x : Nat} (hx : (q.hd k i).ownBlock = some x) : x ≠ q.b ∧ q.m ≠ some x := by
  obtain ⟨_, _, cur, hc⟩ := h.old hk hno hx
  refine ⟨fun e => ?_, fun e => ?_⟩
  · subst e
    have := h.blk
    unfold Blk at this
    rw [hc] at this
    simp at this
    exact h.bt this.2.symm
  · have hm := h.map
    rw [e] at hm
    obtain ⟨_, D, ⟨es, clock, hb, _⟩, _⟩ := hm
    rw [hc] at hb
    cases hb
theorem TbX.map_ne {w : World} {B N : Nat} {q : TbM} {s : Tab} {no : ByteArray → Prop} (h : TbX w B N q s no) : q.m ≠ some q.b := fun e => by
  have hm := h.map
  rw [e] at hm
  obtain ⟨_, D, ⟨es, clock, hb, _⟩, _⟩ := hm
  have := h.blk
  unfold Blk at this
  rw [this] at hb
  cases hb
theorem TbX.own_ne {w : World} {B N : Nat} {q : TbM} {s : Tab} (h : TbP w B N q s) {x : Nat} (hx : q.own x) : x ≠ q.b := by
  rcases hx with hx | ⟨k, i, hk, hx⟩
  · intro e; exact h.map_ne (by rw [hx, e])
  · exact (h.row_ne hk id hx).1
theorem TbX.cell {w : World} {B N : Nat} {q : TbM} {s : Tab} {no : ByteArray → Prop} (h : TbX w B N q s no) : w.cell? ⟨q.b, q.pre.length, none⟩ = some (.map q.m) := h.blk.cell _ (by simp)
theorem kStrQ : Keyed Tryz.prog 9 := string_keyed Tryz.underlying9
theorem zeroKeyV (w : World) : (zeroValue 59).run Tryz.prog w = .ok (.agg #[.slice none 0 0, .slice none 0 0]) w := by kernel_rfl
theorem lookNilQ (k : ByteArray) (w : World) : (Instr.lookup 23 (.map none) (.string k) false).run Tryz.prog w = .ok (.agg #[.slice none 0 0, .slice none 0 0]) w := by kernel_rfl
theorem TbX.look {w : World} {B N : Nat} {q : TbM} {s : Tab} {no : ByteArray → Prop} (h : TbX w B N q s no) {k : ByteArray} (hk : okQ k) : (Instr.lookup 23 (.map q.m) (.string k) false).run Tryz.prog w = .ok (.agg #[q.hd k true, q.hd k false]) w := by
  have hm := h.map
  cases hq : q.m with
  | none =>
    rw [hq] at hm
    rw [(hm k hk).1 true, (hm k hk).1 false]
    exact lookNilQ k w
  | some g =>
    rw [hq] at hm
    obtain ⟨_, D, h1, h2⟩ := hm
    obtain ⟨v, ps, hrun, hv⟩ := h1.lookup kStrQ Tryz.underlying23 (zeroKeyV w) (zd := zeroK) (zp := []) (elemQ_mk (.inl rfl) (.inl rfl)) (Go.WideMaps.keyOf_string_mk Tryz.underlying9 hk)
    obtain ⟨a, b, rfl, e1, e2, e3⟩ := elemQ_inv hv
    have e4 : encK a b = encK (q.hd k true) (q.hd k false) := by rw [← e3]; exact (h2 k hk).1
    obtain ⟨rfl, rfl⟩ := encK_inj e1 e2 (h.hdr k true hk) (h.hdr k false hk) e4
    exact hrun
/-- The table without looking at one key. -/
theorem TbX.less {w : World} {B N : Nat} {q : TbM} {s : Tab} (h : TbP w B N q s) (no : ByteArray → Prop) : TbX w B N q s no :=
  ⟨h.blk, h.bt, h.map, h.hdr, fun k i hk _ => h.rows k i hk id, h.apart, h.ok, h.few⟩
/-- Changes to a key's own rows do not matter to the others. -/
theorem TbX.turn {w w' : World} {B N : Nat} {q : TbM} {s : Tab} {name : ByteArray} {G : Nat → Prop} (h : TbX w B N q s (· = name)) (hm : Mod G w w') (hb : ¬ G q.b) (hmm : ∀ x, q.m = some x → ¬ G x) (hG : ∀ k i x, okQ k → k ≠ name → (q.hd k i).ownBlock = some x → ¬ G x) : TbX w' B N q s (· = name) :=
  ⟨h.blk.mod hm hb, h.bt, h.map.mod hm hmm, h.hdr, fun k i hk hno => (h.rows k i hk hno).mod hm (fun x hx => hG k i x hk hno hx), h.apart, h.ok, h.few⟩
end Go.Proofs.YtkoncehhpiegfaaGreatDoor
