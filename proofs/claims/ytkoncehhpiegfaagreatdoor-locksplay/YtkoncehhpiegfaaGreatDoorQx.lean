/- Package locks: a table of one's own. -/
import Derived.Test.YtkoncehhpiegfaaGreatDoorQw2
namespace Go.Proofs.YtkoncehhpiegfaaGreatDoor
open Go.RowKit Go.Lib Go.Maps
set_option linter.unusedVariables false

def bareT : Tab := fun _ => ⟨[], []⟩
/-- A table in a block of its own (tb), all else of it being newer than W. -/
def TabP (W wr : World) (tb N n : Nat) (s : Tab) : Prop := ∃ q : TbM, TbP wr W.heap.size N q s ∧ q.b = tb ∧ q.pre = [] ∧ q.post = [] ∧ q.t = 25 ∧ q.n ≤ n ∧ Mod (oneBlock tb) W wr
theorem TabP.mod {W w w' : World} {tb N n : Nat} {s : Tab} (h : TabP W w tb N n s) (hm : Mod noBlock w w') : TabP W w' tb N n s := by
  obtain ⟨q, h1, h2, h3, h4, h5, h6, h7⟩ := h
  exact ⟨q, h1.mod hm id (fun _ _ => id), h2, h3, h4, h5, h6, h7.trans (hm.mono (fun _ _ e => e.elim))⟩
theorem TabP.md {W w : World} {tb N n : Nat} {s : Tab} (h : TabP W w tb N n s) : Mod (oneBlock tb) W w := by obtain ⟨q, _, _, _, _, _, _, h7⟩ := h; exact h7
theorem TabP.more {W w : World} {tb N N' n n' : Nat} {s : Tab} (h : TabP W w tb N n s) (hN : N ≤ N') (hn : n ≤ n') : TabP W w tb N' n' s := by
  obtain ⟨q, h1, h2, h3, h4, h5, h6, h7⟩ := h
  exact ⟨q, h1.more hN, h2, h3, h4, h5, Nat.le_trans h6 hn, h7⟩
theorem TabP.new {W : World} {tb : Nat} (hb : Blk W tb [.map none] 25) : TabP W W tb 0 0 bareT := by
  refine ⟨⟨tb, [], [], 25, none, 0, fun _ _ => .slice none 0 0⟩, ⟨hb, by show 25 ≠ 61; decide, fun k hk => ⟨fun _ => rfl, rfl, rfl⟩, fun k i hk => .inl rfl, fun k i hk _ => ?_, fun k k' i i' x _ _ h1 _ => by simp [Value.ownBlock] at h1, fun k hk => KeyOK.nil, fun k hk => by simp [bareT]⟩, rfl, rfl, rfl, rfl, Nat.le_refl _, Mod.refl _ _⟩
  cases i <;> exact World.ownsRow_nil _ _ _ _
theorem own_new {W w w' : World} {tb N : Nat} {q : TbM} {s : Tab} (h : TbP w W.heap.size N q s) (hb : q.b = tb) (hm : Mod (oneBlock tb) W w) (hm2 : Mod (fun x => x = q.b ∨ q.own x) w w') : Mod (oneBlock tb) W w' := by
  refine hm.trans' hm2 (fun x hx e => ?_)
  rcases e with e | e
  · exact e.trans hb
  · have := (h.lt e).1; omega
/-- Blocks of cells that are no table, and no claims, stay as they are. -/
def Stays (w w' : World) (tb : Nat) : Prop := ∀ b cs ty, Blk w b cs ty → b ≠ tb → ty ≠ 61 → Blk w' b cs ty
theorem stays_of {w w' : World} {B N : Nat} {q : TbM} {s : Tab} (h : TbP w B N q s) (hm : Mod (fun x => x = q.b ∨ q.own x) w w') : Stays w w' q.b := fun b cs ty hb hne hty => hb.mod hm (fun e => by
  rcases e with e | e | ⟨k, i, hk, e⟩
  · exact hne e
  · obtain ⟨_, D, ⟨es, clock, h1, _⟩, _⟩ := h.map.get e
    unfold Blk at hb
    rw [hb] at h1
    cases h1
  · obtain ⟨_, _, cur, h1⟩ := h.old hk id e
    unfold Blk at hb
    rw [hb] at h1
    simp at h1
    exact hty h1.2)
theorem Stays.trans {a b c : World} {tb : Nat} (h : Stays a b tb) (k : Stays b c tb) : Stays a c tb := fun x cs ty hb hne hty => k x cs ty (h x cs ty hb hne hty) hne hty
theorem Stays.of_mod {a b : World} {tb : Nat} (h : Mod noBlock a b) : Stays a b tb := fun x cs ty hb _ _ => hb.mod h id
theorem Stays.ints {a b : World} {tb B : Nat} {u : Value} {l : List Int} (h : Stays a b tb) (hr : RowI a B u l) (hne : ∀ x, u.ownBlock = some x → x ≠ tb) : RowI b B u l := by
  refine ⟨hr.1, ?_⟩
  rcases hr.2 with hn | ⟨g, cap, cur, rfl, h1, h2, rest⟩
  · exact .inl hn
  · have hb : Blk a g cur.toList 3 := by simpa [Blk] using h2
    have := h g _ _ hb (hne g rfl) (by decide)
    exact .inr ⟨g, cap, cur, rfl, h1, by simpa [Blk] using this, rest⟩
theorem TabP.lock {W w : World} {tb N n : Nat} {s : Tab} (h : TabP W w tb N n s) (t : Int) (name : ByteArray) (m : Int) (hm12 : m = 1 ∨ m = 2) (hn : name.size ≤ 20) (hN : N ≤ 390) (hqn : n ≤ 1000000) :
    Calls Tryz.prog 5 #[.pointer (some ⟨tb, 0, none⟩), .int .i64 t, .string name, .int .i64 m] w fun e w' => ∃ u, e = .returned (.tuple #[.bool (lockN (s name) ⟨t, m⟩).2.1, u, errQ (lockN (s name) ⟨t, m⟩).2.2.2]) ∧ RowI w' w.heap.size u (lockN (s name) ⟨t, m⟩).2.2.1 ∧ TabP W w' tb (N + 1) (n + 1) (updK s name (lockN (s name) ⟨t, m⟩).1) ∧ Stays w w' tb := by
  obtain ⟨q, h1, h2, h3, h4, h5, h6, h7⟩ := h
  have hc := lock_any W.heap.size N q s t name m w h1 hm12 hn hN (by omega) h7.size
  rw [h2, h3] at hc
  refine Calls.mono hc ?_
  rintro e w' ⟨q', u, rfl, hQ⟩
  exact ⟨u, rfl, hQ.wound, ⟨q', hQ.tb, by rw [hQ.b, h2], by rw [hQ.pre, h3], by rw [hQ.post, h4], by rw [hQ.t, h5], by have := hQ.n; omega, own_new h1 h2 h7 hQ.md⟩, by rw [← h2]; exact stays_of h1 hQ.md⟩
theorem TabP.release {W w : World} {tb N n : Nat} {s : Tab} (h : TabP W w tb N n s) (t : Int) (hN : N ≤ 390) (hqn : n ≤ 10000) :
    Calls Tryz.prog 9 #[.pointer (some ⟨tb, 0, none⟩), .int .i64 t] w fun e w' => ∃ gv ks, e = .returned gv ∧ NamesQ s (fun k => atB k t) ks ∧ RowG w' w.heap.size gv (grantsN s t ks) ∧ TabP W w' tb N n (relN s t) ∧ Stays w w' tb := by
  obtain ⟨q, h1, h2, h3, h4, h5, h6, h7⟩ := h
  have hc := release_any W.heap.size N q s t w h1 (by rw [h5]; decide) hN (by omega) h7.size
  rw [h2, h3] at hc
  refine Calls.mono hc ?_
  rintro e w' ⟨gv, q', ks, rfl, hQ⟩
  exact ⟨gv, ks, rfl, hQ.names, hQ.gr, ⟨q', hQ.tb, by rw [hQ.b, h2], by rw [hQ.pre, h3], by rw [hQ.post, h4], by rw [hQ.ty, h5], by have := hQ.n; omega, own_new h1 h2 h7 hQ.md⟩, by rw [← h2]; exact stays_of h1 hQ.md⟩
theorem TabP.holds {W w : World} {tb N n : Nat} {s : Tab} (h : TabP W w tb N n s) (t : Int) (name : ByteArray) (hn : okQ name) (hN : N ≤ 900) :
    Calls Tryz.prog 12 #[.pointer (some ⟨tb, 0, none⟩), .int .i64 t, .string name] w fun e w' => e = .returned (.int .i64 (modeN (s name).held t)) ∧ Mod noBlock w w' := by
  obtain ⟨q, h1, h2, h3, h4, h5, h6, h7⟩ := h
  have hc := holds_any W.heap.size N q s t name w h1 hn hN
  rw [h2, h3] at hc
  exact hc
theorem TabP.waits {W w : World} {tb N n : Nat} {s : Tab} (h : TabP W w tb N n s) (name : ByteArray) (hn : okQ name) (hN : N ≤ 900) :
    Calls Tryz.prog 14 #[.pointer (some ⟨tb, 0, none⟩), .string name] w fun e w' => ∃ u, e = .returned u ∧ RowI w' w.heap.size u ((s name).waits.map (·.tx)) ∧ Mod noBlock w w' := by
  obtain ⟨q, h1, h2, h3, h4, h5, h6, h7⟩ := h
  have hc := waits_any W.heap.size N q s name w h1 hn hN
  rw [h2, h3] at hc
  exact hc
theorem updK_updK0 (s : Tab) (k : ByteArray) (a b : KeyS) : updK (updK s k a) k b = updK s k b := by
  funext y; unfold updK; split <;> rfl
/-! A fact: the elder one wounds. -/
def keyA : ByteArray := ⟨#[97]⟩
theorem okA : okQ keyA := by unfold okQ keyA maxLen; decide
theorem lockA1 : lockN (bareT keyA) ⟨5, 2⟩ = (⟨[⟨5, 2⟩], []⟩, true, [], 0) := by rfl
theorem lockA2 : lockN (updK bareT keyA ⟨[⟨5, 2⟩], []⟩ keyA) ⟨3, 1⟩ = (⟨[⟨5, 2⟩], [⟨3, 1⟩]⟩, false, [5], 0) := by rw [updK_at']; rfl
def tabA : Tab := updK bareT keyA ⟨[⟨5, 2⟩], [⟨3, 1⟩]⟩
theorem namesA {ks : List ByteArray} (h : NamesQ tabA (fun k => atB k 5) ks) : ks = [keyA] := by
  refine sortedQ_same h.1 (by simp) (fun k => ?_)
  rw [h.2 k, List.mem_singleton]
  unfold tabA
  by_cases e : k = keyA
  · subst e
    rw [updK_at']
    refine ⟨fun _ => rfl, fun _ => ⟨okA, by simp [KeyS.bare], by rfl⟩⟩
  · rw [updK_ne' e]
    refine ⟨fun ⟨_, h2, _⟩ => absurd ⟨rfl, rfl⟩ h2, fun e2 => absurd e2 e⟩
theorem grantsA : grantsN tabA 5 [keyA] = [⟨3, keyA, 1⟩] := by
  have : gotN (tabA keyA) 5 = [⟨3, 1⟩] := by unfold tabA; rw [updK_at']; rfl
  simp [grantsN, this, grOf]
theorem heldA : modeN (relN tabA 5 keyA).held 3 = 1 := by unfold relN tabA; rw [updK_at']; rfl
theorem row_at1 {w : World} {B : Nat} {a : Option Addr} {cap : Nat} {x : Int} (h : RowI w B (.slice a 1 cap) [x]) : ∃ b, a = some ⟨b, 0, none⟩ ∧ w.cell? ⟨b, 0, none⟩ = some (.int .i64 x) := by
  rcases h.2 with ⟨e, h0⟩ | ⟨g, c, cur, e, q1, q2, q3, q4, q5, q6⟩
  · simp at h0
  · cases e
    have hh : w.ownsRow B 3 1 (.slice (some ⟨g, 0, none⟩) 1 cap) 1 [.int .i64 x] := h
    have := hh.cells (g := g) rfl 0 _ rfl
    rw [Go.WideShapes.add_plain] at this
    exact ⟨g, rfl, this⟩
theorem rowG_at1 {w : World} {B : Nat} {a : Option Addr} {cap : Nat} {x : GrD} (h : RowG w B (.slice a 1 cap) [x]) : ∃ b, a = some ⟨b, 0, none⟩ ∧ w.cell? ⟨b, 0, none⟩ = some (.int .i64 x.tx) := by
  rcases h.2 with ⟨e, h0⟩ | ⟨g, c, cur, e, q1, q2, q3, q4, q5, q6⟩
  · simp at h0
  · cases e
    have hh : w.ownsRow B 47 3 (.slice (some ⟨g, 0, none⟩) 1 cap) 1 (grsCells [x]) := h
    have := hh.cells (g := g) rfl 0 (.int .i64 x.tx) rfl
    rw [Go.WideShapes.add_plain] at this
    exact ⟨g, rfl, this⟩
end Go.Proofs.YtkoncehhpiegfaaGreatDoor
