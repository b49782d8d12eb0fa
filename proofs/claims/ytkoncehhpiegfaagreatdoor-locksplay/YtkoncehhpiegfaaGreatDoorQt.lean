/- Package locks: keys in order: named, of, Keys. -/
import Derived.Test.YtkoncehhpiegfaaGreatDoorQo2
import Derived.Test.YtkoncehhpiegfaaGreatDoorQslp
namespace Go.Proofs.YtkoncehhpiegfaaGreatDoor
open Go.RowKit Go.Lib Go.Maps Go.Sort Go.Shelf
set_option linter.unusedVariables false

theorem Mod.growsQ {w w' : World} (h : Mod noBlock w w') : w.grownBy w' none := ⟨h.os, h.tape, h.output, h.size, fun k hk _ => h.block k hk id⟩
def ltQ (a b : ByteArray) : Prop := a.data.toList < b.data.toList
theorem ltQ_irrefl (a : ByteArray) : ¬ ltQ a a := List.lt_irrefl _
theorem ltQ_trans {a b c : ByteArray} (h1 : ltQ a b) (h2 : ltQ b c) : ltQ a c := List.lt_trans h1 h2
theorem msQ_rising (ss : List (List UInt8)) (hn : ss.Nodup) : (ss.mergeSort fun x y => decide (x ≤ y)).Pairwise (· < ·) := by
  have hp : (ss.mergeSort fun x y => decide (x ≤ y)).Perm ss := List.mergeSort_perm _ _
  have hs : (ss.mergeSort fun x y => decide (x ≤ y)).Pairwise fun x y => decide (x ≤ y) = true :=
    List.pairwise_mergeSort (fun a b c h1 h2 => by simp only [decide_eq_true_iff] at *; exact List.le_trans h1 h2) (fun a b => by simp only [Bool.or_eq_true, decide_eq_true_iff]; exact List.le_total a b) ss
  have hnd : (ss.mergeSort fun x y => decide (x ≤ y)).Nodup := hp.nodup_iff.2 hn
  refine List.Pairwise.imp₂ ?_ hs hnd
  intro a b h1 h2
  simp only [decide_eq_true_iff] at h1
  exact Classical.byContradiction fun n => h2 (List.le_antisymm h1 (List.not_lt.1 n))
/-- Keys in order of the same members are the same. -/
theorem sortedQ_same : ∀ {a b : List ByteArray}, a.Pairwise ltQ → b.Pairwise ltQ → (∀ x, x ∈ a ↔ x ∈ b) → a = b
  | [], [], _, _, _ => rfl
  | [], y :: b, _, _, h => by have := (h y).2 (by simp); simp at this
  | x :: a, [], _, _, h => by have := (h x).1 (by simp); simp at this
  | x :: a, y :: b, h1, h2, h => by
    have e : x = y := by
      rcases List.mem_cons.1 ((h x).1 (by simp)) with e | e
      · exact e
      · rcases List.mem_cons.1 ((h y).2 (by simp)) with q | q
        · exact q.symm
        · have h3 := List.rel_of_pairwise_cons h2 e
          have h4 := List.rel_of_pairwise_cons h1 q
          exact absurd (ltQ_trans h3 h4) (ltQ_irrefl _)
    subst e
    rw [sortedQ_same (List.Pairwise.of_cons h1) (List.Pairwise.of_cons h2) (fun z => ?_)]
    constructor
    · intro hz
      rcases List.mem_cons.1 ((h z).1 (List.mem_cons_of_mem _ hz)) with e | e
      · have := List.rel_of_pairwise_cons h1 hz; rw [e] at this; exact absurd this (ltQ_irrefl _)
      · exact e
    · intro hz
      rcases List.mem_cons.1 ((h z).2 (List.mem_cons_of_mem _ hz)) with e | e
      · have := List.rel_of_pairwise_cons h2 hz; rw [e] at this; exact absurd this (ltQ_irrefl _)
      · exact e
/-- Keys in a row of one's own. -/
def RowS (w : World) (B : Nat) (v : Value) (ks : List ByteArray) : Prop := w.ownsRow B 9 1 v ks.length (ks.map Value.string)
theorem RowS.mod {G : Nat → Prop} {w w' : World} {B : Nat} {v : Value} {os : List ByteArray} (h : RowS w B v os) (hm : Mod G w w') (hG : ∀ k, v.ownBlock = some k → ¬ G k) : RowS w' B v os := own_mod h hm (fun k _ _ e => hG k e)
theorem holdsQ {w : World} {B g cap : Nat} {ks : List ByteArray} (h : w.ownsRow B 9 1 (.slice (some ⟨g, 0, none⟩) ks.length cap) ks.length (ks.map Value.string)) : Holds encStr w g 0 (ks.map fun k => k.data.toList).toArray := by
  intro j hj
  simp only [List.size_toArray, List.length_map] at hj
  have h1 := h.cells (g := g) rfl j (.string ks[j]) (by rw [List.getElem?_map, List.getElem?_eq_getElem hj]; rfl)
  rw [Go.WideShapes.add_plain] at h1
  obtain ⟨_, _, cur, hc⟩ := own_cellsVQ h (k := g) rfl
  refine ⟨?_, by simp [World.frozen?, hc]⟩
  rw [h1, getElem!_pos _ j (by simpa using hj)]
  simp
theorem grownBy_sortQ {w : World} {g n : Nat} {os : Array Obj} (d : Array (List UInt8)) : w.grownBy (grow (putRow encStr (Sort.ahead w n) g 0 d) os) (some g) := by
  refine ⟨rfl, rfl, rfl, by simp, fun k hk hne => ?_⟩
  rw [heap_grow_old _ _ (by simpa using hk)]
  have : g ≠ k := fun e => hne (by rw [e])
  simp [putRow, mapBlock, Sort.ahead, Array.getElem?_modify, this]
/-- Keys that lie where a slice says. -/
def keyRQ (k : ByteArray) (cs : List Value) : Prop := cs = [.string k]
def KeysQ (w : World) (L : Nat) (v : Value) (ks : List ByteArray) : Prop := SlR w L 1 keyRQ v ks
theorem KeysQ.mod {G : Nat → Prop} {w w' : World} {L : Nat} {v : Value} {ks : List ByteArray} (h : KeysQ w L v ks) (hm : Mod G w w') (hG : ∀ b, v.ownBlock = some b → ¬ G b) : KeysQ w' L v ks := by
  obtain ⟨a, cap, rfl, h1, h2, h3⟩ := h
  refine ⟨a, cap, rfl, h1, h2, ?_⟩
  rcases h3 with h3 | ⟨b, off, rfl, h4, h5⟩
  · exact .inl h3
  · refine .inr ⟨b, off, rfl, h4, fun i d hi => ?_⟩
    obtain ⟨cs, k1, k2, k3⟩ := h5 i d hi
    exact ⟨cs, k1, k2, fun j x hx => hm.cell (k3 j x hx) (hG b rfl)⟩
theorem KeysQ.at {w : World} {L : Nat} {a : Option Addr} {n cap : Nat} {ks : List ByteArray} (h : KeysQ w L (.slice a n cap) ks) {i : Nat} {k : ByteArray} (hi : ks[i]? = some k) : ∃ b off, a = some ⟨b, off, none⟩ ∧ b < L ∧ w.cell? ⟨b, off + i, none⟩ = some (.string k) := by
  obtain ⟨b, off, cs, h1, h2, rfl, _, h5⟩ := SlR.at h hi
  exact ⟨b, off, h1, h2, by have := h5 0 _ rfl; simpa using this⟩
/-- What slices.Sort does with keys. -/
theorem sortQ_any (B : Nat) (v : Value) (ks : List ByteArray) (w : World) (hrow : RowS w B v ks) (hn : ks.Nodup) (hl : ks.length ≤ 1000000) :
    Calls Tryz.prog 46 #[v] w fun e w' => e = .returned (.tuple #[]) ∧ ∃ ks', KeysQ w' w'.heap.size v ks' ∧ ks'.Perm ks ∧ ks'.Pairwise ltQ ∧ Mod (fun b => v.ownBlock = some b) w w' := by
  by_cases h0 : ks = []
  · subst h0
    have hv : ∃ a cap, v = .slice a 0 cap ∧ cap ≤ maxLen := by
      rcases hrow.2 with ⟨rfl, _⟩ | ⟨g, cap, cur, rfl, _, _, _, h2, _⟩
      · exact ⟨none, 0, rfl, Nat.zero_le _⟩
      · exact ⟨_, cap, rfl, h2⟩
    obtain ⟨a, cap, rfl, hc⟩ := hv
    refine Calls.mono (Any.slices_Sort_string_none Tryz.sortStr a cap w) ?_
    rintro e w' ⟨rfl, rfl⟩
    exact ⟨rfl, [], ⟨a, cap, rfl, Nat.zero_le _, hc, .inl rfl⟩, List.Perm.refl _, List.Pairwise.nil, Mod.refl _ _⟩
  · have hv : ∃ g cap, v = .slice (some ⟨g, 0, none⟩) ks.length cap ∧ ks.length ≤ cap ∧ cap ≤ maxLen := by
      rcases hrow.2 with ⟨rfl, h1⟩ | ⟨g, cap, cur, rfl, _, _, h1, h2, _⟩
      · exact absurd (List.eq_nil_of_length_eq_zero h1) h0
      · exact ⟨g, cap, rfl, h1, h2⟩
    obtain ⟨g, cap, rfl, hc1, hc2⟩ := hv
    have hg : g < w.heap.size := (own_cellsVQ hrow (k := g) rfl).2.1
    have hH := holdsQ hrow
    have hcon := Any.slices_Sort_string Tryz.sortStr g 0 cap (ks.map fun k => k.data.toList) w hH hg (by simp; omega)
    rw [List.length_map] at hcon
    refine Calls.mono hcon ?_
    rintro e w' ⟨rfl, n, os, rfl⟩
    obtain ⟨ts, hts⟩ : ∃ ts, ts = (ks.map fun k => k.data.toList).mergeSort fun x y => decide (x ≤ y) := ⟨_, rfl⟩
    have hp : ts.Perm (ks.map fun k => k.data.toList) := by rw [hts]; exact List.mergeSort_perm _ _
    have hnd : (ks.map fun k => k.data.toList).Nodup := by
      rw [List.nodup_iff_pairwise_ne, List.pairwise_map]
      exact List.Pairwise.imp (fun hne e => hne (bytesQ_inj e)) hn
    have hr : ts.Pairwise (· < ·) := by rw [hts]; exact msQ_rising _ hnd
    rw [← hts]
    have hlen : ts.length = ks.length := by rw [hp.length_eq, List.length_map]
    refine ⟨rfl, ts.map fun l => ⟨l.toArray⟩, ?_, ?_, ?_, (Mod.refl _ w).grown (grownBy_sortQ _) (fun x hx _ => by cases hx; rfl)⟩
    · have h0 : Holds encStr (Sort.ahead w n) g 0 (ks.map fun k => k.data.toList).toArray := hH
      have h1 : Holds encStr (putRow encStr (Sort.ahead w n) g 0 ts.toArray) g 0 ts.toArray := holds_putRow encStr (Sort.ahead w n) g 0 (ks.map fun k => k.data.toList).toArray ts.toArray h0 (by simp [hlen])
      have hgs : g < (putRow encStr (Sort.ahead w n) g 0 ts.toArray).heap.size := by simp; exact hg
      refine ⟨_, cap, by rw [List.length_map, hlen], by rw [List.length_map, hlen]; exact hc1, hc2, .inr ⟨g, 0, rfl, ?_, fun i k hi => ⟨[.string k], rfl, rfl, fun j x hx => ?_⟩⟩⟩
      · have := (grownBy_sortQ (w := w) (g := g) (n := n) (os := os) ts.toArray).size
        omega
      · have hj : j = 0 := by have := (List.getElem?_eq_some_iff.1 hx).1; simp at this; exact this
        subst hj
        simp at hx
        subst hx
        rw [List.getElem?_map] at hi
        cases hti : ts[i]? with
        | none => rw [hti] at hi; cases hi
        | some l =>
          rw [hti] at hi
          simp at hi
          have hil := (List.getElem?_eq_some_iff.1 hti).1
          have h2 := (h1 i (by simpa using hil)).1
          rw [getElem!_pos _ i (by simpa using hil)] at h2
          simp only [List.getElem_toArray] at h2
          rw [(List.getElem?_eq_some_iff.1 hti).2] at h2
          rw [cell?_grow _ _ _ hgs, show 0 + i * 1 + 0 = 0 + i by omega, h2, ← hi]
    · have h2 := hp.map fun l : List UInt8 => (⟨l.toArray⟩ : ByteArray)
      rw [List.map_map] at h2
      have h3 : ks.map ((fun l : List UInt8 => (⟨l.toArray⟩ : ByteArray)) ∘ fun k => k.data.toList) = ks := by
        conv => rhs; rw [← List.map_id ks]
        refine List.map_congr_left (fun k _ => ?_)
        simp
      rw [h3] at h2
      exact h2
    · rw [List.pairwise_map]
      exact hr
theorem keyQ_inv {key : Value} {kl : Lit} (h : keyOf Tryz.prog 9 key = some kl) : ∃ x : ByteArray, key = .string x ∧ kl = keyQ x ∧ okQ x := by
  cases key <;> simp [keyOf, Tryz.underlying9, mapKey] at h
  rename_i x
  obtain ⟨h1, h2⟩ := h
  exact ⟨x, rfl, h2.symm, by unfold okQ; simpa using h1⟩
theorem sameQ_key (a b : ByteArray) : (keyQ a).sameKey (keyQ b) = decide (a = b) := by
  by_cases h : a = b
  · subst h
    rw [WideAt.sameKey_self (keyQ_lit _)]
    simp
  · rw [Maps.sameKey_ne (fun e => h (keyQ_inj e))]
    simp [h]
/-- The step of a walk over the keys. -/
theorem wpList_nextQ (w : World) {ops : Array Oper} {rest : List Oper} {o : Oper} {a : Act} {Q : Exit → Act → World → Prop} (hg : o.guard = none) (it : Operand) (hop : o.op = Op.next it false) (g r n : Nat) (D : DataW Unit) (left : Lit → Bool) (cnt : Nat)
    (hit : a.eval it = .pointer (some ⟨r, 0, none⟩)) (h : w.ranges Tryz.prog 9 elemQ g r n D left cnt)
    (hDone : (∀ kl, left kl = false) → wpList Tryz.prog ops Q rest (a.put o.dst (.tuple #[.bool false])) w)
    (hMore : ∀ (x : ByteArray) (c d : Value) (w' : World) (cnt' : Nat), okQ x → left (keyQ x) = true → IsHdrQ c → IsHdrQ d → D.atKey (keyQ x) zeroK = encK c d → w'.ranges Tryz.prog 9 elemQ g r n D (fun z => left z && !z.sameKey (keyQ x)) cnt' → cnt' < cnt →
      w.grownBy w' (some r) → (Instr.entry (.pointer (some ⟨r, 0, none⟩))).run Tryz.prog w' = .ok (.tuple #[.string x, .agg #[c, d]]) w' → wpList Tryz.prog ops Q rest (a.put o.dst (.tuple #[.bool true, .string x, .agg #[c, d]])) w') :
    wpList Tryz.prog ops Q (o :: rest) a w :=
  wpList_next_ranges w hg it hop 9 kStrQ elemQ (fun x : ByteArray => Value.string x) (fun v : Value => v) (fun key kl hkey => by obtain ⟨x, rfl, _⟩ := keyQ_inv hkey; exact ⟨x, rfl⟩) (fun v y _ => ⟨v, rfl⟩) g r n D left cnt hit h (fun _ hl => hDone hl)
    (fun x c kl y w' cnt' hkey hlk hv hat hrg hlt hgr hsz hen => by
      obtain ⟨x', e, rfl, hok⟩ := keyQ_inv hkey
      cases e
      obtain ⟨a1, b1, rfl, h1, h2, h3⟩ := elemQ_inv hv
      exact hMore x a1 b1 w' cnt' hok hlk h1 h2 (by rw [hat zeroK, h3]) hrg hlt hgr hen)
theorem hasQ_of_left {w : World} {g r n cnt : Nat} {D : DataW Unit} {left : Lit → Bool} {x : ByteArray} (h : w.ranges Tryz.prog 9 elemQ g r n D left cnt) (hl : left (keyQ x) = true) : has D (keyQ x) = true := by
  obtain ⟨es, clock, since, seen, c0, hb, F, hs, hDD, hr, hold, hcn, hl1, hl2, hsc, hsk⟩ := h
  obtain ⟨y, hy, e⟩ := hl2 _ hl
  rw [hDD]
  exact List.any_eq_true.2 ⟨_, mem_sorted.2 (List.mem_map.2 ⟨y, hy, rfl⟩), by rw [e]; exact WideAt.sameKey_self (keyQ_lit _)⟩
end Go.Proofs.YtkoncehhpiegfaaGreatDoor
