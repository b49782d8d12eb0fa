/- The document's table in memory: How, Waiting, way. -/
import Derived.Test.YtkoncehhpiegfaaGreatDoorUa
namespace Go.Proofs.YtkoncehhpiegfaaGreatDoor
open Go.RowKit Go.Lib Go.Maps Go.Sort Go.Shelf
set_option linter.unusedVariables false

/-- The document's table in memory. -/
structure RtP (w : World) (B b : Nat) (hv wv : Value) (r : RefT) : Prop where
  blk : Blk w b [hv, wv] 29
  h : RowA w B hv r.holds
  w : RowA w B wv r.waits
  ne : ∀ x, hv.ownBlock = some x → wv.ownBlock ≠ some x
theorem RtP.mod {G : Nat → Prop} {w w' : World} {B b : Nat} {hv wv : Value} {r : RefT} (h : RtP w B b hv wv r) (hm : Mod G w w') (hb : ¬ G b) (h1 : ∀ x, hv.ownBlock = some x → ¬ G x) (h2 : ∀ x, wv.ownBlock = some x → ¬ G x) : RtP w' B b hv wv r :=
  ⟨h.blk.mod hm hb, h.h.mod hm h1, h.w.mod hm h2, h.ne⟩
theorem RtP.quiet {w w' : World} {B b : Nat} {hv wv : Value} {r : RefT} (h : RtP w B b hv wv r) (hm : Mod noBlock w w') : RtP w' B b hv wv r := h.mod hm id (fun _ _ => id) (fun _ _ => id)
theorem sameA_false {t : Int} {k : ByteArray} {a : AskD} (h : ¬ (a.tx = t ∧ a.key = k)) : sameA t k a = false := by
  unfold sameA
  cases h1 : decide (a.tx = t) <;> cases h2 : decide (a.key = k) <;> simp_all
set_option maxRecDepth 100000 in
set_option maxHeartbeats 2000000 in
theorem how_any (B b : Nat) (hv wv : Value) (r : RefT) (t : Int) (k : ByteArray) (w : World) (h : RtP w B b hv wv r) (hl : r.holds.length ≤ 1000) :
    Calls Tryz.prog 13 #[.pointer (some ⟨b, 0, none⟩), .int .i64 t, .string k] w fun e w' => e = .returned (.int .i64 (howR r.holds t k)) ∧ Mod noBlock w w' := by
  have HH := Hid.mkq (h.h.toV (Nat.le_refl _))
  obtain ⟨ha, hcap, rfl⟩ := own_slice h.h.1
  have c0 := h.blk.cell 0 rfl
  have z0 := h.blk.lt
  have HHO : Hid (howR r.holds t k = match r.holds.find? (sameA t k) with | some a => a.mode | none => 0) := rfl
  clear h
  generalize r.holds = l at HH HHO hl c0
  generalize howR l t k = res at HHO
  go_enter Tryz.func13, Tryz.ntmps13
  go_wp2_with fail
  go_loopw [14] (fun i wr => ∃ n : Nat, n ≤ l.length ∧ i = .int .i64 n ∧ (l.take n).find? (sameA t k) = none ∧ Mod noBlock w wr) (fun i _ => l.length - (intOf i).toNat)
  case atStart => exact ⟨0, Nat.zero_le _, rfl, by simp, Mod.refl _ _⟩
  case round =>
    obtain ⟨n, hn, rfl, hfn, hM⟩ := hrel
    have HFN := Hid.mkq hfn
    have HM := Hid.mkq hM
    clear hfn hM
    by_cases hlt : n < l.length
    · obtain ⟨d, hd⟩ : ∃ d, l[n]? = some d := ⟨_, List.getElem?_eq_getElem hlt⟩
      obtain ⟨hb, off, rfl, _, _, q0, q1, q2⟩ := HH.out.at hd
      have p0 := HM.out.cell q0 id
      have p1 := HM.out.cell q1 id
      have p2 := HM.out.cell q2 id
      have hltI : (n : Int) < (l.length : Int) := by omega
      have hlt0 : (0 : Int) ≤ (n : Int) := by omega
      have HMA : Hid (Mod noBlock w (wr.alloc (.cells #[.int .i64 d.tx, .string d.key, .int .i64 d.mode] 37))) := HM.out.alloc _
      have HD := Hid.mkq hd
      clear hd q0 q1 q2
      by_cases h1 : d.tx = t ∧ d.key = k
      · obtain ⟨e1, e2⟩ := h1
        have HR : Hid (res = d.mode) := by
          rw [HHO.out, Hid]
          have : l.find? (sameA t k) = some d := by
            have h1 : l = l.take n ++ d :: l.drop (n + 1) := by rw [← drop_consQ HD.out, List.take_append_drop]
            rw [h1, List.find?_append, HFN.out]
            simp [sameA, e1, e2]
          rw [this]
        have d1 : (d.tx == t) = true := by simpa using e1
        have d2 : decide (d.key = k) = true := decide_eq_true e2
        subst e1
        subst e2
        go_wp2_with fail
        go_ret
        exact ⟨by rw [HR.out]; rfl, HMA.out⟩
      · have HN : Hid ((l.take (n + 1)).find? (sameA t k) = none) := by
          rw [Hid, take_snocQ HD.out, List.find?_append, HFN.out]
          simp [sameA_false h1]
        by_cases e1 : d.tx = t
        · have e2 : (d.key.toList == k.toList) = false := keyQ_ne (fun e => h1 ⟨e1, e⟩)
          subst e1
          go_wp2_with fail
          go_roundw
          case rel => exact ⟨n + 1, by omega, by go_num, HN.out, HMA.out⟩
          case measure => simp [intOf]; omega
        · go_wp2_with fail
          go_roundw
          case rel => exact ⟨n + 1, by omega, by go_num, HN.out, HMA.out⟩
          case measure => simp [intOf]; omega
    · obtain rfl : n = l.length := by omega
      have HR : Hid (res = 0) := by
        have := HFN.out
        rw [List.take_length] at this
        rw [HHO.out, this, Hid]
      go_wp2_with fail
      go_ret
      exact ⟨by rw [HR.out]; rfl, HM.out⟩
/-! sort.Ints -/
theorem holdsIQ {w : World} {B g cap : Nat} {l : List Int} (h : w.ownsRow B 3 1 (.slice (some ⟨g, 0, none⟩) l.length cap) l.length (intsCells l)) : Holds (Value.int .i64) w g 0 l.toArray := by
  intro j hj
  simp only [List.size_toArray] at hj
  have h1 := h.cells (g := g) rfl j (.int .i64 l[j]) (by unfold intsCells; rw [List.getElem?_map, List.getElem?_eq_getElem hj]; rfl)
  rw [Go.WideShapes.add_plain] at h1
  obtain ⟨_, _, cur, hc⟩ := own_cellsVQ h (k := g) rfl
  refine ⟨?_, by simp [World.frozen?, hc]⟩
  rw [h1, getElem!_pos _ j (by simpa using hj)]
  simp
theorem grownBy_sortI {w : World} {g n : Nat} {os : Array Obj} (d : Array Int) : w.grownBy (grow (putRow (Value.int .i64) (Sort.ahead w n) g 0 d) os) (some g) := by
  refine ⟨rfl, rfl, rfl, by simp, fun k hk hne => ?_⟩
  rw [heap_grow_old _ _ (by simpa using hk)]
  have : g ≠ k := fun e => hne (by rw [e])
  simp [putRow, mapBlock, Sort.ahead, Array.getElem?_modify, this]
/-- Numbers that lie where a slice says. -/
def intRQ (k : Int) (cs : List Value) : Prop := cs = [.int .i64 k]
def IntsQ (w : World) (L : Nat) (v : Value) (ks : List Int) : Prop := SlR w L 1 intRQ v ks
theorem IntsQ.mod {G : Nat → Prop} {w w' : World} {L : Nat} {v : Value} {ks : List Int} (h : IntsQ w L v ks) (hm : Mod G w w') (hG : ∀ b, v.ownBlock = some b → ¬ G b) : IntsQ w' L v ks := by
  obtain ⟨a, cap, rfl, h1, h2, h3⟩ := h
  refine ⟨a, cap, rfl, h1, h2, ?_⟩
  rcases h3 with h3 | ⟨b, off, rfl, h4, h5⟩
  · exact .inl h3
  · refine .inr ⟨b, off, rfl, h4, fun i d hi => ?_⟩
    obtain ⟨cs, k1, k2, k3⟩ := h5 i d hi
    exact ⟨cs, k1, k2, fun j x hx => hm.cell (k3 j x hx) (hG b rfl)⟩
theorem IntsQ.at {w : World} {L : Nat} {a : Option Addr} {n cap : Nat} {ks : List Int} (h : IntsQ w L (.slice a n cap) ks) {i : Nat} {k : Int} (hi : ks[i]? = some k) : ∃ b off, a = some ⟨b, off, none⟩ ∧ b < L ∧ w.cell? ⟨b, off + i, none⟩ = some (.int .i64 k) := by
  obtain ⟨b, off, cs, h1, h2, rfl, _, h5⟩ := SlR.at h hi
  exact ⟨b, off, h1, h2, by have := h5 0 _ rfl; simpa using this⟩
theorem msI_sorted (l : List Int) : (l.mergeSort fun x y => decide (x ≤ y)).Pairwise (· ≤ ·) := by
  have := List.pairwise_mergeSort (le := fun a b : Int => decide (a ≤ b)) (fun a b c h1 h2 => by simp only [decide_eq_true_iff] at *; omega) (fun a b => by simp only [Bool.or_eq_true, decide_eq_true_iff]; omega) l
  exact List.Pairwise.imp (fun h => by simpa using h) this
theorem sortI_any (B : Nat) (v : Value) (l : List Int) (w : World) (hrow : RowI w B v l) (hl : l.length ≤ 1000000) :
    Calls Tryz.prog 33 #[v] w fun e w' => e = .returned (.tuple #[]) ∧ ∃ l', IntsQ w' w'.heap.size v l' ∧ l'.Perm l ∧ l'.Pairwise (· ≤ ·) ∧ Mod (fun b => v.ownBlock = some b) w w' := by
  by_cases h0 : l = []
  · subst h0
    have hv : ∃ a cap, v = .slice a 0 cap ∧ cap ≤ maxLen := by
      rcases hrow.2 with ⟨rfl, _⟩ | ⟨g, cap, cur, rfl, _, _, _, h2, _⟩
      · exact ⟨none, 0, rfl, Nat.zero_le _⟩
      · exact ⟨_, cap, rfl, h2⟩
    obtain ⟨a, cap, rfl, hc⟩ := hv
    refine Calls.mono (Any.sort_Ints_none Tryz.sortInts a cap w) ?_
    rintro e w' ⟨rfl, rfl⟩
    exact ⟨rfl, [], ⟨a, cap, rfl, Nat.zero_le _, hc, .inl rfl⟩, List.Perm.refl _, List.Pairwise.nil, Mod.refl _ _⟩
  · have hv : ∃ g cap, v = .slice (some ⟨g, 0, none⟩) l.length cap ∧ l.length ≤ cap ∧ cap ≤ maxLen := by
      rcases hrow.2 with ⟨rfl, h1⟩ | ⟨g, cap, cur, rfl, _, _, h1, h2, _⟩
      · exact absurd (List.eq_nil_of_length_eq_zero h1) h0
      · exact ⟨g, cap, rfl, h1, h2⟩
    obtain ⟨g, cap, rfl, hc1, hc2⟩ := hv
    have hg : g < w.heap.size := (own_cellsVQ hrow (k := g) rfl).2.1
    have hH := holdsIQ hrow
    have hcon := Any.sort_Ints Tryz.sortInts g 0 cap l w hH hg (by omega)
    refine Calls.mono hcon ?_
    rintro e w' ⟨rfl, n, os, rfl⟩
    obtain ⟨ts, hts⟩ : ∃ ts, ts = l.mergeSort fun x y => decide (x ≤ y) := ⟨_, rfl⟩
    have hp : ts.Perm l := by rw [hts]; exact List.mergeSort_perm _ _
    have hr : ts.Pairwise (· ≤ ·) := by rw [hts]; exact msI_sorted l
    rw [← hts]
    have hlen : ts.length = l.length := hp.length_eq
    refine ⟨rfl, ts, ?_, hp, hr, (Mod.refl _ w).grown (grownBy_sortI _) (fun x hx _ => by cases hx; rfl)⟩
    have h0 : Holds (Value.int .i64) (Sort.ahead w n) g 0 l.toArray := hH
    have h1 : Holds (Value.int .i64) (putRow (Value.int .i64) (Sort.ahead w n) g 0 ts.toArray) g 0 ts.toArray := holds_putRow (Value.int .i64) (Sort.ahead w n) g 0 l.toArray ts.toArray h0 (by simp [hlen])
    have hgs : g < (putRow (Value.int .i64) (Sort.ahead w n) g 0 ts.toArray).heap.size := by simp; exact hg
    refine ⟨_, cap, by rw [hlen], by rw [hlen]; exact hc1, hc2, .inr ⟨g, 0, rfl, ?_, fun i k hi => ⟨[.int .i64 k], rfl, rfl, fun j x hx => ?_⟩⟩⟩
    · have := (grownBy_sortI (w := w) (g := g) (n := n) (os := os) ts.toArray).size
      omega
    · have hj : j = 0 := by have := (List.getElem?_eq_some_iff.1 hx).1; simp at this; exact this
      subst hj
      simp at hx
      subst hx
      obtain ⟨hil, hie⟩ := List.getElem?_eq_some_iff.1 hi
      have h2 := (h1 i (by simpa using hil)).1
      rw [getElem!_pos _ i (by simpa using hil)] at h2
      simp only [List.getElem_toArray] at h2
      rw [cell?_grow _ _ _ hgs, show 0 + i * 1 + 0 = 0 + i by omega, h2, hie]
end Go.Proofs.YtkoncehhpiegfaaGreatDoor
