/- Package check: what was done is gone through backwards: the library's iterator over a slice, from its end. -/
import Derived.Test.YtefhgakcffhgaabDoorKd
import Derived.Test.YtefhgakcffhgaabDoorKz
import Derived.RangeFuncNested
import Derived.RangeFuncBound
import Derived.RangeFuncCalls
import Derived.RangeFuncLeaves
import Derived.RangeFuncBox
import Derived.Shelf.Abstract
import Derived.OwnWalkIn
import Derived.TacticsInMore
import Derived.LoopNIn
import Derived.LoopIn
import Derived.Maps.OwnIn
namespace Go.Proofs.YtefhgakcffhgaabDoor
open Go.RowKit Go.Lib Go.Maps Go.Shelf
attribute [local go_sem] Oper.semAt_some
set_option linter.unusedVariables false

abbrev Und := { x : Nat × (ByteArray × VD) // okU x.2 }
def undEnc (x : Und) : Array Value := #[.int .i64 (x.1.1 : Int), .agg #[.string x.1.2.1, .string x.1.2.2.text, .bool x.1.2.2.there]]
def undAt (us : List (ByteArray × VD)) (h : ∀ u ∈ us, okU u) (i : Nat) : Und := if hi : i < us.length then ⟨(i, us[i]), h _ (List.getElem_mem hi)⟩ else ⟨(0, (ByteArray.empty, zeroVD)), ⟨by simp, okZ⟩⟩
/-- From the end on, down to the place q. -/
def dnL (us : List (ByteArray × VD)) (h : ∀ u ∈ us, okU u) (q : Nat) : List Und := (((List.range us.length).drop q).reverse).map (undAt us h)
theorem dnL_len (us : List (ByteArray × VD)) (h : ∀ u ∈ us, okU u) : dnL us h us.length = [] := by simp [dnL]
theorem dnL_step (us : List (ByteArray × VD)) (h : ∀ u ∈ us, okU u) {q : Nat} (hq : q < us.length) : dnL us h q = dnL us h (q + 1) ++ [undAt us h q] := by
  unfold dnL
  have : (List.range us.length).drop q = q :: (List.range us.length).drop (q + 1) := by
    rw [List.drop_eq_getElem_cons (by simpa using hq)]
    simp
  rw [this]
  simp
theorem dnL_size (us : List (ByteArray × VD)) (h : ∀ u ∈ us, okU u) (q : Nat) : (dnL us h q).length = us.length - q := by simp [dnL]
/-- What a round keeps: the row, and the box that holds its slice. -/
def KpB (rb Bs : Nat) (W W' : World) : Prop := ∀ o, (W.heap[rb]? = some o → W'.heap[rb]? = some o) ∧ (W.heap[Bs]? = some o → W'.heap[Bs]? = some o)
theorem KpB.refl (rb Bs : Nat) (W : World) : KpB rb Bs W W := fun o => ⟨id, id⟩
theorem KpB.trans {rb Bs : Nat} {A B C : World} (h : KpB rb Bs A B) (k : KpB rb Bs B C) : KpB rb Bs A C := fun o => ⟨fun e => (k o).1 ((h o).1 e), fun e => (k o).2 ((h o).2 e)⟩
theorem KpB.cell {rb Bs i : Nat} {W W' : World} {v : Value} (h : KpB rb Bs W W') {p : Nat} (hp : p = rb ∨ p = Bs) (hc : W.cell? ⟨p, i, none⟩ = some v) : W'.cell? ⟨p, i, none⟩ = some v := by
  have hlt := World.block_lt_of_cell? W _ hc
  obtain ⟨o, ho⟩ : ∃ o, W.heap[p]? = some o := ⟨_, Array.getElem?_eq_getElem hlt⟩
  have ho' : W'.heap[p]? = some o := by
    rcases hp with rfl | rfl
    · exact (h o).1 ho
    · exact (h o).2 ho
  unfold World.cell? at hc ⊢
  simp only [ho] at hc
  simp only [ho']
  exact hc
set_option maxRecDepth 100000 in
set_option maxHeartbeats 2000000 in
theorem back1_in (F : Fence) (n : Nat) (hf : F.fn 29) (hro : F.round = none) (hn : 1 ≤ n) (l Bs rb cap : Nat) (us : List (ByteArray × VD)) (hok : ∀ u ∈ us, okU u) (hlen : us.length ≤ 1000000) (J Jx : List Und → World → Prop)
    (hY : ∀ pre x W, J pre W → pre.length < us.length → YieldAt F (n - 1) Tryd.prog l (undEnc x) W fun e W' => (e = .returned (.bool true) ∧ J (pre ++ [x]) W' ∧ KpB rb Bs W W') ∨ (e = .returned (.bool false) ∧ Jx (pre ++ [x]) W'))
    (W : World) (hBs : W.cell? ⟨Bs, 0, none⟩ = some (.slice (some ⟨rb, 0, none⟩) us.length cap)) (hc : ∀ j (hj : j < us.length), W.cell? ⟨rb, j * 3, none⟩ = some (.string us[j].1) ∧ W.cell? ⟨rb, j * 3 + 1, none⟩ = some (.string us[j].2.text) ∧ W.cell? ⟨rb, j * 3 + 2, none⟩ = some (.bool us[j].2.there)) (h0 : J [] W) :
    CallsIn F n Tryd.prog 29 #[.func (.yield l) #[] #[], .pointer (some ⟨Bs, 0, none⟩)] W fun e W' => (∃ v, e = .returned v) ∧
      ((∃ ys, ys = dnL us hok 0 ∧ J ys W') ∨ (∃ pre, True ∧ Jx pre W')) := by
  refine callsIn_of_wp Tryd.func29 rfl hf ?_ hro
  simp only [Tryd.ntmps29, List.size_toArray, List.length_cons, List.length_nil, Nat.reduceAdd, Nat.reduceSub, Array.replicate_succ, Array.replicate_zero, List.push_toArray, List.append_toArray, List.nil_append, List.cons_append]
  gi_wp2
  gi_loopw [3] (fun i wr => ∃ q : Nat, q ≤ us.length ∧ i = .int .i64 ((q : Int) - 1) ∧ J (dnL us hok q) wr ∧ KpB rb Bs W wr) (fun i _ => (intOf i + 1).toNat)
  case atStart => exact ⟨us.length, Nat.le_refl _, rfl, by rw [dnL_len]; exact h0, KpB.refl _ _ _⟩
  case round =>
    obtain ⟨q, hq, rfl, hJs, hkp⟩ := hrel
    cases q with
    | zero =>
      gi_wp2
      go_end0
      exact ⟨⟨_, rfl⟩, .inl ⟨_, rfl, hJs⟩⟩
    | succ q =>
      have hql : q < us.length := by omega
      have hi : ((q + 1 : Nat) : Int) - 1 = (q : Int) := by omega
      rw [hi]
      have hqI : (q : Int) < (us.length : Int) := by omega
      have hq0 : (0 : Int) ≤ (q : Int) := by omega
      have hqd : decide ((q : Int) ≥ 0) = true := decide_eq_true (by omega)
      obtain ⟨c0, c1, c2⟩ := hc q hql
      have c0' := hkp.cell (.inl rfl) c0
      have c1' := hkp.cell (.inl rfl) c1
      have c2' := hkp.cell (.inl rfl) c2
      have hb' := hkp.cell (.inr rfl) hBs
      obtain ⟨u, hu⟩ : ∃ u, u = us[q] := ⟨_, rfl⟩
      have hx : undAt us hok q = ⟨(q, u), by rw [hu]; exact hok _ (List.getElem_mem hql)⟩ := by
        unfold undAt
        rw [dif_pos hql]
        simp [hu]
      obtain ⟨fn, tmps, assign, body, hy, hR⟩ := hY (dnL us hok (q + 1)) (undAt us hok q) wr hJs (by rw [dnL_size]; omega)
      have hnx : dnL us hok (q + 1) ++ [undAt us hok q] = dnL us hok q := (dnL_step us hok hql).symm
      rw [hnx] at hR
      rw [hx] at hy
      dsimp only [undEnc] at hy
      rw [← hu] at c0' c1' c2'
      clear hu hx hnx c0 c1 c2
      gi_wp2
      refine hR.mono ?_
      rintro e W3 (⟨rfl, hJ3, hk3⟩ | ⟨rfl, hJx3⟩)
      · gi_wp2
        go_roundw
        case rel => exact ⟨q, by omega, rfl, hJ3, hkp.trans hk3⟩
        case measure => simp [intOf]
      · gi_wp2
        refine bodyPost_ret (results_none rfl _ _ _) rfl ?_
        exact ⟨⟨_, rfl⟩, .inr ⟨_, trivial, hJx3⟩⟩
set_option maxRecDepth 100000 in
set_option maxHeartbeats 1000000 in
theorem back1_nil (F : Fence) (n : Nat) (hf : F.fn 29) (hro : F.round = none) (l Bs : Nat) (J : List Und → World → Prop) (W : World) (hBs : W.cell? ⟨Bs, 0, none⟩ = some (.slice none 0 0)) (h0 : J [] W) :
    CallsIn F n Tryd.prog 29 #[.func (.yield l) #[] #[], .pointer (some ⟨Bs, 0, none⟩)] W fun e W' => (∃ v, e = .returned v) ∧ J [] W' := by
  refine callsIn_of_wp Tryd.func29 rfl hf ?_ hro
  simp only [Tryd.ntmps29, List.size_toArray, List.length_cons, List.length_nil, Nat.reduceAdd, Nat.reduceSub, Array.replicate_succ, Array.replicate_zero, List.push_toArray, List.append_toArray, List.nil_append, List.cons_append]
  gi_wp2
  gi_loopw [3] (fun i wr => i = .int .i64 (-1) ∧ J [] wr) (fun _ _ => 0)
  case atStart => exact ⟨rfl, h0⟩
  case round =>
    obtain ⟨rfl, hJs⟩ := hrel
    gi_wp2
    go_end0
    exact ⟨⟨_, rfl⟩, hJs⟩
theorem back_in (F : Fence) (n : Nat) (hf : F.fn 26) (hro : F.round = none) (a : Option Addr) (len cap : Nat) (w : World) :
    CallsIn F n Tryd.prog 26 #[.slice a len cap] w fun e w' => e = .returned (.func (.func 29) #[] #[.pointer (some ⟨w.heap.size, 0, none⟩)]) ∧ w' = w.alloc (.cells #[.slice a len cap] 59) := by
  refine callsIn_of_wp Tryd.func26 rfl hf ?_ hro
  simp only [Tryd.ntmps26, List.size_toArray, List.length_cons, List.length_nil, Nat.reduceAdd, Nat.reduceSub, Array.replicate_succ, Array.replicate_zero, List.push_toArray, List.append_toArray, List.nil_append, List.cons_append]
  gi_wp2
  go_ret
  exact ⟨rfl, rfl⟩
theorem undo_cells {w : World} {B : Nat} {us : List (ByteArray × VD)} {rb cap : Nat} (h : UndoP w B (.slice (some ⟨rb, 0, none⟩) us.length cap) us) : ∀ j (hj : j < us.length), w.cell? ⟨rb, j * 3, none⟩ = some (.string us[j].1) ∧ w.cell? ⟨rb, j * 3 + 1, none⟩ = some (.string us[j].2.text) ∧ w.cell? ⟨rb, j * 3 + 2, none⟩ = some (.bool us[j].2.there) := by
  intro j hj
  have hc := h.1.cells (g := rb) rfl
  have key : ∀ (us : List (ByteArray × VD)) (j : Nat) (hj : j < us.length), (undoCells us)[j * 3]? = some (.string us[j].1) ∧ (undoCells us)[j * 3 + 1]? = some (.string us[j].2.text) ∧ (undoCells us)[j * 3 + 2]? = some (.bool us[j].2.there) := by
    intro us
    induction us with
    | nil => intro j hj; simp at hj
    | cons u us ih =>
      intro j hj
      cases j with
      | zero => simp [undoCells]
      | succ j =>
        have := ih j (by simpa using hj)
        rw [show (j + 1) * 3 = j * 3 + 3 by omega]
        simpa [undoCells] using this
  obtain ⟨k0, k1, k2⟩ := key us j hj
  have e0 := hc _ _ k0
  have e1 := hc _ _ k1
  have e2 := hc _ _ k2
  rw [Go.WideShapes.add_plain, Nat.zero_add] at e0 e1 e2
  exact ⟨e0, e1, e2⟩
/-- What is to be undone comes from its end on. -/
theorem back_stops (F : Fence) (n : Nat) (hf : F.fn 29) (hro : F.round = none) (hn : 1 ≤ n) (Bs rb B : Nat) (uv : Value) (us : List (ByteArray × VD)) (hok : ∀ u ∈ us, okU u) (hlen : us.length ≤ 1000000) (w : World) (hBs : Bs < w.heap.size) (hc : w.cell? ⟨Bs, 0, none⟩ = some uv) (hu : UndoP w B uv us) (hrb : ∀ k, uv.ownBlock = some k → k = rb) :
    SeqStopsK F n Tryd.prog 29 #[.pointer (some ⟨Bs, 0, none⟩)] undEnc (KpB rb Bs) (fun ys => ys = dnL us hok 0) (fun _ => True) us.length w := fun l J Jx W hW _ _ hY h0 => by
  have hc' := (hW.cell (p := ⟨Bs, 0, none⟩) hBs).trans hc
  have hu0 := hu
  rcases hu.1.2 with ⟨e, hz⟩ | ⟨g, cap, cur, e, hg1, hg2, _⟩
  · subst e
    obtain rfl : us = [] := List.eq_nil_of_length_eq_zero hz
    exact (back1_nil F n hf hro l Bs J W hc' h0).mono fun e W' ⟨he, hj⟩ => ⟨he, .inl ⟨_, by simp [dnL], hj⟩⟩
  · subst e
    obtain rfl : g = rb := hrb g rfl
    have hgl : g < w.heap.size := (Array.getElem?_eq_some_iff.1 hg2).1
    have hcs := undo_cells hu0
    exact back1_in F n hf hro hn l Bs g cap us hok hlen J Jx hY W hc' (fun j hj => ⟨(hW.cell (p := ⟨g, j * 3, none⟩) hgl).trans (hcs j hj).1, (hW.cell (p := ⟨g, j * 3 + 1, none⟩) hgl).trans (hcs j hj).2.1, (hW.cell (p := ⟨g, j * 3 + 2, none⟩) hgl).trans (hcs j hj).2.2⟩) h0
end Go.Proofs.YtefhgakcffhgaabDoor
