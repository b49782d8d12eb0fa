/- Package mv: At. -/
import Derived.Test.YtefhgakcffhgaaaDoorMi
namespace Go.Proofs.YtefhgakcffhgaaaDoor
open Go.RowKit Go.Lib Go.Maps Go.Sort Go.Shelf
set_option linter.unusedVariables false

def pairC (p : PairD) : List Value := [.string p.1, .string p.2, .bool false]
def pairsC : List PairD → List Value
  | [] => []
  | p :: ps => pairC p ++ pairsC ps
theorem pairsC_len : ∀ ps, (pairsC ps).length = ps.length * 3
  | [] => rfl
  | p :: ps => by simp [pairsC, pairC, pairsC_len ps]; omega
theorem pairsC_snoc : ∀ ps p, pairsC (ps ++ [p]) = pairsC ps ++ pairC p
  | [], p => by simp [pairsC]
  | x :: ps, p => by simp [pairsC, pairsC_snoc ps p]
theorem pairsC_cell : ∀ (ps : List PairD) (i : Nat) (p : PairD), ps[i]? = some p → ∀ j x, (pairC p)[j]? = some x → (pairsC ps)[i * 3 + j]? = some x
  | [], i, p, h, _, _, _ => by simp at h
  | y :: ps, 0, p, h, j, x, hx => by
    simp at h
    subst h
    have hj : j < (pairC y).length := (List.getElem?_eq_some_iff.1 hx).1
    rw [pairsC, Nat.zero_mul, Nat.zero_add, List.getElem?_append_left hj]
    exact hx
  | y :: ps, i + 1, p, h, j, x, hx => by
    have ih := pairsC_cell ps i p (by simpa using h) j x hx
    have hl : (pairC y).length = 3 := rfl
    rw [pairsC, List.getElem?_append_right (by omega), hl, show (i + 1) * 3 + j - 3 = i * 3 + j by omega]
    exact ih
def pairR (p : PairD) (cs : List Value) : Prop := cs = pairC p
/-- Pairs that lie where a slice says. -/
def PairsV (w : World) (L : Nat) (v : Value) (ps : List PairD) : Prop := SlR w L 3 pairR v ps
theorem PairsV.mod {G : Nat → Prop} {w w' : World} {L : Nat} {v : Value} {ps : List PairD} (h : PairsV w L v ps) (hm : Mod G w w') (hG : ∀ k, k < L → ¬ G k) : PairsV w' L v ps := SlR.mod h hm hG (fun _ _ h => h)
theorem PairsV.at {w : World} {L : Nat} {a : Option Addr} {n cap : Nat} {ps : List PairD} (h : PairsV w L (.slice a n cap) ps) {i : Nat} {p : PairD} (hi : ps[i]? = some p) :
    ∃ b off, a = some ⟨b, off, none⟩ ∧ b < L ∧ w.cell? ⟨b, off + i * 3, none⟩ = some (.string p.1) ∧ w.cell? ⟨b, off + i * 3 + 1, none⟩ = some (.string p.2) ∧ w.cell? ⟨b, off + i * 3 + 2, none⟩ = some (.bool false) := by
  obtain ⟨b, off, cs, h1, h2, rfl, _, h5⟩ := SlR.at h hi
  exact ⟨b, off, h1, h2, by have := h5 0 _ rfl; simpa using this, h5 1 _ rfl, h5 2 _ rfl⟩
theorem Tryd.infoPr : (Tryd.prog.info? 84).map (fun i => (i.zero, i.size, i.bytes)) = some (some (.agg #[.string ByteArray.empty, .string ByteArray.empty, .bool false]), 3, 40) := by kernel_rfl
set_option maxRecDepth 100000 in
theorem compareS_any (a b : ByteArray) (w : World) : Calls Tryd.prog 130 #[.string a, .string b] w fun e w' => e = .returned (.int .i64 (compareBytes a.data.toList b.data.toList)) ∧ w' = w := by
  go_enter Tryd.func130, Tryd.ntmps130
  go_wp2
  rw [run_callFunc_extern Tryd.func155 (by kernel_rfl) (by kernel_rfl) (by kernel_rfl) (e := Extern.BytealgCompare.compare) (by kernel_rfl), Lib.run_compareString]
  simp only [Result.andThen]
  rw [Oper.upon_value]
  go_wp2
  go_ret
  exact ⟨rfl, rfl⟩
theorem compare_any (a b : ByteArray) (w : World) : Calls Tryd.prog 96 #[.string a, .string b] w fun e w' => e = .returned (.int .i64 (compareBytes a.data.toList b.data.toList)) ∧ w' = w := by
  go_enter Tryd.func96, Tryd.ntmps96
  go_wp2_with (first | (go_at_call 130; refine (compareS_any a b _).mono ?_; rintro e w1 ⟨rfl, rfl⟩) | fail)
  go_ret
  exact ⟨rfl, rfl⟩
set_option maxRecDepth 100000 in
theorem closeP (x y : PairD) (W : World) : Calls Tryd.prog 95 #[.agg (pairC x).toArray, .agg (pairC y).toArray] W fun e w' => e = .returned (.int .i64 (cmpP x y)) ∧ ∃ q os', w' = grow (W.drewN q) os' := by
  have hc := fun W' => compare_any x.1 y.1 W'
  unfold cmpP
  generalize compareBytes x.1.data.toList y.1.data.toList = r at hc ⊢
  unfold pairC
  go_enter Tryd.func95, Tryd.ntmps95
  go_wp2_with (first | (go_at_call 96; refine (hc _).mono ?_; rintro e w1 ⟨rfl, rfl⟩) | fail)
  go_ret
  exact ⟨rfl, 0, _, by rw [alloc_eq_grow, alloc_eq_grow, grow_grow]; rfl⟩
theorem cmpLaysP (blk off size : Nat) (w : World) : CmpLays Tryd.prog 95 #[] pairC 3 cmpP blk off size w := fun _ _ _ _ x y => closeP x y _
theorem holdsP {w : World} {B g cap : Nat} {ps : List PairD} (h : w.ownsRow B 84 3 (.slice (some ⟨g, 0, none⟩) ps.length cap) ps.length (pairsC ps)) : HoldsK pairC 3 w g 0 ps.toArray := by
  intro j hj
  rw [size_flatK] at hj
  simp only [List.size_toArray] at hj
  have hi : j / 3 < ps.length := by omega
  have hr : j % 3 < (pairC ps[j / 3]).length := by show j % 3 < 3; omega
  have h1 := pairsC_cell ps (j / 3) _ (List.getElem?_eq_getElem hi) (j % 3) _ (List.getElem?_eq_getElem hr)
  rw [show j / 3 * 3 + j % 3 = j by omega] at h1
  have h2 := h.cells (g := g) rfl j _ h1
  rw [Go.WideShapes.add_plain] at h2
  obtain ⟨_, h4, cur, h3⟩ := own_cellsV h (k := g) rfl
  refine ⟨?_, by simp [World.frozen?, h3]⟩
  rw [h2, get_flatK _ _ _ j (by simpa using hj)]
  simp only [id]
  rw [getElem!_pos ps.toArray (j / 3) (by simpa using hi)]
  simp only [List.getElem_toArray]
  rw [getElem!_pos (pairC ps[j / 3]) (j % 3) hr]
theorem grownBy_sortK {w : World} {g n off : Nat} {os : Array Obj} (d : Array PairD) : w.grownBy (sortWorldK pairC 3 w g off n d os) (some g) := by
  unfold sortWorldK putRowK
  refine ⟨rfl, rfl, rfl, by simp, fun k hk hne => ?_⟩
  rw [heap_grow_old _ _ (by simpa using hk)]
  have : g ≠ k := fun e => hne (by rw [e])
  simp [putRow, mapBlock, Sort.ahead, Array.getElem?_modify, this]
theorem sortedV {w : World} {g n cap : Nat} {os : Array Obj} {d d' : Array PairD} (h : HoldsK pairC 3 w g 0 d) (hs : d'.size = d.size) (hg : g < w.heap.size) (hc : d.size ≤ cap) (hc2 : cap ≤ maxLen) :
    PairsV (sortWorldK pairC 3 w g 0 n d' os) (sortWorldK pairC 3 w g 0 n d' os).heap.size (.slice (some ⟨g, 0, none⟩) d.size cap) d'.toList := by
  have h0 : HoldsK pairC 3 (Sort.ahead w n) g 0 d := h
  have h1 : HoldsK pairC 3 (putRowK pairC 3 (Sort.ahead w n) g 0 d') g 0 d' := holds_putRow id _ g 0 _ _ h0 (by rw [size_flatK, size_flatK, hs])
  have hsz : (sortWorldK pairC 3 w g 0 n d' os).heap.size ≥ w.heap.size := (grownBy_sortK d').size
  have hl : d'.toList.length = d.size := by simpa using hs
  refine ⟨_, cap, by rw [hl], by omega, hc2, .inr ⟨g, 0, rfl, by omega, fun i p hi => ⟨pairC p, rfl, rfl, fun j x hx => ?_⟩⟩⟩
  have hi' : i < d'.size := by simpa using (List.getElem?_eq_some_iff.1 hi).1
  have hj : j < 3 := (List.getElem?_eq_some_iff.1 hx).1
  obtain ⟨c1, _⟩ := h1.cell hi' hj
  have hp : d'[i]! = p := by
    rw [getElem!_pos d' i hi']
    have := (List.getElem?_eq_some_iff.1 hi).2
    simpa using this
  rw [hp, getElem!_pos (pairC p) j hj] at c1
  have hx' : (pairC p)[j] = x := (List.getElem?_eq_some_iff.1 hx).2
  rw [hx'] at c1
  have hcg : (sortWorldK pairC 3 w g 0 n d' os).cell? ⟨g, 0 + i * 3 + j, none⟩ = (putRowK pairC 3 (Sort.ahead w n) g 0 d').cell? ⟨g, 0 + i * 3 + j, none⟩ := by
    unfold sortWorldK World.cell?
    rw [heap_grow_old _ _ (by simp [putRowK]; exact hg)]
  rw [hcg]
  exact c1
end Go.Proofs.YtefhgakcffhgaaaDoor
