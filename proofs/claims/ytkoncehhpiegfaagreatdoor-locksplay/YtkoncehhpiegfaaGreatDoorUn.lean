/- The law's own sameInts. -/
import Derived.Test.YtkoncehhpiegfaaGreatDoorUk
namespace Go.Proofs.YtkoncehhpiegfaaGreatDoor
open Go.RowKit Go.Lib Go.Maps
set_option linter.unusedVariables false

theorem RowI.toQ {w : World} {B : Nat} {v : Value} {l : List Int} (h : RowI w B v l) : IntsQ w w.heap.size v l := by
  obtain ⟨h1, h2⟩ := h
  rcases h2 with ⟨rfl, hn⟩ | ⟨g, cap, cur, rfl, q1, q2, q3, q4, q5, q6⟩
  · have : l = [] := List.eq_nil_of_length_eq_zero hn
    subst this
    exact SlR.nil _ _ _ _
  · have hc : w.ownsRow B 3 1 (.slice (some ⟨g, 0, none⟩) l.length cap) l.length (intsCells l) := ⟨h1, .inr ⟨g, cap, cur, rfl, q1, q2, q3, q4, q5, q6⟩⟩
    have hcl := hc.cells (g := g) rfl
    have hgl : g < w.heap.size := (Array.getElem?_eq_some_iff.1 q2).1
    refine ⟨_, cap, rfl, q3, q4, .inr ⟨g, 0, rfl, hgl, fun i o hi => ⟨[.int .i64 o], rfl, rfl, fun j x hx => ?_⟩⟩⟩
    have hj : j = 0 := by have := (List.getElem?_eq_some_iff.1 hx).1; simp at this; exact this
    subst hj
    simp at hx
    subst hx
    have := hcl i (.int .i64 o) (by unfold intsCells; rw [List.getElem?_map, hi]; rfl)
    rw [Go.WideShapes.add_plain] at this
    rw [show 0 + i * 1 + 0 = 0 + i by omega]
    exact this
set_option maxRecDepth 100000 in
set_option maxHeartbeats 4000000 in
theorem sameQ_one (L M : Nat) (a b : Value) (ns : List Int) (w : World) (ha : IntsQ w L a ns) (hb : IntsQ w M b ns) :
    Calls Tryz.prog 7 #[a, b] w fun e w' => e = .returned (.bool true) ∧ Mod noBlock w w' := by
  obtain ⟨pa, ca, rfl, ha1, ha2⟩ := SlR.slice ha
  obtain ⟨pb, cb, rfl, hb1, hb2⟩ := SlR.slice hb
  unfold maxLen at ha2 hb2
  have HA := Hid.mkq ha
  have HB := Hid.mkq hb
  clear ha hb
  go_enter Tryz.func7, Tryz.ntmps7
  go_wp2_with fail
  go_loopw [5] (fun i wr => ∃ k : Nat, k ≤ ns.length ∧ i = .int .i64 k ∧ Mod noBlock w wr) (fun i _ => ns.length - (intOf i).toNat)
  case atStart => exact ⟨0, Nat.zero_le _, rfl, Mod.refl _ _⟩
  case round =>
    obtain ⟨k, hk, rfl, hM⟩ := hrel
    by_cases hlt : k < ns.length
    · obtain ⟨y, hy⟩ : ∃ y, ns[k]? = some y := ⟨_, List.getElem?_eq_getElem hlt⟩
      obtain ⟨b1, o1, rfl, _, h1⟩ := IntsQ.at HA.out hy
      obtain ⟨b2, o2, rfl, _, h2⟩ := IntsQ.at HB.out hy
      have q0 := hM.cell h1 id
      have q1 := hM.cell h2 id
      have hyy : (y == y) = true := by simp
      have HM := Hid.mkq hM
      have hltI : (k : Int) < (ns.length : Int) := by omega
      have hlt0 : (0 : Int) ≤ (k : Int) := by omega
      clear h1 h2 hy hM
      go_upto_region 6 with fail
      go_region
      all_goals
        go_wp2_with fail
        go_roundw
        case rel => exact ⟨k + 1, by omega, by go_num, HM.out.drew⟩
        case measure => simp [intOf]; omega
    · go_wp2_with fail
      go_ret
      exact ⟨rfl, hM⟩
end Go.Proofs.YtkoncehhpiegfaaGreatDoor
