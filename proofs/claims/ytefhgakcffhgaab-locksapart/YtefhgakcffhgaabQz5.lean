/- The law LocksApart: those that wait for a key are looked at (a block of its body, as a piece of its own). -/
import Derived.Test.YtefhgakcffhgaabQy
namespace Go.Proofs.Ytefhgakcffhgaab
open Go.RowKit Go.Lib Go.Maps
set_option linter.unusedVariables false

/-- The block of that number, out of a body. -/
def findBlkQ (n : Nat) : Code → Option Code
  | .block m c => if m == n then some (.block m c) else findBlkQ n c
  | .loop c => findBlkQ n c
  | .seq a b => match findBlkQ n a with
    | some c => some c
    | none => findBlkQ n b
  | .scope c => findBlkQ n c
  | .cond _ a b => match findBlkQ n a with
    | some c => some c
    | none => findBlkQ n b
  | _ => none
/-- A piece that ends normally. -/
def pieceQ (R : Act → World → Prop) : Exit → Act → World → Prop
  | .normal, a, wd => R a wd
  | _, _, _ => False
set_option maxRecDepth 100000 in
set_option maxHeartbeats 16000000 in
theorem apart9_any (c0 c1 c2 c3 c4 c5 c6 c7 c8 c9 c10 c11 c12 c13 c17 c20 c21 c22 c23 c24 c25 c26 c27 c28 c29 c30 c31 c32 c33 c34 c35 c36 c37 c38 c39 c40 c41 c42 c43 c44 c45 c46 c47 c48 c49 c50 c51 c52 c53 c54 c55 c56 c57 c58 c59 c60 c61 c62 c63 c64 c65 c66 c67 c68 c69 c70 c71 c72 c73 c74 c75 c76 c77 c78 c79 c80 c81 c82 c83 c84 c85 c86 c87 c88 c89 c90 c91 c92 c93 c94 c95 c96 c97 c98 c99 c100 c101 c102 c103 c104 c105 c106 c107 c108 c109 c110 c111 c112 c113 c114 c115 c116 c117 c118 c119 c120 c121 c122 c123 c124 c125 c126 c127 c128 c129 c130 c131 c132 c133 c134 c135 c136 c137 c138 c139 c140 c141 c142 c143 c144 c145 c146 c147 c148 c149 c150 c151 c152 c153 c154 c155 c156 : Value)
    (B : Nat) (wz : World) (ah aw ay : Int) (ua : Option Addr) (uc : Nat) (ws : List Int) (hU : RowI wz B (.slice ua ws.length uc) ws) (hrs : ws.Pairwise (· < ·)) (hlen : ws.length ≤ 200) (hwx : ∀ t ∈ ws, ah ≠ 0 ∧ ¬ (0 < aw ∧ t < ay))
    {R : Act → World → Prop}
    (hN : ∀ (u2 u19 u121 u122 u123 u124 u125 u126 u127 u128 u129 u130 u131 u132 u133 u134 u135 u136 u137 u138 u139 u140 u141 u142 u143 u144 u145 u146 u147 u148 u149 u150 u151 u152 u153 u154 u155 u156 : Value) (wd : World), Mod noBlock wz wd → R ⟨#[c0, c1, u2, c3, c4, c5, c6, c7, c8, c9, c10, c11,
    c12, c13, .int .i64 ah, .int .i64 aw, .int .i64 ay, c17, .slice ua ws.length uc, u19, c20, c21, c22, c23,
    c24, c25, c26, c27, c28, c29, c30, c31, c32, c33, c34, c35,
    c36, c37, c38, c39, c40, c41, c42, c43, c44, c45, c46, c47,
    c48, c49, c50, c51, c52, c53, c54, c55, c56, c57, c58, c59,
    c60, c61, c62, c63, c64, c65, c66, c67, c68, c69, c70, c71,
    c72, c73, c74, c75, c76, c77, c78, c79, c80, c81, c82, c83,
    c84, c85, c86, c87, c88, c89, c90, c91, c92, c93, c94, c95,
    c96, c97, c98, c99, c100, c101, c102, c103, c104, c105, c106, c107,
    c108, c109, c110, c111, c112, c113, c114, c115, c116, c117, c118, c119,
    c120, u121, u122, u123, u124, u125, u126, u127, u128, u129, u130, u131,
    u132, u133, u134, u135, u136, u137, u138, u139, u140, u141, u142, u143,
    u144, u145, u146, u147, u148, u149, u150, u151, u152, u153, u154, u155,
    u156], []⟩ wd) :
    Code.wp Try.prog ((Try.f4.body.bind (findBlkQ 9)).getD .skip) (pieceQ R) ⟨#[c0, c1, c2, c3, c4, c5, c6, c7, c8, c9, c10, c11,
    c12, c13, .int .i64 ah, .int .i64 aw, .int .i64 ay, c17, .slice ua ws.length uc, .int .i64 0, c20, c21, c22, c23,
    c24, c25, c26, c27, c28, c29, c30, c31, c32, c33, c34, c35,
    c36, c37, c38, c39, c40, c41, c42, c43, c44, c45, c46, c47,
    c48, c49, c50, c51, c52, c53, c54, c55, c56, c57, c58, c59,
    c60, c61, c62, c63, c64, c65, c66, c67, c68, c69, c70, c71,
    c72, c73, c74, c75, c76, c77, c78, c79, c80, c81, c82, c83,
    c84, c85, c86, c87, c88, c89, c90, c91, c92, c93, c94, c95,
    c96, c97, c98, c99, c100, c101, c102, c103, c104, c105, c106, c107,
    c108, c109, c110, c111, c112, c113, c114, c115, c116, c117, c118, c119,
    c120, c121, c122, c123, c124, c125, c126, c127, c128, c129, c130, c131,
    c132, c133, c134, c135, c136, c137, c138, c139, c140, c141, c142, c143,
    c144, c145, c146, c147, c148, c149, c150, c151, c152, c153, c154, c155,
    c156], []⟩ wz := by
  conv => arg 2; whnf
  have HN := Hid.mkq hN
  have HU := Hid.mkq hU
  have HRS := Hid.mkq hrs
  have HWX := Hid.mkq hwx
  clear hN hU hrs hwx
  go_wp2_with fail
  go_loopw [19] (fun j0 wr => ∃ j : Nat, j ≤ ws.length ∧ j0 = .int .i64 j ∧ Mod noBlock wz wr) (fun j0 _ => ws.length - (intOf j0).toNat)
  case atStart => exact ⟨0, Nat.zero_le _, rfl, Mod.refl _ _⟩
  case round =>
    obtain ⟨j, hjl, rfl, hmj⟩ := hrel
    have HMJ := Hid.mkq hmj
    clear hmj
    by_cases hjlt : j < ws.length
    · obtain ⟨t, ht⟩ : ∃ t, ws[j]? = some t := ⟨_, List.getElem?_eq_getElem hjlt⟩
      have hrj := HU.out.mod HMJ.out (fun _ _ => id)
      obtain ⟨ub, rfl, _, hub2, c0'⟩ := hrj.at ht
      obtain ⟨hz, hny⟩ := HWX.out t (List.mem_of_getElem? ht)
      have hza : (ah == 0) = false := by simpa using hz
      have hzb : decide (ah = 0) = false := decide_eq_false hz
      have hjI : (j : Int) < (ws.length : Int) := by omega
      have hj0' : (0 : Int) ≤ (j : Int) := by omega
      have hcase : (decide (aw > 0) = true ∧ decide (ay > t) = false) ∨ decide (aw > 0) = false := by
        by_cases ha : aw > 0
        · exact .inl ⟨decide_eq_true ha, decide_eq_false (fun hh => hny ⟨ha, hh⟩)⟩
        · exact .inr (decide_eq_false ha)
      have HFIN : Hid (∀ nq, Mod noBlock wz (wr.drewN nq)) := fun nq => HMJ.out.drewN nq
      have HRJ := Hid.mkq hrj
      have HT := Hid.mkq ht
      clear hrj hny ht hz
      cases j with
      | zero =>
        rcases hcase with ⟨g1, g2⟩ | g1
        all_goals
          go_upto_region 42 with fail
          go_quiet (fail)
          go_wp2_with fail
          go_roundw
          case rel => exact ⟨1, by omega, by first | rfl | go_num, HFIN.out _⟩
          case measure => simp [intOf]; omega
      | succ n =>
        obtain ⟨t', ht'⟩ : ∃ t', ws[n]? = some t' := ⟨_, List.getElem?_eq_getElem (by omega)⟩
        obtain ⟨ub', hub', _, _, c1'⟩ := HRJ.out.at ht'
        cases hub'
        have hlt' : t' < t := by
          obtain ⟨a1, a2⟩ := List.getElem?_eq_some_iff.1 ht'
          obtain ⟨b1, b2⟩ := List.getElem?_eq_some_iff.1 HT.out
          have := List.pairwise_iff_getElem.1 HRS.out n (n + 1) a1 b1 (by omega)
          rw [a2, b2] at this
          exact this
        have hle : decide (t ≤ t') = false := decide_eq_false (by omega)
        have hn0 : (0 : Int) ≤ (n : Int) := by omega
        have hnI : (n : Int) < (ws.length : Int) := by omega
        have hpos : decide ((n : Int) + 1 > 0) = true := decide_eq_true (by omega)
        clear ht' hlt'
        rcases hcase with ⟨g1, g2⟩ | g1
        all_goals
          go_upto_region 42 with fail
          go_quiet (fail)
          go_wp2_with fail
          go_roundw
          case rel => exact ⟨n + 1 + 1, by omega, by first | rfl | go_num, HFIN.out _⟩
          case measure => simp [intOf]; omega
    · obtain rfl : j = ws.length := by omega
      clear HU HRS HWX
      go_wp2_with fail
      show R _ _
      apply HN.out
      exact HMJ.out
end Go.Proofs.Ytefhgakcffhgaab
