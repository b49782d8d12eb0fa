/- The law LocksPlay: what was given, and the keys, are held against each other (blocks of its body, as pieces of their own). -/
import Derived.Test.YtkoncehhpiegfaaGreatDoorUp
import Derived.Test.YtkoncehhpiegfaaGreatDoorRc
namespace Go.Proofs.YtkoncehhpiegfaaGreatDoor
open Go.RowKit Go.Lib Go.Maps
set_option linter.unusedVariables false

/-- The block of that number, out of a body. -/
def findBlkQ (n : Nat) : Code → Option Code
  | .block m c => if m == n then some (.block m c) else findBlkQ n c
  | .loop c => findBlkQ n c
  | .seq a b => match findBlkQ n a with
    | some c => some c
    | none => findBlkQ n b
  | .scope c => findBlkQ n c
  | .cond _ a b => match findBlkQ n a with
    | some c => some c
    | none => findBlkQ n b
  | _ => none
/-- A piece that ends normally. -/
def pieceQ (R : Act → World → Prop) : Exit → Act → World → Prop
  | .normal, a, wd => R a wd
  | _, _, _ => False
def askC (d : AskD) (cs : List Value) : Prop := cs = askCells d
theorem grs_asks : ∀ gs : List GrD, grsCells gs = asksCells (gs.map grAsk)
  | [] => rfl
  | g :: gs => by simp only [grsCells, List.map_cons, asksCells, grs_asks gs]; rfl
theorem RowG.toC {w : World} {B : Nat} {v : Value} {gs : List GrD} (h : RowG w B v gs) : SlR w w.heap.size 3 askC v (gs.map grAsk) := by
  obtain ⟨h1, h2⟩ := h
  rw [grs_asks] at h1 h2
  rcases h2 with ⟨rfl, hn⟩ | ⟨g, cap, cur, rfl, q1, q2, q3, q4, q5, q6⟩
  · have : gs = [] := List.eq_nil_of_length_eq_zero hn
    subst this
    exact SlR.nil _ _ _ _
  · have hc : w.ownsRow B 47 3 (.slice (some ⟨g, 0, none⟩) gs.length cap) gs.length (asksCells (gs.map grAsk)) := ⟨h1, .inr ⟨g, cap, cur, rfl, q1, q2, q3, q4, q5, q6⟩⟩
    have hcl := hc.cells (g := g) rfl
    have hgl : g < w.heap.size := (Array.getElem?_eq_some_iff.1 q2).1
    refine ⟨_, cap, by rw [List.length_map], by rw [List.length_map]; exact q3, q4, .inr ⟨g, 0, rfl, by omega, fun i o hi => ⟨askCells o, rfl, rfl, fun j x hx => ?_⟩⟩⟩
    have := hcl _ _ (asksCells_cell _ i o hi j x hx)
    rw [Go.WideShapes.add_plain, Nat.zero_add] at this
    rw [Nat.zero_add]
    exact this
theorem RowA.toC {w : World} {B : Nat} {v : Value} {os : List AskD} (h : RowA w B v os) : SlR w w.heap.size 3 askC v os := by
  obtain ⟨⟨h1, h2⟩, h3⟩ := h
  rcases h2 with ⟨rfl, hn⟩ | ⟨g, cap, cur, rfl, q1, q2, q3, q4, q5, q6⟩
  · have : os = [] := List.eq_nil_of_length_eq_zero hn
    subst this
    exact SlR.nil _ _ _ _
  · have hc : w.ownsRow B 37 3 (.slice (some ⟨g, 0, none⟩) os.length cap) os.length (asksCells os) := ⟨h1, .inr ⟨g, cap, cur, rfl, q1, q2, q3, q4, q5, q6⟩⟩
    have hcl := hc.cells (g := g) rfl
    have hgl : g < w.heap.size := (Array.getElem?_eq_some_iff.1 q2).1
    refine ⟨_, cap, rfl, q3, q4, .inr ⟨g, 0, rfl, by omega, fun i o hi => ⟨askCells o, rfl, rfl, fun j x hx => ?_⟩⟩⟩
    have := hcl _ _ (asksCells_cell os i o hi j x hx)
    rw [Go.WideShapes.add_plain, Nat.zero_add] at this
    rw [Nat.zero_add]
    exact this
theorem askC_at {w : World} {L : Nat} {a : Option Addr} {n cap : Nat} {l : List AskD} (h : SlR w L 3 askC (.slice a n cap) l) {i : Nat} {d : AskD} (hi : l[i]? = some d) :
    ∃ b off, a = some ⟨b, off, none⟩ ∧ b < L ∧ w.cell? ⟨b, off + i * 3, none⟩ = some (.int .i64 d.tx) ∧ w.cell? ⟨b, off + i * 3 + 1, none⟩ = some (.string d.key) ∧ w.cell? ⟨b, off + i * 3 + 2, none⟩ = some (.int .i64 d.mode) := by
  obtain ⟨b, off, cs, h1, h2, rfl, _, h5⟩ := SlR.at h hi
  exact ⟨b, off, h1, h2, by have := h5 0 _ rfl; simpa using this, h5 1 _ rfl, h5 2 _ rfl⟩
set_option maxRecDepth 100000 in
set_option maxHeartbeats 16000000 in
theorem play5_any (c0 c1 c2 c3 c4 c5 c6 c7 c8 c9 c10 c11 c12 c13 c14 c15 c19 c20 c21 c22 c23 c24 c25 c26 c27 c28 c29 c30 c31 c32 c33 c34 c35 c36 c37 c38 c39 c40 c41 c42 c43 c44 c45 c46 c47 c48 c49 c50 c51 c52 c53 c54 c55 c56 c57 c58 c59 c60 c61 c62 c63 c64 c65 c66 c67 c68 c69 c70 c71 c72 c73 c74 c75 c76 c77 c78 c79 c80 c81 c82 c83 c84 c85 c86 c87 c88 c89 c90 c91 c92 c93 c94 c95 c96 c97 c98 c99 c100 c101 c102 c103 c104 c105 c106 c107 c108 c109 c110 c111 c112 c113 c114 c115 c116 c117 c118 c119 c120 c121 c122 c123 c124 c125 c126 c127 c128 c129 c130 c131 c132 c133 c134 c135 c136 c137 c138 c139 c140 c141 c142 c143 c144 c145 c146 c147 c148 c149 c150 c151 c152 c153 c154 c155 c156 c157 c158 c159 c160 c161 c162 c163 c164 c165 c166 c167 c168 c169 c170 c171 c172 c173 c174 c175 c176 c177 c178 c179 c180 c181 : Value)
    (wz : World) (L1 L2 : Nat) (ka ga : Option Addr) (kc gc : Nat) (ks : List ByteArray) (h1 : KeysQ wz L1 (.slice ka ks.length kc) ks) (h2 : KeysQ wz L2 (.slice ga ks.length gc) ks) (hlen : ks.length ≤ 2000)
    {R : Act → World → Prop}
    (hN : ∀ (u2 u18 u167 u168 u169 u170 u171 u172 u173 u174 u175 u176 u177 u178 u179 u180 u181 : Value) (wd : World), Mod noBlock wz wd → R ⟨#[c0, c1, u2, c3, c4, c5, c6, c7, c8, c9, c10, c11,
    c12, c13, c14, c15, .slice ka ks.length kc, .slice ga ks.length gc, u18, c19, c20, c21, c22, c23,
    c24, c25, c26, c27, c28, c29, c30, c31, c32, c33, c34, c35,
    c36, c37, c38, c39, c40, c41, c42, c43, c44, c45, c46, c47,
    c48, c49, c50, c51, c52, c53, c54, c55, c56, c57, c58, c59,
    c60, c61, c62, c63, c64, c65, c66, c67, c68, c69, c70, c71,
    c72, c73, c74, c75, c76, c77, c78, c79, c80, c81, c82, c83,
    c84, c85, c86, c87, c88, c89, c90, c91, c92, c93, c94, c95,
    c96, c97, c98, c99, c100, c101, c102, c103, c104, c105, c106, c107,
    c108, c109, c110, c111, c112, c113, c114, c115, c116, c117, c118, c119,
    c120, c121, c122, c123, c124, c125, c126, c127, c128, c129, c130, c131,
    c132, c133, c134, c135, c136, c137, c138, c139, c140, c141, c142, c143,
    c144, c145, c146, c147, c148, c149, c150, c151, c152, c153, c154, c155,
    c156, c157, c158, c159, c160, c161, c162, c163, c164, c165, c166, u167,
    u168, u169, u170, u171, u172, u173, u174, u175, u176, u177, u178, u179,
    u180, u181], []⟩ wd) :
    Code.wp Tryz.prog ((Tryz.f3.body.bind (findBlkQ 5)).getD .skip) (pieceQ R) ⟨#[c0, c1, c2, c3, c4, c5, c6, c7, c8, c9, c10, c11,
    c12, c13, c14, c15, .slice ka ks.length kc, .slice ga ks.length gc, .int .i64 0, c19, c20, c21, c22, c23,
    c24, c25, c26, c27, c28, c29, c30, c31, c32, c33, c34, c35,
    c36, c37, c38, c39, c40, c41, c42, c43, c44, c45, c46, c47,
    c48, c49, c50, c51, c52, c53, c54, c55, c56, c57, c58, c59,
    c60, c61, c62, c63, c64, c65, c66, c67, c68, c69, c70, c71,
    c72, c73, c74, c75, c76, c77, c78, c79, c80, c81, c82, c83,
    c84, c85, c86, c87, c88, c89, c90, c91, c92, c93, c94, c95,
    c96, c97, c98, c99, c100, c101, c102, c103, c104, c105, c106, c107,
    c108, c109, c110, c111, c112, c113, c114, c115, c116, c117, c118, c119,
    c120, c121, c122, c123, c124, c125, c126, c127, c128, c129, c130, c131,
    c132, c133, c134, c135, c136, c137, c138, c139, c140, c141, c142, c143,
    c144, c145, c146, c147, c148, c149, c150, c151, c152, c153, c154, c155,
    c156, c157, c158, c159, c160, c161, c162, c163, c164, c165, c166, c167,
    c168, c169, c170, c171, c172, c173, c174, c175, c176, c177, c178, c179,
    c180, c181], []⟩ wz := by
  conv => arg 2; whnf
  have HN := Hid.mkq hN
  have H1 := Hid.mkq h1
  have H2 := Hid.mkq h2
  clear hN h1 h2
  go_wp2_with fail
  go_loopw [18] (fun j0 wr => ∃ j : Nat, j ≤ ks.length ∧ j0 = .int .i64 j ∧ Mod noBlock wz wr) (fun j0 _ => ks.length - (intOf j0).toNat)
  case atStart => exact ⟨0, Nat.zero_le _, rfl, Mod.refl _ _⟩
  case round =>
    obtain ⟨j, hjl, rfl, hmj⟩ := hrel
    have HMJ := Hid.mkq hmj
    clear hmj
    by_cases hjlt : j < ks.length
    · obtain ⟨t, ht⟩ : ∃ t, ks[j]? = some t := ⟨_, List.getElem?_eq_getElem hjlt⟩
      obtain ⟨b1, o1, rfl, _, q1⟩ := KeysQ.at H1.out ht
      obtain ⟨b2, o2, rfl, _, q2⟩ := KeysQ.at H2.out ht
      have p1 := HMJ.out.cell q1 id
      have p2 := HMJ.out.cell q2 id
      have hyy : (t.toList == t.toList) = true := by simp
      have hjI : (j : Int) < (ks.length : Int) := by omega
      have hj0' : (0 : Int) ≤ (j : Int) := by omega
      have HFIN : Hid (∀ nq, Mod noBlock wz (wr.drewN nq)) := fun nq => HMJ.out.drewN nq
      clear ht q1 q2
      go_upto_region 32 with fail
      go_quiet (fail)
      go_wp2_with fail
      go_roundw
      case rel => exact ⟨j + 1, by omega, by go_num, HFIN.out _⟩
      case measure => simp [intOf]; omega
    · obtain rfl : j = ks.length := by omega
      clear H1 H2
      go_wp2_with fail
      show R _ _
      apply HN.out
      exact HMJ.out
set_option maxRecDepth 100000 in
set_option maxHeartbeats 16000000 in
theorem play3_any (c0 c1 c2 c3 c4 c5 c6 c7 c8 c9 c10 c11 c12 c16 c17 c18 c19 c20 c21 c22 c23 c24 c25 c26 c27 c28 c29 c30 c31 c32 c33 c34 c35 c36 c37 c38 c39 c40 c41 c42 c43 c44 c45 c46 c47 c48 c49 c50 c51 c52 c53 c54 c55 c56 c57 c58 c59 c60 c61 c62 c63 c64 c65 c66 c67 c68 c69 c70 c71 c72 c73 c74 c75 c76 c77 c78 c79 c80 c81 c82 c83 c84 c85 c86 c87 c88 c89 c90 c91 c92 c93 c94 c95 c96 c97 c98 c99 c100 c101 c102 c103 c104 c105 c106 c107 c108 c109 c110 c111 c112 c113 c114 c115 c116 c117 c118 c119 c120 c121 c122 c123 c124 c125 c126 c127 c128 c129 c130 c131 c132 c133 c134 c135 c136 c137 c138 c139 c140 c141 c142 c143 c144 c145 c146 c147 c148 c149 c150 c151 c152 c153 c154 c155 c156 c157 c158 c159 c160 c161 c162 c163 c164 c165 c166 c167 c168 c169 c170 c171 c172 c173 c174 c175 c176 c177 c178 c179 c180 c181 : Value)
    (wz : World) (L1 L2 : Nat) (ka ga : Option Addr) (kc gc : Nat) (os : List AskD) (h1 : SlR wz L1 3 askC (.slice ka os.length kc) os) (h2 : SlR wz L2 3 askC (.slice ga os.length gc) os) (hlen : os.length ≤ 2000)
    {R : Act → World → Prop}
    (hN : ∀ (u2 u15 u91 u92 u93 u94 u95 u96 u97 u98 u99 u100 u101 u102 u103 u104 u105 u106 u107 u108 u109 u110 u111 u112 u113 u114 u115 u116 u117 u118 u119 u120 u121 u122 u123 u124 u125 u126 u127 u128 u129 u130 u131 u132 u133 : Value) (wd : World), Mod noBlock wz wd → R ⟨#[c0, c1, u2, c3, c4, c5, c6, c7, c8, c9, c10, c11,
    c12, .slice ka os.length kc, .slice ga os.length gc, u15, c16, c17, c18, c19, c20, c21, c22, c23,
    c24, c25, c26, c27, c28, c29, c30, c31, c32, c33, c34, c35,
    c36, c37, c38, c39, c40, c41, c42, c43, c44, c45, c46, c47,
    c48, c49, c50, c51, c52, c53, c54, c55, c56, c57, c58, c59,
    c60, c61, c62, c63, c64, c65, c66, c67, c68, c69, c70, c71,
    c72, c73, c74, c75, c76, c77, c78, c79, c80, c81, c82, c83,
    c84, c85, c86, c87, c88, c89, c90, u91, u92, u93, u94, u95,
    u96, u97, u98, u99, u100, u101, u102, u103, u104, u105, u106, u107,
    u108, u109, u110, u111, u112, u113, u114, u115, u116, u117, u118, u119,
    u120, u121, u122, u123, u124, u125, u126, u127, u128, u129, u130, u131,
    u132, u133, c134, c135, c136, c137, c138, c139, c140, c141, c142, c143,
    c144, c145, c146, c147, c148, c149, c150, c151, c152, c153, c154, c155,
    c156, c157, c158, c159, c160, c161, c162, c163, c164, c165, c166, c167,
    c168, c169, c170, c171, c172, c173, c174, c175, c176, c177, c178, c179,
    c180, c181], []⟩ wd) :
    Code.wp Tryz.prog ((Tryz.f3.body.bind (findBlkQ 3)).getD .skip) (pieceQ R) ⟨#[c0, c1, c2, c3, c4, c5, c6, c7, c8, c9, c10, c11,
    c12, .slice ka os.length kc, .slice ga os.length gc, .int .i64 0, c16, c17, c18, c19, c20, c21, c22, c23,
    c24, c25, c26, c27, c28, c29, c30, c31, c32, c33, c34, c35,
    c36, c37, c38, c39, c40, c41, c42, c43, c44, c45, c46, c47,
    c48, c49, c50, c51, c52, c53, c54, c55, c56, c57, c58, c59,
    c60, c61, c62, c63, c64, c65, c66, c67, c68, c69, c70, c71,
    c72, c73, c74, c75, c76, c77, c78, c79, c80, c81, c82, c83,
    c84, c85, c86, c87, c88, c89, c90, c91, c92, c93, c94, c95,
    c96, c97, c98, c99, c100, c101, c102, c103, c104, c105, c106, c107,
    c108, c109, c110, c111, c112, c113, c114, c115, c116, c117, c118, c119,
    c120, c121, c122, c123, c124, c125, c126, c127, c128, c129, c130, c131,
    c132, c133, c134, c135, c136, c137, c138, c139, c140, c141, c142, c143,
    c144, c145, c146, c147, c148, c149, c150, c151, c152, c153, c154, c155,
    c156, c157, c158, c159, c160, c161, c162, c163, c164, c165, c166, c167,
    c168, c169, c170, c171, c172, c173, c174, c175, c176, c177, c178, c179,
    c180, c181], []⟩ wz := by
  conv => arg 2; whnf
  have HN := Hid.mkq hN
  have H1 := Hid.mkq h1
  have H2 := Hid.mkq h2
  clear hN h1 h2
  go_wp2_with fail
  go_loopw [15] (fun j0 wr => ∃ j : Nat, j ≤ os.length ∧ j0 = .int .i64 j ∧ Mod noBlock wz wr) (fun j0 _ => os.length - (intOf j0).toNat)
  case atStart => exact ⟨0, Nat.zero_le _, rfl, Mod.refl _ _⟩
  case round =>
    obtain ⟨j, hjl, rfl, hmj⟩ := hrel
    have HMJ := Hid.mkq hmj
    clear hmj
    by_cases hjlt : j < os.length
    · obtain ⟨d, hd⟩ : ∃ d, os[j]? = some d := ⟨_, List.getElem?_eq_getElem hjlt⟩
      obtain ⟨b1, o1, rfl, _, q1, q2, q3⟩ := askC_at H1.out hd
      obtain ⟨b2, o2, rfl, _, q4, q5, q6⟩ := askC_at H2.out hd
      have p1 := HMJ.out.cell q1 id
      have p2 := HMJ.out.cell q2 id
      have p3 := HMJ.out.cell q3 id
      have p4 := HMJ.out.cell q4 id
      have p5 := HMJ.out.cell q5 id
      have p6 := HMJ.out.cell q6 id
      obtain ⟨dt, dk, dm⟩ := d
      have hy1 : (dt == dt) = true := by simp
      have hy2 : (dk.toList == dk.toList) = true := by simp
      have hy3 : (dm == dm) = true := by simp
      have hjI : (j : Int) < (os.length : Int) := by omega
      have hj0' : (0 : Int) ≤ (j : Int) := by omega
      have HFIN : Hid (∀ nq, Mod noBlock wz (wr.drewN nq)) := fun nq => HMJ.out.drewN nq
      dsimp only at p1 p2 p3 p4 p5 p6
      clear hd q1 q2 q3 q4 q5 q6
      go_upto_region 23 with fail
      go_quiet (fail)
      go_wp2_with fail
      go_roundw
      case rel => exact ⟨j + 1, by omega, by go_num, HFIN.out _⟩
      case measure => simp [intOf]; omega
    · obtain rfl : j = os.length := by omega
      clear H1 H2
      go_wp2_with fail
      show R _ _
      apply HN.out
      exact HMJ.out
end Go.Proofs.YtkoncehhpiegfaaGreatDoor
