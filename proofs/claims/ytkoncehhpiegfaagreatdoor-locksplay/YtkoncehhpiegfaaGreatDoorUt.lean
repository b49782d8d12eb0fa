/- The law LocksPlay: what both tables tell of a key is held against each other (one region of its body, as a piece of its own). -/
import Derived.Test.YtkoncehhpiegfaaGreatDoorUr
namespace Go.Proofs.YtkoncehhpiegfaaGreatDoor
open Go.RowKit Go.Lib Go.Maps
set_option linter.unusedVariables false

/-- The region of that number, out of a body. -/
def findRegQ (n : Nat) : Code → Option Code
  | .region m ops d => if m == n then some (.region m ops d) else none
  | .block _ c => findRegQ n c
  | .loop c => findRegQ n c
  | .seq a b => match findRegQ n a with
    | some c => some c
    | none => findRegQ n b
  | .scope c => findRegQ n c
  | .cond _ a b => match findRegQ n a with
    | some c => some c
    | none => findRegQ n b
  | _ => none
theorem pieceQ_as {R : Act → World → Prop} {a b : Act} {w : World} (h : R b w) (e : a = b) : pieceQ R .normal a w := by subst e; exact h
set_option maxRecDepth 100000 in
set_option maxHeartbeats 16000000 in
theorem play27_any (c0 c1 c2 c5 c7 c8 c9 c10 c11 c12 c13 c14 c15 c18 c19 c20 c21 c22 c23 c24 c25 c26 c27 c28 c29 c30 c31 c32 c33 c34 c35 c36 c37 c38 c39 c40 c41 c42 c43 c44 c45 c46 c47 c48 c49 c50 c51 c52 c53 c54 c55 c56 c57 c58 c59 c60 c61 c62 c63 c64 c65 c66 c67 c68 c69 c70 c71 c72 c73 c74 c75 c76 c77 c78 c79 c80 c81 c82 c83 c84 c85 c86 c87 c88 c89 c90 c91 c92 c93 c94 c95 c96 c97 c98 c99 c100 c101 c102 c103 c104 c105 c106 c107 c108 c109 c110 c111 c112 c113 c114 c115 c116 c117 c118 c119 c120 c121 c122 c123 c124 c125 c126 c127 c128 c129 c130 c131 c132 c133 c134 c135 c136 c137 c138 c139 c140 c141 c142 c143 c144 c145 c146 c147 c148 c149 c150 c151 c152 c153 c154 c155 c156 c157 c158 c159 c160 c161 c162 c163 c164 c165 c166 c167 c168 c169 c170 c171 c172 c173 c174 c175 c176 c177 c178 c179 c180 c181 : Value)
    (w2 : World) (tb b xb : Nat) (x : HoldD) (ka ga : Option Addr) (kc gc : Nat) (ks : List ByteArray) (m : Int) (ws : List Int) (hX : askBlk w2 xb x)
    (hho : ∀ w1, Mod noBlock w2 w1 → Calls Tryz.prog 12 #[.pointer (some ⟨tb, 0, none⟩), .int .i64 x.tx, .string x.key] w1 fun e w' => e = .returned (.int .i64 m) ∧ Mod noBlock w1 w')
    (hhw : ∀ w1, Mod noBlock w2 w1 → Calls Tryz.prog 13 #[.pointer (some ⟨b, 0, none⟩), .int .i64 x.tx, .string x.key] w1 fun e w' => e = .returned (.int .i64 m) ∧ Mod noBlock w1 w')
    (hwa : ∀ w1, Mod noBlock w2 w1 → Calls Tryz.prog 14 #[.pointer (some ⟨tb, 0, none⟩), .string x.key] w1 fun e w' => ∃ u, e = .returned u ∧ IntsQ w' w'.heap.size u ws ∧ Mod noBlock w1 w')
    (hwg : ∀ w1, Mod noBlock w2 w1 → Calls Tryz.prog 15 #[.pointer (some ⟨b, 0, none⟩), .string x.key] w1 fun e w' => ∃ u, e = .returned u ∧ IntsQ w' w'.heap.size u ws ∧ Mod noBlock w1 w')
    {R : Act → World → Prop}
    (hN : ∀ (u137 u138 u139 u140 u141 u142 u143 u144 u145 u146 u147 u148 u149 u150 u151 u152 u153 u154 u155 u156 u157 u158 u159 u160 u161 u162 u163 u164 u165 : Value) (wd : World), Mod noBlock w2 wd → R ⟨#[c0, c1, c2, .pointer (some ⟨tb, 0, none⟩), .pointer (some ⟨b, 0, none⟩), c5, .pointer (some ⟨xb, 0, none⟩), c7, c8, c9, c10, c11,
    c12, c13, c14, c15, .slice ka ks.length kc, .slice ga ks.length gc, c18, c19, c20, c21, c22, c23,
    c24, c25, c26, c27, c28, c29, c30, c31, c32, c33, c34, c35,
    c36, c37, c38, c39, c40, c41, c42, c43, c44, c45, c46, c47,
    c48, c49, c50, c51, c52, c53, c54, c55, c56, c57, c58, c59,
    c60, c61, c62, c63, c64, c65, c66, c67, c68, c69, c70, c71,
    c72, c73, c74, c75, c76, c77, c78, c79, c80, c81, c82, c83,
    c84, c85, c86, c87, c88, c89, c90, c91, c92, c93, c94, c95,
    c96, c97, c98, c99, c100, c101, c102, c103, c104, c105, c106, c107,
    c108, c109, c110, c111, c112, c113, c114, c115, c116, c117, c118, c119,
    c120, c121, c122, c123, c124, c125, c126, c127, c128, c129, c130, c131,
    c132, c133, c134, c135, c136, u137, u138, u139, u140, u141, u142, u143,
    u144, u145, u146, u147, u148, u149, u150, u151, u152, u153, u154, u155,
    u156, u157, u158, u159, u160, u161, u162, u163, u164, u165, .bool false, c167,
    c168, c169, c170, c171, c172, c173, c174, c175, c176, c177, c178, c179,
    c180, c181], []⟩ wd) :
    Code.wp Tryz.prog ((Tryz.f3.body.bind (findRegQ 27)).getD .skip) (pieceQ R) ⟨#[c0, c1, c2, .pointer (some ⟨tb, 0, none⟩), .pointer (some ⟨b, 0, none⟩), c5, .pointer (some ⟨xb, 0, none⟩), c7, c8, c9, c10, c11,
    c12, c13, c14, c15, .slice ka ks.length kc, .slice ga ks.length gc, c18, c19, c20, c21, c22, c23,
    c24, c25, c26, c27, c28, c29, c30, c31, c32, c33, c34, c35,
    c36, c37, c38, c39, c40, c41, c42, c43, c44, c45, c46, c47,
    c48, c49, c50, c51, c52, c53, c54, c55, c56, c57, c58, c59,
    c60, c61, c62, c63, c64, c65, c66, c67, c68, c69, c70, c71,
    c72, c73, c74, c75, c76, c77, c78, c79, c80, c81, c82, c83,
    c84, c85, c86, c87, c88, c89, c90, c91, c92, c93, c94, c95,
    c96, c97, c98, c99, c100, c101, c102, c103, c104, c105, c106, c107,
    c108, c109, c110, c111, c112, c113, c114, c115, c116, c117, c118, c119,
    c120, c121, c122, c123, c124, c125, c126, c127, c128, c129, c130, c131,
    c132, c133, c134, c135, c136, c137, c138, c139, c140, c141, c142, c143,
    c144, c145, c146, c147, c148, c149, c150, c151, c152, c153, c154, c155,
    c156, c157, c158, c159, c160, c161, c162, c163, c164, c165, c166, c167,
    c168, c169, c170, c171, c172, c173, c174, c175, c176, c177, c178, c179,
    c180, c181], []⟩ w2 := by
  conv => arg 2; whnf
  have HN := Hid.mkq hN
  have HX3 := Hid.mkq hX
  have HHO := Hid.mkq hho
  have HHW := Hid.mkq hhw
  have HWA := Hid.mkq hwa
  have HWG := Hid.mkq hwg
  clear hN hX hho hhw hwa hwg
  refine wp_with fun fr hfr => ?_
  refine wp_withQ fun Q1 hQ1 => ?_
  have hpan : ∀ (d : Nat) (v : Value) (c : List PanicEntry) (a : Act) (w : World), Q1 (.panic c) (a.put (some d) v) w → Q1 (.panic c) a w := fun d v c a w h => by rw [hQ1] at h ⊢; exact h
  have HQ1 := Hid.mkq hQ1
  clear hQ1
  have hsz : fr.tmps.size = 182 := by rw [hfr]; rfl
  obtain ⟨_, t6⟩ : ∃ h : 6 < fr.tmps.size, fr.tmps[6] = .pointer (some ⟨xb, 0, none⟩) := Array.getElem?_eq_some_iff.1 (by rw [hfr]; rfl)
  obtain ⟨_, t3⟩ : ∃ h : 3 < fr.tmps.size, fr.tmps[3] = .pointer (some ⟨tb, 0, none⟩) := Array.getElem?_eq_some_iff.1 (by rw [hfr]; rfl)
  obtain ⟨_, t4⟩ : ∃ h : 4 < fr.tmps.size, fr.tmps[4] = .pointer (some ⟨b, 0, none⟩) := Array.getElem?_eq_some_iff.1 (by rw [hfr]; rfl)
  obtain ⟨_, t16⟩ : ∃ h : 16 < fr.tmps.size, fr.tmps[16] = .slice ka ks.length kc := Array.getElem?_eq_some_iff.1 (by rw [hfr]; rfl)
  obtain ⟨_, t17⟩ : ∃ h : 17 < fr.tmps.size, fr.tmps[17] = .slice ga ks.length gc := Array.getElem?_eq_some_iff.1 (by rw [hfr]; rfl)
  have HFR := Hid.mkq hfr
  clear hfr
  have HB : Hid (w2.cell? ⟨xb, 1, none⟩ = some (.int .i64 x.tx) ∧ w2.cell? ⟨xb, 2, none⟩ = some (.int .i64 x.mode) ∧ w2.cell? ⟨xb, 3, none⟩ = some (.string x.key)) := ⟨HX3.out.cell 1 rfl, HX3.out.cell 2 rfl, HX3.out.cell 3 rfl⟩
  have HC : Hid (Mod noBlock w2 w2.drew) := (Mod.refl _ w2).drew
  refine wp_region_C 99 (fun wq => Mod noBlock w2 wq) rfl ?_
  refine wpAnyC_takeD 99 0 137 (.pointer (some ⟨xb, 1, none⟩)) rfl rfl (by kernel_rfl) (by kernel_rfl) (by kernel_rfl) (by kernel_rfl) (fun c a w h => hpan _ _ c a w h) HC.out ⟨by rfl, fun wq hq => by have q0 := hq.cell HB.out.1 id; have q1 := hq.cell HB.out.2.1 id; have q2 := hq.cell HB.out.2.2 id; go_simp⟩ ?_
  refine wpAnyC_takeD 99 1 138 (.int .i64 x.tx) rfl rfl (by kernel_rfl) (by kernel_rfl) (by kernel_rfl) (by kernel_rfl) (fun c a w h => hpan _ _ c a w h) HC.out ⟨by rfl, fun wq hq => by have q0 := hq.cell HB.out.1 id; have q1 := hq.cell HB.out.2.1 id; have q2 := hq.cell HB.out.2.2 id; go_simp⟩ ?_
  refine wpAnyC_takeD 99 2 139 (.pointer (some ⟨xb, 3, none⟩)) rfl rfl (by kernel_rfl) (by kernel_rfl) (by kernel_rfl) (by kernel_rfl) (fun c a w h => hpan _ _ c a w h) HC.out ⟨by rfl, fun wq hq => by have q0 := hq.cell HB.out.1 id; have q1 := hq.cell HB.out.2.1 id; have q2 := hq.cell HB.out.2.2 id; go_simp⟩ ?_
  refine wpAnyC_takeD 99 3 140 (.string x.key) rfl rfl (by kernel_rfl) (by kernel_rfl) (by kernel_rfl) (by kernel_rfl) (fun c a w h => hpan _ _ c a w h) HC.out ⟨by rfl, fun wq hq => by have q0 := hq.cell HB.out.1 id; have q1 := hq.cell HB.out.2.1 id; have q2 := hq.cell HB.out.2.2 id; go_simp⟩ ?_
  refine wpAnyC_takeD 99 5 142 (.pointer (some ⟨b, 0, none⟩)) rfl rfl (by kernel_rfl) (by kernel_rfl) (by kernel_rfl) (by kernel_rfl) (fun c a w h => hpan _ _ c a w h) HC.out ⟨by rfl, fun wq hq => by have q0 := hq.cell HB.out.1 id; have q1 := hq.cell HB.out.2.1 id; have q2 := hq.cell HB.out.2.2 id; go_simp⟩ ?_
  refine wpAnyC_takeD 99 6 143 (.pointer (some ⟨xb, 1, none⟩)) rfl rfl (by kernel_rfl) (by kernel_rfl) (by kernel_rfl) (by kernel_rfl) (fun c a w h => hpan _ _ c a w h) HC.out ⟨by rfl, fun wq hq => by have q0 := hq.cell HB.out.1 id; have q1 := hq.cell HB.out.2.1 id; have q2 := hq.cell HB.out.2.2 id; go_simp⟩ ?_
  refine wpAnyC_takeD 99 7 144 (.int .i64 x.tx) rfl rfl (by kernel_rfl) (by kernel_rfl) (by kernel_rfl) (by kernel_rfl) (fun c a w h => hpan _ _ c a w h) HC.out ⟨by rfl, fun wq hq => by have q0 := hq.cell HB.out.1 id; have q1 := hq.cell HB.out.2.1 id; have q2 := hq.cell HB.out.2.2 id; go_simp⟩ ?_
  refine wpAnyC_takeD 99 8 145 (.pointer (some ⟨xb, 3, none⟩)) rfl rfl (by kernel_rfl) (by kernel_rfl) (by kernel_rfl) (by kernel_rfl) (fun c a w h => hpan _ _ c a w h) HC.out ⟨by rfl, fun wq hq => by have q0 := hq.cell HB.out.1 id; have q1 := hq.cell HB.out.2.1 id; have q2 := hq.cell HB.out.2.2 id; go_simp⟩ ?_
  refine wpAnyC_takeD 99 9 146 (.string x.key) rfl rfl (by kernel_rfl) (by kernel_rfl) (by kernel_rfl) (by kernel_rfl) (fun c a w h => hpan _ _ c a w h) HC.out ⟨by rfl, fun wq hq => by have q0 := hq.cell HB.out.1 id; have q1 := hq.cell HB.out.2.1 id; have q2 := hq.cell HB.out.2.2 id; go_simp⟩ ?_
  refine wpAnyC_callD 99 4 141 rfl rfl (by kernel_rfl) (by rfl) (f := 12) (args := #[.pointer (some ⟨tb, 0, none⟩), .int .i64 x.tx, .string x.key]) (by go_simp) ((HHO.out _ HC.out).mono ?_)
  rintro e wa ⟨rfl, hma⟩
  have HCa : Hid (Mod noBlock w2 wa) := HC.out.trans hma
  refine ⟨_, rfl, HCa.out, ?_⟩
  clear HC hma
  have HC := HCa
  refine wpAnyC_callD 99 10 147 rfl rfl (by kernel_rfl) (by rfl) (f := 13) (args := #[.pointer (some ⟨b, 0, none⟩), .int .i64 x.tx, .string x.key]) (by go_simp) ((HHW.out _ HC.out).mono ?_)
  rintro e wb ⟨rfl, hmb⟩
  have HCb : Hid (Mod noBlock w2 wb) := HC.out.trans hmb
  refine ⟨_, rfl, HCb.out, ?_⟩
  clear HC HCa hmb
  have HC := HCb
  refine wpAnyC_takeD 99 11 148 (.bool false) rfl rfl (by kernel_rfl) (by kernel_rfl) (by kernel_rfl) (by kernel_rfl) (fun c a w h => hpan _ _ c a w h) HC.out ⟨by rfl, fun wq hq => by have q0 := hq.cell HB.out.1 id; have q1 := hq.cell HB.out.2.1 id; have q2 := hq.cell HB.out.2.2 id; go_simp⟩ ?_
  refine wpAnyC_takeD 99 12 149 (.bool false) rfl rfl (by kernel_rfl) (by kernel_rfl) (by kernel_rfl) (by kernel_rfl) (fun c a w h => hpan _ _ c a w h) HC.out ⟨by rfl, fun wq hq => by have q0 := hq.cell HB.out.1 id; have q1 := hq.cell HB.out.2.1 id; have q2 := hq.cell HB.out.2.2 id; go_simp⟩ ?_
  refine wpAnyC_takeD 99 13 150 (.pointer (some ⟨xb, 3, none⟩)) rfl rfl (by kernel_rfl) (by kernel_rfl) (by kernel_rfl) (by kernel_rfl) (fun c a w h => hpan _ _ c a w h) HC.out ⟨by exact wanted_guard rfl rfl rfl (by go_simp), fun wq hq => by have q0 := hq.cell HB.out.1 id; have q1 := hq.cell HB.out.2.1 id; have q2 := hq.cell HB.out.2.2 id; go_simp⟩ ?_
  refine wpAnyC_takeD 99 14 151 (.string x.key) rfl rfl (by kernel_rfl) (by kernel_rfl) (by kernel_rfl) (by kernel_rfl) (fun c a w h => hpan _ _ c a w h) HC.out ⟨by exact wanted_guard rfl rfl rfl (by go_simp), fun wq hq => by have q0 := hq.cell HB.out.1 id; have q1 := hq.cell HB.out.2.1 id; have q2 := hq.cell HB.out.2.2 id; go_simp⟩ ?_
  refine wpAnyC_takeD 99 16 153 (.pointer (some ⟨b, 0, none⟩)) rfl rfl (by kernel_rfl) (by kernel_rfl) (by kernel_rfl) (by kernel_rfl) (fun c a w h => hpan _ _ c a w h) HC.out ⟨by exact wanted_guard rfl rfl rfl (by go_simp), fun wq hq => by have q0 := hq.cell HB.out.1 id; have q1 := hq.cell HB.out.2.1 id; have q2 := hq.cell HB.out.2.2 id; go_simp⟩ ?_
  refine wpAnyC_takeD 99 17 154 (.pointer (some ⟨xb, 3, none⟩)) rfl rfl (by kernel_rfl) (by kernel_rfl) (by kernel_rfl) (by kernel_rfl) (fun c a w h => hpan _ _ c a w h) HC.out ⟨by exact wanted_guard rfl rfl rfl (by go_simp), fun wq hq => by have q0 := hq.cell HB.out.1 id; have q1 := hq.cell HB.out.2.1 id; have q2 := hq.cell HB.out.2.2 id; go_simp⟩ ?_
  refine wpAnyC_takeD 99 18 155 (.string x.key) rfl rfl (by kernel_rfl) (by kernel_rfl) (by kernel_rfl) (by kernel_rfl) (fun c a w h => hpan _ _ c a w h) HC.out ⟨by exact wanted_guard rfl rfl rfl (by go_simp), fun wq hq => by have q0 := hq.cell HB.out.1 id; have q1 := hq.cell HB.out.2.1 id; have q2 := hq.cell HB.out.2.2 id; go_simp⟩ ?_
  refine wpAnyC_callD 99 15 152 rfl rfl (by kernel_rfl) (by exact wanted_guard rfl rfl rfl (by go_simp)) (f := 14) (args := #[.pointer (some ⟨tb, 0, none⟩), .string x.key]) (by go_simp) ((HWA.out _ HC.out).mono ?_)
  rintro e wa ⟨u1, rfl, hu1, hma⟩
  have HCa : Hid (Mod noBlock w2 wa) := HC.out.trans hma
  have HU1 := Hid.mkq hu1
  refine ⟨_, rfl, HCa.out, ?_⟩
  clear HC HCb hma hu1
  have HC := HCa
  refine wpAnyC_callD 99 19 156 rfl rfl (by kernel_rfl) (by exact wanted_guard rfl rfl rfl (by go_simp)) (f := 15) (args := #[.pointer (some ⟨b, 0, none⟩), .string x.key]) (by go_simp) ((HWG.out _ HC.out).mono ?_)
  rintro e wb ⟨u2, rfl, hu2, hmb⟩
  have HCb : Hid (Mod noBlock w2 wb) := HC.out.trans hmb
  have HSM := Hid.mkq (sameQ_one _ _ u1 u2 ws wb (HU1.out.mod hmb (fun _ _ => id)) hu2)
  refine ⟨_, rfl, HCb.out, ?_⟩
  clear HC HCa hmb HU1 hu2
  have HC := HCb
  refine wpAnyC_callD 99 20 157 rfl rfl (by kernel_rfl) (by exact wanted_guard rfl rfl rfl (by go_simp)) (f := 7) (args := #[u1, u2]) (by go_simp) (HSM.out.mono ?_)
  rintro e wa ⟨rfl, hma⟩
  have HCa : Hid (Mod noBlock w2 wa) := HC.out.trans hma
  refine ⟨_, rfl, HCa.out, ?_⟩
  clear HC HCb hma HSM
  have HC := HCa
  refine wpAnyC_takeD 99 21 158 (.bool false) rfl rfl (by kernel_rfl) (by kernel_rfl) (by kernel_rfl) (by kernel_rfl) (fun c a w h => hpan _ _ c a w h) HC.out ⟨by exact wanted_guard rfl rfl rfl (by go_simp), fun wq hq => by have q0 := hq.cell HB.out.1 id; have q1 := hq.cell HB.out.2.1 id; have q2 := hq.cell HB.out.2.2 id; go_simp⟩ ?_
  refine wpAnyC_takeD 99 22 159 (.bool false) rfl rfl (by kernel_rfl) (by kernel_rfl) (by kernel_rfl) (by kernel_rfl) (fun c a w h => hpan _ _ c a w h) HC.out ⟨by rfl, fun wq hq => by have q0 := hq.cell HB.out.1 id; have q1 := hq.cell HB.out.2.1 id; have q2 := hq.cell HB.out.2.2 id; go_simp⟩ ?_
  refine wpAnyC_takeD 99 23 160 (.bool false) rfl rfl (by kernel_rfl) (by kernel_rfl) (by kernel_rfl) (by kernel_rfl) (fun c a w h => hpan _ _ c a w h) HC.out ⟨by rfl, fun wq hq => by have q0 := hq.cell HB.out.1 id; have q1 := hq.cell HB.out.2.1 id; have q2 := hq.cell HB.out.2.2 id; go_simp⟩ ?_
  refine wpAnyC_takeD 99 24 161 (.slice ga ks.length gc) rfl rfl (by kernel_rfl) (by kernel_rfl) (by kernel_rfl) (by kernel_rfl) (fun c a w h => hpan _ _ c a w h) HC.out ⟨by exact wanted_guard rfl rfl rfl (by go_simp), fun wq hq => by have q0 := hq.cell HB.out.1 id; have q1 := hq.cell HB.out.2.1 id; have q2 := hq.cell HB.out.2.2 id; go_simp⟩ ?_
  refine wpAnyC_takeD 99 25 162 (.int .i64 ks.length) rfl rfl (by kernel_rfl) (by kernel_rfl) (by kernel_rfl) (by kernel_rfl) (fun c a w h => hpan _ _ c a w h) HC.out ⟨by exact wanted_guard rfl rfl rfl (by go_simp), fun wq hq => by have q0 := hq.cell HB.out.1 id; have q1 := hq.cell HB.out.2.1 id; have q2 := hq.cell HB.out.2.2 id; go_simp⟩ ?_
  refine wpAnyC_takeD 99 26 163 (.slice ka ks.length kc) rfl rfl (by kernel_rfl) (by kernel_rfl) (by kernel_rfl) (by kernel_rfl) (fun c a w h => hpan _ _ c a w h) HC.out ⟨by exact wanted_guard rfl rfl rfl (by go_simp), fun wq hq => by have q0 := hq.cell HB.out.1 id; have q1 := hq.cell HB.out.2.1 id; have q2 := hq.cell HB.out.2.2 id; go_simp⟩ ?_
  refine wpAnyC_takeD 99 27 164 (.int .i64 ks.length) rfl rfl (by kernel_rfl) (by kernel_rfl) (by kernel_rfl) (by kernel_rfl) (fun c a w h => hpan _ _ c a w h) HC.out ⟨by exact wanted_guard rfl rfl rfl (by go_simp), fun wq hq => by have q0 := hq.cell HB.out.1 id; have q1 := hq.cell HB.out.2.1 id; have q2 := hq.cell HB.out.2.2 id; go_simp⟩ ?_
  refine wpAnyC_takeD 99 28 165 (.bool false) rfl rfl (by kernel_rfl) (by kernel_rfl) (by kernel_rfl) (by kernel_rfl) (fun c a w h => hpan _ _ c a w h) HC.out ⟨by exact wanted_guard rfl rfl rfl (by go_simp), fun wq hq => by have q0 := hq.cell HB.out.1 id; have q1 := hq.cell HB.out.2.1 id; have q2 := hq.cell HB.out.2.2 id; go_simp⟩ ?_
  refine wpAnyC_takeD 99 29 166 (.bool false) rfl rfl (by kernel_rfl) (by kernel_rfl) (by kernel_rfl) (by kernel_rfl) (fun c a w h => hpan _ _ c a w h) HC.out ⟨by rfl, fun wq hq => by have q0 := hq.cell HB.out.1 id; have q1 := hq.cell HB.out.2.1 id; have q2 := hq.cell HB.out.2.2 id; go_simp⟩ ?_
  refine ⟨by kernel_rfl, ?_⟩
  have hQ1 := HQ1.out
  subst hQ1
  have hfr := HFR.out
  subst hfr
  exact pieceQ_as (b := ⟨#[c0, c1, c2, .pointer (some ⟨tb, 0, none⟩), .pointer (some ⟨b, 0, none⟩), c5, .pointer (some ⟨xb, 0, none⟩), c7, c8, c9, c10, c11,
    c12, c13, c14, c15, .slice ka ks.length kc, .slice ga ks.length gc, c18, c19, c20, c21, c22, c23,
    c24, c25, c26, c27, c28, c29, c30, c31, c32, c33, c34, c35,
    c36, c37, c38, c39, c40, c41, c42, c43, c44, c45, c46, c47,
    c48, c49, c50, c51, c52, c53, c54, c55, c56, c57, c58, c59,
    c60, c61, c62, c63, c64, c65, c66, c67, c68, c69, c70, c71,
    c72, c73, c74, c75, c76, c77, c78, c79, c80, c81, c82, c83,
    c84, c85, c86, c87, c88, c89, c90, c91, c92, c93, c94, c95,
    c96, c97, c98, c99, c100, c101, c102, c103, c104, c105, c106, c107,
    c108, c109, c110, c111, c112, c113, c114, c115, c116, c117, c118, c119,
    c120, c121, c122, c123, c124, c125, c126, c127, c128, c129, c130, c131,
    c132, c133, c134, c135, c136, .pointer (some ⟨xb, 1, none⟩), .int .i64 x.tx, .pointer (some ⟨xb, 3, none⟩), .string x.key, .int .i64 m, .pointer (some ⟨b, 0, none⟩), .pointer (some ⟨xb, 1, none⟩),
    .int .i64 x.tx, .pointer (some ⟨xb, 3, none⟩), .string x.key, .int .i64 m, .bool false, .bool false, .pointer (some ⟨xb, 3, none⟩), .string x.key, u1, .pointer (some ⟨b, 0, none⟩), .pointer (some ⟨xb, 3, none⟩), .string x.key,
    u2, .bool true, .bool false, .bool false, .bool false, .slice ga ks.length gc, .int .i64 ks.length, .slice ka ks.length kc, .int .i64 ks.length, .bool false, .bool false, c167,
    c168, c169, c170, c171, c172, c173, c174, c175, c176, c177, c178, c179,
    c180, c181], []⟩) (HN.out _ _ _ _ _ _ _ _ _ _ _ _ _ _ _ _ _ _ _ _ _ _ _ _ _ _ _ _ _ wa HC.out) (by kernel_rfl)
end Go.Proofs.YtkoncehhpiegfaaGreatDoor
