/- The law NetPlays: its switch, none of its cases; a node goes down. -/
import Derived.Test.YtdbbgfbcbfbihaaDoorNpa
namespace Go.Proofs.YtdbbgfbcbfbihaaDoor
open Go.RowKit Go.Lib Go.Maps
set_option linter.unusedVariables false

set_option maxRecDepth 100000 in
set_option maxHeartbeats 4000000 in
theorem netArmX (c0 c1 c2 c3 c4 c7 c8 c12 c13 c14 c15 c16 c17 c18 c19 c20 c21 c22 c23 c24 c25 c26 c27 c28 c29 c30 c31 c32 c33 c34 c35 c36 c37 c38 c39 c40 c41 c42 c43 c44 c45 c46 c47 c48 c49 c50 c51 c52 c53 c54 c55 c56 c57 c58 c59 c60 c61 c62 c63 c64 c65 c66 c67 c68 c69 c70 c71 c73 c74 c75 c76 c77 c78 c79 c80 c81 c82 c83 c84 c85 c86 c87 c88 c89 c90 c91 c92 c93 c94 c95 c96 c97 c98 c99 c100 c101 c102 c103 c104 c105 c106 c107 c108 c109 c110 c111 c112 c113 c114 c115 c116 c117 c118 c119 c120 c121 c122 c123 c124 c125 c126 c127 c128 c129 c130 c131 c132 c133 c134 c135 c136 c137 c138 c139 c140 c141 c142 c143 c144 c145 c146 c147 c148 c149 c150 c151 c152 c153 c154 c155 c156 c157 c158 c159 c160 c161 c162 c163 c164 c165 c166 c167 c168 c169 c170 c171 c172 c173 c174 c175 c176 c177 c178 c179 c180 c181 c182 c183 c184 c185 c186 c187 c188 c189 c190 c191 c192 c193 c194 c195 c196 c197 c198 c199 c200 c201 c202 c203 c204 c205 c206 c207 c208 c209 c210 c211 c212 c213 c214 c215 c216 c217 c218 c219 c220 c221 c222 c223 c224 c225 c226 c227 c228 c229 c230 c231 c232 : Value)
    (w wc : World) (q : Nat) (x : WayD) (ma : Option Addr) (mcap : Nat) (wv : Value) (mr : Option Nat) (lv dv : Value) (s : NetS) (lo : Int) (dn : Nat) (th : Bool) (er : Int) (hth : Hid (th = hasB s x.k)) (her : Hid (er = if th then 0 else 2))
    (hT : Two wc w.heap.size w.heap.size (w.heap.size + 1) wv mr lv dv s s) (hcl : clean s) (hlo : s.lost ≤ lo) (hlo2 : lo ≤ 100000) (hdn : s.down.length ≤ dn) (hdn2 : dn ≤ 1000) (hM : Mod noBlock w wc)
    (hB : Blk wc q [.int .i64 x.what, .int .i64 x.k, .slice ma x.msgs.length mcap] 69) (hms : MsgsR wc w.heap.size (.slice ma x.msgs.length mcap) x.msgs) (h10 : x.msgs.length ≤ 10) (hik : int64 x.k) (het : ET w) (hw0 : x.what ≠ 0) (hw1 : x.what ≠ 1) (hw2 : x.what ≠ 2) (hw3 : x.what ≠ 3) (hw4 : x.what ≠ 4)
    {R : Act → World → Prop}
    (hN : ∀ (u4 u10 u11 u12 u13 u14 u15 u16 u17 u72 u73 u74 u75 u76 u77 u78 u79 u80 u81 u82 u83 u84 u85 u86 u87 u88 u89 u90 u91 u92 u93 u94 u95 u96 u97 u98 u99 u100 u101 u102 u103 u104 u105 u106 u107 u108 u109 u110 u111 u112 u113 u114 u115 u116 u117 u118 u119 u120 u121 u122 u123 u124 u125 u126 u127 u128 u129 u130 u131 u132 u133 u134 u135 u136 u137 u138 u139 u140 u141 u142 u143 u144 u145 u146 u147 u148 u149 u150 u151 u152 u153 u154 u155 u156 u157 u158 u159 u160 u161 u162 u163 u164 u165 u166 u167 u168 u169 u170 u171 u172 u173 u174 u175 u176 u177 u178 u179 u180 u181 u182 u183 u184 u185 u186 u187 : Value) (wd : World), After w (lo + 200) (dn + 1) wd → R ⟨#[c0, c1, c2, c3, u4, .pointer (some ⟨w.heap.size, 0, none⟩), .pointer (some ⟨w.heap.size + 1, 0, none⟩), c7, c8, .pointer (some ⟨q, 0, none⟩), u10, u11,
    u12, u13, u14, u15, u16, u17, c18, c19, c20, c21, c22, c23,
    c24, c25, c26, c27, c28, c29, c30, c31, c32, c33, c34, c35,
    c36, c37, c38, c39, c40, c41, c42, c43, c44, c45, c46, c47,
    c48, c49, c50, c51, c52, c53, c54, c55, c56, c57, c58, c59,
    c60, c61, c62, c63, c64, c65, c66, c67, c68, c69, c70, c71,
    u72, u73, u74, u75, u76, u77, u78, u79, u80, u81, u82, u83,
    u84, u85, u86, u87, u88, u89, u90, u91, u92, u93, u94, u95,
    u96, u97, u98, u99, u100, u101, u102, u103, u104, u105, u106, u107,
    u108, u109, u110, u111, u112, u113, u114, u115, u116, u117, u118, u119,
    u120, u121, u122, u123, u124, u125, u126, u127, u128, u129, u130, u131,
    u132, u133, u134, u135, u136, u137, u138, u139, u140, u141, u142, u143,
    u144, u145, u146, u147, u148, u149, u150, u151, u152, u153, u154, u155,
    u156, u157, u158, u159, u160, u161, u162, u163, u164, u165, u166, u167,
    u168, u169, u170, u171, u172, u173, u174, u175, u176, u177, u178, u179,
    u180, u181, u182, u183, u184, u185, u186, u187, c188, c189, c190, c191,
    c192, c193, c194, c195, c196, c197, c198, c199, c200, c201, c202, c203,
    c204, c205, c206, c207, c208, c209, c210, c211, c212, c213, c214, c215,
    c216, c217, c218, c219, c220, c221, c222, c223, c224, c225, c226, c227,
    c228, c229, c230, c231, c232], []⟩ wd) :
    Code.wp Tryd.prog netSw (netQ w R) ⟨#[c0, c1, c2, c3, c4, .pointer (some ⟨w.heap.size, 0, none⟩), .pointer (some ⟨w.heap.size + 1, 0, none⟩), c7, c8, .pointer (some ⟨q, 0, none⟩), .bool th, .int .i64 er,
    c12, c13, c14, c15, c16, c17, c18, c19, c20, c21, c22, c23,
    c24, c25, c26, c27, c28, c29, c30, c31, c32, c33, c34, c35,
    c36, c37, c38, c39, c40, c41, c42, c43, c44, c45, c46, c47,
    c48, c49, c50, c51, c52, c53, c54, c55, c56, c57, c58, c59,
    c60, c61, c62, c63, c64, c65, c66, c67, c68, c69, c70, c71,
    .int .i64 x.what, c73, c74, c75, c76, c77, c78, c79, c80, c81, c82, c83,
    c84, c85, c86, c87, c88, c89, c90, c91, c92, c93, c94, c95,
    c96, c97, c98, c99, c100, c101, c102, c103, c104, c105, c106, c107,
    c108, c109, c110, c111, c112, c113, c114, c115, c116, c117, c118, c119,
    c120, c121, c122, c123, c124, c125, c126, c127, c128, c129, c130, c131,
    c132, c133, c134, c135, c136, c137, c138, c139, c140, c141, c142, c143,
    c144, c145, c146, c147, c148, c149, c150, c151, c152, c153, c154, c155,
    c156, c157, c158, c159, c160, c161, c162, c163, c164, c165, c166, c167,
    c168, c169, c170, c171, c172, c173, c174, c175, c176, c177, c178, c179,
    c180, c181, c182, c183, c184, c185, c186, c187, c188, c189, c190, c191,
    c192, c193, c194, c195, c196, c197, c198, c199, c200, c201, c202, c203,
    c204, c205, c206, c207, c208, c209, c210, c211, c212, c213, c214, c215,
    c216, c217, c218, c219, c220, c221, c222, c223, c224, c225, c226, c227,
    c228, c229, c230, c231, c232], []⟩ wc := by
  conv => arg 2; whnf
  have HN := Hid.mk' hN
  clear hN
  have d0 : (x.what == 0) = false := by simpa using hw0
  have d1 : (x.what == 1) = false := by simpa using hw1
  have d2 : (x.what == 2) = false := by simpa using hw2
  have d3 : (x.what == 3) = false := by simpa using hw3
  have d4 : (x.what == 4) = false := by simpa using hw4
  have HA : Hid (After w (lo + 200) (dn + 1) wc) := ⟨wv, mr, lv, dv, s, hT, hcl, by omega, by omega, hM⟩
  clear hT hM hB hms
  go_wp2_with fail
  show R _ _
  apply HN.out
  exact HA.out

set_option maxRecDepth 100000 in
set_option maxHeartbeats 4000000 in
theorem netArm4 (c0 c1 c2 c3 c4 c7 c8 c12 c13 c14 c15 c16 c17 c18 c19 c20 c21 c22 c23 c24 c25 c26 c27 c28 c29 c30 c31 c32 c33 c34 c35 c36 c37 c38 c39 c40 c41 c42 c43 c44 c45 c46 c47 c48 c49 c50 c51 c52 c53 c54 c55 c56 c57 c58 c59 c60 c61 c62 c63 c64 c65 c66 c67 c68 c69 c70 c71 c73 c74 c75 c76 c77 c78 c79 c80 c81 c82 c83 c84 c85 c86 c87 c88 c89 c90 c91 c92 c93 c94 c95 c96 c97 c98 c99 c100 c101 c102 c103 c104 c105 c106 c107 c108 c109 c110 c111 c112 c113 c114 c115 c116 c117 c118 c119 c120 c121 c122 c123 c124 c125 c126 c127 c128 c129 c130 c131 c132 c133 c134 c135 c136 c137 c138 c139 c140 c141 c142 c143 c144 c145 c146 c147 c148 c149 c150 c151 c152 c153 c154 c155 c156 c157 c158 c159 c160 c161 c162 c163 c164 c165 c166 c167 c168 c169 c170 c171 c172 c173 c174 c175 c176 c177 c178 c179 c180 c181 c182 c183 c184 c185 c186 c187 c188 c189 c190 c191 c192 c193 c194 c195 c196 c197 c198 c199 c200 c201 c202 c203 c204 c205 c206 c207 c208 c209 c210 c211 c212 c213 c214 c215 c216 c217 c218 c219 c220 c221 c222 c223 c224 c225 c226 c227 c228 c229 c230 c231 c232 : Value)
    (w wc : World) (q : Nat) (x : WayD) (ma : Option Addr) (mcap : Nat) (wv : Value) (mr : Option Nat) (lv dv : Value) (s : NetS) (lo : Int) (dn : Nat) (th : Bool) (er : Int) (hth : Hid (th = hasB s x.k)) (her : Hid (er = if th then 0 else 2))
    (hT : Two wc w.heap.size w.heap.size (w.heap.size + 1) wv mr lv dv s s) (hcl : clean s) (hlo : s.lost ≤ lo) (hlo2 : lo ≤ 100000) (hdn : s.down.length ≤ dn) (hdn2 : dn ≤ 1000) (hM : Mod noBlock w wc)
    (hB : Blk wc q [.int .i64 x.what, .int .i64 x.k, .slice ma x.msgs.length mcap] 69) (hms : MsgsR wc w.heap.size (.slice ma x.msgs.length mcap) x.msgs) (h10 : x.msgs.length ≤ 10) (hik : int64 x.k) (het : ET w) (hw : x.what = 4)
    {R : Act → World → Prop}
    (hN : ∀ (u4 u10 u11 u12 u13 u14 u15 u16 u17 u72 u73 u74 u75 u76 u77 u78 u79 u80 u81 u82 u83 u84 u85 u86 u87 u88 u89 u90 u91 u92 u93 u94 u95 u96 u97 u98 u99 u100 u101 u102 u103 u104 u105 u106 u107 u108 u109 u110 u111 u112 u113 u114 u115 u116 u117 u118 u119 u120 u121 u122 u123 u124 u125 u126 u127 u128 u129 u130 u131 u132 u133 u134 u135 u136 u137 u138 u139 u140 u141 u142 u143 u144 u145 u146 u147 u148 u149 u150 u151 u152 u153 u154 u155 u156 u157 u158 u159 u160 u161 u162 u163 u164 u165 u166 u167 u168 u169 u170 u171 u172 u173 u174 u175 u176 u177 u178 u179 u180 u181 u182 u183 u184 u185 u186 u187 : Value) (wd : World), After w (lo + 200) (dn + 1) wd → R ⟨#[c0, c1, c2, c3, u4, .pointer (some ⟨w.heap.size, 0, none⟩), .pointer (some ⟨w.heap.size + 1, 0, none⟩), c7, c8, .pointer (some ⟨q, 0, none⟩), u10, u11,
    u12, u13, u14, u15, u16, u17, c18, c19, c20, c21, c22, c23,
    c24, c25, c26, c27, c28, c29, c30, c31, c32, c33, c34, c35,
    c36, c37, c38, c39, c40, c41, c42, c43, c44, c45, c46, c47,
    c48, c49, c50, c51, c52, c53, c54, c55, c56, c57, c58, c59,
    c60, c61, c62, c63, c64, c65, c66, c67, c68, c69, c70, c71,
    u72, u73, u74, u75, u76, u77, u78, u79, u80, u81, u82, u83,
    u84, u85, u86, u87, u88, u89, u90, u91, u92, u93, u94, u95,
    u96, u97, u98, u99, u100, u101, u102, u103, u104, u105, u106, u107,
    u108, u109, u110, u111, u112, u113, u114, u115, u116, u117, u118, u119,
    u120, u121, u122, u123, u124, u125, u126, u127, u128, u129, u130, u131,
    u132, u133, u134, u135, u136, u137, u138, u139, u140, u141, u142, u143,
    u144, u145, u146, u147, u148, u149, u150, u151, u152, u153, u154, u155,
    u156, u157, u158, u159, u160, u161, u162, u163, u164, u165, u166, u167,
    u168, u169, u170, u171, u172, u173, u174, u175, u176, u177, u178, u179,
    u180, u181, u182, u183, u184, u185, u186, u187, c188, c189, c190, c191,
    c192, c193, c194, c195, c196, c197, c198, c199, c200, c201, c202, c203,
    c204, c205, c206, c207, c208, c209, c210, c211, c212, c213, c214, c215,
    c216, c217, c218, c219, c220, c221, c222, c223, c224, c225, c226, c227,
    c228, c229, c230, c231, c232], []⟩ wd) :
    Code.wp Tryd.prog netSw (netQ w R) ⟨#[c0, c1, c2, c3, c4, .pointer (some ⟨w.heap.size, 0, none⟩), .pointer (some ⟨w.heap.size + 1, 0, none⟩), c7, c8, .pointer (some ⟨q, 0, none⟩), .bool th, .int .i64 er,
    c12, c13, c14, c15, c16, c17, c18, c19, c20, c21, c22, c23,
    c24, c25, c26, c27, c28, c29, c30, c31, c32, c33, c34, c35,
    c36, c37, c38, c39, c40, c41, c42, c43, c44, c45, c46, c47,
    c48, c49, c50, c51, c52, c53, c54, c55, c56, c57, c58, c59,
    c60, c61, c62, c63, c64, c65, c66, c67, c68, c69, c70, c71,
    .int .i64 x.what, c73, c74, c75, c76, c77, c78, c79, c80, c81, c82, c83,
    c84, c85, c86, c87, c88, c89, c90, c91, c92, c93, c94, c95,
    c96, c97, c98, c99, c100, c101, c102, c103, c104, c105, c106, c107,
    c108, c109, c110, c111, c112, c113, c114, c115, c116, c117, c118, c119,
    c120, c121, c122, c123, c124, c125, c126, c127, c128, c129, c130, c131,
    c132, c133, c134, c135, c136, c137, c138, c139, c140, c141, c142, c143,
    c144, c145, c146, c147, c148, c149, c150, c151, c152, c153, c154, c155,
    c156, c157, c158, c159, c160, c161, c162, c163, c164, c165, c166, c167,
    c168, c169, c170, c171, c172, c173, c174, c175, c176, c177, c178, c179,
    c180, c181, c182, c183, c184, c185, c186, c187, c188, c189, c190, c191,
    c192, c193, c194, c195, c196, c197, c198, c199, c200, c201, c202, c203,
    c204, c205, c206, c207, c208, c209, c210, c211, c212, c213, c214, c215,
    c216, c217, c218, c219, c220, c221, c222, c223, c224, c225, c226, c227,
    c228, c229, c230, c231, c232], []⟩ wc := by
  conv => arg 2; whnf
  have HN := Hid.mk' hN
  clear hN
  have p1 := hB.cell 1 rfl
  rw [hw]
  have HM := Hid.mk' hM
  have HT := Hid.mk' hT
  have HLO := hT.p.lo
  have hqz := hB.lt
  have HB := Hid.mk' hB
  clear hT hM hB hms
  have hid2 := downS_eq hcl x.k
  have HD := Hid.mk' (down_any w.heap.size w.heap.size wv mr s x.k wc HT.out.p hik (by omega) (by omega))
  have HDL := downS_lost s x.k HT.out.p.few
  go_upto_region 52 with fail
  go_region_with (first
    | (go_at_call 33; refine (down_any w.heap.size w.heap.size wv mr s x.k _ (HT.out.quiet ((Mod.refl _ wc).drew)).p hik (by omega) (by omega)).mono ?_; rintro e w3 ⟨wv3, mr3, rfl, hN3, hv3, hr3, hm3⟩; have hT3 := (HT.out.quiet ((Mod.refl _ wc).drew)).net hN3 (.inl hv3) hr3 hm3; have hB3 := (HT.out.quiet ((Mod.refl _ wc).drew)).blkP (HB.out.mod ((Mod.refl noBlock wc).drew) id) hm3; have hM3 := (HT.out.quiet ((Mod.refl _ wc).drew)).modP (HM.out.drew) (Nat.le_refl _) hm3; have p3 := hB3.cell 1 rfl; have z3 := hB3.lt)
    | (go_at_call 34; refine (rdown_any w.heap.size (w.heap.size + 1) lv dv s x.k _ hT3.r (by omega) (by omega)).mono ?_; rintro e w4 ⟨lv4, dv4, rfl, hR4, hv4, hd4, hm4⟩; have hT4 := hT3.ref hR4 hv4 hd4 hm4; have hM4 := hT3.modR hM3 (Nat.le_refl _) hm4)
    | fail)
  all_goals
    rw [← hid2] at hT4 ⊢
    have HA : Hid (After w (lo + 200) (dn + 1) w4) := ⟨wv3, mr3, lv4, dv4, _, hT4, clean_downS, by omega, by simp [downS]; omega, hM4⟩
    clear hT3 hT4 hM4 hM3 HDL hid2
    go_wp2_with fail
    show R _ _
    apply HN.out
    exact HA.out
end Go.Proofs.YtdbbgfbcbfbihaaDoor
