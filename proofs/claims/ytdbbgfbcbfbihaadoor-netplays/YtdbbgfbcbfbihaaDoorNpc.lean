/- The law NetPlays: its switch: one is taken. -/
import Derived.Test.YtdbbgfbcbfbihaaDoorNpa
namespace Go.Proofs.YtdbbgfbcbfbihaaDoor
open Go.RowKit Go.Lib Go.Maps
set_option linter.unusedVariables false

theorem hasB_yes {s : NetS} {k : Int} (h : hasB s k = true) : ∃ (n : Nat) (m : MsgD), k = n ∧ s.way[n]? = some m := by
  simp only [hasB, Bool.and_eq_true, decide_eq_true_eq] at h
  exact ⟨k.toNat, s.way[k.toNat]'(by omega), by omega, List.getElem?_eq_getElem _⟩

set_option maxRecDepth 100000 in
set_option maxHeartbeats 4000000 in
theorem netArm1y (c0 c1 c2 c3 c4 c7 c8 c12 c13 c14 c15 c16 c17 c18 c19 c20 c21 c22 c23 c24 c25 c26 c27 c28 c29 c30 c31 c32 c33 c34 c35 c36 c37 c38 c39 c40 c41 c42 c43 c44 c45 c46 c47 c48 c49 c50 c51 c52 c53 c54 c55 c56 c57 c58 c59 c60 c61 c62 c63 c64 c65 c66 c67 c68 c69 c70 c71 c73 c74 c75 c76 c77 c78 c79 c80 c81 c82 c83 c84 c85 c86 c87 c88 c89 c90 c91 c92 c93 c94 c95 c96 c97 c98 c99 c100 c101 c102 c103 c104 c105 c106 c107 c108 c109 c110 c111 c112 c113 c114 c115 c116 c117 c118 c119 c120 c121 c122 c123 c124 c125 c126 c127 c128 c129 c130 c131 c132 c133 c134 c135 c136 c137 c138 c139 c140 c141 c142 c143 c144 c145 c146 c147 c148 c149 c150 c151 c152 c153 c154 c155 c156 c157 c158 c159 c160 c161 c162 c163 c164 c165 c166 c167 c168 c169 c170 c171 c172 c173 c174 c175 c176 c177 c178 c179 c180 c181 c182 c183 c184 c185 c186 c187 c188 c189 c190 c191 c192 c193 c194 c195 c196 c197 c198 c199 c200 c201 c202 c203 c204 c205 c206 c207 c208 c209 c210 c211 c212 c213 c214 c215 c216 c217 c218 c219 c220 c221 c222 c223 c224 c225 c226 c227 c228 c229 c230 c231 c232 : Value)
    (w wc : World) (q : Nat) (x : WayD) (ma : Option Addr) (mcap : Nat) (wv : Value) (mr : Option Nat) (lv dv : Value) (s : NetS) (lo : Int) (dn : Nat) (th : Bool) (er : Int) (hth : Hid (th = hasB s x.k)) (her : Hid (er = if th then 0 else 2))
    (hT : Two wc w.heap.size w.heap.size (w.heap.size + 1) wv mr lv dv s s) (hcl : clean s) (hlo : s.lost ≤ lo) (hlo2 : lo ≤ 100000) (hdn : s.down.length ≤ dn) (hdn2 : dn ≤ 1000) (hM : Mod noBlock w wc)
    (hB : Blk wc q [.int .i64 x.what, .int .i64 x.k, .slice ma x.msgs.length mcap] 69) (hms : MsgsR wc w.heap.size (.slice ma x.msgs.length mcap) x.msgs) (h10 : x.msgs.length ≤ 10) (hik : int64 x.k) (het : ET w) (hw : x.what = 1) (hy : th = true)
    {R : Act → World → Prop}
    (hN : ∀ (u4 u10 u11 u12 u13 u14 u15 u16 u17 u72 u73 u74 u75 u76 u77 u78 u79 u80 u81 u82 u83 u84 u85 u86 u87 u88 u89 u90 u91 u92 u93 u94 u95 u96 u97 u98 u99 u100 u101 u102 u103 u104 u105 u106 u107 u108 u109 u110 u111 u112 u113 u114 u115 u116 u117 u118 u119 u120 u121 u122 u123 u124 u125 u126 u127 u128 u129 u130 u131 u132 u133 u134 u135 u136 u137 u138 u139 u140 u141 u142 u143 u144 u145 u146 u147 u148 u149 u150 u151 u152 u153 u154 u155 u156 u157 u158 u159 u160 u161 u162 u163 u164 u165 u166 u167 u168 u169 u170 u171 u172 u173 u174 u175 u176 u177 u178 u179 u180 u181 u182 u183 u184 u185 u186 u187 : Value) (wd : World), After w (lo + 200) (dn + 1) wd → R ⟨#[c0, c1, c2, c3, u4, .pointer (some ⟨w.heap.size, 0, none⟩), .pointer (some ⟨w.heap.size + 1, 0, none⟩), c7, c8, .pointer (some ⟨q, 0, none⟩), u10, u11,
    u12, u13, u14, u15, u16, u17, c18, c19, c20, c21, c22, c23,
    c24, c25, c26, c27, c28, c29, c30, c31, c32, c33, c34, c35,
    c36, c37, c38, c39, c40, c41, c42, c43, c44, c45, c46, c47,
    c48, c49, c50, c51, c52, c53, c54, c55, c56, c57, c58, c59,
    c60, c61, c62, c63, c64, c65, c66, c67, c68, c69, c70, c71,
    u72, u73, u74, u75, u76, u77, u78, u79, u80, u81, u82, u83,
    u84, u85, u86, u87, u88, u89, u90, u91, u92, u93, u94, u95,
    u96, u97, u98, u99, u100, u101, u102, u103, u104, u105, u106, u107,
    u108, u109, u110, u111, u112, u113, u114, u115, u116, u117, u118, u119,
    u120, u121, u122, u123, u124, u125, u126, u127, u128, u129, u130, u131,
    u132, u133, u134, u135, u136, u137, u138, u139, u140, u141, u142, u143,
    u144, u145, u146, u147, u148, u149, u150, u151, u152, u153, u154, u155,
    u156, u157, u158, u159, u160, u161, u162, u163, u164, u165, u166, u167,
    u168, u169, u170, u171, u172, u173, u174, u175, u176, u177, u178, u179,
    u180, u181, u182, u183, u184, u185, u186, u187, c188, c189, c190, c191,
    c192, c193, c194, c195, c196, c197, c198, c199, c200, c201, c202, c203,
    c204, c205, c206, c207, c208, c209, c210, c211, c212, c213, c214, c215,
    c216, c217, c218, c219, c220, c221, c222, c223, c224, c225, c226, c227,
    c228, c229, c230, c231, c232], []⟩ wd) :
    Code.wp Tryd.prog netSw (netQ w R) ⟨#[c0, c1, c2, c3, c4, .pointer (some ⟨w.heap.size, 0, none⟩), .pointer (some ⟨w.heap.size + 1, 0, none⟩), c7, c8, .pointer (some ⟨q, 0, none⟩), .bool th, .int .i64 er,
    c12, c13, c14, c15, c16, c17, c18, c19, c20, c21, c22, c23,
    c24, c25, c26, c27, c28, c29, c30, c31, c32, c33, c34, c35,
    c36, c37, c38, c39, c40, c41, c42, c43, c44, c45, c46, c47,
    c48, c49, c50, c51, c52, c53, c54, c55, c56, c57, c58, c59,
    c60, c61, c62, c63, c64, c65, c66, c67, c68, c69, c70, c71,
    .int .i64 x.what, c73, c74, c75, c76, c77, c78, c79, c80, c81, c82, c83,
    c84, c85, c86, c87, c88, c89, c90, c91, c92, c93, c94, c95,
    c96, c97, c98, c99, c100, c101, c102, c103, c104, c105, c106, c107,
    c108, c109, c110, c111, c112, c113, c114, c115, c116, c117, c118, c119,
    c120, c121, c122, c123, c124, c125, c126, c127, c128, c129, c130, c131,
    c132, c133, c134, c135, c136, c137, c138, c139, c140, c141, c142, c143,
    c144, c145, c146, c147, c148, c149, c150, c151, c152, c153, c154, c155,
    c156, c157, c158, c159, c160, c161, c162, c163, c164, c165, c166, c167,
    c168, c169, c170, c171, c172, c173, c174, c175, c176, c177, c178, c179,
    c180, c181, c182, c183, c184, c185, c186, c187, c188, c189, c190, c191,
    c192, c193, c194, c195, c196, c197, c198, c199, c200, c201, c202, c203,
    c204, c205, c206, c207, c208, c209, c210, c211, c212, c213, c214, c215,
    c216, c217, c218, c219, c220, c221, c222, c223, c224, c225, c226, c227,
    c228, c229, c230, c231, c232], []⟩ wc := by
  conv => arg 2; whnf
  have HN := Hid.mk' hN
  clear hN
  obtain ⟨kn, m, hkn, hm⟩ := hasB_yes (s := s) (k := x.k) (by rw [← hth.out, hy])
  have her' := her.out
  rw [hy] at her'
  simp only [if_true] at her'
  subst hy her'
  rw [hkn] at hB
  have HET := Hid.mk' het
  have p1 := hB.cell 1 rfl
  rw [hw]
  have hl0 := hT.p.lo
  have hqz := hB.lt
  have HR := Hid.mk' (rtake_yes w.heap.size (w.heap.size + 1) lv dv s kn m wc hT.r hm)
  go_wp2_with fail
  refine HR.out.mono ?_
  rintro e w3 ⟨lv3, u3, rfl, hR3, hu3, hv3, hm3⟩
  simp only [msgV]
  obtain ⟨ua3, uc3, rfl⟩ : ∃ ua ucap, u3 = .slice ua m.cmd.writes.length ucap := by obtain ⟨ua, ucap, h, _⟩ := hu3; exact ⟨ua, ucap, h⟩
  have hT3 := hT.ref hR3 hv3 (Moved.refl _ _) hm3
  have hM3 := hT.modR hM (Nat.le_refl _) hm3
  have hB3 := hT.blkR hB hm3
  obtain ⟨w3a, hw3a⟩ : ∃ y, y = w3.alloc (.cells #[.int .i64 m.kind, .int .i64 m.frm, .int .i64 m.to, .int .i64 m.epoch, .int .i64 m.n, .int .i64 m.cmd.kind, .int .i64 m.cmd.tx, .int .i64 m.cmd.time, .slice ua3 m.cmd.writes.length uc3] 26) := ⟨_, rfl⟩
  have hma : Mod noBlock w3 w3a := by rw [hw3a]; exact (Mod.refl _ w3).alloc _
  have hG3 : Blk w3a w3.heap.size (msgCells m (.slice ua3 m.cmd.writes.length uc3)) 26 := by rw [hw3a]; exact Blk.new w3 _ _
  have hT3a := hT3.quiet hma
  have hB3a := hB3.mod hma id
  have q1 := hB3a.cell 1 rfl
  have HT2 := Hid.mk' (take_yes w.heap.size w.heap.size wv mr s kn m w3a hT3a.p hm)
  have hmx := hma.size
  have hqz3 := hB3.lt
  clear HR hT hM hB hR3 hm3 p1 hms
  go_upto_region 35 with fail
  rw [← hw3a]
  clear hw3a
  go_wp2_with fail
  refine HT2.out.mono ?_
  rintro e w4 ⟨wv4, u4, rfl, hN4, hu4, hv4, hm4⟩
  simp only [msgV]
  obtain ⟨ua4, uc4, rfl⟩ : ∃ ua ucap, u4 = .slice ua m.cmd.writes.length ucap := by obtain ⟨ua, ucap, h, _⟩ := hu4; exact ⟨ua, ucap, h⟩
  have hT4 := hT3a.net hN4 (.inl hv4) (.inl rfl) hm4
  have hM4 := hT3a.modP (hM3.trans hma) (Nat.le_refl _) hm4
  have hG4 := hG3.mod hm4 (fun e => by have := (hT3.p.lt e).2.1; omega)
  have hu34 := (hu3.mod hma (Qm.none _ _)).mod hm4 hT3a.p.qm
  obtain ⟨w4a, hw4a⟩ : ∃ y, y = w4.alloc (.cells #[.int .i64 m.kind, .int .i64 m.frm, .int .i64 m.to, .int .i64 m.epoch, .int .i64 m.n, .int .i64 m.cmd.kind, .int .i64 m.cmd.tx, .int .i64 m.cmd.time, .slice ua4 m.cmd.writes.length uc4] 26) := ⟨_, rfl⟩
  have hmb : Mod noBlock w4 w4a := by rw [hw4a]; exact (Mod.refl _ w4).alloc _
  have hH4 : Blk w4a w4.heap.size (msgCells m (.slice ua4 m.cmd.writes.length uc4)) 26 := by rw [hw4a]; exact Blk.new w4 _ _
  have hT4a := hT4.quiet hmb
  have hM4a := hM4.trans hmb
  have hG4a := hG4.mod hmb id
  have HBA := Hid.mk' (bare_ok w4a)
  have hx3 := hu34.mod hmb (Qm.none _ _)
  have hx4 := hu4.mod hmb (Qm.none _ _)
  clear HT2 hT3 hT3a hM3 hB3 hB3a hN4 hm4 hG3 q1 hT4 hM4 hu4 hu34 hma
  go_upto_region 36 with fail
  rw [← hw4a]
  clear hw4a
  go_wp2_with fail
  refine HBA.out.mono ?_
  rintro e w5 ⟨rfl, hm5⟩
  have hT5 := hT4a.quiet hm5
  have hM5 := hM4a.trans hm5
  have HG5 := Hid.mk' (hG4a.mod hm5 id)
  have HH5 := Hid.mk' (hH4.mod hm5 id)
  obtain ⟨⟨a0, a1, a2, a3, a4, a5, a6, a7, a8⟩, _⟩ := blk9 (hG4a.mod hm5 id)
  obtain ⟨⟨b0, b1, b2, b3, b4, b5, b6, b7, b8⟩, _⟩ := blk9 (hH4.mod hm5 id)
  have HSM := msg_same w5.heap.size w5.heap.size m (.slice ua4 m.cmd.writes.length uc4) (.slice ua3 m.cmd.writes.length uc3) w5 ((hx4.mod hm5 (Qm.none _ _)).toR) ((hx3.mod hm5 (Qm.none _ _)).toR)
  simp only [msgV] at HSM
  have HSM' := Hid.mk' HSM
  have HT5 := Hid.mk' hT5
  have HM5 := Hid.mk' hM5
  clear HBA hT4a hM4a hG4a hH4 hx3 hx4 hm5 hmb HSM hT5 hM5 hG4
  go_wp2_with fail
  refine HSM'.out.mono ?_
  rintro e w6 ⟨rfl, hm6⟩
  have HA : Hid (After w (lo + 200) (dn + 1) w6) := ⟨wv4, mr, lv3, dv, _, HT5.out.quiet hm6, clean_dropS hcl, by simp only [dropS]; omega, by simp only [dropS]; omega, HM5.out.trans hm6⟩
  clear HSM' HT5 HM5 hm6 a0 a1 a2 a3 a4 a5 a6 a7 a8 b0 b1 b2 b3 b4 b5 b6 b7 b8 HG5 HH5
  go_wp2_with fail
  show R _ _
  apply HN.out
  exact HA.out

set_option maxRecDepth 100000 in
set_option maxHeartbeats 4000000 in
theorem netArm1n (c0 c1 c2 c3 c4 c7 c8 c12 c13 c14 c15 c16 c17 c18 c19 c20 c21 c22 c23 c24 c25 c26 c27 c28 c29 c30 c31 c32 c33 c34 c35 c36 c37 c38 c39 c40 c41 c42 c43 c44 c45 c46 c47 c48 c49 c50 c51 c52 c53 c54 c55 c56 c57 c58 c59 c60 c61 c62 c63 c64 c65 c66 c67 c68 c69 c70 c71 c73 c74 c75 c76 c77 c78 c79 c80 c81 c82 c83 c84 c85 c86 c87 c88 c89 c90 c91 c92 c93 c94 c95 c96 c97 c98 c99 c100 c101 c102 c103 c104 c105 c106 c107 c108 c109 c110 c111 c112 c113 c114 c115 c116 c117 c118 c119 c120 c121 c122 c123 c124 c125 c126 c127 c128 c129 c130 c131 c132 c133 c134 c135 c136 c137 c138 c139 c140 c141 c142 c143 c144 c145 c146 c147 c148 c149 c150 c151 c152 c153 c154 c155 c156 c157 c158 c159 c160 c161 c162 c163 c164 c165 c166 c167 c168 c169 c170 c171 c172 c173 c174 c175 c176 c177 c178 c179 c180 c181 c182 c183 c184 c185 c186 c187 c188 c189 c190 c191 c192 c193 c194 c195 c196 c197 c198 c199 c200 c201 c202 c203 c204 c205 c206 c207 c208 c209 c210 c211 c212 c213 c214 c215 c216 c217 c218 c219 c220 c221 c222 c223 c224 c225 c226 c227 c228 c229 c230 c231 c232 : Value)
    (w wc : World) (q : Nat) (x : WayD) (ma : Option Addr) (mcap : Nat) (wv : Value) (mr : Option Nat) (lv dv : Value) (s : NetS) (lo : Int) (dn : Nat) (th : Bool) (er : Int) (hth : Hid (th = hasB s x.k)) (her : Hid (er = if th then 0 else 2))
    (hT : Two wc w.heap.size w.heap.size (w.heap.size + 1) wv mr lv dv s s) (hcl : clean s) (hlo : s.lost ≤ lo) (hlo2 : lo ≤ 100000) (hdn : s.down.length ≤ dn) (hdn2 : dn ≤ 1000) (hM : Mod noBlock w wc)
    (hB : Blk wc q [.int .i64 x.what, .int .i64 x.k, .slice ma x.msgs.length mcap] 69) (hms : MsgsR wc w.heap.size (.slice ma x.msgs.length mcap) x.msgs) (h10 : x.msgs.length ≤ 10) (hik : int64 x.k) (het : ET w) (hw : x.what = 1) (hy : th = false)
    {R : Act → World → Prop}
    (hN : ∀ (u4 u10 u11 u12 u13 u14 u15 u16 u17 u72 u73 u74 u75 u76 u77 u78 u79 u80 u81 u82 u83 u84 u85 u86 u87 u88 u89 u90 u91 u92 u93 u94 u95 u96 u97 u98 u99 u100 u101 u102 u103 u104 u105 u106 u107 u108 u109 u110 u111 u112 u113 u114 u115 u116 u117 u118 u119 u120 u121 u122 u123 u124 u125 u126 u127 u128 u129 u130 u131 u132 u133 u134 u135 u136 u137 u138 u139 u140 u141 u142 u143 u144 u145 u146 u147 u148 u149 u150 u151 u152 u153 u154 u155 u156 u157 u158 u159 u160 u161 u162 u163 u164 u165 u166 u167 u168 u169 u170 u171 u172 u173 u174 u175 u176 u177 u178 u179 u180 u181 u182 u183 u184 u185 u186 u187 : Value) (wd : World), After w (lo + 200) (dn + 1) wd → R ⟨#[c0, c1, c2, c3, u4, .pointer (some ⟨w.heap.size, 0, none⟩), .pointer (some ⟨w.heap.size + 1, 0, none⟩), c7, c8, .pointer (some ⟨q, 0, none⟩), u10, u11,
    u12, u13, u14, u15, u16, u17, c18, c19, c20, c21, c22, c23,
    c24, c25, c26, c27, c28, c29, c30, c31, c32, c33, c34, c35,
    c36, c37, c38, c39, c40, c41, c42, c43, c44, c45, c46, c47,
    c48, c49, c50, c51, c52, c53, c54, c55, c56, c57, c58, c59,
    c60, c61, c62, c63, c64, c65, c66, c67, c68, c69, c70, c71,
    u72, u73, u74, u75, u76, u77, u78, u79, u80, u81, u82, u83,
    u84, u85, u86, u87, u88, u89, u90, u91, u92, u93, u94, u95,
    u96, u97, u98, u99, u100, u101, u102, u103, u104, u105, u106, u107,
    u108, u109, u110, u111, u112, u113, u114, u115, u116, u117, u118, u119,
    u120, u121, u122, u123, u124, u125, u126, u127, u128, u129, u130, u131,
    u132, u133, u134, u135, u136, u137, u138, u139, u140, u141, u142, u143,
    u144, u145, u146, u147, u148, u149, u150, u151, u152, u153, u154, u155,
    u156, u157, u158, u159, u160, u161, u162, u163, u164, u165, u166, u167,
    u168, u169, u170, u171, u172, u173, u174, u175, u176, u177, u178, u179,
    u180, u181, u182, u183, u184, u185, u186, u187, c188, c189, c190, c191,
    c192, c193, c194, c195, c196, c197, c198, c199, c200, c201, c202, c203,
    c204, c205, c206, c207, c208, c209, c210, c211, c212, c213, c214, c215,
    c216, c217, c218, c219, c220, c221, c222, c223, c224, c225, c226, c227,
    c228, c229, c230, c231, c232], []⟩ wd) :
    Code.wp Tryd.prog netSw (netQ w R) ⟨#[c0, c1, c2, c3, c4, .pointer (some ⟨w.heap.size, 0, none⟩), .pointer (some ⟨w.heap.size + 1, 0, none⟩), c7, c8, .pointer (some ⟨q, 0, none⟩), .bool th, .int .i64 er,
    c12, c13, c14, c15, c16, c17, c18, c19, c20, c21, c22, c23,
    c24, c25, c26, c27, c28, c29, c30, c31, c32, c33, c34, c35,
    c36, c37, c38, c39, c40, c41, c42, c43, c44, c45, c46, c47,
    c48, c49, c50, c51, c52, c53, c54, c55, c56, c57, c58, c59,
    c60, c61, c62, c63, c64, c65, c66, c67, c68, c69, c70, c71,
    .int .i64 x.what, c73, c74, c75, c76, c77, c78, c79, c80, c81, c82, c83,
    c84, c85, c86, c87, c88, c89, c90, c91, c92, c93, c94, c95,
    c96, c97, c98, c99, c100, c101, c102, c103, c104, c105, c106, c107,
    c108, c109, c110, c111, c112, c113, c114, c115, c116, c117, c118, c119,
    c120, c121, c122, c123, c124, c125, c126, c127, c128, c129, c130, c131,
    c132, c133, c134, c135, c136, c137, c138, c139, c140, c141, c142, c143,
    c144, c145, c146, c147, c148, c149, c150, c151, c152, c153, c154, c155,
    c156, c157, c158, c159, c160, c161, c162, c163, c164, c165, c166, c167,
    c168, c169, c170, c171, c172, c173, c174, c175, c176, c177, c178, c179,
    c180, c181, c182, c183, c184, c185, c186, c187, c188, c189, c190, c191,
    c192, c193, c194, c195, c196, c197, c198, c199, c200, c201, c202, c203,
    c204, c205, c206, c207, c208, c209, c210, c211, c212, c213, c214, c215,
    c216, c217, c218, c219, c220, c221, c222, c223, c224, c225, c226, c227,
    c228, c229, c230, c231, c232], []⟩ wc := by
  conv => arg 2; whnf
  have HN := Hid.mk' hN
  clear hN
  have hno : hasB s x.k = false := by rw [← hth.out, hy]
  have her' := her.out
  rw [hy] at her'
  simp only [Bool.false_eq_true, if_false] at her'
  subst hy her'
  have HET := Hid.mk' het
  have p1 := hB.cell 1 rfl
  rw [hw]
  have hl0 := hT.p.lo
  have hqz := hB.lt
  have HR := Hid.mk' (rtake_no w.heap.size (w.heap.size + 1) lv dv s x.k wc hT.r hno)
  go_wp2_with fail
  refine HR.out.mono ?_
  rintro e w3 ⟨rfl, hm3⟩
  simp only [msgV]
  have hT3 := hT.quiet hm3
  have hM3 := hM.trans hm3
  have hB3 := hB.mod hm3 id
  obtain ⟨w3a, hw3a⟩ : ∃ y, y = w3.alloc (.cells #[.int .i64 0, .int .i64 0, .int .i64 0, .int .i64 0, .int .i64 0, .int .i64 0, .int .i64 0, .int .i64 0, .slice none 0 0] 26) := ⟨_, rfl⟩
  have hma : Mod noBlock w3 w3a := by rw [hw3a]; exact (Mod.refl _ w3).alloc _
  have hG3 : Blk w3a w3.heap.size (msgCells zeroMsg (.slice none 0 0)) 26 := by rw [hw3a]; exact Blk.new w3 _ _
  have hT3a := hT3.quiet hma
  have hB3a := hB3.mod hma id
  have q1 := hB3a.cell 1 rfl
  have HT2 := Hid.mk' (take_no w.heap.size w.heap.size wv mr s x.k w3a hT3a.p hno)
  have hmx := hma.size
  have hqz3 := hB3.lt
  clear HR hT hM hB hm3 p1 hms
  go_upto_region 35 with fail
  simp only [zeroMsg, zeroCmd]
  rw [← hw3a]
  clear hw3a
  go_wp2_with fail
  refine HT2.out.mono ?_
  rintro e w4 ⟨rfl, hm4⟩
  simp only [msgV, zeroMsg, zeroCmd]
  have hT4 := hT3a.quiet hm4
  have hM4 := (hM3.trans hma).trans hm4
  have hG4 := hG3.mod hm4 id
  obtain ⟨w4a, hw4a⟩ : ∃ y, y = w4.alloc (.cells #[.int .i64 0, .int .i64 0, .int .i64 0, .int .i64 0, .int .i64 0, .int .i64 0, .int .i64 0, .int .i64 0, .slice none 0 0] 26) := ⟨_, rfl⟩
  have hmb : Mod noBlock w4 w4a := by rw [hw4a]; exact (Mod.refl _ w4).alloc _
  have hH4 : Blk w4a w4.heap.size (msgCells zeroMsg (.slice none 0 0)) 26 := by rw [hw4a]; exact Blk.new w4 _ _
  have hT4a := hT4.quiet hmb
  have hM4a := hM4.trans hmb
  have hG4a := hG4.mod hmb id
  have HBA := Hid.mk' (bare_er 2 w4a (HET.out.mod hM4a))
  clear HT2 hT3 hT3a hM3 hB3 hB3a hm4 hG3 q1 hT4 hM4 hma
  go_upto_region 36 with fail
  rw [← hw4a]
  clear hw4a
  go_wp2_with fail
  refine HBA.out.mono ?_
  rintro e w5 ⟨rfl, hm5⟩
  have hT5 := hT4a.quiet hm5
  have hM5 := hM4a.trans hm5
  have hG5 := hG4a.mod hm5 id
  have hH5 := hH4.mod hm5 id
  simp only [msgCells, zeroMsg, zeroCmd] at hG5 hH5
  obtain ⟨⟨a0, a1, a2, a3, a4, a5, a6, a7, a8⟩, _⟩ := blk9 hG5
  obtain ⟨⟨b0, b1, b2, b3, b4, b5, b6, b7, b8⟩, _⟩ := blk9 hH5
  have HSM := msg_same w5.heap.size w5.heap.size zeroMsg (.slice none 0 0) (.slice none 0 0) w5 ((PairsT.nil w5 w5.heap.size).toR) ((PairsT.nil w5 w5.heap.size).toR)
  simp only [msgV, zeroMsg, zeroCmd] at HSM
  have HSM' := Hid.mk' HSM
  have HT5 := Hid.mk' hT5
  have HM5 := Hid.mk' hM5
  clear HBA hT4a hM4a hG4a hH4 hm5 hmb HSM hT5 hM5 hG4 hG5 hH5
  go_wp2_with fail
  refine HSM'.out.mono ?_
  rintro e w6 ⟨rfl, hm6⟩
  have HA : Hid (After w (lo + 200) (dn + 1) w6) := ⟨wv, mr, lv, dv, _, HT5.out.quiet hm6, hcl, by omega, by omega, HM5.out.trans hm6⟩
  clear HSM' HT5 HM5 hm6 a0 a1 a2 a3 a4 a5 a6 a7 a8 b0 b1 b2 b3 b4 b5 b6 b7 b8
  go_wp2_with fail
  show R _ _
  apply HN.out
  exact HA.out
end Go.Proofs.YtdbbgfbcbfbihaaDoor
