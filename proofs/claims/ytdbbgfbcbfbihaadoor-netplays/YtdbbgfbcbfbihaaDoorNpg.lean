/- The law NetPlays: its switch, behind it: all that is under way is compared. -/
import Derived.Test.YtdbbgfbcbfbihaaDoorNpa
namespace Go.Proofs.YtdbbgfbcbfbihaaDoor
open Go.RowKit Go.Lib Go.Maps
set_option linter.unusedVariables false

set_option maxRecDepth 100000 in
set_option maxHeartbeats 4000000 in
theorem netCmp_any (c0 c1 c2 c3 c4 c7 c8 c9 c10 c11 c12 c13 c14 c15 c16 c17 c20 c21 c22 c23 c24 c25 c26 c27 c28 c29 c30 c31 c32 c33 c34 c35 c36 c37 c38 c39 c40 c41 c42 c43 c44 c45 c46 c47 c48 c49 c50 c51 c52 c53 c54 c55 c56 c57 c58 c59 c60 c61 c62 c63 c64 c65 c66 c67 c68 c69 c70 c71 c72 c73 c74 c75 c76 c77 c78 c79 c80 c81 c82 c83 c84 c85 c86 c87 c88 c89 c90 c91 c92 c93 c94 c95 c96 c97 c98 c99 c100 c101 c102 c103 c104 c105 c106 c107 c108 c109 c110 c111 c112 c113 c114 c115 c116 c117 c118 c119 c120 c121 c122 c123 c124 c125 c126 c127 c128 c129 c130 c131 c132 c133 c134 c135 c136 c137 c138 c139 c140 c141 c142 c143 c144 c145 c146 c147 c148 c149 c150 c151 c152 c153 c154 c155 c156 c157 c158 c159 c160 c161 c162 c163 c164 c165 c166 c167 c168 c169 c170 c171 c172 c173 c174 c175 c176 c177 c178 c179 c180 c181 c182 c183 c184 c185 c186 c187 c188 c189 c190 c191 c192 c193 c194 c195 c196 c197 c198 c199 c200 c201 c202 c203 c204 c205 c206 c207 c208 c209 c210 c211 c212 c213 c214 c215 c216 c217 c218 c219 c220 c221 c222 c223 c224 c225 c226 c227 c228 c229 c230 c231 c232 : Value)
    (w wc : World) (wv : Value) (mr : Option Nat) (lv dv : Value) (s : NetS) (va : Option Addr) (vcap : Nat)
    (hT : Two wc w.heap.size w.heap.size (w.heap.size + 1) wv mr lv dv s s) (hR : RowM wc w.heap.size (.slice va s.way.length vcap) s.way) (hM : Mod noBlock w wc)
    {R : Act → World → Prop}
    (hN : ∀ (u4 u19 u214 u215 u216 u217 u218 u219 u220 u221 u222 u223 u224 u225 u226 u227 u228 u229 u230 u231 u232 : Value) (wd : World), Two wd w.heap.size w.heap.size (w.heap.size + 1) wv mr lv dv s s → Mod noBlock w wd → R ⟨#[c0, c1, c2, c3, u4, .pointer (some ⟨w.heap.size, 0, none⟩), .pointer (some ⟨w.heap.size + 1, 0, none⟩), c7, c8, c9, c10, c11,
    c12, c13, c14, c15, c16, c17, .slice va s.way.length vcap, u19, c20, c21, c22, c23,
    c24, c25, c26, c27, c28, c29, c30, c31, c32, c33, c34, c35,
    c36, c37, c38, c39, c40, c41, c42, c43, c44, c45, c46, c47,
    c48, c49, c50, c51, c52, c53, c54, c55, c56, c57, c58, c59,
    c60, c61, c62, c63, c64, c65, c66, c67, c68, c69, c70, c71,
    c72, c73, c74, c75, c76, c77, c78, c79, c80, c81, c82, c83,
    c84, c85, c86, c87, c88, c89, c90, c91, c92, c93, c94, c95,
    c96, c97, c98, c99, c100, c101, c102, c103, c104, c105, c106, c107,
    c108, c109, c110, c111, c112, c113, c114, c115, c116, c117, c118, c119,
    c120, c121, c122, c123, c124, c125, c126, c127, c128, c129, c130, c131,
    c132, c133, c134, c135, c136, c137, c138, c139, c140, c141, c142, c143,
    c144, c145, c146, c147, c148, c149, c150, c151, c152, c153, c154, c155,
    c156, c157, c158, c159, c160, c161, c162, c163, c164, c165, c166, c167,
    c168, c169, c170, c171, c172, c173, c174, c175, c176, c177, c178, c179,
    c180, c181, c182, c183, c184, c185, c186, c187, c188, c189, c190, c191,
    c192, c193, c194, c195, c196, c197, c198, c199, c200, c201, c202, c203,
    c204, c205, c206, c207, c208, c209, c210, c211, c212, c213, u214, u215,
    u216, u217, u218, u219, u220, u221, u222, u223, u224, u225, u226, u227,
    u228, u229, u230, u231, u232], []⟩ wd) :
    Code.wp Tryd.prog netCmp (netQ w R) ⟨#[c0, c1, c2, c3, c4, .pointer (some ⟨w.heap.size, 0, none⟩), .pointer (some ⟨w.heap.size + 1, 0, none⟩), c7, c8, c9, c10, c11,
    c12, c13, c14, c15, c16, c17, .slice va s.way.length vcap, .int .i64 0, c20, c21, c22, c23,
    c24, c25, c26, c27, c28, c29, c30, c31, c32, c33, c34, c35,
    c36, c37, c38, c39, c40, c41, c42, c43, c44, c45, c46, c47,
    c48, c49, c50, c51, c52, c53, c54, c55, c56, c57, c58, c59,
    c60, c61, c62, c63, c64, c65, c66, c67, c68, c69, c70, c71,
    c72, c73, c74, c75, c76, c77, c78, c79, c80, c81, c82, c83,
    c84, c85, c86, c87, c88, c89, c90, c91, c92, c93, c94, c95,
    c96, c97, c98, c99, c100, c101, c102, c103, c104, c105, c106, c107,
    c108, c109, c110, c111, c112, c113, c114, c115, c116, c117, c118, c119,
    c120, c121, c122, c123, c124, c125, c126, c127, c128, c129, c130, c131,
    c132, c133, c134, c135, c136, c137, c138, c139, c140, c141, c142, c143,
    c144, c145, c146, c147, c148, c149, c150, c151, c152, c153, c154, c155,
    c156, c157, c158, c159, c160, c161, c162, c163, c164, c165, c166, c167,
    c168, c169, c170, c171, c172, c173, c174, c175, c176, c177, c178, c179,
    c180, c181, c182, c183, c184, c185, c186, c187, c188, c189, c190, c191,
    c192, c193, c194, c195, c196, c197, c198, c199, c200, c201, c202, c203,
    c204, c205, c206, c207, c208, c209, c210, c211, c212, c213, c214, c215,
    c216, c217, c218, c219, c220, c221, c222, c223, c224, c225, c226, c227,
    c228, c229, c230, c231, c232], []⟩ wc := by
  conv => arg 2; whnf
  have HN := Hid.mk' hN
  clear hN
  have hfew := hT.p.few
  obtain ⟨la, lcap, hlv⟩ := hT.r.row.slice
  subst hlv
  go_wp2_with fail
  go_loopw [19] (fun i wq => ∃ j : Nat, j ≤ s.way.length ∧ i = .int .i64 j ∧ Two wq w.heap.size w.heap.size (w.heap.size + 1) wv mr (.slice la s.way.length lcap) dv s s ∧ RowM wq w.heap.size (.slice va s.way.length vcap) s.way ∧ Mod noBlock w wq) (fun i _ => s.way.length - (intOf i).toNat)
  case atStart => exact ⟨0, Nat.zero_le _, rfl, hT, hR, hM⟩
  case round =>
    obtain ⟨j, hj, rfl, hTq, hRq, hMq⟩ := hrel
    clear hT hR hM
    by_cases hlt2 : j < s.way.length
    · obtain ⟨m, hm⟩ : ∃ m, s.way[j]? = some m := ⟨_, List.getElem?_eq_getElem hlt2⟩
      have r0 := hTq.r.blk.cell 0 rfl
      have rz := hTq.r.blk.lt
      obtain ⟨b1, bc1, u1, hv1, _, _, hu1, _, q0, q1, q2, q3, q4, q5, q6, q7, q8⟩ := hRq.at hm
      obtain ⟨b2, bc2, u2, hv2, _, _, hu2, _, s0', s1', s2', s3', s4', s5', s6', s7', s8'⟩ := hTq.r.row.at hm
      simp only [Value.slice.injEq] at hv1 hv2
      obtain ⟨rfl, _, rfl⟩ := hv1
      obtain ⟨rfl, _, rfl⟩ := hv2
      obtain ⟨ua1, uc1, rfl⟩ : ∃ ua ucap, u1 = .slice ua m.cmd.writes.length ucap := by obtain ⟨ua, ucap, h, _⟩ := hu1; exact ⟨ua, ucap, h⟩
      obtain ⟨ua2, uc2, rfl⟩ : ∃ ua ucap, u2 = .slice ua m.cmd.writes.length ucap := by obtain ⟨ua, ucap, h, _⟩ := hu2; exact ⟨ua, ucap, h⟩
      have HSM := msg_same wr.heap.size wr.heap.size m (.slice ua1 m.cmd.writes.length uc1) (.slice ua2 m.cmd.writes.length uc2) wr.drew (hu1.toR.mod ((Mod.refl noBlock wr).drew) (fun _ _ => id)) (hu2.toR.mod ((Mod.refl noBlock wr).drew) (fun _ _ => id))
      simp only [msgV] at HSM
      have HSM' := Hid.mk' HSM
      have HTQ := Hid.mk' hTq
      have HRQ := Hid.mk' hRq
      have HMQ := Hid.mk' hMq
      have hlt2I : (j : Int) < (s.way.length : Int) := by omega
      have hlt20 : (0 : Int) ≤ (j : Int) := by omega
      have hb1 : b1 < wr.heap.size := World.block_lt_of_cell? wr _ q0
      have hb2 : b2 < wr.heap.size := World.block_lt_of_cell? wr _ s0'
      clear hu1 hu2 hm hTq hRq hMq HSM
      go_wp2_with fail
      go_region_with (first
        | (go_at_call 22; refine HSM'.out.mono ?_; rintro e w5 ⟨rfl, hm5⟩)
        | fail)
      all_goals
        have hm6 : Mod noBlock wr w5 := ((Mod.refl noBlock wr).drew).trans hm5
        have HT5 := Hid.mk' (HTQ.out.quiet hm6)
        have HR5 := Hid.mk' (RowM.mod HRQ.out hm6 (Qm.none _ _) (fun _ _ => id))
        have HM5 := Hid.mk' (HMQ.out.trans hm6)
        clear hm6 hm5 HTQ HRQ HMQ HSM' q0 q1 q2 q3 q4 q5 q6 q7 q8 s0' s1' s2' s3' s4' s5' s6' s7' s8' r0
        go_wp2_with fail
        go_roundw
        case rel => exact ⟨j + 1, by omega, by go_num, HT5.out, HR5.out, HM5.out⟩
        case measure => simp [intOf]; omega
    · obtain rfl : j = s.way.length := by omega
      have HTQ := Hid.mk' hTq
      have HMQ := Hid.mk' hMq
      clear hTq hMq hRq
      go_wp2_with fail
      show R _ _
      apply HN.out
      · exact HTQ.out
      · exact HMQ.out
end Go.Proofs.YtdbbgfbcbfbihaaDoor
