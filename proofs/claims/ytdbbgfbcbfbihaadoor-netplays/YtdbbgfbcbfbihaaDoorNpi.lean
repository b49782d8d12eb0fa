/- The law NetPlays: way by way. -/
import Derived.Test.YtdbbgfbcbfbihaaDoorNph
import Derived.Test.YtdbbgfbcbfbihaaDoorNpg
namespace Go.Proofs.YtdbbgfbcbfbihaaDoor
open Go.RowKit Go.Lib Go.Maps

set_option maxRecDepth 100000 in
set_option maxHeartbeats 4000000 in
theorem netMain_any (c1 c2 c3 c4 c7 c9 c10 c11 c12 c13 c14 c15 c16 c17 c18 c19 c20 c21 c22 c23 c24 c25 c26 c27 c28 c29 c30 c31 c32 c33 c34 c35 c36 c37 c38 c39 c40 c41 c42 c43 c44 c45 c46 c47 c48 c49 c50 c51 c52 c53 c54 c55 c56 c57 c58 c59 c60 c61 c62 c63 c64 c65 c66 c67 c68 c69 c70 c71 c72 c73 c74 c75 c76 c77 c78 c79 c80 c81 c82 c83 c84 c85 c86 c87 c88 c89 c90 c91 c92 c93 c94 c95 c96 c97 c98 c99 c100 c101 c102 c103 c104 c105 c106 c107 c108 c109 c110 c111 c112 c113 c114 c115 c116 c117 c118 c119 c120 c121 c122 c123 c124 c125 c126 c127 c128 c129 c130 c131 c132 c133 c134 c135 c136 c137 c138 c139 c140 c141 c142 c143 c144 c145 c146 c147 c148 c149 c150 c151 c152 c153 c154 c155 c156 c157 c158 c159 c160 c161 c162 c163 c164 c165 c166 c167 c168 c169 c170 c171 c172 c173 c174 c175 c176 c177 c178 c179 c180 c181 c182 c183 c184 c185 c186 c187 c188 c189 c190 c191 c192 c193 c194 c195 c196 c197 c198 c199 c200 c201 c202 c203 c204 c205 c206 c207 c208 c209 c210 c211 c212 c213 c214 c215 c216 c217 c218 c219 c220 c221 c222 c223 c224 c225 c226 c227 c228 c229 c230 c231 c232 : Value)
    (w w0 : World) (xs : List WayD) (a : Option Addr) (cap : Nat) (hv : WaysR w w.heap.size (.slice a xs.length cap) xs) (h60 : xs.length ≤ 60) (het : ET w)
    (hA : After w 198 0 w0)
    {R : Act → World → Prop}
    (hN : ∀ (u4 u8 u9 u10 u11 u12 u13 u14 u15 u16 u17 u18 u19 u42 u43 u44 u45 u46 u47 u48 u49 u50 u51 u52 u53 u54 u55 u56 u57 u58 u59 u60 u61 u62 u63 u64 u65 u66 u67 u68 u69 u70 u71 u72 u73 u74 u75 u76 u77 u78 u79 u80 u81 u82 u83 u84 u85 u86 u87 u88 u89 u90 u91 u92 u93 u94 u95 u96 u97 u98 u99 u100 u101 u102 u103 u104 u105 u106 u107 u108 u109 u110 u111 u112 u113 u114 u115 u116 u117 u118 u119 u120 u121 u122 u123 u124 u125 u126 u127 u128 u129 u130 u131 u132 u133 u134 u135 u136 u137 u138 u139 u140 u141 u142 u143 u144 u145 u146 u147 u148 u149 u150 u151 u152 u153 u154 u155 u156 u157 u158 u159 u160 u161 u162 u163 u164 u165 u166 u167 u168 u169 u170 u171 u172 u173 u174 u175 u176 u177 u178 u179 u180 u181 u182 u183 u184 u185 u186 u187 u188 u189 u190 u191 u192 u193 u194 u195 u196 u197 u198 u199 u200 u201 u202 u203 u204 u205 u206 u207 u208 u209 u210 u211 u212 u213 u214 u215 u216 u217 u218 u219 u220 u221 u222 u223 u224 u225 u226 u227 u228 u229 u230 u231 u232 : Value) (wd : World), Mod noBlock w wd → R ⟨#[.slice a xs.length cap, c1, c2, c3, u4, .pointer (some ⟨w.heap.size, 0, none⟩), .pointer (some ⟨w.heap.size + 1, 0, none⟩), c7, u8, u9, u10, u11,
    u12, u13, u14, u15, u16, u17, u18, u19, c20, c21, c22, c23,
    c24, c25, c26, c27, c28, c29, c30, c31, c32, c33, c34, c35,
    c36, c37, c38, c39, c40, c41, u42, u43, u44, u45, u46, u47,
    u48, u49, u50, u51, u52, u53, u54, u55, u56, u57, u58, u59,
    u60, u61, u62, u63, u64, u65, u66, u67, u68, u69, u70, u71,
    u72, u73, u74, u75, u76, u77, u78, u79, u80, u81, u82, u83,
    u84, u85, u86, u87, u88, u89, u90, u91, u92, u93, u94, u95,
    u96, u97, u98, u99, u100, u101, u102, u103, u104, u105, u106, u107,
    u108, u109, u110, u111, u112, u113, u114, u115, u116, u117, u118, u119,
    u120, u121, u122, u123, u124, u125, u126, u127, u128, u129, u130, u131,
    u132, u133, u134, u135, u136, u137, u138, u139, u140, u141, u142, u143,
    u144, u145, u146, u147, u148, u149, u150, u151, u152, u153, u154, u155,
    u156, u157, u158, u159, u160, u161, u162, u163, u164, u165, u166, u167,
    u168, u169, u170, u171, u172, u173, u174, u175, u176, u177, u178, u179,
    u180, u181, u182, u183, u184, u185, u186, u187, u188, u189, u190, u191,
    u192, u193, u194, u195, u196, u197, u198, u199, u200, u201, u202, u203,
    u204, u205, u206, u207, u208, u209, u210, u211, u212, u213, u214, u215,
    u216, u217, u218, u219, u220, u221, u222, u223, u224, u225, u226, u227,
    u228, u229, u230, u231, u232], []⟩ wd) :
    Code.wp Tryd.prog netMain (netQ w R) ⟨#[.slice a xs.length cap, c1, c2, c3, c4, .pointer (some ⟨w.heap.size, 0, none⟩), .pointer (some ⟨w.heap.size + 1, 0, none⟩), c7, .int .i64 0, c9, c10, c11,
    c12, c13, c14, c15, c16, c17, c18, c19, c20, c21, c22, c23,
    c24, c25, c26, c27, c28, c29, c30, c31, c32, c33, c34, c35,
    c36, c37, c38, c39, c40, c41, c42, c43, c44, c45, c46, c47,
    c48, c49, c50, c51, c52, c53, c54, c55, c56, c57, c58, c59,
    c60, c61, c62, c63, c64, c65, c66, c67, c68, c69, c70, c71,
    c72, c73, c74, c75, c76, c77, c78, c79, c80, c81, c82, c83,
    c84, c85, c86, c87, c88, c89, c90, c91, c92, c93, c94, c95,
    c96, c97, c98, c99, c100, c101, c102, c103, c104, c105, c106, c107,
    c108, c109, c110, c111, c112, c113, c114, c115, c116, c117, c118, c119,
    c120, c121, c122, c123, c124, c125, c126, c127, c128, c129, c130, c131,
    c132, c133, c134, c135, c136, c137, c138, c139, c140, c141, c142, c143,
    c144, c145, c146, c147, c148, c149, c150, c151, c152, c153, c154, c155,
    c156, c157, c158, c159, c160, c161, c162, c163, c164, c165, c166, c167,
    c168, c169, c170, c171, c172, c173, c174, c175, c176, c177, c178, c179,
    c180, c181, c182, c183, c184, c185, c186, c187, c188, c189, c190, c191,
    c192, c193, c194, c195, c196, c197, c198, c199, c200, c201, c202, c203,
    c204, c205, c206, c207, c208, c209, c210, c211, c212, c213, c214, c215,
    c216, c217, c218, c219, c220, c221, c222, c223, c224, c225, c226, c227,
    c228, c229, c230, c231, c232], []⟩ w0 := by
  conv => arg 2; whnf
  have HN := Hid.mk' hN
  clear hN
  go_wp2_with fail
  go_loopw [8] (fun i wr => ∃ k : Nat, k ≤ xs.length ∧ i = .int .i64 k ∧ After w (198 + 200 * k) k wr) (fun i _ => xs.length - (intOf i).toNat)
  case atStart => exact ⟨0, Nat.zero_le _, rfl, by simpa using hA⟩
  case round =>
    obtain ⟨k, hk, rfl, hAr⟩ := hrel
    clear hA
    obtain ⟨wv, mr, lv, dv, s, hT, hcl, hlo, hdn, hM⟩ := hAr
    by_cases hlt : k < xs.length
    · obtain ⟨x, hx⟩ : ∃ x, xs[k]? = some x := ⟨_, List.getElem?_eq_getElem hlt⟩
      obtain ⟨b, off, cs, rfl, hbL, ⟨mv, rfl, hms, hi1, hi2⟩, _, hcel⟩ := (hv.mod hM (fun _ _ => id) (fun _ _ h => h.mod hM (fun _ _ => id))).at hx
      have q0 := hcel 0 _ rfl
      have q1 := hcel 1 _ rfl
      have q2 := hcel 2 _ rfl
      simp only [Nat.add_zero] at q0
      obtain ⟨ma, mcap, rfl, hmc, hmm⟩ := hms.slice
      unfold maxLen at hmm
      have hltI : (k : Int) < (xs.length : Int) := by omega
      have hlt0 : (0 : Int) ≤ (k : Int) := by omega
      obtain ⟨w1, hw1⟩ : ∃ q, q = wr.alloc (.cells #[.int .i64 x.what, .int .i64 x.k, .slice ma x.msgs.length mcap] 69) := ⟨_, rfl⟩
      have hm1 : Mod noBlock wr w1 := by rw [hw1]; exact (Mod.refl _ wr).alloc _
      have hB1 : Blk w1 wr.heap.size [.int .i64 x.what, .int .i64 x.k, .slice ma x.msgs.length mcap] 69 := by rw [hw1]; exact Blk.new wr _ _
      have hT1 := hT.quiet hm1
      have hM1 := hM.trans hm1
      have hms1 := hms.mod hm1 (fun _ _ => id) (fun _ _ h => h.mod hm1 (fun _ _ => id))
      clear hcel hT hM hms hx hm1
      by_cases h10 : 10 < x.msgs.length
      · have hd10 : decide ((x.msgs.length : Int) > 10) = true := decide_eq_true (by omega)
        have HM1 := Hid.mk' hM1
        clear hT1 hM1 hms1
        go_upto_region 15 with fail
        rw [← hw1]
        clear hw1
        have p2 := hB1.cell 2 rfl
        go_wp2_with fail
        exact ⟨rfl, rfl, HM1.out⟩
      have hd10 : decide ((x.msgs.length : Int) > 10) = false := decide_eq_false (by omega)
      go_upto_region 15 with fail
      rw [← hw1]
      clear hw1 q0 q1 q2
      have p0 := hB1.cell 0 rfl
      have p1 := hB1.cell 1 rfl
      have p2 := hB1.cell 2 rfl
      go_upto_region 17 with fail
      go_cut [10] from 42 to 232 (fun t wc => t = .bool (hasB s x.k) ∧ Mod noBlock w1 wc)
      case first =>
        obtain ⟨la, lcap, hlv⟩ := hT1.r.row.slice
        subst hlv
        have r0 := hT1.r.blk.cell 0 rfl
        have HD := hT1.r.blk.lt
        clear hT1 hM1 hms1
        by_cases h0 : 0 ≤ x.k
        · have hd0 : decide (x.k ≥ 0) = true := decide_eq_true h0
          have hd1 : decide (0 ≤ x.k) = true := decide_eq_true h0
          have HH : Hid (hasB s x.k = decide (x.k < (s.way.length : Int))) := by rw [Hid, hasB, decide_eq_true h0]; simp
          go_quiet (fail)
          go_wp2_with fail
          go_meet
          case rel => exact ⟨by rw [HH.out], (Mod.refl _ _).drewN _⟩
        · have hd0 : decide (x.k ≥ 0) = false := decide_eq_false h0
          have hd1 : decide (0 ≤ x.k) = false := decide_eq_false h0
          have HH : Hid (hasB s x.k = false) := by rw [Hid, hasB, decide_eq_false h0]; simp
          go_quiet (fail)
          go_wp2_with fail
          go_meet
          case rel => exact ⟨by rw [HH.out], (Mod.refl _ _).drewN _⟩
      case rest =>
        obtain ⟨rfl, hm2⟩ := hcut
        clear p0 p1 p2
        have hT2 := hT1.quiet hm2
        have hM2 := hM1.trans hm2
        have hB2 := hB1.mod hm2 id
        have hms2 := hms1.mod hm2 (fun _ _ => id) (fun _ _ h => h.mod hm2 (fun _ _ => id))
        clear hT1 hM1 hB1 hms1 hm2
        obtain ⟨th, hth⟩ : ∃ y, y = hasB s x.k := ⟨_, rfl⟩
        rw [← hth]
        have HTH := Hid.mk' hth
        clear hth
        go_upto_if 70 with fail
        go_cut [10, 11] from 42 to 232 (fun t1 t2 wd => t1 = .bool th ∧ t2 = .int .i64 (if th then 0 else 2) ∧ wd = wc)
        case first =>
          cases th
          all_goals
            go_wp2_with fail
            go_meet
            case rel => exact ⟨rfl, rfl, rfl⟩
        case rest =>
          obtain ⟨rfl, rfl, rfl⟩ := hcut
          obtain ⟨er, her⟩ : ∃ y : Int, y = if th then 0 else 2 := ⟨_, rfl⟩
          rw [← her]
          have HER := Hid.mk' her
          clear her
          have p0 := hB2.cell 0 rfl
          go_upto_block 4 with fail
          refine wp_mono (Q := netQ w ?R) (netSw_any (R := ?R) _ _ _ _ _ _ _ _ _ _ _ _ _ _ _ _ _ _ _ _ _ _ _ _ _ _ _ _ _ _ _ _ _ _ _ _ _ _ _ _ _ _ _ _ _ _ _ _ _ _ _ _ _ _ _ _ _ _ _ _ _ _ _ _ _ _ _ _ _ _ _ _ _ _ _ _ _ _ _ _ _ _ _ _ _ _ _ _ _ _ _ _ _ _ _ _ _ _ _ _ _ _ _ _ _ _ _ _ _ _ _ _ _ _ _ _ _ _ _ _ _ _ _ _ _ _ _ _ _ _ _ _ _ _ _ _ _ _ _ _ _ _ _ _ _ _ _ _ _ _ _ _ _ _ _ _ _ _ _ _ _ _ _ _ _ _ _ _ _ _ _ _ _ _ _ _ _ _ _ _ _ _ _ _ _ _ _ _ _ _ _ _ _ _ _ _ _ _ _ _ _ _ _ _ _ _ _ _ _ _ _ _ _ _ _ _ _ _ _ _ _ _ _ _ _ _ _ w wc wr.heap.size x ma mcap wv mr lv dv s (198 + 200 * k) k th er HTH HER hT2 hcl hlo (by omega) hdn (by omega) hM2 hB2 hms2 (by omega) hi2 het ?hN) ?hE
          case hE =>
            intro e a' wd hq
            cases e with
            | normal => exact hq
            | ret => exact hq
            | exit id => exact hq.elim
            | goto l => exact hq.elim
            | panic ch => exact hq.elim
            | outgrown => exact hq.elim
          case hN =>
            intro v4 v10 v11 v12 v13 v14 v15 v16 v17 v72 v73 v74 v75 v76 v77 v78 v79 v80 v81 v82 v83 v84 v85 v86 v87 v88 v89 v90 v91 v92 v93 v94 v95 v96 v97 v98 v99 v100 v101 v102 v103 v104 v105 v106 v107 v108 v109 v110 v111 v112 v113 v114 v115 v116 v117 v118 v119 v120 v121 v122 v123 v124 v125 v126 v127 v128 v129 v130 v131 v132 v133 v134 v135 v136 v137 v138 v139 v140 v141 v142 v143 v144 v145 v146 v147 v148 v149 v150 v151 v152 v153 v154 v155 v156 v157 v158 v159 v160 v161 v162 v163 v164 v165 v166 v167 v168 v169 v170 v171 v172 v173 v174 v175 v176 v177 v178 v179 v180 v181 v182 v183 v184 v185 v186 v187 wd hA3
            obtain ⟨wv3, mr3, lv3, dv3, s3, hT3, hc3, hlo3, hdn3, hM3⟩ := hA3
            clear hT2 hM2 hB2 hms2 p0
            have HAL := Hid.mk' (all_any w.heap.size w.heap.size wv3 mr3 s3 wd hT3.p)
            go_wp2_with fail
            refine HAL.out.mono ?_
            rintro e w4 ⟨v4, rfl, hR4, hm4⟩
            have hT4 := hT3.quiet hm4
            have hM4 := hM3.trans hm4
            clear HAL hT3 hM3 hm4
            obtain ⟨va, vcap, rfl⟩ := hR4.slice
            obtain ⟨la, lcap, hlv⟩ := hT4.r.row.slice
            subst hlv
            have HT4 := Hid.mk' hT4
            have HR4 := Hid.mk' hR4
            have r0 := hT4.r.blk.cell 0 rfl
            have r2 := hT4.r.blk.cell 2 rfl
            have rz := hT4.r.blk.lt
            have hfew := hT4.p.few
            clear hT4 hR4
            go_upto_region 55 with fail
            go_quiet (first
              | (go_at_call 36; refine Calls.quiet_of_same (many_any _ _ _ _ _ _ (HT4.out.quiet ((Mod.refl _ _).drewN _)).p))
              | (go_at_call 37; refine Calls.quiet_of_same (lost_any _ _ _ _ _ _ (HT4.out.quiet ((Mod.refl _ _).drewN _)).p))
              | fail)
            have hmd : Mod noBlock w4 (w4.drewN nq) := (Mod.refl _ w4).drewN _
            have hTd := HT4.out.quiet hmd
            have hRd := RowM.mod HR4.out hmd (Qm.none _ _) (fun _ _ => id)
            have hMd := hM4.trans hmd
            clear r0 r2 rz HT4 HR4 hM4 hmd
            go_upto_block 7 with fail
            refine wp_mono (Q := netQ w ?R2) (netCmp_any (R := ?R2) _ _ _ _ _ _ _ _ _ _ _ _ _ _ _ _ _ _ _ _ _ _ _ _ _ _ _ _ _ _ _ _ _ _ _ _ _ _ _ _ _ _ _ _ _ _ _ _ _ _ _ _ _ _ _ _ _ _ _ _ _ _ _ _ _ _ _ _ _ _ _ _ _ _ _ _ _ _ _ _ _ _ _ _ _ _ _ _ _ _ _ _ _ _ _ _ _ _ _ _ _ _ _ _ _ _ _ _ _ _ _ _ _ _ _ _ _ _ _ _ _ _ _ _ _ _ _ _ _ _ _ _ _ _ _ _ _ _ _ _ _ _ _ _ _ _ _ _ _ _ _ _ _ _ _ _ _ _ _ _ _ _ _ _ _ _ _ _ _ _ _ _ _ _ _ _ _ _ _ _ _ _ _ _ _ _ _ _ _ _ _ _ _ _ _ _ _ _ _ _ _ _ _ _ _ _ _ _ _ _ _ _ _ _ _ _ _ _ _ _ _ _ _ _ _ _ _ _ _ w _ wv3 mr3 (.slice la s3.way.length lcap) dv3 s3 va vcap hTd hRd hMd ?hN) ?hE
            case hE =>
              intro e a' wd hq
              cases e with
              | normal => exact hq
              | ret => exact hq
              | exit id => exact hq.elim
              | goto l => exact hq.elim
              | panic ch => exact hq.elim
              | outgrown => exact hq.elim
            case hN =>
              intro y4 y19 y214 y215 y216 y217 y218 y219 y220 y221 y222 y223 y224 y225 y226 y227 y228 y229 y230 y231 y232 we hTe hMe
              clear hTd hRd hMd
              go_wp2_with fail
              go_roundw
              case rel => exact ⟨k + 1, by omega, by go_num, wv3, mr3, _, dv3, s3, hTe, hc3, by simp only [Int.natCast_add, Int.natCast_one]; omega, hdn3, hMe⟩
              case measure => simp [intOf]; omega
    · obtain rfl : k = xs.length := by omega
      have HM := Hid.mk' hM
      clear hT hM
      go_wp2_with fail
      show R _ _
      apply HN.out
      exact HM.out
end Go.Proofs.YtdbbgfbcbfbihaaDoor
