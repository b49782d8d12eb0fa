/- The law NetPlays. -/
import Derived.Test.YtdbbgfbcbfbihaaDoorNpi
namespace Go.Proofs.YtdbbgfbcbfbihaaDoor
open Go.RowKit Go.Lib Go.Maps

def netZ : NetS := ⟨[], 0, []⟩
def fillM (i : Nat) : MsgD := ⟨1, (i : Int) % 3, 5, 0, i, zeroCmd⟩
def fillS (k : Nat) : NetS := sends netZ ((List.range k).map fillM)
theorem fillS_succ (k : Nat) : fillS (k + 1) = send1 (fillS k) (fillM k) := by
  unfold fillS; rw [List.range_succ, List.map_append, List.map_singleton, sends_snoc]
theorem fillM_good (i : Nat) (h : i < 198) : goodM (fillM i) := by
  refine ⟨⟨?_, ?_, ?_, ?_, ?_, ?_, ?_, ?_⟩, ?_⟩ <;> simp only [fillM, zeroCmd, int64, List.length_nil] <;> omega
theorem fillS_facts (k : Nat) : (fillS k).down = [] ∧ 0 ≤ (fillS k).lost ∧ (fillS k).lost ≤ k ∧ clean (fillS k) := by
  have h := sends_lost ((List.range k).map fillM) netZ
  rw [List.length_map, List.length_range] at h
  refine ⟨sends_down _ _, ?_, ?_, clean_sends _ (fun m hm => by simp [netZ] at hm)⟩
  · simpa [netZ, fillS] using h.1
  · simpa [netZ, fillS] using h.2

set_option maxRecDepth 100000 in
set_option maxHeartbeats 4000000 in
theorem netPlays_any (xs : List WayD) (full : Bool) (v : Value) (w : World) (hv : WaysR w w.heap.size v xs) (het : ET w) :
    Calls Tryd.prog 7 #[v, .bool full] w fun e w' => e = .returned (.bool true) ∧ Mod noBlock w w' := by
  have hv0 := hv
  obtain ⟨a, cap, rfl, hpc, hcm, _⟩ := hv0
  unfold maxLen at hcm
  go_enter Tryd.func7, Tryd.ntmps7
  by_cases h60 : 60 < xs.length
  · have hd : decide ((xs.length : Int) > 60) = true := decide_eq_true (by omega)
    go_wp2_with fail
    go_ret
    exact ⟨rfl, Mod.refl _ _⟩
  have hd : decide ((xs.length : Int) > 60) = false := decide_eq_false (by omega)
  obtain ⟨w2, hw2⟩ : ∃ q, q = (w.alloc (.cells #[.slice none 0 0, .int .i64 0, .map none] 62)).alloc (.cells #[.slice none 0 0, .slice none 0 0, .int .i64 0] 66) := ⟨_, rfl⟩
  have hM2 : Mod noBlock w w2 := by rw [hw2]; exact ((Mod.refl _ w).alloc _).alloc _
  have hT2 : Two w2 w.heap.size w.heap.size (w.heap.size + 1) (.slice none 0 0) none (.slice none 0 0) (.slice none 0 0) netZ netZ := by
    rw [hw2]
    refine ⟨⟨(Blk.new w _ _).mod ((Mod.refl noBlock _).alloc _) id, Nat.le_refl _, RowM.nil _ _, .inl ⟨rfl, rfl⟩, by simp [netZ], by simp [netZ]⟩, ⟨?_, by omega, RowM.nil _ _, World.ownsRow_nil _ _ _ _, by simp [netZ], by simp [netZ]⟩, ?_⟩
    · have := Blk.new (w.alloc (.cells #[.slice none 0 0, .int .i64 0, .map none] 62)) [.slice none 0 0, .slice none 0 0, .int .i64 0] 66
      rw [World.size_alloc] at this; exact this
    · intro k hk e
      rcases hk with hk | hk | hk
      · rcases e with e | e | e
        · omega
        · simp [Value.ownBlock] at e
        · simp [Value.ownBlock] at e
      · simp [Value.ownBlock] at hk
      · cases hk
  go_upto_if 25 with fail
  rw [← hw2]
  clear hw2
  go_cut [] (fun wc => ∃ wv lv s, Two wc w.heap.size w.heap.size (w.heap.size + 1) wv none lv (.slice none 0 0) s s ∧ s.down = [] ∧ s.lost ≤ 198 ∧ clean s ∧ Mod noBlock w wc)
  case first =>
    cases full with
    | false =>
      go_wp2_with fail
      go_meet
      case rel => exact ⟨_, _, netZ, hT2, rfl, by simp [netZ], fun m hm => by simp [netZ] at hm, hM2⟩
    | true =>
      go_wp2_with fail
      go_loopw [7] (fun i wr => ∃ (k : Nat) (wv lv : Value), k ≤ 198 ∧ i = .int .i64 k ∧ Two wr w.heap.size w.heap.size (w.heap.size + 1) wv none lv (.slice none 0 0) (fillS k) (fillS k) ∧ Mod noBlock w wr) (fun i _ => 198 - (intOf i).toNat)
      case atStart => exact ⟨0, _, _, Nat.zero_le _, rfl, hT2, hM2⟩
      case round =>
        obtain ⟨k, wv, lv, hk, rfl, hT, hM⟩ := hrel
        by_cases hlt : k < 198
        · have hfg := fillM_good k hlt
          have hzw := hM.size
          have hF := fillS_facts k
          have HF1 := Hid.mk' (fillS_succ k)
          have hT1 : Two (wr.alloc (.cells #[.int .i64 1, .int .i64 ((k : Int) % 3), .int .i64 5, .int .i64 0, .int .i64 k, .int .i64 0, .int .i64 0, .int .i64 0, .slice none 0 0] 26)) w.heap.size w.heap.size (w.heap.size + 1) wv none lv (.slice none 0 0) (fillS k) (fillS k) := hT.quiet ((Mod.refl _ wr).alloc _)
          have HS := Hid.mk' (send_any w.heap.size w.heap.size wv none (fillS k) _ _ [fillM k] _ hT1.p (MsgsV.one wr w.heap.size (fillM k) (.slice none 0 0) (PairsT.nil _ _) hfg) (fun x hx => ⟨by subst hx; simp, fun e => by
            have := (hT.p.lt e).2.1; omega⟩) (by simp; omega))
          have hM1 : Mod noBlock w (wr.alloc (.cells #[.int .i64 1, .int .i64 ((k : Int) % 3), .int .i64 5, .int .i64 0, .int .i64 k, .int .i64 0, .int .i64 0, .int .i64 0, .slice none 0 0] 26)) := hM.alloc _
          clear hT hM
          go_wp2_with fail
          refine HS.out.mono ?_
          rintro e w3 ⟨wv3, rfl, hN3, hv3, hm3⟩
          have hT3 := hT1.net hN3 hv3 (.inl rfl) hm3
          have hM3 := hT1.modP hM1 (Nat.le_refl _) hm3
          have HR := Hid.mk' (rsend_any w.heap.size (w.heap.size + 1) lv (.slice none 0 0) (fillS k) (fillM k) (.slice none 0 0) w3 hT3.r (PairsT.nil _ _) hfg (by rw [hF.1]; simp) (by omega))
          clear HS hT1 hM1 hN3 hm3
          go_wp2_with fail
          refine HR.out.mono ?_
          rintro e w4 ⟨lv4, rfl, hR4, hv4, hm4⟩
          have hT4 := hT3.ref hR4 hv4 (Moved.refl _ _) hm4
          have hM4 := hT3.modR hM3 (Nat.le_refl _) hm4
          clear HR hT3 hM3 hR4 hm4
          go_wp2_with fail
          go_roundw
          case rel => exact ⟨k + 1, wv3, lv4, by omega, by go_num, by rw [HF1.out]; exact hT4, hM4⟩
          case measure => simp [intOf]; omega
        · obtain rfl : k = 198 := by omega
          have hF := fillS_facts 198
          go_wp2_with fail
          go_meet
          case rel => exact ⟨wv, lv, _, hT, hF.1, hF.2.2.1, hF.2.2.2, hM⟩
  case rest =>
    obtain ⟨wv0, lv0, s0, hT0, hd0, hl0, hc0, hM0⟩ := hcut
    clear hT2 hM2
    go_upto_block 2 with fail
    refine wp_mono (Q := netQ w ?R) (netMain_any (R := ?R) _ _ _ _ _ _ _ _ _ _ _ _ _ _ _ _ _ _ _ _ _ _ _ _ _ _ _ _ _ _ _ _ _ _ _ _ _ _ _ _ _ _ _ _ _ _ _ _ _ _ _ _ _ _ _ _ _ _ _ _ _ _ _ _ _ _ _ _ _ _ _ _ _ _ _ _ _ _ _ _ _ _ _ _ _ _ _ _ _ _ _ _ _ _ _ _ _ _ _ _ _ _ _ _ _ _ _ _ _ _ _ _ _ _ _ _ _ _ _ _ _ _ _ _ _ _ _ _ _ _ _ _ _ _ _ _ _ _ _ _ _ _ _ _ _ _ _ _ _ _ _ _ _ _ _ _ _ _ _ _ _ _ _ _ _ _ _ _ _ _ _ _ _ _ _ _ _ _ _ _ _ _ _ _ _ _ _ _ _ _ _ _ _ _ _ _ _ _ _ _ _ _ _ _ _ _ _ _ _ _ _ _ _ _ _ _ _ _ _ _ _ _ _ _ _ _ _ _ _ w _ xs a cap hv (by omega) het ⟨wv0, none, lv0, .slice none 0 0, s0, hT0, hc0, hl0, by rw [hd0]; simp, hM0⟩ ?hN) ?hE
    case hE =>
      intro e a' wd hq
      cases e with
      | normal => exact hq
      | ret =>
        obtain ⟨h1, h2, h3⟩ := hq
        simp only [Exit.then]
        refine bodyPost_ret (results_tmp rfl _ _ _) h1 ?_
        rw [h2]
        exact ⟨rfl, h3⟩
      | exit id => exact hq.elim
      | goto l => exact hq.elim
      | panic ch => exact hq.elim
      | outgrown => exact hq.elim
    case hN =>
      intro v4 v8 v9 v10 v11 v12 v13 v14 v15 v16 v17 v18 v19 v42 v43 v44 v45 v46 v47 v48 v49 v50 v51 v52 v53 v54 v55 v56 v57 v58 v59 v60 v61 v62 v63 v64 v65 v66 v67 v68 v69 v70 v71 v72 v73 v74 v75 v76 v77 v78 v79 v80 v81 v82 v83 v84 v85 v86 v87 v88 v89 v90 v91 v92 v93 v94 v95 v96 v97 v98 v99 v100 v101 v102 v103 v104 v105 v106 v107 v108 v109 v110 v111 v112 v113 v114 v115 v116 v117 v118 v119 v120 v121 v122 v123 v124 v125 v126 v127 v128 v129 v130 v131 v132 v133 v134 v135 v136 v137 v138 v139 v140 v141 v142 v143 v144 v145 v146 v147 v148 v149 v150 v151 v152 v153 v154 v155 v156 v157 v158 v159 v160 v161 v162 v163 v164 v165 v166 v167 v168 v169 v170 v171 v172 v173 v174 v175 v176 v177 v178 v179 v180 v181 v182 v183 v184 v185 v186 v187 v188 v189 v190 v191 v192 v193 v194 v195 v196 v197 v198 v199 v200 v201 v202 v203 v204 v205 v206 v207 v208 v209 v210 v211 v212 v213 v214 v215 v216 v217 v218 v219 v220 v221 v222 v223 v224 v225 v226 v227 v228 v229 v230 v231 v232 wd hMd
      go_wp2_with fail
      go_ret
      exact ⟨rfl, hMd⟩
end Go.Proofs.YtdbbgfbcbfbihaaDoor
