/- The law NetPlays: its switch: messages are sent. -/
import Derived.Test.YtdbbgfbcbfbihaaDoorNpc
namespace Go.Proofs.YtdbbgfbcbfbihaaDoor
open Go.RowKit Go.Lib Go.Maps
set_option linter.unusedVariables false

set_option maxRecDepth 100000 in
set_option maxHeartbeats 4000000 in
theorem netArm0 (c0 c1 c2 c3 c4 c7 c8 c12 c13 c14 c15 c16 c17 c18 c19 c20 c21 c22 c23 c24 c25 c26 c27 c28 c29 c30 c31 c32 c33 c34 c35 c36 c37 c38 c39 c40 c41 c42 c43 c44 c45 c46 c47 c48 c49 c50 c51 c52 c53 c54 c55 c56 c57 c58 c59 c60 c61 c62 c63 c64 c65 c66 c67 c68 c69 c70 c71 c73 c74 c75 c76 c77 c78 c79 c80 c81 c82 c83 c84 c85 c86 c87 c88 c89 c90 c91 c92 c93 c94 c95 c96 c97 c98 c99 c100 c101 c102 c103 c104 c105 c106 c107 c108 c109 c110 c111 c112 c113 c114 c115 c116 c117 c118 c119 c120 c121 c122 c123 c124 c125 c126 c127 c128 c129 c130 c131 c132 c133 c134 c135 c136 c137 c138 c139 c140 c141 c142 c143 c144 c145 c146 c147 c148 c149 c150 c151 c152 c153 c154 c155 c156 c157 c158 c159 c160 c161 c162 c163 c164 c165 c166 c167 c168 c169 c170 c171 c172 c173 c174 c175 c176 c177 c178 c179 c180 c181 c182 c183 c184 c185 c186 c187 c188 c189 c190 c191 c192 c193 c194 c195 c196 c197 c198 c199 c200 c201 c202 c203 c204 c205 c206 c207 c208 c209 c210 c211 c212 c213 c214 c215 c216 c217 c218 c219 c220 c221 c222 c223 c224 c225 c226 c227 c228 c229 c230 c231 c232 : Value)
    (w wc : World) (q : Nat) (x : WayD) (ma : Option Addr) (mcap : Nat) (wv : Value) (mr : Option Nat) (lv dv : Value) (s : NetS) (lo : Int) (dn : Nat) (th : Bool) (er : Int) (hth : Hid (th = hasB s x.k)) (her : Hid (er = if th then 0 else 2))
    (hT : Two wc w.heap.size w.heap.size (w.heap.size + 1) wv mr lv dv s s) (hcl : clean s) (hlo : s.lost ≤ lo) (hlo2 : lo ≤ 100000) (hdn : s.down.length ≤ dn) (hdn2 : dn ≤ 1000) (hM : Mod noBlock w wc)
    (hB : Blk wc q [.int .i64 x.what, .int .i64 x.k, .slice ma x.msgs.length mcap] 69) (hms : MsgsR wc w.heap.size (.slice ma x.msgs.length mcap) x.msgs) (h10 : x.msgs.length ≤ 10) (hik : int64 x.k) (het : ET w) (hw : x.what = 0)
    {R : Act → World → Prop}
    (hN : ∀ (u4 u10 u11 u12 u13 u14 u15 u16 u17 u72 u73 u74 u75 u76 u77 u78 u79 u80 u81 u82 u83 u84 u85 u86 u87 u88 u89 u90 u91 u92 u93 u94 u95 u96 u97 u98 u99 u100 u101 u102 u103 u104 u105 u106 u107 u108 u109 u110 u111 u112 u113 u114 u115 u116 u117 u118 u119 u120 u121 u122 u123 u124 u125 u126 u127 u128 u129 u130 u131 u132 u133 u134 u135 u136 u137 u138 u139 u140 u141 u142 u143 u144 u145 u146 u147 u148 u149 u150 u151 u152 u153 u154 u155 u156 u157 u158 u159 u160 u161 u162 u163 u164 u165 u166 u167 u168 u169 u170 u171 u172 u173 u174 u175 u176 u177 u178 u179 u180 u181 u182 u183 u184 u185 u186 u187 : Value) (wd : World), After w (lo + 200) (dn + 1) wd → R ⟨#[c0, c1, c2, c3, u4, .pointer (some ⟨w.heap.size, 0, none⟩), .pointer (some ⟨w.heap.size + 1, 0, none⟩), c7, c8, .pointer (some ⟨q, 0, none⟩), u10, u11,
    u12, u13, u14, u15, u16, u17, c18, c19, c20, c21, c22, c23,
    c24, c25, c26, c27, c28, c29, c30, c31, c32, c33, c34, c35,
    c36, c37, c38, c39, c40, c41, c42, c43, c44, c45, c46, c47,
    c48, c49, c50, c51, c52, c53, c54, c55, c56, c57, c58, c59,
    c60, c61, c62, c63, c64, c65, c66, c67, c68, c69, c70, c71,
    u72, u73, u74, u75, u76, u77, u78, u79, u80, u81, u82, u83,
    u84, u85, u86, u87, u88, u89, u90, u91, u92, u93, u94, u95,
    u96, u97, u98, u99, u100, u101, u102, u103, u104, u105, u106, u107,
    u108, u109, u110, u111, u112, u113, u114, u115, u116, u117, u118, u119,
    u120, u121, u122, u123, u124, u125, u126, u127, u128, u129, u130, u131,
    u132, u133, u134, u135, u136, u137, u138, u139, u140, u141, u142, u143,
    u144, u145, u146, u147, u148, u149, u150, u151, u152, u153, u154, u155,
    u156, u157, u158, u159, u160, u161, u162, u163, u164, u165, u166, u167,
    u168, u169, u170, u171, u172, u173, u174, u175, u176, u177, u178, u179,
    u180, u181, u182, u183, u184, u185, u186, u187, c188, c189, c190, c191,
    c192, c193, c194, c195, c196, c197, c198, c199, c200, c201, c202, c203,
    c204, c205, c206, c207, c208, c209, c210, c211, c212, c213, c214, c215,
    c216, c217, c218, c219, c220, c221, c222, c223, c224, c225, c226, c227,
    c228, c229, c230, c231, c232], []⟩ wd) :
    Code.wp Tryd.prog netSw (netQ w R) ⟨#[c0, c1, c2, c3, c4, .pointer (some ⟨w.heap.size, 0, none⟩), .pointer (some ⟨w.heap.size + 1, 0, none⟩), c7, c8, .pointer (some ⟨q, 0, none⟩), .bool th, .int .i64 er,
    c12, c13, c14, c15, c16, c17, c18, c19, c20, c21, c22, c23,
    c24, c25, c26, c27, c28, c29, c30, c31, c32, c33, c34, c35,
    c36, c37, c38, c39, c40, c41, c42, c43, c44, c45, c46, c47,
    c48, c49, c50, c51, c52, c53, c54, c55, c56, c57, c58, c59,
    c60, c61, c62, c63, c64, c65, c66, c67, c68, c69, c70, c71,
    .int .i64 x.what, c73, c74, c75, c76, c77, c78, c79, c80, c81, c82, c83,
    c84, c85, c86, c87, c88, c89, c90, c91, c92, c93, c94, c95,
    c96, c97, c98, c99, c100, c101, c102, c103, c104, c105, c106, c107,
    c108, c109, c110, c111, c112, c113, c114, c115, c116, c117, c118, c119,
    c120, c121, c122, c123, c124, c125, c126, c127, c128, c129, c130, c131,
    c132, c133, c134, c135, c136, c137, c138, c139, c140, c141, c142, c143,
    c144, c145, c146, c147, c148, c149, c150, c151, c152, c153, c154, c155,
    c156, c157, c158, c159, c160, c161, c162, c163, c164, c165, c166, c167,
    c168, c169, c170, c171, c172, c173, c174, c175, c176, c177, c178, c179,
    c180, c181, c182, c183, c184, c185, c186, c187, c188, c189, c190, c191,
    c192, c193, c194, c195, c196, c197, c198, c199, c200, c201, c202, c203,
    c204, c205, c206, c207, c208, c209, c210, c211, c212, c213, c214, c215,
    c216, c217, c218, c219, c220, c221, c222, c223, c224, c225, c226, c227,
    c228, c229, c230, c231, c232], []⟩ wc := by
  conv => arg 2; whnf
  have HN := Hid.mk' hN
  clear hN
  have p2 := hB.cell 2 rfl
  rw [hw] at hB ⊢
  have hl0 := hT.p.lo
  have hqz := hB.lt
  have hmc2 := hms.slice
  obtain ⟨_, _, hms1, hms2, hms3⟩ := hmc2
  simp only [Value.slice.injEq] at hms1
  obtain ⟨rfl, _, rfl⟩ := hms1
  unfold maxLen at hms3
  clear hth her
  go_wp2_with fail
  go_loopw [12, 13] (fun t12 t13 wr => ∃ (j : Nat) (lvj : Value), j ≤ x.msgs.length ∧ t12 = .int .i64 ((sends s (x.msgs.take j)).lost - s.lost) ∧ t13 = .int .i64 j ∧ Two wr w.heap.size w.heap.size (w.heap.size + 1) wv mr lvj dv s (sends s (x.msgs.take j)) ∧ Blk wr q [.int .i64 0, .int .i64 x.k, .slice ma x.msgs.length mcap] 69 ∧ MsgsR wr w.heap.size (.slice ma x.msgs.length mcap) x.msgs ∧ (∀ m ∈ x.msgs.take j, m.cmd.writes.length ≤ 40) ∧ Mod noBlock w wr) (fun _ i _ => x.msgs.length - (intOf i).toNat)
  case atStart => exact ⟨0, lv, Nat.zero_le _, by simp [sends], rfl, by simpa [sends] using hT, hB, hms, by simp, hM⟩
  case round =>
    obtain ⟨j, lvj, hj, rfl, rfl, hTj, hBj, hmsj, hfj, hMj⟩ := hrel
    clear hT hM hB hms p2
    have p2 := hBj.cell 2 rfl
    have hlj := sends_lost (x.msgs.take j) s
    have hlj2 : (((x.msgs.take j).length : Nat) : Int) ≤ 10 := by rw [List.length_take]; omega
    have hdj := sends_down (x.msgs.take j) s
    by_cases hlt : j < x.msgs.length
    · obtain ⟨m, hm⟩ : ∃ m, x.msgs[j]? = some m := ⟨_, List.getElem?_eq_getElem hlt⟩
      obtain ⟨b, off, cs, hma, hbL, ⟨u, rfl, hpr, him⟩, _, hcel⟩ := hmsj.at hm
      subst hma
      have q0 := hcel 0 _ rfl
      have q1 := hcel 1 _ rfl
      have q2 := hcel 2 _ rfl
      have q3 := hcel 3 _ rfl
      have q4 := hcel 4 _ rfl
      have q5 := hcel 5 _ rfl
      have q6 := hcel 6 _ rfl
      have q7 := hcel 7 _ rfl
      have q8 := hcel 8 _ rfl
      simp only [Nat.add_zero] at q0
      have hpt := PairsT.of_R hpr
      obtain ⟨ua, ucap, rfl, hup, hum⟩ : ∃ ua ucap, u = .slice ua m.cmd.writes.length ucap ∧ m.cmd.writes.length ≤ ucap ∧ ucap ≤ maxLen := by obtain ⟨ua, ucap, h, h', h'', _⟩ := hpt; exact ⟨ua, ucap, h, h', h''⟩
      unfold maxLen at hum
      have hltI : (j : Int) < (x.msgs.length : Int) := by omega
      have hlt0 : (0 : Int) ≤ (j : Int) := by omega
      have HF := Hid.mk' (few_any m.cmd.kind m.cmd.tx m.cmd.time ua m.cmd.writes.length ucap wr (by omega))
      have HTK : Hid (sends s (x.msgs.take (j + 1)) = send1 (sends s (x.msgs.take j)) m) := by rw [Hid, take_snoc_at hm, sends_snoc]
      obtain ⟨sj, hsj⟩ : ∃ y, y = sends s (x.msgs.take j) := ⟨_, rfl⟩
      rw [← hsj] at hTj hlj hdj HTK
      obtain ⟨d, hd⟩ : ∃ y, y = sj.lost - s.lost := ⟨_, rfl⟩
      have hsj' := hsj
      rw [← hsj, ← hd]
      have HSJ := Hid.mk' hsj
      have HD := Hid.mk' hd
      have hd1 : 0 ≤ d ∧ d ≤ 10 := by omega
      clear hsj' hsj hd
      have HTJ := Hid.mk' hTj
      have HBJ := Hid.mk' hBj
      have HMSJ := Hid.mk' hmsj
      have HFJ := Hid.mk' hfj
      have HMJ := Hid.mk' hMj
      have HM := Hid.mk' hm
      have HPT := Hid.mk' hpt
      have HIM := Hid.mk' him
      have hbz : b < wr.heap.size := World.block_lt_of_cell? wr _ q0
      have hqz2 := hBj.lt
      clear hTj hBj hmsj hfj hMj hcel hm hpt hpr him
      go_wp2_with fail
      refine HF.out.mono ?_
      rintro e w3 ⟨rfl, hm3⟩
      by_cases h40 : m.cmd.writes.length ≤ 40
      · rw [decide_eq_true h40]
        have hT3 := HTJ.out.quiet hm3
        have hB3 := HBJ.out.mod hm3 id
        have hM3 := HMJ.out.trans hm3
        have hms3' := SlR.mod HMSJ.out hm3 (fun _ _ => id) (fun _ _ h => h.mod hm3 (fun _ _ => id))
        have HRS := Hid.mk' (rsend_any w.heap.size (w.heap.size + 1) lvj dv sj m (.slice ua m.cmd.writes.length ucap) w3 hT3.r (HPT.out.mod hm3 (Qm.none _ _)) ⟨HIM.out, h40⟩ (by rw [hdj]; omega) (by omega))
        have p3 := hB3.cell 2 rfl
        have v0 := hm3.cell q0 id
        have v1 := hm3.cell q1 id
        have v2 := hm3.cell q2 id
        have v3 := hm3.cell q3 id
        have v4 := hm3.cell q4 id
        have v5 := hm3.cell q5 id
        have v6 := hm3.cell q6 id
        have v7 := hm3.cell q7 id
        have v8 := hm3.cell q8 id
        have HT3 := Hid.mk' hT3
        have HB3 := Hid.mk' hB3
        have HM3 := Hid.mk' hM3
        have HMS3 := Hid.mk' hms3'
        have hs1 := send1_lost sj m
        clear hT3 hB3 hM3 hms3' HF q0 q1 q2 q3 q4 q5 q6 q7 q8 p2 hm3 HTJ HBJ HMSJ HMJ
        go_wp2_with fail
        refine HRS.out.mono ?_
        rintro e w4 ⟨lv4, rfl, hR4, hv4, hm4⟩
        have hT4 := HT3.out.ref hR4 hv4 (Moved.refl _ _) hm4
        have hB4 := HT3.out.blkR HB3.out hm4
        have hM4 := HT3.out.modR HM3.out (Nat.le_refl _) hm4
        have hms4 : MsgsR w4 w.heap.size (.slice (some ⟨b, off, none⟩) x.msgs.length mcap) x.msgs := SlR.mod HMS3.out hm4 (fun k hk e => by have := (HT3.out.r.lt e).1; omega) (fun _ _ h => h.mod hm4 (fun k hk e => by have := (HT3.out.r.lt e).1; omega))
        have hf4 := few_take HFJ.out HM.out h40
        have HT4 := Hid.mk' hT4
        have HB4 := Hid.mk' hB4
        have HM4 := Hid.mk' hM4
        have HMS4 := Hid.mk' hms4
        have HF4 := Hid.mk' hf4
        clear HRS HT3 HB3 HM3 HMS3 hT4 hB4 hM4 hms4 hf4 hR4 hm4 v0 v1 v2 v3 v4 v5 v6 v7 v8 p3
        by_cases hsame : (send1 sj m).lost = sj.lost
        · rw [decide_eq_true hsame]
          go_wp2_with fail
          go_roundw
          case rel => exact ⟨j + 1, lv4, by omega, by rw [HTK.out, hsame, ← HD.out], by go_num, by rw [HTK.out]; exact HT4.out, HB4.out, HMS4.out, HF4.out, HM4.out⟩
          case measure => simp [intOf]; omega
        · rw [decide_eq_false hsame]
          have HE : Hid ((send1 sj m).lost - s.lost = d + 1) := by rw [Hid]; have := HD.out; omega
          go_wp2_with fail
          go_roundw
          case rel => exact ⟨j + 1, lv4, by omega, by rw [HTK.out, HE.out], by go_num, by rw [HTK.out]; exact HT4.out, HB4.out, HMS4.out, HF4.out, HM4.out⟩
          case measure => simp [intOf]; omega
      · rw [decide_eq_false h40]
        have HM3 := Hid.mk' (HMJ.out.trans hm3)
        clear HF HTJ HBJ HMSJ HMJ hm3
        go_wp2_with fail
        exact ⟨rfl, rfl, HM3.out⟩
    · obtain rfl : j = x.msgs.length := by omega
      rw [List.take_length] at hTj hlj hdj hfj ⊢
      have hz := hMj.size
      have HS := Hid.mk' (send_any w.heap.size w.heap.size wv mr s (fun k => k < w.heap.size) (.slice ma x.msgs.length mcap) x.msgs wr hTj.p (MsgsR.toV hmsj hfj) (fun k hk => ⟨by omega, fun e => by have := (hTj.p.lt e).1; omega⟩) (by omega))
      obtain ⟨d, hd⟩ : ∃ y, y = (sends s x.msgs).lost - s.lost := ⟨_, rfl⟩
      rw [← hd] at HS ⊢
      have HTJ := Hid.mk' hTj
      have HMJ := Hid.mk' hMj
      clear hTj hMj hmsj hfj hBj
      go_wp2_with fail
      refine HS.out.mono ?_
      rintro e w3 ⟨wv3, rfl, hN3, hv3, hm3⟩
      have HA : Hid (After w (lo + 200) (dn + 1) w3) := ⟨wv3, mr, lvj, dv, _, HTJ.out.net hN3 hv3 (.inl rfl) hm3, clean_sends _ hcl, by omega, by rw [hdj]; omega, HTJ.out.modP HMJ.out (Nat.le_refl _) hm3⟩
      clear HS HTJ HMJ hN3 hm3 p2
      go_wp2_with fail
      show R _ _
      apply HN.out
      exact HA.out
end Go.Proofs.YtdbbgfbcbfbihaaDoor
