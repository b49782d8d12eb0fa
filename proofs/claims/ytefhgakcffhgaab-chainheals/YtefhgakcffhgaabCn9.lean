/- The program's node: Add, Log. -/
import Derived.Test.YtefhgakcffhgaabCn8
namespace Go.Proofs.Ytefhgakcffhgaab
open Go.RowKit Go.Lib Go.Maps

theorem head_in {s : NodeS} (h : headN s = true) : inN s = true := by
  simp only [headN, beq_iff_eq] at h
  simp [inN, h]
set_option maxRecDepth 100000 in
set_option maxHeartbeats 1000000 in
theorem cadd_no (L g : Nat) (nv lv : Value) (s : NodeS) (c : CmdD) (ua : Option Addr) (n ucap : Nat) (w : World) (h : NodeP w L g nv lv s) (hh : headN s = false) :
    Calls Try.prog 32 #[.pointer (some ⟨g, 0, none⟩), .agg #[.int .i64 c.kind, .int .i64 c.tx, .int .i64 c.time, .slice ua n ucap]] w fun e w' => e = .returned (.tuple #[.int .i64 0, .slice none 0 0, .iface 108 (.int .i64 6)]) ∧ Mod noBlock w w' := by
  have hm1 : Mod noBlock w (w.alloc (.cells #[.int .i64 c.kind, .int .i64 c.tx, .int .i64 c.time, .slice ua n ucap] 49)) := (Mod.refl _ w).alloc _
  have HH := head_any L g nv lv s _ (h.quiet hm1)
  rw [hh] at HH
  have HH' := Hid.mk' HH
  clear h hh HH
  go_enter Try.func32, Try.ntmps32
  go_wp2_with fail
  refine HH'.out.mono ?_
  rintro e w1 ⟨rfl, m1, rfl⟩
  go_wp2_with fail
  refine bodyPost_ret (results_tmp3 rfl _ _ _) rfl ⟨rfl, hm1.drewN _⟩
set_option maxRecDepth 100000 in
set_option maxHeartbeats 1000000 in
theorem cadd_full (L g : Nat) (nv lv : Value) (s : NodeS) (c : CmdD) (ua : Option Addr) (n ucap : Nat) (w : World) (h : NodeP w L g nv lv s) (hh : headN s = true) (hf : ¬ s.log.length < 500) :
    Calls Try.prog 32 #[.pointer (some ⟨g, 0, none⟩), .agg #[.int .i64 c.kind, .int .i64 c.tx, .int .i64 c.time, .slice ua n ucap]] w fun e w' => e = .returned (.tuple #[.int .i64 0, .slice none 0 0, .iface 108 (.int .i64 4)]) ∧ Mod noBlock w w' := by
  have hm1 : Mod noBlock w (w.alloc (.cells #[.int .i64 c.kind, .int .i64 c.tx, .int .i64 c.time, .slice ua n ucap] 49)) := (Mod.refl _ w).alloc _
  have h1 := h.quiet hm1
  have HH := head_any L g nv lv s _ h1
  rw [hh] at HH
  have HH' := Hid.mk' HH
  have HN := Hid.mk' h1
  clear h hh HH h1
  go_enter Try.func32, Try.ntmps32
  go_wp2_with fail
  refine HH'.out.mono ?_
  rintro e w1 ⟨rfl, m1, rfl⟩
  have HR := croom_any L g nv lv s _ (HN.out.drewN m1)
  rw [decide_eq_false hf] at HR
  have HR' := Hid.mk' HR
  clear HR
  go_wp2_with fail
  refine HR'.out.mono ?_
  rintro e w2 ⟨rfl, rfl⟩
  go_wp2_with fail
  refine bodyPost_ret (results_tmp3 rfl _ _ _) rfl ⟨rfl, hm1.drewN _⟩
set_option maxRecDepth 100000 in
set_option maxHeartbeats 1000000 in
theorem cadd_yes (L g : Nat) (nv lv : Value) (s : NodeS) (c : CmdD) (u : Value) (w : World) (h : NodeP w L g nv lv s) (hh : headN s = true) (hf : s.log.length < 500) (hu : PairsT w L u c.writes) (hgc : goodC c) :
    Calls Try.prog 32 #[.pointer (some ⟨g, 0, none⟩), .agg #[.int .i64 c.kind, .int .i64 c.tx, .int .i64 c.time, u]] w fun e w' =>
      ∃ v lv', e = .returned (.tuple #[.int .i64 s.log.length, v, .nilIface]) ∧ NodeP w' L g nv lv' (growN s c).1 ∧ RowM w' L v (growN s c).2 ∧ freshV w v ∧ Moved w lv lv' ∧ Mod (nodeMay g nv lv) w w' := by
  obtain ⟨ua, ucap, rfl⟩ : ∃ ua ucap, u = .slice ua c.writes.length ucap := by obtain ⟨ua, ucap, h, _⟩ := hu; exact ⟨ua, ucap, h⟩
  obtain ⟨w1, hw1⟩ : ∃ q, q = w.alloc (.cells #[.int .i64 c.kind, .int .i64 c.tx, .int .i64 c.time, .slice ua c.writes.length ucap] 49) := ⟨_, rfl⟩
  have hm1 : Mod noBlock w w1 := by rw [hw1]; exact (Mod.refl _ w).alloc _
  have hB1 : Blk w1 w.heap.size [.int .i64 c.kind, .int .i64 c.tx, .int .i64 c.time, .slice ua c.writes.length ucap] 49 := by rw [hw1]; exact Blk.new w _ _
  have h1 := h.quiet hm1
  obtain ⟨la, lcap, hlv⟩ := h1.lg.slice
  subst hlv
  have hz1 := hm1.size
  have HH := head_any L g nv _ s _ h1
  rw [hh] at HH
  have HH' := Hid.mk' HH
  have HN := Hid.mk' h1
  have HU := Hid.mk' (hu.mod hm1 (Qm.none _ _))
  clear h HH h1 hu
  go_enter Try.func32, Try.ntmps32
  go_upto_region 1 with fail
  rw [← hw1]
  clear hw1
  go_wp2_with fail
  refine HH'.out.mono ?_
  rintro e w2 ⟨rfl, m1, rfl⟩
  have h2 := HN.out.drewN m1
  have HR := croom_any L g nv _ s _ h2
  rw [decide_eq_true hf] at HR
  have HR' := Hid.mk' HR
  obtain ⟨c0, c1, c2, c3, c4⟩ := blkN5 h2.blk
  have hgz := h2.blk.lt
  obtain ⟨x0, x1, x2, x3, _⟩ := blk4 (hB1.mod ((Mod.refl noBlock w1).drewN m1) id)
  have HG := Hid.mk' (grow_any L g nv _ s c (.slice ua c.writes.length ucap) _ h2 (head_in hh) hf (HU.out.mod ((Mod.refl noBlock w1).drewN m1) (Qm.none _ _)) hgc)
  clear HR HH' HN h2 HU
  go_wp2_with fail
  refine HR'.out.mono ?_
  rintro e w3 ⟨rfl, rfl⟩
  go_wp2_with fail
  refine HG.out.mono ?_
  rintro e w4 ⟨v, lv4, rfl, hN4, hR4, hf4, hv4, hm4⟩
  clear HG HR' x0 x1 x2 x3 c0 c1 c2 c3 c4
  go_wp2_with fail
  refine bodyPost_ret (results_tmp3 rfl _ _ _) rfl ⟨v, lv4, rfl, hN4, hR4, fun k hk => Nat.le_trans hz1 (hf4 k hk), ?_, ?_⟩
  · rcases hv4 with e | e
    · exact .inl e
    · exact .inr (fun k hk => Nat.le_trans hz1 (e k hk))
  · exact ((hm1.drewN m1).mono (fun _ _ e => e.elim)).trans hm4

theorem own_madeC (w : World) (n : Nat) (cur : Array Value) (hc : cur.size = n * 4) (hm : n ≤ maxLen) : (w.alloc (.cells cur 49)).ownsRow w.heap.size 49 4 (.slice (some ⟨w.heap.size, 0, none⟩) 0 n) 0 [] :=
  ⟨rfl, .inr ⟨w.heap.size, n, cur, rfl, Nat.le_refl _, heap_alloc_new w _, Nat.zero_le _, hm, hc, by simp⟩⟩
set_option maxRecDepth 100000 in
set_option maxHeartbeats 1000000 in
theorem clog_any (L g : Nat) (nv lv : Value) (s : NodeS) (w : World) (h : NodeP w L g nv lv s) :
    Calls Try.prog 18 #[.pointer (some ⟨g, 0, none⟩)] w fun e w' => ∃ v, e = .returned v ∧ RowC w' L v s.log ∧ freshV w v ∧ Mod noBlock w w' := by
  obtain ⟨i0, hi, hz0, hz1, hz2⟩ := info_parts Try.info49
  obtain ⟨a, cap, hlv⟩ := h.lg.slice
  subst hlv
  have c0 := h.blk.cell 3 rfl
  have hf := h.few.2
  have hlow := h.low
  have hgl := h.blk.lt
  have hmk := run_make (P := Try.prog) w 40 49 i0 _ Try.underlying40 hi hz0 .i64 .i64 0 s.log.length (by omega) (by omega) (by rw [hz2]; omega) (by omega)
  rw [hz1] at hmk
  simp only [Int.toNat_natCast, Int.toNat_zero] at hmk
  obtain ⟨cur, hcur⟩ : ∃ c, c = madeCells (Value.agg #[.int .i64 0, .int .i64 0, .int .i64 0, .slice none 0 0]).cells (s.log.length * 4) := ⟨_, rfl⟩
  rw [← hcur] at hmk
  have hcs : cur.size = s.log.length * 4 := by rw [hcur]; simp [madeCells]
  clear hcur
  have hR0 : RowC (w.alloc (.cells cur 49)) L (.slice (some ⟨w.heap.size, 0, none⟩) 0 s.log.length) [] :=
    ⟨[], rfl, own_base (own_madeC w s.log.length cur hcs (by unfold maxLen; omega)) (by omega), fun i m u h => by simp at h, by simp⟩
  have hM0 : Mod noBlock w (w.alloc (.cells cur 49)) := (Mod.refl _ w).alloc _
  have c1 := hM0.cell c0 id
  have HN := Hid.mk' h
  clear h
  go_enter Try.func18, Try.ntmps18
  go_wp2_with fail
  go_loopw [3, 17] (fun v i wr => ∃ k : Nat, k ≤ s.log.length ∧ i = .int .i64 k ∧ RowC wr L v (s.log.take k) ∧ freshV w v ∧ Mod noBlock w wr) (fun _ i _ => s.log.length - (intOf i).toNat)
  case atStart => exact ⟨0, Nat.zero_le _, rfl, hR0, fun x hx => by simp [Value.ownBlock] at hx; omega, hM0⟩
  case round =>
    obtain ⟨k, hk, rfl, hR, hfr, hM⟩ := hrel
    clear hR0 hM0 c1 c0 hmk
    have hNr := HN.out.quiet hM
    by_cases hlt : k < s.log.length
    · obtain ⟨c, hc⟩ : ∃ c, s.log[k]? = some c := ⟨_, List.getElem?_eq_getElem hlt⟩
      obtain ⟨b, bcap, u, hv, _, _, hu, hgc, q0, q1, q2, q3⟩ := hNr.lg.at hc
      simp only [Value.slice.injEq] at hv
      obtain ⟨rfl, _, rfl⟩ := hv
      obtain ⟨ua, ucap, rfl⟩ : ∃ ua ucap, u = .slice ua c.writes.length ucap := by obtain ⟨ua, ucap, h, _⟩ := hu; exact ⟨ua, ucap, h⟩
      have HT : Hid (s.log.take (k + 1) = s.log.take k ++ [c]) := by
        rw [Hid, List.take_succ_eq_append_getElem hlt]
        rw [List.getElem?_eq_getElem hlt] at hc
        simp at hc; rw [hc]
      have HLN : Hid ((s.log.take k).length = k) := by rw [Hid, List.length_take]; omega
      have hm1 : Mod noBlock wr (wr.alloc (.cells #[.int .i64 c.kind, .int .i64 c.tx, .int .i64 c.time, .slice ua c.writes.length ucap] 49)) := (Mod.refl _ wr).alloc _
      have HOM := Hid.mk' (ownC_any L c _ _ (hu.mod hm1 (Qm.none _ _)) (by have := hgc.2; omega))
      go_wp2_with fail
      refine HOM.out.mono ?_
      rintro e w5 ⟨uo, rfl, hown5, hm5⟩
      obtain ⟨ua5, uc5, rfl⟩ := own_slice hown5
      have hm15 := hm1.trans hm5
      have hR5 := hR.mod hm15 (Qm.none _ _) (fun _ _ => id)
      obtain ⟨us, hus, hrow, hps, hgd⟩ := hR5
      have HROW := Hid.mk' hrow
      have HPS := Hid.mk' hps
      have HGD := Hid.mk' hgd
      have HU := Hid.mk' (PairsT.of_own (L := L) hown5)
      have hM5 := hM.trans hm15
      have hz5 := hM5.size
      rw [HLN.out] at HROW
      have hk63 : k + 1 ≤ maxLen := by unfold maxLen; omega
      have hk47 : (k + 1) * 48 ≤ 140737488355328 := by omega
      clear hrow hps hgd hown5 HOM hR hu hm5 hm1 q0 q1 q2 q3
      go_wp2_with (first
        | (at_builtin; refine wpList_append_own_at _ rfl (.tmp 21) (.tmp 24) 40 rfl L 49 i0 _ 4 48 Try.underlying40 hi hz0 hz1 hz2 rfl (by omega) _ _ _ rfl (HROW.out.alloc _) ⟨w5.heap.size, 0, none⟩ 1 1 (cmdCells c (.slice ua5 c.writes.length uc5)) rfl rfl (World.news_of_block (heap_alloc_new w5 _)) (cmd_one _ _ _ _) hk63 hk47 (by simp; omega) ?_)
        | fail)
      intro v6 w6 hown6 hgrow _ hloc
      have hm6 : Mod (fun k => u3.ownBlock = some k) w5 w6 := ((Mod.refl _ w5).alloc _).grown hgrow (fun x hx _ => hx)
      have hR6 : RowC w6 L v6 (s.log.take k ++ [c]) := RowC.snoc hus (by rw [HLN.out]; exact HROW.out) HPS.out HGD.out HU.out hgc hm6 (by rw [HLN.out]; exact hown6)
      have hM6 : Mod noBlock w w6 := hM5.trans' hm6 (fun i hi e => by have := hfr i e; omega)
      have hfr6 : freshV w v6 := fun x hx => by
        rcases hloc with e | e
        · exact hfr x (by rw [← e]; exact hx)
        · rw [e] at hx; simp at hx; omega
      clear hown6 hgrow hloc HROW HPS HGD HU hM5 hM hm6
      go_wp2_with fail
      go_roundw
      case rel => exact ⟨k + 1, by omega, by go_num, by rw [HT.out]; exact hR6, hfr6, hM6⟩
      case measure => simp [intOf]; omega
    · have hkn : k = s.log.length := by omega
      subst hkn
      rw [List.take_length] at hR
      go_wp2_with fail
      go_ret
      exact ⟨_, rfl, hR, hfr, hM⟩
end Go.Proofs.Ytefhgakcffhgaab
