/- The program's node: Step, case by case. -/
import Derived.Test.YtefhgakcffhgaabCn11
namespace Go.Proofs.Ytefhgakcffhgaab
open Go.RowKit Go.Lib Go.Maps
set_option linter.unusedVariables false

def haveN (s : NodeS) (f : Int) : List MsgD := match nbrN s 1 with
  | none => []
  | some t => fwdL s t f.toNat (s.log.length - f.toNat)
def stabN (s : NodeS) (n : Int) : NodeS := stableN s (if s.stable < n then n else s.stable)
def stepN (s : NodeS) (m : MsgD) : NodeS × List MsgD :=
  if m.epoch = s.epoch ∧ m.to = s.id then
    if m.kind = 1 ∧ isN s (-1) m.frm = true then (s, sendN s (-1) (plainMsg 2 s.log.length))
    else if m.kind = 2 ∧ isN s 1 m.frm = true ∧ 0 ≤ m.n then (s, haveN s m.n)
    else if m.kind = 3 ∧ isN s (-1) m.frm = true ∧ m.n = s.log.length ∧ s.log.length < 500 then growN s m.cmd
    else if m.kind = 4 ∧ isN s 1 m.frm = true ∧ 0 ≤ m.n ∧ m.n ≤ s.log.length then (stabN s m.n, sendN (stabN s m.n) (-1) (plainMsg 4 (stabN s m.n).stable))
    else (s, [])
  else (s, [])
theorem isN_nbr {s : NodeS} {wh x : Int} (h : isN s wh x = true) : nbrN s wh = some x := by
  unfold isN at h
  cases hn : nbrN s wh with
  | none => rw [hn] at h; cases h
  | some y => rw [hn] at h; simp at h; rw [h]
theorem isN_in {s : NodeS} {wh x : Int} (h : isN s wh x = true) : inN s = true := by
  have := isN_nbr h
  unfold nbrN at this
  split at this
  · rename_i e; simp only [Bool.and_eq_true] at e; exact e.1
  · cases this

set_option maxRecDepth 100000 in
set_option maxHeartbeats 2000000 in
theorem cstep_off (L g : Nat) (nv lv : Value) (s : NodeS) (m : MsgD) (u : Value) (w : World) (h : NodeP w L g nv lv s) (hu : PairsT w L u m.cmd.writes) (hgm : goodM m) (hoff : ¬ (m.epoch = s.epoch ∧ m.to = s.id)) :
    Calls Try.prog 16 #[.pointer (some ⟨g, 0, none⟩), .agg #[.int .i64 m.kind, .int .i64 m.frm, .int .i64 m.to, .int .i64 m.epoch, .int .i64 m.n, .int .i64 m.cmd.kind, .int .i64 m.cmd.tx, .int .i64 m.cmd.time, u]] w fun e w' => e = .returned (.slice none 0 0) ∧ Mod noBlock w w' := by
  obtain ⟨ua, ucap, rfl⟩ : ∃ ua ucap, u = .slice ua m.cmd.writes.length ucap := by obtain ⟨ua, ucap, h, _⟩ := hu; exact ⟨ua, ucap, h⟩
  obtain ⟨w1, hw1⟩ : ∃ q, q = w.alloc (.cells #[.int .i64 m.kind, .int .i64 m.frm, .int .i64 m.to, .int .i64 m.epoch, .int .i64 m.n, .int .i64 m.cmd.kind, .int .i64 m.cmd.tx, .int .i64 m.cmd.time, .slice ua m.cmd.writes.length ucap] 51) := ⟨_, rfl⟩
  have hm1 : Mod noBlock w w1 := by rw [hw1]; exact (Mod.refl _ w).alloc _
  have hB1 : Blk w1 w.heap.size (msgCells m (.slice ua m.cmd.writes.length ucap)) 51 := by rw [hw1]; exact Blk.new w _ _
  have h1 := h.quiet hm1
  obtain ⟨la, lcap, hlv⟩ := h1.lg.slice
  subst hlv
  obtain ⟨c0, c1, c2, c3, c4⟩ := blkN5 h1.blk
  obtain ⟨⟨x0, x1, x2, x3, x4, x5, x6, x7, x8⟩, _⟩ := blk9 hB1
  have z1 := hB1.lt
  have z2 := h1.blk.lt
  have hz1 := hm1.size
  have hfew := h1.few
  have hst := h1.st
  have HN := Hid.mk' h1
  have HU := Hid.mk' (hu.mod hm1 (Qm.none _ _))
  clear h hu h1
  go_enter Try.func16, Try.ntmps16
  go_upto_region 1 with fail
  rw [← hw1]
  clear hw1
  by_cases hep : m.epoch = s.epoch
  · have hto : ¬ m.to = s.id := fun e => hoff ⟨hep, e⟩
    have he1 : (m.epoch != s.epoch) = false := by simp [hep]
    have he2 : (m.to != s.id) = true := by simpa using hto
    go_quiet (fail)
    go_wp2_with fail
    go_ret
    exact ⟨rfl, by first | exact hm1.drewN _ | exact (hm1.drewN _).drewN _ | exact ((hm1.drewN _).drewN _).drewN _ | exact (((hm1.drewN _).drewN _).drewN _).drewN _⟩
  · have he1 : (m.epoch != s.epoch) = true := by simpa using hep
    go_quiet (fail)
    go_wp2_with fail
    go_ret
    exact ⟨rfl, by first | exact hm1.drewN _ | exact (hm1.drewN _).drewN _ | exact ((hm1.drewN _).drewN _).drewN _ | exact (((hm1.drewN _).drewN _).drewN _).drewN _⟩
set_option maxRecDepth 100000 in
set_option maxHeartbeats 2000000 in
theorem cstep_none (L g : Nat) (nv lv : Value) (s : NodeS) (m : MsgD) (u : Value) (w : World) (h : NodeP w L g nv lv s) (hu : PairsT w L u m.cmd.writes) (hgm : goodM m) (hep : m.epoch = s.epoch) (hto : m.to = s.id) (hk1 : m.kind ≠ 1) (hk2 : m.kind ≠ 2) (hk3 : m.kind ≠ 3) (hk4 : m.kind ≠ 4) :
    Calls Try.prog 16 #[.pointer (some ⟨g, 0, none⟩), .agg #[.int .i64 m.kind, .int .i64 m.frm, .int .i64 m.to, .int .i64 m.epoch, .int .i64 m.n, .int .i64 m.cmd.kind, .int .i64 m.cmd.tx, .int .i64 m.cmd.time, u]] w fun e w' => e = .returned (.slice none 0 0) ∧ Mod noBlock w w' := by
  have HEP := Hid.mk' hep
  have HTO := Hid.mk' hto
  clear hep hto
  obtain ⟨ua, ucap, rfl⟩ : ∃ ua ucap, u = .slice ua m.cmd.writes.length ucap := by obtain ⟨ua, ucap, h, _⟩ := hu; exact ⟨ua, ucap, h⟩
  obtain ⟨w1, hw1⟩ : ∃ q, q = w.alloc (.cells #[.int .i64 m.kind, .int .i64 m.frm, .int .i64 m.to, .int .i64 m.epoch, .int .i64 m.n, .int .i64 m.cmd.kind, .int .i64 m.cmd.tx, .int .i64 m.cmd.time, .slice ua m.cmd.writes.length ucap] 51) := ⟨_, rfl⟩
  have hm1 : Mod noBlock w w1 := by rw [hw1]; exact (Mod.refl _ w).alloc _
  have hB1 : Blk w1 w.heap.size (msgCells m (.slice ua m.cmd.writes.length ucap)) 51 := by rw [hw1]; exact Blk.new w _ _
  have h1 := h.quiet hm1
  obtain ⟨la, lcap, hlv⟩ := h1.lg.slice
  subst hlv
  obtain ⟨c0, c1, c2, c3, c4⟩ := blkN5 h1.blk
  obtain ⟨⟨x0, x1, x2, x3, x4, x5, x6, x7, x8⟩, _⟩ := blk9 hB1
  have z1 := hB1.lt
  have z2 := h1.blk.lt
  have hz1 := hm1.size
  have hfew := h1.few
  have hst := h1.st
  have HN := Hid.mk' h1
  have HU := Hid.mk' (hu.mod hm1 (Qm.none _ _))
  clear h hu h1
  go_enter Try.func16, Try.ntmps16
  go_upto_region 1 with fail
  rw [← hw1]
  clear hw1
  have k1 : (m.kind == 1) = false := by simpa using hk1
  have k2 : (m.kind == 2) = false := by simpa using hk2
  have k3 : (m.kind == 3) = false := by simpa using hk3
  have k4 : (m.kind == 4) = false := by simpa using hk4
  have he1 : (m.epoch != s.epoch) = false := by simp [HEP.out]
  have he2 : (m.to != s.id) = false := by simp [HTO.out]
  go_quiet (fail)
  go_upto_region 7 with fail
  go_quiet (fail)
  go_upto_region 9 with fail
  go_quiet (fail)
  go_wp2_with fail
  go_ret
  exact ⟨rfl, by first | exact hm1.drewN _ | exact (hm1.drewN _).drewN _ | exact ((hm1.drewN _).drewN _).drewN _ | exact (((hm1.drewN _).drewN _).drewN _).drewN _⟩
set_option maxRecDepth 100000 in
set_option maxHeartbeats 2000000 in
theorem cstep_sync (L g : Nat) (nv lv : Value) (s : NodeS) (m : MsgD) (u : Value) (w : World) (h : NodeP w L g nv lv s) (hu : PairsT w L u m.cmd.writes) (hgm : goodM m) (hep : m.epoch = s.epoch) (hto : m.to = s.id) (hk : m.kind = 1) (hi : isN s (-1) m.frm = true) :
    Calls Try.prog 16 #[.pointer (some ⟨g, 0, none⟩), .agg #[.int .i64 m.kind, .int .i64 m.frm, .int .i64 m.to, .int .i64 m.epoch, .int .i64 m.n, .int .i64 m.cmd.kind, .int .i64 m.cmd.tx, .int .i64 m.cmd.time, u]] w fun e w' => ∃ v, e = .returned v ∧ RowM w' L v (sendN s (-1) (plainMsg 2 s.log.length)) ∧ freshV w v ∧ Mod noBlock w w' := by
  have HEP := Hid.mk' hep
  have HTO := Hid.mk' hto
  have HK := Hid.mk' hk
  clear hep hto hk
  obtain ⟨ua, ucap, rfl⟩ : ∃ ua ucap, u = .slice ua m.cmd.writes.length ucap := by obtain ⟨ua, ucap, h, _⟩ := hu; exact ⟨ua, ucap, h⟩
  obtain ⟨w1, hw1⟩ : ∃ q, q = w.alloc (.cells #[.int .i64 m.kind, .int .i64 m.frm, .int .i64 m.to, .int .i64 m.epoch, .int .i64 m.n, .int .i64 m.cmd.kind, .int .i64 m.cmd.tx, .int .i64 m.cmd.time, .slice ua m.cmd.writes.length ucap] 51) := ⟨_, rfl⟩
  have hm1 : Mod noBlock w w1 := by rw [hw1]; exact (Mod.refl _ w).alloc _
  have hB1 : Blk w1 w.heap.size (msgCells m (.slice ua m.cmd.writes.length ucap)) 51 := by rw [hw1]; exact Blk.new w _ _
  have h1 := h.quiet hm1
  obtain ⟨la, lcap, hlv⟩ := h1.lg.slice
  subst hlv
  obtain ⟨c0, c1, c2, c3, c4⟩ := blkN5 h1.blk
  obtain ⟨⟨x0, x1, x2, x3, x4, x5, x6, x7, x8⟩, _⟩ := blk9 hB1
  have z1 := hB1.lt
  have z2 := h1.blk.lt
  have hz1 := hm1.size
  have hfew := h1.few
  have hst := h1.st
  have HN := Hid.mk' h1
  have HU := Hid.mk' (hu.mod hm1 (Qm.none _ _))
  clear h hu h1
  go_enter Try.func16, Try.ntmps16
  go_upto_region 1 with fail
  rw [← hw1]
  clear hw1
  have k1 : (m.kind == 1) = true := by simp [HK.out]
  have k2 : (m.kind == 2) = false := by simp [HK.out]
  have k3 : (m.kind == 3) = false := by simp [HK.out]
  have k4 : (m.kind == 4) = false := by simp [HK.out]
  have he1 : (m.epoch != s.epoch) = false := by simp [HEP.out]
  have he2 : (m.to != s.id) = false := by simp [HTO.out]
  go_quiet (fail)
  have HI := is_any L g nv _ s (-1) m.frm _ (HN.out.drewN nq) (.inr rfl)
  rw [hi] at HI
  have HI' := Hid.mk' HI
  clear HI
  go_wp2_with fail
  refine HI'.out.mono ?_
  rintro e w2 ⟨rfl, m2, rfl⟩
  have HS := Hid.mk' (csend_any L g nv _ s (-1) (plainMsg 2 s.log.length) (.slice none 0 0) _ (HN.out.drewN (nq + m2)) (.inr rfl) (PairsT.nil _ _) (plain_good _ _ (by simp [int64]) (by simp only [int64]; omega)))
  clear HI'
  go_wp2_with fail
  refine HS.out.mono ?_
  rintro e w3 ⟨v, rfl, hR, hf, hm3⟩
  clear HS
  go_wp2_with fail
  go_ret
  exact ⟨v, rfl, hR, fun k hk => Nat.le_trans hz1 (hf k hk), (hm1.drewN (nq + m2)).trans hm3⟩
set_option maxRecDepth 100000 in
set_option maxHeartbeats 2000000 in
theorem cstep_sync_no (L g : Nat) (nv lv : Value) (s : NodeS) (m : MsgD) (u : Value) (w : World) (h : NodeP w L g nv lv s) (hu : PairsT w L u m.cmd.writes) (hgm : goodM m) (hep : m.epoch = s.epoch) (hto : m.to = s.id) (hk : m.kind = 1) (hi : isN s (-1) m.frm = false) :
    Calls Try.prog 16 #[.pointer (some ⟨g, 0, none⟩), .agg #[.int .i64 m.kind, .int .i64 m.frm, .int .i64 m.to, .int .i64 m.epoch, .int .i64 m.n, .int .i64 m.cmd.kind, .int .i64 m.cmd.tx, .int .i64 m.cmd.time, u]] w fun e w' => e = .returned (.slice none 0 0) ∧ Mod noBlock w w' := by
  have HEP := Hid.mk' hep
  have HTO := Hid.mk' hto
  have HK := Hid.mk' hk
  clear hep hto hk
  obtain ⟨ua, ucap, rfl⟩ : ∃ ua ucap, u = .slice ua m.cmd.writes.length ucap := by obtain ⟨ua, ucap, h, _⟩ := hu; exact ⟨ua, ucap, h⟩
  obtain ⟨w1, hw1⟩ : ∃ q, q = w.alloc (.cells #[.int .i64 m.kind, .int .i64 m.frm, .int .i64 m.to, .int .i64 m.epoch, .int .i64 m.n, .int .i64 m.cmd.kind, .int .i64 m.cmd.tx, .int .i64 m.cmd.time, .slice ua m.cmd.writes.length ucap] 51) := ⟨_, rfl⟩
  have hm1 : Mod noBlock w w1 := by rw [hw1]; exact (Mod.refl _ w).alloc _
  have hB1 : Blk w1 w.heap.size (msgCells m (.slice ua m.cmd.writes.length ucap)) 51 := by rw [hw1]; exact Blk.new w _ _
  have h1 := h.quiet hm1
  obtain ⟨la, lcap, hlv⟩ := h1.lg.slice
  subst hlv
  obtain ⟨c0, c1, c2, c3, c4⟩ := blkN5 h1.blk
  obtain ⟨⟨x0, x1, x2, x3, x4, x5, x6, x7, x8⟩, _⟩ := blk9 hB1
  have z1 := hB1.lt
  have z2 := h1.blk.lt
  have hz1 := hm1.size
  have hfew := h1.few
  have hst := h1.st
  have HN := Hid.mk' h1
  have HU := Hid.mk' (hu.mod hm1 (Qm.none _ _))
  clear h hu h1
  go_enter Try.func16, Try.ntmps16
  go_upto_region 1 with fail
  rw [← hw1]
  clear hw1
  have k1 : (m.kind == 1) = true := by simp [HK.out]
  have k2 : (m.kind == 2) = false := by simp [HK.out]
  have k3 : (m.kind == 3) = false := by simp [HK.out]
  have k4 : (m.kind == 4) = false := by simp [HK.out]
  have he1 : (m.epoch != s.epoch) = false := by simp [HEP.out]
  have he2 : (m.to != s.id) = false := by simp [HTO.out]
  go_quiet (fail)
  have HI := is_any L g nv _ s (-1) m.frm _ (HN.out.drewN nq) (.inr rfl)
  rw [hi] at HI
  have HI' := Hid.mk' HI
  clear HI
  go_wp2_with fail
  refine HI'.out.mono ?_
  rintro e w2 ⟨rfl, m2, rfl⟩
  clear HI'
  go_upto_region 7 with fail
  go_quiet (fail)
  go_upto_region 9 with fail
  go_quiet (fail)
  go_wp2_with fail
  go_ret
  exact ⟨rfl, by first | exact hm1.drewN _ | exact (hm1.drewN _).drewN _ | exact ((hm1.drewN _).drewN _).drewN _ | exact (((hm1.drewN _).drewN _).drewN _).drewN _⟩
set_option maxRecDepth 100000 in
set_option maxHeartbeats 2000000 in
theorem cstep_have (L g : Nat) (nv lv : Value) (s : NodeS) (m : MsgD) (u : Value) (w : World) (h : NodeP w L g nv lv s) (hu : PairsT w L u m.cmd.writes) (hgm : goodM m) (hep : m.epoch = s.epoch) (hto : m.to = s.id) (hk : m.kind = 2) (hi : isN s 1 m.frm = true) (hn : 0 ≤ m.n) :
    Calls Try.prog 16 #[.pointer (some ⟨g, 0, none⟩), .agg #[.int .i64 m.kind, .int .i64 m.frm, .int .i64 m.to, .int .i64 m.epoch, .int .i64 m.n, .int .i64 m.cmd.kind, .int .i64 m.cmd.tx, .int .i64 m.cmd.time, u]] w fun e w' => ∃ v, e = .returned v ∧ RowM w' L v (haveN s m.n) ∧ freshV w v ∧ Mod noBlock w w' := by
  have HEP := Hid.mk' hep
  have HTO := Hid.mk' hto
  have HK := Hid.mk' hk
  clear hep hto hk
  obtain ⟨ua, ucap, rfl⟩ : ∃ ua ucap, u = .slice ua m.cmd.writes.length ucap := by obtain ⟨ua, ucap, h, _⟩ := hu; exact ⟨ua, ucap, h⟩
  obtain ⟨w1, hw1⟩ : ∃ q, q = w.alloc (.cells #[.int .i64 m.kind, .int .i64 m.frm, .int .i64 m.to, .int .i64 m.epoch, .int .i64 m.n, .int .i64 m.cmd.kind, .int .i64 m.cmd.tx, .int .i64 m.cmd.time, .slice ua m.cmd.writes.length ucap] 51) := ⟨_, rfl⟩
  have hm1 : Mod noBlock w w1 := by rw [hw1]; exact (Mod.refl _ w).alloc _
  have hB1 : Blk w1 w.heap.size (msgCells m (.slice ua m.cmd.writes.length ucap)) 51 := by rw [hw1]; exact Blk.new w _ _
  have h1 := h.quiet hm1
  obtain ⟨la, lcap, hlv⟩ := h1.lg.slice
  subst hlv
  obtain ⟨c0, c1, c2, c3, c4⟩ := blkN5 h1.blk
  obtain ⟨⟨x0, x1, x2, x3, x4, x5, x6, x7, x8⟩, _⟩ := blk9 hB1
  have z1 := hB1.lt
  have z2 := h1.blk.lt
  have hz1 := hm1.size
  have hfew := h1.few
  have hst := h1.st
  have HN := Hid.mk' h1
  have HU := Hid.mk' (hu.mod hm1 (Qm.none _ _))
  clear h hu h1
  go_enter Try.func16, Try.ntmps16
  go_upto_region 1 with fail
  rw [← hw1]
  clear hw1
  have k1 : (m.kind == 1) = false := by simp [HK.out]
  have k2 : (m.kind == 2) = true := by simp [HK.out]
  have k3 : (m.kind == 3) = false := by simp [HK.out]
  have k4 : (m.kind == 4) = false := by simp [HK.out]
  have hnb := isN_nbr hi
  have HH : Hid (haveN s m.n = fwdL s m.frm m.n.toNat (s.log.length - m.n.toNat)) := by rw [Hid, haveN, hnb]
  have hd : decide (m.n ≥ 0) = true := decide_eq_true hn
  have hd' : decide (0 ≤ m.n) = true := decide_eq_true hn
  have he1 : (m.epoch != s.epoch) = false := by simp [HEP.out]
  have he2 : (m.to != s.id) = false := by simp [HTO.out]
  go_quiet (fail)
  have HI := is_any L g nv _ s 1 m.frm _ (HN.out.drewN nq) (.inl rfl)
  rw [hi] at HI
  have HI' := Hid.mk' HI
  clear HI
  go_wp2_with fail
  refine HI'.out.mono ?_
  rintro e w2 ⟨rfl, m2, rfl⟩
  have HF := Hid.mk' (forward_any L g nv _ s m.frm m.n _ (HN.out.drewN (nq + m2)) hnb hn)
  clear HI'
  go_wp2_with fail
  refine HF.out.mono ?_
  rintro e w3 ⟨v, rfl, hR, hf, hm3⟩
  clear HF
  go_wp2_with fail
  go_ret
  exact ⟨v, rfl, by rw [HH.out]; exact hR, fun k hk => Nat.le_trans hz1 (hf k hk), (hm1.drewN (nq + m2)).trans hm3⟩
set_option maxRecDepth 100000 in
set_option maxHeartbeats 2000000 in
theorem cstep_have_no (L g : Nat) (nv lv : Value) (s : NodeS) (m : MsgD) (u : Value) (w : World) (h : NodeP w L g nv lv s) (hu : PairsT w L u m.cmd.writes) (hgm : goodM m) (hep : m.epoch = s.epoch) (hto : m.to = s.id) (hk : m.kind = 2) (hno : ¬ (isN s 1 m.frm = true ∧ 0 ≤ m.n)) :
    Calls Try.prog 16 #[.pointer (some ⟨g, 0, none⟩), .agg #[.int .i64 m.kind, .int .i64 m.frm, .int .i64 m.to, .int .i64 m.epoch, .int .i64 m.n, .int .i64 m.cmd.kind, .int .i64 m.cmd.tx, .int .i64 m.cmd.time, u]] w fun e w' => e = .returned (.slice none 0 0) ∧ Mod noBlock w w' := by
  have HEP := Hid.mk' hep
  have HTO := Hid.mk' hto
  have HK := Hid.mk' hk
  clear hep hto hk
  obtain ⟨ua, ucap, rfl⟩ : ∃ ua ucap, u = .slice ua m.cmd.writes.length ucap := by obtain ⟨ua, ucap, h, _⟩ := hu; exact ⟨ua, ucap, h⟩
  obtain ⟨w1, hw1⟩ : ∃ q, q = w.alloc (.cells #[.int .i64 m.kind, .int .i64 m.frm, .int .i64 m.to, .int .i64 m.epoch, .int .i64 m.n, .int .i64 m.cmd.kind, .int .i64 m.cmd.tx, .int .i64 m.cmd.time, .slice ua m.cmd.writes.length ucap] 51) := ⟨_, rfl⟩
  have hm1 : Mod noBlock w w1 := by rw [hw1]; exact (Mod.refl _ w).alloc _
  have hB1 : Blk w1 w.heap.size (msgCells m (.slice ua m.cmd.writes.length ucap)) 51 := by rw [hw1]; exact Blk.new w _ _
  have h1 := h.quiet hm1
  obtain ⟨la, lcap, hlv⟩ := h1.lg.slice
  subst hlv
  obtain ⟨c0, c1, c2, c3, c4⟩ := blkN5 h1.blk
  obtain ⟨⟨x0, x1, x2, x3, x4, x5, x6, x7, x8⟩, _⟩ := blk9 hB1
  have z1 := hB1.lt
  have z2 := h1.blk.lt
  have hz1 := hm1.size
  have hfew := h1.few
  have hst := h1.st
  have HN := Hid.mk' h1
  have HU := Hid.mk' (hu.mod hm1 (Qm.none _ _))
  clear h hu h1
  go_enter Try.func16, Try.ntmps16
  go_upto_region 1 with fail
  rw [← hw1]
  clear hw1
  have k1 : (m.kind == 1) = false := by simp [HK.out]
  have k2 : (m.kind == 2) = true := by simp [HK.out]
  have k3 : (m.kind == 3) = false := by simp [HK.out]
  have k4 : (m.kind == 4) = false := by simp [HK.out]
  have he1 : (m.epoch != s.epoch) = false := by simp [HEP.out]
  have he2 : (m.to != s.id) = false := by simp [HTO.out]
  go_quiet (fail)
  have HI := is_any L g nv _ s 1 m.frm _ (HN.out.drewN nq) (.inl rfl)
  cases hi : isN s 1 m.frm with
  | true =>
    have hn : ¬ 0 ≤ m.n := fun e => hno ⟨hi, e⟩
    have hd : decide (m.n ≥ 0) = false := decide_eq_false hn
    have hd' : decide (0 ≤ m.n) = false := decide_eq_false hn
    rw [hi] at HI
    have HI' := Hid.mk' HI
    clear HI
    go_wp2_with fail
    refine HI'.out.mono ?_
    rintro e w2 ⟨rfl, m2, rfl⟩
    clear HI'
    go_upto_region 7 with fail
    go_quiet (fail)
    go_upto_region 9 with fail
    go_quiet (fail)
    go_wp2_with fail
    go_ret
    exact ⟨rfl, by first | exact hm1.drewN _ | exact (hm1.drewN _).drewN _ | exact ((hm1.drewN _).drewN _).drewN _ | exact (((hm1.drewN _).drewN _).drewN _).drewN _⟩
  | false =>
    rw [hi] at HI
    have HI' := Hid.mk' HI
    clear HI
    go_wp2_with fail
    refine HI'.out.mono ?_
    rintro e w2 ⟨rfl, m2, rfl⟩
    clear HI'
    go_upto_region 7 with fail
    go_quiet (fail)
    go_upto_region 9 with fail
    go_quiet (fail)
    go_wp2_with fail
    go_ret
    exact ⟨rfl, by first | exact hm1.drewN _ | exact (hm1.drewN _).drewN _ | exact ((hm1.drewN _).drewN _).drewN _ | exact (((hm1.drewN _).drewN _).drewN _).drewN _⟩
end Go.Proofs.Ytefhgakcffhgaab
