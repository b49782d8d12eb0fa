/- The program's writer: truths, texts, pairs, the result. -/
import Derived.Test.YtcfgmjlkbjleaaaDoorWr2
namespace Go.Proofs.YtcfgmjlkbjleaaaDoor
open Go.RowKit Go.Lib

theorem Mod.penOf {w w' w1 : World} {g : Nat} (h : Mod noBlock w w1) (k : Mod (penMay w1 g) w1 w') : Mod (penMay w g) w w' := penMay_trans (h.mono (fun _ _ e => e.elim)) k
theorem one_any (g : Nat) (s : List Int × Int) (N : Nat) (x : Int) (w : World) (h : WAt w g s N) (hN : N + 10 ≤ 1099511627776) (hi : x ≤ 9223372036854775807) :
    Calls Tryd.prog 71 #[.pointer (some ⟨g, 0, none⟩), .slice (some ⟨w.heap.size, 0, none⟩) 1 1] (w.alloc (.cells #[.int .i64 x] 3)) fun ev w' => ev = .returned (.tuple #[]) ∧ WAt w' g (wnum x s) (N + 10) ∧ Mod (penMay w g) w w' := by
  have hg := h.lt
  have := numbers_any g w.heap.size s N [x] 1 (w.alloc (.cells #[.int .i64 x] 3)) (h.alloc _) (Blk.new w [.int .i64 x] 3) (by omega) (by simp; omega) (by simp; omega)
  refine this.mono ?_
  rintro ev w' ⟨rfl, h1, h2⟩
  exact ⟨rfl, by simpa [wnums] using h1, Mod.penOf ((Mod.refl _ w).alloc _) h2⟩
theorem truth_wr (g : Nat) (s : List Int × Int) (N : Nat) (t : Bool) (w : World) (h : WAt w g s N) (hN : N + 10 ≤ 1099511627776) :
    Calls Tryd.prog 138 #[.pointer (some ⟨g, 0, none⟩), .bool t] w fun ev w' => ev = .returned (.tuple #[]) ∧ WAt w' g (wnum (if t then 1 else 0) s) (N + 10) ∧ Mod (penMay w g) w w' := by
  have H1 := Hid.mk' (one_any g s N 1 w h hN (by omega))
  have H0 := Hid.mk' (one_any g s N 0 w h hN (by omega))
  clear h
  go_enter Tryd.func138, Tryd.ntmps138
  cases t
  · go_wp2_with fail
    refine H0.out.mono ?_
    rintro ev w1 ⟨rfl, h1, h2⟩
    go_wp2_with fail
    go_end0
    exact ⟨rfl, h1, h2⟩
  · go_wp2_with fail
    refine H1.out.mono ?_
    rintro ev w1 ⟨rfl, h1, h2⟩
    go_wp2_with fail
    go_end0
    exact ⟨rfl, h1, h2⟩
/-- What the program's writer does at a text: one that is too long is not written. -/
def vtext (str : ByteArray) (most : Nat) (s : List Int × Int) : List Int × Int :=
  if most < str.size then (s.1, 4) else ((wnum str.size s).1 ++ sbytes str, (wnum str.size s).2)
def vpair (p : PairD) (s : List Int × Int) : List Int × Int :=
  if p.gone then wnum 1 (vtext p.key 20 s) else vtext p.val 40 (wnum 0 (vtext p.key 20 s))

set_option maxRecDepth 100000 in
set_option maxHeartbeats 4000000 in
theorem text_wr (g : Nat) (s : List Int × Int) (N : Nat) (str : ByteArray) (most : Nat) (w : World) (h : WAt w g s N) (hN : N + 10 + most ≤ 1099511627776) :
    Calls Tryd.prog 137 #[.pointer (some ⟨g, 0, none⟩), .string str, .int .i64 most] w fun ev w' => ev = .returned (.tuple #[]) ∧ WAt w' g (vtext str most s) (N + 10 + most) ∧ Mod (penMay w g) w w' := by
  obtain ⟨i0, hi, hz0, hz1, hz2⟩ := info_parts Tryd.info5
  have hgl := h.lt
  by_cases hm : most < str.size
  · obtain ⟨_, c1, _, f1⟩ := h.cells
    have hS := h.set1 4 (by omega) s.1
    have HT : Hid (WAt (w.setCell ⟨g, 1, none⟩ (.iface 29 (.int .i64 4))) g (vtext str most s) (N + 10 + most)) := by
      rw [Hid, vtext, if_pos hm]; exact hS.1.more (by omega)
    have HM := Hid.mk' hS.2
    clear h hS
    go_enter Tryd.func137, Tryd.ntmps137
    go_wp2_with fail
    (try simp only [Exit.inBlock, Exit.then])
    refine bodyPost_ret (results_none rfl _ _ _) rfl ?_
    exact ⟨rfl, HT.out, HM.out⟩
  · have HO := Hid.mk' (one_any g s N str.size w h (by omega) (by omega))
    have HW : Hid (vtext str most s = ((wnum str.size s).1 ++ sbytes str, (wnum str.size s).2)) := by rw [Hid, vtext]; simp only [if_neg hm]
    clear h
    go_enter Tryd.func137, Tryd.ntmps137
    go_wp2_with fail
    refine HO.out.mono ?_
    rintro ev w1 ⟨rfl, h1, hm1⟩
    have hg1 := h1.lt
    obtain ⟨s1, hs1⟩ : ∃ q, q = wnum str.size s := ⟨_, rfl⟩
    rw [← hs1] at h1 HW
    obtain ⟨v, row, hB1, hown1, hN1, hrow1⟩ := h1
    obtain ⟨va, vc, rfl⟩ := own_slice hown1
    have c0 := hB1.cell 0 rfl
    have f0 := hB1.frozen 0
    have HOW := Hid.mk' hown1
    have HRW := Hid.mk' hrow1
    clear hown1 hrow1 HO hs1
    have hk63 : row.length + str.size ≤ maxLen := by unfold maxLen; omega
    have hk47 : row.length + str.size ≤ 140737488355328 := by omega
    go_wp2_with (first
      | (at_builtin; refine wpList_append_own_string _ rfl (.tmp 23) (.tmp 24) 28 9 rfl (g + 1) 5 i0 Tryd.underlying28 Tryd.underlying9 hi hz0 hz1 hz2 _ _ _ rfl HOW.out str rfl hk63 hk47 (by omega) ?_)
      | fail)
    intro v' w3 hown3 hgrow _
    have hm3 : Mod (rowMay w1 (g + 1)) w1 w3 := (Mod.refl _ w1).grown hgrow (fun x hx _ => by
      rcases HOW.out.2 with ⟨e, _⟩ | ⟨q, cap, cur, e, h1, h2, _⟩
      · rw [e] at hx; simp [Value.ownBlock] at hx
      · rw [e] at hx; simp [Value.ownBlock] at hx; subst hx
        exact ⟨h1, cur, _, h2⟩)
    have c3 := (hB1.mod hm3 (fun e => by obtain ⟨e, _⟩ := e; omega)).cell 0 rfl
    have f3 := (hB1.mod hm3 (fun e => by obtain ⟨e, _⟩ := e; omega)).frozen 0
    obtain ⟨va', vc', rfl⟩ := own_slice hown3
    have R := wr_round (s' := vtext str most s) (N := N + 10 + most) (row' := row ++ sbytes str) hB1 hm1 hm3 (by simpa [sbytes_cells, sbytes_len] using hown3) (by simp [sbytes_len]; omega) (by rw [HW.out]) (fun e => by rw [HW.out, HRW.out e])
    have HRR := Hid.mk' R
    clear R hgrow hown3 hB1 hm1 hm3 HOW HRW HW
    go_wp2_with fail
    go_end0
    exact ⟨rfl, HRR.out.1, HRR.out.2⟩
theorem text_wr_at (most : Nat) (g : Nat) (s : List Int × Int) (N : Nat) (str : ByteArray) {m : Int} (w : World) (h : WAt w g s N) (hN : N + 10 + most ≤ 1099511627776) (hm : m = most) :
    Calls Tryd.prog 137 #[.pointer (some ⟨g, 0, none⟩), .string str, .int .i64 m] w fun ev w' => ev = .returned (.tuple #[]) ∧ WAt w' g (vtext str most s) (N + 10 + most) ∧ Mod (penMay w g) w w' := by
  subst hm; exact text_wr g s N str most w h hN

set_option maxRecDepth 100000 in
set_option maxHeartbeats 4000000 in
theorem pair_wr (g : Nat) (s : List Int × Int) (N : Nat) (p : PairD) (w : World) (h : WAt w g s N) (hN : N + 90 ≤ 1099511627776) :
    Calls Tryd.prog 114 #[.pointer (some ⟨g, 0, none⟩), .agg #[.string p.key, .string p.val, .bool p.gone]] w fun ev w' => ev = .returned (.tuple #[]) ∧ WAt w' g (vpair p s) (N + 90) ∧ Mod (penMay w g) w w' := by
  obtain ⟨key, val, gone⟩ := p
  simp only at *
  have hgl := h.lt
  have hP := Blk.new w [.string key, .string val, .bool gone] 84
  have hW := h.alloc (.cells #[.string key, .string val, .bool gone] 84)
  have hM : Mod (penMay w g) w (w.alloc (.cells #[.string key, .string val, .bool gone] 84)) := (Mod.refl _ w).alloc _
  clear h
  go_enter Tryd.func114, Tryd.ntmps114
  go_wp2_with fail
  refine (text_wr_at 20 _ _ _ _ _ hW (by omega) rfl).mono ?_
  rintro ev w1 ⟨rfl, hW1, hm1⟩
  have hP1 := hP.pen hm1 (by omega) (by decide)
  have hM1 := penMay_trans hM hm1
  obtain ⟨x0, x1, x2, y0, y1, y2⟩ := blk3 hP1
  clear hP hW hM hm1
  go_wp2_with fail
  refine (truth_wr _ _ _ _ _ hW1 (by omega)).mono ?_
  rintro ev w2 ⟨rfl, hW2, hm2⟩
  have hP2 := hP1.pen hm2 (by omega) (by decide)
  have hM2 := penMay_trans hM1 hm2
  clear hP1 hW1 hM1 hm2 x0 x1 x2 y0 y1 y2
  obtain ⟨x0, x1, x2, y0, y1, y2⟩ := blk3 hP2
  cases gone with
  | true =>
    have HW : Hid (WAt w2 g (vpair ⟨key, val, true⟩ s) (N + 90)) := hW2.more (by omega)
    clear hW2
    go_wp2_with fail
    go_end0
    exact ⟨rfl, HW.out, hM2⟩
  | false =>
    go_wp2_with fail
    refine (text_wr_at 40 _ _ _ _ _ hW2 (by omega) rfl).mono ?_
    rintro ev w3 ⟨rfl, hW3, hm3⟩
    have hM3 := penMay_trans hM2 hm3
    have HW : Hid (WAt w3 g (vpair ⟨key, val, false⟩ s) (N + 90)) := hW3.more (by omega)
    clear hW3 hW2 hM2 hm3 x0 x1 x2 y0 y1 y2 hP2
    go_wp2_with fail
    go_end0
    exact ⟨rfl, HW.out, hM3⟩
/-- What the program's writer tells in the end. -/
theorem result_wr (g : Nat) (s : List Int × Int) (N : Nat) (w : World) (h : WAt w g s N) :
    Calls Tryd.prog 73 #[.pointer (some ⟨g, 0, none⟩)] w fun ev w' => ∃ v', ev = .returned (.tuple #[v', werr (finish s).2]) ∧ w'.ownsRow (g + 1) 5 1 v' (finish s).1.length ((finish s).1.map (Value.int .u8)) ∧ Mod noBlock w w' := by
  obtain ⟨v, row, hB, hown, hN, hrow⟩ := h
  obtain ⟨bs, e⟩ := s
  simp only at hB hrow
  have c0 := hB.cell 0 rfl
  have c1 := hB.cell 1 rfl
  have HOW := Hid.mk' hown
  clear hown
  by_cases he : e = 0
  · subst he
    have hr := hrow rfl
    subst hr
    have hw0 : werr 0 = .nilIface := by simp [werr]
    rw [hw0] at c1
    have HF : Hid (finish (row, 0) = (row, 0)) := by rw [Hid, finish, if_pos rfl]
    clear hw0 hrow
    go_enter Tryd.func73, Tryd.ntmps73
    go_wp2_with fail
    go_ret2
    rw [HF.out]
    exact ⟨v, by simp [werr], HOW.out, Mod.refl _ _⟩
  · have hw0 : werr e = .iface 29 (.int .i64 e) := by simp [werr, he]
    rw [hw0] at c1
    have HF : Hid (finish (bs, e) = ([], e)) := by rw [Hid, finish, if_neg he]
    have HW := Hid.mk' hw0
    clear hw0 hrow he
    go_enter Tryd.func73, Tryd.ntmps73
    go_wp2_with fail
    go_quiet (fail)
    go_wp2_with fail
    go_ret2
    rw [HF.out, HW.out]
    exact ⟨_, rfl, World.ownsRow_nil _ _ _ _, (Mod.refl _ w).drewN _⟩
end Go.Proofs.YtcfgmjlkbjleaaaDoor
