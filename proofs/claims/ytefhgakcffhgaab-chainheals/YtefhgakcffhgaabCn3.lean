/- The program's node: neighbour, is, send; a command of its own; the small ones. -/
import Derived.Test.YtefhgakcffhgaabCn2
namespace Go.Proofs.Ytefhgakcffhgaab
open Go.RowKit Go.Lib Go.Maps

set_option maxRecDepth 100000 in
set_option maxHeartbeats 1000000 in
theorem neighbour_any (L g : Nat) (nv lv : Value) (s : NodeS) (wh : Int) (w : World) (h : NodeP w L g nv lv s) (hwh : wh = 1 ∨ wh = -1) :
    Calls Try.prog 70 #[.pointer (some ⟨g, 0, none⟩), .int .i64 wh] w fun e w' => e = .returned (.tuple #[.int .i64 ((nbrN s wh).getD 0), .bool (nbrN s wh).isSome]) ∧ ∃ m, w' = w.drewN m := by
  obtain ⟨na, ncap, hnv⟩ := own_slice h.ns
  subst hnv
  obtain ⟨c0, c1, c2, c3, c4⟩ := blkN5 h.blk
  have hf := h.few.1
  have HN := Hid.mk' h
  have HI := Hid.mk' (IntsV.of_own h.ns)
  have hgl := h.blk.lt
  have HP := Hid.mk' (place_any L g _ lv s w h)
  clear h
  have hpc := placeN_cases s
  obtain ⟨p, hp⟩ : ∃ q, q = placeN s := ⟨_, rfl⟩
  have HPP := Hid.mk' hp
  rw [← hp] at HP hpc
  have hpb : -1 ≤ p ∧ p < 1000001 := by
    rcases hpc with e | ⟨k, e, _, e2⟩ <;> omega
  clear hp
  go_enter Try.func70, Try.ntmps70
  go_wp2_with fail
  refine HP.out.mono ?_
  rintro e w1 ⟨rfl, m1, rfl⟩
  have HIN := Hid.mk' (in_any L g _ lv s (w.drewN m1) (HN.out.drewN m1))
  have hgl1 : g < (w.drewN m1).heap.size := hgl
  have hinp : inN s = decide (0 ≤ p) := by rw [inN, ← HPP.out]
  rw [hinp] at HIN
  by_cases h0 : 0 ≤ p
  · have hd0 : decide (0 ≤ p) = true := decide_eq_true h0
    rw [hd0] at HIN
    have HB : Hid (nbrN s wh = if decide (0 ≤ p + wh) && decide (p + wh < (s.nodes.length : Int)) then s.nodes[(p + wh).toNat]? else none) := by
      rw [Hid, nbrN, hinp, hd0, ← HPP.out, Bool.true_and]
    by_cases h1 : 0 ≤ p + wh
    · by_cases h2 : p + wh < (s.nodes.length : Int)
      · obtain ⟨kk, hkk⟩ : ∃ kk : Nat, p + wh = kk := ⟨(p + wh).toNat, by omega⟩
        rw [hkk] at HB h1 h2
        obtain ⟨y, hy⟩ : ∃ y, s.nodes[kk]? = some y := ⟨_, List.getElem?_eq_getElem (by omega)⟩
        have HB2 : Hid (nbrN s wh = some y) := by
          rw [Hid, HB.out, decide_eq_true h1, decide_eq_true h2]; simpa using hy
        obtain ⟨a', cap', ha', hc1, hc2, hcl⟩ := HI.out
        simp only [Value.slice.injEq] at ha'
        obtain ⟨rfl, _, rfl⟩ := ha'
        rcases hcl with e | ⟨b, off, rfl, hcl⟩
        · rw [e] at hy; simp at hy
        have q0 := hcl kk y hy
        have hd1 : decide ((kk : Int) < 0) = false := decide_eq_false (by omega)
        have hd2 : decide ((kk : Int) ≥ (s.nodes.length : Int)) = false := decide_eq_false (by omega)
        have hd3 : decide ((s.nodes.length : Int) ≤ (kk : Int)) = false := decide_eq_false (by omega)
        have hwr : IntKind.i64.wrap (p + wh) = (kk : Int) := by rw [IntKind.wrap_i64]; omega
        have hwr2 : wrap64 (p + wh) = (kk : Int) := by rw [hkk]; unfold wrap64; omega
        clear hcl hy HB HP HN
        go_wp2_with fail
        refine HIN.out.mono ?_
        rintro e w2 ⟨rfl, m2, rfl⟩
        go_wp2_with fail
        refine bodyPost_ret (results_tmp2 rfl _ _ _) rfl ⟨?_, m1 + m2, rfl⟩
        rw [HB2.out]; rfl
      · have HB2 : Hid (nbrN s wh = none) := by
          rw [Hid, HB.out, decide_eq_false h2, Bool.and_false]; rfl
        obtain ⟨kk, hkk⟩ : ∃ kk : Nat, p + wh = kk := ⟨(p + wh).toNat, by omega⟩
        rw [hkk] at h1 h2
        have hd1 : decide ((kk : Int) < 0) = false := decide_eq_false (by omega)
        have hd2 : decide ((kk : Int) ≥ (s.nodes.length : Int)) = true := decide_eq_true (by omega)
        have hd3 : decide ((s.nodes.length : Int) ≤ (kk : Int)) = true := decide_eq_true (by omega)
        have hwr2 : wrap64 (p + wh) = (kk : Int) := by rw [hkk]; unfold wrap64; omega
        clear HB HP HN
        go_wp2_with fail
        refine HIN.out.mono ?_
        rintro e w2 ⟨rfl, m2, rfl⟩
        go_wp2_with fail
        refine bodyPost_ret (results_tmp2 rfl _ _ _) rfl ⟨?_, m1 + m2, rfl⟩
        rw [HB2.out]; rfl
    · have HB2 : Hid (nbrN s wh = none) := by
        rw [Hid, HB.out, decide_eq_false h1, Bool.false_and]; rfl
      have hd1 : decide (p + wh < 0) = true := decide_eq_true (by omega)
      have hwr2 : wrap64 (p + wh) = p + wh := by unfold wrap64; omega
      clear HB HP HN
      go_wp2_with fail
      refine HIN.out.mono ?_
      rintro e w2 ⟨rfl, m2, rfl⟩
      go_wp2_with fail
      refine bodyPost_ret (results_tmp2 rfl _ _ _) rfl ⟨?_, m1 + m2, rfl⟩
      rw [HB2.out]; rfl
  · have hd0 : decide (0 ≤ p) = false := decide_eq_false h0
    rw [hd0] at HIN
    have HB2 : Hid (nbrN s wh = none) := by
      rw [Hid, nbrN, hinp, hd0, Bool.false_and]; rfl
    clear HP HN
    go_wp2_with fail
    refine HIN.out.mono ?_
    rintro e w2 ⟨rfl, m2, rfl⟩
    go_wp2_with fail
    refine bodyPost_ret (results_tmp2 rfl _ _ _) rfl ⟨?_, m1 + m2, rfl⟩
    rw [HB2.out]; rfl
def isN (s : NodeS) (wh x : Int) : Bool := match nbrN s wh with
  | none => false
  | some y => y == x
set_option maxHeartbeats 400000 in
theorem is_any (L g : Nat) (nv lv : Value) (s : NodeS) (wh x : Int) (w : World) (h : NodeP w L g nv lv s) (hwh : wh = 1 ∨ wh = -1) :
    Calls Try.prog 46 #[.pointer (some ⟨g, 0, none⟩), .int .i64 wh, .int .i64 x] w fun e w' => e = .returned (.bool (isN s wh x)) ∧ ∃ m, w' = w.drewN m := by
  have HP := Hid.mk' (neighbour_any L g nv lv s wh w h hwh)
  clear h hwh
  go_enter Try.func46, Try.ntmps46
  cases hn : nbrN s wh with
  | none =>
    rw [hn] at HP
    have HB : Hid (isN s wh x = false) := by rw [Hid, isN, hn]
    go_wp2_with fail
    refine HP.out.mono ?_
    rintro e w1 ⟨rfl, m1, rfl⟩
    simp only [Option.getD_none, Option.isSome_none]
    go_wp2_with fail
    go_ret
    exact ⟨by rw [HB.out]; rfl, m1, rfl⟩
  | some y =>
    rw [hn] at HP
    have HB : Hid (isN s wh x = (y == x)) := by rw [Hid, isN, hn]
    go_wp2_with fail
    refine HP.out.mono ?_
    rintro e w1 ⟨rfl, m1, rfl⟩
    simp only [Option.getD_some, Option.isSome_some]
    go_wp2_with fail
    go_ret
    exact ⟨by rw [HB.out]; rfl, m1, rfl⟩
theorem croom_any (L g : Nat) (nv lv : Value) (s : NodeS) (w : World) (h : NodeP w L g nv lv s) :
    Calls Try.prog 48 #[.pointer (some ⟨g, 0, none⟩)] w fun e w' => e = .returned (.bool (decide (s.log.length < 500))) ∧ w' = w := by
  obtain ⟨la, lcap, hlv⟩ := h.lg.slice
  subst hlv
  obtain ⟨c0, c1, c2, c3, c4⟩ := blkN5 h.blk
  have hf := h.few.2
  have hd : decide ((s.log.length : Int) < 500) = decide (s.log.length < 500) := decide_eq_decide.2 (by omega)
  clear h
  go_enter Try.func48, Try.ntmps48
  go_wp2_with fail
  go_ret
  exact ⟨rfl, rfl⟩
theorem clen_any (L g : Nat) (nv lv : Value) (s : NodeS) (w : World) (h : NodeP w L g nv lv s) :
    Calls Try.prog 20 #[.pointer (some ⟨g, 0, none⟩)] w fun e w' => e = .returned (.int .i64 s.log.length) ∧ w' = w := by
  obtain ⟨la, lcap, hlv⟩ := h.lg.slice
  subst hlv
  obtain ⟨c0, c1, c2, c3, c4⟩ := blkN5 h.blk
  clear h
  go_enter Try.func20, Try.ntmps20
  go_wp2_with fail
  go_ret
  exact ⟨rfl, rfl⟩
theorem cstable_any (L g : Nat) (nv lv : Value) (s : NodeS) (w : World) (h : NodeP w L g nv lv s) :
    Calls Try.prog 19 #[.pointer (some ⟨g, 0, none⟩)] w fun e w' => e = .returned (.int .i64 s.stable) ∧ w' = w := by
  obtain ⟨c0, c1, c2, c3, c4⟩ := blkN5 h.blk
  clear h
  go_enter Try.func19, Try.ntmps19
  go_wp2_with fail
  go_ret
  exact ⟨rfl, rfl⟩
theorem cepoch_any (L g : Nat) (nv lv : Value) (s : NodeS) (w : World) (h : NodeP w L g nv lv s) :
    Calls Try.prog 33 #[.pointer (some ⟨g, 0, none⟩)] w fun e w' => e = .returned (.int .i64 s.epoch) ∧ w' = w := by
  obtain ⟨c0, c1, c2, c3, c4⟩ := blkN5 h.blk
  clear h
  go_enter Try.func33, Try.ntmps33
  go_wp2_with fail
  go_ret
  exact ⟨rfl, rfl⟩
theorem cnew_any (id : Int) (w : World) (hid : int64 id) :
    Calls Try.prog 30 #[.int .i64 id] w fun e w' => e = .returned (.pointer (some ⟨w.heap.size, 0, none⟩)) ∧ NodeP w' w.heap.size w.heap.size (.slice none 0 0) (.slice none 0 0) ⟨id, 0, [], [], 0⟩ ∧ Mod noBlock w w' := by
  go_enter Try.func30, Try.ntmps30
  go_wp2_with fail
  go_ret
  exact ⟨rfl, ⟨Blk.new w _ _, Nat.le_refl _, World.ownsRow_nil _ _ _ _, RowC.nil _ _, ⟨hid, by simp [int64], by simp⟩, by simp, by simp⟩, (Mod.refl _ w).alloc _⟩
end Go.Proofs.Ytefhgakcffhgaab
