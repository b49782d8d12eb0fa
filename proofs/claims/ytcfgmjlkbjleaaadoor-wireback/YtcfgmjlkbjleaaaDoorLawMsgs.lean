/- The laws WireMsgs and WireLogs, walked. -/
import Derived.Test.YtcfgmjlkbjleaaaDoorVr
import Derived.Test.YtcfgmjlkbjleaaaDoorEr2
namespace Go.Proofs.YtcfgmjlkbjleaaaDoor
open Go.RowKit Go.Lib

theorem few_any (k t i : Int) (a : Option Addr) (n cap : Nat) (w : World) (hn : (n : Int) ≤ 9223372036854775807) :
    Calls Tryd.prog 12 #[.agg #[.int .i64 k, .int .i64 t, .int .i64 i, .slice a n cap]] w fun e w' => e = .returned (.bool (decide (n ≤ 40))) ∧ Mod noBlock w w' := by
  have hd : decide ((n : Int) ≤ 40) = decide (n ≤ 40) := decide_eq_decide.2 (by omega)
  go_enter Tryd.func12, Tryd.ntmps12
  go_wp2_with fail
  go_ret
  exact ⟨rfl, (Mod.refl _ w).alloc _⟩
theorem bare_same (e : Int) (w : World) (h : ET w) : Calls Tryd.prog 15 #[werr e, .int .i64 e] w fun ev w' => ev = .returned (.bool true) ∧ Mod noBlock w w' := by
  by_cases h0 : e = 0
  · subst h0
    have : werr 0 = .nilIface := by simp [werr]
    rw [this]; exact bare_nil 0 w
  · have : werr e = .iface 29 (.int .i64 e) := by simp [werr, h0]
    rw [this]
    refine (bare_errno e e w h).mono ?_
    rintro ev w' ⟨rfl, hm⟩
    exact ⟨by simp, hm⟩
theorem psize_mem {ps : List PairD} {p : PairD} (h : p ∈ ps) : p.key.size + p.val.size ≤ psize ps := by
  induction ps with
  | nil => simp at h
  | cons q ps ih =>
    simp only [psize]
    rcases List.mem_cons.1 h with rfl | h
    · omega
    · have := ih h; omega
theorem bytes_own {w : World} {B : Nat} {v : Value} {bs : List Int} (h : w.ownsRow B 5 1 v bs.length (bs.map (Value.int .u8))) (hb : Byt bs) : BAt w w.heap.size v bs := BAt.of_own h hb (Nat.le_refl _)

set_option maxRecDepth 100000 in
set_option maxHeartbeats 1000000 in
theorem wireMsgs_any (m : MsgD) (v : Value) (w : World) (hv : PairsR w w.heap.size v m.cmd.writes) (hl : psize m.cmd.writes ≤ 18874368) (hi : intsM m) (het : ET w) :
    Calls Tryd.prog 3 #[.agg #[.int .i64 m.kind, .int .i64 m.frm, .int .i64 m.to, .int .i64 m.epoch, .int .i64 m.n, .int .i64 m.cmd.kind, .int .i64 m.cmd.tx, .int .i64 m.cmd.time, v]] w fun e w' => e = .returned (.bool true) ∧ Mod noBlock w w' := by
  have hv0 := hv
  obtain ⟨a, cap, rfl, hpc, hcm, hcells⟩ := hv0
  clear hcells
  unfold maxLen at hcm
  obtain ⟨w1, hw1⟩ : ∃ q, q = w.alloc (.cells #[.int .i64 m.kind, .int .i64 m.frm, .int .i64 m.to, .int .i64 m.epoch, .int .i64 m.n, .int .i64 m.cmd.kind, .int .i64 m.cmd.tx, .int .i64 m.cmd.time, .slice a m.cmd.writes.length cap] 26) := ⟨_, rfl⟩
  have hB1 : Blk w1 w.heap.size [.int .i64 m.kind, .int .i64 m.frm, .int .i64 m.to, .int .i64 m.epoch, .int .i64 m.n, .int .i64 m.cmd.kind, .int .i64 m.cmd.tx, .int .i64 m.cmd.time, .slice a m.cmd.writes.length cap] 26 := by rw [hw1]; exact Blk.new w _ _
  have hM1 : Mod noBlock w w1 := by rw [hw1]; exact (Mod.refl _ w).alloc _
  go_enter Tryd.func3, Tryd.ntmps3
  go_wp2_with fail
  rw [← hw1]
  clear hw1
  refine (few_any _ _ _ _ _ _ w1 (by omega)).mono ?_
  rintro e w2 ⟨rfl, hm2⟩
  have hB2 := hB1.mod hm2 id
  have hM2 := hM1.trans hm2
  obtain ⟨⟨x0, x1, x2, x3, x4, x5, x6, x7, x8⟩, _⟩ := blk9 hB2
  clear hB1 hM1 hm2
  by_cases h40 : m.cmd.writes.length ≤ 40
  · have hd : decide (m.cmd.writes.length ≤ 40) = true := by simpa using h40
    have hv2 := hv.mod hM2 (fun _ _ => id)
    have hz2 := hM2.size
    have X1 := Hid.mk' (rMsg_any w.heap.size m _ w2 hz2 hv2 (by omega) hi.2.2.2.2.2.1.1 hi.2.2.2.2.2.1.2)
    have HV := Hid.mk' hv
    have HI := Hid.mk' hi
    have HET := Hid.mk' het
    have HB := Hid.mk' hB2
    have HSM : Hid (vMsg m = rMsg m) := vMsg_eq m (fun p hp => by
      have := psize_mem hp; omega)
    clear hv2 hv hi het
    go_wp2_with fail
    refine X1.out.mono ?_
    rintro e w3 ⟨v3, rfl, hown3, hm3⟩
    have hM3 := hM2.trans hm3
    have hB3 := hB2.mod hm3 id
    have hz3 := hM3.size
    have HO3 := Hid.mk' hown3
    have X2 := Hid.mk' (wMsg_any w.heap.size m _ w3 hz3 (HV.out.mod hM3 (fun _ _ => id)) (by omega) HI.out)
    rw [HSM.out] at X2
    clear X1 hown3 x0 x1 x2 x3 x4 x5 x6 x7 x8
    obtain ⟨⟨x0, x1, x2, x3, x4, x5, x6, x7, x8⟩, _⟩ := blk9 hB3
    obtain ⟨r, hr⟩ : ∃ q, q = rMsg m := ⟨_, rfl⟩
    have HBY : Hid (Byt r.1) := by rw [hr]; exact byt_rMsg m
    rw [← hr] at X2 HO3 ⊢
    clear hr HSM hB2
    go_wp2_with fail
    refine X2.out.mono ?_
    rintro e w4 ⟨v4, rfl, hown4, hm4⟩
    have hM4 := hM3.trans hm4
    have HO4 := Hid.mk' hown4
    have X3 := Hid.mk' (bare_same r.2 w4 (HET.out.mod hM4))
    clear X2 hown4 x0 x1 x2 x3 x4 x5 x6 x7 x8 hB3
    go_wp2_with fail
    refine X3.out.mono ?_
    rintro e w5 ⟨rfl, hm5⟩
    have C3 := conv_bat (bytes_own (own_mod (own_mod HO3.out hm4 (fun _ _ _ _ => id)) hm5 (fun _ _ _ _ => id)) HBY.out)
    have C4 := conv_bat (bytes_own (own_mod HO4.out hm5 (fun _ _ _ _ => id)) HBY.out)
    clear X3
    go_wp2_with fail
    go_ret
    exact ⟨by simp, hM4.trans hm5⟩
  · have hd : decide (m.cmd.writes.length ≤ 40) = false := by simpa using h40
    go_wp2_with fail
    go_ret
    exact ⟨rfl, hM2⟩
end Go.Proofs.YtcfgmjlkbjleaaaDoor
