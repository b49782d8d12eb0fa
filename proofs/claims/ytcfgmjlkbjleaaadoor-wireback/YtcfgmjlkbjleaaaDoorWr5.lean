/- The program's Msg and Log. -/
import Derived.Test.YtcfgmjlkbjleaaaDoorWr4
namespace Go.Proofs.YtcfgmjlkbjleaaaDoor
open Go.RowKit Go.Lib

def vcmds : List CmdD → List Int × Int → List Int × Int
  | [], s => s
  | c :: cs, s => vcmds cs (vcmd c s)
theorem vcmds_snoc : ∀ cs c s, vcmds (cs ++ [c]) s = vcmd c (vcmds cs s)
  | [], _, _ => rfl
  | q :: cs, c, s => by simp [vcmds, vcmds_snoc cs c]
def vMsg (m : MsgD) : List Int × Int :=
  if m.kind < 1 ∨ 4 < m.kind then ([], 1)
  else if m.kind = 3 then finish (vcmd m.cmd (wnums [m.kind, m.frm, m.to, m.epoch, m.n] ([], 0))) else finish (wnums [m.kind, m.frm, m.to, m.epoch, m.n] ([], 0))
def vLog (cs : List CmdD) : List Int × Int :=
  if 500 < cs.length then ([], 4) else finish (vcmds cs (wnum cs.length ([], 0)))
theorem werr_int {e : Int} : werr e = if e = 0 then .nilIface else .iface 29 (.int .i64 e) := rfl
/-- The five numbers at a message's head. -/
theorem five_any (g : Nat) (s : List Int × Int) (N : Nat) (a b c d f : Int) (w : World) (h : WAt w g s N) (hN : N + 50 ≤ 1099511627776) (ha : a ≤ 9223372036854775807) (hb : b ≤ 9223372036854775807) (hc : c ≤ 9223372036854775807) (hd : d ≤ 9223372036854775807) (hf : f ≤ 9223372036854775807) :
    Calls Tryd.prog 71 #[.pointer (some ⟨g, 0, none⟩), .slice (some ⟨w.heap.size, 0, none⟩) 5 5] (w.alloc (.cells #[.int .i64 a, .int .i64 b, .int .i64 c, .int .i64 d, .int .i64 f] 3)) fun ev w' => ev = .returned (.tuple #[]) ∧ WAt w' g (wnums [a, b, c, d, f] s) (N + 50) ∧ Mod (penMay w g) w w' := by
  have hg := h.lt
  have := numbers_any g w.heap.size s N [a, b, c, d, f] 5 (w.alloc (.cells #[.int .i64 a, .int .i64 b, .int .i64 c, .int .i64 d, .int .i64 f] 3)) (h.alloc _) (Blk.new w [.int .i64 a, .int .i64 b, .int .i64 c, .int .i64 d, .int .i64 f] 3) (by omega) (by simp; omega) (by simp; omega)
  refine this.mono ?_
  rintro ev w' ⟨rfl, h1, h2⟩
  exact ⟨rfl, by simpa using h1, Mod.penOf ((Mod.refl _ w).alloc _) h2⟩
theorem WAt.new (w : World) : WAt (w.alloc (.cells #[.slice none 0 0, .nilIface] 138)) w.heap.size ([], 0) 0 :=
  ⟨.slice none 0 0, [], by simpa [werr] using Blk.new w [.slice none 0 0, .nilIface] 138, World.ownsRow_nil _ _ _ _, Nat.le_refl _, fun _ => rfl⟩

set_option maxRecDepth 100000 in
set_option maxHeartbeats 1000000 in
theorem wMsg_any (L : Nat) (m : MsgD) (v : Value) (w : World) (hL : L ≤ w.heap.size) (hv : PairsR w L v m.cmd.writes) (hl : m.cmd.writes.length ≤ 1000000) (hi : intsM m) :
    Calls Tryd.prog 14 #[.agg #[.int .i64 m.kind, .int .i64 m.frm, .int .i64 m.to, .int .i64 m.epoch, .int .i64 m.n, .int .i64 m.cmd.kind, .int .i64 m.cmd.tx, .int .i64 m.cmd.time, v]] w fun e w' =>
      ∃ v', e = .returned (.tuple #[v', werr (vMsg m).2]) ∧ w'.ownsRow w.heap.size 5 1 v' (vMsg m).1.length ((vMsg m).1.map (Value.int .u8)) ∧ Mod noBlock w w' := by
  obtain ⟨kind, frm, dst, epoch, n, c⟩ := m
  simp only at *
  obtain ⟨⟨hi1, hi2⟩, ⟨_, hi4⟩, ⟨_, hi6⟩, ⟨_, hi8⟩, ⟨_, hi10⟩, hic, hix, hit⟩ := hi
  simp only at *
  obtain ⟨r, hr⟩ : ∃ r, r = vMsg ⟨kind, frm, dst, epoch, n, c⟩ := ⟨_, rfl⟩
  rw [← hr]
  have HR : Hid (r = vMsg ⟨kind, frm, dst, epoch, n, c⟩) := hr
  clear hr
  have hv0 := hv
  obtain ⟨a, cap, rfl, hpc, hcm, hcells⟩ := hv0
  clear hcells
  have HIC := Hid.mk' hic
  have HIX := Hid.mk' hix
  have HIT := Hid.mk' hit
  clear hic hix hit
  go_enter Tryd.func14, Tryd.ntmps14
  by_cases hk : kind < 1 ∨ 4 < kind
  · have HF : Hid (r = ([], 1)) := by rw [Hid, HR.out, vMsg, if_pos hk]
    clear HR
    rcases hk with hk | hk
    all_goals
      go_wp2_with fail
      go_ret2
      rw [HF.out]
      exact ⟨_, rfl, World.ownsRow_nil _ _ _ _, (Mod.refl _ w).alloc _⟩
  · have HF : Hid (r = if kind = 3 then finish (vcmd c (wnums [kind, frm, dst, epoch, n] ([], 0))) else finish (wnums [kind, frm, dst, epoch, n] ([], 0))) := by rw [Hid, HR.out, vMsg, if_neg hk]
    obtain ⟨hka, hkb⟩ : 1 ≤ kind ∧ kind ≤ 4 := by omega
    clear HR hk
    have hB0 := (Blk.new w [.int .i64 kind, .int .i64 frm, .int .i64 dst, .int .i64 epoch, .int .i64 n, .int .i64 c.kind, .int .i64 c.tx, .int .i64 c.time, .slice a c.writes.length cap] 26).mod ((Mod.refl noBlock _).alloc (.cells #[.slice none 0 0, .nilIface] 138)) id
    have hW0 := WAt.new (w.alloc (.cells #[.int .i64 kind, .int .i64 frm, .int .i64 dst, .int .i64 epoch, .int .i64 n, .int .i64 c.kind, .int .i64 c.tx, .int .i64 c.time, .slice a c.writes.length cap] 26))
    rw [World.size_alloc] at hW0
    have hM0 : Mod noBlock w ((w.alloc (.cells #[.int .i64 kind, .int .i64 frm, .int .i64 dst, .int .i64 epoch, .int .i64 n, .int .i64 c.kind, .int .i64 c.tx, .int .i64 c.time, .slice a c.writes.length cap] 26)).alloc (.cells #[.slice none 0 0, .nilIface] 138)) := ((Mod.refl _ w).alloc _).alloc _
    have hn := five_any _ _ _ kind frm dst epoch n _ hW0 (by omega) hi2 hi4 hi6 hi8 hi10
    simp only [World.size_alloc] at hn
    have HN := Hid.mk' hn
    clear hn
    go_wp2_with fail
    refine HN.out.mono ?_
    rintro e w1 ⟨rfl, hW1, hm1⟩
    have hB1 := hB0.pen hm1 (by omega) (by decide)
    have hM1 := hM0.trans' hm1 (fun i hi e => by rcases e with e | e <;> omega)
    obtain ⟨s1, hq1⟩ : ∃ q, q = wnums [kind, frm, dst, epoch, n] ([], 0) := ⟨_, rfl⟩
    rw [← hq1] at hW1 HF
    clear hq1 hB0 hW0 hM0 hm1
    obtain ⟨⟨c0, c1, c2, c3, c4, c5, c6, c7, c8⟩, _⟩ := blk9 hB1
    by_cases h3 : kind = 3
    · subst h3
      have HF3 : Hid (r = finish (vcmd c s1)) := by rw [Hid, HF.out, if_pos rfl]
      have hvr := hv.mod hM1 (fun _ _ => id)
      go_wp2_with fail
      refine (command_wr _ L _ _ _ _ _ hW1 (by omega) hvr (by omega) HIC.out HIX.out HIT.out).mono ?_
      rintro e w3 ⟨rfl, hWE, hm3⟩
      have hME := hM1.trans' hm3 (fun i hi e => by rcases e with e | e <;> omega)
      obtain ⟨sE, hqE⟩ : ∃ q, q = vcmd c s1 := ⟨_, rfl⟩
      rw [← hqE] at hWE HF3
      clear hqE hW1 hB1 hM1 hm3 c0 c1 c2 c3 c4 c5 c6 c7 c8 hvr
      go_wp2_with fail
      refine (result_wr _ _ _ _ hWE).mono ?_
      rintro e w4 ⟨vE, rfl, hownE, hm4⟩
      have HOE := Hid.mk' hownE
      clear hownE
      go_wp2_with fail
      go_ret2
      rw [HF3.out]
      exact ⟨vE, rfl, own_base HOE.out (by omega), hME.trans hm4⟩
    · have HF3 : Hid (r = finish s1) := by rw [Hid, HF.out, if_neg h3]
      have hkb3 : (kind == 3) = false := by simp; omega
      go_wp2_with fail
      refine (result_wr _ _ _ _ hW1).mono ?_
      rintro e w4 ⟨vE, rfl, hownE, hm4⟩
      have HOE := Hid.mk' hownE
      clear hownE
      go_wp2_with fail
      go_ret2
      rw [HF3.out]
      exact ⟨vE, rfl, own_base HOE.out (by omega), hM1.trans hm4⟩

set_option maxRecDepth 100000 in
set_option maxHeartbeats 1000000 in
theorem wLog_any (L : Nat) (cs : List CmdD) (v : Value) (w : World) (hL : L ≤ w.heap.size) (hv : CmdsR w L v cs) (hl : ∀ c ∈ cs, c.writes.length ≤ 1000000) (hi : ∀ c ∈ cs, intsC c) :
    Calls Tryd.prog 17 #[v] w fun e w' =>
      ∃ v', e = .returned (.tuple #[v', werr (vLog cs).2]) ∧ w'.ownsRow w.heap.size 5 1 v' (vLog cs).1.length ((vLog cs).1.map (Value.int .u8)) ∧ Mod noBlock w w' := by
  obtain ⟨r, hr⟩ : ∃ r, r = vLog cs := ⟨_, rfl⟩
  rw [← hr]
  have HR : Hid (r = vLog cs) := hr
  clear hr
  have hv0 := hv
  obtain ⟨a, cap, rfl, hpc, hcm, hcells⟩ := hv0
  clear hcells
  unfold maxLen at hcm
  have HII : Hid (∀ c ∈ cs, intsC c) := hi
  have HLL : Hid (∀ c ∈ cs, c.writes.length ≤ 1000000) := hl
  clear hi hl
  go_enter Tryd.func17, Tryd.ntmps17
  by_cases h500 : 500 < cs.length
  · have HF : Hid (r = ([], 4)) := by rw [Hid, HR.out, vLog, if_pos h500]
    go_wp2_with fail
    go_ret2
    rw [HF.out]
    exact ⟨_, rfl, World.ownsRow_nil _ _ _ _, Mod.refl _ w⟩
  · have HF : Hid (r = finish (vcmds cs (wnum cs.length ([], 0)))) := by rw [Hid, HR.out, vLog, if_neg h500]
    have hd : decide (500 < (cs.length : Int)) = false := by simp; omega
    clear HR
    have hW0 := WAt.new w
    have hM0 : Mod noBlock w (w.alloc (.cells #[.slice none 0 0, .nilIface] 138)) := (Mod.refl _ w).alloc _
    have hn := one_any _ _ _ (cs.length : Int) _ hW0 (by omega) (by omega)
    simp only [World.size_alloc] at hn
    have HN := Hid.mk' hn
    clear hn
    go_wp2_with fail
    refine HN.out.mono ?_
    rintro e w1 ⟨rfl, hW1, hm1⟩
    obtain ⟨s1, hq1⟩ : ∃ q, q = wnum cs.length ([], 0) := ⟨_, rfl⟩
    rw [← hq1] at hW1 HF
    have hM1 := hM0.trans' hm1 (fun i hi e => by rcases e with e | e <;> omega)
    clear hq1 hW0 hM0 hm1
    go_wp2_with fail
    go_loopw [17] (fun i wr => ∃ k : Nat, k ≤ cs.length ∧ i = .int .i64 k ∧ WAt wr w.heap.size (vcmds (cs.take k) s1) (10 + 90000040 * k) ∧ Mod noBlock w wr) (fun i _ => cs.length - (intOf i).toNat)
    case atStart => exact ⟨0, Nat.zero_le _, rfl, by simpa [vcmds] using hW1, hM1⟩
    case round =>
      obtain ⟨k, hk, rfl, hW, hM⟩ := hrel
      have hvr := hv.mod hM (fun _ _ => id)
      clear hW1 hM1
      by_cases hlt : k < cs.length
      · obtain ⟨a', cap', ha', _, _, hcl⟩ := hvr
        simp only [Value.slice.injEq] at ha'
        obtain ⟨rfl, _, rfl⟩ := ha'
        rcases hcl with rfl | ⟨b, off, rfl, hbL, hcl⟩
        · simp at hlt
        obtain ⟨c, hc⟩ : ∃ c, cs[k]? = some c := ⟨_, List.getElem?_eq_getElem hlt⟩
        obtain ⟨u, q0, q1, q2, q3, hu⟩ := hcl k c hc
        have hu' := hu
        obtain ⟨ua, ucap, rfl, _, _, _⟩ := hu'
        have hkc := HII.out c (List.mem_of_getElem? hc)
        have hlc := HLL.out c (List.mem_of_getElem? hc)
        have HT : Hid (cs.take (k + 1) = cs.take k ++ [c]) := by
          rw [Hid, List.take_succ_eq_append_getElem hlt]
          rw [List.getElem?_eq_getElem hlt] at hc
          simp at hc; rw [hc]
        have HS : Hid (vcmds (cs.take (k + 1)) s1 = vcmd c (vcmds (cs.take k) s1)) := by rw [Hid, HT.out, vcmds_snoc]
        obtain ⟨s8, hq8⟩ : ∃ q, q = vcmds (cs.take k) s1 := ⟨_, rfl⟩
        rw [← hq8] at hW HS
        have hUa := hu.mod ((Mod.refl noBlock wr).alloc (.cells #[.int .i64 c.kind, .int .i64 c.tx, .int .i64 c.time, .slice ua c.writes.length ucap] 24)) (fun _ _ => id)
        have HP := Hid.mk' (command_wr w.heap.size L s8 (10 + 90000040 * k) c _ _ (hW.alloc (.cells #[.int .i64 c.kind, .int .i64 c.tx, .int .i64 c.time, .slice ua c.writes.length ucap] 24)) hL hUa (by omega) hkc.1 hkc.2.1 hkc.2.2)
        have hMa := hM.alloc (.cells #[.int .i64 c.kind, .int .i64 c.tx, .int .i64 c.time, .slice ua c.writes.length ucap] 24)
        clear hq8 HT hcl hc hv hW hkc hu hUa
        go_wp2_with fail
        refine HP.out.mono ?_
        rintro e w9 ⟨rfl, hW9, hm9⟩
        have hM9 := hMa.trans' hm9 (fun i hi e => by rcases e with e | e <;> omega)
        have hW9' := hW9.more (show 10 + 90000040 * k + 40 + 90 * c.writes.length ≤ 10 + 90000040 * (k + 1) by omega)
        clear HP hM hMa hm9 q0 q1 q2 q3 hW9
        go_wp2_with fail
        go_roundw
        case rel => exact ⟨k + 1, by omega, by go_num, by rw [HS.out]; exact hW9', hM9⟩
        case measure => simp [intOf]; omega
      · have hkn : k = cs.length := by omega
        subst hkn
        rw [List.take_length] at hW
        obtain ⟨sE, hqE⟩ : ∃ q, q = vcmds cs s1 := ⟨_, rfl⟩
        rw [← hqE] at hW HF
        have HP := Hid.mk' (result_wr _ _ _ _ hW)
        clear hqE hW
        go_wp2_with fail
        refine HP.out.mono ?_
        rintro e w4 ⟨vE, rfl, hownE, hm4⟩
        have HOE := Hid.mk' hownE
        clear hownE
        go_wp2_with fail
        go_ret2
        rw [HF.out]
        exact ⟨vE, rfl, own_base HOE.out (by omega), hM.trans hm4⟩
end Go.Proofs.YtcfgmjlkbjleaaaDoor
