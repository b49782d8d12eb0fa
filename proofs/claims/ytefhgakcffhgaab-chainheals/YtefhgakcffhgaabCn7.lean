/- The program's node: what it has is told on (forward). -/
import Derived.Test.YtefhgakcffhgaabCn6
namespace Go.Proofs.Ytefhgakcffhgaab
open Go.RowKit Go.Lib Go.Maps

theorem RowM.snoc {w w6 : World} {L : Nat} {v v6 u : Value} {ms : List MsgD} {m : MsgD} {us : List Value} (hus : us.length = ms.length) (hrow : w.ownsRow L 51 9 v ms.length (msgsCells ms us))
    (hps : ∀ (i : Nat) m u, ms[i]? = some m → us[i]? = some u → PairsT w L u m.cmd.writes) (hgd : ∀ m ∈ ms, goodM m) (hu : PairsT w L u m.cmd.writes) (hgm : goodM m)
    (hm6 : Mod (fun k => v.ownBlock = some k) w w6) (hown6 : w6.ownsRow L 51 9 v6 (ms.length + 1) (msgsCells ms us ++ msgCells m u)) : RowM w6 L v6 (ms ++ [m]) := by
  have hq6 := Qm.row hrow (Nat.le_refl _) (by decide)
  refine ⟨us ++ [u], by simp [hus], by rw [msgsCells_snoc _ _ _ _ hus]; simpa using hown6, fun i m' u' hi hu' => ?_, fun m' hm' => ?_⟩
  · by_cases hlt : i < ms.length
    · rw [List.getElem?_append_left hlt] at hi
      rw [List.getElem?_append_left (by omega)] at hu'
      exact (hps i m' u' hi hu').mod hm6 hq6
    · have hi' : i = ms.length := by
        rcases Nat.lt_or_ge i (ms.length + 1) with h' | h'
        · omega
        · rw [List.getElem?_eq_none (by simpa using h')] at hi; cases hi
      subst hi'
      rw [List.getElem?_append_right (Nat.le_refl _)] at hi
      rw [List.getElem?_append_right (by omega)] at hu'
      simp [hus] at hi hu'
      subst hi hu'
      exact hu.mod hm6 hq6
  · rcases List.mem_append.1 hm' with e | e
    · exact hgd m' e
    · simp at e; subst e; exact hgm
theorem RowC.snoc {w w6 : World} {L : Nat} {v v6 u : Value} {ms : List CmdD} {m : CmdD} {us : List Value} (hus : us.length = ms.length) (hrow : w.ownsRow L 49 4 v ms.length (logCells ms us))
    (hps : ∀ (i : Nat) m u, ms[i]? = some m → us[i]? = some u → PairsT w L u m.writes) (hgd : ∀ m ∈ ms, goodC m) (hu : PairsT w L u m.writes) (hgm : goodC m)
    (hm6 : Mod (fun k => v.ownBlock = some k) w w6) (hown6 : w6.ownsRow L 49 4 v6 (ms.length + 1) (logCells ms us ++ cmdCells m u)) : RowC w6 L v6 (ms ++ [m]) := by
  have hq6 := Qm.row hrow (Nat.le_refl _) (by decide)
  refine ⟨us ++ [u], by simp [hus], by rw [logCells_snoc _ _ _ _ hus]; simpa using hown6, fun i m' u' hi hu' => ?_, fun m' hm' => ?_⟩
  · by_cases hlt : i < ms.length
    · rw [List.getElem?_append_left hlt] at hi
      rw [List.getElem?_append_left (by omega)] at hu'
      exact (hps i m' u' hi hu').mod hm6 hq6
    · have hi' : i = ms.length := by
        rcases Nat.lt_or_ge i (ms.length + 1) with h' | h'
        · omega
        · rw [List.getElem?_eq_none (by simpa using h')] at hi; cases hi
      subst hi'
      rw [List.getElem?_append_right (Nat.le_refl _)] at hi
      rw [List.getElem?_append_right (by omega)] at hu'
      simp [hus] at hi hu'
      subst hi hu'
      exact hu.mod hm6 hq6
  · rcases List.mem_append.1 hm' with e | e
    · exact hgd m' e
    · simp at e; subst e; exact hgm

def fwdM (s : NodeS) (t : Int) (k : Nat) (c : CmdD) : MsgD := ⟨3, s.id, t, s.epoch, k, c⟩
/-- n commands from number f on, told to t. -/
def fwdL (s : NodeS) (t : Int) (f n : Nat) : List MsgD := (List.range n).map (fun j => fwdM s t (f + j) (s.log.getD (f + j) zeroCmd))
theorem fwdL_succ (s : NodeS) (t : Int) (f n : Nat) (c : CmdD) (hc : s.log[f + n]? = some c) : fwdL s t f (n + 1) = fwdL s t f n ++ [fwdM s t (f + n) c] := by
  unfold fwdL
  rw [List.range_succ, List.map_append, List.map_singleton, List.getD_eq_getElem?_getD, hc]; rfl
theorem fwdL_len (s : NodeS) (t : Int) (f n : Nat) : (fwdL s t f n).length = n := by simp [fwdL]

set_option maxRecDepth 100000 in
set_option maxHeartbeats 2000000 in
theorem forward_any (L g : Nat) (nv lv : Value) (s : NodeS) (t : Int) (f : Int) (w : World) (h : NodeP w L g nv lv s) (hn : nbrN s 1 = some t) (hf : 0 ≤ f) :
    Calls Try.prog 47 #[.pointer (some ⟨g, 0, none⟩), .int .i64 f] w fun e w' => ∃ v, e = .returned v ∧ RowM w' L v (fwdL s t f.toNat (s.log.length - f.toNat)) ∧ freshV w v ∧ Mod noBlock w w' := by
  obtain ⟨i0, hi, hz0, hz1, hz2⟩ := info_parts Try.info51
  obtain ⟨fn, rfl⟩ : ∃ fn : Nat, f = fn := ⟨f.toNat, by omega⟩
  rw [Int.toNat_natCast]
  obtain ⟨la, lcap, hlv⟩ := h.lg.slice
  subst hlv
  have hfew := h.few.2
  have hlow := h.low
  have HLT : Hid (∀ k, nodeMay g nv (.slice la s.log.length lcap) k → k < w.heap.size) := fun k hk => (h.lt hk).2.1
  go_enter Try.func47, Try.ntmps47
  go_wp2_with fail
  go_loopw [5, 6] (fun v i wr => ∃ j : Nat, j ≤ s.log.length - fn ∧ i = .int .i64 ((fn + j : Nat) : Int) ∧ NodeP wr L g nv (.slice la s.log.length lcap) s ∧ RowM wr L v (fwdL s t fn j) ∧ freshV w v ∧ Mod noBlock w wr) (fun _ i _ => s.log.length - (intOf i).toNat)
  case atStart => exact ⟨0, Nat.zero_le _, rfl, h, RowM.nil _ _, fun k hk => by simp [Value.ownBlock] at hk, Mod.refl _ _⟩
  case round =>
    obtain ⟨j, hj, rfl, hN, hR, hfv, hM⟩ := hrel
    clear h
    obtain ⟨c0, c1, c2, c3, c4⟩ := blkN5 hN.blk
    by_cases hlt : fn + j < s.log.length
    · obtain ⟨c, hc⟩ : ∃ c, s.log[fn + j]? = some c := ⟨_, List.getElem?_eq_getElem hlt⟩
      obtain ⟨b, bcap, u, hv, hb1, hb2, hu, hgc, q0, q1, q2, q3⟩ := hN.lg.at hc
      simp only [Value.slice.injEq] at hv
      obtain ⟨rfl, _, rfl⟩ := hv
      obtain ⟨ua, ucap, rfl⟩ : ∃ ua ucap, u = .slice ua c.writes.length ucap := by obtain ⟨ua, ucap, h, _⟩ := hu; exact ⟨ua, ucap, h⟩
      obtain ⟨kk, hkk⟩ : ∃ kk : Nat, kk = fn + j := ⟨_, rfl⟩
      have HSU := Hid.mk' (fwdL_succ s t fn j c hc)
      rw [← hkk] at hlt q0 q1 q2 q3 HSU ⊢
      have HO := Hid.mk' (ownC_any L c (.slice ua c.writes.length ucap) wr hu (by have := hgc.2; omega))
      have hltI : (kk : Int) < (s.log.length : Int) := by omega
      have hlt0 : (0 : Int) ≤ (kk : Int) := by omega
      have HKK := Hid.mk' hkk
      clear hu hc hkk
      go_wp2_with fail
      refine HO.out.mono ?_
      rintro e w5 ⟨uo, rfl, hown5, hm5⟩
      obtain ⟨ua5, uc5, rfl⟩ := own_slice hown5
      have hu5 := PairsT.of_own (L := L) hown5
      have hN5 := hN.quiet hm5
      have hR5 := hR.mod hm5 (Qm.none _ _) (fun _ _ => id)
      have HS := Hid.mk' (csend_any L g nv _ s 1 ⟨3, 0, 0, 0, kk, c⟩ (.slice ua5 c.writes.length uc5) w5 hN5 (.inl rfl) hu5 ⟨by simp [int64], by simp only [int64]; omega, hgc⟩)
      have hM5 := hM.trans hm5
      clear HO hown5 hN hR hM q0 q1 q2 q3 c0 c1 c2 c3 c4
      go_wp2_with fail
      refine HS.out.mono ?_
      rintro e w6 ⟨v6, rfl, hR6, hfv6, hm6⟩
      have hs1 : sendN s 1 ⟨3, 0, 0, 0, kk, c⟩ = [fwdM s t kk c] := by unfold sendN; rw [hn]; rfl
      rw [hs1] at hR6
      obtain ⟨b6, bc6, us6, hv6, _, _, hu6, hgm6, r0, r1, r2, r3, r4, r5, r6, r7, r8⟩ := hR6.at (i := 0) (m := fwdM s t kk c) rfl
      obtain ⟨ua6, uc6, rfl⟩ : ∃ ua ucap, us6 = .slice ua c.writes.length ucap := by obtain ⟨ua, ucap, h, _⟩ := hu6; exact ⟨ua, ucap, h⟩
      have hN6 := hN5.quiet hm6
      have hR56 := hR5.mod hm6 (Qm.none _ _) (fun _ _ => id)
      have hM6 := hM5.trans hm6
      have hz6 := hM6.size
      have HSRC : Hid (∀ (i : Nat) x, (msgCells (fwdM s t kk c) (.slice ua6 c.writes.length uc6))[i]? = some x → w6.cell? ((⟨b6, 0, none⟩ : Addr).add i) = some x) := by
        intro i x hx
        rw [Go.WideShapes.add_plain, Nat.zero_add]
        have hi9 : i < 9 := (List.getElem?_eq_some_iff.1 hx).1
        have hcs : i = 0 ∨ i = 1 ∨ i = 2 ∨ i = 3 ∨ i = 4 ∨ i = 5 ∨ i = 6 ∨ i = 7 ∨ i = 8 := by omega
        simp only [Nat.zero_mul, Nat.zero_add] at r0 r1 r2 r3 r4 r5 r6 r7 r8
        rcases hcs with rfl | rfl | rfl | rfl | rfl | rfl | rfl | rfl | rfl <;> (simp [msgCells] at hx; subst hx; assumption)
      obtain ⟨us, hus, hrow, hps, hgd⟩ := hR56
      have HROW := Hid.mk' hrow
      have HPS := Hid.mk' hps
      have HGD := Hid.mk' hgd
      have HU := Hid.mk' hu6
      have HGM := Hid.mk' hgm6
      have HLN := Hid.mk' (fwdL_len s t fn j)
      rw [HLN.out] at HROW
      have hk63 : j + 1 ≤ maxLen := by unfold maxLen; omega
      have hk47 : (j + 1) * 88 ≤ 140737488355328 := by omega
      have hL6 : L ≤ w6.heap.size := by have := hN6.blk.lt; omega
      simp only [List.length_cons, List.length_nil] at hv6
      rw [hv6]
      have HN6 := Hid.mk' hN6
      clear hrow hps hgd HS hN5 hR5 hM5 hR6 hu6 hgm6 r0 r1 r2 r3 r4 r5 r6 r7 r8 hv6 hN6 hs1 hu5 hm5 hm6
      go_wp2_with (first
        | (at_builtin; refine wpList_append_own_at _ rfl (.tmp 17) (.tmp 29) 35 rfl L 51 i0 _ 9 88 Try.underlying35 hi hz0 hz1 hz2 rfl (by omega) _ _ _ rfl HROW.out ⟨b6, 0, none⟩ 1 bc6 (msgCells (fwdM s t kk c) (.slice ua6 c.writes.length uc6)) rfl rfl HSRC.out (msg_one _ _ _ _) hk63 hk47 hL6 ?_)
        | fail)
      intro v7 w7 hown7 hgrow _ hloc
      have hm7 : Mod (fun k => u5.ownBlock = some k) w6 w7 := (Mod.refl _ w6).grown hgrow (fun x hx _ => hx)
      have hR7 := RowM.snoc hus (by rw [HLN.out]; exact HROW.out) HPS.out HGD.out HU.out HGM.out hm7 (by rw [HLN.out]; exact hown7)
      have hM7 : Mod noBlock w w7 := hM6.trans' hm7 (fun i hi e => by have := hfv i e; omega)
      have hN7 := HN6.out.mod hm7 (Qm.row HROW.out (Nat.le_refl _) (by decide)) (fun k hk e => by have := HLT.out k hk; have := hfv k e; omega)
      have hf7 : freshV w v7 := fun k hk => by
        rcases hloc with e | e
        · exact hfv k (by rw [← e]; exact hk)
        · rw [e] at hk; simp at hk; omega
      rw [← HSU.out] at hR7
      have HR7 := Hid.mk' hR7
      have HN7 := Hid.mk' hN7
      clear hown7 hgrow hloc HROW HPS HGD HU HGM HSRC hM6 hR7 hN7 hm7 HN6
      go_wp2_with fail
      go_roundw
      case rel => exact ⟨j + 1, by have := HKK.out; omega, by rw [show fn + (j + 1) = kk + 1 by have := HKK.out; omega]; go_num, HN7.out, HR7.out, hf7, hM7⟩
      case measure => simp [intOf]; omega
    · have hd : decide (((fn + j : Nat) : Int) < (s.log.length : Int)) = false := decide_eq_false (by omega)
      obtain rfl : j = s.log.length - fn := by omega
      have HR := Hid.mk' hR
      clear hN hR
      go_wp2_with fail
      go_ret
      exact ⟨_, rfl, HR.out, hfv, hM⟩
end Go.Proofs.Ytefhgakcffhgaab
