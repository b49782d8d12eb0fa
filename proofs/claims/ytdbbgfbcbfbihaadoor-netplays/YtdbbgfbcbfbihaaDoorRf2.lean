/- The document's Log (package chainmailref). -/
import Derived.Test.YtdbbgfbcbfbihaaDoorRf
namespace Go.Proofs.YtdbbgfbcbfbihaaDoor
open Go.RowKit Go.Lib

/-- Commands that lie where the slice v says, in blocks below L. -/
def CmdsR (w : World) (L : Nat) (v : Value) (cs : List CmdD) : Prop :=
  ∃ a cap, v = .slice a cs.length cap ∧ cs.length ≤ cap ∧ cap ≤ maxLen ∧
    (cs = [] ∨ ∃ b off, a = some ⟨b, off, none⟩ ∧ b < L ∧ ∀ (j : Nat) c, cs[j]? = some c → ∃ u, w.cell? ⟨b, off + j * 4, none⟩ = some (.int .i64 c.kind) ∧ w.cell? ⟨b, off + j * 4 + 1, none⟩ = some (.int .i64 c.tx) ∧
      w.cell? ⟨b, off + j * 4 + 2, none⟩ = some (.int .i64 c.time) ∧ w.cell? ⟨b, off + j * 4 + 3, none⟩ = some u ∧ PairsR w L u c.writes)
theorem CmdsR.mod {G : Nat → Prop} {w w' : World} {L : Nat} {v : Value} {cs : List CmdD} (h : CmdsR w L v cs) (hm : Mod G w w') (hG : ∀ k, k < L → ¬ G k) : CmdsR w' L v cs := by
  obtain ⟨a, cap, h1, h2, h3, h4⟩ := h
  refine ⟨a, cap, h1, h2, h3, ?_⟩
  rcases h4 with h4 | ⟨b, off, h5, h6, h7⟩
  · exact .inl h4
  · refine .inr ⟨b, off, h5, h6, fun j c hc => ?_⟩
    obtain ⟨u, q0, q1, q2, q3, q4⟩ := h7 j c hc
    exact ⟨u, hm.cell q0 (hG b h6), hm.cell q1 (hG b h6), hm.cell q2 (hG b h6), hm.cell q3 (hG b h6), q4.mod hm hG⟩
theorem logCells_at : ∀ (cs : List CmdD) (vs : List Value) (j : Nat) (c : CmdD), vs.length = cs.length → cs[j]? = some c → ∃ u, vs[j]? = some u ∧ (logCells cs vs)[j * 4]? = some (.int .i64 c.kind) ∧ (logCells cs vs)[j * 4 + 1]? = some (.int .i64 c.tx) ∧ (logCells cs vs)[j * 4 + 2]? = some (.int .i64 c.time) ∧ (logCells cs vs)[j * 4 + 3]? = some u
  | [], _, _, _, _, h => by simp at h
  | _ :: _, [], _, _, h, _ => by simp at h
  | c' :: cs, v' :: vs, 0, c, _, h => by simp at h; subst h; exact ⟨v', by simp [logCells, cmdCells]⟩
  | c' :: cs, v' :: vs, j + 1, c, hl, h => by
    obtain ⟨u, h0, h1, h2, h3, h4⟩ := logCells_at cs vs j c (by simpa using hl) (by simpa using h)
    have e : ∀ i, (logCells (c' :: cs) (v' :: vs))[i + 4]? = (logCells cs vs)[i]? := fun i => by simp [logCells, cmdCells]
    refine ⟨u, by simpa using h0, ?_, ?_, ?_, ?_⟩
    · rw [show (j + 1) * 4 = j * 4 + 4 by omega, e]; exact h1
    · rw [show (j + 1) * 4 + 1 = j * 4 + 1 + 4 by omega, e]; exact h2
    · rw [show (j + 1) * 4 + 2 = j * 4 + 2 + 4 by omega, e]; exact h3
    · rw [show (j + 1) * 4 + 3 = j * 4 + 3 + 4 by omega, e]; exact h4
theorem CmdsR.of_at {w : World} {B L : Nat} {v : Value} {cs : List CmdD} (h : CmdsAt w B v cs) (hL : w.heap.size ≤ L) : CmdsR w L v cs := by
  obtain ⟨vs, hvl, hrow, hall⟩ := h
  rcases hrow.2 with ⟨rfl, h0⟩ | ⟨g, cap, cur, rfl, _, hg, h1, h2, _, _⟩
  · have : cs = [] := List.eq_nil_of_length_eq_zero h0
    subst this
    exact ⟨none, 0, rfl, Nat.le_refl _, Nat.zero_le _, .inl rfl⟩
  · have hc := hrow.cells (g := g) rfl
    have add0 : ∀ j, (⟨g, 0, none⟩ : Addr).add j = ⟨g, 0 + j, none⟩ := fun j => by unfold Addr.add; split <;> simp_all
    refine ⟨_, cap, rfl, h1, h2, .inr ⟨g, 0, rfl, by have := (Array.getElem?_eq_some_iff.1 hg).1; omega, fun j c hj => ?_⟩⟩
    obtain ⟨u, f0, f1, f2, f3, f4⟩ := logCells_at cs vs j c hvl hj
    refine ⟨u, ?_, ?_, ?_, ?_, PairsR.of_own (hall j c u hj f0) hL⟩
    · have := hc _ _ f1; rw [add0] at this; exact this
    · have := hc _ _ f2; rw [add0] at this; rw [Nat.add_assoc]; exact this
    · have := hc _ _ f3; rw [add0] at this; rw [Nat.add_assoc]; exact this
    · have := hc _ _ f4; rw [add0] at this; rw [Nat.add_assoc]; exact this
def wcmds : List CmdD → List Int × Int → List Int × Int
  | [], s => s
  | c :: cs, s => wcmds cs (wcmd c s)
theorem wcmds_snoc : ∀ cs c s, wcmds (cs ++ [c]) s = wcmd c (wcmds cs s)
  | [], _, _ => rfl
  | q :: cs, c, s => by simp [wcmds, wcmds_snoc cs c]
def lsize : List CmdD → Nat
  | [] => 0
  | c :: cs => 24 + psize c.writes + lsize cs
theorem lsize_take (cs : List CmdD) (k : Nat) (c : CmdD) (h : cs[k]? = some c) : lsize (cs.take k) + (24 + psize c.writes) ≤ lsize cs := by
  induction cs generalizing k with
  | nil => simp at h
  | cons q cs ih =>
    cases k with
    | zero => simp at h; subst h; simp [lsize]
    | succ k => have := ih k (by simpa using h); simp [lsize]; omega
theorem wcmd_len (c : CmdD) (s : List Int × Int) : (wcmd c s).1.length ≤ s.1.length + (24 + psize c.writes) := by
  unfold wcmd
  have := wpairs_len c.writes (whead c s)
  have := whead_len c s
  omega
theorem wcmds_len (cs : List CmdD) (s : List Int × Int) : (wcmds cs s).1.length ≤ s.1.length + lsize cs := by
  induction cs generalizing s with
  | nil => simp [wcmds, lsize]
  | cons p ps ih => have := ih (wcmd p s); have := wcmd_len p s; simp only [wcmds, lsize]; omega
def rLog (cs : List CmdD) : List Int × Int :=
  if 500 < cs.length then ([], 4) else finish (wcmds cs (wnum cs.length ([], 0)))
def kindOk (c : CmdD) : Prop := -9223372036854775808 ≤ c.kind ∧ c.kind ≤ 9223372036854775807

set_option maxRecDepth 100000 in
set_option maxHeartbeats 4000000 in
theorem rLog_any (L : Nat) (cs : List CmdD) (v : Value) (w : World) (hL : L ≤ w.heap.size) (hv : CmdsR w L v cs) (hl : lsize cs ≤ 274877906944) (hko : ∀ c ∈ cs, kindOk c) :
    Calls Tryd.prog 16 #[v] w fun e w' =>
      ∃ v', e = .returned (.tuple #[v', .int .i64 (rLog cs).2]) ∧ w'.ownsRow w.heap.size 5 1 v' (rLog cs).1.length ((rLog cs).1.map (Value.int .u8)) ∧ Mod noBlock w w' := by
  obtain ⟨r, hr⟩ : ∃ r, r = rLog cs := ⟨_, rfl⟩
  rw [← hr]
  have HR : Hid (r = rLog cs) := hr
  clear hr
  have hv0 := hv
  obtain ⟨a, cap, rfl, hpc, hcm, hcells⟩ := hv0
  clear hcells
  unfold maxLen at hcm
  have HKO : Hid (∀ c ∈ cs, kindOk c) := hko
  clear hko
  have hP0 : PAt (w.alloc (.cells #[.slice none 0 0, .int .i64 0] 134)) w.heap.size [] 0 := ⟨_, Blk.new w [.slice none 0 0, .int .i64 0] 134, World.ownsRow_nil _ _ _ _⟩
  have hM0 : Mod noBlock w (w.alloc (.cells #[.slice none 0 0, .int .i64 0] 134)) := (Mod.refl _ w).alloc _
  go_enter Tryd.func16, Tryd.ntmps16
  go_wp2_with fail
  refine (wnum_any _ _ _ _ _ hP0 (by simp)).mono ?_
  rintro e w1 ⟨rfl, hP1, hm1⟩
  have hl1 := wnum_len cs.length ([], 0)
  have HF : Hid (r = if 500 < cs.length then ([], 4) else finish (wcmds cs (wnum cs.length ([], 0)))) := HR.out
  obtain ⟨⟨bs1, b1⟩, hq1⟩ : ∃ q, q = wnum cs.length ([], 0) := ⟨_, rfl⟩
  rw [← hq1] at hP1 hl1 HF
  simp only [List.length_nil] at hP1 hl1
  have hM1 := hM0.trans' hm1 (fun i hi e => by rcases e with e | e <;> omega)
  clear hq1 hP0 hM0 hm1 HR
  go_wp2_with fail
  go_loopw [15] (fun i wr => ∃ k : Nat, k ≤ cs.length ∧ i = .int .i64 k ∧ PAt wr w.heap.size (wcmds (cs.take k) (bs1, b1)).1 (wcmds (cs.take k) (bs1, b1)).2 ∧ Mod noBlock w wr) (fun i _ => cs.length - (intOf i).toNat)
  case atStart => exact ⟨0, Nat.zero_le _, rfl, by simpa [wcmds] using hP1, hM1⟩
  case round =>
    obtain ⟨k, hk, rfl, hP, hM⟩ := hrel
    have hvr := hv.mod hM (fun _ _ => id)
    clear hP1 hM1
    by_cases hlt : k < cs.length
    · obtain ⟨a', cap', ha', _, _, hcl⟩ := hvr
      simp only [Value.slice.injEq] at ha'
      obtain ⟨rfl, _, rfl⟩ := ha'
      rcases hcl with rfl | ⟨b, off, rfl, hbL, hcl⟩
      · simp at hlt
      obtain ⟨c, hc⟩ : ∃ c, cs[k]? = some c := ⟨_, List.getElem?_eq_getElem hlt⟩
      obtain ⟨u, q0, q1, q2, q3, hu⟩ := hcl k c hc
      have hu' := hu
      obtain ⟨ua, ucap, rfl, _, _, _⟩ := hu'
      have hsz := lsize_take cs k c hc
      have hwl := wcmds_len (cs.take k) (bs1, b1)
      have hkc : kindOk c := HKO.out c (List.mem_of_getElem? hc)
      have HT : Hid (cs.take (k + 1) = cs.take k ++ [c]) := by
        rw [Hid, List.take_succ_eq_append_getElem hlt]
        rw [List.getElem?_eq_getElem hlt] at hc
        simp at hc; rw [hc]
      have HS : Hid (wcmds (cs.take (k + 1)) (bs1, b1) = wcmd c (wcmds (cs.take k) (bs1, b1))) := by rw [Hid, HT.out, wcmds_snoc]
      obtain ⟨⟨bs8, b8⟩, hq8⟩ : ∃ q, q = wcmds (cs.take k) (bs1, b1) := ⟨_, rfl⟩
      rw [← hq8] at hP hwl HS
      simp only at hP hwl
      clear hq8 HT hcl hc hv
      have hgr := hP.lt
      obtain ⟨hkc1, hkc2⟩ := hkc
      have hPa := hP.alloc (.cells #[.int .i64 c.kind, .int .i64 c.tx, .int .i64 c.time, .slice ua c.writes.length ucap] 24)
      have hUa := hu.mod ((Mod.refl noBlock wr).alloc (.cells #[.int .i64 c.kind, .int .i64 c.tx, .int .i64 c.time, .slice ua c.writes.length ucap] 24)) (fun _ _ => id)
      have hMa := hM.alloc (.cells #[.int .i64 c.kind, .int .i64 c.tx, .int .i64 c.time, .slice ua c.writes.length ucap] 24)
      clear hP hM hu
      go_wp2_with fail
      refine (wcmd_any _ L _ _ _ _ _ hPa hL hUa (by omega) hkc1 hkc2).mono ?_
      rintro e w9 ⟨rfl, hP9, hm9⟩
      have hM9 := hMa.trans' hm9 (fun i hi e => by rcases e with e | e <;> omega)
      clear hPa hUa hMa hm9 q0 q1 q2 q3
      go_wp2_with fail
      go_roundw
      case rel => exact ⟨k + 1, by omega, by go_num, by rw [HS.out]; exact hP9, hM9⟩
      case measure => simp [intOf]; omega
    · have hkn : k = cs.length := by omega
      subst hkn
      rw [List.take_length] at hP
      obtain ⟨⟨bsE, bE⟩, hqE⟩ : ∃ q, q = wcmds cs (bs1, b1) := ⟨_, rfl⟩
      rw [← hqE] at hP HF
      simp only at hP
      clear hqE hvr hv
      have hgE := hP.lt
      obtain ⟨x1, y1⟩ := hP.cell1
      obtain ⟨vE, x0, hownE⟩ := hP.cell0
      have HOE : Hid (wr.ownsRow (w.heap.size + 1) 5 1 vE bsE.length (bsE.map (Value.int .u8))) := hownE
      have hS4 := hP.set1 4
      obtain ⟨z1, z2⟩ := hS4.1.cell1
      have hM4 := hM.trans' hS4.2 (fun i hi e => by rcases e with e | e <;> omega)
      clear hP hownE hS4
      by_cases h500 : 500 < cs.length
      · have HG : Hid (r = ([], 4)) := by rw [Hid, HF.out, if_pos h500]
        clear HF
        go_wp2_with fail
        go_quiet (fail)
        go_wp2_with fail
        go_ret2
        rw [HG.out]
        exact ⟨_, rfl, World.ownsRow_nil _ _ _ _, hM4.drewN _⟩
      · have HF3 : Hid (r = finish (bsE, bE)) := by rw [Hid, HF.out, if_neg h500]
        by_cases hbE : bE = 0
        · subst hbE
          have HG : Hid (r = (bsE, 0)) := by rw [Hid, HF3.out, finish, if_pos rfl]
          clear HF HF3
          go_wp2_with fail
          go_ret2
          rw [HG.out]
          exact ⟨vE, rfl, own_base HOE.out (by omega), hM⟩
        · have HG : Hid (r = ([], bE)) := by rw [Hid, HF3.out, finish, if_neg hbE]
          have hbn : (bE != 0) = true := by simp [hbE]
          clear HF HF3 hbE
          go_wp2_with fail
          go_quiet (fail)
          go_wp2_with fail
          go_ret2
          rw [HG.out]
          exact ⟨_, rfl, World.ownsRow_nil _ _ _ _, hM.drewN _⟩
end Go.Proofs.YtdbbgfbcbfbihaaDoor
