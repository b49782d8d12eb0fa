/- The document's Msg (package chainmailref). -/
import Derived.Test.YtdbbgfbcbfbihaaDoorPn4
namespace Go.Proofs.YtdbbgfbcbfbihaaDoor
open Go.RowKit Go.Lib

def wnums : List Int → List Int × Int → List Int × Int
  | [], s => s
  | n :: l, s => wnums l (wnum n s)
theorem wnums_snoc : ∀ l n s, wnums (l ++ [n]) s = wnum n (wnums l s)
  | [], _, _ => rfl
  | q :: l, n, s => by simp [wnums, wnums_snoc l n]
theorem wnums_len (l : List Int) (s : List Int × Int) : (wnums l s).1.length ≤ s.1.length + 6 * l.length := by
  induction l generalizing s with
  | nil => simp [wnums]
  | cons n l ih => have := ih (wnum n s); have := wnum_len n s; simp only [wnums, List.length_cons]; omega
def finish (s : List Int × Int) : List Int × Int := if s.2 = 0 then (s.1, 0) else ([], s.2)
def rMsg (m : MsgD) : List Int × Int :=
  if m.kind < 1 ∨ 4 < m.kind then ([], 1)
  else if m.kind = 3 then finish (wcmd m.cmd (wnums [m.kind, m.frm, m.to, m.epoch, m.n] ([], 0))) else finish (wnums [m.kind, m.frm, m.to, m.epoch, m.n] ([], 0))
theorem blk5 {w : World} {g : Nat} {a0 a1 a2 a3 a4 : Value} {t : TypeId} (h : Blk w g [a0, a1, a2, a3, a4] t) :
    w.cell? ⟨g, 0, none⟩ = some a0 ∧ w.cell? ⟨g, 1, none⟩ = some a1 ∧ w.cell? ⟨g, 2, none⟩ = some a2 ∧ w.cell? ⟨g, 3, none⟩ = some a3 ∧ w.cell? ⟨g, 4, none⟩ = some a4 :=
  ⟨h.cell 0 rfl, h.cell 1 rfl, h.cell 2 rfl, h.cell 3 rfl, h.cell 4 rfl⟩
theorem PAt.cell0 {w : World} {g : Nat} {bs : List Int} {bad : Int} (h : PAt w g bs bad) : ∃ v, w.cell? ⟨g, 0, none⟩ = some v ∧ w.ownsRow (g + 1) 5 1 v bs.length (bs.map (Value.int .u8)) := by
  obtain ⟨v, h1, h2⟩ := h
  exact ⟨v, h1.cell 0 rfl, h2⟩
theorem Mod.pen_none {w w' : World} {g : Nat} (h : Mod (penMay w g) w w') (hg : w.heap.size ≤ g) : Mod noBlock w w' := h.mono (fun i hi e => by rcases e with e | e <;> omega)

set_option maxRecDepth 100000 in
set_option maxHeartbeats 4000000 in
theorem rMsg_any (L : Nat) (m : MsgD) (v : Value) (w : World) (hL : L ≤ w.heap.size) (hv : PairsR w L v m.cmd.writes) (hl : psize m.cmd.writes ≤ 274877906944)
    (hk1 : -9223372036854775808 ≤ m.cmd.kind) (hk2 : m.cmd.kind ≤ 9223372036854775807) :
    Calls Tryd.prog 13 #[.agg #[.int .i64 m.kind, .int .i64 m.frm, .int .i64 m.to, .int .i64 m.epoch, .int .i64 m.n, .int .i64 m.cmd.kind, .int .i64 m.cmd.tx, .int .i64 m.cmd.time, v]] w fun e w' =>
      ∃ v', e = .returned (.tuple #[v', .int .i64 (rMsg m).2]) ∧ w'.ownsRow w.heap.size 5 1 v' (rMsg m).1.length ((rMsg m).1.map (Value.int .u8)) ∧ Mod noBlock w w' := by
  obtain ⟨kind, frm, dst, epoch, n, c⟩ := m
  simp only at *
  obtain ⟨r, hr⟩ : ∃ r, r = rMsg ⟨kind, frm, dst, epoch, n, c⟩ := ⟨_, rfl⟩
  rw [← hr]
  have HR : Hid (r = rMsg ⟨kind, frm, dst, epoch, n, c⟩) := hr
  clear hr
  have hv0 := hv
  obtain ⟨a, cap, rfl, hpc, hcm, hcells⟩ := hv0
  clear hcells
  go_enter Tryd.func13, Tryd.ntmps13
  by_cases hk : kind < 1 ∨ 4 < kind
  · have HF : Hid (r = ([], 1)) := by rw [Hid, HR.out, rMsg, if_pos hk]
    clear HR
    rcases hk with hk | hk
    all_goals
      go_wp2_with fail
      go_ret2
      rw [HF.out]
      exact ⟨_, rfl, World.ownsRow_nil _ _ _ _, (Mod.refl _ w).alloc _⟩
  · have HF : Hid (r = if kind = 3 then finish (wcmd c (wnums [kind, frm, dst, epoch, n] ([], 0))) else finish (wnums [kind, frm, dst, epoch, n] ([], 0))) := by rw [Hid, HR.out, rMsg, if_neg hk]
    obtain ⟨hka, hkb⟩ : 1 ≤ kind ∧ kind ≤ 4 := by omega
    clear HR hk
    have hB0 := ((Blk.new w [.int .i64 kind, .int .i64 frm, .int .i64 dst, .int .i64 epoch, .int .i64 n, .int .i64 c.kind, .int .i64 c.tx, .int .i64 c.time, .slice a c.writes.length cap] 26).mod ((Mod.refl noBlock _).alloc (.cells #[.slice none 0 0, .int .i64 0] 134)) id).mod ((Mod.refl noBlock _).alloc (.cells #[.int .i64 kind, .int .i64 frm, .int .i64 dst, .int .i64 epoch, .int .i64 n] 3)) id
    have hP0 : PAt (((w.alloc (.cells #[.int .i64 kind, .int .i64 frm, .int .i64 dst, .int .i64 epoch, .int .i64 n, .int .i64 c.kind, .int .i64 c.tx, .int .i64 c.time, .slice a c.writes.length cap] 26)).alloc (.cells #[.slice none 0 0, .int .i64 0] 134)).alloc (.cells #[.int .i64 kind, .int .i64 frm, .int .i64 dst, .int .i64 epoch, .int .i64 n] 3)) (w.heap.size + 1) [] 0 := by
      refine PAt.alloc ?_ _
      have := Blk.new (w.alloc (.cells #[.int .i64 kind, .int .i64 frm, .int .i64 dst, .int .i64 epoch, .int .i64 n, .int .i64 c.kind, .int .i64 c.tx, .int .i64 c.time, .slice a c.writes.length cap] 26)) [.slice none 0 0, .int .i64 0] 134
      exact ⟨_, by simpa using this, World.ownsRow_nil _ _ _ _⟩
    have hL0 : Blk (((w.alloc (.cells #[.int .i64 kind, .int .i64 frm, .int .i64 dst, .int .i64 epoch, .int .i64 n, .int .i64 c.kind, .int .i64 c.tx, .int .i64 c.time, .slice a c.writes.length cap] 26)).alloc (.cells #[.slice none 0 0, .int .i64 0] 134)).alloc (.cells #[.int .i64 kind, .int .i64 frm, .int .i64 dst, .int .i64 epoch, .int .i64 n] 3)) (w.heap.size + 1 + 1) [.int .i64 kind, .int .i64 frm, .int .i64 dst, .int .i64 epoch, .int .i64 n] 3 := by
      have := Blk.new ((w.alloc (.cells #[.int .i64 kind, .int .i64 frm, .int .i64 dst, .int .i64 epoch, .int .i64 n, .int .i64 c.kind, .int .i64 c.tx, .int .i64 c.time, .slice a c.writes.length cap] 26)).alloc (.cells #[.slice none 0 0, .int .i64 0] 134)) [.int .i64 kind, .int .i64 frm, .int .i64 dst, .int .i64 epoch, .int .i64 n] 3
      simpa using this
    have hM0 : Mod noBlock w (((w.alloc (.cells #[.int .i64 kind, .int .i64 frm, .int .i64 dst, .int .i64 epoch, .int .i64 n, .int .i64 c.kind, .int .i64 c.tx, .int .i64 c.time, .slice a c.writes.length cap] 26)).alloc (.cells #[.slice none 0 0, .int .i64 0] 134)).alloc (.cells #[.int .i64 kind, .int .i64 frm, .int .i64 dst, .int .i64 epoch, .int .i64 n] 3)) := (((Mod.refl _ w).alloc _).alloc _).alloc _
    go_wp2_with fail
    go_loopw [29] (fun i wr => ∃ k : Nat, k ≤ 5 ∧ i = .int .i64 k ∧ PAt wr (w.heap.size + 1) (wnums ([kind, frm, dst, epoch, n].take k) ([], 0)).1 (wnums ([kind, frm, dst, epoch, n].take k) ([], 0)).2 ∧
        Blk wr (w.heap.size + 1 + 1) [.int .i64 kind, .int .i64 frm, .int .i64 dst, .int .i64 epoch, .int .i64 n] 3 ∧
        Blk wr w.heap.size [.int .i64 kind, .int .i64 frm, .int .i64 dst, .int .i64 epoch, .int .i64 n, .int .i64 c.kind, .int .i64 c.tx, .int .i64 c.time, .slice a c.writes.length cap] 26 ∧ Mod noBlock w wr)
      (fun i _ => 5 - (intOf i).toNat)
    case atStart => exact ⟨0, by omega, rfl, hP0, hL0, hB0, hM0⟩
    case round =>
      obtain ⟨k, hk5, rfl, hP, hLs, hB, hM⟩ := hrel
      clear hP0 hL0 hB0 hM0
      by_cases hlt : k < 5
      · obtain ⟨x, hx, hxs⟩ : ∃ x, wr.cell? ⟨w.heap.size + 1 + 1, k, none⟩ = some (.int .i64 x) ∧ [kind, frm, dst, epoch, n].take (k + 1) = [kind, frm, dst, epoch, n].take k ++ [x] := by
          obtain ⟨l0, l1, l2, l3, l4⟩ := blk5 hLs
          match k, hlt with
          | 0, _ => exact ⟨_, l0, rfl⟩
          | 1, _ => exact ⟨_, l1, rfl⟩
          | 2, _ => exact ⟨_, l2, rfl⟩
          | 3, _ => exact ⟨_, l3, rfl⟩
          | 4, _ => exact ⟨_, l4, rfl⟩
        have HX : Hid (wnums ([kind, frm, dst, epoch, n].take (k + 1)) ([], 0) = wnum x (wnums ([kind, frm, dst, epoch, n].take k) ([], 0))) := by rw [Hid, hxs, wnums_snoc]
        have hwl := wnums_len ([kind, frm, dst, epoch, n].take k) ([], 0)
        obtain ⟨⟨bs1, b1⟩, hq1⟩ : ∃ q, q = wnums ([kind, frm, dst, epoch, n].take k) ([], 0) := ⟨_, rfl⟩
        rw [← hq1] at hP hwl HX
        simp only [List.length_take, List.length_cons, List.length_nil] at hP hwl
        clear hq1 hxs
        have hgr := hP.lt
        go_wp2_with fail
        refine (wnum_any _ _ _ _ _ hP (by omega)).mono ?_
        rintro e w2 ⟨rfl, hP2, hm2⟩
        have hL2 := hLs.pen hm2 (by omega) (by decide)
        have hB2 := hB.pen hm2 (by omega) (by decide)
        have hM2 := hM.trans' hm2 (fun i hi e => by rcases e with e | e <;> omega)
        clear hP hLs hB hM hm2 hx
        go_wp2_with fail
        go_roundw
        case rel => exact ⟨k + 1, by omega, by go_num, by rw [HX.out]; exact hP2, hL2, hB2, hM2⟩
        case measure => simp [intOf]; omega
      · have hk' : k = 5 := by omega
        subst hk'
        have hwl := wnums_len [kind, frm, dst, epoch, n] ([], 0)
        have hP' : PAt wr (w.heap.size + 1) (wnums [kind, frm, dst, epoch, n] ([], 0)).1 (wnums [kind, frm, dst, epoch, n] ([], 0)).2 := hP
        obtain ⟨⟨bs1, b1⟩, hq1⟩ : ∃ q, q = wnums [kind, frm, dst, epoch, n] ([], 0) := ⟨_, rfl⟩
        rw [← hq1] at hP' hwl HF
        simp only [List.length_cons, List.length_nil] at hP' hwl
        clear hq1 hP hLs
        obtain ⟨⟨c0, c1, c2, c3, c4, c5, c6, c7, c8⟩, _⟩ := blk9 hB
        by_cases h3 : kind = 3
        · subst h3
          have HF3 : Hid (r = finish (wcmd c (bs1, b1))) := by rw [Hid, HF.out, if_pos rfl]
          have hvr := hv.mod hM (fun _ _ => id)
          go_wp2_with fail
          refine (wcmd_any _ L _ _ _ _ _ hP' (by omega) hvr (by omega) hk1 hk2).mono ?_
          rintro e w3 ⟨rfl, hPE, hm3⟩
          have hgr := hP'.lt
          have hME := hM.trans' hm3 (fun i hi e => by rcases e with e | e <;> omega)
          obtain ⟨⟨bsE, bE⟩, hqE⟩ : ∃ q, q = wcmd c (bs1, b1) := ⟨_, rfl⟩
          rw [← hqE] at hPE HF3
          simp only at hPE
          clear hqE hP' hB hM hm3 c0 c1 c2 c3 c4 c5 c6 c7 c8 hvr
          have hgE := hPE.lt
          obtain ⟨x1, y1⟩ := hPE.cell1
          obtain ⟨vE, x0, hownE⟩ := hPE.cell0
          have HOE : Hid (w3.ownsRow (w.heap.size + 1 + 1) 5 1 vE bsE.length (bsE.map (Value.int .u8))) := hownE
          clear hPE hownE
          by_cases hbE : bE = 0
          · subst hbE
            have HG : Hid (r = (bsE, 0)) := by rw [Hid, HF3.out, finish, if_pos rfl]
            clear HF HF3
            go_wp2_with fail
            go_ret2
            rw [HG.out]
            exact ⟨vE, rfl, own_base HOE.out (by omega), hME⟩
          · have HG : Hid (r = ([], bE)) := by rw [Hid, HF3.out, finish, if_neg hbE]
            have hbn : (bE != 0) = true := by simp [hbE]
            clear HF HF3 hbE
            go_wp2_with fail
            go_quiet (fail)
            go_wp2_with fail
            go_ret2
            rw [HG.out]
            exact ⟨_, rfl, World.ownsRow_nil _ _ _ _, hME.drewN _⟩
        · have HF3 : Hid (r = finish (bs1, b1)) := by rw [Hid, HF.out, if_neg h3]
          have hkb3 : (kind == 3) = false := by simp; omega
          have hPE := hP'
          have hME := hM
          have hgE := hPE.lt
          obtain ⟨x1, y1⟩ := hPE.cell1
          obtain ⟨vE, x0, hownE⟩ := hPE.cell0
          have HOE : Hid (wr.ownsRow (w.heap.size + 1 + 1) 5 1 vE bs1.length (bs1.map (Value.int .u8))) := hownE
          clear hPE hownE
          by_cases hb1 : b1 = 0
          · subst hb1
            have HG : Hid (r = (bs1, 0)) := by rw [Hid, HF3.out, finish, if_pos rfl]
            clear HF HF3
            go_wp2_with fail
            go_ret2
            rw [HG.out]
            exact ⟨vE, rfl, own_base HOE.out (by omega), hME⟩
          · have HG : Hid (r = ([], b1)) := by rw [Hid, HF3.out, finish, if_neg hb1]
            have hbn : (b1 != 0) = true := by simp [hb1]
            clear HF HF3 hb1
            go_wp2_with fail
            go_quiet (fail)
            go_wp2_with fail
            go_ret2
            rw [HG.out]
            exact ⟨_, rfl, World.ownsRow_nil _ _ _ _, hME.drewN _⟩
end Go.Proofs.YtdbbgfbcbfbihaaDoor
