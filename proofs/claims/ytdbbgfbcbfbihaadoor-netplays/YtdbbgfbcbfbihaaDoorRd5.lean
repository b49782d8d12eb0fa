/- The program's ReadLog. -/
import Derived.Test.YtdbbgfbcbfbihaaDoorRd4
namespace Go.Proofs.YtdbbgfbcbfbihaaDoor
open Go.RowKit

theorem Tryd.info24 : (Tryd.prog.info? 24).map (fun i => (i.zero, i.size, i.bytes)) = some (some (.agg #[.int .i64 0, .int .i64 0, .int .i64 0, .slice none 0 0]), 4, 48) := by kernel_rfl
def cmdCells (c : CmdD) (v : Value) : List Value := [.int .i64 c.kind, .int .i64 c.tx, .int .i64 c.time, v]
def logCells : List CmdD → List Value → List Value
  | c :: cs, v :: vs => cmdCells c v ++ logCells cs vs
  | _, _ => []
theorem logCells_snoc : ∀ (cs : List CmdD) (vs : List Value) (c : CmdD) (v : Value), vs.length = cs.length → logCells (cs ++ [c]) (vs ++ [v]) = logCells cs vs ++ cmdCells c v
  | [], [], c, v, _ => by simp [logCells]
  | [], _ :: _, _, _, h => by simp at h
  | _ :: _, [], _, _, h => by simp at h
  | c' :: cs, v' :: vs, c, v, h => by simp [logCells, logCells_snoc cs vs c v (by simpa using h)]
/-- The commands cs lie in rows of the call's own, from block B on. -/
def CmdsAt (w : World) (B : Nat) (v : Value) (cs : List CmdD) : Prop :=
  ∃ vs : List Value, vs.length = cs.length ∧ w.ownsRow B 24 4 v cs.length (logCells cs vs) ∧
    ∀ (i : Nat) c u, cs[i]? = some c → vs[i]? = some u → w.ownsRow B 84 3 u c.writes.length (c.writes.flatMap pairCells)
theorem CmdsAt.nil (w : World) (B : Nat) : CmdsAt w B (.slice none 0 0) [] := ⟨[], rfl, World.ownsRow_nil _ _ _ _, fun i c u h => by simp at h⟩
theorem CmdsAt.mod {G : Nat → Prop} {w w' : World} {B : Nat} {v : Value} {cs : List CmdD} (h : CmdsAt w B v cs) (hm : Mod G w w') (hG : ∀ k, B ≤ k → k < w.heap.size → ¬ G k) : CmdsAt w' B v cs := by
  obtain ⟨vs, h1, h2, h3⟩ := h
  exact ⟨vs, h1, own_mod h2 hm (fun k hk hl _ => hG k hk hl), fun i c u hc hu => own_mod (h3 i c u hc hu) hm (fun k hk hl _ => hG k hk hl)⟩
theorem CmdsAt.base {w : World} {B B' : Nat} {v : Value} {cs : List CmdD} (h : CmdsAt w B v cs) (hB : B' ≤ B) : CmdsAt w B' v cs := by
  obtain ⟨vs, h1, h2, h3⟩ := h
  exact ⟨vs, h1, own_base h2 hB, fun i c u hc hu => own_base (h3 i c u hc hu) hB⟩
/-- Rows of two element types are not one. -/
theorem own_apart {w : World} {B B' : Nat} {e e' : TypeId} {s s' : Nat} {v v' : Value} {n n' : Nat} {xs xs' : List Value} (h : w.ownsRow B e s v n xs) (h' : w.ownsRow B' e' s' v' n' xs') (hne : e ≠ e') {k : Nat} (hk : v.ownBlock = some k) : v'.ownBlock ≠ some k := by
  intro hk'
  rcases h.2 with ⟨rfl, _⟩ | ⟨g, cap, cur, rfl, _, hg, _⟩
  · simp [Value.ownBlock] at hk
  · rcases h'.2 with ⟨rfl, _⟩ | ⟨g', cap', cur', rfl, _, hg', _⟩
    · simp [Value.ownBlock] at hk'
    · simp [Value.ownBlock] at hk hk'
      subst hk hk'
      rw [hg] at hg'
      simp at hg'
      exact hne hg'.2
/-- One command more: it was laid in a block of its own, and appended. -/
theorem CmdsAt.snoc {w w' : World} {B : Nat} {v v' u : Value} {cs : List CmdD} {c : CmdD} {vs : List Value} {o : Obj} (hvl : vs.length = cs.length) (hown : w.ownsRow B 24 4 v cs.length (logCells cs vs))
    (hall : ∀ (i : Nat) c u, cs[i]? = some c → vs[i]? = some u → w.ownsRow B 84 3 u c.writes.length (c.writes.flatMap pairCells)) (hu : w.ownsRow B 84 3 u c.writes.length (c.writes.flatMap pairCells))
    (hg : (w.alloc o).grownBy w' v.ownBlock) (hown' : w'.ownsRow B 24 4 v' (cs.length + 1) (logCells cs vs ++ cmdCells c u)) : CmdsAt w' B v' (cs ++ [c]) := by
  have hk : ∀ {x : Value} {n : Nat} {xs : List Value}, w.ownsRow B 84 3 x n xs → w'.ownsRow B 84 3 x n xs := fun {x n xs} h =>
    (h.alloc o).kept hg (by
      cases hx : x.ownBlock with
      | none => exact .inl rfl
      | some k => exact .inr (fun e => own_apart hown h (by decide) e.symm hx))
  refine ⟨vs ++ [u], by simp [hvl], by rw [logCells_snoc cs vs c u hvl]; simpa using hown', ?_⟩
  intro i c' u' hc' hu'
  by_cases hi : i < cs.length
  · rw [List.getElem?_append_left hi] at hc'
    rw [List.getElem?_append_left (by omega)] at hu'
    exact hk (hall i c' u' hc' hu')
  · have hi' : i = cs.length := by
      rcases Nat.lt_or_ge i (cs.length + 1) with h | h
      · omega
      · rw [List.getElem?_eq_none (by simpa using h)] at hc'; cases hc'
    subst hi'
    rw [List.getElem?_append_right (Nat.le_refl _)] at hc'
    rw [List.getElem?_append_right (by omega)] at hu'
    simp [hvl] at hc' hu'
    subst hc' hu'
    exact hk hu
theorem cmd_one (c : CmdD) (a : Option Addr) (n cap : Nat) : ∀ u ∈ cmdCells c (.slice a n cap), u.oneCell' = true := by
  intro u hu; simp [cmdCells] at hu; rcases hu with rfl | rfl | rfl | rfl <;> rfl
theorem pcmds_step {k : Nat} {s r q : List Int × Bool} {cs : List CmdD} {c : CmdD} (h : (cs, r) = pcmds k s) (hp : (c, q) = pcmd r) : pcmds (k + 1) s = (cs ++ [c], q) := by
  rw [pcmds_snoc, ← h, ← hp]

set_option maxRecDepth 100000 in
set_option maxHeartbeats 2000000 in
theorem readLog_any (bs : List Int) (v0 : Value) (w : World) (h : BAt w w.heap.size v0 bs) :
    Calls Tryd.prog 21 #[v0] w fun e w' => ∃ v, e = .returned (.tuple #[v, errV (pReadLog bs).isSome 3]) ∧ CmdsAt w' w.heap.size v ((pReadLog bs).getD []) ∧ Mod noBlock w w' := by
  obtain ⟨i0, hi, hz0, hz1, hz2⟩ := info_parts Tryd.info24
  obtain ⟨r, hr⟩ : ∃ r, r = pReadLog bs := ⟨_, rfl⟩
  rw [← hr]
  have HR : Hid (r = pReadLog bs) := hr
  clear hr
  have hb' := h
  obtain ⟨hbb, a, cap, rfl, hlc, hcm, hbs⟩ := hb'
  clear hbs hbb hlc hcm
  have hR0 : RAt (w.alloc (.cells #[.slice a bs.length cap, .bool false] 148)) w.heap.size w.heap.size bs false :=
    ⟨Nat.le_refl _, _, Blk.new w [.slice a bs.length cap, .bool false] 148, h.mod ((Mod.refl noBlock w).alloc _) (fun _ _ => id)⟩
  have hM0 : Mod (newer w.heap.size) w (w.alloc (.cells #[.slice a bs.length cap, .bool false] 148)) := (Mod.refl _ w).alloc _
  go_enter Tryd.func21, Tryd.ntmps21
  go_wp2_with fail
  refine (number_at 0 500 _ hR0 rfl rfl).mono ?_
  rintro e w1 ⟨rfl, hR1, hm1⟩
  have hle := pnum_le 0 500 (bs, false)
  obtain ⟨⟨n, bs1, sp1⟩, hq1⟩ : ∃ q, q = pnum 0 500 (bs, false) := ⟨_, rfl⟩
  rw [← hq1] at hR1 hle ⊢
  have hM1 := hM0.trans (hm1.mono (fun i _ e => by simp only [oneBlock, newer] at e ⊢; omega))
  have HP : Hid (plog (bs, false) = pcmds n (bs1, sp1)) := by rw [Hid, plog, ← hq1]
  clear hq1 hm1 hR0 hM0
  simp only at hle
  go_wp2_with fail
  go_loopw [5, 9] (fun v i wr => ∃ (k : Nat), k ≤ n ∧ i = .int .i64 k ∧ RAt wr w.heap.size w.heap.size (pcmds k (bs1, sp1)).2.1 (pcmds k (bs1, sp1)).2.2 ∧ CmdsAt wr (w.heap.size + 1) v (pcmds k (bs1, sp1)).1 ∧ Mod (newer w.heap.size) w wr)
    (fun _ i _ => n - (intOf i).toNat)
  case atStart => exact ⟨0, Nat.zero_le _, rfl, hR1, CmdsAt.nil _ _, hM1⟩
  case round =>
    obtain ⟨k, hk, rfl, hR, hown, hM⟩ := hrel
    have hlen := pcmds_len k (bs1, sp1)
    obtain ⟨⟨cs, bs2, sp2⟩, hq2⟩ : ∃ q, q = pcmds k (bs1, sp1) := ⟨_, rfl⟩
    rw [← hq2] at hR hown hlen
    have HQ2 : Hid ((cs, bs2, sp2) = pcmds k (bs1, sp1)) := hq2
    clear hq2 hR1 hM1
    simp only at hR hown hlen
    by_cases hlt : k < n
    · go_wp2_with fail
      refine (command_any _ _ _ _ _ hR).mono ?_
      rintro e w3 ⟨u, rfl, hu, hR3, hm3⟩
      obtain ⟨⟨c, bs3, sp3⟩, hq3⟩ : ∃ q, q = pcmd (bs2, sp2) := ⟨_, rfl⟩
      rw [← hq3] at hu hR3 ⊢
      have HS := pcmds_step HQ2.out hq3
      simp only at hu hR3 ⊢
      obtain ⟨ua, uc, rfl⟩ := own_slice hu
      have hown3 := hown.mod hm3 (fun x hx _ e => by simp only [oneBlock] at e; omega)
      have hz3 := hm3.size
      have hz0' := hR.lt.2
      have hM3 := hM.trans (hm3.mono (fun i _ e => by simp only [oneBlock, newer] at e ⊢; omega))
      obtain ⟨vs, hvl, hrow, hall⟩ := hown3
      clear hq3 HQ2 hown hR hM hm3
      have HROW : Hid (w3.ownsRow (w.heap.size + 1) 24 4 u5 cs.length (logCells cs vs)) := hrow
      have HALL : Hid (∀ (i : Nat) c u, cs[i]? = some c → vs[i]? = some u → w3.ownsRow (w.heap.size + 1) 84 3 u c.writes.length (c.writes.flatMap pairCells)) := hall
      clear hrow hall
      have hk63 : cs.length + 1 ≤ maxLen := by unfold maxLen; omega
      have hk47 : (cs.length + 1) * 48 ≤ 140737488355328 := by omega
      go_wp2_with (first
        | (at_builtin; refine wpList_append_own _ rfl (.tmp 11) (.tmp 13) 38 rfl (w.heap.size + 1) 24 i0 _ 4 48 Tryd.underlying38 hi hz0 hz1 hz2 rfl (by omega) _ _ _ rfl (HROW.out.alloc _) ⟨w3.heap.size, 0, none⟩ 1 1 (cmdCells c (.slice ua c.writes.length uc)) rfl rfl (World.news_of_block (heap_alloc_new w3 _)) (cmd_one _ _ _ _) hk63 hk47 (by simp; omega) ?_)
        | fail)
      intro v' w4 hown4 hgrow _
      have hat : CmdsAt w4 (w.heap.size + 1) v' (cs ++ [c]) := CmdsAt.snoc hvl HROW.out HALL.out (own_base hu (by omega)) hgrow (by rw [hlen]; exact hown4)
      have hm4 : Mod (newer (w.heap.size + 1)) w3 w4 := ((Mod.refl _ w3).alloc _).grown hgrow (fun x hx _ => (HROW.out.lt x hx).1)
      have hR4 := hR3.mod hm4 (by simp only [newer]; omega) (fun k hk e => by simp only [newer] at e; omega)
      have hM4 := hM3.trans (hm4.mono (fun i _ e => by simp only [newer] at e ⊢; omega))
      clear hgrow hown4 hR3 hM3 hm4 hu HROW HALL
      have HS' : Hid (pcmds (k + 1) (bs1, sp1) = (cs ++ [c], bs3, sp3)) := HS
      clear HS
      go_wp2_with fail
      go_roundw
      case rel => exact ⟨k + 1, by omega, by go_num, by rw [HS'.out]; exact hR4, by rw [HS'.out]; exact hat, hM4⟩
      case measure => simp [intOf]; omega
    · have hkn : k = n := by omega
      subst hkn
      go_wp2_with fail
      refine (whole_any _ _ _ _ _ hR).mono ?_
      rintro e w9 ⟨rfl, rfl⟩
      by_cases hwh : whole (bs2, sp2) = true
      · have HF : Hid (r = some cs) := by rw [Hid, HR.out, pReadLog, HP.out, ← HQ2.out, if_pos hwh]
        rw [hwh]
        clear HR HP hwh HQ2
        go_wp2_with fail
        go_ret2
        rw [HF.out]
        exact ⟨_, rfl, hown.base (by omega), hM.mono (fun i hi e => by simp only [newer] at e; omega)⟩
      · have HF : Hid (r = none) := by rw [Hid, HR.out, pReadLog, HP.out, ← HQ2.out, if_neg hwh]
        have hwf : whole (bs2, sp2) = false := by simpa using hwh
        rw [hwf]
        clear HR HP hwh hwf HQ2
        go_wp2_with fail
        go_ret2
        rw [HF.out]
        exact ⟨_, rfl, CmdsAt.nil _ _, hM.mono (fun i hi e => by simp only [newer] at e; omega)⟩
end Go.Proofs.YtdbbgfbcbfbihaaDoor
