/- The document's ReadLog (package chainmailref). -/
import Derived.Test.YtdbbgfbcbfbihaaDoorRg2
namespace Go.Proofs.YtdbbgfbcbfbihaaDoor
open Go.RowKit Go.Lib

def ecmds : Nat → Nat → List Int × Bool → List CmdD × List Int × Bool
  | 0, _, s => ([], s)
  | n + 1, cnt, s => if s.2 = true ∨ 500 < cnt then ([], s) else ((ecmd s).1 :: (ecmds n (cnt + 1) (ecmd s).2).1, (ecmds n (cnt + 1) (ecmd s).2).2)
theorem ecmds_stop {n cnt : Nat} {s : List Int × Bool} (h : n = 0 ∨ s.2 = true ∨ 500 < cnt) : ecmds n cnt s = ([], s) := by
  cases n with
  | zero => rfl
  | succ n => rcases h with h | h
              · omega
              · simp only [ecmds, if_pos h]
theorem ecmds_step {n cnt : Nat} {bs : List Int} {q : List Int × Bool} {c : CmdD} (h : (c, q) = ecmd (bs, false)) (hc : cnt ≤ 500) : ecmds (n + 1) cnt (bs, false) = (c :: (ecmds n (cnt + 1) q).1, (ecmds n (cnt + 1) q).2) := by
  have : ¬ ((bs, false).2 = true ∨ 500 < cnt) := by simp; omega
  simp only [ecmds, if_neg this, ← h]
def elog (s : List Int × Bool) : List CmdD × List Int × Bool := ecmds (enum s).1 0 (enum s).2
def eReadLog (bs : List Int) : Option (List CmdD) := if eok (elog (bs, false)).2.2 (rLog (elog (bs, false)).1) bs then some (elog (bs, false)).1 else none
theorem lsize_snoc (cs : List CmdD) (c : CmdD) : lsize (cs ++ [c]) = lsize cs + (24 + psize c.writes) := by
  induction cs with
  | nil => simp [lsize]
  | cons q cs ih => simp [lsize, ih]; omega
theorem ecmd_len (s : List Int × Bool) : (ecmd s).2.1.length ≤ s.1.length := by
  have := ecmd_size s
  have h1 := (enum_len s).1
  have h2 := (enum_len (enum s).2).1
  have h3 := (enum_len (enum (enum s).2).2).1
  have h4 := (enum_len (enum (enum (enum s).2).2).2).1
  have h5 : ∀ n s, (epairs n s).2.1.length ≤ s.1.length := by
    intro n
    induction n with
    | zero => intro s; exact Nat.le_refl _
    | succ n ih =>
      intro s
      obtain ⟨l, b⟩ := s
      cases b with
      | true => simp [epairs]
      | false =>
        have e := epairs_step (n := n) (bs := l) (show ((epair (l, false)).1, (epair (l, false)).2) = epair (l, false) from rfl)
        rw [e]
        have := ih (epair (l, false)).2
        have := (epair_len l).1
        simp only; omega
  have h6 := h5 (enum (enum (enum (enum s).2).2).2).1 (enum (enum (enum (enum s).2).2).2).2
  simp only [ecmd]; omega

set_option maxRecDepth 100000 in
set_option maxHeartbeats 4000000 in
theorem eReadLog_any (bs : List Int) (v0 : Value) (w : World) (h : BAt w w.heap.size v0 bs) (hbl : bs.length ≤ 3000) :
    Calls Tryd.prog 20 #[v0] w fun e w' => ∃ v, e = .returned (.tuple #[v, .int .i64 (noErr (eReadLog bs).isSome)]) ∧ CmdsAt w' w.heap.size v ((eReadLog bs).getD []) ∧ Mod noBlock w w' := by
  obtain ⟨i0, hi, hz0, hz1, hz2⟩ := info_parts Tryd.info24
  obtain ⟨r, hr⟩ : ∃ r, r = eReadLog bs := ⟨_, rfl⟩
  rw [← hr]
  have HR : Hid (r = eReadLog bs) := hr
  clear hr
  have HBY : Hid (Byt bs) := h.1
  have hb' := h
  obtain ⟨hbb, a, cap, rfl, hlc, hcm, hbs⟩ := hb'
  clear hbs hbb hlc hcm
  have hR0 : EAt (w.alloc (.cells #[.slice a bs.length cap, .bool false] 145)) w.heap.size w.heap.size bs false :=
    ⟨Nat.le_refl _, _, Blk.new w [.slice a bs.length cap, .bool false] 145, h.mod ((Mod.refl noBlock w).alloc _) (fun _ _ => id)⟩
  have hM0 : Mod (newer w.heap.size) w (w.alloc (.cells #[.slice a bs.length cap, .bool false] 145)) := (Mod.refl _ w).alloc _
  go_enter Tryd.func20, Tryd.ntmps20
  go_wp2_with fail
  refine (enum_any _ _ _ _ _ hR0).mono ?_
  rintro e w1 ⟨rfl, hR1, hm1⟩
  have hl1 := (enum_len (bs, false)).1
  have hle := enum_lt (bs := bs) (bl := false) HBY.out
  have HP : Hid (elog (bs, false) = ecmds (enum (bs, false)).1 0 (enum (bs, false)).2) := rfl
  obtain ⟨⟨n, bs1, sp1⟩, hq1⟩ : ∃ q, q = enum (bs, false) := ⟨_, rfl⟩
  rw [← hq1] at hR1 hl1 hle HP ⊢
  have hM1 := hM0.trans (hm1.mono (fun i _ e => by simp only [oneBlock, newer] at e ⊢; omega))
  clear hq1 hm1 hR0 hM0
  simp only at hl1 hle HP
  go_wp2_with fail
  go_loopw [5, 6] (fun v i wr => ∃ (k : Nat) (cs : List CmdD) (bs5 : List Int) (sp5 : Bool), k ≤ n ∧ i = .int .i64 k ∧ ecmds n 0 (bs1, sp1) = (cs ++ (ecmds k cs.length (bs5, sp5)).1, (ecmds k cs.length (bs5, sp5)).2) ∧ cs.length ≤ 501 ∧ lsize cs + 19 * bs5.length ≤ 57000 + 42 * cs.length ∧ (∀ c ∈ cs, kindOk c) ∧ bs5.length ≤ 3000 ∧
      EAt wr w.heap.size w.heap.size bs5 sp5 ∧ CmdsAt wr (w.heap.size + 1) v cs ∧ Mod (newer w.heap.size) w wr)
    (fun _ i _ => (intOf i).toNat)
  case atStart => exact ⟨n, [], bs1, sp1, Nat.le_refl _, rfl, rfl, by simp, by simp [lsize]; omega, by simp, by omega, hR1, CmdsAt.nil _ _, hM1⟩
  case round =>
    obtain ⟨k, cs, bs5, sp5, hk, rfl, hep, hcl, hls, hko, hb5, hR, hown, hM⟩ := hrel
    have HEP : Hid (ecmds n 0 (bs1, sp1) = (cs ++ (ecmds k cs.length (bs5, sp5)).1, (ecmds k cs.length (bs5, sp5)).2)) := hep
    have HKO : Hid (∀ c ∈ cs, kindOk c) := hko
    clear hep hko hR1 hM1
    have hb1 := hR.cell1
    obtain ⟨vs0, hvl0, hrow0, hall0⟩ := hown
    obtain ⟨va, vc, rfl⟩ := own_slice hrow0
    by_cases hgo : 0 < k ∧ sp5 = false ∧ cs.length ≤ 500
    · obtain ⟨hk0, rfl, hc5⟩ := hgo
      obtain ⟨k, rfl⟩ : ∃ j, k = j + 1 := ⟨k - 1, by omega⟩
      have hown : CmdsAt wr (w.heap.size + 1) (.slice va cs.length vc) cs := ⟨vs0, hvl0, hrow0, hall0⟩
      clear hvl0 hrow0 hall0
      go_wp2_with fail
      refine (ecmd_any _ _ _ _ _ hR hb5).mono ?_
      rintro e w3 ⟨u, rfl, hu, hR3, hm3⟩
      have hes := ecmd_size (bs5, false)
      have hel := ecmd_len (bs5, false)
      have hek := ecmd_kind bs5 false hR.byt
      obtain ⟨⟨c, bs3, sp3⟩, hq3⟩ : ∃ q, q = ecmd (bs5, false) := ⟨_, rfl⟩
      rw [← hq3] at hu hR3 hes hel hek ⊢
      have HS : Hid (ecmds n 0 (bs1, sp1) = ((cs ++ [c]) ++ (ecmds k (cs.length + 1) (bs3, sp3)).1, (ecmds k (cs.length + 1) (bs3, sp3)).2)) := by
        rw [Hid, HEP.out, ecmds_step hq3 hc5]; simp
      simp only at hu hR3 hes hel hek ⊢
      obtain ⟨ua, uc, rfl⟩ := own_slice hu
      have hown3 := hown.mod hm3 (fun x hx _ e => by simp only [oneBlock] at e; omega)
      have hz3 := hm3.size
      have hz0' := hR.lt.2
      have hM3 := hM.trans (hm3.mono (fun i _ e => by simp only [oneBlock, newer] at e ⊢; omega))
      obtain ⟨vs, hvl, hrow, hall⟩ := hown3
      clear hq3 HEP hown hR hM hm3 hb1
      have HROW : Hid (w3.ownsRow (w.heap.size + 1) 24 4 (.slice va cs.length vc) cs.length (logCells cs vs)) := hrow
      have HALL : Hid (∀ (i : Nat) c u, cs[i]? = some c → vs[i]? = some u → w3.ownsRow (w.heap.size + 1) 84 3 u c.writes.length (c.writes.flatMap pairCells)) := hall
      clear hrow hall
      have hk63 : cs.length + 1 ≤ maxLen := by unfold maxLen; omega
      have hk47 : (cs.length + 1) * 48 ≤ 140737488355328 := by omega
      go_wp2_with (first
        | (at_builtin; refine wpList_append_own _ rfl (.tmp 30) (.tmp 33) 38 rfl (w.heap.size + 1) 24 i0 _ 4 48 Tryd.underlying38 hi hz0 hz1 hz2 rfl (by omega) _ _ _ rfl (HROW.out.alloc _) ⟨w3.heap.size, 0, none⟩ 1 1 (cmdCells c (.slice ua c.writes.length uc)) rfl rfl (World.news_of_block (heap_alloc_new w3 _)) (cmd_one _ _ _ _) hk63 hk47 (by simp; omega) ?_)
        | fail)
      intro v' w4 hown4 hgrow _
      have hat : CmdsAt w4 (w.heap.size + 1) v' (cs ++ [c]) := CmdsAt.snoc hvl HROW.out HALL.out (own_base hu (by omega)) hgrow hown4
      have hm4 : Mod (newer (w.heap.size + 1)) w3 w4 := ((Mod.refl _ w3).alloc _).grown hgrow (fun x hx _ => (HROW.out.lt x hx).1)
      have hR4 := hR3.mod hm4 (by simp only [newer]; omega) (fun k hk e => by simp only [newer] at e; omega)
      have hM4 := hM3.trans (hm4.mono (fun i _ e => by simp only [newer] at e ⊢; omega))
      clear hgrow hown4 hR3 hM3 hm4 hu HROW HALL
      go_wp2_with fail
      go_roundw
      case rel =>
        refine ⟨k, cs ++ [c], bs3, sp3, by omega, by go_num, by rw [HS.out]; simp, by simp; omega, by rw [lsize_snoc]; simp; omega, ?_, by omega, hR4, hat, hM4⟩
        intro x hx
        rcases List.mem_append.1 hx with h | h
        · exact HKO.out x h
        · simp at h; subst h; exact hek
      case measure => simp [intOf]
    · have hstop : k = 0 ∨ sp5 = true ∨ 500 < cs.length := by
        cases sp5
        · rcases Nat.eq_zero_or_pos k with h | h
          · exact .inl h
          · exact .inr (.inr (Nat.lt_of_not_le (fun h2 => hgo ⟨h, rfl, h2⟩)))
        · exact .inr (.inl rfl)
      have hfin : ecmds k cs.length (bs5, sp5) = ([], bs5, sp5) := ecmds_stop hstop
      have HPE : Hid (elog (bs, false) = (cs, bs5, sp5)) := by rw [Hid, HP.out, HEP.out, hfin]; simp
      have hat : CmdsAt wr (w.heap.size + 1) (.slice va cs.length vc) cs := ⟨vs0, hvl0, hrow0, hall0⟩
      clear hfin HEP HP hvl0 hrow0 hall0
      have hXX : Calls Tryd.prog 16 #[.slice va cs.length vc] wr (fun e w' => ∃ v', e = .returned (.tuple #[v', .int .i64 (rLog cs).2]) ∧ w'.ownsRow wr.heap.size 5 1 v' (rLog cs).1.length ((rLog cs).1.map (Value.int .u8)) ∧ Mod noBlock wr w') :=
        rLog_any wr.heap.size cs _ wr (Nat.le_refl _) (CmdsR.of_at hat (Nat.le_refl _)) (by omega) HKO.out
      have HXX := Hid.mk' hXX
      clear hXX
      have hs1 : (0 < k ∧ sp5 = true) ∨ (0 < k ∧ sp5 = false ∧ 500 < cs.length) ∨ k = 0 := by
        rcases hstop with h | h | h
        · exact .inr (.inr h)
        · rcases Nat.eq_zero_or_pos k with h' | h'
          · exact .inr (.inr h')
          · exact .inl ⟨h', h⟩
        · rcases Nat.eq_zero_or_pos k with h' | h'
          · exact .inr (.inr h')
          · cases sp5
            · exact .inr (.inl ⟨h', rfl, h⟩)
            · exact .inl ⟨h', rfl⟩
      have hcb := byt_rLog cs
      have hse := str_eq _ _ hcb HBY.out
      obtain ⟨⟨ws, wb⟩, hqw⟩ : ∃ q, q = rLog cs := ⟨_, rfl⟩
      have HP2 : Hid (eReadLog bs = if eok sp5 (ws, wb) bs then some cs else none) := by rw [Hid, eReadLog, HPE.out, hqw]
      rw [← hqw] at hcb hse HXX
      simp only at hcb hse
      have HFno : Hid (eok sp5 (ws, wb) bs = false → r = none) := fun e => by rw [HR.out, HP2.out, e]; rfl
      have HFyes : Hid (eok sp5 (ws, wb) bs = true → r = some cs) := fun e => by rw [HR.out, HP2.out, e]; rfl
      have HSE : Hid (((strOfNums ws).toList == (strOfNums bs).toList) = decide (ws = bs)) := hse
      have HCB : Hid (Byt ws) := hcb
      clear HR HP2 hqw HPE hse hcb hstop hgo HKO
      rcases hs1 with ⟨h1, h2⟩ | ⟨h1, h2, h4⟩ | h1
      all_goals
        go_wp2_with fail
        refine HXX.out.mono ?_
        rintro e w9 ⟨v9, rfl, hown9, hm9⟩
        have hE9 := (hR.mod hm9 id (fun _ _ => id)).cell1
        have hM9 := hM.trans (hm9.mono (fun _ _ e => e.elim))
        have hat9 := (hat.mod hm9 (fun _ _ _ => id)).base (show w.heap.size ≤ w.heap.size + 1 by omega)
        have hcw := conv_bat (BAt.of_own hown9 HCB.out (Nat.le_refl _))
        have hcv : (convert 28 9 (.slice a bs.length cap)).run Tryd.prog w9 = .ok (.string (strOfNums bs)) w9 := conv_bat (h.mod hM9 (fun k hk e => by simp only [newer] at e; omega))
        have hM9' : Mod noBlock w w9 := hM9.mono (fun i hi e => by simp only [newer] at e; omega)
        clear hown9 hm9 hM9 hM hR hb1 hat HXX
        by_cases hbl2 : sp5 = true
        · have HGH : Hid (r = none) := HFno.out (by simp [eok, hbl2])
          clear HFno HFyes
          rw [hbl2] at hE9
          go_wp2_with fail
          go_ret2
          rw [HGH.out]
          exact ⟨_, rfl, CmdsAt.nil _ _, hM9'⟩
        · have hblf : sp5 = false := by simpa using hbl2
          rw [hblf] at hE9
          by_cases hwb : wb = 0
          · by_cases hws : ws = bs
            · have HGH : Hid (r = some cs) := HFyes.out (by simp [eok, hblf, hws, hwb])
              have hneq : ((strOfNums ws).toList == (strOfNums bs).toList) = true := by rw [HSE.out]; simp [hws]
              clear HFno HFyes HSE hbl2 hblf hws
              subst hwb
              go_wp2_with fail
              go_ret2
              rw [HGH.out]
              exact ⟨_, rfl, hat9, hM9'⟩
            · have HGH : Hid (r = none) := HFno.out (by simp [eok, hws])
              have hneq : ((strOfNums ws).toList == (strOfNums bs).toList) = false := by rw [HSE.out]; simp [hws]
              clear HFno HFyes HSE hbl2 hblf hws
              subst hwb
              go_wp2_with fail
              go_ret2
              rw [HGH.out]
              exact ⟨_, rfl, CmdsAt.nil _ _, hM9'⟩
          · have HGH : Hid (r = none) := HFno.out (by simp [eok, hwb])
            have hbn : (wb != 0) = true := by simp [hwb]
            clear HFno HFyes HSE hbl2 hblf hwb
            go_wp2_with fail
            go_ret2
            rw [HGH.out]
            exact ⟨_, rfl, CmdsAt.nil _ _, hM9'⟩
end Go.Proofs.YtdbbgfbcbfbihaaDoor
