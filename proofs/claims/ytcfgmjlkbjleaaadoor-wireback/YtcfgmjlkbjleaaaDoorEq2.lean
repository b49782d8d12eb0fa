/- What the program's reader tells is what the document's tells: plain mathematics, the readers. -/
import Derived.Test.YtcfgmjlkbjleaaaDoorEq
namespace Go.Proofs.YtcfgmjlkbjleaaaDoor
open Go.RowKit Go.Lib

/- Both readers read what was written. -/
theorem pnum_enc (lo hi n : Nat) (r : List Int) (sp : Bool) (hl : lo ≤ n) (hh : n ≤ hi) (hm : n ≤ 1099511627776) : pnum lo hi (enc n ++ r, sp) = (n, r, sp) := by
  have h := scan_enc 6 n r (enc_len6 n (by omega))
  simp only [pnum, h, hl, hh, and_self, if_true]
theorem enum_enc (n : Nat) (r : List Int) (bl : Bool) (hm : n ≤ 1099511627776) : enum (enc n ++ r, bl) = (n, r, bl) := by
  have h := scan_enc 6 n r (enc_len6 n (by omega))
  simp only [enum, h]
theorem ptext_enc (most : Nat) (s : ByteArray) (r : List Int) (sp : Bool) (hm : s.size ≤ most) (h4 : most ≤ 40) : ptext most (tbytes s ++ r, sp) = (s, r, sp) := by
  have h := pnum_enc 0 most s.size (sbytes s ++ r) sp (Nat.zero_le _) hm (by omega)
  have e : tbytes s ++ r = enc s.size ++ (sbytes s ++ r) := by simp [tbytes]
  rw [e, ptext_yes h.symm (by simp [sbytes_len])]
  have hs := sbytes_len s
  rw [← hs, List.take_left, List.drop_left, str_sbytes]
theorem etext_enc (s : ByteArray) (r : List Int) (sp : Bool) (hm : s.size ≤ 40) : etext (tbytes s ++ r, sp) = (s, r, sp) := by
  have h := enum_enc s.size (sbytes s ++ r) sp (by omega)
  have e : tbytes s ++ r = enc s.size ++ (sbytes s ++ r) := by simp [tbytes]
  rw [e, etext_yes h.symm (by simp [sbytes_len])]
  have hs := sbytes_len s
  rw [← hs, List.take_left, List.drop_left, str_sbytes]
def shpP (p : PairD) : Prop := p.gone = true → p.val = ByteArray.empty
theorem ppair_enc (p : PairD) (r : List Int) (sp : Bool) (ho : okPair p) (hs : shpP p) : ppair (pbytes p ++ r, sp) = (p, r, sp) := by
  obtain ⟨key, val, gone⟩ := p
  obtain ⟨h1, h2⟩ := ho
  simp only at h1 h2
  cases gone with
  | true =>
    have hv : val = ByteArray.empty := hs rfl
    subst hv
    have e : pbytes ⟨key, ByteArray.empty, true⟩ ++ r = tbytes key ++ (enc 1 ++ r) := by simp [pbytes]
    have a := ptext_enc 20 key (enc 1 ++ r) sp h1 (by omega)
    have b := ptruth_eq (pnum_enc 0 1 1 r sp (by omega) (by omega) (by omega)).symm
    rw [e]; exact ppair_gone a.symm (by rw [b]; rfl)
  | false =>
    have e : pbytes ⟨key, val, false⟩ ++ r = tbytes key ++ (enc 0 ++ (tbytes val ++ r)) := by simp [pbytes]
    have a := ptext_enc 20 key (enc 0 ++ (tbytes val ++ r)) sp h1 (by omega)
    have b := ptruth_eq (pnum_enc 0 1 0 (tbytes val ++ r) sp (by omega) (by omega) (by omega)).symm
    have c := ptext_enc 40 val r sp (h2 rfl) (by omega)
    rw [e]; exact ppair_there a.symm (by rw [b]; rfl) c.symm
theorem epair_enc (p : PairD) (r : List Int) (ho : okPair p) (hs : shpP p) : epair (pbytes p ++ r, false) = (p, r, false) := by
  obtain ⟨key, val, gone⟩ := p
  obtain ⟨h1, h2⟩ := ho
  simp only at h1 h2
  cases gone with
  | true =>
    have hv : val = ByteArray.empty := hs rfl
    subst hv
    have e : pbytes ⟨key, ByteArray.empty, true⟩ ++ r = tbytes key ++ (enc 1 ++ r) := by simp [pbytes]
    have a := etext_enc key (enc 1 ++ r) false (by omega)
    have b := enum_enc 1 r false (by omega)
    rw [e]; exact epair_gone a.symm b.symm rfl
  | false =>
    have e : pbytes ⟨key, val, false⟩ ++ r = tbytes key ++ (enc 0 ++ (tbytes val ++ r)) := by simp [pbytes]
    have a := etext_enc key (enc 0 ++ (tbytes val ++ r)) false (by omega)
    have b := enum_enc 0 (tbytes val ++ r) false (by omega)
    have c := etext_enc val r false (h2 rfl)
    rw [e]; exact epair_there a.symm b.symm (by omega) c.symm
theorem ppairs_enc (ps : List PairD) : ∀ (r : List Int) (sp : Bool), (∀ p ∈ ps, okPair p) → (∀ p ∈ ps, shpP p) → ppairs ps.length (psbytes ps ++ r, sp) = (ps, r, sp) := by
  induction ps with
  | nil => intro r sp _ _; rfl
  | cons p ps ih =>
    intro r sp ho hs
    have e : psbytes (p :: ps) ++ r = pbytes p ++ (psbytes ps ++ r) := by simp [psbytes]
    have a := ppair_enc p (psbytes ps ++ r) sp (ho p (by simp)) (hs p (by simp))
    have b := ih r sp (fun q hq => ho q (by simp [hq])) (fun q hq => hs q (by simp [hq]))
    rw [e, List.length_cons, ppairs, a, b]
theorem epairs_enc (ps : List PairD) : ∀ (r : List Int), (∀ p ∈ ps, okPair p) → (∀ p ∈ ps, shpP p) → epairs ps.length (psbytes ps ++ r, false) = (ps, r, false) := by
  induction ps with
  | nil => intro r _ _; rfl
  | cons p ps ih =>
    intro r ho hs
    have e : psbytes (p :: ps) ++ r = pbytes p ++ (psbytes ps ++ r) := by simp [psbytes]
    have a := epair_enc p (psbytes ps ++ r) (ho p (by simp)) (hs p (by simp))
    have b := ih r (fun q hq => ho q (by simp [hq])) (fun q hq => hs q (by simp [hq]))
    rw [e, List.length_cons, epairs_step a.symm, b]
def shpC (c : CmdD) : Prop := ∀ p ∈ c.writes, shpP p
theorem pcmd_enc (c : CmdD) (r : List Int) (sp : Bool) (ho : okCmd c) (hs : shpC c) : pcmd (cbytes c ++ r, sp) = (c, r, sp) := by
  obtain ⟨kind, tx, time, ps⟩ := c
  obtain ⟨k1, k2, ⟨t1, t2⟩, ⟨u1, u2⟩, hl, hp⟩ := ho
  simp only at k1 k2 t1 t2 u1 u2 hl hp
  have e : cbytes ⟨kind, tx, time, ps⟩ ++ r = enc kind.toNat ++ (enc tx.toNat ++ (enc time.toNat ++ (enc ps.length ++ (psbytes ps ++ r)))) := by simp [cbytes]
  rw [e, pcmd_eq (pnum_enc 1 4 kind.toNat _ sp (by omega) (by omega) (by omega)).symm (pnum_enc 0 1099511627776 tx.toNat _ sp (by omega) (by omega) (by omega)).symm (pnum_enc 0 1099511627776 time.toNat _ sp (by omega) (by omega) (by omega)).symm (pnum_enc 0 20 ps.length _ sp (by omega) hl (by omega)).symm (ppairs_enc ps r sp hp hs).symm]
  rw [Int.toNat_of_nonneg (by omega), Int.toNat_of_nonneg t1, Int.toNat_of_nonneg u1]
theorem ecmd_enc (c : CmdD) (r : List Int) (ho : okCmd c) (hs : shpC c) : ecmd (cbytes c ++ r, false) = (c, r, false) := by
  obtain ⟨kind, tx, time, ps⟩ := c
  obtain ⟨k1, k2, ⟨t1, t2⟩, ⟨u1, u2⟩, hl, hp⟩ := ho
  simp only at k1 k2 t1 t2 u1 u2 hl hp
  have e : cbytes ⟨kind, tx, time, ps⟩ ++ r = enc kind.toNat ++ (enc tx.toNat ++ (enc time.toNat ++ (enc ps.length ++ (psbytes ps ++ r)))) := by simp [cbytes]
  rw [e, ecmd_eq (enum_enc kind.toNat _ false (by omega)).symm (enum_enc tx.toNat _ false (by omega)).symm (enum_enc time.toNat _ false (by omega)).symm (enum_enc ps.length _ false (by omega)).symm (epairs_enc ps r hp hs)]
  rw [Int.toNat_of_nonneg (by omega), Int.toNat_of_nonneg t1, Int.toNat_of_nonneg u1]
def shpM (m : MsgD) : Prop := shpC m.cmd ∧ (m.kind ≠ 3 → m.cmd = zeroCmd)
theorem pmsg_enc (m : MsgD) (sp : Bool) (ho : okMsg m) (hs : shpM m) : pmsg (mbytes m, sp) = (m, [], sp) := by
  obtain ⟨kind, frm, dst, epoch, n, c⟩ := m
  obtain ⟨k1, k2, ⟨a1, a2⟩, ⟨b1, b2⟩, ⟨c1, c2⟩, ⟨d1, d2⟩, hc⟩ := ho
  obtain ⟨s1, s2⟩ := hs
  simp only at k1 k2 a1 a2 b1 b2 c1 c2 d1 d2 hc s1 s2
  have e : mbytes ⟨kind, frm, dst, epoch, n, c⟩ = enc kind.toNat ++ (enc frm.toNat ++ (enc dst.toNat ++ (enc epoch.toNat ++ (enc n.toNat ++ if kind = 3 then cbytes c else [])))) := rfl
  have x1 := (pnum_enc 1 4 kind.toNat (enc frm.toNat ++ (enc dst.toNat ++ (enc epoch.toNat ++ (enc n.toNat ++ if kind = 3 then cbytes c else [])))) sp (by omega) (by omega) (by omega)).symm
  have x2 := (pnum_enc 0 1099511627776 frm.toNat (enc dst.toNat ++ (enc epoch.toNat ++ (enc n.toNat ++ if kind = 3 then cbytes c else []))) sp (by omega) (by omega) (by omega)).symm
  have x3 := (pnum_enc 0 1099511627776 dst.toNat (enc epoch.toNat ++ (enc n.toNat ++ if kind = 3 then cbytes c else [])) sp (by omega) (by omega) (by omega)).symm
  have x4 := (pnum_enc 0 1099511627776 epoch.toNat (enc n.toNat ++ if kind = 3 then cbytes c else []) sp (by omega) (by omega) (by omega)).symm
  have x5 := (pnum_enc 0 1099511627776 n.toNat (if kind = 3 then cbytes c else []) sp (by omega) (by omega) (by omega)).symm
  rw [e]
  by_cases h3 : kind = 3
  · rw [if_pos h3] at x1 x2 x3 x4 x5 ⊢
    have y := pcmd_enc c [] sp (hc h3) s1
    rw [List.append_nil] at y
    rw [pmsg_fwd x1 x2 x3 x4 x5 (by omega) y.symm]
    rw [Int.toNat_of_nonneg (by omega), Int.toNat_of_nonneg a1, Int.toNat_of_nonneg b1, Int.toNat_of_nonneg c1, Int.toNat_of_nonneg d1]
  · rw [if_neg h3] at x1 x2 x3 x4 x5 ⊢
    rw [pmsg_other x1 x2 x3 x4 x5 (by omega), s2 h3]
    rw [Int.toNat_of_nonneg (by omega), Int.toNat_of_nonneg a1, Int.toNat_of_nonneg b1, Int.toNat_of_nonneg c1, Int.toNat_of_nonneg d1]
theorem emsg_enc (m : MsgD) (ho : okMsg m) (hs : shpM m) : emsg (mbytes m, false) = (m, [], false) := by
  obtain ⟨kind, frm, dst, epoch, n, c⟩ := m
  obtain ⟨k1, k2, ⟨a1, a2⟩, ⟨b1, b2⟩, ⟨c1, c2⟩, ⟨d1, d2⟩, hc⟩ := ho
  obtain ⟨s1, s2⟩ := hs
  simp only at k1 k2 a1 a2 b1 b2 c1 c2 d1 d2 hc s1 s2
  have e : mbytes ⟨kind, frm, dst, epoch, n, c⟩ = enc kind.toNat ++ (enc frm.toNat ++ (enc dst.toNat ++ (enc epoch.toNat ++ (enc n.toNat ++ if kind = 3 then cbytes c else [])))) := rfl
  have x1 := (enum_enc kind.toNat (enc frm.toNat ++ (enc dst.toNat ++ (enc epoch.toNat ++ (enc n.toNat ++ if kind = 3 then cbytes c else [])))) false (by omega)).symm
  have x2 := (enum_enc frm.toNat (enc dst.toNat ++ (enc epoch.toNat ++ (enc n.toNat ++ if kind = 3 then cbytes c else []))) false (by omega)).symm
  have x3 := (enum_enc dst.toNat (enc epoch.toNat ++ (enc n.toNat ++ if kind = 3 then cbytes c else [])) false (by omega)).symm
  have x4 := (enum_enc epoch.toNat (enc n.toNat ++ if kind = 3 then cbytes c else []) false (by omega)).symm
  have x5 := (enum_enc n.toNat (if kind = 3 then cbytes c else []) false (by omega)).symm
  rw [e]
  by_cases h3 : kind = 3
  · rw [if_pos h3] at x1 x2 x3 x4 x5 ⊢
    have y := ecmd_enc c [] (hc h3) s1
    rw [List.append_nil] at y
    rw [emsg_fwd x1 x2 x3 x4 x5 (by omega) y.symm]
    rw [Int.toNat_of_nonneg (by omega), Int.toNat_of_nonneg a1, Int.toNat_of_nonneg b1, Int.toNat_of_nonneg c1, Int.toNat_of_nonneg d1]
  · rw [if_neg h3] at x1 x2 x3 x4 x5 ⊢
    rw [emsg_other x1 x2 x3 x4 x5 (by omega), s2 h3]
    rw [Int.toNat_of_nonneg (by omega), Int.toNat_of_nonneg a1, Int.toNat_of_nonneg b1, Int.toNat_of_nonneg c1, Int.toNat_of_nonneg d1]
theorem pcmds_enc (cs : List CmdD) : ∀ (r : List Int) (sp : Bool), (∀ c ∈ cs, okCmd c) → (∀ c ∈ cs, shpC c) → pcmds cs.length (cs.flatMap cbytes ++ r, sp) = (cs, r, sp) := by
  induction cs with
  | nil => intro r sp _ _; rfl
  | cons c cs ih =>
    intro r sp ho hs
    have e : (c :: cs).flatMap cbytes ++ r = cbytes c ++ (cs.flatMap cbytes ++ r) := by simp
    have a := pcmd_enc c (cs.flatMap cbytes ++ r) sp (ho c (by simp)) (hs c (by simp))
    have b := ih r sp (fun q hq => ho q (by simp [hq])) (fun q hq => hs q (by simp [hq]))
    rw [e, List.length_cons, pcmds, a, b]
theorem ecmds_enc (cs : List CmdD) : ∀ (k : Nat) (r : List Int), k + cs.length ≤ 501 → (∀ c ∈ cs, okCmd c) → (∀ c ∈ cs, shpC c) → ecmds cs.length k (cs.flatMap cbytes ++ r, false) = (cs, r, false) := by
  induction cs with
  | nil => intro k r _ _ _; rfl
  | cons c cs ih =>
    intro k r hk ho hs
    have e : (c :: cs).flatMap cbytes ++ r = cbytes c ++ (cs.flatMap cbytes ++ r) := by simp
    have a := ecmd_enc c (cs.flatMap cbytes ++ r) (ho c (by simp)) (hs c (by simp))
    have b := ih (k + 1) r (by simp at hk; omega) (fun q hq => ho q (by simp [hq])) (fun q hq => hs q (by simp [hq]))
    rw [e, List.length_cons, ecmds_step a.symm (by simp at hk; omega), b]
theorem plog_enc (cs : List CmdD) (sp : Bool) (ho : okLog cs) (hs : ∀ c ∈ cs, shpC c) : plog (lbytes cs, sp) = (cs, [], sp) := by
  have a := pnum_enc 0 500 cs.length (cs.flatMap cbytes) sp (Nat.zero_le _) ho.1 (by have := ho.1; omega)
  have b := pcmds_enc cs [] sp ho.2 hs
  rw [List.append_nil] at b
  unfold plog lbytes
  rw [a, b]
theorem elog_enc (cs : List CmdD) (ho : okLog cs) (hs : ∀ c ∈ cs, shpC c) : elog (lbytes cs, false) = (cs, [], false) := by
  have a := enum_enc cs.length (cs.flatMap cbytes) false (by have := ho.1; omega)
  have b := ecmds_enc cs 0 [] (by have := ho.1; omega) ho.2 hs
  rw [List.append_nil] at b
  unfold elog lbytes
  rw [a, b]

/- Shapes of what is read. -/
theorem shp_epair (s : List Int × Bool) : shpP (epair s).1 := by
  unfold shpP epair; simp only; split <;> simp
theorem shp_ppair (s : List Int × Bool) : shpP (ppair s).1 := by
  unfold shpP ppair; simp only; split <;> simp
theorem shp_epairs : ∀ n s, ∀ p ∈ (epairs n s).1, shpP p
  | 0, _, p, h => by simp [epairs] at h
  | n + 1, s, p, h => by
    by_cases hs : s.2 = true
    · simp [epairs, hs] at h
    · simp only [epairs, hs] at h
      rcases List.mem_cons.1 h with rfl | h
      · exact shp_epair s
      · exact shp_epairs n _ p h
theorem shp_ppairs : ∀ n s, ∀ p ∈ (ppairs n s).1, shpP p
  | 0, _, p, h => by simp [ppairs] at h
  | n + 1, s, p, h => by
    simp only [ppairs] at h
    rcases List.mem_cons.1 h with rfl | h
    · exact shp_ppair s
    · exact shp_ppairs n _ p h
theorem shp_ecmd (s : List Int × Bool) : shpC (ecmd s).1 := fun p hp => shp_epairs _ _ p hp
theorem shp_pcmd (s : List Int × Bool) : shpC (pcmd s).1 := fun p hp => shp_ppairs _ _ p hp
theorem shp_zero : shpC zeroCmd := fun p hp => by simp [zeroCmd] at hp
theorem shp_emsg (s : List Int × Bool) : shpM (emsg s).1 := by
  unfold shpM emsg; simp only; split
  · rename_i h; exact ⟨shp_ecmd _, fun x => absurd (by simp only; omega) x⟩
  · exact ⟨shp_zero, fun _ => rfl⟩
theorem shp_pmsg (s : List Int × Bool) : shpM (pmsg s).1 := by
  unfold shpM pmsg; simp only; split
  · rename_i h; exact ⟨shp_pcmd _, fun x => absurd (by simp only; omega) x⟩
  · exact ⟨shp_zero, fun _ => rfl⟩
theorem shp_ecmds : ∀ n k s, ∀ c ∈ (ecmds n k s).1, shpC c
  | 0, _, _, c, h => by simp [ecmds] at h
  | n + 1, k, s, c, h => by
    by_cases hs : s.2 = true ∨ 500 < k
    · simp [ecmds, if_pos hs] at h
    · simp only [ecmds, if_neg hs] at h
      rcases List.mem_cons.1 h with rfl | h
      · exact shp_ecmd s
      · exact shp_ecmds n _ _ c h
theorem shp_pcmds : ∀ n s, ∀ c ∈ (pcmds n s).1, shpC c
  | 0, _, c, h => by simp [pcmds] at h
  | n + 1, s, c, h => by
    simp only [pcmds] at h
    rcases List.mem_cons.1 h with rfl | h
    · exact shp_pcmd s
    · exact shp_pcmds n _ c h
end Go.Proofs.YtcfgmjlkbjleaaaDoor
