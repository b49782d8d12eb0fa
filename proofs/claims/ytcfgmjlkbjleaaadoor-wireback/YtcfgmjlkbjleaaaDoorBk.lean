/- There and back: plain mathematics. -/
import Derived.Test.YtcfgmjlkbjleaaaDoorVr
import Derived.Test.YtcfgmjlkbjleaaaDoorEq3
namespace Go.Proofs.YtcfgmjlkbjleaaaDoor
open Go.RowKit Go.Lib

def cleanP (p : PairD) : PairD := if p.gone then ⟨p.key, ByteArray.empty, true⟩ else p
def cleanC (c : CmdD) : CmdD := ⟨c.kind, c.tx, c.time, c.writes.map cleanP⟩
/-- The message as its bytes tell it: what is not written is nothing. -/
def cleanM (m : MsgD) : MsgD := if m.kind = 3 then ⟨m.kind, m.frm, m.to, m.epoch, m.n, cleanC m.cmd⟩ else ⟨m.kind, m.frm, m.to, m.epoch, m.n, zeroCmd⟩
theorem pbytes_clean (p : PairD) : pbytes (cleanP p) = pbytes p := by
  obtain ⟨k, v, g⟩ := p
  cases g <;> rfl
theorem psbytes_clean (ps : List PairD) : psbytes (ps.map cleanP) = psbytes ps := by
  simp [psbytes, List.flatMap_map, pbytes_clean]
theorem cbytes_clean (c : CmdD) : cbytes (cleanC c) = cbytes c := by
  simp only [cbytes, cleanC, psbytes_clean, List.length_map]
theorem mbytes_clean (m : MsgD) : mbytes (cleanM m) = mbytes m := by
  unfold cleanM
  split
  · rename_i h; simp only [mbytes, h, if_true, cbytes_clean]
  · rename_i h; simp only [mbytes, h, if_false]
theorem lbytes_clean (cs : List CmdD) : lbytes (cs.map cleanC) = lbytes cs := by
  simp [lbytes, List.flatMap_map, cbytes_clean]
theorem ok_cleanP (p : PairD) (h : okPair p) : okPair (cleanP p) ∧ shpP (cleanP p) := by
  obtain ⟨k, v, g⟩ := p
  cases g with
  | true => exact ⟨⟨h.1, fun e => by simp [cleanP] at e⟩, fun _ => rfl⟩
  | false => exact ⟨h, fun e => by simp [cleanP] at e⟩
theorem ok_cleanC (c : CmdD) (h : okCmd c) : okCmd (cleanC c) ∧ shpC (cleanC c) := by
  obtain ⟨h1, h2, h3, h4, h5, h6⟩ := h
  refine ⟨⟨h1, h2, h3, h4, by simpa [cleanC] using h5, fun p hp => ?_⟩, fun p hp => ?_⟩
  · obtain ⟨q, hq, rfl⟩ := List.mem_map.1 hp; exact (ok_cleanP q (h6 q hq)).1
  · obtain ⟨q, hq, rfl⟩ := List.mem_map.1 hp; exact (ok_cleanP q (h6 q hq)).2
theorem ok_cleanM (m : MsgD) (h : okMsg m) : okMsg (cleanM m) ∧ shpM (cleanM m) := by
  obtain ⟨h1, h2, h3, h4, h5, h6, h7⟩ := h
  unfold cleanM
  split
  · rename_i h; exact ⟨⟨h1, h2, h3, h4, h5, h6, fun _ => (ok_cleanC _ (h7 h)).1⟩, ⟨(ok_cleanC _ (h7 h)).2, fun e => absurd h e⟩⟩
  · rename_i h; exact ⟨⟨h1, h2, h3, h4, h5, h6, fun e => absurd e h⟩, ⟨shp_zero, fun _ => rfl⟩⟩
theorem ok_cleanL (cs : List CmdD) (h : okLog cs) : okLog (cs.map cleanC) ∧ ∀ c ∈ cs.map cleanC, shpC c := by
  refine ⟨⟨by simpa using h.1, fun c hc => ?_⟩, fun c hc => ?_⟩
  · obtain ⟨q, hq, rfl⟩ := List.mem_map.1 hc; exact (ok_cleanC q (h.2 q hq)).1
  · obtain ⟨q, hq, rfl⟩ := List.mem_map.1 hc; exact (ok_cleanC q (h.2 q hq)).2
theorem ints_ok (m : MsgD) (h : okMsg m) (hs : shpM m) : intsM m := by
  obtain ⟨h1, h2, ⟨a1, a2⟩, ⟨b1, b2⟩, ⟨c1, c2⟩, ⟨d1, d2⟩, h7⟩ := h
  refine ⟨⟨by omega, by omega⟩, ⟨by omega, by omega⟩, ⟨by omega, by omega⟩, ⟨by omega, by omega⟩, ⟨by omega, by omega⟩, ?_⟩
  by_cases h3 : m.kind = 3
  · obtain ⟨k1, k2, ⟨x1, x2⟩, ⟨y1, y2⟩, _⟩ := h7 h3
    exact ⟨⟨by omega, by omega⟩, ⟨by omega, by omega⟩, ⟨by omega, by omega⟩⟩
  · rw [hs.2 h3]
    exact ⟨⟨by simp [zeroCmd], by simp [zeroCmd]⟩, ⟨by simp [zeroCmd], by simp [zeroCmd]⟩, ⟨by simp [zeroCmd], by simp [zeroCmd]⟩⟩
theorem ints_okC (c : CmdD) (h : okCmd c) : intsC c := by
  obtain ⟨k1, k2, ⟨x1, x2⟩, ⟨y1, y2⟩, _⟩ := h
  exact ⟨⟨by omega, by omega⟩, ⟨by omega, by omega⟩, ⟨by omega, by omega⟩⟩
theorem few_ok (m : MsgD) (h : okMsg m) (hs : shpM m) : m.cmd.writes.length ≤ 20 := by
  by_cases h3 : m.kind = 3
  · exact (h.2.2.2.2.2.2 h3).2.2.2.2.1
  · rw [hs.2 h3]; simp [zeroCmd]
theorem mbytes_byt (m : MsgD) (h : okMsg m) : Byt (mbytes m) := by
  have k := rMsg_ok m
  rw [← k.2 (k.1.2 h)]; exact byt_rMsg m
theorem lbytes_byt (cs : List CmdD) (h : okLog cs) : Byt (lbytes cs) := by
  have k := rLog_ok cs
  rw [← k.2 (k.1.2 h)]; exact byt_rLog cs
theorem mbytes_pos (m : MsgD) : 0 < (mbytes m).length := by
  have := enc_pos m.kind.toNat
  simp only [mbytes, List.length_append]; omega
theorem lbytes_pos (cs : List CmdD) : 0 < (lbytes cs).length := by
  have := enc_pos cs.length
  simp only [lbytes, List.length_append]; omega
theorem pmsg_more (m : MsgD) (r : List Int) (sp : Bool) (ho : okMsg m) (hs : shpM m) : pmsg (mbytes m ++ r, sp) = (m, r, sp) := by
  obtain ⟨kind, frm, dst, epoch, n, c⟩ := m
  obtain ⟨k1, k2, ⟨a1, a2⟩, ⟨b1, b2⟩, ⟨c1, c2⟩, ⟨d1, d2⟩, hc⟩ := ho
  obtain ⟨s1, s2⟩ := hs
  simp only at k1 k2 a1 a2 b1 b2 c1 c2 d1 d2 hc s1 s2
  obtain ⟨t, ht⟩ : ∃ t, t = (if kind = 3 then cbytes c else []) ++ r := ⟨_, rfl⟩
  have e : mbytes ⟨kind, frm, dst, epoch, n, c⟩ ++ r = enc kind.toNat ++ (enc frm.toNat ++ (enc dst.toNat ++ (enc epoch.toNat ++ (enc n.toNat ++ t)))) := by rw [ht]; simp [mbytes]
  have x1 := (pnum_enc 1 4 kind.toNat (enc frm.toNat ++ (enc dst.toNat ++ (enc epoch.toNat ++ (enc n.toNat ++ t)))) sp (by omega) (by omega) (by omega)).symm
  have x2 := (pnum_enc 0 1099511627776 frm.toNat (enc dst.toNat ++ (enc epoch.toNat ++ (enc n.toNat ++ t))) sp (by omega) (by omega) (by omega)).symm
  have x3 := (pnum_enc 0 1099511627776 dst.toNat (enc epoch.toNat ++ (enc n.toNat ++ t)) sp (by omega) (by omega) (by omega)).symm
  have x4 := (pnum_enc 0 1099511627776 epoch.toNat (enc n.toNat ++ t) sp (by omega) (by omega) (by omega)).symm
  have x5 := (pnum_enc 0 1099511627776 n.toNat t sp (by omega) (by omega) (by omega)).symm
  rw [e]
  by_cases h3 : kind = 3
  · rw [if_pos h3] at ht
    subst ht
    have y := pcmd_enc c r sp (hc h3) s1
    rw [pmsg_fwd x1 x2 x3 x4 x5 (by omega) y.symm]
    rw [Int.toNat_of_nonneg (by omega), Int.toNat_of_nonneg a1, Int.toNat_of_nonneg b1, Int.toNat_of_nonneg c1, Int.toNat_of_nonneg d1]
  · rw [if_neg h3, List.nil_append] at ht
    subst ht
    rw [pmsg_other x1 x2 x3 x4 x5 (by omega), s2 h3]
    rw [Int.toNat_of_nonneg (by omega), Int.toNat_of_nonneg a1, Int.toNat_of_nonneg b1, Int.toNat_of_nonneg c1, Int.toNat_of_nonneg d1]
theorem plog_more (cs : List CmdD) (r : List Int) (sp : Bool) (ho : okLog cs) (hs : ∀ c ∈ cs, shpC c) : plog (lbytes cs ++ r, sp) = (cs, r, sp) := by
  have x := pnum_enc 0 500 cs.length (cs.flatMap cbytes ++ r) sp (Nat.zero_le _) ho.1 (by have := ho.1; omega)
  have e : lbytes cs ++ r = enc cs.length ++ (cs.flatMap cbytes ++ r) := by simp [lbytes]
  rw [plog, e, x]
  exact pcmds_enc cs r sp ho.2 hs
theorem read_back (m : MsgD) (h : okMsg m) : pReadMsg (mbytes m) = some (cleanM m) := by
  have k := ok_cleanM m h
  have e := pmsg_more (cleanM m) [] false k.1 k.2
  rw [List.append_nil, mbytes_clean] at e
  rw [pReadMsg, e]; rfl
theorem readl_back (cs : List CmdD) (h : okLog cs) : pReadLog (lbytes cs) = some (cs.map cleanC) := by
  have k := ok_cleanL cs h
  have e := plog_more (cs.map cleanC) [] false k.1 k.2
  rw [List.append_nil, lbytes_clean] at e
  rw [pReadLog, e]; rfl
theorem read_short (m : MsgD) (h : okMsg m) (k : Nat) (hk : k < (mbytes m).length) : pReadMsg ((mbytes m).take k) = none := by
  unfold pReadMsg
  split
  · rename_i hw
    exfalso
    obtain ⟨h1, h2⟩ := (whole_iff _).1 hw
    have hb : Byt ((mbytes m).take k) := fun x hx => mbytes_byt m h x (List.mem_of_mem_take hx)
    obtain ⟨_, h3, h4⟩ := pmsg_back ((mbytes m).take k, false) hb h1 h2
    have hs := shp_pmsg ((mbytes m).take k, false)
    obtain ⟨x, hx⟩ : ∃ x, x = (pmsg ((mbytes m).take k, false)).1 := ⟨_, rfl⟩
    rw [← hx] at h3 h4 hs
    simp only at h3
    have e1 : mbytes m = mbytes x ++ (mbytes m).drop k := by rw [← h3, List.take_append_drop]
    have e2 := pmsg_more x ((mbytes m).drop k) false h4 hs
    rw [← e1] at e2
    have k1 := ok_cleanM m h
    have e3 := pmsg_more (cleanM m) [] false k1.1 k1.2
    rw [List.append_nil, mbytes_clean, e2] at e3
    simp only [Prod.mk.injEq] at e3
    have := e3.2.1
    rw [List.drop_eq_nil_iff] at this
    omega
  · rfl
theorem readl_short (cs : List CmdD) (h : okLog cs) (k : Nat) (hk : k < (lbytes cs).length) : pReadLog ((lbytes cs).take k) = none := by
  unfold pReadLog
  split
  · rename_i hw
    exfalso
    obtain ⟨h1, h2⟩ := (whole_iff _).1 hw
    have hb : Byt ((lbytes cs).take k) := fun x hx => lbytes_byt cs h x (List.mem_of_mem_take hx)
    obtain ⟨_, h3, h4⟩ := plog_back ((lbytes cs).take k, false) hb h1 h2
    have hs : ∀ c ∈ (plog ((lbytes cs).take k, false)).1, shpC c := shp_pcmds _ _
    obtain ⟨x, hx⟩ : ∃ x, x = (plog ((lbytes cs).take k, false)).1 := ⟨_, rfl⟩
    rw [← hx] at h3 h4 hs
    simp only at h3
    have e1 : lbytes cs = lbytes x ++ (lbytes cs).drop k := by rw [← h3, List.take_append_drop]
    have e2 := plog_more x ((lbytes cs).drop k) false h4 hs
    rw [← e1] at e2
    have k1 := ok_cleanL cs h
    have e3 := plog_more (cs.map cleanC) [] false k1.1 k1.2
    rw [List.append_nil, lbytes_clean, e2] at e3
    simp only [Prod.mk.injEq] at e3
    have := e3.2.1
    rw [List.drop_eq_nil_iff] at this
    omega
  · rfl
theorem vMsg_clean (m : MsgD) (h : okMsg m) : vMsg (cleanM m) = (mbytes m, 0) := by
  have k := vMsg_ok (cleanM m)
  have e := k.1.2 (ok_cleanM m h).1
  refine Prod.ext ?_ e
  rw [k.2 e, mbytes_clean]
theorem vLog_clean (cs : List CmdD) (h : okLog cs) : vLog (cs.map cleanC) = (lbytes cs, 0) := by
  have k := vLog_ok (cs.map cleanC)
  have e := k.1.2 (ok_cleanL cs h).1
  refine Prod.ext ?_ e
  rw [k.2 e, lbytes_clean]
end Go.Proofs.YtcfgmjlkbjleaaaDoor
