/- What the program's reader tells is what the document's tells: plain mathematics. -/
import Derived.Test.YtcfgmjlkbjleaaaDoorRg3
namespace Go.Proofs.YtcfgmjlkbjleaaaDoor
open Go.RowKit Go.Lib

theorem sbytes_str (xs : List Int) (h : Byt xs) : sbytes (strOfNums xs) = xs := by
  unfold sbytes
  rw [strOfNums_data, List.map_map]
  have : ∀ l : List Int, Byt l → l.map ((fun b : UInt8 => (b.toNat : Int)) ∘ fun n => UInt8.ofNat n.toNat) = l := by
    intro l
    induction l with
    | nil => intro _; rfl
    | cons x l ih =>
      intro hl
      have hx := hl x (by simp)
      simp only [List.map_cons, Function.comp, UInt8.toNat_ofNat']
      rw [show ((x.toNat % 2 ^ 8 : Nat) : Int) = x by omega]
      congr 1
      exact ih (fun y hy => hl y (by simp [hy]))
  exact this xs h
theorem str_sbytes (s : ByteArray) : strOfNums (sbytes s) = s := by
  have h : (strOfNums (sbytes s)).data.toList = s.data.toList := by
    rw [strOfNums_data, sbytes, List.map_map]
    have : ∀ l : List UInt8, l.map ((fun n : Int => UInt8.ofNat n.toNat) ∘ fun b : UInt8 => (b.toNat : Int)) = l := by
      intro l
      induction l with
      | nil => rfl
      | cons x l ih => simp only [List.map_cons, Function.comp, Int.toNat_natCast, UInt8.ofNat_toNat, ih]
    exact this _
  cases s with
  | mk d =>
    have h2 := congrArg List.toArray h
    simp at h2
    show (⟨(strOfNums (sbytes ⟨d⟩)).data⟩ : ByteArray) = ⟨d⟩
    rw [h2]

/-- The bytes of a text, a pair, a command, a message. -/
def tbytes (s : ByteArray) : List Int := enc s.size ++ sbytes s
def pbytes (p : PairD) : List Int := tbytes p.key ++ if p.gone then enc 1 else enc 0 ++ tbytes p.val
def psbytes (ps : List PairD) : List Int := ps.flatMap pbytes
def cbytes (c : CmdD) : List Int := enc c.kind.toNat ++ (enc c.tx.toNat ++ (enc c.time.toNat ++ (enc c.writes.length ++ psbytes c.writes)))
def mbytes (m : MsgD) : List Int := enc m.kind.toNat ++ (enc m.frm.toNat ++ (enc m.to.toNat ++ (enc m.epoch.toNat ++ (enc m.n.toNat ++ if m.kind = 3 then cbytes m.cmd else []))))
def inNum (x : Int) : Prop := 0 ≤ x ∧ x ≤ 1099511627776
def okPair (p : PairD) : Prop := p.key.size ≤ 20 ∧ (p.gone = false → p.val.size ≤ 40)
def okCmd (c : CmdD) : Prop := 1 ≤ c.kind ∧ c.kind ≤ 4 ∧ inNum c.tx ∧ inNum c.time ∧ c.writes.length ≤ 20 ∧ ∀ p ∈ c.writes, okPair p
def okMsg (m : MsgD) : Prop := 1 ≤ m.kind ∧ m.kind ≤ 4 ∧ inNum m.frm ∧ inNum m.to ∧ inNum m.epoch ∧ inNum m.n ∧ (m.kind = 3 → okCmd m.cmd)
def okLog (cs : List CmdD) : Prop := cs.length ≤ 500 ∧ ∀ c ∈ cs, okCmd c
def lbytes (cs : List CmdD) : List Int := enc cs.length ++ cs.flatMap cbytes

/- The writer: nothing is wrong just where all is well; then these are the bytes. -/
theorem wnum_ok (n : Int) (s : List Int × Int) : ((wnum n s).2 = 0 ↔ s.2 = 0 ∧ inNum n) ∧ ((wnum n s).2 = 0 → (wnum n s).1 = s.1 ++ enc n.toNat) := by
  unfold wnum inNum
  split
  · rename_i h; exact ⟨⟨fun e => ⟨e, h⟩, fun e => e.1⟩, fun _ => rfl⟩
  · rename_i h; exact ⟨⟨fun e => by simp at e, fun e => absurd e.2 h⟩, fun e => by simp at e⟩
theorem wtext_ok (str : ByteArray) (most : Nat) (hm : most ≤ 40) (s : List Int × Int) : ((wtext str most s).2 = 0 ↔ s.2 = 0 ∧ str.size ≤ most) ∧ ((wtext str most s).2 = 0 → (wtext str most s).1 = s.1 ++ tbytes str) := by
  unfold wtext
  by_cases h : most < str.size
  · simp only [if_pos h]
    have := wnum_ok str.size (s.1, 4)
    refine ⟨⟨fun e => ?_, fun e => by omega⟩, fun e => ?_⟩
    · have := (this.1.1 e).1; simp at this
    · have := (this.1.1 e).1; simp at this
  · simp only [if_neg h]
    have := wnum_ok str.size s
    refine ⟨⟨fun e => ⟨(this.1.1 e).1, by omega⟩, fun e => this.1.2 ⟨e.1, by unfold inNum; omega⟩⟩, fun e => ?_⟩
    rw [this.2 e, tbytes, Int.toNat_natCast, List.append_assoc]
theorem wpair_ok (p : PairD) (s : List Int × Int) : ((wpair p s).2 = 0 ↔ s.2 = 0 ∧ okPair p) ∧ ((wpair p s).2 = 0 → (wpair p s).1 = s.1 ++ pbytes p) := by
  have h1 := wtext_ok p.key 20 (by omega) s
  unfold wpair okPair pbytes
  by_cases hg : p.gone = true
  · rw [if_pos hg, if_pos hg]
    have h2 := wnum_ok 1 (wtext p.key 20 s)
    refine ⟨⟨fun e => ?_, fun e => ?_⟩, fun e => ?_⟩
    · have := (h2.1.1 e).1; exact ⟨(h1.1.1 this).1, (h1.1.1 this).2, fun x => by simp [hg] at x⟩
    · exact h2.1.2 ⟨h1.1.2 ⟨e.1, e.2.1⟩, by unfold inNum; omega⟩
    · rw [h2.2 e, h1.2 (h2.1.1 e).1, List.append_assoc]; rfl
  · rw [if_neg hg, if_neg hg]
    have h2 := wnum_ok 0 (wtext p.key 20 s)
    have h3 := wtext_ok p.val 40 (by omega) (wnum 0 (wtext p.key 20 s))
    have hgf : p.gone = false := by simpa using hg
    refine ⟨⟨fun e => ?_, fun e => ?_⟩, fun e => ?_⟩
    · have a := (h3.1.1 e).1; have b := (h2.1.1 a).1; exact ⟨(h1.1.1 b).1, (h1.1.1 b).2, fun _ => (h3.1.1 e).2⟩
    · exact h3.1.2 ⟨h2.1.2 ⟨h1.1.2 ⟨e.1, e.2.1⟩, by unfold inNum; omega⟩, e.2.2 hgf⟩
    · have a := (h3.1.1 e).1; have b := (h2.1.1 a).1
      rw [h3.2 e, h2.2 a, h1.2 b]; simp
theorem wpairs_ok (ps : List PairD) : ∀ s : List Int × Int, ((wpairs ps s).2 = 0 ↔ s.2 = 0 ∧ ∀ p ∈ ps, okPair p) ∧ ((wpairs ps s).2 = 0 → (wpairs ps s).1 = s.1 ++ psbytes ps) := by
  induction ps with
  | nil => intro s; simp [wpairs, psbytes]
  | cons p ps ih =>
    intro s
    have h1 := wpair_ok p s
    have h2 := ih (wpair p s)
    simp only [wpairs]
    refine ⟨⟨fun e => ?_, fun e => ?_⟩, fun e => ?_⟩
    · have a := h2.1.1 e; have b := h1.1.1 a.1
      refine ⟨b.1, fun q hq => ?_⟩
      rcases List.mem_cons.1 hq with rfl | hq
      · exact b.2
      · exact a.2 q hq
    · exact h2.1.2 ⟨h1.1.2 ⟨e.1, e.2 p (by simp)⟩, fun q hq => e.2 q (by simp [hq])⟩
    · have a := h2.1.1 e
      rw [h2.2 e, h1.2 a.1]; simp [psbytes]
theorem wcmd_ok (c : CmdD) (s : List Int × Int) : ((wcmd c s).2 = 0 ↔ s.2 = 0 ∧ okCmd c) ∧ ((wcmd c s).2 = 0 → (wcmd c s).1 = s.1 ++ cbytes c) := by
  obtain ⟨s1, hs1⟩ : ∃ s1 : List Int × Int, s1 = if c.kind < 1 ∨ 4 < c.kind then (s.1, 1) else s := ⟨_, rfl⟩
  obtain ⟨s2, hs2⟩ : ∃ s2 : List Int × Int, s2 = if 20 < c.writes.length then (s1.1, 4) else s1 := ⟨_, rfl⟩
  have e : wcmd c s = wpairs c.writes (wnum c.writes.length (wnum c.time (wnum c.tx (wnum (c.kind % 8) s2)))) := by rw [hs2, hs1]; rfl
  have hz : s2.2 = 0 ↔ s.2 = 0 ∧ 1 ≤ c.kind ∧ c.kind ≤ 4 ∧ c.writes.length ≤ 20 := by
    rw [hs2]
    by_cases h20 : 20 < c.writes.length
    · rw [if_pos h20]; constructor
      · intro h; simp at h
      · intro h; omega
    · rw [if_neg h20, hs1]
      by_cases hk : c.kind < 1 ∨ 4 < c.kind
      · rw [if_pos hk]; constructor
        · intro h; simp at h
        · intro h; omega
      · rw [if_neg hk]; constructor
        · intro h; exact ⟨h, by omega, by omega, by omega⟩
        · intro h; exact h.1
  have hb : s2.1 = s.1 := by rw [hs2, hs1]; split <;> split <;> rfl
  have a1 := wnum_ok (c.kind % 8) s2
  have a2 := wnum_ok c.tx (wnum (c.kind % 8) s2)
  have a3 := wnum_ok c.time (wnum c.tx (wnum (c.kind % 8) s2))
  have a4 := wnum_ok c.writes.length (wnum c.time (wnum c.tx (wnum (c.kind % 8) s2)))
  have a5 := wpairs_ok c.writes (wnum c.writes.length (wnum c.time (wnum c.tx (wnum (c.kind % 8) s2))))
  rw [e]
  refine ⟨⟨fun x => ?_, fun x => ?_⟩, fun x => ?_⟩
  · have b5 := a5.1.1 x; have b4 := a4.1.1 b5.1; have b3 := a3.1.1 b4.1; have b2 := a2.1.1 b3.1; have b1 := a1.1.1 b2.1; have b0 := hz.1 b1.1
    exact ⟨b0.1, b0.2.1, b0.2.2.1, b2.2, b3.2, b0.2.2.2, b5.2⟩
  · obtain ⟨x0, k1, k2, htx, hti, hl, hp⟩ := x
    exact a5.1.2 ⟨a4.1.2 ⟨a3.1.2 ⟨a2.1.2 ⟨a1.1.2 ⟨hz.2 ⟨x0, k1, k2, hl⟩, by unfold inNum; omega⟩, htx⟩, hti⟩, by unfold inNum; omega⟩, hp⟩
  · have b5 := a5.1.1 x; have b4 := a4.1.1 b5.1; have b3 := a3.1.1 b4.1; have b2 := a2.1.1 b3.1; have b1 := a1.1.1 b2.1; have b0 := hz.1 b1.1
    rw [a5.2 x, a4.2 b5.1, a3.2 b4.1, a2.2 b3.1, a1.2 b2.1, hb, cbytes, Int.toNat_natCast, show c.kind % 8 = c.kind by omega]
    simp
theorem wcmds_ok (cs : List CmdD) : ∀ s : List Int × Int, ((wcmds cs s).2 = 0 ↔ s.2 = 0 ∧ ∀ c ∈ cs, okCmd c) ∧ ((wcmds cs s).2 = 0 → (wcmds cs s).1 = s.1 ++ cs.flatMap cbytes) := by
  induction cs with
  | nil => intro s; simp [wcmds]
  | cons c cs ih =>
    intro s
    have h1 := wcmd_ok c s
    have h2 := ih (wcmd c s)
    simp only [wcmds]
    refine ⟨⟨fun e => ?_, fun e => ?_⟩, fun e => ?_⟩
    · have a := h2.1.1 e; have b := h1.1.1 a.1
      refine ⟨b.1, fun q hq => ?_⟩
      rcases List.mem_cons.1 hq with rfl | hq
      · exact b.2
      · exact a.2 q hq
    · exact h2.1.2 ⟨h1.1.2 ⟨e.1, e.2 c (by simp)⟩, fun q hq => e.2 q (by simp [hq])⟩
    · have a := h2.1.1 e
      rw [h2.2 e, h1.2 a.1]; simp
theorem finish_ok (s : List Int × Int) : ((finish s).2 = 0 ↔ s.2 = 0) ∧ ((finish s).2 = 0 → (finish s).1 = s.1) := by
  unfold finish; split
  · rename_i h; simp [h]
  · rename_i h; exact ⟨⟨fun e => e, fun e => e⟩, fun e => absurd e h⟩
theorem rMsg_ok (m : MsgD) : ((rMsg m).2 = 0 ↔ okMsg m) ∧ ((rMsg m).2 = 0 → (rMsg m).1 = mbytes m) := by
  unfold rMsg
  by_cases hk : m.kind < 1 ∨ 4 < m.kind
  · rw [if_pos hk]
    exact ⟨⟨fun e => by simp at e, fun e => by unfold okMsg at e; omega⟩, fun e => by simp at e⟩
  · rw [if_neg hk]
    have a1 := wnum_ok m.kind ([], 0)
    have a2 := wnum_ok m.frm (wnum m.kind ([], 0))
    have a3 := wnum_ok m.to (wnum m.frm (wnum m.kind ([], 0)))
    have a4 := wnum_ok m.epoch (wnum m.to (wnum m.frm (wnum m.kind ([], 0))))
    have a5 := wnum_ok m.n (wnum m.epoch (wnum m.to (wnum m.frm (wnum m.kind ([], 0)))))
    have e : wnums [m.kind, m.frm, m.to, m.epoch, m.n] ([], 0) = wnum m.n (wnum m.epoch (wnum m.to (wnum m.frm (wnum m.kind ([], 0))))) := rfl
    by_cases h3 : m.kind = 3
    · rw [if_pos h3, e]
      have a6 := wcmd_ok m.cmd (wnum m.n (wnum m.epoch (wnum m.to (wnum m.frm (wnum m.kind ([], 0))))))
      have a7 := finish_ok (wcmd m.cmd (wnum m.n (wnum m.epoch (wnum m.to (wnum m.frm (wnum m.kind ([], 0)))))))
      refine ⟨⟨fun x => ?_, fun x => ?_⟩, fun x => ?_⟩
      · have b6 := a6.1.1 (a7.1.1 x); have b5 := a5.1.1 b6.1; have b4 := a4.1.1 b5.1; have b3 := a3.1.1 b4.1; have b2 := a2.1.1 b3.1
        exact ⟨by omega, by omega, b2.2, b3.2, b4.2, b5.2, fun _ => b6.2⟩
      · obtain ⟨k1, k2, x1, x2, x3, x4, x5⟩ := x
        exact a7.1.2 (a6.1.2 ⟨a5.1.2 ⟨a4.1.2 ⟨a3.1.2 ⟨a2.1.2 ⟨a1.1.2 ⟨rfl, by unfold inNum; omega⟩, x1⟩, x2⟩, x3⟩, x4⟩, x5 h3⟩)
      · have b6 := a6.1.1 (a7.1.1 x); have b5 := a5.1.1 b6.1; have b4 := a4.1.1 b5.1; have b3 := a3.1.1 b4.1; have b2 := a2.1.1 b3.1
        rw [a7.2 x, a6.2 (a7.1.1 x), a5.2 b6.1, a4.2 b5.1, a3.2 b4.1, a2.2 b3.1, a1.2 b2.1, mbytes, if_pos h3]; simp
    · rw [if_neg h3, e]
      have a7 := finish_ok (wnum m.n (wnum m.epoch (wnum m.to (wnum m.frm (wnum m.kind ([], 0))))))
      refine ⟨⟨fun x => ?_, fun x => ?_⟩, fun x => ?_⟩
      · have b5 := a5.1.1 (a7.1.1 x); have b4 := a4.1.1 b5.1; have b3 := a3.1.1 b4.1; have b2 := a2.1.1 b3.1
        exact ⟨by omega, by omega, b2.2, b3.2, b4.2, b5.2, fun h => absurd h h3⟩
      · obtain ⟨k1, k2, x1, x2, x3, x4, x5⟩ := x
        exact a7.1.2 (a5.1.2 ⟨a4.1.2 ⟨a3.1.2 ⟨a2.1.2 ⟨a1.1.2 ⟨rfl, by unfold inNum; omega⟩, x1⟩, x2⟩, x3⟩, x4⟩)
      · have b5 := a5.1.1 (a7.1.1 x); have b4 := a4.1.1 b5.1; have b3 := a3.1.1 b4.1; have b2 := a2.1.1 b3.1
        rw [a7.2 x, a5.2 (a7.1.1 x), a4.2 b5.1, a3.2 b4.1, a2.2 b3.1, a1.2 b2.1, mbytes, if_neg h3]; simp
theorem rLog_ok (cs : List CmdD) : ((rLog cs).2 = 0 ↔ okLog cs) ∧ ((rLog cs).2 = 0 → (rLog cs).1 = lbytes cs) := by
  unfold rLog okLog
  by_cases h5 : 500 < cs.length
  · rw [if_pos h5]
    exact ⟨⟨fun e => by simp at e, fun e => by omega⟩, fun e => by simp at e⟩
  · rw [if_neg h5]
    have a1 := wnum_ok cs.length ([], 0)
    have a2 := wcmds_ok cs (wnum cs.length ([], 0))
    have a3 := finish_ok (wcmds cs (wnum cs.length ([], 0)))
    refine ⟨⟨fun x => ⟨by omega, (a2.1.1 (a3.1.1 x)).2⟩, fun x => a3.1.2 (a2.1.2 ⟨a1.1.2 ⟨rfl, by unfold inNum; omega⟩, x.2⟩)⟩, fun x => ?_⟩
    have b := a2.1.1 (a3.1.1 x)
    rw [a3.2 x, a2.2 (a3.1.1 x), a1.2 b.1, lbytes, Int.toNat_natCast]; simp
end Go.Proofs.YtcfgmjlkbjleaaaDoor
