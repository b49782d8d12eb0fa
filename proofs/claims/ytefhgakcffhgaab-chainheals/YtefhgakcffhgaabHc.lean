/- It all comes down: links, room, and what is stable, while messages are brought. Pure. -/
import Derived.Test.YtefhgakcffhgaabHb
namespace Go.Proofs.Ytefhgakcffhgaab
open Go.RowKit Go.Lib Go.Maps

theorem setF_self {α : Type} (f : Nat → α) (i k : Nat) : setF f i (f i) k = f k := by
  unfold setF; split
  · rename_i e; rw [e]
  · rfl
theorem fwds_lt {W : WS} {n : Nat} {B : Int} (hI : Inv W n B) {a b : Int} {l : List MsgD} (hl : ∀ x ∈ l, x ∈ W.net.way) : ∀ N ∈ fwds W.epoch a b l, N < lenI W a := by
  intro N hN
  unfold fwds at hN
  obtain ⟨x, hx, rfl⟩ := List.mem_map.1 hN
  obtain ⟨h1, h2⟩ := List.mem_filter.1 hx
  simp only [isF, decide_eq_true_eq] at h2
  obtain ⟨⟨_, _, h3⟩, _⟩ := hI.msgs x (hl x h1)
  obtain ⟨M, h4, h5⟩ := h3 h2.1
  have h6 := (List.getElem?_eq_some_iff.1 h5).1
  rw [h2.2.1] at h6
  unfold lenI
  omega
section
variable {W : WS} {n : Nat} {B : Int} {m : MsgD} {R : List MsgD} {j : Nat}
theorem LinkOK.drain (hI : Inv W n B) (hC : Cfg W) (ht : Takes W m R j) (hn : n ≤ 110) (hw : (wdr W j m).net.way = R ++ (stepN (W.node j) m).2) {a b : Int} (hab : Adj W.conf a b) (h : LinkOK W a b) : LinkOK (wdr W j m) a b := by
  have hA := adj_node hI hC hab
  have hI' := hI.drain ht hn
  obtain ⟨a5, a6⟩ := toNat_small hA.ca.sm
  obtain ⟨b5, b6⟩ := toNat_small hA.cb.sm
  have hab' : a.toNat ≠ b.toNat := fun e => hA.ne (by omega)
  have hE : (wdr W j m).epoch = W.epoch := rfl
  have other : ∀ {x : Int}, x.toNat ≠ j → lenI (wdr W j m) x = lenI W x := fun {x} hx => by
    unfold lenI; rw [wdr_node, setF_ne _ _ hx]
  have same : ∀ {x : Int}, (stepN (W.node j) m).1.log = (W.node j).log → lenI (wdr W j m) x = lenI W x := fun {x} hx => by
    by_cases e : x.toNat = j
    · unfold lenI; rw [wdr_node, e, setF_same, hx]
    · exact other e
  by_cases hS : m.kind = 1 ∧ m.frm = a ∧ m.to = b ∧ m.epoch = W.epoch
  · obtain ⟨k, f, t, e⟩ := hS
    have hj : j = b.toNat := by rw [ht.dest (by rw [t]; exact hA.cb.sm), t]
    have hst : stepN (W.node j) m = (W.node j, [⟨2, b, a, W.epoch, ((W.node j).log.length : Int), zeroCmd⟩]) := by
      rw [hj]
      unfold stepN
      rw [if_pos ⟨by rw [e, hA.cb.ep], by rw [t, hA.cb.id]⟩, if_pos ⟨k, by unfold isN; rw [hA.up, f]; simp⟩, sendN, hA.up, hA.cb.id, hA.cb.ep]
      rfl
    refine .inr (.inl ⟨⟨2, b, a, W.epoch, ((W.node j).log.length : Int), zeroCmd⟩, by rw [hw, hst]; simp, rfl, rfl, rfl, rfl, by simp, ?_⟩)
    rw [same (by rw [hst])]
    show ((W.node j).log.length : Int) ≤ lenI W b
    rw [hj]
    exact Int.le_refl _
  by_cases hH : m.kind = 2 ∧ m.frm = b ∧ m.to = a ∧ m.epoch = W.epoch ∧ 0 ≤ m.n ∧ m.n ≤ lenI W b
  · obtain ⟨k, f, t, e, n0, n1⟩ := hH
    have hj : j = a.toNat := by rw [ht.dest (by rw [t]; exact hA.ca.sm), t]
    have hst : stepN (W.node j) m = (W.node j, fwdL (W.node j) b m.n.toNat ((W.node j).log.length - m.n.toNat)) := by
      rw [hj]
      unfold stepN
      rw [if_pos ⟨by rw [e, hA.ca.ep], by rw [t, hA.ca.id]⟩, if_neg (by omega), if_pos ⟨k, by unfold isN; rw [hA.dn, f]; simp, n0⟩, haveN, hA.dn]
    refine .inr (.inr ?_)
    rw [hE, hw, hst, fwds_app, greedy_app, same (by rw [hst]), same (by rw [hst])]
    have hfw := fwds_batch (s := W.node j) (b := b) m.n.toNat ((W.node j).log.length - m.n.toNat)
    have hid : (W.node j).id = a := by rw [hj]; exact hA.ca.id
    have hep : (W.node j).epoch = W.epoch := by rw [hj]; exact hA.ca.ep
    rw [hid, hep] at hfw
    rw [hfw]
    have hla : lenI W a = ((W.node j).log.length : Int) := by rw [hj]; rfl
    have hle := hA.le
    have h1 := greedy_ge (fwds W.epoch a b R) (lenI W b)
    have h2 := greedy_le (fwds W.epoch a b R) (lenI W b) (lenI W a) hle (fwds_lt hI (fun x hx => by rw [ht.way]; simp [hx]))
    rw [greedy_range _ _ _ (by omega) (by omega)]
    omega
  have keep : ∀ {m' : MsgD}, m' ∈ W.net.way → m' ≠ m → m' ∈ (wdr W j m).net.way := fun {m'} h1 h2 => by
    rw [ht.way] at h1
    rw [hw]
    rcases List.mem_cons.1 h1 with e | h1
    · exact absurd e h2
    · exact List.mem_append_left _ h1
  by_cases hF : m.kind = 3 ∧ m.frm = a ∧ m.to = b ∧ m.epoch = W.epoch
  · obtain ⟨k, f, t, e⟩ := hF
    have hj : j = b.toNat := by rw [ht.dest (by rw [t]; exact hA.cb.sm), t]
    have hla : lenI (wdr W j m) a = lenI W a := other (by rw [hj]; exact hab')
    have hm : isF W.epoch a b m = true := by simp [isF, k, f, t, e]
    have hms : fwds W.epoch a b (stepN (W.node j) m).2 = [] := fwds_none (fun x hx => by
      have := (step_out hx).1
      rw [hj, hA.cb.id] at this
      have hne := hA.ne
      simp [isF, this]
      intro _ h; exact absurd h.symm hne)
    by_cases hN : m.n = lenI W b
    · have hlen : (W.node j).log.length < 500 := by have := (hI.each j ht.lt).len; omega
      have hst : stepN (W.node j) m = growN (W.node j) m.cmd := by
        unfold stepN
        rw [if_pos ⟨by rw [e, hj, hA.cb.ep], by rw [t, hj, hA.cb.id]⟩, if_neg (by omega), if_neg (by omega), if_pos ⟨k, by unfold isN; rw [hj, hA.up, f]; simp, by rw [hN, hj]; rfl, hlen⟩]
      have hlb : lenI (wdr W j m) b = lenI W b + 1 := by
        unfold lenI
        rw [wdr_node, ← hj, setF_same, hst, grow_log]
        simp
      rcases h with ⟨m', h1, h2⟩ | ⟨m', h1, h2, h3, h4, h5, h6, h7⟩ | h
      · exact .inl ⟨m', keep h1 (fun e => by rw [e, k] at h2; omega), h2⟩
      · exact .inr (.inl ⟨m', keep h1 (fun e => by rw [e, k] at h2; omega), h2, h3, h4, h5, h6, by omega⟩)
      · refine .inr (.inr ?_)
        rw [hE, hw, fwds_app, hms, List.append_nil, hlb, hla]
        rw [ht.way, fwds_cons, if_pos hm, greedy, if_pos hN] at h
        exact h
    · have hst : stepN (W.node j) m = (W.node j, []) := by
        rcases step_kinds (W.node j) m with e | ⟨_, _, ⟨k', _⟩ | ⟨k', _⟩ | ⟨_, _, h0, _⟩ | ⟨k', _⟩⟩
        · exact e
        · omega
        · omega
        · exact absurd (by rw [h0, hj]; rfl) hN
        · omega
      have hlb : lenI (wdr W j m) b = lenI W b := same (by rw [hst])
      rcases h with ⟨m', h1, h2⟩ | ⟨m', h1, h2, h3, h4, h5, h6, h7⟩ | h
      · exact .inl ⟨m', keep h1 (fun e => by rw [e, k] at h2; omega), h2⟩
      · exact .inr (.inl ⟨m', keep h1 (fun e => by rw [e, k] at h2; omega), h2, h3, h4, h5, h6, by omega⟩)
      · refine .inr (.inr ?_)
        rw [hE, hw, fwds_app, hms, List.append_nil, hlb, hla]
        rw [ht.way, fwds_cons, if_pos hm, greedy, if_neg hN] at h
        exact h
  have hlb : lenI (wdr W j m) b = lenI W b := by
    by_cases hj : b.toNat = j
    · rcases step_log3 (s := W.node j) (m := m) with e | ⟨k, h1, h2, h3, _⟩
      · exact same e
      · exfalso
        rw [← hj] at h1 h2 h3
        rw [hA.up] at h3
        simp at h3
        exact hF ⟨k, h3.symm, by rw [h2, hA.cb.id], by rw [h1, hA.cb.ep]⟩
    · exact other hj
  rcases h with ⟨m', h1, h2⟩ | ⟨m', h1, h2, h3, h4, h5, h6, h7⟩ | h
  · exact .inl ⟨m', keep h1 (fun e => hS (by rw [← e]; exact h2)), h2⟩
  · exact .inr (.inl ⟨m', keep h1 (fun e => hH (by rw [← e]; exact ⟨h2, h3, h4, h5, h6, h7⟩)), h2, h3, h4, h5, h6, by omega⟩)
  · refine .inr (.inr ?_)
    have hm : ¬ isF W.epoch a b m = true := by simpa [isF] using hF
    rw [ht.way, fwds_cons, if_neg hm] at h
    rw [hE, hw, fwds_app, hlb, greedy_app, h]
    by_cases hla : lenI (wdr W j m) a = lenI W a
    · rw [hla]
      refine greedy_stay _ _ (fun N hN => ?_)
      rw [← hla]
      exact fwds_lt hI' (fun x hx => by rw [hw]; exact List.mem_append_right _ hx) N hN
    · have hj : a.toNat = j := by
        by_cases e : a.toNat = j
        · exact e
        · exact absurd (other e) hla
      rcases step_log3 (s := W.node j) (m := m) with e | ⟨k, h1, h2, h3, h4, h5⟩
      · exact absurd (same e) hla
      · have hid : (W.node j).id = a := by rw [← hj]; exact hA.ca.id
        have hep : (W.node j).epoch = W.epoch := by rw [← hj]; exact hA.ca.ep
        have hms : (growN (W.node j) m.cmd).2 = [fwdM (W.node j) b (W.node j).log.length m.cmd] := by
          have hnt : ¬ tailN (W.node j) = true := by rw [← hj, hA.nt]; simp
          have hdn : nbrN (W.node j) 1 = some b := by rw [← hj]; exact hA.dn
          unfold growN
          rw [if_neg hnt]
          simp only
          rw [hdn]
        rw [h5, hms, fwds_cons, if_pos (by simp [isF, fwdM, hid, hep])]
        have e1 : lenI W a = ((W.node j).log.length : Int) := by rw [← hj]; rfl
        have e2 : lenI (wdr W j m) a = lenI W a + 1 := by
          unfold lenI
          rw [wdr_node, hj, setF_same, h5, grow_log]
          simp
        rw [e2, e1]
        simp [fwdM, fwds, greedy]
def lensAre (W : WS) (l : Int → Nat) : Prop := ∀ x ∈ W.conf, (W.node x.toNat).log.length = l x
theorem lensAre.drain {l : Int → Nat} (h : lensAre W l) (hk : m.kind ≠ 3) : lensAre (wdr W j m) l := fun x hx => by
  rw [wdr_node]
  by_cases e : x.toNat = j
  · rw [e, setF_same, step_log hk, ← e]; exact h x hx
  · rw [setF_ne _ _ e]; exact h x hx
def Shape (W : WS) (l : Int → Nat) : Prop :=
  (∃ S P, W.net.way = S ++ P ∧ (∀ m ∈ S, m.kind = 1 ∨ m.kind = 4) ∧ (∀ m ∈ P, m.kind = 2 ∨ m.kind = 4) ∧ lensAre W l)
  ∨ (∃ P F, W.net.way = P ++ F ∧ (∀ m ∈ P, m.kind = 2 ∨ m.kind = 4) ∧ (∀ m ∈ F, m.kind = 3 ∨ m.kind = 4) ∧ lensAre W l)
  ∨ (∀ m ∈ W.net.way, m.kind = 3 ∨ m.kind = 4)
theorem out_kind {s : NodeS} {m x : MsgD} (h : x ∈ (stepN s m).2) : (m.kind = 1 ∧ x.kind = 2) ∨ (m.kind = 2 ∧ x.kind = 3) ∨ (m.kind = 3 ∧ (x.kind = 3 ∨ x.kind = 4)) ∨ (m.kind = 4 ∧ x.kind = 4) := by
  obtain ⟨_, _, _, _, ⟨k, k', _⟩ | ⟨k, k', _⟩ | ⟨k, _, q⟩ | ⟨k, k', _⟩⟩ := step_out h
  · exact .inl ⟨k, k'⟩
  · exact .inr (.inl ⟨k, k'⟩)
  · obtain ⟨_, _, _, ⟨_, k', _⟩ | ⟨_, k', _⟩⟩ := grow_out q
    · exact .inr (.inr (.inl ⟨k, .inr k'⟩))
    · exact .inr (.inr (.inl ⟨k, .inl k'⟩))
  · exact .inr (.inr (.inr ⟨k, k'⟩))
theorem Shape.lens {l : Int → Nat} (h : Shape W l) (ht : Takes W m R j) (hk : m.kind = 1 ∨ m.kind = 2) : lensAre W l := by
  rcases h with ⟨_, _, _, _, _, h⟩ | ⟨_, _, _, _, _, h⟩ | h
  · exact h
  · exact h
  · have := h m ht.mem; omega
theorem Shape.drain {l : Int → Nat} (h : Shape W l) (ht : Takes W m R j) (hw : (wdr W j m).net.way = R ++ (stepN (W.node j) m).2) : Shape (wdr W j m) l := by
  have two : (∃ P F, W.net.way = P ++ F ∧ (∀ m ∈ P, m.kind = 2 ∨ m.kind = 4) ∧ (∀ m ∈ F, m.kind = 3 ∨ m.kind = 4) ∧ lensAre W l) ∨ (∀ m ∈ W.net.way, m.kind = 3 ∨ m.kind = 4) → Shape (wdr W j m) l := by
    have three : (∀ m ∈ W.net.way, m.kind = 3 ∨ m.kind = 4) → Shape (wdr W j m) l := fun h => by
      refine .inr (.inr (fun x hx => ?_))
      rw [hw] at hx
      rcases List.mem_append.1 hx with hx | hx
      · exact h x (by rw [ht.way]; simp [hx])
      · have h1 := h m ht.mem
        have h2 := out_kind hx
        omega
    rintro (⟨P, F, hP, h1, h2, h3⟩ | h)
    · cases P with
      | nil => exact three (fun x hx => h2 x (by rw [hP] at hx; exact hx))
      | cons y P =>
        rw [ht.way] at hP
        simp at hP
        obtain ⟨rfl, rfl⟩ := hP
        have hk := h1 m (by simp)
        refine .inr (.inl ⟨P, F ++ (stepN (W.node j) m).2, by rw [hw]; simp, fun x hx => h1 x (by simp [hx]), fun x hx => ?_, h3.drain (by omega)⟩)
        rcases List.mem_append.1 hx with hx | hx
        · exact h2 x hx
        · have := out_kind hx; omega
    · exact three h
  rcases h with ⟨S, P, hS, h1, h2, h3⟩ | h
  · cases S with
    | nil => exact two (.inl ⟨P, [], by rw [hS]; simp, h2, by simp, h3⟩)
    | cons y S =>
      rw [ht.way] at hS
      simp at hS
      obtain ⟨rfl, rfl⟩ := hS
      have hk := h1 m (by simp)
      refine .inl ⟨S, P ++ (stepN (W.node j) m).2, by rw [hw]; simp, fun x hx => h1 x (by simp [hx]), fun x hx => ?_, h3.drain (by omega)⟩
      rcases List.mem_append.1 hx with hx | hx
      · exact h2 x hx
      · have := out_kind hx; omega
  · exact two h
/-- How many messages one may be. -/
def vee (l : Int → Nat) (m : MsgD) : Nat := if m.kind = 1 then 1 + (l m.frm - l m.to) else if m.kind = 2 then 1 + (l m.to - m.n.toNat) else 1
theorem vee_pos (l : Int → Nat) (m : MsgD) : 1 ≤ vee l m := by
  unfold vee
  split
  · omega
  split <;> omega
theorem vee_len (l : Int → Nat) (ms : List MsgD) : ms.length ≤ (ms.map (vee l)).sum := by
  induction ms with
  | nil => simp
  | cons x ms ih => have := vee_pos l x; simp; omega
theorem vee_one {l : Int → Nat} {ms : List MsgD} (h : ∀ x ∈ ms, x.kind ≠ 1 ∧ x.kind ≠ 2) : (ms.map (vee l)).sum = ms.length := by
  induction ms with
  | nil => rfl
  | cons x ms ih =>
    have h1 := h x (by simp)
    have h2 := ih (fun y hy => h y (by simp [hy]))
    have : vee l x = 1 := by simp [vee, h1.1, h1.2]
    simp [this, h2]
    omega
theorem psi_step {l : Int → Nat} (hI : Inv W n B) (hC : Cfg W) (ht : Takes W m R j) (hS : Shape W l) : ((stepN (W.node j) m).2.map (vee l)).sum ≤ vee l m := by
  have hlen : (m.kind = 1 ∨ m.kind = 2) → m.to = (W.node j).id → (∃ wh t, nbrN (W.node j) wh = some t) → (W.node j).log.length = l m.to := fun hk h2 ⟨wh, t, hn⟩ => by
    have hd := ht.live hI h2
    obtain ⟨p, _, _, hp, _⟩ := nbr_cell hn
    have hm := List.mem_of_getElem? hp
    rw [(hC j ht.lt hd).2, ← h2] at hm
    have := hS.lens ht hk m.to hm
    rw [← this, h2, (hI.each j ht.lt).ident]
    simp
  rcases step_kinds (W.node j) m with e | ⟨h1, h2, ⟨k, hn, e⟩ | ⟨k, hn, h0, e⟩ | ⟨k, hn, h0, e⟩ | ⟨k, hn, h0, h0', e⟩⟩
  · rw [e]; simp
  · have h3 := hlen (.inl k) h2 ⟨_, _, hn⟩
    rw [e]
    simp [vee, k]
    omega
  · have h3 := hlen (.inr k) h2 ⟨_, _, hn⟩
    rw [vee_one (fun x hx => by have := out_kind hx; omega), e]
    simp [fwdL, vee, k]
    omega
  · rw [vee_one (fun x hx => by have := out_kind hx; omega), e]
    have := grow_len (W.node j) m.cmd
    have := vee_pos l m
    omega
  · rw [vee_one (fun x hx => by have := out_kind hx; omega), e]
    have := sendN_len (stabN (W.node j) m.n) (-1) (plainMsg 4 (stabN (W.node j) m.n).stable)
    have := vee_pos l m
    simp only
    omega
end
def AllEq (W : WS) : Prop := ∀ a b, Adj W.conf a b → lenI W a = lenI W b
/-- How far up it is known what is stable. -/
def Tok (W : WS) : Prop := ∃ X t Y, W.conf = X ++ t :: Y ∧ (∀ y ∈ t :: Y, (W.node y.toNat).stable = lenI W y) ∧ (X = [] ∨ ∃ X' a, X = X' ++ [a] ∧ ∃ m ∈ W.net.way, m.kind = 4 ∧ m.frm = t ∧ m.to = a ∧ m.epoch = W.epoch ∧ m.n = lenI W t)
section
variable {W : WS} {n : Nat} {B : Int} {m : MsgD} {R : List MsgD} {j : Nat}
theorem eq_logs (hI : Inv W n B) (hC : Cfg W) (ht : Takes W m R j) (hq : AllEq W) : (stepN (W.node j) m).1.log = (W.node j).log := by
  rcases step_log3 (s := W.node j) (m := m) with e | ⟨k, h1, h2, h3, h4, h5⟩
  · exact e
  · exfalso
    have hd := ht.live hI h2
    have ha := nbr_adj_ahead h3
    rw [(hC j ht.lt hd).2] at ha
    have := hq _ _ ha
    obtain ⟨⟨_, _, h6⟩, _⟩ := hI.msgs m ht.mem
    obtain ⟨N, h7, h8⟩ := h6 k
    have h9 := (List.getElem?_eq_some_iff.1 h8).1
    unfold lenI at this
    rw [(hI.each j ht.lt).ident] at this
    simp at this
    omega
theorem eq_len (hI : Inv W n B) (hC : Cfg W) (ht : Takes W m R j) (hq : AllEq W) (x : Int) : lenI (wdr W j m) x = lenI W x := by
  unfold lenI
  rw [wdr_node]
  by_cases e : x.toNat = j
  · rw [e, setF_same, eq_logs hI hC ht hq]
  · rw [setF_ne _ _ e]
theorem AllEq.drain (hI : Inv W n B) (hC : Cfg W) (ht : Takes W m R j) (hq : AllEq W) : AllEq (wdr W j m) := fun a b hab => by
  rw [eq_len hI hC ht hq, eq_len hI hC ht hq]; exact hq a b hab
theorem keep_stable {s : NodeS} {m : MsgD} (hs : s.stable = s.log.length) (hl : (stepN s m).1.log = s.log) : (stepN s m).1.stable = s.log.length := by
  rcases step_kinds s m with e | ⟨h1, h2, ⟨k, hn, e⟩ | ⟨k, hn, h0, e⟩ | ⟨k, hn, h0, e⟩ | ⟨k, hn, h0, h0', e⟩⟩
  · rw [e]; exact hs
  · rw [e]; exact hs
  · rw [e]; exact hs
  · exfalso
    rw [e, grow_log] at hl
    have := congrArg List.length hl
    simp at this
  · rw [e]
    show (if s.stable < m.n then m.n else s.stable) = _
    rw [if_neg (by omega)]; exact hs
theorem Tok.drain (hI : Inv W n B) (hC : Cfg W) (ht : Takes W m R j) (hw : (wdr W j m).net.way = R ++ (stepN (W.node j) m).2) (hq : AllEq W) (hst : ∀ i, i < 5 → (W.node i).stable ≤ (W.node i).log.length) (h : Tok W) : Tok (wdr W j m) := by
  obtain ⟨X, t, Y, hc, h1, h2⟩ := h
  have hE : (wdr W j m).epoch = W.epoch := rfl
  have hcf : (wdr W j m).conf = W.conf := rfl
  have ks : ∀ y : Int, (W.node y.toNat).stable = lenI W y → ((wdr W j m).node y.toNat).stable = lenI (wdr W j m) y := fun y hy => by
    rw [eq_len hI hC ht hq, wdr_node]
    by_cases e : y.toNat = j
    · rw [e, setF_same]
      unfold lenI at hy ⊢
      rw [e] at hy ⊢
      exact keep_stable hy (eq_logs hI hC ht hq)
    · rw [setF_ne _ _ e]; exact hy
  rcases h2 with rfl | ⟨X', a, rfl, mt, hm, k, f, tt, ep, hn⟩
  · exact ⟨[], t, Y, hc, fun y hy => ks y (h1 y hy), .inl rfl⟩
  rw [ht.way] at hm
  rcases List.mem_cons.1 hm with e | hm
  · subst e
    have hab : Adj W.conf a t := ⟨X', Y, by rw [hc]; simp⟩
    have hA := adj_node hI hC hab
    have hj : j = a.toNat := by rw [ht.dest (by rw [tt]; exact hA.ca.sm), tt]
    have hnl : mt.n = ((W.node j).log.length : Int) := by rw [hn, ← hq a t hab, hj]; rfl
    have hstp : stepN (W.node j) mt = (stabN (W.node j) mt.n, sendN (stabN (W.node j) mt.n) (-1) (plainMsg 4 (stabN (W.node j) mt.n).stable)) := by
      unfold stepN
      rw [if_pos ⟨by rw [ep, hj, hA.ca.ep], by rw [tt, hj, hA.ca.id]⟩, if_neg (by omega), if_neg (by omega), if_neg (by omega), if_pos ⟨k, by unfold isN; rw [hj, hA.dn, f]; simp, by omega, by omega⟩]
    have hs5 : (stabN (W.node j) mt.n).stable = lenI W a := by
      show (if (W.node j).stable < mt.n then mt.n else (W.node j).stable) = _
      have h3 := hst j ht.lt
      have h4 : lenI W a = ((W.node j).log.length : Int) := by rw [hj]; rfl
      split <;> omega
    have hna : ((wdr W j mt).node a.toNat).stable = lenI (wdr W j mt) a := by
      rw [eq_len hI hC ht hq, wdr_node, ← hj, setF_same, hstp]
      exact hs5
    refine ⟨X', a, t :: Y, by rw [hcf, hc]; simp, fun y hy => ?_, ?_⟩
    · rcases List.mem_cons.1 hy with rfl | hy
      · exact hna
      · exact ks y (h1 y hy)
    · cases hX : X'.reverse with
      | nil =>
        have : X' = [] := by simpa using hX
        exact .inl this
      | cons a' X'' =>
        have hX' : X' = X''.reverse ++ [a'] := by
          have := congrArg List.reverse hX
          simpa using this
        refine .inr ⟨X''.reverse, a', hX', ?_⟩
        have hab' : Adj W.conf a' a := ⟨X''.reverse, t :: Y, by rw [hc, hX']; simp⟩
        have hA' := adj_node hI hC hab'
        have hup : nbrN (stabN (W.node j) mt.n) (-1) = some a' := by
          show nbrN (W.node j) (-1) = some a'
          rw [hj]; exact hA'.up
        refine ⟨⟨4, a, a', W.epoch, lenI W a, zeroCmd⟩, ?_, rfl, rfl, rfl, rfl, (eq_len hI hC ht hq a).symm⟩
        rw [hw, hstp]
        refine List.mem_append_right _ ?_
        simp only
        unfold sendN
        rw [hup]
        have e1 : (stabN (W.node j) mt.n).id = a := by show (W.node j).id = a; rw [hj]; exact hA.ca.id
        have e2 : (stabN (W.node j) mt.n).epoch = W.epoch := by show (W.node j).epoch = _; rw [hj]; exact hA.ca.ep
        rw [e1, e2, hs5]
        simp [plainMsg]
  · refine ⟨X' ++ [a], t, Y, hc, fun y hy => ks y (h1 y hy), .inr ⟨X', a, rfl, mt, ?_, k, f, tt, ep, ?_⟩⟩
    · rw [hw]; exact List.mem_append_left _ hm
    · rw [eq_len hI hC ht hq]; exact hn
end
/-- What holds in a round that began with nothing under way. -/
structure Heal (W : WS) (l : Int → Nat) (q : Prop) : Prop where
  shape : Shape W l
  psi : (W.net.way.map (vee l)).sum ≤ 200
  link : ∀ a b, Adj W.conf a b → LinkOK W a b
  tok : q → AllEq W ∧ Tok W
theorem Heal.drain {W : WS} {n : Nat} {B : Int} {m : MsgD} {R : List MsgD} {j : Nat} {l : Int → Nat} {q : Prop} (h : Heal W l q) (hI : Inv W n B) (hC : Cfg W) (ht : Takes W m R j) (hn : n ≤ 110) (hst : ∀ i, i < 5 → (W.node i).stable ≤ (W.node i).log.length) : Heal (wdr W j m) l q := by
  have h1 := psi_step hI hC ht h.shape
  have h2 := h.psi
  rw [ht.way] at h2
  simp only [List.map_cons, List.sum_cons] at h2
  have h3 := vee_len l R
  have h4 := vee_len l (stepN (W.node j) m).2
  have hw := drain_way hI hC ht (by omega)
  refine ⟨h.shape.drain ht hw, ?_, fun a b hab => (h.link a b hab).drain hI hC ht hn hw hab, fun hq => ?_⟩
  · rw [hw, List.map_append, List.sum_append]; omega
  · obtain ⟨a, b⟩ := h.tok hq
    exact ⟨a.drain hI hC ht, b.drain hI hC ht hw a hst⟩
theorem Heal.done {W : WS} {l : Int → Nat} {q : Prop} (h : Heal W l q) (hw : W.net.way = []) : AllEq W ∧ (q → ∀ x ∈ W.conf, (W.node x.toNat).stable = lenI W x) := by
  refine ⟨fun a b hab => ?_, fun hq => ?_⟩
  · rcases h.link a b hab with ⟨m, hm, _⟩ | ⟨m, hm, _⟩ | e
    · rw [hw] at hm; simp at hm
    · rw [hw] at hm; simp at hm
    · rw [hw] at e
      exact e.symm
  · obtain ⟨X, t, Y, hc, h1, h2⟩ := (h.tok hq).2
    rcases h2 with rfl | ⟨_, _, _, m, hm, _⟩
    · intro x hx
      rw [hc] at hx
      exact h1 x (by simpa using hx)
    · rw [hw] at hm; simp at hm
end Go.Proofs.Ytefhgakcffhgaab
