/- It all comes down: who stands next to whom; what a step sends; how much is under way. Pure. -/
import Derived.Test.YtefhgakcffhgaabWa2
namespace Go.Proofs.Ytefhgakcffhgaab
open Go.RowKit Go.Lib Go.Maps

def Adj (c : List Int) (a b : Int) : Prop := ∃ X Y, c = X ++ a :: b :: Y
theorem firstX_split (x : Int) : ∀ (X Y : List Int), x ∉ X → firstX x (X ++ x :: Y) = some X.length
  | [], Y, _ => by simp [firstX]
  | y :: X, Y, h => by
    have h1 : x ≠ y := fun e => h (by simp [e])
    have ih := firstX_split x X Y (fun e => h (by simp [e]))
    rw [List.cons_append, firstX, if_neg h1, ih]; rfl
theorem place_split {s : NodeS} {x : Int} {X Y : List Int} (hi : s.id = x) (hn : s.nodes = X ++ x :: Y) (hd : s.nodes.Nodup) : placeN s = X.length := by
  have hx : x ∉ X := by
    rw [hn, List.nodup_append] at hd
    exact fun e => hd.2.2 x e x (by simp) rfl
  unfold placeN
  rw [hi, hn, firstX_split x X Y hx]
  rfl
theorem nbr_at {s : NodeS} {wh : Int} {k : Nat} (hp : 0 ≤ placeN s) (hk : placeN s + wh = k) (hl : k < s.nodes.length) : nbrN s wh = s.nodes[k]? := by
  unfold nbrN
  rw [if_pos (by simp [inN, hp]; omega), hk]
  simp
theorem nbr_ahead {s : NodeS} {a b : Int} {X Y : List Int} (hi : s.id = b) (hn : s.nodes = X ++ a :: b :: Y) (hd : s.nodes.Nodup) : nbrN s (-1) = some a := by
  have hp := place_split (X := X ++ [a]) (Y := Y) hi (by simp [hn]) hd
  have hp' : placeN s = X.length + 1 := by simpa using hp
  rw [nbr_at (k := X.length) (by omega) (by omega) (by rw [hn]; simp), hn]
  simp
theorem nbr_next {s : NodeS} {a b : Int} {X Y : List Int} (hi : s.id = a) (hn : s.nodes = X ++ a :: b :: Y) (hd : s.nodes.Nodup) : nbrN s 1 = some b := by
  have hp := place_split (X := X) (Y := b :: Y) hi hn hd
  rw [nbr_at (k := X.length + 1) (by omega) (by omega) (by rw [hn]; simp), hn]
  rw [List.getElem?_append_right (by omega)]
  simp
theorem nbr_cell {s : NodeS} {wh t : Int} (h : nbrN s wh = some t) : ∃ p k : Nat, placeN s = p ∧ s.nodes[p]? = some s.id ∧ placeN s + wh = k ∧ s.nodes[k]? = some t := by
  unfold nbrN at h
  split at h
  · rename_i e
    simp only [Bool.and_eq_true, decide_eq_true_eq] at e
    rcases placeN_cases s with e' | ⟨p, e', hp, _⟩
    · simp [inN, e'] at e
    · exact ⟨p, (placeN s + wh).toNat, e', hp, by omega, h⟩
  · cases h
theorem two_cells {l : List Int} {p : Nat} {a b : Int} (ha : l[p]? = some a) (hb : l[p + 1]? = some b) : ∃ X Y, l = X ++ a :: b :: Y := by
  have hl : p + 1 < l.length := (List.getElem?_eq_some_iff.1 hb).1
  rw [List.getElem?_eq_getElem (by omega)] at ha
  rw [List.getElem?_eq_getElem hl] at hb
  simp at ha hb
  refine ⟨l.take p, l.drop (p + 2), ?_⟩
  conv => lhs; rw [← List.take_append_drop p l]
  rw [List.drop_eq_getElem_cons (by omega), List.drop_eq_getElem_cons (by omega), ha, hb]
theorem nbr_adj_ahead {s : NodeS} {a : Int} (h : nbrN s (-1) = some a) : Adj s.nodes a s.id := by
  obtain ⟨p, k, h1, h2, h3, h4⟩ := nbr_cell h
  obtain rfl : p = k + 1 := by omega
  exact two_cells h4 h2
theorem nbr_adj_next {s : NodeS} {b : Int} (h : nbrN s 1 = some b) : Adj s.nodes s.id b := by
  obtain ⟨p, k, h1, h2, h3, h4⟩ := nbr_cell h
  obtain rfl : k = p + 1 := by omega
  exact two_cells h2 h4
theorem firstX_nodup {x : Int} {l : List Int} {k : Nat} (hd : l.Nodup) (h : l[k]? = some x) : firstX x l = some k := by
  refine firstX_at x l k (fun i y hi hy e => ?_) h
  subst e
  have h1 := List.getElem?_eq_some_iff.1 hy
  have h2 := List.getElem?_eq_some_iff.1 h
  obtain ⟨p1, q1⟩ := h1
  obtain ⟨p2, q2⟩ := h2
  exact (List.pairwise_iff_getElem.1 hd) i k p1 p2 hi (q1.trans q2.symm)
def posX (c : List Int) (x : Int) : Nat := (firstX x c).getD 0
theorem pos_lt {c : List Int} {x : Int} (h : c.length ≤ 5) : posX c x ≤ 4 := by
  unfold posX
  cases hf : firstX x c with
  | none => simp
  | some k =>
    have := (List.getElem?_eq_some_iff.1 (firstX_some _ _ _ hf)).1
    simp; omega
theorem pos_nbr {s : NodeS} {wh t : Int} (hd : s.nodes.Nodup) (h : nbrN s wh = some t) : (posX s.nodes t : Int) = posX s.nodes s.id + wh := by
  obtain ⟨p, k, h1, h2, h3, h4⟩ := nbr_cell h
  unfold posX
  rw [firstX_nodup hd h2, firstX_nodup hd h4]
  simp; omega

/-- All that live know the configuration. -/
def Cfg (W : WS) : Prop := ∀ i, i < 5 → W.down i = false → (W.node i).epoch = W.epoch ∧ (W.node i).nodes = W.conf
theorem sum_sends (f : MsgD → Nat) : ∀ (ms : List MsgD) (s : NetS), ((sends s ms).way.map f).sum ≤ (s.way.map f).sum + (ms.map f).sum
  | [], s => by simp [sends]
  | m :: ms, s => by
    have h := sum_sends f ms (send1 s m)
    have h1 : ((send1 s m).way.map f).sum ≤ (s.way.map f).sum + f m := by
      unfold send1
      split
      · simp
      · simp
    simp only [sends, List.map_cons, List.sum_cons]
    omega
theorem sends_room : ∀ (ms : List MsgD) (s : NetS), (∀ x ∈ ms, silentB s.down x = false) → s.way.length + ms.length ≤ 200 → (sends s ms).way = s.way ++ ms
  | [], s, _, _ => by simp [sends]
  | m :: ms, s, h, hl => by
    have e : send1 s m = ⟨s.way ++ [m], s.lost, s.down⟩ := by
      unfold send1
      rw [h m (by simp)]
      simp at hl
      rw [if_neg (by simp; omega)]
    rw [sends, e, sends_room ms ⟨s.way ++ [m], s.lost, s.down⟩ (fun x hx => h x (by simp [hx])) (by simp at hl ⊢; omega)]
    simp
/-- What a step comes to. -/
theorem step_kinds (s : NodeS) (m : MsgD) : stepN s m = (s, []) ∨ (m.epoch = s.epoch ∧ m.to = s.id ∧
    ((m.kind = 1 ∧ nbrN s (-1) = some m.frm ∧ stepN s m = (s, [⟨2, s.id, m.frm, s.epoch, s.log.length, zeroCmd⟩]))
    ∨ (m.kind = 2 ∧ nbrN s 1 = some m.frm ∧ 0 ≤ m.n ∧ stepN s m = (s, fwdL s m.frm m.n.toNat (s.log.length - m.n.toNat)))
    ∨ (m.kind = 3 ∧ nbrN s (-1) = some m.frm ∧ m.n = s.log.length ∧ stepN s m = growN s m.cmd)
    ∨ (m.kind = 4 ∧ nbrN s 1 = some m.frm ∧ 0 ≤ m.n ∧ m.n ≤ s.log.length ∧ stepN s m = (stabN s m.n, sendN (stabN s m.n) (-1) (plainMsg 4 (stabN s m.n).stable))))) := by
  by_cases h0 : m.epoch = s.epoch ∧ m.to = s.id
  · have e0 : stepN s m = stepN s m := rfl
    conv at e0 => rhs; unfold stepN; rw [if_pos h0]
    by_cases h1 : m.kind = 1 ∧ isN s (-1) m.frm = true
    · have hn := isN_nbr h1.2
      refine .inr ⟨h0.1, h0.2, .inl ⟨h1.1, hn, ?_⟩⟩
      rw [e0, if_pos h1, sendN, hn]; rfl
    rw [if_neg h1] at e0
    by_cases h2 : m.kind = 2 ∧ isN s 1 m.frm = true ∧ 0 ≤ m.n
    · have hn := isN_nbr h2.2.1
      refine .inr ⟨h0.1, h0.2, .inr (.inl ⟨h2.1, hn, h2.2.2, ?_⟩)⟩
      rw [e0, if_pos h2, haveN, hn]
    rw [if_neg h2] at e0
    by_cases h3 : m.kind = 3 ∧ isN s (-1) m.frm = true ∧ m.n = s.log.length ∧ s.log.length < 500
    · refine .inr ⟨h0.1, h0.2, .inr (.inr (.inl ⟨h3.1, isN_nbr h3.2.1, h3.2.2.1, ?_⟩))⟩
      rw [e0, if_pos h3]
    rw [if_neg h3] at e0
    by_cases h4 : m.kind = 4 ∧ isN s 1 m.frm = true ∧ 0 ≤ m.n ∧ m.n ≤ s.log.length
    · refine .inr ⟨h0.1, h0.2, .inr (.inr (.inr ⟨h4.1, isN_nbr h4.2.1, h4.2.2.1, h4.2.2.2, ?_⟩))⟩
      rw [e0, if_pos h4]
    rw [if_neg h4] at e0
    exact .inl e0
  · refine .inl ?_
    unfold stepN; rw [if_neg h0]
theorem sendN_nbr {s : NodeS} {wh : Int} {m x : MsgD} (h : x ∈ sendN s wh m) : nbrN s wh = some x.to := by
  unfold sendN at h
  cases hq : nbrN s wh with
  | none => rw [hq] at h; simp at h
  | some t => rw [hq] at h; simp at h; subst h; rfl
/-- What growing sends. -/
theorem grow_out {s : NodeS} {c : CmdD} {x : MsgD} (h : x ∈ (growN s c).2) : x.frm = s.id ∧ x.epoch = s.epoch ∧ (growN s c).2 = [x] ∧ ((tailN s = true ∧ x.kind = 4 ∧ nbrN s (-1) = some x.to ∧ x.n = s.log.length + 1) ∨ (tailN s = false ∧ x.kind = 3 ∧ nbrN s 1 = some x.to ∧ x.n = s.log.length)) := by
  have hl := grow_len s c
  have h1 : (growN s c).2 = [x] := by
    match hq : (growN s c).2, h, hl with
    | [y], h, _ => simp at h; rw [h]
    | y :: z :: l, _, hl => simp at hl
  refine ⟨?_, ?_, h1, ?_⟩
  · unfold growN at h
    split at h
    · have := (tick_msgs _ x h).1; exact this
    · simp only at h
      split at h
      · simp at h
      · simp at h; subst h; rfl
  · have := grow_ep s c x h; rw [grow_epoch] at this; exact this
  · unfold growN at h
    by_cases ht : tailN s = true
    · rw [if_pos ht] at h
      have ht' : tailN (logN s (s.log ++ [c])) = true := ht
      unfold tickN at h
      rw [if_pos ht'] at h
      obtain ⟨_, h2, h3, _⟩ := sendN_mem h
      refine .inl ⟨ht, h2, sendN_nbr h, ?_⟩
      rw [h3]
      show (((s.log ++ [c]).length : Nat) : Int) = _
      simp
    · rw [if_neg ht] at h
      simp only at h
      refine .inr ⟨by simpa using ht, ?_⟩
      split at h
      · simp at h
      · rename_i t hq
        simp at h; subst h
        exact ⟨rfl, hq, rfl⟩
/-- What a step tells of each kind. -/
theorem step_out {s : NodeS} {m x : MsgD} (h : x ∈ (stepN s m).2) : x.frm = s.id ∧ x.epoch = s.epoch ∧ m.epoch = s.epoch ∧ m.to = s.id ∧
    ((m.kind = 1 ∧ x.kind = 2 ∧ x.to = m.frm ∧ nbrN s (-1) = some x.to ∧ x.n = s.log.length) ∨ (m.kind = 2 ∧ x.kind = 3 ∧ x.to = m.frm ∧ nbrN s 1 = some x.to)
    ∨ (m.kind = 3 ∧ nbrN s (-1) = some m.frm ∧ x ∈ (growN s m.cmd).2) ∨ (m.kind = 4 ∧ x.kind = 4 ∧ nbrN s (-1) = some x.to)) := by
  rcases step_kinds s m with e | ⟨h1, h2, ⟨k, hn, e⟩ | ⟨k, hn, h0, e⟩ | ⟨k, hn, h0, e⟩ | ⟨k, hn, h0, h0', e⟩⟩
  · rw [e] at h; simp at h
  · rw [e] at h; simp at h; subst h
    exact ⟨rfl, rfl, h1, h2, .inl ⟨k, rfl, rfl, hn, rfl⟩⟩
  · rw [e] at h
    unfold fwdL at h
    obtain ⟨j, _, rfl⟩ := List.mem_map.1 h
    exact ⟨rfl, rfl, h1, h2, .inr (.inl ⟨k, rfl, rfl, hn⟩)⟩
  · rw [e] at h
    obtain ⟨a, b, _⟩ := grow_out h
    exact ⟨a, b, h1, h2, .inr (.inr (.inl ⟨k, hn, h⟩))⟩
  · rw [e] at h
    obtain ⟨a, b, _⟩ := sendN_mem h
    exact ⟨a, sendN_ep h, h1, h2, .inr (.inr (.inr ⟨k, b, sendN_nbr h⟩))⟩
theorem step_cfg (s : NodeS) (m : MsgD) : (stepN s m).1.id = s.id ∧ (stepN s m).1.epoch = s.epoch ∧ (stepN s m).1.nodes = s.nodes := by
  rcases step_kinds s m with e | ⟨h1, h2, ⟨k, hn, e⟩ | ⟨k, hn, h0, e⟩ | ⟨k, hn, h0, e⟩ | ⟨k, hn, h0, h0', e⟩⟩
  · rw [e]; exact ⟨rfl, rfl, rfl⟩
  · rw [e]; exact ⟨rfl, rfl, rfl⟩
  · rw [e]; exact ⟨rfl, rfl, rfl⟩
  · rw [e]; exact ⟨grow_id _ _, grow_epoch _ _, grow_nodes _ _⟩
  · rw [e]; exact ⟨rfl, rfl, rfl⟩
theorem step_log {s : NodeS} {m : MsgD} (h : m.kind ≠ 3) : (stepN s m).1.log = s.log := by
  rcases step_kinds s m with e | ⟨h1, h2, ⟨k, hn, e⟩ | ⟨k, hn, h0, e⟩ | ⟨k, hn, h0, e⟩ | ⟨k, hn, h0, h0', e⟩⟩
  · rw [e]
  · rw [e]
  · rw [e]
  · exact absurd k h
  · rw [e]; rfl
theorem step_log3 {s : NodeS} {m : MsgD} : (stepN s m).1.log = s.log ∨ (m.kind = 3 ∧ m.epoch = s.epoch ∧ m.to = s.id ∧ nbrN s (-1) = some m.frm ∧ m.n = s.log.length ∧ stepN s m = growN s m.cmd) := by
  rcases step_kinds s m with e | ⟨h1, h2, ⟨k, hn, e⟩ | ⟨k, hn, h0, e⟩ | ⟨k, hn, h0, e⟩ | ⟨k, hn, h0, h0', e⟩⟩
  · rw [e]; exact .inl rfl
  · rw [e]; exact .inl rfl
  · rw [e]; exact .inl rfl
  · exact .inr ⟨k, h1, h2, hn, h0, e⟩
  · rw [e]; exact .inl rfl
/-- How many steps a message may still bring. -/
def phi (c : List Int) (E : Int) (m : MsgD) : Nat :=
  if m.epoch = E then (if m.kind = 1 then 1212 else if m.kind = 2 then 1211 else if m.kind = 3 then 6 + (5 - posX c m.to) else if m.kind = 4 then posX c m.to + 1 else 1) else 1
theorem phi_pos (c : List Int) (E : Int) (m : MsgD) : 1 ≤ phi c E m := by
  unfold phi
  split
  · split
    · omega
    split
    · omega
    split
    · omega
    split <;> omega
  · omega
theorem phi_most (c : List Int) (E : Int) (m : MsgD) (hc : c.length ≤ 5) : phi c E m ≤ 1212 := by
  have := pos_lt (x := m.to) hc
  unfold phi
  split
  · split
    · omega
    split
    · omega
    split
    · omega
    split <;> omega
  · omega
theorem sum_le_mul {l : List MsgD} {f : MsgD → Nat} {k : Nat} (h : ∀ x ∈ l, f x ≤ k) : (l.map f).sum ≤ l.length * k := by
  induction l with
  | nil => simp
  | cons x l ih =>
    have h1 := h x (by simp)
    have h2 := ih (fun y hy => h y (by simp [hy]))
    simp only [List.map_cons, List.sum_cons, List.length_cons, Nat.add_mul, Nat.one_mul]
    omega
theorem phi_step {s : NodeS} {m : MsgD} {c : List Int} {E : Int} (hc : c.length ≤ 5) (hn : s.nodes = c) (hE : s.epoch = E) (hd : c.Nodup) (hl : s.log.length ≤ 110) : ((stepN s m).2.map (phi c E)).sum + 1 ≤ phi c E m := by
  subst hn hE
  rcases step_kinds s m with e | ⟨h1, h2, ⟨k, hn, e⟩ | ⟨k, hn, h0, e⟩ | ⟨k, hn, h0, e⟩ | ⟨k, hn, h0, h0', e⟩⟩
  · rw [e]; have := phi_pos s.nodes s.epoch m; simpa using this
  · rw [e]
    simp [phi, h1, k]
  · have h3 := sum_le_mul (l := (stepN s m).2) (f := phi s.nodes s.epoch) (k := 11) (fun x hx => by
      rw [e] at hx
      unfold fwdL at hx
      obtain ⟨j, _, rfl⟩ := List.mem_map.1 hx
      have := pos_lt (x := m.frm) hc
      simp [phi, fwdM]
      omega)
    have h4 : (stepN s m).2.length ≤ 110 := by rw [e]; simp [fwdL]; omega
    have h5 : phi s.nodes s.epoch m = 1211 := by simp [phi, h1, k]
    omega
  · have h5 : phi s.nodes s.epoch m = 6 + (5 - posX s.nodes s.id) := by simp [phi, h1, k, h2]
    have h6 := pos_lt (x := s.id) hc
    rw [h5]
    have h7 : ((stepN s m).2.map (phi s.nodes s.epoch)).sum ≤ 5 + (5 - posX s.nodes s.id) := by
      cases hq : (stepN s m).2 with
      | nil => simp
      | cons x l =>
        rw [e] at hq
        have hx : x ∈ (growN s m.cmd).2 := by rw [hq]; simp
        obtain ⟨_, b, c', d⟩ := grow_out hx
        rw [hq] at c'
        simp at c'
        subst c'
        simp
        rcases d with ⟨_, k', n', _⟩ | ⟨_, k', n', _⟩
        · have := pos_lt (x := x.to) hc
          simp [phi, b, k']
          omega
        · have := pos_nbr hd n'
          have := pos_lt (x := x.to) hc
          simp [phi, b, k']
          omega
    omega
  · have h5 : phi s.nodes s.epoch m = posX s.nodes s.id + 1 := by simp [phi, h1, k, h2]
    rw [h5, e]
    have : ((sendN (stabN s m.n) (-1) (plainMsg 4 (stabN s m.n).stable)).map (phi s.nodes s.epoch)).sum ≤ posX s.nodes s.id := by
      unfold sendN
      split
      · simp
      · rename_i t hq
        have hq' : nbrN s (-1) = some t := hq
        have := pos_nbr hd hq'
        simp [phi, plainMsg, stabN, stableN]
        omega
    simp only
    omega
end Go.Proofs.Ytefhgakcffhgaab
