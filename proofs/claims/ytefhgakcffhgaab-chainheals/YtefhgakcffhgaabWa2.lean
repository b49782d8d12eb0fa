/- What is done to the chain keeps what holds of it. Pure. -/
import Derived.Test.YtefhgakcffhgaabWa
namespace Go.Proofs.Ytefhgakcffhgaab
open Go.RowKit Go.Lib Go.Maps

theorem tick_id (s : NodeS) : (tickN s).1.id = s.id := by unfold tickN; split <;> rfl
theorem tick_log (s : NodeS) : (tickN s).1.log = s.log := by unfold tickN; split <;> rfl
theorem tick_nodes (s : NodeS) : (tickN s).1.nodes = s.nodes := by unfold tickN; split <;> rfl
theorem tick_epoch (s : NodeS) : (tickN s).1.epoch = s.epoch := by unfold tickN; split <;> rfl
theorem tick_in (s : NodeS) : inN (tickN s).1 = inN s := by unfold inN placeN; rw [tick_id, tick_nodes]
theorem sendN_mem {s : NodeS} {wh : Int} {m x : MsgD} (h : x ∈ sendN s wh m) : x.frm = s.id ∧ x.kind = m.kind ∧ x.n = m.n ∧ x.cmd = m.cmd ∧ (sendN s wh m).length = 1 := by
  unfold sendN at h ⊢
  cases hq : nbrN s wh with
  | none => rw [hq] at h; simp at h
  | some t => rw [hq] at h; simp at h; subst h; simp
theorem sendN_ep {s : NodeS} {wh : Int} {m x : MsgD} (h : x ∈ sendN s wh m) : x.epoch = s.epoch := by
  unfold sendN at h
  cases hq : nbrN s wh with
  | none => rw [hq] at h; simp at h
  | some t => rw [hq] at h; simp at h; subst h; rfl
theorem sendN_len (s : NodeS) (wh : Int) (m : MsgD) : (sendN s wh m).length ≤ 1 := by
  unfold sendN; split <;> simp
theorem tick_msgs (s : NodeS) : ∀ m ∈ (tickN s).2, m.frm = s.id ∧ m.cmd.writes = [] ∧ (m.kind = 3 → False) := by
  intro m hm
  unfold tickN at hm
  split at hm
  · obtain ⟨h1, h2, _, h4, _⟩ := sendN_mem hm
    exact ⟨h1, by rw [h4]; rfl, fun e => by rw [h2] at e; simp [plainMsg] at e⟩
  · obtain ⟨h1, h2, _, h4, _⟩ := sendN_mem hm
    exact ⟨h1, by rw [h4]; rfl, fun e => by rw [h2] at e; simp [plainMsg] at e⟩
theorem tick_ep (s : NodeS) : ∀ m ∈ (tickN s).2, m.epoch = (tickN s).1.epoch := by
  intro m hm
  unfold tickN at hm ⊢
  split
  · rename_i e; rw [if_pos e] at hm; exact sendN_ep hm
  · rename_i e; rw [if_neg e] at hm; exact sendN_ep hm
theorem tick_len (s : NodeS) : (tickN s).2.length ≤ 1 := by
  unfold tickN; split <;> exact sendN_len _ _ _
theorem Inv.tick {W : WS} {n : Nat} {B : Int} (h : Inv W n B) {i : Nat} (hi : i < 5) : Inv (wnode W i (tickN (W.node i))) n (B + 1) := by
  have hj := h.each i hi
  refine h.node hi (Nat.le_refl _) (tickN (W.node i)).1 (tickN (W.node i)).2 (by rw [tick_id]; exact hj.ident) (by rw [tick_log]; exact List.prefix_refl _) (by rw [tick_in, tick_log]; exact hj.out) (.inl ⟨tick_nodes _, tick_epoch _⟩) (by rw [tick_log]; exact hj.bare) (by rw [tick_log]; exact hj.len) (.inr (.inl (tick_log _))) (fun m hm => ?_) (tick_ep _) (by have := tick_len (W.node i); omega)
  obtain ⟨h1, h2, h3⟩ := tick_msgs _ m hm
  exact ⟨by rw [h1]; exact hj.ident, h2, fun e => (h3 e).elim⟩
theorem bec_log {s : NodeS} {ep : Int} {ns : List Int} (h : inN s = false → s.log = []) : (becN s ep ns).log = s.log := by
  unfold becN
  split
  · rename_i e
    simp only [Bool.and_eq_true, Bool.not_eq_true'] at e
    rw [h e.1]
  · rfl
theorem bec_rest (s : NodeS) (ep : Int) (ns : List Int) : (becN s ep ns).id = s.id ∧ (becN s ep ns).nodes = ns ∧ (becN s ep ns).epoch = ep := by
  unfold becN; split <;> exact ⟨rfl, rfl, rfl⟩
/-- Who is not down, and is not in the configuration, was in none. -/
theorem Inv.away {W : WS} {n : Nat} {B : Int} (h : Inv W n B) {i : Nat} (hi : i < 5) (hd : W.down i = false) (ho : (i : Int) ∉ W.conf) : inN (W.node i) = false := by
  cases hq : inN (W.node i) with
  | false => rfl
  | true =>
    exfalso
    have hm := mem_of_inN hq
    rw [(h.each i hi).ident] at hm
    have := (h.each i hi).own hd hq
    exact ho (this.subset (List.mem_filter.2 ⟨hm, by simp [liveB, hd]⟩))
theorem Inv.bec {W : WS} {n : Nat} {B : Int} (h : Inv W n B) {i : Nat} (hi : i < 5) : Inv (wbec W i) n (B + 1) := by
  have hj := h.each i hi
  have up : Inv W n (B + 1) := ⟨h.each, h.nodup, h.conf, h.some_, h.ahead, h.msgs, h.dn, by have := h.lo; omega, h.ep, h.ndn, h.old⟩
  unfold wbec
  split
  · exact up
  rename_i hd
  have hd : W.down i = false := by simpa using hd
  split
  · exact up
  rename_i hle
  obtain ⟨r1, r2, r3⟩ := bec_rest (W.node i) W.epoch W.conf
  have r4 := bec_log (s := W.node i) (ep := W.epoch) (ns := W.conf) hj.out
  refine h.node hi (Nat.le_refl _) (tickN (becN (W.node i) W.epoch W.conf)).1 (tickN (becN (W.node i) W.epoch W.conf)).2 (by rw [tick_id, r1]; exact hj.ident) (by rw [tick_log, r4]; exact List.prefix_refl _) ?_ (.inr ⟨by rw [tick_nodes, r2], by rw [tick_epoch, r3], hd⟩) (by rw [tick_log, r4]; exact hj.bare) (by rw [tick_log, r4]; exact hj.len) (.inr (.inl (by rw [tick_log, r4]))) (fun m hm => ?_) (tick_ep _) (by have := tick_len (becN (W.node i) W.epoch W.conf); omega)
  · rw [tick_in, tick_log, r4]
    intro e
    refine hj.out (h.away hi hd (fun hm => ?_))
    have : inN (becN (W.node i) W.epoch W.conf) = true := inN_of_mem (by rw [r1, r2, hj.ident]; exact hm)
    rw [this] at e; cases e
  · obtain ⟨h1, h2, h3⟩ := tick_msgs _ m hm
    exact ⟨by rw [h1, r1]; exact hj.ident, h2, fun e => (h3 e).elim⟩
theorem grow_id (s : NodeS) (c : CmdD) : (growN s c).1.id = s.id := by
  unfold growN
  split
  · rw [tick_id]; rfl
  · rfl
theorem grow_log (s : NodeS) (c : CmdD) : (growN s c).1.log = s.log ++ [c] := by
  unfold growN
  split
  · rw [tick_log]; rfl
  · rfl
theorem grow_nodes (s : NodeS) (c : CmdD) : (growN s c).1.nodes = s.nodes := by
  unfold growN
  split
  · rw [tick_nodes]; rfl
  · rfl
theorem grow_epoch (s : NodeS) (c : CmdD) : (growN s c).1.epoch = s.epoch := by
  unfold growN
  split
  · rw [tick_epoch]; rfl
  · rfl
theorem grow_in (s : NodeS) (c : CmdD) : inN (growN s c).1 = inN s := by unfold inN placeN; rw [grow_id, grow_nodes]
theorem grow_msgs (s : NodeS) (c : CmdD) (hc : c.writes = []) : ∀ m ∈ (growN s c).2, m.frm = s.id ∧ m.cmd.writes = [] ∧ (m.kind = 3 → ∃ N : Nat, m.n = N ∧ (growN s c).1.log[N]? = some m.cmd) := by
  intro m hm
  rw [grow_log]
  unfold growN at hm
  split at hm
  · obtain ⟨h1, h2, h3⟩ := tick_msgs _ m hm
    exact ⟨h1, h2, fun e => (h3 e).elim⟩
  · simp only at hm
    split at hm
    · simp at hm
    · simp at hm
      subst hm
      exact ⟨rfl, hc, fun _ => ⟨s.log.length, rfl, by simp [fwdM]⟩⟩
theorem grow_ep (s : NodeS) (c : CmdD) : ∀ m ∈ (growN s c).2, m.epoch = (growN s c).1.epoch := by
  intro m hm
  rw [grow_epoch]
  unfold growN at hm
  split at hm
  · have := tick_ep _ m hm; rw [tick_epoch] at this; exact this
  · simp only at hm
    split at hm
    · simp at hm
    · simp at hm; subst hm; rfl
theorem grow_len (s : NodeS) (c : CmdD) : (growN s c).2.length ≤ 1 := by
  unfold growN; split
  · exact tick_len _
  · simp only; split <;> simp
/-- A node that is in a chain gets one command more, which all ahead of it have. -/
theorem Inv.grow {W : WS} {n : Nat} {B : Int} (h : Inv W n B) {i : Nat} (hi : i < 5) (hin : inN (W.node i) = true) (c : CmdD) (hc : c.writes = [])
    (hp : (i : Int) ∉ W.conf ∨ ∃ X Y, W.conf = X ++ (i : Int) :: Y ∧ ∀ x ∈ X, (W.node i).log ++ [c] <+: (W.node x.toNat).log) : Inv (wnode W i (growN (W.node i) c)) (n + 1) (B + 1) := by
  have hj := h.each i hi
  refine h.node hi (Nat.le_succ _) (growN (W.node i) c).1 (growN (W.node i) c).2 (by rw [grow_id]; exact hj.ident) (by rw [grow_log]; exact List.prefix_append _ _) (by rw [grow_in, hin]; intro e; cases e) (.inl ⟨grow_nodes _ _, grow_epoch _ _⟩) (by
      rw [grow_log]; intro x hx
      rcases List.mem_append.1 hx with hx | hx
      · exact hj.bare x hx
      · simp at hx; subst hx; exact hc) (by rw [grow_log]; have := hj.len; simp; omega) ?_ (fun m hm => ?_) (grow_ep _ _) (by have := grow_len (W.node i) c; omega)
  · rw [grow_log]
    rcases hp with hp | hp
    · exact .inl hp
    · exact .inr (.inr hp)
  · obtain ⟨h1, h2, h3⟩ := grow_msgs _ c hc m hm
    exact ⟨by rw [h1]; exact hj.ident, h2, h3⟩
theorem place_at {s : NodeS} {k : Nat} (h : placeN s = k) : s.nodes[k]? = some s.id := by
  rcases placeN_cases s with e | ⟨j, e, hj, _⟩
  · omega
  · have : j = k := by omega
    subst this; exact hj
/-- The head stands first. -/
theorem Inv.first {W : WS} {n : Nat} {B : Int} (h : Inv W n B) {i : Nat} (hi : i < 5) (hd : W.down i = false) (hh : headN (W.node i) = true) : inN (W.node i) = true ∧ ∃ Y, W.conf = (i : Int) :: Y := by
  have hp : placeN (W.node i) = ((0 : Nat) : Int) := by simpa [headN] using hh
  have hin : inN (W.node i) = true := by simp [inN, hp]
  refine ⟨hin, ?_⟩
  have h0 := place_at hp
  rw [(h.each i hi).ident] at h0
  have ho := (h.each i hi).own hd hin
  cases hn : (W.node i).nodes with
  | nil => rw [hn] at h0; simp at h0
  | cons x l =>
    rw [hn] at h0 ho
    simp at h0; subst h0
    rw [List.filter_cons, if_pos (by simp [liveB, hd])] at ho
    obtain ⟨t, ht⟩ := ho
    exact ⟨_, by rw [← ht]; rfl⟩
/-- The one ahead of a node stands just ahead of it. -/
theorem Inv.next {W : WS} {n : Nat} {B : Int} (h : Inv W n B) {i : Nat} (hi : i < 5) (hd : W.down i = false) {a : Int} (hb : isN (W.node i) (-1) a = true) (ha : W.down a.toNat = false) : ∃ X Y, W.conf = X ++ a :: (i : Int) :: Y := by
  have hin := isN_in hb
  have hn := isN_nbr hb
  unfold nbrN at hn
  split at hn
  · rename_i e
    simp only [Bool.and_eq_true, decide_eq_true_eq] at e
    rcases placeN_cases (W.node i) with e' | ⟨k, e', hk, _⟩
    · omega
    · obtain ⟨p, rfl⟩ : ∃ p, k = p + 1 := ⟨k - 1, by omega⟩
      have e2 : (placeN (W.node i) + -1).toNat = p := by omega
      rw [e2] at hn
      rw [(h.each i hi).ident] at hk
      have hl : p + 1 < (W.node i).nodes.length := (List.getElem?_eq_some_iff.1 hk).1
      have hs : (W.node i).nodes = (W.node i).nodes.take p ++ a :: (i : Int) :: (W.node i).nodes.drop (p + 2) := by
        rw [List.getElem?_eq_getElem (by omega)] at hn
        rw [List.getElem?_eq_getElem hl] at hk
        simp at hn hk
        conv => lhs; rw [← List.take_append_drop p (W.node i).nodes]
        rw [List.drop_eq_getElem_cons (by omega), List.drop_eq_getElem_cons (by omega), hn, hk]
      have ho := (h.each i hi).own hd hin
      rw [hs, List.filter_append, List.filter_cons, if_pos (by simp [liveB, ha]), List.filter_cons, if_pos (by simp [liveB, hd])] at ho
      obtain ⟨t, ht⟩ := ho
      exact ⟨((W.node i).nodes.take p).filter (liveB W), ((W.node i).nodes.drop (p + 2)).filter (liveB W) ++ t, by rw [← ht]; simp⟩
  · cases hn
theorem Inv.add {W : WS} {n : Nat} {B : Int} (h : Inv W n B) {i : Nat} (hi : i < 5) (hd : W.down i = false) (hh : headN (W.node i) = true) (c : CmdD) (hc : c.writes = []) : Inv (wnode W i (growN (W.node i) c)) (n + 1) (B + 1) := by
  obtain ⟨h1, Y, h2⟩ := h.first hi hd hh
  exact h.grow hi h1 c hc (.inr ⟨[], Y, h2, by simp⟩)
theorem Inv.more {W : WS} {n n' : Nat} {B B' : Int} (h : Inv W n B) (hn : n ≤ n') (hB : B ≤ B') : Inv W n' B' :=
  ⟨fun i hi => ⟨(h.each i hi).ident, (h.each i hi).out, (h.each i hi).nodes, (h.each i hi).own, (h.each i hi).was, (h.each i hi).bare, Nat.le_trans (h.each i hi).len hn, (h.each i hi).ep⟩, h.nodup, h.conf, h.some_, h.ahead, h.msgs, h.dn, by have := h.lo; omega, ⟨h.ep.1, by have := h.ep.2; omega⟩, Nat.le_trans h.ndn hn, h.old⟩
/-- A node that only tells something. -/
theorem Inv.says {W : WS} {n : Nat} {B : Int} (h : Inv W n B) {i : Nat} (hi : i < 5) (s : NodeS) (hs : s = W.node i ∨ ∃ k, s = stableN (W.node i) k) (ms : List MsgD) (hms : ∀ m ∈ ms, m.frm = i ∧ m.cmd.writes = [] ∧ (m.kind = 3 → ∃ N : Nat, m.n = N ∧ (W.node i).log[N]? = some m.cmd)) (hme : ∀ m ∈ ms, m.epoch = (W.node i).epoch) {B' : Int} (hB : B + ms.length ≤ B') : Inv (wnode W i (s, ms)) n B' := by
  have hj := h.each i hi
  have e : s.id = (W.node i).id ∧ s.log = (W.node i).log ∧ s.nodes = (W.node i).nodes ∧ s.epoch = (W.node i).epoch := by
    rcases hs with rfl | ⟨k, rfl⟩ <;> exact ⟨rfl, rfl, rfl, rfl⟩
  obtain ⟨e1, e2, e3, e4⟩ := e
  have e5 : inN s = inN (W.node i) := by unfold inN placeN; rw [e1, e3]
  exact h.node hi (Nat.le_refl _) s ms (by rw [e1]; exact hj.ident) (by rw [e2]; exact List.prefix_refl _) (by rw [e5, e2]; exact hj.out) (.inl ⟨e3, e4⟩) (by rw [e2]; exact hj.bare) (by rw [e2]; exact hj.len) (.inr (.inl e2)) (by rw [e2]; exact hms) (by rw [e4]; exact hme) hB
theorem Inv.drop {W : WS} {n : Nat} {B : Int} (h : Inv W n B) (k : Nat) : Inv (wnet W (dropS W.net k)) n B :=
  ⟨fun i hi => ⟨(h.each i hi).ident, (h.each i hi).out, (h.each i hi).nodes, (h.each i hi).own, (h.each i hi).was, (h.each i hi).bare, (h.each i hi).len, (h.each i hi).ep⟩, h.nodup, h.conf, h.some_, h.ahead, fun m hm => h.msgs m (List.mem_of_mem_eraseIdx hm), h.dn, h.lo, h.ep, h.ndn, fun m hm => h.old m (List.mem_of_mem_eraseIdx hm)⟩
theorem Inv.lose {W : WS} {n : Nat} {B : Int} (h : Inv W n B) (k : Nat) : Inv (wnet W (loseS W.net k)) n (B + 1) :=
  ⟨fun i hi => ⟨(h.each i hi).ident, (h.each i hi).out, (h.each i hi).nodes, (h.each i hi).own, (h.each i hi).was, (h.each i hi).bare, (h.each i hi).len, (h.each i hi).ep⟩, h.nodup, h.conf, h.some_, h.ahead, fun m hm => h.msgs m (List.mem_of_mem_eraseIdx hm), h.dn, by have := h.lo; simp only [wnet, loseS]; omega, h.ep, h.ndn, fun m hm => h.old m (List.mem_of_mem_eraseIdx hm)⟩
theorem Inv.twice {W : WS} {n : Nat} {B : Int} (h : Inv W n B) {m : MsgD} (hm : m ∈ W.net.way) : Inv (wnet W (send1 W.net m)) n (B + 1) := by
  refine ⟨fun i hi => ⟨(h.each i hi).ident, (h.each i hi).out, (h.each i hi).nodes, (h.each i hi).own, (h.each i hi).was, (h.each i hi).bare, (h.each i hi).len, (h.each i hi).ep⟩, h.nodup, h.conf, h.some_, h.ahead, fun x hx => ?_, ?_, ?_, h.ep, ?_, fun x hx => ?_⟩
  · rcases mem_sends [m] W.net x hx with hx | ⟨hx, _⟩
    · exact h.msgs x hx
    · simp at hx; subst hx; exact h.msgs x hm
  · simp only [wnet, send1_down]; exact h.dn
  · have := (send1_lost W.net m).2; have := h.lo; simp only [wnet]; omega
  · simp only [wnet, send1_down]; exact h.ndn
  · show x.epoch ≤ W.epoch ∧ silentB (send1 W.net m).down x = false
    rw [send1_down]
    rcases mem_sends [m] W.net x hx with hx | ⟨hx, _⟩
    · exact h.old x hx
    · simp at hx; subst hx; exact h.old x hm
theorem fwdL_mem {s : NodeS} {t : Int} {f n : Nat} {m : MsgD} (h : m ∈ fwdL s t f n) (hn : f + n ≤ s.log.length) : m.frm = s.id ∧ ∃ N : Nat, m.n = N ∧ s.log[N]? = some m.cmd := by
  unfold fwdL at h
  obtain ⟨j, hj, rfl⟩ := List.mem_map.1 h
  have hj : j < n := List.mem_range.1 hj
  refine ⟨rfl, f + j, rfl, ?_⟩
  rw [List.getElem?_eq_getElem (by omega)]
  simp [fwdM, List.getD_eq_getElem?_getD, List.getElem?_eq_getElem (show f + j < s.log.length by omega)]
/-- A node is brought a message that was under way. -/
theorem Inv.step {W : WS} {n : Nat} {B : Int} (h : Inv W n B) {i : Nat} (hi : i < 5) {m : MsgD} (hok : okMsg W.node m) (hd : W.down m.frm.toNat = false) (hn : (n : Int) ≤ 400) : Inv (wnode W i (stepN (W.node i) m)) (n + 1) (B + 500) := by
  have hj := h.each i hi
  have none_ : Inv (wnode W i (W.node i, [])) (n + 1) (B + 500) := (h.says hi (W.node i) (.inl rfl) [] (by simp) (by simp) (B' := B + 500) (by simp; omega)).more (Nat.le_succ _) (Int.le_refl _)
  unfold stepN
  split
  · split
    · refine (h.says hi (W.node i) (.inl rfl) _ (fun x hx => ?_) (fun x hx => ?_) (B' := B + 500) ?_).more (Nat.le_succ _) (Int.le_refl _)
      · obtain ⟨h1, h2, _, h4, _⟩ := sendN_mem hx
        exact ⟨by rw [h1]; exact hj.ident, by rw [h4]; rfl, fun e => by rw [h2] at e; simp [plainMsg] at e⟩
      · exact sendN_ep hx
      · have := sendN_len (W.node i) (-1) (plainMsg 2 (W.node i).log.length); omega
    · split
      · refine (h.says hi (W.node i) (.inl rfl) _ (fun x hx => ?_) (fun x hx => ?_) (B' := B + 500) ?_).more (Nat.le_succ _) (Int.le_refl _)
        · unfold haveN at hx
          split at hx
          · simp at hx
          · by_cases hf : m.n.toNat ≤ (W.node i).log.length
            · obtain ⟨h1, N, h2, h3⟩ := fwdL_mem hx (by omega)
              exact ⟨by rw [h1]; exact hj.ident, hj.bare _ (List.mem_of_getElem? h3), fun _ => ⟨N, h2, h3⟩⟩
            · have : (W.node i).log.length - m.n.toNat = 0 := by omega
              rw [this] at hx; simp [fwdL] at hx
        · unfold haveN at hx
          split at hx
          · simp at hx
          · unfold fwdL at hx
            obtain ⟨j, _, rfl⟩ := List.mem_map.1 hx
            rfl
        · have : (haveN (W.node i) m.n).length ≤ (W.node i).log.length := by
            unfold haveN; split
            · simp
            · simp [fwdL]
          have := hj.len; omega
      · split
        · rename_i hk
          obtain ⟨hk, hb, hN, _⟩ := hk
          have hin := isN_in hb
          obtain ⟨hw, hs, hl⟩ := hok
          obtain ⟨N, h1, h2⟩ := hl hk
          have h3 : N = (W.node i).log.length := by omega
          subst h3
          refine (h.grow hi hin m.cmd hw ?_).more (Nat.le_refl _) (by omega)
          by_cases hdi : W.down i = false
          · obtain ⟨X, Y, hc⟩ := h.next hi hdi hb hd
            refine .inr ⟨X ++ [m.frm], Y, by rw [hc]; simp, ?_⟩
            have hpa := h.ahead
            rw [hc, List.pairwise_append] at hpa
            obtain ⟨_, p2, p3⟩ := hpa
            rw [List.pairwise_cons] at p2
            have ei : ((i : Int)).toNat = i := by omega
            have q1 : (W.node i).log <+: (W.node m.frm.toNat).log := by have := p2.1 (i : Int) (by simp); unfold Ahead at this; rw [ei] at this; exact this
            have q2 := prefix_snoc q1 h2
            intro x hx
            rcases List.mem_append.1 hx with hx | hx
            · have := p3 x hx m.frm (by simp)
              exact q2.trans this
            · simp at hx; subst hx; exact q2
          · refine .inl (fun hm => hdi ?_)
            have := (h.conf _ hm).2.1
            have ei : ((i : Int)).toNat = i := by omega
            rwa [ei] at this
        · split
          · refine (h.says hi _ (.inr ⟨_, rfl⟩) _ (fun x hx => ?_) (fun x hx => by have := sendN_ep hx; exact this) (B' := B + 500) ?_).more (Nat.le_succ _) (Int.le_refl _)
            · obtain ⟨h1, h2, _, h4, _⟩ := sendN_mem hx
              exact ⟨by rw [h1]; exact hj.ident, by rw [h4]; rfl, fun e => by rw [h2] at e; simp [plainMsg] at e⟩
            · have := sendN_len (stabN (W.node i) m.n) (-1) (plainMsg 4 (stabN (W.node i) m.n).stable); omega
          · exact none_
  · exact none_
theorem filter_mono {W W' : WS} (h : ∀ k, W.down k = true → W'.down k = true) (l : List Int) : (l.filter (liveB W)).filter (liveB W') = l.filter (liveB W') := by
  rw [List.filter_filter]
  refine List.filter_congr (fun x _ => ?_)
  cases hq : W.down x.toNat with
  | false => simp [liveB, hq]
  | true => simp [liveB, hq, h _ hq]
theorem confF_live (W : WS) : confF W (-1) = W.conf.filter (liveB W) := by simp [confF]
/-- A node goes down, and the configuration is one of those that live. -/
theorem Inv.downs {W : WS} {n : Nat} {B : Int} (h : Inv W n B) {i : Nat} (hi : i < 5) (hne : (wfix (wdown W i) (-1)).conf ≠ []) : Inv (wfix (wdown W i) (-1)) (n + 1) (B + 200 + W.net.way.length) := by
  have hdn : ∀ k, W.down k = true → (wdown W i).down k = true := fun k hk => by simp only [wdown, setF]; split <;> simp [hk]
  have hc : (wfix (wdown W i) (-1)).conf = W.conf.filter (liveB (wdown W i)) := confF_live _
  refine ⟨fun j hj => ?_, ?_, fun x hx => ?_, hne, ?_, fun m hm => ?_, fun j hj => ?_, ?_, ?_, ?_, fun m hm => ?_⟩
  · have hj' := h.each j hj
    refine ⟨hj'.ident, hj'.out, hj'.nodes, fun hd hin => ?_, hj'.was, hj'.bare, Nat.le_succ_of_le hj'.len, ⟨hj'.ep.1, by have := hj'.ep.2; show _ ≤ W.epoch + 1; simp only [wfix, wdown] at *; omega⟩⟩
    have hd' : W.down j = false := by
      cases hq : W.down j with
      | false => rfl
      | true => have := hdn j hq; rw [show (wfix (wdown W i) (-1)).down j = (wdown W i).down j from rfl, this] at hd; cases hd
    have ho := hj'.own hd' hin
    rw [hc]
    have := ho.filter (liveB (wdown W i))
    rw [filter_mono hdn] at this
    exact this
  · rw [hc]; exact h.nodup.sublist List.filter_sublist
  · rw [hc] at hx
    obtain ⟨hx1, hx2⟩ := List.mem_filter.1 hx
    refine ⟨(h.conf x hx1).1, ?_, (h.conf x hx1).2.2⟩
    show (wdown W i).down x.toNat = false
    unfold liveB at hx2
    cases hq : (wdown W i).down x.toNat with
    | false => rfl
    | true => rw [hq] at hx2; simp at hx2
  · rw [hc]; exact h.ahead.sublist List.filter_sublist
  · have hm' : m ∈ keepS (W.net.down ++ [(i : Int)]) W.net.way := hm
    unfold keepS at hm'
    obtain ⟨hm1, hm2⟩ := List.mem_filter.1 hm'
    obtain ⟨h1, h2⟩ := h.msgs m hm1
    refine ⟨h1, ?_⟩
    show setF W.down i true m.frm.toNat = false
    unfold setF
    split
    · rename_i e
      have : m.frm = (i : Int) := by rw [← e]; exact (toNat_small h1.2.1).2.symm
      simp [silentB, this] at hm2
    · exact h2
  · show (j : Int) ∈ W.net.down ++ [(i : Int)] ↔ setF W.down i true j = true
    rw [List.mem_append, h.dn j hj]
    unfold setF
    split
    · rename_i e; subst e; simp
    · rename_i e
      simp; omega
  · have := h.lo
    have h1 : (keepS (W.net.down ++ [(i : Int)]) W.net.way).length ≤ W.net.way.length := List.length_filter_le _ _
    show W.net.lost + _ ≤ _
    omega
  · have := h.ep
    show 1 ≤ W.epoch + 1 ∧ W.epoch + 1 ≤ _
    omega
  · show (W.net.down ++ [(i : Int)]).length ≤ _
    have := h.ndn
    simp; omega
  · have hm' : m ∈ keepS (W.net.down ++ [(i : Int)]) W.net.way := hm
    unfold keepS at hm'
    obtain ⟨hm1, hm2⟩ := List.mem_filter.1 hm'
    have := (h.old m hm1).1
    refine ⟨by show m.epoch ≤ W.epoch + 1; omega, ?_⟩
    show silentB (W.net.down ++ [(i : Int)]) m = false
    simpa using hm2
/-- A node that was in no configuration comes in. -/
theorem Inv.joins {W : WS} {n : Nat} {B : Int} (h : Inv W n B) {i : Nat} (hi : i < 5) (hd : W.down i = false) (he : W.ever i = false) : Inv (wfix (wever W i) i) (n + 1) B := by
  have ei : ((i : Int)).toNat = i := by omega
  have hni : (i : Int) ∉ W.conf := fun hm => by have := (h.conf _ hm).2.2; rw [ei, he] at this; cases this
  have hc : (wfix (wever W i) i).conf = W.conf ++ [(i : Int)] := by
    show confF (wever W i) i = _
    unfold confF
    rw [if_pos (by omega)]
    have : List.filter (liveB (wever W i)) (wever W i).conf = W.conf := List.filter_eq_self.2 (fun x hx => by simp [liveB, wever, (h.conf x hx).2.1])
    rw [this]
  refine ⟨fun j hj => ?_, ?_, fun x hx => ?_, by rw [hc]; simp, ?_, fun m hm => h.msgs m hm, h.dn, h.lo, ?_, Nat.le_succ_of_le h.ndn, fun m hm => ⟨by have := (h.old m hm).1; show m.epoch ≤ W.epoch + 1; omega, (h.old m hm).2⟩⟩
  · have hj' := h.each j hj
    refine ⟨hj'.ident, hj'.out, hj'.nodes, fun hd hin => ?_, fun hin => ?_, hj'.bare, Nat.le_succ_of_le hj'.len, ⟨hj'.ep.1, by have := hj'.ep.2; simp only [wfix, wever]; omega⟩⟩
    · rw [hc]
      exact (hj'.own hd hin).trans (List.prefix_append _ _)
    · show setF W.ever i true j = true
      unfold setF
      split
      · rfl
      · exact hj'.was hin
  · rw [hc, List.nodup_append]
    exact ⟨h.nodup, by simp, fun a ha b hb => by simp at hb; subst hb; exact fun e => hni (e ▸ ha)⟩
  · rw [hc] at hx
    rcases List.mem_append.1 hx with hx | hx
    · refine ⟨(h.conf x hx).1, (h.conf x hx).2.1, ?_⟩
      show setF W.ever i true x.toNat = true
      unfold setF
      split
      · rfl
      · exact (h.conf x hx).2.2
    · simp at hx; subst hx
      refine ⟨by unfold small; omega, by rw [ei]; exact hd, ?_⟩
      rw [ei]; exact setF_same _ _ _
  · rw [hc, List.pairwise_append]
    refine ⟨h.ahead, by simp, fun a ha b hb => ?_⟩
    simp at hb; subst hb
    show (W.node ((i : Int)).toNat).log <+: _
    rw [ei, (h.each i hi).out (h.away hi hd hni)]
    exact List.nil_prefix
  · have := h.ep
    show 1 ≤ W.epoch + 1 ∧ W.epoch + 1 ≤ _
    omega
end Go.Proofs.Ytefhgakcffhgaab
