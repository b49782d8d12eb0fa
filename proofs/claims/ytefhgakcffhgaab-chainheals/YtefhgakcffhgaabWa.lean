/- A chain of nodes and its net, as the law's world has them: what holds of it, whatever is done. Pure. -/
import Derived.Test.YtefhgakcffhgaabCn14
import Derived.Test.YtefhgakcffhgaabNt11
namespace Go.Proofs.Ytefhgakcffhgaab
open Go.RowKit Go.Lib Go.Maps

structure WS where
  node : Nat → NodeS
  net : NetS
  down : Nat → Bool
  ever : Nat → Bool
  epoch : Int
  conf : List Int
  stable : List CmdD
def setF {α : Type} (f : Nat → α) (i : Nat) (x : α) : Nat → α := fun j => if j = i then x else f j
theorem setF_same {α : Type} (f : Nat → α) (i : Nat) (x : α) : setF f i x i = x := by simp [setF]
theorem setF_ne {α : Type} (f : Nat → α) {i j : Nat} (x : α) (h : j ≠ i) : setF f i x j = f j := by simp [setF, h]
def wnode (W : WS) (i : Nat) (r : NodeS × List MsgD) : WS := ⟨setF W.node i r.1, sends W.net r.2, W.down, W.ever, W.epoch, W.conf, W.stable⟩
def wnet (W : WS) (s : NetS) : WS := ⟨W.node, s, W.down, W.ever, W.epoch, W.conf, W.stable⟩
def liveB (W : WS) (x : Int) : Bool := !W.down x.toNat
def confF (W : WS) (more : Int) : List Int := W.conf.filter (liveB W) ++ (if 0 ≤ more then [more] else [])
def wfix (W : WS) (more : Int) : WS := ⟨W.node, W.net, W.down, W.ever, W.epoch + 1, confF W more, W.stable⟩
def wdown (W : WS) (i : Nat) : WS := ⟨W.node, downS W.net i, setF W.down i true, W.ever, W.epoch, W.conf, W.stable⟩
def wever (W : WS) (i : Nat) : WS := ⟨W.node, W.net, W.down, setF W.ever i true, W.epoch, W.conf, W.stable⟩
def wbec (W : WS) (i : Nat) : WS := if W.down i then W else if W.epoch ≤ (W.node i).epoch then W else wnode W i (tickN (becN (W.node i) W.epoch W.conf))

def Ahead (f : Nat → NodeS) (x y : Int) : Prop := (f y.toNat).log <+: (f x.toNat).log
def okMsg (f : Nat → NodeS) (m : MsgD) : Prop := m.cmd.writes = [] ∧ (0 ≤ m.frm ∧ m.frm < 5) ∧ (m.kind = 3 → ∃ N : Nat, m.n = N ∧ (f m.frm.toNat).log[N]? = some m.cmd)
def small (x : Int) : Prop := 0 ≤ x ∧ x < 5
/-- What holds of one node. -/
structure InvN (W : WS) (n : Nat) (i : Nat) : Prop where
  ident : (W.node i).id = i
  out : inN (W.node i) = false → (W.node i).log = []
  nodes : (W.node i).nodes.Nodup ∧ ∀ x ∈ (W.node i).nodes, small x
  own : W.down i = false → inN (W.node i) = true → (W.node i).nodes.filter (liveB W) <+: W.conf
  was : inN (W.node i) = true → W.ever i = true
  bare : ∀ c ∈ (W.node i).log, c.writes = []
  len : (W.node i).log.length ≤ n
  ep : 0 ≤ (W.node i).epoch ∧ (W.node i).epoch ≤ W.epoch
/-- What holds behind n turns. -/
structure Inv (W : WS) (n : Nat) (B : Int) : Prop where
  each : ∀ i, i < 5 → InvN W n i
  nodup : W.conf.Nodup
  conf : ∀ x ∈ W.conf, small x ∧ W.down x.toNat = false ∧ W.ever x.toNat = true
  some_ : W.conf ≠ []
  ahead : W.conf.Pairwise (Ahead W.node)
  msgs : ∀ m ∈ W.net.way, okMsg W.node m ∧ W.down m.frm.toNat = false
  dn : ∀ i : Nat, i < 5 → ((i : Int) ∈ W.net.down ↔ W.down i = true)
  lo : W.net.lost ≤ B
  ep : 1 ≤ W.epoch ∧ W.epoch ≤ n + 1
  ndn : W.net.down.length ≤ n
  old : ∀ m ∈ W.net.way, m.epoch ≤ W.epoch ∧ silentB W.net.down m = false

theorem mem_sends : ∀ (ms : List MsgD) (s : NetS) (m : MsgD), m ∈ (sends s ms).way → m ∈ s.way ∨ (m ∈ ms ∧ silentB s.down m = false)
  | [], s, m, h => .inl h
  | x :: ms, s, m, h => by
    rcases mem_sends ms (send1 s x) m h with h | ⟨h, h'⟩
    · unfold send1 at h
      split at h
      · exact .inl h
      · rename_i hb
        simp only [List.mem_append, List.mem_singleton] at h
        rcases h with h | rfl
        · exact .inl h
        · refine .inr ⟨by simp, ?_⟩
          cases hq : silentB s.down m with
          | false => rfl
          | true => simp [hq] at hb
    · exact .inr ⟨by simp [h], by rw [send1_down] at h'; exact h'⟩
theorem sends_down : ∀ (ms : List MsgD) (s : NetS), (sends s ms).down = s.down
  | [], _ => rfl
  | x :: ms, s => by rw [sends, sends_down ms, send1_down]
theorem toNat_small {x : Int} (h : small x) : x.toNat < 5 ∧ ((x.toNat : Nat) : Int) = x := by unfold small at h; omega
theorem conf_len {W : WS} {n : Nat} {B : Int} (h : Inv W n B) : W.conf.length ≤ 5 := by
  have h1 : W.conf.Nodup := h.nodup
  have h2 : ∀ x ∈ W.conf, x ∈ [(0 : Int), 1, 2, 3, 4] := fun x hx => by
    have := (h.conf x hx).1; unfold small at this; simp; omega
  have := List.Nodup.length_le_of_subset h1 (l₂ := [(0 : Int), 1, 2, 3, 4]) (fun x hx => h2 x hx)
  simpa using this
theorem prefix_get {α : Type} {a b : List α} {N : Nat} {x : α} (h : a <+: b) (hx : a[N]? = some x) : b[N]? = some x := by
  obtain ⟨c, rfl⟩ := h
  have hlt : N < a.length := (List.getElem?_eq_some_iff.1 hx).1
  rw [List.getElem?_append_left hlt]; exact hx
theorem prefix_snoc {α : Type} {a b : List α} {x : α} (h : a <+: b) (hx : b[a.length]? = some x) : a ++ [x] <+: b := by
  obtain ⟨c, rfl⟩ := h
  rw [List.getElem?_append_right (Nat.le_refl _), Nat.sub_self] at hx
  cases c with
  | nil => simp at hx
  | cons y c => simp at hx; subst hx; exact ⟨c, by simp⟩
theorem firstX_not (x : Int) : ∀ l : List Int, firstX x l = none → x ∉ l
  | [], _ => by simp
  | y :: l, hf => by
    unfold firstX at hf
    split at hf
    · cases hf
    · rename_i hne
      have : firstX x l = none := by
        cases hq : firstX x l with
        | none => rfl
        | some z => rw [hq] at hf; simp at hf
      simp [hne, firstX_not x l this]
theorem inN_of_mem {s : NodeS} (h : s.id ∈ s.nodes) : inN s = true := by
  unfold inN placeN
  cases hf : firstX s.id s.nodes with
  | none => exact absurd h (firstX_not _ _ hf)
  | some k => simp [plI]
theorem mem_of_inN {s : NodeS} (h : inN s = true) : s.id ∈ s.nodes := by
  rcases placeN_cases s with e | ⟨k, _, hk, _⟩
  · simp [inN, e] at h
  · exact List.mem_of_getElem? hk
/-- One node of a row whose logs are beginnings of each other gets on. -/
theorem pairs_set {f : Nat → NodeS} {l : List Int} {i : Nat} {s : NodeS} (hd : l.Nodup) (hs : ∀ x ∈ l, small x) (h : l.Pairwise (Ahead f)) (hg : (f i).log <+: s.log)
    (hp : (i : Int) ∉ l ∨ s.log = (f i).log ∨ ∃ X Y, l = X ++ (i : Int) :: Y ∧ ∀ x ∈ X, s.log <+: (f x.toNat).log) : l.Pairwise (Ahead (setF f i s)) := by
  have ne : ∀ x : Int, small x → x ≠ (i : Int) → x.toNat ≠ i := fun x hx hn e => hn (by rw [← e]; exact (toNat_small hx).2.symm)
  rcases hp with hp | hp | ⟨X, Y, rfl, hX⟩
  · refine List.Pairwise.imp_of_mem (fun {a b} ha hb hab => ?_) h
    unfold Ahead at hab ⊢
    rw [setF_ne _ _ (ne a (hs a ha) (fun e => hp (by rw [← e]; exact ha))), setF_ne _ _ (ne b (hs b hb) (fun e => hp (by rw [← e]; exact hb)))]
    exact hab
  · have : ∀ k, (setF f i s k).log = (f k).log := fun k => by
      unfold setF; split
      · rename_i e; rw [hp, e]
      · rfl
    refine List.Pairwise.imp (fun {a b} hab => ?_) h
    unfold Ahead at hab ⊢
    rw [this, this]; exact hab
  · rw [List.pairwise_append] at h ⊢
    obtain ⟨h1, h2, h3⟩ := h
    rw [List.pairwise_cons] at h2 ⊢
    obtain ⟨h4, h5⟩ := h2
    rw [List.nodup_append] at hd
    obtain ⟨d1, d2, d3⟩ := hd
    rw [List.nodup_cons] at d2
    have nX : ∀ x ∈ X, x.toNat ≠ i := fun x hx => ne x (hs x (by simp [hx])) (fun e => d3 x hx (i : Int) (by simp) e)
    have nY : ∀ y ∈ Y, y.toNat ≠ i := fun y hy => ne y (hs y (by simp [hy])) (fun e => d2.1 (by rw [← e]; exact hy))
    have ei : ((i : Int)).toNat = i := by omega
    refine ⟨?_, ⟨?_, ?_⟩, ?_⟩
    · refine List.Pairwise.imp_of_mem (fun {a b} ha hb hab => ?_) h1
      unfold Ahead at hab ⊢
      rw [setF_ne _ _ (nX a ha), setF_ne _ _ (nX b hb)]; exact hab
    · intro y hy
      have := h4 y hy
      unfold Ahead at this ⊢
      rw [setF_ne _ _ (nY y hy), ei, setF_same]
      rw [ei] at this
      exact this.trans hg
    · refine List.Pairwise.imp_of_mem (fun {a b} ha hb hab => ?_) h5
      unfold Ahead at hab ⊢
      rw [setF_ne _ _ (nY a ha), setF_ne _ _ (nY b hb)]; exact hab
    · intro x hx y hy
      rcases List.mem_cons.1 hy with rfl | hy'
      · unfold Ahead
        rw [setF_ne _ _ (nX x hx), ei, setF_same]
        exact hX x hx
      · have := h3 x hx y hy
        unfold Ahead at this ⊢
        rw [setF_ne _ _ (nX x hx), setF_ne _ _ (nY y hy')]; exact this
/-- One node is told something, and gets on. -/
theorem Inv.node {W : WS} {n : Nat} {B : Int} (h : Inv W n B) {i : Nat} (hi : i < 5) {n' : Nat} (hn : n ≤ n') (s : NodeS) (ms : List MsgD) (hid : s.id = i) (hg : (W.node i).log <+: s.log) (hout : inN s = false → s.log = [])
    (hnodes : s.nodes = (W.node i).nodes ∧ s.epoch = (W.node i).epoch ∨ s.nodes = W.conf ∧ s.epoch = W.epoch ∧ (W.down i = false))
    (hbare : ∀ c ∈ s.log, c.writes = []) (hlen : s.log.length ≤ n')
    (hp : (i : Int) ∉ W.conf ∨ s.log = (W.node i).log ∨ ∃ X Y, W.conf = X ++ (i : Int) :: Y ∧ ∀ x ∈ X, s.log <+: (W.node x.toNat).log)
    (hms : ∀ m ∈ ms, m.frm = i ∧ m.cmd.writes = [] ∧ (m.kind = 3 → ∃ N : Nat, m.n = N ∧ s.log[N]? = some m.cmd)) (hme : ∀ m ∈ ms, m.epoch = s.epoch) {B' : Int} (hB : B + ms.length ≤ B') :
    Inv (wnode W i (s, ms)) n' B' := by
  have ei : ((i : Int)).toNat = i := by omega
  have hin : inN s = true → (i : Int) ∈ s.nodes := fun e => by
    rcases placeN_cases s with e' | ⟨k, _, hk, _⟩
    · simp [inN, e'] at e
    · rw [hid] at hk; exact List.mem_of_getElem? hk
  refine ⟨fun j hj => ?_, h.nodup, h.conf, h.some_, pairs_set h.nodup (fun x hx => (h.conf x hx).1) h.ahead hg hp, fun m hm => ?_, fun j hj => ?_, ?_, ⟨h.ep.1, by have := h.ep.2; show W.epoch ≤ _; omega⟩, ?_, fun m hm => ?_⟩
  · have hj' := h.each j hj
    by_cases e : j = i
    · subst e
      refine ⟨by simp only [wnode, setF_same]; exact hid, by simp only [wnode, setF_same]; exact hout, ?_, ?_, ?_, by simp only [wnode, setF_same]; exact hbare, by simp only [wnode, setF_same]; exact hlen, ?_⟩
      · simp only [wnode, setF_same]
        rcases hnodes with ⟨e, _⟩ | ⟨e, _⟩
        · rw [e]; exact hj'.nodes
        · rw [e]; exact ⟨h.nodup, fun x hx => (h.conf x hx).1⟩
      · simp only [wnode, setF_same]
        intro hd hi'
        rcases hnodes with ⟨e, _⟩ | ⟨e, _⟩
        · have : inN (W.node j) = true := inN_of_mem (by rw [hj'.ident, ← e]; exact hin hi')
          have := hj'.own hd this
          rw [e]
          exact this
        · rw [e]
          have : W.conf.filter (liveB (wnode W j (s, ms))) = W.conf := List.filter_eq_self.2 (fun x hx => by simp [liveB, wnode, (h.conf x hx).2.1])
          show List.filter (liveB (wnode W j (s, ms))) W.conf <+: W.conf
          rw [this]; exact List.prefix_refl _
      · simp only [wnode, setF_same]
        intro hi'
        have hm := hin hi'
        rcases hnodes with ⟨e, _⟩ | ⟨e, _, _⟩
        · rw [e] at hm
          refine hj'.was ?_
          cases hq : inN (W.node j) with
          | true => rfl
          | false =>
            exfalso
            have : inN s = inN (W.node j) := by unfold inN placeN; rw [hid, e, hj'.ident]
            rw [this, hq] at hi'; cases hi'
        · rw [e] at hm
          have := (h.conf _ hm).2.2
          rwa [ei] at this
      · simp only [wnode, setF_same]
        rcases hnodes with ⟨_, e⟩ | ⟨_, e, _⟩
        · rw [e]; exact hj'.ep
        · rw [e]; have := h.ep.1; omega
    · refine ⟨by simp only [wnode, setF_ne _ _ e]; exact hj'.ident, by simp only [wnode, setF_ne _ _ e]; exact hj'.out, by simp only [wnode, setF_ne _ _ e]; exact hj'.nodes, by simp only [wnode, setF_ne _ _ e]; exact hj'.own, by simp only [wnode, setF_ne _ _ e]; exact hj'.was, by simp only [wnode, setF_ne _ _ e]; exact hj'.bare, by simp only [wnode, setF_ne _ _ e]; exact Nat.le_trans hj'.len hn, by simp only [wnode, setF_ne _ _ e]; exact hj'.ep⟩
  · rcases mem_sends ms W.net m hm with hm | ⟨hm, hq⟩
    · obtain ⟨⟨h1, h2, h3⟩, h4⟩ := h.msgs m hm
      refine ⟨⟨h1, h2, fun hk => ?_⟩, h4⟩
      obtain ⟨N, hN, hc⟩ := h3 hk
      refine ⟨N, hN, ?_⟩
      simp only [wnode]
      by_cases e : m.frm.toNat = i
      · rw [e, setF_same]; rw [e] at hc; exact prefix_get hg hc
      · rw [setF_ne _ _ e]; exact hc
    · obtain ⟨h1, h2, h3⟩ := hms m hm
      refine ⟨⟨h2, by omega, fun hk => ?_⟩, ?_⟩
      · obtain ⟨N, hN, hc⟩ := h3 hk
        exact ⟨N, hN, by simp only [wnode]; rw [h1, ei, setF_same]; exact hc⟩
      · rw [h1, ei]
        cases hd : W.down i with
        | false => exact hd
        | true =>
          have := (h.dn i hi).2 hd
          simp [silentB, h1, this] at hq
  · simp only [wnode, sends_down]; exact h.dn j hj
  · have := (sends_lost ms W.net).2
    have := h.lo
    simp only [wnode]; omega
  · simp only [wnode, sends_down]; exact Nat.le_trans h.ndn hn
  · show m.epoch ≤ W.epoch ∧ silentB (sends W.net ms).down m = false
    rw [sends_down]
    rcases mem_sends ms W.net m hm with hm | ⟨hm, hq⟩
    · exact h.old m hm
    · refine ⟨?_, hq⟩
      rw [hme m hm]
      rcases hnodes with ⟨_, e⟩ | ⟨_, e, _⟩
      · rw [e]; exact (h.each i hi).ep.2
      · rw [e]; exact Int.le_refl _
end Go.Proofs.Ytefhgakcffhgaab
