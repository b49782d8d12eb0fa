/- What is stable: all nodes of the configuration have it, as long as none comes in. Pure. -/
import Derived.Test.YtefhgakcffhgaabWa2
namespace Go.Proofs.Ytefhgakcffhgaab
open Go.RowKit Go.Lib Go.Maps

/-- All nodes of the configuration have it. -/
def Com (W : WS) (S : List CmdD) : Prop := ∀ x ∈ W.conf, S <+: (W.node x.toNat).log
def stOk (W : WS) (s : NodeS) : Prop := (0 ≤ s.stable ∧ s.stable ≤ s.log.length) ∧ Com W (s.log.take s.stable.toNat)
def msOk (W : WS) (m : MsgD) : Prop := m.kind = 4 → ∃ S, Com W S ∧ m.n = (S.length : Int)
structure InvS (W : WS) : Prop where
  own : ∀ i, i < 5 → W.down i = false → inN (W.node i) = true → (W.node i).nodes.filter (liveB W) = W.conf
  st : ∀ i, i < 5 → stOk W (W.node i)
  ms : ∀ m ∈ W.net.way, silentB W.net.down m = false ∧ msOk W m
  com : Com W W.stable

theorem Com.up {W W' : WS} {S : List CmdD} (h : Com W S) (hc : ∀ x ∈ W'.conf, x ∈ W.conf) (hl : ∀ k, (W.node k).log <+: (W'.node k).log) : Com W' S := fun x hx => (h x (hc x hx)).trans (hl _)
theorem Com.node {W : WS} {S : List CmdD} {i : Nat} {r : NodeS × List MsgD} (h : Com W S) (hg : (W.node i).log <+: r.1.log) : Com (wnode W i r) S :=
  h.up (fun _ e => e) (fun k => by
    show _ <+: (setF W.node i r.1 k).log
    unfold setF
    split
    · rename_i e; subst e; exact hg
    · exact List.prefix_refl _)
theorem InvS.node {W : WS} (h : InvS W) {i : Nat} (r : NodeS × List MsgD) (hg : (W.node i).log <+: r.1.log) (hown : W.down i = false → inN r.1 = true → r.1.nodes.filter (liveB W) = W.conf) (hst : stOk (wnode W i r) r.1) (hms : ∀ m ∈ r.2, msOk (wnode W i r) m) : InvS (wnode W i r) := by
  have up : ∀ {S : List CmdD}, Com W S → Com (wnode W i r) S := fun hS => hS.node hg
  refine ⟨fun j hj hd hin => ?_, fun j hj => ?_, fun m hm => ?_, up h.com⟩
  · show List.filter (liveB W) (setF W.node i r.1 j).nodes = W.conf
    have hin' : inN (setF W.node i r.1 j) = true := hin
    have hd' : W.down j = false := hd
    by_cases e : j = i
    · subst e
      rw [setF_same] at hin' ⊢
      exact hown hd' hin'
    · rw [setF_ne _ _ e] at hin' ⊢
      exact h.own j hj hd' hin'
  · show stOk (wnode W i r) (setF W.node i r.1 j)
    by_cases e : j = i
    · subst e
      rw [setF_same]; exact hst
    · rw [setF_ne _ _ e]
      exact ⟨(h.st j hj).1, up (h.st j hj).2⟩
  · show silentB (sends W.net r.2).down m = false ∧ _
    rw [sends_down]
    rcases mem_sends r.2 W.net m hm with hm | ⟨hm, hq⟩
    · obtain ⟨h1, h2⟩ := h.ms m hm
      exact ⟨h1, fun e => by obtain ⟨S, a, b⟩ := h2 e; exact ⟨S, up a, b⟩⟩
    · exact ⟨hq, hms m hm⟩
/-- The tail's log all have. -/
theorem tail_com {W : WS} {n : Nat} {B : Int} (hI : Inv W n B) {i : Nat} (hi : i < 5) (hd : W.down i = false) (ho : (W.node i).nodes.filter (liveB W) = W.conf) (ht : tailN (W.node i) = true) : Com W (W.node i).log := by
  simp only [tailN, Bool.and_eq_true, beq_iff_eq] at ht
  obtain ⟨hin, hp⟩ := ht
  rcases placeN_cases (W.node i) with e | ⟨k, e, hk, hlt⟩
  · simp [inN, e] at hin
  rw [(hI.each i hi).ident] at hk
  have hs : (W.node i).nodes = (W.node i).nodes.take k ++ [(i : Int)] := by
    conv => lhs; rw [← List.take_append_drop k (W.node i).nodes]
    rw [List.drop_eq_getElem_cons hlt]
    rw [List.getElem?_eq_getElem hlt] at hk
    have h0 : (W.node i).nodes.drop (k + 1) = [] := List.drop_eq_nil_of_le (by omega)
    simp at hk
    rw [h0, hk]
  have hc : W.conf = ((W.node i).nodes.take k).filter (liveB W) ++ [(i : Int)] := by
    have := congrArg (List.filter (liveB W)) hs
    rw [ho, List.filter_append] at this
    rw [this]
    simp [liveB, hd]
  have ha := hI.ahead
  rw [hc, List.pairwise_append] at ha
  intro x hx
  rw [hc] at hx
  have ei : ((i : Int)).toNat = i := by omega
  rcases List.mem_append.1 hx with hx | hx
  · have := ha.2.2 x hx (i : Int) (by simp)
    unfold Ahead at this
    rw [ei] at this
    exact this
  · simp at hx
    subst hx
    rw [ei]
    exact List.prefix_refl _
theorem tick_tail (s : NodeS) : tailN (tickN s).1 = tailN s := by unfold tailN inN placeN; rw [tick_id, tick_nodes]
theorem ticks_ok {W : WS} {s : NodeS} (hC : tailN s = true → Com W s.log) (h : stOk W s) : stOk W (tickN s).1 ∧ ∀ m ∈ (tickN s).2, msOk W m := by
  unfold tickN
  split
  · rename_i ht
    refine ⟨⟨⟨by simp [stableN], by simp [stableN]⟩, ?_⟩, fun m hm _ => ?_⟩
    · show Com W (s.log.take ((s.log.length : Int)).toNat)
      rw [Int.toNat_natCast, List.take_length]; exact hC ht
    · obtain ⟨_, _, h3, _⟩ := sendN_mem hm
      exact ⟨s.log, hC ht, by rw [h3]; rfl⟩
  · refine ⟨h, fun m hm e => ?_⟩
    obtain ⟨_, h2, _⟩ := sendN_mem hm
    rw [h2] at e
    simp [plainMsg] at e
theorem InvS.ticks {W : WS} (h : InvS W) {i : Nat} (hi : i < 5) (hd : W.down i = false) (s : NodeS) {n : Nat} {B : Int} (hI' : Inv (wnode W i (tickN s)) n B) (hg : (W.node i).log <+: s.log) (hown : inN s = true → s.nodes.filter (liveB W) = W.conf) (hst : stOk (wnode W i (tickN s)) s) : InvS (wnode W i (tickN s)) := by
  have hC : tailN s = true → Com (wnode W i (tickN s)) s.log := fun ht => by
    have e : (wnode W i (tickN s)).node i = (tickN s).1 := setF_same _ _ _
    have hin : inN s = true := by simp only [tailN, Bool.and_eq_true] at ht; exact ht.1
    have := tail_com hI' hi hd (by rw [e, tick_nodes]; exact hown hin) (by rw [e, tick_tail]; exact ht)
    rw [e, tick_log] at this
    exact this
  obtain ⟨a, b⟩ := ticks_ok hC hst
  exact h.node (tickN s) (by rw [tick_log]; exact hg) (fun _ hin => by rw [tick_in] at hin; rw [tick_nodes]; exact hown hin) a b
theorem InvS.tick {W : WS} (h : InvS W) {n : Nat} {B : Int} (hI : Inv W n B) {i : Nat} (hi : i < 5) (hd : W.down i = false) : InvS (wnode W i (tickN (W.node i))) :=
  h.ticks hi hd _ (hI.tick hi) (List.prefix_refl _) (h.own i hi hd) ⟨(h.st i hi).1, (h.st i hi).2.node (by rw [tick_log]; exact List.prefix_refl _)⟩
theorem bec_stable (s : NodeS) (ep : Int) (ns : List Int) : ((becN s ep ns).stable = s.stable ∧ (becN s ep ns).log = s.log) ∨ (becN s ep ns).stable = 0 := by
  unfold becN
  split
  · exact .inr rfl
  · exact .inl ⟨rfl, rfl⟩
theorem InvS.bec {W : WS} (h : InvS W) {n : Nat} {B : Int} (hI : Inv W n B) {i : Nat} (hi : i < 5) : InvS (wbec W i) := by
  have hI' := hI.bec hi
  by_cases hd : W.down i = true
  · rw [wbec, if_pos hd]; exact h
  by_cases hle : W.epoch ≤ (W.node i).epoch
  · rw [wbec, if_neg hd, if_pos hle]; exact h
  have e : wbec W i = wnode W i (tickN (becN (W.node i) W.epoch W.conf)) := by rw [wbec, if_neg hd, if_neg hle]
  rw [e] at hI' ⊢
  have hd : W.down i = false := by simpa using hd
  obtain ⟨r1, r2, r3⟩ := bec_rest (W.node i) W.epoch W.conf
  have r4 := bec_log (s := W.node i) (ep := W.epoch) (ns := W.conf) (hI.each i hi).out
  refine h.ticks hi hd _ hI' (by rw [r4]; exact List.prefix_refl _) (fun _ => ?_) ?_
  · rw [r2]
    exact List.filter_eq_self.2 (fun x hx => by simp [liveB, (hI.conf x hx).2.1])
  · rcases bec_stable (W.node i) W.epoch W.conf with ⟨a, b⟩ | a
    · refine ⟨by rw [a, b]; exact (h.st i hi).1, ?_⟩
      rw [a, b]
      exact (h.st i hi).2.node (by rw [tick_log, r4]; exact List.prefix_refl _)
    · refine ⟨by rw [a]; omega, ?_⟩
      rw [a]
      exact fun x _ => List.nil_prefix
theorem InvS.grow {W : WS} (h : InvS W) {i : Nat} (hi : i < 5) (hd : W.down i = false) (c : CmdD) {n : Nat} {B : Int} (hI' : Inv (wnode W i (growN (W.node i) c)) n B) : InvS (wnode W i (growN (W.node i) c)) := by
  have hs : ∀ r : NodeS × List MsgD, (W.node i).log <+: r.1.log → stOk (wnode W i r) (logN (W.node i) ((W.node i).log ++ [c])) := fun r hr => by
    obtain ⟨⟨a, b⟩, d⟩ := h.st i hi
    refine ⟨⟨a, by show (W.node i).stable ≤ (((W.node i).log ++ [c]).length : Int); simp; omega⟩, ?_⟩
    show Com _ (((W.node i).log ++ [c]).take (W.node i).stable.toNat)
    rw [List.take_append_of_le_length (by omega)]
    exact d.node hr
  have hg : (W.node i).log <+: (growN (W.node i) c).1.log := by rw [grow_log]; exact List.prefix_append _ _
  by_cases ht : tailN (W.node i) = true
  · have e : growN (W.node i) c = tickN (logN (W.node i) ((W.node i).log ++ [c])) := by unfold growN; rw [if_pos ht]
    rw [e] at hI' hg ⊢
    exact h.ticks hi hd _ hI' (List.prefix_append _ _) (h.own i hi hd) (hs _ hg)
  · have e1 : (growN (W.node i) c).1 = logN (W.node i) ((W.node i).log ++ [c]) := by unfold growN; rw [if_neg ht]
    refine h.node _ hg (fun _ hin => by rw [grow_in] at hin; rw [grow_nodes]; exact h.own i hi hd hin) ?_ (fun m hm e' => ?_)
    · have := hs (growN (W.node i) c) hg
      rw [← e1] at this
      exact this
    · exfalso
      unfold growN at hm
      rw [if_neg ht] at hm
      simp only at hm
      split at hm
      · simp at hm
      · simp at hm
        subst hm
        simp [fwdM] at e'
theorem InvS.step {W : WS} (h : InvS W) {n : Nat} {B : Int} (hI : Inv W n B) {i : Nat} (hi : i < 5) {m : MsgD} (hsil : silentB W.net.down m = false) (hm4 : msOk W m) {n' : Nat} {B' : Int} (hI' : Inv (wnode W i (stepN (W.node i) m)) n' B') : InvS (wnode W i (stepN (W.node i) m)) := by
  have says : ∀ ms : List MsgD, (∀ x ∈ ms, x.kind ≠ 4) → InvS (wnode W i (W.node i, ms)) := fun ms hk =>
    h.node (W.node i, ms) (List.prefix_refl _) (fun hd hin => h.own i hi hd hin) ⟨(h.st i hi).1, (h.st i hi).2.node (List.prefix_refl _)⟩ (fun x hx e => absurd e (hk x hx))
  revert hI'
  unfold stepN
  split
  · rename_i hto
    have hd : W.down i = false := by
      cases hq : W.down i with
      | false => rfl
      | true =>
        exfalso
        have := (hI.dn i hi).2 hq
        simp [silentB, hto.2, (hI.each i hi).ident, this] at hsil
    split
    · intro _
      exact says _ (fun x hx e => by obtain ⟨_, h2, _⟩ := sendN_mem hx; rw [h2] at e; simp [plainMsg] at e)
    · split
      · intro _
        refine says _ (fun x hx e => ?_)
        unfold haveN at hx
        split at hx
        · simp at hx
        · unfold fwdL at hx
          obtain ⟨j, _, rfl⟩ := List.mem_map.1 hx
          simp [fwdM] at e
      · split
        · intro hI'
          exact h.grow hi hd m.cmd hI'
        · split
          · rename_i hk
            obtain ⟨hk, hb, h0, hN⟩ := hk
            intro _
            obtain ⟨S, hS, hn⟩ := hm4 hk
            have hin := isN_in hb
            have hic : (i : Int) ∈ W.conf := by
              rw [← h.own i hi hd hin]
              refine List.mem_filter.2 ⟨?_, by simp [liveB, hd]⟩
              have := mem_of_inN hin
              rwa [(hI.each i hi).ident] at this
            have hSi : S <+: (W.node i).log := by
              have := hS _ hic
              rwa [show ((i : Int)).toNat = i by omega] at this
            have hT : stOk W (stabN (W.node i) m.n) := by
              obtain ⟨⟨a, b⟩, d⟩ := h.st i hi
              by_cases hlt : (W.node i).stable < m.n
              · have e : stabN (W.node i) m.n = stableN (W.node i) m.n := by unfold stabN; rw [if_pos hlt]
                rw [e]
                refine ⟨⟨h0, hN⟩, ?_⟩
                show Com W ((W.node i).log.take m.n.toNat)
                rw [hn, Int.toNat_natCast, ← List.prefix_iff_eq_take.1 hSi]
                exact hS
              · have e : stabN (W.node i) m.n = stableN (W.node i) (W.node i).stable := by unfold stabN; rw [if_neg hlt]
                rw [e]
                exact ⟨⟨a, b⟩, d⟩
            refine h.node (stabN (W.node i) m.n, sendN (stabN (W.node i) m.n) (-1) (plainMsg 4 (stabN (W.node i) m.n).stable)) (List.prefix_refl _) (fun _ _ => h.own i hi hd hin) ⟨hT.1, hT.2.node (List.prefix_refl _)⟩ (fun x hx _ => ?_)
            obtain ⟨_, _, h3, _⟩ := sendN_mem hx
            refine ⟨_, hT.2.node (List.prefix_refl _), ?_⟩
            rw [h3, List.length_take]
            show (stabN (W.node i) m.n).stable = _
            have := hT.1
            omega
          · intro _
            exact says [] (by simp)
  · intro _
    exact says [] (by simp)
theorem InvS.downs {W : WS} (h : InvS W) (i : Nat) : InvS (wfix (wdown W i) (-1)) := by
  have hdn : ∀ k, W.down k = true → (wdown W i).down k = true := fun k hk => by simp only [wdown, setF]; split <;> simp [hk]
  have hc : (wfix (wdown W i) (-1)).conf = W.conf.filter (liveB (wdown W i)) := confF_live _
  have up : ∀ {S : List CmdD}, Com W S → Com (wfix (wdown W i) (-1)) S := fun hS => hS.up (fun x hx => by rw [hc] at hx; exact (List.mem_filter.1 hx).1) (fun _ => List.prefix_refl _)
  refine ⟨fun j hj hd hin => ?_, fun j hj => ⟨(h.st j hj).1, up (h.st j hj).2⟩, fun m hm => ?_, up h.com⟩
  · have hd' : W.down j = false := by
      cases hq : W.down j with
      | false => rfl
      | true => have := hdn j hq; rw [show (wfix (wdown W i) (-1)).down j = (wdown W i).down j from rfl, this] at hd; cases hd
    have ho := h.own j hj hd' hin
    rw [hc, ← ho, filter_mono hdn]
    rfl
  · have hm' : m ∈ keepS (W.net.down ++ [(i : Int)]) W.net.way := hm
    unfold keepS at hm'
    obtain ⟨hm1, hm2⟩ := List.mem_filter.1 hm'
    refine ⟨by show silentB (W.net.down ++ [(i : Int)]) m = false; simpa using hm2, fun e => ?_⟩
    obtain ⟨S, a, b⟩ := (h.ms m hm1).2 e
    exact ⟨S, up a, b⟩
theorem InvS.nets {W : WS} (h : InvS W) {s : NetS} (hs : ∀ m ∈ s.way, m ∈ W.net.way) (hd : s.down = W.net.down) : InvS (wnet W s) :=
  ⟨h.own, h.st, fun m hm => by show silentB s.down m = false ∧ _; rw [hd]; exact h.ms m (hs m hm), h.com⟩
theorem InvS.drop {W : WS} (h : InvS W) (k : Nat) : InvS (wnet W (dropS W.net k)) := h.nets (fun _ hm => List.mem_of_mem_eraseIdx hm) rfl
theorem InvS.lose {W : WS} (h : InvS W) (k : Nat) : InvS (wnet W (loseS W.net k)) := h.nets (fun _ hm => List.mem_of_mem_eraseIdx hm) rfl
theorem InvS.twice {W : WS} (h : InvS W) {m : MsgD} (hm : m ∈ W.net.way) : InvS (wnet W (send1 W.net m)) := by
  refine h.nets (fun x hx => ?_) (send1_down _ _)
  rcases mem_sends [m] W.net x hx with hx | ⟨hx, _⟩
  · exact hx
  · simp at hx; subst hx; exact hm
end Go.Proofs.Ytefhgakcffhgaab
