/- It all comes down: all are told the configuration, all tick, a round, all rounds. Pure. -/
import Derived.Test.YtefhgakcffhgaabHc
namespace Go.Proofs.Ytefhgakcffhgaab
open Go.RowKit Go.Lib Go.Maps

theorem tick_out {s : NodeS} {x : MsgD} (h : x ∈ (tickN s).2) : x.frm = s.id ∧ x.epoch = s.epoch ∧ ((tailN s = true ∧ x.kind = 4 ∧ nbrN s (-1) = some x.to ∧ x.n = s.log.length) ∨ (tailN s = false ∧ x.kind = 1 ∧ nbrN s 1 = some x.to)) := by
  refine ⟨(tick_msgs s x h).1, by have := tick_ep s x h; rw [tick_epoch] at this; exact this, ?_⟩
  unfold tickN at h
  by_cases ht : tailN s = true
  · rw [if_pos ht] at h
    obtain ⟨_, h2, h3, _⟩ := sendN_mem h
    exact .inl ⟨ht, h2, sendN_nbr h, h3⟩
  · rw [if_neg ht] at h
    obtain ⟨_, h2, _⟩ := sendN_mem h
    exact .inr ⟨by simpa using ht, h2, sendN_nbr h⟩
theorem Cfg.tick {W : WS} (hC : Cfg W) (j : Nat) : Cfg (wnode W j (tickN (W.node j))) := fun i hi hd => by
  have h1 := hC i hi hd
  show (setF W.node j (tickN (W.node j)).1 i).epoch = W.epoch ∧ (setF W.node j (tickN (W.node j)).1 i).nodes = W.conf
  by_cases e : i = j
  · subst e
    rw [setF_same, tick_epoch, tick_nodes]; exact h1
  · rw [setF_ne _ _ e]; exact h1
theorem phi_sent {W : WS} {i : Nat} {r : NodeS × List MsgD} (hc : W.conf.length ≤ 5) (hr : r.2.length ≤ 1) : PhiW (wnode W i r) ≤ PhiW W + 1212 := by
  have h1 := sum_sends (phi W.conf W.epoch) r.2 W.net
  have h2 := sum_le_mul (l := r.2) (f := phi W.conf W.epoch) (k := 1212) (fun x _ => phi_most _ _ x hc)
  have h3 : PhiW (wnode W i r) = ((sends W.net r.2).way.map (phi W.conf W.epoch)).sum := rfl
  have h4 : PhiW W = (W.net.way.map (phi W.conf W.epoch)).sum := rfl
  have h5 : r.2.length * 1212 ≤ 1212 := by omega
  omega
theorem phi_none {W : WS} (h : W.net.way = []) : PhiW W = 0 := by unfold PhiW; rw [h]; rfl
theorem phi_zero {W : WS} (h : PhiW W = 0) : W.net.way = [] := by
  unfold PhiW at h
  cases hw : W.net.way with
  | nil => rfl
  | cons x l =>
    rw [hw] at h
    have := phi_pos W.conf W.epoch x
    simp at h
    omega
def tk (W : WS) (x : Int) : List MsgD := (tickN (W.node x.toNat)).2
theorem tk_len (W : WS) : ∀ l : List Int, (l.flatMap (tk W)).length ≤ l.length
  | [] => by simp
  | x :: l => by
    have h1 := tk_len W l
    have h2 := tick_len (W.node x.toNat)
    rw [List.flatMap_cons, List.length_append]
    have h3 : (tk W x).length ≤ 1 := h2
    simp only [List.length_cons]
    omega
/-- So many have ticked. -/
structure TickI (W0 W : WS) (dn rest : List Int) : Prop where
  split : W0.conf = dn ++ rest
  cf : W.conf = W0.conf ∧ W.epoch = W0.epoch ∧ W.net.down = W0.net.down
  way : W.net.way = dn.flatMap (tk W0)
  node : ∀ i : Nat, W.node i = if (i : Int) ∈ dn then (tickN (W0.node i)).1 else W0.node i
theorem TickI.start {W : WS} (hw : W.net.way = []) : TickI W W [] W.conf := ⟨rfl, ⟨rfl, rfl, rfl⟩, by simp [hw], fun i => by simp⟩
theorem TickI.step {W0 W : WS} {dn rest : List Int} {x : Int} {n : Nat} {B : Int} (h : TickI W0 W dn (x :: rest)) (hI : Inv W0 n B) (hC : Cfg W0) : TickI W0 (wnode W x.toNat (tickN (W.node x.toNat))) (dn ++ [x]) rest := by
  have hx : x ∈ W0.conf := by rw [h.split]; simp
  have hN := conf_node hI hC hx
  obtain ⟨x5, x6⟩ := toNat_small hN.sm
  have hnd : x ∉ dn := by
    have := hI.nodup
    rw [h.split, List.nodup_append] at this
    exact fun e => this.2.2 x e x (by simp) rfl
  have hnode : W.node x.toNat = W0.node x.toNat := by rw [h.node, x6, if_neg hnd]
  have hl1 := tk_len W0 dn
  have hl2 : dn.length + 1 ≤ 5 := by
    have := conf_len hI
    rw [h.split] at this
    simp at this
    omega
  have hl3 := tick_len (W0.node x.toNat)
  have hway : (sends W.net (tickN (W0.node x.toNat)).2).way = W.net.way ++ (tickN (W0.node x.toNat)).2 := by
    refine sends_room _ _ (fun y hy => ?_) (by rw [h.way]; omega)
    obtain ⟨h1, _, h3⟩ := tick_out hy
    have h4 : y.to ∈ W0.conf := by
      rw [← hN.ns]
      rcases h3 with ⟨_, _, q, _⟩ | ⟨_, _, q⟩ <;> exact nbrN_mem q
    have h5 := conf_loud hI h4
    have h6 := conf_loud hI hx
    rw [h.cf.2.2]
    rw [hN.id] at h1
    simp [silentB, h1, h5, h6]
  rw [hnode]
  refine ⟨by rw [h.split]; simp, ⟨h.cf.1, h.cf.2.1, ?_⟩, ?_, fun i => ?_⟩
  · show (sends W.net _).down = _
    rw [sends_down]; exact h.cf.2.2
  · show (sends W.net _).way = _
    rw [hway, h.way]
    simp [tk]
  · show setF W.node x.toNat _ i = _
    by_cases e : i = x.toNat
    · subst e
      rw [setF_same, if_pos (by rw [x6]; simp)]
    · rw [setF_ne _ _ e, h.node]
      have : (i : Int) ∈ dn ++ [x] ↔ (i : Int) ∈ dn := by
        rw [List.mem_append]
        constructor
        · rintro (q | q)
          · exact q
          · simp at q; omega
        · exact .inl
      by_cases hq : (i : Int) ∈ dn
      · rw [if_pos hq, if_pos (this.2 hq)]
      · rw [if_neg hq, if_neg (fun q => hq (this.1 q))]
section
variable {W0 W : WS} {n : Nat} {B : Int}
theorem tick_next {a b : Int} (hA : AdjN W a b) : tk W a = [⟨1, a, b, W.epoch, lenI W a, zeroCmd⟩] := by
  unfold tk tickN
  rw [if_neg (by rw [hA.nt]; simp)]
  simp only [sendN, hA.dn]
  rw [hA.ca.id, hA.ca.ep]
  rfl
def lens (W : WS) (x : Int) : Nat := (W.node x.toNat).log.length
theorem psi_ticks (hI : Inv W n B) (hC : Cfg W) : ∀ (c X : List Int), W.conf = X ++ c → ((c.flatMap (tk W)).map (vee (lens W))).sum ≤ c.length + (match c with | [] => 0 | a :: _ => lens W a)
  | [], _, _ => by simp
  | [t], X, hc => by
    have h1 := tick_len (W.node t.toNat)
    have hx := conf_node hI hC (x := t) (by rw [hc]; simp)
    have ht : tailN (W.node t.toNat) = true := by
      have := place_split (X := X) (Y := []) hx.id (by rw [hx.ns, hc]) (by rw [hx.ns]; exact hI.nodup)
      simp [tailN, inN, this, hx.ns, hc]
    have h2 : ((tk W t).map (vee (lens W))).sum = (tk W t).length := vee_one (fun y hy => by
      obtain ⟨_, _, ⟨_, k, _⟩ | ⟨q, _⟩⟩ := tick_out hy
      · omega
      · rw [ht] at q; cases q)
    have h3 : (tk W t).length ≤ 1 := h1
    simp
    omega
  | a :: b :: Y, X, hc => by
    have hA := adj_node hI hC (a := a) (b := b) ⟨X, Y, hc⟩
    have ih := psi_ticks hI hC (b :: Y) (X ++ [a]) (by rw [hc]; simp)
    simp only at ih
    have hle := hA.le
    have e1 : lenI W a = (lens W a : Int) := rfl
    have e2 : lenI W b = (lens W b : Int) := rfl
    rw [List.flatMap_cons, tick_next hA, List.map_append, List.sum_append]
    have e3 : ([(⟨1, a, b, W.epoch, lenI W a, zeroCmd⟩ : MsgD)].map (vee (lens W))).sum = 1 + (lens W a - lens W b) := by simp [vee]
    rw [e3]
    simp only [List.length_cons] at ih ⊢
    omega
theorem last_split : ∀ {l : List Int}, l ≠ [] → ∃ X t, l = X ++ [t] := fun {l} h => ⟨l.dropLast, l.getLast h, (List.dropLast_concat_getLast h).symm⟩
theorem TickI.heal (h : TickI W0 W W0.conf []) (hI : Inv W0 n B) (hC : Cfg W0) (hn : n ≤ 110) {q : Prop} (hq : q → AllEq W0) : Heal W (lens W0) q := by
  have hlog : ∀ i, (W.node i).log = (W0.node i).log := fun i => by
    rw [h.node]; split
    · rw [tick_log]
    · rfl
  have hlen : ∀ x, lenI W x = lenI W0 x := fun x => by unfold lenI; rw [hlog]
  obtain ⟨c1, c2, c3⟩ := h.cf
  refine ⟨.inl ⟨W.net.way, [], by simp, fun m hm => ?_, by simp, fun x _ => by rw [hlog]; rfl⟩, ?_, fun a b hab => ?_, fun hq' => ⟨fun a b hab => ?_, ?_⟩⟩
  · rw [h.way] at hm
    obtain ⟨x, _, hm⟩ := List.mem_flatMap.1 hm
    obtain ⟨_, _, ⟨_, k, _⟩ | ⟨_, k, _⟩⟩ := tick_out hm
    · exact .inr k
    · exact .inl k
  · rw [h.way]
    have h1 := psi_ticks hI hC W0.conf [] (by simp)
    have h2 := conf_len hI
    have h3 : (match W0.conf with | [] => 0 | a :: _ => lens W0 a) ≤ 110 := by
      split
      · omega
      · rename_i a Y hc
        have hs := (hI.conf a (by rw [hc]; simp)).1
        have := (hI.each _ (toNat_small hs).1).len
        unfold lens
        omega
    omega
  · rw [c1] at hab
    have hA := adj_node hI hC hab
    have ha : a ∈ W0.conf := by obtain ⟨X, Y, hc⟩ := hab; rw [hc]; simp
    refine .inl ⟨⟨1, a, b, W0.epoch, lenI W0 a, zeroCmd⟩, ?_, rfl, rfl, rfl, c2.symm⟩
    rw [h.way]
    exact List.mem_flatMap.2 ⟨a, ha, by rw [tick_next hA]; simp⟩
  · rw [c1] at hab
    rw [hlen, hlen]; exact hq hq' a b hab
  · obtain ⟨X, t, hc⟩ := last_split hI.some_
    have htm : t ∈ W0.conf := by rw [hc]; simp
    have hx := conf_node hI hC htm
    obtain ⟨t5, t6⟩ := toNat_small hx.sm
    have ht : tailN (W0.node t.toNat) = true := by
      have := place_split (X := X) (Y := []) hx.id (by rw [hx.ns, hc]) (by rw [hx.ns]; exact hI.nodup)
      simp [tailN, inN, this, hx.ns, hc]
    have hnt : W.node t.toNat = stableN (W0.node t.toNat) (W0.node t.toNat).log.length := by
      rw [h.node, t6, if_pos htm, tickN, if_pos ht]
    refine ⟨X, t, [], by rw [c1, hc], fun y hy => ?_, ?_⟩
    · simp at hy; subst hy
      rw [hlen, hnt]; rfl
    · by_cases hX : X = []
      · exact .inl hX
      · obtain ⟨X', a, rfl⟩ := last_split hX
        have hab : Adj W0.conf a t := ⟨X', [], by rw [hc]; simp⟩
        have hA := adj_node hI hC hab
        refine .inr ⟨X', a, rfl, ⟨4, t, a, W0.epoch, lenI W0 t, zeroCmd⟩, ?_, rfl, rfl, rfl, c2.symm, (hlen t).symm⟩
        rw [h.way]
        refine List.mem_flatMap.2 ⟨t, htm, ?_⟩
        unfold tk tickN
        rw [if_pos ht]
        have hup : nbrN (stableN (W0.node t.toNat) (W0.node t.toNat).log.length) (-1) = some a := hA.up
        simp only [sendN, hup]
        have e1 : (stableN (W0.node t.toNat) (W0.node t.toNat).log.length).id = t := hx.id
        have e2 : (stableN (W0.node t.toNat) (W0.node t.toNat).log.length).epoch = W0.epoch := hx.ep
        rw [e1, e2]
        simp [plainMsg, lenI]
end
/-- A configuration of those that live. -/
theorem Inv.fix {W : WS} {n : Nat} {B : Int} (h : Inv W n B) : Inv (wfix W (-1)) (n + 1) B ∧ (wfix W (-1)).conf = W.conf := by
  have hc : (wfix W (-1)).conf = W.conf := by
    show confF W (-1) = _
    rw [confF_live]
    exact List.filter_eq_self.2 (fun x hx => by simp [liveB, (h.conf x hx).2.1])
  refine ⟨⟨fun i hi => ?_, by rw [hc]; exact h.nodup, fun x hx => h.conf x (by rw [hc] at hx; exact hx), by rw [hc]; exact h.some_, by rw [hc]; exact h.ahead, h.msgs, h.dn, h.lo, ?_, Nat.le_succ_of_le h.ndn, fun m hm => ⟨by have := (h.old m hm).1; show m.epoch ≤ W.epoch + 1; omega, (h.old m hm).2⟩⟩, hc⟩
  · have hj := h.each i hi
    exact ⟨hj.ident, hj.out, hj.nodes, fun hd hin => by rw [hc]; exact hj.own hd hin, hj.was, hj.bare, Nat.le_succ_of_le hj.len, ⟨hj.ep.1, by have := hj.ep.2; show _ ≤ W.epoch + 1; simp only [wfix] at *; omega⟩⟩
  · have := h.ep
    show 1 ≤ W.epoch + 1 ∧ W.epoch + 1 ≤ _
    omega
theorem phi_fix {W : WS} {n : Nat} {B : Int} (h : Inv W n B) : PhiW (wfix W (-1)) = W.net.way.length := by
  have : ∀ l : List MsgD, (∀ m ∈ l, m.epoch ≤ W.epoch) → (l.map (phi (wfix W (-1)).conf (wfix W (-1)).epoch)).sum = l.length := by
    intro l
    induction l with
    | nil => simp
    | cons x l ih =>
      intro hl
      have h1 := hl x (by simp)
      have h2 : phi (wfix W (-1)).conf (wfix W (-1)).epoch x = 1 := by
        unfold phi
        rw [if_neg (by show ¬ x.epoch = W.epoch + 1; omega)]
      have h3 := ih (fun y hy => hl y (by simp [hy]))
      simp only [List.map_cons, List.sum_cons, List.length_cons, h2, h3]
      omega
  exact this _ (fun m hm => (h.old m hm).1)
/-- So many were told. -/
def BecI (W : WS) (k : Nat) : Prop := ∀ i, i < 5 → (i < k → W.down i = false → (W.node i).epoch = W.epoch ∧ (W.node i).nodes = W.conf) ∧ (k ≤ i → (W.node i).epoch < W.epoch)
theorem BecI.start {W : WS} {n : Nat} {B : Int} (h : Inv W n B) : BecI (wfix W (-1)) 0 := fun i hi => ⟨fun q => by omega, fun _ => by have := (h.each i hi).ep.2; show (W.node i).epoch < W.epoch + 1; omega⟩
theorem BecI.step {W : WS} {k : Nat} (h : BecI W k) (hk : k < 5) : BecI (wbec W k) (k + 1) := by
  have hrest : (wbec W k).down = W.down ∧ (wbec W k).conf = W.conf ∧ (wbec W k).epoch = W.epoch := by
    unfold wbec; split
    · exact ⟨rfl, rfl, rfl⟩
    split <;> exact ⟨rfl, rfl, rfl⟩
  obtain ⟨r1, r2, r3⟩ := hrest
  intro i hi
  rw [r1, r2, r3]
  have hlt := (h k hk).2 (Nat.le_refl _)
  by_cases hd : W.down k = true
  · have e : wbec W k = W := by rw [wbec, if_pos hd]
    rw [e]
    refine ⟨fun q hd' => ?_, fun q => (h i hi).2 (by omega)⟩
    by_cases ei : i = k
    · subst ei; rw [hd] at hd'; cases hd'
    · exact (h i hi).1 (by omega) hd'
  · have e : wbec W k = wnode W k (tickN (becN (W.node k) W.epoch W.conf)) := by rw [wbec, if_neg hd, if_neg (by omega)]
    rw [e]
    show (i < k + 1 → W.down i = false → (setF W.node k _ i).epoch = W.epoch ∧ (setF W.node k _ i).nodes = W.conf) ∧ (k + 1 ≤ i → (setF W.node k _ i).epoch < W.epoch)
    obtain ⟨_, b2, b3⟩ := bec_rest (W.node k) W.epoch W.conf
    by_cases ei : i = k
    · subst ei
      rw [setF_same, tick_epoch, tick_nodes]
      exact ⟨fun _ _ => ⟨b3, b2⟩, fun q => by omega⟩
    · rw [setF_ne _ _ ei]
      exact ⟨fun q hd' => (h i hi).1 (by omega) hd', fun q => (h i hi).2 (by omega)⟩
theorem BecI.cfg {W : WS} (h : BecI W 5) : Cfg W := fun i hi hd => (h i hi).1 hi hd
theorem phi_bec {W : WS} {k : Nat} (hc : W.conf.length ≤ 5) : PhiW (wbec W k) ≤ PhiW W + 1212 := by
  unfold wbec
  split
  · omega
  split
  · omega
  · exact phi_sent hc (tick_len _)
/-- What holds ahead of a round. -/
structure RInv (r : Nat) (W : WS) : Prop where
  cfg : Cfg W
  few : r = 0 → PhiW W ≤ 6260
  none_ : 1 ≤ r → W.net.way = []
  eq : 2 ≤ r → AllEq W
  st : 3 ≤ r → ∀ x ∈ W.conf, (W.node x.toNat).stable = lenI W x
/-- What holds while nodes tick. -/
structure TInv (r : Nat) (W0 W : WS) (k : Nat) : Prop where
  cfg : Cfg W
  few : PhiW W ≤ 6260 + 1212 * k
  cf : W.conf = W0.conf
  tick : 1 ≤ r → TickI W0 W (W0.conf.take k) (W0.conf.drop k)
/-- What holds while messages are brought. -/
structure DInv (r : Nat) (W : WS) (c : Nat) : Prop where
  cfg : Cfg W
  few : PhiW W + c ≤ 20000
  heal : 1 ≤ r → ∃ l, Heal W l (2 ≤ r)
section
variable {W0 W : WS} {n : Nat} {B : Int} {r : Nat}
theorem RInv.start (h : RInv r W) : TInv r W W 0 := by
  refine ⟨h.cfg, ?_, rfl, fun q => ?_⟩
  · by_cases e : r = 0
    · have := h.few e; omega
    · rw [phi_none (h.none_ (by omega))]; omega
  · have := TickI.start (h.none_ q)
    simpa using this
theorem TInv.step {k : Nat} {x : Int} (h : TInv r W0 W k) (hI0 : Inv W0 n B) (hC0 : Cfg W0) (hx : W0.conf[k]? = some x) : TInv r W0 (wnode W x.toNat (tickN (W.node x.toNat))) (k + 1) := by
  have hk := (List.getElem?_eq_some_iff.1 hx).1
  refine ⟨h.cfg.tick _, ?_, h.cf, fun q => ?_⟩
  · have h1 := phi_sent (W := W) (i := x.toNat) (r := tickN (W.node x.toNat)) (by rw [h.cf]; exact conf_len hI0) (tick_len _)
    have h2 : 6260 + 1212 * (k + 1) = 6260 + 1212 * k + 1212 := by omega
    rw [h2]
    exact Nat.le_trans h1 (Nat.add_le_add_right h.few _)
  · have h1 := h.tick q
    have e : W0.conf.drop k = x :: W0.conf.drop (k + 1) := by
      rw [List.drop_eq_getElem_cons hk]
      rw [List.getElem?_eq_getElem hk] at hx
      simp at hx; rw [hx]
    rw [e] at h1
    have h2 := h1.step hI0 hC0
    rw [List.take_add_one, hx]
    exact h2
theorem TInv.done (h : TInv r W0 W W0.conf.length) (hR : RInv r W0) (hI0 : Inv W0 n B) (hn : n ≤ 110) : DInv r W 0 := by
  refine ⟨h.cfg, ?_, fun q => ?_⟩
  · have := h.few
    have := conf_len hI0
    omega
  · have h1 := h.tick q
    rw [List.take_length, List.drop_length] at h1
    exact ⟨_, h1.heal hI0 hR.cfg hn (fun q2 => hR.eq q2)⟩
theorem DInv.step {c : Nat} {m : MsgD} {R : List MsgD} {j : Nat} (h : DInv r W c) (hI : Inv W n B) (hn : n ≤ 110) (ht : Takes W m R j) (hst : ∀ i, i < 5 → (W.node i).stable ≤ (W.node i).log.length) : DInv r (wdr W j m) (c + 1) := by
  refine ⟨h.cfg.drain, ?_, fun q => ?_⟩
  · have := phi_drain hI h.cfg ht hn
    have := h.few
    omega
  · obtain ⟨l, hl⟩ := h.heal q
    exact ⟨l, hl.drain hI h.cfg ht hn hst⟩
theorem DInv.done {c : Nat} (h : DInv r W c) (hw : W.net.way = [] ∨ 20000 ≤ c) : RInv (r + 1) W := by
  have hw' : W.net.way = [] := by
    rcases hw with e | e
    · exact e
    · refine phi_zero ?_
      have := h.few
      omega
  refine ⟨h.cfg, fun q => by omega, fun _ => hw', fun q => ?_, fun q => ?_⟩
  · obtain ⟨l, hl⟩ := h.heal (by omega)
    exact (hl.done hw').1
  · obtain ⟨l, hl⟩ := h.heal (by omega)
    exact (hl.done hw').2 (by omega)
theorem eq_all {f : Int → Int} : ∀ {h : Int} {Y : List Int}, (∀ a b, Adj (h :: Y) a b → f a = f b) → ∀ x ∈ h :: Y, f x = f h
  | h, [], _, x, hx => by simp at hx; rw [hx]
  | h, y :: Y, hq, x, hx => by
    have h1 := hq h y ⟨[], Y, rfl⟩
    have ih := eq_all (h := y) (Y := Y) (fun a b ⟨X, Z, e⟩ => hq a b ⟨h :: X, Z, by rw [e]; simp⟩)
    rcases List.mem_cons.1 hx with rfl | hx
    · rfl
    · rw [ih x hx, h1]
/-- All have the head's log, and call it stable. -/
theorem heal_all (hI : Inv W n B) (hR : RInv 12 W) {h : Int} {Y : List Int} (hc : W.conf = h :: Y) : headN (W.node h.toNat) = true ∧ ∀ x ∈ W.conf, (W.node x.toNat).log = (W.node h.toNat).log ∧ (W.node x.toNat).stable = (W.node h.toNat).log.length := by
  have hh := conf_node hI hR.cfg (x := h) (by rw [hc]; simp)
  refine ⟨?_, fun x hx => ?_⟩
  · have := place_split (X := []) (Y := Y) hh.id (by rw [hh.ns, hc]; rfl) (by rw [hh.ns]; exact hI.nodup)
    simp [headN, this]
  · have hq := hR.eq (by omega)
    unfold AllEq at hq
    rw [hc] at hq
    have hl := eq_all hq x (by rw [← hc]; exact hx)
    have hp : (W.node x.toNat).log <+: (W.node h.toNat).log := by
      have := hI.ahead
      rw [hc, List.pairwise_cons] at this
      rw [hc] at hx
      rcases List.mem_cons.1 hx with rfl | hx
      · exact List.prefix_refl _
      · exact this.1 x hx
    have e : (W.node x.toNat).log = (W.node h.toNat).log := hp.eq_of_length (by unfold lenI at hl; omega)
    refine ⟨e, ?_⟩
    rw [hR.st (by omega) x hx]
    unfold lenI
    rw [e]
end
end Go.Proofs.Ytefhgakcffhgaab
