/- It all comes down: the first message under way is brought. Pure. -/
import Derived.Test.YtefhgakcffhgaabHa
namespace Go.Proofs.Ytefhgakcffhgaab
open Go.RowKit Go.Lib Go.Maps

def wdr (W : WS) (j : Nat) (m : MsgD) : WS := wnode (wnet W (dropS W.net 0)) j (stepN (W.node j) m)
structure Takes (W : WS) (m : MsgD) (R : List MsgD) (j : Nat) : Prop where
  way : W.net.way = m :: R
  lt : j < 5
  dest : small m.to → j = m.to.toNat
def PhiW (W : WS) : Nat := (W.net.way.map (phi W.conf W.epoch)).sum
section
variable {W : WS} {n : Nat} {B : Int} {m : MsgD} {R : List MsgD} {j : Nat}
theorem Takes.mem (ht : Takes W m R j) : m ∈ W.net.way := by rw [ht.way]; simp
theorem Takes.live (ht : Takes W m R j) (hI : Inv W n B) (h : m.to = (W.node j).id) : W.down j = false := by
  cases hq : W.down j with
  | false => rfl
  | true =>
    exfalso
    have h1 := (hI.dn j ht.lt).2 hq
    have h2 := (hI.old m ht.mem).2
    rw [(hI.each j ht.lt).ident] at h
    simp [silentB, h, h1] at h2
theorem wdr_node (W : WS) (j : Nat) (m : MsgD) : (wdr W j m).node = setF W.node j (stepN (W.node j) m).1 := rfl
theorem Takes.rest (ht : Takes W m R j) : (dropS W.net 0).way = R := by simp [dropS, ht.way]
theorem Inv.relen {W : WS} {n n' : Nat} {B : Int} (h : Inv W n' B) (hl : ∀ i, i < 5 → (W.node i).log.length ≤ n) (he : W.epoch ≤ n + 1) (hd : W.net.down.length ≤ n) : Inv W n B :=
  ⟨fun i hi => ⟨(h.each i hi).ident, (h.each i hi).out, (h.each i hi).nodes, (h.each i hi).own, (h.each i hi).was, (h.each i hi).bare, hl i hi, (h.each i hi).ep⟩, h.nodup, h.conf, h.some_, h.ahead, h.msgs, h.dn, h.lo, ⟨h.ep.1, he⟩, hd, h.old⟩
theorem Inv.drain (h : Inv W n B) (ht : Takes W m R j) (hn : n ≤ 110) : Inv (wdr W j m) n (B + 500) := by
  obtain ⟨hok, hd⟩ := h.msgs m ht.mem
  have h1 := (h.drop 0).step (i := j) ht.lt (m := m) hok hd (by omega)
  have h2 : Inv (wdr W j m) (n + 1) (B + 500) := h1
  refine h2.relen (fun i hi => ?_) h.ep.2 (by show (sends (dropS W.net 0) _).down.length ≤ n; rw [sends_down]; exact h.ndn)
  rw [wdr_node]
  by_cases e : i = j
  · subst e
    rw [setF_same]
    rcases step_log3 (s := W.node i) (m := m) with e | ⟨k, _, _, _, hN, e⟩
    · rw [e]; exact (h.each i hi).len
    · rw [e, grow_log]
      obtain ⟨_, hs, hl⟩ := hok
      obtain ⟨N, h3, h4⟩ := hl k
      have h5 := (List.getElem?_eq_some_iff.1 h4).1
      have h6 := (h.each m.frm.toNat (by omega)).len
      simp
      omega
  · rw [setF_ne _ _ e]; exact (h.each i hi).len
theorem Cfg.drain (hC : Cfg W) : Cfg (wdr W j m) := fun i hi hd => by
  have h1 := hC i hi hd
  show (setF W.node j (stepN (W.node j) m).1 i).epoch = W.epoch ∧ (setF W.node j (stepN (W.node j) m).1 i).nodes = W.conf
  obtain ⟨_, c2, c3⟩ := step_cfg (W.node j) m
  by_cases e : i = j
  · subst e
    rw [setF_same, c2, c3]; exact h1
  · rw [setF_ne _ _ e]; exact h1
theorem step_not {s : NodeS} {m : MsgD} (h : m.to ≠ s.id) : stepN s m = (s, []) := by
  rcases step_kinds s m with e | ⟨_, h2, _⟩
  · exact e
  · exact absurd h2 h
theorem phi_drain (hI : Inv W n B) (hC : Cfg W) (ht : Takes W m R j) (hn : n ≤ 110) : PhiW (wdr W j m) + 1 ≤ PhiW W := by
  have h1 := sum_sends (phi W.conf W.epoch) (stepN (W.node j) m).2 (dropS W.net 0)
  rw [ht.rest] at h1
  have h2 : PhiW (wdr W j m) = ((sends (dropS W.net 0) (stepN (W.node j) m).2).way.map (phi W.conf W.epoch)).sum := rfl
  have h3 : PhiW W = phi W.conf W.epoch m + (R.map (phi W.conf W.epoch)).sum := by unfold PhiW; rw [ht.way]; simp
  have h4 : ((stepN (W.node j) m).2.map (phi W.conf W.epoch)).sum + 1 ≤ phi W.conf W.epoch m := by
    by_cases e : m.to = (W.node j).id
    · obtain ⟨c1, c2⟩ := hC j ht.lt (ht.live hI e)
      have := (hI.each j ht.lt).len
      exact phi_step (conf_len hI) c2 c1 hI.nodup (by omega)
    · rw [step_not e]
      have := phi_pos W.conf W.epoch m
      simpa using this
  omega
structure ConfN (W : WS) (x : Int) : Prop where
  sm : small x
  dn : W.down x.toNat = false
  id : (W.node x.toNat).id = x
  ep : (W.node x.toNat).epoch = W.epoch
  ns : (W.node x.toNat).nodes = W.conf
theorem conf_node (hI : Inv W n B) (hC : Cfg W) {x : Int} (hx : x ∈ W.conf) : ConfN W x := by
  obtain ⟨h1, h2, _⟩ := hI.conf x hx
  obtain ⟨h3, h4⟩ := toNat_small h1
  obtain ⟨h5, h6⟩ := hC _ h3 h2
  exact ⟨h1, h2, by rw [(hI.each _ h3).ident]; exact h4, h5, h6⟩
theorem not_down (hI : Inv W n B) {i : Nat} (hi : i < 5) (hd : W.down i = false) : (i : Int) ∉ W.net.down := fun h => by
  have := (hI.dn i hi).1 h; rw [hd] at this; cases this
theorem conf_loud (hI : Inv W n B) {x : Int} (hx : x ∈ W.conf) : x ∉ W.net.down := by
  obtain ⟨h1, h2, _⟩ := hI.conf x hx
  obtain ⟨h3, h4⟩ := toNat_small h1
  have := not_down hI h3 h2
  rwa [h4] at this
theorem out_nbr {s : NodeS} {m x : MsgD} (h : x ∈ (stepN s m).2) : ∃ wh, nbrN s wh = some x.to := by
  obtain ⟨_, _, _, _, ⟨_, _, _, q, _⟩ | ⟨_, _, _, q⟩ | ⟨_, _, q⟩ | ⟨_, _, q⟩⟩ := step_out h
  · exact ⟨_, q⟩
  · exact ⟨_, q⟩
  · obtain ⟨_, _, _, ⟨_, _, q, _⟩ | ⟨_, _, q, _⟩⟩ := grow_out q
    · exact ⟨_, q⟩
    · exact ⟨_, q⟩
  · exact ⟨_, q⟩
theorem out_loud (hI : Inv W n B) (hC : Cfg W) (ht : Takes W m R j) : ∀ x ∈ (stepN (W.node j) m).2, silentB W.net.down x = false := by
  intro x hx
  obtain ⟨h1, _, _, h4, _⟩ := step_out hx
  have hd := ht.live hI h4
  obtain ⟨wh, hn⟩ := out_nbr hx
  have hm := nbrN_mem hn
  rw [(hC j ht.lt hd).2] at hm
  have h5 := not_down hI ht.lt hd
  have h6 := conf_loud hI hm
  rw [(hI.each j ht.lt).ident] at h1
  simp [silentB, h1, h5, h6]
theorem drain_way (hI : Inv W n B) (hC : Cfg W) (ht : Takes W m R j) (hr : R.length + (stepN (W.node j) m).2.length ≤ 200) : (wdr W j m).net.way = R ++ (stepN (W.node j) m).2 := by
  show (sends (dropS W.net 0) _).way = _
  rw [sends_room _ (dropS W.net 0) (out_loud hI hC ht) (by rw [ht.rest]; exact hr), ht.rest]
end
def greedy : Int → List Int → Int
  | x, [] => x
  | x, N :: Ns => greedy (if N = x then x + 1 else x) Ns
theorem greedy_app : ∀ (l l' : List Int) (x : Int), greedy x (l ++ l') = greedy (greedy x l) l'
  | [], _, _ => rfl
  | N :: l, l', x => by rw [List.cons_append, greedy, greedy, greedy_app l l']
theorem greedy_stay : ∀ (l : List Int) (x : Int), (∀ N ∈ l, N < x) → greedy x l = x
  | [], _, _ => rfl
  | N :: l, x, h => by
    have := h N (by simp)
    rw [greedy, if_neg (by omega), greedy_stay l x (fun M hM => h M (by simp [hM]))]
theorem greedy_ge : ∀ (l : List Int) (x : Int), x ≤ greedy x l
  | [], _ => Int.le_refl _
  | N :: l, x => by
    have := greedy_ge l (if N = x then x + 1 else x)
    rw [greedy]
    split at this
    · rename_i e; rw [if_pos e]; omega
    · rename_i e; rw [if_neg e]; omega
theorem greedy_le : ∀ (l : List Int) (x L : Int), x ≤ L → (∀ N ∈ l, N < L) → greedy x l ≤ L
  | [], _, _, h, _ => h
  | N :: l, x, L, h, hN => by
    have h1 := hN N (by simp)
    rw [greedy]
    refine greedy_le l _ L ?_ (fun M hM => hN M (by simp [hM]))
    split <;> omega
theorem greedy_range (f : Int) : ∀ (k : Nat) (x : Int), f ≤ x → x ≤ f + k → greedy x ((List.range k).map fun (i : Nat) => f + (i : Int)) = f + k
  | 0, x, h1, h2 => by simp [greedy]; omega
  | k + 1, x, h1, h2 => by
    rw [List.range_succ, List.map_append, greedy_app]
    by_cases e : x = f + (k + 1 : Nat)
    · rw [greedy_stay _ x (fun N hN => by
        obtain ⟨i, hi, rfl⟩ := List.mem_map.1 hN
        have := List.mem_range.1 hi
        omega)]
      simp [greedy]
      omega
    · rw [greedy_range f k x h1 (by omega)]
      simp [greedy]
      omega
def isF (E a b : Int) (m : MsgD) : Bool := decide (m.kind = 3 ∧ m.frm = a ∧ m.to = b ∧ m.epoch = E)
def fwds (E a b : Int) (way : List MsgD) : List Int := (way.filter (isF E a b)).map (·.n)
theorem fwds_app (E a b : Int) (l l' : List MsgD) : fwds E a b (l ++ l') = fwds E a b l ++ fwds E a b l' := by simp [fwds]
theorem fwds_none {E a b : Int} {l : List MsgD} (h : ∀ x ∈ l, isF E a b x = false) : fwds E a b l = [] := by
  unfold fwds
  rw [List.filter_eq_nil_iff.2 (fun x hx => by simp [h x hx])]
  rfl
theorem fwds_cons {E a b : Int} {m : MsgD} {l : List MsgD} : fwds E a b (m :: l) = if isF E a b m then m.n :: fwds E a b l else fwds E a b l := by
  unfold fwds
  rw [List.filter_cons]
  split <;> simp
theorem fwds_batch {s : NodeS} {b : Int} (f k : Nat) : fwds s.epoch s.id b (fwdL s b f k) = (List.range k).map fun (i : Nat) => (f : Int) + (i : Int) := by
  unfold fwds fwdL
  rw [List.filter_eq_self.2 (fun x hx => by
    obtain ⟨i, _, rfl⟩ := List.mem_map.1 hx
    simp [isF, fwdM]), List.map_map]
  refine List.map_congr_left (fun i _ => ?_)
  simp [fwdM]
def lenI (W : WS) (x : Int) : Int := ((W.node x.toNat).log.length : Int)
/-- A link is on its way to be mended, or will be by what is under way. -/
def LinkOK (W : WS) (a b : Int) : Prop :=
  (∃ m ∈ W.net.way, m.kind = 1 ∧ m.frm = a ∧ m.to = b ∧ m.epoch = W.epoch) ∨ (∃ m ∈ W.net.way, m.kind = 2 ∧ m.frm = b ∧ m.to = a ∧ m.epoch = W.epoch ∧ 0 ≤ m.n ∧ m.n ≤ lenI W b)
  ∨ greedy (lenI W b) (fwds W.epoch a b W.net.way) = lenI W a
structure AdjN (W : WS) (a b : Int) : Prop where
  ca : ConfN W a
  cb : ConfN W b
  ne : a ≠ b
  up : nbrN (W.node b.toNat) (-1) = some a
  dn : nbrN (W.node a.toNat) 1 = some b
  nt : tailN (W.node a.toNat) = false
  le : lenI W b ≤ lenI W a
theorem adj_node {W : WS} {n : Nat} {B : Int} (hI : Inv W n B) (hC : Cfg W) {a b : Int} (h : Adj W.conf a b) : AdjN W a b := by
  obtain ⟨X, Y, hc⟩ := h
  have ha := conf_node hI hC (x := a) (by rw [hc]; simp)
  have hb := conf_node hI hC (x := b) (by rw [hc]; simp)
  have hd := hI.nodup
  have hp := hI.ahead
  refine ⟨ha, hb, fun e => ?_, nbr_ahead hb.id (by rw [hb.ns, hc]) (by rw [hb.ns]; exact hd), nbr_next ha.id (by rw [ha.ns, hc]) (by rw [ha.ns]; exact hd), ?_, ?_⟩
  · subst e
    rw [hc, List.nodup_append] at hd
    have := hd.2.1
    simp at this
  · have := place_split (X := X) (Y := b :: Y) ha.id (by rw [ha.ns, hc]) (by rw [ha.ns]; exact hd)
    unfold tailN
    rw [this, ha.ns, hc]
    simp
    omega
  · rw [hc, List.pairwise_append, List.pairwise_cons] at hp
    have := hp.2.1.1 b (by simp)
    unfold Ahead at this
    unfold lenI
    exact_mod_cast this.length_le
end Go.Proofs.Ytefhgakcffhgaab
