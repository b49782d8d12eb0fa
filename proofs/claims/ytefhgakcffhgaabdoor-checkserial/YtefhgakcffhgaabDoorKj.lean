/- Package check: Serial, of histories that are within the limits. -/
import Derived.Test.YtefhgakcffhgaabDoorKi
namespace Go.Proofs.YtefhgakcffhgaabDoor
open Go.RowKit Go.Lib Go.Maps
set_option linter.unusedVariables false

theorem finish_all (ts : List TxD) (hts : ts.length ≤ 8) (hops : ∀ t ∈ ts, t.ops.length ≤ 40) : ∀ r, FinAt ts r
  | 0 => finish_step ts hts hops 0 (fun r' h => by omega)
  | r + 1 => finish_step ts hts hops (r + 1) (fun r' h => by
      obtain rfl : r' = r := by omega
      exact finish_all ts hts hops r')
theorem long_any (a : Option Addr) (n cap : Nat) (f t : Int) (w : World) (hn : n ≤ 40) :
    Calls Tryd.prog 9 #[.agg #[.slice a n cap, .int .i64 f, .int .i64 t]] w fun e w' => e = .returned (.bool false) ∧ Mod noBlock w w' := by
  have hM : Mod noBlock w (w.alloc (.cells #[.slice a n cap, .int .i64 f, .int .i64 t] 25)) := (Mod.refl _ w).alloc _
  have hd : decide ((n : Int) > 40) = false := decide_eq_false (by omega)
  go_enter Tryd.func9, Tryd.ntmps9
  go_wp2_with fail
  go_ret
  exact ⟨retB (by first | exact hd | rfl), hM⟩
set_option maxRecDepth 100000 in
set_option maxHeartbeats 2000000 in
theorem indexTx_any (L : Nat) (tv : Value) (ts : List TxD) (w : World) (ht : TxsV w L tv ts) (hL : L ≤ w.heap.size) (hops : ∀ t ∈ ts, t.ops.length ≤ 40) :
    Calls Tryd.prog 16 #[tv, .func (.func 9) #[] #[]] w fun e w' => e = .returned (.int .i64 (-1)) ∧ Mod noBlock w w' := by
  obtain ⟨a, cap, rfl, hc1, hc2⟩ := SlR.slice ht
  unfold maxLen at hc2
  have HT := Hid.mk' ht
  clear ht
  go_enter Tryd.func16, Tryd.ntmps16
  go_wp2_with fail
  go_loopw [8] (fun i wr => ∃ k : Nat, k ≤ ts.length ∧ i = .int .i64 k ∧ Mod noBlock w wr) (fun i _ => ts.length - (intOf i).toNat)
  case atStart => exact ⟨0, Nat.zero_le _, rfl, Mod.refl _ _⟩
  case round =>
    obtain ⟨k, hk, rfl, hM⟩ := hrel
    by_cases hlt : k < ts.length
    · obtain ⟨t, ht⟩ : ∃ t, ts[k]? = some t := ⟨_, List.getElem?_eq_getElem hlt⟩
      obtain ⟨b, off, ov, rfl, hbL, hopv, hints, q0, q1, q2⟩ := HT.out.at ht
      obtain ⟨oa, ocap, rfl, _⟩ := SlR.slice hopv
      have q0' := hM.cell q0 id
      have q1' := hM.cell q1 id
      have q2' := hM.cell q2 id
      have hltI : (k : Int) < (ts.length : Int) := by omega
      have hlt0 : (0 : Int) ≤ (k : Int) := by omega
      have HLO : Hid (∀ wq, Calls Tryd.prog 9 #[.agg #[.slice oa t.ops.length ocap, .int .i64 t.frm, .int .i64 t.til]] wq fun e w' => e = .returned (.bool false) ∧ Mod noBlock wq w') := fun wq => long_any _ _ _ _ _ wq (hops t (List.mem_of_getElem? ht))
      have HM := Hid.mk' hM
      clear hopv hints q0 q1 q2 ht hM
      go_wp2_with (first
        | (go_at_call 9; refine (HLO.out _).mono ?_; rintro e w5 ⟨rfl, hm5⟩)
        | fail)
      go_roundw
      case rel => exact ⟨k + 1, by omega, by go_num, HM.out.trans hm5⟩
      case measure => simp [intOf]; omega
    · go_wp2_with fail
      go_ret
      exact ⟨rfl, hM⟩
theorem containsTx_any (L : Nat) (tv : Value) (ts : List TxD) (w : World) (ht : TxsV w L tv ts) (hL : L ≤ w.heap.size) (hops : ∀ t ∈ ts, t.ops.length ≤ 40) :
    Calls Tryd.prog 10 #[tv, .func (.func 9) #[] #[]] w fun e w' => e = .returned (.bool false) ∧ Mod noBlock w w' := by
  have HX := Hid.mk' (indexTx_any L tv ts w ht hL hops)
  obtain ⟨a, cap, rfl, hc1, hc2⟩ := SlR.slice ht
  clear ht
  go_enter Tryd.func10, Tryd.ntmps10
  go_wp2_with fail
  refine HX.out.mono ?_
  rintro e w5 ⟨rfl, hm5⟩
  go_wp2_with fail
  go_ret
  exact ⟨retB (by first | rfl | decide), hm5⟩
def bareS : Sta := fun _ => zeroVD
theorem TxsV.up {w : World} {L L' : Nat} {v : Value} {ts : List TxD} (h : TxsV w L v ts) (hL : L ≤ L') : TxsV w L' v ts := by
  have up : ∀ {α : Type} {sz : Nat} {R R' : α → List Value → Prop} {v : Value} {ds : List α}, (∀ d cs, R d cs → R' d cs) → SlR w L sz R v ds → SlR w L' sz R' v ds := fun {α sz R R' v ds} hR h => by
    obtain ⟨a, cap, h1, h2, h3, h4⟩ := h
    refine ⟨a, cap, h1, h2, h3, ?_⟩
    rcases h4 with h4 | ⟨b, off, h5, h6, h7⟩
    · exact .inl h4
    · exact .inr ⟨b, off, h5, by omega, fun i d hi => by obtain ⟨cs, k1, k2, k3⟩ := h7 i d hi; exact ⟨cs, hR d cs k1, k2, k3⟩⟩
  exact up (fun d cs ⟨v, e1, e2, e3⟩ => ⟨v, e1, up (fun _ _ h => h) e2, e3⟩) h
/-- What Serial comes to. -/
def SerialP (w : World) (ts : List TxD) (e : Ending) (w' : World) : Prop :=
  Mod noBlock w w' ∧ ((∃ ov o s, e = .returned (.tuple #[ov, .bool true, .nilIface]) ∧ IntsV w' ov (ordI o) ∧ goodR ts [] bareS o = some s ∧ Whole ts o ∧ LeastR ts [] bareS o) ∨ (e = .returned (.tuple #[.slice none 0 0, .bool false, .nilIface]) ∧ NoneFits ts [] bareS))
theorem srch_new (w : World) (tv : Value) (ts : List TxD) (ht : TxsV w w.heap.size tv ts) : SrchP ((w.alloc (.map #[] 0)).alloc (.cells #[tv, .slice none 0 0, .map (some w.heap.size)] 44)) w.heap.size (w.heap.size + 1) w.heap.size 0 tv (.slice none 0 0) ts [] bareS := by
  have hm : Mod noBlock w ((w.alloc (.map #[] 0)).alloc (.cells #[tv, .slice none 0 0, .map (some w.heap.size)] 44)) := ((Mod.refl _ w).alloc _).alloc _
  refine ⟨?_, by omega, World.ownsRow_nil _ _ _ _, ⟨.map [], (World.ownsMap_made w Tryd.prog 9 valElem).alloc _, fun k _ => rfl⟩, Nat.le_refl _, ht.mod hm (fun _ _ => id)⟩
  have := Blk.new (w.alloc (.map #[] 0)) [tv, .slice none 0 0, .map (some w.heap.size)] 44
  simpa using this
set_option maxRecDepth 100000 in
set_option maxHeartbeats 2000000 in
theorem serial_any (L : Nat) (tv : Value) (ts : List TxD) (w : World) (ht : TxsV w L tv ts) (hL : L ≤ w.heap.size) (hts : ts.length ≤ 8) (hops : ∀ t ∈ ts, t.ops.length ≤ 40) :
    Calls Tryd.prog 4 #[tv] w (SerialP w ts) := by
  obtain ⟨a, cap, rfl, hc1, hc2⟩ := SlR.slice ht
  have HC := Hid.mk' (containsTx_any L _ ts w ht hL hops)
  have hd : decide ((ts.length : Int) > 8) = false := decide_eq_false (by omega)
  have hmm := @run_makeMap Tryd.prog
  have HT := Hid.mk' ht
  have HFA := Hid.mk' (finish_all ts hts hops 8)
  clear ht
  go_enter Tryd.func4, Tryd.ntmps4
  go_wp2_with fail
  refine HC.out.mono ?_
  rintro e w1 ⟨rfl, hm1⟩
  have hz1 := hm1.size
  obtain ⟨w3, hw3⟩ : ∃ q, q = (w1.alloc (.map #[] 0)).alloc (.cells #[.slice a ts.length cap, .slice none 0 0, .map (some w1.heap.size)] 44) := ⟨_, rfl⟩
  have hS := srch_new w1 _ ts ((HT.out.mod hm1 (fun _ _ => id)).up (by omega))
  rw [← hw3] at hS
  have hm3 : Mod noBlock w1 w3 := by rw [hw3]; exact ((Mod.refl _ w1).alloc _).alloc _
  have HFN := Hid.mk' (HFA.out w1.heap.size (w1.heap.size + 1) w1.heap.size 0 _ _ [] bareS w3 hS (by simp) (by simp) (by simpa using hts) (by unfold maxLen; decide))
  have HM3 := Hid.mk' (hm1.trans hm3)
  clear HC HFA hS hm3
  go_upto_region 5 with fail
  rw [← hw3]
  clear hw3
  go_wp2_with fail
  refine HFN.out.mono ?_
  rintro e w5 ⟨ov, o, s, n, ok, rfl, hS5, -, hM5, -, hyes, hno⟩
  have HM5 : Hid (Mod noBlock w w5) := HM3.out.trans' hM5 (fun i hi e => by
    rcases e with e | e | e
    · omega
    · omega
    · simp [Value.ownBlock] at e)
  obtain ⟨va, vc, hov⟩ := own_slice hS5.row
  subst hov
  have c1 := hS5.blk.cell 1 rfl
  have z5 := hS5.blk.lt
  have HS5 := Hid.mk' hS5
  clear hS5 hM5 HFN HM3
  cases ok with
  | true =>
    obtain ⟨rest, e1, e2, e3, e4⟩ := hyes rfl
    simp only [List.nil_append] at e1
    subst e1
    have HE2 := Hid.mk' e2
    have HE3 := Hid.mk' (And.intro e3 e4)
    clear hyes hno e2 e3 e4
    go_wp2_with fail
    go_ret3
    exact ⟨HM5.out, .inl ⟨_, o, s, rfl, HS5.out.ints, HE2.out, HE3.out⟩⟩
  | false =>
    have HN := Hid.mk' (hno rfl).2.2
    clear hyes hno c1
    go_wp2_with fail
    go_ret3
    exact ⟨HM5.out, .inr ⟨rfl, HN.out⟩⟩
end Go.Proofs.YtefhgakcffhgaabDoor
