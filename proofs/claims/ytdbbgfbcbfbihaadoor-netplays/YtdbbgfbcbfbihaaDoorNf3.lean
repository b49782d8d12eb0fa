/- The document's Take. -/
import Derived.Test.YtdbbgfbcbfbihaaDoorNf2
namespace Go.Proofs.YtdbbgfbcbfbihaaDoor
open Go.RowKit Go.Lib Go.Maps

/-- An append to a row of one's own, in a region that draws its order; nothing may be appended, too. -/
theorem step_append_at {P : Program} {w : World} {ops : Array Oper} {o : Oper} {a : Act} {K : Act → World → Prop} {Q : Exit → Act → World → Prop} {E : Prop} (hgd : o.guard = none) (s x : Operand) (t : TypeId)
    (ho : o.op = .call { callee := .builtin .append, args := #[s, x], argTypes := #[t, t] })
    (base : Nat) (e : TypeId) (i : TypeInfo) (z : Value) (size bytes : Nat) (ht : P.underlying t = some (.slice e)) (hi : P.info? e = some i) (hz : i.zero = some z)
    (hsize : i.size = size) (hby : i.bytes = bytes) (hzs : z.cells.size = size) (hsz : 0 < size)
    (v : Value) (n : Nat) (xs : List Value) (hs : a.eval s = v) (hown : w.ownsRow base e size v n xs)
    (ad : Addr) (m c : Nat) (news : List Value) (hx : a.eval x = .slice (some ad) m c) (hl : news.length = m * size) (hnews : ∀ j u, news[j]? = some u → w.cell? (ad.add j) = some u) (h1 : ∀ u ∈ news, u.oneCell' = true)
    (h63 : n + m ≤ maxLen) (hbytes : (n + m) * bytes ≤ 140737488355328) (hbase : base ≤ w.heap.size)
    (h : ∀ v' w', w'.ownsRow base e size v' (n + m) (xs ++ news) → w.grownBy w' v.ownBlock → (v'.ownBlock = v.ownBlock ∨ v'.ownBlock = some w.heap.size) → K (a.put o.dst v') w') :
    if Region.wanted o (yielded ops a.tmps) = true then Oper.wp P o a w K Q else E := by
  have hw : Region.wanted o (yielded ops a.tmps) = true := by simp [Region.wanted, hgd]
  rw [if_pos hw]
  obtain ⟨v', w', hr, h2, h3, _, h5⟩ := run_append_own_at (P := P) w base t o.type e i z size bytes ht hi hz hsize hby hzs hsz v n xs hown ad m c news hl hnews h1 h63 hbytes hbase
  unfold Oper.wp
  simp [execOp, ho, resolve, invoke, builtin, hs, hx, hr, Result.andThen]
  exact h v' w' h2 h3 h5
theorem rtake_no (L g : Nat) (lv dv : Value) (s : NetS) (k : Int) (w : World) (h : RefP w L g lv dv s) (hk : hasB s k = false) :
    Calls Tryd.prog 29 #[.pointer (some ⟨g, 0, none⟩), .int .i64 k] w fun e w' => e = .returned (.tuple #[msgV zeroMsg (.slice none 0 0), .bool false]) ∧ Mod noBlock w w' := by
  obtain ⟨la, lcap, hlv⟩ := h.row.slice
  subst hlv
  have c0 := h.blk.cell 0 rfl
  have hgz := h.blk.lt
  have hk' : k < 0 ∨ 0 ≤ k ∧ (s.way.length : Int) ≤ k := by
    simp [hasB] at hk; omega
  clear h hk
  go_enter Tryd.func29, Tryd.ntmps29
  rcases hk' with h1 | ⟨h1, h2⟩
  · have hd : decide (k < 0) = true := decide_eq_true h1
    go_wp2_with fail
    refine bodyPost_ret (res_cell_tmp Tryd.results29 _ ⟨w.heap.size, 0, none⟩ rfl rfl (load_msg (Blk.new w _ _))) rfl ⟨rfl, (Mod.refl _ w).alloc _⟩
  · have hd : decide (k < 0) = false := decide_eq_false (by omega)
    have hd2 : decide ((s.way.length : Int) ≤ k) = true := decide_eq_true h2
    go_wp2_with fail
    refine bodyPost_ret (res_cell_tmp Tryd.results29 _ ⟨w.heap.size, 0, none⟩ rfl rfl (load_msg (Blk.new w _ _))) rfl ⟨rfl, (Mod.refl _ w).alloc _⟩
/-- A row of messages, ahead of one of them and behind it. -/
theorem RowM.split {w : World} {L : Nat} {v : Value} {m1 m2 : List MsgD} {m : MsgD} (h : RowM w L v (m1 ++ m :: m2)) :
    ∃ g cap us1 us2, v = .slice (some ⟨g, 0, none⟩) (m1.length + 1 + m2.length) cap ∧ m1.length + 1 + m2.length ≤ cap ∧ cap ≤ maxLen ∧ us1.length = m1.length ∧ us2.length = m2.length ∧
      (∀ (j : Nat) x, (msgsCells m1 us1)[j]? = some x → w.cell? ⟨g, j, none⟩ = some x) ∧ (∀ (j : Nat) x, (msgsCells m2 us2)[j]? = some x → w.cell? ⟨g, (m1.length + 1) * 9 + j, none⟩ = some x) ∧
      (∀ (i : Nat) m u, m1[i]? = some m → us1[i]? = some u → PairsT w L u m.cmd.writes) ∧ (∀ (i : Nat) m u, m2[i]? = some m → us2[i]? = some u → PairsT w L u m.cmd.writes) ∧ (∀ x ∈ m1 ++ m :: m2, goodM x) := by
  obtain ⟨us, hus, hrow, hps, hgd⟩ := h
  have hlen : (m1 ++ m :: m2).length = m1.length + 1 + m2.length := by simp; omega
  rcases hrow.2 with ⟨_, h0⟩ | ⟨g, cap, cur, rfl, hLg, hg, hcap, hcm, hcs, htk⟩
  · simp at h0
  have hc := hrow.cells (g := g) rfl
  rw [hlen] at hcap hus
  obtain ⟨us1, u, us2, husp, hl1, hl2⟩ : ∃ us1 u us2, us = us1 ++ u :: us2 ∧ us1.length = m1.length ∧ us2.length = m2.length := by
    have h1 : m1.length < us.length := by omega
    refine ⟨us.take m1.length, us[m1.length], us.drop (m1.length + 1), ?_, by rw [List.length_take]; omega, by rw [List.length_drop]; omega⟩
    rw [← List.drop_eq_getElem_cons h1, List.take_append_drop]
  subst husp
  have hcells : msgsCells (m1 ++ m :: m2) (us1 ++ u :: us2) = msgsCells m1 us1 ++ (msgCells m u ++ msgsCells m2 us2) := by
    rw [msgsCells_append _ _ _ _ hl1, msgsCells]
  have lA := msgsCells_len m1 us1 hl1
  rw [hcells] at hc
  refine ⟨g, cap, us1, us2, by rw [hlen], hcap, hcm, hl1, hl2, fun j x hx => ?_, fun j x hx => ?_, fun i m' u' k1 k2 => ?_, fun i m' u' k1 k2 => ?_, hgd⟩
  · have hj := (List.getElem?_eq_some_iff.1 hx).1
    have := hc j x (by rw [List.getElem?_append_left hj]; exact hx)
    rw [Go.WideShapes.add_plain, Nat.zero_add] at this; exact this
  · have := hc ((m1.length + 1) * 9 + j) x (by
      rw [List.getElem?_append_right (by omega), lA, List.getElem?_append_right (by simp [msgCells]; omega)]
      rw [show (m1.length + 1) * 9 + j - m1.length * 9 - (msgCells m u).length = j by simp [msgCells]; omega]; exact hx)
    rw [Go.WideShapes.add_plain, Nat.zero_add] at this; exact this
  · have hi := (List.getElem?_eq_some_iff.1 k1).1
    exact hps i m' u' (by rw [List.getElem?_append_left hi]; exact k1) (by rw [List.getElem?_append_left (by omega)]; exact k2)
  · exact hps (m1.length + 1 + i) m' u' (by rw [List.getElem?_append_right (by omega), show m1.length + 1 + i - m1.length = i + 1 by omega, List.getElem?_cons_succ]; exact k1) (by rw [List.getElem?_append_right (by omega), hl1, show m1.length + 1 + i - m1.length = i + 1 by omega, List.getElem?_cons_succ]; exact k2)
theorem own_lower {w : World} {B L : Nat} {e : TypeId} {size n : Nat} {v : Value} {xs : List Value} (h : w.ownsRow B e size v n xs) (hL : L ≤ B) : w.ownsRow L e size v n xs := by
  obtain ⟨h1, h2⟩ := h
  refine ⟨h1, ?_⟩
  rcases h2 with h2 | ⟨g, cap, cur, e1, hb, h3⟩
  · exact .inl h2
  · exact .inr ⟨g, cap, cur, e1, Nat.le_trans hL hb, h3⟩
/-- The row made anew, stored: what is left behind a Take. -/
theorem rtake_fin {w w4 : World} {L g k b bcap : Nat} {dv v4 : Value} {s : NetS} {m : MsgD} {m1 m2 : List MsgD} {us1 us2 : List Value} (h : RefP w L g (.slice (some ⟨b, 0, none⟩) s.way.length bcap) dv s) (hm4 : Mod noBlock w w4) (hown : w4.ownsRow w.heap.size 26 9 v4 (0 + k + (s.way.length - (k + 1))) ([] ++ msgsCells m1 us1 ++ msgsCells m2 us2))
    (hk : k < s.way.length) (hl1 : m1.length = k) (hl2 : m2.length = s.way.length - (k + 1)) (hu1 : us1.length = m1.length) (hu2 : us2.length = m2.length)
    (hp1 : ∀ (i : Nat) m u, m1[i]? = some m → us1[i]? = some u → PairsT w L u m.cmd.writes) (hp2 : ∀ (i : Nat) m u, m2[i]? = some m → us2[i]? = some u → PairsT w L u m.cmd.writes) (hgd : ∀ x ∈ m1 ++ m :: m2, goodM x) (her : s.way.eraseIdx k = m1 ++ m2) :
    RefP (w4.setCell ⟨g, 0, none⟩ v4) L g v4 dv (dropS s k) ∧ Mod (refMay g (.slice (some ⟨b, 0, none⟩) s.way.length bcap) dv) w (w4.setCell ⟨g, 0, none⟩ v4) ∧ Moved w (.slice (some ⟨b, 0, none⟩) s.way.length bcap) v4 := by
  have hR : RowM w4 L v4 (m1 ++ m2) := by
    have hlw : L ≤ w.heap.size := Nat.le_trans h.low (Nat.le_of_lt h.blk.lt)
    refine ⟨us1 ++ us2, by simp [hu1, hu2], ?_, fun i x u hi hu => ?_, fun x hx => hgd x ?_⟩
    · have := own_lower hown hlw
      rw [msgsCells_append _ _ _ _ hu1]
      rw [List.nil_append, show 0 + k + (s.way.length - (k + 1)) = (m1 ++ m2).length by rw [List.length_append]; omega] at this
      exact this
    · by_cases hlt : i < m1.length
      · rw [List.getElem?_append_left hlt] at hi
        rw [List.getElem?_append_left (by omega)] at hu
        exact (hp1 i x u hi hu).mod hm4 (Qm.none _ _)
      · rw [List.getElem?_append_right (by omega)] at hi hu
        rw [hu1] at hu
        exact (hp2 _ x u hi hu).mod hm4 (Qm.none _ _)
    · rcases List.mem_append.1 hx with e | e
      · exact List.mem_append.2 (.inl e)
      · exact List.mem_append.2 (.inr (List.mem_cons_of_mem _ e))
  have hloc : ∀ k, v4.ownBlock = some k → w.heap.size ≤ k := fun k hk => (hown.lt k hk).1
  have hf := h.few
  have R := h.rowed (hm4.mono (fun _ _ e => e.elim)) hR (.inr hloc) (by rw [List.length_append]; omega)
  refine ⟨?_, R.2, .inr hloc⟩
  rw [dropS, her]; exact R.1

set_option maxRecDepth 100000 in
set_option maxHeartbeats 2000000 in
theorem rtake_yes (L g : Nat) (lv dv : Value) (s : NetS) (k : Nat) (m : MsgD) (w : World) (h : RefP w L g lv dv s) (hm : s.way[k]? = some m) :
    Calls Tryd.prog 29 #[.pointer (some ⟨g, 0, none⟩), .int .i64 k] w fun e w' => ∃ lv' u, e = .returned (.tuple #[msgV m u, .bool true]) ∧ RefP w' L g lv' dv (dropS s k) ∧ PairsT w' L u m.cmd.writes ∧ Moved w lv lv' ∧ Mod (refMay g lv dv) w w' := by
  obtain ⟨i0, hi, hz0, hz1, hz2⟩ := info_parts Tryd.info26
  have hk : k < s.way.length := (List.getElem?_eq_some_iff.1 hm).1
  have hfew := h.few
  obtain ⟨b, bcap, u, hv, hcb, hcm, hu, hgm, q0, q1, q2, q3, q4, q5, q6, q7, q8⟩ := h.row.at hm
  subst hv
  obtain ⟨ua, ucap, rfl⟩ : ∃ ua ucap, u = .slice ua m.cmd.writes.length ucap := by obtain ⟨ua, ucap, h, _⟩ := hu; exact ⟨ua, ucap, h⟩
  have c0 := h.blk.cell 0 rfl
  have hgz := h.blk.lt
  have hgw := hgz
  have hd1 : decide ((k : Int) < 0) = false := decide_eq_false (by omega)
  have hd2 : decide ((s.way.length : Int) ≤ (k : Int)) = false := decide_eq_false (by omega)
  have hbl : b < w.heap.size := (h.lt (.inr (.inl rfl))).2.1
  have HDW : Hid (∀ k, dv.ownBlock = some k → k < w.heap.size) := fun k hk => (h.lt (.inr (.inr hk))).2.1
  obtain ⟨w2, hw2⟩ : ∃ q, q = (w.alloc (.cells #[.int .i64 0, .int .i64 0, .int .i64 0, .int .i64 0, .int .i64 0, .int .i64 0, .int .i64 0, .int .i64 0, .slice none 0 0] 26)).alloc (.cells #[.int .i64 m.kind, .int .i64 m.frm, .int .i64 m.to, .int .i64 m.epoch, .int .i64 m.n, .int .i64 m.cmd.kind, .int .i64 m.cmd.tx, .int .i64 m.cmd.time, .slice ua m.cmd.writes.length ucap] 26) := ⟨_, rfl⟩
  have hm2 : Mod noBlock w w2 := by rw [hw2]; exact ((Mod.refl _ w).alloc _).alloc _
  have hZ2 : Blk w2 w.heap.size [.int .i64 0, .int .i64 0, .int .i64 0, .int .i64 0, .int .i64 0, .int .i64 0, .int .i64 0, .int .i64 0, .slice none 0 0] 26 := by rw [hw2]; exact (Blk.new w _ _).mod ((Mod.refl noBlock _).alloc _) id
  have hB2 : Blk w2 (w.heap.size + 1) (msgCells m (.slice ua m.cmd.writes.length ucap)) 26 := by
    rw [hw2]; have := Blk.new (w.alloc (.cells #[.int .i64 0, .int .i64 0, .int .i64 0, .int .i64 0, .int .i64 0, .int .i64 0, .int .i64 0, .int .i64 0, .slice none 0 0] 26)) (msgCells m (.slice ua m.cmd.writes.length ucap)) 26
    rw [World.size_alloc] at this; exact this
  have h2 := h.mod hm2 (Qm.none _ _) (fun _ _ => id)
  obtain ⟨m1, m2, hsp, hl1, her⟩ := split_at hm
  have hR2 : RowM w2 L (.slice (some ⟨b, 0, none⟩) s.way.length bcap) (m1 ++ m :: m2) := by rw [← hsp]; exact h2.row
  obtain ⟨b', cap', us1, us2, hv, hcap', hcm', hu1, hu2, hA, hB, hp1, hp2, hgd⟩ := hR2.split
  simp only [Value.slice.injEq, Option.some.injEq, Addr.mk.injEq] at hv
  obtain ⟨⟨rfl, _, _⟩, hln, rfl⟩ := hv
  have c2 := h2.blk.cell 0 rfl
  have f2 := h2.blk.frozen 0
  have gz2 := h2.blk.lt
  have hz2' := hm2.size
  have HZS : Hid (w2.heap.size = w.heap.size + 2) := by rw [Hid, hw2]; simp only [World.size_alloc]
  have hAP := h2.apart
  have hbl2 : b < w2.heap.size := by omega
  have lA := msgsCells_len m1 us1 hu1
  have lB := msgsCells_len m2 us2 hu2
  have oA := msgs_one m1 us1 hu1 (fun i m u k1 k2 => by obtain ⟨ua, ucap, e, _⟩ := hp1 i m u k1 k2; rw [e]; rfl)
  have oB := msgs_one m2 us2 hu2 (fun i m u k1 k2 => by obtain ⟨ua, ucap, e, _⟩ := hp2 i m u k1 k2; rw [e]; rfl)
  have HO0 : Hid ((w2.alloc (.cells #[] 26)).drew.ownsRow w2.heap.size 26 9 (.slice (some ⟨w2.heap.size, 0, none⟩) 0 0) 0 []) := World.ownsRow.drew (own_made w2 0 #[] rfl (Nat.zero_le _))
  have hmE : Mod noBlock w2 (w2.alloc (.cells #[] 26)).drew := ((Mod.refl noBlock w2).alloc _).drew
  have HA1 : Hid (∀ (j : Nat) x, (msgsCells m1 us1)[j]? = some x → (w2.alloc (.cells #[] 26)).drew.cell? ((⟨b, 0, none⟩ : Addr).add j) = some x) := fun j x hx => by
    rw [Go.WideShapes.add_plain, Nat.zero_add]; exact hmE.cell (hA j x hx) id
  rw [hl1] at lA hB hln
  have HBc := Hid.mk' hB
  have HOA := Hid.mk' oA
  have HOB := Hid.mk' oB
  have HP1 := Hid.mk' hp1
  have HP2 := Hid.mk' hp2
  have HGD := Hid.mk' hgd
  have HER := Hid.mk' her
  have HH2 := Hid.mk' h2
  have HU2 := Hid.mk' (hu.mod hm2 (Qm.none _ _))
  have HLA := Hid.mk' lA
  have hml : m2.length = s.way.length - (k + 1) := by omega
  rw [hml] at lB
  have HML := Hid.mk' hml
  have HLB := Hid.mk' lB
  have HL1 := Hid.mk' hl1
  have k63 : 0 + k ≤ maxLen := by unfold maxLen; omega
  have k47 : (0 + k) * 88 ≤ 140737488355328 := by omega
  have j63 : 0 + k + (s.way.length - (k + 1)) ≤ maxLen := by unfold maxLen; omega
  have j47 : (0 + k + (s.way.length - (k + 1))) * 88 ≤ 140737488355328 := by omega
  have hkc : k ≤ bcap := by omega
  have hkc2 : (k : Int) + 1 ≤ (s.way.length : Int) := by omega
  have hkc3 : 0 ≤ (k : Int) + 1 := by omega
  have hwr : IntKind.i64.wrap ((k : Int) + 1) = (k : Int) + 1 := by rw [IntKind.wrap_i64]; omega
  have hwt : ((k : Int) + 1).toNat = k + 1 := by omega
  have HLN := Hid.mk' hln
  unfold maxLen at hcm'
  clear hA hB oA oB hp1 hp2 hgd her lA lB h2 h hR2 hsp hl1 hu hln hmE hml hcap' hcm
  go_enter Tryd.func29, Tryd.ntmps29
  go_wp2_with fail
  rw [← hw2]
  clear hw2 q0 q1 q2 q3 q4 q5 q6 q7 q8 c0 hgz
  go_cut [] (fun wc => ∃ v6, RefP wc L g v6 dv (dropS s k) ∧ Moved w2 (.slice (some ⟨b, 0, none⟩) s.way.length bcap) v6 ∧ Mod (refMay g (.slice (some ⟨b, 0, none⟩) s.way.length bcap) dv) w2 wc ∧ Blk wc (w.heap.size + 1) (msgCells m (.slice ua m.cmd.writes.length ucap)) 26 ∧ Blk wc w.heap.size [.int .i64 0, .int .i64 0, .int .i64 0, .int .i64 0, .int .i64 0, .int .i64 0, .int .i64 0, .int .i64 0, .slice none 0 0] 26)
  case first =>
    by_cases hc1 : k + 1 < bcap
    · have hb3 : ¬ bcap = k + 1 := by omega
      go_region_law
          ((first
            | (refine step_append_at (by rfl) (.tmp 27) (.tmp 33) _ (by rfl) w2.heap.size 26 i0 _ 9 88 Tryd.underlying59 hi hz0 hz1 hz2 rfl (by omega) _ _ _ (by rfl) HO0.out ⟨b, 0, none⟩ k _ (msgsCells m1 us1) (by rfl) HLA.out HA1.out HOA.out k63 k47 (by simp) ?_; intro v3 w3 hown3 hgrow3 hloc3; have hm3 : Mod noBlock w2 w3 := (((Mod.refl noBlock w2).alloc _).drew.grown hgrow3 (fun x hx hlt => absurd hlt (by simp [Value.ownBlock] at hx; omega))); have c3 := hm3.cell c2 id; have gz3 := Nat.lt_of_lt_of_le gz2 hm3.size; have hz3 := hm3.size)
            | (refine step_append_at (by rfl) (.tmp 34) (.tmp 41) _ (by rfl) w2.heap.size 26 i0 _ 9 88 Tryd.underlying59 hi hz0 hz1 hz2 rfl (by omega) _ _ _ (by rfl) hown3 ⟨b, (k + 1) * 9, none⟩ (s.way.length - (k + 1)) _ (msgsCells m2 us2) (by rfl) HLB.out (fun j x hx => (by rw [Go.WideShapes.add_plain]; exact hm3.cell (HBc.out j x hx) id)) HOB.out j63 j47 hz3 ?_; intro v4 w4 hown4 hgrow4 hloc4; have hm4 : Mod noBlock w2 w4 := hm3.trans' ((Mod.refl (fun k => v3.ownBlock = some k) w3).grown hgrow4 (fun x hx _ => hx)) (fun i hi e => absurd (hown3.lt i e).1 (by omega)); have c4 := hm4.cell c2 id; have f4 := (hm4.frozen (p := ⟨g, 0, none⟩) gz2 id).trans f2; obtain ⟨a4, p4, hv4⟩ := own_slice hown4; subst hv4)
            | fail))
      all_goals
        have F := rtake_fin HH2.out hm4 hown4 hk HL1.out HML.out hu1 hu2 HP1.out HP2.out HGD.out HER.out
        simp only [Nat.zero_add] at F
        have HFF := Hid.mk' F
        clear F
        go_wp2_with fail
        go_meet
        case rel => exact ⟨_, HFF.out.1, HFF.out.2.2, HFF.out.2.1, (hB2.mod hm4 id).mod (Mod.setBlk g 0 _) (fun e => by simp only [oneBlock] at e; omega), (hZ2.mod hm4 id).mod (Mod.setBlk g 0 _) (fun e => by simp only [oneBlock] at e; omega)⟩
    · obtain rfl : bcap = k + 1 := by omega
      have HBN : Hid (msgsCells m2 us2 = []) := List.eq_nil_of_length_eq_zero (by rw [HLB.out]; omega)
      have HE0 : Hid (s.way.length - (k + 1) = 0) := by rw [Hid]; omega
      have HLB0 : Hid ((msgsCells m2 us2).length = 0 * 9) := by rw [Hid, HBN.out]; rfl
      have hkc4 : (s.way.length : Int) ≤ (k : Int) + 1 := by omega
      have hkc5 : (k : Int) ≤ (k : Int) + 1 := by omega
      go_region_law
          ((first
            | (refine step_append_at (by rfl) (.tmp 27) (.tmp 33) _ (by rfl) w2.heap.size 26 i0 _ 9 88 Tryd.underlying59 hi hz0 hz1 hz2 rfl (by omega) _ _ _ (by rfl) HO0.out ⟨b, 0, none⟩ k _ (msgsCells m1 us1) (by rfl) HLA.out HA1.out HOA.out k63 k47 (by simp) ?_; intro v3 w3 hown3 hgrow3 hloc3; have hm3 : Mod noBlock w2 w3 := (((Mod.refl noBlock w2).alloc _).drew.grown hgrow3 (fun x hx hlt => absurd hlt (by simp [Value.ownBlock] at hx; omega))); have c3 := hm3.cell c2 id; have gz3 := Nat.lt_of_lt_of_le gz2 hm3.size; have hz3 := hm3.size)
            | (refine step_append_at (by rfl) (.tmp 34) (.tmp 41) _ (by rfl) w2.heap.size 26 i0 _ 9 88 Tryd.underlying59 hi hz0 hz1 hz2 rfl (by omega) _ _ _ (by rfl) hown3 ⟨b, 0, none⟩ 0 _ (msgsCells m2 us2) (by rfl) HLB0.out (fun j x hx => (by rw [HBN.out] at hx; simp at hx)) HOB.out k63 k47 hz3 ?_; intro v4 w4 hown4 hgrow4 hloc4; have hm4 : Mod noBlock w2 w4 := hm3.trans' ((Mod.refl (fun k => v3.ownBlock = some k) w3).grown hgrow4 (fun x hx _ => hx)) (fun i hi e => absurd (hown3.lt i e).1 (by omega)); have c4 := hm4.cell c2 id; have f4 := (hm4.frozen (p := ⟨g, 0, none⟩) gz2 id).trans f2; obtain ⟨a4, p4, hv4⟩ := own_slice hown4; subst hv4)
            | fail))
      all_goals
        have F := rtake_fin HH2.out hm4 (by rw [HE0.out]; exact hown4) hk HL1.out HML.out hu1 hu2 HP1.out HP2.out HGD.out HER.out
        simp only [Nat.zero_add] at F
        have HFF := Hid.mk' F
        clear F
        go_wp2_with fail
        go_meet
        case rel => exact ⟨_, HFF.out.1, HFF.out.2.2, HFF.out.2.1, (hB2.mod hm4 id).mod (Mod.setBlk g 0 _) (fun e => by simp only [oneBlock] at e; omega), (hZ2.mod hm4 id).mod (Mod.setBlk g 0 _) (fun e => by simp only [oneBlock] at e; omega)⟩
  case rest =>
    have hz2s := HZS.out
    obtain ⟨v6, hR6, hmv, hm6, hBs, hZs⟩ := hcut
    obtain ⟨⟨p0, p1, p2, p3, p4, p5, p6, p7, p8⟩, _⟩ := blk9 hBs
    obtain ⟨⟨z0, z1, z2, z3, z4, z5, z6, z7, z8⟩, ⟨y0, y1, y2, y3, y4, y5, y6, y7, y8⟩⟩ := blk9 hZs
    have hlow := HH2.out.low
    have hz6 := hm6.size
    have HRR := Hid.mk' hR6
    have HV := Hid.mk' hmv
    have HM := Hid.mk' ((hm2.mono (G' := refMay g (.slice (some ⟨b, 0, none⟩) s.way.length bcap) dv) (fun _ _ e => e.elim)).trans hm6)
    have HU6 := Hid.mk' (HU2.out.mod hm6 HH2.out.qm)
    have HDV : Hid (∀ k, dv.ownBlock = some k → k < w.heap.size) := HDW
    clear hR6 hmv hm6 c2 f2 HA1 HO0 hz2s
    go_wp2_with fail
    have hq9 : Qm wc L (oneBlock w.heap.size) := fun x hx e => by
      simp only [oneBlock] at e; subst e
      have hb := hZs
      simp only [Blk] at hb
      rintro (e | ⟨cur, fr, e⟩)
      · omega
      · rw [hb] at e; simp at e
    have hz2s := HZS.out
    refine bodyPost_ret (res_cell_tmp Tryd.results29 _ ⟨w.heap.size, 0, none⟩ rfl rfl (put9_res hZs _ _ _ _ _ _ _ _ _)) rfl ⟨v6, .slice ua m.cmd.writes.length ucap, rfl, ?_, ?_, ?_, ?_⟩
    · refine HRR.out.mod (put9_only _ _ _ _ _ _ _ _ _ _ _) hq9 (fun x hx e => ?_)
      simp only [oneBlock] at e
      rcases hx with hx | hx | hx
      · omega
      · rcases HV.out with e' | e'
        · rw [e'] at hx; simp [Value.ownBlock] at hx; omega
        · have := e' x hx; omega
      · have := HDV.out x hx; omega
    · exact HU6.out.mod (put9_only _ _ _ _ _ _ _ _ _ _ _) hq9
    · rcases HV.out with e' | e'
      · exact .inl e'
      · exact .inr (fun x hx => Nat.le_trans hm2.size (e' x hx))
    · exact HM.out.trans' (put9_only _ _ _ _ _ _ _ _ _ _ _) (fun i hi e => by simp only [oneBlock] at e; omega)
end Go.Proofs.YtdbbgfbcbfbihaaDoor
