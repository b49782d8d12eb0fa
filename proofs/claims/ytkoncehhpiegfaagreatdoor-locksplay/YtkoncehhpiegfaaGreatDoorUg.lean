/- The document's table: Keys. -/
import Derived.Test.YtkoncehhpiegfaaGreatDoorUf
import Derived.Laws.OwnMore
namespace Go.Proofs.YtkoncehhpiegfaaGreatDoor
open Go.RowKit Go.Lib Go.Maps Go.Sort Go.Shelf
set_option linter.unusedVariables false

/-- What sort.Strings does with keys. -/
theorem sortSs_any (B : Nat) (v : Value) (ks : List ByteArray) (w : World) (hrow : RowS w B v ks) (hn : ks.Nodup) (hl : ks.length ≤ 1000000) :
    Calls Tryz.prog 29 #[v] w fun e w' => e = .returned (.tuple #[]) ∧ ∃ ks', KeysQ w' w'.heap.size v ks' ∧ ks'.Perm ks ∧ ks'.Pairwise ltQ ∧ Mod (fun b => v.ownBlock = some b) w w' := by
  by_cases h0 : ks = []
  · subst h0
    have hv : ∃ a cap, v = .slice a 0 cap ∧ cap ≤ maxLen := by
      rcases hrow.2 with ⟨rfl, _⟩ | ⟨g, cap, cur, rfl, _, _, _, h2, _⟩
      · exact ⟨none, 0, rfl, Nat.zero_le _⟩
      · exact ⟨_, cap, rfl, h2⟩
    obtain ⟨a, cap, rfl, hc⟩ := hv
    refine Calls.mono (Any.sort_Strings_none Tryz.sortStrs a cap w) ?_
    rintro e w' ⟨rfl, rfl⟩
    exact ⟨rfl, [], ⟨a, cap, rfl, Nat.zero_le _, hc, .inl rfl⟩, List.Perm.refl _, List.Pairwise.nil, Mod.refl _ _⟩
  · have hv : ∃ g cap, v = .slice (some ⟨g, 0, none⟩) ks.length cap ∧ ks.length ≤ cap ∧ cap ≤ maxLen := by
      rcases hrow.2 with ⟨rfl, h1⟩ | ⟨g, cap, cur, rfl, _, _, h1, h2, _⟩
      · exact absurd (List.eq_nil_of_length_eq_zero h1) h0
      · exact ⟨g, cap, rfl, h1, h2⟩
    obtain ⟨g, cap, rfl, hc1, hc2⟩ := hv
    have hg : g < w.heap.size := (own_cellsVQ hrow (k := g) rfl).2.1
    have hH := holdsQ hrow
    have hcon := Any.sort_Strings Tryz.sortStrs g 0 cap (ks.map fun k => k.data.toList) w hH hg (by simp; omega)
    rw [List.length_map] at hcon
    refine Calls.mono hcon ?_
    rintro e w' ⟨rfl, n, os, rfl⟩
    obtain ⟨ts, hts⟩ : ∃ ts, ts = (ks.map fun k => k.data.toList).mergeSort fun x y => decide (x ≤ y) := ⟨_, rfl⟩
    have hp : ts.Perm (ks.map fun k => k.data.toList) := by rw [hts]; exact List.mergeSort_perm _ _
    have hnd : (ks.map fun k => k.data.toList).Nodup := by
      rw [List.nodup_iff_pairwise_ne, List.pairwise_map]
      exact List.Pairwise.imp (fun hne e => hne (bytesQ_inj e)) hn
    have hr : ts.Pairwise (· < ·) := by rw [hts]; exact msQ_rising _ hnd
    rw [← hts]
    have hlen : ts.length = ks.length := by rw [hp.length_eq, List.length_map]
    refine ⟨rfl, ts.map fun l => ⟨l.toArray⟩, ?_, ?_, ?_, (Mod.refl _ w).grown (grownBy_sortQ _) (fun x hx _ => by cases hx; rfl)⟩
    · have h0 : Holds encStr (Sort.ahead w n) g 0 (ks.map fun k => k.data.toList).toArray := hH
      have h1 : Holds encStr (putRow encStr (Sort.ahead w n) g 0 ts.toArray) g 0 ts.toArray := holds_putRow encStr (Sort.ahead w n) g 0 (ks.map fun k => k.data.toList).toArray ts.toArray h0 (by simp [hlen])
      have hgs : g < (putRow encStr (Sort.ahead w n) g 0 ts.toArray).heap.size := by simp; exact hg
      refine ⟨_, cap, by rw [List.length_map, hlen], by rw [List.length_map, hlen]; exact hc1, hc2, .inr ⟨g, 0, rfl, ?_, fun i k hi => ⟨[.string k], rfl, rfl, fun j x hx => ?_⟩⟩⟩
      · have := (grownBy_sortQ (w := w) (g := g) (n := n) (os := os) ts.toArray).size
        omega
      · have hj : j = 0 := by have := (List.getElem?_eq_some_iff.1 hx).1; simp at this; exact this
        subst hj
        simp at hx
        subst hx
        rw [List.getElem?_map] at hi
        cases hti : ts[i]? with
        | none => rw [hti] at hi; cases hi
        | some l =>
          rw [hti] at hi
          simp at hi
          have hil := (List.getElem?_eq_some_iff.1 hti).1
          have h2 := (h1 i (by simpa using hil)).1
          rw [getElem!_pos _ i (by simpa using hil)] at h2
          simp only [List.getElem_toArray] at h2
          rw [(List.getElem?_eq_some_iff.1 hti).2] at h2
          rw [cell?_grow _ _ _ hgs, show 0 + i * 1 + 0 = 0 + i by omega, h2, ← hi]
    · have h2 := hp.map fun l : List UInt8 => (⟨l.toArray⟩ : ByteArray)
      rw [List.map_map] at h2
      have h3 : ks.map ((fun l : List UInt8 => (⟨l.toArray⟩ : ByteArray)) ∘ fun k => k.data.toList) = ks := by
        conv => rhs; rw [← List.map_id ks]
        refine List.map_congr_left (fun k _ => ?_)
        simp
      rw [h3] at h2
      exact h2
    · rw [List.pairwise_map]
      exact hr
def boolElemS : Value → Option (DataW Unit × List MemPlace)
  | .bool b => some (.lit (.bool b), [])
  | _ => none
theorem boolElemS_inv {v : Value} {y : DataW Unit × List MemPlace} (h : boolElemS v = some y) : ∃ b, v = .bool b ∧ y.1 = .lit (.bool b) := by
  cases v <;> simp [boolElemS] at h
  exact ⟨_, rfl, by rw [← h]⟩
theorem zeroBS (w : World) : (zeroValue 4).run Tryz.prog w = .ok (.bool false) w := by kernel_rfl
/-- Keys that are seen. -/
def SeenS (w : World) (g n : Nat) (S : List ByteArray) : Prop := ∃ D, w.ownsMap Tryz.prog 9 boolElemS g n D ∧ ∀ k, okQ k → (has D (keyQ k) = true ↔ k ∈ S) ∧ (has D (keyQ k) = true → D.atKey (keyQ k) (.lit (.bool false)) = .lit (.bool true))
theorem SeenS.mod {G : Nat → Prop} {w w' : World} {g n : Nat} {S : List ByteArray} (h : SeenS w g n S) (hm : Mod G w w') (hG : ¬ G g) : SeenS w' g n S := by
  obtain ⟨D, h1, h2⟩ := h
  have hlt := h1.lt
  obtain ⟨es, clock, hb, r⟩ := h1
  exact ⟨D, ⟨es, clock, (hm.block g hlt hG).trans hb, r⟩, h2⟩
theorem SeenS.new (w : World) : SeenS (w.alloc (.map #[] 0)) w.heap.size 0 [] := ⟨.map [], World.ownsMap_made w Tryz.prog _ boolElemS, fun k _ => by simp [has]⟩
theorem SeenS.look {w : World} {g n : Nat} {S : List ByteArray} (h : SeenS w g n S) (k : ByteArray) (hk : okQ k) : ∃ b : Bool, (Instr.lookup 73 (.map (some g)) (.string k) false).run Tryz.prog w = .ok (.bool b) w ∧ (b = true ↔ k ∈ S) := by
  obtain ⟨D, hown, hD⟩ := h
  obtain ⟨v, ps, hrun, hv⟩ := hown.lookup kStrQ Tryz.underlying73 (zeroBS w) (zd := .lit (.bool false)) (zp := []) rfl (Go.WideMaps.keyOf_string_mk Tryz.underlying9 hk)
  obtain ⟨b, rfl, hb⟩ := boolElemS_inv hv
  obtain ⟨d1, d2⟩ := hD k hk
  refine ⟨b, hrun, ?_⟩
  simp only at hb
  rw [← d1]
  cases e : has D (keyQ k) with
  | false =>
    have e' : has D (.string k.data.toList) = false := e
    rw [atKey_of_not_has e'] at hb
    simp at hb
    rw [← hb]
  | true =>
    have e' : D.atKey (.string k.data.toList) (.lit (.bool false)) = .lit (.bool true) := d2 e
    rw [e'] at hb
    simp at hb
    rw [hb]
theorem SeenS.put {w : World} {g n : Nat} {S : List ByteArray} (h : SeenS w g n S) (k : ByteArray) (hk : okQ k) (hn : n ≤ 1000) : ∃ w', (Instr.mapUpdate 73 (.map (some g)) (.string k) (.bool true)).run Tryz.prog w = .ok () w' ∧ SeenS w' g (n + 1) (S ++ [k]) ∧ Mod (oneBlock g) w w' := by
  obtain ⟨D, hown, hD⟩ := h
  have hisM := hown.isMap
  obtain ⟨w', hrun, hown', hgrow⟩ := hown.update kStrQ Tryz.underlying73 (by unfold maxLen; omega) (Go.WideMaps.keyOf_string_mk Tryz.underlying9 hk) (val := .bool true) (d := .lit (.bool true)) (ps := []) rfl
  refine ⟨w', hrun, ⟨_, hown', fun k' hk' => ?_⟩, (Mod.refl _ w).grown hgrow (fun x hx _ => by simp only [oneBlock]; simpa using hx.symm)⟩
  by_cases e : k' = k
  · subst e
    have h1 := has_put_same hisM (k := keyQ k') (by simp [WideAt.IsKeyLit, keyQ]) (.lit (.bool true))
    have h2 := atKey_put_same hisM (k := keyQ k') (by simp [WideAt.IsKeyLit, keyQ]) (.lit (.bool true)) (.lit (.bool false))
    exact ⟨⟨fun _ => by simp, fun _ => h1⟩, fun _ => h2⟩
  · have hne : keyQ k' ≠ keyQ k := fun q => e (keyQ_inj q)
    have h1 := has_put_other (D := D) hne (.lit (.bool true))
    have h2 := atKey_put_other (D := D) hne (.lit (.bool true)) (.lit (.bool false))
    obtain ⟨d1, d2⟩ := hD k' hk'
    refine ⟨?_, fun q => ?_⟩
    · show has (D.put (keyQ k) (.lit (.bool true))) (keyQ k') = true ↔ _
      rw [h1, d1, List.mem_append, List.mem_singleton]
      exact ⟨fun h => .inl h, fun h => h.resolve_right e⟩
    · have q' : has (D.put (keyQ k) (.lit (.bool true))) (keyQ k') = true := q
      rw [h1] at q'
      exact h2.trans (d2 q')
theorem run_makeMapS (w : World) : (Instr.makeMap 73 none).run Tryz.prog w = .ok (.map (some w.heap.size)) (w.alloc (.map #[] 0)) := by kernel_rfl
/-- An append to a row of one's own, in a region that draws its order; the source may be nil. -/
theorem step_append_bothQ {P : Program} {w : World} {ops : Array Oper} {o : Oper} {a : Act} {K : Act → World → Prop} {Q : Exit → Act → World → Prop} {E : Prop} (hgd : o.guard = none) (s x : Operand) (t : TypeId)
    (ho : o.op = .call { callee := .builtin .append, args := #[s, x], argTypes := #[t, t] })
    (base : Nat) (e : TypeId) (i : TypeInfo) (z : Value) (size bytes : Nat) (ht : P.underlying t = some (.slice e)) (hi : P.info? e = some i) (hz : i.zero = some z)
    (hsize : i.size = size) (hby : i.bytes = bytes) (hzs : z.cells.size = size) (hsz : 0 < size)
    (v : Value) (n : Nat) (xs : List Value) (hs : a.eval s = v) (hown : w.ownsRow base e size v n xs)
    (v2 : Value) (m : Nat) (news : List Value) (hx : a.eval x = v2) (hsrc : (v2 = .slice none 0 0 ∧ m = 0 ∧ news = []) ∨ ∃ ad c, v2 = .slice (some ad) m c ∧ ∀ j u, news[j]? = some u → w.cell? (ad.add j) = some u) (hl : news.length = m * size) (h1 : ∀ u ∈ news, u.oneCell' = true)
    (h63 : n + m ≤ maxLen) (hbytes : (n + m) * bytes ≤ 140737488355328) (hbase : base ≤ w.heap.size)
    (h : ∀ v' w', w'.ownsRow base e size v' (n + m) (xs ++ news) → w.grownBy w' v.ownBlock → K (a.put o.dst v') w') :
    if Region.wanted o (yielded ops a.tmps) = true then Oper.wp P o a w K Q else E := by
  have hw : Region.wanted o (yielded ops a.tmps) = true := by simp [Region.wanted, hgd]
  rw [if_pos hw]
  rcases hsrc with ⟨rfl, rfl, rfl⟩ | ⟨ad, c, rfl, hnews⟩
  · have hr := run_append_owned_none (P := P) (w := w) base t o.type e i size ht hi v n xs hown
    unfold Oper.wp
    simp [execOp, ho, resolve, invoke, builtin, hs, hx, hr, Result.andThen]
    exact h v w (by simpa using hown) ⟨rfl, rfl, rfl, Nat.le_refl _, fun _ _ _ => rfl⟩
  · obtain ⟨v', w', hr, h2, h3, _, h5⟩ := run_append_own_at (P := P) w base t o.type e i z size bytes ht hi hz hsize hby hzs hsz v n xs hown ad m c news hl hnews h1 h63 hbytes hbase
    unfold Oper.wp
    simp [execOp, ho, resolve, invoke, builtin, hs, hx, hr, Result.andThen]
    exact h v' w' h2 h3
theorem RowA.src {w : World} {B : Nat} {v : Value} {l : List AskD} (h : RowA w B v l) : (v = .slice none 0 0 ∧ l.length = 0 ∧ asksCells l = []) ∨ ∃ ad c, v = .slice (some ad) l.length c ∧ ∀ j u, (asksCells l)[j]? = some u → w.cell? (ad.add j) = some u := by
  obtain ⟨hr, h3⟩ := h
  rcases hr.2 with ⟨e, hn⟩ | ⟨g, cap, cur, e, _⟩
  · exact .inl ⟨e, hn, by rw [List.eq_nil_of_length_eq_zero hn]; rfl⟩
  · subst e
    exact .inr ⟨_, cap, rfl, hr.cells (g := g) rfl⟩
/-- What is seen so far. -/
structure KeysD (w1 wr : World) (gs i : Nat) (l : List AskD) (v : Value) (ks : List ByteArray) : Prop where
  le : i ≤ l.length
  row : RowS wr w1.heap.size v ks
  nodup : ks.Nodup
  mem : ∀ k, k ∈ ks ↔ k ∈ (l.take i).map (·.key)
  len : ks.length ≤ i
  seen : SeenS wr gs ks.length ks
  mod : Mod (oneBlock gs) w1 wr
set_option maxRecDepth 100000 in
set_option maxHeartbeats 8000000 in
theorem keysd_any (B b : Nat) (hv wv : Value) (r : RefT) (w : World) (h : RtP w B b hv wv r) (hl1 : r.holds.length ≤ 400) (hl2 : r.waits.length ≤ 400) :
    Calls Tryz.prog 10 #[.pointer (some ⟨b, 0, none⟩)] w fun e w' => ∃ v ks, e = .returned v ∧ KeysQ w' w'.heap.size v ks ∧ ks.Pairwise ltQ ∧ (∀ k, k ∈ ks ↔ k ∈ (r.holds ++ r.waits).map (·.key)) ∧ ks.length ≤ 800 ∧ (∀ x, v.ownBlock = some x → w.heap.size ≤ x) ∧ Mod noBlock w w' := by
  obtain ⟨j0, hj, jz0, jz1, jz2⟩ := info_parts Tryz.info37
  obtain ⟨i0, xi, xz0, xz1, xz2⟩ := info_parts Tryz.infoSQ
  obtain ⟨w1, hw1⟩ : ∃ x, x = w.alloc (.map #[] 0) := ⟨_, rfl⟩
  obtain ⟨gs, hgs⟩ : ∃ x, x = w.heap.size := ⟨_, rfl⟩
  have hM1 : Mod noBlock w w1 := by rw [hw1]; exact (Mod.refl _ w).alloc _
  have hz1 : w1.heap.size = gs + 1 := by rw [hw1, hgs]; simp
  have hR1 := h.quiet hM1
  have HS0 : Hid (SeenS w1 gs 0 []) := by rw [hw1, hgs]; exact SeenS.new w
  obtain ⟨ha, hcap, rfl⟩ := own_slice h.h.1
  obtain ⟨wa, wcap, rfl⟩ := own_slice h.w.1
  have c0 := hR1.blk.cell 0 rfl
  have c1 := hR1.blk.cell 1 rfl
  have zb := hR1.blk.lt
  have HRH := Hid.mkq hR1.h
  have HRW := Hid.mkq hR1.w
  have HM1 := Hid.mkq hM1
  have HGS := Hid.mkq hgs
  have hmm := run_makeMapS
  generalize hlh : r.holds = l at *
  generalize hlw : r.waits = q at *
  clear h hR1 hM1
  go_enter Tryz.func10, Tryz.ntmps10
  go_upto_region 3 with fail
  rw [← hgs, ← hw1]
  have HZ1 := Hid.mkq hz1
  clear hw1 hmm hgs hz1
  have hmE : Mod noBlock w1 (w1.alloc (.cells #[] 37)).drew := ((Mod.refl _ w1).alloc _).drew
  have HME := Hid.mkq hmE
  have e0 : (w1.alloc (.cells #[] 37)).cell? ⟨b, 0, none⟩ = some (.slice ha l.length hcap) := ((Mod.refl noBlock w1).alloc _).cell c0 id
  have e1 : (w1.alloc (.cells #[] 37)).cell? ⟨b, 1, none⟩ = some (.slice wa q.length wcap) := ((Mod.refl noBlock w1).alloc _).cell c1 id
  have HOE : Hid ((w1.alloc (.cells #[] 37)).drew.ownsRow w1.heap.size 37 3 (.slice (some ⟨w1.heap.size, 0, none⟩) 0 0) 0 (asksCells [])) := ⟨rfl, .inr ⟨w1.heap.size, 0, #[], rfl, Nat.le_refl _, heap_alloc_new w1 _, Nat.le_refl _, Nat.zero_le _, rfl, rfl⟩⟩
  have HSH := Hid.mkq (HRH.out.mod HME.out (fun _ _ => id)).src
  have HLH := Hid.mkq (asksCells_len l)
  have HLW := Hid.mkq (asksCells_len q)
  have HOH := Hid.mkq (asksCells_one l)
  have HOW := Hid.mkq (asksCells_one q)
  have k63 : 0 + l.length ≤ maxLen := by unfold maxLen; omega
  have k47 : (0 + l.length) * 32 ≤ 140737488355328 := by omega
  have m63 : l.length + q.length ≤ maxLen := by unfold maxLen; omega
  have m47 : (l.length + q.length) * 32 ≤ 140737488355328 := by omega
  clear hmE
  go_cut [18, 19, 20] from 8 to 41 (fun v n i wc => RowA wc w1.heap.size v (l ++ q) ∧ n = .int .i64 ((l ++ q).length : Nat) ∧ i = .int .i64 0 ∧ Mod noBlock w1 wc)
  case first =>
    go_region_law
      ((first
        | (refine step_append_bothQ (by rfl) (.tmp 8) (.tmp 12) _ (by rfl) w1.heap.size 37 j0 _ 3 32 Tryz.underlying27 hj jz0 jz1 jz2 rfl (by omega) _ _ _ (by rfl) HOE.out (.slice ha l.length hcap) l.length (asksCells l) (by rfl) HSH.out HLH.out HOH.out k63 k47 (by simp) ?_; intro v3 w3 hown3 hgrow3; rw [Nat.zero_add] at hown3; have hm3 : Mod noBlock w1 w3 := (((Mod.refl noBlock w1).alloc _).drew.grown hgrow3 (fun x hx hlt => absurd hlt (by simp [Value.ownBlock] at hx; omega))); have d1 := hm3.cell c1 id; have d0 := hm3.cell c0 id; have dz := Nat.lt_of_lt_of_le zb hm3.size; obtain ⟨a3, cp3, hv3⟩ := own_slice hown3; subst hv3; have hsw := (HRW.out.mod hm3 (fun _ _ => id)).src; have hz3 := hm3.size)
        | (refine step_append_bothQ (by rfl) (.tmp 13) (.tmp 17) _ (by rfl) w1.heap.size 37 j0 _ 3 32 Tryz.underlying27 hj jz0 jz1 jz2 rfl (by omega) _ _ _ (by rfl) hown3 (.slice wa q.length wcap) q.length (asksCells q) (by rfl) hsw HLW.out HOW.out m63 m47 hz3 ?_; intro v4 w4 hown4 hgrow4; have hm4 : Mod noBlock w1 w4 := hm3.grown hgrow4 (fun x hx hlt => absurd hlt (by have := (own_cellsVQ hown3 hx).1; omega)); obtain ⟨a4, cp4, hv4⟩ := own_slice hown4; subst hv4)
        | fail))
    all_goals
      have HW4 : Hid (RowA w4 w1.heap.size (.slice a4 (l.length + q.length) cp4) (l ++ q)) := ⟨by rw [List.length_append, asksCells_app]; simpa [asksCells] using hown4, fun o ho => (List.mem_append.1 ho).elim (HRH.out.2 o) (HRW.out.2 o)⟩
      have HM4 := Hid.mkq hm4
      clear hown4 hgrow4 hm4 hown3 hgrow3 hm3 hsw
      go_wp2_with fail
      go_meet
      case rel => exact ⟨HW4.out, by simp, rfl, HM4.out⟩
  case rest =>
    obtain ⟨hrow, rfl, rfl, hmc⟩ := hcut
    obtain ⟨va, vcap, rfl⟩ := own_slice hrow.1
    have HVV := Hid.mkq (hrow.toV (Nat.le_refl _))
    have hsz : (l ++ q).length ≤ 800 := by rw [List.length_append]; omega
    have hok : ∀ d ∈ l ++ q, okQ d.key := hrow.2
    have HOK := Hid.mkq hok
    have HK0 : Hid (KeysD wc wc gs 0 (l ++ q) (.slice none 0 0) []) := ⟨Nat.zero_le _, World.ownsRow_nil _ _ _ _, by simp, fun k => by simp, Nat.le_refl _, HS0.out.mod hmc id, Mod.refl _ _⟩
    have HMC := Hid.mkq hmc
    have hzc := hmc.size
    have HVB : Hid (∀ x, (Value.slice va (l ++ q).length vcap).ownBlock = some x → w1.heap.size ≤ x) := fun x hx => (own_cellsVQ hrow.1 hx).1
    clear hrow hmc hok c0 c1 e0 e1 HOE HSH HLH HLW HOH HOW k63 k47 m63 m47 HME HS0 HRH HRW
    generalize hall : l ++ q = all at *
    obtain ⟨wo, hwo⟩ : ∃ x, x = wc := ⟨_, rfl⟩
    subst hwo
    go_wp2_with fail
    go_loopw [4, 20] (fun v i0 wr => ∃ (i : Nat) (ks : List ByteArray), i0 = .int .i64 i ∧ KeysD wo wr gs i all v ks) (fun _ i0 _ => all.length - (intOf i0).toNat)
    case atStart => exact ⟨0, [], rfl, HK0.out⟩
    case round =>
      obtain ⟨i, ks, rfl, hL⟩ := hrel
      clear HK0
      obtain ⟨wk, hwk⟩ : ∃ q, q = wr := ⟨_, rfl⟩
      subst hwk
      have HL := Hid.mkq hL
      obtain ⟨la, lcap, hlv⟩ := own_slice hL.row
      subst hlv
      have hlen := hL.len
      have hle := hL.le
      by_cases hlt : i < all.length
      · have hltI : (i : Int) < (all.length : Int) := by omega
        have hlt0 : (0 : Int) ≤ (i : Int) := by omega
        obtain ⟨x, hx⟩ : ∃ x, all[i]? = some x := ⟨_, List.getElem?_eq_getElem hlt⟩
        have hxo : okQ x.key := HOK.out x (List.mem_of_getElem? hx)
        obtain ⟨g, off, rfl, _, _, q0, q1, q2⟩ := HVV.out.at hx
        have hgz : w1.heap.size ≤ g := HVB.out g rfl
        have hgn : ¬ oneBlock gs g := fun e => by simp only [oneBlock] at e; have := HZ1.out; omega
        have p0 := hL.mod.cell q0 hgn
        have p1 := hL.mod.cell q1 hgn
        have p2 := hL.mod.cell q2 hgn
        have HX := Hid.mkq hx
        obtain ⟨wb, hwb⟩ : ∃ q, q = wk.alloc (.cells #[.int .i64 x.tx, .string x.key, .int .i64 x.mode] 37) := ⟨_, rfl⟩
        obtain ⟨vb, hvb⟩ : ∃ q, q = wk.heap.size := ⟨_, rfl⟩
        have hBV : Blk wb vb (askCells x) 37 := by rw [hwb, hvb]; exact Blk.new wk (askCells x) 37
        have hmb : Mod noBlock wk wb := by rw [hwb]; exact (Mod.refl _ wk).alloc _
        have hSn := hL.seen.mod hmb id
        obtain ⟨bs, hlook, hbs⟩ := hSn.look x.key hxo
        obtain ⟨w3, hrun3, hS3, hm3⟩ := hSn.put x.key hxo (by omega)
        have hvbg : vb ≠ gs := by have h1 := hL.mod.size; have h2 := HZ1.out; omega
        have b0 := hBV.cell 1 rfl
        have bz := hBV.lt
        have b0' := hm3.cell b0 (by simp only [oneBlock]; exact hvbg)
        have bz' := Nat.lt_of_lt_of_le bz hm3.size
        have hm13 : Mod (oneBlock gs) wo w3 := (hL.mod.trans' hmb (fun _ _ e => e.elim)).trans hm3
        have hrow3 : w3.ownsRow wo.heap.size 9 1 (.slice la ks.length lcap) ks.length (ks.map Value.string) := own_mod (own_mod hL.row hmb (fun _ _ _ _ => id)) hm3 (fun k hk _ _ e => by simp only [oneBlock] at e; have := HZ1.out; omega)
        have HROW3 := Hid.mkq hrow3
        have HM13 := Hid.mkq hm13
        have HS3 := Hid.mkq hS3
        have HBS := Hid.mkq hbs
        have HMB := Hid.mkq hmb
        have hk63 : ks.length + 1 ≤ maxLen := by unfold maxLen; omega
        have hk47 : (ks.length + 1) * 16 ≤ 140737488355328 := by omega
        have HOE : Hid (∀ u ∈ [Value.string x.key], u.oneCell' = true) := fun u hu => by simp at hu; rw [hu]; rfl
        have hz3 := hm13.size
        clear hL hx hBV hmb hSn hbs hS3 hm3 hm13 hrow3 q0 q1 q2
        go_upto_region 6 with fail
        rw [← hvb, ← hwb]
        clear hwb hvb p0 p1 p2
        cases bs with
        | true =>
          go_wp2_with fail
          go_roundw
          case rel =>
            refine ⟨i + 1, ks, by go_num, by omega, own_mod HL.out.row HMB.out (fun _ _ _ _ => id), HL.out.nodup, fun k => ?_, by omega, HL.out.seen.mod HMB.out id, HL.out.mod.trans' HMB.out (fun _ _ e => e.elim)⟩
            rw [HL.out.mem, take_snocQ HX.out, List.map_append, List.mem_append]
            constructor
            · exact fun h => .inl h
            · rintro (h | h)
              · exact h
              · simp at h
                rw [h, ← HL.out.mem]
                exact HBS.out.1 rfl
          case measure => simp [intOf]; omega
        | false =>
          have HNX : Hid (x.key ∉ ks) := fun q => by have := HBS.out.2 q; cases this
          go_wp2_with (first
            | (at_builtin; refine wpList_append_own_at _ rfl (.tmp 32) (.tmp 35) 48 rfl wo.heap.size 9 i0 _ 1 16 Tryz.underlying48 xi xz0 xz1 xz2 rfl (by omega) _ _ _ rfl (HROW3.out.alloc _) ⟨w3.heap.size, 0, none⟩ 1 1 [.string x.key] rfl rfl (World.news_of_block (heap_alloc_new w3 _)) HOE.out hk63 hk47 (by simp; omega) ?_)
            | fail)
          intro v7 w7 hown7 hgrow7 _ hat7
          have hgr : Mod (fun b => (Value.slice la ks.length lcap).ownBlock = some b) w3 w7 := ((Mod.refl _ w3).alloc _).grown hgrow7 (fun y hy _ => hy)
          have HM7 : Hid (Mod (oneBlock gs) wo w7) := HM13.out.trans' hgr (fun y hy e => by have := (own_cellsVQ HROW3.out e).1; omega)
          have HS7 := Hid.mkq (HS3.out.mod hgr (fun e => by have h1 := (own_cellsVQ HROW3.out e).1; have h2 := HZ1.out; omega))
          obtain ⟨a7, cap7, hv7⟩ := own_slice hown7
          subst hv7
          have HW7 := Hid.mkq hown7
          clear hown7 hgrow7 hat7 hgr
          go_wp2_with fail
          go_roundw
          case rel =>
            refine ⟨i + 1, ks ++ [x.key], by go_num, by omega, by unfold RowS; rw [List.length_append, List.map_append]; exact HW7.out, ?_, fun k => ?_, by rw [List.length_append]; simp; omega, by rw [List.length_append]; exact HS7.out, HM7.out⟩
            · rw [List.nodup_append]
              refine ⟨HL.out.nodup, by simp, fun a ha b hb e => ?_⟩
              simp at hb
              subst hb
              subst e
              exact HNX.out ha
            · rw [List.mem_append, HL.out.mem, take_snocQ HX.out, List.map_append, List.mem_append]
              simp
          case measure => simp [intOf]; omega
      · obtain rfl : i = all.length := by omega
        have HSK := Hid.mkq (sortSs_any wo.heap.size _ ks wk hL.row hL.nodup (by omega))
        have HRB : Hid (∀ b, (Value.slice la ks.length lcap).ownBlock = some b → wo.heap.size ≤ b) := fun b hb => (own_cellsVQ hL.row hb).1
        have hmem : ∀ k, k ∈ ks ↔ k ∈ all.map (·.key) := fun k => by have := hL.mem k; rw [List.take_of_length_le (Nat.le_refl _)] at this; exact this
        have HMEM := Hid.mkq hmem
        have HMW : Hid (Mod noBlock w wk) := (HM1.out.trans HMC.out).trans' hL.mod (fun y hy e => by simp only [oneBlock] at e; have := HGS.out; omega)
        have hz01 := (HM1.out.trans HMC.out).size
        clear hL hmem
        go_wp2_with (first | (go_at_call 29; refine HSK.out.mono ?_; rintro e w5 ⟨rfl, ks', hkv, hperm, hrise, hm5⟩) | fail)
        have HFIN : Hid (KeysQ w5 w5.heap.size (.slice la ks.length lcap) ks' ∧ ks'.Pairwise ltQ ∧ (∀ k, k ∈ ks' ↔ k ∈ (l ++ q).map (·.key)) ∧ ks'.length ≤ 800 ∧ (∀ x, (Value.slice la ks.length lcap).ownBlock = some x → w.heap.size ≤ x) ∧ Mod noBlock w w5) :=
          ⟨hkv, hrise, fun k => by rw [hperm.mem_iff, hall]; exact HMEM.out k, by rw [hperm.length_eq]; omega, fun x hx => Nat.le_trans hz01 (HRB.out x hx), HMW.out.trans' hm5 (fun y hy e => by have := HRB.out y e; omega)⟩
        clear hkv hperm hrise hm5
        go_wp2_with fail
        go_ret
        exact ⟨_, ks', rfl, HFIN.out⟩
end Go.Proofs.YtkoncehhpiegfaaGreatDoor
