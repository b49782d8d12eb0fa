/- Package mv: Trim. -/
import Derived.Test.YtefhgakcffhgaaaDoorMh
namespace Go.Proofs.YtefhgakcffhgaaaDoor
open Go.RowKit Go.Lib Go.Maps
set_option linter.unusedVariables false

section
open Go.ChangeMaps Go.MapKept Go.WideShapes
open Go.WideElems (Fit rd rg pl rd_key rd_val rg_of other_key)
/-- 'm[k] = v' in a walk over m, at a key that is there. -/
theorem ranges_put {H : Type} {P : Program} {k t e : TypeId} {R : Value → Option (DataW H × List MemPlace)} {w : World} {b r n : Nat} {D : DataW H} {left : Lit → Bool} {cnt : Nat} (h : w.ranges P k R b r n D left cnt) (K : Keyed P k) (ht : P.underlying t = some (.map k e)) {key val : Value} {kl : Lit} {d : DataW H} {ps : List MemPlace}
    (hkey : keyOf P k key = some kl) (hv : R val = some (d, ps)) (hth : has D kl = true) (hn : n < maxLen) : ∃ w', (Instr.mapUpdate t (.map (some b)) key val).run P w = .ok () w' ∧ w'.ranges P k R b r n (D.put kl d) left cnt ∧ w.grownBy w' (some b) := by
  have hne := h.ne
  obtain ⟨es, clock, since, seen, c0, hb, F, hs, rfl, hr, hold, rfl, hl1, hl2, hsc, hsk⟩ := h
  obtain ⟨es', clock', hrun, F', hput, _⟩ := Maps.fit_store (R' := R) K ht hb F (Nat.lt_of_le_of_lt hs hn) (fun _ _ _ _ hz => hz) hkey hv
  rcases K.find w hkey es.toList F.keys with ⟨h1, h2⟩ | ⟨j, e0, h1, h2, h3⟩
  · exfalso
    obtain ⟨p, hp, hpk⟩ := List.any_eq_true.1 hth
    obtain ⟨x, hx, rfl⟩ := List.mem_map.1 (mem_sorted.1 hp)
    obtain ⟨y, hy⟩ := F.reads x hx
    have e1 := WideAt.sameKey_eq hpk
    rw [rg_of hy] at e1
    exact h2 x hx (K.inj (e1 ▸ rd_key hy) hkey)
  · have hrun2 : (Instr.mapUpdate t (.map (some b)) key val).run P w = .ok () (setBlock w b (.map (es.modify j (fun e' => { e' with key := key, val := val })) clock)) := by
      have hj : es[j]? = some e0 := by simpa using h2
      simp [Instr.mapUpdate, run_underlying ht, MapKept.run_getObj_map hb, K.check w false hkey, h1, hj, h3, K.stays w hkey, MapKept.run_setObj_map _ hb, Result.andThen, setBlock]
    have hww : setBlock w b (.map es' clock') = setBlock w b (.map (es.modify j (fun e' => { e' with key := key, val := val })) clock) := by
      have := hrun.symm.trans hrun2
      simpa using this
    have hbb : some (Obj.map es' clock') = some (Obj.map (es.modify j (fun e' => { e' with key := key, val := val })) clock) := by
      rw [← heap_setBlock_same hb (.map es' clock'), hww, heap_setBlock_same hb]
    simp only [Option.some.injEq, Obj.map.injEq] at hbb
    obtain ⟨he, hc⟩ := hbb
    subst hc
    have hlist : es'.toList = es.toList.set j { e0 with key := key, val := val } := by rw [he, Array.toList_modify, Go.ChangeMaps.modify_eq_set _ _ _ _ h2]
    have hjl : j < es.toList.length := (List.getElem?_eq_some_iff.1 h2).1
    have hm0 : e0 ∈ es.toList := List.mem_of_getElem? h2
    have hborn : es'.toList.map (·.born) = es.toList.map (·.born) := by
      rw [hlist, List.map_set]
      apply List.ext_getElem?
      intro i
      by_cases e : i = j
      · subst e
        rw [List.getElem?_set_self (by simpa using hjl), List.getElem?_map, h2]
        rfl
      · rw [List.getElem?_set_ne (fun q => e q.symm)]
    have hcnt : ∀ a : Array MapEntry, (leftOf a seen).size = ((a.toList.map (·.born)).filter fun n => !seen.contains n).length := fun a => by
      unfold leftOf
      rw [← Array.length_toList, Array.toList_filter, List.filter_map, List.length_map]
      rfl
    have hnew : ∀ x ∈ es'.toList, x = { e0 with key := key, val := val } ∨ (x ∈ es.toList) := fun x hx => by
      rw [hlist] at hx
      rcases List.mem_or_eq_of_mem_set hx with h | h
      · exact .inr h
      · exact .inl h
    have hrg0 : (rg P k R e0).1 = kl := by
      obtain ⟨y, hy⟩ := F.reads e0 hm0
      rw [rg_of hy]
      have := rd_key hy
      rw [h3, hkey] at this
      exact (Option.some.inj this).symm
    have hrgn : (rg P k R { e0 with key := key, val := val }).1 = kl := by rw [rg_of (Go.WideElems.rd_mk hkey hv)]
    refine ⟨_, hrun, ⟨es', clock', since, seen, c0, heap_setBlock_same hb _, F', ?_, by rw [DataW.put_eq, hput], (heap_setBlock_other hb _ hne).trans hr, fun x hx => ?_, ?_, fun x hx => ?_, fun x0 hx0 => ?_, hsc, hsk⟩, ⟨rfl, rfl, rfl, by simp [setBlock], fun i _ hi => heap_setBlock_other hb _ (fun e => hi (by rw [e]))⟩⟩
    · have : es'.size = es.size := by rw [he]; simp
      omega
    · rcases hnew x hx with rfl | hx
      · exact hold e0 hm0
      · exact hold x hx
    · rw [hcnt, hcnt, hborn]
    · rcases hnew x hx with rfl | hx
      · rw [hrgn, ← hrg0]; exact hl1 e0 hm0
      · exact hl1 x hx
    · obtain ⟨x, hx, e1⟩ := hl2 x0 hx0
      obtain ⟨i, hi⟩ := List.getElem?_of_mem hx
      by_cases e2 : i = j
      · subst e2
        rw [h2] at hi
        cases hi
        exact ⟨{ e0 with key := key, val := val }, by rw [hlist]; exact List.mem_of_getElem? (List.getElem?_set_self hjl), by rw [hrgn, ← hrg0]; exact e1⟩
      · exact ⟨x, by rw [hlist]; exact List.mem_of_getElem? ((List.getElem?_set_ne (fun q => e2 q.symm)).trans hi), e1⟩
end
theorem StP.congr {w : World} {B : Nat} {q : StM} {s s' : Vers} (h : StP w B q s) (e : ∀ k, okK k → s' k = s k) : StP w B q s' := by
  refine ⟨h.blk, h.base, ?_, fun k hk => by rw [e k hk]; exact h.rows k hk, h.apart, fun k hk => by rw [e k hk]; exact h.rise k hk, fun k hk => by rw [e k hk]; exact h.few k hk⟩
  have hm := h.map
  cases hq : q.m with
  | none => rw [hq] at hm; exact fun k hk => ⟨(hm k hk).1, by rw [e k hk]; exact (hm k hk).2⟩
  | some g =>
    rw [hq] at hm
    obtain ⟨h0, D, h1, h2⟩ := hm
    exact ⟨h0, D, h1, fun k hk => by rw [e k hk]; exact h2 k hk⟩
/-- What keys have while a Trim is under way. -/
def trimS (s : Vers) (lo : Int) (left : Lit → Bool) : Vers := fun k => if left (keyL k) then s k else leftL (s k) lo
def trimA (s : Vers) (lo : Int) : Vers := fun k => leftL (s k) lo
/-- A store, but for its map. -/
structure StR (w : World) (B : Nat) (q : StM) (s : Vers) : Prop where
  blk : Blk w q.b [.int .i64 q.low, .map q.m] 81
  base : B ≤ q.b
  rows : ∀ k, okK k → RowV w B (q.hd k) (s k)
  apart : ∀ k k' x, okK k → okK k' → (q.hd k).ownBlock = some x → (q.hd k').ownBlock = some x → k = k'
  rise : ∀ k, okK k → Rising (s k)
  few : ∀ k, okK k → (s k).length ≤ 900
theorem StR.mod {G : Nat → Prop} {w w' : World} {B : Nat} {q : StM} {s : Vers} (h : StR w B q s) (hm : Mod G w w') (h1 : ¬ G q.b) (h2 : ∀ k x, okK k → (q.hd k).ownBlock = some x → ¬ G x) : StR w' B q s :=
  ⟨h.blk.mod hm h1, h.base, fun k hk => (h.rows k hk).mod hm (fun x hx => h2 k x hk hx), h.apart, h.rise, h.few⟩
theorem StP.toR {w : World} {B : Nat} {q : StM} {s : Vers} (h : StP w B q s) : StR w B q s := ⟨h.blk, h.base, h.rows, h.apart, h.rise, h.few⟩
theorem StR.ne {w : World} {B g : Nat} {q : StM} {s : Vers} {es : Array MapEntry} {cl : Nat} (h : StR w B q s) (hg : w.heap[g]? = some (.map es cl)) : q.b ≠ g ∧ ∀ k x, okK k → (q.hd k).ownBlock = some x → x ≠ g := by
  refine ⟨fun e => ?_, fun k x hk hx e => ?_⟩
  · have := h.blk
    unfold Blk at this
    rw [e, hg] at this
    cases this
  · obtain ⟨_, _, cur, hc⟩ := own_cellsV (h.rows k hk).1 hx
    rw [e, hg] at hc
    cases hc
theorem trim_same {s : Vers} {lo : Int} {left : Lit → Bool} {x k : ByteArray} (h : k ≠ x) : trimS s lo (fun z => left z && !z.sameKey (keyL x)) k = trimS s lo left k := by
  unfold trimS
  simp only [same_key]
  simp [h]
theorem trim_here {s : Vers} {lo : Int} {left : Lit → Bool} {x : ByteArray} : trimS s lo (fun z => left z && !z.sameKey (keyL x)) x = leftL (s x) lo := by
  unfold trimS
  simp only [same_key]
  simp
/-- One key more is trimmed. -/
theorem StR.step {w : World} {B : Nat} {q : StM} {s : Vers} {lo : Int} {left : Lit → Bool} {x : ByteArray} {u : Value} (h : StR w B q (trimS s lo left)) (hx : okK x) (hl : left (keyL x) = true) (hu : RowV w B u (leftL (s x) lo)) (hn : u = q.hd x ∨ ∀ b, u.ownBlock = some b → ∀ k, okK k → (q.hd k).ownBlock ≠ some b) :
    StR w B { q with hd := updH q.hd x u } (trimS s lo (fun z => left z && !z.sameKey (keyL x))) := by
  have hsx : trimS s lo left x = s x := by unfold trimS; rw [if_pos hl]
  refine ⟨h.blk, h.base, fun k hk => ?_, fun a b z ha hb h1 h2 => ?_, fun k hk => ?_, fun k hk => ?_⟩
  · show RowV w B (updH q.hd x u k) _
    unfold updH
    by_cases e : k = x
    · subst e; rw [if_pos rfl, trim_here]; exact hu
    · rw [if_neg e, trim_same e]; exact h.rows k hk
  · simp only [updH] at h1 h2
    by_cases e1 : a = x
    · by_cases e2 : b = x
      · rw [e1, e2]
      · rw [if_pos e1] at h1
        rw [if_neg e2] at h2
        rcases hn with e | e
        · rw [e] at h1; exact absurd (h.apart b x z hb hx h2 h1) e2
        · exact absurd h2 (e z h1 b hb)
    · rw [if_neg e1] at h1
      by_cases e2 : b = x
      · rw [if_pos e2] at h2
        rcases hn with e | e
        · rw [e] at h2; exact absurd (h.apart a x z ha hx h1 h2) e1
        · exact absurd h1 (e z h2 a ha)
      · rw [if_neg e2] at h2
        exact h.apart a b z ha hb h1 h2
  · by_cases e : k = x
    · subst e; rw [trim_here]
      have := h.rise k hk
      rw [hsx] at this
      exact left_rising this lo
    · rw [trim_same e]; exact h.rise k hk
  · by_cases e : k = x
    · subst e; rw [trim_here]
      have := h.few k hk
      rw [hsx] at this
      exact Nat.le_trans (left_len _ _) this
    · rw [trim_same e]; exact h.few k hk
/-- What Trim comes to. -/
def TrimR (w : World) (B : Nat) (q : StM) (s : Vers) (lo : Int) (e : Ending) (w' : World) : Prop :=
  e = .returned .nilIface ∧ ∃ q', StP w' B q' (trimA s lo) ∧ q'.b = q.b ∧ q'.low = lo ∧ q'.n = q.n ∧ Mod q.own w w' ∧ ∀ x, q'.own x → q.own x ∨ w.heap.size ≤ x
/-- A Trim under way. -/
structure TrimL (w wr : World) (B g : Nat) (q : StM) (s : Vers) (lo : Int) (left : Lit → Bool) (cnt : Nat) (hd : ByteArray → Value) (D : DataW Unit) : Prop where
  rng : wr.ranges Tryd.prog 9 hdrElem g w.heap.size q.n D left cnt
  str : StR wr B { q with low := lo, hd := hd } (trimS s lo left)
  map : ∀ k, okK k → D.atKey (keyL k) .nil = encH (hd k) ∧ (has D (keyL k) = true ↔ trimS s lo left k ≠ [])
  mod : Mod q.own w wr
  own : ∀ k x, okK k → (hd k).ownBlock = some x → q.own x ∨ w.heap.size + 1 ≤ x
  size : w.heap.size + 1 ≤ wr.heap.size
theorem left_nil (lo : Int) : leftL [] lo = [] := by simp [leftL]
theorem TrimL.done {w wr : World} {B g : Nat} {q : StM} {s : Vers} {lo : Int} {left : Lit → Bool} {cnt : Nat} {hd : ByteArray → Value} {D : DataW Unit} (h : TrimL w wr B g q s lo left cnt hd D) (hm : q.m = some g) (hB : B ≤ g) (hl : ∀ kl, left kl = false) : TrimR w B q s lo (.returned .nilIface) wr := by
  have e : trimS s lo left = trimA s lo := by funext k; unfold trimS trimA; rw [if_neg (by rw [hl]; simp)]
  have hs := h.str
  have hmp := h.map
  rw [e] at hs hmp
  refine ⟨rfl, { q with low := lo, hd := hd }, ⟨hs.blk, hs.base, ?_, hs.rows, hs.apart, hs.rise, hs.few⟩, rfl, rfl, rfl, h.mod, fun x hx => ?_⟩
  · show MapP wr B q.m q.n hd _
    rw [hm]
    exact ⟨hB, D, h.rng.owns, hmp⟩
  · rcases hx with hx | hx | ⟨k, hk, hx⟩
    · exact .inl (.inl hx)
    · exact .inl (.inr (.inl hx))
    · exact (h.own k x hk hx).imp id (fun h => by omega)
set_option maxRecDepth 100000 in
theorem trim_order (q : StM) (B : Nat) (s : Vers) (lo : Int) (w : World) (h : StP w B q s) (ht : lo < q.low) :
    Calls Tryd.prog 41 #[.pointer (some ⟨q.b, 0, none⟩), .int .i64 lo] w fun e w' => e = .returned (.iface 29 (.int .i64 10)) ∧ w' = w := by
  have c0 := h.blk.cell 0 rfl
  have z0 := h.blk.lt
  have hd0 : decide (lo < q.low) = true := decide_eq_true ht
  clear h
  go_enter Tryd.func41, Tryd.ntmps41
  go_wp2_with fail
  go_ret
  exact ⟨rfl, rfl⟩
set_option maxRecDepth 100000 in
theorem trim_range (q : StM) (B : Nat) (s : Vers) (lo : Int) (w : World) (h : StP w B q s) (ht : q.low ≤ lo) (hr : 1099511627776 < lo) :
    Calls Tryd.prog 41 #[.pointer (some ⟨q.b, 0, none⟩), .int .i64 lo] w fun e w' => e = .returned (.iface 29 (.int .i64 2)) ∧ w' = w := by
  have c0 := h.blk.cell 0 rfl
  have z0 := h.blk.lt
  have hd0 : decide (lo < q.low) = false := decide_eq_false (by omega)
  have hd1 : decide (lo > 1099511627776) = true := decide_eq_true hr
  clear h
  go_enter Tryd.func41, Tryd.ntmps41
  go_wp2_with fail
  go_ret
  exact ⟨rfl, rfl⟩
set_option maxRecDepth 100000 in
set_option maxHeartbeats 8000000 in
theorem trim_yes (q : StM) (B : Nat) (s : Vers) (lo : Int) (w : World) (h : StP w B q s) (hB : B ≤ w.heap.size) (ht : q.low ≤ lo) (hr : lo ≤ 1099511627776) (hn : q.n ≤ 1000) :
    Calls Tryd.prog 41 #[.pointer (some ⟨q.b, 0, none⟩), .int .i64 lo] w (TrimR w B q s lo) := by
  have c0 := h.blk.cell 0 rfl
  have c1 := h.blk.cell 1 rfl
  have f0 := h.blk.frozen 0
  have z0 := h.blk.lt
  have hd0 : decide (lo < q.low) = false := decide_eq_false (by omega)
  have hd1 : decide (lo > 1099511627776) = false := decide_eq_false (by omega)
  have HH := Hid.mk'' h
  have hms : Mod (oneBlock q.b) w (w.setCell ⟨q.b, 0, none⟩ (.int .i64 lo)) := Mod.setBlk _ _ _
  have HR0 : Hid (StR (w.setCell ⟨q.b, 0, none⟩ (.int .i64 lo)) B { q with low := lo, hd := q.hd } s) := by
    refine ⟨h.blk.set 0 _, h.base, fun k hk => (h.rows k hk).mod hms (fun x hx e => ?_), h.apart, h.rise, h.few⟩
    simp only [oneBlock] at e
    exact (h.row_ne hk hx).1 e
  have HMS := Hid.mk'' hms
  clear hms
  cases hm : q.m with
  | none =>
    have hmp := h.map
    rw [hm] at hmp
    have HFIN : Hid (TrimR w B q s lo (.returned .nilIface) ((w.setCell ⟨q.b, 0, none⟩ (.int .i64 lo)).alloc (.mapIter none 0 #[] 0))) := by
      have hma : Mod noBlock (w.setCell ⟨q.b, 0, none⟩ (.int .i64 lo)) ((w.setCell ⟨q.b, 0, none⟩ (.int .i64 lo)).alloc (.mapIter none 0 #[] 0)) := (Mod.refl _ _).alloc _
      have hR := HR0.out.mod hma id (fun _ _ _ _ => id)
      have e : ∀ k, okK k → trimA s lo k = s k := fun k hk => by unfold trimA; rw [(hmp k hk).2, left_nil]
      refine ⟨rfl, { q with low := lo, hd := q.hd }, StP.congr (s := s) ⟨hR.blk, hR.base, ?_, hR.rows, hR.apart, hR.rise, hR.few⟩ e, rfl, rfl, rfl, (HMS.out.mono (fun x _ e => .inl e)).trans' hma (fun _ _ e => e.elim), fun x hx => .inl hx⟩
      show MapP _ B q.m q.n q.hd s
      rw [hm]
      exact hmp
    rw [hm] at c1
    have hrg := run_range_nilMap (P := Tryd.prog) (w.setCell ⟨q.b, 0, none⟩ (.int .i64 lo)) 79 9 159 Tryd.underlying79
    have hnx : ∀ ty, (Instr.next (.pointer (some ⟨(w.setCell ⟨q.b, 0, none⟩ (.int .i64 lo)).heap.size, 0, none⟩)) false ty).run Tryd.prog ((w.setCell ⟨q.b, 0, none⟩ (.int .i64 lo)).alloc (.mapIter none 0 #[] 0)) = _ := fun ty => run_next_nilMap (w.setCell ⟨q.b, 0, none⟩ (.int .i64 lo)) ty 0 0 #[]
    have e1 : (w.setCell ⟨q.b, 0, none⟩ (.int .i64 lo)).heap.size = w.heap.size := by simp
    rw [e1] at hrg hnx
    clear h hmp
    go_enter Tryd.func41, Tryd.ntmps41
    go_wp2
    refine wp_loop_rounds 1 ?_
    rw [rounds_succ]
    go_wp2
    go_ret
    exact HFIN.out
  | some g =>
    have hmp := h.map
    rw [hm] at hmp
    obtain ⟨hBg, D, hown, hD⟩ := hmp
    have hbg : q.b ≠ g := fun e => h.map_ne (by rw [hm, e])
    have hown1 : (w.setCell ⟨q.b, 0, none⟩ (.int .i64 lo)).ownsMap Tryd.prog 9 hdrElem g q.n D := by
      have hlt := hown.lt
      obtain ⟨es, clock, hb, r⟩ := hown
      exact ⟨es, clock, (HMS.out.block g hlt (fun e => by simp only [oneBlock] at e; exact hbg e.symm)).trans hb, r⟩
    have hgl := hown.lt
    have HQM := Hid.mk'' hm
    rw [hm] at c1
    have HD := Hid.mk'' hD
    have HOWN := Hid.mk'' hown1
    clear h hD hown hown1 hm
    go_enter Tryd.func41, Tryd.ntmps41
    go_wp2_with (first
      | (at_range; refine wpList_range_own _ rfl _ 79 rfl 9 159 kStr Tryd.underlying79 _ g q.n D rfl HOWN.out ?_; intro w0 hrg0 hg0 hs0)
      | go_in)
    go_frame
    have e1 : (w.setCell ⟨q.b, 0, none⟩ (.int .i64 lo)).heap.size = w.heap.size := by simp
    rw [e1]
    rw [e1] at hrg0 hs0
    have hm0 : Mod noBlock (w.setCell ⟨q.b, 0, none⟩ (.int .i64 lo)) w0 := (Mod.refl _ _).grown hg0 (fun x hx _ => by cases hx)
    have HL0 : Hid (TrimL w w0 B g q s lo (has D) (size D) q.hd D) := by
      have e : ∀ k, okK k → trimS s lo (has D) k = s k := fun k hk => by
        unfold trimS
        by_cases hh : has D (keyL k) = true
        · rw [if_pos hh]
        · rw [if_neg hh]
          have : s k = [] := Classical.byContradiction (fun q => hh ((HD.out k hk).2.2 q))
          rw [this, left_nil]
      have hR := HR0.out.mod hm0 id (fun _ _ _ _ => id)
      exact ⟨hrg0, ⟨hR.blk, hR.base, fun k hk => by rw [e k hk]; exact hR.rows k hk, hR.apart, fun k hk => by rw [e k hk]; exact hR.rise k hk, fun k hk => by rw [e k hk]; exact hR.few k hk⟩, fun k hk => by rw [e k hk]; exact HD.out k hk, (HMS.out.mono (fun x _ e => .inl e)).trans' hm0 (fun _ _ e => e.elim), fun k x hk hx => .inl (.inr (.inr ⟨k, hk, hx⟩)), by rw [hs0]; exact Nat.le_refl _⟩
    clear hrg0 hg0 hs0 hm0 e1 c0 f0
    go_loopw [5, 6] (fun _ _ wr => ∃ (left : Lit → Bool) (cnt : Nat) (hd : ByteArray → Value) (D : DataW Unit), TrimL w wr B g q s lo left cnt hd D) (fun _ _ wr => wr.rangeLeft g w.heap.size)
    case atStart => exact ⟨_, _, _, _, HL0.out⟩
    case round =>
      obtain ⟨left, cnt, hd, D1, hL⟩ := hrel
      have HL := Hid.mk'' hL
      have hz := hL.size
      have c1' := hL.str.blk.cell 1 rfl
      dsimp only at c1'
      rw [HQM.out] at c1'
      have z1 := hL.str.blk.lt
      dsimp only at z1
      clear hL HL0 c1 z0
      go_wp2_with (first
        | (at_next; refine wpList_next_vers _ rfl _ rfl g w.heap.size q.n D1 left cnt rfl HL.out.rng ?_ ?_)
        | go_in)
      · intro hl0
        have HFIN := Hid.mk'' (HL.out.done HQM.out hBg hl0)
        clear hl0
        go_wp2_with fail
        go_ret
        exact HFIN.out
      · intro x c w1 cnt1 hok hlx hc hat hrg1 hlt hg1 hen
        have hsx : trimS s lo left x = s x := by unfold trimS; rw [if_pos hlx]
        obtain rfl : c = hd x := encH_inj hc (own_hdr (HL.out.str.rows x hok).1) (by rw [← hat]; exact (HL.out.map x hok).1)
        have hmr : Mod (oneBlock w.heap.size) wr w1 := (Mod.refl _ wr).grown hg1 (fun y hy _ => by cases hy; rfl)
        have hR1 : StR w1 B { q with low := lo, hd := hd } (trimS s lo left) := HL.out.str.mod hmr (fun e => by simp only [oneBlock] at e; have := HH.out.blk.lt; omega) (fun k y hk hy e => by
          simp only [oneBlock] at e
          rcases HL.out.own k y hk hy with h1 | h1
          · have := (HH.out.lt h1).2; omega
          · omega)
        have hM1 : Mod q.own w w1 := HL.out.mod.trans' hmr (fun y hy e => by simp only [oneBlock] at e; omega)
        have hrx := hR1.rows x hok
        rw [hsx] at hrx
        have hfx := hR1.few x hok
        rw [hsx] at hfx
        have hsx1 := hR1.rise x hok
        rw [hsx] at hsx1
        have HLF := Hid.mk'' (left_any w1.heap.size (hd x) (s x) lo w1 (hrx.toV (Nat.le_refl _)) (Nat.le_refl _) hsx1 (by omega))
        have hth : has D1 (keyL x) = true := by
          rw [(HL.out.map x hok).2, hsx]
          intro e
          have h2 := (HL.out.map x hok).2
          rw [hsx, e] at h2
          have : has D1 (keyL x) = true := by
            obtain ⟨es, clock, since, seen, c0, hb, F, hs, hDD, hr, hold, hcn, hl1, hl2, hsc, hsk⟩ := HL.out.rng
            obtain ⟨y, hy, e2⟩ := hl2 _ hlx
            rw [hDD]
            exact List.any_eq_true.2 ⟨_, mem_sorted.2 (List.mem_map.2 ⟨y, hy, rfl⟩), by rw [e2]; exact WideAt.sameKey_self (by simp [WideAt.IsKeyLit, keyL])⟩
          exact (h2.1 this) rfl
        obtain ⟨ca, ccap, hcd⟩ := own_slice hrx.1
        dsimp only at hcd
        have HCD := Hid.mk'' hcd
        rw [hcd] at hen HLF ⊢
        have HRG1 := Hid.mk'' hrg1
        have HR1 := Hid.mk'' hR1
        have HM1 := Hid.mk'' hM1
        have hz1 : w.heap.size + 1 ≤ w1.heap.size := Nat.le_trans hz hg1.size
        have HOK := Hid.mk'' hrx.2
        have HTH := Hid.mk'' hth
        have d1 := hR1.blk.cell 1 rfl
        dsimp only at d1
        rw [HQM.out] at d1
        clear hrg1 hg1 hat hc hmr hR1 hM1 hrx hfx hsx1 hcd hth c1' hsx
        go_wp2_with (first | (go_at_call 97; refine HLF.out.mono ?_) | go_in)
        rintro e w2 ⟨hm2, hres⟩
        -- what is left, in a row of its own
        obtain ⟨u, rfl, hu, hun⟩ : ∃ u, e = .returned u ∧ RowV w2 B u (leftL (s x) lo) ∧ (u = hd x ∨ ∀ b, u.ownBlock = some b → w1.heap.size ≤ b) := by
          rcases hres with ⟨rfl, hsame⟩ | ⟨u, rfl, hown⟩
          · refine ⟨_, rfl, ?_, .inl HCD.out.symm⟩
            have h1 := HR1.out.rows x hok
            have h2 : trimS s lo left x = s x := by unfold trimS; rw [if_pos hlx]
            rw [h2] at h1
            rw [hsame, ← HCD.out]
            exact h1.mod hm2 (fun _ _ => id)
          · refine ⟨u, rfl, ⟨own_base hown ?_, fun o ho => ?_⟩, .inr (fun b hb => (own_cellsV hown hb).1)⟩
            · have h1 := HR1.out.blk.lt
              have h2 := HR1.out.base
              omega
            · have h3 : o ∈ s x := List.mem_of_mem_drop ho
              exact HOK.out o h3
        have HR2 := Hid.mk'' (HR1.out.mod hm2 id (fun _ _ _ _ => id))
        have HRG2 := Hid.mk'' (HRG1.out.kept (⟨hm2.os, hm2.tape, hm2.output, hm2.size, fun i hi _ => hm2.block i hi id⟩ : w1.grownBy w2 none) (by simp) (by simp))
        have HM2 : Hid (Mod q.own w w2) := HM1.out.trans' hm2 (fun _ _ e => e.elim)
        have d2 := hm2.cell d1 id
        have zb2 := World.block_lt_of_cell? _ _ d2
        have hz2 := Nat.le_trans hz1 hm2.size
        have HUN : Hid (u = hd x ∨ ∀ b, u.ownBlock = some b → w1.heap.size ≤ b) := hun
        have HU := Hid.mk'' hu
        obtain ⟨ua, ucap, huv⟩ := own_slice hu.1
        subst huv
        clear hres hm2 hun hu d1 HLF
        by_cases hl0 : (leftL (s x) lo).length = 0
        · have hd9 : (((leftL (s x) lo).length : Int) == 0) = true := by simp [hl0]
          go_wp2_with (first
            | (at_delete; refine wpList_delete_ranges _ rfl _ _ 79 9 rfl 159 kStr Tryd.underlying79 hdrElem g w.heap.size q.n D1 _ cnt1 rfl HRG2.out _ (keyL x) rfl (Go.WideMaps.keyOf_string_mk Tryd.underlying9 hok) ?_; intro w3 cnt3 hrg3 hle3 hturn3; go_frame)
            | go_in)
          rw [strike_twice] at hrg3
          have hm3 : Mod (oneBlock g) w2 w3 := (Mod.refl _ w2).grown hturn3.grown (fun y hy _ => by simp only [oneBlock]; simpa using hy.symm)
          refine ⟨⟨(fun z => left z && !z.sameKey (keyL x)), cnt3, updH hd x (.slice none 0 0), D1.del (keyL x), ?_⟩, by rw [hrg3.left_eq, HL.out.rng.left_eq]; omega⟩
          have hnil : leftL (s x) lo = [] := List.eq_nil_of_length_eq_zero hl0
          have hS := HR2.out.step (u := .slice none 0 0) hok hlx (by rw [hnil]; exact ⟨World.ownsRow_nil _ _ _ _, fun o ho => by simp at ho⟩) (.inr (fun b hb => by simp [Value.ownBlock] at hb))
          obtain ⟨es, clock, since, seen, cc, hbb, _⟩ := HRG2.out
          have hne := hS.ne hbb
          refine ⟨hrg3, hS.mod hm3 hne.1 (fun k y hk hy e => hne.2 k y hk hy e), fun k hk => ?_, HM2.out.trans' hm3 (fun y _ e => by simp only [oneBlock] at e; exact .inr (.inl (by rw [HQM.out, e]))), fun k y hk hy => ?_, Nat.le_trans hz2 hm3.size⟩
          · unfold updH
            by_cases e : k = x
            · subst e
              rw [if_pos rfl, atKey_del_same, has_del_same, trim_here, hnil]
              exact ⟨rfl, by simp⟩
            · have hne2 : keyL k ≠ keyL x := fun q => e (keyL_inj q)
              rw [if_neg e, atKey_del_other hne2, has_del_other hne2, trim_same e]
              exact HL.out.map k hk
          · simp only [updH] at hy
            by_cases e : k = x
            · rw [if_pos e] at hy; simp [Value.ownBlock] at hy
            · rw [if_neg e] at hy; exact HL.out.own k y hk hy
        · have hd9 : (((leftL (s x) lo).length : Int) == 0) = false := by rw [beq_eq_false_iff_ne]; omega
          obtain ⟨w3, hrun3, hrg3, hgrow3⟩ := ranges_put HRG2.out kStr Tryd.underlying79 (Go.WideMaps.keyOf_string_mk Tryd.underlying9 hok) (hdr_mk (own_hdr HU.out.1)) HTH.out (by unfold maxLen; omega)
          have HRG3 := Hid.mk'' hrg3
          have HM3 : Hid (Mod (oneBlock g) w2 w3) := (Mod.refl _ w2).grown hgrow3 (fun y hy _ => by simp only [oneBlock]; simpa using hy.symm)
          clear hrg3 hgrow3
          go_wp2_with fail
          go_roundw
          case rel =>
            have hS := HR2.out.step (u := .slice ua (leftL (s x) lo).length ucap) hok hlx HU.out (HUN.out.imp id (fun h b hb k hk e => by
              have h1 := h b hb
              have h2 := (own_cellsV (HR1.out.rows k hk).1 e).2.1
              omega))
            obtain ⟨es, clock, since, seen, cc, hbb, _⟩ := HRG2.out
            have hne := hS.ne hbb
            refine ⟨_, cnt1, updH hd x (.slice ua (leftL (s x) lo).length ucap), _, HRG3.out, hS.mod HM3.out hne.1 (fun k y hk hy e => hne.2 k y hk hy e), fun k hk => ?_, HM2.out.trans' HM3.out (fun y _ e => by simp only [oneBlock] at e; exact .inr (.inl (by rw [HQM.out, e]))), fun k y hk hy => ?_, Nat.le_trans hz2 HM3.out.size⟩
            · unfold updH
              by_cases e : k = x
              · subst e
                rw [if_pos rfl, trim_here]
                have hD : IsMap D1 := HL.out.rng.owns.isMap
                have h1 := atKey_put_same hD (k := keyL k) (by simp [WideAt.IsKeyLit, keyL]) (encH (.slice ua (leftL (s k) lo).length ucap)) .nil
                have h2 := has_put_same hD (k := keyL k) (by simp [WideAt.IsKeyLit, keyL]) (encH (.slice ua (leftL (s k) lo).length ucap))
                exact ⟨h1, ⟨fun _ e => hl0 (by rw [e]; rfl), fun _ => h2⟩⟩
              · have hne2 : keyL k ≠ keyL x := fun q => e (keyL_inj q)
                rw [if_neg e, trim_same e]
                have h1 := atKey_put_other (D := D1) hne2 (encH (.slice ua (leftL (s x) lo).length ucap)) .nil
                have h2 := has_put_other (D := D1) hne2 (encH (.slice ua (leftL (s x) lo).length ucap))
                exact ⟨h1.trans (HL.out.map k hk).1, (show (has (D1.put (keyL x) (encH (.slice ua (leftL (s x) lo).length ucap))) (keyL k) = true) ↔ (has D1 (keyL k) = true) by rw [h2]).trans (HL.out.map k hk).2⟩
            · simp only [updH] at hy
              by_cases e : k = x
              · rw [if_pos e] at hy
                rcases HUN.out with e2 | e2
                · rw [e2] at hy; exact HL.out.own x y hok hy
                · exact .inr (Nat.le_trans hz1 (e2 y hy))
              · rw [if_neg e] at hy; exact HL.out.own k y hk hy
          case measure => rw [HRG3.out.left_eq, HL.out.rng.left_eq]; exact hlt
end Go.Proofs.YtefhgakcffhgaaaDoor
