/- The law MvPlays: both stores side by side. -/
import Derived.Test.YtefhgakcffhgaaaDoorTh
namespace Go.Proofs.YtefhgakcffhgaaaDoor
open Go.RowKit Go.Lib Go.Maps
set_option linter.unusedVariables false

/-- The program's store and the document's. -/
structure Both (w wr : World) (i : Nat) (q : StM) (s : Vers) (r : RfM) (all : List EntD) : Prop where
  st : StP wr w.heap.size q s
  rf : RfP wr w.heap.size r all
  rel : Rel s all
  low : r.low = q.low
  apart : ∀ x, q.own x → ¬ r.own x
  len : all.length ≤ i
  n : q.n ≤ i
  ok : ∀ e ∈ all, okK e.key
  mod : Mod noBlock w wr
theorem Both.more {w wr w' : World} {i : Nat} {q : StM} {s : Vers} {r : RfM} {all : List EntD} (h : Both w wr i q s r all) (hm : Mod noBlock wr w') : Both w w' i q s r all :=
  ⟨h.st.mod hm (fun _ _ => id), h.rf.mod hm (fun _ _ => id), h.rel, h.low, h.apart, h.len, h.n, h.ok, h.mod.trans hm⟩
theorem Both.next {w wr : World} {i : Nat} {q : StM} {s : Vers} {r : RfM} {all : List EntD} (h : Both w wr i q s r all) : Both w wr (i + 1) q s r all :=
  ⟨h.st, h.rf, h.rel, h.low, h.apart, by have := h.len; omega, by have := h.n; omega, h.ok, h.mod⟩
theorem Both.few {w wr : World} {i : Nat} {q : StM} {s : Vers} {r : RfM} {all : List EntD} (h : Both w wr i q s r all) (k : ByteArray) : (s k).length ≤ i := by
  rw [h.rel.len]
  exact Nat.le_trans (List.length_filter_le _ _) h.len
theorem Both.keys {w wr : World} {i : Nat} {q : StM} {s : Vers} {r : RfM} {all : List EntD} (h : Both w wr i q s r all) : ∃ K, KeysP K s ∧ K.length ≤ i ∧ sumAll K s = all.length := by
  obtain ⟨K, k1, k2, k3⟩ := keys_of (all.map (·.key))
  refine ⟨K, ⟨k1, fun k hk => ?_, fun k hk hs => ?_⟩, ?_, h.rel.many k1 (fun e he => (k2 _).2 (List.mem_map.2 ⟨e, he, rfl⟩))⟩
  · obtain ⟨e, he, rfl⟩ := List.mem_map.1 ((k2 k).1 hk)
    exact h.ok e he
  · obtain ⟨e, he, rfl⟩ := h.rel.keys hs
    exact (k2 _).2 (List.mem_map.2 ⟨e, he, rfl⟩)
  · have := h.len
    rw [List.length_map] at k3
    omega
/-- Behind the program's Put, ahead of the document's. -/
inductive PutMid (w w1 : World) (i : Nat) (q : StM) (s : Vers) (r : RfM) (all : List EntD) (t : Int) (key value : ByteArray) (gone : Bool) : Int → Prop
  | no (c : Int) (hc : ((t < 0 ∨ 1099511627776 < t) ∧ c = 2) ∨ (0 ≤ t ∧ t ≤ 1099511627776 ∧ ¬ (key.size ≤ 20 ∧ value.size ≤ 40) ∧ c = 4) ∨ (0 ≤ t ∧ t ≤ 1099511627776 ∧ key.size ≤ 20 ∧ value.size ≤ 40 ∧ t < r.low ∧ c = 8)) (h : Both w w1 i q s r all) : PutMid w w1 i q s r all t key value gone c
  | twice (h1 : 0 ≤ t) (h2 : t ≤ 1099511627776) (h3 : key.size ≤ 20) (h4 : value.size ≤ 40) (h5 : r.low ≤ t) (h6 : ∃ v ∈ s key, v.time = t) (h : Both w w1 i q s r all) : PutMid w w1 i q s r all t key value gone 9
  | yes (h1 : 0 ≤ t) (h2 : t ≤ 1099511627776) (h3 : key.size ≤ 20) (h4 : value.size ≤ 40) (h5 : r.low ≤ t) (h6 : ∀ v ∈ s key, v.time ≠ t) (q' : StM) (hb : q'.b = q.b) (hs : StP w1 w.heap.size q' (updV s key (insV (s key) (madeV t value gone)))) (hl : r.low = q'.low) (hn : q'.n ≤ i + 1) (hr : RfP w1 w.heap.size r all) (ha : ∀ x, q'.own x → ¬ r.own x) (hrel : Rel s all) (hlen : all.length ≤ i) (hok : ∀ e ∈ all, okK e.key) (hm : Mod noBlock w w1) : PutMid w w1 i q s r all t key value gone 0
theorem put_first {w wr : World} {i : Nat} {q : StM} {s : Vers} {r : RfM} {all : List EntD} (h : Both w wr i q s r all) (hi : i ≤ 100) (t : Int) (key value : ByteArray) (gone : Bool) :
    Calls Tryd.prog 38 #[.pointer (some ⟨q.b, 0, none⟩), .int .i64 t, .agg #[.string key, .string value, .bool gone]] wr fun e w' => ∃ c, e = .returned (errV c) ∧ PutMid w w' i q s r all t key value gone c ∧ Mod q.own wr w' := by
  have hlow := h.low
  by_cases h1 : t < 0 ∨ 1099511627776 < t
  · refine (put_range q t key value gone wr h1).mono ?_
    rintro e w' ⟨rfl, hm⟩
    exact ⟨2, rfl, .no 2 (.inl ⟨h1, rfl⟩) (h.more hm), hm.mono (fun _ _ e => e.elim)⟩
  · have hr1 : 0 ≤ t := by omega
    have hr2 : t ≤ 1099511627776 := by omega
    by_cases h2 : key.size ≤ 20 ∧ value.size ≤ 40
    · by_cases h3 : t < q.low
      · refine (put_none q _ s t key value gone wr h.st hr1 hr2 h2.1 h2.2 h3).mono ?_
        rintro e w' ⟨rfl, hm⟩
        exact ⟨8, rfl, .no 8 (.inr (.inr ⟨hr1, hr2, h2.1, h2.2, by omega, rfl⟩)) (h.more hm), hm.mono (fun _ _ e => e.elim)⟩
      · by_cases h4 : ∃ v ∈ s key, v.time = t
        · refine (put_twice q _ s t key value gone wr h.st hr1 hr2 h2.1 h2.2 (by omega) h4).mono ?_
          rintro e w' ⟨rfl, hm⟩
          exact ⟨9, rfl, .twice hr1 hr2 h2.1 h2.2 (by omega) h4 (h.more hm), hm.mono (fun _ _ e => e.elim)⟩
        · have h5 : ∀ v ∈ s key, v.time ≠ t := fun v hv e => h4 ⟨v, hv, e⟩
          have hn := h.n
          refine (put_yes q _ s t key value gone wr h.st h.mod.size hr1 hr2 h2.1 h2.2 (by omega) h5 (by have := h.few key; omega) (by omega)).mono ?_
          rintro e w' ⟨rfl, q', hS, hb, hl, hn', hm, hon⟩
          refine ⟨0, rfl, .yes hr1 hr2 h2.1 h2.2 (by omega) h5 q' hb hS (by omega) (by omega) (h.rf.mod hm (fun x hx hq => h.apart x hq hx)) (fun x hx hr => ?_) h.rel h.len h.ok (h.mod.trans' hm (fun x hx hq => ?_)), hm⟩
          · rcases hon x hx with e | e
            · exact h.apart x e hr
            · have := (h.rf.lt hr).2; omega
          · have := (h.st.lt hq).1; omega
    · refine (put_limit q _ s t key value gone wr h.st hr1 hr2 h2).mono ?_
      rintro e w' ⟨rfl, hm⟩
      exact ⟨4, rfl, .no 4 (.inr (.inl ⟨hr1, hr2, h2, rfl⟩)) (h.more hm), hm.mono (fun _ _ e => e.elim)⟩
theorem put_second {w w1 : World} {i : Nat} {q : StM} {s : Vers} {r : RfM} {all : List EntD} {t : Int} {key value : ByteArray} {gone : Bool} {c : Int} (h : PutMid w w1 i q s r all t key value gone c) (hi : i ≤ 100) :
    Calls Tryd.prog 44 #[.pointer (some ⟨r.b, 0, none⟩), .int .i64 t, .agg #[.string key, .string value, .bool gone]] w1 fun e w' => e = .returned (.int .i64 c) ∧ (∃ q' s' r' all', Both w w' (i + 1) q' s' r' all' ∧ q'.b = q.b ∧ r'.b = r.b) ∧ Mod r.own w1 w' := by
  cases h with
  | no c hc h =>
    refine (rput_no r _ all t key value gone w1 h.rf c hc).mono ?_
    rintro e w' ⟨rfl, hm⟩
    exact ⟨rfl, ⟨q, s, r, all, (h.more hm).next, rfl, rfl⟩, hm.mono (fun _ _ e => e.elim)⟩
  | twice h1 h2 h3 h4 h5 h6 h =>
    refine (rput_loop r _ all t key value gone w1 h.rf h.mod.size h1 h2 h3 h4 h5 (by have := h.len; omega)).mono ?_
    rintro e w' (⟨_, rfl, hm⟩ | ⟨hno, _⟩)
    · exact ⟨rfl, ⟨q, s, r, all, (h.more hm).next, rfl, rfl⟩, hm.mono (fun _ _ e => e.elim)⟩
    · obtain ⟨x, hx, e1, e2⟩ := (h.rel.twice key t).1 h6
      exact absurd e2 (hno x hx e1)
  | yes h1 h2 h3 h4 h5 h6 q' hb hS hl hn hr ha hrel hlen hok hm0 =>
    refine (rput_loop r _ all t key value gone w1 hr hm0.size h1 h2 h3 h4 h5 (by omega)).mono ?_
    rintro e w' (⟨⟨x, hx, e1, e2⟩, _⟩ | ⟨hno, rfl, r', hR, hrb, hrl, hm, hon⟩)
    · obtain ⟨v, hv, e⟩ := (hrel.twice key t).2 ⟨x, hx, e1, e2⟩
      exact absurd e (h6 v hv)
    · refine ⟨rfl, ⟨q', _, r', _, ⟨hS.mod hm (fun x hx hr => ha x hx hr), hR, ?_, by omega, fun x hx hr' => ?_, ?_, hn, fun e he => ?_, hm0.trans' hm (fun x hx e => ?_)⟩, hb, hrb⟩, hm⟩
      · exact hrel.put (e := ⟨key, value, gone, t⟩) (fun x hx e => hno x hx e)
      · rcases hon x hr' with e | e
        · exact ha x hx e
        · have := (hS.lt hx).2; omega
      · rw [List.length_append]; simp; omega
      · rcases List.mem_append.1 he with he | he
        · exact hok e he
        · simp at he; subst he; show okK key; unfold okK maxLen; omega
      · have := (hr.lt e).1; omega
/-- Behind the program's Trim, ahead of the document's. -/
inductive TrimMid (w w1 : World) (i : Nat) (q : StM) (s : Vers) (r : RfM) (all : List EntD) (lo : Int) : Int → Prop
  | order (hc : lo < r.low) (h : Both w w1 i q s r all) : TrimMid w w1 i q s r all lo 10
  | range (hc : r.low ≤ lo) (hc' : 1099511627776 < lo) (h : Both w w1 i q s r all) : TrimMid w w1 i q s r all lo 2
  | yes (h1 : r.low ≤ lo) (h2 : lo ≤ 1099511627776) (q' : StM) (hb : q'.b = q.b) (hs : StP w1 w.heap.size q' (trimA s lo)) (hl : q'.low = lo) (hn : q'.n ≤ i) (hr : RfP w1 w.heap.size r all) (ha : ∀ x, q'.own x → ¬ r.own x) (hrel : Rel s all) (hlen : all.length ≤ i) (hok : ∀ e ∈ all, okK e.key) (hm : Mod noBlock w w1) : TrimMid w w1 i q s r all lo 0
theorem trim_first {w wr : World} {i : Nat} {q : StM} {s : Vers} {r : RfM} {all : List EntD} (h : Both w wr i q s r all) (hi : i ≤ 100) (lo : Int) :
    Calls Tryd.prog 41 #[.pointer (some ⟨q.b, 0, none⟩), .int .i64 lo] wr fun e w' => ∃ c, e = .returned (errV c) ∧ TrimMid w w' i q s r all lo c ∧ Mod q.own wr w' := by
  have hlow := h.low
  by_cases h1 : lo < q.low
  · refine (trim_order q _ s lo wr h.st h1).mono ?_
    rintro e w' ⟨rfl, rfl⟩
    exact ⟨10, rfl, .order (by omega) h, Mod.refl _ _⟩
  · by_cases h2 : 1099511627776 < lo
    · refine (trim_range q _ s lo wr h.st (by omega) h2).mono ?_
      rintro e w' ⟨rfl, rfl⟩
      exact ⟨2, rfl, .range (by omega) h2 h, Mod.refl _ _⟩
    · have hn := h.n
      refine (trim_yes q _ s lo wr h.st h.mod.size (by omega) (by omega) (by omega)).mono ?_
      rintro e w' ⟨rfl, q', hS, hb, hl, hn', hm, hon⟩
      refine ⟨0, rfl, .yes (by omega) (by omega) q' hb hS hl (by omega) (h.rf.mod hm (fun x hx hq => h.apart x hq hx)) (fun x hx hr => ?_) h.rel h.len h.ok (h.mod.trans' hm (fun x hx hq => ?_)), hm⟩
      · rcases hon x hx with e | e
        · exact h.apart x e hr
        · have := (h.rf.lt hr).2; omega
      · have := (h.st.lt hq).1; omega
theorem trim_second {w w1 : World} {i : Nat} {q : StM} {s : Vers} {r : RfM} {all : List EntD} {lo : Int} {c : Int} (h : TrimMid w w1 i q s r all lo c) (hi : i ≤ 100) :
    Calls Tryd.prog 45 #[.pointer (some ⟨r.b, 0, none⟩), .int .i64 lo] w1 fun e w' => e = .returned (.int .i64 c) ∧ (∃ q' s' r' all', Both w w' (i + 1) q' s' r' all' ∧ q'.b = q.b ∧ r'.b = r.b) ∧ Mod r.own w1 w' := by
  cases h with
  | order hc h =>
    refine (rtrim_order r _ all lo w1 h.rf hc).mono ?_
    rintro e w' ⟨rfl, rfl⟩
    exact ⟨rfl, ⟨q, s, r, all, h.next, rfl, rfl⟩, Mod.refl _ _⟩
  | range hc hc' h =>
    refine (rtrim_range r _ all lo w1 h.rf hc hc').mono ?_
    rintro e w' ⟨rfl, rfl⟩
    exact ⟨rfl, ⟨q, s, r, all, h.next, rfl, rfl⟩, Mod.refl _ _⟩
  | yes h1 h2 q' hb hS hl hn hr ha hrel hlen hok hm0 =>
    refine (rtrim_yes r _ all lo w1 hr hm0.size h1 h2 (by omega)).mono ?_
    rintro e w' ⟨rfl, r', lf, hT, hR, hrb, hrl, hm, hon⟩
    refine ⟨rfl, ⟨q', _, r', lf, ⟨hS.mod hm (fun x hx hr => ha x hx hr), hR, hrel.trim hT, by omega, fun x hx hr' => ?_, by have := hT.sub.length_le; omega, by omega, fun e he => hok e ((hT.mem e).1 he).1, hm0.trans' hm (fun x hx e => ?_)⟩, hb, hrb⟩, hm⟩
    · rcases hon x hr' with e | e
      · exact ha x hx e
      · have := (hS.lt hx).2; omega
    · have := (hr.lt e).1; omega
/-- What both tell of a key. -/
theorem rget_both {w wr : World} {i : Nat} {q : StM} {s : Vers} {r : RfM} {all : List EntD} (h : Both w wr i q s r all) (hi : i ≤ 100) (k : ByteArray) (t : Int) :
    Calls Tryd.prog 46 #[.pointer (some ⟨r.b, 0, none⟩), .string k, .int .i64 t] wr fun e w' => e = .returned (.tuple #[.string (if t < q.low then ByteArray.empty else (toldO (s k) t).getD ByteArray.empty), .bool (if t < q.low then false else (toldO (s k) t).isSome), .int .i64 (if t < q.low then 8 else 0)]) ∧ Mod noBlock wr w' := by
  have hlow := h.low
  by_cases h1 : t < q.low
  · refine (rget_no r _ all k t wr h.rf (by omega)).mono ?_
    rintro e w' ⟨rfl, rfl⟩
    simp only [if_pos h1]
    exact ⟨trivial, Mod.refl _ _⟩
  · refine (rget_yes r _ all s k t wr h.rf h.rel (by omega) (by have := h.len; omega)).mono ?_
    rintro e w' ⟨rfl, hm⟩
    simp only [if_neg h1]
    exact ⟨trivial, hm⟩
theorem get_both {w wr : World} {i : Nat} {q : StM} {s : Vers} {r : RfM} {all : List EntD} (h : Both w wr i q s r all) (hi : i ≤ 100) (k : ByteArray) (t : Int) (hk : okK k) :
    Calls Tryd.prog 43 #[.pointer (some ⟨q.b, 0, none⟩), .string k, .int .i64 t] wr fun e w' => e = .returned (.tuple #[.string (if t < q.low then ByteArray.empty else (toldO (s k) t).getD ByteArray.empty), .bool (if t < q.low then false else (toldO (s k) t).isSome), errV (if t < q.low then 8 else 0)]) ∧ Mod noBlock wr w' := by
  by_cases h1 : t < q.low
  · refine (get_no q _ s k t wr h.st h1).mono ?_
    rintro e w' ⟨rfl, rfl⟩
    simp only [if_pos h1]
    exact ⟨rfl, Mod.refl _ _⟩
  · refine (get_yes q _ s k t wr h.st hk (by omega)).mono ?_
    rintro e w' ⟨rfl, hm⟩
    simp only [if_neg h1]
    exact ⟨rfl, hm⟩
/-- What both tell of a time. -/
def toldAt (low : Int) (s : Vers) (t : Int) (ps : List PairD) : Prop := if t < low then ps = [] else ps.Pairwise ltP ∧ AllAt s t ps
theorem toldAt_one {low : Int} {s : Vers} {t : Int} {ps ps' : List PairD} (h : toldAt low s t ps) (h' : toldAt low s t ps') : ps = ps' := by
  unfold toldAt at h h'
  by_cases h1 : t < low
  · rw [if_pos h1] at h h'; rw [h, h']
  · rw [if_neg h1] at h h'; exact h.2.one h'.2 h.1 h'.1
theorem noPairs (w : World) : PairsV w w.heap.size (.slice none 0 0) [] := ⟨none, 0, rfl, Nat.le_refl _, Nat.zero_le _, .inl rfl⟩
theorem rat_both {w wr : World} {i : Nat} {q : StM} {s : Vers} {r : RfM} {all : List EntD} (h : Both w wr i q s r all) (hi : i ≤ 100) (t : Int) :
    Calls Tryd.prog 47 #[.pointer (some ⟨r.b, 0, none⟩), .int .i64 t] wr fun e w' => ∃ v ps, e = .returned (.tuple #[v, .int .i64 (if t < q.low then 8 else 0)]) ∧ PairsV w' w'.heap.size v ps ∧ toldAt q.low s t ps ∧ Mod noBlock wr w' := by
  have hlow := h.low
  by_cases h1 : t < q.low
  · refine (rat_no r _ all t wr h.rf (by omega)).mono ?_
    rintro e w' ⟨rfl, rfl⟩
    simp only [if_pos h1, toldAt]
    exact ⟨_, [], rfl, noPairs _, rfl, Mod.refl _ _⟩
  · refine (rat_yes sortK_any r _ all s t wr h.rf h.rel h.ok (by omega) (by have := h.len; omega)).mono ?_
    rintro e w' ⟨v, ps, rfl, h2, h3, h4, hm⟩
    simp only [if_neg h1, toldAt]
    exact ⟨_, ps, rfl, h2, ⟨h3, h4⟩, hm⟩
theorem at_both {w wr : World} {i : Nat} {q : StM} {s : Vers} {r : RfM} {all : List EntD} (h : Both w wr i q s r all) (hi : i ≤ 100) (t : Int) :
    Calls Tryd.prog 39 #[.pointer (some ⟨q.b, 0, none⟩), .int .i64 t] wr fun e w' => ∃ v ps, e = .returned (.tuple #[v, errV (if t < q.low then 8 else 0)]) ∧ PairsV w' w'.heap.size v ps ∧ toldAt q.low s t ps ∧ Mod noBlock wr w' := by
  by_cases h1 : t < q.low
  · refine (at_no q _ s t wr h.st h1).mono ?_
    rintro e w' ⟨rfl, rfl⟩
    simp only [if_pos h1, toldAt]
    exact ⟨_, [], rfl, noPairs _, rfl, Mod.refl _ _⟩
  · obtain ⟨K, hK, hKl, _⟩ := h.keys
    refine (at_yes q _ s K t wr h.st hK (by omega) (by omega)).mono ?_
    rintro e w' ⟨v, ps, rfl, h2, h3, h4, _, hm⟩
    simp only [if_neg h1, toldAt]
    exact ⟨_, ps, rfl, h2, ⟨h3, h4⟩, hm⟩
theorem many_both {w wr : World} {i : Nat} {q : StM} {s : Vers} {r : RfM} {all : List EntD} (h : Both w wr i q s r all) (hi : i ≤ 100) :
    Calls Tryd.prog 42 #[.pointer (some ⟨q.b, 0, none⟩)] wr fun e w' => e = .returned (.int .i64 all.length) ∧ Mod noBlock wr w' := by
  obtain ⟨K, hK, hKl, hs⟩ := h.keys
  have := many_any q _ s K wr h.st hK (by rw [hs]; have := h.len; omega)
  rw [hs] at this
  exact this
end Go.Proofs.YtefhgakcffhgaaaDoor
