/- The law MvPlays: the document's At. -/
import Derived.Test.YtefhgakcffhgaaaDoorTe
import Derived.Test.YtefhgakcffhgaaaDoorMo
namespace Go.Proofs.YtefhgakcffhgaaaDoor
open Go.RowKit Go.Lib Go.Maps
set_option linter.unusedVariables false

/-- Keys that are seen. -/
def SeenK (w : World) (g n : Nat) (S : List ByteArray) : Prop := ∃ D, w.ownsMap Tryd.prog 9 boolElem g n D ∧ ∀ k, okK k → (has D (keyL k) = true ↔ k ∈ S) ∧ (has D (keyL k) = true → D.atKey (keyL k) (.lit (.bool false)) = .lit (.bool true))
theorem SeenK.mod {G : Nat → Prop} {w w' : World} {g n : Nat} {S : List ByteArray} (h : SeenK w g n S) (hm : Mod G w w') (hG : ¬ G g) : SeenK w' g n S := by
  obtain ⟨D, h1, h2⟩ := h
  have hlt := h1.lt
  obtain ⟨es, clock, hb, r⟩ := h1
  exact ⟨D, ⟨es, clock, (hm.block g hlt hG).trans hb, r⟩, h2⟩
theorem SeenK.new (w : World) : SeenK (w.alloc (.map #[] 0)) w.heap.size 0 [] := ⟨.map [], World.ownsMap_made w Tryd.prog _ boolElem, fun k _ => by simp [has]⟩
theorem SeenK.look {w : World} {g n : Nat} {S : List ByteArray} (h : SeenK w g n S) (k : ByteArray) (hk : okK k) : ∃ b : Bool, (Instr.lookup 173 (.map (some g)) (.string k) false).run Tryd.prog w = .ok (.bool b) w ∧ (b = true ↔ k ∈ S) := by
  obtain ⟨D, hown, hD⟩ := h
  obtain ⟨v, ps, hrun, hv⟩ := hown.lookup kStr Tryd.underlying173 (zeroB w) (zd := .lit (.bool false)) (zp := []) rfl (Go.WideMaps.keyOf_string_mk Tryd.underlying9 hk)
  obtain ⟨b, rfl, hb⟩ := boolElem_inv hv
  obtain ⟨d1, d2⟩ := hD k hk
  refine ⟨b, hrun, ?_⟩
  simp only at hb
  rw [← d1]
  cases e : has D (keyL k) with
  | false =>
    have e' : has D (.string k.data.toList) = false := e
    rw [atKey_of_not_has e'] at hb
    simp at hb
    rw [← hb]
  | true =>
    have e' : D.atKey (.string k.data.toList) (.lit (.bool false)) = .lit (.bool true) := d2 e
    rw [e'] at hb
    simp at hb
    rw [hb]
theorem SeenK.put {w : World} {g n : Nat} {S : List ByteArray} (h : SeenK w g n S) (k : ByteArray) (hk : okK k) (hn : n ≤ 1000) : ∃ w', (Instr.mapUpdate 173 (.map (some g)) (.string k) (.bool true)).run Tryd.prog w = .ok () w' ∧ SeenK w' g (n + 1) (S ++ [k]) ∧ Mod (oneBlock g) w w' := by
  obtain ⟨D, hown, hD⟩ := h
  have hisM := hown.isMap
  obtain ⟨w', hrun, hown', hgrow⟩ := hown.update kStr Tryd.underlying173 (by unfold maxLen; omega) (Go.WideMaps.keyOf_string_mk Tryd.underlying9 hk) (val := .bool true) (d := .lit (.bool true)) (ps := []) rfl
  refine ⟨w', hrun, ⟨_, hown', fun k' hk' => ?_⟩, (Mod.refl _ w).grown hgrow (fun x hx _ => by simp only [oneBlock]; simpa using hx.symm)⟩
  by_cases e : k' = k
  · subst e
    have h1 := has_put_same hisM (k := keyL k') (by simp [WideAt.IsKeyLit, keyL]) (.lit (.bool true))
    have h2 := atKey_put_same hisM (k := keyL k') (by simp [WideAt.IsKeyLit, keyL]) (.lit (.bool true)) (.lit (.bool false))
    exact ⟨⟨fun _ => by simp, fun _ => h1⟩, fun _ => h2⟩
  · have hne : keyL k' ≠ keyL k := fun q => e (keyL_inj q)
    have h1 := has_put_other (D := D) hne (.lit (.bool true))
    have h2 := atKey_put_other (D := D) hne (.lit (.bool true)) (.lit (.bool false))
    obtain ⟨d1, d2⟩ := hD k' hk'
    refine ⟨?_, fun q => ?_⟩
    · show has (D.put (keyL k) (.lit (.bool true))) (keyL k') = true ↔ _
      rw [h1, d1, List.mem_append, List.mem_singleton]
      exact ⟨fun h => .inl h, fun h => h.resolve_right e⟩
    · have q' : has (D.put (keyL k) (.lit (.bool true))) (keyL k') = true := q
      rw [h1] at q'
      exact h2.trans (d2 q')
theorem run_makeMapK (w : World) : (Instr.makeMap 173 none).run Tryd.prog w = .ok (.map (some w.heap.size)) (w.alloc (.map #[] 0)) := by kernel_rfl
theorem Tryd.infoS : (Tryd.prog.info? 9).map (fun i => (i.zero, i.size, i.bytes)) = some (some (.string ByteArray.empty), 1, 16) := by kernel_rfl
theorem rat_no (r : RfM) (B : Nat) (all : List EntD) (t : Int) (w : World) (h : RfP w B r all) (ht : t < r.low) :
    Calls Tryd.prog 47 #[.pointer (some ⟨r.b, 0, none⟩), .int .i64 t] w fun e w' => e = .returned (.tuple #[.slice none 0 0, .int .i64 8]) ∧ w' = w := by
  have c1 := h.blk.cell 1 rfl
  have z0 := h.blk.lt
  have hd0 : decide (t < r.low) = true := decide_eq_true ht
  clear h
  go_enter Tryd.func47, Tryd.ntmps47
  go_wp2_with fail
  go_ret2
  exact ⟨rfl, rfl⟩
/-- Keys, as far as versions are looked through. -/
structure KeysL (w1 wr : World) (gs i : Nat) (all : List EntD) (v : Value) (ks : List ByteArray) : Prop where
  le : i ≤ all.length
  row : wr.ownsRow w1.heap.size 9 1 v ks.length (ks.map Value.string)
  nodup : ks.Nodup
  mem : ∀ k, k ∈ ks ↔ k ∈ (all.take i).map (·.key)
  len : ks.length ≤ i
  seen : SeenK wr gs ks.length ks
  mod : Mod (oneBlock gs) w1 wr
theorem take_nextE {l : List EntD} {k : Nat} {x : EntD} (h : l[k]? = some x) : l.take (k + 1) = l.take k ++ [x] := by
  obtain ⟨hk, e⟩ := List.getElem?_eq_some_iff.1 h
  rw [List.take_succ_eq_append_getElem hk, e]
/-- Pairs, as far as keys are gone through. -/
structure PairsL (w5 wr : World) (m : Nat) (ks : List ByteArray) (s : Vers) (t : Int) (v : Value) (ps : List PairD) : Prop where
  le : m ≤ ks.length
  row : wr.ownsRow w5.heap.size 84 3 v ps.length (pairsC ps)
  rise : ps.Pairwise ltP
  mem : ∀ k u, (k, u) ∈ ps ↔ k ∈ ks.take m ∧ toldO (s k) t = some u
  len : ps.length ≤ m
  mod : Mod noBlock w5 wr
theorem take_nextK {l : List ByteArray} {k : Nat} {x : ByteArray} (h : l[k]? = some x) : l.take (k + 1) = l.take k ++ [x] := by
  obtain ⟨hk, e⟩ := List.getElem?_eq_some_iff.1 h
  rw [List.take_succ_eq_append_getElem hk, e]
theorem PairsL.take_ {w5 wi w7 : World} {m : Nat} {ks : List ByteArray} {s : Vers} {t : Int} {v v7 : Value} {ps : List PairD} {k u : ByteArray} (h : PairsL w5 wi m ks s t v ps) (hk : ks[m]? = some k) (ht : toldO (s k) t = some u) (hr : ks.Pairwise ltK)
    (hrow : w7.ownsRow w5.heap.size 84 3 v7 (ps.length + 1) (pairsC ps ++ pairC (k, u))) (hm : Mod noBlock w5 w7) : PairsL w5 w7 (m + 1) ks s t v7 (ps ++ [(k, u)]) := by
  have hml := (List.getElem?_eq_some_iff.1 hk).1
  refine ⟨hml, by rw [List.length_append, pairsC_snoc]; exact hrow, ?_, fun k' u' => ?_, by rw [List.length_append]; have := h.len; simp; omega, hm⟩
  · rw [List.pairwise_append]
    refine ⟨h.rise, by simp, fun a ha b hb => ?_⟩
    simp at hb
    subst hb
    obtain ⟨k', u'⟩ := a
    have h1 := ((h.mem k' u').1 ha).1
    obtain ⟨j, hj, e⟩ := List.getElem_of_mem h1
    rw [List.length_take] at hj
    have h2 := List.pairwise_iff_getElem.1 hr j m (by omega) hml (by omega)
    rw [List.getElem_take] at e
    rw [e, (List.getElem?_eq_some_iff.1 hk).2] at h2
    exact h2
  · rw [List.mem_append, h.mem, List.mem_singleton, take_nextK hk, List.mem_append, List.mem_singleton]
    constructor
    · rintro (⟨a, b⟩ | e)
      · exact ⟨.inl a, b⟩
      · cases e; exact ⟨.inr rfl, ht⟩
    · rintro ⟨a | rfl, b⟩
      · exact .inl ⟨a, b⟩
      · rw [ht] at b; cases b; exact .inr rfl
theorem PairsL.skip {w5 wi w7 : World} {m : Nat} {ks : List ByteArray} {s : Vers} {t : Int} {v : Value} {ps : List PairD} {k : ByteArray} (h : PairsL w5 wi m ks s t v ps) (hk : ks[m]? = some k) (ht : toldO (s k) t = none) (hrow : w7.ownsRow w5.heap.size 84 3 v ps.length (pairsC ps)) (hm : Mod noBlock w5 w7) : PairsL w5 w7 (m + 1) ks s t v ps := by
  have hml := (List.getElem?_eq_some_iff.1 hk).1
  refine ⟨hml, hrow, h.rise, fun k' u' => ?_, by have := h.len; omega, hm⟩
  rw [h.mem, take_nextK hk, List.mem_append, List.mem_singleton]
  constructor
  · rintro ⟨a, b⟩; exact ⟨.inl a, b⟩
  · rintro ⟨a | rfl, b⟩
    · exact ⟨a, b⟩
    · rw [ht] at b; cases b
end Go.Proofs.YtefhgakcffhgaaaDoor
