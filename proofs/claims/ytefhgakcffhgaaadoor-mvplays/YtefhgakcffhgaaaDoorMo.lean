/- The law MvTrims: keys that are seen, Put that is refused, timed. -/
import Derived.Test.YtefhgakcffhgaaaDoorMn
namespace Go.Proofs.YtefhgakcffhgaaaDoor
open Go.RowKit Go.Lib Go.Maps
set_option linter.unusedVariables false

def boolElem : Value → Option (DataW Unit × List MemPlace)
  | .bool b => some (.lit (.bool b), [])
  | _ => none
theorem boolElem_inv {v : Value} {y : DataW Unit × List MemPlace} (h : boolElem v = some y) : ∃ b, v = .bool b ∧ y.1 = .lit (.bool b) := by
  cases v <;> simp [boolElem] at h
  exact ⟨_, rfl, by rw [← h]⟩
/-- Keys of times that are seen. -/
def SeenP (w : World) (g n : Nat) (S : List (Int × ByteArray)) : Prop := ∃ D, w.ownsMap Tryd.prog 86 boolElem g n D ∧ ∀ t k l, okK k → keyOf Tryd.prog 86 (setKey t k) = some l → (has D l = true ↔ (t, k) ∈ S) ∧ (has D l = true → D.atKey l (.lit (.bool false)) = .lit (.bool true))
theorem SeenP.mod {G : Nat → Prop} {w w' : World} {g n : Nat} {S : List (Int × ByteArray)} (h : SeenP w g n S) (hm : Mod G w w') (hG : ¬ G g) : SeenP w' g n S := by
  obtain ⟨D, h1, h2⟩ := h
  have hlt := h1.lt
  obtain ⟨es, clock, hb, r⟩ := h1
  exact ⟨D, ⟨es, clock, (hm.block g hlt hG).trans hb, r⟩, h2⟩
theorem SeenP.new (w : World) : SeenP (w.alloc (.map #[] 0)) w.heap.size 0 [] := ⟨.map [], World.ownsMap_made w Tryd.prog _ boolElem, fun t k l _ _ => by simp [has]⟩
theorem zeroB (w : World) : (zeroValue 4).run Tryd.prog w = .ok (.bool false) w := by kernel_rfl
theorem setKey_inj {t t' : Int} {k k' : ByteArray} (h : setKey t k = setKey t' k') : t = t' ∧ k = k' := by
  simp [setKey] at h
  exact h
theorem SeenP.look {w : World} {g n : Nat} {S : List (Int × ByteArray)} (h : SeenP w g n S) (t : Int) (k : ByteArray) (h0 : 0 ≤ t) (h1 : t < 1000) (hk : okK k) : ∃ b : Bool, (Instr.lookup 82 (.map (some g)) (setKey t k) false).run Tryd.prog w = .ok (.bool b) w ∧ (b = true ↔ (t, k) ∈ S) := by
  obtain ⟨D, hown, hD⟩ := h
  obtain ⟨l, hl⟩ := keyOf_set t k h0 h1 hk
  obtain ⟨v, ps, hrun, hv⟩ := hown.lookup kSet Tryd.underlying82 (zeroB w) (zd := .lit (.bool false)) (zp := []) rfl hl
  obtain ⟨b, rfl, hb⟩ := boolElem_inv hv
  obtain ⟨d1, d2⟩ := hD t k l hk hl
  refine ⟨b, hrun, ?_⟩
  simp only at hb
  rw [← d1]
  cases e : has D l with
  | false =>
    rw [atKey_of_not_has e] at hb
    simp at hb
    rw [← hb]
  | true =>
    rw [d2 e] at hb
    simp at hb
    rw [hb]
theorem SeenP.put {w : World} {g n : Nat} {S : List (Int × ByteArray)} (h : SeenP w g n S) (t : Int) (k : ByteArray) (h0 : 0 ≤ t) (h1 : t < 1000) (hk : okK k) (hn : n ≤ 1000) : ∃ w', (Instr.mapUpdate 82 (.map (some g)) (setKey t k) (.bool true)).run Tryd.prog w = .ok () w' ∧ SeenP w' g (n + 1) (S ++ [(t, k)]) ∧ Mod (oneBlock g) w w' := by
  obtain ⟨D, hown, hD⟩ := h
  obtain ⟨l, hl⟩ := keyOf_set t k h0 h1 hk
  have hisM := hown.isMap
  obtain ⟨w', hrun, hown', hgrow⟩ := hown.update kSet Tryd.underlying82 (by unfold maxLen; omega) hl (val := .bool true) (d := .lit (.bool true)) (ps := []) rfl
  refine ⟨w', hrun, ⟨_, hown', fun t' k' l' hk' hl' => ?_⟩, (Mod.refl _ w).grown hgrow (fun x hx _ => by simp only [oneBlock]; simpa using hx.symm)⟩
  by_cases e : l' = l
  · subst e
    obtain ⟨e1, e2⟩ := setKey_inj (kSet.inj hl' hl)
    subst e1
    subst e2
    rw [has_put_same hisM (kSet.key hl), atKey_put_same hisM (kSet.key hl)]
    exact ⟨by simp, fun _ => rfl⟩
  · rw [has_put_other e, atKey_put_other e]
    obtain ⟨d1, d2⟩ := hD t' k' l' hk' hl'
    refine ⟨?_, d2⟩
    rw [d1, List.mem_append, List.mem_singleton]
    constructor
    · exact fun h => .inl h
    · rintro (h | h)
      · exact h
      · cases h
        rw [hl] at hl'
        cases hl'
        exact absurd rfl e
set_option maxRecDepth 100000 in
set_option maxHeartbeats 2000000 in
theorem put_limit (q : StM) (B : Nat) (s : Vers) (t : Int) (key value : ByteArray) (gone : Bool) (w : World) (h : StP w B q s) (hr1 : 0 ≤ t) (hr2 : t ≤ 1099511627776) (hk : ¬ (key.size ≤ 20 ∧ value.size ≤ 40)) :
    Calls Tryd.prog 38 #[.pointer (some ⟨q.b, 0, none⟩), .int .i64 t, .agg #[.string key, .string value, .bool gone]] w fun e w' => e = .returned (.iface 29 (.int .i64 4)) ∧ Mod noBlock w w' := by
  have d1 : decide (t < 0) = false := decide_eq_false (by omega)
  have d2 : decide (t > 1099511627776) = false := decide_eq_false (by omega)
  have HM : Hid (Mod noBlock w (w.alloc (.cells #[.string key, .string value, .bool gone] 84))) := (Mod.refl _ w).alloc _
  clear h
  by_cases h3 : key.size ≤ 20
  · have d3 : decide ((key.size : Int) > 20) = false := decide_eq_false (by omega)
    have d4 : decide ((value.size : Int) > 40) = true := decide_eq_true (by omega)
    go_enter Tryd.func38, Tryd.ntmps38
    go_wp2_with fail
    go_ret
    exact ⟨rfl, HM.out⟩
  · have d3 : decide ((key.size : Int) > 20) = true := decide_eq_true (by omega)
    go_enter Tryd.func38, Tryd.ntmps38
    go_wp2_with fail
    go_ret
    exact ⟨rfl, HM.out⟩
/-- A store that is new. -/
def newQ (b : Nat) : StM := ⟨b, 0, none, 0, fun _ => .slice none 0 0⟩
theorem newSt {w : World} {B b : Nat} (hb : Blk w b [.int .i64 0, .map none] 81) (hB : B ≤ b) : StP w B (newQ b) (fun _ => []) :=
  ⟨hb, hB, fun k _ => ⟨rfl, rfl⟩, fun k _ => ⟨World.ownsRow_nil _ _ _ _, fun o ho => by simp at ho⟩, fun k k' x _ _ h => by simp [newQ, Value.ownBlock] at h, fun k _ => List.Pairwise.nil, fun k _ => by simp⟩
theorem newQ_own {b x : Nat} (h : (newQ b).own x) : x = b := by
  rcases h with h | h | ⟨k, _, h⟩
  · exact h
  · cases h
  · simp [newQ, Value.ownBlock] at h
def bsA : ByteArray := ⟨#[97]⟩
def bsX : ByteArray := ⟨#[120]⟩
set_option maxRecDepth 100000 in
set_option maxHeartbeats 2000000 in
theorem timed_any (w : World) : Calls Tryd.prog 40 #[] w fun e w' => e = .returned (.bool true) ∧ Mod noBlock w w' := by
  obtain ⟨w1, hw1⟩ : ∃ x, x = w.alloc (.cells #[.int .i64 0, .map none] 81) := ⟨_, rfl⟩
  have hM1 : Mod noBlock w w1 := by rw [hw1]; exact (Mod.refl _ w).alloc _
  have hb1 : Blk w1 w.heap.size [.int .i64 0, .map none] 81 := by rw [hw1]; exact Blk.new w [.int .i64 0, .map none] 81
  have hS1 := newSt (B := w.heap.size) hb1 (Nat.le_refl _)
  have HP := Hid.mk'' (put_yes (newQ w.heap.size) w.heap.size (fun _ => []) 3 bsA bsX false w1 hS1 hM1.size (by omega) (by omega) (by decide) (by decide) (by show (0 : Int) ≤ 3; omega) (by simp) (by simp) (by show (0 : Nat) ≤ 1000; omega))
  have HM1 := Hid.mk'' hM1
  clear hb1 hS1 hM1
  go_enter Tryd.func40, Tryd.ntmps40
  go_upto_region 2 with fail
  rw [← hw1]
  clear hw1
  go_wp2_with fail
  refine HP.out.mono ?_
  rintro e w2 ⟨rfl, q2, hS2, hqb, hql, _, hm2, hon2⟩
  have hT4 : toldO (updV (fun _ => []) bsA (insV [] (madeV 3 bsX false)) bsA) 4 = some bsX := by
    simp [updV, insV, byN, madeV, toldO]
  have hT2 : toldO (updV (fun _ => []) bsA (insV [] (madeV 3 bsX false)) bsA) 2 = none := by
    simp [updV, insV, byN, madeV, toldO]
  have HG1 := Hid.mk'' (get_yes q2 w.heap.size _ bsA 4 w2 hS2 (by unfold okK maxLen; decide) (by rw [hql]; show (0 : Int) ≤ 4; omega))
  rw [hT4, hqb] at HG1
  have HM2 : Hid (Mod noBlock w w2) := HM1.out.trans' hm2 (fun x hx e => by have := newQ_own e; omega)
  have HS2 := Hid.mk'' hS2
  clear hS2 hm2 hon2 HP HM1
  go_wp2_with fail
  refine HG1.out.mono ?_
  rintro e w3 ⟨rfl, hm3⟩
  have HG2 := Hid.mk'' (get_yes q2 w.heap.size _ bsA 2 w3 (HS2.out.mod hm3 (fun _ _ => id)) (by unfold okK maxLen; decide) (by rw [hql]; show (0 : Int) ≤ 2; omega))
  rw [hT2, hqb] at HG2
  have HM3 := Hid.mk'' (HM2.out.trans hm3)
  clear hm3 HG1
  go_wp2_with fail
  refine HG2.out.mono ?_
  rintro e w4 ⟨rfl, hm4⟩
  have HM4 := Hid.mk'' (HM3.out.trans hm4)
  have hX : (bsX.toList == [120]) = true := by first | rfl | decide | kernel_rfl
  clear hm4 HG2
  go_wp2_with fail
  go_ret
  exact ⟨rfl, HM4.out⟩
end Go.Proofs.YtefhgakcffhgaaaDoor
