/- The law MvPlays: Puts that the program refuses. -/
import Derived.Test.YtefhgakcffhgaaaDoorTg
import Derived.Test.YtefhgakcffhgaaaDoorTm
import Derived.Test.YtefhgakcffhgaaaDoorMq
namespace Go.Proofs.YtefhgakcffhgaaaDoor
open Go.RowKit Go.Lib Go.Maps
set_option linter.unusedVariables false

theorem by_last {l : List VerD} (hr : Rising l) {t : Int} (h : ∃ v ∈ l, v.time = t) : ∃ (m : Nat) (d : VerD), byN l t = m + 1 ∧ m < l.length ∧ l[m]? = some d ∧ d.time = t := by
  obtain ⟨v, hv, rfl⟩ := h
  obtain ⟨i, hi, e⟩ := List.getElem_of_mem hv
  have hl : l[i]? = some v := by rw [List.getElem?_eq_getElem hi, e]
  have h1 := (byN_at hr v.time i v hl).2 (Int.le_refl _)
  have hle := byN_le l v.time
  refine ⟨i, v, ?_, hi, hl, rfl⟩
  rcases Nat.lt_or_ge (i + 1) (byN l v.time) with h2 | h2
  · exfalso
    obtain ⟨u, hu⟩ : ∃ u, l[i + 1]? = some u := ⟨_, List.getElem?_eq_getElem (by omega)⟩
    have h3 := (byN_at hr v.time _ u hu).1 h2
    obtain ⟨hj, e2⟩ := List.getElem?_eq_some_iff.1 hu
    have h4 := List.pairwise_iff_getElem.1 hr i (i + 1) hi hj (by omega)
    rw [e, e2] at h4
    omega
  · omega
set_option maxRecDepth 100000 in
set_option maxHeartbeats 2000000 in
theorem put_range (q : StM) (t : Int) (key value : ByteArray) (gone : Bool) (w : World) (hr : t < 0 ∨ 1099511627776 < t) :
    Calls Tryd.prog 38 #[.pointer (some ⟨q.b, 0, none⟩), .int .i64 t, .agg #[.string key, .string value, .bool gone]] w fun e w' => e = .returned (.iface 29 (.int .i64 2)) ∧ Mod noBlock w w' := by
  have HM : Hid (Mod noBlock w (w.alloc (.cells #[.string key, .string value, .bool gone] 84))) := (Mod.refl _ w).alloc _
  by_cases h0 : t < 0
  · have d1 : decide (t < 0) = true := decide_eq_true h0
    go_enter Tryd.func38, Tryd.ntmps38
    go_wp2_with fail
    go_ret
    exact ⟨rfl, HM.out⟩
  · have d1 : decide (t < 0) = false := decide_eq_false h0
    have d2 : decide (t > 1099511627776) = true := decide_eq_true (by omega)
    go_enter Tryd.func38, Tryd.ntmps38
    go_wp2_with fail
    go_ret
    exact ⟨rfl, HM.out⟩
set_option maxRecDepth 100000 in
set_option maxHeartbeats 2000000 in
theorem put_none (q : StM) (B : Nat) (s : Vers) (t : Int) (key value : ByteArray) (gone : Bool) (w : World) (h : StP w B q s) (hr1 : 0 ≤ t) (hr2 : t ≤ 1099511627776) (hk : key.size ≤ 20) (hv : value.size ≤ 40) (hlow : t < q.low) :
    Calls Tryd.prog 38 #[.pointer (some ⟨q.b, 0, none⟩), .int .i64 t, .agg #[.string key, .string value, .bool gone]] w fun e w' => e = .returned (.iface 29 (.int .i64 8)) ∧ Mod noBlock w w' := by
  have HM : Hid (Mod noBlock w (w.alloc (.cells #[.string key, .string value, .bool gone] 84))) := (Mod.refl _ w).alloc _
  have c0 := (h.mod HM.out (fun _ _ => id)).blk.cell 0 rfl
  have z0 := (h.mod HM.out (fun _ _ => id)).blk.lt
  have z1 := h.blk.lt
  have c0' := h.blk.cell 0 rfl
  clear h
  have d1 : decide (t < 0) = false := decide_eq_false (by omega)
  have d2 : decide (t > 1099511627776) = false := decide_eq_false (by omega)
  have d3 : decide ((key.size : Int) > 20) = false := decide_eq_false (by omega)
  have d4 : decide ((value.size : Int) > 40) = false := decide_eq_false (by omega)
  have d5 : decide (t < q.low) = true := decide_eq_true hlow
  go_enter Tryd.func38, Tryd.ntmps38
  go_wp2_with fail
  go_ret
  exact ⟨rfl, HM.out⟩
set_option maxRecDepth 100000 in
set_option maxHeartbeats 16000000 in
theorem put_twice (q : StM) (B : Nat) (s : Vers) (t : Int) (key value : ByteArray) (gone : Bool) (w : World) (h : StP w B q s) (hr1 : 0 ≤ t) (hr2 : t ≤ 1099511627776) (hk : key.size ≤ 20) (hv : value.size ≤ 40) (hlow : q.low ≤ t) (htw : ∃ v ∈ s key, v.time = t) :
    Calls Tryd.prog 38 #[.pointer (some ⟨q.b, 0, none⟩), .int .i64 t, .agg #[.string key, .string value, .bool gone]] w fun e w' => e = .returned (.iface 29 (.int .i64 9)) ∧ Mod noBlock w w' := by
  have hkk : okK key := by unfold okK maxLen; omega
  obtain ⟨w1, hw1⟩ : ∃ x, x = w.alloc (.cells #[.string key, .string value, .bool gone] 84) := ⟨_, rfl⟩
  have hM1 : Mod noBlock w w1 := by rw [hw1]; exact (Mod.refl _ w).alloc _
  obtain ⟨pb, hpb⟩ : ∃ x, x = w.heap.size := ⟨_, rfl⟩
  have hP1 : Blk w1 pb [.string key, .string value, .bool gone] 84 := by rw [hw1, hpb]; exact Blk.new w [.string key, .string value, .bool gone] 84
  have h1 := h.mod hM1 (fun _ _ => id)
  have HH := Hid.mk'' h1
  have HM1 := Hid.mk'' hM1
  have c0 := h1.blk.cell 0 rfl
  have c1 := h1.blk.cell 1 rfl
  have z0 := h1.blk.lt
  have p0 := hP1.cell 0 rfl
  have p1 := hP1.cell 1 rfl
  have zp := hP1.lt
  have hlook := (h1.mod ((Mod.refl noBlock w1).drew) (fun _ _ => id)).look hkk
  have HBY := Hid.mk'' (fun wq (hq : Mod noBlock w1 wq) => by_any w1.heap.size (q.hd key) (s key) t wq ((h1.vers hkk).mod hq (fun _ _ => id)) hq.size (h1.rise key hkk) (by have := h1.few key hkk; omega))
  obtain ⟨m, d, hbn, hml, hd, hdt0⟩ := by_last (h1.rise key hkk) htw
  have HD := Hid.mk'' hd
  have hdt : (d.time == t) = true := by simp [hdt0]
  obtain ⟨la, lcap, hhd⟩ := own_slice (h1.rows key hkk).1
  have HHD := Hid.mk'' hhd
  rw [hhd] at hlook HBY
  rw [hbn] at HBY
  have d1 : decide (t < 0) = false := decide_eq_false (by omega)
  have d2 : decide (t > 1099511627776) = false := decide_eq_false (by omega)
  have d3 : decide ((key.size : Int) > 20) = false := decide_eq_false (by omega)
  have d4 : decide ((value.size : Int) > 40) = false := decide_eq_false (by omega)
  have d5 : decide (t < q.low) = false := decide_eq_false (by omega)
  have hmI : (m : Int) < ((s key).length : Int) := by omega
  have hm0 : (0 : Int) ≤ (m : Int) := by omega
  have hfew : (s key).length ≤ 900 := h1.few key hkk
  clear h h1 hM1 hP1 hhd hd htw hbn
  go_enter Tryd.func38, Tryd.ntmps38
  go_upto_region 1 with fail
  rw [← hpb, ← hw1]
  clear hw1 hpb
  go_upto_region 7 with fail
  go_region
  go_wp2_with fail
  refine (HBY.out _ ((Mod.refl noBlock w1).drew)).mono ?_
  rintro e w2 ⟨rfl, hm2⟩
  have hm12 : Mod noBlock w1 w2 := ((Mod.refl noBlock w1).drew).trans hm2
  have h2 := HH.out.mod hm12 (fun _ _ => id)
  have hvv := h2.vers hkk
  rw [HHD.out] at hvv
  obtain ⟨b, off, rfl, _, _, q0, _⟩ := hvv.at HD.out
  have HM2 := Hid.mk'' (HM1.out.trans hm12)
  clear HBY hm2 hlook hm12 h2 hvv c0 c1 z0 p0 p1 zp
  go_wp2_with fail
  go_ret
  exact ⟨rfl, HM2.out⟩
/-- An error, by its number. -/
def errV (c : Int) : Value := if c = 0 then .nilIface else .iface 29 (.int .i64 c)
theorem bare_any (x e : Int) (w : World) (h : ET w) : Calls Tryd.prog 15 #[errV x, .int .i64 e] w fun ev w' => ev = .returned (.bool (x == e)) ∧ Mod noBlock w w' := by
  unfold errV
  by_cases h0 : x = 0
  · subst h0
    exact bare_nil e w
  · rw [if_neg h0]
    exact bare_errno x e w h
end Go.Proofs.YtefhgakcffhgaaaDoor
