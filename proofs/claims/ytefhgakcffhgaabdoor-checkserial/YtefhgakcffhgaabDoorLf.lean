/- The document's Serial; that both answers are one. -/
import Derived.Test.YtefhgakcffhgaabDoorLe
namespace Go.Proofs.YtefhgakcffhgaabDoor
open Go.RowKit Go.Lib Go.Maps
set_option linter.unusedVariables false

theorem try_all (ts : List TxD) (hts : ts.length ≤ 8) (hops : ∀ t ∈ ts, t.ops.length ≤ 40) : ∀ r, TryAt ts r
  | 0 => try_step ts hts hops 0 (fun r' h => by omega)
  | r + 1 => try_step ts hts hops (r + 1) (fun r' h => by
      obtain rfl : r' = r := by omega
      exact try_all ts hts hops r')
theorem answer_one {ts : List TxD} {o o' : List Nat} {s s' : Sta} (h1 : goodR ts [] bareS o = some s) (h2 : Whole ts o) (h3 : LeastR ts [] bareS o) (k1 : goodR ts [] bareS o' = some s') (k2 : Whole ts o') (k3 : LeastR ts [] bareS o') : o = o' :=
  lexLe_eq (h3 o' s' k1 (by simpa using k2)) (k3 o s h1 (by simpa using h2))
theorem answer_none {ts : List TxD} {o : List Nat} {s : Sta} (h1 : goodR ts [] bareS o = some s) (h2 : Whole ts o) (h : NoneFits ts [] bareS) : False := h o s h1 (by simpa using h2)
theorem IntsV.bare (w : World) : IntsV w (.slice none 0 0) [] := ⟨none, 0, rfl, Nat.le_refl _, Nat.zero_le _, .inl rfl⟩
/-- What the document's Serial comes to. -/
def RefP (w : World) (ts : List TxD) (e : Ending) (w' : World) : Prop :=
  Mod noBlock w w' ∧ ((∃ ov o s, e = .returned (.tuple #[ov, .bool true]) ∧ IntsV w' ov (ordI o) ∧ goodR ts [] bareS o = some s ∧ Whole ts o ∧ LeastR ts [] bareS o) ∨ (e = .returned (.tuple #[.slice none 0 0, .bool false]) ∧ NoneFits ts [] bareS))
set_option maxRecDepth 100000 in
set_option maxHeartbeats 2000000 in
theorem refserial_any (L : Nat) (tv : Value) (ts : List TxD) (w : World) (ht : TxsV w L tv ts) (hL : L ≤ w.heap.size) (hts : ts.length ≤ 8) (hops : ∀ t ∈ ts, t.ops.length ≤ 40) :
    Calls Tryd.prog 6 #[tv] w (RefP w ts) := by
  obtain ⟨a, cap, rfl, hc1, hc2⟩ := SlR.slice ht
  have hmf : ∀ fn first cap w, (Instr.makeFunc fn first cap).run Tryd.prog w = .ok (.func fn first cap) w := fun _ _ _ _ => rfl
  have HT := Hid.mk' ht
  obtain ⟨fv, hfv⟩ : ∃ q : Value, q = .func (.func 13) #[] #[.pointer (some ⟨w.heap.size, 0, none⟩), .pointer (some ⟨w.heap.size + 1, 0, none⟩)] := ⟨_, rfl⟩
  have hbn : Blk ((w.alloc (.cells #[.slice a ts.length cap] 35)).alloc (.cells #[.nilFunc] 48)) (w.heap.size + 1) [.nilFunc] 48 := by
    have := Blk.new (w.alloc (.cells #[.slice a ts.length cap] 35)) [.nilFunc] 48
    simpa using this
  obtain ⟨w2, hw2⟩ : ∃ q, q = ((w.alloc (.cells #[.slice a ts.length cap] 35)).alloc (.cells #[.nilFunc] 48)).setCell ⟨w.heap.size + 1, 0, none⟩ fv := ⟨_, rfl⟩
  have hst : (store ⟨w.heap.size + 1, 0, none⟩ (.func (.func 13) #[] #[.pointer (some ⟨w.heap.size, 0, none⟩), .pointer (some ⟨w.heap.size + 1, 0, none⟩)])).run Tryd.prog ((w.alloc (.cells #[.slice a ts.length cap] 35)).alloc (.cells #[.nilFunc] 48)) = .ok () w2 := by
    rw [← hfv, hw2, run_store Tryd.prog _ _ _ _ (by rw [hfv]; rfl)]
    simp only [hbn.cell 0 rfl, hbn.frozen 0]
    rfl
  have hm2 : Mod noBlock w w2 := by rw [hw2]; exact (((Mod.refl noBlock w).alloc _).alloc _).setCell (p := ⟨w.heap.size + 1, 0, none⟩) (fun h => by simp at h; omega) _
  have hb1 : Blk w2 w.heap.size [.slice a ts.length cap] 35 := by rw [hw2]; exact ((Blk.new w [.slice a ts.length cap] 35).mod ((Mod.refl noBlock _).alloc _) id).mod (Mod.setBlk (w.heap.size + 1) 0 _) (fun e => by simp only [oneBlock] at e; omega)
  have hb2 : Blk w2 (w.heap.size + 1) [.func (.func 13) #[] #[.pointer (some ⟨w.heap.size, 0, none⟩), .pointer (some ⟨w.heap.size + 1, 0, none⟩)]] 48 := by rw [hw2, ← hfv]; exact hbn.set 0 fv
  have HTA := Hid.mk' (try_all ts hts hops 8 L w.heap.size (w.heap.size + 1) _ (.slice none 0 0) [] bareS w2 (hb1.cell 0 rfl) (hb2.cell 0 rfl) (ht.mod hm2 (fun _ _ => id)) (Nat.le_trans hL hm2.size) (IntsV.bare _) (by simp) (by simp) rfl (by simpa using hts))
  have HM2 := Hid.mk' hm2
  have c2 := hb2.cell 0 rfl
  clear ht hm2 hb1 hb2 hbn hw2 hfv
  go_enter Tryd.func6, Tryd.ntmps6
  go_wp2_with fail
  refine HTA.out.mono ?_
  rintro e w5 ⟨hm5, ⟨ov, rest, s', rfl, k1, k2, k3, k4⟩ | ⟨rfl, hno⟩⟩
  · have HM5 := Hid.mk' (HM2.out.trans hm5)
    have HK := Hid.mk' (And.intro k1 (And.intro k2 (And.intro k3 k4)))
    clear k1 k2 k3 k4 hm5
    go_wp2_with fail
    go_ret2
    exact ⟨HM5.out, .inl ⟨ov, rest, s', rfl, HK.out⟩⟩
  · have HM5 := Hid.mk' (HM2.out.trans hm5)
    have HN := Hid.mk' hno
    clear hm5 hno
    go_wp2_with fail
    go_ret2
    exact ⟨HM5.out, .inr ⟨rfl, HN.out⟩⟩
set_option maxRecDepth 100000 in
set_option maxHeartbeats 2000000 in
theorem sameInts_one (a b : Value) (ns : List Int) (w : World) (ha : IntsV w a ns) (hb : IntsV w b ns) :
    Calls Tryd.prog 8 #[a, b] w fun e w' => e = .returned (.bool true) ∧ Mod noBlock w w' := by
  obtain ⟨pa, ca, rfl, ha1, ha2, hac⟩ := ha
  obtain ⟨pb, cb, rfl, hb1, hb2, hbc⟩ := hb
  unfold maxLen at ha2 hb2
  have HA := Hid.mk' hac
  have HB := Hid.mk' hbc
  clear hac hbc
  go_enter Tryd.func8, Tryd.ntmps8
  go_wp2_with fail
  go_loopw [5] (fun i wr => ∃ k : Nat, k ≤ ns.length ∧ i = .int .i64 k ∧ Mod noBlock w wr) (fun i _ => ns.length - (intOf i).toNat)
  case atStart => exact ⟨0, Nat.zero_le _, rfl, Mod.refl _ _⟩
  case round =>
    obtain ⟨k, hk, rfl, hM⟩ := hrel
    by_cases hlt : k < ns.length
    · obtain ⟨y, hy⟩ : ∃ y, ns[k]? = some y := ⟨_, List.getElem?_eq_getElem hlt⟩
      rcases HA.out with e | ⟨b1, o1, rfl, h1⟩
      · rw [e] at hlt; simp at hlt
      rcases HB.out with e | ⟨b2, o2, rfl, h2⟩
      · rw [e] at hlt; simp at hlt
      have q0 := hM.cell (h1 k y hy) id
      have q1 := hM.cell (h2 k y hy) id
      have hyy : (y == y) = true := by simp
      have HM := Hid.mk' hM
      have hltI : (k : Int) < (ns.length : Int) := by omega
      have hlt0 : (0 : Int) ≤ (k : Int) := by omega
      clear h1 h2 hy hM
      go_upto_region 6 with fail
      go_region
      all_goals
        go_wp2_with fail
        go_roundw
        case rel => exact ⟨k + 1, by omega, by go_num, HM.out.drew⟩
        case measure => simp [intOf]; omega
    · go_wp2_with fail
      go_ret
      exact ⟨rfl, hM⟩
end Go.Proofs.YtefhgakcffhgaabDoor
