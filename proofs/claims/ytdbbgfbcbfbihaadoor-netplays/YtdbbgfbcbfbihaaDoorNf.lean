/- The document's net (package chainmailref): dead, Send. -/
import Derived.Test.YtdbbgfbcbfbihaaDoorNt11
namespace Go.Proofs.YtdbbgfbcbfbihaaDoor
open Go.RowKit Go.Lib Go.Maps

/-- The document's net at block g. -/
structure RefP (w : World) (L g : Nat) (lv dv : Value) (s : NetS) : Prop where
  blk : Blk w g [lv, dv, .int .i64 s.lost] 66
  low : L ≤ g
  row : RowM w L lv s.way
  dead : w.ownsRow L 3 1 dv s.down.length (s.down.map (Value.int .i64))
  few : s.way.length ≤ 200
  lo : 0 ≤ s.lost ∧ s.lost ≤ 1099511627776
def refMay (g : Nat) (lv dv : Value) (k : Nat) : Prop := k = g ∨ lv.ownBlock = some k ∨ dv.ownBlock = some k
theorem RefP.lt {w : World} {L g : Nat} {lv dv : Value} {s : NetS} (h : RefP w L g lv dv s) {k : Nat} (hk : refMay g lv dv k) : L ≤ k ∧ k < w.heap.size ∧ ¬ St w L k := by
  rcases hk with rfl | hk | hk
  · refine ⟨h.low, h.blk.lt, ?_⟩
    rintro (e | ⟨cur, fr, e⟩)
    · have := h.low; omega
    · have := h.blk; simp only [Blk] at this; rw [this] at e; simp at e
  · obtain ⟨us, _, h2, _⟩ := h.row
    have h3 := h2.lt k hk
    exact ⟨h3.1, h3.2, Qm.row h2 (Nat.le_refl _) (by decide) k h3.2 hk⟩
  · have h3 := h.dead.lt k hk
    exact ⟨h3.1, h3.2, Qm.row h.dead (Nat.le_refl _) (by decide) k h3.2 hk⟩
theorem RefP.qm {w : World} {L g : Nat} {lv dv : Value} {s : NetS} (h : RefP w L g lv dv s) : Qm w L (refMay g lv dv) := fun _ _ hk => (h.lt hk).2.2
theorem Qm.of_ref {w : World} {L g : Nat} {lv dv : Value} {s : NetS} (h : RefP w L g lv dv s) {G : Nat → Prop} (hG : ∀ k, k < w.heap.size → G k → refMay g lv dv k) : Qm w L G := fun k hk hg => (h.lt (hG k hk hg)).2.2
theorem RefP.mod {G : Nat → Prop} {w w' : World} {L g : Nat} {lv dv : Value} {s : NetS} (h : RefP w L g lv dv s) (hm : Mod G w w') (hq : Qm w L G) (hG : ∀ k, refMay g lv dv k → ¬ G k) : RefP w' L g lv dv s :=
  ⟨h.blk.mod hm (hG g (.inl rfl)), h.low, h.row.mod hm hq (fun k hk => hG k (.inr (.inl hk))), own_mod h.dead hm (fun k _ _ e => hG k (.inr (.inr e))), h.few, h.lo⟩
theorem RefP.apart {w : World} {L g : Nat} {lv dv : Value} {s : NetS} (h : RefP w L g lv dv s) : lv.ownBlock ≠ some g ∧ dv.ownBlock ≠ some g ∧ ∀ k, lv.ownBlock = some k → dv.ownBlock ≠ some k := by
  have hb := h.blk
  simp only [Blk] at hb
  have own_at : ∀ {v : Value} {e : TypeId} {sz n : Nat} {xs : List Value}, w.ownsRow L e sz v n xs → ∀ {k : Nat}, v.ownBlock = some k → ∃ cur, w.heap[k]? = some (.cells cur e (0, 0)) := by
    intro v e sz n xs ho k hk
    rcases ho.2 with ⟨e', _⟩ | ⟨g', cap, cur, e', _, hg, _⟩
    · rw [e'] at hk; simp [Value.ownBlock] at hk
    · rw [e'] at hk; simp [Value.ownBlock] at hk; subst hk; exact ⟨cur, hg⟩
  obtain ⟨us, _, h2, _⟩ := h.row
  refine ⟨fun e => ?_, fun e => ?_, fun k e e' => ?_⟩
  · obtain ⟨cur, hc⟩ := own_at h2 e
    rw [hb] at hc; simp at hc
  · obtain ⟨cur, hc⟩ := own_at h.dead e
    rw [hb] at hc; simp at hc
  · obtain ⟨cur, hc⟩ := own_at h2 e
    obtain ⟨cur', hc'⟩ := own_at h.dead e'
    rw [hc] at hc'; simp at hc'

set_option maxHeartbeats 400000 in
theorem dead_any (L g : Nat) (lv dv : Value) (s : NetS) (id : Int) (w : World) (h : RefP w L g lv dv s) (hds : s.down.length ≤ 1000000) :
    Calls Tryd.prog 86 #[.pointer (some ⟨g, 0, none⟩), .int .i64 id] w fun e w' => e = .returned (.bool (decide (id ∈ s.down))) ∧ w' = w := by
  obtain ⟨da, dcap, hdv⟩ := own_slice h.dead
  subst hdv
  have c1 := h.blk.cell 1 rfl
  go_enter Tryd.func86, Tryd.ntmps86
  go_wp2_with fail
  go_loopw [12] (fun i wr => ∃ k : Nat, k ≤ s.down.length ∧ i = .int .i64 k ∧ id ∉ s.down.take k ∧ wr = w) (fun i _ => s.down.length - (intOf i).toNat)
  case atStart => exact ⟨0, Nat.zero_le _, rfl, by simp, rfl⟩
  case round =>
    obtain ⟨k, hk, rfl, hno, rfl⟩ := hrel
    have HNO := Hid.mk' hno
    clear hno
    by_cases hlt : k < s.down.length
    · obtain ⟨x, hx⟩ : ∃ x, s.down[k]? = some x := ⟨_, List.getElem?_eq_getElem hlt⟩
      obtain ⟨b, hda, hcx⟩ : ∃ b, da = some ⟨b, 0, none⟩ ∧ wr.cell? ⟨b, k, none⟩ = some (.int .i64 x) := by
        rcases h.dead.2 with ⟨e, h0⟩ | ⟨b, cap', cur, e, _, _, _⟩
        · omega
        · simp only [Value.slice.injEq] at e
          obtain ⟨rfl, _, rfl⟩ := e
          have hc := h.dead.cells (g := b) rfl k (.int .i64 x) (by simp [hx])
          rw [Go.WideShapes.add_plain, Nat.zero_add] at hc
          exact ⟨b, rfl, hc⟩
      subst hda
      have HT := Hid.mk' (take_snoc_at hx)
      have HX := Hid.mk' hx
      clear hx
      by_cases hxi : x = id
      · subst hxi
        have HM : Hid (decide (x ∈ s.down) = true) := decide_eq_true (List.mem_of_getElem? HX.out)
        go_wp2_with fail
        go_ret
        exact ⟨by rw [HM.out]; rfl, rfl⟩
      · have hne : (x == id) = false := by simpa using hxi
        go_wp2_with fail
        go_roundw
        case rel =>
          refine ⟨k + 1, by omega, by go_num, ?_, by trivial⟩
          rw [HT.out]
          intro hm
          rcases List.mem_append.1 hm with e | e
          · exact HNO.out e
          · simp at e; exact hxi e.symm
        case measure => simp [intOf]; omega
    · obtain rfl : k = s.down.length := by omega
      rw [List.take_length] at HNO
      have HM : Hid (decide (id ∈ s.down) = false) := decide_eq_false HNO.out
      go_wp2_with fail
      go_ret
      exact ⟨by rw [HM.out]; rfl, rfl⟩
end Go.Proofs.YtdbbgfbcbfbihaaDoor
