/- The program's reader, function by function. -/
import Derived.Test.YtdbbgfbcbfbihaaDoorRows
import Derived.Test.YtdbbgfbcbfbihaaDoorPure
import Derived.Test.YtdbbgfbcbfbihaaDoorMem
import Derived.WalkKit
namespace Go.Proofs.YtdbbgfbcbfbihaaDoor
open Go.RowKit

/-- A reader at block g: the bytes that are left, and whether it is spoilt. -/
def RAt (w : World) (L g : Nat) (bs : List Int) (sp : Bool) : Prop :=
  L ≤ g ∧ ∃ v, Blk w g [v, .bool sp] 148 ∧ BAt w L v bs

theorem spoil_any (g : Nat) (v u : Value) (w : World) (h0 : w.cell? ⟨g, 0, none⟩ = some v) (h1 : w.cell? ⟨g, 1, none⟩ = some u) (hf0 : w.frozen? ⟨g, 0, none⟩ = false) (hf1 : w.frozen? ⟨g, 1, none⟩ = false) :
    Calls Tryd.prog 116 #[.pointer (some ⟨g, 0, none⟩)] w fun e w' => e = .returned (.tuple #[]) ∧ w' = (w.setCell ⟨g, 0, none⟩ (.slice none 0 0)).setCell ⟨g, 1, none⟩ (.bool true) := by
  go_enter Tryd.func116, Tryd.ntmps116
  go_wp2
  go_end0
  exact ⟨rfl, rfl⟩

theorem RAt.mod {G : Nat → Prop} {w w' : World} {L g : Nat} {bs : List Int} {sp : Bool} (h : RAt w L g bs sp) (hm : Mod G w w') (hg : ¬ G g) (hG : ∀ k, k < L → ¬ G k) : RAt w' L g bs sp := by
  obtain ⟨hL, v, h1, h2⟩ := h
  exact ⟨hL, v, h1.mod hm hg, h2.mod hm hG⟩
theorem RAt.lt {w : World} {L g : Nat} {bs : List Int} {sp : Bool} (h : RAt w L g bs sp) : L ≤ g ∧ g < w.heap.size := by
  obtain ⟨hL, v, h1, _⟩ := h
  exact ⟨hL, h1.lt⟩
/-- A reader whose first cell is stored anew. -/
theorem RAt.set0 {w : World} {L g : Nat} {v u : Value} {sp : Bool} (hL : L ≤ g) (h : Blk w g [v, .bool sp] 148) {bs : List Int} (hb : BAt w L u bs) : RAt (w.setCell ⟨g, 0, none⟩ u) L g bs sp :=
  ⟨hL, u, h.set 0 u, hb.mod (Mod.setBlk g 0 u) (fun k hk e => by simp only [oneBlock] at e; omega)⟩
theorem RAt.spoilt {w : World} {L g : Nat} {v u : Value} (hL : L ≤ g) (h : Blk w g [v, u] 148) : RAt ((w.setCell ⟨g, 0, none⟩ (.slice none 0 0)).setCell ⟨g, 1, none⟩ (.bool true)) L g [] true :=
  ⟨hL, _, (h.set 0 (.slice none 0 0)).set 1 (.bool true), BAt.nil _ _⟩
theorem mod_spoilt (w : World) (g : Nat) (u v : Value) : Mod (oneBlock g) w ((w.setCell ⟨g, 0, none⟩ u).setCell ⟨g, 1, none⟩ v) := (Mod.setBlk g 0 u).trans (Mod.setBlk g 1 v)
theorem ret_int {k : IntKind} {a b : Int} (h : a = b) : Ending.returned (.int k a) = .returned (.int k b) := by rw [h]
theorem pnum_no {bs : List Int} {sp : Bool} {lo hi k : Nat} {c y : Int} (h : pnum lo hi (bs, sp) = if (k = 0 ∨ c ≠ 0) ∧ (lo : Int) ≤ y ∧ y ≤ hi then (y.toNat, bs.drop (k + 1), sp) else (0, [], true))
    (hn : ¬ ((k = 0 ∨ c ≠ 0) ∧ (lo : Int) ≤ y ∧ y ≤ hi)) : pnum lo hi (bs, sp) = (0, [], true) := by rw [h, if_neg hn]
theorem pnum_yes {bs : List Int} {sp : Bool} {lo hi k : Nat} {c y : Int} (h : pnum lo hi (bs, sp) = if (k = 0 ∨ c ≠ 0) ∧ (lo : Int) ≤ y ∧ y ≤ hi then (y.toNat, bs.drop (k + 1), sp) else (0, [], true))
    (hn : (k = 0 ∨ c ≠ 0) ∧ (lo : Int) ≤ y ∧ y ≤ hi) : pnum lo hi (bs, sp) = (y.toNat, bs.drop (k + 1), sp) := by rw [h, if_pos hn]

theorem num_no {r : Nat × List Int × Bool} {w : World} {L g : Nat} {v u : Value} (hL : L ≤ g) (hq : r = (0, [], true)) (h : Blk w g [v, u] 148) :
    Ending.returned (.int .i64 0) = .returned (.int .i64 (r.1 : Int)) ∧ RAt ((w.setCell ⟨g, 0, none⟩ (.slice none 0 0)).setCell ⟨g, 1, none⟩ (.bool true)) L g r.2.1 r.2.2 ∧ Mod (oneBlock g) w ((w.setCell ⟨g, 0, none⟩ (.slice none 0 0)).setCell ⟨g, 1, none⟩ (.bool true)) := by
  subst hq; exact ⟨rfl, RAt.spoilt hL h, mod_spoilt _ _ _ _⟩

set_option maxHeartbeats 1000000 in
theorem number_any (L g : Nat) (bs : List Int) (sp : Bool) (lo hi : Nat) (w : World) (h : RAt w L g bs sp) :
    Calls Tryd.prog 77 #[.pointer (some ⟨g, 0, none⟩), .int .i64 lo, .int .i64 hi] w fun e w' => e = .returned (.int .i64 (pnum lo hi (bs, sp)).1) ∧ RAt w' L g (pnum lo hi (bs, sp)).2.1 (pnum lo hi (bs, sp)).2.2 ∧ Mod (oneBlock g) w w' := by
  obtain ⟨hLg, v, hblk, hb, a, cap, rfl, hlc, hcm0, hbs⟩ := h
  have hcm := hcm0
  unfold maxLen at hcm
  have h0 := hblk.cell 0 rfl
  have h1 := hblk.cell 1 rfl
  have hf0 := hblk.frozen 0
  have hf1 := hblk.frozen 1
  obtain ⟨r, hr⟩ : ∃ r, r = pnum lo hi (bs, sp) := ⟨_, rfl⟩
  rw [← hr]
  have HR : Hid (r = pnum lo hi (bs, sp)) := hr
  clear hr
  go_enter Tryd.func77, Tryd.ntmps77
  by_cases hM : 6 < (bs.length : Int)
  all_goals
    go_wp2_with fail
    go_loop [7, 16] (fun n i => ∃ k : Nat, k ≤ 6 ∧ k ≤ bs.length ∧ i = .int .i64 k ∧ n = .int .i64 (vl (bs.take k)) ∧ ∀ j, j < k → 128 ≤ bs.getD j 0) (fun _ i => 6 - (intOf i).toNat)
    case atStart => exact ⟨0, Nat.zero_le _, Nat.zero_le _, rfl, rfl, by simp⟩
    case round =>
      obtain ⟨k, hk, hkl, rfl, rfl, hbig⟩ := hrel
      have HB : Hid (∀ j, j < k → 128 ≤ bs.getD j 0) := hbig
      clear hbig
      obtain ⟨x, hx⟩ : ∃ x, x = vl (bs.take k) := ⟨_, rfl⟩
      rw [← hx]
      by_cases hlt : k < 6 ∧ k < bs.length
      · obtain ⟨hk6, hkb⟩ := hlt
        rcases hbs with rfl | ⟨b, off, rfl, hbL, hcell⟩
        · simp at hkb
        have hc := hcell k hkb
        obtain ⟨c, hcc⟩ : ∃ c, c = bs.getD k 0 := ⟨_, rfl⟩
        rw [← hcc] at hc
        have hcb : 0 ≤ c ∧ c < 256 := by rw [hcc]; exact hb _ (by rw [List.getD_eq_getElem?_getD, List.getElem?_eq_getElem hkb]; exact List.getElem_mem _)
        obtain ⟨hc0, hc1⟩ := hcb
        obtain ⟨y, hy⟩ : ∃ y, y = vl (bs.take (k + 1)) := ⟨_, rfl⟩
        have hor := or_vl bs k hk6 hkb c hcc hc0 hc1
        rw [← hx, ← hy] at hor
        have HC : Hid (c = bs.getD k 0) := hcc
        have HY : Hid (y = vl (bs.take (k + 1))) := hy
        have HCe : Hid (∀ j, j < bs.length → w.cell? ⟨b, off + j, none⟩ = some (.int .u8 (bs.getD j 0))) := hcell
        have HBY : Hid (∀ x ∈ bs, 0 ≤ x ∧ x < 256) := hb
        clear hcc hcell hx hy hb
        by_cases hbigc : 128 ≤ c
        · go_wp2_with fail
          go_round
          case rel =>
            refine ⟨k + 1, by omega, by omega, by go_num, by rw [HY.out], fun j hj => ?_⟩
            rcases Nat.lt_or_eq_of_le (Nat.le_of_lt_succ hj) with h | rfl
            · exact HB.out j h
            · rw [← HC.out]; exact hbigc
          case measure => simp [intOf]; omega
        · have HP : Hid (pnum lo hi (bs, sp) = if (k = 0 ∨ c ≠ 0) ∧ (lo : Int) ≤ y ∧ y ≤ hi then (y.toNat, bs.drop (k + 1), sp) else (0, [], true)) := pnum_at hk6 hkb HBY.out HB.out HC.out (by omega) HY.out
          by_cases hok : (k = 0 ∨ c ≠ 0) ∧ (lo : Int) ≤ y ∧ y ≤ hi
          · have HQ : Hid (r = (y.toNat, bs.drop (k + 1), sp)) := HR.out.trans (pnum_yes HP.out hok)
            obtain ⟨hk0, hlo', hhi'⟩ := hok
            clear HP HR HC HY
            go_wp2_with fail
            all_goals go_ret
            all_goals refine ⟨ret_int (by rw [HQ.out]; simp; omega), ?_, Mod.setBlk g 0 _⟩
            all_goals rw [HQ.out]
            all_goals exact RAt.set0 hLg hblk (BAt.drop HBY.out hlc hcm0 hbL HCe.out _ (by omega) _ (fun h => by first | rfl | (exfalso; omega) | (subst_vars; rfl)) _ _ (by omega) (by omega))
          · have HQ : Hid (r = (0, [], true)) := HR.out.trans (pnum_no HP.out hok)
            clear HP HR HC HY
            go_wp2_with (go_at_call 116; refine (spoil_any g _ _ _ h0 h1 hf0 hf1).mono ?_; rintro e w' ⟨rfl, rfl⟩)
            all_goals go_ret
            all_goals exact num_no hLg HQ.out hblk
      · have HQ : pnum lo hi (bs, sp) = (0, [], true) := pnum_none (fun j h6 hl => HB.out j (by omega))
        have HQ' : Hid (r = (0, [], true)) := HR.out.trans HQ
        clear HR HQ
        go_wp2_with (go_at_call 116; refine (spoil_any g _ _ _ h0 h1 hf0 hf1).mono ?_; rintro e w' ⟨rfl, rfl⟩)
        all_goals go_ret
        all_goals exact num_no hLg HQ'.out hblk

theorem number_at (lo hi : Nat) {L g : Nat} {bs : List Int} {sp : Bool} {l u : Int} (w : World) (h : RAt w L g bs sp) (hl : l = lo) (hu : u = hi) :
    Calls Tryd.prog 77 #[.pointer (some ⟨g, 0, none⟩), .int .i64 l, .int .i64 u] w fun e w' => e = .returned (.int .i64 (pnum lo hi (bs, sp)).1) ∧ RAt w' L g (pnum lo hi (bs, sp)).2.1 (pnum lo hi (bs, sp)).2.2 ∧ Mod (oneBlock g) w w' := by
  subst hl hu; exact number_any L g bs sp lo hi w h
end Go.Proofs.YtdbbgfbcbfbihaaDoor
