/- The document's writer (package chainmailref): numbers and texts. -/
import Derived.Test.YtdbbgfbcbfbihaaDoorEy2
import Derived.Lib.AppendStr
namespace Go.Proofs.YtdbbgfbcbfbihaaDoor
open Go.RowKit

theorem Tryd.info5 : (Tryd.prog.info? 5).map (fun i => (i.zero, i.size, i.bytes)) = some (some (.int .u8 0), 1, 1) := by kernel_rfl
theorem own_one (w : World) (x : Value) (e : TypeId) : (w.alloc (.cells #[x] e)).ownsRow w.heap.size e 1 (.slice (some ⟨w.heap.size, 0, none⟩) 1 1) 1 [x] :=
  ⟨rfl, .inr ⟨w.heap.size, 1, #[x], rfl, Nat.le_refl _, heap_alloc_new w _, Nat.le_refl _, by unfold maxLen; omega, rfl, rfl⟩⟩
theorem own_below {w w' : World} {B B' : Nat} {e : TypeId} {size : Nat} {v : Value} {n : Nat} {xs : List Value} (h : w.ownsRow B e size v n xs) (hb : Below B' w w') (hlt : ∀ k, v.ownBlock = some k → k < B') : w'.ownsRow B e size v n xs := by
  refine ⟨h.1, ?_⟩
  rcases h.2 with hn | ⟨g, cap, cur, rfl, h1, h2, rest⟩
  · exact .inl hn
  · exact .inr ⟨g, cap, cur, rfl, h1, by rw [hb.block g (hlt g rfl)]; exact h2, rest⟩
theorem many_u8 (l : List Int) : ∀ u ∈ l.map (Value.int .u8), u.oneCell' = true := by
  intro u hu; simp at hu; obtain ⟨x, _, rfl⟩ := hu; rfl

set_option maxHeartbeats 400000 in
theorem rput_any (n : Nat) : ∀ (w : World), (n : Int) ≤ 1099511627776 →
    Calls Tryd.prog 110 #[.int .i64 n] w fun e w' => ∃ v', e = .returned v' ∧ w'.ownsRow w.heap.size 5 1 v' (enc n).length ((enc n).map (Value.int .u8)) ∧ Below w.heap.size w w' := by
  induction n using Nat.strongRecOn with
  | _ n ih =>
  intro w hn
  have HI : Hid (∀ m, m < n → ∀ (w : World), (m : Int) ≤ 1099511627776 →
    Calls Tryd.prog 110 #[.int .i64 m] w fun e w' => ∃ v', e = .returned v' ∧ w'.ownsRow w.heap.size 5 1 v' (enc m).length ((enc m).map (Value.int .u8)) ∧ Below w.heap.size w w') := ih
  clear ih
  obtain ⟨i0, hi, hz0, hz1, hz2⟩ := info_parts Tryd.info5
  by_cases hlt : (n : Int) < 128
  · go_enter Tryd.func110, Tryd.ntmps110
    go_wp2_with fail
    go_ret
    refine ⟨_, rfl, ?_, (Below.refl _ _).alloc (Nat.le_refl _) _⟩
    rw [enc_small (by omega)]
    exact own_one _ _ _
  · go_enter Tryd.func110, Tryd.ntmps110
    go_wp2_with fail
    rw [show ((n : Int) / 128) = ((n / 128 : Nat) : Int) from by omega]
    refine (HI.out (n / 128) (by omega) _ (by omega)).mono ?_
    rintro e w1 ⟨v1, rfl, hown1, hb1⟩
    have hm6 := enc_len6 (n / 128) (by omega)
    have hown2 := own_below (own_one w (.int .u8 ((n : Int) % 128 + 128)) 5) hb1 (fun k hk => by simp [Value.ownBlock] at hk; simp; omega)
    have hsz : w.heap.size ≤ w1.heap.size := by have := hb1.size; simp at this; omega
    have hb2 : Below w.heap.size w w1 := ((Below.refl _ _).alloc (Nat.le_refl _) _).trans (hb1.mono (by simp))
    have HE : Hid (enc n = ((n % 128 + 128 : Nat) : Int) :: enc (n / 128)) := enc_big (by omega)
    rcases hown1.2 with ⟨rfl, h0⟩ | ⟨g, cap, cur, rfl, hg1, hg2, hg3, hg4, hg5, hg6⟩
    · have := enc_pos (n / 128); omega
    have hcells := hown1.cells (g := g) rfl
    have hl1 := hown1.1
    clear hb1 hg1 hg2 hg3 hg4 hg5 hg6 hown1
    go_wp2_with (at_builtin; refine wpList_append_own _ rfl (.tmp 12) (.tmp 15) 28 rfl w.heap.size 5 i0 (.int .u8 0) 1 1 Tryd.underlying28 hi hz0 hz1 hz2 rfl (by decide) _ _ _ rfl hown2 ⟨g, 0, none⟩ _ _ _ rfl hl1 hcells (many_u8 _) (by unfold maxLen; omega) (by omega) hsz ?_)
    intro v' w2 hown' hgrow _
    go_wp2_with fail
    go_ret
    refine ⟨v', rfl, ?_, hb2.grown hgrow hsz (fun k hk => (hown2.lt k hk).1)⟩
    rw [HE.out, List.length_cons, Nat.add_comm (enc (n / 128)).length 1]
    simpa using hown'

/-- What the writer at block g may turn: its own block, and rows of bytes behind it. -/
def penMay (w : World) (g k : Nat) : Prop := k = g ∨ (g < k ∧ ∃ cur fr, w.heap[k]? = some (.cells cur 5 fr))
theorem penMay_trans {w w1 w2 : World} {g : Nat} (h : Mod (penMay w g) w w1) (k : Mod (penMay w1 g) w1 w2) : Mod (penMay w g) w w2 := by
  refine ⟨k.os.trans h.os, k.tape.trans h.tape, k.output.trans h.output, Nat.le_trans h.size k.size, fun i hi hG => ?_⟩
  have h1 := h.block i hi hG
  refine (k.block i (Nat.lt_of_lt_of_le hi h.size) (fun x => hG ?_)).trans h1
  rcases x with x | ⟨x, cur, fr, hx⟩
  · exact .inl x
  · exact .inr ⟨x, cur, fr, by rw [← h1]; exact hx⟩
theorem Blk.pen {w w' : World} {g b : Nat} {cs : List Value} {t : TypeId} (h : Blk w b cs t) (hm : Mod (penMay w g) w w') (hne : b ≠ g) (ht : t ≠ 5) : Blk w' b cs t :=
  h.mod hm (by
    rintro (e | ⟨_, cur, fr, hx⟩)
    · exact hne e
    · simp only [Blk] at h; rw [h] at hx; simp at hx; exact ht hx.2.1)
/-- A writer at block g: its bytes so far, and what was wrong last. -/
def PAt (w : World) (g : Nat) (bs : List Int) (bad : Int) : Prop :=
  ∃ v, Blk w g [v, .int .i64 bad] 134 ∧ w.ownsRow (g + 1) 5 1 v bs.length (bs.map (Value.int .u8))
theorem PAt.lt {w : World} {g : Nat} {bs : List Int} {bad : Int} (h : PAt w g bs bad) : g < w.heap.size := by obtain ⟨v, h, _⟩ := h; exact h.lt
def maxN : Int := 1099511627776
def wnum (n : Int) (s : List Int × Int) : List Int × Int := if 0 ≤ n ∧ n ≤ 1099511627776 then (s.1 ++ enc n.toNat, s.2) else (s.1 ++ enc 0, 2)
/-- Behind an append to the writer's row, and the store of the new row. -/
theorem pen_round {w wA w8 : World} {g k : Nat} {v v' : Value} {b : Value} {xs : List Value} (hBA : Blk wA g [v, b] 134) (hown : wA.ownsRow (g + 1) 5 1 v k xs) (hM : Mod (penMay w g) w wA)
    (hgrow : wA.grownBy w8 v.ownBlock) {n : Nat} {ys : List Value} (hown8 : w8.ownsRow (g + 1) 5 1 v' n ys) :
    Blk (w8.setCell ⟨g, 0, none⟩ v') g [v', b] 134 ∧ (w8.setCell ⟨g, 0, none⟩ v').ownsRow (g + 1) 5 1 v' n ys ∧ Mod (penMay w g) w (w8.setCell ⟨g, 0, none⟩ v') := by
  have hm : Mod (penMay wA g) wA w8 := (Mod.refl _ wA).grown hgrow (fun x hx _ => by
    rcases hown.2 with ⟨rfl, _⟩ | ⟨q, cap, cur, rfl, h1, h2, _⟩
    · simp [Value.ownBlock] at hx
    · simp [Value.ownBlock] at hx; subst hx
      exact .inr ⟨by omega, cur, _, h2⟩)
  have hB8 : Blk w8 g [v, b] 134 := by
    refine hBA.mod (G := fun k => v.ownBlock = some k) ((Mod.refl _ wA).grown hgrow (fun x hx _ => hx)) (fun e => ?_)
    have := (hown.lt g e).1; omega
  refine ⟨hB8.set 0 v', ownsRow_setCell_below hown8 (by simp) _, ?_⟩
  exact (penMay_trans hM hm).setCell (p := ⟨g, 0, none⟩) (fun _ => .inl rfl) _

/-- The statement 'p.b = append(p.b, Put(n)...)': its calls. -/
theorem PAt.set1 {w : World} {g : Nat} {bs : List Int} {bad : Int} (h : PAt w g bs bad) (e : Int) : PAt (w.setCell ⟨g, 1, none⟩ (.int .i64 e)) g bs e ∧ Mod (penMay w g) w (w.setCell ⟨g, 1, none⟩ (.int .i64 e)) := by
  obtain ⟨v, h1, h2⟩ := h
  exact ⟨⟨v, h1.set 1 _, ownsRow_setCell_below h2 (by simp) _⟩, (Mod.refl _ w).setCell (p := ⟨g, 1, none⟩) (fun _ => .inl rfl) _⟩
theorem enc_own {w : World} {B : Nat} {v : Value} {m : Nat} (h : w.ownsRow B 5 1 v (enc m).length ((enc m).map (Value.int .u8))) :
    ∃ b cap, v = .slice (some ⟨b, 0, none⟩) (enc m).length cap ∧ B ≤ b ∧ b < w.heap.size ∧ ∀ j u, ((enc m).map (Value.int .u8))[j]? = some u → w.cell? ((⟨b, 0, none⟩ : Addr).add j) = some u := by
  rcases h.2 with ⟨rfl, h0⟩ | ⟨b, cap, cur, rfl, h1, h2, _⟩
  · have := enc_pos m; omega
  · exact ⟨b, cap, rfl, h1, (Array.getElem?_eq_some_iff.1 h2).1, h.cells (g := b) rfl⟩

set_option maxRecDepth 100000 in
set_option maxHeartbeats 2000000 in
theorem wnum_any (g : Nat) (bs : List Int) (bad n : Int) (w : World) (h : PAt w g bs bad) (hl : bs.length ≤ 1099511627776) :
    Calls Tryd.prog 69 #[.pointer (some ⟨g, 0, none⟩), .int .i64 n] w fun e w' => e = .returned (.tuple #[]) ∧ PAt w' g (wnum n (bs, bad)).1 (wnum n (bs, bad)).2 ∧ Mod (penMay w g) w w' := by
  obtain ⟨i0, hi, hz0, hz1, hz2⟩ := info_parts Tryd.info5
  obtain ⟨r, hr⟩ : ∃ r, r = wnum n (bs, bad) := ⟨_, rfl⟩
  rw [← hr]
  have HR : Hid (r = wnum n (bs, bad)) := hr
  clear hr
  have hgl := h.lt
  by_cases hin : 0 ≤ n ∧ n ≤ 1099511627776
  · have HF : Hid (r = (bs ++ enc n.toNat, bad)) := by rw [Hid, HR.out, wnum, if_pos hin]
    obtain ⟨hn0, hn1⟩ := hin
    obtain ⟨m, rfl⟩ := Int.eq_ofNat_of_zero_le hn0
    rw [Int.toNat_natCast] at HF
    clear HR
    obtain ⟨v, hB, hown⟩ := h
    have HOW : Hid (w.ownsRow (g + 1) 5 1 v bs.length (bs.map (Value.int .u8))) := hown
    have hv := hown.lt
    obtain ⟨va, vc, rfl⟩ := own_slice hown
    have HV : Hid (∀ k, Value.ownBlock (.slice va bs.length vc) = some k → g + 1 ≤ k ∧ k < w.heap.size) := hv
    clear hown hv
    have c0 := hB.cell 0 rfl
    have f0 := hB.frozen 0
    have hm6 := enc_len6 m (by omega)
    have hmp := enc_pos m
    have hk63 : bs.length + (enc m).length ≤ maxLen := by unfold maxLen; omega
    have hk47 : (bs.length + (enc m).length) * 1 ≤ 140737488355328 := by omega
    go_enter Tryd.func69, Tryd.ntmps69
    go_wp2_with fail
    go_region_law
      ((first
        | (go_simp; go_at_call 110; (refine (rput_any m _ hn1).mono ?_; rintro e w5 ⟨v1, rfl, hown1, hb1⟩; obtain ⟨b1, cap1, rfl, hb1g, hb1l, hcells1⟩ := enc_own hown1; have c5 : w5.cell? ⟨g, 0, none⟩ = some (.slice va bs.length vc) := (hb1.cell (p := ⟨g, 0, none⟩) (by simpa using hgl)).trans (by simpa using c0); have f5 : w5.frozen? ⟨g, 0, none⟩ = false := (hb1.frozen (p := ⟨g, 0, none⟩) (by simpa using hgl)).trans (by simpa using f0); have z5 : w.heap.size ≤ w5.heap.size := (by have := hb1.size; simpa using this); have HO5 : Hid (w5.ownsRow (g + 1) 5 1 (.slice va bs.length vc) bs.length (bs.map (Value.int .u8))) := own_below (w := w.drew) HOW.out hb1 (fun k hk => by have := (HV.out k hk).2; simpa using this); have HL1 : Hid ((List.map (Value.int .u8) (enc m)).length = (enc m).length * 1) := (by simp [Hid]); dsimp only))
        | ((refine step_append_lies _ (by rfl) _ _ _ (by rfl) (g + 1) 5 i0 _ 1 1 Tryd.underlying28 hi hz0 hz1 hz2 rfl (by omega) _ _ _ (by rfl) HO5.out ⟨b1, 0, none⟩ _ _ ((enc m).map (Value.int .u8)) (by rfl) HL1.out hcells1 (many_u8 _) hmp hk63 hk47 (by omega) _ rfl ?_; intro g5 cap5 w6 hown6 hgrow hat hlt6; have c6 := (hgrow.cell_far ⟨g, 0, none⟩ (by simp; omega) (fun e => by have := (HV.out g e.symm).1; omega)).trans c5; have f6 := (hgrow.frozen_far ⟨g, 0, none⟩ (by simp; omega) (fun e => by have := (HV.out g e.symm).1; omega)).trans f5))
        | fail))
    all_goals go_wp2_with fail
    all_goals go_end0
    all_goals
      have hM5 : Mod (penMay w g) w w5 := (Mod.of_below (B := w.heap.size) (w := w) ⟨hb1.os, hb1.tape, hb1.output, hb1.size, hb1.block⟩).mono (fun i hi e => absurd hi (by omega))
      have R := pen_round (hB.mod (w := w) (G := fun k => w.heap.size ≤ k) (Mod.of_below ⟨hb1.os, hb1.tape, hb1.output, hb1.size, hb1.block⟩) (by omega)) HO5.out hM5 hgrow hown6
      rw [HF.out]
      exact ⟨rfl, ⟨_, R.1, by simpa using R.2.1⟩, R.2.2⟩
  · have HF : Hid (r = (bs ++ enc 0, 2)) := by rw [Hid, HR.out, wnum, if_neg hin]
    clear HR
    obtain ⟨h2, hM2⟩ := h.set1 2
    obtain ⟨v, hB, hown⟩ := h2
    have c1' : ∃ v, w.cell? ⟨g, 1, none⟩ = some v ∧ w.frozen? ⟨g, 1, none⟩ = false := by obtain ⟨v, hb, _⟩ := h; exact ⟨_, hb.cell 1 rfl, hb.frozen 1⟩
    obtain ⟨u1, c1, f1⟩ := c1'
    clear h
    have hgl2 : g < (w.setCell ⟨g, 1, none⟩ (.int .i64 2)).heap.size := by simpa [World.setCell] using hgl
    have HOW : Hid ((w.setCell ⟨g, 1, none⟩ (.int .i64 2)).ownsRow (g + 1) 5 1 v bs.length (bs.map (Value.int .u8))) := hown
    have hv := hown.lt
    obtain ⟨va, vc, rfl⟩ := own_slice hown
    have HV : Hid (∀ k, Value.ownBlock (.slice va bs.length vc) = some k → g + 1 ≤ k ∧ k < (w.setCell ⟨g, 1, none⟩ (.int .i64 2)).heap.size) := hv
    clear hown hv
    have c0 := hB.cell 0 rfl
    have f0 := hB.frozen 0
    have hm6 := enc_len6 0 (by omega)
    have hmp := enc_pos 0
    have hk63 : bs.length + (enc 0).length ≤ maxLen := by unfold maxLen; omega
    have hk47 : (bs.length + (enc 0).length) * 1 ≤ 140737488355328 := by omega
    have HO : n < 0 ∨ 1099511627776 < n := by omega
    go_enter Tryd.func69, Tryd.ntmps69
    rcases HO with HO | HO
    all_goals
      go_wp2_with fail
      go_region_law
        ((first
          | (go_simp; go_at_call 110; (refine (rput_any 0 _ (by omega)).mono ?_; rintro e w5 ⟨v1, rfl, hown1, hb1⟩; obtain ⟨b1, cap1, rfl, hb1g, hb1l, hcells1⟩ := enc_own hown1; have hb1 : Below (w.setCell ⟨g, 1, none⟩ (.int .i64 2)).heap.size (w.setCell ⟨g, 1, none⟩ (.int .i64 2)) w5 := ⟨hb1.os, hb1.tape, hb1.output, hb1.size, hb1.block⟩; have c5 : w5.cell? ⟨g, 0, none⟩ = some (.slice va bs.length vc) := (hb1.cell (p := ⟨g, 0, none⟩) hgl2).trans c0; have f5 : w5.frozen? ⟨g, 0, none⟩ = false := (hb1.frozen (p := ⟨g, 0, none⟩) hgl2).trans f0; have z5 : w.heap.size ≤ w5.heap.size := (by have := hb1.size; simpa [World.setCell] using this); have HO5 : Hid (w5.ownsRow (g + 1) 5 1 (.slice va bs.length vc) bs.length (bs.map (Value.int .u8))) := own_below HOW.out hb1 (fun k hk => (HV.out k hk).2); have HL1 : Hid ((List.map (Value.int .u8) (enc 0)).length = (enc 0).length * 1) := (by simp [Hid]); dsimp only))
          | ((refine step_append_lies _ (by rfl) _ _ _ (by rfl) (g + 1) 5 i0 _ 1 1 Tryd.underlying28 hi hz0 hz1 hz2 rfl (by omega) _ _ _ (by rfl) HO5.out ⟨b1, 0, none⟩ _ _ ((enc 0).map (Value.int .u8)) (by rfl) HL1.out hcells1 (many_u8 _) hmp hk63 hk47 (by omega) _ rfl ?_; intro g5 cap5 w6 hown6 hgrow hat hlt6; have c6 := (hgrow.cell_far ⟨g, 0, none⟩ (by simp; omega) (fun e => by have := (HV.out g e.symm).1; omega)).trans c5; have f6 := (hgrow.frozen_far ⟨g, 0, none⟩ (by simp; omega) (fun e => by have := (HV.out g e.symm).1; omega)).trans f5))
          | fail))
      all_goals go_wp2_with fail
      all_goals go_end0
      all_goals
        have hM5 : Mod (penMay w g) w w5 := hM2.trans' (Mod.of_below hb1) (fun i hi e => absurd e (by simp [World.setCell]; omega))
        have R := pen_round (hB.mod (Mod.of_below hb1) (by omega)) HO5.out hM5 hgrow hown6
        rw [HF.out]
        exact ⟨rfl, ⟨_, R.1, by simpa using R.2.1⟩, R.2.2⟩
end Go.Proofs.YtdbbgfbcbfbihaaDoor
