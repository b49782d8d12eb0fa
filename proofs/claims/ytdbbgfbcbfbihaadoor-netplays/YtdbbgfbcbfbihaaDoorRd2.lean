/- The program's reader: truths, texts, pairs. -/
import Derived.Test.YtdbbgfbcbfbihaaDoorRd
namespace Go.Proofs.YtdbbgfbcbfbihaaDoor
open Go.RowKit

theorem ret_bool {a b : Bool} (h : a = b) : Ending.returned (.bool a) = .returned (.bool b) := by rw [h]
theorem truth_any (L g : Nat) (bs : List Int) (sp : Bool) (w : World) (h : RAt w L g bs sp) :
    Calls Tryd.prog 140 #[.pointer (some ⟨g, 0, none⟩)] w fun e w' => e = .returned (.bool (ptruth (bs, sp)).1) ∧ RAt w' L g (ptruth (bs, sp)).2.1 (ptruth (bs, sp)).2.2 ∧ Mod (oneBlock g) w w' := by
  obtain ⟨r, hr⟩ : ∃ r, r = ptruth (bs, sp) := ⟨_, rfl⟩
  rw [← hr]
  have HR : Hid (r = ptruth (bs, sp)) := hr
  clear hr
  go_enter Tryd.func140, Tryd.ntmps140
  go_wp2_with fail
  refine (number_at 0 1 _ h rfl rfl).mono ?_
  rintro e w1 ⟨rfl, h1, hm⟩
  obtain ⟨⟨n, bs1, sp1⟩, hq⟩ : ∃ q, q = pnum 0 1 (bs, sp) := ⟨_, rfl⟩
  have hle := pnum_le 0 1 (bs, sp)
  rw [← hq] at h1 hle ⊢
  have HQ : Hid (r = (n == 1, bs1, sp1)) := HR.out.trans (ptruth_eq hq)
  clear hq HR h
  go_wp2_with fail
  go_ret
  rw [HQ.out]
  refine ⟨ret_bool ?_, h1, hm⟩
  rw [Bool.eq_iff_iff]; simp; omega

theorem conv_take {w : World} {b off cap : Nat} {bs : List Int} (hcell : ∀ j, j < bs.length → w.cell? ⟨b, off + j, none⟩ = some (.int .u8 (bs.getD j 0))) (n : Nat) (hn : n ≤ bs.length) :
    (convert 28 9 (.slice (some ⟨b, off, none⟩) n cap)).run Tryd.prog w = .ok (.string (strOfNums (bs.take n))) w := by
  refine run_convert_bytes_arg (P := Tryd.prog) w 28 5 Tryd.underlying28 Tryd.underlying5 b off n cap (bs.take n) (by simp; omega) ?_ 9 Tryd.underlying9
  intro i hi
  rw [hcell i (by omega)]
  simp [List.getD_eq_getElem?_getD, hi]
theorem conv_zero {w : World} {a : Option Addr} {cap : Nat} : (convert 28 9 (.slice a 0 cap)).run Tryd.prog w = .ok (.string (strOfNums [])) w := by
  rw [run_convert_bytes_string w 28 9 5 a 0 cap Tryd.underlying28 Tryd.underlying5 Tryd.underlying9]
  cases a with
  | none => simp [Conv.bytesToString]; rfl
  | some a => rw [run_bytesToString w a 0 cap [] (by simp [loadCells, loadCellsFrom])]; rfl

set_option maxHeartbeats 400000 in
theorem text_any (L g : Nat) (bs : List Int) (sp : Bool) (most : Nat) (w : World) (h : RAt w L g bs sp) (_hmo : most ≤ 40) :
    Calls Tryd.prog 139 #[.pointer (some ⟨g, 0, none⟩), .int .i64 most] w fun e w' => e = .returned (.string (ptext most (bs, sp)).1) ∧ RAt w' L g (ptext most (bs, sp)).2.1 (ptext most (bs, sp)).2.2 ∧ Mod (oneBlock g) w w' := by
  obtain ⟨r, hr⟩ : ∃ r, r = ptext most (bs, sp) := ⟨_, rfl⟩
  rw [← hr]
  have HR : Hid (r = ptext most (bs, sp)) := hr
  clear hr
  go_enter Tryd.func139, Tryd.ntmps139
  go_wp2_with fail
  refine (number_at 0 most _ h rfl rfl).mono ?_
  rintro e w1 ⟨rfl, h1, hm1⟩
  have hle := pnum_le 0 most (bs, sp)
  obtain ⟨⟨n, bs1, sp1⟩, hq⟩ : ∃ q, q = pnum 0 most (bs, sp) := ⟨_, rfl⟩
  rw [← hq] at h1 hle ⊢
  have HQ : Hid ((n, bs1, sp1) = pnum 0 most (bs, sp)) := hq
  clear hq h
  simp only at hle h1 ⊢
  obtain ⟨hLg, v, hblk, hb, a, cap, rfl, hlc, hcm0, hbs⟩ := h1
  have hcm := hcm0
  unfold maxLen at hcm
  have h0 := hblk.cell 0 rfl
  have h1 := hblk.cell 1 rfl
  have hf0 := hblk.frozen 0
  have hf1 := hblk.frozen 1
  by_cases hlt : bs1.length < n
  · have HN : Hid (r = (ByteArray.empty, [], true)) := HR.out.trans (ptext_no HQ.out hlt)
    clear HR HQ hbs hb
    go_wp2_with (go_at_call 116; refine (spoil_any g _ _ _ h0 h1 hf0 hf1).mono ?_; rintro e w' ⟨rfl, rfl⟩)
    go_ret
    rw [HN.out]
    exact ⟨rfl, RAt.spoilt hLg hblk, hm1.trans (mod_spoilt _ _ _ _)⟩
  · have HN : Hid (r = (strOfNums (bs1.take n), bs1.drop n, sp1)) := HR.out.trans (ptext_yes HQ.out hlt)
    have HBY : Hid (∀ x ∈ bs1, 0 ≤ x ∧ x < 256) := hb
    clear HR HQ hb
    rcases hbs with rfl | ⟨b, off, rfl, hbL, hcell⟩
    · have hn0 : n = 0 := by simp at hlt; exact hlt
      subst hn0
      have hcv := fun c => @conv_zero w1 a c
      go_wp2_with fail
      go_ret
      rw [HN.out]
      exact ⟨rfl, RAt.set0 hLg hblk ⟨by simp, a, cap, rfl, by simp, hcm0, .inl rfl⟩, hm1.trans (Mod.setBlk g 0 _)⟩
    · have hcv := fun c => @conv_take w1 b off c bs1 hcell n (by omega)
      have HCe : Hid (∀ j, j < bs1.length → w1.cell? ⟨b, off + j, none⟩ = some (.int .u8 (bs1.getD j 0))) := hcell
      clear hcell
      go_wp2_with fail
      all_goals go_ret
      all_goals rw [HN.out]
      all_goals exact ⟨rfl, RAt.set0 hLg hblk (BAt.drop HBY.out hlc hcm0 hbL HCe.out _ (by omega) _ (fun h => by first | rfl | (exfalso; omega) | (subst_vars; rfl)) _ _ (by omega) (by omega)), hm1.trans (Mod.setBlk g 0 _)⟩

theorem text_at (most : Nat) {L g : Nat} {bs : List Int} {sp : Bool} {m : Int} (w : World) (h : RAt w L g bs sp) (hm : m = most) (hmo : most ≤ 40) :
    Calls Tryd.prog 139 #[.pointer (some ⟨g, 0, none⟩), .int .i64 m] w fun e w' => e = .returned (.string (ptext most (bs, sp)).1) ∧ RAt w' L g (ptext most (bs, sp)).2.1 (ptext most (bs, sp)).2.2 ∧ Mod (oneBlock g) w w' := by
  subst hm; exact text_any L g bs sp most w h hmo

theorem ppair_gone {s k q : List Int × Bool} {key : ByteArray} (hk : (key, k) = ptext 20 s) (hg : (true, q) = ptruth k) : ppair s = (⟨key, ByteArray.empty, true⟩, q) := by
  simp only [ppair, ← hk, ← hg, if_true]
theorem ppair_there {s k q t : List Int × Bool} {key val : ByteArray} (hk : (key, k) = ptext 20 s) (hg : (false, q) = ptruth k) (hv : (val, t) = ptext 40 q) : ppair s = (⟨key, val, false⟩, t) := by
  simp only [ppair, ← hk, ← hg, ← hv]; rfl
theorem blk3 {w : World} {g : Nat} {a b c : Value} {t : TypeId} (h : Blk w g [a, b, c] t) : w.cell? ⟨g, 0, none⟩ = some a ∧ w.cell? ⟨g, 1, none⟩ = some b ∧ w.cell? ⟨g, 2, none⟩ = some c ∧ w.frozen? ⟨g, 0, none⟩ = false ∧ w.frozen? ⟨g, 1, none⟩ = false ∧ w.frozen? ⟨g, 2, none⟩ = false :=
  ⟨h.cell 0 rfl, h.cell 1 rfl, h.cell 2 rfl, h.frozen 0, h.frozen 1, h.frozen 2⟩

theorem res_cell {P : Program} {w : World} {fn : Func} {p : Tmp} {ty : TypeId} {v : Value} (h : fn.results = #[.cell p ty]) (tmps : Array Value) (a : Addr) (hp : tmps.getD p undef = .pointer (some a)) (hl : (loadVar ty a).run P w = .ok v w) : (results fn tmps).run P w = .ok v w := by
  simp only [results, h]
  simp only [List.mapM_toArray, List.mapM_cons, List.mapM_nil]
  simp [hp, hl, asAddr]
theorem load_pair {w : World} {B : Nat} {a b c : Value} {t : TypeId} (h : Blk w B [a, b, c] t) : (loadVar 84 ⟨B, 0, none⟩).run Tryd.prog w = .ok (.agg #[a, b, c]) w := by
  obtain ⟨k0, k1, k2, _⟩ := blk3 h
  simp [go_sem, k0, k1, k2]

set_option maxHeartbeats 1000000 in
theorem pair_any (L g : Nat) (bs : List Int) (sp : Bool) (w : World) (h : RAt w L g bs sp) :
    Calls Tryd.prog 117 #[.pointer (some ⟨g, 0, none⟩)] w fun e w' => e = .returned (.agg #[.string (ppair (bs, sp)).1.key, .string (ppair (bs, sp)).1.val, .bool (ppair (bs, sp)).1.gone]) ∧ RAt w' L g (ppair (bs, sp)).2.1 (ppair (bs, sp)).2.2 ∧ Mod (oneBlock g) w w' := by
  obtain ⟨r, hr⟩ : ∃ r, r = ppair (bs, sp) := ⟨_, rfl⟩
  rw [← hr]
  have HR : Hid (r = ppair (bs, sp)) := hr
  clear hr
  obtain ⟨hLg, hgl⟩ := h.lt
  have hB0 := Blk.new w [.string ⟨#[]⟩, .string ⟨#[]⟩, .bool false] 84
  go_enter Tryd.func117, Tryd.ntmps117
  go_wp2_with fail
  refine (text_at 20 _ (h.mod ((Mod.refl noBlock w).alloc _) id (fun _ _ => id)) rfl (by omega)).mono ?_
  rintro e w1 ⟨rfl, h1, hm1⟩
  obtain ⟨⟨key, bs1, sp1⟩, hq1⟩ : ∃ q, q = ptext 20 (bs, sp) := ⟨_, rfl⟩
  rw [← hq1] at h1 ⊢
  have HQ1 : Hid ((key, bs1, sp1) = ptext 20 (bs, sp)) := hq1
  have hB1 := hB0.mod hm1 (fun e => by simp only [oneBlock] at e; omega)
  have hM1 : Mod (oneBlock g) w w1 := ((Mod.refl _ w).alloc _).trans hm1
  clear hq1 hB0 hm1 h
  go_wp2_with fail
  refine (truth_any L g _ _ _ h1).mono ?_
  rintro e w2 ⟨rfl, h2, hm2⟩
  obtain ⟨⟨gone, bs2, sp2⟩, hq2⟩ : ∃ q, q = ptruth (bs1, sp1) := ⟨_, rfl⟩
  rw [← hq2] at h2 ⊢
  have HQ2 : Hid ((gone, bs2, sp2) = ptruth (bs1, sp1)) := hq2
  have hB2 := hB1.mod hm2 (fun e => by simp only [oneBlock] at e; omega)
  have hM2 := hM1.trans hm2
  have hz1 := hM2.size
  have hgz : w.heap.size < w2.heap.size := hB2.lt
  clear hq2 hB1 hm2 hM1 h1
  obtain ⟨c0, c1, c2, f0, f1, f2⟩ := blk3 hB2
  cases gone with
  | true =>
    have HF : Hid (r = (⟨key, ByteArray.empty, true⟩, bs2, sp2)) := HR.out.trans (ppair_gone HQ1.out HQ2.out)
    clear HQ1 HQ2 HR
    go_wp2_with fail
    refine bodyPost_ret (res_cell Tryd.results117 _ ⟨w.heap.size, 0, none⟩ rfl (load_pair ((((hB2.set 0 _).set 1 _).set 2 _).mod ((Mod.refl noBlock _).alloc _) id))) rfl ⟨?_, ?_, ?_⟩
    · rw [HF.out]; rfl
    · rw [HF.out]
      exact RAt.mod (G := oneBlock w.heap.size) h2 ((((Mod.setBlk _ 0 _).trans (Mod.setBlk _ 1 _)).trans (Mod.setBlk _ 2 _)).alloc _) (fun e => by simp only [oneBlock] at e; omega) (fun k hk e => by simp only [oneBlock] at e; omega)
    · exact ((((hM2.setCell (p := ⟨w.heap.size, 0, none⟩) (fun h => absurd h (Nat.lt_irrefl _)) _).setCell (p := ⟨w.heap.size, 1, none⟩) (fun h => absurd h (Nat.lt_irrefl _)) _).setCell (p := ⟨w.heap.size, 2, none⟩) (fun h => absurd h (Nat.lt_irrefl _)) _).alloc _)
  | false =>
    go_wp2_with fail
    refine (text_at 40 _ (h2.mod ((Mod.refl noBlock w2).alloc _) id (fun _ _ => id)) rfl (by omega)).mono ?_
    rintro e w3 ⟨rfl, h3, hm3⟩
    obtain ⟨⟨val, bs3, sp3⟩, hq3⟩ : ∃ q, q = ptext 40 (bs2, sp2) := ⟨_, rfl⟩
    rw [← hq3] at h3 ⊢
    have HF : Hid (r = (⟨key, val, false⟩, bs3, sp3)) := HR.out.trans (ppair_there HQ1.out HQ2.out hq3)
    have hC3 := (Blk.new w2 [.string key, .string ⟨#[]⟩, .bool false] 84).mod hm3 (fun e => by simp only [oneBlock] at e; omega)
    have hB3 := (hB2.mod ((Mod.refl noBlock w2).alloc (.cells #[.string key, .string ⟨#[]⟩, .bool false] 84)) id).mod hm3 (fun e => by simp only [oneBlock] at e; omega)
    have hM3 : Mod (oneBlock g) w w3 := (hM2.alloc _).trans hm3
    clear hq3 HR HQ1 HQ2 hm3 hM2 h2 c0 c1 c2 f0 f1 f2
    obtain ⟨c0, c1, c2, f0, f1, f2⟩ := blk3 hB3
    obtain ⟨d0, d1, d2, e0, e1, e2⟩ := blk3 hC3
    go_wp2_with fail
    refine bodyPost_ret (res_cell Tryd.results117 _ ⟨w.heap.size, 0, none⟩ rfl (load_pair ((((hB3.mod (Mod.setBlk w2.heap.size 1 _) (fun e => by simp only [oneBlock] at e; omega)).set 0 _).set 1 _).set 2 _))) rfl ⟨?_, ?_, ?_⟩
    · rw [HF.out]
    · rw [HF.out]
      exact RAt.mod h3 (((((Mod.refl (newer w.heap.size) w3).put _ 1 (by omega) _).put _ 0 (by omega) _).put _ 1 (by omega) _).put _ 2 (by omega) _) (by simp only [newer]; omega) (fun k hk e => by simp only [newer] at e; omega)
    · exact hM3.since (((((Mod.refl (newer w.heap.size) w3).put _ 1 (by omega) _).put _ 0 (by omega) _).put _ 1 (by omega) _).put _ 2 (by omega) _) (Nat.le_refl _)
end Go.Proofs.YtdbbgfbcbfbihaaDoor
