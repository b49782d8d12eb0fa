/- The document's writer (package chainmailref): texts, pairs, commands. -/
import Derived.Test.YtdbbgfbcbfbihaaDoorPn
namespace Go.Proofs.YtdbbgfbcbfbihaaDoor
open Go.RowKit Go.Lib

def sbytes (s : ByteArray) : List Int := s.data.toList.map (fun b => (b.toNat : Int))
theorem sbytes_cells (s : ByteArray) : strCells s = (sbytes s).map (Value.int .u8) := by simp [strCells, sbytes]
theorem sbytes_len (s : ByteArray) : (sbytes s).length = s.size := by rw [sbytes, List.length_map, Array.length_toList]; rfl
def wtext (str : ByteArray) (most : Nat) (s : List Int × Int) : List Int × Int :=
  let s1 : List Int × Int := if most < str.size then (s.1, 4) else s
  ((wnum str.size s1).1 ++ sbytes str, (wnum str.size s1).2)
theorem wnum_len (n : Int) (s : List Int × Int) : (wnum n s).1.length ≤ s.1.length + 6 := by
  unfold wnum; split
  · rename_i h
    have := enc_len6 n.toNat (by omega)
    simp; omega
  · simp [enc_small (show 0 < 128 by omega)]
theorem wtext_len (str : ByteArray) (most : Nat) (s : List Int × Int) : (wtext str most s).1.length ≤ s.1.length + 6 + str.size := by
  unfold wtext
  have h1 := wnum_len str.size (s.1, 4)
  have h2 := wnum_len str.size s
  simp only [List.length_append, sbytes_len]
  split <;> simp only at * <;> omega

set_option maxRecDepth 100000 in
set_option maxHeartbeats 2000000 in
theorem wtext_any (g : Nat) (bs : List Int) (bad : Int) (str : ByteArray) (most : Nat) (w : World) (h : PAt w g bs bad) (hl : bs.length + str.size + 6 ≤ 1099511627776) :
    Calls Tryd.prog 111 #[.pointer (some ⟨g, 0, none⟩), .string str, .int .i64 most] w fun e w' => e = .returned (.tuple #[]) ∧ PAt w' g (wtext str most (bs, bad)).1 (wtext str most (bs, bad)).2 ∧ Mod (penMay w g) w w' := by
  obtain ⟨i0, hi, hz0, hz1, hz2⟩ := info_parts Tryd.info5
  obtain ⟨r, hr⟩ : ∃ r, r = wtext str most (bs, bad) := ⟨_, rfl⟩
  rw [← hr]
  have HR : Hid (r = wtext str most (bs, bad)) := hr
  clear hr
  have hgl := h.lt
  obtain ⟨b1, hb1⟩ : ∃ b1 : Int, b1 = if most < str.size then 4 else bad := ⟨_, rfl⟩
  have hwl := wnum_len str.size (bs, b1)
  have HF : Hid (r = ((wnum str.size (bs, b1)).1 ++ sbytes str, (wnum str.size (bs, b1)).2)) := by
    rw [Hid, HR.out, hb1]; unfold wtext; split <;> simp_all
  have h1 : ∃ w1, PAt w1 g bs b1 ∧ Mod (penMay w g) w w1 ∧ (w1 = if most < str.size then w.setCell ⟨g, 1, none⟩ (.int .i64 4) else w) := by
    by_cases hm : most < str.size
    · rw [hb1, if_pos hm, if_pos hm]
      exact ⟨_, (h.set1 4).1, (h.set1 4).2, rfl⟩
    · rw [hb1, if_neg hm, if_neg hm]
      exact ⟨w, h, Mod.refl _ _, rfl⟩
  obtain ⟨w1, hP1, hM1, hw1⟩ := h1
  obtain ⟨v, hB, hown⟩ := h
  have c1 := hB.cell 1 rfl
  have f1 := hB.frozen 1
  clear HR hb1 hown
  go_enter Tryd.func111, Tryd.ntmps111
  by_cases hm : most < str.size
  all_goals
    first | rw [if_pos hm] at hw1 | rw [if_neg hm] at hw1
    subst hw1
    go_wp2_with fail
    refine (wnum_any _ _ _ _ _ hP1 (by omega)).mono ?_
    rintro e w2 ⟨rfl, hP2, hM2⟩
    obtain ⟨⟨bs2, bad2⟩, hq2⟩ : ∃ q, q = wnum str.size (bs, b1) := ⟨_, rfl⟩
    rw [← hq2] at hP2 hwl HF
    clear hq2
    simp only at hP2 hwl HF
    have hM2' := penMay_trans hM1 hM2
    have hg2 := hP2.lt
    obtain ⟨v2, hB2, hown2⟩ := hP2
    obtain ⟨va, vc, rfl⟩ := own_slice hown2
    have c20 := hB2.cell 0 rfl
    have f20 := hB2.frozen 0
    have HOW : Hid (w2.ownsRow (g + 1) 5 1 (.slice va bs2.length vc) bs2.length (bs2.map (Value.int .u8))) := hown2
    clear hown2 hP1 hM1 hM2
    have hk63 : bs2.length + str.size ≤ maxLen := by unfold maxLen; omega
    have hk47 : bs2.length + str.size ≤ 140737488355328 := by omega
    go_wp2_with (first
      | (at_builtin; refine wpList_append_own_string _ rfl (.tmp 21) (.tmp 22) 28 9 rfl (g + 1) 5 i0 Tryd.underlying28 Tryd.underlying9 hi hz0 hz1 hz2 _ _ _ rfl HOW.out str rfl hk63 hk47 (by omega) ?_)
      | fail)
    intro v' w3 hown3 hgrow _
    obtain ⟨va', vc', rfl⟩ := own_slice hown3
    have c6 := (hgrow.cell_far ⟨g, 0, none⟩ hg2 (fun e => by have := (HOW.out.lt g e.symm).1; omega)).trans c20
    have f6 := (hgrow.frozen_far ⟨g, 0, none⟩ hg2 (fun e => by have := (HOW.out.lt g e.symm).1; omega)).trans f20
    have R := pen_round hB2 HOW.out hM2' hgrow hown3
    clear hgrow hown3 hB2 hM2'
    go_wp2_with fail
    go_end0
    rw [HF.out]
    exact ⟨rfl, ⟨_, R.1, by simpa [sbytes_cells, sbytes_len] using R.2.1⟩, R.2.2⟩
end Go.Proofs.YtdbbgfbcbfbihaaDoor
