/- The program's writer: any number of numbers; truths. -/
import Derived.Test.YtcfgmjlkbjleaaaDoorWr
namespace Go.Proofs.YtcfgmjlkbjleaaaDoor
open Go.RowKit Go.Lib

def werr (e : Int) : Value := if e = 0 then .nilIface else .iface 29 (.int .i64 e)
/-- A writer at block g: what was wrong last; while nothing was, the bytes so far. At most N bytes lie there. -/
def WAt (w : World) (g : Nat) (s : List Int × Int) (N : Nat) : Prop :=
  ∃ v row, Blk w g [v, werr s.2] 138 ∧ w.ownsRow (g + 1) 5 1 v row.length (row.map (Value.int .u8)) ∧ row.length ≤ N ∧ (s.2 = 0 → row = s.1)
theorem WAt.lt {w : World} {g : Nat} {s : List Int × Int} {N : Nat} (h : WAt w g s N) : g < w.heap.size := by obtain ⟨v, row, h, _⟩ := h; exact h.lt
theorem WAt.alloc {w : World} {g : Nat} {s : List Int × Int} {N : Nat} (h : WAt w g s N) (o : Obj) : WAt (w.alloc o) g s N := by
  obtain ⟨v, row, h1, h2, h3⟩ := h
  exact ⟨v, row, h1.mod ((Mod.refl noBlock w).alloc o) id, h2.alloc o, h3⟩
theorem WAt.more {w : World} {g : Nat} {s : List Int × Int} {N M : Nat} (h : WAt w g s N) (hN : N ≤ M) : WAt w g s M := by
  obtain ⟨v, row, h1, h2, h3, h4⟩ := h
  exact ⟨v, row, h1, h2, by omega, h4⟩
theorem WAt.cells {w : World} {g : Nat} {s : List Int × Int} {N : Nat} (h : WAt w g s N) : (∃ v, w.cell? ⟨g, 0, none⟩ = some v) ∧ w.cell? ⟨g, 1, none⟩ = some (werr s.2) ∧ w.frozen? ⟨g, 0, none⟩ = false ∧ w.frozen? ⟨g, 1, none⟩ = false := by
  obtain ⟨v, row, h1, _⟩ := h
  exact ⟨⟨v, h1.cell 0 rfl⟩, h1.cell 1 rfl, h1.frozen 0, h1.frozen 1⟩
theorem WAt.set1 {w : World} {g : Nat} {s : List Int × Int} {N : Nat} (h : WAt w g s N) (e : Int) (he : e ≠ 0) (bs : List Int) : WAt (w.setCell ⟨g, 1, none⟩ (.iface 29 (.int .i64 e))) g (bs, e) N ∧ Mod (penMay w g) w (w.setCell ⟨g, 1, none⟩ (.iface 29 (.int .i64 e))) := by
  obtain ⟨v, row, h1, h2, h3, _⟩ := h
  refine ⟨⟨v, row, ?_, ownsRow_setCell_below h2 (by simp) _, h3, fun x => absurd x he⟩, (Mod.refl _ w).setCell (p := ⟨g, 1, none⟩) (fun _ => .inl rfl) _⟩
  have := h1.set 1 (.iface 29 (.int .i64 e))
  simpa [werr, he] using this
def neead (ok : Bool) (e : Int) (s : List Int × Int) : List Int × Int := if ok then s else (s.1, e)
theorem need_any (g : Nat) (s : List Int × Int) (N : Nat) (ok : Bool) (e : Int) (w : World) (h : WAt w g s N) (he : e ≠ 0) :
    Calls Tryd.prog 112 #[.pointer (some ⟨g, 0, none⟩), .bool ok, .int .i64 e] w fun ev w' => ev = .returned (.tuple #[]) ∧ WAt w' g (neead ok e s) N ∧ Mod (penMay w g) w w' := by
  obtain ⟨_, c1, _, f1⟩ := h.cells
  have HS := Hid.mk' (h.set1 e he s.1)
  have HH := Hid.mk' h
  clear h
  go_enter Tryd.func112, Tryd.ntmps112
  cases ok
  · go_wp2_with fail
    go_end0
    exact ⟨rfl, HS.out.1, HS.out.2⟩
  · go_wp2_with fail
    go_end0
    exact ⟨rfl, HH.out, Mod.refl _ _⟩
/-- Behind the store of a new row of bytes. -/
theorem wr_round {w wA w8 : World} {g : Nat} {v v' : Value} {e : Int} {row' : List Int} {s' : List Int × Int} {N : Nat} (hBA : Blk wA g [v, werr e] 138) (hM : Mod (penMay w g) w wA) (hm : Mod (rowMay wA (g + 1)) wA w8)
    (hown8 : w8.ownsRow (g + 1) 5 1 v' row'.length (row'.map (Value.int .u8))) (hN : row'.length ≤ N) (hs : s'.2 = e) (hb : e = 0 → row' = s'.1) :
    WAt (w8.setCell ⟨g, 0, none⟩ v') g s' N ∧ Mod (penMay w g) w (w8.setCell ⟨g, 0, none⟩ v') := by
  have hB8 : Blk w8 g [v, werr e] 138 := hBA.mod hm (fun x => by obtain ⟨x, _⟩ := x; omega)
  have hm' : Mod (penMay wA g) wA w8 := hm.mono (fun i _ x => .inr ⟨by obtain ⟨x, _⟩ := x; omega, x.2⟩)
  subst hs
  exact ⟨⟨v', row', hB8.set 0 v', ownsRow_setCell_below hown8 (by simp) _, hN, hb⟩, (penMay_trans hM hm').setCell (p := ⟨g, 0, none⟩) (fun _ => .inl rfl) _⟩

theorem wnum_neead (n : Int) (s : List Int × Int) : wnum n s = if 0 ≤ n ∧ n ≤ 1099511627776 then (s.1 ++ enc n.toNat, s.2) else (s.1 ++ enc 0, 2) := rfl

set_option maxRecDepth 100000 in
set_option maxHeartbeats 4000000 in
theorem numbers_any (g b : Nat) (s : List Int × Int) (N : Nat) (l : List Int) (cap : Nat) (w : World) (h : WAt w g s N) (hl : Blk w b (l.map (Value.int .i64)) 3) (hbg : b ≠ g) (hN : N + 10 * l.length ≤ 1099511627776) (hi : ∀ x ∈ l, x ≤ 9223372036854775807) :
    Calls Tryd.prog 71 #[.pointer (some ⟨g, 0, none⟩), .slice (some ⟨b, 0, none⟩) l.length cap] w fun ev w' => ev = .returned (.tuple #[]) ∧ WAt w' g (wnums l s) (N + 10 * l.length) ∧ Mod (penMay w g) w w' := by
  have HI := Hid.mk' hi
  clear hi
  go_enter Tryd.func71, Tryd.ntmps71
  go_wp2_with fail
  go_loopw [8] (fun i wr => ∃ k : Nat, k ≤ l.length ∧ i = .int .i64 k ∧ WAt wr g (wnums (l.take k) s) (N + 10 * k) ∧ Blk wr b (l.map (Value.int .i64)) 3 ∧ Mod (penMay w g) w wr) (fun i _ => l.length - (intOf i).toNat)
  case atStart => exact ⟨0, Nat.zero_le _, rfl, by simpa [wnums] using h, hl, Mod.refl _ _⟩
  case round =>
    obtain ⟨k, hk, rfl, hW, hL, hM⟩ := hrel
    clear h hl
    by_cases hlt : k < l.length
    · obtain ⟨x, hx⟩ : ∃ x, l[k]? = some x := ⟨_, List.getElem?_eq_getElem hlt⟩
      have hc := hL.cell k (v := .int .i64 x) (by simp [hx])
      have hxi := HI.out x (List.mem_of_getElem? hx)
      have HX : Hid (wnums (l.take (k + 1)) s = wnum x (wnums (l.take k) s)) := by
        have : l.take (k + 1) = l.take k ++ [x] := by
          rw [List.take_succ_eq_append_getElem hlt]
          rw [List.getElem?_eq_getElem hlt] at hx
          simp at hx; rw [hx]
        rw [Hid, this, wnums_snoc]
      obtain ⟨s1, hs1⟩ : ∃ q, q = wnums (l.take k) s := ⟨_, rfl⟩
      rw [← hs1] at hW HX
      clear hs1 hx
      have hgw := hW.lt
      obtain ⟨okb, hok⟩ : ∃ okb : Bool, okb = (decide (0 ≤ x) && decide (x ≤ 1099511627776)) := ⟨_, rfl⟩
      have hstep : Calls Tryd.prog 112 #[.pointer (some ⟨g, 0, none⟩), .bool okb, .int .i64 2] wr fun ev w' => ev = .returned (.tuple #[]) ∧ WAt w' g (neead okb 2 s1) (N + 10 * k) ∧ Mod (penMay wr g) wr w' := need_any g s1 _ okb 2 wr hW (by omega)
      have HST := Hid.mk' hstep
      have HOK := Hid.mk' hok
      clear hstep hW hok
      have hcs : (x < 0 ∧ okb = false) ∨ (1099511627776 < x ∧ 0 ≤ x ∧ okb = false) ∨ (0 ≤ x ∧ x ≤ 1099511627776 ∧ okb = true) := by
        rw [HOK.out]
        by_cases h1 : 0 ≤ x
        · by_cases h2 : x ≤ 1099511627776
          · exact .inr (.inr ⟨h1, h2, by simp [h1, h2]⟩)
          · exact .inr (.inl ⟨by omega, h1, by simp [h2]⟩)
        · exact .inl ⟨by omega, by simp [h1]⟩
      rcases hcs with ⟨h1, h2⟩ | ⟨h1, h0, h2⟩ | ⟨h1, h0, h2⟩
      · have HF : Hid (wnum x s1 = (s1.1 ++ enc 0, 2)) := by rw [Hid, wnum, if_neg (by omega)]
        have e1 : decide (0 ≤ x) = false := by simp; omega
        subst h2
        go_wp2_with fail
        refine HST.out.mono ?_
        rintro ev w2 ⟨rfl, hW2, hm2⟩
        have hL2 := hL.pen hm2 hbg (by decide)
        have hM2 := penMay_trans hM hm2
        have hg2 := hW2.lt
        obtain ⟨v, row, hB2, hown2, hN2, hrow2⟩ := hW2
        obtain ⟨va, vc, rfl⟩ := own_slice hown2
        have c0 := hB2.cell 0 rfl
        have f0 := hB2.frozen 0
        have HOW := Hid.mk' hown2
        have HRW := Hid.mk' hrow2
        clear hown2 hrow2 hm2 hL hM HST HOK
        go_wp2_with fail
        refine (put_any (g + 1) w2 _ row x hxi (by omega) HOW.out (by omega)).mono ?_
        rintro ev w3 ⟨v3, rfl, hown3, hm3⟩
        have hL3 := hL2.mod hm3 (fun e => by
          obtain ⟨_, cur, fr, hx⟩ := e
          simp only [Blk] at hL2; rw [hL2] at hx; simp at hx)
        have c3 := (hB2.mod hm3 (fun e => by obtain ⟨e, _⟩ := e; omega)).cell 0 rfl
        have f3 := (hB2.mod hm3 (fun e => by obtain ⟨e, _⟩ := e; omega)).frozen 0
        have hpl := putB_len x hxi
        have hlp : (row ++ putB x).length ≤ N + 10 * (k + 1) := by rw [List.length_append]; omega
        rw [List.length_append] at hown3
        obtain ⟨vb, vd, rfl⟩ := own_slice hown3
        have R := wr_round (s' := wnum x s1) (N := N + 10 * (k + 1)) hB2 hM2 hm3 (by rw [List.length_append]; exact hown3) hlp (by rw [HF.out]; rfl) (fun e => absurd e (by simp [neead]))
        clear hown3 hm3 hB2 hM2 HOW HRW HF hlp hpl
        have HRR := Hid.mk' R
        clear R
        go_wp2_with fail
        go_roundw
        case rel => exact ⟨k + 1, by omega, by go_num, by rw [HX.out]; exact HRR.out.1, hL3.mod (Mod.setBlk g 0 _) (fun e => by simp only [oneBlock] at e; omega), HRR.out.2⟩
        case measure => simp [intOf]; omega
      · have HF : Hid (wnum x s1 = (s1.1 ++ enc 0, 2)) := by rw [Hid, wnum, if_neg (by omega)]
        have e1 : decide (0 ≤ x) = true := by simpa using h0
        have e2 : decide (x ≤ 1099511627776) = false := by simp; omega
        subst h2
        go_wp2_with fail
        refine HST.out.mono ?_
        rintro ev w2 ⟨rfl, hW2, hm2⟩
        have hL2 := hL.pen hm2 hbg (by decide)
        have hM2 := penMay_trans hM hm2
        have hg2 := hW2.lt
        obtain ⟨v, row, hB2, hown2, hN2, hrow2⟩ := hW2
        obtain ⟨va, vc, rfl⟩ := own_slice hown2
        have c0 := hB2.cell 0 rfl
        have f0 := hB2.frozen 0
        have HOW := Hid.mk' hown2
        have HRW := Hid.mk' hrow2
        clear hown2 hrow2 hm2 hL hM HST HOK
        go_wp2_with fail
        refine (put_any (g + 1) w2 _ row x hxi (by omega) HOW.out (by omega)).mono ?_
        rintro ev w3 ⟨v3, rfl, hown3, hm3⟩
        have hL3 := hL2.mod hm3 (fun e => by
          obtain ⟨_, cur, fr, hx⟩ := e
          simp only [Blk] at hL2; rw [hL2] at hx; simp at hx)
        have c3 := (hB2.mod hm3 (fun e => by obtain ⟨e, _⟩ := e; omega)).cell 0 rfl
        have f3 := (hB2.mod hm3 (fun e => by obtain ⟨e, _⟩ := e; omega)).frozen 0
        have hpl := putB_len x hxi
        have hlp : (row ++ putB x).length ≤ N + 10 * (k + 1) := by rw [List.length_append]; omega
        rw [List.length_append] at hown3
        obtain ⟨vb, vd, rfl⟩ := own_slice hown3
        have R := wr_round (s' := wnum x s1) (N := N + 10 * (k + 1)) hB2 hM2 hm3 (by rw [List.length_append]; exact hown3) hlp (by rw [HF.out]; rfl) (fun e => absurd e (by simp [neead]))
        clear hown3 hm3 hB2 hM2 HOW HRW HF hlp hpl
        have HRR := Hid.mk' R
        clear R
        go_wp2_with fail
        go_roundw
        case rel => exact ⟨k + 1, by omega, by go_num, by rw [HX.out]; exact HRR.out.1, hL3.mod (Mod.setBlk g 0 _) (fun e => by simp only [oneBlock] at e; omega), HRR.out.2⟩
        case measure => simp [intOf]; omega
      · have HF : Hid (wnum x s1 = (s1.1 ++ enc x.toNat, s1.2)) := by rw [Hid, wnum, if_pos ⟨h1, h0⟩]
        have e1 : decide (0 ≤ x) = true := by simpa using h1
        have e2 : decide (x ≤ 1099511627776) = true := by simpa using h0
        subst h2
        go_wp2_with fail
        refine HST.out.mono ?_
        rintro ev w2 ⟨rfl, hW2, hm2⟩
        have hL2 := hL.pen hm2 hbg (by decide)
        have hM2 := penMay_trans hM hm2
        have hg2 := hW2.lt
        obtain ⟨v, row, hB2, hown2, hN2, hrow2⟩ := hW2
        obtain ⟨va, vc, rfl⟩ := own_slice hown2
        have c0 := hB2.cell 0 rfl
        have f0 := hB2.frozen 0
        have HOW := Hid.mk' hown2
        have HRW := Hid.mk' hrow2
        clear hown2 hrow2 hm2 hL hM HST HOK
        go_wp2_with fail
        refine (put_any (g + 1) w2 _ row x hxi (by omega) HOW.out (by omega)).mono ?_
        rintro ev w3 ⟨v3, rfl, hown3, hm3⟩
        have hL3 := hL2.mod hm3 (fun e => by
          obtain ⟨_, cur, fr, hx⟩ := e
          simp only [Blk] at hL2; rw [hL2] at hx; simp at hx)
        have c3 := (hB2.mod hm3 (fun e => by obtain ⟨e, _⟩ := e; omega)).cell 0 rfl
        have f3 := (hB2.mod hm3 (fun e => by obtain ⟨e, _⟩ := e; omega)).frozen 0
        have hpl := putB_len x hxi
        have hlp : (row ++ putB x).length ≤ N + 10 * (k + 1) := by rw [List.length_append]; omega
        rw [List.length_append] at hown3
        obtain ⟨vb, vd, rfl⟩ := own_slice hown3
        have R := wr_round (s' := wnum x s1) (N := N + 10 * (k + 1)) hB2 hM2 hm3 (by rw [List.length_append]; exact hown3) hlp (by rw [HF.out]; rfl) (fun e => by rw [HF.out, putB_in _ h1, HRW.out e]; rfl)
        clear hown3 hm3 hB2 hM2 HOW HRW HF hlp hpl
        have HRR := Hid.mk' R
        clear R
        go_wp2_with fail
        go_roundw
        case rel => exact ⟨k + 1, by omega, by go_num, by rw [HX.out]; exact HRR.out.1, hL3.mod (Mod.setBlk g 0 _) (fun e => by simp only [oneBlock] at e; omega), HRR.out.2⟩
        case measure => simp [intOf]; omega
    · have hkn : k = l.length := by omega
      subst hkn
      rw [List.take_length] at hW
      go_wp2_with fail
      go_end0
      exact ⟨rfl, hW, hM⟩
end Go.Proofs.YtcfgmjlkbjleaaaDoor
