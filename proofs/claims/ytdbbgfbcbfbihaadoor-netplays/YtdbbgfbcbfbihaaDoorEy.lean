/- The document's reader (package chainmailref): numbers, texts. -/
import Derived.Test.YtdbbgfbcbfbihaaDoorRd5
namespace Go.Proofs.YtdbbgfbcbfbihaaDoor
open Go.RowKit

/-- An eye at block g: the bytes that are left, and whether it is blind. -/
def EAt (w : World) (L g : Nat) (bs : List Int) (bl : Bool) : Prop :=
  L ≤ g ∧ ∃ v, Blk w g [v, .bool bl] 145 ∧ BAt w L v bs
theorem EAt.mod {G : Nat → Prop} {w w' : World} {L g : Nat} {bs : List Int} {sp : Bool} (h : EAt w L g bs sp) (hm : Mod G w w') (hg : ¬ G g) (hG : ∀ k, k < L → ¬ G k) : EAt w' L g bs sp := by
  obtain ⟨hL, v, h1, h2⟩ := h
  exact ⟨hL, v, h1.mod hm hg, h2.mod hm hG⟩
theorem EAt.lt {w : World} {L g : Nat} {bs : List Int} {sp : Bool} (h : EAt w L g bs sp) : L ≤ g ∧ g < w.heap.size := by
  obtain ⟨hL, v, h1, _⟩ := h
  exact ⟨hL, h1.lt⟩
theorem EAt.set0 {w : World} {L g : Nat} {v u : Value} {sp : Bool} (hL : L ≤ g) (h : Blk w g [v, .bool sp] 145) {bs : List Int} (hb : BAt w L u bs) : EAt (w.setCell ⟨g, 0, none⟩ u) L g bs sp :=
  ⟨hL, u, h.set 0 u, hb.mod (Mod.setBlk g 0 u) (fun k hk e => by simp only [oneBlock] at e; omega)⟩
theorem EAt.set1 {w : World} {L g : Nat} {v : Value} {sp : Bool} (hL : L ≤ g) (h : Blk w g [v, .bool sp] 145) {bs : List Int} (hb : BAt w L v bs) : EAt (w.setCell ⟨g, 1, none⟩ (.bool true)) L g bs true :=
  ⟨hL, v, h.set 1 (.bool true), hb.mod (Mod.setBlk g 1 _) (fun k hk e => by simp only [oneBlock] at e; omega)⟩

/-- What the document's reader does at a number. -/
def enum (s : List Int × Bool) : Nat × List Int × Bool :=
  match scan 6 s.1 with
  | none => (0, s.1, true)
  | some (n, r) => (n, r, s.2)
theorem enum_none {bs : List Int} {bl : Bool} (h : ∀ j, j < 6 → j < bs.length → 128 ≤ bs.getD j 0) : enum (bs, bl) = (0, bs, true) := by
  simp only [enum, scan_none 6 bs h]
theorem enum_at {bs : List Int} {bl : Bool} {k : Nat} {c y : Int} (hk : k < 6) (hl : k < bs.length) (hj : ∀ j, j < k → 128 ≤ bs.getD j 0) (hc : c = bs.getD k 0) (hc0 : 0 ≤ c) (hc1 : c < 128) (hy : y = vl (bs.take (k + 1))) :
    enum (bs, bl) = (y.toNat, bs.drop (k + 1), bl) := by
  subst hc hy
  simp only [enum, scan_stop k 6 bs hk hl hj hc1 hc0]
theorem mul_step (bs : List Int) (k : Nat) (hk : k < 6) (hl : k < bs.length) (c : Int) (hc : c = bs.getD k 0) :
    ∃ y, wrap64 (c % 128 * 128 ^ k) = y ∧ 0 ≤ y ∧ y ≤ 4363686772736 ∧ vl (bs.take (k + 1)) = vl (bs.take k) + y ∧ (128 : Int) ^ k ≤ 34359738368 ∧ (0 : Int) < 128 ^ k ∧ vl (bs.take k) < 34359738368 := by
  have hpk : (128 : Int) ^ k ≤ 34359738368 := by
    have : (128 : Nat) ^ k ≤ 128 ^ 5 := Nat.pow_le_pow_right (by omega) (by omega)
    have h2 : ((128 ^ k : Nat) : Int) ≤ ((128 ^ 5 : Nat) : Int) := by exact_mod_cast this
    simpa using h2
  have hpp : (0 : Int) < 128 ^ k := Int.pow_pos (by omega)
  have hm : 0 ≤ c % 128 ∧ c % 128 ≤ 127 := by omega
  have hprod : c % 128 * 128 ^ k ≤ 127 * 34359738368 := Int.mul_le_mul hm.2 hpk (Int.le_of_lt hpp) (by omega)
  have hprod0 : 0 ≤ c % 128 * 128 ^ k := Int.mul_nonneg hm.1 (Int.le_of_lt hpp)
  have hv := vl_take_lt bs k
  refine ⟨c % 128 * 128 ^ k, IntWalk.wrap64_in _ ⟨by omega, by omega⟩, hprod0, by omega, ?_, hpk, hpp, by omega⟩
  rw [vl_take bs k hl, hc, Int.mul_comm]

set_option maxHeartbeats 1000000 in
theorem enum_any (L g : Nat) (bs : List Int) (bl : Bool) (w : World) (h : EAt w L g bs bl) :
    Calls Tryd.prog 75 #[.pointer (some ⟨g, 0, none⟩)] w fun e w' => e = .returned (.int .i64 (enum (bs, bl)).1) ∧ EAt w' L g (enum (bs, bl)).2.1 (enum (bs, bl)).2.2 ∧ Mod (oneBlock g) w w' := by
  have hb' := h
  obtain ⟨hLg, v, hblk, hbat⟩ := hb'
  have hbat' := hbat
  obtain ⟨hb, a, cap, rfl, hlc, hcm0, hbs⟩ := hbat'
  have hcm := hcm0
  unfold maxLen at hcm
  have h0 := hblk.cell 0 rfl
  have h1 := hblk.cell 1 rfl
  have hf0 := hblk.frozen 0
  have hf1 := hblk.frozen 1
  obtain ⟨r, hr⟩ : ∃ r, r = enum (bs, bl) := ⟨_, rfl⟩
  rw [← hr]
  have HR : Hid (r = enum (bs, bl)) := hr
  clear hr h
  go_enter Tryd.func75, Tryd.ntmps75
  go_wp2_with fail
  go_loop [3, 4, 5] (fun n t i => ∃ k : Nat, k ≤ 6 ∧ k ≤ bs.length ∧ i = .int .i64 k ∧ n = .int .i64 (vl (bs.take k)) ∧ t = .int .i64 (128 ^ k) ∧ ∀ j, j < k → 128 ≤ bs.getD j 0) (fun _ _ i => 6 - (intOf i).toNat)
  case atStart => exact ⟨0, Nat.zero_le _, Nat.zero_le _, rfl, rfl, rfl, by simp⟩
  case round =>
    obtain ⟨k, hk, hkl, rfl, rfl, rfl, hbig⟩ := hrel
    have HB : Hid (∀ j, j < k → 128 ≤ bs.getD j 0) := hbig
    clear hbig
    by_cases hlt : k < 6 ∧ k < bs.length
    · obtain ⟨hk6, hkb⟩ := hlt
      rcases hbs with rfl | ⟨b, off, rfl, hbL, hcell⟩
      · simp at hkb
      have hc := hcell k hkb
      obtain ⟨c, hcc⟩ : ∃ c, c = bs.getD k 0 := ⟨_, rfl⟩
      rw [← hcc] at hc
      have hcb : 0 ≤ c ∧ c < 256 := by rw [hcc]; exact hb _ (by rw [List.getD_eq_getElem?_getD, List.getElem?_eq_getElem hkb]; exact List.getElem_mem _)
      obtain ⟨hc0, hc1⟩ := hcb
      obtain ⟨y, hy, hy0, hy1, hvy, hp1, hp0, hv1⟩ := mul_step bs k hk6 hkb c hcc
      have hv0 := vl_nonneg (bs.take k)
      have HT : Hid ((128 : Int) ^ (k + 1) = 128 ^ k * 128) := Int.pow_succ _ _
      generalize hx : vl (bs.take k) = x at *
      generalize hT : (128 : Int) ^ k = T at *
      have HC : Hid (c = bs.getD k 0) := hcc
      have HY : Hid (vl (bs.take (k + 1)) = x + y) := hvy
      have HCe : Hid (∀ j, j < bs.length → w.cell? ⟨b, off + j, none⟩ = some (.int .u8 (bs.getD j 0))) := hcell
      have HBY : Hid (∀ x ∈ bs, 0 ≤ x ∧ x < 256) := hb
      clear hcc hcell hx hvy hb hT
      by_cases hbigc : 128 ≤ c
      · go_wp2_with fail
        go_round
        case rel =>
          refine ⟨k + 1, by omega, by omega, by go_num, by rw [HY.out], by rw [HT.out], fun j hj => ?_⟩
          rcases Nat.lt_or_eq_of_le (Nat.le_of_lt_succ hj) with h | rfl
          · exact HB.out j h
          · rw [← HC.out]; exact hbigc
        case measure => simp [intOf]; omega
      · have HQ : Hid (r = ((x + y).toNat, bs.drop (k + 1), bl)) := HR.out.trans (enum_at hk6 hkb HB.out HC.out hc0 (by omega) HY.out.symm)
        clear HR HT HY HC HB
        go_wp2_with fail
        all_goals go_ret
        all_goals rw [HQ.out]
        all_goals exact ⟨ret_int (by simp; omega), EAt.set0 hLg hblk (BAt.drop HBY.out hlc hcm0 hbL HCe.out _ (by omega) _ (fun h => by first | rfl | (exfalso; omega) | (subst_vars; rfl)) _ _ (by omega) (by omega)), Mod.setBlk g 0 _⟩
    · have HQ : Hid (r = (0, bs, true)) := HR.out.trans (enum_none (fun j h6 hl => HB.out j (by omega)))
      clear HR HB hbs hb
      have HBA : Hid (BAt w L (.slice a bs.length cap) bs) := hbat
      clear hbat
      go_wp2_with fail
      all_goals go_ret
      all_goals rw [HQ.out]
      all_goals exact ⟨rfl, EAt.set1 hLg hblk HBA.out, Mod.setBlk g 1 _⟩

theorem strOf_nil : strOfNums [] = ByteArray.empty := rfl
def etext (s : List Int × Bool) : ByteArray × List Int × Bool :=
  if (enum s).2.1.length < (enum s).1 then (ByteArray.empty, (enum s).2.1, true)
  else (strOfNums ((enum s).2.1.take (enum s).1), (enum s).2.1.drop (enum s).1, (enum s).2.2)
theorem etext_no {s : List Int × Bool} {n : Nat} {bs : List Int} {sp : Bool} (h : (n, bs, sp) = enum s) (hl : bs.length < n) : etext s = (ByteArray.empty, bs, true) := by
  unfold etext; rw [← h, if_pos hl]
theorem etext_yes {s : List Int × Bool} {n : Nat} {bs : List Int} {sp : Bool} (h : (n, bs, sp) = enum s) (hl : ¬ bs.length < n) : etext s = (strOfNums (bs.take n), bs.drop n, sp) := by
  unfold etext; rw [← h, if_neg hl]
theorem scan_lt : ∀ (k : Nat) (bs : List Int) (n : Nat) (r : List Int), (∀ x ∈ bs, 0 ≤ x ∧ x < 256) → scan k bs = some (n, r) → n < 128 ^ k ∧ ∀ x ∈ r, 0 ≤ x ∧ x < 256
  | 0, _, _, _, _, h => by simp [scan] at h
  | _ + 1, [], _, _, _, h => by simp [scan] at h
  | k + 1, c :: bs, n, r, hb, h => by
    have hc := hb c (by simp)
    by_cases h1 : c < 128
    · simp only [scan, if_pos h1, Option.some.injEq, Prod.mk.injEq] at h
      obtain ⟨rfl, rfl⟩ := h
      refine ⟨?_, fun x hx => hb x (by simp [hx])⟩
      have : (128 : Nat) ^ 1 ≤ 128 ^ (k + 1) := Nat.pow_le_pow_right (by omega) (by omega)
      omega
    · simp only [scan, if_neg h1, Option.map_eq_some_iff] at h
      obtain ⟨⟨m, r'⟩, h2, h3⟩ := h
      simp only [Prod.mk.injEq] at h3
      obtain ⟨rfl, rfl⟩ := h3
      have ih := scan_lt k bs m r' (fun x hx => hb x (by simp [hx])) h2
      refine ⟨?_, ih.2⟩
      rw [Nat.pow_succ]; omega
theorem enum_lt {bs : List Int} {bl : Bool} (hb : ∀ x ∈ bs, 0 ≤ x ∧ x < 256) : (enum (bs, bl)).1 < 4398046511104 := by
  unfold enum
  split
  · simp
  · rename_i n r h; exact (scan_lt 6 bs n r hb h).1

set_option maxHeartbeats 400000 in
theorem etext_any (L g : Nat) (bs : List Int) (sp : Bool) (w : World) (h : EAt w L g bs sp) :
    Calls Tryd.prog 115 #[.pointer (some ⟨g, 0, none⟩)] w fun e w' => e = .returned (.string (etext (bs, sp)).1) ∧ EAt w' L g (etext (bs, sp)).2.1 (etext (bs, sp)).2.2 ∧ Mod (oneBlock g) w w' := by
  obtain ⟨r, hr⟩ : ∃ r, r = etext (bs, sp) := ⟨_, rfl⟩
  rw [← hr]
  have HR : Hid (r = etext (bs, sp)) := hr
  clear hr
  have hle := enum_lt (bs := bs) (bl := sp) (by obtain ⟨_, v, _, hb, _⟩ := h; exact hb)
  go_enter Tryd.func115, Tryd.ntmps115
  go_wp2_with fail
  refine (enum_any _ _ _ _ _ h).mono ?_
  rintro e w1 ⟨rfl, h1, hm1⟩
  obtain ⟨⟨n, bs1, sp1⟩, hq⟩ : ∃ q, q = enum (bs, sp) := ⟨_, rfl⟩
  rw [← hq] at h1 hle ⊢
  have HQ : Hid ((n, bs1, sp1) = enum (bs, sp)) := hq
  clear hq h
  simp only at hle h1 ⊢
  obtain ⟨hLg, v, hblk, hbat⟩ := h1
  have hbat' := hbat
  obtain ⟨hb, a, cap, rfl, hlc, hcm0, hbs⟩ := hbat'
  have hcm := hcm0
  unfold maxLen at hcm
  have h0 := hblk.cell 0 rfl
  have h1 := hblk.cell 1 rfl
  have hf0 := hblk.frozen 0
  have hf1 := hblk.frozen 1
  have HBA : Hid (BAt w1 L (.slice a bs1.length cap) bs1) := hbat
  clear hbat
  by_cases hlt : bs1.length < n
  · have HN : Hid (r = (ByteArray.empty, bs1, true)) := HR.out.trans (etext_no HQ.out hlt)
    clear HR HQ hbs hb
    go_wp2_with fail
    go_ret
    rw [HN.out]
    exact ⟨rfl, EAt.set1 hLg hblk HBA.out, hm1.trans (Mod.setBlk g 1 _)⟩
  · have HN : Hid (r = (strOfNums (bs1.take n), bs1.drop n, sp1)) := HR.out.trans (etext_yes HQ.out hlt)
    have HBY : Hid (∀ x ∈ bs1, 0 ≤ x ∧ x < 256) := hb
    clear HR HQ hb
    rcases hbs with rfl | ⟨b, off, rfl, hbL, hcell⟩
    · have hn0 : n = 0 := by simp at hlt; exact hlt
      subst hn0
      have hcv := fun c => @conv_zero w1 a c
      go_wp2_with fail
      go_ret
      rw [HN.out]
      exact ⟨rfl, EAt.set0 hLg hblk ⟨by simp, a, cap, rfl, by simp, hcm0, .inl rfl⟩, hm1.trans (Mod.setBlk g 0 _)⟩
    · have hcv := fun c => @conv_take w1 b off c bs1 hcell n (by omega)
      have HCe : Hid (∀ j, j < bs1.length → w1.cell? ⟨b, off + j, none⟩ = some (.int .u8 (bs1.getD j 0))) := hcell
      clear hcell
      go_wp2_with fail
      all_goals go_ret
      all_goals rw [HN.out]
      all_goals exact ⟨rfl, EAt.set0 hLg hblk (BAt.drop HBY.out hlc hcm0 hbL HCe.out _ (by omega) _ (fun h => by first | rfl | (exfalso; omega) | (subst_vars; rfl)) _ _ (by omega) (by omega)), hm1.trans (Mod.setBlk g 0 _)⟩
end Go.Proofs.YtdbbgfbcbfbihaaDoor
