/- Package locks: pass. -/
import Derived.Test.YtkoncehhpiegfaaGreatDoorQj
namespace Go.Proofs.YtkoncehhpiegfaaGreatDoor
open Go.RowKit Go.Lib Go.Maps
set_option linter.unusedVariables false

/-- One who waits comes by: who holds, who waits still, who got it. -/
def pstepN (x : List ClmD × List ClmD × List ClmD) (c : ClmD) : List ClmD × List ClmD × List ClmD := if freeN x.1 x.2.1 c then (withN x.1 c, x.2.1, x.2.2 ++ [c]) else (x.1, x.2.1 ++ [c], x.2.2)
theorem pass_fold : ∀ (q held kept got : List ClmD), q.foldl pstepN (held, kept, got) = ((passN held kept q).1, (passN held kept q).2.1, got ++ (passN held kept q).2.2)
  | [], held, kept, got => by simp [passN]
  | c :: q, held, kept, got => by
    rw [List.foldl_cons]
    by_cases h : freeN held kept c = true
    · rw [show pstepN (held, kept, got) c = (withN held c, kept, got ++ [c]) by simp [pstepN, h], pass_fold q]
      simp [passN, h]
    · rw [show pstepN (held, kept, got) c = (held, kept ++ [c], got) by simp [pstepN, h], pass_fold q]
      simp [passN, h]
theorem RowK.snoc {w w' : World} {B n : Nat} {u : Value} {l : List ClmD} {c : ClmD} (hn : n = l.length) (h : w'.ownsRow B 61 2 u (n + 1) (clmsCells l ++ clmCells c)) : RowK w' B u (l ++ [c]) := by
  subst hn
  unfold RowK
  rw [clmsCells_app, clmsCells_one1, List.length_append]
  exact h
theorem clmCells_one (c : ClmD) : ∀ u ∈ clmCells c, u.oneCell' = true := by
  intro u hu
  simp [clmCells] at hu
  rcases hu with rfl | rfl <;> rfl
/-- pass under way: k have come by. -/
structure PassI (w wr : World) (B kb : Nat) (hv : Value) (held waits : List ClmD) (k : Nat) (gv hv' wv' : Value) (H K G : List ClmD) : Prop where
  fold : (waits.take k).foldl pstepN (held, [], []) = (H, K, G)
  ky : KyP wr B kb hv' wv' H K
  got : RowK wr B gv G
  eld : Elder H
  ga : ∀ x, gv.ownBlock = some x → hv'.ownBlock ≠ some x ∧ wv'.ownBlock ≠ some x
  ha : hv'.ownBlock = hv.ownBlock ∨ ∀ x, hv'.ownBlock = some x → w.heap.size ≤ x
  wa : ∀ x, wv'.ownBlock = some x → w.heap.size ≤ x
  gn : ∀ x, gv.ownBlock = some x → w.heap.size ≤ x
  hl : H.length ≤ held.length + k
  kl : K.length ≤ k
  gl : G.length ≤ k
  md : Mod (fun x => x = kb ∨ hv.ownBlock = some x) w wr
theorem fold_next {waits : List ClmD} {k : Nat} {c : ClmD} {x y : List ClmD × List ClmD × List ClmD} {s : List ClmD × List ClmD × List ClmD} (hc : waits[k]? = some c) (h : (waits.take k).foldl pstepN s = x) (hy : pstepN x c = y) : (waits.take (k + 1)).foldl pstepN s = y := by
  rw [take_snocQ hc, List.foldl_append, h]
  exact hy
/-- One that may not have it waits on. -/
theorem PassI.wait {w wr w3 w6 : World} {B kb : Nat} {hv : Value} {held waits : List ClmD} {k : Nat} {gv hv' wv' u : Value} {H K G : List ClmD} {c : ClmD} (h : PassI w wr B kb hv held waits k gv hv' wv' H K G) (hc : waits[k]? = some c) (hf : freeN H K c = false) (hm3 : Mod noBlock wr w3) (hw : w.heap.size ≤ wr.heap.size)
    (hu : RowK w6 B u (K ++ [c])) (hm6 : Mod (fun x => wv'.ownBlock = some x) w3 w6) (hat : u.ownBlock = wv'.ownBlock ∨ ∀ x, u.ownBlock = some x → w3.heap.size ≤ x) :
    PassI w (w6.setCell ⟨kb, 1, none⟩ u) B kb hv held waits (k + 1) gv hv' u H (K ++ [c]) G := by
  have hm7 : Mod (oneBlock kb) w6 (w6.setCell ⟨kb, 1, none⟩ u) := Mod.setBlk kb 1 u
  have z3 := hm3.size
  have hkw := row_key h.ky.blk h.ky.w
  have hkh := row_key h.ky.blk h.ky.h
  have hkg := row_key h.ky.blk h.got
  have hb3 := h.ky.blk.mod hm3 id
  have hb6 := hb3.mod hm6 hkw
  have hub : ∀ x, u.ownBlock = some x → wv'.ownBlock = some x ∨ w3.heap.size ≤ x := fun x hx => by
    rcases hat with e | e
    · exact .inl (by rw [← e]; exact hx)
    · exact .inr (e x hx)
  have hlt : ∀ {v : Value} {l : List ClmD}, RowK wr B v l → ∀ x, v.ownBlock = some x → x < w3.heap.size := fun hr x hx => Nat.lt_of_lt_of_le (own_cellsVQ hr hx).2.1 z3
  have hh : RowK (w6.setCell ⟨kb, 1, none⟩ u) B hv' H := ((h.ky.h.mod hm3 (fun _ _ => id)).mod hm6 (fun x hx e => h.ky.ne x hx e)).mod hm7 (fun x hx e => by simp only [oneBlock] at e; rw [e] at hx; exact hkh hx)
  have hg : RowK (w6.setCell ⟨kb, 1, none⟩ u) B gv G := ((h.got.mod hm3 (fun _ _ => id)).mod hm6 (fun x hx e => (h.ga x hx).2 e)).mod hm7 (fun x hx e => by simp only [oneBlock] at e; rw [e] at hx; exact hkg hx)
  refine ⟨fold_next hc h.fold (by unfold pstepN; simp [hf]), ⟨hb6.set 1 u, hh, hu.mod hm7 (fun x hx e => ?_), fun x hx e => ?_⟩, hg, h.eld, fun x hx => ⟨(h.ga x hx).1, fun e => ?_⟩, h.ha, fun x hx => ?_, h.gn, by have := h.hl; omega, by have := h.kl; simp; omega, by have := h.gl; omega, ?_⟩
  · simp only [oneBlock] at e
    rw [e] at hx
    rcases hub kb hx with q | q
    · exact hkw q
    · have := hb3.lt; omega
  · rcases hub x e with q | q
    · exact h.ky.ne x hx q
    · have := hlt h.ky.h x hx; omega
  · rcases hub x e with q | q
    · exact (h.ga x hx).2 q
    · have := hlt h.got x hx; omega
  · rcases hub x hx with q | q
    · exact h.wa x q
    · omega
  · refine (h.md.trans (hm3.mono (fun _ _ e => e.elim))).trans' ((hm6.mono (G' := fun x => wv'.ownBlock = some x ∨ x = kb) (fun _ _ e => .inl e)).trans (hm7.mono (fun _ _ e => .inr e))) (fun x hx e => ?_)
    rcases e with e | e
    · have := h.wa x e; omega
    · exact .inl e
/-- One that may have it has it. -/
theorem PassI.gets {w wr w3 w6 w8 w9 : World} {B kb : Nat} {hv : Value} {held waits : List ClmD} {k : Nat} {gv hv' wv' u g' : Value} {H K G : List ClmD} {c : ClmD} (h : PassI w wr B kb hv held waits k gv hv' wv' H K G) (hc : waits[k]? = some c) (hf : freeN H K c = true) (hm3 : Mod noBlock wr w3) (hw : w.heap.size ≤ wr.heap.size)
    (hu : RowK w6 B u (withN H c)) (hm6 : Mod (fun x => hv'.ownBlock = some x) w3 w6) (hat : u.ownBlock = hv'.ownBlock ∨ ∀ x, u.ownBlock = some x → w3.heap.size ≤ x)
    (hm8 : Mod noBlock (w6.setCell ⟨kb, 0, none⟩ u) w8) (hg' : RowK w9 B g' (G ++ [c])) (hm9 : Mod (fun x => gv.ownBlock = some x) w8 w9) (hat9 : g'.ownBlock = gv.ownBlock ∨ ∀ x, g'.ownBlock = some x → w8.heap.size ≤ x) :
    PassI w w9 B kb hv held waits (k + 1) g' u wv' (withN H c) K (G ++ [c]) := by
  have hm7 : Mod (oneBlock kb) w6 (w6.setCell ⟨kb, 0, none⟩ u) := Mod.setBlk kb 0 u
  have z3 := hm3.size
  have z6 := hm6.size
  have z7 := hm7.size
  have z8 := hm8.size
  have hkw := row_key h.ky.blk h.ky.w
  have hkh := row_key h.ky.blk h.ky.h
  have hkg := row_key h.ky.blk h.got
  have hb3 := h.ky.blk.mod hm3 id
  have hb6 := hb3.mod hm6 hkh
  have hub : ∀ x, u.ownBlock = some x → hv'.ownBlock = some x ∨ w3.heap.size ≤ x := fun x hx => by
    rcases hat with e | e
    · exact .inl (by rw [← e]; exact hx)
    · exact .inr (e x hx)
  have hgb : ∀ x, g'.ownBlock = some x → gv.ownBlock = some x ∨ w8.heap.size ≤ x := fun x hx => by
    rcases hat9 with e | e
    · exact .inl (by rw [← e]; exact hx)
    · exact .inr (e x hx)
  have hlt : ∀ {v : Value} {l : List ClmD}, RowK wr B v l → ∀ x, v.ownBlock = some x → x < w3.heap.size := fun hr x hx => Nat.lt_of_lt_of_le (own_cellsVQ hr hx).2.1 z3
  have hukb : u.ownBlock ≠ some kb := fun e => by
    rcases hub kb e with q | q
    · exact hkh q
    · have := hb3.lt; omega
  have hug : ∀ x, u.ownBlock = some x → gv.ownBlock ≠ some x := fun x hx e => by
    rcases hub x hx with q | q
    · exact (h.ga x e).1 q
    · have := hlt h.got x e; omega
  have hu9 : RowK w9 B u (withN H c) := ((hu.mod hm7 (fun x hx e => by simp only [oneBlock] at e; rw [e] at hx; exact hukb hx)).mod hm8 (fun _ _ => id)).mod hm9 (fun x hx e => hug x hx e)
  have hw9 : RowK w9 B wv' K := ((((h.ky.w.mod hm3 (fun _ _ => id)).mod hm6 (fun x hx e => h.ky.ne x e hx)).mod hm7 (fun x hx e => by simp only [oneBlock] at e; rw [e] at hx; exact hkw hx)).mod hm8 (fun _ _ => id)).mod hm9 (fun x hx e => (h.ga x e).2 hx)
  have hb9 : Blk w9 kb [u, wv'] 59 := ((hb6.set 0 u).mod hm8 id).mod hm9 hkg
  refine ⟨fold_next hc h.fold (by unfold pstepN; simp [hf]), ⟨hb9, hu9, hw9, fun x hx e => ?_⟩, hg', elder_with h.eld c, fun x hx => ⟨fun e => ?_, fun e => ?_⟩, ?_, h.wa, fun x hx => ?_, by have := h.hl; have := len_with H c; omega, by have := h.kl; omega, by have := h.gl; simp; omega, ?_⟩
  · rcases hub x hx with q | q
    · exact h.ky.ne x q e
    · have := hlt h.ky.w x e; omega
  · rcases hgb x hx with q | q
    · exact hug x e q
    · have h1 := (own_cellsVQ hu e).2.1; omega
  · rcases hgb x hx with q | q
    · exact (h.ga x q).2 e
    · have := hlt h.ky.w x e; omega
  · rcases hat with e | e
    · rcases h.ha with q | q
      · exact .inl (e.trans q)
      · exact .inr (fun x hx => q x (by rw [← e]; exact hx))
    · exact .inr (fun x hx => by have := e x hx; omega)
  · rcases hgb x hx with q | q
    · exact h.gn x q
    · omega
  · have a1 : Mod (fun x => hv'.ownBlock = some x ∨ x = kb ∨ gv.ownBlock = some x) w3 w9 := ((hm6.mono (fun _ _ e => .inl e)).trans (hm7.mono (fun _ _ e => .inr (.inl e)))).trans ((hm8.mono (fun _ _ e => e.elim)).trans (hm9.mono (fun _ _ e => .inr (.inr e))))
    refine (h.md.trans (hm3.mono (fun _ _ e => e.elim))).trans' a1 (fun x hx e => ?_)
    rcases e with e | e | e
    · rcases h.ha with q | q
      · exact .inr (by rw [← q]; exact e)
      · have := q x e; omega
    · exact .inl e
    · have := h.gn x e; omega
/-- What pass comes to. -/
def PassP (w : World) (B kb : Nat) (hv : Value) (held waits : List ClmD) (e : Ending) (w' : World) : Prop :=
  ∃ gv hv' wv', e = .returned gv ∧ PassI w w' B kb hv held waits waits.length gv hv' wv' (passN held [] waits).1 (passN held [] waits).2.1 (passN held [] waits).2.2
set_option maxRecDepth 100000 in
set_option maxHeartbeats 8000000 in
theorem pass_any (B kb : Nat) (hv wv : Value) (held waits : List ClmD) (w : World) (hk : KyP w B kb hv wv held waits) (heh : Elder held) (h1 : held.length ≤ 400) (h2 : waits.length ≤ 400) (hB : B ≤ w.heap.size) :
    Calls Tryz.prog 28 #[.pointer (some ⟨kb, 0, none⟩)] w (PassP w B kb hv held waits) := by
  obtain ⟨i0, hi, hz0, hz1, hz2⟩ := info_parts Tryz.info61
  obtain ⟨wa, wcap, hwv⟩ := own_slice hk.w
  subst hwv
  have hkh := row_key hk.blk hk.h
  have hkw := row_key hk.blk hk.w
  have c1 := hk.blk.cell 1 rfl
  have f1 := hk.blk.frozen 1
  have hkl := hk.blk.lt
  obtain ⟨w1, hw1⟩ : ∃ q, q = w.setCell ⟨kb, 1, none⟩ (.slice none 0 0) := ⟨_, rfl⟩
  have hm1 : Mod (oneBlock kb) w w1 := by rw [hw1]; exact Mod.setBlk kb 1 _
  have HQV : Hid (RowK w1 B (.slice wa waits.length wcap) waits) := hk.w.mod hm1 (fun x hx e => by simp only [oneBlock] at e; rw [e] at hx; exact hkw hx)
  have HI0 : Hid (PassI w w1 B kb hv held waits 0 (.slice none 0 0) hv (.slice none 0 0) held [] []) := by
    refine ⟨rfl, ⟨?_, hk.h.mod hm1 (fun x hx e => by simp only [oneBlock] at e; rw [e] at hx; exact hkh hx), World.ownsRow_nil _ _ _ _, fun x _ => by simp [Value.ownBlock]⟩, World.ownsRow_nil _ _ _ _, heh, fun x hx => by simp [Value.ownBlock] at hx, .inl rfl, fun x hx => by simp [Value.ownBlock] at hx, fun x hx => by simp [Value.ownBlock] at hx, by omega, by simp, by simp, hm1.mono (fun _ _ e => .inl e)⟩
    have := hk.blk.set 1 (.slice none 0 0)
    rw [← hw1] at this
    exact this
  have HQB : Hid (∀ x, (Value.slice wa waits.length wcap).ownBlock = some x → x < w.heap.size ∧ x ≠ kb ∧ hv.ownBlock ≠ some x) := fun x hx => ⟨(own_cellsVQ hk.w hx).2.1, fun e => hkw (by rw [← e]; exact hx), fun e => hk.ne x e hx⟩
  have hz01 := hm1.size
  have HKW : Hid (RowK w B (.slice wa waits.length wcap) waits) := hk.w
  clear hk hm1
  go_enter Tryz.func28, Tryz.ntmps28
  go_upto_region 4 with fail
  rw [← hw1]
  clear hw1 c1 f1
  go_wp2_with fail
  go_loopw [3, 16] (fun g0 i wr => ∃ (k : Nat) (hv' wv' : Value) (H K G : List ClmD), k ≤ waits.length ∧ i = .int .i64 k ∧ PassI w wr B kb hv held waits k g0 hv' wv' H K G) (fun _ i _ => waits.length - (intOf i).toNat)
  case atStart => exact ⟨0, _, _, _, _, _, Nat.zero_le _, rfl, HI0.out⟩
  case round =>
    obtain ⟨k, hv', wv', H, K, G, hkw', rfl, hI⟩ := hrel
    clear HI0
    have hHl := hI.hl
    have hKl := hI.kl
    have hGl := hI.gl
    have hzr := hI.md.size
    by_cases hlt : k < waits.length
    · obtain ⟨c, hc⟩ : ∃ c, waits[k]? = some c := ⟨_, List.getElem?_eq_getElem hlt⟩
      have hqr : RowK wr B (.slice wa waits.length wcap) waits := HKW.out.mod hI.md (fun x hx e => e.elim (HQB.out x hx).2.1 (HQB.out x hx).2.2)
      obtain ⟨qb, qoff, rfl, _, q0, q1⟩ := (hqr.toV (Nat.le_refl _)).at hc
      obtain ⟨w3, hw3⟩ : ∃ q, q = wr.alloc (.cells #[.int .i64 c.tx, .int .i64 c.mode] 61) := ⟨_, rfl⟩
      have hm3 : Mod noBlock wr w3 := by rw [hw3]; exact (Mod.refl _ wr).alloc _
      have hb3 : Blk w3 wr.heap.size (clmCells c) 61 := by rw [hw3]; exact Blk.new wr (clmCells c) 61
      obtain ⟨ha, hcap, hhv⟩ := own_slice hI.ky.h
      obtain ⟨ka, kcap, hwv⟩ := own_slice hI.ky.w
      obtain ⟨ga, gcap, hgv⟩ := own_slice hI.got
      subst hhv
      subst hwv
      subst hgv
      have HFR := Hid.mkq (free_any w3.heap.size kb _ _ H K c w3 (hI.ky.blk.mod hm3 id) ((hI.ky.h.mod hm3 (fun _ _ => id)).toV (Nat.le_refl _)) ((hI.ky.w.mod hm3 (fun _ _ => id)).toV (Nat.le_refl _)) (by omega) (by omega))
      have HI := Hid.mkq hI
      have HC := Hid.mkq hc
      have HM3 := Hid.mkq hm3
      have HB3 := Hid.mkq hb3
      have x0 := hb3.cell 0 rfl
      have x1 := hb3.cell 1 rfl
      have hzc := hb3.lt
      have hltI : (k : Int) < (waits.length : Int) := by omega
      have hlt0 : (0 : Int) ≤ (k : Int) := by omega
      clear hqr hI hc hm3 hb3
      go_upto_region 7 with fail
      rw [← hw3]
      clear hw3 q0 q1
      go_wp2_with fail
      refine HFR.out.mono ?_
      rintro e w4 ⟨rfl, hm4⟩
      have hb4 := HB3.out.mod hm4 id
      have y0 := hb4.cell 0 rfl
      have y1 := hb4.cell 1 rfl
      have hzc4 := hb4.lt
      have hm34 : Mod noBlock wr w4 := HM3.out.trans hm4
      have hkb4 := HI.out.ky.blk.mod hm34 id
      have k0 := hkb4.cell 0 rfl
      have k1 := hkb4.cell 1 rfl
      have kf0 := hkb4.frozen 0
      have kf1 := hkb4.frozen 1
      have hkz := hkb4.lt
      have HM34 := Hid.mkq hm34
      have hz34 := hm34.size
      have HKW4 : Hid ((Value.slice ka K.length kcap).ownBlock ≠ some kb) := row_key HI.out.ky.blk HI.out.ky.w
      have HKH4 : Hid ((Value.slice ha H.length hcap).ownBlock ≠ some kb) := row_key HI.out.ky.blk HI.out.ky.h
      have HKG4 : Hid ((Value.slice ga G.length gcap).ownBlock ≠ some kb) := row_key HI.out.ky.blk HI.out.got
      clear hm4 hb4 hkb4 hm34 x0 x1 HFR
      cases hfr : freeN H K c with
      | false =>
        have HROW : Hid (RowK w4 B (.slice ka K.length kcap) K) := HI.out.ky.w.mod HM34.out (fun _ _ => id)
        have hk63 : K.length + 1 ≤ maxLen := by unfold maxLen; omega
        have hk47 : (K.length + 1) * 16 ≤ 140737488355328 := by omega
        have hBz : B ≤ w4.heap.size := by omega
        go_upto_region 8 with fail
        go_region_law
          ((first
            | (refine step_append_lies _ (by rfl) _ _ _ (by rfl) B 61 i0 _ 2 16 Tryz.underlying57 hi hz0 hz1 hz2 rfl (by omega) _ _ _ (by rfl) ((World.ownsRow.drew HROW.out).alloc _) ⟨w4.heap.size, 0, none⟩ 1 1 (clmCells c) (by rfl) (by rfl) (World.news_of_block (heap_alloc_new w4.drew _)) (clmCells_one c) (by omega) hk63 hk47 (by simp; omega) _ rfl ?_; intro g6 cap6 w6 hown6 hgrow hat hlt6; have hm46 : Mod (fun k => (Value.slice ka K.length kcap).ownBlock = some k) w4 w6 := (((Mod.refl _ w4).drew).alloc _).grown hgrow (fun x hx _ => hx); have d6 := hm46.cell k1 HKW4.out; have f6 := (hm46.frozen (p := ⟨kb, 1, none⟩) hkz HKW4.out).trans kf1)
            | fail))
        all_goals
          have hloc : (Value.slice (some ⟨g6, 0, none⟩) (K.length + 1) cap6).ownBlock = (Value.slice ka K.length kcap).ownBlock ∨ ∀ x, (Value.slice (some ⟨g6, 0, none⟩) (K.length + 1) cap6).ownBlock = some x → w4.heap.size ≤ x := by
            rcases hat with e | e
            · exact .inl (by rw [e]; rfl)
            · exact .inr (fun x hx => by simp [Value.ownBlock] at hx; simp at e; omega)
          have HFIN := Hid.mkq (HI.out.wait HC.out hfr HM34.out hzr (RowK.snoc (w := w4) rfl hown6) hm46 hloc)
          clear hown6 hgrow hat hloc hm46
          go_wp2_with fail
          go_roundw
          case rel => exact ⟨k + 1, _, _, _, _, _, by omega, by go_num, HFIN.out⟩
          case measure => simp [intOf]; omega
      | true =>
        have HWI := Hid.mkq (with_any B (.slice ha H.length hcap) H c w4.drew ((HI.out.ky.h.mod HM34.out (fun _ _ => id)).mod ((Mod.refl noBlock w4).drew) (fun _ _ => id)) HI.out.eld (by omega) (by show B ≤ w4.heap.size; omega))
        go_upto_region 9 with fail
        go_cut [] (fun wc => ∃ w6 u, RowK w6 B u (withN H c) ∧ Mod (fun x => (Value.slice ha H.length hcap).ownBlock = some x) w4 w6 ∧ (u.ownBlock = (Value.slice ha H.length hcap).ownBlock ∨ ∀ x, u.ownBlock = some x → w4.heap.size ≤ x) ∧ wc = w6.setCell ⟨kb, 0, none⟩ u)
        case first =>
          go_region_with (first
            | (go_at_call 21; refine HWI.out.mono ?_; rintro e w6 ⟨u6, rfl, hu6, hm6, hat6⟩; have hm46 : Mod (fun x => (Value.slice ha H.length hcap).ownBlock = some x) w4 w6 := ((Mod.refl _ w4).drew).trans hm6; have d6 := hm46.cell k0 HKH4.out; have f6 := (hm46.frozen (p := ⟨kb, 0, none⟩) hkz HKH4.out).trans kf0; obtain ⟨ua6, uc6, rfl⟩ := own_slice hu6)
            | fail)
          all_goals
            have HU6 := Hid.mkq hu6
            have HA6 := Hid.mkq hat6
            have HM6 := Hid.mkq hm46
            clear hu6 hat6 hm46 hm6
            go_wp2_with fail
            go_meet
            case rel => exact ⟨w6, _, HU6.out, HM6.out, HA6.out, rfl⟩
        case rest =>
          obtain ⟨w6, u, hu6, hm46, hat6, hwc⟩ := hcut
          have hm67 : Mod (oneBlock kb) w6 wc := by rw [hwc]; exact Mod.setBlk kb 0 u
          have hgc : RowK wc B (.slice ga G.length gcap) G := ((HI.out.got.mod HM34.out (fun _ _ => id)).mod hm46 (fun x hx e => (HI.out.ga x hx).1 e)).mod hm67 (fun x hx e => by simp only [oneBlock] at e; rw [e] at hx; exact HKG4.out hx)
          have HROW := Hid.mkq hgc
          have z46 := hm46.size
          have z67 := hm67.size
          have hcn : ¬ (Value.slice ha H.length hcap).ownBlock = some wr.heap.size := fun e => by have := (own_cellsVQ HI.out.ky.h e).2.1; omega
          have hkr : wr.heap.size ≠ kb := by have := HI.out.ky.blk.lt; omega
          have t0 := (hm67.cell (hm46.cell y0 hcn) hkr)
          have t1 := (hm67.cell (hm46.cell y1 hcn) hkr)
          have hzt : wr.heap.size < wc.heap.size := by omega
          have hk63 : G.length + 1 ≤ maxLen := by unfold maxLen; omega
          have hk47 : (G.length + 1) * 16 ≤ 140737488355328 := by omega
          have hBz : B ≤ wc.heap.size := by omega
          have HU6 := Hid.mkq hu6
          have HA6 := Hid.mkq hat6
          have HM6 := Hid.mkq hm46
          have HWC := Hid.mkq hwc
          clear hu6 hm46 hat6 hwc hgc k0 k1 kf0 kf1 y0 y1 HWI hm67
          go_wp2_with (first
            | (at_builtin; refine wpList_append_own_at _ rfl (.tmp 43) (.tmp 45) 57 rfl B 61 i0 _ 2 16 Tryz.underlying57 hi hz0 hz1 hz2 rfl (by decide) _ _ _ rfl (HROW.out.alloc _) ⟨wc.heap.size, 0, none⟩ 1 1 (clmCells c) rfl rfl (World.news_of_block (heap_alloc_new wc _)) (clmCells_one c) hk63 hk47 (by simp; omega) ?_)
            | fail)
          intro v9 w9 hown9 hgrow9 _ hat9
          have hm8 : Mod noBlock wc (wc.alloc (.cells #[.int .i64 c.tx, .int .i64 c.mode] 61)) := (Mod.refl _ wc).alloc _
          have hm9 : Mod (fun x => (Value.slice ga G.length gcap).ownBlock = some x) (wc.alloc (.cells #[.int .i64 c.tx, .int .i64 c.mode] 61)) w9 := (Mod.refl _ _).grown hgrow9 (fun x hx _ => hx)
          have HFIN : Hid (PassI w w9 B kb hv held waits (k + 1) v9 u (.slice ka K.length kcap) (withN H c) K (G ++ [c])) := HI.out.gets HC.out hfr HM34.out hzr HU6.out HM6.out HA6.out (by rw [← HWC.out]; exact hm8) (RowK.snoc (w := wc) rfl hown9) hm9 (hat9.imp (fun e => e) (fun e x hx => by rw [e] at hx; simp at hx; simp; omega))
          obtain ⟨a9, cap9, hv9⟩ := own_slice hown9
          subst hv9
          clear hown9 hgrow9 hat9 hm8 hm9
          go_wp2_with fail
          go_roundw
          case rel => exact ⟨k + 1, _, _, _, _, _, by omega, by go_num, HFIN.out⟩
          case measure => simp [intOf]; omega
    · obtain rfl : k = waits.length := by omega
      have hfo := hI.fold
      rw [List.take_length, pass_fold] at hfo
      simp only [List.nil_append, Prod.mk.injEq] at hfo
      obtain ⟨e1, e2, e3⟩ := hfo
      rw [← e1, ← e2, ← e3] at hI
      obtain ⟨ga, gcap, hgv⟩ := own_slice hI.got
      subst hgv
      have HI := Hid.mkq hI
      clear hI e1 e2 e3
      go_wp2_with fail
      go_ret
      exact ⟨_, _, _, rfl, HI.out⟩
end Go.Proofs.YtkoncehhpiegfaaGreatDoor
