/- The law's world: a node is told the configuration. -/
import Derived.Test.YtefhgakcffhgaabWb
namespace Go.Proofs.Ytefhgakcffhgaab
open Go.RowKit Go.Lib Go.Maps
set_option linter.unusedVariables false

/-- What a node tells is sent. -/
theorem WorldP.sent {w1 : World} {L g : Nat} {V : Vals} {W : WS} {n : Nat} {B : Int} (h : WorldP w1 L g V W) (hlo : W.net.lost ≤ B) {ms : List MsgD} (hB : B + ms.length ≤ 1099511627776) {v : Value} (hr : RowM w1 L v ms) (hf : ∀ k, v.ownBlock = some k → ¬ worldMay g V k) :
    Calls Try.prog 12 #[.pointer (some ⟨g, 1, none⟩), v] w1 fun e w' => ∃ x V', e = .returned (.int .i64 x) ∧ WorldP w' L g V' (wnet W (sends W.net ms)) ∧ Mod (worldMay g V) w1 w' ∧ Grew w1 g V V' := by
  have hk : ∀ k, v.ownBlock = some k → k < w1.heap.size := fun k hk => by
    obtain ⟨us, _, h2, _⟩ := hr
    exact (kind_row h2 hk).2.2
  refine (send_any L g V.wv V.mr W.net (fun k => v.ownBlock = some k) v ms w1 h.net hr.toV (fun k hk' => ⟨hk k hk', fun e => hf k hk' (.inl e)⟩) (by omega)).mono ?_
  rintro e w' ⟨wv', rfl, hN, hMv, hM⟩
  obtain ⟨R1, R2, R3⟩ := h.nets hN hM hMv (.inl rfl)
  exact ⟨_, _, rfl, R1, R2, R3⟩
theorem fresh_off {w : World} {L g : Nat} {V : Vals} {W : WS} (h : WorldP w L g V W) {v : Value} (hf : freshV w v) : ∀ k, v.ownBlock = some k → ¬ worldMay g V k := fun k hk e => by
  have := hf k hk; have := (h.may e).2; omega
/-- A node was turned, and what it tells lies in a new row: it is not of the world. -/
theorem turn_off {w w1 : World} {L g : Nat} {V V1 : Vals} {W : WS} (h : WorldP w L g V W) (hG : Grew w g V V1) {v : Value} (hf : freshV w v) (hnot : ∀ k, v.ownBlock = some k → ∀ i, i < 5 → ¬ V1.at i k) (hV : V1.nodesv = V.nodesv ∧ V1.dv = V.dv ∧ V1.ev = V.ev ∧ V1.cv = V.cv ∧ V1.sv = V.sv ∧ V1.wv = V.wv ∧ V1.mr = V.mr) : ∀ k, v.ownBlock = some k → ¬ worldMay g V1 k := fun k hk e => by
  have hlt := hf k hk
  obtain ⟨e1, e2, e3, e4, e5, e6, e7⟩ := hV
  have lt : worldMay g V k → False := fun e => by have := (h.may e).2; omega
  rcases e with e | ⟨i, hi, e⟩ | e | e | e | e | e
  · rw [e6, e7] at e; exact lt (.inl e)
  · exact hnot k hk i hi e
  · rw [e1] at e; exact lt (.inr (.inr (.inl e)))
  · rw [e2] at e; exact lt (.inr (.inr (.inr (.inl e))))
  · rw [e3] at e; exact lt (.inr (.inr (.inr (.inr (.inl e)))))
  · rw [e4] at e; exact lt (.inr (.inr (.inr (.inr (.inr (.inl e))))))
  · rw [e5] at e; exact lt (.inr (.inr (.inr (.inr (.inr (.inr e))))))
/-- Messages lie in no block of a node. -/
theorem msgs_off {w : World} {L g : Nat} {V : Vals} {W : WS} (h : WorldP w L g V W) {v : Value} {ms : List MsgD} (hr : RowM w L v ms) : ∀ k, v.ownBlock = some k → ∀ i, i < 5 → ¬ V.at i k := fun k hk i hi e => by
  obtain ⟨us, _, h2, _⟩ := hr
  have h3 := (kind_row h2 hk).1
  rcases (h.node i hi).kind e with e | e | e
  · exact kind_ne h3 e (by decide)
  · exact kind_ne h3 e (by decide)
  · exact kind_ne h3 e (by decide)
theorem dupB_no : ∀ (l seen : List Int), l.Nodup → (∀ x ∈ l, x ∉ seen) → dupB seen l = false
  | [], _, _, _ => rfl
  | x :: l, seen, hd, hs => by
    rw [List.nodup_cons] at hd
    unfold dupB
    have h1 : x ∉ seen := hs x (by simp)
    have h2 := dupB_no l (seen ++ [x]) hd.2 (fun y hy => by
      simp only [List.mem_append, List.mem_singleton, not_or]
      exact ⟨hs y (by simp [hy]), fun e => hd.1 (e ▸ hy)⟩)
    simp [h1, h2]
set_option maxRecDepth 100000 in
set_option maxHeartbeats 2000000 in
theorem wbec_raw (L g i : Nat) (V : Vals) (W : WS) (w : World) (h : WorldP w L g V W) (hI : W.conf.Nodup ∧ (∀ x ∈ W.conf, small x) ∧ 1 ≤ W.conf.length ∧ W.conf.length ≤ 5 ∧ 1 ≤ W.epoch ∧ W.epoch ≤ 10000) (hi : i < 5) (hB : W.net.lost + 1 ≤ 1099511627776) :
    Calls Try.prog 11 #[.pointer (some ⟨g, 0, none⟩), .int .i64 i] w fun e w' => e = .returned (.tuple #[]) ∧ ∃ V', WorldP w' L g V' (wbec W i) ∧ Mod (worldMay g V) w w' ∧ Grew w g V V' := by
  obtain ⟨bn, nc, c0, zn, hn1, hn2, cn⟩ := h.nodeAt
  obtain ⟨bd, dc, c4, zd, hd1, hd2, cd⟩ := h.downAt
  have q1 := cn i hi
  have q2 := cd i hi
  obtain ⟨_, _, _, _, c6, c7, _⟩ := h.cells
  obtain ⟨ca, ccap, hcv⟩ := own_slice h.crow
  rw [hcv] at c7
  have zg := h.net.blk.lt
  have hltI : (i : Int) < 5 := by omega
  have hlt0 : (0 : Int) ≤ (i : Int) := by omega
  unfold maxLen at hn2 hd2
  have HH := Hid.mk' h
  clear cn cd
  cases hdn : W.down i with
  | true =>
    rw [hdn] at q2
    have HW : Hid (wbec W i = W) := by rw [Hid, wbec, if_pos hdn]
    clear h hI
    go_enter Try.func11, Try.ntmps11
    go_wp2_with fail
    refine bodyPost_ret (results_none rfl _ _ _) rfl ?_
    exact ⟨rfl, V, by rw [HW.out]; exact HH.out, Mod.refl _ _, Grew.refl _ _ _⟩
  | false =>
    rw [hdn] at q2
    by_cases hle : W.epoch ≤ (W.node i).epoch
    · have HW : Hid (wbec W i = W) := by rw [Hid, wbec, if_neg (by simp [hdn]), if_pos hle]
      have HO := Hid.mk' (cbec_order L (V.b i) (V.nv i) (V.lv i) (W.node i) W.epoch ca W.conf.length ccap w.drew ((h.node i hi).drewN 1) hle)
      clear h hI hle
      go_enter Try.func11, Try.ntmps11
      go_wp2_with fail
      go_region_with (first
        | (go_at_call 31; refine HO.out.mono ?_; rintro e w5 ⟨rfl, hm5⟩)
        | fail)
      all_goals
        have hm6 : Mod noBlock w w5 := ((Mod.refl noBlock w).drew).trans hm5
        go_wp2_with fail
        go_end0
        exact ⟨rfl, V, by rw [HW.out]; exact HH.out.quiet hm6, hm6.mono (fun _ _ e => e.elim), Grew.refl _ _ _⟩
    · have HW : Hid (wbec W i = wnode W i (tickN (becN (W.node i) W.epoch W.conf))) := by rw [Hid, wbec, if_neg (by simp [hdn]), if_neg hle]
      obtain ⟨hnd, hsm, hc6, hcl, hep1, hep2⟩ := hI
      have hIV : IntsV w.drew (.slice ca W.conf.length ccap) W.conf := by have := IntsV.of_own h.crow; rw [hcv] at this; exact this
      have HO := Hid.mk' (cbec_yes L (V.b i) (V.nv i) (V.lv i) (W.node i) W.epoch (.slice ca W.conf.length ccap) W.conf w.drew ((h.node i hi).drewN 1) hle (by unfold int64; omega) hIV (fun x hx => by have := hsm x hx; unfold small at this; unfold int64; omega) hc6 (by omega) (dupB_no _ _ hnd (by simp)))
      clear h hle hep1 hep2 hc6 hIV hcl hnd hsm
      go_enter Try.func11, Try.ntmps11
      go_wp2_with fail
      go_region_with (first
        | (go_at_call 31; refine HO.out.mono ?_; rintro e w5 ⟨r5, nv5, lv5, rfl, hN5, hR5, hf5, hnv5, hlv5, hm5⟩)
        | fail)
      all_goals
        have hm6 : Mod (V.at i) w w5 := ((Mod.refl (V.at i) w).drew).trans (hm5.mono (fun k _ e => .inl e))
        have T := HH.out.turn hi hN5 hm6 (.inr hnv5) hlv5
        obtain ⟨T1, T2, T3⟩ := T
        have hS := T1.sent (n := 0) (B := W.net.lost) (Int.le_refl _) (ms := (tickN (becN (W.node i) W.epoch W.conf)).2) (by have := tick_len (becN (W.node i) W.epoch W.conf); omega) hR5 (turn_off (w1 := w5) HH.out T3 hf5 (msgs_off T1 hR5) ⟨rfl, rfl, rfl, rfl, rfl, rfl, rfl⟩)
        obtain ⟨ra, rcap, hr5⟩ := hR5.slice
        subst hr5
        have HS := Hid.mk' hS
        have HT2 := Hid.mk' T2
        have HT3 := Hid.mk' T3
        clear hS T1 T2 T3 hN5 hR5 hf5 hnv5 hlv5 hm5 hm6 HO
        go_wp2_with fail
        refine HS.out.mono ?_
        rintro e w7 ⟨x7, V7, rfl, hW7, hm7, hg7⟩
        go_wp2_with fail
        go_end0
        exact ⟨rfl, V7, by rw [HW.out]; exact hW7, HT2.out.world HT3.out hm7, HT3.out.trans hg7 HT2.out.size⟩
theorem wbec_any (L g i n : Nat) (B : Int) (V : Vals) (W : WS) (w : World) (h : WorldP w L g V W) (hI : Inv W n B) (hi : i < 5) (hn : n ≤ 1000) (hB : B + 1 ≤ 1099511627776) :
    Calls Try.prog 11 #[.pointer (some ⟨g, 0, none⟩), .int .i64 i] w fun e w' => e = .returned (.tuple #[]) ∧ ∃ V', WorldP w' L g V' (wbec W i) ∧ Mod (worldMay g V) w w' ∧ Grew w g V V' := by
  have hep := hI.ep
  have hlo := hI.lo
  exact wbec_raw L g i V W w h ⟨hI.nodup, fun x hx => (hI.conf x hx).1, List.length_pos_iff.2 hI.some_, conf_len hI, hep.1, by omega⟩ hi (by omega)
end Go.Proofs.Ytefhgakcffhgaab
