/- Package locks: Keys; both tables side by side in memory. -/
import Derived.Test.YtkoncehhpiegfaaGreatDoorUg
namespace Go.Proofs.YtkoncehhpiegfaaGreatDoor
open Go.RowKit Go.Lib Go.Maps
set_option linter.unusedVariables false

set_option maxRecDepth 100000 in
set_option maxHeartbeats 1000000 in
theorem keys1_any {B N : Nat} {q : TbM} {s : Tab} {w : World} : AskK 31 #[] (fun _ => true) B N q s w := by
  refine ⟨enterQ Tryz.func31 (by kernel_rfl) rfl, fun k wr hk hT hm => ?_⟩
  show Calls Tryz.prog 31 #[.agg #[q.hd k true, q.hd k false]] wr _
  obtain ⟨ha, hcap, hhv⟩ := own_slice (hT.rows k true hk id)
  obtain ⟨wa, wcap, hwv⟩ := own_slice (hT.rows k false hk id)
  rw [hhv, hwv]
  have HM1 : Hid (Mod noBlock wr (wr.alloc (.cells #[.slice ha (s k).held.length hcap, .slice wa (s k).waits.length wcap] 59))) := (Mod.refl _ wr).alloc _
  clear hT hm hhv hwv
  go_enter Tryz.func31, Tryz.ntmps31
  go_wp2_with fail
  go_ret
  exact ⟨rfl, HM1.out⟩
set_option maxRecDepth 100000 in
set_option maxHeartbeats 1000000 in
theorem keys_any (B N : Nat) (q : TbM) (s : Tab) (w : World) (h : TbP w B N q s) (hqn : q.n ≤ 1000000) :
    Calls Tryz.prog 11 #[.pointer (some ⟨q.b, q.pre.length, none⟩)] w (NamedP w s (fun _ => true) q.n) := by
  have HN := Hid.mkq (named_any 31 #[] (fun _ => true) B N q s w h keys1_any hqn)
  clear h
  go_enter Tryz.func11, Tryz.ntmps11
  go_wp2_with fail
  refine HN.out.mono ?_
  rintro e w2 ⟨v, ks, rfl, hk, hs, hv, hl, hm⟩
  obtain ⟨a, cap, rfl, h1, h2⟩ := SlR.slice hk
  have HK := Hid.mkq hk
  clear hk
  go_wp2_with fail
  go_ret
  exact ⟨_, ks, rfl, HK.out, hs, hv, hl, hm⟩
theorem TabP.keys {W w : World} {tb N n : Nat} {s : Tab} (h : TabP W w tb N n s) (hqn : n ≤ 1000000) :
    Calls Tryz.prog 11 #[.pointer (some ⟨tb, 0, none⟩)] w (NamedP w s (fun _ => true) n) := by
  obtain ⟨q, h1, h2, h3, h4, h5, h6, h7⟩ := h
  have hc := keys_any W.heap.size N q s w h1 (by omega)
  rw [h2, h3] at hc
  refine Calls.mono hc ?_
  rintro e w' ⟨v, ks, k1, k2, k3, k4, k5, k6⟩
  exact ⟨v, ks, k1, k2, k3, k4, Nat.le_trans k5 h6, k6⟩
/-- The document's table stays while the program's turns. -/
theorem Stays.asks {a b : World} {tb B : Nat} {u : Value} {l : List AskD} (h : Stays a b tb) (hr : RowA a B u l) (hB : tb < B) : RowA b B u l := by
  refine ⟨⟨hr.1.1, ?_⟩, hr.2⟩
  rcases hr.1.2 with hn | ⟨g, cap, cur, rfl, h1, h2, rest⟩
  · exact .inl hn
  · have hb : Blk a g cur.toList 37 := by simpa [Blk] using h2
    have := h g _ _ hb (by omega) (by decide)
    exact .inr ⟨g, cap, cur, rfl, h1, by simpa [Blk] using this, rest⟩
theorem RtP.stays {a c : World} {tb B b : Nat} {hv wv : Value} {r : RefT} (hr : RtP a B b hv wv r) (h : Stays a c tb) (hB : tb < B) (hb : b ≠ tb) : RtP c B b hv wv r :=
  ⟨h b _ _ hr.blk hb (by decide), h.asks hr.h hB, h.asks hr.w hB, hr.ne⟩
/-- The program's table stays while the document's turns. -/
theorem TabP.doc {W w w' : World} {tb N n B b : Nat} {s : Tab} {hv wv : Value} {r : RefT} (h : TabP W w tb N n s) (hr : RtP w B b hv wv r) (hB : W.heap.size ≤ B) (hb : W.heap.size ≤ b) (ht : tb < W.heap.size) (hm : Mod (fun y => y = b ∨ hv.ownBlock = some y ∨ wv.ownBlock = some y) w w') : TabP W w' tb N n s := by
  obtain ⟨q, h1, h2, h3, h4, h5, h6, h7⟩ := h
  have hlow : ∀ y, (y = b ∨ hv.ownBlock = some y ∨ wv.ownBlock = some y) → W.heap.size ≤ y := fun y e => by
    rcases e with e | e | e
    · omega
    · have := (own_cellsVQ hr.h.1 e).1; omega
    · have := (own_cellsVQ hr.w.1 e).1; omega
  have hkind : ∀ y, (y = b ∨ hv.ownBlock = some y ∨ wv.ownBlock = some y) → ∃ cs ty, Blk w y cs ty ∧ ty ≠ 61 := fun y e => by
    rcases e with e | e | e
    · subst e; exact ⟨_, _, hr.blk, by decide⟩
    · obtain ⟨_, _, cur, hc⟩ := own_cellsVQ hr.h.1 e
      exact ⟨cur.toList, 37, by unfold Blk; rw [hc], by decide⟩
    · obtain ⟨_, _, cur, hc⟩ := own_cellsVQ hr.w.1 e
      exact ⟨cur.toList, 37, by unfold Blk; rw [hc], by decide⟩
  refine ⟨q, h1.mod hm (fun e => by have := hlow _ e; omega) (fun x hx e => ?_), h2, h3, h4, h5, h6, h7.trans' hm (fun y hy e => by have := hlow y e; omega)⟩
  obtain ⟨cs, ty, hbk, hty⟩ := hkind x e
  rcases hx with hx | ⟨k, i, hk, hx⟩
  · obtain ⟨_, D, ⟨es, clock, k1, _⟩, _⟩ := h1.map.get hx
    unfold Blk at hbk
    rw [hbk] at k1
    cases k1
  · obtain ⟨_, _, cur, k1⟩ := h1.old hk id hx
    unfold Blk at hbk
    rw [hbk] at k1
    simp at k1
    exact hty k1.2
end Go.Proofs.YtkoncehhpiegfaaGreatDoor
