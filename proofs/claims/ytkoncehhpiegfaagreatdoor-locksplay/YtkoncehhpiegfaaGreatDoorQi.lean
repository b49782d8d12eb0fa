/- Package locks: a key in memory; leave, with. -/
import Derived.Test.YtkoncehhpiegfaaGreatDoorQh
namespace Go.Proofs.YtkoncehhpiegfaaGreatDoor
open Go.RowKit Go.Lib Go.Maps
set_option linter.unusedVariables false

/-- A key in memory: its block, and both rows. -/
structure KyP (w : World) (B kb : Nat) (hv wv : Value) (held waits : List ClmD) : Prop where
  blk : Blk w kb [hv, wv] 59
  h : RowK w B hv held
  w : RowK w B wv waits
  ne : ∀ x, hv.ownBlock = some x → wv.ownBlock ≠ some x
theorem row_key {w : World} {B kb : Nat} {v : Value} {cs : List Value} {l : List ClmD} (hb : Blk w kb cs 59) (hr : RowK w B v l) : v.ownBlock ≠ some kb := fun e => by
  obtain ⟨_, _, cur, hc⟩ := own_cellsVQ hr e
  unfold Blk at hb
  rw [hc] at hb
  simp at hb
set_option maxRecDepth 100000 in
set_option maxHeartbeats 2000000 in
theorem leave_any (B kb : Nat) (hv wv : Value) (held waits : List ClmD) (t : Int) (w : World) (hk : KyP w B kb hv wv held waits) (h1 : held.length ≤ 1000) (h2 : waits.length ≤ 1000) :
    Calls Tryz.prog 27 #[.pointer (some ⟨kb, 0, none⟩), .int .i64 t] w fun e w' => e = .returned (.tuple #[]) ∧ ∃ hv' wv', KyP w' B kb hv' wv' (leaveN held t) (leaveN waits t) ∧ hv'.ownBlock = hv.ownBlock ∧ wv'.ownBlock = wv.ownBlock ∧ Mod (fun x => x = kb ∨ hv.ownBlock = some x ∨ wv.ownBlock = some x) w w' := by
  have hmf : ∀ fn first cap w, (Instr.makeFunc fn first cap).run Tryz.prog w = .ok (.func fn first cap) w := fun _ _ _ _ => rfl
  obtain ⟨w1, hw1⟩ : ∃ q, q = w.alloc (.cells #[.int .i64 t] 3) := ⟨_, rfl⟩
  have hm1 : Mod noBlock w w1 := by rw [hw1]; exact (Mod.refl _ w).alloc _
  have hb1 : Blk w1 w.heap.size [.int .i64 t] 3 := by rw [hw1]; exact Blk.new w [.int .i64 t] 3
  have hkb1 := hk.blk.mod hm1 id
  have hh1 := hk.h.mod hm1 (fun _ _ => id)
  have hwv1 := hk.w.mod hm1 (fun _ _ => id)
  have hqv : hv.ownBlock ≠ some w.heap.size := fun e => by have := (own_cellsVQ hk.h e).2.1; omega
  have hqw : wv.ownBlock ≠ some w.heap.size := fun e => by have := (own_cellsVQ hk.w e).2.1; omega
  have hkv : hv.ownBlock ≠ some kb := row_key hk.blk hk.h
  have hkw : wv.ownBlock ≠ some kb := row_key hk.blk hk.w
  have hkq : kb ≠ w.heap.size := by have := hk.blk.lt; omega
  have HD1 := Hid.mkq (deleteQ_any 45 w.heap.size B (fun c => decide (c.tx = t)) hv held w1 hh1 (ask_leave hb1) hb1.lt hqv h1)
  have HD2 : Hid (∀ w2 : World, Mod (fun x => hv.ownBlock = some x ∨ x = kb) w1 w2 → Calls Tryz.prog 41 #[wv, .func (.func 45) #[] #[.pointer (some ⟨w.heap.size, 0, none⟩)]] w2 fun e w' => ∃ v', e = .returned v' ∧ RowK w' B v' (leaveN waits t) ∧ v'.ownBlock = wv.ownBlock ∧ Mod (fun x => wv.ownBlock = some x) w2 w') := fun w2 hm2 => by
    have hb2 := hb1.mod hm2 (fun e => e.elim hqv (fun e => hkq e.symm))
    exact deleteQ_any 45 w.heap.size B (fun c => decide (c.tx = t)) wv waits w2 (hwv1.mod hm2 (fun x hx e => e.elim (fun e => hk.ne x e hx) (fun e => hkw (by rw [← e]; exact hx)))) (ask_leave hb2) hb2.lt hqw h2
  have HKY := Hid.mkq hk
  have HKB := Hid.mkq hkb1
  have HM1 := Hid.mkq hm1
  obtain ⟨ha, hcap, rfl⟩ := own_slice hk.h
  obtain ⟨wa, wcap, rfl⟩ := own_slice hk.w
  have c0 := hkb1.cell 0 rfl
  have hkl := hkb1.lt
  have hfz := hkb1.frozen 0
  clear hm1 hb1 hkb1 hh1 hwv1 hk
  go_enter Tryz.func27, Tryz.ntmps27
  go_upto_region 1 with fail
  rw [← hw1]
  clear hw1
  go_wp2_with fail
  refine HD1.out.mono ?_
  rintro e w2 ⟨u, rfl, hru, hou, hm2⟩
  have hb2 := HKB.out.mod hm2 hkv
  have hb3 := hb2.set 0 u
  obtain ⟨w3, hw3⟩ : ∃ q, q = w2.setCell ⟨kb, 0, none⟩ u := ⟨_, rfl⟩
  rw [← hw3] at hb3
  have hm3 : Mod (oneBlock kb) w2 w3 := by rw [hw3]; exact Mod.setBlk kb 0 u
  have hm13 : Mod (fun x => (Value.slice ha held.length hcap).ownBlock = some x ∨ x = kb) w1 w3 := (hm2.mono (fun _ _ e => .inl e)).trans (hm3.mono (fun _ _ e => .inr e))
  have HD := Hid.mkq (HD2.out w3 hm13)
  have HB3 : Hid (Blk w3 kb [u, .slice wa waits.length wcap] 59) := hb3
  have HRU : Hid (RowK w3 B u (leaveN held t)) := hru.mod hm3 (fun x hx e => by simp only [oneBlock] at e; rw [e, hou] at hx; exact hkv hx)
  have HOU := Hid.mkq hou
  have HM13 := Hid.mkq hm13
  have hf2 := hb2.frozen 0
  have d0 := hb2.cell 0 rfl
  have hkl2 := hb2.lt
  obtain ⟨ua, ucap, hu⟩ := own_slice hru
  subst hu
  clear hm2 hb2 hb3 hru hou HD1 HD2 c0 hm3 hm13 hfz
  go_upto_region 3 with fail
  rw [← hw3]
  clear hw3 d0 hf2 hkl2
  have c1 := HB3.out.cell 1 rfl
  have hkl3 := HB3.out.lt
  go_wp2_with fail
  refine HD.out.mono ?_
  rintro e w4 ⟨v4, rfl, hr4, ho4, hm4⟩
  have hb4 := HB3.out.mod hm4 hkw
  have hf4 := hb4.frozen 1
  have d1 := hb4.cell 1 rfl
  have hkl4 := hb4.lt
  have hb5 := hb4.set 1 v4
  have hm5 : Mod (oneBlock kb) w4 (w4.setCell ⟨kb, 1, none⟩ v4) := Mod.setBlk kb 1 v4
  have HFIN : Hid (∃ hv' wv', KyP (w4.setCell ⟨kb, 1, none⟩ v4) B kb hv' wv' (leaveN held t) (leaveN waits t) ∧ hv'.ownBlock = (Value.slice ha held.length hcap).ownBlock ∧ wv'.ownBlock = (Value.slice wa waits.length wcap).ownBlock ∧ Mod (fun x => x = kb ∨ (Value.slice ha held.length hcap).ownBlock = some x ∨ (Value.slice wa waits.length wcap).ownBlock = some x) w (w4.setCell ⟨kb, 1, none⟩ v4)) := by
    refine ⟨_, v4, ⟨hb5, ?_, ?_, ?_⟩, HOU.out, ho4, ?_⟩
    · refine (HRU.out.mod hm4 (fun x hx e => ?_)).mod hm5 (fun x hx e => ?_)
      · rw [HOU.out] at hx; exact HKY.out.ne x hx e
      · simp only [oneBlock] at e; rw [e, HOU.out] at hx; exact hkv hx
    · exact hr4.mod hm5 (fun x hx e => by simp only [oneBlock] at e; rw [e, ho4] at hx; exact hkw hx)
    · intro x hx
      rw [HOU.out] at hx
      rw [ho4]
      exact HKY.out.ne x hx
    · refine ((HM1.out.mono (fun _ _ e => e.elim)).trans (HM13.out.mono (fun x _ e => e.elim (fun e => .inr (.inl e)) .inl))).trans ((hm4.mono (fun x _ e => .inr (.inr e))).trans (hm5.mono (fun x _ e => .inl e)))
  obtain ⟨va, vcap, hv4⟩ := own_slice hr4
  subst hv4
  clear hr4 ho4 hm4 hb4 hb5 hm5 HD
  go_wp2_with fail
  first
    | go_end0
    | refine bodyPost_normal (results_none rfl _ _ _) ?_
  exact ⟨rfl, HFIN.out⟩
end Go.Proofs.YtkoncehhpiegfaaGreatDoor
