/- Package locks: txs, wounded, leave, with. -/
import Derived.Test.YtkoncehhpiegfaaGreatDoorQe
import Derived.Test.YtkoncehhpiegfaaGreatDoorQg
namespace Go.Proofs.YtkoncehhpiegfaaGreatDoor
open Go.RowKit Go.Lib Go.Maps
set_option linter.unusedVariables false

theorem Tryz.infoIQ : (Tryz.prog.info? 3).map (fun i => (i.zero, i.size, i.bytes)) = some (some (.int .i64 0), 1, 8) := by kernel_rfl
def intsCells (l : List Int) : List Value := l.map (Value.int .i64)
theorem intsCells_snoc (l : List Int) (x : Int) : intsCells (l ++ [x]) = intsCells l ++ [.int .i64 x] := by simp [intsCells]
/-- Numbers in a row of one's own. -/
def RowI (w : World) (B : Nat) (v : Value) (l : List Int) : Prop := w.ownsRow B 3 1 v l.length (intsCells l)
theorem RowI.mod {G : Nat → Prop} {w w' : World} {B : Nat} {v : Value} {os : List Int} (h : RowI w B v os) (hm : Mod G w w') (hG : ∀ k, v.ownBlock = some k → ¬ G k) : RowI w' B v os := own_mod h hm (fun k _ _ e => hG k e)
set_option maxRecDepth 100000 in
set_option maxHeartbeats 2000000 in
theorem txs_any (L : Nat) (v : Value) (l : List ClmD) (w : World) (hv : ClmsV w L v l) (hl : l.length ≤ 1000) :
    Calls Tryz.prog 32 #[v] w fun e w' => ∃ u, e = .returned u ∧ RowI w' w.heap.size u (l.map (·.tx)) ∧ Mod noBlock w w' := by
  obtain ⟨j0, hj, jz0, jz1, jz2⟩ := info_parts Tryz.infoIQ
  have HV := Hid.mkq hv
  obtain ⟨a, cap, rfl, hc1, hc2⟩ := SlR.slice hv
  unfold maxLen at hc2
  clear hv
  have HR0 : Hid (RowI w w.heap.size (.slice none 0 0) []) := World.ownsRow_nil _ _ _ _
  go_enter Tryz.func32, Tryz.ntmps32
  go_wp2_with fail
  go_loopw [3, 8] (fun u i wr => ∃ k : Nat, k ≤ l.length ∧ i = .int .i64 k ∧ RowI wr w.heap.size u ((l.take k).map (·.tx)) ∧ Mod noBlock w wr) (fun _ i _ => l.length - (intOf i).toNat)
  case atStart => exact ⟨0, Nat.zero_le _, rfl, by simpa using HR0.out, Mod.refl _ _⟩
  case round =>
    rename_i u _
    obtain ⟨k, hk, rfl, hrow, hM⟩ := hrel
    obtain ⟨ua, ucap, rfl⟩ := own_slice hrow
    have HM := Hid.mkq hM
    have HROW := Hid.mkq hrow
    clear hrow hM HR0
    by_cases hlt : k < l.length
    · obtain ⟨d, hd⟩ : ∃ d, l[k]? = some d := ⟨_, List.getElem?_eq_getElem hlt⟩
      obtain ⟨b, off, rfl, _, q0, q1⟩ := HV.out.at hd
      have p0 := HM.out.cell q0 id
      have p1 := HM.out.cell q1 id
      have htk : (l.take (k + 1)).map (·.tx) = (l.take k).map (·.tx) ++ [d.tx] := by rw [take_snocQ hd, List.map_append]; rfl
      have HTK := Hid.mkq htk
      obtain ⟨w3, hw3⟩ : ∃ q, q = wr.alloc (.cells #[.int .i64 d.tx, .int .i64 d.mode] 61) := ⟨_, rfl⟩
      have hm3 : Mod noBlock wr w3 := by rw [hw3]; exact (Mod.refl _ wr).alloc _
      have hb3 : Blk w3 wr.heap.size (clmCells d) 61 := by rw [hw3]; exact Blk.new wr (clmCells d) 61
      have r0 := hb3.cell 0 rfl
      have HROW3 : Hid (w3.ownsRow w.heap.size 3 1 (.slice ua (List.map (·.tx) (l.take k)).length ucap) (List.map (·.tx) (l.take k)).length (intsCells ((l.take k).map (·.tx)))) := HROW.out.mod hm3 (fun _ _ => id)
      have HM3 := Hid.mkq (HM.out.trans hm3)
      have hlk : (List.map (·.tx) (l.take k)).length = k := by simp; omega
      rw [hlk] at HROW3
      have hk63 : k + 1 ≤ maxLen := by unfold maxLen; omega
      have hk47 : (k + 1) * 8 ≤ 140737488355328 := by omega
      have hz3 := HM3.out.size
      have hltI : (k : Int) < (l.length : Int) := by omega
      have hlt0 : (0 : Int) ≤ (k : Int) := by omega
      rw [hlk]
      have HLK := Hid.mkq hlk
      clear hd q0 q1 htk hb3 hm3 hlk
      go_upto_region 5 with fail
      rw [← hw3]
      clear hw3 p0 p1
      go_wp2_with (first
        | (at_builtin; refine wpList_append_own_at _ rfl (.tmp 12) (.tmp 15) 32 rfl w.heap.size 3 j0 _ 1 8 Tryz.underlying32 hj jz0 jz1 jz2 rfl (by decide) _ _ _ rfl (HROW3.out.alloc _) ⟨w3.heap.size, 0, none⟩ 1 1 [.int .i64 d.tx] rfl rfl (World.news_of_block (heap_alloc_new w3 _)) (by simp [Value.oneCell']) hk63 hk47 (by simp; omega) ?_)
        | fail)
      intro v7 w7 hown7 hgrow7 _ hat7
      have hm7 : Mod noBlock w w7 := (HM3.out.alloc _).grown hgrow7 (fun y hy hlt => by have := (own_cellsVQ HROW3.out hy).1; omega)
      obtain ⟨a7, cap7, hv7⟩ := own_slice hown7
      subst hv7
      have HW7 := Hid.mkq hown7
      have HM7 := Hid.mkq hm7
      clear hown7 hgrow7 hat7 hm7
      go_wp2_with fail
      go_roundw
      case rel =>
        refine ⟨k + 1, by omega, by go_num, ?_, HM7.out⟩
        rw [HTK.out]
        unfold RowI
        rw [intsCells_snoc, List.length_append, HLK.out, List.map_take]
        exact HW7.out
      case measure => simp [intOf]; omega
    · obtain rfl : k = l.length := by omega
      have HROWL : Hid (RowI wr w.heap.size (.slice ua l.length ucap) (l.map (·.tx))) := by
        have h := HROW.out
        rw [Hid]
        unfold RowI at h ⊢
        rw [List.take_length, List.length_map] at h
        rw [List.length_map]
        exact h
      clear HROW
      rw [show (List.map (fun x : ClmD => x.tx) (l.take l.length)).length = l.length by simp]
      go_wp2_with fail
      go_ret
      exact ⟨_, rfl, HROWL.out, HM.out⟩
set_option maxRecDepth 100000 in
set_option maxHeartbeats 2000000 in
theorem cloneR_any (B : Nat) (v : Value) (l : List ClmD) (w : World) (hR : RowK w B v l) (hl : l.length ≤ 1000) :
    Calls Tryz.prog 42 #[v] w fun e w' => ∃ u, e = .returned u ∧ RowK w' w.heap.size u l ∧ Mod noBlock w w' := by
  rcases hR.2 with ⟨rfl, h0⟩ | ⟨g, cap, cur, rfl, q1, q2, q3, q4, q5, q6⟩
  · have hln : l = [] := List.eq_nil_of_length_eq_zero h0
    subst hln
    have hen : (binOp .eql 57 (.slice none 0 0) (.slice none 0 0)).run Tryz.prog w = .ok (.bool true) w := by kernel_rfl
    have HR0 : Hid (RowK w w.heap.size (.slice none 0 0) []) := World.ownsRow_nil _ _ _ _
    clear hR
    go_enter Tryz.func42, Tryz.ntmps42
    go_wp2_with fail
    go_ret
    exact ⟨_, rfl, HR0.out, Mod.refl _ _⟩
  · refine (cloneQ_any ⟨g, 0, none⟩ l.length cap l w rfl (fun j u hu => hR.cells (g := g) rfl j u hu) hl).mono ?_
    rintro e w' ⟨g', cap', rfl, hrow, hm⟩
    exact ⟨_, rfl, hrow, hm⟩
set_option maxRecDepth 100000 in
set_option maxHeartbeats 2000000 in
theorem wounded_any (B kb : Nat) (hv wv : Value) (held : List ClmD) (c : ClmD) (w : World) (hk : Blk w kb [hv, wv] 59) (hh : RowK w B hv held) (h1 : held.length ≤ 1000) :
    Calls Tryz.prog 23 #[.pointer (some ⟨kb, 0, none⟩), .agg #[.int .i64 c.tx, .int .i64 c.mode]] w fun e w' => ∃ u, e = .returned u ∧ RowI w' w.heap.size u (woundN held c) ∧ Mod noBlock w w' := by
  have hmf : ∀ fn first cap w, (Instr.makeFunc fn first cap).run Tryz.prog w = .ok (.func fn first cap) w := fun _ _ _ _ => rfl
  obtain ⟨w1, hw1⟩ : ∃ q, q = w.alloc (.cells #[.int .i64 c.tx, .int .i64 c.mode] 61) := ⟨_, rfl⟩
  have hm1 : Mod noBlock w w1 := by rw [hw1]; exact (Mod.refl _ w).alloc _
  have hb1 : Blk w1 w.heap.size (clmCells c) 61 := by rw [hw1]; exact Blk.new w (clmCells c) 61
  have HC := Hid.mkq (cloneR_any B hv held w1 (hh.mod hm1 (fun _ _ => id)) h1)
  have HK := Hid.mkq (hk.mod hm1 id)
  have HM1 := Hid.mkq hm1
  have HB1 := Hid.mkq hb1
  obtain ⟨ha, hcap, rfl⟩ := own_slice hh
  have c0 := HK.out.cell 0 rfl
  have hkl := hk.lt
  clear hm1 hb1 hk hh
  go_enter Tryz.func23, Tryz.ntmps23
  go_upto_region 1 with fail
  rw [← hw1]
  have HW1S : Hid (w1.heap.size = w.heap.size + 1) := by rw [hw1, Hid]; simp
  clear hw1
  go_wp2_with fail
  refine HC.out.mono ?_
  rintro e w2 ⟨u, rfl, hru, hm2⟩
  have hb2 := HB1.out.mod hm2 id
  have HDEL := Hid.mkq (deleteQ_any 40 w.heap.size w1.heap.size (sparedB c) u held w2 hru (ask_wounded hb2) hb2.lt (fun e => by have := (own_cellsVQ hru e).1; have := HW1S.out; omega) h1)
  have HM2 := Hid.mkq (HM1.out.trans hm2)
  have HRU : Hid (∀ b, u.ownBlock = some b → w1.heap.size ≤ b) := fun b hb => (own_cellsVQ hru hb).1
  obtain ⟨ua, ucap, rfl⟩ := own_slice hru
  clear hru hm2 hb2 c0 HC HK HB1
  go_wp2_with fail
  refine HDEL.out.mono ?_
  rintro e w3 ⟨u3, rfl, hr3, ho3, hm3⟩
  have hlk : (keepQ (sparedB c) held).length ≤ 1000 := Nat.le_trans (List.length_filter_le _ _) h1
  have HT := Hid.mkq (txs_any w3.heap.size u3 (keepQ (sparedB c) held) w3 (hr3.toV (Nat.le_refl _)) hlk)
  have HM3 : Hid (Mod noBlock w w3) := HM2.out.trans' hm3 (fun i hi e => by have := HRU.out i e; have := HW1S.out; omega)
  obtain ⟨u3a, u3cap, rfl⟩ := own_slice hr3
  clear hr3 hm3 ho3 HDEL
  go_wp2_with fail
  refine HT.out.mono ?_
  rintro e w4 ⟨u4, rfl, hr4, hm4⟩
  have hr4' := own_base hr4 HM3.out.size
  obtain ⟨u4a, u4cap, rfl⟩ := own_slice hr4
  have HR4 : Hid (RowI w4 w.heap.size (.slice u4a (keepQ (sparedB c) held).length u4cap) (woundN held c)) := by
    rw [Hid]
    unfold RowI woundN
    rw [List.length_map] at hr4' ⊢
    exact hr4'
  clear hr4 hr4'
  go_wp2_with fail
  go_ret
  exact ⟨_, rfl, HR4.out, HM3.out.trans hm4⟩
end Go.Proofs.YtkoncehhpiegfaaGreatDoor
