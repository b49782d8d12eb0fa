/- The document's table: Waiting, way, may. -/
import Derived.Test.YtkoncehhpiegfaaGreatDoorUb
namespace Go.Proofs.YtkoncehhpiegfaaGreatDoor
open Go.RowKit Go.Lib Go.Maps
set_option linter.unusedVariables false

theorem filter_snoc {α : Type} (p : α → Bool) (l : List α) (n : Nat) (d : α) (h : l[n]? = some d) : (l.take (n + 1)).filter p = if p d then (l.take n).filter p ++ [d] else (l.take n).filter p := by
  rw [take_snocQ h, List.filter_append]
  cases hp : p d <;> simp [hp]
set_option maxRecDepth 100000 in
set_option maxHeartbeats 4000000 in
theorem waiting_any (B b : Nat) (hv wv : Value) (r : RefT) (k : ByteArray) (w : World) (h : RtP w B b hv wv r) (hl : r.waits.length ≤ 1000) :
    Calls Tryz.prog 15 #[.pointer (some ⟨b, 0, none⟩), .string k] w fun e w' => ∃ v ks, e = .returned v ∧ IntsQ w' w'.heap.size v ks ∧ ks.Perm (waitR r.waits k) ∧ ks.Pairwise (· ≤ ·) ∧ (∀ x, v.ownBlock = some x → w.heap.size ≤ x) ∧ Mod noBlock w w' := by
  obtain ⟨j0, hj, jz0, jz1, jz2⟩ := info_parts Tryz.infoIQ
  have HH := Hid.mkq (h.w.toV (Nat.le_refl _))
  obtain ⟨ha, hcap, rfl⟩ := own_slice h.w.1
  have c0 := h.blk.cell 1 rfl
  have z0 := h.blk.lt
  have HWR : Hid (waitR r.waits k = (r.waits.filter fun a => decide (a.key = k)).map (·.tx)) := rfl
  clear h
  generalize waitR r.waits k = res at HWR
  generalize r.waits = l at HH HWR hl c0
  have HR0 : Hid (RowI w w.heap.size (.slice none 0 0) []) := World.ownsRow_nil _ _ _ _
  go_enter Tryz.func15, Tryz.ntmps15
  go_wp2_with fail
  go_loopw [5, 13] (fun u i wr => ∃ (n : Nat) (o : List Int), n ≤ l.length ∧ i = .int .i64 n ∧ o = ((l.take n).filter fun a => decide (a.key = k)).map (·.tx) ∧ o.length ≤ n ∧ RowI wr w.heap.size u o ∧ Mod noBlock w wr) (fun _ i _ => l.length - (intOf i).toNat)
  case atStart => exact ⟨0, [], Nat.zero_le _, rfl, by simp, Nat.le_refl _, HR0.out, Mod.refl _ _⟩
  case round =>
    obtain ⟨n, o, hn, rfl, ho, hol, hrow, hM⟩ := hrel
    obtain ⟨ua, ucap, rfl⟩ := own_slice hrow
    have HROW := Hid.mkq hrow
    have HO := Hid.mkq ho
    have HM := Hid.mkq hM
    clear hrow hM HR0 ho
    by_cases hlt : n < l.length
    · obtain ⟨d, hd⟩ : ∃ d, l[n]? = some d := ⟨_, List.getElem?_eq_getElem hlt⟩
      obtain ⟨hb, off, rfl, _, _, q0, q1, q2⟩ := HH.out.at hd
      have p0 := HM.out.cell q0 id
      have p1 := HM.out.cell q1 id
      have p2 := HM.out.cell q2 id
      have hltI : (n : Int) < (l.length : Int) := by omega
      have hlt0 : (0 : Int) ≤ (n : Int) := by omega
      obtain ⟨w3, hw3⟩ : ∃ q, q = wr.alloc (.cells #[.int .i64 d.tx, .string d.key, .int .i64 d.mode] 37) := ⟨_, rfl⟩
      have hm3 : Mod noBlock wr w3 := by rw [hw3]; exact (Mod.refl _ wr).alloc _
      have hb3 : Blk w3 wr.heap.size (askCells d) 37 := by rw [hw3]; exact Blk.new wr (askCells d) 37
      have r0 := hb3.cell 0 rfl
      have r1 := hb3.cell 1 rfl
      have hz3 := hb3.lt
      have HM3 := Hid.mkq (HM.out.trans hm3)
      have hz3' := HM3.out.size
      have HROW3 : Hid (RowI w3 w.heap.size (.slice ua o.length ucap) o) := HROW.out.mod hm3 (fun _ _ => id)
      have HFS := Hid.mkq (filter_snoc (fun a : AskD => decide (a.key = k)) l n d hd)
      clear hd q0 q1 q2 hb3 hm3
      go_upto_region 5 with fail
      rw [← hw3]
      clear hw3 p0 p1 p2
      by_cases e2 : d.key = k
      · have e2' : (d.key.toList == k.toList) = true := by rw [e2]; simp
        have HO2 : Hid (o ++ [d.tx] = ((l.take (n + 1)).filter fun a => decide (a.key = k)).map (·.tx)) := by rw [Hid, HFS.out, if_pos (by simpa using e2), List.map_append, ← HO.out]; rfl
        have hk63 : o.length + 1 ≤ maxLen := by unfold maxLen; omega
        have hk47 : (o.length + 1) * 8 ≤ 140737488355328 := by omega
        have HROW9 : Hid (w3.ownsRow w.heap.size 3 1 (.slice ua o.length ucap) o.length (intsCells o)) := HROW3.out
        go_wp2_with (first
          | (at_builtin; refine wpList_append_own_at _ rfl (.tmp 21) (.tmp 24) 32 rfl w.heap.size 3 j0 _ 1 8 Tryz.underlying32 hj jz0 jz1 jz2 rfl (by decide) _ _ _ rfl (HROW9.out.alloc _) ⟨w3.heap.size, 0, none⟩ 1 1 [.int .i64 d.tx] rfl rfl (World.news_of_block (heap_alloc_new w3 _)) (by simp [Value.oneCell']) hk63 hk47 (by simp; omega) ?_)
          | fail)
        intro v7 w7 hown7 hgrow7 _ hat7
        have hm7 : Mod noBlock w w7 := (HM3.out.alloc _).grown hgrow7 (fun y hy hlt => by have := (own_cellsVQ HROW3.out hy).1; omega)
        obtain ⟨a7, cap7, hv7⟩ := own_slice hown7
        subst hv7
        have HW7 : Hid (RowI w7 w.heap.size (.slice a7 (o.length + 1) cap7) (o ++ [d.tx])) := by
          rw [Hid]
          unfold RowI
          rw [intsCells_snoc, List.length_append]
          exact hown7
        have HM7 := Hid.mkq hm7
        clear hown7 hgrow7 hat7 hm7
        go_wp2_with fail
        go_roundw
        case rel => exact ⟨n + 1, o ++ [d.tx], by omega, by go_num, HO2.out, by simp; omega, HW7.out, HM7.out⟩
        case measure => simp [intOf]; omega
      · have e2' : (d.key.toList == k.toList) = false := keyQ_ne e2
        have HO2 : Hid (o = ((l.take (n + 1)).filter fun a => decide (a.key = k)).map (·.tx)) := by rw [Hid, HFS.out, if_neg (by simpa using e2)]; exact HO.out
        go_wp2_with fail
        go_roundw
        case rel => exact ⟨n + 1, o, by omega, by go_num, HO2.out, by omega, HROW3.out, HM3.out⟩
        case measure => simp [intOf]; omega
    · obtain rfl : n = l.length := by omega
      have HSO := Hid.mkq (sortI_any _ _ o wr HROW.out (by omega))
      have HRB : Hid (∀ x, (Value.slice ua o.length ucap).ownBlock = some x → w.heap.size ≤ x) := fun x hx => (own_cellsVQ HROW.out hx).1
      have HRES : Hid (res = o) := by rw [HWR.out, HO.out, List.take_length, Hid]
      clear HROW
      go_wp2_with (first | (go_at_call 33; refine HSO.out.mono ?_; rintro e w5 ⟨rfl, l', hl', hpm, hpw, hmm⟩) | go_in)
      go_ret
      exact ⟨_, l', rfl, hl', by rw [HRES.out]; exact hpm, hpw, HRB.out, HM.out.trans' hmm (fun x hx e => by have := HRB.out x e; omega)⟩
theorem wayA_eq (x a : AskD) : wayA x a = (decide (a.key = x.key) && (decide (a.tx ≠ x.tx) && (decide (a.mode = 2) || decide (x.mode = 2)))) := rfl
set_option maxRecDepth 100000 in
set_option maxHeartbeats 8000000 in
theorem way_any (B b : Nat) (hv wv : Value) (r : RefT) (x : AskD) (w : World) (h : RtP w B b hv wv r) (hl : r.holds.length ≤ 1000) :
    Calls Tryz.prog 16 #[.pointer (some ⟨b, 0, none⟩), .agg #[.int .i64 x.tx, .string x.key, .int .i64 x.mode]] w fun e w' => ∃ v ks, e = .returned v ∧ IntsQ w' w'.heap.size v ks ∧ ks.Perm (wayR r.holds x) ∧ ks.Pairwise (· ≤ ·) ∧ (∀ x, v.ownBlock = some x → w.heap.size ≤ x) ∧ Mod noBlock w w' := by
  obtain ⟨j0, hj, jz0, jz1, jz2⟩ := info_parts Tryz.infoIQ
  obtain ⟨w1, hw1⟩ : ∃ q, q = w.alloc (.cells #[.int .i64 x.tx, .string x.key, .int .i64 x.mode] 37) := ⟨_, rfl⟩
  have hm1 : Mod noBlock w w1 := by rw [hw1]; exact (Mod.refl _ w).alloc _
  have hb1 : Blk w1 w.heap.size (askCells x) 37 := by rw [hw1]; exact Blk.new w (askCells x) 37
  have h1 := h.quiet hm1
  have HH := Hid.mkq (h1.h.toV (Nat.le_refl _))
  obtain ⟨ha, hcap, rfl⟩ := own_slice h.h.1
  have c0 := h1.blk.cell 0 rfl
  have z0 := h1.blk.lt
  have HB1 := Hid.mkq hb1
  have HM1 := Hid.mkq hm1
  have hz01 := hm1.size
  have HWR : Hid (wayR r.holds x = (r.holds.filter (wayA x)).map (·.tx)) := rfl
  clear h h1 hm1 hb1
  generalize wayR r.holds x = res at HWR
  generalize r.holds = l at HH HWR hl c0
  have HR0 : Hid (RowI w1 w1.heap.size (.slice none 0 0) []) := World.ownsRow_nil _ _ _ _
  go_enter Tryz.func16, Tryz.ntmps16
  go_upto_region 1 with fail
  rw [← hw1]
  clear hw1
  go_wp2_with fail
  go_loopw [5, 13] (fun u i wr => ∃ (n : Nat) (o : List Int), n ≤ l.length ∧ i = .int .i64 n ∧ o = ((l.take n).filter (wayA x)).map (·.tx) ∧ o.length ≤ n ∧ RowI wr w1.heap.size u o ∧ Mod noBlock w1 wr) (fun _ i _ => l.length - (intOf i).toNat)
  case atStart => exact ⟨0, [], Nat.zero_le _, rfl, by simp, Nat.le_refl _, HR0.out, Mod.refl _ _⟩
  case round =>
    obtain ⟨n, o, hn, rfl, ho, hol, hrow, hM⟩ := hrel
    obtain ⟨ua, ucap, rfl⟩ := own_slice hrow
    have HROW := Hid.mkq hrow
    have HO := Hid.mkq ho
    have HM := Hid.mkq hM
    clear hrow hM HR0 ho
    by_cases hlt : n < l.length
    · obtain ⟨d, hd⟩ : ∃ d, l[n]? = some d := ⟨_, List.getElem?_eq_getElem hlt⟩
      obtain ⟨hb, off, rfl, _, _, q0, q1, q2⟩ := HH.out.at hd
      have p0 := HM.out.cell q0 id
      have p1 := HM.out.cell q1 id
      have p2 := HM.out.cell q2 id
      have hltI : (n : Int) < (l.length : Int) := by omega
      have hlt0 : (0 : Int) ≤ (n : Int) := by omega
      obtain ⟨w3, hw3⟩ : ∃ q, q = wr.alloc (.cells #[.int .i64 d.tx, .string d.key, .int .i64 d.mode] 37) := ⟨_, rfl⟩
      have hm3 : Mod noBlock wr w3 := by rw [hw3]; exact (Mod.refl _ wr).alloc _
      have hb3 : Blk w3 wr.heap.size (askCells d) 37 := by rw [hw3]; exact Blk.new wr (askCells d) 37
      have r0 := hb3.cell 0 rfl
      have r1 := hb3.cell 1 rfl
      have r2 := hb3.cell 2 rfl
      have hz3 := hb3.lt
      have HM3 := Hid.mkq (HM.out.trans hm3)
      have hz3' := HM3.out.size
      have hx3 := HB1.out.mod HM3.out id
      have s0 := hx3.cell 0 rfl
      have s1 := hx3.cell 1 rfl
      have s2 := hx3.cell 2 rfl
      have hzx := hx3.lt
      have HROW3 : Hid (RowI w3 w1.heap.size (.slice ua o.length ucap) o) := HROW.out.mod hm3 (fun _ _ => id)
      have HFS := Hid.mkq (filter_snoc (wayA x) l n d hd)
      have HWA := Hid.mkq (wayA_eq x d)
      have HNO : Hid (wayA x d = false → o = ((l.take (n + 1)).filter (wayA x)).map (·.tx)) := fun hf => by rw [HFS.out, hf]; simpa using HO.out
      have HYES : Hid (wayA x d = true → o ++ [d.tx] = ((l.take (n + 1)).filter (wayA x)).map (·.tx)) := fun hf => by rw [HFS.out, hf, if_pos rfl, List.map_append, ← HO.out]; rfl
      clear hd q0 q1 q2 hb3 hm3 hx3
      go_upto_region 5 with fail
      rw [← hw3]
      clear hw3 p0 p1 p2
      go_cut [38] from 14 to 44 (fun bv wc => bv = .bool (wayA x d) ∧ wc = w3)
      case first =>
        by_cases e2 : d.key = x.key
        · have e2' : (d.key.toList == x.key.toList) = true := by rw [e2]; simp
          by_cases e1 : d.tx = x.tx
          · have HR : Hid (wayA x d = false) := by rw [HWA.out, Hid]; simp [e1]
            rw [e1] at r0
            go_wp2_with fail
            go_meet
            case rel => exact ⟨by rw [HR.out], rfl⟩
          · by_cases e3 : d.mode = 2
            · have HR : Hid (wayA x d = (d.tx != x.tx)) := by rw [HWA.out, Hid, Bool.eq_iff_iff]; simp [e1, e2, e3]
              rw [e3] at r2
              go_wp2_with fail
              go_meet
              case rel => exact ⟨by rw [HR.out], rfl⟩
            · have HR : Hid (wayA x d = (d.tx != x.tx && (d.mode == 2 || x.mode == 2))) := by rw [HWA.out, Hid, Bool.eq_iff_iff]; simp [e1, e2, e3]
              go_wp2_with fail
              go_meet
              case rel => exact ⟨by rw [HR.out], rfl⟩
        · have e2' : (d.key.toList == x.key.toList) = false := keyQ_ne e2
          have HR : Hid (wayA x d = false) := by rw [HWA.out, Hid]; simp [e2]
          go_wp2_with fail
          go_meet
          case rel => exact ⟨by rw [HR.out], rfl⟩
      case rest =>
        obtain ⟨rfl, hwc0⟩ := hcut
        rw [hwc0]
        clear hwc0
        cases hwa : wayA x d with
        | true =>
          have HO2 := Hid.mkq (HYES.out hwa)
          have hk63 : o.length + 1 ≤ maxLen := by unfold maxLen; omega
          have hk47 : (o.length + 1) * 8 ≤ 140737488355328 := by omega
          have HROW9 : Hid (w3.ownsRow w1.heap.size 3 1 (.slice ua o.length ucap) o.length (intsCells o)) := HROW3.out
          go_wp2_with (first
            | (at_builtin; refine wpList_append_own_at _ rfl (.tmp 39) (.tmp 42) 32 rfl w1.heap.size 3 j0 _ 1 8 Tryz.underlying32 hj jz0 jz1 jz2 rfl (by decide) _ _ _ rfl (HROW9.out.alloc _) ⟨w3.heap.size, 0, none⟩ 1 1 [.int .i64 d.tx] rfl rfl (World.news_of_block (heap_alloc_new w3 _)) (by simp [Value.oneCell']) hk63 hk47 (by simp; omega) ?_)
            | fail)
          intro v7 w7 hown7 hgrow7 _ hat7
          have hm7 : Mod noBlock w1 w7 := (HM3.out.alloc _).grown hgrow7 (fun y hy hlt => by have := (own_cellsVQ HROW3.out hy).1; omega)
          obtain ⟨a7, cap7, hv7⟩ := own_slice hown7
          subst hv7
          have HW7 : Hid (RowI w7 w1.heap.size (.slice a7 (o.length + 1) cap7) (o ++ [d.tx])) := by
            rw [Hid]
            unfold RowI
            rw [intsCells_snoc, List.length_append]
            exact hown7
          have HM7 := Hid.mkq hm7
          clear hown7 hgrow7 hat7 hm7
          go_wp2_with fail
          go_roundw
          case rel => exact ⟨n + 1, o ++ [d.tx], by omega, by go_num, HO2.out, by simp; omega, HW7.out, HM7.out⟩
          case measure => simp [intOf]; omega
        | false =>
          have HO2 := Hid.mkq (HNO.out hwa)
          go_wp2_with fail
          go_roundw
          case rel => exact ⟨n + 1, o, by omega, by go_num, HO2.out, by omega, HROW3.out, HM3.out⟩
          case measure => simp [intOf]; omega
    · obtain rfl : n = l.length := by omega
      have HSO := Hid.mkq (sortI_any _ _ o wr HROW.out (by omega))
      have HRB : Hid (∀ x, (Value.slice ua o.length ucap).ownBlock = some x → w1.heap.size ≤ x) := fun x hx => (own_cellsVQ HROW.out hx).1
      have HRES : Hid (res = o) := by rw [HWR.out, HO.out, List.take_length, Hid]
      clear HROW
      go_wp2_with (first | (go_at_call 33; refine HSO.out.mono ?_; rintro e w5 ⟨rfl, l', hl', hpm, hpw, hmm⟩) | go_in)
      go_ret
      exact ⟨_, l', rfl, hl', by rw [HRES.out]; exact hpm, hpw, fun y hy => Nat.le_trans hz01 (HRB.out y hy), (HM1.out.trans HM.out).trans' hmm (fun x hx e => by have := HRB.out x e; omega)⟩
end Go.Proofs.YtkoncehhpiegfaaGreatDoor
