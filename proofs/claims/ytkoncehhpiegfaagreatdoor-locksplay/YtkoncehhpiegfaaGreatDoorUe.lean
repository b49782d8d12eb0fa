/- The document's table: without, has. -/
import Derived.Test.YtkoncehhpiegfaaGreatDoorUd
namespace Go.Proofs.YtkoncehhpiegfaaGreatDoor
open Go.RowKit Go.Lib Go.Maps
set_option linter.unusedVariables false

theorem askCells_one (d : AskD) : ∀ u ∈ askCells d, u.oneCell' = true := by
  intro u h
  simp [askCells] at h
  rcases h with rfl | rfl | rfl <;> rfl
theorem RowA.low {w : World} {B L : Nat} {v : Value} {l : List AskD} (h : RowA w B v l) (hb : L ≤ B) : RowA w L v l := by
  refine ⟨?_, h.2⟩
  obtain ⟨⟨h1, h2⟩, -⟩ := h
  refine ⟨h1, ?_⟩
  rcases h2 with h2 | ⟨g, cap, cur, r1, r2, r3⟩
  · exact .inl h2
  · exact .inr ⟨g, cap, cur, r1, Nat.le_trans hb r2, r3⟩
theorem RowA.snoc {w' : World} {B n : Nat} {u : Value} {l : List AskD} {c : AskD} (hn : n = l.length) (h : w'.ownsRow B 37 3 u (n + 1) (asksCells l ++ askCells c)) (hl : ∀ o ∈ l, okAsk o) (hc : okAsk c) : RowA w' B u (l ++ [c]) := by
  subst hn
  refine ⟨?_, fun o ho => ?_⟩
  · rw [List.length_append, asksCells_app, asksCells_one1]
    exact h
  · rcases List.mem_append.1 ho with h | h
    · exact hl o h
    · simp at h; subst h; exact hc
theorem askD_eq (d x : AskD) : decide (d ≠ x) = !(decide (d.tx = x.tx) && (decide (d.key = x.key) && decide (d.mode = x.mode))) := by
  obtain ⟨a, b, c⟩ := d
  obtain ⟨p, q, r⟩ := x
  rw [Bool.eq_iff_iff]
  simp
set_option maxRecDepth 100000 in
set_option maxHeartbeats 8000000 in
theorem without_any (v : Value) (l : List AskD) (x : AskD) (w : World) (hv : AsksV w w.heap.size v l) (hl : l.length ≤ 1000) :
    Calls Tryz.prog 25 #[v, .agg #[.int .i64 x.tx, .string x.key, .int .i64 x.mode]] w fun e w' => ∃ u, e = .returned u ∧ RowA w' w.heap.size u (withoutR l x) ∧ Mod noBlock w w' := by
  obtain ⟨j0, hj, jz0, jz1, jz2⟩ := info_parts Tryz.info37
  obtain ⟨w1, hw1⟩ : ∃ q, q = w.alloc (.cells #[.int .i64 x.tx, .string x.key, .int .i64 x.mode] 37) := ⟨_, rfl⟩
  have hm1 : Mod noBlock w w1 := by rw [hw1]; exact (Mod.refl _ w).alloc _
  have hb1 : Blk w1 w.heap.size (askCells x) 37 := by rw [hw1]; exact Blk.new w (askCells x) 37
  obtain ⟨ha, hcap, hve, _, _⟩ := SlR.slice hv
  subst hve
  have HH := Hid.mkq hv
  have HB1 := Hid.mkq hb1
  have HM1 := Hid.mkq hm1
  have hz01 := hm1.size
  have HWR : Hid (withoutR l x = l.filter fun a => decide (a ≠ x)) := rfl
  clear hm1 hb1 hv
  generalize withoutR l x = res at HWR
  have HR0 : Hid (RowA w1 w1.heap.size (.slice none 0 0) []) := ⟨World.ownsRow_nil _ _ _ _, by simp⟩
  go_enter Tryz.func25, Tryz.ntmps25
  go_upto_region 1 with fail
  rw [← hw1]
  clear hw1
  go_wp2_with fail
  go_loopw [5, 10] (fun u i wr => ∃ (n : Nat) (o : List AskD), n ≤ l.length ∧ i = .int .i64 n ∧ o = (l.take n).filter (fun a => decide (a ≠ x)) ∧ o.length ≤ n ∧ RowA wr w1.heap.size u o ∧ Mod noBlock w1 wr) (fun _ i _ => l.length - (intOf i).toNat)
  case atStart => exact ⟨0, [], Nat.zero_le _, rfl, by simp, Nat.le_refl _, HR0.out, Mod.refl _ _⟩
  case round =>
    obtain ⟨n, o, hn, rfl, ho, hol, hrow, hM⟩ := hrel
    obtain ⟨ua, ucap, rfl⟩ := own_slice hrow.1
    have HROW := Hid.mkq hrow
    have HO := Hid.mkq ho
    have HM := Hid.mkq hM
    have HM01 := Hid.mkq (HM1.out.trans hM)
    clear hrow hM HR0 ho
    by_cases hlt : n < l.length
    · obtain ⟨d, hd⟩ : ∃ d, l[n]? = some d := ⟨_, List.getElem?_eq_getElem hlt⟩
      obtain ⟨hb, off, rfl, _, hok, q0, q1, q2⟩ := HH.out.at hd
      have p0 := HM01.out.cell q0 id
      have p1 := HM01.out.cell q1 id
      have p2 := HM01.out.cell q2 id
      have hltI : (n : Int) < (l.length : Int) := by omega
      have hlt0 : (0 : Int) ≤ (n : Int) := by omega
      obtain ⟨w3, hw3⟩ : ∃ q, q = wr.alloc (.cells #[.int .i64 d.tx, .string d.key, .int .i64 d.mode] 37) := ⟨_, rfl⟩
      have hm3 : Mod noBlock wr w3 := by rw [hw3]; exact (Mod.refl _ wr).alloc _
      have hb3 : Blk w3 wr.heap.size (askCells d) 37 := by rw [hw3]; exact Blk.new wr (askCells d) 37
      have r0 := hb3.cell 0 rfl
      have r1 := hb3.cell 1 rfl
      have r2 := hb3.cell 2 rfl
      have hz3 := hb3.lt
      have HM3 := Hid.mkq (HM.out.trans hm3)
      have hz3' := HM3.out.size
      have hx3 := HB1.out.mod HM3.out id
      have s0 := hx3.cell 0 rfl
      have s1 := hx3.cell 1 rfl
      have s2 := hx3.cell 2 rfl
      have hzx := hx3.lt
      have HROW3 : Hid (RowA w3 w1.heap.size (.slice ua o.length ucap) o) := HROW.out.mod hm3 (fun _ _ => id)
      have HFS := Hid.mkq (filter_snoc (fun a : AskD => decide (a ≠ x)) l n d hd)
      have HNO : Hid (decide (d ≠ x) = false → o = (l.take (n + 1)).filter (fun a => decide (a ≠ x))) := fun hf => by rw [HFS.out, hf]; simpa using HO.out
      have HYES : Hid (decide (d ≠ x) = true → o ++ [d] = (l.take (n + 1)).filter (fun a => decide (a ≠ x))) := fun hf => by rw [HFS.out, hf, if_pos rfl, ← HO.out]
      have HWA := Hid.mkq (askD_eq d x)
      clear hd q0 q1 q2 hb3 hm3 hx3
      go_upto_region 5 with fail
      rw [← hw3]
      clear hw3 p0 p1 p2
      go_cut [16] from 14 to 21 (fun bv wc => bv = .bool (decide (d ≠ x)) ∧ wc = w3)
      case first =>
        by_cases e1 : d.tx = x.tx
        · have e1' : (d.tx == x.tx) = true := by simpa using e1
          by_cases e2 : d.key = x.key
          · have e2' : (d.key.toList == x.key.toList) = true := by rw [e2]; simp
            by_cases e3 : d.mode = x.mode
            · have e3' : (d.mode == x.mode) = true := by simpa using e3
              have HR : Hid (decide (d ≠ x) = false) := by rw [HWA.out, Hid]; simp [e1, e2, e3]
              go_wp2_with fail
              go_meet
              case rel => exact ⟨by rw [HR.out], rfl⟩
            · have e3' : (d.mode == x.mode) = false := by simpa using e3
              have HR : Hid (decide (d ≠ x) = true) := by rw [HWA.out, Hid]; simp [e1, e2, e3]
              go_wp2_with fail
              go_meet
              case rel => exact ⟨by rw [HR.out], rfl⟩
          · have e2' : (d.key.toList == x.key.toList) = false := keyQ_ne e2
            have HR : Hid (decide (d ≠ x) = true) := by rw [HWA.out, Hid]; simp [e1, e2]
            go_wp2_with fail
            go_meet
            case rel => exact ⟨by rw [HR.out], rfl⟩
        · have e1' : (d.tx == x.tx) = false := by simpa using e1
          have HR : Hid (decide (d ≠ x) = true) := by rw [HWA.out, Hid]; simp [e1]
          go_wp2_with fail
          go_meet
          case rel => exact ⟨by rw [HR.out], rfl⟩
      case rest =>
        obtain ⟨rfl, hwc0⟩ := hcut
        rw [hwc0]
        clear hwc0
        cases hwa : decide (d ≠ x) with
        | true =>
          have HO2 := Hid.mkq (HYES.out hwa)
          have hk63 : o.length + 1 ≤ maxLen := by unfold maxLen; omega
          have hk47 : (o.length + 1) * 32 ≤ 140737488355328 := by omega
          have HROW9 : Hid (w3.ownsRow w1.heap.size 37 3 (.slice ua o.length ucap) o.length (asksCells o)) := HROW3.out.1
          have HONE := Hid.mkq (askCells_one d)
          go_wp2_with (first
            | (at_builtin; refine wpList_append_own_at _ rfl (.tmp 17) (.tmp 19) 27 rfl w1.heap.size 37 j0 _ 3 32 Tryz.underlying27 hj jz0 jz1 jz2 rfl (by omega) _ _ _ rfl (HROW9.out.alloc _) ⟨w3.heap.size, 0, none⟩ 1 1 (askCells d) rfl rfl (World.news_of_block (heap_alloc_new w3 _)) HONE.out hk63 hk47 (by simp; omega) ?_)
            | fail)
          intro v7 w7 hown7 hgrow7 _ hat7
          have hm7 : Mod noBlock w1 w7 := (HM3.out.alloc _).grown hgrow7 (fun y hy hlt => by
            have := (own_cellsVQ HROW3.out.1 hy).1
            omega)
          obtain ⟨a7, cap7, hv7⟩ := own_slice hown7
          subst hv7
          have HW7 : Hid (RowA w7 w1.heap.size (.slice a7 (o.length + 1) cap7) (o ++ [d])) := RowA.snoc rfl hown7 HROW3.out.2 hok
          have HM7 := Hid.mkq hm7
          clear hown7 hgrow7 hat7 hm7
          go_wp2_with fail
          go_roundw
          case rel => exact ⟨n + 1, o ++ [d], by omega, by go_num, HO2.out, by simp; omega, by simpa using HW7.out, HM7.out⟩
          case measure => simp [intOf]; omega
        | false =>
          have HO2 := Hid.mkq (HNO.out hwa)
          go_wp2_with fail
          go_roundw
          case rel => exact ⟨n + 1, o, by omega, by go_num, HO2.out, by omega, HROW3.out, HM3.out⟩
          case measure => simp [intOf]; omega
    · obtain rfl : n = l.length := by omega
      have HRES : Hid (res = o) := by rw [HWR.out, HO.out, List.take_length, Hid]
      go_wp2_with fail
      go_ret
      exact ⟨_, rfl, by rw [HRES.out]; exact HROW.out.low hz01, HM1.out.trans HM.out⟩
theorem row_rt {w : World} {B b : Nat} {v : Value} {cs : List Value} {l : List AskD} (hb : Blk w b cs 29) (hr : RowA w B v l) : v.ownBlock ≠ some b := fun e => by
  obtain ⟨_, _, cur, hc⟩ := own_cellsVQ hr.1 e
  unfold Blk at hb
  rw [hc] at hb
  simp at hb
theorem asksCells_set : ∀ (l : List AskD) (n : Nat) (d : AskD) (m : Int), l[n]? = some d → (asksCells l).set (n * 3 + 2) (.int .i64 m) = asksCells (l.set n { d with mode := m })
  | [], n, d, m, h => by simp at h
  | o :: l, 0, d, m, h => by
    simp at h
    subst h
    simp [asksCells, askCells]
  | o :: l, n + 1, d, m, h => by
    have ih := asksCells_set l n d m (by simpa using h)
    rw [List.set_cons_succ, asksCells, asksCells, show (n + 1) * 3 + 2 = (askCells o).length + (n * 3 + 2) by simp [askCells]; omega, List.set_append, if_neg (by omega)]
    rw [show (askCells o).length + (n * 3 + 2) - (askCells o).length = n * 3 + 2 by omega, ih]
theorem RowA.mode {w : World} {B g : Nat} {v : Value} {l : List AskD} {n : Nat} {d : AskD} (h : RowA w B v l) (hn : l[n]? = some d) (hg : v.ownBlock = some g) (m : Int) : RowA (w.setCell ⟨g, n * 3 + 2, none⟩ (.int .i64 m)) B v (l.set n { d with mode := m }) := by
  obtain ⟨⟨h1, h2⟩, h3⟩ := h
  have hlt : n < l.length := (List.getElem?_eq_some_iff.1 hn).1
  refine ⟨⟨by rw [asksCells_len, List.length_set], ?_⟩, fun o ho => ?_⟩
  · rcases h2 with ⟨rfl, hn0⟩ | ⟨g2, cap, cur, rfl, q1, q2, q3, q4, q5, q6⟩
    · cases hg
    · simp [Value.ownBlock] at hg
      subst hg
      have hb : Blk w g2 cur.toList 37 := by unfold Blk; rw [q2]
      have hb2 := hb.set (n * 3 + 2) (.int .i64 m)
      refine .inr ⟨g2, cap, (cur.toList.set (n * 3 + 2) (.int .i64 m)).toArray, by rw [List.length_set], q1, hb2, by rw [List.length_set]; exact q3, q4, by simp; exact q5, ?_⟩
      rw [List.length_set, ← asksCells_set l n d m hn, ← q6]
      simp only
      rw [List.take_set]
  · rcases List.mem_or_eq_of_mem_set ho with h | rfl
    · exact h3 o h
    · exact h3 d (List.mem_of_getElem? hn)
theorem hasR_at {l : List AskD} (hu : UniqA l) {n : Nat} {d x : AskD} (hn : l[n]? = some d) (ht : d.tx = x.tx) (hk : d.key = x.key) : hasR l x = l.set n { d with mode := max d.mode x.mode } := by
  unfold hasR
  have hd : sameA x.tx x.key d = true := by simp [sameA, ht, hk]
  rw [if_pos (List.any_eq_true.2 ⟨d, List.mem_of_getElem? hn, hd⟩)]
  obtain ⟨hlt, hge⟩ := List.getElem?_eq_some_iff.1 hn
  apply List.ext_getElem?
  intro i
  rw [List.getElem?_map, List.getElem?_set]
  by_cases e : n = i
  · subst e
    rw [hn, if_pos rfl, if_pos hlt]
    simp [hd]
  · rw [if_neg e]
    cases hi : l[i]? with
    | none => rfl
    | some a =>
      obtain ⟨hli, hgi⟩ := List.getElem?_eq_some_iff.1 hi
      have hns : ¬ sameA x.tx x.key a = true := fun q => by
        simp [sameA] at q
        have hp := List.pairwise_iff_getElem.1 hu
        rcases Nat.lt_or_gt_of_ne e with q2 | q2
        · exact hp n i hlt hli q2 (by rw [hge, hgi, ht, hk]; exact ⟨q.1.symm, q.2.symm⟩)
        · exact hp i n hli hlt q2 (by rw [hge, hgi, ht, hk]; exact q)
      simp [hns]
/-- What the document's has comes to. -/
def HasP (w : World) (B b : Nat) (hv wv : Value) (r : RefT) (x : AskD) (w' : World) : Prop :=
  ∃ hv', RtP w' B b hv' wv ⟨hasR r.holds x, r.waits⟩ ∧ Mod (fun y => y = b ∨ hv.ownBlock = some y) w w' ∧ (hv'.ownBlock = hv.ownBlock ∨ ∀ y, hv'.ownBlock = some y → w.heap.size ≤ y)
theorem HasP.better {w w3 : World} {B b g n : Nat} {hv wv : Value} {r : RefT} {x d : AskD} (h : RtP w B b hv wv r) (hm : Mod noBlock w w3) (hu : UniqA r.holds) (hn : r.holds[n]? = some d) (ht : d.tx = x.tx) (hk : d.key = x.key) (hg : hv.ownBlock = some g) : HasP w B b hv wv r x (w3.setCell ⟨g, n * 3 + 2, none⟩ (.int .i64 (max d.mode x.mode))) := by
  have h3 := h.quiet hm
  have hms : Mod (oneBlock g) w3 (w3.setCell ⟨g, n * 3 + 2, none⟩ (.int .i64 (max d.mode x.mode))) := Mod.setBlk g _ _
  have hgb : g ≠ b := fun e => row_rt h.blk h.h (by rw [hg, e])
  refine ⟨hv, ⟨h3.blk.mod hms (fun e => hgb (by simp only [oneBlock] at e; exact e.symm)), ?_, h3.w.mod hms (fun y hy e => by simp only [oneBlock] at e; subst e; exact h.ne _ hg hy), h3.ne⟩, (hm.mono (fun _ _ e => e.elim)).trans (hms.mono (fun y _ e => .inr (by simp only [oneBlock] at e; rw [e]; exact hg))), .inl rfl⟩
  simp only
  rw [hasR_at hu hn ht hk]
  exact h3.h.mode hn hg _
theorem HasP.new {w w3 w6 : World} {B b : Nat} {hv wv u : Value} {r : RefT} {x : AskD} (h : RtP w B b hv wv r) (hm : Mod noBlock w w3) (hno : r.holds.any (sameA x.tx x.key) = false) (hx : okAsk x) (hown : w6.ownsRow B 37 3 u (r.holds.length + 1) (asksCells r.holds ++ askCells x)) (hm6 : Mod (fun k => hv.ownBlock = some k) w3 w6) (hat : u.ownBlock = hv.ownBlock ∨ ∀ y, u.ownBlock = some y → w3.heap.size ≤ y) :
    HasP w B b hv wv r x (w6.setCell ⟨b, 0, none⟩ u) := by
  have h3 := h.quiet hm
  have hms : Mod (oneBlock b) w6 (w6.setCell ⟨b, 0, none⟩ u) := Mod.setBlk b _ _
  have hru : RowA w6 B u (r.holds ++ [x]) := RowA.snoc rfl hown h.h.2 hx
  have hb6 := h3.blk.mod hm6 (row_rt h.blk h.h)
  have hw6 := h3.w.mod hm6 (fun y hy e => h.ne _ e hy)
  have hone : ∀ {v : Value} {l : List AskD}, RowA w6 B v l → ∀ y, v.ownBlock = some y → ¬ oneBlock b y := fun hr y hy e => by simp only [oneBlock] at e; subst e; exact row_rt hb6 hr hy
  refine ⟨u, ⟨hb6.set 0 u, ?_, hw6.mod hms (hone hw6), ?_⟩, ((hm.mono (fun _ _ e => e.elim)).trans (hm6.mono (fun y _ e => .inr e))).trans (hms.mono (fun y _ e => .inl e)), ?_⟩
  · simp only
    have : hasR r.holds x = r.holds ++ [x] := by unfold hasR; rw [hno]; simp
    rw [this]
    exact hru.mod hms (hone hru)
  · intro y hy e
    rcases hat with q | q
    · rw [q] at hy; exact h.ne y hy e
    · have h1 := q y hy
      have h2 := (own_cellsVQ h3.w.1 e).2.1
      omega
  · rcases hat with q | q
    · exact .inl q
    · exact .inr (fun y hy => Nat.le_trans hm.size (q y hy))
set_option maxRecDepth 100000 in
set_option maxHeartbeats 8000000 in
theorem has_any (B b : Nat) (hv wv : Value) (r : RefT) (x : AskD) (w : World) (h : RtP w B b hv wv r) (hu : UniqA r.holds) (hl : r.holds.length ≤ 1000) (hx : okQ x.key) (hB : B ≤ w.heap.size) :
    Calls Tryz.prog 18 #[.pointer (some ⟨b, 0, none⟩), .agg #[.int .i64 x.tx, .string x.key, .int .i64 x.mode]] w fun e w' => e = .returned (.tuple #[]) ∧ HasP w B b hv wv r x w' := by
  obtain ⟨j0, hj, jz0, jz1, jz2⟩ := info_parts Tryz.info37
  obtain ⟨w1, hw1⟩ : ∃ q, q = w.alloc (.cells #[.int .i64 x.tx, .string x.key, .int .i64 x.mode] 37) := ⟨_, rfl⟩
  have hm1 : Mod noBlock w w1 := by rw [hw1]; exact (Mod.refl _ w).alloc _
  have hb1 : Blk w1 w.heap.size (askCells x) 37 := by rw [hw1]; exact Blk.new w (askCells x) 37
  have h1 := h.quiet hm1
  have HRT := Hid.mkq h1
  have HRT0 := Hid.mkq h
  have HH := Hid.mkq (h1.h.toV (Nat.le_refl _))
  obtain ⟨ha, hcap, rfl⟩ := own_slice h.h.1
  have c0 := h1.blk.cell 0 rfl
  have z0 := h1.blk.lt
  have HB1 := Hid.mkq hb1
  have HM1 := Hid.mkq hm1
  have hz01 := hm1.size
  have HBET : Hid (∀ (w3 : World) (n g : Nat) (d : AskD), Mod noBlock w1 w3 → r.holds[n]? = some d → d.tx = x.tx → d.key = x.key → (Value.slice ha r.holds.length hcap).ownBlock = some g → HasP w B b (.slice ha r.holds.length hcap) wv r x (w3.setCell ⟨g, n * 3 + 2, none⟩ (.int .i64 (max d.mode x.mode)))) := fun w3 n g d hm hn ht hk hg => HasP.better HRT0.out (HM1.out.trans hm) hu hn ht hk hg
  have HNEW : Hid (∀ (w3 w6 : World) (u : Value), Mod noBlock w1 w3 → r.holds.any (sameA x.tx x.key) = false → w6.ownsRow B 37 3 u (r.holds.length + 1) (asksCells r.holds ++ askCells x) → Mod (fun k => (Value.slice ha r.holds.length hcap).ownBlock = some k) w3 w6 → (u.ownBlock = (Value.slice ha r.holds.length hcap).ownBlock ∨ ∀ y, u.ownBlock = some y → w3.heap.size ≤ y) → HasP w B b (.slice ha r.holds.length hcap) wv r x (w6.setCell ⟨b, 0, none⟩ u)) := fun w3 w6 u hm hno hown hm6 hat => HasP.new HRT0.out (HM1.out.trans hm) hno hx hown hm6 hat
  have HAB : Hid ((Value.slice ha r.holds.length hcap).ownBlock ≠ some b) := row_rt h.blk h.h
  have HOW1 : Hid (RowA w1 B (.slice ha r.holds.length hcap) r.holds) := h1.h
  have HRB : Hid (Blk w1 b [.slice ha r.holds.length hcap, wv] 29) := h1.blk
  clear h h1 hm1 hb1 hu
  generalize hhl : HasP w B b (.slice ha r.holds.length hcap) wv r x = fin at HBET HNEW
  clear hhl HRT HRT0
  generalize r.holds = l at HH hl c0 HBET HNEW HAB HOW1 HRB
  go_enter Tryz.func18, Tryz.ntmps18
  go_upto_region 1 with fail
  rw [← hw1]
  clear hw1
  go_wp2_with fail
  go_loopw [11] (fun i wr => ∃ n : Nat, n ≤ l.length ∧ i = .int .i64 n ∧ (l.take n).any (sameA x.tx x.key) = false ∧ Mod noBlock w1 wr) (fun i _ => l.length - (intOf i).toNat)
  case atStart => exact ⟨0, Nat.zero_le _, rfl, by simp, Mod.refl _ _⟩
  case round =>
    obtain ⟨n, hn, rfl, hfn, hM⟩ := hrel
    have HFN := Hid.mkq hfn
    have HM := Hid.mkq hM
    clear hfn hM
    by_cases hlt : n < l.length
    · obtain ⟨d, hd⟩ : ∃ d, l[n]? = some d := ⟨_, List.getElem?_eq_getElem hlt⟩
      obtain ⟨hb, off, rfl, _, hok, q0, q1, q2⟩ := HH.out.at hd
      have hoff : off = 0 := by
        rcases HOW1.out.1.2 with ⟨e, _⟩ | ⟨g, cap, cur, e, _⟩
        · simp at e
        · simp at e; exact e.1.2
      subst hoff
      rw [Nat.zero_add] at q0 q1 q2
      have p0 := HM.out.cell q0 id
      have p1 := HM.out.cell q1 id
      have p2 := HM.out.cell q2 id
      have hltI : (n : Int) < (l.length : Int) := by omega
      have hlt0 : (0 : Int) ≤ (n : Int) := by omega
      obtain ⟨w3, hw3⟩ : ∃ q, q = wr.alloc (.cells #[.int .i64 d.tx, .string d.key, .int .i64 d.mode] 37) := ⟨_, rfl⟩
      have hm3 : Mod noBlock wr w3 := by rw [hw3]; exact (Mod.refl _ wr).alloc _
      have hb3 : Blk w3 wr.heap.size (askCells d) 37 := by rw [hw3]; exact Blk.new wr (askCells d) 37
      have r0 := hb3.cell 0 rfl
      have r1 := hb3.cell 1 rfl
      have r2 := hb3.cell 2 rfl
      have hz3 := hb3.lt
      have HM3 := Hid.mkq (HM.out.trans hm3)
      have hx3 := HB1.out.mod HM3.out id
      have s0 := hx3.cell 0 rfl
      have s1 := hx3.cell 1 rfl
      have s2 := hx3.cell 2 rfl
      have hzx := hx3.lt
      have HNO : Hid (sameA x.tx x.key d = false → (l.take (n + 1)).any (sameA x.tx x.key) = false) := fun hf => by rw [take_snocQ hd, List.any_append, HFN.out]; simp [hf]
      have k2 := HM3.out.cell q2 id
      have kf2 : w3.frozen? ⟨hb, n * 3 + 2, none⟩ = false := by
        obtain ⟨_, _, cur, hc⟩ := own_cellsVQ (HOW1.out.mod HM3.out (fun _ _ => id)).1 (k := hb) rfl
        simp [World.frozen?, hc]
      have kb0 := (HRB.out.mod HM3.out id).cell 0 rfl
      have kzb := (HRB.out.mod HM3.out id).lt
      have HD := Hid.mkq hd
      clear hd q0 q1 q2 hb3 hm3 hx3
      go_upto_region 4 with fail
      rw [← hw3]
      clear hw3 p0 p1 p2
      by_cases e1 : d.tx = x.tx
      · by_cases e2 : d.key = x.key
        · have e1' : (d.tx == x.tx) = true := by simpa using e1
          have e2' : (d.key.toList == x.key.toList) = true := by rw [e2]; simp
          have HEND := Hid.mkq (HBET.out w3.drew n hb d (HM3.out.drew) HD.out e1 e2 rfl)
          go_upto_region 5 with fail
          go_region
          all_goals
            go_wp2_with fail
            first
              | go_end0
              | refine bodyPost_ret (results_none rfl _ _ _) rfl ?_
            exact ⟨rfl, HEND.out⟩
        · have e2' : (d.key.toList == x.key.toList) = false := keyQ_ne e2
          have HN := Hid.mkq (HNO.out (sameA_false (fun q => e2 q.2)))
          have e1' : (d.tx == x.tx) = true := by simpa using e1
          go_wp2_with fail
          go_roundw
          case rel => exact ⟨n + 1, by omega, by go_num, HN.out, HM3.out⟩
          case measure => simp [intOf]; omega
      · have HN := Hid.mkq (HNO.out (sameA_false (fun q => e1 q.1)))
        have e1' : (d.tx == x.tx) = false := by simpa using e1
        go_wp2_with fail
        go_roundw
        case rel => exact ⟨n + 1, by omega, by go_num, HN.out, HM3.out⟩
        case measure => simp [intOf]; omega
    · obtain rfl : n = l.length := by omega
      have HF0 : Hid (l.any (sameA x.tx x.key) = false) := by have := HFN.out; rw [List.take_length] at this; exact this
      have HROW : Hid (RowA wr B (.slice ha l.length hcap) l) := HOW1.out.mod HM.out (fun _ _ => id)
      have hx3 := HB1.out.mod HM.out id
      have s0 := hx3.cell 0 rfl
      have s1 := hx3.cell 1 rfl
      have s2 := hx3.cell 2 rfl
      have hzx := hx3.lt
      have hrb := HRB.out.mod HM.out id
      have kb0 := hrb.cell 0 rfl
      have kf0 := hrb.frozen 0
      have kzb := hrb.lt
      have hzr := HM.out.size
      have hBz : B ≤ wr.heap.size := by omega
      have hk63 : l.length + 1 ≤ maxLen := by unfold maxLen; omega
      have hk47 : (l.length + 1) * 32 ≤ 140737488355328 := by omega
      have HONE := Hid.mkq (askCells_one x)
      clear hx3 hrb
      go_upto_region 7 with fail
      go_region_law
        ((first
          | (refine step_append_lies _ (by rfl) _ _ _ (by rfl) B 37 j0 _ 3 32 Tryz.underlying27 hj jz0 jz1 jz2 rfl (by omega) _ _ _ (by rfl) ((World.ownsRow.drew HROW.out.1).alloc _) ⟨wr.heap.size, 0, none⟩ 1 1 (askCells x) (by rfl) (by rfl) (World.news_of_block (heap_alloc_new wr.drew _)) HONE.out (by omega) hk63 hk47 (by simp; omega) _ rfl ?_; intro g6 cap6 w6 hown6 hgrow hat hlt6; have hm46 : Mod (fun k => (Value.slice ha l.length hcap).ownBlock = some k) wr w6 := (((Mod.refl _ wr).drew).alloc _).grown hgrow (fun x hx _ => hx); have d6 := hm46.cell kb0 HAB.out; have f6 := (hm46.frozen (p := ⟨b, 0, none⟩) kzb HAB.out).trans kf0)
          | fail))
      all_goals
        have hloc : (Value.slice (some ⟨g6, 0, none⟩) (l.length + 1) cap6).ownBlock = (Value.slice ha l.length hcap).ownBlock ∨ ∀ y, (Value.slice (some ⟨g6, 0, none⟩) (l.length + 1) cap6).ownBlock = some y → wr.heap.size ≤ y := by
          rcases hat with e | e
          · exact .inl (by rw [e]; rfl)
          · exact .inr (fun y hy => by simp [Value.ownBlock] at hy; simp at e; omega)
        have HEND := Hid.mkq (HNEW.out wr w6 _ HM.out HF0.out hown6 hm46 hloc)
        clear hown6 hgrow hat hloc hm46
        go_wp2_with fail
        first
          | go_end0
          | refine bodyPost_ret (results_none rfl _ _ _) rfl ?_
        exact ⟨rfl, HEND.out⟩
end Go.Proofs.YtkoncehhpiegfaaGreatDoor
