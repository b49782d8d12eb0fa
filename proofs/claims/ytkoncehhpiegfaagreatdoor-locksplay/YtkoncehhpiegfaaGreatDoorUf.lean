/- The document's table: Lock. -/
import Derived.Test.YtkoncehhpiegfaaGreatDoorUe
namespace Go.Proofs.YtkoncehhpiegfaaGreatDoor
open Go.RowKit Go.Lib Go.Maps
set_option linter.unusedVariables false

theorem own_lowQ {w : World} {B L : Nat} {e : TypeId} {sz n : Nat} {v : Value} {xs : List Value} (h : w.ownsRow B e sz v n xs) (hb : L ≤ B) : w.ownsRow L e sz v n xs := by
  obtain ⟨h1, h2⟩ := h
  refine ⟨h1, ?_⟩
  rcases h2 with h2 | ⟨g, cap, cur, r1, r2, r3⟩
  · exact .inl h2
  · exact .inr ⟨g, cap, cur, r1, Nat.le_trans hb r2, r3⟩
/-- The document's Lock, with what it refuses; l: those in the way, in order. -/
def lockF (r : RefT) (x : AskD) (l : List Int) : RefT × Bool × List Int × Int :=
  if x.mode ≠ 1 ∧ x.mode ≠ 2 then (r, false, [], 1)
  else if 20 < x.key.size then (r, false, [], 4)
  else lockR r x l
/-- What the document's Lock comes to. -/
def LockDP (w : World) (B b : Nat) (hv wv : Value) (r : RefT) (x : AskD) (e : Ending) (w' : World) : Prop :=
  ∃ hv' wv' u l, e = .returned (.tuple #[.bool (lockF r x l).2.1, u, .int .i64 (lockF r x l).2.2.2]) ∧ l.Perm (wayR r.holds x) ∧ l.Pairwise (· ≤ ·) ∧ RowI w' w.heap.size u (lockF r x l).2.2.1 ∧ RtP w' B b hv' wv' (lockF r x l).1 ∧ Mod (fun y => y = b ∨ hv.ownBlock = some y ∨ wv.ownBlock = some y) w w'
theorem way_l (r : RefT) (x : AskD) : ∃ l : List Int, l.Perm (wayR r.holds x) ∧ l.Pairwise (· ≤ ·) := ⟨_, List.mergeSort_perm _ (fun x y => decide (x ≤ y)), msI_sorted _⟩
theorem LockDP.same {w w3 : World} {B b : Nat} {hv wv : Value} {r : RefT} {x : AskD} {er : Int} (h : RtP w B b hv wv r) (hf : ∀ l, lockF r x l = (r, false, [], er)) (hm : Mod noBlock w w3) : LockDP w B b hv wv r x (.returned (.tuple #[.bool false, .slice none 0 0, .int .i64 er])) w3 := by
  obtain ⟨l, h1, h2⟩ := way_l r x
  exact ⟨hv, wv, .slice none 0 0, l, by rw [hf], h1, h2, by rw [hf]; exact World.ownsRow_nil _ _ _ _, by rw [hf]; exact h.quiet hm, hm.mono (fun _ _ e => e.elim)⟩
theorem LockDP.got {w w2 w3 : World} {B b : Nat} {hv wv : Value} {r : RefT} {x : AskD} (hf : ∀ l, lockF r x l = (⟨hasR r.holds x, r.waits⟩, true, [], 0)) (hm : Mod noBlock w w2) (hh : HasP w2 B b hv wv r x w3) : LockDP w B b hv wv r x (.returned (.tuple #[.bool true, .slice none 0 0, .int .i64 0])) w3 := by
  obtain ⟨l, h1, h2⟩ := way_l r x
  obtain ⟨hv', k1, k2, k3⟩ := hh
  exact ⟨hv', wv, .slice none 0 0, l, by rw [hf], h1, h2, by rw [hf]; exact World.ownsRow_nil _ _ _ _, by rw [hf]; exact k1, (hm.mono (fun _ _ e => e.elim)).trans (k2.mono (fun y _ e => e.elim .inl (fun q => .inr (.inl q))))⟩
/-- One waits. -/
def WaitDP (w : World) (B b : Nat) (hv wv : Value) (r : RefT) (x : AskD) (w' : World) : Prop :=
  ∃ wv', RtP w' B b hv wv' ⟨r.holds, r.waits ++ [x]⟩ ∧ Mod (fun y => y = b ∨ wv.ownBlock = some y) w w'
theorem WaitDP.new {w w3 w6 : World} {B b : Nat} {hv wv u : Value} {r : RefT} {x : AskD} (h : RtP w B b hv wv r) (hm : Mod noBlock w w3) (hx : okAsk x) (hown : w6.ownsRow B 37 3 u (r.waits.length + 1) (asksCells r.waits ++ askCells x)) (hm6 : Mod (fun k => wv.ownBlock = some k) w3 w6) (hat : u.ownBlock = wv.ownBlock ∨ ∀ y, u.ownBlock = some y → w3.heap.size ≤ y) :
    WaitDP w B b hv wv r x (w6.setCell ⟨b, 1, none⟩ u) := by
  have h3 := h.quiet hm
  have hms : Mod (oneBlock b) w6 (w6.setCell ⟨b, 1, none⟩ u) := Mod.setBlk b _ _
  have hru : RowA w6 B u (r.waits ++ [x]) := RowA.snoc rfl hown h.w.2 hx
  have hb6 := h3.blk.mod hm6 (row_rt h.blk h.w)
  have hw6 := h3.h.mod hm6 (fun y hy e => h.ne _ hy e)
  have hone : ∀ {v : Value} {l : List AskD}, RowA w6 B v l → ∀ y, v.ownBlock = some y → ¬ oneBlock b y := fun hr y hy e => by simp only [oneBlock] at e; subst e; exact row_rt hb6 hr hy
  refine ⟨u, ⟨hb6.set 1 u, hw6.mod hms (hone hw6), hru.mod hms (hone hru), ?_⟩, ((hm.mono (fun _ _ e => e.elim)).trans (hm6.mono (fun y _ e => .inr e))).trans (hms.mono (fun y _ e => .inl e))⟩
  intro y hy e
  rcases hat with q | q
  · rw [q] at e; exact h.ne y hy e
  · have h1 := q y e
    have h2 := (own_cellsVQ h3.h.1 hy).2.1
    omega
theorem LockDP.waited {w w2 w3 w4 : World} {B b : Nat} {hv wv u : Value} {r : RefT} {x : AskD} {l o : List Int} (hp : l.Perm (wayR r.holds x)) (hs : l.Pairwise (· ≤ ·)) (hf : lockF r x l = (⟨r.holds, r.waits ++ [x]⟩, false, o, 0)) (hm : Mod noBlock w w2) (hw : WaitDP w2 B b hv wv r x w3) (hm3 : Mod noBlock w3 w4) (hu : RowI w4 w3.heap.size u o) : LockDP w B b hv wv r x (.returned (.tuple #[.bool false, u, .int .i64 0])) w4 := by
  obtain ⟨wv', k1, k2⟩ := hw
  refine ⟨hv, wv', u, l, by rw [hf], hp, hs, ?_, by rw [hf]; exact k1.quiet hm3, ((hm.mono (fun _ _ e => e.elim)).trans (k2.mono (fun y _ e => e.elim .inl (fun q => .inr (.inr q))))).trans (hm3.mono (fun _ _ e => e.elim))⟩
  rw [hf]
  exact own_lowQ hu (Nat.le_trans hm.size k2.size)
theorem lockF_arg {r : RefT} {x : AskD} (h1 : x.mode ≠ 1) (h2 : x.mode ≠ 2) (l : List Int) : lockF r x l = (r, false, [], 1) := by unfold lockF; rw [if_pos ⟨h1, h2⟩]
theorem lockF_long {r : RefT} {x : AskD} (h1 : x.mode = 1 ∨ x.mode = 2) (h2 : 20 < x.key.size) (l : List Int) : lockF r x l = (r, false, [], 4) := by unfold lockF; rw [if_neg (fun q => by omega), if_pos h2]
theorem lockF_in {r : RefT} {x : AskD} (h1 : x.mode = 1 ∨ x.mode = 2) (h2 : ¬ 20 < x.key.size) (l : List Int) : lockF r x l = lockR r x l := by unfold lockF; rw [if_neg (fun q => by omega), if_neg h2]
theorem lockR_twice {r : RefT} {x : AskD} (h : r.waits.any (sameA x.tx x.key) = true) (l : List Int) : lockR r x l = (r, false, [], 9) := by unfold lockR; rw [if_pos h]
theorem lockR_got {r : RefT} {x : AskD} (h : r.waits.any (sameA x.tx x.key) = false) (h2 : mayR r x = true) (l : List Int) : lockR r x l = (⟨hasR r.holds x, r.waits⟩, true, [], 0) := by unfold lockR; rw [if_neg (by rw [h]; simp), if_pos h2]
theorem lockR_full {r : RefT} {x : AskD} (h : r.waits.any (sameA x.tx x.key) = false) (h2 : mayR r x = false) (h3 : 50 ≤ (waitR r.waits x.key).length) (l : List Int) : lockR r x l = (r, false, [], 4) := by unfold lockR; rw [if_neg (by rw [h]; simp), if_neg (by rw [h2]; simp), if_pos h3]
theorem lockR_wait {r : RefT} {x : AskD} (h : r.waits.any (sameA x.tx x.key) = false) (h2 : mayR r x = false) (h3 : ¬ 50 ≤ (waitR r.waits x.key).length) (l : List Int) : lockR r x l = (⟨r.holds, r.waits ++ [x]⟩, false, l.filter (fun t => decide (t > x.tx)), 0) := by unfold lockR; rw [if_neg (by rw [h]; simp), if_neg (by rw [h2]; simp), if_neg h3]
set_option maxRecDepth 100000 in
set_option maxHeartbeats 16000000 in
theorem lockd_any (B b : Nat) (hv wv : Value) (r : RefT) (x : AskD) (w : World) (h : RtP w B b hv wv r) (hu : UniqA r.holds) (hl1 : r.holds.length ≤ 900) (hl2 : r.waits.length ≤ 900) (hx : okQ x.key) (hB : B ≤ w.heap.size) :
    Calls Tryz.prog 4 #[.pointer (some ⟨b, 0, none⟩), .agg #[.int .i64 x.tx, .string x.key, .int .i64 x.mode]] w (LockDP w B b hv wv r x) := by
  obtain ⟨j0, hj, jz0, jz1, jz2⟩ := info_parts Tryz.info37
  obtain ⟨i0, hi, iz0, iz1, iz2⟩ := info_parts Tryz.infoIQ
  obtain ⟨w1, hw1⟩ : ∃ q, q = w.alloc (.cells #[.int .i64 x.tx, .string x.key, .int .i64 x.mode] 37) := ⟨_, rfl⟩
  have hm1 : Mod noBlock w w1 := by rw [hw1]; exact (Mod.refl _ w).alloc _
  have hb1 : Blk w1 w.heap.size (askCells x) 37 := by rw [hw1]; exact Blk.new w (askCells x) 37
  have h1 := h.quiet hm1
  have hz01 := hm1.size
  have HF1 : Hid (x.mode ≠ 1 → x.mode ≠ 2 → ∀ w3, Mod noBlock w1 w3 → LockDP w B b hv wv r x (.returned (.tuple #[.bool false, .slice none 0 0, .int .i64 1])) w3) := fun e1 e2 w3 hm => LockDP.same h (lockF_arg e1 e2) (hm1.trans hm)
  have HF4 : Hid ((x.mode = 1 ∨ x.mode = 2) → 20 < x.key.size → ∀ w3, Mod noBlock w1 w3 → LockDP w B b hv wv r x (.returned (.tuple #[.bool false, .slice none 0 0, .int .i64 4])) w3) := fun e1 e2 w3 hm => LockDP.same h (lockF_long e1 e2) (hm1.trans hm)
  have HF9 : Hid ((x.mode = 1 ∨ x.mode = 2) → ¬ 20 < x.key.size → r.waits.any (sameA x.tx x.key) = true → ∀ w3, Mod noBlock w1 w3 → LockDP w B b hv wv r x (.returned (.tuple #[.bool false, .slice none 0 0, .int .i64 9])) w3) := fun e1 e2 e3 w3 hm => LockDP.same h (fun l => by rw [lockF_in e1 e2, lockR_twice e3]) (hm1.trans hm)
  have HFG : Hid ((x.mode = 1 ∨ x.mode = 2) → ¬ 20 < x.key.size → r.waits.any (sameA x.tx x.key) = false → mayR r x = true → ∀ w2 w3, Mod noBlock w1 w2 → HasP w2 B b hv wv r x w3 → LockDP w B b hv wv r x (.returned (.tuple #[.bool true, .slice none 0 0, .int .i64 0])) w3) := fun e1 e2 e3 e4 w2 w3 hm hh => LockDP.got (fun l => by rw [lockF_in e1 e2, lockR_got e3 e4]) (hm1.trans hm) hh
  have HFF : Hid ((x.mode = 1 ∨ x.mode = 2) → ¬ 20 < x.key.size → r.waits.any (sameA x.tx x.key) = false → mayR r x = false → 50 ≤ (waitR r.waits x.key).length → ∀ w3, Mod noBlock w1 w3 → LockDP w B b hv wv r x (.returned (.tuple #[.bool false, .slice none 0 0, .int .i64 4])) w3) := fun e1 e2 e3 e4 e5 w3 hm => LockDP.same h (fun l => by rw [lockF_in e1 e2, lockR_full e3 e4 e5]) (hm1.trans hm)
  have HFW : Hid ((x.mode = 1 ∨ x.mode = 2) → ¬ 20 < x.key.size → r.waits.any (sameA x.tx x.key) = false → mayR r x = false → ¬ 50 ≤ (waitR r.waits x.key).length → ∀ (w2 w3 w4 : World) (l : List Int) (u : Value), l.Perm (wayR r.holds x) → l.Pairwise (· ≤ ·) → Mod noBlock w1 w2 → WaitDP w2 B b hv wv r x w3 → Mod noBlock w3 w4 → RowI w4 w3.heap.size u (l.filter (fun t => decide (t > x.tx))) → LockDP w B b hv wv r x (.returned (.tuple #[.bool false, u, .int .i64 0])) w4) := fun e1 e2 e3 e4 e5 w2 w3 w4 l u k1 k2 k3 k4 k5 k6 => LockDP.waited k1 k2 (by rw [lockF_in e1 e2, lockR_wait e3 e4 e5]) (hm1.trans k3) k4 k5 k6
  have HNEW : Hid (∀ (w3 w6 : World) (u : Value), Mod noBlock w1 w3 → w6.ownsRow B 37 3 u (r.waits.length + 1) (asksCells r.waits ++ askCells x) → Mod (fun k => wv.ownBlock = some k) w3 w6 → (u.ownBlock = wv.ownBlock ∨ ∀ y, u.ownBlock = some y → w3.heap.size ≤ y) → WaitDP w3 B b hv wv r x (w6.setCell ⟨b, 1, none⟩ u)) := fun w3 w6 u hm hown hm6 hat => WaitDP.new (h1.quiet hm) (Mod.refl _ _) hx hown hm6 hat
  have HWY : Hid (∀ wq, Mod noBlock w1 wq → Calls Tryz.prog 16 #[.pointer (some ⟨b, 0, none⟩), .agg #[.int .i64 x.tx, .string x.key, .int .i64 x.mode]] wq fun e w' => ∃ v ks, e = .returned v ∧ IntsQ w' w'.heap.size v ks ∧ ks.Perm (wayR r.holds x) ∧ ks.Pairwise (· ≤ ·) ∧ (∀ x, v.ownBlock = some x → wq.heap.size ≤ x) ∧ Mod noBlock wq w') := fun wq hq => way_any B b hv wv r x wq (h1.quiet hq) (by omega)
  have HMY : Hid (∀ wq, Mod noBlock w1 wq → Calls Tryz.prog 17 #[.pointer (some ⟨b, 0, none⟩), .agg #[.int .i64 x.tx, .string x.key, .int .i64 x.mode]] wq fun e w' => e = .returned (.bool (mayR r x)) ∧ Mod noBlock wq w') := fun wq hq => may_any B b hv wv r x wq (h1.quiet hq) (by omega) (by omega)
  have HHS : Hid (∀ wq, Mod noBlock w1 wq → Calls Tryz.prog 18 #[.pointer (some ⟨b, 0, none⟩), .agg #[.int .i64 x.tx, .string x.key, .int .i64 x.mode]] wq fun e w' => e = .returned (.tuple #[]) ∧ HasP wq B b hv wv r x w') := fun wq hq => has_any B b hv wv r x wq (h1.quiet hq) hu (by omega) hx (Nat.le_trans hB (Nat.le_trans hz01 hq.size))
  have HWT : Hid (∀ wq, Mod noBlock w1 wq → Calls Tryz.prog 15 #[.pointer (some ⟨b, 0, none⟩), .string x.key] wq fun e w' => ∃ v ks, e = .returned v ∧ IntsQ w' w'.heap.size v ks ∧ ks.Perm (waitR r.waits x.key) ∧ ks.Pairwise (· ≤ ·) ∧ (∀ x, v.ownBlock = some x → wq.heap.size ≤ x) ∧ Mod noBlock wq w') := fun wq hq => waiting_any B b hv wv r x.key wq (h1.quiet hq) (by omega)
  have HWV := Hid.mkq (h1.w.toV (Nat.le_refl _))
  have HWB : Hid (wv.ownBlock ≠ some b) := row_rt h.blk h.w
  have HRW : Hid (RowA w1 B wv r.waits) := h1.w
  have HRB : Hid (Blk w1 b [hv, wv] 29) := h1.blk
  have HWZ : Hid (∀ y, wv.ownBlock = some y → y < w.heap.size) := fun y hy => (own_cellsVQ h.w.1 hy).2.1
  have HBZ : Hid (b < w.heap.size) := h.blk.lt
  obtain ⟨wa, wcap, rfl⟩ := own_slice h.w.1
  have HB1 := Hid.mkq hb1
  have s0 := hb1.cell 0 rfl
  have s1 := hb1.cell 1 rfl
  have s2 := hb1.cell 2 rfl
  have hzx := hb1.lt
  have hxk : (x.key.size : Int) < 2 ^ 63 := by unfold okQ maxLen at hx; omega
  clear h h1 hm1 hb1 hu
  generalize hfin : LockDP w B b hv (.slice wa r.waits.length wcap) r x = fin at HF1 HF4 HF9 HFG HFF HFW
  clear hfin
  go_enter Tryz.func4, Tryz.ntmps4
  go_upto_region 1 with fail
  rw [← hw1]
  clear hw1
  go_cut [20] from 13 to 88 (fun bv wc => bv = .bool (decide (x.mode ≠ 1 ∧ x.mode ≠ 2)) ∧ wc = w1)
  case first =>
    by_cases e1 : x.mode = 1
    · have HR : Hid (decide (x.mode ≠ 1 ∧ x.mode ≠ 2) = false) := by simp [e1, Hid]
      rw [e1] at s2
      go_wp2_with fail
      go_meet
      case rel => exact ⟨by rw [HR.out], rfl⟩
    · by_cases e2 : x.mode = 2
      · have HR : Hid (decide (x.mode ≠ 1 ∧ x.mode ≠ 2) = false) := by simp [e2, Hid]
        rw [e2] at s2
        go_wp2_with fail
        go_meet
        case rel => exact ⟨by rw [HR.out], rfl⟩
      · have HR : Hid (decide (x.mode ≠ 1 ∧ x.mode ≠ 2) = true) := by simp [e1, e2, Hid]
        have e1' : (x.mode != 1) = true := by simpa using e1
        have e2' : (x.mode != 2) = true := by simpa using e2
        go_wp2_with fail
        go_meet
        case rel => exact ⟨by rw [HR.out], rfl⟩
  case rest =>
    obtain ⟨rfl, hwc0⟩ := hcut
    rw [hwc0]
    clear hwc0
    by_cases g0 : x.mode ≠ 1 ∧ x.mode ≠ 2
    · have hd : decide (x.mode ≠ 1 ∧ x.mode ≠ 2) = true := decide_eq_true g0
      have HEND := Hid.mkq (HF1.out g0.1 g0.2 w1 (Mod.refl _ _))
      rw [hd]
      go_wp2_with fail
      go_ret3
      exact HEND.out
    · have hd : decide (x.mode ≠ 1 ∧ x.mode ≠ 2) = false := decide_eq_false g0
      have g1 : x.mode = 1 ∨ x.mode = 2 := by omega
      rw [hd]
      by_cases g2 : 20 < x.key.size
      · have HEND := Hid.mkq (HF4.out g1 g2 w1 (Mod.refl _ _))
        have hg2 : decide ((x.key.size : Int) > 20) = true := decide_eq_true (by omega)
        go_wp2_with fail
        go_ret3
        exact HEND.out
      · have hg2 : decide ((x.key.size : Int) > 20) = false := decide_eq_false (by omega)
        have HF9' := Hid.mkq (HF9.out g1 g2)
        have HFG' := Hid.mkq (HFG.out g1 g2)
        have HFF' := Hid.mkq (HFF.out g1 g2)
        have HFW' := Hid.mkq (HFW.out g1 g2)
        have c1 := HRB.out.cell 1 rfl
        have zb := HRB.out.lt
        clear HF1 HF4 HF9 HFG HFF HFW hd g0
        generalize hL : r.waits = l at HF9' HFG' HFF' HFW' HNEW HWV HWB HRW HRB HWZ c1 hl2 HHS
        go_wp2_with fail
        go_loopw [30] (fun i wr => ∃ n : Nat, n ≤ l.length ∧ i = .int .i64 n ∧ (l.take n).any (sameA x.tx x.key) = false ∧ Mod noBlock w1 wr) (fun i _ => l.length - (intOf i).toNat)
        case atStart => exact ⟨0, Nat.zero_le _, rfl, by simp, Mod.refl _ _⟩
        case round =>
          obtain ⟨n, hn, rfl, hfn, hM⟩ := hrel
          have HFN := Hid.mkq hfn
          have HM := Hid.mkq hM
          clear hfn hM c1 zb s0 s1 s2
          by_cases hlt : n < l.length
          · obtain ⟨d, hd⟩ : ∃ d, l[n]? = some d := ⟨_, List.getElem?_eq_getElem hlt⟩
            obtain ⟨hb, off, rfl, _, hok, q0, q1, q2⟩ := HWV.out.at hd
            have p0 := HM.out.cell q0 id
            have p1 := HM.out.cell q1 id
            have p2 := HM.out.cell q2 id
            have hltI : (n : Int) < (l.length : Int) := by omega
            have hlt0 : (0 : Int) ≤ (n : Int) := by omega
            obtain ⟨w3, hw3⟩ : ∃ q, q = wr.alloc (.cells #[.int .i64 d.tx, .string d.key, .int .i64 d.mode] 37) := ⟨_, rfl⟩
            have hm3 : Mod noBlock wr w3 := by rw [hw3]; exact (Mod.refl _ wr).alloc _
            have hb3 : Blk w3 wr.heap.size (askCells d) 37 := by rw [hw3]; exact Blk.new wr (askCells d) 37
            have r0 := hb3.cell 0 rfl
            have r1 := hb3.cell 1 rfl
            have hz3 := hb3.lt
            have HM3 := Hid.mkq (HM.out.trans hm3)
            have hx3 := HB1.out.mod HM3.out id
            have s0 := hx3.cell 0 rfl
            have s1 := hx3.cell 1 rfl
            have hzx3 := hx3.lt
            have HNO : Hid (sameA x.tx x.key d = false → (l.take (n + 1)).any (sameA x.tx x.key) = false) := fun hf => by rw [take_snocQ hd, List.any_append, HFN.out]; simp [hf]
            have HYES : Hid (d.tx = x.tx → d.key = x.key → l.any (sameA x.tx x.key) = true) := fun e1 e2 => List.any_eq_true.2 ⟨d, List.mem_of_getElem? hd, by simp [sameA, e1, e2]⟩
            clear hd q0 q1 q2 hb3 hm3 hx3
            go_upto_region 8 with fail
            rw [← hw3]
            clear hw3 p0 p1 p2
            by_cases e1 : d.tx = x.tx
            · have e1' : (d.tx == x.tx) = true := by simpa using e1
              by_cases e2 : d.key = x.key
              · have e2' : (d.key.toList == x.key.toList) = true := by rw [e2]; simp
                have HEND := Hid.mkq (HF9'.out (HYES.out e1 e2) w3 HM3.out)
                go_wp2_with fail
                go_ret3
                exact HEND.out
              · have e2' : (d.key.toList == x.key.toList) = false := keyQ_ne e2
                have HN := Hid.mkq (HNO.out (sameA_false (fun q => e2 q.2)))
                go_wp2_with fail
                go_roundw
                case rel => exact ⟨n + 1, by omega, by go_num, HN.out, HM3.out⟩
                case measure => simp [intOf]; omega
            · have e1' : (d.tx == x.tx) = false := by simpa using e1
              have HN := Hid.mkq (HNO.out (sameA_false (fun q => e1 q.1)))
              go_wp2_with fail
              go_roundw
              case rel => exact ⟨n + 1, by omega, by go_num, HN.out, HM3.out⟩
              case measure => simp [intOf]; omega
          · obtain rfl : n = l.length := by omega
            have HF0 : Hid (l.any (sameA x.tx x.key) = false) := by have := HFN.out; rw [List.take_length] at this; exact this
            have HW2 := Hid.mkq (HWY.out wr HM.out)
            have hx3 := HB1.out.mod HM.out id
            have s0 := hx3.cell 0 rfl
            have s1 := hx3.cell 1 rfl
            have s2 := hx3.cell 2 rfl
            have hzx3 := hx3.lt
            clear HFN hx3
            go_upto_region 11 with fail
            go_wp2_with (first | (go_at_call 16; refine HW2.out.mono ?_) | fail)
            rintro e w5 ⟨v, ks, rfl, hks, hpm, hps, hvz, hm5⟩
            obtain ⟨va, vc, hv0, _, _⟩ := SlR.slice hks
            subst hv0
            have HM5 := Hid.mkq (HM.out.trans hm5)
            have HKS := Hid.mkq hks
            have HPM := Hid.mkq hpm
            have HPS := Hid.mkq hps
            have HVZ : Hid (∀ y, (Value.slice va ks.length vc).ownBlock = some y → w1.heap.size ≤ y) := fun y hy => Nat.le_trans HM.out.size (hvz y hy)
            have HY2 := Hid.mkq (HMY.out w5 HM5.out)
            have hx3 := HB1.out.mod HM5.out id
            have t0 := hx3.cell 0 rfl
            have t1 := hx3.cell 1 rfl
            have t2 := hx3.cell 2 rfl
            have hzx5 := hx3.lt
            have hkl : ks.length ≤ 900 := by rw [hpm.length_eq]; unfold wayR; rw [List.length_map]; exact Nat.le_trans (List.length_filter_le _ _) hl1
            clear hks hpm hps hvz hm5 hx3 s0 s1 s2 hzx3 HW2 HM HWY HMY
            go_wp2_with (first | (go_at_call 17; refine HY2.out.mono ?_) | fail)
            rintro e w6 ⟨rfl, hm6⟩
            have HM6 := Hid.mkq (HM5.out.trans hm6)
            have HKS6 := Hid.mkq (IntsQ.mod HKS.out hm6 (fun _ _ => id))
            have hx3 := HB1.out.mod HM6.out id
            have s0 := hx3.cell 0 rfl
            have s1 := hx3.cell 1 rfl
            have s2 := hx3.cell 2 rfl
            have hzx6 := hx3.lt
            clear hx3 t0 t1 t2 hzx5 HY2 HM5 HKS hm6
            cases hmay : mayR r x with
            | true =>
              have HH2 := Hid.mkq (HHS.out w6 HM6.out)
              have HEND := Hid.mkq (HFG'.out HF0.out hmay w6)
              go_wp2_with (first | (go_at_call 18; refine HH2.out.mono ?_) | fail)
              rintro e w7 ⟨rfl, hh7⟩
              have HEND2 := Hid.mkq (HEND.out w7 HM6.out hh7)
              clear hh7 HEND HH2
              go_wp2_with fail
              go_ret3
              exact HEND2.out
            | false =>
              have HT2 := Hid.mkq (HWT.out w6 HM6.out)
              go_wp2_with (first | (go_at_call 15; refine HT2.out.mono ?_) | fail)
              rintro e w7 ⟨tv, ts, rfl, hts, htp, _, _, hm7⟩
              obtain ⟨ta, tc, hv0, _, _⟩ := SlR.slice hts
              subst hv0
              have HM7 := Hid.mkq (HM6.out.trans hm7)
              have HKS7 := Hid.mkq (IntsQ.mod HKS6.out hm7 (fun _ _ => id))
              have HTL : Hid (ts.length = (waitR r.waits x.key).length) := htp.length_eq
              have hx3 := HB1.out.mod HM7.out id
              have t0 := hx3.cell 0 rfl
              have t1 := hx3.cell 1 rfl
              have t2 := hx3.cell 2 rfl
              have hzx7 := hx3.lt
              clear hts htp hm7 hx3 s0 s1 s2 hzx6 HKS6 HT2 HWT HHS HFG'
              by_cases g5 : 50 ≤ ts.length
              · have hg5 : decide ((ts.length : Int) ≥ 50) = true := decide_eq_true (by omega)
                have HEND := Hid.mkq (HFF'.out HF0.out hmay (by rw [← hL, ← HTL.out]; exact g5) w7 HM7.out)
                go_wp2_with fail
                go_ret3
                exact HEND.out
              · have hg5 : decide ((ts.length : Int) ≥ 50) = false := decide_eq_false (by omega)
                have HEND := Hid.mkq (HFW'.out HF0.out hmay (by rw [← hL, ← HTL.out]; exact g5) w7)
                have HROW : Hid (RowA w7 B (.slice wa l.length wcap) l) := HRW.out.mod HM7.out (fun _ _ => id)
                have hrb := HRB.out.mod HM7.out id
                have kb0 := hrb.cell 1 rfl
                have kf0 := hrb.frozen 1
                have kzb := hrb.lt
                have hz7 := HM7.out.size
                have hBz : B ≤ w7.heap.size := by omega
                have hk63 : l.length + 1 ≤ maxLen := by unfold maxLen; omega
                have hk47 : (l.length + 1) * 32 ≤ 140737488355328 := by omega
                have HONE := Hid.mkq (askCells_one x)
                clear hrb
                go_upto_region 17 with fail
                go_cut [] (fun wc => WaitDP w7 B b hv (.slice wa l.length wcap) r x wc)
                case first =>
                  go_region_law
                    ((first
                      | (refine step_append_lies _ (by rfl) _ _ _ (by rfl) B 37 j0 _ 3 32 Tryz.underlying27 hj jz0 jz1 jz2 rfl (by omega) _ _ _ (by rfl) ((World.ownsRow.drew HROW.out.1).alloc _) ⟨w7.heap.size, 0, none⟩ 1 1 (askCells x) (by rfl) (by rfl) (World.news_of_block (heap_alloc_new w7.drew _)) HONE.out (by omega) hk63 hk47 (by simp; omega) _ rfl ?_; intro g6 cap6 w8 hown6 hgrow hat hlt6; have hm46 : Mod (fun k => (Value.slice wa l.length wcap).ownBlock = some k) w7 w8 := (((Mod.refl _ w7).drew).alloc _).grown hgrow (fun x hx _ => hx); have d6 := hm46.cell kb0 HWB.out; have f6 := (hm46.frozen (p := ⟨b, 1, none⟩) kzb HWB.out).trans kf0)
                      | fail))
                  all_goals
                    have hloc : (Value.slice (some ⟨g6, 0, none⟩) (l.length + 1) cap6).ownBlock = (Value.slice wa l.length wcap).ownBlock ∨ ∀ y, (Value.slice (some ⟨g6, 0, none⟩) (l.length + 1) cap6).ownBlock = some y → w7.heap.size ≤ y := by
                      rcases hat with e | e
                      · exact .inl (by rw [e]; rfl)
                      · exact .inr (fun y hy => by simp [Value.ownBlock] at hy; simp at e; omega)
                    have HNW := Hid.mkq (HNEW.out w7 w8 _ HM7.out hown6 hm46 hloc)
                    clear hown6 hgrow hat hloc hm46
                    go_wp2_with fail
                    go_meet
                    case rel => exact HNW.out
                case rest =>
                  have HWD := Hid.mkq hcut
                  obtain ⟨wv', -, hmw⟩ := hcut
                  have HKC : Hid (IntsQ wc w5.heap.size (.slice va ks.length vc) ks) := IntsQ.mod HKS7.out hmw (fun y hy e => by
                    have h1 := HVZ.out y hy
                    rcases e with e | e
                    · have := HBZ.out; omega
                    · have := HWZ.out y e; omega)
                  have hx7 := HB1.out.mod HM7.out id
                  have HXC : Hid (Blk wc w.heap.size (askCells x) 37) := hx7.mod hmw (fun e => by
                    rcases e with e | e
                    · have := HBZ.out; omega
                    · have := HWZ.out _ e; omega)
                  have HR0 : Hid (RowI wc wc.heap.size (.slice none 0 0) []) := World.ownsRow_nil _ _ _ _
                  clear hmw hx7 t0 t1 t2 hzx7 kb0 kf0 kzb HROW HKS7
                  obtain ⟨wk, hwk⟩ : ∃ y, y = wc := ⟨_, rfl⟩
                  subst hwk
                  go_wp2_with fail
                  go_loopw [10, 74] (fun u i wr => ∃ (n : Nat) (o : List Int), n ≤ ks.length ∧ i = .int .i64 n ∧ o = (ks.take n).filter (fun t => decide (t > x.tx)) ∧ o.length ≤ n ∧ RowI wr wk.heap.size u o ∧ Mod noBlock wk wr) (fun _ i _ => ks.length - (intOf i).toNat)
                  case atStart => exact ⟨0, [], Nat.zero_le _, rfl, by simp, Nat.le_refl _, HR0.out, Mod.refl _ _⟩
                  case round =>
                    obtain ⟨n, o, hn, rfl, ho, hol, hrow, hM⟩ := hrel
                    obtain ⟨ua, ucap, rfl⟩ := own_slice hrow
                    have HROW := Hid.mkq hrow
                    have HO := Hid.mkq ho
                    have HM := Hid.mkq hM
                    have hzk := hM.size
                    clear hrow hM HR0 ho
                    by_cases hlt : n < ks.length
                    · obtain ⟨d, hd⟩ : ∃ d, ks[n]? = some d := ⟨_, List.getElem?_eq_getElem hlt⟩
                      obtain ⟨hb, off, rfl, _, q0⟩ := HKC.out.at hd
                      have p0 := HM.out.cell q0 id
                      have hltI : (n : Int) < (ks.length : Int) := by omega
                      have hlt0 : (0 : Int) ≤ (n : Int) := by omega
                      have hx3 := HXC.out.mod HM.out id
                      have s0 := hx3.cell 0 rfl
                      have hzx3 := hx3.lt
                      have HFS := Hid.mkq (filter_snoc (fun t => decide (t > x.tx)) ks n d hd)
                      clear hd q0 hx3
                      by_cases e : d > x.tx
                      · have e' : decide (d > x.tx) = true := decide_eq_true e
                        have HO2 : Hid (o ++ [d] = (ks.take (n + 1)).filter (fun t => decide (t > x.tx))) := by rw [Hid, HFS.out, if_pos e', ← HO.out]
                        have hk63' : o.length + 1 ≤ maxLen := by unfold maxLen; omega
                        have hk47' : (o.length + 1) * 8 ≤ 140737488355328 := by omega
                        have HROW9 : Hid (wr.ownsRow wk.heap.size 3 1 (.slice ua o.length ucap) o.length (intsCells o)) := HROW.out
                        go_wp2_with (first
                          | (at_builtin; refine wpList_append_own_at _ rfl (.tmp 82) (.tmp 84) 32 rfl wk.heap.size 3 i0 _ 1 8 Tryz.underlying32 hi iz0 iz1 iz2 rfl (by decide) _ _ _ rfl (HROW9.out.alloc _) ⟨wr.heap.size, 0, none⟩ 1 1 [.int .i64 d] rfl rfl (World.news_of_block (heap_alloc_new wr _)) (by simp [Value.oneCell']) hk63' hk47' (by simp; omega) ?_)
                          | fail)
                        intro v7 w9 hown7 hgrow7 _ hat7
                        have hm9 : Mod noBlock wk w9 := (HM.out.alloc _).grown hgrow7 (fun y hy hlt => by have := (own_cellsVQ HROW.out hy).1; omega)
                        obtain ⟨a7, cap7, hv7⟩ := own_slice hown7
                        subst hv7
                        have HW7 : Hid (RowI w9 wk.heap.size (.slice a7 (o.length + 1) cap7) (o ++ [d])) := by
                          rw [Hid]
                          unfold RowI
                          rw [intsCells_snoc, List.length_append]
                          exact hown7
                        have HM9 := Hid.mkq hm9
                        clear hown7 hgrow7 hat7 hm9
                        go_wp2_with fail
                        go_roundw
                        case rel => exact ⟨n + 1, o ++ [d], by omega, by go_num, HO2.out, by simp; omega, HW7.out, HM9.out⟩
                        case measure => simp [intOf]; omega
                      · have e' : decide (d > x.tx) = false := decide_eq_false e
                        have HO2 : Hid (o = (ks.take (n + 1)).filter (fun t => decide (t > x.tx))) := by rw [Hid, HFS.out, e']; exact HO.out
                        go_wp2_with fail
                        go_roundw
                        case rel => exact ⟨n + 1, o, by omega, by go_num, HO2.out, by omega, HROW.out, HM.out⟩
                        case measure => simp [intOf]; omega
                    · obtain rfl : n = ks.length := by omega
                      have HRES : Hid (o = ks.filter (fun t => decide (t > x.tx))) := by rw [HO.out, List.take_length, Hid]
                      have HEND2 := Hid.mkq (HEND.out wk wr ks (.slice ua o.length ucap) HPM.out HPS.out HM7.out HWD.out HM.out (by rw [← HRES.out]; exact HROW.out))
                      go_wp2_with fail
                      go_ret3
                      exact HEND2.out
end Go.Proofs.YtkoncehhpiegfaaGreatDoor
