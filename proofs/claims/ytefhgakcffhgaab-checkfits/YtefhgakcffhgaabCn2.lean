/- The program's node in memory: its block, its rows; place, In, Head, Tail, neighbour, is. -/
import Derived.Test.YtefhgakcffhgaabCn
namespace Go.Proofs.Ytefhgakcffhgaab
open Go.RowKit Go.Lib Go.Maps

def goodC (c : CmdD) : Prop := intsC c ∧ c.writes.length ≤ 40
/-- Commands in a row of one's own. -/
def RowC (w : World) (L : Nat) (v : Value) (cs : List CmdD) : Prop :=
  ∃ us : List Value, us.length = cs.length ∧ w.ownsRow L 49 4 v cs.length (logCells cs us) ∧ (∀ (i : Nat) c u, cs[i]? = some c → us[i]? = some u → PairsT w L u c.writes) ∧ ∀ c ∈ cs, goodC c
theorem RowC.nil (w : World) (L : Nat) : RowC w L (.slice none 0 0) [] := ⟨[], rfl, World.ownsRow_nil _ _ _ _, fun i m u h => by simp at h, by simp⟩
theorem RowC.mod {G : Nat → Prop} {w w' : World} {L : Nat} {v : Value} {cs : List CmdD} (h : RowC w L v cs) (hm : Mod G w w') (hq : Qm w L G) (hG : ∀ k, v.ownBlock = some k → ¬ G k) : RowC w' L v cs := by
  obtain ⟨us, h1, h2, h3, h4⟩ := h
  exact ⟨us, h1, own_mod h2 hm (fun k _ _ e => hG k e), fun i m u hi hu => (h3 i m u hi hu).mod hm hq, h4⟩
theorem RowC.slice {w : World} {L : Nat} {v : Value} {cs : List CmdD} (h : RowC w L v cs) : ∃ a cap, v = .slice a cs.length cap := by
  obtain ⟨us, _, h2, _⟩ := h; exact own_slice h2
theorem logCells_cell : ∀ (cs : List CmdD) (us : List Value) (i : Nat) (c : CmdD) (u : Value), us.length = cs.length → cs[i]? = some c → us[i]? = some u → ∀ j x, (cmdCells c u)[j]? = some x → (logCells cs us)[i * 4 + j]? = some x
  | [], _, _, _, _, _, h, _, _, _, _ => by simp at h
  | _ :: _, [], _, _, _, h, _, _, _, _, _ => by simp at h
  | c' :: cs, u' :: us, 0, c, u, _, h, h', j, x, hx => by
    simp at h h'; subst h h'
    have hj : j < (cmdCells c' u').length := (List.getElem?_eq_some_iff.1 hx).1
    rw [Nat.zero_mul, Nat.zero_add, logCells, List.getElem?_append_left hj]; exact hx
  | c' :: cs, u' :: us, i + 1, c, u, hl, h, h', j, x, hx => by
    have := logCells_cell cs us i c u (by simpa using hl) (by simpa using h) (by simpa using h') j x hx
    have e : (i + 1) * 4 + j = (cmdCells c' u').length + (i * 4 + j) := by simp [cmdCells]; omega
    rw [e, logCells, List.getElem?_append_right (by omega), Nat.add_sub_cancel_left]; exact this
/-- A command of the row, cell by cell. -/
theorem RowC.at {w : World} {L : Nat} {v : Value} {cs : List CmdD} (h : RowC w L v cs) {i : Nat} {c : CmdD} (hi : cs[i]? = some c) :
    ∃ g cap u, v = .slice (some ⟨g, 0, none⟩) cs.length cap ∧ cs.length ≤ cap ∧ cap ≤ maxLen ∧ PairsT w L u c.writes ∧ goodC c ∧
      w.cell? ⟨g, i * 4, none⟩ = some (.int .i64 c.kind) ∧ w.cell? ⟨g, i * 4 + 1, none⟩ = some (.int .i64 c.tx) ∧ w.cell? ⟨g, i * 4 + 2, none⟩ = some (.int .i64 c.time) ∧ w.cell? ⟨g, i * 4 + 3, none⟩ = some u := by
  obtain ⟨us, h1, h2, h3, h4⟩ := h
  have hlt : i < cs.length := (List.getElem?_eq_some_iff.1 hi).1
  obtain ⟨u, hu⟩ : ∃ u, us[i]? = some u := ⟨_, List.getElem?_eq_getElem (by omega)⟩
  rcases h2.2 with ⟨_, h0⟩ | ⟨g, cap, cur, rfl, _, hg, hc1, hc2, _, _⟩
  · omega
  · have hc := h2.cells (g := g) rfl
    have add0 : ∀ j, (⟨g, 0, none⟩ : Addr).add j = ⟨g, j, none⟩ := fun j => by rw [Go.WideShapes.add_plain, Nat.zero_add]
    have key : ∀ j x, (cmdCells c u)[j]? = some x → w.cell? ⟨g, i * 4 + j, none⟩ = some x := fun j x hx => by
      have := hc _ _ (logCells_cell cs us i c u h1 hi hu j x hx)
      rw [add0] at this; exact this
    exact ⟨g, cap, u, rfl, hc1, hc2, h3 i c u hi hu, h4 c (List.mem_of_getElem? hi), key 0 _ rfl, key 1 _ rfl, key 2 _ rfl, key 3 _ rfl⟩
theorem own_cells {w : World} {B : Nat} {v : Value} {e : TypeId} {sz n : Nat} {xs : List Value} (ho : w.ownsRow B e sz v n xs) {k : Nat} (hk : v.ownBlock = some k) : B ≤ k ∧ k < w.heap.size ∧ ∃ cur, w.heap[k]? = some (.cells cur e (0, 0)) := by
  rcases ho.2 with ⟨e', _⟩ | ⟨g', cap, cur, e', hb, hg, _⟩
  · rw [e'] at hk; simp [Value.ownBlock] at hk
  · rw [e'] at hk; simp [Value.ownBlock] at hk; subst hk; exact ⟨hb, (Array.getElem?_eq_some_iff.1 hg).1, cur, hg⟩
/-- The program's node at block g. -/
structure NodeP (w : World) (L g : Nat) (nv lv : Value) (s : NodeS) : Prop where
  blk : Blk w g [.int .i64 s.id, .int .i64 s.epoch, nv, lv, .int .i64 s.stable] 106
  low : L ≤ g
  ns : w.ownsRow L 3 1 nv s.nodes.length (s.nodes.map (Value.int .i64))
  lg : RowC w L lv s.log
  ints : int64 s.id ∧ int64 s.epoch ∧ ∀ x ∈ s.nodes, int64 x
  few : s.nodes.length ≤ 1000000 ∧ s.log.length ≤ 500
  st : 0 ≤ s.stable ∧ s.stable ≤ s.log.length
def nodeMay (g : Nat) (nv lv : Value) (k : Nat) : Prop := k = g ∨ nv.ownBlock = some k ∨ lv.ownBlock = some k
theorem NodeP.lt {w : World} {L g : Nat} {nv lv : Value} {s : NodeS} (h : NodeP w L g nv lv s) {k : Nat} (hk : nodeMay g nv lv k) : L ≤ k ∧ k < w.heap.size ∧ ¬ St w L k := by
  rcases hk with rfl | hk | hk
  · refine ⟨h.low, h.blk.lt, ?_⟩
    rintro (e | ⟨cur, fr, e⟩)
    · have := h.low; omega
    · have := h.blk; simp only [Blk] at this; rw [this] at e; simp at e
  · obtain ⟨h1, h2, _⟩ := own_cells h.ns hk
    exact ⟨h1, h2, Qm.row h.ns (Nat.le_refl _) (by decide) k h2 hk⟩
  · obtain ⟨us, _, h2, _⟩ := h.lg
    obtain ⟨h3, h4, _⟩ := own_cells h2 hk
    exact ⟨h3, h4, Qm.row h2 (Nat.le_refl _) (by decide) k h4 hk⟩
theorem NodeP.qm {w : World} {L g : Nat} {nv lv : Value} {s : NodeS} (h : NodeP w L g nv lv s) : Qm w L (nodeMay g nv lv) := fun _ _ hk => (h.lt hk).2.2
theorem Qm.of_node {w : World} {L g : Nat} {nv lv : Value} {s : NodeS} (h : NodeP w L g nv lv s) {G : Nat → Prop} (hG : ∀ k, k < w.heap.size → G k → nodeMay g nv lv k) : Qm w L G := fun k hk hg => (h.lt (hG k hk hg)).2.2
theorem NodeP.mod {G : Nat → Prop} {w w' : World} {L g : Nat} {nv lv : Value} {s : NodeS} (h : NodeP w L g nv lv s) (hm : Mod G w w') (hq : Qm w L G) (hG : ∀ k, nodeMay g nv lv k → ¬ G k) : NodeP w' L g nv lv s :=
  ⟨h.blk.mod hm (hG g (.inl rfl)), h.low, own_mod h.ns hm (fun k _ _ e => hG k (.inr (.inl e))), h.lg.mod hm hq (fun k hk => hG k (.inr (.inr hk))), h.ints, h.few, h.st⟩
theorem NodeP.quiet {w w' : World} {L g : Nat} {nv lv : Value} {s : NodeS} (h : NodeP w L g nv lv s) (hm : Mod noBlock w w') : NodeP w' L g nv lv s := h.mod hm (Qm.none _ _) (fun _ _ => id)
theorem NodeP.drewN {w : World} {L g : Nat} {nv lv : Value} {s : NodeS} (h : NodeP w L g nv lv s) (n : Nat) : NodeP (w.drewN n) L g nv lv s := h.quiet ((Mod.refl _ w).drewN n)
theorem NodeP.apart {w : World} {L g : Nat} {nv lv : Value} {s : NodeS} (h : NodeP w L g nv lv s) : nv.ownBlock ≠ some g ∧ lv.ownBlock ≠ some g ∧ ∀ k, nv.ownBlock = some k → lv.ownBlock ≠ some k := by
  have hb := h.blk
  simp only [Blk] at hb
  obtain ⟨us, _, h2, _⟩ := h.lg
  refine ⟨fun e => ?_, fun e => ?_, fun k e e' => ?_⟩
  · obtain ⟨_, _, cur, hc⟩ := own_cells h.ns e
    rw [hb] at hc; simp at hc
  · obtain ⟨_, _, cur, hc⟩ := own_cells h2 e
    rw [hb] at hc; simp at hc
  · obtain ⟨_, _, cur, hc⟩ := own_cells h.ns e
    obtain ⟨_, _, cur', hc'⟩ := own_cells h2 e'
    rw [hc] at hc'; simp at hc'
theorem blkN5 {w : World} {g : Nat} {a0 a1 a2 a3 a4 : Value} {t : TypeId} (h : Blk w g [a0, a1, a2, a3, a4] t) :
    w.cell? ⟨g, 0, none⟩ = some a0 ∧ w.cell? ⟨g, 1, none⟩ = some a1 ∧ w.cell? ⟨g, 2, none⟩ = some a2 ∧ w.cell? ⟨g, 3, none⟩ = some a3 ∧ w.cell? ⟨g, 4, none⟩ = some a4 :=
  ⟨h.cell 0 rfl, h.cell 1 rfl, h.cell 2 rfl, h.cell 3 rfl, h.cell 4 rfl⟩

set_option maxHeartbeats 400000 in
theorem place_any (L g : Nat) (nv lv : Value) (s : NodeS) (w : World) (h : NodeP w L g nv lv s) :
    Calls Try.prog 52 #[.pointer (some ⟨g, 0, none⟩)] w fun e w' => e = .returned (.int .i64 (placeN s)) ∧ ∃ m, w' = w.drewN m := by
  obtain ⟨c0, c1, c2, c3, c4⟩ := blkN5 h.blk
  have HI := Hid.mk' (IntsV.of_own h.ns)
  clear h
  go_enter Try.func52, Try.ntmps52
  go_wp2_with fail
  go_quiet (first
    | (go_at_call 72; refine Calls.quiet_of_same (indexI_any _ _ _ _ (HI.out.drewN _)))
    | fail)
  go_wp2_with fail
  go_ret
  exact ⟨rfl, _, rfl⟩
theorem in_any (L g : Nat) (nv lv : Value) (s : NodeS) (w : World) (h : NodeP w L g nv lv s) :
    Calls Try.prog 66 #[.pointer (some ⟨g, 0, none⟩)] w fun e w' => e = .returned (.bool (inN s)) ∧ ∃ m, w' = w.drewN m := by
  have HP := Hid.mk' (place_any L g nv lv s w h)
  clear h
  go_enter Try.func66, Try.ntmps66
  go_wp2_with fail
  refine HP.out.mono ?_
  rintro e w1 ⟨rfl, m, rfl⟩
  go_wp2_with fail
  go_ret
  exact ⟨rfl, m, rfl⟩
theorem head_any (L g : Nat) (nv lv : Value) (s : NodeS) (w : World) (h : NodeP w L g nv lv s) :
    Calls Try.prog 21 #[.pointer (some ⟨g, 0, none⟩)] w fun e w' => e = .returned (.bool (headN s)) ∧ ∃ m, w' = w.drewN m := by
  have HP := Hid.mk' (place_any L g nv lv s w h)
  clear h
  go_enter Try.func21, Try.ntmps21
  go_wp2_with fail
  refine HP.out.mono ?_
  rintro e w1 ⟨rfl, m, rfl⟩
  go_wp2_with fail
  go_ret
  exact ⟨rfl, m, rfl⟩
set_option maxHeartbeats 400000 in
theorem tail_any (L g : Nat) (nv lv : Value) (s : NodeS) (w : World) (h : NodeP w L g nv lv s) :
    Calls Try.prog 42 #[.pointer (some ⟨g, 0, none⟩)] w fun e w' => e = .returned (.bool (tailN s)) ∧ ∃ m, w' = w.drewN m := by
  obtain ⟨na, ncap, hnv⟩ := own_slice h.ns
  subst hnv
  obtain ⟨c0, c1, c2, c3, c4⟩ := blkN5 h.blk
  have hf := h.few.1
  have HN := Hid.mk' h
  clear h
  go_enter Try.func42, Try.ntmps42
  go_wp2_with fail
  cases hin : inN s with
  | true =>
    have HIN : Hid (∀ n, Calls Try.prog 66 #[.pointer (some ⟨g, 0, none⟩)] (w.drewN n) fun e w' => e = .returned (.bool true) ∧ ∃ m, w' = (w.drewN n).drewN m) := fun n => by have := in_any _ _ _ _ _ _ (HN.out.drewN n); rw [hin] at this; exact this
    have HT : Hid (tailN s = (placeN s == (s.nodes.length : Int) - 1)) := by rw [Hid, tailN, hin]; rfl
    go_quiet (first
      | (go_at_call 66; refine Calls.quiet_of (HIN.out _))
      | (go_at_call 52; refine Calls.quiet_of (place_any _ _ _ _ _ _ (HN.out.drewN _)))
      | fail)
    go_wp2_with fail
    go_ret
    exact ⟨by rw [HT.out]; rfl, _, rfl⟩
  | false =>
    have HIN : Hid (∀ n, Calls Try.prog 66 #[.pointer (some ⟨g, 0, none⟩)] (w.drewN n) fun e w' => e = .returned (.bool false) ∧ ∃ m, w' = (w.drewN n).drewN m) := fun n => by have := in_any _ _ _ _ _ _ (HN.out.drewN n); rw [hin] at this; exact this
    have HT : Hid (tailN s = false) := by rw [Hid, tailN, hin]; rfl
    go_quiet (first
      | (go_at_call 66; refine Calls.quiet_of (HIN.out _))
      | (go_at_call 52; refine Calls.quiet_of (place_any _ _ _ _ _ _ (HN.out.drewN _)))
      | fail)
    go_wp2_with fail
    go_ret
    exact ⟨by rw [HT.out]; rfl, _, rfl⟩
end Go.Proofs.Ytefhgakcffhgaab
