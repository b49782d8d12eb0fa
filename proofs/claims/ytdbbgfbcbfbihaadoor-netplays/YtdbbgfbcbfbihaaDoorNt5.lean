/- The program's All. -/
import Derived.Test.YtdbbgfbcbfbihaaDoorNt4
import Derived.Laws.IdiomCopy
import Derived.Deep.RegionLaw
namespace Go.Proofs.YtdbbgfbcbfbihaaDoor
open Go.RowKit Go.Lib Go.Maps

theorem own_made (w : World) (n : Nat) (cur : Array Value) (hc : cur.size = n * 9) (hm : n ≤ maxLen) : (w.alloc (.cells cur 26)).ownsRow w.heap.size 26 9 (.slice (some ⟨w.heap.size, 0, none⟩) 0 n) 0 [] :=
  ⟨rfl, .inr ⟨w.heap.size, n, cur, rfl, Nat.le_refl _, heap_alloc_new w _, Nat.zero_le _, hm, hc, by simp⟩⟩
theorem Qm.row {w : World} {B L : Nat} {e : TypeId} {size n : Nat} {v : Value} {xs : List Value} (h : w.ownsRow B e size v n xs) (hL : L ≤ B) (he : e ≠ 84) : Qm w L (fun k => v.ownBlock = some k) := fun k _ hk => by
  rcases h.2 with ⟨e', _⟩ | ⟨g', cap, cur, e', h1, hg, _⟩
  · rw [e'] at hk; simp [Value.ownBlock] at hk
  · rw [e'] at hk; simp [Value.ownBlock] at hk; subst hk
    rintro (e1 | ⟨cur', fr, e1⟩)
    · omega
    · rw [hg] at e1; simp at e1; exact he e1.2.1
/-- One message more in a row of one's own. -/
theorem RowM.push {w w6 : World} {L : Nat} {v v6 u : Value} {ms : List MsgD} {m : MsgD} {us : List Value} {o : Obj} (hus : us.length = ms.length) (hrow : w.ownsRow L 26 9 v ms.length (msgsCells ms us))
    (hps : ∀ (i : Nat) m u, ms[i]? = some m → us[i]? = some u → PairsT w L u m.cmd.writes) (hgd : ∀ m ∈ ms, goodM m) (hu : PairsT w L u m.cmd.writes) (hgm : goodM m)
    (hgrow : (w.alloc o).grownBy w6 v.ownBlock) (hown6 : w6.ownsRow L 26 9 v6 (ms.length + 1) (msgsCells ms us ++ msgCells m u)) : RowM w6 L v6 (ms ++ [m]) := by
  have hm6 : Mod (fun k => v.ownBlock = some k) w w6 := ((Mod.refl _ w).alloc o).grown hgrow (fun x hx _ => hx)
  have hq6 := Qm.row hrow (Nat.le_refl _) (by decide)
  refine ⟨us ++ [u], by simp [hus], by rw [msgsCells_snoc _ _ _ _ hus]; simpa using hown6, fun i m' u' hi hu' => ?_, fun m' hm' => ?_⟩
  · by_cases hlt : i < ms.length
    · rw [List.getElem?_append_left hlt] at hi
      rw [List.getElem?_append_left (by omega)] at hu'
      exact (hps i m' u' hi hu').mod hm6 hq6
    · have hi' : i = ms.length := by
        rcases Nat.lt_or_ge i (ms.length + 1) with h' | h'
        · omega
        · rw [List.getElem?_eq_none (by simpa using h')] at hi; cases hi
      subst hi'
      rw [List.getElem?_append_right (Nat.le_refl _)] at hi
      rw [List.getElem?_append_right (by omega)] at hu'
      simp [hus] at hi hu'
      subst hi hu'
      exact hu.mod hm6 hq6
  · rcases List.mem_append.1 hm' with e | e
    · exact hgd m' e
    · simp at e; subst e; exact hgm

set_option maxRecDepth 100000 in
set_option maxHeartbeats 1000000 in
theorem all_any (L g : Nat) (wv : Value) (mr : Option Nat) (s : NetS) (w : World) (h : NetP w L g wv mr s) :
    Calls Tryd.prog 35 #[.pointer (some ⟨g, 0, none⟩)] w fun e w' => ∃ v, e = .returned v ∧ RowM w' L v s.way ∧ Mod noBlock w w' := by
  obtain ⟨i0, hi, hz0, hz1, hz2⟩ := info_parts Tryd.info26
  obtain ⟨a, cap, hwv⟩ := h.row.slice
  subst hwv
  have c0 := h.blk.cell 0 rfl
  have hf := h.few
  have hlow := h.low
  have hgl := h.blk.lt
  have hmk := run_make (P := Tryd.prog) w 59 26 i0 _ Tryd.underlying59 hi hz0 .i64 .i64 0 s.way.length (by omega) (by omega) (by rw [hz2]; omega) (by omega)
  rw [hz1] at hmk
  simp only [Int.toNat_natCast, Int.toNat_zero] at hmk
  obtain ⟨cur, hcur⟩ : ∃ c, c = madeCells (Value.agg #[.int .i64 0, .int .i64 0, .int .i64 0, .int .i64 0, .int .i64 0, .int .i64 0, .int .i64 0, .int .i64 0, .slice none 0 0]).cells (s.way.length * 9) := ⟨_, rfl⟩
  rw [← hcur] at hmk
  have hcs : cur.size = s.way.length * 9 := by rw [hcur]; simp [madeCells]
  clear hcur
  have hR0 : RowM (w.alloc (.cells cur 26)) L (.slice (some ⟨w.heap.size, 0, none⟩) 0 s.way.length) [] :=
    ⟨[], rfl, own_base (own_made w s.way.length cur hcs (by unfold maxLen; omega)) (by omega), fun i m u h => by simp at h, by simp⟩
  have hM0 : Mod noBlock w (w.alloc (.cells cur 26)) := (Mod.refl _ w).alloc _
  have c1 := hM0.cell c0 id
  have HN := Hid.mk' h
  clear h
  go_enter Tryd.func35, Tryd.ntmps35
  go_wp2_with fail
  go_loopw [3, 17] (fun v i wr => ∃ k : Nat, k ≤ s.way.length ∧ i = .int .i64 k ∧ RowM wr L v (s.way.take k) ∧ (∀ x, v.ownBlock = some x → w.heap.size ≤ x) ∧ Mod noBlock w wr) (fun _ i _ => s.way.length - (intOf i).toNat)
  case atStart => exact ⟨0, Nat.zero_le _, rfl, hR0, fun x hx => by simp [Value.ownBlock] at hx; omega, hM0⟩
  case round =>
    obtain ⟨k, hk, rfl, hR, hfr, hM⟩ := hrel
    clear hR0 hM0 c1 c0 hmk
    have hNr := HN.out.mod hM (Qm.none _ _) (fun _ _ => id)
    by_cases hlt : k < s.way.length
    · obtain ⟨m, hm⟩ : ∃ m, s.way[k]? = some m := ⟨_, List.getElem?_eq_getElem hlt⟩
      obtain ⟨b, bcap, u, hv, _, _, hu, hgm, q0, q1, q2, q3, q4, q5, q6, q7, q8⟩ := hNr.row.at hm
      simp only [Value.slice.injEq] at hv
      obtain ⟨rfl, _, rfl⟩ := hv
      obtain ⟨ua, ucap, rfl⟩ : ∃ ua ucap, u = .slice ua m.cmd.writes.length ucap := by obtain ⟨ua, ucap, h, _⟩ := hu; exact ⟨ua, ucap, h⟩
      have HT : Hid (s.way.take (k + 1) = s.way.take k ++ [m]) := by
        rw [Hid, List.take_succ_eq_append_getElem hlt]
        rw [List.getElem?_eq_getElem hlt] at hm
        simp at hm; rw [hm]
      have HLN : Hid ((s.way.take k).length = k) := by rw [Hid, List.length_take]; omega
      have hm1 : Mod noBlock wr (wr.alloc (.cells #[.int .i64 m.kind, .int .i64 m.frm, .int .i64 m.to, .int .i64 m.epoch, .int .i64 m.n, .int .i64 m.cmd.kind, .int .i64 m.cmd.tx, .int .i64 m.cmd.time, .slice ua m.cmd.writes.length ucap] 26)) := (Mod.refl _ wr).alloc _
      have HOM := Hid.mk' (ownM_any L m _ _ (hu.mod hm1 (Qm.none _ _)) (by have := hgm.2; omega))
      go_wp2_with fail
      refine HOM.out.mono ?_
      rintro e w5 ⟨u5, rfl, hown5, hm5⟩
      obtain ⟨ua5, uc5, rfl⟩ := own_slice hown5
      have hm15 := hm1.trans hm5
      have hR5 := hR.mod hm15 (Qm.none _ _) (fun _ _ => id)
      obtain ⟨us, hus, hrow, hps, hgd⟩ := hR5
      have HROW := Hid.mk' hrow
      have HPS := Hid.mk' hps
      have HGD := Hid.mk' hgd
      have HU := Hid.mk' (PairsT.of_own (L := L) hown5)
      have hM5 := hM.trans hm15
      have hz5 := hM5.size
      rw [HLN.out] at HROW
      have hk63 : k + 1 ≤ maxLen := by unfold maxLen; omega
      have hk47 : (k + 1) * 88 ≤ 140737488355328 := by omega
      simp only [msgV]
      clear hrow hps hgd hown5 HOM hR hu hm5 hm1 q0 q1 q2 q3 q4 q5 q6 q7 q8
      go_wp2_with (first
        | (at_builtin; refine wpList_append_own_at _ rfl (.tmp 21) (.tmp 24) 59 rfl L 26 i0 _ 9 88 Tryd.underlying59 hi hz0 hz1 hz2 rfl (by omega) _ _ _ rfl (HROW.out.alloc _) ⟨w5.heap.size, 0, none⟩ 1 1 (msgCells m (.slice ua5 m.cmd.writes.length uc5)) rfl rfl (World.news_of_block (heap_alloc_new w5 _)) (msg_one _ _ _ _) hk63 hk47 (by simp; omega) ?_)
        | fail)
      intro v6 w6 hown6 hgrow _ hloc
      have hR6 : RowM w6 L v6 (s.way.take k ++ [m]) := RowM.push hus (by rw [HLN.out]; exact HROW.out) HPS.out HGD.out HU.out hgm hgrow (by rw [HLN.out]; exact hown6)
      have hM6 : Mod noBlock w w6 := hM5.trans' (((Mod.refl _ w5).alloc _).grown (G := fun k => u3.ownBlock = some k) hgrow (fun x hx _ => hx)) (fun i hi e => by have := hfr i e; omega)
      have hfr6 : ∀ x, v6.ownBlock = some x → w.heap.size ≤ x := fun x hx => by
        rcases hloc with e | e
        · exact hfr x (by rw [← e]; exact hx)
        · rw [e] at hx; simp at hx; omega
      clear hown6 hgrow hloc HROW HPS HGD HU hM5 hM
      go_wp2_with fail
      go_roundw
      case rel => exact ⟨k + 1, by omega, by go_num, by rw [HT.out]; exact hR6, hfr6, hM6⟩
      case measure => simp [intOf]; omega
    · have hkn : k = s.way.length := by omega
      subst hkn
      rw [List.take_length] at hR
      go_wp2_with fail
      go_ret
      exact ⟨_, rfl, hR, hM⟩
end Go.Proofs.YtdbbgfbcbfbihaaDoor
