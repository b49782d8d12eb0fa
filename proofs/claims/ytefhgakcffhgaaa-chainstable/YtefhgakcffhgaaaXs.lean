/- What is called stable is noted: a beginning of a log, laid into the world. -/
import Derived.Test.YtefhgakcffhgaaaXl
import Derived.Test.YtefhgakcffhgaaaXb2
import Derived.Test.YtefhgakcffhgaaaXc
import Derived.Test.YtefhgakcffhgaaaXa
import Derived.Test.YtefhgakcffhgaaaXf
namespace Go.Proofs.Ytefhgakcffhgaaa
open Go.RowKit Go.Lib Go.Maps
set_option linter.unusedVariables false

theorem logCells_take : ∀ (cs : List CmdD) (us : List Value) (k : Nat), us.length = cs.length → logCells (cs.take k) (us.take k) = (logCells cs us).take (k * 4)
  | [], us, k, h => by simp [logCells]
  | c :: cs, [], k, h => by simp at h
  | c :: cs, u :: us, 0, h => by simp [logCells]
  | c :: cs, u :: us, k + 1, h => by
    have ih := logCells_take cs us k (by simpa using h)
    rw [List.take_succ_cons, List.take_succ_cons, logCells, logCells, ih, show (k + 1) * 4 = 4 + k * 4 by omega]
    simp [cmdCells, List.take_succ_cons, Nat.add_comm 4 (k * 4)]
theorem RowC.cut {w : World} {L n cap : Nat} {a : Option Addr} {cs : List CmdD} (h : RowC w L (.slice a n cap) cs) {k : Nat} (hk : k ≤ cs.length) : RowC w L (.slice a k cap) (cs.take k) ∧ k ≤ cap := by
  obtain ⟨us, h1, h2, h3, h4⟩ := h
  have hlk : (cs.take k).length = k := by rw [List.length_take]; omega
  obtain ⟨e1, e2⟩ := h2
  have hcap : k ≤ cap := by
    rcases e2 with ⟨e, hn⟩ | ⟨g, cp, cur, e, q1, q2, q3, q4, q5, q6⟩
    · omega
    · simp only [Value.slice.injEq] at e; obtain ⟨_, _, rfl⟩ := e; omega
  refine ⟨⟨us.take k, by simp [h1], ?_, fun i c u hi hu => ?_, fun c hc => h4 c (List.mem_of_mem_take hc)⟩, hcap⟩
  · rw [hlk, logCells_take cs us k h1]
    refine ⟨by rw [List.length_take, e1]; omega, ?_⟩
    rcases e2 with ⟨e, hn⟩ | ⟨g, cp, cur, e, q1, q2, q3, q4, q5, q6⟩
    · simp only [Value.slice.injEq] at e
      obtain ⟨rfl, _, rfl⟩ := e
      obtain rfl : k = 0 := by omega
      exact .inl ⟨rfl, rfl⟩
    · simp only [Value.slice.injEq] at e
      obtain ⟨rfl, _, rfl⟩ := e
      refine .inr ⟨g, cap, cur, rfl, q1, q2, hcap, q4, q5, ?_⟩
      rw [← q6, List.take_take, Nat.min_eq_left (by omega)]
  · have hi' : i < k := by
      have := (List.getElem?_eq_some_iff.1 hi).1
      omega
    rw [List.getElem?_take_of_lt hi'] at hi hu
    exact h3 i c u hi hu
set_option maxHeartbeats 1000000 in
theorem clog_nil (L g : Nat) (nv lv : Value) (s : NodeS) (w : World) (h : NodeP w L g nv lv s) (h0 : s.log = []) :
    Calls Try.prog 12 #[.pointer (some ⟨g, 0, none⟩)] w fun e w' => ∃ b, e = .returned (.slice (some ⟨b, 0, none⟩) 0 0) ∧ RowC w' L (.slice (some ⟨b, 0, none⟩) 0 0) [] ∧ freshV w (.slice (some ⟨b, 0, none⟩) 0 0) ∧ Mod noBlock w w' := by
  obtain ⟨i0, hi, hz0, hz1, hz2⟩ := info_parts Try.info62
  obtain ⟨a, cap, hlv⟩ := h.lg.slice
  subst hlv
  have c0 := h.blk.cell 3 rfl
  have hlow := h.low
  have hgl := h.blk.lt
  rw [h0] at c0
  simp only [List.length_nil] at c0
  have hmk := run_make (P := Try.prog) w 31 62 i0 _ Try.underlying31 hi hz0 .i64 .i64 0 0 (by omega) (by omega) (by rw [hz2]; omega) (by omega)
  rw [hz1] at hmk
  simp only [Int.toNat_zero] at hmk
  obtain ⟨cur, hcur⟩ : ∃ c, c = madeCells (Value.agg #[.int .i64 0, .int .i64 0, .int .i64 0, .slice none 0 0]).cells (0 * 4) := ⟨_, rfl⟩
  rw [← hcur] at hmk
  have hcs : cur.size = 0 * 4 := by rw [hcur]; simp [madeCells]
  clear hcur
  have hR0 : RowC (w.alloc (.cells cur 62)) L (.slice (some ⟨w.heap.size, 0, none⟩) 0 0) [] :=
    ⟨[], rfl, own_base (own_madeC w 0 cur hcs (by unfold maxLen; omega)) (by omega), fun i m u h => by simp at h, by simp⟩
  have hM0 : Mod noBlock w (w.alloc (.cells cur 62)) := (Mod.refl _ w).alloc _
  have c1 := hM0.cell c0 id
  clear h
  go_enter Try.func12, Try.ntmps12
  go_wp2_with fail
  go_loopw [3, 17] (fun v i wr => i = .int .i64 0 ∧ v = .slice (some ⟨w.heap.size, 0, none⟩) 0 0 ∧ RowC wr L (.slice (some ⟨w.heap.size, 0, none⟩) 0 0) [] ∧ Mod noBlock w wr) (fun _ i _ => 0)
  case atStart => exact ⟨rfl, rfl, hR0, hM0⟩
  case round =>
    obtain ⟨rfl, rfl, hR, hM⟩ := hrel
    clear hR0 hM0 c1 c0 hmk
    go_wp2_with fail
    go_ret
    exact ⟨_, rfl, hR, fun x hx => by simp [Value.ownBlock] at hx; omega, hM⟩
/-- A log is told as a row that is there. -/
theorem clogS (L g : Nat) (nv lv : Value) (s : NodeS) (w : World) (h : NodeP w L g nv lv s) : Calls Try.prog 12 #[.pointer (some ⟨g, 0, none⟩)] w fun e w' => ∃ b cap, e = .returned (.slice (some ⟨b, 0, none⟩) s.log.length cap) ∧ RowC w' L (.slice (some ⟨b, 0, none⟩) s.log.length cap) s.log ∧ freshV w (.slice (some ⟨b, 0, none⟩) s.log.length cap) ∧ s.log.length ≤ cap ∧ cap ≤ maxLen ∧ Mod noBlock w w' := by
  by_cases h0 : s.log = []
  · refine (clog_nil L g nv lv s w h h0).mono ?_
    rintro e w' ⟨b, rfl, hR, hf, hm⟩
    rw [h0]
    exact ⟨b, 0, rfl, hR, hf, Nat.zero_le _, Nat.zero_le _, hm⟩
  · refine (clogF L g nv lv s w h).mono ?_
    rintro e w' ⟨a, cap, rfl, hR, hf, hm⟩
    have hR' := hR
    obtain ⟨us, h1, h2, _⟩ := hR'
    rcases h2.2 with ⟨_, hn⟩ | ⟨g', cap', cur, hv, q1, q2, q3, q4, _⟩
    · exact absurd (List.eq_nil_of_length_eq_zero hn) h0
    · simp only [Value.slice.injEq] at hv
      obtain ⟨rfl, _, rfl⟩ := hv
      exact ⟨g', cap, rfl, hR, hf, q3, q4, hm⟩
def Vals.stab (V : Vals) (sv : Value) : Vals := ⟨V.nodesv, V.dv, V.ev, V.cv, sv, V.wv, V.mr, V.b, V.nv, V.lv⟩
def wstab (W : WS) (S : List CmdD) : WS := ⟨W.node, W.net, W.down, W.ever, W.epoch, W.conf, S⟩
/-- Another list is noted as stable. -/
theorem WorldP.stabs {w w1 : World} {L g : Nat} {V : Vals} {W : WS} (h : WorldP w L g V W) (hm : Mod noBlock w w1) {sv : Value} {S : List CmdD} (ho : RowC w1 L sv S) (hfr : freshV w sv) :
    WorldP (w1.setCell ⟨g, 8, none⟩ sv) L g (V.stab sv) (wstab W S) ∧ Mod (worldMay g V) w (w1.setCell ⟨g, 8, none⟩ sv) ∧ Grew w g V (V.stab sv) := by
  have h1 := h.quiet hm
  have hL : L ≤ w.heap.size := by have := h.net.low; have := h.net.blk.lt; omega
  have hm2 : Mod (oneBlock g) w1 (w1.setCell ⟨g, 8, none⟩ sv) := Mod.setBlk g 8 _
  have hq : Qm w1 L (oneBlock g) := Qm.of_net h1.net (fun k _ e => .inl e)
  have hg : kindOf w1 g = some 44 := kind_blk h1.net.blk
  have off : ∀ (k : Nat) (t : Option TypeId), kindOf w1 k = t → t ≠ some 44 → ¬ oneBlock g k := fun k t hk hn e => by
    simp only [oneBlock] at e; subst e; exact kind_ne hk hg hn
  obtain ⟨a1, a2, a3⟩ := h1.net.apart
  refine ⟨⟨⟨h1.net.blk.set 8 _, h1.net.low, h1.net.row.mod hm2 hq (fun k hk e => a1 (by rw [hk]; rw [e])), h1.net.dn.mod hm2 (fun k hk e => a2 (by rw [hk]; rw [e])), h1.net.few, h1.net.lo⟩, ?_, fun j hj => ?_, h.apart, ?_, ?_, h.de, ?_, h.cn, ?_, fun i hi k hk e => ?_⟩, (hm.mono (fun _ _ e => e.elim)).trans (hm2.mono (fun k _ e => .inl (.inl e))), fun k hk => ?_⟩
  · exact own_mod h1.nrow hm2 (fun k _ _ hk => off k _ (kind_row h1.nrow hk).1 (by decide))
  · refine (h1.node j hj).mod hm2 hq (fun k hk => ?_)
    rcases (h1.node j hj).kind hk with e | e | e
    · exact off k _ e (by decide)
    · exact off k _ e (by decide)
    · exact off k _ e (by decide)
  · exact own_mod h1.drow hm2 (fun k _ _ hk => off k _ (kind_row h1.drow hk).1 (by decide))
  · exact own_mod h1.erow hm2 (fun k _ _ hk => off k _ (kind_row h1.erow hk).1 (by decide))
  · exact own_mod h1.crow hm2 (fun k _ _ hk => off k _ (kind_row h1.crow hk).1 (by decide))
  · exact ho.mod hm2 hq (fun k hk => off k _ (kind_rowC ho hk).1 (by decide))
  · have := hfr k hk
    have := (kind_rowC (h.node i hi).lg e).2.2
    omega
  · rcases hk with hk | hk | hk | hk | hk | hk | hk
    · exact .inl (.inl hk)
    · exact .inl (.inr (.inl hk))
    · exact .inl (.inr (.inr (.inl hk)))
    · exact .inl (.inr (.inr (.inr (.inl hk))))
    · exact .inl (.inr (.inr (.inr (.inr (.inl hk)))))
    · exact .inl (.inr (.inr (.inr (.inr (.inr (.inl hk))))))
    · exact .inr (hfr k hk)
theorem Inv.stabs {W : WS} {n : Nat} {B : Int} (h : Inv W n B) (S : List CmdD) : Inv (wstab W S) n B :=
  ⟨fun i hi => ⟨(h.each i hi).ident, (h.each i hi).out, (h.each i hi).nodes, (h.each i hi).own, (h.each i hi).was, (h.each i hi).bare, (h.each i hi).len, (h.each i hi).ep⟩, h.nodup, h.conf, h.some_, h.ahead, h.msgs, h.dn, h.lo, h.ep, h.ndn, h.old⟩
theorem InvS.stabs {W : WS} (h : InvS W) {S : List CmdD} (hS : Com W S) : InvS (wstab W S) := ⟨h.own, h.st, h.ms, hS⟩
/-- Of two beginnings of a list the shorter one is the beginning of the other one. -/
theorem prefix_of_len {α : Type} {a b c : List α} (h1 : a <+: c) (h2 : b <+: c) (hl : a.length ≤ b.length) : a <+: b := List.prefix_of_prefix_length_le h1 h2 hl
/-- What one of the configuration calls stable is a beginning of what is noted. -/
theorem InvS.begins {W : WS} {n : Nat} {B : Int} (h : InvS W) (hI : Inv W n B) (hk : ∀ j, j < 5 → inN (W.node j) = true → (W.node j).stable ≤ W.stable.length) {x : Int} (hx : x ∈ W.conf) : (W.node x.toNat).log.take (W.node x.toNat).stable.toNat <+: W.stable := by
  obtain ⟨hs, _⟩ := hI.conf x hx
  have h5 := (toNat_small hs).1
  obtain ⟨⟨s0, s1⟩, _⟩ := h.st _ h5
  cases hin : inN (W.node x.toNat) with
  | false =>
    rw [(hI.each _ h5).out hin]
    simp
  | true =>
    refine prefix_of_len (List.take_prefix _ _) (h.com x hx) ?_
    have := hk _ h5 hin
    rw [List.length_take]
    omega
end Go.Proofs.Ytefhgakcffhgaaa
