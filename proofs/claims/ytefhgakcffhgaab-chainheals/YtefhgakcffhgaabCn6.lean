/- The program's node: Tick; the log told on (forward). -/
import Derived.Test.YtefhgakcffhgaabCn5
namespace Go.Proofs.Ytefhgakcffhgaab
open Go.RowKit Go.Lib Go.Maps

def plainMsg (kind n : Int) : MsgD := ⟨kind, 0, 0, 0, n, zeroCmd⟩
def stableN (s : NodeS) (n : Int) : NodeS := ⟨s.id, s.epoch, s.nodes, s.log, n⟩
def tickN (s : NodeS) : NodeS × List MsgD := if tailN s then (stableN s s.log.length, sendN (stableN s s.log.length) (-1) (plainMsg 4 s.log.length)) else (s, sendN s 1 (plainMsg 1 s.log.length))
theorem plain_good (kind n : Int) (hk : int64 kind) (hn : int64 n) : int64 (plainMsg kind n).kind ∧ int64 (plainMsg kind n).n ∧ goodC (plainMsg kind n).cmd := by
  refine ⟨hk, hn, ⟨?_, ?_, ?_⟩, ?_⟩ <;> simp [plainMsg, zeroCmd, int64]
theorem NodeP.stabled {w : World} {L g : Nat} {nv lv : Value} {s : NodeS} (h : NodeP w L g nv lv s) (n : Int) (hn : 0 ≤ n ∧ n ≤ s.log.length) :
    NodeP (w.setCell ⟨g, 4, none⟩ (.int .i64 n)) L g nv lv (stableN s n) ∧ Mod (oneBlock g) w (w.setCell ⟨g, 4, none⟩ (.int .i64 n)) := by
  obtain ⟨a1, a2, _⟩ := h.apart
  have hm : Mod (oneBlock g) w (w.setCell ⟨g, 4, none⟩ (.int .i64 n)) := Mod.setBlk g 4 _
  have hq : Qm w L (oneBlock g) := Qm.of_node h (fun k _ e => .inl e)
  exact ⟨⟨h.blk.set 4 _, h.low, own_mod h.ns hm (fun k _ _ hk e => a1 (by rw [hk]; rw [e])), h.lg.mod hm hq (fun k hk e => a2 (by rw [hk]; rw [e])), h.ints, h.few, hn⟩, hm⟩

set_option maxRecDepth 100000 in
set_option maxHeartbeats 1000000 in
theorem ctick_any (L g : Nat) (nv lv : Value) (s : NodeS) (w : World) (h : NodeP w L g nv lv s) :
    Calls Try.prog 13 #[.pointer (some ⟨g, 0, none⟩)] w fun e w' => ∃ v, e = .returned v ∧ NodeP w' L g nv lv (tickN s).1 ∧ RowM w' L v (tickN s).2 ∧ freshV w v ∧ Mod (oneBlock g) w w' := by
  obtain ⟨la, lcap, hlv⟩ := h.lg.slice
  subst hlv
  have HT := Hid.mk' (tail_any L g nv _ s w h)
  have hlow := h.low
  have hfew := h.few
  go_enter Try.func13, Try.ntmps13
  go_wp2_with fail
  refine HT.out.mono ?_
  rintro e w1 ⟨rfl, m1, rfl⟩
  have h1 := h.drewN m1
  have hmz : Mod noBlock w (w.drewN m1) := (Mod.refl _ w).drewN m1
  obtain ⟨c0, c1, c2, c3, c4⟩ := blkN5 h1.blk
  have f4 := h1.blk.frozen 4
  have hgz := h1.blk.lt
  clear HT h
  cases ht : tailN s with
  | false =>
    have HK : Hid (tickN s = (s, sendN s 1 (plainMsg 1 s.log.length))) := by rw [Hid, tickN, ht]; rfl
    have HS := Hid.mk' (csend_any L g nv _ s 1 (plainMsg 1 s.log.length) (.slice none 0 0) (w.drewN m1) h1 (.inl rfl) (PairsT.nil _ _) (plain_good _ _ (by simp [int64]) (by simp only [int64]; omega)))
    have HN := Hid.mk' h1
    clear h1
    go_wp2_with fail
    refine HS.out.mono ?_
    rintro e w2 ⟨v, rfl, hR, hfv, hm2⟩
    clear HS
    go_wp2_with fail
    go_ret
    exact ⟨v, rfl, by rw [HK.out]; exact HN.out.quiet hm2, by rw [HK.out]; exact hR, hfv, (hmz.trans hm2).mono (fun _ _ e => e.elim)⟩
  | true =>
    have HK : Hid (tickN s = (stableN s s.log.length, sendN (stableN s s.log.length) (-1) (plainMsg 4 s.log.length))) := by rw [Hid, tickN, ht]; rfl
    obtain ⟨hN2, hm2⟩ := h1.stabled s.log.length (by omega)
    have d4 := hN2.blk.cell 4 rfl
    have HS := Hid.mk' (csend_any L g nv _ (stableN s s.log.length) (-1) (plainMsg 4 s.log.length) (.slice none 0 0) _ hN2 (.inr rfl) (PairsT.nil _ _) (plain_good _ _ (by simp [int64]) (by simp only [int64]; omega)))
    have HN := Hid.mk' hN2
    have HM := Hid.mk' hm2
    simp only [stableN] at d4
    clear h1 hN2 hm2
    go_wp2_with fail
    refine HS.out.mono ?_
    rintro e w3 ⟨v, rfl, hR, hfv, hm3⟩
    clear HS
    go_wp2_with fail
    go_ret
    refine ⟨v, rfl, by rw [HK.out]; exact HN.out.quiet hm3, by rw [HK.out]; exact hR, fun k hk => ?_, ((hmz.mono (fun _ _ e => e.elim)).trans HM.out).trans (hm3.mono (fun _ _ e => e.elim))⟩
    have := hfv k hk
    simpa using this
end Go.Proofs.Ytefhgakcffhgaab
