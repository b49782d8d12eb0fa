/- It all comes down, in memory: a number picked that is small, logs that are the same, what was told is sent. -/
import Derived.Test.YtefhgakcffhgaabHd
import Derived.Test.YtefhgakcffhgaabXl
import Derived.Test.YtefhgakcffhgaabXa
import Derived.Test.YtefhgakcffhgaabXf
namespace Go.Proofs.Ytefhgakcffhgaab
open Go.RowKit Go.Lib Go.Maps
set_option linter.unusedVariables false

theorem pick_is (a : Int) (w : World) (h0 : 0 ≤ a) (h5 : a < 5) :
    Calls Try.prog 8 #[.int .i64 a, .int .i64 5] w fun e w' => e = .returned (.int .i64 a) ∧ w' = w := by
  go_enter Try.func8, Try.ntmps8
  go_wp2_with fail
  go_ret
  exact ⟨retI (by omega), rfl⟩
theorem pick5_dest (a : Int) (w : World) : Calls Try.prog 8 #[.int .i64 a, .int .i64 5] w fun e w' => ∃ k : Nat, e = .returned (.int .i64 k) ∧ k < 5 ∧ (small a → k = a.toNat) ∧ w' = w := by
  by_cases hs : small a
  · refine (pick_is a w hs.1 hs.2).mono ?_
    rintro e w' ⟨rfl, rfl⟩
    exact ⟨a.toNat, by rw [(toNat_small hs).2], (toNat_small hs).1, fun _ => rfl, rfl⟩
  · refine (pick5_any a w).mono ?_
    rintro e w' ⟨k, rfl, hk, rfl⟩
    exact ⟨k, rfl, hk, fun h => absurd h hs, rfl⟩
set_option maxHeartbeats 1000000 in
theorem log_bare (L L' : Nat) (cs : List CmdD) (va vb : Value) (w : World) (ha : RowC w L va cs) (hb : RowC w L' vb cs) (hw : ∀ c ∈ cs, c.writes = []) :
    Calls Try.prog 17 #[va, vb] w fun e w' => e = .returned (.bool true) ∧ Mod noBlock w w' := by
  obtain ⟨a, acap, rfl⟩ := ha.slice
  obtain ⟨b, bcap, rfl⟩ := hb.slice
  have HB := Hid.mk' (begins_bare L L' cs cs _ _ w (List.prefix_refl _) ha hb hw)
  clear ha hb hw
  go_enter Try.func17, Try.ntmps17
  go_wp2_with fail
  refine HB.out.mono ?_
  rintro e w5 ⟨rfl, hm5⟩
  go_wp2_with fail
  go_ret
  exact ⟨rfl, hm5⟩
/-- What was told is sent: the world has what it had, but the way. -/
theorem WorldP.sentK {w1 : World} {L g : Nat} {V : Vals} {W : WS} {B : Int} (h : WorldP w1 L g V W) (hlo : W.net.lost ≤ B) {ms : List MsgD} (hB : B + ms.length ≤ 1099511627776) {v : Value} (hr : RowM w1 L v ms) (hf : ∀ k, v.ownBlock = some k → ¬ worldMay g V k) :
    Calls Try.prog 12 #[.pointer (some ⟨g, 1, none⟩), v] w1 fun e w' => ∃ x wv', e = .returned (.int .i64 x) ∧ WorldP w' L g (V.net wv' V.mr) (wnet W (sends W.net ms)) ∧ Mod (worldMay g V) w1 w' ∧ Grew w1 g V (V.net wv' V.mr) := by
  have hk : ∀ k, v.ownBlock = some k → k < w1.heap.size := fun k hk => by
    obtain ⟨us, _, h2, _⟩ := hr
    exact (kind_row h2 hk).2.2
  refine (send_any L g V.wv V.mr W.net (fun k => v.ownBlock = some k) v ms w1 h.net hr.toV (fun k hk' => ⟨hk k hk', fun e => hf k hk' (.inl e)⟩) (by omega)).mono ?_
  rintro e w' ⟨wv', rfl, hN, hMv, hM⟩
  obtain ⟨R1, R2, R3⟩ := h.nets hN hM hMv (.inl rfl)
  exact ⟨_, wv', rfl, R1, R2, R3⟩
theorem conf_cell {w : World} {L g : Nat} {V : Vals} {W : WS} (h : WorldP w L g V W) {b n cap : Nat} (hv : V.cv = .slice (some ⟨b, 0, none⟩) n cap) {k : Nat} {x : Int} (hx : W.conf[k]? = some x) : w.cell? ⟨b, k, none⟩ = some (.int .i64 x) ∧ b < w.heap.size := by
  have hl := (List.getElem?_eq_some_iff.1 hx).1
  obtain ⟨b', cap', hv', _, hlt, _, _, hc⟩ := row_open h.crow (by omega)
  rw [hv] at hv'
  simp only [Value.slice.injEq, Option.some.injEq, Addr.mk.injEq] at hv'
  obtain ⟨⟨rfl, _⟩, _, _⟩ := hv'
  exact ⟨hc k _ (by rw [List.getElem?_map, hx]; rfl), hlt⟩
theorem stables {w : World} {L g : Nat} {V : Vals} {W : WS} (h : WorldP w L g V W) : ∀ i, i < 5 → (W.node i).stable ≤ (W.node i).log.length := fun i hi => (h.node i hi).st.2
end Go.Proofs.Ytefhgakcffhgaab
