/- wire.Put and ref.Put write 'enc'. -/
import Derived.Test.YtllockbjbjmglaaRows
import Derived.Test.YtllockbjbjmglaaMath
import Derived.WalkKit
namespace Go.Proofs.Ytllockbjbjmglaa
open Go.RowKit

theorem Try.info5 : (Try.prog.info? 5).map (fun i => (i.zero, i.size, i.bytes)) = some (some (.int .u8 0), 1, 1) := by kernel_rfl

theorem one_at (w : World) (x : Value) (e : TypeId) : ∀ j u, [x][j]? = some u → (w.alloc (.cells #[x] e)).cell? ((⟨w.heap.size, 0, none⟩ : Addr).add j) = some u := by
  intro j u hj
  match j, hj with
  | 0, hj => simp at hj; subst hj; simp [Addr.add]
theorem one_u8 (x : Int) : ∀ u ∈ [Value.int .u8 x], u.oneCell' = true := by
  intro u hu; simp at hu; subst hu; rfl

set_option maxHeartbeats 400000 in
theorem put_any (B : Nat) (w : World) (v : Value) (m : Nat) (xs : List Value) (n : Nat) (hn : (n : Int) ≤ 1099511627776) (hm : (m : Int) ≤ 1099511627776)
    (hown : w.ownsRow B 5 1 v m xs) (hB : B ≤ w.heap.size) :
    Calls Try.prog 4 #[v, .int .i64 n] w fun e w' => ∃ v', e = .returned v' ∧ w'.ownsRow B 5 1 v' (m + (enc n).length) (xs ++ (enc n).map (Value.int .u8)) ∧ Below B w w' := by
  obtain ⟨i0, hi, hz0, hz1, hz2⟩ := info_parts Try.info5
  go_enter Try.func4, Try.ntmps4
  go_wp2
  go_loopw [0, 1] (fun v' i wr => ∃ (j : Nat) (pre : List Int), (j : Int) ≤ 1099511627776 ∧ i = .int .i64 j ∧ pre ++ enc j = enc n ∧ wr.ownsRow B 5 1 v' (m + pre.length) (xs ++ pre.map (Value.int .u8)) ∧ Below B w wr)
    (fun _ i _ => (intOf i).toNat)
  case atStart => exact ⟨n, [], hn, rfl, rfl, by simpa using hown, Below.refl _ _⟩
  case round =>
    obtain ⟨j, pre, hj, rfl, hpre, hownr, hbr⟩ := hrel
    have hpl := enc_pre hn hpre
    have HP : Hid (pre ++ enc j = enc n) := hpre
    clear hpre hown
    by_cases hlt : 127 < (j : Int)
    · go_wp2_with (at_builtin; refine wpList_append_own _ rfl (.tmp 7) (.tmp 12) 22 rfl B 5 i0 (.int .u8 0) 1 1 Try.underlying22 hi hz0 hz1 hz2 rfl (by decide) _ _ _ rfl (hownr.alloc _) ⟨wr.heap.size, 0, none⟩ 1 1 [.int .u8 (bits BinOp.or IntKind.i64 (bits BinOp.and IntKind.i64 (↑j) 127) 128 % 256)] rfl rfl (one_at _ _ _) (one_u8 _) (by unfold maxLen; omega) (by omega) (by have := hbr.size; simp; omega) ?_)
      intro v' w1 hown' hgrow _
      rw [byte_or] at hown'
      have hb' : Below B w w1 := (hbr.alloc (by have := hbr.size; omega) _).grown hgrow (by have := hbr.size; simp; omega) (fun k hk => (hownr.lt k hk).1)
      clear hgrow hownr
      go_wp2_with fail
      go_roundw
      case rel => exact ⟨j / 128, pre ++ [((j % 128 + 128 : Nat) : Int)], by omega, by go_num, enc_step hlt HP.out, by simpa [Nat.add_assoc] using hown', hb'⟩
      case measure => simp [intOf]; omega
    · go_wp2_with (at_builtin; refine wpList_append_own _ rfl (.tmp 16) (.tmp 19) 22 rfl B 5 i0 (.int .u8 0) 1 1 Try.underlying22 hi hz0 hz1 hz2 rfl (by decide) _ _ _ rfl (hownr.alloc _) ⟨wr.heap.size, 0, none⟩ 1 1 [.int .u8 (j : Int)] rfl rfl (one_at _ _ _) (one_u8 _) (by unfold maxLen; omega) (by omega) (by have := hbr.size; simp; omega) ?_)
      intro v' w1 hown' hgrow _
      have hb' : Below B w w1 := (hbr.alloc (by have := hbr.size; omega) _).grown hgrow (by have := hbr.size; simp; omega) (fun k hk => (hownr.lt k hk).1)
      clear hgrow hownr
      go_wp2_with fail
      go_ret
      refine ⟨v', rfl, ?_, hb'⟩
      rw [← enc_last (by omega) HP.out]
      simpa [Nat.add_assoc] using hown'

theorem own_one (w : World) (x : Value) (e : TypeId) : (w.alloc (.cells #[x] e)).ownsRow w.heap.size e 1 (.slice (some ⟨w.heap.size, 0, none⟩) 1 1) 1 [x] :=
  ⟨rfl, .inr ⟨w.heap.size, 1, #[x], rfl, Nat.le_refl _, heap_alloc_new w _, Nat.le_refl _, by unfold maxLen; omega, rfl, rfl⟩⟩
theorem own_below {w w' : World} {B B' : Nat} {e : TypeId} {size : Nat} {v : Value} {n : Nat} {xs : List Value} (h : w.ownsRow B e size v n xs) (hb : Below B' w w') (hlt : ∀ k, v.ownBlock = some k → k < B') : w'.ownsRow B e size v n xs := by
  refine ⟨h.1, ?_⟩
  rcases h.2 with hn | ⟨g, cap, cur, rfl, h1, h2, rest⟩
  · exact .inl hn
  · exact .inr ⟨g, cap, cur, rfl, h1, by rw [hb.block g (hlt g rfl)]; exact h2, rest⟩
theorem enc_pos (n : Nat) : 0 < (enc n).length := by rw [enc]; split <;> simp
theorem many_u8 (l : List Int) : ∀ u ∈ l.map (Value.int .u8), u.oneCell' = true := by
  intro u hu; simp at hu; obtain ⟨x, _, rfl⟩ := hu; rfl

set_option maxHeartbeats 400000 in
theorem rput_any (n : Nat) : ∀ (w : World), (n : Int) ≤ 1099511627776 →
    Calls Try.prog 5 #[.int .i64 n] w fun e w' => ∃ v', e = .returned v' ∧ w'.ownsRow w.heap.size 5 1 v' (enc n).length ((enc n).map (Value.int .u8)) ∧ Below w.heap.size w w' := by
  induction n using Nat.strongRecOn with
  | _ n ih =>
  intro w hn
  have HI : Hid (∀ m, m < n → ∀ (w : World), (m : Int) ≤ 1099511627776 →
    Calls Try.prog 5 #[.int .i64 m] w fun e w' => ∃ v', e = .returned v' ∧ w'.ownsRow w.heap.size 5 1 v' (enc m).length ((enc m).map (Value.int .u8)) ∧ Below w.heap.size w w') := ih
  clear ih
  obtain ⟨i0, hi, hz0, hz1, hz2⟩ := info_parts Try.info5
  by_cases hlt : (n : Int) < 128
  · go_enter Try.func5, Try.ntmps5
    go_wp2_with fail
    go_ret
    refine ⟨_, rfl, ?_, (Below.refl _ _).alloc (Nat.le_refl _) _⟩
    rw [enc_small (by omega)]
    exact own_one _ _ _
  · go_enter Try.func5, Try.ntmps5
    go_wp2_with fail
    rw [show ((n : Int) / 128) = ((n / 128 : Nat) : Int) from by omega]
    refine (HI.out (n / 128) (by omega) _ (by omega)).mono ?_
    rintro e w1 ⟨v1, rfl, hown1, hb1⟩
    have hm6 := enc_len6 (n / 128) (by omega)
    have hown2 := own_below (own_one w (.int .u8 ((n : Int) % 128 + 128)) 5) hb1 (fun k hk => by simp [Value.ownBlock] at hk; simp; omega)
    have hsz : w.heap.size ≤ w1.heap.size := by have := hb1.size; simp at this; omega
    have hb2 : Below w.heap.size w w1 := ((Below.refl _ _).alloc (Nat.le_refl _) _).trans (hb1.mono (by simp))
    have HE : Hid (enc n = ((n % 128 + 128 : Nat) : Int) :: enc (n / 128)) := enc_big (by omega)
    rcases hown1.2 with ⟨rfl, h0⟩ | ⟨g, cap, cur, rfl, hg1, hg2, hg3, hg4, hg5, hg6⟩
    · have := enc_pos (n / 128); omega
    have hcells := hown1.cells (g := g) rfl
    have hl1 := hown1.1
    clear hb1 hg1 hg2 hg3 hg4 hg5 hg6 hown1
    go_wp2_with (at_builtin; refine wpList_append_own _ rfl (.tmp 12) (.tmp 15) 22 rfl w.heap.size 5 i0 (.int .u8 0) 1 1 Try.underlying22 hi hz0 hz1 hz2 rfl (by decide) _ _ _ rfl hown2 ⟨g, 0, none⟩ _ _ _ rfl hl1 hcells (many_u8 _) (by unfold maxLen; omega) (by omega) hsz ?_)
    intro v' w2 hown' hgrow _
    go_wp2_with fail
    go_ret
    refine ⟨v', rfl, ?_, hb2.grown hgrow hsz (fun k hk => (hown2.lt k hk).1)⟩
    rw [HE.out, List.length_cons, Nat.add_comm (enc (n / 128)).length 1]
    simpa using hown'

end Go.Proofs.Ytllockbjbjmglaa
