/- slices.IndexFunc and slices.DeleteFunc with the program's closure. -/
import Derived.Test.YtefhgakcffhgaabNt8
namespace Go.Proofs.Ytefhgakcffhgaab
open Go.RowKit Go.Lib Go.Maps
variable {E : Ext}

/-- What the closure asks: the pointer in its box, and who is down. -/
structure Asks (w : World) (L g q : Nat) (mr : Option Nat) (ds : List Int) : Prop where
  box : w.cell? ⟨q, 0, none⟩ = some (.pointer (some ⟨g, 1, none⟩))
  fld : w.cell? ⟨g, 3, none⟩ = some (.map mr)
  dn : DownAt w L mr ds
theorem Asks.mod {G : Nat → Prop} {w w' : World} {L g q : Nat} {mr : Option Nat} {ds : List Int} (h : Asks w L g q mr ds) (hm : Mod G w w') (hq : ¬ G q) (hg : ¬ G g) (hr : ∀ k, mr = some k → ¬ G k) : Asks w' L g q mr ds :=
  ⟨hm.cell h.box hq, hm.cell h.fld hg, h.dn.mod hm hr⟩
theorem Asks.call {w : World} {L g q : Nat} {mr : Option Nat} {ds : List Int} (h : Asks w L g q mr ds) (m : MsgD) (u : Value) (hi : intsM m) :
    Calls Try.prog 69 #[.agg #[.int .i64 m.kind, .int .i64 m.frm, .int .i64 m.to, .int .i64 m.epoch, .int .i64 m.n, .int .i64 m.cmd.kind, .int .i64 m.cmd.tx, .int .i64 m.cmd.time, u], .pointer (some ⟨q, 0, none⟩)] w fun e w' => e = .returned (.bool (silentB ds m)) ∧ Mod noBlock w w' :=
  silent1_any g q L m u mr ds w h.box h.fld h.dn hi
/-- The first that is silent. -/
def firstB (ds : List Int) : List MsgD → Option Nat
  | [] => none
  | m :: ms => if silentB ds m then some 0 else (firstB ds ms).map (· + 1)
theorem firstB_at (ds : List Int) : ∀ (ms : List MsgD) (k : Nat), (∀ i m, i < k → ms[i]? = some m → silentB ds m = false) → ∀ m, ms[k]? = some m → silentB ds m = true → firstB ds ms = some k
  | [], _, _, m, h, _ => by simp at h
  | m' :: ms, 0, _, m, h, hs => by simp at h; subst h; simp [firstB, hs]
  | m' :: ms, k + 1, hf, m, h, hs => by
    have h0 := hf 0 m' (by omega) rfl
    have := firstB_at ds ms k (fun i m hi hm => hf (i + 1) m (by omega) (by simpa using hm)) m (by simpa using h) hs
    simp [firstB, h0, this]
theorem firstB_none (ds : List Int) : ∀ (ms : List MsgD), (∀ (i : Nat) m, ms[i]? = some m → silentB ds m = false) → firstB ds ms = none
  | [], _ => rfl
  | m :: ms, h => by
    have h0 := h 0 m rfl
    simp [firstB, h0, firstB_none ds ms (fun i m hm => h (i + 1) m (by simpa using hm))]
def firstI (o : Option Nat) : Int := match o with | none => -1 | some k => k

set_option maxRecDepth 100000 in
set_option maxHeartbeats 1000000 in
theorem index_any (L g q : Nat) (mr : Option Nat) (ds : List Int) (v : Value) (ms : List MsgD) (w : World) (hR : RowM w L v ms) (hA : Asks w L g q mr ds) (hf : ms.length ≤ 200) :
    Calls Try.prog 92 #[v, .func (.func 69) #[] #[.pointer (some ⟨q, 0, none⟩)]] w fun e w' => e = .returned (.int .i64 (firstI (firstB ds ms))) ∧ Mod noBlock w w' := by
  obtain ⟨va, vcap, hv⟩ := hR.slice
  subst hv
  go_enter Try.func92, Try.ntmps92
  go_wp2_with fail
  go_loopw [8] (fun i wr => ∃ k : Nat, k ≤ ms.length ∧ i = .int .i64 k ∧ (∀ i m, i < k → ms[i]? = some m → silentB ds m = false) ∧ Mod noBlock w wr) (fun i _ => ms.length - (intOf i).toNat)
  case atStart => exact ⟨0, Nat.zero_le _, rfl, fun i m h => by omega, Mod.refl _ _⟩
  case round =>
    obtain ⟨k, hk, rfl, hno, hM⟩ := hrel
    have HNO := Hid.mk' hno
    clear hno
    by_cases hlt : k < ms.length
    · obtain ⟨m, hm⟩ : ∃ m, ms[k]? = some m := ⟨_, List.getElem?_eq_getElem hlt⟩
      obtain ⟨b, bcap, u, hv, _, _, hu, hgm, q0, q1, q2, q3, q4, q5, q6, q7, q8⟩ := (hR.mod hM (Qm.none _ _) (fun _ _ => id)).at hm
      simp only [Value.slice.injEq] at hv
      obtain ⟨rfl, _, rfl⟩ := hv
      have HC := Hid.mk' ((hA.mod hM id id (fun _ _ => id)).call m u hgm.1)
      have HMM := Hid.mk' hm
      clear hm
      go_wp2_with fail
      refine HC.out.mono ?_
      rintro e w5 ⟨rfl, hm5⟩
      have hM5 := hM.trans hm5
      clear HC q0 q1 q2 q3 q4 q5 q6 q7 q8
      cases hs : silentB ds m with
      | true =>
        have HF := Hid.mk' (firstB_at ds ms k HNO.out m HMM.out hs)
        go_wp2_with fail
        go_ret
        exact ⟨by rw [HF.out]; rfl, hM5⟩
      | false =>
        go_wp2_with fail
        go_roundw
        case rel =>
          refine ⟨k + 1, by omega, by go_num, fun i m' hi' hm' => ?_, hM5⟩
          by_cases hik : i < k
          · exact HNO.out i m' hik hm'
          · obtain rfl : i = k := by omega
            rw [HMM.out] at hm'; cases hm'; exact hs
        case measure => simp [intOf]; omega
    · have HF := Hid.mk' (firstB_none ds ms (fun i m hm => HNO.out i m (by have := (List.getElem?_eq_some_iff.1 hm).1; omega) hm))
      go_wp2_with fail
      go_ret
      exact ⟨by rw [HF.out]; rfl, hM⟩
end Go.Proofs.Ytefhgakcffhgaab
