/- What keys have, as the document's answer keeps it: a map of texts. -/
import Derived.Test.YtefhgakcffhgaabDoorKk
import Derived.Maps.StringElems
namespace Go.Proofs.YtefhgakcffhgaabDoor
open Go.RowKit Go.Lib Go.Maps
set_option linter.unusedVariables false

/-- The texts of keys that are there. -/
def NowP (w : World) (b n : Nat) (s : Sta) : Prop := ∃ D : DataW Unit, w.ownsMap Tryd.prog 9 (plainElem Tryd.prog 9) b n D ∧ ∀ k : ByteArray, k.size ≤ maxLen →
  Maps.has D (.string k.data.toList) = (s k).there ∧ ((s k).there = true → D.atKey (.string k.data.toList) (.lit (.string [])) = .lit (.string (s k).text.data.toList))
theorem NowP.mod {G : Nat → Prop} {w w' : World} {b n : Nat} {s : Sta} (h : NowP w b n s) (hm : Mod G w w') (hG : ¬ G b) : NowP w' b n s := by
  obtain ⟨D, h1, h2⟩ := h
  have hlt := h1.lt
  obtain ⟨es, clock, hb, r⟩ := h1
  exact ⟨D, ⟨es, clock, (hm.block b hlt hG).trans hb, r⟩, h2⟩
theorem NowP.lt {w : World} {b n : Nat} {s : Sta} (h : NowP w b n s) : b < w.heap.size := by obtain ⟨D, h1, _⟩ := h; exact h1.lt
theorem NowP.mono {w : World} {b n n' : Nat} {s : Sta} (h : NowP w b n s) (hn : n ≤ n') : NowP w b n' s := by obtain ⟨D, h1, h2⟩ := h; exact ⟨D, h1.mono hn, h2⟩
theorem zeroStr (w : World) : (zeroValue 9).run Tryd.prog w = .ok (.string ByteArray.empty) w := by kernel_rfl
theorem NowP.look {w : World} {b n : Nat} {s : Sta} (h : NowP w b n s) {k : ByteArray} (hk : k.size ≤ maxLen) : ∃ v : ByteArray, (Instr.lookup 69 (.map (some b)) (.string k) true).run Tryd.prog w = .ok (.tuple #[.string v, .bool (s k).there]) w ∧ ((s k).there = true → v = (s k).text) ∧ v.size ≤ maxLen := by
  obtain ⟨D, h1, h2⟩ := h
  obtain ⟨e1, e2⟩ := h2 k hk
  obtain ⟨v, ps, hrun, hv⟩ := h1.look_ok kStr Tryd.underlying69 (zeroStr w) (plainElem_string Tryd.underlying9 (s := ByteArray.empty) (by simp)) (Go.WideMaps.keyOf_string_mk Tryd.underlying9 hk)
  obtain ⟨x, rfl, hx, hs⟩ := plainElem_string_inv Tryd.underlying9 hv
  refine ⟨x, by rw [← e1]; exact hrun, fun ht => ?_, hs⟩
  simp only [Prod.mk.injEq] at hx
  have h3 := e2 ht
  have h4 : DataW.lit (H := Unit) (.string (s k).text.data.toList) = .lit (.string x.data.toList) := by rw [← h3]; exact hx.1
  simp at h4
  exact (bytes_inj (by rw [h4])).symm
theorem NowP.put {w' : World} {b n : Nat} {s : Sta} {D : DataW Unit} {k v : ByteArray} (hD : IsMap D) (h2 : ∀ k : ByteArray, k.size ≤ maxLen → Maps.has D (.string k.data.toList) = (s k).there ∧ ((s k).there = true → D.atKey (.string k.data.toList) (.lit (.string [])) = .lit (.string (s k).text.data.toList)))
    (h : w'.ownsMap Tryd.prog 9 (plainElem Tryd.prog 9) b n (D.put (.string k.data.toList) (.lit (.string v.data.toList)))) : NowP w' b n (updS s k ⟨v, true⟩) := by
  refine ⟨_, h, fun x hx => ?_⟩
  unfold updS
  split
  · rename_i e
    rw [e]
    exact ⟨by rw [has_put_same hD (by simp [WideAt.IsKeyLit])], fun _ => atKey_put_same hD (by simp [WideAt.IsKeyLit]) _ _⟩
  · rename_i e
    have hne : (Lit.string x.data.toList) ≠ .string k.data.toList := fun q => e (bytes_inj (by simpa using q))
    rw [has_put_other hne, atKey_put_other hne]
    exact h2 x hx
theorem NowP.del {w' : World} {b n : Nat} {s : Sta} {D : DataW Unit} {k : ByteArray} (hD : Tidy D) (h2 : ∀ k : ByteArray, k.size ≤ maxLen → Maps.has D (.string k.data.toList) = (s k).there ∧ ((s k).there = true → D.atKey (.string k.data.toList) (.lit (.string [])) = .lit (.string (s k).text.data.toList)))
    (h : w'.ownsMap Tryd.prog 9 (plainElem Tryd.prog 9) b n (D.del (.string k.data.toList))) : NowP w' b n (updS s k zeroVD) := by
  refine ⟨_, h, fun x hx => ?_⟩
  unfold updS
  split
  · rename_i e
    rw [e]
    exact ⟨by rw [has_del_same]; rfl, fun h => by simp [zeroVD] at h⟩
  · rename_i e
    have hne : (Lit.string x.data.toList) ≠ .string k.data.toList := fun q => e (bytes_inj (by simpa using q))
    rw [has_del_other hne, atKey_del_other hne]
    exact h2 x hx
end Go.Proofs.YtefhgakcffhgaabDoor
