/- The program's All. -/
import Derived.Test.YtefhgakcffhgaabNt4
import Derived.Laws.IdiomCopy
import Derived.Deep.RegionLaw
namespace Go.Proofs.Ytefhgakcffhgaab
open Go.RowKit Go.Lib Go.Maps
variable {E : Ext}

theorem own_made (w : World) (n : Nat) (cur : Array Value) (hc : cur.size = n * 9) (hm : n ≤ maxLen) : (w.alloc (.cells cur 51)).ownsRow w.heap.size 51 9 (.slice (some ⟨w.heap.size, 0, none⟩) 0 n) 0 [] :=
  ⟨rfl, .inr ⟨w.heap.size, n, cur, rfl, Nat.le_refl _, heap_alloc_new w _, Nat.zero_le _, hm, hc, by simp⟩⟩
theorem Qm.row {w : World} {B L : Nat} {e : TypeId} {size n : Nat} {v : Value} {xs : List Value} (h : w.ownsRow B e size v n xs) (hL : L ≤ B) (he : e ≠ 163) : Qm w L (fun k => v.ownBlock = some k) := fun k _ hk => by
  rcases h.2 with ⟨e', _⟩ | ⟨g', cap, cur, e', h1, hg, _⟩
  · rw [e'] at hk; simp [Value.ownBlock] at hk
  · rw [e'] at hk; simp [Value.ownBlock] at hk; subst hk
    rintro (e1 | ⟨cur', fr, e1⟩)
    · omega
    · rw [hg] at e1; simp at e1; exact he e1.2.1
/-- One message more in a row of one's own. -/
theorem RowM.push {w w6 : World} {L : Nat} {v v6 u : Value} {ms : List MsgD} {m : MsgD} {us : List Value} {o : Obj} (hus : us.length = ms.length) (hrow : w.ownsRow L 51 9 v ms.length (msgsCells ms us))
    (hps : ∀ (i : Nat) m u, ms[i]? = some m → us[i]? = some u → PairsT w L u m.cmd.writes) (hgd : ∀ m ∈ ms, goodM m) (hu : PairsT w L u m.cmd.writes) (hgm : goodM m)
    (hgrow : (w.alloc o).grownBy w6 v.ownBlock) (hown6 : w6.ownsRow L 51 9 v6 (ms.length + 1) (msgsCells ms us ++ msgCells m u)) : RowM w6 L v6 (ms ++ [m]) := by
  have hm6 : Mod (fun k => v.ownBlock = some k) w w6 := ((Mod.refl _ w).alloc o).grown hgrow (fun x hx _ => hx)
  have hq6 := Qm.row hrow (Nat.le_refl _) (by decide)
  refine ⟨us ++ [u], by simp [hus], by rw [msgsCells_snoc _ _ _ _ hus]; simpa using hown6, fun i m' u' hi hu' => ?_, fun m' hm' => ?_⟩
  · by_cases hlt : i < ms.length
    · rw [List.getElem?_append_left hlt] at hi
      rw [List.getElem?_append_left (by omega)] at hu'
      exact (hps i m' u' hi hu').mod hm6 hq6
    · have hi' : i = ms.length := by
        rcases Nat.lt_or_ge i (ms.length + 1) with h' | h'
        · omega
        · rw [List.getElem?_eq_none (by simpa using h')] at hi; cases hi
      subst hi'
      rw [List.getElem?_append_right (Nat.le_refl _)] at hi
      rw [List.getElem?_append_right (by omega)] at hu'
      simp [hus] at hi hu'
      subst hi hu'
      exact hu.mod hm6 hq6
  · rcases List.mem_append.1 hm' with e | e
    · exact hgd m' e
    · simp at e; subst e; exact hgm

end Go.Proofs.Ytefhgakcffhgaab
