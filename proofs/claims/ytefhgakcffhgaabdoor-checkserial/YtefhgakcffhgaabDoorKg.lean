/- Package check: what was done is undone. -/
import Derived.Test.YtefhgakcffhgaabDoorKf
namespace Go.Proofs.YtefhgakcffhgaabDoor
open Go.RowKit Go.Lib Go.Maps Go.Shelf
attribute [local go_sem] Oper.semAt_some
set_option linter.unusedVariables false

def undoF (s : Sta) (pre : List Und) : Sta := pre.foldl (fun s x => updS s x.1.2.1 x.1.2.2) s
theorem undoF_snoc (s : Sta) (pre : List Und) (x : Und) : undoF s (pre ++ [x]) = updS (undoF s pre) x.1.2.1 x.1.2.2 := by simp [undoF]
theorem undoF_all (s : Sta) (us : List (ByteArray × VD)) (hok : ∀ u ∈ us, okU u) : undoF s (dnL us hok 0) = undoS s us := by
  have key : ∀ q, q ≤ us.length → undoF s (dnL us hok q) = undoS s (us.drop q) := by
    intro q hq
    obtain ⟨d, hd⟩ : ∃ d, d = us.length - q := ⟨_, rfl⟩
    induction d generalizing q with
    | zero =>
      obtain rfl : q = us.length := by omega
      rw [dnL_len, List.drop_length]
      rfl
    | succ d ih =>
      have hql : q < us.length := by omega
      rw [dnL_step us hok hql, undoF_snoc, ih (q + 1) (by omega) (by omega), List.drop_eq_getElem_cons hql]
      unfold undAt
      rw [dif_pos hql]
      rfl
  have := key 0 (Nat.zero_le _)
  simpa using this
def undI (w : World) (b n0 : Nat) (s : Sta) (pre : List Und) (W : World) : Prop := ValsP W b (n0 + pre.length) (undoF s pre) ∧ W.cell? ⟨w.heap.size, 0, none⟩ = some (.map (some b)) ∧ Mod (oneBlock b) w W
theorem cell_same {A B : World} {k i : Nat} (h : B.heap[k]? = A.heap[k]?) : B.cell? ⟨k, i, none⟩ = A.cell? ⟨k, i, none⟩ := by
  unfold World.cell?
  simp only [h]
theorem undI_own {w : World} {b n0 B : Nat} {s : Sta} (hb : b < w.heap.size) (hB : w.heap.size < B) : OwnFrom B (undI w b n0 s) := fun pre W W' row ⟨h1, h2, h3⟩ hg hr => by
  have hz : ∀ r, row = some r → B ≤ r := fun r e => (hr r e).1
  refine ⟨?_, ?_, h3.grown hg (fun k e hk => by have := hz k e; omega)⟩
  · obtain ⟨D, d1, d2⟩ := h1
    exact ⟨D, d1.kept hg (fun e => by have := hz b e.symm; omega), d2⟩
  · have hlt := World.block_lt_of_cell? W _ h2
    rw [cell_same (hg.block w.heap.size hlt (fun e => by have := hz _ e.symm; omega))]
    exact h2
set_option maxRecDepth 100000 in
set_option maxHeartbeats 4000000 in
theorem undo_in (F : Fence) (n : Nat) (hf : F.fn 20) (hf1 : F.fn 26) (hf2 : F.fn 29) (hro : F.round = none) (hn : 3 ≤ n) (B b n0 : Nat) (s : Sta) (uv : Value) (us : List (ByteArray × VD)) (w : World) (hv : ValsP w b n0 s) (hu : UndoP w B uv us) (hbB : b < B) (hlen : us.length ≤ 1000000) (hmx : n0 + us.length < maxLen) :
    CallsIn F n Tryd.prog 20 #[.map (some b), uv] w fun e w' => e = .returned (.tuple #[]) ∧ ValsP w' b (n0 + us.length) (undoS s us) ∧ Mod (oneBlock b) w w' := by
  have h1 : 1 ≤ n := by omega
  obtain ⟨ua, ucap, rfl⟩ := own_slice hu.1
  have hbw := hv.lt
  obtain ⟨rb, hrb, hrb1, hrb2⟩ : ∃ rb, (∀ k, (Value.slice ua us.length ucap).ownBlock = some k → k = rb) ∧ rb ≠ b ∧ rb < w.heap.size + 2 := by
    cases hq : (Value.slice ua us.length ucap).ownBlock with
    | none => exact ⟨w.heap.size + 1, fun k e => (nomatch e), by omega, by omega⟩
    | some x =>
      have h1 := own_cells hu.1 hq
      exact ⟨x, fun k e => by cases e; rfl, by omega, by omega⟩
  refine callsIn_of_wp_marks Tryd.func20 rfl hf ?_ hro
  simp only [Tryd.ntmps20, List.size_toArray, List.length_cons, List.length_nil, Nat.reduceAdd, Nat.reduceSub, Array.replicate_succ, Array.replicate_zero, List.push_toArray, List.append_toArray, List.nil_append, List.cons_append]
  gi_wp2_with (gi_at_call 26; refine (back_in F (n - 1) hf1 hro _ _ _ _).mono ?_; rintro e w' ⟨rfl, rfl⟩)
  obtain ⟨w2, hw2⟩ : ∃ q, q = (w.alloc (.cells #[.map (some b)] 42)).alloc (.cells #[.slice ua us.length ucap] 59) := ⟨_, rfl⟩
  have hsz : w2.heap.size = w.heap.size + 2 := by rw [hw2]; simp
  have hm2 : Mod noBlock w w2 := by rw [hw2]; exact ((Mod.refl _ w).alloc _).alloc _
  have hcM : w2.cell? ⟨w.heap.size, 0, none⟩ = some (.map (some b)) := by
    rw [hw2]
    have h1 : Blk (w.alloc (.cells #[.map (some b)] 42)) w.heap.size [.map (some b)] 42 := Blk.new w _ _
    exact (h1.mod ((Mod.refl noBlock _).alloc _) id).cell 0 rfl
  have hcS : w2.cell? ⟨w.heap.size + 1, 0, none⟩ = some (.slice ua us.length ucap) := by
    rw [hw2]
    simp
  rw [← hw2]
  have hb2 : w.heap.size < w2.heap.size := by omega
  refine wpIn_rangeFunc_ownH hro h1 (gf := 29) (lb := #[.pointer (some ⟨w.heap.size + 1, 0, none⟩)]) rfl hf2 (enters_of Tryd.func29 (by kernel_rfl) rfl)
    (back_stops F (n - 1) hf2 hro (by omega) (w.heap.size + 1) rb B _ us hu.2 hlen w2 (by omega) hcS (hu.mod hm2 (fun _ _ => id)) hrb) (fun h k => h.trans k)
    (fun W l o o' hl _ _ _ o1 => ⟨fun e => by simp only [World.putObj, Array.getElem?_setIfInBounds]; rw [if_neg (by omega)]; exact e, fun e => by simp only [World.putObj, Array.getElem?_setIfInBounds]; rw [if_neg (by omega)]; exact e⟩) (Below.refl _ _) (fun _ => rfl)
    (undI w b n0 s) (fun _ _ _ => False) (undI_own hbw hb2) (fun _ _ _ _ _ hs _ _ => hs) ⟨by simpa [undoF] using hv.mod hm2 id, hcM, hm2.mono (fun _ _ e => e.elim)⟩
    (fun x a' W => ∃ Bx, Blk W Bx [.string x.1.2.1, .string x.1.2.2.text, .bool x.1.2.2.there] 75 ∧ a' = { tmps := #[.map (some b), .slice ua us.length ucap, .pointer (some ⟨w.heap.size, 0, none⟩), undef, undef, .pointer (some ⟨Bx, 0, none⟩), .slice ua us.length ucap, .func (.func 29) #[] #[.pointer (some ⟨w.heap.size + 1, 0, none⟩)], .int .i64 (x.1.1 : Int), .agg #[.string x.1.2.1, .string x.1.2.2.text, .bool x.1.2.2.there], undef, undef, undef, undef, undef], defers := [] })
    (fun x a' _ W W' row ⟨Bx, hB, ha⟩ hg hr => ⟨Bx, by
      have hlt := hB.lt
      simp only [Blk] at hB ⊢
      rw [hg.block Bx hlt (fun e => by obtain ⟨_, o, ho, hc⟩ := hr Bx e.symm; rw [hB] at ho; simp at ho; subst ho; simp [Obj.isCells] at hc)]
      exact hB, ha⟩) ?assign ?body ?done ?stop
  case assign =>
    rintro l pre x W K hi hK
    dsimp only [undEnc]
    gi_wp2
    refine hK _ _ ((KeepsOthers.alloc _ _).from _) (fun o => ⟨fun e => ?_, fun e => ?_⟩) (undI_own hbw hb2 pre W _ none hi (World.grownBy_alloc W _ none) (fun r e => (nomatch e))) ⟨W.heap.size, Blk.new W _ _, rfl⟩
    · exact (heap_alloc_old W _ (Array.getElem?_eq_some_iff.1 e).1).trans e
    · exact (heap_alloc_old W _ (Array.getElem?_eq_some_iff.1 e).1).trans e
  case body =>
    rintro l pre x a' W hl ⟨r, hr⟩ ⟨hV, hc, hM⟩ ⟨Bx, hBx, rfl⟩ hlt
    have x0 := hBx.cell 0 rfl
    have x1 := hBx.cell 1 rfl
    have x2 := hBx.cell 2 rfl
    have zx := hBx.lt
    have zc := World.block_lt_of_cell? W _ hc
    obtain ⟨D, hmap, hD⟩ := hV
    have hmx' : n0 + pre.length < maxLen := by omega
    gi_wp2_with (gi_at_mapUpdate; refine wpListIn_mapUpdate_own _ rfl _ _ _ 42 rfl 9 72 kStr Tryd.underlying42 valElem b (n0 + pre.length) D rfl hmap hmx' _ _ (.string x.1.2.1.data.toList) rfl rfl (Go.WideMaps.keyOf_string_mk Tryd.underlying9 x.2.1) (encV x.1.2.2) [] (valElem_mk x.2.2) ?_; intro w1 hown1 hgrow1)
    have hkeep : ∀ k o, k ≠ b → W.heap[k]? = some o → w1.heap[k]? = some o := fun k o hk e => (hgrow1.block k (Array.getElem?_eq_some_iff.1 e).1 (fun q => hk (by simpa using q))).trans e
    refine ⟨KeepsFrom.of_grownBy hgrow1 (fun j e => by cases e; omega), fun o => ⟨fun e => hkeep _ _ hrb1 e, fun e => hkeep _ _ (by omega) e⟩, ?_, ?_, hM.grown hgrow1 (fun k e _ => by cases e; rfl)⟩
    · rw [undoF_snoc]
      have := ValsP.put hmap.isMap hD hown1
      rw [List.length_append, List.length_singleton, ← Nat.add_assoc]
      exact this
    · rw [cell_same (hgrow1.block w.heap.size zc (fun q => by simp at q; omega))]
      exact hc
  case done =>
    rintro D xs W hD rfl hI hK
    gi_wp2
    refine ⟨by simp, .inl ⟨_, _, rfl, run_takeDeferred hK, ?_⟩⟩
    obtain ⟨hV, _, hM⟩ := (undI_own hbw hb2).putObj (.deferred none) hI hD hK rfl
    rw [undoF_all, dnL_size] at hV
    exact ⟨_, results_none rfl _ _ _, rfl, hV, hM⟩
  case stop =>
    rintro D c pre W _ _ h _
    exact h.elim
end Go.Proofs.YtefhgakcffhgaabDoor
