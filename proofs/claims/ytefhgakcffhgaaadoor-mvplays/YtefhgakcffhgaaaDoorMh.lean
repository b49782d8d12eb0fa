/- Package mv: a walk over the store's keys; Many. -/
import Derived.Test.YtefhgakcffhgaaaDoorMg
import Derived.Maps.RangeWalk
namespace Go.Proofs.YtefhgakcffhgaaaDoor
open Go.RowKit Go.Lib Go.Maps
set_option linter.unusedVariables false

theorem keyStr_inv {key : Value} {kl : Lit} (h : keyOf Tryd.prog 9 key = some kl) : ∃ x : ByteArray, key = .string x ∧ kl = keyL x ∧ okK x := by
  cases key <;> simp [keyOf, Tryd.underlying9, mapKey] at h
  rename_i x
  obtain ⟨h1, h2⟩ := h
  exact ⟨x, rfl, h2.symm, by unfold okK; simpa using h1⟩
theorem same_key (a b : ByteArray) : (keyL a).sameKey (keyL b) = decide (a = b) := by
  by_cases h : a = b
  · subst h
    rw [WideAt.sameKey_self (by simp [WideAt.IsKeyLit, keyL])]
    simp
  · rw [Maps.sameKey_ne (fun e => h (keyL_inj e))]
    simp [h]
/-- The step of a walk over the keys. -/
theorem wpList_next_vers (w : World) {ops : Array Oper} {rest : List Oper} {o : Oper} {a : Act} {Q : Exit → Act → World → Prop} (hg : o.guard = none) (it : Operand) (hop : o.op = Op.next it false) (g r n : Nat) (D : DataW Unit) (left : Lit → Bool) (cnt : Nat)
    (hit : a.eval it = .pointer (some ⟨r, 0, none⟩)) (h : w.ranges Tryd.prog 9 hdrElem g r n D left cnt)
    (hDone : (∀ kl, left kl = false) → wpList Tryd.prog ops Q rest (a.put o.dst (.tuple #[.bool false])) w)
    (hMore : ∀ (x : ByteArray) (c : Value) (w' : World) (cnt' : Nat), okK x → left (keyL x) = true → IsHdr c → D.atKey (keyL x) .nil = encH c → w'.ranges Tryd.prog 9 hdrElem g r n D (fun z => left z && !z.sameKey (keyL x)) cnt' → cnt' < cnt →
      w.grownBy w' (some r) → (Instr.entry (.pointer (some ⟨r, 0, none⟩))).run Tryd.prog w' = .ok (.tuple #[.string x, c]) w' → wpList Tryd.prog ops Q rest (a.put o.dst (.tuple #[.bool true, .string x, c])) w') :
    wpList Tryd.prog ops Q (o :: rest) a w :=
  wpList_next_ranges w hg it hop 9 kStr hdrElem (fun x : ByteArray => Value.string x) (fun v : Value => v) (fun key kl hkey => by obtain ⟨x, rfl, _⟩ := keyStr_inv hkey; exact ⟨x, rfl⟩) (fun v y _ => ⟨v, rfl⟩) g r n D left cnt hit h (fun _ hl => hDone hl)
    (fun x c kl y w' cnt' hkey hlk hv hat hrg hlt hgr hsz hen => by
      obtain ⟨x', e, rfl, hok⟩ := keyStr_inv hkey
      cases e
      obtain ⟨h1, h2⟩ := hdr_inv hv
      exact hMore x c w' cnt' hok hlk h1 (by rw [hat .nil, h2]) hrg hlt hgr hen)
/-- What those have that have come. -/
def sumLeft (K : List ByteArray) (s : Vers) (left : Lit → Bool) : Nat := (K.map fun k => if left (keyL k) then 0 else (s k).length).sum
def sumAll (K : List ByteArray) (s : Vers) : Nat := (K.map fun k => (s k).length).sum
theorem sumLeft_none (K : List ByteArray) (s : Vers) {left : Lit → Bool} (h : ∀ kl, left kl = false) : sumLeft K s left = sumAll K s := by
  unfold sumLeft sumAll
  congr 1
  exact List.map_congr_left (fun k _ => by rw [h]; rfl)
theorem sumLeft_le (K : List ByteArray) (s : Vers) (left : Lit → Bool) : sumLeft K s left ≤ sumAll K s := by
  induction K with
  | nil => exact Nat.le_refl _
  | cons k K ih =>
    simp only [sumLeft, sumAll, List.map_cons, List.sum_cons] at ih ⊢
    split <;> omega
theorem sumLeft_skip (s : Vers) (left : Lit → Bool) (x : ByteArray) : ∀ (K : List ByteArray), x ∉ K → sumLeft K s (fun z => left z && !z.sameKey (keyL x)) = sumLeft K s left
  | [], _ => rfl
  | k :: K, h => by
    have ih := sumLeft_skip s left x K (fun e => h (List.mem_cons_of_mem _ e))
    have hk : k ≠ x := fun e => h (by rw [e]; simp)
    simp only [sumLeft, List.map_cons, List.sum_cons] at ih ⊢
    rw [ih]; simp only [same_key]
    simp [hk]
theorem sumLeft_step (s : Vers) (left : Lit → Bool) (x : ByteArray) (hl : left (keyL x) = true) : ∀ (K : List ByteArray), K.Nodup → x ∈ K → sumLeft K s (fun z => left z && !z.sameKey (keyL x)) = sumLeft K s left + (s x).length
  | [], _, h => by simp at h
  | k :: K, hn, h => by
    obtain ⟨hn1, hn2⟩ := List.nodup_cons.1 hn
    by_cases e : k = x
    · subst e
      have ih := sumLeft_skip s left k K hn1
      simp only [sumLeft, List.map_cons, List.sum_cons] at ih ⊢
      rw [ih]; simp only [same_key]
      simp [hl]; omega
    · have ih := sumLeft_step s left x hl K hn2 ((List.mem_cons.1 h).resolve_left (fun q => e q.symm))
      simp only [sumLeft, List.map_cons, List.sum_cons] at ih ⊢
      rw [ih]; simp only [same_key]
      simp [e]; omega
/-- The keys that have versions. -/
structure KeysP (K : List ByteArray) (s : Vers) : Prop where
  nodup : K.Nodup
  ok : ∀ k ∈ K, okK k
  all : ∀ k, okK k → s k ≠ [] → k ∈ K
set_option maxRecDepth 100000 in
set_option maxHeartbeats 2000000 in
theorem many_any (q : StM) (B : Nat) (s : Vers) (K : List ByteArray) (w : World) (h : StP w B q s) (hK : KeysP K s) (hs : sumAll K s ≤ 100000) :
    Calls Tryd.prog 42 #[.pointer (some ⟨q.b, 0, none⟩)] w fun e w' => e = .returned (.int .i64 (sumAll K s)) ∧ Mod noBlock w w' := by
  have c1 := h.blk.cell 1 rfl
  have z0 := h.blk.lt
  have HH := Hid.mk'' h
  have HK := Hid.mk'' hK
  cases hm : q.m with
  | none =>
    have h0 : sumAll K s = 0 := by
      have hmp := h.map
      rw [hm] at hmp
      have : ∀ L : List ByteArray, (∀ k ∈ L, okK k) → sumAll L s = 0 := fun L => by
        induction L with
        | nil => intro _; rfl
        | cons k L ih =>
          intro hL
          simp only [sumAll, List.map_cons, List.sum_cons] at ih ⊢
          rw [ih (fun k hk => hL k (List.mem_cons_of_mem _ hk)), (hmp k (hL k (by simp))).2]
          rfl
      exact this K hK.ok
    rw [hm] at c1
    have hrg := run_range_nilMap (P := Tryd.prog) w 79 9 159 Tryd.underlying79
    have hnx : ∀ ty, (Instr.next (.pointer (some ⟨w.heap.size, 0, none⟩)) false ty).run Tryd.prog (w.alloc (.mapIter none 0 #[] 0)) = _ := fun ty => run_next_nilMap w ty 0 0 #[]
    have HM : Hid (Mod noBlock w (w.alloc (.mapIter none 0 #[] 0))) := (Mod.refl _ w).alloc _
    have H0 := Hid.mk'' h0
    clear h hK h0
    go_enter Tryd.func42, Tryd.ntmps42
    go_wp2
    refine wp_loop_rounds 1 ?_
    rw [rounds_succ]
    go_wp2
    go_ret
    exact ⟨by rw [H0.out]; rfl, HM.out⟩
  | some g =>
    have hmp := h.map
    rw [hm] at hmp
    obtain ⟨_, D, hown, hD⟩ := hmp
    rw [hm] at c1
    have HD := Hid.mk'' hD
    have HOWN := Hid.mk'' hown
    clear h hK hD hown hm
    go_enter Tryd.func42, Tryd.ntmps42
    go_wp2_with (first
      | (at_range; refine wpList_range_own _ rfl _ 79 rfl 9 159 kStr Tryd.underlying79 _ g q.n D rfl HOWN.out ?_; intro w0 hrg0 hg0 hs0)
      | go_in)
    go_frame
    have HM0 : Hid (Mod noBlock w w0) := (Mod.refl _ w).grown hg0 (fun x hx _ => by cases hx)
    have HRG0 := Hid.mk'' hrg0
    clear hrg0 hg0 hs0
    go_loopw [3, 5] (fun m0 _ wr => ∃ (left : Lit → Bool) (cnt : Nat), wr.ranges Tryd.prog 9 hdrElem g w.heap.size q.n D left cnt ∧ m0 = .int .i64 (sumLeft K s left) ∧ Mod noBlock w wr) (fun _ _ wr => wr.rangeLeft g w.heap.size)
    case atStart =>
      refine ⟨_, _, HRG0.out, ?_, HM0.out⟩
      have : sumLeft K s (has D) = 0 := by
        have key : ∀ L : List ByteArray, (∀ k ∈ L, okK k) → sumLeft L s (has D) = 0 := fun L => by
          induction L with
          | nil => intro _; rfl
          | cons k L ih =>
            intro hL
            simp only [sumLeft, List.map_cons, List.sum_cons] at ih ⊢
            rw [ih (fun k hk => hL k (List.mem_cons_of_mem _ hk))]
            have h1 := (HD.out k (hL k (by simp))).2
            by_cases e : s k = []
            · rw [e]; simp
            · rw [h1.2 e]; rfl
        exact key K HK.out.ok
      rw [this]; rfl
    case round =>
      obtain ⟨left, cnt, hrg, rfl, hM⟩ := hrel
      have hsl := sumLeft_le K s left
      have HM := Hid.mk'' hM
      have HRG := Hid.mk'' hrg
      have hzr := hM.size
      generalize hsm : sumLeft K s left = sm at hsl
      have HSM := Hid.mk'' hsm
      clear hrg hM hsm HRG0 HM0
      go_wp2_with (first
        | (at_next; refine wpList_next_vers _ rfl _ rfl g w.heap.size q.n D left cnt rfl HRG.out ?_ ?_)
        | go_in)
      · intro hl0
        go_wp2_with fail
        go_ret
        exact ⟨by rw [← HSM.out, sumLeft_none K s hl0]; rfl, HM.out⟩
      · intro x c w1 cnt1 hok hlx hc hat hrg1 hlt hg1 hen
        obtain rfl : c = q.hd x := encH_inj hc (own_hdr (HH.out.rows x hok).1) (by rw [← hat]; exact (HD.out x hok).1)
        obtain ⟨ca, ccap, hcd⟩ := own_slice (HH.out.rows x hok).1
        rw [hcd] at hen ⊢
        have hxK : x ∈ K := HK.out.all x hok (((HD.out x hok).2).1 (by
          have := HRG.out.owns
          exact (by
            obtain ⟨es, clock, since, seen, c0, hb, F, hs, hDD, hr, hold, hcn, hl1, hl2, hsc, hsk⟩ := HRG.out
            obtain ⟨y, hy, e⟩ := hl2 _ hlx
            rw [hDD]
            exact List.any_eq_true.2 ⟨_, mem_sorted.2 (List.mem_map.2 ⟨y, hy, rfl⟩), by rw [e]; exact WideAt.sameKey_self (by simp [WideAt.IsKeyLit, keyL])⟩)))
        have HST := Hid.mk'' (sumLeft_step s left x hlx K HK.out.nodup hxK)
        have hle2 := sumLeft_le K s (fun z => left z && !z.sameKey (keyL x))
        have HM1 : Hid (Mod noBlock w w1) := HM.out.grown hg1 (fun y hy hlt => by cases hy; omega)
        have HRG1 := Hid.mk'' hrg1
        have hbd : sm + (s x).length ≤ 100000 := by have := HST.out; have := HSM.out; omega
        clear hrg1 hg1 hat hc
        go_wp2_with fail
        go_roundw
        case rel => exact ⟨_, cnt1, HRG1.out, by rw [HST.out, HSM.out]; first | rfl | go_num, HM1.out⟩
        case measure => rw [HRG1.out.left_eq, HRG.out.left_eq]; exact hlt
end Go.Proofs.YtefhgakcffhgaaaDoor
