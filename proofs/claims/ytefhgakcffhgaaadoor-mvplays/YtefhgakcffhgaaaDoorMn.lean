/- The law MvTrims: what is put (pure); keys that are seen; pick. -/
import Derived.Test.YtefhgakcffhgaaaDoorMk
import Derived.Test.YtefhgakcffhgaaaDoorMl
import Derived.DeepKeys4
namespace Go.Proofs.YtefhgakcffhgaaaDoor
open Go.RowKit Go.Lib Go.Maps
set_option linter.unusedVariables false

def pickN (a : Int) (n : Nat) : Nat := (IntKind.u64.wrap a % n).toNat
theorem pickN_lt (a : Int) (n : Nat) (hn : 0 < n) : pickN a n < n := by
  have h1 := Int.emod_nonneg (IntKind.u64.wrap a) (show (n : Int) ≠ 0 by omega)
  have h2 := Int.emod_lt_of_pos (IntKind.u64.wrap a) (show (0 : Int) < n by omega)
  unfold pickN; omega
theorem retI' {x y : Int} (h : x = y) : Ending.returned (.int .i64 x) = Ending.returned (.int .i64 y) := by rw [h]
theorem pickM_any (a : Int) (n : Nat) (w : World) (hn : 0 < n) (hm : (n : Int) ≤ 1000) :
    Calls Tryd.prog 25 #[.int .i64 a, .int .i64 n] w fun e w' => e = .returned (.int .i64 (pickN a n)) ∧ w' = w := by
  have hw : IntKind.u64.wrap (n : Int) = n := by rw [IntKind.wrap_u64]; omega
  have h0 : 0 ≤ IntKind.u64.wrap a := by rw [IntKind.wrap_u64]; omega
  have hnz : ((n : Int) == 0) = false := by rw [beq_eq_false_iff_ne]; omega
  have hk : wrap64 (IntKind.u64.wrap a % n) = (pickN a n : Nat) := by
    have h1 := Int.emod_nonneg (IntKind.u64.wrap a) (show (n : Int) ≠ 0 by omega)
    have h2 := Int.emod_lt_of_pos (IntKind.u64.wrap a) (show (0 : Int) < n by omega)
    unfold pickN
    rw [IntWalk.wrap64_in _ ⟨by omega, by omega⟩]; omega
  go_enter Tryd.func25, Tryd.ntmps25
  go_wp2_with fail
  go_ret
  exact ⟨retI' hk, rfl⟩
/-- A version that is to be put. -/
structure SetD where
  time : Int
  key : ByteArray
  value : ByteArray
  gone : Bool
def okSet (x : SetD) : Prop := x.key.size ≤ 20 ∧ x.value.size ≤ 40
instance (x : SetD) : Decidable (okSet x) := by unfold okSet; infer_instance
def timeOf (x : SetD) : Int := (pickN x.time 50 : Nat)
def verOf (x : SetD) : VerD := madeV (timeOf x) x.value x.gone
def tk (x : SetD) : Int × ByteArray := (timeOf x, x.key)
theorem verOf_time (x : SetD) : (verOf x).time = timeOf x := madeV_time _ _ _
def addS (s : Vers) (x : SetD) : Vers := if okSet x then updV s x.key (insV (s x.key) (verOf x)) else s
/-- What is there behind some Puts. -/
structure FillP (xs : List SetD) (s : Vers) : Prop where
  rise : ∀ k, Rising (s k)
  mem : ∀ k v, v ∈ s k ↔ ∃ x ∈ xs, okSet x ∧ x.key = k ∧ verOf x = v
  len : ∀ k, (s k).length ≤ xs.length
theorem FillP.nil : FillP [] (fun _ => []) := ⟨fun _ => List.Pairwise.nil, fun k v => by simp, fun _ => Nat.le_refl _⟩
theorem FillP.new {xs : List SetD} {s : Vers} {x : SetD} (h : FillP xs s) (hn : tk x ∉ xs.map tk) : ∀ v ∈ s x.key, v.time ≠ (verOf x).time := fun v hv e => by
  obtain ⟨y, hy, _, h2, h3⟩ := (h.mem x.key v).1 hv
  refine hn (List.mem_map.2 ⟨y, hy, ?_⟩)
  unfold tk
  rw [h2]
  have : timeOf y = timeOf x := by rw [← verOf_time y, h3, e, verOf_time]
  rw [this]
theorem FillP.step {xs xs' : List SetD} {s : Vers} {x : SetD} (h : FillP xs s) (hn : tk x ∉ xs.map tk) (hm : ∀ z, z ∈ xs' ↔ z = x ∨ z ∈ xs) (hl : xs'.length = xs.length + 1) : FillP xs' (addS s x) := by
  unfold addS
  by_cases hok : okSet x
  · rw [if_pos hok]
    refine ⟨fun k => ?_, fun k v => ?_, fun k => ?_⟩
    · unfold updV
      by_cases e : k = x.key
      · rw [if_pos e]; exact ins_rising (h.rise _) (h.new hn)
      · rw [if_neg e]; exact h.rise k
    · unfold updV
      by_cases e : k = x.key
      · subst e
        rw [if_pos rfl, ins_mem, h.mem]
        constructor
        · rintro (rfl | ⟨y, h1, h2⟩)
          · exact ⟨x, (hm x).2 (.inl rfl), hok, rfl, rfl⟩
          · exact ⟨y, (hm y).2 (.inr h1), h2⟩
        · rintro ⟨y, h1, h2, h3, h4⟩
          rcases (hm y).1 h1 with rfl | h1
          · exact .inl h4.symm
          · exact .inr ⟨y, h1, h2, h3, h4⟩
      · rw [if_neg e, h.mem]
        constructor
        · rintro ⟨y, h1, h2⟩; exact ⟨y, (hm y).2 (.inr h1), h2⟩
        · rintro ⟨y, h1, h2, h3, h4⟩
          rcases (hm y).1 h1 with rfl | h1
          · exact absurd h3.symm e
          · exact ⟨y, h1, h2, h3, h4⟩
    · unfold updV
      by_cases e : k = x.key
      · rw [if_pos e, ins_len, hl]; have := h.len x.key; omega
      · rw [if_neg e]; have := h.len k; omega
  · rw [if_neg hok]
    refine ⟨h.rise, fun k v => ?_, fun k => by have := h.len k; omega⟩
    rw [h.mem]
    constructor
    · rintro ⟨y, h1, h2⟩; exact ⟨y, (hm y).2 (.inr h1), h2⟩
    · rintro ⟨y, h1, h2, h3, h4⟩
      rcases (hm y).1 h1 with rfl | h1
      · exact absurd h2 hok
      · exact ⟨y, h1, h2, h3, h4⟩
/-- Whatever the order, it is the same. -/
theorem FillP.same {xs : List SetD} {s s' : Vers} (h : FillP xs s) (h' : FillP xs s') : s = s' := by
  funext k
  exact rising_ext (h.rise k) (h'.rise k) (fun v => by rw [h.mem, h'.mem])
/-- The keys, none twice. -/
theorem keys_of (l : List ByteArray) : ∃ K : List ByteArray, K.Nodup ∧ (∀ k, k ∈ K ↔ k ∈ l) ∧ K.length ≤ l.length := by
  induction l with
  | nil => exact ⟨[], by simp, by simp, Nat.le_refl _⟩
  | cons x l ih =>
    obtain ⟨K, h1, h2, h3⟩ := ih
    by_cases hx : x ∈ K
    · refine ⟨K, h1, fun k => ?_, by simp; omega⟩
      rw [List.mem_cons, h2]
      constructor
      · exact fun h => .inr h
      · rintro (rfl | h)
        · exact (h2 _).1 hx
        · exact h
    · exact ⟨x :: K, List.nodup_cons.2 ⟨hx, h1⟩, fun k => by rw [List.mem_cons, List.mem_cons, h2], by simp; omega⟩
theorem FillP.keys {xs : List SetD} {s : Vers} {K : List ByteArray} (h : FillP xs s) (hok : ∀ x ∈ xs, okK x.key) (h1 : K.Nodup) (h2 : ∀ k, k ∈ K ↔ k ∈ xs.map (·.key)) : KeysP K s := by
  refine ⟨h1, fun k hk => ?_, fun k _ hne => ?_⟩
  · obtain ⟨x, hx, e⟩ := List.mem_map.1 ((h2 k).1 hk)
    rw [← e]; exact hok x hx
  · cases hs : s k with
    | nil => exact absurd hs hne
    | cons v l =>
      obtain ⟨x, hx, _, e, _⟩ := (h.mem k v).1 (by rw [hs]; simp)
      exact (h2 k).2 (List.mem_map.2 ⟨x, hx, e⟩)
theorem KeysP.trim {K : List ByteArray} {s : Vers} (h : KeysP K s) (lo : Int) : KeysP K (trimA s lo) := ⟨h.nodup, h.ok, fun k hk hne => h.all k hk (fun e => hne (by unfold trimA; rw [e, left_nil]))⟩
theorem sumAll_le (s : Vers) (c : Nat) : ∀ K : List ByteArray, (∀ k ∈ K, (s k).length ≤ c) → sumAll K s ≤ K.length * c
  | [], _ => by simp [sumAll]
  | k :: K, h => by
    have ih := sumAll_le s c K (fun k hk => h k (List.mem_cons_of_mem _ hk))
    have := h k (by simp)
    simp only [sumAll, List.map_cons, List.sum_cons, List.length_cons] at ih ⊢
    rw [Nat.add_mul]; omega
theorem sumAll_trim (s : Vers) (lo : Int) : ∀ K : List ByteArray, sumAll K (trimA s lo) ≤ sumAll K s
  | [] => Nat.le_refl _
  | k :: K => by
    have ih := sumAll_trim s lo K
    have := left_len (s k) lo
    simp only [sumAll, List.map_cons, List.sum_cons, trimA] at ih ⊢
    omega
theorem AllAt.trim {s : Vers} {lo t : Int} {ps : List PairD} (h : AllAt (trimA s lo) t ps) (hr : ∀ k, Rising (s k)) (hl : lo ≤ t) : AllAt s t ps := fun k v => by
  rw [h k v]
  unfold trimA
  rw [told_left (hr k) hl]
theorem AllAt.one {s : Vers} {t : Int} {ps ps' : List PairD} (h : AllAt s t ps) (h' : AllAt s t ps') (hp : ps.Pairwise ltP) (hp' : ps'.Pairwise ltP) : ps = ps' :=
  pairwise_ext (fun _ _ => ltP_asymm) hp hp' (fun x => by obtain ⟨k, v⟩ := x; rw [h k v, h' k v])
-- keys that are seen
theorem laidOutM : laidOutB Tryd.prog = true := by kernel_rfl
theorem rowSet : (86 : TypeId) < Tryd.prog.types.size := of_decide_eq_true (by kernel_rfl)
theorem wideSet : (match Tryd.prog.underlying 86 with | some (.array _ _) | some (.struct _) => true | _ => false) = true := by kernel_rfl
set_option maxRecDepth 100000 in
theorem kSet : Keyed Tryd.prog 86 := Keyed.of_law (deep_law_laid laidOutM (m := 4) (by omega) rowSet (by kernel_rfl) wideSet)
def setKey (t : Int) (k : ByteArray) : Value := .agg #[.int .i64 t, .string k, .string ⟨#[]⟩, .bool false]
theorem keyTSet : Tryd.prog.keyType 86 = true := by kernel_rfl
theorem cellsSet : Tryd.prog.cellsOf 86 = 4 := by kernel_rfl
theorem wf_int {t : Int} (h0 : 0 ≤ t) (h1 : t < 1000) : (Lit.int .i64 t).wf = true := by
  simp [Lit.wf, show IntKind.i64.min = -9223372036854775808 from rfl, show IntKind.i64.max = 9223372036854775807 from rfl]
  omega
theorem cellsM : Tryd.prog.cellsOf 84 = 3 ∧ Tryd.prog.cellsOf 3 = 1 ∧ Tryd.prog.cellsOf 9 = 1 ∧ Tryd.prog.cellsOf 4 = 1 := ⟨by kernel_rfl, by kernel_rfl, by kernel_rfl, by kernel_rfl⟩
theorem keyOf_set (t : Int) (k : ByteArray) (h0 : 0 ≤ t) (h1 : t < 1000) (hk : okK k) : ∃ l, keyOf Tryd.prog 86 (setKey t k) = some l := by
  have hw : (Lit.int .i64 t).wf = true := wf_int h0 h1
  have hk' : k.size ≤ maxLen := hk
  have hts : Tryd.prog.types.size = 300 := by kernel_rfl
  have u1 := Tryd.underlying86
  have u2 := Tryd.underlying84
  have u3 := Tryd.underlying3
  have u4 := Tryd.underlying9
  have u5 := Tryd.underlying4
  unfold keyOf
  rw [u1]
  simp only [keyTSet, Value.formed, u1, cellsSet, hts]
  obtain ⟨c1, c2, c3, c4⟩ := cellsM
  have hl : ∀ d, Tryd.prog.keyLits (d + 1 + 1 + 1) 86 [.int .i64 t, .string k, .string ⟨#[]⟩, .bool false] = some [.int .i64 t, .string k.data.toList, .string [], .bool false] := fun d => by
    have g3 : ∀ d, Tryd.prog.keyLits (d + 1) 3 [.int .i64 t] = some [.int .i64 t] := fun d => by simp [Program.keyLits, u3, hw]
    have g4 : ∀ d (z : ByteArray), z.size ≤ maxLen → Tryd.prog.keyLits (d + 1) 9 [.string z] = some [.string z.data.toList] := fun d z hz => by simp [Program.keyLits, u4, hz]
    have g5 : ∀ d, Tryd.prog.keyLits (d + 1) 4 [.bool false] = some [.bool false] := fun d => by simp [Program.keyLits, u5]
    have g2 : ∀ d, Tryd.prog.keyLits (d + 1 + 1) 84 [.string k, .string ⟨#[]⟩, .bool false] = some [.string k.data.toList, .string [], .bool false] := fun d => by
      have q1 := g4 d k hk'
      have q2 := g4 d ⟨#[]⟩ (by simp [ByteArray.size])
      have q3 := g5 d
      unfold Program.keyLits
      simp [u2, c1, c3, c4, q1, q2, q3]
    have q4 := g3 (d + 1)
    have q5 := g2 d
    unfold Program.keyLits
    simp [u1, cellsSet, c1, c2, q4, q5]
  have hc : (setKey t k).cells.toList = [.int .i64 t, .string k, .string ⟨#[]⟩, .bool false] := rfl
  rw [hc]
  have h9 : (300 + 1 : Nat) = (300 - 2) + 1 + 1 + 1 := by decide
  rw [h9, hl]
  exact ⟨_, rfl⟩
end Go.Proofs.YtefhgakcffhgaaaDoor
