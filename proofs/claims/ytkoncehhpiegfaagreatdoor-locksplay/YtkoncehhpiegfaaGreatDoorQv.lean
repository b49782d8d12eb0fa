/- Package locks: Release. -/
import Derived.Test.YtkoncehhpiegfaaGreatDoorQu
namespace Go.Proofs.YtkoncehhpiegfaaGreatDoor
open Go.RowKit Go.Lib Go.Maps
set_option linter.unusedVariables false

theorem TbX.congr {w : World} {B N : Nat} {q : TbM} {s s' : Tab} {no : ByteArray → Prop} (h : TbX w B N q s no) (he : ∀ k, okQ k → s k = s' k) : TbX w B N q s' no := by
  refine ⟨h.blk, h.bt, ?_, h.hdr, fun k i hk hno => by rw [← he k hk]; exact h.rows k i hk hno, h.apart, fun k hk => by rw [← he k hk]; exact h.ok k hk, fun k hk => by rw [← he k hk]; exact h.few k hk⟩
  have hm := h.map
  cases hq : q.m with
  | none => rw [hq] at hm; exact fun k hk => by rw [← he k hk]; exact hm k hk
  | some g =>
    rw [hq] at hm
    obtain ⟨h0, D, h1, h2⟩ := hm
    exact ⟨h0, D, h1, fun k hk => by rw [← he k hk]; exact h2 k hk⟩
/-- A release under way: those of P are done. -/
def relSQ (s : Tab) (t : Int) (P : List ByteArray) : Tab := fun k => if inK P k then relN s t k else s k
theorem relSQ_none (s : Tab) (t : Int) : relSQ s t [] = s := by funext k; simp [relSQ, inK]
theorem relSQ_at {s : Tab} {t : Int} {P : List ByteArray} {k : ByteArray} (h : k ∉ P) : relSQ s t P k = s k := by unfold relSQ; rw [if_neg (fun e => h (inK_iff.1 e))]
theorem relSQ_step {s : Tab} {t : Int} {P : List ByteArray} {k : ByteArray} (hk : k ∉ P) (hat : atB (s k) t = true) : updK (relSQ s t P) k (outN (s k) t) = relSQ s t (P ++ [k]) := by
  funext y
  unfold updK relSQ
  by_cases e : y = k
  · subst e
    rw [if_pos rfl, if_pos (inK_iff.2 (by simp))]
    unfold relN
    rw [if_pos hat]
  · rw [if_neg e]
    have : inK (P ++ [k]) y = inK P y := by
      rw [Bool.eq_iff_iff, inK_iff, inK_iff, List.mem_append, List.mem_singleton]
      exact ⟨fun h => h.resolve_right e, .inl⟩
    rw [this]
theorem at_bare {k : KeyS} (h : k.bare) (t : Int) : atB k t = false := by
  obtain ⟨h1, h2⟩ := h
  unfold atB modeN
  rw [h1, h2]; simp
theorem relSQ_all {s : Tab} {t : Int} {ks : List ByteArray} (h : NamesQ s (fun k => atB k t) ks) (k : ByteArray) (hk : okQ k) : relSQ s t ks k = relN s t k := by
  unfold relSQ
  split
  · rfl
  · rename_i e
    have hn : k ∉ ks := fun h2 => e (inK_iff.2 h2)
    unfold relN
    have : ¬ atB (s k) t = true := fun ha => hn ((h.2 k).2 ⟨hk, fun hb => (by rw [at_bare hb] at ha; cases ha), ha⟩)
    rw [if_neg this]
theorem pass_total : ∀ (q held kept : List ClmD), (passN held kept q).1.length + (passN held kept q).2.1.length ≤ held.length + kept.length + q.length
  | [], held, kept => by simp [passN]
  | c :: q, held, kept => by
    unfold passN
    split
    · have := pass_total q (withN held c) kept
      have := len_with held c
      simp only [List.length_cons]
      omega
    · have := pass_total q held (kept ++ [c])
      simp only [List.length_cons, List.length_append, List.length_nil] at *
      omega
theorem out_len (k : KeyS) (t : Int) : (outN k t).held.length + (outN k t).waits.length ≤ k.held.length + k.waits.length := by
  have := pass_total (leaveN k.waits t) (leaveN k.held t) []
  have := len_leave k.held t
  have := len_leave k.waits t
  simp only [outN, List.length_nil] at *
  omega
/-- What is given to others. -/
structure GrD where
  tx : Int
  key : ByteArray
  mode : Int
def grCells (g : GrD) : List Value := [.int .i64 g.tx, .string g.key, .int .i64 g.mode]
def grsCells : List GrD → List Value
  | [] => []
  | o :: os => grCells o ++ grsCells os
theorem grsCells_app : ∀ a b, grsCells (a ++ b) = grsCells a ++ grsCells b
  | [], b => by simp [grsCells]
  | p :: a, b => by simp [grsCells, grsCells_app a b]
theorem grsCells_len : ∀ os, (grsCells os).length = os.length * 3
  | [] => rfl
  | o :: os => by simp [grsCells, grCells, grsCells_len os]; omega
/-- Grants in a row of one's own. -/
def RowG (w : World) (B : Nat) (v : Value) (l : List GrD) : Prop := w.ownsRow B 47 3 v l.length (grsCells l)
theorem RowG.mod {G : Nat → Prop} {w w' : World} {B : Nat} {v : Value} {os : List GrD} (h : RowG w B v os) (hm : Mod G w w') (hG : ∀ k, v.ownBlock = some k → ¬ G k) : RowG w' B v os := own_mod h hm (fun k _ _ e => hG k e)
theorem Tryz.infoGQ : (Tryz.prog.info? 47).map (fun i => (i.zero, i.size, i.bytes)) = some (some (.agg #[.int .i64 0, .string ByteArray.empty, .int .i64 0]), 3, 32) := by kernel_rfl
def grOf (k : ByteArray) (c : ClmD) : GrD := ⟨c.tx, k, c.mode⟩
def grantsN (s : Tab) (t : Int) (ks : List ByteArray) : List GrD := ks.flatMap fun k => (gotN (s k) t).map (grOf k)
theorem grantsN_snoc (s : Tab) (t : Int) (ks : List ByteArray) (k : ByteArray) : grantsN s t (ks ++ [k]) = grantsN s t ks ++ (gotN (s k) t).map (grOf k) := by simp [grantsN]
/-- Both rows of a key have been laid anew: what is to be kept. -/
theorem kept_both {w w6 : World} {B N : Nat} {q : TbM} {s : Tab} {name : ByteArray} {v : Bool → Value} {k' : KeyS} (h : TbP w B N q s) (hn : okQ name) (hr : ∀ i, RowK w6 B (v i) (k'.list i)) (hne : ∀ x, (v true).ownBlock = some x → (v false).ownBlock ≠ some x)
    (hm : Mod (fun x => (∃ i, (q.hd name i).ownBlock = some x) ∨ w.heap.size ≤ x) w w6) (hat : ∀ i x, (v i).ownBlock = some x → (∃ j, (q.hd name j).ownBlock = some x) ∨ w.heap.size ≤ x) :
    KeptQ w6 B q name v k' ∧ TbX w6 B N q s (· = name) := by
  have hlt : ∀ k i x, okQ k → (q.hd k i).ownBlock = some x → x < w.heap.size := fun k i x hk hx => (h.old hk id hx).2.1
  refine ⟨⟨hr, hne, fun k i j x hk hkn h1 h2 => ?_⟩, (h.less _).turn hm (fun e => ?_) (fun x hx e => ?_) (fun k i x hk hkn hx e => ?_)⟩
  · rcases hat j x h2 with ⟨l, e2⟩ | e2
    · exact hkn (h.apart k name i l x hk hn h1 e2).1
    · have := hlt k i x hk h1; omega
  · rcases e with ⟨i, e⟩ | e
    · exact (h.row_ne hn id e).1 rfl
    · have := h.blk.lt; omega
  · rcases e with ⟨i, e⟩ | e
    · exact (h.row_ne hn id e).2 hx
    · have := (h.lt (.inl hx)).2; omega
  · rcases e with ⟨l, e⟩ | e
    · exact hkn (h.apart k name i l x hk hn hx e).1
    · have := hlt k i x hk hx; omega
end Go.Proofs.YtkoncehhpiegfaaGreatDoor
