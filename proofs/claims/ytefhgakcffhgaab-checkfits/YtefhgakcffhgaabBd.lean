/- What wire's texts hold that names no function of the program: pairs, commands, messages in memory; arguments opened. (Gathered by wip/gen/bd.py.) -/
import Derived.Test.YtefhgakcffhgaabRows
import Derived.Test.YtefhgakcffhgaabMem
import Derived.Test.YtefhgakcffhgaabPure
import Derived.WalkKit
import Derived.Lib.AppendStr
import Derived.Deep.RegionLaw
import Derived.Deep.AppendLies
import Derived.Deep.DeepCutAuto
import Derived.Deep.Strs
import Derived.Deep.Slices
import Derived.OpenShut
namespace Go.Proofs.Ytefhgakcffhgaab
open Go.RowKit

theorem res_cell {P : Program} {w : World} {fn : Func} {p : Tmp} {ty : TypeId} {v : Value} (h : fn.results = #[.cell p ty]) (tmps : Array Value) (a : Addr) (hp : tmps.getD p undef = .pointer (some a)) (hl : (loadVar ty a).run P w = .ok v w) : (results fn tmps).run P w = .ok v w := by
  simp only [results, h]
  simp only [List.mapM_toArray, List.mapM_cons, List.mapM_nil]
  simp [hp, hl, asAddr]
end Go.Proofs.Ytefhgakcffhgaab

namespace Go.Proofs.Ytefhgakcffhgaab
open Go.RowKit

theorem Try.info163 : (Try.prog.info? 163).map (fun i => (i.zero, i.size, i.bytes)) = some (some (.agg #[.string ⟨#[]⟩, .string ⟨#[]⟩, .bool false]), 3, 40) := by kernel_rfl
def pairCells (p : PairD) : List Value := [.string p.key, .string p.val, .bool p.gone]
theorem blk4 {w : World} {g : Nat} {a b c d : Value} {t : TypeId} (h : Blk w g [a, b, c, d] t) : w.cell? ⟨g, 0, none⟩ = some a ∧ w.cell? ⟨g, 1, none⟩ = some b ∧ w.cell? ⟨g, 2, none⟩ = some c ∧ w.cell? ⟨g, 3, none⟩ = some d ∧ w.frozen? ⟨g, 0, none⟩ = false ∧ w.frozen? ⟨g, 1, none⟩ = false ∧ w.frozen? ⟨g, 2, none⟩ = false ∧ w.frozen? ⟨g, 3, none⟩ = false :=
  ⟨h.cell 0 rfl, h.cell 1 rfl, h.cell 2 rfl, h.cell 3 rfl, h.frozen 0, h.frozen 1, h.frozen 2, h.frozen 3⟩
theorem load_cmd {w : World} {B : Nat} {a b c d : Value} {t : TypeId} (h : Blk w B [a, b, c, d] t) : (loadVar 49 ⟨B, 0, none⟩).run Try.prog w = .ok (.agg #[a, b, c, d]) w := by
  obtain ⟨k0, k1, k2, k3, _⟩ := blk4 h
  simp [go_sem, k0, k1, k2, k3]
end Go.Proofs.Ytefhgakcffhgaab

namespace Go.Proofs.Ytefhgakcffhgaab
open Go.RowKit

theorem blk9 {w : World} {g : Nat} {a0 a1 a2 a3 a4 a5 a6 a7 a8 : Value} {t : TypeId} (h : Blk w g [a0, a1, a2, a3, a4, a5, a6, a7, a8] t) :
    (w.cell? ⟨g, 0, none⟩ = some a0 ∧ w.cell? ⟨g, 1, none⟩ = some a1 ∧ w.cell? ⟨g, 2, none⟩ = some a2 ∧ w.cell? ⟨g, 3, none⟩ = some a3 ∧ w.cell? ⟨g, 4, none⟩ = some a4 ∧ w.cell? ⟨g, 5, none⟩ = some a5 ∧ w.cell? ⟨g, 6, none⟩ = some a6 ∧ w.cell? ⟨g, 7, none⟩ = some a7 ∧ w.cell? ⟨g, 8, none⟩ = some a8) ∧
    (w.frozen? ⟨g, 0, none⟩ = false ∧ w.frozen? ⟨g, 1, none⟩ = false ∧ w.frozen? ⟨g, 2, none⟩ = false ∧ w.frozen? ⟨g, 3, none⟩ = false ∧ w.frozen? ⟨g, 4, none⟩ = false ∧ w.frozen? ⟨g, 5, none⟩ = false ∧ w.frozen? ⟨g, 6, none⟩ = false ∧ w.frozen? ⟨g, 7, none⟩ = false ∧ w.frozen? ⟨g, 8, none⟩ = false) :=
  ⟨⟨h.cell 0 rfl, h.cell 1 rfl, h.cell 2 rfl, h.cell 3 rfl, h.cell 4 rfl, h.cell 5 rfl, h.cell 6 rfl, h.cell 7 rfl, h.cell 8 rfl⟩,
    h.frozen 0, h.frozen 1, h.frozen 2, h.frozen 3, h.frozen 4, h.frozen 5, h.frozen 6, h.frozen 7, h.frozen 8⟩
theorem load_msg {w : World} {B : Nat} {a0 a1 a2 a3 a4 a5 a6 a7 a8 : Value} {t : TypeId} (h : Blk w B [a0, a1, a2, a3, a4, a5, a6, a7, a8] t) : (loadVar 51 ⟨B, 0, none⟩).run Try.prog w = .ok (.agg #[a0, a1, a2, a3, a4, a5, a6, a7, a8]) w := by
  obtain ⟨⟨k0, k1, k2, k3, k4, k5, k6, k7, k8⟩, _⟩ := blk9 h
  simp [go_sem, k0, k1, k2, k3, k4, k5, k6, k7, k8]
theorem res_cell_tmp {P : Program} {w : World} {fn : Func} {p u : Tmp} {ty : TypeId} {v x : Value} (h : fn.results = #[.cell p ty, .tmp u]) (tmps : Array Value) (a : Addr) (hp : tmps.getD p undef = .pointer (some a)) (hx : tmps.getD u undef = x) (hl : (loadVar ty a).run P w = .ok v w) : (results fn tmps).run P w = .ok (.tuple #[v, x]) w := by
  rw [results_cell_tmp h]
  simp [hp, hl, hx, asAddr]
def put9 (w : World) (N : Nat) (u0 u1 u2 u3 u4 u5 u6 u7 u8 : Value) : World := (((((((((w.setCell ⟨N, 0, none⟩ u0).setCell ⟨N, 1, none⟩ u1).setCell ⟨N, 2, none⟩ u2).setCell ⟨N, 3, none⟩ u3).setCell ⟨N, 4, none⟩ u4).setCell ⟨N, 5, none⟩ u5).setCell ⟨N, 6, none⟩ u6).setCell ⟨N, 7, none⟩ u7).setCell ⟨N, 8, none⟩ u8)
theorem put9_blk {w : World} {N : Nat} {a0 a1 a2 a3 a4 a5 a6 a7 a8 : Value} {t : TypeId} (hB : Blk w N [a0, a1, a2, a3, a4, a5, a6, a7, a8] t) (u0 u1 u2 u3 u4 u5 u6 u7 u8 : Value) : Blk (put9 w N u0 u1 u2 u3 u4 u5 u6 u7 u8) N [u0, u1, u2, u3, u4, u5, u6, u7, u8] t :=
  (((((((((hB.set 0 _).set 1 _).set 2 _).set 3 _).set 4 _).set 5 _).set 6 _).set 7 _).set 8 _)
theorem put9_only (w : World) (N : Nat) (u0 u1 u2 u3 u4 u5 u6 u7 u8 : Value) : Mod (oneBlock N) w (put9 w N u0 u1 u2 u3 u4 u5 u6 u7 u8) :=
  (((((((Mod.setBlk N 0 u0).trans (Mod.setBlk N 1 u1)).trans (Mod.setBlk N 2 u2)).trans (Mod.setBlk N 3 u3)).trans (Mod.setBlk N 4 u4)).trans (Mod.setBlk N 5 u5)).trans (Mod.setBlk N 6 u6)).trans ((Mod.setBlk N 7 u7).trans (Mod.setBlk N 8 u8))
/-- What the end of ReadMsg owes: the result's block R was written last. -/
theorem put9_res {w : World} {N : Nat} {a0 a1 a2 a3 a4 a5 a6 a7 a8 : Value} {t : TypeId} (hB : Blk w N [a0, a1, a2, a3, a4, a5, a6, a7, a8] t) (u0 u1 u2 u3 u4 u5 u6 u7 u8 : Value) : (loadVar 51 ⟨N, 0, none⟩).run Try.prog (put9 w N u0 u1 u2 u3 u4 u5 u6 u7 u8) = .ok (.agg #[u0, u1, u2, u3, u4, u5, u6, u7, u8]) (put9 w N u0 u1 u2 u3 u4 u5 u6 u7 u8) := load_msg (put9_blk hB u0 u1 u2 u3 u4 u5 u6 u7 u8)
/-- A message as a value; v: its command's writes. -/
def msgV (m : MsgD) (v : Value) : Value := .agg #[.int .i64 m.kind, .int .i64 m.frm, .int .i64 m.to, .int .i64 m.epoch, .int .i64 m.n, .int .i64 m.cmd.kind, .int .i64 m.cmd.tx, .int .i64 m.cmd.time, v]
end Go.Proofs.Ytefhgakcffhgaab

namespace Go.Proofs.Ytefhgakcffhgaab
open Go.RowKit

theorem Try.info49 : (Try.prog.info? 49).map (fun i => (i.zero, i.size, i.bytes)) = some (some (.agg #[.int .i64 0, .int .i64 0, .int .i64 0, .slice none 0 0]), 4, 48) := by kernel_rfl
def cmdCells (c : CmdD) (v : Value) : List Value := [.int .i64 c.kind, .int .i64 c.tx, .int .i64 c.time, v]
def logCells : List CmdD → List Value → List Value
  | c :: cs, v :: vs => cmdCells c v ++ logCells cs vs
  | _, _ => []
theorem logCells_snoc : ∀ (cs : List CmdD) (vs : List Value) (c : CmdD) (v : Value), vs.length = cs.length → logCells (cs ++ [c]) (vs ++ [v]) = logCells cs vs ++ cmdCells c v
  | [], [], c, v, _ => by simp [logCells]
  | [], _ :: _, _, _, h => by simp at h
  | _ :: _, [], _, _, h => by simp at h
  | c' :: cs, v' :: vs, c, v, h => by simp [logCells, logCells_snoc cs vs c v (by simpa using h)]
theorem cmd_one (c : CmdD) (a : Option Addr) (n cap : Nat) : ∀ u ∈ cmdCells c (.slice a n cap), u.oneCell' = true := by
  intro u hu; simp [cmdCells] at hu; rcases hu with rfl | rfl | rfl | rfl <;> rfl
end Go.Proofs.Ytefhgakcffhgaab

namespace Go.Proofs.Ytefhgakcffhgaab
open Go.RowKit

theorem Hid.mk' {p : Prop} (h : p) : Hid p := h
end Go.Proofs.Ytefhgakcffhgaab

namespace Go.Proofs.Ytefhgakcffhgaab
open Go.RowKit Go.Lib

/-- Pairs that lie where the slice v says, in a block below L. -/
def PairsR (w : World) (L : Nat) (v : Value) (ps : List PairD) : Prop :=
  ∃ a cap, v = .slice a ps.length cap ∧ ps.length ≤ cap ∧ cap ≤ maxLen ∧
    (ps = [] ∨ ∃ b off, a = some ⟨b, off, none⟩ ∧ b < L ∧ ∀ j p, ps[j]? = some p → w.cell? ⟨b, off + j * 3, none⟩ = some (.string p.key) ∧ w.cell? ⟨b, off + j * 3 + 1, none⟩ = some (.string p.val) ∧ w.cell? ⟨b, off + j * 3 + 2, none⟩ = some (.bool p.gone))
theorem PairsR.mod {G : Nat → Prop} {w w' : World} {L : Nat} {v : Value} {ps : List PairD} (h : PairsR w L v ps) (hm : Mod G w w') (hG : ∀ k, k < L → ¬ G k) : PairsR w' L v ps := by
  obtain ⟨a, cap, h1, h2, h3, h4⟩ := h
  refine ⟨a, cap, h1, h2, h3, ?_⟩
  rcases h4 with h4 | ⟨b, off, h5, h6, h7⟩
  · exact .inl h4
  · exact .inr ⟨b, off, h5, h6, fun j p hp => ⟨hm.cell (h7 j p hp).1 (hG b h6), hm.cell (h7 j p hp).2.1 (hG b h6), hm.cell (h7 j p hp).2.2 (hG b h6)⟩⟩
theorem flat3 : ∀ (ps : List PairD) (j : Nat) (p : PairD), ps[j]? = some p → (ps.flatMap pairCells)[j * 3]? = some (.string p.key) ∧ (ps.flatMap pairCells)[j * 3 + 1]? = some (.string p.val) ∧ (ps.flatMap pairCells)[j * 3 + 2]? = some (.bool p.gone)
  | [], j, p, h => by simp at h
  | q :: ps, 0, p, h => by simp at h; subst h; simp [pairCells]
  | q :: ps, j + 1, p, h => by
    have ih := flat3 ps j p (by simpa using h)
    have e : ∀ i, ((q :: ps).flatMap pairCells)[i + 3]? = (ps.flatMap pairCells)[i]? := fun i => by
      simp [pairCells]
    rw [show (j + 1) * 3 = j * 3 + 3 by omega, show j * 3 + 3 + 1 = j * 3 + 1 + 3 by omega, show j * 3 + 3 + 2 = j * 3 + 2 + 3 by omega, e, e, e]
    exact ih
theorem PairsR.of_own {w : World} {B L : Nat} {v : Value} {ps : List PairD} (h : w.ownsRow B 163 3 v ps.length (ps.flatMap pairCells)) (hL : w.heap.size ≤ L) : PairsR w L v ps := by
  rcases h.2 with ⟨rfl, h0⟩ | ⟨g, cap, cur, rfl, _, hg, h1, h2, _, _⟩
  · have : ps = [] := List.eq_nil_of_length_eq_zero h0
    subst this
    exact ⟨none, 0, rfl, Nat.le_refl _, Nat.zero_le _, .inl rfl⟩
  · have hc := h.cells (g := g) rfl
    have add0 : ∀ j, (⟨g, 0, none⟩ : Addr).add j = ⟨g, 0 + j, none⟩ := fun j => by unfold Addr.add; split <;> simp_all
    refine ⟨_, cap, rfl, h1, h2, .inr ⟨g, 0, rfl, by have := (Array.getElem?_eq_some_iff.1 hg).1; omega, fun j p hp => ?_⟩⟩
    obtain ⟨f1, f2, f3⟩ := flat3 ps j p hp
    refine ⟨?_, ?_, ?_⟩
    · have := hc _ _ f1; rw [add0] at this; exact this
    · have := hc _ _ f2; rw [add0] at this; rw [Nat.add_assoc]; exact this
    · have := hc _ _ f3; rw [add0] at this; rw [Nat.add_assoc]; exact this

end Go.Proofs.Ytefhgakcffhgaab

namespace Go.Proofs.Ytefhgakcffhgaab
open Go.ChangeShapes Go.WideShapes Go.RowKit Go.Deep

section
variable {H : Type} {enc : TypeId × Value → H} {P : Program} {w : World} {base : Nat} {spare : Nat → Bool} {held : Bool}
end
section
variable {H : Type} {enc : TypeId × Value → H} {w : World} {base : Nat} {spare : Nat → Bool} {held : Bool}
def int64 (x : Int) : Prop := -9223372036854775808 ≤ x ∧ x ≤ 9223372036854775807
def intsC (c : CmdD) : Prop := int64 c.kind ∧ int64 c.tx ∧ int64 c.time
def intsM (m : MsgD) : Prop := int64 m.kind ∧ int64 m.frm ∧ int64 m.to ∧ int64 m.epoch ∧ int64 m.n ∧ intsC m.cmd
instance : Inhabited PairD := ⟨⟨ByteArray.empty, ByteArray.empty, false⟩⟩
instance : Inhabited CmdD := ⟨zeroCmd⟩
instance : Inhabited MsgD := ⟨zeroMsg⟩
end
end Go.Proofs.Ytefhgakcffhgaab
