/- A given list of turns in memory; a log told anew. -/
import Derived.Test.YtefhgakcffhgaabWf
import Derived.Test.YtefhgakcffhgaabSl
namespace Go.Proofs.Ytefhgakcffhgaab
open Go.RowKit Go.Lib Go.Maps
set_option linter.unusedVariables false

structure Turn3 where
  what : Int
  a : Int
  b : Int
instance : Inhabited Turn3 := ⟨⟨0, 0, 0⟩⟩
def turnR (t : Turn3) (cs : List Value) : Prop := cs = [.int .i64 t.what, .int .i64 t.a, .int .i64 t.b] ∧ int64 t.b
def TurnsR (w : World) (L : Nat) (v : Value) (ts : List Turn3) : Prop := SlR w L 3 turnR v ts
theorem TurnsR.at {w : World} {L : Nat} {a : Option Addr} {n cap : Nat} {ts : List Turn3} (h : TurnsR w L (.slice a n cap) ts) {i : Nat} {t : Turn3} (hi : ts[i]? = some t) :
    ∃ b off, a = some ⟨b, off, none⟩ ∧ b < L ∧ int64 t.b ∧ w.cell? ⟨b, off + i * 3, none⟩ = some (.int .i64 t.what) ∧ w.cell? ⟨b, off + i * 3 + 1, none⟩ = some (.int .i64 t.a) ∧ w.cell? ⟨b, off + i * 3 + 2, none⟩ = some (.int .i64 t.b) := by
  obtain ⟨b, off, cs, h1, h2, ⟨rfl, h3⟩, _, h5⟩ := SlR.at h hi
  exact ⟨b, off, h1, h2, h3, by have := h5 0 _ rfl; simpa using this, h5 1 _ rfl, h5 2 _ rfl⟩
theorem WorldP.qm {w : World} {L g : Nat} {V : Vals} {W : WS} (h : WorldP w L g V W) : Qm w L (worldMay g V) := fun k hk hm => by
  rcases hm with e | ⟨i, hi, e⟩ | e | e | e | e | e
  · exact (h.net.lt e).2.2
  · exact ((h.node i hi).lt e).2.2
  · exact Qm.row h.nrow (Nat.le_refl _) (by decide) k hk e
  · exact Qm.row h.drow (Nat.le_refl _) (by decide) k hk e
  · exact Qm.row h.erow (Nat.le_refl _) (by decide) k hk e
  · exact Qm.row h.crow (Nat.le_refl _) (by decide) k hk e
  · obtain ⟨us, _, h2, _⟩ := h.srow
    exact Qm.row h2 (Nat.le_refl _) (by decide) k hk e
theorem clogF (L g : Nat) (nv lv : Value) (s : NodeS) (w : World) (h : NodeP w L g nv lv s) : Calls Try.prog 18 #[.pointer (some ⟨g, 0, none⟩)] w fun e w' => ∃ a cap, e = .returned (.slice a s.log.length cap) ∧ RowC w' L (.slice a s.log.length cap) s.log ∧ freshV w (.slice a s.log.length cap) ∧ Mod noBlock w w' := by
  refine (clog_any L g nv lv s w h).mono ?_
  rintro e w' ⟨v, rfl, hR, hf, hm⟩
  obtain ⟨a, cap, rfl⟩ := hR.slice
  exact ⟨a, cap, rfl, hR, hf, hm⟩
end Go.Proofs.Ytefhgakcffhgaab
