/- Package locks: Release, the walk. -/
import Derived.Test.YtkoncehhpiegfaaGreatDoorQv
namespace Go.Proofs.YtkoncehhpiegfaaGreatDoor
open Go.RowKit Go.Lib Go.Maps
set_option linter.unusedVariables false

/-- Release under way: i keys are done. -/
structure RelI (w w1 wr : World) (B N : Nat) (q q' : TbM) (s : Tab) (t : Int) (ks : List ByteArray) (i : Nat) (gv : Value) : Prop where
  tb : TbP wr B N q' (relSQ s t (ks.take i))
  b : q'.b = q.b
  pre : q'.pre = q.pre
  post : q'.post = q.post
  ty : q'.t = q.t
  n : q'.n ≤ q.n
  gr : RowG wr w1.heap.size gv (grantsN s t (ks.take i))
  md : Mod (fun x => x = q.b ∨ q.own x) w1 wr
  own : ∀ x, q'.own x → q.own x ∨ w1.heap.size ≤ x
/-- What Release comes to. -/
structure RelQ (w w' : World) (B N : Nat) (q q' : TbM) (s : Tab) (t : Int) (gv : Value) (ks : List ByteArray) : Prop where
  names : NamesQ s (fun k => atB k t) ks
  tb : TbP w' B N q' (relN s t)
  b : q'.b = q.b
  pre : q'.pre = q.pre
  post : q'.post = q.post
  ty : q'.t = q.t
  n : q'.n ≤ q.n
  gr : RowG w' w.heap.size gv (grantsN s t ks)
  md : Mod (fun x => x = q.b ∨ q.own x) w w'
  own : ∀ x, q'.own x → q.own x ∨ w.heap.size ≤ x
theorem grant_kind {w : World} {B : Nat} {gv : Value} {l : List GrD} (h : RowG w B gv l) {x : Nat} (hx : gv.ownBlock = some x) : ∃ cur, w.heap[x]? = some (.cells cur 47 (0, 0)) := (own_cellsVQ h hx).2.2
theorem grant_row {w : World} {B B' : Nat} {gv v : Value} {l : List GrD} {m : List ClmD} (h : RowG w B gv l) (hr : RowK w B' v m) {x : Nat} (hx : gv.ownBlock = some x) : v.ownBlock ≠ some x := fun e => by
  obtain ⟨c1, h1⟩ := grant_kind h hx
  obtain ⟨_, _, c2, h2⟩ := own_cellsVQ hr e
  rw [h1] at h2
  simp at h2
theorem grant_blk {w : World} {B : Nat} {gv : Value} {l : List GrD} {b : Nat} {cs : List Value} {ty : TypeId} (h : RowG w B gv l) (hb : Blk w b cs ty) (hty : ty ≠ 47) {x : Nat} (hx : gv.ownBlock = some x) : x ≠ b := fun e => by
  obtain ⟨c1, h1⟩ := grant_kind h hx
  unfold Blk at hb
  rw [← e, h1] at hb
  simp at hb
  exact hty hb.2.symm
theorem grant_tab {w : World} {B B' N : Nat} {gv : Value} {l : List GrD} {q : TbM} {s : Tab} (h : RowG w B gv l) (hT : TbP w B' N q s) (hty : q.t ≠ 47) {x : Nat} (hx : gv.ownBlock = some x) : x ≠ q.b ∧ ¬ q.own x := by
  refine ⟨grant_blk h hT.blk hty hx, fun e => ?_⟩
  rcases e with e | ⟨k, i, hk, e⟩
  · obtain ⟨c1, h1⟩ := grant_kind h hx
    obtain ⟨_, D, ⟨es, clock, hb, _⟩, _⟩ := hT.map.get e
    rw [h1] at hb
    cases hb
  · exact grant_row h (hT.rows k i hk id) hx e
theorem grsCells_one (g : GrD) : ∀ u ∈ grCells g, u.oneCell' = true := by
  intro u hu
  simp [grCells] at hu
  rcases hu with rfl | rfl | rfl <;> rfl
theorem map_take_snoc {α β : Type} {l : List α} {k : Nat} {c : α} (f : α → β) (h : l[k]? = some c) : (l.take (k + 1)).map f = (l.take k).map f ++ [f c] := by rw [take_snocQ h, List.map_append]; rfl
/-- The round of one key, up to keep. -/
structure RoundQ (wr w6 : World) (B N : Nat) (q' : TbM) (s' : Tab) (name : ByteArray) (kb : Nat) (v : Bool → Value) (gv : Value) (K : KeyS) (t : Int) : Prop where
  blk : Blk w6 kb [v true, v false] 59
  kept : KeptQ w6 B q' name v (outN K t)
  tx : TbX w6 B N q' s' (· = name)
  got : RowK w6 B gv (gotN K t)
  vo : ∀ i x, (v i).ownBlock = some x → q'.own x ∨ wr.heap.size ≤ x
  md : Mod (fun x => (∃ i, (q'.hd name i).ownBlock = some x) ∨ wr.heap.size ≤ x) wr w6
/-- leave and pass, one behind the other. -/
theorem round_of {wr w3 w4 w6 : World} {B N : Nat} {q' : TbM} {s' : Tab} {name : ByteArray} {t : Int} {hv' wv' hv6 wv6 gv : Value} (h : TbP wr B N q' s') (hn : okQ name) (hm3 : Mod noBlock wr w3) (hb3 : wr.heap.size < w3.heap.size)
    (hk4 : KyP w4 B wr.heap.size hv' wv' (leaveN (s' name).held t) (leaveN (s' name).waits t)) (ho1 : hv'.ownBlock = (q'.hd name true).ownBlock) (ho2 : wv'.ownBlock = (q'.hd name false).ownBlock) (hm4 : Mod (fun x => x = wr.heap.size ∨ (q'.hd name true).ownBlock = some x ∨ (q'.hd name false).ownBlock = some x) w3 w4)
    (hP : PassI w4 w6 B wr.heap.size hv' (leaveN (s' name).held t) (leaveN (s' name).waits t) (leaveN (s' name).waits t).length gv hv6 wv6 (passN (leaveN (s' name).held t) [] (leaveN (s' name).waits t)).1 (passN (leaveN (s' name).held t) [] (leaveN (s' name).waits t)).2.1 (passN (leaveN (s' name).held t) [] (leaveN (s' name).waits t)).2.2) :
    RoundQ wr w6 B N q' s' name wr.heap.size (fun i => if i then hv6 else wv6) gv (s' name) t := by
  have hz3 := hm3.size
  have hz4 := hm4.size
  have hmd : Mod (fun x => (∃ i, (q'.hd name i).ownBlock = some x) ∨ wr.heap.size ≤ x) wr w6 := by
    refine ((hm3.mono (fun _ _ e => e.elim)).trans (hm4.mono (fun x _ e => ?_))).trans (hP.md.mono (fun x _ e => ?_))
    · rcases e with e | e | e
      · exact .inr (by omega)
      · exact .inl ⟨true, e⟩
      · exact .inl ⟨false, e⟩
    · rcases e with e | e
      · exact .inr (by omega)
      · exact .inl ⟨true, by rw [← ho1]; exact e⟩
  have hat : ∀ (i : Bool) x, ((fun i : Bool => if i then hv6 else wv6) i).ownBlock = some x → (∃ j, (q'.hd name j).ownBlock = some x) ∨ wr.heap.size ≤ x := fun i x hx => by
    cases i with
    | true =>
      simp only [if_true] at hx
      rcases hP.ha with e | e
      · exact .inl ⟨true, by rw [← ho1, ← e]; exact hx⟩
      · exact .inr (by have := e x hx; omega)
    | false =>
      simp only [Bool.false_eq_true, if_false] at hx
      exact .inr (by have := hP.wa x hx; omega)
  obtain ⟨hKP, hTX⟩ := kept_both (v := fun i : Bool => if i then hv6 else wv6) (k' := outN (s' name) t) h hn (fun i => by cases i; exact hP.ky.w; exact hP.ky.h) (fun x h1 h2 => by simp only [if_true, Bool.false_eq_true, if_false] at h1 h2; exact hP.ky.ne x h1 h2) hmd hat
  refine ⟨hP.ky.blk, hKP, hTX, hP.got, fun i x hx => ?_, hmd⟩
  rcases hat i x hx with ⟨j, e⟩ | e
  · exact .inl (.inr ⟨name, j, hn, e⟩)
  · exact .inr e
end Go.Proofs.YtkoncehhpiegfaaGreatDoor
