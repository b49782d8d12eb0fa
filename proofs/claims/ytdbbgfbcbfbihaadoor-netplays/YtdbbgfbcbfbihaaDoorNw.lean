/- Ways: what NetPlays is handed, opened; what the two nets have in common. -/
import Derived.Test.YtdbbgfbcbfbihaaDoorNf4
import Derived.Test.YtdbbgfbcbfbihaaDoorSl
namespace Go.Proofs.YtdbbgfbcbfbihaaDoor
open Go.ChangeShapes Go.WideShapes Go.RowKit Go.Deep Go.Lib Go.Maps

structure WayD where
  what : Int
  k : Int
  msgs : List MsgD
instance : Inhabited WayD := ⟨⟨0, 0, []⟩⟩
def msgR (w : World) (L : Nat) (m : MsgD) (cs : List Value) : Prop := ∃ u, cs = msgCells m u ∧ PairsR w L u m.cmd.writes ∧ intsM m
def wayR (w : World) (L : Nat) (x : WayD) (cs : List Value) : Prop := ∃ v, cs = [.int .i64 x.what, .int .i64 x.k, v] ∧ SlR w L 9 (msgR w L) v x.msgs ∧ int64 x.what ∧ int64 x.k
theorem msgR.mod {G : Nat → Prop} {w w' : World} {L : Nat} {m : MsgD} {cs : List Value} (h : msgR w L m cs) (hm : Mod G w w') (hG : ∀ k, k < L → ¬ G k) : msgR w' L m cs := by
  obtain ⟨u, h1, h2, h3⟩ := h; exact ⟨u, h1, h2.mod hm hG, h3⟩
theorem wayR.mod {G : Nat → Prop} {w w' : World} {L : Nat} {x : WayD} {cs : List Value} (h : wayR w L x cs) (hm : Mod G w w') (hG : ∀ k, k < L → ¬ G k) : wayR w' L x cs := by
  obtain ⟨v, h1, h2, h3⟩ := h; exact ⟨v, h1, h2.mod hm hG (fun d cs h => h.mod hm hG), h3⟩
abbrev MsgsR (w : World) (L : Nat) (v : Value) (ms : List MsgD) : Prop := SlR w L 9 (msgR w L) v ms
abbrev WaysR (w : World) (L : Nat) (v : Value) (xs : List WayD) : Prop := SlR w L 3 (wayR w L) v xs
theorem MsgsR.toV {w : World} {L : Nat} {v : Value} {ms : List MsgD} (h : MsgsR w L v ms) (hg : ∀ m ∈ ms, m.cmd.writes.length ≤ 40) : MsgsV w L (fun k => k < L) v ms := by
  obtain ⟨a, cap, h1, h2, h3, h4⟩ := h
  refine ⟨a, cap, h1, h2, h3, ?_⟩
  rcases h4 with h4 | ⟨b, off, h5, h6, h7⟩
  · exact .inl h4
  · refine .inr ⟨b, off, h5, h6, fun i m hi => ?_⟩
    obtain ⟨cs, ⟨u, rfl, k2, k3⟩, _, k4⟩ := h7 i m hi
    exact ⟨u, PairsT.of_R k2, ⟨k3, hg m (List.mem_of_getElem? hi)⟩, k4⟩
section
variable {H : Type} {enc : TypeId × Value → H} {w : World} {base : Nat} {spare : Nat → Bool} {held : Bool}
theorem cellsWay : Tryd.prog.cellsOf 69 = 3 := by kernel_rfl
theorem cellsMsgs : Tryd.prog.cellsOf 59 = 1 := by kernel_rfl
theorem open_msgR {fuel : Nat} {cs : List Value} {x : DataW H × List MemPlace} (h : DataW.trod enc Tryd.prog w base spare held fuel 26 cs = some x) : ∃ m, msgR w w.heap.size m cs := by
  obtain ⟨m, v, h1, h2, h3, _⟩ := open_msgC h
  exact ⟨m, v, h1, h2, h3⟩
theorem open_wayR {fuel : Nat} {cs : List Value} {x : DataW H × List MemPlace} (h : DataW.trod enc Tryd.prog w base spare held fuel 69 cs = some x) : ∃ d, wayR w w.heap.size d cs := by
  obtain ⟨y0, y1, y2, n, rfl, hl, h0, h1, h2⟩ := trod_struct3 Tryd.underlying69 h
  rw [cellsWay] at hl
  obtain ⟨a, b, c, rfl⟩ := list3 hl
  simp only [cellsInt, cellsMsgs, List.drop_zero, List.drop_succ_cons, List.take_succ_cons, List.take_zero] at h0 h1 h2
  obtain ⟨k0, e0, rfl, w0⟩ := DataW.trod_int Tryd.underlying3 h0
  obtain ⟨k1, e1, rfl, w1⟩ := DataW.trod_int Tryd.underlying3 h1
  obtain ⟨ms, hms⟩ := open_slR (R := msgR w w.heap.size) Tryd.underlying59 cellsMsg (by omega) (fun n cs x h => open_msgR h) h2
  simp only [List.cons.injEq, and_true] at e0 e1
  subst e0 e1
  exact ⟨⟨k0, k1, ms⟩, c, rfl, hms, wf64 w0, wf64 w1⟩
theorem open_waysR {fuel : Nat} {v : Value} {x : DataW H × List MemPlace} (h : DataW.trod enc Tryd.prog w base spare held fuel 58 [v] = some x) : ∃ xs, WaysR w w.heap.size v xs :=
  open_slR (R := wayR w w.heap.size) Tryd.underlying58 cellsWay (by omega) (fun n cs x h => open_wayR h) h
end

/-- No message is under way from or to who is down. -/
def clean (s : NetS) : Prop := ∀ m ∈ s.way, silentB s.down m = false
theorem clean_send1 {s : NetS} {m : MsgD} (h : clean s) : clean (send1 s m) := by
  unfold send1
  split
  · exact h
  · rename_i hn
    intro x hx
    simp only at hx ⊢
    rcases List.mem_append.1 hx with e | e
    · exact h x e
    · simp at e; subst e
      cases hs : silentB s.down x with
      | false => rfl
      | true => rw [hs] at hn; simp at hn
theorem clean_sends : ∀ (ms : List MsgD) {s : NetS}, clean s → clean (sends s ms)
  | [], _, h => h
  | _ :: ms, _, h => clean_sends ms (clean_send1 h)
theorem clean_dropS {s : NetS} {k : Nat} (h : clean s) : clean (dropS s k) := fun m hm => h m (List.mem_of_mem_eraseIdx hm)
theorem clean_loseS {s : NetS} {k : Nat} (h : clean s) : clean (loseS s k) := fun m hm => h m (List.mem_of_mem_eraseIdx hm)
theorem clean_downS {s : NetS} {d : Int} : clean (downS s d) := fun m hm => by
  simp only [downS, keepS, List.mem_filter] at hm
  simpa [downS] using hm.2
theorem keepS_clean {s : NetS} (h : clean s) (d : Int) : keepS (s.down ++ [d]) s.way = keepS [d] s.way := by
  unfold keepS
  apply List.filter_congr
  intro m hm
  have := h m hm
  simp only [silentB, Bool.or_eq_false_iff, decide_eq_false_iff_not] at this
  simp [silentB, this.1, this.2]
theorem downS_eq {s : NetS} (h : clean s) (d : Int) : downS s d = downR s d := by
  unfold downS downR; rw [keepS_clean h]
theorem sends_way_len : ∀ (ms : List MsgD) (s : NetS), s.way.length ≤ 200 → (sends s ms).way.length ≤ 200
  | [], _, h => h
  | m :: ms, s, h => sends_way_len ms (send1 s m) (by unfold send1; split <;> simp_all <;> omega)
theorem sends_down : ∀ (ms : List MsgD) (s : NetS), (sends s ms).down = s.down
  | [], _ => rfl
  | m :: ms, s => by rw [sends, sends_down ms, send1_down]
theorem downS_lost (s : NetS) (d : Int) (hf : s.way.length ≤ 200) : s.lost ≤ (downS s d).lost ∧ (downS s d).lost ≤ s.lost + 200 := by
  have := keepS_le (s.down ++ [d]) s.way
  simp only [downS]; omega

/-- Both nets, apart from each other, in the same state. -/
structure Both (w : World) (L g h : Nat) (wv : Value) (mr : Option Nat) (lv dv : Value) (s : NetS) : Prop where
  p : NetP w L g wv mr s
  r : RefP w L h lv dv s
  apart : ∀ k, netMay g wv mr k → ¬ refMay h lv dv k
  cl : clean s
theorem Both.mod {G : Nat → Prop} {w w' : World} {L g h : Nat} {wv : Value} {mr : Option Nat} {lv dv : Value} {s : NetS} (b : Both w L g h wv mr lv dv s) (hm : Mod G w w') (hq : Qm w L G) (h1 : ∀ k, netMay g wv mr k → ¬ G k) (h2 : ∀ k, refMay h lv dv k → ¬ G k) : Both w' L g h wv mr lv dv s :=
  ⟨b.p.mod hm hq h1, b.r.mod hm hq h2, b.apart, b.cl⟩
theorem Both.quiet {w w' : World} {L g h : Nat} {wv : Value} {mr : Option Nat} {lv dv : Value} {s : NetS} (b : Both w L g h wv mr lv dv s) (hm : Mod noBlock w w') : Both w' L g h wv mr lv dv s :=
  b.mod hm (Qm.none _ _) (fun _ _ => id) (fun _ _ => id)
end Go.Proofs.YtdbbgfbcbfbihaaDoor
