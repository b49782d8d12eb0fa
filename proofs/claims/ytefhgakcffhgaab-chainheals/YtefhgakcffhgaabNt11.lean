/- The program's Down. -/
import Derived.Test.YtefhgakcffhgaabNt10
import Derived.WalkSpells
namespace Go.Proofs.Ytefhgakcffhgaab
open Go.RowKit Go.Lib Go.Maps
variable {E : Ext}

def downS (s : NetS) (id : Int) : NetS := ⟨keepS (s.down ++ [id]) s.way, s.lost + ((s.way.length : Int) - ((keepS (s.down ++ [id]) s.way).length : Int)), s.down ++ [id]⟩
theorem DownAt.put {w' : World} {L b n : Nat} {ds : List Int} {D : DataW Unit} {id : Int} (hd : ∀ x, (Lit.int .i64 x).wf = true → Maps.has D (.int .i64 x) = decide (x ∈ ds)) (hD : IsMap D) (hb : L ≤ b) (hn : n ≤ ds.length)
    (hid : int64 id) (h : w'.ownsMap Try.prog 3 unitElem b (n + 1) (D.put (.int .i64 id) (.agg []))) : DownAt w' L (some b) (ds ++ [id]) := by
  refine .inr ⟨b, _, rfl, hb, h.mono (by simp; omega), fun x hx => ?_⟩
  by_cases e : x = id
  · subst e
    rw [has_put_same hD (by simp [WideAt.IsKeyLit])]
    simp
  · rw [has_put_other (by intro h; cases h; exact e rfl), hd x hx]
    simp [e]

/-- A map was made for who is down. -/
theorem NetP.mapped {w : World} {L g : Nat} {wv : Value} {s : NetS} (h : NetP E w L g wv none s) :
    NetP E ((w.setCell ⟨g, 3, none⟩ (.map (some w.heap.size))).alloc (.map #[] 0)) L g wv (some w.heap.size) s ∧ Mod (netMay g wv none) w ((w.setCell ⟨g, 3, none⟩ (.map (some w.heap.size))).alloc (.map #[] 0)) := by
  obtain ⟨a1, _, _⟩ := h.apart
  have hz : (w.setCell ⟨g, 3, none⟩ (.map (some w.heap.size))).heap.size = w.heap.size := by simp [World.setCell]
  have hm1 : Mod (oneBlock g) w (w.setCell ⟨g, 3, none⟩ (.map (some w.heap.size))) := Mod.setBlk g 3 _
  have hm2 : Mod (oneBlock g) w ((w.setCell ⟨g, 3, none⟩ (.map (some w.heap.size))).alloc (.map #[] 0)) := hm1.alloc _
  have hq : Qm w L (oneBlock g) := Qm.of_net h (fun k _ e => .inl e)
  have hlow := h.low
  have hlt := h.blk.lt
  have hd0 : s.down = [] := by
    rcases h.dn with ⟨_, e⟩ | ⟨b, D, e, _⟩
    · exact e
    · cases e
  refine ⟨⟨(h.blk.set 3 (.map (some w.heap.size))).mod ((Mod.refl noBlock _).alloc _) id, h.low, h.row.mod hm2 hq (fun k hk e => a1 (by rw [hk, e])), ?_, h.few, h.lo⟩, hm2.mono (fun i _ e => .inl e)⟩
  rw [hd0]
  have := World.ownsMap_made (H := Unit) (w.setCell ⟨g, 3, none⟩ (.map (some w.heap.size))) Try.prog 3 unitElem
  rw [hz] at this
  exact .inr ⟨w.heap.size, .map [], rfl, by omega, this, fun x _ => by simp [Maps.has]⟩

/-- One more is down. -/
theorem NetP.puts {w w1 : World} {L g b : Nat} {wv : Value} {s : NetS} {D : DataW Unit} {id : Int} (h : NetP E w L g wv (some b) s) (ho : w.ownsMap Try.prog 3 unitElem b s.down.length D) (hh : ∀ x, (Lit.int .i64 x).wf = true → Maps.has D (.int .i64 x) = decide (x ∈ s.down)) (hLb : L ≤ b) (hid : int64 id)
    (hg : w.grownBy w1 (some b)) (h1 : w1.ownsMap Try.prog 3 unitElem b (s.down.length + 1) (D.put (.int .i64 id) (.agg []))) : NetP E w1 L g wv (some b) ⟨s.way, s.lost, s.down ++ [id]⟩ ∧ Mod (fun k => some b = some k) w w1 := by
  obtain ⟨a1, a2, a3⟩ := h.apart
  have hm : Mod (fun k => some b = some k) w w1 := (Mod.refl _ w).grown hg (fun x hx _ => hx)
  have hq : Qm w L (fun k => some b = some k) := Qm.of_net h (fun k _ e => .inr (.inr e))
  exact ⟨⟨h.blk.mod hm a2, h.low, h.row.mod hm hq (fun k hk e => a3 k hk e), DownAt.put hh ho.isMap hLb (Nat.le_refl _) hid h1, h.few, h.lo⟩, hm⟩
theorem Mod.net2 {w w1 w2 : World} {g b : Nat} {v : Value} {mr : Option Nat} (h : Mod (netMay g v mr) w w1) (hb : some b = mr ∨ w.heap.size ≤ b) (k : Mod (fun x => some b = some x) w1 w2) : Mod (netMay g v mr) w w2 :=
  h.trans' k (fun i hi e => by
    cases e
    rcases hb with e | e
    · exact .inr (.inr e.symm)
    · omega)

set_option maxRecDepth 100000 in
set_option maxHeartbeats 1000000 in
theorem down_any (L g : Nat) (wv : Value) (mr : Option Nat) (s : NetS) (id : Int) (w : World) (h : NetP E w L g wv mr s) (hid : int64 id) (hds : s.down.length ≤ 1000000) (hlo : s.lost + 200 ≤ 1099511627776) :
    Calls Try.prog 37 #[.pointer (some ⟨g, 1, none⟩), .int .i64 id] w fun e w' => ∃ wv' mr', e = .returned (.int .i64 ((downS s id).lost - s.lost)) ∧ NetP E w' L g wv' mr' (downS s id) ∧ wv'.ownBlock = wv.ownBlock ∧ (mr' = mr ∨ ∀ k, mr' = some k → w.heap.size ≤ k) ∧ Mod (netMay g wv mr) w w' := by
  have c2 := h.blk.cell 3 rfl
  have f2 := h.blk.frozen 3
  have hen := fun (r : Option Nat) (w : World) => run_eql_map_nil (P := Try.prog) w 36 _ _ r Try.underlying36
  have hmm := @run_makeMap Try.prog
  have hgl := h.blk.lt
  go_enter Try.func37, Try.ntmps37
  go_upto_if 11 with fail
  go_cut [] (fun wc => ∃ b, NetP E wc L g wv (some b) s ∧ (some b = mr ∨ w.heap.size ≤ b) ∧ Mod (netMay g wv mr) w wc)
  case first =>
    cases mr with
    | none =>
      have HH := Hid.mk' h.mapped
      clear h
      go_wp2_with fail
      go_meet
      case rel => exact ⟨_, HH.out.1, .inr (Nat.le_refl _), HH.out.2⟩
    | some b =>
      go_wp2_with fail
      go_meet
      case rel => exact ⟨b, h, .inl rfl, Mod.refl _ _⟩
  case rest =>
    obtain ⟨b, hN, hbm, hM⟩ := hcut
    clear c2 f2 h
    have c2 := hN.blk.cell 3 rfl
    have hdn := hN.dn
    rcases hdn with ⟨e, _⟩ | ⟨b', D, e, hLb, hown, hhas⟩
    · cases e
    cases e
    have hkey : keyOf Try.prog 3 (.int .i64 id) = some (.int .i64 id) := keyOf_int_mk Try.underlying3 (wf_of64 hid)
    have HO := Hid.mk' hown
    have HHA := Hid.mk' hhas
    have HN := Hid.mk' hN
    clear hown hhas hN
    go_wp2_with (first
      | (at_mapUpdate; refine wpList_mapUpdate_own _ rfl _ _ _ 36 rfl 3 138 kInt Try.underlying36 unitElem b _ D rfl HO.out (by unfold maxLen; omega) _ _ _ rfl rfl hkey _ [] unitElem_mk ?_)
      | fail)
    intro w1 hown1 hgrow1
    have hN1 := HN.out.puts HO.out HHA.out hLb hid hgrow1 hown1
    have hM1 := hM.net2 hbm hN1.2
    obtain ⟨wa, wcap, hwv⟩ := hN1.1.row.slice
    subst hwv
    have c0 := hN1.1.blk.cell 1 rfl
    have f0 := hN1.1.blk.frozen 1
    have HN1 := Hid.mk' hN1.1
    have hgz := hN1.1.blk.lt
    have hAP := hN1.1.apart
    have hfew := hN1.1.few
    have hl0 := hN1.1.lo
    have hkl := keepS_len (s.down ++ [id]) s.way
    simp only at c0 hfew hl0
    clear hN1 hown1 hgrow1 HO HHA HN hM c2
    go_upto_region 5 with fail
    go_cut [] (fun wc => ∃ wv', NetP E wc L g wv' (some b) ⟨keepS (s.down ++ [id]) s.way, s.lost, s.down ++ [id]⟩ ∧ wv'.ownBlock = (Value.slice wa s.way.length wcap).ownBlock ∧ Mod (netMay g (.slice wa s.way.length wcap) (some b)) w1 wc)
    case first =>
      go_region_law
        ((first
          | (go_simp; go_at_call 39; (refine (silent_any g _).mono ?_; rintro e w2 ⟨hw2, rfl⟩; have hm2 : Mod noBlock w1 w2 := (by rw [hw2]; exact ((Mod.refl noBlock w1).drew).alloc _); have hq2 : Blk w2 w1.heap.size [.pointer (some ⟨g, 1, none⟩)] 100 := (by rw [hw2]; exact Blk.new w1.drew _ _); clear hw2; have c20 := hm2.cell c0 (fun e => e); have z2 := hm2.size; try dsimp only))
          | (go_simp; go_at_call 68; (refine (deleteFunc_any L g w1.heap.size (some b) (s.down ++ [id]) _ s.way w2 (HN1.out.mod hm2 (Qm.none _ _) (fun _ _ e => e)).row ⟨hq2.cell 0 rfl, (HN1.out.mod hm2 (Qm.none _ _) (fun _ _ e => e)).blk.cell 3 rfl, (HN1.out.mod hm2 (Qm.none _ _) (fun _ _ e => e)).dn⟩ (fun e => Nat.lt_irrefl _ (HN1.out.lt (.inr (.inl e))).2.1) hAP.1 hAP.2.2 hfew).mono ?_; rintro e w3 ⟨v3, rfl, hR3, hv3, hm3⟩; obtain ⟨va3, vc3, hv3s⟩ := hR3.slice; subst hv3s; have c30 := hm3.cell c20 hAP.1; have f30 := ((hm3.frozen (p := ⟨g, 1, none⟩) (Nat.lt_of_lt_of_le hgz z2) hAP.1).trans (hm2.frozen (p := ⟨g, 1, none⟩) hgz (fun e => e))).trans f0; try dsimp only))
          | fail))
      all_goals
        have R := (HN1.out.mod hm2 (Qm.none _ _) (fun _ _ e => e)).rowed hm3 hR3 hv3 (by omega)
        go_wp2_with fail
        go_meet
        case rel => exact ⟨_, R.1, hv3, (hm2.mono (fun _ _ e => e.elim)).trans R.2⟩
    case rest =>
      obtain ⟨wv', hN4, hv4, hm4⟩ := hcut
      obtain ⟨wb, wbc, hwv⟩ := hN4.row.slice
      subst hwv
      have x0 := hN4.blk.cell 1 rfl
      have x1 := hN4.blk.cell 2 rfl
      have y1 := hN4.blk.frozen 2
      simp only at x0 x1
      have HL := Hid.mk' (hN4.loses (s.lost + ((s.way.length : Int) - ((keepS (s.down ++ [id]) s.way).length : Int))) ⟨by omega, by omega⟩)
      have HM4 := Hid.mk' (hM1.trans' hm4 (fun i hi e => by
        rcases e with e | e | e
        · exact .inl e
        · exact .inr (.inl e)
        · cases e
          rcases hbm with e | e
          · exact .inr (.inr e.symm)
          · omega))
      have HV4 := Hid.mk' hv4
      clear hN4 hm4 hM1 hv4 c0 f0
      go_wp2_with fail
      go_ret
      refine ⟨?_, ?_⟩
      · simp only [downS]; go_num
      refine ⟨.slice wb (keepS (s.down ++ [id]) s.way).length wbc, some b, ?_, HV4.out, ?_, ?_⟩
      · simpa [downS] using HL.out.1
      · rcases hbm with e | e
        · exact .inl e
        · exact .inr (fun k hk => by cases hk; exact e)
      · simpa using HM4.out.trans' HL.out.2 (fun i hi e => by
          rcases e with e | e | e
          · exact .inl e
          · exact .inr (.inl (by rw [← HV4.out]; exact e))
          · cases e
            rcases hbm with e | e
            · exact .inr (.inr e.symm)
            · omega)
end Go.Proofs.Ytefhgakcffhgaab
