/- The law's world: who lives, a new configuration. -/
import Derived.Test.YtefhgakcffhgaabWc
namespace Go.Proofs.Ytefhgakcffhgaab
open Go.RowKit Go.Lib Go.Maps
set_option linter.unusedVariables false
theorem Try.info3 : (Try.prog.info? 3).map (fun i => (i.zero, i.size, i.bytes)) = some (some (.int .i64 0), 1, 8) := by kernel_rfl

set_option maxRecDepth 100000 in
set_option maxHeartbeats 1000000 in
theorem wlives_any (L g n : Nat) (B : Int) (V : Vals) (W : WS) (w : World) (h : WorldP w L g V W) (hI : Inv W n B) :
    Calls Try.prog 36 #[.pointer (some ⟨g, 0, none⟩)] w fun e w' => e = .returned (.int .i64 W.conf.length) ∧ w' = w := by
  obtain ⟨bd, dc, c4, zd, hd1, hd2, cd⟩ := h.downAt
  obtain ⟨-, -, -, -, -, c7, -⟩ := h.cells
  have hc5 : W.conf ≠ [] := hI.some_
  have hc6 : 1 ≤ W.conf.length := by cases hq : W.conf with
    | nil => exact absurd hq hc5
    | cons x l => simp
  obtain ⟨bc, cc, hcv, _, zc, hcc1, hcc2, ccell⟩ := row_open h.crow (by omega)
  rw [hcv] at c7
  have hcl := conf_len hI
  unfold maxLen at hd2 hcc2
  have HC := Hid.mk' hI.conf
  have HCD := Hid.mk' cd
  have HCC := Hid.mk' ccell
  clear h hI hcv cd ccell
  go_enter Try.func36, Try.ntmps36
  go_wp2_with fail
  go_loopw [3, 12] (fun c i wr => ∃ k : Nat, k ≤ W.conf.length ∧ c = .int .i64 k ∧ i = .int .i64 k ∧ wr = w) (fun c i _ => W.conf.length - (intOf i).toNat)
  case atStart => exact ⟨0, Nat.zero_le _, rfl, rfl, rfl⟩
  case round =>
    obtain ⟨k, hk, rfl, rfl, rfl⟩ := hrel
    by_cases hlt : k < W.conf.length
    · obtain ⟨x, hx⟩ : ∃ x, W.conf[k]? = some x := ⟨_, List.getElem?_eq_getElem hlt⟩
      obtain ⟨hs, hdn, -⟩ := HC.out x (List.mem_of_getElem? hx)
      have q1 := HCC.out k (.int .i64 x) (by rw [List.getElem?_map, hx]; rfl)
      have q2 := HCD.out x.toNat (toNat_small hs).1
      rw [hdn] at q2
      have hx0 : 0 ≤ x := hs.1
      have hx5 : x < 5 := hs.2
      have hltI : (k : Int) < (W.conf.length : Int) := by omega
      have hlt0 : (0 : Int) ≤ (k : Int) := by omega
      clear hx hdn hs
      go_wp2_with fail
      go_roundw
      case rel => exact ⟨k + 1, by omega, by go_num, by go_num, trivial⟩
      case measure => simp [intOf]; omega
    · obtain rfl : k = W.conf.length := by omega
      go_wp2_with fail
      go_ret
      exact ⟨rfl, rfl⟩
def Vals.conf (V : Vals) (cv : Value) : Vals := ⟨V.nodesv, V.dv, V.ev, cv, V.sv, V.wv, V.mr, V.b, V.nv, V.lv⟩
def wconf (W : WS) (ep : Int) (ns : List Int) : WS := ⟨W.node, W.net, W.down, W.ever, ep, ns, W.stable⟩
/-- Another configuration is laid into the world. -/
theorem WorldP.config {w w1 : World} {L g : Nat} {V : Vals} {W : WS} (h : WorldP w L g V W) (hm : Mod noBlock w w1) {cv : Value} {ep : Int} {ns : List Int} (ho : w1.ownsRow w.heap.size 3 1 cv ns.length (ns.map (Value.int .i64))) :
    WorldP ((w1.setCell ⟨g, 6, none⟩ (.int .i64 ep)).setCell ⟨g, 7, none⟩ cv) L g (V.conf cv) (wconf W ep ns) ∧ Mod (worldMay g V) w ((w1.setCell ⟨g, 6, none⟩ (.int .i64 ep)).setCell ⟨g, 7, none⟩ cv) ∧ Grew w g V (V.conf cv) := by
  have h1 := h.quiet hm
  have hL : L ≤ w.heap.size := by have := h.net.low; have := h.net.blk.lt; omega
  have hm2 : Mod (oneBlock g) w1 ((w1.setCell ⟨g, 6, none⟩ (.int .i64 ep)).setCell ⟨g, 7, none⟩ cv) := (Mod.setBlk g 6 _).trans (Mod.setBlk g 7 _)
  have hq : Qm w1 L (oneBlock g) := Qm.of_net h1.net (fun k _ e => .inl e)
  have hg : kindOf w1 g = some 42 := kind_blk h1.net.blk
  have off : ∀ (k : Nat) (t : Option TypeId), kindOf w1 k = t → t ≠ some 42 → ¬ oneBlock g k := fun k t hk hn e => by
    simp only [oneBlock] at e; subst e; exact kind_ne hk hg hn
  have fr : ∀ k, cv.ownBlock = some k → w.heap.size ≤ k ∧ kindOf w1 k = some 3 := fun k hk => ⟨(kind_row ho hk).2.1, (kind_row ho hk).1⟩
  obtain ⟨a1, a2, a3⟩ := h1.net.apart
  refine ⟨⟨⟨(h1.net.blk.set 6 _).set 7 _, h1.net.low, h1.net.row.mod hm2 hq (fun k hk e => a1 (by rw [hk]; rw [e])), h1.net.dn.mod hm2 (fun k hk e => a2 (by rw [hk]; rw [e])), h1.net.few, h1.net.lo⟩, ?_, fun j hj => ?_, h.apart, ?_, ?_, h.de, ?_, fun i hi k hk e => ?_, ?_, h.sn⟩, (hm.mono (fun _ _ e => e.elim)).trans (hm2.mono (fun k _ e => .inl (.inl e))), fun k hk => ?_⟩
  · exact own_mod h1.nrow hm2 (fun k _ _ hk => off k _ (kind_row h1.nrow hk).1 (by decide))
  · refine (h1.node j hj).mod hm2 hq (fun k hk => ?_)
    rcases (h1.node j hj).kind hk with e | e | e
    · exact off k _ e (by decide)
    · exact off k _ e (by decide)
    · exact off k _ e (by decide)
  · exact own_mod h1.drow hm2 (fun k _ _ hk => off k _ (kind_row h1.drow hk).1 (by decide))
  · exact own_mod h1.erow hm2 (fun k _ _ hk => off k _ (kind_row h1.erow hk).1 (by decide))
  · exact own_base (own_mod ho hm2 (fun k _ _ hk => off k _ (kind_row ho hk).1 (by decide))) hL
  · have := (fr k hk).1
    have := (kind_row (h.node i hi).ns e).2.2
    omega
  · exact h1.srow.mod hm2 hq (fun k hk => off k _ (kind_rowC h1.srow hk).1 (by decide))
  · rcases hk with hk | hk | hk | hk | hk | hk | hk
    · exact .inl (.inl hk)
    · exact .inl (.inr (.inl hk))
    · exact .inl (.inr (.inr (.inl hk)))
    · exact .inl (.inr (.inr (.inr (.inl hk))))
    · exact .inl (.inr (.inr (.inr (.inr (.inl hk)))))
    · exact .inr (fr k hk).1
    · exact .inl (.inr (.inr (.inr (.inr (.inr (.inr hk))))))
theorem newer_none {w w' : World} (h : Mod (newer w.heap.size) w w') : Mod noBlock w w' := h.mono (fun i hi e => by simp only [newer] at e; omega)
theorem filter_take_succ {W : WS} {k : Nat} {x : Int} (h : W.conf[k]? = some x) : (W.conf.take (k + 1)).filter (liveB W) = (W.conf.take k).filter (liveB W) ++ (if liveB W x then [x] else []) := by
  have hlt : k < W.conf.length := (List.getElem?_eq_some_iff.1 h).1
  rw [List.getElem?_eq_getElem hlt] at h
  simp at h
  rw [List.take_succ_eq_append_getElem hlt, List.filter_append, h]
  cases hq : liveB W x <;> simp [hq]

set_option maxRecDepth 100000 in
set_option maxHeartbeats 2000000 in
theorem wfix_any (L g : Nat) (V : Vals) (W : WS) (more : Int) (w : World) (h : WorldP w L g V W) (hcs : ∀ x ∈ W.conf, small x) (hcl : W.conf.length ≤ 5) (hep : 1 ≤ W.epoch ∧ W.epoch ≤ 1000) (hmore : more = -1 ∨ small more) :
    Calls Try.prog 10 #[.pointer (some ⟨g, 0, none⟩), .int .i64 more] w fun e w' => e = .returned (.tuple #[]) ∧ ∃ V', WorldP w' L g V' (wfix W more) ∧ Mod (worldMay g V) w w' ∧ Grew w g V V' := by
  obtain ⟨j0, hj, jz0, jz1, jz2⟩ := info_parts Try.info3
  obtain ⟨bd, dc, c4, zd, hd1, hd2, cd⟩ := h.downAt
  obtain ⟨-, -, -, -, c6, c7, -⟩ := h.cells
  obtain ⟨ca, ccap, hcv⟩ := own_slice h.crow
  have HCR := Hid.mk' h.crow
  rw [hcv] at c7 HCR
  have zg := h.net.blk.lt
  unfold maxLen at hd2
  have HH := Hid.mk' h
  have HC := Hid.mk' hcs
  have HCD := Hid.mk' cd
  clear h hcs cd
  go_enter Try.func10, Try.ntmps10
  go_wp2_with fail
  go_loopw [20] (fun i wr => ∃ (k : Nat) (cv : Value), k ≤ W.conf.length ∧ i = .int .i64 k ∧ Blk wr w.heap.size [.int .i64 (W.epoch + 1), cv] 33 ∧ wr.ownsRow w.heap.size 3 1 cv ((W.conf.take k).filter (liveB W)).length (((W.conf.take k).filter (liveB W)).map (Value.int .i64)) ∧ Mod noBlock w wr) (fun i _ => W.conf.length - (intOf i).toNat)
  case atStart =>
    refine ⟨0, .slice none 0 0, Nat.zero_le _, rfl, ?_, World.ownsRow_nil _ _ _ _, ?_⟩
    · exact Blk.new w _ _
    · exact (Mod.refl _ w).alloc _
  case round =>
    obtain ⟨k, cv, hk, rfl, hB, hO, hM⟩ := hrel
    have hfl : ((W.conf.take k).filter (liveB W)).length ≤ 5 := by
      have h1 := List.length_filter_le (liveB W) (W.conf.take k)
      have h2 : (W.conf.take k).length ≤ W.conf.length := by rw [List.length_take]; omega
      omega
    have c4r := hM.cell c4 id
    have hzr := hM.size
    obtain ⟨va, vcap, hva⟩ := own_slice hO
    subst hva
    by_cases hlt : k < W.conf.length
    · obtain ⟨x, hx⟩ : ∃ x, W.conf[k]? = some x := ⟨_, List.getElem?_eq_getElem hlt⟩
      have hs := HC.out x (List.mem_of_getElem? hx)
      obtain ⟨bc, cc, hcv2, _, zc, hcc1, hcc2, ccell⟩ := row_open HCR.out (by omega)
      simp only [Value.slice.injEq] at hcv2
      obtain ⟨rfl, _, rfl⟩ := hcv2
      have q1 := hM.cell (ccell k (.int .i64 x) (by rw [List.getElem?_map, hx]; rfl)) id
      have q2 := hM.cell (HCD.out x.toNat (toNat_small hs).1) id
      have hx0 : 0 ≤ x := hs.1
      have hx5 : x < 5 := hs.2
      have hltI : (k : Int) < (W.conf.length : Int) := by omega
      have hlt0 : (0 : Int) ≤ (k : Int) := by omega
      unfold maxLen at hcc2
      have HF := Hid.mk' (filter_take_succ hx)
      clear hx hs ccell
      cases hdn : W.down x.toNat with
      | true =>
        rw [hdn] at q2
        have hlv : liveB W x = false := by simp [liveB, hdn]
        rw [hlv] at HF
        have HFO : Hid ((W.conf.take (k + 1)).filter (liveB W) = (W.conf.take k).filter (liveB W)) := by have := HF.out; rw [Hid]; simpa using this
        clear HF hlv hdn
        go_wp2_with fail
        go_roundw
        case rel => exact ⟨k + 1, _, by omega, by go_num, hB, by rw [HFO.out]; exact hO, hM⟩
        case measure => simp [intOf]; omega
      | false =>
        rw [hdn] at q2
        have hlv : liveB W x = true := by simp [liveB, hdn]
        rw [hlv] at HF
        have HFO : Hid ((W.conf.take (k + 1)).filter (liveB W) = (W.conf.take k).filter (liveB W) ++ [x]) := by have := HF.out; rw [Hid]; simpa using this
        have x1 := hB.cell 1 rfl
        have f1 := hB.frozen 1
        have zB := hB.lt
        have HO := Hid.mk' hO
        have hk63 : ((W.conf.take k).filter (liveB W)).length + 1 ≤ maxLen := by unfold maxLen; omega
        have hk47 : (((W.conf.take k).filter (liveB W)).length + 1) * 8 ≤ 140737488355328 := by omega
        have HB := Hid.mk' hB
        have hne : (Value.slice va ((W.conf.take k).filter (liveB W)).length vcap).ownBlock ≠ some w.heap.size := fun e => by
          have h1 := (kind_row hO e).1
          exact kind_ne h1 (kind_blk hB) (by decide)
        clear HF hlv hdn hO hB
        go_wp2_with (first
          | (at_builtin; refine wpList_append_own_at _ rfl (.tmp 33) (.tmp 35) 31 rfl w.heap.size 3 j0 _ 1 8 Try.underlying31 hj jz0 jz1 jz2 rfl (by decide) _ _ _ rfl (HO.out.alloc _) ⟨wr.heap.size, 0, none⟩ 1 1 [.int .i64 x] rfl rfl (World.news_of_block (heap_alloc_new wr _)) (by simp [Value.oneCell']) hk63 hk47 (by simp; omega) ?_)
          | fail)
        intro v6 w6 hown6 hgrow _ _
        obtain ⟨a6, cap6, hv6⟩ := own_slice hown6
        subst hv6
        have hm6 : Mod (fun y => (Value.slice va ((W.conf.take k).filter (liveB W)).length vcap).ownBlock = some y) wr w6 := ((Mod.refl _ wr).alloc _).grown hgrow (fun y hy _ => hy)
        have hB6 := HB.out.mod hm6 hne
        have x61 := hB6.cell 1 rfl
        have f61 := hB6.frozen 1
        have zB6 := hB6.lt
        have hM6 : Mod noBlock w w6 := hM.trans' hm6 (fun i hi e => by have := (kind_row HO.out e).2.1; omega)
        have HB6 := Hid.mk' hB6
        have HOW := Hid.mk' hown6
        have HM6 := Hid.mk' hM6
        clear hown6 hgrow hm6 hB6 hM6
        go_wp2_with fail
        have hms : Mod (oneBlock w.heap.size) w6 (w6.setCell ⟨w.heap.size, 1, none⟩ (.slice a6 (((W.conf.take k).filter (liveB W)).length + 1) cap6)) := Mod.setBlk _ 1 _
        have hO7 : (w6.setCell ⟨w.heap.size, 1, none⟩ (.slice a6 (((W.conf.take k).filter (liveB W)).length + 1) cap6)).ownsRow w.heap.size 3 1 (.slice a6 (((W.conf.take k).filter (liveB W)).length + 1) cap6) ((W.conf.take (k + 1)).filter (liveB W)).length (((W.conf.take (k + 1)).filter (liveB W)).map (Value.int .i64)) := by
          rw [HFO.out]
          have := own_mod (G := oneBlock w.heap.size) HOW.out hms (fun y _ _ hy e => by
            simp only [oneBlock] at e; subst e
            exact kind_ne (kind_row HOW.out hy).1 (kind_blk HB6.out) (by decide))
          simpa using this
        have hM7 := newer_none (Mod.put (HM6.out.mono (G' := newer w.heap.size) (fun _ _ e => e.elim)) w.heap.size 1 (Nat.le_refl _) (.slice a6 (((W.conf.take k).filter (liveB W)).length + 1) cap6))
        have hB7 := HB6.out.set 1 (.slice a6 (((W.conf.take k).filter (liveB W)).length + 1) cap6)
        go_roundw
        case rel => exact ⟨k + 1, _, by omega, by go_num, hB7, hO7, hM7⟩
        case measure => simp [intOf]; omega
    · obtain rfl : k = W.conf.length := by omega
      have hpf : (W.conf.take W.conf.length).filter (liveB W) = W.conf.filter (liveB W) := by rw [List.take_length]
      rw [hpf] at hO hfl hB
      have x0 := hB.cell 0 rfl
      have x1 := hB.cell 1 rfl
      have f1 := hB.frozen 1
      have zB := hB.lt
      have zgr : g < wr.heap.size := by omega
      have hWq := HH.out.quiet hM
      have f6 := hWq.net.blk.frozen 6
      have f7 := hWq.net.blk.frozen 7
      by_cases hm0 : 0 ≤ more
      · have hd : decide (more ≥ 0) = true := by simpa using hm0
        have hC : Hid (confF W more = W.conf.filter (liveB W) ++ [more]) := by rw [Hid, confF, if_pos hm0]
        have HO := Hid.mk' hO
        have hk63 : (W.conf.filter (liveB W)).length + 1 ≤ maxLen := by unfold maxLen; omega
        have hk47 : ((W.conf.filter (liveB W)).length + 1) * 8 ≤ 140737488355328 := by omega
        have HB := Hid.mk' hB
        have hne : (Value.slice va (W.conf.filter (liveB W)).length vcap).ownBlock ≠ some w.heap.size := fun e => by
          have h1 := (kind_row hO e).1
          exact kind_ne h1 (kind_blk hB) (by decide)
        clear hO hB hWq hpf
        go_wp2_with (first
          | (at_builtin; refine wpList_append_own_at _ rfl (.tmp 42) (.tmp 44) 31 rfl w.heap.size 3 j0 _ 1 8 Try.underlying31 hj jz0 jz1 jz2 rfl (by decide) _ _ _ rfl (HO.out.alloc _) ⟨wr.heap.size, 0, none⟩ 1 1 [.int .i64 more] rfl rfl (World.news_of_block (heap_alloc_new wr _)) (by simp [Value.oneCell']) hk63 hk47 (by simp; omega) ?_)
          | fail)
        intro v6 w6 hown6 hgrow _ _
        obtain ⟨a6, cap6, hv6⟩ := own_slice hown6
        subst hv6
        have hm6 : Mod (fun y => (Value.slice va (W.conf.filter (liveB W)).length vcap).ownBlock = some y) wr w6 := ((Mod.refl _ wr).alloc _).grown hgrow (fun y hy _ => hy)
        have hB6 := HB.out.mod hm6 hne
        have x60 := hB6.cell 0 rfl
        have x61 := hB6.cell 1 rfl
        have f61 := hB6.frozen 1
        have zB6 := hB6.lt
        have hM6 : Mod noBlock w w6 := hM.trans' hm6 (fun i hi e => by have := (kind_row HO.out e).2.1; omega)
        have hM7 := newer_none (Mod.put (hM6.mono (G' := newer w.heap.size) (fun _ _ e => e.elim)) w.heap.size 1 (Nat.le_refl _) (.slice a6 ((W.conf.filter (liveB W)).length + 1) cap6))
        have hms : Mod (oneBlock w.heap.size) w6 (w6.setCell ⟨w.heap.size, 1, none⟩ (.slice a6 ((W.conf.filter (liveB W)).length + 1) cap6)) := Mod.setBlk _ 1 _
        have hO7 : (w6.setCell ⟨w.heap.size, 1, none⟩ (.slice a6 ((W.conf.filter (liveB W)).length + 1) cap6)).ownsRow w.heap.size 3 1 (.slice a6 ((W.conf.filter (liveB W)).length + 1) cap6) (confF W more).length ((confF W more).map (Value.int .i64)) := by
          rw [hC.out]
          have := own_mod (G := oneBlock w.heap.size) hown6 hms (fun y _ _ hy e => by
            simp only [oneBlock] at e; subst e
            exact kind_ne (kind_row hown6 hy).1 (kind_blk hB6) (by decide))
          simpa using this
        have R := HH.out.config hM7 hO7 (ep := W.epoch + 1)
        have hW7 := HH.out.quiet hM7
        have f66 := hW7.net.blk.frozen 6
        have f67 := hW7.net.blk.frozen 7
        have zg7 := hW7.net.blk.lt
        obtain ⟨-, -, -, -, c67, c77, -⟩ := hW7.cells
        have hB7 := hB6.set 1 (.slice a6 ((W.conf.filter (liveB W)).length + 1) cap6)
        have x70 := hB7.cell 0 rfl
        have x71 := hB7.cell 1 rfl
        obtain ⟨w7, hw7⟩ : ∃ q, q = w6.setCell ⟨w.heap.size, 1, none⟩ (.slice a6 ((W.conf.filter (liveB W)).length + 1) cap6) := ⟨_, rfl⟩
        rw [← hw7] at R hW7 f66 f67 zg7 hB7 x70 x71 c67 c77
        have HR := Hid.mk' R
        clear R hW7 hB7 hms hO7 hM7 hM6 hm6 hown6 hgrow hB6 c4r c4 f6 f7
        go_upto_region 9 with fail
        rw [← hw7]
        clear hw7
        go_wp2_with fail
        go_end0
        exact ⟨rfl, _, HR.out.1, HR.out.2.1, HR.out.2.2⟩
      · have hd : decide (more ≥ 0) = false := by simpa using hm0
        have hC : Hid (confF W more = W.conf.filter (liveB W)) := by rw [Hid, confF, if_neg hm0, List.append_nil]
        have R := HH.out.config hM hO (ep := W.epoch + 1)
        have HR := Hid.mk' R
        obtain ⟨-, -, -, -, c6r, c7r, -⟩ := hWq.cells
        clear R hO hB hWq hpf
        go_wp2_with fail
        go_end0
        exact ⟨rfl, V.conf (.slice va (W.conf.filter (liveB W)).length vcap), by show WorldP _ L g _ (wconf W (W.epoch + 1) (confF W more)); rw [hC.out]; exact HR.out.1, HR.out.2.1, HR.out.2.2⟩
end Go.Proofs.Ytefhgakcffhgaab
