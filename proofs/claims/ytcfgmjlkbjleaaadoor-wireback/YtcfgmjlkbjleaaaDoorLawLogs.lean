/- The law WireLogs, walked. -/
import Derived.Test.YtcfgmjlkbjleaaaDoorLawMsgs
namespace Go.Proofs.YtcfgmjlkbjleaaaDoor
open Go.RowKit Go.Lib

theorem PairsR.up {w : World} {L L' : Nat} {v : Value} {ps : List PairD} (h : PairsR w L v ps) (hL : L ≤ L') : PairsR w L' v ps := by
  obtain ⟨a, cap, h1, h2, h3, h4⟩ := h
  refine ⟨a, cap, h1, h2, h3, ?_⟩
  rcases h4 with h4 | ⟨b, off, h5, h6, h7⟩
  · exact .inl h4
  · exact .inr ⟨b, off, h5, Nat.lt_of_lt_of_le h6 hL, h7⟩
theorem CmdsR.up {w : World} {L L' : Nat} {v : Value} {cs : List CmdD} (h : CmdsR w L v cs) (hL : L ≤ L') : CmdsR w L' v cs := by
  obtain ⟨a, cap, h1, h2, h3, h4⟩ := h
  refine ⟨a, cap, h1, h2, h3, ?_⟩
  rcases h4 with h4 | ⟨b, off, h5, h6, h7⟩
  · exact .inl h4
  · refine .inr ⟨b, off, h5, Nat.lt_of_lt_of_le h6 hL, fun j c hc => ?_⟩
    obtain ⟨u, q0, q1, q2, q3, q4⟩ := h7 j c hc
    exact ⟨u, q0, q1, q2, q3, q4.up hL⟩
/-- Commands in a row of the call's own, from block B on; their writes lie below L. -/
def CmdsO (w : World) (B L : Nat) (v : Value) (cs : List CmdD) : Prop :=
  ∃ vs : List Value, vs.length = cs.length ∧ w.ownsRow B 24 4 v cs.length (logCells cs vs) ∧ ∀ (i : Nat) c u, cs[i]? = some c → vs[i]? = some u → PairsR w L u c.writes
theorem CmdsO.toR {w : World} {B L : Nat} {v : Value} {cs : List CmdD} (h : CmdsO w B L v cs) (hL : L ≤ w.heap.size) : CmdsR w w.heap.size v cs := by
  obtain ⟨vs, hvl, hrow, hall⟩ := h
  rcases hrow.2 with ⟨rfl, h0⟩ | ⟨g, cap, cur, rfl, _, hg, h1, h2, _, _⟩
  · have : cs = [] := List.eq_nil_of_length_eq_zero h0
    subst this
    exact ⟨none, 0, rfl, Nat.le_refl _, Nat.zero_le _, .inl rfl⟩
  · have hc := hrow.cells (g := g) rfl
    have add0 : ∀ j, (⟨g, 0, none⟩ : Addr).add j = ⟨g, 0 + j, none⟩ := fun j => by unfold Addr.add; split <;> simp_all
    refine ⟨_, cap, rfl, h1, h2, .inr ⟨g, 0, rfl, (Array.getElem?_eq_some_iff.1 hg).1, fun j c hj => ?_⟩⟩
    obtain ⟨u, f0, f1, f2, f3, f4⟩ := logCells_at cs vs j c hvl hj
    refine ⟨u, ?_, ?_, ?_, ?_, (hall j c u hj f0).up hL⟩
    · have := hc _ _ f1; rw [add0] at this; exact this
    · have := hc _ _ f2; rw [add0] at this; rw [Nat.add_assoc]; exact this
    · have := hc _ _ f3; rw [add0] at this; rw [Nat.add_assoc]; exact this
    · have := hc _ _ f4; rw [add0] at this; rw [Nat.add_assoc]; exact this
theorem logCells_cells {w : World} {b : Nat} : ∀ (cs : List CmdD) (vs : List Value) (off : Nat), vs.length = cs.length →
    (∀ (i : Nat) c u, cs[i]? = some c → vs[i]? = some u → w.cell? ⟨b, off + i * 4, none⟩ = some (.int .i64 c.kind) ∧ w.cell? ⟨b, off + i * 4 + 1, none⟩ = some (.int .i64 c.tx) ∧ w.cell? ⟨b, off + i * 4 + 2, none⟩ = some (.int .i64 c.time) ∧ w.cell? ⟨b, off + i * 4 + 3, none⟩ = some u) →
    ∀ (j : Nat) u, (logCells cs vs)[j]? = some u → w.cell? ⟨b, off + j, none⟩ = some u
  | [], _, _, _, _, j, u, h => by simp [logCells] at h
  | _ :: _, [], _, hl, _, _, _, _ => by simp at hl
  | c :: cs, v :: vs, off, hl, hh, j, u, h => by
    obtain ⟨h0, h1, h2, h3⟩ := hh 0 c v rfl rfl
    simp only [Nat.zero_mul, Nat.add_zero] at h0 h1 h2 h3
    match j, h with
    | 0, h => simp [logCells, cmdCells] at h; subst h; exact h0
    | 1, h => simp [logCells, cmdCells] at h; subst h; exact h1
    | 2, h => simp [logCells, cmdCells] at h; subst h; exact h2
    | 3, h => simp [logCells, cmdCells] at h; subst h; exact h3
    | j + 4, h =>
      have e : (logCells (c :: cs) (v :: vs))[j + 4]? = (logCells cs vs)[j]? := by simp [logCells, cmdCells]
      rw [e] at h
      have := logCells_cells (w := w) (b := b) cs vs (off + 4) (by simpa using hl) (fun i c' u' hc' hu' => by
        obtain ⟨g0, g1, g2, g3⟩ := hh (i + 1) c' u' (by simpa using hc') (by simpa using hu')
        have en : off + (i + 1) * 4 = off + 4 + i * 4 := by omega
        rw [en] at g0 g1 g2 g3
        exact ⟨g0, g1, g2, g3⟩) j u h
      rw [show off + (j + 4) = off + 4 + j by omega]; exact this
/-- Commands that lie there as cells, for a copy. -/
theorem CmdsR.cells {w : World} {L : Nat} {a : Option Addr} {cap : Nat} {cs : List CmdD} (h : CmdsR w L (.slice a cs.length cap) cs) (h0 : cs ≠ []) :
    ∃ (b off : Nat) (vs : List Value), a = some ⟨b, off, none⟩ ∧ vs.length = cs.length ∧ (∀ (j : Nat) u, (logCells cs vs)[j]? = some u → w.cell? ((⟨b, off, none⟩ : Addr).add j) = some u) ∧ (∀ u ∈ logCells cs vs, u.oneCell' = true) ∧
      (∀ (i : Nat) c u, cs[i]? = some c → vs[i]? = some u → PairsR w L u c.writes) := by
  obtain ⟨a', cap', h1, _, _, h4⟩ := h
  simp only [Value.slice.injEq] at h1
  obtain ⟨rfl, _, rfl⟩ := h1
  rcases h4 with h4 | ⟨b, off, h5, h6, h7⟩
  · exact absurd h4 h0
  · have hch : ∀ i, i < cs.length → ∃ u : Value, w.cell? ⟨b, off + i * 4, none⟩ = some (.int .i64 (cs.getD i zeroCmd).kind) ∧ w.cell? ⟨b, off + i * 4 + 1, none⟩ = some (.int .i64 (cs.getD i zeroCmd).tx) ∧ w.cell? ⟨b, off + i * 4 + 2, none⟩ = some (.int .i64 (cs.getD i zeroCmd).time) ∧ w.cell? ⟨b, off + i * 4 + 3, none⟩ = some u ∧ PairsR w L u (cs.getD i zeroCmd).writes := fun i hi => by
      have hc : cs[i]? = some (cs.getD i zeroCmd) := by rw [List.getD_eq_getElem?_getD, List.getElem?_eq_getElem hi]; rfl
      obtain ⟨u, q0, q1, q2, q3, q4⟩ := h7 i _ hc
      exact ⟨u, q0, q1, q2, q3, q4⟩
    obtain ⟨f, hf⟩ := Go.Deep.choose_lt (α := Value) hch
    have hget : ∀ (i : Nat) c u, cs[i]? = some c → ((List.range cs.length).map f)[i]? = some u → i < cs.length ∧ cs.getD i zeroCmd = c ∧ u = f i := fun i c u hc hu => by
      have hi : i < cs.length := (List.getElem?_eq_some_iff.1 hc).1
      rw [List.getElem?_map, List.getElem?_range hi] at hu
      exact ⟨hi, by rw [List.getD_eq_getElem?_getD, hc]; rfl, by simpa using hu.symm⟩
    refine ⟨b, off, (List.range cs.length).map f, h5, by simp, ?_, ?_, ?_⟩
    · intro j u hu
      rw [Go.WideShapes.add_plain]
      refine logCells_cells cs _ off (by simp) (fun i c u hc hu => ?_) j u hu
      obtain ⟨hi, rfl, rfl⟩ := hget i c u hc hu
      obtain ⟨q0, q1, q2, q3, _⟩ := hf i hi
      exact ⟨q0, q1, q2, q3⟩
    · have key : ∀ (cs : List CmdD) (vs : List Value), (∀ u ∈ vs, u.oneCell' = true) → ∀ u ∈ logCells cs vs, u.oneCell' = true := by
        intro cs
        induction cs with
        | nil => intro vs _ u hu; simp [logCells] at hu
        | cons c cs ih =>
          intro vs hvs u hu
          match vs, hvs, hu with
          | [], _, hu => simp [logCells] at hu
          | v :: vs, hvs, hu =>
            simp only [logCells, List.mem_append] at hu
            rcases hu with hu | hu
            · simp [cmdCells] at hu
              rcases hu with rfl | rfl | rfl | rfl
              · rfl
              · rfl
              · rfl
              · exact hvs _ (by simp)
            · exact ih vs (fun u hu => hvs u (by simp [hu])) u hu
      refine key cs _ (fun u hu => ?_)
      obtain ⟨i, hi, rfl⟩ := List.mem_map.1 hu
      obtain ⟨_, _, _, _, a, cap, e, _⟩ := hf i (List.mem_range.1 hi)
      rw [e]; rfl
    · intro i c u hc hu
      obtain ⟨hi, rfl, rfl⟩ := hget i c u hc hu
      exact (hf i hi).2.2.2.2
theorem own_empty (w : World) : (w.alloc (.cells #[] 24)).ownsRow w.heap.size 24 4 (.slice (some ⟨w.heap.size, 0, none⟩) 0 0) 0 [] :=
  ⟨rfl, .inr ⟨w.heap.size, 0, #[], rfl, Nat.le_refl _, heap_alloc_new w _, Nat.le_refl _, by unfold maxLen; omega, rfl, rfl⟩⟩
theorem logCells_len : ∀ (cs : List CmdD) (vs : List Value), vs.length = cs.length → (logCells cs vs).length = cs.length * 4
  | [], _, _ => by simp [logCells]
  | _ :: _, [], h => by simp at h
  | c :: cs, v :: vs, h => by simp [logCells, cmdCells, logCells_len cs vs (by simpa using h)]; omega
def _root_.Go.Value.lenOf : Value → Nat
  | .slice _ n _ => n
  | _ => 0
theorem more_bounds (many : Int) : ∃ q, wrap64 (499 + wrap64 ((IntKind.u64.wrap ((IntKind.u64.wrap many).tdiv 50)).tmod 3)) = q ∧ 499 ≤ q ∧ q ≤ 501 := by
  refine ⟨_, rfl, ?_⟩
  have h0 : 0 ≤ IntKind.u64.wrap ((IntKind.u64.wrap many).tdiv 50) := by rw [IntKind.wrap_u64]; omega
  rw [Int.tmod_eq_emod_of_nonneg h0]
  generalize IntKind.u64.wrap ((IntKind.u64.wrap many).tdiv 50) = x
  rw [IntWalk.wrap64_in (x % 3) ⟨by omega, by omega⟩, IntWalk.wrap64_in _ ⟨by omega, by omega⟩]
  omega
def goodC (c : CmdD) : Prop := intsC c ∧ c.writes.length ≤ 40 ∧ smallC c
def aborted (n : Nat) : CmdD := ⟨4, n, 0, []⟩
theorem good_aborted (n : Nat) (h : n ≤ 501) : goodC (aborted n) := by
  refine ⟨⟨⟨?_, ?_⟩, ⟨?_, ?_⟩, ⟨?_, ?_⟩⟩, ?_, fun p hp => by simp [aborted] at hp⟩ <;> simp only [aborted, List.length_nil] <;> omega

set_option maxRecDepth 100000 in
set_option maxHeartbeats 1000000 in
theorem wireLogs_any (cs : List CmdD) (many : Int) (v : Value) (w : World) (hv : CmdsR w w.heap.size v cs) (hl : lsize cs ≤ 44040192) (hi : ∀ c ∈ cs, intsC c) (hs : ∀ c ∈ cs, smallC c) (het : ET w) :
    Calls Tryd.prog 4 #[v, .int .i64 many] w fun e w' => e = .returned (.bool true) ∧ Mod noBlock w w' := by
  have hv0 := hv
  obtain ⟨a, cap, rfl, hpc, hcm, hcells⟩ := hv0
  clear hcells
  unfold maxLen at hcm
  obtain ⟨i0, hii, hz0, hz1, hz2⟩ := info_parts Tryd.info24
  have HII := Hid.mk' hi
  have HSS := Hid.mk' hs
  have HET := Hid.mk' het
  clear hi hs het
  go_enter Tryd.func4, Tryd.ntmps4
  by_cases h60 : 60 < cs.length
  · go_wp2_with fail
    go_ret
    exact ⟨rfl, Mod.refl _ _⟩
  · have hd : decide (60 < (cs.length : Int)) = false := by simp; omega
    go_wp2_with fail
    go_loopw [5] (fun i wr => ∃ k : Nat, k ≤ cs.length ∧ i = .int .i64 k ∧ (∀ c ∈ cs.take k, c.writes.length ≤ 40) ∧ Mod noBlock w wr) (fun i _ => cs.length - (intOf i).toNat)
    case atStart => exact ⟨0, Nat.zero_le _, rfl, by simp, Mod.refl _ _⟩
    case round =>
      obtain ⟨k, hk, rfl, hfew, hM⟩ := hrel
      have hvr := hv.mod hM (fun _ _ => id)
      have HFE := Hid.mk' hfew
      clear hfew
      by_cases hlt : k < cs.length
      · obtain ⟨a', cap', ha', _, _, hcl⟩ := hvr
        simp only [Value.slice.injEq] at ha'
        obtain ⟨rfl, _, rfl⟩ := ha'
        rcases hcl with rfl | ⟨b, off, rfl, hbL, hcl⟩
        · simp at hlt
        obtain ⟨c, hc⟩ : ∃ c, cs[k]? = some c := ⟨_, List.getElem?_eq_getElem hlt⟩
        obtain ⟨u, q0, q1, q2, q3, hu⟩ := hcl k c hc
        obtain ⟨ua, ucap, rfl, h1, h2, _⟩ := hu
        unfold maxLen at h2
        have HT : Hid (cs.take (k + 1) = cs.take k ++ [c]) := by
          rw [Hid, List.take_succ_eq_append_getElem hlt]
          rw [List.getElem?_eq_getElem hlt] at hc
          simp at hc; rw [hc]
        clear hcl hc hv
        have X := Hid.mk' (few_any c.kind c.tx c.time ua c.writes.length ucap wr (by omega))
        go_wp2_with fail
        refine X.out.mono ?_
        rintro e w9 ⟨rfl, hm9⟩
        have hM9 := hM.trans hm9
        clear X q0 q1 q2 q3
        by_cases h40 : c.writes.length ≤ 40
        · have hd4 : decide (c.writes.length ≤ 40) = true := by simpa using h40
          go_wp2_with fail
          go_roundw
          case rel =>
            refine ⟨k + 1, by omega, by go_num, ?_, hM9⟩
            rw [HT.out]
            intro c' hc'
            rcases List.mem_append.1 hc' with h | h
            · exact HFE.out c' h
            · simp at h; subst h; exact h40
          case measure => simp [intOf]; omega
        · have hd4 : decide (c.writes.length ≤ 40) = false := by simpa using h40
          go_wp2_with fail
          go_ret
          exact ⟨rfl, hM9⟩
      · have hkn : k = cs.length := by omega
        subst hkn
        rw [List.take_length] at HFE
        have HGC : Hid (∀ c ∈ cs, goodC c) := fun c hc => ⟨HII.out c hc, HFE.out c hc, HSS.out c hc⟩
        have HC := Hid.mk' (hvr.up hM.size)
        by_cases hm7 : many.tmod 50 = 7 ∧ 0 < cs.length
        · obtain ⟨hm7, hpos⟩ := hm7
          have hb7 : (many.tmod 50 == 7) = true := by simpa using hm7
          obtain ⟨b, off, vs, rfl, hvl, hcl, hone, hpr⟩ := CmdsR.cells hvr (by intro e; rw [e] at hpos; simp at hpos)
          have HCL : Hid (∀ (j : Nat) u, (logCells cs vs)[j]? = some u → (wr.alloc (.cells #[] 24)).cell? ((⟨b, off, none⟩ : Addr).add j) = some u) := fun j u hu => ((Mod.refl noBlock wr).alloc _).cell (hcl j u hu) id
          have HON := Hid.mk' hone
          have HPR := Hid.mk' hpr
          have HOW := Hid.mk' (own_empty wr)
          have hlc : (logCells cs vs).length = cs.length * 4 := logCells_len cs vs hvl
          have HLC := Hid.mk' hlc
          clear hcl hone hpr hlc hv
          have hk63 : 0 + cs.length ≤ maxLen := by unfold maxLen; omega
          have hk47 : (0 + cs.length) * 48 ≤ 140737488355328 := by omega
          go_wp2_with (first
            | (at_builtin; refine wpList_append_own _ rfl (.tmp 33) (.tmp 34) 38 rfl wr.heap.size 24 i0 _ 4 48 Tryd.underlying38 hii hz0 hz1 hz2 rfl (by omega) _ _ _ rfl HOW.out ⟨b, off, none⟩ _ _ (logCells cs vs) rfl HLC.out HCL.out HON.out hk63 hk47 (by simp) ?_)
            | fail)
          intro v' w1 hown1 hgrow _
          have hm1 : Mod noBlock wr w1 := ((Mod.refl _ wr).alloc _).grown hgrow (fun x hx hlt => by simp [Value.ownBlock] at hx; omega)
          have hO1 : CmdsO w1 w.heap.size w.heap.size v' cs := ⟨vs, hvl, own_base (by simpa using hown1) hM.size, fun i c u hc hu => (HPR.out i c u hc hu).mod hm1 (fun _ _ => id)⟩
          clear hown1 hgrow HCL HON HPR HOW HLC hvl hk63 hk47 hvr
          go_wp2_with fail
          go_loopw [0] (fun v wq => ∃ ds, CmdsO wq w.heap.size w.heap.size v ds ∧ (∀ c ∈ ds, goodC c) ∧ ds.length ≤ 501 ∧ lsize ds ≤ 44040192 + 24 * ds.length ∧ Mod noBlock w wq) (fun v _ => 501 - v.lenOf)
          case atStart => exact ⟨cs, hO1, HGC.out, by omega, by omega, hM.trans hm1⟩
          case round =>
            obtain ⟨ds, hO, hG, hd5, hls, hMq⟩ := hrel
            have HG := Hid.mk' hG
            have HOO := Hid.mk' hO
            obtain ⟨xs, hxl, hrow, hall⟩ := hO
            obtain ⟨va, vcap, rfl⟩ := own_slice hrow
            have HROW := Hid.mk' hrow
            have HALL := Hid.mk' hall
            clear hG hall hO1 hm1 hrow
            obtain ⟨q, hq, hq1, hq2⟩ := more_bounds many
            by_cases hlq : (ds.length : Int) < q
            · clear HC
              have hk63 : ds.length + 1 ≤ maxLen := by unfold maxLen; omega
              have hk47 : (ds.length + 1) * 48 ≤ 140737488355328 := by omega
              have hz := hMq.size
              go_wp2_with (first
                | (at_builtin; refine wpList_append_own _ rfl (.tmp 45) (.tmp 49) 38 rfl w.heap.size 24 i0 _ 4 48 Tryd.underlying38 hii hz0 hz1 hz2 rfl (by omega) _ _ _ rfl (HROW.out.alloc _) ⟨wr.heap.size, 0, none⟩ 1 1 (cmdCells (aborted ds.length) (.slice none 0 0)) rfl rfl (World.news_of_block (heap_alloc_new wr _)) (cmd_one _ _ _ _) hk63 hk47 (by simp; omega) ?_)
                | fail)
              intro v2 w2 hown2 hgrow _
              have hm2 : Mod (newer w.heap.size) wr w2 := ((Mod.refl _ wr).alloc _).grown hgrow (fun x hx _ => (HROW.out.lt x hx).1)
              have hO2 : CmdsO w2 w.heap.size w.heap.size v2 (ds ++ [aborted ds.length]) := by
                refine ⟨xs ++ [.slice none 0 0], by simp [hxl], by rw [logCells_snoc ds xs _ _ hxl]; simpa using hown2, fun i c u hc hu => ?_⟩
                by_cases hi : i < ds.length
                · rw [List.getElem?_append_left hi] at hc
                  rw [List.getElem?_append_left (by omega)] at hu
                  exact (HALL.out i c u hc hu).mod hm2 (fun k hk e => by simp only [newer] at e; omega)
                · have hi' : i = ds.length := by
                    rcases Nat.lt_or_ge i (ds.length + 1) with h | h
                    · omega
                    · rw [List.getElem?_eq_none (by simpa using h)] at hc; cases hc
                  subst hi'
                  rw [List.getElem?_append_right (Nat.le_refl _)] at hc
                  rw [List.getElem?_append_right (by omega)] at hu
                  simp [hxl] at hc hu
                  subst hc hu
                  exact ⟨none, 0, rfl, Nat.le_refl _, Nat.zero_le _, .inl rfl⟩
              have hM2 : Mod noBlock w w2 := hMq.since hm2 (Nat.le_refl _)
              have hL2 : v2.lenOf = ds.length + 1 := by obtain ⟨_, _, rfl⟩ := own_slice hown2; rfl
              have HO2 := Hid.mk' hO2
              clear hown2 hgrow hm2 HROW HALL hO2 HOO hk63 hk47 hMq
              go_wp2_with fail
              go_roundw
              case rel =>
                refine ⟨ds ++ [aborted ds.length], HO2.out, fun c hc => ?_, by simp; omega, by rw [lsize_snoc]; simp [aborted, psize]; omega, hM2⟩
                rcases List.mem_append.1 hc with h | h
                · exact HG.out c h
                · simp at h; subst h
                  exact good_aborted _ hd5
              case measure =>
                show 501 - Value.lenOf v2 < 501 - ds.length
                omega
            · clear HC
              have HC := Hid.mk' (HOO.out.toR hMq.size)
              clear HROW HALL HOO
              have X1 := Hid.mk' (rLog_any wr.heap.size ds _ wr (Nat.le_refl _) HC.out (by omega) (fun c hc => (HG.out c hc).1.1))
              have HSM : Hid (vLog ds = rLog ds) := vLog_eq ds (fun c hc => (HG.out c hc).2.2)
              go_wp2_with fail
              refine X1.out.mono ?_
              rintro e w3 ⟨v3, rfl, hown3, hm3⟩
              have HO3 := Hid.mk' hown3
              have X2 := Hid.mk' (wLog_any wr.heap.size ds _ w3 hm3.size (HC.out.mod hm3 (fun _ _ => id)) (fun c hc => Nat.le_trans (HG.out c hc).2.1 (by omega)) (fun c hc => (HG.out c hc).1))
              rw [HSM.out] at X2
              obtain ⟨r, hr⟩ : ∃ q, q = rLog ds := ⟨_, rfl⟩
              have HBY : Hid (Byt r.1) := by rw [hr]; exact byt_rLog ds
              rw [← hr] at X2 HO3 ⊢
              clear hr HSM X1 hown3
              go_wp2_with fail
              refine X2.out.mono ?_
              rintro e w4 ⟨v4, rfl, hown4, hm4⟩
              have HO4 := Hid.mk' hown4
              have hM4 := (hMq.trans hm3).trans hm4
              have X3 := Hid.mk' (bare_same r.2 w4 (HET.out.mod hM4))
              clear X2 hown4
              go_wp2_with fail
              refine X3.out.mono ?_
              rintro e w5 ⟨rfl, hm5⟩
              have C3 := conv_bat (bytes_own (own_mod (own_mod HO3.out hm4 (fun _ _ _ _ => id)) hm5 (fun _ _ _ _ => id)) HBY.out)
              have C4 := conv_bat (bytes_own (own_mod HO4.out hm5 (fun _ _ _ _ => id)) HBY.out)
              clear X3
              go_wp2_with fail
              go_ret
              exact ⟨by simp, hM4.trans hm5⟩
        · have hb7 : (many.tmod 50 == 7) = false ∨ (many.tmod 50 == 7) = true ∧ decide (0 < cs.length) = false := by
            by_cases h : many.tmod 50 = 7
            · exact .inr ⟨by simpa using h, decide_eq_false (fun hp => hm7 ⟨h, by omega⟩)⟩
            · exact .inl (by simpa using h)
          have HG := Hid.mk' HGC.out
          clear hm7 HGC hvr hv
          rcases hb7 with hb7 | ⟨hb7, hb8⟩
          · have X1 := Hid.mk' (rLog_any wr.heap.size cs _ wr (Nat.le_refl _) HC.out (by omega) (fun c hc => (HG.out c hc).1.1))
            have HSM : Hid (vLog cs = rLog cs) := vLog_eq cs (fun c hc => (HG.out c hc).2.2)
            go_wp2_with fail
            refine X1.out.mono ?_
            rintro e w3 ⟨v3, rfl, hown3, hm3⟩
            have HO3 := Hid.mk' hown3
            have X2 := Hid.mk' (wLog_any wr.heap.size cs _ w3 hm3.size (HC.out.mod hm3 (fun _ _ => id)) (fun c hc => Nat.le_trans (HG.out c hc).2.1 (by omega)) (fun c hc => (HG.out c hc).1))
            rw [HSM.out] at X2
            obtain ⟨r, hr⟩ : ∃ q, q = rLog cs := ⟨_, rfl⟩
            have HBY : Hid (Byt r.1) := by rw [hr]; exact byt_rLog cs
            rw [← hr] at X2 HO3 ⊢
            clear hr HSM X1 hown3
            go_wp2_with fail
            refine X2.out.mono ?_
            rintro e w4 ⟨v4, rfl, hown4, hm4⟩
            have HO4 := Hid.mk' hown4
            have hM4 := (hM.trans hm3).trans hm4
            have X3 := Hid.mk' (bare_same r.2 w4 (HET.out.mod hM4))
            clear X2 hown4
            go_wp2_with fail
            refine X3.out.mono ?_
            rintro e w5 ⟨rfl, hm5⟩
            have C3 := conv_bat (bytes_own (own_mod (own_mod HO3.out hm4 (fun _ _ _ _ => id)) hm5 (fun _ _ _ _ => id)) HBY.out)
            have C4 := conv_bat (bytes_own (own_mod HO4.out hm5 (fun _ _ _ _ => id)) HBY.out)
            clear X3
            go_wp2_with fail
            go_ret
            exact ⟨by simp, hM4.trans hm5⟩
          · have X1 := Hid.mk' (rLog_any wr.heap.size cs _ wr (Nat.le_refl _) HC.out (by omega) (fun c hc => (HG.out c hc).1.1))
            have HSM : Hid (vLog cs = rLog cs) := vLog_eq cs (fun c hc => (HG.out c hc).2.2)
            go_wp2_with fail
            refine X1.out.mono ?_
            rintro e w3 ⟨v3, rfl, hown3, hm3⟩
            have HO3 := Hid.mk' hown3
            have X2 := Hid.mk' (wLog_any wr.heap.size cs _ w3 hm3.size (HC.out.mod hm3 (fun _ _ => id)) (fun c hc => Nat.le_trans (HG.out c hc).2.1 (by omega)) (fun c hc => (HG.out c hc).1))
            rw [HSM.out] at X2
            obtain ⟨r, hr⟩ : ∃ q, q = rLog cs := ⟨_, rfl⟩
            have HBY : Hid (Byt r.1) := by rw [hr]; exact byt_rLog cs
            rw [← hr] at X2 HO3 ⊢
            clear hr HSM X1 hown3
            go_wp2_with fail
            refine X2.out.mono ?_
            rintro e w4 ⟨v4, rfl, hown4, hm4⟩
            have HO4 := Hid.mk' hown4
            have hM4 := (hM.trans hm3).trans hm4
            have X3 := Hid.mk' (bare_same r.2 w4 (HET.out.mod hM4))
            clear X2 hown4
            go_wp2_with fail
            refine X3.out.mono ?_
            rintro e w5 ⟨rfl, hm5⟩
            have C3 := conv_bat (bytes_own (own_mod (own_mod HO3.out hm4 (fun _ _ _ _ => id)) hm5 (fun _ _ _ _ => id)) HBY.out)
            have C4 := conv_bat (bytes_own (own_mod HO4.out hm5 (fun _ _ _ _ => id)) HBY.out)
            clear X3
            go_wp2_with fail
            go_ret
            exact ⟨by simp, hM4.trans hm5⟩
end Go.Proofs.YtcfgmjlkbjleaaaDoor
