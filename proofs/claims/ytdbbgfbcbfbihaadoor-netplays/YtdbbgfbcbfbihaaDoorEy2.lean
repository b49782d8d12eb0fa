/- The document's reader (package chainmailref): a command. -/
import Derived.Test.YtdbbgfbcbfbihaaDoorEy
namespace Go.Proofs.YtdbbgfbcbfbihaaDoor
open Go.RowKit

def epair (s : List Int × Bool) : PairD × List Int × Bool :=
  let k := etext s
  let g := enum k.2
  if g.1 = 1 then (⟨k.1, ByteArray.empty, true⟩, g.2) else (⟨k.1, (etext g.2).1, false⟩, (etext g.2).2)
def epairs : Nat → List Int × Bool → List PairD × List Int × Bool
  | 0, s => ([], s)
  | n + 1, s => if s.2 then ([], s) else ((epair s).1 :: (epairs n (epair s).2).1, (epairs n (epair s).2).2)
theorem epairs_blind : ∀ n bs, epairs n (bs, true) = ([], bs, true)
  | 0, _ => rfl
  | _ + 1, _ => by simp [epairs]
theorem epairs_step {n : Nat} {bs : List Int} {q : List Int × Bool} {p : PairD} (h : (p, q) = epair (bs, false)) : epairs (n + 1) (bs, false) = (p :: (epairs n q).1, (epairs n q).2) := by
  simp only [epairs, ← h]; rfl
theorem enum_len (s : List Int × Bool) : (enum s).2.1.length ≤ s.1.length ∧ ((enum s).2.2 = false → (enum s).2.1.length < s.1.length) := by
  have key : ∀ (k : Nat) (l : List Int) n r, scan k l = some (n, r) → r.length < l.length := by
    intro k
    induction k with
    | zero => intro l n r h; simp [scan] at h
    | succ k ih =>
      intro l n r h
      cases l with
      | nil => simp [scan] at h
      | cons c l =>
        by_cases h1 : c < 128
        · simp only [scan, if_pos h1, Option.some.injEq, Prod.mk.injEq] at h
          obtain ⟨_, rfl⟩ := h; simp
        · simp only [scan, if_neg h1, Option.map_eq_some_iff] at h
          obtain ⟨⟨m, r'⟩, h2, h3⟩ := h
          simp only [Prod.mk.injEq] at h3
          obtain ⟨_, rfl⟩ := h3
          have := ih l m r' h2
          simp; omega
  unfold enum
  split
  · simp
  · rename_i n r h; have := key 6 s.1 n r h; exact ⟨by simp; omega, fun _ => this⟩
theorem etext_len (s : List Int × Bool) : (etext s).2.1.length ≤ s.1.length ∧ ((etext s).2.2 = false → (etext s).2.1.length < s.1.length) := by
  have h := enum_len s
  unfold etext
  split
  · exact ⟨h.1, by simp⟩
  · simp only [List.length_drop]; exact ⟨by omega, fun e => by have := h.2 e; omega⟩
theorem epair_len (bs : List Int) : (epair (bs, false)).2.1.length ≤ bs.length ∧ ((epair (bs, false)).2.2 = false → (epair (bs, false)).2.1.length < bs.length) := by
  have h1 := etext_len (bs, false)
  simp only at h1
  have mono : ∀ s, (enum s).2.2 = false → s.2 = false := by
    intro s h; unfold enum at h; split at h
    · simp at h
    · exact h
  have monot : ∀ s, (etext s).2.2 = false → s.2 = false := by
    intro s h; unfold etext at h; split at h
    · simp at h
    · exact mono s h
  have h2 := enum_len (etext (bs, false)).2
  have h3 := etext_len (enum (etext (bs, false)).2).2
  simp only [epair]
  split
  · exact ⟨by simp only; omega, fun e => by
      have := h1.2 (mono _ e); have := h2.1; simp only at *; omega⟩
  · exact ⟨by simp only; omega, fun e => by
      have := h1.2 (mono _ (monot _ e)); have := h2.1; have := h3.1; simp only at *; omega⟩
def ecmd (s : List Int × Bool) : CmdD × List Int × Bool :=
  let k := enum s
  let x := enum k.2
  let t := enum x.2
  let n := enum t.2
  let r := epairs n.1 n.2
  (⟨k.1, x.1, t.1, r.1⟩, r.2)
theorem ecmd_eq {s k x t n r : List Int × Bool} {kind tx time m : Nat} {ps : List PairD} (hk : (kind, k) = enum s) (hx : (tx, x) = enum k) (ht : (time, t) = enum x) (hn : (m, n) = enum t) (hr : epairs m n = (ps, r)) :
    ecmd s = (⟨kind, tx, time, ps⟩, r) := by
  simp only [ecmd, ← hk, ← hx, ← ht, ← hn, hr]
theorem epair_gone {s k q : List Int × Bool} {key : ByteArray} {n : Nat} (hk : (key, k) = etext s) (hg : (n, q) = enum k) (h1 : n = 1) : epair s = (⟨key, ByteArray.empty, true⟩, q) := by
  simp only [epair, ← hk, ← hg, if_pos h1]
theorem epair_there {s k q t : List Int × Bool} {key val : ByteArray} {n : Nat} (hk : (key, k) = etext s) (hg : (n, q) = enum k) (h1 : ¬ n = 1) (hv : (val, t) = etext q) : epair s = (⟨key, val, false⟩, t) := by
  simp only [epair, ← hk, ← hg, if_neg h1, ← hv]

/-- Behind an append that may have moved the row of v, and the store of the new row into cell 3 of block Bc. -/
theorem app_round {w wA w8 : World} {g R Bc k : Nat} {v v' : Value} {o : Obj} {a b c d0 d1 d2 d3 : Value} {xs : List Value} {t t' : TypeId} (hRB : R < Bc) (hwB : w.heap.size ≤ Bc)
    (hgrow : (wA.alloc o).grownBy w8 v.ownBlock) (hvb : ∀ x, v.ownBlock = some x → Bc < x)
    (hown8 : w8.ownsRow (Bc + 1) t 3 v' (k + 1) xs) (hC : Blk wA Bc [a, b, c, v] t') (hB : Blk wA R [d0, d1, d2, d3] t') (hM : Mod (oneBlock g) w wA) :
    Mod (newer Bc) wA (w8.setCell ⟨Bc, 3, none⟩ v') ∧ (w8.setCell ⟨Bc, 3, none⟩ v').ownsRow (Bc + 1) t 3 v' (k + 1) xs ∧ Blk (w8.setCell ⟨Bc, 3, none⟩ v') Bc [a, b, c, v'] t' ∧
      Blk (w8.setCell ⟨Bc, 3, none⟩ v') R [d0, d1, d2, d3] t' ∧ Mod (oneBlock g) w (w8.setCell ⟨Bc, 3, none⟩ v') := by
  have hm6 : Mod (newer (Bc + 1)) wA w8 := ((Mod.refl _ wA).alloc o).grown hgrow (fun x hx _ => hvb x hx)
  have hm7 : Mod (newer Bc) wA (w8.setCell ⟨Bc, 3, none⟩ v') := (hm6.mono (fun i _ h => by simp only [newer] at h ⊢; omega)).put _ _ (Nat.le_refl _) _
  exact ⟨hm7, ownsRow_setCell_below hown8 (by simp) _, (hC.mod hm6 (by simp only [newer]; omega)).set 3 v', hB.mod hm7 (by simp only [newer]; omega), hM.since hm7 (by omega)⟩

theorem Hid.mk' {p : Prop} (h : p) : Hid p := h
theorem news_alloc {w : World} {B : Nat} {cs : Array Value} {t : TypeId} (hB : B = w.heap.size) : ∀ j u, cs.toList[j]? = some u → (w.alloc (.cells cs t)).cell? ((⟨B, 0, none⟩ : Addr).add j) = some u := by
  subst hB; exact World.news_of_block (heap_alloc_new w _)

set_option maxRecDepth 100000 in
set_option maxHeartbeats 2000000 in
theorem ecmd_any (L g : Nat) (bs : List Int) (sp : Bool) (w : World) (h : EAt w L g bs sp) (hbl : bs.length ≤ 3000) :
    Calls Tryd.prog 76 #[.pointer (some ⟨g, 0, none⟩)] w fun e w' => ∃ v, e = .returned (.agg #[.int .i64 (ecmd (bs, sp)).1.kind, .int .i64 (ecmd (bs, sp)).1.tx, .int .i64 (ecmd (bs, sp)).1.time, v]) ∧
      w'.ownsRow w.heap.size 84 3 v (ecmd (bs, sp)).1.writes.length ((ecmd (bs, sp)).1.writes.flatMap pairCells) ∧ EAt w' L g (ecmd (bs, sp)).2.1 (ecmd (bs, sp)).2.2 ∧ Mod (oneBlock g) w w' := by
  obtain ⟨i0, hi, hz0, hz1, hz2⟩ := info_parts Tryd.info84
  obtain ⟨r, hr⟩ : ∃ r, r = ecmd (bs, sp) := ⟨_, rfl⟩
  rw [← hr]
  have HR : Hid (r = ecmd (bs, sp)) := hr
  clear hr
  obtain ⟨hLg, hgl⟩ := h.lt
  have hB0 := Blk.new w [.int .i64 0, .int .i64 0, .int .i64 0, .slice none 0 0] 24
  go_enter Tryd.func76, Tryd.ntmps76
  go_wp2_with fail
  refine (enum_any _ _ _ _ _ (h.mod ((Mod.refl noBlock w).alloc _) id (fun _ _ => id))).mono ?_
  rintro e w1 ⟨rfl, h1, hm1⟩
  have hl1 := (enum_len (bs, sp)).1
  obtain ⟨⟨kind, bs1, sp1⟩, hq1⟩ : ∃ q, q = enum (bs, sp) := ⟨_, rfl⟩
  rw [← hq1] at h1 hl1 ⊢
  have hB1 := hB0.mod hm1 (fun e => by simp only [oneBlock] at e; omega)
  have hM1 : Mod (oneBlock g) w w1 := ((Mod.refl _ w).alloc _).trans hm1
  have HQ1 : Hid ((kind, bs1, sp1) = enum (bs, sp)) := hq1
  clear hq1 hB0 hm1 h
  go_wp2_with fail
  refine (enum_any _ _ _ _ _ h1).mono ?_
  rintro e w2 ⟨rfl, h2, hm2⟩
  have hl2 := (enum_len (bs1, sp1)).1
  obtain ⟨⟨tx, bs2, sp2⟩, hq2⟩ : ∃ q, q = enum (bs1, sp1) := ⟨_, rfl⟩
  rw [← hq2] at h2 hl2 ⊢
  have hB2 := hB1.mod hm2 (fun e => by simp only [oneBlock] at e; omega)
  have hM2 := hM1.trans hm2
  have HQ2 : Hid ((tx, bs2, sp2) = enum (bs1, sp1)) := hq2
  clear hq2 hB1 hm2 h1 hM1
  go_wp2_with fail
  refine (enum_any _ _ _ _ _ h2).mono ?_
  rintro e w3 ⟨rfl, h3, hm3⟩
  have hl3 := (enum_len (bs2, sp2)).1
  obtain ⟨⟨time, bs3, sp3⟩, hq3⟩ : ∃ q, q = enum (bs2, sp2) := ⟨_, rfl⟩
  rw [← hq3] at h3 hl3 ⊢
  have hB3 := hB2.mod hm3 (fun e => by simp only [oneBlock] at e; omega)
  have hM3 := hM2.trans hm3
  have hgz : w.heap.size < w3.heap.size := hB3.lt
  have HQ3 : Hid ((time, bs3, sp3) = enum (bs2, sp2)) := hq3
  clear hq3 hB2 hm3 h2 hM2
  go_wp2_with fail
  refine (enum_any _ _ _ _ _ (h3.mod ((Mod.refl noBlock w3).alloc _) id (fun _ _ => id))).mono ?_
  rintro e w4 ⟨rfl, h4, hm4⟩
  have hl4 := (enum_len (bs3, sp3)).1
  have hle := enum_lt (bs := bs3) (bl := sp3) (by obtain ⟨_, v, _, hb, _⟩ := h3; exact hb)
  obtain ⟨⟨n, bs4, sp4⟩, hq4⟩ : ∃ q, q = enum (bs3, sp3) := ⟨_, rfl⟩
  rw [← hq4] at h4 hl4 hle ⊢
  have hC4 := (Blk.new w3 [.int .i64 kind, .int .i64 tx, .int .i64 time, .slice none 0 0] 24).mod hm4 (fun e => by simp only [oneBlock] at e; omega)
  have hB4 := (hB3.mod ((Mod.refl noBlock w3).alloc (.cells #[.int .i64 kind, .int .i64 tx, .int .i64 time, .slice none 0 0] 24)) id).mod hm4 (fun e => by simp only [oneBlock] at e; omega)
  have hM4 : Mod (oneBlock g) w w4 := (hM3.alloc _).trans hm4
  have HQ4 : Hid ((n, bs4, sp4) = enum (bs3, sp3)) := hq4
  clear hq4 hB3 hm4 h3 hM3
  simp only at hle hl1 hl2 hl3 hl4
  have hl0 : bs4.length ≤ 3000 := by omega
  clear hl1 hl2 hl3 hl4 hbl
  generalize hBc : w3.heap.size = Bc at *
  go_wp2_with fail
  go_loopw [4] (fun i wr => ∃ (k : Nat) (v : Value) (ps : List PairD) (bs5 : List Int) (sp5 : Bool), k ≤ n ∧ i = .int .i64 k ∧ epairs n (bs4, sp4) = (ps ++ (epairs k (bs5, sp5)).1, (epairs k (bs5, sp5)).2) ∧ ps.length + bs5.length ≤ bs4.length + sp5.toNat ∧
      EAt wr L g bs5 sp5 ∧ wr.ownsRow (Bc + 1) 84 3 v ps.length (ps.flatMap pairCells) ∧
      Blk wr Bc [.int .i64 kind, .int .i64 tx, .int .i64 time, v] 24 ∧ Blk wr w.heap.size [.int .i64 0, .int .i64 0, .int .i64 0, .slice none 0 0] 24 ∧ Mod (oneBlock g) w wr)
    (fun i _ => (intOf i).toNat)
  case atStart => exact ⟨n, _, [], bs4, sp4, Nat.le_refl _, rfl, rfl, by simp, h4, World.ownsRow_nil _ _ _ _, hC4, hB4, hM4⟩
  case round =>
    obtain ⟨k, v, ps, bs5, sp5, hk, rfl, hep, hcnt, hR, hown, hC, hB, hM⟩ := hrel
    have HEP : Hid (epairs n (bs4, sp4) = (ps ++ (epairs k (bs5, sp5)).1, (epairs k (bs5, sp5)).2)) := hep
    clear hep h4 hC4 hB4 hM4
    obtain ⟨hLg5, hgl5⟩ := hR.lt
    have hBcl := hC.lt
    have hBBc : w.heap.size < Bc := by omega
    have hb1 := (show Blk wr g [_, .bool sp5] 145 from hR.2.choose_spec.1).cell 1 rfl
    by_cases hgo : 0 < k ∧ sp5 = false
    · obtain ⟨hk0, rfl⟩ := hgo
      obtain ⟨k, rfl⟩ : ∃ j, k = j + 1 := ⟨k - 1, by omega⟩
      have HV : Hid (∀ x, v.ownBlock = some x → Bc < x ∧ x < wr.heap.size) := fun x hx => hown.lt x hx
      have HOW : Hid (wr.ownsRow (Bc + 1) 84 3 v ps.length (ps.flatMap pairCells)) := hown
      obtain ⟨va, vc, rfl⟩ := own_slice hown
      clear hown
      go_wp2_with fail
      clear hb1
      refine (etext_any _ _ _ _ _ hR).mono ?_
      rintro e w5 ⟨rfl, h5, hm5⟩
      have hpl := epair_len bs5
      obtain ⟨⟨key, bs6, sp6⟩, hq6⟩ : ∃ q, q = etext (bs5, false) := ⟨_, rfl⟩
      rw [← hq6] at h5 ⊢
      have HQ6 : Hid ((key, bs6, sp6) = etext (bs5, false)) := hq6
      have z5 : wr.heap.size ≤ w5.heap.size := hm5.size
      have hC5 := (hC.mod hm5 (fun e => by simp only [oneBlock] at e; omega)).mod ((Mod.refl noBlock w5).alloc (.cells #[.string key, .string ⟨#[]⟩, .bool false] 84)) id
      have hB5 := (hB.mod hm5 (fun e => by simp only [oneBlock] at e; omega)).mod ((Mod.refl noBlock w5).alloc (.cells #[.string key, .string ⟨#[]⟩, .bool false] 84)) id
      have HO5 : Hid ((w5.alloc (.cells #[.string key, .string ⟨#[]⟩, .bool false] 84)).ownsRow (Bc + 1) 84 3 (.slice va ps.length vc) ps.length (ps.flatMap pairCells)) := (own_mod HOW.out hm5 (fun x hx _ _ e => by simp only [oneBlock] at e; omega)).alloc _
      have hP5 := Blk.new w5 [.string key, .string ⟨#[]⟩, .bool false] 84
      have hM5 := (hM.trans hm5).alloc (.cells #[.string key, .string ⟨#[]⟩, .bool false] 84)
      have hR5 := h5.mod ((Mod.refl noBlock w5).alloc (.cells #[.string key, .string ⟨#[]⟩, .bool false] 84)) id (fun _ _ => id)
      clear hq6 hm5 HOW hC hB hM h5 hR
      go_wp2_with fail
      refine (enum_any _ _ _ _ _ hR5).mono ?_
      rintro e w6 ⟨rfl, h6, hm6⟩
      obtain ⟨⟨m, bs7, sp7⟩, hq7⟩ : ∃ q, q = enum (bs6, sp6) := ⟨_, rfl⟩
      rw [← hq7] at h6 ⊢
      have HQ7 : Hid ((m, bs7, sp7) = enum (bs6, sp6)) := hq7
      have z6 : w5.heap.size < w6.heap.size := by have := hm6.size; simp at this; omega
      have hC6 := hC5.mod hm6 (fun e => by simp only [oneBlock] at e; omega)
      have hB6 := hB5.mod hm6 (fun e => by simp only [oneBlock] at e; omega)
      have HO6 : Hid (w6.ownsRow (Bc + 1) 84 3 (.slice va ps.length vc) ps.length (ps.flatMap pairCells)) := own_mod HO5.out hm6 (fun x hx _ _ e => by simp only [oneBlock] at e; omega)
      have hP6 := hP5.mod hm6 (fun e => by simp only [oneBlock] at e; omega)
      have hM6 := hM5.trans hm6
      generalize hPP : w5.heap.size = P at *
      clear hq7 hm6 HO5 hC5 hB5 hM5 hR5 hP5 hPP
      have hV6 : ∀ x, Value.ownBlock (.slice va ps.length vc) = some x → x ≠ P := fun x hx e => by have := (HV.out x hx).2; omega
      have HV6 : Hid (∀ x, Value.ownBlock (.slice va ps.length vc) = some x → x ≠ P) := hV6
      clear hV6
      obtain ⟨c0, c1, c2, f0, f1, f2⟩ := blk3 hP6
      have hk63 : ps.length + 1 ≤ maxLen := by unfold maxLen; simp at hcnt; omega
      have hk47 : (ps.length + 1) * 40 ≤ 140737488355328 := by simp at hcnt; omega
      by_cases hm1 : m = 1
      · have HG : Hid ((⟨key, ByteArray.empty, true⟩, bs7, sp7) = epair (bs5, false)) := (epair_gone HQ6.out HQ7.out hm1).symm
        rw [← HG.out] at hpl
        subst hm1
        have hmA := Mod.setBlk (w := w6) P 2 (.bool true)
        have hCA := hC6.mod hmA (fun e => by simp only [oneBlock] at e; omega)
        have hBA := hB6.mod hmA (fun e => by simp only [oneBlock] at e; omega)
        have HOA : Hid ((w6.setCell ⟨P, 2, none⟩ (.bool true)).ownsRow (Bc + 1) 84 3 (.slice va ps.length vc) ps.length (ps.flatMap pairCells)) := own_mod HO6.out hmA (fun x hx _ hxb e => HV6.out x hxb e)
        have hRA := h6.mod hmA (fun e => by simp only [oneBlock] at e; omega) (fun k hk e => by simp only [oneBlock] at e; omega)
        have hMA : Mod (oneBlock g) w (w6.setCell ⟨P, 2, none⟩ (.bool true)) := hM6.since ((Mod.refl (newer P) w6).put P 2 (Nat.le_refl _) _) (by omega)
        have d3 := hCA.cell 3 rfl
        have e3 := hCA.frozen 3
        have zA : P < (w6.setCell ⟨P, 2, none⟩ (.bool true)).heap.size := by simp [World.setCell]; omega
        clear HQ6 HQ7 HR HO6 hC6 hB6 h6 hM6 hmA
        go_wp2_with (first
          | (at_builtin; refine wpList_append_own _ rfl (.tmp 40) (.tmp 42) 22 rfl (Bc + 1) 84 i0 _ 3 40 Tryd.underlying22 hi hz0 hz1 hz2 rfl (by omega) _ _ _ rfl (HOA.out.alloc _) ⟨w6.heap.size, 0, none⟩ 1 1 [.string key, .string ⟨#[]⟩, .bool true] rfl rfl (news_alloc (by simp [World.setCell])) (pair_one _ _ _) hk63 hk47 (by simp; omega) ?_)
          | fail)
        intro v' w8 hown8 hgrow _
        obtain ⟨va', vc', rfl⟩ := own_slice hown8
        have k3 := (hgrow.cell_far ⟨Bc, 3, none⟩ (by simp [World.setCell]; omega) (fun e => by have := (HV.out Bc e.symm).1; omega)).trans ((World.cell?_alloc_past _ Bc 3 (by omega)).trans d3)
        have l3 := (hgrow.frozen_far ⟨Bc, 3, none⟩ (by simp [World.setCell]; omega) (fun e => by have := (HV.out Bc e.symm).1; omega)).trans ((World.frozen?_alloc_past _ Bc 3 (by omega)).trans e3)
        obtain ⟨R1, R2, R3, R4, R5⟩ := app_round (by omega) (by omega) hgrow (fun x hx => (HV.out x hx).1) hown8 hCA hBA hMA
        have hR8 := hRA.mod R1 (by simp only [newer]; omega) (fun k hk e => by simp only [newer] at e; omega)
        have HN : Hid (epairs n (bs4, sp4) = ((ps ++ [⟨key, ByteArray.empty, true⟩]) ++ (epairs k (bs7, sp7)).1, (epairs k (bs7, sp7)).2)) := by
          rw [Hid, HEP.out, epairs_step HG.out]; simp
        clear HEP hgrow hown8 hCA hBA hMA hRA R1 HOA
        go_wp2_with fail
        go_roundw
        case rel => exact ⟨k, _, ps ++ [⟨key, ByteArray.empty, true⟩], bs7, sp7, by omega, by go_num, HN.out, by cases sp7 <;> simp at hpl hcnt ⊢ <;> omega, hR8, by rw [List.flatMap_append, List.length_append]; exact R2, R3, R4, R5⟩
        case measure => simp [intOf]
      · have hmm : ((m : Int) == 1) = false := by simp; omega
        have hmA := Mod.setBlk (w := w6) P 2 (.bool false)
        have hCA := hC6.mod hmA (fun e => by simp only [oneBlock] at e; omega)
        have hBA := hB6.mod hmA (fun e => by simp only [oneBlock] at e; omega)
        have HO7 : Hid ((w6.setCell ⟨P, 2, none⟩ (.bool false)).ownsRow (Bc + 1) 84 3 (.slice va ps.length vc) ps.length (ps.flatMap pairCells)) := own_mod HO6.out hmA (fun x hx _ hxb e => HV6.out x hxb e)
        have hR7 := h6.mod hmA (fun e => by simp only [oneBlock] at e; omega) (fun k hk e => by simp only [oneBlock] at e; omega)
        have hM7 : Mod (oneBlock g) w (w6.setCell ⟨P, 2, none⟩ (.bool false)) := hM6.since ((Mod.refl (newer P) w6).put P 2 (Nat.le_refl _) _) (by omega)
        have hP7 := hP6.set 2 (.bool false)
        have hz7 : (w6.setCell ⟨P, 2, none⟩ (.bool false)).heap.size = w6.heap.size := by simp [World.setCell]
        clear HO6 hC6 hB6 h6 hM6 hmA
        go_wp2_with fail
        refine (etext_any _ _ _ _ _ hR7).mono ?_
        rintro e w7 ⟨rfl, h7, hm7⟩
        obtain ⟨⟨val, bs8, sp8⟩, hq8⟩ : ∃ q, q = etext (bs7, sp7) := ⟨_, rfl⟩
        rw [← hq8] at h7 ⊢
        have HG : Hid ((⟨key, val, false⟩, bs8, sp8) = epair (bs5, false)) := (epair_there HQ6.out HQ7.out hm1 hq8).symm
        rw [← HG.out] at hpl
        have z7 : w6.heap.size ≤ w7.heap.size := by have := hm7.size; omega
        have hP8 := hP7.mod hm7 (fun e => by simp only [oneBlock] at e; omega)
        have hC8 := hCA.mod hm7 (fun e => by simp only [oneBlock] at e; omega)
        have hB8 := hBA.mod hm7 (fun e => by simp only [oneBlock] at e; omega)
        have HO8 : Hid (w7.ownsRow (Bc + 1) 84 3 (.slice va ps.length vc) ps.length (ps.flatMap pairCells)) := own_mod HO7.out hm7 (fun x hx _ _ e => by simp only [oneBlock] at e; omega)
        have hM8 := hM7.trans hm7
        clear hq8 hm7 HO7 hCA hBA hR7 hM7 hP7 HQ6 HQ7 HR hP6 c0 c1 c2 f0 f1 f2 hz7
        have hmA := Mod.setBlk (w := w7) P 1 (.string val)
        have hCA := hC8.mod hmA (fun e => by simp only [oneBlock] at e; omega)
        have hBA := hB8.mod hmA (fun e => by simp only [oneBlock] at e; omega)
        have HOA : Hid ((w7.setCell ⟨P, 1, none⟩ (.string val)).ownsRow (Bc + 1) 84 3 (.slice va ps.length vc) ps.length (ps.flatMap pairCells)) := own_mod HO8.out hmA (fun x hx _ hxb e => HV6.out x hxb e)
        have hRA := h7.mod hmA (fun e => by simp only [oneBlock] at e; omega) (fun k hk e => by simp only [oneBlock] at e; omega)
        have hMA : Mod (oneBlock g) w (w7.setCell ⟨P, 1, none⟩ (.string val)) := hM8.since ((Mod.refl (newer P) w7).put P 1 (Nat.le_refl _) _) (by omega)
        have d3 := hCA.cell 3 rfl
        have e3 := hCA.frozen 3
        have zA : P < (w7.setCell ⟨P, 1, none⟩ (.string val)).heap.size := by simp [World.setCell]; omega
        clear HO8 hC8 hB8 h7 hM8 hmA
        obtain ⟨c0, c1, c2, f0, f1, f2⟩ := blk3 hP8
        go_wp2_with (first
          | (at_builtin; refine wpList_append_own _ rfl (.tmp 40) (.tmp 42) 22 rfl (Bc + 1) 84 i0 _ 3 40 Tryd.underlying22 hi hz0 hz1 hz2 rfl (by omega) _ _ _ rfl (HOA.out.alloc _) ⟨w7.heap.size, 0, none⟩ 1 1 [.string key, .string val, .bool false] rfl rfl (news_alloc (by simp [World.setCell])) (pair_one _ _ _) hk63 hk47 (by simp; omega) ?_)
          | fail)
        intro v' w8 hown8 hgrow _
        obtain ⟨va', vc', rfl⟩ := own_slice hown8
        have k3 := (hgrow.cell_far ⟨Bc, 3, none⟩ (by simp [World.setCell]; omega) (fun e => by have := (HV.out Bc e.symm).1; omega)).trans ((World.cell?_alloc_past _ Bc 3 (by omega)).trans d3)
        have l3 := (hgrow.frozen_far ⟨Bc, 3, none⟩ (by simp [World.setCell]; omega) (fun e => by have := (HV.out Bc e.symm).1; omega)).trans ((World.frozen?_alloc_past _ Bc 3 (by omega)).trans e3)
        obtain ⟨R1, R2, R3, R4, R5⟩ := app_round (by omega) (by omega) hgrow (fun x hx => (HV.out x hx).1) hown8 hCA hBA hMA
        have hR8 := hRA.mod R1 (by simp only [newer]; omega) (fun k hk e => by simp only [newer] at e; omega)
        have HN : Hid (epairs n (bs4, sp4) = ((ps ++ [⟨key, val, false⟩]) ++ (epairs k (bs8, sp8)).1, (epairs k (bs8, sp8)).2)) := by
          rw [Hid, HEP.out, epairs_step HG.out]; simp
        clear HEP hgrow hown8 hCA hBA hMA hRA R1 HOA
        go_wp2_with fail
        go_roundw
        case rel => exact ⟨k, _, ps ++ [⟨key, val, false⟩], bs8, sp8, by omega, by go_num, HN.out, by cases sp8 <;> simp at hpl hcnt ⊢ <;> omega, hR8, by rw [List.flatMap_append, List.length_append]; exact R2, R3, R4, R5⟩
        case measure => simp [intOf]
    · have hfin : epairs k (bs5, sp5) = ([], bs5, sp5) := by
        cases k with
        | zero => rfl
        | succ k =>
          have : sp5 = true := by cases sp5 <;> simp_all
          subst this; exact epairs_blind _ _
      have HF := HR.out.trans (ecmd_eq HQ1.out HQ2.out HQ3.out HQ4.out (HEP.out.trans (by rw [hfin])))
      obtain ⟨va, vc, rfl⟩ := own_slice hown
      obtain ⟨c0, c1, c2, c3, f0, f1, f2, f3⟩ := blk4 hC
      obtain ⟨d0, d1, d2, d3, e0, e1, e2, e3⟩ := blk4 hB
      have HF' := HF
      simp only [List.append_nil] at HF'
      have HFH : Hid (r = (⟨kind, tx, time, ps⟩, bs5, sp5)) := HF'
      have hm7 : Mod (newer w.heap.size) wr ((((wr.setCell ⟨w.heap.size, 0, none⟩ (.int .i64 kind)).setCell ⟨w.heap.size, 1, none⟩ (.int .i64 tx)).setCell ⟨w.heap.size, 2, none⟩ (.int .i64 time)).setCell ⟨w.heap.size, 3, none⟩ (.slice va ps.length vc)) :=
        ((((Mod.refl _ wr).put _ 0 (Nat.le_refl _) _).put _ 1 (Nat.le_refl _) _).put _ 2 (Nat.le_refl _) _).put _ 3 (Nat.le_refl _) _
      clear HF HF' hfin HEP HR
      have hnot : k = 0 ∨ sp5 = true := by
        cases sp5
        · left; rcases Nat.eq_zero_or_pos k with h | h
          · exact h
          · exact absurd ⟨h, rfl⟩ hgo
        · exact .inr rfl
      have hend : ∀ (W : World), W = ((((wr.setCell ⟨w.heap.size, 0, none⟩ (.int .i64 kind)).setCell ⟨w.heap.size, 1, none⟩ (.int .i64 tx)).setCell ⟨w.heap.size, 2, none⟩ (.int .i64 time)).setCell ⟨w.heap.size, 3, none⟩ (.slice va ps.length vc)) →
          (∃ v, Ending.returned (.agg #[.int .i64 kind, .int .i64 tx, .int .i64 time, .slice va ps.length vc]) = .returned (.agg #[.int .i64 r.1.kind, .int .i64 r.1.tx, .int .i64 r.1.time, v]) ∧ W.ownsRow w.heap.size 84 3 v r.1.writes.length (r.1.writes.flatMap pairCells) ∧ EAt W L g r.2.1 r.2.2 ∧ Mod (oneBlock g) w W) := by
        rintro W rfl
        refine ⟨.slice va ps.length vc, ?_, ?_, ?_, ?_⟩
        · rw [HFH.out]
        · rw [HFH.out]
          exact own_base (ownsRow_setCell_below (ownsRow_setCell_below (ownsRow_setCell_below (ownsRow_setCell_below hown (by simp; omega) _) (by simp; omega) _) (by simp; omega) _) (by simp; omega) _) (by omega)
        · rw [HFH.out]; exact hR.mod hm7 (by simp only [newer]; omega) (fun k hk e => by simp only [newer] at e; omega)
        · exact hM.since hm7 (Nat.le_refl _)
      have HE := Hid.mk' hend
      clear hend hm7
      rcases hnot with rfl | rfl
      all_goals go_wp2_with fail
      all_goals exact bodyPost_ret (res_cell Tryd.results76 _ ⟨w.heap.size, 0, none⟩ rfl (load_cmd ((((hB.set 0 (.int .i64 kind)).set 1 (.int .i64 tx)).set 2 (.int .i64 time)).set 3 (.slice va ps.length vc)))) rfl (HE.out _ rfl)
end Go.Proofs.YtdbbgfbcbfbihaaDoor
