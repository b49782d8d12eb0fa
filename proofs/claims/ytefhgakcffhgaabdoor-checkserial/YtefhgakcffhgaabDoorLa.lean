/- What the document asks of an order, and what can be gone. Pure. -/
import Derived.Test.YtefhgakcffhgaabDoorKm
import Derived.Test.YtefhgakcffhgaabDoorKj
namespace Go.Proofs.YtefhgakcffhgaabDoor
open Go.RowKit Go.Lib Go.Maps

/-- The operations of all, one behind the other; none: what one told is not so. -/
def runR (ts : List TxD) : Sta → List Nat → Option Sta
  | s, [] => some s
  | s, n :: rest => match ts[n]? with
    | none => none
    | some t => match doOps s t.ops with
      | none => none
      | some r => runR ts r.1 rest
theorem runR_cons {ts : List TxD} {s s2 : Sta} {n : Nat} {rest : List Nat} : runR ts s (n :: rest) = some s2 ↔ ∃ t r, ts[n]? = some t ∧ doOps s t.ops = some r ∧ runR ts r.1 rest = some s2 := by
  rw [runR]
  constructor
  · intro h
    cases ht : ts[n]? with
    | none => rw [ht] at h; cases h
    | some t =>
      rw [ht] at h
      simp only at h
      cases hd : doOps s t.ops with
      | none => rw [hd] at h; cases h
      | some r => rw [hd] at h; exact ⟨t, r, rfl, hd, h⟩
  · rintro ⟨t, r, h1, h2, h3⟩
    rw [h1]
    simp only
    rw [h2]
    exact h3
theorem runR_app (ts : List TxD) : ∀ (l r : List Nat) (s : Sta), runR ts s (l ++ r) = (runR ts s l).bind fun s1 => runR ts s1 r
  | [], r, s => rfl
  | n :: l, r, s => by
    rw [List.cons_append, runR, runR]
    cases ts[n]? with
    | none => rfl
    | some t =>
      simp only
      cases doOps s t.ops with
      | none => rfl
      | some x => exact runR_app ts l r x.1
theorem goodR_iff (ts : List TxD) : ∀ (rest d : List Nat) (s s2 : Sta), goodR ts d s rest = some s2 ↔ (∀ (p : Nat) n, rest[p]? = some n → NextOK ts (d ++ rest.take p) n) ∧ runR ts s rest = some s2
  | [], d, s, s2 => by simp [goodR, runR]
  | m :: rest, d, s, s2 => by
    constructor
    · intro h
      obtain ⟨h1, t, r, h2, h3, h4⟩ := goodR_cons h
      obtain ⟨k1, k2⟩ := (goodR_iff ts rest (d ++ [m]) r.1 s2).1 h4
      refine ⟨fun p n hp => ?_, runR_cons.2 ⟨t, r, h2, h3, k2⟩⟩
      cases p with
      | zero => simp at hp; subst hp; simpa using h1
      | succ p => have := k1 p n (by simpa using hp); simpa using this
    · rintro ⟨h1, h2⟩
      obtain ⟨t, r, k1, k2, k3⟩ := runR_cons.1 h2
      rw [goodR_mk (by have := h1 0 m rfl; simpa using this) k1 k2]
      refine (goodR_iff ts rest (d ++ [m]) r.1 s2).2 ⟨fun p n hp => ?_, k3⟩
      have := h1 (p + 1) n (by simpa using hp)
      simpa using this
/-- Nobody stands ahead of one that was done ahead of its beginning. -/
def AheadOK (ts : List TxD) (o : List Nat) : Prop := ∀ (i k : Nat) t u, ts[i]? = some t → ts[k]? = some u → 0 ≤ t.til → t.til < u.frm → plc o k 0 ≠ 0 → ¬ plc o k 0 < plc o i 0
theorem plc_nodup {o : List Nat} (h : o.Nodup) {p n : Nat} (hp : o[p]? = some n) : plc o n 0 = p + 1 := by
  obtain ⟨q, e1, e2⟩ := plc_at o n 0 ((plc_in o n 0).2 (List.mem_of_getElem? hp))
  obtain ⟨p1, p2⟩ := List.getElem?_eq_some_iff.1 hp
  obtain ⟨q1, q2⟩ := List.getElem?_eq_some_iff.1 e2
  have : q = p := by
    rcases Nat.lt_trichotomy q p with h1 | h1 | h1
    · exact absurd (q2.trans p2.symm) ((List.pairwise_iff_getElem.1 h) q p q1 p1 h1)
    · exact h1
    · exact absurd (p2.trans q2.symm) ((List.pairwise_iff_getElem.1 h) p q p1 q1 h1)
  omega
/-- Orders whose places are right. -/
theorem next_of {ts : List TxD} {o : List Nat} (hnd : o.Nodup) (ha : AheadOK ts o) {p n : Nat} (hp : o[p]? = some n) (hin : ∀ (m : Nat) t u, ts[m]? = some t → ts[n]? = some u → aheadT t u → m ∈ o) : NextOK ts (o.take p) n := by
  obtain ⟨p1, p2⟩ := List.getElem?_eq_some_iff.1 hp
  refine ⟨fun hm => ?_, fun m t u ht hu hne hah => ?_⟩
  · obtain ⟨j, hj, e⟩ := List.getElem_of_mem hm
    rw [List.getElem_take] at e
    have hj' : j < p := by simp at hj; omega
    exact (List.pairwise_iff_getElem.1 hnd) j p (by omega) p1 hj' (by rw [e, p2])
  · obtain ⟨q, q1, q2⟩ := List.getElem_of_mem (hin m t u ht hu hah)
    have hq : o[q]? = some m := by rw [List.getElem?_eq_getElem q1, q2]
    have h1 := ha m n t u ht hu hah.1 hah.2 (by rw [plc_nodup hnd hp]; omega)
    rw [plc_nodup hnd hp, plc_nodup hnd hq] at h1
    have hqp : q ≠ p := fun e => by subst e; rw [hq] at hp; simp at hp; exact hne hp
    refine List.mem_iff_getElem.2 ⟨q, by simp; omega, ?_⟩
    rw [List.getElem_take]
    exact q2
theorem fits_iff {ts : List TxD} {o : List Nat} (hnd : o.Nodup) : ((∃ s2, goodR ts [] bareS o = some s2) ∧ Whole ts o) ↔ (Whole ts o ∧ AheadOK ts o ∧ ∃ s2, runR ts bareS o = some s2) := by
  constructor
  · rintro ⟨⟨s2, hg⟩, hw⟩
    exact ⟨hw, fun i k t u ht hu h1 h2 h3 => never hg ht hu h1 h2 h3, s2, ((goodR_iff ts o [] bareS s2).1 hg).2⟩
  · rintro ⟨hw, ha, s2, hr⟩
    refine ⟨⟨s2, (goodR_iff ts o [] bareS s2).2 ⟨fun p n hp => ?_, hr⟩⟩, hw⟩
    rw [List.nil_append]
    exact next_of hnd ha hp (fun m t u ht _ hah => hw m t ht hah.1)
/-- Those of the first j that do not stand in the order count as never done. -/
def cutT (ts : List TxD) (o : List Nat) (j : Nat) : List TxD := ts.mapIdx fun i t => if i < j ∧ i ∉ o ∧ 0 ≤ t.til then ⟨t.ops, t.frm, -1⟩ else t
theorem cutT_len (ts : List TxD) (o : List Nat) (j : Nat) : (cutT ts o j).length = ts.length := by simp [cutT]
theorem cutT_at {ts : List TxD} {o : List Nat} {j i : Nat} {t : TxD} (h : ts[i]? = some t) : (cutT ts o j)[i]? = some (if i < j ∧ i ∉ o ∧ 0 ≤ t.til then ⟨t.ops, t.frm, -1⟩ else t) := by
  simp [cutT, List.getElem?_mapIdx, h]
theorem cutT_inv {ts : List TxD} {o : List Nat} {j i : Nat} {t' : TxD} (h : (cutT ts o j)[i]? = some t') : ∃ t, ts[i]? = some t ∧ t' = if i < j ∧ i ∉ o ∧ 0 ≤ t.til then ⟨t.ops, t.frm, -1⟩ else t := by
  have hi : i < ts.length := by rw [← cutT_len ts o j]; exact (List.getElem?_eq_some_iff.1 h).1
  refine ⟨ts[i], List.getElem?_eq_getElem hi, ?_⟩
  rw [cutT_at (List.getElem?_eq_getElem hi)] at h
  simpa using h.symm
theorem cutT_zero (ts : List TxD) (o : List Nat) : cutT ts o 0 = ts := by
  apply List.ext_getElem?
  intro i
  cases h : ts[i]? with
  | none =>
    have : ts.length ≤ i := by simpa using h
    rw [List.getElem?_eq_none (by rw [cutT_len]; exact this)]
  | some t => rw [cutT_at h, if_neg (by omega)]
theorem runR_ops {ts ts' : List TxD} (h : ∀ (i : Nat), (ts'[i]?).map TxD.ops = (ts[i]?).map TxD.ops) : ∀ (o : List Nat) (s : Sta), runR ts' s o = runR ts s o
  | [], s => rfl
  | n :: o, s => by
    have hn := h n
    rw [runR, runR]
    cases h1 : ts[n]? with
    | none =>
      rw [h1] at hn
      cases h2 : ts'[n]? with
      | none => rfl
      | some t' => rw [h2] at hn; cases hn
    | some t =>
      rw [h1] at hn
      cases h2 : ts'[n]? with
      | none => rw [h2] at hn; cases hn
      | some t' =>
        rw [h2] at hn
        simp only [Option.map_some, Option.some.injEq] at hn
        simp only
        rw [hn]
        cases doOps s t.ops with
        | none => rfl
        | some r => exact runR_ops h o r.1
theorem cutT_ops (ts : List TxD) (o : List Nat) (j i : Nat) : ((cutT ts o j)[i]?).map TxD.ops = (ts[i]?).map TxD.ops := by
  cases h : ts[i]? with
  | none =>
    have : ts.length ≤ i := by simpa using h
    rw [List.getElem?_eq_none (by rw [cutT_len]; exact this)]
  | some t =>
    rw [cutT_at h]
    split <;> rfl
/-- None of the first j that do not stand in the order was done ahead of one that does. -/
def OutOK (ts : List TxD) (o : List Nat) (j : Nat) : Prop := ∀ (i : Nat) t, i < j → ts[i]? = some t → i ∉ o → 0 ≤ t.til → ∀ k ∈ o, ∀ u, ts[k]? = some u → ¬ t.til < u.frm
theorem starts_iff {ts : List TxD} {o : List Nat} (hnd : o.Nodup) : (OutOK ts o ts.length ∧ (∃ s2, goodR (cutT ts o ts.length) [] bareS o = some s2) ∧ Whole (cutT ts o ts.length) o) ↔ ∃ s2, goodR ts [] bareS o = some s2 := by
  have hlt : ∀ {i : Nat} {t : TxD}, ts[i]? = some t → i < ts.length := fun h => (List.getElem?_eq_some_iff.1 h).1
  have hrun : ∀ s, runR (cutT ts o ts.length) s o = runR ts s o := runR_ops (cutT_ops ts o ts.length) o
  have hwh : Whole (cutT ts o ts.length) o := fun i t' ht' h0 => by
    obtain ⟨t, ht, rfl⟩ := cutT_inv ht'
    by_cases hio : i ∈ o
    · exact hio
    · by_cases h1 : 0 ≤ t.til
      · rw [if_pos ⟨hlt ht, hio, h1⟩] at h0; simp at h0
      · rw [if_neg (fun h => h1 h.2.2)] at h0; exact absurd h0 h1
  constructor
  · rintro ⟨hout, hgood, hw⟩
    obtain ⟨_, ha, s2, hr⟩ := (fits_iff hnd).1 ⟨hgood, hw⟩
    have ha' : AheadOK ts o := fun i k t u ht hu h1 h2 h3 => by
      by_cases hio : i ∈ o
      · have e1 : (cutT ts o ts.length)[i]? = some t := by rw [cutT_at ht, if_neg (fun h => h.2.1 hio)]
        obtain ⟨u', e2, e3⟩ : ∃ u', (cutT ts o ts.length)[k]? = some u' ∧ u'.frm = u.frm := ⟨_, cutT_at hu, by split <;> rfl⟩
        exact ha i k t u' e1 e2 h1 (by rw [e3]; exact h2) h3
      · exact absurd h2 (hout i t (hlt ht) ht hio h1 k ((plc_in o k 0).1 h3) u hu)
    refine ⟨s2, (goodR_iff ts o [] bareS s2).2 ⟨fun p n hp => ?_, by rw [← hrun]; exact hr⟩⟩
    rw [List.nil_append]
    refine next_of hnd ha' hp (fun m t u ht hu hah => ?_)
    by_cases hmo : m ∈ o
    · exact hmo
    · exact absurd hah.2 (hout m t (hlt ht) ht hmo hah.1 n (List.mem_of_getElem? hp) u hu)
  · rintro ⟨s2, hg⟩
    obtain ⟨h1, h2⟩ := (goodR_iff ts o [] bareS s2).1 hg
    have hout : OutOK ts o ts.length := fun i t _ ht hio h0 k hk u hu hlt' => by
      obtain ⟨p, hp, e⟩ := List.getElem_of_mem hk
      have hn := h1 p k (by rw [List.getElem?_eq_getElem hp, e])
      have := hn.2 i t u ht hu (fun q => hio (q ▸ hk)) ⟨h0, hlt'⟩
      rw [List.nil_append] at this
      exact hio (List.mem_of_mem_take this)
    refine ⟨hout, ((fits_iff hnd).2 ⟨hwh, fun i k t' u' ht' hu' q1 q2 q3 => ?_, s2, by rw [hrun]; exact h2⟩).1, hwh⟩
    obtain ⟨t, ht, rfl⟩ := cutT_inv ht'
    obtain ⟨u, hu, rfl⟩ := cutT_inv hu'
    have hio : i ∈ o := hwh i _ ht' q1
    rw [if_neg (fun h => h.2.1 hio)] at q1 q2
    have e3 : (if k < ts.length ∧ k ∉ o ∧ 0 ≤ u.til then (⟨u.ops, u.frm, -1⟩ : TxD) else u).frm = u.frm := by split <;> rfl
    rw [e3] at q2
    exact never hg ht hu q1 q2 q3
end Go.Proofs.YtefhgakcffhgaabDoor
