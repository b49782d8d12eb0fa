/- What the program's reader tells is what the document's tells: plain mathematics, the end. -/
import Derived.Test.YtcfgmjlkbjleaaaDoorEq2
namespace Go.Proofs.YtcfgmjlkbjleaaaDoor
open Go.RowKit Go.Lib

theorem Byt.left {a b : List Int} (h : Byt (a ++ b)) : Byt a := fun x hx => h x (by simp [hx])
theorem Byt.right {a b : List Int} (h : Byt (a ++ b)) : Byt b := fun x hx => h x (by simp [hx])
/- What was read without being spoilt was written so. -/
theorem pnum_back (lo hi : Nat) (s : List Int × Bool) (h : (pnum lo hi s).2.2 = false) : s.2 = false ∧ s.1 = enc (pnum lo hi s).1 ++ (pnum lo hi s).2.1 ∧ lo ≤ (pnum lo hi s).1 ∧ (pnum lo hi s).1 ≤ hi := by
  unfold pnum at h ⊢
  cases hs : scan 6 s.1 with
  | none => rw [hs] at h; simp at h
  | some q =>
    obtain ⟨n, r⟩ := q
    rw [hs] at h
    simp only at h ⊢
    by_cases hc : s.1 = enc n ++ r ∧ lo ≤ n ∧ n ≤ hi
    · rw [if_pos hc] at h ⊢; exact ⟨h, hc.1, hc.2.1, hc.2.2⟩
    · rw [if_neg hc] at h; simp at h
theorem ptext_back (most : Nat) (s : List Int × Bool) (hb : Byt s.1) (h : (ptext most s).2.2 = false) : s.2 = false ∧ s.1 = tbytes (ptext most s).1 ++ (ptext most s).2.1 ∧ (ptext most s).1.size ≤ most := by
  by_cases hl : (pnum 0 most s).2.1.length < (pnum 0 most s).1
  · have e : ptext most s = (ByteArray.empty, [], true) := by unfold ptext; rw [if_pos hl]
    rw [e] at h; simp at h
  · have e : ptext most s = (strOfNums ((pnum 0 most s).2.1.take (pnum 0 most s).1), (pnum 0 most s).2.1.drop (pnum 0 most s).1, (pnum 0 most s).2.2) := by unfold ptext; rw [if_neg hl]
    rw [e] at h ⊢
    simp only at h ⊢
    obtain ⟨h1, h2, h3, h4⟩ := pnum_back 0 most s h
    have hb2 : Byt (pnum 0 most s).2.1 := by rw [h2] at hb; exact hb.right
    have hsz : (strOfNums ((pnum 0 most s).2.1.take (pnum 0 most s).1)).size = (pnum 0 most s).1 := by rw [str_size, List.length_take]; omega
    refine ⟨h1, ?_, by omega⟩
    rw [tbytes, hsz, sbytes_str _ (fun x hx => hb2 x (List.mem_of_mem_take hx)), List.append_assoc, List.take_append_drop]
    exact h2
theorem ptruth_back (s : List Int × Bool) (h : (ptruth s).2.2 = false) : s.2 = false ∧ s.1 = enc (if (ptruth s).1 then 1 else 0) ++ (ptruth s).2.1 := by
  unfold ptruth at h ⊢
  simp only at h ⊢
  obtain ⟨h1, h2, h3, h4⟩ := pnum_back 0 1 s h
  refine ⟨h1, ?_⟩
  by_cases hn : (pnum 0 1 s).1 = 1
  · rw [hn] at h2 ⊢; simpa using h2
  · have h0 : (pnum 0 1 s).1 = 0 := by omega
    rw [h0] at h2 ⊢; simpa using h2
theorem ppair_back (s : List Int × Bool) (hb : Byt s.1) (h : (ppair s).2.2 = false) : s.2 = false ∧ s.1 = pbytes (ppair s).1 ++ (ppair s).2.1 ∧ okPair (ppair s).1 := by
  obtain ⟨⟨key, k⟩, hk⟩ : ∃ q, q = ptext 20 s := ⟨_, rfl⟩
  obtain ⟨⟨gone, g⟩, hg⟩ : ∃ q, q = ptruth k := ⟨_, rfl⟩
  cases gone with
  | true =>
    rw [ppair_gone hk hg] at h ⊢
    simp only at h ⊢
    have b2 := ptruth_back k (by rw [← hg]; exact h)
    have b1 := ptext_back 20 s hb (by rw [← hk]; exact b2.1)
    rw [← hg] at b2
    rw [← hk] at b1
    simp only at b1 b2
    refine ⟨b1.1, ?_, b1.2.2, fun x => by simp at x⟩
    rw [b1.2.1, b2.2]; simp [pbytes]
  | false =>
    obtain ⟨⟨val, t⟩, hv⟩ : ∃ q, q = ptext 40 g := ⟨_, rfl⟩
    rw [ppair_there hk hg hv] at h ⊢
    simp only at h ⊢
    have hbk : (ptext 40 g).2.2 = false := by rw [← hv]; exact h
    have hg2 : g.2 = false := by
      by_cases hl : (pnum 0 40 g).2.1.length < (pnum 0 40 g).1
      · have e : ptext 40 g = (ByteArray.empty, [], true) := by unfold ptext; rw [if_pos hl]
        rw [e] at hbk; simp at hbk
      · have e : ptext 40 g = (strOfNums ((pnum 0 40 g).2.1.take (pnum 0 40 g).1), (pnum 0 40 g).2.1.drop (pnum 0 40 g).1, (pnum 0 40 g).2.2) := by unfold ptext; rw [if_neg hl]
        rw [e] at hbk; exact (pnum_back 0 40 g hbk).1
    have b2 := ptruth_back k (by rw [← hg]; exact hg2)
    have b1 := ptext_back 20 s hb (by rw [← hk]; exact b2.1)
    rw [← hg] at b2
    rw [← hk] at b1
    simp only at b1 b2
    have hgb : Byt g.1 := by
      have := b1.2.1; rw [this, b2.2] at hb; exact hb.right.right
    have b3 := ptext_back 40 g hgb hbk
    rw [← hv] at b3
    simp only at b3
    refine ⟨b1.1, ?_, b1.2.2, fun _ => b3.2.2⟩
    rw [b1.2.1, b2.2, b3.2.1]; simp [pbytes]
theorem ppairs_back : ∀ (n : Nat) (s : List Int × Bool), Byt s.1 → (ppairs n s).2.2 = false → s.2 = false ∧ s.1 = psbytes (ppairs n s).1 ++ (ppairs n s).2.1 ∧ ∀ p ∈ (ppairs n s).1, okPair p
  | 0, s, _, h => ⟨h, by simp [ppairs, psbytes], by simp [ppairs]⟩
  | n + 1, s, hb, h => by
    simp only [ppairs] at h ⊢
    by_cases hsp : (ppair s).2.2 = false
    · have b1 := ppair_back s hb hsp
      have hb2 : Byt (ppair s).2.1 := by rw [b1.2.1] at hb; exact hb.right
      have b2 := ppairs_back n (ppair s).2 hb2 h
      refine ⟨b1.1, ?_, fun q hq => ?_⟩
      · rw [b1.2.1, b2.2.1]; simp [psbytes]
      · rcases List.mem_cons.1 hq with rfl | hq
        · exact b1.2.2
        · exact b2.2.2 q hq
    · exfalso
      -- a spoilt reader stays spoilt
      have st : ∀ (m : Nat) (q : List Int × Bool), q.2 = true → (ppairs m q).2.2 = true := by
        intro m
        induction m with
        | zero => intro q hq; exact hq
        | succ m ih =>
          intro q hq
          simp only [ppairs]
          apply ih
          cases hx : (ppair q).2.2 with
          | true => rfl
          | false =>
            have pn : ∀ lo hi x, x.2 = true → (pnum lo hi x).2.2 = true := by
              intro lo hi x hx2
              cases hy : (pnum lo hi x).2.2 with
              | true => rfl
              | false => have := (pnum_back lo hi x hy).1; rw [hx2] at this; simp at this
            have pt : ∀ mo x, x.2 = true → (ptext mo x).2.2 = true := by
              intro mo x hx2
              unfold ptext; split
              · rfl
              · exact pn 0 mo x hx2
            have h1 := pt 20 q hq
            have h2 : (ptruth (ptext 20 q).2).2.2 = true := pn 0 1 _ h1
            have h3 := pt 40 (ptruth (ptext 20 q).2).2 h2
            unfold ppair at hx
            simp only at hx
            split at hx
            · rw [h2] at hx; exact hx.symm
            · rw [h3] at hx; exact hx.symm
      have := st n (ppair s).2 (by simpa using hsp)
      rw [this] at h; simp at h
theorem pcmd_back (s : List Int × Bool) (hb : Byt s.1) (h : (pcmd s).2.2 = false) : s.2 = false ∧ s.1 = cbytes (pcmd s).1 ++ (pcmd s).2.1 ∧ okCmd (pcmd s).1 := by
  obtain ⟨⟨kind, k⟩, hk⟩ : ∃ q, q = pnum 1 4 s := ⟨_, rfl⟩
  obtain ⟨⟨tx, x⟩, hx⟩ : ∃ q, q = pnum 0 1099511627776 k := ⟨_, rfl⟩
  obtain ⟨⟨time, t⟩, ht⟩ : ∃ q, q = pnum 0 1099511627776 x := ⟨_, rfl⟩
  obtain ⟨⟨m, n⟩, hn⟩ : ∃ q, q = pnum 0 20 t := ⟨_, rfl⟩
  obtain ⟨⟨ps, r⟩, hr⟩ : ∃ q, q = ppairs m n := ⟨_, rfl⟩
  rw [pcmd_eq hk hx ht hn hr] at h ⊢
  simp only at h ⊢
  have hlen := ppairs_len m n
  rw [← hr] at hlen
  simp only at hlen
  have hnb : n.2 = false → s.2 = false ∧ s.1 = enc kind ++ (enc tx ++ (enc time ++ (enc m ++ n.1))) ∧ 1 ≤ kind ∧ kind ≤ 4 ∧ tx ≤ 1099511627776 ∧ time ≤ 1099511627776 ∧ m ≤ 20 := by
    intro h4
    have c4 := pnum_back 0 20 t (by rw [← hn]; exact h4)
    have c3 := pnum_back 0 1099511627776 x (by rw [← ht]; exact c4.1)
    have c2 := pnum_back 0 1099511627776 k (by rw [← hx]; exact c3.1)
    have c1 := pnum_back 1 4 s (by rw [← hk]; exact c2.1)
    rw [← hn] at c4; rw [← ht] at c3; rw [← hx] at c2; rw [← hk] at c1
    simp only at c1 c2 c3 c4
    exact ⟨c1.1, by rw [c1.2.1, c2.2.1, c3.2.1, c4.2.1], c1.2.2.1, c1.2.2.2, c2.2.2.2, c3.2.2.2, c4.2.2.2⟩
  -- the reader at the pairs is not spoilt
  have hn2 : n.2 = false := by
    cases hq : n.2 with
    | false => rfl
    | true =>
      exfalso
      have st : ∀ (l : Nat) (q : List Int × Bool), q.2 = true → (ppairs l q).2.2 = true := by
        intro l
        induction l with
        | zero => intro q hq; exact hq
        | succ l ih =>
          intro q hq
          simp only [ppairs]
          apply ih
          have pn : ∀ lo hi x, x.2 = true → (pnum lo hi x).2.2 = true := by
            intro lo hi x hx2
            cases hy : (pnum lo hi x).2.2 with
            | true => rfl
            | false => have := (pnum_back lo hi x hy).1; rw [hx2] at this; simp at this
          have pt : ∀ mo x, x.2 = true → (ptext mo x).2.2 = true := by
            intro mo x hx2
            unfold ptext; split
            · rfl
            · exact pn 0 mo x hx2
          have h1 := pt 20 q hq
          have h2 : (ptruth (ptext 20 q).2).2.2 = true := pn 0 1 _ h1
          have h3 := pt 40 (ptruth (ptext 20 q).2).2 h2
          unfold ppair
          simp only
          split
          · exact h2
          · exact h3
      have := st m n hq
      rw [← hr] at this
      simp only at this
      rw [this] at h; simp at h
  obtain ⟨d1, d2, d3, d4, d5, d6, d7⟩ := hnb hn2
  have hbn : Byt n.1 := by rw [d2] at hb; exact hb.right.right.right.right
  have c5 := ppairs_back m n hbn (by rw [← hr]; exact h)
  rw [← hr] at c5
  simp only at c5
  refine ⟨d1, ?_, ?_⟩
  · rw [d2, c5.2.1]; simp [cbytes, hlen]
  · exact ⟨by simp only; omega, by simp only; omega, by unfold inNum; simp only; omega, by unfold inNum; simp only; omega, by simp only; omega, c5.2.2⟩
theorem pmsg_back (s : List Int × Bool) (hb : Byt s.1) (h : (pmsg s).2.2 = false) (hr0 : (pmsg s).2.1 = []) : s.2 = false ∧ s.1 = mbytes (pmsg s).1 ∧ okMsg (pmsg s).1 := by
  obtain ⟨⟨kind, k⟩, hk⟩ : ∃ q, q = pnum 1 4 s := ⟨_, rfl⟩
  obtain ⟨⟨frm, f⟩, hf⟩ : ∃ q, q = pnum 0 1099511627776 k := ⟨_, rfl⟩
  obtain ⟨⟨dst, t⟩, ht⟩ : ∃ q, q = pnum 0 1099511627776 f := ⟨_, rfl⟩
  obtain ⟨⟨epoch, e⟩, he⟩ : ∃ q, q = pnum 0 1099511627776 t := ⟨_, rfl⟩
  obtain ⟨⟨N, n⟩, hn⟩ : ∃ q, q = pnum 0 1099511627776 e := ⟨_, rfl⟩
  have hnb : n.2 = false → s.2 = false ∧ s.1 = enc kind ++ (enc frm ++ (enc dst ++ (enc epoch ++ (enc N ++ n.1)))) ∧ 1 ≤ kind ∧ kind ≤ 4 ∧ frm ≤ 1099511627776 ∧ dst ≤ 1099511627776 ∧ epoch ≤ 1099511627776 ∧ N ≤ 1099511627776 := by
    intro h5
    have c5 := pnum_back 0 1099511627776 e (by rw [← hn]; exact h5)
    have c4 := pnum_back 0 1099511627776 t (by rw [← he]; exact c5.1)
    have c3 := pnum_back 0 1099511627776 f (by rw [← ht]; exact c4.1)
    have c2 := pnum_back 0 1099511627776 k (by rw [← hf]; exact c3.1)
    have c1 := pnum_back 1 4 s (by rw [← hk]; exact c2.1)
    rw [← hn] at c5; rw [← he] at c4; rw [← ht] at c3; rw [← hf] at c2; rw [← hk] at c1
    simp only at c1 c2 c3 c4 c5
    exact ⟨c1.1, by rw [c1.2.1, c2.2.1, c3.2.1, c4.2.1, c5.2.1], c1.2.2.1, c1.2.2.2, c2.2.2.2, c3.2.2.2, c4.2.2.2, c5.2.2.2⟩
  by_cases h3 : kind = 3
  · obtain ⟨⟨c, r⟩, hc⟩ : ∃ q, q = pcmd n := ⟨_, rfl⟩
    rw [pmsg_fwd hk hf ht he hn h3 hc] at h hr0 ⊢
    simp only at h hr0 ⊢
    have hcs : (pcmd n).2.2 = false := by rw [← hc]; exact h
    have hn2 : n.2 = false := by
      cases hq : n.2 with
      | false => rfl
      | true =>
        exfalso
        have pn : ∀ lo hi x, x.2 = true → (pnum lo hi x).2.2 = true := by
          intro lo hi x hx2
          cases hy : (pnum lo hi x).2.2 with
          | true => rfl
          | false => have := (pnum_back lo hi x hy).1; rw [hx2] at this; simp at this
        have z := pn 0 20 _ (pn 0 1099511627776 _ (pn 0 1099511627776 _ (pn 1 4 n hq)))
        have st : ∀ (l : Nat) (q : List Int × Bool), q.2 = true → (ppairs l q).2.2 = true := by
          intro l
          induction l with
          | zero => intro q hq; exact hq
          | succ l ih =>
            intro q hq
            simp only [ppairs]
            apply ih
            have pt : ∀ mo x, x.2 = true → (ptext mo x).2.2 = true := by
              intro mo x hx2
              unfold ptext; split
              · rfl
              · exact pn 0 mo x hx2
            have h1 := pt 20 q hq
            have h2 : (ptruth (ptext 20 q).2).2.2 = true := pn 0 1 _ h1
            have h3 := pt 40 (ptruth (ptext 20 q).2).2 h2
            unfold ppair
            simp only
            split
            · exact h2
            · exact h3
        have y := st (pnum 0 20 (pnum 0 1099511627776 (pnum 0 1099511627776 (pnum 1 4 n).2).2).2).1 _ z
        have y2 : (pcmd n).2.2 = true := y
        rw [y2] at hcs; simp at hcs
    obtain ⟨d1, d2, d3, d4, d5, d6, d7, d8⟩ := hnb hn2
    have hbn : Byt n.1 := by rw [d2] at hb; exact hb.right.right.right.right.right
    have b := pcmd_back n hbn hcs
    rw [← hc] at b
    simp only at b
    refine ⟨d1, ?_, ?_⟩
    · rw [d2, b.2.1, hr0]; subst h3; simp [mbytes]
    · exact ⟨by simp only; omega, by simp only; omega, by unfold inNum; simp only; omega, by unfold inNum; simp only; omega, by unfold inNum; simp only; omega, by unfold inNum; simp only; omega, fun _ => b.2.2⟩
  · rw [pmsg_other hk hf ht he hn h3] at h hr0 ⊢
    simp only at h hr0 ⊢
    obtain ⟨d1, d2, d3, d4, d5, d6, d7, d8⟩ := hnb h
    refine ⟨d1, ?_, ?_⟩
    · rw [d2, hr0]; simp only [mbytes]
      rw [if_neg (by omega)]; simp
    · exact ⟨by simp only; omega, by simp only; omega, by unfold inNum; simp only; omega, by unfold inNum; simp only; omega, by unfold inNum; simp only; omega, by unfold inNum; simp only; omega, fun x => absurd x (by simp only; omega)⟩
theorem pcmds_back : ∀ (n : Nat) (s : List Int × Bool), Byt s.1 → (pcmds n s).2.2 = false → s.2 = false ∧ s.1 = (pcmds n s).1.flatMap cbytes ++ (pcmds n s).2.1 ∧ ∀ c ∈ (pcmds n s).1, okCmd c
  | 0, s, _, h => ⟨h, by simp [pcmds], by simp [pcmds]⟩
  | n + 1, s, hb, h => by
    simp only [pcmds] at h ⊢
    by_cases hsp : (pcmd s).2.2 = false
    · have b1 := pcmd_back s hb hsp
      have hb2 : Byt (pcmd s).2.1 := by rw [b1.2.1] at hb; exact hb.right
      have b2 := pcmds_back n (pcmd s).2 hb2 h
      refine ⟨b1.1, ?_, fun q hq => ?_⟩
      · rw [b1.2.1, b2.2.1]; simp
      · rcases List.mem_cons.1 hq with rfl | hq
        · exact b1.2.2
        · exact b2.2.2 q hq
    · exfalso
      have b2 : (pcmd s).2.2 = true := by simpa using hsp
      have emp : ∀ x : List Int × Bool, x.2 = true → (pcmd x).2.2 = true := by
        intro x hx
        cases hy : (pcmd x).2.2 with
        | true => rfl
        | false =>
          have pn : ∀ lo hi x, x.2 = true → (pnum lo hi x).2.2 = true := by
            intro lo hi x hx2
            cases hy : (pnum lo hi x).2.2 with
            | true => rfl
            | false => have := (pnum_back lo hi x hy).1; rw [hx2] at this; simp at this
          have z := pn 0 20 _ (pn 0 1099511627776 _ (pn 0 1099511627776 _ (pn 1 4 x hx)))
          have st : ∀ (l : Nat) (q : List Int × Bool), q.2 = true → (ppairs l q).2.2 = true := by
            intro l
            induction l with
            | zero => intro q hq; exact hq
            | succ l ih =>
              intro q hq
              simp only [ppairs]
              apply ih
              have pt : ∀ mo x, x.2 = true → (ptext mo x).2.2 = true := by
                intro mo x hx2
                unfold ptext; split
                · rfl
                · exact pn 0 mo x hx2
              have h1 := pt 20 q hq
              have h2 : (ptruth (ptext 20 q).2).2.2 = true := pn 0 1 _ h1
              have h3 := pt 40 (ptruth (ptext 20 q).2).2 h2
              unfold ppair
              simp only
              split
              · exact h2
              · exact h3
          have y := st (pnum 0 20 (pnum 0 1099511627776 (pnum 0 1099511627776 (pnum 1 4 x).2).2).2).1 _ z
          have y2 : (pcmd x).2.2 = true := y
          rw [y2] at hy; simp at hy
      have stc : ∀ (m : Nat) (q : List Int × Bool), q.2 = true → (pcmds m q).2.2 = true := by
        intro m
        induction m with
        | zero => intro q hq; exact hq
        | succ m ih => intro q hq; simp only [pcmds]; exact ih _ (emp q hq)
      have := stc n (pcmd s).2 b2
      rw [this] at h; simp at h
theorem plog_back (s : List Int × Bool) (hb : Byt s.1) (h : (plog s).2.2 = false) (hr0 : (plog s).2.1 = []) : s.2 = false ∧ s.1 = lbytes (plog s).1 ∧ okLog (plog s).1 := by
  unfold plog at h hr0 ⊢
  by_cases hq : (pnum 0 500 s).2.2 = false
  · have b1 := pnum_back 0 500 s hq
    have hb2 : Byt (pnum 0 500 s).2.1 := by rw [b1.2.1] at hb; exact hb.right
    have b2 := pcmds_back (pnum 0 500 s).1 (pnum 0 500 s).2 hb2 h
    have hlen := pcmds_len (pnum 0 500 s).1 (pnum 0 500 s).2
    refine ⟨b1.1, ?_, by omega, b2.2.2⟩
    rw [lbytes, hlen]
    have e := b2.2.1
    rw [hr0, List.append_nil] at e
    rw [← e]; exact b1.2.1
  · exfalso
    have hq' : (pnum 0 500 s).2.2 = true := by simpa using hq
    have e : pnum 0 500 s = (0, [], true) := by
      unfold pnum at hq' ⊢
      cases hs : scan 6 s.1 with
      | none => rfl
      | some q =>
        obtain ⟨n, r⟩ := q
        rw [hs] at hq'
        simp only at hq' ⊢
        by_cases hc : s.1 = enc n ++ r ∧ 0 ≤ n ∧ n ≤ 500
        · rw [if_pos hc] at hq'
          have : (pnum 0 500 s).2.2 = true := by simpa using hq
          -- a reader that came in spoilt
          rw [if_pos hc]
          exfalso
          simp only at hq'
          have hb' : (pcmds (pnum 0 500 s).1 (pnum 0 500 s).2).2.2 = true := by
            have st : ∀ (m : Nat) (q : List Int × Bool), q.2 = true → Byt q.1 → (pcmds m q).2.2 = true := by
              intro m q hq2 hbq
              cases hz : (pcmds m q).2.2 with
              | true => rfl
              | false => have := (pcmds_back m q hbq hz).1; rw [hq2] at this; simp at this
            refine st _ _ this ?_
            unfold pnum
            rw [hs]
            simp only
            rw [if_pos hc]
            rw [hc.1] at hb; exact hb.right
          rw [hb'] at h; simp at h
        · rw [if_neg hc]
    rw [e] at h
    simp [pcmds] at h

theorem whole_iff (s : List Int × Bool) : whole s = true ↔ s.2 = false ∧ s.1 = [] := by
  unfold whole; simp
theorem readMsg_eq (bs : List Int) (hb : Byt bs) : eReadMsg bs = pReadMsg bs := by
  cases hp : pReadMsg bs with
  | some m =>
    unfold pReadMsg at hp
    by_cases hw : whole (pmsg (bs, false)).2 = true
    · rw [if_pos hw] at hp
      obtain ⟨h1, h2⟩ := (whole_iff _).1 hw
      obtain ⟨_, h3, h4⟩ := pmsg_back (bs, false) hb h1 h2
      have hm : (pmsg (bs, false)).1 = m := by simpa using hp
      rw [hm] at h3 h4
      simp only at h3
      have hs : shpM m := by rw [← hm]; exact shp_pmsg _
      have h5 := emsg_enc m h4 hs
      rw [← h3] at h5
      have h6 := (rMsg_ok m).1.2 h4
      have h7 := (rMsg_ok m).2 h6
      unfold eReadMsg
      rw [h5]
      simp [eok, h6, h7, h3]
    · rw [if_neg hw] at hp; simp at hp
  | none =>
    unfold eReadMsg
    by_cases he : eok (emsg (bs, false)).2.2 (rMsg (emsg (bs, false)).1) bs = true
    · exfalso
      unfold eok at he
      simp at he
      obtain ⟨⟨h1, h2⟩, h3⟩ := he
      have h4 := (rMsg_ok _).1.1 h2
      have h5 := (rMsg_ok _).2 h2
      have h6 := pmsg_enc _ false h4 (shp_emsg (bs, false))
      rw [← h5, h3] at h6
      unfold pReadMsg at hp
      rw [h6] at hp
      simp [whole] at hp
    · simp [he]
theorem readLog_eq (bs : List Int) (hb : Byt bs) : eReadLog bs = pReadLog bs := by
  cases hp : pReadLog bs with
  | some m =>
    unfold pReadLog at hp
    by_cases hw : whole (plog (bs, false)).2 = true
    · rw [if_pos hw] at hp
      obtain ⟨h1, h2⟩ := (whole_iff _).1 hw
      obtain ⟨_, h3, h4⟩ := plog_back (bs, false) hb h1 h2
      have hm : (plog (bs, false)).1 = m := by simpa using hp
      rw [hm] at h3 h4
      simp only at h3
      have hs : ∀ c ∈ m, shpC c := by rw [← hm]; exact shp_pcmds _ _
      have h5 := elog_enc m h4 hs
      rw [← h3] at h5
      have h6 := (rLog_ok m).1.2 h4
      have h7 := (rLog_ok m).2 h6
      unfold eReadLog
      rw [h5]
      simp [eok, h6, h7, h3]
    · rw [if_neg hw] at hp; simp at hp
  | none =>
    unfold eReadLog
    by_cases he : eok (elog (bs, false)).2.2 (rLog (elog (bs, false)).1) bs = true
    · exfalso
      unfold eok at he
      simp at he
      obtain ⟨⟨h1, h2⟩, h3⟩ := he
      have h4 := (rLog_ok _).1.1 h2
      have h5 := (rLog_ok _).2 h2
      have h6 := plog_enc _ false h4 (shp_ecmds _ _ _)
      have h7 : lbytes (elog (bs, false)).1 = bs := by rw [← h5]; exact h3
      rw [h7] at h6
      unfold pReadLog at hp
      rw [h6] at hp
      simp [whole] at hp
    · simp [he]
end Go.Proofs.YtcfgmjlkbjleaaaDoor
