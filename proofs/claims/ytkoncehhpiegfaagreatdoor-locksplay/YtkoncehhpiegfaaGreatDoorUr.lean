/- The law LocksPlay: both tables' answers, side by side. -/
import Derived.Test.YtkoncehhpiegfaaGreatDoorUq
namespace Go.Proofs.YtkoncehhpiegfaaGreatDoor
open Go.RowKit Go.Lib Go.Maps
set_option linter.unusedVariables false

structure HoldD where
  what : Int
  tx : Int
  mode : Int
  key : ByteArray
def holdR (d : HoldD) (cs : List Value) : Prop := cs = [.int .i64 d.what, .int .i64 d.tx, .int .i64 d.mode, .string d.key] ∧ okQ d.key
def HoldsV (w : World) (L : Nat) (v : Value) (l : List HoldD) : Prop := SlR w L 4 holdR v l
theorem HoldsV.at {w : World} {L : Nat} {a : Option Addr} {n cap : Nat} {l : List HoldD} (h : HoldsV w L (.slice a n cap) l) {i : Nat} {d : HoldD} (hi : l[i]? = some d) :
    ∃ b off, a = some ⟨b, off, none⟩ ∧ b < L ∧ okQ d.key ∧ w.cell? ⟨b, off + i * 4, none⟩ = some (.int .i64 d.what) ∧ w.cell? ⟨b, off + i * 4 + 1, none⟩ = some (.int .i64 d.tx) ∧ w.cell? ⟨b, off + i * 4 + 2, none⟩ = some (.int .i64 d.mode) ∧ w.cell? ⟨b, off + i * 4 + 3, none⟩ = some (.string d.key) := by
  obtain ⟨b, off, cs, h1, h2, ⟨rfl, h3⟩, _, h5⟩ := SlR.at h hi
  exact ⟨b, off, h1, h2, h3, by have := h5 0 _ rfl; simpa using this, h5 1 _ rfl, h5 2 _ rfl, h5 3 _ rfl⟩
/-- What was asked, in a block of its own. -/
def askBlk (w : World) (xb : Nat) (x : HoldD) : Prop := Blk w xb [.int .i64 x.what, .int .i64 x.tx, .int .i64 x.mode, .string x.key] 31
theorem BothP.start {w : World} : BothP (w.alloc (.cells #[.map none] 25)) ((w.alloc (.cells #[.map none] 25)).alloc (.cells #[.slice none 0 0, .slice none 0 0] 29)) w.heap.size (w.heap.size + 1) 0 bareT ⟨[], []⟩ := by
  have hbT : Blk (w.alloc (.cells #[.map none] 25)) w.heap.size [.map none] 25 := Blk.new w [.map none] 25
  have hbR := Blk.new (w.alloc (.cells #[.map none] 25)) [.slice none 0 0, .slice none 0 0] 29
  rw [World.size_alloc] at hbR
  refine ⟨(TabP.new hbT).mod ((Mod.refl _ _).alloc _), ⟨.slice none 0 0, .slice none 0 0, hbR, ⟨World.ownsRow_nil _ _ _ _, by simp⟩, ⟨World.ownsRow_nil _ _ _ _, by simp⟩, fun x hx => by simp [Value.ownBlock] at hx⟩, RelT.empty, ⟨[], fun k => Apart.nil []⟩, by simp, by rw [World.size_alloc]; omega, by rw [World.size_alloc]; omega⟩
theorem BothP.more {W wr : World} {tb b i j : Nat} {s : Tab} {r : RefT} (h : BothP W wr tb b i s r) (hj : i ≤ j) : BothP W wr tb b j s r := ⟨h.tab.more hj hj, h.rt, h.rel, h.apart, Nat.le_trans h.len hj, h.tb, h.b⟩
theorem own_lt {w : World} {B : Nat} {e : TypeId} {sz n : Nat} {v : Value} {xs : List Value} (h : w.ownsRow B e sz v n xs) {y : Nat} (hy : v.ownBlock = some y) : y < w.heap.size := (own_cellsVQ h hy).2.1
/-- What the document's Lock comes to, and the program's behind it. -/
def Lock2P (W : World) (tb b i xb : Nat) (x : HoldD) (wx : World) (e : Ending) (w3 : World) : Prop :=
  ∃ (ok : Bool) (u : Value) (ws : List Int) (er : Int), e = .returned (.tuple #[.bool ok, u, .int .i64 er]) ∧ askBlk w3 xb x ∧
    Calls Tryz.prog 5 #[.pointer (some ⟨tb, 0, none⟩), .int .i64 x.tx, .string x.key, .int .i64 x.mode] w3 fun e' w4 => ∃ u', e' = .returned (.tuple #[.bool ok, u', errQ er]) ∧ IntsQ w4 w4.heap.size u' ws ∧ IntsQ w4 w4.heap.size u ws ∧ askBlk w4 xb x ∧ ∃ s' r', BothP W w4 tb b (i + 1) s' r'
theorem BothP.lock2 {W wo wx : World} {tb b i xb : Nat} {s : Tab} {r : RefT} (h : BothP W wo tb b i s r) (hm : Mod noBlock wo wx) (hxb : wo.heap.size ≤ xb) {x : HoldD} (hx : askBlk wx xb x) (hk : okQ x.key) (hi : i ≤ 300) :
    Calls Tryz.prog 4 #[.pointer (some ⟨b, 0, none⟩), .agg #[.int .i64 x.tx, .string x.key, .int .i64 x.mode]] wx (Lock2P W tb b i xb x wx) := by
  have hb := h.quiet hm
  obtain ⟨hv, wv, hrt⟩ := hb.rt
  have hlen := hb.len
  have hblt : b < wo.heap.size := by obtain ⟨_, _, q⟩ := h.rt; exact q.blk.lt
  have hlow : W.heap.size ≤ wx.heap.size := hb.tab.md.size
  have hwo := h.tab.md.size
  refine (lockd_any W.heap.size b hv wv r ⟨x.tx, x.key, x.mode⟩ wx hrt hb.rel.uh (by omega) (by omega) hk hlow).mono ?_
  rintro e w3 ⟨hv', wv', u, lw, rfl, hp, hs, hu, hrt3, hmd⟩
  have hx3 : askBlk w3 xb x := hx.mod hmd (fun e => by
    obtain ⟨_, _, q⟩ := h.rt
    rcases e with e | e | e
    · omega
    · obtain ⟨_, _, cur, hc⟩ := own_cellsVQ hrt.h.1 e
      have := hx
      unfold askBlk Blk at this
      rw [hc] at this
      simp at this
    · obtain ⟨_, _, cur, hc⟩ := own_cellsVQ hrt.w.1 e
      have := hx
      unfold askBlk Blk at this
      rw [hc] at this
      simp at this)
  have htb := hb.tb
  have ht3 : TabP W w3 tb i i s := hb.tab.doc hrt (Nat.le_refl _) hb.b htb hmd
  refine ⟨_, u, (lockF r ⟨x.tx, x.key, x.mode⟩ lw).2.2.1, _, rfl, hx3, ?_⟩
  by_cases hm12 : x.mode = 1 ∨ x.mode = 2
  · by_cases hlong : 20 < x.key.size
    · rw [lockF_long (x := ⟨x.tx, x.key, x.mode⟩) hm12 hlong] at hu hrt3 ⊢
      refine (lock_long _ x.tx x.key x.mode w3 hm12 hlong hk).mono ?_
      rintro e w4 ⟨rfl, rfl⟩
      exact ⟨_, rfl, SlR.nil _ _ _ _, RowI.toQ hu, hx3, s, r, BothP.more ⟨ht3, ⟨hv', wv', hrt3⟩, hb.rel, hb.apart, hlen, htb, hb.b⟩ (by omega)⟩
    · rw [lockF_in (x := ⟨x.tx, x.key, x.mode⟩) hm12 hlong] at hu hrt3 ⊢
      refine (ht3.lock x.tx x.key x.mode hm12 (by omega) (by omega) (by omega)).mono ?_
      rintro e w4 ⟨u', rfl, hu', ht4, hst⟩
      obtain ⟨hB, hag⟩ := hb.locked (x := ⟨x.tx, x.key, x.mode⟩) hm12 hp hs (hrt3.stays hst htb (by have := hb.b; omega)) ht4
      have hu4 := hst.ints hu (fun y hy => by have := (own_cellsVQ hu hy).1; omega)
      have e1 : (lockR r ⟨x.tx, x.key, x.mode⟩ lw).2.1 = (lockN (s x.key) ⟨x.tx, x.mode⟩).2.1 := congrArg (·.1) hag
      have e2 : (lockR r ⟨x.tx, x.key, x.mode⟩ lw).2.2.1 = (lockN (s x.key) ⟨x.tx, x.mode⟩).2.2.1 := congrArg (·.2.1) hag
      have e3 : (lockR r ⟨x.tx, x.key, x.mode⟩ lw).2.2.2 = (lockN (s x.key) ⟨x.tx, x.mode⟩).2.2.2 := congrArg (·.2.2) hag
      refine ⟨u', by rw [e1, e3], by rw [e2]; exact RowI.toQ hu', RowI.toQ hu4, hst _ _ _ hx3 (by omega) (by decide), _, _, hB⟩
  · have h1 : x.mode ≠ 1 := fun e => hm12 (.inl e)
    have h2 : x.mode ≠ 2 := fun e => hm12 (.inr e)
    rw [lockF_arg (x := ⟨x.tx, x.key, x.mode⟩) h1 h2] at hu hrt3 ⊢
    refine (lock_arg _ x.tx x.key x.mode w3 h1 h2).mono ?_
    rintro e w4 ⟨rfl, rfl⟩
    exact ⟨_, rfl, SlR.nil _ _ _ _, RowI.toQ hu, hx3, s, r, BothP.more ⟨ht3, ⟨hv', wv', hrt3⟩, hb.rel, hb.apart, hlen, htb, hb.b⟩ (by omega)⟩
def Rel2P (W : World) (tb b i xb : Nat) (x : HoldD) (wx : World) (e : Ending) (w3 : World) : Prop :=
  ∃ (u : Value) (os : List AskD), e = .returned u ∧ os.length ≤ 300 ∧ askBlk w3 xb x ∧
    Calls Tryz.prog 9 #[.pointer (some ⟨tb, 0, none⟩), .int .i64 x.tx] w3 fun e' w4 => ∃ u', e' = .returned u' ∧ SlR w4 w4.heap.size 3 askC u' os ∧ SlR w4 w4.heap.size 3 askC u os ∧ askBlk w4 xb x ∧ ∃ s' r', BothP W w4 tb b (i + 1) s' r'
theorem BothP.rel2 {W wo wx : World} {tb b i xb : Nat} {s : Tab} {r : RefT} (h : BothP W wo tb b i s r) (hm : Mod noBlock wo wx) (hxb : wo.heap.size ≤ xb) {x : HoldD} (hx : askBlk wx xb x) (hi : i ≤ 300) :
    Calls Tryz.prog 8 #[.pointer (some ⟨b, 0, none⟩), .int .i64 x.tx] wx (Rel2P W tb b i xb x wx) := by
  have hb := h.quiet hm
  obtain ⟨hv, wv, hrt⟩ := hb.rt
  have hlen := hb.len
  have hblt : b < wo.heap.size := by obtain ⟨_, _, q⟩ := h.rt; exact q.blk.lt
  have hlow : W.heap.size ≤ wx.heap.size := hb.tab.md.size
  have hwo := h.tab.md.size
  refine (reld_any W.heap.size b i hv wv r x.tx wx hrt hb.rel.uh hb.rel.uw hlen (by omega) hlow).mono ?_
  rintro e w3 ⟨u, hv', wv', ks, rfl, hs, hmem, hS⟩
  have hx3 : askBlk w3 xb x := hx.mod hS.md (fun e => by simp only [oneBlock] at e; omega)
  have htb := hb.tb
  have ht3 : TabP W w3 tb i i s := hb.tab.doc hrt (Nat.le_refl _) hb.b htb (hS.md.mono (fun y _ e => .inl e))
  have hrl : RtP w3 W.heap.size b hv' wv' (keysR ks (cutR r x.tx)).1 := ⟨hS.rt.blk, ⟨own_lowQ hS.rt.h.1 hlow, hS.rt.h.2⟩, ⟨own_lowQ hS.rt.w.1 hlow, hS.rt.w.2⟩, hS.rt.ne⟩
  refine ⟨u, (keysR ks (cutR r x.tx)).2, rfl, by have := hS.m2; omega, hx3, ?_⟩
  refine (ht3.release x.tx (by omega) (by omega)).mono ?_
  rintro e w4 ⟨gv, ks2, rfl, hns, hgr, ht4, hst⟩
  obtain ⟨hB, hag⟩ := hb.released hs hmem hns (hrl.stays hst htb (by have := hb.b; omega)) hS.m1 ht4
  refine ⟨gv, rfl, by rw [hag]; exact hgr.toC, (hst.asks hS.out (by omega)).toC, hst _ _ _ hx3 (by omega) (by decide), _, _, hB.more (by omega)⟩
/-- Both tell the same keys. -/
theorem BothP.keys2 {W wc : World} {tb b i : Nat} {s : Tab} {r : RefT} (h : BothP W wc tb b i s r) (hi : i ≤ 300) :
    Calls Tryz.prog 10 #[.pointer (some ⟨b, 0, none⟩)] wc fun e w1 => ∃ ka kc ks, e = .returned (.slice ka (List.length ks) kc) ∧ KeysQ w1 w1.heap.size (.slice ka ks.length kc) ks ∧ ks.length ≤ 2000 ∧ Mod noBlock wc w1 ∧
      Calls Tryz.prog 11 #[.pointer (some ⟨tb, 0, none⟩)] w1 fun e' w2 => ∃ ga gc, e' = .returned (.slice ga ks.length gc) ∧ KeysQ w2 w2.heap.size (.slice ga ks.length gc) ks ∧ Mod noBlock w1 w2 := by
  obtain ⟨hv, wv, hrt⟩ := h.rt
  have hlen := h.len
  refine (keysd_any W.heap.size b hv wv r wc hrt (by omega) (by omega)).mono ?_
  rintro e w1 ⟨v, ks, rfl, hk, hs, hmem, hl, _, hm⟩
  obtain ⟨ka, kc, rfl, _, _⟩ := SlR.slice hk
  refine ⟨ka, kc, ks, rfl, hk, by omega, hm, ?_⟩
  refine ((h.tab.mod hm).keys (by omega)).mono ?_
  rintro e w2 ⟨v2, ks2, rfl, hk2, hn2, _, hl2, hm2⟩
  have hsame : ks2 = ks := by
    refine sortedQ_same hn2.1 hs (fun k => ?_)
    rw [hn2.2 k, hmem k, h.rel.keys_bare k]
    refine ⟨fun q => q.2.1, fun q => ⟨?_, q, rfl⟩⟩
    obtain ⟨a, ha, rfl⟩ := List.mem_map.1 ((h.rel.keys_bare k).2 q)
    rcases List.mem_append.1 ha with q | q
    · exact hrt.h.2 a q
    · exact hrt.w.2 a q
  subst hsame
  obtain ⟨ga, gc, rfl, _, _⟩ := SlR.slice hk2
  exact ⟨ga, gc, rfl, hk2, hm2⟩
/-- Both tell the same of a key. -/
theorem BothP.how2 {W wc : World} {tb b i : Nat} {s : Tab} {r : RefT} (h : BothP W wc tb b i s r) (hi : i ≤ 300) (t : Int) (k : ByteArray) (hk : okQ k) :
    ∃ (m : Int) (ws : List Int), (∀ w1, Mod noBlock wc w1 → Calls Tryz.prog 12 #[.pointer (some ⟨tb, 0, none⟩), .int .i64 t, .string k] w1 fun e w' => e = .returned (.int .i64 m) ∧ Mod noBlock w1 w') ∧
      (∀ w1, Mod noBlock wc w1 → Calls Tryz.prog 13 #[.pointer (some ⟨b, 0, none⟩), .int .i64 t, .string k] w1 fun e w' => e = .returned (.int .i64 m) ∧ Mod noBlock w1 w') ∧
      (∀ w1, Mod noBlock wc w1 → Calls Tryz.prog 14 #[.pointer (some ⟨tb, 0, none⟩), .string k] w1 fun e w' => ∃ u, e = .returned u ∧ IntsQ w' w'.heap.size u ws ∧ Mod noBlock w1 w') ∧
      (∀ w1, Mod noBlock wc w1 → Calls Tryz.prog 15 #[.pointer (some ⟨b, 0, none⟩), .string k] w1 fun e w' => ∃ u, e = .returned u ∧ IntsQ w' w'.heap.size u ws ∧ Mod noBlock w1 w') := by
  obtain ⟨hv, wv, hrt⟩ := h.rt
  have hlen := h.len
  obtain ⟨A, hA⟩ := h.apart
  refine ⟨modeN (s k).held t, (s k).waits.map (·.tx), fun w1 hm => (h.tab.mod hm).holds t k hk (by omega), fun w1 hm => ?_, fun w1 hm => ?_, fun w1 hm => ?_⟩
  · rw [← h.rel.how (hA k).ok t]
    exact how_any W.heap.size b hv wv r t k w1 (hrt.quiet hm) (by omega)
  · refine ((h.tab.mod hm).waits k hk (by omega)).mono ?_
    rintro e w' ⟨u, rfl, hu, hm'⟩
    exact ⟨u, rfl, RowI.toQ hu, hm'⟩
  · refine (waiting_any W.heap.size b hv wv r k w1 (hrt.quiet hm) (by omega)).mono ?_
    rintro e w' ⟨u, ks, rfl, hu, hp, hs, _, hm'⟩
    have hks := h.rel.wait_sorted (hA k).ok hp hs
    subst hks
    exact ⟨u, rfl, hu, hm'⟩
end Go.Proofs.YtkoncehhpiegfaaGreatDoor
