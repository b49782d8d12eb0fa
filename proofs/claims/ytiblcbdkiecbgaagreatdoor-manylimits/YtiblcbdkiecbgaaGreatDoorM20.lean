import Derived.Test.YtiblcbdkiecbgaaGreatDoorM19
set_option linter.unusedVariables false
set_option maxRecDepth 100000
set_option maxHeartbeats 16000000
namespace Go.Proofs.YtiblcbdkiecbgaaGreatDoor
open Go.RowKit Go.Lib Go.Maps
theorem made_zeros:∀ m:Nat,m<=5->(madeCells (Value.cells (.int .i64 0)) (m*1)).toList=(List.replicate m (0:Int)).map (Value.int .i64):=by
 intro m hm
 obtain rfl | rfl | rfl | rfl | rfl | rfl:m=0\/m=1\/m=2\/m=3\/m=4\/m=5:=by omega
 all_goals kernel_rfl
theorem Tryz.infoTx:(Tryz.prog.info? 162).map (fun i=>(i.zero,i.size,i.bytes))=some (some (.pointer none),1,8):=by kernel_rfl
def BegunP(w:World)(n c g:Nat)(y:HLay)(s:HouseS)(e:Ending)(w':World):Prop:=e=.returned (.tuple #[.int .i64 (s.txs.length+1),.nilIface])/\∃ y',HouseP w' n c g y' (beginH s)/\Steps w y w' y'
theorem begin_any(n c g:Nat)(y:HLay)(s:HouseS)(w:World)(h:HouseP w n c g y s)(hll:2<=s.lines.length/\s.lines.length<=5)(hT:s.txs.length<60) :
  Calls Tryz.prog 77 #[.pointer (some ⟨g,0,none⟩)] w (BegunP w n c g y s):=by
 obtain ⟨j0,hj,jz0,jz1,jz2⟩:=info_parts Tryz.infoIQ
 obtain ⟨k0,hk,kz0,kz1,kz2⟩:=info_parts Tryz.infoTx
 obtain ⟨c0,-,-,-,-,-,c6⟩:=blkH h.blk
 have f6:=h.blk.frozen 6
 obtain ⟨la,lcap,hlv⟩:=own_slice h.lrow
 obtain ⟨ta,tcap,htv⟩:=own_slice h.trow
 have hlen:=h.llen
 have htl:=h.tlen
 rw [hlv,hlen] at c0
 rw [htv,htl] at c6
 have hg:=h.blk.lt
 have hlow:=h.low
 have hrow:w.ownsRow n 162 1 (.slice ta s.txs.length tcap) s.txs.length (y.tbs.map ptrV):=by have:=h.trow;rw [htv,htl] at this;exact this
 -- the numbers
 obtain ⟨w1,hmk,hnum,hg1⟩:=run_makeSlice_full (P:=Tryz.prog) w.drew n 163 3 j0 _ 1 Tryz.underlying163 hj jz0 jz1 .i64 .i64 s.lines.length (by omega) (by rw [jz2];omega) (by unfold maxLen;omega) (by show n<=w.heap.size;omega)
 have hds:w.drew.heap.size=w.heap.size:=rfl
 rw [made_zeros _ hll.2,hds] at hnum
 rw [hds] at hmk
 have hm1:Mod noBlock w w1:=((Mod.refl noBlock w).drewN 1).grown hg1 (fun x hx _=>by cases hx)
 obtain ⟨w2,hw2⟩:∃ x,x=w1.alloc (.cells #[.int .i64 1,.slice (some ⟨w.heap.size,0,none⟩) s.lines.length s.lines.length,.slice none 0 0,.int .i64 0] 166):=⟨_,rfl⟩
 have hm2:Mod noBlock w1 w2:=by rw [hw2];exact (Mod.refl _ w1).alloc _
 have hB2:Blk w2 w1.heap.size [.int .i64 1,.slice (some ⟨w.heap.size,0,none⟩) s.lines.length s.lines.length,.slice none 0 0,.int .i64 0] 166:=by rw [hw2];exact Blk.new w1 _ _
 obtain ⟨w3,hw3⟩:∃ x,x=w2.alloc (.cells #[.pointer (some ⟨w1.heap.size,0,none⟩)] 162):=⟨_,rfl⟩
 have hm3:Mod noBlock w2 w3:=by rw [hw3];exact (Mod.refl _ w2).alloc _
 have hm13:=(hm1.trans hm2).trans hm3
 have hrow3:=own_mod hrow hm13 (fun _ _ _ _ e=>e)
 obtain ⟨v7,w7,hrun7,hown7,hgrow7,_,hat7⟩:=run_append_own_at (P:=Tryz.prog) w3 n 157 157 162 k0 _ 1 8 Tryz.underlying157 hk kz0 kz1 kz2 rfl (by omega) _ _ _ hrow3 ⟨w2.heap.size,0,none⟩ 1 1 [.pointer (some ⟨w1.heap.size,0,none⟩)] rfl (by rw [hw3];exact World.news_of_block (heap_alloc_new w2 _)) (by simp [Value.oneCell']) (by unfold maxLen;omega) (by omega) (by have:=hm13.size;omega)
 obtain ⟨a7,cap7,hv7⟩:=own_slice hown7
 subst hv7
 have hm37:Mod (fun k=>(Value.slice ta s.txs.length tcap).ownBlock=some k) w3 w7:=(Mod.refl _ w3).grown hgrow7 (fun x hx _=>hx)
 have hnb:(Value.slice ta s.txs.length tcap).ownBlock≠some g:=own_ne_blk hrow h.blk (by decide)
 have d0:=hm13.cell c0 (fun e=>e)
 have d6:=hm13.cell c6 (fun e=>e)
 have c07:=hm37.cell d0 hnb
 have c67:=hm37.cell d6 hnb
 have hg3:g<w3.heap.size:=Nat.lt_of_lt_of_le hg hm13.size
 have hg7:g<w7.heap.size:=Nat.lt_of_lt_of_le hg3 hm37.size
 have f67:=(hm37.frozen (p:=⟨g,6,none⟩) hg3 hnb).trans ((hm13.frozen (p:=⟨g,6,none⟩) hg (fun e=>e)).trans f6)
 have hrl:∀ z,(Value.slice ta s.txs.length tcap).ownBlock=some z->z<w.heap.size:=fun z hz=>(own_cells hrow hz).2.1
 -- what comes of it
 have HF:Hid (∃ y',HouseP (w7.setCell ⟨g,6,none⟩ (.slice a7 (s.txs.length+1) cap7)) n c g y' (beginH s)/\Steps w y (w7.setCell ⟨g,6,none⟩ (.slice a7 (s.txs.length+1) cap7)) y'):=by
  have hms:Mod (oneBlock g) w7 (w7.setCell ⟨g,6,none⟩ (.slice a7 (s.txs.length+1) cap7)):=Mod.setBlk g 6 _
  have hmA:Mod (fun z=>z=g\/y.tv.ownBlock=some z) w (w7.setCell ⟨g,6,none⟩ (.slice a7 (s.txs.length+1) cap7)):=((hm13.mono (fun _ _ e=>e.elim)).trans (hm37.mono (fun z _ e=>.inr (by rw [htv,htl];exact e)))).trans (hms.mono (fun z _ e=>.inl e))
  have hB7:Blk w7 g (houseCells y s.net.lost) 159:=(h.blk.mod hm13 (fun e=>e)).mod hm37 hnb
  have hne7:=own_ne_blk hown7 hB7 (by decide)
  have hbg:w1.heap.size≠g:=by have:=hm1.size;omega
  have hbt:(Value.slice ta s.txs.length tcap).ownBlock≠some w1.heap.size:=fun e=>by have:=hrl _ e;have:=hm1.size;omega
  have hag:(Value.slice (some ⟨w.heap.size,0,none⟩) s.lines.length s.lines.length).ownBlock≠some g:=fun e=>by simp [Value.ownBlock] at e;omega
  have hnum7:w7.ownsRow n 3 1 (.slice (some ⟨w.heap.size,0,none⟩) s.lines.length s.lines.length) s.lines.length ((List.replicate s.lines.length (0:Int)).map (Value.int .i64)):=own_mod (own_mod hnum (hm2.trans hm3) (fun _ _ _ _ e=>e)) hm37 (fun z _ _ e q=>by have:=hrl z q;simp [Value.ownBlock] at e;omega)
  obtain ⟨q1,q2⟩:=h.addT (b:=w1.heap.size) (av:=.slice (some ⟨w.heap.size,0,none⟩) s.lines.length s.lines.length) (tv:=.slice a7 (s.txs.length+1) cap7) hmA (hB7.set 6 _) (by
    rw [htl,List.map_append]
    exact own_mod hown7 hms (fun z _ _ e q=>hne7 (by rw [e];exact congrArg some q))) hm1.size (((hB2.mod hm3 (fun e=>e)).mod hm37 hbt).mod hms (fun e=>hbg e)) (own_mod hnum7 hms (fun z _ _ e q=>hag (by rw [e];exact congrArg some q))) (fun z hz=>by simp [Value.ownBlock] at hz;omega) (by
    rcases hat7 with e | e
    ·exact .inl (by rw [e,htv,htl])
    ·exact .inr fun z hz=>by rw [e] at hz;simp only [Option.some.injEq] at hz;have:=hm13.size;omega) (by omega)
  exact ⟨_,q1,q2⟩
 have HC:Hid (w.drew.cell? ⟨g,0,none⟩=some (.slice la s.lines.length lcap)/\w.drew.cell? ⟨g,6,none⟩=some (.slice ta s.txs.length tcap)):=⟨c0,c6⟩
 have HC1:Hid (w1.cell? ⟨g,0,none⟩=some (.slice la s.lines.length lcap)/\w1.cell? ⟨g,6,none⟩=some (.slice ta s.txs.length tcap)):=⟨hm1.cell c0 (fun e=>e),hm1.cell c6 (fun e=>e)⟩
 have HC2:Hid (w2.cell? ⟨g,0,none⟩=some (.slice la s.lines.length lcap)/\w2.cell? ⟨g,6,none⟩=some (.slice ta s.txs.length tcap)):=⟨(hm1.trans hm2).cell c0 (fun e=>e),(hm1.trans hm2).cell c6 (fun e=>e)⟩
 have HC3:Hid (w3.cell? ⟨g,0,none⟩=some (.slice la s.lines.length lcap)/\w3.cell? ⟨g,6,none⟩=some (.slice ta s.txs.length tcap)):=⟨d0,d6⟩
 have HC7:Hid (w7.cell? ⟨g,0,none⟩=some (.slice la s.lines.length lcap)/\w7.cell? ⟨g,6,none⟩=some (.slice ta s.txs.length tcap)):=⟨c07,c67⟩
 have hT6:decide ((s.txs.length:Int) ≥ 60)=false:=decide_eq_false (by omega)
 have hmk':(Instr.makeSlice 163 (.int .i64 s.lines.length) (.int .i64 s.lines.length)).run Tryz.prog w.drew=.ok (.slice (some ⟨w.heap.size,0,none⟩) s.lines.length s.lines.length) w1:=hmk
 clear h hlv htv hrow hnum hg1 hm1 hm2 hB2 hm3 hm13 hrow3 hown7 hgrow7 hat7 hm37 hnb d0 d6 hg3 hrl hmk
 go_enter Tryz.func77,Tryz.ntmps77
 go_upto_region 3 with fail
 refine wp_with fun fr hfr=>?_
 refine wp_withQ fun Q1 hQ1=>?_
 have hpan:∀ (d:Nat) (v:Value) (c:List PanicEntry) (a:Act) (w:World),Q1 (.panic c) (a.put (some d) v) w->Q1 (.panic c) a w:=fun d v c a w h=>by rw [hQ1] at h ⊢;exact h
 have HQ1:=Hmq hQ1
 clear hQ1
 have hsz:fr.tmps.size=33:=by rw [hfr];rfl
 obtain ⟨_,t0⟩:∃ h:0<fr.tmps.size,fr.tmps[0]=.pointer (some ⟨g,0,none⟩):=Array.getElem?_eq_some_iff.1 (by rw [hfr];rfl)
 have HFR:=Hmq hfr
 clear hfr
 refine wp_region_C 17 (fun wq=>wq.cell? ⟨g,0,none⟩=some (.slice la s.lines.length lcap)/\wq.cell? ⟨g,6,none⟩=some (.slice ta s.txs.length tcap)) rfl ?_
 refine wpAnyC_takeD 17 0 11 (.pointer (some ⟨g,0,none⟩)) rfl rfl (by kernel_rfl) (by kernel_rfl) (by kernel_rfl) (by kernel_rfl) (fun c a w h=>hpan _ _ c a w h) HC.out ⟨by rfl,fun wq hq=>by have q0:=hq.1;have q1:=hq.2;go_simp⟩ ?_
 refine wpAnyC_takeD 17 1 12 (.pointer (some ⟨g,0,none⟩)) rfl rfl (by kernel_rfl) (by kernel_rfl) (by kernel_rfl) (by kernel_rfl) (fun c a w h=>hpan _ _ c a w h) HC.out ⟨by rfl,fun wq hq=>by have q0:=hq.1;have q1:=hq.2;go_simp⟩ ?_
 refine wpAnyC_takeD 17 2 13 (.pointer (some ⟨g,0,none⟩)) rfl rfl (by kernel_rfl) (by kernel_rfl) (by kernel_rfl) (by kernel_rfl) (fun c a w h=>hpan _ _ c a w h) HC.out ⟨by rfl,fun wq hq=>by have q0:=hq.1;have q1:=hq.2;go_simp⟩ ?_
 refine wpAnyC_takeD 17 3 14 (.pointer (some ⟨g,6,none⟩)) rfl rfl (by kernel_rfl) (by kernel_rfl) (by kernel_rfl) (by kernel_rfl) (fun c a w h=>hpan _ _ c a w h) HC.out ⟨by rfl,fun wq hq=>by have q0:=hq.1;have q1:=hq.2;go_simp⟩ ?_
 refine wpAnyC_takeD 17 4 15 (.slice ta s.txs.length tcap) rfl rfl (by kernel_rfl) (by kernel_rfl) (by kernel_rfl) (by kernel_rfl) (fun c a w h=>hpan _ _ c a w h) HC.out ⟨by rfl,fun wq hq=>by have q0:=hq.1;have q1:=hq.2;go_simp⟩ ?_
 refine wpAnyC_takeD 17 5 16 (.pointer (some ⟨g,0,none⟩)) rfl rfl (by kernel_rfl) (by kernel_rfl) (by kernel_rfl) (by kernel_rfl) (fun c a w h=>hpan _ _ c a w h) HC.out ⟨by rfl,fun wq hq=>by have q0:=hq.1;have q1:=hq.2;go_simp⟩ ?_
 refine wpAnyC_takeD 17 6 17 (.pointer (some ⟨g,0,none⟩)) rfl rfl (by kernel_rfl) (by kernel_rfl) (by kernel_rfl) (by kernel_rfl) (fun c a w h=>hpan _ _ c a w h) HC.out ⟨by rfl,fun wq hq=>by have q0:=hq.1;have q1:=hq.2;go_simp⟩ ?_
 refine wpAnyC_takeD 17 7 18 (.pointer (some ⟨g,0,none⟩)) rfl rfl (by kernel_rfl) (by kernel_rfl) (by kernel_rfl) (by kernel_rfl) (fun c a w h=>hpan _ _ c a w h) HC.out ⟨by rfl,fun wq hq=>by have q0:=hq.1;have q1:=hq.2;go_simp⟩ ?_
 refine wpAnyC_takeD 17 8 19 (.slice la s.lines.length lcap) rfl rfl (by kernel_rfl) (by kernel_rfl) (by kernel_rfl) (by kernel_rfl) (fun c a w h=>hpan _ _ c a w h) HC.out ⟨by rfl,fun wq hq=>by have q0:=hq.1;have q1:=hq.2;go_simp⟩ ?_
 refine wpAnyC_takeD 17 9 20 (.int .i64 s.lines.length) rfl rfl (by kernel_rfl) (by kernel_rfl) (by kernel_rfl) (by kernel_rfl) (fun c a w h=>hpan _ _ c a w h) HC.out ⟨by rfl,fun wq hq=>by have q0:=hq.1;have q1:=hq.2;go_simp⟩ ?_
 refine wpAnyC_nextD 17 10 21 rfl rfl (by kernel_rfl) rfl (v:=.slice (some ⟨w.heap.size,0,none⟩) s.lines.length s.lines.length) (w':=w1) (by go_simp) HC1.out ?_
 refine wpAnyC_nextD 17 11 22 rfl rfl (by kernel_rfl) rfl (v:=.agg #[.int .i64 1,.slice (some ⟨w.heap.size,0,none⟩) s.lines.length s.lines.length,.slice none 0 0,.int .i64 0]) (w':=w1) (by go_simp) HC1.out ?_
 refine wpAnyC_nextD 17 12 23 rfl rfl (by kernel_rfl) rfl (v:=.pointer (some ⟨w1.heap.size,0,none⟩)) (w':=w2) (by rw [hw2];go_simp) HC2.out ?_
 refine wpAnyC_nextD 17 13 24 rfl rfl (by kernel_rfl) rfl (v:=.slice (some ⟨w2.heap.size,0,none⟩) 1 1) (w':=w3) (by rw [hw3];go_simp) HC3.out ?_
 refine wpAnyC_nextD 17 14 25 rfl rfl (by kernel_rfl) rfl (v:=.slice a7 (s.txs.length+1) cap7) (w':=w7) (exec_appendH (s:=.tmp 15) (x:=.tmp 24) (t:=157) rfl (by go_simp) (by go_simp) hrun7) HC7.out ?_
 refine wpAnyC_nextD 17 15 26 rfl rfl (by kernel_rfl) rfl (v:=.pointer (some ⟨g,0,none⟩)) (w':=w7) (by go_simp) HC7.out ?_
 refine wpAnyC_nextD 17 16 27 rfl rfl (by kernel_rfl) rfl (v:=.pointer (some ⟨g,6,none⟩)) (w':=w7) (by go_simp) HC7.out ?_
 refine wpAnyC_last 17 rfl (by kernel_rfl) rfl (w':=w7.setCell ⟨g,6,none⟩ (.slice a7 (s.txs.length+1) cap7)) (by go_simp) ?_
 refine ⟨by kernel_rfl,?_⟩
 have hQ1:=HQ1.out
 subst hQ1
 have hfr:=HFR.out
 subst hfr
 clear hpan hsz t0 HC HC1 HC2 HC3 HC7 HQ1 HFR hmk' hw2 hw3 hrun7
 have hgg:g<(w7.setCell ⟨g,6,none⟩ (.slice a7 (s.txs.length+1) cap7)).heap.size:=by simpa [World.setCell] using hg7
 go_wp2_with fail
 go_ret2
 exact ⟨by first | rfl | simp,HF.out⟩
end Go.Proofs.YtiblcbdkiecbgaaGreatDoor
