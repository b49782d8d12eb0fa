import Derived.Test.YtiblcbdkiecbgaaGreatDoorM20
set_option linter.unusedVariables false
set_option maxRecDepth 100000
set_option maxHeartbeats 16000000
namespace Go.Proofs.YtiblcbdkiecbgaaGreatDoor
open Go.RowKit Go.Lib Go.Maps
theorem LineN.nil(w:World)(L:Lo)(nv lv:Nat->Value):LineN w L [] nv lv []:=⟨rfl,List.nodup_nil,fun j c s h=>by simp at h,fun c h=>by simp at h⟩
theorem LineN.snoc{w w':World}{L:Lo}{bs:List Nat}{nv lv:Nat->Value}{ns:List NodeS}(h:LineN w L bs nv lv ns){d:Nat}{x:NodeS}(hd:w.heap.size<=d)(hm:Mod noBlock w w')(hN:NodeP w' L d (.slice none 0 0) (.slice none 0 0) x):LineN w' L (bs++[d]) (updV nv d (.slice none 0 0)) (updV lv d (.slice none 0 0)) (ns++[x]):=by
 have hlt:∀ c∈bs,∀ z,nodeMay c (nv c) (lv c) z->z<w.heap.size:=fun c hc z hz=>by
  obtain ⟨i,hi⟩:=List.getElem?_of_mem hc
  have hil:i<ns.length:=by have:=(List.getElem?_eq_some_iff.1 hi).1;have:=h.len;omega
  exact ((h.node i c _ hi (List.getElem?_eq_getElem hil)).lt hz).2.1
 have hne:∀ c∈bs,c≠d:=fun c hc e=>by have:=hlt c hc c (.inl rfl);omega
 have hmay:∀ z,nodeMay d (updV nv d (.slice none 0 0) d) (updV lv d (.slice none 0 0) d) z->z=d:=fun z hz=>by
  rw [updV_at,updV_at] at hz
  rcases hz with e | e | e
  ·exact e
  ·simp [Value.ownBlock] at e
  ·simp [Value.ownBlock] at e
 have hold:∀ c∈bs,∀ z,nodeMay c (updV nv d (.slice none 0 0) c) (updV lv d (.slice none 0 0) c) z->nodeMay c (nv c) (lv c) z:=fun c hc z hz=>by
  rw [updV_ne _ _ (hne c hc),updV_ne _ _ (hne c hc)] at hz;exact hz
 refine ⟨by rw [List.length_append,List.length_append,h.len];rfl,?_,fun i c s hc hs=>?_,fun c hc c' hc' hcc z hz hz'=>?_⟩
 ·rw [List.nodup_append]
  exact ⟨h.nd,by simp,fun a ha c hc e=>by simp at hc;subst hc;exact hne a ha e⟩
 ·have hl:=h.len
  by_cases hi:i<bs.length
  ·rw [List.getElem?_append_left hi] at hc
   rw [List.getElem?_append_left (by omega)] at hs
   have:=hne c (List.mem_of_getElem? hc)
   rw [updV_ne _ _ this,updV_ne _ _ this]
   exact (h.node i c s hc hs).quiet hm
  ·rw [List.getElem?_append_right (by omega)] at hc hs
   have hi0:i - bs.length=0:=by
    have:=(List.getElem?_eq_some_iff.1 hc).1
    simp at this;omega
   rw [hi0] at hc
   rw [show i - ns.length=0 by omega] at hs
   simp at hc hs
   subst hc hs
   rw [updV_at,updV_at];exact hN
 ·rcases List.mem_append.1 hc with q | q <;> rcases List.mem_append.1 hc' with q' | q'
  ·exact h.ap c q c' q' hcc z (hold c q z hz) (hold c' q' z hz')
  ·simp at q';subst q'
   have:=hmay z hz'
   have:=hlt c q z (hold c q z hz)
   omega
  ·simp at q;subst q
   have:=hmay z hz
   have:=hlt c' q' z (hold c' q' z hz')
   omega
  ·simp at q q';exact hcc (q.trans q'.symm)
theorem newNs_succ(k i:Nat):newNs k (i+1)=newNs k i++[newNode (10*(k:Int)+(i:Int))]:=by unfold newNs;rw [List.range_succ,List.map_append];rfl
structure MadeL(w w':World)(L:Lo)(b:Nat)(bs:List Nat)(nv lv:Nat->Value)(rv v:Value)(l:LineS)(ms:List MsgD):Prop where
 bn:w.heap.size<=b
 blk:Blk w' b [rv,.int .i64 l.heard] 188
 row:w'.ownsRow w.heap.size 168 1 rv bs.length (bs.map ptrV)
 node:LineN w' L bs nv lv l.nodes
 new:∀ c∈bs,∀ z,nodeMay c (nv c) (lv c) z->w.heap.size<=z
 msg:RowM w' L v ms
 fresh:freshV w v
 md:Mod noBlock w w'
theorem newLine_any(L:Lo)(k nodes:Nat)(w:World)(hk:k<=4)(h1:1<=nodes)(h4:nodes<=4)(hLn:L.n<=w.heap.size)(hLx:∀ z,L.x z->z<w.heap.size) :
  Calls Tryz.prog 136 #[.int .i64 k,.int .i64 nodes] w fun e w'=>∃ b bs nv lv rv v,e=.returned (.tuple #[.pointer (some ⟨b,0,none⟩),v])/\MadeL w w' L b bs nv lv rv v (newLineH k nodes).1 (newLineH k nodes).2:=by
 obtain ⟨i0,hi,hz0,hz1,hz2⟩:=info_parts Tryz.infoNd
 obtain ⟨w1,hw1⟩:∃ x,x=w.alloc (.cells #[.slice none 0 0,.int .i64 0] 188):=⟨_,rfl⟩
 have hm1:Mod noBlock w w1:=by rw [hw1];exact (Mod.refl _ w).alloc _
 have hB1:Blk w1 w.heap.size [.slice none 0 0,.int .i64 0] 188:=by rw [hw1];exact Blk.new w _ _
 have HM1:=Hmq hm1
 have HB1:=Hmq hB1
 clear hm1 hB1
 go_enter Tryz.func136,Tryz.ntmps136
 go_upto_region 2 with fail
 rw [<-hw1]
 clear hw1
 go_wp2_with fail
 go_loopw [11] (fun j1 wr=>∃ (i:Nat) (bs:List Nat) (nv lv:Nat->Value) (rv:Value),i<=nodes/\j1=.int .i64 i/\bs.length=i/\Blk wr w.heap.size [rv,.int .i64 0] 188/\wr.ownsRow w.heap.size 168 1 rv i (bs.map ptrV)/\LineN wr L bs nv lv (newNs k i)/\(∀ c∈bs,∀ z,nodeMay c (nv c) (lv c) z->w.heap.size<=z)/\Mod noBlock w wr) (fun j1 _=>nodes - (intOf j1).toNat)
 case atStart=>exact ⟨0,[],fun _=>.slice none 0 0,fun _=>.slice none 0 0,.slice none 0 0,Nat.zero_le _,rfl,rfl,HB1.out,World.ownsRow_nil _ _ _ _,LineN.nil _ _ _ _,fun c h=>by simp at h,HM1.out⟩
 case round=>
  obtain ⟨i,bs,nv,lv,rv,hil,rfl,hbl,hB,hrow,hLN,hnew,hM⟩:=hrel
  obtain ⟨wo,hwo⟩:∃ x,x=wr:=⟨_,rfl⟩
  subst hwo
  obtain ⟨ra,rcap,hrv⟩:=own_slice hrow
  subst hrv
  by_cases hlt:i<nodes
  ·have hiI:(i:Int)<(nodes:Int):=by omega
   have hi00:(0:Int)<=(i:Int):=by omega
   have hzo:=hM.size
   have hNW:=cnew_any L (10*(k:Int)+(i:Int)) wo.drew (by unfold int64;omega) (by show L.n<=wo.heap.size;omega) (fun z hz=>by have:=hLx z hz;show z<wo.heap.size;omega)
   have c0:=hB.cell 0 rfl
   have f0:=hB.frozen 0
   have zb:=hB.lt
   have HNW:=Hmq hNW
   have HLN:=Hmq hLN
   have HNE:=Hmq hnew
   have HMo:=Hmq hM
   have HBo:=Hmq hB
   have HRo:=Hmq hrow
   have HBL:=Hmq hbl
   have HC:Hid (wo.drew.cell? ⟨w.heap.size,0,none⟩=some (.slice ra i rcap)):=c0
   have hkI:(0:Int)<=(k:Int)/\(k:Int)<=4:=by omega
   have hwa:IntKind.i64.wrap (10*(k:Int))=10*(k:Int):=IntWalk.i64_in _ ⟨by omega,by omega⟩
   have hwb:IntKind.i64.wrap (10*(k:Int)+(i:Int))=10*(k:Int)+(i:Int):=IntWalk.i64_in _ ⟨by omega,by omega⟩
   clear hNW hLN hnew hM hB hrow hbl
   go_upto_region 5 with fail
   refine wp_with fun fr hfr=>?_
   refine wp_withQ fun Q1 hQ1=>?_
   have hpan:∀ (d:Nat) (v:Value) (c:List PanicEntry) (a:Act) (w:World),Q1 (.panic c) (a.put (some d) v) w->Q1 (.panic c) a w:=fun d v c a w h=>by rw [hQ1] at h ⊢;exact h
   have HQ1:=Hmq hQ1
   clear hQ1
   have hsz:fr.tmps.size=32:=by rw [hfr];rfl
   obtain ⟨_,t0⟩:∃ h:0<fr.tmps.size,fr.tmps[0]=.int .i64 k:=Array.getElem?_eq_some_iff.1 (by rw [hfr];rfl)
   obtain ⟨_,t6⟩:∃ h:6<fr.tmps.size,fr.tmps[6]=.pointer (some ⟨w.heap.size,0,none⟩):=Array.getElem?_eq_some_iff.1 (by rw [hfr];rfl)
   obtain ⟨_,t7⟩:∃ h:7<fr.tmps.size,fr.tmps[7]=.int .i64 i:=Array.getElem?_eq_some_iff.1 (by rw [hfr];rfl)
   have HFR:=Hmq hfr
   clear hfr
   refine wp_region_C 14 (fun wq=>wq.cell? ⟨w.heap.size,0,none⟩=some (.slice ra i rcap)) rfl ?_
   refine wpAnyC_takeD 14 0 14 (.pointer (some ⟨w.heap.size,0,none⟩)) rfl rfl (by kernel_rfl) (by kernel_rfl) (by kernel_rfl) (by kernel_rfl) (fun c a w h=>hpan _ _ c a w h) HC.out ⟨by rfl,fun wq hq=>by have q0:wq.cell? ⟨w.heap.size,0,none⟩=some (.slice ra i rcap):=hq;go_simp⟩ ?_
   refine wpAnyC_takeD 14 1 15 (.pointer (some ⟨w.heap.size,0,none⟩)) rfl rfl (by kernel_rfl) (by kernel_rfl) (by kernel_rfl) (by kernel_rfl) (fun c a w h=>hpan _ _ c a w h) HC.out ⟨by rfl,fun wq hq=>by have q0:wq.cell? ⟨w.heap.size,0,none⟩=some (.slice ra i rcap):=hq;go_simp⟩ ?_
   refine wpAnyC_takeD 14 2 16 (.pointer (some ⟨w.heap.size,0,none⟩)) rfl rfl (by kernel_rfl) (by kernel_rfl) (by kernel_rfl) (by kernel_rfl) (fun c a w h=>hpan _ _ c a w h) HC.out ⟨by rfl,fun wq hq=>by have q0:wq.cell? ⟨w.heap.size,0,none⟩=some (.slice ra i rcap):=hq;go_simp⟩ ?_
   refine wpAnyC_takeD 14 3 17 (.pointer (some ⟨w.heap.size,0,none⟩)) rfl rfl (by kernel_rfl) (by kernel_rfl) (by kernel_rfl) (by kernel_rfl) (fun c a w h=>hpan _ _ c a w h) HC.out ⟨by rfl,fun wq hq=>by have q0:wq.cell? ⟨w.heap.size,0,none⟩=some (.slice ra i rcap):=hq;go_simp⟩ ?_
   refine wpAnyC_takeD 14 4 18 (.slice ra i rcap) rfl rfl (by kernel_rfl) (by kernel_rfl) (by kernel_rfl) (by kernel_rfl) (fun c a w h=>hpan _ _ c a w h) HC.out ⟨by rfl,fun wq hq=>by have q0:wq.cell? ⟨w.heap.size,0,none⟩=some (.slice ra i rcap):=hq;go_simp⟩ ?_
   refine wpAnyC_takeD 14 5 19 (.int .i64 k) rfl rfl (by kernel_rfl) (by kernel_rfl) (by kernel_rfl) (by kernel_rfl) (fun c a w h=>hpan _ _ c a w h) HC.out ⟨by rfl,fun wq hq=>by have q0:wq.cell? ⟨w.heap.size,0,none⟩=some (.slice ra i rcap):=hq;go_simp⟩ ?_
   refine wpAnyC_takeD 14 6 20 (.int .i64 (10*(k:Int))) rfl rfl (by kernel_rfl) (by kernel_rfl) (by kernel_rfl) (by kernel_rfl) (fun c a w h=>hpan _ _ c a w h) HC.out ⟨by rfl,fun wq hq=>by have q0:wq.cell? ⟨w.heap.size,0,none⟩=some (.slice ra i rcap):=hq;go_simp⟩ ?_
   refine wpAnyC_takeD 14 7 21 (.int .i64 i) rfl rfl (by kernel_rfl) (by kernel_rfl) (by kernel_rfl) (by kernel_rfl) (fun c a w h=>hpan _ _ c a w h) HC.out ⟨by rfl,fun wq hq=>by have q0:wq.cell? ⟨w.heap.size,0,none⟩=some (.slice ra i rcap):=hq;go_simp⟩ ?_
   refine wpAnyC_takeD 14 8 22 (.int .i64 (10*(k:Int)+(i:Int))) rfl rfl (by kernel_rfl) (by kernel_rfl) (by kernel_rfl) (by kernel_rfl) (fun c a w h=>hpan _ _ c a w h) HC.out ⟨by rfl,fun wq hq=>by have q0:wq.cell? ⟨w.heap.size,0,none⟩=some (.slice ra i rcap):=hq;go_simp⟩ ?_
   refine wpAnyC_callD 14 9 23 rfl rfl (by kernel_rfl) rfl (f:=194) (args:=#[.int .i64 (10*(k:Int)+(i:Int))]) (by go_simp) (HNW.out.mono ?_)
   rintro e w5 ⟨rfl,hN5,hm5⟩
   have hMo5:Mod noBlock wo w5:=((Mod.refl noBlock wo).drewN 1).trans hm5
   have hc5:w5.cell? ⟨w.heap.size,0,none⟩=some (.slice ra i rcap):=hMo5.cell c0 (fun e=>e)
   refine ⟨_,rfl,hc5,?_⟩
   obtain ⟨w6,hw6⟩:∃ x,x=w5.alloc (.cells #[.pointer (some ⟨wo.heap.size,0,none⟩)] 168):=⟨_,rfl⟩
   have hm56:Mod noBlock w5 w6:=by rw [hw6];exact (Mod.refl _ w5).alloc _
   have hMo6:=hMo5.trans hm56
   have hrow6:=own_mod HRo.out hMo6 (fun _ _ _ _ e=>e)
   obtain ⟨v7,w7,hrun7,hown7,hgrow7,_,hat7⟩:=run_append_own_at (P:=Tryz.prog) w6 w.heap.size 160 160 168 i0 _ 1 8 Tryz.underlying160 hi hz0 hz1 hz2 rfl (by omega) _ _ _ hrow6 ⟨w5.heap.size,0,none⟩ 1 1 [.pointer (some ⟨wo.heap.size,0,none⟩)] rfl (by rw [hw6];exact World.news_of_block (heap_alloc_new w5 _)) (by simp [Value.oneCell']) (by unfold maxLen;omega) (by omega) (by have:=hMo6.size;omega)
   obtain ⟨a7,cap7,hv7⟩:=own_slice hown7
   subst hv7
   have hm67:Mod (fun z=>(Value.slice ra i rcap).ownBlock=some z) w6 w7:=(Mod.refl _ w6).grown hgrow7 (fun x hx _=>hx)
   have hnb:(Value.slice ra i rcap).ownBlock≠some w.heap.size:=own_ne_blk HRo.out HBo.out (by decide)
   have hc6:w6.cell? ⟨w.heap.size,0,none⟩=some (.slice ra i rcap):=hm56.cell hc5 (fun e=>e)
   have hc7:w7.cell? ⟨w.heap.size,0,none⟩=some (.slice ra i rcap):=hm67.cell hc6 hnb
   have zb6:w.heap.size<w6.heap.size:=Nat.lt_of_lt_of_le zb hMo6.size
   have zb7:w.heap.size<w7.heap.size:=Nat.lt_of_lt_of_le zb6 hm67.size
   have f7:=(hm67.frozen (p:=⟨w.heap.size,0,none⟩) zb6 hnb).trans ((hMo6.frozen (p:=⟨w.heap.size,0,none⟩) zb (fun e=>e)).trans f0)
   have HF:Hid (∃ (bs':List Nat) (nv' lv':Nat->Value),bs'.length=i+1/\Blk (w7.setCell ⟨w.heap.size,0,none⟩ (.slice a7 (i+1) cap7)) w.heap.size [.slice a7 (i+1) cap7,.int .i64 0] 188/\(w7.setCell ⟨w.heap.size,0,none⟩ (.slice a7 (i+1) cap7)).ownsRow w.heap.size 168 1 (.slice a7 (i+1) cap7) (i+1) (bs'.map ptrV)/\LineN (w7.setCell ⟨w.heap.size,0,none⟩ (.slice a7 (i+1) cap7)) L bs' nv' lv' (newNs k (i+1))/\(∀ c∈bs',∀ z,nodeMay c (nv' c) (lv' c) z->w.heap.size<=z)/\Mod noBlock w (w7.setCell ⟨w.heap.size,0,none⟩ (.slice a7 (i+1) cap7))):=by
    have hms:Mod (oneBlock w.heap.size) w7 (w7.setCell ⟨w.heap.size,0,none⟩ (.slice a7 (i+1) cap7)):=Mod.setBlk _ 0 _
    have hB7:Blk w7 w.heap.size [.slice ra i rcap,.int .i64 0] 188:=(HBo.out.mod hMo6 (fun e=>e)).mod hm67 hnb
    have hne7:=own_ne_blk hown7 hB7 (by decide)
    have hL5:=HLN.out.snoc (w':=w5) (d:=wo.heap.size) (x:=newNode (10*(k:Int)+(i:Int))) (Nat.le_refl _) hMo5 hN5
    rw [<-newNs_succ] at hL5
    have hL6:=hL5.quiet hm56
    have hnd:∀ c∈bs++[wo.heap.size],∃ x,NodeP w6 L c (updV nv wo.heap.size (.slice none 0 0) c) (updV lv wo.heap.size (.slice none 0 0) c) x:=fun c hc=>by
     obtain ⟨j,hj⟩:=List.getElem?_of_mem hc
     have hjl:j<(newNs k (i+1)).length:=by have:=(List.getElem?_eq_some_iff.1 hj).1;have:=hL6.len;omega
     exact ⟨_,hL6.node j c _ hj (List.getElem?_eq_getElem hjl)⟩
    have hkind:∀ c∈bs++[wo.heap.size],∀ z,nodeMay c (updV nv wo.heap.size (.slice none 0 0) c) (updV lv wo.heap.size (.slice none 0 0) c) z->∀ cur t,w6.heap[z]?=some (.cells cur t)->t≠168/\t≠188:=fun c hc z hz cur t hcur=>by
     obtain ⟨x,hx⟩:=hnd c hc
     rcases hz with q | q | q
     ·have hBl:=hx.blk
      unfold Blk at hBl
      rw [<-q,hcur] at hBl
      simp at hBl
      rw [hBl.2];decide
     ·obtain ⟨_,_,cur2,h2⟩:=own_cells hx.ns q
      rw [hcur] at h2;simp at h2
      rw [h2.2];decide
     ·obtain ⟨us,_,h3,_⟩:=hx.lg
      obtain ⟨_,_,cur2,h2⟩:=own_cells h3 q
      rw [hcur] at h2;simp at h2
      rw [h2.2];decide
    have hL7:=hL6.mod hm67 (Qm.row hrow6 hLn (by decide)) (fun c hc z hz q=>by
     obtain ⟨_,_,cur,hcur⟩:=own_cells hrow6 q
     exact (hkind c hc z hz cur _ hcur).1 rfl)
    have hB6:Blk w6 w.heap.size [.slice ra i rcap,.int .i64 0] 188:=HBo.out.mod hMo6 (fun e=>e)
    refine ⟨bs++[wo.heap.size],updV nv wo.heap.size (.slice none 0 0),updV lv wo.heap.size (.slice none 0 0),by rw [List.length_append,HBL.out];rfl,hB7.set 0 _,?_,?_,fun c hc z hz=>?_,?_⟩
    ·rw [List.map_append]
     exact own_mod hown7 hms (fun z _ _ e q=>hne7 (by rw [e];exact congrArg some q))
    ·refine hL7.mod hms (fun z hz' e=>?_) (fun c hc z hz e=>?_)
     ·simp only [oneBlock] at e
      subst e
      rintro (e5 | ⟨⟨cur,fr,e5⟩,_⟩)
      ·have h8:w.heap.size<L.n:=e5
       omega
      ·unfold Blk at hB7
       rw [hB7] at e5;simp at e5
     ·simp only [oneBlock] at e
      subst e
      unfold Blk at hB6
      exact (hkind c hc _ hz _ _ hB6).2 rfl
    ·rcases List.mem_append.1 hc with q | q
     ·by_cases e:c=wo.heap.size
      ·subst e
       rw [updV_at,updV_at] at hz
       rcases hz with e | e | e
       ·omega
       ·simp [Value.ownBlock] at e
       ·simp [Value.ownBlock] at e
      ·rw [updV_ne _ _ e,updV_ne _ _ e] at hz
       exact HNE.out c q z hz
     ·simp at q;subst q
      rw [updV_at,updV_at] at hz
      rcases hz with e | e | e
      ·omega
      ·simp [Value.ownBlock] at e
      ·simp [Value.ownBlock] at e
    ·exact ((HMo.out.trans hMo6).trans' hm67 (fun z hz q=>by have:=(own_cells hrow6 q).1;omega)).trans' hms (fun z hz q=>by simp only [oneBlock] at q;omega)
   clear hrow6 hown7 hgrow7 hat7 hm67 hm56 hMo6 hMo5 hN5 hm5 HNW HLN HNE HMo HBo HRo HBL
   refine wpAnyC_nextD 14 10 24 rfl rfl (by kernel_rfl) rfl (v:=.slice (some ⟨w5.heap.size,0,none⟩) 1 1) (w':=w6) (by rw [hw6];go_simp) hc6 ?_
   refine wpAnyC_nextD 14 11 25 rfl rfl (by kernel_rfl) rfl (v:=.slice a7 (i+1) cap7) (w':=w7) (exec_appendH (s:=.tmp 18) (x:=.tmp 24) (t:=160) rfl (by go_simp) (by go_simp) hrun7) hc7 ?_
   refine wpAnyC_nextD 14 12 26 rfl rfl (by kernel_rfl) rfl (v:=.pointer (some ⟨w.heap.size,0,none⟩)) (w':=w7) (by go_simp) hc7 ?_
   refine wpAnyC_nextD 14 13 27 rfl rfl (by kernel_rfl) rfl (v:=.pointer (some ⟨w.heap.size,0,none⟩)) (w':=w7) (by go_simp) hc7 ?_
   refine wpAnyC_last 14 rfl (by kernel_rfl) rfl (w':=w7.setCell ⟨w.heap.size,0,none⟩ (.slice a7 (i+1) cap7)) (by go_simp) ?_
   refine ⟨by kernel_rfl,?_⟩
   have hQ1:=HQ1.out
   subst hQ1
   have hfr:=HFR.out
   subst hfr
   clear hpan hsz t0 t6 t7 HC HQ1 HFR hw6 hrun7 hc5 hc6 hc7 f7
   obtain ⟨bs',nv',lv',r1,r2,r3,r4,r5,r6⟩:=HF.out
   have HF2:Hid (∃ (i':Nat) (bs:List Nat) (nv lv:Nat->Value) (rv:Value),i'<=nodes/\Value.int .i64 ((i:Int)+1)=.int .i64 i'/\bs.length=i'/\Blk (w7.setCell ⟨w.heap.size,0,none⟩ (.slice a7 (i+1) cap7)) w.heap.size [rv,.int .i64 0] 188/\(w7.setCell ⟨w.heap.size,0,none⟩ (.slice a7 (i+1) cap7)).ownsRow w.heap.size 168 1 rv i' (bs.map ptrV)/\LineN (w7.setCell ⟨w.heap.size,0,none⟩ (.slice a7 (i+1) cap7)) L bs nv lv (newNs k i')/\(∀ c∈bs,∀ z,nodeMay c (nv c) (lv c) z->w.heap.size<=z)/\Mod noBlock w (w7.setCell ⟨w.heap.size,0,none⟩ (.slice a7 (i+1) cap7))):=⟨i+1,bs',nv',lv',_,by omega,rfl,r1,r2,r3,r4,r5,r6⟩
   clear HF r1 r2 r3 r4 r5 r6
   go_wp2_with fail
   go_roundw
   case rel=>exact HF2.out
   case measure=>simp [intOf];omega
  ·obtain rfl:i=nodes:=by omega
   have hNL:newLineH k i=becomeL ⟨newNs k i,0⟩:=rfl
   have hep0:nextEp ⟨newNs k i,0⟩=1:=by unfold nextEp;rw [List.getD_eq_getElem?_getD,newNs_get k i (by omega)];rfl
   have hnl:(newNs k i).length=i:=by simp [newNs]
   have hMo:=hM
   have hz:=hM.size
   have HBE:=Hmq (become_any L.n L w.heap.size bs nv lv ⟨newNs k i,0⟩ (.slice ra i rcap) wo rfl hB (by rw [hbl];exact own_base hrow hLn) hLN (by show 0<(newNs k i).length;omega) (by show (newNs k i).length<=4;omega) (by rw [hep0];omega) (fun x hx=>by
    rw [hep0]
    have hx':x∈newNs k i:=hx
    unfold newNs at hx'
    obtain ⟨j,_,rfl⟩:=List.mem_map.1 hx'
    show (0:Int)<1
    omega) (by
    unfold idsL
    rw [List.Nodup,List.pairwise_map]
    exact (newNs_pw k i).imp (fun q=>by omega)) (by omega))
   have HF:Hid (∀ w7 (v7:Value) (nv7 lv7:Nat->Value),LineN w7 L bs nv7 lv7 (becomeL ⟨newNs k i,0⟩).1.nodes->RowM w7 L v7 (becomeL ⟨newNs k i,0⟩).2->freshV wo v7->(∀ d∈bs,Moved wo (nv d) (nv7 d)/\Moved wo (lv d) (lv7 d))->Mod (fun z=>z∈bs) wo w7->MadeL w w7 L w.heap.size bs nv7 lv7 (.slice ra i rcap) v7 (newLineH k i).1 (newLineH k i).2):=fun w7 v7 nv7 lv7 q1 q2 q3 q4 q5=>by
    have hbs:∀ c∈bs,w.heap.size<=c:=fun c hc=>hnew c hc c (.inl rfl)
    have hkind:∀ c∈bs,∃ x,NodeP wo L c (nv c) (lv c) x:=fun c hc=>by
     obtain ⟨j,hj⟩:=List.getElem?_of_mem hc
     have hjl:j<(newNs k i).length:=by have:=(List.getElem?_eq_some_iff.1 hj).1;have:=hLN.len;omega
     exact ⟨_,hLN.node j c _ hj (List.getElem?_eq_getElem hjl)⟩
    have hb:w.heap.size∉bs:=fun q=>by
     obtain ⟨x,hx⟩:=hkind _ q
     have h1:=hx.blk
     unfold Blk at h1 hB
     rw [hB] at h1;simp at h1
    have hr:∀ z,(Value.slice ra i rcap).ownBlock=some z->z∉bs:=fun z hz' q=>by
     obtain ⟨x,hx⟩:=hkind _ q
     exact own_ne_blk hrow hx.blk (by decide) hz'
    refine ⟨Nat.le_refl _,hB.mod q5 hb,by rw [hbl];exact own_mod hrow q5 (fun z _ _ e q=>hr z e q),q1,fun c hc z hz'=>?_,q2,fun z hz'=>Nat.le_trans hz (q3 z hz'),hM.trans' q5 (fun z hz' q=>by have:=hbs z q;omega)⟩
    rcases hz' with e | e | e
    ·rw [e];exact hbs c hc
    ·rcases (q4 c hc).1 with q | q
     ·exact hnew c hc z (.inr (.inl (by rw [<-q];exact e)))
     ·exact Nat.le_trans hz (q z e)
    ·rcases (q4 c hc).2 with q | q
     ·exact hnew c hc z (.inr (.inr (by rw [<-q];exact e)))
     ·exact Nat.le_trans hz (q z e)
   have zb:=hB.lt
   clear hB hrow hLN hnew hM hNL hep0 hnl hMo
   go_wp2_with fail
   refine HBE.out.mono ?_
   rintro e w7 ⟨v7,nv7,lv7,rfl,q1,q2,q3,q4,q5⟩
   obtain ⟨va7,vc7,hva7⟩:=q2.slice
   subst hva7
   have HF7:=Hmq (HF.out w7 _ nv7 lv7 q1 q2 q3 q4 q5)
   clear q1 q2 q3 q4 q5 HBE HF
   go_wp2_with fail
   go_ret2
   exact ⟨_,_,_,_,_,_,rfl,HF7.out⟩
end Go.Proofs.YtiblcbdkiecbgaaGreatDoor
