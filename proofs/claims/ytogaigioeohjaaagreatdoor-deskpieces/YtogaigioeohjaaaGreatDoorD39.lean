import Derived.Test.YtogaigioeohjaaaGreatDoorD38
set_option linter.unusedVariables false
set_option maxRecDepth 100000
set_option maxHeartbeats 16000000
namespace Go.Proofs.YtogaigioeohjaaaGreatDoor
open Go.RowKit Go.Lib Go.Maps
theorem zEp.nil(w:World)(L:Lo)(nv lv:Nat->Value):zEp w L [] nv lv []:=⟨rfl,List.nodup_nil,fun j c s h=>by simp at h,fun c h=>by simp at h⟩
theorem zEp.snoc{w w':World}{L:Lo}{bs:List Nat}{nv lv:Nat->Value}{ns:List zAl}(h:zEp w L bs nv lv ns){d:Nat}{x:zAl}(hd:w.heap.size<=d)(hm:Mod zAb w w')(hN:zAx w' L d (.slice none 0 0) (.slice none 0 0) x):zEp w' L (bs++[d]) (updV nv d (.slice none 0 0)) (updV lv d (.slice none 0 0)) (ns++[x]):=by
 have hlt:∀ c∈bs,∀ z,zAs c (nv c) (lv c) z->z<w.heap.size:=fun c hc z hz=>by
  obtain ⟨i,hi⟩:=List.getElem?_of_mem hc
  have hil:i<ns.length:=by have:=(List.getElem?_eq_some_iff.1 hi).1;have:=h.len;omega
  exact ((h.node i c _ hi (List.getElem?_eq_getElem hil)).lt hz).2.1
 have hne:∀ c∈bs,c≠d:=fun c hc e=>by have:=hlt c hc c (.inl rfl);omega
 have hmay:∀ z,zAs d (updV nv d (.slice none 0 0) d) (updV lv d (.slice none 0 0) d) z->z=d:=fun z hz=>by
  rw [zFl,zFl] at hz
  rcases hz with e | e | e
  ·exact e
  ·simp [Value.ownBlock] at e
  ·simp [Value.ownBlock] at e
 have hold:∀ c∈bs,∀ z,zAs c (updV nv d (.slice none 0 0) c) (updV lv d (.slice none 0 0) c) z->zAs c (nv c) (lv c) z:=fun c hc z hz=>by
  rw [zFk _ _ (hne c hc),zFk _ _ (hne c hc)] at hz;exact hz
 refine ⟨by rw [List.length_append,List.length_append,h.len];rfl,?_,fun i c s hc hs=>?_,fun c hc c' hc' hcc z hz hz'=>?_⟩
 ·rw [List.nodup_append]
  exact ⟨h.nd,by simp,fun a ha c hc e=>by simp at hc;subst hc;exact hne a ha e⟩
 ·have hl:=h.len
  by_cases hi:i<bs.length
  ·rw [List.getElem?_append_left hi] at hc
   rw [List.getElem?_append_left (by omega)] at hs
   have:=hne c (List.mem_of_getElem? hc)
   rw [zFk _ _ this,zFk _ _ this]
   exact (h.node i c s hc hs).quiet hm
  ·rw [List.getElem?_append_right (by omega)] at hc hs
   have hi0:i - bs.length=0:=by
    have:=(List.getElem?_eq_some_iff.1 hc).1
    simp at this;omega
   rw [hi0] at hc
   rw [show i - ns.length=0 by omega] at hs
   simp at hc hs
   subst hc hs
   rw [zFl,zFl];exact hN
 ·rcases List.mem_append.1 hc with q | q <;> rcases List.mem_append.1 hc' with q' | q'
  ·exact h.ap c q c' q' hcc z (hold c q z hz) (hold c' q' z hz')
  ·simp at q';subst q'
   have:=hmay z hz'
   have:=hlt c q z (hold c q z hz)
   omega
  ·simp at q;subst q
   have:=hmay z hz
   have:=hlt c' q' z (hold c' q' z hz')
   omega
  ·simp at q q';exact hcc (q.trans q'.symm)
theorem yHr(k i:Nat):zCm k (i+1)=zCm k i++[zPn (10*(k:Int)+(i:Int))]:=by unfold zCm;rw [List.range_succ,List.map_append];rfl
structure MadeL(w w':World)(L:Lo)(b:Nat)(bs:List Nat)(nv lv:Nat->Value)(rv v:Value)(l:zCs)(ms:List MsgD):Prop where
 bn:w.heap.size<=b
 blk:Blk w' b [rv,.int .i64 l.heard] 122
 row:w'.ownsRow w.heap.size 100 1 rv bs.length (bs.map ptrV)
 node:zEp w' L bs nv lv l.nodes
 new:∀ c∈bs,∀ z,zAs c (nv c) (lv c) z->w.heap.size<=z
 msg:RowM w' L v ms
 fresh:zCr w v
 md:Mod zAb w w'
theorem yDm(L:Lo)(k nodes:Nat)(w:World)(hk:k<=4)(h1:1<=nodes)(h4:nodes<=4)(hLn:L.n<=w.heap.size)(hLx:∀ z,L.x z->z<w.heap.size) :
  Calls Tryz.prog 97 #[.int .i64 k,.int .i64 nodes] w fun e w'=>∃ b bs nv lv rv v,e=.returned (.tuple #[.pointer (some ⟨b,0,none⟩),v])/\MadeL w w' L b bs nv lv rv v (zBu k nodes).1 (zBu k nodes).2:=by
 obtain ⟨i0,hi,hz0,hz1,hz2⟩:=info_parts Tryz.infoNd
 obtain ⟨w1,hw1⟩:∃ x,x=w.alloc (.cells #[.slice none 0 0,.int .i64 0] 122):=⟨_,rfl⟩
 have hm1:Mod zAb w w1:=by rw [hw1];exact (Mod.refl _ w).alloc _
 have hB1:Blk w1 w.heap.size [.slice none 0 0,.int .i64 0] 122:=by rw [hw1];exact Blk.new w _ _
 have HM1:=Hmq hm1
 have HB1:=Hmq hB1
 clear hm1 hB1
 go_enter Tryz.func97,Tryz.ntmps97
 go_upto_region 2 with fail
 rw [<-hw1]
 clear hw1
 go_wp2_with fail
 go_loopw [11] (fun j1 wr=>∃ (i:Nat) (bs:List Nat) (nv lv:Nat->Value) (rv:Value),i<=nodes/\j1=.int .i64 i/\bs.length=i/\Blk wr w.heap.size [rv,.int .i64 0] 122/\wr.ownsRow w.heap.size 100 1 rv i (bs.map ptrV)/\zEp wr L bs nv lv (zCm k i)/\(∀ c∈bs,∀ z,zAs c (nv c) (lv c) z->w.heap.size<=z)/\Mod zAb w wr) (fun j1 _=>nodes - (intOf j1).toNat)
 case atStart=>exact ⟨0,[],fun _=>.slice none 0 0,fun _=>.slice none 0 0,.slice none 0 0,Nat.zero_le _,rfl,rfl,HB1.out,World.ownsRow_nil _ _ _ _,zEp.nil _ _ _ _,fun c h=>by simp at h,HM1.out⟩
 case round=>
  obtain ⟨i,bs,nv,lv,rv,hil,rfl,hbl,hB,hrow,hLN,hnew,hM⟩:=hrel
  obtain ⟨wo,hwo⟩:∃ x,x=wr:=⟨_,rfl⟩
  subst hwo
  obtain ⟨ra,rcap,hrv⟩:=zAg hrow
  subst hrv
  by_cases hlt:i<nodes
  ·have hiI:(i:Int)<(nodes:Int):=by omega
   have hi00:(0:Int)<=(i:Int):=by omega
   have hzo:=hM.size
   have hNW:=yRn L (10*(k:Int)+(i:Int)) wo.drew (by unfold zBc;omega) (by show L.n<=wo.heap.size;omega) (fun z hz=>by have:=hLx z hz;show z<wo.heap.size;omega)
   have c0:=hB.cell 0 rfl
   have f0:=hB.frozen 0
   have zb:=hB.lt
   have HNW:=Hmq hNW
   have HLN:=Hmq hLN
   have HNE:=Hmq hnew
   have HMo:=Hmq hM
   have HBo:=Hmq hB
   have HRo:=Hmq hrow
   have HBL:=Hmq hbl
   have HC:Hid (wo.drew.cell? ⟨w.heap.size,0,none⟩=some (.slice ra i rcap)):=c0
   have hkI:(0:Int)<=(k:Int)/\(k:Int)<=4:=by omega
   have hwa:IntKind.i64.wrap (10*(k:Int))=10*(k:Int):=IntWalk.i64_in _ ⟨by omega,by omega⟩
   have hwb:IntKind.i64.wrap (10*(k:Int)+(i:Int))=10*(k:Int)+(i:Int):=IntWalk.i64_in _ ⟨by omega,by omega⟩
   clear hNW hLN hnew hM hB hrow hbl
   go_upto_region 5 with fail
   refine zEr fun fr hfr=>?_
   refine zDk fun Q1 hQ1=>?_
   have hpan:∀ (d:Nat) (v:Value) (c:List PanicEntry) (a:Act) (w:World),Q1 (.panic c) (a.put (some d) v) w->Q1 (.panic c) a w:=fun d v c a w h=>by rw [hQ1] at h ⊢;exact h
   have HQ1:=Hmq hQ1
   clear hQ1
   have hsz:fr.tmps.size=32:=by rw [hfr];rfl
   obtain ⟨_,t0⟩:∃ h:0<fr.tmps.size,fr.tmps[0]=.int .i64 k:=Array.getElem?_eq_some_iff.1 (by rw [hfr];rfl)
   obtain ⟨_,t6⟩:∃ h:6<fr.tmps.size,fr.tmps[6]=.pointer (some ⟨w.heap.size,0,none⟩):=Array.getElem?_eq_some_iff.1 (by rw [hfr];rfl)
   obtain ⟨_,t7⟩:∃ h:7<fr.tmps.size,fr.tmps[7]=.int .i64 i:=Array.getElem?_eq_some_iff.1 (by rw [hfr];rfl)
   have HFR:=Hmq hfr
   clear hfr
   refine zBo 14 (fun wq=>wq.cell? ⟨w.heap.size,0,none⟩=some (.slice ra i rcap)) rfl ?_
   refine zAc 14 0 14 (.pointer (some ⟨w.heap.size,0,none⟩)) rfl rfl (by kernel_rfl) (by kernel_rfl) (by kernel_rfl) (by kernel_rfl) (fun c a w h=>hpan _ _ c a w h) HC.out ⟨by rfl,fun wq hq=>by have q0:wq.cell? ⟨w.heap.size,0,none⟩=some (.slice ra i rcap):=hq;go_simp⟩ ?_
   refine zAc 14 1 15 (.pointer (some ⟨w.heap.size,0,none⟩)) rfl rfl (by kernel_rfl) (by kernel_rfl) (by kernel_rfl) (by kernel_rfl) (fun c a w h=>hpan _ _ c a w h) HC.out ⟨by rfl,fun wq hq=>by have q0:wq.cell? ⟨w.heap.size,0,none⟩=some (.slice ra i rcap):=hq;go_simp⟩ ?_
   refine zAc 14 2 16 (.pointer (some ⟨w.heap.size,0,none⟩)) rfl rfl (by kernel_rfl) (by kernel_rfl) (by kernel_rfl) (by kernel_rfl) (fun c a w h=>hpan _ _ c a w h) HC.out ⟨by rfl,fun wq hq=>by have q0:wq.cell? ⟨w.heap.size,0,none⟩=some (.slice ra i rcap):=hq;go_simp⟩ ?_
   refine zAc 14 3 17 (.pointer (some ⟨w.heap.size,0,none⟩)) rfl rfl (by kernel_rfl) (by kernel_rfl) (by kernel_rfl) (by kernel_rfl) (fun c a w h=>hpan _ _ c a w h) HC.out ⟨by rfl,fun wq hq=>by have q0:wq.cell? ⟨w.heap.size,0,none⟩=some (.slice ra i rcap):=hq;go_simp⟩ ?_
   refine zAc 14 4 18 (.slice ra i rcap) rfl rfl (by kernel_rfl) (by kernel_rfl) (by kernel_rfl) (by kernel_rfl) (fun c a w h=>hpan _ _ c a w h) HC.out ⟨by rfl,fun wq hq=>by have q0:wq.cell? ⟨w.heap.size,0,none⟩=some (.slice ra i rcap):=hq;go_simp⟩ ?_
   refine zAc 14 5 19 (.int .i64 k) rfl rfl (by kernel_rfl) (by kernel_rfl) (by kernel_rfl) (by kernel_rfl) (fun c a w h=>hpan _ _ c a w h) HC.out ⟨by rfl,fun wq hq=>by have q0:wq.cell? ⟨w.heap.size,0,none⟩=some (.slice ra i rcap):=hq;go_simp⟩ ?_
   refine zAc 14 6 20 (.int .i64 (10*(k:Int))) rfl rfl (by kernel_rfl) (by kernel_rfl) (by kernel_rfl) (by kernel_rfl) (fun c a w h=>hpan _ _ c a w h) HC.out ⟨by rfl,fun wq hq=>by have q0:wq.cell? ⟨w.heap.size,0,none⟩=some (.slice ra i rcap):=hq;go_simp⟩ ?_
   refine zAc 14 7 21 (.int .i64 i) rfl rfl (by kernel_rfl) (by kernel_rfl) (by kernel_rfl) (by kernel_rfl) (fun c a w h=>hpan _ _ c a w h) HC.out ⟨by rfl,fun wq hq=>by have q0:wq.cell? ⟨w.heap.size,0,none⟩=some (.slice ra i rcap):=hq;go_simp⟩ ?_
   refine zAc 14 8 22 (.int .i64 (10*(k:Int)+(i:Int))) rfl rfl (by kernel_rfl) (by kernel_rfl) (by kernel_rfl) (by kernel_rfl) (fun c a w h=>hpan _ _ c a w h) HC.out ⟨by rfl,fun wq hq=>by have q0:wq.cell? ⟨w.heap.size,0,none⟩=some (.slice ra i rcap):=hq;go_simp⟩ ?_
   refine zEs 14 9 23 rfl rfl (by kernel_rfl) rfl (f:=156) (args:=#[.int .i64 (10*(k:Int)+(i:Int))]) (by go_simp) (HNW.out.mono ?_)
   rintro e w5 ⟨rfl,hN5,hm5⟩
   have hMo5:Mod zAb wo w5:=((Mod.refl zAb wo).drewN 1).trans hm5
   have hc5:w5.cell? ⟨w.heap.size,0,none⟩=some (.slice ra i rcap):=hMo5.cell c0 (fun e=>e)
   refine ⟨_,rfl,hc5,?_⟩
   obtain ⟨w6,hw6⟩:∃ x,x=w5.alloc (.cells #[.pointer (some ⟨wo.heap.size,0,none⟩)] 100):=⟨_,rfl⟩
   have hm56:Mod zAb w5 w6:=by rw [hw6];exact (Mod.refl _ w5).alloc _
   have hMo6:=hMo5.trans hm56
   have hrow6:=zAn HRo.out hMo6 (fun _ _ _ _ e=>e)
   obtain ⟨v7,w7,hrun7,hown7,hgrow7,_,hat7⟩:=run_append_own_at (P:=Tryz.prog) w6 w.heap.size 91 91 100 i0 _ 1 8 Tryz.underlying91 hi hz0 hz1 hz2 rfl (by omega) _ _ _ hrow6 ⟨w5.heap.size,0,none⟩ 1 1 [.pointer (some ⟨wo.heap.size,0,none⟩)] rfl (by rw [hw6];exact World.news_of_block (heap_alloc_new w5 _)) (by simp [Value.oneCell']) (by unfold maxLen;omega) (by omega) (by have:=hMo6.size;omega)
   obtain ⟨a7,cap7,hv7⟩:=zAg hown7
   subst hv7
   have hm67:Mod (fun z=>(Value.slice ra i rcap).ownBlock=some z) w6 w7:=(Mod.refl _ w6).grown hgrow7 (fun x hx _=>hx)
   have hnb:(Value.slice ra i rcap).ownBlock≠some w.heap.size:=zBf HRo.out HBo.out (by decide)
   have hc6:w6.cell? ⟨w.heap.size,0,none⟩=some (.slice ra i rcap):=hm56.cell hc5 (fun e=>e)
   have hc7:w7.cell? ⟨w.heap.size,0,none⟩=some (.slice ra i rcap):=hm67.cell hc6 hnb
   have zb6:w.heap.size<w6.heap.size:=Nat.lt_of_lt_of_le zb hMo6.size
   have zb7:w.heap.size<w7.heap.size:=Nat.lt_of_lt_of_le zb6 hm67.size
   have f7:=(hm67.frozen (p:=⟨w.heap.size,0,none⟩) zb6 hnb).trans ((hMo6.frozen (p:=⟨w.heap.size,0,none⟩) zb (fun e=>e)).trans f0)
   have HF:Hid (∃ (bs':List Nat) (nv' lv':Nat->Value),bs'.length=i+1/\Blk (w7.setCell ⟨w.heap.size,0,none⟩ (.slice a7 (i+1) cap7)) w.heap.size [.slice a7 (i+1) cap7,.int .i64 0] 122/\(w7.setCell ⟨w.heap.size,0,none⟩ (.slice a7 (i+1) cap7)).ownsRow w.heap.size 100 1 (.slice a7 (i+1) cap7) (i+1) (bs'.map ptrV)/\zEp (w7.setCell ⟨w.heap.size,0,none⟩ (.slice a7 (i+1) cap7)) L bs' nv' lv' (zCm k (i+1))/\(∀ c∈bs',∀ z,zAs c (nv' c) (lv' c) z->w.heap.size<=z)/\Mod zAb w (w7.setCell ⟨w.heap.size,0,none⟩ (.slice a7 (i+1) cap7))):=by
    have hms:Mod (zAd w.heap.size) w7 (w7.setCell ⟨w.heap.size,0,none⟩ (.slice a7 (i+1) cap7)):=Mod.setBlk _ 0 _
    have hB7:Blk w7 w.heap.size [.slice ra i rcap,.int .i64 0] 122:=(HBo.out.mod hMo6 (fun e=>e)).mod hm67 hnb
    have hne7:=zBf hown7 hB7 (by decide)
    have hL5:=HLN.out.snoc (w':=w5) (d:=wo.heap.size) (x:=zPn (10*(k:Int)+(i:Int))) (Nat.le_refl _) hMo5 hN5
    rw [<-yHr] at hL5
    have hL6:=hL5.quiet hm56
    have hnd:∀ c∈bs++[wo.heap.size],∃ x,zAx w6 L c (updV nv wo.heap.size (.slice none 0 0) c) (updV lv wo.heap.size (.slice none 0 0) c) x:=fun c hc=>by
     obtain ⟨j,hj⟩:=List.getElem?_of_mem hc
     have hjl:j<(zCm k (i+1)).length:=by have:=(List.getElem?_eq_some_iff.1 hj).1;have:=hL6.len;omega
     exact ⟨_,hL6.node j c _ hj (List.getElem?_eq_getElem hjl)⟩
    have hkind:∀ c∈bs++[wo.heap.size],∀ z,zAs c (updV nv wo.heap.size (.slice none 0 0) c) (updV lv wo.heap.size (.slice none 0 0) c) z->∀ cur t,w6.heap[z]?=some (.cells cur t)->t≠100/\t≠122:=fun c hc z hz cur t hcur=>by
     obtain ⟨x,hx⟩:=hnd c hc
     rcases hz with q | q | q
     ·have hBl:=hx.blk
      unfold Blk at hBl
      rw [<-q,hcur] at hBl
      simp at hBl
      rw [hBl.2];decide
     ·obtain ⟨_,_,cur2,h2⟩:=zAi hx.ns q
      rw [hcur] at h2;simp at h2
      rw [h2.2];decide
     ·obtain ⟨us,_,h3,_⟩:=hx.lg
      obtain ⟨_,_,cur2,h2⟩:=zAi h3 q
      rw [hcur] at h2;simp at h2
      rw [h2.2];decide
    have hL7:=hL6.mod hm67 (Qm.row hrow6 hLn (by decide)) (fun c hc z hz q=>by
     obtain ⟨_,_,cur,hcur⟩:=zAi hrow6 q
     exact (hkind c hc z hz cur _ hcur).1 rfl)
    have hB6:Blk w6 w.heap.size [.slice ra i rcap,.int .i64 0] 122:=HBo.out.mod hMo6 (fun e=>e)
    refine ⟨bs++[wo.heap.size],updV nv wo.heap.size (.slice none 0 0),updV lv wo.heap.size (.slice none 0 0),by rw [List.length_append,HBL.out];rfl,hB7.set 0 _,?_,?_,fun c hc z hz=>?_,?_⟩
    ·rw [List.map_append]
     exact zAn hown7 hms (fun z _ _ e q=>hne7 (by rw [e];exact congrArg some q))
    ·refine hL7.mod hms (fun z hz' e=>?_) (fun c hc z hz e=>?_)
     ·simp only [zAd] at e
      subst e
      rintro (e5 | ⟨⟨cur,fr,e5⟩,_⟩)
      ·have h8:w.heap.size<L.n:=e5
       omega
      ·unfold Blk at hB7
       rw [hB7] at e5;simp at e5
     ·simp only [zAd] at e
      subst e
      unfold Blk at hB6
      exact (hkind c hc _ hz _ _ hB6).2 rfl
    ·rcases List.mem_append.1 hc with q | q
     ·by_cases e:c=wo.heap.size
      ·subst e
       rw [zFl,zFl] at hz
       rcases hz with e | e | e
       ·omega
       ·simp [Value.ownBlock] at e
       ·simp [Value.ownBlock] at e
      ·rw [zFk _ _ e,zFk _ _ e] at hz
       exact HNE.out c q z hz
     ·simp at q;subst q
      rw [zFl,zFl] at hz
      rcases hz with e | e | e
      ·omega
      ·simp [Value.ownBlock] at e
      ·simp [Value.ownBlock] at e
    ·exact ((HMo.out.trans hMo6).trans' hm67 (fun z hz q=>by have:=(zAi hrow6 q).1;omega)).trans' hms (fun z hz q=>by simp only [zAd] at q;omega)
   clear hrow6 hown7 hgrow7 hat7 hm67 hm56 hMo6 hMo5 hN5 hm5 HNW HLN HNE HMo HBo HRo HBL
   refine zBg 14 10 24 rfl rfl (by kernel_rfl) rfl (v:=.slice (some ⟨w5.heap.size,0,none⟩) 1 1) (w':=w6) (by rw [hw6];go_simp) hc6 ?_
   refine zBg 14 11 25 rfl rfl (by kernel_rfl) rfl (v:=.slice a7 (i+1) cap7) (w':=w7) (zHr (s:=.tmp 18) (x:=.tmp 24) (t:=91) rfl (by go_simp) (by go_simp) hrun7) hc7 ?_
   refine zBg 14 12 26 rfl rfl (by kernel_rfl) rfl (v:=.pointer (some ⟨w.heap.size,0,none⟩)) (w':=w7) (by go_simp) hc7 ?_
   refine zBg 14 13 27 rfl rfl (by kernel_rfl) rfl (v:=.pointer (some ⟨w.heap.size,0,none⟩)) (w':=w7) (by go_simp) hc7 ?_
   refine zNd 14 rfl (by kernel_rfl) rfl (w':=w7.setCell ⟨w.heap.size,0,none⟩ (.slice a7 (i+1) cap7)) (by go_simp) ?_
   refine ⟨by kernel_rfl,?_⟩
   have hQ1:=HQ1.out
   subst hQ1
   have hfr:=HFR.out
   subst hfr
   clear hpan hsz t0 t6 t7 HC HQ1 HFR hw6 hrun7 hc5 hc6 hc7 f7
   obtain ⟨bs',nv',lv',r1,r2,r3,r4,r5,r6⟩:=HF.out
   have HF2:Hid (∃ (i':Nat) (bs:List Nat) (nv lv:Nat->Value) (rv:Value),i'<=nodes/\Value.int .i64 ((i:Int)+1)=.int .i64 i'/\bs.length=i'/\Blk (w7.setCell ⟨w.heap.size,0,none⟩ (.slice a7 (i+1) cap7)) w.heap.size [rv,.int .i64 0] 122/\(w7.setCell ⟨w.heap.size,0,none⟩ (.slice a7 (i+1) cap7)).ownsRow w.heap.size 100 1 rv i' (bs.map ptrV)/\zEp (w7.setCell ⟨w.heap.size,0,none⟩ (.slice a7 (i+1) cap7)) L bs nv lv (zCm k i')/\(∀ c∈bs,∀ z,zAs c (nv c) (lv c) z->w.heap.size<=z)/\Mod zAb w (w7.setCell ⟨w.heap.size,0,none⟩ (.slice a7 (i+1) cap7))):=⟨i+1,bs',nv',lv',_,by omega,rfl,r1,r2,r3,r4,r5,r6⟩
   clear HF r1 r2 r3 r4 r5 r6
   go_wp2_with fail
   go_roundw
   case rel=>exact HF2.out
   case measure=>simp [intOf];omega
  ·obtain rfl:i=nodes:=by omega
   have hNL:zBu k i=zBy ⟨zCm k i,0⟩:=rfl
   have hep0:zDy ⟨zCm k i,0⟩=1:=by unfold zDy;rw [List.getD_eq_getElem?_getD,yAj k i (by omega)];rfl
   have hnl:(zCm k i).length=i:=by simp [zCm]
   have hMo:=hM
   have hz:=hM.size
   have HBE:=Hmq (zWj L.n L w.heap.size bs nv lv ⟨zCm k i,0⟩ (.slice ra i rcap) wo rfl hB (by rw [hbl];exact zEk hrow hLn) hLN (by show 0<(zCm k i).length;omega) (by show (zCm k i).length<=4;omega) (by rw [hep0];omega) (fun x hx=>by
    rw [hep0]
    have hx':x∈zCm k i:=hx
    unfold zCm at hx'
    obtain ⟨j,_,rfl⟩:=List.mem_map.1 hx'
    show (0:Int)<1
    omega) (by
    unfold idsL
    rw [List.Nodup,List.pairwise_map]
    exact (yFn k i).imp (fun q=>by omega)) (by omega))
   have HF:Hid (∀ w7 (v7:Value) (nv7 lv7:Nat->Value),zEp w7 L bs nv7 lv7 (zBy ⟨zCm k i,0⟩).1.nodes->RowM w7 L v7 (zBy ⟨zCm k i,0⟩).2->zCr wo v7->(∀ d∈bs,zCf wo (nv d) (nv7 d)/\zCf wo (lv d) (lv7 d))->Mod (fun z=>z∈bs) wo w7->MadeL w w7 L w.heap.size bs nv7 lv7 (.slice ra i rcap) v7 (zBu k i).1 (zBu k i).2):=fun w7 v7 nv7 lv7 q1 q2 q3 q4 q5=>by
    have hbs:∀ c∈bs,w.heap.size<=c:=fun c hc=>hnew c hc c (.inl rfl)
    have hkind:∀ c∈bs,∃ x,zAx wo L c (nv c) (lv c) x:=fun c hc=>by
     obtain ⟨j,hj⟩:=List.getElem?_of_mem hc
     have hjl:j<(zCm k i).length:=by have:=(List.getElem?_eq_some_iff.1 hj).1;have:=hLN.len;omega
     exact ⟨_,hLN.node j c _ hj (List.getElem?_eq_getElem hjl)⟩
    have hb:w.heap.size∉bs:=fun q=>by
     obtain ⟨x,hx⟩:=hkind _ q
     have h1:=hx.blk
     unfold Blk at h1 hB
     rw [hB] at h1;simp at h1
    have hr:∀ z,(Value.slice ra i rcap).ownBlock=some z->z∉bs:=fun z hz' q=>by
     obtain ⟨x,hx⟩:=hkind _ q
     exact zBf hrow hx.blk (by decide) hz'
    refine ⟨Nat.le_refl _,hB.mod q5 hb,by rw [hbl];exact zAn hrow q5 (fun z _ _ e q=>hr z e q),q1,fun c hc z hz'=>?_,q2,fun z hz'=>Nat.le_trans hz (q3 z hz'),hM.trans' q5 (fun z hz' q=>by have:=hbs z q;omega)⟩
    rcases hz' with e | e | e
    ·rw [e];exact hbs c hc
    ·rcases (q4 c hc).1 with q | q
     ·exact hnew c hc z (.inr (.inl (by rw [<-q];exact e)))
     ·exact Nat.le_trans hz (q z e)
    ·rcases (q4 c hc).2 with q | q
     ·exact hnew c hc z (.inr (.inr (by rw [<-q];exact e)))
     ·exact Nat.le_trans hz (q z e)
   have zb:=hB.lt
   clear hB hrow hLN hnew hM hNL hep0 hnl hMo
   go_wp2_with fail
   refine HBE.out.mono ?_
   rintro e w7 ⟨v7,nv7,lv7,rfl,q1,q2,q3,q4,q5⟩
   obtain ⟨va7,vc7,hva7⟩:=q2.slice
   subst hva7
   have HF7:=Hmq (HF.out w7 _ nv7 lv7 q1 q2 q3 q4 q5)
   clear q1 q2 q3 q4 q5 HBE HF
   go_wp2_with fail
   go_ret2
   exact ⟨_,_,_,_,_,_,rfl,HF7.out⟩
open Classical in
noncomputable def ownA(w:World)(y:HLay)(lv:Value)(b:Nat)(rv:Value)(bs:List Nat)(nv lf:Nat->Value)(x:Nat):Tag:=
 if w.heap.size<=x/\lv.ownBlock=some x then .lrow else if w.heap.size<=x/\(x=b\/rv.ownBlock=some x) then .line b else if h:w.heap.size<=x/\∃ c∈bs,zAs c (nv c) (lf c) x then .node (Classical.choose h.2) else y.own x
theorem zXt(w:World)(y:HLay)(lv:Value)(b:Nat)(rv:Value)(bs:List Nat)(nv lf:Nat->Value){x:Nat}(h:x<w.heap.size):ownA w y lv b rv bs nv lf x=y.own x:=by
 unfold ownA
 rw [if_neg (fun e=>by omega),if_neg (fun e=>by omega),dif_neg (fun e=>by omega)]
theorem zAe.addL{w w':World}{n c g:Nat}{y:HLay}{s:zAa}(h:zAe w n c g y s){lv rv:Value}{b:Nat}{bs:List Nat}{nv lf:Nat->Value}{l:zCs}
  (hm:Mod (fun z=>z=g\/y.lv.ownBlock=some z) w w') (hB:Blk w' g [lv,.map (some y.dr),y.wv,.int .i64 s.net.lost,.map y.mr,.map y.q.m,y.tv] 90) (hr:w'.ownsRow n 120 1 lv (y.lbs.length+1) ((y.lbs++[b]).map ptrV)) (h1:zCf w y.lv lv)
  (hb:w.heap.size<=b) (hL:Blk w' b [rv,.int .i64 l.heard] 122) (hrow:w'.ownsRow n 100 1 rv bs.length (bs.map ptrV)) (hrv:∀ z,rv.ownBlock=some z->w.heap.size<=z) (hN:zEp w' (y.lo n) bs nv lf l.nodes) (hnew:∀ d∈bs,∀ z,zAs d (nv d) (lf d) z->w.heap.size<=z) :
  ∃ y',zAe w' n c g y' { s with lines:=s.lines++[l] }/\zFi w y w' y'/\y'.lo n=y.lo n/\(∀ z,w.heap.size<=z->lv.ownBlock≠some z->z≠b->rv.ownBlock≠some z->(∀ d∈bs,¬ zAs d (nv d) (lf d) z)->y'.own z=.no):=by
 have own:=h.own
 have htag:∀ z,(z=g\/y.lv.ownBlock=some z)->y.own z=.main\/y.own z=.lrow:=fun z e=>by
  rcases e with e | e
  ·rw [e];exact .inl own.main
  ·exact .inr (own.lrow z e)
 have hq:Qm w (y.lo n) (fun z=>z=g\/y.lv.ownBlock=some z):=fun z hz e=>by
  rintro (e1 | ⟨⟨cur,fr,e1⟩,_⟩)
  ·have h8:z<n:=e1
   have:=(own.lt z (by rcases htag z e with q | q <;> rw [q] <;> simp)).1
   omega
  ·rcases e with e | e
   ·subst e
    have:=h.blk
    unfold Blk at this
    rw [this] at e1;simp at e1
   ·obtain ⟨_,_,cur2,h2⟩:=zAi h.lrow e
    rw [h2] at e1;simp at e1
 have ht:zKo w w' n y (fun t=>t=.main\/t=.lrow):=⟨⟨_,hm,hq,fun z hz e=>⟨htag z e,by rcases htag z e with q | q <;> rw [q] <;> simp⟩⟩⟩
 have hnw:∀ z,w.heap.size<=z->y.own z=.no:=fun z hz=>Classical.byContradiction fun e=>by have:=(own.lt z e).2;omega
 have hbn:b∉y.lbs:=fun q=>by have:=(own.lt b (by rw [(own.line b q).1];simp)).2;omega
 have hbsn:∀ d∈bs,w.heap.size<=d:=fun d hd=>hnew d hd d (.inl rfl)
 have hdn:∀ b'∈y.lbs,∀ d∈y.nbs b',d∉bs:=fun b' hb' d hd q=>by
  have e:=own.node b' hb' d hd d (.inl rfl)
  have:=(own.lt d (by rw [e];simp)).2
  have:=hbsn d q
  omega
 have hkind:∀ d∈bs,∃ x,zAx w' (y.lo n) d (nv d) (lf d) x:=fun d hd=>by
  obtain ⟨j,hj⟩:=List.getElem?_of_mem hd
  have hjl:j<l.nodes.length:=by have:=(List.getElem?_eq_some_iff.1 hj).1;have:=hN.len;omega
  exact ⟨_,hN.node j d _ hj (List.getElem?_eq_getElem hjl)⟩
 have hty:∀ d∈bs,∀ z,zAs d (nv d) (lf d) z->∀ cur t,w'.heap[z]?=some (.cells cur t)->t≠100/\t≠122/\t≠120:=fun d hd z hz cur t hcur=>by
  obtain ⟨x,hx⟩:=hkind d hd
  rcases hz with q | q | q
  ·have hBl:=hx.blk
   unfold Blk at hBl
   rw [<-q,hcur] at hBl
   simp at hBl
   rw [hBl.2];decide
  ·obtain ⟨_,_,cur2,h2⟩:=zAi hx.ns q
   rw [hcur] at h2;simp at h2
   rw [h2.2];decide
  ·obtain ⟨us,_,h3,_⟩:=hx.lg
   obtain ⟨_,_,cur2,h2⟩:=zAi h3 q
   rw [hcur] at h2;simp at h2
   rw [h2.2];decide
 let y':HLay:={ y with lv:=lv,lbs:=y.lbs++[b],lnv:=fun x=>if x=b then rv else y.lnv x,nbs:=fun x=>if x=b then bs else y.nbs x,nnv:=fun x=>if x∈bs then nv x else y.nnv x,nlv:=fun x=>if x∈bs then lf x else y.nlv x,own:=ownA w y lv b rv bs nv lf }
 have eB:y'.lnv b=rv/\y'.nbs b=bs:=by constructor <;> simp [y']
 have eN:∀ {x},x≠b->y'.lnv x=y.lnv x/\y'.nbs x=y.nbs x:=fun {x} hx=>by constructor <;> simp [y',hx]
 have eD:∀ {x},x∈bs->y'.nnv x=nv x/\y'.nlv x=lf x:=fun {x} hx=>by constructor <;> simp [y',hx]
 have eO:∀ {x},x∉bs->y'.nnv x=y.nnv x/\y'.nlv x=y.nlv x:=fun {x} hx=>by constructor <;> simp [y',hx]
 have hkeep:∀ z,y.own z≠.no->y'.own z=y.own z:=fun z hz=>zXt _ _ _ _ _ _ _ _ (own.lt z hz).2
 have hlrow:∀ z,lv.ownBlock=some z->y'.own z=.lrow:=fun z e=>by
  show ownA w y lv b rv bs nv lf z=_
  by_cases hlt:z<w.heap.size
  ·rw [zXt _ _ _ _ _ _ _ _ hlt]
   rcases h1 with q | q
   ·exact own.lrow z (by rw [<-q];exact e)
   ·have:=q z e;omega
  ·unfold ownA;rw [if_pos ⟨by omega,e⟩]
 have hline:∀ z,(z=b\/rv.ownBlock=some z)->y'.own z=.line b:=fun z e=>by
  show ownA w y lv b rv bs nv lf z=_
  have hz:w.heap.size<=z:=e.elim (fun e=>by omega) (hrv z)
  unfold ownA
  rw [if_neg,if_pos ⟨hz,e⟩]
  rintro ⟨_,q⟩
  obtain ⟨_,_,cur,hcur⟩:=zAi hr q
  rcases e with e | e
  ·subst e
   unfold Blk at hL
   rw [hcur] at hL;simp at hL
  ·obtain ⟨_,_,cur2,h2⟩:=zAi hrow e
   rw [hcur] at h2;simp at h2
 have hnode:∀ d∈bs,∀ z,zAs d (nv d) (lf d) z->y'.own z=.node d:=fun d hd z hz=>by
  show ownA w y lv b rv bs nv lf z=_
  have hzn:=hnew d hd z hz
  unfold ownA
  rw [if_neg,if_neg]
  ·have hex:w.heap.size<=z/\∃ c∈bs,zAs c (nv c) (lf c) z:=⟨hzn,d,hd,hz⟩
   rw [dif_pos hex]
   have hsp:=Classical.choose_spec hex.2
   congr 1
   exact Classical.byContradiction fun e=>hN.ap _ hsp.1 d hd e z hsp.2 hz
  ·rintro ⟨_,q | q⟩
   ·subst q
    unfold Blk at hL
    exact (hty d hd z hz _ _ hL).2.1 rfl
   ·obtain ⟨_,_,cur,hcur⟩:=zAi hrow q
    exact (hty d hd z hz _ _ hcur).1 rfl
  ·rintro ⟨_,q⟩
   obtain ⟨_,_,cur,hcur⟩:=zAi hr q
   exact (hty d hd z hz _ _ hcur).2.2 rfl
 have hbs:∀ x∈y.lbs,x≠b:=fun x hx e=>hbn (by rw [<-e];exact hx)
 refine ⟨y',⟨hB,h.fNet ht (by simp),h.fDead ht (by simp),h.fTab ht (by simp),h.qn,?_,?_,fun i b' l' hb' hl=>?_,h.fTrow ht (by simp),h.tlen,fun i b' t hb' hti=>(have q:=h.fTx ht hb' hti (by simp);⟨q.blk,q.ats,q.wr⟩),?_⟩,⟨hm.mono (fun z hz e=>by rcases htag z e with q | q <;> rw [q] <;> simp),fun z hz=>zXt _ _ _ _ _ _ _ _ hz⟩,rfl,fun z hz z1 z2 z3 z4=>?_⟩
 ·show w'.ownsRow n 120 1 lv (y.lbs++[b]).length ((y.lbs++[b]).map ptrV)
  rw [List.length_append];exact hr
 ·show (y.lbs++[b]).length=(s.lines++[l]).length
  rw [List.length_append,List.length_append,h.llen];rfl
 ·have hb2:(y.lbs++[b])[i]?=some b':=hb'
  have hl2:(s.lines++[l])[i]?=some l':=hl
  have hll:=h.llen
  by_cases hlt:i<y.lbs.length
  ·rw [List.getElem?_append_left hlt] at hb2
   rw [List.getElem?_append_left (by omega)] at hl2
   have hb2m:=List.mem_of_getElem? hb2
   have hne:=hbs b' hb2m
   have q:=h.fLine ht hb2 hl2 (by simp) (fun d _=>by simp)
   refine ⟨by rw [(eN hne).1];exact q.blk,by rw [(eN hne).1,(eN hne).2];exact q.row,by rw [(eN hne).2];exact q.len,fun j d x hd hx=>?_⟩
   rw [(eN hne).2] at hd
   have hdnn:=hdn b' hb2m d (List.mem_of_getElem? hd)
   show zAx w' (y.lo n) d (y'.nnv d) (y'.nlv d) x
   rw [(eO hdnn).1,(eO hdnn).2]
   exact q.node j d x hd hx
  ·rw [List.getElem?_append_right (by omega)] at hb2 hl2
   have hi:i - y.lbs.length=0:=by
    have:=(List.getElem?_eq_some_iff.1 hb2).1
    simp at this;omega
   rw [hi] at hb2
   rw [show i - s.lines.length=0 by omega] at hl2
   simp at hb2 hl2
   subst hb2 hl2
   refine ⟨by rw [eB.1];exact hL,by rw [eB.1,eB.2];exact hrow,by rw [eB.2];exact hN.len,fun j d x hd hx=>?_⟩
   rw [eB.2] at hd
   have hdm:=List.mem_of_getElem? hd
   show zAx w' (y.lo n) d (y'.nnv d) (y'.nlv d) x
   rw [(eD hdm).1,(eD hdm).2]
   exact hN.node j d x hd hx
 ·refine ⟨by rw [hkeep _ (by rw [own.main];simp)];exact own.main,fun z hz=>hlrow z hz,fun z hz=>?_,fun z hz=>?_,?_,fun z hz=>?_,fun b' hb'=>?_,fun b' hb' d' hd' z hz=>?_,fun b' hb'=>⟨?_,fun z hz=>?_⟩,fun z hz=>?_,?_,own.tnd,?_⟩
  ·rw [hkeep z (by rw [own.trow z hz];simp)];exact own.trow z hz
  ·rw [hkeep z (by rw [own.net z hz];simp)];exact own.net z hz
  ·show y'.own y.dr=_
   rw [hkeep _ (by rw [own.dead];simp)];exact own.dead
  ·rw [hkeep z (by rw [own.tab z hz];simp)];exact own.tab z hz
  ·have hb2:b'∈y.lbs++[b]:=hb'
   rcases List.mem_append.1 hb2 with q | q
   ·have hne:=hbs b' q
    refine ⟨by rw [hkeep b' (by rw [(own.line b' q).1];simp)];exact (own.line b' q).1,fun z hz=>?_⟩
    rw [(eN hne).1] at hz
    rw [hkeep z (by rw [(own.line b' q).2 z hz];simp)];exact (own.line b' q).2 z hz
   ·simp at q;subst q
    exact ⟨hline b' (.inl rfl),fun z hz=>by rw [eB.1] at hz;exact hline z (.inr hz)⟩
  ·have hb2:b'∈y.lbs++[b]:=hb'
   rcases List.mem_append.1 hb2 with q | q
   ·have hne:=hbs b' q
    rw [(eN hne).2] at hd'
    have hdnn:=hdn b' q d' hd'
    rw [(eO hdnn).1,(eO hdnn).2] at hz
    have:=own.node b' q d' hd' z hz
    rw [hkeep z (by rw [this];simp)];exact this
   ·simp at q;subst q
    rw [eB.2] at hd'
    rw [(eD hd').1,(eD hd').2] at hz
    exact hnode d' hd' z hz
  ·rw [hkeep b' (by rw [(own.tx b' hb').1];simp)];exact (own.tx b' hb').1
  ·rw [hkeep z (by rw [(own.tx b' hb').2 z hz];simp)];exact (own.tx b' hb').2 z hz
  ·have hz':ownA w y lv b rv bs nv lf z≠.no:=hz
   by_cases e1:w.heap.size<=z/\lv.ownBlock=some z
   ·exact ⟨(zAi hr e1.2).1,(zAi hr e1.2).2.1⟩
   ·by_cases e2:w.heap.size<=z/\(z=b\/rv.ownBlock=some z)
    ·rcases e2.2 with e | e
     ·subst e
      have hlow:=h.low
      have:=h.blk.lt
      exact ⟨by omega,hL.lt⟩
     ·exact ⟨(zAi hrow e).1,(zAi hrow e).2.1⟩
    ·by_cases e3:w.heap.size<=z/\∃ c∈bs,zAs c (nv c) (lf c) z
     ·obtain ⟨_,d,hd,hzd⟩:=e3
      obtain ⟨x,hx⟩:=hkind d hd
      have:=hx.lt hzd
      exact ⟨this.1,this.2.1⟩
     ·have hz3:y.own z≠.no:=by
       unfold ownA at hz'
       rw [if_neg e1,if_neg e2,dif_neg e3] at hz';exact hz'
      have:=own.lt z hz3
      exact ⟨this.1,Nat.lt_of_lt_of_le this.2 hm.size⟩
  ·show (y.lbs++[b]).Nodup
   rw [List.nodup_append]
   exact ⟨own.lnd,by simp,fun a ha c hc e=>by simp at hc;subst hc;subst e;exact hbn ha⟩
  ·show ((y.lbs++[b]).flatMap y'.nbs).Nodup
   have e1:y.lbs.flatMap y'.nbs=y.lbs.flatMap y.nbs:=by
    have:∀ ls:List Nat,(∀ x∈ls,x≠b)->ls.flatMap y'.nbs=ls.flatMap y.nbs:=by
     intro ls
     induction ls with
     | nil=>intro _;rfl
     | cons a ls ih=>intro hx;rw [List.flatMap_cons,List.flatMap_cons,ih (fun x hx'=>hx x (by simp [hx'])),(eN (hx a (by simp))).2]
    exact this y.lbs hbs
   rw [List.flatMap_append,e1]
   simp only [List.flatMap_cons,List.flatMap_nil,List.append_nil]
   rw [eB.2,List.nodup_append]
   refine ⟨own.nnd,hN.nd,fun a ha c hc e=>?_⟩
   subst e
   obtain ⟨b',hb',hd⟩:=List.mem_flatMap.1 ha
   exact hdn b' hb' a hd hc
 ·show ownA w y lv b rv bs nv lf z=.no
  unfold ownA
  rw [if_neg (fun e=>z1 e.2),if_neg (fun e=>e.2.elim z2 z3),dif_neg (fun e=>by obtain ⟨_,d,hd,q⟩:=e;exact z4 d hd q)]
  exact hnw z hz
end Go.Proofs.YtogaigioeohjaaaGreatDoor
