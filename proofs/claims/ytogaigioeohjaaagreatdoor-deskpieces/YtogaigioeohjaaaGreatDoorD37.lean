import Derived.Test.YtogaigioeohjaaaGreatDoorD36
set_option linter.unusedVariables false
set_option maxRecDepth 100000
set_option maxHeartbeats 16000000
namespace Go.Proofs.YtogaigioeohjaaaGreatDoor
open Go.RowKit Go.Lib Go.Maps
def idsL(l:zCs):List Int:=l.nodes.map fun (x:zAl)=>x.id
def becM(l:zCs)(x:zAl):List MsgD:=(zEd (becN x (zDy l) (idsL l))).2
def mixL(l:zCs)(j:Nat):List zAl:=(l.nodes.take j).map (becF l)++l.nodes.drop j
def zJd(l:zCs)(j:Nat):List MsgD:=(l.nodes.take j).flatMap (becM l)
theorem yQc{l:zCs}{j:Nat}{x:zAl}(h:l.nodes[j]?=some x):(mixL l j)[j]?=some x:=by
 have hj:=(List.getElem?_eq_some_iff.1 h).1
 unfold mixL
 rw [List.getElem?_append_right (by simp;omega)]
 simp only [List.length_map,List.length_take,List.getElem?_drop]
 rw [show j+(j - min j l.nodes.length)=j by omega];exact h
theorem yQb{l:zCs}{j:Nat}{x:zAl}(h:l.nodes[j]?=some x):(mixL l j).set j (becF l x)=mixL l (j+1):=by
 have hj:=(List.getElem?_eq_some_iff.1 h).1
 unfold mixL
 rw [zBt h,List.map_append,zCl h]
 rw [List.set_append_right _ _ (by simp;omega)]
 have e:j - ((l.nodes.take j).map (becF l)).length=0:=by simp;omega
 rw [e]
 simp
theorem yQd(l:zCs):mixL l l.nodes.length=(zBy l).1.nodes:=by
 unfold mixL
 rw [List.take_length,List.drop_length,List.append_nil];rfl
theorem zUn{l:zCs}{j:Nat}{x:zAl}(h:l.nodes[j]?=some x):zJd l (j+1)=zJd l j++becM l x:=by unfold zJd;rw [zBt h,List.flatMap_append];simp
theorem zZf(l:zCs):zJd l l.nodes.length=(zBy l).2:=by unfold zJd;rw [List.take_length];rfl
theorem yRv(l:zCs)(x:zAl):(becM l x).length<=1:=zNn _
theorem zZe(l:zCs):∀ j,(zJd l j).length<=j:=by
 intro j
 induction j with
 | zero=>simp [zJd]
 | succ j ih=>
  by_cases hj:j<l.nodes.length
  ·rw [zUn (List.getElem?_eq_getElem hj),List.length_append]
   have:=yRv l (l.nodes[j])
   omega
  ·have e:l.nodes.take (j+1)=l.nodes.take j:=by rw [List.take_of_length_le (by omega),List.take_of_length_le (by omega)]
   unfold zJd at ih ⊢
   rw [e];omega
theorem zHt.modG{G:Nat->Prop}{w w':World}{v:Value}{ns:List Int}(h:zHt w v ns)(hm:Mod G w w')(hG:∀ k,v.ownBlock=some k->¬ G k):zHt w' v ns:=by
 obtain ⟨a,cap,h1,h2,h3,h4⟩:=h
 refine ⟨a,cap,h1,h2,h3,?_⟩
 rcases h4 with h4 | ⟨b,off,h5,h6⟩
 ·exact .inl h4
 ·exact .inr ⟨b,off,h5,fun j x hx=>hm.cell (h6 j x hx) (hG b (by rw [h1,h5];rfl))⟩
theorem zEp.mod{G:Nat->Prop}{w w':World}{L:Lo}{bs:List Nat}{nv lv:Nat->Value}{ns:List zAl}(h:zEp w L bs nv lv ns)(hm:Mod G w w')(hq:Qm w L G)(hG:∀ c∈bs,∀ z,zAs c (nv c) (lv c) z->¬ G z):zEp w' L bs nv lv ns:=
 ⟨h.len,h.nd,fun j c s hc hs=>zAx.mod (h.node j c s hc hs) hm hq (hG c (List.mem_of_getElem? hc)),h.ap⟩
theorem zEp.row{w:World}{L:Lo}{bs:List Nat}{nv lv:Nat->Value}{ns:List zAl}(h:zEp w L bs nv lv ns){v:Value}{ms:List MsgD}(hv:RowM w L v ms){c:Nat}(hc:c∈bs){z:Nat}(hz:zAs c (nv c) (lv c) z):v.ownBlock≠some z:=fun e=>by
 obtain ⟨_,cur,hcur⟩:=hv.block e
 obtain ⟨j,hj⟩:=List.getElem?_of_mem hc
 have hjl:j<ns.length:=by have:=(List.getElem?_eq_some_iff.1 hj).1;have:=h.len;omega
 have hN:=h.node j c _ hj (List.getElem?_eq_getElem hjl)
 rcases hz with q | q | q
 ·have hB:=hN.blk
  unfold Blk at hB
  rw [<-q,hcur] at hB;simp at hB
 ·obtain ⟨_,_,cur2,h2⟩:=zAi hN.ns q
  rw [hcur] at h2;simp at h2
 ·obtain ⟨us,_,h3,_⟩:=hN.lg
  obtain ⟨_,_,cur2,h2⟩:=zAi h3 q
  rw [hcur] at h2;simp at h2
theorem zWj(n:Nat)(L:Lo)(b:Nat)(bs:List Nat)(nv lv:Nat->Value)(l:zCs)(rv:Value)(w:World)(hLn:L.n=n)(hB:Blk w b [rv,.int .i64 l.heard] 122)(hr:w.ownsRow n 100 1 rv bs.length (bs.map ptrV))(hN:zEp w L bs nv lv l.nodes)(hne:0<l.nodes.length)(h4:l.nodes.length<=4)
  (hE:0<=zDy l/\zDy l<=100) (hep:∀ x∈l.nodes,x.epoch<zDy l) (hid:(idsL l).Nodup) (hlow:n<=w.heap.size) :
  Calls Tryz.prog 88 #[.pointer (some ⟨b,0,none⟩)] w fun e w'=>∃ v nv' lv',e=.returned v/\zEp w' L bs nv' lv' (zBy l).1.nodes/\RowM w' L v (zBy l).2/\zCr w v/\(∀ c∈bs,zCf w (nv c) (nv' c)/\zCf w (lv c) (lv' c))/\Mod (fun z=>z∈bs) w w':=by
 obtain ⟨j0,hj,jz0,jz1,jz2⟩:=info_parts Tryz.infoIQ
 have hlen:=hN.len
 obtain ⟨d0,hd0⟩:∃ d,bs[0]?=some d:=⟨_,List.getElem?_eq_getElem (by omega)⟩
 obtain ⟨x0,hx0⟩:∃ x,l.nodes[0]?=some x:=⟨_,List.getElem?_eq_getElem hne⟩
 have hN0:=hN.node 0 d0 x0 hd0 hx0
 have hEp:zDy l=x0.epoch+1:=by unfold zDy;rw [List.getD_eq_getElem?_getD,hx0];rfl
 have b0:=hB.cell 0 rfl
 obtain ⟨ng,ncap,hnv,cn⟩:=zIy hr hd0
 rw [hnv,hlen] at b0
 have HEP:=Hmq (yJg _ _ _ _ _ _ hN0)
 have hint:zBc (zDy l):=by unfold zBc;omega
 obtain ⟨w1,hw1⟩:∃ x,x=w.alloc (.cells #[.int .i64 (x0.epoch+1),.slice none 0 0] 177):=⟨_,rfl⟩
 have hm1:Mod zAb w w1:=by rw [hw1];exact (Mod.refl _ w).alloc _
 have hB1:Blk w1 w.heap.size [.int .i64 (x0.epoch+1),.slice none 0 0] 177:=by rw [hw1];exact Blk.new w _ _
 have zb:=hB.lt
 have hrI:(0:Int)<(l.nodes.length:Int):=by omega
 have he1:-1<=x0.epoch/\x0.epoch<=99:=by omega
 have HN:=Hmq hN
 have HB:=Hmq hB
 have HRW:Hid (w.ownsRow n 100 1 rv bs.length (bs.map ptrV)):=hr
 have HRV:=Hmq hnv
 have b1:=hm1.cell b0 (fun e=>e)
 have zb1:=Nat.lt_of_lt_of_le zb hm1.size
 have HM1:=Hmq hm1
 have HB1:=Hmq hB1
 have HEQ:=Hmq hEp
 have HID0:Hid (idsL l=idsL l):=rfl
 clear hB hr hN hN0 hnv hx0 hd0 hm1 hB1 hEp
 go_enter Tryz.func88,Tryz.ntmps88
 go_upto_region 2 with (first
  | (go_at_call 148;refine HEP.out.mono ?_;rintro e w2 ⟨rfl,rfl⟩)
  | fail)
 rw [<-hw1]
 clear hw1 b0 zb HEP
 go_wp2_with fail
 go_loopw [25] (fun i0 wr=>∃ (i:Nat) (cv:Value),i<=l.nodes.length/\i0=.int .i64 i/\Blk wr w2.heap.size [.int .i64 (x0.epoch+1),cv] 177/\wr.ownsRow w2.heap.size 3 1 cv ((idsL l).take i).length (((idsL l).take i).map (Value.int .i64))/\Mod zAb w2 wr) (fun i0 _=>l.nodes.length - (intOf i0).toNat)
 case atStart=>exact ⟨0,.slice none 0 0,Nat.zero_le _,rfl,HB1.out,World.ownsRow_nil _ _ _ _,HM1.out⟩
 case round=>
  obtain ⟨i,cv,hil,rfl,hBr,hrow,hM⟩:=hrel
  obtain ⟨wo,hwo⟩:∃ x,x=wr:=⟨_,rfl⟩
  subst hwo
  obtain ⟨ca,ccap,hcv⟩:=zAg hrow
  subst hcv
  have htl:((idsL l).take i).length=i:=by unfold idsL;rw [List.length_take,List.length_map];omega
  rw [htl] at hBr hrow
  by_cases hlt:i<l.nodes.length
  ·obtain ⟨d,hd⟩:∃ d,bs[i]?=some d:=⟨_,List.getElem?_eq_getElem (by omega)⟩
   obtain ⟨x,hx⟩:∃ x,l.nodes[i]?=some x:=⟨_,List.getElem?_eq_getElem hlt⟩
   have hNi:=HN.out.node i d x hd hx
   obtain ⟨ng',ncap',hv',cl'⟩:=zIy HRW.out hd
   have hng:ng'=ng:=by
    rw [HRV.out] at hv'
    simp only [Value.slice.injEq,Option.some.injEq,Addr.mk.injEq] at hv'
    exact hv'.1.1.symm
   subst hng
   have cd:=hM.cell cl' (fun e=>e)
   have hidn:(idsL l).take (i+1)=(idsL l).take i++[x.id]:=zBt (by unfold idsL;rw [List.getElem?_map,hx];rfl)
   have hMd:Mod zAb w2 wo.drew:=hM.drewN 1
   have HNi:=Hmq (hNi.quiet hMd)
   have HRi:Hid (wo.drew.ownsRow w2.heap.size 3 1 (.slice ca i ccap) i (((idsL l).take i).map (Value.int .i64))):=zAn hrow ((Mod.refl zAb wo).drewN 1) (fun _ _ _ _ e=>e)
   have q1:=hBr.cell 1 rfl
   have f1:=hBr.frozen 1
   have zc:=hBr.lt
   have hnc:=zBf hrow hBr (by decide)
   have hzo:=hM.size
   have hiI:(i:Int)<(l.nodes.length:Int):=by omega
   have hi0:(0:Int)<=(i:Int):=by omega
   have hk63:i+1<=maxLen:=by unfold maxLen;omega
   have hk47:(i+1)*8<=140737488355328:=by omega
   have HBr:=Hmq hBr
   have HMd:=Hmq hMd
   have HIN:=Hmq hidn
   have HNC:=Hmq hnc
   have HTL:=Hmq htl
   have hlx:(((idsL l).take i).map (Value.int .i64)).length=i:=by rw [List.length_map,htl]
   clear hNi hv' cl' hM hMd hrow hBr hidn hd hx hnc htl
   go_upto_region 5 with fail
   go_region_law
    ((first
     | (go_simp;go_at_call 128;(refine (yEo _ _ _ _ _ _ HNi.out).mono ?_;rintro e w5 ⟨rfl,rfl⟩))
     | (refine step_append_lies _ (by rfl) _ _ _ (by rfl) w2.heap.size 3 j0 _ 1 8 Tryz.underlying94 hj jz0 jz1 jz2 rfl (by decide) _ _ _ (by rfl) (HRi.out.alloc _) ⟨wo.heap.size,0,none⟩ 1 1 [.int .i64 x.id] (by rfl) (by rfl) (World.news_of_block (heap_alloc_new wo.drew _)) (by simp [Value.oneCell']) (by omega) hk63 hk47 (by simp;omega) _ rfl ?_;intro g6 cap6 w6 hown6 hgrow hat hlt6;have hm56:Mod (fun k=>(Value.slice ca i ccap).ownBlock=some k) wo.drew w6:=((Mod.refl _ wo.drew).alloc _).grown hgrow (fun x hx _=>hx);have d6:=hm56.cell q1 HNC.out;have e6:=(hm56.frozen (p:=⟨w2.heap.size,1,none⟩) zc HNC.out).trans f1)
     | fail))
   all_goals
    have hB6:Blk w6 w2.heap.size [.int .i64 (x0.epoch+1),.slice ca i ccap] 177:=(HBr.out.mod ((Mod.refl zAb wo).drewN 1) (fun e=>e)).mod hm56 HNC.out
    have hms:Mod (zAd w2.heap.size) w6 (w6.setCell ⟨w2.heap.size,1,none⟩ (.slice (some ⟨g6,0,none⟩) (i+1) cap6)):=Mod.setBlk _ 1 _
    have hn6:=zBf hown6 hB6 (by decide)
    have HF:Hid (Blk (w6.setCell ⟨w2.heap.size,1,none⟩ (.slice (some ⟨g6,0,none⟩) (i+1) cap6)) w2.heap.size [.int .i64 (x0.epoch+1),.slice (some ⟨g6,0,none⟩) (i+1) cap6] 177/\(w6.setCell ⟨w2.heap.size,1,none⟩ (.slice (some ⟨g6,0,none⟩) (i+1) cap6)).ownsRow w2.heap.size 3 1 (.slice (some ⟨g6,0,none⟩) (i+1) cap6) ((idsL l).take (i+1)).length (((idsL l).take (i+1)).map (Value.int .i64))/\Mod zAb w2 (w6.setCell ⟨w2.heap.size,1,none⟩ (.slice (some ⟨g6,0,none⟩) (i+1) cap6))):=by
     refine ⟨hB6.set 1 _,?_,?_⟩
     ·have h7:=zAn hown6 hms (fun k _ _ e q=>hn6 (by rw [e];exact congrArg some q))
      rw [HIN.out,List.length_append,List.map_append,HTL.out]
      exact h7
     ·have h6:Mod zAb w2 w6:=HMd.out.trans' hm56 (fun k hk e=>by have:=(zAi HRi.out e).1;omega)
      exact h6.trans' hms (fun k hk e=>by simp only [zAd] at e;omega)
    clear hB6 hms hn6 hown6 hgrow hat hlt6 hm56
    go_wp2_with fail
    go_roundw
    case rel=>exact ⟨i+1,_,by omega,by go_num,HF.out.1,HF.out.2.1,HF.out.2.2⟩
    case measure=>simp [intOf];omega
  ·obtain rfl:i=l.nodes.length:=by omega
   have hids:(idsL l).take l.nodes.length=idsL l:=List.take_of_length_le (by unfold idsL;simp)
   rw [hids] at hrow
   have hil2:(idsL l).length=l.nodes.length:=by unfold idsL;simp
   have HBr:=Hmq hBr
   have HIV:Hid (zHt wo (.slice ca l.nodes.length ccap) (idsL l)):=by
    have:wo.ownsRow w2.heap.size 3 1 (.slice ca l.nodes.length ccap) (idsL l).length ((idsL l).map (Value.int .i64)):=by rw [hil2];exact hrow
    exact zHt.of_own this
   have HCB:Hid (∀ z,(Value.slice ca l.nodes.length ccap).ownBlock=some z->w2.heap.size<=z):=fun z hz=>(zAi hrow hz).1
   have HMr:=Hmq hM
   have HIL:=Hmq hil2
   have bo:=hM.cell (HB.out.cell 0 rfl) (fun e=>e)
   rw [HRV.out,hlen] at bo
   clear hBr hrow hM hids htl hil2
   go_wp2_with fail
   go_loopw [6,42] (fun tv j1 wr=>∃ (j:Nat) (nvr lvr:Nat->Value),j<=l.nodes.length/\j1=.int .i64 j/\zEp wr L bs nvr lvr (mixL l j)/\RowM wr L tv (zJd l j)/\zCr wo tv/\(∀ c∈bs,zCf w2 (nv c) (nvr c)/\zCf w2 (lv c) (lvr c))/\Mod (fun z=>z∈bs) wo wr) (fun _ j1 _=>l.nodes.length - (intOf j1).toNat)
   case atStart=>exact ⟨0,nv,lv,Nat.zero_le _,rfl,HN.out.quiet HMr.out,RowM.nil _ _,fun k hk=>by simp [Value.ownBlock] at hk,fun c _=>⟨zCf.refl _ _,zCf.refl _ _⟩,Mod.refl _ _⟩
   case round=>
    obtain ⟨j,nvr,lvr,hjl,rfl,hLN,hRM,hfr,hmv,hMM⟩:=hrel
    obtain ⟨ta,tcap,htv⟩:=hRM.slice
    subst htv
    have htlen:=zZe l j
    by_cases hjlt:j<l.nodes.length
    ·obtain ⟨d,hd⟩:∃ d,bs[j]?=some d:=⟨_,List.getElem?_eq_getElem (by omega)⟩
     obtain ⟨x,hx⟩:∃ x,l.nodes[j]?=some x:=⟨_,List.getElem?_eq_getElem hjlt⟩
     have hdm:=List.mem_of_getElem? hd
     have hNj:=hLN.node j d x hd (yQc hx)
     obtain ⟨ng',ncap',hv',cl'⟩:=zIy HRW.out hd
     have hng:ng'=ng:=by
      rw [HRV.out] at hv'
      simp only [Value.slice.injEq,Option.some.injEq,Addr.mk.injEq] at hv'
      exact hv'.1.1.symm
     subst hng
     have hngb:ng'∉bs:=fun q=>by
      obtain ⟨i,hi⟩:=List.getElem?_of_mem q
      have hi':i<l.nodes.length:=by have:=(List.getElem?_eq_some_iff.1 hi).1;omega
      have hBn:=(HN.out.node i ng' _ hi (List.getElem?_eq_getElem hi')).blk
      exact zBf HRW.out hBn (by decide) (by rw [hv'];rfl)
     have cd:=hMM.cell (HMr.out.cell cl' (fun e=>e)) hngb
     have hbsl:∀ c∈bs,c<w2.heap.size:=fun c hc=>by
      obtain ⟨i,hi⟩:=List.getElem?_of_mem hc
      have hi':i<l.nodes.length:=by have:=(List.getElem?_eq_some_iff.1 hi).1;omega
      exact (HN.out.node i c _ hi (List.getElem?_eq_getElem hi')).blk.lt
     have hcb:w2.heap.size∉bs:=fun q=>by have:=hbsl _ q;omega
     have hBw:=HBr.out.mod hMM hcb
     have p0:=hBw.cell 0 rfl
     have p1:=hBw.cell 1 rfl
     have hIV:=HIV.out.modG hMM (fun k hk q=>by have:=HCB.out k hk;have:=hbsl k q;omega)
     have hHB:=yRp L d (nvr d) (lvr d) x (zDy l) (.slice ca l.nodes.length ccap) (idsL l) wr hNj (by have:=hep x (List.mem_of_getElem? hx);omega) hint hIV (fun z hz=>by
      unfold idsL at hz
      obtain ⟨q,hq,rfl⟩:=List.mem_map.1 hz
      obtain ⟨i,hi⟩:=List.getElem?_of_mem hq
      have hi':=(List.getElem?_eq_some_iff.1 hi).1
      obtain ⟨c,hc⟩:∃ c,bs[i]?=some c:=⟨_,List.getElem?_eq_getElem (by omega)⟩
      exact (HN.out.node i c q hc hi).ints.1) (by rw [HIL.out];omega) (by rw [HIL.out];omega) ((zWd _ _).2 ⟨hid,by simp⟩)
     have hMx:Hid (zJd l (j+1)=zJd l j++(zEd (becN x (zDy l) (idsL l))).2):=zUn hx
     have hMy:Hid ((mixL l j).set j (zEd (becN x (zDy l) (idsL l))).1=mixL l (j+1)):=yQb hx
     rw [HEQ.out] at hHB hMx hMy
     have HHB:=Hmq hHB
     have hjI:(j:Int)<(l.nodes.length:Int):=by omega
     have hj00:(0:Int)<=(j:Int):=by omega
     have hbl:=zNn (becN x (x0.epoch+1) (idsL l))
     have HLN:=Hmq hLN
     have HRM:=Hmq hRM
     have HFR:=Hmq hfr
     have HMV:=Hmq hmv
     have HMM:=Hmq hMM
     have HD:=Hmq hd
     have HBS:=Hmq hbsl
     have HNJ:=Hmq hNj
     clear hLN hRM hfr hmv hMM hNj hv' cl' hngb hBw hIV hHB hx hd hcb hbsl
     go_upto_region 12 with (first
      | (go_at_call 149;refine HHB.out.mono ?_;rintro e w5 ⟨r5,nv5,lv5,rfl,hN5,hR5,hf5,hnv5,hlv5,hm5⟩)
      | fail)
     have hm5':Mod (zAs d (nvr d) (lvr d)) wr w5:=hm5.mono (fun _ _ e=>.inl e)
     have hL5:=HLN.out.turn HD.out hm5' hN5 (.inr hnv5) hlv5
     rw [hMy.out] at hL5
     have hT5:RowM w5 L (.slice ta (zJd l j).length tcap) (zJd l j):=HRM.out.mod hm5' (zAx.qm HNJ.out) (fun k hk q=>HLN.out.row HRM.out hdm q hk)
     obtain ⟨v6,w6,hrun6,hR6,hg6,hat6⟩:=hT5.join hR5 (by omega) (by rw [hLn];exact Nat.le_trans hlow (Nat.le_trans HMr.out.size (Nat.le_trans HMM.out.size hm5.size))) 82
     obtain ⟨ra5,rc5,hr5⟩:=hR5.slice
     subst hr5
     rw [<-hMx.out] at hR6
     obtain ⟨va6,vc6,hv6⟩:=hR6.slice
     subst hv6
     have hm6:Mod (fun k=>(Value.slice ta (zJd l j).length tcap).ownBlock=some k) w5 w6:=(Mod.refl _ w5).grown hg6 (fun x hx _=>hx)
     have hq6:Qm w5 L (fun k=>(Value.slice ta (zJd l j).length tcap).ownBlock=some k):=by
      obtain ⟨us,_,h2,_⟩:=hT5
      exact Qm.row h2 (Nat.le_refl _) (by decide)
     have hL6:=hL5.mod hm6 hq6 (fun c hc z hz q=>hL5.row hT5 hc hz q)
     have hz5:=Nat.le_trans HMM.out.size hm5.size
     have HF:Hid (∃ nv' lv':Nat->Value,zEp w6 L bs nv' lv' (mixL l (j+1))/\RowM w6 L (.slice va6 (zJd l (j+1)).length vc6) (zJd l (j+1))/\zCr wo (.slice va6 (zJd l (j+1)).length vc6)/\(∀ c∈bs,zCf w2 (nv c) (nv' c)/\zCf w2 (lv c) (lv' c))/\Mod (fun z=>z∈bs) wo w6):=by
      refine ⟨updV nvr d nv5,updV lvr d lv5,hL6,hR6,fun k hk=>?_,fun c hc=>?_,?_⟩
      ·rcases hat6 with e | e
       ·exact HFR.out k (by rw [<-e];exact hk)
       ·rw [e] at hk
        simp only [Option.some.injEq] at hk
        omega
      ·by_cases e:c=d
       ·subst e
        rw [zFl,zFl]
        have hzz:=Nat.le_trans HMr.out.size HMM.out.size
        exact ⟨.inr fun k hk=>Nat.le_trans hzz (hnv5 k hk),(HMV.out c hc).2.trans hlv5 hzz⟩
       ·rw [zFk _ _ e,zFk _ _ e]
        exact HMV.out c hc
      ·exact (HMM.out.trans' hm5 (fun i hi e=>by simp only [zAd] at e;rw [e];exact hdm)).trans' hm6 (fun i hi e=>by have:=HFR.out i e;omega)
     clear hL5 hT5 hR6 hR5 hN5 hf5 hnv5 hlv5 hm5 hm5' hg6 hat6 hm6 hq6 hL6 hMx hMy HLN HRM HHB cd p0 p1
     go_wp2_with (first
      | (at_builtin;refine zRl rfl (zHr (s:=.tmp 52) (x:=.tmp 53) (t:=82) rfl (by go_simp) (by go_simp) hrun6) ?_)
      | fail)
     obtain ⟨nv',lv',f1,f2,f3,f4,f5⟩:=HF.out
     go_roundw
     case rel=>exact ⟨j+1,nv',lv',by omega,by go_num,f1,f2,f3,f4,f5⟩
     case measure=>simp [intOf];omega
    ·obtain rfl:j=l.nodes.length:=by omega
     rw [yQd] at hLN
     have hRM2:RowM wr L (.slice ta (zJd l l.nodes.length).length tcap) (zBy l).2:=by
      have e:=hRM
      generalize (zJd l l.nodes.length).length=q at e ⊢
      rw [zZf] at e
      exact e
     have HF:Hid (∃ v nv' lv',Ending.returned (.slice ta (zJd l l.nodes.length).length tcap)=.returned v/\zEp wr L bs nv' lv' (zBy l).1.nodes/\RowM wr L v (zBy l).2/\zCr w2 v/\(∀ c∈bs,zCf w2 (nv c) (nv' c)/\zCf w2 (lv c) (lv' c))/\Mod (fun z=>z∈bs) w2 wr):=⟨_,nvr,lvr,rfl,hLN,hRM2,fun k hk=>Nat.le_trans HMr.out.size (hfr k hk),hmv,(HMr.out.mono (fun _ _ e=>e.elim)).trans hMM⟩
     clear hLN hRM hRM2 hfr hmv hMM
     go_wp2_with fail
     go_ret
     exact HF.out
theorem zAe.lineN{w:World}{n c g:Nat}{y:HLay}{s:zAa}(h:zAe w n c g y s){k b:Nat}(hk:k<s.lines.length)(hb:y.lbs[k]?=some b):zEp w (y.lo n) (y.nbs b) y.nnv y.nlv (s.line k).nodes:=by
 have hL:=h.line k b _ hb (zBj hk)
 have hbm:=List.mem_of_getElem? hb
 refine ⟨hL.len,yAi h.own.nnd hbm,hL.node,fun d hd d' hd' hne z hz hz'=>?_⟩
 have e1:=h.own.node b hbm d hd z hz
 rw [h.own.node b hbm d' hd' z hz'] at e1
 cases e1
 exact hne rfl
theorem zEp.some{w:World}{L:Lo}{bs:List Nat}{nv lv:Nat->Value}{ns:List zAl}(h:zEp w L bs nv lv ns){js:List Nat}(hp:js.Pairwise (·<·))(hj:∀ j∈js,j<bs.length):zEp w L (js.map fun j=>bs.getD j 0) nv lv (js.map fun j=>ns.getD j ⟨0,0,[],[],0⟩):=by
 have hg:∀ j,j<bs.length->bs[j]?=Option.some (bs.getD j 0):=fun j hj=>by rw [List.getD_eq_getElem?_getD,List.getElem?_eq_getElem hj];rfl
 refine ⟨by simp,?_,fun i c s hc hs=>?_,fun c hc c' hc'=>?_⟩
 ·rw [List.Nodup,List.pairwise_map]
  refine List.Pairwise.imp_of_mem ?_ hp
  intro a b ha hb hab e
  have h1:=hg a (hj a ha)
  have h2:=hg b (hj b hb)
  rw [e] at h1
  have:=zKh h.nd h1 h2
  omega
 ·simp only [List.getElem?_map,Option.map_eq_some_iff] at hc hs
  obtain ⟨j,hj1,rfl⟩:=hc
  obtain ⟨j',hj2,rfl⟩:=hs
  rw [hj1] at hj2;cases hj2
  have hjl:=hj j (List.mem_of_getElem? hj1)
  refine h.node j _ _ (hg j hjl) ?_
  have:=h.len
  rw [List.getD_eq_getElem?_getD,List.getElem?_eq_getElem (by omega)];rfl
 ·have hin:∀ c∈js.map (fun j=>bs.getD j 0),c∈bs:=fun c hc=>by
   obtain ⟨j,hj1,rfl⟩:=List.mem_map.1 hc
   exact List.mem_of_getElem? (hg j (hj j hj1))
  exact h.ap c (hin c hc) c' (hin c' hc')
open Classical in
noncomputable def ownL(w:World)(y:HLay)(b:Nat)(rv:Value)(bs:List Nat)(nv lv:Nat->Value)(x:Nat):Tag:=
 if w.heap.size<=x/\rv.ownBlock=some x then .line b else if h:w.heap.size<=x/\∃ c∈bs,zAs c (nv c) (lv c) x then .node (Classical.choose h.2) else y.own x
theorem zQy(w:World)(y:HLay)(b:Nat)(rv:Value)(bs:List Nat)(nv lv:Nat->Value){x:Nat}(h:x<w.heap.size):ownL w y b rv bs nv lv x=y.own x:=by
 unfold ownL
 rw [if_neg (fun e=>by omega),dif_neg (fun e=>by omega)]
theorem zAe.turnL{w w':World}{n c g:Nat}{y:HLay}{s:zAa}(h:zAe w n c g y s){k b:Nat}(hk:k<s.lines.length)(hb:y.lbs[k]?=some b){rv:Value}{bs:List Nat}{nv lv:Nat->Value}{l':zCs}
  (hm:Mod (fun z=>z=b\/z∈bs) w w') (hB:Blk w' b [rv,.int .i64 l'.heard] 122) (hr:w'.ownsRow n 100 1 rv bs.length (bs.map ptrV)) (hN:zEp w' (y.lo n) bs nv lv l'.nodes) (hs:bs.Sublist (y.nbs b)) (h1:zCf w (y.lnv b) rv) (h2:∀ c∈bs,zCf w (y.nnv c) (nv c)/\zCf w (y.nlv c) (lv c)) :
  ∃ y',zAe w' n c g y' (setLine s k l')/\zFi w y w' y'/\y'.lbs=y.lbs/\y'.tbs=y.tbs/\y'.lv=y.lv/\y'.tv=y.tv/\(∀ z,w.heap.size<=z->rv.ownBlock≠some z->(∀ c∈bs,¬ zAs c (nv c) (lv c) z)->y'.own z=.no)/\y'.lo n=y.lo n:=by
 have own:=h.own
 have hbm:=List.mem_of_getElem? hb
 have hL:=h.line k b _ hb (zBj hk)
 have hLN:=h.lineN hk hb
 have hbs:∀ d∈bs,d∈y.nbs b:=fun d hd=>hs.subset hd
 have hstr:∀ d∈bs,∃ x,zQa w n y d x:=fun d hd=>by
  obtain ⟨j,hj⟩:=List.getElem?_of_mem (hbs d hd)
  have hjl:j<(s.line k).nodes.length:=by have:=(List.getElem?_eq_some_iff.1 hj).1;have:=hL.len;omega
  exact ⟨_,hL.node j d _ hj (List.getElem?_eq_getElem hjl)⟩
 have htagd:∀ d∈bs,y.own d=.node d:=fun d hd=>own.node b hbm d (hbs d hd) d (.inl rfl)
 have hq:Qm w (y.lo n) (fun z=>z=b\/z∈bs):=fun z hz e=>by
  rintro (e1 | ⟨⟨cur,fr,e1⟩,_⟩)
  ·have h8:z<n:=e1
   rcases e with e | e
   ·subst e
    have:=(own.lt z (by rw [(own.line z hbm).1];simp)).1;omega
   ·have:=(own.lt z (by rw [htagd z e];simp)).1;omega
  ·rcases e with e | e
   ·subst e
    have:=hL.blk
    unfold Blk at this
    rw [this] at e1;simp at e1
   ·obtain ⟨x,hx⟩:=hstr z e
    have:=hx.blk
    unfold Blk at this
    rw [this] at e1;simp at e1
 have ht:zKo w w' n y (fun t=>t=.line b\/∃ d∈bs,t=.node d):=⟨⟨_,hm,hq,fun z hz e=>by
  rcases e with e | e
  ·subst e;exact ⟨.inl (own.line z hbm).1,by rw [(own.line z hbm).1];simp⟩
  ·exact ⟨.inr ⟨z,e,htagd z e⟩,by rw [htagd z e];simp⟩⟩⟩
 let y':HLay:={ y with lnv:=fun x=>if x=b then rv else y.lnv x,nbs:=fun x=>if x=b then bs else y.nbs x,nnv:=fun x=>if x∈bs then nv x else y.nnv x,nlv:=fun x=>if x∈bs then lv x else y.nlv x,own:=ownL w y b rv bs nv lv }
 have eB:y'.lnv b=rv/\y'.nbs b=bs:=by constructor <;> simp [y']
 have eN:∀ {x},x≠b->y'.lnv x=y.lnv x/\y'.nbs x=y.nbs x:=fun {x} hx=>by constructor <;> simp [y',hx]
 have eD:∀ {x},x∈bs->y'.nnv x=nv x/\y'.nlv x=lv x:=fun {x} hx=>by constructor <;> simp [y',hx]
 have eO:∀ {x},x∉bs->y'.nnv x=y.nnv x/\y'.nlv x=y.nlv x:=fun {x} hx=>by constructor <;> simp [y',hx]
 have hkeep:∀ z,y.own z≠.no->y'.own z=y.own z:=fun z hz=>zQy _ _ _ _ _ _ _ (own.lt z hz).2
 have hnew:∀ z,w.heap.size<=z->y.own z=.no:=fun z hz=>Classical.byContradiction fun e=>by have:=(own.lt z e).2;omega
 -- blocks of nodes
 have hnodeN:∀ d∈bs,∃ x,zAx w' (y.lo n) d (nv d) (lv d) x:=fun d hd=>by
  obtain ⟨j,hj⟩:=List.getElem?_of_mem hd
  have hjl:j<l'.nodes.length:=by have:=(List.getElem?_eq_some_iff.1 hj).1;have:=hN.len;omega
  exact ⟨_,hN.node j d _ hj (List.getElem?_eq_getElem hjl)⟩
 have hrvn:∀ d∈bs,∀ z,zAs d (nv d) (lv d) z->rv.ownBlock≠some z:=fun d hd z hz e=>by
  obtain ⟨x,hx⟩:=hnodeN d hd
  obtain ⟨_,_,cur,hcur⟩:=zAi hr e
  rcases hz with q | q | q
  ·have hBl:=hx.blk
   unfold Blk at hBl
   rw [<-q,hcur] at hBl;simp at hBl
  ·obtain ⟨_,_,cur2,h2⟩:=zAi hx.ns q
   rw [hcur] at h2;simp at h2
  ·obtain ⟨us,_,h3,_⟩:=hx.lg
   obtain ⟨_,_,cur2,h2⟩:=zAi h3 q
   rw [hcur] at h2;simp at h2
 have hold:∀ d∈bs,∀ z,zAs d (nv d) (lv d) z->z<w.heap.size->zAs d (y.nnv d) (y.nlv d) z:=fun d hd z hz hlt=>by
  rcases hz with e | e | e
  ·exact .inl e
  ·rcases (h2 d hd).1 with q | q
   ·exact .inr (.inl (by rw [<-q];exact e))
   ·have:=q z e;omega
  ·rcases (h2 d hd).2 with q | q
   ·exact .inr (.inr (by rw [<-q];exact e))
   ·have:=q z e;omega
 have hownN:∀ d∈bs,∀ z,zAs d (nv d) (lv d) z->y'.own z=.node d:=fun d hd z hz=>by
  by_cases hlt:z<w.heap.size
  ·show ownL w y b rv bs nv lv z=_
   rw [zQy _ _ _ _ _ _ _ hlt]
   exact own.node b hbm d (hbs d hd) z (hold d hd z hz hlt)
  ·show ownL w y b rv bs nv lv z=_
   unfold ownL
   have hex:w.heap.size<=z/\∃ c∈bs,zAs c (nv c) (lv c) z:=⟨by omega,d,hd,hz⟩
   rw [if_neg (fun e=>hrvn d hd z hz e.2),dif_pos hex]
   have hsp:=Classical.choose_spec hex.2
   congr 1
   exact Classical.byContradiction fun e=>hN.ap _ hsp.1 d hd e z hsp.2 hz
 have hownL:∀ z,rv.ownBlock=some z->y'.own z=.line b:=fun z hz=>by
  by_cases hlt:z<w.heap.size
  ·show ownL w y b rv bs nv lv z=_
   rw [zQy _ _ _ _ _ _ _ hlt]
   rcases h1 with q | q
   ·exact (own.line b hbm).2 z (by rw [<-q];exact hz)
   ·have:=q z hz;omega
  ·show ownL w y b rv bs nv lv z=_
   unfold ownL
   rw [if_pos ⟨by omega,hz⟩]
 have hlines:∀ (i:Nat) l,(setLine s k l').lines[i]?=some l->(i=k/\l=l')\/(i≠k/\s.lines[i]?=some l):=fun i l hl=>by
  have hl2:(s.lines.set k l')[i]?=some l:=hl
  rw [zDn] at hl2
  by_cases e:i=k
  ·rw [if_pos ⟨e,by omega⟩] at hl2;exact .inl ⟨e,(Option.some.inj hl2).symm⟩
  ·rw [if_neg (fun q=>e q.1)] at hl2;exact .inr ⟨e,hl2⟩
 have hother:∀ b'∈y.lbs,b'≠b->∀ d∈y.nbs b',d∉bs:=fun b' hb' hne d hd q=>hne (zVf own.nnd hb' hbm hd (hbs d q))
 refine ⟨y',⟨h.fMain ht (by simp),?_,h.fDead ht (by simp),h.fTab ht (by simp),h.qn,h.fLrow ht (by simp),?_,fun i b' l hb' hl=>?_,h.fTrow ht (by simp),h.tlen,fun i b' t hb' hti=>(have q:=h.fTx ht hb' hti (by simp);⟨q.blk,q.ats,q.wr⟩),?_⟩,⟨hm.mono (fun z hz e=>?_),fun z hz=>zQy _ _ _ _ _ _ _ hz⟩,rfl,rfl,rfl,rfl,fun z hz hz1 hz2=>?_,rfl⟩
 ·exact h.fNet ht (by simp)
 ·show y.lbs.length=(s.lines.set k _).length
  rw [List.length_set];exact h.llen
 ·have hb2:y.lbs[i]?=some b':=hb'
  rcases hlines i l hl with ⟨rfl,rfl⟩ | ⟨hne,hl2⟩
  ·rw [hb] at hb2;cases hb2
   refine ⟨by rw [eB.1];exact hB,by rw [eB.1,eB.2];exact hr,by rw [eB.2];exact hN.len,fun j d x hd hx=>?_⟩
   rw [eB.2] at hd
   have hdm:=List.mem_of_getElem? hd
   show zAx w' (y.lo n) d (y'.nnv d) (y'.nlv d) x
   rw [(eD hdm).1,(eD hdm).2]
   exact hN.node j d x hd hx
  ·have hbne:b'≠b:=fun q=>hne (by subst q;exact zKh own.lnd hb2 hb)
   have hb2m:=List.mem_of_getElem? hb2
   have q:=h.fLine ht hb2 hl2 (by simpa using hbne) (fun d hd e=>by
    rcases e with e | ⟨d',hd',e⟩
    ·cases e
    ·cases e;exact hother b' hb2m hbne d hd hd')
   refine ⟨by rw [(eN hbne).1];exact q.blk,by rw [(eN hbne).1,(eN hbne).2];exact q.row,by rw [(eN hbne).2];exact q.len,fun j d x hd hx=>?_⟩
   rw [(eN hbne).2] at hd
   have hdn:=hother b' hb2m hbne d (List.mem_of_getElem? hd)
   show zAx w' (y.lo n) d (y'.nnv d) (y'.nlv d) x
   rw [(eO hdn).1,(eO hdn).2]
   exact q.node j d x hd hx
 ·refine ⟨by rw [hkeep _ (by rw [own.main];simp)];exact own.main,fun z hz=>?_,fun z hz=>?_,fun z hz=>?_,?_,fun z hz=>?_,fun b' hb'=>⟨?_,fun z hz=>?_⟩,fun b' hb' d' hd' z hz=>?_,fun b' hb'=>⟨?_,fun z hz=>?_⟩,fun z hz=>?_,own.lnd,own.tnd,?_⟩
  ·rw [hkeep z (by rw [own.lrow z hz];simp)];exact own.lrow z hz
  ·rw [hkeep z (by rw [own.trow z hz];simp)];exact own.trow z hz
  ·rw [hkeep z (by rw [own.net z hz];simp)];exact own.net z hz
  ·show y'.own y.dr=_
   rw [hkeep _ (by rw [own.dead];simp)];exact own.dead
  ·rw [hkeep z (by rw [own.tab z hz];simp)];exact own.tab z hz
  ·rw [hkeep b' (by rw [(own.line b' hb').1];simp)];exact (own.line b' hb').1
  ·by_cases e:b'=b
   ·subst e;rw [eB.1] at hz;exact hownL z hz
   ·rw [(eN e).1] at hz
    rw [hkeep z (by rw [(own.line b' hb').2 z hz];simp)];exact (own.line b' hb').2 z hz
  ·by_cases e:b'=b
   ·subst e
    rw [eB.2] at hd'
    rw [(eD hd').1,(eD hd').2] at hz
    exact hownN d' hd' z hz
   ·rw [(eN e).2] at hd'
    have hdn:=hother b' hb' e d' hd'
    rw [(eO hdn).1,(eO hdn).2] at hz
    have:=own.node b' hb' d' hd' z hz
    rw [hkeep z (by rw [this];simp)];exact this
  ·rw [hkeep b' (by rw [(own.tx b' hb').1];simp)];exact (own.tx b' hb').1
  ·rw [hkeep z (by rw [(own.tx b' hb').2 z hz];simp)];exact (own.tx b' hb').2 z hz
  ·have hz':ownL w y b rv bs nv lv z≠.no:=hz
   by_cases e1:w.heap.size<=z/\rv.ownBlock=some z
   ·exact ⟨(zAi hr e1.2).1,(zAi hr e1.2).2.1⟩
   ·by_cases e2:w.heap.size<=z/\∃ c∈bs,zAs c (nv c) (lv c) z
    ·obtain ⟨_,d,hd,hzd⟩:=e2
     obtain ⟨x,hx⟩:=hnodeN d hd
     have:=hx.lt hzd
     exact ⟨this.1,this.2.1⟩
    ·have hz3:y.own z≠.no:=by
      unfold ownL at hz'
      rw [if_neg e1,dif_neg e2] at hz';exact hz'
     have:=own.lt z hz3
     exact ⟨this.1,Nat.lt_of_lt_of_le this.2 hm.size⟩
  ·show (y.lbs.flatMap y'.nbs).Nodup
   have hsub:∀ ls:List Nat,(ls.flatMap y'.nbs).Sublist (ls.flatMap y.nbs):=by
    intro ls
    induction ls with
    | nil=>exact List.Sublist.refl _
    | cons a ls ih=>
     rw [List.flatMap_cons,List.flatMap_cons]
     refine List.Sublist.append ?_ ih
     by_cases e:a=b
     ·subst e;rw [eB.2];exact hs
     ·rw [(eN e).2];exact List.Sublist.refl _
   exact own.nnd.sublist (hsub y.lbs)
 ·rcases e with e | e
  ·subst e;rw [(own.line z hbm).1];simp
  ·rw [htagd z e];simp
 ·show ownL w y b rv bs nv lv z=.no
  unfold ownL
  rw [if_neg (fun e=>hz1 e.2),dif_neg (fun e=>by obtain ⟨_,d,hd,q⟩:=e;exact hz2 d hd q)]
  exact hnew z hz
end Go.Proofs.YtogaigioeohjaaaGreatDoor
