import Derived.Test.YtiblcbdkiecbgaaGreatDoorM17
set_option linter.unusedVariables false
set_option maxRecDepth 100000
set_option maxHeartbeats 16000000
namespace Go.Proofs.YtiblcbdkiecbgaaGreatDoor
open Go.RowKit Go.Lib Go.Maps
def idsL(l:LineS):List Int:=l.nodes.map fun (x:NodeS)=>x.id
def becM(l:LineS)(x:NodeS):List MsgD:=(tickN (becN x (nextEp l) (idsL l))).2
def mixL(l:LineS)(j:Nat):List NodeS:=(l.nodes.take j).map (becF l)++l.nodes.drop j
def toldL(l:LineS)(j:Nat):List MsgD:=(l.nodes.take j).flatMap (becM l)
theorem mixL_get{l:LineS}{j:Nat}{x:NodeS}(h:l.nodes[j]?=some x):(mixL l j)[j]?=some x:=by
 have hj:=(List.getElem?_eq_some_iff.1 h).1
 unfold mixL
 rw [List.getElem?_append_right (by simp;omega)]
 simp only [List.length_map,List.length_take,List.getElem?_drop]
 rw [show j+(j - min j l.nodes.length)=j by omega];exact h
theorem mixL_set{l:LineS}{j:Nat}{x:NodeS}(h:l.nodes[j]?=some x):(mixL l j).set j (becF l x)=mixL l (j+1):=by
 have hj:=(List.getElem?_eq_some_iff.1 h).1
 unfold mixL
 rw [take_snocQ h,List.map_append,drop_consQ h]
 rw [List.set_append_right _ _ (by simp;omega)]
 have e:j - ((l.nodes.take j).map (becF l)).length=0:=by simp;omega
 rw [e]
 simp
theorem mixL_all(l:LineS):mixL l l.nodes.length=(becomeL l).1.nodes:=by
 unfold mixL
 rw [List.take_length,List.drop_length,List.append_nil];rfl
theorem toldL_succ{l:LineS}{j:Nat}{x:NodeS}(h:l.nodes[j]?=some x):toldL l (j+1)=toldL l j++becM l x:=by unfold toldL;rw [take_snocQ h,List.flatMap_append];simp
theorem toldL_all(l:LineS):toldL l l.nodes.length=(becomeL l).2:=by unfold toldL;rw [List.take_length];rfl
theorem becM_len(l:LineS)(x:NodeS):(becM l x).length<=1:=tick_len _
theorem toldL_len(l:LineS):∀ j,(toldL l j).length<=j:=by
 intro j
 induction j with
 | zero=>simp [toldL]
 | succ j ih=>
  by_cases hj:j<l.nodes.length
  ·rw [toldL_succ (List.getElem?_eq_getElem hj),List.length_append]
   have:=becM_len l (l.nodes[j])
   omega
  ·have e:l.nodes.take (j+1)=l.nodes.take j:=by rw [List.take_of_length_le (by omega),List.take_of_length_le (by omega)]
   unfold toldL at ih ⊢
   rw [e];omega
theorem IntsV.modG{G:Nat->Prop}{w w':World}{v:Value}{ns:List Int}(h:IntsV w v ns)(hm:Mod G w w')(hG:∀ k,v.ownBlock=some k->¬ G k):IntsV w' v ns:=by
 obtain ⟨a,cap,h1,h2,h3,h4⟩:=h
 refine ⟨a,cap,h1,h2,h3,?_⟩
 rcases h4 with h4 | ⟨b,off,h5,h6⟩
 ·exact .inl h4
 ·exact .inr ⟨b,off,h5,fun j x hx=>hm.cell (h6 j x hx) (hG b (by rw [h1,h5];rfl))⟩
theorem LineN.mod{G:Nat->Prop}{w w':World}{L:Lo}{bs:List Nat}{nv lv:Nat->Value}{ns:List NodeS}(h:LineN w L bs nv lv ns)(hm:Mod G w w')(hq:Qm w L G)(hG:∀ c∈bs,∀ z,nodeMay c (nv c) (lv c) z->¬ G z):LineN w' L bs nv lv ns:=
 ⟨h.len,h.nd,fun j c s hc hs=>NodeP.mod (h.node j c s hc hs) hm hq (hG c (List.mem_of_getElem? hc)),h.ap⟩
theorem LineN.row{w:World}{L:Lo}{bs:List Nat}{nv lv:Nat->Value}{ns:List NodeS}(h:LineN w L bs nv lv ns){v:Value}{ms:List MsgD}(hv:RowM w L v ms){c:Nat}(hc:c∈bs){z:Nat}(hz:nodeMay c (nv c) (lv c) z):v.ownBlock≠some z:=fun e=>by
 obtain ⟨_,cur,hcur⟩:=hv.block e
 obtain ⟨j,hj⟩:=List.getElem?_of_mem hc
 have hjl:j<ns.length:=by have:=(List.getElem?_eq_some_iff.1 hj).1;have:=h.len;omega
 have hN:=h.node j c _ hj (List.getElem?_eq_getElem hjl)
 rcases hz with q | q | q
 ·have hB:=hN.blk
  unfold Blk at hB
  rw [<-q,hcur] at hB;simp at hB
 ·obtain ⟨_,_,cur2,h2⟩:=own_cells hN.ns q
  rw [hcur] at h2;simp at h2
 ·obtain ⟨us,_,h3,_⟩:=hN.lg
  obtain ⟨_,_,cur2,h2⟩:=own_cells h3 q
  rw [hcur] at h2;simp at h2
theorem become_any(n:Nat)(L:Lo)(b:Nat)(bs:List Nat)(nv lv:Nat->Value)(l:LineS)(rv:Value)(w:World)(hLn:L.n=n)(hB:Blk w b [rv,.int .i64 l.heard] 188)(hr:w.ownsRow n 168 1 rv bs.length (bs.map ptrV))(hN:LineN w L bs nv lv l.nodes)(hne:0<l.nodes.length)(h4:l.nodes.length<=4)
  (hE:0<=nextEp l/\nextEp l<=100) (hep:∀ x∈l.nodes,x.epoch<nextEp l) (hid:(idsL l).Nodup) (hlow:n<=w.heap.size) :
  Calls Tryz.prog 127 #[.pointer (some ⟨b,0,none⟩)] w fun e w'=>∃ v nv' lv',e=.returned v/\LineN w' L bs nv' lv' (becomeL l).1.nodes/\RowM w' L v (becomeL l).2/\freshV w v/\(∀ c∈bs,Moved w (nv c) (nv' c)/\Moved w (lv c) (lv' c))/\Mod (fun z=>z∈bs) w w':=by
 obtain ⟨j0,hj,jz0,jz1,jz2⟩:=info_parts Tryz.infoIQ
 have hlen:=hN.len
 obtain ⟨d0,hd0⟩:∃ d,bs[0]?=some d:=⟨_,List.getElem?_eq_getElem (by omega)⟩
 obtain ⟨x0,hx0⟩:∃ x,l.nodes[0]?=some x:=⟨_,List.getElem?_eq_getElem hne⟩
 have hN0:=hN.node 0 d0 x0 hd0 hx0
 have hEp:nextEp l=x0.epoch+1:=by unfold nextEp;rw [List.getD_eq_getElem?_getD,hx0];rfl
 have b0:=hB.cell 0 rfl
 obtain ⟨ng,ncap,hnv,cn⟩:=ptr_at hr hd0
 rw [hnv,hlen] at b0
 have HEP:=Hmq (cepoch_any _ _ _ _ _ _ hN0)
 have hint:int64 (nextEp l):=by unfold int64;omega
 obtain ⟨w1,hw1⟩:∃ x,x=w.alloc (.cells #[.int .i64 (x0.epoch+1),.slice none 0 0] 240):=⟨_,rfl⟩
 have hm1:Mod noBlock w w1:=by rw [hw1];exact (Mod.refl _ w).alloc _
 have hB1:Blk w1 w.heap.size [.int .i64 (x0.epoch+1),.slice none 0 0] 240:=by rw [hw1];exact Blk.new w _ _
 have zb:=hB.lt
 have hrI:(0:Int)<(l.nodes.length:Int):=by omega
 have he1:-1<=x0.epoch/\x0.epoch<=99:=by omega
 have HN:=Hmq hN
 have HB:=Hmq hB
 have HRW:Hid (w.ownsRow n 168 1 rv bs.length (bs.map ptrV)):=hr
 have HRV:=Hmq hnv
 have b1:=hm1.cell b0 (fun e=>e)
 have zb1:=Nat.lt_of_lt_of_le zb hm1.size
 have HM1:=Hmq hm1
 have HB1:=Hmq hB1
 have HEQ:=Hmq hEp
 have HID0:Hid (idsL l=idsL l):=rfl
 clear hB hr hN hN0 hnv hx0 hd0 hm1 hB1 hEp
 go_enter Tryz.func127,Tryz.ntmps127
 go_upto_region 2 with (first
  | (go_at_call 186;refine HEP.out.mono ?_;rintro e w2 ⟨rfl,rfl⟩)
  | fail)
 rw [<-hw1]
 clear hw1 b0 zb HEP
 go_wp2_with fail
 go_loopw [25] (fun i0 wr=>∃ (i:Nat) (cv:Value),i<=l.nodes.length/\i0=.int .i64 i/\Blk wr w2.heap.size [.int .i64 (x0.epoch+1),cv] 240/\wr.ownsRow w2.heap.size 3 1 cv ((idsL l).take i).length (((idsL l).take i).map (Value.int .i64))/\Mod noBlock w2 wr) (fun i0 _=>l.nodes.length - (intOf i0).toNat)
 case atStart=>exact ⟨0,.slice none 0 0,Nat.zero_le _,rfl,HB1.out,World.ownsRow_nil _ _ _ _,HM1.out⟩
 case round=>
  obtain ⟨i,cv,hil,rfl,hBr,hrow,hM⟩:=hrel
  obtain ⟨wo,hwo⟩:∃ x,x=wr:=⟨_,rfl⟩
  subst hwo
  obtain ⟨ca,ccap,hcv⟩:=own_slice hrow
  subst hcv
  have htl:((idsL l).take i).length=i:=by unfold idsL;rw [List.length_take,List.length_map];omega
  rw [htl] at hBr hrow
  by_cases hlt:i<l.nodes.length
  ·obtain ⟨d,hd⟩:∃ d,bs[i]?=some d:=⟨_,List.getElem?_eq_getElem (by omega)⟩
   obtain ⟨x,hx⟩:∃ x,l.nodes[i]?=some x:=⟨_,List.getElem?_eq_getElem hlt⟩
   have hNi:=HN.out.node i d x hd hx
   obtain ⟨ng',ncap',hv',cl'⟩:=ptr_at HRW.out hd
   have hng:ng'=ng:=by
    rw [HRV.out] at hv'
    simp only [Value.slice.injEq,Option.some.injEq,Addr.mk.injEq] at hv'
    exact hv'.1.1.symm
   subst hng
   have cd:=hM.cell cl' (fun e=>e)
   have hidn:(idsL l).take (i+1)=(idsL l).take i++[x.id]:=take_snocQ (by unfold idsL;rw [List.getElem?_map,hx];rfl)
   have hMd:Mod noBlock w2 wo.drew:=hM.drewN 1
   have HNi:=Hmq (hNi.quiet hMd)
   have HRi:Hid (wo.drew.ownsRow w2.heap.size 3 1 (.slice ca i ccap) i (((idsL l).take i).map (Value.int .i64))):=own_mod hrow ((Mod.refl noBlock wo).drewN 1) (fun _ _ _ _ e=>e)
   have q1:=hBr.cell 1 rfl
   have f1:=hBr.frozen 1
   have zc:=hBr.lt
   have hnc:=own_ne_blk hrow hBr (by decide)
   have hzo:=hM.size
   have hiI:(i:Int)<(l.nodes.length:Int):=by omega
   have hi0:(0:Int)<=(i:Int):=by omega
   have hk63:i+1<=maxLen:=by unfold maxLen;omega
   have hk47:(i+1)*8<=140737488355328:=by omega
   have HBr:=Hmq hBr
   have HMd:=Hmq hMd
   have HIN:=Hmq hidn
   have HNC:=Hmq hnc
   have HTL:=Hmq htl
   have hlx:(((idsL l).take i).map (Value.int .i64)).length=i:=by rw [List.length_map,htl]
   clear hNi hv' cl' hM hMd hrow hBr hidn hd hx hnc htl
   go_upto_region 5 with fail
   go_region_law
    ((first
     | (go_simp;go_at_call 166;(refine (cid_any _ _ _ _ _ _ HNi.out).mono ?_;rintro e w5 ⟨rfl,rfl⟩))
     | (refine step_append_lies _ (by rfl) _ _ _ (by rfl) w2.heap.size 3 j0 _ 1 8 Tryz.underlying163 hj jz0 jz1 jz2 rfl (by decide) _ _ _ (by rfl) (HRi.out.alloc _) ⟨wo.heap.size,0,none⟩ 1 1 [.int .i64 x.id] (by rfl) (by rfl) (World.news_of_block (heap_alloc_new wo.drew _)) (by simp [Value.oneCell']) (by omega) hk63 hk47 (by simp;omega) _ rfl ?_;intro g6 cap6 w6 hown6 hgrow hat hlt6;have hm56:Mod (fun k=>(Value.slice ca i ccap).ownBlock=some k) wo.drew w6:=((Mod.refl _ wo.drew).alloc _).grown hgrow (fun x hx _=>hx);have d6:=hm56.cell q1 HNC.out;have e6:=(hm56.frozen (p:=⟨w2.heap.size,1,none⟩) zc HNC.out).trans f1)
     | fail))
   all_goals
    have hB6:Blk w6 w2.heap.size [.int .i64 (x0.epoch+1),.slice ca i ccap] 240:=(HBr.out.mod ((Mod.refl noBlock wo).drewN 1) (fun e=>e)).mod hm56 HNC.out
    have hms:Mod (oneBlock w2.heap.size) w6 (w6.setCell ⟨w2.heap.size,1,none⟩ (.slice (some ⟨g6,0,none⟩) (i+1) cap6)):=Mod.setBlk _ 1 _
    have hn6:=own_ne_blk hown6 hB6 (by decide)
    have HF:Hid (Blk (w6.setCell ⟨w2.heap.size,1,none⟩ (.slice (some ⟨g6,0,none⟩) (i+1) cap6)) w2.heap.size [.int .i64 (x0.epoch+1),.slice (some ⟨g6,0,none⟩) (i+1) cap6] 240/\(w6.setCell ⟨w2.heap.size,1,none⟩ (.slice (some ⟨g6,0,none⟩) (i+1) cap6)).ownsRow w2.heap.size 3 1 (.slice (some ⟨g6,0,none⟩) (i+1) cap6) ((idsL l).take (i+1)).length (((idsL l).take (i+1)).map (Value.int .i64))/\Mod noBlock w2 (w6.setCell ⟨w2.heap.size,1,none⟩ (.slice (some ⟨g6,0,none⟩) (i+1) cap6))):=by
     refine ⟨hB6.set 1 _,?_,?_⟩
     ·have h7:=own_mod hown6 hms (fun k _ _ e q=>hn6 (by rw [e];exact congrArg some q))
      rw [HIN.out,List.length_append,List.map_append,HTL.out]
      exact h7
     ·have h6:Mod noBlock w2 w6:=HMd.out.trans' hm56 (fun k hk e=>by have:=(own_cells HRi.out e).1;omega)
      exact h6.trans' hms (fun k hk e=>by simp only [oneBlock] at e;omega)
    clear hB6 hms hn6 hown6 hgrow hat hlt6 hm56
    go_wp2_with fail
    go_roundw
    case rel=>exact ⟨i+1,_,by omega,by go_num,HF.out.1,HF.out.2.1,HF.out.2.2⟩
    case measure=>simp [intOf];omega
  ·obtain rfl:i=l.nodes.length:=by omega
   have hids:(idsL l).take l.nodes.length=idsL l:=List.take_of_length_le (by unfold idsL;simp)
   rw [hids] at hrow
   have hil2:(idsL l).length=l.nodes.length:=by unfold idsL;simp
   have HBr:=Hmq hBr
   have HIV:Hid (IntsV wo (.slice ca l.nodes.length ccap) (idsL l)):=by
    have:wo.ownsRow w2.heap.size 3 1 (.slice ca l.nodes.length ccap) (idsL l).length ((idsL l).map (Value.int .i64)):=by rw [hil2];exact hrow
    exact IntsV.of_own this
   have HCB:Hid (∀ z,(Value.slice ca l.nodes.length ccap).ownBlock=some z->w2.heap.size<=z):=fun z hz=>(own_cells hrow hz).1
   have HMr:=Hmq hM
   have HIL:=Hmq hil2
   have bo:=hM.cell (HB.out.cell 0 rfl) (fun e=>e)
   rw [HRV.out,hlen] at bo
   clear hBr hrow hM hids htl hil2
   go_wp2_with fail
   go_loopw [6,42] (fun tv j1 wr=>∃ (j:Nat) (nvr lvr:Nat->Value),j<=l.nodes.length/\j1=.int .i64 j/\LineN wr L bs nvr lvr (mixL l j)/\RowM wr L tv (toldL l j)/\freshV wo tv/\(∀ c∈bs,Moved w2 (nv c) (nvr c)/\Moved w2 (lv c) (lvr c))/\Mod (fun z=>z∈bs) wo wr) (fun _ j1 _=>l.nodes.length - (intOf j1).toNat)
   case atStart=>exact ⟨0,nv,lv,Nat.zero_le _,rfl,HN.out.quiet HMr.out,RowM.nil _ _,fun k hk=>by simp [Value.ownBlock] at hk,fun c _=>⟨Moved.refl _ _,Moved.refl _ _⟩,Mod.refl _ _⟩
   case round=>
    obtain ⟨j,nvr,lvr,hjl,rfl,hLN,hRM,hfr,hmv,hMM⟩:=hrel
    obtain ⟨ta,tcap,htv⟩:=hRM.slice
    subst htv
    have htlen:=toldL_len l j
    by_cases hjlt:j<l.nodes.length
    ·obtain ⟨d,hd⟩:∃ d,bs[j]?=some d:=⟨_,List.getElem?_eq_getElem (by omega)⟩
     obtain ⟨x,hx⟩:∃ x,l.nodes[j]?=some x:=⟨_,List.getElem?_eq_getElem hjlt⟩
     have hdm:=List.mem_of_getElem? hd
     have hNj:=hLN.node j d x hd (mixL_get hx)
     obtain ⟨ng',ncap',hv',cl'⟩:=ptr_at HRW.out hd
     have hng:ng'=ng:=by
      rw [HRV.out] at hv'
      simp only [Value.slice.injEq,Option.some.injEq,Addr.mk.injEq] at hv'
      exact hv'.1.1.symm
     subst hng
     have hngb:ng'∉bs:=fun q=>by
      obtain ⟨i,hi⟩:=List.getElem?_of_mem q
      have hi':i<l.nodes.length:=by have:=(List.getElem?_eq_some_iff.1 hi).1;omega
      have hBn:=(HN.out.node i ng' _ hi (List.getElem?_eq_getElem hi')).blk
      exact own_ne_blk HRW.out hBn (by decide) (by rw [hv'];rfl)
     have cd:=hMM.cell (HMr.out.cell cl' (fun e=>e)) hngb
     have hbsl:∀ c∈bs,c<w2.heap.size:=fun c hc=>by
      obtain ⟨i,hi⟩:=List.getElem?_of_mem hc
      have hi':i<l.nodes.length:=by have:=(List.getElem?_eq_some_iff.1 hi).1;omega
      exact (HN.out.node i c _ hi (List.getElem?_eq_getElem hi')).blk.lt
     have hcb:w2.heap.size∉bs:=fun q=>by have:=hbsl _ q;omega
     have hBw:=HBr.out.mod hMM hcb
     have p0:=hBw.cell 0 rfl
     have p1:=hBw.cell 1 rfl
     have hIV:=HIV.out.modG hMM (fun k hk q=>by have:=HCB.out k hk;have:=hbsl k q;omega)
     have hHB:=cbec_yes L d (nvr d) (lvr d) x (nextEp l) (.slice ca l.nodes.length ccap) (idsL l) wr hNj (by have:=hep x (List.mem_of_getElem? hx);omega) hint hIV (fun z hz=>by
      unfold idsL at hz
      obtain ⟨q,hq,rfl⟩:=List.mem_map.1 hz
      obtain ⟨i,hi⟩:=List.getElem?_of_mem hq
      have hi':=(List.getElem?_eq_some_iff.1 hi).1
      obtain ⟨c,hc⟩:∃ c,bs[i]?=some c:=⟨_,List.getElem?_eq_getElem (by omega)⟩
      exact (HN.out.node i c q hc hi).ints.1) (by rw [HIL.out];omega) (by rw [HIL.out];omega) ((dupB_false _ _).2 ⟨hid,by simp⟩)
     have hMx:Hid (toldL l (j+1)=toldL l j++(tickN (becN x (nextEp l) (idsL l))).2):=toldL_succ hx
     have hMy:Hid ((mixL l j).set j (tickN (becN x (nextEp l) (idsL l))).1=mixL l (j+1)):=mixL_set hx
     rw [HEQ.out] at hHB hMx hMy
     have HHB:=Hmq hHB
     have hjI:(j:Int)<(l.nodes.length:Int):=by omega
     have hj00:(0:Int)<=(j:Int):=by omega
     have hbl:=tick_len (becN x (x0.epoch+1) (idsL l))
     have HLN:=Hmq hLN
     have HRM:=Hmq hRM
     have HFR:=Hmq hfr
     have HMV:=Hmq hmv
     have HMM:=Hmq hMM
     have HD:=Hmq hd
     have HBS:=Hmq hbsl
     have HNJ:=Hmq hNj
     clear hLN hRM hfr hmv hMM hNj hv' cl' hngb hBw hIV hHB hx hd hcb hbsl
     go_upto_region 12 with (first
      | (go_at_call 187;refine HHB.out.mono ?_;rintro e w5 ⟨r5,nv5,lv5,rfl,hN5,hR5,hf5,hnv5,hlv5,hm5⟩)
      | fail)
     have hm5':Mod (nodeMay d (nvr d) (lvr d)) wr w5:=hm5.mono (fun _ _ e=>.inl e)
     have hL5:=HLN.out.turn HD.out hm5' hN5 (.inr hnv5) hlv5
     rw [hMy.out] at hL5
     have hT5:RowM w5 L (.slice ta (toldL l j).length tcap) (toldL l j):=HRM.out.mod hm5' (NodeP.qm HNJ.out) (fun k hk q=>HLN.out.row HRM.out hdm q hk)
     obtain ⟨v6,w6,hrun6,hR6,hg6,hat6⟩:=hT5.join hR5 (by omega) (by rw [hLn];exact Nat.le_trans hlow (Nat.le_trans HMr.out.size (Nat.le_trans HMM.out.size hm5.size))) 151
     obtain ⟨ra5,rc5,hr5⟩:=hR5.slice
     subst hr5
     rw [<-hMx.out] at hR6
     obtain ⟨va6,vc6,hv6⟩:=hR6.slice
     subst hv6
     have hm6:Mod (fun k=>(Value.slice ta (toldL l j).length tcap).ownBlock=some k) w5 w6:=(Mod.refl _ w5).grown hg6 (fun x hx _=>hx)
     have hq6:Qm w5 L (fun k=>(Value.slice ta (toldL l j).length tcap).ownBlock=some k):=by
      obtain ⟨us,_,h2,_⟩:=hT5
      exact Qm.row h2 (Nat.le_refl _) (by decide)
     have hL6:=hL5.mod hm6 hq6 (fun c hc z hz q=>hL5.row hT5 hc hz q)
     have hz5:=Nat.le_trans HMM.out.size hm5.size
     have HF:Hid (∃ nv' lv':Nat->Value,LineN w6 L bs nv' lv' (mixL l (j+1))/\RowM w6 L (.slice va6 (toldL l (j+1)).length vc6) (toldL l (j+1))/\freshV wo (.slice va6 (toldL l (j+1)).length vc6)/\(∀ c∈bs,Moved w2 (nv c) (nv' c)/\Moved w2 (lv c) (lv' c))/\Mod (fun z=>z∈bs) wo w6):=by
      refine ⟨updV nvr d nv5,updV lvr d lv5,hL6,hR6,fun k hk=>?_,fun c hc=>?_,?_⟩
      ·rcases hat6 with e | e
       ·exact HFR.out k (by rw [<-e];exact hk)
       ·rw [e] at hk
        simp only [Option.some.injEq] at hk
        omega
      ·by_cases e:c=d
       ·subst e
        rw [updV_at,updV_at]
        have hzz:=Nat.le_trans HMr.out.size HMM.out.size
        exact ⟨.inr fun k hk=>Nat.le_trans hzz (hnv5 k hk),(HMV.out c hc).2.trans hlv5 hzz⟩
       ·rw [updV_ne _ _ e,updV_ne _ _ e]
        exact HMV.out c hc
      ·exact (HMM.out.trans' hm5 (fun i hi e=>by simp only [oneBlock] at e;rw [e];exact hdm)).trans' hm6 (fun i hi e=>by have:=HFR.out i e;omega)
     clear hL5 hT5 hR6 hR5 hN5 hf5 hnv5 hlv5 hm5 hm5' hg6 hat6 hm6 hq6 hL6 hMx hMy HLN HRM HHB cd p0 p1
     go_wp2_with (first
      | (at_builtin;refine wpList_exec rfl (exec_appendH (s:=.tmp 52) (x:=.tmp 53) (t:=151) rfl (by go_simp) (by go_simp) hrun6) ?_)
      | fail)
     obtain ⟨nv',lv',f1,f2,f3,f4,f5⟩:=HF.out
     go_roundw
     case rel=>exact ⟨j+1,nv',lv',by omega,by go_num,f1,f2,f3,f4,f5⟩
     case measure=>simp [intOf];omega
    ·obtain rfl:j=l.nodes.length:=by omega
     rw [mixL_all] at hLN
     have hRM2:RowM wr L (.slice ta (toldL l l.nodes.length).length tcap) (becomeL l).2:=by
      have e:=hRM
      generalize (toldL l l.nodes.length).length=q at e ⊢
      rw [toldL_all] at e
      exact e
     have HF:Hid (∃ v nv' lv',Ending.returned (.slice ta (toldL l l.nodes.length).length tcap)=.returned v/\LineN wr L bs nv' lv' (becomeL l).1.nodes/\RowM wr L v (becomeL l).2/\freshV w2 v/\(∀ c∈bs,Moved w2 (nv c) (nv' c)/\Moved w2 (lv c) (lv' c))/\Mod (fun z=>z∈bs) w2 wr):=⟨_,nvr,lvr,rfl,hLN,hRM2,fun k hk=>Nat.le_trans HMr.out.size (hfr k hk),hmv,(HMr.out.mono (fun _ _ e=>e.elim)).trans hMM⟩
     clear hLN hRM hRM2 hfr hmv hMM
     go_wp2_with fail
     go_ret
     exact HF.out
end Go.Proofs.YtiblcbdkiecbgaaGreatDoor
