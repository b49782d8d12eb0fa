import Derived.Test.YtmaiggbnceejiaaGreatDoorP25
set_option linter.unusedVariables false
set_option maxRecDepth 100000
set_option maxHeartbeats 16000000
namespace Go.Proofs.YtmaiggbnceejiaaGreatDoor
open Go.RowKit Go.Lib Go.Maps
def gz(l:ik):List Int:=l.nodes.map fun (x:eH)=>x.id
def Hv(l:ik)(x:eH):List dp:=(kK (jK x (np l) (gz l))).2
def ph(l:ik)(j:Nat):List eH:=(l.nodes.take j).map (kB l)++l.nodes.drop j
def qX(l:ik)(j:Nat):List dp:=(l.nodes.take j).flatMap (Hv l)
theorem yQl{l:ik}{j:Nat}{x:eH}(h:l.nodes[j]?=some x):(ph l j)[j]?=some x:=by
 have hj:=(aB.1 h).1;unfold ph;rw [aO (by simp;omega)];simp only [af,aZ,cY];rw [show j+(j - min j l.nodes.length)=j by omega];exact h
theorem yQk{l:ik}{j:Nat}{x:eH}(h:l.nodes[j]?=some x):(ph l j).set j (kB l x)=ph l (j+1):=by
 have hj:=(aB.1 h).1;unfold ph;rw [qP h,ao,uR h];rw [dO _ _ (by simp;omega)];have e:j - ((l.nodes.take j).map (kB l)).length=0:=by simp;omega
 rw [e];simp
theorem yQm(l:ik):ph l l.nodes.length=(mZ l).1.nodes:=by
 unfold ph;rw [bI,cV,dC];rfl
theorem zWe{l:ik}{j:Nat}{x:eH}(h:l.nodes[j]?=some x):qX l (j+1)=qX l j++Hv l x:=by unfold qX;rw [qP h,dE];simp
theorem yAn(l:ik):qX l l.nodes.length=(mZ l).2:=by unfold qX;rw [bI];rfl
theorem ySc(l:ik)(x:eH):(Hv l x).length<=1:=Is _
theorem yAm(l:ik):∀ j,(qX l j).length<=j:=by
 intro j
 induction j with
 | zero=>simp [qX]
 | succ j ih=>
  by_cases hj:j<l.nodes.length
  ·rw [zWe (aA hj),aD];have:=ySc l (l.nodes[j]);omega
  ·have e:l.nodes.take (j+1)=l.nodes.take j:=by rw [ba (by omega),ba (by omega)]
   unfold qX at ih ⊢;rw [e];omega
theorem mz.WC{G:Nat->Prop}{w w':World}{v:Value}{ns:List Int}(h:mz w v ns)(hm:Mod G w w')(hG:∀ k,v.ownBlock=some k->¬ G k):mz w' v ns:=by
 obtain ⟨a,cap,h1,h2,h3,h4⟩:=h;refine ⟨a,cap,h1,h2,h3,?_⟩;rcases h4 with h4 | ⟨b,off,h5,h6⟩
 ·exact .inl h4
 ·exact .inr ⟨b,off,h5,fun j x hx=>hm.cell (h6 j x hx) (hG b (by rw [h1,h5];rfl))⟩
theorem ko.mod{G:Nat->Prop}{w w':World}{L:Lo}{bs:List Nat}{nv lv:Nat->Value}{ns:List eH}(h:ko w L bs nv lv ns)(hm:Mod G w w')(hq:Qm w L G)(hG:∀ c∈bs,∀ z,gx c (nv c) (lv c) z->¬ G z):ko w' L bs nv lv ns:=
 ⟨h.len,h.nd,fun j c s hc hs=>fh.mod (h.node j c s hc hs) hm hq (hG c (aC hc)),h.ap⟩
theorem ko.row{w:World}{L:Lo}{bs:List Nat}{nv lv:Nat->Value}{ns:List eH}(h:ko w L bs nv lv ns){v:Value}{ms:List dp}(hv:eX w L v ms){c:Nat}(hc:c∈bs){z:Nat}(hz:gx c (nv c) (lv c) z):v.ownBlock≠some z:=fun e=>by
 obtain ⟨_,cur,fX⟩:=hv.block e;obtain ⟨j,hj⟩:=aN hc;have hjl:j<ns.length:=by have:=(aB.1 hj).1;have:=h.len;omega
 have hN:=h.node j c _ hj (aA hjl);rcases hz with q | q | q
 ·have hB:=hN.blk;unfold dh at hB;rw [<-q,fX] at hB;simp at hB
 ·obtain ⟨_,_,kf,h2⟩:=ft hN.ns q;rw [fX] at h2;simp at h2
 ·obtain ⟨us,_,h3,_⟩:=hN.lg;obtain ⟨_,_,kf,h2⟩:=ft h3 q;rw [fX] at h2;simp at h2
theorem zXu(n:Nat)(L:Lo)(b:Nat)(bs:List Nat)(nv lv:Nat->Value)(l:ik)(rv:Value)(w:World)(hLn:L.n=n)(hB:dh w b [rv,.int .i64 l.heard] 120)(hr:w.ownsRow n 91 1 rv bs.length (bs.map iz))(hN:ko w L bs nv lv l.nodes)(hne:0<l.nodes.length)(h4:l.nodes.length<=4)
  (hE:0<=np l/\np l<=100) (iP:∀ x∈l.nodes,x.db<np l) (hid:(gz l).Nodup) (jy:n<=w.heap.size) :
  Calls Tryz.prog 61 #[.pointer (some ⟨b,0,none⟩)] w fun e w'=>∃ v oO jQ,e=.returned v/\ko w' L bs oO jQ (mZ l).1.nodes/\eX w' L v (mZ l).2/\lE w v/\(∀ c∈bs,iC w (nv c) (oO c)/\iC w (lv c) (jQ c))/\Mod (fun z=>z∈bs) w w':=by
 obtain ⟨j0,hj,GD,GC,GB⟩:=info_parts Tryz.rZ;have hlen:=hN.len;obtain ⟨d0,hd0⟩:∃ d,bs[0]?=some d:=⟨_,aA (by omega)⟩;obtain ⟨x0,hx0⟩:∃ x,l.nodes[0]?=some x:=⟨_,aA hne⟩;have hN0:=hN.node 0 d0 x0 hd0 hx0;have Rs:np l=x0.db+1:=by unfold np;rw [aH,hx0];rfl
 have b0:=hB.cell 0 rfl;obtain ⟨ng,jh,oq,cn⟩:=vf hr hd0;rw [oq,hlen] at b0;have rJ:=dU (yKd _ _ _ _ _ _ hN0);have hint:gw (np l):=by unfold gw;omega
 obtain ⟨w1,hw1⟩:∃ x,x=w.alloc (.cells #[.int .i64 (x0.db+1),.slice none 0 0] 160):=⟨_,rfl⟩;have di:Mod dZ w w1:=by rw [hw1];exact (Mod.refl _ w).alloc _
 have fi:dh w1 w.heap.size [.int .i64 (x0.db+1),.slice none 0 0] 160:=by rw [hw1];exact dh.new w _ _
 have zb:=hB.lt;have hrI:(0:Int)<(l.nodes.length:Int):=by omega
 have zo:-1<=x0.db/\x0.db<=99:=by omega
 have HN:=dU hN;have HB:=dU hB;have IB:Hid (w.ownsRow n 91 1 rv bs.length (bs.map iz)):=hr;have ZQ:=dU oq;have b1:=di.cell b0 (fun e=>e);have zb1:=aG zb di.size;have fg:=dU di;have mV:=dU fi;have HEQ:=dU Rs;have HID0:Hid (gz l=gz l):=rfl;clear hB hr hN hN0 oq hx0 hd0 di fi Rs;go_enter Tryz.func61,Tryz.ntmps61;go_upto_region 2 with (first
  | (go_at_call 106;refine rJ.out.mono ?_;rintro e w2 ⟨rfl,rfl⟩)
  | fail)
 rw [<-hw1];clear hw1 b0 zb rJ;go_wp2_with fail;go_loopw [25] (fun i0 wr=>∃ (i:Nat) (cv:Value),i<=l.nodes.length/\i0=.int .i64 i/\dh wr w2.heap.size [.int .i64 (x0.db+1),cv] 160/\wr.ownsRow w2.heap.size 3 1 cv ((gz l).take i).length (((gz l).take i).map (Value.int .i64))/\Mod dZ w2 wr) (fun i0 _=>l.nodes.length - (intOf i0).toNat)
 case atStart=>exact ⟨0,.slice none 0 0,aV _,rfl,mV.out,World.ownsRow_nil _ _ _ _,fg.out⟩
 case round=>
  obtain ⟨i,cv,hil,rfl,hBr,hrow,hM⟩:=hrel;obtain ⟨wo,hwo⟩:∃ x,x=wr:=⟨_,rfl⟩;subst hwo;obtain ⟨ca,ql,hcv⟩:=fJ hrow;subst hcv;have htl:((gz l).take i).length=i:=by unfold gz;rw [aZ,af];omega
  rw [htl] at hBr hrow;by_cases hlt:i<l.nodes.length
  ·obtain ⟨d,hd⟩:∃ d,bs[i]?=some d:=⟨_,aA (by omega)⟩;obtain ⟨x,hx⟩:∃ x,l.nodes[i]?=some x:=⟨_,aA hlt⟩;have Hc:=HN.out.node i d x hd hx;obtain ⟨MY,Ma,hv',Ob⟩:=vf IB.out hd;have XK:MY=ng:=by
    rw [ZQ.out] at hv';simp only [Value.slice.injEq,bB,Addr.mk.injEq] at hv';exact hv'.1.1.symm
   subst XK;have cd:=hM.cell Ob (fun e=>e);have Nk:(gz l).take (i+1)=(gz l).take i++[x.id]:=qP (by unfold gz;rw [bF,hx];rfl);have YZ:Mod dZ w2 wo.drew:=hM.drewN 1;have Za:=dU (Hc.quiet YZ);have HRi:Hid (wo.drew.ownsRow w2.heap.size 3 1 (.slice ca i ql) i (((gz l).take i).map (Value.int .i64))):=gD hrow ((Mod.refl dZ wo).drewN 1) (fun _ _ _ _ e=>e);have q1:=hBr.cell 1 rfl;have f1:=hBr.frozen 1;have zc:=hBr.lt;have hnc:=oM hrow hBr (by decide);have zB:=hM.size;have wB:(i:Int)<(l.nodes.length:Int):=by omega
   have hi0:(0:Int)<=(i:Int):=by omega
   have iF:i+1<=maxLen:=by unfold maxLen;omega
   have iG:(i+1)*8<=140737488355328:=by omega
   have HBr:=dU hBr;have HMd:=dU YZ;have sL:=dU Nk;have Zc:=dU hnc;have Kp:=dU htl;have hlx:(((gz l).take i).map (Value.int .i64)).length=i:=by rw [af,htl]
   clear Hc hv' Ob hM YZ hrow hBr Nk hd hx hnc htl;go_upto_region 5 with fail
   go_region_law
    ((first
     | (go_simp;go_at_call 98;(refine (VM _ _ _ _ _ _ Za.out).mono ?_;rintro e w5 ⟨rfl,rfl⟩))
     | (refine step_append_lies _ (by rfl) _ _ _ (by rfl) w2.heap.size 3 j0 _ 1 8 Tryz.underlying26 hj GD GC GB rfl (by decide) _ _ _ (by rfl) (HRi.out.alloc _) ⟨wo.heap.size,0,none⟩ 1 1 [.int .i64 x.id] (by rfl) (by rfl) (World.news_of_block (heap_alloc_new wo.drew _)) (by simp [Value.oneCell']) (by omega) iF iG (by simp;omega) _ rfl ?_;intro g6 lT w6 iB hgrow hat Cj;have ib:Mod (fun k=>(Value.slice ca i ql).ownBlock=some k) wo.drew w6:=((Mod.refl _ wo.drew).alloc _).grown hgrow (fun x hx _=>hx);have d6:=ib.cell q1 Zc.out;have e6:=(ib.frozen (p:=⟨w2.heap.size,1,none⟩) zc Zc.out).trans f1)
     | fail))
   all_goals
    have KG:dh w6 w2.heap.size [.int .i64 (x0.db+1),.slice ca i ql] 160:=(HBr.out.mod ((Mod.refl dZ wo).drewN 1) (fun e=>e)).mod ib Zc.out;have iV:Mod (eF w2.heap.size) w6 (w6.setCell ⟨w2.heap.size,1,none⟩ (.slice (some ⟨g6,0,none⟩) (i+1) lT)):=Mod.dq _ 1 _;have hn6:=oM iB KG (by decide);have HF:Hid (dh (w6.setCell ⟨w2.heap.size,1,none⟩ (.slice (some ⟨g6,0,none⟩) (i+1) lT)) w2.heap.size [.int .i64 (x0.db+1),.slice (some ⟨g6,0,none⟩) (i+1) lT] 160/\(w6.setCell ⟨w2.heap.size,1,none⟩ (.slice (some ⟨g6,0,none⟩) (i+1) lT)).ownsRow w2.heap.size 3 1 (.slice (some ⟨g6,0,none⟩) (i+1) lT) ((gz l).take (i+1)).length (((gz l).take (i+1)).map (Value.int .i64))/\Mod dZ w2 (w6.setCell ⟨w2.heap.size,1,none⟩ (.slice (some ⟨g6,0,none⟩) (i+1) lT))):=by
     refine ⟨KG.set 1 _,?_,?_⟩
     ·have h7:=gD iB iV (fun k _ _ e q=>hn6 (by rw [e];exact ae some q));rw [sL.out,aD,ao,Kp.out];exact h7
     ·have h6:Mod dZ w2 w6:=HMd.out.trans' ib (fun k hk e=>by have:=(ft HRi.out e).1;omega);exact h6.trans' iV (fun k hk e=>by simp only [eF] at e;omega)
    clear KG iV hn6 iB hgrow hat Cj ib;go_wp2_with fail;go_roundw
    case rel=>exact ⟨i+1,_,by omega,by go_num,HF.out.1,HF.out.2.1,HF.out.2.2⟩
    case measure=>simp [intOf];omega
  ·obtain rfl:i=l.nodes.length:=by omega
   have Cm:(gz l).take l.nodes.length=gz l:=ba (by unfold gz;simp);rw [Cm] at hrow;have pr:(gz l).length=l.nodes.length:=by unfold gz;simp
   have HBr:=dU hBr;have HIV:Hid (mz wo (.slice ca l.nodes.length ql) (gz l)):=by
    have:wo.ownsRow w2.heap.size 3 1 (.slice ca l.nodes.length ql) (gz l).length ((gz l).map (Value.int .i64)):=by rw [pr];exact hrow
    exact mz.iY this
   have Ez:Hid (∀ z,(Value.slice ca l.nodes.length ql).ownBlock=some z->w2.heap.size<=z):=fun z hz=>(ft hrow hz).1;have AS:=dU hM;have HIL:=dU pr;have bo:=hM.cell (HB.out.cell 0 rfl) (fun e=>e);rw [ZQ.out,hlen] at bo;clear hBr hrow hM Cm htl pr;go_wp2_with fail;go_loopw [6,42] (fun tv j1 wr=>∃ (j:Nat) (Fw Fy:Nat->Value),j<=l.nodes.length/\j1=.int .i64 j/\ko wr L bs Fw Fy (ph l j)/\eX wr L tv (qX l j)/\lE wo tv/\(∀ c∈bs,iC w2 (nv c) (Fw c)/\iC w2 (lv c) (Fy c))/\Mod (fun z=>z∈bs) wo wr) (fun _ j1 _=>l.nodes.length - (intOf j1).toNat)
   case atStart=>exact ⟨0,nv,lv,aV _,rfl,HN.out.quiet AS.out,eX.nil _ _,fun k hk=>by simp [Value.ownBlock] at hk,fun c _=>⟨iC.refl _ _,iC.refl _ _⟩,Mod.refl _ _⟩
   case round=>
    obtain ⟨j,Fw,Fy,hjl,rfl,wE,OK,jF,hmv,Hd⟩:=hrel;obtain ⟨ta,iX,pM⟩:=OK.slice;subst pM;have vu:=yAm l j;by_cases rj:j<l.nodes.length
    ·obtain ⟨d,hd⟩:∃ d,bs[j]?=some d:=⟨_,aA (by omega)⟩;obtain ⟨x,hx⟩:∃ x,l.nodes[j]?=some x:=⟨_,aA rj⟩;have xP:=aC hd;have YV:=wE.node j d x hd (yQl hx);obtain ⟨MY,Ma,hv',Ob⟩:=vf IB.out hd;have XK:MY=ng:=by
      rw [ZQ.out] at hv';simp only [Value.slice.injEq,bB,Addr.mk.injEq] at hv';exact hv'.1.1.symm
     subst XK;have NQ:MY∉bs:=fun q=>by
      obtain ⟨i,hi⟩:=aN q;have hi':i<l.nodes.length:=by have:=(aB.1 hi).1;omega
      have OU:=(HN.out.node i MY _ hi (aA hi')).blk;exact oM IB.out OU (by decide) (by rw [hv'];rfl)
     have cd:=Hd.cell (AS.out.cell Ob (fun e=>e)) NQ;have Ct:∀ c∈bs,c<w2.heap.size:=fun c hc=>by
      obtain ⟨i,hi⟩:=aN hc;have hi':i<l.nodes.length:=by have:=(aB.1 hi).1;omega
      exact (HN.out.node i c _ hi (aA hi')).blk.lt
     have hcb:w2.heap.size∉bs:=fun q=>by have:=Ct _ q;omega
     have hBw:=HBr.out.mod Hd hcb;have p0:=hBw.cell 0 rfl;have p1:=hBw.cell 1 rfl;have hIV:=HIV.out.WC Hd (fun k hk q=>by have:=Ez.out k hk;have:=Ct k q;omega);have Yd:=yRx L d (Fw d) (Fy d) x (np l) (.slice ca l.nodes.length ql) (gz l) wr YV (by have:=iP x (aC hx);omega) hint hIV (fun z hz=>by
      unfold gz at hz;obtain ⟨q,hq,rfl⟩:=ag.1 hz;obtain ⟨i,hi⟩:=aN hq;have hi':=(aB.1 hi).1;obtain ⟨c,hc⟩:∃ c,bs[i]?=some c:=⟨_,aA (by omega)⟩;exact (HN.out.node i c q hc hi).ints.1) (by rw [HIL.out];omega) (by rw [HIL.out];omega) ((zXp _ _).2 ⟨hid,by simp⟩)
     have YX:Hid (qX l (j+1)=qX l j++(kK (jK x (np l) (gz l))).2):=zWe hx;have YW:Hid ((ph l j).set j (kK (jK x (np l) (gz l))).1=ph l (j+1)):=yQk hx;rw [HEQ.out] at Yd YX YW;have HHB:=dU Yd;have Ni:(j:Int)<(l.nodes.length:Int):=by omega
     have hj00:(0:Int)<=(j:Int):=by omega
     have hbl:=Is (jK x (x0.db+1) (gz l));have oH:=dU wE;have ZU:=dU OK;have kx:=dU jF;have HMV:=dU hmv;have kh:=dU Hd;have HD:=dU hd;have HBS:=dU Ct;have HNJ:=dU YV;clear wE OK jF hmv Hd YV hv' Ob NQ hBw hIV Yd hx hd hcb Ct;go_upto_region 12 with (first
      | (go_at_call 107;refine HHB.out.mono ?_;rintro e w5 ⟨r5,CR,lv5,rfl,mi,Ef,BQ,Gf,Gl,eu⟩)
      | fail)
     have Gk:Mod (gx d (Fw d) (Fy d)) wr w5:=eu.mono (fun _ _ e=>.inl e);have DC:=oH.out.turn HD.out Gk mi (.inr Gf) Gl;rw [YW.out] at DC;have zu:eX w5 L (.slice ta (qX l j).length iX) (qX l j):=ZU.out.mod Gk (fh.qm HNJ.out) (fun k hk q=>oH.out.row ZU.out xP q hk);obtain ⟨v6,w6,NB,rH,Jl,sr⟩:=zu.join Ef (by omega) (by rw [hLn];exact aM jy (aM AS.out.size (aM kh.out.size eu.size))) 76;obtain ⟨ra5,rc5,hr5⟩:=Ef.slice;subst hr5;rw [<-YX.out] at rH;obtain ⟨va6,vc6,rf⟩:=rH.slice;subst rf;have fq:Mod (fun k=>(Value.slice ta (qX l j).length iX).ownBlock=some k) w5 w6:=(Mod.refl _ w5).grown Jl (fun x hx _=>hx);have BI:Qm w5 L (fun k=>(Value.slice ta (qX l j).length iX).ownBlock=some k):=by
      obtain ⟨us,_,h2,_⟩:=zu;exact Qm.row h2 (aF _) (by decide)
     have Eh:=DC.mod fq BI (fun c hc z hz q=>DC.row zu hc hz q);have GN:=aM kh.out.size eu.size;have HF:Hid (∃ oO jQ:Nat->Value,ko w6 L bs oO jQ (ph l (j+1))/\eX w6 L (.slice va6 (qX l (j+1)).length vc6) (qX l (j+1))/\lE wo (.slice va6 (qX l (j+1)).length vc6)/\(∀ c∈bs,iC w2 (nv c) (oO c)/\iC w2 (lv c) (jQ c))/\Mod (fun z=>z∈bs) wo w6):=by
      refine ⟨jw Fw d CR,jw Fy d lv5,Eh,rH,fun k hk=>?_,fun c hc=>?_,?_⟩
      ·rcases sr with e | e
       ·exact kx.out k (by rw [<-e];exact hk)
       ·rw [e] at hk;simp only [bB] at hk;omega
      ·by_cases e:c=d
       ·subst e;rw [tp,tp];have hzz:=aM AS.out.size kh.out.size;exact ⟨.inr fun k hk=>aM hzz (Gf k hk),(HMV.out c hc).2.trans Gl hzz⟩
       ·rw [tq _ _ e,tq _ _ e];exact HMV.out c hc
      ·exact (kh.out.trans' eu (fun i hi e=>by simp only [eF] at e;rw [e];exact xP)).trans' fq (fun i hi e=>by have:=kx.out i e;omega)
     clear DC zu rH Ef mi BQ Gf Gl eu Gk Jl sr fq BI Eh YX YW oH ZU HHB cd p0 p1;go_wp2_with (first
      | (at_builtin;refine Uf rfl (CD (s:=.tmp 52) (x:=.tmp 53) (t:=76) rfl (by go_simp) (by go_simp) NB) ?_)
      | fail)
     obtain ⟨oO,jQ,f1,f2,f3,f4,f5⟩:=HF.out;go_roundw
     case rel=>exact ⟨j+1,oO,jQ,by omega,by go_num,f1,f2,f3,f4,f5⟩
     case measure=>simp [intOf];omega
    ·obtain rfl:j=l.nodes.length:=by omega
     rw [yQm] at wE;have OJ:eX wr L (.slice ta (qX l l.nodes.length).length iX) (mZ l).2:=by
      have e:=OK;generalize (qX l l.nodes.length).length=q at e ⊢;rw [yAn] at e;exact e
     have HF:Hid (∃ v oO jQ,Ending.returned (.slice ta (qX l l.nodes.length).length iX)=.returned v/\ko wr L bs oO jQ (mZ l).1.nodes/\eX wr L v (mZ l).2/\lE w2 v/\(∀ c∈bs,iC w2 (nv c) (oO c)/\iC w2 (lv c) (jQ c))/\Mod (fun z=>z∈bs) w2 wr):=⟨_,Fw,Fy,rfl,wE,OJ,fun k hk=>aM AS.out.size (jF k hk),hmv,(AS.out.mono (fun _ _ e=>e.elim)).trans Hd⟩;clear wE OK OJ jF hmv Hd;go_wp2_with fail;go_ret;exact HF.out
theorem du.EK{w:World}{n c g:Nat}{y:dX}{s:dW}(h:du w n c g y s){k b:Nat}(hk:k<s.lines.length)(hb:y.gH[k]?=some b):ko w (y.lo n) (y.fU b) y.kI y.kJ (s.line k).nodes:=by
 have hL:=h.line k b _ hb (mL hk);have kV:=aC hb;refine ⟨hL.len,yBi h.own.yE kV,hL.node,fun d hd d' hd' hne z hz hz'=>?_⟩;have e1:=h.own.node b kV d hd z hz;rw [h.own.node b kV d' hd' z hz'] at e1
 cases e1
 exact hne rfl
theorem ko.some{w:World}{L:Lo}{bs:List Nat}{nv lv:Nat->Value}{ns:List eH}(h:ko w L bs nv lv ns){js:List Nat}(hp:js.Pairwise (·<·))(hj:∀ j∈js,j<bs.length):ko w L (js.map fun j=>bs.getD j 0) nv lv (js.map fun j=>ns.getD j ⟨0,0,[],[],0⟩):=by
 have hg:∀ j,j<bs.length->bs[j]?=Option.some (bs.getD j 0):=fun j hj=>by rw [aH,aA hj];rfl
 refine ⟨by simp,?_,fun i c s hc hs=>?_,fun c hc c' hc'=>?_⟩
 ·rw [List.Nodup,cC];refine dJ ?_ hp;intro a b ha hb hab e;have h1:=hg a (hj a ha);have h2:=hg b (hj b hb);rw [e] at h1;have:=FI h.nd h1 h2;omega
 ·simp only [bF,cH] at hc hs;obtain ⟨j,zi,rfl⟩:=hc;obtain ⟨j',BM,rfl⟩:=hs;rw [zi] at BM;cases BM
  have hjl:=hj j (aC zi);refine h.node j _ _ (hg j hjl) ?_;have:=h.len;rw [aH,aA (by omega)];rfl
 ·have hin:∀ c∈js.map (fun j=>bs.getD j 0),c∈bs:=fun c hc=>by
   obtain ⟨j,zi,rfl⟩:=ag.1 hc;exact aC (hg j (hj j zi))
  exact h.ap c (hin c hc) c' (hin c' hc')
open Classical in
noncomputable def oA(w:World)(y:dX)(b:Nat)(rv:Value)(bs:List Nat)(nv lv:Nat->Value)(x:Nat):Tag:=
 if w.heap.size<=x/\rv.ownBlock=some x then .line b else if h:w.heap.size<=x/\∃ c∈bs,gx c (nv c) (lv c) x then .node (Classical.choose h.2) else y.own x
theorem QL(w:World)(y:dX)(b:Nat)(rv:Value)(bs:List Nat)(nv lv:Nat->Value){x:Nat}(h:x<w.heap.size):oA w y b rv bs nv lv x=y.own x:=by
 unfold oA;rw [aE (fun e=>by omega),dif_neg (fun e=>by omega)]
theorem du.MJ{w w':World}{n c g:Nat}{y:dX}{s:dW}(h:du w n c g y s){k b:Nat}(hk:k<s.lines.length)(hb:y.gH[k]?=some b){rv:Value}{bs:List Nat}{nv lv:Nat->Value}{l':ik}
  (hm:Mod (fun z=>z=b\/z∈bs) w w') (hB:dh w' b [rv,.int .i64 l'.heard] 120) (hr:w'.ownsRow n 91 1 rv bs.length (bs.map iz)) (hN:ko w' (y.lo n) bs nv lv l'.nodes) (hs:bs.Sublist (y.fU b)) (h1:iC w (y.qz b) rv) (h2:∀ c∈bs,iC w (y.kI c) (nv c)/\iC w (y.kJ c) (lv c)) :
  ∃ y',du w' n c g y' (rS s k l')/\iD w y w' y'/\y'.gH=y.gH/\y'.ja=y.ja/\y'.lv=y.lv/\y'.tv=y.tv/\(∀ z,w.heap.size<=z->rv.ownBlock≠some z->(∀ c∈bs,¬ gx c (nv c) (lv c) z)->y'.own z=.no)/\y'.lo n=y.lo n:=by
 have own:=h.own;have kV:=aC hb;have hL:=h.line k b _ hb (mL hk);have wE:=h.EK hk hb;have hbs:∀ d∈bs,d∈y.fU b:=fun d hd=>hs.subset hd;have Wo:∀ d∈bs,∃ x,wN w n y d x:=fun d hd=>by
  obtain ⟨j,hj⟩:=aN (hbs d hd);have hjl:j<(s.line k).nodes.length:=by have:=(aB.1 hj).1;have:=hL.len;omega
  exact ⟨_,hL.node j d _ hj (aA hjl)⟩
 have vv:∀ d∈bs,y.own d=.node d:=fun d hd=>own.node b kV d (hbs d hd) d (.inl rfl);have hq:Qm w (y.lo n) (fun z=>z=b\/z∈bs):=fun z hz e=>by
  rintro (e1 | ⟨⟨cur,fr,e1⟩,_⟩)
  ·have h8:z<n:=e1;rcases e with e | e
   ·subst e;have:=(own.lt z (by rw [(own.line z kV).1];simp)).1;omega
   ·have:=(own.lt z (by rw [vv z e];simp)).1;omega
  ·rcases e with e | e
   ·subst e;have:=hL.blk;unfold dh at this;rw [this] at e1;simp at e1
   ·obtain ⟨x,hx⟩:=Wo z e;have:=hx.blk;unfold dh at this;rw [this] at e1;simp at e1
 have ht:rM w w' n y (fun t=>t=.line b\/∃ d∈bs,t=.node d):=⟨⟨_,hm,hq,fun z hz e=>by
  rcases e with e | e
  ·subst e;exact ⟨.inl (own.line z kV).1,by rw [(own.line z kV).1];simp⟩
  ·exact ⟨.inr ⟨z,e,vv z e⟩,by rw [vv z e];simp⟩⟩⟩
 let y':dX:={ y with qz:=fun x=>if x=b then rv else y.qz x,fU:=fun x=>if x=b then bs else y.fU x,kI:=fun x=>if x∈bs then nv x else y.kI x,kJ:=fun x=>if x∈bs then lv x else y.kJ x,own:=oA w y b rv bs nv lv }
 have eB:y'.qz b=rv/\y'.fU b=bs:=by constructor <;> simp [y']
 have eN:∀ {x},x≠b->y'.qz x=y.qz x/\y'.fU x=y.fU x:=fun {x} hx=>by constructor <;> simp [y',hx]
 have eD:∀ {x},x∈bs->y'.kI x=nv x/\y'.kJ x=lv x:=fun {x} hx=>by constructor <;> simp [y',hx]
 have eO:∀ {x},x∉bs->y'.kI x=y.kI x/\y'.kJ x=y.kJ x:=fun {x} hx=>by constructor <;> simp [y',hx]
 have dv:∀ z,y.own z≠.no->y'.own z=y.own z:=fun z hz=>QL _ _ _ _ _ _ _ (own.lt z hz).2;have hnew:∀ z,w.heap.size<=z->y.own z=.no:=fun z hz=>aR fun e=>by have:=(own.lt z e).2;omega
 -- blocks of nodes
 have zQ:∀ d∈bs,∃ x,fh w' (y.lo n) d (nv d) (lv d) x:=fun d hd=>by
  obtain ⟨j,hj⟩:=aN hd;have hjl:j<l'.nodes.length:=by have:=(aB.1 hj).1;have:=hN.len;omega
  exact ⟨_,hN.node j d _ hj (aA hjl)⟩
 have zO:∀ d∈bs,∀ z,gx d (nv d) (lv d) z->rv.ownBlock≠some z:=fun d hd z hz e=>by
  obtain ⟨x,hx⟩:=zQ d hd;obtain ⟨_,_,cur,fX⟩:=ft hr e;rcases hz with q | q | q
  ·have hBl:=hx.blk;unfold dh at hBl;rw [<-q,fX] at hBl;simp at hBl
  ·obtain ⟨_,_,kf,h2⟩:=ft hx.ns q;rw [fX] at h2;simp at h2
  ·obtain ⟨us,_,h3,_⟩:=hx.lg;obtain ⟨_,_,kf,h2⟩:=ft h3 q;rw [fX] at h2;simp at h2
 have hold:∀ d∈bs,∀ z,gx d (nv d) (lv d) z->z<w.heap.size->gx d (y.kI d) (y.kJ d) z:=fun d hd z hz hlt=>by
  rcases hz with e | e | e
  ·exact .inl e
  ·rcases (h2 d hd).1 with q | q
   ·exact .inr (.inl (by rw [<-q];exact e))
   ·have:=q z e;omega
  ·rcases (h2 d hd).2 with q | q
   ·exact .inr (.inr (by rw [<-q];exact e))
   ·have:=q z e;omega
 have NG:∀ d∈bs,∀ z,gx d (nv d) (lv d) z->y'.own z=.node d:=fun d hd z hz=>by
  by_cases hlt:z<w.heap.size
  ·show oA w y b rv bs nv lv z=_;rw [QL _ _ _ _ _ _ _ hlt];exact own.node b kV d (hbs d hd) z (hold d hd z hz hlt)
  ·show oA w y b rv bs nv lv z=_;unfold oA;have hex:w.heap.size<=z/\∃ c∈bs,gx c (nv c) (lv c) z:=⟨by omega,d,hd,hz⟩;rw [aE (fun e=>zO d hd z hz e.2),dif_pos hex];have hsp:=dP hex.2;congr 1;exact aR fun e=>hN.ap _ hsp.1 d hd e z hsp.2 hz
 have NH:∀ z,rv.ownBlock=some z->y'.own z=.line b:=fun z hz=>by
  by_cases hlt:z<w.heap.size
  ·show oA w y b rv bs nv lv z=_;rw [QL _ _ _ _ _ _ _ hlt];rcases h1 with q | q
   ·exact (own.line b kV).2 z (by rw [<-q];exact hz)
   ·have:=q z hz;omega
  ·show oA w y b rv bs nv lv z=_;unfold oA;rw [aJ ⟨by omega,hz⟩]
 have ui:∀ (i:Nat) l,(rS s k l').lines[i]?=some l->(i=k/\l=l')\/(i≠k/\s.lines[i]?=some l):=fun i l hl=>by
  have hl2:(s.lines.set k l')[i]?=some l:=hl;rw [pX] at hl2;by_cases e:i=k
  ·rw [aJ ⟨e,by omega⟩] at hl2;exact .inl ⟨e,(ax hl2).symm⟩
  ·rw [aE (fun q=>e q.1)] at hl2;exact .inr ⟨e,hl2⟩
 have uf:∀ b'∈y.gH,b'≠b->∀ d∈y.fU b',d∉bs:=fun b' hb' hne d hd q=>hne (zWw own.yE hb' kV hd (hbs d q));refine ⟨y',⟨h.tC ht (by simp),?_,h.oW ht (by simp),h.tB ht (by simp),h.qn,h.oV ht (by simp),?_,fun i b' l hb' hl=>?_,h.oU ht (by simp),h.kM,fun i b' t hb' hti=>(have q:=h.DG ht hb' hti (by simp);⟨q.blk,q.ats,q.wr⟩),?_⟩,⟨hm.mono (fun z hz e=>?_),fun z hz=>QL _ _ _ _ _ _ _ hz⟩,rfl,rfl,rfl,rfl,fun z hz hz1 hz2=>?_,rfl⟩
 ·exact h.vB ht (by simp)
 ·show y.gH.length=(s.lines.set k _).length;rw [aa];exact h.iN
 ·have hb2:y.gH[i]?=some b':=hb';rcases ui i l hl with ⟨rfl,rfl⟩ | ⟨hne,hl2⟩
  ·rw [hb] at hb2;cases hb2
   refine ⟨by rw [eB.1];exact hB,by rw [eB.1,eB.2];exact hr,by rw [eB.2];exact hN.len,fun j d x hd hx=>?_⟩;rw [eB.2] at hd;have xP:=aC hd;show fh w' (y.lo n) d (y'.kI d) (y'.kJ d) x;rw [(eD xP).1,(eD xP).2];exact hN.node j d x hd hx
  ·have sn:b'≠b:=fun q=>hne (by subst q;exact FI own.BC hb2 hb);have zs:=aC hb2;have q:=h.qC ht hb2 hl2 (by simpa using sn) (fun d hd e=>by
    rcases e with e | ⟨d',hd',e⟩
    ·cases e
    ·cases e;exact uf b' zs sn d hd hd')
   refine ⟨by rw [(eN sn).1];exact q.blk,by rw [(eN sn).1,(eN sn).2];exact q.row,by rw [(eN sn).2];exact q.len,fun j d x hd hx=>?_⟩;rw [(eN sn).2] at hd;have oT:=uf b' zs sn d (aC hd);show fh w' (y.lo n) d (y'.kI d) (y'.kJ d) x;rw [(eO oT).1,(eO oT).2];exact q.node j d x hd hx
 ·refine ⟨by rw [dv _ (by rw [own.main];simp)];exact own.main,fun z hz=>?_,fun z hz=>?_,fun z hz=>?_,?_,fun z hz=>?_,fun b' hb'=>⟨?_,fun z hz=>?_⟩,fun b' hb' d' hd' z hz=>?_,fun b' hb'=>⟨?_,fun z hz=>?_⟩,fun z hz=>?_,own.BC,own.Dy,?_⟩
  ·rw [dv z (by rw [own.fm z hz];simp)];exact own.fm z hz
  ·rw [dv z (by rw [own.gR z hz];simp)];exact own.gR z hz
  ·rw [dv z (by rw [own.net z hz];simp)];exact own.net z hz
  ·show y'.own y.dr=_;rw [dv _ (by rw [own.dead];simp)];exact own.dead
  ·rw [dv z (by rw [own.tab z hz];simp)];exact own.tab z hz
  ·rw [dv b' (by rw [(own.line b' hb').1];simp)];exact (own.line b' hb').1
  ·by_cases e:b'=b
   ·subst e;rw [eB.1] at hz;exact NH z hz
   ·rw [(eN e).1] at hz;rw [dv z (by rw [(own.line b' hb').2 z hz];simp)];exact (own.line b' hb').2 z hz
  ·by_cases e:b'=b
   ·subst e;rw [eB.2] at hd';rw [(eD hd').1,(eD hd').2] at hz;exact NG d' hd' z hz
   ·rw [(eN e).2] at hd';have oT:=uf b' hb' e d' hd';rw [(eO oT).1,(eO oT).2] at hz;have:=own.node b' hb' d' hd' z hz;rw [dv z (by rw [this];simp)];exact this
  ·rw [dv b' (by rw [(own.tx b' hb').1];simp)];exact (own.tx b' hb').1
  ·rw [dv z (by rw [(own.tx b' hb').2 z hz];simp)];exact (own.tx b' hb').2 z hz
  ·have hz':oA w y b rv bs nv lv z≠.no:=hz;by_cases e1:w.heap.size<=z/\rv.ownBlock=some z
   ·exact ⟨(ft hr e1.2).1,(ft hr e1.2).2.1⟩
   ·by_cases e2:w.heap.size<=z/\∃ c∈bs,gx c (nv c) (lv c) z
    ·obtain ⟨_,d,hd,hzd⟩:=e2;obtain ⟨x,hx⟩:=zQ d hd;have:=hx.lt hzd;exact ⟨this.1,this.2.1⟩
    ·have hz3:y.own z≠.no:=by
      unfold oA at hz';rw [aE e1,dif_neg e2] at hz';exact hz'
     have:=own.lt z hz3;exact ⟨this.1,aG this.2 hm.size⟩
  ·show (y.gH.flatMap y'.fU).Nodup;have hsub:∀ ls:List Nat,(ls.flatMap y'.fU).Sublist (ls.flatMap y.fU):=by
    intro ls
    induction ls with
    | nil=>exact List.Sublist.refl _
    | cons a ls ih=>
     rw [bD,bD];refine List.Sublist.append ?_ ih;by_cases e:a=b
     ·subst e;rw [eB.2];exact hs
     ·rw [(eN e).2];exact List.Sublist.refl _
   exact own.yE.sublist (hsub y.gH)
 ·rcases e with e | e
  ·subst e;rw [(own.line z kV).1];simp
  ·rw [vv z e];simp
 ·show oA w y b rv bs nv lv z=.no;unfold oA;rw [aE (fun e=>hz1 e.2),dif_neg (fun e=>by obtain ⟨_,d,hd,q⟩:=e;exact hz2 d hd q)];exact hnew z hz
structure rL(w:World)(y:dX)(w':World)(y':dX):Prop where
 st:iD w y w' y'
 l:y'.gH=y.gH
 t:y'.ja=y.ja
 lv:y'.lv=y.lv
 tv:y'.tv=y.tv
theorem rL.trans{w w1 w2:World}{y y1 y2:dX}(h:rL w y w1 y1)(k:rL w1 y1 w2 y2):rL w y w2 y2:=⟨h.st.trans k.st,k.l.trans h.l,k.t.trans h.t,k.lv.trans h.lv,k.tv.trans h.tv⟩
theorem eJ.Ja{w w':World}{y y':dX}(h:eJ w y w' y'):rL w y w' y':=⟨h.st,h.l,h.t,h.lv,h.tv⟩
theorem rL.refl(w:World)(y:dX):rL w y w y:=(eJ.refl w y).Ja
theorem rL.quiet{w w':World}{y:dX}(hm:Mod dZ w w'):rL w y w' y:=(eJ.quiet hm).Ja
def kQ(s:dW)(m:Nat):dW:=(List.range m).foldl eK s
theorem yCo(s:dW)(m:Nat):kQ s (m+1)=eK (kQ s m) m:=by unfold kQ;rw [aY,aX];rfl
theorem Qo(l:ik):(mZ l).2.length<=l.nodes.length:=by
 rw [<-yAn];exact yAm l _
theorem yJn{s:dW}(h:Safe s)(hH:Held s){k:Nat}(hk:k<s.lines.length):(eK s k).net.lost<=s.net.lost+4:=by
 unfold eK;split
 ·omega
 ·rename_i e;obtain ⟨e1,e2⟩:=JF e;have hF:Safe (eW s k):=h.eW hk e1 e2;obtain ⟨_,b⟩:=Qs hF (hH.lines rfl rfl) (k:=k) (by rw [sH];exact hk);show (pF (eW s k) k).net.lost<=_;rw [b.net];have h1:=(CA (mZ ⟨fM s k,(s.line k).heard⟩).2 s.net).2;have h2:=Qo ⟨fM s k,(s.line k).heard⟩;have h3:=h.nJ hk;show (ju s.net _).lost<=_;simp only at h2;omega
theorem yNp{s:dW}(h:Safe s)(hH:Held s):∀ m,m<=s.lines.length->fe s (kQ s m)/\(kQ s m).net.lost<=s.net.lost+4*m:=by
 intro m
 induction m with
 | zero=>exact fun _=>⟨fe.refl h hH,by simp [kQ]⟩
 | succ m ih=>
  intro hm;obtain ⟨a,b⟩:=ih (by omega);have jq:m<(kQ s m).lines.length:=by rw [a.ll];omega
  rw [yCo];have q:=(UA a.safe a.held jq).1;have c:=yJn a.safe a.held jq;exact ⟨a.trans q,by omega⟩
theorem yMr(s:dW)(k:Nat):(iS s k).Pairwise (·<·):=List.Pairwise.filter _ List.pairwise_lt_range
theorem du.Fz{w:World}{n c g:Nat}{y:dX}{s:dW}(h:du w n c g y s){k b:Nat}(hk:k<s.lines.length)(hb:y.gH[k]?=some b):y.kZ s b=(iS s k).map fun j=>(y.fU b).getD j 0:=by
 have hL:=h.line k b _ hb (mL hk);have e:y.fU b=(List.range (s.line k).nodes.length).map fun j=>(y.fU b).getD j 0:=by
  apply bf;intro j;rw [bF];by_cases hj:j<(s.line k).nodes.length
  ·rw [List.getElem?_range hj,bS,aH,aA (by rw [hL.len];exact hj)];rfl
  ·rw [aj (by rw [hL.len];omega),aj (by simp;omega)];rfl
 unfold dX.kZ iS
 conv=>lhs;rw [e]
 rw [List.filter_map];congr 1;apply List.filter_congr;intro j hj;have hj':=cL.1 hj;show fs s (y.st s ((y.fU b).getD j 0))=_;have hd:(y.fU b)[j]?=some ((y.fU b).getD j 0):=by rw [aH,aA (by rw [hL.len];exact hj')];rfl
 rw [h.kU hb (mL hk) hd (og hj')]
theorem du.WG{w:World}{n c g:Nat}{y:dX}{s:dW}(h:du w n c g y s){k b:Nat}(hk:k<s.lines.length)(hb:y.gH[k]?=some b):ko w (y.lo n) (y.kZ s b) y.kI y.kJ (fM s k):=by
 rw [h.Fz hk hb,<-Qe];have hL:=h.line k b _ hb (mL hk);exact (h.EK hk hb).some (yMr s k) (fun j hj=>by
  obtain ⟨i,hi⟩:=aN hj;rw [hL.len];exact (Df hi).1)
theorem yNo{s:dW}(h:Safe s){k:Nat}(hk:k<s.lines.length)(hne:fM s k≠[]):(0<=np ⟨fM s k,(s.line k).heard⟩/\np ⟨fM s k,(s.line k).heard⟩<=100)/\(∀ x∈fM s k,x.db<np ⟨fM s k,(s.line k).heard⟩)/\(gz ⟨fM s k,(s.line k).heard⟩).Nodup/\(fM s k).length<=4:=by
 have hL:=h.line k hk;obtain ⟨E,h1,h2,h3⟩:=hL.ep;have hsub:(fM s k).Sublist (s.line k).nodes:=bQ;have h4:=h.nJ hk;have Rs:np ⟨fM s k,(s.line k).heard⟩=E+1:=by
  unfold np
  cases hl:fM s k with
  | nil=>exact absurd hl hne
  | cons a ns=>show a.db+1=_;rw [h3 a (hsub.subset (by rw [hl];simp))]
 rw [Rs];refine ⟨by omega,fun x hx=>by rw [h3 x (hsub.subset hx)];omega,?_,aM hsub.length_le h4⟩;unfold gz;rw [List.Nodup,cC];exact (hL.ord.sublist hsub).imp (fun q=>by have:=q.1;omega)
theorem yTu(n c g:Nat)(y:dX)(s:dW)(w:World)(h:du w n c g y s)(hS:Safe s)(oy:Held s)(hc:c<=10000)(hlo:s.net.lost+751000<=4611686018427387904) :
  Calls Tryz.prog 33 #[.pointer (some ⟨g,0,none⟩)] w fun e w'=>e=.returned (.tuple #[])/\∃ y',du w' n c g y' (jz s)/\rL w y w' y':=by
 obtain ⟨c0,-⟩:=kA h.blk;obtain ⟨la,fG,hlv⟩:=fJ h.fm;have hll:=hS.ll;have hlen:=h.iN;rw [hlv,hlen] at c0;have Bd:Hid (y.lv=.slice la s.lines.length fG):=by unfold Hid;rw [hlv,hlen]
 have HH:=dU h;have HS:=dU hS;have IS:=dU oy;clear h hS oy hlv;go_enter Tryz.func33,Tryz.ntmps33;go_wp2_with fail;go_loopw [10] (fun k0 wr=>∃ (k:Nat) (yr:dX),k<=s.lines.length/\k0=.int .i64 k/\du wr n c g yr (kQ s k)/\rL w y wr yr) (fun k0 _=>s.lines.length - (intOf k0).toNat)
 case atStart=>exact ⟨0,y,aV _,rfl,HH.out,rL.refl _ _⟩
 case round=>
  obtain ⟨k,yr,hkl,rfl,hH,hK⟩:=hrel;obtain ⟨wo,hwo⟩:∃ x,x=wr:=⟨_,rfl⟩;subst hwo;obtain ⟨tA,tL⟩:=yNp HS.out IS.out k hkl;by_cases hlt:k<s.lines.length
  ·have hk':k<(kQ s k).lines.length:=by rw [tA.ll];exact hlt
   have Nf:(kQ s k).net.lost+4<=4611686018427387904:=by omega
   have kg:=dU (yCo s k);have tS:=tA.safe;have tH:=tA.held;clear tA tL;generalize kQ s k=S at hH tS tH Nf hk' kg;obtain ⟨b,hb,hL⟩:=hH.nI hk';obtain ⟨lg,lcap',hv',cl⟩:=vf hH.fm hb;have EX:la=some ⟨lg,0,none⟩:=by
    have e:=hK.lv;rw [hv',Bd.out] at e;simp only [Value.slice.injEq] at e;exact e.1.symm
   subst EX;have hnl:=tS.shape.nl _ (Im hk');have hnb:(yr.fU b).length=(S.line k).nodes.length:=hL.len;have AW:=dU (UG n c g yr S k b wo hH hk' hb (by omega) (by omega));have NW:(yr.kZ S b).length=(fM S k).length:=by rw [<-hH.CU hk' hb,af]
   have HL2:=dU NW;have wA:(k:Int)<(s.lines.length:Int):=by omega
   have qT:(0:Int)<=(k:Int):=by omega
   obtain ⟨na,jh,oq⟩:=fJ hL.row;have zb:=hL.blk.lt;have jG:=dU hH;have nj:=dU hK;have HB:=dU hb;have oY:=dU tS;have Kq:=dU tH;have qI:=dU hk';have Sh:=dU hL.blk;have HNV:=dU oq;clear hH hK hL hb hv' tS tH hk' NW oq;go_upto_region 4 with (first
    | (go_at_call 46;refine AW.out.mono ?_;rintro e w1 ⟨v,rfl,hrow,di⟩;rw [HL2.out] at hrow;obtain ⟨va,vc,lI⟩:=fJ hrow;subst lI)
    | fail)
   have b0:=(Sh.out.mod di (fun e=>e)).cell 0 rfl;have f0:=(Sh.out.mod di (fun e=>e)).frozen 0;rw [HNV.out,hnb] at b0;have zb1:=aG zb di.size;have hlele:(fM S k).length<=(S.line k).nodes.length:=aw _ _;have fg:=dU di;have fc:=dU hrow;clear hrow di AW cl;by_cases hz:(fM S k).length=0
   ·have HE:Hid (kQ s (k+1)=S):=by unfold Hid;rw [kg.out];unfold eK;rw [aJ (.inl hz)]
    have HF:Hid (du w1 n c g yr (kQ s (k+1))/\rL w y w1 yr):=⟨by rw [HE.out];exact jG.out.quiet fg.out,nj.out.trans (rL.quiet fg.out)⟩;have hzb:(((fM S k).length:Int) == 0)=true:=by simpa using hz
    clear hz HE;go_wp2_with fail;go_roundw
    case rel=>exact ⟨k+1,yr,by omega,by go_num,HF.out.1,HF.out.2⟩
    case measure=>simp [intOf];omega
   ·have hzb:(((fM S k).length:Int) == 0)=false:=by simpa using hz
    by_cases he:(fM S k).length=(S.line k).nodes.length
    ·have HE:Hid (kQ s (k+1)=S):=by unfold Hid;rw [kg.out];unfold eK;rw [aJ (.inr he)]
     have HF:Hid (du w1 n c g yr (kQ s (k+1))/\rL w y w1 yr):=⟨by rw [HE.out];exact jG.out.quiet fg.out,nj.out.trans (rL.quiet fg.out)⟩;have Gu:(((fM S k).length:Int) == ((S.line k).nodes.length:Int))=true:=by
      have:((fM S k).length:Int)=((S.line k).nodes.length:Int):=by omega
      simpa using this
     clear hz he HE;go_wp2_with (first | fail);go_roundw
     case rel=>exact ⟨k+1,yr,by omega,by go_num,HF.out.1,HF.out.2⟩
     case measure=>simp [intOf];omega
    ·have Gu:(((fM S k).length:Int) == ((S.line k).nodes.length:Int))=false:=by
      have:((fM S k).length:Int)≠((S.line k).nodes.length:Int):=by omega
      simpa using this
     have Jf:¬ ((fM S k).length=0\/(fM S k).length=(S.line k).nodes.length):=fun q=>q.elim hz he;have HE:Hid (kQ s (k+1)=pF (eW S k) k):=by unfold Hid;rw [kg.out];unfold eK;rw [aE Jf];rfl
     obtain ⟨e1,e2⟩:=JF Jf;obtain ⟨fn1,fn2,fn3,fn4⟩:=yNo oY.out qI.out e1;have hFS:Safe (eW S k):=oY.out.eW qI.out e1 e2;have BX:Held (eW S k):=Kq.out.lines rfl rfl;have hnH:=jG.out.low;have hgl:=jG.out.blk.lt;have rF:=aC HB.out
     -- the line has a new row
     obtain ⟨w2,hw2⟩:∃ x,x=w1.setCell ⟨b,0,none⟩ (.slice va (fM S k).length vc):=⟨_,rfl⟩;have qg:Mod (eF b) w1 w2:=by rw [hw2];exact Mod.dq b 0 _
     have gm:dh w2 b [.slice va (fM S k).length vc,.int .i64 (S.line k).heard] 120:=by rw [hw2];exact (Sh.out.mod fg.out (fun e=>e)).set 0 _
     have hvb:(Value.slice va (fM S k).length vc).ownBlock≠some b:=fun e=>by have:=(ft fc.out e).1;omega
     have zv:w2.ownsRow n 91 1 (.slice va (fM S k).length vc) (yr.kZ S b).length ((yr.kZ S b).map iz):=by
      have h1:=gD fc.out qg (fun z _ _ e q=>hvb (by rw [e];exact ae some q));rw [HL2.out,QW];exact uP h1 (by omega)
     have lP:ko w2 (yr.lo n) (yr.kZ S b) yr.kI yr.kJ (fM S k):=by
      refine ((jG.out.WG qI.out HB.out).quiet fg.out).mod qg (fun z hz' e=>?_) (fun d hd z hz' e=>?_)
      ·simp only [eF] at e;subst e;rintro (e5 | ⟨⟨cur,fr,e5⟩,_⟩)
       ·have h9:=(jG.out.own.lt z (by rw [(jG.out.own.line z rF).1];simp)).1;have h8:z<n:=e5;omega
       ·have:=Sh.out.mod fg.out (fun e=>e);unfold dh at this;rw [this] at e5;simp at e5
      ·simp only [eF] at e;subst e;have hd':d∈yr.fU z:=(al.1 hd).1;have e6:=jG.out.own.node z rF d hd' z hz';rw [(jG.out.own.line z rF).1] at e6
       cases e6
     have xI:Mod dZ w2 w2.drew:=(Mod.refl dZ w2).drewN 1;have Hj:=gm.mod xI (fun e=>e);have Cx:=gD zv xI (fun _ _ _ _ e=>e);have OO:=lP.quiet xI;have CW:wo.heap.size<=w2.drew.heap.size:=aM fg.out.size (aM qg.size xI.size);have Ps:=dU (zXu n (yr.lo n) b (yr.kZ S b) yr.kI yr.kJ ⟨fM S k,(S.line k).heard⟩ (.slice va (fM S k).length vc) w2.drew rfl Hj Cx OO (by show 0<(fM S k).length;omega) fn4 fn1 fn2 fn3 (by omega));have vy:=Qo ⟨fM S k,(S.line k).heard⟩;have hsub:(yr.kZ S b).Sublist (yr.fU b):=bQ;have uF:b∉yr.kZ S b:=fun q=>by
      have hd':b∈yr.fU b:=(al.1 q).1;have e6:=jG.out.own.node b rF b hd' b (.inl rfl);rw [(jG.out.own.line b rF).1] at e6
      cases e6
     have HTU:Hid (∀ w7 (v7:Value) (yD vq:Nat->Value),ko w7 (yr.lo n) (yr.kZ S b) yD vq (mZ ⟨fM S k,(S.line k).heard⟩).1.nodes->eX w7 (yr.lo n) v7 (mZ ⟨fM S k,(S.line k).heard⟩).2->lE w2.drew v7->(∀ d∈yr.kZ S b,iC w2.drew (yr.kI d) (yD d)/\iC w2.drew (yr.kJ d) (vq d))->Mod (fun z=>z∈yr.kZ S b) w2.drew w7 ->
       ∃ y7,du w7 n c g y7 (rS S k (mZ ⟨fM S k,(S.line k).heard⟩).1)/\rL wo yr w7 y7/\eX w7 (y7.lo n) v7 (mZ ⟨fM S k,(S.line k).heard⟩).2/\∀ z,v7.ownBlock=some z->y7.own z=.no):=fun w7 v7 yD vq q1 q2 q3 q4 q5=>by
      have ix:Mod (fun z=>z=b\/z∈yr.kZ S b) wo w7:=((fg.out.mono (fun _ _ e=>e.elim)).trans ((qg.mono (fun _ _ e=>.inl e)).trans (xI.mono (fun _ _ e=>e.elim)))).trans (q5.mono (fun _ _ e=>.inr e));have hvn:∀ z,(Value.slice va (fM S k).length vc).ownBlock=some z->z∉yr.kZ S b:=fun z hz' q=>by
       have h1:=(ft fc.out hz').1;have hd':z∈yr.fU b:=(al.1 q).1;have e6:=jG.out.own.node b rF z hd' z (.inl rfl);have:=(jG.out.own.lt z (by rw [e6];simp)).2;omega
      obtain ⟨y7,r1,r2,r3,r4,r5,r6,r7,r8⟩:=jG.out.MJ qI.out HB.out (l':=(mZ ⟨fM S k,(S.line k).heard⟩).1) ix (Hj.mod q5 uF) (gD Cx q5 (fun z _ _ e q=>hvn z e q)) q1 hsub (.inr fun z hz'=>(ft fc.out hz').1) (fun d hd=>⟨(iC.refl wo _).trans (q4 d hd).1 CW,(iC.refl wo _).trans (q4 d hd).2 CW⟩);refine ⟨y7,r1,⟨r2,r3,r4,r5,r6⟩,by rw [r8];exact q2,fun z hz'=>r7 z (aM CW (q3 z hz')) (fun e=>?_) (fun d hd q=>q1.row q2 hd q hz')⟩;have h1:=ft (gD Cx q5 (fun z _ _ e q=>hvn z e q)) e;obtain ⟨_,_,cur,fX⟩:=h1;obtain ⟨_,kf,Eb⟩:=q2.block hz';rw [fX] at Eb;simp at Eb
     have HFS:=dU hFS;have Zu:=dU BX;have HML:=dU vy;have HLF:Hid (qx (rS S k (mZ ⟨fM S k,(S.line k).heard⟩).1) (mZ ⟨fM S k,(S.line k).heard⟩).2=eW S k):=rfl;have hg2:g<w2.heap.size:=aG hgl (aM fg.out.size qg.size);have QA:b<w2.heap.size:=gm.lt;clear Jf e1 e2 fn1 fn2 fn3 hFS BX hnH hgl qg gm hvb zv lP xI Hj Cx OO CW vy hsub uF oY Kq jG fc fg hz he;go_upto_region 6 with fail;rw [<-hw2];clear hw2 b0 f0 zb1;go_region_with (first
      | (go_at_call 61;refine Ps.out.mono ?_;rintro e w7 ⟨v7,yD,vq,rfl,q1,q2,q3,q4,q5⟩;obtain ⟨y7,uz,uJ,rG,po⟩:=HTU.out w7 v7 yD vq q1 q2 q3 q4 q5;(have pS:=dU (Lf n c g y7 _ _ _ w7 uz rG po (by have:=HML.out;show S.net.lost+_<=_;simp only at this;omega)));(have IP:=dU (nj.out.trans uJ));obtain ⟨RM,RL,re⟩:=q2.slice;subst re;clear uz uJ rG po q1 q2 q3 q4 q5 Ps HTU)
      | (go_at_call 48;refine pS.out.mono ?_;rintro e w8 ⟨⟨x8,rfl⟩,y8,uK,xW⟩)
      | fail)
     all_goals
      rw [HLF.out] at uK;have IV:=dU (yFf n c g y8 (eW S k) k w8 uK HFS.out Zu.out (by rw [sH];exact qI.out) hc);have Zo:=dU (IP.out.trans xW.Ja);clear uK xW pS;go_wp2_with fail;refine IV.out.mono ?_;rintro e w9 ⟨rfl,y9,El,DD⟩;have HF:Hid (du w9 n c g y9 (kQ s (k+1))/\rL w y w9 y9):=⟨by rw [HE.out];exact El,Zo.out.trans DD.Ja⟩;clear El DD IV;go_wp2_with fail;go_roundw
      case rel=>exact ⟨k+1,y9,by omega,by go_num,HF.out.1,HF.out.2⟩
      case measure=>simp [intOf];omega
  ·obtain rfl:k=s.lines.length:=by omega
   have t3:=LO tA.safe;obtain ⟨u1,u2,-⟩:=sV tA.safe;have uH:=(u2.rV u1 tA.held).held;have vM:=dU (TR n c g yr _ wo hH tA.safe (by omega));have pS:Hid (∀ wq yq,du wq n c g yq (jd (kQ s s.lines.length))->Calls Tryz.prog 43 #[.pointer (some ⟨g,0,none⟩)] wq fun e w'=>e=.returned (.tuple #[])/\∃ y',du w' n c g y' (jz s)/\eJ wq yq w' y'):=fun wq yq hq=>UR n c g yq _ wq hq u1 uH hc (show (jd (kQ s s.lines.length)).net.lost+750300<=4611686018427387904 by omega);have HK:=dU hK;clear hH hK tA tL t3 u1 u2 uH;go_wp2_with fail;refine vM.out.mono ?_;rintro e w1 ⟨rfl,y1,jr,pP⟩;have PN:=dU (pS.out w1 y1 jr);have Aa:=dU (HK.out.trans pP.Ja);clear jr pP vM pS;go_wp2_with fail;refine PN.out.mono ?_;rintro e w2 ⟨rfl,y2,mS,hK2⟩;have HF:Hid (∃ y',du w2 n c g y' (jz s)/\rL w y w2 y'):=⟨y2,mS,Aa.out.trans hK2.Ja⟩;clear mS hK2 PN;go_wp2_with fail;go_end0;exact ⟨rfl,HF.out⟩
end Go.Proofs.YtmaiggbnceejiaaGreatDoor
