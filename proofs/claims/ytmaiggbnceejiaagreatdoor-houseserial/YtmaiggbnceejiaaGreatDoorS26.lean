import Derived.Test.YtmaiggbnceejiaaGreatDoorS25
set_option linter.unusedVariables false
set_option maxRecDepth 100000
set_option maxHeartbeats 16000000
namespace Go.Proofs.YtmaiggbnceejiaaGreatDoor
open Go.RowKit Go.Lib Go.Maps
def iB(l:jG):List Int:=l.nodes.map fun (x:eK)=>x.id
def JH(l:jG)(x:eK):List dw:=(kz (jL x (nz l) (iB l))).2
def pw(l:jG)(j:Nat):List eK:=(l.nodes.take j).map (kG l)++l.nodes.drop j
def qa(l:jG)(j:Nat):List dw:=(l.nodes.take j).flatMap (JH l)
theorem ySb{l:jG}{j:Nat}{x:eK}(h:l.nodes[j]?=some x):(pw l j)[j]?=some x:=by
 have hj:=(aB.1 h).1;unfold pw;rw [aM (by simp;omega)];simp only [ar,aZ,cz];rw [show j+(j - min j l.nodes.length)=j by omega];exact h
theorem ySa{l:jG}{j:Nat}{x:eK}(h:l.nodes[j]?=some x):(pw l j).set j (kG l x)=pw l (j+1):=by
 have hj:=(aB.1 h).1;unfold pw;rw [qg h,ay,uh h];rw [dP _ _ (by simp;omega)];have e:j - ((l.nodes.take j).map (kG l)).length=0:=by simp;omega
 rw [e];simp
theorem ySc(l:jG):pw l l.nodes.length=(mZ l).1.nodes:=by
 unfold pw;rw [bJ,cj,cW];rfl
theorem zWg{l:jG}{j:Nat}{x:eK}(h:l.nodes[j]?=some x):qa l (j+1)=qa l j++JH l x:=by unfold qa;rw [qg h,dG];simp
theorem yAx(l:jG):qa l l.nodes.length=(mZ l).2:=by unfold qa;rw [bJ];rfl
theorem yTv(l:jG)(x:eK):(JH l x).length<=1:=Ly _
theorem yAw(l:jG):∀ j,(qa l j).length<=j:=by
 intro j
 induction j with
 | zero=>simp [qa]
 | succ j ih=>
  by_cases hj:j<l.nodes.length
  ·rw [zWg (aA hj),aD];have:=yTv l (l.nodes[j]);omega
  ·have e:l.nodes.take (j+1)=l.nodes.take j:=by rw [bL (by omega),bL (by omega)]
   unfold qa at ih ⊢;rw [e];omega
theorem jA.WU{G:Nat->Prop}{w w':World}{v:Value}{ns:List Int}(h:jA w v ns)(hm:Mod G w w')(hG:∀ k,v.ownBlock=some k->¬ G k):jA w' v ns:=by
 obtain ⟨a,cap,h1,h2,h3,h4⟩:=h;refine ⟨a,cap,h1,h2,h3,?_⟩;rcases h4 with h4 | ⟨b,off,h5,h6⟩
 ·exact .inl h4
 ·exact .inr ⟨b,off,h5,fun j x hx=>hm.cell (h6 j x hx) (hG b (by rw [h1,h5];rfl))⟩
theorem ko.mod{G:Nat->Prop}{w w':World}{L:Lo}{bs:List Nat}{nv lv:Nat->Value}{ns:List eK}(h:ko w L bs nv lv ns)(hm:Mod G w w')(hq:Qm w L G)(hG:∀ c∈bs,∀ z,gw c (nv c) (lv c) z->¬ G z):ko w' L bs nv lv ns:=
 ⟨h.len,h.nd,fun j c s hc hs=>fe.mod (h.node j c s hc hs) hm hq (hG c (aC hc)),h.ap⟩
theorem ko.row{w:World}{L:Lo}{bs:List Nat}{nv lv:Nat->Value}{ns:List eK}(h:ko w L bs nv lv ns){v:Value}{ms:List dw}(hv:eV w L v ms){c:Nat}(hc:c∈bs){z:Nat}(hz:gw c (nv c) (lv c) z):v.ownBlock≠some z:=fun e=>by
 obtain ⟨_,cur,fN⟩:=hv.block e;obtain ⟨j,hj⟩:=aO hc;have hjl:j<ns.length:=by have:=(aB.1 hj).1;have:=h.len;omega
 have hN:=h.node j c _ hj (aA hjl);rcases hz with q | q | q
 ·have hB:=hN.blk;unfold dg at hB;rw [<-q,fN] at hB;simp at hB
 ·obtain ⟨_,_,kh,h2⟩:=fW hN.ns q;rw [fN] at h2;simp at h2
 ·obtain ⟨us,_,h3,_⟩:=hN.lg;obtain ⟨_,_,kh,h2⟩:=fW h3 q;rw [fN] at h2;simp at h2
theorem zXw(n:Nat)(L:Lo)(b:Nat)(bs:List Nat)(nv lv:Nat->Value)(l:jG)(rv:Value)(w:World)(hLn:L.n=n)(hB:dg w b [rv,.int .i64 l.heard] 120)(hr:w.ownsRow n 91 1 rv bs.length (bs.map jC))(hN:ko w L bs nv lv l.nodes)(hne:0<l.nodes.length)(h4:l.nodes.length<=4)
  (hE:0<=nz l/\nz l<=100) (iS:∀ x∈l.nodes,x.dk<nz l) (hid:(iB l).Nodup) (kD:n<=w.heap.size) :
  Calls Tryz.prog 61 #[.pointer (some ⟨b,0,none⟩)] w fun e w'=>∃ v oQ ja,e=.returned v/\ko w' L bs oQ ja (mZ l).1.nodes/\eV w' L v (mZ l).2/\lC w v/\(∀ c∈bs,iF w (nv c) (oQ c)/\iF w (lv c) (ja c))/\Mod (fun z=>z∈bs) w w':=by
 obtain ⟨j0,hj,Hf,He,Hd⟩:=info_parts Tryz.ry;have hlen:=hN.len;obtain ⟨d0,hd0⟩:∃ d,bs[0]?=some d:=⟨_,aA (by omega)⟩;obtain ⟨x0,hx0⟩:∃ x,l.nodes[0]?=some x:=⟨_,aA hne⟩;have PH:=hN.node 0 d0 x0 hd0 hx0;have Sf:nz l=x0.dk+1:=by unfold nz;rw [aI,hx0];rfl
 have b0:=hB.cell 0 rfl;obtain ⟨ng,pr,pC,cn⟩:=wB hr hd0;rw [pC,hlen] at b0;have rX:=dV (yLh _ _ _ _ _ _ PH);have hint:gO (nz l):=by unfold gO;omega
 obtain ⟨w1,hw1⟩:∃ x,x=w.alloc (.cells #[.int .i64 (x0.dk+1),.slice none 0 0] 160):=⟨_,rfl⟩;have dh:Mod dZ w w1:=by rw [hw1];exact (Mod.refl _ w).alloc _
 have ff:dg w1 w.heap.size [.int .i64 (x0.dk+1),.slice none 0 0] 160:=by rw [hw1];exact dg.new w _ _
 have zb:=hB.lt;have hrI:(0:Int)<(l.nodes.length:Int):=by omega
 have Ai:-1<=x0.dk/\x0.dk<=99:=by omega
 have HN:=dV hN;have HB:=dV hB;have CP:Hid (w.ownsRow n 91 1 rv bs.length (bs.map jC)):=hr;have ZY:=dV pC;have b1:=dh.cell b0 (fun e=>e);have zb1:=aH zb dh.size;have fJ:=dV dh;have kA:=dV ff;have HEQ:=dV Sf;have HID0:Hid (iB l=iB l):=rfl;clear hB hr hN PH pC hx0 hd0 dh ff Sf;go_enter Tryz.func61,Tryz.ntmps61;go_upto_region 2 with (first
  | (go_at_call 106;refine rX.out.mono ?_;rintro e w2 ⟨rfl,rfl⟩)
  | fail)
 rw [<-hw1];clear hw1 b0 zb rX;go_wp2_with fail;go_loopw [25] (fun i0 wr=>∃ (i:Nat) (cv:Value),i<=l.nodes.length/\i0=.int .i64 i/\dg wr w2.heap.size [.int .i64 (x0.dk+1),cv] 160/\wr.ownsRow w2.heap.size 3 1 cv ((iB l).take i).length (((iB l).take i).map (Value.int .i64))/\Mod dZ w2 wr) (fun i0 _=>l.nodes.length - (intOf i0).toNat)
 case atStart=>exact ⟨0,.slice none 0 0,aT _,rfl,kA.out,World.ownsRow_nil _ _ _ _,fJ.out⟩
 case round=>
  obtain ⟨i,cv,hil,rfl,hBr,hrow,hM⟩:=hrel;obtain ⟨wo,hwo⟩:∃ x,x=wr:=⟨_,rfl⟩;subst hwo;obtain ⟨ca,rG,hcv⟩:=eu hrow;subst hcv;have htl:((iB l).take i).length=i:=by unfold iB;rw [aZ,ar];omega
  rw [htl] at hBr hrow;by_cases hlt:i<l.nodes.length
  ·obtain ⟨d,hd⟩:∃ d,bs[i]?=some d:=⟨_,aA (by omega)⟩;obtain ⟨x,hx⟩:∃ x,l.nodes[i]?=some x:=⟨_,aA hlt⟩;have Im:=HN.out.node i d x hd hx;obtain ⟨NI,NK,hv',PW⟩:=wB CP.out hd;have XW:NI=ng:=by
    rw [ZY.out] at hv';simp only [Value.slice.injEq,ae,Addr.mk.injEq] at hv';exact hv'.1.1.symm
   subst XW;have cd:=hM.cell PW (fun e=>e);have Oa:(iB l).take (i+1)=(iB l).take i++[x.id]:=qg (by unfold iB;rw [aa,hx];rfl);have Yi:Mod dZ w2 wo.drew:=hM.drewN 1;have Zj:=dV (Im.quiet Yi);have HRi:Hid (wo.drew.ownsRow w2.heap.size 3 1 (.slice ca i rG) i (((iB l).take i).map (Value.int .i64))):=fm hrow ((Mod.refl dZ wo).drewN 1) (fun _ _ _ _ e=>e);have q1:=hBr.cell 1 rfl;have f1:=hBr.frozen 1;have zc:=hBr.lt;have hnc:=oP hrow hBr (by decide);have AF:=hM.size;have xw:(i:Int)<(l.nodes.length:Int):=by omega
   have hi0:(0:Int)<=(i:Int):=by omega
   have iJ:i+1<=maxLen:=by unfold maxLen;omega
   have iK:(i+1)*8<=140737488355328:=by omega
   have HBr:=dV hBr;have HMd:=dV Yi;have mY:=dV Oa;have Zl:=dV hnc;have LM:=dV htl;have hlx:(((iB l).take i).map (Value.int .i64)).length=i:=by rw [ar,htl]
   clear Im hv' PW hM Yi hrow hBr Oa hd hx hnc htl;go_upto_region 5 with fail
   go_region_law
    ((first
     | (go_simp;go_at_call 98;(refine (VX _ _ _ _ _ _ Zj.out).mono ?_;rintro e w5 ⟨rfl,rfl⟩))
     | (refine step_append_lies _ (by rfl) _ _ _ (by rfl) w2.heap.size 3 j0 _ 1 8 Tryz.underlying26 hj Hf He Hd rfl (by decide) _ _ _ (by rfl) (HRi.out.alloc _) ⟨wo.heap.size,0,none⟩ 1 1 [.int .i64 x.id] (by rfl) (by rfl) (World.news_of_block (heap_alloc_new wo.drew _)) (by simp [Value.oneCell']) (by omega) iJ iK (by simp;omega) _ rfl ?_;intro g6 lT w6 iC hgrow hat DV;have ik:Mod (fun k=>(Value.slice ca i rG).ownBlock=some k) wo.drew w6:=((Mod.refl _ wo.drew).alloc _).grown hgrow (fun x hx _=>hx);have d6:=ik.cell q1 Zl.out;have e6:=(ik.frozen (p:=⟨w2.heap.size,1,none⟩) zc Zl.out).trans f1)
     | fail))
   all_goals
    have LH:dg w6 w2.heap.size [.int .i64 (x0.dk+1),.slice ca i rG] 160:=(HBr.out.mod ((Mod.refl dZ wo).drewN 1) (fun e=>e)).mod ik Zl.out;have ib:Mod (eA w2.heap.size) w6 (w6.setCell ⟨w2.heap.size,1,none⟩ (.slice (some ⟨g6,0,none⟩) (i+1) lT)):=Mod.dt _ 1 _;have hn6:=oP iC LH (by decide);have HF:Hid (dg (w6.setCell ⟨w2.heap.size,1,none⟩ (.slice (some ⟨g6,0,none⟩) (i+1) lT)) w2.heap.size [.int .i64 (x0.dk+1),.slice (some ⟨g6,0,none⟩) (i+1) lT] 160/\(w6.setCell ⟨w2.heap.size,1,none⟩ (.slice (some ⟨g6,0,none⟩) (i+1) lT)).ownsRow w2.heap.size 3 1 (.slice (some ⟨g6,0,none⟩) (i+1) lT) ((iB l).take (i+1)).length (((iB l).take (i+1)).map (Value.int .i64))/\Mod dZ w2 (w6.setCell ⟨w2.heap.size,1,none⟩ (.slice (some ⟨g6,0,none⟩) (i+1) lT))):=by
     refine ⟨LH.set 1 _,?_,?_⟩
     ·have h7:=fm iC ib (fun k _ _ e q=>hn6 (by rw [e];exact ai some q));rw [mY.out,aD,ay,LM.out];exact h7
     ·have h6:Mod dZ w2 w6:=HMd.out.trans' ik (fun k hk e=>by have:=(fW HRi.out e).1;omega);exact h6.trans' ib (fun k hk e=>by simp only [eA] at e;omega)
    clear LH ib hn6 iC hgrow hat DV ik;go_wp2_with fail;go_roundw
    case rel=>exact ⟨i+1,_,by omega,by go_num,HF.out.1,HF.out.2.1,HF.out.2.2⟩
    case measure=>simp [intOf];omega
  ·obtain rfl:i=l.nodes.length:=by omega
   have DY:(iB l).take l.nodes.length=iB l:=bL (by unfold iB;simp);rw [DY] at hrow;have qD:(iB l).length=l.nodes.length:=by unfold iB;simp
   have HBr:=dV hBr;have BR:Hid (jA wo (.slice ca l.nodes.length rG) (iB l)):=by
    have:wo.ownsRow w2.heap.size 3 1 (.slice ca l.nodes.length rG) (iB l).length ((iB l).map (Value.int .i64)):=by rw [qD];exact hrow
    exact jA.iA this
   have Fz:Hid (∀ z,(Value.slice ca l.nodes.length rG).ownBlock=some z->w2.heap.size<=z):=fun z hz=>(fW hrow hz).1;have BJ:=dV hM;have HIL:=dV qD;have bo:=hM.cell (HB.out.cell 0 rfl) (fun e=>e);rw [ZY.out,hlen] at bo;clear hBr hrow hM DY htl qD;go_wp2_with fail;go_loopw [6,42] (fun tv j1 wr=>∃ (j:Nat) (Gx Ha:Nat->Value),j<=l.nodes.length/\j1=.int .i64 j/\ko wr L bs Gx Ha (pw l j)/\eV wr L tv (qa l j)/\lC wo tv/\(∀ c∈bs,iF w2 (nv c) (Gx c)/\iF w2 (lv c) (Ha c))/\Mod (fun z=>z∈bs) wo wr) (fun _ j1 _=>l.nodes.length - (intOf j1).toNat)
   case atStart=>exact ⟨0,nv,lv,aT _,rfl,HN.out.quiet BJ.out,eV.nil _ _,fun k hk=>by simp [Value.ownBlock] at hk,fun c _=>⟨iF.refl _ _,iF.refl _ _⟩,Mod.refl _ _⟩
   case round=>
    obtain ⟨j,Gx,Ha,hjl,rfl,wg,PD,gI,hmv,Ip⟩:=hrel;obtain ⟨ta,gL,oS⟩:=PD.slice;subst oS;have wT:=yAw l j;by_cases pF:j<l.nodes.length
    ·obtain ⟨d,hd⟩:∃ d,bs[j]?=some d:=⟨_,aA (by omega)⟩;obtain ⟨x,hx⟩:∃ x,l.nodes[j]?=some x:=⟨_,aA pF⟩;have xy:=aC hd;have Ye:=wg.node j d x hd (ySb hx);obtain ⟨NI,NK,hv',PW⟩:=wB CP.out hd;have XW:NI=ng:=by
      rw [ZY.out] at hv';simp only [Value.slice.injEq,ae,Addr.mk.injEq] at hv';exact hv'.1.1.symm
     subst XW;have OH:NI∉bs:=fun q=>by
      obtain ⟨i,hi⟩:=aO q;have hi':i<l.nodes.length:=by have:=(aB.1 hi).1;omega
      have PN:=(HN.out.node i NI _ hi (aA hi')).blk;exact oP CP.out PN (by decide) (by rw [hv'];rfl)
     have cd:=Ip.cell (BJ.out.cell PW (fun e=>e)) OH;have De:∀ c∈bs,c<w2.heap.size:=fun c hc=>by
      obtain ⟨i,hi⟩:=aO hc;have hi':i<l.nodes.length:=by have:=(aB.1 hi).1;omega
      exact (HN.out.node i c _ hi (aA hi')).blk.lt
     have hcb:w2.heap.size∉bs:=fun q=>by have:=De _ q;omega
     have hBw:=HBr.out.mod Ip hcb;have p0:=hBw.cell 0 rfl;have p1:=hBw.cell 1 rfl;have hIV:=BR.out.WU Ip (fun k hk q=>by have:=Fz.out k hk;have:=De k q;omega);have Ym:=yTq L d (Gx d) (Ha d) x (nz l) (.slice ca l.nodes.length rG) (iB l) wr Ye (by have:=iS x (aC hx);omega) hint hIV (fun z hz=>by
      unfold iB at hz;obtain ⟨q,hq,rfl⟩:=af.1 hz;obtain ⟨i,hi⟩:=aO hq;have hi':=(aB.1 hi).1;obtain ⟨c,hc⟩:∃ c,bs[i]?=some c:=⟨_,aA (by omega)⟩;exact (HN.out.node i c q hc hi).ints.1) (by rw [HIL.out];omega) (by rw [HIL.out];omega) ((zXt _ _).2 ⟨hid,by simp⟩)
     have Yg:Hid (qa l (j+1)=qa l j++(kz (jL x (nz l) (iB l))).2):=zWg hx;have Yf:Hid ((pw l j).set j (kz (jL x (nz l) (iB l))).1=pw l (j+1)):=ySa hx;rw [HEQ.out] at Ym Yg Yf;have HHB:=dV Ym;have IW:(j:Int)<(l.nodes.length:Int):=by omega
     have hj00:(0:Int)<=(j:Int):=by omega
     have hbl:=Ly (jL x (x0.dk+1) (iB l));have oM:=dV wg;have Px:=dV PD;have kI:=dV gI;have HMV:=dV hmv;have km:=dV Ip;have HD:=dV hd;have HBS:=dV De;have HNJ:=dV Ye;clear wg PD gI hmv Ip Ye hv' PW OH hBw hIV Ym hx hd hcb De;go_upto_region 12 with (first
      | (go_at_call 107;refine HHB.out.mono ?_;rintro e w5 ⟨r5,DB,lv5,rfl,mj,sX,CI,IG,IN,eP⟩)
      | fail)
     have IM:Mod (gw d (Gx d) (Ha d)) wr w5:=eP.mono (fun _ _ e=>.inl e);have Dl:=oM.out.turn HD.out IM mj (.inr IG) IN;rw [Yf.out] at Dl;have Am:eV w5 L (.slice ta (qa l j).length gL) (qa l j):=Px.out.mod IM (fe.qm HNJ.out) (fun k hk q=>oM.out.row Px.out xy q hk);obtain ⟨v6,w6,Nr,vQ,Kn,tR⟩:=Am.join sX (by omega) (by rw [hLn];exact aJ kD (aJ BJ.out.size (aJ km.out.size eP.size))) 76;obtain ⟨ra5,rc5,hr5⟩:=sX.slice;subst hr5;rw [<-Yg.out] at vQ;obtain ⟨va6,vc6,sB⟩:=vQ.slice;subst sB;have fs:Mod (fun k=>(Value.slice ta (qa l j).length gL).ownBlock=some k) w5 w6:=(Mod.refl _ w5).grown Kn (fun x hx _=>hx);have CB:Qm w5 L (fun k=>(Value.slice ta (qa l j).length gL).ownBlock=some k):=by
      obtain ⟨us,_,h2,_⟩:=Am;exact Qm.row h2 (aF _) (by decide)
     have Fb:=Dl.mod fs CB (fun c hc z hz q=>Dl.row Am hc hz q);have FD:=aJ km.out.size eP.size;have HF:Hid (∃ oQ ja:Nat->Value,ko w6 L bs oQ ja (pw l (j+1))/\eV w6 L (.slice va6 (qa l (j+1)).length vc6) (qa l (j+1))/\lC wo (.slice va6 (qa l (j+1)).length vc6)/\(∀ c∈bs,iF w2 (nv c) (oQ c)/\iF w2 (lv c) (ja c))/\Mod (fun z=>z∈bs) wo w6):=by
      refine ⟨kC Gx d DB,kC Ha d lv5,Fb,vQ,fun k hk=>?_,fun c hc=>?_,?_⟩
      ·rcases tR with e | e
       ·exact kI.out k (by rw [<-e];exact hk)
       ·rw [e] at hk;simp only [ae] at hk;omega
      ·by_cases e:c=d
       ·subst e;rw [uJ,uJ];have hzz:=aJ BJ.out.size km.out.size;exact ⟨.inr fun k hk=>aJ hzz (IG k hk),(HMV.out c hc).2.trans IN hzz⟩
       ·rw [uK _ _ e,uK _ _ e];exact HMV.out c hc
      ·exact (km.out.trans' eP (fun i hi e=>by simp only [eA] at e;rw [e];exact xy)).trans' fs (fun i hi e=>by have:=kI.out i e;omega)
     clear Dl Am vQ sX mj CI IG IN eP IM Kn tR fs CB Fb Yg Yf oM Px HHB cd p0 p1;go_wp2_with (first
      | (at_builtin;refine MV rfl (ze (s:=.tmp 52) (x:=.tmp 53) (t:=76) rfl (by go_simp) (by go_simp) Nr) ?_)
      | fail)
     obtain ⟨oQ,ja,f1,f2,f3,f4,f5⟩:=HF.out;go_roundw
     case rel=>exact ⟨j+1,oQ,ja,by omega,by go_num,f1,f2,f3,f4,f5⟩
     case measure=>simp [intOf];omega
    ·obtain rfl:j=l.nodes.length:=by omega
     rw [ySc] at wg;have PC:eV wr L (.slice ta (qa l l.nodes.length).length gL) (mZ l).2:=by
      have e:=PD;generalize (qa l l.nodes.length).length=q at e ⊢;rw [yAx] at e;exact e
     have HF:Hid (∃ v oQ ja,Ending.returned (.slice ta (qa l l.nodes.length).length gL)=.returned v/\ko wr L bs oQ ja (mZ l).1.nodes/\eV wr L v (mZ l).2/\lC w2 v/\(∀ c∈bs,iF w2 (nv c) (oQ c)/\iF w2 (lv c) (ja c))/\Mod (fun z=>z∈bs) w2 wr):=⟨_,Gx,Ha,rfl,wg,PC,fun k hk=>aJ BJ.out.size (gI k hk),hmv,(BJ.out.mono (fun _ _ e=>e.elim)).trans Ip⟩;clear wg PD PC gI hmv Ip;go_wp2_with fail;go_ret;exact HF.out
theorem dx.FB{w:World}{n c g:Nat}{y:dY}{s:dX}(h:dx w n c g y s){k b:Nat}(hk:k<s.lines.length)(hb:y.gF[k]?=some b):ko w (y.lo n) (y.fL b) y.kK y.kL (s.line k).nodes:=by
 have hL:=h.line k b _ hb (ma hk);have kX:=aC hb;refine ⟨hL.len,yBu h.own.yu kX,hL.node,fun d hd d' hd' hne z hz hz'=>?_⟩;have e1:=h.own.node b kX d hd z hz;rw [h.own.node b kX d' hd' z hz'] at e1
 cases e1
 exact hne rfl
theorem ko.some{w:World}{L:Lo}{bs:List Nat}{nv lv:Nat->Value}{ns:List eK}(h:ko w L bs nv lv ns){js:List Nat}(hp:js.Pairwise (·<·))(hj:∀ j∈js,j<bs.length):ko w L (js.map fun j=>bs.getD j 0) nv lv (js.map fun j=>ns.getD j ⟨0,0,[],[],0⟩):=by
 have hg:∀ j,j<bs.length->bs[j]?=Option.some (bs.getD j 0):=fun j hj=>by rw [aI,aA hj];rfl
 refine ⟨by simp,?_,fun i c s hc hs=>?_,fun c hc c' hc'=>?_⟩
 ·rw [List.Nodup,cB];refine cr ?_ hp;intro a b ha hb hab e;have h1:=hg a (hj a ha);have h2:=hg b (hj b hb);rw [e] at h1;have:=GK h.nd h1 h2;omega
 ·simp only [aa,cL] at hc hs;obtain ⟨j,FN,rfl⟩:=hc;obtain ⟨j',CE,rfl⟩:=hs;rw [FN] at CE;cases CE
  have hjl:=hj j (aC FN);refine h.node j _ _ (hg j hjl) ?_;have:=h.len;rw [aI,aA (by omega)];rfl
 ·have hin:∀ c∈js.map (fun j=>bs.getD j 0),c∈bs:=fun c hc=>by
   obtain ⟨j,FN,rfl⟩:=af.1 hc;exact aC (hg j (hj j FN))
  exact h.ap c (hin c hc) c' (hin c' hc')
open Classical in
noncomputable def oF(w:World)(y:dY)(b:Nat)(rv:Value)(bs:List Nat)(nv lv:Nat->Value)(x:Nat):Tag:=
 if w.heap.size<=x/\rv.ownBlock=some x then .line b else if h:w.heap.size<=x/\∃ c∈bs,gw c (nv c) (lv c) x then .node (Classical.choose h.2) else y.own x
theorem Qx(w:World)(y:dY)(b:Nat)(rv:Value)(bs:List Nat)(nv lv:Nat->Value){x:Nat}(h:x<w.heap.size):oF w y b rv bs nv lv x=y.own x:=by
 unfold oF;rw [aK (fun e=>by omega),dif_neg (fun e=>by omega)]
theorem dx.Mr{w w':World}{n c g:Nat}{y:dY}{s:dX}(h:dx w n c g y s){k b:Nat}(hk:k<s.lines.length)(hb:y.gF[k]?=some b){rv:Value}{bs:List Nat}{nv lv:Nat->Value}{l':jG}
  (hm:Mod (fun z=>z=b\/z∈bs) w w') (hB:dg w' b [rv,.int .i64 l'.heard] 120) (hr:w'.ownsRow n 91 1 rv bs.length (bs.map jC)) (hN:ko w' (y.lo n) bs nv lv l'.nodes) (hs:bs.Sublist (y.fL b)) (h1:iF w (y.rR b) rv) (h2:∀ c∈bs,iF w (y.kK c) (nv c)/\iF w (y.kL c) (lv c)) :
  ∃ y',dx w' n c g y' (rn s k l')/\iG w y w' y'/\y'.gF=y.gF/\y'.jo=y.jo/\y'.lv=y.lv/\y'.tv=y.tv/\(∀ z,w.heap.size<=z->rv.ownBlock≠some z->(∀ c∈bs,¬ gw c (nv c) (lv c) z)->y'.own z=.no)/\y'.lo n=y.lo n:=by
 have own:=h.own;have kX:=aC hb;have hL:=h.line k b _ hb (ma hk);have wg:=h.FB hk hb;have hbs:∀ d∈bs,d∈y.fL b:=fun d hd=>hs.subset hd;have XG:∀ d∈bs,∃ x,xG w n y d x:=fun d hd=>by
  obtain ⟨j,hj⟩:=aO (hbs d hd);have hjl:j<(s.line k).nodes.length:=by have:=(aB.1 hj).1;have:=hL.len;omega
  exact ⟨_,hL.node j d _ hj (aA hjl)⟩
 have wU:∀ d∈bs,y.own d=.node d:=fun d hd=>own.node b kX d (hbs d hd) d (.inl rfl);have hq:Qm w (y.lo n) (fun z=>z=b\/z∈bs):=fun z hz e=>by
  rintro (e1 | ⟨⟨cur,fr,e1⟩,_⟩)
  ·have h8:z<n:=e1;rcases e with e | e
   ·subst e;have:=(own.lt z (by rw [(own.line z kX).1];simp)).1;omega
   ·have:=(own.lt z (by rw [wU z e];simp)).1;omega
  ·rcases e with e | e
   ·subst e;have:=hL.blk;unfold dg at this;rw [this] at e1;simp at e1
   ·obtain ⟨x,hx⟩:=XG z e;have:=hx.blk;unfold dg at this;rw [this] at e1;simp at e1
 have ht:re w w' n y (fun t=>t=.line b\/∃ d∈bs,t=.node d):=⟨⟨_,hm,hq,fun z hz e=>by
  rcases e with e | e
  ·subst e;exact ⟨.inl (own.line z kX).1,by rw [(own.line z kX).1];simp⟩
  ·exact ⟨.inr ⟨z,e,wU z e⟩,by rw [wU z e];simp⟩⟩⟩
 let y':dY:={ y with rR:=fun x=>if x=b then rv else y.rR x,fL:=fun x=>if x=b then bs else y.fL x,kK:=fun x=>if x∈bs then nv x else y.kK x,kL:=fun x=>if x∈bs then lv x else y.kL x,own:=oF w y b rv bs nv lv }
 have eB:y'.rR b=rv/\y'.fL b=bs:=by constructor <;> simp [y']
 have eN:∀ {x},x≠b->y'.rR x=y.rR x/\y'.fL x=y.fL x:=fun {x} hx=>by constructor <;> simp [y',hx]
 have eD:∀ {x},x∈bs->y'.kK x=nv x/\y'.kL x=lv x:=fun {x} hx=>by constructor <;> simp [y',hx]
 have eO:∀ {x},x∉bs->y'.kK x=y.kK x/\y'.kL x=y.kL x:=fun {x} hx=>by constructor <;> simp [y',hx]
 have dz:∀ z,y.own z≠.no->y'.own z=y.own z:=fun z hz=>Qx _ _ _ _ _ _ _ (own.lt z hz).2;have hnew:∀ z,w.heap.size<=z->y.own z=.no:=fun z hz=>aS fun e=>by have:=(own.lt z e).2;omega
 -- blocks of nodes
 have AV:∀ d∈bs,∃ x,fe w' (y.lo n) d (nv d) (lv d) x:=fun d hd=>by
  obtain ⟨j,hj⟩:=aO hd;have hjl:j<l'.nodes.length:=by have:=(aB.1 hj).1;have:=hN.len;omega
  exact ⟨_,hN.node j d _ hj (aA hjl)⟩
 have AR:∀ d∈bs,∀ z,gw d (nv d) (lv d) z->rv.ownBlock≠some z:=fun d hd z hz e=>by
  obtain ⟨x,hx⟩:=AV d hd;obtain ⟨_,_,cur,fN⟩:=fW hr e;rcases hz with q | q | q
  ·have hBl:=hx.blk;unfold dg at hBl;rw [<-q,fN] at hBl;simp at hBl
  ·obtain ⟨_,_,kh,h2⟩:=fW hx.ns q;rw [fN] at h2;simp at h2
  ·obtain ⟨us,_,h3,_⟩:=hx.lg;obtain ⟨_,_,kh,h2⟩:=fW h3 q;rw [fN] at h2;simp at h2
 have hold:∀ d∈bs,∀ z,gw d (nv d) (lv d) z->z<w.heap.size->gw d (y.kK d) (y.kL d) z:=fun d hd z hz hlt=>by
  rcases hz with e | e | e
  ·exact .inl e
  ·rcases (h2 d hd).1 with q | q
   ·exact .inr (.inl (by rw [<-q];exact e))
   ·have:=q z e;omega
  ·rcases (h2 d hd).2 with q | q
   ·exact .inr (.inr (by rw [<-q];exact e))
   ·have:=q z e;omega
 have Nw:∀ d∈bs,∀ z,gw d (nv d) (lv d) z->y'.own z=.node d:=fun d hd z hz=>by
  by_cases hlt:z<w.heap.size
  ·show oF w y b rv bs nv lv z=_;rw [Qx _ _ _ _ _ _ _ hlt];exact own.node b kX d (hbs d hd) z (hold d hd z hz hlt)
  ·show oF w y b rv bs nv lv z=_;unfold oF;have hex:w.heap.size<=z/\∃ c∈bs,gw c (nv c) (lv c) z:=⟨by omega,d,hd,hz⟩;rw [aK (fun e=>AR d hd z hz e.2),dif_pos hex];have hsp:=dQ hex.2;congr 1;exact aS fun e=>hN.ap _ hsp.1 d hd e z hsp.2 hz
 have Nx:∀ z,rv.ownBlock=some z->y'.own z=.line b:=fun z hz=>by
  by_cases hlt:z<w.heap.size
  ·show oF w y b rv bs nv lv z=_;rw [Qx _ _ _ _ _ _ _ hlt];rcases h1 with q | q
   ·exact (own.line b kX).2 z (by rw [<-q];exact hz)
   ·have:=q z hz;omega
  ·show oF w y b rv bs nv lv z=_;unfold oF;rw [aP ⟨by omega,hz⟩]
 have vI:∀ (i:Nat) l,(rn s k l').lines[i]?=some l->(i=k/\l=l')\/(i≠k/\s.lines[i]?=some l):=fun i l hl=>by
  have hl2:(s.lines.set k l')[i]?=some l:=hl;rw [qf] at hl2;by_cases e:i=k
  ·rw [aP ⟨e,by omega⟩] at hl2;exact .inl ⟨e,(ax hl2).symm⟩
  ·rw [aK (fun q=>e q.1)] at hl2;exact .inr ⟨e,hl2⟩
 have vF:∀ b'∈y.gF,b'≠b->∀ d∈y.fL b',d∉bs:=fun b' hb' hne d hd q=>hne (zWz own.yu hb' kX hd (hbs d q));refine ⟨y',⟨h.tZ ht (by simp),?_,h.oY ht (by simp),h.tY ht (by simp),h.qn,h.oX ht (by simp),?_,fun i b' l hb' hl=>?_,h.oW ht (by simp),h.kN,fun i b' t hb' hti=>(have q:=h.Dq ht hb' hti (by simp);⟨q.blk,q.ats,q.wr⟩),?_⟩,⟨hm.mono (fun z hz e=>?_),fun z hz=>Qx _ _ _ _ _ _ _ hz⟩,rfl,rfl,rfl,rfl,fun z hz hz1 hz2=>?_,rfl⟩
 ·exact h.vU ht (by simp)
 ·show y.gF.length=(s.lines.set k _).length;rw [ag];exact h.iQ
 ·have hb2:y.gF[i]?=some b':=hb';rcases vI i l hl with ⟨rfl,rfl⟩ | ⟨hne,hl2⟩
  ·rw [hb] at hb2;cases hb2
   refine ⟨by rw [eB.1];exact hB,by rw [eB.1,eB.2];exact hr,by rw [eB.2];exact hN.len,fun j d x hd hx=>?_⟩;rw [eB.2] at hd;have xy:=aC hd;show fe w' (y.lo n) d (y'.kK d) (y'.kL d) x;rw [(eD xy).1,(eD xy).2];exact hN.node j d x hd hx
  ·have tN:b'≠b:=fun q=>hne (by subst q;exact GK own.Bv hb2 hb);have Al:=aC hb2;have q:=h.qF ht hb2 hl2 (by simpa using tN) (fun d hd e=>by
    rcases e with e | ⟨d',hd',e⟩
    ·cases e
    ·cases e;exact vF b' Al tN d hd hd')
   refine ⟨by rw [(eN tN).1];exact q.blk,by rw [(eN tN).1,(eN tN).2];exact q.row,by rw [(eN tN).2];exact q.len,fun j d x hd hx=>?_⟩;rw [(eN tN).2] at hd;have oV:=vF b' Al tN d (aC hd);show fe w' (y.lo n) d (y'.kK d) (y'.kL d) x;rw [(eO oV).1,(eO oV).2];exact q.node j d x hd hx
 ·refine ⟨by rw [dz _ (by rw [own.main];simp)];exact own.main,fun z hz=>?_,fun z hz=>?_,fun z hz=>?_,?_,fun z hz=>?_,fun b' hb'=>⟨?_,fun z hz=>?_⟩,fun b' hb' d' hd' z hz=>?_,fun b' hb'=>⟨?_,fun z hz=>?_⟩,fun z hz=>?_,own.Bv,own.Eo,?_⟩
  ·rw [dz z (by rw [own.fi z hz];simp)];exact own.fi z hz
  ·rw [dz z (by rw [own.gW z hz];simp)];exact own.gW z hz
  ·rw [dz z (by rw [own.net z hz];simp)];exact own.net z hz
  ·show y'.own y.dr=_;rw [dz _ (by rw [own.dead];simp)];exact own.dead
  ·rw [dz z (by rw [own.tab z hz];simp)];exact own.tab z hz
  ·rw [dz b' (by rw [(own.line b' hb').1];simp)];exact (own.line b' hb').1
  ·by_cases e:b'=b
   ·subst e;rw [eB.1] at hz;exact Nx z hz
   ·rw [(eN e).1] at hz;rw [dz z (by rw [(own.line b' hb').2 z hz];simp)];exact (own.line b' hb').2 z hz
  ·by_cases e:b'=b
   ·subst e;rw [eB.2] at hd';rw [(eD hd').1,(eD hd').2] at hz;exact Nw d' hd' z hz
   ·rw [(eN e).2] at hd';have oV:=vF b' hb' e d' hd';rw [(eO oV).1,(eO oV).2] at hz;have:=own.node b' hb' d' hd' z hz;rw [dz z (by rw [this];simp)];exact this
  ·rw [dz b' (by rw [(own.tx b' hb').1];simp)];exact (own.tx b' hb').1
  ·rw [dz z (by rw [(own.tx b' hb').2 z hz];simp)];exact (own.tx b' hb').2 z hz
  ·have hz':oF w y b rv bs nv lv z≠.no:=hz;by_cases e1:w.heap.size<=z/\rv.ownBlock=some z
   ·exact ⟨(fW hr e1.2).1,(fW hr e1.2).2.1⟩
   ·by_cases e2:w.heap.size<=z/\∃ c∈bs,gw c (nv c) (lv c) z
    ·obtain ⟨_,d,hd,hzd⟩:=e2;obtain ⟨x,hx⟩:=AV d hd;have:=hx.lt hzd;exact ⟨this.1,this.2.1⟩
    ·have hz3:y.own z≠.no:=by
      unfold oF at hz';rw [aK e1,dif_neg e2] at hz';exact hz'
     have:=own.lt z hz3;exact ⟨this.1,aH this.2 hm.size⟩
  ·show (y.gF.flatMap y'.fL).Nodup;have hsub:∀ ls:List Nat,(ls.flatMap y'.fL).Sublist (ls.flatMap y.fL):=by
    intro ls
    induction ls with
    | nil=>exact List.Sublist.refl _
    | cons a ls ih=>
     rw [bH,bH];refine List.Sublist.append ?_ ih;by_cases e:a=b
     ·subst e;rw [eB.2];exact hs
     ·rw [(eN e).2];exact List.Sublist.refl _
   exact own.yu.sublist (hsub y.gF)
 ·rcases e with e | e
  ·subst e;rw [(own.line z kX).1];simp
  ·rw [wU z e];simp
 ·show oF w y b rv bs nv lv z=.no;unfold oF;rw [aK (fun e=>hz1 e.2),dif_neg (fun e=>by obtain ⟨_,d,hd,q⟩:=e;exact hz2 d hd q)];exact hnew z hz
structure rZ(w:World)(y:dY)(w':World)(y':dY):Prop where
 st:iG w y w' y'
 l:y'.gF=y.gF
 t:y'.jo=y.jo
 lv:y'.lv=y.lv
 tv:y'.tv=y.tv
theorem rZ.trans{w w1 w2:World}{y y1 y2:dY}(h:rZ w y w1 y1)(k:rZ w1 y1 w2 y2):rZ w y w2 y2:=⟨h.st.trans k.st,k.l.trans h.l,k.t.trans h.t,k.lv.trans h.lv,k.tv.trans h.tv⟩
theorem eL.KY{w w':World}{y y':dY}(h:eL w y w' y'):rZ w y w' y':=⟨h.st,h.l,h.t,h.lv,h.tv⟩
theorem rZ.refl(w:World)(y:dY):rZ w y w y:=(eL.refl w y).KY
theorem rZ.quiet{w w':World}{y:dY}(hm:Mod dZ w w'):rZ w y w' y:=(eL.quiet hm).KY
def kR(s:dX)(m:Nat):dX:=(List.range m).foldl eW s
theorem yCy(s:dX)(m:Nat):kR s (m+1)=eW (kR s m) m:=by unfold kR;rw [aj,al];rfl
theorem RZ(l:jG):(mZ l).2.length<=l.nodes.length:=by
 rw [<-yAx];exact yAw l _
theorem yKp{s:dX}(h:Safe s)(hH:Held s){k:Nat}(hk:k<s.lines.length):(eW s k).net.lost<=s.net.lost+4:=by
 unfold eW;split
 ·omega
 ·rename_i e;obtain ⟨e1,e2⟩:=MS e;have hF:Safe (eY s k):=h.eY hk e1 e2;obtain ⟨_,b⟩:=Uq hF (hH.lines rfl rfl) (k:=k) (by rw [wF];exact hk);show (sV (eY s k) k).net.lost<=_;rw [b.net];have h1:=(Cm (mZ ⟨fa s k,(s.line k).heard⟩).2 s.net).2;have h2:=RZ ⟨fa s k,(s.line k).heard⟩;have h3:=h.pA hk;show (ly s.net _).lost<=_;simp only at h2;omega
theorem yOy{s:dX}(h:Safe s)(hH:Held s):∀ m,m<=s.lines.length->fZ s (kR s m)/\(kR s m).net.lost<=s.net.lost+4*m:=by
 intro m
 induction m with
 | zero=>exact fun _=>⟨fZ.refl h hH,by simp [kR]⟩
 | succ m ih=>
  intro hm;obtain ⟨a,b⟩:=ih (by omega);have jx:m<(kR s m).lines.length:=by rw [a.ll];omega
  rw [yCy];have q:=(zXn a.safe a.held jx).1;have c:=yKp a.safe a.held jx;exact ⟨a.trans q,by omega⟩
theorem yOb(s:dX)(k:Nat):(iX s k).Pairwise (·<·):=List.Pairwise.filter _ List.pairwise_lt_range
theorem dx.Hb{w:World}{n c g:Nat}{y:dY}{s:dX}(h:dx w n c g y s){k b:Nat}(hk:k<s.lines.length)(hb:y.gF[k]?=some b):y.kf s b=(iX s k).map fun j=>(y.fL b).getD j 0:=by
 have hL:=h.line k b _ hb (ma hk);have e:y.fL b=(List.range (s.line k).nodes.length).map fun j=>(y.fL b).getD j 0:=by
  apply bI;intro j;rw [aa];by_cases hj:j<(s.line k).nodes.length
  ·rw [cq hj,bK,aI,aA (by rw [hL.len];exact hj)];rfl
  ·rw [ah (by rw [hL.len];omega),ah (by simp;omega)];rfl
 unfold dY.kf iX
 conv=>lhs;rw [e]
 rw [List.filter_map];congr 1;apply List.filter_congr;intro j hj;have hj':=bZ.1 hj;show gS s (y.st s ((y.fL b).getD j 0))=_;have hd:(y.fL b)[j]?=some ((y.fL b).getD j 0):=by rw [aI,aA (by rw [hL.len];exact hj')];rfl
 rw [h.kW hb (ma hk) hd (zZ hj')]
theorem dx.WX{w:World}{n c g:Nat}{y:dY}{s:dX}(h:dx w n c g y s){k b:Nat}(hk:k<s.lines.length)(hb:y.gF[k]?=some b):ko w (y.lo n) (y.kf s b) y.kK y.kL (fa s k):=by
 rw [h.Hb hk hb,<-RR];have hL:=h.line k b _ hb (ma hk);exact (h.FB hk hb).some (yOb s k) (fun j hj=>by
  obtain ⟨i,hi⟩:=aO hj;rw [hL.len];exact (EP hi).1)
theorem yOx{s:dX}(h:Safe s){k:Nat}(hk:k<s.lines.length)(hne:fa s k≠[]):(0<=nz ⟨fa s k,(s.line k).heard⟩/\nz ⟨fa s k,(s.line k).heard⟩<=100)/\(∀ x∈fa s k,x.dk<nz ⟨fa s k,(s.line k).heard⟩)/\(iB ⟨fa s k,(s.line k).heard⟩).Nodup/\(fa s k).length<=4:=by
 have hL:=h.line k hk;obtain ⟨E,h1,h2,h3⟩:=hL.ep;have hsub:(fa s k).Sublist (s.line k).nodes:=bj;have h4:=h.pA hk;have Sf:nz ⟨fa s k,(s.line k).heard⟩=E+1:=by
  unfold nz
  cases hl:fa s k with
  | nil=>exact absurd hl hne
  | cons a ns=>show a.dk+1=_;rw [h3 a (hsub.subset (by rw [hl];simp))]
 rw [Sf];refine ⟨by omega,fun x hx=>by rw [h3 x (hsub.subset hx)];omega,?_,aJ hsub.length_le h4⟩;unfold iB;rw [List.Nodup,cB];exact (hL.ord.sublist hsub).imp (fun q=>by have:=q.1;omega)
theorem yVk(n c g:Nat)(y:dY)(s:dX)(w:World)(h:dx w n c g y s)(hS:Safe s)(pH:Held s)(hc:c<=10000)(hlo:s.net.lost+751000<=4611686018427387904) :
  Calls Tryz.prog 33 #[.pointer (some ⟨g,0,none⟩)] w fun e w'=>e=.returned (.tuple #[])/\∃ y',dx w' n c g y' (mL s)/\rZ w y w' y':=by
 obtain ⟨c0,-⟩:=kF h.blk;obtain ⟨la,ey,hlv⟩:=eu h.fi;have hll:=hS.ll;have hlen:=h.iQ;rw [hlv,hlen] at c0;have CX:Hid (y.lv=.slice la s.lines.length ey):=by unfold Hid;rw [hlv,hlen]
 have HH:=dV h;have HS:=dV hS;have JY:=dV pH;clear h hS pH hlv;go_enter Tryz.func33,Tryz.ntmps33;go_wp2_with fail;go_loopw [10] (fun k0 wr=>∃ (k:Nat) (yr:dY),k<=s.lines.length/\k0=.int .i64 k/\dx wr n c g yr (kR s k)/\rZ w y wr yr) (fun k0 _=>s.lines.length - (intOf k0).toNat)
 case atStart=>exact ⟨0,y,aT _,rfl,HH.out,rZ.refl _ _⟩
 case round=>
  obtain ⟨k,yr,hkl,rfl,hH,hK⟩:=hrel;obtain ⟨wo,hwo⟩:∃ x,x=wr:=⟨_,rfl⟩;subst hwo;obtain ⟨tA,tL⟩:=yOy HS.out JY.out k hkl;by_cases hlt:k<s.lines.length
  ·have hk':k<(kR s k).lines.length:=by rw [tA.ll];exact hlt
   have OW:(kR s k).net.lost+4<=4611686018427387904:=by omega
   have jz:=dV (yCy s k);have tS:=tA.safe;have tH:=tA.held;clear tA tL;generalize kR s k=S at hH tS tH OW hk' jz;obtain ⟨b,hb,hL⟩:=hH.nJ hk';obtain ⟨lg,lcap',hv',cl⟩:=wB hH.fi hb;have FM:la=some ⟨lg,0,none⟩:=by
    have e:=hK.lv;rw [hv',CX.out] at e;simp only [Value.slice.injEq] at e;exact e.1.symm
   subst FM;have hnl:=tS.shape.nl _ (Jp hk');have hnb:(yr.fL b).length=(S.line k).nodes.length:=hL.len;have BN:=dV (UP n c g yr S k b wo hH hk' hb (by omega) (by omega));have ON:(yr.kf S b).length=(fa S k).length:=by rw [<-hH.DE hk' hb,ar]
   have HL2:=dV ON;have xu:(k:Int)<(s.lines.length:Int):=by omega
   have qs:(0:Int)<=(k:Int):=by omega
   obtain ⟨na,pr,pC⟩:=eu hL.row;have zb:=hL.blk.lt;have jH:=dV hH;have nt:=dV hK;have HB:=dV hb;have oc:=dV tS;have LN:=dV tH;have qN:=dV hk';have TA:=dV hL.blk;have HNV:=dV pC;clear hH hK hL hb hv' tS tH hk' ON pC;go_upto_region 4 with (first
    | (go_at_call 46;refine BN.out.mono ?_;rintro e w1 ⟨v,rfl,hrow,dh⟩;rw [HL2.out] at hrow;obtain ⟨va,vc,lI⟩:=eu hrow;subst lI)
    | fail)
   have b0:=(TA.out.mod dh (fun e=>e)).cell 0 rfl;have f0:=(TA.out.mod dh (fun e=>e)).frozen 0;rw [HNV.out,hnb] at b0;have zb1:=aH zb dh.size;have hlele:(fa S k).length<=(S.line k).nodes.length:=bB _ _;have fJ:=dV dh;have fY:=dV hrow;clear hrow dh BN cl;by_cases hz:(fa S k).length=0
   ·have HE:Hid (kR s (k+1)=S):=by unfold Hid;rw [jz.out];unfold eW;rw [aP (.inl hz)]
    have HF:Hid (dx w1 n c g yr (kR s (k+1))/\rZ w y w1 yr):=⟨by rw [HE.out];exact jH.out.quiet fJ.out,nt.out.trans (rZ.quiet fJ.out)⟩;have hzb:(((fa S k).length:Int) == 0)=true:=by simpa using hz
    clear hz HE;go_wp2_with fail;go_roundw
    case rel=>exact ⟨k+1,yr,by omega,by go_num,HF.out.1,HF.out.2⟩
    case measure=>simp [intOf];omega
   ·have hzb:(((fa S k).length:Int) == 0)=false:=by simpa using hz
    by_cases he:(fa S k).length=(S.line k).nodes.length
    ·have HE:Hid (kR s (k+1)=S):=by unfold Hid;rw [jz.out];unfold eW;rw [aP (.inr he)]
     have HF:Hid (dx w1 n c g yr (kR s (k+1))/\rZ w y w1 yr):=⟨by rw [HE.out];exact jH.out.quiet fJ.out,nt.out.trans (rZ.quiet fJ.out)⟩;have Ib:(((fa S k).length:Int) == ((S.line k).nodes.length:Int))=true:=by
      have:((fa S k).length:Int)=((S.line k).nodes.length:Int):=by omega
      simpa using this
     clear hz he HE;go_wp2_with (first | fail);go_roundw
     case rel=>exact ⟨k+1,yr,by omega,by go_num,HF.out.1,HF.out.2⟩
     case measure=>simp [intOf];omega
    ·have Ib:(((fa S k).length:Int) == ((S.line k).nodes.length:Int))=false:=by
      have:((fa S k).length:Int)≠((S.line k).nodes.length:Int):=by omega
      simpa using this
     have Kh:¬ ((fa S k).length=0\/(fa S k).length=(S.line k).nodes.length):=fun q=>q.elim hz he;have HE:Hid (kR s (k+1)=sV (eY S k) k):=by unfold Hid;rw [jz.out];unfold eW;rw [aK Kh];rfl
     obtain ⟨e1,e2⟩:=MS Kh;obtain ⟨fn1,fn2,fn3,fn4⟩:=yOx oc.out qN.out e1;have hFS:Safe (eY S k):=oc.out.eY qN.out e1 e2;have Fi:Held (eY S k):=LN.out.lines rfl rfl;have hnH:=jH.out.low;have hgl:=jH.out.blk.lt;have rT:=aC HB.out
     -- the line has a new row
     obtain ⟨w2,hw2⟩:∃ x,x=w1.setCell ⟨b,0,none⟩ (.slice va (fa S k).length vc):=⟨_,rfl⟩;have qq:Mod (eA b) w1 w2:=by rw [hw2];exact Mod.dt b 0 _
     have gp:dg w2 b [.slice va (fa S k).length vc,.int .i64 (S.line k).heard] 120:=by rw [hw2];exact (TA.out.mod fJ.out (fun e=>e)).set 0 _
     have hvb:(Value.slice va (fa S k).length vc).ownBlock≠some b:=fun e=>by have:=(fW fY.out e).1;omega
     have An:w2.ownsRow n 91 1 (.slice va (fa S k).length vc) (yr.kf S b).length ((yr.kf S b).map jC):=by
      have h1:=fm fY.out qq (fun z _ _ e q=>hvb (by rw [e];exact ai some q));rw [HL2.out,RJ];exact uL h1 (by omega)
     have lO:ko w2 (yr.lo n) (yr.kf S b) yr.kK yr.kL (fa S k):=by
      refine ((jH.out.WX qN.out HB.out).quiet fJ.out).mod qq (fun z hz' e=>?_) (fun d hd z hz' e=>?_)
      ·simp only [eA] at e;subst e;rintro (e5 | ⟨⟨cur,fr,e5⟩,_⟩)
       ·have h9:=(jH.out.own.lt z (by rw [(jH.out.own.line z rT).1];simp)).1;have h8:z<n:=e5;omega
       ·have:=TA.out.mod fJ.out (fun e=>e);unfold dg at this;rw [this] at e5;simp at e5
      ·simp only [eA] at e;subst e;have hd':d∈yr.fL z:=(bE.1 hd).1;have e6:=jH.out.own.node z rT d hd' z hz';rw [(jH.out.own.line z rT).1] at e6
       cases e6
     have xo:Mod dZ w2 w2.drew:=(Mod.refl dZ w2).drewN 1;have Iw:=gp.mod xo (fun e=>e);have Dh:=fm An xo (fun _ _ _ _ e=>e);have PG:=lO.quiet xo;have DG:wo.heap.size<=w2.drew.heap.size:=aJ fJ.out.size (aJ qq.size xo.size);have QX:=dV (zXw n (yr.lo n) b (yr.kf S b) yr.kK yr.kL ⟨fa S k,(S.line k).heard⟩ (.slice va (fa S k).length vc) w2.drew rfl Iw Dh PG (by show 0<(fa S k).length;omega) fn4 fn1 fn2 fn3 (by omega));have wW:=RZ ⟨fa S k,(S.line k).heard⟩;have hsub:(yr.kf S b).Sublist (yr.fL b):=bj;have qx:b∉yr.kf S b:=fun q=>by
      have hd':b∈yr.fL b:=(bE.1 q).1;have e6:=jH.out.own.node b rT b hd' b (.inl rfl);rw [(jH.out.own.line b rT).1] at e6
      cases e6
     have HTU:Hid (∀ w7 (v7:Value) (yt wO:Nat->Value),ko w7 (yr.lo n) (yr.kf S b) yt wO (mZ ⟨fa S k,(S.line k).heard⟩).1.nodes->eV w7 (yr.lo n) v7 (mZ ⟨fa S k,(S.line k).heard⟩).2->lC w2.drew v7->(∀ d∈yr.kf S b,iF w2.drew (yr.kK d) (yt d)/\iF w2.drew (yr.kL d) (wO d))->Mod (fun z=>z∈yr.kf S b) w2.drew w7 ->
       ∃ y7,dx w7 n c g y7 (rn S k (mZ ⟨fa S k,(S.line k).heard⟩).1)/\rZ wo yr w7 y7/\eV w7 (y7.lo n) v7 (mZ ⟨fa S k,(S.line k).heard⟩).2/\∀ z,v7.ownBlock=some z->y7.own z=.no):=fun w7 v7 yt wO q1 q2 q3 q4 q5=>by
      have iO:Mod (fun z=>z=b\/z∈yr.kf S b) wo w7:=((fJ.out.mono (fun _ _ e=>e.elim)).trans ((qq.mono (fun _ _ e=>.inl e)).trans (xo.mono (fun _ _ e=>e.elim)))).trans (q5.mono (fun _ _ e=>.inr e));have hvn:∀ z,(Value.slice va (fa S k).length vc).ownBlock=some z->z∉yr.kf S b:=fun z hz' q=>by
       have h1:=(fW fY.out hz').1;have hd':z∈yr.fL b:=(bE.1 q).1;have e6:=jH.out.own.node b rT z hd' z (.inl rfl);have:=(jH.out.own.lt z (by rw [e6];simp)).2;omega
      obtain ⟨y7,r1,r2,r3,r4,r5,r6,r7,r8⟩:=jH.out.Mr qN.out HB.out (l':=(mZ ⟨fa S k,(S.line k).heard⟩).1) iO (Iw.mod q5 qx) (fm Dh q5 (fun z _ _ e q=>hvn z e q)) q1 hsub (.inr fun z hz'=>(fW fY.out hz').1) (fun d hd=>⟨(iF.refl wo _).trans (q4 d hd).1 DG,(iF.refl wo _).trans (q4 d hd).2 DG⟩);refine ⟨y7,r1,⟨r2,r3,r4,r5,r6⟩,by rw [r8];exact q2,fun z hz'=>r7 z (aJ DG (q3 z hz')) (fun e=>?_) (fun d hd q=>q1.row q2 hd q hz')⟩;have h1:=fW (fm Dh q5 (fun z _ _ e q=>hvn z e q)) e;obtain ⟨_,_,cur,fN⟩:=h1;obtain ⟨_,kh,FU⟩:=q2.block hz';rw [fN] at FU;simp at FU
     have HFS:=dV hFS;have HFH:=dV Fi;have HML:=dV wW;have HLF:Hid (sg (rn S k (mZ ⟨fa S k,(S.line k).heard⟩).1) (mZ ⟨fa S k,(S.line k).heard⟩).2=eY S k):=rfl;have hg2:g<w2.heap.size:=aH hgl (aJ fJ.out.size qq.size);have Qh:b<w2.heap.size:=gp.lt;clear Kh e1 e2 fn1 fn2 fn3 hFS Fi hnH hgl qq gp hvb An lO xo Iw Dh PG DG wW hsub qx oc LN jH fY fJ hz he;go_upto_region 6 with fail;rw [<-hw2];clear hw2 b0 f0 zb1;go_region_with (first
      | (go_at_call 61;refine QX.out.mono ?_;rintro e w7 ⟨v7,yt,wO,rfl,q1,q2,q3,q4,q5⟩;obtain ⟨y7,vS,uS,rU,qB⟩:=HTU.out w7 v7 yt wO q1 q2 q3 q4 q5;(have pX:=dV (ME n c g y7 _ _ _ w7 vS rU qB (by have:=HML.out;show S.net.lost+_<=_;simp only at this;omega)));(have JW:=dV (nt.out.trans uS));obtain ⟨Rz,Ry,rz⟩:=q2.slice;subst rz;clear vS uS rU qB q1 q2 q3 q4 q5 QX HTU)
      | (go_at_call 48;refine pX.out.mono ?_;rintro e w8 ⟨⟨x8,rfl⟩,y8,uT,yH⟩)
      | fail)
     all_goals
      rw [HLF.out] at uT;have Jb:=dV (yFz n c g y8 (eY S k) k w8 uT HFS.out HFH.out (by rw [wF];exact qN.out) hc);have Zx:=dV (JW.out.trans yH.KY);clear uT yH pX;go_wp2_with fail;refine Jb.out.mono ?_;rintro e w9 ⟨rfl,y9,Fg,Dm⟩;have HF:Hid (dx w9 n c g y9 (kR s (k+1))/\rZ w y w9 y9):=⟨by rw [HE.out];exact Fg,Zx.out.trans Dm.KY⟩;clear Fg Dm Jb;go_wp2_with fail;go_roundw
      case rel=>exact ⟨k+1,y9,by omega,by go_num,HF.out.1,HF.out.2⟩
      case measure=>simp [intOf];omega
  ·obtain rfl:k=s.lines.length:=by omega
   have t3:=Ll tA.safe;obtain ⟨u1,u2,-⟩:=xX tA.safe;have uH:=(u2.wI u1 tA.held).held;have vl:=dV (Te n c g yr _ wo hH tA.safe (by omega));have pX:Hid (∀ wq yq,dx wq n c g yq (kM (kR s s.lines.length))->Calls Tryz.prog 43 #[.pointer (some ⟨g,0,none⟩)] wq fun e w'=>e=.returned (.tuple #[])/\∃ y',dx w' n c g y' (mL s)/\eL wq yq w' y'):=fun wq yq hq=>Ua n c g yq _ wq hq u1 uH hc (show (kM (kR s s.lines.length)).net.lost+750300<=4611686018427387904 by omega);have HK:=dV hK;clear hH hK tA tL t3 u1 u2 uH;go_wp2_with fail;refine vl.out.mono ?_;rintro e w1 ⟨rfl,y1,jy,pU⟩;have Pt:=dV (pX.out w1 y1 jy);have BQ:=dV (HK.out.trans pU.KY);clear jy pU vl pX;go_wp2_with fail;refine Pt.out.mono ?_;rintro e w2 ⟨rfl,y2,mX,hK2⟩;have HF:Hid (∃ y',dx w2 n c g y' (mL s)/\rZ w y w2 y'):=⟨y2,mX,BQ.out.trans hK2.KY⟩;clear mX hK2 Pt;go_wp2_with fail;go_end0;exact ⟨rfl,HF.out⟩
end Go.Proofs.YtmaiggbnceejiaaGreatDoor
