import Derived.Test.YtmaiggbnceejiaaGreatDoorS23
set_option linter.unusedVariables false
set_option maxRecDepth 100000
set_option maxHeartbeats 16000000
namespace Go.Proofs.YtmaiggbnceejiaaGreatDoor
open Go.RowKit Go.Lib Go.Maps
theorem yOo{s:dX}(h:qe s=false):oh s=s:=by
 have hn:=GI.1 h;have key:∀ m,m<=s.lines.length->nw s m=s:=by
  intro m
  induction m with
  | zero=>exact fun _=>rfl
  | succ m ih=>
   intro hm;rw [MQ,ih (by omega)];unfold il;rw [hn m (by omega)];rfl
 exact key s.lines.length (aF _)
def Rv(n c g:Nat)(w:World)(y:dY)(s:dX)(wr:World)(f:Nat):Prop:=∃ (S:dX) (yr:dY),f<=500*s.lines.length+1/\oB s=fA f S/\Safe S/\Held S/\S.lines.length=s.lines.length/\500*s.lines.length - GF S<f/\S.net.lost+300*f<=s.net.lost+300*(500*s.lines.length+1)/\dx wr n c g yr S/\eL w y wr yr
theorem yCd{P:Nat->Prop}:∀ n,P n->∃ f,P f/\∀ m,P m->f<=m:=by
 intro n
 induction n using Nat.strongRecOn with
 | ind n ih=>
  intro hn;by_cases h:∃ m,m<n/\P m
  ·obtain ⟨m,h1,h2⟩:=h;exact ih m h1 h2
  ·exact ⟨n,hn,fun m hm=>aS fun q=>h ⟨m,by omega,hm⟩⟩
open Classical in
noncomputable def zR(P:World->Nat->Prop)(w:World):Nat:=if h:∃ f,P w f/\∀ m,P w m->f<=m then Classical.choose h else 0
theorem Ts{P:World->Nat->Prop}{w:World}(h:∃ f,P w f):P w (zR P w):=by
 obtain ⟨f,hf⟩:=h;have h':=yCd f hf;unfold zR;rw [dif_pos h'];exact (dQ h').1
theorem Tt{P:World->Nat->Prop}{w:World}{f:Nat}(h:P w f):zR P w<=f:=by
 have h':=yCd f h;unfold zR;rw [dif_pos h'];exact (dQ h').2 f h
theorem Ua(n c g:Nat)(y:dY)(s:dX)(w:World)(h:dx w n c g y s)(hS:Safe s)(pH:Held s)(hc:c<=10000)(hlo:s.net.lost+750300<=4611686018427387904) :
  Calls Tryz.prog 43 #[.pointer (some ⟨g,0,none⟩)] w fun e w'=>e=.returned (.tuple #[])/\∃ y',dx w' n c g y' (oB s)/\eL w y w' y':=by
 have hll:=hS.ll;have HH:=dV h;have HS:=dV hS;have JY:=dV pH;have HU:Hid (∀ S:dX,fA (500*s.lines.length+1) s=S->oB s=S):=fun S e=>e;clear h hS pH;go_enter Tryz.func43,Tryz.ntmps43;go_wp2_with fail;go_loopw [] (fun wr=>∃ f,Rv n c g w y s wr f) (zR (Rv n c g w y s))
 case atStart=>exact ⟨_,s,y,aF _,rfl,HS.out,JY.out,rfl,by omega,bR _,HH.out,eL.refl _ _⟩
 case round=>
  obtain ⟨S,yr,hf,he,hS,pH,hl,CH,IP,hH,hK⟩:=Ts hrel;obtain ⟨f,xx⟩:∃ f,f=zR (Rv n c g w y s) wr:=⟨_,rfl⟩;rw [<-xx] at hf he CH IP;have Jc:=dV xx;clear hrel xx;have xD:=dV (ySs n c g yr S wr hH hS.shape hc hS.news);have Km:=MP hS pH
  cases ha:qe S with
  | false=>
   rw [ha] at xD;have HE:Hid (oB s=oh S):=by
    unfold Hid;rw [he,yOo ha]
    cases f with
    | zero=>rfl
    | succ f=>unfold fA;rw [ha];rfl
   have HK:=dV hK;clear hH hK hS pH he CH IP Km;go_wp2_with fail;refine xD.out.mono ?_;rintro e w1 ⟨rfl,y1,jy,pU⟩;have HF:Hid (∃ y',dx w1 n c g y' (oB s)/\eL w y w1 y'):=⟨y1,by rw [HE.out];exact jy,HK.out.trans pU⟩;clear jy pU xD;go_wp2_with fail;go_end0;exact ⟨rfl,HF.out⟩
  | true=>
   rw [ha] at xD;obtain ⟨r1,r2⟩:=KE hS pH;rw [ha] at r2;have hle:=yCn r1.safe;have hl2:(kM (oh S)).lines.length=s.lines.length:=by rw [r1.mv.ll,hl]
   rw [hl2] at hle;obtain ⟨f',rfl⟩:∃ f',f=f'+1:=⟨f - 1,by omega⟩;have h3:=Ll Km.1.safe;rw [Km.1.same.net] at h3;have vl:Hid (∀ wq yq,dx wq n c g yq (oh S)->Calls Tryz.prog 42 #[.pointer (some ⟨g,0,none⟩)] wq fun e w'=>e=.returned (.tuple #[])/\∃ y',dx w' n c g y' (kM (oh S))/\eL wq yq w' y'):=fun wq yq hq=>Te n c g yq (oh S) wq hq Km.1.safe (by rw [Km.1.same.net];omega);have BH:Hid (∀ wq yq,dx wq n c g yq (kM (oh S))->eL w y wq yq->Rv n c g w y s wq f'):=fun wq yq h1 h2=>⟨kM (oh S),yq,by omega,by
    rw [he];show (if qe S=true then fA f' (kM (oh S)) else S)=_;rw [ha];rfl,r1.safe,r1.held,hl2,by
    have:(if true=true then 1 else 0)=1:=rfl;rw [this] at r2;omega,by omega,h1,h2⟩
   have HK:=dV hK;clear hH hK hS pH he CH IP Km r1 r2 hle hl2 h3;go_wp2_with fail;refine xD.out.mono ?_;rintro e w1 ⟨rfl,y1,jy,pU⟩;have Po:=dV (vl.out w1 y1 jy);have BQ:=dV (HK.out.trans pU);clear jy pU xD;go_wp2_with fail;refine Po.out.mono ?_;rintro e w2 ⟨rfl,y2,mX,hK2⟩;have HI:=dV (BH.out w2 y2 mX (BQ.out.trans hK2));clear mX hK2 Po;go_wp2_with fail;go_roundw
   case rel=>exact ⟨f',HI.out⟩
   case measure=>
    have h1:=Tt HI.out;have h2:=Jc.out;omega
theorem yHp{s s':dX}(hd:s'.dead=s.dead)(id:Int):∀ (k:Nat) (ls:List jG),yZ s' id k ls=yZ s id k ls
 | _,[]=>rfl
 | k,l :: ls=>by
  have e:Bc s' l.nodes id=Bc s l.nodes id:=by unfold Bc gS;rw [hd]
  unfold yZ;rw [e,yHp hd id (k+1) ls]
theorem yRv{s s':dX}(hd:s'.dead=s.dead)(hl:s'.lines=s.lines)(id:Int):pK s' id=pK s id:=by
 unfold pK;rw [hl];exact yHp hd id 0 _
theorem zXl{y:dY}{e:Ending}(h:VM y none e):e=.returned (.tuple #[.pointer none,.bool false]):=h
theorem zXk{y:dY}{e:Ending}{k j:Nat}(h:VM y (some (k,j)) e):∃ b d,y.gF[k]?=some b/\(y.fL b)[j]?=some d/\e=.returned (.tuple #[.pointer (some ⟨d,0,none⟩),.bool true]):=h
theorem zVe(n c g:Nat)(y:dY)(s:dX)(i:Nat)(m:dw)(w:World)(h:dx w n c g y s)(hS:Safe s)(pH:Held s)(hc:c<=10000)(hi:s.net.way[i]?=some m)(hlo:s.net.lost+750800<=4611686018427387904) :
  Calls Tryz.prog 28 #[.pointer (some ⟨g,0,none⟩),.int .i64 i] w (iU w n c g y (lk s i) 0):=by
 have YV:=yHd (y.lo n) g y.wv y.mr s.net i m w h.qo hi;unfold uy at YV;have Fo:=dV YV;have jF:qZ m:=by obtain ⟨_,_,_,_,_,_,_,jF,-⟩:=h.net.row.at hi;exact jF
 clear YV;have hTS:Safe (fz s i):=hS.way fun m' hm'=>cG hm';have Dg:Held (fz s i):=pH.lines rfl rfl;have hnn:pK (fz s i) m.to=pK s m.to:=yRv (s:=s) (s':=fz s i) rfl rfl _;have hmo:Cn (fz s i) m:=hS.msg m (aC hi);have TD:=dV jF;have oc:=dV hTS;have LN:=dV Dg;have yO:=dV hnn;have QH:=dV hmo;have hg:=h.blk.lt;have HH:=dV h;have HE0:Hid (je 0=.nilIface):=ou;have tu:Hid (pK s m.to=none->lk s i=fz s i):=fun e=>by
  unfold lk;rw [hi];simp only;rw [e]
 have HDS:Hid (∀ kk j,pK s m.to=some (kk,j)->lk s i=oB (nx (fz s i) kk j m)):=fun kk j e=>by
  unfold lk;rw [hi];simp only;rw [e]
 clear h hS pH jF hTS Dg hnn hmo hi;obtain ⟨kind,eF,ur,ep,num,⟨ck,ct,cm,cw⟩⟩:=m;go_enter Tryz.func28,Tryz.ntmps28;go_upto_region 2 with (first
  | (go_at_call 54;refine Fo.out.mono ?_;rintro e w1 ⟨Mn,u,rfl,oL,wY,hv1,dh⟩;(obtain ⟨ua,dp,rfl⟩:∃ ua dp,u=.slice ua cw.length dp:=(by obtain ⟨ua,dp,h,_⟩:=wY;exact ⟨ua,dp,h⟩)))
  | fail)
 obtain ⟨jy,hS1⟩:=HH.out.so dh oL (.inl hv1) (.inl rfl);obtain ⟨w2,hw2⟩:∃ x,x=w1.alloc (.cells #[.int .i64 kind,.int .i64 eF,.int .i64 ur,.int .i64 ep,.int .i64 num,.int .i64 ck,.int .i64 ct,.int .i64 cm,.slice ua cw.length dp] 112):=⟨_,rfl⟩;rw [<-hw2];have hm2:Mod dZ w1 w2:=by rw [hw2];exact (Mod.refl _ w1).alloc _
 have gp:dg w2 w1.heap.size [.int .i64 kind,.int .i64 eF,.int .i64 ur,.int .i64 ep,.int .i64 num,.int .i64 ck,.int .i64 ct,.int .i64 cm,.slice ua cw.length dp] 112:=by rw [hw2];exact dg.new w1 _ _
 have pU:eL w y w1 (y.ox w Mn y.mr):=⟨hS1,rfl,rfl,rfl,rfl,rfl⟩;have LB:(y.ox w Mn y.mr).lo n=y.lo n:=rfl;rw [<-LB] at wY;generalize y.ox w Mn y.mr=y1 at jy pU wY;have mX:=jy.quiet hm2;have xC:=dV (pU.trans (eL.quiet hm2));have BG:=dV (wY.mod hm2 (Qm.none _ _));have lW:Hid (dx w2 n c g y1 (fz s i)):=mX;have nr:=dV (yCj n c g y1 (fz s i) ur w2 mX oc.out.shape);have q2:=gp.cell 2 rfl;have lX:=dV gp;have hg2:=mX.blk.lt;clear hw2 dh oL hv1 jy hS1 pU wY mX hm2 gp Fo LB
 cases hno:pK s ur with
 | none=>
  have hnt:pK (fz s i) ur=none:=by rw [yO.out];exact hno
  rw [hnt] at nr;have HE:=dV (tu.out hno);clear hno hnt;go_upto_region 5 with (first
   | (go_at_call 55;refine nr.out.mono ?_;rintro e w3 ⟨hfo,dy⟩;obtain rfl:=zXl hfo)
   | fail)
  have HF:Hid (iU w n c g y (lk s i) 0 (.returned .nilIface) w3):=⟨by rw [HE0.out],y1,by rw [HE.out];exact lW.out.quiet dy,xC.out.trans (eL.quiet dy)⟩;clear dy;go_wp2_with fail;go_ret;exact HF.out
 | some kj=>
  obtain ⟨kk,j⟩:=kj;have hnt:pK (fz s i) ur=some (kk,j):=by rw [yO.out];exact hno
  rw [hnt] at nr;have HE:=dV (HDS.out kk j hno);obtain ⟨hkk,x,hx1,hx2,hx3⟩:=KD hnt;have hjl:=(aB.1 hx1).1;have Kd:fP (fz s i) kk j=x:=zY hx1;have fR:=(oc.out.line kk hkk).few x (aC hx1);have Ij:=oc.out.step hkk hx1 QH.out;have oK:=iD.step (s:=fz s i) hkk hx1 hx2 ⟨kind,eF,ur,ep,num,⟨ck,ct,cm,cw⟩⟩;have Kw:Held (nx (fz s i) kk j ⟨kind,eF,ur,ep,num,⟨ck,ct,cm,cw⟩⟩):=LN.out.lines oK.keys oK.dW;have hlen:=yHf fR ⟨kind,eF,ur,ep,num,⟨ck,ct,cm,cw⟩⟩;have hst:nx (fz s i) kk j ⟨kind,eF,ur,ep,num,⟨ck,ct,cm,cw⟩⟩=sg (ld (fz s i) kk j (jP x ⟨kind,eF,ur,ep,num,⟨ck,ct,cm,cw⟩⟩).1) (jP x ⟨kind,eF,ur,ep,num,⟨ck,ct,cm,cw⟩⟩).2:=by unfold nx;rw [Kd]
  have hls:(nx (fz s i) kk j ⟨kind,eF,ur,ep,num,⟨ck,ct,cm,cw⟩⟩).net.lost<=s.net.lost+500:=by
   rw [hst];have:=(Cm (jP x ⟨kind,eF,ur,ep,num,⟨ck,ct,cm,cw⟩⟩).2 (fz s i).net).2;have e2:(fz s i).net.lost=s.net.lost:=rfl;show (ly (fz s i).net _).lost<=_;omega
  have ZT:=dV Ij;have xB:=dV Kw;have HST:=dV hst;have HLS:=dV hls;have qN:=dV hkk;have ZM:=dV hx1;have HLEN:=dV hlen;clear hno hnt Ij Kw hst hls oK Kd hx2 hx3 hkk hx1 hlen;go_upto_region 6 with (first
   | (go_at_call 55;refine nr.out.mono ?_;rintro e w3 ⟨hfo,dy⟩;obtain ⟨b,d,hb,hd,rfl⟩:=zXk hfo)
   | fail)
  have DR:Mod dZ w2 w3.drew:=dy.drewN 1;have lQ:=lX.out.mod dy (fun e=>e);have Fv:=dV (lW.out.quiet DR);have tr:=dV (xC.out.trans (eL.quiet DR));have qy:=Fv.out.mU hb (aC hd);rw [Fv.out.kW hb (ma qN.out) hd ZM.out] at qy;have Pp:=dV (yPm (y1.lo n) d (y1.kK d) (y1.kL d) x ⟨kind,eF,ur,ep,num,⟨ck,ct,cm,cw⟩⟩ (.slice ua cw.length dp) w3.drew qy (BG.out.mod DR (Qm.none _ _)) TD.out);obtain ⟨⟨p0,p1,p2,p3,p4,p5,p6,p7,p8⟩,_⟩:=iM lQ;have hg3:g<w3.heap.size:=aH hg2 dy.size;have HBB:=dV hb;have yU:=dV hd;clear dy DR lQ qy hfo hb hd nr q2;go_region_with (first
   | (go_at_call 56;refine Pp.out.mono ?_;rintro e w7 ⟨v7,wO,rfl,uR,rU,zA,AX,iO⟩;obtain ⟨Rz,Ry,rz⟩:=rU.slice;subst rz;obtain ⟨y7,vS,uS,tU,qB⟩:=Fv.out.zn qN.out HBB.out yU.out iO uR (.inl rfl) AX rU zA;(have pX:=dV (ME n c g y7 _ _ _ w7 vS tU qB (by have:=HLEN.out;have e2:(fz s i).net.lost=s.net.lost:=rfl;show (fz s i).net.lost+_<=_;omega)));(have JW:=dV (tr.out.trans uS));clear vS uS tU qB uR rU zA AX iO Pp)
   | (go_at_call 48;refine pX.out.mono ?_;rintro e w8 ⟨⟨x8,rfl⟩,y8,uT,yH⟩)
   | fail)
  all_goals
   have Ps:=dV (Ua n c g y8 _ w8 uT (by rw [<-HST.out];exact ZT.out) (by rw [<-HST.out];exact xB.out) hc (by rw [<-HST.out];have:=HLS.out;omega));have Zx:=dV (JW.out.trans yH);clear uT yH pX p0 p1 p2 p3 p4 p5 p6 p7 p8;go_wp2_with fail;refine Ps.out.mono ?_;rintro e w9 ⟨rfl,y9,Fg,Dm⟩;have HF:Hid (iU w n c g y (lk s i) 0 (.returned .nilIface) w9):=⟨by rw [HE0.out],y9,by rw [HE.out,HST.out];exact Fg,Zx.out.trans Dm⟩;clear Fg Dm Ps;go_wp2_with fail;go_ret;exact HF.out
def iX(s:dX)(k:Nat):List Nat:=(List.range (s.line k).nodes.length).filter fun j=>gS s (fP s k j)
theorem RR(s:dX)(k:Nat):(iX s k).map (fP s k)=fa s k:=by
 have e:(s.line k).nodes=(List.range (s.line k).nodes.length).map (fP s k):=by
  apply bI;intro j;rw [aa];by_cases hj:j<(s.line k).nodes.length
  ·rw [zZ hj,cq hj];rfl
  ·rw [ah (by omega),ah (by simp;omega)];rfl
 unfold iX fa
 conv=>rhs;rw [e]
 rw [List.filter_map];rfl
theorem RQ(s:dX)(k:Nat):(iX s k).length=(fa s k).length:=by rw [<-RR,ar]
theorem EP{s:dX}{k i j:Nat}(h:(iX s k)[i]?=some j):j<(s.line k).nodes.length/\gS s (fP s k j)=true:=by
 have:=bE.1 (aC h);exact ⟨bZ.1 this.1,this.2⟩
def vk(w:World)(y:dY)(s:dX)(k b:Nat)(v:Value):Prop:=∃ va vc,v=.slice va (iX s k).length vc/\∀ (i j:Nat),(iX s k)[i]?=some j->∃ lg d,va=some ⟨lg,0,none⟩/\(y.fL b)[j]?=some d/\w.cell? ⟨lg,i,none⟩=some (.pointer (some ⟨d,0,none⟩))/\y.own lg=.no
theorem vk.keep{w w':World}{y y':dY}{s:dX}{k b:Nat}{v:Value}(h:vk w y s k b v)(hK:iG w y w' y')(hn:y'.fL=y.fL):vk w' y' s k b v:=by
 obtain ⟨va,vc,h1,h2⟩:=h;refine ⟨va,vc,h1,fun i j hi=>?_⟩;obtain ⟨lg,d,e1,e2,e3,e4⟩:=h2 i j hi;exact ⟨lg,d,e1,by rw [hn];exact e2,hK.md.cell e3 (fun e=>e e4),by rw [hK.old lg (World.block_lt_of_cell? w _ e3)];exact e4⟩
theorem vk.of{w w':World}{n c g:Nat}{y:dY}{s:dX}{k b:Nat}{v:Value}(h:dx w n c g y s)(hk:k<s.lines.length)(hb:y.gF[k]?=some b)(hm:Mod dZ w w')(hr:w'.ownsRow w.heap.size 91 1 v (y.kf s b).length (jw (y.kf s b))):vk w' y s k b v:=by
 have hL:=h.line k b _ hb (ma hk);have OT:y.kf s b=(iX s k).map fun j=>(y.fL b).getD j 0:=by
  have e:y.fL b=(List.range (s.line k).nodes.length).map fun j=>(y.fL b).getD j 0:=by
   apply bI;intro j;rw [aa];by_cases hj:j<(s.line k).nodes.length
   ·rw [cq hj,bK,aI,aA (by rw [hL.len];exact hj)];rfl
   ·rw [ah (by rw [hL.len];omega),ah (by simp;omega)];rfl
  unfold dY.kf iX
  conv=>lhs;rw [e]
  rw [List.filter_map];congr 1;apply List.filter_congr;intro j hj;have hj':=bZ.1 hj;show gS s (y.st s ((y.fL b).getD j 0))=_;have hd:(y.fL b)[j]?=some ((y.fL b).getD j 0):=by rw [aI,aA (by rw [hL.len];exact hj')];rfl
  rw [h.kW hb (ma hk) hd (zZ hj')]
 have hlen:(y.kf s b).length=(iX s k).length:=by rw [OT,ar]
 obtain ⟨va,vc,hv⟩:=eu hr;rw [hlen] at hv;refine ⟨va,vc,hv,fun i j hi=>?_⟩;have hil:=(aB.1 hi).1;rcases hr.2 with ⟨e,h0⟩ | ⟨g',cap',cur,e,q1,_⟩
 ·omega
 ·have lI:va=some ⟨g',0,none⟩:=by
   rw [hv] at e;simp only [Value.slice.injEq] at e;exact e.1
  have hr':=hr;rw [e] at hr';have hd:(y.kf s b)[i]?=some ((y.fL b).getD j 0):=by rw [OT,aa,hi];rfl
  have hc:=hr'.cells (g:=g') rfl i (jC ((y.fL b).getD j 0)) (by rw [<-RJ,aa,hd];rfl);have e2:(⟨g',0,none⟩:Addr).add i=⟨g',i,none⟩:=by cases i <;> simp [Addr.add]
  rw [e2] at hc;refine ⟨g',(y.fL b).getD j 0,lI,?_,hc,?_⟩
  ·rw [aI,aA (by rw [hL.len];exact (EP hi).1)];rfl
  ·exact aS fun q=>by have:=(h.own.lt g' q).2;omega
theorem Ui(n c g:Nat)(y:dY)(s:dX)(k b:Nat)(w:World)(h:dx w n c g y s)(hs:lr s)(hk:k<s.lines.length)(hb:y.gF[k]?=some b) :
  Calls Tryz.prog 46 #[.pointer (some ⟨g,0,none⟩),.int .i64 k] w fun e w'=>∃ v,e=.returned v/\vk w' y s k b v/\Mod dZ w w':=by
 have hl:=(h.line k b _ hb (ma hk)).len;have h4:=hs.nl _ (Jp hk);refine (UP n c g y s k b w h hk hb (by omega) (by omega)).mono ?_;rintro e w' ⟨v,rfl,hr,hm⟩;exact ⟨v,rfl,vk.of h hk hb hm hr,hm⟩
def GG(s:dX)(m:Nat):Nat:=((List.range m).map fun k=>((fa s k).map fun n=>n.log.length).sum).sum
theorem zUd(s:dX)(m:Nat):GG s (m+1)=GG s m+((fa s m).map fun n=>n.log.length).sum:=by unfold GG;rw [aj,ay,List.sum_append];simp
def Ce(s:dX)(k i:Nat):Nat:=(((iX s k).take i).map fun j=>(fP s k j).log.length).sum
theorem yFp{s:dX}{k i j:Nat}(h:(iX s k)[i]?=some j):Ce s k (i+1)=Ce s k i+(fP s k j).log.length:=by unfold Ce;rw [qg h,ay,List.sum_append];simp
theorem yKh(s:dX)(k:Nat):Ce s k (iX s k).length=((fa s k).map fun n=>n.log.length).sum:=by unfold Ce;rw [bJ,<-RR,dO];rfl
theorem yCe{s:dX}(h:Safe s):∀ m,m<=s.lines.length->GG s m<=2000*m
 | 0,_=>by simp [GG]
 | m+1,hm=>by
  have ih:=yCe h m (by omega);have hm':m<s.lines.length:=by omega
  rw [zUd];have h4:=h.pA hm';have hl:(fa s m).length<=(s.line m).nodes.length:=bB _ _;have:((fa s m).map fun n=>n.log.length).sum<=500*(fa s m).length:=by
   have hf:∀ n∈fa s m,n.log.length<=500:=fun n hn=>(h.line m hm').few n (bE.1 hn).1;generalize fa s m=l at hf
   induction l with
   | nil=>simp
   | cons a l ih=>
    have h1:=ih (fun n hn=>hf n (by simp [hn]));have h2:=hf a (by simp);simp only [bW,List.sum_cons,aW];omega
  omega
theorem yOf{s:dX}(h:Safe s){k:Nat}(hk:k<s.lines.length)(i:Nat):Ce s k i<=2000:=by
 have h4:=h.pA hk;have hl:((iX s k).take i).length<=4:=by
  have h1:((iX s k).take i).length<=(iX s k).length:=by rw [aZ];omega
  rw [RQ] at h1;have h2:(fa s k).length<=(s.line k).nodes.length:=bB _ _;omega
 have hf:∀ j∈(iX s k).take i,(fP s k j).log.length<=500:=fun j hj=>by
  obtain ⟨x,hx⟩:=aO (cP hj);exact (h.line k hk).few _ (aC (zZ (EP hx).1))
 unfold Ce;generalize (iX s k).take i=l at hl hf;have:(l.map fun j=>(fP s k j).log.length).sum<=500*l.length:=by
  clear hl
  induction l with
  | nil=>simp
  | cons a l ih=>
   have h1:=ih (fun n hn=>hf n (by simp [hn]));have h2:=hf a (by simp);simp only [bW,List.sum_cons,aW];omega
 omega
theorem yOe(n c g:Nat)(y:dY)(s:dX)(w:World)(h:dx w n c g y s)(hS:Safe s) :
  Calls Tryz.prog 44 #[.pointer (some ⟨g,0,none⟩)] w fun e w'=>e=.returned (.int .i64 (rO s))/\Mod dZ w w':=by
 obtain ⟨c0,-⟩:=kF h.blk;obtain ⟨la,ey,hlv⟩:=eu h.fi;have hll:=hS.ll;have hlen:=h.iQ;rw [hlv,hlen] at c0;have HH:=dV h;have HS:=dV hS;clear h hS hlv;go_enter Tryz.func44,Tryz.ntmps44;go_wp2_with fail;go_loopw [3,12] (fun a0 k0 wr=>∃ (k:Nat),k<=s.lines.length/\k0=.int .i64 k/\a0=.int .i64 (GG s k)/\Mod dZ w wr) (fun _ k0 _=>s.lines.length - (intOf k0).toNat)
 case atStart=>exact ⟨0,aT _,rfl,rfl,Mod.refl _ _⟩
 case round=>
  obtain ⟨k,hkl,rfl,rfl,hM⟩:=hrel;obtain ⟨wo,hwo⟩:∃ x,x=wr:=⟨_,rfl⟩;subst hwo;by_cases hlt:k<s.lines.length
  ·have hH:=HH.out.quiet hM;obtain ⟨b,hb,hL⟩:=hH.nJ hlt;have BN:=dV (Ui n c g y s k b wo hH HS.out.shape hlt hb);have xu:(k:Int)<(s.lines.length:Int):=by omega
   have qs:(0:Int)<=(k:Int):=by omega
   have hT:=yCe HS.out k hkl;have HI:=dV (fun i=>yOf HS.out hlt i);have HB:=dV hb;have HM:=dV hM;have jz:=dV (zUd s k);have Qa:=dV (yKh s k);clear hH hL hb hM;go_wp2_with fail;refine BN.out.mono ?_;rintro e w1 ⟨v,rfl,hv,dh⟩;have hvv:∃ va vc,v=.slice va (iX s k).length vc:=by obtain ⟨va,vc,e,_⟩:=hv;exact ⟨va,vc,e⟩
   obtain ⟨va,vc,lI⟩:=hvv;subst lI;have HV:=dV hv;have fJ:=dV (HM.out.trans dh);have hl4:(iX s k).length<=4:=by
    rw [RQ];have h2:(fa s k).length<=(s.line k).nodes.length:=bB _ _;have:=HS.out.pA hlt;omega
   clear hv dh BN;go_wp2_with fail;go_loopw [3,19] (fun a0 i0 wi=>∃ (i:Nat),i<=(iX s k).length/\i0=.int .i64 i/\a0=.int .i64 ((GG s k:Int)+(Ce s k i:Int))/\Mod dZ w wi/\Mod dZ w1 wi) (fun _ i0 _=>(iX s k).length - (intOf i0).toNat)
   case atStart=>exact ⟨0,aT _,rfl,by simp [Ce],fJ.out,Mod.refl _ _⟩
   case round=>
    obtain ⟨i,hil,rfl,rfl,PI,qz⟩:=hrel;have hIl:=HI.out i;by_cases DX:i<(iX s k).length
    ·obtain ⟨j,hj⟩:∃ j,(iX s k)[i]?=some j:=⟨_,aA DX⟩;obtain ⟨va',vc',e1,e2⟩:=HV.out;simp only [Value.slice.injEq] at e1;obtain ⟨e1,-,-⟩:=e1;subst e1;obtain ⟨lg,d,rfl,hd,hc,-⟩:=e2 i j hj;have kQ:=HH.out.quiet PI;have hN:=kQ.mU HB.out (aC hd);rw [kQ.kW HB.out (ma hlt) hd (zZ (EP hj).1)] at hN;have EC:=dV (Vn _ _ _ _ _ _ hN);have YG:=qz.cell hc id;have xw:(i:Int)<((iX s k).length:Int):=by omega
     have hi0:(0:Int)<=(i:Int):=by omega
     have fR:=(HS.out.line k hlt).few _ (aC (zZ (EP hj).1));have TB:=dV (yFp hj);have Zn:=dV PI;have BJ:=dV qz;clear kQ hN PI qz hj hd hc e2;generalize (fP s k j).log.length=ln at EC fR TB;go_wp2_with fail;refine EC.out.mono ?_;rintro e w3 ⟨rfl,rfl⟩;clear EC;go_wp2_with fail;go_roundw
     case rel=>exact ⟨i+1,by omega,by go_num,by rw [TB.out];go_num,Zn.out,BJ.out⟩
     case measure=>simp [intOf];omega
    ·obtain rfl:i=(iX s k).length:=by omega
     have Zn:=dV PI;clear PI qz;go_wp2_with fail;go_roundw
     case rel=>exact ⟨k+1,by omega,by go_num,by rw [jz.out,<-Qa.out];rfl,Zn.out⟩
     case measure=>simp [intOf];omega
  ·obtain rfl:k=s.lines.length:=by omega
   have HM:=dV hM;clear hM;go_wp2_with fail;go_ret;exact ⟨rfl,HM.out⟩
def KS(k:Nat)(h:dX)(j:Nat):dX:=sg (ld h k j (kz (fP h k j)).1) (kz (fP h k j)).2
theorem zWk{k j:Nat}{h:dX}(hv:gS h (fP h k j)=true):fK k h j=KS k h j:=by unfold fK;rw [aP hv];rfl
theorem yJh{k j:Nat}{h:dX}(hv:gS h (fP h k j)=false):fK k h j=h:=by unfold fK;rw [aK (by rw [hv];simp)]
theorem zTf{s:dX}{k:Nat}(hk:k<s.lines.length):∀ (js:List Nat) (S:dX),Safe S->iD s S->(∀ j∈js,j<(s.line k).nodes.length)->js.foldl (fK k) S=(js.filter fun j=>gS s (fP s k j)).foldl (KS k) S
 | [],S,_,_,_=>rfl
 | j :: js,S,a,b,hj=>by
  have hjl:=hj j (by simp);have hlv:gS S (fP S k j)=gS s (fP s k j):=b.mv.lives hjl;obtain ⟨c,d⟩:=a.fK (k:=k) (j:=j) (by rw [b.mv.ll];exact hk);have ih:=zTf hk js (fK k S j) c (b.trans d) (fun x hx=>hj x (by simp [hx]));rw [cV,ih,cF]
  cases hv:gS s (fP s k j) with
  | true=>rw [hv] at hlv;rw [zWk hlv];rfl
  | false=>rw [hv] at hlv;rw [yJh hlv];rfl
theorem yJg{s:dX}(h:Safe s){k:Nat}(hk:k<s.lines.length):eU s k=(iX s k).foldl (KS k) s:=
 zTf hk (List.range (s.line k).nodes.length) s h (iD.refl s) (fun j hj=>bZ.1 hj)
def uE(s:dX)(m:Nat):dX:=(List.range m).foldl eU s
theorem zWh(s:dX)(m:Nat):uE s (m+1)=eU (uE s m) m:=by unfold uE;rw [aj,al];rfl
theorem yJc{s:dX}(h:Safe s):∀ m,m<=s.lines.length->Safe (uE s m)/\iD s (uE s m)/\(uE s m).net.lost<=s.net.lost+4*m:=by
 intro m
 induction m with
 | zero=>exact fun _=>⟨h,iD.refl s,by simp [uE]⟩
 | succ m ih=>
  intro hm;rw [zWh];obtain ⟨a,b,c⟩:=ih (by omega);have jx:m<(uE s m).lines.length:=by rw [b.mv.ll];omega
  obtain ⟨a',b'⟩:=MU a jx;obtain ⟨_,d',_⟩:=Ud m (List.range ((uE s m).line m).nodes.length) (uE s m);have h4:=a.pA jx;rw [List.length_range] at d';refine ⟨a',b.trans b',?_⟩;show (eU (uE s m) m).net.lost<=_;unfold eU;omega
def sj(s:dX)(k i:Nat):dX:=((iX s k).take i).foldl (KS k) s
theorem zWi{s:dX}{k i j:Nat}(h:(iX s k)[i]?=some j):sj s k (i+1)=KS k (sj s k i) j:=by unfold sj;rw [qg h,al];rfl
theorem yJe{s:dX}(h:Safe s){k:Nat}(hk:k<s.lines.length):∀ i,i<=(iX s k).length->Safe (sj s k i)/\iD s (sj s k i)/\(sj s k i).net.lost<=s.net.lost+i:=by
 intro i
 induction i with
 | zero=>exact fun _=>⟨h,iD.refl s,by simp [sj]⟩
 | succ i ih=>
  intro hi;obtain ⟨a,b,c⟩:=ih (by omega);obtain ⟨j,hj⟩:∃ j,(iX s k)[i]?=some j:=⟨_,aA (by omega)⟩;obtain ⟨hjl,hjv⟩:=EP hj;rw [zWi hj];have hv:gS (sj s k i) (fP (sj s k i) k j)=true:=by rw [b.mv.lives hjl];exact hjv
  rw [<-zWk hv];obtain ⟨c',d'⟩:=a.fK (k:=k) (j:=j) (by rw [b.mv.ll];exact hk);have e:=zWl k (sj s k i) j;exact ⟨c',b.trans d',by omega⟩
theorem yHc(n c g:Nat)(y:dY)(s:dX)(w:World)(h:dx w n c g y s)(hS:Safe s)(hlo:s.net.lost+20<=4611686018427387904) :
  Calls Tryz.prog 31 #[.pointer (some ⟨g,0,none⟩)] w fun e w'=>e=.returned (.tuple #[])/\∃ y',dx w' n c g y' (lZ s)/\eL w y w' y':=by
 obtain ⟨c0,-⟩:=kF h.blk;obtain ⟨la,ey,hlv⟩:=eu h.fi;have hll:=hS.ll;have hlen:=h.iQ;rw [hlv,hlen] at c0;have HH:=dV h;have HS:=dV hS;clear h hS hlv;go_enter Tryz.func31,Tryz.ntmps31;go_wp2_with fail;go_loopw [10] (fun k0 wr=>∃ (k:Nat) (yr:dY),k<=s.lines.length/\k0=.int .i64 k/\dx wr n c g yr (uE s k)/\eL w y wr yr) (fun k0 _=>s.lines.length - (intOf k0).toNat)
 case atStart=>exact ⟨0,y,aT _,rfl,HH.out,eL.refl _ _⟩
 case round=>
  obtain ⟨k,yr,hkl,rfl,hH,hK⟩:=hrel;obtain ⟨wo,hwo⟩:∃ x,x=wr:=⟨_,rfl⟩;subst hwo;by_cases hlt:k<s.lines.length
  ·obtain ⟨tS,tT,tL⟩:=yJc HS.out k hkl;have hk':k<(uE s k).lines.length:=by rw [tT.mv.ll];exact hlt
   have OW:(uE s k).net.lost+4<=4611686018427387904:=by omega
   have Kv:=zWh s k;rw [yJg tS hk'] at Kv;have jz:=dV Kv;clear Kv tT tL;generalize uE s k=S at hH tS OW hk' jz;obtain ⟨b,hb,hL⟩:=hH.nJ hk';have BN:=dV (Ui n c g yr S k b wo hH tS.shape hk' hb);have xu:(k:Int)<(s.lines.length:Int):=by omega
   have qs:(0:Int)<=(k:Int):=by omega
   have jH:=dV hH;have nt:=dV hK;have HB:=dV hb;have oc:=dV tS;have qN:=dV hk';clear hH hK hL hb tS hk';go_wp2_with fail;refine BN.out.mono ?_;rintro e w1 ⟨v,rfl,hv,dh⟩;have hvv:∃ va vc,v=.slice va (iX S k).length vc:=by obtain ⟨va,vc,e,_⟩:=hv;exact ⟨va,vc,e⟩
   obtain ⟨va,vc,lI⟩:=hvv;subst lI;have HV:=dV hv;have sa:=dV (jH.out.quiet dh);have BQ:=dV (nt.out.trans (eL.quiet dh));have hl4:(iX S k).length<=4:=by
    rw [RQ];have h2:(fa S k).length<=(S.line k).nodes.length:=bB _ _;have:=oc.out.pA qN.out;omega
   clear hv dh BN;go_wp2_with fail;go_loopw [17] (fun i0 wi=>∃ (i:Nat) (yi:dY),i<=(iX S k).length/\i0=.int .i64 i/\dx wi n c g yi (sj S k i)/\eL w y wi yi/\eL w1 yr wi yi) (fun i0 _=>(iX S k).length - (intOf i0).toNat)
   case atStart=>exact ⟨0,yr,aT _,rfl,sa.out,BQ.out,eL.refl _ _⟩
   case round=>
    obtain ⟨i,yi,hil,rfl,kQ,sI,tX⟩:=hrel;obtain ⟨wi,xj⟩:∃ x,x=wr:=⟨_,rfl⟩;subst xj;by_cases DX:i<(iX S k).length
    ·obtain ⟨j,hj⟩:∃ j,(iX S k)[i]?=some j:=⟨_,aA DX⟩;obtain ⟨va',vc',e1,e2⟩:=HV.out.keep tX.st tX.n;simp only [Value.slice.injEq] at e1;obtain ⟨e1,-,-⟩:=e1;subst e1;obtain ⟨lg,d,rfl,hd,hc,-⟩:=e2 i j hj;obtain ⟨tS2,Vt,tL2⟩:=yJe oc.out qN.out i hil;have BC:=dV (zWi hj);have hjl:=(EP hj).1;have IV:j<((sj S k i).line k).nodes.length:=by rw [Vt.mv.len];exact hjl
     have xt:k<(sj S k i).lines.length:=by rw [Vt.mv.ll];exact qN.out
     generalize sj S k i=R at kQ tS2 tL2 BC IV xt;have yC:yi.gF[k]?=some b:=by rw [tX.l];exact HB.out
     have pH:=kQ.quiet ((Mod.refl dZ wi).drewN 1);have hN:=pH.mU yC (aC hd);rw [pH.kW yC (ma xt) hd (zZ IV)] at hN;have Dx:=dV (MD (yi.lo n) d (yi.kK d) (yi.kL d) (fP R k j) wi.drew hN);have xw:(i:Int)<((iX S k).length:Int):=by omega
     have hi0:(0:Int)<=(i:Int):=by omega
     have hlen:=Ly (fP R k j);have HLEN:Hid (R.net.lost+((kz (fP R k j)).2.length:Int)<=4611686018427387904):=by
      unfold Hid;omega
     have JY:Hid (dx wi.drew n c g yi R):=pH;have QL:=dV (sI.trans (eL.quiet ((Mod.refl dZ wi).drewN 1)));have Zu:=dV (tX.trans (eL.quiet ((Mod.refl dZ wi).drewN 1)));have HBi:=dV yC;have HDi:=dV hd;have HKR:=dV xt;have Of:=kQ.blk.lt;clear kQ hN hj hd e2 tS2 Vt tL2 pH sI tX yC xt hjl IV hlen;go_upto_region 6 with fail;go_region_with (first
      | (go_at_call 59;refine Dx.out.mono ?_;rintro e w7 ⟨v7,rfl,uR,rU,zA,iO⟩;obtain ⟨Rz,Ry,rz⟩:=rU.slice;subst rz;obtain ⟨y7,vS,uS,tU,qB⟩:=JY.out.zn HKR.out HBi.out HDi.out (iO.mono (fun _ _ e=>.inl e)) uR (.inl rfl) (.inl rfl) rU zA;(have pX:=dV (ME n c g y7 _ _ _ w7 vS tU qB HLEN.out));(have JW:=dV (QL.out.trans uS));(have Fp:=dV (Zu.out.trans uS));clear vS uS tU qB uR rU zA iO Dx)
      | (go_at_call 48;refine pX.out.mono ?_;rintro e w8 ⟨⟨x8,rfl⟩,y8,uT,yH⟩)
      | fail)
     all_goals
      have HF:Hid (dx w8 n c g y8 (sj S k (i+1))/\eL w y w8 y8/\eL w1 yr w8 y8):=⟨by rw [BC.out];exact uT,JW.out.trans yH,Fp.out.trans yH⟩;clear uT yH pX hc;go_wp2_with fail;go_roundw
      case rel=>exact ⟨i+1,y8,by omega,by go_num,HF.out.1,HF.out.2.1,HF.out.2.2⟩
      case measure=>simp [intOf];omega
    ·obtain rfl:i=(iX S k).length:=by omega
     have HF:Hid (dx wi n c g yi (uE s (k+1))/\eL w y wi yi):=by
      have e:sj S k (iX S k).length=(iX S k).foldl (KS k) S:=by unfold sj;rw [bJ]
      unfold Hid;rw [jz.out,<-e];exact ⟨kQ,sI⟩
     clear kQ sI tX;go_wp2_with fail;go_roundw
     case rel=>exact ⟨k+1,yi,by omega,by go_num,HF.out.1,HF.out.2⟩
     case measure=>simp [intOf];omega
  ·obtain rfl:k=s.lines.length:=by omega
   have HF:Hid (∃ y',dx wo n c g y' (lZ s)/\eL w y wo y'):=⟨yr,hH,hK⟩;clear hH hK;go_wp2_with fail;go_end0;exact ⟨rfl,HF.out⟩
def Rr(n c g:Nat)(w:World)(y:dY)(s:dX)(wr:World)(f:Nat):Prop:=∃ (S:dX) (yr:dY),zQ s=gD f S/\kT S/\pR S<f/\gX S<=gX s/\dx wr n c g yr S/\eL w y wr yr
theorem yHs(s:dX):s.net.lost<=gX s:=by unfold gX;omega
theorem yPh(n c g:Nat)(y:dY)(s:dX)(w:World)(h:dx w n c g y s)(hC:kT s)(hc:c<=10000)(hlo:gX s+750800<=4611686018427387904) :
  Calls Tryz.prog 45 #[.pointer (some ⟨g,0,none⟩)] w fun e w'=>e=.returned (.tuple #[])/\∃ y',dx w' n c g y' (zQ s)/\eL w y w' y':=by
 have HH:=dV h;have HC:=dV hC;have nB:=dV hlo;clear h hC hlo;go_enter Tryz.func45,Tryz.ntmps45;go_wp2_with fail;go_loopw [] (fun wr=>∃ f,Rr n c g w y s wr f) (zR (Rr n c g w y s))
 case atStart=>exact ⟨_,s,y,rfl,HC.out,Nat.lt_succ_self _,bR _,HH.out,eL.refl _ _⟩
 case round=>
  obtain ⟨S,yr,he,hC,SL,hpo,hH,hK⟩:=Ts hrel;obtain ⟨f,xx⟩:∃ f,f=zR (Rr n c g w y s) wr:=⟨_,rfl⟩;rw [<-xx] at he SL;have Jc:=dV xx;clear hrel xx;have CW:=dV (yCk n c g yr S wr hH);have fR:=hC.few;obtain ⟨f',rfl⟩:∃ f',f=f'+1:=⟨f - 1,by omega⟩
  cases hw:S.net.way with
  | nil=>
   have HE:Hid (zQ s=S):=by
    unfold Hid;rw [he];unfold gD;rw [hw];rfl
   rw [hw] at CW fR;have HF:Hid (∃ y',dx wr n c g y' (zQ s)/\eL w y wr y'):=⟨yr,by rw [HE.out];exact hH,hK⟩;clear hH hK hC he SL hpo hw;go_wp2_with fail;refine CW.out.mono ?_;rintro e w1 ⟨rfl,rfl⟩;clear CW;go_wp2_with fail;go_end0;exact ⟨rfl,HF.out⟩
  | cons m R=>
   have hne:S.net.way≠[]:=by rw [hw];simp
   have hi:S.net.way[0]?=some m:=by rw [hw];rfl
   obtain ⟨a,b,d⟩:=hC.fp hne;have oJ:=yHs S;have hl2:=nB.out;have vq:=dV (zVe n c g yr S 0 m wr hH hC.safe hC.held hc hi (by omega));have XN:gX (lk S 0)<=gX S:=by
    have e:=Up hC.safe hC.held 0;unfold gX;omega
   have BH:Hid (∀ wq yq,dx wq n c g yq (lk S 0)->eL w y wq yq->Rr n c g w y s wq f'):=fun wq yq h1 h2=>⟨lk S 0,yq,by
    rw [he];show (if S.net.way.isEmpty=true then S else gD f' (lk S 0))=_;rw [hw];rfl,a,by omega,by omega,h1,h2⟩
   have HK:=dV hK;rw [hw] at CW fR;have hp:(0:Int)<((m :: R).length:Int):=by simp only [aW];omega
   generalize (m :: R).length=q at CW hp fR;clear hH hK hC he SL hpo a b d hw hne hi XN oJ hl2;go_wp2_with fail;refine CW.out.mono ?_;rintro e w1 ⟨rfl,rfl⟩;clear CW;go_wp2_with fail;refine vq.out.mono ?_;rintro e w2 ⟨rfl,y2,mX,hK2⟩;have HI:=dV (BH.out w2 y2 mX (HK.out.trans hK2));clear mX hK2 vq;go_wp2_with fail;go_roundw
   case rel=>exact ⟨f',HI.out⟩
   case measure=>
    have h1:=Tt HI.out;have h2:=Jc.out;omega
def jn:Nat->dX->dX
 | 0,s=>s
 | n+1,s=>xJ (jn n s)
theorem zWf{s:dX}(h:kT s):∀ i,kT (jn i s)/\lD s (jn i s)/\gX (jn i s)<=gX s+9040000000*i
 | 0=>⟨h,lD.refl h.safe h.held,by simp [jn]⟩
 | i+1=>by
  obtain ⟨a,b,c⟩:=zWf h i;obtain ⟨a',b',c',_⟩:=MK a;refine ⟨a',b.trans b',?_⟩;show gX (xJ (jn i s))<=_;omega
def KL(n c g:Nat)(w:World)(y:dY)(s:dX)(b0:Value)(wr:World)(f:Nat):Prop:=∃ (S:dX) (yr:dY) (b:Int),b0=.int .i64 b/\kT S/\dx wr n c g yr S/\eL w y wr yr/\(b≠rO S/\oe s=ie f S/\10000 - rO S<f/\gX S+36160000000*f<=gX s+36160000000*10001\/b=rO S/\S=oe s)
theorem yIk(n c g:Nat)(y:dY)(s:dX)(w:World)(h:dx w n c g y s)(hC:kT s)(hc:c<=10000)(hlo:gX s+400000000000000<=4611686018427387904) :
  Calls Tryz.prog 16 #[.pointer (some ⟨g,0,none⟩)] w fun e w'=>e=.returned (.tuple #[])/\∃ y',dx w' n c g y' (oe s)/\eL w y w' y':=by
 have HH:=dV h;have HC:=dV hC;have nB:=dV hlo;clear h hC hlo;go_enter Tryz.func16,Tryz.ntmps16;go_wp2_with fail;go_loopw [2] (fun b0 wr=>∃ f,KL n c g w y s b0 wr f) (fun b0 wr=>zR (KL n c g w y s b0) wr)
 case atStart=>exact ⟨10001,s,y,-1,rfl,HC.out,HH.out,eL.refl _ _,.inl ⟨by omega,rfl,by omega,bR _⟩⟩
 case round=>
  obtain ⟨S,yr,b,hb,hC,hH,hK,Kh⟩:=Ts hrel;obtain ⟨f,xx⟩:∃ f,f=zR (KL n c g w y s u2) wr:=⟨_,rfl⟩;rw [<-xx] at Kh;have Jc:=dV xx;clear hrel xx;subst hb;have BO:Hid (∀ wq,Mod dZ wr wq->Calls Tryz.prog 44 #[.pointer (some ⟨g,0,none⟩)] wq fun e w'=>e=.returned (.int .i64 (rO S))/\Mod dZ wq w'):=fun wq hq=>yOe n c g yr S wq (hH.quiet hq) hC.safe;rcases Kh with ⟨hne,he,CH,hpo⟩ | ⟨rfl,rfl⟩
  ·obtain ⟨f',rfl⟩:∃ f',f=f'+1:=⟨f - 1,by omega⟩;have BH:Hid (∀ wq yq,dx wq n c g yq (gU S)->eL w y wq yq->∃ f2,f2<=f'/\KL n c g w y s (.int .i64 (rO S)) wq f2):=fun wq yq h1 h2=>by
    obtain ⟨q1,q2,q3,_⟩:=UI hC;have hk2:=ySk q1.safe;have hk1:=q2.mv.known;have wX:oe s=if rO (gU S)=rO S then gU S else ie f' (gU S):=he
    by_cases e:rO (gU S)=rO S
    ·rw [aP e] at wX;exact ⟨0,aT _,gU S,yq,_,rfl,q1,h1,h2,.inr ⟨by rw [e],wX.symm⟩⟩
    ·rw [aK e] at wX;exact ⟨f',aF _,gU S,yq,_,rfl,q1,h1,h2,.inl ⟨by omega,wX,by omega,by omega⟩⟩
   have hl2:=nB.out;have hpS:gX S+36160000000+750800<=4611686018427387904:=by omega
   have hneb:((b:Int) != ((rO S:Nat):Int))=true:=by simpa using hne
   have LX:=dV (BO.out wr (Mod.refl _ _));have sQ:=dV hH;have HK:=dV hK;have Fy:=dV hC;have HFF2:Hid (zR (KL n c g w y s (.int .i64 b)) wr=f'+1):=Jc.out.symm;have rI:=dV hpS;clear hH hK hC he CH hpo hne hl2 Jc hpS;go_upto_region 2 with (first
    | (go_at_call 44;refine LX.out.mono ?_;rintro e w1 ⟨rfl,dh⟩)
    | fail)
   have BQ:=dV (BO.out w1 dh);clear LX BO;go_upto_region 3 with (first
    | (go_at_call 44;refine BQ.out.mono ?_;rintro e w2 ⟨rfl,hm2⟩)
    | fail)
   have lW:=dV (sQ.out.quiet (dh.trans hm2));have xC:=dV (HK.out.trans (eL.quiet (dh.trans hm2)));clear dh hm2 BQ;go_wp2_with fail;go_loopw [9] (fun i0 wi=>∃ (i:Nat) (yi:dY),i<=4/\i0=.int .i64 i/\dx wi n c g yi (jn i S)/\eL w y wi yi) (fun i0 _=>4 - (intOf i0).toNat)
   case atStart=>exact ⟨0,yr,aT _,rfl,lW.out,xC.out⟩
   case round=>
    obtain ⟨i,yi,hil,rfl,kQ,sI⟩:=hrel;by_cases DX:i<4
    ·obtain ⟨a,_,p⟩:=zWf Fy.out i;obtain ⟨a2,_,p2,_⟩:=a.tick;have hps:=rI.out;have oJ:=yHs (jn i S);have Dx:=dV (yHc n c g yi (jn i S) wr kQ a.safe (by omega));have LZ:Hid (∀ wq yq,dx wq n c g yq (lZ (jn i S))->Calls Tryz.prog 45 #[.pointer (some ⟨g,0,none⟩)] wq fun e w'=>e=.returned (.tuple #[])/\∃ y',dx w' n c g y' (jn (i+1) S)/\eL wq yq w' y'):=fun wq yq hq=>yPh n c g yq _ wq hq a2 hc (by omega);have xw:(i:Int)<4:=by omega
     have hi0:(0:Int)<=(i:Int):=by omega
     have QL:=dV sI;clear kQ sI a a2 p p2 hps oJ;go_wp2_with fail;refine Dx.out.mono ?_;rintro e w4 ⟨rfl,y4,pV,hK4⟩;have QU:=dV (LZ.out w4 y4 pV);have BP:=dV (QL.out.trans hK4);clear pV hK4 Dx LZ;go_wp2_with fail;refine QU.out.mono ?_;rintro e w5 ⟨rfl,y5,kt,pG⟩;have HF:Hid (dx w5 n c g y5 (jn (i+1) S)/\eL w y w5 y5):=⟨kt,BP.out.trans pG⟩;clear kt pG QU;go_wp2_with fail;go_roundw
     case rel=>exact ⟨i+1,y5,by omega,by go_num,HF.out.1,HF.out.2⟩
     case measure=>simp [intOf];omega
    ·have hi4:decide ((i:Int)<4)=false:=aL (by omega);have HN2:Hid (∃ f2,f2<=f'/\KL n c g w y s (.int .i64 (rO S)) wr f2):=by
      have e:i=4:=by omega
      rw [e] at kQ;exact BH.out wr yi kQ sI
     clear kQ sI;go_wp2_with fail;obtain ⟨f2,hf2,hI2⟩:=HN2.out;go_roundw
     case rel=>exact ⟨f2,hI2⟩
     case measure=>
      have h1:=Tt hI2;have h2:=HFF2.out;omega
  ·have HF:Hid (∀ wq,Mod dZ wr wq->∃ y',dx wq n c g y' (oe s)/\eL w y wq y'):=fun wq hq=>⟨yr,hH.quiet hq,hK.trans (eL.quiet hq)⟩;have LX:=dV (BO.out wr (Mod.refl _ _));clear hH hK hC BO Jc;generalize rO (oe s)=kn at LX;have hbb:((kn:Int) != (kn:Int))=false:=by simp
   go_wp2_with fail;refine LX.out.mono ?_;rintro e w1 ⟨rfl,dh⟩;have TE:=dV (HF.out w1 dh);clear dh LX HF;go_wp2_with fail;go_end0;exact ⟨rfl,TE.out⟩
end Go.Proofs.YtmaiggbnceejiaaGreatDoor
