import Derived.Test.YtmaiggbnceejiaaGreatDoorL16
import Derived.StillTailTactics
import Derived.Orders
set_option linter.unusedVariables false
set_option maxRecDepth 100000
set_option maxHeartbeats 16000000
namespace Go.Proofs.YtmaiggbnceejiaaGreatDoor
open Go.RowKit Go.Lib Go.Maps
variable {s:dp}{m id n c g b cap k i j last fuel:Nat}{w w':World}{y:dq}{l:List Int}{a:Act}{o oj oi:Oper}{v:Value}{K:Act->World->Prop}{listed:Array Bool}
theorem yXf(d:Int)(w:World)(h:ET w):Calls Tryz.prog 67 #[jP d] w λe w'=>e=.returned (.int .i64 d)/\Mod dt w w':=by
 by_cases f:d=0
 .subst f;rw[pM];exact(yUb w).mono (λe w' ⟨q,p⟩=>⟨q,p ▸ Mod.refl _ _⟩)
 .rw[nL f];exact yMa d w h
structure Ob(w:World)(n c:Nat)(s:dp):Prop where
 sh:mo s
 ki:sw s.U.length s.keys
 et:ET w
 n:1<n
 c:c<=9000
theorem gS.shape{s':dp}(h:gS s s')(d:mo s)(p:∀t∈s'.U,t.writes.length<=20):mo s':=by
 refine⟨by rw[h.l];exact d.ll,by rw[h.l];exact d.nl,by rw[h.len];exact d.tl,λt ht=>?_,p⟩;obtain⟨i,f⟩:=aP ht;have e:i<s'.U.length:=(aB.1 f).1;have q:s'.I (i+1)=t:=by
  have:=vf (s:=s') (id:=i+1) (by omega) (by omega);rw[bL,f]at this;exact(bA this).symm
 have:=h.at_ (i+1);rw[q]at this;rw[this,h.l];exact d.ta _ (FP (by omega) (by rw[h.len]at e;omega))
theorem OP(s:dp)(id:Nat)(t:jz)(h:∀t∈s.U,t.writes.length<=20)(ht:t.writes.length<=20):∀x∈(du s id t).U,x.writes.length<=20:=λx d=>by
 rcases bG d with q|q
 .exact h x q
 .rw[q];exact ht
theorem KS(h:∀t∈s.U,t.writes.length<=20)(id:Nat):(s.I id).writes.length<=20:=by
 unfold dp.I;rw[aI]
 cases d:s.U[id-1]? with
|none=>simp
|some t=>exact h t (aC d)
theorem zRo(s:dp)(id:Nat)(st:Int)(h:∀t∈s.U,t.writes.length<=20):∀t∈(pA s id st).U,t.writes.length<=20:=OP s id _ h (by simp)
theorem yGh(s:dp)(id:Nat)(h:∀t∈s.U,t.writes.length<=20):∀t∈(gk s id).U,t.writes.length<=20:=by
 unfold gk;refine zRo _ id 4 ?_;split
 .exact OP s id _ h (KS h id)
 .exact h
theorem WX:∀(ids:List Int) (s:dp),(∀t∈s.U,t.writes.length<=20)->∀t∈(jT s ids).U,t.writes.length<=20
|[],_,h=>h
|i::ids,s,h=>by
  show ∀t∈(jT (eW s i) ids).U,_;refine WX ids _ ?_;unfold eW;split
  .exact yGh s _ h
  .exact h
theorem mo.ft(h:mo s)(ids:List Int):mo (jT s ids):=(gS.ft ids s).shape h (WX ids s h.tw)
theorem mo.locked(h:mo s)(id:Int)(key:ByteArray)(mode:Int):mo (iL s id key mode).1:=⟨h.ll,h.nl,h.tl,h.ta,h.tw⟩
theorem yEp(h:sw m s.keys)(id:Nat):sw m (gk s id).keys:=by
 have e:(gk s id).keys=gg s.keys id:=by unfold gk pA;split <;> rfl
 rw[e];exact h.rel _
theorem Zw:∀(ids:List Int) {s:dp},sw m s.keys->sw m (jT s ids).keys
|[],_,h=>h
|i::ids,s,h=>by
  show sw m (jT (eW s i) ids).keys;refine Zw ids ?_;unfold eW;split
  .exact yEp h _
  .exact h
theorem zZi(s:dp)(id:Int)(key:ByteArray)(mode:Int):(jn s id key mode).1.U.length=s.U.length/\(jn s id key mode).1.lines=s.lines:=by
 unfold jn;simp only;split
 .exact⟨(gS.ft _ (iL s id key mode).1).len,(gS.ft _ (iL s id key mode).1).l⟩
 .exact⟨rfl,rfl⟩
theorem yEl{id:Int}{key:ByteArray}{mode:Int}(h:sw s.U.length s.keys)(f:nY (s.keys key))(q:1<=id/\id<=(s.U.length:Int)):∀i∈(jn s id key mode).2.1,1<=i/\i<=(s.U.length:Int):=λi e=>by
 unfold jn at e;simp only at e;split at e
 .obtain⟨d,r,rfl⟩:=WW _ _ i e;have p:sw s.U.length (iL s id key mode).1.keys:=h.lock f q;exact Zw _ p key d (.inl r)
 .obtain⟨d,r,rfl⟩:=WW _ _ i e;exact h key d (.inl r)
theorem eJ.uT{c':Nat}(h:eJ w n c g y s)(d:c<=c'):eJ w n c' g y s:={h with qn:=⟨h.qn.1,h.qn.2.1,aO h.qn.2.2 d⟩}
theorem eJ.fresh(h:eJ w n c g y s){u:Value}(d:ju w' w.heap.size u l):Bw w' y u l:=by
 refine⟨yBf d,λk f=>?_⟩;obtain⟨q,p,_⟩:=fs d f;refine⟨?_,p⟩;by_cases e:y.own k=.no
 .exact e
 .have:=(h.own.lt k e).2;omega
theorem Ww{B:Nat}{x:Int}(h:w.ownsRow B 3 1 (.slice (some ⟨b,0,none⟩) m cap) l.length (l.map (Value.int .i64)))(q:k<l.length):(w.setCell ⟨b,k,none⟩ (.int .i64 x)).ownsRow B 3 1 (.slice (some ⟨b,0,none⟩) m cap) (l.set k x).length ((l.set k x).map (Value.int .i64))/\(∃u,w.cell? ⟨b,k,none⟩=some u)/\w.frozen? ⟨b,k,none⟩=false:=by
 obtain⟨r,p⟩:=h;obtain⟨e,_⟩|⟨b',cap',cur,e,q1,q2,q3,q4,q5,q6⟩:=p
 .simp at e
 .simp only[Value.slice.injEq,ag,Addr.mk.injEq]at e;obtain⟨⟨rfl,_,_⟩,rfl,rfl⟩:=e;have hB:dx w b cur.toList 3:=by unfold dx;rw[q2]
  have f:=hB.set k (.int .i64 x);have d:k<cur.toList.length:=by rw[cM];omega
  refine⟨⟨by simp,.inr ⟨b,cap,(cur.toList.set k (.int .i64 x)).toArray,by rw[ai],q1,?_,by rw[ai];exact q3,q4,?_,?_⟩⟩,⟨_,hB.cell k (aA d)⟩,hB.frozen k⟩
  .exact f
  .simp;omega
  .rw[ai,cq];rw[cq]at q6;simp only[List.map_set];rw[<-q6,List.take_set]
theorem eJ.came(h:eJ w n c g y s){f:Nat}(H:1<=id)(G:id<=s.U.length)(F:y.kP[id-1]?=some b)(A:k<(s.I id).ats.length)(u:y.jy b=.slice (some ⟨f,0,none⟩) (s.I id).ats.length cap) :
  ∃D,eJ (w.setCell ⟨f,k,none⟩ (.int .i64 1)) n c g D (mq s id k)/\eu w y (w.setCell ⟨f,k,none⟩ (.int .i64 1)) D:=by
 have r:=h.I (id-1) b _ F (vf H G);have d:=r.ats;rw[u]at d;obtain⟨L,_,_⟩:=Ww (x:=1) d A;have t:Mod (eQ f) w (w.setCell ⟨f,k,none⟩ (.int .i64 1)):=Mod.eE f k _;have M:f≠b:=λe=>pf d r.Z (by decide) (by rw[e];rfl);have z:∀k,(y.kT b).ownBlock=some k->k≠f:=λk A e=>by
  subst e;obtain⟨_,_,N,B⟩:=fs r.wr A;obtain⟨_,_,J,p⟩:=fs d rfl;rw[B]at p;simp at p
 obtain⟨E,C⟩:=h.rI F (vf H G) (t':={s.I id with ats:=(s.I id).ats.set k 1}) (av:=y.jy b) (wv:=y.kT b) (t.mono (λx _ e=>.inr (.inl (by rw[u];exact an some (Eq.symm e))))) (r.Z.mod t (λe=>M (Eq.symm e))) (by rw[u];exact L) (gO r.wr t (λk _ _ e q=>z k e q)) (.inl (.inl rfl)) (.inl (.inl rfl));rw[Ny]at E;exact⟨_,E,C,rfl,rfl,rfl,rfl,rfl⟩
theorem mo.came(h:mo s)(id k:Nat):mo (mq s id k):=
 (gS.du s id {s.I id with ats:=(s.I id).ats.set k 1} (by simp)).shape h (OP s id _ h.tw (KS h.tw id))
def QU(w:World)(n c g:Nat)(y:dq)(s':dp)(f:Int)(e:Ending)(w':World):Prop:=e=.returned (jP f)/\∃d,eJ w' n c g d s'/\eu w y w' d
theorem yEv(n c g:Nat)(y:dq)(s:dp)(id:Nat)(key:ByteArray)(mode:Int)(w:World)(h:eJ w n c g y s)(D:Ob w n c s)(h1:1<=id)(h2:id<=s.U.length)(hk:key.size<=20)(hm:mode=1\/mode=2) :
  Calls Tryz.prog 38 #[.pointer (some ⟨g,0,none⟩),.int .i64 id,.string key,.int .i64 mode] w (QU w n (c+2) g y (gj s id key mode).1 (gj s id key mode).2):=by
 have B:=D.sh.tl;have hcc:=D.c;have GM:gP key:=by unfold gP maxLen;omega
 have Hv:=dk (h.JD D.ki B (by omega) id ⟨by omega,by omega⟩ key hk mode hm);have hmk:=Nw;have Q:=dk D;have HO:=dk h.own;have QM:=dk (h.tab.ok key GM);clear h D;go_enter Tryz.func38,Tryz.ntmps38;go_upto_region 1 with fail;go_wp2_with fail;refine Hv.out.mono ?_;rintro e w1⟨ok,u,P,rfl,kf,qp,W⟩;have X:ET w1:=Q.out.et.keep HO.out Q.out.n qp.st;obtain⟨ua,uc,GH,_,_⟩:=gD.slice W.1;subst GH;have O:=dk (yXf (iL s id key mode).2.2 w1 X);have HY:Hid (∀wq,Mod dt w1 wq->Calls Tryz.prog 51 #[.pointer (some ⟨g,0,none⟩),.int .i64 id,.string key] wq λe w'=>e=.returned (.bool (qK (iL s id key mode).1 id key))/\Mod dt wq w'):=λwq hq=>yCq n (c+1) g P _ id key wq (kf.quiet hq) B GM;have uE:=dk kf;have Dv:=dk qp;have HU1:=dk W;have HE1:=dk X;have HER:Hid (iL s id key mode=((iL s id key mode).1,(iL s id key mode).2.1,(iL s id key mode).2.2)):=rfl;obtain⟨s1,hs1⟩:∃x,x=(iL s id key mode).1:=⟨_,rfl⟩;obtain⟨ws1,GF⟩:∃x,x=(iL s id key mode).2.1:=⟨_,rfl⟩;obtain⟨Ao,Ga⟩:∃x,x=(iL s id key mode).2.2:=⟨_,rfl⟩;have VX:Hid (jn s id key mode=if Ao=4/\qK s1 id key=true then iL (jT s1 (pd s1 id key)) id key mode else(s1,ws1,Ao)):=by rw[hs1,GF,Ga];rfl
 have L:Hid (mo s1/\sw s1.U.length s1.keys/\s1.U.length=s.U.length):=by
  rw[hs1];exact⟨Q.out.sh.locked _ _ _,Q.out.ki.lock QM.out ⟨by show(1:Int)<=(id:Int);omega,by show(id:Int)<=_;omega⟩,rfl⟩
 rw[<-hs1]at HY uE;rw[<-GF]at HU1;rw[<-Ga]at O;rw[<-Ga,<-GF];clear kf qp W X Hv HER hs1 GF Ga;go_upto_region 2 with fail;go_cut [31] (λt wc=>t=.bool (decide (Ao=4)&&qK s1 id key)/\Mod dt w1 wc)
 case first=>
  by_cases he:Ao=4
  .have MF:(Ao==4)=true:=by simpa using he
   have HD:Hid (decide (Ao=4)=true):=aQ he;clear he
   cases hy:qK s1 id key
   all_goals
    rw[hy]at HY;go_wp2_with (first
    |(go_at_call 67;refine O.out.mono ?_;rintro e H⟨rfl,f⟩)
    |(go_at_call 51;refine(HY.out _ f).mono ?_;rintro e w3⟨rfl,M⟩)
    |fail)
    go_meet
    case rel=>exact⟨by rw[HD.out,hy];rfl,f.trans M⟩
  .have MF:(Ao==4)=false:=by simpa using he
   have HD:Hid (decide (Ao=4)=false):=aN he;clear he;go_wp2_with (first
   |(go_at_call 67;refine O.out.mono ?_;rintro e H⟨rfl,f⟩)
   |fail)
   go_meet
   case rel=>exact⟨by rw[HD.out];rfl,f⟩
 case rest=>
  obtain⟨rfl,oI⟩:=hcut;have Ju:=dk (uE.out.quiet oI);have HKC:=dk (Dv.out.trans (eu.quiet oI));have HUC:=dk (HU1.out.keep (il.quiet oI));obtain⟨wd,hwd⟩:∃x,x=wc:=⟨_,rfl⟩;subst hwd;clear oI O HY uE Dv HU1;go_upto_if 31 with fail;go_cut [10,11] (λv e wc=>e=jP (jn s id key mode).2.2/\∃J,eJ wc n (c+2) g J (jn s id key mode).1/\eu w y wc J/\Bw wc J v (jn s id key mode).2.1)
  case first=>
   by_cases F:Ao=4/\qK s1 id key=true
   .have E:(decide (Ao=4)&&qK s1 id key)=true:=by rw[F.1,F.2];rfl
    rw[E];have VW:Hid (jn s id key mode=iL (jT s1 (pd s1 id key)) id key mode):=by unfold Hid;rw[VX.out,aK F]
    have Us:=dk (zZa n (c+1) g P s1 id key wd Ju.out (by rw[L.out.2.2];exact B) GM);clear F E VX;go_wp2_with fail;refine Us.out.mono ?_;rintro e w3⟨u3,rfl,S,M⟩;have hh3:=Ju.out.quiet M;have hlen:(pd s1 id key).length<=60:=aO (Zm s1 id key s1.U.length) (by rw[L.out.2.2];exact B);have zW:=dk (yCu n (c+1) g P s1 u3 (pd s1 id key) w3 hh3 L.out.1 (by omega) (Ju.out.fresh S) (λi hi=>WS hi));obtain⟨ua3,uc3,hua3⟩:=fU S;subst hua3;have vN:=dk (HKC.out.trans (eu.quiet M));clear S M hh3 Us;go_wp2_with fail;refine zW.out.mono ?_;rintro e w4⟨rfl,y4,qq,G⟩;have d:=gS.ft (pd s1 id key) s1;have VB:=dk (qq.JD (by rw[d.len];exact Zw _ L.out.2.1) (by rw[d.len,L.out.2.2];exact B) (by omega) id (by rw[d.len,L.out.2.2];omega) key hk mode hm);have Du:=dk (vN.out.trans G);clear qq G d zW vN;go_wp2_with fail;refine VB.out.mono ?_;rintro e w5⟨ok5,u5,y5,rfl,mG,qX,hU5⟩;have r:Hid (eJ w5 n (c+2) g y5 (jn s id key mode).1/\eu w y w5 y5/\Bw w5 y5 u5 (jn s id key mode).2.1):=by
     unfold Hid;rw[VW.out];exact⟨mG,Du.out.trans qX,hU5⟩
    have HEE:Hid (jP (iL (jT s1 (pd s1 id key)) id key mode).2.2=jP (jn s id key mode).2.2):=by unfold Hid;rw[VW.out]
    clear mG qX hU5 VB Du;go_wp2_with fail;go_meet
    case rel=>exact⟨HEE.out,y5,r.out.1,r.out.2.1,r.out.2.2⟩
   .have E:(decide (Ao=4)&&qK s1 id key)=false:=by
     cases hy:qK s1 id key with
    |false=>simp
    |true=>rw[aN (λq=>F ⟨q,hy⟩)];rfl
    rw[E];have VW:Hid (jn s id key mode=(s1,ws1,Ao)):=by unfold Hid;rw[VX.out,aH F]
    have r:Hid (eJ wd n (c+2) g P (jn s id key mode).1/\eu w y wd P/\Bw wd P (.slice ua ws1.length uc) (jn s id key mode).2.1):=by
     unfold Hid;rw[VW.out];exact⟨Ju.out.uT (by omega),HKC.out,HUC.out⟩
    have HEE:Hid (jP Ao=jP (jn s id key mode).2.2):=by unfold Hid;rw[VW.out]
    clear F E;go_wp2_with fail;go_meet
    case rel=>exact⟨HEE.out,P,r.out.1,r.out.2.1,r.out.2.2⟩
  case rest=>
   obtain⟨rfl,J,Xj,Bi,Tr⟩:=hcut;have ui:=zZi s id key mode;have Dg:=dk (yEl (mode:=mode) Q.out.ki QM.out ⟨by show(1:Int)<=(id:Int);omega,by show(id:Int)<=_;omega⟩);have zY:Hid (mo (jn s id key mode).1):=by
    unfold Hid;rw[VX.out];split
    .exact(L.out.1.ft _).locked _ _ _
    .exact L.out.1
   have N:Hid (gj s id key mode=if (jn s id key mode).2.2=9 then((jn s id key mode).1,11)else if (jn s id key mode).2.2=4 then((jn s id key mode).1,4)else
     (jT (mq (jn s id key mode).1 id (fL (jn s id key mode).1 key)) (jn s id key mode).2.1,if jD ((jT (mq (jn s id key mode).1 id (fL (jn s id key mode).1 key)) (jn s id key mode).2.1).keys key).held id<mode then 11 else 0)):=rfl
   have hEc:ET wc:=Q.out.et.keep HO.out Q.out.n Bi.st;clear VX L Ju HKC HUC HE1;generalize jn s id key mode=A at Xj Tr ui Dg zY N;obtain⟨p,wsA,Md⟩:=A;dsimp only at Xj Tr ui Dg zY N;have O:=dk (yXf Md wc hEc);have HHc:=dk Xj;have HKc:=dk Bi;have HUc:=dk Tr;obtain⟨va,vc,lL,_,XI⟩:=gD.slice Tr.1;subst lL;clear Xj Bi Tr hEc;go_upto_region 5 with fail;go_wp2_with fail;refine O.out.mono ?_;rintro e H⟨rfl,f⟩;have mh:=dk (HHc.out.quiet f);have ze:=dk (HKc.out.trans (eu.quiet f));have HU2:=dk (HUc.out.keep (il.quiet f));clear f O HHc HKc HUc;by_cases Y:Md=9
   .have b9:(Md==9)=true:=by simpa using Y
    have r:Hid (QU w n (c+2) g y (gj s id key mode).1 (gj s id key mode).2 (.returned (.iface 90 (.int .i64 11))) H):=by
     unfold Hid;rw[N.out,aK Y];exact⟨by rw[nL (by omega)],J,mh.out,ze.out⟩
    clear Y;go_wp2_with fail;go_ret;exact r.out
   .have b9:(Md==9)=false:=by simpa using Y
    by_cases e4:Md=4
    .have b4:(Md==4)=true:=by simpa using e4
     have r:Hid (QU w n (c+2) g y (gj s id key mode).1 (gj s id key mode).2 (.returned (.iface 90 (.int .i64 4))) H):=by
      unfold Hid;rw[N.out,aH Y,aK e4];exact⟨by rw[nL (by omega)],J,mh.out,ze.out⟩
     clear Y e4;go_wp2_with fail;go_ret;exact r.out
    .have b4:(Md==4)=false:=by simpa using e4
     have V:id<=p.U.length:=by rw[ui.1];exact h2
     obtain⟨b,F,hT⟩:=mh.out.AN (id:=id) h1 V;have nW:=dk (BQ n (c+2) g J p id b H.drew (mh.out.quiet ((Mod.refl dt H).drew)) h1 (by omega) F);have QH:=dk (ZF n (c+2) g J p key H.drew (mh.out.quiet ((Mod.refl dt H).drew)) zY.out (by omega));have rS:(p.I id).ats.length=p.lines.length:=zY.out.ta _ (FP h1 V);have hll:=zY.out.ll;have T:fL p key<(p.I id).ats.length:=by
      have:fL p key<dz p:=dP _ (by unfold dz;omega);unfold dz at this;omega
     obtain⟨ab,sY,pF⟩:∃ab sY,J.jy b=.slice (some ⟨ab,0,none⟩) (p.I id).ats.length sY:=by
      obtain⟨e,h0⟩|⟨g',cap',cur,e,_⟩:=hT.ats.2
      .omega
      .exact⟨g',cap',e⟩
     have t1:=hT.Z.cell 1 rfl;have C:=hT.ats;rw[pF]at t1 C;obtain⟨_,⟨u0,a0⟩,f0⟩:=Ww (x:=1) C T;have IA:=dk (mh.out.came h1 V F T pF);have HSC:=dk (zY.out.came id (fL p key));obtain⟨R,hkk⟩:∃x,x=fL p key:=⟨_,rfl⟩;rw[<-hkk]at QH IA T a0 f0 N HSC;have zO:(R:Int)<((p.I id).ats.length:Int):=by omega
     have ry:(0:Int)<=(R:Int):=by omega
     have zb:=hT.Z.lt;clear hT F pF C Y e4 hkk rS;go_upto_region 10 with fail;refine wp_region_still_tail 10 (by kernel_rfl) (by kernel_rfl) ?_;simp only[az,bu,bb,cI]
     repeat still_step
     still_call nW.out
     repeat still_step
     still_call QH.out
     repeat still_step
     refine B9 ?_;go_upto_region 11 with fail;obtain⟨y3,tZ,hK3⟩:=IA.out;obtain⟨w3,hw3⟩:∃x,x=(H.setCell ⟨ab,R,none⟩ (.int .i64 1)).drew:=⟨_,rfl⟩;have M:Mod dt (H.setCell ⟨ab,R,none⟩ (.int .i64 1)) w3:=by rw[hw3];exact(Mod.refl dt _).drew
     rw[<-hw3];have UF:=tZ.quiet M;have MT:=hK3.trans (eu.quiet M);have hU3:=HU2.out.keep MT.st;have hlc:(mq p id R).U.length=s.U.length:=(mO _ _ _).trans ui.1;have zW:=dk (yCu n (c+2) g y3 (mq p id R) _ wsA w3 UF HSC.out (by omega) hU3 (λi hi=>by rw[hlc];exact Dg.out i hi));have vN:=dk (ze.out.trans MT);clear hw3 M tZ hK3 UF MT hU3 IA nW QH a0 f0 t1;go_wp2_with fail;refine zW.out.mono ?_;rintro e w4⟨rfl,y4,qq,G⟩;have Ng:=dk (qq.holds id key GM);have Yb:=dk qq;have Du:=dk (vN.out.trans G);clear qq G zW vN;generalize hS:jT (mq p id R) wsA=sF at Ng Yb N;go_upto_region 12 with fail;go_wp2_with fail;refine Ng.out.mono ?_;rintro e w5⟨rfl,fA⟩;have QO:=dk (Yb.out.quiet fA);have Jt:=dk (Du.out.trans (eu.quiet fA));by_cases z:jD (sF.keys key).held id<mode
     .have hlb:decide (jD (sF.keys key).held id<mode)=true:=aQ z;have r:Hid (QU w n (c+2) g y (gj s id key mode).1 (gj s id key mode).2 (.returned (.iface 90 (.int .i64 11))) w5):=by
       unfold Hid;rw[N.out,aH (by simpa using b9),aH (by simpa using b4),aK z];exact⟨by rw[nL (by omega)],y4,QO.out,Jt.out⟩
      clear z;go_wp2_with fail;go_ret;exact r.out
     .have hlb:decide (jD (sF.keys key).held id<mode)=false:=aN z;have r:Hid (QU w n (c+2) g y (gj s id key mode).1 (gj s id key mode).2 (.returned .nilIface) w5):=by
       unfold Hid;rw[N.out,aH (by simpa using b9),aH (by simpa using b4),aH z];exact⟨by rw[pM],y4,QO.out,Jt.out⟩
      clear z;go_wp2_with fail;go_ret;exact r.out
theorem yVx(h:eJ w n c g y s){d:Nat}(q:k<s.lines.length)(r:y.gd[k]?=some b)(e:(y.fu b)[0]?=some d):vV s k=if gQ s (y.st s d)then some (y.st s d)else none:=by
 have p:=h.wR r (nM q);unfold vV
 cases f:y.fu b with
|nil=>rw[f]at e;simp at e
|cons a l=>
  rw[f]at e p;simp at e;subst e;rw[<-p];rfl
theorem eJ.Tf(h:eJ w n c g y s)(f:mo s)(e:k<s.lines.length):∃b d,y.gd[k]?=some b/\(y.fu b)[0]?=some d:=by
 obtain⟨b,p,q⟩:=h.nQ e;have:=(f.nl _ (Nu e)).1;have:=q.len;exact⟨b,_,p,aA (by omega)⟩
theorem yUf(d:mo s)(key:ByteArray):fL s key<s.lines.length:=by
 have e:=d.ll;have:fL s key<dz s:=dP _ (by unfold dz;omega);unfold dz at this;omega
def Va(y:dq)(s:dp)(id:Int)(key:ByteArray)(e:Ending):Prop:=
 (oN s id key≠0/\e=.returned (.tuple #[.pointer none,jP (oN s id key)])) \/
 (oN s id key=0/\∃b d,y.gd[fL s key]?=some b/\(y.fu b)[0]?=some d/\gQ s (y.st s d)=true/\e=.returned (.tuple #[.pointer (some ⟨d,0,none⟩),.nilIface]))
theorem yLa(n c g:Nat)(y:dq)(s:dp)(id:Int)(key:ByteArray)(w:World)(h:eJ w n c g y s)(A:mo s)(N:gP key) :
  Calls Tryz.prog 37 #[.pointer (some ⟨g,0,none⟩),.int .i64 id,.string key] w λe w'=>Va y s id key e/\Mod dt w w':=by
 have x:=dk (Yn n c g y s id w h A.tl);have M:=Nw;unfold gP maxLen at N;by_cases p:oC s id=0
 .rw[p,pM]at x;by_cases B:20<key.size
  .have F:decide ((key.size:Int) > 20)=true:=aQ (by omega);have f:Hid (oN s id key=4):=by unfold Hid oN;rw[aH (λq=>q p),aK B]
   clear h p B;go_enter Tryz.func37,Tryz.ntmps37;go_wp2_with (first
   |(go_at_call 35;refine x.out.mono ?_;rintro e w1⟨rfl,rfl⟩)
   |fail)
   go_ret2;exact⟨.inl ⟨by rw[f.out];omega,by rw[f.out,nL (by omega)];rfl⟩,Mod.refl _ _⟩
  .have F:decide ((key.size:Int) > 20)=false:=aN (by omega);have r:=yUf A key;obtain⟨b,d,D,C⟩:=h.Tf A r;have H:=dk (ZF n c g y s key w h A (by omega));have E:=dk (yEw n c g y s (fL s key) b d w h r D C);have u:=dk (yVx h r D C);have P:=dk D;have O:=dk C;have z:Hid (oN s id key=if (vV s (fL s key)).isNone then 12 else 0):=by unfold Hid oN;rw[aH (λq=>q p),aH B]
   clear h p B D C
   cases t:gQ s (y.st s d)with
  |false=>
    rw[t]at E u;have f:Hid (oN s id key=12):=by unfold Hid;rw[z.out,u.out];rfl
    clear z u;go_enter Tryz.func37,Tryz.ntmps37;go_wp2_with (first
    |(go_at_call 35;refine x.out.mono ?_;rintro e w1⟨rfl,rfl⟩)
    |(go_at_call 65;refine H.out.mono ?_;rintro e L⟨rfl,rfl⟩)
    |(go_at_call 64;refine E.out.mono ?_;rintro e J⟨rfl,G⟩)
    |fail)
    go_ret2;exact⟨.inl ⟨by rw[f.out];omega,by rw[f.out,nL (by omega)];rfl⟩,G⟩
  |true=>
    rw[t]at E u;have f:Hid (oN s id key=0):=by unfold Hid;rw[z.out,u.out];rfl
    clear z u;go_enter Tryz.func37,Tryz.ntmps37;go_wp2_with (first
    |(go_at_call 35;refine x.out.mono ?_;rintro e w1⟨rfl,rfl⟩)
    |(go_at_call 65;refine H.out.mono ?_;rintro e L⟨rfl,rfl⟩)
    |(go_at_call 64;refine E.out.mono ?_;rintro e J⟨rfl,G⟩)
    |fail)
    go_ret2;exact⟨.inr ⟨f.out,b,d,P.out,O.out,t,rfl⟩,G⟩
 .rw[nL p]at x;have f:Hid (oN s id key=oC s id):=by unfold Hid oN;rw[aK p]
  have I:=dk p;clear h p;go_enter Tryz.func37,Tryz.ntmps37;go_wp2_with (first
  |(go_at_call 35;refine x.out.mono ?_;rintro e w1⟨rfl,rfl⟩)
  |fail)
  go_ret2;exact⟨.inl ⟨by rw[f.out];exact I.out,by rw[f.out,nL I.out];rfl⟩,Mod.refl _ _⟩
section
variable {P:Program}{ops:Array Oper}{Q:Exit->Act->World->Prop}{md:Region.Mode}{C:World->Prop}
theorem IJ{c:Code}(h:∀b,b=a->c.wp P Q b w):c.wp P Q a w:=h a rfl
theorem IM{c:Code}(h:∀d,d=Q->c.wp P d a w):c.wp P Q a w:=h Q rfl
theorem zA{p:Oper}{t:Nat}{d:Bool}(q:o.guard=some (g,d))(f:ops[g]?=some p)(r:p.dst=some t)(e:a.eval (.tmp t)=.bool d):Region.wanted o (yielded ops a.tmps)=true:=by
 have h:a.tmps[t]?=some (.bool d):=by
  simp only[Act.eval,Array.getD_eq_getD_getElem?]at e
  cases ht:a.tmps[t]? with
 |none=>rw[ht]at e;simp[undef]at e
 |some x=>rw[ht]at e;simp at e;rw[e]
 simp only[Region.wanted,q,yielded,f,cK,r,h];exact beq_self_eq_true _
def BN(P:Program)(ops:Array Oper)(C:World->Prop)(o:Oper)(v:Value)(a:Act):Prop:=
 Region.wanted o (yielded ops a.tmps)=true/\∀w,C w->(execOp a.eval o).run P w=.ok (.value v) w
theorem BN.of_same{d:Act}(e:BN P ops C o v a)(h:execOp d.eval o=execOp a.eval o)
  (f:Region.wanted o (yielded ops d.tmps)=Region.wanted o (yielded ops a.tmps)):BN P ops C o v d:=by
 unfold BN at *;rw[h,f];exact e
theorem BN.wpOp(p:ops[i]?=some o)(d:BN P ops C o v a)
  {K:Act->World->Prop} {w:World} (q:C w) (h:K (a.put o.dst v) w):wpOp P ops Q i K a w:=by
 unfold Go.wpOp;simp only[p];obtain⟨e,f⟩:=d;simp only[e,if_true,Oper.wp,f w q,Oper.upon];exact .inl h
theorem yGs(E:ops[j]?=some oj)(h:wpOp P ops Q j K a w) :
  wpOp P ops Q j (λD w'=>K D w'/\∃u q,D={a.put oj.dst u with defers:=q}) a w:=by
 have F:∀u q,({a with defers:=q}:Act).put oj.dst u={a.put oj.dst u with defers:=q}:=λu q=>by cases oj.dst <;> rfl
 unfold wpOp at h⊢;simp only[E]at h⊢;by_cases A:Region.wanted oj (yielded ops a.tmps)=true
 .rw[aK A]at h⊢;refine h.imp (λh=>?_) id;unfold Oper.wp at h⊢
  cases B:(execOp a.eval oj).run P w with
 |halt x w'=>rw[B]at h;cases x <;> exact h
 |ok n w'=>
   rw[B]at h
   cases n with
  |value u=>exact⟨h,u,_,rfl⟩
  |skip=>exact⟨h,undef,_,rfl⟩
  |defer d=>exact⟨h,undef,_,F _ _⟩
  |enter f t=>
    refine Calls.mono h λe z p=>?_
    cases e with
   |returned u=>exact⟨p,u,_,rfl⟩
   |panicked c=>exact p
   |outgrown=>exact p
  |row r t=>exact Rows.mono h λu z p=>⟨p,u,_,rfl⟩
  |_=>exact h
 .rw[aH A]at h⊢;exact⟨h,undef,_,rfl⟩
theorem yOs(t:ops[j]?=some oj)(q:oi.apart ops oj=true)
  (L:∀e b,oi.op≠.select e b) (p:∀e b,oj.op≠.select e b)
  (H:∀c a w,Q (.panic c) (a.put oi.dst v) w->Q (.panic c) a w) {K:Act->World->Prop} {a:Act} {w:World}
  (D:BN P ops C oi v a) (h:wpOp P ops Q j K (a.put oi.dst v) w) :
  wpOp P ops Q j (λr w'=>BN P ops C oi v r/\K (r.put oi.dst v) w') a w:=by
 obtain⟨J,I,z⟩:=Oper.apart_spec q;have E:({oi with op:=.assign (.const v),guard:=none}:Oper).looksAt ops=[]:=by simp[Oper.looksAt,Op.operands]
 have G:({oi with op:=.assign (.const v),guard:=none}:Oper).apart ops oj=true:=by
  unfold Oper.apart;rw[E]
  cases x:oi.dst with
 |none=>cases oj.dst <;> simp
 |some d=>
   have B:(oj.looksAt ops).contains d=false:=by simpa using J d x
   have A:(oj.dst !=some d)=true:=by simpa using I d x
   simp only[B,A]
   cases oj.dst <;> simp
 have f:Yields P ops {oi with op:=.assign (.const v),guard:=none} v a:=.inl ⟨by simp[Region.wanted],λw=>rfl⟩;refine wpOp_mono ?_ (yGs t (wpOp_put (oi:={oi with op:=.assign (.const v),guard:=none}) t G (λe b=>by simp) p H f h));rintro r w'⟨⟨_,F⟩,u,M,rfl⟩;exact⟨D.of_same (execOp_put oi L a oj.dst u z) (wanted_put oi a oj.dst u z),F⟩
def oD(P:Program)(md:Region.Mode)(ops:Array Oper)(last:Nat)(C:World->Prop)(Q:Exit->Act->World->Prop):Nat->Array Bool->Act->World->Prop
|0,listed,a,w=>Region.ready md ops listed=[]/\Q .normal a w
|fuel+1,listed,a,w=>
  (Region.ready md ops listed=[]->Q .normal a w) /\
  ∀i∈Region.ready md ops listed,wpOp P ops Q i (λd w'=>(i=last\/C w')/\oD P md ops last C Q fuel (listed.setIfInBounds i true) d w') a w
theorem zTk:∀(fuel:Nat) (listed:Array Bool) (a:Act) (w:World),oD P md ops last C Q fuel listed a w->wpAny P md ops Q fuel listed a w
|0,_,_,_,h=>h
|fuel+1,_,_,_,h=>⟨h.1,λi d=>wpOp_mono (λf w' e=>zTk fuel _ f w' e.2) (h.2 i d)⟩
def behind(md:Region.Mode)(ops:Array Oper)(j i:Nat):Bool:=match ops[j]? with
|some o=>o.after.any λe=>Region.binds md e&&e.on==i
|none=>false
theorem yMl(u:i∈Region.ready md ops listed)(t:j∈Region.ready md ops listed):behind md ops j i=false:=by
 obtain⟨h0,_⟩:=mem_ready.1 u;obtain⟨_,o,r,d⟩:=mem_ready.1 t
 cases q:behind md ops j i with
|false=>rfl
|true=>
  simp only[behind,r]at q;obtain⟨e,x,p⟩:=Array.any_eq_true'.1 q;simp only[bX,beq_iff_eq]at p;have f:=d e x p.1;rw[p.2]at f;have:i<listed.size:=by
   rcases dV i listed.size with h|h
   .exact h
   .simp[Array.getElem?_eq_none h]at f
  simp[this]at h0 f;rw[h0]at f
  cases f
theorem yCt(u:ops[i]?=some oi)(S:∀(j:Nat) (o:Oper) A b,ops[j]?=some o->o.op≠.select A b)
  (M:(behind md ops last i||decide (ops.size<=last))=true) (X:∀c a w,Q (.panic c) (a.put oi.dst v) w->Q (.panic c) a w) :
  ∀(fuel:Nat) (listed:Array Bool) (a:Act) (w:World),Region.free md ops listed i=true->i∈Region.ready md ops listed->BN P ops C oi v a->C w ->
   oD P md ops last C Q fuel (listed.setIfInBounds i true) (a.put oi.dst v) w->oD P md ops last C Q (fuel+1) listed a w:=by
 intro fuel
 induction fuel with
|zero=>
  intro listed a w _ p D z H;refine⟨λh=>(by rw[h]at p;cases p),λj t=>?_⟩;by_cases f:j=i
  .subst f;exact D.wpOp u z ⟨.inr z,H⟩
  .have:=ready_mono t f;rw[H.1]at this
   cases this
|succ fuel T=>
  intro listed a w d p D z H;refine⟨λh=>(by rw[h]at p;cases p),λj t=>?_⟩;by_cases f:j=i
  .subst f;exact D.wpOp u z ⟨.inr z,H⟩
  .obtain⟨R,oj,B,N⟩:=mem_ready.1 t;have q:=yMl p t;have E:j≠last:=λe=>by
    subst e;rw[q,Bool.false_or]at M;have O:=of_decide_eq_true M;have h2:=(aF.1 B).1;omega
   have I:oi.apart ops oj=true:=Region.free_spec u d j oj B f R (λe V W G=>by
    have:behind md ops j i=true:=by
     simp only[behind,B];exact Array.any_eq_true'.2 ⟨e,V,by simp[W,G]⟩
    rw[this]at q;cases q)
   have Z:Region.free md ops (listed.setIfInBounds j true) i=true:=by
    simp only[Region.free,u,List.all_eq_true,bV]at d⊢;intro k U;have O:=d k U;by_cases r:j=k
    .subst r;have F:j<listed.size:=by
      rcases dV j listed.size with L|L
      .exact L
      .simp[Array.getElem?_eq_none L]at R
     simp[F]
    .rw[getD_set_ne true r];exact O
   refine wpOp_mono (λY w' J=>?_) (yOs B I (λA b=>S i oi A b u) (λA b=>S j oj A b B) X D (H.2 j (ready_mono t f)));have x:=J.2.1.resolve_left E;refine⟨.inr x,T (listed.setIfInBounds j true) Y w' Z (ready_mono p (Ne.symm f)) J.1 x ?_⟩;rw[Array.setIfInBounds_comm _ _ f];exact J.2.2
theorem yGt(last i:Nat)(v:Value)(q:ops[i]?=some oi)
  (e:Region.noSelect ops=true) (p:(behind md ops last i||decide (ops.size<=last))=true) (r:Region.free md ops listed i=true) (f:(Region.ready md ops listed).contains i=true)
  (t:∀c a w,Q (.panic c) (a.put oi.dst v) w->Q (.panic c) a w) (u:C w) (d:BN P ops C oi v a)
  (h:oD P md ops last C Q fuel (listed.setIfInBounds i true) (a.put oi.dst v) w):oD P md ops last C Q (fuel+1) listed a w:=
 yCt q (Region.noSelect_spec e) p t fuel listed a w r (by simpa using f) d u h
theorem yGu(last i:Nat)(q:ops[i]?=some oi)(f:Region.ready md ops listed=[i])
  (p:Region.wanted oi (yielded ops a.tmps)=true) {v:Value} {w':World} (d:(execOp a.eval oi).run P w=.ok (.value v) w') (r:C w')
  (h:oD P md ops last C Q fuel (listed.setIfInBounds i true) (a.put oi.dst v) w'):oD P md ops last C Q (fuel+1) listed a w:=by
 refine⟨λh0=>(by rw[f]at h0;cases h0),λj e=>?_⟩;rw[f]at e;simp only[bU]at e;subst e;unfold wpOp;simp only[q,p,if_true,Oper.wp,d,Oper.upon];exact .inl ⟨.inr r,h⟩
theorem KX(i:Nat)(q:ops[i]?=some oi)(f:Region.ready md ops listed=[i])
  (p:Region.wanted oi (yielded ops a.tmps)=true) {w':World} (d:(execOp a.eval oi).run P w=.ok .skip w')
  (h:oD P md ops i C Q fuel (listed.setIfInBounds i true) (a.put oi.dst undef) w'):oD P md ops i C Q (fuel+1) listed a w:=by
 refine⟨λh0=>(by rw[f]at h0;cases h0),λj e=>?_⟩;rw[f]at e;simp only[bU]at e;subst e;unfold wpOp;simp only[q,p,if_true,Oper.wp,d,Oper.upon];exact .inl ⟨.inl (by simp),h⟩
theorem zYf(last i j:Nat)(f:Region.ready md ops listed=[i,j])
  (p:wpOp P ops Q i (λe w'=>(i=last\/C w')/\oD P md ops last C Q fuel (listed.setIfInBounds i true) e w') a w)
  (h:wpOp P ops Q j (λe w'=>(j=last\/C w')/\oD P md ops last C Q fuel (listed.setIfInBounds j true) e w') a w):oD P md ops last C Q (fuel+1) listed a w:=by
 refine⟨λh0=>(by rw[f]at h0;cases h0),λk d=>?_⟩;rw[f]at d;simp only[bB,List.not_mem_nil,or_false]at d;obtain rfl|rfl:=d
 .exact p
 .exact h
theorem yOr(f:ops[i]?=some oi)(e:Region.wanted oi (yielded ops a.tmps)=true)(d:(execOp a.eval oi).run P w=.ok (.value v) w')(h:K (a.put oi.dst v) w'):wpOp P ops Q i K a w:=by
 unfold wpOp;simp only[f,e,if_true,Oper.wp,d,Oper.upon];exact .inl h
theorem yGv(last i:Nat)(t:ops[i]?=some oi)(q:Region.ready md ops listed=[i])
  (r:Region.wanted oi (yielded ops a.tmps)=true) {f:Nat} {args:Array Value} (d:(execOp a.eval oi).run P w=.ok (.enter f args) w)
  (h:Calls P f args w λe w'=>∃v,e=.returned v/\C w'/\oD P md ops last C Q fuel (listed.setIfInBounds i true) (a.put oi.dst v) w'):oD P md ops last C Q (fuel+1) listed a w:=by
 refine⟨λh0=>(by rw[q]at h0;cases h0),λj p=>?_⟩;rw[q]at p;simp only[bU]at p;subst p;unfold wpOp;simp only[t,r,if_true,Oper.wp,d,Oper.upon];refine .inl (Calls.mono h ?_);rintro e w'⟨v,rfl,u,x⟩;exact⟨.inr u,x⟩
theorem zAd(last i d:Nat)(v:Value)(t:ops[i]?=some oi)(x:oi.dst=some d)
  (p:Region.noSelect ops=true) (r:(behind md ops last i||decide (ops.size<=last))=true) (u:Region.free md ops listed i=true) (q:(Region.ready md ops listed).contains i=true)
  (e:∀c a w,Q (.panic c) (a.put (some d) v) w->Q (.panic c) a w) (z:C w) (f:BN P ops C oi v a)
  (h:oD P md ops last C Q fuel (listed.setIfInBounds i true) (a.put (some d) v) w):oD P md ops last C Q (fuel+1) listed a w:=by
 rw[<-x]at e h;exact yGt last i v t p r u q e z f h
theorem fR(last i d:Nat)(v:Value)(r:ops[i]?=some oi)(u:oi.dst=some d)
     
  (x:∀c a w,Q (.panic c) (a.put (some d) v) w->Q (.panic c) a w) (z:C w) (e:BN P ops C oi v a)
  (h:oD P md ops last C Q fuel (listed.setIfInBounds i true) (a.put (some d) v) w)(f:Region.noSelect ops=true:=by kernel_rfl)(q:(behind md ops last i||decide (ops.size<=last))=true:=by kernel_rfl)(t:Region.free md ops listed i=true:=by kernel_rfl)(p:(Region.ready md ops listed).contains i=true:=by kernel_rfl):oD P md ops last C Q (fuel+1) listed a w:=zAd last i d v r u f q t p x z e h
theorem kJ(last i d:Nat)(q:ops[i]?=some oi)(r:oi.dst=some d)(p:Region.ready md ops listed=[i])
  (f:Region.wanted oi (yielded ops a.tmps)=true) {v:Value} {w':World} (e:(execOp a.eval oi).run P w=.ok (.value v) w') (t:C w')
  (h:oD P md ops last C Q fuel (listed.setIfInBounds i true) (a.put (some d) v) w'):oD P md ops last C Q (fuel+1) listed a w:=by
 rw[<-r]at h;exact yGu last i q p f e t h
theorem Zg(d:Nat)(p:ops[i]?=some oi)(q:oi.dst=some d)(f:Region.wanted oi (yielded ops a.tmps)=true)(e:(execOp a.eval oi).run P w=.ok (.value v) w')(h:K (a.put (some d) v) w'):wpOp P ops Q i K a w:=by
 rw[<-q]at h;exact yOr p f e h
theorem KY(last i d:Nat)(t:ops[i]?=some oi)(u:oi.dst=some d)(r:Region.ready md ops listed=[i])
  (q:Region.wanted oi (yielded ops a.tmps)=true) {f:Nat} {args:Array Value} (p:(execOp a.eval oi).run P w=.ok (.enter f args) w)
  (h:Calls P f args w λe w'=>∃v,e=.returned v/\C w'/\oD P md ops last C Q fuel (listed.setIfInBounds i true) (a.put (some d) v) w'):oD P md ops last C Q (fuel+1) listed a w:=by
 rw[<-u]at h;exact yGv last i t r q p h
theorem WU(last i q j p:Nat)(x:ops[i]?=some oi)(e:oi.dst=some q)(u:ops[j]?=some oj)(d:oj.dst=some p)(t:Region.ready md ops listed=[i,j])
  (r:Region.wanted oi (yielded ops a.tmps)=true) (B:Region.wanted oj (yielded ops a.tmps)=true) {vi vj:Value} {wi wj:World} (D:(execOp a.eval oi).run P w=.ok (.value vi) wi) (h:C wi) (E:(execOp a.eval oj).run P w=.ok (.value vj) wj) (f:C wj)
  (A:oD P md ops last C Q fuel (listed.setIfInBounds i true) (a.put (some q) vi) wi) (z:oD P md ops last C Q fuel (listed.setIfInBounds j true) (a.put (some p) vj) wj):oD P md ops last C Q (fuel+1) listed a w:=
 zYf last i j t (Zg q x e r D ⟨.inr h,A⟩) (Zg p u d B E ⟨.inr f,z⟩)
theorem zUt(last i t j q:Nat)(A:ops[i]?=some oi)(h:oi.dst=some t)(z:ops[j]?=some oj)(d:oj.dst=some q)(x:Region.ready md ops listed=[i,j])
  (u:Region.wanted oi (yielded ops a.tmps)=true) (F:Region.wanted oj (yielded ops a.tmps)=true) {f:Nat} {args:Array Value} {vj:Value} {wj:World} (G:(execOp a.eval oi).run P w=.ok (.enter f args) w) (H:(execOp a.eval oj).run P w=.ok (.value vj) wj) (p:C wj)
  (E:Calls P f args w λe w'=>∃v,e=.returned v/\C w'/\oD P md ops last C Q fuel (listed.setIfInBounds i true) (a.put (some t) v) w') (D:oD P md ops last C Q fuel (listed.setIfInBounds j true) (a.put (some q) vj) wj):oD P md ops last C Q (fuel+1) listed a w:=by
 refine zYf last i j x ?_ (Zg q z d F H ⟨.inr p,D⟩);unfold wpOp;simp only[A,u,if_true,Oper.wp,G,Oper.upon];refine .inl (Calls.mono E ?_);rintro e w'⟨v,rfl,B,r⟩;rw[<-h]at r;exact⟨.inr B,r⟩
theorem CM(last:Nat)(C:World->Prop)(d:P.follows .mixedOrders=true)
  (h:oD P .any ops last C Q ops.size (Array.replicate ops.size false) a {w with drawn:=w.drawn+1}):(Code.region id ops true).wp P Q a w:=
 wp_region_any d (zTk _ _ _ _ h)
end
end Go.Proofs.YtmaiggbnceejiaaGreatDoor
namespace Go.Proofs.YtmaiggbnceejiaaGreatDoor
open Go.RowKit Go.Lib Go.Maps
variable {s:dp}{w w':World}{m cap id n c g b k:Nat}{y:dq}
theorem yz{P:Program}{w w':World}{o:Oper}{a:Act}{s x:Operand}{t:TypeId}{e d v:Value}(j:o.op=.call {callee:=.builtin .append,args:=#[s,x],argTypes:=#[t,t]})(h:a.eval s=e)(f:a.eval x=d)
  (i:(Builtin.append_ #[t,t] o.type #[e,d]).run P w=.ok v w'):(execOp a.eval o).run P w=.ok (.value v) w':=by
 simp only[execOp,j,resolve,invoke,builtin,Sem.run_bind,Sem.run_pure,Result.andThen_ok,cD,bZ,cO,h,f,i]
theorem yPy{B d i:Nat}{a:List gB}{p:gB}(h:w.ownsRow B 68 3 (.slice (some ⟨d,0,none⟩) m cap) a.length (iG a))(r:i<a.length) :
  (w.setCells d (i*3) (kZ p)).ownsRow B 68 3 (.slice (some ⟨d,0,none⟩) m cap) (a.set i p).length (iG (a.set i p))/\Mod (eQ d) w (w.setCells d (i*3) (kZ p))/\(∀j,j<3->∃u,w.cell? ⟨d,i*3+j,none⟩=some u)/\∀j,w.frozen? ⟨d,j,none⟩=false:=by
 obtain⟨I,C⟩:=h;obtain⟨e,_⟩|⟨b',cap',cur,e,q1,q2,q3,q4,q5,q6⟩:=C
 .simp at e
 .simp only[Value.slice.injEq,ag,Addr.mk.injEq]at e;obtain⟨⟨rfl,_,_⟩,rfl,rfl⟩:=e;obtain⟨o,ho⟩:∃o,a[i]?=some o:=⟨_,aA r⟩;have G:=EX a;have A:a=a.take i++o::a.drop (i+1):=by rw[<-wJ ho,ar]
  have F:a.set i p=a.take i++p::a.drop (i+1):=by
   rw[List.set_eq_take_append_cons_drop,aK r]
  have D:cur.toList=iG (a.take i)++kZ o++(iG (a.drop (i+1))++cur.toList.drop (a.length*3)):=by
   have E:iG a=iG (a.take i)++(kZ o++iG (a.drop (i+1))):=by
    conv=>lhs;rw[A]
    rw[Qz,IX]
   have z:cur.toList=iG a++cur.toList.drop (a.length*3):=by
    rw[<-q6,ar]
   rw[E]at z;simpa[List.append_assoc]using z
  have hB:dx w d (iG (a.take i)++kZ o++(iG (a.drop (i+1))++cur.toList.drop (a.length*3))) 68:=by
   unfold dx;rw[q2,<-D]
  have lt:=EX (a.take i);rw[af,Nat.min_eq_left (Nat.le_of_lt r)]at lt;have x:=dx.lK (g:=d) (t:=68) (kZ p) w (iG (a.take i)) (kZ o) _ hB rfl;rw[lt]at x;have f:iG (a.set i p)=iG (a.take i)++kZ p++iG (a.drop (i+1)):=by rw[F,Qz,IX,aV]
  have q:=EX (a.set i p);rw[ai]at q;have v:(iG (a.take i)++kZ p++(iG (a.drop (i+1))++cur.toList.drop (a.length*3)))=iG (a.set i p)++cur.toList.drop (a.length*3):=by rw[f];simp[List.append_assoc]
  refine⟨⟨by rw[q,ai],.inr ⟨d,cap,(iG (a.set i p)++cur.toList.drop (a.length*3)).toArray,by rw[ai],q1,?_,by rw[ai];exact q3,q4,?_,?_⟩⟩,Mod.lK _ _ _,λj H=>?_,λj=>hB.frozen j⟩
  .rw[<-v];exact x
  .simp only[bE,aE,q,bT,cM];omega
  .rw[ai,<-q];simp
  .have l:i*3+j<(iG (a.take i)++kZ o++(iG (a.drop (i+1))++cur.toList.drop (a.length*3))).length:=by
    simp only[aE,lt,kZ,aW,bC];omega
   exact⟨_,hB.cell _ (aA l)⟩
def Ra(w:World)(n b:Nat)(y:dq)(t:jz)(w':World):Prop:=
 ∃a,dx w' b [.int .i64 t.state,y.jy b,a,.int .i64 t.time] 86/\w'.ownsRow n 3 1 (y.jy b) t.ats.length (t.ats.map (Value.int .i64))/\w'.ownsRow n 68 3 a t.writes.length (t.writes.flatMap pN)/\ik w (y.kT b) a/\Mod (RX b (y.jy b) (y.kT b)) w w'
theorem yOo(n b:Nat)(y:dq)(t:jz)(p:gB)(i:Nat)(w:World)(h:vG w n y b t)(hl:t.writes.length<=1000)(C:vg t p.key=some i) :
  Calls Tryz.prog 52 #[.pointer (some ⟨b,0,none⟩),.agg #[.string p.key,.string p.val,.bool p.gone]] w λe w'=>e=.returned (.tuple #[])/\Ra w n b y (oF t p) w':=by
 obtain⟨a,f,j⟩:=p;dsimp only at C⊢;obtain⟨w1,hw1⟩:∃z,z=w.alloc (.cells #[.string a,.string f,.bool j] 68):=⟨_,rfl⟩;have Q:Mod dt w w1:=by rw[hw1];exact(Mod.refl _ w).alloc _
 have v:dx w1 w.heap.size [.string a,.string f,.bool j] 68:=by rw[hw1];exact dx.new w _ _
 have N:=h.mod Q (λe=>e) (λ_ _ e=>e);have I:=dk (ZG n b y t a w1 N hl);rw[C]at I;simp only[jE]at I;have K:i<t.writes.length:=by
  unfold vg at C;obtain⟨J,_⟩:=cF.1 C;exact J
 obtain⟨r,O,jI⟩:∃r O,y.kT b=.slice (some ⟨r,0,none⟩) t.writes.length O:=by
  obtain⟨e,h0⟩|⟨g',cap',R,e,_⟩:=h.wr.2
  .omega
  .exact⟨g',cap',e⟩
 have x0:=v.cell 0 rfl;have S:=dk N;have V:=dk v;have P:=dk Q;have hge:decide ((i:Int) ≥ 0)=true:=aQ (by omega);clear h N v Q;go_enter Tryz.func52,Tryz.ntmps52;go_upto_region 1 with fail;rw[<-hw1];clear hw1;go_upto_region 3 with(first
 |(go_at_call 91;refine I.out.mono ?_;rintro e E⟨rfl,l⟩)
 |fail)
 have A:=S.out.mod l (λe=>e) (λ_ _ e=>e);have o:=V.out.mod l (λe=>e);have c2:=A.Z.cell 2 rfl;have y0:=o.cell 0 rfl;have y1:=o.cell 1 rfl;have y2:=o.cell 2 rfl;have zb:=A.Z.lt;have d:E.ownsRow n 68 3 (.slice (some ⟨r,0,none⟩) t.writes.length O) t.writes.length (iG t.writes):=by have:=A.wr;rw[jI]at this;exact this
 rw[jI]at c2;obtain⟨U,T,G,F⟩:=yPy (p:=⟨a,f,j⟩) d K;obtain⟨u0,Y⟩:=G 0 (by omega);obtain⟨u1,v1⟩:=G 1 (by omega);obtain⟨u2,v2⟩:=G 2 (by omega);have f0:=F (i*3);have f1:=F (i*3+1);have f2:=F (i*3+2);simp only[bK]at Y;have zP:(i:Int)<(t.writes.length:Int):=by omega
 have hi0:(0:Int)<=(i:Int):=by omega
 have hzw:=P.out.size;have B:r≠b:=λe=>pf d A.Z (by decide) (by rw[e];rfl);have Jr:=dk U;have FI:=dk T;have H:=dk A;have gy:=dk (P.out.trans l);clear U T G F d A o l I V S P;refine wp_region_still_tail 7 (by kernel_rfl) (by kernel_rfl) ?_;simp only[az,bu,bb,cI]
 repeat still_step
 refine B9 ?_;go_wp2_with fail;have M:oF t ⟨a,f,j⟩={t with writes:=t.writes.set i ⟨a,f,j⟩}:=by unfold oF;rw[show vg t (gB.key ⟨a,f,j⟩)=some i from C]
 refine A5 (B4 rfl _ _ _) rfl ⟨rfl,?_⟩;show Ra w n b y _ (World.drew (E.setCells r (i*3) (kZ ⟨a,f,j⟩)));rw[M];have u:Mod (eQ r) E (World.drew (E.setCells r (i*3) (kZ ⟨a,f,j⟩))):=FI.out.drew;have kV:∀k,(y.jy b).ownBlock=some k->k≠r:=λk hk e=>by
  subst e;obtain⟨_,_,R,L⟩:=fs H.out.ats hk;obtain⟨_,_,X,D⟩:=fs H.out.wr (show(y.kT b).ownBlock=some k by rw[jI];rfl);rw[L]at D;simp at D
 refine⟨y.kT b,H.out.Z.mod u (λe=>B (Eq.symm e)),gO H.out.ats u (λk _ _ e q=>kV k e q),?_,.inl rfl,?_⟩
 .rw[jI];have W:=Jr.out;rw[ai]at W;show World.ownsRow _ _ _ _ _ (t.writes.set i ⟨a,f,j⟩).length (iG (t.writes.set i ⟨a,f,j⟩));rw[ai];exact gO W ((Mod.refl dt _).drew) (λ_ _ _ _ e=>e)
 .exact(gy.out.mono (λ_ _ e=>e.elim)).trans (u.mono (λx _ e=>.inr (.inr (by rw[jI];exact an some (Eq.symm e)))))
theorem yOp(n b:Nat)(y:dq)(t:jz)(p:gB)(w:World)(h:vG w n y b t)(hn:n<=w.heap.size)(hl:t.writes.length<=1000)(hi:vg t p.key=none) :
  Calls Tryz.prog 52 #[.pointer (some ⟨b,0,none⟩),.agg #[.string p.key,.string p.val,.bool p.gone]] w λe w'=>e=.returned (.tuple #[])/\Ra w n b y (oF t p) w':=by
 obtain⟨j,l,o⟩:=p;dsimp only at hi⊢;obtain⟨i0,hpi,hz0,hz1,hz2⟩:=A3 Tryz.CZ;obtain⟨w1,hw1⟩:∃z,z=w.alloc (.cells #[.string j,.string l,.bool o] 68):=⟨_,rfl⟩;have dy:Mod dt w w1:=by rw[hw1];exact(Mod.refl _ w).alloc _
 have L:dx w1 w.heap.size [.string j,.string l,.bool o] 68:=by rw[hw1];exact dx.new w _ _
 have h1:=h.mod dy (λe=>e) (λ_ _ e=>e);have HW:=dk (ZG n b y t j w1 h1 hl);rw[hi]at HW;simp only[jE]at HW;have x0:=L.cell 0 rfl;have uE:=dk h1;have YY:Hid (∀k,(y.kT b).ownBlock=some k->k<w.heap.size):=λk R=>(fs h.wr R).2.1;have kh:=dk L;have fh:=dk dy;clear h h1 L dy;go_enter Tryz.func52,Tryz.ntmps52;go_upto_region 1 with fail;rw[<-hw1];clear hw1;go_upto_region 4 with(first
 |(go_at_call 91;refine HW.out.mono ?_;rintro e i⟨rfl,H⟩)
 |fail)
 have I:=uE.out.mod H (λe=>e) (λ_ _ e=>e);have E:=kh.out.mod H (λe=>e);obtain⟨A,C,Q⟩:=fU I.wr;have c2:=I.Z.cell 2 rfl;have f2:=I.Z.frozen 2;have y0:=E.cell 0 rfl;have y1:=E.cell 1 rfl;have y2:=E.cell 2 rfl;have zb:=I.Z.lt;have zq:=E.lt;have ma:=fh.out.trans H;have r:i.ownsRow n 68 3 (.slice A t.writes.length C) t.writes.length (iG t.writes):=by have:=I.wr;rw[Q]at this;exact this
 have D:((i.alloc (.cells #[.string j,.string l,.bool o] 68)).drew).ownsRow n 68 3 (.slice A t.writes.length C) t.writes.length (iG t.writes):=gO r (((Mod.refl dt i).alloc _).drew) (λ_ _ _ _ e=>e);obtain⟨v7,B,gT,eX,eh,oX,ib⟩:=C0 (P:=Tryz.prog) _ n 63 63 68 i0 _ 3 40 Tryz.underlying63 hpi hz0 hz1 hz2 rfl (by omega) _ _ _ D ⟨i.heap.size,0,none⟩ 1 1 (kZ ⟨j,l,o⟩) rfl (A7 (A0 i _)) (λu hu=>by simp[kZ]at hu;obtain rfl|rfl|rfl:=hu <;> rfl) (by unfold maxLen;omega) (by omega) (by have:=ma.size;show n<=(i.alloc _).heap.size;rw[A4];omega);obtain⟨a7,fV,qQ⟩:=fU eX;subst qQ;have J:Mod (λk=>(Value.slice A t.writes.length C).ownBlock=some k) i B:=(((Mod.refl _ i).alloc _).drew).grown eh (λx hx _=>hx);have G:(Value.slice A t.writes.length C).ownBlock≠some b:=pf r I.Z (by decide);rw[Q]at c2;have c7:=J.cell c2 G;have f7:=(J.frozen (p:=⟨b,2,none⟩) zb G).trans f2;have zb7:=aJ zb J.size;have K:(Value.slice A t.writes.length C).ownBlock≠some w.heap.size:=λe=>by have:=YY.out w.heap.size (by rw[Q];exact e);omega
 have y07:=J.cell y0 K;have y17:=J.cell y1 K;have y27:=J.cell y2 K;have W:=dk I;have gG:=dk r;have HOW7:=dk eX;have NZ:=dk J;have KC:=dk ib;have gy:=dk ma;refine IJ λfr M=>?_;refine IM λQ1 X=>?_;have N:∀(d:Nat) (v:Value) (c:List PanicEntry) (a:Act) (w:World),Q1 (.panic c) (a.put (some d) v) w->Q1 (.panic c) a w:=λd v c a w h=>by rw[X]at h⊢;exact h
 have ti:=dk X;clear X;have hsz:fr.tmps.size=28:=by rw[M];rfl
 obtain⟨_,t0⟩:∃h:0<fr.tmps.size,fr.tmps[0]=.pointer (some ⟨b,0,none⟩):=aF.1 (by rw[M];rfl);obtain⟨_,t3⟩:∃h:3<fr.tmps.size,fr.tmps[3]=.pointer (some ⟨w.heap.size,0,none⟩):=aF.1 (by rw[M];rfl);have kI:=dk M;clear M I E r D eX J ib oX ma H uE kh fh HW;refine CM 10 (λF=>F.cell? ⟨b,2,none⟩=some (.slice A t.writes.length C)/\F.cell? ⟨w.heap.size,0,none⟩=some (.string j)/\F.cell? ⟨w.heap.size,1,none⟩=some (.string l)/\F.cell? ⟨w.heap.size,2,none⟩=some (.bool o)) rfl ?_;have O:Hid (i.drew.cell? ⟨b,2,none⟩=some (.slice A t.writes.length C)/\i.drew.cell? ⟨w.heap.size,0,none⟩=some (.string j)/\i.drew.cell? ⟨w.heap.size,1,none⟩=some (.string l)/\i.drew.cell? ⟨w.heap.size,2,none⟩=some (.bool o)):=⟨c2,y0,y1,y2⟩;refine fR 10 0 18 (.pointer (some ⟨b,0,none⟩)) rfl rfl (λc a w h=>N _ _ c a w h) O.out ⟨by rfl,λF f=>by have V:=f.1;have U:=f.2.1;have T:=f.2.2.1;have S:=f.2.2.2;go_simp⟩ ?_;refine fR 10 1 19 (.pointer (some ⟨b,0,none⟩)) rfl rfl (λc a w h=>N _ _ c a w h) O.out ⟨by rfl,λF f=>by have V:=f.1;have U:=f.2.1;have T:=f.2.2.1;have S:=f.2.2.2;go_simp⟩ ?_;refine fR 10 2 20 (.pointer (some ⟨b,0,none⟩)) rfl rfl (λc a w h=>N _ _ c a w h) O.out ⟨by rfl,λF f=>by have V:=f.1;have U:=f.2.1;have T:=f.2.2.1;have S:=f.2.2.2;go_simp⟩ ?_;refine fR 10 3 21 (.pointer (some ⟨b,2,none⟩)) rfl rfl (λc a w h=>N _ _ c a w h) O.out ⟨by rfl,λF f=>by have V:=f.1;have U:=f.2.1;have T:=f.2.2.1;have S:=f.2.2.2;go_simp⟩ ?_;refine fR 10 4 22 (.slice A t.writes.length C) rfl rfl (λc a w h=>N _ _ c a w h) O.out ⟨by rfl,λF f=>by have V:=f.1;have U:=f.2.1;have T:=f.2.2.1;have S:=f.2.2.2;go_simp⟩ ?_;refine fR 10 5 23 (.agg #[.string j,.string l,.bool o]) rfl rfl (λc a w h=>N _ _ c a w h) O.out ⟨by rfl,λF f=>by have V:=f.1;have U:=f.2.1;have T:=f.2.2.1;have S:=f.2.2.2;go_simp⟩ ?_;have ml:Mod dt i (i.alloc (.cells #[.string j,.string l,.bool o] 68)).drew:=((Mod.refl dt i).alloc _).drew;have zh:Hid ((i.alloc (.cells #[.string j,.string l,.bool o] 68)).drew.cell? ⟨b,2,none⟩=some (.slice A t.writes.length C)/\(i.alloc (.cells #[.string j,.string l,.bool o] 68)).drew.cell? ⟨w.heap.size,0,none⟩=some (.string j)/\(i.alloc (.cells #[.string j,.string l,.bool o] 68)).drew.cell? ⟨w.heap.size,1,none⟩=some (.string l)/\(i.alloc (.cells #[.string j,.string l,.bool o] 68)).drew.cell? ⟨w.heap.size,2,none⟩=some (.bool o)):=⟨ml.cell c2 (λe=>e),ml.cell y0 (λe=>e),ml.cell y1 (λe=>e),ml.cell y2 (λe=>e)⟩;have qa:Hid (B.cell? ⟨b,2,none⟩=some (.slice A t.writes.length C)/\B.cell? ⟨w.heap.size,0,none⟩=some (.string j)/\B.cell? ⟨w.heap.size,1,none⟩=some (.string l)/\B.cell? ⟨w.heap.size,2,none⟩=some (.bool o)):=⟨c7,y07,y17,y27⟩;refine kJ 10 6 24 rfl rfl (by kernel_rfl) rfl (v:=.slice (some ⟨i.heap.size,0,none⟩) 1 1) (w':=(i.alloc (.cells #[.string j,.string l,.bool o] 68)).drew) (by go_simp) zh.out ?_;refine kJ 10 7 25 rfl rfl (by kernel_rfl) rfl (v:=.slice a7 (t.writes.length+1) fV) (w':=B) (yz (s:=.tmp 22) (x:=.tmp 24) (t:=63) rfl (by go_simp) (by go_simp) gT) qa.out ?_;refine kJ 10 8 26 rfl rfl (by kernel_rfl) rfl (v:=.pointer (some ⟨b,0,none⟩)) (w':=B) (by go_simp) qa.out ?_;refine kJ 10 9 27 rfl rfl (by kernel_rfl) rfl (v:=.pointer (some ⟨b,2,none⟩)) (w':=B) (by go_simp) qa.out ?_;refine KX 10 rfl (by kernel_rfl) rfl (w':=B.setCell ⟨b,2,none⟩ (.slice a7 (t.writes.length+1) fV)) (by go_simp) ?_;refine⟨by kernel_rfl,?_⟩;have X:=ti.out;subst X;have M:=kI.out;subst M;clear N hsz t0 t3 O zh qa ti kI;go_wp2_with fail;have hWT:oF t ⟨j,l,o⟩={t with writes:=t.writes++[⟨j,l,o⟩]}:=by unfold oF;rw[show vg t (gB.key ⟨j,l,o⟩)=none from hi]
 go_end0;refine⟨rfl,?_⟩;rw[hWT];have ug:(Value.slice a7 (t.writes.length+1) fV).ownBlock≠some b:=λe=>by
  obtain q|q:=KC.out
  .exact G (by rw[<-q];exact e)
  .rw[q]at e;simp only[ag]at e;have:(i.alloc (.cells #[.string j,.string l,.bool o] 68)).drew.heap.size=i.heap.size+1:=A4 _ _;omega
 have To:dx B b [.int .i64 t.state,y.jy b,.slice A t.writes.length C,.int .i64 t.time] 86:=by
  have:=W.out.Z.mod NZ.out G;rw[Q]at this;exact this
 have jK:Mod (eQ b) B (B.setCell ⟨b,2,none⟩ (.slice a7 (t.writes.length+1) fV)):=Mod.eE b 2 _;have kV:∀k,(y.jy b).ownBlock=some k->(Value.slice A t.writes.length C).ownBlock≠some k:=λk R e=>by
  obtain⟨_,_,cur,hc1⟩:=fs W.out.ats R;obtain⟨_,_,cur',hc2⟩:=fs gG.out e;rw[hc1]at hc2;simp at hc2
 have Y:(y.jy b).ownBlock≠some b:=pf W.out.ats W.out.Z (by decide);refine⟨.slice a7 (t.writes.length+1) fV,To.set 2 _,gO (gO W.out.ats NZ.out (λk _ _ e q=>kV k e q)) jK (λk _ _ e q=>Y (by rw[e];exact an some q)),?_,?_,?_⟩
 .show World.ownsRow _ _ _ _ _ (t.writes++[(⟨j,l,o⟩:gB)]).length (iG (t.writes++[(⟨j,l,o⟩:gB)]));rw[aE,Qz];exact gO HOW7.out jK (λk _ _ e q=>ug (by rw[e];exact an some q))
 .obtain q|q:=KC.out
  .exact .inl (by rw[q,Q])
  .refine .inr (λk R=>?_);rw[q]at R;simp only[ag]at R;have h1:=gy.out.size;have:(i.alloc (.cells #[.string j,.string l,.bool o] 68)).drew.heap.size=i.heap.size+1:=A4 _ _;omega
 .refine((gy.out.mono (λ_ _ e=>e.elim)).trans' NZ.out (λk _ e=>.inr (.inr (by rw[Q];exact e)))).trans' jK (λk _ e=>.inl e)
theorem yOq(n b:Nat)(y:dq)(t:jz)(p:gB)(w:World)(h:vG w n y b t)(f:n<=w.heap.size)(a:t.writes.length<=1000) :
  Calls Tryz.prog 52 #[.pointer (some ⟨b,0,none⟩),.agg #[.string p.key,.string p.val,.bool p.gone]] w λe w'=>e=.returned (.tuple #[])/\Ra w n b y (oF t p) w':=by
 cases d:vg t p.key with
|none=>exact yOp n b y t p w h f a d
|some i=>exact yOo n b y t p i w h a d
theorem pB{id:Int}(h:oC s id=0):∃i:Nat,id=i/\1<=i/\i<=s.U.length/\(s.I i).state=1:=by
 unfold oC iB uU at h;by_cases e:1<=id
 .by_cases d:id<=(s.U.length:Int)
  .refine⟨id.toNat,by omega,by omega,by omega,?_⟩;rw[aQ e,aQ d]at h;simp at h;by_cases h0:(s.I id.toNat).state=0
   .simp[h0]at h
   .by_cases a:(s.I id.toNat).state=1
    .exact a
    .simp[h0,a]at h
  .rw[aN d]at h;simp at h
 .rw[aN e]at h;simp at h
theorem pL{id:Int}{key:ByteArray}(h:oN s id key=0):oC s id=0/\key.size<=20/\(vV s (fL s key)).isSome=true:=by
 unfold oN at h;by_cases a:oC s id=0
 .rw[aH (λq=>q a)]at h;by_cases d:20<key.size
  .rw[aK d]at h;omega
  .rw[aH d]at h
   cases e:vV s (fL s key)with
  |none=>rw[e]at h;simp at h
  |some x=>exact⟨a,by omega,rfl⟩
 .rw[aK a]at h;exact absurd h a
theorem yEk(s:dp)(id:Int)(key:ByteArray)(mode:Int)(h:∀t∈s.U,t.writes.length<=20):∀t∈(jn s id key mode).1.U,t.writes.length<=20:=by
 unfold jn;simp only;split
 .exact WX _ (iL s id key mode).1 h
 .exact h
theorem zVw(s:dp)(id:Nat)(key:ByteArray)(mode:Int)(h:∀t∈s.U,t.writes.length<=20):(gj s id key mode).1.U.length=s.U.length/\∀t∈(gj s id key mode).1.U,t.writes.length<=20:=by
 have d:=zZi s id key mode;have a:=yEk s id key mode h;unfold gj;simp only;split
 .exact⟨d.1,a⟩
 .split
  .exact⟨d.1,a⟩
  .refine⟨?_,WX _ _ (OP _ _ _ a (KS a _))⟩;rw[(gS.ft _ _).len];exact(mO _ _ _).trans d.1
theorem eJ.wrote(h:eJ w n c g y s){t':jz}(t:1<=id)(r:id<=s.U.length)(o:y.kP[id-1]?=some b)(l:Ra w n b y t' w') :
  ∃a,eJ w' n c g a (du s id t')/\eu w y w' a:=by
 obtain⟨u,j,i,f,e,d⟩:=l;obtain⟨q,p⟩:=h.rI o (vf t r) d j i f (.inl (.inl rfl)) (.inl e);exact⟨_,q,p,rfl,rfl,rfl,rfl,rfl⟩
def jG(w:World)(n c g:Nat)(y:dq)(s':dp)(d:Int)(e:Ending)(w':World):Prop:=e=.returned (jP d)/\∃a,eJ w' n c g a s'/\eu w y w' a
theorem yQe(n c g:Nat)(y:dq)(s:dp)(id:Int)(p:gB)(w:World)(h:eJ w n c g y s)(H:Ob w n c s)(hk:gP p.key)(hv:gP p.val) :
  Calls Tryz.prog 23 #[.pointer (some ⟨g,0,none⟩),.int .i64 id,.agg #[.string p.key,.string p.val,.bool p.gone]] w (jG w n (c+2) g y (fg s id p).1 (fg s id p).2):=by
 obtain⟨a,j,l⟩:=p;dsimp only at hk hv⊢;have hmk:=Nw;have hcc:=H.c;obtain⟨w1,hw1⟩:∃z,z=w.alloc (.cells #[.string a,.string j,.bool l] 68):=⟨_,rfl⟩;have dy:Mod dt w w1:=by rw[hw1];exact(Mod.refl _ w).alloc _
 have D:dx w1 w.heap.size [.string a,.string j,.bool l] 68:=by rw[hw1];exact dx.new w _ _
 have h1:=h.quiet dy;have x0:=D.cell 0 rfl;have x1:=D.cell 1 rfl;have kh:=dk D;have fh:=dk dy;have R:=dk h1;have F:=dk H;have Uv:Hid (y.own w.heap.size=.no):=by
  by_cases e:y.own w.heap.size=.no
  .exact e
  .have:=(h.own.lt _ e).2;omega
 have kt:=h.low;have hgl:=h.Z.lt;unfold gP maxLen at hv;clear h h1 D dy H;by_cases A:40<j.size
 .have hvb:decide ((j.size:Int) > 40)=true:=aQ (by omega);have E:Hid (jG w n (c+2) g y (fg s id ⟨a,j,l⟩).1 (fg s id ⟨a,j,l⟩).2 (.returned (.iface 90 (.int .i64 4))) w1):=by
   unfold Hid fg;rw[aK A];exact⟨by rw[nL (by omega)],y,R.out.uT (by omega),eu.quiet fh.out⟩
  clear A;go_enter Tryz.func23,Tryz.ntmps23;go_upto_region 1 with fail;rw[<-hw1];clear hw1;go_wp2_with fail;go_ret;exact E.out
 .have hvb:decide ((j.size:Int) > 40)=false:=aN (by omega);have IA:=dk (yLa n c g y s id a w1 R.out F.out.sh hk);have FK:Hid (fg s id ⟨a,j,l⟩=if oN s id a≠0 then(s,oN s id a)else if vU (s.I id.toNat) a&&qK s id a then(s,4)else if (gj s id a 2).2≠0 then gj s id a 2 else(du (gj s id a 2).1 id.toNat (oF ((gj s id a 2).1.I id.toNat) ⟨a,j,l⟩),0)):=by
   unfold Hid fg;rw[aH A]
  clear A;go_enter Tryz.func23,Tryz.ntmps23;go_upto_region 1 with fail;rw[<-hw1];clear hw1;go_wp2_with fail;refine IA.out.mono ?_;rintro e v⟨hC,u⟩;obtain⟨hc0,rfl⟩|⟨hc0,b,d,hb,hd,hlv,rfl⟩:=hC
  .rw[nL hc0];have E:Hid (jG w n (c+2) g y (fg s id ⟨a,j,l⟩).1 (fg s id ⟨a,j,l⟩).2 (.returned (.iface 90 (.int .i64 (oN s id a)))) v):=by
    unfold Hid;rw[FK.out,aK hc0];exact⟨by rw[nL hc0],y,(R.out.quiet u).uT (by omega),eu.quiet (fh.out.trans u)⟩
   clear hc0;go_wp2_with fail;go_ret;exact E.out
  .obtain⟨ho,Ly,_⟩:=pL hc0;obtain⟨i,rfl,o,B,hst⟩:=pB ho;have Dl:Hid (fg s i ⟨a,j,l⟩=if vU (s.I i) a&&qK s i a then(s,4)else if (gj s i a 2).2≠0 then gj s i a 2 else(du (gj s i a 2).1 i (oF ((gj s i a 2).1.I i) ⟨a,j,l⟩),0)):=by
    unfold Hid;rw[FK.out,aH (λq=>q hc0),aU]
   have htl:=F.out.sh.tl;have T:=R.out.quiet u;obtain⟨tb,Ej,hT⟩:=T.AN (id:=i) o B;have C:=kh.out.mod u (λe=>e);have V:Hid (∀f,Mod dt v f->Calls Tryz.prog 34 #[.pointer (some ⟨g,0,none⟩),.int .i64 i] f λe w'=>e=.returned (.pointer (some ⟨tb,0,none⟩))/\w'=f):=λf r=>BQ n c g y s i tb f (T.quiet r) o (by omega) Ej;have ql:=F.out.sh.tw _ (FP o B);have VL:Hid (∀f,Mod dt v f->Calls Tryz.prog 50 #[.pointer (some ⟨tb,0,none⟩),.string a] f λe w'=>e=.returned (.bool (vU (s.I i) a))/\Mod dt f w'):=λf r=>yWd n tb y _ a f (hT.mod r (λe=>e) (λ_ _ e=>e)) (by omega);have L:Hid (∀f,Mod dt v f->Calls Tryz.prog 51 #[.pointer (some ⟨g,0,none⟩),.int .i64 i,.string a] f λe w'=>e=.returned (.bool (qK s i a))/\Mod dt f w'):=λf r=>yCq n c g y s i a f (T.quiet r) htl hk;have z0:=C.cell 0 rfl;have zq:=C.lt;have mh:=dk T;have gy:=dk (fh.out.trans u);have mi:=dk C;clear hc0 hb hd hlv IA FK u T hT Ej C R kh fh x0 x1 ho;go_upto_region 6 with fail;go_cut [38] (λt wc=>t=.bool (vU (s.I i) a&&qK s i a)/\Mod dt v wc)
   case first=>
    cases Ev:vU (s.I i) a
    .rw[Ev]at VL
     first
     |(go_region_with (first
       |(go_at_call 34;refine(V.out _ ((Mod.refl dt v).drew)).mono ?_;rintro e w3⟨rfl,rfl⟩)
       |(go_at_call 50;refine(VL.out _ ((Mod.refl dt v).drew)).mono ?_;rintro e w4⟨rfl,gw⟩;have S:=((Mod.refl dt v).drew).trans gw)))
     |fail
     all_goals
      go_wp2_with fail;go_meet
      case rel=>exact⟨by rw[Ev];rfl,S⟩
    .rw[Ev]at VL
     cases W:qK s i a
     all_goals
      rw[W]at L;go_region_with (first
      |(go_at_call 34;refine(V.out _ ((Mod.refl dt v).drew)).mono ?_;rintro e w3⟨rfl,rfl⟩)
      |(go_at_call 50;refine(VL.out _ ((Mod.refl dt v).drew)).mono ?_;rintro e w4⟨rfl,gw⟩;have S:=((Mod.refl dt v).drew).trans gw;have z4:=S.cell z0 (λe=>e))
      |(go_at_call 51;refine(L.out _ S).mono ?_;rintro e M⟨rfl,fA⟩;have hmg:=S.trans fA))
      all_goals
       go_wp2_with fail;go_meet
       case rel=>exact⟨by rw[Ev,W];rfl,hmg⟩
   case rest=>
    obtain⟨rfl,oI⟩:=hcut;have Ju:=dk (mh.out.quiet oI);have FL:=dk (gy.out.trans oI);have K:=mi.out.mod oI (λe=>e);have v0:=K.cell 0 rfl;have HBC:=dk K;have HEC:=dk (F.out.et.mod FL.out);clear mh gy mi oI z0 K V VL L;obtain⟨wd,hwd⟩:∃x,x=wc:=⟨_,rfl⟩;subst hwd;by_cases N:(vU (s.I i) a&&qK s i a)=true
    .rw[N];have E:Hid (jG w n (c+2) g y (fg s i ⟨a,j,l⟩).1 (fg s i ⟨a,j,l⟩).2 (.returned (.iface 90 (.int .i64 4))) wd):=by
      unfold Hid;rw[Dl.out,aK N];exact⟨by rw[nL (by omega)],y,Ju.out.uT (by omega),eu.quiet FL.out⟩
     clear N;go_wp2_with fail;go_ret;exact E.out
    .have hfb:(vU (s.I i) a&&qK s i a)=false:=by simpa using N
     rw[hfb];have HP3:Hid (fg s i ⟨a,j,l⟩=if (gj s i a 2).2≠0 then gj s i a 2 else(du (gj s i a 2).1 i (oF ((gj s i a 2).1.I i) ⟨a,j,l⟩),0)):=by
      unfold Hid;rw[Dl.out,aH N]
     have Bn:=dk (yEv n c g y s i a 2 wd Ju.out ⟨F.out.sh,F.out.ki,HEC.out,F.out.n,hcc⟩ o B Ly (.inr rfl));clear N hfb Dl;go_upto_region 8 with fail;go_wp2_with fail;refine Bn.out.mono ?_;rintro e M⟨rfl,y5,G,qX⟩;have O:=qX.st.Z HBC.out Uv.out;have DX:=(eu.quiet FL.out).trans qX;obtain⟨nT,sj⟩:=zVw s i a 2 F.out.sh.tw;by_cases J:(gj s i a 2).2=0
     .rw[J,pM];have Y:i<=(gj s i a 2).1.U.length:=by rw[nT];exact B
      obtain⟨Km,AU,DS⟩:=G.AN (id:=i) o Y;have hwl5:=KS sj i;have V:Hid (∀f,Mod dt M f->Calls Tryz.prog 34 #[.pointer (some ⟨g,0,none⟩),.int .i64 i] f λe w'=>e=.returned (.pointer (some ⟨Km,0,none⟩))/\w'=f):=λf r=>BQ n (c+2) g y5 _ i Km f (G.quiet r) o (by omega) AU;have HWR:Hid (∀f,Mod dt M f->Calls Tryz.prog 52 #[.pointer (some ⟨Km,0,none⟩),.agg #[.string a,.string j,.bool l]] f λe w'=>e=.returned (.tuple #[])/\∃P,eJ w' n (c+2) g P (du (gj s i a 2).1 i (oF ((gj s i a 2).1.I i) ⟨a,j,l⟩))/\eu w y w' P):=λf r=>by
       refine(yOq n Km y5 _ ⟨a,j,l⟩ f (DS.mod r (λe=>e) (λ_ _ e=>e)) (aO G.low (aO (Nat.le_of_lt G.Z.lt) r.size)) (by omega)).mono ?_;rintro e w'⟨rfl,hW⟩;obtain⟨y6,Xk,Jf⟩:=(G.quiet r).wrote o Y AU hW;exact⟨rfl,y6,Xk,(DX.trans (eu.quiet r)).trans Jf⟩
      have E:Hid (∀Q,(∃P,eJ Q n (c+2) g P (du (gj s i a 2).1 i (oF ((gj s i a 2).1.I i) ⟨a,j,l⟩))/\eu w y Q P)->jG w n (c+2) g y (fg s i ⟨a,j,l⟩).1 (fg s i ⟨a,j,l⟩).2 (.returned .nilIface) Q):=λQ r=>by
       rw[HP3.out,aH (λq=>q J)];exact⟨by rw[pM],r⟩
      have u0:=O.cell 0 rfl;have u1:=O.cell 1 rfl;have u2:=O.cell 2 rfl;have zw:=O.lt;clear G qX DS AU O DX nT sj J Bn v0;go_upto_region 11 with fail;go_region_with (first
      |(go_at_call 34;refine(V.out _ ((Mod.refl dt M).drew)).mono ?_;rintro e Q⟨rfl,rfl⟩)
      |(go_at_call 52;refine(HWR.out _ ((Mod.refl dt M).drew)).mono ?_;rintro e w7⟨rfl,X⟩))
      all_goals
       have HG:=dk (E.out w7 X);clear X;go_wp2_with fail;go_ret;exact HG.out
     .rw[nL J];have E:Hid (jG w n (c+2) g y (fg s i ⟨a,j,l⟩).1 (fg s i ⟨a,j,l⟩).2 (.returned (.iface 90 (.int .i64 (gj s i a 2).2))) M):=by
       unfold Hid;rw[HP3.out,aK J];exact⟨by rw[nL J],y5,G,DX⟩
      clear G qX O DX J Bn;go_wp2_with fail;go_ret;exact E.out
theorem yKy(n c g:Nat)(y:dq)(s:dp)(id:Int)(w:World)(h:eJ w n c g y s)(l:mo s)(z:c<=10000) :
  Calls Tryz.prog 12 #[.pointer (some ⟨g,0,none⟩),.int .i64 id] w (jG w n c g y (oz s id).1 (oz s id).2):=by
 have j:=dk (Yn n c g y s id w h l.tl);have o:=l.tl;have x:=l.ll;by_cases a:oC s id=0
 .obtain⟨i,rfl,f,d,v⟩:=pB a;have u:=dk (Yi n c g y s i w h f d o z (by rw[l.ta _ (FP f d)];omega));have A:Hid (oz s i=(gk s i,0)):=by unfold Hid oz;rw[aH (λq=>q a),aU]
  rw[a,pM]at j;clear h a;go_enter Tryz.func12,Tryz.ntmps12;go_wp2_with (first
  |(go_at_call 35;refine j.out.mono ?_;rintro e w1⟨rfl,rfl⟩)
  |(go_at_call 36;refine u.out.mono ?_;rintro e t⟨rfl,r⟩;have p:Hid (jG w1 n c g y (oz s i).1 (oz s i).2 (.returned .nilIface) t):=(by unfold Hid;rw[A.out];exact⟨by rw[pM],r⟩);clear r)
  |fail)
  go_ret;exact p.out
 .have p:Hid (jG w n c g y (oz s id).1 (oz s id).2 (.returned (.iface 90 (.int .i64 (oC s id)))) w):=by
   unfold Hid oz;rw[aK a];exact⟨by rw[nL a],y,h,eu.refl _ _⟩
  rw[nL a]at j;clear h a;go_enter Tryz.func12,Tryz.ntmps12;go_wp2_with (first
  |(go_at_call 35;refine j.out.mono ?_;rintro e w1⟨rfl,rfl⟩)
  |fail)
  go_ret;exact p.out
theorem yEu(n c g:Nat)(y:dq)(s:dp)(w:World)(h:eJ w n c g y s) :
  Calls Tryz.prog 27 #[.pointer (some ⟨g,0,none⟩)] w λe w'=>e=.returned (.int .i64 s.J.way.length)/\w'=w:=by
 have a:=dk (yVi (y.lo n) g y.wv y.mr s.J w h.sM);clear h;go_enter Tryz.func27,Tryz.ntmps27;go_wp2_with (first
 |(go_at_call 53;refine a.out.mono ?_;rintro e w1⟨rfl,rfl⟩)
 |fail)
 go_ret;exact⟨rfl,rfl⟩
def qH(s:dp)(k:Int):dp×Int:=if hasB s.J k then({s with J:=Wj s.J k.toNat},0)else(s,2)
def oP(s:dp)(k:Int):dp×Int:=match hasB s.J k,s.J.way[k.toNat]? with
|true,some m=>if s.J.way.length<200 then({s with J:=lC s.J m},0)else(s,4)
|_,_=>(s,2)
theorem yXg{s:fS}{k:Int}(h:hasB s k=true):∃(i:Nat) (m:eG),k=i/\s.way[i]?=some m:=by
 unfold hasB at h;simp only[bX,aw]at h;exact⟨k.toNat,_,by omega,aA (by omega)⟩
theorem yRj(n c g:Nat)(y:dq)(s:dp)(k:Int)(w:World)(h:eJ w n c g y s)(f:s.J.lost+1<=4611686018427387904) :
  Calls Tryz.prog 29 #[.pointer (some ⟨g,0,none⟩),.int .i64 k] w (jG w n c g y (qH s k).1 (qH s k).2):=by
 cases d:hasB s.J k with
|true=>
  obtain⟨i,m,rfl,u⟩:=yXg d;have j:=dk (yVk (y.lo n) g y.wv y.mr s.J i m w h.sM u f);have p:Hid (qH s i=({s with J:=Wj s.J i},0)):=by unfold Hid qH;rw[aK d,aU]
  have l:=dk h;clear h;go_enter Tryz.func29,Tryz.ntmps29;go_wp2_with fail;refine j.out.mono ?_;rintro e w1⟨v,rfl,hN,t,a⟩;obtain⟨r,q⟩:=l.out.uQ a hN (.inl t) (.inl rfl);have o:Hid (jG w n c g y (qH s i).1 (qH s i).2 (.returned .nilIface) w1):=by
   unfold Hid;rw[p.out];exact⟨by rw[pM],_,r,q,rfl,rfl,rfl,rfl,rfl⟩
  clear hN a r q;go_wp2_with fail;go_ret;exact o.out
|false=>
  have j:=dk (yYe (y.lo n) g y.wv y.mr s.J k w h.sM d);have p:Hid (qH s k=(s,2)):=by unfold Hid qH;rw[aH (by rw[d];simp)]
  have l:=dk h;clear h;go_enter Tryz.func29,Tryz.ntmps29;go_wp2_with fail;refine j.out.mono ?_;rintro e w1⟨rfl,a⟩;have o:Hid (jG w n c g y (qH s k).1 (qH s k).2 (.returned (.iface 90 (.int .i64 2))) w1):=by
   unfold Hid;rw[p.out];exact⟨by rw[nL (by omega)],_,l.out.quiet a,eu.quiet a⟩
  clear a;go_wp2_with fail;go_ret;exact o.out
theorem yMz(n c g:Nat)(y:dq)(s:dp)(k:Int)(w:World)(h:eJ w n c g y s)(r:s.J.lost+1<=4611686018427387904) :
  Calls Tryz.prog 30 #[.pointer (some ⟨g,0,none⟩),.int .i64 k] w (jG w n c g y (oP s k).1 (oP s k).2):=by
 cases d:hasB s.J k with
|true=>
  obtain⟨i,m,rfl,q⟩:=yXg d;by_cases p:s.J.way.length<200
  .have f:=dk (yOy (y.lo n) g y.wv y.mr s.J i m w h.sM q p r);have o:Hid (oP s i=({s with J:=lC s.J m},0)):=by unfold Hid oP;rw[aU,d,q];simp only;rw[aK p]
   have j:=dk h;clear h;go_enter Tryz.func30,Tryz.ntmps30;go_wp2_with fail;refine f.out.mono ?_;rintro e w1⟨x,rfl,hN,v,a⟩;obtain⟨u,t⟩:=j.out.uQ a hN v (.inl rfl);have l:Hid (jG w n c g y (oP s i).1 (oP s i).2 (.returned .nilIface) w1):=by
    unfold Hid;rw[o.out];exact⟨by rw[pM],_,u,t,rfl,rfl,rfl,rfl,rfl⟩
   clear hN a u t;go_wp2_with fail;go_ret;exact l.out
  .have f:=dk (yLp (y.lo n) g y.wv y.mr s.J i w h.sM d p);have o:Hid (oP s i=(s,4)):=by unfold Hid oP;rw[aU,d,q];simp only;rw[aH p]
   have j:=dk h;clear h;go_enter Tryz.func30,Tryz.ntmps30;go_wp2_with fail;refine f.out.mono ?_;rintro e w1⟨rfl,a⟩;have l:Hid (jG w n c g y (oP s i).1 (oP s i).2 (.returned (.iface 90 (.int .i64 4))) w1):=by
    unfold Hid;rw[o.out];exact⟨by rw[nL (by omega)],_,j.out.quiet a,eu.quiet a⟩
   clear a;go_wp2_with fail;go_ret;exact l.out
|false=>
  have f:=dk (yTv (y.lo n) g y.wv y.mr s.J k w h.sM d);have o:Hid (oP s k=(s,2)):=by unfold Hid oP;rw[d]
  have j:=dk h;clear h;go_enter Tryz.func30,Tryz.ntmps30;go_wp2_with fail;refine f.out.mono ?_;rintro e w1⟨rfl,a⟩;have l:Hid (jG w n c g y (oP s k).1 (oP s k).2 (.returned (.iface 90 (.int .i64 2))) w1):=by
   unfold Hid;rw[o.out];exact⟨by rw[nL (by omega)],_,j.out.quiet a,eu.quiet a⟩
  clear a;go_wp2_with fail;go_ret;exact l.out
theorem eJ.Rk(h:eJ w n c g y s)(F:k<s.lines.length)(p:y.gd[k]?=some b)(v:Mod (eQ b) w w')(hB:dx w' b [y.sf b,.int .i64 m] 120) :
  eJ w' n c g y (tB s k ⟨(s.A k).nodes,m⟩)/\eu w y w' y:=by
 have own:=h.own;have r:=aC p;have o:=h.A k b _ p (nM F);have J:Qm w (y.lo n) (eQ b):=λz u e=>by
  simp only[eQ]at e;subst e;rintro(B|⟨⟨L,O,B⟩,_⟩)
  .have M:=(own.lt z (by rw[(own.A z r).1];simp)).1;have N:z<n:=B;omega
  .have:=o.Z;unfold dx at this;rw[this]at B;simp at B
 have ht:su w w' n y (λt=>t=.A b):=⟨⟨_,v,J,λz u e=>by
  simp only[eQ]at e;subst e;exact⟨(own.A z r).1,by rw[(own.A z r).1];simp⟩⟩⟩
 have D:(y.sf b).ownBlock≠some b:=pf o.row o.Z (by decide);refine⟨⟨h.vC ht (by simp),h.xN ht (by simp),h.qB ht (by simp),h.vB ht (by simp),h.qn,h.pz ht (by simp),?_,λi H l a K=>?_,h.py ht (by simp),h.lJ,λi H t a C=>h.Gs ht a C (by simp),own.more v.size⟩,⟨v.mono (λz u e=>by simp only[eQ]at e;subst e;rw[(own.A z r).1];simp),λ_ _=>rfl⟩,rfl,rfl,rfl,rfl,rfl⟩
 .show y.gd.length=(s.lines.set k _).length;rw[ai];exact h.ir
 .have f:(s.lines.set k ⟨(s.A k).nodes,m⟩)[i]?=some l:=K;rw[rE]at f;by_cases e:i=k
  .subst e;rw[aK ⟨rfl,F⟩]at f;cases f
   rw[p]at a;cases a
   refine⟨hB,gO o.row v (λz _ _ u q=>D (by rw[u];exact an some q)),o.len,λj d x G I=>h.Da ht p (aC G) (o.node j d x G I) (by simp)⟩
  .rw[aH (λq=>e q.1)]at f;have E:H≠b:=λq=>e (KM own.Eh (q ▸ a) p);exact h.rU ht a f (λq=>E (by simpa using q)) (λd _=>by simp)
theorem eJ.sets(h:eJ w n c g y s){d:Nat}(x:Int)(C:1<=id)(B:id<=s.U.length)(A:y.kP[id-1]?=some b)(p:k<(s.I id).ats.length)(l:y.jy b=.slice (some ⟨d,0,none⟩) (s.I id).ats.length cap) :
  ∃u,eJ (w.setCell ⟨d,k,none⟩ (.int .i64 x)) n c g u (du s id {s.I id with ats:=(s.I id).ats.set k x})/\eu w y (w.setCell ⟨d,k,none⟩ (.int .i64 x)) u:=by
 have i:=h.I (id-1) b _ A (vf C B);have a:=i.ats;rw[l]at a;obtain⟨E,_,_⟩:=Ww (x:=x) a p;have j:Mod (eQ d) w (w.setCell ⟨d,k,none⟩ (.int .i64 x)):=Mod.eE d k _;have F:d≠b:=λe=>pf a i.Z (by decide) (by rw[e];rfl);have o:∀k,(y.kT b).ownBlock=some k->k≠d:=λk p e=>by
  subst e;obtain⟨_,_,G,r⟩:=fs i.wr p;obtain⟨_,_,D,f⟩:=fs a rfl;rw[r]at f;simp at f
 obtain⟨v,t⟩:=h.rI A (vf C B) (t':={s.I id with ats:=(s.I id).ats.set k x}) (av:=y.jy b) (wv:=y.kT b) (j.mono (λz _ e=>.inr (.inl (by rw[l];exact an some (Eq.symm e))))) (i.Z.mod j (λe=>F (Eq.symm e))) (by rw[l];exact E) (gO i.wr j (λk _ _ e q=>o k e q)) (.inl (.inl rfl)) (.inl (.inl rfl));rw[Ny]at v;exact⟨_,v,t,rfl,rfl,rfl,rfl,rfl⟩
theorem eJ.Rm(h:eJ w n c g y s)(x:Int)(p:1<=id)(o:id<=s.U.length)(l:y.kP[id-1]?=some b) :
  ∃i,eJ (w.setCell ⟨b,3,none⟩ (.int .i64 x)) n c g i (du s id {s.I id with time:=x})/\eu w y (w.setCell ⟨b,3,none⟩ (.int .i64 x)) i:=by
 have a:=h.I (id-1) b _ l (vf p o);have d:Mod (eQ b) w (w.setCell ⟨b,3,none⟩ (.int .i64 x)):=Mod.eE b 3 _;have r:=pf a.ats a.Z (by decide);have t:=pf a.wr a.Z (by decide);obtain⟨j,f⟩:=h.rI l (vf p o) (t':={s.I id with time:=x}) (av:=y.jy b) (wv:=y.kT b) (d.mono (λz _ e=>.inl e)) (a.Z.set 3 _) (gO a.ats d (λk _ _ e q=>r (by rw[e];exact an some q))) (gO a.wr d (λk _ _ e q=>t (by rw[e];exact an some q))) (.inl (.inl rfl)) (.inl (.inl rfl));rw[Ny]at j;exact⟨_,j,f,rfl,rfl,rfl,rfl,rfl⟩
theorem yNe(n c g:Nat)(y:dq)(s:dp)(k:Nat)(v:eH)(u:Value)(w:World)(h:eJ w n c g y s)(O:mo s)(hc:c<=10000)(hk:k<s.lines.length)(ht:1<=v.I/\v.I<=(s.U.length:Int)) :
  Calls Tryz.prog 130 #[.pointer (some ⟨g,0,none⟩),.int .i64 k,.agg #[.int .i64 v.kind,.int .i64 v.I,.int .i64 v.time,u]] w λe w'=>e=.returned (.tuple #[])/\∃l,eJ w' n c g l (mj s k v)/\eu w y w' l:=by
 obtain⟨a,tx,time,H⟩:=v;dsimp only at ht⊢;obtain⟨id,rfl⟩:∃i:Nat,tx=i:=⟨tx.toNat,by omega⟩;have j:1<=id:=by omega
 have p:id<=s.U.length:=by omega
 have N:=O.tl;have hll:=O.ll;obtain⟨w1,hw1⟩:∃z,z=w.alloc (.cells #[.int .i64 a,.int .i64 id,.int .i64 time,u] 65):=⟨_,rfl⟩;have t:Mod dt w w1:=by rw[hw1];exact(Mod.refl _ w).alloc _
 have d:dx w1 w.heap.size [.int .i64 a,.int .i64 id,.int .i64 time,u] 65:=by rw[hw1];exact dx.new w _ _
 have r:=h.quiet t;obtain⟨b,D,q⟩:=r.AN j p;have M:=dk (BQ n c g y s id b w1 r j (by omega) D);have K:=dk (zMq n c g y s w1 r (by omega) (by omega));have x0:=d.cell 0 rfl;have x1:=d.cell 1 rfl;have x2:=d.cell 2 rfl;have Uv:Hid (y.own w.heap.size=.no):=by
  by_cases e:y.own w.heap.size=.no
  .exact e
  .have:=(h.own.lt _ e).2;omega
 have kh:=dk d;have fh:=dk t;have uE:=dk r;by_cases C:k=dz s
 .have Q:((k:Int)==(dz s:Int))=true:=by rw[beq_iff_eq];omega
  obtain⟨L,A,f⟩:=r.Rm time j p D;obtain⟨w2,hw2⟩:∃z,z=w1.setCell ⟨b,3,none⟩ (.int .i64 time):=⟨_,rfl⟩;rw[<-hw2]at A f;have t3:=q.Z.cell 3 rfl;have f3:=q.Z.frozen 3;have Y:=q.Z.lt;have F:=f.st.Z d Uv.out;have z1:=F.cell 1 rfl;have Jy:=dk (ZK n c g L _ id 3 w2 A j (by rw[mO];exact p) (by rw[mO];exact N) hc);have Ni:Hid (mj s k ⟨a,id,time,H⟩=pA (du s id {s.I id with time:=time}) id 3):=by unfold Hid mj;rw[aK C,aU]
  have HK:=dk ((eu.quiet t).trans f);clear h r D q d t A f F C;go_enter Tryz.func130,Tryz.ntmps130;go_upto_region 1 with fail;rw[<-hw1];clear hw1;go_upto_region 3 with(first
  |(go_at_call 34;refine M.out.mono ?_;rintro e V⟨rfl,rfl⟩)
  |(go_at_call 109;refine K.out.mono ?_;rintro e T⟨rfl,rfl⟩)
  |fail)
  go_upto_region 4 with fail;rw[<-hw2];clear hw2 t3 f3 x0 x1 x2;go_wp2_with (first
  |(go_at_call 63;refine Jy.out.mono ?_;rintro e S⟨rfl,y7,R,W⟩;(have G:Hid (∃l,eJ S n c g l (mj s k ⟨a,id,time,H⟩)/\eu w y S l):=⟨y7,by rw[Ni.out];exact R,HK.out.trans W⟩);clear R W)
  |fail)
  go_end0;exact⟨rfl,G.out⟩
 .have Q:((k:Int)==(dz s:Int))=false:=by rw[bp];omega
  by_cases B:a=2
  .have P:(a==2)=true:=by simpa using B
   have rS:(s.I id).ats.length=s.lines.length:=O.ta _ (FP j p);obtain⟨J,X,pF⟩:∃J X,y.jy b=.slice (some ⟨J,0,none⟩) (s.I id).ats.length X:=by
    obtain⟨e,h0⟩|⟨g',cap',cur,e,_⟩:=q.ats.2
    .omega
    .exact⟨g',cap',e⟩
   have E:k<(s.I id).ats.length:=by omega
   obtain⟨L,A,f⟩:=r.sets 2 j p D E pF;have t1:=q.Z.cell 1 rfl;have o:=q.ats;rw[pF]at t1 o;obtain⟨_,⟨u0,a0⟩,f0⟩:=Ww (x:=2) o E;have Y:=q.Z.lt;have G:Hid (∃l,eJ (w1.setCell ⟨J,k,none⟩ (.int .i64 2)) n c g l (mj s k ⟨a,id,time,H⟩)/\eu w y (w1.setCell ⟨J,k,none⟩ (.int .i64 2)) l):=by
    refine⟨L,?_,(eu.quiet t).trans f⟩;unfold mj;rw[aH C,aK B,aU];exact A
   have zO:(k:Int)<((s.I id).ats.length:Int):=by omega
   have ry:(0:Int)<=(k:Int):=by omega
   clear h r D q d t A f C B pF o rS;go_enter Tryz.func130,Tryz.ntmps130;go_upto_region 1 with fail;rw[<-hw1];clear hw1;go_wp2_with (first
   |(go_at_call 34;refine M.out.mono ?_;rintro e V⟨rfl,rfl⟩)
   |(go_at_call 109;refine K.out.mono ?_;rintro e T⟨rfl,rfl⟩)
   |fail)
   go_end0;exact⟨rfl,G.out⟩
  .have P:(a==2)=false:=by simpa using B
   have G:Hid (∃l,eJ w1 n c g l (mj s k ⟨a,id,time,H⟩)/\eu w y w1 l):=by
    refine⟨y,?_,eu.quiet t⟩;unfold mj;rw[aH C,aH B];exact r
   clear h r D q d t C B;go_enter Tryz.func130,Tryz.ntmps130;go_upto_region 1 with fail;rw[<-hw1];clear hw1;go_wp2_with (first
   |(go_at_call 34;refine M.out.mono ?_;rintro e V⟨rfl,rfl⟩)
   |(go_at_call 109;refine K.out.mono ?_;rintro e T⟨rfl,rfl⟩)
   |fail)
   go_end0;exact⟨rfl,G.out⟩
