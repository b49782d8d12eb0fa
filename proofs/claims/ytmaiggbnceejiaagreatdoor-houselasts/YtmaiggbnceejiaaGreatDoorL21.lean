import Derived.Test.YtmaiggbnceejiaaGreatDoorL19
import Derived.RangeFuncNested
import Derived.RangeFuncBound
import Derived.RangeFuncCalls
import Derived.RangeFuncLeaves
import Derived.Shelf.Abstract
import Derived.OwnWalkIn
import Derived.TacticsInMore
import Derived.LoopNIn
import Derived.LoopIn
import Derived.Sort.CutIn
import Derived.StringKeys
set_option linter.unusedVariables false
set_option maxRecDepth 100000
set_option maxHeartbeats 16000000
namespace Go.Proofs.YtmaiggbnceejiaaGreatDoor
open Go.RowKit Go.Lib Go.Maps Go.Shelf
variable {a:Act}{s s':dp}{m n:Nat}{w:World}{cs:List eH}{y:dq}{P:Program}{ps:Array Tmp}{assign body:Code}{α:Type}{g:Operand}
structure uG(s s':dp):Prop where
 ll:s'.lines.length=s.lines.length
 nodes:∀k,(s'.A k).nodes=(s.A k).nodes
 d:s'.dead=s.dead
 J:s'.J=s.J
 len:s'.U.length=s.U.length
 at_:∀j,(s'.I j).ats.length=(s.I j).ats.length
theorem uG.refl(s:dp):uG s s:=⟨rfl,λ_=>rfl,rfl,rfl,rfl,λ_=>rfl⟩
theorem uG.trans{a b c:dp}(h:uG a b)(k:uG b c):uG a c:=⟨k.ll.trans h.ll,λi=>(k.nodes i).trans (h.nodes i),k.d.trans h.d,k.J.trans h.J,k.len.trans h.len,λj=>(k.at_ j).trans (h.at_ j)⟩
theorem gS.toN(h:gS s s'):uG s s':=⟨by rw[h.l],λk=>by unfold dp.A;rw[h.l],h.d,h.J,h.len,h.at_⟩
theorem gS.follow(s:dp)(k:Nat)(c:eH):gS s (mj s k c):=by
 unfold mj;split
 .exact(gS.du s c.I.toNat {s.I c.I.toNat with time:=c.time} rfl).trans (gS.finish _ _ _)
 .split
  .exact gS.du s _ _ (by simp)
  .exact gS.refl s
theorem yCa(s:dp)(k:Nat)(c:eH)(h:∀t∈s.U,t.writes.length<=20):∀t∈(mj s k c).U,t.writes.length<=20:=by
 unfold mj;split
 .exact zRo _ _ _ (OP s _ _ h (KS h _))
 .split
  .exact OP s _ _ h (KS h _)
  .exact h
theorem Qo(s:dp)(k:Nat)(l:jS)(i:Nat)(b:k<s.lines.length):(tB s k l).A i=if i=k then l else s.A i:=by
 unfold dp.A tB;rw[aI,rE];by_cases e:i=k
 .subst e;rw[aK ⟨rfl,b⟩,aK rfl];rfl
 .rw[aH (λq=>e q.1),aH e,aI]
theorem WT(s:dp)(k:Nat)(c:eH)(f:k<s.lines.length):uG s (mw k s c):=by
 have d:=(gS.follow s k c).toN;have b:k<(mj s k c).lines.length:=by rw[d.ll];exact f
 refine d.trans ⟨by simp[mw,tB],λi=>?_,rfl,rfl,rfl,λ_=>rfl⟩;show((tB (mj s k c) k _).A i).nodes=_;rw[Qo _ _ _ _ b];by_cases e:i=k
 .rw[aK e,e]
 .rw[aH e]
theorem Zo(k:Nat):∀(cs:List eH) (s:dp),k<s.lines.length->uG s (cs.foldl (mw k) s)
|[],s,_=>uG.refl s
|c::cs,s,b=>(WT s k c b).trans (Zo k cs _ (by rw[(WT s k c b).ll];exact b))
theorem Zv(k:Nat):∀(cs:List eH) (s:dp),(∀t∈s.U,t.writes.length<=20)->∀t∈(cs.foldl (mw k) s).U,t.writes.length<=20
|[],_,h=>h
|c::cs,s,h=>Zv k cs _ (yCa s k c h)
theorem uG.shape(h:uG s s')(d:mo s)(f:∀t∈s'.U,t.writes.length<=20):mo s':=by
 refine⟨by rw[h.ll];exact d.ll,λl j=>?_,by rw[h.len];exact d.tl,λt ht=>?_,f⟩
 .obtain⟨i,c⟩:=aP j;have b:i<s'.lines.length:=(aB.1 c).1;have e:s'.A i=l:=by
   have:=nM b;rw[c]at this;exact(bA this).symm
  have:=h.nodes i;rw[e]at this;rw[this];exact d.nl _ (Nu (by rw[h.ll]at b;exact b))
 .obtain⟨i,c⟩:=aP ht;have b:i<s'.U.length:=(aB.1 c).1;have e:s'.I (i+1)=t:=by
   have:=vf (s:=s') (id:=i+1) (by omega) (by omega);rw[bL,c]at this;exact(bA this).symm
  have:=h.at_ (i+1);rw[e]at this;rw[this,h.ll];exact d.ta _ (FP (by omega) (by rw[h.len]at b;omega))
def pI(s:dp)(m:Nat):dp:=(List.range m).foldl iI s
theorem RH(s:dp)(m:Nat):pI s (m+1)=iI (pI s m) m:=by unfold pI;rw[aZ,ae];rfl
theorem WQ(k:Nat):∀(cs:List eH) (s:dp),k<s.lines.length->∀i,((cs.foldl (mw k) s).A i).heard=if i=k then(s.A k).heard+cs.length else(s.A i).heard
|[],s,_,i=>by
  by_cases e:i=k
  .subst e;simp
  .simp[e]
|c::cs,s,f,i=>by
  have p:=WT s k c f;have o:=gS.follow s k c;have d:k<(mj s k c).lines.length:=by rw[o.l];exact f
  have h:∀j,(mw k s c).A j=if j=k then⟨((mj s k c).A k).nodes,((mj s k c).A k).heard+1⟩else(mj s k c).A j:=λj=>Qo _ _ _ _ d
  have b:∀j,(mj s k c).A j=s.A j:=λj=>by unfold dp.A;rw[o.l]
  rw[cQ,WQ k cs _ (by rw[p.ll];exact f),h,h];by_cases e:i=k
  .rw[aK e,aK e,aK rfl,b];simp;omega
  .rw[aH e,aH e,aH e,b]
theorem Zn(s:dp):∀m,m<=s.lines.length->uG s (pI s m)/\(∀i,m<=i->((pI s m).A i).heard=(s.A i).heard)/\((∀t∈s.U,t.writes.length<=20)->∀t∈(pI s m).U,t.writes.length<=20)
|0,_=>⟨uG.refl s,λ_ _=>rfl,λh=>h⟩
|m+1,f=>by
  obtain⟨c,e,d⟩:=Zn s m (by omega);have b:m<(pI s m).lines.length:=by rw[c.ll];omega
  rw[RH];refine⟨c.trans (Zo m _ _ b),λi j=>?_,λh=>Zv m _ _ (d h)⟩;unfold iI;rw[WQ m _ _ b,aH (by omega)];exact e i (by omega)
theorem yMo(b:m<=s.lines.length):lX (pI s m) m=lX s m:=by
 obtain⟨d,c,_⟩:=Zn s m b;unfold lX qf;rw[d.nodes,c m (aD _)]
def yXj(s:dp):Prop:=∀k,k<s.lines.length->(s.A k).heard<=(qf s k).M.length/\∀c∈lX s k,1<=c.I/\c.I<=(s.U.length:Int)
def yU(s:dp)(m:Nat):Bool:=(List.range m).any λk=>!(lX s k).isEmpty
theorem yTf(s:dp)(m:Nat):yU s (m+1)=(yU s m||!(lX s m).isEmpty):=by unfold yU;rw[aZ,List.any_append];simp
theorem vQ.at{a:Option Addr}{cap:Nat}(h:vQ w (.slice a m cap) cs){i:Nat}{d:eH}(t:cs[i]?=some d):∃b c p k o,a=some ⟨b,c,none⟩/\w.cell? ⟨b,c+i*4,none⟩=some (.int .i64 d.kind)/\w.cell? ⟨b,c+i*4+1,none⟩=some (.int .i64 d.I)/\w.cell? ⟨b,c+i*4+2,none⟩=some (.int .i64 d.time)/\w.cell? ⟨b,c+i*4+3,none⟩=some (.slice p k o):=by
 obtain⟨f,A,z⟩:=h;have e:i<f.length:=by have:=(aB.1 t).1;omega
 have v:(cs.zip f)[i]?=some (d,f[i]):=by
  rw[List.getElem?_zip_eq_some];exact⟨t,aA e⟩
 obtain⟨b,c,l,B,_,u,_,j⟩:=gD.at z v;unfold Ii at u;subst u;have r:=j 0 _ rfl;simp only[bK]at r;obtain⟨p,k,o,x⟩:=A.2 f[i] (dJ e);have q:=j 3 _ rfl;dsimp only at q;rw[x]at q;exact⟨b,c,p,k,o,B,r,j 1 _ rfl,j 2 _ rfl,q⟩
def OT(w:World)(y:dq)(v:Value)(cs:List eH):Prop:=vQ w v cs/\(cs=[]\/∀k,v.ownBlock=some k->y.own k=.no/\k<w.heap.size)
theorem OT.keep{w':World}{f:dq}{v:Value}(h:OT w y v cs)(k:il w y w' f):OT w' f v cs:=by
 obtain e|c:=h.2
 .subst e;obtain⟨i,p,a,d,o,l,j,_⟩:=h.1;exact⟨⟨i,p,a,d,o,l,j,.inl (by simp)⟩,.inl rfl⟩
 .exact⟨h.1.mod k.md (λz b e=>e (c z b).1),.inr (λz b=>⟨by rw[k.old z (c z b).2];exact(c z b).1,aJ (c z b).2 k.size⟩)⟩
theorem yNb(k:Nat)(s:dp)(cs:List eH)(c:eH):(cs++[c]).foldl (mw k) s=mw k (cs.foldl (mw k) s) c:=by rw[ae];rfl
theorem Bz.CR{b:Nat}{l:jS}(h:Bz w n y b l)(e:0<l.nodes.length):(l.nodes.getLastD Ik).M.length<=500:=by
 obtain⟨d,f,t,ht,hN⟩:=h.zF (j:=l.nodes.length-1) (by omega);have c:l.nodes.getLastD Ik=t:=by
  rw[Fa _ _ e];have:=aA (show l.nodes.length-1<l.nodes.length by omega);rw[ht]at this;exact(bA this).symm
 rw[c];exact hN.few.2
theorem yVv(n c g:Nat)(y:dq)(s:dp)(w:World)(h:eJ w n c g y s)(hs:mo s)(hc:c<=10000)(hn:yXj s) :
  Calls Tryz.prog 82 #[.pointer (some ⟨g,0,none⟩)] w λe w'=>e=.returned (.bool (rp s))/\∃X,eJ w' n c g X (pZ s)/\eu w y w' X:=by
 obtain⟨c0,-⟩:=kX h.Z;obtain⟨la,fQ,O⟩:=fU h.gN;have hll:=hs.ll;have H:=h.ir;rw[O,H]at c0;have FM:Hid (y.lv=.slice la s.lines.length fQ):=by unfold Hid;rw[O,H]
 have HH:=dk h;have HS:=dk hs;have HN:=dk hn;clear h hs hn O;go_enter Tryz.func82,Tryz.ntmps82;go_wp2_with fail;go_loopw [3,13] (λf k0 wr=>∃(k:Nat) (B:dq),k<=s.lines.length/\k0=.int .i64 k/\f=.bool (yU s k)/\eJ wr n c g B (pI s k)/\eu w y wr B) (λ_ k0 _=>s.lines.length-(intOf k0).toNat)
 case atStart=>exact⟨0,y,aT _,rfl,rfl,HH.out,eu.refl _ _⟩
 case round=>
  obtain⟨k,B,hkl,rfl,rfl,V,hK⟩:=hrel;obtain⟨wo,hwo⟩:∃x,x=wr:=⟨_,rfl⟩;subst hwo;by_cases hlt:k<s.lines.length
  .obtain⟨p,Et,hwr⟩:=Zn s k hkl;have E:k<(pI s k).lines.length:=by rw[p.ll];exact hlt
   have L:=p.shape HS.out (hwr HS.out.tw);obtain⟨b,hb,hL⟩:=V.nQ E;obtain⟨lg,cap',hv,cl⟩:=yv V.gN hb;have JR:la=some ⟨lg,0,none⟩:=by
    have e:=hK.lv;rw[hv,FM.out]at e;simp only[Value.slice.injEq]at e;exact e.1.symm
   subst JR;have hnl:=L.nl _ (Nu E);have Bc:=yMo hkl;have GN:=HN.out k hlt;have D:((pI s k).A k).nodes.getLastD Ik=qf s k:=by unfold qf;rw[p.nodes];rfl
   have XU:((pI s k).A k).heard=(s.A k).heard:=Et k (aD _);have Ew:=hL.CR (by omega);rw[D]at Ew;have yb:=dk (yVa n b B ((pI s k).A k) wo hL (by omega) (by omega) (by rw[D,XU];exact GN.1));rw[show(((pI s k).A k).nodes.getLastD Ik).M.drop ((pI s k).A k).heard=lX s k by rw[D,XU];rfl]at yb;have hcl:(s.A k).heard+(lX s k).length<=500:=by
    have:(lX s k).length=(qf s k).M.length-(s.A k).heard:=by unfold lX;rw[bT]
    omega
   have nW:=dk GN.2;have zO:(k:Int)<(s.lines.length:Int):=by omega
   have ry:(0:Int)<=(k:Int):=by omega
   have jm:=dk V;have pG:=dk hK;have HB:=dk hb;have zY:=dk L;have zf:=dk XU;have KD:=dk (yTf s k);have kg:Hid (pI s (k+1)=(lX s k).foldl (mw k) (pI s k)):=by unfold Hid;rw[RH];unfold iI;rw[Bc]
   have zZ:=dk E;have HTN:Hid ((pI s k).U.length=s.U.length):=p.len;clear V hK hL hb hv p Et hwr L Bc GN D XU Ew hnl E;generalize lX s k=cs at yb hcl nW KD kg;generalize pI s k=S at jm zY zf kg zZ HTN;go_upto_region 5 with fail;go_wp2_with fail;refine yb.out.mono ?_;rintro e w2⟨v,rfl,C,hf2,N⟩;have Af:OT w2 B v cs:=by
    refine⟨C,?_⟩;obtain⟨us,hu,a',I,e1,_,_,e4⟩:=C;obtain e4|⟨b',off',e5,e6,_⟩:=e4
    .left;have K:(cs.zip us).length=cs.length:=by rw[cJ];omega
     rw[e4]at K;exact aR K.symm
    .right;intro z K;have hz2:=hf2 z K;refine⟨?_,?_⟩
     .by_cases e:B.own z=.no
      .exact e
      .have:=(jm.out.own.lt z e).2;omega
     .rw[e1,e5]at K;simp[Value.ownBlock]at K;subst K;exact e6
   have hvs:∃va vc,v=.slice va cs.length vc:=by
    obtain⟨us,hu,a',I,e1,_⟩:=C;refine⟨a',I,?_⟩;rw[e1,cJ,hu.1,Nat.min_self]
   obtain⟨va,vc,lL⟩:=hvs;subst lL;have sC:=dk Af;have mh:=dk (jm.out.quiet N);have ze:=dk (pG.out.trans (eu.quiet N));clear C hf2 N Af jm pG yb;go_wp2_with fail;go_loopw [3,21] (λf j0 wi=>∃(j:Nat) (G:dq),j<=cs.length/\j0=.int .i64 j/\f=.bool (yU s k||decide (0<j))/\eJ wi n c g G ((cs.take j).foldl (mw k) S)/\eu w y wi G/\eu w2 B wi G) (λ_ j0 _=>cs.length-(intOf j0).toNat)
   case atStart=>exact⟨0,B,aT _,rfl,by simp,mh.out,ze.out,eu.refl _ _⟩
   case round=>
    obtain⟨j,G,hjl,rfl,rfl,R,tY,vA⟩:=hrel;by_cases qW:j<cs.length
    .obtain⟨d,hd⟩:∃d,cs[j]?=some d:=⟨_,aA qW⟩;obtain⟨cb,coff,ua,um,uc,Tm,q0,q1,q2,q3⟩:=vQ.at (sC.out.keep vA.st).1 hd;subst Tm;obtain⟨hx1,Y⟩:=nW.out d (aC hd);obtain⟨T,hT⟩:∃T,T=(cs.take j).foldl (mw k) S:=⟨_,rfl⟩;have r:uG S T:=by rw[hT];exact Zo k _ S zZ.out
     have hTw:∀t∈T.U,t.writes.length<=20:=by rw[hT];exact Zv k _ S zY.out.tw
     have hTh:(T.A k).heard=(s.A k).heard+j:=by
      rw[hT,WQ k _ S zZ.out,aK rfl,zf.out,af];omega
     rw[<-hT]at R;have Ts:=r.shape zY.out hTw;have hTk:k<T.lines.length:=by rw[r.ll];exact zZ.out
     have Dn:Hid ((cs.take (j+1)).foldl (mw k) S=mw k T d):=by unfold Hid;rw[rq hd,yNb,hT]
     obtain⟨o,tx,i,W⟩:=d;dsimp only at q0 q1 q2 hx1 Y;obtain⟨w3,hw3⟩:∃z,z=wr.alloc (.cells #[.int .i64 o,.int .i64 tx,.int .i64 i,.slice ua um uc] 65):=⟨_,rfl⟩;have eK:Mod dt wr w3:=by rw[hw3];exact(Mod.refl _ wr).alloc _
     have q:dx w3 wr.heap.size [.int .i64 o,.int .i64 tx,.int .i64 i,.slice ua um uc] 65:=by rw[hw3];exact dx.new wr _ _
     have x0:=q.cell 0 rfl;have x1:=q.cell 1 rfl;have x2:=q.cell 2 rfl;have x3:=q.cell 3 rfl;have Ni:=dk (yNe n c g G T k ⟨o,tx,i,W⟩ (.slice ua um uc) w3 (R.quiet eK) Ts hc hTk ⟨hx1,by rw[r.len,HTN.out];exact Y⟩);have vN:=dk (tY.trans (eu.quiet eK));have Dk:=dk (vA.trans (eu.quiet eK));have MA:(j:Int)<(cs.length:Int):=by omega
     have PA:(0:Int)<=(j:Int):=by omega
     have qE:=dk r;have hTf:=gS.follow T k ⟨o,tx,i,W⟩;have HTF:=dk hTf;have hzb:cb<wr.heap.size:=AC wr _ q0;clear R tY vA hd hT hTw Ts q hTf r;go_upto_region 8 with fail;rw[<-hw3];clear hw3 q0 q1 q2 q3;go_wp2_with fail;refine Ni.out.mono ?_;rintro e w4⟨rfl,Q,qq,F⟩;have hk4:k<(mj T k ⟨o,tx,i,W⟩).lines.length:=by rw[HTF.out.l];exact hTk
     have hb4:Q.gd[k]?=some b:=by rw[F.l,Dk.out.l];exact HB.out
     have u:=qq.A k b _ hb4 (nM hk4);have hheq:((mj T k ⟨o,tx,i,W⟩).A k).heard=(s.A k).heard+j:=by
      rw[<-hTh];unfold dp.A;rw[HTF.out.l]
     have l1:=u.Z.cell 1 rfl;have f1:=u.Z.frozen 1;have zl:=u.Z.lt;obtain⟨w5,oH⟩:∃z,z=w4.setCell ⟨b,1,none⟩ (.int .i64 (((mj T k ⟨o,tx,i,W⟩).A k).heard+1:Nat)):=⟨_,rfl⟩;have fA:Mod (eQ b) w4 w5:=by rw[oH];exact Mod.eE b 1 _
     have xM:dx w5 b [Q.sf b,.int .i64 (((mj T k ⟨o,tx,i,W⟩).A k).heard+1:Nat)] 120:=by rw[oH];exact u.Z.set 1 _
     obtain⟨mG,qX⟩:=qq.Rk hk4 hb4 fA xM;have J:Hid (eJ w5 n c g Q ((cs.take (j+1)).foldl (mw k) S)/\eu w y w5 Q/\eu w2 B w5 Q):=by
      unfold Hid;rw[Dn.out];exact⟨mG,(vN.out.trans F).trans qX,(Dk.out.trans F).trans qX⟩
     rw[hheq]at l1 oH;have SN:w5=w4.setCell ⟨b,1,none⟩ (.int .i64 (((s.A k).heard:Int)+(j:Int)+1)):=by rw[oH];congr 2
     have SE:w4.cell? ⟨b,1,none⟩=some (.int .i64 (((s.A k).heard:Int)+(j:Int))):=by rw[l1];congr 2
     clear qq F u fA xM mG qX l1 oH Ni;go_upto_region 10 with fail;rw[<-SN];clear SN SE f1;go_wp2_with fail;go_roundw
     case rel=>exact⟨j+1,Q,by omega,by go_num,by simp,J.out.1,J.out.2.1,J.out.2.2⟩
     case measure=>simp[intOf];omega
    .obtain rfl:j=cs.length:=by omega
     rw[bQ]at R;have J:Hid (eJ wr n c g G (pI s (k+1))/\eu w y wr G):=⟨by rw[kg.out];exact R,tY⟩;have Br:Hid (yU s (k+1)=(yU s k||decide (0<cs.length))):=by
      unfold Hid;rw[KD.out];congr 1
      cases cs <;> simp
     clear R tY vA sC;go_wp2_with fail;go_roundw
     case rel=>exact⟨k+1,G,by omega,by go_num,by rw[Br.out],J.out.1,J.out.2⟩
     case measure=>simp[intOf];omega
  .obtain rfl:k=s.lines.length:=by omega
   have J:Hid (∃X,eJ wo n c g X (pZ s)/\eu w y wo X):=⟨B,V,hK⟩;clear V hK;go_wp2_with fail;go_ret;exact⟨rfl,J.out⟩
theorem zZt(x:Int):∀l:List Int,decide (Rs (sx x l) ≥ 0)=decide (x∈l)
|[]=>rfl
|a::l=>by
  have b:=zZt x l;unfold sx;by_cases h:x=a
  .rw[aK h];subst h;simp[Rs]
  .rw[aH h];have e:decide (x∈a::l)=decide (x∈l):=by simp[h]
   rw[e,<-b]
   cases sx x l with
  |none=>rfl
  |some k=>simp[Rs];omega
theorem zRs(v:Value)(ns:List Int)(x:Int)(w:World)(c:kF w v ns) :
  Calls Tryz.prog 76 #[v,.int .i64 x] w λe d=>e=.returned (.bool (decide (x∈ns)))/\d=w:=by
 have k:=dk (zZn v ns x w c);obtain⟨a,i,rfl,h,f,b⟩:=c;have j:=dk (zZt x ns);clear b;go_enter Tryz.func76,Tryz.ntmps76;go_wp2_with fail;refine k.out.mono ?_;rintro e w1⟨rfl,rfl⟩;go_wp2_with fail;go_ret;exact⟨by rw[<-j.out];rfl,rfl⟩
theorem yQd(n b:Nat)(y:dq)(t:jz)(w:World)(h:vG w n y b t) :
  Calls Tryz.prog 124 #[.pointer (some ⟨b,0,none⟩)] w λe i=>e=.returned (.bool (ve t))/\i=w:=by
 have c:=dk (zRs (y.jy b) t.ats 1 w (kF.iX h.ats));have l:=h.Z.cell 1 rfl;obtain⟨a,k,d⟩:=fU h.ats;rw[d]at l c;clear h d;have f:Hid (ve t=!decide ((1:Int)∈t.ats)):=rfl
 cases j:decide ((1:Int)∈t.ats)
 all_goals
  rw[j]at c f;go_enter Tryz.func124,Tryz.ntmps124;go_wp2_with fail;refine c.out.mono ?_;rintro e w1⟨rfl,rfl⟩;go_wp2_with fail;go_ret;exact⟨by rw[f.out];rfl,rfl⟩
theorem Mod.putObj{G:Nat->Prop}{a:World}(h:Mod G a w){r:Nat}(d:r<a.heap.size->G r)(o:Obj):Mod G a (w.putObj r o):=
 ⟨h.os,h.tape,h.output,by simpa using h.size,λk b c=>by rw[World.putObj_heap_other (λe=>c (by subst e;exact d b))];exact h.block k b c⟩
def BG{β:Type}(N:Nat)(J:β->World->Prop):Prop:=∀s A B,Mod (jw N) A B->N<=A.heap.size->J s A->J s B
def yTk{α:Type}(m:Nat)(P:Program)(l:Nat)(b:α->Array Value)(X:Nat->Prop)(xs:List α)(J:List α->World->Prop)(c:World->Prop):Prop:=
 ∀pre x rest A,xs=pre++x::rest->J pre A->YieldAt Fence.wide m P l (b x) A λe B=>Mod X A B/\((e=.returned (.bool true)/\J (pre++[x]) B)\/(e=.returned (.bool false)/\c B))
def Iter{α:Type}(n:Nat)(P:Program)(g:Nat)(lb:Array Value)(c:α->Array Value)(R:Nat->Prop)(xs:List α)(w:World):Prop:=
 ∀(l:Nat) (X:Nat->Prop) (J:List α->World->Prop) (b:World->Prop) (W:World),Mod dt w W->(∀k,X k->k<W.heap.size/\¬R k) ->
  BG W.heap.size J->BG W.heap.size (λ(_:Unit)=>b)->yTk (n-1) P l c X xs J b->J [] W ->
  CallsIn Fence.wide n P g (#[.func (.yield l) #[] #[]]++lb) W λe B=>(∃v,e=.returned v)/\Mod X W B/\(J xs B\/b B)
def yQb{α:Type}(X:Nat->Prop)(I:List α->World->Prop)(b:Code->World->Prop)(xs:List α)(W:World):Exit->Act->World->Prop
|.normal,_,B=>Mod X W B/\I xs B
|.ret,_,B=>Mod X W B/\b .ret B
|.exit id,_,B=>Mod X W B/\b (.exit id) B
|.goto t,_,B=>Mod X W B/\b (.goto t) B
|.panic _,_,_=>False
|.outgrown,_,_=>False
theorem yDt{α:Type}{F:Fence}{n:Nat}{g:Operand}{Q:Exit->Act->World->Prop}
  (hfn:F.fn=λ_=>True) (hdp:F.depth=none) (hal:F.alive=false)
  {l:Nat} {d:Nat} {mark:List Deferred} {lay:Obj->World} (hen:∀fn,(Instr.enterLoop fn a.tmps ps assign body F.round).run P w=.ok (l,mark) (lay (.loop {state:=.ready,pending:=none,fn,tmps:=a.tmps,params:=ps,assign,body,defers:=d})))
  (hlay:∀o,Mod dt w (lay o)/\(lay o).heap[l]?=some o) (hl:w.heap.size<=l)
  {gf:Nat} {lb:Array Value} (hg:a.eval g=.func (.func gf) #[] lb) (eg:∀args w,(callFunc gf args).run P w=.ok (.enter gf args) w)
  {nF:α->Array Value} {R:Nat->Prop} {xs:List α} (hit:Iter (n-1) P gf lb nF R xs w) (hps:∀x,(nF x).size=ps.size)
  (X:Nat->Prop) (hX:∀k,X k->k<w.heap.size/\¬R k) (hR:∀k,R k->k<w.heap.size)
  (I:List α->World->Prop) (Ix:Code->World->Prop) (hI:BG w.heap.size I) (PV:BG w.heap.size Ix) (h0:I [] w)
  (rO:∀(pre:List α) (x:α) (rest:List α) (W:World),xs=pre++x::rest->I pre W->l<W.heap.size ->
   assign.wpIn (Fence.wide.inRound l) (n-1-1) P (Exit.then (λa' M=>Mod dt W M/\∀C,Mod (eQ l) M C->(∃r,C.heap[l]?=some (.loop r))->I pre C->body.wpIn (Fence.wide.inRound l) (n-1-1) P (yQb X I Ix (pre++[x]) C) a' C) (λ_ _ _=>False))
    {tmps:=(ps.zip (nF x)).foldl (λt (p,v)=>t.setIfInBounds p v) a.tmps,defers:=[]} W)
  (V:∀W o,Mod (λk=>X k\/k=l) (lay o) W->I xs W->Q .normal {a with defers:=mark++a.defers} W)
  (uX:∀c W o,Mod (λk=>X k\/k=l) (lay o) W->Ix c W->c.wpIn F n P Q {a with defers:=mark++a.defers} W) :
  (Code.rangeFunc g ps assign body).wpIn F n P Q a w:=by
 obtain⟨ffn,fdp,fal,fro⟩:=F;dsimp only at hfn hdp hal;subst hfn hdp hal;refine wpIn_rangeFunc ?_;intro fn _;obtain⟨f,hrec⟩:∃f:LoopState->Option Code->Loop,f=λst pe=>{state:=st,pending:=pe,fn,tmps:=a.tmps,params:=ps,assign,body,defers:=d}:=⟨_,rfl⟩;obtain⟨Z,PT⟩:=hlay (.loop (f .ready none));have hne:=hen fn;obtain⟨W1,hW1⟩:∃z,z=lay (.loop (f .ready none)):=⟨_,rfl⟩;rw[<-hW1]at Z PT;have qU:(Instr.enterLoop fn a.tmps ps assign body fro).run P w=.ok (l,mark) W1:=by rw[hW1,hrec];exact hne
 have hlt1:l<W1.heap.size:=(aF.1 PT).1;have E:∀{W:World} {pre:List α} (o:Obj),w.heap.size<=W.heap.size->I pre W->I pre (W.putObj l o):=λo H u=>hI _ _ _ ((Mod.refl (jw w.heap.size) _).putObj (λ_=>hl) o) H u;have zL:∀{W:World} {c:Code} (o:Obj),w.heap.size<=W.heap.size->Ix c W->Ix c (W.putObj l o):=λo H u=>PV _ _ _ ((Mod.refl (jw w.heap.size) _).putObj (λ_=>hl) o) H u;refine⟨l,mark,W1,{target:=.fn (.func gf) lb,args:=#[.func (.yield l) #[] #[]]},W1,gf,#[.func (.yield l) #[] #[]]++lb,W1,qU,?_,λ_ _=>trivial,?_,λe=>by simp at e,?_⟩
 .simp only[resolve,hg];simp[go_sem]
 .simp[invoke,go_sem,eg]
 .have hc:=hit l (λk=>X k\/k=l) (λpre W=>I pre W/\w.heap.size<=W.heap.size/\W.heap[l]?=some (.loop (f .ready none))) (λW=>∃c,Ix c W/\w.heap.size<=W.heap.size/\W.heap[l]?=some (.loop (f .done (some c)))) W1 Z
   (λk hk=>by
    obtain hk|rfl:=hk
    .exact⟨aJ (hX k hk).1 Z.size,(hX k hk).2⟩
    .exact⟨hlt1,λJ=>by have:=hR _ J;omega⟩)
   (λpre A B O H ⟨h1,h2,h3⟩=>⟨hI _ _ _ (O.mono (λi _ u=>aO Z.size u)) h2 h1,aO h2 O.size,by rw[O.block l (by omega) (by simp only[jw];omega)];exact h3⟩)
   (λ_ A B O H ⟨c,h1,h2,h3⟩=>⟨c,PV _ _ _ (O.mono (λi _ u=>aO Z.size u)) h2 h1,aO h2 O.size,by rw[O.block l (by omega) (by simp only[jw];omega)];exact h3⟩)
   (by
    rintro pre x rest A hx⟨u,H,L⟩;have hy:=run_yield (P:=P) (args:=nF x) L (by rw[hrec];exact hps x);rw[hrec]at hy;refine⟨fn,_,assign,body,hy,roundIn_of_wpIn (by trivial) (wpIn_mono (rO pre x rest A hx u (aF.1 L).1) ?_)⟩;clear hy;rintro e a' M j
    cases e with
   |normal=>
     obtain⟨Lt,hb⟩:=j;have hltA:l<A.heap.size:=(aF.1 L).1;have JR:M.heap[l]?=some (.loop (f .ready none)):=by rw[Lt.block l hltA id];exact L
     have hlta:l<M.heap.size:=(aF.1 JR).1;refine⟨_,run_beginRound JR (by rw[hrec]),?_⟩;obtain⟨C,XZ⟩:∃z,z=M.putObj l (.loop {f .ready none with state:=.busy}):=⟨_,rfl⟩;have S:C.heap[l]?=some (.loop {f .ready none with state:=.busy}):=by rw[XZ];exact World.putObj_heap_same hlta
     have hltb:l<C.heap.size:=(aF.1 S).1;have hmb:Mod (eQ l) M C:=by rw[XZ];exact Mod.putObj (G:=eQ l) (Mod.refl (eQ l) M) (λ_=>(rfl:l=l)) _
     have XS:I pre M:=hI _ _ _ (Lt.mono (λ_ _ e=>e.elim)) H u;have hib:I pre C:=by rw[XZ];exact E _ (aO H Lt.size) XS
     rw[<-XZ];have TC:Mod (λk=>X k\/k=l) A C:=(Lt.mono (λ_ _ e=>e.elim)).trans (hmb.mono (λ_ _ e=>.inr e));refine wpIn_mono (hb C hmb ⟨_,S⟩ hib) ?_;have fin:∀(b:Option Code) (D:World),Mod X C D ->
       (Instr.endRound l b).run P D=.ok (.bool b.isNone) (D.putObj l (.loop (f (if b.isNone then .ready else .done) b)))/\w.heap.size<=D.heap.size /\
       (D.putObj l (.loop (f (if b.isNone then .ready else .done) b))).heap[l]?=some (.loop (f (if b.isNone then .ready else .done) b)) /\
       Mod (λk=>X k\/k=l) A (D.putObj l (.loop (f (if b.isNone then .ready else .done) b))):=λb D U=>by
      have Ep:D.heap[l]?=some (.loop {f .ready none with state:=.busy}):=by rw[U.block l hltb (λe=>by have:=(hX l e).1;omega)];exact S
      have:=run_endRound (P:=P) b Ep;refine⟨?_,aO H (aO TC.size U.size),World.putObj_heap_same (aF.1 Ep).1,(TC.trans (U.mono (λ_ _ e=>.inl e))).putObj (λ_=>.inr rfl) _⟩;rw[hrec]at this⊢;exact this
     rintro e a3 D j
     cases e with
    |normal=>
      obtain⟨J,h,q,Y⟩:=fin none D j.1;exact⟨_,_,J,Y,.inl ⟨rfl,E _ h j.2,by simpa using h,q⟩⟩
    |ret=>
      obtain⟨J,h,q,Y⟩:=fin (some .ret) D j.1;exact⟨_,_,J,Y,.inr ⟨rfl,_,zL _ h j.2,by simpa using h,q⟩⟩
    |exit id=>
      obtain⟨J,h,q,Y⟩:=fin (some (.exit id)) D j.1;exact⟨_,_,J,Y,.inr ⟨rfl,_,zL _ h j.2,by simpa using h,q⟩⟩
    |goto t=>
      obtain⟨J,h,q,Y⟩:=fin (some (.goto t)) D j.1;exact⟨_,_,J,Y,.inr ⟨rfl,_,zL _ h j.2,by simpa using h,q⟩⟩
    |panic ch=>exact j.elim
    |outgrown=>exact j.elim
   |ret=>exact j.elim
   |exit id=>exact j.elim
   |goto t=>exact j.elim
   |panic ch=>exact j.elim
   |outgrown=>exact j.elim)
   ⟨hI _ _ _ (Z.mono (λ_ _ e=>e.elim)) (aD _) h0,Z.size,PT⟩
  have hc':CallsIn {fn:=λ_=>True,depth:=none,alive:=false,round:=fro} (n-1) P gf (#[.func (.yield l) #[] #[]]++lb) W1 λe B=>(∃v,e=.returned v)/\Mod (λk=>X k\/k=l) W1 B/\((I xs B/\w.heap.size<=B.heap.size/\B.heap[l]?=some (.loop (f .ready none)))\/∃c,Ix c B/\w.heap.size<=B.heap.size/\B.heap[l]?=some (.loop (f .done (some c)))):=hc;refine hc'.mono ?_;rintro e W2⟨⟨v,rfl⟩,K,⟨u,N,T⟩|⟨c,u,N,T⟩⟩
  .exact⟨none,_,by have:=run_endLoop (P:=P) T (by rw[hrec];simp);rw[hrec]at this;exact this,V _ (.loop (f .ready none)) (by rw[hW1]at K;exact K.putObj (λ_=>.inr rfl) _) (E _ N u)⟩
  .exact⟨some c,_,by have:=run_endLoop (P:=P) T (by rw[hrec];simp);rw[hrec]at this;exact this,uX c _ (.loop (f .ready none)) (by rw[hW1]at K;exact K.putObj (λ_=>.inr rfl) _) (zL _ N u)⟩
theorem Vu{Q:Exit->Act->World->Prop}
  {gf:Nat} {lb:Array Value} (J:a.eval g=.func (.func gf) #[] lb) (M:∀args w,(callFunc gf args).run P w=.ok (.enter gf args) w)
  {A:α->Array Value} {R:Nat->Prop} {xs:List α} (C:Iter (n-1) P gf lb A R xs w) (B:∀x,(A x).size=ps.size)
  (X:Nat->Prop) (D:∀k,X k->k<w.heap.size/\¬R k) (K:∀k,R k->k<w.heap.size)
  (I:List α->World->Prop) (z:Code->World->Prop) (L:BG w.heap.size I) (O:BG w.heap.size z) (h0:I [] w)
  (H:∀(pre:List α) (x:α) (rest:List α) (W:World),xs=pre++x::rest->I pre W->w.heap.size+1<W.heap.size ->
   assign.wpIn (Fence.wide.inRound (w.heap.size+1)) (n-1-1) P (Exit.then (λN E=>Mod dt W E/\∀j,Mod (eQ (w.heap.size+1)) E j->(∃r,j.heap[w.heap.size+1]?=some (.loop r))->I pre j->body.wpIn (Fence.wide.inRound (w.heap.size+1)) (n-1-1) P (yQb X I z (pre++[x]) j) N j) (λ_ _ _=>False))
    {tmps:=(ps.zip (A x)).foldl (λt (p,v)=>t.setIfInBounds p v) a.tmps,defers:=[]} W)
  (b:∀W,Mod X w W->W.heap[w.heap.size]?=some (.deferred (some []))->I xs W->Q .normal {a with defers:={target:=.collected w.heap.size,args:=#[]}::a.defers} W)
  (G:∀c W,Mod X w W->W.heap[w.heap.size]?=some (.deferred (some []))->z c W->c.wpIn Fence.wide n P Q {a with defers:={target:=.collected w.heap.size,args:=#[]}::a.defers} W) :
  (Code.rangeFunc g ps assign body).wpIn Fence.wide n P Q a w:=by
 have u:∀{o W},Mod (λk=>X k\/k=w.heap.size+1) ((w.alloc (.deferred (some []))).alloc o) W->Mod X w W/\W.heap[w.heap.size]?=some (.deferred (some [])):=λ{o W} h=>
  ⟨(((Mod.refl X w).alloc _).alloc _).trans' (h.mono (λi _ e=>e)) (λi q e=>e.elim id (λe=>by omega)),by
   rw[h.block w.heap.size (by simp;omega) (λe=>e.elim (λe=>absurd (D _ e).1 (by omega)) (λe=>by omega))];rw[heap_alloc_old _ _ (by simp)];exact A0 w _⟩
 refine yDt (F:=Fence.wide) (l:=w.heap.size+1) (d:=w.heap.size) (mark:=[{target:=.collected w.heap.size,args:=#[]}]) (lay:=λo=>(w.alloc (.deferred (some []))).alloc o) rfl rfl rfl (λS=>run_enterLoop_outer _ _ _ _ _) (λo=>⟨((Mod.refl _ w).alloc _).alloc _,?_⟩) (by omega) J M C B X D K I z L O h0 H
  (λW o f q=>b W (u f).1 (u f).2 q) (λc W o f q=>G c W (u f).1 (u f).2 q)
 have:=A0 (w.alloc (.deferred (some []))) o;simpa using this
theorem yUp{Q:Exit->Act->World->Prop}
  {l₀:Nat} {r₀:Loop} (hl₀:w.heap[l₀]?=some (.loop r₀)) {gf:Nat} {lb:Array Value} (J:a.eval g=.func (.func gf) #[] lb) (N:∀b w,(callFunc gf b).run P w=.ok (.enter gf b) w)
  {z:α->Array Value} {R:Nat->Prop} {xs:List α} (C:Iter (n-1) P gf lb z R xs w) (A:∀x,(z x).size=ps.size)
  (X:Nat->Prop) (K:∀k,X k->k<w.heap.size/\¬R k) (L:∀k,R k->k<w.heap.size)
  (I:List α->World->Prop) (u:Code->World->Prop) (M:BG w.heap.size I) (S:BG w.heap.size u) (h0:I [] w)
  (H:∀(pre:List α) (x:α) (rest:List α) (W:World),xs=pre++x::rest->I pre W->w.heap.size<W.heap.size ->
   assign.wpIn (Fence.wide.inRound w.heap.size) (n-1-1) P (Exit.then (λO E=>Mod dt W E/\∀j,Mod (eQ w.heap.size) E j->(∃r,j.heap[w.heap.size]?=some (.loop r))->I pre j->body.wpIn (Fence.wide.inRound w.heap.size) (n-1-1) P (yQb X I u (pre++[x]) j) O j) (λ_ _ _=>False))
    {tmps:=(ps.zip (z x)).foldl (λt (p,v)=>t.setIfInBounds p v) a.tmps,defers:=[]} W)
  (f:∀W,Mod X w W->I xs W->Q .normal a W)
  (G:∀c W,Mod X w W->u c W->c.wpIn (Fence.wide.inRound l₀) n P Q a W) :
  (Code.rangeFunc g ps assign body).wpIn (Fence.wide.inRound l₀) n P Q a w:=by
 have D:∀{o W},Mod (λk=>X k\/k=w.heap.size) (w.alloc o) W->Mod X w W:=λ{o W} h=>
  ((Mod.refl X w).alloc _).trans' (h.mono (λi _ e=>e)) (λi q e=>e.elim id (λe=>by omega))
 exact yDt (F:=Fence.wide.inRound l₀) (l:=w.heap.size) (d:=r₀.defers) (mark:=[]) (lay:=λo=>w.alloc o) rfl rfl rfl (λT=>run_enterLoop_inner hl₀ _ _ _ _ _) (λo=>⟨(Mod.refl _ w).alloc _,A0 w o⟩) (aD _) J N C A X K L I u M S h0 H
  (λW o B q=>f W (D B) q) (λc W o B q=>G c W (D B) q)
attribute [local go_sem] Oper.semAt_some
theorem yGc(us:List α)(q:Nat)(b:q<us.length):us.zipIdx.reverse=(us.zipIdx.drop (q+1)).reverse++(us[q],q)::(us.zipIdx.take q).reverse/\(us.zipIdx.drop (q+1)).reverse++[(us[q],q)]=(us.zipIdx.drop q).reverse:=by
 have h:us.zipIdx.drop q=(us[q],q)::us.zipIdx.drop (q+1):=by
  rw[bw (by simpa using b)];simp
 refine⟨?_,by rw[h];simp⟩;have e:=(ar q us.zipIdx).symm;rw[h]at e;exact(an List.reverse e).trans (by simp)
def Db(x:gB×Nat):Array Value:=#[.int .i64 (x.2:Int),.agg #[.string x.1.key,.string x.1.val,.bool x.1.gone]]
theorem ySx(n:Nat)(l x f b cap:Nat)(X:Nat->Prop)(us:List (gB))(C:us.length<=1000000)(J:List (gB×Nat)->World->Prop)(I:World->Prop)
  (T:yTk (n-1) Tryz.prog l Db X (us.zipIdx.reverse) J I)
  (W:World) (o:¬X x) (z:¬X f) (V:W.cell? ⟨x,0,none⟩=some (.slice (some ⟨f,b,none⟩) us.length cap)) (R:∀j (hj:j<us.length),W.cell? ⟨f,b+j*3,none⟩=some (.string us[j].key)/\W.cell? ⟨f,b+j*3+1,none⟩=some (.string us[j].val)/\W.cell? ⟨f,b+j*3+2,none⟩=some (.bool us[j].gone)) (h0:J [] W) :
  CallsIn Fence.wide n Tryz.prog 157 #[.func (.yield l) #[] #[],.pointer (some ⟨x,0,none⟩)] W λe B=>(∃v,e=.returned v)/\Mod X W B/\(J (us.zipIdx.reverse) B\/I B):=by
 refine C1 Tryz.func157 rfl trivial ?_ rfl;simp only[Tryz.ntmps157,bE,aW,bC,Nat.reduceAdd,Nat.reduceSub,bj,bh,bx,bq,aa,bI]
 gi_wp2
 gi_loopw [3] (λi wr=>∃q:Nat,q<=us.length/\i=.int .i64 ((q:Int)-1)/\J ((us.zipIdx.drop q).reverse) wr/\Mod X W wr) (λi _=>(intOf i+1).toNat)
 case atStart=>exact⟨us.length,aD _,rfl,by rw[dF (by simp)];exact h0,Mod.refl _ _⟩
 case round=>
  obtain⟨q,Z,rfl,h,c⟩:=hrel
  cases q with
 |zero=>
   gi_wp2
   go_end0;exact⟨⟨_,rfl⟩,c,.inl h⟩
 |succ q=>
   have K:q<us.length:=by omega
   have Q:((q+1:Nat):Int)-1=(q:Int):=by omega
   rw[Q];have N:(q:Int)<(us.length:Int):=by omega
   have O:(0:Int)<=(q:Int):=by omega
   have M:decide ((q:Int) ≥ 0)=true:=aQ (by omega);obtain⟨H,G,F⟩:=R q K;have t:=c.cell H z;have r:=c.cell G z;have U:=c.cell F z;have S:=c.cell V o;obtain⟨u,hu⟩:∃u,u=us[q]:=⟨_,rfl⟩;obtain⟨k,d⟩:=yGc us q K;rw[<-hu]at k d;obtain⟨fn,A,assign,body,L,D⟩:=T _ _ _ wr k h;rw[d]at D;dsimp only[Db]at L;rw[<-hu]at t r U;clear hu k d H G F
   gi_wp2
   refine⟨λe=>by simp[Fence.wide]at e,D.mono ?_⟩;rintro e W3⟨E,⟨rfl,p⟩|⟨rfl,Y⟩⟩
   .gi_wp2
    go_roundw
    case rel=>exact⟨q,by omega,rfl,p,c.trans E⟩
    case measure=>simp[intOf]
   .gi_wp2
    refine A5 (B4 rfl _ _ _) rfl ?_;exact⟨⟨_,rfl⟩,c.trans E,.inr Y⟩
theorem yOa(n:Nat)(l b cap:Nat)(a:Option Addr)(J:World->Prop)(W:World)(c:W.cell? ⟨b,0,none⟩=some (.slice a 0 cap))(h0:J W) :
  CallsIn Fence.wide n Tryz.prog 157 #[.func (.yield l) #[] #[],.pointer (some ⟨b,0,none⟩)] W λe B=>(∃v,e=.returned v)/\B=W:=by
 refine C1 Tryz.func157 rfl trivial ?_ rfl;simp only[Tryz.ntmps157,bE,aW,bC,Nat.reduceAdd,Nat.reduceSub,bj,bh,bx,bq,aa,bI]
 gi_wp2
 gi_loopw [3] (λi wr=>i=.int .i64 (-1)/\wr=W) (λ_ _=>0)
 case atStart=>exact⟨rfl,rfl⟩
 case round=>
  obtain⟨rfl,rfl⟩:=hrel
  gi_wp2
  go_end0;exact⟨⟨_,rfl⟩,rfl⟩
theorem yLd(l:Option Nat)(n:Nat)(a:Option Addr)(b cap:Nat)(w:World) :
  CallsIn Fence.wide n Tryz.prog 117 #[.slice a b cap] w λe c=>e=.returned (.func (.func 157) #[] #[.pointer (some ⟨w.heap.size,0,none⟩)])/\c=w.alloc (.cells #[.slice a b cap] 63):=by
 refine C1 Tryz.func117 rfl trivial ?_ rfl;simp only[Tryz.ntmps117,bE,aW,bC,Nat.reduceAdd,Nat.reduceSub,bj,bh,bx,bq,aa,bI]
 gi_wp2
 go_ret;exact⟨rfl,rfl⟩
theorem yAe(n:Nat)(r:Nat)(v:Value)(us:List (gB))(o:us.length<=1000000)(w:World)(E:w.cell? ⟨r,0,none⟩=some v)(A:gD w w.heap.size 3 Fe v us) :
  Iter n Tryz.prog 157 #[.pointer (some ⟨r,0,none⟩)] Db (λk=>k=r\/(us≠[]/\v.ownBlock=some k)) (us.zipIdx.reverse) w:=λl X J L W z u _ _ F h0=>by
 have p:=z.cell E id;obtain⟨a,q,rfl,-,-,H⟩:=A.mod z (λ_ _=>id) (λ_ _ e=>e);have G:us=[]\/(us≠[]/\∃b c,a=some ⟨b,c,none⟩/\∀(i:Nat) d,us[i]?=some d->∃cs,Fe d cs/\cs.length=3/\∀(j:Nat) x,cs[j]?=some x->W.cell? ⟨b,c+i*3+j,none⟩=some x):=by
  by_cases f:us=[]
  .exact .inl f
  .exact .inr ⟨f,H.elim (λe=>absurd e f) (λ⟨b,c,K,_,I⟩=>⟨b,c,K,I⟩)⟩
 obtain rfl|⟨f,b,c,rfl,t⟩:=G
 .refine(yOa n l r q a (λ_=>True) W p trivial).mono ?_;rintro e B⟨D,rfl⟩;exact⟨D,Mod.refl _ _,.inl h0⟩
 .refine ySx n l r b c q X us o J L F W (λe=>(u _ e).2 (.inl rfl)) (λe=>(u _ e).2 (.inr ⟨f,rfl⟩)) p (λj C=>?_) h0;obtain⟨cs,rfl,-,h⟩:=t j us[j] (aA C);exact⟨by simpa using h 0 _ rfl,by simpa using h 1 _ rfl,by simpa using h 2 _ rfl⟩
attribute [local go_sem] Oper.semAt_some
def Gt(x:(eH×Value)×Nat):Array Value:=#[.int .i64 (x.2:Int),.agg #[.int .i64 x.1.1.kind,.int .i64 x.1.1.I,.int .i64 x.1.1.time,x.1.2]]
theorem ySy(n:Nat)(l A f b cap:Nat)(X:Nat->Prop)(us:List ((eH×Value)))(D:us.length<=1000000)(J:List ((eH×Value)×Nat)->World->Prop)(M:World->Prop)
  (Y:yTk (n-1) Tryz.prog l Gt X (us.zipIdx.reverse) J M)
  (W:World) (p:¬X A) (k:¬X f) (MX:W.cell? ⟨A,0,none⟩=some (.slice (some ⟨f,b,none⟩) us.length cap)) (U:∀j (hj:j<us.length),W.cell? ⟨f,b+j*4,none⟩=some (.int .i64 us[j].1.kind)/\W.cell? ⟨f,b+j*4+1,none⟩=some (.int .i64 us[j].1.I)/\W.cell? ⟨f,b+j*4+2,none⟩=some (.int .i64 us[j].1.time)/\W.cell? ⟨f,b+j*4+3,none⟩=some (us[j].2)) (h0:J [] W) :
  CallsIn Fence.wide n Tryz.prog 177 #[.func (.yield l) #[] #[],.pointer (some ⟨A,0,none⟩)] W λe B=>(∃v,e=.returned v)/\Mod X W B/\(J (us.zipIdx.reverse) B\/M B):=by
 refine C1 Tryz.func177 rfl trivial ?_ rfl;simp only[Tryz.ntmps177,bE,aW,bC,Nat.reduceAdd,Nat.reduceSub,bj,bh,bx,bq,aa,bI]
 gi_wp2
 gi_loopw [3] (λi wr=>∃q:Nat,q<=us.length/\i=.int .i64 ((q:Int)-1)/\J ((us.zipIdx.drop q).reverse) wr/\Mod X W wr) (λi _=>(intOf i+1).toNat)
 case atStart=>exact⟨us.length,aD _,rfl,by rw[dF (by simp)];exact h0,Mod.refl _ _⟩
 case round=>
  obtain⟨q,hq,rfl,h,c⟩:=hrel
  cases q with
 |zero=>
   gi_wp2
   go_end0;exact⟨⟨_,rfl⟩,c,.inl h⟩
 |succ q=>
   have N:q<us.length:=by omega
   have T:((q+1:Nat):Int)-1=(q:Int):=by omega
   rw[T];have R:(q:Int)<(us.length:Int):=by omega
   have S:(0:Int)<=(q:Int):=by omega
   have Q:decide ((q:Int) ≥ 0)=true:=aQ (by omega);obtain⟨L,K,H,G⟩:=U q N;have z:=c.cell L k;have x:=c.cell K k;have Z:=c.cell H k;have t:=c.cell G k;have V:=c.cell MX p;obtain⟨u,hu⟩:∃u,u=us[q]:=⟨_,rfl⟩;obtain⟨o,d⟩:=yGc us q N;rw[<-hu]at o d;obtain⟨fn,C,assign,body,O,E⟩:=Y _ _ _ wr o h;rw[d]at E;dsimp only[Gt]at O;rw[<-hu]at z x Z t;clear hu o d L K H G
   gi_wp2
   refine⟨λe=>by simp[Fence.wide]at e,E.mono ?_⟩;rintro e W3⟨F,⟨rfl,r⟩|⟨rfl,MU⟩⟩
   .gi_wp2
    go_roundw
    case rel=>exact⟨q,by omega,rfl,r,c.trans F⟩
    case measure=>simp[intOf]
   .gi_wp2
    refine A5 (B4 rfl _ _ _) rfl ?_;exact⟨⟨_,rfl⟩,c.trans F,.inr MU⟩
theorem yOb(n:Nat)(l b cap:Nat)(a:Option Addr)(J:World->Prop)(W:World)(c:W.cell? ⟨b,0,none⟩=some (.slice a 0 cap))(h0:J W) :
  CallsIn Fence.wide n Tryz.prog 177 #[.func (.yield l) #[] #[],.pointer (some ⟨b,0,none⟩)] W λe B=>(∃v,e=.returned v)/\B=W:=by
 refine C1 Tryz.func177 rfl trivial ?_ rfl;simp only[Tryz.ntmps177,bE,aW,bC,Nat.reduceAdd,Nat.reduceSub,bj,bh,bx,bq,aa,bI]
 gi_wp2
 gi_loopw [3] (λi wr=>i=.int .i64 (-1)/\wr=W) (λ_ _=>0)
 case atStart=>exact⟨rfl,rfl⟩
 case round=>
  obtain⟨rfl,rfl⟩:=hrel
  gi_wp2
  go_end0;exact⟨⟨_,rfl⟩,rfl⟩
theorem yXb(l:Option Nat)(n:Nat)(a:Option Addr)(b cap:Nat)(w:World) :
  CallsIn Fence.wide n Tryz.prog 159 #[.slice a b cap] w λe c=>e=.returned (.func (.func 177) #[] #[.pointer (some ⟨w.heap.size,0,none⟩)])/\c=w.alloc (.cells #[.slice a b cap] 62):=by
 refine C1 Tryz.func159 rfl trivial ?_ rfl;simp only[Tryz.ntmps159,bE,aW,bC,Nat.reduceAdd,Nat.reduceSub,bj,bh,bx,bq,aa,bI]
 gi_wp2
 go_ret;exact⟨rfl,rfl⟩
theorem yNz(n:Nat)(r:Nat)(v:Value)(us:List ((eH×Value)))(o:us.length<=1000000)(w:World)(E:w.cell? ⟨r,0,none⟩=some v)(A:gD w w.heap.size 4 Ii v us) :
  Iter n Tryz.prog 177 #[.pointer (some ⟨r,0,none⟩)] Gt (λk=>k=r\/(us≠[]/\v.ownBlock=some k)) (us.zipIdx.reverse) w:=λl X J L W z u _ _ F h0=>by
 have p:=z.cell E id;obtain⟨a,q,rfl,-,-,H⟩:=A.mod z (λ_ _=>id) (λ_ _ e=>e);have G:us=[]\/(us≠[]/\∃b c,a=some ⟨b,c,none⟩/\∀(i:Nat) d,us[i]?=some d->∃cs,Ii d cs/\cs.length=4/\∀(j:Nat) x,cs[j]?=some x->W.cell? ⟨b,c+i*4+j,none⟩=some x):=by
  by_cases f:us=[]
  .exact .inl f
  .exact .inr ⟨f,H.elim (λe=>absurd e f) (λ⟨b,c,K,_,I⟩=>⟨b,c,K,I⟩)⟩
 obtain rfl|⟨f,b,c,rfl,t⟩:=G
 .refine(yOb n l r q a (λ_=>True) W p trivial).mono ?_;rintro e B⟨D,rfl⟩;exact⟨D,Mod.refl _ _,.inl h0⟩
 .refine ySy n l r b c q X us o J L F W (λe=>(u _ e).2 (.inl rfl)) (λe=>(u _ e).2 (.inr ⟨f,rfl⟩)) p (λj C=>?_) h0;obtain⟨cs,rfl,-,h⟩:=t j us[j] (aA C);exact⟨by simpa using h 0 _ rfl,by simpa using h 1 _ rfl,by simpa using h 2 _ rfl,by simpa using h 3 _ rfl⟩
end Go.Proofs.YtmaiggbnceejiaaGreatDoor
namespace Go.Proofs.YtmaiggbnceejiaaGreatDoor
open Go.RowKit Go.Lib Go.Maps Go.Shelf
variable {w:World}{N L sz:Nat}{v:Value}{cs:List eH}{us:List Value}{α:Type}{key:ByteArray}
attribute [local go_sem] Oper.semAt_some
theorem ZZ{m i l':Nat}{P:Program}{l:Nat}{f:FuncId}{b:Array Value}{a g:Code}{R:Ending->World->Prop}(h:RoundIn Fence.wide m P l f b a g w R):RoundIn (Fence.wide.inRound l') i P l f b a g w R:=
 ⟨h.1,λc cs _=>h.2 c cs (λd e=>nomatch e)⟩
theorem BG.mono{β:Type}{N':Nat}{J:β->World->Prop}(h:BG N J)(hN:N<=N'):BG N' J:=λs A B b a c=>h s A B (b.mono (λi _ d=>aO hN d)) (aO hN a) c
def te(w:World)(N:Nat)(v:Value)(cs:List eH)(us:List Value):Prop:=
 us.length=cs.length/\gD w N 4 Ii v (cs.zip us)/\∀(i:Nat) c u,cs[i]?=some c->us[i]?=some u->gD w N 3 Fe u c.writes
theorem te.mod{w':World}{G:Nat->Prop}(h:te w N v cs us)(a:Mod G w w')(b:∀k,k<N->¬G k):te w' N v cs us:=
 ⟨h.1,h.2.1.mod a b (λ_ _ e=>e),λi c u f d=>(h.2.2 i c u f d).mod a b (λ_ _ e=>e)⟩
theorem gD.wide{R:α->List Value->Prop}{e:List α}(h:gD w L sz R v e)(m:L<=w.heap.size):gD w w.heap.size sz R v e:=by
 obtain⟨a,d,j,i,g,f⟩:=h;exact⟨a,d,j,i,g,f.imp id (λ⟨b,c,l,n,k⟩=>⟨b,c,l,by omega,k⟩)⟩
theorem gD.Z{R:α->List Value->Prop}{e:List α}(h:gD w L sz R v e)(c:e≠[]){k:Nat}(g:v.ownBlock=some k):k<L:=by
 obtain⟨a,j,rfl,m,l,d⟩:=h;obtain d|⟨b,f,rfl,i,_⟩:=d
 .exact absurd d c
 .cases g;exact i
theorem te.cmds(h:te w N v cs us)(f:N<=w.heap.size):vQ w v cs:=
 ⟨us,⟨h.1,λu d=>by
  obtain⟨i,c⟩:=aP d;have b:i<cs.length:=by have:=(aB.1 c).1;have:=h.1;omega
  obtain⟨a,g,e,_⟩:=h.2.2 i _ u (aA b) c;exact⟨_,_,_,e⟩⟩,h.2.1.wide f⟩
def oT(a:List eH)(c:eH):List gB:=if c.kind=3 then((a.getD ((mC a 2 c.I).getD 0) tC).writes).reverse else []
theorem yUw(a:List eH):qj a=a.reverse.flatMap (oT a):=by
 unfold qj;generalize a.reverse=l
 induction l with
|nil=>rfl
|cons c l b=>
  by_cases h:c.kind=3
  .rw[List.filter_cons_of_pos (by simpa using h),bN,bN,b];simp[oT,h]
  .rw[List.filter_cons_of_neg (by simpa using h),bN,b];simp[oT,h]
theorem yJk(cs:List eH)(us:List Value)(h:us.length=cs.length):((cs.zip us).zipIdx.reverse).flatMap (λ(x:(eH×Value)×Nat)=>oT cs x.1.1)=qj cs:=by
 rw[yUw];have e:((cs.zip us).zipIdx.reverse).map (λ(x:(eH×Value)×Nat)=>x.1.1)=cs.reverse:=by
  rw[dI];congr 1;have:(cs.zip us).zipIdx.map (λ(x:(eH×Value)×Nat)=>x.1.1)=((cs.zip us).zipIdx.map Prod.fst).map Prod.fst:=by rw[dW];rfl
  rw[this,dM,List.map_fst_zip (by omega)]
 rw[<-e,List.flatMap_map]
def xP(p:gB):Array Value:=#[.agg #[.string p.key,.string p.val,.bool p.gone]]
theorem zXc(n:Nat)(hn:10<=n)(Bs N:Nat)(v:Value)(cs:List eH)(us:List Value)(hlen:cs.length<=1000)(hpl:∀c∈cs,c.kind=3->∃i d,mC cs 2 c.I=some i/\cs[i]?=some d/\d.writes.length<=1000)(w:World)(hc:w.cell? ⟨Bs,0,none⟩=some v)(hv:te w N v cs us)(hN:N<=w.heap.size) :
  Iter n Tryz.prog 158 #[.pointer (some ⟨Bs,0,none⟩)] xP (λk=>k<N\/k=Bs) (qj cs) w:=λl X J Jx W hW Q hJ Jg hY h0=>by
 have n1:1<=n:=by omega
 have n2:1<=n-1-1:=by omega
 have n3:1<=n-1-1-1-1:=by omega
 have hc':=hW.cell hc id;have M:=hv.mod hW (λ_ _=>id);have hN':N<=W.heap.size:=aO hN hW.size;obtain⟨va,vc,lL,_,_⟩:=M.2.1.slice;have DC:(cs.zip us).length=cs.length:=by rw[cJ,hv.1];omega
 rw[DC]at lL;subst lL;obtain⟨w1,hw1⟩:∃z,z=W.alloc (.cells #[.func (.yield l) #[] #[]] 178):=⟨_,rfl⟩;have dy:Mod dt W w1:=by rw[hw1];exact(Mod.refl _ W).alloc _
 have K:w1.heap.size=W.heap.size+1:=by rw[hw1,A4]
 have hb1:dx w1 W.heap.size [.func (.yield l) #[] #[]] 178:=by rw[hw1];exact dx.new W _ _
 have c1:(W.alloc (.cells #[.func (.yield l) #[] #[]] 178)).cell? ⟨Bs,0,none⟩=some (.slice va cs.length vc):=by rw[<-hw1];exact dy.cell hc' id
 refine callsIn_of_wp_marks Tryz.func158 rfl trivial ?_ rfl;simp only[Tryz.ntmps158,bE,aW,bC,Nat.reduceAdd,Nat.reduceSub,bj,bh,bx,bq,aa,bI];gi_wp2_with (refine⟨trivial,?_⟩;gi_at_call 159;refine(yXb none (n-1) _ _ _ _).mono ?_;rintro e w'⟨rfl,rfl⟩);rw[<-hw1]at c1⊢;obtain⟨w2,hw2⟩:∃z,z=w1.alloc (.cells #[.slice va cs.length vc] 62):=⟨_,rfl⟩;have AY:Mod dt w1 w2:=by rw[hw2];exact(Mod.refl _ w1).alloc _
 have f:Mod dt W w2:=dy.trans AY;have hz2:w2.heap.size=W.heap.size+2:=by rw[hw2,A4,K]
 have hb2:dx w2 (W.heap.size+1) [.slice va cs.length vc] 62:=by rw[<-K,hw2];exact dx.new w1 _ _
 have YM:=(hb1.mod AY id).cell 0 rfl;have c2:=AY.cell c1 id;rw[<-hw2];have b:=M.mod f (λ_ _=>id);have Aj:∀k,X k->k<w2.heap.size/\¬(k=W.heap.size+1\/(cs.zip us≠[]/\(Value.slice va cs.length vc).ownBlock=some k)):=λk E=>by
  have:=Q k E;refine⟨by omega,λe=>?_⟩;obtain e|⟨V,U⟩:=e
  .omega
  .exact this.2 (.inl (b.2.1.Z V U))
 have hz2a:w2.heap.size<=W.heap.size+2:=by omega
 have hz2b:W.heap.size+2<=w2.heap.size:=by omega
 clear hw1 hw2 K hz2;have hU:∀{N0:Nat} {w0:World},w0.heap.size<=N0->BG N0 (λ(_:Unit) C=>Mod X w0 C):=λhz _ A B y _ g=>g.since y hz;refine Vu (gf:=177) (lb:=#[.pointer (some ⟨W.heap.size+1,0,none⟩)]) rfl (enters_of Tryz.func177 (by kernel_rfl) rfl)
  (yNz (n-1) (W.heap.size+1) (.slice va cs.length vc) (cs.zip us) (by omega) w2 (hb2.cell 0 rfl) (b.2.1.wide (by omega))) (λ_=>rfl) X Aj
  (λk e=>by
   obtain e|⟨V,U⟩:=e
   .omega
   .have:=b.2.1.Z V U;omega)
  (λpre C=>J (pre.flatMap λ(x:(eH×Value)×Nat)=>oT cs x.1.1) C/\Mod X w2 C) (λc C=>c=.ret/\Jx C)
  (λs A B y P g=>⟨(hJ.mono (by omega)) _ A B y P g.1,g.2.since y (aD _)⟩) (λs A B y P g=>⟨g.1,(Jg.mono (by omega)) () A B y P g.2⟩)
  ⟨(hJ.mono (N':=W.heap.size) (aD _)) [] W w2 (f.mono (λ_ _ e=>e.elim)) (aD _) h0,Mod.refl _ _⟩ ?round ?done ?stop
 case round=>
  rintro pre x rest Wr hx⟨hJr,sV⟩ hsz;obtain⟨⟨cm,u⟩,j⟩:=x;obtain⟨i,hi1,hi2⟩:∃i:Nat,cs[i]?=some cm/\us[i]?=some u:=by
   have H:((cm,u),j)∈(cs.zip us).zipIdx.reverse:=by rw[hx];simp
   rw[List.mem_reverse]at H;have:=List.fst_mem_of_mem_zipIdx H;obtain⟨i,hi⟩:=aP this;exact⟨i,Wy hi⟩
  obtain⟨ua,uc,hu,-,-⟩:=(b.2.2 i cm u hi1 hi2).slice;subst hu;obtain⟨a,tx,m,ws⟩:=cm;have hcm:=aC hi1;have HX:Hid (∃o,qj cs=pre.flatMap (λ(x:(eH×Value)×Nat)=>oT cs x.1.1)++(oT cs ⟨a,tx,m,ws⟩++o)):=by
   refine⟨rest.flatMap (λ(x:(eH×Value)×Nat)=>oT cs x.1.1),?_⟩;rw[<-yJk cs us hv.1,hx,dN,bN]
  clear hx hi1 hi2;dsimp only[Gt]
  gi_wp2
  refine⟨(Mod.refl _ Wr).alloc _,?_⟩;rintro F hmb⟨r,hr⟩ ⟨T,h⟩;have Cx:Wr.heap.size≠w2.heap.size+1:=by omega
  obtain⟨Bx,Xm⟩:∃z,z=Wr.heap.size:=⟨_,rfl⟩;have hbx:dx F Bx [.int .i64 a,.int .i64 tx,.int .i64 m,.slice ua ws.length uc] 65:=by rw[Xm];exact(dx.new Wr _ _).mod hmb Cx
  rw[<-Xm];replace Cx:Bx≠w2.heap.size+1:=by rw[Xm];exact Cx
  have hBx1:w2.heap.size+1<Bx:=by omega
  clear Xm hmb;have x0:=hbx.cell 0 rfl;have x1:=hbx.cell 1 rfl;by_cases E:a=3
  .subst E;obtain⟨i,d,hp,hd,rR⟩:=hpl _ hcm rfl;have hXB:¬X Bs:=λe=>(Q _ e).2 (.inr rfl);have hXN:∀k,k<N->¬X k:=λk E e=>(Q _ e).2 (.inl E);have cb:=h.cell c2 hXB;have q:=b.mod h hXN;have hNb:N<=F.heap.size:=by have:=h.size;omega
   have hil:i<cs.length:=(aB.1 hd).1;obtain⟨u2,hu2⟩:∃z,us[i]?=some z:=⟨_,aA (by rw[hv.1];exact hil)⟩;have PG:(cs.zip us)[i]?=some (d,u2):=by rw[List.getElem?_zip_eq_some];exact⟨hd,hu2⟩
   obtain⟨lb,lo,ls,JR,hlb,hls,-,hcl⟩:=q.2.1.at PG;obtain⟨da,dc,hud,-,-⟩:=(q.2.2 i d u2 hd hu2).slice;subst hud JR;unfold Ii at hls;subst hls;have cu:=hcl 3 _ rfl;have TT:jE (mC cs 2 tx)=(i:Int):=by rw[hp];rfl
   have mn:Hid (∀wx,Mod dt F wx->CallsIn (Fence.wide.inRound (w2.heap.size+1)) (n-1-1-1) Tryz.prog 80 #[.slice (some ⟨lb,lo,none⟩) cs.length vc,.int .i64 2,.int .i64 tx] wx λe w'=>e=.returned (.int .i64 (i:Int))/\Mod dt wx w'):=λwx hmx=>
    CallsIn.inRound (w2.heap.size+1) (callsIn_wide.2 (by have:=ZN _ cs 2 tx wx ((q.mod hmx (λ_ _=>id)).cmds (aO hNb hmx.size)) hlen;rw[TT]at this;exact this))
   have HO:Hid (oT cs ⟨3,tx,m,ws⟩=d.writes.reverse):=by
    unfold Hid oT;rw[aK rfl];simp only[hp,dS];rw[aI,hd];rfl
   clear TT hp;have zP:(i:Int)<(cs.length:Int):=by omega
   have hi0:(0:Int)<=(i:Int):=by omega
   have HV:=dk (q.2.2 i d _ hd hu2);have byb:=h.cell YM (λe=>absurd (Q _ e).1 (cZ _))
   gi_wp2
   gi_cut [22]from 29 (λt wc=>∃Bp,t=.func (.func 157) #[] #[.pointer (some ⟨Bp,0,none⟩)]/\Mod dt F wc/\wc.cell? ⟨Bp,0,none⟩=some (.slice da d.writes.length dc)/\F.heap.size<=Bp)
   case first=>
    have HM:=dk h;clear hd hu2 PG hcl q b M hv T h hJr sV hU Aj Q hY
    gi_region_with (first
    |(refine⟨trivial,?_⟩;gi_at_call 80;refine(mn.out _ ((Mod.refl dt F).drew)).mono ?_;rintro e w'⟨rfl,D⟩;have cb':=D.cell cb id;have cu':=D.cell cu id)
    |(refine⟨trivial,?_⟩;gi_at_call 117;refine(CallsIn.inRound (w2.heap.size+1) (yLd none _ _ _ _ _)).mono ?_;rintro e w''⟨rfl,rfl⟩))
    all_goals
     gi_wp2
     gi_meet
     case rel=>exact⟨_,rfl,(((Mod.refl dt F).drew).trans D).alloc _,by simp,D.size⟩
   case rest=>
    obtain⟨Bp,rfl,G,cp,hBp⟩:=hcut
    gi_wp2
    have R:=HV.out.mod G (λ_ _=>id) (λ_ _ e=>e);have MQ:Mod X w2 wc:=h.trans' G (λ_ _ e=>e.elim);have zc:=G.size;have hrc:wc.heap[w2.heap.size+1]?=some (.loop r):=(G.block _ (aF.1 hr).1 id).trans hr;have hJc:J (pre.flatMap λ(x:(eH×Value)×Nat)=>oT cs x.1.1) wc:=hJ _ F wc (G.mono (λ_ _ e=>e.elim)) (by have:=h.size;omega) T;have byc:=G.cell byb id;obtain⟨o,Cm⟩:=HX.out;rw[HO.out]at Cm;have hBl:=AC wc _ cp;dsimp only at hBl;have hXd:∀k,X k->k<wc.heap.size/\¬(k=Bp\/(d.writes≠[]/\(Value.slice da d.writes.length dc).ownBlock=some k)):=λk E=>by
     have h1:=Q k E;have h2:=h.size;refine⟨by omega,λe=>?_⟩;obtain e|⟨V,U⟩:=e
     .omega
     .exact h1.2 (.inl (R.Z V U))
    refine yUp (l₀:=w2.heap.size+1) (r₀:=r) hrc (gf:=157) (lb:=#[.pointer (some ⟨Bp,0,none⟩)]) rfl (enters_of Tryz.func157 (by kernel_rfl) rfl)
     (yAe (n-1-1-1) Bp (.slice da d.writes.length dc) d.writes (by omega) wc cp (R.wide (by omega))) (λ_=>rfl) X hXd
     (λk e=>by
      obtain e|⟨V,U⟩:=e
      .omega
      .have:=R.Z V U;omega)
     (λFt C=>J ((pre.flatMap λ(x:(eH×Value)×Nat)=>oT cs x.1.1)++Ft.map Prod.fst) C/\Mod X wc C) (λc C=>c=.ret/\Jx C)
     (λs A B y P g=>⟨(hJ.mono (by have:=h.size;omega)) _ A B y P g.1,g.2.since y (aD _)⟩) (λs A B y P g=>⟨g.1,(Jg.mono (by have:=h.size;omega)) () A B y P g.2⟩)
     ⟨by simpa using hJc,Mod.refl _ _⟩ ?round2 ?done2 ?stop2
    case round2=>
     rintro Ft⟨p,j2⟩ Iz Wq hx2 ⟨hJq,hMq⟩ SW;have uj:qj cs=((pre.flatMap λ(x:(eH×Value)×Nat)=>oT cs x.1.1)++Ft.map Prod.fst)++p::(Iz.map Prod.fst++o):=by
      have e:d.writes.reverse=Ft.map Prod.fst++p::Iz.map Prod.fst:=by
       have:=an (List.map Prod.fst) hx2;rw[dI,dM]at this;rw[this];simp
      rw[Cm,e];simp
     obtain⟨key,val,gone⟩:=p;dsimp only[Db]
     gi_wp2
     refine⟨(Mod.refl _ Wq).alloc _,?_⟩;rintro We hme⟨r2,hr2⟩ ⟨UD,Jc⟩;obtain⟨fn,tmps,assign,body,hy,hR⟩:=hY _ _ _ We uj UD;dsimp only[xP]at hy;have tX:dx We Wq.heap.size [.string key,.string val,.bool gone] 68:=(dx.new Wq _ _).mod hme (by simp only[eQ];omega);obtain⟨Bq,Bj⟩:∃z,z=Wq.heap.size:=⟨_,rfl⟩;rw[<-Bj]at tX⊢;have p0:=tX.cell 0 rfl;have p1:=tX.cell 1 rfl;have p2:=tX.cell 2 rfl;have bye:=Jc.cell byc (λe=>absurd (Q _ e).1 (cZ _));clear uj hx2 hme Bj Cm
     gi_wp2
     refine(ZZ hR).mono ?_;rintro e W5⟨fA,⟨rfl,xJ⟩|⟨rfl,xJ⟩⟩
     .gi_wp2
      refine⟨fA,?_,Jc.trans fA⟩;rw[ay,<-aV];exact xJ
     .gi_wp2
      exact⟨fA,rfl,xJ⟩
    case done2=>
     rintro W4 gw⟨Xi,-⟩
     gi_wp2
     have fA:Mod X F W4:=(G.mono (λ_ _ e=>e.elim)).trans gw;refine⟨fA,?_,h.trans fA⟩;rw[dN,List.flatMap_singleton];dsimp only;rw[HO.out];rw[dI,dM]at Xi;exact Xi
    case stop2=>
     rintro c W4 gw⟨rfl,Xi⟩
     gi_wp2
     exact⟨(G.mono (λ_ _ e=>e.elim)).trans gw,rfl,Xi⟩
  .have hkb:(a==3)=false:=by simpa using E
   gi_wp2
   refine⟨Mod.refl _ _,?_,h⟩;rw[dN];simpa[oT,E]using T
 case done=>
  rintro Y eK S⟨PW,-⟩
  gi_wp2
  refine⟨by simp,.inl ⟨_,_,rfl,run_takeDeferred S,?_⟩⟩;have rr:Mod (jw W.heap.size) Y (Y.putObj w2.heap.size (.deferred none)):=(Mod.refl _ _).putObj (λ_=>by simp only[jw];omega) _;have O:W.heap.size<=Y.heap.size:=aO f.size eK.size;rw[yJk cs us hv.1]at PW;exact⟨_,B4 rfl _ _ _,⟨_,rfl⟩,((f.mono (λ_ _ e=>e.elim)).trans eK).since rr (aD _),.inl (hJ _ _ _ rr O PW)⟩
 case stop=>
  rintro c Y eK S⟨rfl,PW⟩
  gi_wp2
  refine⟨by simp,.inl ⟨_,_,rfl,run_takeDeferred S,?_⟩⟩;have rr:Mod (jw W.heap.size) Y (Y.putObj w2.heap.size (.deferred none)):=(Mod.refl _ _).putObj (λ_=>by simp only[jw];omega) _;have O:W.heap.size<=Y.heap.size:=aO f.size eK.size;exact⟨_,B4 rfl _ _ _,⟨_,rfl⟩,((f.mono (λ_ _ e=>e.elim)).trans eK).since rr (aD _),.inr (Jg () _ _ rr O PW)⟩
attribute [local go_sem] Oper.semAt_some
theorem yGb(n:Nat)(a:Option Addr)(b cap:Nat)(w:World) :
  CallsIn Fence.wide n Tryz.prog 118 #[.slice a b cap] w λe c=>e=.returned (.func (.func 158) #[] #[.pointer (some ⟨w.heap.size,0,none⟩)])/\c=w.alloc (.cells #[.slice a b cap] 62):=by
 refine C1 Tryz.func118 rfl trivial ?_ rfl;simp only[Tryz.ntmps118,bE,aW,bC,Nat.reduceAdd,Nat.reduceSub,bj,bh,bx,bq,aa,bI]
 gi_wp2
 go_ret;exact⟨rfl,rfl⟩
theorem yXv(n:Nat)(b:Nat)(a:Option Addr)(c cap:Nat)(w:World) :
  CallsIn Fence.wide n Tryz.prog 71 #[.pointer (some ⟨b,0,none⟩),.slice a c cap] w λe d=>e=.returned (.func (.func 116) #[] #[.pointer (some ⟨w.heap.size,0,none⟩),.pointer (some ⟨w.heap.size+1,0,none⟩)])/\d=(w.alloc (.cells #[.pointer (some ⟨b,0,none⟩)] 87)).alloc (.cells #[.slice a c cap] 62):=by
 refine C1 Tryz.func71 rfl trivial ?_ rfl;simp only[Tryz.ntmps71,bE,aW,bC,Nat.reduceAdd,Nat.reduceSub,bj,bh,bx,bq,aa,bI]
 gi_wp2
 go_ret;exact⟨rfl,rfl⟩
theorem yMf(n:Nat)(hn:20<=n)(Bt Bs N b:Nat)(v tv:Value)(ws:List gB)(cs:List eH)(us:List Value)(ql:ws.length<=1000)(V:cs.length<=1000)(hpl:∀c∈cs,c.kind=3->∃i d,mC cs 2 c.I=some i/\cs[i]?=some d/\d.writes.length<=1000)(w:World)
  (ht:w.cell? ⟨Bt,0,none⟩=some (.pointer (some ⟨b,0,none⟩))) (hb:w.cell? ⟨b,2,none⟩=some tv) (hbN:b<N) (pj:gD w N 3 Fe tv ws) (hc:w.cell? ⟨Bs,0,none⟩=some v) (hv:te w N v cs us) (hN:N<=w.heap.size) :
  Iter n Tryz.prog 116 #[.pointer (some ⟨Bt,0,none⟩),.pointer (some ⟨Bs,0,none⟩)] xP (λk=>k<N\/k=Bs\/k=Bt) (ws.reverse++qj cs) w:=λl X J Jx W O u hJ Jg hY h0=>by
 have n1:1<=n:=by omega
 have n2:1<=n-1-1:=by omega
 have n3:1<=n-1-1-1-1:=by omega
 have hc':=O.cell hc id;have ht':=O.cell ht id;have hb':=O.cell hb id;have Ch:=pj.mod O (λ_ _=>id) (λ_ _ e=>e);have U:=hv.mod O (λ_ _=>id);have hN':N<=W.heap.size:=aO hN O.size;have DC:(cs.zip us).length=cs.length:=by rw[cJ,hv.1];omega
 obtain⟨va,vc,lL,-,-⟩:=U.2.1.slice;rw[DC]at lL;obtain⟨ta,S,Ek,-,-⟩:=Ch.slice;subst lL Ek;clear DC;obtain⟨w1,hw1⟩:∃z,z=W.alloc (.cells #[.func (.yield l) #[] #[]] 178):=⟨_,rfl⟩;have dy:Mod dt W w1:=by rw[hw1];exact(Mod.refl _ W).alloc _
 have H:w1.heap.size=W.heap.size+1:=by rw[hw1,A4]
 have hb1:dx w1 W.heap.size [.func (.yield l) #[] #[]] 178:=by rw[hw1];exact dx.new W _ _
 have c1:(W.alloc (.cells #[.func (.yield l) #[] #[]] 178)).cell? ⟨Bt,0,none⟩=some (.pointer (some ⟨b,0,none⟩)):=by rw[<-hw1];exact dy.cell ht' id
 have c2:(W.alloc (.cells #[.func (.yield l) #[] #[]] 178)).cell? ⟨b,2,none⟩=some (.slice ta ws.length S):=by rw[<-hw1];exact dy.cell hb' id
 have c2z:=AC _ _ c2;refine callsIn_of_wp_marks Tryz.func116 rfl trivial ?_ rfl;simp only[Tryz.ntmps116,bE,aW,bC,Nat.reduceAdd,Nat.reduceSub,bj,bh,bx,bq,aa,bI];gi_wp2_with (refine⟨trivial,?_⟩;gi_at_call 117;refine(yLd none (n-1) _ _ _ _).mono ?_;rintro e w'⟨rfl,rfl⟩);rw[<-hw1];obtain⟨w2,hw2⟩:∃z,z=w1.alloc (.cells #[.slice ta ws.length S] 63):=⟨_,rfl⟩;have AY:Mod dt w1 w2:=by rw[hw2];exact(Mod.refl _ w1).alloc _
 have a:Mod dt W w2:=dy.trans AY;have hz2:w2.heap.size=W.heap.size+2:=by rw[hw2,A4,H]
 have hb2:dx w2 (W.heap.size+1) [.slice ta ws.length S] 63:=by rw[<-H,hw2];exact dx.new w1 _ _
 have YM:=(hb1.mod AY id).cell 0 rfl;have cs2:=a.cell hc' id;rw[<-hw2];have hv2:=U.mod a (λ_ _=>id);have Lb:=Ch.mod a (λ_ _=>id) (λ_ _ e=>e);have hXN:∀k,k<N->¬X k:=λk Y e=>(u _ e).2 (.inl Y);have hXB:¬X Bs:=λe=>(u _ e).2 (.inr (.inl rfl));have Aj:∀k,X k->k<w2.heap.size/\¬(k=W.heap.size+1\/(ws≠[]/\(Value.slice ta ws.length S).ownBlock=some k)):=λk Y=>by
  have:=u k Y;refine⟨by omega,λe=>?_⟩;obtain e|⟨e1,e2⟩:=e
  .omega
  .exact this.2 (.inl (Lb.Z e1 e2))
 have hz2a:w2.heap.size<=W.heap.size+2:=by omega
 have hz2b:W.heap.size+2<=w2.heap.size:=by omega
 clear hw1 hw2 H hz2 c1 c2 c2z;refine Vu (gf:=157) (lb:=#[.pointer (some ⟨W.heap.size+1,0,none⟩)]) rfl (enters_of Tryz.func157 (by kernel_rfl) rfl)
  (yAe (n-1) (W.heap.size+1) (.slice ta ws.length S) ws (by omega) w2 (hb2.cell 0 rfl) (Lb.wide (by omega))) (λ_=>rfl) X Aj
  (λk e=>by
   obtain e|⟨e1,e2⟩:=e
   .omega
   .have:=Lb.Z e1 e2;omega)
  (λpre E=>J (pre.map Prod.fst) E/\Mod X w2 E) (λc E=>c=.ret/\Jx E)
  (λs A B t M o=>⟨(hJ.mono (by omega)) _ A B t M o.1,o.2.since t (aD _)⟩) (λs A B t M o=>⟨o.1,(Jg.mono (by omega)) () A B t M o.2⟩)
  ⟨(hJ.mono (N':=W.heap.size) (aD _)) [] W w2 (a.mono (λ_ _ e=>e.elim)) (aD _) h0,Mod.refl _ _⟩ ?round ?done ?stop
 case round=>
  rintro pre⟨p,j⟩ rest D T ⟨hJq,hMq⟩ hsz;have Q:ws.reverse++qj cs=pre.map Prod.fst++p::(rest.map Prod.fst++qj cs):=by
   have e:ws.reverse=pre.map Prod.fst++p::rest.map Prod.fst:=by
    have:=an (List.map Prod.fst) T;rw[dI,dM]at this;rw[this];simp
   rw[e];simp
  obtain⟨key,G,gone⟩:=p;dsimp only[Db]
  gi_wp2
  refine⟨(Mod.refl _ D).alloc _,?_⟩;rintro We m⟨r2,hr2⟩ ⟨UD,Jc⟩;obtain⟨fn,R,C,body,hy,hR⟩:=hY _ _ _ We Q UD;dsimp only[xP]at hy;have r:dx We D.heap.size [.string key,.string G,.bool gone] 68:=(dx.new D _ _).mod m (by simp only[eQ];omega);obtain⟨Bq,Bj⟩:∃z,z=D.heap.size:=⟨_,rfl⟩;rw[<-Bj]at r⊢;have p0:=r.cell 0 rfl;have p1:=r.cell 1 rfl;have p2:=r.cell 2 rfl;have bye:=Jc.cell YM (λe=>absurd (u _ e).1 (cZ _));clear Q T m Bj
  gi_wp2
  refine(ZZ hR).mono ?_;rintro e q⟨g,⟨rfl,h⟩|⟨rfl,h⟩⟩
  .gi_wp2
   refine⟨g,?_,Jc.trans g⟩;rw[ay];exact h
  .gi_wp2
   exact⟨g,rfl,h⟩
 case done=>
  rintro f y x⟨hJ3,-⟩;rw[dI,dM]at hJ3;have cs3:=y.cell cs2 hXB;have hv3:=hv2.mod y hXN;have by3:=y.cell YM (λe=>absurd (u _ e).1 (cZ _));have z3:=y.size;gi_wp2_with (refine⟨trivial,?_⟩;gi_at_call 118;refine(yGb (n-1) _ _ _ _).mono ?_;rintro e w'⟨rfl,rfl⟩);obtain⟨w4,hw4⟩:∃z,z=f.alloc (.cells #[.slice va cs.length vc] 62):=⟨_,rfl⟩;have P:Mod dt f w4:=by rw[hw4];exact(Mod.refl _ f).alloc _
  have z4:w4.heap.size=f.heap.size+1:=by rw[hw4,A4]
  have hb4:dx w4 f.heap.size [.slice va cs.length vc] 62:=by rw[hw4];exact dx.new f _ _
  rw[<-hw4];have by4:=P.cell by3 id;have z4a:f.heap.size+1<=w4.heap.size:=by omega
  have z4b:w4.heap.size<=f.heap.size+1:=by omega
  have hK4:w4.heap[w2.heap.size]?=some (.deferred (some [])):=(P.block _ (aF.1 x).1 id).trans x;clear hw4 z4;have hv4:=hv3.mod P (λ_ _=>id);have hX4:∀k,X k->k<w4.heap.size/\¬(k<N\/k=f.heap.size):=λk Y=>by
   have:=u k Y;exact⟨by omega,λe=>e.elim (λe=>this.2 (.inl e)) (λe=>by omega)⟩
  refine Vu (gf:=158) (lb:=#[.pointer (some ⟨f.heap.size,0,none⟩)]) rfl (enters_of Tryz.func158 (by kernel_rfl) rfl)
   (zXc (n-1) (by omega) f.heap.size N (.slice va cs.length vc) cs us V hpl w4 (hb4.cell 0 rfl) hv4 (by omega)) (λ_=>rfl) X hX4
   (λk e=>by omega)
   (λpre E=>J (ws.reverse++pre) E/\Mod X w4 E) (λc E=>c=.ret/\Jx E)
   (λs A B t M o=>⟨(hJ.mono (by omega)) _ A B t M o.1,o.2.since t (aD _)⟩) (λs A B t M o=>⟨o.1,(Jg.mono (by omega)) () A B t M o.2⟩)
   ⟨by rw[cY];exact hJ _ f w4 (P.mono (λ_ _ e=>e.elim)) (by omega) hJ3,Mod.refl _ _⟩ ?round2 ?done2 ?stop2
  case round2=>
   rintro pre p rest D T⟨hJq,hMq⟩ hsz;have Q:ws.reverse++qj cs=(ws.reverse++pre)++p::rest:=by rw[T];simp
   obtain⟨key,G,gone⟩:=p;dsimp only[xP]
   gi_wp2
   refine⟨(Mod.refl _ D).alloc _,?_⟩;rintro We m⟨r2,hr2⟩ ⟨UD,Jc⟩;obtain⟨fn,R,C,body,hy,hR⟩:=hY _ _ _ We Q UD;dsimp only[xP]at hy;have r:dx We D.heap.size [.string key,.string G,.bool gone] 68:=(dx.new D _ _).mod m (by simp only[eQ];omega);obtain⟨Bq,Bj⟩:∃z,z=D.heap.size:=⟨_,rfl⟩;rw[<-Bj]at r⊢;have p0:=r.cell 0 rfl;have p1:=r.cell 1 rfl;have p2:=r.cell 2 rfl;have bye:=Jc.cell by4 (λe=>absurd (u _ e).1 (cZ _));clear Q T m Bj
   gi_wp2
   refine(ZZ hR).mono ?_;rintro e q⟨g,⟨rfl,h⟩|⟨rfl,h⟩⟩
   .gi_wp2
    refine⟨g,?_,Jc.trans g⟩;rw[<-aV];exact h
   .gi_wp2
    exact⟨g,rfl,h⟩
  case done2=>
   rintro q g qX⟨h,-⟩
   gi_wp2
   have Jf:(q.putObj w4.heap.size (.deferred none)).heap[w2.heap.size]?=some (.deferred (some [])):=by
    rw[World.putObj_heap_other (by omega),g.block _ (by omega) (λe=>by have:=(u _ e).1;omega)];exact hK4
   refine⟨by simp,.inl ⟨_,_,rfl,run_takeDeferred qX,⟨by simp,.inl ⟨_,_,rfl,run_takeDeferred Jf,?_⟩⟩⟩⟩;have F:Mod (jw W.heap.size) q ((q.putObj w4.heap.size (.deferred none)).putObj w2.heap.size (.deferred none)):=((Mod.refl _ _).putObj (λ_=>by simp only[jw];omega) _).putObj (λ_=>by simp only[jw];omega) _;have K:W.heap.size<=q.heap.size:=by have:=g.size;omega
   exact⟨_,B4 rfl _ _ _,⟨_,rfl⟩,((((a.mono (λ_ _ e=>e.elim)).trans y).trans (P.mono (λ_ _ e=>e.elim))).trans g).since F (aD _),.inl (hJ _ _ _ F K h)⟩
  case stop2=>
   rintro c q g qX⟨rfl,h⟩
   gi_wp2
   have Jf:(q.putObj w4.heap.size (.deferred none)).heap[w2.heap.size]?=some (.deferred (some [])):=by
    rw[World.putObj_heap_other (by omega),g.block _ (by omega) (λe=>by have:=(u _ e).1;omega)];exact hK4
   refine⟨by simp,.inl ⟨_,_,rfl,run_takeDeferred qX,⟨by simp,.inl ⟨_,_,rfl,run_takeDeferred Jf,?_⟩⟩⟩⟩;have F:Mod (jw W.heap.size) q ((q.putObj w4.heap.size (.deferred none)).putObj w2.heap.size (.deferred none)):=((Mod.refl _ _).putObj (λ_=>by simp only[jw];omega) _).putObj (λ_=>by simp only[jw];omega) _;have K:W.heap.size<=q.heap.size:=by have:=g.size;omega
   exact⟨_,B4 rfl _ _ _,⟨_,rfl⟩,((((a.mono (λ_ _ e=>e.elim)).trans y).trans (P.mono (λ_ _ e=>e.elim))).trans g).since F (aD _),.inr (Jg () _ _ F K h)⟩
 case stop=>
  rintro c f y x⟨rfl,PW⟩
  gi_wp2
  refine⟨by simp,.inl ⟨_,_,rfl,run_takeDeferred x,?_⟩⟩;have F:Mod (jw W.heap.size) f (f.putObj w2.heap.size (.deferred none)):=(Mod.refl _ _).putObj (λ_=>by simp only[jw];omega) _;have hs3:W.heap.size<=f.heap.size:=aO a.size y.size;exact⟨_,B4 rfl _ _ _,⟨_,rfl⟩,((a.mono (λ_ _ e=>e.elim)).trans y).since F (aD _),.inr (Jg () _ _ F hs3 PW)⟩
attribute [local go_sem] Oper.semAt_some
def zy(xs:List gB)(key:ByteArray):ByteArray×Bool:=match xs.find? λp=>decide (p.key=key)with
|none=>(ByteArray.empty,false)
|some p=>if p.gone then(ByteArray.empty,false)else(p.val,true)
theorem yIp{xs:List gB}(h:∀p∈xs,p.key≠key):zy xs key=(ByteArray.empty,false):=by
 unfold zy;rw[dD.2 (λp a=>by simpa using h p a)]
theorem yIo{pre rest:List gB}{p:gB}(h:∀p∈pre,p.key≠key)(a:p.key=key):zy (pre++p::rest) key=if p.gone then(ByteArray.empty,false)else(p.val,true):=by
 unfold zy;rw[List.find?_append,dD.2 (λp a=>by simpa using h p a),List.find?_cons_of_pos (by simpa using a)];rfl
theorem yUh(b:Nat)(v tv:Value)(ws:List gB)(cs:List eH)(us:List Value)(key:ByteArray)(ql:ws.length<=1000)(H:cs.length<=1000)(hpl:∀c∈cs,c.kind=3->∃i d,mC cs 2 c.I=some i/\cs[i]?=some d/\d.writes.length<=1000)(w:World)
  (hb:w.cell? ⟨b,2,none⟩=some tv) (pj:gD w w.heap.size 3 Fe tv ws) (hv:te w w.heap.size v cs us) :
  Calls Tryz.prog 39 #[.pointer (some ⟨b,0,none⟩),v,.string key] w λe w'=>e=.returned (.tuple #[.string (zy (ws.reverse++qj cs) key).1,.bool (zy (ws.reverse++qj cs) key).2])/\Mod dt w w':=by
 obtain⟨n,hn⟩:∃n:Nat,40<=n:=⟨40,aD _⟩;have n1:1<=n:=by omega
 refine(callsIn_wide (n:=n)).1 ?_;have DC:(cs.zip us).length=cs.length:=by rw[cJ,hv.1];omega
 obtain⟨va,vc,lL,-,-⟩:=hv.2.1.slice;rw[DC]at lL;subst lL;clear DC;refine callsIn_of_wp_marks Tryz.func39 rfl trivial ?_ rfl;simp only[Tryz.ntmps39,bE,aW,bC,Nat.reduceAdd,Nat.reduceSub,bj,bh,bx,bq,aa,bI];gi_wp2_with (refine⟨trivial,?_⟩;gi_at_call 71;refine(yXv _ _ _ _ _ _).mono ?_;rintro e w'⟨rfl,rfl⟩);obtain⟨w1,hw1⟩:∃z,z=w.alloc (.cells #[.string key] 9):=⟨_,rfl⟩;obtain⟨w2,hw2⟩:∃z,z=w1.alloc (.cells #[.string ⟨#[]⟩] 9):=⟨_,rfl⟩;obtain⟨w3,hw3⟩:∃z,z=w2.alloc (.cells #[.bool false] 4):=⟨_,rfl⟩;obtain⟨w4,hw4⟩:∃z,z=w3.alloc (.cells #[.pointer (some ⟨b,0,none⟩)] 87):=⟨_,rfl⟩;obtain⟨w5,oH⟩:∃z,z=w4.alloc (.cells #[.slice va cs.length vc] 62):=⟨_,rfl⟩;have z1:w1.heap.size=w.heap.size+1:=by rw[hw1,A4]
 have z2:w2.heap.size=w.heap.size+2:=by rw[hw2,A4,z1]
 have Z:w3.heap.size=w.heap.size+3:=by rw[hw3,A4,z2]
 have Y:w4.heap.size=w.heap.size+4:=by rw[hw4,A4,Z]
 have z5:w5.heap.size=w.heap.size+5:=by rw[oH,A4,Y]
 have m1:Mod dt w w1:=by rw[hw1];exact(Mod.refl _ w).alloc _
 have m2:Mod dt w1 w2:=by rw[hw2];exact(Mod.refl _ w1).alloc _
 have U:Mod dt w2 w3:=by rw[hw3];exact(Mod.refl _ w2).alloc _
 have F:Mod dt w3 w4:=by rw[hw4];exact(Mod.refl _ w3).alloc _
 have r:Mod dt w4 w5:=by rw[oH];exact(Mod.refl _ w4).alloc _
 have hK:dx w5 w.heap.size [.string key] 9:=by
  have:dx w1 w.heap.size [.string key] 9:=by rw[hw1];exact dx.new w _ _
  exact(((this.mod m2 id).mod U id).mod F id).mod r id
 have h6:dx w5 (w.heap.size+1) [.string ⟨#[]⟩] 9:=by
  have:dx w2 (w.heap.size+1) [.string ⟨#[]⟩] 9:=by rw[<-z1,hw2];exact dx.new w1 _ _
  exact((this.mod U id).mod F id).mod r id
 have h7:dx w5 (w.heap.size+2) [.bool false] 4:=by
  have:dx w3 (w.heap.size+2) [.bool false] 4:=by rw[<-z2,hw3];exact dx.new w2 _ _
  exact(this.mod F id).mod r id
 have h8:dx w5 (w.heap.size+3) [.pointer (some ⟨b,0,none⟩)] 87:=by
  have:dx w4 (w.heap.size+3) [.pointer (some ⟨b,0,none⟩)] 87:=by rw[<-Z,hw4];exact dx.new w3 _ _
  exact this.mod r id
 have h9:dx w5 (w.heap.size+4) [.slice va cs.length vc] 62:=by rw[<-Y,oH];exact dx.new w4 _ _
 have t:Mod dt w w5:=(((m1.trans m2).trans U).trans F).trans r;rw[<-hw1,<-hw2,<-hw3,<-hw4,<-oH];have Gd:=AC w _ hb;dsimp only at Gd;have za:w5.heap.size<=w.heap.size+5:=by omega
 have zb:w.heap.size+5<=w5.heap.size:=by omega
 clear hw1 hw2 hw3 hw4 oH z1 z2 Z Y z5 m1 m2 U F r;have oh:=t.cell hb id;have G:=pj.mod t (λ_ _=>id) (λ_ _ e=>e);have hv5:=hv.mod t (λ_ _=>id);have ke:∀(A:World) (x y:Value),Mod (λk=>k=w.heap.size+1\/k=w.heap.size+2) A ((A.setCell ⟨w.heap.size+1,0,none⟩ x).setCell ⟨w.heap.size+1+1,0,none⟩ y):=λA x y=>
  ((Mod.refl _ A).setCell (p:=⟨w.heap.size+1,0,none⟩) (λ_=>.inl rfl) x).setCell (p:=⟨w.heap.size+1+1,0,none⟩) (λ_=>.inr rfl) y
 have o:∀{A:World} {u:Value} (h:dx A (w.heap.size+1) [u] 9) (x y:Value),dx ((A.setCell ⟨w.heap.size+1,0,none⟩ x).setCell ⟨w.heap.size+1+1,0,none⟩ y) (w.heap.size+1) [x] 9:=λ{A u} h x y=>
  (h.set 0 x).mod (Mod.eE (w.heap.size+1+1) 0 y) (by simp only[eQ];omega)
 have m:∀{A:World} {u:Value} (h:dx A (w.heap.size+2) [u] 4) (x y:Value),dx ((A.setCell ⟨w.heap.size+1,0,none⟩ x).setCell ⟨w.heap.size+1+1,0,none⟩ y) (w.heap.size+2) [y] 4:=λ{A u} h x y=>
  (h.mod (Mod.eE (w.heap.size+1) 0 x) (by simp only[eQ];omega)).set 0 y
 obtain⟨Ho,Gf⟩:∃z,z=zy (ws.reverse++qj cs) key:=⟨_,rfl⟩;refine Vu (gf:=116) (lb:=#[.pointer (some ⟨w.heap.size+3,0,none⟩),.pointer (some ⟨w.heap.size+4,0,none⟩)]) rfl (enters_of Tryz.func116 (by kernel_rfl) rfl)
  (yMf (n-1) (by omega) (w.heap.size+3) (w.heap.size+4) w.heap.size b (.slice va cs.length vc) tv ws cs us ql H hpl w5 (h8.cell 0 rfl) oh Gd G (h9.cell 0 rfl) hv5 t.size) (λ_=>rfl)
  (λk=>k=w.heap.size+1\/k=w.heap.size+2) (λk e=>by omega) (λk e=>by omega)
  (λpre C=>(∀p∈pre,p.key≠key)/\dx C w.heap.size [.string key] 9/\dx C (w.heap.size+1) [.string ⟨#[]⟩] 9/\dx C (w.heap.size+2) [.bool false] 4)
  (λc C=>c=.ret/\dx C (w.heap.size+1) [.string Ho.1] 9/\dx C (w.heap.size+2) [.bool Ho.2] 4)
  (λs A B f hs j=>⟨j.1,j.2.1.mod f (by simp only[jw];omega),j.2.2.1.mod f (by simp only[jw];omega),j.2.2.2.mod f (by simp only[jw];omega)⟩)
  (λs A B f hs j=>⟨j.1,j.2.1.mod f (by simp only[jw];omega),j.2.2.mod f (by simp only[jw];omega)⟩)
  ⟨by simp,hK,h6,h7⟩ ?round ?done ?stop
 case round=>
  rintro pre p rest W hx⟨a,Xh,D,E⟩ hsz;obtain⟨pk,pv,gone⟩:=p;dsimp only[xP]
  gi_wp2
  refine⟨(Mod.refl _ W).alloc _,?_⟩;rintro We hme⟨r2,hr2⟩ ⟨-,Je,R,S⟩;have T:dx We W.heap.size [.string pk,.string pv,.bool gone] 68:=(dx.new W _ _).mod hme (by simp only[eQ];omega);obtain⟨Bq,Bj⟩:∃z,z=W.heap.size:=⟨_,rfl⟩;rw[<-Bj]at T⊢;have p0:=T.cell 0 rfl;have p1:=T.cell 1 rfl;have p2:=T.cell 2 rfl;have k0:=Je.cell 0 rfl;have f6:=R.frozen 0;have f7:=S.frozen 0;have P:=R.cell 0 rfl;have O:=S.cell 0 rfl;by_cases hk:pk=key
  .subst hk;have X:Hid (Ho=if gone then(ByteArray.empty,false)else(pv,true)):=by
    unfold Hid;rw[Gf,hx,yIo a rfl]
   clear Gf hx Bj
   cases gone with
  |true=>
    gi_wp2
    have e6:Ho.1=⟨#[]⟩:=by rw[X.out];rfl
    have e7:Ho.2=false:=by rw[X.out];rfl
    exact⟨ke We _ _,rfl,by rw[e6];exact o R _ _,by rw[e7];exact m S _ _⟩
  |false=>
    gi_wp2
    have e6:Ho.1=pv:=by rw[X.out];rfl
    have e7:Ho.2=true:=by rw[X.out];rfl
    exact⟨ke We _ _,rfl,by rw[e6];exact o R _ _,by rw[e7];exact m S _ _⟩
  .have hkb:(pk.toList==key.toList)=false:=by
    rw[bp];intro q;rw[B6,B6]at q;exact hk (WB q)
   clear Gf hx Bj
   gi_wp2
   refine⟨Mod.refl _ _,λp hp=>?_,Je,R,S⟩;rcases aM.1 hp with hp|hp
   .exact a p hp
   .rw[bU]at hp;subst hp;exact hk
 case done=>
  rintro Q V g⟨a,Xh,D,E⟩;have f6:=D.frozen 0;have f7:=E.frozen 0;have P:=D.cell 0 rfl;have O:=E.cell 0 rfl
  gi_wp2
  have jK:=ke Q (.string ⟨#[]⟩) (.bool false);have J:=jK.block w5.heap.size (aF.1 g).1 (by omega);rw[g]at J;refine⟨by simp,.inl ⟨_,_,rfl,run_takeDeferred J,?_⟩⟩;obtain⟨W4,hW4⟩:∃z,z=(Q.setCell ⟨w.heap.size+1,0,none⟩ (.string ⟨#[]⟩)).setCell ⟨w.heap.size+1+1,0,none⟩ (.bool false):=⟨_,rfl⟩;have M:=o D (.string ⟨#[]⟩) (.bool false);have K:=m E (.string ⟨#[]⟩) (.bool false);rw[<-hW4]at jK M K⊢;have l:Mod (jw w5.heap.size) W4 (W4.putObj w5.heap.size (.deferred none)):=(Mod.refl _ _).putObj (λ_=>by simp only[jw];omega) _;have P:=(M.mod l (by simp only[jw];omega)).cell 0 rfl;have O:=(K.mod l (by simp only[jw];omega)).cell 0 rfl;have e:=yIp a;refine⟨.tuple #[.string ⟨#[]⟩,.bool false],?_,by rw[e];rfl,?_⟩
  .simp[results,Tryz.f39,go_sem,P,O]
  .exact((t.mono (λ_ _ e=>e.elim)).trans' ((V.trans jK).since l (by have:=V.size;omega)) (λi hi e=>by omega))
 case stop=>
  rintro c Q V g⟨rfl,D,E⟩
  gi_wp2
  refine⟨by simp,.inl ⟨_,_,rfl,run_takeDeferred g,?_⟩⟩;have l:Mod (jw w5.heap.size) Q (Q.putObj w5.heap.size (.deferred none)):=(Mod.refl _ _).putObj (λ_=>by simp only[jw];omega) _;have P:=(D.mod l (by simp only[jw];omega)).cell 0 rfl;have O:=(E.mod l (by simp only[jw];omega)).cell 0 rfl;refine⟨.tuple #[.string Ho.1,.bool Ho.2],?_,by rw[Gf],?_⟩
  .simp[results,Tryz.f39,go_sem,P,O]
  .exact((t.mono (λ_ _ e=>e.elim)).trans' (V.since l (aD _)) (λi hi e=>by omega))
end Go.Proofs.YtmaiggbnceejiaaGreatDoor
namespace Go.Proofs.YtmaiggbnceejiaaGreatDoor
open Go.RowKit Go.Lib Go.Maps
variable {w w':World}{L n cap i B:Nat}{v:Value}{G:Nat->Prop}{ty:TypeId}{vs:List Value}
theorem Zx(s:dp)(id:Int)(key:ByteArray)(mode:Int):(jn s id key mode).1.lines=s.lines:=by
 unfold jn;simp only;split
 .have:=(gS.ft (pd (iL s id key mode).1 id key) (iL s id key mode).1).l;exact this
 .rfl
theorem yHw(s:dp)(id:Int)(key:ByteArray)(mode:Int):(gj s id key mode).1.lines=s.lines:=by
 unfold gj;simp only;split
 .exact Zx s id key mode
 .split
  .exact Zx s id key mode
  .exact((gS.ft _ _).l).trans (Zx s id key mode)
theorem iF.logV{L:Lo}{f:List eH}(h:iF w L v f)(V:L.n<=w.heap.size):∃l,te w w.heap.size v f l/\∀c∈f,c.writes.length<=40:=by
 have h0:=h.nO;obtain⟨l,y,t,H,F⟩:=h;refine⟨l,⟨y,?_,λi c u q I=>?_⟩,λc s=>(F c s).2⟩
 .obtain⟨X,⟨U,T⟩,S⟩:=iF.nO (L:=L) ⟨l,y,t,H,F⟩;have E:(f.zip l).length=f.length:=by rw[cJ];omega
  obtain⟨rfl,hn⟩|⟨g,cap,D,rfl,q1,q2,q3,q4,q5,q6⟩:=t.2
  .have s:f=[]:=aR hn;subst s;exact gD.nil _ _ _ _
  .have r:=t.cells (g:=g) rfl;have K:g<w.heap.size:=(aF.1 q2).1;refine⟨_,cap,by rw[E],by rw[E];exact q3,q4,.inr ⟨g,0,rfl,by omega,λi d q=>⟨yx d.1 d.2,rfl,rfl,λj x e=>?_⟩⟩⟩;obtain⟨C,A⟩:=Wy q;have:=r _ _ (WY f l i d.1 d.2 y C A j x e);rw[A1,aY]at this;rw[aY];exact this
 .obtain⟨a,cap,C,A,R,z⟩:=H i c u q I;refine⟨a,cap,C,A,R,?_⟩;obtain z|⟨b,o,Q,m,P⟩:=z
  .exact .inl z
  .refine .inr ⟨b,o,Q,?_,λj p J=>⟨[.string p.key,.string p.val,.bool p.gone],rfl,rfl,λk x e=>?_⟩⟩
   .obtain m|⟨⟨D,W,m⟩,_⟩:=m
    .omega
    .exact(aF.1 m).1
   .obtain⟨O,N,M⟩:=P j p J
    match k,e with
   |0,e=>simp at e;subst e;exact O
   |1,e=>simp at e;subst e;exact N
   |2,e=>simp at e;subst e;exact M
   |(k+3),e=>simp at e
def fi(s:dp)(key:ByteArray):List eH:=((s.A (fL s key)).nodes.getD 0 ⟨0,0,[],[],0⟩).M
def ED(w:World)(n c g:Nat)(y:dq)(r:dp×ByteArray×Bool×Int)(e:Ending)(w':World):Prop:=e=.returned (.tuple #[.string r.2.1,.bool r.2.2.1,jP r.2.2.2])/\∃a,eJ w' n c g a r.1/\eu w y w' a
theorem yIk(n c g:Nat)(y:dq)(s:dp)(id:Int)(key:ByteArray)(w:World)(h:eJ w n c g y s)(m:Ob w n c s)(hk:gP key)(Lx:(fi s key).length<=1000/\∀c∈fi s key,c.kind=3->(mC (fi s key) 2 c.I).isSome=true) :
  Calls Tryz.prog 14 #[.pointer (some ⟨g,0,none⟩),.int .i64 id,.string key] w (ED w n (c+2) g y (fG s id key)):=by
 have hmk:=Nw;have hcc:=m.c;have IA:=dk (yLa n c g y s id key w h m.sh hk);have FK:Hid (fG s id key=if oN s id key≠0 then(s,ByteArray.empty,false,oN s id key)else if (gj s id key 1).2≠0 then((gj s id key 1).1,ByteArray.empty,false,(gj s id key 1).2)else((gj s id key 1).1,(zy (((gj s id key 1).1.I id.toNat).writes.reverse++qj (fi s key)) key).1,(zy (((gj s id key 1).1.I id.toNat).writes.reverse++qj (fi s key)) key).2,0)):=rfl;have HH:=dk h;have x:=dk m;have tk:=dk Lx;clear h m Lx;go_enter Tryz.func14,Tryz.ntmps14;go_wp2_with fail;refine IA.out.mono ?_;rintro e w2⟨hC,a⟩;obtain⟨hc0,rfl⟩|⟨hc0,b,d,hb,hd,hlv,rfl⟩:=hC
 .rw[nL hc0];have C:Hid (ED w n (c+2) g y (fG s id key) (.returned (.tuple #[.string ⟨#[]⟩,.bool false,.iface 90 (.int .i64 (oN s id key))])) w2):=by
   unfold Hid;rw[FK.out,aK hc0];exact⟨by rw[nL hc0];rfl,y,(HH.out.quiet a).uT (by omega),eu.quiet a⟩
  clear hc0;go_wp2_with fail;go_ret3;exact C.out
 .obtain⟨ho,Ly,Et⟩:=pL hc0;obtain⟨i,rfl,t,P,hst⟩:=pB ho;have Dl:Hid (fG s i key=if (gj s i key 1).2≠0 then((gj s i key 1).1,ByteArray.empty,false,(gj s i key 1).2)else((gj s i key 1).1,(zy (((gj s i key 1).1.I i).writes.reverse++qj (fi s key)) key).1,(zy (((gj s i key 1).1.I i).writes.reverse++qj (fi s key)) key).2,0)):=by
   unfold Hid;rw[FK.out,aH (λq=>q hc0),aU]
  have sP:=HH.out.quiet a;have Bn:=dk (yEv n c g y s i key 1 w2 sP ⟨x.out.sh,x.out.ki,x.out.et.mod a,x.out.n,hcc⟩ t P Ly (.inl rfl));have gy:=dk a;have HB:=dk hb;have HD:=dk hd;clear hc0 hb hd hlv IA FK a sP ho Et;go_wp2_with fail;refine Bn.out.mono ?_;rintro e E⟨rfl,k,f,Y⟩;have D:=(eu.quiet gy.out).trans Y;obtain⟨nT,sj⟩:=zVw s i key 1 x.out.sh.tw;have htl:=x.out.sh.tl;by_cases u:(gj s i key 1).2=0
  .rw[u,pM];have N:i<=(gj s i key 1).1.U.length:=by rw[nT];exact P
   obtain⟨Km,AU,DS⟩:=f.AN (id:=i) t N;have hwl5:=KS sj i;have F:k.gd[fL s key]?=some b:=by rw[D.l];exact HB.out
   have V:(k.fu b)[0]?=some d:=by rw[D.n];exact HD.out
   have K:=f.nP F (aC V);have iS:(k.st (gj s i key 1).1 d).M=fi s key:=by
    have p:fL s key<(gj s i key 1).1.lines.length:=by
     have:=(aB.1 F).1;rw[f.ir]at this;exact this
    have Eo:=f.A _ _ _ F (aA p);have J:0<((gj s i key 1).1.lines[fL s key]).nodes.length:=by
     have:=(aB.1 V).1;rw[Eo.len]at this;exact this
    rw[f.lU F (aA p) V (aA J)];unfold fi dp.A;rw[<-yHw s i key 1];simp only[aI,aA p,aA J,dS]
   have nW:=dk (BQ n (c+2) g k _ i Km E f t (by omega) AU);have QJ:=dk (Qf (k.lo n) d (k.lF d) (k.lG d) _ E K);rw[iS]at QJ;have C:Hid (∀o r,Mod dt E o->r=zy (((gj s i key 1).1.I i).writes.reverse++qj (fi s key)) key->ED w n (c+2) g y (fG s i key) (.returned (.tuple #[.string r.1,.bool r.2,.nilIface])) o):=λo r hm H=>by
    subst H;rw[Dl.out,aH (λq=>q u)];exact⟨by rw[pM],k,f.quiet hm,D.trans (eu.quiet hm)⟩
   have HT:=dk DS;have YY:Hid (n<=E.heap.size):=aO f.low (Nat.le_of_lt f.Z.lt);have Q:=DS.Z.cell 2 rfl;clear f Y DS AU D nT sj u Bn F V K iS N;go_wp2_with (first
   |(go_at_call 34;refine nW.out.mono ?_;rintro e o⟨rfl,rfl⟩)
   |(go_at_call 40;refine QJ.out.mono ?_;rintro e o⟨lv,rfl,Sh,hf6,R⟩;obtain⟨la,lc,W⟩:=Sh.slice;subst W))
   obtain⟨us,W,SO⟩:=Sh.logV (aO YY.out R.size);have X:=dk (yUh Km _ _ ((gj s i key 1).1.I i).writes (fi s key) us key (by omega) tk.out.1 (λc hc h3=>by
    have:=tk.out.2 c hc h3;obtain⟨j,hj⟩:=bF.1 this;have O:j<(fi s key).length:=by
     unfold mC at hj;exact(cF.1 hj).1
    exact⟨j,_,hj,aA O,aO (SO _ (dJ O)) (by omega)⟩) o (R.cell Q id) (HT.out.mod R id (λ_ _ e=>e)).nO W)
   obtain⟨r,H⟩:∃z,z=zy (((gj s i key 1).1.I i).writes.reverse++qj (fi s key)) key:=⟨_,rfl⟩;rw[<-H]at X;have HG:=dk (λS (T:Mod dt o S)=>C.out S r (R.trans T) H);clear H Sh hf6 R W SO C HT YY Q QJ nW;refine X.out.mono ?_;rintro e S⟨rfl,T⟩;have HG2:=dk (HG.out S T);clear HG T X;go_wp2_with fail;go_ret3;exact HG2.out
  .rw[nL u];have C:Hid (ED w n (c+2) g y (fG s i key) (.returned (.tuple #[.string ⟨#[]⟩,.bool false,.iface 90 (.int .i64 (gj s i key 1).2)])) E):=by
    unfold Hid;rw[Dl.out,aK u];exact⟨by rw[nL u];rfl,k,f,D⟩
   clear f Y D u Bn;go_wp2_with fail;go_ret3;exact C.out
structure VD where
 text:ByteArray
 there:Bool
 deriving DecidableEq
def AB:VD:=⟨ByteArray.empty,false⟩
abbrev gh:=ByteArray->VD
def oS(s:gh)(k:ByteArray)(v:VD):gh:=λx=>if x=k then v else s x
structure fm where
 kind:Int
 key:ByteArray
 value:ByteArray
 found:Bool
instance:Inhabited fm:=⟨⟨0,ByteArray.empty,ByteArray.empty,false⟩⟩
structure eY where
 ops:List fm
 eP:Int
 fN:Int
instance:Inhabited eY:=⟨⟨[],0,0⟩⟩
def BK(o:fm):VD:=if o.found then⟨o.value,true⟩else AB
def jQ(s:gh)(o:fm):Option (gh×List (ByteArray×VD)):=
 if o.kind=1 then(if s o.key=BK o then some (s,[])else none)
 else if o.kind=2 then some (oS s o.key ⟨o.value,true⟩,[(o.key,s o.key)])
 else if o.kind=3 then some (oS s o.key AB,[(o.key,s o.key)])
 else some (s,[])
def iJ:gh->List fm->Option (gh×List (ByteArray×VD))
|s,[]=>some (s,[])
|s,o::d=>match jQ s o with
 |none=>none
 |some (c,u)=>match iJ c d with
  |none=>none
  |some (b,a)=>some (b,u++a)
theorem ZJ:∀(os:List fm) (s a:gh) (us:List (ByteArray×VD)) (o:fm),iJ s os=some (a,us)->iJ s (os++[o])=(jQ a o).map (λr=>(r.1,us++r.2))
|[],s,a,us,o,h=>by
  simp[iJ]at h;obtain⟨rfl,rfl⟩:=h;rw[aa,iJ]
  cases jQ s o with
 |none=>rfl
 |some r=>simp[iJ]
|p::os,s,a,us,o,h=>by
  rw[iJ]at h;rw[bI,iJ]
  cases c:jQ s p with
 |none=>rw[c]at h;cases h
 |some r=>
   rw[c]at h;simp only at h⊢
   cases b:iJ r.1 os with
  |none=>rw[b]at h;cases h
  |some t=>
    rw[b]at h;simp at h;obtain⟨rfl,rfl⟩:=h;rw[ZJ os r.1 t.1 t.2 o b]
    cases jQ t.1 o with
   |none=>rfl
   |some x=>simp
theorem yAb:∀(os:List fm) (s a:gh) (us:List (ByteArray×VD)) (k:Nat),iJ s os=some (a,us)->∃b vs,iJ s (os.take k)=some (b,vs)
|[],s,a,us,k,h=>⟨s,[],by simp[iJ]⟩
|p::os,s,a,us,0,h=>⟨s,[],by simp[iJ]⟩
|p::os,s,a,us,k+1,h=>by
  rw[iJ]at h;rw[az,iJ]
  cases d:jQ s p with
 |none=>rw[d]at h;cases h
 |some r=>
   rw[d]at h;simp only at h⊢
   cases c:iJ r.1 os with
  |none=>rw[c]at h;cases h
  |some t=>
    obtain⟨b,vs,e⟩:=yAb os r.1 t.1 t.2 k c;rw[e];exact⟨_,_,rfl⟩
theorem Vo{a b:ByteArray}(h:a.data.toList=b.data.toList):a=b:=by
 have:a.data=b.data:=Array.toList_inj.1 h;exact ByteArray.ext this
theorem GC:Keyed Tryz.prog 9:=string_keyed Tryz.underlying9
def opR(o:fm)(a:List Value):Prop:=a=[.int .i64 o.kind,.string o.key,.string o.value,.bool o.found]/\o.key.size<=maxLen/\o.value.size<=maxLen
def ou(w:World)(L:Nat)(v:Value)(os:List fm):Prop:=gD w L 4 opR v os
def txR(w:World)(L:Nat)(t:eY)(a:List Value):Prop:=∃v,a=[v,.int .i64 t.eP,.int .i64 t.fN]/\ou w L v t.ops/\gi t.eP/\gi t.fN
def nz(w:World)(L:Nat)(v:Value)(ts:List eY):Prop:=gD w L 3 (txR w L) v ts
theorem ou.mod{os:List fm}(h:ou w L v os)(a:Mod G w w')(b:∀k,k<L->¬G k):ou w' L v os:=gD.mod h a b (λ_ _ h=>h)
theorem nz.mod{ts:List eY}(h:nz w L v ts)(a:Mod G w w')(b:∀k,k<L->¬G k):nz w' L v ts:=
 gD.mod h a b (λ_ _ ⟨v,e,d,c⟩=>⟨v,e,d.mod a b,c⟩)
theorem ou.at{a:Option Addr}{os:List fm}(h:ou w L (.slice a n cap) os){o:fm}(e:os[i]?=some o) :
  ∃b c,a=some ⟨b,c,none⟩/\b<L/\(o.key.size<=maxLen/\o.value.size<=maxLen)/\w.cell? ⟨b,c+i*4,none⟩=some (.int .i64 o.kind)/\w.cell? ⟨b,c+i*4+1,none⟩=some (.string o.key)/\w.cell? ⟨b,c+i*4+2,none⟩=some (.string o.value)/\w.cell? ⟨b,c+i*4+3,none⟩=some (.bool o.found):=by
 obtain⟨b,c,k,j,g,⟨rfl,f⟩,_,d⟩:=gD.at h e;exact⟨b,c,j,g,f,by have:=d 0 _ rfl;simpa using this,d 1 _ rfl,d 2 _ rfl,d 3 _ rfl⟩
theorem nz.at{a:Option Addr}{ts:List eY}(h:nz w L (.slice a n cap) ts){t:eY}(e:ts[i]?=some t) :
  ∃b c v,a=some ⟨b,c,none⟩/\b<L/\ou w L v t.ops/\(gi t.eP/\gi t.fN)/\w.cell? ⟨b,c+i*3,none⟩=some v/\w.cell? ⟨b,c+i*3+1,none⟩=some (.int .i64 t.eP)/\w.cell? ⟨b,c+i*3+2,none⟩=some (.int .i64 t.fN):=by
 obtain⟨b,c,l,k,j,⟨v,rfl,g,f⟩,_,d⟩:=gD.at h e;exact⟨b,c,v,k,j,g,f,by have:=d 0 _ rfl;simpa using this,d 1 _ rfl,d 2 _ rfl⟩
def BR(o:fm):List Value:=[.int .i64 o.kind,.string o.key,.string o.value,.bool o.found]
def uN:List fm->List Value
|[]=>[]
|o::a=>BR o++uN a
theorem WZ:∀a o,uN (a++[o])=uN a++BR o
|[],o=>by simp[uN]
|p::a,o=>by simp[uN,WZ a o]
theorem zQw:∀(os:List fm) (i:Nat) (o:fm),os[i]?=some o->∀j x,(BR o)[j]?=some x->(uN os)[i*4+j]?=some x
|[],i,o,h,_,_,_=>by simp at h
|p::os,0,o,h,j,x,a=>by
  simp at h;subst h;have d:j<(BR p).length:=(aB.1 a).1;rw[uN,cr,aY,aG d];exact a
|p::os,i+1,o,h,j,x,a=>by
  have b:=zQw os i o (by simpa using h) j x a;have c:(BR p).length=4:=rfl;rw[uN,aL (by omega),c,show(i+1)*4+j-4=i*4+j by omega];exact b
def Rv(o:fm):Prop:=o.key.size<=maxLen/\o.value.size<=maxLen
def Hp(t:TypeId)(w:World)(B:Nat)(v:Value)(os:List fm):Prop:=w.ownsRow B t 4 v os.length (uN os)/\∀o∈os,Rv o
theorem Hp.nO{t:TypeId}{os:List fm}(h:Hp t w B v os)(m:w.heap.size<=L):ou w L v os:=by
 obtain⟨⟨l,k⟩,f⟩:=h;obtain⟨rfl,hn⟩|⟨g,cap,cur,rfl,q1,q2,q3,q4,q5,q6⟩:=k
 .have:os=[]:=aR hn;subst this;exact gD.nil _ _ _ _
 .have e:w.ownsRow B t 4 (.slice (some ⟨g,0,none⟩) os.length cap) os.length (uN os):=⟨l,.inr ⟨g,cap,cur,rfl,q1,q2,q3,q4,q5,q6⟩⟩;have a:=e.cells (g:=g) rfl;have d:g<w.heap.size:=(aF.1 q2).1;refine⟨_,cap,rfl,q3,q4,.inr ⟨g,0,rfl,by omega,λi o b=>⟨BR o,⟨rfl,f o (aC b)⟩,rfl,λj x c=>?_⟩⟩⟩;have:=a _ _ (zQw os i o b j x c);rw[A1,aY]at this;rw[aY];exact this
def sH(t:eY)(v:Value):List Value:=[v,.int .i64 t.eP,.int .i64 t.fN]
def pC:List eY->List Value->List Value
|t::a,v::vs=>sH t v++pC a vs
|_,_=>[]
theorem Zz:∀(ts:List eY) (vs:List Value),vs.length=ts.length->(pC ts vs).length=ts.length*3
|[],[],_=>rfl
|[],_::_,h=>by simp at h
|_::_,[],h=>by simp at h
|t::ts,v::vs,h=>by simp[pC,sH,Zz ts vs (by simpa using h)];omega
theorem Wd:∀(ts:List eY) (vs:List Value) (t:eY) (v:Value),vs.length=ts.length->pC (ts++[t]) (vs++[v])=pC ts vs++sH t v
|[],[],t,v,_=>by simp[pC]
|[],_::_,_,_,h=>by simp at h
|_::_,[],_,_,h=>by simp at h
|p::ts,q::vs,t,v,h=>by simp[pC,Wd ts vs t v (by simpa using h)]
theorem Ib:∀(ts:List eY) (vs:List Value) (i:Nat) (t:eY) (v:Value),vs.length=ts.length->ts[i]?=some t->vs[i]?=some v->∀j x,(sH t v)[j]?=some x->(pC ts vs)[i*3+j]?=some x
|[],_,_,_,_,_,h,_,_,_,_=>by simp at h
|_::_,[],_,_,_,h,_,_,_,_,_=>by simp at h
|p::ts,q::vs,0,t,v,_,h,b,j,x,a=>by
  simp at h b;subst h b;have e:j<(sH p q).length:=(aB.1 a).1;rw[pC,cr,aY,aG e];exact a
|p::ts,q::vs,i+1,t,v,c,h,b,j,x,a=>by
  have d:=Ib ts vs i t v (by simpa using c) (by simpa using h) (by simpa using b) j x a;have c:(sH p q).length=3:=rfl;rw[pC,aL (by omega),c,show(i+1)*3+j-3=i*3+j by omega];exact d
def jt(ty:TypeId)(w:World)(B:Nat)(v:Value)(ts:List eY)(vs:List Value):Prop:=vs.length=ts.length/\w.ownsRow B ty 3 v ts.length (pC ts vs)
theorem jt.nO{ts:List eY}(h:jt ty w B v ts vs)(r:w.heap.size<=L)(l:∀(i:Nat) t u,ts[i]?=some t->vs[i]?=some u->ou w L u t.ops/\gi t.eP/\gi t.fN):nz w L v ts:=by
 obtain⟨h0,q,p⟩:=h;obtain⟨rfl,hn⟩|⟨g,cap,cur,rfl,q1,q2,q3,q4,q5,q6⟩:=p
 .have:ts=[]:=aR hn;subst this;exact gD.nil _ _ _ _
 .have o:w.ownsRow B ty 3 (.slice (some ⟨g,0,none⟩) ts.length cap) ts.length (pC ts vs):=⟨q,.inr ⟨g,cap,cur,rfl,q1,q2,q3,q4,q5,q6⟩⟩;have c:=o.cells (g:=g) rfl;have m:g<w.heap.size:=(aF.1 q2).1;refine⟨_,cap,rfl,q3,q4,.inr ⟨g,0,rfl,by omega,λi t b=>?_⟩⟩;have a:i<vs.length:=by rw[h0];exact(aB.1 b).1
  obtain⟨u,hu⟩:∃u,vs[i]?=some u:=⟨_,aA a⟩;obtain⟨f,e,d⟩:=l i t u b hu;refine⟨sH t u,⟨u,rfl,f,e,d⟩,rfl,λj x k=>?_⟩;have:=c _ _ (Ib ts vs i t u h0 b hu j x k);rw[A1,aY]at this;rw[aY];exact this
theorem jt.mod{ts:List eY}(h:jt ty w B v ts vs)(a:Mod G w w')(b:∀k,v.ownBlock=some k->¬G k):jt ty w' B v ts vs:=⟨h.1,gO h.2 a (λk _ _ e=>b k e)⟩
def ko(a:Int)(n:Nat):Nat:=(IntKind.u64.wrap a % n).toNat
theorem FT(a:Int)(n:Nat)(b:0<n):ko a n<n:=by
 have d:=Int.emod_nonneg (IntKind.u64.wrap a) (show(n:Int)≠0 by omega);have c:=Int.emod_lt_of_pos (IntKind.u64.wrap a) (show(0:Int)<n by omega);unfold ko;omega
theorem Ro{x y:Int}(h:x=y):Ending.returned (.int .i64 x)=Ending.returned (.int .i64 y):=by rw[h]
theorem IT(a:Int)(n:Nat)(w:World)(f:0<n)(g:(n:Int)<=1000) :
  Calls Tryz.prog 18 #[.int .i64 a,.int .i64 n] w λe w'=>e=.returned (.int .i64 (ko a n))/\w'=w:=by
 have d:IntKind.u64.wrap (n:Int)=n:=by rw[IntKind.wrap_u64];omega
 have h0:0<=IntKind.u64.wrap a:=by rw[IntKind.wrap_u64];omega
 have b:((n:Int)==0)=false:=by rw[bp];omega
 have c:wrap64 (IntKind.u64.wrap a % n)=(ko a n:Nat):=by
  have j:=Int.emod_nonneg (IntKind.u64.wrap a) (show(n:Int)≠0 by omega);have h:=Int.emod_lt_of_pos (IntKind.u64.wrap a) (show(0:Int)<n by omega);unfold ko;rw[B7 _ ⟨by omega,by omega⟩];omega
 go_enter Tryz.func18,Tryz.ntmps18;go_wp2_with fail;go_ret
 first
 |exact⟨rfl,rfl⟩
 |(refine⟨?_,rfl⟩;exact Ro c)
theorem yAp(n c g q l:Nat)(y:dq)(s:dp)(k:Nat)(d:gB)(w:World)(h:eJ w n c g y s)(p:mo s)(r:d.key.size<=1000000)(m:w.cell? ⟨q,0,none⟩=some (.pointer (some ⟨g,0,none⟩)))(b:w.cell? ⟨l,0,none⟩=some (.int .i64 k)) :
  Calls Tryz.prog 161 (#[.agg #[.string d.key,.string d.val,.bool d.gone]]++#[.pointer (some ⟨q,0,none⟩),.pointer (some ⟨l,0,none⟩)]) w λe w'=>e=.returned (.bool (!decide (fL s d.key=k)))/\Mod dt w w':=by
 obtain⟨w1,hw1⟩:∃x,x=w.alloc (.cells #[.string d.key,.string d.val,.bool d.gone] 68):=⟨_,rfl⟩;have j:Mod dt w w1:=by rw[hw1];exact(Mod.refl _ w).alloc _
 have f:dx w1 w.heap.size [.string d.key,.string d.val,.bool d.gone] 68:=by rw[hw1];exact dx.new w _ _
 have u:=f.cell 0 rfl;have A:=j.cell m id;have z:=j.cell b id;have a:Mod dt w w1.drew:=j.drewN 1;have o:=dk (ZF n c g y s d.key w1.drew (h.quiet a) p r);have t:=dk a;clear h f m b a;go_enter Tryz.func161,Tryz.ntmps161;go_upto_region 1 with fail;rw[<-hw1];clear hw1 j;refine wp_region_still_tail 6 (by kernel_rfl) (by kernel_rfl) ?_;simp only[az,bu,bb,cI]
 repeat still_step
 still_call o.out
 repeat still_step
 refine B9 ?_;go_wp2_with fail;go_ret;refine⟨?_,t.out⟩;congr 2;by_cases e:fL s d.key=k
 .rw[aQ e,e];simp
 .rw[aN e];have:((fL s d.key:Nat):Int)≠(k:Int):=by omega
  simpa using this
theorem yHz(s:dp)(t:jz)(k:Nat):jb (λd=>!decide (fL s d.key=k)) t.writes=vn s t k:=by
 unfold jb vn;congr 1;funext d;simp
theorem ySm(d:gB):∀u∈kZ d,u.oneCell'=true:=λu a=>by
 simp only[kZ,bB,List.not_mem_nil,or_false]at a;obtain rfl|rfl|rfl:=a <;> rfl
theorem yCr(n c g:Nat)(y:dq)(s:dp)(b k:Nat)(t:jz)(w:World)(h:eJ w n c g y s)(hs:mo s)(T:vG w n y b t)(hl:t.writes.length<=20)(hk:∀p∈t.writes,p.key.size<=20) :
  Calls Tryz.prog 125 #[.pointer (some ⟨g,0,none⟩),.pointer (some ⟨b,0,none⟩),.int .i64 k] w λe w'=>∃v,e=.returned v/\w'.ownsRow w.heap.size 68 3 v (vn s t k).length (iG (vn s t k))/\Mod dt w w':=by
 obtain⟨w1,hw1⟩:∃x,x=(w.alloc (.cells #[.pointer (some ⟨g,0,none⟩)] 35)).alloc (.cells #[.int .i64 k] 3):=⟨_,rfl⟩;have A:Mod dt w w1:=by rw[hw1];exact((Mod.refl _ w).alloc _).alloc _
 have q:w1.heap.size=w.heap.size+1+1:=by rw[hw1];simp
 have z:dx w1 w.heap.size [.pointer (some ⟨g,0,none⟩)] 35:=by rw[hw1];exact(dx.new w _ _).mod ((Mod.refl dt _).alloc _) id
 have u:dx w1 (w.heap.size+1) [.int .i64 k] 3:=by
  rw[hw1];have:=dx.new (w.alloc (.cells #[.pointer (some ⟨g,0,none⟩)] 35)) [.int .i64 (k:Int)] 3;simpa using this
 have U:=h.quiet A;have C:=T.mod A id (λ_ _=>id);have t2:=C.Z.cell 2 rfl;have l:=C.wr;have o:Calls Tryz.prog 163 #[y.kT b] w1 λe w'=>∃v,e=.returned v/\w'.ownsRow w1.heap.size 68 3 v t.writes.length (iG t.writes)/\Mod dt w1 w':=by
  obtain⟨e,h0⟩|⟨g',cap',cur,e,q1,q2,q3,q4,q5,q6⟩:=l.2
  .rw[e];refine(yIu w1).mono ?_;rintro e2 E⟨rfl,rfl⟩;have r:t.writes=[]:=aR h0;exact⟨_,rfl,by rw[r];exact A6 _ _ _ _,Mod.refl _ _⟩
  .rw[e]at l⊢;have K:=l.cells (g:=g') rfl;refine(yIv ⟨g',0,none⟩ t.writes.length cap' t.writes w1 rfl K (by omega) (λd _=>ySm d)).mono ?_;rintro e2 E⟨g2,Y,rfl,H,f⟩;exact⟨_,rfl,H,f⟩
 obtain⟨wa,wc,S⟩:=fU C.wr;rw[S]at t2 o;have N:=dk o;have sg:∀V first cap w,(Instr.makeFunc V first cap).run Tryz.prog w=.ok (.func V first cap) w:=λ_ _ _ _=>rfl
 have HH:=dk U;have P:=dk z;have Q:=dk u;have W:=dk A;have HZ1:=dk q;clear h U T C l S z u A q o;go_enter Tryz.func125,Tryz.ntmps125;go_upto_region 1 with fail;rw[<-hw1];clear hw1;go_wp2_with fail;refine N.out.mono ?_;rintro e E⟨v2,rfl,a,f⟩;have HA:nI 161 #[.pointer (some ⟨w.heap.size,0,none⟩),.pointer (some ⟨w.heap.size+1,0,none⟩)] (λ(d:gB)=>.agg #[.string d.key,.string d.val,.bool d.gone]) t.writes (λd=>!decide (fL s d.key=k)) (λwr=>eJ wr n c g y s/\wr.cell? ⟨w.heap.size,0,none⟩=some (.pointer (some ⟨g,0,none⟩))/\wr.cell? ⟨w.heap.size+1,0,none⟩=some (.int .i64 k)):=
  ⟨zu Tryz.func161 (by kernel_rfl) rfl,λwa wb m J=>⟨m.1.quiet J,J.cell m.2.1 id,J.cell m.2.2 id⟩,λd hd wr m=>yAp n c g _ _ y s k d wr m.1 hs (aO (hk d hd) (by omega)) m.2.1 m.2.2⟩
 have O:=HH.out.quiet f;have M:=dk (yFw 161 w1.heap.size #[.pointer (some ⟨w.heap.size,0,none⟩),.pointer (some ⟨w.heap.size+1,0,none⟩)] (λd=>!decide (fL s d.key=k)) v2 t.writes E _ a HA ⟨O,f.cell (P.out.cell 0 rfl) id,f.cell (Q.out.cell 0 rfl) id⟩ (λx hx w' I=>by
  have hx1:w1.heap.size<=x:=(fs a hx).1;have D:Mod dt w1 w':=f.trans' I (λi hi e=>by simp only[eQ]at e;omega);exact⟨HH.out.quiet D,D.cell (P.out.cell 0 rfl) id,D.cell (Q.out.cell 0 rfl) id⟩) (by omega))
 rw[yHz]at M;obtain⟨va2,vc2,F⟩:=fU a;subst F;have HR:=dk a;have gy:=dk f;clear a O HA f N;go_wp2_with fail;refine M.out.mono ?_;rintro e w3⟨v3,rfl,j,hv3,X⟩;obtain⟨Oi,Io,LZ⟩:=fU j;subst LZ;have Dk:=dk j;have R:Mod dt w1 w3:=gy.out.trans' X (λi hi e=>by have:=(fs HR.out e).1;omega);have jC:=dk (W.out.trans R);have HZ:=dk W.out.size;clear j X R M;go_wp2_with fail;go_ret;exact⟨_,rfl,vl Dk.out HZ.out,jC.out⟩
def No(w w':World)(r:Option eH)(e:Ending):Prop:=∃(d:eH) (u:Value) (ok:Bool),e=.returned (.tuple #[.agg #[.int .i64 d.kind,.int .i64 d.I,.int .i64 d.time,u],.bool ok])/\w'.ownsRow w.heap.size 68 3 u d.writes.length (iG d.writes)/\r=(if ok then some d else none)/\Mod dt w w'
theorem ID{a:World}{l j h g:Value}(f:Mod dt w a)(hB:dx a w.heap.size [l,j,h,g] 65)(d:eH)(u:Value)(b:a.ownsRow w.heap.size 68 3 u d.writes.length (iG d.writes)) :
  (AR a w.heap.size (.int .i64 d.kind) (.int .i64 d.I) (.int .i64 d.time) u).ownsRow w.heap.size 68 3 u d.writes.length (iG d.writes)/\Mod dt w (AR a w.heap.size (.int .i64 d.kind) (.int .i64 d.I) (.int .i64 d.time) u):=by
 have c:=ZC a w.heap.size (.int .i64 d.kind) (.int .i64 d.I) (.int .i64 d.time) u;refine⟨gO b c (λk _ _ e q=>?_),f.trans' c (λi m e=>by simp only[eQ]at e;omega)⟩;simp only[eQ]at q;subst q;exact pf b hB (by decide) e
theorem yLe{b:Nat}{y:dq}{t:jz}(h:vG w n y b t){k:Nat}(c:k<t.ats.length):∃d cap,y.jy b=.slice (some ⟨d,0,none⟩) t.ats.length cap/\w.cell? ⟨d,k,none⟩=some (.int .i64 (t.ats.getD k 0)):=by
 obtain⟨e,h0⟩|⟨g',cap',cur,e,_⟩:=h.ats.2
 .omega
 .have a:=h.ats;rw[e]at a;have f:=a.cells (g:=g') rfl k (.int .i64 (t.ats.getD k 0)) (by rw[ah,aA c,aI,aA c];rfl);refine⟨g',cap',e,?_⟩;have j:(⟨g',0,none⟩:Addr).add k=⟨g',k,none⟩:=by cases k <;> simp[Addr.add]
  rw[<-j];exact f
theorem yYv(n c g:Nat)(y:dq)(s:dp)(id k:Nat)(a:Int)(w:World)(h:eJ w n c g y s)(P:mo s)(R:1<=id)(h2:id<=s.U.length)(hk:k<s.lines.length)(hw:∀p∈(s.I id).writes,p.key.size<=20) :
  Calls Tryz.prog 78 #[.pointer (some ⟨g,0,none⟩),.int .i64 id,.int .i64 k,.int .i64 a] w λe w'=>No w w' (gF s id k a) e:=by
 obtain⟨w0,hw0⟩:∃x,x=w.alloc (.cells #[.int .i64 0,.int .i64 0,.int .i64 0,.slice none 0 0] 65):=⟨_,rfl⟩;have C:Mod dt w w0:=by rw[hw0];exact(Mod.refl _ w).alloc _
 have S:dx w0 w.heap.size [.int .i64 0,.int .i64 0,.int .i64 0,.slice none 0 0] 65:=by rw[hw0];exact dx.new w _ _
 have V:=C.size;have h0:=h.quiet C;have hll:=P.ll;have htl:=P.tl;obtain⟨b,hb,K⟩:=h0.AN R h2;have Ek:=P.ta _ (FP R h2);have SU:=P.tw _ (FP R h2);have H:=dk (BQ n c g y s id b w0 h0 R (by omega) hb);have E:=dk (zMq n c g y s w0 h0 (by omega) (by omega));have A:=dk (yQd n b y (s.I id) w0 K);have FF:=dk (yCr n c g y s b k (s.I id) w0 h0 P K SU hw);obtain⟨ab,sY,pF,MK⟩:=yLe K (k:=k) (by rw[Ek];exact hk);have t0:=K.Z.cell 0 rfl;have t1:=K.Z.cell 1 rfl;have t3:=K.Z.cell 3 rfl;rw[pF,Ek]at t1;obtain⟨x,hx⟩:∃x,x=(s.I id).ats.getD k 0:=⟨_,rfl⟩;rw[<-hx]at MK;obtain⟨⟨p0,p1,p2,p3⟩,⟨f0,f1,f2,f3⟩⟩:(w0.cell? ⟨w.heap.size,0,none⟩=some (.int .i64 0)/\w0.cell? ⟨w.heap.size,1,none⟩=some (.int .i64 0)/\w0.cell? ⟨w.heap.size,2,none⟩=some (.int .i64 0)/\w0.cell? ⟨w.heap.size,3,none⟩=some (.slice none 0 0))/\(w0.frozen? ⟨w.heap.size,0,none⟩=false/\w0.frozen? ⟨w.heap.size,1,none⟩=false/\w0.frozen? ⟨w.heap.size,2,none⟩=false/\w0.frozen? ⟨w.heap.size,3,none⟩=false):=by
  obtain⟨x0,x1,x2,x3,y0,y1,y2,y3⟩:=vD S;exact⟨⟨x0,x1,x2,x3⟩,⟨y0,y1,y2,y3⟩⟩
 have zO:(k:Int)<(s.lines.length:Int):=by omega
 have ry:(0:Int)<=(k:Int):=by omega
 have o:=dk S;have J:=dk C;have Ry:∀w':World,w'.ownsRow w.heap.size 68 3 (.slice none 0 0) 0 (iG []):=λw'=>A6 _ _ _ _;have M:=dk Ry;clear h h0 K hb S C pF Ry Ek SU;by_cases j:k=dz s
 .have Q:((k:Int)==((dz s:Nat):Int))=true:=by
   have:(k:Int)=((dz s:Nat):Int):=by omega
   simpa using this
  by_cases r:(s.I id).state=2
  .have Cn:((s.I id).state==2)=true:=by simpa using r
   cases O:ve (s.I id)with
  |true=>
    have t:Hid (gF s id k a=some ⟨3,id,a,[]⟩):=by unfold Hid gF;simp only;rw[aK j,aK ⟨r,O⟩]
    rw[O]at A;clear j r O;go_enter Tryz.func78,Tryz.ntmps78;go_upto_region 1 with fail;rw[<-hw0];clear hw0;go_wp2_with (first
    |(go_at_call 34;refine H.out.mono ?_;rintro e d⟨rfl,rfl⟩)
    |(go_at_call 109;refine E.out.mono ?_;rintro e d⟨rfl,rfl⟩)
    |(go_at_call 124;refine A.out.mono ?_;rintro e d⟨rfl,rfl⟩)
    |fail)
    obtain⟨m,l⟩:=ID J.out o.out ⟨3,id,a,[]⟩ (.slice none 0 0) (M.out _);refine A5 (Ed Tryz.results78 _ ⟨w.heap.size,0,none⟩ rfl rfl (FU o.out _ _ _ _)) rfl ⟨⟨3,id,a,[]⟩,.slice none 0 0,true,rfl,m,t.out,l⟩
  |false=>
    have t:Hid (gF s id k a=none):=by unfold Hid gF;simp only;rw[aK j,aH (λq=>by rw[O]at q;cases q.2)]
    rw[O]at A;clear j r O;go_enter Tryz.func78,Tryz.ntmps78;go_upto_region 1 with fail;rw[<-hw0];clear hw0;go_wp2_with (first
    |(go_at_call 34;refine H.out.mono ?_;rintro e d⟨rfl,rfl⟩)
    |(go_at_call 109;refine E.out.mono ?_;rintro e d⟨rfl,rfl⟩)
    |(go_at_call 124;refine A.out.mono ?_;rintro e d⟨rfl,rfl⟩)
    |fail)
    obtain⟨m,l⟩:=ID J.out o.out ⟨3,id,a,[]⟩ (.slice none 0 0) (M.out _);refine A5 (Ed Tryz.results78 _ ⟨w.heap.size,0,none⟩ rfl rfl (FU o.out _ _ _ _)) rfl ⟨⟨3,id,a,[]⟩,.slice none 0 0,false,rfl,m,t.out,l⟩
  .have Cn:((s.I id).state==2)=false:=by simpa using r
   have t:Hid (gF s id k a=none):=by unfold Hid gF;simp only;rw[aK j,aH (λq=>r q.1)]
   clear j r;go_enter Tryz.func78,Tryz.ntmps78;go_upto_region 1 with fail;rw[<-hw0];clear hw0;go_wp2_with (first
   |(go_at_call 34;refine H.out.mono ?_;rintro e d⟨rfl,rfl⟩)
   |(go_at_call 109;refine E.out.mono ?_;rintro e d⟨rfl,rfl⟩)
   |(go_at_call 124;refine A.out.mono ?_;rintro e d⟨rfl,rfl⟩)
   |fail)
   obtain⟨m,l⟩:=ID J.out o.out ⟨3,id,a,[]⟩ (.slice none 0 0) (M.out _);refine A5 (Ed Tryz.results78 _ ⟨w.heap.size,0,none⟩ rfl rfl (FU o.out _ _ _ _)) rfl ⟨⟨3,id,a,[]⟩,.slice none 0 0,false,rfl,m,t.out,l⟩
 .have Q:((k:Int)==((dz s:Nat):Int))=false:=by
   have:(k:Int)≠((dz s:Nat):Int):=by omega
   simpa using this
  by_cases D:x=0
  .have t:Hid (gF s id k a=none):=by unfold Hid gF;simp only;rw[aH j,aK (by rw[<-hx];exact D)]
   have Y:(x==0)=true:=by simpa using D
   clear D j hx;go_enter Tryz.func78,Tryz.ntmps78;go_upto_region 1 with fail;rw[<-hw0];clear hw0;go_wp2_with (first
   |(go_at_call 34;refine H.out.mono ?_;rintro e d⟨rfl,rfl⟩)
   |(go_at_call 109;refine E.out.mono ?_;rintro e d⟨rfl,rfl⟩)
   |(go_at_call 124;refine A.out.mono ?_;rintro e d⟨rfl,rfl⟩)
   |fail)
   obtain⟨m,l⟩:=ID J.out o.out tC (.slice none 0 0) (M.out _);refine A5 (Ed Tryz.results78 _ ⟨w.heap.size,0,none⟩ rfl rfl (FU o.out _ _ _ _)) rfl ⟨tC,.slice none 0 0,false,rfl,m,t.out,l⟩
  .have Y:(x==0)=false:=by simpa using D
   have f:¬((s.I id).ats.getD k 0=0):=by rw[<-hx];exact D
   by_cases z:(s.I id).state=2
   .have t:Hid (gF s id k a=some ⟨2,id,0,vn s (s.I id) k⟩):=by unfold Hid gF;simp only;rw[aH j,aH f,aK z]
    have Cn:((s.I id).state==2)=true:=by simpa using z
    clear D j hx f z;go_enter Tryz.func78,Tryz.ntmps78;go_upto_region 1 with fail;rw[<-hw0];clear hw0;go_wp2_with (first
    |(go_at_call 34;refine H.out.mono ?_;rintro e d⟨rfl,rfl⟩)
    |(go_at_call 109;refine E.out.mono ?_;rintro e d⟨rfl,rfl⟩)
    |(go_at_call 124;refine A.out.mono ?_;rintro e d⟨rfl,rfl⟩)
    |fail)
    refine FF.out.mono ?_;rintro e w3⟨v,rfl,u,eK⟩;obtain⟨va,vc,hv⟩:=fU u;subst hv;have T:=o.out.mod eK (λe=>e);obtain⟨x0,x1,x2,x3,y0,y1,y2,y3⟩:=vD T;have FG:=dk (vl u V);have jC:=dk (J.out.trans eK);have rh:=dk T;clear u eK T;go_wp2_with fail;obtain⟨m,l⟩:=ID jC.out rh.out ⟨2,id,0,vn s (s.I id) k⟩ _ FG.out;refine A5 (Ed Tryz.results78 _ ⟨w.heap.size,0,none⟩ rfl rfl (FU rh.out _ _ _ _)) rfl ⟨⟨2,id,0,vn s (s.I id) k⟩,_,true,rfl,m,t.out,l⟩
   .have hs2:((s.I id).state==2)=false:=by simpa using z
    by_cases F:(s.I id).state=3
    .have t:Hid (gF s id k a=some ⟨3,id,(s.I id).time,[]⟩):=by unfold Hid gF;simp only;rw[aH j,aH f,aH z,aK F]
     have X:((s.I id).state==3)=true:=by simpa using F
     clear D j hx f z F;go_enter Tryz.func78,Tryz.ntmps78;go_upto_region 1 with fail;rw[<-hw0];clear hw0;go_wp2_with (first
     |(go_at_call 34;refine H.out.mono ?_;rintro e d⟨rfl,rfl⟩)
     |(go_at_call 109;refine E.out.mono ?_;rintro e d⟨rfl,rfl⟩)
     |(go_at_call 124;refine A.out.mono ?_;rintro e d⟨rfl,rfl⟩)
     |fail)
     obtain⟨m,l⟩:=ID J.out o.out ⟨3,id,(s.I id).time,[]⟩ (.slice none 0 0) (M.out _);refine A5 (Ed Tryz.results78 _ ⟨w.heap.size,0,none⟩ rfl rfl (FU o.out _ _ _ _)) rfl ⟨⟨3,id,(s.I id).time,[]⟩,.slice none 0 0,true,rfl,m,t.out,l⟩
    .have X:((s.I id).state==3)=false:=by simpa using F
     by_cases N:(s.I id).state=4
     .have t:Hid (gF s id k a=some ⟨4,id,0,[]⟩):=by unfold Hid gF;simp only;rw[aH j,aH f,aH z,aH F,aK N]
      have W:((s.I id).state==4)=true:=by simpa using N
      clear D j hx f z F N;go_enter Tryz.func78,Tryz.ntmps78;go_upto_region 1 with fail;rw[<-hw0];clear hw0;go_wp2_with (first
      |(go_at_call 34;refine H.out.mono ?_;rintro e d⟨rfl,rfl⟩)
      |(go_at_call 109;refine E.out.mono ?_;rintro e d⟨rfl,rfl⟩)
      |(go_at_call 124;refine A.out.mono ?_;rintro e d⟨rfl,rfl⟩)
      |fail)
      obtain⟨m,l⟩:=ID J.out o.out ⟨4,id,0,[]⟩ (.slice none 0 0) (M.out _);refine A5 (Ed Tryz.results78 _ ⟨w.heap.size,0,none⟩ rfl rfl (FU o.out _ _ _ _)) rfl ⟨⟨4,id,0,[]⟩,.slice none 0 0,true,rfl,m,t.out,l⟩
     .have t:Hid (gF s id k a=none):=by unfold Hid gF;simp only;rw[aH j,aH f,aH z,aH F,aH N]
      have W:((s.I id).state==4)=false:=by simpa using N
      clear D j hx f z F N;go_enter Tryz.func78,Tryz.ntmps78;go_upto_region 1 with fail;rw[<-hw0];clear hw0;go_wp2_with (first
      |(go_at_call 34;refine H.out.mono ?_;rintro e d⟨rfl,rfl⟩)
      |(go_at_call 109;refine E.out.mono ?_;rintro e d⟨rfl,rfl⟩)
      |(go_at_call 124;refine A.out.mono ?_;rintro e d⟨rfl,rfl⟩)
      |fail)
      obtain⟨m,l⟩:=ID J.out o.out tC (.slice none 0 0) (M.out _);refine A5 (Ed Tryz.results78 _ ⟨w.heap.size,0,none⟩ rfl rfl (FU o.out _ _ _ _)) rfl ⟨tC,.slice none 0 0,false,rfl,m,t.out,l⟩
