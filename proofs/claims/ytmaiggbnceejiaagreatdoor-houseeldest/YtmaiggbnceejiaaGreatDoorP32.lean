import Derived.Test.YtmaiggbnceejiaaGreatDoorP31
import Derived.Test.YtmaiggbnceejiaaGreatDoorP20
import Derived.Test.YtmaiggbnceejiaaGreatDoorP03
import Derived.Maps.StringElems
import Derived.Test.YtmaiggbnceejiaaGreatDoorP29
set_option linter.unusedVariables false
set_option maxRecDepth 100000
set_option maxHeartbeats 16000000
namespace Go.Proofs.YtmaiggbnceejiaaGreatDoor
open Go.RowKit Go.Lib Go.Maps
def Ws:dW:=nC (fS 2 2)
def uM:ByteArray:=⟨#[97]⟩
def VK:fR:=⟨uM,⟨#[120]⟩,false⟩
def yG:dW × Int:=eZ Ws 1 VK
def xH:dW:=mH (jd (dY yG.1 1 { yG.1.tx 1 with state:=2 }))
def zN:dW:=nC (kD xH)
theorem VI:(fS 2 2).dV.length=0:=by decide +kernel
theorem Yj:yG.2=0:=by decide +kernel
theorem yTr:yG.1.net.lost=0:=by decide +kernel
theorem yTp:xH.net.lost=0:=by decide +kernel
theorem yRd:ij xH 1=2:=by decide +kernel
theorem VH:(kD xH).dV.length=1:=by decide +kernel
theorem yTq:nX yG.1 1=0:=by decide +kernel
theorem Hh:(fL zN 2 uM).2.2.1=true/\(fL zN 2 uM).2.2.2=0/\(fL zN 2 uM).2.1=⟨#[120]⟩:=by decide +kernel
theorem yHe:ij (fL zN 2 uM).1 1=3/\ij (fL zN 2 uM).1 2=1:=by decide +kernel
theorem yTs:yG.1.keys=jI (fun _=>⟨[],[]⟩) uM (iI ⟨[],[]⟩ ⟨1,2⟩).1:=by kernel_rfl
theorem yRe:xr yG.1 1=false:=by
 unfold xr;rw [bT];rintro ⟨k,hk⟩;rw [yTs] at hk;by_cases e:k=uM
 ·subst e;rw [uQ] at hk;exact absurd hk (by decide +kernel)
 ·rw [wj e] at hk;simp at hk
theorem ySo:fa yG.1 1=(xH,0):=by
 unfold fa;rw [aE (fun e=>e yTq),yRe];rfl
theorem rN:Rest (fS 2 2):=Rest.new ⟨by omega,by omega⟩ ⟨by omega,by omega⟩
theorem rA:Rest Ws:=rN.begin (by rw [VI];omega)
theorem rB:Rest yG.1:=rA.put 1 VK
theorem rC:Rest xH:=by have:=rB.end_ 1;rw [ySo] at this;exact this
theorem rD0:Rest (kD xH):=rC.calm
theorem rD:Rest zN:=rD0.begin (by rw [VH];omega)
theorem Rest.yp{h:dW}(hr:Rest h){w:World}{n c:Nat}(he:ET w)(hn:1<n)(hc:c<=9000):Ic w n c h:=⟨hr.c.safe.shape,hr.c.held.ki,he,hn,hc⟩
theorem iD.Jb{w w1 w2:World}{y1 y2:dX}(h:iD w1 y1 w2 y2)(hm:Mod dZ w w1)(hy:∀ k,k<w.heap.size->y1.own k=.no):Mod dZ w w2/\∀ k,k<w.heap.size->y2.own k=.no:=
 ⟨hm.trans' h.md (fun i hi e=>absurd (hy i hi) e),fun k hk=>(h.old k (aG hk hm.size)).trans (hy k hk)⟩
theorem yJi(w:World)(he:ET w)(h1:1<w.heap.size):Calls Tryz.prog 20 #[] w fun e w'=>e=.returned (.bool true)/\Mod dZ w w':=by
 have HE:=dU he;have AQ:Hid (Calls Tryz.prog 19 #[.int .i64 2,.int .i64 2] w fun e w'=>∃ g y,e=.returned (.tuple #[.pointer (some ⟨g,0,none⟩),.nilIface])/\du w' w.heap.size 0 g y (fS 2 2)/\w.heap.size<=g/\Mod dZ w w'/\(∀ k,k<w.heap.size->y.own k=.no)):=yMl w.heap.size 0 2 2 w ⟨by omega,by omega⟩ ⟨by omega,by omega⟩ (aF _);clear he;go_enter Tryz.func20,Tryz.ntmps20;go_wp2_with fail;refine AQ.out.mono ?_;rintro e w1 ⟨g,y0,rfl,hP0,hgl,di,hy0⟩;have HBG:Hid (Calls Tryz.prog 13 #[.pointer (some ⟨g,0,none⟩)] w1 (VA w1 w.heap.size 0 g y0 (fS 2 2))):=TX w.heap.size 0 g y0 (fS 2 2) w1 hP0 rN.c.safe.shape.ll (by rw [VI];omega);have fg:=dU di;have HY0:=dU hy0;clear AQ di hy0 hP0;go_wp2_with fail;refine HBG.out.mono ?_;rintro e w2 ⟨rfl,y1,uG,hs1⟩;rw [VI];obtain ⟨hm2,hy1⟩:=hs1.Jb fg.out HY0.out;have gK:Hid (Calls Tryz.prog 23 #[.pointer (some ⟨g,0,none⟩),.int .i64 1,.agg #[.string ⟨#[97]⟩,.string ⟨#[120]⟩,.bool false]] w2 (iQ w2 w.heap.size 2 g y1 yG.1 yG.2)):=VU w.heap.size 0 g y1 Ws 1 VK w2 uG (rA.yp (HE.out.mod hm2) h1 (by omega)) (by unfold fj;decide +kernel) (by unfold fj;decide +kernel);rw [Yj] at gK;have gu:=dU hm2;have HY1:=dU hy1;clear HBG hm2 hy1 uG hs1 fg HY0;go_wp2_with fail;refine gK.out.mono ?_;rintro e w3 ⟨rfl,y2,KA,hk2⟩;rw [oL];obtain ⟨dz,hy2⟩:=hk2.st.Jb gu.out HY1.out;have xg:Hid (Calls Tryz.prog 15 #[.pointer (some ⟨g,0,none⟩),.int .i64 1] w3 (iQ w3 w.heap.size 2 g y2 xH 0)):=by
  have:=VO w.heap.size 2 g y2 yG.1 1 w3 KA rB.c.safe rB.c.held (by omega) (by rw [yTr];omega);rw [ySo] at this;exact this
 have jt:=dU dz;have HY2:=dU hy2;clear gK dz hy2 KA hk2 gu HY1;go_wp2_with fail;refine xg.out.mono ?_;rintro e w4 ⟨rfl,y3,YT,hk3⟩;rw [oL];obtain ⟨gM,WV⟩:=hk3.st.Jb jt.out HY2.out;have HST:Hid (Calls Tryz.prog 11 #[.pointer (some ⟨g,0,none⟩),.int .i64 1] w4 fun e w'=>e=.returned (.int .i64 2)/\w'=w4):=by
  have:=JD w.heap.size 2 g y3 xH 1 w4 YT rC.c.safe.tl;rw [yRd] at this;exact this
 have HCA:Hid (Calls Tryz.prog 16 #[.pointer (some ⟨g,0,none⟩)] w4 fun e w'=>e=.returned (.tuple #[])/\∃ y',du w' w.heap.size 2 g y' (kD xH)/\eJ w4 y3 w' y'):=Sv w.heap.size 2 g y3 xH w4 YT rC.c (by omega) (by have:=QC rC.c;rw [yTp] at this;omega);have sK:=dU gM;have HY3:=dU WV;clear xg gM WV YT hk3 jt HY2;go_wp2_with fail;refine HST.out.mono ?_;rintro e w' ⟨rfl,rfl⟩;clear HST;go_wp2_with fail;refine HCA.out.mono ?_;rintro e w5 ⟨rfl,y4,hP4,hk4⟩;obtain ⟨eu,WU⟩:=hk4.st.Jb sK.out HY3.out;have qJ:Hid (Calls Tryz.prog 13 #[.pointer (some ⟨g,0,none⟩)] w5 (VA w5 w.heap.size 2 g y4 (kD xH))):=TX w.heap.size 2 g y4 (kD xH) w5 hP4 rD0.c.safe.shape.ll (by rw [VH];omega);have pA:=dU eu;have HY4:=dU WU;clear HCA eu WU hP4 hk4 sK HY3;go_wp2_with fail;refine qJ.out.mono ?_;rintro e w6 ⟨rfl,y5,hP5,hs5⟩;rw [VH];obtain ⟨fq,WT⟩:=hs5.Jb pA.out HY4.out;have Pk:Hid (Calls Tryz.prog 14 #[.pointer (some ⟨g,0,none⟩),.int .i64 2,.string ⟨#[97]⟩] w6 (Af w6 w.heap.size 4 g y5 (fL zN 2 uM))):=yNk w.heap.size 2 g y5 zN 2 uM w6 hP5 (rD.yp (HE.out.mod fq) h1 (by omega)) (by unfold fj;decide +kernel) (rD.c.safe.fV uM);have vN:=dU fq;have HY5:=dU WT;clear qJ fq WT hP5 hs5 pA HY4;go_wp2_with fail;refine Pk.out.mono ?_;rintro e w7 ⟨rfl,y6,Jz,hk6⟩;obtain ⟨v1,v2,v3⟩:=Hh;rw [v1,v2,v3,oL];obtain ⟨ix,-⟩:=hk6.st.Jb vN.out HY5.out;have YQ:Rest (fL zN 2 uM).1:=rD.get 2 uM;have DN:Hid (Calls Tryz.prog 11 #[.pointer (some ⟨g,0,none⟩),.int .i64 1] w7 fun e w'=>e=.returned (.int .i64 3)/\w'=w7):=by
  have:=JD w.heap.size 4 g y6 (fL zN 2 uM).1 1 w7 Jz YQ.c.safe.tl;rw [yHe.1] at this;exact this
 have ZN:Hid (Calls Tryz.prog 11 #[.pointer (some ⟨g,0,none⟩),.int .i64 2] w7 fun e w'=>e=.returned (.int .i64 1)/\w'=w7):=by
  have:=JD w.heap.size 4 g y6 (fL zN 2 uM).1 2 w7 Jz YQ.c.safe.tl;rw [yHe.2] at this;exact this
 have DR:=dU ix;clear Pk ix Jz hk6 vN HY5 YQ v1 v2 v3;go_wp2_with fail;refine DN.out.mono ?_;rintro e w' ⟨rfl,rfl⟩;go_wp2_with fail;refine ZN.out.mono ?_;rintro e w' ⟨rfl,rfl⟩;go_wp2_with fail;go_ret;exact ⟨rfl,DR.out⟩
def actR(d:ActD)(cs:List Value):Prop:=cs=[.int .i64 d.what,.int .i64 d.tx,.int .i64 d.a,.string d.value]/\d.value.size<=maxLen
def ActsV(w:World)(L:Nat)(v:Value)(ds:List ActD):Prop:=gG w L 4 actR v ds
theorem ActsV.at{w:World}{L:Nat}{a:Option Addr}{n cap:Nat}{ds:List ActD}(h:ActsV w L (.slice a n cap) ds){i:Nat}{d:ActD}(hi:ds[i]?=some d):∃ b off,a=some ⟨b,off,none⟩/\b<L/\d.value.size<=maxLen/\w.cell? ⟨b,off+i*4,none⟩=some (.int .i64 d.what)/\w.cell? ⟨b,off+i*4+1,none⟩=some (.int .i64 d.tx)/\w.cell? ⟨b,off+i*4+2,none⟩=some (.int .i64 d.a)/\w.cell? ⟨b,off+i*4+3,none⟩=some (.string d.value):=by
 obtain ⟨b,off,cs,h1,h2,⟨rfl,h3⟩,_,h5⟩:=gG.at h hi;exact ⟨b,off,h1,h2,h3,h5 0 _ rfl,h5 1 _ rfl,h5 2 _ rfl,h5 3 _ rfl⟩
theorem yDh{dV:List gg}{m:Nat}(h:∀ t∈dV,t.ops.length<=m)(id:Nat)(o:gQ):∀ t∈fQ dV id o,t.ops.length<=m+1:=fun t ht=>by
 unfold fQ at ht;split at ht
 ·rename_i u hu;rcases bE ht with q | q
  ·have:=h t q;omega
  ·subst q;have:=h u (aC hu);simp;omega
 ·have:=h t ht;omega
theorem yUc{s:dw}{m:Nat}(h:∀ t∈s.dV,t.ops.length<=m)(x:ActD):∀ t∈(dx s x).dV,t.ops.length<=m+1:=by
 have same:∀ t∈s.dV,t.ops.length<=m+1:=fun t ht=>by have:=h t ht;omega
 obtain ⟨r,hr⟩:∃ r,r=dx s x:=⟨_,rfl⟩;rw [<-hr];unfold dx at hr;by_cases e0:x.what=0
 ·rw [aJ e0] at hr;by_cases e:s.dV.length<7
  ·rw [aJ e] at hr;rw [hr];intro t ht;rcases aL.1 ht with q | q
   ·exact same t q
   ·rw [bK] at q;subst q;simp
  ·rw [aE e] at hr;rw [hr];exact same
 rw [aE e0] at hr;by_cases e1:x.what=1
 ·rw [aJ e1] at hr;rw [hr];dsimp only;split
  ·exact yDh h _ _
  ·exact same
 rw [aE e1] at hr;by_cases e2:x.what=2\/x.what=3
 ·rw [aJ e2] at hr;rw [hr];dsimp only;split
  ·exact yDh h _ _
  ·exact same
 rw [aE e2] at hr;have fin:r.dV=s.dV:=by
  rw [hr]
  repeat (first | rfl | split)
 rw [fin];exact same
theorem Tp{s:dw}{m:Nat}(h:∀ t∈s.dV,t.ops.length<=m)(x:ActD):∀ t∈(kH s x).dV,t.ops.length<=m+1:=fun t ht=>by
 have h2:=yUc (s:={ s with now:=s.now+1 }) h x;obtain ⟨i,hi⟩:=aN ht;unfold kH mb at hi;rw [bM] at hi
 cases hu:(dx { s with now:=s.now+1 } x).dV[i]? with
 | none=>rw [hu] at hi;cases hi
 | some u=>
  rw [hu,bS] at hi;have hm:=h2 u (aC hu);have hi:=ax hi;split at hi
  ·rw [<-hi];exact hm
  ·rw [<-hi];exact hm
def xC(k:Nat)(safe:Bool):dw:=⟨fS 2 k,[],0,safe,k⟩
theorem yMk{k:Nat}(h:1<=k/\k<=3):(fS 2 k).lines.length=3/\(fS 2 k).dV.length=0/\(fS 2 k).net.lost=0/\(fS 2 k).dead.length=0/\(fS 2 k).net.down.length=0/\∀ n∈((fS 2 k).line (dk (fS 2 k))).nodes,n.log.length=0:=by
 rcases (show k=1\/k=2\/k=3 by omega) with rfl | rfl | rfl
 ·decide +kernel
 ·decide +kernel
 ·decide +kernel
theorem yTa{k:Nat}(h:1<=k/\k<=3)(safe:Bool):pU 0 (xC k safe):=by
 obtain ⟨h1,h2,h3,h4,h5,_⟩:=yMk h;exact ⟨Rest.new (shards:=2) (nodes:=k) ⟨by omega,by omega⟩ ⟨by omega,by omega⟩,h1,h2,aV _,by show (fS 2 k).net.lost<=_;rw [h3];omega,by show (fS 2 k).dead.length<=0;omega,by show (fS 2 k).net.down.length<=0;omega,h⟩
theorem ef.made{w:World}{n c g:Nat}{y:dX}{h:dW}(hh:du w n c g y h)(safe:Bool)(k:Nat):ef (w.alloc (.cells #[.pointer (some ⟨g,0,none⟩),.slice none 0 0,.int .i64 0,.bool safe,.int .i64 k] 37)) n c w.heap.size g y (.slice none 0 0) [] ⟨h,[],0,safe,k⟩:=by
 have hno:y.own w.heap.size=.no:=by
  by_cases e:y.own w.heap.size=.no
  ·exact e
  ·have:=(hh.own.lt _ e).2;omega
 refine ⟨dh.new w _ _,hh.quiet ((Mod.refl _ w).alloc _),⟨rfl,World.ownsRow_nil _ _ _ _⟩,fun i t u hi=>(by simp at hi),hno,fun k hk=>(by cases hk),fun u hu=>(by cases hu),fun i j u v k hi=>(by simp at hi)⟩
structure AI(J:dw->Prop)(W:World)(gs g:Nat)(i:Nat)(wr:World):Prop where
 md:Mod dZ W wr
 ex:∃ y xv vs s,ef wr W.heap.size (2*i) gs g y xv vs s/\pU i s/\s.now=i/\(∀ t∈s.dV,t.ops.length<=i)/\W.heap.size<=gs/\J s
def Ia(J:dw->Prop)(W:World)(len:Nat)(e:Ending)(W':World):Prop:=
 (120<len/\e=.returned (.tuple #[.pointer none,.bool true])/\Mod dZ W W')\/(len<=120/\∃ gs g,e=.returned (.tuple #[.pointer (some ⟨gs,0,none⟩),.bool true])/\AI J W gs g len W')
theorem yOj(J:dw->Prop)(nodes:Int)(safe:Bool)(lv:Value)(acts:List ActD)(W:World)(hJ0:∀ k,1<=k/\k<=3->J (xC k safe))(hJ:∀ m s x,pU m s->s.now=m->J s->J (kH s x))(hl:ActsV W W.heap.size lv acts)(hE:ET W)(hNM:NMo W W.heap.size)(h1W:1<W.heap.size) :
  Calls Tryz.prog 7 #[.int .i64 nodes,.bool safe,lv] W (Ia J W acts.length):=by
 obtain ⟨la,fG,hlv,hlc,hlm⟩:=gG.slice hl;subst hlv;have HV:=dU hl;have HE:=dU hE;have PW:=dU hNM;have HJ:=dU hJ;have HJ0:=dU hJ0;clear hl hE hNM hJ hJ0;by_cases h60:120<acts.length
 ·have hb:decide ((acts.length:Int) > 120)=true:=aQ (by omega);have hb2:(120:Int)<(acts.length:Int):=by omega
  go_enter Tryz.func7,Tryz.ntmps7;go_wp2_with fail;go_ret2;exact .inl ⟨h60,rfl,Mod.refl _ _⟩
 have hb:decide ((acts.length:Int) > 120)=false:=aP (by omega);have hb2:¬ (120:Int)<(acts.length:Int):=by omega
 have hb3:¬ 120<acts.length:=h60;have xe:Hid (Calls Tryz.prog 18 #[.int .i64 nodes,.int .i64 3] W fun e w'=>e=.returned (.int .i64 (jb nodes 3))/\w'=W):=Bv nodes 3 W (by omega) (by omega);have hpl:=Aq nodes 3 (by omega);obtain ⟨pk,hpk⟩:∃ z,z=jb nodes 3:=⟨_,rfl⟩;rw [<-hpk] at xe hpl;clear hpk;have ew:wrap64 (1+(pk:Int))=((pk+1:Nat):Int):=by rw [show (1:Int)+(pk:Int)=((pk+1:Nat):Int) by omega];exact IntWalk.wrap64_in _ ⟨by omega,by omega⟩
 have Ry:IntKind.i64.wrap (1+(pk:Int))=((pk+1:Nat):Int):=by rw [show (1:Int)+(pk:Int)=((pk+1:Nat):Int) by omega];exact IntWalk.i64_in _ ⟨by omega,by omega⟩
 have AY:Hid (1<=pk+1/\pk+1<=3):=⟨by omega,by omega⟩;obtain ⟨kn,hkn⟩:∃ z,z=pk+1:=⟨_,rfl⟩;rw [<-hkn] at ew Ry AY;have AQ:Hid (Calls Tryz.prog 19 #[.int .i64 2,.int .i64 kn] W fun e w'=>∃ g y,e=.returned (.tuple #[.pointer (some ⟨g,0,none⟩),.nilIface])/\du w' W.heap.size 0 g y (fS 2 kn)/\W.heap.size<=g/\Mod dZ W w'/\(∀ k,k<W.heap.size->y.own k=.no)):=yMl W.heap.size 0 2 kn W ⟨by omega,by omega⟩ ⟨by have:=AY.out;omega,by have:=AY.out;omega⟩ (aF _);clear hpl hkn;go_enter Tryz.func7,Tryz.ntmps7;go_wp2_with fail;refine xe.out.mono ?_;rintro e wz ⟨rfl,hwz⟩;rw [hwz];clear xe hwz wz;go_wp2_with fail;refine AQ.out.mono ?_;rintro e w1 ⟨g,y,rfl,uG,hgl,di,hy1⟩;have vP:=dU (yJi w1 (HE.out.mod di) (aG h1W di.size));have Bc:=dU uG;have fg:=dU di;clear AQ uG di hy1;go_wp2_with fail;refine vP.out.mono ?_;rintro e w2 ⟨rfl,hm2⟩;have AP:=dU (Bc.out.quiet hm2);have gu:Hid (Mod dZ W w2):=fg.out.trans hm2;clear vP hm2 Bc fg;obtain ⟨w3,hw3⟩:∃ z,z=w2.alloc (.cells #[.pointer (some ⟨g,0,none⟩),.slice none 0 0,.int .i64 0,.bool safe,.int .i64 kn] 37):=⟨_,rfl⟩;have hs3:ef w3 W.heap.size 0 w2.heap.size g y (.slice none 0 0) [] (xC kn safe):=by rw [hw3];exact ef.made AP.out safe kn
 have hWs:=gu.out.size;have IC:Hid (AI J W w2.heap.size g 0 w3):=by
  refine ⟨?_,y,.slice none 0 0,[],xC kn safe,hs3,yTa AY.out safe,rfl,fun t ht=>by simp [xC] at ht,hWs,HJ0.out kn AY.out⟩;rw [hw3];exact gu.out.alloc _
 clear hs3 AP hgl HJ0;go_upto_region 8 with fail;rw [<-hw3];clear hw3;obtain ⟨gs,BO⟩:∃ z,z=w2.heap.size:=⟨_,rfl⟩;rw [<-BO] at IC ⊢;clear BO hWs gu;go_wp2_with fail;go_loopw [11] (fun i0 wr=>∃ i:Nat,i<=acts.length/\i0=.int .i64 i/\AI J W gs g i wr) (fun i0 _=>acts.length - (intOf i0).toNat)
 case atStart=>exact ⟨0,aV _,rfl,IC.out⟩
 case round=>
  obtain ⟨i,hil,rfl,hC⟩:=hrel;clear IC;by_cases hlt:i<acts.length
  ·obtain ⟨iK,yi,xvi,vsi,si,Rk,zy,kc,hop,hgl,hJi⟩:=hC;obtain ⟨x,hx⟩:∃ x,acts[i]?=some x:=⟨_,aA hlt⟩;obtain ⟨lb,lo,rfl,hlb,hval,q0,q1,q2,q3⟩:=ActsV.at (show ActsV wr W.heap.size (.slice la acts.length fG) acts from gG.mod HV.out iK (fun _ _=>id) (fun _ _ h=>h)) hx;have zl:lb<wr.heap.size:=World.block_lt_of_cell? wr _ q0;have kO:(i:Int)<(acts.length:Int):=by omega
   have hi0:(0:Int)<=(i:Int):=by omega
   have lX:=dU (yBd W.heap.size (2*i) i gs g yi xvi vsi si x wr ⟨Rk,zy,PW.out.mod iK (fun _ _=>id),HE.out.mod iK,h1W,by omega,by omega,hgl,by omega,hop⟩ hval);obtain ⟨gOK,-,OZ,-⟩:=JG zy x;have gOp:=Tp hop x;have gJ:=HJ.out i si x zy kc hJi;have ir:Hid (∀ yn Dt Du w6,ef w6 W.heap.size (2*i+2) gs g yn Dt Du (kH si x)->jX gs wr yi xvi vsi w6 yn Dt Du->AI J W gs g (i+1) w6):=fun yn Dt Du w6 h1 h2=>by
    refine ⟨iK.trans' h2.md (fun k hk e=>?_),yn,Dt,Du,kH si x,h1,gOK,by rw [OZ,kc];omega,gOp,hgl,gJ⟩;rcases e with e | e
    ·have:=(Rk.house.own.lt k e).1;omega
    ·have:=(Rk.cells hgl e).1;omega
   clear iK Rk zy kc hop hx hval gOK OZ gOp gJ hJi;go_wp2_with fail;refine lX.out.mono ?_;rintro e w6 ⟨rfl,NC⟩;obtain ⟨yn,Dt,Du,Jz,BW⟩:=NC;have HI:=dU (ir.out yn Dt Du w6 Jz BW);clear Jz BW ir lX q0 q1 q2 q3;go_wp2_with fail;go_roundw
   case rel=>exact ⟨i+1,by omega,by go_num,HI.out⟩
   case measure=>simp [intOf];omega
  ·obtain rfl:i=acts.length:=by omega
   have HC:=dU hC;clear hC;go_wp2_with fail;go_ret2;exact .inr ⟨by omega,gs,g,rfl,HC.out⟩

def RF:mT:=fun _=>Ih
def yf(o:gQ):Option VD:=if o.kind=2 then some ⟨o.value,true⟩ else if o.kind=3 then some Ih else none
def lC:List gQ->ByteArray->Option VD
 | [],_=>none
 | o :: os,k=>match lC os k with
  | some v=>some v
  | none=>if o.key=k then yf o else none
theorem UF:∀ (os:List gQ) (o:gQ) (k:ByteArray),lC (os++[o]) k=if o.key=k/\(yf o).isSome=true then yf o else lC os k
 | [],o,k=>by
  simp only [ak,lC];by_cases e:o.key=k
  ·rw [aJ e]
   cases hw:yf o with
   | none=>simp
   | some v=>simp [e]
  ·rw [aE e,aE (fun q=>e q.1)]
 | p :: os,o,k=>by
  rw [bU,lC,UF os o k];by_cases e:o.key=k/\(yf o).isSome=true
  ·rw [aJ e,aJ e];obtain ⟨v,hv⟩:=az.1 e.2;rw [hv]
  ·rw [aE e,aE e];rfl
theorem JE:∀ {os:List gQ} {k:ByteArray},(lC os k).isSome=true->∃ o∈os,o.key=k/\(o.kind=2\/o.kind=3)
 | [],k,h=>by simp [lC] at h
 | o :: os,k,h=>by
  rw [lC] at h
  cases hl:lC os k with
  | some v=>
   obtain ⟨o',h1,h2⟩:=JE (os:=os) (k:=k) (by rw [hl];rfl);exact ⟨o',by simp [h1],h2⟩
  | none=>
   rw [hl] at h;simp only at h;split at h
   ·rename_i e;refine ⟨o,by simp,e,?_⟩;unfold yf at h;split at h
    ·rename_i q;exact .inl q
    ·split at h
     ·rename_i q;exact .inr q
     ·simp at h
   ·simp at h
theorem VN{s s1:mT}{o:gQ}{us:List (ByteArray × VD)}(h:oG s o=some (s1,us))(k:ByteArray):s1 k=(if o.key=k then yf o else none).getD (s k):=by
 unfold oG at h;unfold yf;split at h
 ·rename_i e;split at h
  ·cases h
   have e2:¬ o.kind=2:=by omega
   have e3:¬ o.kind=3:=by omega
   simp [e2,e3]
  ·cases h
 ·split at h
  ·rename_i e
   cases h
   unfold CI;by_cases q:k=o.key
   ·rw [aJ q,aJ q.symm,aJ e];rfl
   ·rw [aE q,aE (fun z=>q z.symm)];rfl
  ·split at h
   ·rename_i e2 e
    cases h
    unfold CI;by_cases q:k=o.key
    ·rw [aJ q,aJ q.symm,aE e2,aJ e];rfl
    ·rw [aE q,aE (fun z=>q z.symm)];rfl
   ·rename_i e2 e3
    cases h
    simp [e2,e3]
theorem QI:∀ {os:List gQ} {s s1:mT} {us:List (ByteArray × VD)},nk s os=some (s1,us)->∀ k,s1 k=(lC os k).getD (s k)
 | [],s,s1,us,h,k=>by simp [nk] at h;rw [<-h.1];rfl
 | o :: os,s,s1,us,h,k=>by
  rw [nk] at h
  cases hp:oG s o with
  | none=>rw [hp] at h;cases h
  | some r=>
   rw [hp] at h;simp only at h
   cases hq:nk r.1 os with
   | none=>rw [hq] at h;cases h
   | some t=>
    rw [hq] at h;simp at h;obtain ⟨rfl,_⟩:=h;have e1:=VN (us:=r.2) hp k;have e2:=QI (us:=t.2) hq k;rw [e2,e1,lC]
    cases lC os k with
    | some v=>rfl
    | none=>rfl
theorem yRu{s s':mT}{o:gQ}(h:s o.key=s' o.key):(oG s o).isSome=(oG s' o).isSome:=by
 unfold oG;rw [h];split
 ·split <;> rfl
 ·split
  ·rfl
  ·split <;> rfl
theorem yCz:∀ {os:List gQ} {s s':mT},(∀ o∈os,s o.key=s' o.key)->(nk s os).isSome=true->(nk s' os).isSome=true
 | [],s,s',_,_=>rfl
 | o :: os,s,s',he,h=>by
  rw [nk] at h ⊢;have h0:=yRu (he o (by simp))
  cases hp:oG s o with
  | none=>rw [hp] at h;simp at h
  | some r=>
   rw [hp] at h h0;obtain ⟨r',hr'⟩:=az.1 (h0.symm.trans rfl);rw [hr'];simp only at h ⊢;have hs:(nk r.1 os).isSome=true:=by
    cases hq:nk r.1 os with
    | none=>rw [hq] at h;simp at h
    | some t=>rfl
   have:=yCz (s':=r'.1) (fun o' ho'=>by rw [VN (us:=r.2) hp,VN (us:=r'.2) hr',he o' (by simp [ho'])]) hs;obtain ⟨t,ht⟩:=az.1 this;rw [ht];rfl
theorem yJs{os:List gQ}{s:mT}{o:gQ}(h:(nk s os).isSome=true)(hr:o.kind=1->(lC os o.key).getD (s o.key)=JW o):(nk s (os++[o])).isSome=true:=by
 obtain ⟨t,ht⟩:=az.1 h;rw [zXs os s t.1 t.2 o ht,Option.isSome_map];unfold oG;split
 ·rename_i e;rw [QI (us:=t.2) ht,hr e,aJ rfl];rfl
 ·split
  ·rfl
  ·split <;> rfl
def nz(O:Nat->List gQ):mT->List Nat->Option mT
 | s,[]=>some s
 | s,d :: ds=>match nk s (O d) with
  | none=>none
  | some r=>nz O r.1 ds
theorem Ts(O:Nat->List gQ):∀ (ds:List Nat) (s:mT) (d:Nat),nz O s (ds++[d])=(nz O s ds).bind fun v=>(nk v (O d)).map (·.1)
 | [],s,d=>by
  simp only [ak,nz,cy]
  cases nk s (O d) with
  | none=>rfl
  | some r=>rfl
 | x :: ds,s,d=>by
  simp only [bU,nz]
  cases nk s (O x) with
  | none=>rfl
  | some r=>exact Ts O ds r.1 d
theorem yGn{O O':Nat->List gQ}:∀ (ds:List Nat) (s:mT),(∀ d∈ds,O' d=O d)->nz O' s ds=nz O s ds
 | [],s,_=>rfl
 | d :: ds,s,h=>by
  simp only [nz];rw [h d (by simp)]
  cases nk s (O d) with
  | none=>rfl
  | some r=>exact yGn ds r.1 (fun x hx=>h x (by simp [hx]))
def xp(O:Nat->List gQ)(ds:List Nat)(k:ByteArray):Option Nat:=ds.reverse.find? fun d=>(lC (O d) k).isSome
theorem yJd(O:Nat->List gQ)(ds:List Nat)(d:Nat)(k:ByteArray):xp O (ds++[d]) k=if (lC (O d) k).isSome then some d else xp O ds k:=by
 unfold xp;rw [List.reverse_append,List.reverse_singleton,List.singleton_append,cE];split <;> rename_i e <;> simp [e]
theorem yTd(O:Nat->List gQ)(k:ByteArray)(s:mT)(rs:List Nat):∀ (V:mT),nz O s rs.reverse=some V->V k=((xp O rs.reverse k).bind fun d=>lC (O d) k).getD (s k):=by
 induction rs with
 | nil=>intro V h;simp only [nz,List.reverse_nil,bB] at h;rw [<-h];rfl
 | cons d rs ih=>
  intro V h;rw [List.reverse_cons] at h ⊢;obtain ⟨ds,hds⟩:∃ z,z=rs.reverse:=⟨_,rfl⟩;rw [<-hds] at h ih ⊢;rw [Ts] at h
  cases hv:nz O s ds with
  | none=>rw [hv] at h;cases h
  | some U=>
   rw [hv,cy] at h
   cases hq:nk U (O d) with
   | none=>rw [hq] at h;cases h
   | some r=>
    rw [hq,bS] at h;have h:=ax h;rw [<-h,QI (us:=r.2) hq,yJd,ih U hv];split
    ·rename_i e;obtain ⟨v,hv'⟩:=az.1 e;rw [hv',cy,hv'];rfl
    ·rename_i e
     cases hl:lC (O d) k with
     | some v=>rw [hl] at e;simp at e
     | none=>rfl
theorem Fl{O:Nat->List gQ}{s V:mT}{ds:List Nat}(h:nz O s ds=some V)(k:ByteArray):V k=((xp O ds k).bind fun d=>lC (O d) k).getD (s k):=by
 have:=yTd O k s ds.reverse V;rw [List.reverse_reverse] at this;exact this h
def pR(k:eh)(x:Int)(w:Bool):Prop:=∃ c∈k.held,c.tx=x/\(w=true->c.mode=2)
theorem pR.over{k:eh}{held:List dg}{x:Int}{w:Bool}(h:pR k x w)(ho:Over k.held held){ws:List dg}:pR ⟨held,ws⟩ x w:=by
 obtain ⟨c,hc,e1,e2⟩:=h;obtain ⟨b,hb,e3,e4⟩:=ho c hc;exact ⟨b,hb,by omega,fun q=>e4 (e2 q)⟩
theorem Tn:∀ (q held kept:List dg),jl held->jl (kept++q)->(∀ c∈held,c.mode=1\/c.mode=2)->(∀ c∈kept++q,c.mode=1\/c.mode=2)->(∀ c∈kept++q,∀ o∈held,o.tx=c.tx->o.mode<c.mode)->Over held (iw held kept q).1
 | [],held,kept,_,_,_,_,_=>Over.refl _
 | c :: q,held,kept,h1,h2,h3,h4,h5=>by
  have hc:=h4 c (by simp);have hel:∀ x∈kept++q,x.tx≠c.tx:=fun x hx=>by
   have hp:=bW.1 h2;rcases aL.1 hx with m | m
   ·have:=hp.2.2 x m c (by simp);omega
   ·have:=bO hp.2.1 m;omega
  unfold iw;split
  ·have hsub:(kept++q).Sublist (kept++c :: q):=List.Sublist.append (List.Sublist.refl _) (List.sublist_cons_self _ _);refine Over.trans (QT h1 hc (fun o ho e1 e2=>by have:=h5 c (by simp) o ho e1;omega)) (Tn q (jM held c) kept (By h1 c) (h2.sublist hsub) (fun x hx=>?_) (fun x hx=>h4 x (hsub.subset hx)) (fun x hx o ho e=>?_))
   ·rcases (lp h1 c x).1 hx with q' | q'
    ·rw [q'];exact hc
    ·exact h3 x q'.1
   ·rcases (lp h1 c o).1 ho with q' | q'
    ·rw [q'] at e;exact absurd e.symm (hel x hx)
    ·exact h5 x (hsub.subset hx) o q'.1 e
  ·have e:kept++[c]++q=kept++c :: q:=by simp
   exact Tn q held (kept++[c]) h1 (by rw [e];exact h2) h3 (by rw [e];exact h4) (by rw [e];exact h5)
theorem pR.rel{s:fv}{k:ByteArray}{x t:Int}{w:Bool}(hk:mW (s k))(h:pR (s k) x w)(hne:x≠t):pR (gI s t k) x w:=by
 unfold gI;split
 ·obtain ⟨c,hc,e1,e2⟩:=h;have hs1:(kR (s k).held t).Sublist (s k).held:=bQ;have hs2:(kR (s k).waits t).Sublist (s k).waits:=bQ;obtain ⟨b,hb,e3,e4⟩:=Tn (kR (s k).waits t) (kR (s k).held t) [] (hk.held.sublist hs1) (show jl ([]++kR (s k).waits t) from hk.waits.sublist hs2) (fun c hc=>hk.hmode c (hs1.subset hc)) (fun c hc=>hk.pc c (hs2.subset (by simpa using hc))) (fun c hc o ho e=>hk.wants c (hs2.subset (by simpa using hc)) o (hs1.subset ho) e) c (nZ.2 ⟨hc,by omega⟩);exact ⟨b,hb,by omega,fun q=>e4 (e2 q)⟩
 ·exact h
theorem pR.lock{k:eh}{x:Int}{w:Bool}{c:dg}(hk:mW k)(hc:c.mode=1\/c.mode=2)(h:pR k x w):pR (iI k c).1 x w:=by
 unfold iI;split
 ·exact h
 ·split
  ·exact h
  ·rename_i e1 e2;split
   ·exact h.over (QT hk.held hc (fun o ho q1 q2=>by
     have:=DY hk.held ho;rw [q1] at this;omega))
   ·split
    ·exact h
    ·exact h.over (Over.refl _)
theorem pR.alone{W:List Int}{k:eh}(h:qK W k){x y:Int}{w:Bool}(hx:pR k x true)(hy:pR k y w):x=y:=by
 obtain ⟨c,hc,e1,e2⟩:=hx;obtain ⟨d,hd,e3,_⟩:=hy;have:=h.alone c hc d hd;unfold kL at this;rw [e2 rfl] at this;simp at this;omega
theorem pR.CQ{k:eh}(h:mW k){x m:Int}(hm:m=1\/m=2)(hx:¬ iM k.held x<m):pR k x (decide (m=2)):=by
 have h0:iM k.held x≠0:=by omega
 have:∃ c∈k.held,c.tx=x:=aR fun q=>h0 ((Dg h.held h.h0).2 fun c hc e=>q ⟨c,hc,e⟩);obtain ⟨c,hc,e⟩:=this;have hmo:=DY h.held hc;rw [e] at hmo;exact ⟨c,hc,e,fun q=>by
  have h1:=h.hmode c hc;have h2:m=2:=of_decide_eq_true q;omega⟩
theorem pR.less{k:eh}{x:Int}{w w':Bool}(h:pR k x w)(hw:w'=true->w=true):pR k x w':=by
 obtain ⟨c,hc,e1,e2⟩:=h;exact ⟨c,hc,e1,fun q=>e2 (hw q)⟩
def oh(p:fR):VD:=if p.gone then Ih else ⟨p.val,true⟩
def lq(ws:List fR)(k:ByteArray):Option VD:=(ws.find? fun p=>decide (p.key=k)).map oh
def jm(s:dW)(id:Nat):Prop:=1<=id/\id<=s.dV.length/\((s.tx id).state=1\/(s.tx id).state=2)
def Lz(D:List Nat)(a b:Nat):Prop:=b∈D->∃ p q:Nat,p<q/\D[p]?=some a/\D[q]?=some b
structure eY(E:Nat->Prop)(O:Nat->List gQ)(D:List Nat)(V:mT)(s:dW):Prop where
 nd:D.Nodup
 dm:∀ id,id∈D↔1<=id/\id<=s.dV.length/\(s.tx id).state=3
 run:nz O RF D=some V
 out:∀ id,¬ (1<=id/\id<=s.dV.length)->O id=[]
 kd:∀ id,∀ o∈O id,(o.kind=1\/o.kind=2\/o.kind=3)/\o.key.size<=20
 opn:∀ id,jm s id->(nk V (O id)).isSome=true
 vr:∀ id,jm s id->∀ o∈O id,pR (s.keys o.key) id (decide (o.kind≠1))
 ats:∀ id,1<=id->id<=s.dV.length->(s.tx id).state≠4->∀ o∈O id,(s.tx id).ats.getD (ee s o.key) 0≠0
 tz:∀ id,jm s id->((s.tx id).writes.map (·.key)).Nodup
 tu:∀ id,jm s id->∀ k,lq (s.tx id).writes k=lC (O id) k
 xE:∀ K,K<dk s->∀ c∈(dy s K).log,c.kind=2->(s.tx c.tx.toNat).state≠4->(c.writes.map (·.key)).Nodup/\∀ k,ee s k=K->lq c.writes k=lC (O c.tx.toNat) k
 hd1:∀ id,jm s id->¬ E id->∀ o∈O id,∀ a∈D,(lC (O a) o.key).isSome=true->nQ (dy s (ee s o.key)).log 3 a
 hd2:∀ K,K<dk s->∀ (i:Nat) c,(dy s K).log[i]?=some c->c.kind=2->(s.tx c.tx.toNat).state≠4->∀ o∈O c.tx.toNat,ee s o.key=K->∀ a∈D,(lC (O a) o.key).isSome=true->Lz D a c.tx.toNat->∃ (j:Nat) (d:dt),j<i/\(dy s K).log[j]?=some d/\d.kind=3/\d.tx=(a:Int)
def fA(Q:List Nat->Prop)(O:Nat->List gQ)(s:dW):Prop:=(∀ D d,Q D->d∉D->Q (D++[d]))/\∃ D V,eY (fun _=>False) O D V s/\Q D
theorem eY.same{E:Nat->Prop}{O:Nat->List gQ}{D:List Nat}{V:mT}{s s':dW}(h:eY E O D V s)(ht:s'.dV=s.dV)(hk:s'.keys=s.keys)(hl:s'.lines.length=s.lines.length)(hn:∀ K,K<dk s->(dy s' K).log=(dy s K).log)(h2:2<=s.lines.length):eY E O D V s':=by
 have e:∀ i,s'.tx i=s.tx i:=fun i=>by unfold dW.tx;rw [ht]
 have ed:dk s'=dk s:=by unfold dk;rw [hl]
 have es:∀ k,ee s' k=ee s k:=fun k=>by unfold ee;rw [ed]
 have hL:∀ {i},jm s' i->jm s i:=fun {i} q=>by unfold jm at q ⊢;rw [ht,e] at q;exact q
 have Wp:∀ k,ee s k<dk s:=fun k=>Bw h2 k;exact ⟨h.nd,fun id=>by rw [ht,e];exact h.dm id,h.run,by rw [ht];exact h.out,h.kd,fun id q=>h.opn id (hL q),fun id q=>by rw [hk];exact h.vr id (hL q),fun id q1 q2 q3 o ho=>by rw [e,es];rw [ht] at q2;rw [e] at q3;exact h.ats id q1 q2 q3 o ho,
  fun id q=>by rw [e];exact h.tz id (hL q),fun id q=>by rw [e];exact h.tu id (hL q),fun K hK c hc q1 q2=>by
   rw [ed] at hK;rw [hn K hK] at hc;rw [e] at q2;obtain ⟨z1,z2⟩:=h.xE K hK c hc q1 q2;exact ⟨z1,fun k hk=>z2 k (by rw [<-es];exact hk)⟩,
  fun id q hE o ho a ha q2=>by rw [es,hn _ (Wp _)];exact h.hd1 id (hL q) hE o ho a ha q2,fun K hK i c hi q1 q2 o ho q3 a ha q4 q5=>by
   rw [ed] at hK;rw [hn K hK] at hi ⊢;rw [e] at q2;rw [es] at q3;exact h.hd2 K hK i c hi q1 q2 o ho q3 a ha q4 q5⟩
theorem eY.gone{E E':Nat->Prop}{O:Nat->List gQ}{D:List Nat}{V:mT}{X:List Int}{s s':dW}(h:eY E O D V s)(hH:jD X s){id:Nat}(h1:1<=id)(h2:id<=s.dV.length)(hst:(s.tx id).state≠3)(hl:s'.lines=s.lines)(hlen:s'.dV.length=s.dV.length)(hk:s'.keys=gI s.keys id)(hx:∀ j,1<=j->j≠id->s'.tx j=s.tx j)(h4:(s'.tx id).state=4)(hE:∀ j,j≠id->¬ E' j->¬ E j):eY E' O D V s':=by
 have ed:dk s'=dk s:=by unfold dk;rw [hl]
 have es:∀ k,ee s' k=ee s k:=fun k=>by unfold ee;rw [ed]
 have en:∀ K,dy s' K=dy s K:=An hl;have hL:∀ {i},jm s' i->i≠id/\jm s i/\s'.tx i=s.tx i:=fun {i} q=>by
  have hne:i≠id:=fun q2=>by rw [q2] at q;have:=q.2.2;omega
  have e:=hx i q.1 hne;refine ⟨hne,?_,e⟩;unfold jm at q ⊢;rw [hlen,e] at q;exact q
 have h0:s'.tx 0=s'.tx 1:=rfl;have h00:s.tx 0=s.tx 1:=rfl;have hT:∀ j,(s'.tx j).state≠4->s'.tx j=s.tx j:=fun j q=>by
  by_cases e0:j=0
  ·rw [e0,h0] at q;rw [e0,h0,h00];exact hx 1 (by omega) (fun q2=>by rw [q2] at q;exact q h4)
  ·exact hx j (by omega) (fun q2=>by rw [q2] at q;exact q h4)
 refine ⟨h.nd,fun i=>?_,h.run,by rw [hlen];exact h.out,h.kd,fun i q=>h.opn i (hL q).2.1,fun i q o ho=>?_,fun i q1 q2 q3 o ho=>?_,fun i q=>?_,fun i q=>?_,fun K hK c hc q1 q2=>?_,fun i q wF o ho a ha q2=>?_,fun K hK i c hi q1 q2 o ho q3 a ha q4 q5=>?_⟩
 ·rw [h.dm i,hlen];by_cases e:i=id
  ·subst e;constructor
   ·intro q;exact absurd q.2.2 hst
   ·intro q;have:=q.2.2;omega
  ·constructor
   ·intro q;exact ⟨q.1,q.2.1,by rw [hx i q.1 e];exact q.2.2⟩
   ·intro q;exact ⟨q.1,q.2.1,by rw [<-hx i q.1 e];exact q.2.2⟩
 ·obtain ⟨z1,z2,z3⟩:=hL q;rw [hk];exact (h.vr i z2 o ho).rel (hH.apart _).ok (by omega)
 ·have e:=hT i q3;rw [e] at q3 ⊢;rw [es];rw [hlen] at q2;exact h.ats i q1 q2 q3 o ho
 ·obtain ⟨z1,z2,z3⟩:=hL q;rw [z3];exact h.tz i z2
 ·obtain ⟨z1,z2,z3⟩:=hL q;rw [z3];exact h.tu i z2
 ·rw [ed] at hK;rw [en] at hc;rw [hT _ q2] at q2;obtain ⟨z1,z2⟩:=h.xE K hK c hc q1 q2;exact ⟨z1,fun k hk=>z2 k (by rw [<-es];exact hk)⟩
 ·obtain ⟨z1,z2,z3⟩:=hL q;rw [es,en];exact h.hd1 i z2 (hE i z1 wF) o ho a ha q2
 ·rw [ed] at hK;rw [en] at hi ⊢;rw [hT _ q2] at q2;rw [es] at q3;exact h.hd2 K hK i c hi q1 q2 o ho q3 a ha q4 q5
theorem yFx(s:dW){id:Nat}(h1:1<=id)(h2:id<=s.dV.length):((gO s id).tx id).state=4:=by
 unfold gO nr;split
 ·show ((dY (dY s id _) id _).tx id).state=4;rw [mq _ id _ h1 h1 (by simp [dY];omega),aJ rfl]
 ·show ((dY s id _).tx id).state=4;rw [mq _ id _ h1 h1 h2,aJ rfl]
theorem zVg(s:dW)(id:Nat):(gO s id).lines=s.lines:=by
 unfold gO nr;split <;> rfl
theorem eY.abort{E E':Nat->Prop}{O:Nat->List gQ}{D:List Nat}{V:mT}{X:List Int}{s:dW}(h:eY E O D V s)(hH:jD X s){id:Nat}(h1:1<=id)(h2:id<=s.dV.length)(hst:(s.tx id).state≠3)(hE:∀ j,j≠id->¬ E' j->¬ E j):eY E' O D V (gO s id):=
 h.gone hH h1 h2 hst (zVg s id) (Iz s id) (QZ s id) (fun j hj hne=>Dk s (by omega)) (yFx s h1 h2) hE
section
variable {E:Nat->Prop} {O:Nat->List gQ} {D:List Nat} {V:mT} {s s':dW}
theorem eY.Ve(h:eY E O D V s){id:Nat}(h1:1<=id)(h2:id<=s.dV.length){t:jO}(hw:t.writes=(s.tx id).writes)(ha:∀ k,(s.tx id).ats.getD k 0≠0->t.ats.getD k 0≠0)(hst:t.state=(s.tx id).state\/((s.tx id).state=1/\t.state=2)):eY E O D V (dY s id t):=by
 have hlen:(dY s id t).dV.length=s.dV.length:=by simp [dY]
 have es:∀ k,ee (dY s id t) k=ee s k:=fun k=>rfl;have en:∀ K,dy (dY s id t) K=dy s K:=An rfl;have hx:∀ j,1<=j->(dY s id t).tx j=if j=id then t else s.tx j:=fun j hj=>mq s id t hj h1 h2
 have hS:∀ j,((dY s id t).tx j).state=3↔(s.tx j).state=3:=fun j=>by
  by_cases e0:j=0
  ·subst e0;have q1:(dY s id t).tx 0=(dY s id t).tx 1:=rfl;have q2:s.tx 0=s.tx 1:=rfl;rw [q1,q2,hx 1 (by omega)];split
   ·rename_i e;rw [e];omega
   ·exact Iff.rfl
  ·rw [hx j (by omega)];split
   ·rename_i e;rw [e];omega
   ·exact Iff.rfl
 have h4:∀ j,((dY s id t).tx j).state≠4->(s.tx j).state≠4:=fun j=>by
  by_cases e0:j=0
  ·subst e0;have q1:(dY s id t).tx 0=(dY s id t).tx 1:=rfl;have q2:s.tx 0=s.tx 1:=rfl;rw [q1,q2,hx 1 (by omega)];split
   ·rename_i e;rw [e];omega
   ·exact fun q=>q
  ·rw [hx j (by omega)];split
   ·rename_i e;rw [e];omega
   ·exact fun q=>q
 have hL:∀ {i},jm (dY s id t) i->jm s i:=fun {i} q=>by
  refine ⟨q.1,by rw [<-hlen];exact q.2.1,?_⟩;have:=q.2.2;rw [hx i q.1] at this;split at this
  ·rename_i e;rw [e];omega
  ·exact this
 have hW:∀ i,1<=i->((dY s id t).tx i).writes=(s.tx i).writes:=fun i hi=>by
  rw [hx i hi];split
  ·rename_i e;rw [e];exact hw
  ·rfl
 refine ⟨h.nd,fun i=>by rw [h.dm i,hlen,hS],h.run,by rw [hlen];exact h.out,h.kd,fun i q=>h.opn i (hL q),fun i q=>h.vr i (hL q),fun i q1 q2 q3 o ho=>?_,fun i q=>by rw [hW i q.1];exact h.tz i (hL q),fun i q=>by rw [hW i q.1];exact h.tu i (hL q),fun K hK c hc q1 q2=>?_,fun i q wF o ho a ha q2=>?_,fun K hK i c hi q1 q2 o ho q3 a ha q4 q5=>?_⟩
 ·have:=h.ats i q1 (by rw [<-hlen];exact q2) (h4 i q3) o ho;rw [hx i q1];split
  ·rename_i e;rw [e] at this;exact ha _ this
  ·exact this
 ·rw [en] at hc;exact h.xE K hK c hc q1 (h4 _ q2)
 ·rw [en];exact h.hd1 i (hL q) wF o ho a ha q2
 ·rw [en] at hi ⊢;exact h.hd2 K hK i c hi q1 (h4 _ q2) o ho q3 a ha q4 q5
theorem eY.keys(h:eY E O D V s){keys:fv}(hk:∀ k x w,pR (s.keys k) x w->pR (keys k) x w):eY E O D V { s with keys:=keys }:=
 ⟨h.nd,h.dm,h.run,h.out,h.kd,h.opn,fun id q o ho=>hk _ _ _ (h.vr id q o ho),h.ats,h.tz,h.tu,h.xE,h.hd1,h.hd2⟩
theorem eY.locked{X:List Int}(h:eY E O D V s)(hH:jD X s)(id:Int)(key:ByteArray){mode:Int}(hm:mode=1\/mode=2):eY E O D V (gZ s id key mode).1:=by
 refine h.keys (fun k x w q=>?_);by_cases e:k=key
 ·subst e;rw [uQ];exact q.lock (hH.apart k).ok hm
 ·rw [wj e];exact q
theorem eY.begin(h:eY E O D V s)(h2:2<=s.lines.length):eY E O D V (nC s):=by
 have hlen:=Br s;have en:∀ K,dy (nC s) K=dy s K:=An rfl;have hold:∀ i,i<=s.dV.length->O i≠[]->1<=i/\(nC s).tx i=s.tx i:=fun i hi hO=>by
  have h1:1<=i:=Nat.pos_of_ne_zero fun e=>hO (h.out i (by omega));exact ⟨h1,wZ s h1 hi⟩
 have hnew:O (s.dV.length+1)=[]:=h.out _ (by omega);have hlt:∀ i,(O i≠[])->1<=i/\i<=s.dV.length:=fun i hO=>aR fun q=>hO (h.out i q);have hL:∀ {i},jm (nC s) i->jm s i\/i=s.dV.length+1:=fun {i} q=>by
  have q2:=q.2.1;rw [hlen] at q2;by_cases e:i=s.dV.length+1
  ·exact .inr e
  ·refine .inl ⟨q.1,by omega,?_⟩;have:=q.2.2;rw [wZ s q.1 (by omega)] at this;exact this
 have hO:∀ {i:Nat} {o:gQ},o∈O i->1<=i/\i<=s.dV.length:=fun {i o} ho=>hlt i (fun e=>by rw [e] at ho;cases ho);refine ⟨h.nd,fun i=>?_,h.run,fun i q=>h.out i (fun q2=>q ⟨q2.1,by rw [hlen];omega⟩),h.kd,fun i q=>?_,fun i q o ho=>?_,fun i q1 q2 q3 o ho=>?_,fun i q=>?_,fun i q=>?_,fun K hK c hc q1 q2=>?_,fun i q wF o ho a ha q2=>?_,fun K hK i c hi q1 q2 o ho q3 a ha q4 q5=>?_⟩
 ·rw [h.dm i,hlen];constructor
  ·rintro ⟨q1,q2,q3⟩;exact ⟨q1,by omega,by rw [wZ s q1 q2];exact q3⟩
  ·rintro ⟨q1,q2,q3⟩;by_cases e:i=s.dV.length+1
   ·rw [e,Lb] at q3;simp at q3
   ·rw [wZ s q1 (by omega)] at q3;exact ⟨q1,by omega,q3⟩
 ·rcases hL q with q | q
  ·exact h.opn i q
  ·rw [q,hnew];rfl
 ·rcases hL q with q | q
  ·exact h.vr i q o ho
  ·rw [q,hnew] at ho;cases ho
 ·have:=hO ho;rw [wZ s this.1 this.2] at q3 ⊢;exact h.ats i this.1 this.2 q3 o ho
 ·rcases hL q with q' | q'
  ·rw [wZ s q'.1 q'.2.1];exact h.tz i q'
  ·rw [q',Lb];simp
 ·rcases hL q with q' | q'
  ·rw [wZ s q'.1 q'.2.1];exact h.tu i q'
  ·intro k;rw [q',Lb,hnew];rfl
 ·rw [en] at hc;by_cases e:1<=c.tx.toNat/\c.tx.toNat<=s.dV.length
  ·rw [wZ s e.1 e.2] at q2;exact h.xE K hK c hc q1 q2
  ·by_cases e4:(s.tx c.tx.toNat).state≠4
   ·exact h.xE K hK c hc q1 e4
   ·exfalso;have e5:(s.tx c.tx.toNat).state=4:=aR e4;unfold dW.tx at e5;rw [aH] at e5
    cases hg:s.dV[c.tx.toNat - 1]? with
    | none=>rw [hg] at e5;simp at e5
    | some u=>
     have hl2:=(aB.1 hg).1;have e0:c.tx.toNat=0:=by omega
     apply q2;rw [e0];have r1:(nC s).tx 0=(nC s).tx 1:=rfl;have r2:s.tx 0=s.tx 1:=rfl;rw [r1,wZ s (by omega) (by omega),<-r2];unfold dW.tx;rw [aH];rw [e0] at hg e5;rw [hg] at e5 ⊢;exact e5
 ·rcases hL q with q | q
  ·rw [en];exact h.hd1 i q wF o ho a ha q2
  ·rw [q,hnew] at ho;cases ho
 ·rw [en] at hi ⊢;have:=hO ho;rw [wZ s this.1 this.2] at q2;exact h.hd2 K hK i c hi q1 q2 o ho q3 a ha q4 q5
end
theorem yFt{D:List Nat}{a b d:Nat}(hd:d∉D)(ha:a∈D)(h:Lz (D++[d]) a b):Lz D a b:=fun hb=>by
 obtain ⟨p,q,hpq,hp,hq⟩:=h (bP _ hb);have Cb:q<D.length:=by
  apply aR;intro hn;rw [aO (by omega)] at hq;have:=aC hq;simp at this;rw [this] at hb;exact hd hb
 rw [aI (by omega)] at hp;rw [aI Cb] at hq;exact ⟨p,q,hpq,hp,hq⟩
theorem yFu{D:List Nat}{b d:Nat}(hd:d∉D)(hnd:(D++[d]).Nodup)(hb:b∈D++[d])(h:Lz (D++[d]) d b):False:=by
 obtain ⟨p,q,hpq,hp,hq⟩:=h hb;have Cb:=(aB.1 hq).1;simp at Cb;have:p<D.length:=by omega
 rw [aI this] at hp;exact hd (aC hp)
section
variable {E:Nat->Prop} {O:Nat->List gQ} {D:List Nat} {V:mT} {s s':dW}
theorem eY.apart{X:List Int}(h:eY E O D V s)(hH:jD X s){d i:Nat}(hd:jm s d)(hi:jm s i)(hne:i≠d){o:gQ}(ho:o∈O i):lC (O d) o.key=none:=by
 cases hl:lC (O d) o.key with
 | none=>rfl
 | some v=>
  exfalso;obtain ⟨o',ho',e1,e2⟩:=JE (os:=O d) (k:=o.key) (by rw [hl];rfl);have q1:=h.vr d hd o' ho';have q2:=h.vr i hi o ho;rw [e1,show decide (o'.kind≠1)=true by simp;omega] at q1;have:=pR.alone (hH.apart o.key) q1 q2;omega
theorem eY.AH{X:List Int}(h:eY E O D V s)(hS:Safe s)(hH:jD X s){d:Nat}(hd:jm s d)(hl:s'.lines=s.lines)(hlen:s'.dV.length=s.dV.length)(hk:s'.keys=gI s.keys d)(hx:∀ j,1<=j->j≠d->s'.tx j=s.tx j)(h3:(s'.tx d).state=3)(hat:(s'.tx d).ats=(s.tx d).ats):∃ V',eY E O (D++[d]) V' s':=by
 have Xs:d∉D:=fun q=>by have:=((h.dm d).1 q).2.2;have:=hd.2.2;omega
 obtain ⟨r,hr⟩:=az.1 (h.opn d hd);have hV:∀ k,r.1 k=(lC (O d) k).getD (V k):=fun k=>QI (us:=r.2) hr k;have hap:∀ {i:Nat},jm s i->i≠d->∀ o∈O i,lC (O d) o.key=none:=fun {i} hi hne o ho=>h.apart hH hd hi hne ho;have ed:dk s'=dk s:=by unfold dk;rw [hl]
 have es:∀ k,ee s' k=ee s k:=fun k=>by unfold ee;rw [ed]
 have en:∀ K,dy s' K=dy s K:=An hl;have hL:∀ {i},jm s' i->i≠d/\jm s i/\s'.tx i=s.tx i:=fun {i} q=>by
  have hne:i≠d:=fun q2=>by rw [q2] at q;have:=q.2.2;omega
  have e:=hx i q.1 hne;refine ⟨hne,?_,e⟩;unfold jm at q ⊢;rw [hlen,e] at q;exact q
 have Rj:∀ j,1<=j->(s'.tx j).state≠4->(s.tx j).state≠4:=fun j hj q=>by
  by_cases e:j=d
  ·rw [e];have:=hd.2.2;omega
  ·rw [<-hx j hj e];exact q
 have ON:∀ {i:Nat} {o:gQ},o∈O i->1<=i/\i<=s.dV.length:=fun {i o} ho=>aR fun q=>by rw [h.out i q] at ho;cases ho
 have hnd':(D++[d]).Nodup:=by
  rw [cD];exact ⟨h.nd,by simp,fun a ha b hb=>by simp at hb;rw [hb];exact fun e=>Xs (e ▸ ha)⟩
 refine ⟨r.1,hnd',fun i=>?_,?_,by rw [hlen];exact h.out,h.kd,fun i q=>?_,fun i q o ho=>?_,fun i q1 q2 q3 o ho=>?_,fun i q=>?_,fun i q=>?_,fun K hK c hc q1 q2=>?_,fun i q wF o ho a ha q2=>?_,fun K hK i c hi q1 q2 o ho q3 a ha q4 q5=>?_⟩
 ·rw [aL,bK,h.dm i,hlen];by_cases e:i=d
  ·subst e;exact ⟨fun _=>⟨hd.1,hd.2.1,h3⟩,fun _=>.inr rfl⟩
  ·constructor
   ·rintro (q | q)
    ·exact ⟨q.1,q.2.1,by rw [hx i q.1 e];exact q.2.2⟩
    ·exact absurd q e
   ·rintro ⟨q1,q2,q3⟩;exact .inl ⟨q1,q2,by rw [<-hx i q1 e];exact q3⟩
 ·rw [Ts,h.run,cy,hr];rfl
 ·obtain ⟨z1,z2,z3⟩:=hL q;exact yCz (fun o ho=>by rw [hV,hap z2 z1 o ho];rfl) (h.opn i z2)
 ·obtain ⟨z1,z2,z3⟩:=hL q;rw [hk];exact (h.vr i z2 o ho).rel (hH.apart _).ok (by omega)
 ·rw [hlen] at q2;have:=h.ats i q1 q2 (Rj i q1 q3) o ho;rw [es];by_cases e:i=d
  ·rw [e,hat,<-e];exact this
  ·rw [hx i q1 e];exact this
 ·obtain ⟨z1,z2,z3⟩:=hL q;rw [z3];exact h.tz i z2
 ·obtain ⟨z1,z2,z3⟩:=hL q;rw [z3];exact h.tu i z2
 ·rw [ed] at hK;rw [en] at hc;have h4:(s.tx c.tx.toNat).state≠4:=by
   by_cases e0:c.tx.toNat=0
   ·rw [e0] at q2 ⊢;have r1:s'.tx 0=s'.tx 1:=rfl;have r2:s.tx 0=s.tx 1:=rfl;rw [r1] at q2;rw [r2];exact Rj 1 (by omega) q2
   ·exact Rj _ (by omega) q2
  obtain ⟨z1,z2⟩:=h.xE K hK c hc q1 h4;exact ⟨z1,fun k hk=>z2 k (by rw [<-es];exact hk)⟩
 ·obtain ⟨z1,z2,z3⟩:=hL q;rw [es,en];rcases aL.1 ha with ha | ha
  ·exact h.hd1 i z2 wF o ho a ha q2
  ·simp at ha;rw [ha,hap z2 z1 o ho] at q2
   cases q2
 ·rw [ed] at hK;rw [en] at hi ⊢;rw [es] at q3;have hp:=ON ho;have h4:=Rj _ hp.1 q2;rcases aL.1 ha with ha' | ha'
  ·exact h.hd2 K hK i c hi q1 h4 o ho q3 a ha' q4 (yFt Xs ha' q5)
  ·simp at ha';subst ha';exfalso;by_cases eb:c.tx.toNat∈D++[a]
   ·exact yFu Xs hnd' eb q5
   ·have oR:jm s c.tx.toNat:=by
     refine ⟨hp.1,hp.2,?_⟩;have hne:c.tx.toNat≠a:=fun e=>eb (by rw [e];simp);have hno3:(s.tx c.tx.toNat).state≠3:=fun e=>eb (bP _ ((h.dm _).2 ⟨hp.1,hp.2,e⟩));have:=(hS.tx _ hp.1 hp.2).st;omega
    rw [hap oR (fun e=>eb (by rw [e];simp)) o ho] at q4
    cases q4
end
theorem yDy{ws:List fR}{f:fR->Bool}{k:ByteArray}(h:∀ p∈ws,p.key=k->f p=true):lq (ws.filter f) k=lq ws k:=by
 unfold lq;rw [List.find?_filter];congr 1
 induction ws with
 | nil=>rfl
 | cons p ws ih=>
  rw [cE,cE];have ih:=ih (fun q hq e=>h q (by simp [hq]) e);by_cases e:p.key=k
  ·have:=h p (by simp) e;simp [e,this]
  ·simp only [e,decide_false];simpa using ih
theorem yRc{l:List dt}{kind:Int}{id:Nat}(h:nQ l kind id)(r:List dt):nQ (l++r) kind id:=LU h (fun c hc=>bP _ hc)
section
variable {E:Nat->Prop} {O:Nat->List gQ} {D:List Nat} {V:mT} {s s':dW}
theorem eY.grow(h:eY E O D V s)(ht:s'.dV=s.dV)(hk:s'.keys=s.keys)(hl:s'.lines.length=s.lines.length)(h2:2<=s.lines.length){K:Nat}{c:dt}(hn:∀ i,i<dk s->i≠K->(dy s' i).log=(dy s i).log)(hK:K<dk s->(dy s' K).log=(dy s K).log++[c])
  (hc:K<dk s->c.kind=2->(s.tx c.tx.toNat).state≠4->jm s c.tx.toNat/\¬ E c.tx.toNat/\c.writes=tt s (s.tx c.tx.toNat) K):eY E O D V s':=by
 have e:∀ i,s'.tx i=s.tx i:=fun i=>by unfold dW.tx;rw [ht]
 have ed:dk s'=dk s:=by unfold dk;rw [hl]
 have es:∀ k,ee s' k=ee s k:=fun k=>by unfold ee;rw [ed]
 have hL:∀ {i},jm s' i->jm s i:=fun {i} q=>by unfold jm at q ⊢;rw [ht,e] at q;exact q
 have Wp:∀ k,ee s k<dk s:=fun k=>Bw h2 k;have nN:∀ i,i<dk s->(dy s' i).log=(dy s i).log\/(i=K/\(dy s' i).log=(dy s i).log++[c]):=fun i hi=>by
  by_cases q:i=K
  ·exact .inr ⟨q,by rw [q];exact hK (by omega)⟩
  ·exact .inl (hn i hi q)
 refine ⟨h.nd,fun id=>by rw [ht,e];exact h.dm id,h.run,by rw [ht];exact h.out,h.kd,fun id q=>h.opn id (hL q),fun id q=>by rw [hk];exact h.vr id (hL q),fun id q1 q2 q3 o ho=>by rw [e,es];rw [ht] at q2;rw [e] at q3;exact h.ats id q1 q2 q3 o ho,
  fun id q=>by rw [e];exact h.tz id (hL q),fun id q=>by rw [e];exact h.tu id (hL q),fun i hi d hd q1 q2=>?_,fun id q hE o ho a ha q2=>?_,fun i hi j d hj q1 q2 o ho q3 a ha q4 q5=>?_⟩
 ·rw [ed] at hi;rw [e] at q2;have old:d∈(dy s i).log->(d.writes.map (·.key)).Nodup/\∀ k,ee s' k=i->lq d.writes k=lC (O d.tx.toNat) k:=fun hd=>by
   obtain ⟨z1,z2⟩:=h.xE i hi d hd q1 q2;exact ⟨z1,fun k hk=>z2 k (by rw [<-es];exact hk)⟩
  rcases nN i hi with q | ⟨q,q'⟩
  ·rw [q] at hd;exact old hd
  ·rw [q'] at hd;rcases aL.1 hd with hd | hd
   ·exact old hd
   ·simp at hd;subst hd;obtain ⟨z1,z2,z3⟩:=hc (by omega) q1 q2;rw [z3];refine ⟨?_,fun k hk=>?_⟩
    ·have:=h.tz _ z1;exact this.sublist ((bQ).map _)
    ·rw [es] at hk;unfold tt;rw [yDy (fun p hp ep=>by simp [ep];omega),h.tu _ z1]
 ·rw [es];have:=h.hd1 id (hL q) hE o ho a ha q2;rcases nN _ (Wp o.key) with q | ⟨q,q'⟩
  ·rw [q];exact this
  ·rw [q'];exact yRc this _
 ·rw [ed] at hi;rw [e] at q2;rw [es] at q3;have old:(dy s i).log[j]?=some d->∃ (j':Nat) (d':dt),j'<j/\(dy s i).log[j']?=some d'/\d'.kind=3/\d'.tx=(a:Int):=fun hj=>h.hd2 i hi j d hj q1 q2 o ho q3 a ha q4 q5;rcases nN i hi with q | ⟨q,q'⟩
  ·rw [q] at hj ⊢;exact old hj
  ·rw [q'] at hj ⊢;by_cases hjl:j<(dy s i).log.length
   ·rw [aI hjl] at hj;obtain ⟨j',d',z1,z2,z3⟩:=old hj;exact ⟨j',d',z1,by rw [aI (by omega)];exact z2,z3⟩
   ·rw [aO (by omega)] at hj;have hm:=aC hj;simp at hm;subst hm;obtain ⟨z1,z2,z3⟩:=hc (by omega) q1 q2;obtain ⟨d',y1,y2,y3⟩:=h.hd1 _ z1 z2 o ho a ha q4;rw [q3] at y1;obtain ⟨j',hj'⟩:=aN y1;have:=(aB.1 hj').1;exact ⟨j',d',by omega,by rw [aI this];exact hj',y2,y3⟩
end
end Go.Proofs.YtmaiggbnceejiaaGreatDoor
