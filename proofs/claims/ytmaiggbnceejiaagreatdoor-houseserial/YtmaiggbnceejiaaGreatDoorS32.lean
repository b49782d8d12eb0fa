import Derived.Test.YtmaiggbnceejiaaGreatDoorS31
import Derived.Test.YtmaiggbnceejiaaGreatDoorS19
import Derived.Test.YtmaiggbnceejiaaGreatDoorS03
import Derived.Maps.StringElems
import Derived.Test.YtmaiggbnceejiaaGreatDoorS29
set_option linter.unusedVariables false
set_option maxRecDepth 100000
set_option maxHeartbeats 16000000
namespace Go.Proofs.YtmaiggbnceejiaaGreatDoor
open Go.RowKit Go.Lib Go.Maps
def XI:dX:=nf (fq 2 2)
def uY:ByteArray:=⟨#[97]⟩
def VU:fQ:=⟨uY,⟨#[120]⟩,false⟩
def yv:dX × Int:=fG XI 1 VU
def xl:dX:=oB (kM (db yv.1 1 { yv.1.tx 1 with state:=2 }))
def AQ:dX:=nf (oe xl)
theorem VS:(fq 2 2).dW.length=0:=by decide +kernel
theorem Ys:yv.2=0:=by decide +kernel
theorem yVh:yv.1.net.lost=0:=by decide +kernel
theorem yVf:xl.net.lost=0:=by decide +kernel
theorem ySw:jU xl 1=2:=by decide +kernel
theorem VR:(oe xl).dW.length=1:=by decide +kernel
theorem yVg:pL yv.1 1=0:=by decide +kernel
theorem It:(fH AQ 2 uY).2.2.1=true/\(fH AQ 2 uY).2.2.2=0/\(fH AQ 2 uY).2.1=⟨#[120]⟩:=by decide +kernel
theorem yHz:jU (fH AQ 2 uY).1 1=3/\jU (fH AQ 2 uY).1 2=1:=by decide +kernel
theorem yVi:yv.1.keys=jX (fun _=>⟨[],[]⟩) uY (iv ⟨[],[]⟩ ⟨1,2⟩).1:=by kernel_rfl
theorem ySx:Cg yv.1 1=false:=by
 unfold Cg;rw [bw];rintro ⟨k,hk⟩;rw [yVi] at hk;by_cases e:k=uY
 ·subst e;rw [wE] at hk;exact absurd hk (by decide +kernel)
 ·rw [xW e] at hk;simp at hk
theorem yUb:iT yv.1 1=(xl,0):=by
 unfold iT;rw [aK (fun e=>e yVg),ySx];rfl
theorem rN:Rest (fq 2 2):=Rest.new ⟨by omega,by omega⟩ ⟨by omega,by omega⟩
theorem rA:Rest XI:=rN.begin (by rw [VS];omega)
theorem rB:Rest yv.1:=rA.put 1 VU
theorem rC:Rest xl:=by have:=rB.end_ 1;rw [yUb] at this;exact this
theorem rD0:Rest (oe xl):=rC.calm
theorem rD:Rest AQ:=rD0.begin (by rw [VR];omega)
theorem Rest.zv{h:dX}(hr:Rest h){w:World}{n c:Nat}(he:ET w)(hn:1<n)(hc:c<=9000):Mg w n c h:=⟨hr.c.safe.shape,hr.c.held.ki,he,hn,hc⟩
theorem iG.KZ{w w1 w2:World}{y1 y2:dY}(h:iG w1 y1 w2 y2)(hm:Mod dZ w w1)(hy:∀ k,k<w.heap.size->y1.own k=.no):Mod dZ w w2/\∀ k,k<w.heap.size->y2.own k=.no:=
 ⟨hm.trans' h.md (fun i hi e=>absurd (hy i hi) e),fun k hk=>(h.old k (aH hk hm.size)).trans (hy k hk)⟩
theorem yKl(w:World)(he:ET w)(h1:1<w.heap.size):Calls Tryz.prog 20 #[] w fun e w'=>e=.returned (.bool true)/\Mod dZ w w':=by
 have HE:=dV he;have BI:Hid (Calls Tryz.prog 19 #[.int .i64 2,.int .i64 2] w fun e w'=>∃ g y,e=.returned (.tuple #[.pointer (some ⟨g,0,none⟩),.nilIface])/\dx w' w.heap.size 0 g y (fq 2 2)/\w.heap.size<=g/\Mod dZ w w'/\(∀ k,k<w.heap.size->y.own k=.no)):=yNu w.heap.size 0 2 2 w ⟨by omega,by omega⟩ ⟨by omega,by omega⟩ (aF _);clear he;go_enter Tryz.func20,Tryz.ntmps20;go_wp2_with fail;refine BI.out.mono ?_;rintro e w1 ⟨g,y0,rfl,hP0,hgl,dh,hy0⟩;have HBG:Hid (Calls Tryz.prog 13 #[.pointer (some ⟨g,0,none⟩)] w1 (VL w1 w.heap.size 0 g y0 (fq 2 2))):=Tk w.heap.size 0 g y0 (fq 2 2) w1 hP0 rN.c.safe.shape.ll (by rw [VS];omega);have fJ:=dV dh;have HY0:=dV hy0;clear BI dh hy0 hP0;go_wp2_with fail;refine HBG.out.mono ?_;rintro e w2 ⟨rfl,y1,wY,hs1⟩;rw [VS];obtain ⟨hm2,hy1⟩:=hs1.KZ fJ.out HY0.out;have gM:Hid (Calls Tryz.prog 23 #[.pointer (some ⟨g,0,none⟩),.int .i64 1,.agg #[.string ⟨#[97]⟩,.string ⟨#[120]⟩,.bool false]] w2 (iU w2 w.heap.size 2 g y1 yv.1 yv.2)):=yNg w.heap.size 0 g y1 XI 1 VU w2 wY (rA.zv (HE.out.mod hm2) h1 (by omega)) (by unfold gA;decide +kernel) (by unfold gA;decide +kernel);rw [Ys] at gM;have gE:=dV hm2;have HY1:=dV hy1;clear HBG hm2 hy1 wY hs1 fJ HY0;go_wp2_with fail;refine gM.out.mono ?_;rintro e w3 ⟨rfl,y2,hP2,hk2⟩;rw [ou];obtain ⟨dy,hy2⟩:=hk2.st.KZ gE.out HY1.out;have yT:Hid (Calls Tryz.prog 15 #[.pointer (some ⟨g,0,none⟩),.int .i64 1] w3 (iU w3 w.heap.size 2 g y2 xl 0)):=by
  have:=yPd w.heap.size 2 g y2 yv.1 1 w3 hP2 rB.c.safe rB.c.held (by omega) (by rw [yVh];omega);rw [yUb] at this;exact this
 have iI:=dV dy;have HY2:=dV hy2;clear gM dy hy2 hP2 hk2 gE HY1;go_wp2_with fail;refine yT.out.mono ?_;rintro e w4 ⟨rfl,y3,Yc,hk3⟩;rw [ou];obtain ⟨gR,Wp⟩:=hk3.st.KZ iI.out HY2.out;have HST:Hid (Calls Tryz.prog 11 #[.pointer (some ⟨g,0,none⟩),.int .i64 1] w4 fun e w'=>e=.returned (.int .i64 2)/\w'=w4):=by
  have:=KB w.heap.size 2 g y3 xl 1 w4 Yc rC.c.safe.tl;rw [ySw] at this;exact this
 have HCA:Hid (Calls Tryz.prog 16 #[.pointer (some ⟨g,0,none⟩)] w4 fun e w'=>e=.returned (.tuple #[])/\∃ y',dx w' w.heap.size 2 g y' (oe xl)/\eL w4 y3 w' y'):=yIk w.heap.size 2 g y3 xl w4 Yc rC.c (by omega) (by have:=Vg rC.c;rw [yVf] at this;omega);have sZ:=dV gR;have HY3:=dV Wp;clear yT gR Wp Yc hk3 iI HY2;go_wp2_with fail;refine HST.out.mono ?_;rintro e w' ⟨rfl,rfl⟩;clear HST;go_wp2_with fail;refine HCA.out.mono ?_;rintro e w5 ⟨rfl,y4,hP4,hk4⟩;obtain ⟨eP,Wo⟩:=hk4.st.KZ sZ.out HY3.out;have lX:Hid (Calls Tryz.prog 13 #[.pointer (some ⟨g,0,none⟩)] w5 (VL w5 w.heap.size 2 g y4 (oe xl))):=Tk w.heap.size 2 g y4 (oe xl) w5 hP4 rD0.c.safe.shape.ll (by rw [VR];omega);have kv:=dV eP;have HY4:=dV Wo;clear HCA eP Wo hP4 hk4 sZ HY3;go_wp2_with fail;refine lX.out.mono ?_;rintro e w6 ⟨rfl,y5,hP5,hs5⟩;rw [VR];obtain ⟨fs,Wn⟩:=hs5.KZ kv.out HY4.out;have QQ:Hid (Calls Tryz.prog 14 #[.pointer (some ⟨g,0,none⟩),.int .i64 2,.string ⟨#[97]⟩] w6 (BY w6 w.heap.size 4 g y5 (fH AQ 2 uY))):=yOu w.heap.size 2 g y5 AQ 2 uY w6 hP5 (rD.zv (HE.out.mod fs) h1 (by omega)) (by unfold gA;decide +kernel) (rD.c.safe.fM uY);have yR:=dV fs;have HY5:=dV Wn;clear lX fs Wn hP5 hs5 kv HY4;go_wp2_with fail;refine QQ.out.mono ?_;rintro e w7 ⟨rfl,y6,Kz,hk6⟩;obtain ⟨v1,v2,v3⟩:=It;rw [v1,v2,v3,ou];obtain ⟨iO,-⟩:=hk6.st.KZ yR.out HY5.out;have YZ:Rest (fH AQ 2 uY).1:=rD.get 2 uY;have Dy:Hid (Calls Tryz.prog 11 #[.pointer (some ⟨g,0,none⟩),.int .i64 1] w7 fun e w'=>e=.returned (.int .i64 3)/\w'=w7):=by
  have:=KB w.heap.size 4 g y6 (fH AQ 2 uY).1 1 w7 Kz YZ.c.safe.tl;rw [yHz.1] at this;exact this
 have ZU:Hid (Calls Tryz.prog 11 #[.pointer (some ⟨g,0,none⟩),.int .i64 2] w7 fun e w'=>e=.returned (.int .i64 1)/\w'=w7):=by
  have:=KB w.heap.size 4 g y6 (fH AQ 2 uY).1 2 w7 Kz YZ.c.safe.tl;rw [yHz.2] at this;exact this
 have yQ:=dV iO;clear QQ iO Kz hk6 yR HY5 YZ v1 v2 v3;go_wp2_with fail;refine Dy.out.mono ?_;rintro e w' ⟨rfl,rfl⟩;go_wp2_with fail;refine ZU.out.mono ?_;rintro e w' ⟨rfl,rfl⟩;go_wp2_with fail;go_ret;exact ⟨rfl,yQ.out⟩
def actR(d:ActD)(cs:List Value):Prop:=cs=[.int .i64 d.what,.int .i64 d.tx,.int .i64 d.a,.string d.value]/\d.value.size<=maxLen
def ActsV(w:World)(L:Nat)(v:Value)(ds:List ActD):Prop:=fV w L 4 actR v ds
theorem ActsV.at{w:World}{L:Nat}{a:Option Addr}{n cap:Nat}{ds:List ActD}(h:ActsV w L (.slice a n cap) ds){i:Nat}{d:ActD}(hi:ds[i]?=some d):∃ b off,a=some ⟨b,off,none⟩/\b<L/\d.value.size<=maxLen/\w.cell? ⟨b,off+i*4,none⟩=some (.int .i64 d.what)/\w.cell? ⟨b,off+i*4+1,none⟩=some (.int .i64 d.tx)/\w.cell? ⟨b,off+i*4+2,none⟩=some (.int .i64 d.a)/\w.cell? ⟨b,off+i*4+3,none⟩=some (.string d.value):=by
 obtain ⟨b,off,cs,h1,h2,⟨rfl,h3⟩,_,h5⟩:=fV.at h hi;exact ⟨b,off,h1,h2,h3,h5 0 _ rfl,h5 1 _ rfl,h5 2 _ rfl,h5 3 _ rfl⟩
theorem yDu{dW:List eM}{m:Nat}(h:∀ t∈dW,t.ops.length<=m)(id:Nat)(o:fg):∀ t∈fh dW id o,t.ops.length<=m+1:=fun t ht=>by
 unfold fh at ht;split at ht
 ·rename_i u hu;rcases bQ ht with q | q
  ·have:=h t q;omega
  ·subst q;have:=h u (aC hu);simp;omega
 ·have:=h t ht;omega
theorem yVt{s:eC}{m:Nat}(h:∀ t∈s.dW,t.ops.length<=m)(x:ActD):∀ t∈(eG s x).dW,t.ops.length<=m+1:=by
 have same:∀ t∈s.dW,t.ops.length<=m+1:=fun t ht=>by have:=h t ht;omega
 obtain ⟨r,hr⟩:∃ r,r=eG s x:=⟨_,rfl⟩;rw [<-hr];unfold eG at hr;by_cases e0:x.what=0
 ·rw [aP e0] at hr;by_cases e:s.dW.length<7
  ·rw [aP e] at hr;rw [hr];intro t ht;rcases aN.1 ht with q | q
   ·exact same t q
   ·rw [bU] at q;subst q;simp
  ·rw [aK e] at hr;rw [hr];exact same
 rw [aK e0] at hr;by_cases e1:x.what=1
 ·rw [aP e1] at hr;rw [hr];dsimp only;split
  ·exact yDu h _ _
  ·exact same
 rw [aK e1] at hr;by_cases e2:x.what=2\/x.what=3
 ·rw [aP e2] at hr;rw [hr];dsimp only;split
  ·exact yDu h _ _
  ·exact same
 rw [aK e2] at hr;have fin:r.dW=s.dW:=by
  rw [hr]
  repeat (first | rfl | split)
 rw [fin];exact same
theorem yNk{s:eC}{m:Nat}(h:∀ t∈s.dW,t.ops.length<=m)(x:ActD):∀ t∈(uZ s x).dW,t.ops.length<=m+1:=fun t ht=>by
 have h2:=yVt (s:={ s with now:=s.now+1 }) h x;obtain ⟨i,hi⟩:=aO ht;unfold uZ mc at hi;rw [bM] at hi
 cases hu:(eG { s with now:=s.now+1 } x).dW[i]? with
 | none=>rw [hu] at hi;cases hi
 | some u=>
  rw [hu,bK] at hi;have hm:=h2 u (aC hu);have hi:=ax hi;split at hi
  ·rw [<-hi];exact hm
  ·rw [<-hi];exact hm
def zr(k:Nat)(safe:Bool):eC:=⟨fq 2 k,[],0,safe,k⟩
theorem yNt{k:Nat}(h:1<=k/\k<=3):(fq 2 k).lines.length=3/\(fq 2 k).dW.length=0/\(fq 2 k).net.lost=0/\(fq 2 k).dead.length=0/\(fq 2 k).net.down.length=0/\∀ n∈((fq 2 k).line (du (fq 2 k))).nodes,n.log.length=0:=by
 rcases (show k=1\/k=2\/k=3 by omega) with rfl | rfl | rfl
 ·decide +kernel
 ·decide +kernel
 ·decide +kernel
theorem yUo{k:Nat}(h:1<=k/\k<=3)(safe:Bool):se 0 (zr k safe):=by
 obtain ⟨h1,h2,h3,h4,h5,_⟩:=yNt h;exact ⟨Rest.new (shards:=2) (nodes:=k) ⟨by omega,by omega⟩ ⟨by omega,by omega⟩,h1,h2,aT _,by show (fq 2 k).net.lost<=_;rw [h3];omega,by show (fq 2 k).dead.length<=0;omega,by show (fq 2 k).net.down.length<=0;omega,h⟩
theorem eZ.made{w:World}{n c g:Nat}{y:dY}{h:dX}(hh:dx w n c g y h)(safe:Bool)(k:Nat):eZ (w.alloc (.cells #[.pointer (some ⟨g,0,none⟩),.slice none 0 0,.int .i64 0,.bool safe,.int .i64 k] 37)) n c w.heap.size g y (.slice none 0 0) [] ⟨h,[],0,safe,k⟩:=by
 have hno:y.own w.heap.size=.no:=by
  by_cases e:y.own w.heap.size=.no
  ·exact e
  ·have:=(hh.own.lt _ e).2;omega
 refine ⟨dg.new w _ _,hh.quiet ((Mod.refl _ w).alloc _),⟨rfl,World.ownsRow_nil _ _ _ _⟩,fun i t u hi=>(by simp at hi),hno,fun k hk=>(by cases hk),fun u hu=>(by cases hu),fun i j u v k hi=>(by simp at hi)⟩
structure Dw(J:eC->Prop)(W:World)(gs g:Nat)(i:Nat)(wr:World):Prop where
 md:Mod dZ W wr
 ex:∃ y xv vs s,eZ wr W.heap.size (2*i) gs g y xv vs s/\se i s/\s.now=i/\(∀ t∈s.dW,t.ops.length<=i)/\W.heap.size<=gs/\J s
def Jf(J:eC->Prop)(W:World)(len:Nat)(e:Ending)(W':World):Prop:=
 (120<len/\e=.returned (.tuple #[.pointer none,.bool true])/\Mod dZ W W')\/(len<=120/\∃ gs g,e=.returned (.tuple #[.pointer (some ⟨gs,0,none⟩),.bool true])/\Dw J W gs g len W')
theorem yPs(J:eC->Prop)(nodes:Int)(safe:Bool)(lv:Value)(acts:List ActD)(W:World)(hJ0:∀ k,1<=k/\k<=3->J (zr k safe))(hJ:∀ m s x,se m s->s.now=m->J s->J (uZ s x))(hl:ActsV W W.heap.size lv acts)(hE:ET W)(hNM:NMo W W.heap.size)(h1W:1<W.heap.size) :
  Calls Tryz.prog 7 #[.int .i64 nodes,.bool safe,lv] W (Jf J W acts.length):=by
 obtain ⟨la,ey,hlv,hlc,hlm⟩:=fV.slice hl;subst hlv;have HV:=dV hl;have HE:=dV hE;have HNM:=dV hNM;have HJ:=dV hJ;have HJ0:=dV hJ0;clear hl hE hNM hJ hJ0;by_cases h60:120<acts.length
 ·have hb:decide ((acts.length:Int) > 120)=true:=aQ (by omega);have hb2:(120:Int)<(acts.length:Int):=by omega
  go_enter Tryz.func7,Tryz.ntmps7;go_wp2_with fail;go_ret2;exact .inl ⟨h60,rfl,Mod.refl _ _⟩
 have hb:decide ((acts.length:Int) > 120)=false:=aL (by omega);have hb2:¬ (120:Int)<(acts.length:Int):=by omega
 have hb3:¬ 120<acts.length:=h60;have JP:Hid (Calls Tryz.prog 18 #[.int .i64 nodes,.int .i64 3] W fun e w'=>e=.returned (.int .i64 (kJ nodes 3))/\w'=W):=ER nodes 3 W (by omega) (by omega);have hpl:=EN nodes 3 (by omega);obtain ⟨pk,hpk⟩:∃ z,z=kJ nodes 3:=⟨_,rfl⟩;rw [<-hpk] at JP hpl;clear hpk;have ew:wrap64 (1+(pk:Int))=((pk+1:Nat):Int):=by rw [show (1:Int)+(pk:Int)=((pk+1:Nat):Int) by omega];exact IntWalk.wrap64_in _ ⟨by omega,by omega⟩
 have Sk:IntKind.i64.wrap (1+(pk:Int))=((pk+1:Nat):Int):=by rw [show (1:Int)+(pk:Int)=((pk+1:Nat):Int) by omega];exact IntWalk.i64_in _ ⟨by omega,by omega⟩
 have BO:Hid (1<=pk+1/\pk+1<=3):=⟨by omega,by omega⟩;obtain ⟨kn,hkn⟩:∃ z,z=pk+1:=⟨_,rfl⟩;rw [<-hkn] at ew Sk BO;have BI:Hid (Calls Tryz.prog 19 #[.int .i64 2,.int .i64 kn] W fun e w'=>∃ g y,e=.returned (.tuple #[.pointer (some ⟨g,0,none⟩),.nilIface])/\dx w' W.heap.size 0 g y (fq 2 kn)/\W.heap.size<=g/\Mod dZ W w'/\(∀ k,k<W.heap.size->y.own k=.no)):=yNu W.heap.size 0 2 kn W ⟨by omega,by omega⟩ ⟨by have:=BO.out;omega,by have:=BO.out;omega⟩ (aF _);clear hpl hkn;go_enter Tryz.func7,Tryz.ntmps7;go_wp2_with fail;refine JP.out.mono ?_;rintro e wz ⟨rfl,hwz⟩;rw [hwz];clear JP hwz wz;go_wp2_with fail;refine BI.out.mono ?_;rintro e w1 ⟨g,y,rfl,wY,hgl,dh,hy1⟩;have sQ:=dV (yKl w1 (HE.out.mod dh) (aH h1W dh.size));have CT:=dV wY;have fJ:=dV dh;clear BI wY dh hy1;go_wp2_with fail;refine sQ.out.mono ?_;rintro e w2 ⟨rfl,hm2⟩;have BG:=dV (CT.out.quiet hm2);have gE:Hid (Mod dZ W w2):=fJ.out.trans hm2;clear sQ hm2 CT fJ;obtain ⟨w3,hw3⟩:∃ z,z=w2.alloc (.cells #[.pointer (some ⟨g,0,none⟩),.slice none 0 0,.int .i64 0,.bool safe,.int .i64 kn] 37):=⟨_,rfl⟩;have hs3:eZ w3 W.heap.size 0 w2.heap.size g y (.slice none 0 0) [] (zr kn safe):=by rw [hw3];exact eZ.made BG.out safe kn
 have hWs:=gE.out.size;have JO:Hid (Dw J W w2.heap.size g 0 w3):=by
  refine ⟨?_,y,.slice none 0 0,[],zr kn safe,hs3,yUo BO.out safe,rfl,fun t ht=>by simp [zr] at ht,hWs,HJ0.out kn BO.out⟩;rw [hw3];exact gE.out.alloc _
 clear hs3 BG hgl HJ0;go_upto_region 8 with fail;rw [<-hw3];clear hw3;obtain ⟨gs,CG⟩:∃ z,z=w2.heap.size:=⟨_,rfl⟩;rw [<-CG] at JO ⊢;clear CG hWs gE;go_wp2_with fail;go_loopw [11] (fun i0 wr=>∃ i:Nat,i<=acts.length/\i0=.int .i64 i/\Dw J W gs g i wr) (fun i0 _=>acts.length - (intOf i0).toNat)
 case atStart=>exact ⟨0,aT _,rfl,JO.out⟩
 case round=>
  obtain ⟨i,hil,rfl,hC⟩:=hrel;clear JO;by_cases hlt:i<acts.length
  ·obtain ⟨ij,yi,xvi,vsi,si,SY,FZ,nL,hop,hgl,hJi⟩:=hC;obtain ⟨x,hx⟩:∃ x,acts[i]?=some x:=⟨_,aA hlt⟩;obtain ⟨lb,lo,rfl,hlb,hval,q0,q1,q2,q3⟩:=ActsV.at (show ActsV wr W.heap.size (.slice la acts.length ey) acts from fV.mod HV.out ij (fun _ _=>id) (fun _ _ h=>h)) hx;have zl:lb<wr.heap.size:=World.block_lt_of_cell? wr _ q0;have jd:(i:Int)<(acts.length:Int):=by omega
   have hi0:(0:Int)<=(i:Int):=by omega
   have lq:=dV (yNl W.heap.size (2*i) i gs g yi xvi vsi si x wr ⟨SY,FZ,HNM.out.mod ij (fun _ _=>id),HE.out.mod ij,h1W,by omega,by omega,hgl,by omega,hop⟩ hval);obtain ⟨gOK,-,PT,-⟩:=yJr FZ x;have gOp:=yNk hop x;have gJ:=HJ.out i si x FZ nL hJi;have gN:Hid (∀ yn KT KV w6,eZ w6 W.heap.size (2*i+2) gs g yn KT KV (uZ si x)->jm gs wr yi xvi vsi w6 yn KT KV->Dw J W gs g (i+1) w6):=fun yn KT KV w6 h1 h2=>by
    refine ⟨ij.trans' h2.md (fun k hk e=>?_),yn,KT,KV,uZ si x,h1,gOK,by rw [PT,nL];omega,gOp,hgl,gJ⟩;rcases e with e | e
    ·have:=(SY.house.own.lt k e).1;omega
    ·have:=(SY.cells hgl e).1;omega
   clear ij SY FZ nL hop hx hval gOK PT gOp gJ hJi;go_wp2_with fail;refine lq.out.mono ?_;rintro e w6 ⟨rfl,Ns⟩;obtain ⟨yn,KT,KV,Kz,CM⟩:=Ns;have HI:=dV (gN.out yn KT KV w6 Kz CM);clear Kz CM gN lq q0 q1 q2 q3;go_wp2_with fail;go_roundw
   case rel=>exact ⟨i+1,by omega,by go_num,HI.out⟩
   case measure=>simp [intOf];omega
  ·obtain rfl:i=acts.length:=by omega
   have HC:=dV hC;clear hC;go_wp2_with fail;go_ret2;exact .inr ⟨by omega,gs,g,rfl,HC.out⟩
def eI(o:List Nat):List Int:=o.map fun (n:Nat)=>(n:Int)
def lY(ts:List eM)(o:List Nat):Prop:=∀ i t,ts[i]?=some t->0<=t.fI->i∈o
def Mj(t u:eM):Prop:=0<=t.fI/\t.fI<u.eF
instance (t u:eM):Decidable (Mj t u):=by unfold Mj;infer_instance
def GD(ts:List eM)(o:List Nat)(n:Nat):Prop:=n∉o/\∀ m t u,ts[m]?=some t->ts[n]?=some u->m≠n->Mj t u->m∈o
open Classical in
noncomputable def iW(ts:List eM):List Nat->gK->List Nat->Option gK
 | _,s,[]=>some s
 | d,s,n :: rest=>if GD ts d n then (match ts[n]? with
  | none=>none
  | some t=>match gh s t.ops with
   | none=>none
   | some r=>iW ts (d++[n]) r.1 rest) else none
theorem Jz{ts:List eM}{d:List Nat}{s s2:gK}{n:Nat}{rest:List Nat}(h:iW ts d s (n :: rest)=some s2):GD ts d n/\∃ t r,ts[n]?=some t/\gh s t.ops=some r/\iW ts (d++[n]) r.1 rest=some s2:=by
 rw [iW] at h;split at h
 ·rename_i hn;refine ⟨hn,?_⟩
  cases ht:ts[n]? with
  | none=>rw [ht] at h;cases h
  | some t=>
   rw [ht] at h;simp only at h
   cases hr:gh s t.ops with
   | none=>rw [hr] at h;cases h
   | some r=>rw [hr] at h;exact ⟨t,r,rfl,hr,h⟩
 ·cases h
theorem Qt{ts:List eM}{d:List Nat}{s:gK}{n:Nat}{rest:List Nat}{t:eM}{r:gK × List (ByteArray × VD)}(hn:GD ts d n)(ht:ts[n]?=some t)(hr:gh s t.ops=some r):iW ts d s (n :: rest)=iW ts (d++[n]) r.1 rest:=by
 rw [iW,aP hn,ht];simp only;rw [hr]
def Jo(ts:List eM)(o:List Nat)(s:gK):Prop:=∀ rest s2,iW ts o s rest=some s2->¬ lY ts (o++rest)
theorem yFj{ts:List eM}{o:List Nat}{s:gK}(hw:¬ lY ts o)(h:∀ i rest s2,i<ts.length->iW ts o s (i :: rest)=some s2->¬ lY ts (o++i :: rest)):Jo ts o s:=fun rest s2 hg=>by
 cases rest with
 | nil=>simpa using hw
 | cons i rest=>
  obtain ⟨_,t,_,ht,_⟩:=Jz hg;exact h i rest s2 (aB.1 ht).1 hg
def VI:List Nat->List Nat->Prop
 | [],_=>True
 | _ :: _,[]=>False
 | a :: xs,b :: ys=>a<b\/(a=b/\VI xs ys)
def Rs(ts:List eM)(o:List Nat)(s:gK)(rest:List Nat):Prop:=∀ rest' s2,iW ts o s rest'=some s2->lY ts (o++rest')->VI rest rest'
def Mf(ts:List eM)(o:List Nat)(s:gK)(k:Nat)(rest:List Nat):Prop:=∃ r,rest=k :: r/\∀ r' s2,iW ts o s (k :: r')=some s2->lY ts (o++k :: r')->VI r r'
theorem yOd{ts:List eM}{o:List Nat}{s:gK}{k:Nat}{rest:List Nat}(hw:¬ lY ts o)(h:∀ i rest s2,i<k->iW ts o s (i :: rest)=some s2->¬ lY ts (o++i :: rest))(hk:Mf ts o s k rest):Rs ts o s rest:=by
 obtain ⟨r,rfl,hk⟩:=hk;intro rest' s2 hg uN
 cases rest' with
 | nil=>exact absurd (by simpa using uN) hw
 | cons i r'=>
  by_cases h1:i<k
  ·exact absurd uN (h i r' s2 h1 hg)
  ·by_cases h2:i=k
   ·subst h2;exact .inr ⟨rfl,hk r' s2 hg uN⟩
   ·exact .inl (by omega)
theorem yJw{ts:List eM}{o:List Nat}{k:Nat}(hd:o.Nodup)(hl:∀ i∈o,i<ts.length)(hk:k<ts.length)(hn:k∉o):o.length<ts.length:=by
 have h1:(k :: o).Nodup:=List.nodup_cons.2 ⟨hn,hd⟩;have h2:=dE h1 (l₂:=List.range ts.length) (fun x hx=>by
  rcases bV.1 hx with rfl | hx
  ·exact bZ.2 hk
  ·exact bZ.2 (hl x hx))
 simp at h2;omega
theorem yIb(ts:List eM):∀ (rest d:List Nat) (s s2:gK),iW ts d s rest=some s2->∀ p n,rest[p]?=some n->GD ts (d++rest.take p) n/\n<ts.length
 | [],_,_,_,_,p,n,h=>by simp at h
 | m :: rest,d,s,s2,hg,p,n,h=>by
  obtain ⟨h1,t,r,h2,h3,h4⟩:=Jz hg
  cases p with
  | zero=>
   simp at h;subst h;exact ⟨by simpa using h1,(aB.1 h2).1⟩
  | succ p=>
   have:=yIb ts rest (d++[m]) r.1 s2 h4 p n (by simpa using h);simpa using this
theorem zUq(ts:List eM):∀ (rest d:List Nat) (s s2:gK),iW ts d s rest=some s2->d.Nodup->(d++rest).Nodup
 | [],_,_,_,_,h=>by simpa using h
 | m :: rest,d,s,s2,hg,h=>by
  obtain ⟨h1,t,r,h2,h3,h4⟩:=Jz hg;have:=zUq ts rest (d++[m]) r.1 s2 h4 (bN.2 ⟨h,by simp,fun a ha b hb=>by simp at hb;subst hb;exact fun e=>h1.1 (e ▸ ha)⟩);simpa using this
theorem yFy{ts:List eM}{o:List Nat}{s s2:gK}(hg:iW ts [] s o=some s2){p q i k:Nat}{t u:eM}(hp:o[p]?=some k)(hq:o[q]?=some i)(Nu:p<q)(ht:ts[i]?=some t)(hu:ts[k]?=some u):¬ Mj t u:=fun ha=>by
 have hnd:=zUq ts o [] s s2 hg (by simp);simp only [aY] at hnd;obtain ⟨p1,p2⟩:=aB.1 hp;obtain ⟨q1,q2⟩:=aB.1 hq;have hne:i≠k:=fun e=>(ao.1 hnd) p q p1 q1 Nu (by rw [p2,q2,e]);have h1:=(yIb ts o [] s s2 hg p k hp).1.2 i t u ht hu hne ha;simp only [aY] at h1;obtain ⟨j,hj,e⟩:=cR h1;rw [List.getElem_take] at e;have hj':j<p:=by simp at hj;omega
 exact (ao.1 hnd) j q (by omega) q1 (by omega) (by rw [e,q2])
def lV(w:World)(b n:Nat)(s:gK):Prop:=∃ D:DataW Unit,w.ownsMap Tryz.prog 9 (plainElem Tryz.prog 9) b n D/\∀ k:ByteArray,k.size<=maxLen ->
 Maps.has D (.string k.data.toList)=(s k).there/\((s k).there=true->D.atKey (.string k.data.toList) (.lit (.string []))=.lit (.string (s k).text.data.toList))
theorem lV.mod{G:Nat->Prop}{w w':World}{b n:Nat}{s:gK}(h:lV w b n s)(hm:Mod G w w')(hG:¬ G b):lV w' b n s:=by
 obtain ⟨D,h1,h2⟩:=h;have hlt:=h1.lt;obtain ⟨es,clock,hb,r⟩:=h1;exact ⟨D,⟨es,clock,(hm.block b hlt hG).trans hb,r⟩,h2⟩
theorem lV.mono{w:World}{b n n':Nat}{s:gK}(h:lV w b n s)(hn:n<=n'):lV w b n' s:=by obtain ⟨D,h1,h2⟩:=h;exact ⟨D,h1.mono hn,h2⟩
theorem yUh(w:World):(zeroValue 9).run Tryz.prog w=.ok (.string ByteArray.empty) w:=by kernel_rfl
theorem lV.look{w:World}{b n:Nat}{s:gK}(h:lV w b n s){k:ByteArray}(hk:k.size<=maxLen):∃ v:ByteArray,(Instr.lookup 110 (.map (some b)) (.string k) true).run Tryz.prog w=.ok (.tuple #[.string v,.bool (s k).there]) w/\((s k).there=true->v=(s k).text)/\v.size<=maxLen:=by
 obtain ⟨D,h1,h2⟩:=h;obtain ⟨e1,e2⟩:=h2 k hk;obtain ⟨v,ps,hrun,hv⟩:=h1.look_ok DF Tryz.underlying110 (yUh w) (plainElem_string Tryz.underlying9 (s:=ByteArray.empty) (by simp)) (Go.WideMaps.keyOf_string_mk Tryz.underlying9 hk);obtain ⟨x,rfl,hx,hs⟩:=plainElem_string_inv Tryz.underlying9 hv;refine ⟨x,by rw [<-e1];exact hrun,fun ht=>?_,hs⟩;simp only [Prod.mk.injEq] at hx;have h3:=e2 ht;have h4:DataW.lit (H:=Unit) (.string (s k).text.data.toList)=.lit (.string x.data.toList):=by rw [<-h3];exact hx.1
 simp at h4;exact (RB (by rw [h4])).symm
theorem lV.put{w':World}{b n:Nat}{s:gK}{D:DataW Unit}{k v:ByteArray}(hD:IsMap D)(h2:∀ k:ByteArray,k.size<=maxLen->Maps.has D (.string k.data.toList)=(s k).there/\((s k).there=true->D.atKey (.string k.data.toList) (.lit (.string []))=.lit (.string (s k).text.data.toList)))
  (h:w'.ownsMap Tryz.prog 9 (plainElem Tryz.prog 9) b n (D.put (.string k.data.toList) (.lit (.string v.data.toList)))):lV w' b n (nG s k ⟨v,true⟩):=by
 refine ⟨_,h,fun x hx=>?_⟩;unfold nG;split
 ·rename_i e;rw [e];exact ⟨by rw [has_put_same hD (by simp [WideAt.IsKeyLit])],fun _=>atKey_put_same hD (by simp [WideAt.IsKeyLit]) _ _⟩
 ·rename_i e;have hne:(Lit.string x.data.toList)≠.string k.data.toList:=fun q=>e (RB (by simpa using q));rw [has_put_other hne,atKey_put_other hne];exact h2 x hx
theorem lV.del{w':World}{b n:Nat}{s:gK}{D:DataW Unit}{k:ByteArray}(hD:Tidy D)(h2:∀ k:ByteArray,k.size<=maxLen->Maps.has D (.string k.data.toList)=(s k).there/\((s k).there=true->D.atKey (.string k.data.toList) (.lit (.string []))=.lit (.string (s k).text.data.toList)))
  (h:w'.ownsMap Tryz.prog 9 (plainElem Tryz.prog 9) b n (D.del (.string k.data.toList))):lV w' b n (nG s k xP):=by
 refine ⟨_,h,fun x hx=>?_⟩;unfold nG;split
 ·rename_i e;rw [e];exact ⟨by rw [has_del_same];rfl,fun h=>by simp [xP] at h⟩
 ·rename_i e;have hne:(Lit.string x.data.toList)≠.string k.data.toList:=fun q=>e (RB (by simpa using q));rw [has_del_other hne,atKey_del_other hne];exact h2 x hx
def kq:List Nat->Nat->Nat->Nat
 | [],_,_=>0
 | n :: l,x,c=>if x=n then c+1 else kq l x (c+1)
theorem GH:∀ (l:List Nat) (x c:Nat),kq l x c≠0↔x∈l
 | [],x,c=>by simp [kq]
 | n :: l,x,c=>by
  unfold kq;split
  ·rename_i e;simp [e]
  ·rename_i e;rw [GH l x (c+1)];simp [e]
theorem Ru:∀ (l:List Nat) (x c:Nat),kq l x c≠0->∃ p,kq l x c=c+p+1/\l[p]?=some x
 | [],x,c,h=>by simp [kq] at h
 | n :: l,x,c,h=>by
  unfold kq at h ⊢;split
  ·rename_i e;exact ⟨0,by omega,by simp [e]⟩
  ·rename_i e;rw [aK e] at h;obtain ⟨p,h1,h2⟩:=Ru l x (c+1) h;exact ⟨p+1,by omega,by simpa using h2⟩
theorem yHn:∀ (l:List Nat) (n x c:Nat),n∉l->kq (l++[n]) x c=if x=n then c+l.length+1 else kq l x c
 | [],n,x,c,_=>by simp [kq]
 | m :: l,n,x,c,h=>by
  have ih:=yHn l n x (c+1) (fun e=>h (by simp [e]));have hmn:n≠m:=fun e=>h (by simp [e]);rw [bF,kq,ih,kq];by_cases hx:x=m
  ·rw [aP hx,aP hx,aK (fun e=>hmn (by omega))]
  ·rw [aK hx,aK hx];simp only [aW];split <;> omega
def ke(l:List Nat)(m:Nat):List Value:=(List.range m).map fun (i:Nat)=>.int .i64 (kq l i 0:Nat)
theorem GJ(l:List Nat){m i:Nat}(hi:i<m):(ke l m)[i]?=some (.int .i64 (kq l i 0:Nat)):=by
 unfold ke;rw [aa,cq hi];rfl
theorem yRh{l:List Nat}{m n:Nat}(hn:n<m)(hl:n∉l):(ke l m).set n (.int .i64 ((l.length:Nat)+1:Int))=ke (l++[n]) m:=by
 apply bI;intro i;rw [bq];by_cases hi:i<m
 ·rw [GJ _ hi,GJ _ hi,yHn l n i 0 hl];have hlen:(ke l m).length=m:=by simp [ke]
  by_cases e:n=i
  ·subst e;simp [hlen,hi]
  ·rw [aK e,aK (fun q=>e q.symm)]
 ·have h1:(ke l m)[i]?=none:=by simp [ke];omega
  have h2:(ke (l++[n]) m)[i]?=none:=by simp [ke];omega
  rw [h1,h2,aK (by omega)]
theorem yRi(m:Nat):ke [] m=List.replicate m (.int .i64 0):=by
 apply bI;intro i;by_cases hi:i<m
 ·rw [GJ _ hi,List.getElem?_replicate,aP hi];rfl
 ·have h1:(ke [] m)[i]?=none:=by simp [ke];omega
  rw [h1,List.getElem?_replicate,aK hi]
theorem yRf{w:World}{L:Nat}{e:TypeId}{b n cap:Nat}{xs:List Value}(h:w.ownsRow L e 1 (.slice (some ⟨b,0,none⟩) n cap) n xs){i:Nat}(hi:i<n)(u:Value):(w.setCell ⟨b,i,none⟩ u).ownsRow L e 1 (.slice (some ⟨b,0,none⟩) n cap) n (xs.set i u):=by
 refine ⟨by rw [ag];exact h.1,?_⟩;rcases h.2 with ⟨h0,_⟩ | ⟨g,cap',cur,hv,h1,hg,h2,h3,h4,h5⟩
 ·cases h0
 ·simp only [Value.slice.injEq,ae,Addr.mk.injEq] at hv;obtain ⟨⟨rfl,_⟩,_,rfl⟩:=hv;refine .inr ⟨b,cap,cur.setIfInBounds i u,rfl,h1,?_,h2,h3,by simpa using h4,?_⟩
  ·simp [World.setCell,Array.getElem?_modify,hg]
  ·rw [Array.toList_setIfInBounds,List.take_set,h5]
theorem never{ts:List eM}{o:List Nat}{s s2:gK}(hg:iW ts [] s o=some s2){i k:Nat}{t u:eM}(ht:ts[i]?=some t)(hu:ts[k]?=some u)(h1:0<=t.fI)(h2:t.fI<u.eF)(h3:kq o k 0≠0):¬ kq o k 0<kq o i 0:=fun h4=>by
 obtain ⟨p,e1,e2⟩:=Ru o k 0 h3;obtain ⟨q,e3,e4⟩:=Ru o i 0 (by omega);exact yFy hg e2 e4 (by omega) ht hu ⟨h1,h2⟩
def jh:gK:=fun _=>xP
def gj(ts:List eM):gK->List Nat->Option gK
 | s,[]=>some s
 | s,n :: rest=>match ts[n]? with
  | none=>none
  | some t=>match gh s t.ops with
   | none=>none
   | some r=>gj ts r.1 rest
theorem yBj{ts:List eM}{s s2:gK}{n:Nat}{rest:List Nat}:gj ts s (n :: rest)=some s2↔∃ t r,ts[n]?=some t/\gh s t.ops=some r/\gj ts r.1 rest=some s2:=by
 rw [gj];constructor
 ·intro h
  cases ht:ts[n]? with
  | none=>rw [ht] at h;cases h
  | some t=>
   rw [ht] at h;simp only at h
   cases hd:gh s t.ops with
   | none=>rw [hd] at h;cases h
   | some r=>rw [hd] at h;exact ⟨t,r,rfl,hd,h⟩
 ·rintro ⟨t,r,h1,h2,h3⟩;rw [h1];simp only;rw [h2];exact h3
theorem TX(ts:List eM):∀ (l r:List Nat) (s:gK),gj ts s (l++r)=(gj ts s l).bind fun s1=>gj ts s1 r
 | [],r,s=>rfl
 | n :: l,r,s=>by
  rw [bF,gj,gj]
  cases ts[n]? with
  | none=>rfl
  | some t=>
   simp only
   cases gh s t.ops with
   | none=>rfl
   | some x=>exact TX ts l r x.1
theorem GL(ts:List eM):∀ (rest d:List Nat) (s s2:gK),iW ts d s rest=some s2↔(∀ (p:Nat) n,rest[p]?=some n->GD ts (d++rest.take p) n)/\gj ts s rest=some s2
 | [],d,s,s2=>by simp [iW,gj]
 | m :: rest,d,s,s2=>by
  constructor
  ·intro h;obtain ⟨h1,t,r,h2,h3,h4⟩:=Jz h;obtain ⟨k1,k2⟩:=(GL ts rest (d++[m]) r.1 s2).1 h4;refine ⟨fun p n hp=>?_,yBj.2 ⟨t,r,h2,h3,k2⟩⟩
   cases p with
   | zero=>simp at hp;subst hp;simpa using h1
   | succ p=>have:=k1 p n (by simpa using hp);simpa using this
  ·rintro ⟨h1,h2⟩;obtain ⟨t,r,k1,k2,k3⟩:=yBj.1 h2;rw [Qt (by have:=h1 0 m rfl;simpa using this) k1 k2];refine (GL ts rest (d++[m]) r.1 s2).2 ⟨fun p n hp=>?_,k3⟩;have:=h1 (p+1) n (by simpa using hp);simpa using this
def Ch(ts:List eM)(o:List Nat):Prop:=∀ (i k:Nat) t u,ts[i]?=some t->ts[k]?=some u->0<=t.fI->t.fI<u.eF->kq o k 0≠0->¬ kq o k 0<kq o i 0
theorem MG{o:List Nat}(h:o.Nodup){p n:Nat}(hp:o[p]?=some n):kq o n 0=p+1:=by
 obtain ⟨q,e1,e2⟩:=Ru o n 0 ((GH o n 0).2 (aC hp));obtain ⟨p1,p2⟩:=aB.1 hp;obtain ⟨q1,q2⟩:=aB.1 e2;have:q=p:=by
  rcases cI q p with h1 | h1 | h1
  ·exact absurd (q2.trans p2.symm) ((ao.1 h) q p q1 p1 h1)
  ·exact h1
  ·exact absurd (p2.trans q2.symm) ((ao.1 h) p q p1 q1 h1)
 omega
theorem Vb{ts:List eM}{o:List Nat}(hnd:o.Nodup)(ha:Ch ts o){p n:Nat}(hp:o[p]?=some n)(hin:∀ (m:Nat) t u,ts[m]?=some t->ts[n]?=some u->Mj t u->m∈o):GD ts (o.take p) n:=by
 obtain ⟨p1,p2⟩:=aB.1 hp;refine ⟨fun hm=>?_,fun m t u ht hu hne FX=>?_⟩
 ·obtain ⟨j,hj,e⟩:=cR hm;rw [List.getElem_take] at e;have hj':j<p:=by simp at hj;omega
  exact (ao.1 hnd) j p (by omega) p1 hj' (by rw [e,p2])
 ·obtain ⟨q,q1,q2⟩:=cR (hin m t u ht hu FX);have hq:o[q]?=some m:=by rw [aA q1,q2]
  have h1:=ha m n t u ht hu FX.1 FX.2 (by rw [MG hnd hp];omega);rw [MG hnd hp,MG hnd hq] at h1;have hqp:q≠p:=fun e=>by subst e;rw [hq] at hp;simp at hp;exact hne hp
  refine List.mem_iff_getElem.2 ⟨q,by simp;omega,?_⟩;rw [List.getElem_take];exact q2
theorem Ls{ts:List eM}{o:List Nat}(hnd:o.Nodup):((∃ s2,iW ts [] jh o=some s2)/\lY ts o)↔(lY ts o/\Ch ts o/\∃ s2,gj ts jh o=some s2):=by
 constructor
 ·rintro ⟨⟨s2,hg⟩,hw⟩;exact ⟨hw,fun i k t u ht hu h1 h2 h3=>never hg ht hu h1 h2 h3,s2,((GL ts o [] jh s2).1 hg).2⟩
 ·rintro ⟨hw,ha,s2,hr⟩;refine ⟨⟨s2,(GL ts o [] jh s2).2 ⟨fun p n hp=>?_,hr⟩⟩,hw⟩;rw [aY];exact Vb hnd ha hp (fun m t u ht _ FX=>hw m t ht FX.1)
def iL(ts:List eM)(o:List Nat)(j:Nat):List eM:=ts.mapIdx fun i t=>if i<j/\i∉o/\0<=t.fI then ⟨t.ops,t.eF,-1⟩ else t
theorem yj(ts:List eM)(o:List Nat)(j:Nat):(iL ts o j).length=ts.length:=by simp [iL]
theorem yf{ts:List eM}{o:List Nat}{j i:Nat}{t:eM}(h:ts[i]?=some t):(iL ts o j)[i]?=some (if i<j/\i∉o/\0<=t.fI then ⟨t.ops,t.eF,-1⟩ else t):=by
 simp [iL,List.getElem?_mapIdx,h]
theorem Lr{ts:List eM}{o:List Nat}{j i:Nat}{t':eM}(h:(iL ts o j)[i]?=some t'):∃ t,ts[i]?=some t/\t'=if i<j/\i∉o/\0<=t.fI then ⟨t.ops,t.eF,-1⟩ else t:=by
 have hi:i<ts.length:=by rw [<-yj ts o j];exact (aB.1 h).1
 refine ⟨ts[i],aA hi,?_⟩;rw [yf (aA hi)] at h;simpa using h.symm
theorem yPi(ts:List eM)(o:List Nat):iL ts o 0=ts:=by
 apply bI;intro i
 cases h:ts[i]? with
 | none=>
  have:ts.length<=i:=by simpa using h
  rw [ah (by rw [yj];exact this)]
 | some t=>rw [yf h,aK (by omega)]
theorem yHh{ts ts':List eM}(h:∀ (i:Nat),(ts'[i]?).map eM.ops=(ts[i]?).map eM.ops):∀ (o:List Nat) (s:gK),gj ts' s o=gj ts s o
 | [],s=>rfl
 | n :: o,s=>by
  have hn:=h n;rw [gj,gj]
  cases h1:ts[n]? with
  | none=>
   rw [h1] at hn
   cases h2:ts'[n]? with
   | none=>rfl
   | some t'=>rw [h2] at hn;cases hn
  | some t=>
   rw [h1] at hn
   cases h2:ts'[n]? with
   | none=>rw [h2] at hn;cases hn
   | some t'=>
    rw [h2] at hn;simp only [bK,ae] at hn;simp only;rw [hn]
    cases gh s t.ops with
    | none=>rfl
    | some r=>exact yHh h o r.1
theorem yTn(ts:List eM)(o:List Nat)(j i:Nat):((iL ts o j)[i]?).map eM.ops=(ts[i]?).map eM.ops:=by
 cases h:ts[i]? with
 | none=>
  have:ts.length<=i:=by simpa using h
  rw [ah (by rw [yj];exact this)]
 | some t=>
  rw [yf h];split <;> rfl
def Bb(ts:List eM)(o:List Nat)(j:Nat):Prop:=∀ (i:Nat) t,i<j->ts[i]?=some t->i∉o->0<=t.fI->∀ k∈o,∀ u,ts[k]?=some u->¬ t.fI<u.eF
theorem Uc{ts:List eM}{o:List Nat}(hnd:o.Nodup):(Bb ts o ts.length/\(∃ s2,iW (iL ts o ts.length) [] jh o=some s2)/\lY (iL ts o ts.length) o)↔∃ s2,iW ts [] jh o=some s2:=by
 have hlt:∀ {i:Nat} {t:eM},ts[i]?=some t->i<ts.length:=fun h=>(aB.1 h).1;have hrun:∀ s,gj (iL ts o ts.length) s o=gj ts s o:=yHh (yTn ts o ts.length) o;have uN:lY (iL ts o ts.length) o:=fun i t' ht' h0=>by
  obtain ⟨t,ht,rfl⟩:=Lr ht';by_cases CF:i∈o
  ·exact CF
  ·by_cases h1:0<=t.fI
   ·rw [aP ⟨hlt ht,CF,h1⟩] at h0;simp at h0
   ·rw [aK (fun h=>h1 h.2.2)] at h0;exact absurd h0 h1
 constructor
 ·rintro ⟨hout,Od,hw⟩;obtain ⟨_,ha,s2,hr⟩:=(Ls hnd).1 ⟨Od,hw⟩;have ha':Ch ts o:=fun i k t u ht hu h1 h2 h3=>by
   by_cases CF:i∈o
   ·have e1:(iL ts o ts.length)[i]?=some t:=by rw [yf ht,aK (fun h=>h.2.1 CF)]
    obtain ⟨u',e2,e3⟩:∃ u',(iL ts o ts.length)[k]?=some u'/\u'.eF=u.eF:=⟨_,yf hu,by split <;> rfl⟩;exact ha i k t u' e1 e2 h1 (by rw [e3];exact h2) h3
   ·exact absurd h2 (hout i t (hlt ht) ht CF h1 k ((GH o k 0).1 h3) u hu)
  refine ⟨s2,(GL ts o [] jh s2).2 ⟨fun p n hp=>?_,by rw [<-hrun];exact hr⟩⟩;rw [aY];refine Vb hnd ha' hp (fun m t u ht hu FX=>?_);by_cases hmo:m∈o
  ·exact hmo
  ·exact absurd FX.2 (hout m t (hlt ht) ht hmo FX.1 n (aC hp) u hu)
 ·rintro ⟨s2,hg⟩;obtain ⟨h1,h2⟩:=(GL ts o [] jh s2).1 hg;have hout:Bb ts o ts.length:=fun i t _ ht CF h0 k hk u hu hlt'=>by
   obtain ⟨p,hp,e⟩:=cR hk;have hn:=h1 p k (by rw [aA hp,e]);have:=hn.2 i t u ht hu (fun q=>CF (q ▸ hk)) ⟨h0,hlt'⟩;rw [aY] at this;exact CF (cP this)
  refine ⟨hout,((Ls hnd).2 ⟨uN,fun i k t' u' ht' hu' q1 q2 q3=>?_,s2,by rw [hrun];exact h2⟩).1,uN⟩;obtain ⟨t,ht,rfl⟩:=Lr ht';obtain ⟨u,hu,rfl⟩:=Lr hu';have CF:i∈o:=uN i _ ht' q1;rw [aK (fun h=>h.2.1 CF)] at q1 q2;have e3:(if k<ts.length/\k∉o/\0<=u.fI then (⟨u.ops,u.eF,-1⟩:eM) else u).eF=u.eF:=by split <;> rfl
  rw [e3] at q2;exact never hg ht hu q1 q2 q3
def zf(o:fg):Option VD:=if o.kind=2 then some ⟨o.value,true⟩ else if o.kind=3 then some xP else none
def kx:List fg->ByteArray->Option VD
 | [],_=>none
 | o :: os,k=>match kx os k with
  | some v=>some v
  | none=>if o.key=k then zf o else none
theorem UO:∀ (os:List fg) (o:fg) (k:ByteArray),kx (os++[o]) k=if o.key=k/\(zf o).isSome=true then zf o else kx os k
 | [],o,k=>by
  simp only [aY,kx];by_cases e:o.key=k
  ·rw [aP e]
   cases hw:zf o with
   | none=>simp
   | some v=>simp [e]
  ·rw [aK e,aK (fun q=>e q.1)]
 | p :: os,o,k=>by
  rw [bF,kx,UO os o k];by_cases e:o.key=k/\(zf o).isSome=true
  ·rw [aP e,aP e];obtain ⟨v,hv⟩:=bD.1 e.2;rw [hv]
  ·rw [aK e,aK e];rfl
theorem MR:∀ {os:List fg} {k:ByteArray},(kx os k).isSome=true->∃ o∈os,o.key=k/\(o.kind=2\/o.kind=3)
 | [],k,h=>by simp [kx] at h
 | o :: os,k,h=>by
  rw [kx] at h
  cases hl:kx os k with
  | some v=>
   obtain ⟨o',h1,h2⟩:=MR (os:=os) (k:=k) (by rw [hl];rfl);exact ⟨o',by simp [h1],h2⟩
  | none=>
   rw [hl] at h;simp only at h;split at h
   ·rename_i e;refine ⟨o,by simp,e,?_⟩;unfold zf at h;split at h
    ·rename_i q;exact .inl q
    ·split at h
     ·rename_i q;exact .inr q
     ·simp at h
   ·simp at h
theorem VY{s s1:gK}{o:fg}{us:List (ByteArray × VD)}(h:ir s o=some (s1,us))(k:ByteArray):s1 k=(if o.key=k then zf o else none).getD (s k):=by
 unfold ir at h;unfold zf;split at h
 ·rename_i e;split at h
  ·cases h
   have e2:¬ o.kind=2:=by omega
   have e3:¬ o.kind=3:=by omega
   simp [e2,e3]
  ·cases h
 ·split at h
  ·rename_i e
   cases h
   unfold nG;by_cases q:k=o.key
   ·rw [aP q,aP q.symm,aP e];rfl
   ·rw [aK q,aK (fun z=>q z.symm)];rfl
  ·split at h
   ·rename_i e2 e
    cases h
    unfold nG;by_cases q:k=o.key
    ·rw [aP q,aP q.symm,aK e2,aP e];rfl
    ·rw [aK q,aK (fun z=>q z.symm)];rfl
   ·rename_i e2 e3
    cases h
    simp [e2,e3]
theorem Qr:∀ {os:List fg} {s s1:gK} {us:List (ByteArray × VD)},gh s os=some (s1,us)->∀ k,s1 k=(kx os k).getD (s k)
 | [],s,s1,us,h,k=>by simp [gh] at h;rw [<-h.1];rfl
 | o :: os,s,s1,us,h,k=>by
  rw [gh] at h
  cases hp:ir s o with
  | none=>rw [hp] at h;cases h
  | some r=>
   rw [hp] at h;simp only at h
   cases hq:gh r.1 os with
   | none=>rw [hq] at h;cases h
   | some t=>
    rw [hq] at h;simp at h;obtain ⟨rfl,_⟩:=h;have e1:=VY (us:=r.2) hp k;have e2:=Qr (us:=t.2) hq k;rw [e2,e1,kx]
    cases kx os k with
    | some v=>rfl
    | none=>rfl
theorem yTm{s s':gK}{o:fg}(h:s o.key=s' o.key):(ir s o).isSome=(ir s' o).isSome:=by
 unfold ir;rw [h];split
 ·split <;> rfl
 ·split
  ·rfl
  ·split <;> rfl
theorem yDj:∀ {os:List fg} {s s':gK},(∀ o∈os,s o.key=s' o.key)->(gh s os).isSome=true->(gh s' os).isSome=true
 | [],s,s',_,_=>rfl
 | o :: os,s,s',he,h=>by
  rw [gh] at h ⊢;have h0:=yTm (he o (by simp))
  cases hp:ir s o with
  | none=>rw [hp] at h;simp at h
  | some r=>
   rw [hp] at h h0;obtain ⟨r',hr'⟩:=bD.1 (h0.symm.trans rfl);rw [hr'];simp only at h ⊢;have hs:(gh r.1 os).isSome=true:=by
    cases hq:gh r.1 os with
    | none=>rw [hq] at h;simp at h
    | some t=>rfl
   have:=yDj (s':=r'.1) (fun o' ho'=>by rw [VY (us:=r.2) hp,VY (us:=r'.2) hr',he o' (by simp [ho'])]) hs;obtain ⟨t,ht⟩:=bD.1 this;rw [ht];rfl
theorem yKv{os:List fg}{s:gK}{o:fg}(h:(gh s os).isSome=true)(hr:o.kind=1->(kx os o.key).getD (s o.key)=yb o):(gh s (os++[o])).isSome=true:=by
 obtain ⟨t,ht⟩:=bD.1 h;rw [UJ os s t.1 t.2 o ht,Option.isSome_map];unfold ir;split
 ·rename_i e;rw [Qr (us:=t.2) ht,hr e,aP rfl];rfl
 ·split
  ·rfl
  ·split <;> rfl
def lG(O:Nat->List fg):gK->List Nat->Option gK
 | s,[]=>some s
 | s,d :: ds=>match gh s (O d) with
  | none=>none
  | some r=>lG O r.1 ds
theorem UC(O:Nat->List fg):∀ (ds:List Nat) (s:gK) (d:Nat),lG O s (ds++[d])=(lG O s ds).bind fun v=>(gh v (O d)).map (·.1)
 | [],s,d=>by
  simp only [aY,lG,cE]
  cases gh s (O d) with
  | none=>rfl
  | some r=>rfl
 | x :: ds,s,d=>by
  simp only [bF,lG]
  cases gh s (O x) with
  | none=>rfl
  | some r=>exact UC O ds r.1 d
theorem yHi{O O':Nat->List fg}:∀ (ds:List Nat) (s:gK),(∀ d∈ds,O' d=O d)->lG O' s ds=lG O s ds
 | [],s,_=>rfl
 | d :: ds,s,h=>by
  simp only [lG];rw [h d (by simp)]
  cases gh s (O d) with
  | none=>rfl
  | some r=>exact yHi ds r.1 (fun x hx=>h x (by simp [hx]))
def yY(O:Nat->List fg)(ds:List Nat)(k:ByteArray):Option Nat:=ds.reverse.find? fun d=>(kx (O d) k).isSome
theorem yKg(O:Nat->List fg)(ds:List Nat)(d:Nat)(k:ByteArray):yY O (ds++[d]) k=if (kx (O d) k).isSome then some d else yY O ds k:=by
 unfold yY;rw [List.reverse_append,List.reverse_singleton,List.singleton_append,cJ];split <;> rename_i e <;> simp [e]
theorem yUr(O:Nat->List fg)(k:ByteArray)(s:gK)(rs:List Nat):∀ (V:gK),lG O s rs.reverse=some V->V k=((yY O rs.reverse k).bind fun d=>kx (O d) k).getD (s k):=by
 induction rs with
 | nil=>intro V h;simp only [lG,List.reverse_nil,ae] at h;rw [<-h];rfl
 | cons d rs ih=>
  intro V h;rw [List.reverse_cons] at h ⊢;obtain ⟨ds,hds⟩:∃ z,z=rs.reverse:=⟨_,rfl⟩;rw [<-hds] at h ih ⊢;rw [UC] at h
  cases hv:lG O s ds with
  | none=>rw [hv] at h;cases h
  | some U=>
   rw [hv,cE] at h
   cases hq:gh U (O d) with
   | none=>rw [hq] at h;cases h
   | some r=>
    rw [hq,bK] at h;have h:=ax h;rw [<-h,Qr (us:=r.2) hq,yKg,ih U hv];split
    ·rename_i e;obtain ⟨v,hv'⟩:=bD.1 e;rw [hv',cE,hv'];rfl
    ·rename_i e
     cases hl:kx (O d) k with
     | some v=>rw [hl] at e;simp at e
     | none=>rfl
theorem Gn{O:Nat->List fg}{s V:gK}{ds:List Nat}(h:lG O s ds=some V)(k:ByteArray):V k=((yY O ds k).bind fun d=>kx (O d) k).getD (s k):=by
 have:=yUr O k s ds.reverse V;rw [List.reverse_reverse] at this;exact this h
def pW(k:ec)(x:Int)(w:Bool):Prop:=∃ c∈k.held,c.tx=x/\(w=true->c.mode=2)
theorem pW.over{k:ec}{held:List de}{x:Int}{w:Bool}(h:pW k x w)(ho:Over k.held held){ws:List de}:pW ⟨held,ws⟩ x w:=by
 obtain ⟨c,hc,e1,e2⟩:=h;obtain ⟨b,hb,e3,e4⟩:=ho c hc;exact ⟨b,hb,by omega,fun q=>e4 (e2 q)⟩
theorem Tz:∀ (q held kept:List de),kZ held->kZ (kept++q)->(∀ c∈held,c.mode=1\/c.mode=2)->(∀ c∈kept++q,c.mode=1\/c.mode=2)->(∀ c∈kept++q,∀ o∈held,o.tx=c.tx->o.mode<c.mode)->Over held (jO held kept q).1
 | [],held,kept,_,_,_,_,_=>Over.refl _
 | c :: q,held,kept,h1,h2,h3,h4,h5=>by
  have hc:=h4 c (by simp);have hel:∀ x∈kept++q,x.tx≠c.tx:=fun x hx=>by
   have hp:=bg.1 h2;rcases aN.1 hx with m | m
   ·have:=hp.2.2 x m c (by simp);omega
   ·have:=cN hp.2.1 m;omega
  unfold jO;split
  ·have hsub:(kept++q).Sublist (kept++c :: q):=List.Sublist.append (List.Sublist.refl _) (List.sublist_cons_self _ _);refine Over.trans (RG h1 hc (fun o ho e1 e2=>by have:=h5 c (by simp) o ho e1;omega)) (Tz q (jS held c) kept (EU h1 c) (h2.sublist hsub) (fun x hx=>?_) (fun x hx=>h4 x (hsub.subset hx)) (fun x hx o ho e=>?_))
   ·rcases (oC h1 c x).1 hx with q' | q'
    ·rw [q'];exact hc
    ·exact h3 x q'.1
   ·rcases (oC h1 c o).1 ho with q' | q'
    ·rw [q'] at e;exact absurd e.symm (hel x hx)
    ·exact h5 x (hsub.subset hx) o q'.1 e
  ·have e:kept++[c]++q=kept++c :: q:=by simp
   exact Tz q held (kept++[c]) h1 (by rw [e];exact h2) h3 (by rw [e];exact h4) (by rw [e];exact h5)
theorem pW.rel{s:fy}{k:ByteArray}{x t:Int}{w:Bool}(hk:mu (s k))(h:pW (s k) x w)(hne:x≠t):pW (gP s t k) x w:=by
 unfold gP;split
 ·obtain ⟨c,hc,e1,e2⟩:=h;have hs1:(kV (s k).held t).Sublist (s k).held:=bj;have hs2:(kV (s k).waits t).Sublist (s k).waits:=bj;obtain ⟨b,hb,e3,e4⟩:=Tz (kV (s k).waits t) (kV (s k).held t) [] (hk.held.sublist hs1) (show kZ ([]++kV (s k).waits t) from hk.waits.sublist hs2) (fun c hc=>hk.hmode c (hs1.subset hc)) (fun c hc=>hk.pn c (hs2.subset (by simpa using hc))) (fun c hc o ho e=>hk.wants c (hs2.subset (by simpa using hc)) o (hs1.subset ho) e) c (pP.2 ⟨hc,by omega⟩);exact ⟨b,hb,by omega,fun q=>e4 (e2 q)⟩
 ·exact h
theorem pW.lock{k:ec}{x:Int}{w:Bool}{c:de}(hk:mu k)(hc:c.mode=1\/c.mode=2)(h:pW k x w):pW (iv k c).1 x w:=by
 unfold iv;split
 ·exact h
 ·split
  ·exact h
  ·rename_i e1 e2;split
   ·exact h.over (RG hk.held hc (fun o ho q1 q2=>by
     have:=Jn hk.held ho;rw [q1] at this;omega))
   ·split
    ·exact h
    ·exact h.over (Over.refl _)
theorem pW.alone{W:List Int}{k:ec}(h:qP W k){x y:Int}{w:Bool}(hx:pW k x true)(hy:pW k y w):x=y:=by
 obtain ⟨c,hc,e1,e2⟩:=hx;obtain ⟨d,hd,e3,_⟩:=hy;have:=h.alone c hc d hd;unfold kU at this;rw [e2 rfl] at this;simp at this;omega
theorem pW.DA{k:ec}(h:mu k){x m:Int}(hm:m=1\/m=2)(hx:¬ iw k.held x<m):pW k x (decide (m=2)):=by
 have h0:iw k.held x≠0:=by omega
 have:∃ c∈k.held,c.tx=x:=aS fun q=>h0 ((GN h.held h.h0).2 fun c hc e=>q ⟨c,hc,e⟩);obtain ⟨c,hc,e⟩:=this;have hmo:=Jn h.held hc;rw [e] at hmo;exact ⟨c,hc,e,fun q=>by
  have h1:=h.hmode c hc;have h2:m=2:=of_decide_eq_true q;omega⟩
theorem pW.less{k:ec}{x:Int}{w w':Bool}(h:pW k x w)(hw:w'=true->w=true):pW k x w':=by
 obtain ⟨c,hc,e1,e2⟩:=h;exact ⟨c,hc,e1,fun q=>e2 (hw q)⟩
end Go.Proofs.YtmaiggbnceejiaaGreatDoor
