import Derived.Test.YtmaiggbnceejiaaGreatDoorP19
import Derived.Test.YtmaiggbnceejiaaGreatDoorP17
import Derived.Test.YtmaiggbnceejiaaGreatDoorP07
import Derived.Test.YtmaiggbnceejiaaGreatDoorP02
import Derived.Maps.OwnSet
import Derived.Maps.AppendAt
import Derived.RegionTactic
import Derived.StringKeys
import Derived.Test.YtmaiggbnceejiaaGreatDoorP03
import Derived.Test.YtmaiggbnceejiaaGreatDoorP18
import Derived.StillTailTactics
set_option linter.unusedVariables false
set_option maxRecDepth 100000
set_option maxHeartbeats 16000000
namespace Go.Proofs.YtmaiggbnceejiaaGreatDoor
open Go.RowKit Go.Lib Go.Maps
theorem Ul(s:dW)(id:Int)(key:ByteArray)(mode:Int):(jH s id key mode).1.lines=s.lines:=by
 unfold jH;simp only;split
 ·have:=(gB.fT (oK (gZ s id key mode).1 id key) (gZ s id key mode).1).l;exact this
 ·rfl
theorem yEs(s:dW)(id:Int)(key:ByteArray)(mode:Int):(gC s id key mode).1.lines=s.lines:=by
 unfold gC;simp only;split
 ·exact Ul s id key mode
 ·split
  ·exact Ul s id key mode
  ·exact ((gB.fT _ _).l).trans (Ul s id key mode)
theorem gU.WE{w:World}{L:Lo}{v:Value}{cs:List dt}(h:gU w L v cs)(hL:L.n<=w.heap.size):∃ us,rr w w.heap.size v cs us/\∀ c∈cs,c.writes.length<=40:=by
 have h0:=h.oN;obtain ⟨us,h1,h2,h3,h4⟩:=h;refine ⟨us,⟨h1,?_,fun i c u hi hu=>?_⟩,fun c hc=>(h4 c hc).2⟩
 ·obtain ⟨wy,⟨k1,k2⟩,k3⟩:=gU.oN (L:=L) ⟨us,h1,h2,h3,h4⟩;have hz:(cs.zip us).length=cs.length:=by rw [bz];omega
  rcases h2.2 with ⟨rfl,hn⟩ | ⟨g,cap,cur,rfl,q1,q2,q3,q4,q5,q6⟩
  ·have hc:cs=[]:=aT hn;subst hc;exact gG.nil _ _ _ _
  ·have hcl:=h2.cells (g:=g) rfl;have hgl:g<w.heap.size:=(aK.1 q2).1;refine ⟨_,cap,by rw [hz],by rw [hz];exact q3,q4,.inr ⟨g,0,rfl,by omega,fun i d hi=>⟨vh d.1 d.2,rfl,rfl,fun j x hx=>?_⟩⟩⟩;obtain ⟨e1,e2⟩:=QG hi;have:=hcl _ _ (Qv cs us i d.1 d.2 h1 e1 e2 j x hx);rw [Go.WideShapes.add_plain,ah] at this;rw [ah];exact this
 ·obtain ⟨a,cap,e1,e2,e3,e4⟩:=h3 i c u hi hu;refine ⟨a,cap,e1,e2,e3,?_⟩;rcases e4 with e4 | ⟨b,off,e5,e6,e7⟩
  ·exact .inl e4
  ·refine .inr ⟨b,off,e5,?_,fun j p hp=>⟨[.string p.key,.string p.val,.bool p.gone],rfl,rfl,fun k x hx=>?_⟩⟩
   ·rcases e6 with e6 | ⟨⟨cur,fr,e6⟩,_⟩
    ·omega
    ·exact (aK.1 e6).1
   ·obtain ⟨f0,f1,f2⟩:=e7 j p hp
    match k,hx with
    | 0,hx=>simp at hx;subst hx;exact f0
    | 1,hx=>simp at hx;subst hx;exact f1
    | 2,hx=>simp at hx;subst hx;exact f2
    | (k+3),hx=>simp at hx
def fV(s:dW)(key:ByteArray):List dt:=((s.line (ee s key)).nodes.getD 0 ⟨0,0,[],[],0⟩).log
def Af(w:World)(n c g:Nat)(y:dX)(r:dW × ByteArray × Bool × Int)(e:Ending)(w':World):Prop:=e=.returned (.tuple #[.string r.2.1,.bool r.2.2.1,ie r.2.2.2])/\∃ y',du w' n c g y' r.1/\eJ w y w' y'
theorem yNk(n c g:Nat)(y:dX)(s:dW)(id:Int)(key:ByteArray)(w:World)(h:du w n c g y s)(hok:Ic w n c s)(hk:fj key)(Gn:(fV s key).length<=1000/\∀ c∈fV s key,c.kind=3->(kq (fV s key) 2 c.tx).isSome=true) :
  Calls Tryz.prog 14 #[.pointer (some ⟨g,0,none⟩),.int .i64 id,.string key] w (Af w n (c+2) g y (fL s id key)):=by
 have hmk:=Ip;have hcc:=hok.c;have DV:=dU (yHn n c g y s id key w h hok.sh hk);have Bc:Hid (fL s id key=if nA s id key≠0 then (s,ByteArray.empty,false,nA s id key) else if (gC s id key 1).2≠0 then ((gC s id key 1).1,ByteArray.empty,false,(gC s id key 1).2) else ((gC s id key 1).1,(wT (((gC s id key 1).1.tx id.toNat).writes.reverse++pI (fV s key)) key).1,(wT (((gC s id key 1).1.tx id.toNat).writes.reverse++pI (fV s key)) key).2,0)):=rfl;have HH:=dU h;have oZ:=dU hok;have sB:=dU Gn;clear h hok Gn;go_enter Tryz.func14,Tryz.ntmps14;go_wp2_with fail;refine DV.out.mono ?_;rintro e w2 ⟨hC,hm2⟩;rcases hC with ⟨hc0,rfl⟩ | ⟨hc0,b,d,hb,hd,hlv,rfl⟩
 ·rw [mJ hc0];have HF:Hid (Af w n (c+2) g y (fL s id key) (.returned (.tuple #[.string ⟨#[]⟩,.bool false,.iface 90 (.int .i64 (nA s id key))])) w2):=by
   unfold Hid;rw [Bc.out,aJ hc0];exact ⟨by rw [mJ hc0];rfl,y,(HH.out.quiet hm2).sZ (by omega),eJ.quiet hm2⟩
  clear hc0;go_wp2_with fail;go_ret3;exact HF.out
 ·obtain ⟨ho,Gp,BN⟩:=nu hc0;obtain ⟨i,rfl,hi1,hi2,hst⟩:=nY ho;have AP:Hid (fL s i key=if (gC s i key 1).2≠0 then ((gC s i key 1).1,ByteArray.empty,false,(gC s i key 1).2) else ((gC s i key 1).1,(wT (((gC s i key 1).1.tx i).writes.reverse++pI (fV s key)) key).1,(wT (((gC s i key 1).1.tx i).writes.reverse++pI (fV s key)) key).2,0)):=by
   unfold Hid;rw [Bc.out,aE (fun q=>q hc0),aS]
  have qh:=HH.out.quiet hm2;have yM:=dU (yCc n c g y s i key 1 w2 qh ⟨oZ.out.sh,oZ.out.ki,oZ.out.et.mod hm2,oZ.out.n,hcc⟩ hi1 hi2 Gp (.inl rfl));have gu:=dU hm2;have HB:=dU hb;have HD:=dU hd;clear hc0 hb hd hlv DV Bc hm2 qh ho BN;go_wp2_with fail;refine yM.out.mono ?_;rintro e w5 ⟨rfl,y5,kt,ox⟩;have AB:=(eJ.quiet gu.out).trans ox;obtain ⟨mQ,yI⟩:=zTx s i key 1 oZ.out.sh.tw;have htl:=oZ.out.sh.tl;by_cases he:(gC s i key 1).2=0
  ·rw [he,oL];have hle:i<=(gC s i key 1).1.dV.length:=by rw [mQ];exact hi2
   obtain ⟨Ff,xG,zu⟩:=kt.xA (id:=i) hi1 hle;have WW:=FM yI i;have nP:y5.gH[ee s key]?=some b:=by rw [AB.l];exact HB.out
   have Rg:(y5.fU b)[0]?=some d:=by rw [AB.n];exact HD.out
   have hnd:=kt.mN nP (aC Rg);have gk:(y5.st (gC s i key 1).1 d).log=fV s key:=by
    have hkl:ee s key<(gC s i key 1).1.lines.length:=by
     have:=(aB.1 nP).1;rw [kt.iN] at this;exact this
    have hlp:=kt.line _ _ _ nP (aA hkl);have hnl:0<((gC s i key 1).1.lines[ee s key]).nodes.length:=by
     have:=(aB.1 Rg).1;rw [hlp.len] at this;exact this
    rw [kt.kU nP (aA hkl) Rg (aA hnl)];unfold fV dW.line;rw [<-yEs s i key 1];simp only [aH,aA hkl,aA hnl,dK]
   have nU:=dU (xw n (c+2) g y5 _ i Ff w5 kt hi1 (by omega) xG);have Kv:=dU (LR (y5.lo n) d (y5.kI d) (y5.kJ d) _ w5 hnd);rw [gk] at Kv;have HF:Hid (∀ w6 r,Mod dZ w5 w6->r=wT (((gC s i key 1).1.tx i).writes.reverse++pI (fV s key)) key->Af w n (c+2) g y (fL s i key) (.returned (.tuple #[.string r.1,.bool r.2,.nilIface])) w6):=fun w6 r hm hr=>by
    subst hr;rw [AP.out,aE (fun q=>q he)];exact ⟨by rw [oL],y5,kt.quiet hm,AB.trans (eJ.quiet hm)⟩
   have HT:=dU zu;have Sg:Hid (n<=w5.heap.size):=aM kt.low (Nat.le_of_lt kt.blk.lt);have hc2:=zu.blk.cell 2 rfl;clear kt ox zu xG AB mQ yI he yM nP Rg hnd gk hle;go_wp2_with (first
    | (go_at_call 34;refine nU.out.mono ?_;rintro e w6 ⟨rfl,rfl⟩)
    | (go_at_call 40;refine Kv.out.mono ?_;rintro e w6 ⟨lv,rfl,NC,Xo,fq⟩;obtain ⟨la,lc,Ci⟩:=NC.slice;subst Ci))
   obtain ⟨us,Ci,Mm⟩:=NC.WE (aM Sg.out fq.size);have pS:=dU (yPr Ff _ _ ((gC s i key 1).1.tx i).writes (fV s key) us key (by omega) sB.out.1 (fun c hc h3=>by
    have:=sB.out.2 c hc h3;obtain ⟨j,hj⟩:=az.1 this;have hjl:j<(fV s key).length:=by
     unfold kq at hj;exact (bu.1 hj).1
    exact ⟨j,_,hj,aA hjl,aM (Mm _ (dA hjl)) (by omega)⟩) w6 (fq.cell hc2 id) (HT.out.mod fq id (fun _ _ e=>e)).oN Ci)
   obtain ⟨r,hr⟩:∃ z,z=wT (((gC s i key 1).1.tx i).writes.reverse++pI (fV s key)) key:=⟨_,rfl⟩;rw [<-hr] at pS;have HG:=dU (fun w7 (ix:Mod dZ w6 w7)=>HF.out w7 r (fq.trans ix) hr);clear hr NC Xo fq Ci Mm HF HT Sg hc2 Kv nU;refine pS.out.mono ?_;rintro e w7 ⟨rfl,ix⟩;have HG2:=dU (HG.out w7 ix);clear HG ix pS;go_wp2_with fail;go_ret3;exact HG2.out
  ·rw [mJ he];have HF:Hid (Af w n (c+2) g y (fL s i key) (.returned (.tuple #[.string ⟨#[]⟩,.bool false,.iface 90 (.int .i64 (gC s i key 1).2)])) w5):=by
    unfold Hid;rw [AP.out,aJ he];exact ⟨by rw [mJ he];rfl,y5,kt,AB⟩
   clear kt ox AB he yM;go_wp2_with fail;go_ret3;exact HF.out
structure VD where
 text:ByteArray
 there:Bool
 deriving DecidableEq
def Ih:VD:=⟨ByteArray.empty,false⟩
abbrev mT:=ByteArray->VD
def CI(s:mT)(k:ByteArray)(v:VD):mT:=fun x=>if x=k then v else s x
structure gQ where
 kind:Int
 key:ByteArray
 value:ByteArray
 found:Bool
instance:Inhabited gQ:=⟨⟨0,ByteArray.empty,ByteArray.empty,false⟩⟩
structure gg where
 ops:List gQ
 eI:Int
 jx:Int
instance:Inhabited gg:=⟨⟨[],0,0⟩⟩
def JW(o:gQ):VD:=if o.found then ⟨o.value,true⟩ else Ih
def oG(s:mT)(o:gQ):Option (mT × List (ByteArray × VD)):=
 if o.kind=1 then (if s o.key=JW o then some (s,[]) else none)
 else if o.kind=2 then some (CI s o.key ⟨o.value,true⟩,[(o.key,s o.key)])
 else if o.kind=3 then some (CI s o.key Ih,[(o.key,s o.key)])
 else some (s,[])
def nk:mT->List gQ->Option (mT × List (ByteArray × VD))
 | s,[]=>some (s,[])
 | s,o :: os=>match oG s o with
  | none=>none
  | some (s1,u)=>match nk s1 os with
   | none=>none
   | some (s2,us)=>some (s2,u++us)
theorem zXs:∀ (os:List gQ) (s s1:mT) (us:List (ByteArray × VD)) (o:gQ),nk s os=some (s1,us)->nk s (os++[o])=(oG s1 o).map (fun r=>(r.1,us++r.2))
 | [],s,s1,us,o,h=>by
  simp [nk] at h;obtain ⟨rfl,rfl⟩:=h;rw [ak,nk]
  cases oG s o with
  | none=>rfl
  | some r=>simp [nk]
 | p :: os,s,s1,us,o,h=>by
  rw [nk] at h;rw [bU,nk]
  cases hp:oG s p with
  | none=>rw [hp] at h;cases h
  | some r=>
   rw [hp] at h;simp only at h ⊢
   cases hq:nk r.1 os with
   | none=>rw [hq] at h;cases h
   | some t=>
    rw [hq] at h;simp at h;obtain ⟨rfl,rfl⟩:=h;rw [zXs os r.1 t.1 t.2 o hq]
    cases oG t.1 o with
    | none=>rfl
    | some x=>simp
def Ik(o:gQ):List Value:=[.int .i64 o.kind,.string o.key,.string o.value,.bool o.found]
def Ao:List gQ->List Value
 | []=>[]
 | o :: os=>Ik o++Ao os
theorem Uq:∀ os o,Ao (os++[o])=Ao os++Ik o
 | [],o=>by simp [Ao]
 | p :: os,o=>by simp [Ao,Uq os o]
def FH(t:gg)(v:Value):List Value:=[v,.int .i64 t.eI,.int .i64 t.jx]
def rU:List gg->List Value->List Value
 | t :: ts,v :: vs=>FH t v++rU ts vs
 | _,_=>[]
theorem zPd:∀ (ts:List gg) (vs:List Value) (t:gg) (v:Value),vs.length=ts.length->rU (ts++[t]) (vs++[v])=rU ts vs++FH t v
 | [],[],t,v,_=>by simp [rU]
 | [],_ :: _,_,_,h=>by simp at h
 | _ :: _,[],_,_,h=>by simp at h
 | p :: ts,q :: vs,t,v,h=>by simp [rU,zPd ts vs t v (by simpa using h)]
theorem Qw:∀ (ts:List gg) (vs:List Value) (i:Nat) (t:gg) (v:Value),vs.length=ts.length->ts[i]?=some t->vs[i]?=some v->∀ j x,(FH t v)[j]?=some x->(rU ts vs)[i*3+j]?=some x
 | [],_,_,_,_,_,h,_,_,_,_=>by simp at h
 | _ :: _,[],_,_,_,h,_,_,_,_,_=>by simp at h
 | p :: ts,q :: vs,0,t,v,_,h,h',j,x,hx=>by
  simp at h h';subst h h';have hj:j<(FH p q).length:=(aB.1 hx).1;rw [rU,cj,ah,aI hj];exact hx
 | p :: ts,q :: vs,i+1,t,v,hl,h,h',j,x,hx=>by
  have ih:=Qw ts vs i t v (by simpa using hl) (by simpa using h) (by simpa using h') j x hx;have hl:(FH p q).length=3:=rfl;rw [rU,aO (by omega),hl,show (i+1)*3+j - 3=i*3+j by omega];exact ih
def qp(ty:TypeId)(w:World)(B:Nat)(v:Value)(ts:List gg)(vs:List Value):Prop:=vs.length=ts.length/\w.ownsRow B ty 3 v ts.length (rU ts vs)
theorem qp.mod{ty:TypeId}{G:Nat->Prop}{w w':World}{B:Nat}{v:Value}{ts:List gg}{vs:List Value}(h:qp ty w B v ts vs)(hm:Mod G w w')(hG:∀ k,v.ownBlock=some k->¬ G k):qp ty w' B v ts vs:=⟨h.1,gD h.2 hm (fun k _ _ e=>hG k e)⟩
def jb(a:Int)(n:Nat):Nat:=(IntKind.u64.wrap a % n).toNat
theorem Aq(a:Int)(n:Nat)(hn:0<n):jb a n<n:=by
 have h1:=Int.emod_nonneg (IntKind.u64.wrap a) (show (n:Int)≠0 by omega);have h2:=Int.emod_lt_of_pos (IntKind.u64.wrap a) (show (0:Int)<n by omega);unfold jb;omega
theorem MO{x y:Int}(h:x=y):Ending.returned (.int .i64 x)=Ending.returned (.int .i64 y):=by rw [h]
theorem Bv(a:Int)(n:Nat)(w:World)(hn:0<n)(hm:(n:Int)<=1000) :
  Calls Tryz.prog 18 #[.int .i64 a,.int .i64 n] w fun e w'=>e=.returned (.int .i64 (jb a n))/\w'=w:=by
 have hw:IntKind.u64.wrap (n:Int)=n:=by rw [IntKind.wrap_u64];omega
 have h0:0<=IntKind.u64.wrap a:=by rw [IntKind.wrap_u64];omega
 have hnz:((n:Int) == 0)=false:=by rw [bk];omega
 have hk:wrap64 (IntKind.u64.wrap a % n)=(jb a n:Nat):=by
  have h1:=Int.emod_nonneg (IntKind.u64.wrap a) (show (n:Int)≠0 by omega);have h2:=Int.emod_lt_of_pos (IntKind.u64.wrap a) (show (0:Int)<n by omega);unfold jb;rw [IntWalk.wrap64_in _ ⟨by omega,by omega⟩];omega
 go_enter Tryz.func18,Tryz.ntmps18;go_wp2_with fail;go_ret
 first
  | exact ⟨rfl,rfl⟩
  | (refine ⟨?_,rfl⟩;exact MO hk)
theorem zYf(n c g q q2:Nat)(y:dX)(s:dW)(k:Nat)(d:fR)(w:World)(h:du w n c g y s)(hs:lY s)(hd:d.key.size<=1000000)(hq:w.cell? ⟨q,0,none⟩=some (.pointer (some ⟨g,0,none⟩)))(hq2:w.cell? ⟨q2,0,none⟩=some (.int .i64 k)) :
  Calls Tryz.prog 161 (#[.agg #[.string d.key,.string d.val,.bool d.gone]]++#[.pointer (some ⟨q,0,none⟩),.pointer (some ⟨q2,0,none⟩)]) w fun e w'=>e=.returned (.bool (!decide (ee s d.key=k)))/\Mod dZ w w':=by
 obtain ⟨w1,hw1⟩:∃ x,x=w.alloc (.cells #[.string d.key,.string d.val,.bool d.gone] 68):=⟨_,rfl⟩;have di:Mod dZ w w1:=by rw [hw1];exact (Mod.refl _ w).alloc _
 have hb1:dh w1 w.heap.size [.string d.key,.string d.val,.bool d.gone] 68:=by rw [hw1];exact dh.new w _ _
 have x0:=hb1.cell 0 rfl;have p1:=di.cell hq id;have p2:=di.cell hq2 id;have hm2:Mod dZ w w1.drew:=di.drewN 1;have wJ:=dU (Tu n c g y s d.key w1.drew (h.quiet hm2) hs hd);have HM:=dU hm2;clear h hb1 hq hq2 hm2;go_enter Tryz.func161,Tryz.ntmps161;go_upto_region 1 with fail;rw [<-hw1];clear hw1 di;refine wp_region_still_tail 6 (by kernel_rfl) (by kernel_rfl) ?_;simp only [aq,bg,bR,bx]
 repeat still_step
 still_call wJ.out
 repeat still_step
 refine wpStill_nil ?_;go_wp2_with fail;go_ret;refine ⟨?_,HM.out⟩;congr 2;by_cases e:ee s d.key=k
 ·rw [aQ e,e];simp
 ·rw [aP e];have:((ee s d.key:Nat):Int)≠(k:Int):=by omega
  simpa using this
theorem yEv(s:dW)(t:jO)(k:Nat):iy (fun d=>!decide (ee s d.key=k)) t.writes=tt s t k:=by
 unfold iy tt;congr 1;funext d;simp
theorem yOf(d:fR):∀ u∈jn d,u.oneCell'=true:=fun u hu=>by
 simp only [jn,bA,List.not_mem_nil,or_false] at hu;rcases hu with rfl | rfl | rfl <;> rfl
theorem yAe(n c g:Nat)(y:dX)(s:dW)(b k:Nat)(t:jO)(w:World)(h:du w n c g y s)(hs:lY s)(hT:tJ w n y b t)(hl:t.writes.length<=20)(hk:∀ p∈t.writes,p.key.size<=20) :
  Calls Tryz.prog 125 #[.pointer (some ⟨g,0,none⟩),.pointer (some ⟨b,0,none⟩),.int .i64 k] w fun e w'=>∃ v,e=.returned v/\w'.ownsRow w.heap.size 68 3 v (tt s t k).length (gV (tt s t k))/\Mod dZ w w':=by
 obtain ⟨w1,hw1⟩:∃ x,x=(w.alloc (.cells #[.pointer (some ⟨g,0,none⟩)] 35)).alloc (.cells #[.int .i64 k] 3):=⟨_,rfl⟩;have di:Mod dZ w w1:=by rw [hw1];exact ((Mod.refl _ w).alloc _).alloc _
 have hz1:w1.heap.size=w.heap.size+1+1:=by rw [hw1];simp
 have hb0:dh w1 w.heap.size [.pointer (some ⟨g,0,none⟩)] 35:=by rw [hw1];exact (dh.new w _ _).mod ((Mod.refl dZ _).alloc _) id
 have hb1:dh w1 (w.heap.size+1) [.int .i64 k] 3:=by
  rw [hw1];have:=dh.new (w.alloc (.cells #[.pointer (some ⟨g,0,none⟩)] 35)) [.int .i64 (k:Int)] 3;simpa using this
 have h1:=h.quiet di;have Ee:=hT.mod di id (fun _ _=>id);have t2:=Ee.blk.cell 2 rfl;have hrow:=Ee.wr;have hen:Calls Tryz.prog 163 #[y.jf b] w1 fun e w'=>∃ v,e=.returned v/\w'.ownsRow w1.heap.size 68 3 v t.writes.length (gV t.writes)/\Mod dZ w1 w':=by
  rcases hrow.2 with ⟨e,h0⟩ | ⟨g',cap',cur,e,q1,q2,q3,q4,q5,q6⟩
  ·rw [e];refine (yFo w1).mono ?_;rintro e2 w2 ⟨rfl,rfl⟩;have hnil:t.writes=[]:=aT h0;exact ⟨_,rfl,by rw [hnil];exact World.ownsRow_nil _ _ _ _,Mod.refl _ _⟩
  ·rw [e] at hrow ⊢;have hcl:=hrow.cells (g:=g') rfl;refine (yFp ⟨g',0,none⟩ t.writes.length cap' t.writes w1 rfl hcl (by omega) (fun d _=>yOf d)).mono ?_;rintro e2 w2 ⟨g2,cap2,rfl,hr2,hm2⟩;exact ⟨_,rfl,hr2,hm2⟩
 obtain ⟨wa,wc,iT⟩:=fJ Ee.wr;rw [iT] at t2 hen;have qt:=dU hen;have uB:∀ fn first cap w,(Instr.makeFunc fn first cap).run Tryz.prog w=.ok (.func fn first cap) w:=fun _ _ _ _=>rfl
 have HH:=dU h1;have nW:=dU hb0;have mV:=dU hb1;have fg:=dU di;have HZ1:=dU hz1;clear h h1 hT Ee hrow iT hb0 hb1 di hz1 hen;go_enter Tryz.func125,Tryz.ntmps125;go_upto_region 1 with fail;rw [<-hw1];clear hw1;go_wp2_with fail;refine qt.out.mono ?_;rintro e w2 ⟨v2,rfl,hrow2,hm2⟩;have HA:mF 161 #[.pointer (some ⟨w.heap.size,0,none⟩),.pointer (some ⟨w.heap.size+1,0,none⟩)] (fun (d:fR)=>.agg #[.string d.key,.string d.val,.bool d.gone]) t.writes (fun d=>!decide (ee s d.key=k)) (fun wr=>du wr n c g y s/\wr.cell? ⟨w.heap.size,0,none⟩=some (.pointer (some ⟨g,0,none⟩))/\wr.cell? ⟨w.heap.size+1,0,none⟩=some (.int .i64 k)):=
  ⟨wR Tryz.func161 (by kernel_rfl) rfl,fun wa wb hh hm=>⟨hh.1.quiet hm,hm.cell hh.2.1 id,hm.cell hh.2.2 id⟩,fun d hd wr hh=>zYf n c g _ _ y s k d wr hh.1 hs (aM (hk d hd) (by omega)) hh.2.1 hh.2.2⟩
 have qh:=HH.out.quiet hm2;have IX:=dU (yDb 161 w1.heap.size #[.pointer (some ⟨w.heap.size,0,none⟩),.pointer (some ⟨w.heap.size+1,0,none⟩)] (fun d=>!decide (ee s d.key=k)) v2 t.writes w2 _ hrow2 HA ⟨qh,hm2.cell (nW.out.cell 0 rfl) id,hm2.cell (mV.out.cell 0 rfl) id⟩ (fun x hx w' hm'=>by
  have hx1:w1.heap.size<=x:=(ft hrow2 hx).1;have vy:Mod dZ w1 w':=hm2.trans' hm' (fun i hi e=>by simp only [eF] at e;omega);exact ⟨HH.out.quiet vy,vy.cell (nW.out.cell 0 rfl) id,vy.cell (mV.out.cell 0 rfl) id⟩) (by omega))
 rw [yEv] at IX;obtain ⟨va2,vc2,hv2⟩:=fJ hrow2;subst hv2;have HR:=dU hrow2;have gu:=dU hm2;clear hrow2 qh HA hm2 qt;go_wp2_with fail;refine IX.out.mono ?_;rintro e w3 ⟨v3,rfl,hrow3,hv3,dz⟩;obtain ⟨JZ,Dv,GQ⟩:=fJ hrow3;subst GQ;have Eu:=dU hrow3;have jJ:Mod dZ w1 w3:=gu.out.trans' dz (fun i hi e=>by have:=(ft HR.out e).1;omega);have jt:=dU (fg.out.trans jJ);have HZ:=dU fg.out.size;clear hrow3 dz jJ IX;go_wp2_with fail;go_ret;exact ⟨_,rfl,uP Eu.out HZ.out,jt.out⟩
def IZ(w w':World)(r:Option dt)(e:Ending):Prop:=∃ (d:dt) (u:Value) (ok:Bool),e=.returned (.tuple #[.agg #[.int .i64 d.kind,.int .i64 d.tx,.int .i64 d.time,u],.bool ok])/\w'.ownsRow w.heap.size 68 3 u d.writes.length (gV d.writes)/\r=(if ok then some d else none)/\Mod dZ w w'
theorem DX{w w2:World}{a0 a1 a2 a3:Value}(hm:Mod dZ w w2)(hB:dh w2 w.heap.size [a0,a1,a2,a3] 65)(d:dt)(u:Value)(hu:w2.ownsRow w.heap.size 68 3 u d.writes.length (gV d.writes)) :
  (xD w2 w.heap.size (.int .i64 d.kind) (.int .i64 d.tx) (.int .i64 d.time) u).ownsRow w.heap.size 68 3 u d.writes.length (gV d.writes)/\Mod dZ w (xD w2 w.heap.size (.int .i64 d.kind) (.int .i64 d.tx) (.int .i64 d.time) u):=by
 have h1:=Tr w2 w.heap.size (.int .i64 d.kind) (.int .i64 d.tx) (.int .i64 d.time) u;refine ⟨gD hu h1 (fun k _ _ e q=>?_),hm.trans' h1 (fun i hi e=>by simp only [eF] at e;omega)⟩;simp only [eF] at q;subst q;exact oM hu hB (by decide) e
theorem yHq{w:World}{n b:Nat}{y:dX}{t:jO}(h:tJ w n y b t){k:Nat}(hk:k<t.ats.length):∃ ab cap,y.jN b=.slice (some ⟨ab,0,none⟩) t.ats.length cap/\w.cell? ⟨ab,k,none⟩=some (.int .i64 (t.ats.getD k 0)):=by
 rcases h.ats.2 with ⟨e,h0⟩ | ⟨g',cap',cur,e,_⟩
 ·omega
 ·have hr:=h.ats;rw [e] at hr;have hc:=hr.cells (g:=g') rfl k (.int .i64 (t.ats.getD k 0)) (by rw [bF,aA hk,aH,aA hk];rfl);refine ⟨g',cap',e,?_⟩;have e2:(⟨g',0,none⟩:Addr).add k=⟨g',k,none⟩:=by cases k <;> simp [Addr.add]
  rw [<-e2];exact hc
theorem yTy(n c g:Nat)(y:dX)(s:dW)(id k:Nat)(time:Int)(w:World)(h:du w n c g y s)(hs:lY s)(h1:1<=id)(h2:id<=s.dV.length)(hk:k<s.lines.length)(hw:∀ p∈(s.tx id).writes,p.key.size<=20) :
  Calls Tryz.prog 78 #[.pointer (some ⟨g,0,none⟩),.int .i64 id,.int .i64 k,.int .i64 time] w fun e w'=>IZ w w' (fb s id k time) e:=by
 obtain ⟨w0,hw0⟩:∃ x,x=w.alloc (.cells #[.int .i64 0,.int .i64 0,.int .i64 0,.slice none 0 0] 65):=⟨_,rfl⟩;have hm0:Mod dZ w w0:=by rw [hw0];exact (Mod.refl _ w).alloc _
 have mx:dh w0 w.heap.size [.int .i64 0,.int .i64 0,.int .i64 0,.slice none 0 0] 65:=by rw [hw0];exact dh.new w _ _
 have hz0:=hm0.size;have h0:=h.quiet hm0;have hll:=hs.ll;have htl:=hs.tl;obtain ⟨b,hb,hT⟩:=h0.xA h1 h2;have BF:=hs.ta _ (Bm h1 h2);have Mq:=hs.tw _ (Bm h1 h2);have nU:=dU (xw n c g y s id b w0 h0 h1 (by omega) hb);have vS:=dU (Up n c g y s w0 h0 (by omega) (by omega));have BZ:=dU (yLz n b y (s.tx id) w0 hT);have IA:=dU (yAe n c g y s b k (s.tx id) w0 h0 hs hT Mq hw);obtain ⟨ab,qo,ni,Gx⟩:=yHq hT (k:=k) (by rw [BF];exact hk);have t0:=hT.blk.cell 0 rfl;have t1:=hT.blk.cell 1 rfl;have t3:=hT.blk.cell 3 rfl;rw [ni,BF] at t1;obtain ⟨x,hx⟩:∃ x,x=(s.tx id).ats.getD k 0:=⟨_,rfl⟩;rw [<-hx] at Gx;obtain ⟨⟨p0,p1,p2,p3⟩,⟨f0,f1,f2,f3⟩⟩:(w0.cell? ⟨w.heap.size,0,none⟩=some (.int .i64 0)/\w0.cell? ⟨w.heap.size,1,none⟩=some (.int .i64 0)/\w0.cell? ⟨w.heap.size,2,none⟩=some (.int .i64 0)/\w0.cell? ⟨w.heap.size,3,none⟩=some (.slice none 0 0))/\(w0.frozen? ⟨w.heap.size,0,none⟩=false/\w0.frozen? ⟨w.heap.size,1,none⟩=false/\w0.frozen? ⟨w.heap.size,2,none⟩=false/\w0.frozen? ⟨w.heap.size,3,none⟩=false):=by
  obtain ⟨x0,x1,x2,x3,y0,y1,y2,y3⟩:=tD mx;exact ⟨⟨x0,x1,x2,x3⟩,⟨y0,y1,y2,y3⟩⟩
 have wA:(k:Int)<(s.lines.length:Int):=by omega
 have qT:(0:Int)<=(k:Int):=by omega
 have nW:=dU mx;have AU:=dU hm0;have MX:∀ w':World,w'.ownsRow w.heap.size 68 3 (.slice none 0 0) 0 (gV []):=fun w'=>World.ownsRow_nil _ _ _ _;have IH:=dU MX;clear h h0 hT hb mx hm0 ni MX BF Mq;by_cases lK:k=dk s
 ·have Xb:((k:Int) == ((dk s:Nat):Int))=true:=by
   have:(k:Int)=((dk s:Nat):Int):=by omega
   simpa using this
  by_cases hst:(s.tx id).state=2
  ·have zL:((s.tx id).state == 2)=true:=by simpa using hst
   cases hr:tj (s.tx id) with
   | true=>
    have HR:Hid (fb s id k time=some ⟨3,id,time,[]⟩):=by unfold Hid fb;simp only;rw [aJ lK,aJ ⟨hst,hr⟩]
    rw [hr] at BZ;clear lK hst hr;go_enter Tryz.func78,Tryz.ntmps78;go_upto_region 1 with fail;rw [<-hw0];clear hw0;go_wp2_with (first
     | (go_at_call 34;refine nU.out.mono ?_;rintro e w2 ⟨rfl,rfl⟩)
     | (go_at_call 109;refine vS.out.mono ?_;rintro e w2 ⟨rfl,rfl⟩)
     | (go_at_call 124;refine BZ.out.mono ?_;rintro e w2 ⟨rfl,rfl⟩)
     | fail)
    obtain ⟨q1,q2⟩:=DX AU.out nW.out ⟨3,id,time,[]⟩ (.slice none 0 0) (IH.out _);refine bodyPost_ret (Ay Tryz.results78 _ ⟨w.heap.size,0,none⟩ rfl rfl (Bo nW.out _ _ _ _)) rfl ⟨⟨3,id,time,[]⟩,.slice none 0 0,true,rfl,q1,HR.out,q2⟩
   | false=>
    have HR:Hid (fb s id k time=none):=by unfold Hid fb;simp only;rw [aJ lK,aE (fun q=>by rw [hr] at q;cases q.2)]
    rw [hr] at BZ;clear lK hst hr;go_enter Tryz.func78,Tryz.ntmps78;go_upto_region 1 with fail;rw [<-hw0];clear hw0;go_wp2_with (first
     | (go_at_call 34;refine nU.out.mono ?_;rintro e w2 ⟨rfl,rfl⟩)
     | (go_at_call 109;refine vS.out.mono ?_;rintro e w2 ⟨rfl,rfl⟩)
     | (go_at_call 124;refine BZ.out.mono ?_;rintro e w2 ⟨rfl,rfl⟩)
     | fail)
    obtain ⟨q1,q2⟩:=DX AU.out nW.out ⟨3,id,time,[]⟩ (.slice none 0 0) (IH.out _);refine bodyPost_ret (Ay Tryz.results78 _ ⟨w.heap.size,0,none⟩ rfl rfl (Bo nW.out _ _ _ _)) rfl ⟨⟨3,id,time,[]⟩,.slice none 0 0,false,rfl,q1,HR.out,q2⟩
  ·have zL:((s.tx id).state == 2)=false:=by simpa using hst
   have HR:Hid (fb s id k time=none):=by unfold Hid fb;simp only;rw [aJ lK,aE (fun q=>hst q.1)]
   clear lK hst;go_enter Tryz.func78,Tryz.ntmps78;go_upto_region 1 with fail;rw [<-hw0];clear hw0;go_wp2_with (first
    | (go_at_call 34;refine nU.out.mono ?_;rintro e w2 ⟨rfl,rfl⟩)
    | (go_at_call 109;refine vS.out.mono ?_;rintro e w2 ⟨rfl,rfl⟩)
    | (go_at_call 124;refine BZ.out.mono ?_;rintro e w2 ⟨rfl,rfl⟩)
    | fail)
   obtain ⟨q1,q2⟩:=DX AU.out nW.out ⟨3,id,time,[]⟩ (.slice none 0 0) (IH.out _);refine bodyPost_ret (Ay Tryz.results78 _ ⟨w.heap.size,0,none⟩ rfl rfl (Bo nW.out _ _ _ _)) rfl ⟨⟨3,id,time,[]⟩,.slice none 0 0,false,rfl,q1,HR.out,q2⟩
 ·have Xb:((k:Int) == ((dk s:Nat):Int))=false:=by
   have:(k:Int)≠((dk s:Nat):Int):=by omega
   simpa using this
  by_cases ha:x=0
  ·have HR:Hid (fb s id k time=none):=by unfold Hid fb;simp only;rw [aE lK,aJ (by rw [<-hx];exact ha)]
   have hab:(x == 0)=true:=by simpa using ha
   clear ha lK hx;go_enter Tryz.func78,Tryz.ntmps78;go_upto_region 1 with fail;rw [<-hw0];clear hw0;go_wp2_with (first
    | (go_at_call 34;refine nU.out.mono ?_;rintro e w2 ⟨rfl,rfl⟩)
    | (go_at_call 109;refine vS.out.mono ?_;rintro e w2 ⟨rfl,rfl⟩)
    | (go_at_call 124;refine BZ.out.mono ?_;rintro e w2 ⟨rfl,rfl⟩)
    | fail)
   obtain ⟨q1,q2⟩:=DX AU.out nW.out rT (.slice none 0 0) (IH.out _);refine bodyPost_ret (Ay Tryz.results78 _ ⟨w.heap.size,0,none⟩ rfl rfl (Bo nW.out _ _ _ _)) rfl ⟨rT,.slice none 0 0,false,rfl,q1,HR.out,q2⟩
  ·have hab:(x == 0)=false:=by simpa using ha
   have ha':¬ ((s.tx id).ats.getD k 0=0):=by rw [<-hx];exact ha
   by_cases s2:(s.tx id).state=2
   ·have HR:Hid (fb s id k time=some ⟨2,id,0,tt s (s.tx id) k⟩):=by unfold Hid fb;simp only;rw [aE lK,aE ha',aJ s2]
    have zL:((s.tx id).state == 2)=true:=by simpa using s2
    clear ha lK hx ha' s2;go_enter Tryz.func78,Tryz.ntmps78;go_upto_region 1 with fail;rw [<-hw0];clear hw0;go_wp2_with (first
     | (go_at_call 34;refine nU.out.mono ?_;rintro e w2 ⟨rfl,rfl⟩)
     | (go_at_call 109;refine vS.out.mono ?_;rintro e w2 ⟨rfl,rfl⟩)
     | (go_at_call 124;refine BZ.out.mono ?_;rintro e w2 ⟨rfl,rfl⟩)
     | fail)
    refine IA.out.mono ?_;rintro e w3 ⟨v,rfl,hrow,dz⟩;obtain ⟨va,vc,hv⟩:=fJ hrow;subst hv;have qB:=nW.out.mod dz (fun e=>e);obtain ⟨x0,x1,x2,x3,y0,y1,y2,y3⟩:=tD qB;have IB:=dU (uP hrow hz0);have jt:=dU (AU.out.trans dz);have FA:=dU qB;clear hrow dz qB;go_wp2_with fail;obtain ⟨q1,q2⟩:=DX jt.out FA.out ⟨2,id,0,tt s (s.tx id) k⟩ _ IB.out;refine bodyPost_ret (Ay Tryz.results78 _ ⟨w.heap.size,0,none⟩ rfl rfl (Bo FA.out _ _ _ _)) rfl ⟨⟨2,id,0,tt s (s.tx id) k⟩,_,true,rfl,q1,HR.out,q2⟩
   ·have hs2:((s.tx id).state == 2)=false:=by simpa using s2
    by_cases s3:(s.tx id).state=3
    ·have HR:Hid (fb s id k time=some ⟨3,id,(s.tx id).time,[]⟩):=by unfold Hid fb;simp only;rw [aE lK,aE ha',aE s2,aJ s3]
     have hs3:((s.tx id).state == 3)=true:=by simpa using s3
     clear ha lK hx ha' s2 s3;go_enter Tryz.func78,Tryz.ntmps78;go_upto_region 1 with fail;rw [<-hw0];clear hw0;go_wp2_with (first
      | (go_at_call 34;refine nU.out.mono ?_;rintro e w2 ⟨rfl,rfl⟩)
      | (go_at_call 109;refine vS.out.mono ?_;rintro e w2 ⟨rfl,rfl⟩)
      | (go_at_call 124;refine BZ.out.mono ?_;rintro e w2 ⟨rfl,rfl⟩)
      | fail)
     obtain ⟨q1,q2⟩:=DX AU.out nW.out ⟨3,id,(s.tx id).time,[]⟩ (.slice none 0 0) (IH.out _);refine bodyPost_ret (Ay Tryz.results78 _ ⟨w.heap.size,0,none⟩ rfl rfl (Bo nW.out _ _ _ _)) rfl ⟨⟨3,id,(s.tx id).time,[]⟩,.slice none 0 0,true,rfl,q1,HR.out,q2⟩
    ·have hs3:((s.tx id).state == 3)=false:=by simpa using s3
     by_cases s4:(s.tx id).state=4
     ·have HR:Hid (fb s id k time=some ⟨4,id,0,[]⟩):=by unfold Hid fb;simp only;rw [aE lK,aE ha',aE s2,aE s3,aJ s4]
      have hs4:((s.tx id).state == 4)=true:=by simpa using s4
      clear ha lK hx ha' s2 s3 s4;go_enter Tryz.func78,Tryz.ntmps78;go_upto_region 1 with fail;rw [<-hw0];clear hw0;go_wp2_with (first
       | (go_at_call 34;refine nU.out.mono ?_;rintro e w2 ⟨rfl,rfl⟩)
       | (go_at_call 109;refine vS.out.mono ?_;rintro e w2 ⟨rfl,rfl⟩)
       | (go_at_call 124;refine BZ.out.mono ?_;rintro e w2 ⟨rfl,rfl⟩)
       | fail)
      obtain ⟨q1,q2⟩:=DX AU.out nW.out ⟨4,id,0,[]⟩ (.slice none 0 0) (IH.out _);refine bodyPost_ret (Ay Tryz.results78 _ ⟨w.heap.size,0,none⟩ rfl rfl (Bo nW.out _ _ _ _)) rfl ⟨⟨4,id,0,[]⟩,.slice none 0 0,true,rfl,q1,HR.out,q2⟩
     ·have HR:Hid (fb s id k time=none):=by unfold Hid fb;simp only;rw [aE lK,aE ha',aE s2,aE s3,aE s4]
      have hs4:((s.tx id).state == 4)=false:=by simpa using s4
      clear ha lK hx ha' s2 s3 s4;go_enter Tryz.func78,Tryz.ntmps78;go_upto_region 1 with fail;rw [<-hw0];clear hw0;go_wp2_with (first
       | (go_at_call 34;refine nU.out.mono ?_;rintro e w2 ⟨rfl,rfl⟩)
       | (go_at_call 109;refine vS.out.mono ?_;rintro e w2 ⟨rfl,rfl⟩)
       | (go_at_call 124;refine BZ.out.mono ?_;rintro e w2 ⟨rfl,rfl⟩)
       | fail)
      obtain ⟨q1,q2⟩:=DX AU.out nW.out rT (.slice none 0 0) (IH.out _);refine bodyPost_ret (Ay Tryz.results78 _ ⟨w.heap.size,0,none⟩ rfl rfl (Bo nW.out _ _ _ _)) rfl ⟨rT,.slice none 0 0,false,rfl,q1,HR.out,q2⟩
structure rK(n n':eH):Prop where
 id:n'.id=n.id
 ep:n'.db=n.db
 cf:n'.nodes=n.nodes
structure Ig(n:eH)(m:dp):Prop where
 eI:m.eI=n.id
 ep:m.db=n.db
 kd:1<=m.kind/\m.kind<=4
 dst:m.to∈n.nodes
 fw:m.kind=3->∃ N:Nat,m.n=N/\n.log[N]?=some m.cmd
theorem LN{s:eH}{wh:Int}{k x:Int}(hk:1<=k/\k<=4)(h3:k≠3){m:dp}(h:m∈kY s wh (pG k x)):Ig s m/\m.kind=k:=by
 unfold kY at h
 cases hn:gp s wh with
 | none=>rw [hn] at h;simp at h
 | some t=>
  rw [hn] at h;simp only [bK] at h;subst h;exact ⟨⟨rfl,rfl,hk,QK hn,fun e=>absurd e h3⟩,rfl⟩
theorem Dh(n:eH):rK n (kK n).1/\(kK n).1.log=n.log/\∀ m∈(kK n).2,Ig (kK n).1 m/\(m.kind=1\/m.kind=4):=by
 unfold kK;split
 ·exact ⟨⟨rfl,rfl,rfl⟩,rfl,fun m hm=>(LN (k:=4) (by omega) (by omega) hm).imp id .inr⟩
 ·exact ⟨⟨rfl,rfl,rfl⟩,rfl,fun m hm=>(LN (k:=1) (by omega) (by omega) hm).imp id .inl⟩
theorem Bu(n:eH)(c:dt):rK n (mX n c).1/\(mX n c).1.log=n.log++[c]/\∀ m∈(mX n c).2,Ig (mX n c).1 m:=by
 unfold mX;split
 ·obtain ⟨h1,h2,h3⟩:=Dh (nH n (n.log++[c]));exact ⟨⟨h1.id,h1.ep,h1.cf⟩,h2,fun m hm=>(h3 m hm).1⟩
 ·refine ⟨⟨rfl,rfl,rfl⟩,rfl,fun m hm=>?_⟩
  cases hn:gp n 1 with
  | none=>rw [hn] at hm;simp at hm
  | some t=>
   rw [hn] at hm;simp only [bK] at hm;subst hm;exact ⟨rfl,rfl,by simp [nR],QK hn,fun _=>⟨n.log.length,rfl,by simp [nH,nR]⟩⟩
theorem yTn{s:eH}{f:Int}{m:dp}(h:m∈sC s f):Ig s m:=by
 unfold sC at h
 cases hn:gp s 1 with
 | none=>rw [hn] at h;simp at h
 | some t=>
  rw [hn] at h;simp only [ke,ag,cL] at h;obtain ⟨j,hj,rfl⟩:=h;refine ⟨rfl,rfl,by simp [nR],QK hn,fun _=>⟨f.toNat+j,rfl,?_⟩⟩;have:f.toNat+j<s.log.length:=by omega
  simp [nR,List.getD_eq_getElem?_getD,List.getElem?_eq_getElem this]
theorem Lj(n:eH)(m:dp):rK n (fy n m).1/\((fy n m).1.log=n.log\/(m.kind=3/\mO n (-1) m.eI=true/\m.n=n.log.length/\n.log.length<500/\(fy n m).1.log=n.log++[m.cmd]))/\∀ m'∈(fy n m).2,Ig (fy n m).1 m':=by
 unfold fy;split
 ·split
  ·exact ⟨⟨rfl,rfl,rfl⟩,.inl rfl,fun m' hm=>(LN (k:=2) (by omega) (by omega) hm).1⟩
  ·split
   ·exact ⟨⟨rfl,rfl,rfl⟩,.inl rfl,fun m' hm=>yTn hm⟩
   ·split
    ·rename_i h;obtain ⟨h1,h2,h3⟩:=Bu n m.cmd;exact ⟨h1,.inr ⟨h.1,h.2.1,h.2.2.1,h.2.2.2,h2⟩,h3⟩
    ·split
     ·exact ⟨⟨rfl,rfl,rfl⟩,.inl rfl,fun m' hm=>(LN (k:=4) (by omega) (by omega) hm).1⟩
     ·exact ⟨⟨rfl,rfl,rfl⟩,.inl rfl,fun m' hm=>by simp at hm⟩
 ·exact ⟨⟨rfl,rfl,rfl⟩,.inl rfl,fun m' hm=>by simp at hm⟩
theorem yAt{s:ey}{a m:dp}(h:m∈(kF s a).way):m∈s.way\/m=a:=by
 unfold kF at h;split at h
 ·exact .inl h
 ·simpa using h
theorem Iy:∀ {ms:List dp} {s:ey} {m:dp},m∈(ju s ms).way->m∈s.way\/m∈ms
 | [],s,m,h=>.inl h
 | a :: ms,s,m,h=>by
  rcases Iy (ms:=ms) (s:=kF s a) h with q | q
  ·rcases yAt q with q | q
   ·exact .inl q
   ·exact .inr (by simp [q])
  ·exact .inr (by simp [q])
theorem rR{α:Type}{R:α->α->Prop}{l:List α}:l.Pairwise R↔∀ (i j:Nat) a b,i<j->l[i]?=some a->l[j]?=some b->R a b:=by
 rw [bL];constructor
 ·intro h i j a b hij ha hb;obtain ⟨h1,h2⟩:=aB.1 ha;obtain ⟨h3,h4⟩:=aB.1 hb;have:=h i j h1 h3 hij
  rwa [h2,h4] at this
 ·intro h i j hi hj hij;exact h i j _ _ hij (aA hi) (aA hj)
structure pW(k:Nat)(l:ik):Prop where
 ne:l.nodes≠[]
 ord:l.nodes.Pairwise fun a b=>a.id<b.id/\b.log <+: a.log
 nf:∀ n∈l.nodes,10*(k:Int)<=n.id/\n.id<10*(k:Int)+4
 cfg:∀ n∈l.nodes,n.nodes=l.nodes.map (·.id)
 ep:∃ E:Int,1<=E/\E+l.nodes.length<=6/\∀ n∈l.nodes,n.db=E
 heard:∀ n∈l.nodes,l.heard<=n.log.length
 few:∀ n∈l.nodes,n.log.length<=500
theorem yJp{l:List eH}(h:l.Pairwise fun a b=>a.id<b.id){j:Nat}{n:eH}(hj:l[j]?=some n):rQ n.id (l.map (·.id))=some j:=by
 refine Ta _ _ _ (fun i y hi hy=>?_) (by simp [hj]);simp only [bF,cH] at hy;obtain ⟨a,ha,rfl⟩:=hy;have:=rR.1 h i j a n hi ha hj;omega
theorem pW.place{k:Nat}{l:ik}(h:pW k l){j:Nat}{n:eH}(hj:l.nodes[j]?=some n):sG n=j:=by
 unfold sG;rw [h.cfg n (aC hj),yJp (h.ord.imp fun q=>q.1) hj];rfl
theorem pW.oD{k:Nat}{l:ik}(h:pW k l){n:eH}(hn:n∈l.nodes):oD n=true:=by
 obtain ⟨j,hj⟩:=aN hn;unfold Go.Proofs.YtmaiggbnceejiaaGreatDoor.oD;rw [h.place hj];simp
theorem pW.RN{k:Nat}{l:ik}(h:pW k l){j:Nat}{n:eH}(hj:l.nodes[j]?=some n){wh:Int}{x:Int}(hx:gp n wh=some x):∃ (i:Nat) (a:eH),(i:Int)=j+wh/\l.nodes[i]?=some a/\a.id=x:=by
 unfold gp at hx;split at hx
 ·rename_i e;rw [h.place hj] at e hx;rw [h.cfg n (aC hj)] at hx;simp only [bN,ar] at e;simp only [bF,cH] at hx;obtain ⟨a,ha,rfl⟩:=hx;exact ⟨_,a,by omega,ha,rfl⟩
 ·cases hx
theorem pW.set{k:Nat}{l:ik}(h:pW k l){j:Nat}{n n':eH}(hj:l.nodes[j]?=some n)(hg:rK n n')(hl:n.log <+: n'.log)(hf:n'.log.length<=500)(hp:∀ (i:Nat) p,i<j->l.nodes[i]?=some p->n'.log <+: p.log):pW k ⟨l.nodes.set j n',l.heard⟩:=by
 have hm:=aC hj;have hjl:=(aB.1 hj).1;have hmem:∀ x,x∈l.nodes.set j n'->x=n' \/x∈l.nodes:=fun x hx=>by
  rcases bE hx with q | q
  ·exact .inr q
  ·exact .inl q
 have Cm:(l.nodes.set j n').map (·.id)=l.nodes.map (·.id):=by
  rw [List.map_set];refine bf fun i=>?_;rw [pX];split
  ·rename_i e;rw [e.1];simp [hj,hg.id]
  ·rfl
 refine ⟨fun e=>?_,?_,fun x hx=>?_,fun x hx=>?_,?_,fun x hx=>?_,fun x hx=>?_⟩
 ·have:=ae List.length e;simp at this;exact h.ne this
 ·rw [rR];intro i i' a b Ra ha hb;rw [pX] at ha hb;have hpw:=rR.1 h.ord;by_cases e1:i=j
  ·rw [aJ ⟨e1,by omega⟩] at ha;rw [aE (by omega)] at hb
   cases ha
   subst e1;have:=hpw i i' n b Ra hj hb;exact ⟨by rw [hg.id];exact this.1,this.2.trans hl⟩
  ·rw [aE (fun q=>e1 q.1)] at ha;by_cases e2:i'=j
   ·rw [aJ ⟨e2,by omega⟩] at hb
    cases hb
    subst e2;have:=hpw i i' a n Ra ha hj;exact ⟨by rw [hg.id];exact this.1,hp i a Ra ha⟩
   ·rw [aE (fun q=>e2 q.1)] at hb;exact hpw i i' a b Ra ha hb
 ·rcases hmem x hx with q | q
  ·rw [q,hg.id];exact h.nf n hm
  ·exact h.nf x q
 ·show x.nodes=(l.nodes.set j n').map (·.id);rw [Cm];rcases hmem x hx with q | q
  ·rw [q,hg.cf];exact h.cfg n hm
  ·exact h.cfg x q
 ·obtain ⟨E,h1,h2,h3⟩:=h.ep;refine ⟨E,h1,by simpa using h2,fun x hx=>?_⟩;rcases hmem x hx with q | q
  ·rw [q,hg.ep];exact h3 n hm
  ·exact h3 x q
 ·rcases hmem x hx with q | q
  ·rw [q];exact aM (h.heard n hm) hl.length_le
  ·exact h.heard x q
 ·rcases hmem x hx with q | q
  ·rw [q];exact hf
  ·exact h.few x q
theorem pW.take{k:Nat}{l:ik}(h:pW k l){a b:eH}(ha:a∈l.nodes)(hb:b∈l.nodes):a.log.take l.heard=b.log.take l.heard:=by
 obtain ⟨i,hi⟩:=aN ha;obtain ⟨j,hj⟩:=aN hb;have key:∀ {x y:List dt},y <+: x->l.heard<=y.length->x.take l.heard=y.take l.heard:=fun {x y} hxy hl=>by
  obtain ⟨t,rfl⟩:=hxy;rw [bV hl]
 rcases cB i j with q | q | q
 ·exact key (rR.1 h.ord i j a b q hi hj).2 (h.heard b hb)
 ·subst q;rw [hi] at hj;cases hj;rfl
 ·exact (key (rR.1 h.ord j i b a q hj hi).2 (h.heard a ha)).symm
theorem LW{l:List eH}(h:l≠[])(d:eH):l.getLastD d∈l:=by
 cases l with
 | nil=>exact absurd rfl h
 | cons a l=>rw [CB _ _ (by simp)];exact dA _
theorem pW.last{k:Nat}{l:ik}(h:pW k l)(d:eH){n:eH}(hn:n∈l.nodes):(l.nodes.getLastD d).log <+: n.log:=by
 obtain ⟨i,hi⟩:=aN hn;have hlt:=(aB.1 hi).1;rw [CB l.nodes d (by omega)];by_cases e:i=l.nodes.length - 1
 ·subst e;rw [aA (by omega)] at hi
  cases hi
  exact br _
 ·exact (rR.1 h.ord i (l.nodes.length - 1) n _ (by omega) hi (aA (by omega))).2
structure yO(s:dW)(k:Nat)(c:dt):Prop where
 lo:1<=c.tx
 hi:c.tx<=(s.dV.length:Int)
 dec:k=dk s->c.kind=3/\(1<=c.time/\c.time<=501)/\((s.tx c.tx.toNat).state=2\/(s.tx c.tx.toNat).state=3)/\tj (s.tx c.tx.toNat)=true
 jE:k≠dk s->(c.kind=2/\(s.tx c.tx.toNat).state≠1/\(s.tx c.tx.toNat).ats.getD k 0≠0)\/(c.kind=3/\(s.tx c.tx.toNat).state=3/\1<=c.time)\/(c.kind=4/\(s.tx c.tx.toNat).state=4)
structure xj(s:dW)(k:Nat)(log:List dt):Prop where
 all:∀ c∈log,yO s k c
 one:log.Pairwise fun a b=>¬ (a.kind=b.kind/\a.tx=b.tx)
 rX:k≠dk s->∀ (i:Nat) c,log[i]?=some c->c.kind=3->∃ (j:Nat) (p:dt),j<i/\log[j]?=some p/\p.kind=2/\p.tx=c.tx
def jY(s:dW)(k:Nat):List dt:=(dy s k).log.take (s.line k).heard
def nQ(l:List dt)(kind:Int)(id:Nat):Prop:=∃ c∈l,c.kind=kind/\c.tx=(id:Int)
structure qF(s:dW)(id:Nat):Prop where
 len:(s.tx id).ats.length=s.lines.length
 st:1<=(s.tx id).state/\(s.tx id).state<=4
 nf:∀ k,0<=(s.tx id).ats.getD k 0/\(s.tx id).ats.getD k 0<=2
 dec:(s.tx id).ats.getD (dk s) 0=0
 op:(s.tx id).state=1->∀ k,(s.tx id).ats.getD k 0≠2
 sure:∀ k,k<dk s->(s.tx id).ats.getD k 0=2->nQ (jY s k) 2 id
 Ht:(s.tx id).state=3->tj (s.tx id)=true/\1<=(s.tx id).time/\nQ (jY s (dk s)) 3 id
 tm:0<=(s.tx id).time/\(s.tx id).time<=501
 few:(s.tx id).writes.length<=20/\∀ p∈(s.tx id).writes,p.key.size<=20
def yR(s:dW)(m:dp):Prop:=m.kind=3->∀ k,k<s.lines.length->∀ n∈(s.line k).nodes,n.id=m.eI->∃ N:Nat,m.n=N/\n.log[N]?=some m.cmd
structure Safe(s:dW):Prop where
 ll:2<=s.lines.length/\s.lines.length<=5
 tl:s.dV.length<=60
 line:∀ k,k<s.lines.length->pW k (s.line k)
 log:∀ k,k<s.lines.length->xj s k (dy s k).log
 msg:∀ m∈s.net.way,yR s m
 tx:∀ id,1<=id->id<=s.dV.length->qF s id
theorem xj.pre{s:dW}{k:Nat}{l l':List dt}(h:xj s k l)(hp:l' <+: l):xj s k l':=by
 obtain ⟨t,rfl⟩:=hp;refine ⟨fun c hc=>h.all c (bP _ hc),(bW.1 h.one).1,fun hk i c hi hc=>?_⟩;have hil:=(aB.1 hi).1;obtain ⟨j,p,hj,hp,h1,h2⟩:=h.rX hk i c (by rw [aI hil];exact hi) hc;exact ⟨j,p,hj,by rw [aI (by omega)] at hp;exact hp,h1,h2⟩
theorem Tj{s:dW}{k:Nat}(h:(s.line k).nodes≠[]):(s.line k).nodes[0]?=some (dy s k):=by
 unfold dy
 cases hn:(s.line k).nodes with
 | nil=>exact absurd hn h
 | cons a l=>rfl
theorem Safe.head{s:dW}(h:Safe s){k:Nat}(hk:k<s.lines.length):(s.line k).nodes[0]?=some (dy s k):=Tj (h.line k hk).ne
theorem Safe.head_mem{s:dW}(h:Safe s){k:Nat}(hk:k<s.lines.length):dy s k∈(s.line k).nodes:=aC (h.head hk)
theorem Safe.MR{s:dW}(h:Safe s){k:Nat}(hk:k<s.lines.length){n:eH}(hn:n∈(s.line k).nodes):n.log <+: (dy s k).log:=by
 obtain ⟨i,hi⟩:=aN hn
 cases i with
 | zero=>rw [h.head hk] at hi;cases hi;exact br _
 | succ i=>exact (rR.1 (h.line k hk).ord 0 (i+1) _ _ (by omega) (h.head hk) hi).2
theorem Safe.logs{s:dW}(h:Safe s){k:Nat}(hk:k<s.lines.length){n:eH}(hn:n∈(s.line k).nodes):xj s k n.log:=(h.log k hk).pre (h.MR hk hn)
theorem Safe.Cp{s:dW}(h:Safe s){k:Nat}(hk:k<s.lines.length){n:eH}(hn:n∈(s.line k).nodes):n.log.take (s.line k).heard=jY s k:=(h.line k hk).take hn (h.head_mem hk)
theorem Safe.dec_lt{s:dW}(h:Safe s):dk s<s.lines.length:=by have:=h.ll.1;unfold dk;omega
theorem Safe.free{s:dW}(h:Safe s){i:Nat}(ho:(s.tx i).state=1){k:Nat}(hk:k<s.lines.length){c:dt}(hc:c∈(dy s k).log):c.tx≠(i:Int):=fun e=>by
 have q:=(h.log k hk).all c hc;have e2:c.tx.toNat=i:=by omega
 by_cases hd:k=dk s
 ·have:=(q.dec hd).2.2.1;rw [e2] at this;omega
 ·have:=q.jE hd;rw [e2] at this;omega
theorem Safe.inj{s:dW}(h:Safe s){k k':Nat}(hk:k<s.lines.length)(hk':k'<s.lines.length){n n':eH}(hn:n∈(s.line k).nodes)(hn':n'∈(s.line k').nodes)(e:n.id=n'.id):k=k'/\n=n':=by
 have h1:=(h.line k hk).nf n hn;have h2:=(h.line k' hk').nf n' hn';have hkk:k=k':=by omega
 subst hkk;refine ⟨rfl,?_⟩;obtain ⟨i,hi⟩:=aN hn;obtain ⟨j,hj⟩:=aN hn';have hpw:=rR.1 (h.line k hk).ord;rcases cB i j with q | q | q
 ·have:=(hpw i j _ _ q hi hj).1;omega
 ·subst q;rw [hi] at hj;cases hj;rfl
 ·have:=(hpw j i _ _ q hj hi).1;omega
theorem Safe.sent{s:dW}(h:Safe s){k:Nat}(hk:k<s.lines.length){n:eH}(hn:n∈(s.line k).nodes){m:dp}(hm:Ig n m):yR s m:=fun h3 k' hk' n' hn' e=>by
 obtain ⟨-,rfl⟩:=h.inj hk hk' hn hn' (by rw [e,hm.eI]);exact hm.fw h3
theorem Safe.send{s:dW}(h:Safe s){ms:List dp}(hm:∀ m∈ms,yR s m):Safe (qx s ms):=
 ⟨h.ll,h.tl,h.line,fun k hk=>⟨fun c hc=>⟨((h.log k hk).all c hc).lo,((h.log k hk).all c hc).hi,((h.log k hk).all c hc).dec,((h.log k hk).all c hc).jE⟩,(h.log k hk).one,(h.log k hk).rX⟩,
  fun m hmm=>(Iy hmm).elim (h.msg m) (hm m),fun id h1 h2=>(have q:=h.tx id h1 h2;⟨q.len,q.st,q.nf,q.dec,q.op,q.sure,q.Ht,q.tm,q.few⟩)⟩
theorem Safe.way{s:dW}(h:Safe s){net:ey}(hm:∀ m∈net.way,m∈s.net.way):Safe { s with net:=net }:=
 ⟨h.ll,h.tl,h.line,fun k hk=>⟨fun c hc=>⟨((h.log k hk).all c hc).lo,((h.log k hk).all c hc).hi,((h.log k hk).all c hc).dec,((h.log k hk).all c hc).jE⟩,(h.log k hk).one,(h.log k hk).rX⟩,
  fun m hmm=>h.msg m (hm m hmm),fun id h1 h2=>(have q:=h.tx id h1 h2;⟨q.len,q.st,q.nf,q.dec,q.op,q.sure,q.Ht,q.tm,q.few⟩)⟩
theorem Az(s:dW){k:Nat}(hk:k<s.lines.length)(j:Nat)(n:eH)(i:Nat):(je s k j n).line i=if i=k then ⟨(s.line k).nodes.set j n,(s.line k).heard⟩ else s.line i:=LY s k _ i hk
theorem Dl(s:dW)(k j:Nat)(n:eH):(je s k j n).lines.length=s.lines.length:=by simp [je,rS]
theorem zTg(s:dW)(k j:Nat)(n:eH):dk (je s k j n)=dk s:=by unfold dk;rw [Dl]
theorem Ls{s:dW}{k:Nat}(hk:k<s.lines.length)(hne:(s.line k).nodes≠[])(j:Nat)(n:eH)(i:Nat):dy (je s k j n) i=if i=k/\j=0 then n else dy s i:=by
 unfold dy;rw [Az s hk];by_cases e:i=k
 ·subst e;rw [aJ rfl];show ((s.line i).nodes.set j n).getD 0 _=_;rw [aH,pX];by_cases e2:j=0
  ·subst e2;rw [aJ ⟨rfl,by have:=bH.2 hne;omega⟩,aJ ⟨rfl,rfl⟩];rfl
  ·rw [aE (by omega),aE (by omega),aH]
 ·rw [aE e,aE (fun q=>e q.1)]
theorem yO.of{s s':dW}{k:Nat}{c:dt}(h:yO s k c)(ht:s'.dV=s.dV)(hd:dk s'=dk s):yO s' k c:=by
 have e:∀ i,s'.tx i=s.tx i:=fun i=>by unfold dW.tx;rw [ht]
 exact ⟨h.lo,by rw [ht];exact h.hi,by rw [hd,e];exact h.dec,by rw [hd,e];exact h.jE⟩
theorem xj.of{s s':dW}{k:Nat}{l:List dt}(h:xj s k l)(ht:s'.dV=s.dV)(hd:dk s'=dk s):xj s' k l:=
 ⟨fun c hc=>(h.all c hc).of ht hd,h.one,by rw [hd];exact h.rX⟩
theorem qF.of{s s':dW}{id:Nat}(h:qF s id)(ht:s'.dV=s.dV)(hl:s'.lines.length=s.lines.length)(hh:∀ k,k<s.lines.length->jY s' k=jY s k)(hd:dk s<s.lines.length):qF s' id:=by
 have e:s'.tx id=s.tx id:=by unfold dW.tx;rw [ht]
 have ed:dk s'=dk s:=by unfold dk;rw [hl]
 refine ⟨by rw [e,hl];exact h.len,by rw [e];exact h.st,by rw [e];exact h.nf,by rw [e,ed];exact h.dec,by rw [e];exact h.op,fun k hk ha=>?_,fun hs=>?_,by rw [e];exact h.tm,by rw [e];exact h.few⟩
 ·rw [ed] at hk;rw [e] at ha;rw [hh k (by omega)];exact h.sure k hk ha
 ·rw [e] at hs ⊢;rw [ed,hh _ hd];exact h.Ht hs
theorem Safe.node{s:dW}(h:Safe s){k j:Nat}(hk:k<s.lines.length){n n':eH}(hj:(s.line k).nodes[j]?=some n)(hg:rK n n')(hl:n.log <+: n'.log)(hf:n'.log.length<=500)
  (hp:∀ (i:Nat) p,i<j->(s.line k).nodes[i]?=some p->n'.log <+: p.log) (h0:j=0->xj s k n'.log):Safe (je s k j n'):=by
 have hL:=h.line k hk;have hn0:=fun i=>Ls hk hL.ne j n' i;have mQ:=fun i=>Az s hk j n' i;have hlen:=Dl s k j n';have uq:∀ i,i<s.lines.length->jY (je s k j n') i=jY s i:=fun i hi=>by
  unfold jY;rw [hn0,mQ];by_cases e:i=k
  ·subst e;rw [aJ rfl];by_cases e2:j=0
   ·subst e2;rw [h.head hi] at hj;cases hj
    rw [aJ ⟨rfl,rfl⟩];obtain ⟨t,ht⟩:=hl;rw [<-ht];exact bV (hL.heard _ (h.head_mem hi))
   ·rw [aE (fun q=>e2 q.2)]
  ·rw [aE e,aE (fun q=>e q.1)]
 refine ⟨by rw [hlen];exact h.ll,h.tl,fun i hi=>?_,fun i hi=>?_,fun m hm h3 i hi x hx EN=>?_,fun id h1 h2=>(h.tx id h1 h2).of rfl hlen uq h.dec_lt⟩
 ·rw [hlen] at hi;rw [mQ];by_cases e:i=k
  ·subst e;rw [aJ rfl];exact hL.set hj hg hl hf hp
  ·rw [aE e];exact h.line i hi
 ·rw [hlen] at hi;rw [hn0];by_cases e:i=k/\j=0
  ·rw [aJ e];rw [e.1];exact (h0 e.2).of rfl (zTg _ _ _ _)
  ·rw [aE e];exact (h.log i hi).of rfl (zTg _ _ _ _)
 ·rw [hlen] at hi;rw [mQ] at hx;have Gi:=h.msg m hm h3;by_cases e:i=k
  ·subst e;rw [aJ rfl] at hx;rcases bE hx with q | q
   ·exact Gi i hi x q EN
   ·subst q;obtain ⟨N,e1,e2⟩:=Gi i hi n (aC hj) (by rw [<-hg.id];exact EN);refine ⟨N,e1,?_⟩;obtain ⟨t,ht⟩:=hl;rw [<-ht,aI (aB.1 e2).1];exact e2
  ·rw [aE e] at hx;exact Gi i hi x hx EN
end Go.Proofs.YtmaiggbnceejiaaGreatDoor
