import Derived.Test.YtmaiggbnceejiaaGreatDoorS19
import Derived.Test.YtmaiggbnceejiaaGreatDoorS03
import Derived.Test.YtmaiggbnceejiaaGreatDoorS18
import Derived.StillTailTactics
set_option linter.unusedVariables false
set_option maxRecDepth 100000
set_option maxHeartbeats 16000000
namespace Go.Proofs.YtmaiggbnceejiaaGreatDoor
open Go.RowKit Go.Lib Go.Maps
def Bh(o:fg):List Value:=[.int .i64 o.kind,.string o.key,.string o.value,.bool o.found]
def ug:List fg->List Value
 | []=>[]
 | o :: os=>Bh o++ug os
theorem Ux:∀ os o,ug (os++[o])=ug os++Bh o
 | [],o=>by simp [ug]
 | p :: os,o=>by simp [ug,Ux os o]
theorem zPn:∀ (os:List fg) (i:Nat) (o:fg),os[i]?=some o->∀ j x,(Bh o)[j]?=some x->(ug os)[i*4+j]?=some x
 | [],i,o,h,_,_,_=>by simp at h
 | p :: os,0,o,h,j,x,hx=>by
  simp at h;subst h;have hj:j<(Bh p).length:=(aB.1 hx).1;rw [ug,cg,aX,aE hj];exact hx
 | p :: os,i+1,o,h,j,x,hx=>by
  have ih:=zPn os i o (by simpa using h) j x hx;have hl:(Bh p).length=4:=rfl;rw [ug,aM (by omega),hl,show (i+1)*4+j - 4=i*4+j by omega];exact ih
def ND(o:fg):Prop:=o.key.size<=maxLen/\o.value.size<=maxLen
def JL(t:TypeId)(w:World)(B:Nat)(v:Value)(os:List fg):Prop:=w.ownsRow B t 4 v os.length (ug os)/\∀ o∈os,ND o
theorem JL.mB{t:TypeId}{w:World}{B L:Nat}{v:Value}{os:List fg}(h:JL t w B v os)(hL:w.heap.size<=L):nV w L v os:=by
 obtain ⟨⟨h1,h2⟩,h3⟩:=h;rcases h2 with ⟨rfl,hn⟩ | ⟨g,cap,cur,rfl,q1,q2,q3,q4,q5,q6⟩
 ·have:os=[]:=aR hn;subst this;exact fV.nil _ _ _ _
 ·have hc:w.ownsRow B t 4 (.slice (some ⟨g,0,none⟩) os.length cap) os.length (ug os):=⟨h1,.inr ⟨g,cap,cur,rfl,q1,q2,q3,q4,q5,q6⟩⟩;have hcl:=hc.cells (g:=g) rfl;have hgl:g<w.heap.size:=(aG.1 q2).1;refine ⟨_,cap,rfl,q3,q4,.inr ⟨g,0,rfl,by omega,fun i o hi=>⟨Bh o,⟨rfl,h3 o (aC hi)⟩,rfl,fun j x hx=>?_⟩⟩⟩;have:=hcl _ _ (zPn os i o hi j x hx);rw [Go.WideShapes.add_plain,aX] at this;rw [aX];exact this
def sU(t:eM)(v:Value):List Value:=[v,.int .i64 t.eF,.int .i64 t.fI]
def nj:List eM->List Value->List Value
 | t :: ts,v :: vs=>sU t v++nj ts vs
 | _,_=>[]
theorem Uu:∀ (ts:List eM) (vs:List Value),vs.length=ts.length->(nj ts vs).length=ts.length*3
 | [],[],_=>rfl
 | [],_ :: _,h=>by simp at h
 | _ :: _,[],h=>by simp at h
 | t :: ts,v :: vs,h=>by simp [nj,sU,Uu ts vs (by simpa using h)];omega
theorem Uz:∀ (ts:List eM) (vs:List Value) (t:eM) (v:Value),vs.length=ts.length->nj (ts++[t]) (vs++[v])=nj ts vs++sU t v
 | [],[],t,v,_=>by simp [nj]
 | [],_ :: _,_,_,h=>by simp at h
 | _ :: _,[],_,_,h=>by simp at h
 | p :: ts,q :: vs,t,v,h=>by simp [nj,Uz ts vs t v (by simpa using h)]
theorem Ec:∀ (ts:List eM) (vs:List Value) (i:Nat) (t:eM) (v:Value),vs.length=ts.length->ts[i]?=some t->vs[i]?=some v->∀ j x,(sU t v)[j]?=some x->(nj ts vs)[i*3+j]?=some x
 | [],_,_,_,_,_,h,_,_,_,_=>by simp at h
 | _ :: _,[],_,_,_,h,_,_,_,_,_=>by simp at h
 | p :: ts,q :: vs,0,t,v,_,h,h',j,x,hx=>by
  simp at h h';subst h h';have hj:j<(sU p q).length:=(aB.1 hx).1;rw [nj,cg,aX,aE hj];exact hx
 | p :: ts,q :: vs,i+1,t,v,hl,h,h',j,x,hx=>by
  have ih:=Ec ts vs i t v (by simpa using hl) (by simpa using h) (by simpa using h') j x hx;have hl:(sU p q).length=3:=rfl;rw [nj,aM (by omega),hl,show (i+1)*3+j - 3=i*3+j by omega];exact ih
def ju(ty:TypeId)(w:World)(B:Nat)(v:Value)(ts:List eM)(vs:List Value):Prop:=vs.length=ts.length/\w.ownsRow B ty 3 v ts.length (nj ts vs)
theorem ju.mB{ty:TypeId}{w:World}{B L:Nat}{v:Value}{ts:List eM}{vs:List Value}(h:ju ty w B v ts vs)(hL:w.heap.size<=L)(hv:∀ (i:Nat) t u,ts[i]?=some t->vs[i]?=some u->nV w L u t.ops/\gO t.eF/\gO t.fI):mo w L v ts:=by
 obtain ⟨h0,h1,h2⟩:=h;rcases h2 with ⟨rfl,hn⟩ | ⟨g,cap,cur,rfl,q1,q2,q3,q4,q5,q6⟩
 ·have:ts=[]:=aR hn;subst this;exact fV.nil _ _ _ _
 ·have hc:w.ownsRow B ty 3 (.slice (some ⟨g,0,none⟩) ts.length cap) ts.length (nj ts vs):=⟨h1,.inr ⟨g,cap,cur,rfl,q1,q2,q3,q4,q5,q6⟩⟩;have hcl:=hc.cells (g:=g) rfl;have hgl:g<w.heap.size:=(aG.1 q2).1;refine ⟨_,cap,rfl,q3,q4,.inr ⟨g,0,rfl,by omega,fun i t hi=>?_⟩⟩;have hil:i<vs.length:=by rw [h0];exact (aB.1 hi).1
  obtain ⟨u,hu⟩:∃ u,vs[i]?=some u:=⟨_,aA hil⟩;obtain ⟨k1,k2,k3⟩:=hv i t u hi hu;refine ⟨sU t u,⟨u,rfl,k1,k2,k3⟩,rfl,fun j x hx=>?_⟩;have:=hcl _ _ (Ec ts vs i t u h0 hi hu j x hx);rw [Go.WideShapes.add_plain,aX] at this;rw [aX];exact this
theorem ju.mod{ty:TypeId}{G:Nat->Prop}{w w':World}{B:Nat}{v:Value}{ts:List eM}{vs:List Value}(h:ju ty w B v ts vs)(hm:Mod G w w')(hG:∀ k,v.ownBlock=some k->¬ G k):ju ty w' B v ts vs:=⟨h.1,fm h.2 hm (fun k _ _ e=>hG k e)⟩
def kJ(a:Int)(n:Nat):Nat:=(IntKind.u64.wrap a % n).toNat
theorem EN(a:Int)(n:Nat)(hn:0<n):kJ a n<n:=by
 have h1:=Int.emod_nonneg (IntKind.u64.wrap a) (show (n:Int)≠0 by omega);have h2:=Int.emod_lt_of_pos (IntKind.u64.wrap a) (show (0:Int)<n by omega);unfold kJ;omega
theorem Mv{x y:Int}(h:x=y):Ending.returned (.int .i64 x)=Ending.returned (.int .i64 y):=by rw [h]
theorem ER(a:Int)(n:Nat)(w:World)(hn:0<n)(hm:(n:Int)<=1000) :
  Calls Tryz.prog 18 #[.int .i64 a,.int .i64 n] w fun e w'=>e=.returned (.int .i64 (kJ a n))/\w'=w:=by
 have hw:IntKind.u64.wrap (n:Int)=n:=by rw [IntKind.wrap_u64];omega
 have h0:0<=IntKind.u64.wrap a:=by rw [IntKind.wrap_u64];omega
 have hnz:((n:Int) == 0)=false:=by rw [bc];omega
 have hk:wrap64 (IntKind.u64.wrap a % n)=(kJ a n:Nat):=by
  have h1:=Int.emod_nonneg (IntKind.u64.wrap a) (show (n:Int)≠0 by omega);have h2:=Int.emod_lt_of_pos (IntKind.u64.wrap a) (show (0:Int)<n by omega);unfold kJ;rw [IntWalk.wrap64_in _ ⟨by omega,by omega⟩];omega
 go_enter Tryz.func18,Tryz.ntmps18;go_wp2_with fail;go_ret
 first
  | exact ⟨rfl,rfl⟩
  | (refine ⟨?_,rfl⟩;exact Mv hk)
theorem zYh(n c g q q2:Nat)(y:dY)(s:dX)(k:Nat)(d:fQ)(w:World)(h:dx w n c g y s)(hs:lr s)(hd:d.key.size<=1000000)(hq:w.cell? ⟨q,0,none⟩=some (.pointer (some ⟨g,0,none⟩)))(hq2:w.cell? ⟨q2,0,none⟩=some (.int .i64 k)) :
  Calls Tryz.prog 161 (#[.agg #[.string d.key,.string d.val,.bool d.gone]]++#[.pointer (some ⟨q,0,none⟩),.pointer (some ⟨q2,0,none⟩)]) w fun e w'=>e=.returned (.bool (!decide (ee s d.key=k)))/\Mod dZ w w':=by
 obtain ⟨w1,hw1⟩:∃ x,x=w.alloc (.cells #[.string d.key,.string d.val,.bool d.gone] 68):=⟨_,rfl⟩;have dh:Mod dZ w w1:=by rw [hw1];exact (Mod.refl _ w).alloc _
 have hb1:dg w1 w.heap.size [.string d.key,.string d.val,.bool d.gone] 68:=by rw [hw1];exact dg.new w _ _
 have x0:=hb1.cell 0 rfl;have p1:=dh.cell hq id;have p2:=dh.cell hq2 id;have hm2:Mod dZ w w1.drew:=dh.drewN 1;have xB:=dV (UD n c g y s d.key w1.drew (h.quiet hm2) hs hd);have HM:=dV hm2;clear h hb1 hq hq2 hm2;go_enter Tryz.func161,Tryz.ntmps161;go_upto_region 1 with fail;rw [<-hw1];clear hw1 dh;refine wp_region_still_tail 6 (by kernel_rfl) (by kernel_rfl) ?_;simp only [aw,bf,bY,cC]
 repeat still_step
 still_call xB.out
 repeat still_step
 refine wpStill_nil ?_;go_wp2_with fail;go_ret;refine ⟨?_,HM.out⟩;congr 2;by_cases e:ee s d.key=k
 ·rw [aQ e,e];simp
 ·rw [aL e];have:((ee s d.key:Nat):Int)≠(k:Int):=by omega
  simpa using this
theorem yFq(s:dX)(t:jR)(k:Nat):jB (fun d=>!decide (ee s d.key=k)) t.writes=uM s t k:=by
 unfold jB uM;congr 1;funext d;simp
theorem yPp(d:fQ):∀ u∈jv d,u.oneCell'=true:=fun u hu=>by
 simp only [jv,bV,List.not_mem_nil,or_false] at hu;rcases hu with rfl | rfl | rfl <;> rfl
theorem yAl(n c g:Nat)(y:dY)(s:dX)(b k:Nat)(t:jR)(w:World)(h:dx w n c g y s)(hs:lr s)(hT:th w n y b t)(hl:t.writes.length<=20)(hk:∀ p∈t.writes,p.key.size<=20) :
  Calls Tryz.prog 125 #[.pointer (some ⟨g,0,none⟩),.pointer (some ⟨b,0,none⟩),.int .i64 k] w fun e w'=>∃ v,e=.returned v/\w'.ownsRow w.heap.size 68 3 v (uM s t k).length (gb (uM s t k))/\Mod dZ w w':=by
 obtain ⟨w1,hw1⟩:∃ x,x=(w.alloc (.cells #[.pointer (some ⟨g,0,none⟩)] 35)).alloc (.cells #[.int .i64 k] 3):=⟨_,rfl⟩;have dh:Mod dZ w w1:=by rw [hw1];exact ((Mod.refl _ w).alloc _).alloc _
 have hz1:w1.heap.size=w.heap.size+1+1:=by rw [hw1];simp
 have hb0:dg w1 w.heap.size [.pointer (some ⟨g,0,none⟩)] 35:=by rw [hw1];exact (dg.new w _ _).mod ((Mod.refl dZ _).alloc _) id
 have hb1:dg w1 (w.heap.size+1) [.int .i64 k] 3:=by
  rw [hw1];have:=dg.new (w.alloc (.cells #[.pointer (some ⟨g,0,none⟩)] 35)) [.int .i64 (k:Int)] 3;simpa using this
 have h1:=h.quiet dh;have SX:=hT.mod dh id (fun _ _=>id);have t2:=SX.blk.cell 2 rfl;have hrow:=SX.wr;have hen:Calls Tryz.prog 163 #[y.jq b] w1 fun e w'=>∃ v,e=.returned v/\w'.ownsRow w1.heap.size 68 3 v t.writes.length (gb t.writes)/\Mod dZ w1 w':=by
  rcases hrow.2 with ⟨e,h0⟩ | ⟨g',cap',cur,e,q1,q2,q3,q4,q5,q6⟩
  ·rw [e];refine (yGh w1).mono ?_;rintro e2 w2 ⟨rfl,rfl⟩;have hnil:t.writes=[]:=aR h0;exact ⟨_,rfl,by rw [hnil];exact World.ownsRow_nil _ _ _ _,Mod.refl _ _⟩
  ·rw [e] at hrow ⊢;have hcl:=hrow.cells (g:=g') rfl;refine (yGi ⟨g',0,none⟩ t.writes.length cap' t.writes w1 rfl hcl (by omega) (fun d _=>yPp d)).mono ?_;rintro e2 w2 ⟨g2,cap2,rfl,hr2,hm2⟩;exact ⟨_,rfl,hr2,hm2⟩
 obtain ⟨wa,wc,iY⟩:=eu SX.wr;rw [iY] at t2 hen;have rJ:=dV hen;have tF:∀ fn first cap w,(Instr.makeFunc fn first cap).run Tryz.prog w=.ok (.func fn first cap) w:=fun _ _ _ _=>rfl
 have HH:=dV h1;have nY:=dV hb0;have kA:=dV hb1;have fJ:=dV dh;have HZ1:=dV hz1;clear h h1 hT SX hrow iY hb0 hb1 dh hz1 hen;go_enter Tryz.func125,Tryz.ntmps125;go_upto_region 1 with fail;rw [<-hw1];clear hw1;go_wp2_with fail;refine rJ.out.mono ?_;rintro e w2 ⟨v2,rfl,hrow2,hm2⟩;have HA:mO 161 #[.pointer (some ⟨w.heap.size,0,none⟩),.pointer (some ⟨w.heap.size+1,0,none⟩)] (fun (d:fQ)=>.agg #[.string d.key,.string d.val,.bool d.gone]) t.writes (fun d=>!decide (ee s d.key=k)) (fun wr=>dx wr n c g y s/\wr.cell? ⟨w.heap.size,0,none⟩=some (.pointer (some ⟨g,0,none⟩))/\wr.cell? ⟨w.heap.size+1,0,none⟩=some (.int .i64 k)):=
  ⟨xL Tryz.func161 (by kernel_rfl) rfl,fun wa wb hh hm=>⟨hh.1.quiet hm,hm.cell hh.2.1 id,hm.cell hh.2.2 id⟩,fun d hd wr hh=>zYh n c g _ _ y s k d wr hh.1 hs (aJ (hk d hd) (by omega)) hh.2.1 hh.2.2⟩
 have qt:=HH.out.quiet hm2;have Jd:=dV (yDk 161 w1.heap.size #[.pointer (some ⟨w.heap.size,0,none⟩),.pointer (some ⟨w.heap.size+1,0,none⟩)] (fun d=>!decide (ee s d.key=k)) v2 t.writes w2 _ hrow2 HA ⟨qt,hm2.cell (nY.out.cell 0 rfl) id,hm2.cell (kA.out.cell 0 rfl) id⟩ (fun x hx w' hm'=>by
  have hx1:w1.heap.size<=x:=(fW hrow2 hx).1;have wW:Mod dZ w1 w':=hm2.trans' hm' (fun i hi e=>by simp only [eA] at e;omega);exact ⟨HH.out.quiet wW,wW.cell (nY.out.cell 0 rfl) id,wW.cell (kA.out.cell 0 rfl) id⟩) (by omega))
 rw [yFq] at Jd;obtain ⟨va2,vc2,hv2⟩:=eu hrow2;subst hv2;have HR:=dV hrow2;have gE:=dV hm2;clear hrow2 qt HA hm2 rJ;go_wp2_with fail;refine Jd.out.mono ?_;rintro e w3 ⟨v3,rfl,hrow3,hv3,dy⟩;obtain ⟨KX,Ek,Hs⟩:=eu hrow3;subst Hs;have BF:=dV hrow3;have jK:Mod dZ w1 w3:=gE.out.trans' dy (fun i hi e=>by have:=(fW HR.out e).1;omega);have iI:=dV (fJ.out.trans jK);have HZ:=dV fJ.out.size;clear hrow3 dy jK Jd;go_wp2_with fail;go_ret;exact ⟨_,rfl,uL BF.out HZ.out,iI.out⟩
def Je(w w':World)(r:Option dv)(e:Ending):Prop:=∃ (d:dv) (u:Value) (ok:Bool),e=.returned (.tuple #[.agg #[.int .i64 d.kind,.int .i64 d.tx,.int .i64 d.time,u],.bool ok])/\w'.ownsRow w.heap.size 68 3 u d.writes.length (gb d.writes)/\r=(if ok then some d else none)/\Mod dZ w w'
theorem EG{w w2:World}{a0 a1 a2 a3:Value}(hm:Mod dZ w w2)(hB:dg w2 w.heap.size [a0,a1,a2,a3] 65)(d:dv)(u:Value)(hu:w2.ownsRow w.heap.size 68 3 u d.writes.length (gb d.writes)) :
  (xe w2 w.heap.size (.int .i64 d.kind) (.int .i64 d.tx) (.int .i64 d.time) u).ownsRow w.heap.size 68 3 u d.writes.length (gb d.writes)/\Mod dZ w (xe w2 w.heap.size (.int .i64 d.kind) (.int .i64 d.tx) (.int .i64 d.time) u):=by
 have h1:=UB w2 w.heap.size (.int .i64 d.kind) (.int .i64 d.tx) (.int .i64 d.time) u;refine ⟨fm hu h1 (fun k _ _ e q=>?_),hm.trans' h1 (fun i hi e=>by simp only [eA] at e;omega)⟩;simp only [eA] at q;subst q;exact oP hu hB (by decide) e
theorem yIn{w:World}{n b:Nat}{y:dY}{t:jR}(h:th w n y b t){k:Nat}(hk:k<t.ats.length):∃ ab cap,y.jQ b=.slice (some ⟨ab,0,none⟩) t.ats.length cap/\w.cell? ⟨ab,k,none⟩=some (.int .i64 (t.ats.getD k 0)):=by
 rcases h.ats.2 with ⟨e,h0⟩ | ⟨g',cap',cur,e,_⟩
 ·omega
 ·have hr:=h.ats;rw [e] at hr;have hc:=hr.cells (g:=g') rfl k (.int .i64 (t.ats.getD k 0)) (by rw [aa,aA hk,aI,aA hk];rfl);refine ⟨g',cap',e,?_⟩;have e2:(⟨g',0,none⟩:Addr).add k=⟨g',k,none⟩:=by cases k <;> simp [Addr.add]
  rw [<-e2];exact hc
theorem yVo(n c g:Nat)(y:dY)(s:dX)(id k:Nat)(time:Int)(w:World)(h:dx w n c g y s)(hs:lr s)(h1:1<=id)(h2:id<=s.dW.length)(hk:k<s.lines.length)(hw:∀ p∈(s.tx id).writes,p.key.size<=20) :
  Calls Tryz.prog 78 #[.pointer (some ⟨g,0,none⟩),.int .i64 id,.int .i64 k,.int .i64 time] w fun e w'=>Je w w' (fX s id k time) e:=by
 obtain ⟨w0,hw0⟩:∃ x,x=w.alloc (.cells #[.int .i64 0,.int .i64 0,.int .i64 0,.slice none 0 0] 65):=⟨_,rfl⟩;have hm0:Mod dZ w w0:=by rw [hw0];exact (Mod.refl _ w).alloc _
 have nA:dg w0 w.heap.size [.int .i64 0,.int .i64 0,.int .i64 0,.slice none 0 0] 65:=by rw [hw0];exact dg.new w _ _
 have hz0:=hm0.size;have h0:=h.quiet hm0;have hll:=hs.ll;have htl:=hs.tl;obtain ⟨b,hb,hT⟩:=h0.xc h1 h2;have Bz:=hs.ta _ (Cf h1 h2);have Nb:=hs.tw _ (Cf h1 h2);have ku:=dV (yg n c g y s id b w0 h0 h1 (by omega) hb);have vq:=dV (Uw n c g y s w0 h0 (by omega) (by omega));have CQ:=dV (yNf n b y (s.tx id) w0 hT);have CO:=dV (yAl n c g y s b k (s.tx id) w0 h0 hs hT Nb hw);obtain ⟨ab,rH,np,Ii⟩:=yIn hT (k:=k) (by rw [Bz];exact hk);have t0:=hT.blk.cell 0 rfl;have t1:=hT.blk.cell 1 rfl;have t3:=hT.blk.cell 3 rfl;rw [np,Bz] at t1;obtain ⟨x,hx⟩:∃ x,x=(s.tx id).ats.getD k 0:=⟨_,rfl⟩;rw [<-hx] at Ii;obtain ⟨⟨p0,p1,p2,p3⟩,⟨f0,f1,f2,f3⟩⟩:(w0.cell? ⟨w.heap.size,0,none⟩=some (.int .i64 0)/\w0.cell? ⟨w.heap.size,1,none⟩=some (.int .i64 0)/\w0.cell? ⟨w.heap.size,2,none⟩=some (.int .i64 0)/\w0.cell? ⟨w.heap.size,3,none⟩=some (.slice none 0 0))/\(w0.frozen? ⟨w.heap.size,0,none⟩=false/\w0.frozen? ⟨w.heap.size,1,none⟩=false/\w0.frozen? ⟨w.heap.size,2,none⟩=false/\w0.frozen? ⟨w.heap.size,3,none⟩=false):=by
  obtain ⟨x0,x1,x2,x3,y0,y1,y2,y3⟩:=td nA;exact ⟨⟨x0,x1,x2,x3⟩,⟨y0,y1,y2,y3⟩⟩
 have xu:(k:Int)<(s.lines.length:Int):=by omega
 have qs:(0:Int)<=(k:Int):=by omega
 have nY:=dV nA;have BL:=dV hm0;have NH:∀ w':World,w'.ownsRow w.heap.size 68 3 (.slice none 0 0) 0 (gb []):=fun w'=>World.ownsRow_nil _ _ _ _;have JR:=dV NH;clear h h0 hT hb nA hm0 np NH Bz Nb;by_cases lp:k=du s
 ·have Xm:((k:Int) == ((du s:Nat):Int))=true:=by
   have:(k:Int)=((du s:Nat):Int):=by omega
   simpa using this
  by_cases hst:(s.tx id).state=2
  ·have AP:((s.tx id).state == 2)=true:=by simpa using hst
   cases hr:ue (s.tx id) with
   | true=>
    have HR:Hid (fX s id k time=some ⟨3,id,time,[]⟩):=by unfold Hid fX;simp only;rw [aP lp,aP ⟨hst,hr⟩]
    rw [hr] at CQ;clear lp hst hr;go_enter Tryz.func78,Tryz.ntmps78;go_upto_region 1 with fail;rw [<-hw0];clear hw0;go_wp2_with (first
     | (go_at_call 34;refine ku.out.mono ?_;rintro e w2 ⟨rfl,rfl⟩)
     | (go_at_call 109;refine vq.out.mono ?_;rintro e w2 ⟨rfl,rfl⟩)
     | (go_at_call 124;refine CQ.out.mono ?_;rintro e w2 ⟨rfl,rfl⟩)
     | fail)
    obtain ⟨q1,q2⟩:=EG BL.out nY.out ⟨3,id,time,[]⟩ (.slice none 0 0) (JR.out _);refine bodyPost_ret (Br Tryz.results78 _ ⟨w.heap.size,0,none⟩ rfl rfl (Ck nY.out _ _ _ _)) rfl ⟨⟨3,id,time,[]⟩,.slice none 0 0,true,rfl,q1,HR.out,q2⟩
   | false=>
    have HR:Hid (fX s id k time=none):=by unfold Hid fX;simp only;rw [aP lp,aK (fun q=>by rw [hr] at q;cases q.2)]
    rw [hr] at CQ;clear lp hst hr;go_enter Tryz.func78,Tryz.ntmps78;go_upto_region 1 with fail;rw [<-hw0];clear hw0;go_wp2_with (first
     | (go_at_call 34;refine ku.out.mono ?_;rintro e w2 ⟨rfl,rfl⟩)
     | (go_at_call 109;refine vq.out.mono ?_;rintro e w2 ⟨rfl,rfl⟩)
     | (go_at_call 124;refine CQ.out.mono ?_;rintro e w2 ⟨rfl,rfl⟩)
     | fail)
    obtain ⟨q1,q2⟩:=EG BL.out nY.out ⟨3,id,time,[]⟩ (.slice none 0 0) (JR.out _);refine bodyPost_ret (Br Tryz.results78 _ ⟨w.heap.size,0,none⟩ rfl rfl (Ck nY.out _ _ _ _)) rfl ⟨⟨3,id,time,[]⟩,.slice none 0 0,false,rfl,q1,HR.out,q2⟩
  ·have AP:((s.tx id).state == 2)=false:=by simpa using hst
   have HR:Hid (fX s id k time=none):=by unfold Hid fX;simp only;rw [aP lp,aK (fun q=>hst q.1)]
   clear lp hst;go_enter Tryz.func78,Tryz.ntmps78;go_upto_region 1 with fail;rw [<-hw0];clear hw0;go_wp2_with (first
    | (go_at_call 34;refine ku.out.mono ?_;rintro e w2 ⟨rfl,rfl⟩)
    | (go_at_call 109;refine vq.out.mono ?_;rintro e w2 ⟨rfl,rfl⟩)
    | (go_at_call 124;refine CQ.out.mono ?_;rintro e w2 ⟨rfl,rfl⟩)
    | fail)
   obtain ⟨q1,q2⟩:=EG BL.out nY.out ⟨3,id,time,[]⟩ (.slice none 0 0) (JR.out _);refine bodyPost_ret (Br Tryz.results78 _ ⟨w.heap.size,0,none⟩ rfl rfl (Ck nY.out _ _ _ _)) rfl ⟨⟨3,id,time,[]⟩,.slice none 0 0,false,rfl,q1,HR.out,q2⟩
 ·have Xm:((k:Int) == ((du s:Nat):Int))=false:=by
   have:(k:Int)≠((du s:Nat):Int):=by omega
   simpa using this
  by_cases ha:x=0
  ·have HR:Hid (fX s id k time=none):=by unfold Hid fX;simp only;rw [aK lp,aP (by rw [<-hx];exact ha)]
   have hab:(x == 0)=true:=by simpa using ha
   clear ha lp hx;go_enter Tryz.func78,Tryz.ntmps78;go_upto_region 1 with fail;rw [<-hw0];clear hw0;go_wp2_with (first
    | (go_at_call 34;refine ku.out.mono ?_;rintro e w2 ⟨rfl,rfl⟩)
    | (go_at_call 109;refine vq.out.mono ?_;rintro e w2 ⟨rfl,rfl⟩)
    | (go_at_call 124;refine CQ.out.mono ?_;rintro e w2 ⟨rfl,rfl⟩)
    | fail)
   obtain ⟨q1,q2⟩:=EG BL.out nY.out uf (.slice none 0 0) (JR.out _);refine bodyPost_ret (Br Tryz.results78 _ ⟨w.heap.size,0,none⟩ rfl rfl (Ck nY.out _ _ _ _)) rfl ⟨uf,.slice none 0 0,false,rfl,q1,HR.out,q2⟩
  ·have hab:(x == 0)=false:=by simpa using ha
   have ha':¬ ((s.tx id).ats.getD k 0=0):=by rw [<-hx];exact ha
   by_cases s2:(s.tx id).state=2
   ·have HR:Hid (fX s id k time=some ⟨2,id,0,uM s (s.tx id) k⟩):=by unfold Hid fX;simp only;rw [aK lp,aK ha',aP s2]
    have AP:((s.tx id).state == 2)=true:=by simpa using s2
    clear ha lp hx ha' s2;go_enter Tryz.func78,Tryz.ntmps78;go_upto_region 1 with fail;rw [<-hw0];clear hw0;go_wp2_with (first
     | (go_at_call 34;refine ku.out.mono ?_;rintro e w2 ⟨rfl,rfl⟩)
     | (go_at_call 109;refine vq.out.mono ?_;rintro e w2 ⟨rfl,rfl⟩)
     | (go_at_call 124;refine CQ.out.mono ?_;rintro e w2 ⟨rfl,rfl⟩)
     | fail)
    refine CO.out.mono ?_;rintro e w3 ⟨v,rfl,hrow,dy⟩;obtain ⟨va,vc,hv⟩:=eu hrow;subst hv;have lQ:=nY.out.mod dy (fun e=>e);obtain ⟨x0,x1,x2,x3,y0,y1,y2,y3⟩:=td lQ;have CP:=dV (uL hrow hz0);have iI:=dV (BL.out.trans dy);have qO:=dV lQ;clear hrow dy lQ;go_wp2_with fail;obtain ⟨q1,q2⟩:=EG iI.out qO.out ⟨2,id,0,uM s (s.tx id) k⟩ _ CP.out;refine bodyPost_ret (Br Tryz.results78 _ ⟨w.heap.size,0,none⟩ rfl rfl (Ck qO.out _ _ _ _)) rfl ⟨⟨2,id,0,uM s (s.tx id) k⟩,_,true,rfl,q1,HR.out,q2⟩
   ·have hs2:((s.tx id).state == 2)=false:=by simpa using s2
    by_cases s3:(s.tx id).state=3
    ·have HR:Hid (fX s id k time=some ⟨3,id,(s.tx id).time,[]⟩):=by unfold Hid fX;simp only;rw [aK lp,aK ha',aK s2,aP s3]
     have hs3:((s.tx id).state == 3)=true:=by simpa using s3
     clear ha lp hx ha' s2 s3;go_enter Tryz.func78,Tryz.ntmps78;go_upto_region 1 with fail;rw [<-hw0];clear hw0;go_wp2_with (first
      | (go_at_call 34;refine ku.out.mono ?_;rintro e w2 ⟨rfl,rfl⟩)
      | (go_at_call 109;refine vq.out.mono ?_;rintro e w2 ⟨rfl,rfl⟩)
      | (go_at_call 124;refine CQ.out.mono ?_;rintro e w2 ⟨rfl,rfl⟩)
      | fail)
     obtain ⟨q1,q2⟩:=EG BL.out nY.out ⟨3,id,(s.tx id).time,[]⟩ (.slice none 0 0) (JR.out _);refine bodyPost_ret (Br Tryz.results78 _ ⟨w.heap.size,0,none⟩ rfl rfl (Ck nY.out _ _ _ _)) rfl ⟨⟨3,id,(s.tx id).time,[]⟩,.slice none 0 0,true,rfl,q1,HR.out,q2⟩
    ·have hs3:((s.tx id).state == 3)=false:=by simpa using s3
     by_cases s4:(s.tx id).state=4
     ·have HR:Hid (fX s id k time=some ⟨4,id,0,[]⟩):=by unfold Hid fX;simp only;rw [aK lp,aK ha',aK s2,aK s3,aP s4]
      have hs4:((s.tx id).state == 4)=true:=by simpa using s4
      clear ha lp hx ha' s2 s3 s4;go_enter Tryz.func78,Tryz.ntmps78;go_upto_region 1 with fail;rw [<-hw0];clear hw0;go_wp2_with (first
       | (go_at_call 34;refine ku.out.mono ?_;rintro e w2 ⟨rfl,rfl⟩)
       | (go_at_call 109;refine vq.out.mono ?_;rintro e w2 ⟨rfl,rfl⟩)
       | (go_at_call 124;refine CQ.out.mono ?_;rintro e w2 ⟨rfl,rfl⟩)
       | fail)
      obtain ⟨q1,q2⟩:=EG BL.out nY.out ⟨4,id,0,[]⟩ (.slice none 0 0) (JR.out _);refine bodyPost_ret (Br Tryz.results78 _ ⟨w.heap.size,0,none⟩ rfl rfl (Ck nY.out _ _ _ _)) rfl ⟨⟨4,id,0,[]⟩,.slice none 0 0,true,rfl,q1,HR.out,q2⟩
     ·have HR:Hid (fX s id k time=none):=by unfold Hid fX;simp only;rw [aK lp,aK ha',aK s2,aK s3,aK s4]
      have hs4:((s.tx id).state == 4)=false:=by simpa using s4
      clear ha lp hx ha' s2 s3 s4;go_enter Tryz.func78,Tryz.ntmps78;go_upto_region 1 with fail;rw [<-hw0];clear hw0;go_wp2_with (first
       | (go_at_call 34;refine ku.out.mono ?_;rintro e w2 ⟨rfl,rfl⟩)
       | (go_at_call 109;refine vq.out.mono ?_;rintro e w2 ⟨rfl,rfl⟩)
       | (go_at_call 124;refine CQ.out.mono ?_;rintro e w2 ⟨rfl,rfl⟩)
       | fail)
      obtain ⟨q1,q2⟩:=EG BL.out nY.out uf (.slice none 0 0) (JR.out _);refine bodyPost_ret (Br Tryz.results78 _ ⟨w.heap.size,0,none⟩ rfl rfl (Ck nY.out _ _ _ _)) rfl ⟨uf,.slice none 0 0,false,rfl,q1,HR.out,q2⟩
structure rY(n n':eK):Prop where
 id:n'.id=n.id
 ep:n'.dk=n.dk
 cf:n'.nodes=n.nodes
structure Ji(n:eK)(m:dw):Prop where
 eF:m.eF=n.id
 ep:m.dk=n.dk
 kd:1<=m.kind/\m.kind<=4
 dst:m.to∈n.nodes
 fw:m.kind=3->∃ N:Nat,m.n=N/\n.log[N]?=some m.cmd
theorem Ql{s:eK}{wh:Int}{k x:Int}(hk:1<=k/\k<=4)(h3:k≠3){m:dw}(h:m∈nc s wh (qU k x)):Ji s m/\m.kind=k:=by
 unfold nc at h
 cases hn:iE s wh with
 | none=>rw [hn] at h;simp at h
 | some t=>
  rw [hn] at h;simp only [bU] at h;subst h;exact ⟨⟨rfl,rfl,hk,Qw hn,fun e=>absurd e h3⟩,rfl⟩
theorem GP(n:eK):rY n (kz n).1/\(kz n).1.log=n.log/\∀ m∈(kz n).2,Ji (kz n).1 m/\(m.kind=1\/m.kind=4):=by
 unfold kz;split
 ·exact ⟨⟨rfl,rfl,rfl⟩,rfl,fun m hm=>(Ql (k:=4) (by omega) (by omega) hm).imp id .inr⟩
 ·exact ⟨⟨rfl,rfl,rfl⟩,rfl,fun m hm=>(Ql (k:=1) (by omega) (by omega) hm).imp id .inl⟩
theorem GM(n:eK)(c:dv):rY n (mw n c).1/\(mw n c).1.log=n.log++[c]/\∀ m∈(mw n c).2,Ji (mw n c).1 m:=by
 unfold mw;split
 ·obtain ⟨h1,h2,h3⟩:=GP (nI n (n.log++[c]));exact ⟨⟨h1.id,h1.ep,h1.cf⟩,h2,fun m hm=>(h3 m hm).1⟩
 ·refine ⟨⟨rfl,rfl,rfl⟩,rfl,fun m hm=>?_⟩
  cases hn:iE n 1 with
  | none=>rw [hn] at hm;simp at hm
  | some t=>
   rw [hn] at hm;simp only [bU] at hm;subst hm;exact ⟨rfl,rfl,by simp [nU],Qw hn,fun _=>⟨n.log.length,rfl,by simp [nI,nU]⟩⟩
theorem yVd{s:eK}{f:Int}{m:dw}(h:m∈xH s f):Ji s m:=by
 unfold xH at h
 cases hn:iE s 1 with
 | none=>rw [hn] at h;simp at h
 | some t=>
  rw [hn] at h;simp only [ml,af,bZ] at h;obtain ⟨j,hj,rfl⟩:=h;refine ⟨rfl,rfl,by simp [nU],Qw hn,fun _=>⟨f.toNat+j,rfl,?_⟩⟩;have:f.toNat+j<s.log.length:=by omega
  simp [nU,List.getD_eq_getElem?_getD,List.getElem?_eq_getElem this]
theorem RM(n:eK)(m:dw):rY n (jP n m).1/\((jP n m).1.log=n.log\/(m.kind=3/\nk n (-1) m.eF=true/\m.n=n.log.length/\n.log.length<500/\(jP n m).1.log=n.log++[m.cmd]))/\∀ m'∈(jP n m).2,Ji (jP n m).1 m':=by
 unfold jP;split
 ·split
  ·exact ⟨⟨rfl,rfl,rfl⟩,.inl rfl,fun m' hm=>(Ql (k:=2) (by omega) (by omega) hm).1⟩
  ·split
   ·exact ⟨⟨rfl,rfl,rfl⟩,.inl rfl,fun m' hm=>yVd hm⟩
   ·split
    ·rename_i h;obtain ⟨h1,h2,h3⟩:=GM n m.cmd;exact ⟨h1,.inr ⟨h.1,h.2.1,h.2.2.1,h.2.2.2,h2⟩,h3⟩
    ·split
     ·exact ⟨⟨rfl,rfl,rfl⟩,.inl rfl,fun m' hm=>(Ql (k:=4) (by omega) (by omega) hm).1⟩
     ·exact ⟨⟨rfl,rfl,rfl⟩,.inl rfl,fun m' hm=>by simp at hm⟩
 ·exact ⟨⟨rfl,rfl,rfl⟩,.inl rfl,fun m' hm=>by simp at hm⟩
theorem yBe{s:fC}{a m:dw}(h:m∈(mR s a).way):m∈s.way\/m=a:=by
 unfold mR at h;split at h
 ·exact .inl h
 ·simpa using h
theorem RL:∀ {ms:List dw} {s:fC} {m:dw},m∈(ly s ms).way->m∈s.way\/m∈ms
 | [],s,m,h=>.inl h
 | a :: ms,s,m,h=>by
  rcases RL (ms:=ms) (s:=mR s a) h with q | q
  ·rcases yBe q with q | q
   ·exact .inl q
   ·exact .inr (by simp [q])
  ·exact .inr (by simp [q])
theorem ud{α:Type}{R:α->α->Prop}{l:List α}:l.Pairwise R↔∀ (i j:Nat) a b,i<j->l[i]?=some a->l[j]?=some b->R a b:=by
 rw [ao];constructor
 ·intro h i j a b hij ha hb;obtain ⟨h1,h2⟩:=aB.1 ha;obtain ⟨h3,h4⟩:=aB.1 hb;have:=h i j h1 h3 hij
  rwa [h2,h4] at this
 ·intro h i j hi hj hij;exact h i j _ _ hij (aA hi) (aA hj)
structure ri(k:Nat)(l:jG):Prop where
 ne:l.nodes≠[]
 ord:l.nodes.Pairwise fun a b=>a.id<b.id/\b.log <+: a.log
 oz:∀ n∈l.nodes,10*(k:Int)<=n.id/\n.id<10*(k:Int)+4
 cfg:∀ n∈l.nodes,n.nodes=l.nodes.map (·.id)
 ep:∃ E:Int,1<=E/\E+l.nodes.length<=6/\∀ n∈l.nodes,n.dk=E
 heard:∀ n∈l.nodes,l.heard<=n.log.length
 few:∀ n∈l.nodes,n.log.length<=500
theorem yKr{l:List eK}(h:l.Pairwise fun a b=>a.id<b.id){j:Nat}{n:eK}(hj:l[j]?=some n):rj n.id (l.map (·.id))=some j:=by
 refine Tn _ _ _ (fun i y hi hy=>?_) (by simp [hj]);simp only [aa,cL] at hy;obtain ⟨a,ha,rfl⟩:=hy;have:=ud.1 h i j a n hi ha hj;omega
theorem ri.place{k:Nat}{l:jG}(h:ri k l){j:Nat}{n:eK}(hj:l.nodes[j]?=some n):sS n=j:=by
 unfold sS;rw [h.cfg n (aC hj),yKr (h.ord.imp fun q=>q.1) hj];rfl
theorem ri.oR{k:Nat}{l:jG}(h:ri k l){n:eK}(hn:n∈l.nodes):oR n=true:=by
 obtain ⟨j,hj⟩:=aO hn;unfold Go.Proofs.YtmaiggbnceejiaaGreatDoor.oR;rw [h.place hj];simp
theorem ri.WS{k:Nat}{l:jG}(h:ri k l){j:Nat}{n:eK}(hj:l.nodes[j]?=some n){wh:Int}{x:Int}(hx:iE n wh=some x):∃ (i:Nat) (a:eK),(i:Int)=j+wh/\l.nodes[i]?=some a/\a.id=x:=by
 unfold iE at hx;split at hx
 ·rename_i e;rw [h.place hj] at e hx;rw [h.cfg n (aC hj)] at hx;simp only [bT,bA] at e;simp only [aa,cL] at hx;obtain ⟨a,ha,rfl⟩:=hx;exact ⟨_,a,by omega,ha,rfl⟩
 ·cases hx
theorem ri.set{k:Nat}{l:jG}(h:ri k l){j:Nat}{n n':eK}(hj:l.nodes[j]?=some n)(hg:rY n n')(hl:n.log <+: n'.log)(hf:n'.log.length<=500)(hp:∀ (i:Nat) p,i<j->l.nodes[i]?=some p->n'.log <+: p.log):ri k ⟨l.nodes.set j n',l.heard⟩:=by
 have hm:=aC hj;have hjl:=(aB.1 hj).1;have hmem:∀ x,x∈l.nodes.set j n'->x=n' \/x∈l.nodes:=fun x hx=>by
  rcases bQ hx with q | q
  ·exact .inr q
  ·exact .inl q
 have DY:(l.nodes.set j n').map (·.id)=l.nodes.map (·.id):=by
  rw [List.map_set];refine bI fun i=>?_;rw [qf];split
  ·rename_i e;rw [e.1];simp [hj,hg.id]
  ·rfl
 refine ⟨fun e=>?_,?_,fun x hx=>?_,fun x hx=>?_,?_,fun x hx=>?_,fun x hx=>?_⟩
 ·have:=ai List.length e;simp at this;exact h.ne this
 ·rw [ud];intro i i' a b SM ha hb;rw [qf] at ha hb;have hpw:=ud.1 h.ord;by_cases e1:i=j
  ·rw [aP ⟨e1,by omega⟩] at ha;rw [aK (by omega)] at hb
   cases ha
   subst e1;have:=hpw i i' n b SM hj hb;exact ⟨by rw [hg.id];exact this.1,this.2.trans hl⟩
  ·rw [aK (fun q=>e1 q.1)] at ha;by_cases e2:i'=j
   ·rw [aP ⟨e2,by omega⟩] at hb
    cases hb
    subst e2;have:=hpw i i' a n SM ha hj;exact ⟨by rw [hg.id];exact this.1,hp i a SM ha⟩
   ·rw [aK (fun q=>e2 q.1)] at hb;exact hpw i i' a b SM ha hb
 ·rcases hmem x hx with q | q
  ·rw [q,hg.id];exact h.oz n hm
  ·exact h.oz x q
 ·show x.nodes=(l.nodes.set j n').map (·.id);rw [DY];rcases hmem x hx with q | q
  ·rw [q,hg.cf];exact h.cfg n hm
  ·exact h.cfg x q
 ·obtain ⟨E,h1,h2,h3⟩:=h.ep;refine ⟨E,h1,by simpa using h2,fun x hx=>?_⟩;rcases hmem x hx with q | q
  ·rw [q,hg.ep];exact h3 n hm
  ·exact h3 x q
 ·rcases hmem x hx with q | q
  ·rw [q];exact aJ (h.heard n hm) hl.length_le
  ·exact h.heard x q
 ·rcases hmem x hx with q | q
  ·rw [q];exact hf
  ·exact h.few x q
theorem ri.take{k:Nat}{l:jG}(h:ri k l){a b:eK}(ha:a∈l.nodes)(hb:b∈l.nodes):a.log.take l.heard=b.log.take l.heard:=by
 obtain ⟨i,hi⟩:=aO ha;obtain ⟨j,hj⟩:=aO hb;have key:∀ {x y:List dv},y <+: x->l.heard<=y.length->x.take l.heard=y.take l.heard:=fun {x y} hxy hl=>by
  obtain ⟨t,rfl⟩:=hxy;rw [bk hl]
 rcases cI i j with q | q | q
 ·exact key (ud.1 h.ord i j a b q hi hj).2 (h.heard b hb)
 ·subst q;rw [hi] at hj;cases hj;rfl
 ·exact (key (ud.1 h.ord j i b a q hj hi).2 (h.heard a ha)).symm
theorem Qv{l:List eK}(h:l≠[])(d:eK):l.getLastD d∈l:=by
 cases l with
 | nil=>exact absurd rfl h
 | cons a l=>rw [EY _ _ (by simp)];exact List.getElem_mem _
theorem ri.last{k:Nat}{l:jG}(h:ri k l)(d:eK){n:eK}(hn:n∈l.nodes):(l.nodes.getLastD d).log <+: n.log:=by
 obtain ⟨i,hi⟩:=aO hn;have hlt:=(aB.1 hi).1;rw [EY l.nodes d (by omega)];by_cases e:i=l.nodes.length - 1
 ·subst e;rw [aA (by omega)] at hi
  cases hi
  exact bx _
 ·exact (ud.1 h.ord i (l.nodes.length - 1) n _ (by omega) hi (aA (by omega))).2
structure zL(s:dX)(k:Nat)(c:dv):Prop where
 lo:1<=c.tx
 hi:c.tx<=(s.dW.length:Int)
 dec:k=du s->c.kind=3/\(1<=c.time/\c.time<=501)/\((s.tx c.tx.toNat).state=2\/(s.tx c.tx.toNat).state=3)/\ue (s.tx c.tx.toNat)=true
 jZ:k≠du s->(c.kind=2/\(s.tx c.tx.toNat).state≠1/\(s.tx c.tx.toNat).ats.getD k 0≠0)\/(c.kind=3/\(s.tx c.tx.toNat).state=3/\1<=c.time)\/(c.kind=4/\(s.tx c.tx.toNat).state=4)
structure yV(s:dX)(k:Nat)(log:List dv):Prop where
 all:∀ c∈log,zL s k c
 one:log.Pairwise fun a b=>¬ (a.kind=b.kind/\a.tx=b.tx)
 rq:k≠du s->∀ (i:Nat) c,log[i]?=some c->c.kind=3->∃ (j:Nat) (p:dv),j<i/\log[j]?=some p/\p.kind=2/\p.tx=c.tx
def pN(s:dX)(k:Nat):List dv:=(eE s k).log.take (s.line k).heard
def nS(l:List dv)(kind:Int)(id:Nat):Prop:=∃ c∈l,c.kind=kind/\c.tx=(id:Int)
structure qI(s:dX)(id:Nat):Prop where
 len:(s.tx id).ats.length=s.lines.length
 st:1<=(s.tx id).state/\(s.tx id).state<=4
 oz:∀ k,0<=(s.tx id).ats.getD k 0/\(s.tx id).ats.getD k 0<=2
 dec:(s.tx id).ats.getD (du s) 0=0
 op:(s.tx id).state=1->∀ k,(s.tx id).ats.getD k 0≠2
 sure:∀ k,k<du s->(s.tx id).ats.getD k 0=2->nS (pN s k) 2 id
 JG:(s.tx id).state=3->ue (s.tx id)=true/\1<=(s.tx id).time/\nS (pN s (du s)) 3 id
 tm:0<=(s.tx id).time/\(s.tx id).time<=501
 few:(s.tx id).writes.length<=20/\∀ p∈(s.tx id).writes,p.key.size<=20
def Cn(s:dX)(m:dw):Prop:=m.kind=3->∀ k,k<s.lines.length->∀ n∈(s.line k).nodes,n.id=m.eF->∃ N:Nat,m.n=N/\n.log[N]?=some m.cmd
structure Safe(s:dX):Prop where
 ll:2<=s.lines.length/\s.lines.length<=5
 tl:s.dW.length<=60
 line:∀ k,k<s.lines.length->ri k (s.line k)
 log:∀ k,k<s.lines.length->yV s k (eE s k).log
 msg:∀ m∈s.net.way,Cn s m
 tx:∀ id,1<=id->id<=s.dW.length->qI s id
theorem yV.pre{s:dX}{k:Nat}{l l':List dv}(h:yV s k l)(hp:l' <+: l):yV s k l':=by
 obtain ⟨t,rfl⟩:=hp;refine ⟨fun c hc=>h.all c (cH _ hc),(bg.1 h.one).1,fun hk i c hi hc=>?_⟩;have hil:=(aB.1 hi).1;obtain ⟨j,p,hj,hp,h1,h2⟩:=h.rq hk i c (by rw [aE hil];exact hi) hc;exact ⟨j,p,hj,by rw [aE (by omega)] at hp;exact hp,h1,h2⟩
theorem Tw{s:dX}{k:Nat}(h:(s.line k).nodes≠[]):(s.line k).nodes[0]?=some (eE s k):=by
 unfold eE
 cases hn:(s.line k).nodes with
 | nil=>exact absurd hn h
 | cons a l=>rfl
theorem Safe.head{s:dX}(h:Safe s){k:Nat}(hk:k<s.lines.length):(s.line k).nodes[0]?=some (eE s k):=Tw (h.line k hk).ne
theorem Safe.head_mem{s:dX}(h:Safe s){k:Nat}(hk:k<s.lines.length):eE s k∈(s.line k).nodes:=aC (h.head hk)
theorem Safe.My{s:dX}(h:Safe s){k:Nat}(hk:k<s.lines.length){n:eK}(hn:n∈(s.line k).nodes):n.log <+: (eE s k).log:=by
 obtain ⟨i,hi⟩:=aO hn
 cases i with
 | zero=>rw [h.head hk] at hi;cases hi;exact bx _
 | succ i=>exact (ud.1 (h.line k hk).ord 0 (i+1) _ _ (by omega) (h.head hk) hi).2
theorem Safe.logs{s:dX}(h:Safe s){k:Nat}(hk:k<s.lines.length){n:eK}(hn:n∈(s.line k).nodes):yV s k n.log:=(h.log k hk).pre (h.My hk hn)
theorem Safe.Db{s:dX}(h:Safe s){k:Nat}(hk:k<s.lines.length){n:eK}(hn:n∈(s.line k).nodes):n.log.take (s.line k).heard=pN s k:=(h.line k hk).take hn (h.head_mem hk)
theorem Safe.dec_lt{s:dX}(h:Safe s):du s<s.lines.length:=by have:=h.ll.1;unfold du;omega
theorem Safe.free{s:dX}(h:Safe s){i:Nat}(ho:(s.tx i).state=1){k:Nat}(hk:k<s.lines.length){c:dv}(hc:c∈(eE s k).log):c.tx≠(i:Int):=fun e=>by
 have q:=(h.log k hk).all c hc;have e2:c.tx.toNat=i:=by omega
 by_cases hd:k=du s
 ·have:=(q.dec hd).2.2.1;rw [e2] at this;omega
 ·have:=q.jZ hd;rw [e2] at this;omega
theorem Safe.inj{s:dX}(h:Safe s){k k':Nat}(hk:k<s.lines.length)(hk':k'<s.lines.length){n n':eK}(hn:n∈(s.line k).nodes)(hn':n'∈(s.line k').nodes)(e:n.id=n'.id):k=k'/\n=n':=by
 have h1:=(h.line k hk).oz n hn;have h2:=(h.line k' hk').oz n' hn';have hkk:k=k':=by omega
 subst hkk;refine ⟨rfl,?_⟩;obtain ⟨i,hi⟩:=aO hn;obtain ⟨j,hj⟩:=aO hn';have hpw:=ud.1 (h.line k hk).ord;rcases cI i j with q | q | q
 ·have:=(hpw i j _ _ q hi hj).1;omega
 ·subst q;rw [hi] at hj;cases hj;rfl
 ·have:=(hpw j i _ _ q hj hi).1;omega
theorem Safe.sent{s:dX}(h:Safe s){k:Nat}(hk:k<s.lines.length){n:eK}(hn:n∈(s.line k).nodes){m:dw}(hm:Ji n m):Cn s m:=fun h3 k' hk' n' hn' e=>by
 obtain ⟨-,rfl⟩:=h.inj hk hk' hn hn' (by rw [e,hm.eF]);exact hm.fw h3
theorem Safe.send{s:dX}(h:Safe s){ms:List dw}(hm:∀ m∈ms,Cn s m):Safe (sg s ms):=
 ⟨h.ll,h.tl,h.line,fun k hk=>⟨fun c hc=>⟨((h.log k hk).all c hc).lo,((h.log k hk).all c hc).hi,((h.log k hk).all c hc).dec,((h.log k hk).all c hc).jZ⟩,(h.log k hk).one,(h.log k hk).rq⟩,
  fun m hmm=>(RL hmm).elim (h.msg m) (hm m),fun id h1 h2=>(have q:=h.tx id h1 h2;⟨q.len,q.st,q.oz,q.dec,q.op,q.sure,q.JG,q.tm,q.few⟩)⟩
theorem Safe.way{s:dX}(h:Safe s){net:fC}(hm:∀ m∈net.way,m∈s.net.way):Safe { s with net:=net }:=
 ⟨h.ll,h.tl,h.line,fun k hk=>⟨fun c hc=>⟨((h.log k hk).all c hc).lo,((h.log k hk).all c hc).hi,((h.log k hk).all c hc).dec,((h.log k hk).all c hc).jZ⟩,(h.log k hk).one,(h.log k hk).rq⟩,
  fun m hmm=>h.msg m (hm m hmm),fun id h1 h2=>(have q:=h.tx id h1 h2;⟨q.len,q.st,q.oz,q.dec,q.op,q.sure,q.JG,q.tm,q.few⟩)⟩
theorem Eb(s:dX){k:Nat}(hk:k<s.lines.length)(j:Nat)(n:eK)(i:Nat):(ld s k j n).line i=if i=k then ⟨(s.line k).nodes.set j n,(s.line k).heard⟩ else s.line i:=Lv s k _ i hk
theorem GW(s:dX)(k j:Nat)(n:eK):(ld s k j n).lines.length=s.lines.length:=by simp [ld,rn]
theorem zTm(s:dX)(k j:Nat)(n:eK):du (ld s k j n)=du s:=by unfold du;rw [GW]
theorem MX{s:dX}{k:Nat}(hk:k<s.lines.length)(hne:(s.line k).nodes≠[])(j:Nat)(n:eK)(i:Nat):eE (ld s k j n) i=if i=k/\j=0 then n else eE s i:=by
 unfold eE;rw [Eb s hk];by_cases e:i=k
 ·subst e;rw [aP rfl];show ((s.line i).nodes.set j n).getD 0 _=_;rw [aI,qf];by_cases e2:j=0
  ·subst e2;rw [aP ⟨rfl,by have:=bX.2 hne;omega⟩,aP ⟨rfl,rfl⟩];rfl
  ·rw [aK (by omega),aK (by omega),aI]
 ·rw [aK e,aK (fun q=>e q.1)]
theorem zL.of{s s':dX}{k:Nat}{c:dv}(h:zL s k c)(ht:s'.dW=s.dW)(hd:du s'=du s):zL s' k c:=by
 have e:∀ i,s'.tx i=s.tx i:=fun i=>by unfold dX.tx;rw [ht]
 exact ⟨h.lo,by rw [ht];exact h.hi,by rw [hd,e];exact h.dec,by rw [hd,e];exact h.jZ⟩
theorem yV.of{s s':dX}{k:Nat}{l:List dv}(h:yV s k l)(ht:s'.dW=s.dW)(hd:du s'=du s):yV s' k l:=
 ⟨fun c hc=>(h.all c hc).of ht hd,h.one,by rw [hd];exact h.rq⟩
theorem qI.of{s s':dX}{id:Nat}(h:qI s id)(ht:s'.dW=s.dW)(hl:s'.lines.length=s.lines.length)(hh:∀ k,k<s.lines.length->pN s' k=pN s k)(hd:du s<s.lines.length):qI s' id:=by
 have e:s'.tx id=s.tx id:=by unfold dX.tx;rw [ht]
 have ed:du s'=du s:=by unfold du;rw [hl]
 refine ⟨by rw [e,hl];exact h.len,by rw [e];exact h.st,by rw [e];exact h.oz,by rw [e,ed];exact h.dec,by rw [e];exact h.op,fun k hk ha=>?_,fun hs=>?_,by rw [e];exact h.tm,by rw [e];exact h.few⟩
 ·rw [ed] at hk;rw [e] at ha;rw [hh k (by omega)];exact h.sure k hk ha
 ·rw [e] at hs ⊢;rw [ed,hh _ hd];exact h.JG hs
theorem Safe.node{s:dX}(h:Safe s){k j:Nat}(hk:k<s.lines.length){n n':eK}(hj:(s.line k).nodes[j]?=some n)(hg:rY n n')(hl:n.log <+: n'.log)(hf:n'.log.length<=500)
  (hp:∀ (i:Nat) p,i<j->(s.line k).nodes[i]?=some p->n'.log <+: p.log) (h0:j=0->yV s k n'.log):Safe (ld s k j n'):=by
 have hL:=h.line k hk;have hn0:=fun i=>MX hk hL.ne j n' i;have nM:=fun i=>Eb s hk j n' i;have hlen:=GW s k j n';have vL:∀ i,i<s.lines.length->pN (ld s k j n') i=pN s i:=fun i hi=>by
  unfold pN;rw [hn0,nM];by_cases e:i=k
  ·subst e;rw [aP rfl];by_cases e2:j=0
   ·subst e2;rw [h.head hi] at hj;cases hj
    rw [aP ⟨rfl,rfl⟩];obtain ⟨t,ht⟩:=hl;rw [<-ht];exact bk (hL.heard _ (h.head_mem hi))
   ·rw [aK (fun q=>e2 q.2)]
  ·rw [aK e,aK (fun q=>e q.1)]
 refine ⟨by rw [hlen];exact h.ll,h.tl,fun i hi=>?_,fun i hi=>?_,fun m hm h3 i hi x hx Kd=>?_,fun id h1 h2=>(h.tx id h1 h2).of rfl hlen vL h.dec_lt⟩
 ·rw [hlen] at hi;rw [nM];by_cases e:i=k
  ·subst e;rw [aP rfl];exact hL.set hj hg hl hf hp
  ·rw [aK e];exact h.line i hi
 ·rw [hlen] at hi;rw [hn0];by_cases e:i=k/\j=0
  ·rw [aP e];rw [e.1];exact (h0 e.2).of rfl (zTm _ _ _ _)
  ·rw [aK e];exact (h.log i hi).of rfl (zTm _ _ _ _)
 ·rw [hlen] at hi;rw [nM] at hx;have IJ:=h.msg m hm h3;by_cases e:i=k
  ·subst e;rw [aP rfl] at hx;rcases bQ hx with q | q
   ·exact IJ i hi x q Kd
   ·subst q;obtain ⟨N,e1,e2⟩:=IJ i hi n (aC hj) (by rw [<-hg.id];exact Kd);refine ⟨N,e1,?_⟩;obtain ⟨t,ht⟩:=hl;rw [<-ht,aE (aB.1 e2).1];exact e2
  ·rw [aK e] at hx;exact IJ i hi x hx Kd
theorem Safe.dW{s s':dX}(h:Safe s)(hl:s'.lines=s.lines)(hn:s'.net=s.net)(ht:s'.dW.length<=60)(hc:∀ k c,k<s.lines.length->c∈(eE s k).log->zL s k c->zL s' k c)(hx:∀ id,1<=id->id<=s'.dW.length->qI s' id):Safe s':=by
 have e1:∀ k,s'.line k=s.line k:=fun k=>by unfold dX.line;rw [hl]
 have e2:∀ k,eE s' k=eE s k:=fun k=>by unfold eE;rw [e1]
 have e3:du s'=du s:=by unfold du;rw [hl]
 refine ⟨by rw [hl];exact h.ll,ht,fun k hk=>by rw [hl] at hk;rw [e1];exact h.line k hk,fun k hk=>?_,fun m hm=>?_,hx⟩
 ·rw [hl] at hk;rw [e2];have q:=h.log k hk;exact ⟨fun c hc'=>hc k c hk hc' (q.all c hc'),q.one,by rw [e3];exact q.rq⟩
 ·rw [hn] at hm;have q:=h.msg m hm;unfold Cn at q ⊢;rw [hl];simp only [e1];exact q
theorem yCo{s s':dX}(hl:s'.lines=s.lines)(k:Nat):pN s' k=pN s k:=by
 have e1:s'.line k=s.line k:=by unfold dX.line;rw [hl]
 unfold pN eE;rw [e1]
theorem qI.same{s s':dX}{id:Nat}(h:qI s id)(e:s'.tx id=s.tx id)(hl:s'.lines=s.lines):qI s' id:=by
 have ed:du s'=du s:=by unfold du;rw [hl]
 refine ⟨by rw [e,hl];exact h.len,by rw [e];exact h.st,by rw [e];exact h.oz,by rw [e,ed];exact h.dec,by rw [e];exact h.op,fun k hk ha=>?_,fun hs=>?_,by rw [e];exact h.tm,by rw [e];exact h.few⟩
 ·rw [ed] at hk;rw [e] at ha;rw [yCo hl];exact h.sure k hk ha
 ·rw [e] at hs ⊢;rw [ed,yCo hl];exact h.JG hs
theorem wG(s:dX)(id:Nat)(t:jR){j:Nat}(hj:1<=j)(hid:1<=id)(hl:id<=s.dW.length):(db s id t).tx j=if j=id then t else s.tx j:=by
 by_cases e:j=id
 ·subst e;rw [aP rfl];exact yk s t hj hl
 ·rw [aK e];exact xV s t (by omega)
theorem zL.same{s s':dX}{k:Nat}{c:dv}(h:zL s k c)(ht:s'.dW.length=s.dW.length)(hl:s'.lines=s.lines)(e:s'.tx c.tx.toNat=s.tx c.tx.toNat):zL s' k c:=by
 have ed:du s'=du s:=by unfold du;rw [hl]
 exact ⟨h.lo,by rw [ht];exact h.hi,by rw [ed,e];exact h.dec,by rw [ed,e];exact h.jZ⟩
theorem Safe.rp{s:dX}(h:Safe s){id:Nat}{t:jR}(h1:1<=id)(h2:id<=s.dW.length)(ho:(s.tx id).state=1){keys:fy}(hx:qI { db s id t with keys:=keys } id):Safe { db s id t with keys:=keys }:=by
 refine h.dW (s':={ db s id t with keys:=keys }) rfl rfl (by show (db s id t).dW.length<=60;rw [my];exact h.tl) (fun k c hk hc q=>?_) (fun j FN CE=>?_)
 ·have hne:=h.free ho hk hc;have hlo:=q.lo;refine q.same (my s id t) rfl ?_;exact xV s t (by omega)
 ·by_cases e:j=id
  ·rw [e];exact hx
  ·have vJ:j<=s.dW.length:=by have:=my s id t;have:j<=(db s id t).dW.length:=CE;omega
   exact (h.tx j FN vJ).same (xV s t (by omega)) rfl
theorem RD(l:List Int)(k:Nat):(l.map fun _=>(0:Int)).getD k 0=0:=by
 rw [aI,aa]
 cases l[k]? <;> rfl
theorem Jy{t:jR}:ue t=true↔∀ k,t.ats.getD k 0≠1:=by
 unfold ue;simp only [Bool.not_eq_true',bw];constructor
 ·intro h k e;rw [aI] at e
  cases hk:t.ats[k]? with
  | none=>rw [hk] at e;simp at e
  | some x=>rw [hk] at e;simp at e;subst e;exact h (aC hk)
 ·intro h hm;obtain ⟨k,hk⟩:=aO hm;exact h k (by rw [aI,hk];rfl)
theorem Safe.abort{s:dX}(h:Safe s){id:Nat}(h1:1<=id)(h2:id<=s.dW.length)(ho:(s.tx id).state=1):Safe (gi s id):=by
 have hx:=h.tx id h1 h2;have e:gi s id={ db s id { s.tx id with state:=4,ats:=(s.tx id).ats.map fun _=>0,writes:=[] } with keys:=gP s.keys id }:=by
  unfold gi oq;rw [aP ho,yk s _ h1 h2];simp only [db,List.set_set]
 rw [e];refine h.rp h1 h2 ho ?_;have et:=yk s { s.tx id with state:=4,ats:=(s.tx id).ats.map fun _=>0,writes:=[] } h1 h2;have et':({ db s id { s.tx id with state:=4,ats:=(s.tx id).ats.map fun _=>0,writes:=[] } with keys:=gP s.keys id }:dX).tx id={ s.tx id with state:=4,ats:=(s.tx id).ats.map fun _=>0,writes:=[] }:=et;refine ⟨?_,?_,?_,?_,?_,?_,?_,?_,?_⟩
 all_goals rw [et']
 ·show (List.map _ _).length=s.lines.length;rw [ar];exact hx.len
 ·simp
 ·intro k;show 0<=(List.map _ _).getD k 0/\(List.map _ _).getD k 0<=2;rw [RD];omega
 ·exact RD _ _
 ·intro hs;simp at hs
 ·intro k _ hk;rw [show ((s.tx id).ats.map fun _=>(0:Int)).getD k 0=0 from RD _ _] at hk;omega
 ·intro hs;simp at hs
 ·exact hx.tm
 ·simp
theorem Safe.ve{s:dX}(h:Safe s){id:Nat}(h1:1<=id)(h2:id<=s.dW.length)(ho:(s.tx id).state=2)(hr:ue (s.tx id)=false):Safe (gi s id):=by
 have hx:=h.tx id h1 h2;have e:gi s id={ db s id { s.tx id with state:=4,writes:=[] } with keys:=gP s.keys id }:=by
  unfold gi oq;rw [aK (by omega)]
 rw [e];have et:({ db s id { s.tx id with state:=4,writes:=[] } with keys:=gP s.keys id }:dX).tx id={ s.tx id with state:=4,writes:=[] }:=yk s _ h1 h2;refine h.dW (s':={ db s id { s.tx id with state:=4,writes:=[] } with keys:=gP s.keys id }) rfl rfl (by show (db s id _).dW.length<=60;rw [my];exact h.tl) (fun k c hk hc q=>?_) (fun j FN CE=>?_)
 ·by_cases e2:c.tx.toNat=id
  ·refine ⟨q.lo,by show c.tx<=((db s id _).dW.length:Int);rw [my];exact q.hi,fun hd=>?_,fun hd=>?_⟩
   ·have:=(q.dec hd).2.2.2;rw [e2,hr] at this;cases this
   ·rw [e2,et];rcases q.jZ hd with ⟨q1,q2,q3⟩ | ⟨q1,q2,q3⟩ | ⟨q1,q2⟩
    ·rw [e2] at q3;exact .inl ⟨q1,by simp,q3⟩
    ·rw [e2] at q2;omega
    ·rw [e2] at q2;omega
  ·have hlo:=q.lo;exact q.same (my s id _) rfl (xV s _ (by omega))
 ·by_cases e2:j=id
  ·subst e2;refine ⟨?_,?_,?_,?_,?_,?_,?_,?_,?_⟩
   all_goals rw [et]
   ·exact hx.len
   ·simp
   ·exact hx.oz
   ·exact hx.dec
   ·intro hs;simp at hs
   ·exact hx.sure
   ·intro hs;simp at hs
   ·exact hx.tm
   ·simp
  ·have vJ:j<=s.dW.length:=by have:j<=(db s id _).dW.length:=CE;rw [my] at this;exact this
   exact (h.tx j FN vJ).same (xV s _ (by omega)) rfl
end Go.Proofs.YtmaiggbnceejiaaGreatDoor
