import Derived.Test.YtmaiggbnceejiaaGreatDoorP10
import Derived.Shelf.Lays
import Derived.Shelf.Sort.Plain
import Derived.Shelf.Slices.In.SortNone2
import Derived.Ground.NamesProg
import Derived.Test.YtmaiggbnceejiaaGreatDoorProg
set_option linter.unusedVariables false
set_option maxRecDepth 100000
set_option maxHeartbeats 16000000
namespace Go.Proofs.YtmaiggbnceejiaaGreatDoor
open Go.RowKit Go.Lib Go.Maps Go.Shelf Go.Sort
theorem yTw(a:Option Addr)(n c:Nat)(a':Option Addr)(n' c':Nat)(w:World):(Instr.field 168 (.agg #[.slice a n c,.slice a' n' c']) 0).run Tryz.prog w=.ok (.slice a n c) w:=by kernel_rfl
theorem yTv(a:Option Addr)(n c:Nat)(a':Option Addr)(n' c':Nat)(w:World):(Instr.field 168 (.agg #[.slice a n c,.slice a' n' c']) 1).run Tryz.prog w=.ok (.slice a' n' c') w:=by kernel_rfl
theorem yNc(B N:Nat)(q:iL)(s:fv)(t:Int)(name:ByteArray)(w:World)(h:oX w B N q s)(hn:fj name)(hN:N<=900) :
  Calls Tryz.prog 70 #[.pointer (some ⟨q.b,q.pre.length,none⟩),.int .i64 t,.string name] w fun e w'=>e=.returned (.int .i64 (iM (s name).held t))/\Mod dZ w w':=by
 have c0:=h.cell;have z0:=h.blk.lt;have lJ:=h.look hn;have fW:=h.few name hn;have hr:=h.rows name true hn id;have HM:=dU (Ln w.heap.size (q.hd name true) (s name).held t w (hr.oN (aF _)) (h.ok name hn).held (by omega));obtain ⟨a,cap,hd⟩:=fJ hr;obtain ⟨a',cap',hd'⟩:=fJ (h.rows name false hn id);rw [hd] at lJ HM;rw [hd'] at lJ;have Rf:=yTw;clear h hr;go_enter Tryz.func70,Tryz.ntmps70;go_wp2_with fail;refine HM.out.mono ?_;rintro e w1 ⟨rfl,hm⟩;go_wp2_with fail;go_ret;exact ⟨rfl,hm⟩
theorem yKx(B N:Nat)(q:iL)(s:fv)(name:ByteArray)(w:World)(h:oX w B N q s)(hn:fj name)(hN:N<=900) :
  Calls Tryz.prog 77 #[.pointer (some ⟨q.b,q.pre.length,none⟩),.string name] w fun e w'=>∃ u,e=.returned u/\jL w' w.heap.size u ((s name).waits.map (·.tx))/\Mod dZ w w':=by
 have c0:=h.cell;have z0:=h.blk.lt;have lJ:=h.look hn;have fW:=h.few name hn;have hr:=h.rows name false hn id;have HM:=dU (yKz w.heap.size (q.hd name false) (s name).waits w (hr.oN (aF _)) (by omega));obtain ⟨a,cap,hd⟩:=fJ hr;obtain ⟨a',cap',hd'⟩:=fJ (h.rows name true hn id);rw [hd] at lJ HM;rw [hd'] at lJ;have Rf:=yTv;clear h hr;go_enter Tryz.func77,Tryz.ntmps77;go_wp2_with fail;refine HM.out.mono ?_;rintro e w1 ⟨u,rfl,hu,hm⟩;have HU:=dU hu;obtain ⟨ua,dj,CY⟩:=fJ hu;subst CY;have ZK:Hid (jL w1 w.heap.size (.slice ua (s name).waits.length dj) ((s name).waits.map (·.tx))):=by
  have h1:=HU.out;rw [af] at h1;exact h1
 clear hu HU;go_wp2_with fail;go_ret;exact ⟨_,rfl,ZK.out,hm⟩
def ie(e:Int):Value:=if e=0 then .nilIface else .iface 90 (.int .i64 e)
structure Ut(w w':World)(B N:Nat)(q q':iL)(s:fv)(name:ByteArray)(c:dg)(u:Value):Prop where
 fT:jL w' w.heap.size u (iI (s name) c).2.2.1
 tb:oX w' B N q' (jI s name (iI (s name) c).1)
 b:q'.b=q.b
 pre:q'.pre=q.pre
 post:q'.post=q.post
 t:q'.t=q.t
 n:q'.n<=q.n+1
 md:Mod (fun x=>x=q.b\/q.own x) w w'
 own:∀ x,q'.own x->q.own x\/w.heap.size<=x
def JR(w:World)(B N:Nat)(q:iL)(s:fv)(name:ByteArray)(c:dg)(e:Ending)(w':World):Prop:=
 ∃ q' u,e=.returned (.tuple #[.bool (iI (s name) c).2.1,u,ie (iI (s name) c).2.2.2])/\Ut w w' B N q q' s name c u
theorem yKy(s:fv)(k:ByteArray):jI s k (s k)=s:=by
 funext y;unfold jI;split
 ·rename_i e;rw [e]
 ·rfl
theorem kC.more{w:World}{B N N':Nat}{q:iL}{s:fv}{no:ByteArray->Prop}(h:kC w B N q s no)(hN:N<=N'):kC w B N' q s no:=
 ⟨h.blk,h.bt,h.map,h.hdr,h.rows,h.apart,h.ok,fun k hk=>aM (h.few k hk) hN⟩
theorem Ti{w w':World}{B N:Nat}{q:iL}{s:fv}{name:ByteArray}{c:dg}(h:oX w B N q s)(hm:Mod dZ w w')(h1:(iI (s name) c).1=s name)(h2:(iI (s name) c).2.2.1=[]):Ut w w' B (N+1) q q s name c (.slice none 0 0):=by
 refine ⟨by rw [h2];exact World.ownsRow_nil _ _ _ _,?_,rfl,rfl,rfl,rfl,by omega,hm.mono (fun _ _ e=>e.elim),fun x hx=>.inl hx⟩;rw [h1,yKy];exact (h.more (by omega)).mod hm id (fun _ _=>id)
theorem yMq(k:eh)(c:dg):(iI k c).1.held.length+(iI k c).1.waits.length<=k.held.length+k.waits.length+1:=by
 unfold iI;split
 ·simp only;omega
 split
 ·simp only;omega
 split
 ·have:=LX k.held c;simp only;omega
 split
 ·simp only;omega
 ·have:=LX k.waits c;simp only;omega
theorem yHb{w w6:World}{B N:Nat}{q:iL}{s:fv}{name:ByteArray}{u:Value}{l:List dg}(i0:Bool)(k':eh)(h:oX w B N q s)(hn:fj name)(hu:fI w6 B u l)(hl:k'.list i0=l)(ho:k'.list (!i0)=(s name).list (!i0))
  (hm:Mod (fun x=>(q.hd name i0).ownBlock=some x\/w.heap.size<=x) w w6) (hat:u.ownBlock=(q.hd name i0).ownBlock\/∀ x,u.ownBlock=some x->w.heap.size<=x) :
  Ah w6 B q name (fun i=>if i=i0 then u else q.hd name i) k'/\kC w6 B N q s (·=name):=by
 have zF:∀ x,u.ownBlock=some x->(q.hd name i0).ownBlock=some x\/w.heap.size<=x:=fun x hx=>by
  rcases hat with e | e
  ·exact .inl (by rw [<-e];exact hx)
  ·exact .inr (e x hx)
 have hlt:∀ k i x,fj k->(q.hd k i).ownBlock=some x->x<w.heap.size:=fun k i x hk hx=>(h.old hk id hx).2.1;have hne:∀ x,(q.hd name (!i0)).ownBlock=some x->u.ownBlock≠some x:=fun x hx e=>by
  rcases zF x e with e2 | e2
  ·have:=(h.apart name name (!i0) i0 x hn hn hx e2).2;cases i0 <;> cases this
  ·have:=hlt name (!i0) x hn hx;omega
 refine ⟨⟨fun i=>?_,fun x h1 h2=>?_,fun k i j x hk hkn h1 h2=>?_⟩,(h.less _).turn hm (fun e=>?_) (fun x hx e=>?_) (fun k i x hk hkn hx e=>?_)⟩
 ·by_cases e:i=i0
  ·subst e;simp only [if_true];rw [hl];exact hu
  ·have:i=!i0:=by cases i <;> cases i0 <;> simp_all
   subst this;simp only [e,if_false];rw [ho];refine (h.rows name (!i0) hn id).mod hm (fun x hx e2=>?_);rcases e2 with e2 | e2
   ·have:=(h.apart name name (!i0) i0 x hn hn hx e2).2;cases i0 <;> cases this
   ·have:=hlt name (!i0) x hn hx;omega
 ·cases i0
  ·simp only [Bool.true_eq_false,if_false,if_true] at h1 h2;exact hne x h1 h2
  ·simp only [cA,if_false,if_true] at h1 h2;exact hne x h2 h1
 ·by_cases e:j=i0
  ·subst e;simp only [if_true] at h2;rcases zF x h2 with e2 | e2
   ·exact hkn (h.apart k name i j x hk hn h1 e2).1
   ·have:=hlt k i x hk h1;omega
  ·simp only [e,if_false] at h2;exact hkn (h.apart k name i j x hk hn h1 h2).1
 ·rcases e with e | e
  ·exact (h.lH hn id e).1 rfl
  ·have:=h.blk.lt;omega
 ·rcases e with e | e
  ·exact (h.lH hn id e).2 hx
  ·have:=(h.lt (.inl hx)).2;omega
 ·rcases e with e | e
  ·exact hkn (h.apart k name i i0 x hk hn hx e).1
  ·have:=hlt k i x hk hx;omega
theorem Ip(e:Int)(w:World):(Instr.makeInterface 90 (.int .i64 e)).run Tryz.prog w=.ok (.iface 90 (.int .i64 e)) w:=by kernel_rfl
theorem yGx{w w6 w7 w8:World}{B N:Nat}{q q':iL}{s:fv}{name:ByteArray}{v:Bool->Value}{k':eh}{c:dg}{u:Value}(i0:Bool)(h:oX w B N q s)(hn:fj name)(fq:Mod (fun x=>(q.hd name i0).ownBlock=some x\/w.heap.size<=x) w w6)
  (hvo:∀ i x,(v i).ownBlock=some x->q.own x\/w.heap.size<=x) (hk:FU w6 w7 B (N+1) q q' s name v k') (oQ:Mod dZ w7 w8) (hk':(iI (s name) c).1=k') (hu:jL w8 w.heap.size u (iI (s name) c).2.2.1):Ut w w8 B (N+1) q q' s name c u:=by
 have hmb:∀ x,x<w.heap.size->(q.hd name i0).ownBlock=some x\/w.heap.size<=x->q.own x:=fun x hx e=>by
  rcases e with e | e
  ·exact .inr ⟨name,i0,hn,e⟩
  ·omega
 have a1:Mod (fun x=>x=q.b\/q.own x) w w6:=fq.mono (fun x hx e=>.inr (hmb x hx e));have a2:=a1.trans (hk.md.mono (G':=fun x=>x=q.b\/q.own x) (fun x _ e=>e.imp id (fun e=>.inl e)));refine ⟨hu,by rw [hk'];exact hk.tb.mod oQ id (fun _ _=>id),hk.b,hk.pre,hk.post,hk.t,hk.n1,a2.trans (oQ.mono (fun _ _ e=>e.elim)),fun x hx=>?_⟩;rcases hk.own x hx with e | e | ⟨i,e⟩
 ·exact .inl e
 ·exact .inr (aM fq.size e)
 ·exact hvo i x e
theorem yQs(B N:Nat)(q:iL)(s:fv)(t:Int)(name:ByteArray)(m:Int)(w:World)(h:oX w B N q s)(qg:m=1\/m=2)(hn:name.size<=20)(hN:N<=390)(Ca:q.n<=1000000)(hB:B<=w.heap.size) :
  Calls Tryz.prog 66 #[.pointer (some ⟨q.b,q.pre.length,none⟩),.int .i64 t,.string name,.int .i64 m] w (JR w B (N+1) q s name ⟨t,m⟩):=by
 have hok:fj name:=by unfold fj maxLen;omega
 have hd13:(m != 1 && m != 2)=false:=by rcases qg with rfl | rfl <;> rfl
 have c0:=h.cell;have z0:=h.blk.lt;have lJ:=h.look hok;have fW:=h.few name hok;have AA:=h.ok name hok;obtain ⟨ha,hcap,mh⟩:=fJ (h.rows name true hok id);obtain ⟨wa,fz,iT⟩:=fJ (h.rows name false hok id);have e1:(s name).list true=(s name).held:=rfl;have e2:(s name).list false=(s name).waits:=rfl;rw [e1] at mh;rw [e2] at iT;obtain ⟨w1,hw1⟩:∃ x,x=(w.alloc (.cells #[q.hd name true,q.hd name false] 168)).alloc (.cells #[.int .i64 t,.int .i64 m] 170):=⟨_,rfl⟩;have di:Mod dZ w w1:=by rw [hw1];exact ((Mod.refl _ w).alloc _).alloc _
 have hb1:dh w1 w.heap.size [q.hd name true,q.hd name false] 168:=by rw [hw1];exact (dh.new w [q.hd name true,q.hd name false] 168).mod ((Mod.refl dZ _).alloc _) id
 have hc1:dh w1 (w.heap.size+1) (fZ ⟨t,m⟩) 170:=by
  rw [hw1];have:=dh.new (w.alloc (.cells #[q.hd name true,q.hd name false] 168)) (fZ ⟨t,m⟩) 170;rw [World.size_alloc] at this;exact this
 have h1:=h.mod di id (fun _ _=>id);have hz1:w1.heap.size=w.heap.size+1+1:=by rw [hw1];simp
 have HT:=dU h;have Kr:=dU h1;have fg:=dU di;have mV:=dU hb1;have wM:=dU hc1;have LA:=dU AA
 -- what is asked of the lists
 have Sf:=dU (Ln w1.heap.size (q.hd name false) (s name).waits t w1 ((h1.rows name false hok id).oN (aF _)) AA.waits (by omega));have Zh:Hid (∀ w2,Mod dZ w1 w2->Calls Tryz.prog 110 #[q.hd name true,.int .i64 t] w2 fun e w'=>e=.returned (.int .i64 (iM (s name).held t))/\Mod dZ w2 w'):=fun w2 hm2=>
  Ln w2.heap.size _ _ t w2 (((h1.rows name true hok id).mod hm2 (fun _ _=>id)).oN (aF _)) AA.held (by have:=fW;omega)
 have kx:Hid (∀ w2,Mod dZ w1 w2->Calls Tryz.prog 111 #[.pointer (some ⟨w.heap.size,0,none⟩),.agg #[.int .i64 t,.int .i64 m]] w2 fun e w'=>e=.returned (.bool (pD (s name).held (s name).waits ⟨t,m⟩))/\Mod dZ w2 w'):=fun w2 hm2=>
  yHg w2.heap.size w.heap.size (q.hd name true) (q.hd name false) (s name).held (s name).waits ⟨t,m⟩ w2 (hb1.mod hm2 id) (((h1.rows name true hok id).mod hm2 (fun _ _=>id)).oN (aF _)) (((h1.rows name false hok id).mod hm2 (fun _ _=>id)).oN (aF _)) (by omega) (by omega)
 have AL:Hid (∀ (i:Bool) (w2:World),Mod dZ w1 w2->Calls Tryz.prog 112 #[q.hd name i,.agg #[.int .i64 t,.int .i64 m]] w2 (RE w2 B (q.hd name i) ((s name).list i) ⟨t,m⟩)):=fun i w2 hm2=>
  yGg B _ _ ⟨t,m⟩ w2 ((h1.rows name i hok id).mod hm2 (fun _ _=>id)) (by cases i;exact AA.waits;exact AA.held) (by cases i <;> simp only [eh.list] <;> (try simp) <;> omega) (aM hB (aM di.size hm2.size))
 have yM:=dU (yMp (c:=⟨t,m⟩) AA qg);have AV:=dU (yMq (s name) ⟨t,m⟩);have oH:Hid (iI (s name) ⟨t,m⟩=if iM (s name).waits t≠0 then (s name,false,[],9) else if m<=iM (s name).held t then (s name,true,[],0) else if pD (s name).held (s name).waits ⟨t,m⟩ then ({ s name with held:=jM (s name).held ⟨t,m⟩ },true,[],0) else if 50<=(s name).waits.length then (s name,false,[],4) else ({ s name with waits:=jM (s name).waits ⟨t,m⟩ },false,wU (s name).held ⟨t,m⟩,0)):=rfl;have p0:=hb1.cell 0 rfl;have p1:=hb1.cell 1 rfl;have x0:=hc1.cell 0 rfl;have x1:=hc1.cell 1 rfl;have Ab:=dU mh;have AJ:=dU iT;rw [mh] at p0;rw [iT] at p1;rw [mh,iT] at hw1 lJ;rw [iT] at Sf;have hmi:=Ip;have hlI:¬ ((name.size:Int) > 20):=by omega
 have hzk:w.heap.size<w1.heap.size:=by omega
 have RP:w.heap.size+1<w1.heap.size:=by omega
 clear h h1 di hb1 hc1 mh iT e1 e2 AA;go_enter Tryz.func66,Tryz.ntmps66;go_upto_region 1 with fail;go_cut [18] (fun b wc=>b=.bool false/\wc=w)
 case first=>
  rcases qg with rfl | rfl
  ·go_wp2_with fail;go_meet
   case rel=>exact ⟨rfl,rfl⟩
  ·go_wp2_with fail;go_meet
   case rel=>exact ⟨rfl,rfl⟩
 obtain ⟨rfl,zD⟩:=hcut;rw [zD];clear zD;go_upto_region 6 with fail;rw [<-hw1];clear hw1 lJ c0;go_wp2_with fail;refine Sf.out.mono ?_;rintro e w2 ⟨rfl,hm2⟩;have gu:=dU hm2;clear Sf;by_cases g1:iM (s name).waits t=0
 ·have DT:Hid (iI (s name) ⟨t,m⟩=if m<=iM (s name).held t then (s name,true,[],0) else if pD (s name).held (s name).waits ⟨t,m⟩ then ({ s name with held:=jM (s name).held ⟨t,m⟩ },true,[],0) else if 50<=(s name).waits.length then (s name,false,[],4) else ({ s name with waits:=jM (s name).waits ⟨t,m⟩ },false,wU (s name).held ⟨t,m⟩,0)):=by rw [oH.out,aE (by simp [g1])];rfl
  have IK:=Zh.out w2 hm2;rw [Ab.out] at IK;have Zg:=dU IK;have y0:=hm2.cell p0 id;have y1:=hm2.cell p1 id;have u0:=hm2.cell x0 id;have u1:=hm2.cell x1 id;have WJ:=aG hzk hm2.size;have WM:=aG RP hm2.size;clear Zh oH IK p0 p1 x0 x1 hm2;rw [g1];go_wp2_with fail;refine Zg.out.mono ?_;rintro e w3 ⟨rfl,dz⟩;have jt:=dU (gu.out.trans dz);by_cases g2:m<=iM (s name).held t
  ·have hge:decide (iM (s name).held t ≥ m)=true:=aQ g2;have ir:Hid (JR w B (N+1) q s name ⟨t,m⟩ (.returned (.tuple #[.bool true,.slice none 0 0,.nilIface])) w3):=by
    have hl:iI (s name) ⟨t,m⟩=(s name,true,[],0):=by rw [DT.out,aJ g2]
    refine ⟨q,.slice none 0 0,by rw [hl];rfl,Ti HT.out (fg.out.trans jt.out) (by rw [hl]) (by rw [hl])⟩
   clear DT;go_wp2_with fail;go_ret3;exact ir.out
  ·have hge:decide (iM (s name).held t ≥ m)=false:=aP (by omega);have xf:Hid (iI (s name) ⟨t,m⟩=if pD (s name).held (s name).waits ⟨t,m⟩ then ({ s name with held:=jM (s name).held ⟨t,m⟩ },true,[],0) else if 50<=(s name).waits.length then (s name,false,[],4) else ({ s name with waits:=jM (s name).waits ⟨t,m⟩ },false,wU (s name).held ⟨t,m⟩,0)):=by rw [DT.out,aE g2];rfl
   have Pn:=dU (kx.out w3 jt.out);have z0':=dz.cell y0 id;have z1':=dz.cell y1 id;have v0:=dz.cell u0 id;have v1:=dz.cell u1 id;have WI:=aG WJ dz.size;have WL:=aG WM dz.size;clear kx DT y0 y1 u0 u1 dz g2;go_wp2_with fail;refine Pn.out.mono ?_;rintro e w4 ⟨rfl,gM⟩;have sK:=dU (jt.out.trans gM);have HB4:=dU (mV.out.mod sK.out id);have HC4:=dU (wM.out.mod sK.out id);have r0:=gM.cell z0' id;have r1:=gM.cell z1' id;have s0:=gM.cell v0 id;have s1:=gM.cell v1 id;have hzk4:=aG WI gM.size;have WK:=aG WL gM.size;have HT4:Hid (oX w4 B N q s):=Kr.out.mod sK.out id (fun _ _=>id);clear z0' z1' v0 v1 gM Pn
   cases jF:pD (s name).held (s name).waits ⟨t,m⟩ with
   | true=>
    have rz:Hid (iI (s name) ⟨t,m⟩=({ s name with held:=jM (s name).held ⟨t,m⟩ },true,[],0)):=by rw [xf.out,jF];rfl
    clear xf;have zC:=AL.out true w4 sK.out;rw [Ab.out] at zC;have AK:=dU zC;clear zC AL;go_upto_region 11 with fail;go_wp2_with fail;refine AK.out.mono ?_;rintro e w5 ⟨u,rfl,sf,eu,uv⟩;have zY:¬ (Value.slice ha (s name).held.length hcap).ownBlock=some w.heap.size:=fun e=>by
     have hr:=HT.out.rows name true hok id;rw [Ab.out] at hr;have:=(mM hr e).2.1;omega
    have nP:=HB4.out.mod eu zY;have nO:=nP.set 0 u;obtain ⟨w6,sd⟩:∃ x,x=w5.setCell ⟨w.heap.size,0,none⟩ u:=⟨_,rfl⟩;rw [<-sd] at nO;have ib:Mod (eF w.heap.size) w5 w6:=by rw [sd];exact Mod.dq _ _ _
    have fq:Mod (fun x=>(q.hd name true).ownBlock=some x\/w.heap.size<=x) w w6:=by
     refine ((fg.out.trans sK.out).mono (fun _ _ e=>e.elim)).trans ((eu.mono (fun x _ e=>.inl (by rw [Ab.out];exact e))).trans (ib.mono (fun x _ e=>.inr (by simp only [eF] at e;omega))))
    have Mh:=sK.out.size;have hat:u.ownBlock=(q.hd name true).ownBlock\/∀ x,u.ownBlock=some x->w.heap.size<=x:=by
     rw [Ab.out];exact uv.imp id (fun h x hx=>by have:=h x hx;omega)
    have zP:fI w6 B u (jM (s name).held ⟨t,m⟩):=sf.mod ib (fun x hx e=>by
     simp only [eF] at e;rw [e] at hx;rcases uv with h9 | h9
     ·rw [h9] at hx;exact zY hx
     ·have:=h9 _ hx;omega)
    obtain ⟨xV,BR⟩:=yHb true { s name with held:=jM (s name).held ⟨t,m⟩ } HT.out hok zP rfl rfl fq hat;obtain ⟨v,hv⟩:∃ v:Bool->Value,v=fun i=>if i=true then u else q.hd name i:=⟨_,rfl⟩
    rw [<-hv] at xV;have yF:v true=u:=by rw [hv];rfl
    have zE:v false=q.hd name false:=by rw [hv];rfl
    have hlk:=yM.out;have hll:=AV.out;rw [rz.out] at hlk hll;have zZ:=Sz B N (N+1) q s name v _ w6 BR hok xV hlk (by simp only at hll ⊢;omega) (by omega) Ca (aM hB fq.size);rw [yF,zE,AJ.out] at zZ;have yN:=dU zZ;have ZH:Hid (∀ i x,(v i).ownBlock=some x->q.own x\/w.heap.size<=x):=fun i x hx=>by
     cases i with
     | false=>rw [zE] at hx;exact .inl (.inr ⟨name,false,hok,hx⟩)
     | true=>
      rw [yF] at hx;rcases hat with h9 | h9
      ·exact .inl (.inr ⟨name,true,hok,by rw [<-h9];exact hx⟩)
      ·exact .inr (h9 x hx)
    have vN:=dU fq;have f5:=nP.frozen 0;have d5:=nP.cell 0 rfl;have GM:=nP.lt;have ZC:=nO.cell 0 rfl;have ZB:=nO.cell 1 rfl;have WH:=nO.lt;rw [AJ.out] at ZB;obtain ⟨ua,dj,hu⟩:=fJ sf;subst hu;clear sf eu uv nP nO ib fq hat zP xV BR hv yF zE zZ hlk hll AK r0 r1;go_upto_region 12 with fail;rw [<-sd];clear sd f5 d5 GM;go_wp2_with fail;refine yN.out.mono ?_;rintro e w7 ⟨rfl,q',hQ⟩;have ir:Hid (JR w B (N+1) q s name ⟨t,m⟩ (.returned (.tuple #[.bool true,.slice none 0 0,.nilIface])) w7):=by
     refine ⟨q',.slice none 0 0,by rw [rz.out];rfl,yGx true HT.out hok vN.out ZH.out hQ (Mod.refl _ _) (by rw [rz.out]) (by rw [rz.out];exact World.ownsRow_nil _ _ _ _)⟩
    clear hQ yN;go_wp2_with fail;go_ret3;exact ir.out
   | false=>
    have rz:Hid (iI (s name) ⟨t,m⟩=if 50<=(s name).waits.length then (s name,false,[],4) else ({ s name with waits:=jM (s name).waits ⟨t,m⟩ },false,wU (s name).held ⟨t,m⟩,0)):=by rw [xf.out,jF];rfl
    clear xf;by_cases g4:50<=(s name).waits.length
    ·have Nr:decide (((s name).waits.length:Int) ≥ 50)=true:=aQ (by omega);have ir:Hid (JR w B (N+1) q s name ⟨t,m⟩ (.returned (.tuple #[.bool false,.slice none 0 0,.iface 90 (.int .i64 4)])) w4):=by
      have hl:iI (s name) ⟨t,m⟩=(s name,false,[],4):=by rw [rz.out,aJ g4]
      refine ⟨q,.slice none 0 0,by rw [hl];rfl,Ti HT.out (fg.out.trans sK.out) (by rw [hl]) (by rw [hl])⟩
     clear rz;go_wp2_with fail;go_ret3;exact ir.out
    ·have Nr:decide (((s name).waits.length:Int) ≥ 50)=false:=aP (by omega);have DS:Hid (iI (s name) ⟨t,m⟩=({ s name with waits:=jM (s name).waits ⟨t,m⟩ },false,wU (s name).held ⟨t,m⟩,0)):=by rw [rz.out,aE g4];rfl
     clear rz;have zC:=AL.out false w4 sK.out;rw [AJ.out] at zC;have AK:=dU zC;clear zC AL;go_upto_region 16 with fail;go_wp2_with fail;refine AK.out.mono ?_;rintro e w5 ⟨u,rfl,sf,eu,uv⟩;have zY:¬ (Value.slice wa (s name).waits.length fz).ownBlock=some w.heap.size:=fun e=>by
      have hr:=HT.out.rows name false hok id;rw [AJ.out] at hr;have:=(mM hr e).2.1;omega
     have Nc:¬ (Value.slice wa (s name).waits.length fz).ownBlock=some (w.heap.size+1):=fun e=>by
      have hr:=HT.out.rows name false hok id;rw [AJ.out] at hr;have:=(mM hr e).2.1;omega
     have nP:=HB4.out.mod eu zY;have Cr:=HC4.out.mod eu Nc;have nO:=nP.set 1 u;obtain ⟨w6,sd⟩:∃ x,x=w5.setCell ⟨w.heap.size,1,none⟩ u:=⟨_,rfl⟩;rw [<-sd] at nO;have ib:Mod (eF w.heap.size) w5 w6:=by rw [sd];exact Mod.dq _ _ _
     have Jq:=Cr.mod ib (fun e=>by simp only [eF] at e;omega);have fq:Mod (fun x=>(q.hd name false).ownBlock=some x\/w.heap.size<=x) w w6:=by
      refine ((fg.out.trans sK.out).mono (fun _ _ e=>e.elim)).trans ((eu.mono (fun x _ e=>.inl (by rw [AJ.out];exact e))).trans (ib.mono (fun x _ e=>.inr (by simp only [eF] at e;omega))))
     have Mh:=sK.out.size;have hat:u.ownBlock=(q.hd name false).ownBlock\/∀ x,u.ownBlock=some x->w.heap.size<=x:=by
      rw [AJ.out];exact uv.imp id (fun h x hx=>by have:=h x hx;omega)
     have zP:fI w6 B u (jM (s name).waits ⟨t,m⟩):=sf.mod ib (fun x hx e=>by
      simp only [eF] at e;rw [e] at hx;rcases uv with h9 | h9
      ·rw [h9] at hx;exact zY hx
      ·have:=h9 _ hx;omega)
     obtain ⟨xV,BR⟩:=yHb false { s name with waits:=jM (s name).waits ⟨t,m⟩ } HT.out hok zP rfl rfl fq hat;obtain ⟨v,hv⟩:∃ v:Bool->Value,v=fun i=>if i=false then u else q.hd name i:=⟨_,rfl⟩
     rw [<-hv] at xV;have yF:v true=q.hd name true:=by rw [hv];rfl
     have zE:v false=u:=by rw [hv];rfl
     have hlk:=yM.out;have hll:=AV.out;rw [DS.out] at hlk hll;have zZ:=Sz B N (N+1) q s name v _ w6 BR hok xV hlk (by simp only at hll ⊢;omega) (by omega) Ca (aM hB fq.size);rw [yF,zE,Ab.out] at zZ;have yN:=dU zZ;have ZH:Hid (∀ i x,(v i).ownBlock=some x->q.own x\/w.heap.size<=x):=fun i x hx=>by
      cases i with
      | true=>rw [yF] at hx;exact .inl (.inr ⟨name,true,hok,hx⟩)
      | false=>
       rw [zE] at hx;rcases hat with h9 | h9
       ·exact .inl (.inr ⟨name,false,hok,by rw [<-h9];exact hx⟩)
       ·exact .inr (h9 x hx)
     have HRT:Hid (fI w6 B (q.hd name true) (s name).held):=by have:=xV.row true;rw [yF] at this;exact this
     have vN:=dU fq;have HB6:=dU nO;have Sm:=dU Jq;have f5:=nP.frozen 1;have d5:=nP.cell 1 rfl;have GM:=nP.lt;have ZC:=nO.cell 0 rfl;have ZB:=nO.cell 1 rfl;have WH:=nO.lt;rw [Ab.out] at ZC;obtain ⟨ua,dj,hu⟩:=fJ sf;subst hu;clear sf eu uv nP nO ib fq hat zP xV BR hv yF zE zZ hlk hll AK r0 r1 Cr Jq;go_upto_region 17 with fail;rw [<-sd];clear sd f5 d5 GM;go_wp2_with fail;refine yN.out.mono ?_;rintro e w7 ⟨rfl,q',hQ⟩;have hnb:∀ y,w.heap.size<=y->¬ (y=q.b\/q.m=some y):=fun y hy e=>by
      rcases e with e | e
      ·omega
      ·have:=(HT.out.lt (.inl e)).2;omega
     have OC:=HB6.out.mod hQ.md (hnb _ (aF _));have Cq:=Sm.out.mod hQ.md (hnb _ (by omega));have hr7:=HRT.out.mod hQ.md (fun x hx e=>by
      have hne:=HT.out.lH hok id hx;exact e.elim hne.1 hne.2)
     have HWO:=dU (yDw B w.heap.size _ _ (s name).held ⟨t,m⟩ w7 OC hr7 (by omega));have s70:=Cq.cell 0 rfl;have s71:=Cq.cell 1 rfl;have hzc7:=Cq.lt;have HQ:=dU hQ;have WN:=hQ.md.size;have WR:=vN.out.size;clear hQ yN OC Cq hr7 ZC ZB s0 s1;go_upto_region 18 with fail;go_wp2_with fail;refine HWO.out.mono ?_;rintro e w8 ⟨u8,rfl,Wu,oQ⟩;have HR8:=dU (uP Wu (aM WR WN));obtain ⟨u8a,Dw,hu8⟩:=fJ Wu;subst hu8;have ir:Hid (JR w B (N+1) q s name ⟨t,m⟩ (.returned (.tuple #[.bool false,.slice u8a (wU (s name).held ⟨t,m⟩).length Dw,.nilIface])) w8):=by
      refine ⟨q',.slice u8a (wU (s name).held ⟨t,m⟩).length Dw,by rw [DS.out];rfl,yGx false HT.out hok vN.out ZH.out HQ.out oQ (by rw [DS.out]) (by rw [DS.out];exact HR8.out)⟩
     clear Wu HR8;go_wp2_with fail;go_ret3;exact ir.out
 ·have g1b:(iM (s name).waits t == 0)=false:=by simpa using g1
  have ir:Hid (JR w B (N+1) q s name ⟨t,m⟩ (.returned (.tuple #[.bool false,.slice none 0 0,.iface 90 (.int .i64 9)])) w2):=by
   have hl:iI (s name) ⟨t,m⟩=(s name,false,[],9):=by rw [oH.out,aJ g1]
   refine ⟨q,.slice none 0 0,by rw [hl];rfl,Ti HT.out (fg.out.trans gu.out) (by rw [hl]) (by rw [hl])⟩
  clear oH Zh;go_wp2_with fail;go_ret3;exact ir.out
def Tryz.sX:Go.Shelf.Ren:=⟨fun | 190=>160 | 125=>179 | 258=>178 | 128=>191 | 129=>192 | 302=>182 | 303=>183 | 304=>184 | 305=>185 | 306=>186 | 307=>187 | 308=>188 | 309=>189 | 310=>190 | 333=>194 | 329=>195 | 330=>196 | 334=>197 | 335=>198 | 336=>199 | 344=>200 | n=>n,fun | 31=>47 | 9=>9 | 3=>3 | 46=>101 | 0=>0 | 51=>261 | 53=>263 | 4=>4 | 183=>254 | 182=>253 | 131=>194 | 5=>5 | 218=>265 | 222=>269 | 228=>271 | 229=>272 | n=>n,fun | n=>n⟩
theorem Tryz.sortStr:Go.Proofs.Lays.n190 Tryz.prog Tryz.sX:={
 mixed:=by kernel_rfl
 f125:=Tryz.func179.trans (ae some (by kernel_rfl))
 f128:=Tryz.func191.trans (ae some (by kernel_rfl))
 f129:=Tryz.func192.trans (ae some (by kernel_rfl))
 f190:=Tryz.func160.trans (ae some (by kernel_rfl))
 f258:=Tryz.func178.trans (ae some (by kernel_rfl))
 f302:=Tryz.func182.trans (ae some (by kernel_rfl))
 f303:=Tryz.func183.trans (ae some (by kernel_rfl))
 f304:=Tryz.func184.trans (ae some (by kernel_rfl))
 f305:=Tryz.func185.trans (ae some (by kernel_rfl))
 f306:=Tryz.func186.trans (ae some (by kernel_rfl))
 f307:=Tryz.func187.trans (ae some (by kernel_rfl))
 f308:=Tryz.func188.trans (ae some (by kernel_rfl))
 f309:=Tryz.func189.trans (ae some (by kernel_rfl))
 f310:=Tryz.func190.trans (ae some (by kernel_rfl))
 f329:=Tryz.func195.trans (ae some (by kernel_rfl))
 f330:=Tryz.func196.trans (ae some (by kernel_rfl))
 f333:=Tryz.func194.trans (ae some (by kernel_rfl))
 f334:=Tryz.func197.trans (ae some (by kernel_rfl))
 f335:=Tryz.func198.trans (ae some (by kernel_rfl))
 f336:=Tryz.func199.trans (ae some (by kernel_rfl))
 f344:=Tryz.func200.trans (ae some (by kernel_rfl))
 t0:=Tryz.underlying0
 a0:=Tryz.isAgg0
 z0:=Tryz.sizeOf0
 v0:=Tryz.zeroValue0
 t3:=Tryz.underlying3
 a3:=Tryz.isAgg3
 z3:=Tryz.sizeOf3
 v3:=Tryz.zeroValue3
 t4:=Tryz.underlying4
 a4:=Tryz.isAgg4
 z4:=Tryz.sizeOf4
 v4:=Tryz.zeroValue4
 t5:=Tryz.underlying5
 a5:=Tryz.isAgg5
 z5:=Tryz.sizeOf5
 v5:=Tryz.zeroValue5
 t9:=Tryz.underlying9
 a9:=Tryz.isAgg9
 z9:=Tryz.sizeOf9
 v9:=Tryz.zeroValue9
 t31:=Tryz.underlying47
 a31:=Tryz.isAgg47
 z31:=Tryz.sizeOf47
 v31:=Tryz.zeroValue47
 t46:=Tryz.underlying101
 a46:=Tryz.isAgg101
 z46:=Tryz.sizeOf101
 v46:=Tryz.zeroValue101
 t51:=Tryz.underlying261
 a51:=Tryz.isAgg261
 z51:=Tryz.sizeOf261
 v51:=Tryz.zeroValue261
 t53:=Tryz.underlying263
 a53:=Tryz.isAgg263
 z53:=Tryz.sizeOf263
 v53:=Tryz.zeroValue263
 t131:=Tryz.underlying194
 a131:=Tryz.isAgg194
 z131:=Tryz.sizeOf194
 v131:=Tryz.zeroValue194
 t182:=Tryz.underlying253
 a182:=Tryz.isAgg253
 z182:=Tryz.sizeOf253
 v182:=Tryz.zeroValue253
 t183:=Tryz.underlying254
 a183:=Tryz.isAgg254
 z183:=Tryz.sizeOf254
 v183:=Tryz.zeroValue254
 t218:=Tryz.underlying265
 a218:=Tryz.isAgg265
 z218:=Tryz.sizeOf265
 v218:=Tryz.zeroValue265
 t222:=Tryz.underlying269
 a222:=Tryz.isAgg269
 z222:=Tryz.sizeOf269
 v222:=Tryz.zeroValue269
 t228:=Tryz.underlying271
 a228:=Tryz.isAgg271
 z228:=Tryz.sizeOf271
 v228:=Tryz.zeroValue271
 t229:=Tryz.underlying272
 a229:=Tryz.isAgg272
 z229:=Tryz.sizeOf272
 v229:=Tryz.zeroValue272 }
theorem Mod.Hn{w w':World}(h:Mod dZ w w'):w.grownBy w' none:=⟨h.os,h.tape,h.output,h.size,fun k hk _=>h.block k hk id⟩
def WD(a b:ByteArray):Prop:=a.data.toList<b.data.toList
theorem zWz(a:ByteArray):¬ WD a a:=List.lt_irrefl _
theorem yIz(ss:List (List UInt8))(hn:ss.Nodup):(ss.mergeSort fun x y=>decide (x<=y)).Pairwise (·<·):=by
 have hp:(ss.mergeSort fun x y=>decide (x<=y)).Perm ss:=List.mergeSort_perm _ _;have hs:(ss.mergeSort fun x y=>decide (x<=y)).Pairwise fun x y=>decide (x<=y)=true:=
  List.pairwise_mergeSort (fun a b c h1 h2=>by simp only [decide_eq_true_iff] at *;exact List.le_trans h1 h2) (fun a b=>by simp only [cF,decide_eq_true_iff];exact List.le_total a b) ss
 have hnd:(ss.mergeSort fun x y=>decide (x<=y)).Nodup:=hp.nodup_iff.2 hn;refine List.Pairwise.imp₂ ?_ hs hnd;intro a b h1 h2;simp only [decide_eq_true_iff] at h1;exact aR fun n=>h2 (List.le_antisymm h1 (List.not_lt.1 n))
def tP(w:World)(B:Nat)(v:Value)(ks:List ByteArray):Prop:=w.ownsRow B 9 1 v ks.length (ks.map Value.string)
theorem tP.mod{G:Nat->Prop}{w w':World}{B:Nat}{v:Value}{os:List ByteArray}(h:tP w B v os)(hm:Mod G w w')(hG:∀ k,v.ownBlock=some k->¬ G k):tP w' B v os:=gD h hm (fun k _ _ e=>hG k e)
theorem Ge{w:World}{B g cap:Nat}{ks:List ByteArray}(h:w.ownsRow B 9 1 (.slice (some ⟨g,0,none⟩) ks.length cap) ks.length (ks.map Value.string)):Holds encStr w g 0 (ks.map fun k=>k.data.toList).toArray:=by
 intro j hj;simp only [au,af] at hj;have h1:=h.cells (g:=g) rfl j (.string ks[j]) (by rw [bF,aA hj];rfl);rw [Go.WideShapes.add_plain] at h1;obtain ⟨_,_,cur,hc⟩:=mM h (k:=g) rfl;refine ⟨?_,by simp [World.frozen?,hc]⟩;rw [h1,getElem!_pos _ j (by simpa using hj)];simp
theorem zQc{w:World}{g n:Nat}{os:Array Obj}(d:Array (List UInt8)):w.grownBy (grow (putRow encStr (Sort.ahead w n) g 0 d) os) (some g):=by
 refine ⟨rfl,rfl,rfl,by simp,fun k hk hne=>?_⟩;rw [heap_grow_old _ _ (by simpa using hk)];have:g≠k:=fun e=>hne (by rw [e]);simp [putRow,mapBlock,Sort.ahead,Array.getElem?_modify,this]
def Mf(k:ByteArray)(cs:List Value):Prop:=cs=[.string k]
def FV(w:World)(L:Nat)(v:Value)(ks:List ByteArray):Prop:=gG w L 1 Mf v ks
theorem FV.mod{G:Nat->Prop}{w w':World}{L:Nat}{v:Value}{ks:List ByteArray}(h:FV w L v ks)(hm:Mod G w w')(hG:∀ b,v.ownBlock=some b->¬ G b):FV w' L v ks:=by
 obtain ⟨a,cap,rfl,h1,h2,h3⟩:=h;refine ⟨a,cap,rfl,h1,h2,?_⟩;rcases h3 with h3 | ⟨b,off,rfl,h4,h5⟩
 ·exact .inl h3
 ·refine .inr ⟨b,off,rfl,h4,fun i d hi=>?_⟩;obtain ⟨cs,k1,k2,k3⟩:=h5 i d hi;exact ⟨cs,k1,k2,fun j x hx=>hm.cell (k3 j x hx) (hG b rfl)⟩
theorem FV.at{w:World}{L:Nat}{a:Option Addr}{n cap:Nat}{ks:List ByteArray}(h:FV w L (.slice a n cap) ks){i:Nat}{k:ByteArray}(hi:ks[i]?=some k):∃ b off,a=some ⟨b,off,none⟩/\b<L/\w.cell? ⟨b,off+i,none⟩=some (.string k):=by
 obtain ⟨b,off,cs,h1,h2,rfl,_,h5⟩:=gG.at h hi;exact ⟨b,off,h1,h2,by have:=h5 0 _ rfl;simpa using this⟩
theorem yAr(B:Nat)(v:Value)(ks:List ByteArray)(w:World)(hrow:tP w B v ks)(hn:ks.Nodup)(hl:ks.length<=1000000) :
  Calls Tryz.prog 160 #[v] w fun e w'=>e=.returned (.tuple #[])/\∃ ks',FV w' w'.heap.size v ks'/\ks'.Perm ks/\ks'.Pairwise WD/\Mod (fun b=>v.ownBlock=some b) w w':=by
 by_cases h0:ks=[]
 ·subst h0;have hv:∃ a cap,v=.slice a 0 cap/\cap<=maxLen:=by
   rcases hrow.2 with ⟨rfl,_⟩ | ⟨g,cap,cur,rfl,_,_,_,h2,_⟩
   ·exact ⟨none,0,rfl,aV _⟩
   ·exact ⟨_,cap,rfl,h2⟩
  obtain ⟨a,cap,rfl,hc⟩:=hv;refine Calls.mono (Any.slices_Sort_string_none Tryz.sortStr a cap w) ?_;rintro e w' ⟨rfl,rfl⟩;exact ⟨rfl,[],⟨a,cap,rfl,aV _,hc,.inl rfl⟩,List.Perm.refl _,List.Pairwise.nil,Mod.refl _ _⟩
 ·have hv:∃ g cap,v=.slice (some ⟨g,0,none⟩) ks.length cap/\ks.length<=cap/\cap<=maxLen:=by
   rcases hrow.2 with ⟨rfl,h1⟩ | ⟨g,cap,cur,rfl,_,_,h1,h2,_⟩
   ·exact absurd (aT h1) h0
   ·exact ⟨g,cap,rfl,h1,h2⟩
  obtain ⟨g,cap,rfl,hc1,hc2⟩:=hv;have hg:g<w.heap.size:=(mM hrow (k:=g) rfl).2.1;have hH:=Ge hrow;have hcon:=Any.slices_Sort_string Tryz.sortStr g 0 cap (ks.map fun k=>k.data.toList) w hH hg (by simp;omega);rw [af] at hcon;refine Calls.mono hcon ?_;rintro e w' ⟨rfl,n,os,rfl⟩;obtain ⟨ts,hts⟩:∃ ts,ts=(ks.map fun k=>k.data.toList).mergeSort fun x y=>decide (x<=y):=⟨_,rfl⟩;have hp:ts.Perm (ks.map fun k=>k.data.toList):=by rw [hts];exact List.mergeSort_perm _ _
  have hnd:(ks.map fun k=>k.data.toList).Nodup:=by
   rw [List.nodup_iff_pairwise_ne,cC];exact List.Pairwise.imp (fun hne e=>hne (Qa e)) hn
  have hr:ts.Pairwise (·<·):=by rw [hts];exact yIz _ hnd
  rw [<-hts];have hlen:ts.length=ks.length:=by rw [hp.length_eq,af]
  refine ⟨rfl,ts.map fun l=>⟨l.toArray⟩,?_,?_,?_,(Mod.refl _ w).grown (zQc _) (fun x hx _=>by cases hx;rfl)⟩
  ·have h0:Holds encStr (Sort.ahead w n) g 0 (ks.map fun k=>k.data.toList).toArray:=hH;have h1:Holds encStr (putRow encStr (Sort.ahead w n) g 0 ts.toArray) g 0 ts.toArray:=holds_putRow encStr (Sort.ahead w n) g 0 (ks.map fun k=>k.data.toList).toArray ts.toArray h0 (by simp [hlen]);have BO:g<(putRow encStr (Sort.ahead w n) g 0 ts.toArray).heap.size:=by simp;exact hg
   refine ⟨_,cap,by rw [af,hlen],by rw [af,hlen];exact hc1,hc2,.inr ⟨g,0,rfl,?_,fun i k hi=>⟨[.string k],rfl,rfl,fun j x hx=>?_⟩⟩⟩
   ·have:=(zQc (w:=w) (g:=g) (n:=n) (os:=os) ts.toArray).size;omega
   ·have hj:j=0:=by have:=(aB.1 hx).1;simp at this;exact this
    subst hj;simp at hx;subst hx;rw [bF] at hi
    cases hti:ts[i]? with
    | none=>rw [hti] at hi;cases hi
    | some l=>
     rw [hti] at hi;simp at hi;have hil:=(aB.1 hti).1;have h2:=(h1 i (by simpa using hil)).1;rw [getElem!_pos _ i (by simpa using hil)] at h2;simp only [List.getElem_toArray] at h2;rw [(aB.1 hti).2] at h2;rw [cell?_grow _ _ _ BO,show 0+i*1+0=0+i by omega,h2,<-hi]
  ·have h2:=hp.map fun l:List UInt8=>(⟨l.toArray⟩:ByteArray);rw [dN] at h2;have h3:ks.map ((fun l:List UInt8=>(⟨l.toArray⟩:ByteArray)) ∘ fun k=>k.data.toList)=ks:=by
    conv=>rhs;rw [<-List.map_id ks]
    refine List.map_congr_left (fun k _=>?_);simp
   rw [h3] at h2;exact h2
  ·rw [cC];exact hr
theorem yHa{key:Value}{kl:Lit}(h:keyOf Tryz.prog 9 key=some kl):∃ x:ByteArray,key=.string x/\kl=gL x/\fj x:=by
 cases key <;> simp [keyOf,Tryz.underlying9,mapKey] at h
 rename_i x;obtain ⟨h1,h2⟩:=h;exact ⟨x,rfl,h2.symm,by unfold fj;simpa using h1⟩
theorem yAv(a b:ByteArray):(gL a).sameKey (gL b)=decide (a=b):=by
 by_cases h:a=b
 ·subst h;rw [WideAt.sameKey_self (QJ _)];simp
 ·rw [Maps.sameKey_ne (fun e=>h (TA e))];simp [h]
theorem yAf(w:World){ops:Array Oper}{rest:List Oper}{o:Oper}{a:Act}{Q:Exit->Act->World->Prop}(hg:o.guard=none)(it:Operand)(hop:o.op=Op.next it false)(g r n:Nat)(D:DataW Unit)(left:Lit->Bool)(cnt:Nat)
  (hit:a.eval it=.pointer (some ⟨r,0,none⟩)) (h:w.ranges Tryz.prog 9 rO g r n D left cnt)
  (hDone:(∀ kl,left kl=false)->wpList Tryz.prog ops Q rest (a.put o.dst (.tuple #[.bool false])) w)
  (hMore:∀ (x:ByteArray) (c d:Value) (w':World) (cnt':Nat),fj x->left (gL x)=true->qy c->qy d->D.atKey (gL x) Bj=lS c d->w'.ranges Tryz.prog 9 rO g r n D (fun z=>left z && !z.sameKey (gL x)) cnt'->cnt'<cnt ->
   w.grownBy w' (some r)->(Instr.entry (.pointer (some ⟨r,0,none⟩))).run Tryz.prog w'=.ok (.tuple #[.string x,.agg #[c,d]]) w'->wpList Tryz.prog ops Q rest (a.put o.dst (.tuple #[.bool true,.string x,.agg #[c,d]])) w') :
  wpList Tryz.prog ops Q (o :: rest) a w:=
 wpList_next_ranges w hg it hop 9 JT rO (fun x:ByteArray=>Value.string x) (fun v:Value=>v) (fun key kl hkey=>by obtain ⟨x,rfl,_⟩:=yHa hkey;exact ⟨x,rfl⟩) (fun v y _=>⟨v,rfl⟩) g r n D left cnt hit h (fun _ hl=>hDone hl)
  (fun x c kl y w' cnt' hkey hlk hv hat hrg hlt hgr hsz hen=>by
   obtain ⟨x',e,rfl,hok⟩:=yHa hkey
   cases e
   obtain ⟨a1,b1,rfl,h1,h2,h3⟩:=yCv hv;exact hMore x a1 b1 w' cnt' hok hlk h1 h2 (by rw [hat Bj,h3]) hrg hlt hgr hen)
theorem yCh{w:World}{g r n cnt:Nat}{D:DataW Unit}{left:Lit->Bool}{x:ByteArray}(h:w.ranges Tryz.prog 9 rO g r n D left cnt)(hl:left (gL x)=true):has D (gL x)=true:=by
 obtain ⟨es,clock,since,seen,c0,hb,F,hs,hDD,hr,hold,hcn,mw,hl2,hsc,hsk⟩:=h;obtain ⟨y,hy,e⟩:=hl2 _ hl;rw [hDD];exact cK.2 ⟨_,mem_sorted.2 (ag.2 ⟨y,hy,rfl⟩),by rw [e];exact WideAt.sameKey_self (QJ _)⟩
structure Ag(s:fv)(p:eh->Bool)(D:DataW Unit)(left:Lit->Bool)(ks:List ByteArray):Prop where
 nodup:ks.Nodup
 mem:∀ k,k∈ks↔fj k/\has D (gL k)=true/\left (gL k)=false/\p (s k)=true
theorem Ag.start(s:fv)(p:eh->Bool)(D:DataW Unit):Ag s p D (has D) []:=
 ⟨by simp,fun k=>⟨fun h=>by simp at h,fun ⟨_,h1,h2,_⟩=>by rw [h1] at h2;cases h2⟩⟩
theorem Ag.skip{s:fv}{p:eh->Bool}{D:DataW Unit}{left:Lit->Bool}{ks:List ByteArray}(h:Ag s p D left ks){x:ByteArray}(hp:p (s x)=false):Ag s p D (fun z=>left z && !z.sameKey (gL x)) ks:=
 ⟨h.nodup,fun k=>by
  rw [h.mem];simp only [yAv];by_cases e:k=x
  ·subst e;simp [hp]
  ·simp [e]⟩
theorem Ag.take{s:fv}{p:eh->Bool}{D:DataW Unit}{left:Lit->Bool}{ks:List ByteArray}(h:Ag s p D left ks){x:ByteArray}(hok:fj x)(hl:left (gL x)=true)(hh:has D (gL x)=true)(hp:p (s x)=true):Ag s p D (fun z=>left z && !z.sameKey (gL x)) (ks++[x]):=by
 have hno:x∉ks:=fun hx=>by have:=((h.mem x).1 hx).2.2.1;rw [hl] at this;cases this
 refine ⟨?_,fun k=>?_⟩
 ·rw [cD];refine ⟨h.nodup,by simp,fun a ha b hb e=>?_⟩;simp at hb;subst hb;subst e;exact hno ha
 ·rw [aL,bK,h.mem];simp only [yAv];by_cases e:k=x
  ·subst e;simp [hok,hh,hp]
  ·simp [e]
def Ie(s:fv)(p:eh->Bool)(ks:List ByteArray):Prop:=ks.Pairwise WD/\∀ k,k∈ks↔fj k/\¬ (s k).bare/\p (s k)=true
structure Ib(f:Nat)(gP:Array Value)(p:eh->Bool)(B N:Nat)(q:iL)(s:fv)(w:World):Prop where
 enter:∀ (args:Array Value) (w:World),(callFunc f args).run Tryz.prog w=.ok (.enter f args) w
 ask:∀ (k:ByteArray) (wr:World),fj k->oX wr B N q s->Mod dZ w wr ->
  Calls Tryz.prog f (#[.agg #[q.hd k true,q.hd k false]]++gP) wr fun e w'=>e=.returned (.bool (p (s k)))/\Mod dZ wr w'
theorem Tryz.GI:(Tryz.prog.info? 9).map (fun i=>(i.zero,i.size,i.bytes))=some (some (.string ByteArray.empty),1,16):=by kernel_rfl
def RJ(w:World)(s:fv)(p:eh->Bool)(n:Nat)(e:Ending)(w':World):Prop:=∃ v ks,e=.returned v/\FV w' w'.heap.size v ks/\Ie s p ks/\(∀ b,v.ownBlock=some b->w.heap.size<=b)/\ks.length<=n/\Mod dZ w w'
theorem yBm(f:Nat)(gP:Array Value)(p:eh->Bool)(B N:Nat)(q:iL)(s:fv)(w:World)(h:oX w B N q s)(hA:Ib f gP p B N q s w)(Ca:q.n<=1000000) :
  Calls Tryz.prog 120 #[.pointer (some ⟨q.b,q.pre.length,none⟩),.func (.func f) #[] gP] w (RJ w s p q.n):=by
 obtain ⟨i0,yi,yz0,yz1,yz2⟩:=info_parts Tryz.GI;have c0:=h.cell;have z0:=h.blk.lt;have HH:=dU h;have HA:=dU hA;have hent:=hA.enter
 cases hm:q.m with
 | none=>
  have hmp:=h.map;rw [hm] at hmp;have II:Hid (Ie s p []):=⟨List.Pairwise.nil,fun k=>⟨fun h=>by simp at h,fun ⟨h1,h2,_⟩=>absurd (hmp k h1).2 h2⟩⟩;rw [hm] at c0;have hrg:=run_range_nilMap (P:=Tryz.prog) w 79 9 168 Tryz.underlying79;have hnx:∀ ty,(Instr.next (.pointer (some ⟨w.heap.size,0,none⟩)) false ty).run Tryz.prog (w.alloc (.mapIter none 0 #[] 0))=_:=fun ty=>run_next_nilMap w ty 0 0 #[];have HM:Hid (Mod dZ w (w.alloc (.mapIter none 0 #[] 0))):=(Mod.refl _ w).alloc _;have HS:=dU (yAr 0 (.slice none 0 0) [] (w.alloc (.mapIter none 0 #[] 0)) (World.ownsRow_nil _ _ _ _) (by simp) (by simp));clear h hA hmp hent;go_enter Tryz.func120,Tryz.ntmps120
  go_wp2
  refine wp_loop_rounds 1 ?_;rw [rounds_succ];go_wp2_with (first | (go_at_call 160;refine HS.out.mono ?_;rintro e w5 ⟨rfl,ps',hps,Gd,hpw,hmm⟩) | go_in);go_ret;have hnil:ps'=[]:=List.Perm.eq_nil Gd;subst hnil;exact ⟨_,[],rfl,hps,II.out,fun b hb=>by simp [Value.ownBlock] at hb,aV _,HM.out.trans' hmm (fun _ _ e=>by cases e)⟩
 | some g=>
  obtain ⟨_,D,hown,hD⟩:=h.map.get hm;rw [hm] at c0;have HD:=dU hD;have HOWN:=dU hown;have hgl:=hown.lt;have hsz:=hown.size_le;clear h hA hD hown hm;go_enter Tryz.func120,Tryz.ntmps120;go_wp2_with (first
   | (at_range;refine wpList_range_own _ rfl _ 79 rfl 9 168 JT Tryz.underlying79 _ g q.n D rfl HOWN.out ?_;intro w0 hrg0 hg0 hs0)
   | go_in)
  go_frame
  have AU:Hid (Mod dZ w w0):=(Mod.refl _ w).grown hg0 (fun x hx _=>by cases hx);have PR:=dU hrg0;have HS0:=dU hs0;clear hrg0 hg0 hs0;go_loopw [5] (fun v0 wr=>∃ (left:Lit->Bool) (cnt:Nat) (ks:List ByteArray),wr.ranges Tryz.prog 9 rO g w.heap.size q.n D left cnt/\tP wr (w.heap.size+1) v0 ks/\Ag s p D left ks/\Mod dZ w wr/\w.heap.size+1<=wr.heap.size/\ks.length+cnt<=q.n) (fun _ wr=>wr.rangeLeft g w.heap.size)
  case atStart=>exact ⟨_,_,[],PR.out,World.ownsRow_nil _ _ _ _,Ag.start s p D,AU.out,by rw [HS0.out];exact aF _,by simpa using hsz⟩
  case round=>
   obtain ⟨left,cnt,ks,hrg,hrow,hC,hM,hz,hcn⟩:=hrel;have HM:=dU hM;have Sa:=dU hrg;have fc:=dU hrow;have HC:=dU hC;obtain ⟨pa,MT,hpv⟩:=fJ hrow;subst hpv;clear hrg hM hrow hC PR AU HS0;go_wp2_with (first
    | (at_next;refine yAf _ rfl _ rfl g w.heap.size q.n D left cnt rfl Sa.out ?_ ?_)
    | go_in)
   ·intro hl0;have HS:=dU (yAr _ _ ks wr fc.out HC.out.nodup (by omega));have HAL:Hid (∀ k,k∈ks↔fj k/\¬ (s k).bare/\p (s k)=true):=fun k=>by
     rw [HC.out.mem];constructor
     ·rintro ⟨h1,h2,_,h4⟩;exact ⟨h1,((HD.out k h1).2).1 h2,h4⟩
     ·rintro ⟨h1,h2,h4⟩;exact ⟨h1,((HD.out k h1).2).2 h2,hl0 _,h4⟩
    have HRB:Hid (∀ b,(Value.slice pa ks.length MT).ownBlock=some b->w.heap.size+1<=b):=fun b hb=>(mM fc.out hb).1;clear hl0;go_wp2_with (first | (go_at_call 160;refine HS.out.mono ?_;rintro e w5 ⟨rfl,ps',hps,Gd,hpw,hmm⟩) | go_in);go_ret;exact ⟨_,ps',rfl,hps,⟨hpw,fun k=>by rw [Gd.mem_iff];exact HAL.out k⟩,fun b hb=>by have:=HRB.out b hb;omega,by rw [Gd.length_eq];omega,HM.out.trans' hmm (fun b hb e=>by have:=HRB.out b e;omega)⟩
   ·intro x c d w1 cnt1 hok hlx hc hd hat hrg1 hlt hg1 hen;have hdd:D.atKey (gL x) Bj=lS (q.hd x true) (q.hd x false):=(HD.out x hok).1;obtain ⟨rfl,rfl⟩:c=q.hd x true/\d=q.hd x false:=yHj hc hd (HH.out.hdr x true hok) (HH.out.hdr x false hok) (by rw [<-hat,hdd]);obtain ⟨ha,hcap,mh⟩:=fJ (HH.out.rows x true hok id);obtain ⟨wa,fz,iT⟩:=fJ (HH.out.rows x false hok id);have di:Mod dZ w w1:=HM.out.grown hg1 (fun y hy hlt=>by cases hy;omega);have hm2:Mod dZ w (w1.alloc (.cells #[q.hd x true,q.hd x false] 168)):=di.alloc _;have HAS:=HA.out.ask x (w1.alloc (.cells #[q.hd x true,q.hd x false] 168)) hok (HH.out.mod hm2 id (fun _ _=>id)) hm2;rw [mh,iT] at hen HAS ⊢;have hhas:=yCh Sa.out hlx;have HASK:=dU HAS;rw [mh,iT] at hm2;have gu:=dU hm2;have ZV:=dU (hrg1.alloc (.cells #[.slice ha ((s x).list true).length hcap,.slice wa ((s x).list false).length fz] 168));have PS:Hid (tP (w1.alloc (.cells #[.slice ha ((s x).list true).length hcap,.slice wa ((s x).list false).length fz] 168)) (w.heap.size+1) (.slice pa ks.length MT) ks):=by
     have hmr:Mod (eF w.heap.size) wr w1:=(Mod.refl _ wr).grown hg1 (fun y hy _=>by cases hy;rfl);exact tP.mod (gD fc.out hmr (fun k hk _ _ e=>by simp only [eF] at e;omega)) ((Mod.refl dZ _).alloc _) (fun _ _=>id)
    have hz1:w.heap.size+1<=w1.heap.size:=aM hz hg1.size;have HHN:=dU mh;have wI:=dU iT;clear hrg1 hg1 hat hc hd di hm2 HAS hdd mh iT;go_wp2_with fail;refine HASK.out.mono ?_;rintro e w2 ⟨rfl,hm2⟩;have Ba:=dU (ZV.out.kept hm2.Hn (by simp) (by simp));have PF:=dU (PS.out.mod hm2 (fun _ _=>id));have jt:=dU (gu.out.trans hm2);have hz2:w.heap.size+1<=w2.heap.size:=aM hz1 (by have:=hm2.size;simp at this;omega);clear hm2
    cases hps:p (s x) with
    | false=>
     have Ey:=dU (HC.out.skip hps);go_wp2_with fail;go_roundw
     case rel=>exact ⟨_,cnt1,ks,Ba.out,PF.out,Ey.out,jt.out,hz2,by omega⟩
     case measure=>rw [Ba.out.left_eq,Sa.out.left_eq];exact hlt
    | true=>
     have Ey:=dU (HC.out.take hok hlx hhas hps);have iF:ks.length+1<=maxLen:=by unfold maxLen;omega
     have iG:(ks.length+1)*16<=140737488355328:=by omega
     have HOE:Hid (∀ u∈[Value.string x],u.oneCell'=true):=fun u hu=>by simp at hu;rw [hu];rfl
     go_wp2_with (first
      | (at_builtin;refine wpList_append_own_at _ rfl (.tmp 21) (.tmp 23) 47 rfl (w.heap.size+1) 9 i0 _ 1 16 Tryz.underlying47 yi yz0 yz1 yz2 rfl (by omega) _ _ _ rfl (PF.out.alloc _) ⟨w2.heap.size,0,none⟩ 1 1 [.string x] rfl rfl (World.news_of_block (heap_alloc_new w2 _)) HOE.out iF iG (by simp;omega) ?_)
      | fail)
     intro v7 w7 eQ fB _ _;have Es:=dU ((Ba.out.alloc _).kept fB (fun e=>by have:=(mM PF.out e.symm).1;omega) (fun e=>by have:=(mM PF.out e.symm).1;omega));have DR:Hid (Mod dZ w w7):=(jt.out.alloc _).grown fB (fun k hk hlt=>by have:=(mM PF.out hk).1;omega);have hz7:w.heap.size+1<=w7.heap.size:=aM (by simp;omega) fB.size;obtain ⟨a7,fP,qf⟩:=fJ eQ;subst qf;have PE:=dU eQ;clear eQ fB;go_wp2_with fail;go_roundw
     case rel=>exact ⟨_,cnt1,ks++[x],Es.out,by unfold tP;rw [aD,ao];exact PE.out,Ey.out,DR.out,hz7,by simp;omega⟩
     case measure=>rw [Es.out.left_eq,Sa.out.left_eq];exact hlt
theorem yTh{B N:Nat}{q:iL}{s:fv}{w:World}{tb:Nat}{t:Int}(hN:N<=900)(ht:dh w tb [.int .i64 t] 3):Ib 166 #[.pointer (some ⟨tb,0,none⟩)] (fun k=>vF k t) B N q s w:=by
 refine ⟨wR Tryz.func166 (by kernel_rfl) rfl,fun k wr hk hT hm=>?_⟩;show Calls Tryz.prog 166 #[.agg #[q.hd k true,q.hd k false],.pointer (some ⟨tb,0,none⟩)] wr _;have ht2:=ht.mod hm id;have fW:=hT.few k hk;obtain ⟨w1,hw1⟩:∃ x,x=wr.alloc (.cells #[q.hd k true,q.hd k false] 168):=⟨_,rfl⟩;have di:Mod dZ wr w1:=by rw [hw1];exact (Mod.refl _ wr).alloc _
 have hb1:dh w1 wr.heap.size [q.hd k true,q.hd k false] 168:=by rw [hw1];exact dh.new wr [q.hd k true,q.hd k false] 168
 have hr1:=(hT.rows k true hk id).mod di (fun _ _=>id);have hr2:=(hT.rows k false hk id).mod di (fun _ _=>id);have H1:=dU (Ln w1.heap.size (q.hd k true) (s k).held t w1 (hr1.oN (aF _)) (hT.ok k hk).held (by omega));have H2:Hid (∀ w2,Mod dZ w1 w2->Calls Tryz.prog 110 #[q.hd k false,.int .i64 t] w2 fun e w'=>e=.returned (.int .i64 (iM (s k).waits t))/\Mod dZ w2 w'):=fun w2 hm2=>Ln w2.heap.size (q.hd k false) (s k).waits t w2 ((fI.mod hr2 hm2 (fun _ _=>id)).oN (aF _)) (hT.ok k hk).waits (by have:=fW;omega);have FB:Hid (vF (s k) t=(decide (iM (s k).held t≠0) || decide (iM (s k).waits t≠0))):=rfl;obtain ⟨ha,hcap,mh⟩:=fJ (hT.rows k true hk id);obtain ⟨wa,fz,iT⟩:=fJ (hT.rows k false hk id);have p0:=hb1.cell 0 rfl;have p1:=hb1.cell 1 rfl;have hz:=hb1.lt;have t0:=(ht2.mod di id).cell 0 rfl;have htz:=(ht2.mod di id).lt;rw [mh] at p0 H1;rw [iT] at p1 H2;rw [mh,iT] at hw1 ⊢;have fg:=dU di;generalize vF (s k) t=r at FB;clear di hb1 hr1 hr2 ht2 ht hT;by_cases g1:iM (s k).held t=0
 ·have HR:Hid (r=(iM (s k).waits t != 0)):=by rw [FB.out,Hid,g1];rw [cN];simp
  rw [g1] at H1;clear FB;go_enter Tryz.func166,Tryz.ntmps166;go_upto_region 1 with fail;rw [<-hw1];clear hw1;go_wp2_with fail;refine H1.out.mono ?_;rintro e w2 ⟨rfl,hm2⟩;have q1:=hm2.cell p1 id;have u0:=hm2.cell t0 id;have hz2:=aG hz hm2.size;have htz2:=aG htz hm2.size;have H22:=dU (H2.out w2 hm2);have gu:=dU (fg.out.trans hm2);clear p0 p1 t0 hm2 H2;go_wp2_with fail;refine H22.out.mono ?_;rintro e w3 ⟨rfl,dz⟩;go_wp2_with fail;go_ret;exact ⟨by rw [HR.out];rfl,gu.out.trans dz⟩
 ·have HR:Hid (r=(iM (s k).held t != 0)):=by rw [FB.out,Hid];rw [cN];simp [g1]
  clear FB;generalize iM (s k).held t=mm at g1 H1 HR;go_enter Tryz.func166,Tryz.ntmps166;go_upto_region 1 with fail;rw [<-hw1];clear hw1;go_wp2_with fail;refine H1.out.mono ?_;rintro e w2 ⟨rfl,hm2⟩;have gu:=dU (fg.out.trans hm2);clear p0 p1 t0 hm2 H2;have hmm:(mm == 0)=false:=by simpa using g1
  go_wp2_with fail;go_ret;exact ⟨by rw [HR.out];first | rfl | (simp [g1]),gu.out⟩
theorem Fv(B N:Nat)(q:iL)(s:fv)(t:Int)(w:World)(h:oX w B N q s)(Ca:q.n<=1000000)(hN:N<=900) :
  Calls Tryz.prog 141 #[.pointer (some ⟨q.b,q.pre.length,none⟩),.int .i64 t] w (RJ w s (fun k=>vF k t) q.n):=by
 have uB:∀ fn first cap w,(Instr.makeFunc fn first cap).run Tryz.prog w=.ok (.func fn first cap) w:=fun _ _ _ _=>rfl
 obtain ⟨w1,hw1⟩:∃ x,x=w.alloc (.cells #[.int .i64 t] 3):=⟨_,rfl⟩;have di:Mod dZ w w1:=by rw [hw1];exact (Mod.refl _ w).alloc _
 have hb1:dh w1 w.heap.size [.int .i64 t] 3:=by rw [hw1];exact dh.new w [.int .i64 t] 3
 have HN:=dU (yBm 166 #[.pointer (some ⟨w.heap.size,0,none⟩)] (fun k=>vF k t) B N q s w1 (h.mod di id (fun _ _=>id)) (yTh hN hb1) Ca);have fg:=dU di;clear h di hb1;go_enter Tryz.func141,Tryz.ntmps141;go_upto_region 1 with fail;rw [<-hw1];clear hw1;go_wp2_with fail;refine HN.out.mono ?_;rintro e w2 ⟨v,ks,rfl,hk,hs,hv,hl,hm⟩;obtain ⟨a,cap,rfl,h1,h2⟩:=gG.slice hk;have HK:=dU hk;clear hk;go_wp2_with fail;go_ret;exact ⟨_,ks,rfl,HK.out,hs,fun b hb=>aM fg.out.size (hv b hb),hl,fg.out.trans hm⟩
end Go.Proofs.YtmaiggbnceejiaaGreatDoor
