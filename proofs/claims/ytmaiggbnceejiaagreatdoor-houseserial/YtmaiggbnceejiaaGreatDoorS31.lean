import Derived.Test.YtmaiggbnceejiaaGreatDoorS30
set_option linter.unusedVariables false
set_option maxRecDepth 100000
set_option maxHeartbeats 16000000
namespace Go.Proofs.YtmaiggbnceejiaaGreatDoor
open Go.RowKit Go.Lib Go.Maps
theorem eh.after{w w1 w2:World}{n c d gs g:Nat}{y y1:dY}{xv:Value}{vs:List Value}{s':eC}(h:iG w y w1 y1)(k:eh w1 n c gs g y1 xv vs s' w2)(hc:c<=d):eh w n d gs g y xv vs s' w2:=by
 obtain ⟨y2,Rx,vs2,h1,h2⟩:=k;exact ⟨y2,Rx,vs2,h1.more hc,(jm.steps h).trans h2⟩
theorem eh.only{w w1:World}{n c d gs g:Nat}{y y1:dY}{xv:Value}{vs:List Value}{s':eC}(h:iG w y w1 y1)(k:eZ w1 n c gs g y1 xv vs s')(hc:c<=d):eh w n d gs g y xv vs s' w1:=⟨y1,xv,vs,k.more hc,jm.steps h⟩
section
variable {w:World} {n c m gs g:Nat} {y:dY} {xv:Value} {vs:List Value} {s:eC} {xb:Nat} {x:ActD}
theorem WJ(hp:iV w n c m gs g y xv vs s xb x)(fr:Act)(hf:pI fr gs xb (fB s x) (eQ x) x.what)(hw:x.what=0)(ha:s.dW.length<7):qJ w n c gs g y xv vs (eG s x) fr:=by
 intro R hN
 conv=>arg 2;whnf
 obtain ⟨f,rfl⟩:=hf.lit;rw [hw];have hA:eG s x={ s with h:=nf s.h,dW:=s.dW++[⟨[],s.now,-1⟩] }:=by unfold eG;simp [hw,ha]
 rw [hA] at hN;have c0:=(gu hp.fU.blk).1;have zg:=hp.fU.blk.lt;have HN:=dV hN;obtain ⟨xa,fF,hxv⟩:=eu hp.fU.row.2;subst hxv;have c1:=(gu hp.fU.blk).2.1;have HB:=dV hp.begin;have HG:=dV hp.lg;obtain ⟨tl,htl⟩:∃ z,z=s.dW.length:=⟨_,rfl⟩;have LM:=dV htl;rw [<-htl] at ha c1 HB;have hb:decide ((tl:Int)<7)=true:=aQ (by omega);have hb2:(tl:Int)<7:=by omega
 have ew:wrap64 ((tl:Int)+1)=(tl:Int)+1:=IntWalk.wrap64_in _ ⟨by omega,by omega⟩;clear hN hp hf hA htl;go_wp2_with fail;refine (HB.out _ (Mod.refl _ _)).mono ?_;rintro e w1 ⟨rfl,y1,hs1,hst⟩;have d1:=(gu hs1.blk).2.1;have zg1:=hs1.blk.lt;rw [LM.out] at hs1;have Dy:=dV hs1;have HST:=dV hst;have XB:s.dW.length<=100:=by rw [<-LM.out];omega
 clear hs1 hst HB c0 c1;go_upto_region 11 with fail;refine wp_mono (Q:=zS ?R2) (Mx (R:=?R2) n c gs g y1 _ vs _ w1 Dy.out HG.out XB _ ⟨rfl,rfl,rfl⟩ ?hN) ?hE
 case hE=>
  intro e a' wd hq
  cases e with
  | normal=>exact hq
  | ret=>exact hq.elim
  | exit id=>exact hq.elim
  | goto l=>exact hq.elim
  | panic ch=>exact hq.elim
  | outgrown=>exact hq.elim
 case hN=>
  intro fr' wd hf' hr;exact HN.out fr' wd hf' (eh.after HST.out hr (by omega))
theorem WI(hp:iV w n c m gs g y xv vs s xb x)(fr:Act)(hf:pI fr gs xb (fB s x) (eQ x) x.what)(hw:x.what=0)(ha:¬ s.dW.length<7):qJ w n c gs g y xv vs (eG s x) fr:=by
 intro R hN
 conv=>arg 2;whnf
 obtain ⟨f,rfl⟩:=hf.lit;rw [hw];have hA:eG s x=s:=by unfold eG;simp [hw,ha]
 rw [hA] at hN;have c0:=(gu hp.fU.blk).1;have zg:=hp.fU.blk.lt;have HN:=dV hN;have HR:=dV (eh.refl hp.fU (Mod.refl _ _));obtain ⟨xa,fF,hxv⟩:=eu hp.fU.row.2;subst hxv;have c1:=(gu hp.fU.blk).2.1;obtain ⟨tl,htl⟩:∃ z,z=s.dW.length:=⟨_,rfl⟩;rw [<-htl] at ha c1 HR HN;have hb:decide ((tl:Int)<7)=false:=aL (by omega);have hb2:¬ (tl:Int)<7:=by omega
 clear hN hp hf hA htl;go_wp2_with fail;show R _ _;exact HN.out _ _ ⟨rfl,rfl,rfl⟩ HR.out
theorem Vl{dW:List eM}{i:Nat}{t:eM}(h:dW[i]?=some t)(o:fg):fh dW (i+1) o=dW.set i ⟨t.ops++[o],t.eF,t.fI⟩:=by
 unfold fh;rw [bP,h]
theorem VT{s:eC}{x:ActD}(h:0<fB s x):∃ i t,fB s x=i+1/\s.dW[i]?=some t:=by
 unfold fB at h ⊢;split at h
 ·rename_i e;rw [aP e];have:=EN x.tx s.dW.length e;exact ⟨kJ x.tx s.dW.length,_,by omega,aA this⟩
 ·omega
theorem WD(hp:iV w n c m gs g y xv vs s xb x)(fr:Act)(hf:pI fr gs xb (fB s x) (eQ x) x.what)(hw:x.what=1)(ha:(fH s.h (fB s x:Nat) (eQ x)).2.2.2=0)(hi:0<fB s x):qJ w n c gs g y xv vs (eG s x) fr:=by
 intro R hN
 conv=>arg 2;whnf
 obtain ⟨f,rfl⟩:=hf.lit;rw [hw];have hA:eG s x={ s with h:=(fH s.h (fB s x:Nat) (eQ x)).1,dW:=fh s.dW (fB s x) ⟨1,eQ x,(fH s.h (fB s x:Nat) (eQ x)).2.1,(fH s.h (fB s x:Nat) (eQ x)).2.2.1⟩ }:=by unfold eG;simp [hw,ha,hi]
 rw [hA] at hN;have c0:=(gu hp.fU.blk).1;have zg:=hp.fU.blk.lt;have HN:=dV hN;obtain ⟨i,t,hid,hit⟩:=VT hi;obtain ⟨Mm,fF,hxv⟩:=hp.fU.nE hit;subst hxv;have HG:=dV hp.lg;have HC:=dV (hp.get (fB s x:Nat) (eQ x) (Jm x));have pY:Hid (t.ops.length<=1000):=by have:=hp.NC t (aC hit);have:=hp.mm;unfold Hid;omega
 have oc:Hid (s.dW.length<=100):=by have:=hp.ok.few;unfold Hid;omega
 rw [ha,ou] at HC;rw [hid] at HC HN ⊢;rw [Vl hit] at HN;obtain ⟨key,hkey⟩:∃ z,z=eQ x:=⟨_,rfl⟩;rw [<-hkey] at HC HN ⊢;obtain ⟨r,gH⟩:∃ z,z=fH s.h ((i+1:Nat):Int) key:=⟨_,rfl⟩;rw [<-gH] at HC HN;obtain ⟨id,lL⟩:∃ z:Int,z=((i+1:Nat):Int):=⟨_,rfl⟩;rw [<-lL] at HC ⊢;have hb:decide (id > 0)=true:=aQ (by omega);have hb2:0<id:=by omega
 have QO:Hid (id=(i:Int)+1):=by unfold Hid;omega
 have HT:=dV hit;clear hN hp hf hA lL gH hkey hid hi ha hit;go_wp2_with fail;refine (HC.out _ (Mod.refl _ _)).mono ?_;rintro e w1 ⟨rfl,y1,hs1,hst⟩;have Dy:=dV hs1;have HST:=dV hst;clear hs1 hst HC c0;go_upto_region 15 with fail;refine wp_mono (Q:=zS ?R2) (Mw (R:=?R2) n (c+2) gs g Mm fF i id key r.2.1 r.2.2.1 t y1 vs { s with h:=r.1 } w1 Dy.out HG.out HT.out QO.out oc.out pY.out _ ⟨rfl,rfl,rfl⟩ rfl rfl rfl rfl ?hN) ?hE
 case hE=>
  intro e a' wd hq
  cases e with
  | normal=>exact hq
  | ret=>exact hq.elim
  | exit id=>exact hq.elim
  | goto l=>exact hq.elim
  | panic ch=>exact hq.elim
  | outgrown=>exact hq.elim
 case hN=>
  intro fr' wd hf' hr;exact HN.out fr' wd hf' (eh.after HST.out hr (by omega))
theorem WC(hp:iV w n c m gs g y xv vs s xb x)(fr:Act)(hf:pI fr gs xb (fB s x) (eQ x) x.what)(hw:x.what=1)(ha:¬ ((fH s.h (fB s x:Nat) (eQ x)).2.2.2=0/\0<fB s x)):qJ w n c gs g y xv vs (eG s x) fr:=by
 intro R hN
 conv=>arg 2;whnf
 obtain ⟨f,rfl⟩:=hf.lit;rw [hw];have hA:eG s x={ s with h:=(fH s.h (fB s x:Nat) (eQ x)).1 }:=by unfold eG;simp [hw,ha]
 rw [hA] at hN;have c0:=(gu hp.fU.blk).1;have zg:=hp.fU.blk.lt;have HN:=dV hN;have HC:=dV (hp.get (fB s x:Nat) (eQ x) (Jm x));obtain ⟨key,hkey⟩:∃ z,z=eQ x:=⟨_,rfl⟩;rw [<-hkey] at HC HN ha ⊢;obtain ⟨r,gH⟩:∃ z,z=fH s.h ((fB s x:Nat):Int) key:=⟨_,rfl⟩;rw [<-gH] at HC HN ha;obtain ⟨id,lL⟩:∃ z:Int,z=((fB s x:Nat):Int):=⟨_,rfl⟩;rw [<-lL] at HC ⊢;have nP:(r.2.2.2=0/\id=0)\/r.2.2.2≠0:=by
  by_cases e:r.2.2.2=0
  ·exact .inl ⟨e,by have:¬ 0<fB s x:=fun q=>ha ⟨e,q⟩;omega⟩
  ·exact .inr e
 clear hN hp hf hA lL gH hkey ha;rcases nP with ⟨e1,rfl⟩ | e1
 ·rw [e1,ou] at HC;clear e1;go_wp2_with fail;refine (HC.out _ (Mod.refl _ _)).mono ?_;rintro e w1 ⟨rfl,y1,hs1,hst⟩;have HR:=dV (eh.only (d:=c+2) hst hs1 (by omega));clear hs1 hst HC c0;go_wp2_with fail;show R _ _;exact HN.out _ _ ⟨rfl,rfl,rfl⟩ HR.out
 ·rw [mS e1] at HC;clear e1;go_wp2_with fail;refine (HC.out _ (Mod.refl _ _)).mono ?_;rintro e w1 ⟨rfl,y1,hs1,hst⟩;have HR:=dV (eh.only (d:=c+2) hst hs1 (by omega));clear hs1 hst HC c0;go_wp2_with fail;show R _ _;exact HN.out _ _ ⟨rfl,rfl,rfl⟩ HR.out
theorem swN(hp:iV w n c m gs g y xv vs s xb x)(fr:Act)(hf:pI fr gs xb (fB s x) (eQ x) x.what)(hw:∀ k:Nat,k<13->x.what≠k):qJ w n c gs g y xv vs (eG s x) fr:=by
 intro R hN
 conv=>arg 2;whnf
 obtain ⟨f,rfl⟩:=hf.lit;have hA:eG s x=s:=by
  unfold eG;have h0:=hw 0 (by omega);have h1:=hw 1 (by omega);have h2:=hw 2 (by omega);have h3:=hw 3 (by omega);have h4:=hw 4 (by omega);have h5:=hw 5 (by omega);have h6:=hw 6 (by omega);have h7:=hw 7 (by omega);have h8:=hw 8 (by omega);have h9:=hw 9 (by omega);have h10:=hw 10 (by omega);have h11:=hw 11 (by omega);have h12:=hw 12 (by omega);simp at h0 h1 h2 h3 h4 h5 h6 h7 h8 h9 h10 h11 h12;simp [h0,h1,h2,h3,h4,h5,h6,h7,h8,h9,h10,h11,h12]
 rw [hA] at hN;have HR:=dV (eh.refl hp.fU (Mod.refl _ _));have HN:=dV hN;obtain ⟨wh,uN⟩:∃ z,z=x.what:=⟨_,rfl⟩;rw [<-uN] at hw ⊢;have h0:(wh == 0)=false:=by have:=hw 0 (by omega);simpa using this
 have h1:(wh == 1)=false:=by have:=hw 1 (by omega);simpa using this
 have h2:(wh == 2)=false:=by have:=hw 2 (by omega);simpa using this
 have h3:(wh == 3)=false:=by have:=hw 3 (by omega);simpa using this
 have h4:(wh == 4)=false:=by have:=hw 4 (by omega);simpa using this
 have h5:(wh == 5)=false:=by have:=hw 5 (by omega);simpa using this
 have h6:(wh == 6)=false:=by have:=hw 6 (by omega);simpa using this
 have h7:(wh == 7)=false:=by have:=hw 7 (by omega);simpa using this
 have h8:(wh == 8)=false:=by have:=hw 8 (by omega);simpa using this
 have h9:(wh == 9)=false:=by have:=hw 9 (by omega);simpa using this
 have h10:(wh == 10)=false:=by have:=hw 10 (by omega);simpa using this
 have h11:(wh == 11)=false:=by have:=hw 11 (by omega);simpa using this
 have h12:(wh == 12)=false:=by have:=hw 12 (by omega);simpa using this
 clear hN hp hf hA uN hw;go_wp2_with fail;show R _ _;exact HN.out _ _ ⟨rfl,rfl,rfl⟩ HR.out
end
section
variable {w:World} {n c m gs g:Nat} {y:dY} {xv:Value} {vs:List Value} {s:eC} {xb:Nat} {x:ActD}
theorem Er{κ:Int}{G:Bool}(hκ:(κ=2/\G=false)\/(κ=3/\G=true))(hp:iV w n c m gs g y xv vs s xb x)(fr:Act)(hf:pI fr gs xb (fB s x) (eQ x) x.what)(hw:x.what=κ)(hv:¬ 9<x.value.size)(ha:(fG s.h (fB s x:Nat) ⟨eQ x,gk x,G⟩).2=0)(hi:0<fB s x)(hA:eG s x={ s with h:=(fG s.h (fB s x:Nat) ⟨eQ x,gk x,G⟩).1,dW:=fh s.dW (fB s x) ⟨κ,eQ x,gk x,false⟩ }):qJ w n c gs g y xv vs (eG s x) fr:=by
 intro R hN
 conv=>arg 2;whnf
 obtain ⟨f,rfl⟩:=hf.lit;rw [hw];rw [hA] at hN;have c0:=(gu hp.fU.blk).1;have zg:=hp.fU.blk.lt;have HN:=dV hN;have hV:gk x=x.value:=by unfold gk;rw [aK hv]
 have hok:gA x.value:=by have:=hp.val;unfold gA at this ⊢;exact this
 rw [hV] at HN ha;have gM:=dV (hp.put (fB s x:Nat) ⟨eQ x,x.value,G⟩ (Jm x) hok);have x0:=hp.act.cell 0 rfl;have x3:=hp.act.cell 3 rfl;rw [hw] at x0;have zx:=hp.act.lt;have HP:=dV hp;obtain ⟨key,hkey⟩:∃ z,z=eQ x:=⟨_,rfl⟩;rw [<-hkey] at HN gM ha ⊢;obtain ⟨r,gH⟩:∃ z,z=fG s.h (fB s x:Nat) ⟨key,x.value,G⟩:=⟨_,rfl⟩;rw [<-gH] at gM HN ha;obtain ⟨w1,hw1⟩:∃ z,z=w.alloc (.cells #[.string key,.string x.value,.bool G] 68):=⟨_,rfl⟩;have dh:Mod dZ w w1:=by rw [hw1];exact (Mod.refl _ w).alloc _
 have hb1:dg w1 w.heap.size [.string key,.string x.value,.bool G] 68:=by rw [hw1];exact dg.new w _ _
 have d0:=dh.cell c0 id;have y0:=dh.cell x0 id;have y3:=dh.cell x3 id;have b1:=hb1.cell 1 rfl;have f1:=hb1.frozen 1;have zb:=hb1.lt;have hsz:decide ((x.value.size:Int) > 9)=false:=aL (by omega);have Hv:¬ (9:Int)<(x.value.size:Int):=by omega
 have XE:¬ 9<x.value.size:=hv;obtain ⟨w2,hw2⟩:∃ z,z=w1:=⟨_,rfl⟩;have hm2:Mod dZ w w2:=by rw [hw2];exact dh
 have hb2:dg w2 w.heap.size [.string key,.string x.value,.bool G] 68:=by rw [hw2];exact hb1
 obtain ⟨i,t,hid,hit⟩:=VT hi;obtain ⟨Mm,fF,hxv⟩:=HP.out.fU.nE hit;subst hxv;have pY:Hid (t.ops.length<=1000):=by have:=HP.out.NC t (aC hit);have:=HP.out.mm;unfold Hid;omega
 have oc:Hid (s.dW.length<=100):=by have:=HP.out.ok.few;unfold Hid;omega
 rw [ha,ou] at gM;rw [hid] at gM HN ⊢;rw [Vl hit] at HN;obtain ⟨id,lL⟩:∃ z:Int,z=((i+1:Nat):Int):=⟨_,rfl⟩;rw [<-lL] at gM ⊢;have hb:decide (id > 0)=true:=aQ (by omega);have vN:0<id:=by omega
 have QO:Hid (id=(i:Int)+1):=by unfold Hid;omega
 have HT:=dV hit;have gE:=dV hm2;have lX:=dV hb2;have v0:=gE.out.cell c0 (fun e=>e);have p0:=hb2.cell 0 rfl;have p1:=hb2.cell 1 rfl;have p2:=hb2.cell 2 rfl;have Qg:=aH zg hm2.size;have Qh:=hb2.lt;clear hN hp hf hA hkey gH hb2 hm2 hb1 dh hV hok lL hi hid hit ha hv;rcases hκ with ⟨rfl,rfl⟩ | ⟨rfl,rfl⟩
 all_goals
  go_upto_region 19 with fail;rw [<-hw1];clear hw1;go_upto_region 21 with fail;rw [<-hw2];clear hw2 c0 x0 x3 d0 y0 y3 b1 f1 zb;refine wp_region_still_tail 6 (by kernel_rfl) (by kernel_rfl) ?_;simp only [aw,bf,bY,cC]
  repeat still_step
  refine wpStill_nil ?_;go_wp2_with fail;refine (gM.out _ gE.out.drew).mono ?_;rintro e w3 ⟨rfl,y1,hs1,hst⟩;have Dy:=dV hs1;have HST:Hid (iG w y w3 y1):=(iG.quiet gE.out.drew).trans hst;have FE:y.own w.heap.size=.no:=by
   by_cases e:y.own w.heap.size=.no
   ·exact e
   ·have:=(HP.out.fU.house.own.lt _ e).2;omega
  have HBP:=dV (hst.blk (lX.out.mod (Mod.refl dZ _).drew (fun e=>e)) FE);have QY:=dV ((HST.out.blk HP.out.act HP.out.xn).cell 0 rfl);rw [hw] at QY;have QE:Hid (∀ u∈vs,u.ownBlock≠some xb):=fun u hu e=>HP.out.xs (.inr (.inr ⟨u,hu,e⟩));have Zk:Hid (∀ u∈vs,u.ownBlock≠some w.heap.size):=fun u hu e=>by have:=(HP.out.fU.cells HP.out.lg (.inr (.inr ⟨u,hu,e⟩))).2.1;omega
  clear hs1 hst FE gM v0 p0 p1 p2;go_upto_region 22 with fail;refine wp_mono (Q:=zS ?R2) (Ex (R:=?R2) n (c+2) gs g Mm fF i id key x.value t y1 vs { s with h:=r.1 } w3 Dy.out HP.out.lg HT.out QO.out oc.out pY.out xb w.heap.size _ QY.out (HBP.out.cell 1 rfl) QE.out Zk.out _ ⟨rfl,rfl,rfl⟩ rfl rfl rfl rfl ?hN) ?hE
  case hE=>
   intro e a' wd hq
   cases e with
   | normal=>exact hq
   | ret=>exact hq.elim
   | exit id=>exact hq.elim
   | goto l=>exact hq.elim
   | panic ch=>exact hq.elim
   | outgrown=>exact hq.elim
  case hN=>
   intro fr' wd hf' hr;exact HN.out fr' wd hf' (eh.after HST.out hr (by omega))
theorem Ep{κ:Int}{G:Bool}(hκ:(κ=2/\G=false)\/(κ=3/\G=true))(hp:iV w n c m gs g y xv vs s xb x)(fr:Act)(hf:pI fr gs xb (fB s x) (eQ x) x.what)(hw:x.what=κ)(hv:¬ 9<x.value.size)(ha:¬ ((fG s.h (fB s x:Nat) ⟨eQ x,gk x,G⟩).2=0/\0<fB s x))(hA:eG s x={ s with h:=(fG s.h (fB s x:Nat) ⟨eQ x,gk x,G⟩).1 }):qJ w n c gs g y xv vs (eG s x) fr:=by
 intro R hN
 conv=>arg 2;whnf
 obtain ⟨f,rfl⟩:=hf.lit;rw [hw];rw [hA] at hN;have c0:=(gu hp.fU.blk).1;have zg:=hp.fU.blk.lt;have HN:=dV hN;have hV:gk x=x.value:=by unfold gk;rw [aK hv]
 have hok:gA x.value:=by have:=hp.val;unfold gA at this ⊢;exact this
 rw [hV] at HN ha;have gM:=dV (hp.put (fB s x:Nat) ⟨eQ x,x.value,G⟩ (Jm x) hok);have x0:=hp.act.cell 0 rfl;have x3:=hp.act.cell 3 rfl;rw [hw] at x0;have zx:=hp.act.lt;have HP:=dV hp;obtain ⟨key,hkey⟩:∃ z,z=eQ x:=⟨_,rfl⟩;rw [<-hkey] at HN gM ha ⊢;obtain ⟨r,gH⟩:∃ z,z=fG s.h (fB s x:Nat) ⟨key,x.value,G⟩:=⟨_,rfl⟩;rw [<-gH] at gM HN ha;obtain ⟨w1,hw1⟩:∃ z,z=w.alloc (.cells #[.string key,.string x.value,.bool G] 68):=⟨_,rfl⟩;have dh:Mod dZ w w1:=by rw [hw1];exact (Mod.refl _ w).alloc _
 have hb1:dg w1 w.heap.size [.string key,.string x.value,.bool G] 68:=by rw [hw1];exact dg.new w _ _
 have d0:=dh.cell c0 id;have y0:=dh.cell x0 id;have y3:=dh.cell x3 id;have b1:=hb1.cell 1 rfl;have f1:=hb1.frozen 1;have zb:=hb1.lt;have hsz:decide ((x.value.size:Int) > 9)=false:=aL (by omega);have Hv:¬ (9:Int)<(x.value.size:Int):=by omega
 have XE:¬ 9<x.value.size:=hv;obtain ⟨w2,hw2⟩:∃ z,z=w1:=⟨_,rfl⟩;have hm2:Mod dZ w w2:=by rw [hw2];exact dh
 have hb2:dg w2 w.heap.size [.string key,.string x.value,.bool G] 68:=by rw [hw2];exact hb1
 obtain ⟨id,lL⟩:∃ z:Int,z=((fB s x:Nat):Int):=⟨_,rfl⟩;rw [<-lL] at gM ⊢;have nP:(r.2=0/\id=0)\/r.2≠0:=by
  by_cases e:r.2=0
  ·exact .inl ⟨e,by have:¬ 0<fB s x:=fun q=>ha ⟨e,q⟩;omega⟩
  ·exact .inr e
 have gE:=dV hm2;have lX:=dV hb2;have v0:=gE.out.cell c0 (fun e=>e);have p0:=hb2.cell 0 rfl;have p1:=hb2.cell 1 rfl;have p2:=hb2.cell 2 rfl;have Qg:=aH zg hm2.size;have Qh:=hb2.lt;clear hN hp hf hA hkey gH hb2 hm2 hb1 dh hV hok lL  ha hv;rcases hκ with ⟨rfl,rfl⟩ | ⟨rfl,rfl⟩
 all_goals
  go_upto_region 19 with fail;rw [<-hw1];clear hw1;go_upto_region 21 with fail;rw [<-hw2];clear hw2 c0 x0 x3 d0 y0 y3 b1 f1 zb;refine wp_region_still_tail 6 (by kernel_rfl) (by kernel_rfl) ?_;simp only [aw,bf,bY,cC]
  repeat still_step
  refine wpStill_nil ?_;rcases nP with ⟨e1,e2⟩ | e1
  ·rw [e1,ou] at gM;have Ob:decide (id > 0)=false:=aL (by omega);have Xo:¬ 0<id:=by omega
   clear e1 e2;go_wp2_with fail;refine (gM.out _ gE.out.drew).mono ?_;rintro e w3 ⟨rfl,y1,hs1,hst⟩;have HR:=dV (eh.only (d:=c+2) ((iG.quiet gE.out.drew).trans hst) hs1 (by omega));clear hs1 hst gM v0 p0 p1 p2;go_wp2_with fail;show R _ _;exact HN.out _ _ ⟨rfl,rfl,rfl⟩ HR.out
  ·rw [mS e1] at gM;clear e1;go_wp2_with fail;refine (gM.out _ gE.out.drew).mono ?_;rintro e w3 ⟨rfl,y1,hs1,hst⟩;have HR:=dV (eh.only (d:=c+2) ((iG.quiet gE.out.drew).trans hst) hs1 (by omega));clear hs1 hst gM v0 p0 p1 p2;go_wp2_with fail;show R _ _;exact HN.out _ _ ⟨rfl,rfl,rfl⟩ HR.out
theorem Et{κ:Int}{G:Bool}(hκ:(κ=2/\G=false)\/(κ=3/\G=true))(hp:iV w n c m gs g y xv vs s xb x)(fr:Act)(hf:pI fr gs xb (fB s x) (eQ x) x.what)(hw:x.what=κ)(hv:9<x.value.size)(ha:(fG s.h (fB s x:Nat) ⟨eQ x,gk x,G⟩).2=0)(hi:0<fB s x)(hA:eG s x={ s with h:=(fG s.h (fB s x:Nat) ⟨eQ x,gk x,G⟩).1,dW:=fh s.dW (fB s x) ⟨κ,eQ x,gk x,false⟩ }):qJ w n c gs g y xv vs (eG s x) fr:=by
 intro R hN
 conv=>arg 2;whnf
 obtain ⟨f,rfl⟩:=hf.lit;rw [hw];rw [hA] at hN;have c0:=(gu hp.fU.blk).1;have zg:=hp.fU.blk.lt;have HN:=dV hN;have hV:gk x=(x.value.extract 0 9):=by unfold gk;rw [aP hv]
 have hok:gA (x.value.extract 0 9):=by have:=hp.val;unfold gA at this ⊢;rw [ByteArray.size_extract];omega
 rw [hV] at HN ha;have gM:=dV (hp.put (fB s x:Nat) ⟨eQ x,(x.value.extract 0 9),G⟩ (Jm x) hok);have x0:=hp.act.cell 0 rfl;have x3:=hp.act.cell 3 rfl;rw [hw] at x0;have zx:=hp.act.lt;have HP:=dV hp;obtain ⟨key,hkey⟩:∃ z,z=eQ x:=⟨_,rfl⟩;rw [<-hkey] at HN gM ha ⊢;obtain ⟨r,gH⟩:∃ z,z=fG s.h (fB s x:Nat) ⟨key,(x.value.extract 0 9),G⟩:=⟨_,rfl⟩;rw [<-gH] at gM HN ha;obtain ⟨w1,hw1⟩:∃ z,z=w.alloc (.cells #[.string key,.string x.value,.bool G] 68):=⟨_,rfl⟩;have dh:Mod dZ w w1:=by rw [hw1];exact (Mod.refl _ w).alloc _
 have hb1:dg w1 w.heap.size [.string key,.string x.value,.bool G] 68:=by rw [hw1];exact dg.new w _ _
 have d0:=dh.cell c0 id;have y0:=dh.cell x0 id;have y3:=dh.cell x3 id;have b1:=hb1.cell 1 rfl;have f1:=hb1.frozen 1;have zb:=hb1.lt;have hsz:decide ((x.value.size:Int) > 9)=true:=aQ (by omega);have Nf:9<=x.value.size:=by omega
 have Hv:(9:Int)<=(x.value.size:Int):=by omega
 obtain ⟨w2,hw2⟩:∃ z,z=w1.setCell ⟨w.heap.size,1,none⟩ (.string (x.value.extract 0 9)):=⟨_,rfl⟩;have hm2:Mod dZ w w2:=by rw [hw2];exact dh.setCell (fun e=>absurd e (cX _)) _
 have hb2:dg w2 w.heap.size [.string key,.string (x.value.extract 0 9),.bool G] 68:=by rw [hw2];exact hb1.set 1 _
 obtain ⟨i,t,hid,hit⟩:=VT hi;obtain ⟨Mm,fF,hxv⟩:=HP.out.fU.nE hit;subst hxv;have pY:Hid (t.ops.length<=1000):=by have:=HP.out.NC t (aC hit);have:=HP.out.mm;unfold Hid;omega
 have oc:Hid (s.dW.length<=100):=by have:=HP.out.ok.few;unfold Hid;omega
 rw [ha,ou] at gM;rw [hid] at gM HN ⊢;rw [Vl hit] at HN;obtain ⟨id,lL⟩:∃ z:Int,z=((i+1:Nat):Int):=⟨_,rfl⟩;rw [<-lL] at gM ⊢;have hb:decide (id > 0)=true:=aQ (by omega);have vN:0<id:=by omega
 have QO:Hid (id=(i:Int)+1):=by unfold Hid;omega
 have HT:=dV hit;have gE:=dV hm2;have lX:=dV hb2;have v0:=gE.out.cell c0 (fun e=>e);have p0:=hb2.cell 0 rfl;have p1:=hb2.cell 1 rfl;have p2:=hb2.cell 2 rfl;have Qg:=aH zg hm2.size;have Qh:=hb2.lt;clear hN hp hf hA hkey gH hb2 hm2 hb1 dh hV hok lL hi hid hit ha hv;rcases hκ with ⟨rfl,rfl⟩ | ⟨rfl,rfl⟩
 all_goals
  go_upto_region 19 with fail;rw [<-hw1];clear hw1;go_upto_region 21 with fail;rw [<-hw2];clear hw2 c0 x0 x3 d0 y0 y3 b1 f1 zb;refine wp_region_still_tail 6 (by kernel_rfl) (by kernel_rfl) ?_;simp only [aw,bf,bY,cC]
  repeat still_step
  refine wpStill_nil ?_;go_wp2_with fail;refine (gM.out _ gE.out.drew).mono ?_;rintro e w3 ⟨rfl,y1,hs1,hst⟩;have Dy:=dV hs1;have HST:Hid (iG w y w3 y1):=(iG.quiet gE.out.drew).trans hst;have FE:y.own w.heap.size=.no:=by
   by_cases e:y.own w.heap.size=.no
   ·exact e
   ·have:=(HP.out.fU.house.own.lt _ e).2;omega
  have HBP:=dV (hst.blk (lX.out.mod (Mod.refl dZ _).drew (fun e=>e)) FE);have QY:=dV ((HST.out.blk HP.out.act HP.out.xn).cell 0 rfl);rw [hw] at QY;have QE:Hid (∀ u∈vs,u.ownBlock≠some xb):=fun u hu e=>HP.out.xs (.inr (.inr ⟨u,hu,e⟩));have Zk:Hid (∀ u∈vs,u.ownBlock≠some w.heap.size):=fun u hu e=>by have:=(HP.out.fU.cells HP.out.lg (.inr (.inr ⟨u,hu,e⟩))).2.1;omega
  clear hs1 hst FE gM v0 p0 p1 p2;go_upto_region 22 with fail;refine wp_mono (Q:=zS ?R2) (Ex (R:=?R2) n (c+2) gs g Mm fF i id key (x.value.extract 0 9) t y1 vs { s with h:=r.1 } w3 Dy.out HP.out.lg HT.out QO.out oc.out pY.out xb w.heap.size _ QY.out (HBP.out.cell 1 rfl) QE.out Zk.out _ ⟨rfl,rfl,rfl⟩ rfl rfl rfl rfl ?hN) ?hE
  case hE=>
   intro e a' wd hq
   cases e with
   | normal=>exact hq
   | ret=>exact hq.elim
   | exit id=>exact hq.elim
   | goto l=>exact hq.elim
   | panic ch=>exact hq.elim
   | outgrown=>exact hq.elim
  case hN=>
   intro fr' wd hf' hr;exact HN.out fr' wd hf' (eh.after HST.out hr (by omega))
theorem Es{κ:Int}{G:Bool}(hκ:(κ=2/\G=false)\/(κ=3/\G=true))(hp:iV w n c m gs g y xv vs s xb x)(fr:Act)(hf:pI fr gs xb (fB s x) (eQ x) x.what)(hw:x.what=κ)(hv:9<x.value.size)(ha:¬ ((fG s.h (fB s x:Nat) ⟨eQ x,gk x,G⟩).2=0/\0<fB s x))(hA:eG s x={ s with h:=(fG s.h (fB s x:Nat) ⟨eQ x,gk x,G⟩).1 }):qJ w n c gs g y xv vs (eG s x) fr:=by
 intro R hN
 conv=>arg 2;whnf
 obtain ⟨f,rfl⟩:=hf.lit;rw [hw];rw [hA] at hN;have c0:=(gu hp.fU.blk).1;have zg:=hp.fU.blk.lt;have HN:=dV hN;have hV:gk x=(x.value.extract 0 9):=by unfold gk;rw [aP hv]
 have hok:gA (x.value.extract 0 9):=by have:=hp.val;unfold gA at this ⊢;rw [ByteArray.size_extract];omega
 rw [hV] at HN ha;have gM:=dV (hp.put (fB s x:Nat) ⟨eQ x,(x.value.extract 0 9),G⟩ (Jm x) hok);have x0:=hp.act.cell 0 rfl;have x3:=hp.act.cell 3 rfl;rw [hw] at x0;have zx:=hp.act.lt;have HP:=dV hp;obtain ⟨key,hkey⟩:∃ z,z=eQ x:=⟨_,rfl⟩;rw [<-hkey] at HN gM ha ⊢;obtain ⟨r,gH⟩:∃ z,z=fG s.h (fB s x:Nat) ⟨key,(x.value.extract 0 9),G⟩:=⟨_,rfl⟩;rw [<-gH] at gM HN ha;obtain ⟨w1,hw1⟩:∃ z,z=w.alloc (.cells #[.string key,.string x.value,.bool G] 68):=⟨_,rfl⟩;have dh:Mod dZ w w1:=by rw [hw1];exact (Mod.refl _ w).alloc _
 have hb1:dg w1 w.heap.size [.string key,.string x.value,.bool G] 68:=by rw [hw1];exact dg.new w _ _
 have d0:=dh.cell c0 id;have y0:=dh.cell x0 id;have y3:=dh.cell x3 id;have b1:=hb1.cell 1 rfl;have f1:=hb1.frozen 1;have zb:=hb1.lt;have hsz:decide ((x.value.size:Int) > 9)=true:=aQ (by omega);have Nf:9<=x.value.size:=by omega
 have Hv:(9:Int)<=(x.value.size:Int):=by omega
 obtain ⟨w2,hw2⟩:∃ z,z=w1.setCell ⟨w.heap.size,1,none⟩ (.string (x.value.extract 0 9)):=⟨_,rfl⟩;have hm2:Mod dZ w w2:=by rw [hw2];exact dh.setCell (fun e=>absurd e (cX _)) _
 have hb2:dg w2 w.heap.size [.string key,.string (x.value.extract 0 9),.bool G] 68:=by rw [hw2];exact hb1.set 1 _
 obtain ⟨id,lL⟩:∃ z:Int,z=((fB s x:Nat):Int):=⟨_,rfl⟩;rw [<-lL] at gM ⊢;have nP:(r.2=0/\id=0)\/r.2≠0:=by
  by_cases e:r.2=0
  ·exact .inl ⟨e,by have:¬ 0<fB s x:=fun q=>ha ⟨e,q⟩;omega⟩
  ·exact .inr e
 have gE:=dV hm2;have lX:=dV hb2;have v0:=gE.out.cell c0 (fun e=>e);have p0:=hb2.cell 0 rfl;have p1:=hb2.cell 1 rfl;have p2:=hb2.cell 2 rfl;have Qg:=aH zg hm2.size;have Qh:=hb2.lt;clear hN hp hf hA hkey gH hb2 hm2 hb1 dh hV hok lL  ha hv;rcases hκ with ⟨rfl,rfl⟩ | ⟨rfl,rfl⟩
 all_goals
  go_upto_region 19 with fail;rw [<-hw1];clear hw1;go_upto_region 21 with fail;rw [<-hw2];clear hw2 c0 x0 x3 d0 y0 y3 b1 f1 zb;refine wp_region_still_tail 6 (by kernel_rfl) (by kernel_rfl) ?_;simp only [aw,bf,bY,cC]
  repeat still_step
  refine wpStill_nil ?_;rcases nP with ⟨e1,e2⟩ | e1
  ·rw [e1,ou] at gM;have Ob:decide (id > 0)=false:=aL (by omega);have Xo:¬ 0<id:=by omega
   clear e1 e2;go_wp2_with fail;refine (gM.out _ gE.out.drew).mono ?_;rintro e w3 ⟨rfl,y1,hs1,hst⟩;have HR:=dV (eh.only (d:=c+2) ((iG.quiet gE.out.drew).trans hst) hs1 (by omega));clear hs1 hst gM v0 p0 p1 p2;go_wp2_with fail;show R _ _;exact HN.out _ _ ⟨rfl,rfl,rfl⟩ HR.out
  ·rw [mS e1] at gM;clear e1;go_wp2_with fail;refine (gM.out _ gE.out.drew).mono ?_;rintro e w3 ⟨rfl,y1,hs1,hst⟩;have HR:=dV (eh.only (d:=c+2) ((iG.quiet gE.out.drew).trans hst) hs1 (by omega));clear hs1 hst gM v0 p0 p1 p2;go_wp2_with fail;show R _ _;exact HN.out _ _ ⟨rfl,rfl,rfl⟩ HR.out
end
section
variable {w:World} {n c m gs g:Nat} {y:dY} {xv:Value} {vs:List Value} {s:eC} {xb:Nat} {x:ActD}
theorem Gk(hp:iV w n c m gs g y xv vs s xb x)(fr:Act)(hf:pI fr gs xb (fB s x) (eQ x) x.what):qJ w n c gs g y xv vs (eG s x) fr:=by
 by_cases h0:x.what=0
 ·by_cases ha:s.dW.length<7
  ·exact WJ hp fr hf h0 ha
  ·exact WI hp fr hf h0 ha
 by_cases h1:x.what=1
 ·by_cases ha:(fH s.h (fB s x:Nat) (eQ x)).2.2.2=0/\0<fB s x
  ·exact WD hp fr hf h1 ha.1 ha.2
  ·exact WC hp fr hf h1 ha
 by_cases h2:x.what=2
 ·by_cases hv:9<x.value.size
  ·by_cases ha:(fG s.h (fB s x:Nat) ⟨eQ x,gk x,false⟩).2=0/\0<fB s x
   ·exact Et (.inl ⟨rfl,rfl⟩) hp fr hf h2 hv ha.1 ha.2 (by unfold eG;simp [h2,ha.1,ha.2])
   ·exact Es (.inl ⟨rfl,rfl⟩) hp fr hf h2 hv ha (by unfold eG;simp [h2,ha])
  ·by_cases ha:(fG s.h (fB s x:Nat) ⟨eQ x,gk x,false⟩).2=0/\0<fB s x
   ·exact Er (.inl ⟨rfl,rfl⟩) hp fr hf h2 hv ha.1 ha.2 (by unfold eG;simp [h2,ha.1,ha.2])
   ·exact Ep (.inl ⟨rfl,rfl⟩) hp fr hf h2 hv ha (by unfold eG;simp [h2,ha])
 by_cases h3:x.what=3
 ·by_cases hv:9<x.value.size
  ·by_cases ha:(fG s.h (fB s x:Nat) ⟨eQ x,gk x,true⟩).2=0/\0<fB s x
   ·exact Et (.inr ⟨rfl,rfl⟩) hp fr hf h3 hv ha.1 ha.2 (by unfold eG;simp [h3,ha.1,ha.2])
   ·exact Es (.inr ⟨rfl,rfl⟩) hp fr hf h3 hv ha (by unfold eG;simp [h3,ha])
  ·by_cases ha:(fG s.h (fB s x:Nat) ⟨eQ x,gk x,true⟩).2=0/\0<fB s x
   ·exact Er (.inr ⟨rfl,rfl⟩) hp fr hf h3 hv ha.1 ha.2 (by unfold eG;simp [h3,ha.1,ha.2])
   ·exact Ep (.inr ⟨rfl,rfl⟩) hp fr hf h3 hv ha (by unfold eG;simp [h3,ha])
 by_cases h4:x.what=4
 ·exact sw4 hp fr hf h4
 by_cases h5:x.what=5
 ·by_cases ha:x.a.tmod 4=0
  ·exact WB hp fr hf h5 ha
  ·exact WA hp fr hf h5 ha
 by_cases h6:x.what=6
 ·by_cases ha:0<s.h.net.way.length
  ·exact Vz hp fr hf h6 ha
  ·exact Vy hp fr hf h6 ha
 by_cases h7:x.what=7
 ·by_cases ha:0<s.h.net.way.length
  ·exact Vx hp fr hf h7 ha
  ·exact Vw hp fr hf h7 ha
 by_cases h8:x.what=8
 ·by_cases ha:0<s.h.net.way.length
  ·exact Vv hp fr hf h8 ha
  ·exact Vu hp fr hf h8 ha
 by_cases h9:x.what=9
 ·exact sw9 hp fr hf h9
 by_cases h10:x.what=10
 ·exact WH hp fr hf h10
 by_cases h11:x.what=11
 ·exact WG hp fr hf h11
 by_cases h12:x.what=12
 ·exact WE hp fr hf h12
 exact swN hp fr hf (fun k hk e=>by
  have:x.what=(k:Int):=e;omega)
end
def jY(s:eC)(j:Nat):eC:={ s with dW:=s.dW.mapIdx fun i t=>if i<j/\t.fI<0/\jU s.h ((i:Int)+1)=3 then ⟨t.ops,t.eF,s.now⟩ else t }
theorem yMk(s:eC):jY s 0=s:=by
 have:(s.dW.mapIdx fun i t=>if i<0/\t.fI<0/\jU s.h ((i:Int)+1)=3 then (⟨t.ops,t.eF,s.now⟩:eM) else t)=s.dW:=by
  refine bI fun i=>?_;rw [bM]
  cases s.dW[i]? with
  | none=>rfl
  | some t=>simp
 unfold jY;rw [this]
theorem yQx(s:eC):jY s s.dW.length=mc s:=by
 have:(s.dW.mapIdx fun i t=>if i<s.dW.length/\t.fI<0/\jU s.h ((i:Int)+1)=3 then (⟨t.ops,t.eF,s.now⟩:eM) else t)=s.dW.mapIdx fun i t=>if t.fI<0/\jU s.h ((i:Int)+1)=3 then ⟨t.ops,t.eF,s.now⟩ else t:=by
  refine bI fun i=>?_;rw [bM,bM]
  cases hi:s.dW[i]? with
  | none=>rfl
  | some t=>
   have:=(aB.1 hi).1;simp [this]
 unfold jY mc;rw [this]
theorem Jt(s:eC)(j:Nat):(jY s j).dW.length=s.dW.length:=by simp [jY]
theorem yUl{s:eC}{j:Nat}{t:eM}(h:s.dW[j]?=some t):(jY s j).dW[j]?=some t:=by
 simp [jY,List.getElem?_mapIdx,h]
theorem yQw{s:eC}{j:Nat}{t:eM}(h:s.dW[j]?=some t)(h1:t.fI<0)(h2:jU s.h ((j:Int)+1)=3):jY s (j+1)={ jY s j with dW:=(jY s j).dW.set j ⟨t.ops,t.eF,s.now⟩ }:=by
 have:(s.dW.mapIdx fun i t=>if i<j+1/\t.fI<0/\jU s.h ((i:Int)+1)=3 then (⟨t.ops,t.eF,s.now⟩:eM) else t)=(jY s j).dW.set j ⟨t.ops,t.eF,s.now⟩:=by
  refine bI fun i=>?_;rw [bq,Jt,bM];have hjl:=(aB.1 h).1;by_cases e:j=i
  ·subst e;rw [aP rfl,aP hjl,h,bK,aP ⟨by omega,h1,h2⟩]
  ·rw [aK e];simp only [jY,bM]
   cases s.dW[i]? with
   | none=>rfl
   | some u=>
    simp only [bK];congr 1;by_cases q:i<j
    ·have:i<j+1:=by omega
     simp [q,this]
    ·have:¬ i<j+1:=by omega
     simp [q,this]
 show eC.mk _ _ _ _ _=eC.mk _ _ _ _ _;rw [this];rfl
theorem yMl{s:eC}{j:Nat}{t:eM}(h:s.dW[j]?=some t)(h1:¬ (t.fI<0/\jU s.h ((j:Int)+1)=3)):jY s (j+1)=jY s j:=by
 have:(s.dW.mapIdx fun i t=>if i<j+1/\t.fI<0/\jU s.h ((i:Int)+1)=3 then (⟨t.ops,t.eF,s.now⟩:eM) else t)=(jY s j).dW:=by
  refine bI fun i=>?_;simp only [jY,bM];by_cases e:j=i
  ·subst e;simp only [h,bK];congr 1;rw [aK (fun q=>h1 q.2),aK (fun q=>by omega)]
  ·cases s.dW[i]? with
   | none=>rfl
   | some u=>
    simp only [bK];congr 1;by_cases q:i<j
    ·have:i<j+1:=by omega
     simp [q,this]
    ·have:¬ i<j+1:=by omega
     simp [q,this]
 show eC.mk _ _ _ _ _=eC.mk _ _ _ _ _;rw [this];rfl
theorem eZ.Cu{w:World}{n c gs g xb cap:Nat}{y:dY}{vs:List Value}{s:eC}(h:eZ w n c gs g y (.slice (some ⟨xb,0,none⟩) s.dW.length cap) vs s)(kr:n<=gs){i:Nat}{t:eM}(hi:s.dW[i]?=some t)(u:Int) :
  eh w n c gs g y (.slice (some ⟨xb,0,none⟩) s.dW.length cap) vs { s with dW:=s.dW.set i ⟨t.ops,t.eF,u⟩ } (w.setCell ⟨xb,i*3+2,none⟩ (.int .i64 u)):=
 ⟨y,_,vs,h.ux kr hi u,⟨(Mod.dt xb _ _).mono (fun k _ e=>.inr (.inr (.inl (ai some (Eq.symm e))))),fun _ _=>rfl,fun _ _ e=>e⟩⟩
theorem eh.quiet{w w1 w2:World}{n c gs g:Nat}{y:dY}{xv:Value}{vs:List Value}{s':eC}(h:eh w n c gs g y xv vs s' w1)(hm:Mod dZ w1 w2):eh w n c gs g y xv vs s' w2:=by
 obtain ⟨y',Ej,vs',h1,h2⟩:=h;exact ⟨y',Ej,vs',h1.quiet hm,h2.trans (jm.quiet hm)⟩
theorem eh.step{w w1 w2:World}{n c gs g:Nat}{y y1:dY}{xv Co:Value}{vs vs1:List Value}{s':eC}(h:jm gs w y xv vs w1 y1 Co vs1)(k:eh w1 n c gs g y1 Co vs1 s' w2):eh w n c gs g y xv vs s' w2:=by
 obtain ⟨y',Ej,vs',h1,h2⟩:=k;exact ⟨y',Ej,vs',h1,h.trans h2⟩
def NMo(w:World)(n:Nat):Prop:=∃ nb no cap,0<n/\nb<n/\w.cell? ⟨0,0,none⟩=some (.slice (some ⟨nb,no,none⟩) 4 cap)/\∀ i,i<4->w.cell? ⟨nb,no+i,none⟩=some (.string (nameK i))
theorem NMo.mod{w w':World}{n:Nat}{G:Nat->Prop}(h:NMo w n)(hm:Mod G w w')(hG:∀ k,k<n->¬ G k):NMo w' n:=by
 obtain ⟨nb,no,cap,h0,h1,h2,h3⟩:=h;exact ⟨nb,no,cap,h0,h1,hm.cell h2 (hG 0 h0),fun i hi=>hm.cell (h3 i hi) (hG nb h1)⟩
structure JM(w:World)(n c m gs g:Nat)(y:dY)(xv:Value)(vs:List Value)(s:eC):Prop where
 fU:eZ w n c gs g y xv vs s
 ok:se m s
 nm:NMo w n
 et:ET w
 n1:1<n
 cc:c<=8000
 mm:m<=125
 lg:n<=gs
 now:0<=s.now/\s.now<=999
 NC:∀ t∈s.dW,t.ops.length<=m
theorem yQv(n c m gs g:Nat)(y:dY)(xv:Value)(vs:List Value)(s:eC)(w:World)(h:eZ w n c gs g y xv vs s)(kr:n<=gs)(hl:s.dW.length<=7)(hh:s.h.dW.length<=60)(fr:Act)(hf:iz fr gs)(Yw:fr.tmps[14]?=some (.int .i64 0)){R:Act->World->Prop}
  (hN:∀ fr' wd,iz fr' gs->eh w n c gs g y xv vs (mc s) wd->R fr' wd) :
  Code.wp Tryz.prog ((Tryz.f10.body.bind (Cj 2)).getD .skip) (zS R) fr w:=by
 conv=>arg 2;whnf
 obtain ⟨f,gI⟩:=hf.lit;have PR:f 14=.int .i64 0:=by rw [gI] at Yw;exact ax Yw
 rw [PR] at gI;subst gI;have HN:=dV hN;have HH:Hid (eh w n c gs g y xv vs (jY s 0) w):=by unfold Hid;rw [yMk];exact ⟨y,xv,vs,h,jm.quiet (Mod.refl _ _)⟩
 clear h hf Yw PR hN;go_wp2_with fail;go_loopw [14] (fun j0 wr=>∃ j:Nat,j<=s.dW.length/\j0=.int .i64 j/\eh w n c gs g y xv vs (jY s j) wr) (fun j0 _=>s.dW.length - (intOf j0).toNat)
 case atStart=>exact ⟨0,aT _,rfl,HH.out⟩
 case round=>
  obtain ⟨j,hjl,rfl,hR⟩:=hrel;clear HH;obtain ⟨y1,Co,vs1,hP,hM⟩:=hR;obtain ⟨xa,fF,hxv⟩:=eu hP.row.2;rw [Jt] at hxv;subst hxv;obtain ⟨c0,c1,c2,-,-⟩:=gu hP.blk;have zg:=hP.blk.lt;dsimp only [jY] at c2;have sQ:Hid (∀ id,Calls Tryz.prog 11 #[.pointer (some ⟨g,0,none⟩),.int .i64 id] wr fun e w'=>e=.returned (.int .i64 (jU s.h id))/\w'=wr):=fun id=>KB n c g y1 s.h id wr hP.house hh;by_cases pF:j<s.dW.length
  ·obtain ⟨t,ht⟩:∃ t,s.dW[j]?=some t:=⟨_,aA pF⟩;have SH:=yUl ht;obtain ⟨xb,cap',hx⟩:=hP.nE SH;rw [Jt] at hx;simp only [Value.slice.injEq] at hx;obtain ⟨rfl,-,rfl⟩:=hx;obtain ⟨u,hu⟩:∃ u,vs1[j]?=some u:=⟨_,aA (by rw [hP.row.1,Jt];exact pF)⟩;have hrow:=hP.row.2;rw [Jt] at hrow;have ct:wr.cell? ⟨xb,j*3+2,none⟩=some (.int .i64 t.fI):=by
    have:=hrow.cells (g:=xb) rfl _ _ (Ec _ vs1 j t u hP.row.1 SH hu 2 _ rfl);rw [Go.WideShapes.add_plain,aX] at this;exact this
   have hx:(Value.slice (some ⟨xb,0,none⟩) s.dW.length fF).ownBlock=some xb:=rfl;obtain ⟨_,zx,cur',hc'⟩:=fW hrow hx;have fx:wr.frozen? ⟨xb,j*3+2,none⟩=false:=by simp [World.frozen?,hc']
   have IW:(j:Int)<(s.dW.length:Int):=by omega
   have Kl:(0:Int)<=(j:Int):=by omega
   have ew:wrap64 ((j:Int)+1)=(j:Int)+1:=IntWalk.wrap64_in _ ⟨by omega,by omega⟩;have HP:=dV hP;have HM:=dV hM;have HT:=dV ht;have Sp:=dV SH;clear hP hM ht SH hu hrow hx hc';by_cases h1:t.fI<0
   ·have hb1:decide (t.fI<0)=true:=aQ h1;by_cases h2:jU s.h ((j:Int)+1)=3
    ·have HQ:Hid (eh w n c gs g y xv vs (jY s (j+1)) (wr.setCell ⟨xb,j*3+2,none⟩ (.int .i64 s.now))):=by
      unfold Hid;rw [yQw HT.out h1 h2];refine eh.step HM.out ?_;have hp:=HP.out;have e:=Jt s j;rw [<-e] at hp ⊢;exact hp.Cu kr Sp.out s.now
     have hb2:(jU s.h ((j:Int)+1) == 3)=true:=by simpa using h2
     clear h1 h2 HT Sp HP HM;go_wp2_with (first | (go_at_call 11;refine (sQ.out _).mono ?_;rintro e w' ⟨rfl,rfl⟩) | fail);refine wp_region_still_tail 11 (by kernel_rfl) (by kernel_rfl) ?_;simp only [aw,bf,bY,cC]
     repeat still_step
     refine wpStill_nil ?_;go_wp2_with fail;go_roundw
     case rel=>exact ⟨j+1,by omega,by first | rfl | go_num,HQ.out.quiet ((Mod.refl _ _).drew)⟩
     case measure=>simp [intOf];omega
    ·have HQ:Hid (eh w n c gs g y xv vs (jY s (j+1)) wr):=by
      unfold Hid;rw [yMl HT.out (fun q=>h2 q.2)];exact ⟨y1,_,vs1,HP.out,HM.out⟩
     have hb2:(jU s.h ((j:Int)+1) == 3)=false:=by simpa using h2
     clear h1 h2 HT Sp HP HM;go_wp2_with (first | (go_at_call 11;refine (sQ.out _).mono ?_;rintro e w' ⟨rfl,rfl⟩) | fail);go_roundw
     case rel=>exact ⟨j+1,by omega,by first | rfl | go_num,HQ.out⟩
     case measure=>simp [intOf];omega
   ·have hb1:decide (t.fI<0)=false:=aL h1;have HQ:Hid (eh w n c gs g y xv vs (jY s (j+1)) wr):=by
     unfold Hid;rw [yMl HT.out (fun q=>h1 q.1)];exact ⟨y1,_,vs1,HP.out,HM.out⟩
    clear h1 HT Sp HP HM;go_wp2_with fail;go_roundw
    case rel=>exact ⟨j+1,by omega,by first | rfl | go_num,HQ.out⟩
    case measure=>simp [intOf];omega
  ·obtain rfl:j=s.dW.length:=by omega
   have HQ:Hid (eh w n c gs g y xv vs (mc s) wr):=by unfold Hid;rw [<-yQx];exact ⟨y1,_,vs1,hP,hM⟩
   clear hP hM sQ;go_wp2_with fail;show R _ _;exact HN.out _ _ ⟨rfl,rfl,rfl⟩ HQ.out
def Fk(x:ActD)(s2:eC):Prop:=(∃ pt:Nat,(decide ((s2.dW.length:Int) > 0)=true/\0<s2.dW.length/\decide (0<s2.dW.length)=true)/\(∀ wq,Calls Tryz.prog 18 #[.int .i64 x.tx,.int .i64 s2.dW.length] wq fun e w'=>e=.returned (.int .i64 pt)/\w'=wq)/\wrap64 (1+(pt:Int))=1+(pt:Int)/\IntKind.i64.wrap (1+(pt:Int))=1+(pt:Int)/\Value.int .i64 (fB s2 x:Nat)=.int .i64 (1+(pt:Int))) \/
  (decide ((s2.dW.length:Int) > 0)=false/\s2.dW=[]/\¬ (0:Int)<(s2.dW.length:Int)/\Value.int .i64 (fB s2 x:Nat)=.int .i64 0)
theorem yJs(x:ActD)(s2:eC)(fR:s2.dW.length<=7):Fk x s2:=by
 by_cases ht:0<s2.dW.length
 ·have hpl:=EN x.tx s2.dW.length ht;refine .inl ⟨kJ x.tx s2.dW.length,⟨aQ (by omega),ht,aQ ht⟩,fun wq=>ER x.tx s2.dW.length wq ht (by omega),IntWalk.wrap64_in _ ⟨by omega,by omega⟩,IntWalk.i64_in _ ⟨by omega,by omega⟩,?_⟩;unfold fB;rw [aP ht];exact ai (Value.int .i64) (by omega)
 ·refine .inr ⟨aL (by omega),aR (by omega),by omega,?_⟩;unfold fB;rw [aK ht];rfl
theorem yNl(n c m gs g:Nat)(y:dY)(xv:Value)(vs:List Value)(s:eC)(x:ActD)(w:World)(h:JM w n c m gs g y xv vs s)(hv:gA x.value) :
  Calls Tryz.prog 10 #[.pointer (some ⟨gs,0,none⟩),.agg #[.int .i64 x.what,.int .i64 x.tx,.int .i64 x.a,.string x.value]] w fun e w'=>e=.returned (.tuple #[])/\eh w n (c+2) gs g y xv vs (uZ s x) w':=by
 obtain ⟨w1,hw1⟩:∃ z,z=w.alloc (.cells #[.int .i64 x.what,.int .i64 x.tx,.int .i64 x.a,.string x.value] 34):=⟨_,rfl⟩;have dh:Mod dZ w w1:=by rw [hw1];exact (Mod.refl _ w).alloc _
 have hb1:dg w1 w.heap.size [.int .i64 x.what,.int .i64 x.tx,.int .i64 x.a,.string x.value] 34:=by rw [hw1];exact dg.new w _ _
 have hs1:=h.fU.quiet dh;obtain ⟨c0,c1,c2,c3,c4⟩:=gu hs1.blk;have f2:=hs1.blk.frozen 2;have zg:=hs1.blk.lt;have nL:=h.now;have e1:wrap64 (s.now+1)=s.now+1:=IntWalk.wrap64_in _ ⟨by omega,by omega⟩;obtain ⟨s2,vD⟩:∃ z:eC,z={ s with now:=s.now+1 }:=⟨_,rfl⟩;obtain ⟨w2,hw2⟩:∃ z,z=w1.setCell ⟨gs,2,none⟩ (.int .i64 (s.now+1)):=⟨_,rfl⟩;have hs2:eZ w2 n c gs g y xv vs s2:=by rw [hw2,vD];exact hs1.tick h.lg _
 have lP:jm gs w y xv vs w2 y xv vs:=⟨by rw [hw2];exact (dh.mono (fun _ _ e=>e.elim)).trans ((Mod.dt gs 2 _).mono (fun k _ e=>.inr (.inl e))),fun _ _=>rfl,fun _ _ e=>e⟩;have FE:y.own w.heap.size=.no:=by
  by_cases e:y.own w.heap.size=.no
  ·exact e
  ·have:=(h.fU.house.own.lt _ e).2;omega
 have AP:¬ Bg gs xv vs w.heap.size:=fun e=>by have:=(h.fU.cells h.lg e).2.1;omega
 have nA:w.heap.size≠gs:=fun e=>by have:=h.fU.blk.lt;omega
 have hb2:dg w2 w.heap.size [.int .i64 x.what,.int .i64 x.tx,.int .i64 x.a,.string x.value] 34:=by rw [hw2];exact hb1.mod (Mod.dt gs 2 _) nA
 have kD:∀ k,k<n->¬ (y.own k≠.no\/Bg gs xv vs k):=fun k hk e=>by
  rcases e with e | e
  ·have:=(h.fU.house.own.lt k e).1;omega
  ·have:=(h.fU.cells h.lg e).1;omega
 have hET:ET w2:=lP.md.cell h.et (kD 1 h.n1);have hNM:NMo w2 n:=h.nm.mod lP.md kD;have Pz:Hid (∀ wq,Mod dZ w2 wq->iV wq n c m gs g y xv vs s2 w.heap.size x):=fun wq hq=>⟨hs2.quiet hq,by rw [vD];exact h.ok.clock _,hET.mod hq,h.n1,h.cc,h.mm,h.lg,by rw [vD];exact ⟨by show (0:Int)<=s.now+1;omega,by show s.now+1<=(1000:Int);omega⟩,hb2.mod hq (fun e=>e),FE,AP,hv,by rw [vD];exact h.NC⟩;obtain ⟨nb,no,pr,n0,n1,n2,n3⟩:=hNM;have hka:=EN x.a 4 (by omega);have n4:=n3 (kJ x.a 4) hka;have HKEY:Hid (eQ x=nameK (kJ x.a 4)):=rfl;have JP:Hid (∀ wq,Calls Tryz.prog 18 #[.int .i64 x.a,.int .i64 4] wq fun e w'=>e=.returned (.int .i64 (kJ x.a 4))/\w'=wq):=fun wq=>ER x.a 4 wq (by omega) (by omega);obtain ⟨pk,hpk⟩:∃ z,z=kJ x.a 4:=⟨_,rfl⟩;rw [<-hpk] at hka n4 HKEY JP;have xu:(pk:Int)<4:=by omega
 have qs:(0:Int)<=(pk:Int):=by omega
 obtain ⟨xa,fF,hxv⟩:=eu hs2.row.2;have HXV:=dV hxv;have ZU:Hid (s2={ s with now:=s.now+1 }):=vD;obtain ⟨d0,d1,d2,d3,d4⟩:=gu hs2.blk;rw [hxv] at d1;have Qg:=hs2.blk.lt;have x0:=hb2.cell 0 rfl;have x1:=hb2.cell 1 rfl;have x2:=hb2.cell 2 rfl;have zx:=hb2.lt;have fR:s2.dW.length<=7:=by rw [vD];exact h.ok.few
 have HX:Hid (Fk x s2):=yJs x s2 fR;have gE:=dV lP;have od:=dV h.ok;have sP:=dV h.lg;clear h hs1 hb1 dh hs2 hb2 lP FE AP nA kD hET n3 hxv vD hpk hv;go_enter Tryz.func10,Tryz.ntmps10;go_upto_region 1 with fail;rw [<-hw1];clear hw1;go_upto_region 2 with fail;rw [<-hw2];clear hw2 c0 c1 c2 c3 c4 f2 zg;go_upto_if 27 with fail;go_cut [4] (fun t wc=>t=.int .i64 (fB s2 x:Nat)/\Mod dZ w2 wc)
 case first=>
  rcases HX.out with ⟨pt,⟨hb,hb0,hb1⟩,HP,ew,Sk,he⟩ | ⟨hb,hb4,nR,he⟩
  ·have HP:=dV HP;have HE:=dV he;clear he;go_upto_region 4 with fail;refine wp_region_still_tail 9 (by kernel_rfl) (by kernel_rfl) ?_;simp only [aw,bf,bY,cC]
   repeat still_step
   still_call (HP.out _)
   repeat still_step
   refine wpStill_nil ?_;go_wp2_with fail;go_meet
   case rel=>exact ⟨HE.out.symm,(Mod.refl _ w2).drew⟩
  ·have HE:=dV he;clear he;go_wp2_with fail;go_meet
   case rel=>exact ⟨HE.out.symm,Mod.refl _ w2⟩
 case rest=>
  obtain ⟨rfl,mz⟩:=hcut;have y0:=mz.cell x0 id;have y1:=mz.cell x1 id;have y2:=mz.cell x2 id;have m2:=mz.cell n2 id;have m4:=mz.cell n4 id;have CV:=dV mz;clear x0 x1 x2 d0 d1 d2 d3 d4 mz n2 n4 HX;go_upto_region 5 with fail;refine wp_region_still_tail 8 (by kernel_rfl) (by kernel_rfl) ?_;simp only [aw,bf,bY,cC]
  repeat still_step
  still_call (JP.out _)
  repeat still_step
  refine wpStill_nil ?_;rw [<-HKEY.out];have JQ:=dV (Pz.out _ CV.out.drew);go_upto_block 0 with fail;refine wp_mono (Q:=zS ?R2) (Gk JQ.out _ ⟨⟨rfl,rfl,rfl⟩,rfl,rfl,rfl,rfl⟩ ?R2 ?hN) ?hE
  case hE=>
   intro e a' wd hq
   cases e with
   | normal=>exact hq
   | ret=>exact hq.elim
   | exit id=>exact hq.elim
   | goto l=>exact hq.elim
   | panic ch=>exact hq.elim
   | outgrown=>exact hq.elim
  case hN=>
   intro fr' wd hf' hr;rename_i Kc LD;refine LD _ _ ?_;clear LD;obtain ⟨yA,Co,vs1,wY,nT⟩:=hr;obtain ⟨a1,a2,a3,a4,a5,a6,a7,a8⟩:=Lp (JQ.out.ok) x;have HMX:Hid (jm gs w y xv vs wd yA Co vs1):=(gE.out.trans (jm.quiet CV.out.drew)).trans nT;have Dx:=dV wY;have HFW:=dV a5;have HFH:Hid ((eG s2 x).h.dW.length<=60):=by unfold Hid;omega
   clear a1 a2 a3 a4 a5 a6 a7 a8 wY nT y0 y1 y2 m2 m4 Pz JQ JP;obtain ⟨f,rfl⟩:=hf'.lit;clear hf';go_upto_block 2 with fail;refine wp_mono (Q:=zS ?R3) (yQv n (c+2) m gs g _ Co vs1 _ wd Dx.out sP.out HFW.out HFH.out _ ⟨rfl,rfl,rfl⟩ rfl (R:=?R3) ?hN) ?hE
   case hE=>
    intro e a' wd hq
    cases e with
    | normal=>exact hq
    | ret=>exact hq.elim
    | exit id=>exact hq.elim
    | goto l=>exact hq.elim
    | panic ch=>exact hq.elim
    | outgrown=>exact hq.elim
   case hN=>
    intro fr2 we hf2 hr2;have HF:Hid (eh w n (c+2) gs g y xv vs (uZ s x) we):=by
     have:=eh.step HMX.out hr2;rw [ZU.out] at this;exact this
    exact ⟨hf2.df,_,results_none rfl _ _ _,rfl,HF.out⟩
end Go.Proofs.YtmaiggbnceejiaaGreatDoor
