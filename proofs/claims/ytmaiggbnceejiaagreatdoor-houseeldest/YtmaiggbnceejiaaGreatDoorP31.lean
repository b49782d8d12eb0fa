import Derived.Test.YtmaiggbnceejiaaGreatDoorP30
set_option linter.unusedVariables false
set_option maxRecDepth 100000
set_option maxHeartbeats 16000000
namespace Go.Proofs.YtmaiggbnceejiaaGreatDoor
open Go.RowKit Go.Lib Go.Maps
theorem fC.after{w w1 w2:World}{n c d gs g:Nat}{y y1:dX}{xv:Value}{vs:List Value}{s':dw}(h:iD w y w1 y1)(k:fC w1 n c gs g y1 xv vs s' w2)(hc:c<=d):fC w n d gs g y xv vs s' w2:=by
 obtain ⟨y2,JX,vs2,h1,h2⟩:=k;exact ⟨y2,JX,vs2,h1.more hc,(jX.steps h).trans h2⟩
theorem fC.only{w w1:World}{n c d gs g:Nat}{y y1:dX}{xv:Value}{vs:List Value}{s':dw}(h:iD w y w1 y1)(k:ef w1 n c gs g y1 xv vs s')(hc:c<=d):fC w n d gs g y xv vs s' w1:=⟨y1,xv,vs,k.more hc,jX.steps h⟩
section
variable {w:World} {n c m gs g:Nat} {y:dX} {xv:Value} {vs:List Value} {s:dw} {xb:Nat} {x:ActD}
theorem Vu(hp:iR w n c m gs g y xv vs s xb x)(fr:Act)(hf:oz fr gs xb (fK s x) (eP x) x.what)(hw:x.what=0)(ha:s.dV.length<7):qG w n c gs g y xv vs (dx s x) fr:=by
 intro R hN
 conv=>arg 2;whnf
 obtain ⟨f,rfl⟩:=hf.lit;rw [hw];have hA:dx s x={ s with h:=nC s.h,dV:=s.dV++[⟨[],s.now,-1⟩] }:=by unfold dx;simp [hw,ha]
 rw [hA] at hN;have c0:=(gN hp.fE.blk).1;have zg:=hp.fE.blk.lt;have HN:=dU hN;obtain ⟨xa,fk,hxv⟩:=fJ hp.fE.row.2;subst hxv;have c1:=(gN hp.fE.blk).2.1;have HB:=dU hp.begin;have HG:=dU hp.lg;obtain ⟨tl,htl⟩:∃ z,z=s.dV.length:=⟨_,rfl⟩;have Kp:=dU htl;rw [<-htl] at ha c1 HB;have hb:decide ((tl:Int)<7)=true:=aQ (by omega);have hb2:(tl:Int)<7:=by omega
 have ew:wrap64 ((tl:Int)+1)=(tl:Int)+1:=IntWalk.wrap64_in _ ⟨by omega,by omega⟩;clear hN hp hf hA htl;go_wp2_with fail;refine (HB.out _ (Mod.refl _ _)).mono ?_;rintro e w1 ⟨rfl,y1,hs1,hst⟩;have d1:=(gN hs1.blk).2.1;have zg1:=hs1.blk.lt;rw [Kp.out] at hs1;have DN:=dU hs1;have HST:=dU hst;have Wj:s.dV.length<=100:=by rw [<-Kp.out];omega
 clear hs1 hst HB c0 c1;go_upto_region 11 with fail;refine wp_mono (Q:=uO ?R2) (MQ (R:=?R2) n c gs g y1 _ vs _ w1 DN.out HG.out Wj _ ⟨rfl,rfl,rfl⟩ ?hN) ?hE
 case hE=>
  intro e a' wd hq
  cases e with
  | normal=>exact hq
  | ret=>exact hq.elim
  | exit id=>exact hq.elim
  | goto l=>exact hq.elim
  | panic ch=>exact hq.elim
  | outgrown=>exact hq.elim
 case hN=>
  intro fr' wd hf' hr;exact HN.out fr' wd hf' (fC.after HST.out hr (by omega))
theorem Vt(hp:iR w n c m gs g y xv vs s xb x)(fr:Act)(hf:oz fr gs xb (fK s x) (eP x) x.what)(hw:x.what=0)(ha:¬ s.dV.length<7):qG w n c gs g y xv vs (dx s x) fr:=by
 intro R hN
 conv=>arg 2;whnf
 obtain ⟨f,rfl⟩:=hf.lit;rw [hw];have hA:dx s x=s:=by unfold dx;simp [hw,ha]
 rw [hA] at hN;have c0:=(gN hp.fE.blk).1;have zg:=hp.fE.blk.lt;have HN:=dU hN;have HR:=dU (fC.refl hp.fE (Mod.refl _ _));obtain ⟨xa,fk,hxv⟩:=fJ hp.fE.row.2;subst hxv;have c1:=(gN hp.fE.blk).2.1;obtain ⟨tl,htl⟩:∃ z,z=s.dV.length:=⟨_,rfl⟩;rw [<-htl] at ha c1 HR HN;have hb:decide ((tl:Int)<7)=false:=aP (by omega);have hb2:¬ (tl:Int)<7:=by omega
 clear hN hp hf hA htl;go_wp2_with fail;show R _ _;exact HN.out _ _ ⟨rfl,rfl,rfl⟩ HR.out
theorem Ss{dV:List gg}{i:Nat}{t:gg}(h:dV[i]?=some t)(o:gQ):fQ dV (i+1) o=dV.set i ⟨t.ops++[o],t.eI,t.jx⟩:=by
 unfold fQ;rw [bZ,h]
theorem VJ{s:dw}{x:ActD}(h:0<fK s x):∃ i t,fK s x=i+1/\s.dV[i]?=some t:=by
 unfold fK at h ⊢;split at h
 ·rename_i e;rw [aJ e];have:=Aq x.tx s.dV.length e;exact ⟨jb x.tx s.dV.length,_,by omega,aA this⟩
 ·omega
theorem Vp(hp:iR w n c m gs g y xv vs s xb x)(fr:Act)(hf:oz fr gs xb (fK s x) (eP x) x.what)(hw:x.what=1)(ha:(fL s.h (fK s x:Nat) (eP x)).2.2.2=0)(hi:0<fK s x):qG w n c gs g y xv vs (dx s x) fr:=by
 intro R hN
 conv=>arg 2;whnf
 obtain ⟨f,rfl⟩:=hf.lit;rw [hw];have hA:dx s x={ s with h:=(fL s.h (fK s x:Nat) (eP x)).1,dV:=fQ s.dV (fK s x) ⟨1,eP x,(fL s.h (fK s x:Nat) (eP x)).2.1,(fL s.h (fK s x:Nat) (eP x)).2.2.1⟩ }:=by unfold dx;simp [hw,ha,hi]
 rw [hA] at hN;have c0:=(gN hp.fE.blk).1;have zg:=hp.fE.blk.lt;have HN:=dU hN;obtain ⟨i,t,hid,hit⟩:=VJ hi;obtain ⟨MD,fk,hxv⟩:=hp.fE.pJ hit;subst hxv;have HG:=dU hp.lg;have HC:=dU (hp.get (fK s x:Nat) (eP x) (Ij x));have pT:Hid (t.ops.length<=1000):=by have:=hp.MU t (aC hit);have:=hp.mm;unfold Hid;omega
 have oY:Hid (s.dV.length<=100):=by have:=hp.ok.few;unfold Hid;omega
 rw [ha,oL] at HC;rw [hid] at HC HN ⊢;rw [Ss hit] at HN;obtain ⟨key,hkey⟩:∃ z,z=eP x:=⟨_,rfl⟩;rw [<-hkey] at HC HN ⊢;obtain ⟨r,ec⟩:∃ z,z=fL s.h ((i+1:Nat):Int) key:=⟨_,rfl⟩;rw [<-ec] at HC HN;obtain ⟨id,lL⟩:∃ z:Int,z=((i+1:Nat):Int):=⟨_,rfl⟩;rw [<-lL] at HC ⊢;have hb:decide (id > 0)=true:=aQ (by omega);have hb2:0<id:=by omega
 have Ph:Hid (id=(i:Int)+1):=by unfold Hid;omega
 have HT:=dU hit;clear hN hp hf hA lL ec hkey hid hi ha hit;go_wp2_with fail;refine (HC.out _ (Mod.refl _ _)).mono ?_;rintro e w1 ⟨rfl,y1,hs1,hst⟩;have DN:=dU hs1;have HST:=dU hst;clear hs1 hst HC c0;go_upto_region 15 with fail;refine wp_mono (Q:=uO ?R2) (MP (R:=?R2) n (c+2) gs g MD fk i id key r.2.1 r.2.2.1 t y1 vs { s with h:=r.1 } w1 DN.out HG.out HT.out Ph.out oY.out pT.out _ ⟨rfl,rfl,rfl⟩ rfl rfl rfl rfl ?hN) ?hE
 case hE=>
  intro e a' wd hq
  cases e with
  | normal=>exact hq
  | ret=>exact hq.elim
  | exit id=>exact hq.elim
  | goto l=>exact hq.elim
  | panic ch=>exact hq.elim
  | outgrown=>exact hq.elim
 case hN=>
  intro fr' wd hf' hr;exact HN.out fr' wd hf' (fC.after HST.out hr (by omega))
theorem Vo(hp:iR w n c m gs g y xv vs s xb x)(fr:Act)(hf:oz fr gs xb (fK s x) (eP x) x.what)(hw:x.what=1)(ha:¬ ((fL s.h (fK s x:Nat) (eP x)).2.2.2=0/\0<fK s x)):qG w n c gs g y xv vs (dx s x) fr:=by
 intro R hN
 conv=>arg 2;whnf
 obtain ⟨f,rfl⟩:=hf.lit;rw [hw];have hA:dx s x={ s with h:=(fL s.h (fK s x:Nat) (eP x)).1 }:=by unfold dx;simp [hw,ha]
 rw [hA] at hN;have c0:=(gN hp.fE.blk).1;have zg:=hp.fE.blk.lt;have HN:=dU hN;have HC:=dU (hp.get (fK s x:Nat) (eP x) (Ij x));obtain ⟨key,hkey⟩:∃ z,z=eP x:=⟨_,rfl⟩;rw [<-hkey] at HC HN ha ⊢;obtain ⟨r,ec⟩:∃ z,z=fL s.h ((fK s x:Nat):Int) key:=⟨_,rfl⟩;rw [<-ec] at HC HN ha;obtain ⟨id,lL⟩:∃ z:Int,z=((fK s x:Nat):Int):=⟨_,rfl⟩;rw [<-lL] at HC ⊢;have nN:(r.2.2.2=0/\id=0)\/r.2.2.2≠0:=by
  by_cases e:r.2.2.2=0
  ·exact .inl ⟨e,by have:¬ 0<fK s x:=fun q=>ha ⟨e,q⟩;omega⟩
  ·exact .inr e
 clear hN hp hf hA lL ec hkey ha;rcases nN with ⟨e1,rfl⟩ | e1
 ·rw [e1,oL] at HC;clear e1;go_wp2_with fail;refine (HC.out _ (Mod.refl _ _)).mono ?_;rintro e w1 ⟨rfl,y1,hs1,hst⟩;have HR:=dU (fC.only (d:=c+2) hst hs1 (by omega));clear hs1 hst HC c0;go_wp2_with fail;show R _ _;exact HN.out _ _ ⟨rfl,rfl,rfl⟩ HR.out
 ·rw [mJ e1] at HC;clear e1;go_wp2_with fail;refine (HC.out _ (Mod.refl _ _)).mono ?_;rintro e w1 ⟨rfl,y1,hs1,hst⟩;have HR:=dU (fC.only (d:=c+2) hst hs1 (by omega));clear hs1 hst HC c0;go_wp2_with fail;show R _ _;exact HN.out _ _ ⟨rfl,rfl,rfl⟩ HR.out
theorem swN(hp:iR w n c m gs g y xv vs s xb x)(fr:Act)(hf:oz fr gs xb (fK s x) (eP x) x.what)(hw:∀ k:Nat,k<13->x.what≠k):qG w n c gs g y xv vs (dx s x) fr:=by
 intro R hN
 conv=>arg 2;whnf
 obtain ⟨f,rfl⟩:=hf.lit;have hA:dx s x=s:=by
  unfold dx;have h0:=hw 0 (by omega);have h1:=hw 1 (by omega);have h2:=hw 2 (by omega);have h3:=hw 3 (by omega);have h4:=hw 4 (by omega);have h5:=hw 5 (by omega);have h6:=hw 6 (by omega);have h7:=hw 7 (by omega);have h8:=hw 8 (by omega);have h9:=hw 9 (by omega);have h10:=hw 10 (by omega);have h11:=hw 11 (by omega);have h12:=hw 12 (by omega);simp at h0 h1 h2 h3 h4 h5 h6 h7 h8 h9 h10 h11 h12;simp [h0,h1,h2,h3,h4,h5,h6,h7,h8,h9,h10,h11,h12]
 rw [hA] at hN;have HR:=dU (fC.refl hp.fE (Mod.refl _ _));have HN:=dU hN;obtain ⟨wh,EO⟩:∃ z,z=x.what:=⟨_,rfl⟩;rw [<-EO] at hw ⊢;have h0:(wh == 0)=false:=by have:=hw 0 (by omega);simpa using this
 have h1:(wh == 1)=false:=by have:=hw 1 (by omega);simpa using this
 have h2:(wh == 2)=false:=by have:=hw 2 (by omega);simpa using this
 have h3:(wh == 3)=false:=by have:=hw 3 (by omega);simpa using this
 have h4:(wh == 4)=false:=by have:=hw 4 (by omega);simpa using this
 have h5:(wh == 5)=false:=by have:=hw 5 (by omega);simpa using this
 have h6:(wh == 6)=false:=by have:=hw 6 (by omega);simpa using this
 have h7:(wh == 7)=false:=by have:=hw 7 (by omega);simpa using this
 have h8:(wh == 8)=false:=by have:=hw 8 (by omega);simpa using this
 have h9:(wh == 9)=false:=by have:=hw 9 (by omega);simpa using this
 have h10:(wh == 10)=false:=by have:=hw 10 (by omega);simpa using this
 have h11:(wh == 11)=false:=by have:=hw 11 (by omega);simpa using this
 have h12:(wh == 12)=false:=by have:=hw 12 (by omega);simpa using this
 clear hN hp hf hA EO hw;go_wp2_with fail;show R _ _;exact HN.out _ _ ⟨rfl,rfl,rfl⟩ HR.out
end
section
variable {w:World} {n c m gs g:Nat} {y:dX} {xv:Value} {vs:List Value} {s:dw} {xb:Nat} {x:ActD}
theorem EA{κ:Int}{G:Bool}(hκ:(κ=2/\G=false)\/(κ=3/\G=true))(hp:iR w n c m gs g y xv vs s xb x)(fr:Act)(hf:oz fr gs xb (fK s x) (eP x) x.what)(hw:x.what=κ)(hv:¬ 9<x.value.size)(ha:(eZ s.h (fK s x:Nat) ⟨eP x,gh x,G⟩).2=0)(hi:0<fK s x)(hA:dx s x={ s with h:=(eZ s.h (fK s x:Nat) ⟨eP x,gh x,G⟩).1,dV:=fQ s.dV (fK s x) ⟨κ,eP x,gh x,false⟩ }):qG w n c gs g y xv vs (dx s x) fr:=by
 intro R hN
 conv=>arg 2;whnf
 obtain ⟨f,rfl⟩:=hf.lit;rw [hw];rw [hA] at hN;have c0:=(gN hp.fE.blk).1;have zg:=hp.fE.blk.lt;have HN:=dU hN;have hV:gh x=x.value:=by unfold gh;rw [aE hv]
 have hok:fj x.value:=by have:=hp.val;unfold fj at this ⊢;exact this
 rw [hV] at HN ha;have gK:=dU (hp.put (fK s x:Nat) ⟨eP x,x.value,G⟩ (Ij x) hok);have x0:=hp.act.cell 0 rfl;have x3:=hp.act.cell 3 rfl;rw [hw] at x0;have zx:=hp.act.lt;have HP:=dU hp;obtain ⟨key,hkey⟩:∃ z,z=eP x:=⟨_,rfl⟩;rw [<-hkey] at HN gK ha ⊢;obtain ⟨r,ec⟩:∃ z,z=eZ s.h (fK s x:Nat) ⟨key,x.value,G⟩:=⟨_,rfl⟩;rw [<-ec] at gK HN ha;obtain ⟨w1,hw1⟩:∃ z,z=w.alloc (.cells #[.string key,.string x.value,.bool G] 68):=⟨_,rfl⟩;have di:Mod dZ w w1:=by rw [hw1];exact (Mod.refl _ w).alloc _
 have hb1:dh w1 w.heap.size [.string key,.string x.value,.bool G] 68:=by rw [hw1];exact dh.new w _ _
 have d0:=di.cell c0 id;have y0:=di.cell x0 id;have y3:=di.cell x3 id;have b1:=hb1.cell 1 rfl;have f1:=hb1.frozen 1;have zb:=hb1.lt;have hsz:decide ((x.value.size:Int) > 9)=false:=aP (by omega);have GU:¬ (9:Int)<(x.value.size:Int):=by omega
 have Wm:¬ 9<x.value.size:=hv;obtain ⟨w2,hw2⟩:∃ z,z=w1:=⟨_,rfl⟩;have hm2:Mod dZ w w2:=by rw [hw2];exact di
 have hb2:dh w2 w.heap.size [.string key,.string x.value,.bool G] 68:=by rw [hw2];exact hb1
 obtain ⟨i,t,hid,hit⟩:=VJ hi;obtain ⟨MD,fk,hxv⟩:=HP.out.fE.pJ hit;subst hxv;have pT:Hid (t.ops.length<=1000):=by have:=HP.out.MU t (aC hit);have:=HP.out.mm;unfold Hid;omega
 have oY:Hid (s.dV.length<=100):=by have:=HP.out.ok.few;unfold Hid;omega
 rw [ha,oL] at gK;rw [hid] at gK HN ⊢;rw [Ss hit] at HN;obtain ⟨id,lL⟩:∃ z:Int,z=((i+1:Nat):Int):=⟨_,rfl⟩;rw [<-lL] at gK ⊢;have hb:decide (id > 0)=true:=aQ (by omega);have YE:0<id:=by omega
 have Ph:Hid (id=(i:Int)+1):=by unfold Hid;omega
 have HT:=dU hit;have gu:=dU hm2;have qJ:=dU hb2;have v0:=gu.out.cell c0 (fun e=>e);have p0:=hb2.cell 0 rfl;have p1:=hb2.cell 1 rfl;have p2:=hb2.cell 2 rfl;have Pz:=aG zg hm2.size;have QA:=hb2.lt;clear hN hp hf hA hkey ec hb2 hm2 hb1 di hV hok lL hi hid hit ha hv;rcases hκ with ⟨rfl,rfl⟩ | ⟨rfl,rfl⟩
 all_goals
  go_upto_region 19 with fail;rw [<-hw1];clear hw1;go_upto_region 21 with fail;rw [<-hw2];clear hw2 c0 x0 x3 d0 y0 y3 b1 f1 zb;refine wp_region_still_tail 6 (by kernel_rfl) (by kernel_rfl) ?_;simp only [aq,bg,bR,bx]
  repeat still_step
  refine wpStill_nil ?_;go_wp2_with fail;refine (gK.out _ gu.out.drew).mono ?_;rintro e w3 ⟨rfl,y1,hs1,hst⟩;have DN:=dU hs1;have HST:Hid (iD w y w3 y1):=(iD.quiet gu.out.drew).trans hst;have EM:y.own w.heap.size=.no:=by
   by_cases e:y.own w.heap.size=.no
   ·exact e
   ·have:=(HP.out.fE.house.own.lt _ e).2;omega
  have HBP:=dU (hst.blk (qJ.out.mod (Mod.refl dZ _).drew (fun e=>e)) EM);have Pt:=dU ((HST.out.blk HP.out.act HP.out.xn).cell 0 rfl);rw [hw] at Pt;have Zd:Hid (∀ u∈vs,u.ownBlock≠some xb):=fun u hu e=>HP.out.xs (.inr (.inr ⟨u,hu,e⟩));have Zb:Hid (∀ u∈vs,u.ownBlock≠some w.heap.size):=fun u hu e=>by have:=(HP.out.fE.cells HP.out.lg (.inr (.inr ⟨u,hu,e⟩))).2.1;omega
  clear hs1 hst EM gK v0 p0 p1 p2;go_upto_region 22 with fail;refine wp_mono (Q:=uO ?R2) (EG (R:=?R2) n (c+2) gs g MD fk i id key x.value t y1 vs { s with h:=r.1 } w3 DN.out HP.out.lg HT.out Ph.out oY.out pT.out xb w.heap.size _ Pt.out (HBP.out.cell 1 rfl) Zd.out Zb.out _ ⟨rfl,rfl,rfl⟩ rfl rfl rfl rfl ?hN) ?hE
  case hE=>
   intro e a' wd hq
   cases e with
   | normal=>exact hq
   | ret=>exact hq.elim
   | exit id=>exact hq.elim
   | goto l=>exact hq.elim
   | panic ch=>exact hq.elim
   | outgrown=>exact hq.elim
  case hN=>
   intro fr' wd hf' hr;exact HN.out fr' wd hf' (fC.after HST.out hr (by omega))
theorem Dz{κ:Int}{G:Bool}(hκ:(κ=2/\G=false)\/(κ=3/\G=true))(hp:iR w n c m gs g y xv vs s xb x)(fr:Act)(hf:oz fr gs xb (fK s x) (eP x) x.what)(hw:x.what=κ)(hv:¬ 9<x.value.size)(ha:¬ ((eZ s.h (fK s x:Nat) ⟨eP x,gh x,G⟩).2=0/\0<fK s x))(hA:dx s x={ s with h:=(eZ s.h (fK s x:Nat) ⟨eP x,gh x,G⟩).1 }):qG w n c gs g y xv vs (dx s x) fr:=by
 intro R hN
 conv=>arg 2;whnf
 obtain ⟨f,rfl⟩:=hf.lit;rw [hw];rw [hA] at hN;have c0:=(gN hp.fE.blk).1;have zg:=hp.fE.blk.lt;have HN:=dU hN;have hV:gh x=x.value:=by unfold gh;rw [aE hv]
 have hok:fj x.value:=by have:=hp.val;unfold fj at this ⊢;exact this
 rw [hV] at HN ha;have gK:=dU (hp.put (fK s x:Nat) ⟨eP x,x.value,G⟩ (Ij x) hok);have x0:=hp.act.cell 0 rfl;have x3:=hp.act.cell 3 rfl;rw [hw] at x0;have zx:=hp.act.lt;have HP:=dU hp;obtain ⟨key,hkey⟩:∃ z,z=eP x:=⟨_,rfl⟩;rw [<-hkey] at HN gK ha ⊢;obtain ⟨r,ec⟩:∃ z,z=eZ s.h (fK s x:Nat) ⟨key,x.value,G⟩:=⟨_,rfl⟩;rw [<-ec] at gK HN ha;obtain ⟨w1,hw1⟩:∃ z,z=w.alloc (.cells #[.string key,.string x.value,.bool G] 68):=⟨_,rfl⟩;have di:Mod dZ w w1:=by rw [hw1];exact (Mod.refl _ w).alloc _
 have hb1:dh w1 w.heap.size [.string key,.string x.value,.bool G] 68:=by rw [hw1];exact dh.new w _ _
 have d0:=di.cell c0 id;have y0:=di.cell x0 id;have y3:=di.cell x3 id;have b1:=hb1.cell 1 rfl;have f1:=hb1.frozen 1;have zb:=hb1.lt;have hsz:decide ((x.value.size:Int) > 9)=false:=aP (by omega);have GU:¬ (9:Int)<(x.value.size:Int):=by omega
 have Wm:¬ 9<x.value.size:=hv;obtain ⟨w2,hw2⟩:∃ z,z=w1:=⟨_,rfl⟩;have hm2:Mod dZ w w2:=by rw [hw2];exact di
 have hb2:dh w2 w.heap.size [.string key,.string x.value,.bool G] 68:=by rw [hw2];exact hb1
 obtain ⟨id,lL⟩:∃ z:Int,z=((fK s x:Nat):Int):=⟨_,rfl⟩;rw [<-lL] at gK ⊢;have nN:(r.2=0/\id=0)\/r.2≠0:=by
  by_cases e:r.2=0
  ·exact .inl ⟨e,by have:¬ 0<fK s x:=fun q=>ha ⟨e,q⟩;omega⟩
  ·exact .inr e
 have gu:=dU hm2;have qJ:=dU hb2;have v0:=gu.out.cell c0 (fun e=>e);have p0:=hb2.cell 0 rfl;have p1:=hb2.cell 1 rfl;have p2:=hb2.cell 2 rfl;have Pz:=aG zg hm2.size;have QA:=hb2.lt;clear hN hp hf hA hkey ec hb2 hm2 hb1 di hV hok lL  ha hv;rcases hκ with ⟨rfl,rfl⟩ | ⟨rfl,rfl⟩
 all_goals
  go_upto_region 19 with fail;rw [<-hw1];clear hw1;go_upto_region 21 with fail;rw [<-hw2];clear hw2 c0 x0 x3 d0 y0 y3 b1 f1 zb;refine wp_region_still_tail 6 (by kernel_rfl) (by kernel_rfl) ?_;simp only [aq,bg,bR,bx]
  repeat still_step
  refine wpStill_nil ?_;rcases nN with ⟨e1,e2⟩ | e1
  ·rw [e1,oL] at gK;have Nn:decide (id > 0)=false:=aP (by omega);have Xe:¬ 0<id:=by omega
   clear e1 e2;go_wp2_with fail;refine (gK.out _ gu.out.drew).mono ?_;rintro e w3 ⟨rfl,y1,hs1,hst⟩;have HR:=dU (fC.only (d:=c+2) ((iD.quiet gu.out.drew).trans hst) hs1 (by omega));clear hs1 hst gK v0 p0 p1 p2;go_wp2_with fail;show R _ _;exact HN.out _ _ ⟨rfl,rfl,rfl⟩ HR.out
  ·rw [mJ e1] at gK;clear e1;go_wp2_with fail;refine (gK.out _ gu.out.drew).mono ?_;rintro e w3 ⟨rfl,y1,hs1,hst⟩;have HR:=dU (fC.only (d:=c+2) ((iD.quiet gu.out.drew).trans hst) hs1 (by omega));clear hs1 hst gK v0 p0 p1 p2;go_wp2_with fail;show R _ _;exact HN.out _ _ ⟨rfl,rfl,rfl⟩ HR.out
theorem EC{κ:Int}{G:Bool}(hκ:(κ=2/\G=false)\/(κ=3/\G=true))(hp:iR w n c m gs g y xv vs s xb x)(fr:Act)(hf:oz fr gs xb (fK s x) (eP x) x.what)(hw:x.what=κ)(hv:9<x.value.size)(ha:(eZ s.h (fK s x:Nat) ⟨eP x,gh x,G⟩).2=0)(hi:0<fK s x)(hA:dx s x={ s with h:=(eZ s.h (fK s x:Nat) ⟨eP x,gh x,G⟩).1,dV:=fQ s.dV (fK s x) ⟨κ,eP x,gh x,false⟩ }):qG w n c gs g y xv vs (dx s x) fr:=by
 intro R hN
 conv=>arg 2;whnf
 obtain ⟨f,rfl⟩:=hf.lit;rw [hw];rw [hA] at hN;have c0:=(gN hp.fE.blk).1;have zg:=hp.fE.blk.lt;have HN:=dU hN;have hV:gh x=(x.value.extract 0 9):=by unfold gh;rw [aJ hv]
 have hok:fj (x.value.extract 0 9):=by have:=hp.val;unfold fj at this ⊢;rw [ByteArray.size_extract];omega
 rw [hV] at HN ha;have gK:=dU (hp.put (fK s x:Nat) ⟨eP x,(x.value.extract 0 9),G⟩ (Ij x) hok);have x0:=hp.act.cell 0 rfl;have x3:=hp.act.cell 3 rfl;rw [hw] at x0;have zx:=hp.act.lt;have HP:=dU hp;obtain ⟨key,hkey⟩:∃ z,z=eP x:=⟨_,rfl⟩;rw [<-hkey] at HN gK ha ⊢;obtain ⟨r,ec⟩:∃ z,z=eZ s.h (fK s x:Nat) ⟨key,(x.value.extract 0 9),G⟩:=⟨_,rfl⟩;rw [<-ec] at gK HN ha;obtain ⟨w1,hw1⟩:∃ z,z=w.alloc (.cells #[.string key,.string x.value,.bool G] 68):=⟨_,rfl⟩;have di:Mod dZ w w1:=by rw [hw1];exact (Mod.refl _ w).alloc _
 have hb1:dh w1 w.heap.size [.string key,.string x.value,.bool G] 68:=by rw [hw1];exact dh.new w _ _
 have d0:=di.cell c0 id;have y0:=di.cell x0 id;have y3:=di.cell x3 id;have b1:=hb1.cell 1 rfl;have f1:=hb1.frozen 1;have zb:=hb1.lt;have hsz:decide ((x.value.size:Int) > 9)=true:=aQ (by omega);have Mr:9<=x.value.size:=by omega
 have GU:(9:Int)<=(x.value.size:Int):=by omega
 obtain ⟨w2,hw2⟩:∃ z,z=w1.setCell ⟨w.heap.size,1,none⟩ (.string (x.value.extract 0 9)):=⟨_,rfl⟩;have hm2:Mod dZ w w2:=by rw [hw2];exact di.setCell (fun e=>absurd e (cS _)) _
 have hb2:dh w2 w.heap.size [.string key,.string (x.value.extract 0 9),.bool G] 68:=by rw [hw2];exact hb1.set 1 _
 obtain ⟨i,t,hid,hit⟩:=VJ hi;obtain ⟨MD,fk,hxv⟩:=HP.out.fE.pJ hit;subst hxv;have pT:Hid (t.ops.length<=1000):=by have:=HP.out.MU t (aC hit);have:=HP.out.mm;unfold Hid;omega
 have oY:Hid (s.dV.length<=100):=by have:=HP.out.ok.few;unfold Hid;omega
 rw [ha,oL] at gK;rw [hid] at gK HN ⊢;rw [Ss hit] at HN;obtain ⟨id,lL⟩:∃ z:Int,z=((i+1:Nat):Int):=⟨_,rfl⟩;rw [<-lL] at gK ⊢;have hb:decide (id > 0)=true:=aQ (by omega);have YE:0<id:=by omega
 have Ph:Hid (id=(i:Int)+1):=by unfold Hid;omega
 have HT:=dU hit;have gu:=dU hm2;have qJ:=dU hb2;have v0:=gu.out.cell c0 (fun e=>e);have p0:=hb2.cell 0 rfl;have p1:=hb2.cell 1 rfl;have p2:=hb2.cell 2 rfl;have Pz:=aG zg hm2.size;have QA:=hb2.lt;clear hN hp hf hA hkey ec hb2 hm2 hb1 di hV hok lL hi hid hit ha hv;rcases hκ with ⟨rfl,rfl⟩ | ⟨rfl,rfl⟩
 all_goals
  go_upto_region 19 with fail;rw [<-hw1];clear hw1;go_upto_region 21 with fail;rw [<-hw2];clear hw2 c0 x0 x3 d0 y0 y3 b1 f1 zb;refine wp_region_still_tail 6 (by kernel_rfl) (by kernel_rfl) ?_;simp only [aq,bg,bR,bx]
  repeat still_step
  refine wpStill_nil ?_;go_wp2_with fail;refine (gK.out _ gu.out.drew).mono ?_;rintro e w3 ⟨rfl,y1,hs1,hst⟩;have DN:=dU hs1;have HST:Hid (iD w y w3 y1):=(iD.quiet gu.out.drew).trans hst;have EM:y.own w.heap.size=.no:=by
   by_cases e:y.own w.heap.size=.no
   ·exact e
   ·have:=(HP.out.fE.house.own.lt _ e).2;omega
  have HBP:=dU (hst.blk (qJ.out.mod (Mod.refl dZ _).drew (fun e=>e)) EM);have Pt:=dU ((HST.out.blk HP.out.act HP.out.xn).cell 0 rfl);rw [hw] at Pt;have Zd:Hid (∀ u∈vs,u.ownBlock≠some xb):=fun u hu e=>HP.out.xs (.inr (.inr ⟨u,hu,e⟩));have Zb:Hid (∀ u∈vs,u.ownBlock≠some w.heap.size):=fun u hu e=>by have:=(HP.out.fE.cells HP.out.lg (.inr (.inr ⟨u,hu,e⟩))).2.1;omega
  clear hs1 hst EM gK v0 p0 p1 p2;go_upto_region 22 with fail;refine wp_mono (Q:=uO ?R2) (EG (R:=?R2) n (c+2) gs g MD fk i id key (x.value.extract 0 9) t y1 vs { s with h:=r.1 } w3 DN.out HP.out.lg HT.out Ph.out oY.out pT.out xb w.heap.size _ Pt.out (HBP.out.cell 1 rfl) Zd.out Zb.out _ ⟨rfl,rfl,rfl⟩ rfl rfl rfl rfl ?hN) ?hE
  case hE=>
   intro e a' wd hq
   cases e with
   | normal=>exact hq
   | ret=>exact hq.elim
   | exit id=>exact hq.elim
   | goto l=>exact hq.elim
   | panic ch=>exact hq.elim
   | outgrown=>exact hq.elim
  case hN=>
   intro fr' wd hf' hr;exact HN.out fr' wd hf' (fC.after HST.out hr (by omega))
theorem EB{κ:Int}{G:Bool}(hκ:(κ=2/\G=false)\/(κ=3/\G=true))(hp:iR w n c m gs g y xv vs s xb x)(fr:Act)(hf:oz fr gs xb (fK s x) (eP x) x.what)(hw:x.what=κ)(hv:9<x.value.size)(ha:¬ ((eZ s.h (fK s x:Nat) ⟨eP x,gh x,G⟩).2=0/\0<fK s x))(hA:dx s x={ s with h:=(eZ s.h (fK s x:Nat) ⟨eP x,gh x,G⟩).1 }):qG w n c gs g y xv vs (dx s x) fr:=by
 intro R hN
 conv=>arg 2;whnf
 obtain ⟨f,rfl⟩:=hf.lit;rw [hw];rw [hA] at hN;have c0:=(gN hp.fE.blk).1;have zg:=hp.fE.blk.lt;have HN:=dU hN;have hV:gh x=(x.value.extract 0 9):=by unfold gh;rw [aJ hv]
 have hok:fj (x.value.extract 0 9):=by have:=hp.val;unfold fj at this ⊢;rw [ByteArray.size_extract];omega
 rw [hV] at HN ha;have gK:=dU (hp.put (fK s x:Nat) ⟨eP x,(x.value.extract 0 9),G⟩ (Ij x) hok);have x0:=hp.act.cell 0 rfl;have x3:=hp.act.cell 3 rfl;rw [hw] at x0;have zx:=hp.act.lt;have HP:=dU hp;obtain ⟨key,hkey⟩:∃ z,z=eP x:=⟨_,rfl⟩;rw [<-hkey] at HN gK ha ⊢;obtain ⟨r,ec⟩:∃ z,z=eZ s.h (fK s x:Nat) ⟨key,(x.value.extract 0 9),G⟩:=⟨_,rfl⟩;rw [<-ec] at gK HN ha;obtain ⟨w1,hw1⟩:∃ z,z=w.alloc (.cells #[.string key,.string x.value,.bool G] 68):=⟨_,rfl⟩;have di:Mod dZ w w1:=by rw [hw1];exact (Mod.refl _ w).alloc _
 have hb1:dh w1 w.heap.size [.string key,.string x.value,.bool G] 68:=by rw [hw1];exact dh.new w _ _
 have d0:=di.cell c0 id;have y0:=di.cell x0 id;have y3:=di.cell x3 id;have b1:=hb1.cell 1 rfl;have f1:=hb1.frozen 1;have zb:=hb1.lt;have hsz:decide ((x.value.size:Int) > 9)=true:=aQ (by omega);have Mr:9<=x.value.size:=by omega
 have GU:(9:Int)<=(x.value.size:Int):=by omega
 obtain ⟨w2,hw2⟩:∃ z,z=w1.setCell ⟨w.heap.size,1,none⟩ (.string (x.value.extract 0 9)):=⟨_,rfl⟩;have hm2:Mod dZ w w2:=by rw [hw2];exact di.setCell (fun e=>absurd e (cS _)) _
 have hb2:dh w2 w.heap.size [.string key,.string (x.value.extract 0 9),.bool G] 68:=by rw [hw2];exact hb1.set 1 _
 obtain ⟨id,lL⟩:∃ z:Int,z=((fK s x:Nat):Int):=⟨_,rfl⟩;rw [<-lL] at gK ⊢;have nN:(r.2=0/\id=0)\/r.2≠0:=by
  by_cases e:r.2=0
  ·exact .inl ⟨e,by have:¬ 0<fK s x:=fun q=>ha ⟨e,q⟩;omega⟩
  ·exact .inr e
 have gu:=dU hm2;have qJ:=dU hb2;have v0:=gu.out.cell c0 (fun e=>e);have p0:=hb2.cell 0 rfl;have p1:=hb2.cell 1 rfl;have p2:=hb2.cell 2 rfl;have Pz:=aG zg hm2.size;have QA:=hb2.lt;clear hN hp hf hA hkey ec hb2 hm2 hb1 di hV hok lL  ha hv;rcases hκ with ⟨rfl,rfl⟩ | ⟨rfl,rfl⟩
 all_goals
  go_upto_region 19 with fail;rw [<-hw1];clear hw1;go_upto_region 21 with fail;rw [<-hw2];clear hw2 c0 x0 x3 d0 y0 y3 b1 f1 zb;refine wp_region_still_tail 6 (by kernel_rfl) (by kernel_rfl) ?_;simp only [aq,bg,bR,bx]
  repeat still_step
  refine wpStill_nil ?_;rcases nN with ⟨e1,e2⟩ | e1
  ·rw [e1,oL] at gK;have Nn:decide (id > 0)=false:=aP (by omega);have Xe:¬ 0<id:=by omega
   clear e1 e2;go_wp2_with fail;refine (gK.out _ gu.out.drew).mono ?_;rintro e w3 ⟨rfl,y1,hs1,hst⟩;have HR:=dU (fC.only (d:=c+2) ((iD.quiet gu.out.drew).trans hst) hs1 (by omega));clear hs1 hst gK v0 p0 p1 p2;go_wp2_with fail;show R _ _;exact HN.out _ _ ⟨rfl,rfl,rfl⟩ HR.out
  ·rw [mJ e1] at gK;clear e1;go_wp2_with fail;refine (gK.out _ gu.out.drew).mono ?_;rintro e w3 ⟨rfl,y1,hs1,hst⟩;have HR:=dU (fC.only (d:=c+2) ((iD.quiet gu.out.drew).trans hst) hs1 (by omega));clear hs1 hst gK v0 p0 p1 p2;go_wp2_with fail;show R _ _;exact HN.out _ _ ⟨rfl,rfl,rfl⟩ HR.out
end
section
variable {w:World} {n c m gs g:Nat} {y:dX} {xv:Value} {vs:List Value} {s:dw} {xb:Nat} {x:ActD}
theorem Fh(hp:iR w n c m gs g y xv vs s xb x)(fr:Act)(hf:oz fr gs xb (fK s x) (eP x) x.what):qG w n c gs g y xv vs (dx s x) fr:=by
 by_cases h0:x.what=0
 ·by_cases ha:s.dV.length<7
  ·exact Vu hp fr hf h0 ha
  ·exact Vt hp fr hf h0 ha
 by_cases h1:x.what=1
 ·by_cases ha:(fL s.h (fK s x:Nat) (eP x)).2.2.2=0/\0<fK s x
  ·exact Vp hp fr hf h1 ha.1 ha.2
  ·exact Vo hp fr hf h1 ha
 by_cases h2:x.what=2
 ·by_cases hv:9<x.value.size
  ·by_cases ha:(eZ s.h (fK s x:Nat) ⟨eP x,gh x,false⟩).2=0/\0<fK s x
   ·exact EC (.inl ⟨rfl,rfl⟩) hp fr hf h2 hv ha.1 ha.2 (by unfold dx;simp [h2,ha.1,ha.2])
   ·exact EB (.inl ⟨rfl,rfl⟩) hp fr hf h2 hv ha (by unfold dx;simp [h2,ha])
  ·by_cases ha:(eZ s.h (fK s x:Nat) ⟨eP x,gh x,false⟩).2=0/\0<fK s x
   ·exact EA (.inl ⟨rfl,rfl⟩) hp fr hf h2 hv ha.1 ha.2 (by unfold dx;simp [h2,ha.1,ha.2])
   ·exact Dz (.inl ⟨rfl,rfl⟩) hp fr hf h2 hv ha (by unfold dx;simp [h2,ha])
 by_cases h3:x.what=3
 ·by_cases hv:9<x.value.size
  ·by_cases ha:(eZ s.h (fK s x:Nat) ⟨eP x,gh x,true⟩).2=0/\0<fK s x
   ·exact EC (.inr ⟨rfl,rfl⟩) hp fr hf h3 hv ha.1 ha.2 (by unfold dx;simp [h3,ha.1,ha.2])
   ·exact EB (.inr ⟨rfl,rfl⟩) hp fr hf h3 hv ha (by unfold dx;simp [h3,ha])
  ·by_cases ha:(eZ s.h (fK s x:Nat) ⟨eP x,gh x,true⟩).2=0/\0<fK s x
   ·exact EA (.inr ⟨rfl,rfl⟩) hp fr hf h3 hv ha.1 ha.2 (by unfold dx;simp [h3,ha.1,ha.2])
   ·exact Dz (.inr ⟨rfl,rfl⟩) hp fr hf h3 hv ha (by unfold dx;simp [h3,ha])
 by_cases h4:x.what=4
 ·exact sw4 hp fr hf h4
 by_cases h5:x.what=5
 ·by_cases ha:x.a.tmod 4=0
  ·exact Vn hp fr hf h5 ha
  ·exact Vm hp fr hf h5 ha
 by_cases h6:x.what=6
 ·by_cases ha:0<s.h.net.way.length
  ·exact Vl hp fr hf h6 ha
  ·exact Vk hp fr hf h6 ha
 by_cases h7:x.what=7
 ·by_cases ha:0<s.h.net.way.length
  ·exact Vj hp fr hf h7 ha
  ·exact Vi hp fr hf h7 ha
 by_cases h8:x.what=8
 ·by_cases ha:0<s.h.net.way.length
  ·exact Vh hp fr hf h8 ha
  ·exact Vg hp fr hf h8 ha
 by_cases h9:x.what=9
 ·exact sw9 hp fr hf h9
 by_cases h10:x.what=10
 ·exact Vs hp fr hf h10
 by_cases h11:x.what=11
 ·exact Vr hp fr hf h11
 by_cases h12:x.what=12
 ·exact Vq hp fr hf h12
 exact swN hp fr hf (fun k hk e=>by
  have:x.what=(k:Int):=e;omega)
end
def jP(s:dw)(j:Nat):dw:={ s with dV:=s.dV.mapIdx fun i t=>if i<j/\t.jx<0/\ij s.h ((i:Int)+1)=3 then ⟨t.ops,t.eI,s.now⟩ else t }
theorem yLf(s:dw):jP s 0=s:=by
 have:(s.dV.mapIdx fun i t=>if i<0/\t.jx<0/\ij s.h ((i:Int)+1)=3 then (⟨t.ops,t.eI,s.now⟩:gg) else t)=s.dV:=by
  refine bf fun i=>?_;rw [bM]
  cases s.dV[i]? with
  | none=>rfl
  | some t=>simp
 unfold jP;rw [this]
theorem yPk(s:dw):jP s s.dV.length=mb s:=by
 have:(s.dV.mapIdx fun i t=>if i<s.dV.length/\t.jx<0/\ij s.h ((i:Int)+1)=3 then (⟨t.ops,t.eI,s.now⟩:gg) else t)=s.dV.mapIdx fun i t=>if t.jx<0/\ij s.h ((i:Int)+1)=3 then ⟨t.ops,t.eI,s.now⟩ else t:=by
  refine bf fun i=>?_;rw [bM,bM]
  cases hi:s.dV[i]? with
  | none=>rfl
  | some t=>
   have:=(aB.1 hi).1;simp [this]
 unfold jP mb;rw [this]
theorem It(s:dw)(j:Nat):(jP s j).dV.length=s.dV.length:=by simp [jP]
theorem ySw{s:dw}{j:Nat}{t:gg}(h:s.dV[j]?=some t):(jP s j).dV[j]?=some t:=by
 simp [jP,List.getElem?_mapIdx,h]
theorem yPj{s:dw}{j:Nat}{t:gg}(h:s.dV[j]?=some t)(h1:t.jx<0)(h2:ij s.h ((j:Int)+1)=3):jP s (j+1)={ jP s j with dV:=(jP s j).dV.set j ⟨t.ops,t.eI,s.now⟩ }:=by
 have:(s.dV.mapIdx fun i t=>if i<j+1/\t.jx<0/\ij s.h ((i:Int)+1)=3 then (⟨t.ops,t.eI,s.now⟩:gg) else t)=(jP s j).dV.set j ⟨t.ops,t.eI,s.now⟩:=by
  refine bf fun i=>?_;rw [bw,It,bM];have hjl:=(aB.1 h).1;by_cases e:j=i
  ·subst e;rw [aJ rfl,aJ hjl,h,bS,aJ ⟨by omega,h1,h2⟩]
  ·rw [aE e];simp only [jP,bM]
   cases s.dV[i]? with
   | none=>rfl
   | some u=>
    simp only [bS];congr 1;by_cases q:i<j
    ·have:i<j+1:=by omega
     simp [q,this]
    ·have:¬ i<j+1:=by omega
     simp [q,this]
 show dw.mk _ _ _ _ _=dw.mk _ _ _ _ _;rw [this];rfl
theorem yLg{s:dw}{j:Nat}{t:gg}(h:s.dV[j]?=some t)(h1:¬ (t.jx<0/\ij s.h ((j:Int)+1)=3)):jP s (j+1)=jP s j:=by
 have:(s.dV.mapIdx fun i t=>if i<j+1/\t.jx<0/\ij s.h ((i:Int)+1)=3 then (⟨t.ops,t.eI,s.now⟩:gg) else t)=(jP s j).dV:=by
  refine bf fun i=>?_;simp only [jP,bM];by_cases e:j=i
  ·subst e;simp only [h,bS];congr 1;rw [aE (fun q=>h1 q.2),aE (fun q=>by omega)]
  ·cases s.dV[i]? with
   | none=>rfl
   | some u=>
    simp only [bS];congr 1;by_cases q:i<j
    ·have:i<j+1:=by omega
     simp [q,this]
    ·have:¬ i<j+1:=by omega
     simp [q,this]
 show dw.mk _ _ _ _ _=dw.mk _ _ _ _ _;rw [this];rfl
theorem ef.CL{w:World}{n c gs g xb cap:Nat}{y:dX}{vs:List Value}{s:dw}(h:ef w n c gs g y (.slice (some ⟨xb,0,none⟩) s.dV.length cap) vs s)(kr:n<=gs){i:Nat}{t:gg}(hi:s.dV[i]?=some t)(u:Int) :
  fC w n c gs g y (.slice (some ⟨xb,0,none⟩) s.dV.length cap) vs { s with dV:=s.dV.set i ⟨t.ops,t.eI,u⟩ } (w.setCell ⟨xb,i*3+2,none⟩ (.int .i64 u)):=
 ⟨y,_,vs,h.Fi kr hi u,⟨(Mod.dq xb _ _).mono (fun k _ e=>.inr (.inr (.inl (ae some (Eq.symm e))))),fun _ _=>rfl,fun _ _ e=>e⟩⟩
theorem fC.quiet{w w1 w2:World}{n c gs g:Nat}{y:dX}{xv:Value}{vs:List Value}{s':dw}(h:fC w n c gs g y xv vs s' w1)(hm:Mod dZ w1 w2):fC w n c gs g y xv vs s' w2:=by
 obtain ⟨y',vk,vs',h1,h2⟩:=h;exact ⟨y',vk,vs',h1.quiet hm,h2.trans (jX.quiet hm)⟩
theorem fC.step{w w1 w2:World}{n c gs g:Nat}{y y1:dX}{xv BB:Value}{vs vs1:List Value}{s':dw}(h:jX gs w y xv vs w1 y1 BB vs1)(k:fC w1 n c gs g y1 BB vs1 s' w2):fC w n c gs g y xv vs s' w2:=by
 obtain ⟨y',vk,vs',h1,h2⟩:=k;exact ⟨y',vk,vs',h1,h.trans h2⟩
def NMo(w:World)(n:Nat):Prop:=∃ nb no cap,0<n/\nb<n/\w.cell? ⟨0,0,none⟩=some (.slice (some ⟨nb,no,none⟩) 4 cap)/\∀ i,i<4->w.cell? ⟨nb,no+i,none⟩=some (.string (nameK i))
theorem NMo.mod{w w':World}{n:Nat}{G:Nat->Prop}(h:NMo w n)(hm:Mod G w w')(hG:∀ k,k<n->¬ G k):NMo w' n:=by
 obtain ⟨nb,no,cap,h0,h1,h2,h3⟩:=h;exact ⟨nb,no,cap,h0,h1,hm.cell h2 (hG 0 h0),fun i hi=>hm.cell (h3 i hi) (hG nb h1)⟩
structure Hy(w:World)(n c m gs g:Nat)(y:dX)(xv:Value)(vs:List Value)(s:dw):Prop where
 fE:ef w n c gs g y xv vs s
 ok:pU m s
 nm:NMo w n
 et:ET w
 n1:1<n
 cc:c<=8000
 mm:m<=125
 lg:n<=gs
 now:0<=s.now/\s.now<=999
 MU:∀ t∈s.dV,t.ops.length<=m
theorem yPi(n c m gs g:Nat)(y:dX)(xv:Value)(vs:List Value)(s:dw)(w:World)(h:ef w n c gs g y xv vs s)(kr:n<=gs)(hl:s.dV.length<=7)(hh:s.h.dV.length<=60)(fr:Act)(hf:iu fr gs)(Yn:fr.tmps[14]?=some (.int .i64 0)){R:Act->World->Prop}
  (hN:∀ fr' wd,iu fr' gs->fC w n c gs g y xv vs (mb s) wd->R fr' wd) :
  Code.wp Tryz.prog ((Tryz.f10.body.bind (yd 2)).getD .skip) (uO R) fr w:=by
 conv=>arg 2;whnf
 obtain ⟨f,jF⟩:=hf.lit;have OX:f 14=.int .i64 0:=by rw [jF] at Yn;exact ax Yn
 rw [OX] at jF;subst jF;have HN:=dU hN;have HH:Hid (fC w n c gs g y xv vs (jP s 0) w):=by unfold Hid;rw [yLf];exact ⟨y,xv,vs,h,jX.quiet (Mod.refl _ _)⟩
 clear h hf Yn OX hN;go_wp2_with fail;go_loopw [14] (fun j0 wr=>∃ j:Nat,j<=s.dV.length/\j0=.int .i64 j/\fC w n c gs g y xv vs (jP s j) wr) (fun j0 _=>s.dV.length - (intOf j0).toNat)
 case atStart=>exact ⟨0,aV _,rfl,HH.out⟩
 case round=>
  obtain ⟨j,hjl,rfl,hR⟩:=hrel;clear HH;obtain ⟨y1,BB,vs1,hP,hM⟩:=hR;obtain ⟨xa,fk,hxv⟩:=fJ hP.row.2;rw [It] at hxv;subst hxv;obtain ⟨c0,c1,c2,-,-⟩:=gN hP.blk;have zg:=hP.blk.lt;dsimp only [jP] at c2;have vP:Hid (∀ id,Calls Tryz.prog 11 #[.pointer (some ⟨g,0,none⟩),.int .i64 id] wr fun e w'=>e=.returned (.int .i64 (ij s.h id))/\w'=wr):=fun id=>JD n c g y1 s.h id wr hP.house hh;by_cases rj:j<s.dV.length
  ·obtain ⟨t,ht⟩:∃ t,s.dV[j]?=some t:=⟨_,aA rj⟩;have RT:=ySw ht;obtain ⟨xb,cap',hx⟩:=hP.pJ RT;rw [It] at hx;simp only [Value.slice.injEq] at hx;obtain ⟨rfl,-,rfl⟩:=hx;obtain ⟨u,hu⟩:∃ u,vs1[j]?=some u:=⟨_,aA (by rw [hP.row.1,It];exact rj)⟩;have hrow:=hP.row.2;rw [It] at hrow;have ct:wr.cell? ⟨xb,j*3+2,none⟩=some (.int .i64 t.jx):=by
    have:=hrow.cells (g:=xb) rfl _ _ (Qw _ vs1 j t u hP.row.1 RT hu 2 _ rfl);rw [Go.WideShapes.add_plain,ah] at this;exact this
   have hx:(Value.slice (some ⟨xb,0,none⟩) s.dV.length fk).ownBlock=some xb:=rfl;obtain ⟨_,zx,cur',hc'⟩:=ft hrow hx;have fx:wr.frozen? ⟨xb,j*3+2,none⟩=false:=by simp [World.frozen?,hc']
   have Ni:(j:Int)<(s.dV.length:Int):=by omega
   have RZ:(0:Int)<=(j:Int):=by omega
   have ew:wrap64 ((j:Int)+1)=(j:Int)+1:=IntWalk.wrap64_in _ ⟨by omega,by omega⟩;have HP:=dU hP;have HM:=dU hM;have HT:=dU ht;have SY:=dU RT;clear hP hM ht RT hu hrow hx hc';by_cases h1:t.jx<0
   ·have hb1:decide (t.jx<0)=true:=aQ h1;by_cases h2:ij s.h ((j:Int)+1)=3
    ·have HQ:Hid (fC w n c gs g y xv vs (jP s (j+1)) (wr.setCell ⟨xb,j*3+2,none⟩ (.int .i64 s.now))):=by
      unfold Hid;rw [yPj HT.out h1 h2];refine fC.step HM.out ?_;have hp:=HP.out;have e:=It s j;rw [<-e] at hp ⊢;exact hp.CL kr SY.out s.now
     have hb2:(ij s.h ((j:Int)+1) == 3)=true:=by simpa using h2
     clear h1 h2 HT SY HP HM;go_wp2_with (first | (go_at_call 11;refine (vP.out _).mono ?_;rintro e w' ⟨rfl,rfl⟩) | fail);refine wp_region_still_tail 11 (by kernel_rfl) (by kernel_rfl) ?_;simp only [aq,bg,bR,bx]
     repeat still_step
     refine wpStill_nil ?_;go_wp2_with fail;go_roundw
     case rel=>exact ⟨j+1,by omega,by first | rfl | go_num,HQ.out.quiet ((Mod.refl _ _).drew)⟩
     case measure=>simp [intOf];omega
    ·have HQ:Hid (fC w n c gs g y xv vs (jP s (j+1)) wr):=by
      unfold Hid;rw [yLg HT.out (fun q=>h2 q.2)];exact ⟨y1,_,vs1,HP.out,HM.out⟩
     have hb2:(ij s.h ((j:Int)+1) == 3)=false:=by simpa using h2
     clear h1 h2 HT SY HP HM;go_wp2_with (first | (go_at_call 11;refine (vP.out _).mono ?_;rintro e w' ⟨rfl,rfl⟩) | fail);go_roundw
     case rel=>exact ⟨j+1,by omega,by first | rfl | go_num,HQ.out⟩
     case measure=>simp [intOf];omega
   ·have hb1:decide (t.jx<0)=false:=aP h1;have HQ:Hid (fC w n c gs g y xv vs (jP s (j+1)) wr):=by
     unfold Hid;rw [yLg HT.out (fun q=>h1 q.1)];exact ⟨y1,_,vs1,HP.out,HM.out⟩
    clear h1 HT SY HP HM;go_wp2_with fail;go_roundw
    case rel=>exact ⟨j+1,by omega,by first | rfl | go_num,HQ.out⟩
    case measure=>simp [intOf];omega
  ·obtain rfl:j=s.dV.length:=by omega
   have HQ:Hid (fC w n c gs g y xv vs (mb s) wr):=by unfold Hid;rw [<-yPk];exact ⟨y1,_,vs1,hP,hM⟩
   clear hP hM vP;go_wp2_with fail;show R _ _;exact HN.out _ _ ⟨rfl,rfl,rfl⟩ HQ.out
def Eo(x:ActD)(s2:dw):Prop:=(∃ pt:Nat,(decide ((s2.dV.length:Int) > 0)=true/\0<s2.dV.length/\decide (0<s2.dV.length)=true)/\(∀ wq,Calls Tryz.prog 18 #[.int .i64 x.tx,.int .i64 s2.dV.length] wq fun e w'=>e=.returned (.int .i64 pt)/\w'=wq)/\wrap64 (1+(pt:Int))=1+(pt:Int)/\IntKind.i64.wrap (1+(pt:Int))=1+(pt:Int)/\Value.int .i64 (fK s2 x:Nat)=.int .i64 (1+(pt:Int))) \/
  (decide ((s2.dV.length:Int) > 0)=false/\s2.dV=[]/\¬ (0:Int)<(s2.dV.length:Int)/\Value.int .i64 (fK s2 x:Nat)=.int .i64 0)
theorem yIs(x:ActD)(s2:dw)(fW:s2.dV.length<=7):Eo x s2:=by
 by_cases ht:0<s2.dV.length
 ·have hpl:=Aq x.tx s2.dV.length ht;refine .inl ⟨jb x.tx s2.dV.length,⟨aQ (by omega),ht,aQ ht⟩,fun wq=>Bv x.tx s2.dV.length wq ht (by omega),IntWalk.wrap64_in _ ⟨by omega,by omega⟩,IntWalk.i64_in _ ⟨by omega,by omega⟩,?_⟩;unfold fK;rw [aJ ht];exact ae (Value.int .i64) (by omega)
 ·refine .inr ⟨aP (by omega),aT (by omega),by omega,?_⟩;unfold fK;rw [aE ht];rfl
theorem yBd(n c m gs g:Nat)(y:dX)(xv:Value)(vs:List Value)(s:dw)(x:ActD)(w:World)(h:Hy w n c m gs g y xv vs s)(hv:fj x.value) :
  Calls Tryz.prog 10 #[.pointer (some ⟨gs,0,none⟩),.agg #[.int .i64 x.what,.int .i64 x.tx,.int .i64 x.a,.string x.value]] w fun e w'=>e=.returned (.tuple #[])/\fC w n (c+2) gs g y xv vs (kH s x) w':=by
 obtain ⟨w1,hw1⟩:∃ z,z=w.alloc (.cells #[.int .i64 x.what,.int .i64 x.tx,.int .i64 x.a,.string x.value] 34):=⟨_,rfl⟩;have di:Mod dZ w w1:=by rw [hw1];exact (Mod.refl _ w).alloc _
 have hb1:dh w1 w.heap.size [.int .i64 x.what,.int .i64 x.tx,.int .i64 x.a,.string x.value] 34:=by rw [hw1];exact dh.new w _ _
 have hs1:=h.fE.quiet di;obtain ⟨c0,c1,c2,c3,c4⟩:=gN hs1.blk;have f2:=hs1.blk.frozen 2;have zg:=hs1.blk.lt;have kc:=h.now;have e1:wrap64 (s.now+1)=s.now+1:=IntWalk.wrap64_in _ ⟨by omega,by omega⟩;obtain ⟨s2,ud⟩:∃ z:dw,z={ s with now:=s.now+1 }:=⟨_,rfl⟩;obtain ⟨w2,hw2⟩:∃ z,z=w1.setCell ⟨gs,2,none⟩ (.int .i64 (s.now+1)):=⟨_,rfl⟩;have hs2:ef w2 n c gs g y xv vs s2:=by rw [hw2,ud];exact hs1.tick h.lg _
 have lQ:jX gs w y xv vs w2 y xv vs:=⟨by rw [hw2];exact (di.mono (fun _ _ e=>e.elim)).trans ((Mod.dq gs 2 _).mono (fun k _ e=>.inr (.inl e))),fun _ _=>rfl,fun _ _ e=>e⟩;have EM:y.own w.heap.size=.no:=by
  by_cases e:y.own w.heap.size=.no
  ·exact e
  ·have:=(h.fE.house.own.lt _ e).2;omega
 have zL:¬ yZ gs xv vs w.heap.size:=fun e=>by have:=(h.fE.cells h.lg e).2.1;omega
 have mx:w.heap.size≠gs:=fun e=>by have:=h.fE.blk.lt;omega
 have hb2:dh w2 w.heap.size [.int .i64 x.what,.int .i64 x.tx,.int .i64 x.a,.string x.value] 34:=by rw [hw2];exact hb1.mod (Mod.dq gs 2 _) mx
 have jy:∀ k,k<n->¬ (y.own k≠.no\/yZ gs xv vs k):=fun k hk e=>by
  rcases e with e | e
  ·have:=(h.fE.house.own.lt k e).1;omega
  ·have:=(h.fE.cells h.lg e).1;omega
 have hET:ET w2:=lQ.md.cell h.et (jy 1 h.n1);have hNM:NMo w2 n:=h.nm.mod lQ.md jy;have PT:Hid (∀ wq,Mod dZ w2 wq->iR wq n c m gs g y xv vs s2 w.heap.size x):=fun wq hq=>⟨hs2.quiet hq,by rw [ud];exact h.ok.clock _,hET.mod hq,h.n1,h.cc,h.mm,h.lg,by rw [ud];exact ⟨by show (0:Int)<=s.now+1;omega,by show s.now+1<=(1000:Int);omega⟩,hb2.mod hq (fun e=>e),EM,zL,hv,by rw [ud];exact h.MU⟩;obtain ⟨nb,no,jh,n0,n1,n2,n3⟩:=hNM;have hka:=Aq x.a 4 (by omega);have n4:=n3 (jb x.a 4) hka;have HKEY:Hid (eP x=nameK (jb x.a 4)):=rfl;have xe:Hid (∀ wq,Calls Tryz.prog 18 #[.int .i64 x.a,.int .i64 4] wq fun e w'=>e=.returned (.int .i64 (jb x.a 4))/\w'=wq):=fun wq=>Bv x.a 4 wq (by omega) (by omega);obtain ⟨pk,hpk⟩:∃ z,z=jb x.a 4:=⟨_,rfl⟩;rw [<-hpk] at hka n4 HKEY xe;have wA:(pk:Int)<4:=by omega
 have qT:(0:Int)<=(pk:Int):=by omega
 obtain ⟨xa,fk,hxv⟩:=fJ hs2.row.2;have HXV:=dU hxv;have ZN:Hid (s2={ s with now:=s.now+1 }):=ud;obtain ⟨d0,d1,d2,d3,d4⟩:=gN hs2.blk;rw [hxv] at d1;have Pz:=hs2.blk.lt;have x0:=hb2.cell 0 rfl;have x1:=hb2.cell 1 rfl;have x2:=hb2.cell 2 rfl;have zx:=hb2.lt;have fW:s2.dV.length<=7:=by rw [ud];exact h.ok.few
 have HX:Hid (Eo x s2):=yIs x s2 fW;have gu:=dU lQ;have oZ:=dU h.ok;have sB:=dU h.lg;clear h hs1 hb1 di hs2 hb2 lQ EM zL mx jy hET n3 hxv ud hpk hv;go_enter Tryz.func10,Tryz.ntmps10;go_upto_region 1 with fail;rw [<-hw1];clear hw1;go_upto_region 2 with fail;rw [<-hw2];clear hw2 c0 c1 c2 c3 c4 f2 zg;go_upto_if 27 with fail;go_cut [4] (fun t wc=>t=.int .i64 (fK s2 x:Nat)/\Mod dZ w2 wc)
 case first=>
  rcases HX.out with ⟨pt,⟨hb,hb0,hb1⟩,HP,ew,Ry,he⟩ | ⟨hb,hb4,nP,he⟩
  ·have HP:=dU HP;have HE:=dU he;clear he;go_upto_region 4 with fail;refine wp_region_still_tail 9 (by kernel_rfl) (by kernel_rfl) ?_;simp only [aq,bg,bR,bx]
   repeat still_step
   still_call (HP.out _)
   repeat still_step
   refine wpStill_nil ?_;go_wp2_with fail;go_meet
   case rel=>exact ⟨HE.out.symm,(Mod.refl _ w2).drew⟩
  ·have HE:=dU he;clear he;go_wp2_with fail;go_meet
   case rel=>exact ⟨HE.out.symm,Mod.refl _ w2⟩
 case rest=>
  obtain ⟨rfl,mu⟩:=hcut;have y0:=mu.cell x0 id;have y1:=mu.cell x1 id;have y2:=mu.cell x2 id;have m2:=mu.cell n2 id;have m4:=mu.cell n4 id;have Ky:=dU mu;clear x0 x1 x2 d0 d1 d2 d3 d4 mu n2 n4 HX;go_upto_region 5 with fail;refine wp_region_still_tail 8 (by kernel_rfl) (by kernel_rfl) ?_;simp only [aq,bg,bR,bx]
  repeat still_step
  still_call (xe.out _)
  repeat still_step
  refine wpStill_nil ?_;rw [<-HKEY.out];have IE:=dU (PT.out _ Ky.out.drew);go_upto_block 0 with fail;refine wp_mono (Q:=uO ?R2) (Fh IE.out _ ⟨⟨rfl,rfl,rfl⟩,rfl,rfl,rfl,rfl⟩ ?R2 ?hN) ?hE
  case hE=>
   intro e a' wd hq
   cases e with
   | normal=>exact hq
   | ret=>exact hq.elim
   | exit id=>exact hq.elim
   | goto l=>exact hq.elim
   | panic ch=>exact hq.elim
   | outgrown=>exact hq.elim
  case hN=>
   intro fr' wd hf' hr;rename_i Kc yK;refine yK _ _ ?_;clear yK;obtain ⟨yA,BB,vs1,uG,py⟩:=hr;obtain ⟨a1,a2,a3,a4,a5,a6,a7,a8⟩:=LQ (IE.out.ok) x;have HMX:Hid (jX gs w y xv vs wd yA BB vs1):=(gu.out.trans (jX.quiet Ky.out.drew)).trans py;have DM:=dU uG;have HFW:=dU a5;have Zu:Hid ((dx s2 x).h.dV.length<=60):=by unfold Hid;omega
   clear a1 a2 a3 a4 a5 a6 a7 a8 uG py y0 y1 y2 m2 m4 PT IE xe;obtain ⟨f,rfl⟩:=hf'.lit;clear hf';go_upto_block 2 with fail;refine wp_mono (Q:=uO ?R3) (yPi n (c+2) m gs g _ BB vs1 _ wd DM.out sB.out HFW.out Zu.out _ ⟨rfl,rfl,rfl⟩ rfl (R:=?R3) ?hN) ?hE
   case hE=>
    intro e a' wd hq
    cases e with
    | normal=>exact hq
    | ret=>exact hq.elim
    | exit id=>exact hq.elim
    | goto l=>exact hq.elim
    | panic ch=>exact hq.elim
    | outgrown=>exact hq.elim
   case hN=>
    intro fr2 we hf2 hr2;have HF:Hid (fC w n (c+2) gs g y xv vs (kH s x) we):=by
     have:=fC.step HMX.out hr2;rw [ZN.out] at this;exact this
    exact ⟨hf2.df,_,results_none rfl _ _ _,rfl,HF.out⟩
end Go.Proofs.YtmaiggbnceejiaaGreatDoor
