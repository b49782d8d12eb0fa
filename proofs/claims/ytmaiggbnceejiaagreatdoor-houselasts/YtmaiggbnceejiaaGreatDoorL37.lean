import Derived.Test.YtmaiggbnceejiaaGreatDoorL33
set_option linter.unusedVariables false
set_option maxRecDepth 100000
set_option maxHeartbeats 16000000
namespace Go.Proofs.YtmaiggbnceejiaaGreatDoor
open Go.RowKit Go.Lib Go.Maps
variable {w w1:World}{n c gs g d:Nat}{y y1:dq}{xv:Value}{vs:List Value}{s':eF}{κ:Int}{G:Bool}
def CK(n:Nat):Code->Option Code
|.block m c=>if m==n then some (.block m c)else CK n c
|.loop c=>CK n c
|.seq a b=>match CK n a with
 |some c=>some c
 |none=>CK n b
|.scope c=>CK n c
|.cond _ a b=>match CK n a with
 |some c=>some c
 |none=>CK n b
|_=>none
def rY(w:World)(n c gs g:Nat)(y:dq)(xv:Value)(vs:List Value)(s':eF)(e:Act):Prop:=∀R:Act->World->Prop,(∀a b,jX a gs->fW w n (c+2) gs g y xv vs s' b->R a b) ->
  Code.wp Tryz.prog ((Tryz.f10.body.bind (CK 0)).getD .skip) (wG R) e w
theorem fW.refl{w':World}{s:eF}(h:fI w n c gs g y xv vs s)(a:Mod dt w w'):fW w n (c+2) gs g y xv vs s w':=⟨y,xv,vs,(h.quiet a).more (by omega),kM.quiet a⟩
section
variable {w:World}{n c m gs g:Nat}{y:dq}{xv:Value}{vs:List Value}{s:eF}{xb:Nat}{x:ActD}
theorem sw12(a:jH w n c m gs g y xv vs s xb x)(k:Act)(j:qZ k gs xb (ff s x) (fC x) x.what)(b:x.what=12):rY w n c gs g y xv vs (eV s x) k:=by
 intro R hN
 conv=>arg 2;whnf
 obtain⟨f,rfl⟩:=j.lit;rw[b];have hA:eV s x={s with h:=lQ s.h}:=by unfold eV;simp[b]
 rw[hA]at hN;have t:=(gb a.fJ.Z).1;have q:=a.fJ.Z.lt;have p:=dk hN;have l:=dk (a.calm);clear hN a j hA;go_wp2_with fail;refine(l.out _ (Mod.refl _ _)).mono ?_;rintro e w1⟨r,rfl,i⟩;have o:=dk i;clear i l;go_wp2_with fail;show R _ _;exact p.out _ _ ⟨rfl,rfl,rfl⟩ o.out
theorem sw11(a:jH w n c m gs g y xv vs s xb x)(k:Act)(j:qZ k gs xb (ff s x) (fC x) x.what)(b:x.what=11):rY w n c gs g y xv vs (eV s x) k:=by
 intro R hN
 conv=>arg 2;whnf
 obtain⟨f,rfl⟩:=j.lit;rw[b];have hA:eV s x={s with h:=ku s.h}:=by unfold eV;simp[b]
 rw[hA]at hN;have t:=(gb a.fJ.Z).1;have q:=a.fJ.Z.lt;have p:=dk hN;have l:=dk (a.fix);clear hN a j hA;go_wp2_with fail;refine(l.out _ (Mod.refl _ _)).mono ?_;rintro e w1⟨r,rfl,i⟩;have o:=dk i;clear i l;go_wp2_with fail;show R _ _;exact p.out _ _ ⟨rfl,rfl,rfl⟩ o.out
theorem sw9(a:jH w n c m gs g y xv vs s xb x)(k:Act)(j:qZ k gs xb (ff s x) (fC x) x.what)(b:x.what=9):rY w n c gs g y xv vs (eV s x) k:=by
 intro R hN
 conv=>arg 2;whnf
 obtain⟨f,rfl⟩:=j.lit;rw[b];have hA:eV s x={s with h:=kq s.h}:=by unfold eV;simp[b]
 rw[hA]at hN;have t:=(gb a.fJ.Z).1;have q:=a.fJ.Z.lt;have p:=dk hN;have l:=dk (a.tick);clear hN a j hA;go_wp2_with fail;refine(l.out _ (Mod.refl _ _)).mono ?_;rintro e w1⟨r,rfl,i⟩;have o:=dk i;clear i l;go_wp2_with fail;show R _ _;exact p.out _ _ ⟨rfl,rfl,rfl⟩ o.out
theorem sw4(a:jH w n c m gs g y xv vs s xb x)(k:Act)(j:qZ k gs xb (ff s x) (fC x) x.what)(b:x.what=4):rY w n c gs g y xv vs (eV s x) k:=by
 intro R hN
 conv=>arg 2;whnf
 obtain⟨f,rfl⟩:=j.lit;rw[b];have hA:eV s x={s with h:=(gK s.h (ff s x:Nat)).1}:=by unfold eV;simp[b]
 rw[hA]at hN;have t:=(gb a.fJ.Z).1;have q:=a.fJ.Z.lt;have p:=dk hN;have l:=dk (a.end_ (ff s x:Nat));clear hN a j hA;go_wp2_with fail;refine(l.out _ (Mod.refl _ _)).mono ?_;rintro e w1⟨r,rfl,i⟩;have o:=dk i;clear i l;go_wp2_with fail;show R _ _;exact p.out _ _ ⟨rfl,rfl,rfl⟩ o.out
theorem sw5a(b:jH w n c m gs g y xv vs s xb x)(o:Act)(l:qZ o gs xb (ff s x) (fC x) x.what)(j:x.what=5)(i:x.a.tmod 4=0):rY w n c gs g y xv vs (eV s x) o:=by
 intro R hN
 conv=>arg 2;whnf
 obtain⟨f,rfl⟩:=l.lit;rw[j];have hA:eV s x={s with h:=(oz s.h (ff s x:Nat)).1}:=by unfold eV;simp[j,i]
 rw[hA]at hN;have B:=(gb b.fJ.Z).1;have u:=b.fJ.Z.lt;have r:=dk hN;have p:=dk (b.drop (ff s x:Nat));have v:=b.act.cell 2 rfl;have t:=b.act.lt;have z:(x.a.tmod 4==0)=true:=by simpa using i
 clear hN b l hA i;go_wp2_with fail;refine(p.out _ (Mod.refl _ _)).mono ?_;rintro e w1⟨A,rfl,k⟩;have q:=dk k;clear k p;go_wp2_with fail;show R _ _;exact r.out _ _ ⟨rfl,rfl,rfl⟩ q.out
theorem sw5b(b:jH w n c m gs g y xv vs s xb x)(j:Act)(i:qZ j gs xb (ff s x) (fC x) x.what)(h:x.what=5)(e:x.a.tmod 4≠0):rY w n c gs g y xv vs (eV s x) j:=by
 intro R hN
 conv=>arg 2;whnf
 obtain⟨f,rfl⟩:=i.lit;rw[h];have hA:eV s x=s:=by unfold eV;simp[h,e]
 rw[hA]at hN;have t:=(gb b.fJ.Z).1;have p:=b.fJ.Z.lt;have l:=dk hN;have k:=dk (fW.refl b.fJ (Mod.refl _ _));have q:=b.act.cell 2 rfl;have o:=b.act.lt;have r:(x.a.tmod 4==0)=false:=by simpa using e
 clear hN b i hA e;go_wp2_with fail;show R _ _;exact l.out _ _ ⟨rfl,rfl,rfl⟩ k.out
theorem sw6a(b:jH w n c m gs g y xv vs s xb x)(u:Act)(t:qZ u gs xb (ff s x) (fC x) x.what)(o:x.what=6)(j:0<s.h.J.way.length):rY w n c gs g y xv vs (eV s x) u:=by
 intro R hN
 conv=>arg 2;whnf
 obtain⟨f,rfl⟩:=t.lit;rw[o];have hA:eV s x={s with h:=jU s.h (ko x.a s.h.J.way.length)}:=by unfold eV;simp[o,j]
 rw[hA]at hN;have O:=(gb b.fJ.Z).1;have H:=b.fJ.Z.lt;have q:=dk hN;have k:=dk (b.fj (ko x.a s.h.J.way.length) (FT _ _ j));have v:=dk b.many;have D:=b.fJ.house.J.few;have p:Hid (∀i,Calls Tryz.prog 18 #[.int .i64 x.a,.int .i64 s.h.J.way.length] i λe B=>e=.returned (.int .i64 (ko x.a s.h.J.way.length))/\B=i):=λi=>IT x.a _ i j (by omega);have I:=b.act.cell 2 rfl;have A:=b.act.cell 0 rfl;rw[o]at A;have F:=b.act.lt;obtain⟨l,ql⟩:∃z,z=s.h.J.way.length:=⟨_,rfl⟩;rw[<-ql]at j v p k D q;have M:decide ((l:Int) > 0)=true:=aQ (by omega);have C:(0:Int)<(l:Int):=by omega
 obtain⟨pk,hpk⟩:∃z,z=ko x.a l:=⟨_,rfl⟩;rw[<-hpk]at p k q;clear hN b t hA ql hpk;go_wp2_with fail;refine(v.out _ (Mod.refl _ _)).mono ?_;rintro e w1⟨rfl,rfl⟩;go_wp2_with fail;refine(p.out _).mono ?_;rintro e L⟨rfl,rfl⟩;go_wp2_with fail;refine(k.out _ (Mod.refl _ _)).mono ?_;rintro e K⟨N,rfl,r⟩;have E:=dk r;clear r k;go_wp2_with fail;show R _ _;exact q.out _ _ ⟨rfl,rfl,rfl⟩ E.out
theorem sw6b(a:jH w n c m gs g y xv vs s xb x)(k:Act)(j:qZ k gs xb (ff s x) (fC x) x.what)(i:x.what=6)(b:¬0<s.h.J.way.length):rY w n c gs g y xv vs (eV s x) k:=by
 intro R hN
 conv=>arg 2;whnf
 obtain⟨f,rfl⟩:=j.lit;rw[i];have hA:eV s x=s:=by unfold eV;simp[i,b]
 rw[hA]at hN;have r:=(gb a.fJ.Z).1;have q:=a.fJ.Z.lt;have p:=dk hN;have o:=dk (fW.refl a.fJ (Mod.refl _ _));have l:=dk a.many;obtain⟨wl,ql⟩:∃z,z=s.h.J.way.length:=⟨_,rfl⟩;rw[<-ql]at b l;obtain rfl:wl=0:=by omega
 clear hN a j hA ql b;go_wp2_with fail;refine(l.out _ (Mod.refl _ _)).mono ?_;rintro e w1⟨rfl,rfl⟩;go_wp2_with fail;show R _ _;exact p.out _ _ ⟨rfl,rfl,rfl⟩ o.out
theorem sw7a(b:jH w n c m gs g y xv vs s xb x)(u:Act)(t:qZ u gs xb (ff s x) (fC x) x.what)(l:x.what=7)(o:0<s.h.J.way.length):rY w n c gs g y xv vs (eV s x) u:=by
 intro R hN
 conv=>arg 2;whnf
 obtain⟨f,rfl⟩:=t.lit;rw[l];have hA:eV s x={s with h:=(qH s.h (ko x.a s.h.J.way.length:Nat)).1}:=by unfold eV;simp[l,o]
 rw[hA]at hN;have O:=(gb b.fJ.Z).1;have H:=b.fJ.Z.lt;have q:=dk hN;have j:=dk (b.rM (ko x.a s.h.J.way.length));have v:=dk b.many;have D:=b.fJ.house.J.few;have p:Hid (∀i,Calls Tryz.prog 18 #[.int .i64 x.a,.int .i64 s.h.J.way.length] i λe B=>e=.returned (.int .i64 (ko x.a s.h.J.way.length))/\B=i):=λi=>IT x.a _ i o (by omega);have I:=b.act.cell 2 rfl;have A:=b.act.cell 0 rfl;rw[l]at A;have F:=b.act.lt;obtain⟨k,ql⟩:∃z,z=s.h.J.way.length:=⟨_,rfl⟩;rw[<-ql]at o v p j D q;have M:decide ((k:Int) > 0)=true:=aQ (by omega);have C:(0:Int)<(k:Int):=by omega
 obtain⟨pk,hpk⟩:∃z,z=ko x.a k:=⟨_,rfl⟩;rw[<-hpk]at p j q;clear hN b t hA ql hpk;go_wp2_with fail;refine(v.out _ (Mod.refl _ _)).mono ?_;rintro e w1⟨rfl,rfl⟩;go_wp2_with fail;refine(p.out _).mono ?_;rintro e L⟨rfl,rfl⟩;go_wp2_with fail;refine(j.out _ (Mod.refl _ _)).mono ?_;rintro e K⟨N,rfl,r⟩;have E:=dk r;clear r j;go_wp2_with fail;show R _ _;exact q.out _ _ ⟨rfl,rfl,rfl⟩ E.out
theorem sw7b(a:jH w n c m gs g y xv vs s xb x)(k:Act)(j:qZ k gs xb (ff s x) (fC x) x.what)(i:x.what=7)(b:¬0<s.h.J.way.length):rY w n c gs g y xv vs (eV s x) k:=by
 intro R hN
 conv=>arg 2;whnf
 obtain⟨f,rfl⟩:=j.lit;rw[i];have hA:eV s x=s:=by unfold eV;simp[i,b]
 rw[hA]at hN;have r:=(gb a.fJ.Z).1;have q:=a.fJ.Z.lt;have p:=dk hN;have o:=dk (fW.refl a.fJ (Mod.refl _ _));have l:=dk a.many;obtain⟨wl,ql⟩:∃z,z=s.h.J.way.length:=⟨_,rfl⟩;rw[<-ql]at b l;obtain rfl:wl=0:=by omega
 clear hN a j hA ql b;go_wp2_with fail;refine(l.out _ (Mod.refl _ _)).mono ?_;rintro e w1⟨rfl,rfl⟩;go_wp2_with fail;show R _ _;exact p.out _ _ ⟨rfl,rfl,rfl⟩ o.out
theorem sw8a(b:jH w n c m gs g y xv vs s xb x)(u:Act)(t:qZ u gs xb (ff s x) (fC x) x.what)(l:x.what=8)(o:0<s.h.J.way.length):rY w n c gs g y xv vs (eV s x) u:=by
 intro R hN
 conv=>arg 2;whnf
 obtain⟨f,rfl⟩:=t.lit;rw[l];have hA:eV s x={s with h:=(oP s.h (ko x.a s.h.J.way.length:Nat)).1}:=by unfold eV;simp[l,o]
 rw[hA]at hN;have O:=(gb b.fJ.Z).1;have H:=b.fJ.Z.lt;have q:=dk hN;have j:=dk (b.twice (ko x.a s.h.J.way.length));have v:=dk b.many;have D:=b.fJ.house.J.few;have p:Hid (∀i,Calls Tryz.prog 18 #[.int .i64 x.a,.int .i64 s.h.J.way.length] i λe B=>e=.returned (.int .i64 (ko x.a s.h.J.way.length))/\B=i):=λi=>IT x.a _ i o (by omega);have I:=b.act.cell 2 rfl;have A:=b.act.cell 0 rfl;rw[l]at A;have F:=b.act.lt;obtain⟨k,ql⟩:∃z,z=s.h.J.way.length:=⟨_,rfl⟩;rw[<-ql]at o v p j D q;have M:decide ((k:Int) > 0)=true:=aQ (by omega);have C:(0:Int)<(k:Int):=by omega
 obtain⟨pk,hpk⟩:∃z,z=ko x.a k:=⟨_,rfl⟩;rw[<-hpk]at p j q;clear hN b t hA ql hpk;go_wp2_with fail;refine(v.out _ (Mod.refl _ _)).mono ?_;rintro e w1⟨rfl,rfl⟩;go_wp2_with fail;refine(p.out _).mono ?_;rintro e L⟨rfl,rfl⟩;go_wp2_with fail;refine(j.out _ (Mod.refl _ _)).mono ?_;rintro e K⟨N,rfl,r⟩;have E:=dk r;clear r j;go_wp2_with fail;show R _ _;exact q.out _ _ ⟨rfl,rfl,rfl⟩ E.out
theorem sw8b(a:jH w n c m gs g y xv vs s xb x)(k:Act)(j:qZ k gs xb (ff s x) (fC x) x.what)(i:x.what=8)(b:¬0<s.h.J.way.length):rY w n c gs g y xv vs (eV s x) k:=by
 intro R hN
 conv=>arg 2;whnf
 obtain⟨f,rfl⟩:=j.lit;rw[i];have hA:eV s x=s:=by unfold eV;simp[i,b]
 rw[hA]at hN;have r:=(gb a.fJ.Z).1;have q:=a.fJ.Z.lt;have p:=dk hN;have o:=dk (fW.refl a.fJ (Mod.refl _ _));have l:=dk a.many;obtain⟨wl,ql⟩:∃z,z=s.h.J.way.length:=⟨_,rfl⟩;rw[<-ql]at b l;obtain rfl:wl=0:=by omega
 clear hN a j hA ql b;go_wp2_with fail;refine(l.out _ (Mod.refl _ _)).mono ?_;rintro e w1⟨rfl,rfl⟩;go_wp2_with fail;show R _ _;exact p.out _ _ ⟨rfl,rfl,rfl⟩ o.out
theorem sw10(i:jH w n c m gs g y xv vs s xb x)(r:Act)(q:qZ r gs xb (ff s x) (fC x) x.what)(o:x.what=10):rY w n c gs g y xv vs (eV s x) r:=by
 intro R hN
 conv=>arg 2;whnf
 obtain⟨f,rfl⟩:=q.lit;rw[o];have hA:eV s x={s with h:=CF s (ko x.a 3) (ko x.I s.nodes)}:=by unfold eV;simp[o]
 rw[hA]at hN;have J:=(gb i.fJ.Z).1;have C:=i.fJ.Z.lt;have v:=dk hN;have k:=i.ok.nodes;have l:=dk (i.fails (ko x.a 3) (ko x.I s.nodes) (FT _ _ (by omega)) (by have:=FT x.I s.nodes (by omega);omega));have u:Hid (∀b,Calls Tryz.prog 18 #[.int .i64 x.a,.int .i64 3] b λe j=>e=.returned (.int .i64 (ko x.a 3))/\j=b):=λb=>IT x.a 3 b (by omega) (by omega);have t:Hid (∀b,Calls Tryz.prog 18 #[.int .i64 x.I,.int .i64 s.nodes] b λe j=>e=.returned (.int .i64 (ko x.I s.nodes))/\j=b):=λb=>IT x.I _ b (by omega) (by omega);have E:=i.act.cell 1 rfl;have D:=i.act.cell 2 rfl;have H:=(gb i.fJ.Z).2.2.2.2;have B:=i.act.lt;obtain⟨pa,Lj⟩:∃z,z=ko x.a 3:=⟨_,rfl⟩;obtain⟨pt,hpt⟩:∃z,z=ko x.I s.nodes:=⟨_,rfl⟩;rw[<-Lj,<-hpt]at l v;rw[<-Lj]at u;rw[<-hpt]at t;clear hN i q hA Lj hpt k;go_upto_region 43 with fail;refine wp_region_still_tail 11 (by kernel_rfl) (by kernel_rfl) ?_;simp only[az,bu,bb,cI]
 repeat still_step
 still_call (u.out _)
 repeat still_step
 still_call (t.out _)
 repeat still_step
 refine B9 ?_;go_wp2_with fail;refine(l.out _ ((Mod.refl _ _).drew)).mono ?_;rintro e w1⟨F,rfl,p⟩;have A:=dk p;clear p l;go_wp2_with fail;show R _ _;exact v.out _ _ ⟨rfl,rfl,rfl⟩ A.out
end
theorem fW.after{b:World}(h:il w y w1 y1)(k:fW w1 n c gs g y1 xv vs s' b)(f:c<=d):fW w n d gs g y xv vs s' b:=by
 obtain⟨e,l,a,j,i⟩:=k;exact⟨e,l,a,j.more f,(kM.steps h).trans i⟩
theorem fW.only(h:il w y w1 y1)(k:fI w1 n c gs g y1 xv vs s')(a:c<=d):fW w n d gs g y xv vs s' w1:=⟨y1,xv,vs,k.more a,kM.steps h⟩
section
variable {w:World}{n c m gs g:Nat}{y:dq}{xv:Value}{vs:List Value}{s:eF}{xb:Nat}{x:ActD}
theorem sw0a(b:jH w n c m gs g y xv vs s xb x)(D:Act)(B:qZ D gs xb (ff s x) (fC x) x.what)(A:x.what=0)(C:s.U.length<7):rY w n c gs g y xv vs (eV s x) D:=by
 intro R hN
 conv=>arg 2;whnf
 obtain⟨f,rfl⟩:=B.lit;rw[A];have hA:eV s x={s with h:=mB s.h,U:=s.U++[⟨[],s.now,-1⟩]}:=by unfold eV;simp[A,C]
 rw[hA]at hN;have K:=(gb b.fJ.Z).1;have O:=b.fJ.Z.lt;have M:=dk hN;obtain⟨P,T,p⟩:=fU b.fJ.row.2;subst p;have E:=(gb b.fJ.Z).2.1;have u:=dk b.begin;have N:=dk b.lg;obtain⟨o,htl⟩:∃z,z=s.U.length:=⟨_,rfl⟩;have F:=dk htl;rw[<-htl]at C E u;have S:decide ((o:Int)<7)=true:=aQ (by omega);have J:(o:Int)<7:=by omega
 have V:wrap64 ((o:Int)+1)=(o:Int)+1:=B7 _ ⟨by omega,by omega⟩;clear hN b B hA htl;go_wp2_with fail;refine(u.out _ (Mod.refl _ _)).mono ?_;rintro e w1⟨rfl,y1,a,k⟩;have W:=(gb a.Z).2.1;have H:=a.Z.lt;rw[F.out]at a;have L:=dk a;have t:=dk k;have j:s.U.length<=100:=by rw[<-F.out];omega
 clear a k u K E;go_upto_region 11 with fail;refine wp_mono (Q:=wG ?R2) (Rq (R:=?R2) n c gs g y1 _ vs _ w1 L.out N.out j _ ⟨rfl,rfl,rfl⟩ ?hN) ?hE
 case hE=>
  intro e Y v i
  cases e with
 |normal=>exact i
 |ret=>exact i.elim
 |exit id=>exact i.elim
 |goto l=>exact i.elim
 |panic X=>exact i.elim
 |outgrown=>exact i.elim
 case hN=>
  intro r v q I;exact M.out r v q (fW.after t.out I (by omega))
theorem sw0b(a:jH w n c m gs g y xv vs s xb x)(k:Act)(i:qZ k gs xb (ff s x) (fC x) x.what)(h:x.what=0)(j:¬s.U.length<7):rY w n c gs g y xv vs (eV s x) k:=by
 intro R hN
 conv=>arg 2;whnf
 obtain⟨f,rfl⟩:=i.lit;rw[h];have hA:eV s x=s:=by unfold eV;simp[h,j]
 rw[hA]at hN;have A:=(gb a.fJ.Z).1;have r:=a.fJ.Z.lt;have o:=dk hN;have l:=dk (fW.refl a.fJ (Mod.refl _ _));obtain⟨t,v,b⟩:=fU a.fJ.row.2;subst b;have q:=(gb a.fJ.Z).2.1;obtain⟨e,htl⟩:∃z,z=s.U.length:=⟨_,rfl⟩;rw[<-htl]at j q l o;have u:decide ((e:Int)<7)=false:=aN (by omega);have p:¬(e:Int)<7:=by omega
 clear hN a i hA htl;go_wp2_with fail;show R _ _;exact o.out _ _ ⟨rfl,rfl,rfl⟩ l.out
theorem yCn{dh:List eY}{i:Nat}{t:eY}(h:dh[i]?=some t)(o:fm):fM dh (i+1) o=dh.set i ⟨t.ops++[o],t.eP,t.fN⟩:=by
 unfold fM;rw[bL,h]
theorem yRh{s:eF}{x:ActD}(h:0<ff s x):∃i t,ff s x=i+1/\s.U[i]?=some t:=by
 unfold ff at h⊢;split at h
 .rename_i e;rw[aK e];have:=FT x.I s.U.length e;exact⟨ko x.I s.U.length,_,by omega,aA this⟩
 .omega
theorem sw1a(b:jH w n c m gs g y xv vs s xb x)(J:Act)(I:qZ J gs xb (ff s x) (fC x) x.what)(H:x.what=1)(C:(fG s.h (ff s x:Nat) (fC x)).2.2.2=0)(A:0<ff s x):rY w n c gs g y xv vs (eV s x) J:=by
 intro R hN
 conv=>arg 2;whnf
 obtain⟨f,rfl⟩:=I.lit;rw[H];have hA:eV s x={s with h:=(fG s.h (ff s x:Nat) (fC x)).1,U:=fM s.U (ff s x) ⟨1,fC x,(fG s.h (ff s x:Nat) (fC x)).2.1,(fG s.h (ff s x:Nat) (fC x)).2.2.1⟩}:=by unfold eV;simp[H,C,A]
 rw[hA]at hN;have P:=(gb b.fJ.Z).1;have Y:=b.fJ.Z.lt;have u:=dk hN;obtain⟨i,t,q,a⟩:=yRh A;obtain⟨T,O,v⟩:=b.fJ.oQ a;subst v;have X:=dk b.lg;have j:=dk (b.get (ff s x:Nat) (fC x) (Ns x));have L:Hid (t.ops.length<=1000):=by have:=b.Ru t (aC a);have:=b.mm;unfold Hid;omega
 have K:Hid (s.U.length<=100):=by have:=b.ok.few;unfold Hid;omega
 rw[C,pM]at j;rw[q]at j u⊢;rw[yCn a]at u;obtain⟨key,hkey⟩:∃z,z=fC x:=⟨_,rfl⟩;rw[<-hkey]at j u⊢;obtain⟨r,fK⟩:∃z,z=fG s.h ((i+1:Nat):Int) key:=⟨_,rfl⟩;rw[<-fK]at j u;obtain⟨id,mW⟩:∃z:Int,z=((i+1:Nat):Int):=⟨_,rfl⟩;rw[<-mW]at j⊢;have hb:decide (id > 0)=true:=aQ (by omega);have N:0<id:=by omega
 have S:Hid (id=(i:Int)+1):=by unfold Hid;omega
 have W:=dk a;clear hN b I hA mW fK hkey q A C a;go_wp2_with fail;refine(j.out _ (Mod.refl _ _)).mono ?_;rintro e w1⟨rfl,y1,p,o⟩;have V:=dk p;have E:=dk o;clear p o j P;go_upto_region 15 with fail;refine wp_mono (Q:=wG ?R2) (Rp (R:=?R2) n (c+2) gs g T O i id key r.2.1 r.2.2.1 t y1 vs {s with h:=r.1} w1 V.out X.out W.out S.out K.out L.out _ ⟨rfl,rfl,rfl⟩ rfl rfl rfl rfl ?hN) ?hE
 case hE=>
  intro e a' F k
  cases e with
 |normal=>exact k
 |ret=>exact k.elim
 |exit id=>exact k.elim
 |goto l=>exact k.elim
 |panic ch=>exact k.elim
 |outgrown=>exact k.elim
 case hN=>
  intro D F B M;exact u.out D F B (fW.after E.out M (by omega))
theorem sw1b(k:jH w n c m gs g y xv vs s xb x)(u:Act)(t:qZ u gs xb (ff s x) (fC x) x.what)(p:x.what=1)(j:¬((fG s.h (ff s x:Nat) (fC x)).2.2.2=0/\0<ff s x)):rY w n c gs g y xv vs (eV s x) u:=by
 intro R hN
 conv=>arg 2;whnf
 obtain⟨f,rfl⟩:=t.lit;rw[p];have hA:eV s x={s with h:=(fG s.h (ff s x:Nat) (fC x)).1}:=by unfold eV;simp[p,j]
 rw[hA]at hN;have v:=(gb k.fJ.Z).1;have B:=k.fJ.Z.lt;have l:=dk hN;have i:=dk (k.get (ff s x:Nat) (fC x) (Ns x));obtain⟨key,hkey⟩:∃z,z=fC x:=⟨_,rfl⟩;rw[<-hkey]at i l j⊢;obtain⟨r,fK⟩:∃z,z=fG s.h ((ff s x:Nat):Int) key:=⟨_,rfl⟩;rw[<-fK]at i l j;obtain⟨id,mW⟩:∃z:Int,z=((ff s x:Nat):Int):=⟨_,rfl⟩;rw[<-mW]at i⊢;have A:(r.2.2.2=0/\id=0)\/r.2.2.2≠0:=by
  by_cases e:r.2.2.2=0
  .exact .inl ⟨e,by have:¬0<ff s x:=λq=>j ⟨e,q⟩;omega⟩
  .exact .inr e
 clear hN k t hA mW fK hkey j;obtain⟨e1,rfl⟩|e1:=A
 .rw[e1,pM]at i;clear e1;go_wp2_with fail;refine(i.out _ (Mod.refl _ _)).mono ?_;rintro e w1⟨rfl,y1,b,a⟩;have o:=dk (fW.only (d:=c+2) a b (by omega));clear b a i v;go_wp2_with fail;show R _ _;exact l.out _ _ ⟨rfl,rfl,rfl⟩ o.out
 .rw[nL e1]at i;clear e1;go_wp2_with fail;refine(i.out _ (Mod.refl _ _)).mono ?_;rintro e w1⟨rfl,y1,b,a⟩;have o:=dk (fW.only (d:=c+2) a b (by omega));clear b a i v;go_wp2_with fail;show R _ _;exact l.out _ _ ⟨rfl,rfl,rfl⟩ o.out
theorem swN(v:jH w n c m gs g y xv vs s xb x)(B:Act)(A:qZ B gs xb (ff s x) (fC x) x.what)(a:∀k:Nat,k<13->x.what≠k):rY w n c gs g y xv vs (eV s x) B:=by
 intro R hN
 conv=>arg 2;whnf
 obtain⟨f,rfl⟩:=A.lit;have hA:eV s x=s:=by
  unfold eV;have h0:=a 0 (by omega);have u:=a 1 (by omega);have t:=a 2 (by omega);have r:=a 3 (by omega);have q:=a 4 (by omega);have p:=a 5 (by omega);have o:=a 6 (by omega);have l:=a 7 (by omega);have j:=a 8 (by omega);have i:=a 9 (by omega);have h:=a 10 (by omega);have e:=a 11 (by omega);have b:=a 12 (by omega);simp at h0 u t r q p o l j i h e b;simp[h0,u,t,r,q,p,o,l,j,i,h,e,b]
 rw[hA]at hN;have C:=dk (fW.refl v.fJ (Mod.refl _ _));have D:=dk hN;obtain⟨wh,vp⟩:∃z,z=x.what:=⟨_,rfl⟩;rw[<-vp]at a⊢;have h0:(wh==0)=false:=by have:=a 0 (by omega);simpa using this
 have u:(wh==1)=false:=by have:=a 1 (by omega);simpa using this
 have t:(wh==2)=false:=by have:=a 2 (by omega);simpa using this
 have r:(wh==3)=false:=by have:=a 3 (by omega);simpa using this
 have q:(wh==4)=false:=by have:=a 4 (by omega);simpa using this
 have p:(wh==5)=false:=by have:=a 5 (by omega);simpa using this
 have o:(wh==6)=false:=by have:=a 6 (by omega);simpa using this
 have l:(wh==7)=false:=by have:=a 7 (by omega);simpa using this
 have j:(wh==8)=false:=by have:=a 8 (by omega);simpa using this
 have i:(wh==9)=false:=by have:=a 9 (by omega);simpa using this
 have h:(wh==10)=false:=by have:=a 10 (by omega);simpa using this
 have e:(wh==11)=false:=by have:=a 11 (by omega);simpa using this
 have b:(wh==12)=false:=by have:=a 12 (by omega);simpa using this
 clear hN v A hA vp a;go_wp2_with fail;show R _ _;exact D.out _ _ ⟨rfl,rfl,rfl⟩ C.out
end
section
variable {w:World}{n c m gs g:Nat}{y:dq}{xv:Value}{vs:List Value}{s:eF}{xb:Nat}{x:ActD}
theorem It(hκ:(κ=2/\G=false)\/(κ=3/\G=true))(o:jH w n c m gs g y xv vs s xb x)(fr:Act)(hf:qZ fr gs xb (ff s x) (fC x) x.what)(L:x.what=κ)(M:¬9<x.value.size)(F:(fg s.h (ff s x:Nat) ⟨fC x,iP x,G⟩).2=0)(hi:0<ff s x)(hA:eV s x={s with h:=(fg s.h (ff s x:Nat) ⟨fC x,iP x,G⟩).1,U:=fM s.U (ff s x) ⟨κ,fC x,iP x,false⟩}):rY w n c gs g y xv vs (eV s x) fr:=by
 intro R hN
 conv=>arg 2;whnf
 obtain⟨f,rfl⟩:=hf.lit;rw[L];rw[hA]at hN;have T:=(gb o.fJ.Z).1;have zg:=o.fJ.Z.lt;have B:=dk hN;have hV:iP x=x.value:=by unfold iP;rw[aH M]
 have D:gP x.value:=by have:=o.val;unfold gP at this⊢;exact this
 rw[hV]at B F;have v:=dk (o.put (ff s x:Nat) ⟨fC x,x.value,G⟩ (Ns x) D);have J:=o.act.cell 0 rfl;have X:=o.act.cell 3 rfl;rw[L]at J;have zx:=o.act.lt;have k:=dk o;obtain⟨key,hkey⟩:∃z,z=fC x:=⟨_,rfl⟩;rw[<-hkey]at B v F⊢;obtain⟨r,fK⟩:∃z,z=fg s.h (ff s x:Nat) ⟨key,x.value,G⟩:=⟨_,rfl⟩;rw[<-fK]at v B F;obtain⟨w1,hw1⟩:∃z,z=w.alloc (.cells #[.string key,.string x.value,.bool G] 68):=⟨_,rfl⟩;have H:Mod dt w w1:=by rw[hw1];exact(Mod.refl _ w).alloc _
 have j:dx w1 w.heap.size [.string key,.string x.value,.bool G] 68:=by rw[hw1];exact dx.new w _ _
 have d0:=H.cell T id;have y0:=H.cell J id;have y3:=H.cell X id;have b1:=j.cell 1 rfl;have f1:=j.frozen 1;have zb:=j.lt;have hsz:decide ((x.value.size:Int) > 9)=false:=aN (by omega);have Lc:¬(9:Int)<(x.value.size:Int):=by omega
 have hsz4:¬9<x.value.size:=M;obtain⟨w2,hw2⟩:∃z,z=w1:=⟨_,rfl⟩;have q:Mod dt w w2:=by rw[hw2];exact H
 have a:dx w2 w.heap.size [.string key,.string x.value,.bool G] 68:=by rw[hw2];exact j
 obtain⟨i,t,E,b⟩:=yRh hi;obtain⟨Rf,fY,K⟩:=k.out.fJ.oQ b;subst K;have pX:Hid (t.ops.length<=1000):=by have:=k.out.Ru t (aC b);have:=k.out.mm;unfold Hid;omega
 have qE:Hid (s.U.length<=100):=by have:=k.out.ok.few;unfold Hid;omega
 rw[F,pM]at v;rw[E]at v B⊢;rw[yCn b]at B;obtain⟨id,mW⟩:∃z:Int,z=((i+1:Nat):Int):=⟨_,rfl⟩;rw[<-mW]at v⊢;have hb:decide (id > 0)=true:=aQ (by omega);have Ai:0<id:=by omega
 have VH:Hid (id=(i:Int)+1):=by unfold Hid;omega
 have HT:=dk b;have P:=dk q;have mi:=dk a;have v0:=P.out.cell T (λe=>e);have p0:=a.cell 0 rfl;have p1:=a.cell 1 rfl;have p2:=a.cell 2 rfl;have Vb:=aJ zg q.size;have Vc:=a.lt;clear hN o hf hA hkey fK a q j H hV D mW hi E b F M;rcases hκ with⟨rfl,rfl⟩|⟨rfl,rfl⟩
 all_goals
  go_upto_region 19 with fail;rw[<-hw1];clear hw1;go_upto_region 21 with fail;rw[<-hw2];clear hw2 T J X d0 y0 y3 b1 f1 zb;refine wp_region_still_tail 6 (by kernel_rfl) (by kernel_rfl) ?_;simp only[az,bu,bb,cI]
  repeat still_step
  refine B9 ?_;go_wp2_with fail;refine(v.out _ P.out.drew).mono ?_;rintro e w3⟨rfl,y1,C,p⟩;have Hr:=dk C;have I:Hid (il w y w3 y1):=(il.quiet P.out.drew).trans p;have JH:y.own w.heap.size=.no:=by
   by_cases e:y.own w.heap.size=.no
   .exact e
   .have:=(k.out.fJ.house.own.lt _ e).2;omega
  have W:=dk (p.Z (mi.out.mod (Mod.refl dt _).drew (λe=>e)) JH);have VS:=dk ((I.out.Z k.out.act k.out.xn).cell 0 rfl);rw[L]at VS;have Ux:Hid (∀u∈vs,u.ownBlock≠some xb):=λu N e=>k.out.xs (.inr (.inr ⟨u,N,e⟩));have V:Hid (∀u∈vs,u.ownBlock≠some w.heap.size):=λu N e=>by have:=(k.out.fJ.cells k.out.lg (.inr (.inr ⟨u,N,e⟩))).2.1;omega
  clear C p JH v v0 p0 p1 p2;go_upto_region 22 with fail;refine wp_mono (Q:=wG ?R2) (JA (R:=?R2) n (c+2) gs g Rf fY i id key x.value t y1 vs {s with h:=r.1} w3 Hr.out k.out.lg HT.out VH.out qE.out pX.out xb w.heap.size _ VS.out (W.out.cell 1 rfl) Ux.out V.out _ ⟨rfl,rfl,rfl⟩ rfl rfl rfl rfl ?hN) ?hE
  case hE=>
   intro e a' Y A
   cases e with
  |normal=>exact A
  |ret=>exact A.elim
  |exit id=>exact A.elim
  |goto l=>exact A.elim
  |panic ch=>exact A.elim
  |outgrown=>exact A.elim
  case hN=>
   intro S Y O hr;exact B.out S Y O (fW.after I.out hr (by omega))
theorem Is(hκ:(κ=2/\G=false)\/(κ=3/\G=true))(k:jH w n c m gs g y xv vs s xb x)(Q:Act)(O:qZ Q gs xb (ff s x) (fC x) x.what)(L:x.what=κ)(C:¬9<x.value.size)(t:¬((fg s.h (ff s x:Nat) ⟨fC x,iP x,G⟩).2=0/\0<ff s x))(hA:eV s x={s with h:=(fg s.h (ff s x:Nat) ⟨fC x,iP x,G⟩).1}):rY w n c gs g y xv vs (eV s x) Q:=by
 intro R hN
 conv=>arg 2;whnf
 obtain⟨f,rfl⟩:=O.lit;rw[L];rw[hA]at hN;have D:=(gb k.fJ.Z).1;have S:=k.fJ.Z.lt;have A:=dk hN;have P:iP x=x.value:=by unfold iP;rw[aH C]
 have p:gP x.value:=by have:=k.val;unfold gP at this⊢;exact this
 rw[P]at A t;have l:=dk (k.put (ff s x:Nat) ⟨fC x,x.value,G⟩ (Ns x) p);have B:=k.act.cell 0 rfl;have F:=k.act.cell 3 rfl;rw[L]at B;have zx:=k.act.lt;have HP:=dk k;obtain⟨key,hkey⟩:∃z,z=fC x:=⟨_,rfl⟩;rw[<-hkey]at A l t⊢;obtain⟨r,fK⟩:∃z,z=fg s.h (ff s x:Nat) ⟨key,x.value,G⟩:=⟨_,rfl⟩;rw[<-fK]at l A t;obtain⟨w1,hw1⟩:∃z,z=w.alloc (.cells #[.string key,.string x.value,.bool G] 68):=⟨_,rfl⟩;have v:Mod dt w w1:=by rw[hw1];exact(Mod.refl _ w).alloc _
 have j:dx w1 w.heap.size [.string key,.string x.value,.bool G] 68:=by rw[hw1];exact dx.new w _ _
 have d0:=v.cell D id;have V:=v.cell B id;have U:=v.cell F id;have b1:=j.cell 1 rfl;have f1:=j.frozen 1;have T:=j.lt;have Y:decide ((x.value.size:Int) > 9)=false:=aN (by omega);have Lc:¬(9:Int)<(x.value.size:Int):=by omega
 have M:¬9<x.value.size:=C;obtain⟨w2,hw2⟩:∃z,z=w1:=⟨_,rfl⟩;have o:Mod dt w w2:=by rw[hw2];exact v
 have a:dx w2 w.heap.size [.string key,.string x.value,.bool G] 68:=by rw[hw2];exact j
 obtain⟨id,mW⟩:∃z:Int,z=((ff s x:Nat):Int):=⟨_,rfl⟩;rw[<-mW]at l⊢;have X:(r.2=0/\id=0)\/r.2≠0:=by
  by_cases e:r.2=0
  .exact .inl ⟨e,by have:¬0<ff s x:=λq=>t ⟨e,q⟩;omega⟩
  .exact .inr e
 have u:=dk o;have mi:=dk a;have H:=u.out.cell D (λe=>e);have K:=a.cell 0 rfl;have J:=a.cell 1 rfl;have I:=a.cell 2 rfl;have Vb:=aJ S o.size;have Vc:=a.lt;clear hN k O hA hkey fK a o j v P p mW  t C;rcases hκ with⟨rfl,rfl⟩|⟨rfl,rfl⟩
 all_goals
  go_upto_region 19 with fail;rw[<-hw1];clear hw1;go_upto_region 21 with fail;rw[<-hw2];clear hw2 D B F d0 V U b1 f1 T;refine wp_region_still_tail 6 (by kernel_rfl) (by kernel_rfl) ?_;simp only[az,bu,bb,cI]
  repeat still_step
  refine B9 ?_;obtain⟨e1,e2⟩|e1:=X
  .rw[e1,pM]at l;have TW:decide (id > 0)=false:=aN (by omega);have N:¬0<id:=by omega
   clear e1 e2;go_wp2_with fail;refine(l.out _ u.out.drew).mono ?_;rintro e W⟨rfl,y1,i,b⟩;have E:=dk (fW.only (d:=c+2) ((il.quiet u.out.drew).trans b) i (by omega));clear i b l H K J I;go_wp2_with fail;show R _ _;exact A.out _ _ ⟨rfl,rfl,rfl⟩ E.out
  .rw[nL e1]at l;clear e1;go_wp2_with fail;refine(l.out _ u.out.drew).mono ?_;rintro e W⟨rfl,y1,i,b⟩;have E:=dk (fW.only (d:=c+2) ((il.quiet u.out.drew).trans b) i (by omega));clear i b l H K J I;go_wp2_with fail;show R _ _;exact A.out _ _ ⟨rfl,rfl,rfl⟩ E.out
theorem Iv(hκ:(κ=2/\G=false)\/(κ=3/\G=true))(o:jH w n c m gs g y xv vs s xb x)(fr:Act)(hf:qZ fr gs xb (ff s x) (fC x) x.what)(L:x.what=κ)(hv:9<x.value.size)(F:(fg s.h (ff s x:Nat) ⟨fC x,iP x,G⟩).2=0)(hi:0<ff s x)(hA:eV s x={s with h:=(fg s.h (ff s x:Nat) ⟨fC x,iP x,G⟩).1,U:=fM s.U (ff s x) ⟨κ,fC x,iP x,false⟩}):rY w n c gs g y xv vs (eV s x) fr:=by
 intro R hN
 conv=>arg 2;whnf
 obtain⟨f,rfl⟩:=hf.lit;rw[L];rw[hA]at hN;have S:=(gb o.fJ.Z).1;have zg:=o.fJ.Z.lt;have B:=dk hN;have hV:iP x=(x.value.extract 0 9):=by unfold iP;rw[aK hv]
 have D:gP (x.value.extract 0 9):=by have:=o.val;unfold gP at this⊢;rw[ByteArray.size_extract];omega
 rw[hV]at B F;have v:=dk (o.put (ff s x:Nat) ⟨fC x,(x.value.extract 0 9),G⟩ (Ns x) D);have J:=o.act.cell 0 rfl;have W:=o.act.cell 3 rfl;rw[L]at J;have zx:=o.act.lt;have k:=dk o;obtain⟨key,hkey⟩:∃z,z=fC x:=⟨_,rfl⟩;rw[<-hkey]at B v F⊢;obtain⟨r,fK⟩:∃z,z=fg s.h (ff s x:Nat) ⟨key,(x.value.extract 0 9),G⟩:=⟨_,rfl⟩;rw[<-fK]at v B F;obtain⟨w1,hw1⟩:∃z,z=w.alloc (.cells #[.string key,.string x.value,.bool G] 68):=⟨_,rfl⟩;have H:Mod dt w w1:=by rw[hw1];exact(Mod.refl _ w).alloc _
 have j:dx w1 w.heap.size [.string key,.string x.value,.bool G] 68:=by rw[hw1];exact dx.new w _ _
 have d0:=H.cell S id;have y0:=H.cell J id;have y3:=H.cell W id;have b1:=j.cell 1 rfl;have f1:=j.frozen 1;have zb:=j.lt;have hsz:decide ((x.value.size:Int) > 9)=true:=aQ (by omega);have SW:9<=x.value.size:=by omega
 have Lc:(9:Int)<=(x.value.size:Int):=by omega
 obtain⟨w2,hw2⟩:∃z,z=w1.setCell ⟨w.heap.size,1,none⟩ (.string (x.value.extract 0 9)):=⟨_,rfl⟩;have q:Mod dt w w2:=by rw[hw2];exact H.setCell (λe=>absurd e (cZ _)) _
 have a:dx w2 w.heap.size [.string key,.string (x.value.extract 0 9),.bool G] 68:=by rw[hw2];exact j.set 1 _
 obtain⟨i,t,E,b⟩:=yRh hi;obtain⟨Rf,fY,K⟩:=k.out.fJ.oQ b;subst K;have pX:Hid (t.ops.length<=1000):=by have:=k.out.Ru t (aC b);have:=k.out.mm;unfold Hid;omega
 have qE:Hid (s.U.length<=100):=by have:=k.out.ok.few;unfold Hid;omega
 rw[F,pM]at v;rw[E]at v B⊢;rw[yCn b]at B;obtain⟨id,mW⟩:∃z:Int,z=((i+1:Nat):Int):=⟨_,rfl⟩;rw[<-mW]at v⊢;have hb:decide (id > 0)=true:=aQ (by omega);have Ai:0<id:=by omega
 have VH:Hid (id=(i:Int)+1):=by unfold Hid;omega
 have HT:=dk b;have O:=dk q;have mi:=dk a;have v0:=O.out.cell S (λe=>e);have p0:=a.cell 0 rfl;have p1:=a.cell 1 rfl;have p2:=a.cell 2 rfl;have Vb:=aJ zg q.size;have Vc:=a.lt;clear hN o hf hA hkey fK a q j H hV D mW hi E b F hv;rcases hκ with⟨rfl,rfl⟩|⟨rfl,rfl⟩
 all_goals
  go_upto_region 19 with fail;rw[<-hw1];clear hw1;go_upto_region 21 with fail;rw[<-hw2];clear hw2 S J W d0 y0 y3 b1 f1 zb;refine wp_region_still_tail 6 (by kernel_rfl) (by kernel_rfl) ?_;simp only[az,bu,bb,cI]
  repeat still_step
  refine B9 ?_;go_wp2_with fail;refine(v.out _ O.out.drew).mono ?_;rintro e Y⟨rfl,y1,C,p⟩;have Hr:=dk C;have I:Hid (il w y Y y1):=(il.quiet O.out.drew).trans p;have JH:y.own w.heap.size=.no:=by
   by_cases e:y.own w.heap.size=.no
   .exact e
   .have:=(k.out.fJ.house.own.lt _ e).2;omega
  have V:=dk (p.Z (mi.out.mod (Mod.refl dt _).drew (λe=>e)) JH);have VS:=dk ((I.out.Z k.out.act k.out.xn).cell 0 rfl);rw[L]at VS;have Ux:Hid (∀u∈vs,u.ownBlock≠some xb):=λu M e=>k.out.xs (.inr (.inr ⟨u,M,e⟩));have T:Hid (∀u∈vs,u.ownBlock≠some w.heap.size):=λu M e=>by have:=(k.out.fJ.cells k.out.lg (.inr (.inr ⟨u,M,e⟩))).2.1;omega
  clear C p JH v v0 p0 p1 p2;go_upto_region 22 with fail;refine wp_mono (Q:=wG ?R2) (JA (R:=?R2) n (c+2) gs g Rf fY i id key (x.value.extract 0 9) t y1 vs {s with h:=r.1} Y Hr.out k.out.lg HT.out VH.out qE.out pX.out xb w.heap.size _ VS.out (V.out.cell 1 rfl) Ux.out T.out _ ⟨rfl,rfl,rfl⟩ rfl rfl rfl rfl ?hN) ?hE
  case hE=>
   intro e a' X A
   cases e with
  |normal=>exact A
  |ret=>exact A.elim
  |exit id=>exact A.elim
  |goto l=>exact A.elim
  |panic ch=>exact A.elim
  |outgrown=>exact A.elim
  case hN=>
   intro P X N hr;exact B.out P X N (fW.after I.out hr (by omega))
theorem Iu(hκ:(κ=2/\G=false)\/(κ=3/\G=true))(k:jH w n c m gs g y xv vs s xb x)(P:Act)(N:qZ P gs xb (ff s x) (fC x) x.what)(K:x.what=κ)(L:9<x.value.size)(t:¬((fg s.h (ff s x:Nat) ⟨fC x,iP x,G⟩).2=0/\0<ff s x))(hA:eV s x={s with h:=(fg s.h (ff s x:Nat) ⟨fC x,iP x,G⟩).1}):rY w n c gs g y xv vs (eV s x) P:=by
 intro R hN
 conv=>arg 2;whnf
 obtain⟨f,rfl⟩:=N.lit;rw[K];rw[hA]at hN;have C:=(gb k.fJ.Z).1;have Q:=k.fJ.Z.lt;have A:=dk hN;have O:iP x=(x.value.extract 0 9):=by unfold iP;rw[aK L]
 have p:gP (x.value.extract 0 9):=by have:=k.val;unfold gP at this⊢;rw[ByteArray.size_extract];omega
 rw[O]at A t;have l:=dk (k.put (ff s x:Nat) ⟨fC x,(x.value.extract 0 9),G⟩ (Ns x) p);have B:=k.act.cell 0 rfl;have E:=k.act.cell 3 rfl;rw[K]at B;have zx:=k.act.lt;have HP:=dk k;obtain⟨key,hkey⟩:∃z,z=fC x:=⟨_,rfl⟩;rw[<-hkey]at A l t⊢;obtain⟨r,fK⟩:∃z,z=fg s.h (ff s x:Nat) ⟨key,(x.value.extract 0 9),G⟩:=⟨_,rfl⟩;rw[<-fK]at l A t;obtain⟨w1,hw1⟩:∃z,z=w.alloc (.cells #[.string key,.string x.value,.bool G] 68):=⟨_,rfl⟩;have v:Mod dt w w1:=by rw[hw1];exact(Mod.refl _ w).alloc _
 have j:dx w1 w.heap.size [.string key,.string x.value,.bool G] 68:=by rw[hw1];exact dx.new w _ _
 have d0:=v.cell C id;have U:=v.cell B id;have T:=v.cell E id;have b1:=j.cell 1 rfl;have Y:=j.frozen 1;have S:=j.lt;have X:decide ((x.value.size:Int) > 9)=true:=aQ (by omega);have SW:9<=x.value.size:=by omega
 have Lc:(9:Int)<=(x.value.size:Int):=by omega
 obtain⟨w2,hw2⟩:∃z,z=w1.setCell ⟨w.heap.size,1,none⟩ (.string (x.value.extract 0 9)):=⟨_,rfl⟩;have o:Mod dt w w2:=by rw[hw2];exact v.setCell (λe=>absurd e (cZ _)) _
 have a:dx w2 w.heap.size [.string key,.string (x.value.extract 0 9),.bool G] 68:=by rw[hw2];exact j.set 1 _
 obtain⟨id,mW⟩:∃z:Int,z=((ff s x:Nat):Int):=⟨_,rfl⟩;rw[<-mW]at l⊢;have W:(r.2=0/\id=0)\/r.2≠0:=by
  by_cases e:r.2=0
  .exact .inl ⟨e,by have:¬0<ff s x:=λq=>t ⟨e,q⟩;omega⟩
  .exact .inr e
 have u:=dk o;have mi:=dk a;have F:=u.out.cell C (λe=>e);have J:=a.cell 0 rfl;have I:=a.cell 1 rfl;have H:=a.cell 2 rfl;have Vb:=aJ Q o.size;have Vc:=a.lt;clear hN k N hA hkey fK a o j v O p mW  t L;rcases hκ with⟨rfl,rfl⟩|⟨rfl,rfl⟩
 all_goals
  go_upto_region 19 with fail;rw[<-hw1];clear hw1;go_upto_region 21 with fail;rw[<-hw2];clear hw2 C B E d0 U T b1 Y S;refine wp_region_still_tail 6 (by kernel_rfl) (by kernel_rfl) ?_;simp only[az,bu,bb,cI]
  repeat still_step
  refine B9 ?_;obtain⟨e1,e2⟩|e1:=W
  .rw[e1,pM]at l;have TW:decide (id > 0)=false:=aN (by omega);have M:¬0<id:=by omega
   clear e1 e2;go_wp2_with fail;refine(l.out _ u.out.drew).mono ?_;rintro e V⟨rfl,y1,i,b⟩;have D:=dk (fW.only (d:=c+2) ((il.quiet u.out.drew).trans b) i (by omega));clear i b l F J I H;go_wp2_with fail;show R _ _;exact A.out _ _ ⟨rfl,rfl,rfl⟩ D.out
  .rw[nL e1]at l;clear e1;go_wp2_with fail;refine(l.out _ u.out.drew).mono ?_;rintro e V⟨rfl,y1,i,b⟩;have D:=dk (fW.only (d:=c+2) ((il.quiet u.out.drew).trans b) i (by omega));clear i b l F J I H;go_wp2_with fail;show R _ _;exact A.out _ _ ⟨rfl,rfl,rfl⟩ D.out
end
end Go.Proofs.YtmaiggbnceejiaaGreatDoor
namespace Go.Proofs.YtmaiggbnceejiaaGreatDoor
open Go.RowKit Go.Lib Go.Maps
variable {s s2:gh}{j n c gs g cap i m k b:Nat}{t:eY}{w w1 w2 w':World}{y y1:dq}{vs:List Value}{xv:Value}{s':eF}{G:Nat->Prop}{h:dp}{d rest o:List Nat}{ts:List eY}
section
variable {w:World}{n c m gs g:Nat}{y:dq}{xv:Value}{vs:List Value}{s:eF}{xb:Nat}{x:ActD}
theorem Ko(p:jH w n c m gs g y xv vs s xb x)(l:Act)(q:qZ l gs xb (ff s x) (fC x) x.what):rY w n c gs g y xv vs (eV s x) l:=by
 by_cases h0:x.what=0
 .by_cases f:s.U.length<7
  .exact sw0a p l q h0 f
  .exact sw0b p l q h0 f
 by_cases H:x.what=1
 .by_cases f:(fG s.h (ff s x:Nat) (fC x)).2.2.2=0/\0<ff s x
  .exact sw1a p l q H f.1 f.2
  .exact sw1b p l q H f
 by_cases v:x.what=2
 .by_cases r:9<x.value.size
  .by_cases f:(fg s.h (ff s x:Nat) ⟨fC x,iP x,false⟩).2=0/\0<ff s x
   .exact Iv (.inl ⟨rfl,rfl⟩) p l q v r f.1 f.2 (by unfold eV;simp[v,f.1,f.2])
   .exact Iu (.inl ⟨rfl,rfl⟩) p l q v r f (by unfold eV;simp[v,f])
  .by_cases f:(fg s.h (ff s x:Nat) ⟨fC x,iP x,false⟩).2=0/\0<ff s x
   .exact It (.inl ⟨rfl,rfl⟩) p l q v r f.1 f.2 (by unfold eV;simp[v,f.1,f.2])
   .exact Is (.inl ⟨rfl,rfl⟩) p l q v r f (by unfold eV;simp[v,f])
 by_cases u:x.what=3
 .by_cases r:9<x.value.size
  .by_cases f:(fg s.h (ff s x:Nat) ⟨fC x,iP x,true⟩).2=0/\0<ff s x
   .exact Iv (.inr ⟨rfl,rfl⟩) p l q u r f.1 f.2 (by unfold eV;simp[u,f.1,f.2])
   .exact Iu (.inr ⟨rfl,rfl⟩) p l q u r f (by unfold eV;simp[u,f])
  .by_cases f:(fg s.h (ff s x:Nat) ⟨fC x,iP x,true⟩).2=0/\0<ff s x
   .exact It (.inr ⟨rfl,rfl⟩) p l q u r f.1 f.2 (by unfold eV;simp[u,f.1,f.2])
   .exact Is (.inr ⟨rfl,rfl⟩) p l q u r f (by unfold eV;simp[u,f])
 by_cases K:x.what=4
 .exact sw4 p l q K
 by_cases F:x.what=5
 .by_cases f:x.a.tmod 4=0
  .exact sw5a p l q F f
  .exact sw5b p l q F f
 by_cases E:x.what=6
 .by_cases f:0<s.h.J.way.length
  .exact sw6a p l q E f
  .exact sw6b p l q E f
 by_cases D:x.what=7
 .by_cases f:0<s.h.J.way.length
  .exact sw7a p l q D f
  .exact sw7b p l q D f
 by_cases C:x.what=8
 .by_cases f:0<s.h.J.way.length
  .exact sw8a p l q C f
  .exact sw8b p l q C f
 by_cases I:x.what=9
 .exact sw9 p l q I
 by_cases B:x.what=10
 .exact sw10 p l q B
 by_cases A:x.what=11
 .exact sw11 p l q A
 by_cases z:x.what=12
 .exact sw12 p l q z
 exact swN p l q (λk L e=>by
  have:x.what=(k:Int):=e;omega)
end
def kA(s:eF)(j:Nat):eF:={s with U:=s.U.mapIdx λi t=>if i<j/\t.fN<0/\iB s.h ((i:Int)+1)=3 then⟨t.ops,t.eP,s.now⟩else t}
theorem yPf(s:eF):kA s 0=s:=by
 have:(s.U.mapIdx λi t=>if i<0/\t.fN<0/\iB s.h ((i:Int)+1)=3 then(⟨t.ops,t.eP,s.now⟩:eY)else t)=s.U:=by
  refine bP λi=>?_;rw[bS]
  cases s.U[i]? with
 |none=>rfl
 |some t=>simp
 unfold kA;rw[this]
theorem yUa(s:eF):kA s s.U.length=nn s:=by
 have:(s.U.mapIdx λi t=>if i<s.U.length/\t.fN<0/\iB s.h ((i:Int)+1)=3 then(⟨t.ops,t.eP,s.now⟩:eY)else t)=s.U.mapIdx λi t=>if t.fN<0/\iB s.h ((i:Int)+1)=3 then⟨t.ops,t.eP,s.now⟩else t:=by
  refine bP λi=>?_;rw[bS,bS]
  cases a:s.U[i]? with
 |none=>rfl
 |some t=>
   have:=(aB.1 a).1;simp[this]
 unfold kA nn;rw[this]
theorem OA(s:eF)(j:Nat):(kA s j).U.length=s.U.length:=by simp[kA]
theorem yXq{s:eF}(h:s.U[j]?=some t):(kA s j).U[j]?=some t:=by
 simp[kA,List.getElem?_mapIdx,h]
theorem yTz{s:eF}(h:s.U[j]?=some t)(l:t.fN<0)(f:iB s.h ((j:Int)+1)=3):kA s (j+1)={kA s j with U:=(kA s j).U.set j ⟨t.ops,t.eP,s.now⟩}:=by
 have:(s.U.mapIdx λi t=>if i<j+1/\t.fN<0/\iB s.h ((i:Int)+1)=3 then(⟨t.ops,t.eP,s.now⟩:eY)else t)=(kA s j).U.set j ⟨t.ops,t.eP,s.now⟩:=by
  refine bP λi=>?_;rw[bz,OA,bS];have a:=(aB.1 h).1;by_cases e:j=i
  .subst e;rw[aK rfl,aK a,h,bJ,aK ⟨by omega,l,f⟩]
  .rw[aH e];simp only[kA,bS]
   cases s.U[i]? with
  |none=>rfl
  |some u=>
    simp only[bJ];congr 1;by_cases q:i<j
    .have:i<j+1:=by omega
     simp[q,this]
    .have:¬i<j+1:=by omega
     simp[q,this]
 show eF.mk _ _ _ _ _=eF.mk _ _ _ _ _;rw[this];rfl
theorem yPg{s:eF}(h:s.U[j]?=some t)(a:¬(t.fN<0/\iB s.h ((j:Int)+1)=3)):kA s (j+1)=kA s j:=by
 have:(s.U.mapIdx λi t=>if i<j+1/\t.fN<0/\iB s.h ((i:Int)+1)=3 then(⟨t.ops,t.eP,s.now⟩:eY)else t)=(kA s j).U:=by
  refine bP λi=>?_;simp only[kA,bS];by_cases e:j=i
  .subst e;simp only[h,bJ];congr 1;rw[aH (λq=>a q.2),aH (λq=>by omega)]
  .cases s.U[i]? with
  |none=>rfl
  |some u=>
    simp only[bJ];congr 1;by_cases q:i<j
    .have:i<j+1:=by omega
     simp[q,this]
    .have:¬i<j+1:=by omega
     simp[q,this]
 show eF.mk _ _ _ _ _=eF.mk _ _ _ _ _;rw[this];rfl
theorem fI.Fp{xb:Nat}{s:eF}(h:fI w n c gs g y (.slice (some ⟨xb,0,none⟩) s.U.length cap) vs s)(a:n<=gs)(f:s.U[i]?=some t)(u:Int) :
  fW w n c gs g y (.slice (some ⟨xb,0,none⟩) s.U.length cap) vs {s with U:=s.U.set i ⟨t.ops,t.eP,u⟩} (w.setCell ⟨xb,i*3+2,none⟩ (.int .i64 u)):=
 ⟨y,_,vs,h.rJ a f u,⟨(Mod.eE xb _ _).mono (λk _ e=>.inr (.inr (.inl (an some (Eq.symm e))))),λ_ _=>rfl,λ_ _ e=>e⟩⟩
theorem fW.quiet(h:fW w n c gs g y xv vs s' w1)(e:Mod dt w1 w2):fW w n c gs g y xv vs s' w2:=by
 obtain⟨f,l,a,q,p⟩:=h;exact⟨f,l,a,q.quiet e,p.trans (kM.quiet e)⟩
theorem fW.step{f:Value}{a:List Value}(h:kM gs w y xv vs w1 y1 f a)(k:fW w1 n c gs g y1 f a s' w2):fW w n c gs g y xv vs s' w2:=by
 obtain⟨l,p,e,r,q⟩:=k;exact⟨l,p,e,r,h.trans q⟩
def NMo(w:World)(n:Nat):Prop:=∃a no cap,0<n/\a<n/\w.cell? ⟨0,0,none⟩=some (.slice (some ⟨a,no,none⟩) 4 cap)/\∀i,i<4->w.cell? ⟨a,no+i,none⟩=some (.string (nameK i))
theorem NMo.mod(h:NMo w n)(e:Mod G w w')(f:∀k,k<n->¬G k):NMo w' n:=by
 obtain⟨a,no,cap,h0,l,r,q⟩:=h;exact⟨a,no,cap,h0,l,e.cell r (f 0 h0),λi p=>e.cell (q i p) (f a l)⟩
structure NR(w:World)(n c m gs g:Nat)(y:dq)(xv:Value)(vs:List Value)(s:eF):Prop where
 fJ:fI w n c gs g y xv vs s
 ok:qx m s
 nm:NMo w n
 et:ET w
 n1:1<n
 cc:c<=8000
 mm:m<=125
 lg:n<=gs
 now:0<=s.now/\s.now<=999
 Ru:∀t∈s.U,t.ops.length<=m
theorem yTy(n c m gs g:Nat)(y:dq)(xv:Value)(vs:List Value)(s:eF)(w:World)(h:fI w n c gs g y xv vs s)(mF:n<=gs)(hl:s.U.length<=7)(hh:s.h.U.length<=60)(S:Act)(X:jX S gs)(r:S.tmps[14]?=some (.int .i64 0)){R:Act->World->Prop}
  (hN:∀I T,jX I gs->fW w n c gs g y xv vs (nn s) T->R I T) :
  Code.wp Tryz.prog ((Tryz.f10.body.bind (CK 2)).getD .skip) (wG R) S w:=by
 conv=>arg 2;whnf
 obtain⟨f,Q⟩:=X.lit;have UM:f 14=.int .i64 0:=by rw[Q]at r;exact bA r
 rw[UM]at Q;subst Q;have HN:=dk hN;have HH:Hid (fW w n c gs g y xv vs (kA s 0) w):=by unfold Hid;rw[yPf];exact⟨y,xv,vs,h,kM.quiet (Mod.refl _ _)⟩
 clear h X r UM hN;go_wp2_with fail;go_loopw [14] (λN wr=>∃j:Nat,j<=s.U.length/\N=.int .i64 j/\fW w n c gs g y xv vs (kA s j) wr) (λN _=>s.U.length-(intOf N).toNat)
 case atStart=>exact⟨0,aT _,rfl,HH.out⟩
 case round=>
  obtain⟨j,hjl,rfl,hR⟩:=hrel;clear HH;obtain⟨y1,Eg,p,l,J⟩:=hR;obtain⟨xa,fY,F⟩:=fU l.row.2;rw[OA]at F;subst F;obtain⟨c0,c1,c2,-,-⟩:=gb l.Z;have zg:=l.Z.lt;dsimp only[kA]at c2;have M:Hid (∀id,Calls Tryz.prog 11 #[.pointer (some ⟨g,0,none⟩),.int .i64 id] wr λe w'=>e=.returned (.int .i64 (iB s.h id))/\w'=wr):=λid=>KT n c g y1 s.h id wr l.house hh;by_cases V:j<s.U.length
  .obtain⟨t,ht⟩:∃t,s.U[j]?=some t:=⟨_,aA V⟩;have L:=yXq ht;obtain⟨xb,cap',A⟩:=l.oQ L;rw[OA]at A;simp only[Value.slice.injEq]at A;obtain⟨rfl,-,rfl⟩:=A;obtain⟨u,hu⟩:∃u,p[j]?=some u:=⟨_,aA (by rw[l.row.1,OA];exact V)⟩;have a:=l.row.2;rw[OA]at a;have ct:wr.cell? ⟨xb,j*3+2,none⟩=some (.int .i64 t.fN):=by
    have:=a.cells (g:=xb) rfl _ _ (Ib _ p j t u l.row.1 L hu 2 _ rfl);rw[A1,aY]at this;exact this
   have A:(Value.slice (some ⟨xb,0,none⟩) s.U.length fY).ownBlock=some xb:=rfl;obtain⟨_,zx,Y,H⟩:=fs a A;have fx:wr.frozen? ⟨xb,j*3+2,none⟩=false:=by simp[World.frozen?,H]
   have MA:(j:Int)<(s.U.length:Int):=by omega
   have PA:(0:Int)<=(j:Int):=by omega
   have ew:wrap64 ((j:Int)+1)=(j:Int)+1:=B7 _ ⟨by omega,by omega⟩;have D:=dk l;have E:=dk J;have C:=dk ht;have K:=dk L;clear l J ht L hu a A H;by_cases v:t.fN<0
   .have P:decide (t.fN<0)=true:=aQ v;by_cases B:iB s.h ((j:Int)+1)=3
    .have z:Hid (fW w n c gs g y xv vs (kA s (j+1)) (wr.setCell ⟨xb,j*3+2,none⟩ (.int .i64 s.now))):=by
      unfold Hid;rw[yTz C.out v B];refine fW.step E.out ?_;have W:=D.out;have e:=OA s j;rw[<-e]at W⊢;exact W.Fp mF K.out s.now
     have O:(iB s.h ((j:Int)+1)==3)=true:=by simpa using B
     clear v B C K D E;go_wp2_with (first|(go_at_call 11;refine(M.out _).mono ?_;rintro e w'⟨rfl,rfl⟩)|fail);refine wp_region_still_tail 11 (by kernel_rfl) (by kernel_rfl) ?_;simp only[az,bu,bb,cI]
     repeat still_step
     refine B9 ?_;go_wp2_with fail;go_roundw
     case rel=>exact⟨j+1,by omega,by first|rfl|go_num,z.out.quiet ((Mod.refl _ _).drew)⟩
     case measure=>simp[intOf];omega
    .have z:Hid (fW w n c gs g y xv vs (kA s (j+1)) wr):=by
      unfold Hid;rw[yPg C.out (λq=>B q.2)];exact⟨y1,_,p,D.out,E.out⟩
     have O:(iB s.h ((j:Int)+1)==3)=false:=by simpa using B
     clear v B C K D E;go_wp2_with (first|(go_at_call 11;refine(M.out _).mono ?_;rintro e w'⟨rfl,rfl⟩)|fail);go_roundw
     case rel=>exact⟨j+1,by omega,by first|rfl|go_num,z.out⟩
     case measure=>simp[intOf];omega
   .have P:decide (t.fN<0)=false:=aN v;have z:Hid (fW w n c gs g y xv vs (kA s (j+1)) wr):=by
     unfold Hid;rw[yPg C.out (λq=>v q.1)];exact⟨y1,_,p,D.out,E.out⟩
    clear v C K D E;go_wp2_with fail;go_roundw
    case rel=>exact⟨j+1,by omega,by first|rfl|go_num,z.out⟩
    case measure=>simp[intOf];omega
  .obtain rfl:j=s.U.length:=by omega
   have z:Hid (fW w n c gs g y xv vs (nn s) wr):=by unfold Hid;rw[<-yUa];exact⟨y1,_,p,l,J⟩
   clear l J M;go_wp2_with fail;show R _ _;exact HN.out _ _ ⟨rfl,rfl,rfl⟩ z.out
def Jm(x:ActD)(s2:eF):Prop:=(∃a:Nat,(decide ((s2.U.length:Int) > 0)=true/\0<s2.U.length/\decide (0<s2.U.length)=true)/\(∀f,Calls Tryz.prog 18 #[.int .i64 x.I,.int .i64 s2.U.length] f λe w'=>e=.returned (.int .i64 a)/\w'=f)/\wrap64 (1+(a:Int))=1+(a:Int)/\IntKind.i64.wrap (1+(a:Int))=1+(a:Int)/\Value.int .i64 (ff s2 x:Nat)=.int .i64 (1+(a:Int))) \/
  (decide ((s2.U.length:Int) > 0)=false/\s2.U=[]/\¬(0:Int)<(s2.U.length:Int)/\Value.int .i64 (ff s2 x:Nat)=.int .i64 0)
theorem yMk(x:ActD)(s2:eF)(f:s2.U.length<=7):Jm x s2:=by
 by_cases ht:0<s2.U.length
 .have e:=FT x.I s2.U.length ht;refine .inl ⟨ko x.I s2.U.length,⟨aQ (by omega),ht,aQ ht⟩,λa=>IT x.I s2.U.length a ht (by omega),B7 _ ⟨by omega,by omega⟩,C2 _ ⟨by omega,by omega⟩,?_⟩;unfold ff;rw[aK ht];exact an (Value.int .i64) (by omega)
 .refine .inr ⟨aN (by omega),aR (by omega),by omega,?_⟩;unfold ff;rw[aH ht];rfl
theorem yDw(n c m gs g:Nat)(y:dq)(xv:Value)(vs:List Value)(s:eF)(x:ActD)(w:World)(h:NR w n c m gs g y xv vs s)(hv:gP x.value) :
  Calls Tryz.prog 10 #[.pointer (some ⟨gs,0,none⟩),.agg #[.int .i64 x.what,.int .i64 x.I,.int .i64 x.a,.string x.value]] w λe w'=>e=.returned (.tuple #[])/\fW w n (c+2) gs g y xv vs (lE s x) w':=by
 obtain⟨w1,hw1⟩:∃z,z=w.alloc (.cells #[.int .i64 x.what,.int .i64 x.I,.int .i64 x.a,.string x.value] 34):=⟨_,rfl⟩;have T:Mod dt w w1:=by rw[hw1];exact(Mod.refl _ w).alloc _
 have D:dx w1 w.heap.size [.int .i64 x.what,.int .i64 x.I,.int .i64 x.a,.string x.value] 34:=by rw[hw1];exact dx.new w _ _
 have u:=h.fJ.quiet T;obtain⟨c0,c1,c2,c3,c4⟩:=gb u.Z;have f2:=u.Z.frozen 2;have zg:=u.Z.lt;have lN:=h.now;have e1:wrap64 (s.now+1)=s.now+1:=B7 _ ⟨by omega,by omega⟩;obtain⟨s2,wZ⟩:∃z:eF,z={s with now:=s.now+1}:=⟨_,rfl⟩;obtain⟨w2,hw2⟩:∃z,z=w1.setCell ⟨gs,2,none⟩ (.int .i64 (s.now+1)):=⟨_,rfl⟩;have r:fI w2 n c gs g y xv vs s2:=by rw[hw2,wZ];exact u.tick h.lg _
 have L:kM gs w y xv vs w2 y xv vs:=⟨by rw[hw2];exact(T.mono (λ_ _ e=>e.elim)).trans ((Mod.eE gs 2 _).mono (λk _ e=>.inr (.inl e))),λ_ _=>rfl,λ_ _ e=>e⟩;have JH:y.own w.heap.size=.no:=by
  by_cases e:y.own w.heap.size=.no
  .exact e
  .have:=(h.fJ.house.own.lt _ e).2;omega
 have Cn:¬zz gs xv vs w.heap.size:=λe=>by have:=(h.fJ.cells h.lg e).2.1;omega
 have oL:w.heap.size≠gs:=λe=>by have:=h.fJ.Z.lt;omega
 have q:dx w2 w.heap.size [.int .i64 x.what,.int .i64 x.I,.int .i64 x.a,.string x.value] 34:=by rw[hw2];exact D.mod (Mod.eE gs 2 _) oL
 have N:∀k,k<n->¬(y.own k≠.no\/zz gs xv vs k):=λk hk e=>by
  obtain e|e:=e
  .have:=(h.fJ.house.own.lt k e).1;omega
  .have:=(h.fJ.cells h.lg e).1;omega
 have J:ET w2:=L.md.cell h.et (N 1 h.n1);have S:NMo w2 n:=h.nm.mod L.md N;have Ur:Hid (∀v,Mod dt w2 v->jH v n c m gs g y xv vs s2 w.heap.size x):=λv p=>⟨r.quiet p,by rw[wZ];exact h.ok.clock _,J.mod p,h.n1,h.cc,h.mm,h.lg,by rw[wZ];exact⟨by show(0:Int)<=s.now+1;omega,by show s.now+1<=(1000:Int);omega⟩,q.mod p (λe=>e),JH,Cn,hv,by rw[wZ];exact h.Ru⟩;obtain⟨nb,no,iq,n0,n1,n2,n3⟩:=S;have F:=FT x.a 4 (by omega);have M:=n3 (ko x.a 4) F;have A:Hid (fC x=nameK (ko x.a 4)):=rfl;have W:Hid (∀v,Calls Tryz.prog 18 #[.int .i64 x.a,.int .i64 4] v λe w'=>e=.returned (.int .i64 (ko x.a 4))/\w'=v):=λv=>IT x.a 4 v (by omega) (by omega);obtain⟨pk,hpk⟩:∃z,z=ko x.a 4:=⟨_,rfl⟩;rw[<-hpk]at F M A W;have zO:(pk:Int)<4:=by omega
 have ry:(0:Int)<=(pk:Int):=by omega
 obtain⟨xa,fY,C⟩:=fU r.row.2;have HXV:=dk C;have X:Hid (s2={s with now:=s.now+1}):=wZ;obtain⟨d0,d1,d2,d3,d4⟩:=gb r.Z;rw[C]at d1;have Vb:=r.Z.lt;have x0:=q.cell 0 rfl;have x1:=q.cell 1 rfl;have x2:=q.cell 2 rfl;have zx:=q.lt;have fy:s2.U.length<=7:=by rw[wZ];exact h.ok.few
 have HX:Hid (Jm x s2):=yMk x s2 fy;have gy:=dk L;have qF:=dk h.ok;have tk:=dk h.lg;clear h u D T r q L JH Cn oL N J n3 C wZ hpk hv;go_enter Tryz.func10,Tryz.ntmps10;go_upto_region 1 with fail;rw[<-hw1];clear hw1;go_upto_region 2 with fail;rw[<-hw2];clear hw2 c0 c1 c2 c3 c4 f2 zg;go_upto_if 27 with fail;go_cut [4] (λt wc=>t=.int .i64 (ff s2 x:Nat)/\Mod dt w2 wc)
 case first=>
  obtain⟨pt,⟨hb,hb0,D⟩,Y,ew,Xr,he⟩|⟨hb,hb4,oh,he⟩:=HX.out
  .have Y:=dk Y;have HE:=dk he;clear he;go_upto_region 4 with fail;refine wp_region_still_tail 9 (by kernel_rfl) (by kernel_rfl) ?_;simp only[az,bu,bb,cI]
   repeat still_step
   still_call (Y.out _)
   repeat still_step
   refine B9 ?_;go_wp2_with fail;go_meet
   case rel=>exact⟨HE.out.symm,(Mod.refl _ w2).drew⟩
  .have HE:=dk he;clear he;go_wp2_with fail;go_meet
   case rel=>exact⟨HE.out.symm,Mod.refl _ w2⟩
 case rest=>
  obtain⟨rfl,B⟩:=hcut;have y0:=B.cell x0 id;have y1:=B.cell x1 id;have y2:=B.cell x2 id;have m2:=B.cell n2 id;have m4:=B.cell M id;have FL:=dk B;clear x0 x1 x2 d0 d1 d2 d3 d4 B n2 M HX;go_upto_region 5 with fail;refine wp_region_still_tail 8 (by kernel_rfl) (by kernel_rfl) ?_;simp only[az,bu,bb,cI]
  repeat still_step
  still_call (W.out _)
  repeat still_step
  refine B9 ?_;rw[<-A.out];have V:=dk (Ur.out _ FL.out.drew);go_upto_block 0 with fail;refine wp_mono (Q:=wG ?R2) (Ko V.out _ ⟨⟨rfl,rfl,rfl⟩,rfl,rfl,rfl,rfl⟩ ?R2 ?hN) ?hE
  case hE=>
   intro e a' K p
   cases e with
  |normal=>exact p
  |ret=>exact p.elim
  |exit id=>exact p.elim
  |goto l=>exact p.elim
  |panic ch=>exact p.elim
  |outgrown=>exact p.elim
  case hN=>
   intro fr' K H hr;rename_i Kc Bi;refine Bi _ _ ?_;clear Bi;obtain⟨yA,Eg,E,vu,oo⟩:=hr;obtain⟨a1,a2,a3,a4,a5,a6,a7,a8⟩:=Qe (V.out.ok) x;have HMX:Hid (kM gs w y xv vs K yA Eg E):=(gy.out.trans (kM.quiet FL.out.drew)).trans oo;have Hq:=dk vu;have VK:=dk a5;have HFH:Hid ((eV s2 x).h.U.length<=60):=by unfold Hid;omega
   clear a1 a2 a3 a4 a5 a6 a7 a8 vu oo y0 y1 y2 m2 m4 Ur V W;obtain⟨f,rfl⟩:=H.lit;clear H;go_upto_block 2 with fail;refine wp_mono (Q:=wG ?R3) (yTy n (c+2) m gs g _ Eg E _ K Hq.out tk.out VK.out HFH.out _ ⟨rfl,rfl,rfl⟩ rfl (R:=?R3) ?hN) ?hE
   case hE=>
    intro e a' K p
    cases e with
   |normal=>exact p
   |ret=>exact p.elim
   |exit id=>exact p.elim
   |goto l=>exact p.elim
   |panic ch=>exact p.elim
   |outgrown=>exact p.elim
   case hN=>
    intro fr2 we P O;have HF:Hid (fW w n (c+2) gs g y xv vs (lE s x) we):=by
     have:=fW.step HMX.out O;rw[X.out]at this;exact this
    exact⟨P.df,_,B4 rfl _ _ _,rfl,HF.out⟩
def hsA:dp:=mB (fp 2 2)
def wD:ByteArray:=⟨#[97]⟩
def yQk:gB:=⟨wD,⟨#[120]⟩,false⟩
def Bb:dp×Int:=fg hsA 1 yQk
def AV:dp:=nK (kR (du Bb.1 1 {Bb.1.I 1 with state:=2}))
def Cp:dp:=mB (lQ AV)
theorem yRl:(fp 2 2).U.length=0:=by decide +kernel
theorem hB_0:Bb.2=0:=by decide +kernel
theorem yYn:Bb.1.J.lost=0:=by decide +kernel
theorem yYl:AV.J.lost=0:=by decide +kernel
theorem yVz:iB AV 1=2:=by decide +kernel
theorem yRm:(lQ AV).U.length=1:=by decide +kernel
theorem yYm:oC Bb.1 1=0:=by decide +kernel
theorem MV:(fG Cp 2 wD).2.2.1=true/\(fG Cp 2 wD).2.2.2=0/\(fG Cp 2 wD).2.1=⟨#[120]⟩:=by decide +kernel
theorem yKp:iB (fG Cp 2 wD).1 1=3/\iB (fG Cp 2 wD).1 2=1:=by decide +kernel
theorem yYo:Bb.1.keys=jo (λ_=>⟨[],[]⟩) wD (iz ⟨[],[]⟩ ⟨1,2⟩).1:=by kernel_rfl
theorem yWa:BM Bb.1 1=false:=by
 unfold BM;rw[bc];rintro⟨k,a⟩;rw[yYo]at a;by_cases e:k=wD
 .subst e;rw[wI]at a;exact absurd a (by decide +kernel)
 .rw[AI e]at a;simp at a
theorem yXh:gK Bb.1 1=(AV,0):=by
 unfold gK;rw[aH (λe=>e yYm),yWa];rfl
theorem rN:Rest (fp 2 2):=Rest.new ⟨by omega,by omega⟩ ⟨by omega,by omega⟩
theorem rA:Rest hsA:=rN.begin (by rw[yRl];omega)
theorem rB:Rest Bb.1:=rA.put 1 yQk
theorem rC:Rest AV:=by have:=rB.end_ 1;rw[yXh]at this;exact this
theorem rD0:Rest (lQ AV):=rC.calm
theorem rD:Rest Cp:=rD0.begin (by rw[yRm];omega)
theorem Rest.CU(a:Rest h)(f:ET w)(e:1<n)(l:c<=9000):Ob w n c h:=⟨a.c.safe.shape,a.c.held.ki,f,e,l⟩
theorem il.Om{a:dq}(h:il w1 y1 w2 a)(l:Mod dt w w1)(f:∀k,k<w.heap.size->y1.own k=.no):Mod dt w w2/\∀k,k<w.heap.size->a.own k=.no:=
 ⟨l.trans' h.md (λi q e=>absurd (f i q) e),λk p=>(h.old k (aJ p l.size)).trans (f k p)⟩
theorem yNa(w:World)(he:ET w)(h1:1<w.heap.size):Calls Tryz.prog 20 #[] w λe w'=>e=.returned (.bool true)/\Mod dt w w':=by
 have HE:=dk he;have Dp:Hid (Calls Tryz.prog 19 #[.int .i64 2,.int .i64 2] w λe w'=>∃g y,e=.returned (.tuple #[.pointer (some ⟨g,0,none⟩),.nilIface])/\eJ w' w.heap.size 0 g y (fp 2 2)/\w.heap.size<=g/\Mod dt w w'/\(∀k,k<w.heap.size->y.own k=.no)):=yQp w.heap.size 0 2 2 w ⟨by omega,by omega⟩ ⟨by omega,by omega⟩ (aD _);clear he;go_enter Tryz.func20,Tryz.ntmps20;go_wp2_with fail;refine Dp.out.mono ?_;rintro e w1⟨g,y0,rfl,L,hgl,dy,B⟩;have QS:Hid (Calls Tryz.prog 13 #[.pointer (some ⟨g,0,none⟩)] w1 (yTo w1 w.heap.size 0 g y0 (fp 2 2))):=Vn w.heap.size 0 g y0 (fp 2 2) w1 L rN.c.safe.shape.ll (by rw[yRl];omega);have fh:=dk dy;have R:=dk B;clear Dp dy B L;go_wp2_with fail;refine QS.out.mono ?_;rintro e w2⟨rfl,y1,vu,D⟩;rw[yRl];obtain⟨a,A⟩:=D.Om fh.out R.out;have X:Hid (Calls Tryz.prog 23 #[.pointer (some ⟨g,0,none⟩),.int .i64 1,.agg #[.string ⟨#[97]⟩,.string ⟨#[120]⟩,.bool false]] w2 (jG w2 w.heap.size 2 g y1 Bb.1 Bb.2)):=yQe w.heap.size 0 g y1 hsA 1 yQk w2 vu (rA.CU (HE.out.mod a) h1 (by omega)) (by unfold gP;decide +kernel) (by unfold gP;decide +kernel);rw[hB_0]at X;have gy:=dk a;have Q:=dk A;clear QS a A vu D fh R;go_wp2_with fail;refine X.out.mono ?_;rintro e W⟨rfl,y2,PR,I⟩;rw[pM];obtain⟨eK,z⟩:=I.st.Om gy.out Q.out;have BA:Hid (Calls Tryz.prog 15 #[.pointer (some ⟨g,0,none⟩),.int .i64 1] W (jG W w.heap.size 2 g y2 AV 0)):=by
  have:=yIs w.heap.size 2 g y2 Bb.1 1 W PR rB.c.safe rB.c.held (by omega) (by rw[yYn];omega);rw[yXh]at this;exact this
 have jC:=dk eK;have P:=dk z;clear X eK z PR I gy Q;go_wp2_with fail;refine BA.out.mono ?_;rintro e q⟨rfl,T,l,H⟩;rw[pM];obtain⟨gw,v⟩:=H.st.Om jC.out P.out;have S:Hid (Calls Tryz.prog 11 #[.pointer (some ⟨g,0,none⟩),.int .i64 1] q λe w'=>e=.returned (.int .i64 2)/\w'=q):=by
  have:=KT w.heap.size 2 g T AV 1 q l rC.c.safe.tl;rw[yVz]at this;exact this
 have yh:Hid (Calls Tryz.prog 16 #[.pointer (some ⟨g,0,none⟩)] q λe w'=>e=.returned (.tuple #[])/\∃y',eJ w' w.heap.size 2 g y' (lQ AV)/\eu q T w' y'):=yCj w.heap.size 2 g T AV q l rC.c (by omega) (by have:=Wv rC.c;rw[yYl]at this;omega);have uD:=dk gw;have O:=dk v;clear BA gw v l H jC P;go_wp2_with fail;refine S.out.mono ?_;rintro e w'⟨rfl,rfl⟩;clear S;go_wp2_with fail;refine yh.out.mono ?_;rintro e V⟨rfl,y4,K,F⟩;obtain⟨fA,u⟩:=F.st.Om uD.out O.out;have mi:Hid (Calls Tryz.prog 13 #[.pointer (some ⟨g,0,none⟩)] V (yTo V w.heap.size 2 g y4 (lQ AV))):=Vn w.heap.size 2 g y4 (lQ AV) V K rD0.c.safe.shape.ll (by rw[yRm];omega);have mH:=dk fA;have N:=dk u;clear yh fA u K F uD O;go_wp2_with fail;refine mi.out.mono ?_;rintro e U⟨rfl,y5,J,C⟩;rw[yRm];obtain⟨Y,r⟩:=C.Om mH.out N.out;have VJ:Hid (Calls Tryz.prog 14 #[.pointer (some ⟨g,0,none⟩),.int .i64 2,.string ⟨#[97]⟩] U (ED U w.heap.size 4 g y5 (fG Cp 2 wD))):=yIk w.heap.size 2 g y5 Cp 2 wD U J (rD.CU (HE.out.mod Y) h1 (by omega)) (by unfold gP;decide +kernel) (rD.c.safe.fi wD);have Ay:=dk Y;have M:=dk r;clear mi Y r J C mH N;go_wp2_with fail;refine VJ.out.mono ?_;rintro e p⟨rfl,y6,Z,E⟩;obtain⟨v1,v2,v3⟩:=MV;rw[v1,v2,v3,pM];obtain⟨im,-⟩:=E.st.Om Ay.out M.out;have f:Rest (fG Cp 2 wD).1:=rD.get 2 wD;have Hr:Hid (Calls Tryz.prog 11 #[.pointer (some ⟨g,0,none⟩),.int .i64 1] p λe w'=>e=.returned (.int .i64 3)/\w'=p):=by
  have:=KT w.heap.size 4 g y6 (fG Cp 2 wD).1 1 p Z f.c.safe.tl;rw[yKp.1]at this;exact this
 have HS2:Hid (Calls Tryz.prog 11 #[.pointer (some ⟨g,0,none⟩),.int .i64 2] p λe w'=>e=.returned (.int .i64 1)/\w'=p):=by
  have:=KT w.heap.size 4 g y6 (fG Cp 2 wD).1 2 p Z f.c.safe.tl;rw[yKp.2]at this;exact this
 have Ax:=dk im;clear VJ im Z E Ay M f v1 v2 v3;go_wp2_with fail;refine Hr.out.mono ?_;rintro e w'⟨rfl,rfl⟩;go_wp2_with fail;refine HS2.out.mono ?_;rintro e w'⟨rfl,rfl⟩;go_wp2_with fail;go_ret;exact⟨rfl,Ax.out⟩
def actR(d:ActD)(e:List Value):Prop:=e=[.int .i64 d.what,.int .i64 d.I,.int .i64 d.a,.string d.value]/\d.value.size<=maxLen
def ActsV(w:World)(L:Nat)(v:Value)(a:List ActD):Prop:=gD w L 4 actR v a
theorem ActsV.at{L:Nat}{a:Option Addr}{l:List ActD}(h:ActsV w L (.slice a n cap) l){d:ActD}(p:l[i]?=some d):∃b e,a=some ⟨b,e,none⟩/\b<L/\d.value.size<=maxLen/\w.cell? ⟨b,e+i*4,none⟩=some (.int .i64 d.what)/\w.cell? ⟨b,e+i*4+1,none⟩=some (.int .i64 d.I)/\w.cell? ⟨b,e+i*4+2,none⟩=some (.int .i64 d.a)/\w.cell? ⟨b,e+i*4+3,none⟩=some (.string d.value):=by
 obtain⟨b,e,v,u,r,⟨rfl,q⟩,_,f⟩:=gD.at h p;exact⟨b,e,u,r,q,f 0 _ rfl,f 1 _ rfl,f 2 _ rfl,f 3 _ rfl⟩
theorem yGf{dh:List eY}(h:∀t∈dh,t.ops.length<=m)(id:Nat)(o:fm):∀t∈fM dh id o,t.ops.length<=m+1:=λt ht=>by
 unfold fM at ht;split at ht
 .rename_i u a;rcases bG ht with q|q
  .have:=h t q;omega
  .subst q;have:=h u (aC a);simp;omega
 .have:=h t ht;omega
theorem yYz{s:eF}(h:∀t∈s.U,t.ops.length<=m)(x:ActD):∀t∈(eV s x).U,t.ops.length<=m+1:=by
 have same:∀t∈s.U,t.ops.length<=m+1:=λt ht=>by have:=h t ht;omega
 obtain⟨r,hr⟩:∃r,r=eV s x:=⟨_,rfl⟩;rw[<-hr];unfold eV at hr;by_cases l:x.what=0
 .rw[aK l]at hr;by_cases e:s.U.length<7
  .rw[aK e]at hr;rw[hr];intro t ht;rcases aM.1 ht with q|q
   .exact same t q
   .rw[bU]at q;subst q;simp
  .rw[aH e]at hr;rw[hr];exact same
 rw[aH l]at hr;by_cases f:x.what=1
 .rw[aK f]at hr;rw[hr];dsimp only;split
  .exact yGf h _ _
  .exact same
 rw[aH f]at hr;by_cases a:x.what=2\/x.what=3
 .rw[aK a]at hr;rw[hr];dsimp only;split
  .exact yGf h _ _
  .exact same
 rw[aH a]at hr;have fin:r.U=s.U:=by
  rw[hr]
  repeat (first|rfl|split)
 rw[fin];exact same
theorem ZA{s:eF}(h:∀t∈s.U,t.ops.length<=m)(x:ActD):∀t∈(lE s x).U,t.ops.length<=m+1:=λt ht=>by
 have l:=yYz (s:={s with now:=s.now+1}) h x;obtain⟨i,a⟩:=aP ht;unfold lE nn at a;rw[bS]at a
 cases e:(eV {s with now:=s.now+1} x).U[i]? with
|none=>rw[e]at a;cases a
|some u=>
  rw[e,bJ]at a;have f:=l u (aC e);have a:=bA a;split at a
  .rw[<-a];exact f
  .rw[<-a];exact f
def AQ(k:Nat)(a:Bool):eF:=⟨fp 2 k,[],0,a,k⟩
theorem yQo(h:1<=k/\k<=3):(fp 2 k).lines.length=3/\(fp 2 k).U.length=0/\(fp 2 k).J.lost=0/\(fp 2 k).dead.length=0/\(fp 2 k).J.down.length=0/\∀n∈((fp 2 k).A (dz (fp 2 k))).nodes,n.M.length=0:=by
 rcases(show k=1\/k=2\/k=3 by omega)with rfl|rfl|rfl
 .decide +kernel
 .decide +kernel
 .decide +kernel
theorem yXu(h:1<=k/\k<=3)(a:Bool):qx 0 (AQ k a):=by
 obtain⟨l,f,e,q,p,_⟩:=yQo h;exact⟨Rest.new (shards:=2) (nodes:=k) ⟨by omega,by omega⟩ ⟨by omega,by omega⟩,l,f,aT _,by show(fp 2 k).J.lost<=_;rw[e];omega,by show(fp 2 k).dead.length<=0;omega,by show(fp 2 k).J.down.length<=0;omega,h⟩
theorem fI.made(p:eJ w n c g y h)(a:Bool)(k:Nat):fI (w.alloc (.cells #[.pointer (some ⟨g,0,none⟩),.slice none 0 0,.int .i64 0,.bool a,.int .i64 k] 37)) n c w.heap.size g y (.slice none 0 0) [] ⟨h,[],0,a,k⟩:=by
 have f:y.own w.heap.size=.no:=by
  by_cases e:y.own w.heap.size=.no
  .exact e
  .have:=(p.own.lt _ e).2;omega
 refine⟨dx.new w _ _,p.quiet ((Mod.refl _ w).alloc _),⟨rfl,A6 _ _ _ _⟩,λi t u l=>(by simp at l),f,λk r=>(by cases r),λu q=>(by cases q),λi j u v k l=>(by simp at l)⟩
structure Dd(J:eF->Prop)(W:World)(gs g:Nat)(i:Nat)(wr:World):Prop where
 md:Mod dt W wr
 ex:∃y xv vs s,fI wr W.heap.size (2*i) gs g y xv vs s/\qx i s/\s.now=i/\(∀t∈s.U,t.ops.length<=i)/\W.heap.size<=gs/\J s
def Np(J:eF->Prop)(W:World)(a:Nat)(e:Ending)(f:World):Prop:=
 (120<a/\e=.returned (.tuple #[.pointer none,.bool true])/\Mod dt W f)\/(a<=120/\∃gs g,e=.returned (.tuple #[.pointer (some ⟨gs,0,none⟩),.bool true])/\Dd J W gs g a f)
theorem ySr(J:eF->Prop)(nodes:Int)(f:Bool)(lv:Value)(a:List ActD)(W:World)(O:∀k,1<=k/\k<=3->J (AQ k f))(hJ:∀m s x,qx m s->s.now=m->J s->J (lE s x))(hl:ActsV W W.heap.size lv a)(hE:ET W)(M:NMo W W.heap.size)(Q:1<W.heap.size) :
  Calls Tryz.prog 7 #[.int .i64 nodes,.bool f,lv] W (Np J W a.length):=by
 obtain⟨la,fQ,hlv,hlc,hlm⟩:=gD.slice hl;subst hlv;have HV:=dk hl;have HE:=dk hE;have Uu:=dk M;have HJ:=dk hJ;have T:=dk O;clear hl hE M hJ O;by_cases P:120<a.length
 .have hb:decide ((a.length:Int) > 120)=true:=aQ (by omega);have hb2:(120:Int)<(a.length:Int):=by omega
  go_enter Tryz.func7,Tryz.ntmps7;go_wp2_with fail;go_ret2;exact .inl ⟨P,rfl,Mod.refl _ _⟩
 have hb:decide ((a.length:Int) > 120)=false:=aN (by omega);have hb2:¬(120:Int)<(a.length:Int):=by omega
 have hb3:¬120<a.length:=P;have NU:Hid (Calls Tryz.prog 18 #[.int .i64 nodes,.int .i64 3] W λe w'=>e=.returned (.int .i64 (ko nodes 3))/\w'=W):=IT nodes 3 W (by omega) (by omega);have K:=FT nodes 3 (by omega);obtain⟨l,hpk⟩:∃z,z=ko nodes 3:=⟨_,rfl⟩;rw[<-hpk]at NU K;clear hpk;have ew:wrap64 (1+(l:Int))=((l+1:Nat):Int):=by rw[show(1:Int)+(l:Int)=((l+1:Nat):Int) by omega];exact B7 _ ⟨by omega,by omega⟩
 have Xr:IntKind.i64.wrap (1+(l:Int))=((l+1:Nat):Int):=by rw[show(1:Int)+(l:Int)=((l+1:Nat):Int) by omega];exact C2 _ ⟨by omega,by omega⟩
 have U:Hid (1<=l+1/\l+1<=3):=⟨by omega,by omega⟩;obtain⟨kn,hkn⟩:∃z,z=l+1:=⟨_,rfl⟩;rw[<-hkn]at ew Xr U;have Dp:Hid (Calls Tryz.prog 19 #[.int .i64 2,.int .i64 kn] W λe w'=>∃g y,e=.returned (.tuple #[.pointer (some ⟨g,0,none⟩),.nilIface])/\eJ w' W.heap.size 0 g y (fp 2 kn)/\W.heap.size<=g/\Mod dt W w'/\(∀k,k<W.heap.size->y.own k=.no)):=yQp W.heap.size 0 2 kn W ⟨by omega,by omega⟩ ⟨by have:=U.out;omega,by have:=U.out;omega⟩ (aD _);clear K hkn;go_enter Tryz.func7,Tryz.ntmps7;go_wp2_with fail;refine NU.out.mono ?_;rintro e wz⟨rfl,H⟩;rw[H];clear NU H wz;go_wp2_with fail;refine Dp.out.mono ?_;rintro e w1⟨g,y,rfl,vu,p,X,hy1⟩;have tn:=dk (yNa w1 (HE.out.mod X) (aJ Q X.size));have FK:=dk vu;have fh:=dk X;clear Dp vu X hy1;go_wp2_with fail;refine tn.out.mono ?_;rintro e w2⟨rfl,u⟩;have Dl:=dk (FK.out.quiet u);have gy:Hid (Mod dt W w2):=fh.out.trans u;clear tn u FK fh;obtain⟨w3,hw3⟩:∃z,z=w2.alloc (.cells #[.pointer (some ⟨g,0,none⟩),.slice none 0 0,.int .i64 0,.bool f,.int .i64 kn] 37):=⟨_,rfl⟩;have I:fI w3 W.heap.size 0 w2.heap.size g y (.slice none 0 0) [] (AQ kn f):=by rw[hw3];exact fI.made Dl.out f kn
 have L:=gy.out.size;have NT:Hid (Dd J W w2.heap.size g 0 w3):=by
  refine⟨?_,y,.slice none 0 0,[],AQ kn f,I,yXu U.out f,rfl,λt ht=>by simp[AQ]at ht,L,T.out kn U.out⟩;rw[hw3];exact gy.out.alloc _
 clear I Dl p T;go_upto_region 8 with fail;rw[<-hw3];clear hw3;obtain⟨gs,Eu⟩:∃z,z=w2.heap.size:=⟨_,rfl⟩;rw[<-Eu]at NT⊢;clear Eu L gy;go_wp2_with fail;go_loopw [11] (λi0 wr=>∃i:Nat,i<=a.length/\i0=.int .i64 i/\Dd J W gs g i wr) (λi0 _=>a.length-(intOf i0).toNat)
 case atStart=>exact⟨0,aT _,rfl,NT.out⟩
 case round=>
  obtain⟨i,hil,rfl,hC⟩:=hrel;clear NT;by_cases hlt:i<a.length
  .obtain⟨F,yi,D,E,V,Y,Z,lN,r,p,N⟩:=hC;obtain⟨x,hx⟩:∃x,a[i]?=some x:=⟨_,aA hlt⟩;obtain⟨lb,lo,rfl,hlb,q,q0,q1,q2,q3⟩:=ActsV.at (show ActsV wr W.heap.size (.slice la a.length fQ) a from gD.mod HV.out F (λ_ _=>id) (λ_ _ h=>h)) hx;have zl:lb<wr.heap.size:=AC wr _ q0;have jq:(i:Int)<(a.length:Int):=by omega
   have hi0:(0:Int)<=(i:Int):=by omega
   have mn:=dk (yDw W.heap.size (2*i) i gs g yi D E V x wr ⟨Y,Z,Uu.out.mod F (λ_ _=>id),HE.out.mod F,Q,by omega,by omega,p,by omega,r⟩ q);obtain⟨S,-,UO,-⟩:=OL Z x;have R:=ZA r x;have gJ:=HJ.out i V x Z lN N;have gp:Hid (∀v C B A,fI A W.heap.size (2*i+2) gs g v C B (lE V x)->kM gs wr yi D E A v C B->Dd J W gs g (i+1) A):=λv C B A h1 h2=>by
    refine⟨F.trans' h2.md (λk hk e=>?_),v,C,B,lE V x,h1,S,by rw[UO,lN];omega,R,p,gJ⟩;obtain e|e:=e
    .have:=(Y.house.own.lt k e).1;omega
    .have:=(Y.cells p e).1;omega
   clear F Y Z lN r hx q S UO R gJ N;go_wp2_with fail;refine mn.out.mono ?_;rintro e A⟨rfl,Sh⟩;obtain⟨v,C,B,PQ,FB⟩:=Sh;have HI:=dk (gp.out v C B A PQ FB);clear PQ FB gp mn q0 q1 q2 q3;go_wp2_with fail;go_roundw
   case rel=>exact⟨i+1,by omega,by go_num,HI.out⟩
   case measure=>simp[intOf];omega
  .obtain rfl:i=a.length:=by omega
   have HC:=dk hC;clear hC;go_wp2_with fail;go_ret2;exact .inr ⟨by omega,gs,g,rfl,HC.out⟩
def ee(o:List Nat):List Int:=o.map λ(n:Nat)=>(n:Int)
def oB(ts:List eY)(o:List Nat):Prop:=∀i t,ts[i]?=some t->0<=t.fN->i∈o
def Rb(t u:eY):Prop:=0<=t.fN/\t.fN<u.eP
instance (t u:eY):Decidable (Rb t u):=by unfold Rb;infer_instance
def KG(ts:List eY)(o:List Nat)(n:Nat):Prop:=n∉o/\∀m t u,ts[m]?=some t->ts[n]?=some u->m≠n->Rb t u->m∈o
open Classical in
noncomputable def jZ(ts:List eY):List Nat->gh->List Nat->Option gh
|_,s,[]=>some s
|d,s,n::rest=>if KG ts d n then(match ts[n]? with
 |none=>none
 |some t=>match iJ s t.ops with
  |none=>none
  |some r=>jZ ts (d++[n]) r.1 rest)else none
theorem OH(h:jZ ts d s (n::rest)=some s2):KG ts d n/\∃t r,ts[n]?=some t/\iJ s t.ops=some r/\jZ ts (d++[n]) r.1 rest=some s2:=by
 rw[jZ]at h;split at h
 .rename_i e;refine⟨e,?_⟩
  cases ht:ts[n]? with
 |none=>rw[ht]at h;cases h
 |some t=>
   rw[ht]at h;simp only at h
   cases a:iJ s t.ops with
  |none=>rw[a]at h;cases h
  |some r=>rw[a]at h;exact⟨t,r,rfl,a,h⟩
 .cases h
theorem Vf{r:gh×List (ByteArray×VD)}(e:KG ts d n)(ht:ts[n]?=some t)(a:iJ s t.ops=some r):jZ ts d s (n::rest)=jZ ts (d++[n]) r.1 rest:=by
 rw[jZ,aK e,ht];simp only;rw[a]
def IK(ts:List eY)(o:List Nat)(s:gh):Prop:=∀rest s2,jZ ts o s rest=some s2->¬oB ts (o++rest)
theorem yHs(e:¬oB ts o)(h:∀i rest s2,i<ts.length->jZ ts o s (i::rest)=some s2->¬oB ts (o++i::rest)):IK ts o s:=λrest s2 a=>by
 cases rest with
|nil=>simpa using e
|cons i rest=>
  obtain⟨_,t,_,ht,_⟩:=OH a;exact h i rest s2 (aB.1 ht).1 a
def yYg:List Nat->List Nat->Prop
|[],_=>True
|_::_,[]=>False
|a::f,b::e=>a<b\/(a=b/\yYg f e)
def Wn(ts:List eY)(o:List Nat)(s:gh)(rest:List Nat):Prop:=∀a s2,jZ ts o s a=some s2->oB ts (o++a)->yYg rest a
def yTm(ts:List eY)(o:List Nat)(s:gh)(k:Nat)(rest:List Nat):Prop:=∃r,rest=k::r/\∀a s2,jZ ts o s (k::a)=some s2->oB ts (o++k::a)->yYg r a
theorem yQx(q:¬oB ts o)(h:∀i rest s2,i<k->jZ ts o s (i::rest)=some s2->¬oB ts (o++i::rest))(f:yTm ts o s k rest):Wn ts o s rest:=by
 obtain⟨r,rfl,f⟩:=f;intro a s2 p e
 cases a with
|nil=>exact absurd (by simpa using e) q
|cons i l=>
  by_cases v:i<k
  .exact absurd e (h i l s2 v p)
  .by_cases u:i=k
   .subst u;exact .inr ⟨rfl,f l s2 p e⟩
   .exact .inl (by omega)
theorem yMm(q:o.Nodup)(f:∀i∈o,i<ts.length)(p:k<ts.length)(e:k∉o):o.length<ts.length:=by
 have u:(k::o).Nodup:=List.nodup_cons.2 ⟨e,q⟩;have r:=dK u (l₂:=List.range ts.length) (λx a=>by
  rcases bB.1 a with rfl|a
  .exact bV.2 p
  .exact bV.2 (f x a))
 simp at r;omega
theorem yKr(ts:List eY):∀(rest d:List Nat) (s s2:gh),jZ ts d s rest=some s2->∀p n,rest[p]?=some n->KG ts (d++rest.take p) n/\n<ts.length
|[],_,_,_,_,p,n,h=>by simp at h
|m::rest,d,s,s2,a,p,n,h=>by
  obtain⟨l,t,r,f,q,e⟩:=OH a
  cases p with
 |zero=>
   simp at h;subst h;exact⟨by simpa using l,(aB.1 f).1⟩
 |succ p=>
   have:=yKr ts rest (d++[m]) r.1 s2 e p n (by simpa using h);simpa using this
theorem zWn(ts:List eY):∀(rest d:List Nat) (s s2:gh),jZ ts d s rest=some s2->d.Nodup->(d++rest).Nodup
|[],_,_,_,_,h=>by simpa using h
|m::rest,d,s,s2,l,h=>by
  obtain⟨u,t,r,z,v,q⟩:=OH l;have:=zWn ts rest (d++[m]) r.1 s2 q (br.2 ⟨h,by simp,λa p b f=>by simp at f;subst f;exact λe=>u.1 (e ▸ p)⟩);simpa using this
theorem yIj(z:jZ ts [] s o=some s2){p q:Nat}{u:eY}(v:o[p]?=some k)(E:o[q]?=some i)(J:p<q)(ht:ts[i]?=some t)(D:ts[k]?=some u):¬Rb t u:=λI=>by
 have a:=zWn ts o [] s s2 z (by simp);simp only[aa]at a;obtain⟨C,B⟩:=aB.1 v;obtain⟨r,l⟩:=aB.1 E;have f:i≠k:=λe=>(aq.1 a) p q C r J (by rw[B,l,e]);have A:=(yKr ts o [] s s2 z p k v).1.2 i t u ht D f I;simp only[aa]at A;obtain⟨j,H,e⟩:=cU A;rw[List.getElem_take]at e;have F:j<p:=by simp at H;omega
 exact(aq.1 a) j q (by omega) r (by omega) (by rw[e,l])
def mg(w:World)(b n:Nat)(s:gh):Prop:=∃D:DataW Unit,w.ownsMap Tryz.prog 9 (plainElem Tryz.prog 9) b n D/\∀k:ByteArray,k.size<=maxLen ->
 Maps.has D (.string k.data.toList)=(s k).there/\((s k).there=true->D.atKey (.string k.data.toList) (.lit (.string []))=.lit (.string (s k).text.data.toList))
theorem mg.mod(h:mg w b n s)(f:Mod G w w')(p:¬G b):mg w' b n s:=by
 obtain⟨D,e,q⟩:=h;have a:=e.lt;obtain⟨u,clock,l,r⟩:=e;exact⟨D,⟨u,clock,(f.block b a p).trans l,r⟩,q⟩
theorem mg.mono{a:Nat}(h:mg w b n s)(e:n<=a):mg w b a s:=by obtain⟨D,l,f⟩:=h;exact⟨D,l.mono e,f⟩
theorem yXn(w:World):(zeroValue 9).run Tryz.prog w=.ok (.string ByteArray.empty) w:=by kernel_rfl
theorem mg.look(h:mg w b n s){k:ByteArray}(f:k.size<=maxLen):∃v:ByteArray,(Instr.lookup 110 (.map (some b)) (.string k) true).run Tryz.prog w=.ok (.tuple #[.string v,.bool (s k).there]) w/\((s k).there=true->v=(s k).text)/\v.size<=maxLen:=by
 obtain⟨D,z,u⟩:=h;obtain⟨B,A⟩:=u k f;obtain⟨v,C,a,p⟩:=z.look_ok GC Tryz.underlying110 (yXn w) (plainElem_string Tryz.underlying9 (s:=ByteArray.empty) (by simp)) (B5 Tryz.underlying9 f);obtain⟨x,rfl,e,q⟩:=plainElem_string_inv Tryz.underlying9 p;refine⟨x,by rw[<-B];exact a,λht=>?_,q⟩;simp only[Prod.mk.injEq]at e;have r:=A ht;have l:DataW.lit (H:=Unit) (.string (s k).text.data.toList)=.lit (.string x.data.toList):=by rw[<-r];exact e.1
 simp at l;exact(Vo (by rw[l])).symm
theorem mg.put{D:DataW Unit}{k v:ByteArray}(f:IsMap D)(p:∀k:ByteArray,k.size<=maxLen->Maps.has D (.string k.data.toList)=(s k).there/\((s k).there=true->D.atKey (.string k.data.toList) (.lit (.string []))=.lit (.string (s k).text.data.toList)))
  (h:w'.ownsMap Tryz.prog 9 (plainElem Tryz.prog 9) b n (D.put (.string k.data.toList) (.lit (.string v.data.toList)))):mg w' b n (oS s k ⟨v,true⟩):=by
 refine⟨_,h,λx l=>?_⟩;unfold oS;split
 .rename_i e;rw[e];exact⟨by rw[has_put_same f (by simp[WideAt.IsKeyLit])],λ_=>atKey_put_same f (by simp[WideAt.IsKeyLit]) _ _⟩
 .rename_i e;have a:(Lit.string x.data.toList)≠.string k.data.toList:=λq=>e (Vo (by simpa using q));rw[has_put_other a,atKey_put_other a];exact p x l
theorem mg.del{D:DataW Unit}{k:ByteArray}(p:Tidy D)(l:∀k:ByteArray,k.size<=maxLen->Maps.has D (.string k.data.toList)=(s k).there/\((s k).there=true->D.atKey (.string k.data.toList) (.lit (.string []))=.lit (.string (s k).text.data.toList)))
  (h:w'.ownsMap Tryz.prog 9 (plainElem Tryz.prog 9) b n (D.del (.string k.data.toList))):mg w' b n (oS s k AB):=by
 refine⟨_,h,λx f=>?_⟩;unfold oS;split
 .rename_i e;rw[e];exact⟨by rw[has_del_same];rfl,λh=>by simp[AB]at h⟩
 .rename_i e;have a:(Lit.string x.data.toList)≠.string k.data.toList:=λq=>e (Vo (by simpa using q));rw[has_del_other a,atKey_del_other a];exact l x f
