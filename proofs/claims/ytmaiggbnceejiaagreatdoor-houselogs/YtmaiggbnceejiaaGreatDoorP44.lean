import Derived.Test.YtmaiggbnceejiaaGreatDoorP43
import Derived.StillTailTactics
import Derived.Test.YtmaiggbnceejiaaGreatDoorP39
set_option linter.unusedVariables false
set_option maxRecDepth 100000
set_option maxHeartbeats 16000000
namespace Go.Proofs.YtmaiggbnceejiaaGreatDoor
open Go.RowKit Go.Lib Go.Maps
def zEg(n:Nat):Code->Option Code
 | .block m c=>if m == n then some (.block m c) else zEg n c
 | .loop c=>zEg n c
 | .seq a b=>match zEg n a with
  | some c=>some c
  | none=>zEg n b
 | .scope c=>zEg n c
 | .cond _ a b=>match zEg n a with
  | some c=>some c
  | none=>zEg n b
 | _=>none
def SwP(w:World)(n c gs g:Nat)(y:HLay)(xv:Value)(vs:List Value)(s':StoS)(fr:Act):Prop:=∀ R:Act->World->Prop,(∀ fr' wd,EndF fr' gs->StoR w n (c+2) gs g y xv vs s' wd->R fr' wd) ->
  Code.wp Tryz.prog ((Tryz.f10.body.bind (zEg 0)).getD .skip) (zEf R) fr w
theorem StoR.refl{w w':World}{n c gs g:Nat}{y:HLay}{xv:Value}{vs:List Value}{s:StoS}(h:StoP w n c gs g y xv vs s)(hm:Mod zAb w w'):StoR w n (c+2) gs g y xv vs s w':=⟨y,xv,vs,(h.quiet hm).more (by omega),StoM.quiet hm⟩
section
variable {w:World} {n c m gs g:Nat} {y:HLay} {xv:Value} {vs:List Value} {s:StoS} {xb:Nat} {x:ActD}
theorem sw12(hp:zCd w n c m gs g y xv vs s xb x)(fr:Act)(hf:SwF fr gs xb (idS s x) (keyX x) x.what)(hw:x.what=12):SwP w n c gs g y xv vs (armS s x) fr:=by
 intro R hN
 conv=>arg 2;whnf
 obtain ⟨f,rfl⟩:=hf.lit
 rw [hw]
 have hA:armS s x={ s with h:=zIa s.h }:=by unfold armS;simp [hw]
 rw [hA] at hN
 have c0:=(blkS hp.sto.blk).1
 have zg:=hp.sto.blk.lt
 have HN:=Hmq hN
 have HC:=Hmq (hp.calm)
 clear hN hp hf hA
 go_wp2_with fail
 refine (HC.out _ (Mod.refl _ _)).mono ?_
 rintro e w1 ⟨ev,rfl,hr⟩
 have HR:=Hmq hr
 clear hr HC
 go_wp2_with fail
 show R _ _
 exact HN.out _ _ ⟨rfl,rfl,rfl⟩ HR.out
theorem sw11(hp:zCd w n c m gs g y xv vs s xb x)(fr:Act)(hf:SwF fr gs xb (idS s x) (keyX x) x.what)(hw:x.what=11):SwP w n c gs g y xv vs (armS s x) fr:=by
 intro R hN
 conv=>arg 2;whnf
 obtain ⟨f,rfl⟩:=hf.lit
 rw [hw]
 have hA:armS s x={ s with h:=fixH s.h }:=by unfold armS;simp [hw]
 rw [hA] at hN
 have c0:=(blkS hp.sto.blk).1
 have zg:=hp.sto.blk.lt
 have HN:=Hmq hN
 have HC:=Hmq (hp.fix)
 clear hN hp hf hA
 go_wp2_with fail
 refine (HC.out _ (Mod.refl _ _)).mono ?_
 rintro e w1 ⟨ev,rfl,hr⟩
 have HR:=Hmq hr
 clear hr HC
 go_wp2_with fail
 show R _ _
 exact HN.out _ _ ⟨rfl,rfl,rfl⟩ HR.out
theorem sw9(hp:zCd w n c m gs g y xv vs s xb x)(fr:Act)(hf:SwF fr gs xb (idS s x) (keyX x) x.what)(hw:x.what=9):SwP w n c gs g y xv vs (armS s x) fr:=by
 intro R hN
 conv=>arg 2;whnf
 obtain ⟨f,rfl⟩:=hf.lit
 rw [hw]
 have hA:armS s x={ s with h:=zFd s.h }:=by unfold armS;simp [hw]
 rw [hA] at hN
 have c0:=(blkS hp.sto.blk).1
 have zg:=hp.sto.blk.lt
 have HN:=Hmq hN
 have HC:=Hmq (hp.tick)
 clear hN hp hf hA
 go_wp2_with fail
 refine (HC.out _ (Mod.refl _ _)).mono ?_
 rintro e w1 ⟨ev,rfl,hr⟩
 have HR:=Hmq hr
 clear hr HC
 go_wp2_with fail
 show R _ _
 exact HN.out _ _ ⟨rfl,rfl,rfl⟩ HR.out
theorem sw4(hp:zCd w n c m gs g y xv vs s xb x)(fr:Act)(hf:SwF fr gs xb (idS s x) (keyX x) x.what)(hw:x.what=4):SwP w n c gs g y xv vs (armS s x) fr:=by
 intro R hN
 conv=>arg 2;whnf
 obtain ⟨f,rfl⟩:=hf.lit
 rw [hw]
 have hA:armS s x={ s with h:=(endH s.h (idS s x:Nat)).1 }:=by unfold armS;simp [hw]
 rw [hA] at hN
 have c0:=(blkS hp.sto.blk).1
 have zg:=hp.sto.blk.lt
 have HN:=Hmq hN
 have HC:=Hmq (hp.end_ (idS s x:Nat))
 clear hN hp hf hA
 go_wp2_with fail
 refine (HC.out _ (Mod.refl _ _)).mono ?_
 rintro e w1 ⟨ev,rfl,hr⟩
 have HR:=Hmq hr
 clear hr HC
 go_wp2_with fail
 show R _ _
 exact HN.out _ _ ⟨rfl,rfl,rfl⟩ HR.out
theorem sw5a(hp:zCd w n c m gs g y xv vs s xb x)(fr:Act)(hf:SwF fr gs xb (idS s x) (keyX x) x.what)(hw:x.what=5)(ha:x.a.tmod 4=0):SwP w n c gs g y xv vs (armS s x) fr:=by
 intro R hN
 conv=>arg 2;whnf
 obtain ⟨f,rfl⟩:=hf.lit
 rw [hw]
 have hA:armS s x={ s with h:=(zIt s.h (idS s x:Nat)).1 }:=by unfold armS;simp [hw,ha]
 rw [hA] at hN
 have c0:=(blkS hp.sto.blk).1
 have zg:=hp.sto.blk.lt
 have HN:=Hmq hN
 have HC:=Hmq (hp.drop (idS s x:Nat))
 have x2:=hp.act.cell 2 rfl
 have zx:=hp.act.lt
 have hb:(x.a.tmod 4 == 0)=true:=by simpa using ha
 clear hN hp hf hA ha
 go_wp2_with fail
 refine (HC.out _ (Mod.refl _ _)).mono ?_
 rintro e w1 ⟨ev,rfl,hr⟩
 have HR:=Hmq hr
 clear hr HC
 go_wp2_with fail
 show R _ _
 exact HN.out _ _ ⟨rfl,rfl,rfl⟩ HR.out
theorem sw5b(hp:zCd w n c m gs g y xv vs s xb x)(fr:Act)(hf:SwF fr gs xb (idS s x) (keyX x) x.what)(hw:x.what=5)(ha:x.a.tmod 4≠0):SwP w n c gs g y xv vs (armS s x) fr:=by
 intro R hN
 conv=>arg 2;whnf
 obtain ⟨f,rfl⟩:=hf.lit
 rw [hw]
 have hA:armS s x=s:=by unfold armS;simp [hw,ha]
 rw [hA] at hN
 have c0:=(blkS hp.sto.blk).1
 have zg:=hp.sto.blk.lt
 have HN:=Hmq hN
 have HR:=Hmq (StoR.refl hp.sto (Mod.refl _ _))
 have x2:=hp.act.cell 2 rfl
 have zx:=hp.act.lt
 have hb:(x.a.tmod 4 == 0)=false:=by simpa using ha
 clear hN hp hf hA ha
 go_wp2_with fail
 show R _ _
 exact HN.out _ _ ⟨rfl,rfl,rfl⟩ HR.out
theorem sw6a(hp:zCd w n c m gs g y xv vs s xb x)(fr:Act)(hf:SwF fr gs xb (idS s x) (keyX x) x.what)(hw:x.what=6)(ha:0<s.h.net.way.length):SwP w n c gs g y xv vs (armS s x) fr:=by
 intro R hN
 conv=>arg 2;whnf
 obtain ⟨f,rfl⟩:=hf.lit
 rw [hw]
 have hA:armS s x={ s with h:=zBf s.h (zDw x.a s.h.net.way.length) }:=by unfold armS;simp [hw,ha]
 rw [hA] at hN
 have c0:=(blkS hp.sto.blk).1
 have zg:=hp.sto.blk.lt
 have HN:=Hmq hN
 have HC:=Hmq (hp.deliver (zDw x.a s.h.net.way.length) (zKc _ _ ha))
 have HM:=Hmq hp.many
 have hfew:=hp.sto.house.net.few
 have HP:Hid (∀ wq,Calls Tryz.prog 18 #[.int .i64 x.a,.int .i64 s.h.net.way.length] wq fun e w'=>e=.returned (.int .i64 (zDw x.a s.h.net.way.length))/\w'=wq):=fun wq=>zHh x.a _ wq ha (by omega)
 have x2:=hp.act.cell 2 rfl
 have x0:=hp.act.cell 0 rfl
 rw [hw] at x0
 have zx:=hp.act.lt
 obtain ⟨wl,hwl⟩:∃ z,z=s.h.net.way.length:=⟨_,rfl⟩
 rw [<-hwl] at ha HM HP HC hfew HN
 have hb:decide ((wl:Int) > 0)=true:=decide_eq_true (by omega)
 have hb2:(0:Int)<(wl:Int):=by omega
 obtain ⟨pk,hpk⟩:∃ z,z=zDw x.a wl:=⟨_,rfl⟩
 rw [<-hpk] at HP HC HN
 clear hN hp hf hA hwl hpk
 go_wp2_with fail
 refine (HM.out _ (Mod.refl _ _)).mono ?_
 rintro e w1 ⟨rfl,rfl⟩
 go_wp2_with fail
 refine (HP.out _).mono ?_
 rintro e w2 ⟨rfl,rfl⟩
 go_wp2_with fail
 refine (HC.out _ (Mod.refl _ _)).mono ?_
 rintro e w3 ⟨ev,rfl,hr⟩
 have HR:=Hmq hr
 clear hr HC
 go_wp2_with fail
 show R _ _
 exact HN.out _ _ ⟨rfl,rfl,rfl⟩ HR.out
theorem sw6b(hp:zCd w n c m gs g y xv vs s xb x)(fr:Act)(hf:SwF fr gs xb (idS s x) (keyX x) x.what)(hw:x.what=6)(ha:¬ 0<s.h.net.way.length):SwP w n c gs g y xv vs (armS s x) fr:=by
 intro R hN
 conv=>arg 2;whnf
 obtain ⟨f,rfl⟩:=hf.lit
 rw [hw]
 have hA:armS s x=s:=by unfold armS;simp [hw,ha]
 rw [hA] at hN
 have c0:=(blkS hp.sto.blk).1
 have zg:=hp.sto.blk.lt
 have HN:=Hmq hN
 have HR:=Hmq (StoR.refl hp.sto (Mod.refl _ _))
 have HM:=Hmq hp.many
 obtain ⟨wl,hwl⟩:∃ z,z=s.h.net.way.length:=⟨_,rfl⟩
 rw [<-hwl] at ha HM
 obtain rfl:wl=0:=by omega
 clear hN hp hf hA hwl ha
 go_wp2_with fail
 refine (HM.out _ (Mod.refl _ _)).mono ?_
 rintro e w1 ⟨rfl,rfl⟩
 go_wp2_with fail
 show R _ _
 exact HN.out _ _ ⟨rfl,rfl,rfl⟩ HR.out
theorem sw7a(hp:zCd w n c m gs g y xv vs s xb x)(fr:Act)(hf:SwF fr gs xb (idS s x) (keyX x) x.what)(hw:x.what=7)(ha:0<s.h.net.way.length):SwP w n c gs g y xv vs (armS s x) fr:=by
 intro R hN
 conv=>arg 2;whnf
 obtain ⟨f,rfl⟩:=hf.lit
 rw [hw]
 have hA:armS s x={ s with h:=(zIm s.h (zDw x.a s.h.net.way.length:Nat)).1 }:=by unfold armS;simp [hw,ha]
 rw [hA] at hN
 have c0:=(blkS hp.sto.blk).1
 have zg:=hp.sto.blk.lt
 have HN:=Hmq hN
 have HC:=Hmq (hp.lose (zDw x.a s.h.net.way.length))
 have HM:=Hmq hp.many
 have hfew:=hp.sto.house.net.few
 have HP:Hid (∀ wq,Calls Tryz.prog 18 #[.int .i64 x.a,.int .i64 s.h.net.way.length] wq fun e w'=>e=.returned (.int .i64 (zDw x.a s.h.net.way.length))/\w'=wq):=fun wq=>zHh x.a _ wq ha (by omega)
 have x2:=hp.act.cell 2 rfl
 have x0:=hp.act.cell 0 rfl
 rw [hw] at x0
 have zx:=hp.act.lt
 obtain ⟨wl,hwl⟩:∃ z,z=s.h.net.way.length:=⟨_,rfl⟩
 rw [<-hwl] at ha HM HP HC hfew HN
 have hb:decide ((wl:Int) > 0)=true:=decide_eq_true (by omega)
 have hb2:(0:Int)<(wl:Int):=by omega
 obtain ⟨pk,hpk⟩:∃ z,z=zDw x.a wl:=⟨_,rfl⟩
 rw [<-hpk] at HP HC HN
 clear hN hp hf hA hwl hpk
 go_wp2_with fail
 refine (HM.out _ (Mod.refl _ _)).mono ?_
 rintro e w1 ⟨rfl,rfl⟩
 go_wp2_with fail
 refine (HP.out _).mono ?_
 rintro e w2 ⟨rfl,rfl⟩
 go_wp2_with fail
 refine (HC.out _ (Mod.refl _ _)).mono ?_
 rintro e w3 ⟨ev,rfl,hr⟩
 have HR:=Hmq hr
 clear hr HC
 go_wp2_with fail
 show R _ _
 exact HN.out _ _ ⟨rfl,rfl,rfl⟩ HR.out
theorem sw7b(hp:zCd w n c m gs g y xv vs s xb x)(fr:Act)(hf:SwF fr gs xb (idS s x) (keyX x) x.what)(hw:x.what=7)(ha:¬ 0<s.h.net.way.length):SwP w n c gs g y xv vs (armS s x) fr:=by
 intro R hN
 conv=>arg 2;whnf
 obtain ⟨f,rfl⟩:=hf.lit
 rw [hw]
 have hA:armS s x=s:=by unfold armS;simp [hw,ha]
 rw [hA] at hN
 have c0:=(blkS hp.sto.blk).1
 have zg:=hp.sto.blk.lt
 have HN:=Hmq hN
 have HR:=Hmq (StoR.refl hp.sto (Mod.refl _ _))
 have HM:=Hmq hp.many
 obtain ⟨wl,hwl⟩:∃ z,z=s.h.net.way.length:=⟨_,rfl⟩
 rw [<-hwl] at ha HM
 obtain rfl:wl=0:=by omega
 clear hN hp hf hA hwl ha
 go_wp2_with fail
 refine (HM.out _ (Mod.refl _ _)).mono ?_
 rintro e w1 ⟨rfl,rfl⟩
 go_wp2_with fail
 show R _ _
 exact HN.out _ _ ⟨rfl,rfl,rfl⟩ HR.out
theorem sw8a(hp:zCd w n c m gs g y xv vs s xb x)(fr:Act)(hf:SwF fr gs xb (idS s x) (keyX x) x.what)(hw:x.what=8)(ha:0<s.h.net.way.length):SwP w n c gs g y xv vs (armS s x) fr:=by
 intro R hN
 conv=>arg 2;whnf
 obtain ⟨f,rfl⟩:=hf.lit
 rw [hw]
 have hA:armS s x={ s with h:=(zDr s.h (zDw x.a s.h.net.way.length:Nat)).1 }:=by unfold armS;simp [hw,ha]
 rw [hA] at hN
 have c0:=(blkS hp.sto.blk).1
 have zg:=hp.sto.blk.lt
 have HN:=Hmq hN
 have HC:=Hmq (hp.twice (zDw x.a s.h.net.way.length))
 have HM:=Hmq hp.many
 have hfew:=hp.sto.house.net.few
 have HP:Hid (∀ wq,Calls Tryz.prog 18 #[.int .i64 x.a,.int .i64 s.h.net.way.length] wq fun e w'=>e=.returned (.int .i64 (zDw x.a s.h.net.way.length))/\w'=wq):=fun wq=>zHh x.a _ wq ha (by omega)
 have x2:=hp.act.cell 2 rfl
 have x0:=hp.act.cell 0 rfl
 rw [hw] at x0
 have zx:=hp.act.lt
 obtain ⟨wl,hwl⟩:∃ z,z=s.h.net.way.length:=⟨_,rfl⟩
 rw [<-hwl] at ha HM HP HC hfew HN
 have hb:decide ((wl:Int) > 0)=true:=decide_eq_true (by omega)
 have hb2:(0:Int)<(wl:Int):=by omega
 obtain ⟨pk,hpk⟩:∃ z,z=zDw x.a wl:=⟨_,rfl⟩
 rw [<-hpk] at HP HC HN
 clear hN hp hf hA hwl hpk
 go_wp2_with fail
 refine (HM.out _ (Mod.refl _ _)).mono ?_
 rintro e w1 ⟨rfl,rfl⟩
 go_wp2_with fail
 refine (HP.out _).mono ?_
 rintro e w2 ⟨rfl,rfl⟩
 go_wp2_with fail
 refine (HC.out _ (Mod.refl _ _)).mono ?_
 rintro e w3 ⟨ev,rfl,hr⟩
 have HR:=Hmq hr
 clear hr HC
 go_wp2_with fail
 show R _ _
 exact HN.out _ _ ⟨rfl,rfl,rfl⟩ HR.out
theorem sw8b(hp:zCd w n c m gs g y xv vs s xb x)(fr:Act)(hf:SwF fr gs xb (idS s x) (keyX x) x.what)(hw:x.what=8)(ha:¬ 0<s.h.net.way.length):SwP w n c gs g y xv vs (armS s x) fr:=by
 intro R hN
 conv=>arg 2;whnf
 obtain ⟨f,rfl⟩:=hf.lit
 rw [hw]
 have hA:armS s x=s:=by unfold armS;simp [hw,ha]
 rw [hA] at hN
 have c0:=(blkS hp.sto.blk).1
 have zg:=hp.sto.blk.lt
 have HN:=Hmq hN
 have HR:=Hmq (StoR.refl hp.sto (Mod.refl _ _))
 have HM:=Hmq hp.many
 obtain ⟨wl,hwl⟩:∃ z,z=s.h.net.way.length:=⟨_,rfl⟩
 rw [<-hwl] at ha HM
 obtain rfl:wl=0:=by omega
 clear hN hp hf hA hwl ha
 go_wp2_with fail
 refine (HM.out _ (Mod.refl _ _)).mono ?_
 rintro e w1 ⟨rfl,rfl⟩
 go_wp2_with fail
 show R _ _
 exact HN.out _ _ ⟨rfl,rfl,rfl⟩ HR.out
theorem sw10(hp:zCd w n c m gs g y xv vs s xb x)(fr:Act)(hf:SwF fr gs xb (idS s x) (keyX x) x.what)(hw:x.what=10):SwP w n c gs g y xv vs (armS s x) fr:=by
 intro R hN
 conv=>arg 2;whnf
 obtain ⟨f,rfl⟩:=hf.lit
 rw [hw]
 have hA:armS s x={ s with h:=zOu s (zDw x.a 3) (zDw x.tx s.nodes) }:=by unfold armS;simp [hw]
 rw [hA] at hN
 have c0:=(blkS hp.sto.blk).1
 have zg:=hp.sto.blk.lt
 have HN:=Hmq hN
 have hnd:=hp.ok.nodes
 have HC:=Hmq (hp.fails (zDw x.a 3) (zDw x.tx s.nodes) (zKc _ _ (by omega)) (by have:=zKc x.tx s.nodes (by omega);omega))
 have HP:Hid (∀ wq,Calls Tryz.prog 18 #[.int .i64 x.a,.int .i64 3] wq fun e w'=>e=.returned (.int .i64 (zDw x.a 3))/\w'=wq):=fun wq=>zHh x.a 3 wq (by omega) (by omega)
 have HT:Hid (∀ wq,Calls Tryz.prog 18 #[.int .i64 x.tx,.int .i64 s.nodes] wq fun e w'=>e=.returned (.int .i64 (zDw x.tx s.nodes))/\w'=wq):=fun wq=>zHh x.tx _ wq (by omega) (by omega)
 have x1:=hp.act.cell 1 rfl
 have x2:=hp.act.cell 2 rfl
 have c4:=(blkS hp.sto.blk).2.2.2.2
 have zx:=hp.act.lt
 obtain ⟨pa,hpa⟩:∃ z,z=zDw x.a 3:=⟨_,rfl⟩
 obtain ⟨pt,hpt⟩:∃ z,z=zDw x.tx s.nodes:=⟨_,rfl⟩
 rw [<-hpa,<-hpt] at HC HN
 rw [<-hpa] at HP
 rw [<-hpt] at HT
 clear hN hp hf hA hpa hpt hnd
 go_upto_region 43 with fail
 refine wp_region_still_tail 11 (by kernel_rfl) (by kernel_rfl) ?_
 simp only [List.take_succ_cons,List.take_zero,List.drop_succ_cons,List.drop_zero]
 repeat still_step
 still_call (HP.out _)
 repeat still_step
 still_call (HT.out _)
 repeat still_step
 refine wpStill_nil ?_
 go_wp2_with fail
 refine (HC.out _ ((Mod.refl _ _).drew)).mono ?_
 rintro e w1 ⟨ev,rfl,hr⟩
 have HR:=Hmq hr
 clear hr HC
 go_wp2_with fail
 show R _ _
 exact HN.out _ _ ⟨rfl,rfl,rfl⟩ HR.out
end
end Go.Proofs.YtmaiggbnceejiaaGreatDoor
namespace Go.Proofs.YtmaiggbnceejiaaGreatDoor
open Go.RowKit Go.Lib Go.Maps
structure zPb(w:World)(db ob pb nD nO nP:Nat)(sc:Scan)(Pp:Int->Bool):Prop where
 d:zCv w db nD sc.D
 o:zIb w ob nO sc.O
 p:zCv w pb nP Pp
theorem zPb.quiet{w w':World}{db ob pb nD nO nP:Nat}{sc:Scan}{Pp:Int->Bool}(h:zPb w db ob pb nD nO nP sc Pp)(hm:Mod zAb w w'):zPb w' db ob pb nD nO nP sc Pp:=⟨h.d.mod hm id,h.o.mod hm id,h.p.mod hm id⟩
def zMy(a b c:Nat)(k:Nat):Prop:=k=a\/k=b\/k=c
theorem zKh{w:World}{b n:Nat}{f:Int->Bool}(h:zCv w b n f){cur:Array Value}{t:TypeId}{fr:Nat × Nat}:w.heap[b]?≠some (.cells cur t fr):=fun e=>by
 obtain ⟨D,⟨es,clock,hb,_⟩,_⟩:=h
 rw [hb] at e;cases e
theorem zMz{w:World}{b n:Nat}{f:Int->Int}(h:zIb w b n f){cur:Array Value}{t:TypeId}{fr:Nat × Nat}:w.heap[b]?≠some (.cells cur t fr):=fun e=>by
 obtain ⟨D,⟨es,clock,hb,_⟩,_⟩:=h
 rw [hb] at e;cases e
theorem zPb.not_cells{w:World}{db ob pb nD nO nP:Nat}{sc:Scan}{Pp:Int->Bool}(h:zPb w db ob pb nD nO nP sc Pp){k:Nat}(hk:zMy db ob pb k){cur:Array Value}{t:TypeId}{fr:Nat × Nat}:w.heap[k]?≠some (.cells cur t fr):=by
 rcases hk with rfl | rfl | rfl
 ·exact zKh h.d
 ·exact zMz h.o
 ·exact zKh h.p
theorem zPb.qm{w:World}{db ob pb nD nO nP:Nat}{sc:Scan}{Pp:Int->Bool}(h:zPb w db ob pb nD nO nP sc Pp){L:Lo}(hL:L.n<=db/\L.n<=ob/\L.n<=pb):Qm w L (zMy db ob pb):=fun k _ hk hs=>by
 rcases hs with hs | ⟨⟨cur,fr,hc⟩,_⟩
 ·rcases hk with rfl | rfl | rfl <;> omega
 ·exact h.not_cells hk hc
theorem zPb.rowC{w w':World}{db ob pb nD nO nP:Nat}{sc:Scan}{Pp:Int->Bool}(h:zPb w db ob pb nD nO nP sc Pp){L:Lo}(hL:L.n<=db/\L.n<=ob/\L.n<=pb){v:Value}{cs:List CmdD}(hr:RowC w L v cs)(hm:Mod (zMy db ob pb) w w'):RowC w' L v cs:=by
 refine hr.mod hm (h.qm hL) (fun k hk e=>?_)
 obtain ⟨us,_,h2,_⟩:=hr
 obtain ⟨_,_,cur,hc⟩:=zAh h2 hk
 exact h.not_cells e hc
theorem zYx{dec:Bool}{c:CmdD}{cs:List CmdD}{sc sc':Scan}{Pp:Int->Bool}(h:zOc dec (c :: cs) sc Pp=some sc'):∃ r,zWu dec sc Pp c=some r/\zOc dec cs r.1 r.2=some sc':=by
 rw [zOc] at h
 cases hr:zWu dec sc Pp c with
 | none=>rw [hr] at h;cases h
 | some r=>rw [hr] at h;exact ⟨r,rfl,h⟩
theorem yJf{c:CmdD}{sc:Scan}{Pp:Int->Bool}{r:Scan × (Int->Bool)}(h:zWu true sc Pp c=some r):c.kind=3/\r=(⟨setB sc.D c.tx,sc.O⟩,Pp):=by
 unfold zWu at h
 split at h
 ·simp at h
 ·split at h
  ·rename_i e;simp at h;exact ⟨e,h.symm⟩
  ·split at h
   ·simp at h
   ·cases h
theorem yCe{c:CmdD}{sc:Scan}{Pp:Int->Bool}{r:Scan × (Int->Bool)}(h:zWu false sc Pp c=some r):(c.kind=2/\r=(sc,setB Pp c.tx))\/(c.kind=3/\Pp c.tx=true/\sc.D c.tx=true/\sc.O c.tx≠4/\¬ c.time<1/\r=(⟨sc.D,setI sc.O c.tx 3⟩,Pp))\/(c.kind=4/\sc.O c.tx≠3/\r=(⟨sc.D,setI sc.O c.tx 4⟩,Pp)):=by
 unfold zWu at h
 split at h
 ·rename_i e;simp at h;exact .inl ⟨e,h.symm⟩
 ·split at h
  ·rename_i e
   simp only [Bool.false_eq_true,if_false] at h
   split at h
   ·cases h
   ·rename_i q
    simp only [not_or] at q
    refine .inr (.inl ⟨e,by simpa using q.1,by simpa using q.2.1,q.2.2.1,q.2.2.2,by simpa using h.symm⟩)
  ·split at h
   ·rename_i e
    split at h
    ·cases h
    ·rename_i q
     exact .inr (.inr ⟨e,fun e2=>q (.inr e2),by simpa using h.symm⟩)
   ·cases h
structure CmdI(dec:Bool)(w:World)(db ob pb nD nO:Nat)(log:List CmdD)(sc':Scan)(i:Nat)(wr:World):Prop where
 md:Mod (zMy db ob pb) w wr
 ex:∃ sc Pp nD' nO',zPb wr db ob pb nD' nO' i sc Pp/\nD'<=nD+i/\nO'<=nO+i/\zOc dec (log.drop i) sc Pp=some sc'
theorem cmds6d(c0 c1 c2 c3 c4 c5 c6 c7 c10 c12 c13 c14 c16 c17 c18 c19 c20 c21 c22 c23 c24 c25 c26 c27 c28 c29 c30 c31 c32 c33 c34 c35 c36 c37 c38 c39 c40 c41 c42 c43 c44 c45 c46 c47 c48 c49 c50 c51 c52 c53 c54 c55 c56 c57 c58 c59 c60 c61 c62 c63 c64 c65 c66 c67 c68 c69 c70 c71 c72 c73 c74 c75 c76 c77 c78 c79 c80 c81 c82 c83 c84 c85 c86 c87 c88 c89 c90 c91 c92 c93 c94 c95 c96 c100 c101 c102 c103 c104 c105 c106 c107 c108 c109 c110 c111 c112 c113 c114 c115 c116 c117 c118 c119 c120 c121 c122 c123 c124 c125 c126 c127 c128 c129 c130 c131 c132 c133 c134 c135 c136 c137 c138 c139 c140 c141 c142 c143 c144 c145 c146 c147 c148 c149 c150 c151 c152 c153 c154 c155 c156 c157 c158 c159 c160:Value)(db ob pb nD nO:Nat)(L:Lo)(va:Option Addr)(cap:Nat)(log:List CmdD)(sc sc':Scan)(w:World)(hM:zPb w db ob pb nD nO 0 sc (fun _=>false))(hne:db≠ob/\db≠pb/\ob≠pb)(hL:L.n<=db/\L.n<=ob/\L.n<=pb)(hlog:RowC w L (.slice va log.length cap) log)(hs:zOc true log sc (fun _=>false)=some sc')(hl:log.length<=1000)(hn:nD<=1000000/\nO<=1000000){R:Act->World->Prop}
  (hN:∀ (u4 u17 u99 u100 u101 u102 u103 u104 u105 u106 u107 u108 u109 u110 u111 u112 u113 u114 u115 u116 u117 u118 u119 u120 u121 u122 u123 u124 u125 u126 u127 u128 u129 u130 u131 u132 u133 u134 u135 u136 u137 u138 u139 u140 u141 u142 u143 u144 u145 u146 u147 u148 u149 u150 u151 u152 u153 u154 u155 u156 u157 u158 u159 u160:Value) (wd:World),Mod (zMy db ob pb) w wd->(∃ nD' nO',nD'<=nD+1000/\nO'<=nO+1000/\zCv wd db nD' sc'.D/\zIb wd ob nO' sc'.O)->R ⟨#[c0,c1,c2,c3,u4,c5,c6,c7,.map (some db),.map (some ob),c10,.int .i64 2,c12,c13,c14,.map (some pb),c16,u17,c18,c19,c20,c21,c22,c23,c24,c25,c26,c27,c28,c29,c30,c31,c32,c33,c34,c35,c36,c37,c38,c39,c40,c41,c42,c43,c44,c45,c46,c47,c48,c49,c50,c51,c52,c53,c54,c55,c56,c57,c58,c59,c60,c61,c62,c63,c64,c65,c66,c67,c68,c69,c70,c71,c72,c73,c74,c75,c76,c77,c78,c79,c80,c81,c82,c83,c84,c85,c86,c87,c88,c89,c90,c91,c92,c93,c94,c95,c96,.slice va log.length cap,.int .i64 log.length,u99,u100,u101,u102,u103,u104,u105,u106,u107,u108,u109,u110,u111,u112,u113,u114,u115,u116,u117,u118,u119,u120,u121,u122,u123,u124,u125,u126,u127,u128,u129,u130,u131,u132,u133,u134,u135,u136,u137,u138,u139,u140,u141,u142,u143,u144,u145,u146,u147,u148,u149,u150,u151,u152,u153,u154,u155,u156,u157,u158,u159,u160],[]⟩ wd) :
  Code.wp Tryz.prog ((Tryz.f5.body.bind (zEg 6)).getD .skip) (zEf R) ⟨#[c0,c1,c2,c3,c4,c5,c6,c7,.map (some db),.map (some ob),c10,.int .i64 2,c12,c13,c14,.map (some pb),c16,c17,c18,c19,c20,c21,c22,c23,c24,c25,c26,c27,c28,c29,c30,c31,c32,c33,c34,c35,c36,c37,c38,c39,c40,c41,c42,c43,c44,c45,c46,c47,c48,c49,c50,c51,c52,c53,c54,c55,c56,c57,c58,c59,c60,c61,c62,c63,c64,c65,c66,c67,c68,c69,c70,c71,c72,c73,c74,c75,c76,c77,c78,c79,c80,c81,c82,c83,c84,c85,c86,c87,c88,c89,c90,c91,c92,c93,c94,c95,c96,.slice va log.length cap,.int .i64 log.length,.int .i64 0,c100,c101,c102,c103,c104,c105,c106,c107,c108,c109,c110,c111,c112,c113,c114,c115,c116,c117,c118,c119,c120,c121,c122,c123,c124,c125,c126,c127,c128,c129,c130,c131,c132,c133,c134,c135,c136,c137,c138,c139,c140,c141,c142,c143,c144,c145,c146,c147,c148,c149,c150,c151,c152,c153,c154,c155,c156,c157,c158,c159,c160],[]⟩ w:=by
 conv=>arg 2;whnf
 have HN:=Hmq hN
 have H0:Hid (CmdI true w db ob pb nD nO log sc' 0 w):=⟨Mod.refl _ _,sc,_,nD,nO,hM,by omega,by omega,hs⟩
 have HM:=Hmq hM
 have HL:=Hmq hL
 have HLOG:=Hmq hlog
 obtain ⟨ne1,ne2,ne3⟩:=hne
 clear hN hM hL hlog hs
 go_wp2_with fail
 go_loopw [99] (fun i0 wr=>∃ i:Nat,i<=log.length/\i0=.int .i64 i/\CmdI true w db ob pb nD nO log sc' i wr) (fun i0 _=>log.length - (intOf i0).toNat)
 case atStart=>exact ⟨0,Nat.zero_le _,rfl,H0.out⟩
 case round=>
  obtain ⟨i,hil,rfl,hC⟩:=hrel
  clear H0
  obtain ⟨hmd,sci,Pp,nDi,nOi,hMi,hnd,hno,hsi⟩:=hC
  by_cases hlt:i<log.length
  ·obtain ⟨c,hc⟩:∃ c,log[i]?=some c:=⟨_,List.getElem?_eq_getElem hlt⟩
   obtain ⟨ga,ca,ua,hva,_,hca,hua,hgc,q0,q1,q2,q3⟩:=(HM.out.rowC HL.out HLOG.out hmd).at hc
   simp only [Value.slice.injEq] at hva
   obtain ⟨rfl,_,rfl⟩:=hva
   have za:ga<wr.heap.size:=World.block_lt_of_cell? wr _ q0
   obtain ⟨uaa,ucap,hus,-⟩:=hua
   have hltI:(i:Int)<(log.length:Int):=by omega
   have hi0:(0:Int)<=(i:Int):=by omega
   have htx:zBm c.tx:=hgc.1.2.1
   rw [zBt hc] at hsi
   obtain ⟨r,hr,hsr⟩:=zYx hsi
   obtain ⟨ck,ct,cti,cw⟩:=c
   dsimp only at q0 q1 q2 q3 htx hr hus
   obtain ⟨w3,hw3⟩:∃ z,z=wr.alloc (.cells #[.int .i64 ck,.int .i64 ct,.int .i64 cti,ua] 65):=⟨_,rfl⟩
   have hm3:Mod zAb wr w3:=by rw [hw3];exact (Mod.refl _ wr).alloc _
   have hB3:Blk w3 wr.heap.size [.int .i64 ck,.int .i64 ct,.int .i64 cti,ua] 65:=by rw [hw3];exact Blk.new wr _ _
   have hM3:=hMi.quiet hm3
   have b0:=hB3.cell 0 rfl
   have b1:=hB3.cell 1 rfl
   have b2:=hB3.cell 2 rfl
   have zb:=hB3.lt
   have lD:=hM3.d.look htx
   have lO:=hM3.o.look htx
   have lP:=hM3.p.look htx
   have hkey:=keyY htx
   have HMD:Hid (Mod (zMy db ob pb) w w3):=hmd.trans (hm3.mono (fun _ _ e=>e.elim))
   have HM3:=Hmq hM3
   have HSR:=Hmq hsr
   have HB:=Hmq hB3
   have hznd:nDi<maxLen:=by unfold maxLen;omega
   have hzno:nOi<maxLen:=by unfold maxLen;omega
   have hznp:i<maxLen:=by unfold maxLen;omega
   subst hus
   clear hmd hMi hM3 hsi hsr hgc hc hm3 hB3
   obtain ⟨hkd,hre⟩:=yJf hr
   dsimp only at hkd
   subst hkd
   clear hr lD lO lP
   obtain ⟨Dm,hO,hAt⟩:=HM3.out.d
   have HO:=Hmq hO
   have HAT:=Hmq hAt
   have hnb:wr.heap.size≠db:=fun e=>by
    have q:=HB.out
    unfold Blk at q
    rw [e] at q
    exact HM3.out.not_cells (k:=db) (.inl rfl) q
   clear hO hAt
   go_upto_region 29 with fail
   rw [<-hw3]
   clear hw3 q0 q1 q2 q3
   go_upto_region 37 with fail
   go_wp2_with (first
     | (at_mapUpdate;refine wpList_mapUpdate_own _ rfl _ _ _ 56 rfl 3 4 kInt Tryz.underlying56 (plainElem Tryz.prog 4) db _ Dm rfl HO.out hznd _ _ _ rfl rfl hkey _ [] (plainElem_bool Tryz.underlying4 true) ?_;intro w4 hown4 hgrow4)
     | fail)
   have hm4:Mod (zAc db) w3 w4:=(Mod.refl _ w3).grown hgrow4 (fun x hx _=>by cases hx;rfl)
   have b0':=(HB.out.mod hm4 (fun e=>hnb e)).cell 0 rfl
   have b1':=(HB.out.mod hm4 (fun e=>hnb e)).cell 1 rfl
   have zb':=(HB.out.mod hm4 (fun e=>hnb e)).lt
   have HCI:Hid (CmdI true w db ob pb nD nO log sc' (i+1) w4):=by
    refine ⟨HMD.out.trans (hm4.mono (fun k _ e=>.inl e)),r.1,r.2,nDi+1,nOi,?_,by omega,by omega,HSR.out⟩
    rw [hre]
    exact ⟨zCv.put HO.out.isMap HAT.out hown4,HM3.out.o.mod hm4 (fun e=>ne1 (Eq.symm e)),(HM3.out.p.mod hm4 (fun e=>ne2 (Eq.symm e))).mono (by omega)⟩
   clear hm4 hown4 hgrow4 b0 b1 b2 zb
   go_wp2_with fail
   go_roundw
   case rel=>exact ⟨i+1,by omega,by go_num,HCI.out⟩
   case measure=>simp [intOf];omega
  ·obtain rfl:i=log.length:=by omega
   have hsc:sci=sc':=by rw [List.drop_length] at hsi;exact Option.some.inj hsi
   subst hsc
   have HF:Hid (∃ nD' nO',nD'<=nD+1000/\nO'<=nO+1000/\zCv wr db nD' sci.D/\zIb wr ob nO' sci.O):=⟨nDi,nOi,by omega,by omega,hMi.d,hMi.o⟩
   have HMD:=Hmq hmd
   clear hmd hMi hsi
   go_wp2_with fail
   show R _ _
   apply HN.out
   ·exact HMD.out
   ·exact HF.out
theorem cmds6s(k:Int)(hk2:(k == 2)=false)(c0 c1 c2 c3 c4 c5 c6 c7 c10 c12 c13 c14 c16 c17 c18 c19 c20 c21 c22 c23 c24 c25 c26 c27 c28 c29 c30 c31 c32 c33 c34 c35 c36 c37 c38 c39 c40 c41 c42 c43 c44 c45 c46 c47 c48 c49 c50 c51 c52 c53 c54 c55 c56 c57 c58 c59 c60 c61 c62 c63 c64 c65 c66 c67 c68 c69 c70 c71 c72 c73 c74 c75 c76 c77 c78 c79 c80 c81 c82 c83 c84 c85 c86 c87 c88 c89 c90 c91 c92 c93 c94 c95 c96 c100 c101 c102 c103 c104 c105 c106 c107 c108 c109 c110 c111 c112 c113 c114 c115 c116 c117 c118 c119 c120 c121 c122 c123 c124 c125 c126 c127 c128 c129 c130 c131 c132 c133 c134 c135 c136 c137 c138 c139 c140 c141 c142 c143 c144 c145 c146 c147 c148 c149 c150 c151 c152 c153 c154 c155 c156 c157 c158 c159 c160:Value)(db ob pb nD nO:Nat)(L:Lo)(va:Option Addr)(cap:Nat)(log:List CmdD)(sc sc':Scan)(w:World)(hM:zPb w db ob pb nD nO 0 sc (fun _=>false))(hne:db≠ob/\db≠pb/\ob≠pb)(hL:L.n<=db/\L.n<=ob/\L.n<=pb)(hlog:RowC w L (.slice va log.length cap) log)(hs:zOc false log sc (fun _=>false)=some sc')(hl:log.length<=1000)(hn:nD<=1000000/\nO<=1000000){R:Act->World->Prop}
  (hN:∀ (u4 u17 u99 u100 u101 u102 u103 u104 u105 u106 u107 u108 u109 u110 u111 u112 u113 u114 u115 u116 u117 u118 u119 u120 u121 u122 u123 u124 u125 u126 u127 u128 u129 u130 u131 u132 u133 u134 u135 u136 u137 u138 u139 u140 u141 u142 u143 u144 u145 u146 u147 u148 u149 u150 u151 u152 u153 u154 u155 u156 u157 u158 u159 u160:Value) (wd:World),Mod (zMy db ob pb) w wd->(∃ nD' nO',nD'<=nD+1000/\nO'<=nO+1000/\zCv wd db nD' sc'.D/\zIb wd ob nO' sc'.O)->R ⟨#[c0,c1,c2,c3,u4,c5,c6,c7,.map (some db),.map (some ob),c10,.int .i64 k,c12,c13,c14,.map (some pb),c16,u17,c18,c19,c20,c21,c22,c23,c24,c25,c26,c27,c28,c29,c30,c31,c32,c33,c34,c35,c36,c37,c38,c39,c40,c41,c42,c43,c44,c45,c46,c47,c48,c49,c50,c51,c52,c53,c54,c55,c56,c57,c58,c59,c60,c61,c62,c63,c64,c65,c66,c67,c68,c69,c70,c71,c72,c73,c74,c75,c76,c77,c78,c79,c80,c81,c82,c83,c84,c85,c86,c87,c88,c89,c90,c91,c92,c93,c94,c95,c96,.slice va log.length cap,.int .i64 log.length,u99,u100,u101,u102,u103,u104,u105,u106,u107,u108,u109,u110,u111,u112,u113,u114,u115,u116,u117,u118,u119,u120,u121,u122,u123,u124,u125,u126,u127,u128,u129,u130,u131,u132,u133,u134,u135,u136,u137,u138,u139,u140,u141,u142,u143,u144,u145,u146,u147,u148,u149,u150,u151,u152,u153,u154,u155,u156,u157,u158,u159,u160],[]⟩ wd) :
  Code.wp Tryz.prog ((Tryz.f5.body.bind (zEg 6)).getD .skip) (zEf R) ⟨#[c0,c1,c2,c3,c4,c5,c6,c7,.map (some db),.map (some ob),c10,.int .i64 k,c12,c13,c14,.map (some pb),c16,c17,c18,c19,c20,c21,c22,c23,c24,c25,c26,c27,c28,c29,c30,c31,c32,c33,c34,c35,c36,c37,c38,c39,c40,c41,c42,c43,c44,c45,c46,c47,c48,c49,c50,c51,c52,c53,c54,c55,c56,c57,c58,c59,c60,c61,c62,c63,c64,c65,c66,c67,c68,c69,c70,c71,c72,c73,c74,c75,c76,c77,c78,c79,c80,c81,c82,c83,c84,c85,c86,c87,c88,c89,c90,c91,c92,c93,c94,c95,c96,.slice va log.length cap,.int .i64 log.length,.int .i64 0,c100,c101,c102,c103,c104,c105,c106,c107,c108,c109,c110,c111,c112,c113,c114,c115,c116,c117,c118,c119,c120,c121,c122,c123,c124,c125,c126,c127,c128,c129,c130,c131,c132,c133,c134,c135,c136,c137,c138,c139,c140,c141,c142,c143,c144,c145,c146,c147,c148,c149,c150,c151,c152,c153,c154,c155,c156,c157,c158,c159,c160],[]⟩ w:=by
 conv=>arg 2;whnf
 have HN:=Hmq hN
 have H0:Hid (CmdI false w db ob pb nD nO log sc' 0 w):=⟨Mod.refl _ _,sc,_,nD,nO,hM,by omega,by omega,hs⟩
 have HM:=Hmq hM
 have HL:=Hmq hL
 have HLOG:=Hmq hlog
 obtain ⟨ne1,ne2,ne3⟩:=hne
 clear hN hM hL hlog hs
 go_wp2_with fail
 go_loopw [99] (fun i0 wr=>∃ i:Nat,i<=log.length/\i0=.int .i64 i/\CmdI false w db ob pb nD nO log sc' i wr) (fun i0 _=>log.length - (intOf i0).toNat)
 case atStart=>exact ⟨0,Nat.zero_le _,rfl,H0.out⟩
 case round=>
  obtain ⟨i,hil,rfl,hC⟩:=hrel
  clear H0
  obtain ⟨hmd,sci,Pp,nDi,nOi,hMi,hnd,hno,hsi⟩:=hC
  by_cases hlt:i<log.length
  ·obtain ⟨c,hc⟩:∃ c,log[i]?=some c:=⟨_,List.getElem?_eq_getElem hlt⟩
   obtain ⟨ga,ca,ua,hva,_,hca,hua,hgc,q0,q1,q2,q3⟩:=(HM.out.rowC HL.out HLOG.out hmd).at hc
   simp only [Value.slice.injEq] at hva
   obtain ⟨rfl,_,rfl⟩:=hva
   have za:ga<wr.heap.size:=World.block_lt_of_cell? wr _ q0
   obtain ⟨uaa,ucap,hus,-⟩:=hua
   have hltI:(i:Int)<(log.length:Int):=by omega
   have hi0:(0:Int)<=(i:Int):=by omega
   have htx:zBm c.tx:=hgc.1.2.1
   rw [zBt hc] at hsi
   obtain ⟨r,hr,hsr⟩:=zYx hsi
   obtain ⟨ck,ct,cti,cw⟩:=c
   dsimp only at q0 q1 q2 q3 htx hr hus
   obtain ⟨w3,hw3⟩:∃ z,z=wr.alloc (.cells #[.int .i64 ck,.int .i64 ct,.int .i64 cti,ua] 65):=⟨_,rfl⟩
   have hm3:Mod zAb wr w3:=by rw [hw3];exact (Mod.refl _ wr).alloc _
   have hB3:Blk w3 wr.heap.size [.int .i64 ck,.int .i64 ct,.int .i64 cti,ua] 65:=by rw [hw3];exact Blk.new wr _ _
   have hM3:=hMi.quiet hm3
   have b0:=hB3.cell 0 rfl
   have b1:=hB3.cell 1 rfl
   have b2:=hB3.cell 2 rfl
   have zb:=hB3.lt
   have lD:=hM3.d.look htx
   have lO:=hM3.o.look htx
   have lP:=hM3.p.look htx
   have hkey:=keyY htx
   have HMD:Hid (Mod (zMy db ob pb) w w3):=hmd.trans (hm3.mono (fun _ _ e=>e.elim))
   have HM3:=Hmq hM3
   have HSR:=Hmq hsr
   have HB:=Hmq hB3
   have hznd:nDi<maxLen:=by unfold maxLen;omega
   have hzno:nOi<maxLen:=by unfold maxLen;omega
   have hznp:i<maxLen:=by unfold maxLen;omega
   subst hus
   clear hmd hMi hM3 hsi hsr hgc hc hm3 hB3
   rcases yCe hr with ⟨hkd,hre⟩ | ⟨hkd,p1,p2,p3,p4,hre⟩ | ⟨hkd,p1,hre⟩
   ·dsimp only at hkd
    subst hkd
    clear hr lD lO lP
    obtain ⟨Dm,hO,hAt⟩:=HM3.out.p
    have HO:=Hmq hO
    have HAT:=Hmq hAt
    have hnb:wr.heap.size≠pb:=fun e=>by
     have q:=HB.out
     unfold Blk at q
     rw [e] at q
     exact HM3.out.not_cells (k:=pb) (.inr (.inr rfl)) q
    clear hO hAt
    go_upto_region 29 with fail
    rw [<-hw3]
    clear hw3 q0 q1 q2 q3
    go_upto_region 33 with (first
     | (at_mapUpdate;refine wpList_mapUpdate_own _ rfl _ _ _ 56 rfl 3 4 kInt Tryz.underlying56 (plainElem Tryz.prog 4) pb _ Dm rfl HO.out hznp _ _ _ rfl rfl hkey _ [] (plainElem_bool Tryz.underlying4 true) ?_;intro w4 hown4 hgrow4)
     | fail)
    have hm4:Mod (zAc pb) w3 w4:=(Mod.refl _ w3).grown hgrow4 (fun x hx _=>by cases hx;rfl)
    have b0':=(HB.out.mod hm4 (fun e=>hnb e)).cell 0 rfl
    have b1':=(HB.out.mod hm4 (fun e=>hnb e)).cell 1 rfl
    have zb':=(HB.out.mod hm4 (fun e=>hnb e)).lt
    have HCI:Hid (CmdI false w db ob pb nD nO log sc' (i+1) w4):=by
     refine ⟨HMD.out.trans (hm4.mono (fun k _ e=>.inr (.inr e))),r.1,r.2,nDi,nOi,?_,by omega,by omega,HSR.out⟩
     rw [hre]
     exact ⟨HM3.out.d.mod hm4 (fun e=>ne2 e),HM3.out.o.mod hm4 (fun e=>ne3 e),zCv.put HO.out.isMap HAT.out hown4⟩
    clear hm4 hown4 hgrow4 b0 b1 b2 zb
    go_wp2_with fail
    go_roundw
    case rel=>exact ⟨i+1,by omega,by go_num,HCI.out⟩
    case measure=>simp [intOf];omega
   ·dsimp only at hkd p1 p2 p3 p4
    subst hkd
    rw [p1] at lP
    rw [p2] at lD
    have g3:(sci.O ct == 4)=false:=by simpa using p3
    have g4:decide (cti<1)=false:=decide_eq_false p4
    clear hr p1 p2 p3 p4
    obtain ⟨Dm,hO,hAt⟩:=HM3.out.o
    have HO:=Hmq hO
    have HAT:=Hmq hAt
    have hnb:wr.heap.size≠ob:=fun e=>by
     have q:=HB.out
     unfold Blk at q
     rw [e] at q
     exact HM3.out.not_cells (k:=ob) (.inr (.inl rfl)) q
    clear hO hAt
    go_upto_region 29 with fail
    rw [<-hw3]
    clear hw3 q0 q1 q2 q3
    go_upto_region 40 with fail
    go_wp2_with (first
     | (at_mapUpdate;refine wpList_mapUpdate_own _ rfl _ _ _ 57 rfl 3 3 kInt Tryz.underlying57 (plainElem Tryz.prog 3) ob _ Dm rfl HO.out hzno _ _ _ rfl rfl hkey _ [] (plainElem_int Tryz.underlying3 (by decide)) ?_;intro w4 hown4 hgrow4)
     | fail)
    have hm4:Mod (zAc ob) w3 w4:=(Mod.refl _ w3).grown hgrow4 (fun x hx _=>by cases hx;rfl)
    have b0':=(HB.out.mod hm4 (fun e=>hnb e)).cell 0 rfl
    have b1':=(HB.out.mod hm4 (fun e=>hnb e)).cell 1 rfl
    have zb':=(HB.out.mod hm4 (fun e=>hnb e)).lt
    have HCI:Hid (CmdI false w db ob pb nD nO log sc' (i+1) w4):=by
     refine ⟨HMD.out.trans (hm4.mono (fun k _ e=>.inr (.inl e))),r.1,r.2,nDi,nOi+1,?_,by omega,by omega,HSR.out⟩
     rw [hre]
     exact ⟨HM3.out.d.mod hm4 (fun e=>ne1 e),zIb.put HO.out.isMap HAT.out hown4,(HM3.out.p.mod hm4 (fun e=>ne3 (Eq.symm e))).mono (by omega)⟩
    clear hm4 hown4 hgrow4 b0 b1 b2 zb
    go_wp2_with fail
    go_roundw
    case rel=>exact ⟨i+1,by omega,by go_num,HCI.out⟩
    case measure=>simp [intOf];omega
   ·dsimp only at hkd p1
    subst hkd
    have g3:(sci.O ct == 3)=false:=by simpa using p1
    clear hr p1 lD lP
    obtain ⟨Dm,hO,hAt⟩:=HM3.out.o
    have HO:=Hmq hO
    have HAT:=Hmq hAt
    have hnb:wr.heap.size≠ob:=fun e=>by
     have q:=HB.out
     unfold Blk at q
     rw [e] at q
     exact HM3.out.not_cells (k:=ob) (.inr (.inl rfl)) q
    clear hO hAt
    go_upto_region 29 with fail
    rw [<-hw3]
    clear hw3 q0 q1 q2 q3
    go_upto_region 44 with fail
    go_wp2_with (first
     | (at_mapUpdate;refine wpList_mapUpdate_own _ rfl _ _ _ 57 rfl 3 3 kInt Tryz.underlying57 (plainElem Tryz.prog 3) ob _ Dm rfl HO.out hzno _ _ _ rfl rfl hkey _ [] (plainElem_int Tryz.underlying3 (by decide)) ?_;intro w4 hown4 hgrow4)
     | fail)
    have hm4:Mod (zAc ob) w3 w4:=(Mod.refl _ w3).grown hgrow4 (fun x hx _=>by cases hx;rfl)
    have b0':=(HB.out.mod hm4 (fun e=>hnb e)).cell 0 rfl
    have b1':=(HB.out.mod hm4 (fun e=>hnb e)).cell 1 rfl
    have zb':=(HB.out.mod hm4 (fun e=>hnb e)).lt
    have HCI:Hid (CmdI false w db ob pb nD nO log sc' (i+1) w4):=by
     refine ⟨HMD.out.trans (hm4.mono (fun k _ e=>.inr (.inl e))),r.1,r.2,nDi,nOi+1,?_,by omega,by omega,HSR.out⟩
     rw [hre]
     exact ⟨HM3.out.d.mod hm4 (fun e=>ne1 e),zIb.put HO.out.isMap HAT.out hown4,(HM3.out.p.mod hm4 (fun e=>ne3 (Eq.symm e))).mono (by omega)⟩
    clear hm4 hown4 hgrow4 b0 b1 b2 zb
    go_wp2_with fail
    go_roundw
    case rel=>exact ⟨i+1,by omega,by go_num,HCI.out⟩
    case measure=>simp [intOf];omega
  ·obtain rfl:i=log.length:=by omega
   have hsc:sci=sc':=by rw [List.drop_length] at hsi;exact Option.some.inj hsi
   subst hsc
   have HF:Hid (∃ nD' nO',nD'<=nD+1000/\nO'<=nO+1000/\zCv wr db nD' sci.D/\zIb wr ob nO' sci.O):=⟨nDi,nOi,by omega,by omega,hMi.d,hMi.o⟩
   have HMD:=Hmq hmd
   clear hmd hMi hsi
   go_wp2_with fail
   show R _ _
   apply HN.out
   ·exact HMD.out
   ·exact HF.out
end Go.Proofs.YtmaiggbnceejiaaGreatDoor
