import Derived.Test.YtmaiggbnceejiaaGreatDoorP38
import Derived.Test.YtmaiggbnceejiaaGreatDoorP41
import Derived.Test.YtmaiggbnceejiaaGreatDoorP24
set_option linter.unusedVariables false
set_option maxRecDepth 100000
set_option maxHeartbeats 16000000
namespace Go.Proofs.YtmaiggbnceejiaaGreatDoor
structure zCx(s s':zAa):Prop where
 rest:Rest s'
 cost:Cost s s'
 act:ActG s s'
 kd:Kd s s'\/∃ id,s'=(zGj s id).1
 tl:s'.txs.length=s.txs.length
theorem zCx.refl{s:zAa}(h:Rest s):zCx s s:=⟨h,Cost.refl s,ActG.refl h.c.safe h.c.held,.inl (Kd.refl s),rfl⟩
theorem zCx.get{s:zAa}(h:Rest s)(id:Int)(key:ByteArray):zCx s (getH s id key).1:=by
 refine ⟨h.get id key,Cost.get h.c id key,yOn h.c.safe h.c.held id key,.inl (Kd.get h.c.safe h.c.held id key),?_⟩
 unfold getH
 split
 ·rfl
 rename_i e1
 obtain ⟨i,rfl,h1,h2,ho⟩:=zDk (zBr (by simpa using e1)).1
 have q:=(zFh h.c.safe h.c.held h1 h2 ho key (zBr (by simpa using e1)).2.1 (mode:=1) (.inl rfl)).same.len
 simp only
 split
 ·exact q
 ·exact q
theorem zCx.put{s:zAa}(h:Rest s)(id:Int)(p:zBa):zCx s (putH s id p).1:=by
 refine ⟨h.put id p,Cost.put h.c id p,yEi h.c.safe h.c.held id p,.inl (Kd.put h.c.safe h.c.held id p),?_⟩
 unfold putH
 split
 ·rfl
 split
 ·rfl
 rename_i e1
 obtain ⟨i,rfl,h1,h2,ho⟩:=zDk (zBr (by simpa using e1)).1
 rw [Int.toNat_natCast]
 split
 ·rfl
 have q:=(zFh h.c.safe h.c.held h1 h2 ho p.key (zBr (by simpa using e1)).2.1 (mode:=2) (.inr rfl)).same.len
 simp only
 split
 ·exact q
 ·exact (zBd _ _ _).trans q
theorem zCx.told{s S:zAa}(hS:Safe S)(hH:Held S)(hl:S.txs.length=s.txs.length):(zCi (zDy S)).txs.length=s.txs.length:=by
 obtain ⟨b,c,_⟩:=zDh hS
 have q:=c.toS b hH
 exact ((q.trans (zEk b q.held).1).mv.tl).trans hl
theorem zCx.end_{s:zAa}(h:Rest s)(id:Int):zCx s (endH s id).1:=by
 refine ⟨h.end_ id,Cost.end_ h.c id,yOu h.c.safe h.c.held id,.inl (Kd.end_ h.c.safe h.c.held id),?_⟩
 unfold endH
 split
 ·rfl
 ·rename_i e
  split
  ·rfl
  ·rename_i e2
   obtain ⟨i,rfl,h1,h2,ho⟩:=zDk (by simpa using e)
   rw [Int.toNat_natCast]
   have hS:Safe (setTx s i { s.tx i with state:=2 }):=h.c.safe.write (ws:=(s.tx i).writes) h1 h2 ho (h.c.safe.tx i h1 h2).few (.inr rfl)
   have hHs:Held (setTx s i { s.tx i with state:=2 }):=h.c.held.ending h1 h2 rfl ho (zIc (by simpa using e2))
   exact zCx.told hS hHs (zBd _ _ _)
theorem zCx.fix{s:zAa}(h:Rest s):zCx s (fixH s):=by
 refine ⟨h.fix,Cost.fix h.c,yOr h.c.safe h.c.held,.inl (Kd.fix h.c.safe h.c.held),?_⟩
 unfold fixH
 obtain ⟨a,b,c,d,-⟩:=zFu h.c.safe h.c.held s.lines.length (Nat.le_refl _)
 exact zCx.told a.safe a.held d
theorem zCx.drop{s:zAa}(h:Rest s)(id:Int):zCx s (zIt s id).1:=by
 refine ⟨h.drop id,Cost.drop s id,yAx h.c.safe h.c.held id,.inl (Kd.drop s id),?_⟩
 unfold zIt
 split
 ·rfl
 ·exact (zBj.abort s _).len
theorem zCx.lose{s:zAa}(h:Rest s)(k:Int):zCx s (zIm s k).1:=by
 refine ⟨h.lose k,Cost.lose s k,zZr h.c.safe h.c.held k,.inl (Kd.lose s k),?_⟩
 unfold zIm
 split <;> rfl
theorem zCx.twice{s:zAa}(h:Rest s)(k:Int):zCx s (zDr s k).1:=by
 refine ⟨h.twice k,Cost.twice s k,zUe h.c.safe h.c.held k,.inl (Kd.twice s k),?_⟩
 unfold zDr
 split
 ·split <;> rfl
 ·rfl
theorem zCx.sett{s s':zAa}(h:Rest s')(hc:Cost s s')(hg:zBu s s'):zCx s s':=⟨h,hc,hg.toA,.inl (Kd.moves hg.mv),hg.mv.tl⟩
theorem zCx.deliver{s:zAa}(h:Rest s)(i:Nat):zCx s (zBf s i):=zCx.sett (h.deliver i) (Cost.deliver h.c i) (zJb h.c.safe h.c.held i)
theorem zCx.tick{s:zAa}(h:Rest s):zCx s (zFd s):=zCx.sett h.tick (Cost.tick h.c) h.c.tick.2.1
theorem zCx.calm{s:zAa}(h:Rest s):zCx s (zIa s):=by
 have a:=h.calm
 have b:=Cost.calm h.c
 have c:=(yBd h.c).2
 generalize zIa s=r at a b c ⊢
 exact zCx.sett a b c
theorem zCx.fail{s:zAa}(h:Rest s)(id:Int):zCx s (zGj s id).1:=by
 refine ⟨h.fail id,Cost.fail h.c.few id,zTd h.c.safe h.c.held id,.inr ⟨id,rfl⟩,?_⟩
 unfold zGj
 split <;> rfl
theorem yPe(s:zAa):Kd s (zFl s):=Kd.same rfl rfl
theorem zCx.scan{s s':zAa}(h:zCx s s')(hr:Rest s)(h3:s.lines.length=3){sc:Scan}(hs:zIv s sc):∃ sc',zQt s' sc=some sc'/\zIv s' sc':=by
 rcases h.kd with q | ⟨id,rfl⟩
 ·exact hs.kd hr.c.safe h3 h.act q
 ·exact hs.fail hr.c.safe hr.c.held h3 id
end Go.Proofs.YtmaiggbnceejiaaGreatDoor
namespace Go.Proofs.YtmaiggbnceejiaaGreatDoor
open Go.RowKit Go.Lib Go.Maps
def nameK:Nat->ByteArray
 | 0=>⟨#[97]⟩
 | 1=>⟨#[98]⟩
 | 2=>⟨#[99]⟩
 | _=>⟨#[100]⟩
theorem yGq(i:Nat):(nameK i).size=1:=by
 match i with
 | 0=>rfl
 | 1=>rfl
 | 2=>rfl
 | i+3=>rfl
structure ActD where
 what:Int
 tx:Int
 a:Int
 value:ByteArray
def idS(s:StoS)(x:ActD):Nat:=if 0<s.txs.length then 1+zDw x.tx s.txs.length else 0
def keyX(x:ActD):ByteArray:=nameK (zDw x.a 4)
def valA(x:ActD):ByteArray:=if 9<x.value.size then x.value.extract 0 9 else x.value
def zQf(txs:List TxD)(id:Nat)(o:OpD):List TxD:=match txs[id - 1]? with
 | some t=>txs.set (id - 1) ⟨t.ops++[o],t.frm,t.til⟩
 | none=>txs
noncomputable def armS(s:StoS)(x:ActD):StoS:=
 if x.what=0 then (if s.txs.length<7 then { s with h:=zFl s.h,txs:=s.txs++[⟨[],s.now,-1⟩] } else s)
 else if x.what=1 then { s with h:=(getH s.h (idS s x) (keyX x)).1,txs:=if (getH s.h (idS s x) (keyX x)).2.2.2=0/\0<idS s x then zQf s.txs (idS s x) ⟨1,keyX x,(getH s.h (idS s x) (keyX x)).2.1,(getH s.h (idS s x) (keyX x)).2.2.1⟩ else s.txs }
 else if x.what=2\/x.what=3 then { s with h:=(putH s.h (idS s x) ⟨keyX x,valA x,decide (x.what=3)⟩).1,txs:=if (putH s.h (idS s x) ⟨keyX x,valA x,decide (x.what=3)⟩).2=0/\0<idS s x then zQf s.txs (idS s x) ⟨x.what,keyX x,valA x,false⟩ else s.txs }
 else if x.what=4 then { s with h:=(endH s.h (idS s x)).1 }
 else if x.what=5 then (if x.a.tmod 4=0 then { s with h:=(zIt s.h (idS s x)).1 } else s)
 else if x.what=6 then (if 0<s.h.net.way.length then { s with h:=zBf s.h (zDw x.a s.h.net.way.length) } else s)
 else if x.what=7 then (if 0<s.h.net.way.length then { s with h:=(zIm s.h (zDw x.a s.h.net.way.length)).1 } else s)
 else if x.what=8 then (if 0<s.h.net.way.length then { s with h:=(zDr s.h (zDw x.a s.h.net.way.length)).1 } else s)
 else if x.what=9 then { s with h:=zFd s.h }
 else if x.what=10 then { s with h:=zOu s (zDw x.a 3) (zDw x.tx s.nodes) }
 else if x.what=11 then { s with h:=fixH s.h }
 else if x.what=12 then { s with h:=zIa s.h }
 else s
def tilS(s:StoS):StoS:={ s with txs:=s.txs.mapIdx fun i t=>if t.til<0/\zDd s.h ((i:Int)+1)=3 then ⟨t.ops,t.frm,s.now⟩ else t }
noncomputable def zFy(s:StoS)(x:ActD):StoS:=tilS (armS { s with now:=s.now+1 } x)
structure zTl(m:Nat)(s:StoS):Prop where
 rest:Rest s.h
 ll:s.h.lines.length=3
 tl:s.h.txs.length=s.txs.length
 few:s.txs.length<=7
 lost:s.h.net.lost<=3000000000000000*(m:Int)
 dead:s.h.dead.length<=m
 down:s.h.net.down.length<=m
 nodes:1<=s.nodes/\s.nodes<=3
theorem Cost.ok{m:Nat}{s:StoS}{h':zAa}(h:zTl m s)(hc:Cost s.h h'):h'.net.lost<=3000000000000000*((m+1:Nat):Int)/\h'.dead.length<=m+1/\h'.net.down.length<=m+1/\h'.lines.length=3:=by
 have h1:=hc.lost
 have h2:=hc.dead
 have h3:=hc.down
 have h4:=h.lost
 have h5:=h.dead
 have h6:=h.down
 exact ⟨by omega,by omega,by omega,by rw [hc.ll];exact h.ll⟩
theorem yBi(txs:List TxD)(id:Nat)(o:OpD):(zQf txs id o).length=txs.length:=by
 unfold zQf
 split
 ·rw [List.length_set]
 ·rfl
theorem yFi{m:Nat}{s:StoS}(h:zTl m s)(x:ActD):Rest (armS s x).h/\Cost s.h (armS s x).h/\(∀ sc,zIv s.h sc->∃ sc',zQt (armS s x).h sc=some sc'/\zIv (armS s x).h sc')/\(armS s x).h.txs.length=(armS s x).txs.length/\(armS s x).txs.length<=7/\(armS s x).now=s.now/\(armS s x).nodes=s.nodes/\(armS s x).safe=s.safe:=by
 have hf:=h.few
 have hl:=h.tl
 have key:∀ (h':zAa) (txs:List TxD),zCx s.h h'->txs.length=s.txs.length->Rest h'/\Cost s.h h'/\(∀ sc,zIv s.h sc->∃ sc',zQt h' sc=some sc'/\zIv h' sc')/\h'.txs.length=txs.length/\txs.length<=7:=fun h' txs q ht=>
  ⟨q.rest,q.cost,fun sc hs=>q.scan h.rest h.ll hs,by rw [q.tl,hl,ht],by omega⟩
 have fin:∀ (h':zAa) (txs:List TxD),(Rest h'/\Cost s.h h'/\(∀ sc,zIv s.h sc->∃ sc',zQt h' sc=some sc'/\zIv h' sc')/\h'.txs.length=txs.length/\txs.length<=7)->∀ r:StoS,r={ s with h:=h',txs:=txs }->Rest r.h/\Cost s.h r.h/\(∀ sc,zIv s.h sc->∃ sc',zQt r.h sc=some sc'/\zIv r.h sc')/\r.h.txs.length=r.txs.length/\r.txs.length<=7/\r.now=s.now/\r.nodes=s.nodes/\r.safe=s.safe:=fun h' txs q r hr=>by
  subst hr
  exact ⟨q.1,q.2.1,q.2.2.1,q.2.2.2.1,q.2.2.2.2,rfl,rfl,rfl⟩
 have same:=fin s.h s.txs (key s.h s.txs (zCx.refl h.rest) rfl) s rfl
 obtain ⟨r,hr⟩:∃ r,r=armS s x:=⟨_,rfl⟩
 rw [<-hr]
 unfold armS at hr
 by_cases e0:x.what=0
 ·rw [if_pos e0] at hr
  by_cases e:s.txs.length<7
  ·rw [if_pos e] at hr
   refine fin (zFl s.h) (s.txs++[⟨[],s.now,-1⟩]) ⟨h.rest.begin (by omega),Cost.begin s.h,fun sc hs=>hs.kd h.rest.c.safe h.ll (zVu h.rest.c.safe h.rest.c.held (by omega)) (yPe s.h),?_,?_⟩ r hr
   ·show (s.h.txs++_).length=_
    simp [hl]
   ·simp;omega
  ·rw [if_neg e] at hr;rw [hr];exact same
 rw [if_neg e0] at hr
 by_cases e1:x.what=1
 ·rw [if_pos e1] at hr
  refine fin _ _ (key _ _ (zCx.get h.rest _ _) ?_) r hr
  split
  ·exact yBi _ _ _
  ·rfl
 rw [if_neg e1] at hr
 by_cases e2:x.what=2\/x.what=3
 ·rw [if_pos e2] at hr
  refine fin _ _ (key _ _ (zCx.put h.rest _ _) ?_) r hr
  split
  ·exact yBi _ _ _
  ·rfl
 rw [if_neg e2] at hr
 by_cases e4:x.what=4
 ·rw [if_pos e4] at hr
  exact fin _ _ (key _ _ (zCx.end_ h.rest _) rfl) r hr
 rw [if_neg e4] at hr
 by_cases e5:x.what=5
 ·rw [if_pos e5] at hr
  by_cases e:x.a.tmod 4=0
  ·rw [if_pos e] at hr;exact fin _ _ (key _ _ (zCx.drop h.rest _) rfl) r hr
  ·rw [if_neg e] at hr;rw [hr];exact same
 rw [if_neg e5] at hr
 by_cases e6:x.what=6
 ·rw [if_pos e6] at hr
  by_cases e:0<s.h.net.way.length
  ·rw [if_pos e] at hr;exact fin _ _ (key _ _ (zCx.deliver h.rest _) rfl) r hr
  ·rw [if_neg e] at hr;rw [hr];exact same
 rw [if_neg e6] at hr
 by_cases e7:x.what=7
 ·rw [if_pos e7] at hr
  by_cases e:0<s.h.net.way.length
  ·rw [if_pos e] at hr;exact fin _ _ (key _ _ (zCx.lose h.rest _) rfl) r hr
  ·rw [if_neg e] at hr;rw [hr];exact same
 rw [if_neg e7] at hr
 by_cases e8:x.what=8
 ·rw [if_pos e8] at hr
  by_cases e:0<s.h.net.way.length
  ·rw [if_pos e] at hr;exact fin _ _ (key _ _ (zCx.twice h.rest _) rfl) r hr
  ·rw [if_neg e] at hr;rw [hr];exact same
 rw [if_neg e8] at hr
 by_cases e9:x.what=9
 ·rw [if_pos e9] at hr;exact fin _ _ (key _ _ (zCx.tick h.rest) rfl) r hr
 rw [if_neg e9] at hr
 by_cases e10:x.what=10
 ·rw [if_pos e10] at hr
  refine fin _ _ (key _ _ ?_ rfl) r hr
  unfold zOu
  split
  ·exact zCx.fail h.rest _
  ·exact zCx.refl h.rest
 rw [if_neg e10] at hr
 by_cases e11:x.what=11
 ·rw [if_pos e11] at hr;exact fin _ _ (key _ _ (zCx.fix h.rest) rfl) r hr
 rw [if_neg e11] at hr
 by_cases e12:x.what=12
 ·rw [if_pos e12] at hr;exact fin _ _ (key _ _ (zCx.calm h.rest) rfl) r hr
 rw [if_neg e12] at hr
 rw [hr];exact same
theorem zTl.clock{m:Nat}{s:StoS}(h:zTl m s)(t:Int):zTl m { s with now:=t }:=⟨h.rest,h.ll,h.tl,h.few,h.lost,h.dead,h.down,h.nodes⟩
theorem yGk{m:Nat}{s:StoS}(h:zTl m s)(x:ActD):zTl (m+1) (zFy s x)/\(∀ sc,zIv s.h sc->∃ sc',zQt (zFy s x).h sc=some sc'/\zIv (zFy s x).h sc')/\(zFy s x).now=s.now+1/\(zFy s x).safe=s.safe:=by
 obtain ⟨a1,a2,a3,a4,a5,a6,a7,a8⟩:=yFi (h.clock (s.now+1)) x
 obtain ⟨b1,b2,b3,b4⟩:=Cost.ok (h.clock (s.now+1)) a2
 refine ⟨⟨a1,b4,?_,?_,b1,b2,b3,?_⟩,a3,a6,a8⟩
 ·show (armS _ x).h.txs.length=(List.mapIdx _ _).length
  rw [List.length_mapIdx];exact a4
 ·show (List.mapIdx _ _).length<=7
  rw [List.length_mapIdx];exact a5
 ·show 1<=(armS _ x).nodes/\(armS _ x).nodes<=3
  rw [a7];exact h.nodes
structure StoM(gs:Nat)(w:World)(y:HLay)(xv:Value)(vs:List Value)(w':World)(y':HLay)(xv':Value)(vs':List Value):Prop where
 md:Mod (fun k=>y.own k≠.no\/zIx gs xv vs k) w w'
 old:∀ k,k<w.heap.size->y'.own k=y.own k
 sto:∀ k,k<w.heap.size->zIx gs xv' vs' k->zIx gs xv vs k
theorem StoM.trans{gs:Nat}{w w1 w2:World}{y y1 y2:HLay}{xv xv1 xv2:Value}{vs vs1 vs2:List Value}(h:StoM gs w y xv vs w1 y1 xv1 vs1)(k:StoM gs w1 y1 xv1 vs1 w2 y2 xv2 vs2):StoM gs w y xv vs w2 y2 xv2 vs2:=
 ⟨h.md.trans' k.md (fun i hi e=>e.imp (fun e=>by rw [<-h.old i hi];exact e) (h.sto i hi)),fun i hi=>(k.old i (Nat.lt_of_lt_of_le hi h.md.size)).trans (h.old i hi),fun i hi e=>h.sto i hi (k.sto i (Nat.lt_of_lt_of_le hi h.md.size) e)⟩
theorem StoM.steps{gs:Nat}{w w':World}{y y':HLay}{xv:Value}{vs:List Value}(h:zBv w y w' y'):StoM gs w y xv vs w' y' xv vs:=⟨h.md.mono (fun _ _ e=>.inl e),h.old,fun _ _ e=>e⟩
theorem StoM.quiet{gs:Nat}{w w':World}{y:HLay}{xv:Value}{vs:List Value}(h:Mod zAb w w'):StoM gs w y xv vs w' y xv vs:=StoM.steps (zBv.quiet h)
def StoR(w:World)(n c gs g:Nat)(y:HLay)(xv:Value)(vs:List Value)(s':StoS)(w':World):Prop:=∃ y' xv' vs',StoP w' n c gs g y' xv' vs' s'/\StoM gs w y xv vs w' y' xv' vs'
theorem zAd.more{w:World}{n c c' g:Nat}{y:HLay}{s:zAa}(h:zAd w n c g y s)(hc:c<=c'):zAd w n c' g y s:={ h with qn:=⟨h.qn.1,h.qn.2.1,by have:=h.qn.2.2;omega⟩ }
theorem StoP.more{w:World}{n c c' gs g:Nat}{y:HLay}{xv:Value}{vs:List Value}{s:StoS}(h:StoP w n c gs g y xv vs s)(hc:c<=c'):StoP w n c' gs g y xv vs s:={ h with house:=h.house.more hc }
theorem StoP.call{w wq w':World}{n c c' d gs g:Nat}{y y':HLay}{xv:Value}{vs:List Value}{s:StoS}{h':zAa}(h:StoP w n c gs g y xv vs s)(hq:Mod zAb w wq)(hh:zAd w' n c' g y' h')(hs:zBv wq y w' y')(hc:c'<=d):StoR w n d gs g y xv vs { s with h:=h' } w':=
 ⟨y',xv,vs,((h.quiet hq).step hs hh).more hc,StoM.steps ((zBv.quiet hq).trans hs)⟩
structure zCd(w:World)(n c m gs g:Nat)(y:HLay)(xv:Value)(vs:List Value)(s:StoS)(xb:Nat)(x:ActD):Prop where
 sto:StoP w n c gs g y xv vs s
 ok:zTl m s
 et:ET w
 n1:1<n
 cc:c<=8000
 mm:m<=125
 lg:n<=gs
 now:0<=s.now/\s.now<=1000
 act:Blk w xb [.int .i64 x.what,.int .i64 x.tx,.int .i64 x.a,.string x.value] 34
 xn:y.own xb=.no
 xs:¬ zIx gs xv vs xb
 val:okQ x.value
 opl:∀ t∈s.txs,t.ops.length<=m
section
variable {w:World} {n c m gs g:Nat} {y:HLay} {xv:Value} {vs:List Value} {s:StoS} {xb:Nat} {x:ActD}
theorem zCd.shape(h:zCd w n c m gs g y xv vs s xb x):zFb s.h:=h.ok.rest.c.safe.shape
theorem zCd.lost(h:zCd w n c m gs g y xv vs s xb x):s.h.net.lost<=375000000000000000:=by
 have:=h.ok.lost
 have:=h.mm
 omega
theorem zCd.lock(h:zCd w n c m gs g y xv vs s xb x){wq:World}(hq:Mod zAb w wq):yBm wq n c s.h:=⟨h.shape,h.ok.rest.c.held.ki,h.et.mod hq,h.n1,by have:=h.cc;omega⟩
theorem zJe(x:ActD):okQ (keyX x):=by unfold okQ;rw [show (keyX x).size=1 from yGq _];decide
theorem zCd.calm(h:zCd w n c m gs g y xv vs s xb x)(wq:World)(hq:Mod zAb w wq):Calls Tryz.prog 16 #[.pointer (some ⟨g,0,none⟩)] wq fun e w'=>∃ ev,e=.returned ev/\StoR w n (c+2) gs g y xv vs { s with h:=zIa s.h } w':=by
 refine (yFe n c g y s.h wq (h.sto.house.quiet hq) h.ok.rest.c (by have:=h.cc;omega) (by have:=yCk h.ok.rest.c;have:=h.lost;omega)).mono ?_
 rintro e w' ⟨rfl,y',hh,hk⟩
 exact ⟨_,rfl,h.sto.call hq hh hk.st (by omega)⟩
theorem zCd.fix(h:zCd w n c m gs g y xv vs s xb x)(wq:World)(hq:Mod zAb w wq):Calls Tryz.prog 33 #[.pointer (some ⟨g,0,none⟩)] wq fun e w'=>∃ ev,e=.returned ev/\StoR w n (c+2) gs g y xv vs { s with h:=fixH s.h } w':=by
 refine (yQq n c g y s.h wq (h.sto.house.quiet hq) h.ok.rest.c.safe h.ok.rest.c.held (by have:=h.cc;omega) (by have:=h.lost;omega)).mono ?_
 rintro e w' ⟨rfl,y',hh,hk⟩
 exact ⟨_,rfl,h.sto.call hq hh hk.st (by omega)⟩
theorem zCd.tick(h:zCd w n c m gs g y xv vs s xb x)(wq:World)(hq:Mod zAb w wq):Calls Tryz.prog 31 #[.pointer (some ⟨g,0,none⟩)] wq fun e w'=>∃ ev,e=.returned ev/\StoR w n (c+2) gs g y xv vs { s with h:=zFd s.h } w':=by
 refine (yEa n c g y s.h wq (h.sto.house.quiet hq) h.ok.rest.c.safe (by have:=h.lost;omega)).mono ?_
 rintro e w' ⟨rfl,y',hh,hk⟩
 exact ⟨_,rfl,h.sto.call hq hh hk.st (by omega)⟩
theorem zCd.end_(h:zCd w n c m gs g y xv vs s xb x)(id:Int)(wq:World)(hq:Mod zAb w wq):Calls Tryz.prog 15 #[.pointer (some ⟨g,0,none⟩),.int .i64 id] wq fun e w'=>∃ ev,e=.returned ev/\StoR w n (c+2) gs g y xv vs { s with h:=(endH s.h id).1 } w':=by
 refine (yLf n c g y s.h id wq (h.sto.house.quiet hq) h.ok.rest.c.safe h.ok.rest.c.held (by have:=h.cc;omega) (by have:=h.lost;omega)).mono ?_
 rintro e w' ⟨rfl,y',hh,hk⟩
 exact ⟨_,rfl,h.sto.call hq hh hk.st (by omega)⟩
theorem zCd.drop(h:zCd w n c m gs g y xv vs s xb x)(id:Int)(wq:World)(hq:Mod zAb w wq):Calls Tryz.prog 12 #[.pointer (some ⟨g,0,none⟩),.int .i64 id] wq fun e w'=>∃ ev,e=.returned ev/\StoR w n (c+2) gs g y xv vs { s with h:=(zIt s.h id).1 } w':=by
 refine (yOw n c g y s.h id wq (h.sto.house.quiet hq) h.shape (by have:=h.cc;omega)).mono ?_
 rintro e w' ⟨rfl,y',hh,hk⟩
 exact ⟨_,rfl,h.sto.call hq hh hk.st (by omega)⟩
theorem zCd.deliver(h:zCd w n c m gs g y xv vs s xb x)(i:Nat)(hi:i<s.h.net.way.length)(wq:World)(hq:Mod zAb w wq):Calls Tryz.prog 28 #[.pointer (some ⟨g,0,none⟩),.int .i64 i] wq fun e w'=>∃ ev,e=.returned ev/\StoR w n (c+2) gs g y xv vs { s with h:=zBf s.h i } w':=by
 refine (zTh n c g y s.h i _ wq (h.sto.house.quiet hq) h.ok.rest.c.safe h.ok.rest.c.held (by have:=h.cc;omega) (List.getElem?_eq_getElem hi) (by have:=h.lost;omega)).mono ?_
 rintro e w' ⟨rfl,y',hh,hk⟩
 exact ⟨_,rfl,h.sto.call hq hh hk.st (by omega)⟩
theorem zCd.lose(h:zCd w n c m gs g y xv vs s xb x)(i:Nat)(wq:World)(hq:Mod zAb w wq):Calls Tryz.prog 29 #[.pointer (some ⟨g,0,none⟩),.int .i64 i] wq fun e w'=>∃ ev,e=.returned ev/\StoR w n (c+2) gs g y xv vs { s with h:=(zIm s.h i).1 } w':=by
 refine (yKp n c g y s.h i wq (h.sto.house.quiet hq) (by have:=h.lost;omega)).mono ?_
 rintro e w' ⟨rfl,y',hh,hk⟩
 exact ⟨_,rfl,h.sto.call hq hh hk.st (by omega)⟩
theorem zCd.twice(h:zCd w n c m gs g y xv vs s xb x)(i:Nat)(wq:World)(hq:Mod zAb w wq):Calls Tryz.prog 30 #[.pointer (some ⟨g,0,none⟩),.int .i64 i] wq fun e w'=>∃ ev,e=.returned ev/\StoR w n (c+2) gs g y xv vs { s with h:=(zDr s.h i).1 } w':=by
 refine (yGy n c g y s.h i wq (h.sto.house.quiet hq) (by have:=h.lost;omega)).mono ?_
 rintro e w' ⟨rfl,y',hh,hk⟩
 exact ⟨_,rfl,h.sto.call hq hh hk.st (by omega)⟩
theorem zCd.begin(h:zCd w n c m gs g y xv vs s xb x)(wq:World)(hq:Mod zAb w wq):Calls Tryz.prog 13 #[.pointer (some ⟨g,0,none⟩)] wq fun e w'=>e=.returned (.tuple #[.int .i64 (s.txs.length+1),.nilIface])/\∃ y',StoP w' n c gs g y' xv vs { s with h:=zFl s.h }/\zBv w y w' y':=by
 refine (zTj n c g y s.h wq (h.sto.house.quiet hq) h.shape.ll (by have:=h.ok.few;have:=h.ok.tl;omega)).mono ?_
 rintro e w' ⟨rfl,y',hh,hk⟩
 exact ⟨by rw [h.ok.tl],y',(h.sto.quiet hq).step hk hh,(zBv.quiet hq).trans hk⟩
theorem zCd.put(h:zCd w n c m gs g y xv vs s xb x)(id:Int)(p:zBa)(hk:okQ p.key)(hv:okQ p.val)(wq:World)(hq:Mod zAb w wq):Calls Tryz.prog 23 #[.pointer (some ⟨g,0,none⟩),.int .i64 id,.agg #[.string p.key,.string p.val,.bool p.gone]] wq fun e w'=>e=.returned (errQ (putH s.h id p).2)/\∃ y',StoP w' n (c+2) gs g y' xv vs { s with h:=(putH s.h id p).1 }/\zBv wq y w' y':=by
 refine (yJn n c g y s.h id p wq (h.sto.house.quiet hq) (h.lock hq) hk hv).mono ?_
 rintro e w' ⟨rfl,y',hh,hk⟩
 exact ⟨rfl,y',(h.sto.quiet hq).step hk.st hh,hk.st⟩
theorem yCm{log:List CmdD}{tx:Int}{j:Nat}{p:CmdD}(hj:log[j]?=some p)(h1:p.kind=2)(h2:p.tx=tx):(zDn log 2 tx).isSome=true:=by
 unfold zDn
 rw [List.findIdx?_isSome,List.any_eq_true]
 exact ⟨p,List.mem_of_getElem? hj,by simp [h1,h2]⟩
theorem Safe.headLog{s:zAa}(h:Safe s)(key:ByteArray):(headLog s key).length<=1000/\∀ c∈headLog s key,c.kind=3->(zDn (headLog s key) 2 c.tx).isSome=true:=by
 have hd:=h.dec_lt
 have hk:zBg s key<decH s:=Nat.mod_lt _ (by have:=h.ll.1;unfold decH;omega)
 have hlog:=h.log (zBg s key) (by omega)
 have e:Go.Proofs.YtmaiggbnceejiaaGreatDoor.headLog s key=(zAq s (zBg s key)).log:=rfl
 rw [e]
 refine ⟨?_,fun c hc h3=>?_⟩
 ·have:=(h.line (zBg s key) (by omega)).few _ (h.head_mem (by omega))
  omega
 ·obtain ⟨i,hi⟩:=List.getElem?_of_mem hc
  obtain ⟨j,p,-,hj,q1,q2⟩:=hlog.prep (by omega) i c hi h3
  exact yCm hj q1 q2
theorem zCd.get(h:zCd w n c m gs g y xv vs s xb x)(id:Int)(key:ByteArray)(hk:okQ key)(wq:World)(hq:Mod zAb w wq):Calls Tryz.prog 14 #[.pointer (some ⟨g,0,none⟩),.int .i64 id,.string key] wq fun e w'=>e=.returned (.tuple #[.string (getH s.h id key).2.1,.bool (getH s.h id key).2.2.1,errQ (getH s.h id key).2.2.2])/\∃ y',StoP w' n (c+2) gs g y' xv vs { s with h:=(getH s.h id key).1 }/\zBv w y w' y':=by
 refine (yKw n c g y s.h id key wq (h.sto.house.quiet hq) (h.lock hq) hk (h.ok.rest.c.safe.headLog key)).mono ?_
 rintro e w' ⟨rfl,y',hh,hk⟩
 exact ⟨rfl,y',(h.sto.quiet hq).step hk.st hh,(zBv.quiet hq).trans hk.st⟩
theorem zCd.many(h:zCd w n c m gs g y xv vs s xb x)(wq:World)(hq:Mod zAb w wq):Calls Tryz.prog 27 #[.pointer (some ⟨g,0,none⟩)] wq fun e w'=>e=.returned (.int .i64 s.h.net.way.length)/\w'=wq:=yAe n c g y s.h wq (h.sto.house.quiet hq)
theorem zCd.fails(h:zCd w n c m gs g y xv vs s xb x)(k j:Nat)(hk:k<3)(hj:j<3)(wq:World)(hq:Mod zAb w wq):Calls Tryz.prog 32 #[.pointer (some ⟨gs,0,none⟩),.int .i64 k,.int .i64 j] wq fun e w'=>∃ ev,e=.returned ev/\StoR w n (c+2) gs g y xv vs { s with h:=zOu s k j } w':=by
 refine (yLe n c gs g y xv vs s k j wq (h.sto.quiet hq) h.ok.rest.c.safe h.shape (by have:=h.ok.ll;omega) hk hj (by have:=h.ok.dead;have:=h.mm;omega) (by have:=h.ok.down;have:=h.mm;omega) (by have:=h.lost;omega)).mono ?_
 rintro e w' ⟨rfl,y',hh,hk⟩
 exact ⟨_,rfl,y',xv,vs,hh.more (by omega),StoM.steps ((zBv.quiet hq).trans hk)⟩
end
theorem yMa{fr:Act}{N:Nat}(h:fr.tmps.size=N)(hd:fr.defers=[]):fr=⟨((List.range N).map fun i=>fr.tmps.getD i undef).toArray,[]⟩:=by
 obtain ⟨t,d⟩:=fr
 dsimp only at h hd ⊢
 subst hd
 congr 1
 apply Array.ext
 ·simp [h]
 ·intro i h1 h2
  simp [h1]
structure EndF(fr:Act)(gs:Nat):Prop where
 sz:fr.tmps.size=319
 df:fr.defers=[]
 t0:fr.tmps[0]?=some (.pointer (some ⟨gs,0,none⟩))
structure SwF(fr:Act)(gs xb id:Nat)(key:ByteArray)(what:Int):Prop where
 en:EndF fr gs
 t3:fr.tmps[3]?=some (.pointer (some ⟨xb,0,none⟩))
 t4:fr.tmps[4]?=some (.int .i64 id)
 t5:fr.tmps[5]?=some (.string key)
 t46:fr.tmps[46]?=some (.int .i64 what)
theorem getD_some{fr:Act}{i:Nat}{v:Value}(h:fr.tmps[i]?=some v):fr.tmps.getD i undef=v:=by
 rw [Array.getD_eq_getD_getElem?,h];rfl
theorem EndF.lit{fr:Act}{gs:Nat}(h:EndF fr gs):∃ f:Nat->Value,fr=⟨#[.pointer (some ⟨gs,0,none⟩),f 1,f 2,f 3,f 4,f 5,f 6,f 7,f 8,f 9,f 10,f 11,f 12,f 13,f 14,f 15,f 16,f 17,f 18,f 19,f 20,f 21,f 22,f 23,f 24,f 25,f 26,f 27,f 28,f 29,f 30,f 31,f 32,f 33,f 34,f 35,f 36,f 37,f 38,f 39,f 40,f 41,f 42,f 43,f 44,f 45,f 46,f 47,f 48,f 49,f 50,f 51,f 52,f 53,f 54,f 55,f 56,f 57,f 58,f 59,f 60,f 61,f 62,f 63,f 64,f 65,f 66,f 67,f 68,f 69,f 70,f 71,f 72,f 73,f 74,f 75,f 76,f 77,f 78,f 79,f 80,f 81,f 82,f 83,f 84,f 85,f 86,f 87,f 88,f 89,f 90,f 91,f 92,f 93,f 94,f 95,f 96,f 97,f 98,f 99,f 100,f 101,f 102,f 103,f 104,f 105,f 106,f 107,f 108,f 109,f 110,f 111,f 112,f 113,f 114,f 115,f 116,f 117,f 118,f 119,f 120,f 121,f 122,f 123,f 124,f 125,f 126,f 127,f 128,f 129,f 130,f 131,f 132,f 133,f 134,f 135,f 136,f 137,f 138,f 139,f 140,f 141,f 142,f 143,f 144,f 145,f 146,f 147,f 148,f 149,f 150,f 151,f 152,f 153,f 154,f 155,f 156,f 157,f 158,f 159,f 160,f 161,f 162,f 163,f 164,f 165,f 166,f 167,f 168,f 169,f 170,f 171,f 172,f 173,f 174,f 175,f 176,f 177,f 178,f 179,f 180,f 181,f 182,f 183,f 184,f 185,f 186,f 187,f 188,f 189,f 190,f 191,f 192,f 193,f 194,f 195,f 196,f 197,f 198,f 199,f 200,f 201,f 202,f 203,f 204,f 205,f 206,f 207,f 208,f 209,f 210,f 211,f 212,f 213,f 214,f 215,f 216,f 217,f 218,f 219,f 220,f 221,f 222,f 223,f 224,f 225,f 226,f 227,f 228,f 229,f 230,f 231,f 232,f 233,f 234,f 235,f 236,f 237,f 238,f 239,f 240,f 241,f 242,f 243,f 244,f 245,f 246,f 247,f 248,f 249,f 250,f 251,f 252,f 253,f 254,f 255,f 256,f 257,f 258,f 259,f 260,f 261,f 262,f 263,f 264,f 265,f 266,f 267,f 268,f 269,f 270,f 271,f 272,f 273,f 274,f 275,f 276,f 277,f 278,f 279,f 280,f 281,f 282,f 283,f 284,f 285,f 286,f 287,f 288,f 289,f 290,f 291,f 292,f 293,f 294,f 295,f 296,f 297,f 298,f 299,f 300,f 301,f 302,f 303,f 304,f 305,f 306,f 307,f 308,f 309,f 310,f 311,f 312,f 313,f 314,f 315,f 316,f 317,f 318],[]⟩:=by
 have e:=yMa h.sz h.df
 have e0:=getD_some h.t0
 refine ⟨fun i=>fr.tmps.getD i undef,e.trans ?_⟩
 rw [<-e0]
 kernel_rfl
theorem SwF.lit{fr:Act}{gs xb id:Nat}{key:ByteArray}{what:Int}(h:SwF fr gs xb id key what):∃ f:Nat->Value,fr=⟨#[.pointer (some ⟨gs,0,none⟩),f 1,f 2,.pointer (some ⟨xb,0,none⟩),.int .i64 id,.string key,f 6,f 7,f 8,f 9,f 10,f 11,f 12,f 13,f 14,f 15,f 16,f 17,f 18,f 19,f 20,f 21,f 22,f 23,f 24,f 25,f 26,f 27,f 28,f 29,f 30,f 31,f 32,f 33,f 34,f 35,f 36,f 37,f 38,f 39,f 40,f 41,f 42,f 43,f 44,f 45,.int .i64 what,f 47,f 48,f 49,f 50,f 51,f 52,f 53,f 54,f 55,f 56,f 57,f 58,f 59,f 60,f 61,f 62,f 63,f 64,f 65,f 66,f 67,f 68,f 69,f 70,f 71,f 72,f 73,f 74,f 75,f 76,f 77,f 78,f 79,f 80,f 81,f 82,f 83,f 84,f 85,f 86,f 87,f 88,f 89,f 90,f 91,f 92,f 93,f 94,f 95,f 96,f 97,f 98,f 99,f 100,f 101,f 102,f 103,f 104,f 105,f 106,f 107,f 108,f 109,f 110,f 111,f 112,f 113,f 114,f 115,f 116,f 117,f 118,f 119,f 120,f 121,f 122,f 123,f 124,f 125,f 126,f 127,f 128,f 129,f 130,f 131,f 132,f 133,f 134,f 135,f 136,f 137,f 138,f 139,f 140,f 141,f 142,f 143,f 144,f 145,f 146,f 147,f 148,f 149,f 150,f 151,f 152,f 153,f 154,f 155,f 156,f 157,f 158,f 159,f 160,f 161,f 162,f 163,f 164,f 165,f 166,f 167,f 168,f 169,f 170,f 171,f 172,f 173,f 174,f 175,f 176,f 177,f 178,f 179,f 180,f 181,f 182,f 183,f 184,f 185,f 186,f 187,f 188,f 189,f 190,f 191,f 192,f 193,f 194,f 195,f 196,f 197,f 198,f 199,f 200,f 201,f 202,f 203,f 204,f 205,f 206,f 207,f 208,f 209,f 210,f 211,f 212,f 213,f 214,f 215,f 216,f 217,f 218,f 219,f 220,f 221,f 222,f 223,f 224,f 225,f 226,f 227,f 228,f 229,f 230,f 231,f 232,f 233,f 234,f 235,f 236,f 237,f 238,f 239,f 240,f 241,f 242,f 243,f 244,f 245,f 246,f 247,f 248,f 249,f 250,f 251,f 252,f 253,f 254,f 255,f 256,f 257,f 258,f 259,f 260,f 261,f 262,f 263,f 264,f 265,f 266,f 267,f 268,f 269,f 270,f 271,f 272,f 273,f 274,f 275,f 276,f 277,f 278,f 279,f 280,f 281,f 282,f 283,f 284,f 285,f 286,f 287,f 288,f 289,f 290,f 291,f 292,f 293,f 294,f 295,f 296,f 297,f 298,f 299,f 300,f 301,f 302,f 303,f 304,f 305,f 306,f 307,f 308,f 309,f 310,f 311,f 312,f 313,f 314,f 315,f 316,f 317,f 318],[]⟩:=by
 have e:=yMa h.en.sz h.en.df
 have e0:=getD_some h.en.t0
 have e3:=getD_some h.t3
 have e4:=getD_some h.t4
 have e5:=getD_some h.t5
 have e46:=getD_some h.t46
 refine ⟨fun i=>fr.tmps.getD i undef,e.trans ?_⟩
 rw [<-e0,<-e3,<-e4,<-e5,<-e46]
 kernel_rfl
end Go.Proofs.YtmaiggbnceejiaaGreatDoor
