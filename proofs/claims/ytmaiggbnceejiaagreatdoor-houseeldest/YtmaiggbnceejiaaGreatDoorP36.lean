import Derived.Test.YtmaiggbnceejiaaGreatDoorP34
import Derived.Test.YtmaiggbnceejiaaGreatDoorP35
import Derived.Test.YtmaiggbnceejiaaGreatDoorP32
import Derived.Test.YtmaiggbnceejiaaGreatDoorP30
set_option linter.unusedVariables false
set_option maxRecDepth 100000
set_option maxHeartbeats 16000000
namespace Go.Proofs.YtmaiggbnceejiaaGreatDoor
open Go.RowKit Go.Lib Go.Maps
theorem ySf{m:Nat}{s:dw}(h:gY s.h)(hok:pU m s)(zM:s.safe=true)(x:ActD):gY (dx s x).h:=by
 have hr:=hok.rest;have hf:=hok.few;have hl:=hok.tl;have fin:∀ (h':dW) (dV:List gg),gY h'->∀ r:dw,r={ s with h:=h',dV:=dV }->gY r.h:=fun h' dV q r e=>by subst e;exact q
 obtain ⟨r,ec⟩:∃ r,r=dx s x:=⟨_,rfl⟩;rw [<-ec];unfold dx at ec;by_cases e0:x.what=0
 ·rw [aJ e0] at ec;by_cases e:s.dV.length<7
  ·rw [aJ e] at ec;exact fin _ _ (h.begin hr (by omega)) r ec
  ·rw [aE e] at ec;rw [ec];exact h
 rw [aE e0] at ec;by_cases e1:x.what=1
 ·rw [aJ e1] at ec;exact fin _ _ (h.get hr _ _) r ec
 rw [aE e1] at ec;by_cases e2:x.what=2\/x.what=3
 ·rw [aJ e2] at ec;exact fin _ _ (h.put hr _ _) r ec
 rw [aE e2] at ec;by_cases e4:x.what=4
 ·rw [aJ e4] at ec;exact fin _ _ (h.end_ hr _) r ec
 rw [aE e4] at ec;by_cases e5:x.what=5
 ·rw [aJ e5] at ec;by_cases e:x.a.tmod 4=0
  ·rw [aJ e] at ec;exact fin _ _ (h.drop hr _) r ec
  ·rw [aE e] at ec;rw [ec];exact h
 rw [aE e5] at ec;by_cases e6:x.what=6
 ·rw [aJ e6] at ec;by_cases e:0<s.h.net.way.length
  ·rw [aJ e] at ec;exact fin _ _ (h.fN hr _) r ec
  ·rw [aE e] at ec;rw [ec];exact h
 rw [aE e6] at ec;by_cases e7:x.what=7
 ·rw [aJ e7] at ec;by_cases e:0<s.h.net.way.length
  ·rw [aJ e] at ec;exact fin _ _ (h.pj _) r ec
  ·rw [aE e] at ec;rw [ec];exact h
 rw [aE e7] at ec;by_cases e8:x.what=8
 ·rw [aJ e8] at ec;by_cases e:0<s.h.net.way.length
  ·rw [aJ e] at ec;exact fin _ _ (h.twice _) r ec
  ·rw [aE e] at ec;rw [ec];exact h
 rw [aE e8] at ec;by_cases e9:x.what=9
 ·rw [aJ e9] at ec;exact fin _ _ (h.tick hr) r ec
 rw [aE e9] at ec;by_cases e10:x.what=10
 ·rw [aJ e10] at ec;refine fin _ _ ?_ r ec;unfold yW;split
  ·rename_i e;have e':1<(Dp s.h (jb x.a 3)).length:=e.resolve_right (by rw [zM];simp);have hn:=Aq x.tx s.nodes (by have:=hok.nodes;omega);refine h.fail hr.c.safe (by have:=hok.nodes;omega) ?_;unfold Dp at e';rw [af] at e';exact e'
  ·exact h
 rw [aE e10] at ec;by_cases e11:x.what=11
 ·rw [aJ e11] at ec;exact fin _ _ (h.fix hr).1 r ec
 rw [aE e11] at ec;by_cases e12:x.what=12
 ·rw [aJ e12] at ec;exact fin _ _ (h.calm hr) r ec
 rw [aE e12] at ec;rw [ec];exact h
theorem zWt{m:Nat}{s:dw}(h:gY s.h)(hok:pU m s)(zM:s.safe=true)(x:ActD):gY (kH s x).h:=ySf (s:={ s with now:=s.now+1 }) h (hok.clock (s.now+1)) zM x
theorem yQi{k:Nat}(h:1<=k/\k<=3):gY (fS 2 k):=by
 have hr:=Rest.new (shards:=2) (nodes:=k) ⟨by omega,by omega⟩ ⟨by omega,by omega⟩;obtain ⟨d1,d2,d3,d4,d5⟩:=QS k 3;have vz:dk (fS 2 k)=2/\(dy (fS 2 k) 0).log.length=0/\(dy (fS 2 k) 1).log.length=0/\(dy (fS 2 k) 2).log.length=0:=by
  rcases (show k=1\/k=2\/k=3 by omega) with rfl | rfl | rfl
  ·decide +kernel
  ·decide +kernel
  ·decide +kernel
 have hno:∀ i,i<=dk (fS 2 k)->∀ c,c∉jY (fS 2 k) i:=fun i hi c hc=>by
  have hm:=As _ _ hc;rw [vz.1] at hi;rcases (show i=0\/i=1\/i=2 by omega) with rfl | rfl | rfl
  ·rw [aT vz.2.1] at hm;cases hm
  ·rw [aT vz.2.2.1] at hm;cases hm
  ·rw [aT vz.2.2.2] at hm;cases hm
 have hd:(fS 2 k).dead=[]:=d1;have hw:(fS 2 k).net.down=[]:=d4;refine ⟨⟨fun i hi c hc=>absurd hc (hno i (by omega) c),fun c hc=>absurd hc (hno _ (aF _) c)⟩,fun i hi=>⟨_,hr.c.safe.head_mem hi,?_⟩,fun x hx=>(by rw [hw] at hx;cases hx)⟩;unfold fs;rw [hd];simp
def xq(dV:List gg):Prop:=∀ t∈dV,∀ o∈t.ops,∃ i,o.key=nameK i
theorem xq.fQ{dV:List gg}(h:xq dV)(id:Nat){o:gQ}(ho:∃ i,o.key=nameK i):xq (fQ dV id o):=fun t ht p hp=>by
 unfold Go.Proofs.YtmaiggbnceejiaaGreatDoor.fQ at ht;split at ht
 ·rename_i u hu;rcases bE ht with q | q
  ·exact h t q p hp
  ·subst q;rcases aL.1 hp with q | q
   ·exact h u (aC hu) p q
   ·simp at q;rw [q];exact ho
 ·exact h t ht p hp
theorem yOr{s:dw}(h:xq s.dV)(x:ActD):xq (dx s x).dV:=by
 obtain ⟨r,hr⟩:∃ r,r=dx s x:=⟨_,rfl⟩;rw [<-hr];unfold dx at hr;by_cases e0:x.what=0
 ·rw [aJ e0] at hr;by_cases e:s.dV.length<7
  ·rw [aJ e] at hr;rw [hr];intro t ht;rcases aL.1 ht with q | q
   ·exact h t q
   ·rw [bK] at q;subst q;intro o ho;cases ho
  ·rw [aE e] at hr;rw [hr];exact h
 rw [aE e0] at hr;by_cases e1:x.what=1
 ·rw [aJ e1] at hr;rw [hr];dsimp only;split
  ·exact h.fQ _ ⟨_,rfl⟩
  ·exact h
 rw [aE e1] at hr;by_cases e2:x.what=2\/x.what=3
 ·rw [aJ e2] at hr;rw [hr];dsimp only;split
  ·exact h.fQ _ ⟨_,rfl⟩
  ·exact h
 rw [aE e2] at hr;have fin:r.dV=s.dV:=by
  rw [hr]
  repeat (first | rfl | split)
 rw [fin];exact h
theorem yEm{s:dw}(h:xq s.dV)(x:ActD):xq (kH s x).dV:=fun t ht o ho=>by
 obtain ⟨u,hu,e⟩:=yLe ht;rw [e] at ho;exact yOr (s:={ s with now:=s.now+1 }) h x u hu o ho
theorem yBj{α:Type}[DecidableEq α]:∀ (l m:List α),l.Nodup->(∀ x∈l,x∈m)->l.length<=m.length
 | [],m,_,_=>aV _
 | a :: l,m,hn,hs=>by
  have hn':=List.nodup_cons.1 hn;have ha:=hs a (by simp);have:=yBj l (m.erase a) hn'.2 (fun x hx=>by
   rw [List.mem_erase_of_ne (fun e=>hn'.1 (by rw [<-e];exact hx))];exact hs x (by simp [hx]))
  rw [List.length_erase_of_mem ha] at this;have hp:0<m.length:=List.length_pos_of_mem ha;simp;omega
theorem ml.few{s:dw}(h:ml s)(hn:xq s.dV){id:Nat}(h1:1<=id)(h2:id<=s.h.dV.length)(ho:(s.h.tx id).state=1):(s.h.tx id).writes.length<=4:=by
 obtain ⟨_,D,V,hX,hD⟩:=h.nF;have hL:jm s.h id:=⟨h1,h2,.inl ho⟩;have hnd:=hX.tz id hL;have:=yBj _ [nameK 0,nameK 1,nameK 2,nameK 3] hnd (fun k hk=>by
  obtain ⟨p,hp,e⟩:=ag.1 hk;have hs:(lq (s.h.tx id).writes k).isSome=true:=by
   unfold lq;rw [Option.isSome_map,List.find?_isSome];exact ⟨p,hp,by simp [e]⟩
  rw [hX.tu id hL] at hs;obtain ⟨o,ug,hok,_⟩:=JE hs;unfold sD at ug;split at ug
  ·cases ug
  ·cases hu:s.dV[id - 1]? with
   | none=>rw [hu] at ug;cases ug
   | some u=>
    rw [hu] at ug;obtain ⟨i,hi⟩:=hn u (aC hu) o ug;rw [<-hok,hi]
    match i with
    | 0=>simp
    | 1=>simp
    | 2=>simp
    | j+3=>simp [nameK])
 simpa using this
structure Uu(m:Nat)(s:dw):Prop where
 ok:pU m s
 nF:ml s
 live:gY s.h
 safe:s.safe=true
 short:Bk s.dV
 named:xq s.dV
 now:s.now=m
 ops:∀ t∈s.dV,t.ops.length<=m
structure FZ(m:Nat)(h:dW):Prop where
 rest:Rest h
 live:gY h
 all:nE h
 ll:h.lines.length=3
 few:h.dV.length<=8
 lost:h.net.lost<=3000000000000000*(m:Int)
theorem FZ.cost{m:Nat}{h h':dW}(q:FZ m h)(hc:eU h h')(hr:Rest h')(hl:gY h')(ha:nE h')(hf:h'.dV.length<=8):FZ (m+1) h':=
 ⟨hr,hl,ha,by rw [hc.ll];exact q.ll,hf,by have:=hc.lost;have:=q.lost;omega⟩
structure RC(m:Nat)(s:dw)(i:Nat)(h:dW):Prop where
 tail:FZ m h
 nF:ml { s with h:=h }
 tl:h.dV.length=s.dV.length
 st:∀ j,1<=j->j<=s.dV.length->((h.tx j).state=(s.h.tx j).state\/((s.h.tx j).state=1/\(h.tx j).state=4))
 done:∀ j,1<=j->j<=i->(h.tx j).state≠1
theorem Uu.fixed{m:Nat}{s:dw}(h:Uu m s)(hm:m<=200){x y:ActD}(hx:x.what=11)(hy:y.what=12):RC (m+2) (kH (kH s x) y) 0 (kH (kH s x) y).h/\(∀ j,1<=j->j<=(kH (kH s x) y).dV.length->((kH (kH s x) y).h.tx j).state≠2):=by
 have g1:=JG h.ok x;have g2:=JG g1.1 y;have hs1:=Tq h.nF h.ok (by rw [h.now];omega) x;have NL:(kH s x).now=s.now+1:=g1.2.2.1;have hs2:=Tq hs1 g1.1 (by rw [NL,h.now];omega) y;have mw:=zWt h.live h.ok h.safe x;have e1:(kH s x).h=jz s.h:=by
  show (dx { s with now:=s.now+1 } x).h=_;unfold dx;rw [aE (by omega),aE (by omega),aE (by omega),aE (by omega),aE (by omega),aE (by omega),aE (by omega),aE (by omega),aE (by omega),aE (by omega),aJ hx]
 have e2:(kH (kH s x) y).h=kD (kH s x).h:=by
  show (dx { kH s x with now:=(kH s x).now+1 } y).h=_;unfold dx;rw [aE (by omega),aE (by omega),aE (by omega),aE (by omega),aE (by omega),aE (by omega),aE (by omega),aE (by omega),aE (by omega),aE (by omega),aE (by omega),aJ hy]
 have Hl:nE (kH s x).h:=by rw [e1];exact (h.live.fix h.ok.rest).2
 have hr1:=g1.1.rest;have Rx:nE (kH (kH s x) y).h:=by
  rw [e2];have cg:=(Dd hr1.c).2;exact Hl.moves cg.mv cg.down
 have hl2:gY (kH (kH s x) y).h:=by rw [e2];exact mw.calm hr1
 refine ⟨⟨⟨g2.1.rest,hl2,Rx,g2.1.ll,by rw [g2.1.tl];have:=g2.1.few;omega,g2.1.lost⟩,hs2,g2.1.tl,fun j _ _=>.inl rfl,fun j j1 j2=>by omega⟩,fun j j1 j2=>?_⟩;rw [e2];refine zTs hr1 Hl mw.heard j1 ?_;rw [<-g2.1.tl,e2,(Dd hr1.c).2.mv.tl] at j2;exact j2
structure vW(m id k:Nat)(h:dW):Prop where
 tail:FZ m h
 ku:yV h id
 wr:(h.tx id).writes.length<=4+k
theorem vW.put{m id k:Nat}{h:dW}(q:vW m id k h)(hk:k<=10){p:fR}(h1:p.key.size<=20)(h2:p.val.size<=40):(eZ h id p).2=0/\vW (m+1) id (k+1) (eZ h id p).1:=by
 have hwr:=q.wr;obtain ⟨e0,hE⟩:=vV.put ⟨q.ku,q.tail.rest,q.tail.live,q.tail.all⟩ h1 h2 (by omega);have hlk:=tr q.tail.rest.c.safe q.tail.rest.c.held q.ku.h1 q.ku.h2 q.ku.op p.key h1 (mode:=2) (.inr rfl);have hh:(eZ h id p).1=dY (gC h id p.key 2).1 id (lV ((gC h id p.key 2).1.tx id) p):=by
  have hc:=q.ku.come q.tail.rest.c.safe q.tail.all h1;have hl:=q.ku.lock q.tail.rest.c.safe q.tail.rest.c.held p.key h1 (mode:=2) (.inr rfl);have hfull:qv (h.tx id) p.key=false:=by unfold qv;rw [aP (by omega)];rfl
  unfold eZ;rw [aE (by omega),aE (by rw [hc];simp),aS,hfull];simp only [dH,cA,if_false];rw [aE (by rw [hl];simp)]
 have hl2:id<=(gC h id p.key 2).1.dV.length:=by rw [hlk.same.len];exact q.ku.h2
 have hlen:(eZ h id p).1.dV.length=h.dV.length:=by rw [hh,kT,hlk.same.len]
 refine ⟨e0,q.tail.cost (eU.put q.tail.rest.c _ p) hE.rest hE.live hE.all (by rw [hlen];exact q.tail.few),hE.ku,?_⟩;rw [hh,mq _ id _ q.ku.h1 q.ku.h1 hl2,aJ rfl];unfold lV;split
 ·show (((gC h id p.key 2).1.tx id).writes.set _ p).length<=_;rw [aa,hlk.wr];omega
 ·show (((gC h id p.key 2).1.tx id).writes++[p]).length<=_;rw [aD,hlk.wr,List.length_singleton];omega
theorem vW.end_{m id k:Nat}{h:dW}(q:vW m id k h):(fa h id).2=0/\FZ (m+1) (fa h id).1/\ij (kD (fa h id).1) id=3/\Rest (kD (fa h id).1):=by
 obtain ⟨e0,e3,eA,eR,eL,eT,eS⟩:=vV.end_ ⟨q.ku,q.tail.rest,q.tail.live,q.tail.all⟩;have cg:=(Dd eR.c).2;have hAE:nE (fa h id).1:=by
  refine ⟨fun k hk n hn=>?_,eL.down⟩;obtain ⟨j,hj⟩:=aN hn;have hjl:=(aB.1 hj).1;have:=cg.mv.lives hjl;rw [pH hj] at this;rw [<-this];have hk2:k<(kD (fa h id).1).lines.length:=by rw [cg.mv.ll];exact hk
  exact eA.lives k hk2 _ (aC (og (by rw [cg.mv.len];exact hjl)))
 have hl:id<=(kD (fa h id).1).dV.length:=by rw [cg.mv.tl,eT];exact q.ku.h2
 exact ⟨e0,q.tail.cost (eU.end_ q.tail.rest.c _) eR eL hAE (by rw [eT];exact q.tail.few),by rw [Tv q.ku.h1 hl];exact e3,eR.calm⟩
theorem RC.eldest{m:Nat}{s:dw}(q:RC m s 0 s.h)(hnone:∀ j,1<=j->j<=s.dV.length->(s.h.tx j).state≠2)(hn:xq s.dV){i:Nat}(hi:i<s.dV.length)(ho:ij s.h ((i:Int)+1)=1)(hel:∀ j:Nat,j<i->ij s.h ((j:Int)+1)≠1):vW m (i+1) 0 s.h:=by
 have hc:∀ j:Nat,((j:Int)+1)=((j+1:Nat):Int):=fun j=>by omega
 have htl:=q.tl;have hst:(s.h.tx (i+1)).state=1:=by rw [hc,Tv (by omega) (by omega)] at ho;exact ho
 have h8:=q.tail.few;refine ⟨q.tail,⟨by omega,by omega,hst,by omega,fun j j1 j2=>hnone j j1 (by omega),fun j j1 j2 hj=>?_⟩,?_⟩
 ·refine hel (j - 1) (by omega) ?_;have e:((j - 1:Nat):Int)+1=(j:Int):=by omega
  rw [e,Tv j1 (by omega)];exact hj
 ·have:=q.nF.few hn (id:=i+1) (by omega) (by show i+1<=s.h.dV.length;omega) hst;exact this
structure sP(W:World)(F:Nat->Prop)(gs g c:Nat)(s:dw)(y:dX)(xv:Value)(vs:List Value)(w:World):Prop where
 md:Mod dZ W w
 fE:ef w W.heap.size c gs g y xv vs s
 gl:W.heap.size<=gs
 side:∀ k,F k->k<w.heap.size/\y.own k=.no/\¬ yZ gs xv vs k
def RD(W:World)(F:Nat->Prop)(gs g c:Nat)(s:dw)(w w':World):Prop:=(∃ y xv vs,sP W F gs g c s y xv vs w')/\Mod (fun k=>¬ F k) w w'
section
variable {W w:World} {F:Nat->Prop} {gs g c m:Nat} {s:dw} {y:dX} {xv:Value} {vs:List Value}
theorem sP.call{c':Nat}{s':dw}{w':World}(h:sP W F gs g c s y xv vs w)(hr:fC w W.heap.size c' gs g y xv vs s' w'):RD W F gs g c' s' w w':=by
 obtain ⟨y',vk,vs',hP,hM⟩:=hr;refine ⟨⟨y',vk,vs',h.md.trans' hM.md (fun k hk e=>?_),hP,h.gl,fun k hk=>?_⟩,hM.md.mono (fun k _ e q=>?_)⟩
 ·rcases e with e | e
  ·have:=(h.fE.house.own.lt k e).1;omega
  ·have:=(h.fE.cells h.gl e).1;omega
 ·obtain ⟨a,b,d⟩:=h.side k hk;exact ⟨aG a hM.md.size,(hM.old k a).trans b,fun e=>d (hM.fE k a e)⟩
 ·obtain ⟨_,b,d⟩:=h.side k q;exact e.elim (fun e=>e b) d
theorem sP.quiet{w':World}(h:sP W F gs g c s y xv vs w)(hm:Mod dZ w w'):sP W F gs g c s y xv vs w':=
 ⟨h.md.trans hm,h.fE.quiet hm,h.gl,fun k hk=>(have q:=h.side k hk;⟨aG q.1 hm.size,q.2⟩)⟩
structure CE(W:World)(c m:Nat)(s:dw):Prop where
 tail:FZ m s.h
 et:ET W
 n1:1<W.heap.size
 cc:c<=8900
 mm:m<=150
theorem CE.lost(k:CE W c m s):s.h.net.lost<=450000000000000000:=by
 have:=k.tail.lost;have:=k.mm;omega
theorem CE.lock(k:CE W c m s)(hm:Mod dZ W w):Ic w W.heap.size c s.h:=⟨k.tail.rest.c.safe.shape,k.tail.rest.c.held.ki,k.et.mod hm,k.n1,by have:=k.cc;omega⟩
theorem sP.put(h:sP W F gs g c s y xv vs w)(k:CE W c m s)(id:Int)(p:fR)(hk:fj p.key)(hv:fj p.val):Calls Tryz.prog 23 #[.pointer (some ⟨g,0,none⟩),.int .i64 id,.agg #[.string p.key,.string p.val,.bool p.gone]] w fun e w'=>e=.returned (ie (eZ s.h id p).2)/\RD W F gs g (c+2) { s with h:=(eZ s.h id p).1 } w w':=by
 refine (VU W.heap.size c g y s.h id p w h.fE.house (k.lock h.md) hk hv).mono ?_;rintro e w' ⟨rfl,y',hh,hk⟩;exact ⟨rfl,h.call (h.fE.call (Mod.refl _ _) hh hk.st (aF _))⟩
theorem sP.end_(h:sP W F gs g c s y xv vs w)(k:CE W c m s)(id:Int):Calls Tryz.prog 15 #[.pointer (some ⟨g,0,none⟩),.int .i64 id] w fun e w'=>e=.returned (ie (fa s.h id).2)/\RD W F gs g c { s with h:=(fa s.h id).1 } w w':=by
 refine (VO W.heap.size c g y s.h id w h.fE.house k.tail.rest.c.safe k.tail.rest.c.held (by have:=k.cc;omega) (by have:=k.lost;omega)).mono ?_;rintro e w' ⟨rfl,y',hh,hk⟩;exact ⟨rfl,h.call (h.fE.call (Mod.refl _ _) hh hk.st (aF _))⟩
theorem sP.calm(h:sP W F gs g c s y xv vs w)(k:CE W c m s):Calls Tryz.prog 16 #[.pointer (some ⟨g,0,none⟩)] w fun e w'=>∃ ev,e=.returned ev/\RD W F gs g c { s with h:=kD s.h } w w':=by
 refine (Sv W.heap.size c g y s.h w h.fE.house k.tail.rest.c (by have:=k.cc;omega) (by have:=QC k.tail.rest.c;have:=k.lost;omega)).mono ?_;rintro e w' ⟨rfl,y',hh,hk⟩;exact ⟨_,rfl,h.call (h.fE.call (Mod.refl _ _) hh hk.st (aF _))⟩
theorem sP.state(h:sP W F gs g c s y xv vs w)(hl:s.h.dV.length<=60)(id:Int):Calls Tryz.prog 11 #[.pointer (some ⟨g,0,none⟩),.int .i64 id] w fun e w'=>e=.returned (.int .i64 (ij s.h id))/\w'=w:=JD W.heap.size c g y s.h id w h.fE.house hl
end
structure qq(s:dw):Prop where
 nF:tM s
 live:gY s.h
 safe:s.safe=true
 named:xq s.dV
theorem qq.new{k:Nat}(h:1<=k/\k<=3):qq (xC k true):=⟨tM.new h true,yQi h,rfl,fun t ht=>(by cases ht)⟩
theorem qq.sY{m:Nat}{s:dw}(h:qq s)(hok:pU m s)(hn:s.now=m)(x:ActD):qq (kH s x):=⟨h.nF.sY hok hn x,zWt h.live hok h.safe x,by rw [(JG hok x).2.2.2];exact h.safe,yEm h.named x⟩
theorem qq.rV{m:Nat}{s:dw}(h:qq s)(hok:pU m s)(hn:s.now=m)(ho:∀ t∈s.dV,t.ops.length<=m):Uu m s:=⟨hok,h.nF.nF,h.live,h.safe,h.nF.short,h.named,hn,ho⟩
def JS:ActD:=⟨11,0,0,⟨#[]⟩⟩
def Lu:ActD:=⟨12,0,0,⟨#[]⟩⟩
structure IY(W:World)(gs g m:Nat)(s:dw)(w:World):Prop where
 ex:∃ y xv vs,sP W (fun _=>False) gs g (2*m+4) s y xv vs w
 last:RC (m+2) s 0 s.h
 none:∀ j,1<=j->j<=s.dV.length->(s.h.tx j).state≠2
 few:s.dV.length<=7
 now:s.now=(m:Int)+2
 named:xq s.dV
 nF:tM s
 ops:∀ t∈s.dV,t.ops.length<=m+2
theorem yGs{W w:World}{gs g m:Nat}{y:dX}{xv:Value}{vs:List Value}{s:dw}(iK:Mod dZ W w)(hP:ef w W.heap.size (2*m) gs g y xv vs s)(zy:pU m s)(kc:s.now=m)(hop:∀ t∈s.dV,t.ops.length<=m)(hgl:W.heap.size<=gs)(hE:ET W)(hNM:NMo W W.heap.size)(h1W:1<W.heap.size)(hm:m<=125)(x:ActD)(hx:fj x.value) :
  Calls Tryz.prog 10 #[.pointer (some ⟨gs,0,none⟩),.agg #[.int .i64 x.what,.int .i64 x.tx,.int .i64 x.a,.string x.value]] w fun e w'=>e=.returned (.tuple #[])/\Mod dZ W w'/\∃ y xv vs,ef w' W.heap.size (2*(m+1)) gs g y xv vs (kH s x):=by
 refine (yBd W.heap.size (2*m) m gs g y xv vs s x w ⟨hP,zy,hNM.mod iK (fun _ _=>id),hE.mod iK,h1W,by omega,by omega,hgl,by omega,hop⟩ hx).mono ?_;rintro e w' ⟨rfl,yn,Dt,Du,h1,h2⟩;refine ⟨rfl,iK.trans' h2.md (fun k hk e=>?_),yn,Dt,Du,h1⟩;rcases e with e | e
 ·have:=(hP.house.own.lt k e).1;omega
 ·have:=(hP.cells hgl e).1;omega
theorem yNn{W w:World}{gs g m:Nat}(h:AI qq W gs g m w)(hE:ET W)(hNM:NMo W W.heap.size)(h1W:1<W.heap.size)(hm:m<=120) :
  Calls Tryz.prog 10 #[.pointer (some ⟨gs,0,none⟩),.agg #[.int .i64 11,.int .i64 0,.int .i64 0,.string ⟨#[]⟩]] w fun e w1=>e=.returned (.tuple #[])/\Calls Tryz.prog 10 #[.pointer (some ⟨gs,0,none⟩),.agg #[.int .i64 12,.int .i64 0,.int .i64 0,.string ⟨#[]⟩]] w1 fun e w2=>e=.returned (.tuple #[])/\∃ s,IY W gs g m s w2:=by
 obtain ⟨iK,y,xv,vs,s,hP,zy,kc,hop,hgl,hJ⟩:=h;have hok:fj (⟨#[]⟩:ByteArray):=by unfold fj;decide
 obtain ⟨g1,-,n1,-⟩:=JG zy JS;obtain ⟨g2,-,n2,-⟩:=JG g1 Lu;have e1:(kH s JS).now=((m+1:Nat):Int):=by rw [n1,kc];omega
 have j1:=hJ.sY zy kc JS;have j2:=j1.sY g1 e1 Lu;have o1:=Tp hop JS;have hF:=(hJ.rV zy kc hop).fixed (by omega) (x:=JS) (y:=Lu) rfl rfl;refine (yGs iK hP zy kc hop hgl hE hNM h1W (by omega) JS hok).mono ?_;rintro e w1 ⟨rfl,di,y1,BB,vs1,uG⟩;refine ⟨rfl,(yGs di uG g1 e1 o1 hgl hE hNM h1W (by omega) Lu hok).mono ?_⟩;rintro e w2 ⟨rfl,hm2,y2,JX,vs2,KA⟩;exact ⟨rfl,_,⟨y2,JX,vs2,hm2,KA,hgl,fun k hk=>hk.elim⟩,hF.1,hF.2,g2.few,by rw [n2,e1];omega,j2.named,j2.nF,Tp o1 Lu⟩
def Ai(s:dw)(i:Nat)(id:Int):Prop:=(id=0/\∀ j:Nat,j<i->ij s.h ((j:Int)+1)≠1)\/∃ k:Nat,k<s.dV.length/\id=(k:Int)+1/\ij s.h ((k:Int)+1)=1/\∀ j:Nat,j<k->ij s.h ((j:Int)+1)≠1
theorem Ai.yes{s:dw}{i:Nat}(hlt:i<s.dV.length)(h1:ij s.h ((i:Int)+1)=1)(hno:∀ j:Nat,j<i->ij s.h ((j:Int)+1)≠1):Ai s (i+1) ((i:Int)+1):=.inr ⟨i,hlt,rfl,h1,hno⟩
theorem Ai.no{s:dw}{i:Nat}(h1:ij s.h ((i:Int)+1)≠1)(hno:∀ j:Nat,j<i->ij s.h ((j:Int)+1)≠1):Ai s (i+1) 0:=.inl ⟨rfl,fun j hj=>by
 by_cases e:j=i
 ·rw [e];exact h1
 ·exact hno j (by omega)⟩
theorem MF{i n:Nat}(h:i<n)(hn:n<=7):wrap64 ((i:Int)+1)=(i:Int)+1/\decide ((i:Int)<(n:Int))=true/\(i:Int)<(n:Int):=⟨IntWalk.wrap64_in _ ⟨by omega,by omega⟩,aQ (by omega),by omega⟩
def FY(W:World)(gs g m id:Nat)(s:dw)(i:Nat)(wr:World):Prop:=∃ h y xv vs,vW (m+2+i) id i h/\sP W (fun _=>False) gs g (2*m+4+2*i) { s with h:=h } y xv vs wr
theorem Ys(c0 c1 c2 c3 c4 c5 c6 c8 c11 c12 c13 c14 c15 c16 c17 c18 c19 c20 c21 Kl Kk Kj Ki Kh Hu PA Oz Kg Oy Ox Ow Ov Ou Ot Oq Oo On Om Ol Oj Oi Oh Og Of Oe Od c49 Kf c51 SU SS SR SQ SP SO SN SM SL SK SJ SI SH SG SF Ke SE SD SC SB SA Rz Kd Kb Ka KZ KY KX KW KV KU KT KS KR KQ KP KO KN KM KL KK:Value)(gs g:Nat)(s:dw)(w3:World)(xa:Option Addr)(fk:Nat)(zg:gs<w3.heap.size)(c0':w3.cell? ⟨gs,0,none⟩=some (.pointer (some ⟨g,0,none⟩)))(c1':w3.cell? ⟨gs,1,none⟩=some (.slice xa s.dV.length fk))(h7:s.dV.length<=7)
  (HST:Hid (∀ id,Calls Tryz.prog 11 #[.pointer (some ⟨g,0,none⟩),.int .i64 id] w3 fun e w'=>e=.returned (.int .i64 (ij s.h id))/\w'=w3)) {R:Act->World->Prop}
  (hN:∀ (id:Int) (u10 u27 u28 u29 u30 u31 u32 u33 u34 u35 u36 u37 u38 u39 u40 u41 u42 u43 u44 u45 u46 u47 u48 u49:Value),Ai s s.dV.length id->R ⟨#[c0,c1,c2,c3,c4,c5,c6,.pointer (some ⟨gs,0,none⟩),c8,.int .i64 id,u10,c11,c12,c13,c14,c15,c16,c17,c18,c19,c20,c21,Kl,Kk,Kj,Ki,Kh,u27,u28,u29,u30,u31,u32,u33,u34,u35,u36,u37,u38,u39,u40,u41,u42,u43,u44,u45,u46,u47,u48,u49,Kf,c51,SU,SS,SR,SQ,SP,SO,SN,SM,SL,SK,SJ,SI,SH,SG,SF,Ke,SE,SD,SC,SB,SA,Rz,Kd,Kb,Ka,KZ,KY,KX,KW,KV,KU,KT,KS,KR,KQ,KP,KO,KN,KM,KL,KK],[]⟩ w3) :
  Code.wp Tryz.prog ((Tryz.f6.body.bind (yd 0)).getD .skip) (uO R) ⟨#[c0,c1,c2,c3,c4,c5,c6,.pointer (some ⟨gs,0,none⟩),c8,.int .i64 0,.int .i64 0,c11,c12,c13,c14,c15,c16,c17,c18,c19,c20,c21,Kl,Kk,Kj,Ki,Kh,Hu,PA,Oz,Kg,Oy,Ox,Ow,Ov,Ou,Ot,Oq,Oo,On,Om,Ol,Oj,Oi,Oh,Og,Of,Oe,Od,c49,Kf,c51,SU,SS,SR,SQ,SP,SO,SN,SM,SL,SK,SJ,SI,SH,SG,SF,Ke,SE,SD,SC,SB,SA,Rz,Kd,Kb,Ka,KZ,KY,KX,KW,KV,KU,KT,KS,KR,KQ,KP,KO,KN,KM,KL,KK],[]⟩ w3:=by
 conv=>arg 2;whnf
 have HN:=dU hN;clear hN;go_wp2_with fail;go_loopw [9,10] (fun id0 i0 wr=>∃ i:Nat,i<=s.dV.length/\i0=.int .i64 i/\wr=w3/\∃ id,id0=.int .i64 id/\Ai s i id) (fun _ i0 _=>s.dV.length - (intOf i0).toNat)
 case atStart=>exact ⟨0,aV _,rfl,rfl,0,rfl,.inl ⟨rfl,fun j hj=>by omega⟩⟩
 case round=>
  obtain ⟨i,hil,rfl,rfl,id,rfl,hFi⟩:=hrel;rcases hFi with ⟨rfl,hno⟩ | ⟨k,hk,rfl,ho,hel⟩
  ·by_cases hlt:i<s.dV.length
   ·obtain ⟨ew,hb,kO⟩:=MF hlt h7;have kv:=dU hno;clear hno;by_cases h1:ij s.h ((i:Int)+1)=1
    ·have HQ:=dU (Ai.yes hlt h1 kv.out);have hb1:(ij s.h ((i:Int)+1) == 1)=true:=by simpa using h1
     clear h1 kv;go_wp2_with (first | (go_at_call 11;refine (HST.out _).mono ?_;rintro e w' ⟨rfl,rfl⟩) | fail);go_roundw
     case rel=>exact ⟨i+1,hlt,by first | rfl | go_num,by first | rfl | trivial,_,rfl,HQ.out⟩
     case measure=>simp [intOf];omega
    ·have HQ:=dU (Ai.no h1 kv.out);have hb1:(ij s.h ((i:Int)+1) == 1)=false:=by simpa using h1
     clear h1 kv;go_wp2_with (first | (go_at_call 11;refine (HST.out _).mono ?_;rintro e w' ⟨rfl,rfl⟩) | fail);go_roundw
     case rel=>exact ⟨i+1,hlt,by first | rfl | go_num,by first | rfl | trivial,_,rfl,HQ.out⟩
     case measure=>simp [intOf];omega
   ·obtain rfl:i=s.dV.length:=by omega
    have HQ:Hid (Ai s s.dV.length 0):=.inl ⟨rfl,hno⟩;clear hno;go_wp2_with fail;show R _ _;exact HN.out _ _ _ _ _ _ _ _ _ _ _ _ _ _ _ _ _ _ _ _ _ _ _ _ _ HQ.out
  ·have hz:((k:Int)+1 == 0)=false:=by simp;omega
   have HQ:Hid (Ai s s.dV.length ((k:Int)+1)):=.inr ⟨k,hk,rfl,ho,hel⟩;have hcs:(decide ((i:Int)<(s.dV.length:Int))=true/\(i:Int)<(s.dV.length:Int))\/(decide ((i:Int)<(s.dV.length:Int))=false/\i=s.dV.length):=by
    by_cases q:i<s.dV.length
    ·exact .inl ⟨aQ (by omega),by omega⟩
    ·exact .inr ⟨aP (by omega),by omega⟩
   clear ho hel;rcases hcs with ⟨hb,hlt⟩ | ⟨hb,rfl⟩
   ·go_wp2_with fail;show R _ _;exact HN.out _ _ _ _ _ _ _ _ _ _ _ _ _ _ _ _ _ _ _ _ _ _ _ _ _ HQ.out
   ·go_wp2_with fail;show R _ _;exact HN.out _ _ _ _ _ _ _ _ _ _ _ _ _ _ _ _ _ _ _ _ _ _ _ _ _ HQ.out
theorem Yr(c0 c1 c3 c4 c5 c6 c8 c10 c12 c13 c14 c15 c16 c17 c18 c19 c20 c21 Kl Kk Kj Ki Kh Hu PA Oz Kg Oy Ox Ow Ov Ou Ot Oq Oo On Om Ol Oj Oi Oh Og Of Oe Od c49 Kf c51 SU SS SR SQ SP SO SN SM SL SK SJ SI SH SG SF Ke SE SD SC SB SA Rz Kd Kb Ka KZ KY KX KW KV KU KT KS KR KQ KP KO KN KM KL KK:Value)(W:World)(gs g m k pk nb no jh:Nat)(key:Int)(s:dw)(w:World)(h1W:1<W.heap.size)(vA:m<=120)(HE:Hid (ET W))(hpl:pk<4)(xe:Hid (∀ wq,Calls Tryz.prog 18 #[.int .i64 key,.int .i64 4] wq fun e w'=>e=.returned (.int .i64 pk)/\w'=wq))(n0:0<W.heap.size)(n1:nb<W.heap.size)
  (Kw:Hid (W.cell? ⟨0,0,none⟩=some (.slice (some ⟨nb,no,none⟩) 4 jh))) (DP:Hid (∀ i,i<4->W.cell? ⟨nb,no+i,none⟩=some (.string (nameK i)))) (PU:Hid (FY W gs g m (k+1) s 0 w)) {R:Act->World->Prop}
  (hN:∀ (u6 u11 u52 u53 u54 u55 u56 u57 u58 u59 u60 u61 u62 u63 u64 u65 u66 u67 u68 u69 u70 u71 u72 u73:Value) (wd:World),FY W gs g m (k+1) s 4 wd->R ⟨#[c0,c1,.int .i64 key,c3,c4,c5,u6,.pointer (some ⟨gs,0,none⟩),c8,.int .i64 ((k:Int)+1),c10,u11,c12,c13,c14,c15,c16,c17,c18,c19,c20,c21,Kl,Kk,Kj,Ki,Kh,Hu,PA,Oz,Kg,Oy,Ox,Ow,Ov,Ou,Ot,Oq,Oo,On,Om,Ol,Oj,Oi,Oh,Og,Of,Oe,Od,c49,Kf,c51,u52,u53,u54,u55,u56,u57,u58,u59,u60,u61,u62,u63,u64,u65,u66,u67,u68,u69,u70,u71,u72,u73,Kd,Kb,Ka,KZ,KY,KX,KW,KV,KU,KT,KS,KR,KQ,KP,KO,KN,KM,KL,KK],[]⟩ wd) :
  Code.wp Tryz.prog ((Tryz.f6.body.bind (yd 2)).getD .skip) (uO R) ⟨#[c0,c1,.int .i64 key,c3,c4,c5,c6,.pointer (some ⟨gs,0,none⟩),c8,.int .i64 ((k:Int)+1),c10,.int .i64 0,c12,c13,c14,c15,c16,c17,c18,c19,c20,c21,Kl,Kk,Kj,Ki,Kh,Hu,PA,Oz,Kg,Oy,Ox,Ow,Ov,Ou,Ot,Oq,Oo,On,Om,Ol,Oj,Oi,Oh,Og,Of,Oe,Od,c49,Kf,c51,SU,SS,SR,SQ,SP,SO,SN,SM,SL,SK,SJ,SI,SH,SG,SF,Ke,SE,SD,SC,SB,SA,Rz,Kd,Kb,Ka,KZ,KY,KX,KW,KV,KU,KT,KS,KR,KQ,KP,KO,KN,KM,KL,KK],[]⟩ w:=by
 conv=>arg 2;whnf
 have HN:=dU hN;clear hN;go_wp2_with fail;go_loopw [11] (fun i0 wr=>∃ i:Nat,i<=4/\i0=.int .i64 i/\FY W gs g m (k+1) s i wr) (fun i0 _=>4 - (intOf i0).toNat)
 case atStart=>exact ⟨0,aV _,rfl,PU.out⟩
 case round=>
  obtain ⟨i,hil,rfl,h,y,xv,vs,hG,hT⟩:=hrel;clear PU;have m2:=hT.md.cell Kw.out id;by_cases hlt:i<4
  ·obtain ⟨kk,hkk⟩:∃ z,z=(i+pk) % 4:=⟨_,rfl⟩;have Nd:kk<4:=by omega
   have m3:=hT.md.cell (DP.out kk Nd) id;obtain ⟨d0,-,-,-,-⟩:=gN hT.fE.blk;have zg:=hT.fE.blk.lt;have wB:(i:Int)<4:=by omega
   have XE:fj (nameK kk):=by unfold fj;rw [UI];decide
   have XD:fj (⟨#[122]⟩:ByteArray):=by unfold fj;decide
   have HPT:Hid (∀ wq,Mod dZ wr wq->Calls Tryz.prog 23 #[.pointer (some ⟨g,0,none⟩),.int .i64 ((k:Int)+1),.agg #[.string (nameK kk),.string ⟨#[122]⟩,.bool false]] wq fun e w'=>e=.returned .nilIface/\FY W gs g m (k+1) s (i+1) w'/\Mod dZ W w'/\w'.cell? ⟨gs,0,none⟩=some (.pointer (some ⟨g,0,none⟩))):=fun wq hq=>by
    obtain ⟨e0,hG'⟩:=hG.put (by omega) (p:=⟨nameK kk,⟨#[122]⟩,false⟩) (by rw [UI];omega) (by show (⟨#[122]⟩:ByteArray).size<=40;decide);have hp:=(hT.quiet hq).put (m:=m+2+i) ⟨hG.tail,HE.out,h1W,by omega,by omega⟩ ((k+1:Nat):Int) ⟨nameK kk,⟨#[122]⟩,false⟩ XE XD;have hc:((k:Int)+1)=((k+1:Nat):Int):=by omega
    rw [hc];refine hp.mono ?_;rintro e w' ⟨rfl,⟨y',vk,vs',hT'⟩,-⟩;have Ju:sP W (fun _=>False) gs g (2*m+4+2*(i+1)) { s with h:=(eZ h ((k+1:Nat):Int) ⟨nameK kk,⟨#[122]⟩,false⟩).1 } y' vk vs' w':=hT';exact ⟨by show Ending.returned (ie (eZ h ((k+1:Nat):Int) ⟨nameK kk,⟨#[122]⟩,false⟩).2)=_;rw [e0];rfl,⟨_,y',vk,vs',hG',Ju⟩,hT'.md,(gN hT'.fE.blk).1⟩
   have wH:wrap64 ((i:Int)+(pk:Int))=(i:Int)+(pk:Int):=IntWalk.wrap64_in _ ⟨by omega,by omega⟩;have er3:IntKind.i64.wrap ((i:Int)+(pk:Int))=(i:Int)+(pk:Int):=IntWalk.i64_in _ ⟨by omega,by omega⟩;have er2:((i:Int)+(pk:Int)).tmod 4=((kk:Nat):Int):=by rw [Int.tmod_eq_emod_of_nonneg (by omega)];omega
   have qT:(0:Int)<=((kk:Nat):Int):=by omega
   have wA:((kk:Nat):Int)<4:=by omega
   have vT:Hid (wr.drew.cell? ⟨gs,0,none⟩=some (.pointer (some ⟨g,0,none⟩))/\wr.drew.cell? ⟨0,0,none⟩=some (.slice (some ⟨nb,no,none⟩) 4 jh)/\wr.drew.cell? ⟨nb,no+kk,none⟩=some (.string (nameK kk))):=⟨d0,m2,m3⟩;clear hG hT hkk d0 m3;go_upto_region 17 with fail;clear m2;refine QF fun fr jF=>?_;refine QP fun Q1 oF=>?_;have fo:∀ (d:Nat) (v:Value) (c:List PanicEntry) (a:Act) (w:World),Q1 (.panic c) (a.put (some d) v) w->Q1 (.panic c) a w:=fun d v c a w h=>by rw [oF] at h ⊢;exact h
   have Bb:=dU oF;clear oF;have hsz:fr.tmps.size=93:=by rw [jF];rfl
   obtain ⟨_,t2⟩:∃ h:2<fr.tmps.size,fr.tmps[2]=.int .i64 key:=aK.1 (by rw [jF];rfl);obtain ⟨_,t7⟩:∃ h:7<fr.tmps.size,fr.tmps[7]=.pointer (some ⟨gs,0,none⟩):=aK.1 (by rw [jF];rfl);obtain ⟨_,t9⟩:∃ h:9<fr.tmps.size,fr.tmps[9]=.int .i64 ((k:Int)+1):=aK.1 (by rw [jF];rfl);obtain ⟨_,t11⟩:∃ h:11<fr.tmps.size,fr.tmps[11]=.int .i64 i:=aK.1 (by rw [jF];rfl);have kx:=dU jF;clear jF;refine FR 99 (fun wq=>wq.cell? ⟨gs,0,none⟩=some (.pointer (some ⟨g,0,none⟩))/\wq.cell? ⟨0,0,none⟩=some (.slice (some ⟨nb,no,none⟩) 4 jh)/\wq.cell? ⟨nb,no+kk,none⟩=some (.string (nameK kk))) rfl ?_;refine fu 99 0 58 (.pointer (some ⟨gs,0,none⟩)) rfl rfl (fun c a w h=>fo _ _ c a w h) vT.out ⟨by rfl,fun wq hq=>by obtain ⟨q0,q1,q2⟩:=hq;go_simp⟩ ?_;refine fu 99 1 59 (.pointer (some ⟨gs,0,none⟩)) rfl rfl (fun c a w h=>fo _ _ c a w h) vT.out ⟨by rfl,fun wq hq=>by obtain ⟨q0,q1,q2⟩:=hq;go_simp⟩ ?_;refine fu 99 2 60 (.pointer (some ⟨gs,0,none⟩)) rfl rfl (fun c a w h=>fo _ _ c a w h) vT.out ⟨by rfl,fun wq hq=>by obtain ⟨q0,q1,q2⟩:=hq;go_simp⟩ ?_;refine fu 99 3 61 (.pointer (some ⟨g,0,none⟩)) rfl rfl (fun c a w h=>fo _ _ c a w h) vT.out ⟨by rfl,fun wq hq=>by obtain ⟨q0,q1,q2⟩:=hq;go_simp⟩ ?_;refine fu 99 4 62 (.int .i64 ((k:Int)+1)) rfl rfl (fun c a w h=>fo _ _ c a w h) vT.out ⟨by rfl,fun wq hq=>by obtain ⟨q0,q1,q2⟩:=hq;go_simp⟩ ?_;refine fu 99 5 63 (.slice (some ⟨nb,no,none⟩) 4 jh) rfl rfl (fun c a w h=>fo _ _ c a w h) vT.out ⟨by rfl,fun wq hq=>by obtain ⟨q0,q1,q2⟩:=hq;go_simp⟩ ?_;refine fu 99 6 64 (.int .i64 i) rfl rfl (fun c a w h=>fo _ _ c a w h) vT.out ⟨by rfl,fun wq hq=>by obtain ⟨q0,q1,q2⟩:=hq;go_simp⟩ ?_;refine fu 99 7 65 (.int .i64 key) rfl rfl (fun c a w h=>fo _ _ c a w h) vT.out ⟨by rfl,fun wq hq=>by obtain ⟨q0,q1,q2⟩:=hq;go_simp⟩ ?_;refine Un 99 8 66 rfl rfl (by kernel_rfl) (by rfl) (f:=18) (args:=#[.int .i64 key,.int .i64 4]) (by go_simp) ((xe.out _).mono ?_);rintro e w' ⟨rfl,rfl⟩;refine ⟨_,rfl,vT.out,?_⟩;refine fu 99 9 67 (.int .i64 ((i:Int)+(pk:Int))) rfl rfl (fun c a w h=>fo _ _ c a w h) vT.out ⟨by rfl,fun wq hq=>by obtain ⟨q0,q1,q2⟩:=hq;go_simp⟩ ?_;refine fu 99 10 68 (.int .i64 ((kk:Nat):Int)) rfl rfl (fun c a w h=>fo _ _ c a w h) vT.out ⟨by rfl,fun wq hq=>by obtain ⟨q0,q1,q2⟩:=hq;go_simp⟩ ?_;refine fu 99 11 69 (.pointer (some ⟨nb,no+kk,none⟩)) rfl rfl (fun c a w h=>fo _ _ c a w h) vT.out ⟨by rfl,fun wq hq=>by obtain ⟨q0,q1,q2⟩:=hq;go_simp⟩ ?_;refine fu 99 12 70 (.string (nameK kk)) rfl rfl (fun c a w h=>fo _ _ c a w h) vT.out ⟨by rfl,fun wq hq=>by obtain ⟨q0,q1,q2⟩:=hq;go_simp⟩ ?_;refine fu 99 13 71 (.agg #[.string (nameK kk),.string ⟨#[122]⟩,.bool false]) rfl rfl (fun c a w h=>fo _ _ c a w h) vT.out ⟨by rfl,fun wq hq=>by obtain ⟨q0,q1,q2⟩:=hq;go_simp⟩ ?_;refine Un 99 14 72 rfl rfl (by kernel_rfl) (by rfl) (f:=23) (args:=#[.pointer (some ⟨g,0,none⟩),.int .i64 ((k:Int)+1),.agg #[.string (nameK kk),.string ⟨#[122]⟩,.bool false]]) (by go_simp) ((HPT.out _ ((Mod.refl _ _).drew)).mono ?_);rintro e w5 ⟨rfl,hI5,eu,Cr⟩;have HI5:=dU hI5;have HC5:Hid (w5.cell? ⟨gs,0,none⟩=some (.pointer (some ⟨g,0,none⟩))/\w5.cell? ⟨0,0,none⟩=some (.slice (some ⟨nb,no,none⟩) 4 jh)/\w5.cell? ⟨nb,no+kk,none⟩=some (.string (nameK kk))):=⟨Cr,eu.cell Kw.out id,eu.cell (DP.out kk Nd) id⟩;clear hI5 eu Cr;refine ⟨_,rfl,HC5.out,?_⟩;refine nc 99 15 73 rfl rfl (by kernel_rfl) (by rfl) (v:=.bool false) (w':=w5) (by go_simp) HC5.out ?_;refine ⟨by kernel_rfl,?_⟩;have hfin:∀ A:Act,A=⟨#[c0,c1,.int .i64 key,c3,c4,c5,u6,.pointer (some ⟨gs,0,none⟩),c8,.int .i64 ((k:Int)+1),c10,.int .i64 i,c12,c13,c14,c15,c16,c17,c18,c19,c20,c21,Kl,Kk,Kj,Ki,Kh,Hu,PA,Oz,Kg,Oy,Ox,Ow,Ov,Ou,Ot,Oq,Oo,On,Om,Ol,Oj,Oi,Oh,Og,Of,Oe,Od,c49,Kf,c51,.int .i64 i,.slice (some ⟨nb,no,none⟩) 4 jh,.int .i64 4,.bool true,u56,u57,.pointer (some ⟨gs,0,none⟩),.pointer (some ⟨gs,0,none⟩),.pointer (some ⟨gs,0,none⟩),.pointer (some ⟨g,0,none⟩),.int .i64 ((k:Int)+1),.slice (some ⟨nb,no,none⟩) 4 jh,.int .i64 i,.int .i64 key,.int .i64 pk,.int .i64 ((i:Int)+(pk:Int)),.int .i64 ((kk:Nat):Int),.pointer (some ⟨nb,no+kk,none⟩),.string (nameK kk),.agg #[.string (nameK kk),.string ⟨#[122]⟩,.bool false],.nilIface,.bool false,Kd,Kb,Ka,KZ,KY,KX,KW,KV,KU,KT,KS,KR,KQ,KP,KO,KN,KM,KL,KK],[]⟩->Q1 .normal A w5:=fun A hA=>by
    subst hA;have oF:=Bb.out;subst oF;clear t2 t7 t9 t11 hsz fo HPT HC5 vT kx;go_wp2_with fail;go_roundw
    case rel=>exact ⟨i+1,by omega,by first | rfl | go_num,HI5.out⟩
    case measure=>simp [intOf];omega
   exact hfin _ (by rw [kx.out];kernel_rfl)
  ·obtain rfl:i=4:=by omega
   have HQ:Hid (FY W gs g m (k+1) s 4 wr):=⟨h,y,xv,vs,hG,hT⟩;clear hG hT;go_wp2_with fail;show R _ _;exact HN.out _ _ _ _ _ _ _ _ _ _ _ _ _ _ _ _ _ _ _ _ _ _ _ _ _ HQ.out
theorem Yq{W:World}{gs g m k:Nat}{s:dw}{wr:World}(Rm:FY W gs g m (k+1) s 4 wr)(hE:ET W)(h1W:1<W.heap.size)(vA:m<=120):wr.cell? ⟨gs,0,none⟩=some (.pointer (some ⟨g,0,none⟩))/\gs<wr.heap.size /\
  Calls Tryz.prog 15 #[.pointer (some ⟨g,0,none⟩),.int .i64 ((k:Int)+1)] wr fun e w'=>e=.returned .nilIface/\w'.cell? ⟨gs,0,none⟩=some (.pointer (some ⟨g,0,none⟩))/\gs<w'.heap.size /\
   Calls Tryz.prog 16 #[.pointer (some ⟨g,0,none⟩)] w' fun e w6=>∃ ev,e=.returned ev/\w6.cell? ⟨gs,0,none⟩=some (.pointer (some ⟨g,0,none⟩))/\gs<w6.heap.size/\Mod dZ W w6 /\
    Calls Tryz.prog 11 #[.pointer (some ⟨g,0,none⟩),.int .i64 ((k:Int)+1)] w6 fun e w'=>e=.returned (.int .i64 3)/\w'=w6:=by
 obtain ⟨h,y,xv,vs,hG,hT⟩:=Rm;obtain ⟨e0,Ee,e3,rH⟩:=hG.end_;obtain ⟨id,hid⟩:∃ z:Int,z=((k+1:Nat):Int):=⟨_,rfl⟩;have hc:((k:Int)+1)=id:=by omega
 have hnil:ie 0=.nilIface:=oL;rw [<-hid] at e0 Ee e3 rH;rw [hc];obtain ⟨H,hH⟩:∃ z,z=fa h id:=⟨_,rfl⟩;obtain ⟨H6,Hg⟩:∃ z,z=kD H.1:=⟨_,rfl⟩;rw [<-hH] at e0 Ee e3 rH;rw [<-Hg] at e3 rH;have k1:CE W (2*m+4+2*4) (m+2+4) { s with h:=h }:=⟨hG.tail,hE,h1W,by omega,by omega⟩;have k2:CE W (2*m+4+2*4) (m+2+4+1) { s with h:=H.1 }:=⟨Ee,hE,h1W,by omega,by omega⟩;have hen:=hT.end_ k1 id;dsimp only at hen;rw [<-hH] at hen;refine ⟨(gN hT.fE.blk).1,hT.fE.blk.lt,hen.mono ?_⟩;rintro e w' ⟨rfl,⟨y',vk,vs',hT'⟩,-⟩;refine ⟨by rw [e0,hnil],(gN hT'.fE.blk).1,hT'.fE.blk.lt,?_⟩;have OA:=hT'.calm k2;dsimp only at OA;rw [<-Hg] at OA;refine OA.mono ?_;rintro e w6 ⟨ev,rfl,⟨y6,xv6,vs6,OG⟩,-⟩;refine ⟨ev,rfl,(gN OG.fE.blk).1,OG.fE.blk.lt,OG.md,?_⟩;have hst:=OG.state rH.c.safe.tl id;dsimp only at hst;rw [e3] at hst;exact hst
theorem houseEldest_any(nodes:Int)(lv:Value)(key:Int)(acts:List ActD)(W:World)(hl:ActsV W W.heap.size lv acts)(hE:ET W)(hNM:NMo W W.heap.size)(h1W:1<W.heap.size) :
  Calls Tryz.prog 6 #[.int .i64 nodes,lv,.int .i64 key] W fun e W'=>e=.returned (.bool true)/\Mod dZ W W':=by
 have HB:=dU (yOj qq nodes true lv acts W (fun k hk=>qq.new hk) (fun m s x h1 h2 h3=>h3.sY h1 h2 x) hl hE hNM h1W);obtain ⟨la,fG,hlv,hlc,hlm⟩:=gG.slice hl;subst hlv;have HE:=dU hE;have PW:=dU hNM;clear hl hE hNM;go_enter Tryz.func6,Tryz.ntmps6;go_wp2_with fail;refine HB.out.mono ?_;rintro e w1 (⟨vA,rfl,di⟩ | ⟨vA,gs,g,rfl,hR⟩)
 ·have HM:=dU di;clear di HB;go_wp2_with fail;go_ret;exact ⟨rfl,HM.out⟩
 have Zt:=dU (yNn hR HE.out PW.out h1W vA);clear hR HB;obtain ⟨m,hm⟩:∃ z,z=acts.length:=⟨_,rfl⟩;rw [<-hm] at Zt vA;clear hm;go_wp2_with fail;refine Zt.out.mono ?_;rintro e w2 ⟨rfl,hC2⟩;have mU:=dU hC2;clear hC2 Zt;go_wp2_with fail;refine mU.out.mono ?_;rintro e w3 ⟨rfl,s,hF⟩;obtain ⟨y3,xv3,vs3,Jt⟩:=hF.ex;obtain ⟨xa,fk,hxv⟩:=fJ Jt.fE.row.2;subst hxv;obtain ⟨c0,c1,-,-,-⟩:=gN Jt.fE.blk;have zg:=Jt.fE.blk.lt;have h8:=hF.last.tail.few;have h7:=hF.few;have HST:Hid (∀ id,Calls Tryz.prog 11 #[.pointer (some ⟨g,0,none⟩),.int .i64 id] w3 fun e w'=>e=.returned (.int .i64 (ij s.h id))/\w'=w3):=fun id=>Jt.state (by omega) id;have SZ:=dU Jt;have HF:=dU hF;clear Jt hF mU;go_upto_block 0 with fail;refine wp_mono (Q:=uO ?RA) (Ys _ _ _ _ _ _ _ _ _ _ _ _ _ _ _ _ _ _ _ _ _ _ _ _ _ _ _ _ _ _ _ _ _ _ _ _ _ _ _ _ _ _ _ _ _ _ _ _ _ _ _ _ _ _ _ _ _ _ _ _ _ _ _ _ _ _ _ _ _ _ _ _ _ _ _ _ _ _ _ _ _ _ _ _ _ _ _ _ _ _ gs g s w3 xa fk zg c0 c1 h7 HST (R:=?RA) ?hA) ?hEA
 case hEA=>
  intro e a' wd hq
  cases e with
  | normal=>exact hq
  | ret=>exact hq.elim
  | exit id=>exact hq.elim
  | goto l=>exact hq.elim
  | panic ch=>exact hq.elim
  | outgrown=>exact hq.elim
 case hA=>
  intro id u10 u27 u28 u29 u30 u31 u32 u33 u34 u35 u36 u37 u38 u39 u40 u41 u42 u43 u44 u45 u46 u47 u48 u49 hFd;rename_i Kc yK;refine yK _ _ ?_;clear yK Kc;rcases hFd with ⟨rfl,_⟩ | ⟨k,hk,rfl,ho,hel⟩
  ·go_wp2_with fail;go_ret;exact ⟨rfl,SZ.out.md⟩
  ·have hE0:=HF.out.last.eldest HF.out.none HF.out.named hk ho hel;have hz:((k:Int)+1 == 0)=false:=by simp;omega
   have PU:Hid (FY W gs g m (k+1) s 0 w3):=⟨s.h,y3,_,vs3,hE0,SZ.out⟩;have Sf:=dU SZ.out.md;have hpl:=Aq key 4 (by omega);have xe:Hid (∀ wq,Calls Tryz.prog 18 #[.int .i64 key,.int .i64 4] wq fun e w'=>e=.returned (.int .i64 (jb key 4))/\w'=wq):=fun wq=>Bv key 4 wq (by omega) (by omega);obtain ⟨pk,hpk⟩:∃ z,z=jb key 4:=⟨_,rfl⟩;rw [<-hpk] at xe hpl;clear hpk hE0 ho hel SZ HST c0 c1;obtain ⟨nb,no,jh,n0,n1,n2,n3⟩:=PW.out;have Kw:=dU n2;have DP:=dU n3;clear n2 n3 PW;go_upto_block 2 with fail;refine wp_mono (Q:=uO ?RB) (Yr _ _ _ _ _ _ _ _ _ _ _ _ _ _ _ _ _ _ _ _ _ _ _ _ _ _ _ _ _ _ _ _ _ _ _ _ _ _ _ _ _ _ _ _ _ _ _ _ _ _ _ _ _ _ _ _ _ _ _ _ _ _ _ _ _ _ _ _ _ _ _ _ _ _ _ _ _ _ _ _ _ _ _ _ _ _ _ _ _ W gs g m k pk nb no jh key s w3 h1W vA HE hpl xe n0 n1 Kw DP PU (R:=?RB) ?hB) ?hEB
   case hEB=>
    intro e a' wd hq
    cases e with
    | normal=>exact hq
    | ret=>exact hq.elim
    | exit id=>exact hq.elim
    | goto l=>exact hq.elim
    | panic ch=>exact hq.elim
    | outgrown=>exact hq.elim
   case hB=>
    intro u6 u11 u52 u53 u54 u55 u56 u57 u58 u59 u60 u61 u62 u63 u64 u65 u66 u67 u68 u69 u70 u71 u72 u73 wr Rm;rename_i Kc yK;refine yK _ _ ?_;clear yK Kc PU;obtain ⟨d0,zg',hC⟩:=Yq Rm HE.out h1W vA;have HEN:=dU hC;clear hC Rm xe;go_wp2_with fail;refine HEN.out.mono ?_;rintro e w5 ⟨rfl,f0,zg5,hC6⟩;have Sm:=dU hC6;clear hC6 HEN d0;go_wp2_with fail;refine Sm.out.mono ?_;rintro e w6 ⟨ev,rfl,g0,zg6,fq,Mv⟩;have vN:=dU fq;have HS6:=dU Mv;clear fq Mv Sm f0;go_wp2_with fail;refine HS6.out.mono ?_;rintro e w7 ⟨rfl,rfl⟩;go_wp2_with fail;go_ret;exact ⟨rfl,vN.out⟩
end Go.Proofs.YtmaiggbnceejiaaGreatDoor
