import Derived.Test.YtmaiggbnceejiaaGreatDoorP46
import Derived.Test.YtmaiggbnceejiaaGreatDoorP45
set_option linter.unusedVariables false
set_option maxRecDepth 100000
set_option maxHeartbeats 16000000
namespace Go.Proofs.YtmaiggbnceejiaaGreatDoor
open Go.RowKit Go.Lib Go.Maps
section
variable {w:World} {n c m gs g:Nat} {y:HLay} {xv:Value} {vs:List Value} {s:StoS} {xb:Nat} {x:ActD}
theorem sw_any(hp:zCd w n c m gs g y xv vs s xb x)(fr:Act)(hf:SwF fr gs xb (idS s x) (keyX x) x.what):SwP w n c gs g y xv vs (armS s x) fr:=by
 by_cases h0:x.what=0
 ·by_cases ha:s.txs.length<7
  ·exact sw0a hp fr hf h0 ha
  ·exact sw0b hp fr hf h0 ha
 by_cases h1:x.what=1
 ·by_cases ha:(getH s.h (idS s x:Nat) (keyX x)).2.2.2=0/\0<idS s x
  ·exact sw1a hp fr hf h1 ha.1 ha.2
  ·exact sw1b hp fr hf h1 ha
 by_cases h2:x.what=2
 ·by_cases hv:9<x.value.size
  ·by_cases ha:(putH s.h (idS s x:Nat) ⟨keyX x,valA x,false⟩).2=0/\0<idS s x
   ·exact sw2la hp fr hf h2 hv ha.1 ha.2
   ·exact sw2lb hp fr hf h2 hv ha
  ·by_cases ha:(putH s.h (idS s x:Nat) ⟨keyX x,valA x,false⟩).2=0/\0<idS s x
   ·exact sw2sa hp fr hf h2 hv ha.1 ha.2
   ·exact sw2sb hp fr hf h2 hv ha
 by_cases h3:x.what=3
 ·by_cases hv:9<x.value.size
  ·by_cases ha:(putH s.h (idS s x:Nat) ⟨keyX x,valA x,true⟩).2=0/\0<idS s x
   ·exact sw3la hp fr hf h3 hv ha.1 ha.2
   ·exact sw3lb hp fr hf h3 hv ha
  ·by_cases ha:(putH s.h (idS s x:Nat) ⟨keyX x,valA x,true⟩).2=0/\0<idS s x
   ·exact sw3sa hp fr hf h3 hv ha.1 ha.2
   ·exact sw3sb hp fr hf h3 hv ha
 by_cases h4:x.what=4
 ·exact sw4 hp fr hf h4
 by_cases h5:x.what=5
 ·by_cases ha:x.a.tmod 4=0
  ·exact sw5a hp fr hf h5 ha
  ·exact sw5b hp fr hf h5 ha
 by_cases h6:x.what=6
 ·by_cases ha:0<s.h.net.way.length
  ·exact sw6a hp fr hf h6 ha
  ·exact sw6b hp fr hf h6 ha
 by_cases h7:x.what=7
 ·by_cases ha:0<s.h.net.way.length
  ·exact sw7a hp fr hf h7 ha
  ·exact sw7b hp fr hf h7 ha
 by_cases h8:x.what=8
 ·by_cases ha:0<s.h.net.way.length
  ·exact sw8a hp fr hf h8 ha
  ·exact sw8b hp fr hf h8 ha
 by_cases h9:x.what=9
 ·exact sw9 hp fr hf h9
 by_cases h10:x.what=10
 ·exact sw10 hp fr hf h10
 by_cases h11:x.what=11
 ·exact sw11 hp fr hf h11
 by_cases h12:x.what=12
 ·exact sw12 hp fr hf h12
 exact swN hp fr hf (fun k hk e=>by
  have:x.what=(k:Int):=e
  omega)
end
def tilJ(s:StoS)(j:Nat):StoS:={ s with txs:=s.txs.mapIdx fun i t=>if i<j/\t.til<0/\zDd s.h ((i:Int)+1)=3 then ⟨t.ops,t.frm,s.now⟩ else t }
theorem yIr(s:StoS):tilJ s 0=s:=by
 have:(s.txs.mapIdx fun i t=>if i<0/\t.til<0/\zDd s.h ((i:Int)+1)=3 then (⟨t.ops,t.frm,s.now⟩:TxD) else t)=s.txs:=by
  refine List.ext_getElem? fun i=>?_
  rw [List.getElem?_mapIdx]
  cases s.txs[i]? with
  | none=>rfl
  | some t=>simp
 unfold tilJ
 rw [this]
theorem yMr(s:StoS):tilJ s s.txs.length=tilS s:=by
 have:(s.txs.mapIdx fun i t=>if i<s.txs.length/\t.til<0/\zDd s.h ((i:Int)+1)=3 then (⟨t.ops,t.frm,s.now⟩:TxD) else t)=s.txs.mapIdx fun i t=>if t.til<0/\zDd s.h ((i:Int)+1)=3 then ⟨t.ops,t.frm,s.now⟩ else t:=by
  refine List.ext_getElem? fun i=>?_
  rw [List.getElem?_mapIdx,List.getElem?_mapIdx]
  cases hi:s.txs[i]? with
  | none=>rfl
  | some t=>
   have:=(List.getElem?_eq_some_iff.1 hi).1
   simp [this]
 unfold tilJ tilS
 rw [this]
theorem zLz(s:StoS)(j:Nat):(tilJ s j).txs.length=s.txs.length:=by simp [tilJ]
theorem yPu{s:StoS}{j:Nat}{t:TxD}(h:s.txs[j]?=some t):(tilJ s j).txs[j]?=some t:=by
 simp [tilJ,List.getElem?_mapIdx,h]
theorem yMq{s:StoS}{j:Nat}{t:TxD}(h:s.txs[j]?=some t)(h1:t.til<0)(h2:zDd s.h ((j:Int)+1)=3):tilJ s (j+1)={ tilJ s j with txs:=(tilJ s j).txs.set j ⟨t.ops,t.frm,s.now⟩ }:=by
 have:(s.txs.mapIdx fun i t=>if i<j+1/\t.til<0/\zDd s.h ((i:Int)+1)=3 then (⟨t.ops,t.frm,s.now⟩:TxD) else t)=(tilJ s j).txs.set j ⟨t.ops,t.frm,s.now⟩:=by
  refine List.ext_getElem? fun i=>?_
  rw [List.getElem?_set,zLz,List.getElem?_mapIdx]
  have hjl:=(List.getElem?_eq_some_iff.1 h).1
  by_cases e:j=i
  ·subst e
   rw [if_pos rfl,if_pos hjl,h,Option.map_some,if_pos ⟨by omega,h1,h2⟩]
  ·rw [if_neg e]
   simp only [tilJ,List.getElem?_mapIdx]
   cases s.txs[i]? with
   | none=>rfl
   | some u=>
    simp only [Option.map_some]
    congr 1
    by_cases q:i<j
    ·have:i<j+1:=by omega
     simp [q,this]
    ·have:¬ i<j+1:=by omega
     simp [q,this]
 show StoS.mk _ _ _ _ _=StoS.mk _ _ _ _ _
 rw [this]
 rfl
theorem yIs{s:StoS}{j:Nat}{t:TxD}(h:s.txs[j]?=some t)(h1:¬ (t.til<0/\zDd s.h ((j:Int)+1)=3)):tilJ s (j+1)=tilJ s j:=by
 have:(s.txs.mapIdx fun i t=>if i<j+1/\t.til<0/\zDd s.h ((i:Int)+1)=3 then (⟨t.ops,t.frm,s.now⟩:TxD) else t)=(tilJ s j).txs:=by
  refine List.ext_getElem? fun i=>?_
  simp only [tilJ,List.getElem?_mapIdx]
  by_cases e:j=i
  ·subst e
   simp only [h,Option.map_some]
   congr 1
   rw [if_neg (fun q=>h1 q.2),if_neg (fun q=>by omega)]
  ·cases s.txs[i]? with
   | none=>rfl
   | some u=>
    simp only [Option.map_some]
    congr 1
    by_cases q:i<j
    ·have:i<j+1:=by omega
     simp [q,this]
    ·have:¬ i<j+1:=by omega
     simp [q,this]
 show StoS.mk _ _ _ _ _=StoS.mk _ _ _ _ _
 rw [this]
 rfl
theorem StoP.setTilM{w:World}{n c gs g xb cap:Nat}{y:HLay}{vs:List Value}{s:StoS}(h:StoP w n c gs g y (.slice (some ⟨xb,0,none⟩) s.txs.length cap) vs s)(hgn:n<=gs){i:Nat}{t:TxD}(hi:s.txs[i]?=some t)(u:Int) :
  StoR w n c gs g y (.slice (some ⟨xb,0,none⟩) s.txs.length cap) vs { s with txs:=s.txs.set i ⟨t.ops,t.frm,u⟩ } (w.setCell ⟨xb,i*3+2,none⟩ (.int .i64 u)):=
 ⟨y,_,vs,h.setTil hgn hi u,⟨(Mod.setBlk xb _ _).mono (fun k _ e=>.inr (.inr (.inl (congrArg some (Eq.symm e))))),fun _ _=>rfl,fun _ _ e=>e⟩⟩
theorem StoR.quiet{w w1 w2:World}{n c gs g:Nat}{y:HLay}{xv:Value}{vs:List Value}{s':StoS}(h:StoR w n c gs g y xv vs s' w1)(hm:Mod zAb w1 w2):StoR w n c gs g y xv vs s' w2:=by
 obtain ⟨y',xv',vs',h1,h2⟩:=h
 exact ⟨y',xv',vs',h1.quiet hm,h2.trans (StoM.quiet hm)⟩
theorem StoR.step{w w1 w2:World}{n c gs g:Nat}{y y1:HLay}{xv xv1:Value}{vs vs1:List Value}{s':StoS}(h:StoM gs w y xv vs w1 y1 xv1 vs1)(k:StoR w1 n c gs g y1 xv1 vs1 s' w2):StoR w n c gs g y xv vs s' w2:=by
 obtain ⟨y',xv',vs',h1,h2⟩:=k
 exact ⟨y',xv',vs',h1,h.trans h2⟩
end Go.Proofs.YtmaiggbnceejiaaGreatDoor
namespace Go.Proofs.YtmaiggbnceejiaaGreatDoor
open Go.RowKit Go.Lib Go.Maps
def NMo(w:World)(n:Nat):Prop:=∃ nb no cap,0<n/\nb<n/\w.cell? ⟨0,0,none⟩=some (.slice (some ⟨nb,no,none⟩) 4 cap)/\∀ i,i<4->w.cell? ⟨nb,no+i,none⟩=some (.string (nameK i))
theorem NMo.mod{w w':World}{n:Nat}{G:Nat->Prop}(h:NMo w n)(hm:Mod G w w')(hG:∀ k,k<n->¬ G k):NMo w' n:=by
 obtain ⟨nb,no,cap,h0,h1,h2,h3⟩:=h
 exact ⟨nb,no,cap,h0,h1,hm.cell h2 (hG 0 h0),fun i hi=>hm.cell (h3 i hi) (hG nb h1)⟩
structure PlayOK(w:World)(n c m gs g:Nat)(y:HLay)(xv:Value)(vs:List Value)(s:StoS):Prop where
 sto:StoP w n c gs g y xv vs s
 ok:zTl m s
 nm:NMo w n
 et:ET w
 n1:1<n
 cc:c<=8000
 mm:m<=125
 lg:n<=gs
 now:0<=s.now/\s.now<=999
 opl:∀ t∈s.txs,t.ops.length<=m
theorem yMp(n c m gs g:Nat)(y:HLay)(xv:Value)(vs:List Value)(s:StoS)(w:World)(h:StoP w n c gs g y xv vs s)(hgn:n<=gs)(hl:s.txs.length<=7)(hh:s.h.txs.length<=60)(fr:Act)(hf:EndF fr gs)(h14:fr.tmps[14]?=some (.int .i64 0)){R:Act->World->Prop}
  (hN:∀ fr' wd,EndF fr' gs->StoR w n c gs g y xv vs (tilS s) wd->R fr' wd) :
  Code.wp Tryz.prog ((Tryz.f10.body.bind (zEg 2)).getD .skip) (zEf R) fr w:=by
 conv=>arg 2;whnf
 obtain ⟨f,hfr⟩:=hf.lit
 have h14':f 14=.int .i64 0:=by rw [hfr] at h14;exact Option.some.inj h14
 rw [h14'] at hfr
 subst hfr
 have HN:=Hmq hN
 have HH:Hid (StoR w n c gs g y xv vs (tilJ s 0) w):=by unfold Hid;rw [yIr];exact ⟨y,xv,vs,h,StoM.quiet (Mod.refl _ _)⟩
 clear h hf h14 h14' hN
 go_wp2_with fail
 go_loopw [14] (fun j0 wr=>∃ j:Nat,j<=s.txs.length/\j0=.int .i64 j/\StoR w n c gs g y xv vs (tilJ s j) wr) (fun j0 _=>s.txs.length - (intOf j0).toNat)
 case atStart=>exact ⟨0,Nat.zero_le _,rfl,HH.out⟩
 case round=>
  obtain ⟨j,hjl,rfl,hR⟩:=hrel
  clear HH
  obtain ⟨y1,xv1,vs1,hP,hM⟩:=hR
  obtain ⟨xa,xcap,hxv⟩:=zAf hP.row.2
  rw [zLz] at hxv
  subst hxv
  obtain ⟨c0,c1,c2,-,-⟩:=blkS hP.blk
  have zg:=hP.blk.lt
  dsimp only [tilJ] at c2
  have HHS:Hid (∀ id,Calls Tryz.prog 11 #[.pointer (some ⟨g,0,none⟩),.int .i64 id] wr fun e w'=>e=.returned (.int .i64 (zDd s.h id))/\w'=wr):=fun id=>zJs n c g y1 s.h id wr hP.house hh
  by_cases hjlt:j<s.txs.length
  ·obtain ⟨t,ht⟩:∃ t,s.txs[j]?=some t:=⟨_,List.getElem?_eq_getElem hjlt⟩
   have htj:=yPu ht
   obtain ⟨xb,cap',hx⟩:=hP.x_slice htj
   rw [zLz] at hx
   simp only [Value.slice.injEq] at hx
   obtain ⟨rfl,-,rfl⟩:=hx
   obtain ⟨u,hu⟩:∃ u,vs1[j]?=some u:=⟨_,List.getElem?_eq_getElem (by rw [hP.row.1,zLz];exact hjlt)⟩
   have hrow:=hP.row.2
   rw [zLz] at hrow
   have ct:wr.cell? ⟨xb,j*3+2,none⟩=some (.int .i64 t.til):=by
    have:=hrow.cells (g:=xb) rfl _ _ (zHs _ vs1 j t u hP.row.1 htj hu 2 _ rfl)
    rw [Go.WideShapes.add_plain,Nat.zero_add] at this
    exact this
   have hx:(Value.slice (some ⟨xb,0,none⟩) s.txs.length xcap).ownBlock=some xb:=rfl
   obtain ⟨_,zx,cur',hc'⟩:=zAh hrow hx
   have fx:wr.frozen? ⟨xb,j*3+2,none⟩=false:=by simp [World.frozen?,hc']
   have hjI:(j:Int)<(s.txs.length:Int):=by omega
   have hj0:(0:Int)<=(j:Int):=by omega
   have ew:wrap64 ((j:Int)+1)=(j:Int)+1:=IntWalk.wrap64_in _ ⟨by omega,by omega⟩
   have HP:=Hmq hP
   have HM:=Hmq hM
   have HT:=Hmq ht
   have HTJ:=Hmq htj
   clear hP hM ht htj hu hrow hx hc'
   by_cases h1:t.til<0
   ·have hb1:decide (t.til<0)=true:=decide_eq_true h1
    by_cases h2:zDd s.h ((j:Int)+1)=3
    ·have HQ:Hid (StoR w n c gs g y xv vs (tilJ s (j+1)) (wr.setCell ⟨xb,j*3+2,none⟩ (.int .i64 s.now))):=by
      unfold Hid
      rw [yMq HT.out h1 h2]
      refine StoR.step HM.out ?_
      have hp:=HP.out
      have e:=zLz s j
      rw [<-e] at hp ⊢
      exact hp.setTilM hgn HTJ.out s.now
     have hb2:(zDd s.h ((j:Int)+1) == 3)=true:=by simpa using h2
     clear h1 h2 HT HTJ HP HM
     go_wp2_with (first | (go_at_call 11;refine (HHS.out _).mono ?_;rintro e w' ⟨rfl,rfl⟩) | fail)
     refine wp_region_still_tail 11 (by kernel_rfl) (by kernel_rfl) ?_
     simp only [List.take_succ_cons,List.take_zero,List.drop_succ_cons,List.drop_zero]
     repeat still_step
     refine wpStill_nil ?_
     go_wp2_with fail
     go_roundw
     case rel=>exact ⟨j+1,by omega,by first | rfl | go_num,HQ.out.quiet ((Mod.refl _ _).drew)⟩
     case measure=>simp [intOf];omega
    ·have HQ:Hid (StoR w n c gs g y xv vs (tilJ s (j+1)) wr):=by
      unfold Hid
      rw [yIs HT.out (fun q=>h2 q.2)]
      exact ⟨y1,_,vs1,HP.out,HM.out⟩
     have hb2:(zDd s.h ((j:Int)+1) == 3)=false:=by simpa using h2
     clear h1 h2 HT HTJ HP HM
     go_wp2_with (first | (go_at_call 11;refine (HHS.out _).mono ?_;rintro e w' ⟨rfl,rfl⟩) | fail)
     go_roundw
     case rel=>exact ⟨j+1,by omega,by first | rfl | go_num,HQ.out⟩
     case measure=>simp [intOf];omega
   ·have hb1:decide (t.til<0)=false:=decide_eq_false h1
    have HQ:Hid (StoR w n c gs g y xv vs (tilJ s (j+1)) wr):=by
     unfold Hid
     rw [yIs HT.out (fun q=>h1 q.1)]
     exact ⟨y1,_,vs1,HP.out,HM.out⟩
    clear h1 HT HTJ HP HM
    go_wp2_with fail
    go_roundw
    case rel=>exact ⟨j+1,by omega,by first | rfl | go_num,HQ.out⟩
    case measure=>simp [intOf];omega
  ·obtain rfl:j=s.txs.length:=by omega
   have HQ:Hid (StoR w n c gs g y xv vs (tilS s) wr):=by unfold Hid;rw [<-yMr];exact ⟨y1,_,vs1,hP,hM⟩
   clear hP hM HHS
   go_wp2_with fail
   show R _ _
   exact HN.out _ _ ⟨rfl,rfl,rfl⟩ HQ.out
def PickF(x:ActD)(s2:StoS):Prop:=(∃ pt:Nat,(decide ((s2.txs.length:Int) > 0)=true/\0<s2.txs.length/\decide (0<s2.txs.length)=true)/\(∀ wq,Calls Tryz.prog 18 #[.int .i64 x.tx,.int .i64 s2.txs.length] wq fun e w'=>e=.returned (.int .i64 pt)/\w'=wq)/\wrap64 (1+(pt:Int))=1+(pt:Int)/\IntKind.i64.wrap (1+(pt:Int))=1+(pt:Int)/\Value.int .i64 (idS s2 x:Nat)=.int .i64 (1+(pt:Int))) \/
  (decide ((s2.txs.length:Int) > 0)=false/\s2.txs=[]/\¬ (0:Int)<(s2.txs.length:Int)/\Value.int .i64 (idS s2 x:Nat)=.int .i64 0)
theorem yGl(x:ActD)(s2:StoS)(hfew:s2.txs.length<=7):PickF x s2:=by
 by_cases ht:0<s2.txs.length
 ·have hpl:=zKc x.tx s2.txs.length ht
  refine .inl ⟨zDw x.tx s2.txs.length,⟨decide_eq_true (by omega),ht,decide_eq_true ht⟩,fun wq=>zHh x.tx s2.txs.length wq ht (by omega),IntWalk.wrap64_in _ ⟨by omega,by omega⟩,IntWalk.i64_in _ ⟨by omega,by omega⟩,?_⟩
  unfold idS
  rw [if_pos ht]
  exact congrArg (Value.int .i64) (by omega)
 ·refine .inr ⟨decide_eq_false (by omega),List.eq_nil_of_length_eq_zero (by omega),by omega,?_⟩
  unfold idS
  rw [if_neg ht]
  rfl
theorem yJq(n c m gs g:Nat)(y:HLay)(xv:Value)(vs:List Value)(s:StoS)(x:ActD)(w:World)(h:PlayOK w n c m gs g y xv vs s)(hv:okQ x.value) :
  Calls Tryz.prog 10 #[.pointer (some ⟨gs,0,none⟩),.agg #[.int .i64 x.what,.int .i64 x.tx,.int .i64 x.a,.string x.value]] w fun e w'=>e=.returned (.tuple #[])/\StoR w n (c+2) gs g y xv vs (zFy s x) w':=by
 obtain ⟨w1,hw1⟩:∃ z,z=w.alloc (.cells #[.int .i64 x.what,.int .i64 x.tx,.int .i64 x.a,.string x.value] 34):=⟨_,rfl⟩
 have hm1:Mod zAb w w1:=by rw [hw1];exact (Mod.refl _ w).alloc _
 have hb1:Blk w1 w.heap.size [.int .i64 x.what,.int .i64 x.tx,.int .i64 x.a,.string x.value] 34:=by rw [hw1];exact Blk.new w _ _
 have hs1:=h.sto.quiet hm1
 obtain ⟨c0,c1,c2,c3,c4⟩:=blkS hs1.blk
 have f2:=hs1.blk.frozen 2
 have zg:=hs1.blk.lt
 have hnow:=h.now
 have e1:wrap64 (s.now+1)=s.now+1:=IntWalk.wrap64_in _ ⟨by omega,by omega⟩
 obtain ⟨s2,hs2e⟩:∃ z:StoS,z={ s with now:=s.now+1 }:=⟨_,rfl⟩
 obtain ⟨w2,hw2⟩:∃ z,z=w1.setCell ⟨gs,2,none⟩ (.int .i64 (s.now+1)):=⟨_,rfl⟩
 have hs2:StoP w2 n c gs g y xv vs s2:=by rw [hw2,hs2e];exact hs1.tick h.lg _
 have hM2:StoM gs w y xv vs w2 y xv vs:=⟨by rw [hw2];exact (hm1.mono (fun _ _ e=>e.elim)).trans ((Mod.setBlk gs 2 _).mono (fun k _ e=>.inr (.inl e))),fun _ _=>rfl,fun _ _ e=>e⟩
 have hyb:y.own w.heap.size=.no:=by
  by_cases e:y.own w.heap.size=.no
  ·exact e
  ·have:=(h.sto.house.own.lt _ e).2;omega
 have hsb:¬ zIx gs xv vs w.heap.size:=fun e=>by have:=(h.sto.cells h.lg e).2.1;omega
 have hB0:w.heap.size≠gs:=fun e=>by have:=h.sto.blk.lt;omega
 have hb2:Blk w2 w.heap.size [.int .i64 x.what,.int .i64 x.tx,.int .i64 x.a,.string x.value] 34:=by rw [hw2];exact hb1.mod (Mod.setBlk gs 2 _) hB0
 have hlow:∀ k,k<n->¬ (y.own k≠.no\/zIx gs xv vs k):=fun k hk e=>by
  rcases e with e | e
  ·have:=(h.sto.house.own.lt k e).1;omega
  ·have:=(h.sto.cells h.lg e).1;omega
 have hET:ET w2:=hM2.md.cell h.et (hlow 1 h.n1)
 have hNM:NMo w2 n:=h.nm.mod hM2.md hlow
 have HPA:Hid (∀ wq,Mod zAb w2 wq->zCd wq n c m gs g y xv vs s2 w.heap.size x):=fun wq hq=>⟨hs2.quiet hq,by rw [hs2e];exact h.ok.clock _,hET.mod hq,h.n1,h.cc,h.mm,h.lg,by rw [hs2e];exact ⟨by show (0:Int)<=s.now+1;omega,by show s.now+1<=(1000:Int);omega⟩,hb2.mod hq (fun e=>e),hyb,hsb,hv,by rw [hs2e];exact h.opl⟩
 obtain ⟨nb,no,ncap,n0,n1,n2,n3⟩:=hNM
 have hka:=zKc x.a 4 (by omega)
 have n4:=n3 (zDw x.a 4) hka
 have HKEY:Hid (keyX x=nameK (zDw x.a 4)):=rfl
 have HPK:Hid (∀ wq,Calls Tryz.prog 18 #[.int .i64 x.a,.int .i64 4] wq fun e w'=>e=.returned (.int .i64 (zDw x.a 4))/\w'=wq):=fun wq=>zHh x.a 4 wq (by omega) (by omega)
 obtain ⟨pk,hpk⟩:∃ z,z=zDw x.a 4:=⟨_,rfl⟩
 rw [<-hpk] at hka n4 HKEY HPK
 have hkI:(pk:Int)<4:=by omega
 have hk0:(0:Int)<=(pk:Int):=by omega
 obtain ⟨xa,xcap,hxv⟩:=zAf hs2.row.2
 have HXV:=Hmq hxv
 have HS2:Hid (s2={ s with now:=s.now+1 }):=hs2e
 obtain ⟨d0,d1,d2,d3,d4⟩:=blkS hs2.blk
 rw [hxv] at d1
 have zg2:=hs2.blk.lt
 have x0:=hb2.cell 0 rfl
 have x1:=hb2.cell 1 rfl
 have x2:=hb2.cell 2 rfl
 have zx:=hb2.lt
 have hfew:s2.txs.length<=7:=by rw [hs2e];exact h.ok.few
 have HX:Hid (PickF x s2):=yGl x s2 hfew
 have HM2:=Hmq hM2
 have HOK:=Hmq h.ok
 have HLG:=Hmq h.lg
 clear h hs1 hb1 hm1 hs2 hb2 hM2 hyb hsb hB0 hlow hET n3 hxv hs2e hpk hv
 go_enter Tryz.func10,Tryz.ntmps10
 go_upto_region 1 with fail
 rw [<-hw1]
 clear hw1
 go_upto_region 2 with fail
 rw [<-hw2]
 clear hw2 c0 c1 c2 c3 c4 f2 zg
 go_upto_if 27 with fail
 go_cut [4] (fun t wc=>t=.int .i64 (idS s2 x:Nat)/\Mod zAb w2 wc)
 case first=>
  rcases HX.out with ⟨pt,⟨hb,hb0,hb1⟩,HP,ew,ew2,he⟩ | ⟨hb,hb4,hb5,he⟩
  ·have HP:=Hmq HP
   have HE:=Hmq he
   clear he
   go_upto_region 4 with fail
   refine wp_region_still_tail 9 (by kernel_rfl) (by kernel_rfl) ?_
   simp only [List.take_succ_cons,List.take_zero,List.drop_succ_cons,List.drop_zero]
   repeat still_step
   still_call (HP.out _)
   repeat still_step
   refine wpStill_nil ?_
   go_wp2_with fail
   go_meet
   case rel=>exact ⟨HE.out.symm,(Mod.refl _ w2).drew⟩
  ·have HE:=Hmq he
   clear he
   go_wp2_with fail
   go_meet
   case rel=>exact ⟨HE.out.symm,Mod.refl _ w2⟩
 case rest=>
  obtain ⟨rfl,hmc⟩:=hcut
  have y0:=hmc.cell x0 id
  have y1:=hmc.cell x1 id
  have y2:=hmc.cell x2 id
  have m2:=hmc.cell n2 id
  have m4:=hmc.cell n4 id
  have HMC:=Hmq hmc
  clear x0 x1 x2 d0 d1 d2 d3 d4 hmc n2 n4 HX
  go_upto_region 5 with fail
  refine wp_region_still_tail 8 (by kernel_rfl) (by kernel_rfl) ?_
  simp only [List.take_succ_cons,List.take_zero,List.drop_succ_cons,List.drop_zero]
  repeat still_step
  still_call (HPK.out _)
  repeat still_step
  refine wpStill_nil ?_
  rw [<-HKEY.out]
  have HPA':=Hmq (HPA.out _ HMC.out.drew)
  go_upto_block 0 with fail
  refine wp_mono (Q:=zEf ?R2) (sw_any HPA'.out _ ⟨⟨rfl,rfl,rfl⟩,rfl,rfl,rfl,rfl⟩ ?R2 ?hN) ?hE
  case hE=>
   intro e a' wd hq
   cases e with
   | normal=>exact hq
   | ret=>exact hq.elim
   | exit id=>exact hq.elim
   | goto l=>exact hq.elim
   | panic ch=>exact hq.elim
   | outgrown=>exact hq.elim
  case hN=>
   intro fr' wd hf' hr
   rename_i Kc hKc
   refine hKc _ _ ?_
   clear hKc
   obtain ⟨yA,xv1,vs1,hP1,hM1⟩:=hr
   obtain ⟨a1,a2,a3,a4,a5,a6,a7,a8⟩:=yFi (HPA'.out.ok) x
   have HMX:Hid (StoM gs w y xv vs wd yA xv1 vs1):=(HM2.out.trans (StoM.quiet HMC.out.drew)).trans hM1
   have HTI:=Hmq hP1
   have HFW:=Hmq a5
   have HFH:Hid ((armS s2 x).h.txs.length<=60):=by unfold Hid;omega
   clear a1 a2 a3 a4 a5 a6 a7 a8 hP1 hM1 y0 y1 y2 m2 m4 HPA HPA' HPK
   obtain ⟨f,rfl⟩:=hf'.lit
   clear hf'
   go_upto_block 2 with fail
   refine wp_mono (Q:=zEf ?R3) (yMp n (c+2) m gs g _ xv1 vs1 _ wd HTI.out HLG.out HFW.out HFH.out _ ⟨rfl,rfl,rfl⟩ rfl (R:=?R3) ?hN) ?hE
   case hE=>
    intro e a' wd hq
    cases e with
    | normal=>exact hq
    | ret=>exact hq.elim
    | exit id=>exact hq.elim
    | goto l=>exact hq.elim
    | panic ch=>exact hq.elim
    | outgrown=>exact hq.elim
   case hN=>
    intro fr2 we hf2 hr2
    have HF:Hid (StoR w n (c+2) gs g y xv vs (zFy s x) we):=by
     have:=StoR.step HMX.out hr2
     rw [HS2.out] at this
     exact this
    exact ⟨hf2.df,_,results_none rfl _ _ _,rfl,HF.out⟩
theorem StoP.besideM{w w':World}{n c gs g:Nat}{y:HLay}{xv:Value}{vs:List Value}{s:StoS}{G:Nat->Prop}(h:StoP w n c gs g y xv vs s)(hm:Mod G w w')(hq:Qm w (y.lo n) G)(hG:∀ k,k<w.heap.size->G k->y.own k=.no/\¬ zIx gs xv vs k):StoP w' n c gs g y xv vs s:=by
 have lt:∀ {v:Value} {B sz m:Nat} {e:TypeId} {xs:List Value},w.ownsRow B e sz v m xs->∀ k,v.ownBlock=some k->k<w.heap.size:=fun hr k hk=>(zAh hr hk).2.1
 refine ⟨h.blk.mod hm (fun e=>(hG gs h.blk.lt e).2 (.inl rfl)),h.house.beside hm hq (fun k hk e=>(hG k hk e).1),h.row.mod hm (fun k hk e=>(hG k (lt h.row.2 k hk) e).2 (.inr (.inl hk))),fun i t u hi hu=>(h.ops i t u hi hu).mod hm (fun k hk e=>?_),h.no,h.nox,h.noo,h.apart⟩
 exact (hG k (lt (h.ops i t u hi hu) k hk) e).2 (.inr (.inr ⟨u,List.mem_of_getElem? hu,hk⟩))
structure zLx(w:World)(n c gs g db ob nD nO:Nat)(y:HLay)(xv:Value)(vs:List Value)(s:StoS)(sc:Scan):Prop where
 sto:StoP w n c gs g y xv vs s
 maps:zIr w db ob nD nO sc
 ne:db≠ob
 ln:n<=db/\n<=ob/\n<=w.heap.size
 fd:y.own db=.no/\¬ zIx gs xv vs db
 fo:y.own ob=.no/\¬ zIx gs xv vs ob
theorem zLx.turn{w w':World}{n c gs g db ob nD nO nD' nO':Nat}{y:HLay}{xv:Value}{vs:List Value}{s:StoS}{sc sc':Scan}(h:zLx w n c gs g db ob nD nO y xv vs s sc)(hm:Mod (twoB db ob) w w')(hM:zIr w' db ob nD' nO' sc'):zLx w' n c gs g db ob nD' nO' y xv vs s sc':=
 ⟨h.sto.besideM hm (h.maps.qm (L:=y.lo n) ⟨h.ln.1,h.ln.2.1⟩) (fun k _ e=>by rcases e with rfl | rfl;exact h.fd;exact h.fo),hM,h.ne,⟨h.ln.1,h.ln.2.1,Nat.le_trans h.ln.2.2 hm.size⟩,h.fd,h.fo⟩
theorem zLx.quiet{w w':World}{n c gs g db ob nD nO:Nat}{y:HLay}{xv:Value}{vs:List Value}{s:StoS}{sc:Scan}(h:zLx w n c gs g db ob nD nO y xv vs s sc)(hm:Mod zAb w w'):zLx w' n c gs g db ob nD nO y xv vs s sc:=h.turn (hm.mono (fun _ _ e=>e.elim)) (h.maps.quiet hm)
theorem zPt{h:zAa}(hS:Safe h){k:Nat}(hk:k<h.lines.length):(zGx h k).length<=4/\(∀ l∈zGx h k,l.length<=1000)/\(zGx h k).Pairwise fun a b=>b <+: a:=by
 refine ⟨?_,fun l hl=>?_,yKa hS hk⟩
 ·have h1:=hS.shape.nl _ (zKi hk)
  have h2:(zAj h k).length<=(h.line k).nodes.length:=List.length_filter_le _ _
  show ((zAj h k).map _).length<=4
  rw [List.length_map]
  omega
 ·obtain ⟨x,hx,rfl⟩:=List.mem_map.1 hl
  have:=(hS.line k hk).few x (List.mem_filter.1 hx).1
  omega
structure yMe(w:World)(n c gs g db ob nD nO:Nat)(y:HLay)(xv:Value)(vs:List Value)(s:StoS)(S:Nat->Scan)(i:Nat)(wr:World):Prop where
 md:Mod (twoB db ob) w wr
 ex:∃ nD' nO',zLx wr n c gs g db ob nD' nO' y xv vs s (S i)/\nD'<=nD+4000*i/\nO'<=nO+4000*i
theorem lines2(c0 c1 c2 c3 c4 c5 c6 c10 c12 c13 c14 c15 c16 c17 c18 c19 c20 c21 c22 c23 c24 c25 c26 c27 c28 c29 c30 c31 c32 c33 c34 c35 c36 c37 c38 c39 c40 c41 c42 c43 c44 c45 c46 c47 c48 c49 c50 c51 c52 c53 c54 c55 c56 c57 c58 c59 c60 c61 c62 c63 c64 c65 c66 c67 c68 c69 c70 c71 c72 c73 c74 c75 c76 c77 c78 c79 c80 c81 c82 c83 c84 c85 c86 c87 c88 c89 c90 c91 c92 c93 c94 c95 c96 c97 c98 c99 c100 c101 c102 c103 c104 c105 c106 c107 c108 c109 c110 c111 c112 c113 c114 c115 c116 c117 c118 c119 c120 c121 c122 c123 c124 c125 c126 c127 c128 c129 c130 c131 c132 c133 c134 c135 c136 c137 c138 c139 c140 c141 c142 c143 c144 c145 c146 c147 c148 c149 c150 c151 c152 c153 c154 c155 c156 c157 c158 c159 c160:Value)(n c gs g db ob nD nO:Nat)(y:HLay)(xv:Value)(vs:List Value)(s:StoS)(S:Nat->Scan)(w:World)(hP:zLx w n c gs g db ob nD nO y xv vs s (S 0))(hS:Safe s.h)(h3:s.h.lines.length=3)(h2:zCy true (zGx s.h 2) (S 0)=some (S 1))(h1:zCy false (zGx s.h 1) (S 1)=some (S 2))(h0:zCy false (zGx s.h 0) (S 2)=some (S 3))(hn:nD<=800000/\nO<=800000){R:Act->World->Prop}
  (hN:∀ (u4 u11 u12 u13 u14 u15 u17 u57 u58 u59 u60 u61 u62 u63 u64 u65 u66 u67 u68 u69 u70 u71 u72 u73 u74 u75 u76 u77 u78 u79 u80 u81 u82 u83 u84 u85 u86 u87 u88 u89 u90 u91 u92 u93 u94 u95 u96 u97 u98 u99 u100 u101 u102 u103 u104 u105 u106 u107 u108 u109 u110 u111 u112 u113 u114 u115 u116 u117 u118 u119 u120 u121 u122 u123 u124 u125 u126 u127 u128 u129 u130 u131 u132 u133 u134 u135 u136 u137 u138 u139 u140 u141 u142 u143 u144 u145 u146 u147 u148 u149 u150 u151 u152 u153 u154 u155 u156 u157 u158 u159 u160:Value) (wd:World),Mod (twoB db ob) w wd->(∃ nD' nO',nD'<=nD+12000/\nO'<=nO+12000/\zLx wd n c gs g db ob nD' nO' y xv vs s (S 3))->R ⟨#[c0,c1,c2,c3,u4,c5,c6,.pointer (some ⟨gs,0,none⟩),.map (some db),.map (some ob),c10,u11,u12,u13,u14,u15,c16,u17,c18,c19,c20,c21,c22,c23,c24,c25,c26,c27,c28,c29,c30,c31,c32,c33,c34,c35,c36,c37,c38,c39,c40,c41,c42,c43,c44,c45,c46,c47,c48,c49,c50,c51,c52,c53,c54,c55,c56,u57,u58,u59,u60,u61,u62,u63,u64,u65,u66,u67,u68,u69,u70,u71,u72,u73,u74,u75,u76,u77,u78,u79,u80,u81,u82,u83,u84,u85,u86,u87,u88,u89,u90,u91,u92,u93,u94,u95,u96,u97,u98,u99,u100,u101,u102,u103,u104,u105,u106,u107,u108,u109,u110,u111,u112,u113,u114,u115,u116,u117,u118,u119,u120,u121,u122,u123,u124,u125,u126,u127,u128,u129,u130,u131,u132,u133,u134,u135,u136,u137,u138,u139,u140,u141,u142,u143,u144,u145,u146,u147,u148,u149,u150,u151,u152,u153,u154,u155,u156,u157,u158,u159,u160],[]⟩ wd) :
  Code.wp Tryz.prog ((Tryz.f5.body.bind (zEg 2)).getD .skip) (zEf R) ⟨#[c0,c1,c2,c3,c4,c5,c6,.pointer (some ⟨gs,0,none⟩),.map (some db),.map (some ob),c10,.int .i64 2,c12,c13,c14,c15,c16,c17,c18,c19,c20,c21,c22,c23,c24,c25,c26,c27,c28,c29,c30,c31,c32,c33,c34,c35,c36,c37,c38,c39,c40,c41,c42,c43,c44,c45,c46,c47,c48,c49,c50,c51,c52,c53,c54,c55,c56,c57,c58,c59,c60,c61,c62,c63,c64,c65,c66,c67,c68,c69,c70,c71,c72,c73,c74,c75,c76,c77,c78,c79,c80,c81,c82,c83,c84,c85,c86,c87,c88,c89,c90,c91,c92,c93,c94,c95,c96,c97,c98,c99,c100,c101,c102,c103,c104,c105,c106,c107,c108,c109,c110,c111,c112,c113,c114,c115,c116,c117,c118,c119,c120,c121,c122,c123,c124,c125,c126,c127,c128,c129,c130,c131,c132,c133,c134,c135,c136,c137,c138,c139,c140,c141,c142,c143,c144,c145,c146,c147,c148,c149,c150,c151,c152,c153,c154,c155,c156,c157,c158,c159,c160],[]⟩ w:=by
 conv=>arg 2;whnf
 have HN:=Hmq hN
 have H0:Hid (yMe w n c gs g db ob nD nO y xv vs s S 0 w):=⟨Mod.refl _ _,nD,nO,hP,by omega,by omega⟩
 have HS:=Hmq hS
 have HT:Hid (zCy true (zGx s.h 2) (S 0)=some (S 1)/\zCy false (zGx s.h 1) (S 1)=some (S 2)/\zCy false (zGx s.h 0) (S 2)=some (S 3)):=⟨h2,h1,h0⟩
 have HNE:=Hmq hP.ne
 clear hN hP hS h2 h1 h0
 go_wp2_with fail
 go_loopw [11] (fun k0 wr=>∃ i:Nat,i<=3/\k0=.int .i64 (2 - (i:Int))/\yMe w n c gs g db ob nD nO y xv vs s S i wr) (fun k0 _=>(intOf k0+1).toNat)
 case atStart=>exact ⟨0,by omega,rfl,H0.out⟩
 case round=>
  obtain ⟨i,hil,rfl,hC⟩:=hrel
  clear H0
  obtain ⟨hmd,nDi,nOi,hPi,hnd,hno⟩:=hC
  obtain ⟨c0',-⟩:=blkS hPi.sto.blk
  have zg:=hPi.sto.blk.lt
  have HPI:=Hmq hPi
  have HMD:=Hmq hmd
  clear hPi hmd
  rcases (show i=3\/i=0\/i=1\/i=2 by omega) with rfl | rfl | rfl | rfl
  ·have HF:Hid (∃ nD' nO',nD'<=nD+12000/\nO'<=nO+12000/\zLx wr n c gs g db ob nD' nO' y xv vs s (S 3)):=⟨nDi,nOi,by omega,by omega,HPI.out⟩
   rw [show (2:Int) - ((3:Nat):Int) = -1 by omega]
   go_wp2_with fail
   show R _ _
   apply HN.out
   ·exact HMD.out
   ·exact HF.out
  ·rw [show (2:Int) - ((0:Nat):Int)=2 by omega]
   have HLG:Hid (Calls Tryz.prog 21 #[.pointer (some ⟨g,0,none⟩),.int .i64 2] wr fun e w'=>∃ v,e=.returned (.tuple #[v,.nilIface])/\RowL w' wr.heap.size (y.lo n) v (zGx s.h 2)/\Mod zAb wr w'):=zRb n c g y s.h 2 wr HPI.out.sto.house HS.out (by omega)
   obtain ⟨lf1,lf2,lf3⟩:=zPt HS.out (k:=2) (by omega)
   have HLF:=Hmq lf2
   have HLP:=Hmq lf3
   obtain ⟨lg,hlg⟩:∃ z,z=zGx s.h 2:=⟨_,rfl⟩
   have HSC:Hid (zCy true lg (S 0)=some (S 1)):=by unfold Hid;rw [hlg];exact HT.out.1
   rw [<-hlg] at HLG lf1 HLF HLP
   clear lf2 lf3 hlg
   go_wp2_with fail
   refine HLG.out.mono ?_
   rintro e w1 ⟨v,rfl,hrl,hm1⟩
   obtain ⟨vs1,hv1,hv2,hv3⟩:=hrl
   obtain ⟨va,vcap,hva⟩:=zAf hv2
   subst hva
   have HP1:=Hmq (HPI.out.quiet hm1)
   have HRL:Hid (RowL w1 wr.heap.size (y.lo n) (.slice va lg.length vcap) lg):=⟨vs1,hv1,hv2,hv3⟩
   have HM1:Hid (Mod (twoB db ob) w w1):=HMD.out.trans (hm1.mono (fun _ _ e=>e.elim))
   have HLO:Hid ((y.lo n).n<=db/\(y.lo n).n<=ob):=⟨HP1.out.ln.1,HP1.out.ln.2.1⟩
   have HLW:Hid ((y.lo n).n<=w1.heap.size):=HP1.out.ln.2.2
   have HNN:Hid (nDi<=900000/\nOi<=900000):=⟨by omega,by omega⟩
   have HFIN:Hid (∀ wd,Mod (twoB db ob) w1 wd->(∃ nD' nO',nD'<=nDi+4000/\nO'<=nOi+4000/\zIr wd db ob nD' nO' (S 1))->yMe w n c gs g db ob nD nO y xv vs s S 1 wd):=fun wd hq ⟨nD',nO',e1,e2,e3⟩=>⟨HM1.out.trans hq,nD',nO',HP1.out.turn hq e3,by omega,by omega⟩
   clear hm1 hv1 hv2 hv3 HLG HPI HMD c0' zg
   go_upto_block 4 with fail
   refine wp_mono (Q:=zEf ?R20) (logs4d _ _ _ _ _ _ _ _ _ _ _ _ _ _ _ _ _ _ _ _ _ _ _ _ _ _ _ _ _ _ _ _ _ _ _ _ _ _ _ _ _ _ _ _ _ _ _ _ _ _ _ _ _ _ _ _ _ _ _ _ _ _ _ _ _ _ _ _ _ _ _ _ _ _ _ _ _ _ _ _ _ _ _ _ _ _ _ _ _ _ _ _ _ _ _ _ _ _ _ _ _ _ _ _ _ _ _ _ _ _ _ _ _ _ _ _ _ _ _ _ _ _ _ _ _ _ _ _ _ _ _ _ _ _ _ _ _ _ _ _ _ _ _ _ _ _ _ _ _ _ _ _ _ _ _ _ db ob nDi nOi wr.heap.size (y.lo n) va vcap lg (S 0) (S 1) w1 HP1.out.maps HNE.out HLO.out HLW.out HRL.out HSC.out HLP.out lf1 HLF.out HNN.out (R:=?R20) ?hN0) ?hE0
   case hE0=>
    intro e a' wd hq
    cases e with
    | normal=>exact hq
    | ret=>exact hq.elim
    | exit id=>exact hq.elim
    | goto l=>exact hq.elim
    | panic ch=>exact hq.elim
    | outgrown=>exact hq.elim
   case hN0=>
    intro v4 v14 v15 v17 v72 v73 v74 v75 v76 v77 v78 v79 v80 v81 v82 v83 v84 v85 v86 v87 v88 v89 v90 v91 v92 v93 v94 v95 v96 v97 v98 v99 v100 v101 v102 v103 v104 v105 v106 v107 v108 v109 v110 v111 v112 v113 v114 v115 v116 v117 v118 v119 v120 v121 v122 v123 v124 v125 v126 v127 v128 v129 v130 v131 v132 v133 v134 v135 v136 v137 v138 v139 v140 v141 v142 v143 v144 v145 v146 v147 v148 v149 v150 v151 v152 v153 v154 v155 v156 v157 v158 v159 v160 wd hmd' hex
    have HI:=Hmq (HFIN.out wd hmd' hex)
    clear hmd' hex HFIN
    rename_i Kc hKc
    refine hKc _ _ ?_
    clear hKc Kc
    go_wp2_with fail
    go_roundw
    case rel=>exact ⟨1,by omega,by first | rfl | go_num,HI.out⟩
    case measure=>first | decide | (simp [intOf]) | (simp [intOf];omega)
  ·rw [show (2:Int) - ((1:Nat):Int)=1 by omega]
   have HLG:Hid (Calls Tryz.prog 21 #[.pointer (some ⟨g,0,none⟩),.int .i64 1] wr fun e w'=>∃ v,e=.returned (.tuple #[v,.nilIface])/\RowL w' wr.heap.size (y.lo n) v (zGx s.h 1)/\Mod zAb wr w'):=zRb n c g y s.h 1 wr HPI.out.sto.house HS.out (by omega)
   obtain ⟨lf1,lf2,lf3⟩:=zPt HS.out (k:=1) (by omega)
   have HLF:=Hmq lf2
   have HLP:=Hmq lf3
   obtain ⟨lg,hlg⟩:∃ z,z=zGx s.h 1:=⟨_,rfl⟩
   have HSC:Hid (zCy false lg (S 1)=some (S 2)):=by unfold Hid;rw [hlg];exact HT.out.2.1
   rw [<-hlg] at HLG lf1 HLF HLP
   clear lf2 lf3 hlg
   go_wp2_with fail
   refine HLG.out.mono ?_
   rintro e w1 ⟨v,rfl,hrl,hm1⟩
   obtain ⟨vs1,hv1,hv2,hv3⟩:=hrl
   obtain ⟨va,vcap,hva⟩:=zAf hv2
   subst hva
   have HP1:=Hmq (HPI.out.quiet hm1)
   have HRL:Hid (RowL w1 wr.heap.size (y.lo n) (.slice va lg.length vcap) lg):=⟨vs1,hv1,hv2,hv3⟩
   have HM1:Hid (Mod (twoB db ob) w w1):=HMD.out.trans (hm1.mono (fun _ _ e=>e.elim))
   have HLO:Hid ((y.lo n).n<=db/\(y.lo n).n<=ob):=⟨HP1.out.ln.1,HP1.out.ln.2.1⟩
   have HLW:Hid ((y.lo n).n<=w1.heap.size):=HP1.out.ln.2.2
   have HNN:Hid (nDi<=900000/\nOi<=900000):=⟨by omega,by omega⟩
   have HFIN:Hid (∀ wd,Mod (twoB db ob) w1 wd->(∃ nD' nO',nD'<=nDi+4000/\nO'<=nOi+4000/\zIr wd db ob nD' nO' (S 2))->yMe w n c gs g db ob nD nO y xv vs s S 2 wd):=fun wd hq ⟨nD',nO',e1,e2,e3⟩=>⟨HM1.out.trans hq,nD',nO',HP1.out.turn hq e3,by omega,by omega⟩
   clear hm1 hv1 hv2 hv3 HLG HPI HMD c0' zg
   go_upto_block 4 with fail
   refine wp_mono (Q:=zEf ?R21) (yPm 1 rfl _ _ _ _ _ _ _ _ _ _ _ _ _ _ _ _ _ _ _ _ _ _ _ _ _ _ _ _ _ _ _ _ _ _ _ _ _ _ _ _ _ _ _ _ _ _ _ _ _ _ _ _ _ _ _ _ _ _ _ _ _ _ _ _ _ _ _ _ _ _ _ _ _ _ _ _ _ _ _ _ _ _ _ _ _ _ _ _ _ _ _ _ _ _ _ _ _ _ _ _ _ _ _ _ _ _ _ _ _ _ _ _ _ _ _ _ _ _ _ _ _ _ _ _ _ _ _ _ _ _ _ _ _ _ _ _ _ _ _ _ _ _ _ _ _ _ _ _ _ _ _ _ _ _ _ _ db ob nDi nOi wr.heap.size (y.lo n) va vcap lg (S 1) (S 2) w1 HP1.out.maps HNE.out HLO.out HLW.out HRL.out HSC.out HLP.out lf1 HLF.out HNN.out (R:=?R21) ?hN1) ?hE1
   case hE1=>
    intro e a' wd hq
    cases e with
    | normal=>exact hq
    | ret=>exact hq.elim
    | exit id=>exact hq.elim
    | goto l=>exact hq.elim
    | panic ch=>exact hq.elim
    | outgrown=>exact hq.elim
   case hN1=>
    intro v4 v14 v15 v17 v72 v73 v74 v75 v76 v77 v78 v79 v80 v81 v82 v83 v84 v85 v86 v87 v88 v89 v90 v91 v92 v93 v94 v95 v96 v97 v98 v99 v100 v101 v102 v103 v104 v105 v106 v107 v108 v109 v110 v111 v112 v113 v114 v115 v116 v117 v118 v119 v120 v121 v122 v123 v124 v125 v126 v127 v128 v129 v130 v131 v132 v133 v134 v135 v136 v137 v138 v139 v140 v141 v142 v143 v144 v145 v146 v147 v148 v149 v150 v151 v152 v153 v154 v155 v156 v157 v158 v159 v160 wd hmd' hex
    have HI:=Hmq (HFIN.out wd hmd' hex)
    clear hmd' hex HFIN
    rename_i Kc hKc
    refine hKc _ _ ?_
    clear hKc Kc
    go_wp2_with fail
    go_roundw
    case rel=>exact ⟨2,by omega,by first | rfl | go_num,HI.out⟩
    case measure=>first | decide | (simp [intOf]) | (simp [intOf];omega)
  ·rw [show (2:Int) - ((2:Nat):Int)=0 by omega]
   have HLG:Hid (Calls Tryz.prog 21 #[.pointer (some ⟨g,0,none⟩),.int .i64 0] wr fun e w'=>∃ v,e=.returned (.tuple #[v,.nilIface])/\RowL w' wr.heap.size (y.lo n) v (zGx s.h 0)/\Mod zAb wr w'):=zRb n c g y s.h 0 wr HPI.out.sto.house HS.out (by omega)
   obtain ⟨lf1,lf2,lf3⟩:=zPt HS.out (k:=0) (by omega)
   have HLF:=Hmq lf2
   have HLP:=Hmq lf3
   obtain ⟨lg,hlg⟩:∃ z,z=zGx s.h 0:=⟨_,rfl⟩
   have HSC:Hid (zCy false lg (S 2)=some (S 3)):=by unfold Hid;rw [hlg];exact HT.out.2.2
   rw [<-hlg] at HLG lf1 HLF HLP
   clear lf2 lf3 hlg
   go_wp2_with fail
   refine HLG.out.mono ?_
   rintro e w1 ⟨v,rfl,hrl,hm1⟩
   obtain ⟨vs1,hv1,hv2,hv3⟩:=hrl
   obtain ⟨va,vcap,hva⟩:=zAf hv2
   subst hva
   have HP1:=Hmq (HPI.out.quiet hm1)
   have HRL:Hid (RowL w1 wr.heap.size (y.lo n) (.slice va lg.length vcap) lg):=⟨vs1,hv1,hv2,hv3⟩
   have HM1:Hid (Mod (twoB db ob) w w1):=HMD.out.trans (hm1.mono (fun _ _ e=>e.elim))
   have HLO:Hid ((y.lo n).n<=db/\(y.lo n).n<=ob):=⟨HP1.out.ln.1,HP1.out.ln.2.1⟩
   have HLW:Hid ((y.lo n).n<=w1.heap.size):=HP1.out.ln.2.2
   have HNN:Hid (nDi<=900000/\nOi<=900000):=⟨by omega,by omega⟩
   have HFIN:Hid (∀ wd,Mod (twoB db ob) w1 wd->(∃ nD' nO',nD'<=nDi+4000/\nO'<=nOi+4000/\zIr wd db ob nD' nO' (S 3))->yMe w n c gs g db ob nD nO y xv vs s S 3 wd):=fun wd hq ⟨nD',nO',e1,e2,e3⟩=>⟨HM1.out.trans hq,nD',nO',HP1.out.turn hq e3,by omega,by omega⟩
   clear hm1 hv1 hv2 hv3 HLG HPI HMD c0' zg
   go_upto_block 4 with fail
   refine wp_mono (Q:=zEf ?R22) (yPm 0 rfl _ _ _ _ _ _ _ _ _ _ _ _ _ _ _ _ _ _ _ _ _ _ _ _ _ _ _ _ _ _ _ _ _ _ _ _ _ _ _ _ _ _ _ _ _ _ _ _ _ _ _ _ _ _ _ _ _ _ _ _ _ _ _ _ _ _ _ _ _ _ _ _ _ _ _ _ _ _ _ _ _ _ _ _ _ _ _ _ _ _ _ _ _ _ _ _ _ _ _ _ _ _ _ _ _ _ _ _ _ _ _ _ _ _ _ _ _ _ _ _ _ _ _ _ _ _ _ _ _ _ _ _ _ _ _ _ _ _ _ _ _ _ _ _ _ _ _ _ _ _ _ _ _ _ _ _ db ob nDi nOi wr.heap.size (y.lo n) va vcap lg (S 2) (S 3) w1 HP1.out.maps HNE.out HLO.out HLW.out HRL.out HSC.out HLP.out lf1 HLF.out HNN.out (R:=?R22) ?hN2) ?hE2
   case hE2=>
    intro e a' wd hq
    cases e with
    | normal=>exact hq
    | ret=>exact hq.elim
    | exit id=>exact hq.elim
    | goto l=>exact hq.elim
    | panic ch=>exact hq.elim
    | outgrown=>exact hq.elim
   case hN2=>
    intro v4 v14 v15 v17 v72 v73 v74 v75 v76 v77 v78 v79 v80 v81 v82 v83 v84 v85 v86 v87 v88 v89 v90 v91 v92 v93 v94 v95 v96 v97 v98 v99 v100 v101 v102 v103 v104 v105 v106 v107 v108 v109 v110 v111 v112 v113 v114 v115 v116 v117 v118 v119 v120 v121 v122 v123 v124 v125 v126 v127 v128 v129 v130 v131 v132 v133 v134 v135 v136 v137 v138 v139 v140 v141 v142 v143 v144 v145 v146 v147 v148 v149 v150 v151 v152 v153 v154 v155 v156 v157 v158 v159 v160 wd hmd' hex
    have HI:=Hmq (HFIN.out wd hmd' hex)
    clear hmd' hex HFIN
    rename_i Kc hKc
    refine hKc _ _ ?_
    clear hKc Kc
    go_wp2_with fail
    go_roundw
    case rel=>exact ⟨3,by omega,by first | rfl | go_num,HI.out⟩
    case measure=>first | decide | (simp [intOf]) | (simp [intOf];omega)
end Go.Proofs.YtmaiggbnceejiaaGreatDoor
