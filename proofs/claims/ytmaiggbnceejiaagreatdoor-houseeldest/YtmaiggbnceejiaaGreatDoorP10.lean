import Derived.Test.YtmaiggbnceejiaaGreatDoorP09
import Derived.Maps.StringElems
import Derived.Maps.RangeWalk
import Derived.ChangeMaps5
set_option linter.unusedVariables false
set_option maxRecDepth 100000
set_option maxHeartbeats 16000000
namespace Go.Proofs.YtmaiggbnceejiaaGreatDoor
open Go.RowKit Go.Lib Go.Maps
def yY(x:List dg × List dg × List dg)(c:dg):List dg × List dg × List dg:=if pD x.1 x.2.1 c then (jM x.1 c,x.2.1,x.2.2++[c]) else (x.1,x.2.1++[c],x.2.2)
theorem Tl:∀ (q held kept got:List dg),q.foldl yY (held,kept,got)=((iw held kept q).1,(iw held kept q).2.1,got++(iw held kept q).2.2)
 | [],held,kept,got=>by simp [iw]
 | c :: q,held,kept,got=>by
  rw [cM];by_cases h:pD held kept c=true
  ·rw [show yY (held,kept,got) c=(jM held c,kept,got++[c]) by simp [yY,h],Tl q];simp [iw,h]
  ·rw [show yY (held,kept,got) c=(held,kept++[c],got) by simp [yY,h],Tl q];simp [iw,h]
theorem fI.snoc{w w':World}{B n:Nat}{u:Value}{l:List dg}{c:dg}(hn:n=l.length)(h:w'.ownsRow B 170 2 u (n+1) (fF l++fZ c)):fI w' B u (l++[c]):=by
 subst hn;unfold fI;rw [Lr,Lt,aD];exact h
theorem zSa(c:dg):∀ u∈fZ c,u.oneCell'=true:=by
 intro u hu;simp [fZ] at hu;rcases hu with rfl | rfl <;> rfl
structure yS(w wr:World)(B kb:Nat)(hv:Value)(held waits:List dg)(k:Nat)(gv hv' iJ:Value)(H K G:List dg):Prop where
 fold:(waits.take k).foldl yY (held,[],[])=(H,K,G)
 ky:Hz wr B kb hv' iJ H K
 got:fI wr B gv G
 ku:jl H
 ga:∀ x,gv.ownBlock=some x->hv'.ownBlock≠some x/\iJ.ownBlock≠some x
 ha:hv'.ownBlock=hv.ownBlock\/∀ x,hv'.ownBlock=some x->w.heap.size<=x
 wa:∀ x,iJ.ownBlock=some x->w.heap.size<=x
 gn:∀ x,gv.ownBlock=some x->w.heap.size<=x
 hl:H.length<=held.length+k
 kl:K.length<=k
 gl:G.length<=k
 md:Mod (fun x=>x=kb\/hv.ownBlock=some x) w wr
theorem yCm{waits:List dg}{k:Nat}{c:dg}{x y:List dg × List dg × List dg}{s:List dg × List dg × List dg}(hc:waits[k]?=some c)(h:(waits.take k).foldl yY s=x)(hy:yY x c=y):(waits.take (k+1)).foldl yY s=y:=by
 rw [qP hc,aX,h];exact hy
theorem yS.wait{w wr w3 w6:World}{B kb:Nat}{hv:Value}{held waits:List dg}{k:Nat}{gv hv' iJ u:Value}{H K G:List dg}{c:dg}(h:yS w wr B kb hv held waits k gv hv' iJ H K G)(hc:waits[k]?=some c)(hf:pD H K c=false)(dz:Mod dZ wr w3)(hw:w.heap.size<=wr.heap.size)
  (hu:fI w6 B u (K++[c])) (fq:Mod (fun x=>iJ.ownBlock=some x) w3 w6) (hat:u.ownBlock=iJ.ownBlock\/∀ x,u.ownBlock=some x->w3.heap.size<=x) :
  yS w (w6.setCell ⟨kb,1,none⟩ u) B kb hv held waits (k+1) gv hv' u H (K++[c]) G:=by
 have ix:Mod (eF kb) w6 (w6.setCell ⟨kb,1,none⟩ u):=Mod.dq kb 1 u;have z3:=dz.size;have zX:=wW h.ky.blk h.ky.w;have hkh:=wW h.ky.blk h.ky.h;have hkg:=wW h.ky.blk h.got;have hb3:=h.ky.blk.mod dz id;have nO:=hb3.mod fq zX;have zF:∀ x,u.ownBlock=some x->iJ.ownBlock=some x\/w3.heap.size<=x:=fun x hx=>by
  rcases hat with e | e
  ·exact .inl (by rw [<-e];exact hx)
  ·exact .inr (e x hx)
 have hlt:∀ {v:Value} {l:List dg},fI wr B v l->∀ x,v.ownBlock=some x->x<w3.heap.size:=fun hr x hx=>aG (mM hr hx).2.1 z3;have hh:fI (w6.setCell ⟨kb,1,none⟩ u) B hv' H:=((h.ky.h.mod dz (fun _ _=>id)).mod fq (fun x hx e=>h.ky.ne x hx e)).mod ix (fun x hx e=>by simp only [eF] at e;rw [e] at hx;exact hkh hx);have hg:fI (w6.setCell ⟨kb,1,none⟩ u) B gv G:=((h.got.mod dz (fun _ _=>id)).mod fq (fun x hx e=>(h.ga x hx).2 e)).mod ix (fun x hx e=>by simp only [eF] at e;rw [e] at hx;exact hkg hx);refine ⟨yCm hc h.fold (by unfold yY;simp [hf]),⟨nO.set 1 u,hh,hu.mod ix (fun x hx e=>?_),fun x hx e=>?_⟩,hg,h.ku,fun x hx=>⟨(h.ga x hx).1,fun e=>?_⟩,h.ha,fun x hx=>?_,h.gn,by have:=h.hl;omega,by have:=h.kl;simp;omega,by have:=h.gl;omega,?_⟩
 ·simp only [eF] at e;rw [e] at hx;rcases zF kb hx with q | q
  ·exact zX q
  ·have:=hb3.lt;omega
 ·rcases zF x e with q | q
  ·exact h.ky.ne x hx q
  ·have:=hlt h.ky.h x hx;omega
 ·rcases zF x e with q | q
  ·exact (h.ga x hx).2 q
  ·have:=hlt h.got x hx;omega
 ·rcases zF x hx with q | q
  ·exact h.wa x q
  ·omega
 ·refine (h.md.trans (dz.mono (fun _ _ e=>e.elim))).trans' ((fq.mono (G':=fun x=>iJ.ownBlock=some x\/x=kb) (fun _ _ e=>.inl e)).trans (ix.mono (fun _ _ e=>.inr e))) (fun x hx e=>?_);rcases e with e | e
  ·have:=h.wa x e;omega
  ·exact .inl e
theorem yS.gets{w wr w3 w6 w8 w9:World}{B kb:Nat}{hv:Value}{held waits:List dg}{k:Nat}{gv hv' iJ u g':Value}{H K G:List dg}{c:dg}(h:yS w wr B kb hv held waits k gv hv' iJ H K G)(hc:waits[k]?=some c)(hf:pD H K c=true)(dz:Mod dZ wr w3)(hw:w.heap.size<=wr.heap.size)
  (hu:fI w6 B u (jM H c)) (fq:Mod (fun x=>hv'.ownBlock=some x) w3 w6) (hat:u.ownBlock=hv'.ownBlock\/∀ x,u.ownBlock=some x->w3.heap.size<=x)
  (oQ:Mod dZ (w6.setCell ⟨kb,0,none⟩ u) w8) (hg':fI w9 B g' (G++[c])) (BJ:Mod (fun x=>gv.ownBlock=some x) w8 w9) (uu:g'.ownBlock=gv.ownBlock\/∀ x,g'.ownBlock=some x->w8.heap.size<=x) :
  yS w w9 B kb hv held waits (k+1) g' u iJ (jM H c) K (G++[c]):=by
 have ix:Mod (eF kb) w6 (w6.setCell ⟨kb,0,none⟩ u):=Mod.dq kb 0 u;have z3:=dz.size;have z6:=fq.size;have z7:=ix.size;have z8:=oQ.size;have zX:=wW h.ky.blk h.ky.w;have hkh:=wW h.ky.blk h.ky.h;have hkg:=wW h.ky.blk h.got;have hb3:=h.ky.blk.mod dz id;have nO:=hb3.mod fq hkh;have zF:∀ x,u.ownBlock=some x->hv'.ownBlock=some x\/w3.heap.size<=x:=fun x hx=>by
  rcases hat with e | e
  ·exact .inl (by rw [<-e];exact hx)
  ·exact .inr (e x hx)
 have hgb:∀ x,g'.ownBlock=some x->gv.ownBlock=some x\/w8.heap.size<=x:=fun x hx=>by
  rcases uu with e | e
  ·exact .inl (by rw [<-e];exact hx)
  ·exact .inr (e x hx)
 have hlt:∀ {v:Value} {l:List dg},fI wr B v l->∀ x,v.ownBlock=some x->x<w3.heap.size:=fun hr x hx=>aG (mM hr hx).2.1 z3;have Wg:u.ownBlock≠some kb:=fun e=>by
  rcases zF kb e with q | q
  ·exact hkh q
  ·have:=hb3.lt;omega
 have hug:∀ x,u.ownBlock=some x->gv.ownBlock≠some x:=fun x hx e=>by
  rcases zF x hx with q | q
  ·exact (h.ga x e).1 q
  ·have:=hlt h.got x e;omega
 have hu9:fI w9 B u (jM H c):=((hu.mod ix (fun x hx e=>by simp only [eF] at e;rw [e] at hx;exact Wg hx)).mod oQ (fun _ _=>id)).mod BJ (fun x hx e=>hug x hx e);have hw9:fI w9 B iJ K:=((((h.ky.w.mod dz (fun _ _=>id)).mod fq (fun x hx e=>h.ky.ne x e hx)).mod ix (fun x hx e=>by simp only [eF] at e;rw [e] at hx;exact zX hx)).mod oQ (fun _ _=>id)).mod BJ (fun x hx e=>(h.ga x e).2 hx);have YE:dh w9 kb [u,iJ] 168:=((nO.set 0 u).mod oQ id).mod BJ hkg;refine ⟨yCm hc h.fold (by unfold yY;simp [hf]),⟨YE,hu9,hw9,fun x hx e=>?_⟩,hg',By h.ku c,fun x hx=>⟨fun e=>?_,fun e=>?_⟩,?_,h.wa,fun x hx=>?_,by have:=h.hl;have:=LX H c;omega,by have:=h.kl;omega,by have:=h.gl;simp;omega,?_⟩
 ·rcases zF x hx with q | q
  ·exact h.ky.ne x q e
  ·have:=hlt h.ky.w x e;omega
 ·rcases hgb x hx with q | q
  ·exact hug x e q
  ·have h1:=(mM hu e).2.1;omega
 ·rcases hgb x hx with q | q
  ·exact (h.ga x q).2 e
  ·have:=hlt h.ky.w x e;omega
 ·rcases hat with e | e
  ·rcases h.ha with q | q
   ·exact .inl (e.trans q)
   ·exact .inr (fun x hx=>q x (by rw [<-e];exact hx))
  ·exact .inr (fun x hx=>by have:=e x hx;omega)
 ·rcases hgb x hx with q | q
  ·exact h.gn x q
  ·omega
 ·have a1:Mod (fun x=>hv'.ownBlock=some x\/x=kb\/gv.ownBlock=some x) w3 w9:=((fq.mono (fun _ _ e=>.inl e)).trans (ix.mono (fun _ _ e=>.inr (.inl e)))).trans ((oQ.mono (fun _ _ e=>e.elim)).trans (BJ.mono (fun _ _ e=>.inr (.inr e))));refine (h.md.trans (dz.mono (fun _ _ e=>e.elim))).trans' a1 (fun x hx e=>?_);rcases e with e | e | e
  ·rcases h.ha with q | q
   ·exact .inr (by rw [<-q];exact e)
   ·have:=q x e;omega
  ·exact .inl e
  ·have:=h.gn x e;omega
def PC(w:World)(B kb:Nat)(hv:Value)(held waits:List dg)(e:Ending)(w':World):Prop:=
 ∃ gv hv' iJ,e=.returned gv/\yS w w' B kb hv held waits waits.length gv hv' iJ (iw held [] waits).1 (iw held [] waits).2.1 (iw held [] waits).2.2
theorem yPz(B kb:Nat)(hv wv:Value)(held waits:List dg)(w:World)(hk:Hz w B kb hv wv held waits)(heh:jl held)(h1:held.length<=400)(h2:waits.length<=400)(hB:B<=w.heap.size) :
  Calls Tryz.prog 143 #[.pointer (some ⟨kb,0,none⟩)] w (PC w B kb hv held waits):=by
 obtain ⟨i0,hi,hz0,hz1,hz2⟩:=info_parts Tryz.nK;obtain ⟨wa,fz,iT⟩:=fJ hk.w;subst iT;have hkh:=wW hk.blk hk.h;have zX:=wW hk.blk hk.w;have c1:=hk.blk.cell 1 rfl;have f1:=hk.blk.frozen 1;have hkl:=hk.blk.lt;obtain ⟨w1,hw1⟩:∃ q,q=w.setCell ⟨kb,1,none⟩ (.slice none 0 0):=⟨_,rfl⟩;have di:Mod (eF kb) w w1:=by rw [hw1];exact Mod.dq kb 1 _
 have HQV:Hid (fI w1 B (.slice wa waits.length fz) waits):=hk.w.mod di (fun x hx e=>by simp only [eF] at e;rw [e] at hx;exact zX hx);have Pj:Hid (yS w w1 B kb hv held waits 0 (.slice none 0 0) hv (.slice none 0 0) held [] []):=by
  refine ⟨rfl,⟨?_,hk.h.mod di (fun x hx e=>by simp only [eF] at e;rw [e] at hx;exact hkh hx),World.ownsRow_nil _ _ _ _,fun x _=>by simp [Value.ownBlock]⟩,World.ownsRow_nil _ _ _ _,heh,fun x hx=>by simp [Value.ownBlock] at hx,.inl rfl,fun x hx=>by simp [Value.ownBlock] at hx,fun x hx=>by simp [Value.ownBlock] at hx,by omega,by simp,by simp,di.mono (fun _ _ e=>.inl e)⟩;have:=hk.blk.set 1 (.slice none 0 0);rw [<-hw1] at this;exact this
 have HQB:Hid (∀ x,(Value.slice wa waits.length fz).ownBlock=some x->x<w.heap.size/\x≠kb/\hv.ownBlock≠some x):=fun x hx=>⟨(mM hk.w hx).2.1,fun e=>zX (by rw [<-e];exact hx),fun e=>hk.ne x e hx⟩;have xF:=di.size;have HKW:Hid (fI w B (.slice wa waits.length fz) waits):=hk.w;clear hk di;go_enter Tryz.func143,Tryz.ntmps143;go_upto_region 4 with fail;rw [<-hw1];clear hw1 c1 f1;go_wp2_with fail;go_loopw [3,16] (fun g0 i wr=>∃ (k:Nat) (hv' iJ:Value) (H K G:List dg),k<=waits.length/\i=.int .i64 k/\yS w wr B kb hv held waits k g0 hv' iJ H K G) (fun _ i _=>waits.length - (intOf i).toNat)
 case atStart=>exact ⟨0,_,_,_,_,_,aV _,rfl,Pj.out⟩
 case round=>
  obtain ⟨k,hv',iJ,H,K,G,hkw',rfl,hI⟩:=hrel;clear Pj;have hHl:=hI.hl;have KD:=hI.kl;have hGl:=hI.gl;have RO:=hI.md.size;by_cases hlt:k<waits.length
  ·obtain ⟨c,hc⟩:∃ c,waits[k]?=some c:=⟨_,aA hlt⟩;have ND:fI wr B (.slice wa waits.length fz) waits:=HKW.out.mod hI.md (fun x hx e=>e.elim (HQB.out x hx).2.1 (HQB.out x hx).2.2);obtain ⟨qb,qoff,rfl,_,q0,q1⟩:=(ND.oN (aF _)).at hc;obtain ⟨w3,hw3⟩:∃ q,q=wr.alloc (.cells #[.int .i64 c.tx,.int .i64 c.mode] 170):=⟨_,rfl⟩;have dz:Mod dZ wr w3:=by rw [hw3];exact (Mod.refl _ wr).alloc _
   have hb3:dh w3 wr.heap.size (fZ c) 170:=by rw [hw3];exact dh.new wr (fZ c) 170
   obtain ⟨ha,hcap,mh⟩:=fJ hI.ky.h;obtain ⟨ka,yu,iT⟩:=fJ hI.ky.w;obtain ⟨ga,lz,Cn⟩:=fJ hI.got;subst mh;subst iT;subst Cn;have kx:=dU (yHg w3.heap.size kb _ _ H K c w3 (hI.ky.blk.mod dz id) ((hI.ky.h.mod dz (fun _ _=>id)).oN (aF _)) ((hI.ky.w.mod dz (fun _ _=>id)).oN (aF _)) (by omega) (by omega));have HI:=dU hI;have HC:=dU hc;have jt:=dU dz;have FA:=dU hb3;have x0:=hb3.cell 0 rfl;have x1:=hb3.cell 1 rfl;have RP:=hb3.lt;have kO:(k:Int)<(waits.length:Int):=by omega
   have ow:(0:Int)<=(k:Int):=by omega
   clear ND hI hc dz hb3;go_upto_region 7 with fail;rw [<-hw3];clear hw3 q0 q1;go_wp2_with fail;refine kx.out.mono ?_;rintro e w4 ⟨rfl,gM⟩;have hb4:=FA.out.mod gM id;have y0:=hb4.cell 0 rfl;have y1:=hb4.cell 1 rfl;have WK:=hb4.lt;have Cg:Mod dZ wr w4:=jt.out.trans gM;have xL:=HI.out.ky.blk.mod Cg id;have k0:=xL.cell 0 rfl;have k1:=xL.cell 1 rfl;have kf0:=xL.frozen 0;have kf1:=xL.frozen 1;have hkz:=xL.lt;have AT:=dU Cg;have hz34:=Cg.size;have Pe:Hid ((Value.slice ka K.length yu).ownBlock≠some kb):=wW HI.out.ky.blk HI.out.ky.w;have Pf:Hid ((Value.slice ha H.length hcap).ownBlock≠some kb):=wW HI.out.ky.blk HI.out.ky.h;have Zm:Hid ((Value.slice ga G.length lz).ownBlock≠some kb):=wW HI.out.ky.blk HI.out.got;clear gM hb4 xL Cg x0 x1 kx
   cases jF:pD H K c with
   | false=>
    have fc:Hid (fI w4 B (.slice ka K.length yu) K):=HI.out.ky.w.mod AT.out (fun _ _=>id);have iF:K.length+1<=maxLen:=by unfold maxLen;omega
    have iG:(K.length+1)*16<=140737488355328:=by omega
    have hBz:B<=w4.heap.size:=by omega
    go_upto_region 8 with fail
    go_region_law
     ((first
      | (refine step_append_lies _ (by rfl) _ _ _ (by rfl) B 170 i0 _ 2 16 Tryz.underlying166 hi hz0 hz1 hz2 rfl (by omega) _ _ _ (by rfl) ((World.ownsRow.drew fc.out).alloc _) ⟨w4.heap.size,0,none⟩ 1 1 (fZ c) (by rfl) (by rfl) (World.news_of_block (heap_alloc_new w4.drew _)) (zSa c) (by omega) iF iG (by simp;omega) _ rfl ?_;intro g6 lT w6 iB hgrow hat Cj;have lx:Mod (fun k=>(Value.slice ka K.length yu).ownBlock=some k) w4 w6:=(((Mod.refl _ w4).drew).alloc _).grown hgrow (fun x hx _=>hx);have d6:=lx.cell k1 Pe.out;have f6:=(lx.frozen (p:=⟨kb,1,none⟩) hkz Pe.out).trans kf1)
      | fail))
    all_goals
     have hloc:(Value.slice (some ⟨g6,0,none⟩) (K.length+1) lT).ownBlock=(Value.slice ka K.length yu).ownBlock\/∀ x,(Value.slice (some ⟨g6,0,none⟩) (K.length+1) lT).ownBlock=some x->w4.heap.size<=x:=by
      rcases hat with e | e
      ·exact .inl (by rw [e];rfl)
      ·exact .inr (fun x hx=>by simp [Value.ownBlock] at hx;simp at e;omega)
     have ir:=dU (HI.out.wait HC.out jF AT.out RO (fI.snoc (w:=w4) rfl iB) lx hloc);clear iB hgrow hat hloc lx;go_wp2_with fail;go_roundw
     case rel=>exact ⟨k+1,_,_,_,_,_,by omega,by go_num,ir.out⟩
     case measure=>simp [intOf];omega
   | true=>
    have AL:=dU (yGg B (.slice ha H.length hcap) H c w4.drew ((HI.out.ky.h.mod AT.out (fun _ _=>id)).mod ((Mod.refl dZ w4).drew) (fun _ _=>id)) HI.out.ku (by omega) (by show B<=w4.heap.size;omega));go_upto_region 9 with fail;go_cut [] (fun wc=>∃ w6 u,fI w6 B u (jM H c)/\Mod (fun x=>(Value.slice ha H.length hcap).ownBlock=some x) w4 w6/\(u.ownBlock=(Value.slice ha H.length hcap).ownBlock\/∀ x,u.ownBlock=some x->w4.heap.size<=x)/\wc=w6.setCell ⟨kb,0,none⟩ u)
    case first=>
     go_region_with (first
      | (go_at_call 112;refine AL.out.mono ?_;rintro e w6 ⟨u6,rfl,BD,fq,sr⟩;have lx:Mod (fun x=>(Value.slice ha H.length hcap).ownBlock=some x) w4 w6:=((Mod.refl _ w4).drew).trans fq;have d6:=lx.cell k0 Pf.out;have f6:=(lx.frozen (p:=⟨kb,0,none⟩) hkz Pf.out).trans kf0;obtain ⟨Vb,Va,rfl⟩:=fJ BD)
      | fail)
     all_goals
      have ZJ:=dU BD;have HA6:=dU sr;have vN:=dU lx;clear BD sr lx fq;go_wp2_with fail;go_meet
      case rel=>exact ⟨w6,_,ZJ.out,vN.out,HA6.out,rfl⟩
    case rest=>
     obtain ⟨w6,u,BD,lx,sr,hwc⟩:=hcut;have fp:Mod (eF kb) w6 wc:=by rw [hwc];exact Mod.dq kb 0 u
     have uD:fI wc B (.slice ga G.length lz) G:=((HI.out.got.mod AT.out (fun _ _=>id)).mod lx (fun x hx e=>(HI.out.ga x hx).1 e)).mod fp (fun x hx e=>by simp only [eF] at e;rw [e] at hx;exact Zm.out hx);have fc:=dU uD;have z46:=lx.size;have z67:=fp.size;have hcn:¬ (Value.slice ha H.length hcap).ownBlock=some wr.heap.size:=fun e=>by have:=(mM HI.out.ky.h e).2.1;omega
     have hkr:wr.heap.size≠kb:=by have:=HI.out.ky.blk.lt;omega
     have t0:=(fp.cell (lx.cell y0 hcn) hkr);have t1:=(fp.cell (lx.cell y1 hcn) hkr);have hzt:wr.heap.size<wc.heap.size:=by omega
     have iF:G.length+1<=maxLen:=by unfold maxLen;omega
     have iG:(G.length+1)*16<=140737488355328:=by omega
     have hBz:B<=wc.heap.size:=by omega
     have ZJ:=dU BD;have HA6:=dU sr;have vN:=dU lx;have HWC:=dU hwc;clear BD lx sr hwc uD k0 k1 kf0 kf1 y0 y1 AL fp;go_wp2_with (first
      | (at_builtin;refine wpList_append_own_at _ rfl (.tmp 43) (.tmp 45) 166 rfl B 170 i0 _ 2 16 Tryz.underlying166 hi hz0 hz1 hz2 rfl (by decide) _ _ _ rfl (fc.out.alloc _) ⟨wc.heap.size,0,none⟩ 1 1 (fZ c) rfl rfl (World.news_of_block (heap_alloc_new wc _)) (zSa c) iF iG (by simp;omega) ?_)
      | fail)
     intro v9 w9 mP lN _ uu;have oQ:Mod dZ wc (wc.alloc (.cells #[.int .i64 c.tx,.int .i64 c.mode] 170)):=(Mod.refl _ wc).alloc _;have BJ:Mod (fun x=>(Value.slice ga G.length lz).ownBlock=some x) (wc.alloc (.cells #[.int .i64 c.tx,.int .i64 c.mode] 170)) w9:=(Mod.refl _ _).grown lN (fun x hx _=>hx);have ir:Hid (yS w w9 B kb hv held waits (k+1) v9 u (.slice ka K.length yu) (jM H c) K (G++[c])):=HI.out.gets HC.out jF AT.out RO ZJ.out vN.out HA6.out (by rw [<-HWC.out];exact oQ) (fI.snoc (w:=wc) rfl mP) BJ (uu.imp (fun e=>e) (fun e x hx=>by rw [e] at hx;simp at hx;simp;omega));obtain ⟨a9,Oc,WZ⟩:=fJ mP;subst WZ;clear mP lN uu oQ BJ;go_wp2_with fail;go_roundw
     case rel=>exact ⟨k+1,_,_,_,_,_,by omega,by go_num,ir.out⟩
     case measure=>simp [intOf];omega
  ·obtain rfl:k=waits.length:=by omega
   have hfo:=hI.fold;rw [bI,Tl] at hfo;simp only [ak,Prod.mk.injEq] at hfo;obtain ⟨e1,e2,e3⟩:=hfo;rw [<-e1,<-e2,<-e3] at hI;obtain ⟨ga,lz,Cn⟩:=fJ hI.got;subst Cn;have HI:=dU hI;clear hI e1 e2 e3;go_wp2_with fail;go_ret;exact ⟨_,_,_,rfl,HI.out⟩
def fj(k:ByteArray):Prop:=k.size<=maxLen
def qi:Value->Option (DataW Unit)
 | .slice none n c=>if n=0/\c=0 then some .nil else none
 | .slice (some a) n c=>if a.off=0/\a.spot=none then some (.agg [.lit (.int .i64 a.block),.lit (.int .i64 n),.lit (.int .i64 c)]) else none
 | _=>none
def qk(v:Value):DataW Unit:=(qi v).getD .nil
def qy(v:Value):Prop:=v=.slice none 0 0\/∃ g n c,v=.slice (some ⟨g,0,none⟩) n c
theorem VP{v:Value}(h:qy v):qi v=some (qk v):=by
 rcases h with rfl | ⟨g,n,c,rfl⟩ <;> simp [qi,qk]
theorem yHd{v:Value}{y:DataW Unit}(h:qi v=some y):qy v/\y=qk v:=by
 have hh:qy v:=by
  unfold qi at h;split at h
  ·rename_i n c;split at h
   ·rename_i e;obtain ⟨rfl,rfl⟩:=e;exact .inl rfl
   ·cases h
  ·rename_i a n c;split at h
   ·rename_i e;obtain ⟨b,o,s⟩:=a;simp at e;obtain ⟨rfl,rfl⟩:=e;exact .inr ⟨b,n,c,rfl⟩
   ·cases h
  ·cases h
 refine ⟨hh,?_⟩;rw [VP hh] at h
 cases h
 rfl
theorem yHi{v u:Value}(hv:qy v)(hu:qy u)(h:qk v=qk u):v=u:=by
 rcases hv with rfl | ⟨g,n,c,rfl⟩ <;> rcases hu with rfl | ⟨g',n',c',rfl⟩
 ·rfl
 ·simp [qk,qi] at h
 ·simp [qk,qi] at h
 ·simp [qk,qi] at h;obtain ⟨h1,h2,h3⟩:=h;have:g=g':=by omega
  have:n=n':=by omega
  have:c=c':=by omega
  subst_vars;rfl
theorem LZ{w:World}{B:Nat}{e:TypeId}{sz:Nat}{v:Value}{n:Nat}{xs:List Value}(h:w.ownsRow B e sz v n xs):qy v:=by
 rcases h.2 with ⟨rfl,_⟩ | ⟨g,cap,cur,rfl,_⟩
 ·exact .inl rfl
 ·exact .inr ⟨g,n,cap,rfl⟩
def rO:Value->Option (DataW Unit × List MemPlace)
 | .agg xs=>match xs.toList with
  | [h,v]=>match qi h,qi v with
   | some a,some b=>some (.agg [a,b],[])
   | _,_=>none
  | _=>none
 | _=>none
def lS(h v:Value):DataW Unit:=.agg [qk h,qk v]
def Bj:DataW Unit:=.agg [.nil,.nil]
theorem yHk{h v:Value}(hh:qy h)(hv:qy v):rO (.agg #[h,v])=some (lS h v,[]):=by
 simp [rO,VP hh,VP hv,lS]
theorem yCv{x:Value}{y:DataW Unit × List MemPlace}(h:rO x=some y):∃ a b,x=.agg #[a,b]/\qy a/\qy b/\y.1=lS a b:=by
 unfold rO at h;split at h
 ·rename_i xs;split at h
  ·rename_i a b e;split at h
   ·rename_i p q ha hb;obtain ⟨h1,rfl⟩:=yHd ha;obtain ⟨h2,rfl⟩:=yHd hb
    cases h
    refine ⟨a,b,?_,h1,h2,rfl⟩;have:xs=#[a,b]:=by apply Array.ext';simpa using e
    rw [this]
   ·cases h
  ·cases h
 ·cases h
theorem yHj{h v h' v':Value}(a:qy h)(b:qy v)(a':qy h')(b':qy v')(e:lS h v=lS h' v'):h=h'/\v=v':=by
 simp [lS] at e;exact ⟨yHi a a' e.1,yHi b b' e.2⟩
theorem Qa{a b:ByteArray}(h:a.data.toList=b.data.toList):a=b:=by
 cases a;cases b;simp at h;simp;exact h
def gL(k:ByteArray):Lit:=.string k.data.toList
theorem TA{a b:ByteArray}(h:gL a=gL b):a=b:=Qa (by simpa [gL] using h)
theorem QJ(k:ByteArray):WideAt.IsKeyLit (gL k):=by simp [WideAt.IsKeyLit,gL]
structure iL where
 b:Nat
 pre:List Value
 post:List Value
 t:TypeId
 m:Option Nat
 n:Nat
 hd:ByteArray->Bool->Value
def iL.own(q:iL)(x:Nat):Prop:=q.m=some x\/∃ k i,fj k/\(q.hd k i).ownBlock=some x
def eh.list(k:eh)(i:Bool):List dg:=if i then k.held else k.waits
def qH(w:World)(B:Nat)(m:Option Nat)(n:Nat)(hd:ByteArray->Bool->Value)(s:fv):Prop:=match m with
 | none=>∀ k,fj k->(∀ i,hd k i=.slice none 0 0)/\(s k).bare
 | some g=>B<=g/\∃ D,w.ownsMap Tryz.prog 9 rO g n D/\∀ k,fj k->D.atKey (gL k) Bj=lS (hd k true) (hd k false)/\(Maps.has D (gL k)=true↔¬ (s k).bare)
structure kC(w:World)(B N:Nat)(q:iL)(s:fv)(no:ByteArray->Prop):Prop where
 blk:dh w q.b (q.pre++.map q.m :: q.post) q.t
 bt:q.t≠170
 map:qH w B q.m q.n q.hd s
 hdr:∀ k i,fj k->qy (q.hd k i)
 rows:∀ k i,fj k->¬ no k->fI w B (q.hd k i) ((s k).list i)
 apart:∀ k k' i i' x,fj k->fj k'->(q.hd k i).ownBlock=some x->(q.hd k' i').ownBlock=some x->k=k'/\i=i'
 ok:∀ k,fj k->mW (s k)
 few:∀ k,fj k->(s k).held.length+(s k).waits.length<=N
def MW(_:ByteArray):Prop:=False
abbrev oX(w:World)(B N:Nat)(q:iL)(s:fv):Prop:=kC w B N q s MW
theorem qH.mod{G:Nat->Prop}{w w':World}{B:Nat}{m:Option Nat}{n:Nat}{hd:ByteArray->Bool->Value}{s:fv}(h:qH w B m n hd s)(hm:Mod G w w')(hG:∀ x,m=some x->¬ G x):qH w' B m n hd s:=by
 cases m with
 | none=>exact h
 | some g=>
  obtain ⟨h0,D,h1,h2⟩:=h;have hlt:=h1.lt;obtain ⟨es,clock,hb,r⟩:=h1;exact ⟨h0,D,⟨es,clock,(hm.block g hlt (hG g rfl)).trans hb,r⟩,h2⟩
theorem kC.mod{G:Nat->Prop}{w w':World}{B N:Nat}{q:iL}{s:fv}{no:ByteArray->Prop}(h:kC w B N q s no)(hm:Mod G w w')(hb:¬ G q.b)(hG:∀ x,q.own x->¬ G x):kC w' B N q s no:=
 ⟨h.blk.mod hm hb,h.bt,h.map.mod hm (fun x hx=>hG x (.inl hx)),h.hdr,fun k i hk hn=>(h.rows k i hk hn).mod hm (fun x hx=>hG x (.inr ⟨k,i,hk,hx⟩)),h.apart,h.ok,h.few⟩
theorem kC.old{w:World}{B N:Nat}{q:iL}{s:fv}{no:ByteArray->Prop}(h:kC w B N q s no){k:ByteArray}{i:Bool}{x:Nat}(hk:fj k)(hno:¬ no k)(hx:(q.hd k i).ownBlock=some x):B<=x/\x<w.heap.size/\∃ cur,w.heap[x]?=some (.cells cur 170 (0,0)):=mM (h.rows k i hk hno) hx
theorem kC.lt{w:World}{B N:Nat}{q:iL}{s:fv}(h:oX w B N q s){x:Nat}(hx:q.own x):B<=x/\x<w.heap.size:=by
 rcases hx with hx | ⟨k,i,hk,hx⟩
 ·have:=h.map;rw [hx] at this;obtain ⟨h0,D,h1,_⟩:=this;exact ⟨h0,h1.lt⟩
 ·have:=h.old hk id hx;exact ⟨this.1,this.2.1⟩
theorem kC.lH{w:World}{B N:Nat}{q:iL}{s:fv}{no:ByteArray->Prop}(h:kC w B N q s no){k:ByteArray}{i:Bool}(hk:fj k)(hno:¬ no k){x:Nat}(hx:(q.hd k i).ownBlock=some x):x≠q.b/\q.m≠some x:=by
 obtain ⟨_,_,cur,hc⟩:=h.old hk hno hx;refine ⟨fun e=>?_,fun e=>?_⟩
 ·subst e;have:=h.blk;unfold dh at this;rw [hc] at this;simp at this;exact h.bt this.2.symm
 ·have hm:=h.map;rw [e] at hm;obtain ⟨_,D,⟨es,clock,hb,_⟩,_⟩:=hm;rw [hc] at hb
  cases hb
theorem kC.yo{w:World}{B N:Nat}{q:iL}{s:fv}{no:ByteArray->Prop}(h:kC w B N q s no):q.m≠some q.b:=fun e=>by
 have hm:=h.map;rw [e] at hm;obtain ⟨_,D,⟨es,clock,hb,_⟩,_⟩:=hm;have:=h.blk;unfold dh at this;rw [this] at hb
 cases hb
theorem kC.cell{w:World}{B N:Nat}{q:iL}{s:fv}{no:ByteArray->Prop}(h:kC w B N q s no):w.cell? ⟨q.b,q.pre.length,none⟩=some (.map q.m):=h.blk.cell _ (by simp)
theorem JT:Keyed Tryz.prog 9:=string_keyed Tryz.underlying9
theorem yPc(w:World):(zeroValue 168).run Tryz.prog w=.ok (.agg #[.slice none 0 0,.slice none 0 0]) w:=by kernel_rfl
theorem yQq(k:ByteArray)(w:World):(Instr.lookup 79 (.map none) (.string k) false).run Tryz.prog w=.ok (.agg #[.slice none 0 0,.slice none 0 0]) w:=by kernel_rfl
theorem kC.look{w:World}{B N:Nat}{q:iL}{s:fv}{no:ByteArray->Prop}(h:kC w B N q s no){k:ByteArray}(hk:fj k):(Instr.lookup 79 (.map q.m) (.string k) false).run Tryz.prog w=.ok (.agg #[q.hd k true,q.hd k false]) w:=by
 have hm:=h.map
 cases hq:q.m with
 | none=>
  rw [hq] at hm;rw [(hm k hk).1 true,(hm k hk).1 false];exact yQq k w
 | some g=>
  rw [hq] at hm;obtain ⟨_,D,h1,h2⟩:=hm;obtain ⟨v,ps,hrun,hv⟩:=h1.lookup JT Tryz.underlying79 (yPc w) (zd:=Bj) (zp:=[]) (yHk (.inl rfl) (.inl rfl)) (Go.WideMaps.keyOf_string_mk Tryz.underlying9 hk);obtain ⟨a,b,rfl,e1,e2,e3⟩:=yCv hv;have e4:lS a b=lS (q.hd k true) (q.hd k false):=by rw [<-e3];exact (h2 k hk).1
  obtain ⟨rfl,rfl⟩:=yHj e1 e2 (h.hdr k true hk) (h.hdr k false hk) e4;exact hrun
theorem kC.less{w:World}{B N:Nat}{q:iL}{s:fv}(h:oX w B N q s)(no:ByteArray->Prop):kC w B N q s no:=
 ⟨h.blk,h.bt,h.map,h.hdr,fun k i hk _=>h.rows k i hk id,h.apart,h.ok,h.few⟩
theorem kC.turn{w w':World}{B N:Nat}{q:iL}{s:fv}{name:ByteArray}{G:Nat->Prop}(h:kC w B N q s (·=name))(hm:Mod G w w')(hb:¬ G q.b)(hmm:∀ x,q.m=some x->¬ G x)(hG:∀ k i x,fj k->k≠name->(q.hd k i).ownBlock=some x->¬ G x):kC w' B N q s (·=name):=
 ⟨h.blk.mod hm hb,h.bt,h.map.mod hm hmm,h.hdr,fun k i hk hno=>(h.rows k i hk hno).mod hm (fun x hx=>hG k i x hk hno hx),h.apart,h.ok,h.few⟩
def Dr(h:ByteArray->Bool->Value)(k:ByteArray)(v:Bool->Value):ByteArray->Bool->Value:=fun x=>if x=k then v else h x
theorem xz(h:ByteArray->Bool->Value)(k:ByteArray)(v:Bool->Value):Dr h k v k=v:=by unfold Dr;rw [aJ rfl]
theorem yB{h:ByteArray->Bool->Value}{k x:ByteArray}{v:Bool->Value}(e:x≠k):Dr h k v x=h x:=by unfold Dr;rw [aE e]
theorem uQ(s:fv)(k:ByteArray)(a:eh):jI s k a k=a:=by unfold jI;rw [aJ rfl]
theorem wj{s:fv}{k x:ByteArray}{a:eh}(e:x≠k):jI s k a x=s x:=by unfold jI;rw [aE e]
structure Ah(w:World)(B:Nat)(q:iL)(name:ByteArray)(v:Bool->Value)(k':eh):Prop where
 row:∀ i,fI w B (v i) (k'.list i)
 ne:∀ x,(v true).ownBlock=some x->(v false).ownBlock≠some x
 out:∀ k i j x,fj k->k≠name->(q.hd k i).ownBlock=some x->(v j).ownBlock≠some x
structure FU(w w':World)(B N:Nat)(q q':iL)(s:fv)(name:ByteArray)(v:Bool->Value)(k':eh):Prop where
 tb:oX w' B N q' (jI s name k')
 b:q'.b=q.b
 pre:q'.pre=q.pre
 post:q'.post=q.post
 t:q'.t=q.t
 n1:q'.n<=q.n+1
 n0:¬ (s name).bare->q'.n<=q.n
 md:Mod (fun x=>x=q.b\/q.m=some x) w w'
 own:∀ x,q'.own x->q.own x\/w.heap.size<=x\/∃ i,(v i).ownBlock=some x
theorem Tf{w w':World}{B N N':Nat}{q:iL}{s:fv}{name:ByteArray}{v:Bool->Value}{k':eh}{m:Option Nat}{n:Nat}{G:Nat->Prop}(h:kC w B N q s (·=name))(hn:fj name)(hk:Ah w B q name v k')(hok:mW k')(hN:k'.held.length+k'.waits.length<=N')(zz:N<=N')
  (hm:Mod G w w') (hG:∀ k i x,fj k->(Dr q.hd name v k i).ownBlock=some x->¬ G x) (hb:dh w' q.b (q.pre++.map m :: q.post) q.t) (hmap:qH w' B m n (Dr q.hd name v) (jI s name k')) :
  oX w' B N' { q with m:=m,n:=n,hd:=Dr q.hd name v } (jI s name k'):=by
 have hrow:∀ k i,fj k->fI w B (Dr q.hd name v k i) ((jI s name k' k).list i):=fun k i hk2=>by
  by_cases e:k=name
  ·subst e;rw [xz,uQ];exact hk.row i
  ·rw [yB e,wj e];exact h.rows k i hk2 e
 refine ⟨hb,h.bt,hmap,fun k i hk2=>LZ (hrow k i hk2),fun k i hk2 _=>(hrow k i hk2).mod hm (fun x hx=>hG k i x hk2 hx),fun k k2 i i2 x hk1 hk2 h1 h2=>?_,fun k hk2=>?_,fun k hk2=>?_⟩
 ·simp only at h1 h2;by_cases e1:k=name
  ·by_cases e2:k2=name
   ·subst e1;refine ⟨e2.symm,?_⟩;subst e2;rw [xz] at h1 h2
    cases i <;> cases i2
    ·rfl
    ·exact absurd h1 (hk.ne x h2)
    ·exact absurd h2 (hk.ne x h1)
    ·rfl
   ·subst e1;rw [xz] at h1;rw [yB e2] at h2;exact absurd h1 (hk.out k2 i2 i x hk2 e2 h2)
  ·rw [yB e1] at h1;by_cases e2:k2=name
   ·subst e2;rw [xz] at h2;exact absurd h2 (hk.out k i i2 x hk1 e1 h1)
   ·rw [yB e2] at h2;exact h.apart k k2 i i2 x hk1 hk2 h1 h2
 ·by_cases e:k=name
  ·rw [e,uQ];exact hok
  ·rw [wj e];exact h.ok k hk2
 ·by_cases e:k=name
  ·rw [e,uQ];exact hN
  ·rw [wj e];exact aM (h.few k hk2) zz
theorem yHc(w:World)(B:Nat)(q:iL)(name:ByteArray):Ah w B q name (fun _=>.slice none 0 0) ⟨[],[]⟩:=
 ⟨fun i=>by cases i <;> exact World.ownsRow_nil _ _ _ _,fun x hx=>by simp [Value.ownBlock] at hx,fun k i j x _ _ _=>by simp [Value.ownBlock]⟩
theorem yOk{k:eh}(h:k.bare):k=⟨[],[]⟩:=by cases k;obtain ⟨h1,h2⟩:=h;simp at h1 h2;rw [h1,h2]
theorem yMy{w w':World}{B N N':Nat}{q:iL}{s:fv}{name:ByteArray}{v:Bool->Value}{k':eh}(h:kC w B N q s (·=name))(hn:fj name)(kW:k'.bare)(zz:N<=N')(hm:Mod dZ w w')(hq:q.m=none) :
  ∃ q',FU w w' B N' q q' s name v k':=by
 have hb:=yOk kW;subst hb;have hmap:=h.map;rw [hq] at hmap;refine ⟨_,⟨Tf (m:=none) (n:=q.n) h hn (yHc w B q name) mW.nil (by simp) zz hm (fun _ _ _ _ _=>id) (by have:=h.blk.mod hm id;rw [hq] at this;exact this) (fun k hk=>?_),rfl,rfl,rfl,rfl,by show q.n<=q.n+1;omega,fun _=>aF _,hm.mono (fun _ _ e=>e.elim),fun x hx=>?_⟩⟩
 ·by_cases e:k=name
  ·subst e;rw [xz,uQ];exact ⟨fun _=>rfl,rfl,rfl⟩
  ·rw [yB e,wj e];exact hmap k hk
 ·rcases hx with hx | ⟨k,i,hk,hx⟩
  ·cases hx
  ·simp only at hx;by_cases e:k=name
   ·subst e;rw [xz] at hx;simp [Value.ownBlock] at hx
   ·rw [yB e] at hx;exact .inl (.inr ⟨k,i,hk,hx⟩)
theorem zZc{w:World}{g n:Nat}{D:DataW Unit}(h:w.ownsMap Tryz.prog 9 rO g n D):w.ownsMap Tryz.prog 9 rO g (Maps.size D) D:=by
 obtain ⟨es,clock,hb,F,_,rfl⟩:=h;exact ⟨es,clock,hb,F,by simp [Maps.size,length_sorted],rfl⟩
theorem yQx{w w1 w':World}{B N N' g:Nat}{q:iL}{s:fv}{name:ByteArray}{v:Bool->Value}{k':eh}{D:DataW Unit}(h:kC w B N q s (·=name))(hn:fj name)(kW:k'.bare)(zz:N<=N')(di:Mod dZ w w1)(hq:q.m=some g)(hBg:B<=g)
  (h2:∀ k,fj k->D.atKey (gL k) Bj=lS (q.hd k true) (q.hd k false)/\(Maps.has D (gL k)=true↔¬ (s k).bare)) (hown:w'.ownsMap Tryz.prog 9 rO g q.n (D.del (gL name))) (hm:Mod (eF g) w1 w') :
  ∃ q',FU w w' B N' q q' s name v k':=by
 have hb:=yOk kW;subst hb;have hmo:Mod (eF g) w w':=(di.mono (fun _ _ e=>e.elim)).trans hm;refine ⟨_,⟨Tf (m:=some g) (n:=q.n) h hn (yHc w B q name) mW.nil (by simp) zz hmo (fun k i x hk hx e=>?_) ?_ ⟨hBg,_,hown,fun k hk=>?_⟩,rfl,rfl,rfl,rfl,by show q.n<=q.n+1;omega,fun _=>aF _,hmo.mono (fun x _ e=>.inr (by simp only [eF] at e;rw [hq,e])),fun x hx=>?_⟩⟩
 ·simp only [eF] at e;by_cases e1:k=name
  ·subst e1;rw [xz] at hx;simp [Value.ownBlock] at hx
  ·rw [yB e1] at hx;exact (h.lH hk e1 hx).2 (by rw [hq,e])
 ·have:=h.blk.mod hmo (fun e=>by simp only [eF] at e;exact h.yo (by rw [hq,e]));rw [hq] at this;exact this
 ·by_cases e:k=name
  ·subst e;rw [xz,uQ,atKey_del_same,has_del_same];refine ⟨rfl,?_⟩;simp [eh.bare]
  ·have hne:gL k≠gL name:=fun e2=>e (TA e2);rw [yB e,wj e,atKey_del_other hne,has_del_other hne];exact h2 k hk
 ·rcases hx with hx | ⟨k,i,hk,hx⟩
  ·exact .inl (.inl (by rw [hq];exact hx))
  ·simp only at hx;by_cases e:k=name
   ·subst e;rw [xz] at hx;simp [Value.ownBlock] at hx
   ·rw [yB e] at hx;exact .inl (.inr ⟨k,i,hk,hx⟩)
theorem yQv{w:World}{B N:Nat}{q:iL}{s:fv}{name:ByteArray}(h:kC w B N q s (·=name))(hB:B<=w.heap.size)(hm:q.m=none) :
  kC ((w.setCell ⟨q.b,q.pre.length,none⟩ (.map (some w.heap.size))).alloc (.map #[] 0)) B N { q with m:=some w.heap.size,n:=0 } s (·=name)/\Mod (eF q.b) w ((w.setCell ⟨q.b,q.pre.length,none⟩ (.map (some w.heap.size))).alloc (.map #[] 0)):=by
 have hmo:Mod (eF q.b) w ((w.setCell ⟨q.b,q.pre.length,none⟩ (.map (some w.heap.size))).alloc (.map #[] 0)):=(Mod.dq _ _ _).alloc _;have hmap:=h.map;rw [hm] at hmap;refine ⟨⟨?_,h.bt,⟨hB,.map [],?_,fun k hk=>?_⟩,h.hdr,fun k i hk hno=>(h.rows k i hk hno).mod hmo (fun x hx e=>?_),h.apart,h.ok,h.few⟩,hmo⟩
 ·have:=(h.blk.set q.pre.length (.map (some w.heap.size))).mod ((Mod.refl dZ _).alloc (.map #[] 0)) id;rw [dO _ _ (aF _),Nat.sub_self,List.set_cons_zero] at this;exact this
 ·have h1:=World.ownsMap_made (w.setCell ⟨q.b,q.pre.length,none⟩ (.map (some w.heap.size))) Tryz.prog 9 rO;simpa using h1
 ·obtain ⟨h1,h2⟩:=hmap k hk;show DataW.atKey (.map []) (gL k) Bj=lS (q.hd k true) (q.hd k false)/\_;rw [h1 true,h1 false];exact ⟨rfl,by simp [has,h2]⟩
 ·simp only [eF] at e;exact (h.lH hk hno hx).1 e
theorem yQu{w w7:World}{B N N' g:Nat}{q:iL}{s:fv}{name:ByteArray}{v:Bool->Value}{k':eh}{D:DataW Unit}(h:kC w B N q s (·=name))(hn:fj name)(hk:Ah w B q name v k')(hok:mW k')(hN:k'.held.length+k'.waits.length<=N')(zz:N<=N')(kW:¬ k'.bare)(hq:q.m=some g)(hBg:B<=g)
  (hown:w.ownsMap Tryz.prog 9 rO g q.n D) (h2:∀ k,fj k->D.atKey (gL k) Bj=lS (q.hd k true) (q.hd k false)/\(Maps.has D (gL k)=true↔¬ (s k).bare))
  (h7:w7.ownsMap Tryz.prog 9 rO g (q.n+1) (D.put (gL name) (lS (v true) (v false)))) (ix:Mod (eF g) w w7) :
  ∃ q',FU w w7 B N' q q' s name v k':=by
 have hD:=hown.isMap;have hty:=hown.tidy JT;have hsz:=hown.size_le;have h7t:=zZc h7;obtain ⟨n',hn',h7n,hn0⟩:∃ n',n'<=q.n+1/\w7.ownsMap Tryz.prog 9 rO g n' (D.put (gL name) (lS (v true) (v false)))/\(¬ (s name).bare->n'<=q.n):=by
  refine ⟨_,h7.size_le,h7t,fun hnb=>?_⟩;rw [size_put hty,aJ ((h2 name hn).2.2 hnb)];exact hsz
 have hvg:∀ i x,(v i).ownBlock=some x->x≠g:=fun i x hx e=>by
  obtain ⟨_,_,cur,hc⟩:=mM (hk.row i) hx;obtain ⟨es,clock,hb,_⟩:=hown;rw [e] at hc;rw [hc] at hb
  cases hb
 refine ⟨_,⟨Tf (m:=some g) (n:=n') h hn hk hok hN zz ix (fun k i x hk2 hx e=>?_) ?_ ⟨hBg,_,h7n,fun k hk2=>?_⟩,rfl,rfl,rfl,rfl,hn',hn0,ix.mono (fun x _ e=>.inr (by simp only [eF] at e;rw [hq,e])),fun x hx=>?_⟩⟩
 ·simp only [eF] at e;by_cases e1:k=name
  ·subst e1;rw [xz] at hx;exact hvg i x hx e
  ·rw [yB e1] at hx;exact (h.lH hk2 e1 hx).2 (by rw [hq,e])
 ·have:=h.blk.mod ix (fun e=>by simp only [eF] at e;exact h.yo (by rw [hq,e]));rw [hq] at this;exact this
 ·by_cases e:k=name
  ·subst e;rw [xz,uQ,atKey_put_same hD (QJ _),has_put_same hD (QJ _)];exact ⟨rfl,by simp [kW]⟩
  ·have hne:gL k≠gL name:=fun e2=>e (TA e2);rw [yB e,wj e,atKey_put_other hne,has_put_other hne];exact h2 k hk2
 ·rcases hx with hx | ⟨k,i,hk2,hx⟩
  ·exact .inl (.inl (by rw [hq];exact hx))
  ·simp only at hx;by_cases e:k=name
   ·subst e;rw [xz] at hx;exact .inr (.inr ⟨i,hx⟩)
   ·rw [yB e] at hx;exact .inl (.inr ⟨k,i,hk2,hx⟩)
theorem yTx(m:Option Nat)(w:World):(binOp .eql 79 (.map m) (.map none)).run Tryz.prog w=.ok (.bool m.isNone) w:=by cases m <;> kernel_rfl
theorem yAw(w:World):(Instr.makeMap 79 none).run Tryz.prog w=.ok (.map (some w.heap.size)) (w.alloc (.map #[] 0)):=by kernel_rfl
theorem qH.get{w:World}{B n g:Nat}{m:Option Nat}{hd:ByteArray->Bool->Value}{s:fv}(h:qH w B m n hd s)(hm:m=some g):B<=g/\∃ D,w.ownsMap Tryz.prog 9 rO g n D/\∀ k,fj k->D.atKey (gL k) Bj=lS (hd k true) (hd k false)/\(Maps.has D (gL k)=true↔¬ (s k).bare):=by
 subst hm;exact h
theorem Sz(B N N':Nat)(q:iL)(s:fv)(name:ByteArray)(v:Bool->Value)(k':eh)(w:World)(h:kC w B N q s (·=name))(hn:fj name)(hk:Ah w B q name v k')(hok:mW k')(hN:k'.held.length+k'.waits.length<=N')(zz:N<=N')(Ca:q.n<=1000000)(hB:B<=w.heap.size) :
  Calls Tryz.prog 113 #[.pointer (some ⟨q.b,q.pre.length,none⟩),.string name,.agg #[v true,v false]] w fun e w'=>e=.returned (.tuple #[])/\∃ q',FU w w' B N' q q' s name v k':=by
 have hkl:Hid (keyOf Tryz.prog 9 (.string name)=some (gL name)):=Go.WideMaps.keyOf_string_mk Tryz.underlying9 hn;obtain ⟨ha,hcap,mh⟩:=fJ (hk.row true);obtain ⟨wa,fz,iT⟩:=fJ (hk.row false);have e1:k'.list true=k'.held:=rfl;have e2:k'.list false=k'.waits:=rfl;rw [e1] at mh;rw [e2] at iT;obtain ⟨w1,hw1⟩:∃ x,x=w.alloc (.cells #[v true,v false] 168):=⟨_,rfl⟩;have di:Mod dZ w w1:=by rw [hw1];exact (Mod.refl _ w).alloc _
 have hb1:dh w1 w.heap.size [v true,v false] 168:=by rw [hw1];exact dh.new w [v true,v false] 168
 have p0:=hb1.cell 0 rfl;have p1:=hb1.cell 1 rfl;have hz1:=hb1.lt;have h1:=h.mod di id (fun _ _=>id);have c0:=h1.cell;have hzb:=h1.blk.lt;have HT:=dU h;have Kr:=dU h1;have HK:=dU hk;have fg:=dU di;have oZ:=dU hok;have mV:=dU hb1;have HW:Hid (w1.heap.size=w.heap.size+1):=by rw [hw1,Hid];simp
 rw [mh] at p0;rw [iT] at p1;rw [mh,iT] at hw1;rw [mh,iT];have Ab:=dU mh;have AJ:=dU iT;have Ga:q.b<w.heap.size:=h.blk.lt;clear h hk hok di hb1 h1 mh iT e1 e2;generalize Ji:k'.held.length=lh at p0 p1 hw1 Ab hN;generalize yI:k'.waits.length=lw at p0 p1 hw1 AJ hN;by_cases kW:lh=0/\lw=0
 ·obtain ⟨rfl,rfl⟩:=kW;have Sq:Hid k'.bare:=⟨aT Ji,aT yI⟩
  cases hm:q.m with
  | none=>
   have oT:∀ ty (w:World),(Builtin.delete_ #[79,9] ty #[.map none,.string name]).run Tryz.prog w=.ok (.tuple #[]) w:=fun ty w=>Go.ChangeMaps.run_delete_nil Tryz.underlying79 Tryz.underlying9 name;rw [hm] at c0;have HQ:=dU (yMy (v:=v) HT.out hn Sq.out zz fg.out hm);clear hm Ji yI;go_enter Tryz.func113,Tryz.ntmps113;go_upto_region 1 with fail;rw [<-hw1];clear hw1;go_wp2_with fail
   first
    | go_end0
    | refine bodyPost_ret (results_none rfl _ _ _) rfl ?_
   exact ⟨rfl,HQ.out⟩
  | some g=>
   rw [hm] at c0;obtain ⟨hBg,D,hown,hD⟩:=Kr.out.map.get hm;have HO:=dU hown;have HD:=dU hD;have Sb:=dU hm;clear hm Ji yI hown hD;go_enter Tryz.func113,Tryz.ntmps113;go_upto_region 1 with fail;rw [<-hw1];clear hw1;go_wp2_with (first
    | (at_delete;refine wpList_delete_own _ rfl _ _ 79 9 rfl 168 JT Tryz.underlying79 rO g q.n D rfl HO.out _ (gL name) rfl hkl.out ?_)
    | fail)
   intro w2 hown2 zI;have hm2:Mod (eF g) w1 w2:=(Mod.refl _ w1).grown zI.grown (fun x hx _=>by simp only [eF];simpa using hx.symm);have HQ:=dU (yQx (v:=v) HT.out hn Sq.out zz fg.out Sb.out hBg HD.out hown2 hm2);clear hown2 zI hm2;go_wp2_with fail
   first
    | go_end0
    | refine bodyPost_ret (results_none rfl _ _ _) rfl ?_
   exact ⟨rfl,HQ.out⟩
 ·have Sq:Hid (¬ k'.bare):=fun e=>kW ⟨by rw [<-Ji,e.1];rfl,by rw [<-yI,e.2];rfl⟩;have hen:=yTx q.m w1;have hmm:=yAw;have HLEN:Hid (k'.held.length+k'.waits.length<=N'):=by rw [Hid,Ji,yI];exact hN
  have Rf:=Kr.out.blk.frozen q.pre.length;have HKP:Hid (∀ wc,Mod (eF q.b) w1 wc->Ah wc B q name v k'):=fun wc mu=>by
   have Jg:Mod (eF q.b) w wc:=(fg.out.mono (fun _ _ e=>e.elim)).trans mu;refine ⟨fun i=>(HK.out.row i).mod Jg (fun x hx e=>?_),HK.out.ne,HK.out.out⟩;simp only [eF] at e;subst e;obtain ⟨_,_,cur,hc⟩:=mM (HK.out.row i) hx;have:=HT.out.blk;unfold dh at this;rw [hc] at this;simp at this;exact HT.out.bt this.2.symm
  clear Ji yI;go_enter Tryz.func113,Tryz.ntmps113;go_upto_region 1 with fail;rw [<-hw1];clear hw1;have hg0:(lh=0/\¬ lw=0)\/¬ lh=0:=by omega
  go_cut [15] (fun b15 wc=>b15=.bool false/\wc=w1)
  case first=>
   rcases hg0 with ⟨rfl,hg1⟩ | hg1
   ·have hi1:¬ (lw:Int)=0:=by omega
    go_wp2_with fail;go_meet
    case rel=>exact ⟨by first | (simp;done) | (simp;omega),rfl⟩
   ·have hi1:¬ (lh:Int)=0:=by omega
    go_wp2_with fail;go_meet
    case rel=>exact ⟨by first | (simp;done) | (simp;omega),rfl⟩
  case rest=>
   obtain ⟨rfl,zD⟩:=hcut;rw [zD];clear zD;go_upto_if 25 with fail;go_cut [] (fun wc=>∃ (g n2:Nat),kC wc B N { q with m:=some g,n:=n2 } s (·=name)/\n2<=q.n/\Mod (eF q.b) w1 wc/\(q.m=some g\/w1.heap.size<=g))
   case first=>
    cases ER:q.m with
    | none=>
     have HPN:=dU (yQv Kr.out (aM hB fg.out.size) ER);have hqi:q.m.isNone=true:=by rw [ER];rfl
     have Sb:=dU ER;clear ER;go_wp2_with fail;go_meet
     case rel=>exact ⟨w1.heap.size,0,HPN.out.1,aV _,HPN.out.2,.inr (aF _)⟩
    | some g=>
     have qs:Hid (kC w1 B N { q with m:=some g,n:=q.n } s (·=name)):=by
      have:({ q with m:=some g,n:=q.n }:iL)=q:=by rw [<-ER]
      rw [this];exact Kr.out
     have hqi:q.m.isNone=false:=by rw [ER];rfl
     have Sb:=dU ER;clear ER;go_wp2_with fail;go_meet
     case rel=>exact ⟨g,q.n,qs.out,aF _,Mod.refl _ _,.inl Sb.out⟩
   case rest=>
    obtain ⟨g,n2,hS,Cd,dz,Xk⟩:=hcut;obtain ⟨q2,hq2⟩:∃ x:iL,x={ q with m:=some g,n:=n2 }:=⟨_,rfl⟩;rw [<-hq2] at hS;have Gj:q2.m=some g:=by rw [hq2]
    have NP:q2.n=n2:=by rw [hq2]
    have YO:kC wc.drew B N q2 s (·=name):=hS.mod ((Mod.refl dZ wc).drew) id (fun _ _=>id);obtain ⟨hBg,D,hown,hD⟩:=YO.map.get Gj;have Jg:Mod (eF q.b) w1 wc.drew:=dz.drew;have xV:Ah wc.drew B q2 name v k':=by
     have h9:=HKP.out wc.drew Jg;exact ⟨h9.row,h9.ne,by rw [hq2];exact h9.out⟩
    obtain ⟨w7,iA,eQ,zH⟩:=hown.store JT Tryz.underlying79 (by rw [NP];unfold maxLen;omega) hkl.out (yHk (LZ (HK.out.row true)) (LZ (HK.out.row false)));have ix:Mod (eF g) wc.drew w7:=(Mod.refl _ wc.drew).grown zH.grown (fun x hx _=>by simp only [eF];simpa using hx.symm);have ir:Hid (∃ q',FU w w7 B N' q q' s name v k'):=by
     obtain ⟨q',hQ⟩:=yQu YO hn xV oZ.out HLEN.out zz Sq.out Gj hBg hown hD eQ ix;refine ⟨q',⟨hQ.tb,by rw [hQ.b,hq2],by rw [hQ.pre,hq2],by rw [hQ.post,hq2],by rw [hQ.t,hq2],by have:=hQ.n1;omega,fun hb=>by have:=hQ.n0 hb;omega,?_,fun x hx=>?_⟩⟩
     ·have a1:Mod (eF q.b) w wc.drew:=(fg.out.mono (fun _ _ e=>e.elim)).trans Jg;refine (a1.mono (G':=fun x=>x=q.b\/q.m=some x) (fun x _ e=>.inl e)).trans' ix (fun x hx e=>?_);simp only [eF] at e;rcases Xk with e2 | e2
      ·exact .inr (by rw [e2,e])
      ·have:=fg.out.size;omega
     ·have hz3:=Jg.size;have hz1':=fg.out.size;rcases hQ.own x hx with h3 | h3 | h3
      ·rw [hq2] at h3;rcases h3 with h3 | h3
       ·simp at h3;rcases Xk with e2 | e2
        ·exact .inl (.inl (by rw [e2,h3]))
        ·exact .inr (.inl (by omega))
       ·exact .inl (.inr h3)
      ·exact .inr (.inl (by omega))
      ·exact .inr (.inr h3)
    have x0:wc.cell? ⟨q.b,q.pre.length,none⟩=some (.map (some g)):=by have:=hS.cell;rw [hq2] at this;exact this
    have zb:q.b<wc.heap.size:=aG hzb dz.size;have hne:w.heap.size≠q.b:=by omega
    have y0:=dz.cell p0 hne;have y1:=dz.cell p1 hne;have zk:w.heap.size<wc.heap.size:=aG hz1 dz.size;rw [Ab.out,AJ.out] at iA;clear hS YO hown hD xV eQ zH ix Jg dz Xk hq2 Gj NP hen hmm;go_upto_region 5 with fail;go_region
    all_goals
     go_wp2_with fail
     first
      | go_end0
      | refine bodyPost_ret (results_none rfl _ _ _) rfl ?_
     exact ⟨rfl,ir.out⟩
end Go.Proofs.YtmaiggbnceejiaaGreatDoor
