import Derived.Test.YtmaiggbnceejiaaGreatDoorS26
set_option linter.unusedVariables false
set_option maxRecDepth 100000
set_option maxHeartbeats 16000000
namespace Go.Proofs.YtmaiggbnceejiaaGreatDoor
open Go.RowKit Go.Lib Go.Maps
open Classical in
noncomputable def dY.jf(y:dY)(w:World)(tv:Value)(b:Nat)(av:Value):dY:=
 { y with tv:=tv,jo:=y.jo++[b],jQ:=fun x=>if x=b then av else y.jQ x,jq:=fun x=>if x=b then (.slice none 0 0) else y.jq x,own:=fun x=>if w.heap.size<=x/\tv.ownBlock=some x then .gW else if w.heap.size<=x/\(x=b\/av.ownBlock=some x) then .tx b else y.own x }
theorem Vm(y:dY)(w:World)(tv:Value)(b:Nat)(av:Value){x:Nat}(h:x<w.heap.size):(y.jf w tv b av).own x=y.own x:=by
 simp only [dY.jf];rw [aK (fun e=>by omega),aK (fun e=>by omega)]
theorem dx.jf{w w':World}{n c g:Nat}{y:dY}{s:dX}(h:dx w n c g y s){tv av:Value}{b:Nat}
  (hm:Mod (fun z=>z=g\/y.tv.ownBlock=some z) w w') (hB:dg w' g [y.lv,.map (some y.dr),y.wv,.int .i64 s.net.lost,.map y.mr,.map y.q.m,tv] 84) (hr:w'.ownsRow n 87 1 tv (y.jo.length+1) ((y.jo++[b]).map jC))
  (hb:w.heap.size<=b) (hT:dg w' b [.int .i64 1,av,.slice none 0 0,.int .i64 0] 86) (ha:w'.ownsRow n 3 1 av s.lines.length ((List.replicate s.lines.length (0:Int)).map (Value.int .i64))) (np:∀ k,av.ownBlock=some k->w.heap.size<=k) (h1:iF w y.tv tv) (hn:n<=w.heap.size) :
  dx w' n c g (y.jf w tv b av) (nf s)/\iG w y w' (y.jf w tv b av):=by
 have own:=h.own;have jb:∀ z,(z=g\/y.tv.ownBlock=some z)->y.own z=.main\/y.own z=.gW:=fun z e=>by
  rcases e with e | e
  ·rw [e];exact .inl own.main
  ·exact .inr (own.gW z e)
 have hq:Qm w (y.lo n) (fun z=>z=g\/y.tv.ownBlock=some z):=fun z hz e=>by
  rintro (e1 | ⟨⟨cur,fr,e1⟩,_⟩)
  ·have h8:z<n:=e1;have:=(own.lt z (by rcases jb z e with q | q <;> rw [q] <;> simp)).1;omega
  ·rcases e with e | e
   ·subst e;have:=h.blk;unfold dg at this;rw [this] at e1;simp at e1
   ·obtain ⟨_,_,kh,h2⟩:=fW h.gW e;rw [h2] at e1;simp at e1
 have ht:re w w' n y (fun t=>t=.main\/t=.gW):=⟨⟨_,hm,hq,fun z hz e=>⟨jb z e,by rcases jb z e with q | q <;> rw [q] <;> simp⟩⟩⟩;have qx:b∉y.jo:=fun q=>by have:=(own.lt b (by rw [(own.tx b q).1];simp)).2;omega
 have hlo:(y.jf w tv b av).lo n=y.lo n:=by
  unfold dY.lo;congr 1;funext k;apply propext;constructor
  ·rintro ⟨t,ht,hk⟩;rcases aN.1 ht with q | q
   ·have hne:t≠b:=fun e=>qx (by rw [<-e];exact q);exact ⟨t,q,by simpa [dY.jf,hne] using hk⟩
   ·simp at q;subst q;simp [dY.jf,Value.ownBlock] at hk
  ·rintro ⟨t,ht,hk⟩;have hne:t≠b:=fun e=>qx (by rw [<-e];exact ht);exact ⟨t,aN.2 (.inl ht),by simpa [dY.jf,hne] using hk⟩
 have dz:∀ z,y.own z≠.no->(y.jf w tv b av).own z=y.own z:=fun z hz=>Vm _ _ _ _ _ (own.lt z hz).2;have hrow:∀ z,tv.ownBlock=some z->(y.jf w tv b av).own z=.gW:=fun z e=>by
  by_cases hlt:z<w.heap.size
  ·rw [Vm _ _ _ _ _ hlt];rcases h1 with q | q
   ·exact own.gW z (by rw [<-q];exact e)
   ·have:=q z e;omega
  ·simp only [dY.jf];rw [aP ⟨by omega,e⟩]
 have hnt:∀ z,z=b\/av.ownBlock=some z->tv.ownBlock≠some z:=fun z e q=>by
  obtain ⟨_,_,cur,fN⟩:=fW hr q;rcases e with e | e
  ·subst e;unfold dg at hT;rw [fN] at hT;simp at hT
  ·obtain ⟨_,_,kh,h2⟩:=fW ha e;rw [fN] at h2;simp at h2
 have hnew:∀ z,z=b\/av.ownBlock=some z->(y.jf w tv b av).own z=.tx b:=fun z e=>by
  simp only [dY.jf];rw [aK (fun q=>hnt z e q.2),aP ⟨e.elim (fun e=>by omega) (np z),e⟩]
 have eB:(y.jf w tv b av).jQ b=av/\(y.jf w tv b av).jq b=.slice none 0 0:=by simp [dY.jf]
 have eN:∀ {x},x≠b->(y.jf w tv b av).jQ x=y.jQ x/\(y.jf w tv b av).jq x=y.jq x:=fun {x} hx=>by simp [dY.jf,hx]
 refine ⟨⟨hB,?_,h.oY ht (by simp),h.tY ht (by simp),h.qn,h.oX ht (by simp),h.iQ,fun k b' l hb' hl=>?_,?_,?_,fun i b' t hb' hti=>?_,?_⟩,?_⟩
 ·have:=h.vU ht (by simp);rw [hlo];exact this
 ·have q:=h.qF ht hb' hl (by simp) (fun d _=>by simp);refine ⟨q.blk,q.row,q.len,fun j d x hd hx=>?_⟩;have:=q.node j d x hd hx;unfold xG at this ⊢;rw [hlo];exact this
 ·show w'.ownsRow n 87 1 tv (y.jo++[b]).length ((y.jo++[b]).map jC);rw [aD];exact hr
 ·show (y.jo++[b]).length=(s.dW++[_]).length;rw [aD,aD,h.kN];rfl
 ·have hb2:(y.jo++[b])[i]?=some b':=hb';have ht2:(s.dW++[(⟨1,List.replicate s.lines.length 0,[],0⟩:jR)])[i]?=some t:=hti;have htl:=h.kN;by_cases hlt:i<y.jo.length
  ·rw [aE hlt] at hb2;rw [aE (by omega)] at ht2;have hne:b'≠b:=fun e=>qx (by rw [<-e];exact aC hb2);have q:=h.Dq ht hb2 ht2 (by simp);refine ⟨?_,?_,?_⟩
   ·rw [(eN hne).1,(eN hne).2];exact q.blk
   ·rw [(eN hne).1];exact q.ats
   ·rw [(eN hne).2];exact q.wr
  ·rw [aM (by omega)] at hb2 ht2;have hi:i - y.jo.length=0:=by
    have:=(aB.1 hb2).1;simp at this;omega
   rw [hi] at hb2;rw [show i - s.dW.length=0 by omega] at ht2;simp at hb2 ht2;subst hb2 ht2;refine ⟨?_,?_,?_⟩
   ·rw [eB.1,eB.2];exact hT
   ·rw [eB.1];show w'.ownsRow n 3 1 av (List.replicate s.lines.length (0:Int)).length _;rw [List.length_replicate];exact ha
   ·rw [eB.2];exact World.ownsRow_nil _ _ _ _
 ·refine ⟨by rw [dz _ (by rw [own.main];simp)];exact own.main,fun z hz=>?_,fun z hz=>hrow z hz,fun z hz=>?_,?_,fun z hz=>?_,fun b' hb'=>⟨?_,fun z hz=>?_⟩,fun b' hb' d' hd' z hz=>?_,fun b' hb'=>?_,fun z hz=>?_,own.Bv,?_,own.yu⟩
  ·rw [dz z (by rw [own.fi z hz];simp)];exact own.fi z hz
  ·rw [dz z (by rw [own.net z hz];simp)];exact own.net z hz
  ·show (y.jf w tv b av).own y.dr=_;rw [dz _ (by rw [own.dead];simp)];exact own.dead
  ·rw [dz z (by rw [own.tab z hz];simp)];exact own.tab z hz
  ·rw [dz b' (by rw [(own.line b' hb').1];simp)];exact (own.line b' hb').1
  ·rw [dz z (by rw [(own.line b' hb').2 z hz];simp)];exact (own.line b' hb').2 z hz
  ·have:=own.node b' hb' d' hd' z hz;rw [dz z (by rw [this];simp)];exact this
  ·have hb2:b'∈y.jo++[b]:=hb';rcases aN.1 hb2 with q | q
   ·have hne:b'≠b:=fun e=>qx (by rw [<-e];exact q);refine ⟨by rw [dz b' (by rw [(own.tx b' q).1];simp)];exact (own.tx b' q).1,fun z hz=>?_⟩;rw [(eN hne).1,(eN hne).2] at hz;rw [dz z (by rw [(own.tx b' q).2 z hz];simp)];exact (own.tx b' q).2 z hz
   ·simp at q;subst q;refine ⟨hnew b' (.inl rfl),fun z hz=>?_⟩;rw [eB.1,eB.2] at hz;rcases hz with hz | hz
    ·exact hnew z (.inr hz)
    ·simp [Value.ownBlock] at hz
  ·by_cases e1:w.heap.size<=z/\tv.ownBlock=some z
   ·exact ⟨(fW hr e1.2).1,(fW hr e1.2).2.1⟩
   ·by_cases e2:w.heap.size<=z/\(z=b\/av.ownBlock=some z)
    ·refine ⟨by omega,?_⟩;rcases e2.2 with e | e
     ·subst e;exact hT.lt
     ·exact (fW ha e).2.1
    ·have hz3:y.own z≠.no:=by
      simp only [dY.jf] at hz;rw [aK e1,aK e2] at hz;exact hz
     have:=own.lt z hz3;exact ⟨this.1,aH this.2 hm.size⟩
  ·show (y.jo++[b]).Nodup;rw [bN];exact ⟨own.Eo,by simp,fun a ha c hc e=>by simp at hc;subst hc;subst e;exact qx ha⟩
 ·exact ⟨hm.mono (fun z hz e=>by rcases jb z e with q | q <;> rw [q] <;> simp),fun z hz=>Vm _ _ _ _ _ hz⟩
theorem yKc:∀ m:Nat,m<=5->(madeCells (Value.cells (.int .i64 0)) (m*1)).toList=(List.replicate m (0:Int)).map (Value.int .i64):=by
 intro m hm;obtain rfl | rfl | rfl | rfl | rfl | rfl:m=0\/m=1\/m=2\/m=3\/m=4\/m=5:=by omega
 all_goals kernel_rfl
theorem Tryz.Hi:(Tryz.prog.info? 87).map (fun i=>(i.zero,i.size,i.bytes))=some (some (.pointer none),1,8):=by kernel_rfl
def VL(w:World)(n c g:Nat)(y:dY)(s:dX)(e:Ending)(w':World):Prop:=e=.returned (.tuple #[.int .i64 (s.dW.length+1),.nilIface])/\∃ y',dx w' n c g y' (nf s)/\iG w y w' y'
theorem Tk(n c g:Nat)(y:dY)(s:dX)(w:World)(h:dx w n c g y s)(hll:2<=s.lines.length/\s.lines.length<=5)(hT:s.dW.length<60) :
  Calls Tryz.prog 13 #[.pointer (some ⟨g,0,none⟩)] w (VL w n c g y s):=by
 obtain ⟨j0,hj,Hf,He,Hd⟩:=info_parts Tryz.ry;obtain ⟨k0,hk,kz0,kz1,kz2⟩:=info_parts Tryz.Hi;obtain ⟨c0,-,-,-,-,-,c6⟩:=kF h.blk;have f6:=h.blk.frozen 6;obtain ⟨la,ey,hlv⟩:=eu h.fi;obtain ⟨ta,gL,oS⟩:=eu h.gW;have hlen:=h.iQ;have htl:=h.kN;rw [hlv,hlen] at c0;rw [oS,htl] at c6;have hg:=h.blk.lt;have kD:=h.low;have hrow:w.ownsRow n 87 1 (.slice ta s.dW.length gL) s.dW.length (y.jo.map jC):=by have:=h.gW;rw [oS,htl] at this;exact this
 -- the numbers
 obtain ⟨w1,hmk,IH,hg1⟩:=run_makeSlice_full (P:=Tryz.prog) w.drew n 26 3 j0 _ 1 Tryz.underlying26 hj Hf He .i64 .i64 s.lines.length (by omega) (by rw [Hd];omega) (by unfold maxLen;omega) (by show n<=w.heap.size;omega);have hds:w.drew.heap.size=w.heap.size:=rfl;rw [yKc _ hll.2,hds] at IH;rw [hds] at hmk;have dh:Mod dZ w w1:=((Mod.refl dZ w).drewN 1).grown hg1 (fun x hx _=>by cases hx);obtain ⟨w2,hw2⟩:∃ x,x=w1.alloc (.cells #[.int .i64 1,.slice (some ⟨w.heap.size,0,none⟩) s.lines.length s.lines.length,.slice none 0 0,.int .i64 0] 86):=⟨_,rfl⟩;have hm2:Mod dZ w1 w2:=by rw [hw2];exact (Mod.refl _ w1).alloc _
 have gp:dg w2 w1.heap.size [.int .i64 1,.slice (some ⟨w.heap.size,0,none⟩) s.lines.length s.lines.length,.slice none 0 0,.int .i64 0] 86:=by rw [hw2];exact dg.new w1 _ _
 obtain ⟨w3,hw3⟩:∃ x,x=w2.alloc (.cells #[.pointer (some ⟨w1.heap.size,0,none⟩)] 87):=⟨_,rfl⟩;have dy:Mod dZ w2 w3:=by rw [hw3];exact (Mod.refl _ w2).alloc _
 have jK:=(dh.trans hm2).trans dy;have hrow3:=fm hrow jK (fun _ _ _ _ e=>e);obtain ⟨v7,w7,gg,eJ,eS,_,iq⟩:=run_append_own_at (P:=Tryz.prog) w3 n 82 82 87 k0 _ 1 8 Tryz.underlying82 hk kz0 kz1 kz2 rfl (by omega) _ _ _ hrow3 ⟨w2.heap.size,0,none⟩ 1 1 [.pointer (some ⟨w1.heap.size,0,none⟩)] rfl (by rw [hw3];exact World.news_of_block (heap_alloc_new w2 _)) (by simp [Value.oneCell']) (by unfold maxLen;omega) (by omega) (by have:=jK.size;omega);obtain ⟨a7,fE,py⟩:=eu eJ;subst py;have sE:Mod (fun k=>(Value.slice ta s.dW.length gL).ownBlock=some k) w3 w7:=(Mod.refl _ w3).grown eS (fun x hx _=>hx);have hnb:(Value.slice ta s.dW.length gL).ownBlock≠some g:=oP hrow h.blk (by decide);have d0:=jK.cell c0 (fun e=>e);have d6:=jK.cell c6 (fun e=>e);have c07:=sE.cell d0 hnb;have c67:=sE.cell d6 hnb;have hg3:g<w3.heap.size:=aH hg jK.size;have Xu:g<w7.heap.size:=aH hg3 sE.size;have f67:=(sE.frozen (p:=⟨g,6,none⟩) hg3 hnb).trans ((jK.frozen (p:=⟨g,6,none⟩) hg (fun e=>e)).trans f6);have hrl:∀ z,(Value.slice ta s.dW.length gL).ownBlock=some z->z<w.heap.size:=fun z hz=>(fW hrow hz).2.1
 -- what comes of it
 have HF:Hid (∃ y',dx (w7.setCell ⟨g,6,none⟩ (.slice a7 (s.dW.length+1) fE)) n c g y' (nf s)/\iG w y (w7.setCell ⟨g,6,none⟩ (.slice a7 (s.dW.length+1) fE)) y'):=by
  have ib:Mod (eA g) w7 (w7.setCell ⟨g,6,none⟩ (.slice a7 (s.dW.length+1) fE)):=Mod.dt g 6 _;have qW:Mod (fun z=>z=g\/y.tv.ownBlock=some z) w (w7.setCell ⟨g,6,none⟩ (.slice a7 (s.dW.length+1) fE)):=((jK.mono (fun _ _ e=>e.elim)).trans (sE.mono (fun z _ e=>.inr (by rw [oS,htl];exact e)))).trans (ib.mono (fun z _ e=>.inl e));have CN:dg w7 g (KA y s.net.lost) 84:=(h.blk.mod jK (fun e=>e)).mod sE hnb;have tD:=oP eJ CN (by decide);have hbg:w1.heap.size≠g:=by have:=dh.size;omega
  have Ot:(Value.slice ta s.dW.length gL).ownBlock≠some w1.heap.size:=fun e=>by have:=hrl _ e;have:=dh.size;omega
  have hag:(Value.slice (some ⟨w.heap.size,0,none⟩) s.lines.length s.lines.length).ownBlock≠some g:=fun e=>by simp [Value.ownBlock] at e;omega
  have OB:w7.ownsRow n 3 1 (.slice (some ⟨w.heap.size,0,none⟩) s.lines.length s.lines.length) s.lines.length ((List.replicate s.lines.length (0:Int)).map (Value.int .i64)):=fm (fm IH (hm2.trans dy) (fun _ _ _ _ e=>e)) sE (fun z _ _ e q=>by have:=hrl z q;simp [Value.ownBlock] at e;omega);obtain ⟨q1,q2⟩:=h.jf (b:=w1.heap.size) (av:=.slice (some ⟨w.heap.size,0,none⟩) s.lines.length s.lines.length) (tv:=.slice a7 (s.dW.length+1) fE) qW (CN.set 6 _) (by
    rw [htl,ay];exact fm eJ ib (fun z _ _ e q=>tD (by rw [e];exact ai some q))) dh.size (((gp.mod dy (fun e=>e)).mod sE Ot).mod ib (fun e=>hbg e)) (fm OB ib (fun z _ _ e q=>hag (by rw [e];exact ai some q))) (fun z hz=>by simp [Value.ownBlock] at hz;omega) (by
    rcases iq with e | e
    ·exact .inl (by rw [e,oS,htl])
    ·exact .inr fun z hz=>by rw [e] at hz;simp only [ae] at hz;have:=jK.size;omega) (by omega)
  exact ⟨_,q1,q2⟩
 have HC:Hid (w.drew.cell? ⟨g,0,none⟩=some (.slice la s.lines.length ey)/\w.drew.cell? ⟨g,6,none⟩=some (.slice ta s.dW.length gL)):=⟨c0,c6⟩;have xE:Hid (w1.cell? ⟨g,0,none⟩=some (.slice la s.lines.length ey)/\w1.cell? ⟨g,6,none⟩=some (.slice ta s.dW.length gL)):=⟨dh.cell c0 (fun e=>e),dh.cell c6 (fun e=>e)⟩;have HC2:Hid (w2.cell? ⟨g,0,none⟩=some (.slice la s.lines.length ey)/\w2.cell? ⟨g,6,none⟩=some (.slice ta s.dW.length gL)):=⟨(dh.trans hm2).cell c0 (fun e=>e),(dh.trans hm2).cell c6 (fun e=>e)⟩;have HC3:Hid (w3.cell? ⟨g,0,none⟩=some (.slice la s.lines.length ey)/\w3.cell? ⟨g,6,none⟩=some (.slice ta s.dW.length gL)):=⟨d0,d6⟩;have rK:Hid (w7.cell? ⟨g,0,none⟩=some (.slice la s.lines.length ey)/\w7.cell? ⟨g,6,none⟩=some (.slice ta s.dW.length gL)):=⟨c07,c67⟩;have hT6:decide ((s.dW.length:Int) ≥ 60)=false:=aL (by omega);have Xc:(Instr.makeSlice 26 (.int .i64 s.lines.length) (.int .i64 s.lines.length)).run Tryz.prog w.drew=.ok (.slice (some ⟨w.heap.size,0,none⟩) s.lines.length s.lines.length) w1:=hmk;clear h hlv oS hrow IH hg1 dh hm2 gp dy jK hrow3 eJ eS iq sE hnb d0 d6 hg3 hrl hmk;go_enter Tryz.func13,Tryz.ntmps13;go_upto_region 3 with fail;refine Ln fun fr gI=>?_;refine MA fun Q1 kE=>?_;have fD:∀ (d:Nat) (v:Value) (c:List PanicEntry) (a:Act) (w:World),Q1 (.panic c) (a.put (some d) v) w->Q1 (.panic c) a w:=fun d v c a w h=>by rw [kE] at h ⊢;exact h
 have uU:=dV kE;clear kE;have hsz:fr.tmps.size=33:=by rw [gI];rfl
 obtain ⟨_,t0⟩:∃ h:0<fr.tmps.size,fr.tmps[0]=.pointer (some ⟨g,0,none⟩):=aG.1 (by rw [gI];rfl);have kI:=dV gI;clear gI;refine EZ 17 (fun wq=>wq.cell? ⟨g,0,none⟩=some (.slice la s.lines.length ey)/\wq.cell? ⟨g,6,none⟩=some (.slice ta s.dW.length gL)) rfl ?_;refine fT 17 0 11 (.pointer (some ⟨g,0,none⟩)) rfl rfl (fun c a w h=>fD _ _ c a w h) HC.out ⟨by rfl,fun wq hq=>by have q0:=hq.1;have q1:=hq.2;go_simp⟩ ?_;refine fT 17 1 12 (.pointer (some ⟨g,0,none⟩)) rfl rfl (fun c a w h=>fD _ _ c a w h) HC.out ⟨by rfl,fun wq hq=>by have q0:=hq.1;have q1:=hq.2;go_simp⟩ ?_;refine fT 17 2 13 (.pointer (some ⟨g,0,none⟩)) rfl rfl (fun c a w h=>fD _ _ c a w h) HC.out ⟨by rfl,fun wq hq=>by have q0:=hq.1;have q1:=hq.2;go_simp⟩ ?_;refine fT 17 3 14 (.pointer (some ⟨g,6,none⟩)) rfl rfl (fun c a w h=>fD _ _ c a w h) HC.out ⟨by rfl,fun wq hq=>by have q0:=hq.1;have q1:=hq.2;go_simp⟩ ?_;refine fT 17 4 15 (.slice ta s.dW.length gL) rfl rfl (fun c a w h=>fD _ _ c a w h) HC.out ⟨by rfl,fun wq hq=>by have q0:=hq.1;have q1:=hq.2;go_simp⟩ ?_;refine fT 17 5 16 (.pointer (some ⟨g,0,none⟩)) rfl rfl (fun c a w h=>fD _ _ c a w h) HC.out ⟨by rfl,fun wq hq=>by have q0:=hq.1;have q1:=hq.2;go_simp⟩ ?_;refine fT 17 6 17 (.pointer (some ⟨g,0,none⟩)) rfl rfl (fun c a w h=>fD _ _ c a w h) HC.out ⟨by rfl,fun wq hq=>by have q0:=hq.1;have q1:=hq.2;go_simp⟩ ?_;refine fT 17 7 18 (.pointer (some ⟨g,0,none⟩)) rfl rfl (fun c a w h=>fD _ _ c a w h) HC.out ⟨by rfl,fun wq hq=>by have q0:=hq.1;have q1:=hq.2;go_simp⟩ ?_;refine fT 17 8 19 (.slice la s.lines.length ey) rfl rfl (fun c a w h=>fD _ _ c a w h) HC.out ⟨by rfl,fun wq hq=>by have q0:=hq.1;have q1:=hq.2;go_simp⟩ ?_;refine fT 17 9 20 (.int .i64 s.lines.length) rfl rfl (fun c a w h=>fD _ _ c a w h) HC.out ⟨by rfl,fun wq hq=>by have q0:=hq.1;have q1:=hq.2;go_simp⟩ ?_;refine jW 17 10 21 rfl rfl (by kernel_rfl) rfl (v:=.slice (some ⟨w.heap.size,0,none⟩) s.lines.length s.lines.length) (w':=w1) (by go_simp) xE.out ?_;refine jW 17 11 22 rfl rfl (by kernel_rfl) rfl (v:=.agg #[.int .i64 1,.slice (some ⟨w.heap.size,0,none⟩) s.lines.length s.lines.length,.slice none 0 0,.int .i64 0]) (w':=w1) (by go_simp) xE.out ?_;refine jW 17 12 23 rfl rfl (by kernel_rfl) rfl (v:=.pointer (some ⟨w1.heap.size,0,none⟩)) (w':=w2) (by rw [hw2];go_simp) HC2.out ?_;refine jW 17 13 24 rfl rfl (by kernel_rfl) rfl (v:=.slice (some ⟨w2.heap.size,0,none⟩) 1 1) (w':=w3) (by rw [hw3];go_simp) HC3.out ?_;refine jW 17 14 25 rfl rfl (by kernel_rfl) rfl (v:=.slice a7 (s.dW.length+1) fE) (w':=w7) (ze (s:=.tmp 15) (x:=.tmp 24) (t:=82) rfl (by go_simp) (by go_simp) gg) rK.out ?_;refine jW 17 15 26 rfl rfl (by kernel_rfl) rfl (v:=.pointer (some ⟨g,0,none⟩)) (w':=w7) (by go_simp) rK.out ?_;refine jW 17 16 27 rfl rfl (by kernel_rfl) rfl (v:=.pointer (some ⟨g,6,none⟩)) (w':=w7) (by go_simp) rK.out ?_;refine KG 17 rfl (by kernel_rfl) rfl (w':=w7.setCell ⟨g,6,none⟩ (.slice a7 (s.dW.length+1) fE)) (by go_simp) ?_;refine ⟨by kernel_rfl,?_⟩;have kE:=uU.out;subst kE;have gI:=kI.out;subst gI;clear fD hsz t0 HC xE HC2 HC3 rK uU kI Xc hw2 hw3 gg;have hgg:g<(w7.setCell ⟨g,6,none⟩ (.slice a7 (s.dW.length+1) fE)).heap.size:=by simpa [World.setCell] using Xu
 go_wp2_with fail;go_ret2;exact ⟨by first | rfl | simp,HF.out⟩
theorem ko.nil(w:World)(L:Lo)(nv lv:Nat->Value):ko w L [] nv lv []:=⟨rfl,List.nodup_nil,fun j c s h=>by simp at h,fun c h=>by simp at h⟩
theorem ko.snoc{w w':World}{L:Lo}{bs:List Nat}{nv lv:Nat->Value}{ns:List eK}(h:ko w L bs nv lv ns){d:Nat}{x:eK}(hd:w.heap.size<=d)(hm:Mod dZ w w')(hN:fe w' L d (.slice none 0 0) (.slice none 0 0) x):ko w' L (bs++[d]) (kC nv d (.slice none 0 0)) (kC lv d (.slice none 0 0)) (ns++[x]):=by
 have hlt:∀ c∈bs,∀ z,gw c (nv c) (lv c) z->z<w.heap.size:=fun c hc z hz=>by
  obtain ⟨i,hi⟩:=aO hc;have hil:i<ns.length:=by have:=(aB.1 hi).1;have:=h.len;omega
  exact ((h.node i c _ hi (aA hil)).lt hz).2.1
 have hne:∀ c∈bs,c≠d:=fun c hc e=>by have:=hlt c hc c (.inl rfl);omega
 have vG:∀ z,gw d (kC nv d (.slice none 0 0) d) (kC lv d (.slice none 0 0) d) z->z=d:=fun z hz=>by
  rw [uJ,uJ] at hz;rcases hz with e | e | e
  ·exact e
  ·simp [Value.ownBlock] at e
  ·simp [Value.ownBlock] at e
 have hold:∀ c∈bs,∀ z,gw c (kC nv d (.slice none 0 0) c) (kC lv d (.slice none 0 0) c) z->gw c (nv c) (lv c) z:=fun c hc z hz=>by
  rw [uK _ _ (hne c hc),uK _ _ (hne c hc)] at hz;exact hz
 refine ⟨by rw [aD,aD,h.len];rfl,?_,fun i c s hc hs=>?_,fun c hc c' hc' hcc z hz hz'=>?_⟩
 ·rw [bN];exact ⟨h.nd,by simp,fun a ha c hc e=>by simp at hc;subst hc;exact hne a ha e⟩
 ·have hl:=h.len;by_cases hi:i<bs.length
  ·rw [aE hi] at hc;rw [aE (by omega)] at hs;have:=hne c (aC hc);rw [uK _ _ this,uK _ _ this];exact (h.node i c s hc hs).quiet hm
  ·rw [aM (by omega)] at hc hs;have hi0:i - bs.length=0:=by
    have:=(aB.1 hc).1;simp at this;omega
   rw [hi0] at hc;rw [show i - ns.length=0 by omega] at hs;simp at hc hs;subst hc hs;rw [uJ,uJ];exact hN
 ·rcases aN.1 hc with q | q <;> rcases aN.1 hc' with q' | q'
  ·exact h.ap c q c' q' hcc z (hold c q z hz) (hold c' q' z hz')
  ·simp at q';subst q';have:=vG z hz';have:=hlt c q z (hold c q z hz);omega
  ·simp at q;subst q;have:=vG z hz;have:=hlt c' q' z (hold c' q' z hz');omega
  ·simp at q q';exact hcc (q.trans q'.symm)
theorem yJz(k i:Nat):iu k (i+1)=iu k i++[Lj (10*(k:Int)+(i:Int))]:=by unfold iu;rw [aj,ay];rfl
structure Fl(w w':World)(L:Lo)(b:Nat)(bs:List Nat)(nv lv:Nat->Value)(rv v:Value)(l:jG)(ms:List dw):Prop where
 bn:w.heap.size<=b
 blk:dg w' b [rv,.int .i64 l.heard] 120
 row:w'.ownsRow w.heap.size 91 1 rv bs.length (bs.map jC)
 node:ko w' L bs nv lv l.nodes
 new:∀ c∈bs,∀ z,gw c (nv c) (lv c) z->w.heap.size<=z
 msg:eV w' L v ms
 fresh:lC w v
 md:Mod dZ w w'
theorem yFl(L:Lo)(k nodes:Nat)(w:World)(hk:k<=4)(h1:1<=nodes)(h4:nodes<=4)(hLn:L.n<=w.heap.size)(hLx:∀ z,L.x z->z<w.heap.size) :
  Calls Tryz.prog 47 #[.int .i64 k,.int .i64 nodes] w fun e w'=>∃ b bs nv lv rv v,e=.returned (.tuple #[.pointer (some ⟨b,0,none⟩),v])/\Fl w w' L b bs nv lv rv v (oD k nodes).1 (oD k nodes).2:=by
 obtain ⟨i0,hi,hz0,hz1,hz2⟩:=info_parts Tryz.AB;obtain ⟨w1,hw1⟩:∃ x,x=w.alloc (.cells #[.slice none 0 0,.int .i64 0] 120):=⟨_,rfl⟩;have dh:Mod dZ w w1:=by rw [hw1];exact (Mod.refl _ w).alloc _
 have ff:dg w1 w.heap.size [.slice none 0 0,.int .i64 0] 120:=by rw [hw1];exact dg.new w _ _
 have fJ:=dV dh;have kA:=dV ff;clear dh ff;go_enter Tryz.func47,Tryz.ntmps47;go_upto_region 2 with fail;rw [<-hw1];clear hw1;go_wp2_with fail;go_loopw [11] (fun j1 wr=>∃ (i:Nat) (bs:List Nat) (nv lv:Nat->Value) (rv:Value),i<=nodes/\j1=.int .i64 i/\bs.length=i/\dg wr w.heap.size [rv,.int .i64 0] 120/\wr.ownsRow w.heap.size 91 1 rv i (bs.map jC)/\ko wr L bs nv lv (iu k i)/\(∀ c∈bs,∀ z,gw c (nv c) (lv c) z->w.heap.size<=z)/\Mod dZ w wr) (fun j1 _=>nodes - (intOf j1).toNat)
 case atStart=>exact ⟨0,[],fun _=>.slice none 0 0,fun _=>.slice none 0 0,.slice none 0 0,aT _,rfl,rfl,kA.out,World.ownsRow_nil _ _ _ _,ko.nil _ _ _ _,fun c h=>by simp at h,fJ.out⟩
 case round=>
  obtain ⟨i,bs,nv,lv,rv,hil,rfl,hbl,hB,hrow,wg,hnew,hM⟩:=hrel;obtain ⟨wo,hwo⟩:∃ x,x=wr:=⟨_,rfl⟩;subst hwo;obtain ⟨ra,jl,No⟩:=eu hrow;subst No;by_cases hlt:i<nodes
  ·have xw:(i:Int)<(nodes:Int):=by omega
   have Xp:(0:Int)<=(i:Int):=by omega
   have AF:=hM.size;have hNW:=yTo L (10*(k:Int)+(i:Int)) wo.drew (by unfold gO;omega) (by show L.n<=wo.heap.size;omega) (fun z hz=>by have:=hLx z hz;show z<wo.heap.size;omega);have c0:=hB.cell 0 rfl;have f0:=hB.frozen 0;have zb:=hB.lt;have zG:=dV hNW;have oM:=dV wg;have HNE:=dV hnew;have JS:=dV hM;have TF:=dV hB;have ZW:=dV hrow;have TH:=dV hbl;have HC:Hid (wo.drew.cell? ⟨w.heap.size,0,none⟩=some (.slice ra i jl)):=c0;have xu:(0:Int)<=(k:Int)/\(k:Int)<=4:=by omega
   have hwa:IntKind.i64.wrap (10*(k:Int))=10*(k:Int):=IntWalk.i64_in _ ⟨by omega,by omega⟩;have hwb:IntKind.i64.wrap (10*(k:Int)+(i:Int))=10*(k:Int)+(i:Int):=IntWalk.i64_in _ ⟨by omega,by omega⟩;clear hNW wg hnew hM hB hrow hbl;go_upto_region 5 with fail;refine Ln fun fr gI=>?_;refine MA fun Q1 kE=>?_;have fD:∀ (d:Nat) (v:Value) (c:List PanicEntry) (a:Act) (w:World),Q1 (.panic c) (a.put (some d) v) w->Q1 (.panic c) a w:=fun d v c a w h=>by rw [kE] at h ⊢;exact h
   have uU:=dV kE;clear kE;have hsz:fr.tmps.size=32:=by rw [gI];rfl
   obtain ⟨_,t0⟩:∃ h:0<fr.tmps.size,fr.tmps[0]=.int .i64 k:=aG.1 (by rw [gI];rfl);obtain ⟨_,t6⟩:∃ h:6<fr.tmps.size,fr.tmps[6]=.pointer (some ⟨w.heap.size,0,none⟩):=aG.1 (by rw [gI];rfl);obtain ⟨_,t7⟩:∃ h:7<fr.tmps.size,fr.tmps[7]=.int .i64 i:=aG.1 (by rw [gI];rfl);have kI:=dV gI;clear gI;refine EZ 14 (fun wq=>wq.cell? ⟨w.heap.size,0,none⟩=some (.slice ra i jl)) rfl ?_;refine fT 14 0 14 (.pointer (some ⟨w.heap.size,0,none⟩)) rfl rfl (fun c a w h=>fD _ _ c a w h) HC.out ⟨by rfl,fun wq hq=>by have q0:wq.cell? ⟨w.heap.size,0,none⟩=some (.slice ra i jl):=hq;go_simp⟩ ?_;refine fT 14 1 15 (.pointer (some ⟨w.heap.size,0,none⟩)) rfl rfl (fun c a w h=>fD _ _ c a w h) HC.out ⟨by rfl,fun wq hq=>by have q0:wq.cell? ⟨w.heap.size,0,none⟩=some (.slice ra i jl):=hq;go_simp⟩ ?_;refine fT 14 2 16 (.pointer (some ⟨w.heap.size,0,none⟩)) rfl rfl (fun c a w h=>fD _ _ c a w h) HC.out ⟨by rfl,fun wq hq=>by have q0:wq.cell? ⟨w.heap.size,0,none⟩=some (.slice ra i jl):=hq;go_simp⟩ ?_;refine fT 14 3 17 (.pointer (some ⟨w.heap.size,0,none⟩)) rfl rfl (fun c a w h=>fD _ _ c a w h) HC.out ⟨by rfl,fun wq hq=>by have q0:wq.cell? ⟨w.heap.size,0,none⟩=some (.slice ra i jl):=hq;go_simp⟩ ?_;refine fT 14 4 18 (.slice ra i jl) rfl rfl (fun c a w h=>fD _ _ c a w h) HC.out ⟨by rfl,fun wq hq=>by have q0:wq.cell? ⟨w.heap.size,0,none⟩=some (.slice ra i jl):=hq;go_simp⟩ ?_;refine fT 14 5 19 (.int .i64 k) rfl rfl (fun c a w h=>fD _ _ c a w h) HC.out ⟨by rfl,fun wq hq=>by have q0:wq.cell? ⟨w.heap.size,0,none⟩=some (.slice ra i jl):=hq;go_simp⟩ ?_;refine fT 14 6 20 (.int .i64 (10*(k:Int))) rfl rfl (fun c a w h=>fD _ _ c a w h) HC.out ⟨by rfl,fun wq hq=>by have q0:wq.cell? ⟨w.heap.size,0,none⟩=some (.slice ra i jl):=hq;go_simp⟩ ?_;refine fT 14 7 21 (.int .i64 i) rfl rfl (fun c a w h=>fD _ _ c a w h) HC.out ⟨by rfl,fun wq hq=>by have q0:wq.cell? ⟨w.heap.size,0,none⟩=some (.slice ra i jl):=hq;go_simp⟩ ?_;refine fT 14 8 22 (.int .i64 (10*(k:Int)+(i:Int))) rfl rfl (fun c a w h=>fD _ _ c a w h) HC.out ⟨by rfl,fun wq hq=>by have q0:wq.cell? ⟨w.heap.size,0,none⟩=some (.slice ra i jl):=hq;go_simp⟩ ?_;refine GY 14 9 23 rfl rfl (by kernel_rfl) rfl (f:=87) (args:=#[.int .i64 (10*(k:Int)+(i:Int))]) (by go_simp) (zG.out.mono ?_);rintro e w5 ⟨rfl,mj,eP⟩;have Di:Mod dZ wo w5:=((Mod.refl dZ wo).drewN 1).trans eP;have Ks:w5.cell? ⟨w.heap.size,0,none⟩=some (.slice ra i jl):=Di.cell c0 (fun e=>e);refine ⟨_,rfl,Ks,?_⟩;obtain ⟨w6,sw⟩:∃ x,x=w5.alloc (.cells #[.pointer (some ⟨wo.heap.size,0,none⟩)] 91):=⟨_,rfl⟩;have ik:Mod dZ w5 w6:=by rw [sw];exact (Mod.refl _ w5).alloc _
   have tW:=Di.trans ik;have tB:=fm ZW.out tW (fun _ _ _ _ e=>e);obtain ⟨v7,w7,gg,eJ,eS,_,iq⟩:=run_append_own_at (P:=Tryz.prog) w6 w.heap.size 99 99 91 i0 _ 1 8 Tryz.underlying99 hi hz0 hz1 hz2 rfl (by omega) _ _ _ tB ⟨w5.heap.size,0,none⟩ 1 1 [.pointer (some ⟨wo.heap.size,0,none⟩)] rfl (by rw [sw];exact World.news_of_block (heap_alloc_new w5 _)) (by simp [Value.oneCell']) (by unfold maxLen;omega) (by omega) (by have:=tW.size;omega);obtain ⟨a7,fE,py⟩:=eu eJ;subst py;have fj:Mod (fun z=>(Value.slice ra i jl).ownBlock=some z) w6 w7:=(Mod.refl _ w6).grown eS (fun x hx _=>hx);have hnb:(Value.slice ra i jl).ownBlock≠some w.heap.size:=oP ZW.out TF.out (by decide);have Kr:w6.cell? ⟨w.heap.size,0,none⟩=some (.slice ra i jl):=ik.cell Ks (fun e=>e);have Dc:w7.cell? ⟨w.heap.size,0,none⟩=some (.slice ra i jl):=fj.cell Kr hnb;have zb6:w.heap.size<w6.heap.size:=aH zb tW.size;have zb7:w.heap.size<w7.heap.size:=aH zb6 fj.size;have f7:=(fj.frozen (p:=⟨w.heap.size,0,none⟩) zb6 hnb).trans ((tW.frozen (p:=⟨w.heap.size,0,none⟩) zb (fun e=>e)).trans f0);have HF:Hid (∃ (bs':List Nat) (oQ ja:Nat->Value),bs'.length=i+1/\dg (w7.setCell ⟨w.heap.size,0,none⟩ (.slice a7 (i+1) fE)) w.heap.size [.slice a7 (i+1) fE,.int .i64 0] 120/\(w7.setCell ⟨w.heap.size,0,none⟩ (.slice a7 (i+1) fE)).ownsRow w.heap.size 91 1 (.slice a7 (i+1) fE) (i+1) (bs'.map jC)/\ko (w7.setCell ⟨w.heap.size,0,none⟩ (.slice a7 (i+1) fE)) L bs' oQ ja (iu k (i+1))/\(∀ c∈bs',∀ z,gw c (oQ c) (ja c) z->w.heap.size<=z)/\Mod dZ w (w7.setCell ⟨w.heap.size,0,none⟩ (.slice a7 (i+1) fE))):=by
    have ib:Mod (eA w.heap.size) w7 (w7.setCell ⟨w.heap.size,0,none⟩ (.slice a7 (i+1) fE)):=Mod.dt _ 0 _;have CN:dg w7 w.heap.size [.slice ra i jl,.int .i64 0] 120:=(TF.out.mod tW (fun e=>e)).mod fj hnb;have tD:=oP eJ CN (by decide);have Dl:=oM.out.snoc (w':=w5) (d:=wo.heap.size) (x:=Lj (10*(k:Int)+(i:Int))) (aF _) Di mj;rw [<-yJz] at Dl;have Fb:=Dl.quiet ik;have hnd:∀ c∈bs++[wo.heap.size],∃ x,fe w6 L c (kC nv wo.heap.size (.slice none 0 0) c) (kC lv wo.heap.size (.slice none 0 0) c) x:=fun c hc=>by
     obtain ⟨j,hj⟩:=aO hc;have hjl:j<(iu k (i+1)).length:=by have:=(aB.1 hj).1;have:=Fb.len;omega
     exact ⟨_,Fb.node j c _ hj (aA hjl)⟩
    have oU:∀ c∈bs++[wo.heap.size],∀ z,gw c (kC nv wo.heap.size (.slice none 0 0) c) (kC lv wo.heap.size (.slice none 0 0) c) z->∀ cur t,w6.heap[z]?=some (.cells cur t)->t≠91/\t≠120:=fun c hc z hz cur t fN=>by
     obtain ⟨x,hx⟩:=hnd c hc;rcases hz with q | q | q
     ·have hBl:=hx.blk;unfold dg at hBl;rw [<-q,fN] at hBl;simp at hBl;rw [hBl.2];decide
     ·obtain ⟨_,_,kh,h2⟩:=fW hx.ns q;rw [fN] at h2;simp at h2;rw [h2.2];decide
     ·obtain ⟨us,_,h3,_⟩:=hx.lg;obtain ⟨_,_,kh,h2⟩:=fW h3 q;rw [fN] at h2;simp at h2;rw [h2.2];decide
    have hL7:=Fb.mod fj (Qm.row tB hLn (by decide)) (fun c hc z hz q=>by
     obtain ⟨_,_,cur,fN⟩:=fW tB q;exact (oU c hc z hz cur _ fN).1 rfl)
    have LH:dg w6 w.heap.size [.slice ra i jl,.int .i64 0] 120:=TF.out.mod tW (fun e=>e);refine ⟨bs++[wo.heap.size],kC nv wo.heap.size (.slice none 0 0),kC lv wo.heap.size (.slice none 0 0),by rw [aD,TH.out];rfl,CN.set 0 _,?_,?_,fun c hc z hz=>?_,?_⟩
    ·rw [ay];exact fm eJ ib (fun z _ _ e q=>tD (by rw [e];exact ai some q))
    ·refine hL7.mod ib (fun z hz' e=>?_) (fun c hc z hz e=>?_)
     ·simp only [eA] at e;subst e;rintro (e5 | ⟨⟨cur,fr,e5⟩,_⟩)
      ·have h8:w.heap.size<L.n:=e5;omega
      ·unfold dg at CN;rw [CN] at e5;simp at e5
     ·simp only [eA] at e;subst e;unfold dg at LH;exact (oU c hc _ hz _ _ LH).2 rfl
    ·rcases aN.1 hc with q | q
     ·by_cases e:c=wo.heap.size
      ·subst e;rw [uJ,uJ] at hz;rcases hz with e | e | e
       ·omega
       ·simp [Value.ownBlock] at e
       ·simp [Value.ownBlock] at e
      ·rw [uK _ _ e,uK _ _ e] at hz;exact HNE.out c q z hz
     ·simp at q;subst q;rw [uJ,uJ] at hz;rcases hz with e | e | e
      ·omega
      ·simp [Value.ownBlock] at e
      ·simp [Value.ownBlock] at e
    ·exact ((JS.out.trans tW).trans' fj (fun z hz q=>by have:=(fW tB q).1;omega)).trans' ib (fun z hz q=>by simp only [eA] at q;omega)
   clear tB eJ eS iq fj ik tW Di mj eP zG oM HNE JS TF ZW TH;refine jW 14 10 24 rfl rfl (by kernel_rfl) rfl (v:=.slice (some ⟨w5.heap.size,0,none⟩) 1 1) (w':=w6) (by rw [sw];go_simp) Kr ?_;refine jW 14 11 25 rfl rfl (by kernel_rfl) rfl (v:=.slice a7 (i+1) fE) (w':=w7) (ze (s:=.tmp 18) (x:=.tmp 24) (t:=99) rfl (by go_simp) (by go_simp) gg) Dc ?_;refine jW 14 12 26 rfl rfl (by kernel_rfl) rfl (v:=.pointer (some ⟨w.heap.size,0,none⟩)) (w':=w7) (by go_simp) Dc ?_;refine jW 14 13 27 rfl rfl (by kernel_rfl) rfl (v:=.pointer (some ⟨w.heap.size,0,none⟩)) (w':=w7) (by go_simp) Dc ?_;refine KG 14 rfl (by kernel_rfl) rfl (w':=w7.setCell ⟨w.heap.size,0,none⟩ (.slice a7 (i+1) fE)) (by go_simp) ?_;refine ⟨by kernel_rfl,?_⟩;have kE:=uU.out;subst kE;have gI:=kI.out;subst gI;clear fD hsz t0 t6 t7 HC uU kI sw gg Ks Kr Dc f7;obtain ⟨bs',oQ,ja,r1,r2,r3,r4,r5,r6⟩:=HF.out;have nX:Hid (∃ (i':Nat) (bs:List Nat) (nv lv:Nat->Value) (rv:Value),i'<=nodes/\Value.int .i64 ((i:Int)+1)=.int .i64 i'/\bs.length=i'/\dg (w7.setCell ⟨w.heap.size,0,none⟩ (.slice a7 (i+1) fE)) w.heap.size [rv,.int .i64 0] 120/\(w7.setCell ⟨w.heap.size,0,none⟩ (.slice a7 (i+1) fE)).ownsRow w.heap.size 91 1 rv i' (bs.map jC)/\ko (w7.setCell ⟨w.heap.size,0,none⟩ (.slice a7 (i+1) fE)) L bs nv lv (iu k i')/\(∀ c∈bs,∀ z,gw c (nv c) (lv c) z->w.heap.size<=z)/\Mod dZ w (w7.setCell ⟨w.heap.size,0,none⟩ (.slice a7 (i+1) fE))):=⟨i+1,bs',oQ,ja,_,by omega,rfl,r1,r2,r3,r4,r5,r6⟩;clear HF r1 r2 r3 r4 r5 r6;go_wp2_with fail;go_roundw
   case rel=>exact nX.out
   case measure=>simp [intOf];omega
  ·obtain rfl:i=nodes:=by omega
   have hNL:oD k i=mZ ⟨iu k i,0⟩:=rfl;have Ia:nz ⟨iu k i,0⟩=1:=by unfold nz;rw [aI,yBv k i (by omega)];rfl
   have hnl:(iu k i).length=i:=by simp [iu]
   have hMo:=hM;have hz:=hM.size;have QX:=dV (zXw L.n L w.heap.size bs nv lv ⟨iu k i,0⟩ (.slice ra i jl) wo rfl hB (by rw [hbl];exact uL hrow hLn) wg (by show 0<(iu k i).length;omega) (by show (iu k i).length<=4;omega) (by rw [Ia];omega) (fun x hx=>by
    rw [Ia];have hx':x∈iu k i:=hx;unfold iu at hx';obtain ⟨j,_,rfl⟩:=af.1 hx';show (0:Int)<1;omega) (by
    unfold iB;rw [List.Nodup,cB];exact (yHq k i).imp (fun q=>by omega)) (by omega))
   have HF:Hid (∀ w7 (v7:Value) (yt wO:Nat->Value),ko w7 L bs yt wO (mZ ⟨iu k i,0⟩).1.nodes->eV w7 L v7 (mZ ⟨iu k i,0⟩).2->lC wo v7->(∀ d∈bs,iF wo (nv d) (yt d)/\iF wo (lv d) (wO d))->Mod (fun z=>z∈bs) wo w7->Fl w w7 L w.heap.size bs yt wO (.slice ra i jl) v7 (oD k i).1 (oD k i).2):=fun w7 v7 yt wO q1 q2 q3 q4 q5=>by
    have hbs:∀ c∈bs,w.heap.size<=c:=fun c hc=>hnew c hc c (.inl rfl);have oU:∀ c∈bs,∃ x,fe wo L c (nv c) (lv c) x:=fun c hc=>by
     obtain ⟨j,hj⟩:=aO hc;have hjl:j<(iu k i).length:=by have:=(aB.1 hj).1;have:=wg.len;omega
     exact ⟨_,wg.node j c _ hj (aA hjl)⟩
    have hb:w.heap.size∉bs:=fun q=>by
     obtain ⟨x,hx⟩:=oU _ q;have h1:=hx.blk;unfold dg at h1 hB;rw [hB] at h1;simp at h1
    have hr:∀ z,(Value.slice ra i jl).ownBlock=some z->z∉bs:=fun z hz' q=>by
     obtain ⟨x,hx⟩:=oU _ q;exact oP hrow hx.blk (by decide) hz'
    refine ⟨aF _,hB.mod q5 hb,by rw [hbl];exact fm hrow q5 (fun z _ _ e q=>hr z e q),q1,fun c hc z hz'=>?_,q2,fun z hz'=>aJ hz (q3 z hz'),hM.trans' q5 (fun z hz' q=>by have:=hbs z q;omega)⟩;rcases hz' with e | e | e
    ·rw [e];exact hbs c hc
    ·rcases (q4 c hc).1 with q | q
     ·exact hnew c hc z (.inr (.inl (by rw [<-q];exact e)))
     ·exact aJ hz (q z e)
    ·rcases (q4 c hc).2 with q | q
     ·exact hnew c hc z (.inr (.inr (by rw [<-q];exact e)))
     ·exact aJ hz (q z e)
   have zb:=hB.lt;clear hB hrow wg hnew hM hNL Ia hnl hMo;go_wp2_with fail;refine QX.out.mono ?_;rintro e w7 ⟨v7,yt,wO,rfl,q1,q2,q3,q4,q5⟩;obtain ⟨Rz,Ry,rz⟩:=q2.slice;subst rz;have HF7:=dV (HF.out w7 _ yt wO q1 q2 q3 q4 q5);clear q1 q2 q3 q4 q5 QX HF;go_wp2_with fail;go_ret2;exact ⟨_,_,_,_,_,_,rfl,HF7.out⟩
open Classical in
noncomputable def oG(w:World)(y:dY)(lv:Value)(b:Nat)(rv:Value)(bs:List Nat)(nv lf:Nat->Value)(x:Nat):Tag:=
 if w.heap.size<=x/\lv.ownBlock=some x then .fi else if w.heap.size<=x/\(x=b\/rv.ownBlock=some x) then .line b else if h:w.heap.size<=x/\∃ c∈bs,gw c (nv c) (lf c) x then .node (Classical.choose h.2) else y.own x
theorem TR(w:World)(y:dY)(lv:Value)(b:Nat)(rv:Value)(bs:List Nat)(nv lf:Nat->Value){x:Nat}(h:x<w.heap.size):oG w y lv b rv bs nv lf x=y.own x:=by
 unfold oG;rw [aK (fun e=>by omega),aK (fun e=>by omega),dif_neg (fun e=>by omega)]
theorem dx.ZK{w w':World}{n c g:Nat}{y:dY}{s:dX}(h:dx w n c g y s){lv rv:Value}{b:Nat}{bs:List Nat}{nv lf:Nat->Value}{l:jG}
  (hm:Mod (fun z=>z=g\/y.lv.ownBlock=some z) w w') (hB:dg w' g [lv,.map (some y.dr),y.wv,.int .i64 s.net.lost,.map y.mr,.map y.q.m,y.tv] 84) (hr:w'.ownsRow n 102 1 lv (y.gF.length+1) ((y.gF++[b]).map jC)) (h1:iF w y.lv lv)
  (hb:w.heap.size<=b) (hL:dg w' b [rv,.int .i64 l.heard] 120) (hrow:w'.ownsRow n 91 1 rv bs.length (bs.map jC)) (No:∀ z,rv.ownBlock=some z->w.heap.size<=z) (hN:ko w' (y.lo n) bs nv lf l.nodes) (hnew:∀ d∈bs,∀ z,gw d (nv d) (lf d) z->w.heap.size<=z) :
  ∃ y',dx w' n c g y' { s with lines:=s.lines++[l] }/\iG w y w' y'/\y'.lo n=y.lo n/\(∀ z,w.heap.size<=z->lv.ownBlock≠some z->z≠b->rv.ownBlock≠some z->(∀ d∈bs,¬ gw d (nv d) (lf d) z)->y'.own z=.no):=by
 have own:=h.own;have jb:∀ z,(z=g\/y.lv.ownBlock=some z)->y.own z=.main\/y.own z=.fi:=fun z e=>by
  rcases e with e | e
  ·rw [e];exact .inl own.main
  ·exact .inr (own.fi z e)
 have hq:Qm w (y.lo n) (fun z=>z=g\/y.lv.ownBlock=some z):=fun z hz e=>by
  rintro (e1 | ⟨⟨cur,fr,e1⟩,_⟩)
  ·have h8:z<n:=e1;have:=(own.lt z (by rcases jb z e with q | q <;> rw [q] <;> simp)).1;omega
  ·rcases e with e | e
   ·subst e;have:=h.blk;unfold dg at this;rw [this] at e1;simp at e1
   ·obtain ⟨_,_,kh,h2⟩:=fW h.fi e;rw [h2] at e1;simp at e1
 have ht:re w w' n y (fun t=>t=.main\/t=.fi):=⟨⟨_,hm,hq,fun z hz e=>⟨jb z e,by rcases jb z e with q | q <;> rw [q] <;> simp⟩⟩⟩;have yw:∀ z,w.heap.size<=z->y.own z=.no:=fun z hz=>aS fun e=>by have:=(own.lt z e).2;omega
 have qx:b∉y.gF:=fun q=>by have:=(own.lt b (by rw [(own.line b q).1];simp)).2;omega
 have YJ:∀ d∈bs,w.heap.size<=d:=fun d hd=>hnew d hd d (.inl rfl);have oV:∀ b'∈y.gF,∀ d∈y.fL b',d∉bs:=fun b' hb' d hd q=>by
  have e:=own.node b' hb' d hd d (.inl rfl);have:=(own.lt d (by rw [e];simp)).2;have:=YJ d q;omega
 have oU:∀ d∈bs,∃ x,fe w' (y.lo n) d (nv d) (lf d) x:=fun d hd=>by
  obtain ⟨j,hj⟩:=aO hd;have hjl:j<l.nodes.length:=by have:=(aB.1 hj).1;have:=hN.len;omega
  exact ⟨_,hN.node j d _ hj (aA hjl)⟩
 have hty:∀ d∈bs,∀ z,gw d (nv d) (lf d) z->∀ cur t,w'.heap[z]?=some (.cells cur t)->t≠91/\t≠120/\t≠102:=fun d hd z hz cur t fN=>by
  obtain ⟨x,hx⟩:=oU d hd;rcases hz with q | q | q
  ·have hBl:=hx.blk;unfold dg at hBl;rw [<-q,fN] at hBl;simp at hBl;rw [hBl.2];decide
  ·obtain ⟨_,_,kh,h2⟩:=fW hx.ns q;rw [fN] at h2;simp at h2;rw [h2.2];decide
  ·obtain ⟨us,_,h3,_⟩:=hx.lg;obtain ⟨_,_,kh,h2⟩:=fW h3 q;rw [fN] at h2;simp at h2;rw [h2.2];decide
 let y':dY:={ y with lv:=lv,gF:=y.gF++[b],rR:=fun x=>if x=b then rv else y.rR x,fL:=fun x=>if x=b then bs else y.fL x,kK:=fun x=>if x∈bs then nv x else y.kK x,kL:=fun x=>if x∈bs then lf x else y.kL x,own:=oG w y lv b rv bs nv lf }
 have eB:y'.rR b=rv/\y'.fL b=bs:=by constructor <;> simp [y']
 have eN:∀ {x},x≠b->y'.rR x=y.rR x/\y'.fL x=y.fL x:=fun {x} hx=>by constructor <;> simp [y',hx]
 have eD:∀ {x},x∈bs->y'.kK x=nv x/\y'.kL x=lf x:=fun {x} hx=>by constructor <;> simp [y',hx]
 have eO:∀ {x},x∉bs->y'.kK x=y.kK x/\y'.kL x=y.kL x:=fun {x} hx=>by constructor <;> simp [y',hx]
 have dz:∀ z,y.own z≠.no->y'.own z=y.own z:=fun z hz=>TR _ _ _ _ _ _ _ _ (own.lt z hz).2;have OR:∀ z,lv.ownBlock=some z->y'.own z=.fi:=fun z e=>by
  show oG w y lv b rv bs nv lf z=_;by_cases hlt:z<w.heap.size
  ·rw [TR _ _ _ _ _ _ _ _ hlt];rcases h1 with q | q
   ·exact own.fi z (by rw [<-q];exact e)
   ·have:=q z e;omega
  ·unfold oG;rw [aP ⟨by omega,e⟩]
 have nN:∀ z,(z=b\/rv.ownBlock=some z)->y'.own z=.line b:=fun z e=>by
  show oG w y lv b rv bs nv lf z=_;have hz:w.heap.size<=z:=e.elim (fun e=>by omega) (No z);unfold oG;rw [aK,aP ⟨hz,e⟩];rintro ⟨_,q⟩;obtain ⟨_,_,cur,fN⟩:=fW hr q;rcases e with e | e
  ·subst e;unfold dg at hL;rw [fN] at hL;simp at hL
  ·obtain ⟨_,_,kh,h2⟩:=fW hrow e;rw [fN] at h2;simp at h2
 have rS:∀ d∈bs,∀ z,gw d (nv d) (lf d) z->y'.own z=.node d:=fun d hd z hz=>by
  show oG w y lv b rv bs nv lf z=_;have hzn:=hnew d hd z hz;unfold oG;rw [aK,aK]
  ·have hex:w.heap.size<=z/\∃ c∈bs,gw c (nv c) (lf c) z:=⟨hzn,d,hd,hz⟩;rw [dif_pos hex];have hsp:=dQ hex.2;congr 1;exact aS fun e=>hN.ap _ hsp.1 d hd e z hsp.2 hz
  ·rintro ⟨_,q | q⟩
   ·subst q;unfold dg at hL;exact (hty d hd z hz _ _ hL).2.1 rfl
   ·obtain ⟨_,_,cur,fN⟩:=fW hrow q;exact (hty d hd z hz _ _ fN).1 rfl
  ·rintro ⟨_,q⟩;obtain ⟨_,_,cur,fN⟩:=fW hr q;exact (hty d hd z hz _ _ fN).2.2 rfl
 have hbs:∀ x∈y.gF,x≠b:=fun x hx e=>qx (by rw [<-e];exact hx);refine ⟨y',⟨hB,h.vU ht (by simp),h.oY ht (by simp),h.tY ht (by simp),h.qn,?_,?_,fun i b' l' hb' hl=>?_,h.oW ht (by simp),h.kN,fun i b' t hb' hti=>(have q:=h.Dq ht hb' hti (by simp);⟨q.blk,q.ats,q.wr⟩),?_⟩,⟨hm.mono (fun z hz e=>by rcases jb z e with q | q <;> rw [q] <;> simp),fun z hz=>TR _ _ _ _ _ _ _ _ hz⟩,rfl,fun z hz z1 z2 z3 z4=>?_⟩
 ·show w'.ownsRow n 102 1 lv (y.gF++[b]).length ((y.gF++[b]).map jC);rw [aD];exact hr
 ·show (y.gF++[b]).length=(s.lines++[l]).length;rw [aD,aD,h.iQ];rfl
 ·have hb2:(y.gF++[b])[i]?=some b':=hb';have hl2:(s.lines++[l])[i]?=some l':=hl;have hll:=h.iQ;by_cases hlt:i<y.gF.length
  ·rw [aE hlt] at hb2;rw [aE (by omega)] at hl2;have Al:=aC hb2;have hne:=hbs b' Al;have q:=h.qF ht hb2 hl2 (by simp) (fun d _=>by simp);refine ⟨by rw [(eN hne).1];exact q.blk,by rw [(eN hne).1,(eN hne).2];exact q.row,by rw [(eN hne).2];exact q.len,fun j d x hd hx=>?_⟩;rw [(eN hne).2] at hd;have Aj:=oV b' Al d (aC hd);show fe w' (y.lo n) d (y'.kK d) (y'.kL d) x;rw [(eO Aj).1,(eO Aj).2];exact q.node j d x hd hx
  ·rw [aM (by omega)] at hb2 hl2;have hi:i - y.gF.length=0:=by
    have:=(aB.1 hb2).1;simp at this;omega
   rw [hi] at hb2;rw [show i - s.lines.length=0 by omega] at hl2;simp at hb2 hl2;subst hb2 hl2;refine ⟨by rw [eB.1];exact hL,by rw [eB.1,eB.2];exact hrow,by rw [eB.2];exact hN.len,fun j d x hd hx=>?_⟩;rw [eB.2] at hd;have xy:=aC hd;show fe w' (y.lo n) d (y'.kK d) (y'.kL d) x;rw [(eD xy).1,(eD xy).2];exact hN.node j d x hd hx
 ·refine ⟨by rw [dz _ (by rw [own.main];simp)];exact own.main,fun z hz=>OR z hz,fun z hz=>?_,fun z hz=>?_,?_,fun z hz=>?_,fun b' hb'=>?_,fun b' hb' d' hd' z hz=>?_,fun b' hb'=>⟨?_,fun z hz=>?_⟩,fun z hz=>?_,?_,own.Eo,?_⟩
  ·rw [dz z (by rw [own.gW z hz];simp)];exact own.gW z hz
  ·rw [dz z (by rw [own.net z hz];simp)];exact own.net z hz
  ·show y'.own y.dr=_;rw [dz _ (by rw [own.dead];simp)];exact own.dead
  ·rw [dz z (by rw [own.tab z hz];simp)];exact own.tab z hz
  ·have hb2:b'∈y.gF++[b]:=hb';rcases aN.1 hb2 with q | q
   ·have hne:=hbs b' q;refine ⟨by rw [dz b' (by rw [(own.line b' q).1];simp)];exact (own.line b' q).1,fun z hz=>?_⟩;rw [(eN hne).1] at hz;rw [dz z (by rw [(own.line b' q).2 z hz];simp)];exact (own.line b' q).2 z hz
   ·simp at q;subst q;exact ⟨nN b' (.inl rfl),fun z hz=>by rw [eB.1] at hz;exact nN z (.inr hz)⟩
  ·have hb2:b'∈y.gF++[b]:=hb';rcases aN.1 hb2 with q | q
   ·have hne:=hbs b' q;rw [(eN hne).2] at hd';have Aj:=oV b' q d' hd';rw [(eO Aj).1,(eO Aj).2] at hz;have:=own.node b' q d' hd' z hz;rw [dz z (by rw [this];simp)];exact this
   ·simp at q;subst q;rw [eB.2] at hd';rw [(eD hd').1,(eD hd').2] at hz;exact rS d' hd' z hz
  ·rw [dz b' (by rw [(own.tx b' hb').1];simp)];exact (own.tx b' hb').1
  ·rw [dz z (by rw [(own.tx b' hb').2 z hz];simp)];exact (own.tx b' hb').2 z hz
  ·have hz':oG w y lv b rv bs nv lf z≠.no:=hz;by_cases e1:w.heap.size<=z/\lv.ownBlock=some z
   ·exact ⟨(fW hr e1.2).1,(fW hr e1.2).2.1⟩
   ·by_cases e2:w.heap.size<=z/\(z=b\/rv.ownBlock=some z)
    ·rcases e2.2 with e | e
     ·subst e;have kD:=h.low;have:=h.blk.lt;exact ⟨by omega,hL.lt⟩
     ·exact ⟨(fW hrow e).1,(fW hrow e).2.1⟩
    ·by_cases e3:w.heap.size<=z/\∃ c∈bs,gw c (nv c) (lf c) z
     ·obtain ⟨_,d,hd,hzd⟩:=e3;obtain ⟨x,hx⟩:=oU d hd;have:=hx.lt hzd;exact ⟨this.1,this.2.1⟩
     ·have hz3:y.own z≠.no:=by
       unfold oG at hz';rw [aK e1,aK e2,dif_neg e3] at hz';exact hz'
      have:=own.lt z hz3;exact ⟨this.1,aH this.2 hm.size⟩
  ·show (y.gF++[b]).Nodup;rw [bN];exact ⟨own.Bv,by simp,fun a ha c hc e=>by simp at hc;subst hc;subst e;exact qx ha⟩
  ·show ((y.gF++[b]).flatMap y'.fL).Nodup;have e1:y.gF.flatMap y'.fL=y.gF.flatMap y.fL:=by
    have:∀ ls:List Nat,(∀ x∈ls,x≠b)->ls.flatMap y'.fL=ls.flatMap y.fL:=by
     intro ls
     induction ls with
     | nil=>intro _;rfl
     | cons a ls ih=>intro hx;rw [bH,bH,ih (fun x hx'=>hx x (by simp [hx'])),(eN (hx a (by simp))).2]
    exact this y.gF hbs
   rw [dG,e1];simp only [bH,List.flatMap_nil,cW];rw [eB.2,bN];refine ⟨own.yu,hN.nd,fun a ha c hc e=>?_⟩;subst e;obtain ⟨b',hb',hd⟩:=cS.1 ha;exact oV b' hb' a hd hc
 ·show oG w y lv b rv bs nv lf z=.no;unfold oG;rw [aK (fun e=>z1 e.2),aK (fun e=>e.2.elim z2 z3),dif_neg (fun e=>by obtain ⟨_,d,hd,q⟩:=e;exact z4 d hd q)];exact yw z hz
end Go.Proofs.YtmaiggbnceejiaaGreatDoor
