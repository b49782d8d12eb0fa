import Derived.Test.YtmaiggbnceejiaaGreatDoorP26
set_option linter.unusedVariables false
set_option maxRecDepth 100000
set_option maxHeartbeats 16000000
namespace Go.Proofs.YtmaiggbnceejiaaGreatDoor
open Go.RowKit Go.Lib Go.Maps
open Classical in
noncomputable def dX.jS(y:dX)(w:World)(tv:Value)(b:Nat)(av:Value):dX:=
 { y with tv:=tv,ja:=y.ja++[b],jN:=fun x=>if x=b then av else y.jN x,jf:=fun x=>if x=b then (.slice none 0 0) else y.jf x,own:=fun x=>if w.heap.size<=x/\tv.ownBlock=some x then .gR else if w.heap.size<=x/\(x=b\/av.ownBlock=some x) then .tx b else y.own x }
theorem Su(y:dX)(w:World)(tv:Value)(b:Nat)(av:Value){x:Nat}(h:x<w.heap.size):(y.jS w tv b av).own x=y.own x:=by
 simp only [dX.jS];rw [aE (fun e=>by omega),aE (fun e=>by omega)]
theorem du.jS{w w':World}{n c g:Nat}{y:dX}{s:dW}(h:du w n c g y s){tv av:Value}{b:Nat}
  (hm:Mod (fun z=>z=g\/y.tv.ownBlock=some z) w w') (hB:dh w' g [y.lv,.map (some y.dr),y.wv,.int .i64 s.net.lost,.map y.mr,.map y.q.m,tv] 84) (hr:w'.ownsRow n 87 1 tv (y.ja.length+1) ((y.ja++[b]).map iz))
  (hb:w.heap.size<=b) (hT:dh w' b [.int .i64 1,av,.slice none 0 0,.int .i64 0] 86) (ha:w'.ownsRow n 3 1 av s.lines.length ((List.replicate s.lines.length (0:Int)).map (Value.int .i64))) (ni:∀ k,av.ownBlock=some k->w.heap.size<=k) (h1:iC w y.tv tv) (hn:n<=w.heap.size) :
  du w' n c g (y.jS w tv b av) (nC s)/\iD w y w' (y.jS w tv b av):=by
 have own:=h.own;have jR:∀ z,(z=g\/y.tv.ownBlock=some z)->y.own z=.main\/y.own z=.gR:=fun z e=>by
  rcases e with e | e
  ·rw [e];exact .inl own.main
  ·exact .inr (own.gR z e)
 have hq:Qm w (y.lo n) (fun z=>z=g\/y.tv.ownBlock=some z):=fun z hz e=>by
  rintro (e1 | ⟨⟨cur,fr,e1⟩,_⟩)
  ·have h8:z<n:=e1;have:=(own.lt z (by rcases jR z e with q | q <;> rw [q] <;> simp)).1;omega
  ·rcases e with e | e
   ·subst e;have:=h.blk;unfold dh at this;rw [this] at e1;simp at e1
   ·obtain ⟨_,_,kf,h2⟩:=ft h.gR e;rw [h2] at e1;simp at e1
 have ht:rM w w' n y (fun t=>t=.main\/t=.gR):=⟨⟨_,hm,hq,fun z hz e=>⟨jR z e,by rcases jR z e with q | q <;> rw [q] <;> simp⟩⟩⟩;have uF:b∉y.ja:=fun q=>by have:=(own.lt b (by rw [(own.tx b q).1];simp)).2;omega
 have hlo:(y.jS w tv b av).lo n=y.lo n:=by
  unfold dX.lo;congr 1;funext k;apply propext;constructor
  ·rintro ⟨t,ht,hk⟩;rcases aL.1 ht with q | q
   ·have hne:t≠b:=fun e=>uF (by rw [<-e];exact q);exact ⟨t,q,by simpa [dX.jS,hne] using hk⟩
   ·simp at q;subst q;simp [dX.jS,Value.ownBlock] at hk
  ·rintro ⟨t,ht,hk⟩;have hne:t≠b:=fun e=>uF (by rw [<-e];exact ht);exact ⟨t,aL.2 (.inl ht),by simpa [dX.jS,hne] using hk⟩
 have dv:∀ z,y.own z≠.no->(y.jS w tv b av).own z=y.own z:=fun z hz=>Su _ _ _ _ _ (own.lt z hz).2;have hrow:∀ z,tv.ownBlock=some z->(y.jS w tv b av).own z=.gR:=fun z e=>by
  by_cases hlt:z<w.heap.size
  ·rw [Su _ _ _ _ _ hlt];rcases h1 with q | q
   ·exact own.gR z (by rw [<-q];exact e)
   ·have:=q z e;omega
  ·simp only [dX.jS];rw [aJ ⟨by omega,e⟩]
 have hnt:∀ z,z=b\/av.ownBlock=some z->tv.ownBlock≠some z:=fun z e q=>by
  obtain ⟨_,_,cur,fX⟩:=ft hr q;rcases e with e | e
  ·subst e;unfold dh at hT;rw [fX] at hT;simp at hT
  ·obtain ⟨_,_,kf,h2⟩:=ft ha e;rw [fX] at h2;simp at h2
 have hnew:∀ z,z=b\/av.ownBlock=some z->(y.jS w tv b av).own z=.tx b:=fun z e=>by
  simp only [dX.jS];rw [aE (fun q=>hnt z e q.2),aJ ⟨e.elim (fun e=>by omega) (ni z),e⟩]
 have eB:(y.jS w tv b av).jN b=av/\(y.jS w tv b av).jf b=.slice none 0 0:=by simp [dX.jS]
 have eN:∀ {x},x≠b->(y.jS w tv b av).jN x=y.jN x/\(y.jS w tv b av).jf x=y.jf x:=fun {x} hx=>by simp [dX.jS,hx]
 refine ⟨⟨hB,?_,h.oW ht (by simp),h.tB ht (by simp),h.qn,h.oV ht (by simp),h.iN,fun k b' l hb' hl=>?_,?_,?_,fun i b' t hb' hti=>?_,?_⟩,?_⟩
 ·have:=h.vB ht (by simp);rw [hlo];exact this
 ·have q:=h.qC ht hb' hl (by simp) (fun d _=>by simp);refine ⟨q.blk,q.row,q.len,fun j d x hd hx=>?_⟩;have:=q.node j d x hd hx;unfold wN at this ⊢;rw [hlo];exact this
 ·show w'.ownsRow n 87 1 tv (y.ja++[b]).length ((y.ja++[b]).map iz);rw [aD];exact hr
 ·show (y.ja++[b]).length=(s.dV++[_]).length;rw [aD,aD,h.kM];rfl
 ·have hb2:(y.ja++[b])[i]?=some b':=hb';have ht2:(s.dV++[(⟨1,List.replicate s.lines.length 0,[],0⟩:jO)])[i]?=some t:=hti;have htl:=h.kM;by_cases hlt:i<y.ja.length
  ·rw [aI hlt] at hb2;rw [aI (by omega)] at ht2;have hne:b'≠b:=fun e=>uF (by rw [<-e];exact aC hb2);have q:=h.DG ht hb2 ht2 (by simp);refine ⟨?_,?_,?_⟩
   ·rw [(eN hne).1,(eN hne).2];exact q.blk
   ·rw [(eN hne).1];exact q.ats
   ·rw [(eN hne).2];exact q.wr
  ·rw [aO (by omega)] at hb2 ht2;have hi:i - y.ja.length=0:=by
    have:=(aB.1 hb2).1;simp at this;omega
   rw [hi] at hb2;rw [show i - s.dV.length=0 by omega] at ht2;simp at hb2 ht2;subst hb2 ht2;refine ⟨?_,?_,?_⟩
   ·rw [eB.1,eB.2];exact hT
   ·rw [eB.1];show w'.ownsRow n 3 1 av (List.replicate s.lines.length (0:Int)).length _;rw [List.length_replicate];exact ha
   ·rw [eB.2];exact World.ownsRow_nil _ _ _ _
 ·refine ⟨by rw [dv _ (by rw [own.main];simp)];exact own.main,fun z hz=>?_,fun z hz=>hrow z hz,fun z hz=>?_,?_,fun z hz=>?_,fun b' hb'=>⟨?_,fun z hz=>?_⟩,fun b' hb' d' hd' z hz=>?_,fun b' hb'=>?_,fun z hz=>?_,own.BC,?_,own.yE⟩
  ·rw [dv z (by rw [own.fm z hz];simp)];exact own.fm z hz
  ·rw [dv z (by rw [own.net z hz];simp)];exact own.net z hz
  ·show (y.jS w tv b av).own y.dr=_;rw [dv _ (by rw [own.dead];simp)];exact own.dead
  ·rw [dv z (by rw [own.tab z hz];simp)];exact own.tab z hz
  ·rw [dv b' (by rw [(own.line b' hb').1];simp)];exact (own.line b' hb').1
  ·rw [dv z (by rw [(own.line b' hb').2 z hz];simp)];exact (own.line b' hb').2 z hz
  ·have:=own.node b' hb' d' hd' z hz;rw [dv z (by rw [this];simp)];exact this
  ·have hb2:b'∈y.ja++[b]:=hb';rcases aL.1 hb2 with q | q
   ·have hne:b'≠b:=fun e=>uF (by rw [<-e];exact q);refine ⟨by rw [dv b' (by rw [(own.tx b' q).1];simp)];exact (own.tx b' q).1,fun z hz=>?_⟩;rw [(eN hne).1,(eN hne).2] at hz;rw [dv z (by rw [(own.tx b' q).2 z hz];simp)];exact (own.tx b' q).2 z hz
   ·simp at q;subst q;refine ⟨hnew b' (.inl rfl),fun z hz=>?_⟩;rw [eB.1,eB.2] at hz;rcases hz with hz | hz
    ·exact hnew z (.inr hz)
    ·simp [Value.ownBlock] at hz
  ·by_cases e1:w.heap.size<=z/\tv.ownBlock=some z
   ·exact ⟨(ft hr e1.2).1,(ft hr e1.2).2.1⟩
   ·by_cases e2:w.heap.size<=z/\(z=b\/av.ownBlock=some z)
    ·refine ⟨by omega,?_⟩;rcases e2.2 with e | e
     ·subst e;exact hT.lt
     ·exact (ft ha e).2.1
    ·have hz3:y.own z≠.no:=by
      simp only [dX.jS] at hz;rw [aE e1,aE e2] at hz;exact hz
     have:=own.lt z hz3;exact ⟨this.1,aG this.2 hm.size⟩
  ·show (y.ja++[b]).Nodup;rw [cD];exact ⟨own.Dy,by simp,fun a ha c hc e=>by simp at hc;subst hc;subst e;exact uF ha⟩
 ·exact ⟨hm.mono (fun z hz e=>by rcases jR z e with q | q <;> rw [q] <;> simp),fun z hz=>Su _ _ _ _ _ hz⟩
theorem yJa:∀ m:Nat,m<=5->(madeCells (Value.cells (.int .i64 0)) (m*1)).toList=(List.replicate m (0:Int)).map (Value.int .i64):=by
 intro m hm;obtain rfl | rfl | rfl | rfl | rfl | rfl:m=0\/m=1\/m=2\/m=3\/m=4\/m=5:=by omega
 all_goals kernel_rfl
theorem Tryz.GH:(Tryz.prog.info? 87).map (fun i=>(i.zero,i.size,i.bytes))=some (some (.pointer none),1,8):=by kernel_rfl
def VA(w:World)(n c g:Nat)(y:dX)(s:dW)(e:Ending)(w':World):Prop:=e=.returned (.tuple #[.int .i64 (s.dV.length+1),.nilIface])/\∃ y',du w' n c g y' (nC s)/\iD w y w' y'
theorem TX(n c g:Nat)(y:dX)(s:dW)(w:World)(h:du w n c g y s)(hll:2<=s.lines.length/\s.lines.length<=5)(hT:s.dV.length<60) :
  Calls Tryz.prog 13 #[.pointer (some ⟨g,0,none⟩)] w (VA w n c g y s):=by
 obtain ⟨j0,hj,GD,GC,GB⟩:=info_parts Tryz.rZ;obtain ⟨k0,hk,kz0,kz1,kz2⟩:=info_parts Tryz.GH;obtain ⟨c0,-,-,-,-,-,c6⟩:=kA h.blk;have f6:=h.blk.frozen 6;obtain ⟨la,fG,hlv⟩:=fJ h.fm;obtain ⟨ta,iX,pM⟩:=fJ h.gR;have hlen:=h.iN;have htl:=h.kM;rw [hlv,hlen] at c0;rw [pM,htl] at c6;have hg:=h.blk.lt;have jy:=h.low;have hrow:w.ownsRow n 87 1 (.slice ta s.dV.length iX) s.dV.length (y.ja.map iz):=by have:=h.gR;rw [pM,htl] at this;exact this
 -- the numbers
 obtain ⟨w1,hmk,Gg,hg1⟩:=run_makeSlice_full (P:=Tryz.prog) w.drew n 26 3 j0 _ 1 Tryz.underlying26 hj GD GC .i64 .i64 s.lines.length (by omega) (by rw [GB];omega) (by unfold maxLen;omega) (by show n<=w.heap.size;omega);have hds:w.drew.heap.size=w.heap.size:=rfl;rw [yJa _ hll.2,hds] at Gg;rw [hds] at hmk;have di:Mod dZ w w1:=((Mod.refl dZ w).drewN 1).grown hg1 (fun x hx _=>by cases hx);obtain ⟨w2,hw2⟩:∃ x,x=w1.alloc (.cells #[.int .i64 1,.slice (some ⟨w.heap.size,0,none⟩) s.lines.length s.lines.length,.slice none 0 0,.int .i64 0] 86):=⟨_,rfl⟩;have hm2:Mod dZ w1 w2:=by rw [hw2];exact (Mod.refl _ w1).alloc _
 have gm:dh w2 w1.heap.size [.int .i64 1,.slice (some ⟨w.heap.size,0,none⟩) s.lines.length s.lines.length,.slice none 0 0,.int .i64 0] 86:=by rw [hw2];exact dh.new w1 _ _
 obtain ⟨w3,hw3⟩:∃ x,x=w2.alloc (.cells #[.pointer (some ⟨w1.heap.size,0,none⟩)] 87):=⟨_,rfl⟩;have dz:Mod dZ w2 w3:=by rw [hw3];exact (Mod.refl _ w2).alloc _
 have jJ:=(di.trans hm2).trans dz;have hrow3:=gD hrow jJ (fun _ _ _ _ e=>e);obtain ⟨v7,w7,iA,eQ,fB,_,jC⟩:=run_append_own_at (P:=Tryz.prog) w3 n 82 82 87 k0 _ 1 8 Tryz.underlying82 hk kz0 kz1 kz2 rfl (by omega) _ _ _ hrow3 ⟨w2.heap.size,0,none⟩ 1 1 [.pointer (some ⟨w1.heap.size,0,none⟩)] rfl (by rw [hw3];exact World.news_of_block (heap_alloc_new w2 _)) (by simp [Value.oneCell']) (by unfold maxLen;omega) (by omega) (by have:=jJ.size;omega);obtain ⟨a7,fP,qf⟩:=fJ eQ;subst qf;have ri:Mod (fun k=>(Value.slice ta s.dV.length iX).ownBlock=some k) w3 w7:=(Mod.refl _ w3).grown fB (fun x hx _=>hx);have hnb:(Value.slice ta s.dV.length iX).ownBlock≠some g:=oM hrow h.blk (by decide);have d0:=jJ.cell c0 (fun e=>e);have d6:=jJ.cell c6 (fun e=>e);have c07:=ri.cell d0 hnb;have Ke:=ri.cell d6 hnb;have hg3:g<w3.heap.size:=aG hg jJ.size;have Xm:g<w7.heap.size:=aG hg3 ri.size;have f67:=(ri.frozen (p:=⟨g,6,none⟩) hg3 hnb).trans ((jJ.frozen (p:=⟨g,6,none⟩) hg (fun e=>e)).trans f6);have hrl:∀ z,(Value.slice ta s.dV.length iX).ownBlock=some z->z<w.heap.size:=fun z hz=>(ft hrow hz).2.1
 -- what comes of it
 have HF:Hid (∃ y',du (w7.setCell ⟨g,6,none⟩ (.slice a7 (s.dV.length+1) fP)) n c g y' (nC s)/\iD w y (w7.setCell ⟨g,6,none⟩ (.slice a7 (s.dV.length+1) fP)) y'):=by
  have iV:Mod (eF g) w7 (w7.setCell ⟨g,6,none⟩ (.slice a7 (s.dV.length+1) fP)):=Mod.dq g 6 _;have qS:Mod (fun z=>z=g\/y.tv.ownBlock=some z) w (w7.setCell ⟨g,6,none⟩ (.slice a7 (s.dV.length+1) fP)):=((jJ.mono (fun _ _ e=>e.elim)).trans (ri.mono (fun z _ e=>.inr (by rw [pM,htl];exact e)))).trans (iV.mono (fun z _ e=>.inl e));have BY:dh w7 g (JC y s.net.lost) 84:=(h.blk.mod jJ (fun e=>e)).mod ri hnb;have sj:=oM eQ BY (by decide);have hbg:w1.heap.size≠g:=by have:=di.size;omega
  have hbt:(Value.slice ta s.dV.length iX).ownBlock≠some w1.heap.size:=fun e=>by have:=hrl _ e;have:=di.size;omega
  have hag:(Value.slice (some ⟨w.heap.size,0,none⟩) s.lines.length s.lines.length).ownBlock≠some g:=fun e=>by simp [Value.ownBlock] at e;omega
  have NK:w7.ownsRow n 3 1 (.slice (some ⟨w.heap.size,0,none⟩) s.lines.length s.lines.length) s.lines.length ((List.replicate s.lines.length (0:Int)).map (Value.int .i64)):=gD (gD Gg (hm2.trans dz) (fun _ _ _ _ e=>e)) ri (fun z _ _ e q=>by have:=hrl z q;simp [Value.ownBlock] at e;omega);obtain ⟨q1,q2⟩:=h.jS (b:=w1.heap.size) (av:=.slice (some ⟨w.heap.size,0,none⟩) s.lines.length s.lines.length) (tv:=.slice a7 (s.dV.length+1) fP) qS (BY.set 6 _) (by
    rw [htl,ao];exact gD eQ iV (fun z _ _ e q=>sj (by rw [e];exact ae some q))) di.size (((gm.mod dz (fun e=>e)).mod ri hbt).mod iV (fun e=>hbg e)) (gD NK iV (fun z _ _ e q=>hag (by rw [e];exact ae some q))) (fun z hz=>by simp [Value.ownBlock] at hz;omega) (by
    rcases jC with e | e
    ·exact .inl (by rw [e,pM,htl])
    ·exact .inr fun z hz=>by rw [e] at hz;simp only [bB] at hz;have:=jJ.size;omega) (by omega)
  exact ⟨_,q1,q2⟩
 have HC:Hid (w.drew.cell? ⟨g,0,none⟩=some (.slice la s.lines.length fG)/\w.drew.cell? ⟨g,6,none⟩=some (.slice ta s.dV.length iX)):=⟨c0,c6⟩;have wM:Hid (w1.cell? ⟨g,0,none⟩=some (.slice la s.lines.length fG)/\w1.cell? ⟨g,6,none⟩=some (.slice ta s.dV.length iX)):=⟨di.cell c0 (fun e=>e),di.cell c6 (fun e=>e)⟩;have HC2:Hid (w2.cell? ⟨g,0,none⟩=some (.slice la s.lines.length fG)/\w2.cell? ⟨g,6,none⟩=some (.slice ta s.dV.length iX)):=⟨(di.trans hm2).cell c0 (fun e=>e),(di.trans hm2).cell c6 (fun e=>e)⟩;have HC3:Hid (w3.cell? ⟨g,0,none⟩=some (.slice la s.lines.length fG)/\w3.cell? ⟨g,6,none⟩=some (.slice ta s.dV.length iX)):=⟨d0,d6⟩;have qu:Hid (w7.cell? ⟨g,0,none⟩=some (.slice la s.lines.length fG)/\w7.cell? ⟨g,6,none⟩=some (.slice ta s.dV.length iX)):=⟨c07,Ke⟩;have OG:decide ((s.dV.length:Int) ≥ 60)=false:=aP (by omega);have XQ:(Instr.makeSlice 26 (.int .i64 s.lines.length) (.int .i64 s.lines.length)).run Tryz.prog w.drew=.ok (.slice (some ⟨w.heap.size,0,none⟩) s.lines.length s.lines.length) w1:=hmk;clear h hlv pM hrow Gg hg1 di hm2 gm dz jJ hrow3 eQ fB jC ri hnb d0 d6 hg3 hrl hmk;go_enter Tryz.func13,Tryz.ntmps13;go_upto_region 3 with fail;refine QF fun fr jF=>?_;refine QP fun Q1 oF=>?_;have fo:∀ (d:Nat) (v:Value) (c:List PanicEntry) (a:Act) (w:World),Q1 (.panic c) (a.put (some d) v) w->Q1 (.panic c) a w:=fun d v c a w h=>by rw [oF] at h ⊢;exact h
 have Bb:=dU oF;clear oF;have hsz:fr.tmps.size=33:=by rw [jF];rfl
 obtain ⟨_,t0⟩:∃ h:0<fr.tmps.size,fr.tmps[0]=.pointer (some ⟨g,0,none⟩):=aK.1 (by rw [jF];rfl);have kx:=dU jF;clear jF;refine FR 17 (fun wq=>wq.cell? ⟨g,0,none⟩=some (.slice la s.lines.length fG)/\wq.cell? ⟨g,6,none⟩=some (.slice ta s.dV.length iX)) rfl ?_;refine fu 17 0 11 (.pointer (some ⟨g,0,none⟩)) rfl rfl (fun c a w h=>fo _ _ c a w h) HC.out ⟨by rfl,fun wq hq=>by have q0:=hq.1;have q1:=hq.2;go_simp⟩ ?_;refine fu 17 1 12 (.pointer (some ⟨g,0,none⟩)) rfl rfl (fun c a w h=>fo _ _ c a w h) HC.out ⟨by rfl,fun wq hq=>by have q0:=hq.1;have q1:=hq.2;go_simp⟩ ?_;refine fu 17 2 13 (.pointer (some ⟨g,0,none⟩)) rfl rfl (fun c a w h=>fo _ _ c a w h) HC.out ⟨by rfl,fun wq hq=>by have q0:=hq.1;have q1:=hq.2;go_simp⟩ ?_;refine fu 17 3 14 (.pointer (some ⟨g,6,none⟩)) rfl rfl (fun c a w h=>fo _ _ c a w h) HC.out ⟨by rfl,fun wq hq=>by have q0:=hq.1;have q1:=hq.2;go_simp⟩ ?_;refine fu 17 4 15 (.slice ta s.dV.length iX) rfl rfl (fun c a w h=>fo _ _ c a w h) HC.out ⟨by rfl,fun wq hq=>by have q0:=hq.1;have q1:=hq.2;go_simp⟩ ?_;refine fu 17 5 16 (.pointer (some ⟨g,0,none⟩)) rfl rfl (fun c a w h=>fo _ _ c a w h) HC.out ⟨by rfl,fun wq hq=>by have q0:=hq.1;have q1:=hq.2;go_simp⟩ ?_;refine fu 17 6 17 (.pointer (some ⟨g,0,none⟩)) rfl rfl (fun c a w h=>fo _ _ c a w h) HC.out ⟨by rfl,fun wq hq=>by have q0:=hq.1;have q1:=hq.2;go_simp⟩ ?_;refine fu 17 7 18 (.pointer (some ⟨g,0,none⟩)) rfl rfl (fun c a w h=>fo _ _ c a w h) HC.out ⟨by rfl,fun wq hq=>by have q0:=hq.1;have q1:=hq.2;go_simp⟩ ?_;refine fu 17 8 19 (.slice la s.lines.length fG) rfl rfl (fun c a w h=>fo _ _ c a w h) HC.out ⟨by rfl,fun wq hq=>by have q0:=hq.1;have q1:=hq.2;go_simp⟩ ?_;refine fu 17 9 20 (.int .i64 s.lines.length) rfl rfl (fun c a w h=>fo _ _ c a w h) HC.out ⟨by rfl,fun wq hq=>by have q0:=hq.1;have q1:=hq.2;go_simp⟩ ?_;refine nc 17 10 21 rfl rfl (by kernel_rfl) rfl (v:=.slice (some ⟨w.heap.size,0,none⟩) s.lines.length s.lines.length) (w':=w1) (by go_simp) wM.out ?_;refine nc 17 11 22 rfl rfl (by kernel_rfl) rfl (v:=.agg #[.int .i64 1,.slice (some ⟨w.heap.size,0,none⟩) s.lines.length s.lines.length,.slice none 0 0,.int .i64 0]) (w':=w1) (by go_simp) wM.out ?_;refine nc 17 12 23 rfl rfl (by kernel_rfl) rfl (v:=.pointer (some ⟨w1.heap.size,0,none⟩)) (w':=w2) (by rw [hw2];go_simp) HC2.out ?_;refine nc 17 13 24 rfl rfl (by kernel_rfl) rfl (v:=.slice (some ⟨w2.heap.size,0,none⟩) 1 1) (w':=w3) (by rw [hw3];go_simp) HC3.out ?_;refine nc 17 14 25 rfl rfl (by kernel_rfl) rfl (v:=.slice a7 (s.dV.length+1) fP) (w':=w7) (CD (s:=.tmp 15) (x:=.tmp 24) (t:=82) rfl (by go_simp) (by go_simp) iA) qu.out ?_;refine nc 17 15 26 rfl rfl (by kernel_rfl) rfl (v:=.pointer (some ⟨g,0,none⟩)) (w':=w7) (by go_simp) qu.out ?_;refine nc 17 16 27 rfl rfl (by kernel_rfl) rfl (v:=.pointer (some ⟨g,6,none⟩)) (w':=w7) (by go_simp) qu.out ?_;refine JH 17 rfl (by kernel_rfl) rfl (w':=w7.setCell ⟨g,6,none⟩ (.slice a7 (s.dV.length+1) fP)) (by go_simp) ?_;refine ⟨by kernel_rfl,?_⟩;have oF:=Bb.out;subst oF;have jF:=kx.out;subst jF;clear fo hsz t0 HC wM HC2 HC3 qu Bb kx XQ hw2 hw3 iA;have hgg:g<(w7.setCell ⟨g,6,none⟩ (.slice a7 (s.dV.length+1) fP)).heap.size:=by simpa [World.setCell] using Xm
 go_wp2_with fail;go_ret2;exact ⟨by first | rfl | simp,HF.out⟩
theorem ko.nil(w:World)(L:Lo)(nv lv:Nat->Value):ko w L [] nv lv []:=⟨rfl,List.nodup_nil,fun j c s h=>by simp at h,fun c h=>by simp at h⟩
theorem ko.snoc{w w':World}{L:Lo}{bs:List Nat}{nv lv:Nat->Value}{ns:List eH}(h:ko w L bs nv lv ns){d:Nat}{x:eH}(hd:w.heap.size<=d)(hm:Mod dZ w w')(hN:fh w' L d (.slice none 0 0) (.slice none 0 0) x):ko w' L (bs++[d]) (jw nv d (.slice none 0 0)) (jw lv d (.slice none 0 0)) (ns++[x]):=by
 have hlt:∀ c∈bs,∀ z,gx c (nv c) (lv c) z->z<w.heap.size:=fun c hc z hz=>by
  obtain ⟨i,hi⟩:=aN hc;have hil:i<ns.length:=by have:=(aB.1 hi).1;have:=h.len;omega
  exact ((h.node i c _ hi (aA hil)).lt hz).2.1
 have hne:∀ c∈bs,c≠d:=fun c hc e=>by have:=hlt c hc c (.inl rfl);omega
 have uh:∀ z,gx d (jw nv d (.slice none 0 0) d) (jw lv d (.slice none 0 0) d) z->z=d:=fun z hz=>by
  rw [tp,tp] at hz;rcases hz with e | e | e
  ·exact e
  ·simp [Value.ownBlock] at e
  ·simp [Value.ownBlock] at e
 have hold:∀ c∈bs,∀ z,gx c (jw nv d (.slice none 0 0) c) (jw lv d (.slice none 0 0) c) z->gx c (nv c) (lv c) z:=fun c hc z hz=>by
  rw [tq _ _ (hne c hc),tq _ _ (hne c hc)] at hz;exact hz
 refine ⟨by rw [aD,aD,h.len];rfl,?_,fun i c s hc hs=>?_,fun c hc c' hc' hcc z hz hz'=>?_⟩
 ·rw [cD];exact ⟨h.nd,by simp,fun a ha c hc e=>by simp at hc;subst hc;exact hne a ha e⟩
 ·have hl:=h.len;by_cases hi:i<bs.length
  ·rw [aI hi] at hc;rw [aI (by omega)] at hs;have:=hne c (aC hc);rw [tq _ _ this,tq _ _ this];exact (h.node i c s hc hs).quiet hm
  ·rw [aO (by omega)] at hc hs;have hi0:i - bs.length=0:=by
    have:=(aB.1 hc).1;simp at this;omega
   rw [hi0] at hc;rw [show i - ns.length=0 by omega] at hs;simp at hc hs;subst hc hs;rw [tp,tp];exact hN
 ·rcases aL.1 hc with q | q <;> rcases aL.1 hc' with q' | q'
  ·exact h.ap c q c' q' hcc z (hold c q z hz) (hold c' q' z hz')
  ·simp at q';subst q';have:=uh z hz';have:=hlt c q z (hold c q z hz);omega
  ·simp at q;subst q;have:=uh z hz;have:=hlt c' q' z (hold c' q' z hz');omega
  ·simp at q q';exact hcc (q.trans q'.symm)
theorem yIy(k i:Nat):ig k (i+1)=ig k i++[LM (10*(k:Int)+(i:Int))]:=by unfold ig;rw [aY,ao];rfl
structure Ep(w w':World)(L:Lo)(b:Nat)(bs:List Nat)(nv lv:Nat->Value)(rv v:Value)(l:ik)(ms:List dp):Prop where
 bn:w.heap.size<=b
 blk:dh w' b [rv,.int .i64 l.heard] 120
 row:w'.ownsRow w.heap.size 91 1 rv bs.length (bs.map iz)
 node:ko w' L bs nv lv l.nodes
 new:∀ c∈bs,∀ z,gx c (nv c) (lv c) z->w.heap.size<=z
 msg:eX w' L v ms
 fresh:lE w v
 md:Mod dZ w w'
theorem yEq(L:Lo)(k nodes:Nat)(w:World)(hk:k<=4)(h1:1<=nodes)(h4:nodes<=4)(hLn:L.n<=w.heap.size)(hLx:∀ z,L.x z->z<w.heap.size) :
  Calls Tryz.prog 47 #[.int .i64 k,.int .i64 nodes] w fun e w'=>∃ b bs nv lv rv v,e=.returned (.tuple #[.pointer (some ⟨b,0,none⟩),v])/\Ep w w' L b bs nv lv rv v (nt k nodes).1 (nt k nodes).2:=by
 obtain ⟨i0,hi,hz0,hz1,hz2⟩:=info_parts Tryz.yy;obtain ⟨w1,hw1⟩:∃ x,x=w.alloc (.cells #[.slice none 0 0,.int .i64 0] 120):=⟨_,rfl⟩;have di:Mod dZ w w1:=by rw [hw1];exact (Mod.refl _ w).alloc _
 have fi:dh w1 w.heap.size [.slice none 0 0,.int .i64 0] 120:=by rw [hw1];exact dh.new w _ _
 have fg:=dU di;have mV:=dU fi;clear di fi;go_enter Tryz.func47,Tryz.ntmps47;go_upto_region 2 with fail;rw [<-hw1];clear hw1;go_wp2_with fail;go_loopw [11] (fun j1 wr=>∃ (i:Nat) (bs:List Nat) (nv lv:Nat->Value) (rv:Value),i<=nodes/\j1=.int .i64 i/\bs.length=i/\dh wr w.heap.size [rv,.int .i64 0] 120/\wr.ownsRow w.heap.size 91 1 rv i (bs.map iz)/\ko wr L bs nv lv (ig k i)/\(∀ c∈bs,∀ z,gx c (nv c) (lv c) z->w.heap.size<=z)/\Mod dZ w wr) (fun j1 _=>nodes - (intOf j1).toNat)
 case atStart=>exact ⟨0,[],fun _=>.slice none 0 0,fun _=>.slice none 0 0,.slice none 0 0,aV _,rfl,rfl,mV.out,World.ownsRow_nil _ _ _ _,ko.nil _ _ _ _,fun c h=>by simp at h,fg.out⟩
 case round=>
  obtain ⟨i,bs,nv,lv,rv,hil,rfl,hbl,hB,hrow,wE,hnew,hM⟩:=hrel;obtain ⟨wo,hwo⟩:∃ x,x=wr:=⟨_,rfl⟩;subst hwo;obtain ⟨ra,jW,NA⟩:=fJ hrow;subst NA;by_cases hlt:i<nodes
  ·have wB:(i:Int)<(nodes:Int):=by omega
   have Xg:(0:Int)<=(i:Int):=by omega
   have zB:=hM.size;have hNW:=yRv L (10*(k:Int)+(i:Int)) wo.drew (by unfold gw;omega) (by show L.n<=wo.heap.size;omega) (fun z hz=>by have:=hLx z hz;show z<wo.heap.size;omega);have c0:=hB.cell 0 rfl;have f0:=hB.frozen 0;have zb:=hB.lt;have IG:=dU hNW;have oH:=dU wE;have HNE:=dU hnew;have IJ:=dU hM;have Sp:=dU hB;have ZP:=dU hrow;have Sr:=dU hbl;have HC:Hid (wo.drew.cell? ⟨w.heap.size,0,none⟩=some (.slice ra i jW)):=c0;have wA:(0:Int)<=(k:Int)/\(k:Int)<=4:=by omega
   have hwa:IntKind.i64.wrap (10*(k:Int))=10*(k:Int):=IntWalk.i64_in _ ⟨by omega,by omega⟩;have hwb:IntKind.i64.wrap (10*(k:Int)+(i:Int))=10*(k:Int)+(i:Int):=IntWalk.i64_in _ ⟨by omega,by omega⟩;clear hNW wE hnew hM hB hrow hbl;go_upto_region 5 with fail;refine QF fun fr jF=>?_;refine QP fun Q1 oF=>?_;have fo:∀ (d:Nat) (v:Value) (c:List PanicEntry) (a:Act) (w:World),Q1 (.panic c) (a.put (some d) v) w->Q1 (.panic c) a w:=fun d v c a w h=>by rw [oF] at h ⊢;exact h
   have Bb:=dU oF;clear oF;have hsz:fr.tmps.size=32:=by rw [jF];rfl
   obtain ⟨_,t0⟩:∃ h:0<fr.tmps.size,fr.tmps[0]=.int .i64 k:=aK.1 (by rw [jF];rfl);obtain ⟨_,t6⟩:∃ h:6<fr.tmps.size,fr.tmps[6]=.pointer (some ⟨w.heap.size,0,none⟩):=aK.1 (by rw [jF];rfl);obtain ⟨_,t7⟩:∃ h:7<fr.tmps.size,fr.tmps[7]=.int .i64 i:=aK.1 (by rw [jF];rfl);have kx:=dU jF;clear jF;refine FR 14 (fun wq=>wq.cell? ⟨w.heap.size,0,none⟩=some (.slice ra i jW)) rfl ?_;refine fu 14 0 14 (.pointer (some ⟨w.heap.size,0,none⟩)) rfl rfl (fun c a w h=>fo _ _ c a w h) HC.out ⟨by rfl,fun wq hq=>by have q0:wq.cell? ⟨w.heap.size,0,none⟩=some (.slice ra i jW):=hq;go_simp⟩ ?_;refine fu 14 1 15 (.pointer (some ⟨w.heap.size,0,none⟩)) rfl rfl (fun c a w h=>fo _ _ c a w h) HC.out ⟨by rfl,fun wq hq=>by have q0:wq.cell? ⟨w.heap.size,0,none⟩=some (.slice ra i jW):=hq;go_simp⟩ ?_;refine fu 14 2 16 (.pointer (some ⟨w.heap.size,0,none⟩)) rfl rfl (fun c a w h=>fo _ _ c a w h) HC.out ⟨by rfl,fun wq hq=>by have q0:wq.cell? ⟨w.heap.size,0,none⟩=some (.slice ra i jW):=hq;go_simp⟩ ?_;refine fu 14 3 17 (.pointer (some ⟨w.heap.size,0,none⟩)) rfl rfl (fun c a w h=>fo _ _ c a w h) HC.out ⟨by rfl,fun wq hq=>by have q0:wq.cell? ⟨w.heap.size,0,none⟩=some (.slice ra i jW):=hq;go_simp⟩ ?_;refine fu 14 4 18 (.slice ra i jW) rfl rfl (fun c a w h=>fo _ _ c a w h) HC.out ⟨by rfl,fun wq hq=>by have q0:wq.cell? ⟨w.heap.size,0,none⟩=some (.slice ra i jW):=hq;go_simp⟩ ?_;refine fu 14 5 19 (.int .i64 k) rfl rfl (fun c a w h=>fo _ _ c a w h) HC.out ⟨by rfl,fun wq hq=>by have q0:wq.cell? ⟨w.heap.size,0,none⟩=some (.slice ra i jW):=hq;go_simp⟩ ?_;refine fu 14 6 20 (.int .i64 (10*(k:Int))) rfl rfl (fun c a w h=>fo _ _ c a w h) HC.out ⟨by rfl,fun wq hq=>by have q0:wq.cell? ⟨w.heap.size,0,none⟩=some (.slice ra i jW):=hq;go_simp⟩ ?_;refine fu 14 7 21 (.int .i64 i) rfl rfl (fun c a w h=>fo _ _ c a w h) HC.out ⟨by rfl,fun wq hq=>by have q0:wq.cell? ⟨w.heap.size,0,none⟩=some (.slice ra i jW):=hq;go_simp⟩ ?_;refine fu 14 8 22 (.int .i64 (10*(k:Int)+(i:Int))) rfl rfl (fun c a w h=>fo _ _ c a w h) HC.out ⟨by rfl,fun wq hq=>by have q0:wq.cell? ⟨w.heap.size,0,none⟩=some (.slice ra i jW):=hq;go_simp⟩ ?_;refine Un 14 9 23 rfl rfl (by kernel_rfl) rfl (f:=87) (args:=#[.int .i64 (10*(k:Int)+(i:Int))]) (by go_simp) (IG.out.mono ?_);rintro e w5 ⟨rfl,mi,eu⟩;have Cy:Mod dZ wo w5:=((Mod.refl dZ wo).drewN 1).trans eu;have Cr:w5.cell? ⟨w.heap.size,0,none⟩=some (.slice ra i jW):=Cy.cell c0 (fun e=>e);refine ⟨_,rfl,Cr,?_⟩;obtain ⟨w6,sd⟩:∃ x,x=w5.alloc (.cells #[.pointer (some ⟨wo.heap.size,0,none⟩)] 91):=⟨_,rfl⟩;have ib:Mod dZ w5 w6:=by rw [sd];exact (Mod.refl _ w5).alloc _
   have sx:=Cy.trans ib;have sg:=gD ZP.out sx (fun _ _ _ _ e=>e);obtain ⟨v7,w7,iA,eQ,fB,_,jC⟩:=run_append_own_at (P:=Tryz.prog) w6 w.heap.size 99 99 91 i0 _ 1 8 Tryz.underlying99 hi hz0 hz1 hz2 rfl (by omega) _ _ _ sg ⟨w5.heap.size,0,none⟩ 1 1 [.pointer (some ⟨wo.heap.size,0,none⟩)] rfl (by rw [sd];exact World.news_of_block (heap_alloc_new w5 _)) (by simp [Value.oneCell']) (by unfold maxLen;omega) (by omega) (by have:=sx.size;omega);obtain ⟨a7,fP,qf⟩:=fJ eQ;subst qf;have fp:Mod (fun z=>(Value.slice ra i jW).ownBlock=some z) w6 w7:=(Mod.refl _ w6).grown fB (fun x hx _=>hx);have hnb:(Value.slice ra i jW).ownBlock≠some w.heap.size:=oM ZP.out Sp.out (by decide);have Jq:w6.cell? ⟨w.heap.size,0,none⟩=some (.slice ra i jW):=ib.cell Cr (fun e=>e);have Cq:w7.cell? ⟨w.heap.size,0,none⟩=some (.slice ra i jW):=fp.cell Jq hnb;have zb6:w.heap.size<w6.heap.size:=aG zb sx.size;have zb7:w.heap.size<w7.heap.size:=aG zb6 fp.size;have f7:=(fp.frozen (p:=⟨w.heap.size,0,none⟩) zb6 hnb).trans ((sx.frozen (p:=⟨w.heap.size,0,none⟩) zb (fun e=>e)).trans f0);have HF:Hid (∃ (bs':List Nat) (oO jQ:Nat->Value),bs'.length=i+1/\dh (w7.setCell ⟨w.heap.size,0,none⟩ (.slice a7 (i+1) fP)) w.heap.size [.slice a7 (i+1) fP,.int .i64 0] 120/\(w7.setCell ⟨w.heap.size,0,none⟩ (.slice a7 (i+1) fP)).ownsRow w.heap.size 91 1 (.slice a7 (i+1) fP) (i+1) (bs'.map iz)/\ko (w7.setCell ⟨w.heap.size,0,none⟩ (.slice a7 (i+1) fP)) L bs' oO jQ (ig k (i+1))/\(∀ c∈bs',∀ z,gx c (oO c) (jQ c) z->w.heap.size<=z)/\Mod dZ w (w7.setCell ⟨w.heap.size,0,none⟩ (.slice a7 (i+1) fP))):=by
    have iV:Mod (eF w.heap.size) w7 (w7.setCell ⟨w.heap.size,0,none⟩ (.slice a7 (i+1) fP)):=Mod.dq _ 0 _;have BY:dh w7 w.heap.size [.slice ra i jW,.int .i64 0] 120:=(Sp.out.mod sx (fun e=>e)).mod fp hnb;have sj:=oM eQ BY (by decide);have DC:=oH.out.snoc (w':=w5) (d:=wo.heap.size) (x:=LM (10*(k:Int)+(i:Int))) (aF _) Cy mi;rw [<-yIy] at DC;have Eh:=DC.quiet ib;have hnd:∀ c∈bs++[wo.heap.size],∃ x,fh w6 L c (jw nv wo.heap.size (.slice none 0 0) c) (jw lv wo.heap.size (.slice none 0 0) c) x:=fun c hc=>by
     obtain ⟨j,hj⟩:=aN hc;have hjl:j<(ig k (i+1)).length:=by have:=(aB.1 hj).1;have:=Eh.len;omega
     exact ⟨_,Eh.node j c _ hj (aA hjl)⟩
    have oS:∀ c∈bs++[wo.heap.size],∀ z,gx c (jw nv wo.heap.size (.slice none 0 0) c) (jw lv wo.heap.size (.slice none 0 0) c) z->∀ cur t,w6.heap[z]?=some (.cells cur t)->t≠91/\t≠120:=fun c hc z hz cur t fX=>by
     obtain ⟨x,hx⟩:=hnd c hc;rcases hz with q | q | q
     ·have hBl:=hx.blk;unfold dh at hBl;rw [<-q,fX] at hBl;simp at hBl;rw [hBl.2];decide
     ·obtain ⟨_,_,kf,h2⟩:=ft hx.ns q;rw [fX] at h2;simp at h2;rw [h2.2];decide
     ·obtain ⟨us,_,h3,_⟩:=hx.lg;obtain ⟨_,_,kf,h2⟩:=ft h3 q;rw [fX] at h2;simp at h2;rw [h2.2];decide
    have hL7:=Eh.mod fp (Qm.row sg hLn (by decide)) (fun c hc z hz q=>by
     obtain ⟨_,_,cur,fX⟩:=ft sg q;exact (oS c hc z hz cur _ fX).1 rfl)
    have KG:dh w6 w.heap.size [.slice ra i jW,.int .i64 0] 120:=Sp.out.mod sx (fun e=>e);refine ⟨bs++[wo.heap.size],jw nv wo.heap.size (.slice none 0 0),jw lv wo.heap.size (.slice none 0 0),by rw [aD,Sr.out];rfl,BY.set 0 _,?_,?_,fun c hc z hz=>?_,?_⟩
    ·rw [ao];exact gD eQ iV (fun z _ _ e q=>sj (by rw [e];exact ae some q))
    ·refine hL7.mod iV (fun z hz' e=>?_) (fun c hc z hz e=>?_)
     ·simp only [eF] at e;subst e;rintro (e5 | ⟨⟨cur,fr,e5⟩,_⟩)
      ·have h8:w.heap.size<L.n:=e5;omega
      ·unfold dh at BY;rw [BY] at e5;simp at e5
     ·simp only [eF] at e;subst e;unfold dh at KG;exact (oS c hc _ hz _ _ KG).2 rfl
    ·rcases aL.1 hc with q | q
     ·by_cases e:c=wo.heap.size
      ·subst e;rw [tp,tp] at hz;rcases hz with e | e | e
       ·omega
       ·simp [Value.ownBlock] at e
       ·simp [Value.ownBlock] at e
      ·rw [tq _ _ e,tq _ _ e] at hz;exact HNE.out c q z hz
     ·simp at q;subst q;rw [tp,tp] at hz;rcases hz with e | e | e
      ·omega
      ·simp [Value.ownBlock] at e
      ·simp [Value.ownBlock] at e
    ·exact ((IJ.out.trans sx).trans' fp (fun z hz q=>by have:=(ft sg q).1;omega)).trans' iV (fun z hz q=>by simp only [eF] at q;omega)
   clear sg eQ fB jC fp ib sx Cy mi eu IG oH HNE IJ Sp ZP Sr;refine nc 14 10 24 rfl rfl (by kernel_rfl) rfl (v:=.slice (some ⟨w5.heap.size,0,none⟩) 1 1) (w':=w6) (by rw [sd];go_simp) Jq ?_;refine nc 14 11 25 rfl rfl (by kernel_rfl) rfl (v:=.slice a7 (i+1) fP) (w':=w7) (CD (s:=.tmp 18) (x:=.tmp 24) (t:=99) rfl (by go_simp) (by go_simp) iA) Cq ?_;refine nc 14 12 26 rfl rfl (by kernel_rfl) rfl (v:=.pointer (some ⟨w.heap.size,0,none⟩)) (w':=w7) (by go_simp) Cq ?_;refine nc 14 13 27 rfl rfl (by kernel_rfl) rfl (v:=.pointer (some ⟨w.heap.size,0,none⟩)) (w':=w7) (by go_simp) Cq ?_;refine JH 14 rfl (by kernel_rfl) rfl (w':=w7.setCell ⟨w.heap.size,0,none⟩ (.slice a7 (i+1) fP)) (by go_simp) ?_;refine ⟨by kernel_rfl,?_⟩;have oF:=Bb.out;subst oF;have jF:=kx.out;subst jF;clear fo hsz t0 t6 t7 HC Bb kx sd iA Cr Jq Cq f7;obtain ⟨bs',oO,jQ,r1,r2,r3,r4,r5,r6⟩:=HF.out;have mU:Hid (∃ (i':Nat) (bs:List Nat) (nv lv:Nat->Value) (rv:Value),i'<=nodes/\Value.int .i64 ((i:Int)+1)=.int .i64 i'/\bs.length=i'/\dh (w7.setCell ⟨w.heap.size,0,none⟩ (.slice a7 (i+1) fP)) w.heap.size [rv,.int .i64 0] 120/\(w7.setCell ⟨w.heap.size,0,none⟩ (.slice a7 (i+1) fP)).ownsRow w.heap.size 91 1 rv i' (bs.map iz)/\ko (w7.setCell ⟨w.heap.size,0,none⟩ (.slice a7 (i+1) fP)) L bs nv lv (ig k i')/\(∀ c∈bs,∀ z,gx c (nv c) (lv c) z->w.heap.size<=z)/\Mod dZ w (w7.setCell ⟨w.heap.size,0,none⟩ (.slice a7 (i+1) fP))):=⟨i+1,bs',oO,jQ,_,by omega,rfl,r1,r2,r3,r4,r5,r6⟩;clear HF r1 r2 r3 r4 r5 r6;go_wp2_with fail;go_roundw
   case rel=>exact mU.out
   case measure=>simp [intOf];omega
  ·obtain rfl:i=nodes:=by omega
   have hNL:nt k i=mZ ⟨ig k i,0⟩:=rfl;have Gt:np ⟨ig k i,0⟩=1:=by unfold np;rw [aH,yBk k i (by omega)];rfl
   have hnl:(ig k i).length=i:=by simp [ig]
   have hMo:=hM;have hz:=hM.size;have Ps:=dU (zXu L.n L w.heap.size bs nv lv ⟨ig k i,0⟩ (.slice ra i jW) wo rfl hB (by rw [hbl];exact uP hrow hLn) wE (by show 0<(ig k i).length;omega) (by show (ig k i).length<=4;omega) (by rw [Gt];omega) (fun x hx=>by
    rw [Gt];have hx':x∈ig k i:=hx;unfold ig at hx';obtain ⟨j,_,rfl⟩:=ag.1 hx';show (0:Int)<1;omega) (by
    unfold gz;rw [List.Nodup,cC];exact (yGu k i).imp (fun q=>by omega)) (by omega))
   have HF:Hid (∀ w7 (v7:Value) (yD vq:Nat->Value),ko w7 L bs yD vq (mZ ⟨ig k i,0⟩).1.nodes->eX w7 L v7 (mZ ⟨ig k i,0⟩).2->lE wo v7->(∀ d∈bs,iC wo (nv d) (yD d)/\iC wo (lv d) (vq d))->Mod (fun z=>z∈bs) wo w7->Ep w w7 L w.heap.size bs yD vq (.slice ra i jW) v7 (nt k i).1 (nt k i).2):=fun w7 v7 yD vq q1 q2 q3 q4 q5=>by
    have hbs:∀ c∈bs,w.heap.size<=c:=fun c hc=>hnew c hc c (.inl rfl);have oS:∀ c∈bs,∃ x,fh wo L c (nv c) (lv c) x:=fun c hc=>by
     obtain ⟨j,hj⟩:=aN hc;have hjl:j<(ig k i).length:=by have:=(aB.1 hj).1;have:=wE.len;omega
     exact ⟨_,wE.node j c _ hj (aA hjl)⟩
    have hb:w.heap.size∉bs:=fun q=>by
     obtain ⟨x,hx⟩:=oS _ q;have h1:=hx.blk;unfold dh at h1 hB;rw [hB] at h1;simp at h1
    have hr:∀ z,(Value.slice ra i jW).ownBlock=some z->z∉bs:=fun z hz' q=>by
     obtain ⟨x,hx⟩:=oS _ q;exact oM hrow hx.blk (by decide) hz'
    refine ⟨aF _,hB.mod q5 hb,by rw [hbl];exact gD hrow q5 (fun z _ _ e q=>hr z e q),q1,fun c hc z hz'=>?_,q2,fun z hz'=>aM hz (q3 z hz'),hM.trans' q5 (fun z hz' q=>by have:=hbs z q;omega)⟩;rcases hz' with e | e | e
    ·rw [e];exact hbs c hc
    ·rcases (q4 c hc).1 with q | q
     ·exact hnew c hc z (.inr (.inl (by rw [<-q];exact e)))
     ·exact aM hz (q z e)
    ·rcases (q4 c hc).2 with q | q
     ·exact hnew c hc z (.inr (.inr (by rw [<-q];exact e)))
     ·exact aM hz (q z e)
   have zb:=hB.lt;clear hB hrow wE hnew hM hNL Gt hnl hMo;go_wp2_with fail;refine Ps.out.mono ?_;rintro e w7 ⟨v7,yD,vq,rfl,q1,q2,q3,q4,q5⟩;obtain ⟨RM,RL,re⟩:=q2.slice;subst re;have HF7:=dU (HF.out w7 _ yD vq q1 q2 q3 q4 q5);clear q1 q2 q3 q4 q5 Ps HF;go_wp2_with fail;go_ret2;exact ⟨_,_,_,_,_,_,rfl,HF7.out⟩
open Classical in
noncomputable def oB(w:World)(y:dX)(lv:Value)(b:Nat)(rv:Value)(bs:List Nat)(nv lf:Nat->Value)(x:Nat):Tag:=
 if w.heap.size<=x/\lv.ownBlock=some x then .fm else if w.heap.size<=x/\(x=b\/rv.ownBlock=some x) then .line b else if h:w.heap.size<=x/\∃ c∈bs,gx c (nv c) (lf c) x then .node (Classical.choose h.2) else y.own x
theorem TF(w:World)(y:dX)(lv:Value)(b:Nat)(rv:Value)(bs:List Nat)(nv lf:Nat->Value){x:Nat}(h:x<w.heap.size):oB w y lv b rv bs nv lf x=y.own x:=by
 unfold oB;rw [aE (fun e=>by omega),aE (fun e=>by omega),dif_neg (fun e=>by omega)]
theorem du.ZE{w w':World}{n c g:Nat}{y:dX}{s:dW}(h:du w n c g y s){lv rv:Value}{b:Nat}{bs:List Nat}{nv lf:Nat->Value}{l:ik}
  (hm:Mod (fun z=>z=g\/y.lv.ownBlock=some z) w w') (hB:dh w' g [lv,.map (some y.dr),y.wv,.int .i64 s.net.lost,.map y.mr,.map y.q.m,y.tv] 84) (hr:w'.ownsRow n 102 1 lv (y.gH.length+1) ((y.gH++[b]).map iz)) (h1:iC w y.lv lv)
  (hb:w.heap.size<=b) (hL:dh w' b [rv,.int .i64 l.heard] 120) (hrow:w'.ownsRow n 91 1 rv bs.length (bs.map iz)) (NA:∀ z,rv.ownBlock=some z->w.heap.size<=z) (hN:ko w' (y.lo n) bs nv lf l.nodes) (hnew:∀ d∈bs,∀ z,gx d (nv d) (lf d) z->w.heap.size<=z) :
  ∃ y',du w' n c g y' { s with lines:=s.lines++[l] }/\iD w y w' y'/\y'.lo n=y.lo n/\(∀ z,w.heap.size<=z->lv.ownBlock≠some z->z≠b->rv.ownBlock≠some z->(∀ d∈bs,¬ gx d (nv d) (lf d) z)->y'.own z=.no):=by
 have own:=h.own;have jR:∀ z,(z=g\/y.lv.ownBlock=some z)->y.own z=.main\/y.own z=.fm:=fun z e=>by
  rcases e with e | e
  ·rw [e];exact .inl own.main
  ·exact .inr (own.fm z e)
 have hq:Qm w (y.lo n) (fun z=>z=g\/y.lv.ownBlock=some z):=fun z hz e=>by
  rintro (e1 | ⟨⟨cur,fr,e1⟩,_⟩)
  ·have h8:z<n:=e1;have:=(own.lt z (by rcases jR z e with q | q <;> rw [q] <;> simp)).1;omega
  ·rcases e with e | e
   ·subst e;have:=h.blk;unfold dh at this;rw [this] at e1;simp at e1
   ·obtain ⟨_,_,kf,h2⟩:=ft h.fm e;rw [h2] at e1;simp at e1
 have ht:rM w w' n y (fun t=>t=.main\/t=.fm):=⟨⟨_,hm,hq,fun z hz e=>⟨jR z e,by rcases jR z e with q | q <;> rw [q] <;> simp⟩⟩⟩;have yH:∀ z,w.heap.size<=z->y.own z=.no:=fun z hz=>aR fun e=>by have:=(own.lt z e).2;omega
 have uF:b∉y.gH:=fun q=>by have:=(own.lt b (by rw [(own.line b q).1];simp)).2;omega
 have YB:∀ d∈bs,w.heap.size<=d:=fun d hd=>hnew d hd d (.inl rfl);have oT:∀ b'∈y.gH,∀ d∈y.fU b',d∉bs:=fun b' hb' d hd q=>by
  have e:=own.node b' hb' d hd d (.inl rfl);have:=(own.lt d (by rw [e];simp)).2;have:=YB d q;omega
 have oS:∀ d∈bs,∃ x,fh w' (y.lo n) d (nv d) (lf d) x:=fun d hd=>by
  obtain ⟨j,hj⟩:=aN hd;have hjl:j<l.nodes.length:=by have:=(aB.1 hj).1;have:=hN.len;omega
  exact ⟨_,hN.node j d _ hj (aA hjl)⟩
 have hty:∀ d∈bs,∀ z,gx d (nv d) (lf d) z->∀ cur t,w'.heap[z]?=some (.cells cur t)->t≠91/\t≠120/\t≠102:=fun d hd z hz cur t fX=>by
  obtain ⟨x,hx⟩:=oS d hd;rcases hz with q | q | q
  ·have hBl:=hx.blk;unfold dh at hBl;rw [<-q,fX] at hBl;simp at hBl;rw [hBl.2];decide
  ·obtain ⟨_,_,kf,h2⟩:=ft hx.ns q;rw [fX] at h2;simp at h2;rw [h2.2];decide
  ·obtain ⟨us,_,h3,_⟩:=hx.lg;obtain ⟨_,_,kf,h2⟩:=ft h3 q;rw [fX] at h2;simp at h2;rw [h2.2];decide
 let y':dX:={ y with lv:=lv,gH:=y.gH++[b],qz:=fun x=>if x=b then rv else y.qz x,fU:=fun x=>if x=b then bs else y.fU x,kI:=fun x=>if x∈bs then nv x else y.kI x,kJ:=fun x=>if x∈bs then lf x else y.kJ x,own:=oB w y lv b rv bs nv lf }
 have eB:y'.qz b=rv/\y'.fU b=bs:=by constructor <;> simp [y']
 have eN:∀ {x},x≠b->y'.qz x=y.qz x/\y'.fU x=y.fU x:=fun {x} hx=>by constructor <;> simp [y',hx]
 have eD:∀ {x},x∈bs->y'.kI x=nv x/\y'.kJ x=lf x:=fun {x} hx=>by constructor <;> simp [y',hx]
 have eO:∀ {x},x∉bs->y'.kI x=y.kI x/\y'.kJ x=y.kJ x:=fun {x} hx=>by constructor <;> simp [y',hx]
 have dv:∀ z,y.own z≠.no->y'.own z=y.own z:=fun z hz=>TF _ _ _ _ _ _ _ _ (own.lt z hz).2;have NY:∀ z,lv.ownBlock=some z->y'.own z=.fm:=fun z e=>by
  show oB w y lv b rv bs nv lf z=_;by_cases hlt:z<w.heap.size
  ·rw [TF _ _ _ _ _ _ _ _ hlt];rcases h1 with q | q
   ·exact own.fm z (by rw [<-q];exact e)
   ·have:=q z e;omega
  ·unfold oB;rw [aJ ⟨by omega,e⟩]
 have nL:∀ z,(z=b\/rv.ownBlock=some z)->y'.own z=.line b:=fun z e=>by
  show oB w y lv b rv bs nv lf z=_;have hz:w.heap.size<=z:=e.elim (fun e=>by omega) (NA z);unfold oB;rw [aE,aJ ⟨hz,e⟩];rintro ⟨_,q⟩;obtain ⟨_,_,cur,fX⟩:=ft hr q;rcases e with e | e
  ·subst e;unfold dh at hL;rw [fX] at hL;simp at hL
  ·obtain ⟨_,_,kf,h2⟩:=ft hrow e;rw [fX] at h2;simp at h2
 have oP:∀ d∈bs,∀ z,gx d (nv d) (lf d) z->y'.own z=.node d:=fun d hd z hz=>by
  show oB w y lv b rv bs nv lf z=_;have hzn:=hnew d hd z hz;unfold oB;rw [aE,aE]
  ·have hex:w.heap.size<=z/\∃ c∈bs,gx c (nv c) (lf c) z:=⟨hzn,d,hd,hz⟩;rw [dif_pos hex];have hsp:=dP hex.2;congr 1;exact aR fun e=>hN.ap _ hsp.1 d hd e z hsp.2 hz
  ·rintro ⟨_,q | q⟩
   ·subst q;unfold dh at hL;exact (hty d hd z hz _ _ hL).2.1 rfl
   ·obtain ⟨_,_,cur,fX⟩:=ft hrow q;exact (hty d hd z hz _ _ fX).1 rfl
  ·rintro ⟨_,q⟩;obtain ⟨_,_,cur,fX⟩:=ft hr q;exact (hty d hd z hz _ _ fX).2.2 rfl
 have hbs:∀ x∈y.gH,x≠b:=fun x hx e=>uF (by rw [<-e];exact hx);refine ⟨y',⟨hB,h.vB ht (by simp),h.oW ht (by simp),h.tB ht (by simp),h.qn,?_,?_,fun i b' l' hb' hl=>?_,h.oU ht (by simp),h.kM,fun i b' t hb' hti=>(have q:=h.DG ht hb' hti (by simp);⟨q.blk,q.ats,q.wr⟩),?_⟩,⟨hm.mono (fun z hz e=>by rcases jR z e with q | q <;> rw [q] <;> simp),fun z hz=>TF _ _ _ _ _ _ _ _ hz⟩,rfl,fun z hz z1 z2 z3 z4=>?_⟩
 ·show w'.ownsRow n 102 1 lv (y.gH++[b]).length ((y.gH++[b]).map iz);rw [aD];exact hr
 ·show (y.gH++[b]).length=(s.lines++[l]).length;rw [aD,aD,h.iN];rfl
 ·have hb2:(y.gH++[b])[i]?=some b':=hb';have hl2:(s.lines++[l])[i]?=some l':=hl;have hll:=h.iN;by_cases hlt:i<y.gH.length
  ·rw [aI hlt] at hb2;rw [aI (by omega)] at hl2;have zs:=aC hb2;have hne:=hbs b' zs;have q:=h.qC ht hb2 hl2 (by simp) (fun d _=>by simp);refine ⟨by rw [(eN hne).1];exact q.blk,by rw [(eN hne).1,(eN hne).2];exact q.row,by rw [(eN hne).2];exact q.len,fun j d x hd hx=>?_⟩;rw [(eN hne).2] at hd;have zr:=oT b' zs d (aC hd);show fh w' (y.lo n) d (y'.kI d) (y'.kJ d) x;rw [(eO zr).1,(eO zr).2];exact q.node j d x hd hx
  ·rw [aO (by omega)] at hb2 hl2;have hi:i - y.gH.length=0:=by
    have:=(aB.1 hb2).1;simp at this;omega
   rw [hi] at hb2;rw [show i - s.lines.length=0 by omega] at hl2;simp at hb2 hl2;subst hb2 hl2;refine ⟨by rw [eB.1];exact hL,by rw [eB.1,eB.2];exact hrow,by rw [eB.2];exact hN.len,fun j d x hd hx=>?_⟩;rw [eB.2] at hd;have xP:=aC hd;show fh w' (y.lo n) d (y'.kI d) (y'.kJ d) x;rw [(eD xP).1,(eD xP).2];exact hN.node j d x hd hx
 ·refine ⟨by rw [dv _ (by rw [own.main];simp)];exact own.main,fun z hz=>NY z hz,fun z hz=>?_,fun z hz=>?_,?_,fun z hz=>?_,fun b' hb'=>?_,fun b' hb' d' hd' z hz=>?_,fun b' hb'=>⟨?_,fun z hz=>?_⟩,fun z hz=>?_,?_,own.Dy,?_⟩
  ·rw [dv z (by rw [own.gR z hz];simp)];exact own.gR z hz
  ·rw [dv z (by rw [own.net z hz];simp)];exact own.net z hz
  ·show y'.own y.dr=_;rw [dv _ (by rw [own.dead];simp)];exact own.dead
  ·rw [dv z (by rw [own.tab z hz];simp)];exact own.tab z hz
  ·have hb2:b'∈y.gH++[b]:=hb';rcases aL.1 hb2 with q | q
   ·have hne:=hbs b' q;refine ⟨by rw [dv b' (by rw [(own.line b' q).1];simp)];exact (own.line b' q).1,fun z hz=>?_⟩;rw [(eN hne).1] at hz;rw [dv z (by rw [(own.line b' q).2 z hz];simp)];exact (own.line b' q).2 z hz
   ·simp at q;subst q;exact ⟨nL b' (.inl rfl),fun z hz=>by rw [eB.1] at hz;exact nL z (.inr hz)⟩
  ·have hb2:b'∈y.gH++[b]:=hb';rcases aL.1 hb2 with q | q
   ·have hne:=hbs b' q;rw [(eN hne).2] at hd';have zr:=oT b' q d' hd';rw [(eO zr).1,(eO zr).2] at hz;have:=own.node b' q d' hd' z hz;rw [dv z (by rw [this];simp)];exact this
   ·simp at q;subst q;rw [eB.2] at hd';rw [(eD hd').1,(eD hd').2] at hz;exact oP d' hd' z hz
  ·rw [dv b' (by rw [(own.tx b' hb').1];simp)];exact (own.tx b' hb').1
  ·rw [dv z (by rw [(own.tx b' hb').2 z hz];simp)];exact (own.tx b' hb').2 z hz
  ·have hz':oB w y lv b rv bs nv lf z≠.no:=hz;by_cases e1:w.heap.size<=z/\lv.ownBlock=some z
   ·exact ⟨(ft hr e1.2).1,(ft hr e1.2).2.1⟩
   ·by_cases e2:w.heap.size<=z/\(z=b\/rv.ownBlock=some z)
    ·rcases e2.2 with e | e
     ·subst e;have jy:=h.low;have:=h.blk.lt;exact ⟨by omega,hL.lt⟩
     ·exact ⟨(ft hrow e).1,(ft hrow e).2.1⟩
    ·by_cases e3:w.heap.size<=z/\∃ c∈bs,gx c (nv c) (lf c) z
     ·obtain ⟨_,d,hd,hzd⟩:=e3;obtain ⟨x,hx⟩:=oS d hd;have:=hx.lt hzd;exact ⟨this.1,this.2.1⟩
     ·have hz3:y.own z≠.no:=by
       unfold oB at hz';rw [aE e1,aE e2,dif_neg e3] at hz';exact hz'
      have:=own.lt z hz3;exact ⟨this.1,aG this.2 hm.size⟩
  ·show (y.gH++[b]).Nodup;rw [cD];exact ⟨own.BC,by simp,fun a ha c hc e=>by simp at hc;subst hc;subst e;exact uF ha⟩
  ·show ((y.gH++[b]).flatMap y'.fU).Nodup;have e1:y.gH.flatMap y'.fU=y.gH.flatMap y.fU:=by
    have:∀ ls:List Nat,(∀ x∈ls,x≠b)->ls.flatMap y'.fU=ls.flatMap y.fU:=by
     intro ls
     induction ls with
     | nil=>intro _;rfl
     | cons a ls ih=>intro hx;rw [bD,bD,ih (fun x hx'=>hx x (by simp [hx'])),(eN (hx a (by simp))).2]
    exact this y.gH hbs
   rw [dE,e1];simp only [bD,List.flatMap_nil,dC];rw [eB.2,cD];refine ⟨own.yE,hN.nd,fun a ha c hc e=>?_⟩;subst e;obtain ⟨b',hb',hd⟩:=cP.1 ha;exact oT b' hb' a hd hc
 ·show oB w y lv b rv bs nv lf z=.no;unfold oB;rw [aE (fun e=>z1 e.2),aE (fun e=>e.2.elim z2 z3),dif_neg (fun e=>by obtain ⟨_,d,hd,q⟩:=e;exact z4 d hd q)];exact yH z hz
end Go.Proofs.YtmaiggbnceejiaaGreatDoor
