import Derived.Test.YtmaiggbnceejiaaGreatDoorS23
import Derived.Test.YtmaiggbnceejiaaGreatDoorS28
import Derived.Test.YtmaiggbnceejiaaGreatDoorS16
set_option linter.unusedVariables false
set_option maxRecDepth 100000
set_option maxHeartbeats 16000000
namespace Go.Proofs.YtmaiggbnceejiaaGreatDoor
open Go.RowKit Go.Lib Go.Maps
def rF(t:jR)(d:Bool)(k:Nat):Option Int:=
 if d then (if t.state=2/\ue t=true then some 3 else none) else if t.ats.getD k 0=0 then none else if t.state=2 then some 2 else if t.state=3 then some 3 else if t.state=4 then some 4 else none
theorem Fj(s:dX)(id k:Nat)(time:Int):(fX s id k time).map (·.kind)=rF (s.tx id) (decide (k=du s)) k:=by
 unfold fX rF;simp only;by_cases e:k=du s
 ·rw [aP e,aQ e];simp only [if_true];split
  ·rfl
  ·rfl
 ·rw [aK e,aL e];simp only [dB,if_false];split
  ·rfl
  ·split
   ·rfl
   ·split
    ·rfl
    ·split
     ·rfl
     ·rfl
theorem yHb{s:dX}{k:Nat}:Told s k↔∀ id,1<=id->id<=s.dW.length->∀ κ,rF (s.tx id) (decide (k=du s)) k=some κ->nS (eE s k).log κ id:=by
 constructor
 ·intro h id i1 i2 κ hκ;rw [<-Fj s id k 0] at hκ;obtain ⟨c,hc,rfl⟩:=cL.1 hκ;exact h id i1 i2 0 c hc
 ·intro h id i1 i2 time c hc;refine h id i1 i2 c.kind ?_;rw [<-Fj s id k time,hc];rfl
theorem Tl{t:jR}(h:t.state=1)(d:Bool)(k:Nat):rF t d k=none:=by
 unfold rF;rw [h]
 cases d <;> simp
theorem yPf{t:jR}(h:t.state=4)(k:Nat)(h0:t.ats.getD k 0=0)(d:Bool):rF t d k=none:=by
 unfold rF;rw [h,h0]
 cases d <;> simp
structure Rest(s:dX):Prop where
 c:kT s
 told:∀ k,k<s.lines.length->gS s (eE s k)=true->Told s k
theorem Told.dW{s s':dX}{k:Nat}(h:Told s k)(hl:s'.lines=s.lines)(hx:∀ id,1<=id->id<=s'.dW.length->(id<=s.dW.length/\s'.tx id=s.tx id)\/∀ d,rF (s'.tx id) d k=none):Told s' k:=by
 have e1:eE s' k=eE s k:=by unfold eE dX.line;rw [hl]
 have e2:du s'=du s:=by unfold du;rw [hl]
 rw [yHb] at h ⊢;intro id i1 i2 κ hκ;rw [e1];rcases hx id i1 i2 with ⟨q1,q2⟩ | q
 ·rw [e2,q2] at hκ;exact h id i1 q1 κ hκ
 ·rw [q] at hκ;cases hκ
theorem yUx{s s':dX}(hl:s'.lines=s.lines):qe s'=qe s:=by
 unfold qe lx qd dX.line;rw [hl]
theorem TN{s s':dX}(hd:s'.dead=s.dead)(n:eK):gS s' n=gS s n:=by unfold gS;rw [hd]
theorem Bl{s s':dX}(hl:s'.lines=s.lines)(k:Nat):eE s' k=eE s k:=by unfold eE dX.line;rw [hl]
theorem Rest.dW{s s':dX}(h:Rest s)(hS:Safe s')(hH:Held s')(hl:s'.lines=s.lines)(hd:s'.dead=s.dead)(hn:s'.net=s.net)(hx:∀ id,1<=id->id<=s'.dW.length->(id<=s.dW.length/\s'.tx id=s.tx id)\/∀ d k,rF (s'.tx id) d k=none):Rest s':=by
 refine ⟨⟨hS,hH,by rw [yUx hl];exact h.c.none,by rw [hn];exact h.c.few⟩,fun k hk hv=>?_⟩;rw [hl] at hk;rw [TN hd,Bl hl] at hv;exact (h.told k hk hv).dW hl fun id i1 i2=>(hx id i1 i2).imp (fun e=>e) (fun q d=>q d k)
theorem yDf{t:jR}(h:t.state=4)(h0:∀ k,t.ats.getD k 0=0)(d:Bool)(k:Nat):rF t d k=none:=yPf h k (h0 k) d
theorem Rest.begin{s:dX}(h:Rest s)(hl:s.dW.length<60):Rest (nf s):=by
 have q:=yLj h.c.safe h.c.held hl;refine h.dW q.safe q.held rfl rfl rfl fun id i1 i2=>?_;by_cases e:id=s.dW.length+1
 ·right;intro d k;rw [e,MB];exact Tl rfl d k
 ·left;rw [Cl] at i2;exact ⟨by omega,yh s i1 (by omega)⟩
theorem Rest.locked{s r:dX}{id k:Nat}(h:Rest s)(hg:Ma s id k r):Rest r:=by
 refine h.dW hg.safe hg.held hg.same.l hg.same.d hg.same.net fun j j1 j2=>?_;rw [hg.same.len] at j2;by_cases e:j=id
 ·right;intro d k;subst e;exact Tl hg.st d k
 ·rcases hg.cut j j1 e with q | ⟨_,q2,q3⟩
  ·exact .inl ⟨j2,q⟩
  ·exact .inr fun d k=>yDf q2 q3 d k
theorem Rest.get{s:dX}(h:Rest s)(id:Int)(key:ByteArray):Rest (fH s id key).1:=by
 unfold fH;split
 ·exact h
 rename_i e1;obtain ⟨i,rfl,h1,h2,ho⟩:=pO (ph (by simpa using e1)).1;have q:=h.locked (zX h.c.safe h.c.held h1 h2 ho key (ph (by simpa using e1)).2.1 (mode:=1) (.inl rfl));simp only;split
 ·exact q
 ·exact q
theorem Rest.put{s:dX}(h:Rest s)(id:Int)(p:fQ):Rest (fG s id p).1:=by
 have hA:=yHl h.c.safe h.c.held id p;revert hA;unfold fG;split
 ·exact fun _=>h
 split
 ·exact fun _=>h
 rename_i e1;obtain ⟨i,rfl,h1,h2,ho⟩:=pO (ph (by simpa using e1)).1;rw [aV];split
 ·exact fun _=>h
 have q:=zX h.c.safe h.c.held h1 h2 ho p.key (ph (by simpa using e1)).2.1 (mode:=2) (.inr rfl);have qR:=h.locked q;simp only;split
 ·exact fun _=>qR
 ·intro hA;generalize (gV s i p.key 2).1=r at q qR hA;have hl:i<=r.dW.length:=by rw [q.same.len];exact h2
  refine qR.dW hA.safe hA.held rfl rfl rfl fun j j1 j2=>?_;rw [my] at j2;rw [wG r i _ j1 h1 hl];split
  ·right;intro d k;refine Tl ?_ d k;unfold ni;split
   ·exact q.st
   ·exact q.st
  ·exact .inl ⟨j2,rfl⟩
theorem Rest.drop{s:dX}(h:Rest s)(id:Int):Rest (qQ s id).1:=by
 have hA:=yDh h.c.safe h.c.held id;revert hA;unfold qQ;split
 ·exact fun _=>h
 ·rename_i e;obtain ⟨i,rfl,h1,h2,ho⟩:=pO (by simpa using e);rw [aV];intro hA;have hc:=Cut.abort h1 h2 ho;refine h.dW hA.safe hA.held (Ea s i) (gG.abort s i).d (gG.abort s i).net fun j j1 j2=>?_;rw [ML] at j2;rcases hc.tx j j1 with q | ⟨_,q2,q3⟩
  ·exact .inl ⟨j2,q⟩
  ·exact .inr fun d k=>yDf q2 q3 d k
theorem Rest.net{s:dX}(h:Rest s){net:fC}(hS:Safe { s with net:=net })(hf:net.way.length<=200):Rest { s with net:=net }:=
 ⟨⟨hS,h.c.held.lines rfl rfl,h.c.none,hf⟩,fun k hk hv=>(h.told k hk hv).dW rfl fun id i1 i2=>.inl ⟨i2,rfl⟩⟩
theorem Rest.rr{s:dX}(h:Rest s)(k:Int):Rest (pd s k).1:=by
 have hA:=yBz h.c.safe h.c.held k;revert hA;unfold pd;split
 ·exact fun hA=>h.net hA.safe (aJ (List.length_eraseIdx_le _ _) h.c.few)
 ·exact fun _=>h
theorem Rest.twice{s:dX}(h:Rest s)(k:Int):Rest (oA s k).1:=by
 have hA:=zWe h.c.safe h.c.held k;revert hA;unfold oA;split
 ·split
  ·exact fun hA=>h.net hA.safe (yBf h.c.few _)
  ·exact fun _=>h
 ·exact fun _=>h
theorem Rest.fail{s:dX}(h:Rest s)(id:Int):Rest (pZ s id).1:=by
 have hA:=yDd h.c.safe h.c.held id;revert hA;unfold pZ;split
 ·exact fun _=>h
 ·intro hA;refine ⟨⟨hA.safe,hA.held,h.c.none,aJ (bB _ _) h.c.few⟩,fun k hk hv=>(h.told k hk ?_).dW rfl fun id i1 i2=>.inl ⟨i2,rfl⟩⟩;unfold gS at hv ⊢;simp only [Bool.not_eq_true',bw] at hv ⊢;exact fun q=>hv (aN.2 (.inl q))
def ye(s:dX):Prop:=∀ k,k<s.lines.length->gS s (eE s k)=true->Told s k
theorem yJa{s:dX}(h:Safe s)(hH:Held s):ye (kM (oh s)):=by
 obtain ⟨a,_⟩:=MP h hH;obtain ⟨b,c,d⟩:=xX a.safe;intro k hk hv;have hk':k<(oh s).lines.length:=by rw [c.mv.ll] at hk;exact hk
 refine d k hk' ?_;have hg:=(c.mv.at (k:=k) (j:=0) (bX.2 (a.safe.line k hk').ne)).1;have e1:fP (oh s) k 0=eE (oh s) k:=rfl;have e2:fP (kM (oh s)) k 0=eE (kM (oh s)) k:=rfl;rw [e1,e2] at hg;unfold gS at hv ⊢;rw [c.mv.dead,hg.id] at hv;exact hv
theorem yAt{s:dX}(h:Safe s):ye (kM s):=by
 obtain ⟨b,c,d⟩:=xX h;intro k hk hv;have hk':k<s.lines.length:=by rw [c.mv.ll] at hk;exact hk
 refine d k hk' ?_;have hg:=(c.mv.at (k:=k) (j:=0) (bX.2 (h.line k hk').ne)).1;have e1:fP s k 0=eE s k:=rfl;have e2:fP (kM s) k 0=eE (kM s) k:=rfl;rw [e1,e2] at hg;unfold gS at hv ⊢;rw [c.mv.dead,hg.id] at hv;exact hv
theorem yBd(n:Nat):∀ {s:dX},Safe s->Held s->ye s->ye (fA n s):=by
 induction n with
 | zero=>intro s _ _ h;exact h
 | succ n ih=>
  intro s a b h;unfold fA;split
  ·have q:=(KE a b).1;exact ih q.safe q.held (yJa a b)
  ·exact h
theorem yEu{s:dX}(h:Safe s)(hH:Held s)(ht:ye s):ye (oB s):=yBd _ h hH ht
theorem Rest.settled{s:dX}(h:Safe s)(hH:Held s)(hf:s.net.way.length<=200)(ht:ye s):Rest (oB s):=by
 obtain ⟨a,b⟩:=GX h hH;exact ⟨⟨a.safe,a.held,b,a.few hf⟩,yEu h hH ht⟩
theorem Rest.end_{s:dX}(h:Rest s)(id:Int):Rest (iT s id).1:=by
 unfold iT;split
 ·exact h
 ·rename_i e;split
  ·exact h
  ·rename_i e2;obtain ⟨i,rfl,h1,h2,ho⟩:=pO (by simpa using e);rw [aV];have hS:Safe (db s i { s.tx i with state:=2 }):=h.c.safe.write (ws:=(s.tx i).writes) h1 h2 ho (h.c.safe.tx i h1 h2).few (.inr rfl);have As:Held (db s i { s.tx i with state:=2 }):=h.c.held.ending h1 h2 rfl ho (KF (by simpa using e2));obtain ⟨b,c,_⟩:=xX hS;exact Rest.settled b (c.wI b As).held (c.few h.c.few) (yAt hS)
theorem Told.step{s s':dX}{k:Nat}(h:Told s k)(hk:k<s.lines.length)(hS:Safe s)(ht:iD s s'):Told s' k:=by
 have hd:du s'=du s:=by unfold du;rw [ht.mv.ll]
 rw [yHb] at h ⊢;intro id i1 i2 κ hκ;rw [ht.mv.tl] at i2;have e:s'.tx id=s.tx id:=by unfold dX.tx;rw [ht.dW]
 rw [hd,e] at hκ;refine Lt (h id i1 i2 κ hκ) fun c hc=>?_;have hp:=(ht.mv.at (k:=k) (j:=0) (bX.2 (hS.line k hk).ne)).2;exact hp.subset hc
theorem ye.step{s s':dX}(h:ye s)(hS:Safe s)(ht:iD s s'):ye s':=fun k hk hv=>by
 rw [ht.mv.ll] at hk;refine (h k hk ?_).step hk hS ht;have hg:=(ht.mv.at (k:=k) (j:=0) (bX.2 (hS.line k hk).ne)).1;have e1:fP s k 0=eE s k:=rfl;have e2:fP s' k 0=eE s' k:=rfl;rw [e1,e2] at hg;unfold gS at hv ⊢;rw [ht.mv.dead,hg.id] at hv;exact hv
theorem Rest.fp{s:dX}(h:Rest s)(i:Nat):Rest (lk s i):=by
 unfold lk
 cases hm:s.net.way[i]? with
 | none=>exact h
 | some m=>
  simp only;have ht:Safe (fz s i):=h.c.safe.way fun m' hm'=>cG hm';have hT:Rest (fz s i):=h.net ht (aJ (List.length_eraseIdx_le _ _) h.c.few)
  cases hn:pK s m.to with
  | none=>exact hT
  | some kj=>
   obtain ⟨kk,j⟩:=kj;obtain ⟨hk,n,q1,q2,q3⟩:=KD hn;have hS:=ht.step (k:=kk) (j:=j) (n:=n) hk q1 (h.c.safe.msg m (aC hm));have oK:=iD.step (s:=fz s i) hk q1 q2 m;exact Rest.settled hS (hT.c.held.lines oK.keys oK.dW) (oK.few hT.c.few) (ye.step hT.told ht oK)
theorem Rest.tick{s:dX}(h:Rest s):Rest (lZ s):=⟨h.c.tick.1,ye.step h.told h.c.safe (RX h.c.safe).2⟩
theorem Rest.gD(n:Nat):∀ {s:dX},Rest s->Rest (gD n s):=by
 induction n with
 | zero=>intro s h;exact h
 | succ n ih=>
  intro s h;unfold Go.Proofs.YtmaiggbnceejiaaGreatDoor.gD;split
  ·exact h
  ·exact ih (h.fp 0)
theorem Rest.turn{s:dX}(h:Rest s):Rest (xJ s):=h.tick.gD _
theorem Rest.gU{s:dX}(h:Rest s):Rest (gU s):=h.turn.turn.turn.turn
theorem Rest.ie(n:Nat):∀ {s:dX},Rest s->Rest (ie n s):=by
 induction n with
 | zero=>intro s h;exact h
 | succ n ih=>
  intro s h;unfold Go.Proofs.YtmaiggbnceejiaaGreatDoor.ie;split
  ·exact h.gU
  ·exact ih h.gU
theorem Rest.calm{s:dX}(h:Rest s):Rest (oe s):=h.ie _
theorem yOz{s:dX}(k:Nat)(hf:s.net.way.length<=200):(eW s k).net.way.length<=200:=by
 unfold eW;split
 ·exact hf
 ·unfold sV;have key:∀ (is:List Nat) (S:dX),S.net.way.length<=200->(is.foldl (fun h i=>if kc h k i then gi h (i+1) else h) S).net.way.length<=200:=by
   intro is
   induction is with
   | nil=>exact fun S h=>h
   | cons i is ih=>
    intro S h;rw [cV];refine ih _ ?_;split
    ·rw [(gG.abort S _).net];exact h
    ·exact h
  exact key _ _ (RK _ hf)
theorem Rest.fix{s:dX}(h:Rest s):Rest (mL s):=by
 unfold mL;obtain ⟨a,-⟩:=GU h.c.safe h.c.held s.lines.length (aF _);have hf:((List.range s.lines.length).foldl eW s).net.way.length<=200:=by
  generalize List.range s.lines.length=ks;have key:∀ (ks:List Nat) (S:dX),S.net.way.length<=200->(ks.foldl eW S).net.way.length<=200:=by
   intro ks
   induction ks with
   | nil=>exact fun S h=>h
   | cons k ks ih=>intro S h;exact ih _ (yOz k h)
  exact key ks s h.c.few
 obtain ⟨b,c,_⟩:=xX a.safe;exact Rest.settled b (c.wI b a.held).held (c.few hf) (yAt a.safe)
theorem Rest.new{shards nodes:Nat}(h1:1<=shards/\shards<=4)(h2:1<=nodes/\nodes<=4):Rest (fq shards nodes):=by
 obtain ⟨a,b,c⟩:=yRz h1 h2;obtain ⟨d1,d2,d3,d4,d5⟩:=Tv nodes (shards+1);have ht:(fq shards nodes).dW=[]:=d2;refine ⟨⟨a,b,?_,?_⟩,fun k hk _ id i1 i2=>by rw [ht] at i2;simp at i2;omega⟩
 ·refine GI.2 fun k hk=>?_;have hL:=a.line k hk;have hm:=Qv hL.ne (⟨0,0,[],[],0⟩:eK);have jE:(qd (fq shards nodes) k).log=[]:=by
   have hl:=RS nodes (shards+1);have nN:(fq shards nodes).line k=(oD k nodes).1:=by
    show (gY nodes (shards+1)).lines.getD k _=_;rw [hl,aI];rw [c] at hk;simp [hk]
   rw [nN] at hm;unfold qd;rw [nN];exact (US k nodes h2.1 h2.2).2 _ hm
  unfold lx;rw [jE];simp
 ·show (gY nodes (shards+1)).net.way.length<=200;have key:∀ m,(gY nodes m).net.way.length<=200:=by
   intro m
   induction m with
   | zero=>simp [gY]
   | succ m ih=>exact RK _ ih
  exact key _
theorem Td{f:Nat->Nat}{b:Nat}:∀ {n:Nat},(∀ k,k<n->f k<=b)->gm f n<=n*b
 | 0,_=>by simp [gm]
 | n+1,h=>by
  have h1:=Td (n:=n) (fun k hk=>h k (by omega));have h2:=h n (by omega);have e:gm f (n+1)=gm f n+f n:=by simp [gm]
  rw [e,Nat.succ_mul];omega
theorem yRk{s:dX}(h:Safe s):om s<=10000:=by
 have h1:om s<=s.lines.length*2000:=by
  unfold om;refine Td fun k hk=>?_;have h4:=h.pA hk;have:=Td (f:=fun j=>500 - (fP s k j).log.length) (b:=500) (n:=(s.line k).nodes.length) (fun j _=>Nat.sub_le _ _);exact aJ this (by omega)
 have:=h.shape.ll;omega
theorem Vg{s:dX}(h:kT s):gX s<=s.net.lost+1000000000000000:=by
 have h1:=yRk h.safe;have h2:=yNn h.few;have h3:pR s<=1204130400:=by
  have e:pR s=om s*120401+jr s:=rfl;omega
 have e:gX s=s.net.lost+750800*(pR s:Int):=rfl;omega
theorem yPq(n:Nat):∀ {s:dX},kT s->(ie n s).net.lost<=gX s+36160000000*n/\s.net.lost<=(ie n s).net.lost:=by
 induction n with
 | zero=>
  intro s h;refine ⟨?_,bR _⟩;show s.net.lost<=gX s+36160000000*((0:Nat):Int);have:gX s=s.net.lost+750800*(pR s:Int):=rfl;omega
 | succ n ih=>
  intro s h;unfold ie;obtain ⟨a,b,c,d⟩:=UI h;split
  ·refine ⟨?_,d⟩;have:gX (gU s)=(gU s).net.lost+750800*(pR (gU s):Int):=rfl;omega
  ·obtain ⟨a',b'⟩:=ih a;exact ⟨by omega,by omega⟩
structure eT(s s':dX):Prop where
 lost:s'.net.lost<=s.net.lost+2000000000000000
 dead:s'.dead.length<=s.dead.length+1
 down:s'.net.down.length<=s.net.down.length+1
 ll:s'.lines.length=s.lines.length
theorem eT.refl(s:dX):eT s s:=⟨by omega,by omega,by omega,rfl⟩
theorem eT.of{s s':dX}(hn:s'.net=s.net)(hd:s'.dead=s.dead)(hl:s'.lines.length=s.lines.length):eT s s':=by
 have e1:s'.net.lost=s.net.lost:=ai fC.lost hn;have e2:=ai List.length hd;have e3:s'.net.down.length=s.net.down.length:=ai (fun x=>x.down.length) hn;exact ⟨by omega,by omega,by omega,hl⟩
theorem eT.uw{s s':dX}(h:lD s s')(hl:s'.net.lost<=s.net.lost+2000000000000000):eT s s':=by
 have e2:=ai List.length h.mv.dead;have e3:=ai List.length h.down;exact ⟨hl,by omega,by omega,h.mv.ll⟩
theorem yTs{s:dX}(h:kT s):(oe s).net.lost<=gX s+361636160000000:=by
 unfold oe;obtain ⟨n,hn⟩:∃ n:Nat,n=10001:=⟨_,rfl⟩;rw [<-hn];have h1:=(yPq n h).1;omega
theorem eT.calm{s:dX}(h:kT s):eT s (oe s):=by
 have h1:=yTs h;have h2:=Vg h;have h3:=(yDq h).2;generalize oe s=r at h1 h3 ⊢;exact eT.uw h3 (by omega)
theorem eT.tick{s:dX}(h:kT s):eT s (lZ s):=by
 have h1:=(zWj h.safe).2.1;exact eT.uw h.tick.2.1 (by omega)
theorem eT.begin(s:dX):eT s (nf s):=eT.of rfl rfl rfl
theorem eT.same{s s':dX}(h:gG s s'):eT s s':=eT.of h.net h.d (by rw [h.l])
theorem eT.drop(s:dX)(id:Int):eT s (qQ s id).1:=by
 unfold qQ;split
 ·exact eT.refl s
 ·exact eT.same (gG.abort s _)
theorem eT.rr(s:dX)(k:Int):eT s (pd s k).1:=by
 unfold pd;split
 ·exact ⟨by show s.net.lost+1<=_;omega,by show s.dead.length<=_;omega,by show s.net.down.length<=_;omega,rfl⟩
 ·exact eT.refl s
theorem eT.twice(s:dX)(k:Int):eT s (oA s k).1:=by
 unfold oA;split
 ·split
  ·rename_i m _ _ _;refine ⟨?_,by show s.dead.length<=_;omega,?_,rfl⟩
   ·show (mR s.net m).lost<=_;unfold mR;split
    ·show s.net.lost+1<=_;omega
    ·show s.net.lost<=_;omega
   ·show (mR s.net m).down.length<=_;have e:=ai List.length (zWs s.net m);omega
  ·exact eT.refl s
 ·exact eT.refl s
theorem eT.fail{s:dX}(h:s.net.way.length<=200)(id:Int):eT s (pZ s id).1:=by
 unfold pZ;split
 ·exact eT.refl s
 ·refine ⟨?_,by show (s.dead++[id]).length<=_;simp,by show (s.net.down++[id]).length<=_;simp,rfl⟩;show s.net.lost+((s.net.way.length:Int) - _)<=_;omega
theorem eT.fp{s:dX}(h:kT s)(i:Nat):eT s (lk s i):=eT.uw (Rf h.safe h.held i) (by have:=(Up h.safe h.held i).2;omega)
theorem eT.get{s:dX}(h:kT s)(id:Int)(key:ByteArray):eT s (fH s id key).1:=by
 unfold fH;split
 ·exact eT.refl s
 rename_i e1;obtain ⟨i,rfl,h1,h2,ho⟩:=pO (ph (by simpa using e1)).1;have q:=eT.same (zX h.safe h.held h1 h2 ho key (ph (by simpa using e1)).2.1 (mode:=1) (.inl rfl)).same;simp only;split
 ·exact q
 ·exact q
theorem eT.put{s:dX}(h:kT s)(id:Int)(p:fQ):eT s (fG s id p).1:=by
 unfold fG;split
 ·exact eT.refl s
 split
 ·exact eT.refl s
 rename_i e1;obtain ⟨i,rfl,h1,h2,ho⟩:=pO (ph (by simpa using e1)).1;rw [aV];split
 ·exact eT.refl s
 have q:=eT.same (zX h.safe h.held h1 h2 ho p.key (ph (by simpa using e1)).2.1 (mode:=2) (.inr rfl)).same;simp only;split
 ·exact q
 ·exact ⟨q.lost,q.dead,q.down,q.ll⟩
theorem eT.settled{s S:dX}(hS:Safe S)(hH:Held S)(hn:S.net.lost<=s.net.lost+1000)(hd:S.dead=s.dead)(hw:S.net.down=s.net.down)(hl:S.lines.length=s.lines.length):eT s (oB (kM S)):=by
 obtain ⟨b,c,_⟩:=xX hS;have q:=c.wI b hH;have h1:=(Ll hS).2;have h2:=(zTk b q.held).2;have g:=q.trans (GX b q.held).1;have e2:=ai List.length g.mv.dead;have e3:=ai List.length g.down;have e4:=ai List.length hd;have e5:=ai List.length hw;generalize oB (kM S)=r at h2 g e2 e3 ⊢;exact ⟨by omega,by omega,by omega,g.mv.ll.trans hl⟩
theorem eT.end_{s:dX}(h:kT s)(id:Int):eT s (iT s id).1:=by
 unfold iT;split
 ·exact eT.refl s
 ·rename_i e;split
  ·exact eT.refl s
  ·rename_i e2;obtain ⟨i,rfl,h1,h2,ho⟩:=pO (by simpa using e);rw [aV];have hS:Safe (db s i { s.tx i with state:=2 }):=h.safe.write (ws:=(s.tx i).writes) h1 h2 ho (h.safe.tx i h1 h2).few (.inr rfl);have As:Held (db s i { s.tx i with state:=2 }):=h.held.ending h1 h2 rfl ho (KF (by simpa using e2));exact eT.settled hS As (by show s.net.lost<=_;omega) rfl rfl rfl
theorem yTb{α β:Type}(f:α->List β)(l:List α)(h:∀ a,(f a).length<=1):(l.flatMap f).length<=l.length:=by
 induction l with
 | nil=>simp
 | cons a l ih=>have:=h a;simp only [bH,aD,aW];omega
theorem yKq{s:dX}(h:Safe s)(hH:Held s){k:Nat}(hk:k<s.lines.length):(eW s k).net.lost<=s.net.lost+4:=by
 unfold eW;split
 ·omega
 ·rename_i e;obtain ⟨e1,e2⟩:=MS e;have hF:Safe (eY s k):=h.eY hk e1 e2;obtain ⟨_,b⟩:=Uq hF (hH.lines rfl rfl) (k:=k) (by rw [wF];exact hk);show (sV (eY s k) k).net.lost<=_;rw [b.net];have h1:=(Cm (mZ ⟨fa s k,(s.line k).heard⟩).2 s.net).2;have h2:(mZ ⟨fa s k,(s.line k).heard⟩).2.length<=(fa s k).length:=yTb _ _ (fun n=>Ly _);have h3:=h.pA hk;have h4:(fa s k).length<=(s.line k).nodes.length:=bB _ _;show (ly s.net _).lost<=_;omega
theorem yGb{s:dX}(h:Safe s)(hH:Held s):∀ m,m<=s.lines.length->((List.range m).foldl eW s).net.lost<=s.net.lost+4*m:=by
 intro m
 induction m with
 | zero=>exact fun _=>by simp
 | succ m ih=>
  intro hm;have b:=ih (by omega);obtain ⟨a,-⟩:=GU h hH m (by omega);rw [aj,al];have c:=yKq a.safe a.held (k:=m) (by rw [a.ll];omega);show (eW _ m).net.lost<=_;omega
theorem eT.fix{s:dX}(h:kT s):eT s (mL s):=by
 unfold mL;obtain ⟨a,b,c,-⟩:=GU h.safe h.held s.lines.length (aF _);have d:=yGb h.safe h.held s.lines.length (aF _);have e:=h.safe.shape.ll;exact eT.settled a.safe a.held (by omega) b c a.ll
structure jg(s s':dX):Prop where
 rest:Rest s'
 cost:eT s s'
 act:fZ s s'
 tl:s'.dW.length=s.dW.length
theorem jg.refl{s:dX}(h:Rest s):jg s s:=⟨h,eT.refl s,fZ.refl h.c.safe h.c.held,rfl⟩
theorem jg.get{s:dX}(h:Rest s)(id:Int)(key:ByteArray):jg s (fH s id key).1:=by
 refine ⟨h.get id key,eT.get h.c id key,ySy h.c.safe h.c.held id key,?_⟩;unfold fH;split
 ·rfl
 rename_i e1;obtain ⟨i,rfl,h1,h2,ho⟩:=pO (ph (by simpa using e1)).1;have q:=(zX h.c.safe h.c.held h1 h2 ho key (ph (by simpa using e1)).2.1 (mode:=1) (.inl rfl)).same.len;simp only;split
 ·exact q
 ·exact q
theorem jg.put{s:dX}(h:Rest s)(id:Int)(p:fQ):jg s (fG s id p).1:=by
 refine ⟨h.put id p,eT.put h.c id p,yHl h.c.safe h.c.held id p,?_⟩;unfold fG;split
 ·rfl
 split
 ·rfl
 rename_i e1;obtain ⟨i,rfl,h1,h2,ho⟩:=pO (ph (by simpa using e1)).1;rw [aV];split
 ·rfl
 have q:=(zX h.c.safe h.c.held h1 h2 ho p.key (ph (by simpa using e1)).2.1 (mode:=2) (.inr rfl)).same.len;simp only;split
 ·exact q
 ·exact (my _ _ _).trans q
theorem jg.told{s S:dX}(hS:Safe S)(hH:Held S)(hl:S.dW.length=s.dW.length):(oB (kM S)).dW.length=s.dW.length:=by
 obtain ⟨b,c,_⟩:=xX hS;have q:=c.wI b hH;exact ((q.trans (GX b q.held).1).mv.tl).trans hl
theorem jg.end_{s:dX}(h:Rest s)(id:Int):jg s (iT s id).1:=by
 refine ⟨h.end_ id,eT.end_ h.c id,yTg h.c.safe h.c.held id,?_⟩;unfold iT;split
 ·rfl
 ·rename_i e;split
  ·rfl
  ·rename_i e2;obtain ⟨i,rfl,h1,h2,ho⟩:=pO (by simpa using e);rw [aV];have hS:Safe (db s i { s.tx i with state:=2 }):=h.c.safe.write (ws:=(s.tx i).writes) h1 h2 ho (h.c.safe.tx i h1 h2).few (.inr rfl);have As:Held (db s i { s.tx i with state:=2 }):=h.c.held.ending h1 h2 rfl ho (KF (by simpa using e2));exact jg.told hS As (my _ _ _)
theorem jg.fix{s:dX}(h:Rest s):jg s (mL s):=by
 refine ⟨h.fix,eT.fix h.c,yTc h.c.safe h.c.held,?_⟩;unfold mL;obtain ⟨a,b,c,d,-⟩:=GU h.c.safe h.c.held s.lines.length (aF _);exact jg.told a.safe a.held d
theorem jg.drop{s:dX}(h:Rest s)(id:Int):jg s (qQ s id).1:=by
 refine ⟨h.drop id,eT.drop s id,yDh h.c.safe h.c.held id,?_⟩;unfold qQ;split
 ·rfl
 ·exact (gG.abort s _).len
theorem jg.rr{s:dX}(h:Rest s)(k:Int):jg s (pd s k).1:=by
 refine ⟨h.rr k,eT.rr s k,yBz h.c.safe h.c.held k,?_⟩;unfold pd;split <;> rfl
theorem jg.twice{s:dX}(h:Rest s)(k:Int):jg s (oA s k).1:=by
 refine ⟨h.twice k,eT.twice s k,zWe h.c.safe h.c.held k,?_⟩;unfold oA;split
 ·split <;> rfl
 ·rfl
theorem jg.uw{s s':dX}(h:Rest s')(hc:eT s s')(hg:lD s s'):jg s s':=⟨h,hc,hg.En,hg.mv.tl⟩
theorem jg.fp{s:dX}(h:Rest s)(i:Nat):jg s (lk s i):=jg.uw (h.fp i) (eT.fp h.c i) (Rf h.c.safe h.c.held i)
theorem jg.tick{s:dX}(h:Rest s):jg s (lZ s):=jg.uw h.tick (eT.tick h.c) h.c.tick.2.1
theorem jg.calm{s:dX}(h:Rest s):jg s (oe s):=by
 have a:=h.calm;have b:=eT.calm h.c;have c:=(yDq h.c).2;generalize oe s=r at a b c ⊢;exact jg.uw a b c
theorem jg.fail{s:dX}(h:Rest s)(id:Int):jg s (pZ s id).1:=by
 refine ⟨h.fail id,eT.fail h.c.few id,yDd h.c.safe h.c.held id,?_⟩;unfold pZ;split <;> rfl
def nameK:Nat->ByteArray
 | 0=>⟨#[97]⟩
 | 1=>⟨#[98]⟩
 | 2=>⟨#[99]⟩
 | _=>⟨#[100]⟩
theorem yKa(i:Nat):(nameK i).size=1:=by
 match i with
 | 0=>rfl
 | 1=>rfl
 | 2=>rfl
 | i+3=>rfl
structure ActD where
 what:Int
 tx:Int
 a:Int
 value:ByteArray
def fB(s:eC)(x:ActD):Nat:=if 0<s.dW.length then 1+kJ x.tx s.dW.length else 0
def eQ(x:ActD):ByteArray:=nameK (kJ x.a 4)
def gk(x:ActD):ByteArray:=if 9<x.value.size then x.value.extract 0 9 else x.value
def fh(dW:List eM)(id:Nat)(o:fg):List eM:=match dW[id - 1]? with
 | some t=>dW.set (id - 1) ⟨t.ops++[o],t.eF,t.fI⟩
 | none=>dW
noncomputable def eG(s:eC)(x:ActD):eC:=
 if x.what=0 then (if s.dW.length<7 then { s with h:=nf s.h,dW:=s.dW++[⟨[],s.now,-1⟩] } else s)
 else if x.what=1 then { s with h:=(fH s.h (fB s x) (eQ x)).1,dW:=if (fH s.h (fB s x) (eQ x)).2.2.2=0/\0<fB s x then fh s.dW (fB s x) ⟨1,eQ x,(fH s.h (fB s x) (eQ x)).2.1,(fH s.h (fB s x) (eQ x)).2.2.1⟩ else s.dW }
 else if x.what=2\/x.what=3 then { s with h:=(fG s.h (fB s x) ⟨eQ x,gk x,decide (x.what=3)⟩).1,dW:=if (fG s.h (fB s x) ⟨eQ x,gk x,decide (x.what=3)⟩).2=0/\0<fB s x then fh s.dW (fB s x) ⟨x.what,eQ x,gk x,false⟩ else s.dW }
 else if x.what=4 then { s with h:=(iT s.h (fB s x)).1 }
 else if x.what=5 then (if x.a.tmod 4=0 then { s with h:=(qQ s.h (fB s x)).1 } else s)
 else if x.what=6 then (if 0<s.h.net.way.length then { s with h:=lk s.h (kJ x.a s.h.net.way.length) } else s)
 else if x.what=7 then (if 0<s.h.net.way.length then { s with h:=(pd s.h (kJ x.a s.h.net.way.length)).1 } else s)
 else if x.what=8 then (if 0<s.h.net.way.length then { s with h:=(oA s.h (kJ x.a s.h.net.way.length)).1 } else s)
 else if x.what=9 then { s with h:=lZ s.h }
 else if x.what=10 then { s with h:=Be s (kJ x.a 3) (kJ x.tx s.nodes) }
 else if x.what=11 then { s with h:=mL s.h }
 else if x.what=12 then { s with h:=oe s.h }
 else s
def mc(s:eC):eC:={ s with dW:=s.dW.mapIdx fun i t=>if t.fI<0/\jU s.h ((i:Int)+1)=3 then ⟨t.ops,t.eF,s.now⟩ else t }
noncomputable def uZ(s:eC)(x:ActD):eC:=mc (eG { s with now:=s.now+1 } x)
structure se(m:Nat)(s:eC):Prop where
 rest:Rest s.h
 ll:s.h.lines.length=3
 tl:s.h.dW.length=s.dW.length
 few:s.dW.length<=7
 lost:s.h.net.lost<=3000000000000000*(m:Int)
 dead:s.h.dead.length<=m
 down:s.h.net.down.length<=m
 nodes:1<=s.nodes/\s.nodes<=3
theorem eT.ok{m:Nat}{s:eC}{h':dX}(h:se m s)(hc:eT s.h h'):h'.net.lost<=3000000000000000*((m+1:Nat):Int)/\h'.dead.length<=m+1/\h'.net.down.length<=m+1/\h'.lines.length=3:=by
 have h1:=hc.lost;have h2:=hc.dead;have h3:=hc.down;have h4:=h.lost;have h5:=h.dead;have h6:=h.down;exact ⟨by omega,by omega,by omega,by rw [hc.ll];exact h.ll⟩
theorem yDv(dW:List eM)(id:Nat)(o:fg):(fh dW id o).length=dW.length:=by
 unfold fh;split
 ·rw [ag]
 ·rfl
theorem Lp{m:Nat}{s:eC}(h:se m s)(x:ActD):Rest (eG s x).h/\eT s.h (eG s x).h/\True/\(eG s x).h.dW.length=(eG s x).dW.length/\(eG s x).dW.length<=7/\(eG s x).now=s.now/\(eG s x).nodes=s.nodes/\(eG s x).safe=s.safe:=by
 have hf:=h.few;have hl:=h.tl;have key:∀ (h':dX) (dW:List eM),jg s.h h'->dW.length=s.dW.length->Rest h'/\eT s.h h'/\True/\h'.dW.length=dW.length/\dW.length<=7:=fun h' dW q ht=>
  ⟨q.rest,q.cost,trivial,by rw [q.tl,hl,ht],by omega⟩
 have fin:∀ (h':dX) (dW:List eM),(Rest h'/\eT s.h h'/\True/\h'.dW.length=dW.length/\dW.length<=7)->∀ r:eC,r={ s with h:=h',dW:=dW }->Rest r.h/\eT s.h r.h/\True/\r.h.dW.length=r.dW.length/\r.dW.length<=7/\r.now=s.now/\r.nodes=s.nodes/\r.safe=s.safe:=fun h' dW q r hr=>by
  subst hr;exact ⟨q.1,q.2.1,q.2.2.1,q.2.2.2.1,q.2.2.2.2,rfl,rfl,rfl⟩
 have same:=fin s.h s.dW (key s.h s.dW (jg.refl h.rest) rfl) s rfl;obtain ⟨r,hr⟩:∃ r,r=eG s x:=⟨_,rfl⟩;rw [<-hr];unfold eG at hr;by_cases e0:x.what=0
 ·rw [aP e0] at hr;by_cases e:s.dW.length<7
  ·rw [aP e] at hr;refine fin (nf s.h) (s.dW++[⟨[],s.now,-1⟩]) ⟨h.rest.begin (by omega),eT.begin s.h,trivial,?_,?_⟩ r hr
   ·show (s.h.dW++_).length=_;simp [hl]
   ·simp;omega
  ·rw [aK e] at hr;rw [hr];exact same
 rw [aK e0] at hr;by_cases e1:x.what=1
 ·rw [aP e1] at hr;refine fin _ _ (key _ _ (jg.get h.rest _ _) ?_) r hr;split
  ·exact yDv _ _ _
  ·rfl
 rw [aK e1] at hr;by_cases e2:x.what=2\/x.what=3
 ·rw [aP e2] at hr;refine fin _ _ (key _ _ (jg.put h.rest _ _) ?_) r hr;split
  ·exact yDv _ _ _
  ·rfl
 rw [aK e2] at hr;by_cases e4:x.what=4
 ·rw [aP e4] at hr;exact fin _ _ (key _ _ (jg.end_ h.rest _) rfl) r hr
 rw [aK e4] at hr;by_cases e5:x.what=5
 ·rw [aP e5] at hr;by_cases e:x.a.tmod 4=0
  ·rw [aP e] at hr;exact fin _ _ (key _ _ (jg.drop h.rest _) rfl) r hr
  ·rw [aK e] at hr;rw [hr];exact same
 rw [aK e5] at hr;by_cases e6:x.what=6
 ·rw [aP e6] at hr;by_cases e:0<s.h.net.way.length
  ·rw [aP e] at hr;exact fin _ _ (key _ _ (jg.fp h.rest _) rfl) r hr
  ·rw [aK e] at hr;rw [hr];exact same
 rw [aK e6] at hr;by_cases e7:x.what=7
 ·rw [aP e7] at hr;by_cases e:0<s.h.net.way.length
  ·rw [aP e] at hr;exact fin _ _ (key _ _ (jg.rr h.rest _) rfl) r hr
  ·rw [aK e] at hr;rw [hr];exact same
 rw [aK e7] at hr;by_cases e8:x.what=8
 ·rw [aP e8] at hr;by_cases e:0<s.h.net.way.length
  ·rw [aP e] at hr;exact fin _ _ (key _ _ (jg.twice h.rest _) rfl) r hr
  ·rw [aK e] at hr;rw [hr];exact same
 rw [aK e8] at hr;by_cases e9:x.what=9
 ·rw [aP e9] at hr;exact fin _ _ (key _ _ (jg.tick h.rest) rfl) r hr
 rw [aK e9] at hr;by_cases e10:x.what=10
 ·rw [aP e10] at hr;refine fin _ _ (key _ _ ?_ rfl) r hr;unfold Be;split
  ·exact jg.fail h.rest _
  ·exact jg.refl h.rest
 rw [aK e10] at hr;by_cases e11:x.what=11
 ·rw [aP e11] at hr;exact fin _ _ (key _ _ (jg.fix h.rest) rfl) r hr
 rw [aK e11] at hr;by_cases e12:x.what=12
 ·rw [aP e12] at hr;exact fin _ _ (key _ _ (jg.calm h.rest) rfl) r hr
 rw [aK e12] at hr;rw [hr];exact same
theorem se.clock{m:Nat}{s:eC}(h:se m s)(t:Int):se m { s with now:=t }:=⟨h.rest,h.ll,h.tl,h.few,h.lost,h.dead,h.down,h.nodes⟩
theorem yJr{m:Nat}{s:eC}(h:se m s)(x:ActD):se (m+1) (uZ s x)/\True/\(uZ s x).now=s.now+1/\(uZ s x).safe=s.safe:=by
 obtain ⟨a1,a2,a3,a4,a5,a6,a7,a8⟩:=Lp (h.clock (s.now+1)) x;obtain ⟨b1,b2,b3,b4⟩:=eT.ok (h.clock (s.now+1)) a2;refine ⟨⟨a1,b4,?_,?_,b1,b2,b3,?_⟩,a3,a6,a8⟩
 ·show (eG _ x).h.dW.length=(List.mapIdx _ _).length;rw [List.length_mapIdx];exact a4
 ·show (List.mapIdx _ _).length<=7;rw [List.length_mapIdx];exact a5
 ·show 1<=(eG _ x).nodes/\(eG _ x).nodes<=3;rw [a7];exact h.nodes
structure jm(gs:Nat)(w:World)(y:dY)(xv:Value)(vs:List Value)(w':World)(y':dY)(Ej:Value)(vs':List Value):Prop where
 md:Mod (fun k=>y.own k≠.no\/Bg gs xv vs k) w w'
 old:∀ k,k<w.heap.size->y'.own k=y.own k
 fU:∀ k,k<w.heap.size->Bg gs Ej vs' k->Bg gs xv vs k
theorem jm.trans{gs:Nat}{w w1 w2:World}{y y1 y2:dY}{xv Co Rx:Value}{vs vs1 vs2:List Value}(h:jm gs w y xv vs w1 y1 Co vs1)(k:jm gs w1 y1 Co vs1 w2 y2 Rx vs2):jm gs w y xv vs w2 y2 Rx vs2:=
 ⟨h.md.trans' k.md (fun i hi e=>e.imp (fun e=>by rw [<-h.old i hi];exact e) (h.fU i hi)),fun i hi=>(k.old i (aH hi h.md.size)).trans (h.old i hi),fun i hi e=>h.fU i hi (k.fU i (aH hi h.md.size) e)⟩
theorem jm.steps{gs:Nat}{w w':World}{y y':dY}{xv:Value}{vs:List Value}(h:iG w y w' y'):jm gs w y xv vs w' y' xv vs:=⟨h.md.mono (fun _ _ e=>.inl e),h.old,fun _ _ e=>e⟩
theorem jm.quiet{gs:Nat}{w w':World}{y:dY}{xv:Value}{vs:List Value}(h:Mod dZ w w'):jm gs w y xv vs w' y xv vs:=jm.steps (iG.quiet h)
def eh(w:World)(n c gs g:Nat)(y:dY)(xv:Value)(vs:List Value)(s':eC)(w':World):Prop:=∃ y' Ej vs',eZ w' n c gs g y' Ej vs' s'/\jm gs w y xv vs w' y' Ej vs'
theorem dx.more{w:World}{n c c' g:Nat}{y:dY}{s:dX}(h:dx w n c g y s)(hc:c<=c'):dx w n c' g y s:={ h with qn:=⟨h.qn.1,h.qn.2.1,by have:=h.qn.2.2;omega⟩ }
theorem eZ.more{w:World}{n c c' gs g:Nat}{y:dY}{xv:Value}{vs:List Value}{s:eC}(h:eZ w n c gs g y xv vs s)(hc:c<=c'):eZ w n c' gs g y xv vs s:={ h with house:=h.house.more hc }
theorem eZ.call{w wq w':World}{n c c' d gs g:Nat}{y y':dY}{xv:Value}{vs:List Value}{s:eC}{h':dX}(h:eZ w n c gs g y xv vs s)(hq:Mod dZ w wq)(hh:dx w' n c' g y' h')(hs:iG wq y w' y')(hc:c'<=d):eh w n d gs g y xv vs { s with h:=h' } w':=
 ⟨y',xv,vs,((h.quiet hq).step hs hh).more hc,jm.steps ((iG.quiet hq).trans hs)⟩
structure iV(w:World)(n c m gs g:Nat)(y:dY)(xv:Value)(vs:List Value)(s:eC)(xb:Nat)(x:ActD):Prop where
 fU:eZ w n c gs g y xv vs s
 ok:se m s
 et:ET w
 n1:1<n
 cc:c<=8000
 mm:m<=125
 lg:n<=gs
 now:0<=s.now/\s.now<=1000
 act:dg w xb [.int .i64 x.what,.int .i64 x.tx,.int .i64 x.a,.string x.value] 34
 xn:y.own xb=.no
 xs:¬ Bg gs xv vs xb
 val:gA x.value
 NC:∀ t∈s.dW,t.ops.length<=m
section
variable {w:World} {n c m gs g:Nat} {y:dY} {xv:Value} {vs:List Value} {s:eC} {xb:Nat} {x:ActD}
theorem iV.shape(h:iV w n c m gs g y xv vs s xb x):lr s.h:=h.ok.rest.c.safe.shape
theorem iV.lost(h:iV w n c m gs g y xv vs s xb x):s.h.net.lost<=375000000000000000:=by
 have:=h.ok.lost;have:=h.mm;omega
theorem iV.lock(h:iV w n c m gs g y xv vs s xb x){wq:World}(hq:Mod dZ w wq):Mg wq n c s.h:=⟨h.shape,h.ok.rest.c.held.ki,h.et.mod hq,h.n1,by have:=h.cc;omega⟩
theorem Jm(x:ActD):gA (eQ x):=by unfold gA;rw [show (eQ x).size=1 from yKa _];decide
theorem iV.calm(h:iV w n c m gs g y xv vs s xb x)(wq:World)(hq:Mod dZ w wq):Calls Tryz.prog 16 #[.pointer (some ⟨g,0,none⟩)] wq fun e w'=>∃ ev,e=.returned ev/\eh w n (c+2) gs g y xv vs { s with h:=oe s.h } w':=by
 refine (yIk n c g y s.h wq (h.fU.house.quiet hq) h.ok.rest.c (by have:=h.cc;omega) (by have:=Vg h.ok.rest.c;have:=h.lost;omega)).mono ?_;rintro e w' ⟨rfl,y',hh,hk⟩;exact ⟨_,rfl,h.fU.call hq hh hk.st (by omega)⟩
theorem iV.fix(h:iV w n c m gs g y xv vs s xb x)(wq:World)(hq:Mod dZ w wq):Calls Tryz.prog 33 #[.pointer (some ⟨g,0,none⟩)] wq fun e w'=>∃ ev,e=.returned ev/\eh w n (c+2) gs g y xv vs { s with h:=mL s.h } w':=by
 refine (yVk n c g y s.h wq (h.fU.house.quiet hq) h.ok.rest.c.safe h.ok.rest.c.held (by have:=h.cc;omega) (by have:=h.lost;omega)).mono ?_;rintro e w' ⟨rfl,y',hh,hk⟩;exact ⟨_,rfl,h.fU.call hq hh hk.st (by omega)⟩
theorem iV.tick(h:iV w n c m gs g y xv vs s xb x)(wq:World)(hq:Mod dZ w wq):Calls Tryz.prog 31 #[.pointer (some ⟨g,0,none⟩)] wq fun e w'=>∃ ev,e=.returned ev/\eh w n (c+2) gs g y xv vs { s with h:=lZ s.h } w':=by
 refine (yHc n c g y s.h wq (h.fU.house.quiet hq) h.ok.rest.c.safe (by have:=h.lost;omega)).mono ?_;rintro e w' ⟨rfl,y',hh,hk⟩;exact ⟨_,rfl,h.fU.call hq hh hk.st (by omega)⟩
theorem iV.end_(h:iV w n c m gs g y xv vs s xb x)(id:Int)(wq:World)(hq:Mod dZ w wq):Calls Tryz.prog 15 #[.pointer (some ⟨g,0,none⟩),.int .i64 id] wq fun e w'=>∃ ev,e=.returned ev/\eh w n (c+2) gs g y xv vs { s with h:=(iT s.h id).1 } w':=by
 refine (yPd n c g y s.h id wq (h.fU.house.quiet hq) h.ok.rest.c.safe h.ok.rest.c.held (by have:=h.cc;omega) (by have:=h.lost;omega)).mono ?_;rintro e w' ⟨rfl,y',hh,hk⟩;exact ⟨_,rfl,h.fU.call hq hh hk.st (by omega)⟩
theorem iV.drop(h:iV w n c m gs g y xv vs s xb x)(id:Int)(wq:World)(hq:Mod dZ w wq):Calls Tryz.prog 12 #[.pointer (some ⟨g,0,none⟩),.int .i64 id] wq fun e w'=>∃ ev,e=.returned ev/\eh w n (c+2) gs g y xv vs { s with h:=(qQ s.h id).1 } w':=by
 refine (yTj n c g y s.h id wq (h.fU.house.quiet hq) h.shape (by have:=h.cc;omega)).mono ?_;rintro e w' ⟨rfl,y',hh,hk⟩;exact ⟨_,rfl,h.fU.call hq hh hk.st (by omega)⟩
theorem iV.fp(h:iV w n c m gs g y xv vs s xb x)(i:Nat)(hi:i<s.h.net.way.length)(wq:World)(hq:Mod dZ w wq):Calls Tryz.prog 28 #[.pointer (some ⟨g,0,none⟩),.int .i64 i] wq fun e w'=>∃ ev,e=.returned ev/\eh w n (c+2) gs g y xv vs { s with h:=lk s.h i } w':=by
 refine (zVe n c g y s.h i _ wq (h.fU.house.quiet hq) h.ok.rest.c.safe h.ok.rest.c.held (by have:=h.cc;omega) (aA hi) (by have:=h.lost;omega)).mono ?_;rintro e w' ⟨rfl,y',hh,hk⟩;exact ⟨_,rfl,h.fU.call hq hh hk.st (by omega)⟩
theorem iV.rr(h:iV w n c m gs g y xv vs s xb x)(i:Nat)(wq:World)(hq:Mod dZ w wq):Calls Tryz.prog 29 #[.pointer (some ⟨g,0,none⟩),.int .i64 i] wq fun e w'=>∃ ev,e=.returned ev/\eh w n (c+2) gs g y xv vs { s with h:=(pd s.h i).1 } w':=by
 refine (yOn n c g y s.h i wq (h.fU.house.quiet hq) (by have:=h.lost;omega)).mono ?_;rintro e w' ⟨rfl,y',hh,hk⟩;exact ⟨_,rfl,h.fU.call hq hh hk.st (by omega)⟩
theorem iV.twice(h:iV w n c m gs g y xv vs s xb x)(i:Nat)(wq:World)(hq:Mod dZ w wq):Calls Tryz.prog 30 #[.pointer (some ⟨g,0,none⟩),.int .i64 i] wq fun e w'=>∃ ev,e=.returned ev/\eh w n (c+2) gs g y xv vs { s with h:=(oA s.h i).1 } w':=by
 refine (yKk n c g y s.h i wq (h.fU.house.quiet hq) (by have:=h.lost;omega)).mono ?_;rintro e w' ⟨rfl,y',hh,hk⟩;exact ⟨_,rfl,h.fU.call hq hh hk.st (by omega)⟩
theorem iV.begin(h:iV w n c m gs g y xv vs s xb x)(wq:World)(hq:Mod dZ w wq):Calls Tryz.prog 13 #[.pointer (some ⟨g,0,none⟩)] wq fun e w'=>e=.returned (.tuple #[.int .i64 (s.dW.length+1),.nilIface])/\∃ y',eZ w' n c gs g y' xv vs { s with h:=nf s.h }/\iG w y w' y':=by
 refine (Tk n c g y s.h wq (h.fU.house.quiet hq) h.shape.ll (by have:=h.ok.few;have:=h.ok.tl;omega)).mono ?_;rintro e w' ⟨rfl,y',hh,hk⟩;exact ⟨by rw [h.ok.tl],y',(h.fU.quiet hq).step hk hh,(iG.quiet hq).trans hk⟩
theorem iV.put(h:iV w n c m gs g y xv vs s xb x)(id:Int)(p:fQ)(hk:gA p.key)(hv:gA p.val)(wq:World)(hq:Mod dZ w wq):Calls Tryz.prog 23 #[.pointer (some ⟨g,0,none⟩),.int .i64 id,.agg #[.string p.key,.string p.val,.bool p.gone]] wq fun e w'=>e=.returned (je (fG s.h id p).2)/\∃ y',eZ w' n (c+2) gs g y' xv vs { s with h:=(fG s.h id p).1 }/\iG wq y w' y':=by
 refine (yNg n c g y s.h id p wq (h.fU.house.quiet hq) (h.lock hq) hk hv).mono ?_;rintro e w' ⟨rfl,y',hh,hk⟩;exact ⟨rfl,y',(h.fU.quiet hq).step hk.st hh,hk.st⟩
theorem yFg{log:List dv}{tx:Int}{j:Nat}{p:dv}(hj:log[j]?=some p)(h1:p.kind=2)(h2:p.tx=tx):(kp log 2 tx).isSome=true:=by
 unfold kp;rw [List.findIdx?_isSome,cU];exact ⟨p,aC hj,by simp [h1,h2]⟩
theorem Safe.fM{s:dX}(h:Safe s)(key:ByteArray):(fM s key).length<=1000/\∀ c∈fM s key,c.kind=3->(kp (fM s key) 2 c.tx).isSome=true:=by
 have hd:=h.dec_lt;have hk:ee s key<du s:=dH _ (by have:=h.ll.1;unfold du;omega);have jE:=h.log (ee s key) (by omega);have e:Go.Proofs.YtmaiggbnceejiaaGreatDoor.fM s key=(eE s (ee s key)).log:=rfl;rw [e];refine ⟨?_,fun c hc h3=>?_⟩
 ·have:=(h.line (ee s key) (by omega)).few _ (h.head_mem (by omega));omega
 ·obtain ⟨i,hi⟩:=aO hc;obtain ⟨j,p,-,hj,q1,q2⟩:=jE.rq (by omega) i c hi h3;exact yFg hj q1 q2
theorem iV.get(h:iV w n c m gs g y xv vs s xb x)(id:Int)(key:ByteArray)(hk:gA key)(wq:World)(hq:Mod dZ w wq):Calls Tryz.prog 14 #[.pointer (some ⟨g,0,none⟩),.int .i64 id,.string key] wq fun e w'=>e=.returned (.tuple #[.string (fH s.h id key).2.1,.bool (fH s.h id key).2.2.1,je (fH s.h id key).2.2.2])/\∃ y',eZ w' n (c+2) gs g y' xv vs { s with h:=(fH s.h id key).1 }/\iG w y w' y':=by
 refine (yOu n c g y s.h id key wq (h.fU.house.quiet hq) (h.lock hq) hk (h.ok.rest.c.safe.fM key)).mono ?_;rintro e w' ⟨rfl,y',hh,hk⟩;exact ⟨rfl,y',(h.fU.quiet hq).step hk.st hh,(iG.quiet hq).trans hk.st⟩
theorem iV.many(h:iV w n c m gs g y xv vs s xb x)(wq:World)(hq:Mod dZ w wq):Calls Tryz.prog 27 #[.pointer (some ⟨g,0,none⟩)] wq fun e w'=>e=.returned (.int .i64 s.h.net.way.length)/\w'=wq:=yCk n c g y s.h wq (h.fU.house.quiet hq)
theorem iV.fails(h:iV w n c m gs g y xv vs s xb x)(k j:Nat)(hk:k<3)(hj:j<3)(wq:World)(hq:Mod dZ w wq):Calls Tryz.prog 32 #[.pointer (some ⟨gs,0,none⟩),.int .i64 k,.int .i64 j] wq fun e w'=>∃ ev,e=.returned ev/\eh w n (c+2) gs g y xv vs { s with h:=Be s k j } w':=by
 refine (yPc n c gs g y xv vs s k j wq (h.fU.quiet hq) h.ok.rest.c.safe h.shape (by have:=h.ok.ll;omega) hk hj (by have:=h.ok.dead;have:=h.mm;omega) (by have:=h.ok.down;have:=h.mm;omega) (by have:=h.lost;omega)).mono ?_;rintro e w' ⟨rfl,y',hh,hk⟩;exact ⟨_,rfl,y',xv,vs,hh.more (by omega),jm.steps ((iG.quiet hq).trans hk)⟩
end
theorem yQg{fr:Act}{N:Nat}(h:fr.tmps.size=N)(hd:fr.defers=[]):fr=⟨((List.range N).map fun i=>fr.tmps.getD i undef).toArray,[]⟩:=by
 obtain ⟨t,d⟩:=fr;dsimp only at h hd ⊢;subst hd;congr 1;apply Array.ext
 ·simp [h]
 ·intro i h1 h2;simp [h1]
structure iz(fr:Act)(gs:Nat):Prop where
 sz:fr.tmps.size=319
 df:fr.defers=[]
 t0:fr.tmps[0]?=some (.pointer (some ⟨gs,0,none⟩))
structure pI(fr:Act)(gs xb id:Nat)(key:ByteArray)(what:Int):Prop where
 en:iz fr gs
 t3:fr.tmps[3]?=some (.pointer (some ⟨xb,0,none⟩))
 t4:fr.tmps[4]?=some (.int .i64 id)
 t5:fr.tmps[5]?=some (.string key)
 t46:fr.tmps[46]?=some (.int .i64 what)
theorem getD_some{fr:Act}{i:Nat}{v:Value}(h:fr.tmps[i]?=some v):fr.tmps.getD i undef=v:=by
 rw [Array.getD_eq_getD_getElem?,h];rfl
theorem iz.lit{fr:Act}{gs:Nat}(h:iz fr gs):∃ f:Nat->Value,fr=⟨#[.pointer (some ⟨gs,0,none⟩),f 1,f 2,f 3,f 4,f 5,f 6,f 7,f 8,f 9,f 10,f 11,f 12,f 13,f 14,f 15,f 16,f 17,f 18,f 19,f 20,f 21,f 22,f 23,f 24,f 25,f 26,f 27,f 28,f 29,f 30,f 31,f 32,f 33,f 34,f 35,f 36,f 37,f 38,f 39,f 40,f 41,f 42,f 43,f 44,f 45,f 46,f 47,f 48,f 49,f 50,f 51,f 52,f 53,f 54,f 55,f 56,f 57,f 58,f 59,f 60,f 61,f 62,f 63,f 64,f 65,f 66,f 67,f 68,f 69,f 70,f 71,f 72,f 73,f 74,f 75,f 76,f 77,f 78,f 79,f 80,f 81,f 82,f 83,f 84,f 85,f 86,f 87,f 88,f 89,f 90,f 91,f 92,f 93,f 94,f 95,f 96,f 97,f 98,f 99,f 100,f 101,f 102,f 103,f 104,f 105,f 106,f 107,f 108,f 109,f 110,f 111,f 112,f 113,f 114,f 115,f 116,f 117,f 118,f 119,f 120,f 121,f 122,f 123,f 124,f 125,f 126,f 127,f 128,f 129,f 130,f 131,f 132,f 133,f 134,f 135,f 136,f 137,f 138,f 139,f 140,f 141,f 142,f 143,f 144,f 145,f 146,f 147,f 148,f 149,f 150,f 151,f 152,f 153,f 154,f 155,f 156,f 157,f 158,f 159,f 160,f 161,f 162,f 163,f 164,f 165,f 166,f 167,f 168,f 169,f 170,f 171,f 172,f 173,f 174,f 175,f 176,f 177,f 178,f 179,f 180,f 181,f 182,f 183,f 184,f 185,f 186,f 187,f 188,f 189,f 190,f 191,f 192,f 193,f 194,f 195,f 196,f 197,f 198,f 199,f 200,f 201,f 202,f 203,f 204,f 205,f 206,f 207,f 208,f 209,f 210,f 211,f 212,f 213,f 214,f 215,f 216,f 217,f 218,f 219,f 220,f 221,f 222,f 223,f 224,f 225,f 226,f 227,f 228,f 229,f 230,f 231,f 232,f 233,f 234,f 235,f 236,f 237,f 238,f 239,f 240,f 241,f 242,f 243,f 244,f 245,f 246,f 247,f 248,f 249,f 250,f 251,f 252,f 253,f 254,f 255,f 256,f 257,f 258,f 259,f 260,f 261,f 262,f 263,f 264,f 265,f 266,f 267,f 268,f 269,f 270,f 271,f 272,f 273,f 274,f 275,f 276,f 277,f 278,f 279,f 280,f 281,f 282,f 283,f 284,f 285,f 286,f 287,f 288,f 289,f 290,f 291,f 292,f 293,f 294,f 295,f 296,f 297,f 298,f 299,f 300,f 301,f 302,f 303,f 304,f 305,f 306,f 307,f 308,f 309,f 310,f 311,f 312,f 313,f 314,f 315,f 316,f 317,f 318],[]⟩:=by
 have e:=yQg h.sz h.df;have e0:=getD_some h.t0;refine ⟨fun i=>fr.tmps.getD i undef,e.trans ?_⟩;rw [<-e0];kernel_rfl
theorem pI.lit{fr:Act}{gs xb id:Nat}{key:ByteArray}{what:Int}(h:pI fr gs xb id key what):∃ f:Nat->Value,fr=⟨#[.pointer (some ⟨gs,0,none⟩),f 1,f 2,.pointer (some ⟨xb,0,none⟩),.int .i64 id,.string key,f 6,f 7,f 8,f 9,f 10,f 11,f 12,f 13,f 14,f 15,f 16,f 17,f 18,f 19,f 20,f 21,f 22,f 23,f 24,f 25,f 26,f 27,f 28,f 29,f 30,f 31,f 32,f 33,f 34,f 35,f 36,f 37,f 38,f 39,f 40,f 41,f 42,f 43,f 44,f 45,.int .i64 what,f 47,f 48,f 49,f 50,f 51,f 52,f 53,f 54,f 55,f 56,f 57,f 58,f 59,f 60,f 61,f 62,f 63,f 64,f 65,f 66,f 67,f 68,f 69,f 70,f 71,f 72,f 73,f 74,f 75,f 76,f 77,f 78,f 79,f 80,f 81,f 82,f 83,f 84,f 85,f 86,f 87,f 88,f 89,f 90,f 91,f 92,f 93,f 94,f 95,f 96,f 97,f 98,f 99,f 100,f 101,f 102,f 103,f 104,f 105,f 106,f 107,f 108,f 109,f 110,f 111,f 112,f 113,f 114,f 115,f 116,f 117,f 118,f 119,f 120,f 121,f 122,f 123,f 124,f 125,f 126,f 127,f 128,f 129,f 130,f 131,f 132,f 133,f 134,f 135,f 136,f 137,f 138,f 139,f 140,f 141,f 142,f 143,f 144,f 145,f 146,f 147,f 148,f 149,f 150,f 151,f 152,f 153,f 154,f 155,f 156,f 157,f 158,f 159,f 160,f 161,f 162,f 163,f 164,f 165,f 166,f 167,f 168,f 169,f 170,f 171,f 172,f 173,f 174,f 175,f 176,f 177,f 178,f 179,f 180,f 181,f 182,f 183,f 184,f 185,f 186,f 187,f 188,f 189,f 190,f 191,f 192,f 193,f 194,f 195,f 196,f 197,f 198,f 199,f 200,f 201,f 202,f 203,f 204,f 205,f 206,f 207,f 208,f 209,f 210,f 211,f 212,f 213,f 214,f 215,f 216,f 217,f 218,f 219,f 220,f 221,f 222,f 223,f 224,f 225,f 226,f 227,f 228,f 229,f 230,f 231,f 232,f 233,f 234,f 235,f 236,f 237,f 238,f 239,f 240,f 241,f 242,f 243,f 244,f 245,f 246,f 247,f 248,f 249,f 250,f 251,f 252,f 253,f 254,f 255,f 256,f 257,f 258,f 259,f 260,f 261,f 262,f 263,f 264,f 265,f 266,f 267,f 268,f 269,f 270,f 271,f 272,f 273,f 274,f 275,f 276,f 277,f 278,f 279,f 280,f 281,f 282,f 283,f 284,f 285,f 286,f 287,f 288,f 289,f 290,f 291,f 292,f 293,f 294,f 295,f 296,f 297,f 298,f 299,f 300,f 301,f 302,f 303,f 304,f 305,f 306,f 307,f 308,f 309,f 310,f 311,f 312,f 313,f 314,f 315,f 316,f 317,f 318],[]⟩:=by
 have e:=yQg h.en.sz h.en.df;have e0:=getD_some h.en.t0;have e3:=getD_some h.t3;have e4:=getD_some h.t4;have e5:=getD_some h.t5;have e46:=getD_some h.t46;refine ⟨fun i=>fr.tmps.getD i undef,e.trans ?_⟩;rw [<-e0,<-e3,<-e4,<-e5,<-e46];kernel_rfl
end Go.Proofs.YtmaiggbnceejiaaGreatDoor
