import Derived.Test.YtmaiggbnceejiaaGreatDoorP23
import Derived.Test.YtmaiggbnceejiaaGreatDoorP28
import Derived.Test.YtmaiggbnceejiaaGreatDoorP17
set_option linter.unusedVariables false
set_option maxRecDepth 100000
set_option maxHeartbeats 16000000
namespace Go.Proofs.YtmaiggbnceejiaaGreatDoor
open Go.RowKit Go.Lib Go.Maps
def nS(t:jO)(d:Bool)(k:Nat):Option Int:=
 if d then (if t.state=2/\tj t=true then some 3 else none) else if t.ats.getD k 0=0 then none else if t.state=2 then some 2 else if t.state=3 then some 3 else if t.state=4 then some 4 else none
theorem En(s:dW)(id k:Nat)(time:Int):(fb s id k time).map (·.kind)=nS (s.tx id) (decide (k=dk s)) k:=by
 unfold fb nS;simp only;by_cases e:k=dk s
 ·rw [aJ e,aQ e];simp only [if_true];split
  ·rfl
  ·rfl
 ·rw [aE e,aP e];simp only [cA,if_false];split
  ·rfl
  ·split
   ·rfl
   ·split
    ·rfl
    ·split
     ·rfl
     ·rfl
theorem QO{s:dW}{k:Nat}:Told s k↔∀ id,1<=id->id<=s.dV.length->∀ κ,nS (s.tx id) (decide (k=dk s)) k=some κ->nQ (dy s k).log κ id:=by
 constructor
 ·intro h id i1 i2 κ hκ;rw [<-En s id k 0] at hκ;obtain ⟨c,hc,rfl⟩:=cH.1 hκ;exact h id i1 i2 0 c hc
 ·intro h id i1 i2 time c hc;refine h id i1 i2 c.kind ?_;rw [<-En s id k time,hc];rfl
theorem TY{t:jO}(h:t.state=1)(d:Bool)(k:Nat):nS t d k=none:=by
 unfold nS;rw [h]
 cases d <;> simp
theorem yNw{t:jO}(h:t.state=4)(k:Nat)(h0:t.ats.getD k 0=0)(d:Bool):nS t d k=none:=by
 unfold nS;rw [h,h0]
 cases d <;> simp
structure Rest(s:dW):Prop where
 c:iv s
 told:∀ k,k<s.lines.length->fs s (dy s k)=true->Told s k
theorem Told.dV{s s':dW}{k:Nat}(h:Told s k)(hl:s'.lines=s.lines)(hx:∀ id,1<=id->id<=s'.dV.length->(id<=s.dV.length/\s'.tx id=s.tx id)\/∀ d,nS (s'.tx id) d k=none):Told s' k:=by
 have e1:dy s' k=dy s k:=by unfold dy dW.line;rw [hl]
 have e2:dk s'=dk s:=by unfold dk;rw [hl]
 rw [QO] at h ⊢;intro id i1 i2 κ hκ;rw [e1];rcases hx id i1 i2 with ⟨q1,q2⟩ | q
 ·rw [e2,q2] at hκ;exact h id i1 q1 κ hκ
 ·rw [q] at hκ;cases hκ
theorem yTi{s s':dW}(hl:s'.lines=s.lines):qO s'=qO s:=by
 unfold qO kX pE dW.line;rw [hl]
theorem Io{s s':dW}(hd:s'.dead=s.dead)(n:eH):fs s' n=fs s n:=by unfold fs;rw [hd]
theorem An{s s':dW}(hl:s'.lines=s.lines)(k:Nat):dy s' k=dy s k:=by unfold dy dW.line;rw [hl]
theorem Rest.dV{s s':dW}(h:Rest s)(hS:Safe s')(hH:Held s')(hl:s'.lines=s.lines)(hd:s'.dead=s.dead)(hn:s'.net=s.net)(hx:∀ id,1<=id->id<=s'.dV.length->(id<=s.dV.length/\s'.tx id=s.tx id)\/∀ d k,nS (s'.tx id) d k=none):Rest s':=by
 refine ⟨⟨hS,hH,by rw [yTi hl];exact h.c.none,by rw [hn];exact h.c.few⟩,fun k hk hv=>?_⟩;rw [hl] at hk;rw [Io hd,An hl] at hv;exact (h.told k hk hv).dV hl fun id i1 i2=>(hx id i1 i2).imp (fun e=>e) (fun q d=>q d k)
theorem yCw{t:jO}(h:t.state=4)(h0:∀ k,t.ats.getD k 0=0)(d:Bool)(k:Nat):nS t d k=none:=yNw h k (h0 k) d
theorem Rest.begin{s:dW}(h:Rest s)(hl:s.dV.length<60):Rest (nC s):=by
 have q:=zXt h.c.safe h.c.held hl;refine h.dV q.safe q.held rfl rfl rfl fun id i1 i2=>?_;by_cases e:id=s.dV.length+1
 ·right;intro d k;rw [e,Lb];exact TY rfl d k
 ·left;rw [Br] at i2;exact ⟨by omega,wZ s i1 (by omega)⟩
theorem Rest.locked{s r:dW}{id k:Nat}(h:Rest s)(hg:FW s id k r):Rest r:=by
 refine h.dV hg.safe hg.held hg.same.l hg.same.d hg.same.net fun j j1 j2=>?_;rw [hg.same.len] at j2;by_cases e:j=id
 ·right;intro d k;subst e;exact TY hg.st d k
 ·rcases hg.cut j j1 e with q | ⟨_,q2,q3⟩
  ·exact .inl ⟨j2,q⟩
  ·exact .inr fun d k=>yCw q2 q3 d k
theorem Rest.get{s:dW}(h:Rest s)(id:Int)(key:ByteArray):Rest (fL s id key).1:=by
 unfold fL;split
 ·exact h
 rename_i e1;obtain ⟨i,rfl,h1,h2,ho⟩:=nY (nu (by simpa using e1)).1;have q:=h.locked (tr h.c.safe h.c.held h1 h2 ho key (nu (by simpa using e1)).2.1 (mode:=1) (.inl rfl));simp only;split
 ·exact q
 ·exact q
theorem Rest.put{s:dW}(h:Rest s)(id:Int)(p:fR):Rest (eZ s id p).1:=by
 have hA:=yGq h.c.safe h.c.held id p;revert hA;unfold eZ;split
 ·exact fun _=>h
 split
 ·exact fun _=>h
 rename_i e1;obtain ⟨i,rfl,h1,h2,ho⟩:=nY (nu (by simpa using e1)).1;rw [aS];split
 ·exact fun _=>h
 have q:=tr h.c.safe h.c.held h1 h2 ho p.key (nu (by simpa using e1)).2.1 (mode:=2) (.inr rfl);have qR:=h.locked q;simp only;split
 ·exact fun _=>qR
 ·intro hA;generalize (gC s i p.key 2).1=r at q qR hA;have hl:i<=r.dV.length:=by rw [q.same.len];exact h2
  refine qR.dV hA.safe hA.held rfl rfl rfl fun j j1 j2=>?_;rw [kT] at j2;rw [mq r i _ j1 h1 hl];split
  ·right;intro d k;refine TY ?_ d k;unfold lV;split
   ·exact q.st
   ·exact q.st
  ·exact .inl ⟨j2,rfl⟩
theorem Rest.drop{s:dW}(h:Rest s)(id:Int):Rest (pC s id).1:=by
 have hA:=yCy h.c.safe h.c.held id;revert hA;unfold pC;split
 ·exact fun _=>h
 ·rename_i e;obtain ⟨i,rfl,h1,h2,ho⟩:=nY (by simpa using e);rw [aS];intro hA;have hc:=Cut.abort h1 h2 ho;refine h.dV hA.safe hA.held (CC s i) (gB.abort s i).d (gB.abort s i).net fun j j1 j2=>?_;rw [Iz] at j2;rcases hc.tx j j1 with q | ⟨_,q2,q3⟩
  ·exact .inl ⟨j2,q⟩
  ·exact .inr fun d k=>yCw q2 q3 d k
theorem Rest.net{s:dW}(h:Rest s){net:ey}(hS:Safe { s with net:=net })(hf:net.way.length<=200):Rest { s with net:=net }:=
 ⟨⟨hS,h.c.held.lines rfl rfl,h.c.none,hf⟩,fun k hk hv=>(h.told k hk hv).dV rfl fun id i1 i2=>.inl ⟨i2,rfl⟩⟩
theorem Rest.pj{s:dW}(h:Rest s)(k:Int):Rest (ob s k).1:=by
 have hA:=yBp h.c.safe h.c.held k;revert hA;unfold ob;split
 ·exact fun hA=>h.net hA.safe (aM (List.length_eraseIdx_le _ _) h.c.few)
 ·exact fun _=>h
theorem Rest.twice{s:dW}(h:Rest s)(k:Int):Rest (nD s k).1:=by
 have hA:=zWc h.c.safe h.c.held k;revert hA;unfold nD;split
 ·split
  ·exact fun hA=>h.net hA.safe (yAu h.c.few _)
  ·exact fun _=>h
 ·exact fun _=>h
theorem Rest.fail{s:dW}(h:Rest s)(id:Int):Rest (oa s id).1:=by
 have hA:=yCt h.c.safe h.c.held id;revert hA;unfold oa;split
 ·exact fun _=>h
 ·intro hA;refine ⟨⟨hA.safe,hA.held,h.c.none,aM (aw _ _) h.c.few⟩,fun k hk hv=>(h.told k hk ?_).dV rfl fun id i1 i2=>.inl ⟨i2,rfl⟩⟩;unfold fs at hv ⊢;simp only [cr,bT] at hv ⊢;exact fun q=>hv (aL.2 (.inl q))
def xu(s:dW):Prop:=∀ k,k<s.lines.length->fs s (dy s k)=true->Told s k
theorem yIb{s:dW}(h:Safe s)(hH:Held s):xu (jd (oI s)):=by
 obtain ⟨a,_⟩:=JB h hH;obtain ⟨b,c,d⟩:=sV a.safe;intro k hk hv;have hk':k<(oI s).lines.length:=by rw [c.mv.ll] at hk;exact hk
 refine d k hk' ?_;have hg:=(c.mv.at (k:=k) (j:=0) (bH.2 (a.safe.line k hk').ne)).1;have e1:eG (oI s) k 0=dy (oI s) k:=rfl;have e2:eG (jd (oI s)) k 0=dy (jd (oI s)) k:=rfl;rw [e1,e2] at hg;unfold fs at hv ⊢;rw [c.mv.dead,hg.id] at hv;exact hv
theorem yAl{s:dW}(h:Safe s):xu (jd s):=by
 obtain ⟨b,c,d⟩:=sV h;intro k hk hv;have hk':k<s.lines.length:=by rw [c.mv.ll] at hk;exact hk
 refine d k hk' ?_;have hg:=(c.mv.at (k:=k) (j:=0) (bH.2 (h.line k hk').ne)).1;have e1:eG s k 0=dy s k:=rfl;have e2:eG (jd s) k 0=dy (jd s) k:=rfl;rw [e1,e2] at hg;unfold fs at hv ⊢;rw [c.mv.dead,hg.id] at hv;exact hv
theorem yAs(n:Nat):∀ {s:dW},Safe s->Held s->xu s->xu (ez n s):=by
 induction n with
 | zero=>intro s _ _ h;exact h
 | succ n ih=>
  intro s a b h;unfold ez;split
  ·have q:=(FO a b).1;exact ih q.safe q.held (yIb a b)
  ·exact h
theorem yEc{s:dW}(h:Safe s)(hH:Held s)(ht:xu s):xu (mH s):=yAs _ h hH ht
theorem Rest.settled{s:dW}(h:Safe s)(hH:Held s)(hf:s.net.way.length<=200)(ht:xu s):Rest (mH s):=by
 obtain ⟨a,b⟩:=wm h hH;exact ⟨⟨a.safe,a.held,b,a.few hf⟩,yEc h hH ht⟩
theorem Rest.end_{s:dW}(h:Rest s)(id:Int):Rest (fa s id).1:=by
 unfold fa;split
 ·exact h
 ·rename_i e;split
  ·exact h
  ·rename_i e2;obtain ⟨i,rfl,h1,h2,ho⟩:=nY (by simpa using e);rw [aS];have hS:Safe (dY s i { s.tx i with state:=2 }):=h.c.safe.write (ws:=(s.tx i).writes) h1 h2 ho (h.c.safe.tx i h1 h2).few (.inr rfl);have uy:Held (dY s i { s.tx i with state:=2 }):=h.c.held.ending h1 h2 rfl ho (Dj (by simpa using e2));obtain ⟨b,c,_⟩:=sV hS;exact Rest.settled b (c.rV b uy).held (c.few h.c.few) (yAl hS)
theorem Told.step{s s':dW}{k:Nat}(h:Told s k)(hk:k<s.lines.length)(hS:Safe s)(ht:gb s s'):Told s' k:=by
 have hd:dk s'=dk s:=by unfold dk;rw [ht.mv.ll]
 rw [QO] at h ⊢;intro id i1 i2 κ hκ;rw [ht.mv.tl] at i2;have e:s'.tx id=s.tx id:=by unfold dW.tx;rw [ht.dV]
 rw [hd,e] at hκ;refine LU (h id i1 i2 κ hκ) fun c hc=>?_;have hp:=(ht.mv.at (k:=k) (j:=0) (bH.2 (hS.line k hk).ne)).2;exact hp.subset hc
theorem xu.step{s s':dW}(h:xu s)(hS:Safe s)(ht:gb s s'):xu s':=fun k hk hv=>by
 rw [ht.mv.ll] at hk;refine (h k hk ?_).step hk hS ht;have hg:=(ht.mv.at (k:=k) (j:=0) (bH.2 (hS.line k hk).ne)).1;have e1:eG s k 0=dy s k:=rfl;have e2:eG s' k 0=dy s' k:=rfl;rw [e1,e2] at hg;unfold fs at hv ⊢;rw [ht.mv.dead,hg.id] at hv;exact hv
theorem Rest.fN{s:dW}(h:Rest s)(i:Nat):Rest (im s i):=by
 unfold im
 cases hm:s.net.way[i]? with
 | none=>exact h
 | some m=>
  simp only;have ht:Safe (fH s i):=h.c.safe.way fun m' hm'=>bb hm';have hT:Rest (fH s i):=h.net ht (aM (List.length_eraseIdx_le _ _) h.c.few)
  cases hn:mY s m.to with
  | none=>exact hT
  | some kj=>
   obtain ⟨kk,j⟩:=kj;obtain ⟨hk,n,q1,q2,q3⟩:=Av hn;have hS:=ht.step (k:=kk) (j:=j) (n:=n) hk q1 (h.c.safe.msg m (aC hm));have lO:=gb.step (s:=fH s i) hk q1 q2 m;exact Rest.settled hS (hT.c.held.lines lO.keys lO.dV) (lO.few hT.c.few) (xu.step hT.told ht lO)
theorem Rest.tick{s:dW}(h:Rest s):Rest (jv s):=⟨h.c.tick.1,xu.step h.told h.c.safe (Lp h.c.safe).2⟩
theorem Rest.fO(n:Nat):∀ {s:dW},Rest s->Rest (fO n s):=by
 induction n with
 | zero=>intro s h;exact h
 | succ n ih=>
  intro s h;unfold Go.Proofs.YtmaiggbnceejiaaGreatDoor.fO;split
  ·exact h
  ·exact ih (h.fN 0)
theorem Rest.turn{s:dW}(h:Rest s):Rest (od s):=h.tick.fO _
theorem Rest.ff{s:dW}(h:Rest s):Rest (ff s):=h.turn.turn.turn.turn
theorem Rest.gd(n:Nat):∀ {s:dW},Rest s->Rest (gd n s):=by
 induction n with
 | zero=>intro s h;exact h
 | succ n ih=>
  intro s h;unfold Go.Proofs.YtmaiggbnceejiaaGreatDoor.gd;split
  ·exact h.ff
  ·exact ih h.ff
theorem Rest.calm{s:dW}(h:Rest s):Rest (kD s):=h.gd _
theorem yNq{s:dW}(k:Nat)(hf:s.net.way.length<=200):(eK s k).net.way.length<=200:=by
 unfold eK;split
 ·exact hf
 ·unfold pF;have key:∀ (is:List Nat) (S:dW),S.net.way.length<=200->(is.foldl (fun h i=>if kE h k i then gO h (i+1) else h) S).net.way.length<=200:=by
   intro is
   induction is with
   | nil=>exact fun S h=>h
   | cons i is ih=>
    intro S h;rw [cM];refine ih _ ?_;split
    ·rw [(gB.abort S _).net];exact h
    ·exact h
  exact key _ _ (QX _ hf)
theorem Rest.fix{s:dW}(h:Rest s):Rest (jz s):=by
 unfold jz;obtain ⟨a,-⟩:=Ax h.c.safe h.c.held s.lines.length (aF _);have hf:((List.range s.lines.length).foldl eK s).net.way.length<=200:=by
  generalize List.range s.lines.length=ks;have key:∀ (ks:List Nat) (S:dW),S.net.way.length<=200->(ks.foldl eK S).net.way.length<=200:=by
   intro ks
   induction ks with
   | nil=>exact fun S h=>h
   | cons k ks ih=>intro S h;exact ih _ (yNq k h)
  exact key ks s h.c.few
 obtain ⟨b,c,_⟩:=sV a.safe;exact Rest.settled b (c.rV b a.held).held (c.few hf) (yAl a.safe)
theorem Rest.new{shards nodes:Nat}(h1:1<=shards/\shards<=4)(h2:1<=nodes/\nodes<=4):Rest (fS shards nodes):=by
 obtain ⟨a,b,c⟩:=yQj h1 h2;obtain ⟨d1,d2,d3,d4,d5⟩:=QS nodes (shards+1);have ht:(fS shards nodes).dV=[]:=d2;refine ⟨⟨a,b,?_,?_⟩,fun k hk _ id i1 i2=>by rw [ht] at i2;simp at i2;omega⟩
 ·refine Ak.2 fun k hk=>?_;have hL:=a.line k hk;have hm:=LW hL.ne (⟨0,0,[],[],0⟩:eH);have gk:(pE (fS shards nodes) k).log=[]:=by
   have hl:=Qg nodes (shards+1);have nL:(fS shards nodes).line k=(nt k nodes).1:=by
    show (gT nodes (shards+1)).lines.getD k _=_;rw [hl,aH];rw [c] at hk;simp [hk]
   rw [nL] at hm;unfold pE;rw [nL];exact (UJ k nodes h2.1 h2.2).2 _ hm
  unfold kX;rw [gk];simp
 ·show (gT nodes (shards+1)).net.way.length<=200;have key:∀ m,(gT nodes m).net.way.length<=200:=by
   intro m
   induction m with
   | zero=>simp [gT]
   | succ m ih=>exact QX _ ih
  exact key _
theorem TQ{f:Nat->Nat}{b:Nat}:∀ {n:Nat},(∀ k,k<n->f k<=b)->gi f n<=n*b
 | 0,_=>by simp [gi]
 | n+1,h=>by
  have h1:=TQ (n:=n) (fun k hk=>h k (by omega));have h2:=h n (by omega);have e:gi f (n+1)=gi f n+f n:=by simp [gi]
  rw [e,Nat.succ_mul];omega
theorem yPt{s:dW}(h:Safe s):oc s<=10000:=by
 have h1:oc s<=s.lines.length*2000:=by
  unfold oc;refine TQ fun k hk=>?_;have h4:=h.nJ hk;have:=TQ (f:=fun j=>500 - (eG s k j).log.length) (b:=500) (n:=(s.line k).nodes.length) (fun j _=>Nat.sub_le _ _);exact aM this (by omega)
 have:=h.shape.ll;omega
theorem QC{s:dW}(h:iv s):gS s<=s.net.lost+1000000000000000:=by
 have h1:=yPt h.safe;have h2:=yMd h.few;have h3:oo s<=1204130400:=by
  have e:oo s=oc s*120401+jg s:=rfl;omega
 have e:gS s=s.net.lost+750800*(oo s:Int):=rfl;omega
theorem yOh(n:Nat):∀ {s:dW},iv s->(gd n s).net.lost<=gS s+36160000000*n/\s.net.lost<=(gd n s).net.lost:=by
 induction n with
 | zero=>
  intro s h;refine ⟨?_,bG _⟩;show s.net.lost<=gS s+36160000000*((0:Nat):Int);have:gS s=s.net.lost+750800*(oo s:Int):=rfl;omega
 | succ n ih=>
  intro s h;unfold gd;obtain ⟨a,b,c,d⟩:=Lk h;split
  ·refine ⟨?_,d⟩;have:gS (ff s)=(ff s).net.lost+750800*(oo (ff s):Int):=rfl;omega
  ·obtain ⟨a',b'⟩:=ih a;exact ⟨by omega,by omega⟩
structure eU(s s':dW):Prop where
 lost:s'.net.lost<=s.net.lost+2000000000000000
 dead:s'.dead.length<=s.dead.length+1
 down:s'.net.down.length<=s.net.down.length+1
 ll:s'.lines.length=s.lines.length
theorem eU.refl(s:dW):eU s s:=⟨by omega,by omega,by omega,rfl⟩
theorem eU.of{s s':dW}(hn:s'.net=s.net)(hd:s'.dead=s.dead)(hl:s'.lines.length=s.lines.length):eU s s':=by
 have e1:s'.net.lost=s.net.lost:=ae ey.lost hn;have e2:=ae List.length hd;have e3:s'.net.down.length=s.net.down.length:=ae (fun x=>x.down.length) hn;exact ⟨by omega,by omega,by omega,hl⟩
theorem eU.nx{s s':dW}(h:kS s s')(hl:s'.net.lost<=s.net.lost+2000000000000000):eU s s':=by
 have e2:=ae List.length h.mv.dead;have e3:=ae List.length h.down;exact ⟨hl,by omega,by omega,h.mv.ll⟩
theorem yRy{s:dW}(h:iv s):(kD s).net.lost<=gS s+361636160000000:=by
 unfold kD;obtain ⟨n,hn⟩:∃ n:Nat,n=10001:=⟨_,rfl⟩;rw [<-hn];have h1:=(yOh n h).1;omega
theorem eU.calm{s:dW}(h:iv s):eU s (kD s):=by
 have h1:=yRy h;have h2:=QC h;have h3:=(Dd h).2;generalize kD s=r at h1 h3 ⊢;exact eU.nx h3 (by omega)
theorem eU.tick{s:dW}(h:iv s):eU s (jv s):=by
 have h1:=(zWi h.safe).2.1;exact eU.nx h.tick.2.1 (by omega)
theorem eU.begin(s:dW):eU s (nC s):=eU.of rfl rfl rfl
theorem eU.same{s s':dW}(h:gB s s'):eU s s':=eU.of h.net h.d (by rw [h.l])
theorem eU.drop(s:dW)(id:Int):eU s (pC s id).1:=by
 unfold pC;split
 ·exact eU.refl s
 ·exact eU.same (gB.abort s _)
theorem eU.pj(s:dW)(k:Int):eU s (ob s k).1:=by
 unfold ob;split
 ·exact ⟨by show s.net.lost+1<=_;omega,by show s.dead.length<=_;omega,by show s.net.down.length<=_;omega,rfl⟩
 ·exact eU.refl s
theorem eU.twice(s:dW)(k:Int):eU s (nD s k).1:=by
 unfold nD;split
 ·split
  ·rename_i m _ _ _;refine ⟨?_,by show s.dead.length<=_;omega,?_,rfl⟩
   ·show (kF s.net m).lost<=_;unfold kF;split
    ·show s.net.lost+1<=_;omega
    ·show s.net.lost<=_;omega
   ·show (kF s.net m).down.length<=_;have e:=ae List.length (UQ s.net m);omega
  ·exact eU.refl s
 ·exact eU.refl s
theorem eU.fail{s:dW}(h:s.net.way.length<=200)(id:Int):eU s (oa s id).1:=by
 unfold oa;split
 ·exact eU.refl s
 ·refine ⟨?_,by show (s.dead++[id]).length<=_;simp,by show (s.net.down++[id]).length<=_;simp,rfl⟩;show s.net.lost+((s.net.way.length:Int) - _)<=_;omega
theorem eU.fN{s:dW}(h:iv s)(i:Nat):eU s (im s i):=eU.nx (JJ h.safe h.held i) (by have:=(Ui h.safe h.held i).2;omega)
theorem eU.get{s:dW}(h:iv s)(id:Int)(key:ByteArray):eU s (fL s id key).1:=by
 unfold fL;split
 ·exact eU.refl s
 rename_i e1;obtain ⟨i,rfl,h1,h2,ho⟩:=nY (nu (by simpa using e1)).1;have q:=eU.same (tr h.safe h.held h1 h2 ho key (nu (by simpa using e1)).2.1 (mode:=1) (.inl rfl)).same;simp only;split
 ·exact q
 ·exact q
theorem eU.put{s:dW}(h:iv s)(id:Int)(p:fR):eU s (eZ s id p).1:=by
 unfold eZ;split
 ·exact eU.refl s
 split
 ·exact eU.refl s
 rename_i e1;obtain ⟨i,rfl,h1,h2,ho⟩:=nY (nu (by simpa using e1)).1;rw [aS];split
 ·exact eU.refl s
 have q:=eU.same (tr h.safe h.held h1 h2 ho p.key (nu (by simpa using e1)).2.1 (mode:=2) (.inr rfl)).same;simp only;split
 ·exact q
 ·exact ⟨q.lost,q.dead,q.down,q.ll⟩
theorem eU.settled{s S:dW}(hS:Safe S)(hH:Held S)(hn:S.net.lost<=s.net.lost+1000)(hd:S.dead=s.dead)(hw:S.net.down=s.net.down)(hl:S.lines.length=s.lines.length):eU s (mH (jd S)):=by
 obtain ⟨b,c,_⟩:=sV hS;have q:=c.rV b hH;have h1:=(LO hS).2;have h2:=(zTe b q.held).2;have g:=q.trans (wm b q.held).1;have e2:=ae List.length g.mv.dead;have e3:=ae List.length g.down;have e4:=ae List.length hd;have e5:=ae List.length hw;generalize mH (jd S)=r at h2 g e2 e3 ⊢;exact ⟨by omega,by omega,by omega,g.mv.ll.trans hl⟩
theorem eU.end_{s:dW}(h:iv s)(id:Int):eU s (fa s id).1:=by
 unfold fa;split
 ·exact eU.refl s
 ·rename_i e;split
  ·exact eU.refl s
  ·rename_i e2;obtain ⟨i,rfl,h1,h2,ho⟩:=nY (by simpa using e);rw [aS];have hS:Safe (dY s i { s.tx i with state:=2 }):=h.safe.write (ws:=(s.tx i).writes) h1 h2 ho (h.safe.tx i h1 h2).few (.inr rfl);have uy:Held (dY s i { s.tx i with state:=2 }):=h.held.ending h1 h2 rfl ho (Dj (by simpa using e2));exact eU.settled hS uy (by show s.net.lost<=_;omega) rfl rfl rfl
theorem yRi{α β:Type}(f:α->List β)(l:List α)(h:∀ a,(f a).length<=1):(l.flatMap f).length<=l.length:=by
 induction l with
 | nil=>simp
 | cons a l ih=>have:=h a;simp only [bD,aD,aW];omega
theorem yJo{s:dW}(h:Safe s)(hH:Held s){k:Nat}(hk:k<s.lines.length):(eK s k).net.lost<=s.net.lost+4:=by
 unfold eK;split
 ·omega
 ·rename_i e;obtain ⟨e1,e2⟩:=JF e;have hF:Safe (eW s k):=h.eW hk e1 e2;obtain ⟨_,b⟩:=Qs hF (hH.lines rfl rfl) (k:=k) (by rw [sH];exact hk);show (pF (eW s k) k).net.lost<=_;rw [b.net];have h1:=(CA (mZ ⟨fM s k,(s.line k).heard⟩).2 s.net).2;have h2:(mZ ⟨fM s k,(s.line k).heard⟩).2.length<=(fM s k).length:=yRi _ _ (fun n=>Is _);have h3:=h.nJ hk;have h4:(fM s k).length<=(s.line k).nodes.length:=aw _ _;show (ju s.net _).lost<=_;omega
theorem yFh{s:dW}(h:Safe s)(hH:Held s):∀ m,m<=s.lines.length->((List.range m).foldl eK s).net.lost<=s.net.lost+4*m:=by
 intro m
 induction m with
 | zero=>exact fun _=>by simp
 | succ m ih=>
  intro hm;have b:=ih (by omega);obtain ⟨a,-⟩:=Ax h hH m (by omega);rw [aY,aX];have c:=yJo a.safe a.held (k:=m) (by rw [a.ll];omega);show (eK _ m).net.lost<=_;omega
theorem eU.fix{s:dW}(h:iv s):eU s (jz s):=by
 unfold jz;obtain ⟨a,b,c,-⟩:=Ax h.safe h.held s.lines.length (aF _);have d:=yFh h.safe h.held s.lines.length (aF _);have e:=h.safe.shape.ll;exact eU.settled a.safe a.held (by omega) b c a.ll
structure jT(s s':dW):Prop where
 rest:Rest s'
 cost:eU s s'
 act:fe s s'
 tl:s'.dV.length=s.dV.length
theorem jT.refl{s:dW}(h:Rest s):jT s s:=⟨h,eU.refl s,fe.refl h.c.safe h.c.held,rfl⟩
theorem jT.get{s:dW}(h:Rest s)(id:Int)(key:ByteArray):jT s (fL s id key).1:=by
 refine ⟨h.get id key,eU.get h.c id key,yRf h.c.safe h.c.held id key,?_⟩;unfold fL;split
 ·rfl
 rename_i e1;obtain ⟨i,rfl,h1,h2,ho⟩:=nY (nu (by simpa using e1)).1;have q:=(tr h.c.safe h.c.held h1 h2 ho key (nu (by simpa using e1)).2.1 (mode:=1) (.inl rfl)).same.len;simp only;split
 ·exact q
 ·exact q
theorem jT.put{s:dW}(h:Rest s)(id:Int)(p:fR):jT s (eZ s id p).1:=by
 refine ⟨h.put id p,eU.put h.c id p,yGq h.c.safe h.c.held id p,?_⟩;unfold eZ;split
 ·rfl
 split
 ·rfl
 rename_i e1;obtain ⟨i,rfl,h1,h2,ho⟩:=nY (nu (by simpa using e1)).1;rw [aS];split
 ·rfl
 have q:=(tr h.c.safe h.c.held h1 h2 ho p.key (nu (by simpa using e1)).2.1 (mode:=2) (.inr rfl)).same.len;simp only;split
 ·exact q
 ·exact (kT _ _ _).trans q
theorem jT.told{s S:dW}(hS:Safe S)(hH:Held S)(hl:S.dV.length=s.dV.length):(mH (jd S)).dV.length=s.dV.length:=by
 obtain ⟨b,c,_⟩:=sV hS;have q:=c.rV b hH;exact ((q.trans (wm b q.held).1).mv.tl).trans hl
theorem jT.end_{s:dW}(h:Rest s)(id:Int):jT s (fa s id).1:=by
 refine ⟨h.end_ id,eU.end_ h.c id,yRn h.c.safe h.c.held id,?_⟩;unfold fa;split
 ·rfl
 ·rename_i e;split
  ·rfl
  ·rename_i e2;obtain ⟨i,rfl,h1,h2,ho⟩:=nY (by simpa using e);rw [aS];have hS:Safe (dY s i { s.tx i with state:=2 }):=h.c.safe.write (ws:=(s.tx i).writes) h1 h2 ho (h.c.safe.tx i h1 h2).few (.inr rfl);have uy:Held (dY s i { s.tx i with state:=2 }):=h.c.held.ending h1 h2 rfl ho (Dj (by simpa using e2));exact jT.told hS uy (kT _ _ _)
theorem jT.fix{s:dW}(h:Rest s):jT s (jz s):=by
 refine ⟨h.fix,eU.fix h.c,yRj h.c.safe h.c.held,?_⟩;unfold jz;obtain ⟨a,b,c,d,-⟩:=Ax h.c.safe h.c.held s.lines.length (aF _);exact jT.told a.safe a.held d
theorem jT.drop{s:dW}(h:Rest s)(id:Int):jT s (pC s id).1:=by
 refine ⟨h.drop id,eU.drop s id,yCy h.c.safe h.c.held id,?_⟩;unfold pC;split
 ·rfl
 ·exact (gB.abort s _).len
theorem jT.pj{s:dW}(h:Rest s)(k:Int):jT s (ob s k).1:=by
 refine ⟨h.pj k,eU.pj s k,yBp h.c.safe h.c.held k,?_⟩;unfold ob;split <;> rfl
theorem jT.twice{s:dW}(h:Rest s)(k:Int):jT s (nD s k).1:=by
 refine ⟨h.twice k,eU.twice s k,zWc h.c.safe h.c.held k,?_⟩;unfold nD;split
 ·split <;> rfl
 ·rfl
theorem jT.nx{s s':dW}(h:Rest s')(hc:eU s s')(hg:kS s s'):jT s s':=⟨h,hc,hg.CK,hg.mv.tl⟩
theorem jT.fN{s:dW}(h:Rest s)(i:Nat):jT s (im s i):=jT.nx (h.fN i) (eU.fN h.c i) (JJ h.c.safe h.c.held i)
theorem jT.tick{s:dW}(h:Rest s):jT s (jv s):=jT.nx h.tick (eU.tick h.c) h.c.tick.2.1
theorem jT.calm{s:dW}(h:Rest s):jT s (kD s):=by
 have a:=h.calm;have b:=eU.calm h.c;have c:=(Dd h.c).2;generalize kD s=r at a b c ⊢;exact jT.nx a b c
theorem jT.fail{s:dW}(h:Rest s)(id:Int):jT s (oa s id).1:=by
 refine ⟨h.fail id,eU.fail h.c.few id,yCt h.c.safe h.c.held id,?_⟩;unfold oa;split <;> rfl
def nameK:Nat->ByteArray
 | 0=>⟨#[97]⟩
 | 1=>⟨#[98]⟩
 | 2=>⟨#[99]⟩
 | _=>⟨#[100]⟩
theorem UI(i:Nat):(nameK i).size=1:=by
 match i with
 | 0=>rfl
 | 1=>rfl
 | 2=>rfl
 | i+3=>rfl
structure ActD where
 what:Int
 tx:Int
 a:Int
 value:ByteArray
def fK(s:dw)(x:ActD):Nat:=if 0<s.dV.length then 1+jb x.tx s.dV.length else 0
def eP(x:ActD):ByteArray:=nameK (jb x.a 4)
def gh(x:ActD):ByteArray:=if 9<x.value.size then x.value.extract 0 9 else x.value
def fQ(dV:List gg)(id:Nat)(o:gQ):List gg:=match dV[id - 1]? with
 | some t=>dV.set (id - 1) ⟨t.ops++[o],t.eI,t.jx⟩
 | none=>dV
noncomputable def dx(s:dw)(x:ActD):dw:=
 if x.what=0 then (if s.dV.length<7 then { s with h:=nC s.h,dV:=s.dV++[⟨[],s.now,-1⟩] } else s)
 else if x.what=1 then { s with h:=(fL s.h (fK s x) (eP x)).1,dV:=if (fL s.h (fK s x) (eP x)).2.2.2=0/\0<fK s x then fQ s.dV (fK s x) ⟨1,eP x,(fL s.h (fK s x) (eP x)).2.1,(fL s.h (fK s x) (eP x)).2.2.1⟩ else s.dV }
 else if x.what=2\/x.what=3 then { s with h:=(eZ s.h (fK s x) ⟨eP x,gh x,decide (x.what=3)⟩).1,dV:=if (eZ s.h (fK s x) ⟨eP x,gh x,decide (x.what=3)⟩).2=0/\0<fK s x then fQ s.dV (fK s x) ⟨x.what,eP x,gh x,false⟩ else s.dV }
 else if x.what=4 then { s with h:=(fa s.h (fK s x)).1 }
 else if x.what=5 then (if x.a.tmod 4=0 then { s with h:=(pC s.h (fK s x)).1 } else s)
 else if x.what=6 then (if 0<s.h.net.way.length then { s with h:=im s.h (jb x.a s.h.net.way.length) } else s)
 else if x.what=7 then (if 0<s.h.net.way.length then { s with h:=(ob s.h (jb x.a s.h.net.way.length)).1 } else s)
 else if x.what=8 then (if 0<s.h.net.way.length then { s with h:=(nD s.h (jb x.a s.h.net.way.length)).1 } else s)
 else if x.what=9 then { s with h:=jv s.h }
 else if x.what=10 then { s with h:=yW s (jb x.a 3) (jb x.tx s.nodes) }
 else if x.what=11 then { s with h:=jz s.h }
 else if x.what=12 then { s with h:=kD s.h }
 else s
def mb(s:dw):dw:={ s with dV:=s.dV.mapIdx fun i t=>if t.jx<0/\ij s.h ((i:Int)+1)=3 then ⟨t.ops,t.eI,s.now⟩ else t }
noncomputable def kH(s:dw)(x:ActD):dw:=mb (dx { s with now:=s.now+1 } x)
structure pU(m:Nat)(s:dw):Prop where
 rest:Rest s.h
 ll:s.h.lines.length=3
 tl:s.h.dV.length=s.dV.length
 few:s.dV.length<=7
 lost:s.h.net.lost<=3000000000000000*(m:Int)
 dead:s.h.dead.length<=m
 down:s.h.net.down.length<=m
 nodes:1<=s.nodes/\s.nodes<=3
theorem eU.ok{m:Nat}{s:dw}{h':dW}(h:pU m s)(hc:eU s.h h'):h'.net.lost<=3000000000000000*((m+1:Nat):Int)/\h'.dead.length<=m+1/\h'.net.down.length<=m+1/\h'.lines.length=3:=by
 have h1:=hc.lost;have h2:=hc.dead;have h3:=hc.down;have h4:=h.lost;have h5:=h.dead;have h6:=h.down;exact ⟨by omega,by omega,by omega,by rw [hc.ll];exact h.ll⟩
theorem yDi(dV:List gg)(id:Nat)(o:gQ):(fQ dV id o).length=dV.length:=by
 unfold fQ;split
 ·rw [aa]
 ·rfl
theorem LQ{m:Nat}{s:dw}(h:pU m s)(x:ActD):Rest (dx s x).h/\eU s.h (dx s x).h/\True/\(dx s x).h.dV.length=(dx s x).dV.length/\(dx s x).dV.length<=7/\(dx s x).now=s.now/\(dx s x).nodes=s.nodes/\(dx s x).safe=s.safe:=by
 have hf:=h.few;have hl:=h.tl;have key:∀ (h':dW) (dV:List gg),jT s.h h'->dV.length=s.dV.length->Rest h'/\eU s.h h'/\True/\h'.dV.length=dV.length/\dV.length<=7:=fun h' dV q ht=>
  ⟨q.rest,q.cost,trivial,by rw [q.tl,hl,ht],by omega⟩
 have fin:∀ (h':dW) (dV:List gg),(Rest h'/\eU s.h h'/\True/\h'.dV.length=dV.length/\dV.length<=7)->∀ r:dw,r={ s with h:=h',dV:=dV }->Rest r.h/\eU s.h r.h/\True/\r.h.dV.length=r.dV.length/\r.dV.length<=7/\r.now=s.now/\r.nodes=s.nodes/\r.safe=s.safe:=fun h' dV q r hr=>by
  subst hr;exact ⟨q.1,q.2.1,q.2.2.1,q.2.2.2.1,q.2.2.2.2,rfl,rfl,rfl⟩
 have same:=fin s.h s.dV (key s.h s.dV (jT.refl h.rest) rfl) s rfl;obtain ⟨r,hr⟩:∃ r,r=dx s x:=⟨_,rfl⟩;rw [<-hr];unfold dx at hr;by_cases e0:x.what=0
 ·rw [aJ e0] at hr;by_cases e:s.dV.length<7
  ·rw [aJ e] at hr;refine fin (nC s.h) (s.dV++[⟨[],s.now,-1⟩]) ⟨h.rest.begin (by omega),eU.begin s.h,trivial,?_,?_⟩ r hr
   ·show (s.h.dV++_).length=_;simp [hl]
   ·simp;omega
  ·rw [aE e] at hr;rw [hr];exact same
 rw [aE e0] at hr;by_cases e1:x.what=1
 ·rw [aJ e1] at hr;refine fin _ _ (key _ _ (jT.get h.rest _ _) ?_) r hr;split
  ·exact yDi _ _ _
  ·rfl
 rw [aE e1] at hr;by_cases e2:x.what=2\/x.what=3
 ·rw [aJ e2] at hr;refine fin _ _ (key _ _ (jT.put h.rest _ _) ?_) r hr;split
  ·exact yDi _ _ _
  ·rfl
 rw [aE e2] at hr;by_cases e4:x.what=4
 ·rw [aJ e4] at hr;exact fin _ _ (key _ _ (jT.end_ h.rest _) rfl) r hr
 rw [aE e4] at hr;by_cases e5:x.what=5
 ·rw [aJ e5] at hr;by_cases e:x.a.tmod 4=0
  ·rw [aJ e] at hr;exact fin _ _ (key _ _ (jT.drop h.rest _) rfl) r hr
  ·rw [aE e] at hr;rw [hr];exact same
 rw [aE e5] at hr;by_cases e6:x.what=6
 ·rw [aJ e6] at hr;by_cases e:0<s.h.net.way.length
  ·rw [aJ e] at hr;exact fin _ _ (key _ _ (jT.fN h.rest _) rfl) r hr
  ·rw [aE e] at hr;rw [hr];exact same
 rw [aE e6] at hr;by_cases e7:x.what=7
 ·rw [aJ e7] at hr;by_cases e:0<s.h.net.way.length
  ·rw [aJ e] at hr;exact fin _ _ (key _ _ (jT.pj h.rest _) rfl) r hr
  ·rw [aE e] at hr;rw [hr];exact same
 rw [aE e7] at hr;by_cases e8:x.what=8
 ·rw [aJ e8] at hr;by_cases e:0<s.h.net.way.length
  ·rw [aJ e] at hr;exact fin _ _ (key _ _ (jT.twice h.rest _) rfl) r hr
  ·rw [aE e] at hr;rw [hr];exact same
 rw [aE e8] at hr;by_cases e9:x.what=9
 ·rw [aJ e9] at hr;exact fin _ _ (key _ _ (jT.tick h.rest) rfl) r hr
 rw [aE e9] at hr;by_cases e10:x.what=10
 ·rw [aJ e10] at hr;refine fin _ _ (key _ _ ?_ rfl) r hr;unfold yW;split
  ·exact jT.fail h.rest _
  ·exact jT.refl h.rest
 rw [aE e10] at hr;by_cases e11:x.what=11
 ·rw [aJ e11] at hr;exact fin _ _ (key _ _ (jT.fix h.rest) rfl) r hr
 rw [aE e11] at hr;by_cases e12:x.what=12
 ·rw [aJ e12] at hr;exact fin _ _ (key _ _ (jT.calm h.rest) rfl) r hr
 rw [aE e12] at hr;rw [hr];exact same
theorem pU.clock{m:Nat}{s:dw}(h:pU m s)(t:Int):pU m { s with now:=t }:=⟨h.rest,h.ll,h.tl,h.few,h.lost,h.dead,h.down,h.nodes⟩
theorem JG{m:Nat}{s:dw}(h:pU m s)(x:ActD):pU (m+1) (kH s x)/\True/\(kH s x).now=s.now+1/\(kH s x).safe=s.safe:=by
 obtain ⟨a1,a2,a3,a4,a5,a6,a7,a8⟩:=LQ (h.clock (s.now+1)) x;obtain ⟨b1,b2,b3,b4⟩:=eU.ok (h.clock (s.now+1)) a2;refine ⟨⟨a1,b4,?_,?_,b1,b2,b3,?_⟩,a3,a6,a8⟩
 ·show (dx _ x).h.dV.length=(List.mapIdx _ _).length;rw [List.length_mapIdx];exact a4
 ·show (List.mapIdx _ _).length<=7;rw [List.length_mapIdx];exact a5
 ·show 1<=(dx _ x).nodes/\(dx _ x).nodes<=3;rw [a7];exact h.nodes
structure jX(gs:Nat)(w:World)(y:dX)(xv:Value)(vs:List Value)(w':World)(y':dX)(vk:Value)(vs':List Value):Prop where
 md:Mod (fun k=>y.own k≠.no\/yZ gs xv vs k) w w'
 old:∀ k,k<w.heap.size->y'.own k=y.own k
 fE:∀ k,k<w.heap.size->yZ gs vk vs' k->yZ gs xv vs k
theorem jX.trans{gs:Nat}{w w1 w2:World}{y y1 y2:dX}{xv BB JX:Value}{vs vs1 vs2:List Value}(h:jX gs w y xv vs w1 y1 BB vs1)(k:jX gs w1 y1 BB vs1 w2 y2 JX vs2):jX gs w y xv vs w2 y2 JX vs2:=
 ⟨h.md.trans' k.md (fun i hi e=>e.imp (fun e=>by rw [<-h.old i hi];exact e) (h.fE i hi)),fun i hi=>(k.old i (aG hi h.md.size)).trans (h.old i hi),fun i hi e=>h.fE i hi (k.fE i (aG hi h.md.size) e)⟩
theorem jX.steps{gs:Nat}{w w':World}{y y':dX}{xv:Value}{vs:List Value}(h:iD w y w' y'):jX gs w y xv vs w' y' xv vs:=⟨h.md.mono (fun _ _ e=>.inl e),h.old,fun _ _ e=>e⟩
theorem jX.quiet{gs:Nat}{w w':World}{y:dX}{xv:Value}{vs:List Value}(h:Mod dZ w w'):jX gs w y xv vs w' y xv vs:=jX.steps (iD.quiet h)
def fC(w:World)(n c gs g:Nat)(y:dX)(xv:Value)(vs:List Value)(s':dw)(w':World):Prop:=∃ y' vk vs',ef w' n c gs g y' vk vs' s'/\jX gs w y xv vs w' y' vk vs'
theorem du.more{w:World}{n c c' g:Nat}{y:dX}{s:dW}(h:du w n c g y s)(hc:c<=c'):du w n c' g y s:={ h with qn:=⟨h.qn.1,h.qn.2.1,by have:=h.qn.2.2;omega⟩ }
theorem ef.more{w:World}{n c c' gs g:Nat}{y:dX}{xv:Value}{vs:List Value}{s:dw}(h:ef w n c gs g y xv vs s)(hc:c<=c'):ef w n c' gs g y xv vs s:={ h with house:=h.house.more hc }
theorem ef.call{w wq w':World}{n c c' d gs g:Nat}{y y':dX}{xv:Value}{vs:List Value}{s:dw}{h':dW}(h:ef w n c gs g y xv vs s)(hq:Mod dZ w wq)(hh:du w' n c' g y' h')(hs:iD wq y w' y')(hc:c'<=d):fC w n d gs g y xv vs { s with h:=h' } w':=
 ⟨y',xv,vs,((h.quiet hq).step hs hh).more hc,jX.steps ((iD.quiet hq).trans hs)⟩
structure iR(w:World)(n c m gs g:Nat)(y:dX)(xv:Value)(vs:List Value)(s:dw)(xb:Nat)(x:ActD):Prop where
 fE:ef w n c gs g y xv vs s
 ok:pU m s
 et:ET w
 n1:1<n
 cc:c<=8000
 mm:m<=125
 lg:n<=gs
 now:0<=s.now/\s.now<=1000
 act:dh w xb [.int .i64 x.what,.int .i64 x.tx,.int .i64 x.a,.string x.value] 34
 xn:y.own xb=.no
 xs:¬ yZ gs xv vs xb
 val:fj x.value
 MU:∀ t∈s.dV,t.ops.length<=m
section
variable {w:World} {n c m gs g:Nat} {y:dX} {xv:Value} {vs:List Value} {s:dw} {xb:Nat} {x:ActD}
theorem iR.shape(h:iR w n c m gs g y xv vs s xb x):lY s.h:=h.ok.rest.c.safe.shape
theorem iR.lost(h:iR w n c m gs g y xv vs s xb x):s.h.net.lost<=375000000000000000:=by
 have:=h.ok.lost;have:=h.mm;omega
theorem iR.lock(h:iR w n c m gs g y xv vs s xb x){wq:World}(hq:Mod dZ w wq):Ic wq n c s.h:=⟨h.shape,h.ok.rest.c.held.ki,h.et.mod hq,h.n1,by have:=h.cc;omega⟩
theorem Ij(x:ActD):fj (eP x):=by unfold fj;rw [show (eP x).size=1 from UI _];decide
theorem iR.calm(h:iR w n c m gs g y xv vs s xb x)(wq:World)(hq:Mod dZ w wq):Calls Tryz.prog 16 #[.pointer (some ⟨g,0,none⟩)] wq fun e w'=>∃ ev,e=.returned ev/\fC w n (c+2) gs g y xv vs { s with h:=kD s.h } w':=by
 refine (Sv n c g y s.h wq (h.fE.house.quiet hq) h.ok.rest.c (by have:=h.cc;omega) (by have:=QC h.ok.rest.c;have:=h.lost;omega)).mono ?_;rintro e w' ⟨rfl,y',hh,hk⟩;exact ⟨_,rfl,h.fE.call hq hh hk.st (by omega)⟩
theorem iR.fix(h:iR w n c m gs g y xv vs s xb x)(wq:World)(hq:Mod dZ w wq):Calls Tryz.prog 33 #[.pointer (some ⟨g,0,none⟩)] wq fun e w'=>∃ ev,e=.returned ev/\fC w n (c+2) gs g y xv vs { s with h:=jz s.h } w':=by
 refine (yTu n c g y s.h wq (h.fE.house.quiet hq) h.ok.rest.c.safe h.ok.rest.c.held (by have:=h.cc;omega) (by have:=h.lost;omega)).mono ?_;rintro e w' ⟨rfl,y',hh,hk⟩;exact ⟨_,rfl,h.fE.call hq hh hk.st (by omega)⟩
theorem iR.tick(h:iR w n c m gs g y xv vs s xb x)(wq:World)(hq:Mod dZ w wq):Calls Tryz.prog 31 #[.pointer (some ⟨g,0,none⟩)] wq fun e w'=>∃ ev,e=.returned ev/\fC w n (c+2) gs g y xv vs { s with h:=jv s.h } w':=by
 refine (yGi n c g y s.h wq (h.fE.house.quiet hq) h.ok.rest.c.safe (by have:=h.lost;omega)).mono ?_;rintro e w' ⟨rfl,y',hh,hk⟩;exact ⟨_,rfl,h.fE.call hq hh hk.st (by omega)⟩
theorem iR.end_(h:iR w n c m gs g y xv vs s xb x)(id:Int)(wq:World)(hq:Mod dZ w wq):Calls Tryz.prog 15 #[.pointer (some ⟨g,0,none⟩),.int .i64 id] wq fun e w'=>∃ ev,e=.returned ev/\fC w n (c+2) gs g y xv vs { s with h:=(fa s.h id).1 } w':=by
 refine (VO n c g y s.h id wq (h.fE.house.quiet hq) h.ok.rest.c.safe h.ok.rest.c.held (by have:=h.cc;omega) (by have:=h.lost;omega)).mono ?_;rintro e w' ⟨rfl,y',hh,hk⟩;exact ⟨_,rfl,h.fE.call hq hh hk.st (by omega)⟩
theorem iR.drop(h:iR w n c m gs g y xv vs s xb x)(id:Int)(wq:World)(hq:Mod dZ w wq):Calls Tryz.prog 12 #[.pointer (some ⟨g,0,none⟩),.int .i64 id] wq fun e w'=>∃ ev,e=.returned ev/\fC w n (c+2) gs g y xv vs { s with h:=(pC s.h id).1 } w':=by
 refine (yRr n c g y s.h id wq (h.fE.house.quiet hq) h.shape (by have:=h.cc;omega)).mono ?_;rintro e w' ⟨rfl,y',hh,hk⟩;exact ⟨_,rfl,h.fE.call hq hh hk.st (by omega)⟩
theorem iR.fN(h:iR w n c m gs g y xv vs s xb x)(i:Nat)(hi:i<s.h.net.way.length)(wq:World)(hq:Mod dZ w wq):Calls Tryz.prog 28 #[.pointer (some ⟨g,0,none⟩),.int .i64 i] wq fun e w'=>∃ ev,e=.returned ev/\fC w n (c+2) gs g y xv vs { s with h:=im s.h i } w':=by
 refine (zVb n c g y s.h i _ wq (h.fE.house.quiet hq) h.ok.rest.c.safe h.ok.rest.c.held (by have:=h.cc;omega) (aA hi) (by have:=h.lost;omega)).mono ?_;rintro e w' ⟨rfl,y',hh,hk⟩;exact ⟨_,rfl,h.fE.call hq hh hk.st (by omega)⟩
theorem iR.pj(h:iR w n c m gs g y xv vs s xb x)(i:Nat)(wq:World)(hq:Mod dZ w wq):Calls Tryz.prog 29 #[.pointer (some ⟨g,0,none⟩),.int .i64 i] wq fun e w'=>∃ ev,e=.returned ev/\fC w n (c+2) gs g y xv vs { s with h:=(ob s.h i).1 } w':=by
 refine (yNd n c g y s.h i wq (h.fE.house.quiet hq) (by have:=h.lost;omega)).mono ?_;rintro e w' ⟨rfl,y',hh,hk⟩;exact ⟨_,rfl,h.fE.call hq hh hk.st (by omega)⟩
theorem iR.twice(h:iR w n c m gs g y xv vs s xb x)(i:Nat)(wq:World)(hq:Mod dZ w wq):Calls Tryz.prog 30 #[.pointer (some ⟨g,0,none⟩),.int .i64 i] wq fun e w'=>∃ ev,e=.returned ev/\fC w n (c+2) gs g y xv vs { s with h:=(nD s.h i).1 } w':=by
 refine (yJh n c g y s.h i wq (h.fE.house.quiet hq) (by have:=h.lost;omega)).mono ?_;rintro e w' ⟨rfl,y',hh,hk⟩;exact ⟨_,rfl,h.fE.call hq hh hk.st (by omega)⟩
theorem iR.begin(h:iR w n c m gs g y xv vs s xb x)(wq:World)(hq:Mod dZ w wq):Calls Tryz.prog 13 #[.pointer (some ⟨g,0,none⟩)] wq fun e w'=>e=.returned (.tuple #[.int .i64 (s.dV.length+1),.nilIface])/\∃ y',ef w' n c gs g y' xv vs { s with h:=nC s.h }/\iD w y w' y':=by
 refine (TX n c g y s.h wq (h.fE.house.quiet hq) h.shape.ll (by have:=h.ok.few;have:=h.ok.tl;omega)).mono ?_;rintro e w' ⟨rfl,y',hh,hk⟩;exact ⟨by rw [h.ok.tl],y',(h.fE.quiet hq).step hk hh,(iD.quiet hq).trans hk⟩
theorem iR.put(h:iR w n c m gs g y xv vs s xb x)(id:Int)(p:fR)(hk:fj p.key)(hv:fj p.val)(wq:World)(hq:Mod dZ w wq):Calls Tryz.prog 23 #[.pointer (some ⟨g,0,none⟩),.int .i64 id,.agg #[.string p.key,.string p.val,.bool p.gone]] wq fun e w'=>e=.returned (ie (eZ s.h id p).2)/\∃ y',ef w' n (c+2) gs g y' xv vs { s with h:=(eZ s.h id p).1 }/\iD wq y w' y':=by
 refine (VU n c g y s.h id p wq (h.fE.house.quiet hq) (h.lock hq) hk hv).mono ?_;rintro e w' ⟨rfl,y',hh,hk⟩;exact ⟨rfl,y',(h.fE.quiet hq).step hk.st hh,hk.st⟩
theorem yEn{log:List dt}{tx:Int}{j:Nat}{p:dt}(hj:log[j]?=some p)(h1:p.kind=2)(h2:p.tx=tx):(kq log 2 tx).isSome=true:=by
 unfold kq;rw [List.findIdx?_isSome,cK];exact ⟨p,aC hj,by simp [h1,h2]⟩
theorem Safe.fV{s:dW}(h:Safe s)(key:ByteArray):(fV s key).length<=1000/\∀ c∈fV s key,c.kind=3->(kq (fV s key) 2 c.tx).isSome=true:=by
 have hd:=h.dec_lt;have hk:ee s key<dk s:=dF _ (by have:=h.ll.1;unfold dk;omega);have gk:=h.log (ee s key) (by omega);have e:Go.Proofs.YtmaiggbnceejiaaGreatDoor.fV s key=(dy s (ee s key)).log:=rfl;rw [e];refine ⟨?_,fun c hc h3=>?_⟩
 ·have:=(h.line (ee s key) (by omega)).few _ (h.head_mem (by omega));omega
 ·obtain ⟨i,hi⟩:=aN hc;obtain ⟨j,p,-,hj,q1,q2⟩:=gk.rX (by omega) i c hi h3;exact yEn hj q1 q2
theorem iR.get(h:iR w n c m gs g y xv vs s xb x)(id:Int)(key:ByteArray)(hk:fj key)(wq:World)(hq:Mod dZ w wq):Calls Tryz.prog 14 #[.pointer (some ⟨g,0,none⟩),.int .i64 id,.string key] wq fun e w'=>e=.returned (.tuple #[.string (fL s.h id key).2.1,.bool (fL s.h id key).2.2.1,ie (fL s.h id key).2.2.2])/\∃ y',ef w' n (c+2) gs g y' xv vs { s with h:=(fL s.h id key).1 }/\iD w y w' y':=by
 refine (yNk n c g y s.h id key wq (h.fE.house.quiet hq) (h.lock hq) hk (h.ok.rest.c.safe.fV key)).mono ?_;rintro e w' ⟨rfl,y',hh,hk⟩;exact ⟨rfl,y',(h.fE.quiet hq).step hk.st hh,(iD.quiet hq).trans hk.st⟩
theorem iR.many(h:iR w n c m gs g y xv vs s xb x)(wq:World)(hq:Mod dZ w wq):Calls Tryz.prog 27 #[.pointer (some ⟨g,0,none⟩)] wq fun e w'=>e=.returned (.int .i64 s.h.net.way.length)/\w'=wq:=yCb n c g y s.h wq (h.fE.house.quiet hq)
theorem iR.fails(h:iR w n c m gs g y xv vs s xb x)(k j:Nat)(hk:k<3)(hj:j<3)(wq:World)(hq:Mod dZ w wq):Calls Tryz.prog 32 #[.pointer (some ⟨gs,0,none⟩),.int .i64 k,.int .i64 j] wq fun e w'=>∃ ev,e=.returned ev/\fC w n (c+2) gs g y xv vs { s with h:=yW s k j } w':=by
 refine (yNt n c gs g y xv vs s k j wq (h.fE.quiet hq) h.ok.rest.c.safe h.shape (by have:=h.ok.ll;omega) hk hj (by have:=h.ok.dead;have:=h.mm;omega) (by have:=h.ok.down;have:=h.mm;omega) (by have:=h.lost;omega)).mono ?_;rintro e w' ⟨rfl,y',hh,hk⟩;exact ⟨_,rfl,y',xv,vs,hh.more (by omega),jX.steps ((iD.quiet hq).trans hk)⟩
end
theorem yOv{fr:Act}{N:Nat}(h:fr.tmps.size=N)(hd:fr.defers=[]):fr=⟨((List.range N).map fun i=>fr.tmps.getD i undef).toArray,[]⟩:=by
 obtain ⟨t,d⟩:=fr;dsimp only at h hd ⊢;subst hd;congr 1;apply Array.ext
 ·simp [h]
 ·intro i h1 h2;simp [h1]
structure iu(fr:Act)(gs:Nat):Prop where
 sz:fr.tmps.size=319
 df:fr.defers=[]
 t0:fr.tmps[0]?=some (.pointer (some ⟨gs,0,none⟩))
structure oz(fr:Act)(gs xb id:Nat)(key:ByteArray)(what:Int):Prop where
 en:iu fr gs
 t3:fr.tmps[3]?=some (.pointer (some ⟨xb,0,none⟩))
 t4:fr.tmps[4]?=some (.int .i64 id)
 t5:fr.tmps[5]?=some (.string key)
 t46:fr.tmps[46]?=some (.int .i64 what)
theorem getD_some{fr:Act}{i:Nat}{v:Value}(h:fr.tmps[i]?=some v):fr.tmps.getD i undef=v:=by
 rw [Array.getD_eq_getD_getElem?,h];rfl
theorem iu.lit{fr:Act}{gs:Nat}(h:iu fr gs):∃ f:Nat->Value,fr=⟨#[.pointer (some ⟨gs,0,none⟩),f 1,f 2,f 3,f 4,f 5,f 6,f 7,f 8,f 9,f 10,f 11,f 12,f 13,f 14,f 15,f 16,f 17,f 18,f 19,f 20,f 21,f 22,f 23,f 24,f 25,f 26,f 27,f 28,f 29,f 30,f 31,f 32,f 33,f 34,f 35,f 36,f 37,f 38,f 39,f 40,f 41,f 42,f 43,f 44,f 45,f 46,f 47,f 48,f 49,f 50,f 51,f 52,f 53,f 54,f 55,f 56,f 57,f 58,f 59,f 60,f 61,f 62,f 63,f 64,f 65,f 66,f 67,f 68,f 69,f 70,f 71,f 72,f 73,f 74,f 75,f 76,f 77,f 78,f 79,f 80,f 81,f 82,f 83,f 84,f 85,f 86,f 87,f 88,f 89,f 90,f 91,f 92,f 93,f 94,f 95,f 96,f 97,f 98,f 99,f 100,f 101,f 102,f 103,f 104,f 105,f 106,f 107,f 108,f 109,f 110,f 111,f 112,f 113,f 114,f 115,f 116,f 117,f 118,f 119,f 120,f 121,f 122,f 123,f 124,f 125,f 126,f 127,f 128,f 129,f 130,f 131,f 132,f 133,f 134,f 135,f 136,f 137,f 138,f 139,f 140,f 141,f 142,f 143,f 144,f 145,f 146,f 147,f 148,f 149,f 150,f 151,f 152,f 153,f 154,f 155,f 156,f 157,f 158,f 159,f 160,f 161,f 162,f 163,f 164,f 165,f 166,f 167,f 168,f 169,f 170,f 171,f 172,f 173,f 174,f 175,f 176,f 177,f 178,f 179,f 180,f 181,f 182,f 183,f 184,f 185,f 186,f 187,f 188,f 189,f 190,f 191,f 192,f 193,f 194,f 195,f 196,f 197,f 198,f 199,f 200,f 201,f 202,f 203,f 204,f 205,f 206,f 207,f 208,f 209,f 210,f 211,f 212,f 213,f 214,f 215,f 216,f 217,f 218,f 219,f 220,f 221,f 222,f 223,f 224,f 225,f 226,f 227,f 228,f 229,f 230,f 231,f 232,f 233,f 234,f 235,f 236,f 237,f 238,f 239,f 240,f 241,f 242,f 243,f 244,f 245,f 246,f 247,f 248,f 249,f 250,f 251,f 252,f 253,f 254,f 255,f 256,f 257,f 258,f 259,f 260,f 261,f 262,f 263,f 264,f 265,f 266,f 267,f 268,f 269,f 270,f 271,f 272,f 273,f 274,f 275,f 276,f 277,f 278,f 279,f 280,f 281,f 282,f 283,f 284,f 285,f 286,f 287,f 288,f 289,f 290,f 291,f 292,f 293,f 294,f 295,f 296,f 297,f 298,f 299,f 300,f 301,f 302,f 303,f 304,f 305,f 306,f 307,f 308,f 309,f 310,f 311,f 312,f 313,f 314,f 315,f 316,f 317,f 318],[]⟩:=by
 have e:=yOv h.sz h.df;have e0:=getD_some h.t0;refine ⟨fun i=>fr.tmps.getD i undef,e.trans ?_⟩;rw [<-e0];kernel_rfl
theorem oz.lit{fr:Act}{gs xb id:Nat}{key:ByteArray}{what:Int}(h:oz fr gs xb id key what):∃ f:Nat->Value,fr=⟨#[.pointer (some ⟨gs,0,none⟩),f 1,f 2,.pointer (some ⟨xb,0,none⟩),.int .i64 id,.string key,f 6,f 7,f 8,f 9,f 10,f 11,f 12,f 13,f 14,f 15,f 16,f 17,f 18,f 19,f 20,f 21,f 22,f 23,f 24,f 25,f 26,f 27,f 28,f 29,f 30,f 31,f 32,f 33,f 34,f 35,f 36,f 37,f 38,f 39,f 40,f 41,f 42,f 43,f 44,f 45,.int .i64 what,f 47,f 48,f 49,f 50,f 51,f 52,f 53,f 54,f 55,f 56,f 57,f 58,f 59,f 60,f 61,f 62,f 63,f 64,f 65,f 66,f 67,f 68,f 69,f 70,f 71,f 72,f 73,f 74,f 75,f 76,f 77,f 78,f 79,f 80,f 81,f 82,f 83,f 84,f 85,f 86,f 87,f 88,f 89,f 90,f 91,f 92,f 93,f 94,f 95,f 96,f 97,f 98,f 99,f 100,f 101,f 102,f 103,f 104,f 105,f 106,f 107,f 108,f 109,f 110,f 111,f 112,f 113,f 114,f 115,f 116,f 117,f 118,f 119,f 120,f 121,f 122,f 123,f 124,f 125,f 126,f 127,f 128,f 129,f 130,f 131,f 132,f 133,f 134,f 135,f 136,f 137,f 138,f 139,f 140,f 141,f 142,f 143,f 144,f 145,f 146,f 147,f 148,f 149,f 150,f 151,f 152,f 153,f 154,f 155,f 156,f 157,f 158,f 159,f 160,f 161,f 162,f 163,f 164,f 165,f 166,f 167,f 168,f 169,f 170,f 171,f 172,f 173,f 174,f 175,f 176,f 177,f 178,f 179,f 180,f 181,f 182,f 183,f 184,f 185,f 186,f 187,f 188,f 189,f 190,f 191,f 192,f 193,f 194,f 195,f 196,f 197,f 198,f 199,f 200,f 201,f 202,f 203,f 204,f 205,f 206,f 207,f 208,f 209,f 210,f 211,f 212,f 213,f 214,f 215,f 216,f 217,f 218,f 219,f 220,f 221,f 222,f 223,f 224,f 225,f 226,f 227,f 228,f 229,f 230,f 231,f 232,f 233,f 234,f 235,f 236,f 237,f 238,f 239,f 240,f 241,f 242,f 243,f 244,f 245,f 246,f 247,f 248,f 249,f 250,f 251,f 252,f 253,f 254,f 255,f 256,f 257,f 258,f 259,f 260,f 261,f 262,f 263,f 264,f 265,f 266,f 267,f 268,f 269,f 270,f 271,f 272,f 273,f 274,f 275,f 276,f 277,f 278,f 279,f 280,f 281,f 282,f 283,f 284,f 285,f 286,f 287,f 288,f 289,f 290,f 291,f 292,f 293,f 294,f 295,f 296,f 297,f 298,f 299,f 300,f 301,f 302,f 303,f 304,f 305,f 306,f 307,f 308,f 309,f 310,f 311,f 312,f 313,f 314,f 315,f 316,f 317,f 318],[]⟩:=by
 have e:=yOv h.en.sz h.en.df;have e0:=getD_some h.en.t0;have e3:=getD_some h.t3;have e4:=getD_some h.t4;have e5:=getD_some h.t5;have e46:=getD_some h.t46;refine ⟨fun i=>fr.tmps.getD i undef,e.trans ?_⟩;rw [<-e0,<-e3,<-e4,<-e5,<-e46];kernel_rfl
end Go.Proofs.YtmaiggbnceejiaaGreatDoor
