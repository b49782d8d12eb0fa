import Derived.Test.YtmaiggbnceejiaaGreatDoorP31
set_option linter.unusedVariables false
set_option maxRecDepth 100000
set_option maxHeartbeats 16000000
namespace Go.Proofs.YtmaiggbnceejiaaGreatDoor
def dueK(t:TxS)(d:Bool)(k:Nat):Option Int:=
 if d then (if t.state=2/\zIy t=true then some 3 else none) else if t.ats.getD k 0=0 then none else if t.state=2 then some 2 else if t.state=3 then some 3 else if t.state=4 then some 4 else none
theorem due_K(s:zAa)(id k:Nat)(time:Int):(dueH s id k time).map (·.kind)=dueK (s.tx id) (decide (k=decH s)) k:=by
 unfold dueH dueK
 simp only
 by_cases e:k=decH s
 ·rw [if_pos e,decide_eq_true e]
  simp only [if_true]
  split
  ·rfl
  ·rfl
 ·rw [if_neg e,decide_eq_false e]
  simp only [Bool.false_eq_true,if_false]
  split
  ·rfl
  ·split
   ·rfl
   ·split
    ·rfl
    ·split
     ·rfl
     ·rfl
theorem yDz{s:zAa}{k:Nat}:Told s k↔∀ id,1<=id->id<=s.txs.length->∀ κ,dueK (s.tx id) (decide (k=decH s)) k=some κ->hasC (zAq s k).log κ id:=by
 constructor
 ·intro h id i1 i2 κ hκ
  rw [<-due_K s id k 0] at hκ
  obtain ⟨c,hc,rfl⟩:=Option.map_eq_some_iff.1 hκ
  exact h id i1 i2 0 c hc
 ·intro h id i1 i2 time c hc
  refine h id i1 i2 c.kind ?_
  rw [<-due_K s id k time,hc];rfl
theorem zTf{t:TxS}(h:t.state=1)(d:Bool)(k:Nat):dueK t d k=none:=by
 unfold dueK
 rw [h]
 cases d <;> simp
theorem yLh{t:TxS}(h:t.state=4)(k:Nat)(h0:t.ats.getD k 0=0)(d:Bool):dueK t d k=none:=by
 unfold dueK
 rw [h,h0]
 cases d <;> simp
structure Rest(s:zAa):Prop where
 c:zEe s
 told:∀ k,k<s.lines.length->zAs s (zAq s k)=true->Told s k
theorem Told.txs{s s':zAa}{k:Nat}(h:Told s k)(hl:s'.lines=s.lines)(hx:∀ id,1<=id->id<=s'.txs.length->(id<=s.txs.length/\s'.tx id=s.tx id)\/∀ d,dueK (s'.tx id) d k=none):Told s' k:=by
 have e1:zAq s' k=zAq s k:=by unfold zAq zAa.line;rw [hl]
 have e2:decH s'=decH s:=by unfold decH;rw [hl]
 rw [yDz] at h ⊢
 intro id i1 i2 κ hκ
 rw [e1]
 rcases hx id i1 i2 with ⟨q1,q2⟩ | q
 ·rw [e2,q2] at hκ;exact h id i1 q1 κ hκ
 ·rw [q] at hκ;cases hκ
theorem yQe{s s':zAa}(hl:s'.lines=s.lines):zDl s'=zDl s:=by
 unfold zDl zFs zFv zAa.line;rw [hl]
theorem yNz{s s':zAa}(hd:s'.dead=s.dead)(n:zAl):zAs s' n=zAs s n:=by unfold zAs;rw [hd]
theorem yNo{s s':zAa}(hl:s'.lines=s.lines)(k:Nat):zAq s' k=zAq s k:=by unfold zAq zAa.line;rw [hl]
theorem Rest.txs{s s':zAa}(h:Rest s)(hS:Safe s')(hH:Held s')(hl:s'.lines=s.lines)(hd:s'.dead=s.dead)(hn:s'.net=s.net)(hx:∀ id,1<=id->id<=s'.txs.length->(id<=s.txs.length/\s'.tx id=s.tx id)\/∀ d k,dueK (s'.tx id) d k=none):Rest s':=by
 refine ⟨⟨hS,hH,by rw [yQe hl];exact h.c.none,by rw [hn];exact h.c.few⟩,fun k hk hv=>?_⟩
 rw [hl] at hk
 rw [yNz hd,yNo hl] at hv
 exact (h.told k hk hv).txs hl fun id i1 i2=>(hx id i1 i2).imp (fun e=>e) (fun q d=>q d k)
theorem yAv{t:TxS}(h:t.state=4)(h0:∀ k,t.ats.getD k 0=0)(d:Bool)(k:Nat):dueK t d k=none:=yLh h k (h0 k) d
theorem Rest.begin{s:zAa}(h:Rest s)(hl:s.txs.length<60):Rest (zFl s):=by
 have q:=zVu h.c.safe h.c.held hl
 refine h.txs q.safe q.held rfl rfl rfl fun id i1 i2=>?_
 by_cases e:id=s.txs.length+1
 ·right;intro d k;rw [e,yBe];exact zTf rfl d k
 ·left;rw [zHl] at i2;exact ⟨by omega,yFf s i1 (by omega)⟩
theorem Rest.locked{s r:zAa}{id k:Nat}(h:Rest s)(hg:yMd s id k r):Rest r:=by
 refine h.txs hg.safe hg.held hg.same.l hg.same.d hg.same.net fun j j1 j2=>?_
 rw [hg.same.len] at j2
 by_cases e:j=id
 ·right;intro d k;subst e;exact zTf hg.st d k
 ·rcases hg.cut j j1 e with q | ⟨_,q2,q3⟩
  ·exact .inl ⟨j2,q⟩
  ·exact .inr fun d k=>yAv q2 q3 d k
theorem Rest.get{s:zAa}(h:Rest s)(id:Int)(key:ByteArray):Rest (getH s id key).1:=by
 unfold getH
 split
 ·exact h
 rename_i e1
 obtain ⟨i,rfl,h1,h2,ho⟩:=zDk (zBr (by simpa using e1)).1
 have q:=h.locked (zFh h.c.safe h.c.held h1 h2 ho key (zBr (by simpa using e1)).2.1 (mode:=1) (.inl rfl))
 simp only
 split
 ·exact q
 ·exact q
theorem Rest.put{s:zAa}(h:Rest s)(id:Int)(p:zBa):Rest (putH s id p).1:=by
 have hA:=yEi h.c.safe h.c.held id p
 revert hA
 unfold putH
 split
 ·exact fun _=>h
 split
 ·exact fun _=>h
 rename_i e1
 obtain ⟨i,rfl,h1,h2,ho⟩:=zDk (zBr (by simpa using e1)).1
 rw [Int.toNat_natCast]
 split
 ·exact fun _=>h
 have q:=zFh h.c.safe h.c.held h1 h2 ho p.key (zBr (by simpa using e1)).2.1 (mode:=2) (.inr rfl)
 have qR:=h.locked q
 simp only
 split
 ·exact fun _=>qR
 ·intro hA
  generalize (zBy s i p.key 2).1=r at q qR hA
  have hl:i<=r.txs.length:=by rw [q.same.len];exact h2
  refine qR.txs hA.safe hA.held rfl rfl rfl fun j j1 j2=>?_
  rw [zBd] at j2
  rw [zJn r i _ j1 h1 hl]
  split
  ·right
   intro d k
   refine zTf ?_ d k
   unfold zFc
   split
   ·exact q.st
   ·exact q.st
  ·exact .inl ⟨j2,rfl⟩
theorem Rest.drop{s:zAa}(h:Rest s)(id:Int):Rest (zIt s id).1:=by
 have hA:=yAx h.c.safe h.c.held id
 revert hA
 unfold zIt
 split
 ·exact fun _=>h
 ·rename_i e
  obtain ⟨i,rfl,h1,h2,ho⟩:=zDk (by simpa using e)
  rw [Int.toNat_natCast]
  intro hA
  have hc:=Cut.abort h1 h2 ho
  refine h.txs hA.safe hA.held (zGb s i) (zBj.abort s i).d (zBj.abort s i).net fun j j1 j2=>?_
  rw [zMq] at j2
  rcases hc.tx j j1 with q | ⟨_,q2,q3⟩
  ·exact .inl ⟨j2,q⟩
  ·exact .inr fun d k=>yAv q2 q3 d k
theorem Rest.net{s:zAa}(h:Rest s){net:NetS}(hS:Safe { s with net:=net })(hf:net.way.length<=200):Rest { s with net:=net }:=
 ⟨⟨hS,h.c.held.lines rfl rfl,h.c.none,hf⟩,fun k hk hv=>(h.told k hk hv).txs rfl fun id i1 i2=>.inl ⟨i2,rfl⟩⟩
theorem Rest.lose{s:zAa}(h:Rest s)(k:Int):Rest (zIm s k).1:=by
 have hA:=zZr h.c.safe h.c.held k
 revert hA
 unfold zIm
 split
 ·exact fun hA=>h.net hA.safe (Nat.le_trans (List.length_eraseIdx_le _ _) h.c.few)
 ·exact fun _=>h
theorem Rest.twice{s:zAa}(h:Rest s)(k:Int):Rest (zDr s k).1:=by
 have hA:=zUe h.c.safe h.c.held k
 revert hA
 unfold zDr
 split
 ·split
  ·exact fun hA=>h.net hA.safe (zYw h.c.few _)
  ·exact fun _=>h
 ·exact fun _=>h
theorem Rest.fail{s:zAa}(h:Rest s)(id:Int):Rest (zGj s id).1:=by
 have hA:=zTd h.c.safe h.c.held id
 revert hA
 unfold zGj
 split
 ·exact fun _=>h
 ·intro hA
  refine ⟨⟨hA.safe,hA.held,h.c.none,Nat.le_trans (List.length_filter_le _ _) h.c.few⟩,fun k hk hv=>(h.told k hk ?_).txs rfl fun id i1 i2=>.inl ⟨i2,rfl⟩⟩
  unfold zAs at hv ⊢
  simp only [Bool.not_eq_true',decide_eq_false_iff_not] at hv ⊢
  exact fun q=>hv (List.mem_append.2 (.inl q))
def zHp(s:zAa):Prop:=∀ k,k<s.lines.length->zAs s (zAq s k)=true->Told s k
theorem yFs{s:zAa}(h:Safe s)(hH:Held s):zHp (zDy (zHy s)):=by
 obtain ⟨a,_⟩:=zMn h hH
 obtain ⟨b,c,d⟩:=zDh a.safe
 intro k hk hv
 have hk':k<(zHy s).lines.length:=by rw [c.mv.ll] at hk;exact hk
 refine d k hk' ?_
 have hg:=(c.mv.at (k:=k) (j:=0) (List.length_pos_iff.2 (a.safe.line k hk').ne)).1
 have e1:zAo (zHy s) k 0=zAq (zHy s) k:=rfl
 have e2:zAo (zDy (zHy s)) k 0=zAq (zDy (zHy s)) k:=rfl
 rw [e1,e2] at hg
 unfold zAs at hv ⊢
 rw [c.mv.dead,hg.id] at hv;exact hv
theorem zYm{s:zAa}(h:Safe s):zHp (zDy s):=by
 obtain ⟨b,c,d⟩:=zDh h
 intro k hk hv
 have hk':k<s.lines.length:=by rw [c.mv.ll] at hk;exact hk
 refine d k hk' ?_
 have hg:=(c.mv.at (k:=k) (j:=0) (List.length_pos_iff.2 (h.line k hk').ne)).1
 have e1:zAo s k 0=zAq s k:=rfl
 have e2:zAo (zDy s) k 0=zAq (zDy s) k:=rfl
 rw [e1,e2] at hg
 unfold zAs at hv ⊢
 rw [c.mv.dead,hg.id] at hv;exact hv
theorem zYs(n:Nat):∀ {s:zAa},Safe s->Held s->zHp s->zHp (zEl n s):=by
 induction n with
 | zero=>intro s _ _ h;exact h
 | succ n ih=>
  intro s a b h
  unfold zEl
  split
  ·have q:=(zJo a b).1
   exact ih q.safe q.held (yFs a b)
  ·exact h
theorem yCb{s:zAa}(h:Safe s)(hH:Held s)(ht:zHp s):zHp (zCi s):=zYs _ h hH ht
theorem Rest.settled{s:zAa}(h:Safe s)(hH:Held s)(hf:s.net.way.length<=200)(ht:zHp s):Rest (zCi s):=by
 obtain ⟨a,b⟩:=zEk h hH
 exact ⟨⟨a.safe,a.held,b,a.few hf⟩,yCb h hH ht⟩
theorem Rest.end_{s:zAa}(h:Rest s)(id:Int):Rest (endH s id).1:=by
 unfold endH
 split
 ·exact h
 ·rename_i e
  split
  ·exact h
  ·rename_i e2
   obtain ⟨i,rfl,h1,h2,ho⟩:=zDk (by simpa using e)
   rw [Int.toNat_natCast]
   have hS:Safe (setTx s i { s.tx i with state:=2 }):=h.c.safe.write (ws:=(s.tx i).writes) h1 h2 ho (h.c.safe.tx i h1 h2).few (.inr rfl)
   have hHs:Held (setTx s i { s.tx i with state:=2 }):=h.c.held.ending h1 h2 rfl ho (zIc (by simpa using e2))
   obtain ⟨b,c,_⟩:=zDh hS
   exact Rest.settled b (c.toS b hHs).held (c.few h.c.few) (zYm hS)
theorem Told.step{s s':zAa}{k:Nat}(h:Told s k)(hk:k<s.lines.length)(hS:Safe s)(ht:zCh s s'):Told s' k:=by
 have hd:decH s'=decH s:=by unfold decH;rw [ht.mv.ll]
 rw [yDz] at h ⊢
 intro id i1 i2 κ hκ
 rw [ht.mv.tl] at i2
 have e:s'.tx id=s.tx id:=by unfold zAa.tx;rw [ht.txs]
 rw [hd,e] at hκ
 refine zRd (h id i1 i2 κ hκ) fun c hc=>?_
 have hp:=(ht.mv.at (k:=k) (j:=0) (List.length_pos_iff.2 (hS.line k hk).ne)).2
 exact hp.subset hc
theorem zHp.step{s s':zAa}(h:zHp s)(hS:Safe s)(ht:zCh s s'):zHp s':=fun k hk hv=>by
 rw [ht.mv.ll] at hk
 refine (h k hk ?_).step hk hS ht
 have hg:=(ht.mv.at (k:=k) (j:=0) (List.length_pos_iff.2 (hS.line k hk).ne)).1
 have e1:zAo s k 0=zAq s k:=rfl
 have e2:zAo s' k 0=zAq s' k:=rfl
 rw [e1,e2] at hg
 unfold zAs at hv ⊢
 rw [ht.mv.dead,hg.id] at hv;exact hv
theorem Rest.deliver{s:zAa}(h:Rest s)(i:Nat):Rest (zBf s i):=by
 unfold zBf
 cases hm:s.net.way[i]? with
 | none=>exact h
 | some m=>
  simp only
  have ht:Safe (zBi s i):=h.c.safe.way fun m' hm'=>List.mem_of_mem_eraseIdx hm'
  have hT:Rest (zBi s i):=h.net ht (Nat.le_trans (List.length_eraseIdx_le _ _) h.c.few)
  cases hn:zIl s m.to with
  | none=>exact hT
  | some kj=>
   obtain ⟨kk,j⟩:=kj
   obtain ⟨hk,n,q1,q2,q3⟩:=zJp hn
   have hS:=ht.step (k:=kk) (j:=j) (n:=n) hk q1 (h.c.safe.msg m (List.mem_of_getElem? hm))
   have hTl:=zCh.step (s:=zBi s i) hk q1 q2 m
   exact Rest.settled hS (hT.c.held.lines hTl.keys hTl.txs) (hTl.few hT.c.few) (zHp.step hT.told ht hTl)
theorem Rest.tick{s:zAa}(h:Rest s):Rest (zFd s):=⟨h.c.tick.1,zHp.step h.told h.c.safe (zMa h.c.safe).2⟩
theorem Rest.drainF(n:Nat):∀ {s:zAa},Rest s->Rest (drainF n s):=by
 induction n with
 | zero=>intro s h;exact h
 | succ n ih=>
  intro s h
  unfold Go.Proofs.YtmaiggbnceejiaaGreatDoor.drainF
  split
  ·exact h
  ·exact ih (h.deliver 0)
theorem Rest.turn{s:zAa}(h:Rest s):Rest (zQs s):=h.tick.drainF _
theorem Rest.calm1{s:zAa}(h:Rest s):Rest (calm1 s):=h.turn.turn.turn.turn
theorem Rest.calmF(n:Nat):∀ {s:zAa},Rest s->Rest (calmF n s):=by
 induction n with
 | zero=>intro s h;exact h
 | succ n ih=>
  intro s h
  unfold Go.Proofs.YtmaiggbnceejiaaGreatDoor.calmF
  split
  ·exact h.calm1
  ·exact ih h.calm1
theorem Rest.calm{s:zAa}(h:Rest s):Rest (zIa s):=h.calmF _
theorem yLb{s:zAa}(k:Nat)(hf:s.net.way.length<=200):(fixAt s k).net.way.length<=200:=by
 unfold fixAt
 split
 ·exact hf
 ·unfold zEb
  have key:∀ (is:List Nat) (S:zAa),S.net.way.length<=200->(is.foldl (fun h i=>if zOl h k i then zBk h (i+1) else h) S).net.way.length<=200:=by
   intro is
   induction is with
   | nil=>exact fun S h=>h
   | cons i is ih=>
    intro S h
    rw [List.foldl_cons]
    refine ih _ ?_
    split
    ·rw [(zBj.abort S _).net];exact h
    ·exact h
  exact key _ _ (zOb _ hf)
theorem Rest.fix{s:zAa}(h:Rest s):Rest (fixH s):=by
 unfold fixH
 obtain ⟨a,-⟩:=zFu h.c.safe h.c.held s.lines.length (Nat.le_refl _)
 have hf:((List.range s.lines.length).foldl fixAt s).net.way.length<=200:=by
  generalize List.range s.lines.length=ks
  have key:∀ (ks:List Nat) (S:zAa),S.net.way.length<=200->(ks.foldl fixAt S).net.way.length<=200:=by
   intro ks
   induction ks with
   | nil=>exact fun S h=>h
   | cons k ks ih=>intro S h;exact ih _ (yLb k h)
  exact key ks s h.c.few
 obtain ⟨b,c,_⟩:=zDh a.safe
 exact Rest.settled b (c.toS b a.held).held (c.few hf) (zYm a.safe)
theorem Rest.new{shards nodes:Nat}(h1:1<=shards/\shards<=4)(h2:1<=nodes/\nodes<=4):Rest (newH shards nodes):=by
 obtain ⟨a,b,c⟩:=yNq h1 h2
 obtain ⟨d1,d2,d3,d4,d5⟩:=zRz nodes (shards+1)
 have ht:(newH shards nodes).txs=[]:=d2
 refine ⟨⟨a,b,?_,?_⟩,fun k hk _ id i1 i2=>by rw [ht] at i2;simp at i2;omega⟩
 ·refine zNr.2 fun k hk=>?_
  have hL:=a.line k hk
  have hm:=zXm hL.ne (⟨0,0,[],[],0⟩:zAl)
  have hlog:(zFv (newH shards nodes) k).log=[]:=by
   have hl:=zMf nodes (shards+1)
   have hline:(newH shards nodes).line k=(zBs k nodes).1:=by
    show (newF nodes (shards+1)).lines.getD k _=_
    rw [hl,List.getD_eq_getElem?_getD];rw [c] at hk;simp [hk]
   rw [hline] at hm
   unfold zFv
   rw [hline]
   exact (zPr k nodes h2.1 h2.2).2 _ hm
  unfold zFs
  rw [hlog];simp
 ·show (newF nodes (shards+1)).net.way.length<=200
  have key:∀ m,(newF nodes m).net.way.length<=200:=by
   intro m
   induction m with
   | zero=>simp [newF]
   | succ m ih=>exact zOb _ ih
  exact key _
theorem zWl{f:Nat->Nat}{b:Nat}:∀ {n:Nat},(∀ k,k<n->f k<=b)->sumR f n<=n*b
 | 0,_=>by simp [sumR]
 | n+1,h=>by
  have h1:=zWl (n:=n) (fun k hk=>h k (by omega))
  have h2:=h n (by omega)
  have e:sumR f (n+1)=sumR f n+f n:=by simp [sumR]
  rw [e,Nat.succ_mul]
  omega
theorem yNa{s:zAa}(h:Safe s):zHn s<=10000:=by
 have h1:zHn s<=s.lines.length*2000:=by
  unfold zHn
  refine zWl fun k hk=>?_
  have h4:=h.len4 hk
  have:=zWl (f:=fun j=>500 - (zAo s k j).log.length) (b:=500) (n:=(s.line k).nodes.length) (fun j _=>Nat.sub_le _ _)
  exact Nat.le_trans this (by omega)
 have:=h.shape.ll
 omega
theorem yCk{s:zAa}(h:zEe s):potS s<=s.net.lost+1000000000000000:=by
 have h1:=yNa h.safe
 have h2:=yJs h.few
 have h3:muS s<=1204130400:=by
  have e:muS s=zHn s*120401+phiS s:=rfl
  omega
 have e:potS s=s.net.lost+750800*(muS s:Int):=rfl
 omega
theorem yLq(n:Nat):∀ {s:zAa},zEe s->(calmF n s).net.lost<=potS s+36160000000*n/\s.net.lost<=(calmF n s).net.lost:=by
 induction n with
 | zero=>
  intro s h
  refine ⟨?_,Int.le_refl _⟩
  show s.net.lost<=potS s+36160000000*((0:Nat):Int)
  have:potS s=s.net.lost+750800*(muS s:Int):=rfl
  omega
 | succ n ih=>
  intro s h
  unfold calmF
  obtain ⟨a,b,c,d⟩:=zQd h
  split
  ·refine ⟨?_,d⟩
   have:potS (calm1 s)=(calm1 s).net.lost+750800*(muS (calm1 s):Int):=rfl
   omega
  ·obtain ⟨a',b'⟩:=ih a
   exact ⟨by omega,by omega⟩
structure Cost(s s':zAa):Prop where
 lost:s'.net.lost<=s.net.lost+2000000000000000
 dead:s'.dead.length<=s.dead.length+1
 down:s'.net.down.length<=s.net.down.length+1
 ll:s'.lines.length=s.lines.length
theorem Cost.refl(s:zAa):Cost s s:=⟨by omega,by omega,by omega,rfl⟩
theorem Cost.of{s s':zAa}(hn:s'.net=s.net)(hd:s'.dead=s.dead)(hl:s'.lines.length=s.lines.length):Cost s s':=by
 have e1:s'.net.lost=s.net.lost:=congrArg NetS.lost hn
 have e2:=congrArg List.length hd
 have e3:s'.net.down.length=s.net.down.length:=congrArg (fun x=>x.down.length) hn
 exact ⟨by omega,by omega,by omega,hl⟩
theorem Cost.sett{s s':zAa}(h:zBu s s')(hl:s'.net.lost<=s.net.lost+2000000000000000):Cost s s':=by
 have e2:=congrArg List.length h.mv.dead
 have e3:=congrArg List.length h.down
 exact ⟨hl,by omega,by omega,h.mv.ll⟩
theorem yPc{s:zAa}(h:zEe s):(zIa s).net.lost<=potS s+361636160000000:=by
 unfold zIa
 obtain ⟨n,hn⟩:∃ n:Nat,n=10001:=⟨_,rfl⟩
 rw [<-hn]
 have h1:=(yLq n h).1
 omega
theorem Cost.calm{s:zAa}(h:zEe s):Cost s (zIa s):=by
 have h1:=yPc h
 have h2:=yCk h
 have h3:=(yBd h).2
 generalize zIa s=r at h1 h3 ⊢
 exact Cost.sett h3 (by omega)
theorem Cost.tick{s:zAa}(h:zEe s):Cost s (zFd s):=by
 have h1:=(zUj h.safe).2.1
 exact Cost.sett h.tick.2.1 (by omega)
theorem Cost.begin(s:zAa):Cost s (zFl s):=Cost.of rfl rfl rfl
theorem Cost.same{s s':zAa}(h:zBj s s'):Cost s s':=Cost.of h.net h.d (by rw [h.l])
theorem Cost.drop(s:zAa)(id:Int):Cost s (zIt s id).1:=by
 unfold zIt
 split
 ·exact Cost.refl s
 ·exact Cost.same (zBj.abort s _)
theorem Cost.lose(s:zAa)(k:Int):Cost s (zIm s k).1:=by
 unfold zIm
 split
 ·exact ⟨by show s.net.lost+1<=_;omega,by show s.dead.length<=_;omega,by show s.net.down.length<=_;omega,rfl⟩
 ·exact Cost.refl s
theorem Cost.twice(s:zAa)(k:Int):Cost s (zDr s k).1:=by
 unfold zDr
 split
 ·split
  ·rename_i m _ _ _
   refine ⟨?_,by show s.dead.length<=_;omega,?_,rfl⟩
   ·show (zFe s.net m).lost<=_
    unfold zFe
    split
    ·show s.net.lost+1<=_;omega
    ·show s.net.lost<=_;omega
   ·show (zFe s.net m).down.length<=_
    have e:=congrArg List.length (zUr s.net m)
    omega
  ·exact Cost.refl s
 ·exact Cost.refl s
theorem Cost.fail{s:zAa}(h:s.net.way.length<=200)(id:Int):Cost s (zGj s id).1:=by
 unfold zGj
 split
 ·exact Cost.refl s
 ·refine ⟨?_,by show (s.dead++[id]).length<=_;simp,by show (s.net.down++[id]).length<=_;simp,rfl⟩
  show s.net.lost+((s.net.way.length:Int) - _)<=_
  omega
theorem Cost.deliver{s:zAa}(h:zEe s)(i:Nat):Cost s (zBf s i):=Cost.sett (zJb h.safe h.held i) (by have:=(zLt h.safe h.held i).2;omega)
theorem Cost.get{s:zAa}(h:zEe s)(id:Int)(key:ByteArray):Cost s (getH s id key).1:=by
 unfold getH
 split
 ·exact Cost.refl s
 rename_i e1
 obtain ⟨i,rfl,h1,h2,ho⟩:=zDk (zBr (by simpa using e1)).1
 have q:=Cost.same (zFh h.safe h.held h1 h2 ho key (zBr (by simpa using e1)).2.1 (mode:=1) (.inl rfl)).same
 simp only
 split
 ·exact q
 ·exact q
theorem Cost.put{s:zAa}(h:zEe s)(id:Int)(p:zBa):Cost s (putH s id p).1:=by
 unfold putH
 split
 ·exact Cost.refl s
 split
 ·exact Cost.refl s
 rename_i e1
 obtain ⟨i,rfl,h1,h2,ho⟩:=zDk (zBr (by simpa using e1)).1
 rw [Int.toNat_natCast]
 split
 ·exact Cost.refl s
 have q:=Cost.same (zFh h.safe h.held h1 h2 ho p.key (zBr (by simpa using e1)).2.1 (mode:=2) (.inr rfl)).same
 simp only
 split
 ·exact q
 ·exact ⟨q.lost,q.dead,q.down,q.ll⟩
theorem Cost.settled{s S:zAa}(hS:Safe S)(hH:Held S)(hn:S.net.lost<=s.net.lost+1000)(hd:S.dead=s.dead)(hw:S.net.down=s.net.down)(hl:S.lines.length=s.lines.length):Cost s (zCi (zDy S)):=by
 obtain ⟨b,c,_⟩:=zDh hS
 have q:=c.toS b hH
 have h1:=(zRm hS).2
 have h2:=(zRq b q.held).2
 have g:=q.trans (zEk b q.held).1
 have e2:=congrArg List.length g.mv.dead
 have e3:=congrArg List.length g.down
 have e4:=congrArg List.length hd
 have e5:=congrArg List.length hw
 generalize zCi (zDy S)=r at h2 g e2 e3 ⊢
 exact ⟨by omega,by omega,by omega,g.mv.ll.trans hl⟩
theorem Cost.end_{s:zAa}(h:zEe s)(id:Int):Cost s (endH s id).1:=by
 unfold endH
 split
 ·exact Cost.refl s
 ·rename_i e
  split
  ·exact Cost.refl s
  ·rename_i e2
   obtain ⟨i,rfl,h1,h2,ho⟩:=zDk (by simpa using e)
   rw [Int.toNat_natCast]
   have hS:Safe (setTx s i { s.tx i with state:=2 }):=h.safe.write (ws:=(s.tx i).writes) h1 h2 ho (h.safe.tx i h1 h2).few (.inr rfl)
   have hHs:Held (setTx s i { s.tx i with state:=2 }):=h.held.ending h1 h2 rfl ho (zIc (by simpa using e2))
   exact Cost.settled hS hHs (by show s.net.lost<=_;omega) rfl rfl rfl
theorem yOq{α β:Type}(f:α->List β)(l:List α)(h:∀ a,(f a).length<=1):(l.flatMap f).length<=l.length:=by
 induction l with
 | nil=>simp
 | cons a l ih=>have:=h a;simp only [List.flatMap_cons,List.length_append,List.length_cons];omega
theorem yHf{s:zAa}(h:Safe s)(hH:Held s){k:Nat}(hk:k<s.lines.length):(fixAt s k).net.lost<=s.net.lost+4:=by
 unfold fixAt
 split
 ·omega
 ·rename_i e
  obtain ⟨e1,e2⟩:=zMh e
  have hF:Safe (lineF s k):=h.lineF hk e1 e2
  obtain ⟨_,b⟩:=zLq hF (hH.lines rfl rfl) (k:=k) (by rw [zEn];exact hk)
  show (zEb (lineF s k) k).net.lost<=_
  rw [b.net]
  have h1:=(zEt (zCc ⟨zAj s k,(s.line k).heard⟩).2 s.net).2
  have h2:(zCc ⟨zAj s k,(s.line k).heard⟩).2.length<=(zAj s k).length:=yOq _ _ (fun n=>zNw _)
  have h3:=h.len4 hk
  have h4:(zAj s k).length<=(s.line k).nodes.length:=List.length_filter_le _ _
  show (zEz s.net _).lost<=_
  omega
theorem yDg{s:zAa}(h:Safe s)(hH:Held s):∀ m,m<=s.lines.length->((List.range m).foldl fixAt s).net.lost<=s.net.lost+4*m:=by
 intro m
 induction m with
 | zero=>exact fun _=>by simp
 | succ m ih=>
  intro hm
  have b:=ih (by omega)
  obtain ⟨a,-⟩:=zFu h hH m (by omega)
  rw [List.range_succ,List.foldl_append]
  have c:=yHf a.safe a.held (k:=m) (by rw [a.ll];omega)
  show (fixAt _ m).net.lost<=_
  omega
theorem Cost.fix{s:zAa}(h:zEe s):Cost s (fixH s):=by
 unfold fixH
 obtain ⟨a,b,c,-⟩:=zFu h.safe h.held s.lines.length (Nat.le_refl _)
 have d:=yDg h.safe h.held s.lines.length (Nat.le_refl _)
 have e:=h.safe.shape.ll
 exact Cost.settled a.safe a.held (by omega) b c a.ll
def Kd(s s':zAa):Prop:=s'.lines.length=s.lines.length/\s'.dead=s.dead/\∀ k,k<s.lines.length->∀ n'∈(s'.line k).nodes,zAs s' n'=true\/∃ n∈(s.line k).nodes,zAs s n=false/\n.log=n'.log
theorem Kd.refl(s:zAa):Kd s s:=⟨rfl,rfl,fun k _ n hn=>by
 cases e:zAs s n with
 | true=>exact .inl rfl
 | false=>exact .inr ⟨n,hn,e,rfl⟩⟩
theorem Kd.trans{a b c:zAa}(h:Kd a b)(k:Kd b c):Kd a c:=⟨k.1.trans h.1,k.2.1.trans h.2.1,fun i hi n hn=>by
 rcases k.2.2 i (by rw [h.1];exact hi) n hn with q | ⟨m,hm,e1,e2⟩
 ·exact .inl q
 ·rcases h.2.2 i hi m hm with q | ⟨x,hx,e3,e4⟩
  ·rw [e1] at q;cases q
  ·exact .inr ⟨x,hx,e3,e4.trans e2⟩⟩
theorem Kd.same{s s':zAa}(hl:s'.lines=s.lines)(hd:s'.dead=s.dead):Kd s s':=⟨by rw [hl],hd,fun k hk n hn=>by
 have e:s'.line k=s.line k:=by unfold zAa.line;rw [hl]
 rw [e] at hn
 cases q:zAs s n with
 | true=>left;unfold zAs at q ⊢;rw [hd];exact q
 | false=>exact .inr ⟨n,hn,q,rfl⟩⟩
theorem Kd.moves{s s':zAa}(h:zGl s s'):Kd s s':=⟨h.ll,h.dead,fun k hk n' hn'=>by
 obtain ⟨j,hj⟩:=List.getElem?_of_mem hn'
 have hjl:j<(s.line k).nodes.length:=by rw [<-h.len k];exact (List.getElem?_eq_some_iff.1 hj).1
 obtain ⟨m,e1,e2,e3,e4⟩:=h.node k j _ (List.getElem?_eq_getElem hjl)
 rw [e1] at hj
 cases hj
 cases q:zAs s ((s.line k).nodes[j]) with
 | true=>left;unfold zAs at q ⊢;rw [h.dead,e2.id];exact q
 | false=>exact .inr ⟨_,List.getElem_mem hjl,q,(e4 q).symm⟩⟩
theorem Kd.fixAt{s:zAa}(h:Safe s)(hH:Held s){k:Nat}(hk:k<s.lines.length):Kd s (fixAt s k):=by
 obtain ⟨a,b,c,d,e,f,-⟩:=zQa h hH hk
 refine ⟨a.ll,b,fun i hi n hn=>?_⟩
 by_cases q:i=k
 ·subst q
  rcases f with ⟨f,_⟩ | f
  ·rw [f] at hn
   cases r:zAs s n with
   | true=>left;unfold zAs at r ⊢;rw [b];exact r
   | false=>exact .inr ⟨n,hn,r,rfl⟩
  ·left
   have:=f n hn
   unfold zAs at this ⊢;rw [b];exact this
 ·rw [e i q] at hn
  cases r:zAs s n with
  | true=>left;unfold zAs at r ⊢;rw [b];exact r
  | false=>exact .inr ⟨n,hn,r,rfl⟩
theorem Kd.fixAll{s:zAa}(h:Safe s)(hH:Held s):∀ m,m<=s.lines.length->Kd s ((List.range m).foldl Go.Proofs.YtmaiggbnceejiaaGreatDoor.fixAt s):=by
 intro m
 induction m with
 | zero=>exact fun _=>Kd.refl s
 | succ m ih=>
  intro hm
  obtain ⟨a,-⟩:=zFu h hH m (by omega)
  rw [List.range_succ,List.foldl_append]
  exact (ih (by omega)).trans (Kd.fixAt a.safe a.held (by rw [a.ll];omega))
theorem Kd.told{s:zAa}(h:Safe s)(hH:Held s):Kd s (zCi (zDy s)):=by
 obtain ⟨b,c,_⟩:=zDh h
 have q:=c.toS b hH
 exact Kd.moves (q.trans (zEk b q.held).1).mv
theorem Kd.fix{s:zAa}(h:Safe s)(hH:Held s):Kd s (fixH s):=by
 obtain ⟨a,-⟩:=zFu h hH s.lines.length (Nat.le_refl _)
 exact (Kd.fixAll h hH _ (Nat.le_refl _)).trans (Kd.told a.safe a.held)
theorem Kd.end_{s:zAa}(h:Safe s)(hH:Held s)(id:Int):Kd s (endH s id).1:=by
 unfold endH
 split
 ·exact Kd.refl s
 ·rename_i e
  split
  ·exact Kd.refl s
  ·rename_i e2
   obtain ⟨i,rfl,h1,h2,ho⟩:=zDk (by simpa using e)
   rw [Int.toNat_natCast]
   have hS:Safe (setTx s i { s.tx i with state:=2 }):=h.write (ws:=(s.tx i).writes) h1 h2 ho (h.tx i h1 h2).few (.inr rfl)
   have hHs:Held (setTx s i { s.tx i with state:=2 }):=hH.ending h1 h2 rfl ho (zIc (by simpa using e2))
   exact (Kd.same (s':=setTx s i { s.tx i with state:=2 }) rfl rfl).trans (Kd.told hS hHs)
theorem Kd.get{s:zAa}(h:Safe s)(hH:Held s)(id:Int)(key:ByteArray):Kd s (getH s id key).1:=by
 unfold getH
 split
 ·exact Kd.refl s
 rename_i e1
 obtain ⟨i,rfl,h1,h2,ho⟩:=zDk (zBr (by simpa using e1)).1
 have q:=(zFh h hH h1 h2 ho key (zBr (by simpa using e1)).2.1 (mode:=1) (.inl rfl)).same
 simp only
 split
 ·exact Kd.same q.l q.d
 ·exact Kd.same q.l q.d
theorem Kd.put{s:zAa}(h:Safe s)(hH:Held s)(id:Int)(p:zBa):Kd s (putH s id p).1:=by
 unfold putH
 split
 ·exact Kd.refl s
 split
 ·exact Kd.refl s
 rename_i e1
 obtain ⟨i,rfl,h1,h2,ho⟩:=zDk (zBr (by simpa using e1)).1
 rw [Int.toNat_natCast]
 split
 ·exact Kd.refl s
 have q:=(zFh h hH h1 h2 ho p.key (zBr (by simpa using e1)).2.1 (mode:=2) (.inr rfl)).same
 simp only
 split
 ·exact Kd.same q.l q.d
 ·exact Kd.same q.l q.d
theorem Kd.drop(s:zAa)(id:Int):Kd s (zIt s id).1:=by
 unfold zIt
 split
 ·exact Kd.refl s
 ·exact Kd.same (zBj.abort s _).l (zBj.abort s _).d
theorem Kd.lose(s:zAa)(k:Int):Kd s (zIm s k).1:=by
 unfold zIm
 split
 ·exact Kd.same rfl rfl
 ·exact Kd.refl s
theorem Kd.twice(s:zAa)(k:Int):Kd s (zDr s k).1:=by
 unfold zDr
 split
 ·split
  ·exact Kd.same rfl rfl
  ·exact Kd.refl s
 ·exact Kd.refl s
theorem zVq(s:zAa)(id:Int):(zGj s id).1.lines=s.lines:=by
 unfold zGj
 split
 ·rfl
 ·rfl
def DecI(D:Int->Prop)(s:zAa):Prop:=∀ n∈(s.line (decH s)).nodes,∀ c∈n.log,D c.tx
theorem DecI.step{D D':Int->Prop}{s s':zAa}(h:DecI D s)(hS:Safe s)(hk:Kd s s')(hD:∀ t,D t->D' t)(hl:∀ n∈zAj s' (decH s'),∀ c∈n.log,D' c.tx):DecI D' s':=fun n hn c hc=>by
 have e:decH s'=decH s:=by unfold decH;rw [hk.1]
 have hdl:decH s<s.lines.length:=by have:=hS.ll;unfold decH;omega
 rw [e] at hn
 rcases hk.2.2 _ hdl n hn with q | ⟨m,hm,_,e2⟩
 ·exact hl n (by rw [e];exact List.mem_filter.2 ⟨hn,q⟩) c hc
 ·exact hD _ (h m hm c (by rw [e2];exact hc))
theorem DecI.fail{D D':Int->Prop}{s:zAa}(h:DecI D s)(id:Int)(hD:∀ t,D t->D' t):DecI D' (zGj s id).1:=fun n hn c hc=>by
 have e:decH (zGj s id).1=decH s:=by unfold decH;rw [zVq]
 have e2:(zGj s id).1.line (decH s)=s.line (decH s):=by unfold zAa.line;rw [zVq]
 rw [e,e2] at hn
 exact hD _ (h n hn c hc)
theorem Safe.committed{D:Int->Prop}{s:zAa}(h:Safe s)(hD:DecI D s){id:Nat}(h1:1<=id)(h2:id<=s.txs.length)(h3:(s.tx id).state=3):D id:=by
 obtain ⟨_,_,c,hc,e1,e2⟩:=(h.tx id h1 h2).com h3
 have hdl:decH s<s.lines.length:=by have:=h.ll;unfold decH;omega
 rw [<-e2]
 exact hD _ (List.mem_of_getElem? (zLj (h.line _ hdl).ne)) c (List.mem_of_mem_take hc)
def OutI(O:Int->Int)(s:zAa):Prop:=∀ t,(O t=3->1<=t/\t<=(s.txs.length:Int)/\(s.tx t.toNat).state=3)/\(O t=4->1<=t/\t<=(s.txs.length:Int)/\(s.tx t.toNat).state=4)
theorem OutI.step{O:Int->Int}{s s':zAa}(h:OutI O s)(hf:zFm s s'):OutI O s':=fun t=>by
 have hl:=hf.len
 refine ⟨fun e=>?_,fun e=>?_⟩
 ·obtain ⟨a,b,c⟩:=(h t).1 e
  exact ⟨a,by omega,by rw [hf.fin t.toNat (by omega) (by omega) (by omega)];exact c⟩
 ·obtain ⟨a,b,c⟩:=(h t).2 e
  exact ⟨a,by omega,by rw [hf.fin t.toNat (by omega) (by omega) (by omega)];exact c⟩
theorem Safe.logOf{s:zAa}(h:Safe s){k:Nat}(hk:k<s.lines.length){n:zAl}(hn:n∈(s.line k).nodes):zKs s k n.log:=by
 obtain ⟨j,hj⟩:=List.getElem?_of_mem hn
 refine (h.log k hk).pre ?_
 have h0:=zLj (h.line k hk).ne
 cases j with
 | zero=>rw [h0] at hj;cases hj;exact List.prefix_refl _
 | succ j=>exact (zHq.1 (h.line k hk).ord 0 (j+1) _ n (by omega) h0 hj).2
structure Scan where
 D:Int->Bool
 O:Int->Int
def setB(f:Int->Bool)(t:Int):Int->Bool:=fun x=>if x=t then true else f x
def setI(f:Int->Int)(t v:Int):Int->Int:=fun x=>if x=t then v else f x
def zWu(dec:Bool)(sc:Scan)(P:Int->Bool)(c:CmdD):Option (Scan × (Int->Bool)):=
 if c.kind=2 then (if dec then none else some (sc,setB P c.tx))
 else if c.kind=3 then (if dec then some (⟨setB sc.D c.tx,sc.O⟩,P) else if P c.tx=false\/sc.D c.tx=false\/sc.O c.tx=4\/c.time<1 then none else some (⟨sc.D,setI sc.O c.tx 3⟩,P))
 else if c.kind=4 then (if dec=true\/sc.O c.tx=3 then none else some (⟨sc.D,setI sc.O c.tx 4⟩,P))
 else none
def zOc(dec:Bool):List CmdD->Scan->(Int->Bool)->Option Scan
 | [],sc,_=>some sc
 | c :: cs,sc,P=>match zWu dec sc P c with
  | none=>none
  | some r=>zOc dec cs r.1 r.2
def zCy(dec:Bool):List (List CmdD)->Scan->Option Scan
 | [],sc=>some sc
 | l :: ls,sc=>match zOc dec l sc (fun _=>false) with
  | none=>none
  | some r=>zCy dec ls r
theorem zYu{P:Int->Bool}{t x:Int}(h:P x=true):setB P t x=true:=by unfold setB;split <;> simp_all
theorem zYt(P:Int->Bool)(t:Int):setB P t t=true:=by unfold setB;rw [if_pos rfl]
theorem OutI.set{O:Int->Int}{s:zAa}(h:OutI O s){t v:Int}(h1:1<=t)(h2:t<=(s.txs.length:Int))(hv:(v=3/\(s.tx t.toNat).state=3)\/(v=4/\(s.tx t.toNat).state=4)):OutI (setI O t v) s:=fun x=>by
 unfold setI
 by_cases e:x=t
 ·subst e
  rw [if_pos rfl]
  rcases hv with ⟨rfl,q⟩ | ⟨rfl,q⟩
  ·exact ⟨fun _=>⟨h1,h2,q⟩,fun q=>by omega⟩
  ·exact ⟨fun q=>by omega,fun _=>⟨h1,h2,q⟩⟩
 ·rw [if_neg e];exact h x
theorem yGe{s:zAa}(hS:Safe s){k:Nat}(hk:k≠decH s){log:List CmdD}(hL:zKs s k log){D:Int->Bool}(hD:DecI (fun t=>D t=true) s) :
  ∀ (m:Nat) (O:Int->Int) (P:Int->Bool),m<=log.length->OutI O s->(∀ c∈log.take (log.length - m),c.kind=2->P c.tx=true)->∃ O',zOc false (log.drop (log.length - m)) ⟨D,O⟩ P=some ⟨D,O'⟩/\OutI O' s:=by
 intro m
 induction m with
 | zero=>intro O P _ hO _;exact ⟨O,by rw [Nat.sub_zero,List.drop_length];rfl,hO⟩
 | succ m ih=>
  intro O P hm hO hP
  have hi:log.length - (m+1)<log.length:=by omega
  rw [List.drop_eq_getElem_cons hi]
  obtain ⟨c,hc⟩:∃ z,z=log[log.length - (m+1)]:=⟨_,rfl⟩
  have hmem:c∈log:=by rw [hc];exact List.getElem_mem hi
  have hsub:log.length - (m+1)+1=log.length - m:=by omega
  rw [hsub,<-hc]
  have hok:=hL.all c hmem
  have htk:∀ P':Int->Bool,(∀ t,P t=true->P' t=true)->(c.kind=2->P' c.tx=true)->∀ x∈log.take (log.length - m),x.kind=2->P' x.tx=true:=fun P' h1 h2 x hx hx2=>by
   rw [<-hsub,List.take_succ_eq_append_getElem hi,<-hc] at hx
   rcases List.mem_append.1 hx with q | q
   ·exact h1 _ (hP x q hx2)
   ·rw [List.mem_singleton] at q;subst q;exact h2 hx2
  unfold zOc zWu
  have hd0:(false=true)=False:=by simp
  rcases hok.shard hk with ⟨e,_⟩ | ⟨e,e2,e3⟩ | ⟨e,e2⟩
  ·rw [if_pos e,if_neg (by simp)]
   exact ih O (setB P c.tx) (by omega) hO (htk (setB P c.tx) (fun t ht=>zYu ht) (fun _=>zYt _ _))
  ·rw [if_neg (by omega),if_pos e,if_neg (by simp)]
   have hid:1<=c.tx.toNat/\c.tx.toNat<=s.txs.length:=by have:=hok.lo;have:=hok.hi;omega
   have hDt:D c.tx=true:=by
    have:=hS.committed hD hid.1 hid.2 e2
    rw [show ((c.tx.toNat:Nat):Int)=c.tx by have:=hok.lo;omega] at this
    exact this
   have hPt:P c.tx=true:=by
    obtain ⟨j,p,hj,hp,p1,p2⟩:=hL.prep hk (log.length - (m+1)) c (by rw [hc];exact List.getElem?_eq_getElem hi) e
    rw [<-p2]
    refine hP p ?_ p1
    exact List.mem_of_getElem? (by rw [List.getElem?_take_of_lt hj];exact hp)
   have hO4:O c.tx≠4:=fun q=>by have:=((hO c.tx).2 q).2.2;omega
   have hno:¬ (P c.tx=false\/D c.tx=false\/O c.tx=4\/c.time<1):=by
    rw [hDt,hPt]
    rintro (q | q | q | q)
    ·cases q
    ·cases q
    ·exact hO4 q
    ·omega
   rw [if_neg hno]
   exact ih _ P (by omega) (hO.set hok.lo hok.hi (.inl ⟨rfl,e2⟩)) (htk P (fun _ h=>h) (fun q=>by omega))
  ·rw [if_neg (by omega),if_neg (by omega),if_pos e]
   have hO3:O c.tx≠3:=fun q=>by have:=((hO c.tx).1 q).2.2;omega
   rw [if_neg (by simp;exact hO3)]
   exact ih _ P (by omega) (hO.set hok.lo hok.hi (.inr ⟨rfl,e2⟩)) (htk P (fun _ h=>h) (fun q=>by omega))
theorem yMy{s:zAa}{log:List CmdD}(hL:zKs s (decH s) log):∀ (l:List CmdD) (D:Int->Bool) (O:Int->Int) (P:Int->Bool),(∀ c∈l,c∈log)->∃ D',zOc true l ⟨D,O⟩ P=some ⟨D',O⟩/\(∀ t,D t=true->D' t=true)/\∀ c∈l,D' c.tx=true:=by
 intro l
 induction l with
 | nil=>intro D O P _;exact ⟨D,rfl,fun _ h=>h,fun c hc=>by simp at hc⟩
 | cons c l ih=>
  intro D O P hl
  have hok:=(hL.all c (hl c (by simp))).dec rfl
  obtain ⟨D',e1,e2,e3⟩:=ih (setB D c.tx) O P (fun x hx=>hl x (by simp [hx]))
  refine ⟨D',?_,fun t ht=>e2 t (zYu ht),fun x hx=>?_⟩
  ·unfold zOc zWu
   rw [if_neg (by omega),if_pos hok.1,if_pos rfl]
   exact e1
  ·rcases List.mem_cons.1 hx with q | q
   ·subst q;exact e2 _ (zYt _ _)
   ·exact e3 x q
theorem zQl{s:zAa}(hS:Safe s){k:Nat}(hk:k≠decH s){D:Int->Bool}(hD:DecI (fun t=>D t=true) s):∀ (ls:List (List CmdD)) (O:Int->Int),(∀ l∈ls,zKs s k l)->OutI O s->∃ O',zCy false ls ⟨D,O⟩=some ⟨D,O'⟩/\OutI O' s:=by
 intro ls
 induction ls with
 | nil=>intro O _ h;exact ⟨O,rfl,h⟩
 | cons l ls ih=>
  intro O hl hO
  obtain ⟨O1,e1,e2⟩:=yGe hS hk (hl l (by simp)) hD l.length O (fun _=>false) (Nat.le_refl _) hO (fun c hc=>by simp at hc)
  rw [Nat.sub_self,List.drop_zero] at e1
  obtain ⟨O2,e3,e4⟩:=ih O1 (fun x hx=>hl x (by simp [hx])) e2
  refine ⟨O2,?_,e4⟩
  unfold zCy
  rw [e1]
  exact e3
theorem yGf{s:zAa}:∀ (ls:List (List CmdD)) (D:Int->Bool) (O:Int->Int),(∀ l∈ls,zKs s (decH s) l)->∃ D',zCy true ls ⟨D,O⟩=some ⟨D',O⟩/\(∀ t,D t=true->D' t=true)/\∀ l∈ls,∀ c∈l,D' c.tx=true:=by
 intro ls
 induction ls with
 | nil=>intro D O _;exact ⟨D,rfl,fun _ h=>h,fun l hl=>by simp at hl⟩
 | cons l ls ih=>
  intro D O hl
  obtain ⟨D1,e1,e2,e3⟩:=yMy (hl l (by simp)) l D O (fun _=>false) (fun _ h=>h)
  obtain ⟨D2,e4,e5,e6⟩:=ih D1 O (fun x hx=>hl x (by simp [hx]))
  refine ⟨D2,?_,fun t ht=>e5 t (e2 t ht),fun x hx c hc=>?_⟩
  ·unfold zCy
   rw [e1]
   exact e4
  ·rcases List.mem_cons.1 hx with q | q
   ·subst q;exact e5 _ (e3 c hc)
   ·exact e6 x q c hc
def zZs(s:zAa)(k:Nat):List (List CmdD):=(zAj s k).map (·.log)
def zQt(s:zAa)(sc:Scan):Option Scan:=match zCy true (zZs s 2) sc with
 | none=>none
 | some a=>match zCy false (zZs s 1) a with
  | none=>none
  | some b=>zCy false (zZs s 0) b
structure zIv(s:zAa)(sc:Scan):Prop where
 dec:DecI (fun t=>sc.D t=true) s
 out:OutI sc.O s
theorem zXk{s:zAa}(hS:Safe s){k:Nat}(hk:k<s.lines.length):∀ l∈zZs s k,zKs s k l:=fun l hl=>by
 obtain ⟨n,hn,rfl⟩:=List.mem_map.1 hl
 exact hS.logOf hk (List.mem_filter.1 hn).1
theorem yKa{s:zAa}(hS:Safe s){k:Nat}(hk:k<s.lines.length):(zZs s k).Pairwise fun a b=>b <+: a:=by
 unfold zZs
 rw [List.pairwise_map]
 exact ((hS.line k hk).ord.sublist List.filter_sublist).imp fun q=>q.2
theorem yEf{s s':zAa}{sc:Scan}(h:zIv s sc)(hS:Safe s)(hS':Safe s')(h3:s.lines.length=3)(hl:s'.lines.length=3)(hf:zFm s s')(hd:∀ D':Int->Bool,(∀ t,sc.D t=true->D' t=true)->(∀ n∈zAj s' (decH s'),∀ c∈n.log,D' c.tx=true)->DecI (fun t=>D' t=true) s'):∃ sc',zQt s' sc=some sc'/\zIv s' sc':=by
 have e2:decH s'=2:=by unfold decH;omega
 obtain ⟨D,O⟩:=sc
 have ok2:=zXk hS' (k:=2) (by omega)
 rw [<-e2] at ok2
 obtain ⟨D',a1,a2,a3⟩:=yGf _ D O ok2
 rw [e2] at a1 a3
 have hD:=hd D' a2 (fun n hn c hc=>a3 _ (List.mem_map.2 ⟨n,by rw [<-e2];exact hn,rfl⟩) c hc)
 obtain ⟨O1,b1,b2⟩:=zQl hS' (k:=1) (by omega) hD _ O (zXk hS' (by omega)) (h.out.step hf)
 obtain ⟨O2,c1,c2⟩:=zQl hS' (k:=0) (by omega) hD _ O1 (zXk hS' (by omega)) b2
 refine ⟨⟨D',O2⟩,?_,⟨hD,c2⟩⟩
 unfold zQt
 rw [a1]
 simp only
 rw [b1]
 simp only
 exact c1
theorem zIv.kd{s s':zAa}{sc:Scan}(h:zIv s sc)(hS:Safe s)(h3:s.lines.length=3)(hA:ActG s s')(hk:Kd s s'):∃ sc',zQt s' sc=some sc'/\zIv s' sc':=
 yEf h hS hA.safe h3 (by rw [hA.ll];exact h3) hA.fin (fun D' h1 h2=>h.dec.step hS hk h1 h2)
theorem zIv.fail{s:zAa}{sc:Scan}(h:zIv s sc)(hS:Safe s)(hH:Held s)(h3:s.lines.length=3)(id:Int):∃ sc',zQt (zGj s id).1 sc=some sc'/\zIv (zGj s id).1 sc':=by
 have hA:=zTd hS hH id
 exact yEf h hS hA.safe h3 (by rw [hA.ll];exact h3) hA.fin (fun D' h1 h2=>h.dec.fail id h1)
end Go.Proofs.YtmaiggbnceejiaaGreatDoor
