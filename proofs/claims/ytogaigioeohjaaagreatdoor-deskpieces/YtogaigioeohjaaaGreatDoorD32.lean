import Derived.Test.YtogaigioeohjaaaGreatDoorD31
set_option linter.unusedVariables false
set_option maxRecDepth 100000
set_option maxHeartbeats 16000000
namespace Go.Proofs.YtogaigioeohjaaaGreatDoor
theorem zZh(f:Nat->Nat):∀ n,sumR f (n+1)=f 0+sumR (fun j=>f (j+1)) n
 | 0=>by simp [sumR]
 | n+1=>by
  have:=zZh f n
  show sumR f (n+1)+f (n+1)=f 0+(sumR (fun j=>f (j+1)) n+f (n+1))
  omega
theorem zZu(f:Nat->Nat):∀ n,((List.range n).map f).sum=sumR f n
 | 0=>rfl
 | n+1=>by rw [List.range_succ,List.map_append,List.sum_append,zZu f n];simp [sumR]
theorem zWc(p:zAl->Bool)(f:zAl->Nat)(d:zAl):∀ l:List zAl,((l.filter p).map f).sum=sumR (fun j=>if p (l.getD j d) then f (l.getD j d) else 0) l.length
 | []=>rfl
 | a :: l=>by
  rw [List.length_cons,zZh]
  have ih:=zWc p f d l
  simp only [List.getD_cons_zero,List.getD_cons_succ]
  rw [<-ih,List.filter_cons]
  split
  ·simp
  ·simp
def yQl(s:zAa):Nat:=sumR (fun k=>sumR (fun j=>if zAu s (zAo s k j) then (zAo s k j).log.length else 0) (s.line k).nodes.length) s.lines.length
theorem zYc(s:zAa):zGi s=yQl s:=by
 unfold zGi yQl
 rw [zZu]
 refine yKr fun k hk=>?_
 unfold zAk zAo
 exact zWc _ _ _ _
theorem zGx.lives{s s':zAa}(h:zGx s s'){k j:Nat}(hj:j<(s.line k).nodes.length):zAu s' (zAo s' k j)=zAu s (zAo s k j):=by
 unfold zAu
 rw [h.dead,(h.at hj).1.id]
theorem zGx.known{s s':zAa}(h:zGx s s'):zGi s<=zGi s':=by
 rw [zYc,zYc]
 unfold yQl
 rw [h.ll]
 refine zKx fun k hk=>?_
 rw [h.len]
 refine zKx fun j hj=>?_
 simp only [h.lives hj]
 split
 ·exact (h.at hj).2.length_le
 ·exact Nat.le_refl _
theorem Safe.len4{s:zAa}(h:Safe s){k:Nat}(hk:k<s.lines.length):(s.line k).nodes.length<=4:=yMw _ _ ((h.line k hk).ord.imp fun q=>q.1) (h.line k hk).rng
theorem yQk{s:zAa}(h:Safe s):zGi s<=10000:=by
 rw [zYc]
 unfold yQl
 have:sumR (fun k=>sumR (fun j=>if zAu s (zAo s k j) then (zAo s k j).log.length else 0) (s.line k).nodes.length) s.lines.length<=2000*s.lines.length:=by
  refine zLy fun k hk=>?_
  have h4:=h.len4 hk
  have:sumR (fun j=>if zAu s (zAo s k j) then (zAo s k j).log.length else 0) (s.line k).nodes.length<=500*(s.line k).nodes.length:=by
   refine zLy fun j hj=>?_
   split
   ·exact (h.line k hk).few _ (List.mem_of_getElem? (zEh hj))
   ·omega
  omega
 have:=h.ll.2
 omega
theorem zUs(k:Nat)(s:zAa)(j:Nat):s.net.lost<=(tick1 k s j).net.lost/\(tick1 k s j).net.lost<=s.net.lost+1/\phiS (tick1 k s j)<=phiS s+602:=by
 unfold tick1
 split
 ·have a:=zFc (zEd (zAo s k j)).2 s.net
  have b:=zNn (zAo s k j)
  have c:=zSb (zEd (zAo s k j)).2 s.net
  have d:=yDj (zEd (zAo s k j)).2
  refine ⟨a.1,?_,?_⟩
  ·show (zFd s.net _).lost<=_;omega
  ·show phiL (zFd s.net _).way<=phiL s.net.way+602;omega
 ·exact ⟨Int.le_refl _,by omega,Nat.le_add_right _ _⟩
theorem zPb(k:Nat):∀ (js:List Nat) (s:zAa),s.net.lost<=(js.foldl (tick1 k) s).net.lost/\(js.foldl (tick1 k) s).net.lost<=s.net.lost+js.length/\phiS (js.foldl (tick1 k) s)<=phiS s+602*js.length
 | [],s=>⟨Int.le_refl _,by simp,by simp⟩
 | j :: js,s=>by
  obtain ⟨a,b,c⟩:=zUs k s j
  obtain ⟨a',b',c'⟩:=zPb k js (tick1 k s j)
  rw [List.foldl_cons,List.length_cons]
  exact ⟨by omega,by omega,by omega⟩
theorem zUq{s:zAa}(h:Safe s):s.net.lost<=(zFm s).net.lost/\(zFm s).net.lost<=s.net.lost+20/\phiS (zFm s)<=phiS s+12040:=by
 have key:∀ m,m<=s.lines.length->s.net.lost<=((List.range m).foldl zDq s).net.lost/\((List.range m).foldl zDq s).net.lost<=s.net.lost+4*m/\phiS ((List.range m).foldl zDq s)<=phiS s+2408*m:=by
  intro m
  induction m with
  | zero=>exact fun _=>⟨Int.le_refl _,by simp,by simp⟩
  | succ m ih=>
   intro hm
   rw [List.range_succ,List.foldl_append]
   obtain ⟨a,b,c⟩:=ih (by omega)
   have hg:Safe ((List.range m).foldl zDq s)/\zCk s ((List.range m).foldl zDq s):=by
    suffices key:∀ m,m<=s.lines.length->Safe ((List.range m).foldl zDq s)/\zCk s ((List.range m).foldl zDq s) from key m (by omega)
    intro m
    induction m with
    | zero=>exact fun _=>⟨h,zCk.refl s⟩
    | succ m ih=>
     intro hm
     rw [List.range_succ,List.foldl_append]
     obtain ⟨a,b⟩:=ih (by omega)
     obtain ⟨c,d⟩:=zKb a (k:=m) (by rw [b.mv.ll];omega)
     exact ⟨c,b.trans d⟩
   generalize (List.range m).foldl zDq s=S at a b c hg
   obtain ⟨a',b',c'⟩:=zPb m (List.range (S.line m).nodes.length) S
   have h4:=hg.1.len4 (k:=m) (by rw [hg.2.mv.ll];omega)
   rw [List.length_range] at b' c'
   show s.net.lost<=(zDq S m).net.lost/\(zDq S m).net.lost<=_/\phiS (zDq S m)<=_
   unfold zDq
   exact ⟨by omega,by omega,by omega⟩
 have:=key s.lines.length (Nat.le_refl _)
 have:=h.ll.2
 unfold zFm
 omega
theorem yKi{s:zAa}(h:Safe s):zHw (zFm s)<=zHw s:=(zLx h).2.mv.room
theorem yKj{s:zAa}(h:Safe s)(hl:∀ k j,(zAo (zFm s) k j).log=(zAo s k j).log)(hn:zDo s=false):zDo (zFm s)=false:=by
 obtain ⟨a,b⟩:=zLx h
 refine zNk.2 fun k hk=>?_
 have hk':k<s.lines.length:=by rw [b.mv.ll] at hk;exact hk
 have e1:=zNk.1 hn k hk'
 have p1:=List.length_pos_iff.2 (a.line k hk).ne
 have p2:=List.length_pos_iff.2 (h.line k hk').ne
 have e2:=hl k ((s.line k).nodes.length - 1)
 have t1:zGe (zFm s) k=zAo (zFm s) k ((s.line k).nodes.length - 1):=by
  unfold zGe
  rw [zEw _ _ p1]
  symm
  refine zFq ?_
  rw [<-b.mv.len k]
  exact List.getElem?_eq_getElem (by omega)
 have t2:zGe s k=zAo s k ((s.line k).nodes.length - 1):=by
  unfold zGe
  rw [zEw _ _ p2]
  symm
  exact zFq (List.getElem?_eq_getElem (by omega))
 unfold zGb at e1 ⊢
 rw [t1,e2,<-t2,b.heard];exact e1
theorem yKl{s:zAa}(h:Safe s){k:Nat}(hk:k<s.lines.length)(j k' j':Nat):(zAo (tick1 k s j) k' j').log=(zAo s k' j').log:=by
 unfold tick1
 split
 ·have hg:=(zJn (zAo s k j)).2.1
  show (((setNode s k j (zEd (zAo s k j)).1).line k').nodes.getD j' ⟨0,0,[],[],0⟩).log=_
  rw [zEa s hk]
  split
  ·rename_i e;subst e
   show (((s.line k').nodes.set j _).getD j' _).log=_
   rw [List.getD_eq_getElem?_getD,zDn]
   split
   ·rename_i e2;rw [e2.1];exact hg
   ·rw [<-List.getD_eq_getElem?_getD];rfl
  ·rfl
 ·rfl
theorem yGy{s:zAa}(h:Safe s){k:Nat}(hk:k<s.lines.length)(k' j':Nat):(zAo (zDq s k) k' j').log=(zAo s k' j').log:=by
 unfold zDq
 generalize List.range (s.line k).nodes.length=js
 suffices key:∀ (js:List Nat) (S:zAa),Safe S->k<S.lines.length->(zAo (js.foldl (tick1 k) S) k' j').log=(zAo S k' j').log from key js s h hk
 intro js
 induction js with
 | nil=>exact fun S _ _=>rfl
 | cons j js ih=>
  intro S a hk
  obtain ⟨c,d⟩:=a.tick1 (k:=k) (j:=j) hk
  rw [List.foldl_cons,ih _ c (by rw [d.mv.ll];exact hk),yKl a hk]
theorem yKk{s:zAa}(h:Safe s)(k' j':Nat):(zAo (zFm s) k' j').log=(zAo s k' j').log:=by
 unfold zFm
 suffices key:∀ m,m<=s.lines.length->Safe ((List.range m).foldl zDq s)/\zCk s ((List.range m).foldl zDq s)/\(zAo ((List.range m).foldl zDq s) k' j').log=(zAo s k' j').log from (key _ (Nat.le_refl _)).2.2
 intro m
 induction m with
 | zero=>exact fun _=>⟨h,zCk.refl s,rfl⟩
 | succ m ih=>
  intro hm
  rw [List.range_succ,List.foldl_append]
  obtain ⟨a,b,e⟩:=ih (by omega)
  obtain ⟨c,d⟩:=zKb a (k:=m) (by rw [b.mv.ll];omega)
  exact ⟨c,b.trans d,(yGy a (by rw [b.mv.ll];omega) k' j').trans e⟩
theorem zEg.tick{s:zAa}(h:zEg s):zEg (zFm s)/\zBv s (zFm s)/\potS (zFm s)<=potS s+9040000000/\s.net.lost<=(zFm s).net.lost:=by
 obtain ⟨a,b⟩:=zLx h.safe
 obtain ⟨c1,c2,c3⟩:=zUq h.safe
 have r:=yKi h.safe
 have q:=b.toS a h.held
 refine ⟨⟨a,q.held,yKj h.safe (yKk h.safe) h.none,b.few h.few⟩,q,?_,c1⟩
 have hmu:muS (zFm s)<=muS s+12040:=by
  have hr:zHw (zFm s)*120401<=zHw s*120401:=Nat.mul_le_mul_right _ r
  show zHw (zFm s)*120401+phiS (zFm s)<=zHw s*120401+phiS s+12040
  rw [Nat.add_assoc]
  exact Nat.add_le_add hr c3
 unfold potS
 omega
def zQp(s:zAa):zAa:=zLp (zFm s)
def calm1(s:zAa):zAa:=zQp (zQp (zQp (zQp s)))
theorem zKv{s:zAa}(h:zEg s):zEg (zQp s)/\zBv s (zQp s)/\potS (zQp s)<=potS s+9040000000/\s.net.lost<=(zQp s).net.lost/\(zQp s).net.way=[]:=by
 obtain ⟨a,b,c,d⟩:=h.tick
 obtain ⟨a',b',c',d'⟩:=yIs a
 obtain ⟨e,f⟩:=yNd a
 exact ⟨a',b.trans b',Int.le_trans f c,Int.le_trans d e,d'⟩
theorem zPy{s:zAa}(h:zEg s):zEg (calm1 s)/\zBv s (calm1 s)/\potS (calm1 s)<=potS s+36160000000/\s.net.lost<=(calm1 s).net.lost:=by
 obtain ⟨a1,b1,c1,d1,_⟩:=zKv h
 obtain ⟨a2,b2,c2,d2,_⟩:=zKv a1
 obtain ⟨a3,b3,c3,d3,_⟩:=zKv a2
 obtain ⟨a4,b4,c4,d4,_⟩:=zKv a3
 unfold calm1
 exact ⟨a4,((b1.trans b2).trans b3).trans b4,by omega,by omega⟩
def calmF:Nat->zAa->zAa
 | 0,s=>s
 | n+1,s=>if zGi (calm1 s)=zGi s then calm1 s else calmF n (calm1 s)
def zKl(s:zAa):zAa:=calmF 10001 s
theorem yJh(n:Nat):∀ {s:zAa},zEg s->zEg (calmF n s)/\zBv s (calmF n s):=by
 induction n with
 | zero=>intro s h;exact ⟨h,zBv.refl h.safe h.held⟩
 | succ n ih=>
  intro s h
  unfold calmF
  obtain ⟨a,b,_⟩:=zPy h
  split
  ·exact ⟨a,b⟩
  ·obtain ⟨a',b'⟩:=ih a
   exact ⟨a',b.trans b'⟩
theorem yCb{s:zAa}(h:zEg s):zEg (zKl s)/\zBv s (zKl s):=yJh _ h
def dueK(t:TxS)(d:Bool)(k:Nat):Option Int:=
 if d then (if t.state=2/\zIx t=true then some 3 else none) else if t.ats.getD k 0=0 then none else if t.state=2 then some 2 else if t.state=3 then some 3 else if t.state=4 then some 4 else none
theorem due_K(s:zAa)(id k:Nat)(time:Int):(dueH s id k time).map (·.kind)=dueK (s.tx id) (decide (k=decH s)) k:=by
 unfold dueH dueK
 simp only
 by_cases e:k=decH s
 ·rw [if_pos e,decide_eq_true e]
  simp only [if_true]
  split
  ·rfl
  ·rfl
 ·rw [if_neg e,decide_eq_false e]
  simp only [Bool.false_eq_true,if_false]
  split
  ·rfl
  ·split
   ·rfl
   ·split
    ·rfl
    ·split
     ·rfl
     ·rfl
theorem yFb{s:zAa}{k:Nat}:Told s k↔∀ id,1<=id->id<=s.txs.length->∀ κ,dueK (s.tx id) (decide (k=decH s)) k=some κ->hasC (zAp s k).log κ id:=by
 constructor
 ·intro h id i1 i2 κ hκ
  rw [<-due_K s id k 0] at hκ
  obtain ⟨c,hc,rfl⟩:=Option.map_eq_some_iff.1 hκ
  exact h id i1 i2 0 c hc
 ·intro h id i1 i2 time c hc
  refine h id i1 i2 c.kind ?_
  rw [<-due_K s id k time,hc];rfl
theorem zTj{t:TxS}(h:t.state=1)(d:Bool)(k:Nat):dueK t d k=none:=by
 unfold dueK
 rw [h]
 cases d <;> simp
theorem yNb{t:TxS}(h:t.state=4)(k:Nat)(h0:t.ats.getD k 0=0)(d:Bool):dueK t d k=none:=by
 unfold dueK
 rw [h,h0]
 cases d <;> simp
structure Rest(s:zAa):Prop where
 c:zEg s
 told:∀ k,k<s.lines.length->zAu s (zAp s k)=true->Told s k
theorem Told.txs{s s':zAa}{k:Nat}(h:Told s k)(hl:s'.lines=s.lines)(hx:∀ id,1<=id->id<=s'.txs.length->(id<=s.txs.length/\s'.tx id=s.tx id)\/∀ d,dueK (s'.tx id) d k=none):Told s' k:=by
 have e1:zAp s' k=zAp s k:=by unfold zAp zAa.line;rw [hl]
 have e2:decH s'=decH s:=by unfold decH;rw [hl]
 rw [yFb] at h ⊢
 intro id i1 i2 κ hκ
 rw [e1]
 rcases hx id i1 i2 with ⟨q1,q2⟩ | q
 ·rw [e2,q2] at hκ;exact h id i1 q1 κ hκ
 ·rw [q] at hκ;cases hκ
theorem ySw{s s':zAa}(hl:s'.lines=s.lines):zDo s'=zDo s:=by
 unfold zDo zGb zGe zAa.line;rw [hl]
theorem yQj{s s':zAa}(hd:s'.dead=s.dead)(n:zAl):zAu s' n=zAu s n:=by unfold zAu;rw [hd]
theorem yPx{s s':zAa}(hl:s'.lines=s.lines)(k:Nat):zAp s' k=zAp s k:=by unfold zAp zAa.line;rw [hl]
theorem Rest.txs{s s':zAa}(h:Rest s)(hS:Safe s')(hH:Held s')(hl:s'.lines=s.lines)(hd:s'.dead=s.dead)(hn:s'.net=s.net)(hx:∀ id,1<=id->id<=s'.txs.length->(id<=s.txs.length/\s'.tx id=s.tx id)\/∀ d k,dueK (s'.tx id) d k=none):Rest s':=by
 refine ⟨⟨hS,hH,by rw [ySw hl];exact h.c.none,by rw [hn];exact h.c.few⟩,fun k hk hv=>?_⟩
 rw [hl] at hk
 rw [yQj hd,yPx hl] at hv
 exact (h.told k hk hv).txs hl fun id i1 i2=>(hx id i1 i2).imp (fun e=>e) (fun q d=>q d k)
theorem yBr{t:TxS}(h:t.state=4)(h0:∀ k,t.ats.getD k 0=0)(d:Bool)(k:Nat):dueK t d k=none:=yNb h k (h0 k) d
theorem Rest.begin{s:zAa}(h:Rest s)(hl:s.txs.length<60):Rest (zGk s):=by
 have q:=yJi h.c.safe h.c.held hl
 refine h.txs q.safe q.held rfl rfl rfl fun id i1 i2=>?_
 by_cases e:id=s.txs.length+1
 ·right;intro d k;rw [e,yCc];exact zTj rfl d k
 ·left;rw [zHs] at i2;exact ⟨by omega,yGh s i1 (by omega)⟩
theorem Rest.locked{s r:zAa}{id k:Nat}(h:Rest s)(hg:yOk s id k r):Rest r:=by
 refine h.txs hg.safe hg.held hg.same.l hg.same.d hg.same.net fun j j1 j2=>?_
 rw [hg.same.len] at j2
 by_cases e:j=id
 ·right;intro d k;subst e;exact zTj hg.st d k
 ·rcases hg.cut j j1 e with q | ⟨_,q2,q3⟩
  ·exact .inl ⟨j2,q⟩
  ·exact .inr fun d k=>yBr q2 q3 d k
theorem Rest.get{s:zAa}(h:Rest s)(id:Int)(key:ByteArray):Rest (getH s id key).1:=by
 unfold getH
 split
 ·exact h
 rename_i e1
 obtain ⟨i,rfl,h1,h2,ho⟩:=zEi (zCi (by simpa using e1)).1
 have q:=h.locked (zHm h.c.safe h.c.held h1 h2 ho key (zCi (by simpa using e1)).2.1 (mode:=1) (.inl rfl))
 simp only
 split
 ·exact q
 ·exact q
theorem Rest.put{s:zAa}(h:Rest s)(id:Int)(p:zAz):Rest (putH s id p).1:=by
 have hA:=yFj h.c.safe h.c.held id p
 revert hA
 unfold putH
 split
 ·exact fun _=>h
 split
 ·exact fun _=>h
 rename_i e1
 obtain ⟨i,rfl,h1,h2,ho⟩:=zEi (zCi (by simpa using e1)).1
 rw [Int.toNat_natCast]
 split
 ·exact fun _=>h
 have q:=zHm h.c.safe h.c.held h1 h2 ho p.key (zCi (by simpa using e1)).2.1 (mode:=2) (.inr rfl)
 have qR:=h.locked q
 simp only
 split
 ·exact fun _=>qR
 ·intro hA
  generalize (zBw s i p.key 2).1=r at q qR hA
  have hl:i<=r.txs.length:=by rw [q.same.len];exact h2
  refine qR.txs hA.safe hA.held rfl rfl rfl fun j j1 j2=>?_
  rw [zBd] at j2
  rw [zJp r i _ j1 h1 hl]
  split
  ·right
   intro d k
   refine zTj ?_ d k
   unfold zEq
   split
   ·exact q.st
   ·exact q.st
  ·exact .inl ⟨j2,rfl⟩
theorem Rest.drop{s:zAa}(h:Rest s)(id:Int):Rest (zEy s id).1:=by
 have hA:=yBt h.c.safe h.c.held id
 revert hA
 unfold zEy
 split
 ·exact fun _=>h
 ·rename_i e
  obtain ⟨i,rfl,h1,h2,ho⟩:=zEi (by simpa using e)
  rw [Int.toNat_natCast]
  intro hA
  have hc:=Cut.abort h1 h2 ho
  refine h.txs hA.safe hA.held (zGl s i) (zBk.abort s i).d (zBk.abort s i).net fun j j1 j2=>?_
  rw [zMn] at j2
  rcases hc.tx j j1 with q | ⟨_,q2,q3⟩
  ·exact .inl ⟨j2,q⟩
  ·exact .inr fun d k=>yBr q2 q3 d k
theorem Rest.net{s:zAa}(h:Rest s){net:NetS}(hS:Safe { s with net:=net })(hf:net.way.length<=200):Rest { s with net:=net }:=
 ⟨⟨hS,h.c.held.lines rfl rfl,h.c.none,hf⟩,fun k hk hv=>(h.told k hk hv).txs rfl fun id i1 i2=>.inl ⟨i2,rfl⟩⟩
theorem Rest.lose{s:zAa}(h:Rest s)(k:Int):Rest (zEn s k).1:=by
 have hA:=yAn h.c.safe h.c.held k
 revert hA
 unfold zEn
 split
 ·exact fun hA=>h.net hA.safe (Nat.le_trans (List.length_eraseIdx_le _ _) h.c.few)
 ·exact fun _=>h
theorem Rest.twice{s:zAa}(h:Rest s)(k:Int):Rest (zCe s k).1:=by
 have hA:=zUl h.c.safe h.c.held k
 revert hA
 unfold zCe
 split
 ·split
  ·exact fun hA=>h.net hA.safe (zZn h.c.few _)
  ·exact fun _=>h
 ·exact fun _=>h
theorem Rest.fail{s:zAa}(h:Rest s)(id:Int):Rest (zEo s id).1:=by
 have hA:=yBp h.c.safe h.c.held id
 revert hA
 unfold zEo
 split
 ·exact fun _=>h
 ·intro hA
  refine ⟨⟨hA.safe,hA.held,h.c.none,Nat.le_trans (List.length_filter_le _ _) h.c.few⟩,fun k hk hv=>(h.told k hk ?_).txs rfl fun id i1 i2=>.inl ⟨i2,rfl⟩⟩
  unfold zAu at hv ⊢
  simp only [Bool.not_eq_true',decide_eq_false_iff_not] at hv ⊢
  exact fun q=>hv (List.mem_append.2 (.inl q))
def zIb(s:zAa):Prop:=∀ k,k<s.lines.length->zAu s (zAp s k)=true->Told s k
theorem yGu{s:zAa}(h:Safe s)(hH:Held s):zIb (zEe (zHz s)):=by
 obtain ⟨a,_⟩:=zMk h hH
 obtain ⟨b,c,d⟩:=zDv a.safe
 intro k hk hv
 have hk':k<(zHz s).lines.length:=by rw [c.mv.ll] at hk;exact hk
 refine d k hk' ?_
 have hg:=(c.mv.at (k:=k) (j:=0) (List.length_pos_iff.2 (a.safe.line k hk').ne)).1
 have e1:zAo (zHz s) k 0=zAp (zHz s) k:=rfl
 have e2:zAo (zEe (zHz s)) k 0=zAp (zEe (zHz s)) k:=rfl
 rw [e1,e2] at hg
 unfold zAu at hv ⊢
 rw [c.mv.dead,hg.id] at hv;exact hv
theorem zZd{s:zAa}(h:Safe s):zIb (zEe s):=by
 obtain ⟨b,c,d⟩:=zDv h
 intro k hk hv
 have hk':k<s.lines.length:=by rw [c.mv.ll] at hk;exact hk
 refine d k hk' ?_
 have hg:=(c.mv.at (k:=k) (j:=0) (List.length_pos_iff.2 (h.line k hk').ne)).1
 have e1:zAo s k 0=zAp s k:=rfl
 have e2:zAo (zEe s) k 0=zAp (zEe s) k:=rfl
 rw [e1,e2] at hg
 unfold zAu at hv ⊢
 rw [c.mv.dead,hg.id] at hv;exact hv
theorem zZk(n:Nat):∀ {s:zAa},Safe s->Held s->zIb s->zIb (settleF n s):=by
 induction n with
 | zero=>intro s _ _ h;exact h
 | succ n ih=>
  intro s a b h
  unfold settleF
  split
  ·have q:=(zJq a b).1
   exact ih q.safe q.held (yGu a b)
  ·exact h
theorem yCz{s:zAa}(h:Safe s)(hH:Held s)(ht:zIb s):zIb (zCo s):=zZk _ h hH ht
theorem Rest.settled{s:zAa}(h:Safe s)(hH:Held s)(hf:s.net.way.length<=200)(ht:zIb s):Rest (zCo s):=by
 obtain ⟨a,b⟩:=zGa h hH
 exact ⟨⟨a.safe,a.held,b,a.few hf⟩,yCz h hH ht⟩
theorem Rest.end_{s:zAa}(h:Rest s)(id:Int):Rest (endH s id).1:=by
 unfold endH
 split
 ·exact h
 ·rename_i e
  split
  ·exact h
  ·rename_i e2
   obtain ⟨i,rfl,h1,h2,ho⟩:=zEi (by simpa using e)
   rw [Int.toNat_natCast]
   have hS:Safe (setTx s i { s.tx i with state:=2 }):=h.c.safe.write (ws:=(s.tx i).writes) h1 h2 ho (h.c.safe.tx i h1 h2).few (.inr rfl)
   have hHs:Held (setTx s i { s.tx i with state:=2 }):=h.c.held.ending h1 h2 rfl ho (zJm (by simpa using e2))
   obtain ⟨b,c,_⟩:=zDv hS
   exact Rest.settled b (c.toS b hHs).held (c.few h.c.few) (zZd hS)
theorem Told.step{s s':zAa}{k:Nat}(h:Told s k)(hk:k<s.lines.length)(hS:Safe s)(ht:zCk s s'):Told s' k:=by
 have hd:decH s'=decH s:=by unfold decH;rw [ht.mv.ll]
 rw [yFb] at h ⊢
 intro id i1 i2 κ hκ
 rw [ht.mv.tl] at i2
 have e:s'.tx id=s.tx id:=by unfold zAa.tx;rw [ht.txs]
 rw [hd,e] at hκ
 refine zRc (h id i1 i2 κ hκ) fun c hc=>?_
 have hp:=(ht.mv.at (k:=k) (j:=0) (List.length_pos_iff.2 (hS.line k hk).ne)).2
 exact hp.subset hc
theorem zIb.step{s s':zAa}(h:zIb s)(hS:Safe s)(ht:zCk s s'):zIb s':=fun k hk hv=>by
 rw [ht.mv.ll] at hk
 refine (h k hk ?_).step hk hS ht
 have hg:=(ht.mv.at (k:=k) (j:=0) (List.length_pos_iff.2 (hS.line k hk).ne)).1
 have e1:zAo s k 0=zAp s k:=rfl
 have e2:zAo s' k 0=zAp s' k:=rfl
 rw [e1,e2] at hg
 unfold zAu at hv ⊢
 rw [ht.mv.dead,hg.id] at hv;exact hv
theorem Rest.deliver{s:zAa}(h:Rest s)(i:Nat):Rest (zBb s i):=by
 unfold zBb
 cases hm:s.net.way[i]? with
 | none=>exact h
 | some m=>
  simp only
  have ht:Safe (zBi s i):=h.c.safe.way fun m' hm'=>List.mem_of_mem_eraseIdx hm'
  have hT:Rest (zBi s i):=h.net ht (Nat.le_trans (List.length_eraseIdx_le _ _) h.c.few)
  cases hn:zIo s m.to with
  | none=>exact hT
  | some kj=>
   obtain ⟨kk,j⟩:=kj
   obtain ⟨hk,n,q1,q2,q3⟩:=zJs hn
   have hS:=ht.step (k:=kk) (j:=j) (n:=n) hk q1 (h.c.safe.msg m (List.mem_of_getElem? hm))
   have hTl:=zCk.step (s:=zBi s i) hk q1 q2 m
   exact Rest.settled hS (hT.c.held.lines hTl.keys hTl.txs) (hTl.few hT.c.few) (zIb.step hT.told ht hTl)
theorem Rest.tick{s:zAa}(h:Rest s):Rest (zFm s):=⟨h.c.tick.1,zIb.step h.told h.c.safe (zLx h.c.safe).2⟩
theorem Rest.drainF(n:Nat):∀ {s:zAa},Rest s->Rest (drainF n s):=by
 induction n with
 | zero=>intro s h;exact h
 | succ n ih=>
  intro s h
  unfold Go.Proofs.YtogaigioeohjaaaGreatDoor.drainF
  split
  ·exact h
  ·exact ih (h.deliver 0)
theorem Rest.turn{s:zAa}(h:Rest s):Rest (zQp s):=h.tick.drainF _
theorem Rest.calm1{s:zAa}(h:Rest s):Rest (calm1 s):=h.turn.turn.turn.turn
theorem Rest.calmF(n:Nat):∀ {s:zAa},Rest s->Rest (calmF n s):=by
 induction n with
 | zero=>intro s h;exact h
 | succ n ih=>
  intro s h
  unfold Go.Proofs.YtogaigioeohjaaaGreatDoor.calmF
  split
  ·exact h.calm1
  ·exact ih h.calm1
theorem Rest.calm{s:zAa}(h:Rest s):Rest (zKl s):=h.calmF _
theorem yMr{s:zAa}(k:Nat)(hf:s.net.way.length<=200):(fixAt s k).net.way.length<=200:=by
 unfold fixAt
 split
 ·exact hf
 ·unfold zDt
  have key:∀ (is:List Nat) (S:zAa),S.net.way.length<=200->(is.foldl (fun h i=>if zOg h k i then zBh h (i+1) else h) S).net.way.length<=200:=by
   intro is
   induction is with
   | nil=>exact fun S h=>h
   | cons i is ih=>
    intro S h
    rw [List.foldl_cons]
    refine ih _ ?_
    split
    ·rw [(zBk.abort S _).net];exact h
    ·exact h
  exact key _ _ (zNw _ hf)
theorem Rest.fix{s:zAa}(h:Rest s):Rest (fixH s):=by
 unfold fixH
 obtain ⟨a,-⟩:=zIr h.c.safe h.c.held s.lines.length (Nat.le_refl _)
 have hf:((List.range s.lines.length).foldl fixAt s).net.way.length<=200:=by
  generalize List.range s.lines.length=ks
  have key:∀ (ks:List Nat) (S:zAa),S.net.way.length<=200->(ks.foldl fixAt S).net.way.length<=200:=by
   intro ks
   induction ks with
   | nil=>exact fun S h=>h
   | cons k ks ih=>intro S h;exact ih _ (yMr k h)
  exact key ks s h.c.few
 obtain ⟨b,c,_⟩:=zDv a.safe
 exact Rest.settled b (c.toS b a.held).held (c.few hf) (zZd a.safe)
theorem Rest.new{shards nodes:Nat}(h1:1<=shards/\shards<=4)(h2:1<=nodes/\nodes<=4):Rest (newH shards nodes):=by
 obtain ⟨a,b,c⟩:=yPz h1 h2
 obtain ⟨d1,d2,d3,d4,d5⟩:=zSf nodes (shards+1)
 have ht:(newH shards nodes).txs=[]:=d2
 refine ⟨⟨a,b,?_,?_⟩,fun k hk _ id i1 i2=>by rw [ht] at i2;simp at i2;omega⟩
 ·refine zNk.2 fun k hk=>?_
  have hL:=a.line k hk
  have hm:=zYb hL.ne (⟨0,0,[],[],0⟩:zAl)
  have hlog:(zGe (newH shards nodes) k).log=[]:=by
   have hl:=zMc nodes (shards+1)
   have hline:(newH shards nodes).line k=(zBu k nodes).1:=by
    show (newF nodes (shards+1)).lines.getD k _=_
    rw [hl,List.getD_eq_getElem?_getD];rw [c] at hk;simp [hk]
   rw [hline] at hm
   unfold zGe
   rw [hline]
   exact (zPo k nodes h2.1 h2.2).2 _ hm
  unfold zGb
  rw [hlog];simp
 ·show (newF nodes (shards+1)).net.way.length<=200
  have key:∀ m,(newF nodes m).net.way.length<=200:=by
   intro m
   induction m with
   | zero=>simp [newF]
   | succ m ih=>exact zNw _ ih
  exact key _
theorem zXb{f:Nat->Nat}{b:Nat}:∀ {n:Nat},(∀ k,k<n->f k<=b)->sumR f n<=n*b
 | 0,_=>by simp [sumR]
 | n+1,h=>by
  have h1:=zXb (n:=n) (fun k hk=>h k (by omega))
  have h2:=h n (by omega)
  have e:sumR f (n+1)=sumR f n+f n:=by simp [sumR]
  rw [e,Nat.succ_mul]
  omega
theorem yPg{s:zAa}(h:Safe s):zHw s<=10000:=by
 have h1:zHw s<=s.lines.length*2000:=by
  unfold zHw
  refine zXb fun k hk=>?_
  have h4:=h.len4 hk
  have:=zXb (f:=fun j=>500 - (zAo s k j).log.length) (b:=500) (n:=(s.line k).nodes.length) (fun j _=>Nat.sub_le _ _)
  exact Nat.le_trans this (by omega)
 have:=h.shape.ll
 omega
theorem yLf{s:zAa}(h:zEg s):potS s<=s.net.lost+1000000000000000:=by
 have h1:=yPg h.safe
 have h2:=yLi h.few
 have h3:muS s<=1204130400:=by
  have e:muS s=zHw s*120401+phiS s:=rfl
  omega
 have e:potS s=s.net.lost+750800*(muS s:Int):=rfl
 omega
theorem yNt(n:Nat):∀ {s:zAa},zEg s->(calmF n s).net.lost<=potS s+36160000000*n/\s.net.lost<=(calmF n s).net.lost:=by
 induction n with
 | zero=>
  intro s h
  refine ⟨?_,Int.le_refl _⟩
  show s.net.lost<=potS s+36160000000*((0:Nat):Int)
  have:potS s=s.net.lost+750800*(muS s:Int):=rfl
  omega
 | succ n ih=>
  intro s h
  unfold calmF
  obtain ⟨a,b,c,d⟩:=zPy h
  split
  ·refine ⟨?_,d⟩
   have:potS (calm1 s)=(calm1 s).net.lost+750800*(muS (calm1 s):Int):=rfl
   omega
  ·obtain ⟨a',b'⟩:=ih a
   exact ⟨by omega,by omega⟩
structure Cost(s s':zAa):Prop where
 lost:s'.net.lost<=s.net.lost+2000000000000000
 dead:s'.dead.length<=s.dead.length+1
 down:s'.net.down.length<=s.net.down.length+1
 ll:s'.lines.length=s.lines.length
theorem Cost.refl(s:zAa):Cost s s:=⟨by omega,by omega,by omega,rfl⟩
theorem Cost.of{s s':zAa}(hn:s'.net=s.net)(hd:s'.dead=s.dead)(hl:s'.lines.length=s.lines.length):Cost s s':=by
 have e1:s'.net.lost=s.net.lost:=congrArg NetS.lost hn
 have e2:=congrArg List.length hd
 have e3:s'.net.down.length=s.net.down.length:=congrArg (fun x=>x.down.length) hn
 exact ⟨by omega,by omega,by omega,hl⟩
theorem Cost.sett{s s':zAa}(h:zBv s s')(hl:s'.net.lost<=s.net.lost+2000000000000000):Cost s s':=by
 have e2:=congrArg List.length h.mv.dead
 have e3:=congrArg List.length h.down
 exact ⟨hl,by omega,by omega,h.mv.ll⟩
theorem yRq{s:zAa}(h:zEg s):(zKl s).net.lost<=potS s+361636160000000:=by
 unfold zKl
 obtain ⟨n,hn⟩:∃ n:Nat,n=10001:=⟨_,rfl⟩
 rw [<-hn]
 have h1:=(yNt n h).1
 omega
theorem Cost.calm{s:zAa}(h:zEg s):Cost s (zKl s):=by
 have h1:=yRq h
 have h2:=yLf h
 have h3:=(yCb h).2
 generalize zKl s=r at h1 h3 ⊢
 exact Cost.sett h3 (by omega)
theorem Cost.tick{s:zAa}(h:zEg s):Cost s (zFm s):=by
 have h1:=(zUq h.safe).2.1
 exact Cost.sett h.tick.2.1 (by omega)
theorem Cost.begin(s:zAa):Cost s (zGk s):=Cost.of rfl rfl rfl
theorem Cost.same{s s':zAa}(h:zBk s s'):Cost s s':=Cost.of h.net h.d (by rw [h.l])
theorem Cost.drop(s:zAa)(id:Int):Cost s (zEy s id).1:=by
 unfold zEy
 split
 ·exact Cost.refl s
 ·exact Cost.same (zBk.abort s _)
theorem Cost.lose(s:zAa)(k:Int):Cost s (zEn s k).1:=by
 unfold zEn
 split
 ·exact ⟨by show s.net.lost+1<=_;omega,by show s.dead.length<=_;omega,by show s.net.down.length<=_;omega,rfl⟩
 ·exact Cost.refl s
theorem Cost.twice(s:zAa)(k:Int):Cost s (zCe s k).1:=by
 unfold zCe
 split
 ·split
  ·rename_i m _ _ _
   refine ⟨?_,by show s.dead.length<=_;omega,?_,rfl⟩
   ·show (zFe s.net m).lost<=_
    unfold zFe
    split
    ·show s.net.lost+1<=_;omega
    ·show s.net.lost<=_;omega
   ·show (zFe s.net m).down.length<=_
    have e:=congrArg List.length (zUy s.net m)
    omega
  ·exact Cost.refl s
 ·exact Cost.refl s
theorem Cost.fail{s:zAa}(h:s.net.way.length<=200)(id:Int):Cost s (zEo s id).1:=by
 unfold zEo
 split
 ·exact Cost.refl s
 ·refine ⟨?_,by show (s.dead++[id]).length<=_;simp,by show (s.net.down++[id]).length<=_;simp,rfl⟩
  show s.net.lost+((s.net.way.length:Int) - _)<=_
  omega
theorem Cost.deliver{s:zAa}(h:zEg s)(i:Nat):Cost s (zBb s i):=Cost.sett (zJb h.safe h.held i) (by have:=(zLq h.safe h.held i).2;omega)
theorem Cost.get{s:zAa}(h:zEg s)(id:Int)(key:ByteArray):Cost s (getH s id key).1:=by
 unfold getH
 split
 ·exact Cost.refl s
 rename_i e1
 obtain ⟨i,rfl,h1,h2,ho⟩:=zEi (zCi (by simpa using e1)).1
 have q:=Cost.same (zHm h.safe h.held h1 h2 ho key (zCi (by simpa using e1)).2.1 (mode:=1) (.inl rfl)).same
 simp only
 split
 ·exact q
 ·exact q
theorem Cost.put{s:zAa}(h:zEg s)(id:Int)(p:zAz):Cost s (putH s id p).1:=by
 unfold putH
 split
 ·exact Cost.refl s
 split
 ·exact Cost.refl s
 rename_i e1
 obtain ⟨i,rfl,h1,h2,ho⟩:=zEi (zCi (by simpa using e1)).1
 rw [Int.toNat_natCast]
 split
 ·exact Cost.refl s
 have q:=Cost.same (zHm h.safe h.held h1 h2 ho p.key (zCi (by simpa using e1)).2.1 (mode:=2) (.inr rfl)).same
 simp only
 split
 ·exact q
 ·exact ⟨q.lost,q.dead,q.down,q.ll⟩
theorem Cost.settled{s S:zAa}(hS:Safe S)(hH:Held S)(hn:S.net.lost<=s.net.lost+1000)(hd:S.dead=s.dead)(hw:S.net.down=s.net.down)(hl:S.lines.length=s.lines.length):Cost s (zCo (zEe S)):=by
 obtain ⟨b,c,_⟩:=zDv hS
 have q:=c.toS b hH
 have h1:=(zRu hS).2
 have h2:=(zRx b q.held).2
 have g:=q.trans (zGa b q.held).1
 have e2:=congrArg List.length g.mv.dead
 have e3:=congrArg List.length g.down
 have e4:=congrArg List.length hd
 have e5:=congrArg List.length hw
 generalize zCo (zEe S)=r at h2 g e2 e3 ⊢
 exact ⟨by omega,by omega,by omega,g.mv.ll.trans hl⟩
theorem Cost.end_{s:zAa}(h:zEg s)(id:Int):Cost s (endH s id).1:=by
 unfold endH
 split
 ·exact Cost.refl s
 ·rename_i e
  split
  ·exact Cost.refl s
  ·rename_i e2
   obtain ⟨i,rfl,h1,h2,ho⟩:=zEi (by simpa using e)
   rw [Int.toNat_natCast]
   have hS:Safe (setTx s i { s.tx i with state:=2 }):=h.safe.write (ws:=(s.tx i).writes) h1 h2 ho (h.safe.tx i h1 h2).few (.inr rfl)
   have hHs:Held (setTx s i { s.tx i with state:=2 }):=h.held.ending h1 h2 rfl ho (zJm (by simpa using e2))
   exact Cost.settled hS hHs (by show s.net.lost<=_;omega) rfl rfl rfl
theorem yQy{α β:Type}(f:α->List β)(l:List α)(h:∀ a,(f a).length<=1):(l.flatMap f).length<=l.length:=by
 induction l with
 | nil=>simp
 | cons a l ih=>have:=h a;simp only [List.flatMap_cons,List.length_append,List.length_cons];omega
theorem yIl{s:zAa}(h:Safe s)(hH:Held s){k:Nat}(hk:k<s.lines.length):(fixAt s k).net.lost<=s.net.lost+4:=by
 unfold fixAt
 split
 ·omega
 ·rename_i e
  obtain ⟨e1,e2⟩:=zMe e
  have hF:Safe (lineF s k):=h.lineF hk e1 e2
  obtain ⟨_,b⟩:=zLn hF (hH.lines rfl rfl) (k:=k) (by rw [zEv];exact hk)
  show (zDt (lineF s k) k).net.lost<=_
  rw [b.net]
  have h1:=(zFc (zBy ⟨zAk s k,(s.line k).heard⟩).2 s.net).2
  have h2:(zBy ⟨zAk s k,(s.line k).heard⟩).2.length<=(zAk s k).length:=yQy _ _ (fun n=>zNn _)
  have h3:=h.len4 hk
  have h4:(zAk s k).length<=(s.line k).nodes.length:=List.length_filter_le _ _
  show (zFd s.net _).lost<=_
  omega
theorem yEe{s:zAa}(h:Safe s)(hH:Held s):∀ m,m<=s.lines.length->((List.range m).foldl fixAt s).net.lost<=s.net.lost+4*m:=by
 intro m
 induction m with
 | zero=>exact fun _=>by simp
 | succ m ih=>
  intro hm
  have b:=ih (by omega)
  obtain ⟨a,-⟩:=zIr h hH m (by omega)
  rw [List.range_succ,List.foldl_append]
  have c:=yIl a.safe a.held (k:=m) (by rw [a.ll];omega)
  show (fixAt _ m).net.lost<=_
  omega
theorem Cost.fix{s:zAa}(h:zEg s):Cost s (fixH s):=by
 unfold fixH
 obtain ⟨a,b,c,-⟩:=zIr h.safe h.held s.lines.length (Nat.le_refl _)
 have d:=yEe h.safe h.held s.lines.length (Nat.le_refl _)
 have e:=h.safe.shape.ll
 exact Cost.settled a.safe a.held (by omega) b c a.ll
structure zCz(s s':zAa):Prop where
 rest:Rest s'
 cost:Cost s s'
 act:ActG s s'
 tl:s'.txs.length=s.txs.length
theorem zCz.refl{s:zAa}(h:Rest s):zCz s s:=⟨h,Cost.refl s,ActG.refl h.c.safe h.c.held,rfl⟩
theorem zCz.get{s:zAa}(h:Rest s)(id:Int)(key:ByteArray):zCz s (getH s id key).1:=by
 refine ⟨h.get id key,Cost.get h.c id key,yQv h.c.safe h.c.held id key,?_⟩
 unfold getH
 split
 ·rfl
 rename_i e1
 obtain ⟨i,rfl,h1,h2,ho⟩:=zEi (zCi (by simpa using e1)).1
 have q:=(zHm h.c.safe h.c.held h1 h2 ho key (zCi (by simpa using e1)).2.1 (mode:=1) (.inl rfl)).same.len
 simp only
 split
 ·exact q
 ·exact q
theorem zCz.put{s:zAa}(h:Rest s)(id:Int)(p:zAz):zCz s (putH s id p).1:=by
 refine ⟨h.put id p,Cost.put h.c id p,yFj h.c.safe h.c.held id p,?_⟩
 unfold putH
 split
 ·rfl
 split
 ·rfl
 rename_i e1
 obtain ⟨i,rfl,h1,h2,ho⟩:=zEi (zCi (by simpa using e1)).1
 rw [Int.toNat_natCast]
 split
 ·rfl
 have q:=(zHm h.c.safe h.c.held h1 h2 ho p.key (zCi (by simpa using e1)).2.1 (mode:=2) (.inr rfl)).same.len
 simp only
 split
 ·exact q
 ·exact (zBd _ _ _).trans q
theorem zCz.told{s S:zAa}(hS:Safe S)(hH:Held S)(hl:S.txs.length=s.txs.length):(zCo (zEe S)).txs.length=s.txs.length:=by
 obtain ⟨b,c,_⟩:=zDv hS
 have q:=c.toS b hH
 exact ((q.trans (zGa b q.held).1).mv.tl).trans hl
theorem zCz.end_{s:zAa}(h:Rest s)(id:Int):zCz s (endH s id).1:=by
 refine ⟨h.end_ id,Cost.end_ h.c id,yRc h.c.safe h.c.held id,?_⟩
 unfold endH
 split
 ·rfl
 ·rename_i e
  split
  ·rfl
  ·rename_i e2
   obtain ⟨i,rfl,h1,h2,ho⟩:=zEi (by simpa using e)
   rw [Int.toNat_natCast]
   have hS:Safe (setTx s i { s.tx i with state:=2 }):=h.c.safe.write (ws:=(s.tx i).writes) h1 h2 ho (h.c.safe.tx i h1 h2).few (.inr rfl)
   have hHs:Held (setTx s i { s.tx i with state:=2 }):=h.c.held.ending h1 h2 rfl ho (zJm (by simpa using e2))
   exact zCz.told hS hHs (zBd _ _ _)
theorem zCz.fix{s:zAa}(h:Rest s):zCz s (fixH s):=by
 refine ⟨h.fix,Cost.fix h.c,yQz h.c.safe h.c.held,?_⟩
 unfold fixH
 obtain ⟨a,b,c,d,-⟩:=zIr h.c.safe h.c.held s.lines.length (Nat.le_refl _)
 exact zCz.told a.safe a.held d
theorem zCz.drop{s:zAa}(h:Rest s)(id:Int):zCz s (zEy s id).1:=by
 refine ⟨h.drop id,Cost.drop s id,yBt h.c.safe h.c.held id,?_⟩
 unfold zEy
 split
 ·rfl
 ·exact (zBk.abort s _).len
theorem zCz.lose{s:zAa}(h:Rest s)(k:Int):zCz s (zEn s k).1:=by
 refine ⟨h.lose k,Cost.lose s k,yAn h.c.safe h.c.held k,?_⟩
 unfold zEn
 split <;> rfl
theorem zCz.twice{s:zAa}(h:Rest s)(k:Int):zCz s (zCe s k).1:=by
 refine ⟨h.twice k,Cost.twice s k,zUl h.c.safe h.c.held k,?_⟩
 unfold zCe
 split
 ·split <;> rfl
 ·rfl
theorem zCz.sett{s s':zAa}(h:Rest s')(hc:Cost s s')(hg:zBv s s'):zCz s s':=⟨h,hc,hg.toA,hg.mv.tl⟩
theorem zCz.deliver{s:zAa}(h:Rest s)(i:Nat):zCz s (zBb s i):=zCz.sett (h.deliver i) (Cost.deliver h.c i) (zJb h.c.safe h.c.held i)
theorem zCz.tick{s:zAa}(h:Rest s):zCz s (zFm s):=zCz.sett h.tick (Cost.tick h.c) h.c.tick.2.1
theorem zCz.calm{s:zAa}(h:Rest s):zCz s (zKl s):=by
 have a:=h.calm
 have b:=Cost.calm h.c
 have c:=(yCb h.c).2
 generalize zKl s=r at a b c ⊢
 exact zCz.sett a b c
theorem zCz.fail{s:zAa}(h:Rest s)(id:Int):zCz s (zEo s id).1:=by
 refine ⟨h.fail id,Cost.fail h.c.few id,yBp h.c.safe h.c.held id,?_⟩
 unfold zEo
 split <;> rfl
end Go.Proofs.YtogaigioeohjaaaGreatDoor
