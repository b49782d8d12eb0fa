import Derived.Test.YtmaiggbnceejiaaGreatDoorP34
set_option linter.unusedVariables false
set_option maxRecDepth 100000
set_option maxHeartbeats 16000000
namespace Go.Proofs.YtmaiggbnceejiaaGreatDoor
theorem kp.Fk{s s':dW}(h:kp s s')(hl:∀ k j,(eG s' k j).log=(eG s k j).log):xk s s':=
 ⟨h.ll,h.len,fun k j hj=>(h.at hj).1.id,fun k j hj=>(h.at hj).1.ep,fun k j _ _=>by rw [hl]⟩
structure yT(s S:dW)(c:Nat)(P:Nat->Nat->Prop):Prop where
 safe:Safe S
 tells:gb s S
 log:∀ k j,(eG S k j).log=(eG s k j).log
 few:S.net.way.length<=c
 kd:∀ m∈S.net.way,m.kind=1\/m.kind=4
 sync:∀ k j,xi S k j->P k j->Uv S k j
theorem yT.step{s S:dW}{c:Nat}{P:Nat->Nat->Prop}(h:yT s S c P)(hA:nE s)(hc:c<200){k j:Nat}(hk:k<s.lines.length)(hj:j<(s.line k).nodes.length):yT s (fD k S j) (c+1) (fun a b=>P a b\/(a=k/\b=j)):=by
 have Rw:=hA.moves h.tells.mv h.tells.down;have xM:k<S.lines.length:=by rw [h.tells.mv.ll];exact hk
 have Xc:j<(S.line k).nodes.length:=by rw [h.tells.mv.len];exact hj
 obtain ⟨g1,g2⟩:=h.safe.fD (k:=k) (j:=j) xM;have gk:=fun k' j'=>yAo h.safe xM j k' j';have hv:=Rw.lives k xM _ (aC (og Xc));have hS:=g2.mv.Fk gk;obtain ⟨n,hn⟩:∃ n,n=eG S k j:=⟨_,rfl⟩;have RW:(S.line k).nodes[j]?=some n:=by rw [hn];exact og Xc
 have ot:(fD k S j).net=ju S.net (kK n).2:=by
  unfold fD;rw [aJ hv,<-hn];rfl
 have hts:=(Dh n).2.2;refine ⟨g1,h.tells.trans g2,fun a b=>(gk a b).trans (h.log a b),?_,fun m hm=>?_,fun a b hl hP=>?_⟩
 ·rw [ot];have:=Tt (kK n).2 S.net;have:=Is n;have:=h.few;omega
 ·rw [ot] at hm;rcases Iy hm with q | q
  ·exact h.kd m q
  ·exact (hts m q).2
 ·have hl0:=hS.link hl;rcases hP with hP | ⟨rfl,rfl⟩
  ·obtain ⟨m,hm,q⟩:=h.sync a b hl0 hP;exact hS.sync hl0 (by rw [ot];exact QY _ _ hm) q
  ·have Cz:=h.safe.line a hl0.1;have zi:=og hl0.2;have hnb:=Cz.uV (wh:=1) RW zi (by omega);have hpl:=Cz.place RW;have xQ:=Cz.cfg n (aC RW);have ht:te n=false:=by
    unfold te;rw [hpl,xQ,af];have:=hl0.2;have:¬ ((b:Int)=((S.line a).nodes.length:Int) - 1):=by omega
    simp [this]
   refine hS.sync hl0 (m:=⟨1,n.id,(eG S a (b+1)).id,n.db,n.log.length,rT⟩) ?_ ⟨rfl,by rw [hn],rfl,?_⟩
   ·rw [ot];have:(kK n).2=[⟨1,n.id,(eG S a (b+1)).id,n.db,n.log.length,rT⟩]:=by
     unfold kK;rw [ht];show kY n 1 _=_;unfold kY;rw [hnb];rfl
    rw [this];refine Uc ?_ (by have:=h.few;omega);exact UK Rw (k:=a) (j:=b) (k':=a) (j':=b+1) xM Xc xM hl0.2 (by rw [hn]) rfl
   ·obtain ⟨E,_,_,hE⟩:=Cz.ep;show n.db=(eG S a (b+1)).db;rw [hE _ (aC RW),hE _ (aC zi)]
theorem yT.mono{s S:dW}{c c':Nat}{P P':Nat->Nat->Prop}(h:yT s S c P)(hc:c<=c')(hP:∀ a b,P' a b->P a b):yT s S c' P':=
 ⟨h.safe,h.tells,h.log,aM h.few hc,h.kd,fun k j hl q=>h.sync k j hl (hP k j q)⟩
theorem yLk{s S:dW}{c:Nat}{P:Nat->Nat->Prop}(h:yT s S c P)(hA:nE s)(hs:Safe s)(hc:c+4<200){k:Nat}(hk:k<s.lines.length):yT s (eM S k) (c+4) (fun a b=>P a b\/a=k):=by
 have key:∀ m,m<=(s.line k).nodes.length->yT s ((List.range m).foldl (fD k) S) (c+m) (fun a b=>P a b\/(a=k/\b<m)):=by
  intro m
  induction m with
  | zero=>exact fun _=>h.mono (by omega) (fun a b q=>q.elim id (fun q=>by omega))
  | succ m ih=>
   intro hm;rw [aY,aX];have h4:=hs.nJ hk;refine ((ih (by omega)).step hA (by omega) hk (j:=m) (by omega)).mono (by omega) (fun a b q=>?_);rcases q with q | ⟨q1,q2⟩
   ·exact .inl (.inl q)
   ·by_cases e:b=m
    ·exact .inr ⟨q1,e⟩
    ·exact .inl (.inr ⟨q1,by omega⟩)
 have h4:=hs.nJ hk;unfold eM;rw [h.tells.mv.len];obtain ⟨T,hT⟩:∃ T,T=(List.range (s.line k).nodes.length).foldl (fD k) S:=⟨_,rfl⟩;have hq:=key (s.line k).nodes.length (aF _);rw [<-hT] at hq ⊢;refine ⟨hq.safe,hq.tells,hq.log,by have:=hq.few;omega,hq.kd,fun a b hl hp=>hq.sync a b hl ?_⟩;rcases hp with hp | hp
 ·exact .inl hp
 ·refine .inr ⟨hp,?_⟩;have:=hl.2;rw [hq.tells.mv.len,hp] at this;omega
theorem ySx{s:dW}(h:iv s)(hA:nE s)(hw:s.net.way=[]):Kn (jv s):=by
 have key:∀ m,m<=s.lines.length->yT s ((List.range m).foldl eM s) (4*m) (fun a b=>a<m):=by
  intro m
  induction m with
  | zero=>
   intro _;show yT s s _ _;exact ⟨h.safe,gb.refl s,fun _ _=>rfl,by rw [hw];simp,fun m hm=>(by rw [hw] at hm;cases hm),fun k j _ q=>by omega⟩
  | succ m ih=>
   intro hm;rw [aY,aX];have h5:=h.safe.ll.2;refine (yLk (ih (by omega)) hA h.safe (by omega) (k:=m) (by omega)).mono (by omega) (fun a b q=>?_);by_cases e:a=m
   ·exact .inr e
   ·exact .inl (by omega)
 have hq:=key s.lines.length (aF _);have h5:=h.safe.ll.2;unfold jv;obtain ⟨T,hT⟩:∃ T,T=(List.range s.lines.length).foldl eM s:=⟨_,rfl⟩;rw [<-hT] at hq ⊢;refine ⟨by have:=hq.few;omega,fun m hm h2=>?_,fun k j hl=>.inl (hq.sync k j hl (by rw [<-hq.tells.mv.ll];exact hl.1))⟩;have:=hq.kd m hm;omega
theorem yHm:∀ (n:Nat) {s:dW},iv s->nE s->Kn s\/Km s->kG (fO n s)=kG s->Kn (fO n s)\/Km (fO n s)
 | 0,s,_,_,hp,_=>hp
 | n+1,s,h,hA,hp,hk=>by
  unfold fO at hk ⊢;split
  ·exact hp
  ·rename_i e;rw [aE e] at hk;have hne:s.net.way≠[]:=fun q=>e (by rw [q];rfl);obtain ⟨a,b,c⟩:=h.fN hne;obtain ⟨a',b',_⟩:=UW n a;have k1:=b.mv.known;have k2:=b'.mv.known;exact yHm n a (hA.moves b.mv b.down) (yJt h hA hp hne (by omega)) (by omega)
def Us(s:dW):Prop:=∀ k j,k<s.lines.length->j<(s.line k).nodes.length->(eG s k j).log=(dy s k).log
theorem yLd{s:dW}(h:iv s)(hA:nE s)(hw:s.net.way=[])(hk:kG (od s)=kG s):Us (od s):=by
 obtain ⟨a,b,_,_,e⟩:=wk h;obtain ⟨a1,b1,_,_⟩:=h.tick;obtain ⟨a2,b2,_,_⟩:=zXq a1;have k1:=b1.mv.known;have k2:=b2.mv.known;have lK:kG (wQ (jv s))=kG (od s):=rfl;have hp:=yHm (oo (jv s)+1) a1 (hA.moves b1.mv b1.down) (.inl (ySx h hA hw)) (by show kG (wQ (jv s))=_;omega);have hp':Kn (od s)\/Km (od s):=hp;have hle:∀ k j,xi (od s) k j->(eG (od s) k j).log.length<=(eG (od s) k (j+1)).log.length:=fun k j hl=>by
  rcases hp' with q | ⟨_,_,_,m,hm,_⟩
  ·rcases q.link k j hl with ⟨m,hm,_⟩ | ⟨m,hm,_⟩ | q
   ·rw [e] at hm;cases hm
   ·rw [e] at hm;cases hm
   ·exact q
  ·rw [e] at hm;cases hm
 intro k j hk hj;have hL:=a.safe.line k hk;have hl0:∀ j,j<((od s).line k).nodes.length->(dy (od s) k).log.length<=(eG (od s) k j).log.length:=by
  intro j
  induction j with
  | zero=>exact fun _=>aF _
  | succ j ih=>exact fun q=>aM (ih (by omega)) (hle k j ⟨hk,q⟩)
 by_cases e0:j=0
 ·rw [e0];rfl
 ·have hpre:=(rR.1 hL.ord 0 j _ _ (by omega) (og (by omega)) (og hj)).2;exact hpre.eq_of_length (Nat.le_antisymm hpre.length_le (hl0 j hj))
theorem yOg{s:dW}(h:iv s)(hA:nE s):Us (kD s):=by
 obtain ⟨S,hS,hG,he,hk⟩:=yRz h;rw [he];obtain ⟨a1,b1,_,_,e1⟩:=wk hS;obtain ⟨a2,b2,_,_,e2⟩:=wk a1;obtain ⟨a3,b3,_,_,e3⟩:=wk a2;obtain ⟨a4,b4,_,_,e4⟩:=wk a3;have hA3:=(((hA.moves hG.mv hG.down).moves b1.mv b1.down).moves b2.mv b2.down).moves b3.mv b3.down;have k1:=b1.mv.known;have k2:=b2.mv.known;have k3:=b3.mv.known;have k4:=b4.mv.known;unfold ff at hk;exact yLd a3 hA3 e3 (by omega)
structure wP(s:dW):Prop where
 sh:∀ k,k<dk s->∀ c∈jY s k,c.kind=2->(s.tx c.tx.toNat).state=2->(s.tx c.tx.toNat).ats.getD k 0=2
 de:∀ c∈jY s (dk s),(s.tx c.tx.toNat).state=3
theorem wP.of{s s':dW}(h:wP s)(hS:Safe s)(hl:s'.lines.length=s.lines.length)(hh:∀ k,k<s.lines.length->jY s' k=jY s k)(hf:km s s')(hx:∀ id,1<=id->id<=s.dV.length->(s'.tx id).state=2->(s.tx id).state=1\/s'.tx id=s.tx id):wP s':=by
 have hd:dk s'=dk s:=by unfold dk;rw [hl]
 have h2:=hS.ll.1;have pw:dk s<s.lines.length:=by unfold dk;omega
 refine ⟨fun k hk c hc h2' hst=>?_,fun c hc=>?_⟩
 ·rw [hd] at hk;rw [hh k (by omega)] at hc;have q:=(hS.log k (by omega)).all c (As k c hc);have hlo:=q.lo;have hhi:=q.hi;rcases hx c.tx.toNat (by omega) (by omega) hst with e | e
  ·exfalso;rcases q.jE (by omega) with p | p | p
   ·exact p.2.1 e
   ·omega
   ·omega
  ·rw [e] at hst ⊢;exact h.sh k hk c hc h2' hst
 ·rw [hd,hh _ pw] at hc;have q:=(hS.log _ pw).all c (As _ c hc);have hlo:=q.lo;have hhi:=q.hi;have e:=h.de c hc;rw [hf.fin c.tx.toNat (by omega) (by omega) (by omega)];exact e
structure kz(s s':dW):Prop where
 hi:wP s->wP s'
 tl:s'.dV.length=s.dV.length
 ends:∀ id,1<=id->id<=s.dV.length->(s'.tx id).state=(s.tx id).state\/((s.tx id).state=2/\(s'.tx id).state=3)
theorem kz.refl(s:dW):kz s s:=⟨id,rfl,fun _ _ _=>.inl rfl⟩
theorem kz.trans{a b c:dW}(h:kz a b)(k:kz b c):kz a c:=by
 refine ⟨fun q=>k.hi (h.hi q),k.tl.trans h.tl,fun id h1 h2=>?_⟩;rcases h.ends id h1 h2 with e | ⟨e1,e2⟩
 ·rcases k.ends id h1 (by rw [h.tl];exact h2) with f | ⟨f1,f2⟩
  ·exact .inl (f.trans e)
  ·exact .inr ⟨by rw [<-e];exact f1,f2⟩
 ·rcases k.ends id h1 (by rw [h.tl];exact h2) with f | ⟨f1,f2⟩
  ·exact .inr ⟨e1,by rw [f];exact e2⟩
  ·omega
theorem yCf{s s':dW}(hS:Safe s)(h:gb s s'){k:Nat}(hk:k<s.lines.length):jY s' k=jY s k:=by
 have hp:=bH.2 (hS.line k hk).ne;have e:=(h.mv.at (k:=k) (j:=0) hp).2;have e':(dy s k).log <+: (dy s' k).log:=e;obtain ⟨t,ht⟩:=e';unfold jY;rw [h.heard,<-ht,bV];exact (hS.line k hk).heard _ (hS.head_mem hk)
theorem gb.sound{s s':dW}(h:gb s s')(hS:Safe s):kz s s':=by
 have e:∀ i,s'.tx i=s.tx i:=fun i=>by unfold dW.tx;rw [h.dV]
 exact ⟨fun q=>q.of hS h.mv.ll (fun k hk=>yCf hS h hk) (km.of h.dV) (fun id _ _ _=>.inr (e id)),by rw [h.dV],fun id _ _=>.inl (by rw [e])⟩
theorem yFd{s:dW}(h:Safe s)(hH:Held s){k:Nat}(hk:k<s.lines.length){c:dt}(hc:∀ n∈(s.line k).nodes,n.log[(s.line k).heard]?=some c):kz s (lk k s c):=by
 have BN:=h.head_mem hk;have hc0:=hc _ BN;have hcm:c∈(dy s k).log:=aC hc0;have q:=(h.log k hk).all c hcm;have hlo:=q.lo;have hhi:=q.hi;obtain ⟨id,hid⟩:∃ id:Nat,c.tx=id:=⟨c.tx.toNat,by omega⟩;have h1:1<=id:=by omega
 have h2:id<=s.dV.length:=by omega
 have hx:=h.tx id h1 h2;have hT:=gB.follow (bump s k) k c;have Xr:dk (bump s k)=dk s:=by unfold dk;rw [xx]
 have Rc:∀ i,i<s.lines.length->jY (lk k s c) i=if i=k then jY s k++[c] else jY s i:=fun i hi=>by
  rw [Iw s hk,Le hT.l];unfold jY;rw [JA s hk,FJ s hk];split
  ·rename_i e;subst e;exact qP hc0
  ·rfl
 have hll:(lk k s c).lines.length=s.lines.length:=by rw [Iw s hk,hT.l,xx]
 have hd:dk (lk k s c)=dk s:=by unfold dk;rw [hll]
 have hl2:=h.ll.1;have pw:dk s<s.lines.length:=by unfold dk;omega
 -- what becomes of the transactions
 have htx:∀ j,1<=j->j<=s.dV.length->(lk k s c).tx j=if j=id then (if k=dk s then { s.tx id with state:=3,writes:=[],time:=c.time } else if c.kind=2 then { s.tx id with ats:=(s.tx id).ats.set k 2 } else s.tx id) else s.tx j:=fun j j1 j2=>by
  rw [Iw s hk];unfold lW;rw [Xr,hid,aS];have hb:∀ i,(bump s k).tx i=s.tx i:=fun _=>rfl;have hbl:(bump s k).dV.length=s.dV.length:=rfl;by_cases e:k=dk s
  ·rw [aJ e,aJ e];unfold nr;show (dY (dY (bump s k) id _) id _).tx j=_;rw [mq _ id _ j1 h1 (by simp [dY,hbl,h2]),mq _ id _ j1 h1 (by rw [hbl];exact h2),mq _ id _ h1 h1 (by rw [hbl];exact h2)];by_cases ej:j=id
   ·rw [aJ ej,aJ ej,aJ rfl];rfl
   ·rw [aE ej,aE ej,aE ej];rfl
  ·rw [aE e,aE e];by_cases e2:c.kind=2
   ·rw [aJ e2,aJ e2,mq _ id _ j1 h1 (by rw [hbl];exact h2)];rfl
   ·rw [aE e2,aE e2];split
    ·rename_i ej;rw [ej];rfl
    ·rfl
 have hlen:(lk k s c).dV.length=s.dV.length:=by rw [Iw s hk,hT.len];rfl
 refine ⟨fun hI=>⟨fun i hi c' hc' k2 hst=>?_,fun c' hc'=>?_⟩,hlen,fun j j1 j2=>?_⟩
 ·rw [hd] at hi;rw [Rc i (by omega)] at hc';have Xx:c'∈(dy s i).log:=by
   split at hc'
   ·rename_i e;subst e;rcases aL.1 hc' with p | p
    ·exact As _ _ p
    ·simp at p;rw [p];exact hcm
   ·exact As _ _ hc'
  have q':=(h.log i (by omega)).all c' Xx;have XX:=q'.lo;have Xh:=q'.hi;rw [htx c'.tx.toNat (by omega) (by omega)] at hst ⊢;by_cases ej:c'.tx.toNat=id
  ·rw [aJ ej] at hst ⊢;by_cases e:k=dk s
   ·rw [aJ e] at hst;simp at hst
   ·rw [aE e] at hst ⊢;by_cases e2:c.kind=2
    ·rw [aJ e2] at hst ⊢;show ((s.tx id).ats.set k 2).getD i 0=2;rw [ny,hx.len];split
     ·rfl
     ·rename_i ne;have hik:i≠k:=fun q=>ne ⟨q,by omega⟩;rw [aE hik] at hc';have:=hI.sh i hi c' hc' k2 (by rw [ej];exact hst);rw [ej] at this;exact this
    ·rw [aE e2] at hst ⊢;have hc2:c'∈jY s i:=by
      split at hc'
      ·rename_i e3;subst e3;rcases aL.1 hc' with p | p
       ·exact p
       ·simp at p;rw [p] at k2;exact absurd k2 e2
      ·exact hc'
     have:=hI.sh i hi c' hc2 k2 (by rw [ej];exact hst);rw [ej] at this;exact this
  ·rw [aE ej] at hst ⊢;have hc2:c'∈jY s i:=by
    split at hc'
    ·rename_i e3;subst e3;rcases aL.1 hc' with p | p
     ·exact p
     ·simp at p;rw [p,hid] at ej;simp at ej
    ·exact hc'
   exact hI.sh i hi c' hc2 k2 hst
 ·rw [hd] at hc';rw [Rc _ pw] at hc';have key:c'∈jY s (dk s)->((lk k s c).tx c'.tx.toNat).state=3:=fun p=>by
   have q':=(h.log _ pw).all c' (As _ _ p);have XX:=q'.lo;have Xh:=q'.hi;have e3:=hI.de c' p;rw [htx c'.tx.toNat (by omega) (by omega)];by_cases ej:c'.tx.toNat=id
   ·rw [aJ ej];rw [ej] at e3;split
    ·rfl
    ·split
     ·exact e3
     ·exact e3
   ·rw [aE ej];exact e3
  split at hc'
  ·rename_i e;rcases aL.1 hc' with p | p
   ·exact key (by rw [e];exact p)
   ·simp at p;rw [p,hid,aS,htx id h1 h2,aJ rfl,aJ e.symm]
  ·exact key hc'
 ·rw [htx j j1 j2];by_cases ej:j=id
  ·subst ej;rw [aJ rfl];by_cases e:k=dk s
   ·rw [aJ e];obtain ⟨_,_,d3,_⟩:=q.dec e;rw [hid,aS] at d3;rcases d3 with d3 | d3
    ·exact .inr ⟨d3,rfl⟩
    ·exact .inl d3.symm
   ·rw [aE e];split
    ·exact .inl rfl
    ·exact .inl rfl
  ·rw [aE ej];exact .inl rfl
theorem zUj{k:Nat}:∀ (cs:List dt) {s:dW},Safe s->Held s->k<s.lines.length->(∀ n∈(s.line k).nodes,∃ r,n.log.drop (s.line k).heard=cs++r)->kz s (cs.foldl (lk k) s)
 | [],s,h,hH,_,_=>kz.refl s
 | c :: cs,s,h,hH,hk,hd=>by
  have hc:∀ n∈(s.line k).nodes,n.log[(s.line k).heard]?=some c:=fun n hn=>by
   obtain ⟨r,hr⟩:=hd n hn;have:=ae (fun l=>l[0]?) hr;simpa using this
  obtain ⟨q,hq⟩:=UB h hH hk hc;refine (yFd h hH hk hc).trans (zUj cs q.safe q.held (by rw [q.same.ll];exact hk) fun n hn=>?_);rw [q.same.nodes] at hn;obtain ⟨r,hr⟩:=hd n hn;refine ⟨r,?_⟩;rw [hq,<-List.drop_drop,hr];rfl
theorem yCg{s:dW}(h:Safe s)(hH:Held s){k:Nat}(hk:k<s.lines.length):kz s (gX s k):=by
 have hL:=h.line k hk;refine zUj (kX s k) h hH hk fun n hn=>?_;obtain ⟨r,hr⟩:=hL.last ⟨0,0,[],[],0⟩ hn;refine ⟨r,?_⟩;rw [<-hr];unfold kX pE;rw [dB];exact hL.heard _ (LW hL.ne _)
theorem yFc{s:dW}(h:Safe s)(hH:Held s):kz s (oI s):=by
 have key:∀ m,m<=s.lines.length->qM s ((List.range m).foldl gX s)/\kz s ((List.range m).foldl gX s):=by
  intro m
  induction m with
  | zero=>exact fun _=>⟨qM.refl h hH,kz.refl s⟩
  | succ m ih=>
   intro hm;rw [aY,aX];obtain ⟨a,b⟩:=ih (by omega);have hk:m<((List.range m).foldl gX s).lines.length:=by rw [a.same.ll];omega
   exact ⟨a.trans (UX a.safe a.held hk).1,b.trans (yCg a.safe a.held hk)⟩
 exact (key _ (aF _)).2
theorem Ue{s:dW}(h:Safe s):kz s (jd s):=(sV h).2.1.sound h
theorem zPg:∀ (n:Nat) {s:dW},Safe s->Held s->kz s (ez n s)
 | 0,s,_,_=>kz.refl s
 | n+1,s,h,hH=>by
  unfold ez;split
  ·have a:=(JB h hH).1;obtain ⟨b,_⟩:=FO h hH;exact ((yFc h hH).trans (Ue a.safe)).trans (zPg n b.safe b.held)
  ·exact kz.refl s
theorem Um{s:dW}(h:Safe s)(hH:Held s):kz s (mH s):=zPg _ h hH
theorem kz.net{s:dW}(net:ey):kz s { s with net:=net }:=⟨fun h=>⟨h.sh,h.de⟩,rfl,fun _ _ _=>.inl rfl⟩
theorem zQg{s:dW}(h:Safe s)(hH:Held s)(k:Nat):kz s (im s k):=by
 unfold im
 cases hm:s.net.way[k]? with
 | none=>exact kz.refl s
 | some m=>
  have ht:Safe (fH s k):=h.way fun m' hm'=>bb hm';have hT:kz s (fH s k):=kz.net _;simp only
  cases hn:mY s m.to with
  | none=>exact hT
  | some kj=>
   obtain ⟨kk,j⟩:=kj;obtain ⟨hk,n,q1,q2,q3⟩:=Av hn;have hm':yR (fH s k) m:=h.msg m (aC hm);have hS:=ht.step (k:=kk) (j:=j) (n:=n) hk q1 hm';have lO:=gb.step (s:=fH s k) hk q1 q2 m;have BS:Held (lD (fH s k) kk j m):=(hH.lines (s':=fH s k) rfl rfl).lines lO.keys lO.dV;exact (hT.trans (lO.sound ht)).trans (Um hS BS)
theorem zWf{s:dW}(h:Safe s):kz s (jv s):=(Lp h).2.sound h
theorem zVa:∀ (n:Nat) {s:dW},iv s->kz s (fO n s)
 | 0,s,_=>kz.refl s
 | n+1,s,h=>by
  unfold fO;split
  ·exact kz.refl s
  ·rename_i e;obtain ⟨a,_,_⟩:=h.fN (fun q=>e (by rw [q];rfl));exact (zQg h.safe h.held 0).trans (zVa n a)
theorem Ql{s:dW}(h:iv s):kz s (od s):=(zWf h.safe).trans (zVa _ h.tick.1)
theorem zVe{s:dW}(h:iv s):kz s (ff s):=by
 obtain ⟨a1,_⟩:=wk h;obtain ⟨a2,_⟩:=wk a1;obtain ⟨a3,_⟩:=wk a2;exact (((Ql h).trans (Ql a1)).trans (Ql a2)).trans (Ql a3)
theorem zVd:∀ (n:Nat) {s:dW},iv s->kz s (gd n s)
 | 0,s,_=>kz.refl s
 | n+1,s,h=>by
  unfold gd;split
  ·exact zVe h
  ·exact (zVe h).trans (zVd n (Lk h).1)
theorem Ty{s:dW}(h:iv s):kz s (kD s):=zVd _ h
theorem yFl{S:dW}(hR:Rest S)(hA:nE S)(hI:wP S)(hE:Us S){id:Nat}(h1:1<=id)(h2:id<=S.dV.length):(S.tx id).state≠2:=fun hst=>by
 have a:=hR.c;have hx:=a.safe.tx id h1 h2;have hl2:=a.safe.ll.1;have pw:dk S<S.lines.length:=by unfold dk;omega
 -- all of a head's log was heard
 have hall:∀ k,k<S.lines.length->jY S k=(dy S k).log:=fun k hk=>by
  have hne:=(a.safe.line k hk).ne;have hp:=bH.2 hne;have e1:=(TD hne).1 (Ak.1 a.none k hk);rw [hE k ((S.line k).nodes.length - 1) hk (by omega)] at e1;unfold jY;exact ba e1
 have oR:∀ k,k<S.lines.length->fs S (dy S k)=true:=fun k hk=>hA.lives k hk _ (a.safe.head_mem hk);have Ms:∀ k,k<dk S->(S.tx id).ats.getD k 0≠0->(S.tx id).ats.getD k 0=2:=fun k hk hz=>by
  have Jo:nS (S.tx id) (decide (k=dk S)) k=some 2:=by
   unfold nS;rw [aP (by omega)];simp only [cA,if_false];rw [aE hz,aJ hst]
  obtain ⟨c,hc,e1,e2⟩:=QO.1 (hR.told k (by omega) (oR k (by omega))) id h1 h2 2 Jo;rw [<-hall k (by omega)] at hc;have:=hI.sh k hk c hc e1 (by rw [e2];simpa using hst);rw [e2] at this;simpa using this
 have GW:tj (S.tx id)=true:=FK.2 fun k q=>by
  by_cases hk:k<dk S
  ·have:=Ms k hk (by omega);omega
  ·by_cases e:k=dk S
   ·rw [e,hx.dec] at q;omega
   ·have:(S.tx id).ats.length<=k:=by rw [hx.len];unfold dk at hk e;omega
    rw [aH,aj this] at q;simp at q
 have Jo:nS (S.tx id) (decide (dk S=dk S)) (dk S)=some 3:=by
  unfold nS;rw [aQ rfl];simp only [if_true];rw [aJ ⟨hst,GW⟩]
 obtain ⟨c,hc,e1,e2⟩:=QO.1 (hR.told _ pw (oR _ pw)) id h1 h2 3 Jo;rw [<-hall _ pw] at hc;have:=hI.de c hc;rw [e2] at this;simp at this;omega
theorem zTs{s:dW}(h:Rest s)(hA:nE s)(hI:wP s){id:Nat}(h1:1<=id)(h2:id<=s.dV.length):((kD s).tx id).state≠2:=by
 obtain ⟨a,b⟩:=Dd h.c;exact yFl h.calm (hA.moves b.mv b.down) ((Ty h.c).hi hI) (yOg h.c hA) h1 (by rw [b.mv.tl];exact h2)
structure gY(s:dW):Prop where
 heard:wP s
 some:∀ k,k<s.lines.length->∃ n∈(s.line k).nodes,fs s n=true
 down:∀ x∈s.net.down,x∈s.dead
theorem gY.of{s s':dW}(h:gY s)(hS:Safe s)(hl:s'.lines=s.lines)(hd:s'.dead=s.dead)(hn:s'.net.down=s.net.down)(hf:km s s')(hx:∀ id,1<=id->id<=s.dV.length->(s'.tx id).state=2->(s.tx id).state=1\/s'.tx id=s.tx id):gY s':=by
 refine ⟨h.heard.of hS (by rw [hl]) (fun k _=>Le hl k) hf hx,fun k hk=>?_,by rw [hd,hn];exact h.down⟩;rw [hl] at hk;obtain ⟨n,hn,hv⟩:=h.some k hk;refine ⟨n,?_,by rw [Io hd];exact hv⟩;unfold dW.line at hn ⊢;rw [hl];exact hn
theorem gY.nx{s s':dW}(h:gY s)(hm:kp s s')(hn:s'.net.down=s.net.down)(hs:kz s s'):gY s':=by
 refine ⟨hs.hi h.heard,fun k hk=>?_,by rw [hm.dead,hn];exact h.down⟩;rw [hm.ll] at hk;obtain ⟨n,hn,hv⟩:=h.some k hk;obtain ⟨j,hj⟩:=aN hn;obtain ⟨n',e1,e2,_⟩:=hm.node k j n hj;refine ⟨n',aC e1,?_⟩;unfold fs at hv ⊢;rw [hm.dead,e2.id];exact hv
theorem gY.begin{s:dW}(h:gY s)(hr:Rest s)(hl:s.dV.length<60):gY (nC s):=
 h.of hr.c.safe rfl rfl rfl (zXt hr.c.safe hr.c.held hl).fin (fun id h1 h2 _=>.inr (wZ s h1 h2))
theorem gY.locked{s r:dW}{id k:Nat}(h:gY s)(hS:Safe s)(ho:(s.tx id).state=1)(hg:FW s id k r):gY r:=by
 refine h.of hS hg.same.l hg.same.d (by rw [hg.same.net]) (hg.CK hS ho).fin fun j j1 j2 hst=>?_;by_cases e:j=id
 ·left;rw [e];exact ho
 ·rcases hg.cut j j1 e with q | ⟨q1,_,_⟩
  ·exact .inr q
  ·exact .inl q1
theorem gY.get{s:dW}(h:gY s)(hr:Rest s)(id:Int)(key:ByteArray):gY (fL s id key).1:=by
 unfold fL;split
 ·exact h
 rename_i e1;obtain ⟨i,rfl,h1,h2,ho⟩:=nY (nu (by simpa using e1)).1;have q:=h.locked hr.c.safe ho (tr hr.c.safe hr.c.held h1 h2 ho key (nu (by simpa using e1)).2.1 (mode:=1) (.inl rfl));simp only;split
 ·exact q
 ·exact q
theorem gY.put{s:dW}(h:gY s)(hr:Rest s)(id:Int)(p:fR):gY (eZ s id p).1:=by
 unfold eZ;split
 ·exact h
 split
 ·exact h
 rename_i e1;obtain ⟨i,rfl,h1,h2,ho⟩:=nY (nu (by simpa using e1)).1;rw [aS];split
 ·exact h
 have q:=tr hr.c.safe hr.c.held h1 h2 ho p.key (nu (by simpa using e1)).2.1 (mode:=2) (.inr rfl);have qR:=h.locked hr.c.safe ho q;simp only;split
 ·exact qR
 ·generalize (gC s i p.key 2).1=r at q qR;have hl:i<=r.dV.length:=by rw [q.same.len];exact h2
  have hw:(lV (r.tx i) p).state=1:=by
   unfold lV;split
   ·exact q.st
   ·exact q.st
  refine qR.of q.safe rfl rfl rfl ⟨by rw [kT];exact aF _,fun j j1 j2 j3=>?_⟩ fun j j1 j2 hst=>?_
  ·rw [mq r i _ j1 h1 hl];split
   ·rename_i e;rw [e,q.st] at j3;omega
   ·rfl
  ·rw [mq r i _ j1 h1 hl] at hst ⊢;split
   ·rename_i e;left;rw [e];exact q.st
   ·exact .inr rfl
theorem gY.drop{s:dW}(h:gY s)(hr:Rest s)(id:Int):gY (pC s id).1:=by
 unfold pC;split
 ·exact h
 ·rename_i e;obtain ⟨i,rfl,h1,h2,ho⟩:=nY (by simpa using e);rw [aS];have hc:=Cut.abort h1 h2 ho;refine h.of hr.c.safe (CC s i) (gB.abort s i).d (by show (gO s i).net.down=_;rw [(gB.abort s i).net]) (km.abort h1 h2 (by omega)) fun j j1 j2 _=>?_;rcases hc.tx j j1 with q | ⟨q,_,_⟩
  ·exact .inr q
  ·exact .inl q
theorem gY.told{s:dW}(h:gY s)(hS:Safe s)(hH:Held s):gY (mH (jd s)):=by
 obtain ⟨b,c,_⟩:=sV hS;have q:=c.rV b hH;exact (h.nx c.mv c.down (Ue hS)).nx (wm b q.held).1.mv (wm b q.held).1.down (Um b q.held)
theorem gY.end_{s:dW}(h:gY s)(hr:Rest s)(id:Int):gY (fa s id).1:=by
 unfold fa;split
 ·exact h
 ·rename_i e;split
  ·exact h
  ·rename_i e2;obtain ⟨i,rfl,h1,h2,ho⟩:=nY (by simpa using e);rw [aS];have hS:Safe (dY s i { s.tx i with state:=2 }):=hr.c.safe.write (ws:=(s.tx i).writes) h1 h2 ho (hr.c.safe.tx i h1 h2).few (.inr rfl);have uy:Held (dY s i { s.tx i with state:=2 }):=hr.c.held.ending h1 h2 rfl ho (Dj (by simpa using e2));refine gY.told (h.of hr.c.safe rfl rfl rfl ⟨by rw [kT];exact aF _,fun j j1 j2 j3=>?_⟩ fun j j1 j2 hst=>?_) hS uy
   ·rw [mq s i _ j1 h1 h2];split
    ·rename_i e;rw [e] at j3;omega
    ·rfl
   ·by_cases e:j=i
    ·left;rw [e];exact ho
    ·right;rw [mq s i _ j1 h1 h2,aE e]
theorem gY.net{s:dW}(h:gY s){net:ey}(hn:net.down=s.net.down):gY { s with net:=net }:=⟨⟨h.heard.sh,h.heard.de⟩,h.some,by show ∀ x∈net.down,x∈s.dead;rw [hn];exact h.down⟩
theorem gY.pj{s:dW}(h:gY s)(k:Int):gY (ob s k).1:=by
 unfold ob;split
 ·exact h.net rfl
 ·exact h
theorem gY.twice{s:dW}(h:gY s)(k:Int):gY (nD s k).1:=by
 unfold nD;split
 ·split
  ·exact h.net (UQ _ _)
  ·exact h
 ·exact h
theorem gY.fN{s:dW}(h:gY s)(hr:Rest s)(i:Nat):gY (im s i):=by
 have q:=JJ hr.c.safe hr.c.held i;exact h.nx q.mv q.down (zQg hr.c.safe hr.c.held i)
theorem gY.tick{s:dW}(h:gY s)(hr:Rest s):gY (jv s):=by
 have q:=hr.c.tick.2.1;exact h.nx q.mv q.down (zWf hr.c.safe)
theorem gY.calm{s:dW}(h:gY s)(hr:Rest s):gY (kD s):=by
 have q:=(Dd hr.c).2;exact h.nx q.mv q.down (Ty hr.c)
theorem gY.fail{s:dW}(h:gY s)(hS:Safe s){k j:Nat}(hj:j<10)(h2:1<(fM s k).length):gY (oa s (10*k+j:Nat)).1:=by
 unfold oa;split
 ·exact h
 ·refine ⟨⟨h.heard.sh,h.heard.de⟩,fun i hi=>?_,fun x hx=>?_⟩
  ·have hi':i<s.lines.length:=hi;by_cases e:i=k
   ·subst e;have hP:=(hS.line i hi').ord;have hsub:(fM s i).Sublist (s.line i).nodes:=bQ;have KA:=hP.sublist hsub;have hg0:(fM s i)[0]?=.some ((fM s i)[0]'(by omega)):=aA _;have hg1:(fM s i)[1]?=.some ((fM s i)[1]'(by omega)):=aA _;have hlt:=(rR.1 KA 0 1 _ _ (by omega) hg0 hg1).1;have key:∀ n∈fM s i,n.id≠((10*i+j:Nat):Int)->∃ n∈(s.line i).nodes,fs { s with dead:=s.dead++[((10*i+j:Nat):Int)],net:=Bf s.net ((10*i+j:Nat):Int) } n=true:=fun n hn hne=>by
     have hf:=al.1 hn;refine ⟨n,hf.1,?_⟩;have hv:=hf.2;unfold fs at hv ⊢;simp only [cr,bT] at hv ⊢;intro q;rcases aL.1 q with q | q
     ·exact hv q
     ·simp at q;omega
    by_cases e2:((fM s i)[0]'(by omega)).id=((10*i+j:Nat):Int)
    ·exact key _ (dA _) (by omega:((fM s i)[1]'(by omega)).id≠_)
    ·exact key _ (dA _) e2
   ·obtain ⟨n,hn,hv⟩:=h.some i hi';refine ⟨n,hn,?_⟩;have hr:=(hS.line i hi').nf n hn;unfold fs at hv ⊢;simp only [cr,bT] at hv ⊢;intro q;rcases aL.1 q with q | q
    ·exact hv q
    ·simp at q;omega
  ·have hx':x∈s.net.down++[((10*k+j:Nat):Int)]:=hx;show x∈s.dead++[((10*k+j:Nat):Int)];rcases aL.1 hx' with q | q
   ·exact bP _ (h.down x q)
   ·exact List.mem_append_right _ q
theorem yJk{s:dW}(k:Nat){j:Nat}(hj:1<=j):(pF s k).tx j=s.tx j\/((pF s k).tx j).state=4:=by
 unfold pF;have key:∀ (is:List Nat) (S:dW),(S.tx j=s.tx j\/(S.tx j).state=4)->((is.foldl (fun h i=>if kE h k i then gO h (i+1) else h) S).tx j=s.tx j\/((is.foldl (fun h i=>if kE h k i then gO h (i+1) else h) S).tx j).state=4):=by
  intro is
  induction is with
  | nil=>exact fun S q=>q
  | cons i is ih=>
   intro S q;rw [cM];refine ih _ ?_;by_cases hl:kE S k i=true
   ·rw [aJ hl];by_cases e:j=i+1
    ·by_cases hlen:i+1<=S.dV.length
     ·right;rw [e];unfold gO nr;split
      ·show ((dY (dY S (i+1) _) (i+1) _).tx (i+1)).state=4;rw [mq _ (i+1) _ (by omega) (by omega) (by rw [kT];exact hlen),aJ rfl]
      ·show ((dY S (i+1) _).tx (i+1)).state=4;rw [mq _ (i+1) _ (by omega) (by omega) hlen,aJ rfl]
     ·have:(gO S (i+1)).tx j=S.tx j:=by
       have h1:S.tx j=⟨0,[],[],0⟩:=by unfold dW.tx;rw [aH,aj (by omega)];rfl
       have h2:(gO S (i+1)).tx j=⟨0,[],[],0⟩:=by unfold dW.tx;rw [aH,aj (by rw [Iz];omega)];rfl
       rw [h1,h2]
      rw [this];exact q
    ·rw [Dk S (by omega)];exact q
   ·rw [aE hl];exact q
 exact key _ s (.inl rfl)
theorem wP.eK{s:dW}(h:wP s)(hS:Safe s)(hH:Held s){k:Nat}(hk:k<s.lines.length):wP (eK s k):=by
 have hA:=(UA hS hH hk).1;revert hA;unfold Go.Proofs.YtmaiggbnceejiaaGreatDoor.eK;split
 ·exact fun _=>h
 ·rename_i e;intro hA;obtain ⟨e1,e2⟩:=JF e;have hF:Safe (eW s k):=hS.eW hk e1 e2;have BX:Held (eW s k):=hH.lines rfl rfl;obtain ⟨_,b⟩:=Qs hF BX (k:=k) (by rw [sH];exact hk);have hfx:=(hS.line k hk).fix (ns:=fM s k) bQ e1 e2;refine h.of hS (by show (pF (eW s k) k).lines.length=_;rw [b.l,sH]) (fun i hi=>?_) hA.fin (fun id h1 h2 hst=>?_)
  ·show jY (pF (eW s k) k) i=_;rw [Le b.l];by_cases ei:i=k
   ·subst ei;have hne:((eW s i).line i).nodes≠[]:=(hF.line i (by rw [sH];exact hk)).ne;have hm:=hF.head_mem (k:=i) (by rw [sH];exact hk);rw [Bz s hk,aJ rfl,JM] at hm;obtain ⟨x,hx,EN⟩:=ag.1 hm;have hxl:=(hfx.2 x hx).2;unfold jY;rw [<-EN,hxl,Bz s hk,aJ rfl,JM];exact (hS.line i hk).take (al.1 hx).1 (hS.head_mem hk)
   ·unfold jY dy;rw [Bz s hk,aE ei]
  ·rcases yJk (s:=eW s k) k h1 with q | q
   ·exact .inr q
   ·have hst':((pF (eW s k) k).tx id).state=2:=hst;omega
theorem yCp{s:dW}(h:wP s)(hS:Safe s)(hH:Held s):∀ m,m<=s.lines.length->wP ((List.range m).foldl eK s):=by
 intro m
 induction m with
 | zero=>exact fun _=>h
 | succ m ih=>
  intro hm;rw [aY,aX];obtain ⟨a,_⟩:=Ax hS hH m (by omega);exact (ih (by omega)).eK a.safe a.held (by rw [a.ll];omega)
theorem gY.fixed{s:dW}(h:gY s)(hr:Rest s):gY ((List.range s.lines.length).foldl eK s)/\nE ((List.range s.lines.length).foldl eK s):=by
 have hS:=hr.c.safe;obtain ⟨a,b,b2,c,d,e,f⟩:=Ax hS hr.c.held s.lines.length (aF _);have hI:=yCp h.heard hS hr.c.held s.lines.length (aF _);generalize (List.range s.lines.length).foldl eK s=S at a b b2 c d e f hI;have hA:nE S:=by
  refine ⟨fun k hk n hn=>?_,by rw [b,b2];exact h.down⟩;rw [a.ll] at hk;rw [Io b];rcases e k hk with ⟨q1,q2⟩ | q
  ·obtain ⟨n0,hn0,hv0⟩:=h.some k hk;have hne:fM s k≠[]:=fun q=>by
    have:n0∈fM s k:=al.2 ⟨hn0,hv0⟩;rw [q] at this;cases this
   have hlen:(fM s k).length=(s.line k).nodes.length:=q2.resolve_left (fun q=>hne (aT q));rw [q1] at hn;unfold fM at hlen;exact List.length_filter_eq_length_iff.1 hlen n hn
  ·exact q n hn
 refine ⟨⟨hI,fun k hk=>?_,hA.down⟩,hA⟩;have hm:=a.safe.head_mem hk;exact ⟨_,hm,hA.lives k hk _ hm⟩
theorem gY.fix{s:dW}(h:gY s)(hr:Rest s):gY (jz s)/\nE (jz s):=by
 obtain ⟨p,q⟩:=h.fixed hr;obtain ⟨a,-⟩:=Ax hr.c.safe hr.c.held s.lines.length (aF _);unfold jz;refine ⟨p.told a.safe a.held,?_⟩;obtain ⟨b,c,_⟩:=sV a.safe;have t:=c.rV b a.held;exact (q.moves c.mv c.down).moves (wm b t.held).1.mv (wm b t.held).1.down
def nT(k:eh)(x m:Int):Prop:=∃ c,(c∈k.held\/c∈k.waits)/\c.tx=x/\m<=c.mode
theorem Tm{x m:Int}:∀ (q held kept:List dg),jl held->jl (kept++q)->(∀ c∈kept++q,∀ o∈held,o.tx=c.tx->o.mode<c.mode)->(∃ c,(c∈held\/c∈kept++q)/\c.tx=x/\m<=c.mode)->∃ c,(c∈(iw held kept q).1\/c∈(iw held kept q).2.1)/\c.tx=x/\m<=c.mode
 | [],held,kept,_,_,_,h=>by simpa [iw] using h
 | c :: q,held,kept,he,hk,hw,h=>by
  unfold iw;split
  ·have hk':jl (kept++q):=List.Pairwise.sublist (List.Sublist.append_left (List.sublist_cons_self c q) kept) hk;have hsub:∀ d,d∈kept++q->d∈kept++c :: q:=fun d hd=>by
    rcases aL.1 hd with p | p
    ·exact bP _ p
    ·exact List.mem_append_right _ (ay _ p)
   have hcm:c∈kept++c :: q:=by simp
   refine Tm q (jM held c) kept (By he c) hk' (fun d hd o ho e=>?_) ?_
   ·rcases (lp he c o).1 ho with rfl | ⟨p,_⟩
    ·exfalso;have:=yRo hk hcm (hsub d hd) e;subst this;have hp:=bW.1 hk;rcases aL.1 hd with p | p
     ·have:=hp.2.2 o p o (by simp);omega
     ·have:=bO hp.2.1 p;omega
    ·exact hw d (hsub d hd) o p e
   ·obtain ⟨d,hd,e1,e2⟩:=h;rcases hd with hd | hd
    ·by_cases e:d.tx=c.tx
     ·exact ⟨c,.inl ((lp he c c).2 (.inl rfl)),by omega,by have:=hw c hcm d hd e;omega⟩
     ·exact ⟨d,.inl ((lp he c d).2 (.inr ⟨hd,e⟩)),e1,e2⟩
    ·rcases aL.1 hd with p | p
     ·exact ⟨d,.inr (bP _ p),e1,e2⟩
     ·rcases bA.1 p with p | p
      ·exact ⟨c,.inl ((lp he c c).2 (.inl rfl)),by rw [<-p];exact e1,by rw [<-p];exact e2⟩
      ·exact ⟨d,.inr (List.mem_append_right _ p),e1,e2⟩
  ·have hl:(kept++[c])++q=kept++c :: q:=by simp
   exact Tm q held (kept++[c]) he (by rw [hl];exact hk) (by rw [hl];exact hw) (by rw [hl];exact h)
theorem nT.rel{s:fv}{k:ByteArray}{x t m:Int}(hk:mW (s k))(h:nT (s k) x m)(hne:x≠t):nT (gI s t k) x m:=by
 unfold gI;split
 ·obtain ⟨c,hc,e1,e2⟩:=h;refine Tm _ _ _ (Aw hk.held t) (Aw hk.waits t) (fun d hd o ho e=>?_) ⟨c,?_,e1,e2⟩
  ·exact hk.wants d (nZ.1 hd).1 o (nZ.1 ho).1 e
  ·exact hc.imp (fun p=>nZ.2 ⟨p,by omega⟩) (fun p=>nZ.2 ⟨p,by omega⟩)
 ·exact h
theorem nT.fT{x m:Int}{key:ByteArray}(hx:1<=x):∀ (ids:List Int) {X:List Int} {s:dW},jD X s->(∀ i∈ids,1<=i)->nT (s.keys key) x m->x∉ids->nT ((il s ids).keys key) x m
 | [],X,s,_,_,h,_=>h
 | i :: ids,X,s,hH,hi,h,hn=>by
  have hi1:=hi i (by simp);have Xf:=hH.eE (i:=i) hi1;show nT ((il (Go.Proofs.YtmaiggbnceejiaaGreatDoor.eE s i) ids).keys key) x m;have hstep:nT ((Go.Proofs.YtmaiggbnceejiaaGreatDoor.eE s i).keys key) x m:=by
   unfold Go.Proofs.YtmaiggbnceejiaaGreatDoor.eE;split
   ·have hne:x≠i:=fun q=>hn (by simp [q]);rw [QZ];exact nT.rel (hH.apart key).ok h (by omega)
   ·exact h
  exact nT.fT hx ids Xf (fun j hj=>hi j (by simp [hj])) hstep (fun q=>hn (by simp [q]))
theorem yNu{n:Nat}:∀ (l:List dg) (a:Int),jl l->(∀ c∈l,a<=c.tx/\c.tx<a+n)->l.length<=n:=by
 induction n with
 | zero=>
  intro l a _ h
  cases l with
  | nil=>exact aV _
  | cons c l=>have:=h c (by simp);omega
 | succ n ih=>
  intro l a he h
  cases l with
  | nil=>exact aV _
  | cons c l=>
   have hc:=h c (by simp);have:=ih l (a+1) (List.Pairwise.of_cons he) (fun d hd=>by
    have h1:=bO he hd;have h2:=h d (by simp [hd]);omega)
   simp;omega
structure yV(s:dW)(id:Nat):Prop where
 h1:1<=id
 h2:id<=s.dV.length
 op:(s.tx id).state=1
 few:s.dV.length<=49
 none:∀ j,1<=j->j<=s.dV.length->(s.tx j).state≠2
 elder:∀ j,1<=j->j<id->(s.tx j).state≠1
theorem yV.waits{s:dW}{id:Nat}(h:yV s id)(hH:Held s)(key:ByteArray):∀ c∈(s.keys key).waits,c.tx≠(id:Int):=fun c hc e=>by
 have hW:Dn s=[]:=by
  rw [List.eq_nil_iff_forall_not_mem];intro x hx;obtain ⟨q1,q2,q3⟩:=vi.1 hx;exact h.none x.toNat (by omega) (by omega) q3
 have hA:=hH.apart key;rw [hW] at hA;have hs:=hA.stuck c hc;have hno:∀ t:Int,1<=t->t<(id:Int)->(s.tx t.toNat).state≠1/\(s.tx t.toNat).state≠2:=fun t t1 t2=>by
  have:=h.h2;exact ⟨h.elder t.toNat (by omega) (by omega),h.none t.toNat (by omega) (by omega)⟩
 have hfree:pD (s.keys key).held (s.keys key).waits c=true:=by
  refine LS.2 ⟨fun o ho=>?_,fun o ho hlt=>?_⟩
  ·cases hw:kL o c with
   | false=>rfl
   | true=>
    exfalso;rcases hA.elder c hc o ho hw with q | q
    ·obtain ⟨p1,p2,p3⟩:=hH.hold key o ho;have:=hno o.tx p1 (by omega);omega
    ·cases q
  ·obtain ⟨p1,p2,p3⟩:=hH.wait key o ho;have:=hno o.tx p1 (by omega);omega
 rw [hfree] at hs;cases hs
theorem yV.locked{s r:dW}{id k:Nat}(h:yV s id)(hg:FW s id k r):yV r id:=by
 refine ⟨h.h1,by rw [hg.same.len];exact h.h2,hg.st,by rw [hg.same.len];exact h.few,fun j j1 j2 hst=>?_,fun j j1 j2 hst=>?_⟩
 ·by_cases e:j=id
  ·rw [e,hg.st] at hst;omega
  ·rcases hg.cut j j1 e with q | ⟨_,q,_⟩
   ·rw [q] at hst;exact h.none j j1 (by rw [<-hg.same.len];exact j2) hst
   ·omega
 ·rcases hg.cut j j1 (by omega) with q | ⟨_,q,_⟩
  ·rw [q] at hst;exact h.elder j j1 j2 hst
  ·omega
theorem yV.lock{s:dW}{id:Nat}(h:yV s id)(hS:Safe s)(hH:Held s)(key:ByteArray)(hks:key.size<=20){mode:Int}(hm:mode=1\/mode=2):(gC s id key mode).2=0:=by
 have hg:=tr hS hH h.h1 h.h2 h.op key hks hm;have hr:=h.locked hg;have hko:=(hH.apart key).ok;have hw0:iM (s.keys key).waits (id:Int)=0:=yBn (h.waits hH key);have pL:¬ 50<=(s.keys key).waits.length:=by
  have:=yNu (n:=s.dV.length) _ 1 hko.waits (fun c hc=>by have:=hH.wait key c hc;omega);have:=h.few;omega
 have Ns:(iI (s.keys key) ⟨(id:Int),mode⟩).2.2.2=0:=by
  unfold iI;rw [aE (by rw [hw0];simp)];split
  ·rfl
  split
  ·rfl
  rfl
 have hl2:jH s id key mode=gZ s id key mode:=by
  unfold jH;simp only;rw [aE];rintro ⟨q,_⟩;have q':(iI (s.keys key) ⟨(id:Int),mode⟩).2.2.2=4:=q;rw [Ns] at q';cases q'
 have hL:=Qf hS hH h.h1 h.h2 h.op key hks hm;rw [hl2] at hL;have hhas:nT ((gZ s id key mode).1.keys key) id mode:=by
  show nT (jI s.keys key (iI (s.keys key) ⟨(id:Int),mode⟩).1 key) id mode;rw [uQ];unfold iI;rw [aE (by rw [hw0];simp)];split
  ·rename_i e;have e':mode<=iM (s.keys key).held (id:Int):=e;have h0:iM (s.keys key).held (id:Int)≠0:=by omega
   have hz:=fun hall=>h0 ((Dg hko.held hko.h0).2 hall);have:∃ c∈(s.keys key).held,c.tx=(id:Int):=aR fun q=>hz fun c hc e=>q ⟨c,hc,e⟩;obtain ⟨c,hc,e2⟩:=this;have hmo:=DY hko.held hc;rw [e2] at hmo;exact ⟨c,.inl hc,e2,by omega⟩
  split
  ·exact ⟨⟨(id:Int),mode⟩,.inl ((lp hko.held _ _).2 (.inl rfl)),rfl,bG _⟩
  exact ⟨⟨(id:Int),mode⟩,.inr ((lp hko.waits _ _).2 (.inl rfl)),rfl,bG _⟩
 have hC:=hL.held.came (k:=ee (gZ s id key mode).1 key) h.h1 h.h2;have hb:nT ((il (lZ (gZ s id key mode).1 id (ee (gZ s id key mode).1 key)) (gZ s id key mode).2.1).keys key) id mode:=by
  refine nT.fT (by have:=h.h1;omega) _ hC (fun i hi=>(hL.wd i hi).2.1) hhas (fun q=>?_);have:=(hL.wd _ q).1;omega
 have Np:(gC s id key mode)=(il (lZ (gZ s id key mode).1 id (ee (gZ s id key mode).1 key)) (gZ s id key mode).2.1,if iM ((il (lZ (gZ s id key mode).1 id (ee (gZ s id key mode).1 key)) (gZ s id key mode).2.1).keys key).held id<mode then 11 else 0):=by
  unfold gC;simp only;rw [hl2];have e0:(gZ s id key mode).2.2=0:=Ns;rw [aE (by rw [e0];simp),aE (by rw [e0];simp),aS]
 rw [Np] at hg hr ⊢;simp only at hg hr ⊢;generalize il (lZ (gZ s id key mode).1 id (ee (gZ s id key mode).1 key)) (gZ s id key mode).2.1=r at hb hg hr;rw [aE];obtain ⟨c,hc,e1,e2⟩:=hb;rcases hc with hc | hc
 ·have:=DY (hg.held.apart key).ok.held hc;rw [e1] at this;omega
 ·exact absurd e1 (hr.waits hg.held key c hc)
theorem nE.same{s s':dW}(h:nE s)(hl:s'.lines=s.lines)(hd:s'.dead=s.dead)(hn:s'.net.down=s.net.down):nE s':=by
 refine ⟨fun k hk n hn=>?_,by rw [hd,hn];exact h.down⟩;rw [hl] at hk;unfold dW.line at hn;rw [hl] at hn;rw [Io hd];exact h.lives k hk n hn
theorem yV.come{s:dW}{id:Nat}(h:yV s id)(hS:Safe s)(hA:nE s){key:ByteArray}(hk:key.size<=20):nA s id key=0:=by
 have h1:=h.h1;have h2:=h.h2;have hst:ij s (id:Int)=1:=by
  unfold ij sa;rw [aQ (show (1:Int)<=(id:Int) by omega),aQ (show (id:Int)<=(s.dV.length:Int) by omega)];simpa using h.op
 have hop:nX s id=0:=by unfold nX;rw [hst];rfl
 have hl2:=hS.ll.1;have hsh:ee s key<s.lines.length:=by have:=Bw hl2 key;unfold dk at this;omega
 unfold nA;rw [hop,aE (by simp),aE (by omega),aE];have hv:=hA.lives _ hsh _ (hS.head_mem hsh)
 cases hh:td s (ee s key) with
 | some n=>simp
 | none=>rw [Tb hS hsh hh] at hv;cases hv
structure vV(s:dW)(id:Nat):Prop where
 ku:yV s id
 rest:Rest s
 live:gY s
 all:nE s
theorem vV.put{s:dW}{id:Nat}(h:vV s id){p:fR}(hk:p.key.size<=20)(hv:p.val.size<=40)(hf:(s.tx id).writes.length<20):(eZ s id p).2=0/\vV (eZ s id p).1 id:=by
 have hS:=h.rest.c.safe;have hH:=h.rest.c.held;have hc:=h.ku.come hS h.all hk;have hlk:=h.ku.lock hS hH p.key hk (mode:=2) (.inr rfl);have hg:=tr hS hH h.ku.h1 h.ku.h2 h.ku.op p.key hk (mode:=2) (.inr rfl);have hR:=h.rest.put id p;have pz:=h.live.put h.rest id p;have hfull:qv (s.tx id) p.key=false:=by unfold qv;rw [aP (by omega)];rfl
 revert hR pz;unfold eZ;rw [aE (by omega),aE (by rw [hc];simp),aS,hfull];simp only [dH,cA,if_false];rw [aE (by rw [hlk];simp)];intro hR pz;have he:=h.ku.locked hg;have hl:=he.h2;generalize (gC s id p.key 2).1=r at hg he hR pz hl;have hw:(lV (r.tx id) p).state=1:=by
  unfold lV;split
  ·exact hg.st
  ·exact hg.st
 refine ⟨rfl,⟨h.ku.h1,by rw [kT];exact hl,by rw [mq r id _ h.ku.h1 h.ku.h1 hl,aJ rfl];exact hw,by rw [kT];exact he.few,fun j j1 j2 hst=>?_,fun j j1 j2 hst=>?_⟩,hR,pz,h.all.same hg.same.l hg.same.d (by show r.net.down=_;rw [hg.same.net])⟩
 ·rw [kT] at j2;rw [mq r id _ j1 h.ku.h1 hl] at hst;split at hst
  ·omega
  ·exact he.none j j1 j2 hst
 ·rw [mq r id _ j1 h.ku.h1 hl,aE (by omega)] at hst;exact he.elder j j1 j2 hst
theorem vV.end_{s:dW}{id:Nat}(h:vV s id):(fa s id).2=0/\((kD (fa s id).1).tx id).state=3/\nE (kD (fa s id).1)/\Rest (fa s id).1/\gY (fa s id).1/\(fa s id).1.dV.length=s.dV.length/\∀ j,1<=j->j<=s.dV.length->j≠id->((kD (fa s id).1).tx j).state=(s.tx j).state:=by
 have hS:=h.rest.c.safe;have hH:=h.rest.c.held;have h1:=h.ku.h1;have h2:=h.ku.h2;have hR:=h.rest.end_ id;have pz:=h.live.end_ h.rest id;have hst:ij s (id:Int)=1:=by
  unfold ij sa;rw [aQ (show (1:Int)<=(id:Int) by omega),aQ (show (id:Int)<=(s.dV.length:Int) by omega)];simpa using h.ku.op
 have hop:nX s id=0:=by unfold nX;rw [hst];rfl
 have hwt:xr s id=false:=by
  cases hq:xr s id with
  | false=>rfl
  | true=>
   exfalso;unfold xr at hq;simp only [ar] at hq;obtain ⟨k,hk⟩:=hq;rw [cK] at hk;obtain ⟨c,hc,e⟩:=hk;exact h.ku.waits hH k c hc (by simpa using e)
 have hSs:Safe (dY s id { s.tx id with state:=2 }):=hS.write (ws:=(s.tx id).writes) h1 h2 h.ku.op (hS.tx id h1 h2).few (.inr rfl);have uy:Held (dY s id { s.tx id with state:=2 }):=hH.ending h1 h2 rfl h.ku.op (Dj hwt);obtain ⟨b,c,_⟩:=sV hSs;have t:=c.rV b uy;have g:=(wm b t.held).1;have RU:=(Ue hSs).trans (Um b t.held);have hend:fa s id=(mH (jd (dY s id { s.tx id with state:=2 })),0):=by
  unfold fa;rw [aE (by rw [hop];simp),hwt,aS];rfl
 rw [hend] at hR pz ⊢;simp only at hR pz ⊢;have hA0:nE (dY s id { s.tx id with state:=2 }):=h.all.same rfl rfl rfl;have Hl:=(hA0.moves c.mv c.down).moves g.mv g.down;have hsl:(dY s id { s.tx id with state:=2 }).dV.length=s.dV.length:=kT _ _ _;have hid:((dY s id { s.tx id with state:=2 }).tx id).state=2:=by rw [mq s id _ h1 h1 h2,aJ rfl]
 have hoth:∀ j,1<=j->j≠id->(dY s id { s.tx id with state:=2 }).tx j=s.tx j:=fun j j1 j2=>by rw [mq s id _ j1 h1 h2,aE j2]
 generalize dY s id { s.tx id with state:=2 }=S0 at b c t g RU hR pz Hl hsl hid hoth;generalize mH (jd S0)=S at g RU hR pz Hl;have hC:=Ty hR.c;have cg:=Dd hR.c;have hlS:S.dV.length=s.dV.length:=RU.tl.trans hsl;have hall:=RU.trans hC;refine ⟨trivial,?_,Hl.moves cg.2.mv cg.2.down,hR,pz,hlS,fun j j1 j2 j3=>?_⟩
 ·have hne:=zTs hR Hl pz.heard h1 (by rw [hlS];exact h2);rcases hall.ends id h1 (by rw [hsl];exact h2) with q | q
  ·rw [hid] at q;exact absurd q hne
  ·exact q.2
 ·rcases hall.ends j j1 (by rw [hsl];exact j2) with q | ⟨q,_⟩
  ·rw [q,hoth j j1 j3]
  ·rw [hoth j j1 j3] at q;exact absurd q (h.ku.none j j1 j2)
end Go.Proofs.YtmaiggbnceejiaaGreatDoor
