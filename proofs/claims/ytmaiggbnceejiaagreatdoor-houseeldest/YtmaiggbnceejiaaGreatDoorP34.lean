import Derived.Test.YtmaiggbnceejiaaGreatDoorP33
import Derived.Test.YtmaiggbnceejiaaGreatDoorP29
import Derived.Test.YtmaiggbnceejiaaGreatDoorP32
set_option linter.unusedVariables false
set_option maxRecDepth 100000
set_option maxHeartbeats 16000000
namespace Go.Proofs.YtmaiggbnceejiaaGreatDoor
section
variable {Q:List Nat->Prop} {O:Nat->List gQ} {s:dW}
theorem fA.node1(h:fA Q O s)(hS:Safe s){k j:Nat}(hk:k<s.lines.length){n n':eH}(hj:(s.line k).nodes[j]?=some n)(h0:j=0->n'.log=n.log)(ms:List dp):fA Q O (qx (je s k j n') ms):=by
 refine h.same hS rfl rfl (Dl s k j n') (fun K hK=>?_);show (dy (je s k j n') K).log=_;rw [Ls hk (hS.line k hk).ne];split
 ·rename_i e;rw [h0 e.2];have:n=dy s k:=by
   have:=hS.head hk;rw [<-e.2,hj] at this;exact ax this
  rw [this,e.1]
 ·rfl
theorem fA.step(h:fA Q O s)(hS:Safe s){k j:Nat}(hk:k<s.lines.length){n:eH}(hj:(s.line k).nodes[j]?=some n)(m:dp):fA Q O (lD s k j m):=by
 unfold lD;rw [pH hj];refine h.node1 hS hk hj (fun e=>?_) _;rcases (Lj n m).2.1 with q | ⟨_,q,_⟩
 ·exact q
 ·obtain ⟨i,a,hi,_⟩:=(hS.line k hk).RN hj (FG q);omega
theorem fA.fD(h:fA Q O s)(hS:Safe s){k j:Nat}(hk:k<s.lines.length):fA Q O (Go.Proofs.YtmaiggbnceejiaaGreatDoor.fD k s j):=by
 unfold Go.Proofs.YtmaiggbnceejiaaGreatDoor.fD;split
 ·by_cases hj:j<(s.line k).nodes.length
  ·have hj':(s.line k).nodes[j]?=some (eG s k j):=by rw [aA hj];unfold eG;rw [aH,aA hj];rfl
   exact h.node1 hS hk hj' (fun _=>(Dh (eG s k j)).2.1) _
  ·have h0:j≠0:=fun e=>by
    have:=bH.2 (hS.line k hk).ne;omega
   refine h.same hS rfl rfl (Dl s k j _) (fun K hK=>?_);show (dy (je s k j _) K).log=_;rw [Ls hk (hS.line k hk).ne,aE (fun q=>h0 q.2)]
 ·exact h
theorem fA.eM(h:fA Q O s)(hS:Safe s){k:Nat}(hk:k<s.lines.length):fA Q O (Go.Proofs.YtmaiggbnceejiaaGreatDoor.eM s k):=by
 unfold Go.Proofs.YtmaiggbnceejiaaGreatDoor.eM;generalize List.range (s.line k).nodes.length=js
 suffices key:∀ (js:List Nat) (S:dW),Safe S->k<S.lines.length->fA Q O S->fA Q O (js.foldl (Go.Proofs.YtmaiggbnceejiaaGreatDoor.fD k) S) from key js s hS hk h
 intro js
 induction js with
 | nil=>exact fun S _ _ c=>c
 | cons j js ih=>
  intro S a b c;obtain ⟨d,e⟩:=a.fD (k:=k) (j:=j) b;exact ih _ d (by rw [e.mv.ll];exact b) (c.fD a b)
theorem fA.tick(h:fA Q O s)(hS:Safe s):fA Q O (jv s):=by
 unfold jv
 suffices key:∀ m,m<=s.lines.length->Safe ((List.range m).foldl Go.Proofs.YtmaiggbnceejiaaGreatDoor.eM s)/\gb s ((List.range m).foldl Go.Proofs.YtmaiggbnceejiaaGreatDoor.eM s)/\fA Q O ((List.range m).foldl Go.Proofs.YtmaiggbnceejiaaGreatDoor.eM s) from (key _ (aF _)).2.2
 intro m
 induction m with
 | zero=>exact fun _=>⟨hS,gb.refl s,h⟩
 | succ m ih=>
  intro hm;rw [aY,aX];obtain ⟨a,b,e⟩:=ih (by omega);have jq:m<((List.range m).foldl Go.Proofs.YtmaiggbnceejiaaGreatDoor.eM s).lines.length:=by rw [b.mv.ll];omega
  obtain ⟨c,d⟩:=Lq a (k:=m) jq;exact ⟨c,b.trans d,e.eM a jq⟩
theorem fA.fN(h:fA Q O s)(hS:Safe s)(hH:Held s)(k:Nat):fA Q O (im s k):=by
 unfold im
 cases hm:s.net.way[k]? with
 | none=>exact h
 | some m=>
  have ht:Safe (fH s k):=hS.way fun m' hm'=>bb hm';have hT:fA Q O (fH s k):=h.same hS rfl rfl rfl (fun _ _=>rfl);simp only
  cases hn:mY s m.to with
  | none=>exact hT
  | some kj=>
   obtain ⟨kk,j⟩:=kj;obtain ⟨hk,n,q1,q2,q3⟩:=Av hn;have hm':yR (fH s k) m:=hS.msg m (aC hm);have hS2:=ht.step (k:=kk) (j:=j) (n:=n) hk q1 hm';have Ju:kS (fH s k) (lD (fH s k) kk j m):=(gb.step (s:=fH s k) hk q1 q2 m).rV hS2 (hH.lines rfl rfl);exact (hT.step ht hk q1 m).settle hS2 Ju.held
theorem fA.end_(h:fA Q O s)(hr:Rest s)(id:Int):fA Q O (fa s id).1:=by
 unfold fa;split
 ·exact h
 split
 ·exact h
 rename_i e1 e2;obtain ⟨i,rfl,h1,h2,ho⟩:=nY (by simpa using e1);rw [aS];obtain ⟨hQ,D,V,hX,hD⟩:=h;have hS:=hr.c.safe;have hS1:Safe (dY s i { s.tx i with state:=2 }):=hS.write (ws:=(s.tx i).writes) (st:=2) h1 h2 ho (hS.tx i h1 h2).few (.inr rfl);have jr:Held (dY s i { s.tx i with state:=2 }):=hr.c.held.ending h1 h2 rfl ho (Dj (by simpa using e2));have q1:fA Q O (dY s i { s.tx i with state:=2 }):=⟨hQ,D,V,hX.Ve h1 h2 rfl (fun k hk=>hk) (.inr ⟨ho,rfl⟩),hD⟩;obtain ⟨a,b,_⟩:=sV hS1;exact (q1.tell hS1).settle a (jr.lines b.keys b.dV)
theorem fA.eK(h:fA Q O s)(hS:Safe s)(hH:Held s){k:Nat}(hk:k<s.lines.length):fA Q O (Go.Proofs.YtmaiggbnceejiaaGreatDoor.eK s k):=by
 unfold Go.Proofs.YtmaiggbnceejiaaGreatDoor.eK;split
 ·exact h
 ·rename_i e;obtain ⟨e1,e2⟩:=JF e;have hF:Safe (eW s k):=hS.eW hk e1 e2;have BX:Held (eW s k):=hH.lines rfl rfl;have hkF:k<(eW s k).lines.length:=by rw [sH];exact hk
  obtain ⟨hQ,D,V,hX,hD⟩:=h;have hn:∀ i,i≠k->(dy (eW s k) i).log=(dy s i).log:=fun i hi=>by
   unfold dy;rw [Bz s hk,aE hi]
  show fA Q O (pF (eW s k) k);by_cases lK:k<dk s
  ·refine ⟨hQ,D,V,eY.wG hF BX hkF (hX.line (s':=eW s k) hS rfl rfl (sH s k) lK hn ?_),hD⟩;have hne:fM s k≠[]:=e1
   cases hl:fM s k with
   | nil=>exact absurd hl hne
   | cons x xs=>
    have hx:x∈(s.line k).nodes:=(al.1 (show x∈fM s k by rw [hl];simp)).1;have:(dy (eW s k) k).log=x.log:=by
     unfold dy;rw [Bz s hk,aJ rfl,JM,hl];show (kB _ x).log=x.log;have:=((hS.line k hk).fix (ns:=fM s k) bQ e1 e2).2 x (by rw [hl];simp);rw [hl] at this;exact this.2
    rw [this];exact hS.MR hk hx
  ·
   have hX1:eY (fun _=>False) O D V (eW s k):=hX.same rfl rfl (sH s k) (fun K hK=>hn K (by omega)) hS.ll.1;refine ⟨hQ,D,V,eY.wG hF BX hkF (hX1.less (fun id _ _ q=>q)),hD⟩
theorem fA.Ho(h:fA Q O s)(hS:Safe s)(hH:Held s):∀ m,m<=s.lines.length->fA Q O ((List.range m).foldl Go.Proofs.YtmaiggbnceejiaaGreatDoor.eK s):=by
 intro m
 induction m with
 | zero=>exact fun _=>h
 | succ m ih=>
  intro hm;rw [aY,aX];obtain ⟨a,-⟩:=Ax hS hH m (by omega);exact (ih (by omega)).eK a.safe a.held (by rw [a.ll];omega)
theorem fA.fix(h:fA Q O s)(hS:Safe s)(hH:Held s):fA Q O (jz s):=by
 unfold jz;obtain ⟨a,-⟩:=Ax hS hH s.lines.length (aF _);obtain ⟨b,c,_⟩:=sV a.safe;exact ((h.Ho hS hH _ (aF _)).tell a.safe).settle b (a.held.lines c.keys c.dV)
theorem fA.net(h:fA Q O s)(hS:Safe s)(net:ey)(dead:List Int):fA Q O { s with net:=net,dead:=dead }:=h.same hS rfl rfl rfl (fun _ _=>rfl)
theorem fA.fail(h:fA Q O s)(hS:Safe s)(id:Int):fA Q O (oa s id).1:=by
 unfold oa;split
 ·exact h
 ·exact h.net hS _ _
theorem fA.pj(h:fA Q O s)(hS:Safe s)(k:Int):fA Q O (ob s k).1:=by
 unfold ob;split
 ·exact h.net hS _ _
 ·exact h
theorem fA.twice(h:fA Q O s)(hS:Safe s)(k:Int):fA Q O (nD s k).1:=by
 unfold nD;split
 ·split
  ·exact h.net hS _ _
  ·exact h
 ·exact h
theorem fA.drain(n:Nat):∀ {s:dW},Rest s->fA Q O s->fA Q O (fO n s):=by
 induction n with
 | zero=>exact fun _ h=>h
 | succ n ih=>
  intro s hr h;unfold fO;split
  ·exact h
  ·exact ih (hr.fN 0) (h.fN hr.c.safe hr.c.held 0)
theorem fA.turn(h:fA Q O s)(hr:Rest s):fA Q O (od s):=fA.drain _ hr.tick (h.tick hr.c.safe)
theorem fA.gd(n:Nat):∀ {s:dW},Rest s->fA Q O s->fA Q O (Go.Proofs.YtmaiggbnceejiaaGreatDoor.gd n s):=by
 induction n with
 | zero=>exact fun _ h=>h
 | succ n ih=>
  intro s hr h;have h1:fA Q O (ff s):=(((h.turn hr).turn hr.turn).turn hr.turn.turn).turn hr.turn.turn.turn;unfold Go.Proofs.YtmaiggbnceejiaaGreatDoor.gd;split
  ·exact h1
  ·exact ih hr.ff h1
theorem fA.calm(h:fA Q O s)(hr:Rest s):fA Q O (kD s):=fA.gd _ hr h
end
def sD(dV:List gg)(id:Nat):List gQ:=if id=0 then [] else ((dV[id - 1]?).map gg.ops).getD []
theorem FN(dV:List gg)(i:Nat):sD dV (i+1)=((dV[i]?).map gg.ops).getD []:=by unfold sD;rw [aE (by omega),bZ]
theorem yIu(dV:List gg)(f e:Int):sD (dV++[⟨[],f,e⟩])=sD dV:=by
 funext id
 cases id with
 | zero=>rfl
 | succ i=>
  rw [FN,FN];by_cases h:i<dV.length
  ·rw [aI h]
  ·rw [aO (by omega),aj (l:=dV) (by omega)]
   cases hi:i - dV.length with
   | zero=>rfl
   | succ n=>rfl
theorem yMh{dV:List gg}{i:Nat}{t:gg}(h:dV[i]?=some t)(o:gQ):sD (fQ dV (i+1) o)=Bh (sD dV) (i+1) o:=by
 have hil:=(aB.1 h).1;unfold fQ;rw [bZ,h];simp only;funext id;unfold Bh
 cases id with
 | zero=>rw [aE (by omega)];rfl
 | succ j=>
  rw [FN,FN,FN,bw];by_cases e:i=j
  ·subst e;rw [aJ rfl,aJ hil,aJ rfl,h];rfl
  ·rw [aE e,aE (by omega)]
theorem yIt{dV MI:List gg}(h:∀ i:Nat,(MI[i]?).map gg.ops=(dV[i]?).map gg.ops):sD MI=sD dV:=by
 funext id
 cases id with
 | zero=>rfl
 | succ i=>rw [FN,FN,h]
def RtT(dV:List gg)(a b:Nat):Prop:=∃ t u,0<a/\0<b/\dV[a - 1]?=some t/\dV[b - 1]?=some u/\0<=t.jx/\t.jx<u.eI
def tN(dV:List gg)(D:List Nat):Prop:=(∀ a t,0<a->dV[a - 1]?=some t->0<=t.jx->a∈D)/\∀ a b,b∈D->RtT dV a b->∃ p q:Nat,p<q/\D[p]?=some a/\D[q]?=some b
theorem tN.more{dV:List gg}{D:List Nat}{d:Nat}(h:tN dV D)(hd:d∉D):tN dV (D++[d]):=by
 refine ⟨fun a t h1 h2 h3=>bP _ (h.1 a t h1 h2 h3),fun a b hb hab=>?_⟩;have ha:a∈D:=by
  obtain ⟨t,u,q1,_,q3,_,q5,_⟩:=hab;exact h.1 a t q1 q3 q5
 rcases aL.1 hb with hb | hb
 ·obtain ⟨p,q,h1,h2,h3⟩:=h.2 a b hb hab;exact ⟨p,q,h1,by rw [aI (aB.1 h2).1];exact h2,by rw [aI (aB.1 h3).1];exact h3⟩
 ·simp at hb;subst hb;obtain ⟨p,hp⟩:=aN ha;have hpl:=(aB.1 hp).1;exact ⟨p,D.length,hpl,by rw [aI hpl];exact hp,by rw [aO (aF _)];simp⟩
structure ml(s:dw):Prop where
 nF:fA (tN s.dV) (sD s.dV) s.h
 eI:∀ t∈s.dV,t.eI<=s.now
theorem fA.Vy{Q Q':List Nat->Prop}{O:Nat->List gQ}{s:dW}(h:fA Q O s)(hq:∀ D V,eY (fun _=>False) O D V s->Q D->Q' D)(hQ':∀ D d,Q' D->d∉D->Q' (D++[d])):fA Q' O s:=by
 obtain ⟨_,D,V,hX,hD⟩:=h;exact ⟨hQ',D,V,hX,hq D V hX hD⟩
theorem tN.push{dV:List gg}{D:List Nat}{f:Int}(h:tN dV D)(hd:∀ a∈D,0<a/\a<=dV.length):tN (dV++[⟨[],f,-1⟩]) D:=by
 have old:∀ {a:Nat} {t:gg},0<a->(dV++[⟨[],f,-1⟩])[a - 1]?=some t->dV[a - 1]?=some t\/t=⟨[],f,-1⟩:=fun {a t} ha ht=>by
  by_cases hl:a - 1<dV.length
  ·rw [aI hl] at ht;exact .inl ht
  ·rw [aO (by omega)] at ht;have:=aC ht;simp at this;exact .inr this
 refine ⟨fun a t h1 h2 h3=>?_,fun a b hb hab=>?_⟩
 ·rcases old h1 h2 with q | q
  ·exact h.1 a t h1 q h3
  ·rw [q] at h3;simp at h3
 ·obtain ⟨t,u,q1,q2,q3,q4,q5,q6⟩:=hab;have hbl:=hd b hb;have q4':dV[b - 1]?=some u:=by
   rw [aI (by omega)] at q4;exact q4
  rcases old q1 q3 with q | q
  ·exact h.2 a b hb ⟨t,u,q1,q2,q,q4',q5,q6⟩
  ·rw [q] at q5;simp at q5
theorem tN.fQ{dV:List gg}{D:List Nat}(h:tN dV D)(id:Nat)(o:gQ):tN (Go.Proofs.YtmaiggbnceejiaaGreatDoor.fQ dV id o) D:=by
 have old:∀ {a:Nat} {t:gg},(Go.Proofs.YtmaiggbnceejiaaGreatDoor.fQ dV id o)[a - 1]?=some t->∃ t',dV[a - 1]?=some t'/\t'.jx=t.jx/\t'.eI=t.eI:=fun {a t} ht=>by
  unfold Go.Proofs.YtmaiggbnceejiaaGreatDoor.fQ at ht;split at ht
  ·rename_i u hu;rw [bw] at ht;split at ht
   ·rename_i e;split at ht
    ·cases ht
     exact ⟨u,by rw [<-e];exact hu,rfl,rfl⟩
    ·cases ht
   ·exact ⟨t,ht,rfl,rfl⟩
  ·exact ⟨t,ht,rfl,rfl⟩
 refine ⟨fun a t h1 h2 h3=>?_,fun a b hb hab=>?_⟩
 ·obtain ⟨t',q1,q2,_⟩:=old h2;exact h.1 a t' h1 q1 (by omega)
 ·obtain ⟨t,u,q1,q2,q3,q4,q5,q6⟩:=hab;obtain ⟨t',r1,r2,r3⟩:=old q3;obtain ⟨u',v1,v2,v3⟩:=old q4;exact h.2 a b hb ⟨t',u',q1,q2,r1,v1,by omega,by omega⟩
theorem yUb{m:Nat}{s:dw}(h:ml s)(hok:pU m s)(x:ActD):ml (dx s x):=by
 have hr:=hok.rest;have hS:=hr.c.safe;have hH:=hr.c.held;have hl2:2<=s.h.lines.length:=hS.ll.1;have EU:∀ {dV:List gg} D d,tN dV D->d∉D->tN dV (D++[d]):=fun D d q hd=>q.more hd;have fin:∀ (h':dW),fA (tN s.dV) (sD s.dV) h'->∀ r:dw,r={ s with h:=h' }->ml r:=fun h' q r hr=>by
  subst hr;exact ⟨q,h.eI⟩
 have told:∀ (h':dW) (i:Nat) (t:gg) (o:gQ),s.dV[i]?=some t->fA (tN s.dV) (Bh (sD s.dV) (i+1) o) h'->∀ r:dw,r={ s with h:=h',dV:=fQ s.dV (i+1) o }->ml r:=fun h' i t o ht q r hr=>by
  subst hr;refine ⟨?_,fun u hu=>?_⟩
  ·show fA (tN (fQ s.dV (i+1) o)) (sD (fQ s.dV (i+1) o)) h';rw [yMh ht];exact q.Vy (fun D V _ hD=>hD.fQ _ _) EU
  ·show u.eI<=s.now;have hu':u∈fQ s.dV (i+1) o:=hu;unfold fQ at hu';rw [bZ,ht] at hu';simp only at hu';rcases bE hu' with q | q
   ·exact h.eI u q
   ·rw [q];exact h.eI t (aC ht)
 obtain ⟨r,ec⟩:∃ r,r=dx s x:=⟨_,rfl⟩;rw [<-ec];have idc:∀ {i:Nat},fK s x=i+1->∃ t,s.dV[i]?=some t:=fun {i} e=>by
  unfold fK at e;split at e
  ·rename_i q;have:=Aq x.tx s.dV.length q;exact ⟨_,aA (by omega)⟩
  ·omega
 unfold dx at ec;by_cases e0:x.what=0
 ·rw [aJ e0] at ec;by_cases e:s.dV.length<7
  ·rw [aJ e] at ec;subst ec;refine ⟨?_,fun u hu=>?_⟩
   ·show fA (tN (s.dV++[⟨[],s.now,-1⟩])) (sD (s.dV++[⟨[],s.now,-1⟩])) (nC s.h);rw [yIu];refine (h.nF.Vy (Q':=tN (s.dV++[⟨[],s.now,-1⟩])) (fun D V hX hD=>hD.push (fun a ha=>?_)) EU).begin hl2;have:=(hX.dm a).1 ha;rw [hok.tl] at this;exact ⟨by omega,this.2.1⟩
   ·show u.eI<=s.now;rcases aL.1 hu with q | q
    ·exact h.eI u q
    ·simp at q;rw [q];exact bG _
  ·rw [aE e] at ec;rw [ec];exact h
 rw [aE e0] at ec;by_cases e1:x.what=1
 ·rw [aJ e1] at ec;obtain ⟨g1,g2⟩:=h.nF.get hr (fK s x) (eP x);by_cases e:(fL s.h (fK s x) (eP x)).2.2.2=0/\0<fK s x
  ·rw [aJ e] at ec;obtain ⟨i,hi⟩:=Nat.exists_eq_succ_of_ne_zero (show fK s x≠0 by omega);obtain ⟨t,ht⟩:=idc hi;have hi':fK s x=i+1:=hi;have g:=g1 e.1;rw [hi'] at g ec;exact told _ i t _ ht g r ec
  ·rw [aE e] at ec;by_cases e2:(fL s.h (fK s x) (eP x)).2.2.2=0
   ·exfalso;have hz:fK s x=0:=by
     apply aR;intro q;exact e ⟨e2,by omega⟩
    rw [hz] at e2;have:nA s.h ((0:Nat):Int) (eP x)≠0:=fun q=>by
     obtain ⟨j,h1,h2,_⟩:=nY (nu q).1;omega
    unfold fL at e2;rw [aJ this] at e2;exact this e2
   ·exact fin _ (g2 e2) r ec
 rw [aE e1] at ec;by_cases e2:x.what=2\/x.what=3
 ·rw [aJ e2] at ec;obtain ⟨g1,g2⟩:=h.nF.put hr (fK s x) ⟨eP x,gh x,decide (x.what=3)⟩;have hop:(⟨if (⟨eP x,gh x,decide (x.what=3)⟩:fR).gone then 3 else 2,eP x,gh x,false⟩:gQ)=⟨x.what,eP x,gh x,false⟩:=by
   congr 1;rcases e2 with q | q <;> simp [q]
  by_cases e:(eZ s.h (fK s x) ⟨eP x,gh x,decide (x.what=3)⟩).2=0/\0<fK s x
  ·rw [aJ e] at ec;obtain ⟨i,hi⟩:=Nat.exists_eq_succ_of_ne_zero (show fK s x≠0 by omega);obtain ⟨t,ht⟩:=idc hi;have hi':fK s x=i+1:=hi;have g:=g1 e.1;rw [hop] at g;rw [hi'] at g ec;exact told _ i t _ ht g r ec
  ·rw [aE e] at ec;by_cases e3:(eZ s.h (fK s x) ⟨eP x,gh x,decide (x.what=3)⟩).2=0
   ·exfalso;have hz:fK s x=0:=by
     apply aR;intro q;exact e ⟨e3,by omega⟩
    rw [hz] at e3;have:nA s.h ((0:Nat):Int) (eP x)≠0:=fun q=>by
     obtain ⟨j,h1,h2,_⟩:=nY (nu q).1;omega
    unfold eZ at e3;split at e3
    ·simp at e3
    ·first
      | exact this e3
      | (rw [aJ this] at e3;exact this e3)
   ·exact fin _ (g2 e3) r ec
 rw [aE e2] at ec;by_cases e4:x.what=4
 ·rw [aJ e4] at ec;exact fin _ (h.nF.end_ hr _) r ec
 rw [aE e4] at ec;by_cases e5:x.what=5
 ·rw [aJ e5] at ec;by_cases e:x.a.tmod 4=0
  ·rw [aJ e] at ec;exact fin _ (h.nF.drop hr _) r ec
  ·rw [aE e] at ec;rw [ec];exact h
 rw [aE e5] at ec;by_cases e6:x.what=6
 ·rw [aJ e6] at ec;by_cases e:0<s.h.net.way.length
  ·rw [aJ e] at ec;exact fin _ (h.nF.fN hS hH _) r ec
  ·rw [aE e] at ec;rw [ec];exact h
 rw [aE e6] at ec;by_cases e7:x.what=7
 ·rw [aJ e7] at ec;by_cases e:0<s.h.net.way.length
  ·rw [aJ e] at ec;exact fin _ (h.nF.pj hS _) r ec
  ·rw [aE e] at ec;rw [ec];exact h
 rw [aE e7] at ec;by_cases e8:x.what=8
 ·rw [aJ e8] at ec;by_cases e:0<s.h.net.way.length
  ·rw [aJ e] at ec;exact fin _ (h.nF.twice hS _) r ec
  ·rw [aE e] at ec;rw [ec];exact h
 rw [aE e8] at ec;by_cases e9:x.what=9
 ·rw [aJ e9] at ec;exact fin _ (h.nF.tick hS) r ec
 rw [aE e9] at ec;by_cases e10:x.what=10
 ·rw [aJ e10] at ec;refine fin _ ?_ r ec;unfold yW;split
  ·exact h.nF.fail hS _
  ·exact h.nF
 rw [aE e10] at ec;by_cases e11:x.what=11
 ·rw [aJ e11] at ec;exact fin _ (h.nF.fix hS hH) r ec
 rw [aE e11] at ec;by_cases e12:x.what=12
 ·rw [aJ e12] at ec;exact fin _ (h.nF.calm hr) r ec
 rw [aE e12] at ec;rw [ec];exact h
theorem ySv{s:dw}(h:ml s)(htl:s.h.dV.length=s.dV.length)(kc:0<=s.now):ml (mb s):=by
 have XA:sD (mb s).dV=sD s.dV:=yIt fun i=>by
  unfold mb;rw [bM,Option.map_map]
  cases s.dV[i]? with
  | none=>rfl
  | some t=>
   simp only [bS,Function.comp];split <;> rfl
 refine ⟨?_,fun u hu=>?_⟩
 ·rw [XA];refine h.nF.Vy (fun D V hX hD=>?_) (fun D d q hd=>q.more hd);have old:∀ {a:Nat} {t:gg},0<a->(mb s).dV[a - 1]?=some t->∃ t',s.dV[a - 1]?=some t'/\t'.eI=t.eI/\(t'.jx=t.jx\/(t.jx=s.now/\ij s.h a=3)):=fun {a t} ha ht=>by
   unfold mb at ht;rw [bM] at ht
   cases hx:s.dV[a - 1]? with
   | none=>rw [hx] at ht;cases ht
   | some t'=>
    rw [hx,bS] at ht;have ht:=ax ht;refine ⟨t',rfl,?_⟩;split at ht
    ·rename_i e;rw [<-ht];have hc:((a - 1:Nat):Int)+1=a:=by omega
     rw [hc] at e;exact ⟨rfl,.inr ⟨rfl,e.2⟩⟩
    ·rw [<-ht];exact ⟨rfl,.inl rfl⟩
  refine ⟨fun a t h1 h2 h3=>?_,fun a b hb hab=>?_⟩
  ·obtain ⟨t',q1,q2,q3 | ⟨q3,q4⟩⟩:=old h1 h2
   ·exact hD.1 a t' h1 q1 (by omega)
   ·rw [hX.dm];have hal:=(aB.1 q1).1;unfold ij at q4;split at q4
    ·exact ⟨by omega,by omega,by simpa using q4⟩
    ·simp at q4
  ·obtain ⟨t,u,q1,q2,q3,q4,q5,q6⟩:=hab;obtain ⟨t',r1,r2,r3 | ⟨r3,r4⟩⟩:=old q1 q3
   ·obtain ⟨u',v1,v2,_⟩:=old q2 q4;exact hD.2 a b hb ⟨t',u',q1,q2,r1,v1,by omega,by omega⟩
   ·exfalso;obtain ⟨u',v1,v2,_⟩:=old q2 q4;have:=h.eI u' (aC v1);omega
 ·obtain ⟨i,hi⟩:=aN hu;unfold mb at hi;rw [bM] at hi
  cases hx:s.dV[i]? with
  | none=>rw [hx] at hi;cases hi
  | some t=>
   rw [hx,bS] at hi;have hi:=ax hi;have hf:=h.eI t (aC hx);show u.eI<=s.now;rw [<-hi];split <;> exact hf
theorem Tq{m:Nat}{s:dw}(h:ml s)(hok:pU m s)(kc:0<=s.now)(x:ActD):ml (kH s x):=by
 have h1:ml { s with now:=s.now+1 }:=⟨h.nF,fun t ht=>by have:=h.eI t ht;show t.eI<=s.now+1;omega⟩;have hg:=LQ (hok.clock (s.now+1)) x;exact ySv (yUb h1 (hok.clock (s.now+1)) x) hg.2.2.2.1 (by rw [hg.2.2.2.2.2.1];show (0:Int)<=s.now+1;omega)
theorem Tv{s:dW}{id:Nat}(h1:1<=id)(h2:id<=s.dV.length):ij s (id:Int)=(s.tx id).state:=by
 unfold ij sa;rw [aQ (show (1:Int)<=(id:Int) by omega),aQ (show (id:Int)<=(s.dV.length:Int) by omega)];simp
theorem yQh{k:Nat}(h:1<=k/\k<=3):(fS 2 k).dV.length=0/\dk (fS 2 k)=2/\(dy (fS 2 k) 0).log.length=0/\(dy (fS 2 k) 1).log.length=0:=by
 rcases (show k=1\/k=2\/k=3 by omega) with rfl | rfl | rfl
 ·decide +kernel
 ·decide +kernel
 ·decide +kernel
theorem yQg{k:Nat}(h:1<=k/\k<=3)(safe:Bool):ml ⟨fS 2 k,[],0,safe,k⟩:=by
 obtain ⟨h1,h2,h3,h4⟩:=yQh h;have hO:∀ id,sD [] id=[]:=fun id=>by cases id <;> rfl
 have gk:∀ K,K<dk (fS 2 k)->(dy (fS 2 k) K).log=[]:=fun K hK=>by
  rw [h2] at hK;rcases (show K=0\/K=1 by omega) with rfl | rfl
  ·exact aT h3
  ·exact aT h4
 have hL:∀ {id},¬ jm (fS 2 k) id:=fun {id} q=>by have:=q.1;have:=q.2.1;omega
 have hX:eY (fun _=>False) (sD []) [] RF (fS 2 k):=by
  refine ⟨List.nodup_nil,fun id=>⟨fun q=>(by cases q),fun q=>by omega⟩,rfl,fun id _=>hO id,fun id o ho=>(by rw [hO id] at ho;cases ho),fun id q=>absurd q hL,fun id q=>absurd q hL,fun id q1 q2=>by omega,fun id q=>absurd q hL,fun id q=>absurd q hL,fun K hK c hc=>?_,fun id q=>absurd q hL,fun K hK i c hi=>?_⟩
  ·rw [gk K hK] at hc;cases hc
  ·rw [gk K hK] at hi;simp at hi
 exact ⟨⟨fun D d q hd=>q.more hd,[],RF,hX,fun a t _ ht=>(by simp at ht),fun a b hb=>(by cases hb)⟩,fun t ht=>(by cases ht)⟩
def ySl(o:gQ):Prop:=(o.kind=1/\o.found=true)\/o.value.size<=9
def Bk(dV:List gg):Prop:=∀ t∈dV,∀ o∈t.ops,ySl o
theorem yHy(x:ActD):(gh x).size<=9:=by
 unfold gh;split
 ·rw [ByteArray.size_extract];omega
 ·omega
theorem Bk.fQ{dV:List gg}(h:Bk dV)(id:Nat){o:gQ}(ho:ySl o):Bk (fQ dV id o):=fun t ht p hp=>by
 unfold Go.Proofs.YtmaiggbnceejiaaGreatDoor.fQ at ht;split at ht
 ·rename_i u hu;rcases bE ht with q | q
  ·exact h t q p hp
  ·subst q;rcases aL.1 hp with q | q
   ·exact h u (aC hu) p q
   ·simp at q;rw [q];exact ho
 ·exact h t ht p hp
theorem yNj(s:dW)(id:Int)(key:ByteArray):(fL s id key).2.2.1=true\/(fL s id key).2.1.size<=9:=by
 unfold fL;split
 ·exact .inr (aV _)
 ·dsimp only;split
  ·exact .inr (aV _)
  ·unfold Fa;dsimp only;split
   ·exact .inr (aV _)
   ·split
    ·exact .inr (aV _)
    ·exact .inl rfl
theorem yOq{s:dw}(h:Bk s.dV)(x:ActD):Bk (dx s x).dV:=by
 obtain ⟨r,hr⟩:∃ r,r=dx s x:=⟨_,rfl⟩;rw [<-hr];unfold dx at hr;by_cases e0:x.what=0
 ·rw [aJ e0] at hr;by_cases e:s.dV.length<7
  ·rw [aJ e] at hr;rw [hr];intro t ht;rcases aL.1 ht with q | q
   ·exact h t q
   ·rw [bK] at q;subst q;intro o ho;cases ho
  ·rw [aE e] at hr;rw [hr];exact h
 rw [aE e0] at hr;by_cases e1:x.what=1
 ·rw [aJ e1] at hr;rw [hr];dsimp only;split
  ·refine h.fQ _ ?_;rcases yNj s.h (fK s x) (eP x) with q | q
   ·exact .inl ⟨rfl,q⟩
   ·exact .inr q
  ·exact h
 rw [aE e1] at hr;by_cases e2:x.what=2\/x.what=3
 ·rw [aJ e2] at hr;rw [hr];dsimp only;split
  ·exact h.fQ _ (.inr (yHy x))
  ·exact h
 rw [aE e2] at hr;have fin:r.dV=s.dV:=by
  rw [hr]
  repeat (first | rfl | split)
 rw [fin];exact h
theorem yLe{s:dw}{t:gg}(ht:t∈(mb s).dV):∃ u∈s.dV,t.ops=u.ops:=by
 obtain ⟨i,hi⟩:=aN ht;unfold mb at hi;rw [bM] at hi
 cases hu:s.dV[i]? with
 | none=>rw [hu] at hi;cases hi
 | some u=>
  rw [hu,bS] at hi;have hi:=ax hi;refine ⟨u,aC hu,?_⟩;rw [<-hi];split <;> rfl
theorem yEl{s:dw}(h:Bk s.dV)(x:ActD):Bk (kH s x).dV:=fun t ht o ho=>by
 obtain ⟨u,hu,e⟩:=yLe ht;rw [e] at ho;exact yOq (s:={ s with now:=s.now+1 }) h x u hu o ho
def vJ(s:dw):Prop:=∀ t∈s.dV,(0<=t.eI/\t.eI<=s.now)/\-1<=t.jx/\t.jx<=s.now
theorem zXx{dV:List gg}{id:Nat}{o:gQ}{t:gg}(ht:t∈fQ dV id o):∃ u∈dV,u.eI=t.eI/\u.jx=t.jx:=by
 unfold fQ at ht;split at ht
 ·rename_i u hu;rcases bE ht with q | q
  ·exact ⟨t,q,rfl,rfl⟩
  ·exact ⟨u,aC hu,by rw [q],by rw [q]⟩
 ·exact ⟨t,ht,rfl,rfl⟩
theorem yUa{m:Nat}{s:dw}(h:vJ s)(hok:pU m s)(hn:0<=s.now)(x:ActD):vJ (dx s x):=by
 have kc:=(LQ hok x).2.2.2.2.2.1;obtain ⟨r,hr⟩:∃ r,r=dx s x:=⟨_,rfl⟩;rw [<-hr] at kc ⊢;have key:(∀ t∈r.dV,∃ u∈s.dV,u.eI=t.eI/\u.jx=t.jx)->vJ r:=fun q t ht=>by
  obtain ⟨u,hu,e1,e2⟩:=q t ht;have:=h u hu;rw [kc,<-e1,<-e2];exact this
 unfold dx at hr;by_cases e0:x.what=0
 ·rw [aJ e0] at hr;by_cases e:s.dV.length<7
  ·rw [aJ e] at hr;intro t ht;rw [kc];rw [hr] at ht;rcases aL.1 ht with q | q
   ·exact h t q
   ·rw [bK] at q;subst q;exact ⟨⟨hn,bG _⟩,bG _,by show (-1:Int)<=s.now;omega⟩
  ·rw [aE e] at hr;rw [hr];exact h
 rw [aE e0] at hr;by_cases e1:x.what=1
 ·rw [aJ e1] at hr;refine key fun t ht=>?_;rw [hr] at ht;dsimp only at ht;split at ht
  ·exact zXx ht
  ·exact ⟨t,ht,rfl,rfl⟩
 rw [aE e1] at hr;by_cases e2:x.what=2\/x.what=3
 ·rw [aJ e2] at hr;refine key fun t ht=>?_;rw [hr] at ht;dsimp only at ht;split at ht
  ·exact zXx ht
  ·exact ⟨t,ht,rfl,rfl⟩
 rw [aE e2] at hr;have fin:r.dV=s.dV:=by
  rw [hr]
  repeat (first | rfl | split)
 refine key fun t ht=>?_;rw [fin] at ht;exact ⟨t,ht,rfl,rfl⟩
theorem yMb{m:Nat}{s:dw}(h:vJ s)(hok:pU m s)(hn:0<=s.now)(x:ActD):vJ (kH s x):=by
 have h1:vJ { s with now:=s.now+1 }:=fun t ht=>by
  have q:=h t ht;exact ⟨⟨q.1.1,by show t.eI<=s.now+1;omega⟩,q.2.1,by show t.jx<=s.now+1;omega⟩
 have hg:=LQ (hok.clock (s.now+1)) x;have h2:=yUa h1 (hok.clock (s.now+1)) (by show (0:Int)<=s.now+1;omega) x;have kc:(dx { s with now:=s.now+1 } x).now=s.now+1:=hg.2.2.2.2.2.1;intro t ht;obtain ⟨i,hi⟩:=aN ht;unfold kH mb at hi;rw [bM] at hi;show (0<=t.eI/\t.eI<=(dx { s with now:=s.now+1 } x).now)/\-1<=t.jx/\t.jx<=(dx { s with now:=s.now+1 } x).now
 cases hu:(dx { s with now:=s.now+1 } x).dV[i]? with
 | none=>rw [hu] at hi;cases hi
 | some u=>
  rw [hu,bS] at hi;have hi:=ax hi;have q:=h2 u (aC hu);split at hi
  ·rw [<-hi];exact ⟨q.1,by show -1<=(dx { s with now:=s.now+1 } x).now;rw [kc];omega,bG _⟩
  ·rw [<-hi];exact q
structure tM(s:dw):Prop where
 nF:ml s
 short:Bk s.dV
 tim:vJ s
theorem tM.new{k:Nat}(h:1<=k/\k<=3)(safe:Bool):tM ⟨fS 2 k,[],0,safe,k⟩:=⟨yQg h safe,fun t ht=>(by cases ht),fun t ht=>(by cases ht)⟩
theorem tM.sY{m:Nat}{s:dw}(h:tM s)(hok:pU m s)(hn:s.now=m)(x:ActD):tM (kH s x):=⟨Tq h.nF hok (by omega) x,yEl h.short x,yMb h.tim hok (by omega) x⟩
structure nE(s:dW):Prop where
 lives:∀ k,k<s.lines.length->∀ n∈(s.line k).nodes,fs s n=true
 down:∀ x∈s.net.down,x∈s.dead
theorem nE.moves{s s':dW}(h:nE s)(hm:kp s s')(hd:s'.net.down=s.net.down):nE s':=by
 refine ⟨fun k hk n hn=>?_,fun x hx=>?_⟩
 ·obtain ⟨j,hj⟩:=aN hn;have hjl:j<(s.line k).nodes.length:=by rw [<-hm.len k];exact (aB.1 hj).1
  have q:=h.lives k (by rw [<-hm.ll];exact hk) _ (aC (og hjl));have e:=hm.lives hjl;rw [pH hj] at e;rw [e];exact q
 ·rw [hm.dead];rw [hd] at hx;exact h.down x hx
theorem zWy{h:dW}{id:Int}:∀ {k0:Nat} {ls:List ik},vd h id k0 ls=none->∀ l∈ls,∀ n∈l.nodes,fs h n=true->n.id≠id
 | _,[],_,l,hl,_,_,_=>by cases hl
 | k0,l0 :: ls,e,l,hl,n,hn,hv=>by
  unfold vd at e
  cases hf:xo h l0.nodes id with
  | some j=>rw [hf] at e;cases e
  | none=>
   rw [hf] at e;rcases bA.1 hl with q | q
   ·subst q;unfold xo at hf;rw [List.findIdx?_eq_none_iff] at hf;have:=hf n hn;intro q;simp [hv,q] at this
   ·exact zWy (k0:=k0+1) e l q n hn hv
theorem yMi{s:dW}(h:Safe s){k j:Nat}{n:eH}(hk:k<s.lines.length)(hj:(s.line k).nodes[j]?=some n)(hv:fs s n=true):mY s n.id=some (k,j):=by
 cases hn:mY s n.id with
 | none=>exact absurd rfl (zWy hn (s.line k) (aC (mL hk)) n (aC hj) hv)
 | some kj=>
  obtain ⟨k',j'⟩:=kj;obtain ⟨hk',n',q1,q2,q3⟩:=Av hn;have r1:=(h.line k hk).nf n (aC hj);have r2:=(h.line k' hk').nf n' (aC q1);obtain rfl:k'=k:=by omega
  have hP:=(h.line k' hk').ord;have:j'=j:=by
   rcases cB j' j with q | q | q
   ·have:=(rR.1 hP j' j n' n q q1 hj).1;omega
   ·exact q
   ·have:=(rR.1 hP j j' n n' q hj q1).1;omega
  rw [this]
theorem yLs(s:ey)(a:dp){m:dp}(h:m∈s.way):m∈(kF s a).way:=by
 unfold kF;split
 ·exact h
 ·exact bP _ h
theorem QY:∀ (ms:List dp) (s:ey) {m:dp},m∈s.way->m∈(ju s ms).way
 | [],_,_,h=>h
 | a :: ms,s,_,h=>QY ms (kF s a) (yLs s a h)
theorem Uc{s:ey}{m:dp}{ms:List dp}(h1:pY s.down m=false)(h2:s.way.length<200):m∈(ju s (m :: ms)).way:=by
 refine QY ms (kF s m) ?_;unfold kF;rw [h1,aP (by omega)];simp
theorem Tt:∀ (ms:List dp) (s:ey),(ju s ms).way.length<=s.way.length+ms.length
 | [],s=>by simp [ju]
 | a :: ms,s=>by
  have:=Tt ms (kF s a);have h2:(kF s a).way.length<=s.way.length+1:=by
   unfold kF;split
   ·exact Nat.le_succ _
   ·simp
  simp only [ju,aW];omega
structure xk(s s':dW):Prop where
 ll:s'.lines.length=s.lines.length
 len:∀ k,(s'.line k).nodes.length=(s.line k).nodes.length
 id:∀ k j,j<(s.line k).nodes.length->(eG s' k j).id=(eG s k j).id
 ep:∀ k j,j<(s.line k).nodes.length->(eG s' k j).db=(eG s k j).db
 log:∀ k j,k<s.lines.length->j<(s.line k).nodes.length->(eG s' k j).log.length=(eG s k j).log.length
theorem kp.MN{s s':dW}(h:kp s s')(hA:nE s)(hk:kG s'=kG s):xk s s':=
 ⟨h.ll,h.len,fun k j hj=>(h.at hj).1.id,fun k j hj=>(h.at hj).1.ep,fun k j hk' hj=>by
  have h1:=(h.at hj).2.length_le;apply aR;intro q;have:=h.more hk' hj (hA.lives k hk' _ (aC (og hj))) (by omega);omega⟩
def xi(s:dW)(k j:Nat):Prop:=k<s.lines.length/\j+1<(s.line k).nodes.length
def Uv(s:dW)(k j:Nat):Prop:=∃ m∈s.net.way,m.kind=1/\m.eI=(eG s k j).id/\m.to=(eG s k (j+1)).id/\m.db=(eG s k (j+1)).db
def Er(s:dW)(k j:Nat):Prop:=∃ m∈s.net.way,m.kind=2/\m.eI=(eG s k (j+1)).id/\m.to=(eG s k j).id/\m.db=(eG s k j).db
def Px(s:dW)(k j:Nat):Prop:=∃ m∈s.net.way,m.kind=3/\m.eI=(eG s k j).id/\m.to=(eG s k (j+1)).id/\m.db=(eG s k (j+1)).db/\m.n=(eG s k (j+1)).log.length/\(eG s k (j+1)).log.length<500
structure Kn(s:dW):Prop where
 few:s.net.way.length<=20
 hv:∀ m∈s.net.way,m.kind=2->∀ k j,k<s.lines.length->j<(s.line k).nodes.length->(eG s k j).id=m.eI->m.n=(eG s k j).log.length
 link:∀ k j,xi s k j->Uv s k j\/Er s k j\/(eG s k j).log.length<=(eG s k (j+1)).log.length
def Km(s:dW):Prop:=∃ k j,xi s k j/\Px s k j
theorem xk.link{s s':dW}(h:xk s s'){k j:Nat}(hl:xi s' k j):xi s k j:=⟨by rw [<-h.ll];exact hl.1,by rw [<-h.len];exact hl.2⟩
theorem xk.yt{s s':dW}(h:xk s s'){k j:Nat}(hl:xi s k j):xi s' k j:=⟨by rw [h.ll];exact hl.1,by rw [h.len];exact hl.2⟩
theorem xk.sync{s s':dW}(h:xk s s'){k j:Nat}(hl:xi s k j){m:dp}(hm:m∈s'.net.way)(q:m.kind=1/\m.eI=(eG s k j).id/\m.to=(eG s k (j+1)).id/\m.db=(eG s k (j+1)).db):Uv s' k j:=by
 have:=hl.2;exact ⟨m,hm,q.1,by rw [h.id k j (by omega)];exact q.2.1,by rw [h.id k (j+1) (by omega)];exact q.2.2.1,by rw [h.ep k (j+1) (by omega)];exact q.2.2.2⟩
theorem xk.zt{s s':dW}(h:xk s s'){k j:Nat}(hl:xi s k j){m:dp}(hm:m∈s'.net.way)(q:m.kind=2/\m.eI=(eG s k (j+1)).id/\m.to=(eG s k j).id/\m.db=(eG s k j).db):Er s' k j:=by
 have:=hl.2;exact ⟨m,hm,q.1,by rw [h.id k (j+1) (by omega)];exact q.2.1,by rw [h.id k j (by omega)];exact q.2.2.1,by rw [h.ep k j (by omega)];exact q.2.2.2⟩
theorem xk.fwd{s s':dW}(h:xk s s'){k j:Nat}(hl:xi s k j){m:dp}(hm:m∈s'.net.way)(q:m.kind=3/\m.eI=(eG s k j).id/\m.to=(eG s k (j+1)).id/\m.db=(eG s k (j+1)).db/\m.n=(eG s k (j+1)).log.length/\(eG s k (j+1)).log.length<500):Px s' k j:=by
 have:=hl.2;have e:=h.log k (j+1) hl.1 (by omega);exact ⟨m,hm,q.1,by rw [h.id k j (by omega)];exact q.2.1,by rw [h.id k (j+1) (by omega)];exact q.2.2.1,by rw [h.ep k (j+1) (by omega)];exact q.2.2.2.1,by rw [e];exact q.2.2.2.2.1,by rw [e];exact q.2.2.2.2.2⟩
theorem yLm{s:dW}{k:Nat}(h:(s.line k).nodes≠[]):pE s k=eG s k ((s.line k).nodes.length - 1):=by
 have hp:=bH.2 h;unfold pE;rw [CB _ _ hp];exact (pH (aA (by omega))).symm
theorem TD{s:dW}{k:Nat}(h:(s.line k).nodes≠[]):kX s k=[]↔(eG s k ((s.line k).nodes.length - 1)).log.length<=(s.line k).heard:=by
 unfold kX;rw [yLm h,dS]
theorem yDa{s:dW}(h:Safe s)(hn:qO s=false){m:dp}{R:List dp}(hw:s.net.way=m :: R){k j:Nat}(hnd:mY s m.to=some (k,j)){n:eH}(q1:(s.line k).nodes[j]?=some n)(e:(fy n m).1.log=n.log):im s 0=qx (je (fH s 0) k j (fy n m).1) (fy n m).2:=by
 obtain ⟨hk,n',q1',q2,q3⟩:=Av hnd;rw [q1] at q1';cases q1'
 have hm:s.net.way[0]?=some m:=by rw [hw];rfl
 have ji:eG (fH s 0) k j=n:=pH (s:=s) q1;unfold im;rw [hm];simp only;rw [hnd];simp only;have hst:lD (fH s 0) k j m=qx (je (fH s 0) k j (fy n m).1) (fy n m).2:=by unfold lD;rw [ji]
 rw [hst];have mQ:=fun i=>Az (fH s 0) (k:=k) hk j (fy n m).1 i;refine zTd (Ak.2 fun i hi=>?_);have hi':i<s.lines.length:=by
  have:(je (fH s 0) k j (fy n m).1).lines.length=s.lines.length:=Dl _ _ _ _;rw [<-this];exact hi
 have e1:=Ak.1 hn i hi';have hne:=(h.line i hi').ne;have ou:((qx (je (fH s 0) k j (fy n m).1) (fy n m).2).line i).nodes≠[]:=by
  show ((je (fH s 0) k j (fy n m).1).line i).nodes≠[];rw [mQ i];split
  ·rename_i ei;subst ei;intro q;exact hne (by have q2:(s.line i).nodes.set j (fy n m).1=[]:=q;simpa using q2)
  ·exact hne
 rw [TD hne] at e1;rw [TD ou];show (eG (je (fH s 0) k j (fy n m).1) i (((je (fH s 0) k j (fy n m).1).line i).nodes.length - 1)).log.length<=((je (fH s 0) k j (fy n m).1).line i).heard;unfold eG at e1 ⊢;rw [mQ i];by_cases ei:i=k
 ·subst ei;rw [aJ rfl];show (((s.line i).nodes.set j (fy n m).1).getD (((s.line i).nodes.set j (fy n m).1).length - 1) _).log.length<=(s.line i).heard;rw [aa,aH,pX];rw [aH] at e1;split
  ·rename_i ex;rw [ex.1,q1] at e1;simpa [e] using e1
  ·exact e1
 ·rw [aE ei];exact e1
theorem pW.uV{k:Nat}{l:ik}(h:pW k l){i j:Nat}{n a:eH}(hj:l.nodes[j]?=some n)(hi:l.nodes[i]?=some a){wh:Int}(hw:(i:Int)=j+wh):gp n wh=some a.id:=by
 have hp:=h.place hj;have hc:=h.cfg n (aC hj);have hil:=(aB.1 hi).1;unfold gp;rw [h.oD (aC hj),hp,hc,<-hw];simp only [af];rw [aQ (show (0:Int)<=(i:Int) by omega),aQ (show (i:Int)<(l.nodes.length:Int) by omega)];simp [hi]
theorem pW.yw{k:Nat}{l:ik}(h:pW k l){i j:Nat}{n a:eH}(hj:l.nodes[j]?=some n)(hi:l.nodes[i]?=some a){wh:Int}(hw:(i:Int)=j+wh):mO n wh a.id=true:=by
 unfold mO;rw [h.uV hj hi hw];simp
theorem yLq{n:eH}{m:dp}(e:(fy n m).1.log=n.log):((fy n m).2.length<=1/\∀ x∈(fy n m).2,x.kind=2->x.eI=n.id/\x.n=n.log.length)\/(m.kind=2/\m.db=n.db/\m.to=n.id/\mO n 1 m.eI=true/\0<=m.n/\(fy n m).2=sC n m.n):=by
 have hsend:∀ (s:eH) (wh:Int) (x:dp),(kY s wh x).length<=1:=fun s wh x=>by
  unfold kY;split <;> simp
 unfold fy at e ⊢;split at e
 ·rename_i h0;rw [aJ h0];split at e
  ·rename_i h1;rw [aJ h1];refine .inl ⟨hsend _ _ _,fun x hx _=>?_⟩;have hx':x∈kY n (-1) (pG 2 n.log.length):=hx;unfold kY at hx';split at hx'
   ·cases hx'
   ·simp at hx';rw [hx'];exact ⟨rfl,rfl⟩
  ·rename_i h1;rw [aE h1];split at e
   ·rename_i h2;rw [aJ h2];exact .inr ⟨h2.1,h0.1,h0.2,h2.2.1,h2.2.2,rfl⟩
   ·rename_i h2;rw [aE h2];split at e
    ·rename_i h3;have:=(Bu n m.cmd).2.1;rw [this] at e;simp at e
    ·rename_i h3;rw [aE h3];split at e
     ·rename_i h4;rw [aJ h4];refine .inl ⟨hsend _ _ _,fun x hx hk=>?_⟩;have hx':x∈kY (uN n m.n) (-1) (pG 4 (uN n m.n).gj):=hx;have:=(LN (by omega) (by omega) hx').2;omega
     ·rename_i h4;rw [aE h4];exact .inl ⟨by simp,fun x hx=>by cases hx⟩
 ·rename_i h0;rw [aE h0];exact .inl ⟨by simp,fun x hx=>by cases hx⟩
theorem UK{s:dW}(hA:nE s){k j k' j':Nat}(hk:k<s.lines.length)(hj:j<(s.line k).nodes.length)(hk':k'<s.lines.length)(hj':j'<(s.line k').nodes.length){m:dp}(h1:m.eI=(eG s k j).id)(h2:m.to=(eG s k' j').id):pY s.net.down m=false:=by
 have key:∀ k j,k<s.lines.length->j<(s.line k).nodes.length->(eG s k j).id∉s.net.down:=fun k j hk hj q=>by
  have a:=hA.lives k hk _ (aC (og hj));unfold fs at a;simp at a;exact a (hA.down _ q)
 unfold pY;rw [aP (by rw [h1];exact key k j hk hj),aP (by rw [h2];exact key k' j' hk' hj')];rfl
theorem yJt{s:dW}(h:iv s)(hA:nE s)(hp:Kn s\/Km s)(hne:s.net.way≠[])(hkn:kG (im s 0)=kG s):Kn (im s 0)\/Km (im s 0):=by
 have hG:=JJ h.safe h.held 0;have hL:=hG.mv.MN hA hkn
 cases hw:s.net.way with
 | nil=>exact absurd hw hne
 | cons m R=>
  have hm:s.net.way[0]?=some m:=by rw [hw];rfl
  have hof:∀ k j,k<s.lines.length->j<(s.line k).nodes.length->mY s (eG s k j).id=some (k,j):=fun k j hk hj=>yMi h.safe hk (og hj) (hA.lives k hk _ (aC (og hj)))
  cases hnd:mY s m.to with
  | none=>
   have hd:im s 0=fH s 0:=by
    unfold im;rw [hm];simp only;rw [hnd]
   have WY:(im s 0).net.way=R:=by rw [hd];show s.net.way.eraseIdx 0=R;rw [hw];rfl
   have iZ:∀ k j,k<s.lines.length->j<(s.line k).nodes.length->m.to≠(eG s k j).id:=fun k j hk hj q=>by
    rw [q,hof k j hk hj] at hnd;cases hnd
   have hin:∀ m'∈s.net.way,(∃ k j,k<s.lines.length/\j<(s.line k).nodes.length/\m'.to=(eG s k j).id)->m'∈(im s 0).net.way:=fun m' hm' ⟨k,j,hk,hj,q⟩=>by
    rw [WY];rw [hw] at hm';rcases bA.1 hm' with e | e
    ·rw [e] at q;exact absurd q (iZ k j hk hj)
    ·exact e
   rcases hp with hp | ⟨k,j,hl,m',hm',q⟩
   ·refine .inl ⟨by rw [WY];have:=hp.few;rw [hw] at this;simp at this;omega,fun m' hm' h2 k j hk hj hid=>?_,fun k j hl=>?_⟩
    ·rw [WY] at hm';rw [hL.ll] at hk;rw [hL.len] at hj;rw [hL.log k j hk hj];rw [hL.id k j hj] at hid;exact hp.hv m' (by rw [hw];exact ay _ hm') h2 k j hk hj hid
    ·have hl0:=hL.link hl;have hl2:=hl0.2;rcases hp.link k j hl0 with ⟨m',hm',q⟩ | ⟨m',hm',q⟩ | q
     ·exact .inl (hL.sync hl0 (hin m' hm' ⟨k,j+1,hl0.1,by omega,q.2.2.1⟩) q)
     ·exact .inr (.inl (hL.zt hl0 (hin m' hm' ⟨k,j,hl0.1,by omega,q.2.2.1⟩) q))
     ·exact .inr (.inr (by rw [hL.log k j hl0.1 (by omega),hL.log k (j+1) hl0.1 (by omega)];exact q))
   ·exact .inr ⟨k,j,hL.yt hl,hL.fwd hl (hin m' hm' ⟨k,j+1,hl.1,by have:=hl.2;omega,q.2.2.1⟩) q⟩
  | some kj=>
   obtain ⟨kk,jj⟩:=kj;obtain ⟨hkk,n,q1,q2,q3⟩:=Av hnd;have hjl:jj<(s.line kk).nodes.length:=(aB.1 q1).1;have ji:eG s kk jj=n:=pH q1;have Ro:=h.safe.line kk hkk;have hsame:(fy n m).1.log=n.log:=by
    rcases (Lj n m).2.1 with e | e
    ·exact e
    ·exfalso;have ht:Safe (fH s 0):=h.safe.way fun m' hm'=>bb hm';have hmo:yR (fH s 0) m:=h.safe.msg m (aC hm);have lO:=gb.step (s:=fH s 0) hkk q1 q2 m;have hS:=ht.step (k:=kk) (j:=jj) (n:=n) hkk q1 hmo;have BS:Held (lD (fH s 0) kk jj m):=(h.held.lines (s':=fH s 0) rfl rfl).lines lO.keys lO.dV;obtain ⟨g1,_⟩:=wm hS BS;have hd:im s 0=mH (lD (fH s 0) kk jj m):=by
      unfold im;rw [hm];simp only;rw [hnd]
     have oP:eG (lD (fH s 0) kk jj m) kk jj=(fy n m).1:=by
      refine pH ?_;show ((je (fH s 0) kk jj (fy (eG (fH s 0) kk jj) m).1).line kk).nodes[jj]?=_;rw [Az (fH s 0) (k:=kk) hkk,aJ rfl,show eG (fH s 0) kk jj=n from ji];show ((s.line kk).nodes.set jj _)[jj]?=_;rw [pX,aJ ⟨rfl,hjl⟩]
     have hlen:(lD (fH s 0) kk jj m).line kk=_:=rfl;have zh:jj<((lD (fH s 0) kk jj m).line kk).nodes.length:=by rw [lO.mv.len kk];exact hjl
     have a:=(g1.mv.at zh).2.length_le;rw [oP,e.2.2.2.2] at a;have b:=hL.log kk jj hkk hjl;rw [hd,ji] at b;simp at a;omega
   have hd:=yDa h.safe h.none hw hnd q1 hsame;have ot:(im s 0).net=ju ⟨R,s.net.lost,s.net.down⟩ (fy n m).2:=by
    rw [hd];show ju (Lw s.net 0) _=_;unfold Lw;rw [hw];rfl
   have hR:∀ m'∈R,m'∈(im s 0).net.way:=fun m' hm'=>by rw [ot];exact QY _ _ hm'
   have iZ:∀ k j,k<s.lines.length->j<(s.line k).nodes.length->m.to=(eG s k j).id->k=kk/\j=jj:=fun k j hk hj q=>by
    rw [q,hof k j hk hj] at hnd;cases hnd;exact ⟨rfl,rfl⟩
   rcases hp with hp | ⟨k,j,hl,m',hm',q⟩
   ·have fW:=hp.few;rw [hw] at fW;simp at fW;by_cases hq:Km (im s 0)
    ·exact .inr hq
    refine .inl ?_
    -- what a Have brings
    have EY:m.kind=2/\m.db=n.db/\m.to=n.id/\mO n 1 m.eI=true/\0<=m.n/\(fy n m).2=sC n m.n->(fy n m).2=[]/\∃ a,(s.line kk).nodes[jj+1]?=some a/\a.id=m.eI/\n.log.length<=a.log.length:=fun ⟨a1,a2,a3,a4,a5,a6⟩=>by
     obtain ⟨i,a,hi,ha,uw⟩:=Ro.RN q1 (FG a4);obtain rfl:i=jj+1:=by omega
     have hal:=(aB.1 ha).1;have hmn:=hp.hv m (by rw [hw];simp) a1 kk (jj+1) hkk hal (by rw [pH ha];exact uw);rw [pH ha] at hmn;have hlk:xi s kk jj:=⟨hkk,hal⟩;have hle:n.log.length<=a.log.length:=by
      apply aR;intro hlt;apply hq;refine ⟨kk,jj,hL.yt hlk,?_⟩;have hfw:∃ c ms,(fy n m).2=⟨3,n.id,m.eI,n.db,(a.log.length:Int),c⟩ :: ms:=by
       rw [a6];unfold sC;rw [FG a4];show ∃ c ms,ke n m.eI m.n.toNat (n.log.length - m.n.toNat)=_;have e1:m.n.toNat=a.log.length:=by omega
       rw [e1];obtain ⟨x,hx⟩:∃ x,n.log.length - a.log.length=x+1:=⟨n.log.length - a.log.length - 1,by omega⟩;rw [hx];unfold ke;rw [List.range_succ_eq_map];exact ⟨_,_,rfl⟩
      obtain ⟨c,ms,hfw⟩:=hfw;refine hL.fwd hlk (m:=⟨3,n.id,m.eI,n.db,(a.log.length:Int),c⟩) ?_ ⟨rfl,by rw [ji],by rw [pH ha];exact uw.symm,?_,by rw [pH ha],?_⟩
      ·rw [ot,hfw];refine Uc ?_ (by show R.length<200;omega);exact UK hA (k:=kk) (j:=jj) (k':=kk) (j':=jj+1) hkk hjl hkk hal (by rw [ji]) (by rw [pH ha];exact uw.symm)
      ·rw [pH ha];obtain ⟨E,_,_,hE⟩:=Ro.ep;rw [hE n (aC q1),hE a (aC ha)]
      ·rw [pH ha];have:=Ro.few n (aC q1);omega
     refine ⟨?_,a,ha,uw,hle⟩;rw [a6];unfold sC;rw [FG a4];show ke n m.eI m.n.toNat (n.log.length - m.n.toNat)=[];rw [show n.log.length - m.n.toNat=0 by omega];rfl
    have EP:(fy n m).2.length<=1/\∀ x∈(fy n m).2,x.kind=2->x.eI=n.id/\x.n=n.log.length:=by
     rcases yLq hsame with q | q
     ·exact q
     ·rw [(EY q).1];exact ⟨by simp,fun x hx=>by cases hx⟩
    refine ⟨?_,fun m' hm' h2 k j hk hj hid=>?_,fun k j hl=>?_⟩
    ·rw [ot];have:=Tt (fy n m).2 ⟨R,s.net.lost,s.net.down⟩;have h1:=EP.1;simp only at this;omega
    ·rw [hL.ll] at hk;rw [hL.len] at hj;rw [hL.log k j hk hj];rw [hL.id k j hj] at hid;rw [ot] at hm';rcases Iy hm' with e | e
     ·exact hp.hv m' (by rw [hw];exact ay _ e) h2 k j hk hj hid
     ·obtain ⟨b1,b2⟩:=EP.2 m' e h2;have Xd:mY s n.id=some (k,j):=by rw [<-b1,<-hid];exact hof k j hk hj
      have Nl:=hof kk jj hkk hjl;rw [ji,Xd] at Nl
      cases Nl
      rw [ji];exact b2
    ·have hl0:=hL.link hl;have hl2:=hl0.2;have hjn:(s.line k).nodes[j]?=some (eG s k j):=og (by omega);have zf:(s.line k).nodes[j+1]?=some (eG s k (j+1)):=og hl2;have Cz:=h.safe.line k hl0.1;have gk:(eG (im s 0) k j).log.length=(eG s k j).log.length/\(eG (im s 0) k (j+1)).log.length=(eG s k (j+1)).log.length:=⟨hL.log k j hl0.1 (by omega),hL.log k (j+1) hl0.1 (by omega)⟩;rcases hp.link k j hl0 with ⟨m',hm',q⟩ | ⟨m',hm',q⟩ | q
     ·rw [hw] at hm';rcases bA.1 hm' with e | e
      ·subst e;obtain ⟨rfl,rfl⟩:=iZ k (j+1) hl0.1 hl2 q.2.2.1;have e0:n=eG s k (j+1):=ji.symm;subst e0;refine .inr (.inl (hL.zt hl0 (m:=⟨2,(eG s k (j+1)).id,(eG s k j).id,(eG s k (j+1)).db,((eG s k (j+1)).log.length:Int),rT⟩) ?_ ⟨rfl,rfl,rfl,?_⟩))
       ·rw [ot];have hst:(fy (eG s k (j+1)) m').2=[⟨2,(eG s k (j+1)).id,(eG s k j).id,(eG s k (j+1)).db,((eG s k (j+1)).log.length:Int),rT⟩]:=by
         unfold fy;have hnb:=Cz.uV (wh:=-1) zf hjn (by omega);have Jj:=Cz.yw (wh:=-1) zf hjn (by omega);rw [aJ ⟨q.2.2.2,q.2.2.1⟩,aJ ⟨q.1,by rw [q.2.1];exact Jj⟩];show kY (eG s k (j+1)) (-1) _=_;unfold kY;rw [hnb];rfl
        rw [hst];refine Uc ?_ (by show R.length<200;omega);exact UK hA (k:=k) (j:=j+1) (k':=k) (j':=j) hl0.1 hl2 hl0.1 (by omega) rfl rfl
       ·obtain ⟨E,_,_,hE⟩:=Cz.ep;show (eG s k (j+1)).db=(eG s k j).db;rw [hE _ (aC hjn),hE _ (aC zf)]
      ·exact .inl (hL.sync hl0 (hR m' e) q)
     ·rw [hw] at hm';rcases bA.1 hm' with e | e
      ·subst e;obtain ⟨rfl,rfl⟩:=iZ k j hl0.1 (by omega) q.2.2.1;have Jj:=Cz.yw (wh:=1) hjn zf (by omega);have hmn:=hp.hv m' (by rw [hw];simp) q.1 k (j+1) hl0.1 hl2 q.2.1.symm;have hst:(fy n m').2=sC n m'.n:=by
        unfold fy;rw [aJ ⟨by rw [q.2.2.2,ji],by rw [q.2.2.1,ji]⟩,aE (fun e=>by have:=q.1;omega),aJ ⟨q.1,by rw [q.2.1,<-ji];exact Jj,by omega⟩]
       obtain ⟨_,a,ha,_,hle⟩:=EY ⟨q.1,by rw [q.2.2.2,ji],by rw [q.2.2.1,ji],by rw [q.2.1,<-ji];exact Jj,by omega,hst⟩;rw [zf] at ha
       cases ha
       refine .inr (.inr ?_);rw [gk.1,gk.2,ji];exact hle
      ·exact .inr (.inl (hL.zt hl0 (hR m' e) q))
     ·exact .inr (.inr (by rw [gk.1,gk.2];exact q))
   ·rw [hw] at hm';rcases bA.1 hm' with e | e
    ·exfalso;subst e;have hl2:=hl.2;obtain ⟨rfl,rfl⟩:=iZ k (j+1) hl.1 hl2 q.2.2.1;have hjn:(s.line k).nodes[j]?=some (eG s k j):=og (by omega);have Jj:=Ro.yw (wh:=-1) q1 hjn (by omega);rw [ji] at q;have hst:(fy n m').1=(mX n m'.cmd).1:=by
      unfold fy;rw [aJ ⟨q.2.2.2.1,q.2.2.1⟩,aE (fun e=>by have:=q.1;omega),aE (fun e=>by have:=q.1;omega),aJ ⟨q.1,by rw [q.2.1];exact Jj,q.2.2.2.2.1,q.2.2.2.2.2⟩]
     rw [hst,(Bu n m'.cmd).2.1] at hsame;simp at hsame
    ·exact .inr ⟨k,j,hL.yt hl,hL.fwd hl (hR m' e) q⟩
end Go.Proofs.YtmaiggbnceejiaaGreatDoor
