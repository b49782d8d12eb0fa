import Derived.Test.YtmaiggbnceejiaaGreatDoorS32
set_option linter.unusedVariables false
set_option maxRecDepth 100000
set_option maxHeartbeats 16000000
namespace Go.Proofs.YtmaiggbnceejiaaGreatDoor
def ow(p:fQ):VD:=if p.gone then xP else ⟨p.val,true⟩
def nF(ws:List fQ)(k:ByteArray):Option VD:=(ws.find? fun p=>decide (p.key=k)).map ow
def kB(s:dX)(id:Nat):Prop:=1<=id/\id<=s.dW.length/\((s.tx id).state=1\/(s.tx id).state=2)
def Me(D:List Nat)(a b:Nat):Prop:=b∈D->∃ p q:Nat,p<q/\D[p]?=some a/\D[q]?=some b
structure eX(E:Nat->Prop)(O:Nat->List fg)(D:List Nat)(V:gK)(s:dX):Prop where
 nd:D.Nodup
 dm:∀ id,id∈D↔1<=id/\id<=s.dW.length/\(s.tx id).state=3
 run:lG O jh D=some V
 out:∀ id,¬ (1<=id/\id<=s.dW.length)->O id=[]
 kd:∀ id,∀ o∈O id,(o.kind=1\/o.kind=2\/o.kind=3)/\o.key.size<=20
 opn:∀ id,kB s id->(gh V (O id)).isSome=true
 wP:∀ id,kB s id->∀ o∈O id,pW (s.keys o.key) id (decide (o.kind≠1))
 ats:∀ id,1<=id->id<=s.dW.length->(s.tx id).state≠4->∀ o∈O id,(s.tx id).ats.getD (ee s o.key) 0≠0
 uj:∀ id,kB s id->((s.tx id).writes.map (·.key)).Nodup
 ui:∀ id,kB s id->∀ k,nF (s.tx id).writes k=kx (O id) k
 xf:∀ K,K<du s->∀ c∈(eE s K).log,c.kind=2->(s.tx c.tx.toNat).state≠4->(c.writes.map (·.key)).Nodup/\∀ k,ee s k=K->nF c.writes k=kx (O c.tx.toNat) k
 hd1:∀ id,kB s id->¬ E id->∀ o∈O id,∀ a∈D,(kx (O a) o.key).isSome=true->nS (eE s (ee s o.key)).log 3 a
 hd2:∀ K,K<du s->∀ (i:Nat) c,(eE s K).log[i]?=some c->c.kind=2->(s.tx c.tx.toNat).state≠4->∀ o∈O c.tx.toNat,ee s o.key=K->∀ a∈D,(kx (O a) o.key).isSome=true->Me D a c.tx.toNat->∃ (j:Nat) (d:dv),j<i/\(eE s K).log[j]?=some d/\d.kind=3/\d.tx=(a:Int)
def ef(Q:List Nat->Prop)(O:Nat->List fg)(s:dX):Prop:=(∀ D d,Q D->d∉D->Q (D++[d]))/\∃ D V,eX (fun _=>False) O D V s/\Q D
theorem eX.same{E:Nat->Prop}{O:Nat->List fg}{D:List Nat}{V:gK}{s s':dX}(h:eX E O D V s)(ht:s'.dW=s.dW)(hk:s'.keys=s.keys)(hl:s'.lines.length=s.lines.length)(hn:∀ K,K<du s->(eE s' K).log=(eE s K).log)(h2:2<=s.lines.length):eX E O D V s':=by
 have e:∀ i,s'.tx i=s.tx i:=fun i=>by unfold dX.tx;rw [ht]
 have ed:du s'=du s:=by unfold du;rw [hl]
 have es:∀ k,ee s' k=ee s k:=fun k=>by unfold ee;rw [ed]
 have hL:∀ {i},kB s' i->kB s i:=fun {i} q=>by unfold kB at q ⊢;rw [ht,e] at q;exact q
 have XH:∀ k,ee s k<du s:=fun k=>ES h2 k;exact ⟨h.nd,fun id=>by rw [ht,e];exact h.dm id,h.run,by rw [ht];exact h.out,h.kd,fun id q=>h.opn id (hL q),fun id q=>by rw [hk];exact h.wP id (hL q),fun id q1 q2 q3 o ho=>by rw [e,es];rw [ht] at q2;rw [e] at q3;exact h.ats id q1 q2 q3 o ho,
  fun id q=>by rw [e];exact h.uj id (hL q),fun id q=>by rw [e];exact h.ui id (hL q),fun K hK c hc q1 q2=>by
   rw [ed] at hK;rw [hn K hK] at hc;rw [e] at q2;obtain ⟨z1,z2⟩:=h.xf K hK c hc q1 q2;exact ⟨z1,fun k hk=>z2 k (by rw [<-es];exact hk)⟩,
  fun id q hE o ho a ha q2=>by rw [es,hn _ (XH _)];exact h.hd1 id (hL q) hE o ho a ha q2,fun K hK i c hi q1 q2 o ho q3 a ha q4 q5=>by
   rw [ed] at hK;rw [hn K hK] at hi ⊢;rw [e] at q2;rw [es] at q3;exact h.hd2 K hK i c hi q1 q2 o ho q3 a ha q4 q5⟩
theorem eX.gone{E E':Nat->Prop}{O:Nat->List fg}{D:List Nat}{V:gK}{X:List Int}{s s':dX}(h:eX E O D V s)(hH:jI X s){id:Nat}(h1:1<=id)(h2:id<=s.dW.length)(hst:(s.tx id).state≠3)(hl:s'.lines=s.lines)(hlen:s'.dW.length=s.dW.length)(hk:s'.keys=gP s.keys id)(hx:∀ j,1<=j->j≠id->s'.tx j=s.tx j)(h4:(s'.tx id).state=4)(hE:∀ j,j≠id->¬ E' j->¬ E j):eX E' O D V s':=by
 have ed:du s'=du s:=by unfold du;rw [hl]
 have es:∀ k,ee s' k=ee s k:=fun k=>by unfold ee;rw [ed]
 have en:∀ K,eE s' K=eE s K:=Bl hl;have hL:∀ {i},kB s' i->i≠id/\kB s i/\s'.tx i=s.tx i:=fun {i} q=>by
  have hne:i≠id:=fun q2=>by rw [q2] at q;have:=q.2.2;omega
  have e:=hx i q.1 hne;refine ⟨hne,?_,e⟩;unfold kB at q ⊢;rw [hlen,e] at q;exact q
 have h0:s'.tx 0=s'.tx 1:=rfl;have h00:s.tx 0=s.tx 1:=rfl;have hT:∀ j,(s'.tx j).state≠4->s'.tx j=s.tx j:=fun j q=>by
  by_cases e0:j=0
  ·rw [e0,h0] at q;rw [e0,h0,h00];exact hx 1 (by omega) (fun q2=>by rw [q2] at q;exact q h4)
  ·exact hx j (by omega) (fun q2=>by rw [q2] at q;exact q h4)
 refine ⟨h.nd,fun i=>?_,h.run,by rw [hlen];exact h.out,h.kd,fun i q=>h.opn i (hL q).2.1,fun i q o ho=>?_,fun i q1 q2 q3 o ho=>?_,fun i q=>?_,fun i q=>?_,fun K hK c hc q1 q2=>?_,fun i q wm o ho a ha q2=>?_,fun K hK i c hi q1 q2 o ho q3 a ha q4 q5=>?_⟩
 ·rw [h.dm i,hlen];by_cases e:i=id
  ·subst e;constructor
   ·intro q;exact absurd q.2.2 hst
   ·intro q;have:=q.2.2;omega
  ·constructor
   ·intro q;exact ⟨q.1,q.2.1,by rw [hx i q.1 e];exact q.2.2⟩
   ·intro q;exact ⟨q.1,q.2.1,by rw [<-hx i q.1 e];exact q.2.2⟩
 ·obtain ⟨z1,z2,z3⟩:=hL q;rw [hk];exact (h.wP i z2 o ho).rel (hH.apart _).ok (by omega)
 ·have e:=hT i q3;rw [e] at q3 ⊢;rw [es];rw [hlen] at q2;exact h.ats i q1 q2 q3 o ho
 ·obtain ⟨z1,z2,z3⟩:=hL q;rw [z3];exact h.uj i z2
 ·obtain ⟨z1,z2,z3⟩:=hL q;rw [z3];exact h.ui i z2
 ·rw [ed] at hK;rw [en] at hc;rw [hT _ q2] at q2;obtain ⟨z1,z2⟩:=h.xf K hK c hc q1 q2;exact ⟨z1,fun k hk=>z2 k (by rw [<-es];exact hk)⟩
 ·obtain ⟨z1,z2,z3⟩:=hL q;rw [es,en];exact h.hd1 i z2 (hE i z1 wm) o ho a ha q2
 ·rw [ed] at hK;rw [en] at hi ⊢;rw [hT _ q2] at q2;rw [es] at q3;exact h.hd2 K hK i c hi q1 q2 o ho q3 a ha q4 q5
theorem yGq(s:dX){id:Nat}(h1:1<=id)(h2:id<=s.dW.length):((gi s id).tx id).state=4:=by
 unfold gi oq;split
 ·show ((db (db s id _) id _).tx id).state=4;rw [wG _ id _ h1 h1 (by simp [db];omega),aP rfl]
 ·show ((db s id _).tx id).state=4;rw [wG _ id _ h1 h1 h2,aP rfl]
theorem zVh(s:dX)(id:Nat):(gi s id).lines=s.lines:=by
 unfold gi oq;split <;> rfl
theorem eX.abort{E E':Nat->Prop}{O:Nat->List fg}{D:List Nat}{V:gK}{X:List Int}{s:dX}(h:eX E O D V s)(hH:jI X s){id:Nat}(h1:1<=id)(h2:id<=s.dW.length)(hst:(s.tx id).state≠3)(hE:∀ j,j≠id->¬ E' j->¬ E j):eX E' O D V (gi s id):=
 h.gone hH h1 h2 hst (zVh s id) (ML s id) (UH s id) (fun j hj hne=>GS s (by omega)) (yGq s h1 h2) hE
section
variable {E:Nat->Prop} {O:Nat->List fg} {D:List Nat} {V:gK} {s s':dX}
theorem eX.Vr(h:eX E O D V s){id:Nat}(h1:1<=id)(h2:id<=s.dW.length){t:jR}(hw:t.writes=(s.tx id).writes)(ha:∀ k,(s.tx id).ats.getD k 0≠0->t.ats.getD k 0≠0)(hst:t.state=(s.tx id).state\/((s.tx id).state=1/\t.state=2)):eX E O D V (db s id t):=by
 have hlen:(db s id t).dW.length=s.dW.length:=by simp [db]
 have es:∀ k,ee (db s id t) k=ee s k:=fun k=>rfl;have en:∀ K,eE (db s id t) K=eE s K:=Bl rfl;have hx:∀ j,1<=j->(db s id t).tx j=if j=id then t else s.tx j:=fun j hj=>wG s id t hj h1 h2
 have hS:∀ j,((db s id t).tx j).state=3↔(s.tx j).state=3:=fun j=>by
  by_cases e0:j=0
  ·subst e0;have q1:(db s id t).tx 0=(db s id t).tx 1:=rfl;have q2:s.tx 0=s.tx 1:=rfl;rw [q1,q2,hx 1 (by omega)];split
   ·rename_i e;rw [e];omega
   ·exact Iff.rfl
  ·rw [hx j (by omega)];split
   ·rename_i e;rw [e];omega
   ·exact Iff.rfl
 have h4:∀ j,((db s id t).tx j).state≠4->(s.tx j).state≠4:=fun j=>by
  by_cases e0:j=0
  ·subst e0;have q1:(db s id t).tx 0=(db s id t).tx 1:=rfl;have q2:s.tx 0=s.tx 1:=rfl;rw [q1,q2,hx 1 (by omega)];split
   ·rename_i e;rw [e];omega
   ·exact fun q=>q
  ·rw [hx j (by omega)];split
   ·rename_i e;rw [e];omega
   ·exact fun q=>q
 have hL:∀ {i},kB (db s id t) i->kB s i:=fun {i} q=>by
  refine ⟨q.1,by rw [<-hlen];exact q.2.1,?_⟩;have:=q.2.2;rw [hx i q.1] at this;split at this
  ·rename_i e;rw [e];omega
  ·exact this
 have hW:∀ i,1<=i->((db s id t).tx i).writes=(s.tx i).writes:=fun i hi=>by
  rw [hx i hi];split
  ·rename_i e;rw [e];exact hw
  ·rfl
 refine ⟨h.nd,fun i=>by rw [h.dm i,hlen,hS],h.run,by rw [hlen];exact h.out,h.kd,fun i q=>h.opn i (hL q),fun i q=>h.wP i (hL q),fun i q1 q2 q3 o ho=>?_,fun i q=>by rw [hW i q.1];exact h.uj i (hL q),fun i q=>by rw [hW i q.1];exact h.ui i (hL q),fun K hK c hc q1 q2=>?_,fun i q wm o ho a ha q2=>?_,fun K hK i c hi q1 q2 o ho q3 a ha q4 q5=>?_⟩
 ·have:=h.ats i q1 (by rw [<-hlen];exact q2) (h4 i q3) o ho;rw [hx i q1];split
  ·rename_i e;rw [e] at this;exact ha _ this
  ·exact this
 ·rw [en] at hc;exact h.xf K hK c hc q1 (h4 _ q2)
 ·rw [en];exact h.hd1 i (hL q) wm o ho a ha q2
 ·rw [en] at hi ⊢;exact h.hd2 K hK i c hi q1 (h4 _ q2) o ho q3 a ha q4 q5
theorem eX.keys(h:eX E O D V s){keys:fy}(hk:∀ k x w,pW (s.keys k) x w->pW (keys k) x w):eX E O D V { s with keys:=keys }:=
 ⟨h.nd,h.dm,h.run,h.out,h.kd,h.opn,fun id q o ho=>hk _ _ _ (h.wP id q o ho),h.ats,h.uj,h.ui,h.xf,h.hd1,h.hd2⟩
theorem eX.locked{X:List Int}(h:eX E O D V s)(hH:jI X s)(id:Int)(key:ByteArray){mode:Int}(hm:mode=1\/mode=2):eX E O D V (ix s id key mode).1:=by
 refine h.keys (fun k x w q=>?_);by_cases e:k=key
 ·subst e;rw [wE];exact q.lock (hH.apart k).ok hm
 ·rw [xW e];exact q
theorem eX.begin(h:eX E O D V s)(h2:2<=s.lines.length):eX E O D V (nf s):=by
 have hlen:=Cl s;have en:∀ K,eE (nf s) K=eE s K:=Bl rfl;have hold:∀ i,i<=s.dW.length->O i≠[]->1<=i/\(nf s).tx i=s.tx i:=fun i hi hO=>by
  have h1:1<=i:=Nat.pos_of_ne_zero fun e=>hO (h.out i (by omega));exact ⟨h1,yh s h1 hi⟩
 have hnew:O (s.dW.length+1)=[]:=h.out _ (by omega);have hlt:∀ i,(O i≠[])->1<=i/\i<=s.dW.length:=fun i hO=>aS fun q=>hO (h.out i q);have hL:∀ {i},kB (nf s) i->kB s i\/i=s.dW.length+1:=fun {i} q=>by
  have q2:=q.2.1;rw [hlen] at q2;by_cases e:i=s.dW.length+1
  ·exact .inr e
  ·refine .inl ⟨q.1,by omega,?_⟩;have:=q.2.2;rw [yh s q.1 (by omega)] at this;exact this
 have hO:∀ {i:Nat} {o:fg},o∈O i->1<=i/\i<=s.dW.length:=fun {i o} ho=>hlt i (fun e=>by rw [e] at ho;cases ho);refine ⟨h.nd,fun i=>?_,h.run,fun i q=>h.out i (fun q2=>q ⟨q2.1,by rw [hlen];omega⟩),h.kd,fun i q=>?_,fun i q o ho=>?_,fun i q1 q2 q3 o ho=>?_,fun i q=>?_,fun i q=>?_,fun K hK c hc q1 q2=>?_,fun i q wm o ho a ha q2=>?_,fun K hK i c hi q1 q2 o ho q3 a ha q4 q5=>?_⟩
 ·rw [h.dm i,hlen];constructor
  ·rintro ⟨q1,q2,q3⟩;exact ⟨q1,by omega,by rw [yh s q1 q2];exact q3⟩
  ·rintro ⟨q1,q2,q3⟩;by_cases e:i=s.dW.length+1
   ·rw [e,MB] at q3;simp at q3
   ·rw [yh s q1 (by omega)] at q3;exact ⟨q1,by omega,q3⟩
 ·rcases hL q with q | q
  ·exact h.opn i q
  ·rw [q,hnew];rfl
 ·rcases hL q with q | q
  ·exact h.wP i q o ho
  ·rw [q,hnew] at ho;cases ho
 ·have:=hO ho;rw [yh s this.1 this.2] at q3 ⊢;exact h.ats i this.1 this.2 q3 o ho
 ·rcases hL q with q' | q'
  ·rw [yh s q'.1 q'.2.1];exact h.uj i q'
  ·rw [q',MB];simp
 ·rcases hL q with q' | q'
  ·rw [yh s q'.1 q'.2.1];exact h.ui i q'
  ·intro k;rw [q',MB,hnew];rfl
 ·rw [en] at hc;by_cases e:1<=c.tx.toNat/\c.tx.toNat<=s.dW.length
  ·rw [yh s e.1 e.2] at q2;exact h.xf K hK c hc q1 q2
  ·by_cases e4:(s.tx c.tx.toNat).state≠4
   ·exact h.xf K hK c hc q1 e4
   ·exfalso;have e5:(s.tx c.tx.toNat).state=4:=aS e4;unfold dX.tx at e5;rw [aI] at e5
    cases hg:s.dW[c.tx.toNat - 1]? with
    | none=>rw [hg] at e5;simp at e5
    | some u=>
     have hl2:=(aB.1 hg).1;have e0:c.tx.toNat=0:=by omega
     apply q2;rw [e0];have r1:(nf s).tx 0=(nf s).tx 1:=rfl;have r2:s.tx 0=s.tx 1:=rfl;rw [r1,yh s (by omega) (by omega),<-r2];unfold dX.tx;rw [aI];rw [e0] at hg e5;rw [hg] at e5 ⊢;exact e5
 ·rcases hL q with q | q
  ·rw [en];exact h.hd1 i q wm o ho a ha q2
  ·rw [q,hnew] at ho;cases ho
 ·rw [en] at hi ⊢;have:=hO ho;rw [yh s this.1 this.2] at q2;exact h.hd2 K hK i c hi q1 q2 o ho q3 a ha q4 q5
end
theorem yGm{D:List Nat}{a b d:Nat}(hd:d∉D)(ha:a∈D)(h:Me (D++[d]) a b):Me D a b:=fun hb=>by
 obtain ⟨p,q,Nu,hp,hq⟩:=h (cH _ hb);have DM:q<D.length:=by
  apply aS;intro hn;rw [aM (by omega)] at hq;have:=aC hq;simp at this;rw [this] at hb;exact hd hb
 rw [aE (by omega)] at hp;rw [aE DM] at hq;exact ⟨p,q,Nu,hp,hq⟩
theorem yGn{D:List Nat}{b d:Nat}(hd:d∉D)(hnd:(D++[d]).Nodup)(hb:b∈D++[d])(h:Me (D++[d]) d b):False:=by
 obtain ⟨p,q,Nu,hp,hq⟩:=h hb;have DM:=(aB.1 hq).1;simp at DM;have:p<D.length:=by omega
 rw [aE this] at hp;exact hd (aC hp)
section
variable {E:Nat->Prop} {O:Nat->List fg} {D:List Nat} {V:gK} {s s':dX}
theorem eX.apart{X:List Int}(h:eX E O D V s)(hH:jI X s){d i:Nat}(hd:kB s d)(hi:kB s i)(hne:i≠d){o:fg}(ho:o∈O i):kx (O d) o.key=none:=by
 cases hl:kx (O d) o.key with
 | none=>rfl
 | some v=>
  exfalso;obtain ⟨o',ho',e1,e2⟩:=MR (os:=O d) (k:=o.key) (by rw [hl];rfl);have q1:=h.wP d hd o' ho';have q2:=h.wP i hi o ho;rw [e1,show decide (o'.kind≠1)=true by simp;omega] at q1;have:=pW.alone (hH.apart o.key) q1 q2;omega
theorem eX.Ax{X:List Int}(h:eX E O D V s)(hS:Safe s)(hH:jI X s){d:Nat}(hd:kB s d)(hl:s'.lines=s.lines)(hlen:s'.dW.length=s.dW.length)(hk:s'.keys=gP s.keys d)(hx:∀ j,1<=j->j≠d->s'.tx j=s.tx j)(h3:(s'.tx d).state=3)(hat:(s'.tx d).ats=(s.tx d).ats):∃ V',eX E O (D++[d]) V' s':=by
 have YA:d∉D:=fun q=>by have:=((h.dm d).1 q).2.2;have:=hd.2.2;omega
 obtain ⟨r,hr⟩:=bD.1 (h.opn d hd);have hV:∀ k,r.1 k=(kx (O d) k).getD (V k):=fun k=>Qr (us:=r.2) hr k;have hap:∀ {i:Nat},kB s i->i≠d->∀ o∈O i,kx (O d) o.key=none:=fun {i} hi hne o ho=>h.apart hH hd hi hne ho;have ed:du s'=du s:=by unfold du;rw [hl]
 have es:∀ k,ee s' k=ee s k:=fun k=>by unfold ee;rw [ed]
 have en:∀ K,eE s' K=eE s K:=Bl hl;have hL:∀ {i},kB s' i->i≠d/\kB s i/\s'.tx i=s.tx i:=fun {i} q=>by
  have hne:i≠d:=fun q2=>by rw [q2] at q;have:=q.2.2;omega
  have e:=hx i q.1 hne;refine ⟨hne,?_,e⟩;unfold kB at q ⊢;rw [hlen,e] at q;exact q
 have SV:∀ j,1<=j->(s'.tx j).state≠4->(s.tx j).state≠4:=fun j hj q=>by
  by_cases e:j=d
  ·rw [e];have:=hd.2.2;omega
  ·rw [<-hx j hj e];exact q
 have PF:∀ {i:Nat} {o:fg},o∈O i->1<=i/\i<=s.dW.length:=fun {i o} ho=>aS fun q=>by rw [h.out i q] at ho;cases ho
 have hnd':(D++[d]).Nodup:=by
  rw [bN];exact ⟨h.nd,by simp,fun a ha b hb=>by simp at hb;rw [hb];exact fun e=>YA (e ▸ ha)⟩
 refine ⟨r.1,hnd',fun i=>?_,?_,by rw [hlen];exact h.out,h.kd,fun i q=>?_,fun i q o ho=>?_,fun i q1 q2 q3 o ho=>?_,fun i q=>?_,fun i q=>?_,fun K hK c hc q1 q2=>?_,fun i q wm o ho a ha q2=>?_,fun K hK i c hi q1 q2 o ho q3 a ha q4 q5=>?_⟩
 ·rw [aN,bU,h.dm i,hlen];by_cases e:i=d
  ·subst e;exact ⟨fun _=>⟨hd.1,hd.2.1,h3⟩,fun _=>.inr rfl⟩
  ·constructor
   ·rintro (q | q)
    ·exact ⟨q.1,q.2.1,by rw [hx i q.1 e];exact q.2.2⟩
    ·exact absurd q e
   ·rintro ⟨q1,q2,q3⟩;exact .inl ⟨q1,q2,by rw [<-hx i q1 e];exact q3⟩
 ·rw [UC,h.run,cE,hr];rfl
 ·obtain ⟨z1,z2,z3⟩:=hL q;exact yDj (fun o ho=>by rw [hV,hap z2 z1 o ho];rfl) (h.opn i z2)
 ·obtain ⟨z1,z2,z3⟩:=hL q;rw [hk];exact (h.wP i z2 o ho).rel (hH.apart _).ok (by omega)
 ·rw [hlen] at q2;have:=h.ats i q1 q2 (SV i q1 q3) o ho;rw [es];by_cases e:i=d
  ·rw [e,hat,<-e];exact this
  ·rw [hx i q1 e];exact this
 ·obtain ⟨z1,z2,z3⟩:=hL q;rw [z3];exact h.uj i z2
 ·obtain ⟨z1,z2,z3⟩:=hL q;rw [z3];exact h.ui i z2
 ·rw [ed] at hK;rw [en] at hc;have h4:(s.tx c.tx.toNat).state≠4:=by
   by_cases e0:c.tx.toNat=0
   ·rw [e0] at q2 ⊢;have r1:s'.tx 0=s'.tx 1:=rfl;have r2:s.tx 0=s.tx 1:=rfl;rw [r1] at q2;rw [r2];exact SV 1 (by omega) q2
   ·exact SV _ (by omega) q2
  obtain ⟨z1,z2⟩:=h.xf K hK c hc q1 h4;exact ⟨z1,fun k hk=>z2 k (by rw [<-es];exact hk)⟩
 ·obtain ⟨z1,z2,z3⟩:=hL q;rw [es,en];rcases aN.1 ha with ha | ha
  ·exact h.hd1 i z2 wm o ho a ha q2
  ·simp at ha;rw [ha,hap z2 z1 o ho] at q2
   cases q2
 ·rw [ed] at hK;rw [en] at hi ⊢;rw [es] at q3;have hp:=PF ho;have h4:=SV _ hp.1 q2;rcases aN.1 ha with ha' | ha'
  ·exact h.hd2 K hK i c hi q1 h4 o ho q3 a ha' q4 (yGm YA ha' q5)
  ·simp at ha';subst ha';exfalso;by_cases eb:c.tx.toNat∈D++[a]
   ·exact yGn YA hnd' eb q5
   ·have tJ:kB s c.tx.toNat:=by
     refine ⟨hp.1,hp.2,?_⟩;have hne:c.tx.toNat≠a:=fun e=>eb (by rw [e];simp);have hno3:(s.tx c.tx.toNat).state≠3:=fun e=>eb (cH _ ((h.dm _).2 ⟨hp.1,hp.2,e⟩));have:=(hS.tx _ hp.1 hp.2).st;omega
    rw [hap tJ (fun e=>eb (by rw [e];simp)) o ho] at q4
    cases q4
end
theorem yEp{ws:List fQ}{f:fQ->Bool}{k:ByteArray}(h:∀ p∈ws,p.key=k->f p=true):nF (ws.filter f) k=nF ws k:=by
 unfold nF;rw [List.find?_filter];congr 1
 induction ws with
 | nil=>rfl
 | cons p ws ih=>
  rw [cJ,cJ];have ih:=ih (fun q hq e=>h q (by simp [hq]) e);by_cases e:p.key=k
  ·have:=h p (by simp) e;simp [e,this]
  ·simp only [e,decide_false];simpa using ih
theorem ySv{l:List dv}{kind:Int}{id:Nat}(h:nS l kind id)(r:List dv):nS (l++r) kind id:=Lt h (fun c hc=>cH _ hc)
section
variable {E:Nat->Prop} {O:Nat->List fg} {D:List Nat} {V:gK} {s s':dX}
theorem eX.grow(h:eX E O D V s)(ht:s'.dW=s.dW)(hk:s'.keys=s.keys)(hl:s'.lines.length=s.lines.length)(h2:2<=s.lines.length){K:Nat}{c:dv}(hn:∀ i,i<du s->i≠K->(eE s' i).log=(eE s i).log)(hK:K<du s->(eE s' K).log=(eE s K).log++[c])
  (hc:K<du s->c.kind=2->(s.tx c.tx.toNat).state≠4->kB s c.tx.toNat/\¬ E c.tx.toNat/\c.writes=uM s (s.tx c.tx.toNat) K):eX E O D V s':=by
 have e:∀ i,s'.tx i=s.tx i:=fun i=>by unfold dX.tx;rw [ht]
 have ed:du s'=du s:=by unfold du;rw [hl]
 have es:∀ k,ee s' k=ee s k:=fun k=>by unfold ee;rw [ed]
 have hL:∀ {i},kB s' i->kB s i:=fun {i} q=>by unfold kB at q ⊢;rw [ht,e] at q;exact q
 have XH:∀ k,ee s k<du s:=fun k=>ES h2 k;have nP:∀ i,i<du s->(eE s' i).log=(eE s i).log\/(i=K/\(eE s' i).log=(eE s i).log++[c]):=fun i hi=>by
  by_cases q:i=K
  ·exact .inr ⟨q,by rw [q];exact hK (by omega)⟩
  ·exact .inl (hn i hi q)
 refine ⟨h.nd,fun id=>by rw [ht,e];exact h.dm id,h.run,by rw [ht];exact h.out,h.kd,fun id q=>h.opn id (hL q),fun id q=>by rw [hk];exact h.wP id (hL q),fun id q1 q2 q3 o ho=>by rw [e,es];rw [ht] at q2;rw [e] at q3;exact h.ats id q1 q2 q3 o ho,
  fun id q=>by rw [e];exact h.uj id (hL q),fun id q=>by rw [e];exact h.ui id (hL q),fun i hi d hd q1 q2=>?_,fun id q hE o ho a ha q2=>?_,fun i hi j d hj q1 q2 o ho q3 a ha q4 q5=>?_⟩
 ·rw [ed] at hi;rw [e] at q2;have old:d∈(eE s i).log->(d.writes.map (·.key)).Nodup/\∀ k,ee s' k=i->nF d.writes k=kx (O d.tx.toNat) k:=fun hd=>by
   obtain ⟨z1,z2⟩:=h.xf i hi d hd q1 q2;exact ⟨z1,fun k hk=>z2 k (by rw [<-es];exact hk)⟩
  rcases nP i hi with q | ⟨q,q'⟩
  ·rw [q] at hd;exact old hd
  ·rw [q'] at hd;rcases aN.1 hd with hd | hd
   ·exact old hd
   ·simp at hd;subst hd;obtain ⟨z1,z2,z3⟩:=hc (by omega) q1 q2;rw [z3];refine ⟨?_,fun k hk=>?_⟩
    ·have:=h.uj _ z1;exact this.sublist ((bj).map _)
    ·rw [es] at hk;unfold uM;rw [yEp (fun p hp ep=>by simp [ep];omega),h.ui _ z1]
 ·rw [es];have:=h.hd1 id (hL q) hE o ho a ha q2;rcases nP _ (XH o.key) with q | ⟨q,q'⟩
  ·rw [q];exact this
  ·rw [q'];exact ySv this _
 ·rw [ed] at hi;rw [e] at q2;rw [es] at q3;have old:(eE s i).log[j]?=some d->∃ (j':Nat) (d':dv),j'<j/\(eE s i).log[j']?=some d'/\d'.kind=3/\d'.tx=(a:Int):=fun hj=>h.hd2 i hi j d hj q1 q2 o ho q3 a ha q4 q5;rcases nP i hi with q | ⟨q,q'⟩
  ·rw [q] at hj ⊢;exact old hj
  ·rw [q'] at hj ⊢;by_cases hjl:j<(eE s i).log.length
   ·rw [aE hjl] at hj;obtain ⟨j',d',z1,z2,z3⟩:=old hj;exact ⟨j',d',z1,by rw [aE (by omega)];exact z2,z3⟩
   ·rw [aM (by omega)] at hj;have hm:=aC hj;simp at hm;subst hm;obtain ⟨z1,z2,z3⟩:=hc (by omega) q1 q2;obtain ⟨d',y1,y2,y3⟩:=h.hd1 _ z1 z2 o ho a ha q4;rw [q3] at y1;obtain ⟨j',hj'⟩:=aO y1;have:=(aB.1 hj').1;exact ⟨j',d',by omega,by rw [aE this];exact hj',y2,y3⟩
end
theorem yDc{α β:Type}(f:α->List β)(p:β->Bool):∀ (l:List α),(l.flatMap f).find? p=(l.find? fun a=>((f a).find? p).isSome).bind fun a=>(f a).find? p
 | []=>rfl
 | a :: l=>by
  rw [bH,List.find?_append,cJ,yDc f p l]
  cases h:(f a).find? p with
  | none=>simp
  | some b=>simp [h]
theorem yTe{ws:List fQ}(h:(ws.map (·.key)).Nodup)(k:ByteArray):ws.reverse.find? (fun p=>decide (p.key=k))=ws.find? fun p=>decide (p.key=k):=by
 have key:∀ {l:List fQ} {p:fQ},(l.map (·.key)).Nodup->p∈l->p.key=k->(l.find? fun p=>decide (p.key=k))=some p:=by
  intro l
  induction l with
  | nil=>intro p _ hp;cases hp
  | cons q l ih=>
   intro p hn hp e;rw [cJ];simp only [bW,List.nodup_cons] at hn;rcases bV.1 hp with rfl | hp
   ·simp [e]
   ·have:q.key≠k:=fun e2=>hn.1 (by rw [e2,<-e];exact List.mem_map_of_mem hp);simp only [this,decide_false];exact ih hn.2 hp e
 cases hf:ws.find? fun p=>decide (p.key=k) with
 | none=>
  rw [dA] at hf ⊢;exact fun p hp=>hf p (by simpa using hp)
 | some p=>
  have hp:=dK hf;have e:p.key=k:=by simpa using List.find?_some hf
  exact key (by rw [dD];unfold List.Nodup at h ⊢;rw [List.pairwise_reverse];exact h.imp (fun q=>Ne.symm q)) (by simpa using hp) e
theorem yGy{ws:List fQ}(h:(ws.map (·.key)).Nodup)(k:ByteArray):(ws.reverse.find? fun p=>decide (p.key=k)).map ow=nF ws k:=by
 rw [yTe h];rfl
section
variable {E:Nat->Prop} {O:Nat->List fg} {D:List Nat} {V:gK} {s:dX}
theorem eX.view(h:eX E O D V s)(hS:Safe s){k:ByteArray}(hT:Told s (ee s k)):((pQ (eE s (ee s k)).log).find? fun p=>decide (p.key=k)).map ow=(yY O D k).bind fun d=>kx (O d) k:=by
 have hd2:=hS.ll.1;have hK:ee s k<du s:=ES hd2 k;have LC:ee s k<s.lines.length:=by have:=hS.dec_lt;omega
 obtain ⟨K,Fc⟩:∃ K,K=ee s k:=⟨_,rfl⟩;rw [<-Fc] at hT hK LC ⊢;have hLog:=hS.log K LC;obtain ⟨log,jE⟩:∃ log,log=(eE s K).log:=⟨_,rfl⟩;rw [<-jE] at hLog ⊢
 -- commits,and what they wrote
 have hcm:∀ c∈log,c.kind=3->1<=c.tx/\c.tx.toNat∈D:=fun c hc h3=>by
  have q:=hLog.all c hc;have q2:=q.jZ (by omega);refine ⟨q.lo,(h.dm _).2 ⟨by have:=q.lo;omega,by have:=q.hi;omega,?_⟩⟩;rcases q2 with q2 | q2 | q2
  ·omega
  ·exact q2.2.1
  ·omega
 have hpr:∀ c∈log,c.kind=3->(((log.getD ((kp log 2 c.tx).getD 0) uf).writes).reverse.find? fun p=>decide (p.key=k)).map ow=kx (O c.tx.toNat) k:=fun c hc h3=>by
  obtain ⟨i,hi⟩:=aO hc;obtain ⟨j,p,yz,hj,p1,p2⟩:=hLog.rq (by omega) i c hi h3;have hsome:∃ n,kp log 2 c.tx=some n:=by
   cases hp:kp log 2 c.tx with
   | some n=>exact ⟨n,rfl⟩
   | none=>exact absurd ⟨p1,p2⟩ (RT.1 hp p (aC hj))
  obtain ⟨n,hn⟩:=hsome;rw [hn,dL];unfold kp at hn;obtain ⟨hnl,yx,DP⟩:=cA.1 hn;simp only [bT,bA] at yx;have hget:log.getD n uf=log[n]:=by rw [aI,aA hnl];rfl
  rw [hget];have hmem:log[n]∈(eE s K).log:=by rw [<-jE];exact List.getElem_mem hnl
  have hst:(s.tx (log[n]).tx.toNat).state≠4:=by
   rw [yx.2];have:=((h.dm _).1 (hcm c hc h3).2).2.2;omega
  obtain ⟨z1,z2⟩:=h.xf K hK _ hmem yx.1 hst;rw [yGy z1,z2 k Fc.symm,yx.2]
 unfold pQ;rw [yDc,Option.map_bind]
 -- the last Ax that wrote the key
 have hfun:∀ c∈log.reverse.filter (fun c=>decide (c.kind=3)),((((log.getD ((kp log 2 c.tx).getD 0) uf).writes).reverse.find? fun p=>decide (p.key=k)).isSome)=(kx (O c.tx.toNat) k).isSome:=fun c hc=>by
  rw [bE] at hc;rw [<-hpr c (by simpa using hc.1) (by simpa using hc.2),Option.isSome_map]
 cases hf:(log.reverse.filter (fun c=>decide (c.kind=3))).find? (fun c=>(((log.getD ((kp log 2 c.tx).getD 0) uf).writes).reverse.find? fun p=>decide (p.key=k)).isSome) with
 | none=>
  rw [dA] at hf
  cases hw:yY O D k with
  | none=>rfl
  | some a=>
   exfalso;unfold yY at hw;have ha:a∈D:=by simpa using dK hw
   have FW:=List.find?_some hw;obtain ⟨o,ho,e1,_⟩:=MR FW;obtain ⟨a1,a2,a3⟩:=(h.dm a).1 ha;have hat:=h.ats a a1 a2 (by omega) o ho;rw [e1,<-Fc] at hat;have nO:fX s a K 1=some ⟨3,a,(s.tx a).time,[]⟩:=by
    unfold fX;simp only;rw [aK (by omega),aK hat,aK (by omega),aP a3]
   obtain ⟨c,c1,c2,c3⟩:=hT a a1 a2 1 _ nO;rw [<-jE] at c1;have Ak:c∈log.reverse.filter (fun c=>decide (c.kind=3)):=bE.2 ⟨by simpa using c1,by simpa using c2⟩;have:=hf c Ak;rw [hfun c Ak,c3] at this;simp at this;rw [this] at FW
   cases FW
 | some c=>
  rw [cE];have On:=dK hf;have SR:=List.find?_some hf;rw [hfun c On] at SR;have hcl:=bE.1 On;have hc3:c.kind=3:=by simpa using hcl.2
  have YI:c∈log:=by simpa using hcl.1
  show Option.map ow _=_;rw [hpr c YI hc3];obtain ⟨t1,t2⟩:=hcm c YI hc3
  -- it is the last one of the order
  have hlast:yY O D k=some c.tx.toNat:=by
   cases hw:yY O D k with
   | none=>
    unfold yY at hw;rw [dA] at hw;exact absurd SR (hw _ (by simpa using t2))
   | some a=>
    have hw0:=hw;unfold yY at hw;have ha:a∈D:=by simpa using dK hw
    have FW:=List.find?_some hw;congr 1;apply aS;intro hne;obtain ⟨o,ho,e1,_⟩:=MR FW;obtain ⟨a1,a2,a3⟩:=(h.dm a).1 ha;have hat:=h.ats a a1 a2 (by omega) o ho;rw [e1,<-Fc] at hat;have nO:fX s a K 1=some ⟨3,a,(s.tx a).time,[]⟩:=by
     unfold fX;simp only;rw [aK (by omega),aK hat,aK (by omega),aP a3]
    obtain ⟨ca,ZG,ZF,ca3⟩:=hT a a1 a2 1 _ nO;rw [<-jE] at ZG;simp only at ZF;obtain ⟨ia,SN⟩:=aO ZG;obtain ⟨jp,p,hjp,hp,p1,p2⟩:=hLog.rq (by omega) ia ca SN ZF;have IB:p.tx.toNat=a:=by rw [p2,ca3];simp
    -- c is ahead of a in D
    have YK:Me D c.tx.toNat a:=fun _=>by
     obtain ⟨x,hx⟩:=aO t2;obtain ⟨y,hy⟩:=aO ha;rcases cI x y with q | q | q
     ·exact ⟨x,y,q,hx,hy⟩
     ·rw [q,hy] at hx;exact absurd (ax hx) hne
     ·exfalso
      -- a would not be the last
      obtain ⟨l1,l2,hsp,hno⟩:=List.find?_eq_some_iff_append.1 hw |>.2;have hxl:=(aB.1 hx).1;have hr:D=l2.reverse++a :: l1.reverse:=by
       have:=ai List.reverse hsp;simpa using this
      have hmem:c.tx.toNat∈l1:=by
       rw [hr] at hx hy;have hy':y=l2.reverse.length:=by
        have hnd:=h.nd;rw [hr] at hnd;have h0:(l2.reverse++a :: l1.reverse)[l2.reverse.length]?=some a:=by rw [aM (by omega)];simp
        have Wm:=(aB.1 hy).1;have hl0:=(aB.1 h0).1;exact (List.getElem_inj hnd).1 ((aB.1 hy).2.trans (aB.1 h0).2.symm)
       rw [aM (by omega)] at hx;have:x - l2.reverse.length≠0:=by omega
       obtain ⟨z,hz⟩:=Nat.exists_eq_succ_of_ne_zero this;rw [hz,cT] at hx;simpa using aC hx
      have:=hno _ hmem;rw [SR] at this
      cases this
    obtain ⟨jc,dc,hjc,Kq,dc1,dc2⟩:=h.hd2 K hK jp p (by rw [<-jE];exact hp) p1 (by rw [IB];omega) o (by rw [IB];exact ho) (by rw [e1];exact Fc.symm) c.tx.toNat t2 (by rw [e1];exact SR) (by rw [IB];exact YK);rw [<-jE] at Kq
    -- but c is Bd a in the log
    obtain ⟨l1,l2,hsp,hno⟩:=List.find?_eq_some_iff_append.1 hf |>.2;have Ie:ca∈log.reverse.filter (fun c=>decide (c.kind=3)):=bE.2 ⟨by simpa using ZG,by simpa using ZF⟩;have Oo:=hfun ca Ie;have FV:ca.tx.toNat=a:=by rw [ca3];simp
    rw [FV,FW] at Oo;have Oq:ca∈l2:=by
     rw [hsp] at Ie;rcases aN.1 Ie with q | q
     ·have:=hno ca q;rw [Oo] at this
      cases this
     ·rcases bV.1 q with q | q
      ·exfalso;apply hne;rw [<-q,FV]
      ·exact q
    -- positions in the log
    have hsub:[c,ca].Sublist log.reverse:=by
     refine List.Sublist.trans ?_ (bj (p:=fun c=>decide (c.kind=3)));rw [hsp];refine List.Sublist.trans ?_ (List.sublist_append_right _ _);exact List.Sublist.cons_cons _ (List.singleton_sublist.2 Oq)
    have Ng:[ca,c].Sublist log:=by simpa using hsub.reverse
    -- c=dc,by one
    have hone:c=dc:=by
     obtain ⟨ic,hic⟩:=aO YI;have hpw:=ud.1 hLog.one;rcases cI ic jc with q | q | q
     ·exact absurd ⟨by omega,by omega⟩ (hpw ic jc _ _ q hic Kq)
     ·rw [q,Kq] at hic;exact (ax hic).symm
     ·exact absurd ⟨by omega,by omega⟩ (hpw jc ic _ _ q Kq hic)
    obtain ⟨r1,r2,hr,YH,hr2⟩:=List.cons_sublist_iff.1 Ng;have hc2:c∈r2:=List.singleton_sublist.1 hr2;obtain ⟨x,hx⟩:=aO YH;obtain ⟨y,hy⟩:=aO hc2;have hxl:=(aB.1 hx).1;have hx':log[x]?=some ca:=by rw [hr,aE hxl];exact hx
    have hy':log[r1.length+y]?=some c:=by rw [hr,aM (by omega),Nat.add_sub_cancel_left];exact hy
    have Na:∀ (i j:Nat) (d:dv),log[i]?=some d->log[j]?=some d->i=j:=fun i j d hi hj=>by
     have hpw:=ud.1 hLog.one;rcases cI i j with q | q | q
     ·exact absurd ⟨rfl,rfl⟩ (hpw i j _ _ q hi hj)
     ·exact q
     ·exact absurd ⟨rfl,rfl⟩ (hpw j i _ _ q hj hi)
    rw [<-hone] at Kq;have e1:=Na _ _ _ hx' SN;have e2:=Na _ _ _ hy' Kq;omega
  rw [hlast,cE]
end
def CZ(O:Nat->List fg)(id:Nat)(o:fg):Nat->List fg:=fun j=>if j=id then O id++[o] else O j
theorem Jr(O:Nat->List fg)(id:Nat)(o:fg):CZ O id o id=O id++[o]:=aP rfl
theorem Bn(O:Nat->List fg){id j:Nat}(o:fg)(h:j≠id):CZ O id o j=O j:=aK h
section
variable {E:Nat->Prop} {O:Nat->List fg} {D:List Nat} {V:gK} {s:dX}
theorem eX.op(h:eX E O D V s)(hS:Safe s){id:Nat}(h1:1<=id)(h2:id<=s.dW.length)(hst:(s.tx id).state=1){o:fg}{ws:List fQ}(hk:(o.kind=1\/o.kind=2\/o.kind=3)/\o.key.size<=20)(OS:pW (s.keys o.key) id (decide (o.kind≠1)))(hat:(s.tx id).ats.getD (ee s o.key) 0≠0)
  (hread:o.kind=1->(kx (O id) o.key).getD (V o.key)=yb o) (FO:∀ a∈D,(kx (O a) o.key).isSome=true->nS (eE s (ee s o.key)).log 3 a) (hwn:(ws.map (·.key)).Nodup) (hw:∀ k,nF ws k=kx (O id++[o]) k):eX E (CZ O id o) D V (db s id { s.tx id with writes:=ws }):=by
 have Ap:kB s id:=⟨h1,h2,.inl hst⟩;have hlen:(db s id { s.tx id with writes:=ws }).dW.length=s.dW.length:=by simp [db]
 have hx:∀ j,1<=j->(db s id { s.tx id with writes:=ws }).tx j=if j=id then { s.tx id with writes:=ws } else s.tx j:=fun j hj=>wG s id _ hj h1 h2
 have hD:id∉D:=fun q=>by have:=((h.dm id).1 q).2.2;omega
 have Kx:∀ j,((db s id { s.tx id with writes:=ws }).tx j).state=(s.tx j).state/\((db s id { s.tx id with writes:=ws }).tx j).ats=(s.tx j).ats:=fun j=>by
  by_cases e0:j=0
  ·subst e0;have q1:(db s id { s.tx id with writes:=ws }).tx 0=(db s id { s.tx id with writes:=ws }).tx 1:=rfl;have q2:s.tx 0=s.tx 1:=rfl;rw [q1,q2,hx 1 (by omega)];split
   ·rename_i e;rw [e];exact ⟨rfl,rfl⟩
   ·exact ⟨rfl,rfl⟩
  ·rw [hx j (by omega)];split
   ·rename_i e;rw [e];exact ⟨rfl,rfl⟩
   ·exact ⟨rfl,rfl⟩
 have hL:∀ {i},kB (db s id { s.tx id with writes:=ws }) i->kB s i:=fun {i} q=>by
  unfold kB at q ⊢;rw [hlen,(Kx i).1] at q;exact q
 have en:∀ K,eE (db s id { s.tx id with writes:=ws }) K=eE s K:=Bl rfl;have hfree:∀ K,K<du s->∀ c∈(eE s K).log,c.tx.toNat≠id:=fun K hK c hc e=>by
  have LC:K<s.lines.length:=by have:=hS.dec_lt;omega
  have q:=(hS.log K LC).all c hc;exact hS.free hst LC hc (by have:=q.lo;omega)
 have Yo:∀ a∈D,CZ O id o a=O a:=fun a ha=>Bn O o (fun e=>hD (e ▸ ha));refine ⟨h.nd,fun i=>by rw [h.dm i,hlen,(Kx i).1],by rw [yHi D jh Yo];exact h.run,fun i q=>?_,fun i p hp=>?_,fun i q=>?_,fun i q p hp=>?_,fun i q1 q2 q3 p hp=>?_,fun i q=>?_,fun i q=>?_,fun K hK c hc q1 q2=>?_,fun i q wm p hp a ha q2=>?_,fun K hK i c hi q1 q2 p hp q3 a ha q4 q5=>?_⟩
 ·rw [hlen] at q;rw [Bn O o (fun e=>q (by rw [e];exact ⟨h1,h2⟩))];exact h.out i q
 ·by_cases e:i=id
  ·rw [e,Jr] at hp;rcases aN.1 hp with hp | hp
   ·exact h.kd id p hp
   ·simp at hp;rw [hp];exact hk
  ·rw [Bn O o e] at hp;exact h.kd i p hp
 ·by_cases e:i=id
  ·rw [e,Jr];exact yKv (h.opn id Ap) hread
  ·rw [Bn O o e];exact h.opn i (hL q)
 ·by_cases e:i=id
  ·rw [e,Jr] at hp;rw [e];rcases aN.1 hp with hp | hp
   ·exact h.wP id Ap p hp
   ·simp at hp;rw [hp];exact OS
  ·rw [Bn O o e] at hp;exact h.wP i (hL q) p hp
 ·rw [(Kx i).1] at q3;rw [(Kx i).2];rw [hlen] at q2;by_cases e:i=id
  ·rw [e,Jr] at hp;rw [e];rcases aN.1 hp with hp | hp
   ·exact h.ats id h1 h2 (by omega) p hp
   ·simp at hp;rw [hp];exact hat
  ·rw [Bn O o e] at hp;exact h.ats i q1 q2 q3 p hp
 ·rw [hx i q.1];split
  ·exact hwn
  ·exact h.uj i (hL q)
 ·rw [hx i q.1];split
  ·rename_i e;rw [e,Jr];exact hw
  ·rename_i e;rw [Bn O o e];exact h.ui i (hL q)
 ·rw [en] at hc;rw [(Kx _).1] at q2;rw [Bn O o (hfree K hK c hc)];exact h.xf K hK c hc q1 q2
 ·rw [en];rw [Yo a ha] at q2;by_cases e:i=id
  ·rw [e,Jr] at hp;rcases aN.1 hp with hp | hp
   ·exact h.hd1 id Ap (by rw [<-e];exact wm) p hp a ha q2
   ·simp at hp;rw [hp] at q2 ⊢;exact FO a ha q2
  ·rw [Bn O o e] at hp;exact h.hd1 i (hL q) wm p hp a ha q2
 ·rw [en] at hi ⊢;rw [(Kx _).1] at q2;rw [Bn O o (hfree K hK c (aC hi))] at hp;rw [Yo a ha] at q4;exact h.hd2 K hK i c hi q1 q2 p hp q3 a ha q4 q5
theorem eX.heads(h:eX E O D V s)(h2:2<=s.lines.length){k:ByteArray}(hT:Told s (ee s k)):∀ a∈D,(kx (O a) k).isSome=true->nS (eE s (ee s k)).log 3 a:=fun a ha FW=>by
 have hK:ee s k<du s:=ES h2 k;obtain ⟨o,ho,e1,_⟩:=MR FW;obtain ⟨a1,a2,a3⟩:=(h.dm a).1 ha;have hat:=h.ats a a1 a2 (by omega) o ho;rw [e1] at hat;have nO:fX s a (ee s k) 1=some ⟨3,a,(s.tx a).time,[]⟩:=by
  unfold fX;simp only;rw [aK (by omega),aK hat,aK (by omega),aP a3]
 exact hT a a1 a2 1 _ nO
theorem yRd(t:jR)(log:List dv)(k:ByteArray):yb ⟨1,k,(Gf t log k).1,(Gf t log k).2⟩=(((t.writes.reverse.find? fun p=>decide (p.key=k)).map ow).or (((pQ log).find? fun p=>decide (p.key=k)).map ow)).getD xP:=by
 unfold Gf Eu;rw [List.find?_append];have val:∀ p:fQ,yb ⟨1,k,(if p.gone then (ByteArray.empty,false) else (p.val,true)).1,(if p.gone then (ByteArray.empty,false) else (p.val,true)).2⟩=ow p:=fun p=>by
  unfold yb ow
  cases p.gone <;> rfl
 cases t.writes.reverse.find? fun p=>decide (p.key=k) with
 | some p=>exact val p
 | none=>
  simp only [Option.map_none,Option.none_or]
  cases (pQ log).find? fun p=>decide (p.key=k) with
  | some p=>exact val p
  | none=>rfl
end
section
variable {E:Nat->Prop} {O:Nat->List fg} {D:List Nat} {V:gK} {s:dX}
theorem eX.eH{X:List Int}(h:eX E O D V s)(hH:jI X s){i:Int}(hi:1<=i/\i<=(s.dW.length:Int)):eX E O D V (Go.Proofs.YtmaiggbnceejiaaGreatDoor.eH s i):=by
 unfold Go.Proofs.YtmaiggbnceejiaaGreatDoor.eH;split
 ·rename_i e;exact h.abort hH (by omega) (by omega) (by omega) (fun j _ q=>q)
 ·exact h
theorem eX.mb{X:List Int}:∀ (ids:List Int) {s:dX},eX E O D V s->jI X s->(∀ i∈ids,1<=i/\i<=(s.dW.length:Int))->eX E O D V (jV s ids)
 | [],s,h,_,_=>h
 | i :: ids,s,h,hH,hi=>by
  have q:=hi i (by simp);show eX E O D V (jV (Go.Proofs.YtmaiggbnceejiaaGreatDoor.eH s i) ids);exact eX.mb ids (h.eH hH q) (hH.eH q.1) (fun j hj=>by rw [RY];exact hi j (by simp [hj]))
theorem eX.NL(h:eX E O D V s)(hS:Safe s)(hH:Held s){id:Nat}(h1:1<=id)(h2:id<=s.dW.length)(ho:(s.tx id).state=1)(key:ByteArray)(hks:key.size<=20){mode:Int}(hm:mode=1\/mode=2):eX E O D V (jT s id key mode).1:=by
 have hi1:(1:Int)<=(id:Int):=by omega
 have hi2:(id:Int)<=(s.dW.length:Int):=by omega
 obtain ⟨l1,l2⟩:=hH.locked hi1 hi2 (by simpa using ho) key hks hm;have q:=h.locked hH id key hm;have hin:∀ i∈oO (ix s id key mode).1 id key,1<=i/\i<=((ix s id key mode).1.dW.length:Int):=fun i hi=>by
  unfold oO at hi;rw [bE,af] at hi;obtain ⟨⟨a,ha,rfl⟩,_⟩:=hi;rw [bZ] at ha;omega
 unfold jT;simp only;split
 ·exact (q.mb _ l1 hin).locked (l1.mb (fun i hi=>(hin i hi).1)) id key hm
 ·exact q
theorem eX.lock(h:eX E O D V s)(hS:Safe s)(hH:Held s){id:Nat}(h1:1<=id)(h2:id<=s.dW.length)(ho:(s.tx id).state=1)(key:ByteArray)(hks:key.size<=20){mode:Int}(hm:mode=1\/mode=2) :
  eX E O D V (gV s id key mode).1/\((gV s id key mode).2=0->pW ((gV s id key mode).1.keys key) id (decide (mode=2))/\((gV s id key mode).1.tx id).ats.getD (ee s key) 0≠0):=by
 have hL:=UQ hS hH h1 h2 ho key hks hm;have q:=h.NL hS hH h1 h2 ho key hks hm;have hG:=zX hS hH h1 h2 ho key hks hm;revert hG;unfold gV;simp only;split
 ·intro _;exact ⟨q,fun e=>by simp at e⟩
 split
 ·intro _;exact ⟨q,fun e=>by simp at e⟩
 obtain ⟨A,hA⟩:∃ A,A=jT s id key mode:=⟨_,rfl⟩;rw [<-hA] at hL q ⊢;have Sj:A.1.lines=s.lines:=hL.same.l;have hsk:ee A.1 key=ee s key:=by unfold ee du;rw [Sj]
 rw [hsk,aV];have Dn:A.1.dW.length=s.dW.length:=hL.same.len;have Yr:=hL.held.came (k:=ee s key) h1 (by rw [Dn];exact h2);have Yq:(nC A.1 id (ee s key)).dW.length=s.dW.length:=by show (db _ _ _).dW.length=_;rw [my,Dn]
 have hin:∀ i∈A.2.1,1<=i/\i<=((nC A.1 id (ee s key)).dW.length:Int):=fun i hi=>by rw [Yq];exact (hL.wd i hi).2
 have Yp:(nC A.1 id (ee s key)).tx id={ s.tx id with ats:=(s.tx id).ats.set (ee s key) 1 }:=by
  show (db A.1 id _).tx id=_;rw [wG A.1 id _ h1 h1 (by rw [Dn];exact h2),aP rfl,hL.me]
 have qc:eX E O D V (nC A.1 id (ee s key)):=by
  refine q.Vr h1 (by rw [Dn];exact h2) rfl (fun k hk=>?_) (.inl rfl);show ((A.1.tx id).ats.set _ 1).getD k 0≠0;rw [oy];split
  ·simp
  ·exact hk
 have qw:=qc.mb A.2.1 Yr hin;have hme:(jV (nC A.1 id (ee s key)) A.2.1).tx id=(nC A.1 id (ee s key)).tx id:=(sM.fc A.2.1 _ (fun i hi=>(hin i hi).1)).other id h1 (fun e=>by have:=(hL.wd _ e).1;omega);intro hG;refine ⟨qw,fun e=>?_⟩;have hmode:¬ iw ((jV (nC A.1 id (ee s key)) A.2.1).keys key).held id<mode:=fun q2=>by rw [aP q2] at e;simp at e
 refine ⟨pW.DA (hG.held.apart key).ok hm hmode,?_⟩;rw [hme,Yp];show ((s.tx id).ats.set _ 1).getD _ 0≠0;rw [oy,aP ⟨rfl,by rw [(hS.tx id h1 h2).len];have:=ES hS.ll.1 key;have:=hS.dec_lt;omega⟩];simp
theorem ef.get{Q:List Nat->Prop}(h:ef Q O s)(hr:Rest s)(id:Nat)(key:ByteArray):((fH s id key).2.2.2=0->ef Q (CZ O id ⟨1,key,(fH s id key).2.1,(fH s id key).2.2.1⟩) (fH s id key).1)/\((fH s id key).2.2.2≠0->ef Q O (fH s id key).1):=by
 have YY:=hr.get id key;revert YY;unfold fH;split
 ·rename_i e1;intro _;exact ⟨fun e=>absurd e e1,fun _=>h⟩
 rename_i e1;intro YY;have PV:nu s id key=0:=by simpa using e1
 obtain ⟨c1,c2,c3⟩:=ph PV;obtain ⟨i,hid,h1,h2,ho⟩:=pO c1;obtain rfl:id=i:=by omega
 obtain ⟨hQ,D,V,hX,hD⟩:=h;have hG:=zX hr.c.safe hr.c.held h1 h2 ho key c2 (mode:=1) (.inl rfl);obtain ⟨qL,q0⟩:=hX.lock hr.c.safe hr.c.held h1 h2 ho key c2 (mode:=1) (.inl rfl);have CK:=hr.locked hG;simp only at YY ⊢;by_cases e2:(gV s id key 1).2=0
 ·rw [aK (fun q=>q e2)];refine ⟨fun _=>⟨hQ,D,V,?_,hD⟩,fun e=>absurd rfl e⟩;obtain ⟨l1,l2⟩:=q0 e2;obtain ⟨r,XJ⟩:∃ r,r=(gV s id key 1).1:=⟨_,rfl⟩;rw [<-XJ] at hG qL l1 l2 CK ⊢;have hsl:r.lines=s.lines:=hG.same.l;have hsk:ee r key=ee s key:=by unfold ee du;rw [hsl]
  have hlen:r.dW.length=s.dW.length:=hG.same.len;have hK:ee s key<s.lines.length:=by have:=ES hr.c.safe.ll.1 key;have:=hr.c.safe.dec_lt;omega
  obtain ⟨nh,XV⟩:=bD.1 c3;obtain ⟨hn0,tJ⟩:=Jw hr.c.safe hK XV;have DQ:eE r (ee s key)=eE s (ee s key):=Bl hsl _;have hT:Told r (ee r key):=by
   rw [hsk];refine CK.told _ (by rw [hsl];exact hK) ?_;rw [DQ,<-hn0,TN hG.same.d];exact tJ
  have jE:((s.line (ee s key)).nodes.getD 0 ⟨0,0,[],[],0⟩).log=(eE r (ee r key)).log:=by rw [hsk,DQ];rfl
  have Ap:kB r id:=⟨h1,by rw [hlen];exact h2,.inl hG.st⟩;rw [aV,jE];have Nl:db r id { r.tx id with writes:=(r.tx id).writes }=r:=by
   unfold db;have:r.dW.set (id - 1) (r.tx id)=r.dW:=by
    refine bI fun j=>?_;rw [bq];split
    ·rename_i e;split
     ·rw [<-e,uG h1 (by rw [hlen];exact h2)]
     ·rename_i q;rw [<-e];exact (ah (by omega)).symm
    ·rfl
   show { r with dW:=r.dW.set (id - 1) (r.tx id) }=r;rw [this]
  have:=qL.op CK.c.safe (o:=⟨1,key,(Gf (r.tx id) (eE r (ee r key)).log key).1,(Gf (r.tx id) (eE r (ee r key)).log key).2⟩) (ws:=(r.tx id).writes) h1 (by rw [hlen];exact h2) hG.st ⟨.inl rfl,c2⟩ (l1.less (by simp)) (by show (r.tx id).ats.getD (ee r key) 0≠0;rw [hsk];exact l2) (fun _=>?_) (qL.heads CK.c.safe.ll.1 hT) (qL.uj id Ap) (fun k=>?_)
  ·rw [Nl] at this;exact this
  ·rw [yRd,yGy (qL.uj id Ap),qL.ui id Ap,qL.view CK.c.safe hT,Gn qL.run]
   cases kx (O id) key with
   | some v=>rfl
   | none=>rfl
  ·rw [qL.ui id Ap,UO];simp [zf]
 ·rw [aP e2];exact ⟨fun e=>absurd e e2,fun _=>⟨hQ,D,V,qL,hD⟩⟩
end
theorem yUi(p:fQ)(v:ByteArray):zf ⟨if p.gone then 3 else 2,p.key,p.val,false⟩=some (ow p):=by
 unfold zf ow
 cases p.gone <;> rfl
theorem yLv{t:jR}{p:fQ}(hn:(t.writes.map (·.key)).Nodup):((ni t p).writes.map (·.key)).Nodup/\∀ k,nF (ni t p).writes k=if p.key=k then some (ow p) else nF t.writes k:=by
 unfold ni
 cases hw:uI t p.key with
 | some n=>
  unfold uI at hw;obtain ⟨hnl,yx,DP⟩:=cA.1 hw;have e:(t.writes[n]).key=p.key:=by simpa using yx
  have hm:(t.writes.set n p).map (·.key)=t.writes.map (·.key):=by
   rw [List.map_set];refine bI fun i=>?_;rw [bq];split
   ·rename_i q;split
    ·rw [<-q,aa,aA hnl,bK,e]
    ·rename_i q2;rw [<-q,ah (by omega)]
   ·rfl
  refine ⟨by show ((t.writes.set n p).map _).Nodup;rw [hm];exact hn,fun k=>?_⟩;show nF (t.writes.set n p) k=_;unfold nF;by_cases q:p.key=k
  ·rw [aP q];have:(t.writes.set n p).find? (fun p=>decide (p.key=k))=some p:=by
    rw [List.find?_eq_some_iff_getElem];refine ⟨by simpa using q,n,by simpa using hnl,by simp,fun j hj=>?_⟩;rw [List.getElem_set_ne (by omega)];have:=DP j hj;rw [<-q];simpa using this
   rw [this];rfl
  ·rw [aK q];congr 1;have key:∀ (l:List fQ) (n:Nat) (h:n<l.length),(l[n]).key≠k->(l.set n p).find? (fun p=>decide (p.key=k))=l.find? fun p=>decide (p.key=k):=by
    intro l
    induction l with
    | nil=>intro n h;simp at h
    | cons a l ih=>
     intro n h hk
     cases n with
     | zero=>
      rw [List.set_cons_zero,cJ,cJ];have h1:a.key≠k:=hk;simp [h1,q]
     | succ n=>
      rw [dI,cJ,cJ,ih n (by simpa using h) (by simpa using hk)]
   exact key t.writes n hnl (by rw [e];exact q)
 | none=>
  unfold uI at hw;rw [List.findIdx?_eq_none_iff] at hw;have hno:∀ a∈t.writes,a.key≠p.key:=fun a ha=>by simpa using hw a ha
  refine ⟨?_,fun k=>?_⟩
  ·show ((t.writes++[p]).map _).Nodup;rw [ay,bN];refine ⟨hn,by simp,fun a ha b hb=>?_⟩;obtain ⟨c,hc,rfl⟩:=af.1 ha;simp at hb;rw [hb];exact hno c hc
  ·show nF (t.writes++[p]) k=_;unfold nF;rw [List.find?_append];by_cases q:p.key=k
   ·rw [aP q];have:t.writes.find? (fun p=>decide (p.key=k))=none:=by
     rw [dA];intro a ha;have:=hno a ha;simp;rw [<-q];exact this
    rw [this];simp [q]
   ·rw [aK q]
    cases t.writes.find? fun p=>decide (p.key=k) with
    | some a=>rfl
    | none=>simp [q]
section
variable {Q:List Nat->Prop} {O:Nat->List fg} {s:dX}
theorem ef.put(h:ef Q O s)(hr:Rest s)(id:Nat)(p:fQ):((fG s id p).2=0->ef Q (CZ O id ⟨if p.gone then 3 else 2,p.key,p.val,false⟩) (fG s id p).1)/\((fG s id p).2≠0->ef Q O (fG s id p).1):=by
 unfold fG;split
 ·exact ⟨fun e=>by simp at e,fun _=>h⟩
 split
 ·rename_i e1;exact ⟨fun e=>absurd e e1,fun _=>h⟩
 rename_i e1;have PV:nu s id p.key=0:=by simpa using e1
 obtain ⟨c1,c2,c3⟩:=ph PV;obtain ⟨i,hid,h1,h2,ho⟩:=pO c1;obtain rfl:id=i:=by omega
 rw [aV];split
 ·exact ⟨fun e=>by simp at e,fun _=>h⟩
 obtain ⟨hQ,D,V,hX,hD⟩:=h;have hG:=zX hr.c.safe hr.c.held h1 h2 ho p.key c2 (mode:=2) (.inr rfl);obtain ⟨qL,q0⟩:=hX.lock hr.c.safe hr.c.held h1 h2 ho p.key c2 (mode:=2) (.inr rfl);have CK:=hr.locked hG;simp only;by_cases e2:(gV s id p.key 2).2=0
 ·rw [aK (fun q=>q e2)];refine ⟨fun _=>⟨hQ,D,V,?_,hD⟩,fun e=>absurd rfl e⟩;obtain ⟨l1,l2⟩:=q0 e2;obtain ⟨r,XJ⟩:∃ r,r=(gV s id p.key 2).1:=⟨_,rfl⟩;rw [<-XJ] at hG qL l1 l2 CK ⊢;have hsl:r.lines=s.lines:=hG.same.l;have hsk:ee r p.key=ee s p.key:=by unfold ee du;rw [hsl]
  have hlen:r.dW.length=s.dW.length:=hG.same.len;have hK:ee s p.key<s.lines.length:=by have:=ES hr.c.safe.ll.1 p.key;have:=hr.c.safe.dec_lt;omega
  obtain ⟨nh,XV⟩:=bD.1 c3;obtain ⟨hn0,tJ⟩:=Jw hr.c.safe hK XV;have DQ:eE r (ee s p.key)=eE s (ee s p.key):=Bl hsl _;have hT:Told r (ee r p.key):=by
   rw [hsk];refine CK.told _ (by rw [hsl];exact hK) ?_;rw [DQ,<-hn0,TN hG.same.d];exact tJ
  have Ap:kB r id:=⟨h1,by rw [hlen];exact h2,.inl hG.st⟩;obtain ⟨w1,w2⟩:=yLv (p:=p) (qL.uj id Ap);have hwt:ni (r.tx id) p={ r.tx id with writes:=(ni (r.tx id) p).writes }:=by
   unfold ni;split <;> rfl
  have lp:(if p.gone then (3:Int) else 2)=2\/(if p.gone then (3:Int) else 2)=3:=by cases p.gone <;> simp
  rw [hwt];refine qL.op CK.c.safe (o:=⟨if p.gone then 3 else 2,p.key,p.val,false⟩) (ws:=(ni (r.tx id) p).writes) h1 (by rw [hlen];exact h2) hG.st ⟨.inr lp,c2⟩ (l1.less (by simp)) (by show (r.tx id).ats.getD (ee r p.key) 0≠0;rw [hsk];exact l2) (fun e=>?_) (qL.heads CK.c.safe.ll.1 hT) w1 (fun k=>?_)
  ·simp only at e;omega
  ·rw [w2,UO,yUi p p.val,qL.ui id Ap];simp
 ·rw [aP e2];exact ⟨fun e=>absurd e e2,fun _=>⟨hQ,D,V,qL,hD⟩⟩
theorem ef.drop(h:ef Q O s)(hr:Rest s)(id:Int):ef Q O (qQ s id).1:=by
 unfold qQ;split
 ·exact h
 ·rename_i e;obtain ⟨i,rfl,h1,h2,ho⟩:=pO (by simpa using e);obtain ⟨hQ,D,V,hX,hD⟩:=h;exact ⟨hQ,D,V,hX.abort hr.c.held h1 h2 (by show (s.tx i).state≠3;omega) (fun j _ q=>q),hD⟩
theorem ef.begin(h:ef Q O s)(h2:2<=s.lines.length):ef Q O (nf s):=by
 obtain ⟨hQ,D,V,hX,hD⟩:=h;exact ⟨hQ,D,V,hX.begin h2,hD⟩
theorem ef.same{s':dX}(h:ef Q O s)(hS:Safe s)(ht:s'.dW=s.dW)(hk:s'.keys=s.keys)(hl:s'.lines.length=s.lines.length)(hn:∀ K,K<du s->(eE s' K).log=(eE s K).log):ef Q O s':=by
 obtain ⟨hQ,D,V,hX,hD⟩:=h;exact ⟨hQ,D,V,hX.same ht hk hl hn hS.ll.1,hD⟩
end
end Go.Proofs.YtmaiggbnceejiaaGreatDoor
