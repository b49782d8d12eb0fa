import Derived.Test.YtmaiggbnceejiaaGreatDoorS33
import Derived.Test.YtmaiggbnceejiaaGreatDoorS29
import Derived.Test.YtmaiggbnceejiaaGreatDoorS32
set_option linter.unusedVariables false
set_option maxRecDepth 100000
set_option maxHeartbeats 16000000
namespace Go.Proofs.YtmaiggbnceejiaaGreatDoor
section
variable {E:Nat->Prop} {O:Nat->List fg} {D:List Nat} {V:gK} {s s':dX}
theorem eX.again{X:List Int}(h:eX E O D V s)(hH:jI X s){id:Nat}(h1:1<=id)(h2:id<=s.dW.length)(hst:(s.tx id).state=3)(hl:s'.lines=s.lines)(hlen:s'.dW.length=s.dW.length)(hk:s'.keys=gP s.keys id)(hx:∀ j,1<=j->j≠id->s'.tx j=s.tx j)(h3:(s'.tx id).state=3)(hat:(s'.tx id).ats=(s.tx id).ats):eX E O D V s':=by
 have ed:du s'=du s:=by unfold du;rw [hl]
 have es:∀ k,ee s' k=ee s k:=fun k=>by unfold ee;rw [ed]
 have en:∀ K,eE s' K=eE s K:=Bl hl;have hL:∀ {i},kB s' i->i≠id/\kB s i/\s'.tx i=s.tx i:=fun {i} q=>by
  have hne:i≠id:=fun q2=>by rw [q2] at q;have:=q.2.2;omega
  have e:=hx i q.1 hne;refine ⟨hne,?_,e⟩;unfold kB at q ⊢;rw [hlen,e] at q;exact q
 have hS:∀ j,(s'.tx j).state=(s.tx j).state/\(s'.tx j).ats=(s.tx j).ats:=fun j=>by
  have key:∀ j,1<=j->(s'.tx j).state=(s.tx j).state/\(s'.tx j).ats=(s.tx j).ats:=fun j hj=>by
   by_cases e:j=id
   ·rw [e];exact ⟨by omega,hat⟩
   ·rw [hx j hj e];exact ⟨rfl,rfl⟩
  by_cases e0:j=0
  ·rw [e0];exact key 1 (by omega)
  ·exact key j (by omega)
 refine ⟨h.nd,fun i=>by rw [h.dm i,hlen,(hS i).1],h.run,by rw [hlen];exact h.out,h.kd,fun i q=>h.opn i (hL q).2.1,fun i q o ho=>?_,fun i q1 q2 q3 o ho=>?_,fun i q=>?_,fun i q=>?_,fun K hK c hc q1 q2=>?_,fun i q wm o ho a ha q2=>?_,fun K hK i c hi q1 q2 o ho q3 a ha q4 q5=>?_⟩
 ·obtain ⟨z1,z2,z3⟩:=hL q;rw [hk];exact (h.wP i z2 o ho).rel (hH.apart _).ok (by omega)
 ·rw [(hS i).1] at q3;rw [(hS i).2,es];rw [hlen] at q2;exact h.ats i q1 q2 q3 o ho
 ·obtain ⟨z1,z2,z3⟩:=hL q;rw [z3];exact h.uj i z2
 ·obtain ⟨z1,z2,z3⟩:=hL q;rw [z3];exact h.ui i z2
 ·rw [ed] at hK;rw [en] at hc;rw [(hS _).1] at q2;obtain ⟨z1,z2⟩:=h.xf K hK c hc q1 q2;exact ⟨z1,fun k hk=>z2 k (by rw [<-es];exact hk)⟩
 ·obtain ⟨z1,z2,z3⟩:=hL q;rw [es,en];exact h.hd1 i z2 wm o ho a ha q2
 ·rw [ed] at hK;rw [en] at hi ⊢;rw [(hS _).1] at q2;rw [es] at q3;exact h.hd2 K hK i c hi q1 q2 o ho q3 a ha q4 q5
end
section
variable {Q:List Nat->Prop} {O:Nat->List fg}
theorem ef.follow{s:dX}(h:ef Q O s)(hS:Safe s)(hH:Held s){k:Nat}(hk:k<s.lines.length){c:dv}(hc:c∈pN s k):ef Q O (lz s k c):=by
 obtain ⟨hQ,D,V,hX,hD⟩:=h;have q:=(hS.log k hk).all c (RF k c hc);obtain ⟨id,hid⟩:∃ id:Nat,c.tx=id:=⟨c.tx.toNat,by have:=q.lo;omega⟩;have h1:1<=id:=by have:=q.lo;omega
 have h2:id<=s.dW.length:=by have:=q.hi;omega
 unfold lz;rw [hid,aV];split
 ·rename_i e;have q2:=(q.dec e).2.2.1;rw [hid,aV] at q2;obtain ⟨t1,ht1⟩:∃ t,t={ s.tx id with time:=c.time }:=⟨_,rfl⟩;rw [<-ht1];have oJ:(db s id t1).dW.length=s.dW.length:=my _ _ _;have e1:(db s id t1).tx id=t1:=by rw [wG s id t1 h1 h1 h2,aP rfl]
  unfold oq;rw [e1];obtain ⟨t2,ht2⟩:∃ t:jR,t={ t1 with state:=3,writes:=[] }:=⟨_,rfl⟩;rw [<-ht2];have hx2:∀ j,1<=j->({ db (db s id t1) id t2 with keys:=gP (db s id t1).keys id }:dX).tx j=if j=id then t2 else s.tx j:=fun j hj=>by
   show (db (db s id t1) id t2).tx j=_;rw [wG _ id t2 hj h1 (by rw [oJ];exact h2)];split
   ·rfl
   ·rename_i e;rw [wG s id t1 hj h1 h2,aK e]
  have hlen:({ db (db s id t1) id t2 with keys:=gP (db s id t1).keys id }:dX).dW.length=s.dW.length:=by
   show (db (db s id t1) id t2).dW.length=_;rw [my,oJ]
  have a3:(({ db (db s id t1) id t2 with keys:=gP (db s id t1).keys id }:dX).tx id).state=3:=by rw [hx2 id h1,aP rfl,ht2]
  have a4:(({ db (db s id t1) id t2 with keys:=gP (db s id t1).keys id }:dX).tx id).ats=(s.tx id).ats:=by rw [hx2 id h1,aP rfl,ht2,ht1]
  rcases q2 with q2 | q2
  ·obtain ⟨V',hV⟩:=hX.Ax (s':={ db (db s id t1) id t2 with keys:=gP (db s id t1).keys id }) hS hH (d:=id) ⟨h1,h2,.inr q2⟩ rfl hlen rfl (fun j hj hne=>by rw [hx2 j hj,aK hne]) a3 a4;exact ⟨hQ,_,V',hV,hQ D id hD (fun q=>by have:=((hX.dm id).1 q).2.2;omega)⟩
  ·exact ⟨hQ,D,V,hX.again (s':={ db (db s id t1) id t2 with keys:=gP (db s id t1).keys id }) hH h1 h2 q2 rfl hlen rfl (fun j hj hne=>by rw [hx2 j hj,aK hne]) a3 a4,hD⟩
 ·split
  ·refine ⟨hQ,D,V,hX.Vr h1 h2 rfl (fun j hj=>?_) (.inl rfl),hD⟩;show ((s.tx id).ats.set k 2).getD j 0≠0;rw [oy];split
   ·simp
   ·exact hj
  ·exact ⟨hQ,D,V,hX,hD⟩
theorem ef.Oh{s:dX}(h:ef Q O s)(hS:Safe s)(hH:Held s){k:Nat}(hk:k<s.lines.length){c:dv}(hc:∀ n∈(s.line k).nodes,n.log[(s.line k).heard]?=some c):ef Q O (ot k s c):=by
 have hb:=hS.bump hk (fun n hn=>(aB.1 (hc n hn)).1);have YL:Held (bump s k):=hH.lines rfl rfl;have hkb:k<(bump s k).lines.length:=by rw [Bi];exact hk
 have hcm:c∈pN (bump s k) k:=by
  unfold pN;rw [MM s hk,Ju s hk,aP rfl];have:=hc _ (hS.head_mem hk);show c∈(eE s k).log.take ((s.line k).heard+1);rw [qg this];simp
 rw [yCp s hk];exact (h.same (s':=bump s k) hS rfl rfl (Bi s k) (fun K _=>by rw [MM s hk])).follow hb YL hkb hcm
theorem ef.FT{k:Nat}:∀ (cs:List dv) {s:dX},ef Q O s->Safe s->Held s->k<s.lines.length->(∀ n∈(s.line k).nodes,∃ r,n.log.drop (s.line k).heard=cs++r)->ef Q O (cs.foldl (ot k) s)
 | [],s,h,_,_,_,_=>h
 | c :: cs,s,h,hS,hH,hk,hd=>by
  have hc:∀ n∈(s.line k).nodes,n.log[(s.line k).heard]?=some c:=fun n hn=>by
   obtain ⟨r,hr⟩:=hd n hn;have:=ai (fun l=>l[0]?) hr;simpa using this
  obtain ⟨q,hq⟩:=zXi hS hH hk hc;refine ef.FT cs (h.Oh hS hH hk hc) q.safe q.held (by rw [q.same.ll];exact hk) fun n hn=>?_;rw [q.same.nodes] at hn;obtain ⟨r,hr⟩:=hd n hn;refine ⟨r,?_⟩;rw [hq,<-List.drop_drop,hr];rfl
theorem ef.il{s:dX}(h:ef Q O s)(hS:Safe s)(hH:Held s){k:Nat}(hk:k<s.lines.length):ef Q O (Go.Proofs.YtmaiggbnceejiaaGreatDoor.il s k):=by
 have hL:=hS.line k hk;refine ef.FT (lx s k) h hS hH hk fun n hn=>?_;obtain ⟨r,hr⟩:=hL.last ⟨0,0,[],[],0⟩ hn;refine ⟨r,?_⟩;rw [<-hr];unfold lx qd;rw [List.drop_append_of_le_length];exact hL.heard _ (Qv hL.ne _)
theorem ef.hear{s:dX}(h:ef Q O s)(hS:Safe s)(hH:Held s):ef Q O (oh s):=by
 have key:∀ m,m<=s.lines.length->rL s (nw s m)/\ef Q O (nw s m):=by
  intro m
  induction m with
  | zero=>exact fun _=>⟨rL.refl hS hH,h⟩
  | succ m ih=>
   intro hm;rw [MQ];obtain ⟨a,b⟩:=ih (by omega);have jx:m<(nw s m).lines.length:=by rw [a.same.ll];omega
   obtain ⟨c,d⟩:=zUn a.safe a.held jx;exact ⟨a.trans c,b.il a.safe a.held jx⟩
 exact (key s.lines.length (aF _)).2
theorem yTh{s:dX}{id k:Nat}{time:Int}{c:dv}(hd:fX s id k time=some c)(h2:c.kind=2):c=⟨2,id,0,uM s (s.tx id) k⟩/\(s.tx id).state=2:=by
 unfold fX at hd;simp only at hd;split at hd
 ·split at hd
  ·cases hd;simp at h2
  ·cases hd
 ·split at hd
  ·cases hd
  ·split at hd
   ·rename_i e;cases hd;exact ⟨rfl,e⟩
   ·split at hd
    ·cases hd;simp at h2
    ·split at hd
     ·cases hd;simp at h2
     ·cases hd
theorem JE{s:dX}{id k:Nat}{time:Int}{c:dv}(hd:fX s id k time=some c):c.tx=(id:Int):=by
 unfold fX at hd;simp only at hd;split at hd
 ·split at hd
  ·cases hd;rfl
  ·cases hd
 ·split at hd
  ·cases hd
  ·split at hd
   ·cases hd;rfl
   ·split at hd
    ·cases hd;rfl
    ·split at hd
     ·cases hd;rfl
     ·cases hd
theorem ef.gB{S:dX}(h:ef Q O S)(hS:Safe S){k:Nat}(hk:k<S.lines.length)(hv:gS S (eE S k)=true)(log:List dv){id:Nat}(h1:1<=id)(h2:id<=S.dW.length):ef Q O (Go.Proofs.YtmaiggbnceejiaaGreatDoor.gB S k log id):=by
 unfold Go.Proofs.YtmaiggbnceejiaaGreatDoor.gB
 cases hd:fX S id k ((eE S k).log.length+1) with
 | none=>exact h
 | some c=>
  simp only;split
  ·obtain ⟨hQ,D,V,hX,hD⟩:=h;obtain ⟨t1,t2⟩:=iD.add hS hk hv c;refine ⟨hQ,D,V,hX.grow t1.dW t1.keys t1.mv.ll hS.ll.1 (K:=k) (c:=c) (fun i hi hne=>by rw [t2,aK hne]) (fun _=>by rw [t2,aP rfl];exact (GM _ c).2.1) (fun _ hk2 _=>?_),hD⟩;obtain ⟨e1,e2⟩:=yTh hd hk2;have e3:=JE hd;rw [e3,aV];exact ⟨⟨h1,h2,.inr e2⟩,fun q=>q,by rw [e1]⟩
  ·exact h
theorem ef.eR{s:dX}(h:ef Q O s)(hS:Safe s){k:Nat}(hk:k<s.lines.length):ef Q O (Go.Proofs.YtmaiggbnceejiaaGreatDoor.eR s k):=by
 unfold Go.Proofs.YtmaiggbnceejiaaGreatDoor.eR
 cases hh:uX s k with
 | none=>exact h
 | some n=>
  obtain ⟨rfl,hl⟩:=Jw hS hk hh;simp only;have key:∀ m,m<=s.dW.length->Ee s (((List.range m).map (·+1)).foldl (fun h id=>Go.Proofs.YtmaiggbnceejiaaGreatDoor.gB h k (eE s k).log id) s) k m/\ef Q O (((List.range m).map (·+1)).foldl (fun h id=>Go.Proofs.YtmaiggbnceejiaaGreatDoor.gB h k (eE s k).log id) s):=by
   intro m
   induction m with
   | zero=>exact fun _=>⟨⟨hS,iD.refl s,⟨[],by simp,by simp⟩,fun id i1 i2=>by omega,fun _ _=>rfl,hl⟩,h⟩
   | succ m ih=>
    intro hm;rw [aj,ay,al];obtain ⟨a,b⟩:=ih (by omega);refine ⟨a.step hk (by omega),?_⟩;generalize ((List.range m).map (·+1)).foldl (fun h id=>Go.Proofs.YtmaiggbnceejiaaGreatDoor.gB h k (eE s k).log id) s=S at a b;exact b.gB a.safe (by rw [a.tells.mv.ll];exact hk) a.live _ (show 1<=m+1 by omega) (show m+1<=S.dW.length by rw [a.tells.dW];omega)
  exact (key s.dW.length (aF _)).2
theorem ef.tell{s:dX}(h:ef Q O s)(hS:Safe s):ef Q O (kM s):=by
 have key:∀ m,m<=s.lines.length->Safe ((List.range m).foldl Go.Proofs.YtmaiggbnceejiaaGreatDoor.eR s)/\((List.range m).foldl Go.Proofs.YtmaiggbnceejiaaGreatDoor.eR s).lines.length=s.lines.length/\ef Q O ((List.range m).foldl Go.Proofs.YtmaiggbnceejiaaGreatDoor.eR s):=by
  intro m
  induction m with
  | zero=>exact fun _=>⟨hS,rfl,h⟩
  | succ m ih=>
   intro hm;rw [aj,al];obtain ⟨a,b,c⟩:=ih (by omega);generalize (List.range m).foldl Go.Proofs.YtmaiggbnceejiaaGreatDoor.eR s=S at a b c;obtain ⟨a',b',_⟩:=Um a (k:=m) (by omega);exact ⟨a',by show (Go.Proofs.YtmaiggbnceejiaaGreatDoor.eR S m).lines.length=_;rw [b'.mv.ll,b],c.eR a (by omega)⟩
 exact (key s.lines.length (aF _)).2.2
theorem ef.fA:∀ (n:Nat) {s:dX},ef Q O s->Safe s->Held s->ef Q O (Go.Proofs.YtmaiggbnceejiaaGreatDoor.fA n s)
 | 0,s,h,_,_=>h
 | n+1,s,h,hS,hH=>by
  unfold Go.Proofs.YtmaiggbnceejiaaGreatDoor.fA;split
  ·have q:=(KE hS hH).1;exact ef.fA n ((h.hear hS hH).tell (MP hS hH).1.safe) q.safe q.held
  ·exact h
theorem ef.settle{s:dX}(h:ef Q O s)(hS:Safe s)(hH:Held s):ef Q O (oB s):=h.fA _ hS hH
end
section
variable {E E':Nat->Prop} {O:Nat->List fg} {D:List Nat} {V:gK} {s s':dX}
theorem eX.less(h:eX E O D V s)(hE:∀ id,kB s id->¬ E' id->¬ E id):eX E' O D V s:=
 ⟨h.nd,h.dm,h.run,h.out,h.kd,h.opn,h.wP,h.ats,h.uj,h.ui,h.xf,fun id q wm=>h.hd1 id q (hE id q wm),h.hd2⟩
theorem eX.line(h:eX (fun _=>False) O D V s)(hS:Safe s)(ht:s'.dW=s.dW)(hk:s'.keys=s.keys)(hl:s'.lines.length=s.lines.length){k:Nat}(lp:k<du s)(hn:∀ i,i≠k->(eE s' i).log=(eE s i).log)(hp:(eE s' k).log <+: (eE s k).log):eX (fun id=>0<id/\kc s' k (id - 1)=true) O D V s':=by
 have e:∀ i,s'.tx i=s.tx i:=fun i=>by unfold dX.tx;rw [ht]
 have ed:du s'=du s:=by unfold du;rw [hl]
 have es:∀ k,ee s' k=ee s k:=fun k=>by unfold ee;rw [ed]
 have hL:∀ {i},kB s' i->kB s i:=fun {i} q=>by unfold kB at q ⊢;rw [ht,e] at q;exact q
 obtain ⟨t,htl⟩:=hp;have hget:∀ (i:Nat) c,(eE s' k).log[i]?=some c->(eE s k).log[i]?=some c:=fun i c hi=>by
  rw [<-htl,aE (aB.1 hi).1];exact hi
 have hback:∀ (i j:Nat) c d,(eE s' k).log[i]?=some c->j<i->(eE s k).log[j]?=some d->(eE s' k).log[j]?=some d:=fun i j c d hi yz hj=>by
  have:=(aB.1 hi).1;rw [<-htl,aE (by omega)] at hj;exact hj
 refine ⟨h.nd,fun id=>by rw [ht,e];exact h.dm id,h.run,by rw [ht];exact h.out,h.kd,fun id q=>h.opn id (hL q),fun id q=>by rw [hk];exact h.wP id (hL q),fun id q1 q2 q3 o ho=>by rw [e,es];rw [ht] at q2;rw [e] at q3;exact h.ats id q1 q2 q3 o ho,
  fun id q=>by rw [e];exact h.uj id (hL q),fun id q=>by rw [e];exact h.ui id (hL q),fun K hK c hc q1 q2=>?_,fun id q hE o ho a ha q2=>?_,fun K hK i c hi q1 q2 o ho q3 a ha q4 q5=>?_⟩
 ·rw [ed] at hK;rw [e] at q2;have hc':c∈(eE s K).log:=by
   by_cases q:K=k
   ·rw [q] at hc ⊢;rw [<-htl];exact cH _ hc
   ·rw [hn K q] at hc;exact hc
  obtain ⟨z1,z2⟩:=h.xf K hK c hc' q1 q2;exact ⟨z1,fun k hk=>z2 k (by rw [<-es];exact hk)⟩
 ·rw [es];by_cases q0:ee s o.key=k
  ·have hq:=hL q;have hat:=h.ats id hq.1 hq.2.1 (by have:=hq.2.2;omega) o ho;rw [q0] at hat ⊢;have hnl:kc s' k (id - 1)=false:=by
    cases hx:kc s' k (id - 1) with
    | false=>rfl
    | true=>exact absurd ⟨by have:=hq.1;omega,hx⟩ hE
   unfold kc at hnl;simp only at hnl;rw [show id - 1+1=id by have:=hq.1;omega,e] at hnl;have hint:((id - 1:Nat):Int)+1=(id:Int):=by have:=hq.1;omega
   rw [hint] at hnl;simp only [hat,ne_eq,not_false_eq_true,decide_true,Bool.true_and,Bool.or_eq_false_iff,bw,Bool.and_eq_false_imp,bA] at hnl;have hst:(s.tx id).state=2:=by have:=hq.2.2;have:=hnl.1;omega
   have hpl:=hnl.2 hst
   cases hpc:kp (eE s' k).log 2 id with
   | none=>rw [hpc] at hpl;cases hpl
   | some n=>
    unfold kp at hpc;obtain ⟨XT,yx,_⟩:=cA.1 hpc;simp only [bT,bA] at yx;have Of:(eE s' k).log[n]?=some (eE s' k).log[n]:=aA XT;have htx:((eE s' k).log[n]).tx.toNat=id:=by rw [yx.2];simp
    obtain ⟨j,d,z1,z2,z3,z4⟩:=h.hd2 k lp n _ (hget n _ Of) yx.1 (by rw [htx];omega) o (by rw [htx];exact ho) q0 a ha q2 (fun hb=>by
     exfalso;rw [htx] at hb;have:=((h.dm id).1 hb).2.2;omega)
    exact ⟨d,aC (hback n j _ d Of z1 z2),z3,z4⟩
  ·rw [hn _ q0];exact h.hd1 id (hL q) (fun q=>q) o ho a ha q2
 ·rw [ed] at hK;rw [e] at q2;rw [es] at q3;by_cases q:K=k
  ·rw [q] at hi q3 ⊢;obtain ⟨j,d,z1,z2,z3⟩:=h.hd2 k lp i c (hget i c hi) q1 q2 o ho q3 a ha q4 q5;exact ⟨j,d,z1,hback i j c d hi z1 z2,z3⟩
  ·rw [hn K q] at hi ⊢;exact h.hd2 K hK i c hi q1 q2 o ho q3 a ha q4 q5
theorem zSd{s:dX}(h:Safe s)(hH:Held s){k:Nat}(hk:k<s.lines.length):∀ m,m<=s.dW.length->fZ s ((List.range m).foldl (fun h i=>if kc h k i then gi h (i+1) else h) s)/\gG s ((List.range m).foldl (fun h i=>if kc h k i then gi h (i+1) else h) s):=by
 intro m
 induction m with
 | zero=>exact fun _=>⟨fZ.refl h hH,gG.refl s⟩
 | succ m ih=>
  intro hm;rw [aj,al];obtain ⟨a,b⟩:=ih (by omega);generalize (List.range m).foldl (fun h i=>if kc h k i then gi h (i+1) else h) s=S at a b;show fZ s (if kc S k m then gi S (m+1) else S)/\gG s (if kc S k m then gi S (m+1) else S);split
  ·rename_i hl;have jx:m+1<=S.dW.length:=by rw [b.len];omega
   have IS:k<S.lines.length:=by rw [b.l];exact hk
   unfold kc at hl;simp only [bT,br,bA] at hl;obtain ⟨oJ,hl2⟩:=hl;have hx:=a.safe.tx (m+1) (by omega) jx;have lp:k<du S:=by
    have:k≠du S:=fun e=>oJ (by rw [e];exact hx.dec);unfold du at this ⊢;omega
   have Fh:Held (gi S (m+1)):=a.held.abort (m+1) (by omega) (fun x hx=>by simp at hx);rcases hl2 with q | ⟨q,q2⟩
   ·exact ⟨a.trans ⟨a.safe.abort (by omega) jx q,Fh,mP.abort (by omega) jx (by omega),by rw [Ea]⟩,b.trans (gG.abort S _)⟩
   ·have hr:ue (S.tx (m+1))=false:=by
     apply aS;intro hn;simp only [Bool.not_eq_false] at hn;have:=Jy.1 hn k;have:=hx.oz k;have h2:(S.tx (m+1)).ats.getD k 0=2:=by omega
     have:=Vh a.safe (by omega) jx lp h2;have e:((m+1:Nat):Int)=(m:Int)+1:=by omega
     rw [e,q2] at this;cases this
    exact ⟨a.trans ⟨a.safe.ve (by omega) jx q hr,Fh,mP.abort (by omega) jx (by omega),by rw [Ea]⟩,b.trans (gG.abort S _)⟩
  ·exact ⟨a,b⟩
theorem eX.wu(hS:Safe s)(hH:Held s){k:Nat}(hk:k<s.lines.length)(h:eX (fun id=>0<id/\kc s k (id - 1)=true) O D V s):eX (fun _=>False) O D V (sV s k):=by
 unfold sV;have key:∀ m,m<=s.dW.length->eX (fun id=>m<id/\kc ((List.range m).foldl (fun h i=>if kc h k i then gi h (i+1) else h) s) k (id - 1)=true) O D V ((List.range m).foldl (fun h i=>if kc h k i then gi h (i+1) else h) s):=by
  intro m
  induction m with
  | zero=>exact fun _=>h
  | succ m ih=>
   intro hm;have c:=ih (by omega);obtain ⟨a,b⟩:=zSd hS hH hk m (by omega);rw [aj,al];generalize (List.range m).foldl (fun h i=>if kc h k i then gi h (i+1) else h) s=S at a b c;show eX (fun id=>m+1<id/\kc (if kc S k m then gi S (m+1) else S) k (id - 1)=true) O D V (if kc S k m then gi S (m+1) else S);have jx:m+1<=S.dW.length:=by rw [b.len];omega
   cases hl:kc S k m with
   | true=>
    rw [aP rfl];have hl':=hl;unfold kc at hl';simp only [bT,br,bA] at hl';refine c.abort a.held (by omega) jx (by have:=hl'.2;omega) (fun j hj Xb q=>Xb ⟨by omega,?_⟩);have hjn:(gi S (m+1)).tx (j - 1+1)=S.tx (j - 1+1):=GS S (by omega);have hn0:eE (gi S (m+1)) k=eE S k:=Bl (zVh S _) k;have:kc (gi S (m+1)) k (j - 1)=kc S k (j - 1):=by unfold kc;simp only;rw [hjn,hn0]
    rw [this];exact q.2
   | false=>
    rw [aK (by simp)];refine c.less (fun id hq Xb q=>?_);by_cases e:id=m+1
    ·rw [e,bP,hl] at q;exact absurd q.2 (by simp)
    ·exact Xb ⟨by omega,q.2⟩
 obtain ⟨a,b⟩:=zSd hS hH hk s.dW.length (aF _);exact (key s.dW.length (aF _)).less (fun id hq _ q=>by have:=hq.2.1;rw [b.len] at this;omega)
end
section
variable {Q:List Nat->Prop} {O:Nat->List fg} {s:dX}
theorem ef.node1(h:ef Q O s)(hS:Safe s){k j:Nat}(hk:k<s.lines.length){n n':eK}(hj:(s.line k).nodes[j]?=some n)(h0:j=0->n'.log=n.log)(ms:List dw):ef Q O (sg (ld s k j n') ms):=by
 refine h.same hS rfl rfl (GW s k j n') (fun K hK=>?_);show (eE (ld s k j n') K).log=_;rw [MX hk (hS.line k hk).ne];split
 ·rename_i e;rw [h0 e.2];have:n=eE s k:=by
   have:=hS.head hk;rw [<-e.2,hj] at this;exact ax this
  rw [this,e.1]
 ·rfl
theorem ef.step(h:ef Q O s)(hS:Safe s){k j:Nat}(hk:k<s.lines.length){n:eK}(hj:(s.line k).nodes[j]?=some n)(m:dw):ef Q O (nx s k j m):=by
 unfold nx;rw [zY hj];refine h.node1 hS hk hj (fun e=>?_) _;rcases (RM n m).2.1 with q | ⟨_,q,_⟩
 ·exact q
 ·obtain ⟨i,a,hi,_⟩:=(hS.line k hk).WS hj (Qi q);omega
theorem ef.fK(h:ef Q O s)(hS:Safe s){k j:Nat}(hk:k<s.lines.length):ef Q O (Go.Proofs.YtmaiggbnceejiaaGreatDoor.fK k s j):=by
 unfold Go.Proofs.YtmaiggbnceejiaaGreatDoor.fK;split
 ·by_cases hj:j<(s.line k).nodes.length
  ·have hj':(s.line k).nodes[j]?=some (fP s k j):=by rw [aA hj];unfold fP;rw [aI,aA hj];rfl
   exact h.node1 hS hk hj' (fun _=>(GP (fP s k j)).2.1) _
  ·have h0:j≠0:=fun e=>by
    have:=bX.2 (hS.line k hk).ne;omega
   refine h.same hS rfl rfl (GW s k j _) (fun K hK=>?_);show (eE (ld s k j _) K).log=_;rw [MX hk (hS.line k hk).ne,aK (fun q=>h0 q.2)]
 ·exact h
theorem ef.eU(h:ef Q O s)(hS:Safe s){k:Nat}(hk:k<s.lines.length):ef Q O (Go.Proofs.YtmaiggbnceejiaaGreatDoor.eU s k):=by
 unfold Go.Proofs.YtmaiggbnceejiaaGreatDoor.eU;generalize List.range (s.line k).nodes.length=js
 suffices key:∀ (js:List Nat) (S:dX),Safe S->k<S.lines.length->ef Q O S->ef Q O (js.foldl (Go.Proofs.YtmaiggbnceejiaaGreatDoor.fK k) S) from key js s hS hk h
 intro js
 induction js with
 | nil=>exact fun S _ _ c=>c
 | cons j js ih=>
  intro S a b c;obtain ⟨d,e⟩:=a.fK (k:=k) (j:=j) b;exact ih _ d (by rw [e.mv.ll];exact b) (c.fK a b)
theorem ef.tick(h:ef Q O s)(hS:Safe s):ef Q O (lZ s):=by
 unfold lZ
 suffices key:∀ m,m<=s.lines.length->Safe ((List.range m).foldl Go.Proofs.YtmaiggbnceejiaaGreatDoor.eU s)/\iD s ((List.range m).foldl Go.Proofs.YtmaiggbnceejiaaGreatDoor.eU s)/\ef Q O ((List.range m).foldl Go.Proofs.YtmaiggbnceejiaaGreatDoor.eU s) from (key _ (aF _)).2.2
 intro m
 induction m with
 | zero=>exact fun _=>⟨hS,iD.refl s,h⟩
 | succ m ih=>
  intro hm;rw [aj,al];obtain ⟨a,b,e⟩:=ih (by omega);have jx:m<((List.range m).foldl Go.Proofs.YtmaiggbnceejiaaGreatDoor.eU s).lines.length:=by rw [b.mv.ll];omega
  obtain ⟨c,d⟩:=MU a (k:=m) jx;exact ⟨c,b.trans d,e.eU a jx⟩
theorem ef.fp(h:ef Q O s)(hS:Safe s)(hH:Held s)(k:Nat):ef Q O (lk s k):=by
 unfold lk
 cases hm:s.net.way[k]? with
 | none=>exact h
 | some m=>
  have ht:Safe (fz s k):=hS.way fun m' hm'=>cG hm';have hT:ef Q O (fz s k):=h.same hS rfl rfl rfl (fun _ _=>rfl);simp only
  cases hn:pK s m.to with
  | none=>exact hT
  | some kj=>
   obtain ⟨kk,j⟩:=kj;obtain ⟨hk,n,q1,q2,q3⟩:=KD hn;have hm':Cn (fz s k) m:=hS.msg m (aC hm);have hS2:=ht.step (k:=kk) (j:=j) (n:=n) hk q1 hm';have SW:lD (fz s k) (nx (fz s k) kk j m):=(iD.step (s:=fz s k) hk q1 q2 m).wI hS2 (hH.lines rfl rfl);exact (hT.step ht hk q1 m).settle hS2 SW.held
theorem ef.end_(h:ef Q O s)(hr:Rest s)(id:Int):ef Q O (iT s id).1:=by
 unfold iT;split
 ·exact h
 split
 ·exact h
 rename_i e1 e2;obtain ⟨i,rfl,h1,h2,ho⟩:=pO (by simpa using e1);rw [aV];obtain ⟨hQ,D,V,hX,hD⟩:=h;have hS:=hr.c.safe;have hS1:Safe (db s i { s.tx i with state:=2 }):=hS.write (ws:=(s.tx i).writes) (st:=2) h1 h2 ho (hS.tx i h1 h2).few (.inr rfl);have jy:Held (db s i { s.tx i with state:=2 }):=hr.c.held.ending h1 h2 rfl ho (KF (by simpa using e2));have q1:ef Q O (db s i { s.tx i with state:=2 }):=⟨hQ,D,V,hX.Vr h1 h2 rfl (fun k hk=>hk) (.inr ⟨ho,rfl⟩),hD⟩;obtain ⟨a,b,_⟩:=xX hS1;exact (q1.tell hS1).settle a (jy.lines b.keys b.dW)
theorem ef.eW(h:ef Q O s)(hS:Safe s)(hH:Held s){k:Nat}(hk:k<s.lines.length):ef Q O (Go.Proofs.YtmaiggbnceejiaaGreatDoor.eW s k):=by
 unfold Go.Proofs.YtmaiggbnceejiaaGreatDoor.eW;split
 ·exact h
 ·rename_i e;obtain ⟨e1,e2⟩:=MS e;have hF:Safe (eY s k):=hS.eY hk e1 e2;have Fi:Held (eY s k):=hH.lines rfl rfl;have hkF:k<(eY s k).lines.length:=by rw [wF];exact hk
  obtain ⟨hQ,D,V,hX,hD⟩:=h;have hn:∀ i,i≠k->(eE (eY s k) i).log=(eE s i).log:=fun i hi=>by
   unfold eE;rw [KC s hk,aK hi]
  show ef Q O (sV (eY s k) k);by_cases lp:k<du s
  ·refine ⟨hQ,D,V,eX.wu hF Fi hkF (hX.line (s':=eY s k) hS rfl rfl (wF s k) lp hn ?_),hD⟩;have hne:fa s k≠[]:=e1
   cases hl:fa s k with
   | nil=>exact absurd hl hne
   | cons x xs=>
    have hx:x∈(s.line k).nodes:=(bE.1 (show x∈fa s k by rw [hl];simp)).1;have:(eE (eY s k) k).log=x.log:=by
     unfold eE;rw [KC s hk,aP rfl,Ri,hl];show (kG _ x).log=x.log;have:=((hS.line k hk).fix (ns:=fa s k) bj e1 e2).2 x (by rw [hl];simp);rw [hl] at this;exact this.2
    rw [this];exact hS.My hk hx
  ·
   have hX1:eX (fun _=>False) O D V (eY s k):=hX.same rfl rfl (wF s k) (fun K hK=>hn K (by omega)) hS.ll.1;refine ⟨hQ,D,V,eX.wu hF Fi hkF (hX1.less (fun id _ _ q=>q)),hD⟩
theorem ef.JB(h:ef Q O s)(hS:Safe s)(hH:Held s):∀ m,m<=s.lines.length->ef Q O ((List.range m).foldl Go.Proofs.YtmaiggbnceejiaaGreatDoor.eW s):=by
 intro m
 induction m with
 | zero=>exact fun _=>h
 | succ m ih=>
  intro hm;rw [aj,al];obtain ⟨a,-⟩:=GU hS hH m (by omega);exact (ih (by omega)).eW a.safe a.held (by rw [a.ll];omega)
theorem ef.fix(h:ef Q O s)(hS:Safe s)(hH:Held s):ef Q O (mL s):=by
 unfold mL;obtain ⟨a,-⟩:=GU hS hH s.lines.length (aF _);obtain ⟨b,c,_⟩:=xX a.safe;exact ((h.JB hS hH _ (aF _)).tell a.safe).settle b (a.held.lines c.keys c.dW)
theorem ef.net(h:ef Q O s)(hS:Safe s)(net:fC)(dead:List Int):ef Q O { s with net:=net,dead:=dead }:=h.same hS rfl rfl rfl (fun _ _=>rfl)
theorem ef.fail(h:ef Q O s)(hS:Safe s)(id:Int):ef Q O (pZ s id).1:=by
 unfold pZ;split
 ·exact h
 ·exact h.net hS _ _
theorem ef.rr(h:ef Q O s)(hS:Safe s)(k:Int):ef Q O (pd s k).1:=by
 unfold pd;split
 ·exact h.net hS _ _
 ·exact h
theorem ef.twice(h:ef Q O s)(hS:Safe s)(k:Int):ef Q O (oA s k).1:=by
 unfold oA;split
 ·split
  ·exact h.net hS _ _
  ·exact h
 ·exact h
theorem ef.drain(n:Nat):∀ {s:dX},Rest s->ef Q O s->ef Q O (gD n s):=by
 induction n with
 | zero=>exact fun _ h=>h
 | succ n ih=>
  intro s hr h;unfold gD;split
  ·exact h
  ·exact ih (hr.fp 0) (h.fp hr.c.safe hr.c.held 0)
theorem ef.turn(h:ef Q O s)(hr:Rest s):ef Q O (xJ s):=ef.drain _ hr.tick (h.tick hr.c.safe)
theorem ef.ie(n:Nat):∀ {s:dX},Rest s->ef Q O s->ef Q O (Go.Proofs.YtmaiggbnceejiaaGreatDoor.ie n s):=by
 induction n with
 | zero=>exact fun _ h=>h
 | succ n ih=>
  intro s hr h;have h1:ef Q O (gU s):=(((h.turn hr).turn hr.turn).turn hr.turn.turn).turn hr.turn.turn.turn;unfold Go.Proofs.YtmaiggbnceejiaaGreatDoor.ie;split
  ·exact h1
  ·exact ih hr.gU h1
theorem ef.calm(h:ef Q O s)(hr:Rest s):ef Q O (oe s):=ef.ie _ hr h
end
def pM(dW:List eM)(id:Nat):List fg:=if id=0 then [] else ((dW[id - 1]?).map eM.ops).getD []
theorem EV(dW:List eM)(i:Nat):pM dW (i+1)=((dW[i]?).map eM.ops).getD []:=by unfold pM;rw [aK (by omega),bP]
theorem yJu(dW:List eM)(f e:Int):pM (dW++[⟨[],f,e⟩])=pM dW:=by
 funext id
 cases id with
 | zero=>rfl
 | succ i=>
  rw [EV,EV];by_cases h:i<dW.length
  ·rw [aE h]
  ·rw [aM (by omega),ah (l:=dW) (by omega)]
   cases hi:i - dW.length with
   | zero=>rfl
   | succ n=>rfl
theorem yNr{dW:List eM}{i:Nat}{t:eM}(h:dW[i]?=some t)(o:fg):pM (fh dW (i+1) o)=CZ (pM dW) (i+1) o:=by
 have hil:=(aB.1 h).1;unfold fh;rw [bP,h];simp only;funext id;unfold CZ
 cases id with
 | zero=>rw [aK (by omega)];rfl
 | succ j=>
  rw [EV,EV,EV,bq];by_cases e:i=j
  ·subst e;rw [aP rfl,aP hil,aP rfl,h];rfl
  ·rw [aK e,aK (by omega)]
theorem yJt{dW Mq:List eM}(h:∀ i:Nat,(Mq[i]?).map eM.ops=(dW[i]?).map eM.ops):pM Mq=pM dW:=by
 funext id
 cases id with
 | zero=>rfl
 | succ i=>rw [EV,EV,h]
def RtT(dW:List eM)(a b:Nat):Prop:=∃ t u,0<a/\0<b/\dW[a - 1]?=some t/\dW[b - 1]?=some u/\0<=t.fI/\t.fI<u.eF
def tk(dW:List eM)(D:List Nat):Prop:=(∀ a t,0<a->dW[a - 1]?=some t->0<=t.fI->a∈D)/\∀ a b,b∈D->RtT dW a b->∃ p q:Nat,p<q/\D[p]?=some a/\D[q]?=some b
theorem tk.more{dW:List eM}{D:List Nat}{d:Nat}(h:tk dW D)(hd:d∉D):tk dW (D++[d]):=by
 refine ⟨fun a t h1 h2 h3=>cH _ (h.1 a t h1 h2 h3),fun a b hb hab=>?_⟩;have ha:a∈D:=by
  obtain ⟨t,u,q1,_,q3,_,q5,_⟩:=hab;exact h.1 a t q1 q3 q5
 rcases aN.1 hb with hb | hb
 ·obtain ⟨p,q,h1,h2,h3⟩:=h.2 a b hb hab;exact ⟨p,q,h1,by rw [aE (aB.1 h2).1];exact h2,by rw [aE (aB.1 h3).1];exact h3⟩
 ·simp at hb;subst hb;obtain ⟨p,hp⟩:=aO ha;have hpl:=(aB.1 hp).1;exact ⟨p,D.length,hpl,by rw [aE hpl];exact hp,by rw [aM (aF _)];simp⟩
structure lU(s:eC):Prop where
 qi:ef (tk s.dW) (pM s.dW) s.h
 eF:∀ t∈s.dW,t.eF<=s.now
theorem ef.WO{Q Q':List Nat->Prop}{O:Nat->List fg}{s:dX}(h:ef Q O s)(hq:∀ D V,eX (fun _=>False) O D V s->Q D->Q' D)(hQ':∀ D d,Q' D->d∉D->Q' (D++[d])):ef Q' O s:=by
 obtain ⟨_,D,V,hX,hD⟩:=h;exact ⟨hQ',D,V,hX,hq D V hX hD⟩
theorem tk.push{dW:List eM}{D:List Nat}{f:Int}(h:tk dW D)(hd:∀ a∈D,0<a/\a<=dW.length):tk (dW++[⟨[],f,-1⟩]) D:=by
 have old:∀ {a:Nat} {t:eM},0<a->(dW++[⟨[],f,-1⟩])[a - 1]?=some t->dW[a - 1]?=some t\/t=⟨[],f,-1⟩:=fun {a t} ha ht=>by
  by_cases hl:a - 1<dW.length
  ·rw [aE hl] at ht;exact .inl ht
  ·rw [aM (by omega)] at ht;have:=aC ht;simp at this;exact .inr this
 refine ⟨fun a t h1 h2 h3=>?_,fun a b hb hab=>?_⟩
 ·rcases old h1 h2 with q | q
  ·exact h.1 a t h1 q h3
  ·rw [q] at h3;simp at h3
 ·obtain ⟨t,u,q1,q2,q3,q4,q5,q6⟩:=hab;have hbl:=hd b hb;have q4':dW[b - 1]?=some u:=by
   rw [aE (by omega)] at q4;exact q4
  rcases old q1 q3 with q | q
  ·exact h.2 a b hb ⟨t,u,q1,q2,q,q4',q5,q6⟩
  ·rw [q] at q5;simp at q5
theorem tk.fh{dW:List eM}{D:List Nat}(h:tk dW D)(id:Nat)(o:fg):tk (Go.Proofs.YtmaiggbnceejiaaGreatDoor.fh dW id o) D:=by
 have old:∀ {a:Nat} {t:eM},(Go.Proofs.YtmaiggbnceejiaaGreatDoor.fh dW id o)[a - 1]?=some t->∃ t',dW[a - 1]?=some t'/\t'.fI=t.fI/\t'.eF=t.eF:=fun {a t} ht=>by
  unfold Go.Proofs.YtmaiggbnceejiaaGreatDoor.fh at ht;split at ht
  ·rename_i u hu;rw [bq] at ht;split at ht
   ·rename_i e;split at ht
    ·cases ht
     exact ⟨u,by rw [<-e];exact hu,rfl,rfl⟩
    ·cases ht
   ·exact ⟨t,ht,rfl,rfl⟩
  ·exact ⟨t,ht,rfl,rfl⟩
 refine ⟨fun a t h1 h2 h3=>?_,fun a b hb hab=>?_⟩
 ·obtain ⟨t',q1,q2,_⟩:=old h2;exact h.1 a t' h1 q1 (by omega)
 ·obtain ⟨t,u,q1,q2,q3,q4,q5,q6⟩:=hab;obtain ⟨t',r1,r2,r3⟩:=old q3;obtain ⟨u',v1,v2,v3⟩:=old q4;exact h.2 a b hb ⟨t',u',q1,q2,r1,v1,by omega,by omega⟩
theorem yVs{m:Nat}{s:eC}(h:lU s)(hok:se m s)(x:ActD):lU (eG s x):=by
 have hr:=hok.rest;have hS:=hr.c.safe;have hH:=hr.c.held;have hl2:2<=s.h.lines.length:=hS.ll.1;have FJ:∀ {dW:List eM} D d,tk dW D->d∉D->tk dW (D++[d]):=fun D d q hd=>q.more hd;have fin:∀ (h':dX),ef (tk s.dW) (pM s.dW) h'->∀ r:eC,r={ s with h:=h' }->lU r:=fun h' q r hr=>by
  subst hr;exact ⟨q,h.eF⟩
 have told:∀ (h':dX) (i:Nat) (t:eM) (o:fg),s.dW[i]?=some t->ef (tk s.dW) (CZ (pM s.dW) (i+1) o) h'->∀ r:eC,r={ s with h:=h',dW:=fh s.dW (i+1) o }->lU r:=fun h' i t o ht q r hr=>by
  subst hr;refine ⟨?_,fun u hu=>?_⟩
  ·show ef (tk (fh s.dW (i+1) o)) (pM (fh s.dW (i+1) o)) h';rw [yNr ht];exact q.WO (fun D V _ hD=>hD.fh _ _) FJ
  ·show u.eF<=s.now;have hu':u∈fh s.dW (i+1) o:=hu;unfold fh at hu';rw [bP,ht] at hu';simp only at hu';rcases bQ hu' with q | q
   ·exact h.eF u q
   ·rw [q];exact h.eF t (aC ht)
 obtain ⟨r,gH⟩:∃ r,r=eG s x:=⟨_,rfl⟩;rw [<-gH];have idc:∀ {i:Nat},fB s x=i+1->∃ t,s.dW[i]?=some t:=fun {i} e=>by
  unfold fB at e;split at e
  ·rename_i q;have:=EN x.tx s.dW.length q;exact ⟨_,aA (by omega)⟩
  ·omega
 unfold eG at gH;by_cases e0:x.what=0
 ·rw [aP e0] at gH;by_cases e:s.dW.length<7
  ·rw [aP e] at gH;subst gH;refine ⟨?_,fun u hu=>?_⟩
   ·show ef (tk (s.dW++[⟨[],s.now,-1⟩])) (pM (s.dW++[⟨[],s.now,-1⟩])) (nf s.h);rw [yJu];refine (h.qi.WO (Q':=tk (s.dW++[⟨[],s.now,-1⟩])) (fun D V hX hD=>hD.push (fun a ha=>?_)) FJ).begin hl2;have:=(hX.dm a).1 ha;rw [hok.tl] at this;exact ⟨by omega,this.2.1⟩
   ·show u.eF<=s.now;rcases aN.1 hu with q | q
    ·exact h.eF u q
    ·simp at q;rw [q];exact bR _
  ·rw [aK e] at gH;rw [gH];exact h
 rw [aK e0] at gH;by_cases e1:x.what=1
 ·rw [aP e1] at gH;obtain ⟨g1,g2⟩:=h.qi.get hr (fB s x) (eQ x);by_cases e:(fH s.h (fB s x) (eQ x)).2.2.2=0/\0<fB s x
  ·rw [aP e] at gH;obtain ⟨i,hi⟩:=Nat.exists_eq_succ_of_ne_zero (show fB s x≠0 by omega);obtain ⟨t,ht⟩:=idc hi;have hi':fB s x=i+1:=hi;have g:=g1 e.1;rw [hi'] at g gH;exact told _ i t _ ht g r gH
  ·rw [aK e] at gH;by_cases e2:(fH s.h (fB s x) (eQ x)).2.2.2=0
   ·exfalso;have hz:fB s x=0:=by
     apply aS;intro q;exact e ⟨e2,by omega⟩
    rw [hz] at e2;have:nu s.h ((0:Nat):Int) (eQ x)≠0:=fun q=>by
     obtain ⟨j,h1,h2,_⟩:=pO (ph q).1;omega
    unfold fH at e2;rw [aP this] at e2;exact this e2
   ·exact fin _ (g2 e2) r gH
 rw [aK e1] at gH;by_cases e2:x.what=2\/x.what=3
 ·rw [aP e2] at gH;obtain ⟨g1,g2⟩:=h.qi.put hr (fB s x) ⟨eQ x,gk x,decide (x.what=3)⟩;have hop:(⟨if (⟨eQ x,gk x,decide (x.what=3)⟩:fQ).gone then 3 else 2,eQ x,gk x,false⟩:fg)=⟨x.what,eQ x,gk x,false⟩:=by
   congr 1;rcases e2 with q | q <;> simp [q]
  by_cases e:(fG s.h (fB s x) ⟨eQ x,gk x,decide (x.what=3)⟩).2=0/\0<fB s x
  ·rw [aP e] at gH;obtain ⟨i,hi⟩:=Nat.exists_eq_succ_of_ne_zero (show fB s x≠0 by omega);obtain ⟨t,ht⟩:=idc hi;have hi':fB s x=i+1:=hi;have g:=g1 e.1;rw [hop] at g;rw [hi'] at g gH;exact told _ i t _ ht g r gH
  ·rw [aK e] at gH;by_cases e3:(fG s.h (fB s x) ⟨eQ x,gk x,decide (x.what=3)⟩).2=0
   ·exfalso;have hz:fB s x=0:=by
     apply aS;intro q;exact e ⟨e3,by omega⟩
    rw [hz] at e3;have:nu s.h ((0:Nat):Int) (eQ x)≠0:=fun q=>by
     obtain ⟨j,h1,h2,_⟩:=pO (ph q).1;omega
    unfold fG at e3;split at e3
    ·simp at e3
    ·first
      | exact this e3
      | (rw [aP this] at e3;exact this e3)
   ·exact fin _ (g2 e3) r gH
 rw [aK e2] at gH;by_cases e4:x.what=4
 ·rw [aP e4] at gH;exact fin _ (h.qi.end_ hr _) r gH
 rw [aK e4] at gH;by_cases e5:x.what=5
 ·rw [aP e5] at gH;by_cases e:x.a.tmod 4=0
  ·rw [aP e] at gH;exact fin _ (h.qi.drop hr _) r gH
  ·rw [aK e] at gH;rw [gH];exact h
 rw [aK e5] at gH;by_cases e6:x.what=6
 ·rw [aP e6] at gH;by_cases e:0<s.h.net.way.length
  ·rw [aP e] at gH;exact fin _ (h.qi.fp hS hH _) r gH
  ·rw [aK e] at gH;rw [gH];exact h
 rw [aK e6] at gH;by_cases e7:x.what=7
 ·rw [aP e7] at gH;by_cases e:0<s.h.net.way.length
  ·rw [aP e] at gH;exact fin _ (h.qi.rr hS _) r gH
  ·rw [aK e] at gH;rw [gH];exact h
 rw [aK e7] at gH;by_cases e8:x.what=8
 ·rw [aP e8] at gH;by_cases e:0<s.h.net.way.length
  ·rw [aP e] at gH;exact fin _ (h.qi.twice hS _) r gH
  ·rw [aK e] at gH;rw [gH];exact h
 rw [aK e8] at gH;by_cases e9:x.what=9
 ·rw [aP e9] at gH;exact fin _ (h.qi.tick hS) r gH
 rw [aK e9] at gH;by_cases e10:x.what=10
 ·rw [aP e10] at gH;refine fin _ ?_ r gH;unfold Be;split
  ·exact h.qi.fail hS _
  ·exact h.qi
 rw [aK e10] at gH;by_cases e11:x.what=11
 ·rw [aP e11] at gH;exact fin _ (h.qi.fix hS hH) r gH
 rw [aK e11] at gH;by_cases e12:x.what=12
 ·rw [aP e12] at gH;exact fin _ (h.qi.calm hr) r gH
 rw [aK e12] at gH;rw [gH];exact h
theorem yUj{s:eC}(h:lU s)(htl:s.h.dW.length=s.dW.length)(nL:0<=s.now):lU (mc s):=by
 have kP:pM (mc s).dW=pM s.dW:=yJt fun i=>by
  unfold mc;rw [bM,Option.map_map]
  cases s.dW[i]? with
  | none=>rfl
  | some t=>
   simp only [bK,Function.comp];split <;> rfl
 refine ⟨?_,fun u hu=>?_⟩
 ·rw [kP];refine h.qi.WO (fun D V hX hD=>?_) (fun D d q hd=>q.more hd);have old:∀ {a:Nat} {t:eM},0<a->(mc s).dW[a - 1]?=some t->∃ t',s.dW[a - 1]?=some t'/\t'.eF=t.eF/\(t'.fI=t.fI\/(t.fI=s.now/\jU s.h a=3)):=fun {a t} ha ht=>by
   unfold mc at ht;rw [bM] at ht
   cases hx:s.dW[a - 1]? with
   | none=>rw [hx] at ht;cases ht
   | some t'=>
    rw [hx,bK] at ht;have ht:=ax ht;refine ⟨t',rfl,?_⟩;split at ht
    ·rename_i e;rw [<-ht];have hc:((a - 1:Nat):Int)+1=a:=by omega
     rw [hc] at e;exact ⟨rfl,.inr ⟨rfl,e.2⟩⟩
    ·rw [<-ht];exact ⟨rfl,.inl rfl⟩
  refine ⟨fun a t h1 h2 h3=>?_,fun a b hb hab=>?_⟩
  ·obtain ⟨t',q1,q2,q3 | ⟨q3,q4⟩⟩:=old h1 h2
   ·exact hD.1 a t' h1 q1 (by omega)
   ·rw [hX.dm];have hal:=(aB.1 q1).1;unfold jU at q4;split at q4
    ·exact ⟨by omega,by omega,by simpa using q4⟩
    ·simp at q4
  ·obtain ⟨t,u,q1,q2,q3,q4,q5,q6⟩:=hab;obtain ⟨t',r1,r2,r3 | ⟨r3,r4⟩⟩:=old q1 q3
   ·obtain ⟨u',v1,v2,_⟩:=old q2 q4;exact hD.2 a b hb ⟨t',u',q1,q2,r1,v1,by omega,by omega⟩
   ·exfalso;obtain ⟨u',v1,v2,_⟩:=old q2 q4;have:=h.eF u' (aC v1);omega
 ·obtain ⟨i,hi⟩:=aO hu;unfold mc at hi;rw [bM] at hi
  cases hx:s.dW[i]? with
  | none=>rw [hx] at hi;cases hi
  | some t=>
   rw [hx,bK] at hi;have hi:=ax hi;have hf:=h.eF t (aC hx);show u.eF<=s.now;rw [<-hi];split <;> exact hf
theorem yNj{m:Nat}{s:eC}(h:lU s)(hok:se m s)(nL:0<=s.now)(x:ActD):lU (uZ s x):=by
 have h1:lU { s with now:=s.now+1 }:=⟨h.qi,fun t ht=>by have:=h.eF t ht;show t.eF<=s.now+1;omega⟩;have hg:=Lp (hok.clock (s.now+1)) x;exact yUj (yVs h1 (hok.clock (s.now+1)) x) hg.2.2.2.1 (by rw [hg.2.2.2.2.2.1];show (0:Int)<=s.now+1;omega)
def vz(s:eC):List Nat:=(List.range s.dW.length).filter fun i=>decide (jU s.h ((i:Int)+1)=3) || decide (jU s.h ((i:Int)+1)=2)
def qT(s:eC):List eM:=(vz s).map fun i=>s.dW.getD i ⟨[],0,0⟩
def qk(l:List Nat)(x:Nat):Nat:=l.findIdx fun y=>decide (y=x)
theorem Lk{l:List Nat}{x:Nat}(h:x∈l):l[qk l x]?=some x:=by
 unfold qk;have hlt:l.findIdx (fun y=>decide (y=x))<l.length:=List.findIdx_lt_length_of_exists ⟨x,h,by simp⟩;rw [aA hlt];have:=List.findIdx_getElem (p:=fun y=>decide (y=x)) (w:=hlt);simp at this;rw [this]
theorem Vf{l:List Nat}(hn:l.Nodup){i x:Nat}(h:l[i]?=some x):qk l x=i:=by
 have h2:=Lk (aC h);obtain ⟨a1,a2⟩:=aB.1 h2;obtain ⟨b1,b2⟩:=aB.1 h;exact (List.getElem_inj hn).1 (a2.trans b2.symm)
theorem yEq(s:eC):(vz s).Nodup:=List.Pairwise.filter _ List.nodup_range
theorem UE{s:eC}{i:Nat}:i∈vz s↔i<s.dW.length/\(jU s.h ((i:Int)+1)=3\/jU s.h ((i:Int)+1)=2):=by
 unfold vz;rw [bE,bZ];simp
theorem Lz{s:eC}{i:Nat}{t:eM}(h:(qT s)[i]?=some t):∃ j,(vz s)[i]?=some j/\s.dW[j]?=some t:=by
 unfold qT at h;rw [aa] at h
 cases hj:(vz s)[i]? with
 | none=>rw [hj] at h;cases h
 | some j=>
  rw [hj,bK] at h;have hjl:=(UE.1 (aC hj)).1;rw [aI,aA hjl] at h;exact ⟨j,rfl,by rw [aA hjl];exact h⟩
theorem yBa{s:dX}{id:Nat}(h1:1<=id)(h2:id<=s.dW.length):jU s (id:Int)=(s.tx id).state:=by
 unfold jU xg;rw [aQ (show (1:Int)<=(id:Int) by omega),aQ (show (id:Int)<=(s.dW.length:Int) by omega)];simp
theorem lU.fits{s:eC}(h:lU s)(htl:s.h.dW.length=s.dW.length):∃ o s2,iW (qT s) [] jh o=some s2/\lY (qT s) o:=by
 obtain ⟨_,D,V,hX,hD⟩:=h.qi;have Iu:∀ d∈D,1<=d/\d<=s.dW.length/\d - 1∈vz s:=fun d hd=>by
  obtain ⟨q1,q2,q3⟩:=(hX.dm d).1 hd;refine ⟨q1,by omega,UE.2 ⟨by omega,.inl ?_⟩⟩;have e:((d - 1:Nat):Int)+1=(d:Int):=by omega
  rw [e,yBa q1 q2];exact q3
 obtain ⟨o,ho⟩:∃ o,o=D.map fun d=>qk (vz s) (d - 1):=⟨_,rfl⟩;have hnd:=yEq s;have oat:∀ (p d:Nat),D[p]?=some d->o[p]?=some (qk (vz s) (d - 1)):=fun p d hp=>by rw [ho,aa,hp];rfl
 have hinj:∀ d∈D,∀ d'∈D,qk (vz s) (d - 1)=qk (vz s) (d' - 1)->d=d':=fun d hd d' hd' e=>by
  have a:=Lk (Iu d hd).2.2;have b:=Lk (Iu d' hd').2.2;rw [e,b] at a;have:=ax a;have:=(Iu d hd).1;have:=(Iu d' hd').1;omega
 have ID:o.Nodup:=by
  rw [ho];unfold List.Nodup;rw [cB];refine cr ?_ hX.nd;intro a b ha hb hab e;exact hab (hinj a ha b hb e)
 have hmem:∀ d∈D,qk (vz s) (d - 1)∈o:=fun d hd=>by rw [ho];exact af.2 ⟨d,hd,rfl⟩
 have hW:lY (qT s) o:=fun i t hi ht=>by
  obtain ⟨j,hj,OY⟩:=Lz hi;have hd:=hD.1 (j+1) t (by omega) (by simpa using OY) ht;have:=hmem _ hd;rw [bP,Vf hnd hj] at this;exact this
 have hA:Ch (qT s) o:=fun i k t u hi hk h0 hlt hp vH=>by
  obtain ⟨ji,yz,OY⟩:=Lz hi;obtain ⟨jk,hjk,IU⟩:=Lz hk;have hko:k∈o:=(GH o k 0).1 hp;have hkD:jk+1∈D:=by
   rw [ho] at hko;obtain ⟨d,hd,he⟩:=af.1 hko;have:=Lk (Iu d hd).2.2;rw [he,hjk] at this;have:=ax this;have:=(Iu d hd).1;rw [show jk+1=d by omega];exact hd
  obtain ⟨p,q,Nu,IC,DN⟩:=hD.2 (ji+1) (jk+1) hkD ⟨t,u,by omega,by omega,by simpa using OY,by simpa using IU,h0,hlt⟩;have a1:=oat p _ IC;have a2:=oat q _ DN;rw [bP,Vf hnd yz] at a1;rw [bP,Vf hnd hjk] at a2;rw [MG ID a1,MG ID a2] at vH;omega
 -- the run
 have hrun:∀ (ds:List Nat) (v:gK),(∀ d∈ds,d∈D)->gj (qT s) v (ds.map fun d=>qk (vz s) (d - 1))=lG (pM s.dW) v ds:=by
  intro ds
  induction ds with
  | nil=>intro v _;rfl
  | cons d ds ih=>
   intro v hds;obtain ⟨q1,q2,q3⟩:=Iu d (hds d (by simp));have hp:=Lk q3;have hts:(qT s)[qk (vz s) (d - 1)]?=some (s.dW.getD (d - 1) ⟨[],0,0⟩):=by
    unfold qT;rw [aa,hp];rfl
   have kP:pM s.dW d=(s.dW.getD (d - 1) ⟨[],0,0⟩).ops:=by
    unfold pM;rw [aK (by omega),aI]
    cases s.dW[d - 1]? with
    | none=>rfl
    | some t=>rfl
   rw [bW,gj,lG,hts,kP];simp only
   cases gh v (s.dW.getD (d - 1) ⟨[],0,0⟩).ops with
   | none=>rfl
   | some r=>exact ih r.1 (fun x hx=>hds x (by simp [hx]))
 have hR:gj (qT s) jh o=some V:=by rw [ho,hrun D jh (fun _ hd=>hd)];exact hX.run
 refine ⟨o,V,(GL (qT s) o [] jh V).2 ⟨fun p n hp=>?_,hR⟩,hW⟩;rw [aY];exact Vb ID hA hp (fun m t u ht hu ha=>hW m t ht ha.1)
theorem lU.Gm{s:eC}(h:lU s)(htl:s.h.dW.length=s.dW.length):¬ Jo (qT s) [] jh:=fun hn=>by
 obtain ⟨o,s2,h1,h2⟩:=h.fits htl;exact hn o s2 h1 (by simpa using h2)
end Go.Proofs.YtmaiggbnceejiaaGreatDoor
