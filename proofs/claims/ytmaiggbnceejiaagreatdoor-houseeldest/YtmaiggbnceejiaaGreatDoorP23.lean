import Derived.Test.YtmaiggbnceejiaaGreatDoorP22
import Derived.Test.YtmaiggbnceejiaaGreatDoorP20
set_option linter.unusedVariables false
set_option maxRecDepth 100000
set_option maxHeartbeats 16000000
namespace Go.Proofs.YtmaiggbnceejiaaGreatDoor
open Go.RowKit Go.Lib Go.Maps
theorem zWc{s:dW}(h:Safe s)(hH:Held s)(k:Int):fe s (nD s k).1:=by
 unfold nD;split
 ·rename_i m _ hm;split
  ·exact ⟨h.way (net:=kF s.net m) fun m' hm'=>(yAt hm').elim id (fun e=>by rw [e];exact aC hm),hH.lines rfl rfl,km.of rfl,rfl⟩
  ·exact fe.refl h hH
 ·exact fe.refl h hH
theorem wZ(s:dW){j:Nat}(h1:1<=j)(hj:j<=s.dV.length):(nC s).tx j=s.tx j:=by
 unfold dW.tx nC;simp only [aH];rw [aI (by omega)]
theorem Lb(s:dW):(nC s).tx (s.dV.length+1)=⟨1,List.replicate s.lines.length 0,[],0⟩:=by
 unfold dW.tx nC;simp [List.getD_eq_getElem?_getD]
theorem Br(s:dW):(nC s).dV.length=s.dV.length+1:=by simp [nC]
theorem QV(n k:Nat):(List.replicate n (0:Int)).getD k 0=0:=by
 rw [aH,List.getElem?_replicate];split <;> rfl
theorem zXt{s:dW}(h:Safe s)(hH:Held s)(hl:s.dV.length<60):fe s (nC s):=by
 have e1:=fun {j} (a:1<=j) (b:j<=s.dV.length)=>wZ s a b;refine ⟨h.dV rfl rfl (by rw [Br];omega) (fun k c hk hc q=>?_) (fun id i1 i2=>?_),?_,⟨by rw [Br];omega,fun j j1 j2 _=>by rw [e1 j1 j2]⟩,rfl⟩
 ·have hlo:=q.lo;have hhi:=q.hi;have e:(nC s).tx c.tx.toNat=s.tx c.tx.toNat:=e1 (by omega) (by omega);exact ⟨q.lo,by rw [Br];omega,by rw [e];exact q.dec,by rw [e];exact q.jE⟩
 ·by_cases e:id=s.dV.length+1
  ·subst e;refine ⟨?_,?_,?_,?_,?_,?_,?_,?_,?_⟩
   all_goals rw [Lb]
   ·show (List.replicate s.lines.length (0:Int)).length=s.lines.length;simp
   ·simp
   ·intro k;show 0<=(List.replicate _ (0:Int)).getD k 0/\_<=_;rw [QV];omega
   ·exact QV _ _
   ·intro _ k;show (List.replicate _ (0:Int)).getD k 0≠2;rw [QV];omega
   ·intro k _ hk;have hk':(List.replicate s.lines.length (0:Int)).getD k 0=2:=hk;rw [QV] at hk';omega
   ·intro hs;simp at hs
   ·simp
   ·simp
  ·have i3:id<=s.dV.length:=by rw [Br] at i2;omega
   exact (h.tx id i1 i3).same (e1 i1 i3) rfl
 ·have e2:∀ x:Int,1<=x->x<=(s.dV.length:Int)->(nC s).tx x.toNat=s.tx x.toNat:=fun x a b=>e1 (by omega) (by omega);refine ⟨fun k=>(hH.apart k).more fun x hx=>?_,fun k c hc=>?_,fun k c hc=>?_,hH.small⟩
  ·simp only [ak] at hx ⊢;obtain ⟨q1,q2,q3⟩:=vi.1 hx;exact vi.2 ⟨q1,by rw [Br];omega,by rw [e2 x q1 q2];exact q3⟩
  ·obtain ⟨q1,q2,q3⟩:=hH.hold k c hc;exact ⟨q1,by rw [Br];omega,by rw [e2 _ q1 q2];exact q3⟩
  ·obtain ⟨q1,q2,q3⟩:=hH.wait k c hc;exact ⟨q1,by rw [Br];omega,by rw [e2 _ q1 q2];exact q3⟩
theorem jD.ending{s:dW}(hH:Held s){id:Nat}(h1:1<=id)(h2:id<=s.dV.length){t:jO}(ht:t.state=2)(ho:(s.tx id).state=1)(hw:∀ k,∀ c∈(s.keys k).waits,c.tx≠(id:Int)):Held (dY s id t):=by
 have es:∀ j:Nat,1<=j->((dY s id t).tx j).state=if j=id then 2 else (s.tx j).state:=fun j hj=>by
  rw [mq s id t hj h1 h2];split
  ·exact ht
  ·rfl
 have el:=kT s id t;refine ⟨fun key=>(hH.apart key).more fun x hx=>?_,fun key c hc=>?_,fun key c hc=>?_,hH.small⟩
 ·simp only [ak] at hx ⊢;obtain ⟨q1,q2,q3⟩:=vi.1 hx;refine vi.2 ⟨q1,by rw [el];exact q2,?_⟩;rw [es _ (by omega)];split
  ·rfl
  ·exact q3
 ·obtain ⟨q1,q2,q3⟩:=hH.hold key c hc;refine ⟨q1,by rw [el];exact q2,?_⟩;rw [es _ (by omega)];split
  ·exact .inr rfl
  ·exact q3
 ·obtain ⟨q1,q2,q3⟩:=hH.wait key c hc;refine ⟨q1,by rw [el];exact q2,?_⟩;rw [es _ (by omega),aE (fun e=>hw key c hc (by omega))];exact q3
theorem jD.states{X:List Int}{s:dW}(h:jD X s){id:Nat}(h1:1<=id)(h2:id<=s.dV.length){t:jO}(ht:t.state=(s.tx id).state):jD X (dY s id t):=by
 have es:∀ j:Nat,1<=j->((dY s id t).tx j).state=(s.tx j).state:=fun j hj=>by
  rw [mq s id t hj h1 h2];split
  ·rename_i e;rw [e];exact ht
  ·rfl
 have el:=kT s id t;refine ⟨fun key=>(h.apart key).more fun x hx=>?_,fun key c hc=>?_,fun key c hc=>?_,h.small⟩
 ·rcases aL.1 hx with q | q
  ·exact aL.2 (.inl q)
  ·obtain ⟨q1,q2,q3⟩:=vi.1 q;exact aL.2 (.inr (vi.2 ⟨q1,by rw [el];exact q2,by rw [es _ (by omega)];exact q3⟩))
 ·obtain ⟨q1,q2,q3⟩:=h.hold key c hc;exact ⟨q1,by rw [el];exact q2,by rw [es _ (by omega)];exact q3⟩
 ·obtain ⟨q1,q2,q3⟩:=h.wait key c hc;exact ⟨q1,by rw [el];exact q2,by rw [es _ (by omega)];exact q3⟩
theorem Dj{s:dW}{id:Int}(h:xr s id=false):∀ k,∀ c∈(s.keys k).waits,c.tx≠id:=fun k c hc e=>by
 unfold xr at h;simp only [bT] at h;exact h ⟨k,cK.2 ⟨c,hc,by simpa using e⟩⟩
theorem yRn{s:dW}(h:Safe s)(hH:Held s)(id:Int):fe s (fa s id).1:=by
 unfold fa;split
 ·exact fe.refl h hH
 ·rename_i e;split
  ·exact fe.refl h hH
  ·rename_i e2;obtain ⟨i,rfl,h1,h2,ho⟩:=nY (by simpa using e);rw [aS];have hS:Safe (dY s i { s.tx i with state:=2 }):=h.write (ws:=(s.tx i).writes) h1 h2 ho (h.tx i h1 h2).few (.inr rfl);have uy:Held (dY s i { s.tx i with state:=2 }):=hH.ending h1 h2 rfl ho (Dj (by simpa using e2));have hA:fe s (dY s i { s.tx i with state:=2 }):=⟨hS,uy,⟨by rw [kT];exact aF _,fun j j1 j2 j3=>by
    rw [mq s i _ j1 h1 h2,aE (fun q=>by subst q;omega)]⟩,rfl⟩
   obtain ⟨b,c,_⟩:=sV hS;have q:=c.rV b uy;exact (hA.trans q.CK).trans (wm b q.held).1.CK
theorem FW.CK{s r:dW}{id k:Nat}(h:FW s id k r)(hs:Safe s)(ho:(s.tx id).state=1):fe s r:=
 ⟨h.safe,h.held,⟨by rw [h.same.len];exact aF _,fun j j1 j2 j3=>by
  by_cases e:j=id
  ·subst e;omega
  ·rcases h.cut j j1 e with q | q
   ·rw [q]
   ·omega⟩,by rw [h.same.l]⟩
theorem yGq{s:dW}(h:Safe s)(hH:Held s)(id:Int)(p:fR):fe s (eZ s id p).1:=by
 unfold eZ;split
 ·exact fe.refl h hH
 split
 ·exact fe.refl h hH
 rename_i e1;obtain ⟨i,rfl,h1,h2,ho⟩:=nY (nu (by simpa using e1)).1;rw [aS];split
 ·exact fe.refl h hH
 rename_i e2;have hks:=(nu (by simpa using e1)).2.1;have q:=tr h hH h1 h2 ho p.key hks (mode:=2) (.inr rfl);have qA:=q.CK h ho;simp only;split
 ·exact qA
 ·rename_i e3;have XL:qv (s.tx i) p.key=false:=by
   cases hf:qv (s.tx i) p.key with
   | false=>rfl
   | true=>
    have hy:oe s i p.key=false:=by
     cases hy:oe s i p.key with
     | false=>rfl
     | true=>exact absurd (by rw [hf,hy];rfl) e2
    exact absurd (by simpa using e3) (yJc h hH h1 h2 ho p.key hks hy)
  refine qA.trans ?_;generalize (gC s i p.key 2).1=r at q qA ⊢;have hwr:=q.wr;have hl:i<=r.dV.length:=by rw [q.same.len];exact h2
  have hx:=q.safe.tx i h1 hl;have hw:lV (r.tx i) p={ r.tx i with state:=1,writes:=(lV (r.tx i) p).writes }:=by
   unfold lV;split
   ·simp [q.st]
   ·simp [q.st]
  have hwk:∀ q∈(lV (r.tx i) p).writes,q.key.size<=20:=fun q hq=>by
   have hp:=(nu (by simpa using e1)).2.1;unfold lV at hq;split at hq
   ·rcases bE hq with e | e
    ·exact hx.few.2 q e
    ·rw [e];exact hp
   ·rcases aL.1 hq with e | e
    ·exact hx.few.2 q e
    ·simp at e;rw [e];exact hp
  have pL:(lV (r.tx i) p).writes.length<=20:=by
   unfold lV;split
   ·simpa using hx.few.1
   ·rename_i hn;simp only [aD,aW,an];have Cd:tn (s.tx i) p.key=none:=by unfold tn at hn ⊢;rw [hwr] at hn;exact hn
    unfold qv at XL;rw [Cd] at XL;rw [hwr];simp at XL;omega
  rw [hw];refine ⟨q.safe.write h1 hl q.st ⟨pL,hwk⟩ (.inl rfl),q.held.states h1 hl (by simp [q.st]),⟨by rw [kT];exact aF _,fun j j1 j2 j3=>?_⟩,rfl⟩;rw [mq r i _ j1 h1 hl];split
  ·rename_i e;subst e;have:=q.st;omega
  ·rfl
theorem yRf{s:dW}(h:Safe s)(hH:Held s)(id:Int)(key:ByteArray):fe s (fL s id key).1:=by
 unfold fL;split
 ·exact fe.refl h hH
 rename_i e1;obtain ⟨i,rfl,h1,h2,ho⟩:=nY (nu (by simpa using e1)).1;have q:=(tr h hH h1 h2 ho key (nu (by simpa using e1)).2.1 (mode:=1) (.inl rfl)).CK h ho;simp only;split
 ·exact q
 ·exact q
theorem Qg(nodes:Nat):∀ m,(gT nodes m).lines=(List.range m).map fun k=>(nt k nodes).1
 | 0=>rfl
 | m+1=>by
  show (gT nodes m).lines++[(nt m nodes).1]=_;rw [Qg nodes m,aY,ao];rfl
theorem QS(nodes:Nat):∀ m,(gT nodes m).dead=[]/\(gT nodes m).dV=[]/\(gT nodes m).keys=(fun _=>⟨[],[]⟩)/\(gT nodes m).net.down=[]/\∀ x∈(gT nodes m).net.way,x.kind=1\/x.kind=4
 | 0=>⟨rfl,rfl,rfl,rfl,fun x hx=>by simp [gT] at hx⟩
 | m+1=>by
  obtain ⟨a,b,c,d,e⟩:=QS nodes m;refine ⟨a,b,c,by show (ju _ _).down=_;rw [Qj];exact d,fun x hx=>?_⟩;rcases Iy hx with q | q
  ·exact e x q
  ·exact zSb q
def ig(k nodes:Nat):List eH:=(List.range nodes).map fun (i:Nat)=>LM (10*(k:Int)+(i:Int))
theorem yBk(k nodes:Nat){i:Nat}(hi:i<nodes):(ig k nodes)[i]?=some (LM (10*(k:Int)+(i:Int))):=by
 unfold ig;simp [hi]
theorem yGu(k nodes:Nat):(ig k nodes).Pairwise fun a b=>a.id<b.id:=by
 unfold ig;rw [cC];refine List.Pairwise.imp ?_ List.pairwise_lt_range;intro a b hab;show 10*(k:Int)+(a:Int)<10*(k:Int)+(b:Int);omega
theorem yMm(k nodes:Nat)(h1:1<=nodes){n:eH}(hn:n∈ig k nodes):(kB ⟨ig k nodes,0⟩ n).id=n.id/\(kB ⟨ig k nodes,0⟩ n).db=1/\(kB ⟨ig k nodes,0⟩ n).nodes=(ig k nodes).map (·.id)/\(kB ⟨ig k nodes,0⟩ n).log=[]:=by
 obtain ⟨i,hi⟩:=aN hn;have gk:n.log=[]/\n.nodes=[]:=by
  unfold ig at hn;obtain ⟨j,_,rfl⟩:=ag.1 hn;exact ⟨rfl,rfl⟩
 have iP:np ⟨ig k nodes,0⟩=1:=by
  unfold np;rw [aH,yBk k nodes (by omega)];rfl
 have hbl:(jK n 1 ((ig k nodes).map (·.id))).log=[]/\(jK n 1 ((ig k nodes).map (·.id))).id=n.id/\(jK n 1 ((ig k nodes).map (·.id))).db=1/\(jK n 1 ((ig k nodes).map (·.id))).nodes=(ig k nodes).map (·.id):=by
  unfold jK;split
  ·exact ⟨rfl,rfl,rfl,rfl⟩
  ·exact ⟨gk.1,rfl,rfl,rfl⟩
 unfold kB;rw [iP];obtain ⟨g1,g2,_⟩:=Dh (jK n 1 ((ig k nodes).map (·.id)));exact ⟨g1.id.trans hbl.2.1,g1.ep.trans hbl.2.2.1,g1.cf.trans hbl.2.2.2,g2.trans hbl.1⟩
theorem UJ(k nodes:Nat)(h1:1<=nodes)(h4:nodes<=4):pW k (nt k nodes).1/\∀ n∈(nt k nodes).1.nodes,n.log=[]:=by
 have hb:=fun n hn=>yMm k nodes h1 (n:=n) hn;have hN:(nt k nodes).1=⟨(ig k nodes).map (kB ⟨ig k nodes,0⟩),0⟩:=rfl;have hlen:(ig k nodes).length=nodes:=by simp [ig]
 rw [hN];refine ⟨⟨fun e=>?_,?_,fun x hx=>?_,fun x hx=>?_,⟨1,by omega,?_,fun x hx=>?_⟩,fun x hx=>aV _,fun x hx=>?_⟩,fun x hx=>?_⟩
 ·have:=ae List.length e;simp [hlen] at this;omega
 ·rw [cC];refine dJ ?_ (yGu k nodes);intro a b ha hb' hab;rw [(hb a ha).1,(hb b hb').1,(hb a ha).2.2.2,(hb b hb').2.2.2];exact ⟨hab,br _⟩
 ·obtain ⟨n,hn,rfl⟩:=ag.1 hx;rw [(hb n hn).1];unfold ig at hn;obtain ⟨j,hj,rfl⟩:=ag.1 hn;have:=cL.1 hj;show 10*(k:Int)<=10*(k:Int)+(j:Int)/\_<_;refine ⟨by omega,?_⟩;show 10*(k:Int)+(j:Int)<_;omega
 ·obtain ⟨n,hn,rfl⟩:=ag.1 hx;rw [(hb n hn).2.2.1];show (ig k nodes).map (·.id)=((ig k nodes).map (kB ⟨ig k nodes,0⟩)).map (·.id);rw [dN];exact List.map_congr_left fun a ha=>((hb a ha).1).symm
 ·show 1+(((ig k nodes).map _).length:Int)<=6;rw [af,hlen];omega
 ·obtain ⟨n,hn,rfl⟩:=ag.1 hx;exact (hb n hn).2.1
 ·obtain ⟨n,hn,rfl⟩:=ag.1 hx;rw [(hb n hn).2.2.2];simp
 ·obtain ⟨n,hn,rfl⟩:=ag.1 hx;exact (hb n hn).2.2.2
theorem yQj{shards nodes:Nat}(h1:1<=shards/\shards<=4)(h2:1<=nodes/\nodes<=4):Safe (fS shards nodes)/\Held (fS shards nodes)/\(fS shards nodes).lines.length=shards+1:=by
 obtain ⟨a,b,c,d,e⟩:=QS nodes (shards+1);have hl:=Qg nodes (shards+1);have hlen:(fS shards nodes).lines.length=shards+1:=by show (gT nodes (shards+1)).lines.length=_;rw [hl];simp
 have ht:(fS shards nodes).dV=[]:=b;have nL:∀ k,k<shards+1->(fS shards nodes).line k=(nt k nodes).1:=fun k hk=>by
  show (gT nodes (shards+1)).lines.getD k _=_;rw [hl,aH];simp [hk]
 refine ⟨⟨by rw [hlen];omega,by rw [ht];simp,fun k hk=>?_,fun k hk=>?_,fun m hm h3=>?_,fun id i1 i2=>by rw [ht] at i2;simp at i2;omega⟩,?_,hlen⟩
 ·rw [hlen] at hk;rw [nL k hk];exact (UJ k nodes h2.1 h2.2).1
 ·rw [hlen] at hk;have q:=UJ k nodes h2.1 h2.2;have hn:(dy (fS shards nodes) k).log=[]:=by
   have:=Tj (s:=fS shards nodes) (k:=k) (by rw [nL k hk];exact q.1.ne);rw [nL k hk] at this;exact q.2 _ (aC this)
  rw [hn];exact ⟨by simp,List.Pairwise.nil,fun _ i c hi=>by simp at hi⟩
 ·have:=e m hm;omega
 ·have hk:∀ k,(fS shards nodes).keys k=⟨[],[]⟩:=fun k=>by show (gT nodes (shards+1)).keys k=_;rw [c]
  exact ⟨fun k=>by rw [hk];exact qK.nil _,fun k c hc=>by rw [hk] at hc;simp at hc,fun k c hc=>by rw [hk] at hc;simp at hc,fun k _=>by rw [hk];exact ⟨rfl,rfl⟩⟩
def qd(m:dp):Nat:=if m.kind=1 then 602 else if m.kind=2 then 601 else if m.kind=4 then 1+min m.to.toNat 100 else 1
theorem Fq(m:dp):qd m<=602:=by
 unfold qd;split
 ·omega
 ·split
  ·omega
  ·split
   ·omega
   ·omega
theorem VS(m:dp):1<=qd m:=by
 unfold qd;split
 ·omega
 ·split
  ·omega
  ·split
   ·omega
   ·omega
def gA(ms:List dp):Nat:=(ms.map qd).sum
theorem yPy(a b:List dp):gA (a++b)=gA a+gA b:=by simp [gA]
theorem VR:∀ ms:List dp,gA ms<=602*ms.length
 | []=>by simp [gA]
 | m :: ms=>by
  have:=VR ms;have:=Fq m;have e:gA (m :: ms)=qd m+gA ms:=by simp [gA]
  rw [e,aW,Nat.mul_succ];omega
theorem yMc(s:ey)(m:dp):gA (kF s m).way<=gA s.way+qd m:=by
 unfold kF;split
 ·exact Nat.le_add_right _ _
 ·show gA (s.way++[m])<=_;rw [yPy];simp [gA]
theorem To:∀ (ms:List dp) (s:ey),gA (ju s ms).way<=gA s.way+gA ms
 | [],s=>Nat.le_add_right _ _
 | m :: ms,s=>by
  have h1:=To ms (kF s m);have h2:=yMc s m;have e:gA (m :: ms)=qd m+gA ms:=by simp [gA]
  show gA (ju (kF s m) ms).way<=_;omega
def oc(s:dW):Nat:=gi (fun k=>gi (fun j=>500 - (eG s k j).log.length) (s.line k).nodes.length) s.lines.length
def jg(s:dW):Nat:=gA s.net.way
def oo(s:dW):Nat:=oc s*120401+jg s
theorem yMd{s:dW}(h:s.net.way.length<=200):jg s<=120400:=by
 have:=VR s.net.way;unfold jg;omega
theorem og{s:dW}{k j:Nat}(hj:j<(s.line k).nodes.length):(s.line k).nodes[j]?=some (eG s k j):=by
 rw [aA hj];unfold eG;rw [aH,aA hj];rfl
theorem kp.at{s s':dW}(h:kp s s'){k j:Nat}(hj:j<(s.line k).nodes.length):rK (eG s k j) (eG s' k j)/\(eG s k j).log <+: (eG s' k j).log:=by
 obtain ⟨n',e1,e2,e3,_⟩:=h.node k j _ (og hj);rw [pH e1];exact ⟨e2,e3⟩
theorem kp.room{s s':dW}(h:kp s s'):oc s'<=oc s:=by
 unfold oc;rw [h.ll];refine Bn fun k hk=>?_;rw [h.len];refine Bn fun j hj=>?_;have:=(h.at hj).2.length_le;omega
theorem kp.less{s s':dW}(h:kp s s')(hS:Safe s'){k j:Nat}(hk:k<s.lines.length)(hj:j<(s.line k).nodes.length)(hlt:(eG s k j).log.length<(eG s' k j).log.length):oc s'<oc s:=by
 have hf:(eG s' k j).log.length<=500:=(hS.line k (by rw [h.ll];exact hk)).few _ (aC (og (by rw [h.len];exact hj)));unfold oc;rw [h.ll];refine Il (fun k' hk'=>?_) k hk ?_
 ·rw [h.len];refine Bn fun j' hj'=>?_;have:=(h.at hj').2.length_le;omega
 ·rw [h.len];refine Il (fun j' hj'=>?_) j hj (by omega);have:=(h.at hj').2.length_le;omega
theorem yLo{f g:Nat->Nat}:∀ {n:Nat},(∀ k,k<n->f k=g k)->gi f n=gi g n
 | 0,_=>rfl
 | n+1,h=>by show gi f n+f n=gi g n+g n;rw [yLo fun k hk=>h k (by omega),h n (by omega)]
theorem zTd{s:dW}(h:qO s=false):mH s=s:=by
 unfold mH ez;rw [h];rfl
theorem yPm{k:Nat}{l:ik}(hL:pW k l)(hk:k<=4){j:Nat}{n:eH}(hj:l.nodes[j]?=some n)(m:dp)(hg:(fy n m).1.log=n.log):gA (fy n m).2<qd m/\(fy n m).2.length<=500:=by
 have hnm:=aC hj;have hsend:∀ (s:eH) (wh:Int) (x:dp),(kY s wh x).length<=1:=fun s wh x=>by
  unfold kY;split <;> simp
 unfold fy at hg ⊢;split at hg
 ·rename_i h0;rw [aJ h0];split at hg
  ·rename_i h1;rw [aJ h1];refine ⟨?_,aM (hsend _ _ _) (by omega)⟩;have e:qd m=602:=by unfold qd;rw [aJ h1.1]
   rw [e];show gA (kY n (-1) (pG 2 n.log.length))<602;unfold kY;split
   ·simp [gA]
   ·simp [gA,qd,pG]
  ·rename_i h1;rw [aE h1];split at hg
   ·rename_i h2;rw [aJ h2];have e:qd m=601:=by unfold qd;rw [aE (by omega),aJ h2.1]
    rw [e];have hlen:(sC n m.n).length<=500:=by
     unfold sC;split
     ·simp
     ·simp only [ke,af,List.length_range];have:=hL.few n hnm;omega
    refine ⟨?_,hlen⟩;have hone:∀ x∈sC n m.n,qd x=1:=fun x hx=>by
     unfold sC at hx
     cases hn:gp n 1 with
     | none=>rw [hn] at hx;simp at hx
     | some t=>
      rw [hn] at hx;simp only [ke,ag] at hx;obtain ⟨i,_,rfl⟩:=hx;rfl
    have Wn:∀ ms:List dp,(∀ x∈ms,qd x=1)->gA ms=ms.length:=fun ms=>by
     induction ms with
     | nil=>intro _;rfl
     | cons a ms ih=>
      intro hx;have e1:=ih fun x hm=>hx x (by simp [hm]);have e2:gA (a :: ms)=qd a+gA ms:=by simp [gA]
      rw [e2,e1,hx a (by simp),aW];omega
    show gA (sC n m.n)<601;rw [Wn _ hone];omega
   ·rename_i h2;rw [aE h2];split at hg
    ·rename_i h3;have:=(Bu n m.cmd).2.1;rw [this] at hg;have:=ae List.length hg;simp at this
    ·rename_i h3;rw [aE h3];split at hg
     ·rename_i h4;rw [aJ h4];refine ⟨?_,aM (hsend _ _ _) (by omega)⟩;have iZ:m.to=n.id:=h0.2;have hr:=hL.nf n hnm;have e:qd m=1+n.id.toNat:=by
       unfold qd;rw [aE (by omega),aE (by omega),aJ h4.1,iZ,Nat.min_eq_left (by omega)]
      rw [e];show gA (kY (uN n m.n) (-1) (pG 4 (uN n m.n).gj))<_;unfold kY;split
      ·simp [gA];omega
      ·rename_i t ht;have ht':gp n (-1)=some t:=ht;obtain ⟨i,a,hi,ha,uw⟩:=hL.RN hj ht';have hlt:=(rR.1 hL.ord i j a n (by omega) ha hj).1;have hra:=hL.nf a (aC ha);simp only [gA,qd,pG,bh,cR,List.sum_cons,List.sum_nil];simp only [show ((4:Int)=1)=False by simp,show ((4:Int)=2)=False by simp,if_false,if_true];have:min t.toNat 100<=t.toNat:=Nat.min_le_left _ _;omega
     ·rename_i h4;rw [aE h4];exact ⟨by have:=VS m;simp [gA];omega,by simp⟩
 ·rename_i h0;rw [aE h0];exact ⟨by have:=VS m;simp [gA];omega,by simp⟩
theorem Safe.k4{s:dW}(h:Safe s){k:Nat}(hk:k<s.lines.length):k<=4:=by have:=h.ll.2;omega
theorem yJu{s:dW}(h:Safe s)(hH:Held s)(hn:qO s=false)(hf:s.net.way.length<=200)(hne:s.net.way≠[]):oo (im s 0)<oo s/\qO (im s 0)=false/\(im s 0).net.way.length<=200:=by
 have hG:=JJ h hH 0;have hf':=hG.few hf
 cases hw:s.net.way with
 | nil=>exact absurd hw hne
 | cons m R=>
  have hm:s.net.way[0]?=some m:=by rw [hw];rfl
  have hphi:jg s=qd m+gA R:=by unfold jg;rw [hw];simp [gA]
  have hT:∀ k,(fH s 0).line k=s.line k:=fun _=>rfl;have Mq:(fH s 0).net.way=R:=by show s.net.way.eraseIdx 0=R;rw [hw];rfl
  have Gd:=VS m;have ue:oc (fH s 0)=oc s:=rfl;unfold im at hG hf' ⊢;rw [hm] at hG hf' ⊢;simp only at hG hf' ⊢
  cases hnd:mY s m.to with
  | none=>
   rw [hnd] at hG hf';simp only at hG hf' ⊢;refine ⟨?_,hn,hf'⟩;unfold oo;rw [ue];have:jg (fH s 0)=gA R:=by unfold jg;rw [Mq]
   omega
  | some kj=>
   obtain ⟨k,j⟩:=kj;rw [hnd] at hG hf';simp only at hG hf' ⊢;obtain ⟨hk,n,q1,q2,q3⟩:=Av hnd;have ht:Safe (fH s 0):=h.way fun m' hm'=>bb hm';have Cw:Held (fH s 0):=hH.lines rfl rfl;have hmo:yR (fH s 0) m:=h.msg m (aC hm);have hS:=ht.step (k:=k) (j:=j) (n:=n) hk q1 hmo;have lO:=gb.step (s:=fH s 0) hk q1 q2 m;have BS:Held (lD (fH s 0) k j m):=Cw.lines lO.keys lO.dV;obtain ⟨g1,g2⟩:=wm hS BS;refine ⟨?_,g2,hf'⟩;have hstep:=Lj n m;have oP:eG (lD (fH s 0) k j m) k j=(fy n m).1:=by
    have hq1:((fH s 0).line k).nodes[j]?=some n:=q1;refine pH ?_;show ((je (fH s 0) k j (fy (eG (fH s 0) k j) m).1).line k).nodes[j]?=_;rw [Az (fH s 0) (k:=k) hk,aJ rfl,pH hq1];show ((s.line k).nodes.set j _)[j]?=_;rw [pX,aJ ⟨rfl,(aB.1 q1).1⟩]
   have hjl:j<(s.line k).nodes.length:=(aB.1 q1).1;have ji:eG s k j=n:=pH q1;rcases hstep.2.1 with e | e
   ·have hs1:mH (lD (fH s 0) k j m)=lD (fH s 0) k j m:=by
     refine zTd (Ak.2 fun i hi=>?_);have hi':i<s.lines.length:=by have:=lO.mv.ll;rw [this] at hi;exact hi
     have e1:=Ak.1 hn i hi';have ou:=(hS.line i hi).ne;have hlen:=lO.mv.len i;have hpos:=bH.2 ou;unfold kX pE at e1 ⊢;rw [lO.heard,CB _ _ hpos];rw [CB _ _ (by rw [<-hT i,<-hlen];exact hpos)] at e1;have gk:∀ (x:Nat) (a b:eH),(s.line i).nodes[x]?=some a->((lD (fH s 0) k j m).line i).nodes[x]?=some b->b.log=a.log:=fun x a b ha hb=>by
      have hb':((je (fH s 0) k j (fy (eG (fH s 0) k j) m).1).line i).nodes[x]?=some b:=hb;rw [Az (fH s 0) (k:=k) hk] at hb';split at hb'
      ·rename_i ei;subst ei;have hb2:((s.line i).nodes.set j (fy (eG (fH s 0) i j) m).1)[x]?=some b:=hb';rw [pX] at hb2;split at hb2
       ·rename_i ex
        cases hb2
        rw [ex.1,q1] at ha;cases ha
        rw [show eG (fH s 0) i j=n from ji];exact e
       ·rw [ha] at hb2;cases hb2;rfl
      ·have hb2:(s.line i).nodes[x]?=some b:=hb';rw [ha] at hb2;cases hb2;rfl
     have hx:=gk ((s.line i).nodes.length - 1) _ _ (aA (by rw [<-hT i,<-hlen];omega)) (by
      rw [show (s.line i).nodes.length=((lD (fH s 0) k j m).line i).nodes.length by rw [hlen];rfl];exact aA (by omega))
     rw [hx];exact e1
    rw [hs1];obtain ⟨p1,p2⟩:=yPm (h.line k hk) (h.k4 hk) q1 m e;unfold oo;have hr:=lO.mv.room;rw [ue] at hr;have hp:jg (lD (fH s 0) k j m)<=gA R+gA (fy n m).2:=by
     have:=To (fy (eG (fH s 0) k j) m).2 (fH s 0).net;rw [Mq,show eG (fH s 0) k j=n from ji] at this;unfold jg lD qx;simp only [show eG (fH s 0) k j=n from ji];exact this
    have:oc (lD (fH s 0) k j m)*120401<=oc s*120401:=dQ _ hr;omega
   ·have hlt:oc (lD (fH s 0) k j m)<oc (fH s 0):=lO.mv.less hS (k:=k) (j:=j) hk hjl (by rw [oP,e.2.2.2.2,show eG (fH s 0) k j=n from ji];simp);have hr2:=g1.mv.room;rw [ue] at hlt;have hp:=yMd hf';unfold oo;have:(oc (mH (lD (fH s 0) k j m))+1)*120401<=oc s*120401:=dQ _ (by omega);rw [Nat.add_mul] at this;omega
structure iv(s:dW):Prop where
 safe:Safe s
 held:Held s
 none:qO s=false
 few:s.net.way.length<=200
def fO:Nat->dW->dW
 | 0,s=>s
 | n+1,s=>if s.net.way.isEmpty then s else fO n (im s 0)
def wQ(s:dW):dW:=fO (oo s+1) s
theorem iv.fN{s:dW}(h:iv s)(hne:s.net.way≠[]):iv (im s 0)/\kS s (im s 0)/\oo (im s 0)<oo s:=by
 obtain ⟨a,b,c⟩:=yJu h.safe h.held h.none h.few hne;have q:=JJ h.safe h.held 0;exact ⟨⟨q.safe,q.held,b,c⟩,q,a⟩
theorem UW:∀ (n:Nat) {s:dW},iv s->iv (fO n s)/\kS s (fO n s)/\oo (fO n s)<=oo s
 | 0,s,h=>⟨h,kS.refl h.safe h.held,aF _⟩
 | n+1,s,h=>by
  unfold fO;split
  ·exact ⟨h,kS.refl h.safe h.held,aF _⟩
  ·rename_i e;obtain ⟨a,b,c⟩:=h.fN (fun q=>e (by rw [q];rfl));obtain ⟨a',b',c'⟩:=UW n a;exact ⟨a',b.trans b',by omega⟩
theorem yJr(n:Nat):∀ {s:dW},iv s->oo s<n->(fO n s).net.way=[]:=by
 induction n with
 | zero=>intro s h hn;exact absurd hn (Nat.not_lt_zero _)
 | succ n ih=>
  intro s h hn;unfold fO;by_cases e:s.net.way.isEmpty=true
  ·rw [aJ e];exact List.isEmpty_iff.1 e
  ·rw [aE e];obtain ⟨a,b,c⟩:=h.fN (fun q=>e (by rw [q];rfl));exact ih a (aG c (Nat.le_of_lt_succ hn))
theorem zXq{s:dW}(h:iv s):iv (wQ s)/\kS s (wQ s)/\oo (wQ s)<=oo s/\(wQ s).net.way=[]:=by
 obtain ⟨a,b,c⟩:=UW (oo s+1) h;exact ⟨a,b,c,yJr (oo s+1) h (Nat.lt_succ_self _)⟩
theorem Sy(n:eH)(c:dt):(mX n c).2.length<=1:=by
 unfold mX;split
 ·unfold kK kY;split
  ·simp only;split <;> simp
  ·simp only;split <;> simp
 ·simp only;split <;> simp
theorem Is(n:eH):(kK n).2.length<=1:=by
 unfold kK kY;split
 ·simp only;split <;> simp
 ·simp only;split <;> simp
theorem ySg(s:dW)(k:Nat)(c:dt):s.net.lost<=(mj s k c).net.lost/\(mj s k c).net.lost<=s.net.lost+1/\(mj s k c).lines.length=s.lines.length/\(mj s k c).dV=s.dV:=by
 have hl:(tG (dy s k) c).2.length<=1:=by
  unfold tG;split
  ·exact Sy _ _
  ·simp
 have:=CA (tG (dy s k) c).2 s.net;refine ⟨this.1,?_,by simp [mj,qx,je,rS],rfl⟩;have h2:=this.2;show (ju s.net (tG (dy s k) c).2).lost<=_;omega
theorem zWn(s:dW)(k:Nat)(log:List dt)(id:Nat):s.net.lost<=(gE s k log id).net.lost/\(gE s k log id).net.lost<=s.net.lost+1/\(gE s k log id).lines.length=s.lines.length/\(gE s k log id).dV=s.dV:=by
 unfold gE;split
 ·exact ⟨bG _,by omega,rfl,rfl⟩
 ·split
  ·exact ySg s k _
  ·exact ⟨bG _,by omega,rfl,rfl⟩
theorem zWl(k:Nat)(log:List dt):∀ (ids:List Nat) (s:dW),s.net.lost<=(ids.foldl (fun h id=>gE h k log id) s).net.lost/\(ids.foldl (fun h id=>gE h k log id) s).net.lost<=s.net.lost+ids.length/\(ids.foldl (fun h id=>gE h k log id) s).lines.length=s.lines.length/\(ids.foldl (fun h id=>gE h k log id) s).dV=s.dV
 | [],s=>⟨bG _,by simp,rfl,rfl⟩
 | id :: ids,s=>by
  obtain ⟨a,b,c,d⟩:=zWn s k log id;obtain ⟨a',b',c',d'⟩:=zWl k log ids (gE s k log id);rw [cM];exact ⟨by omega,by rw [aW];omega,by rw [c',c],by rw [d',d]⟩
theorem zSy(s:dW)(k:Nat):s.net.lost<=(eV s k).net.lost/\(eV s k).net.lost<=s.net.lost+s.dV.length/\(eV s k).lines.length=s.lines.length/\(eV s k).dV=s.dV:=by
 unfold eV;split
 ·exact ⟨bG _,by omega,rfl,rfl⟩
 ·rename_i n _;have:=zWl k n.log ((List.range s.dV.length).map (·+1)) s;simpa using this
theorem yIl(s:dW):s.net.lost<=(jd s).net.lost/\(jd s).net.lost<=s.net.lost+s.lines.length*s.dV.length/\(jd s).lines.length=s.lines.length/\(jd s).dV=s.dV:=by
 unfold jd;have key:∀ m,s.net.lost<=((List.range m).foldl eV s).net.lost/\((List.range m).foldl eV s).net.lost<=s.net.lost+m*s.dV.length/\((List.range m).foldl eV s).lines.length=s.lines.length/\((List.range m).foldl eV s).dV=s.dV:=by
  intro m
  induction m with
  | zero=>exact ⟨bG _,by simp,rfl,rfl⟩
  | succ m ih=>
   rw [aY,aX];obtain ⟨a,b,c,d⟩:=ih;obtain ⟨a',b',c',d'⟩:=zSy ((List.range m).foldl eV s) m;refine ⟨Int.le_trans a a',?_,c'.trans c,d'.trans d⟩;rw [d] at b';show (eV _ m).net.lost<=_;have e:((m+1:Nat):Int)*(s.dV.length:Int)=(m:Int)*(s.dV.length:Int)+(s.dV.length:Int):=by
    rw [show ((m+1:Nat):Int)=(m:Int)+1 by omega,Int.add_mul,Int.one_mul]
   rw [e];omega
 exact key s.lines.length
theorem LO{s:dW}(h:Safe s):s.net.lost<=(jd s).net.lost/\(jd s).net.lost<=s.net.lost+300:=by
 obtain ⟨a,b,_⟩:=yIl s;refine ⟨a,?_⟩;have h1:s.lines.length*s.dV.length<=5*60:=Nat.mul_le_mul h.ll.2 h.tl;have h2:(s.lines.length:Int)*(s.dV.length:Int)<=300:=by
  have:((s.lines.length*s.dV.length:Nat):Int)<=300:=by omega
  simpa using this
 omega
theorem zRu:∀ (n:Nat) {s:dW},Safe s->Held s->s.net.lost<=(ez n s).net.lost/\(ez n s).net.lost<=s.net.lost+300*n
 | 0,s,h,hH=>⟨bG _,by simp [ez]⟩
 | n+1,s,h,hH=>by
  unfold ez;split
  ·have q:=(FO h hH).1;have a:=JB h hH;have b:=LO a.1.safe;rw [a.1.same.net] at b;have c:=zRu n q.safe q.held;exact ⟨by omega,by omega⟩
  ·exact ⟨bG _,by omega⟩
theorem zTe{s:dW}(h:Safe s)(hH:Held s):s.net.lost<=(mH s).net.lost/\(mH s).net.lost<=s.net.lost+750300:=by
 have:=zRu (500*s.lines.length+1) h hH;have:=h.ll.2;unfold mH;omega
theorem yGl{n:eH}(hn:n.log.length<=500)(m:dp):(fy n m).2.length<=500:=by
 have hsend:∀ (s:eH) (wh:Int) (x:dp),(kY s wh x).length<=500:=fun s wh x=>by
  unfold kY;split <;> simp
 unfold fy;split
 ·split
  ·exact hsend _ _ _
  ·split
   ·show (sC n m.n).length<=500;unfold sC;split
    ·simp
    ·simp only [ke,af,List.length_range];omega
   ·split
    ·exact aM (Sy _ _) (by omega)
    ·split
     ·exact hsend _ _ _
     ·simp
 ·simp
theorem Ui{s:dW}(h:Safe s)(hH:Held s)(k:Nat):s.net.lost<=(im s k).net.lost/\(im s k).net.lost<=s.net.lost+750800:=by
 unfold im
 cases hm:s.net.way[k]? with
 | none=>exact ⟨bG _,by show s.net.lost<=s.net.lost+750800;omega⟩
 | some m=>
  simp only
  cases hn:mY s m.to with
  | none=>exact ⟨bG _,by show s.net.lost<=_;omega⟩
  | some kj=>
   obtain ⟨kk,j⟩:=kj;obtain ⟨hk,n,q1,q2,q3⟩:=Av hn;have ht:Safe (fH s k):=h.way fun m' hm'=>bb hm';have Cw:Held (fH s k):=hH.lines rfl rfl;have hS:=ht.step (k:=kk) (j:=j) (n:=n) hk q1 (h.msg m (aC hm));have lO:=gb.step (s:=fH s k) hk q1 q2 m;have BS:Held (lD (fH s k) kk j m):=Cw.lines lO.keys lO.dV;have a:=zTe hS BS;have b:=CA (fy (eG (fH s k) kk j) m).2 (fH s k).net;have c:=yGl (n:=eG (fH s k) kk j) (by rw [show eG (fH s k) kk j=n from pH q1];exact (h.line kk hk).few n (aC q1)) m;have e1:(lD (fH s k) kk j m).net.lost=(ju (fH s k).net (fy (eG (fH s k) kk j) m).2).lost:=rfl;have e2:(fH s k).net.lost=s.net.lost:=rfl;simp only;omega
def gS(s:dW):Int:=s.net.lost+750800*(oo s:Int)
theorem zXr:∀ (n:Nat) {s:dW},iv s->s.net.lost<=(fO n s).net.lost/\gS (fO n s)<=gS s
 | 0,s,h=>⟨bG _,bG _⟩
 | n+1,s,h=>by
  unfold fO;split
  ·exact ⟨bG _,bG _⟩
  ·rename_i e;obtain ⟨a,b,c⟩:=h.fN (fun q=>e (by rw [q];rfl));have d:=Ui h.safe h.held 0;obtain ⟨a',c'⟩:=zXr n a;refine ⟨by omega,?_⟩;have:gS (im s 0)<=gS s:=by unfold gS;omega
   omega
theorem yNy{s:dW}(h:iv s):s.net.lost<=(wQ s).net.lost/\gS (wQ s)<=gS s:=zXr _ h
theorem yAq(f:Nat->Nat):∀ n,gi f (n+1)=f 0+gi (fun j=>f (j+1)) n
 | 0=>by simp [gi]
 | n+1=>by
  have:=yAq f n;show gi f (n+1)+f (n+1)=f 0+(gi (fun j=>f (j+1)) n+f (n+1));omega
theorem yAz(f:Nat->Nat):∀ n,((List.range n).map f).sum=gi f n
 | 0=>rfl
 | n+1=>by rw [aY,ao,List.sum_append,yAz f n];simp [gi]
theorem zXo(p:eH->Bool)(f:eH->Nat)(d:eH):∀ l:List eH,((l.filter p).map f).sum=gi (fun j=>if p (l.getD j d) then f (l.getD j d) else 0) l.length
 | []=>rfl
 | a :: l=>by
  rw [aW,yAq];have ih:=zXo p f d l;simp only [List.getD_cons_zero,List.getD_cons_succ];rw [<-ih,cJ];split
  ·simp
  ·simp
def Lx(s:dW):Nat:=gi (fun k=>gi (fun j=>if fs s (eG s k j) then (eG s k j).log.length else 0) (s.line k).nodes.length) s.lines.length
theorem LV(s:dW):kG s=Lx s:=by
 unfold kG Lx;rw [yAz];refine yLo fun k hk=>?_;unfold fM eG;exact zXo _ _ _ _
theorem kp.lives{s s':dW}(h:kp s s'){k j:Nat}(hj:j<(s.line k).nodes.length):fs s' (eG s' k j)=fs s (eG s k j):=by
 unfold fs;rw [h.dead,(h.at hj).1.id]
theorem kp.known{s s':dW}(h:kp s s'):kG s<=kG s':=by
 rw [LV,LV];unfold Lx;rw [h.ll];refine Bn fun k hk=>?_;rw [h.len];refine Bn fun j hj=>?_;simp only [h.lives hj];split
 ·exact (h.at hj).2.length_le
 ·exact aF _
theorem kp.more{s s':dW}(h:kp s s'){k j:Nat}(hk:k<s.lines.length)(hj:j<(s.line k).nodes.length)(hv:fs s (eG s k j)=true)(hlt:(eG s k j).log.length<(eG s' k j).log.length):kG s<kG s':=by
 rw [LV,LV];unfold Lx;rw [h.ll];refine Il (fun k' hk'=>?_) k hk ?_
 ·rw [h.len];refine Bn fun j' hj'=>?_;simp only [h.lives hj'];split
  ·exact (h.at hj').2.length_le
  ·exact aF _
 ·rw [h.len];refine Il (fun j' hj'=>?_) j hj ?_
  ·simp only [h.lives hj'];split
   ·exact (h.at hj').2.length_le
   ·exact aF _
  ·simp only [h.lives hj];rw [aJ hv,aJ hv];exact hlt
theorem Safe.nJ{s:dW}(h:Safe s){k:Nat}(hk:k<s.lines.length):(s.line k).nodes.length<=4:=yNs _ _ ((h.line k hk).ord.imp fun q=>q.1) (h.line k hk).nf
theorem yGz{s:dW}(h:Safe s):kG s<=10000:=by
 rw [LV];unfold Lx;have:gi (fun k=>gi (fun j=>if fs s (eG s k j) then (eG s k j).log.length else 0) (s.line k).nodes.length) s.lines.length<=2000*s.lines.length:=by
  refine Qk fun k hk=>?_;have h4:=h.nJ hk;have:gi (fun j=>if fs s (eG s k j) then (eG s k j).log.length else 0) (s.line k).nodes.length<=500*(s.line k).nodes.length:=by
   refine Qk fun j hj=>?_;split
   ·exact (h.line k hk).few _ (aC (og hj))
   ·omega
  omega
 have:=h.ll.2;omega
theorem zWk(k:Nat)(s:dW)(j:Nat):s.net.lost<=(fD k s j).net.lost/\(fD k s j).net.lost<=s.net.lost+1/\jg (fD k s j)<=jg s+602:=by
 unfold fD;split
 ·have a:=CA (kK (eG s k j)).2 s.net;have b:=Is (eG s k j);have c:=To (kK (eG s k j)).2 s.net;have d:=VR (kK (eG s k j)).2;refine ⟨a.1,?_,?_⟩
  ·show (ju s.net _).lost<=_;omega
  ·show gA (ju s.net _).way<=gA s.net.way+602;omega
 ·exact ⟨bG _,by omega,Nat.le_add_right _ _⟩
theorem US(k:Nat):∀ (js:List Nat) (s:dW),s.net.lost<=(js.foldl (fD k) s).net.lost/\(js.foldl (fD k) s).net.lost<=s.net.lost+js.length/\jg (js.foldl (fD k) s)<=jg s+602*js.length
 | [],s=>⟨bG _,by simp,by simp⟩
 | j :: js,s=>by
  obtain ⟨a,b,c⟩:=zWk k s j;obtain ⟨a',b',c'⟩:=US k js (fD k s j);rw [cM,aW];exact ⟨by omega,by omega,by omega⟩
theorem zWi{s:dW}(h:Safe s):s.net.lost<=(jv s).net.lost/\(jv s).net.lost<=s.net.lost+20/\jg (jv s)<=jg s+12040:=by
 have key:∀ m,m<=s.lines.length->s.net.lost<=((List.range m).foldl eM s).net.lost/\((List.range m).foldl eM s).net.lost<=s.net.lost+4*m/\jg ((List.range m).foldl eM s)<=jg s+2408*m:=by
  intro m
  induction m with
  | zero=>exact fun _=>⟨bG _,by simp,by simp⟩
  | succ m ih=>
   intro hm;rw [aY,aX];obtain ⟨a,b,c⟩:=ih (by omega);have hg:Safe ((List.range m).foldl eM s)/\gb s ((List.range m).foldl eM s):=by
    suffices key:∀ m,m<=s.lines.length->Safe ((List.range m).foldl eM s)/\gb s ((List.range m).foldl eM s) from key m (by omega)
    intro m
    induction m with
    | zero=>exact fun _=>⟨h,gb.refl s⟩
    | succ m ih=>
     intro hm;rw [aY,aX];obtain ⟨a,b⟩:=ih (by omega);obtain ⟨c,d⟩:=Lq a (k:=m) (by rw [b.mv.ll];omega);exact ⟨c,b.trans d⟩
   generalize (List.range m).foldl eM s=S at a b c hg;obtain ⟨a',b',c'⟩:=US m (List.range (S.line m).nodes.length) S;have h4:=hg.1.nJ (k:=m) (by rw [hg.2.mv.ll];omega);rw [List.length_range] at b' c';show s.net.lost<=(eM S m).net.lost/\(eM S m).net.lost<=_/\jg (eM S m)<=_;unfold eM;exact ⟨by omega,by omega,by omega⟩
 have:=key s.lines.length (aF _);have:=h.ll.2;unfold jv;omega
theorem yLh{s:dW}(h:Safe s):oc (jv s)<=oc s:=(Lp h).2.mv.room
theorem yLi{s:dW}(h:Safe s)(hl:∀ k j,(eG (jv s) k j).log=(eG s k j).log)(hn:qO s=false):qO (jv s)=false:=by
 obtain ⟨a,b⟩:=Lp h;refine Ak.2 fun k hk=>?_;have hk':k<s.lines.length:=by rw [b.mv.ll] at hk;exact hk
 have e1:=Ak.1 hn k hk';have p1:=bH.2 (a.line k hk).ne;have p2:=bH.2 (h.line k hk').ne;have e2:=hl k ((s.line k).nodes.length - 1);have t1:pE (jv s) k=eG (jv s) k ((s.line k).nodes.length - 1):=by
  unfold pE;rw [CB _ _ p1];symm;refine pH ?_;rw [<-b.mv.len k];exact aA (by omega)
 have t2:pE s k=eG s k ((s.line k).nodes.length - 1):=by
  unfold pE;rw [CB _ _ p2];symm;exact pH (aA (by omega))
 unfold kX at e1 ⊢;rw [t1,e2,<-t2,b.heard];exact e1
theorem yAo{s:dW}(h:Safe s){k:Nat}(hk:k<s.lines.length)(j k' j':Nat):(eG (fD k s j) k' j').log=(eG s k' j').log:=by
 unfold fD;split
 ·have hg:=(Dh (eG s k j)).2.1;show (((je s k j (kK (eG s k j)).1).line k').nodes.getD j' ⟨0,0,[],[],0⟩).log=_;rw [Az s hk];split
  ·rename_i e;subst e;show (((s.line k').nodes.set j _).getD j' _).log=_;rw [aH,pX];split
   ·rename_i e2;rw [e2.1];exact hg
   ·rw [<-aH];rfl
  ·rfl
 ·rfl
theorem yIg{s:dW}(h:Safe s){k:Nat}(hk:k<s.lines.length)(k' j':Nat):(eG (eM s k) k' j').log=(eG s k' j').log:=by
 unfold eM;generalize List.range (s.line k).nodes.length=js
 suffices key:∀ (js:List Nat) (S:dW),Safe S->k<S.lines.length->(eG (js.foldl (fD k) S) k' j').log=(eG S k' j').log from key js s h hk
 intro js
 induction js with
 | nil=>exact fun S _ _=>rfl
 | cons j js ih=>
  intro S a hk;obtain ⟨c,d⟩:=a.fD (k:=k) (j:=j) hk;rw [cM,ih _ c (by rw [d.mv.ll];exact hk),yAo a hk]
theorem yLj{s:dW}(h:Safe s)(k' j':Nat):(eG (jv s) k' j').log=(eG s k' j').log:=by
 unfold jv
 suffices key:∀ m,m<=s.lines.length->Safe ((List.range m).foldl eM s)/\gb s ((List.range m).foldl eM s)/\(eG ((List.range m).foldl eM s) k' j').log=(eG s k' j').log from (key _ (aF _)).2.2
 intro m
 induction m with
 | zero=>exact fun _=>⟨h,gb.refl s,rfl⟩
 | succ m ih=>
  intro hm;rw [aY,aX];obtain ⟨a,b,e⟩:=ih (by omega);obtain ⟨c,d⟩:=Lq a (k:=m) (by rw [b.mv.ll];omega);exact ⟨c,b.trans d,(yIg a (by rw [b.mv.ll];omega) k' j').trans e⟩
theorem iv.tick{s:dW}(h:iv s):iv (jv s)/\kS s (jv s)/\gS (jv s)<=gS s+9040000000/\s.net.lost<=(jv s).net.lost:=by
 obtain ⟨a,b⟩:=Lp h.safe;obtain ⟨c1,c2,c3⟩:=zWi h.safe;have r:=yLh h.safe;have q:=b.rV a h.held;refine ⟨⟨a,q.held,yLi h.safe (yLj h.safe) h.none,b.few h.few⟩,q,?_,c1⟩;have RX:oo (jv s)<=oo s+12040:=by
  have hr:oc (jv s)*120401<=oc s*120401:=dQ _ r;show oc (jv s)*120401+jg (jv s)<=oc s*120401+jg s+12040;rw [cW];exact Nat.add_le_add hr c3
 unfold gS;omega
def od(s:dW):dW:=wQ (jv s)
def ff(s:dW):dW:=od (od (od (od s)))
theorem wk{s:dW}(h:iv s):iv (od s)/\kS s (od s)/\gS (od s)<=gS s+9040000000/\s.net.lost<=(od s).net.lost/\(od s).net.way=[]:=by
 obtain ⟨a,b,c,d⟩:=h.tick;obtain ⟨a',b',c',d'⟩:=zXq a;obtain ⟨e,f⟩:=yNy a;exact ⟨a',b.trans b',Int.le_trans f c,Int.le_trans d e,d'⟩
theorem Lk{s:dW}(h:iv s):iv (ff s)/\kS s (ff s)/\gS (ff s)<=gS s+36160000000/\s.net.lost<=(ff s).net.lost:=by
 obtain ⟨a1,b1,c1,d1,_⟩:=wk h;obtain ⟨a2,b2,c2,d2,_⟩:=wk a1;obtain ⟨a3,b3,c3,d3,_⟩:=wk a2;obtain ⟨a4,b4,c4,d4,_⟩:=wk a3;unfold ff;exact ⟨a4,((b1.trans b2).trans b3).trans b4,by omega,by omega⟩
def gd:Nat->dW->dW
 | 0,s=>s
 | n+1,s=>if kG (ff s)=kG s then ff s else gd n (ff s)
def kD(s:dW):dW:=gd 10001 s
theorem yKe(n:Nat):∀ {s:dW},iv s->iv (gd n s)/\kS s (gd n s):=by
 induction n with
 | zero=>intro s h;exact ⟨h,kS.refl h.safe h.held⟩
 | succ n ih=>
  intro s h;unfold gd;obtain ⟨a,b,_⟩:=Lk h;split
  ·exact ⟨a,b⟩
  ·obtain ⟨a',b'⟩:=ih a;exact ⟨a',b.trans b'⟩
theorem yOi(n:Nat):∀ {s:dW},iv s->10000 - kG s<n->∃ S,iv S/\kS s S/\gd n s=ff S/\kG (ff S)=kG S:=by
 induction n with
 | zero=>intro s h hn;exact absurd hn (Nat.not_lt_zero _)
 | succ n ih=>
  intro s h hn;unfold gd;obtain ⟨a,b,_⟩:=Lk h;by_cases e:kG (ff s)=kG s
  ·rw [aJ e];exact ⟨s,h,kS.refl h.safe h.held,rfl,e⟩
  ·rw [aE e];have h1:=b.mv.known;have h2:=yGz a.safe;obtain ⟨S,q1,q2,q3,q4⟩:=ih a (by omega);exact ⟨S,q1,b.trans q2,q3,q4⟩
theorem yRz{s:dW}(h:iv s):∃ S,iv S/\kS s S/\kD s=ff S/\kG (ff S)=kG S:=yOi 10001 h (by omega)
theorem Dd{s:dW}(h:iv s):iv (kD s)/\kS s (kD s):=yKe _ h
theorem eX.oN{w:World}{L:Lo}{v:Value}{ms:List dp}(h:eX w L v ms):FX w L (fun k=>v.ownBlock=some k) v ms:=by
 have h0:=h;obtain ⟨us,h1,h2,h3,h4⟩:=h;by_cases hn:ms=[]
 ·subst hn;rcases h2.2 with ⟨rfl,_⟩ | ⟨g,cap,cur,rfl,_,_,hc1,hc2,_⟩
  ·exact ⟨none,0,rfl,aV _,aV _,.inl rfl⟩
  ·exact ⟨_,cap,rfl,hc1,hc2,.inl rfl⟩
 ·obtain ⟨m,hm⟩:∃ m,ms[0]?=some m:=by cases ms with
   | nil=>exact absurd rfl hn
   | cons x l=>exact ⟨x,rfl⟩
  obtain ⟨g,cap,_,hv,hc1,hc2,_⟩:=h0.at hm;refine ⟨_,cap,hv,hc1,hc2,.inr ⟨g,0,rfl,by rw [hv];rfl,fun i m hi=>?_⟩⟩;obtain ⟨g',cap',u,hv',_,_,hu,jB,q0,q1,q2,q3,q4,q5,q6,q7,q8⟩:=h0.at hi;rw [hv] at hv';simp only [Value.slice.injEq,bB,Addr.mk.injEq] at hv';obtain ⟨⟨rfl,_⟩,_,rfl⟩:=hv';refine ⟨u,hu,jB,fun j x hx=>?_⟩;rw [ah];have hj:j<9:=by
   have:=(aB.1 hx).1;simpa [iW] using this
  have:j=0\/j=1\/j=2\/j=3\/j=4\/j=5\/j=6\/j=7\/j=8:=by omega
  rcases this with rfl | rfl | rfl | rfl | rfl | rfl | rfl | rfl | rfl <;> (simp [iW] at hx;subst hx;assumption)
theorem eX.block{w:World}{L:Lo}{v:Value}{ms:List dp}(h:eX w L v ms){k:Nat}(hk:v.ownBlock=some k):k<w.heap.size/\∃ cur,w.heap[k]?=some (.cells cur 112):=by
 obtain ⟨us,_,h2,_⟩:=h;obtain ⟨_,q2,cur,q3⟩:=ft h2 hk;exact ⟨q2,cur,q3⟩
theorem Lf(n c g:Nat)(y:dX)(s:dW)(v:Value)(ms:List dp)(w:World)(h:du w n c g y s)(hv:eX w (y.lo n) v ms)(hno:∀ k,v.ownBlock=some k->y.own k=.no)(hlo:s.net.lost+ms.length<=4611686018427387904) :
  Calls Tryz.prog 48 #[.pointer (some ⟨g,2,none⟩),v] w fun e w'=>(∃ x,e=.returned (.int .i64 x))/\∃ y',du w' n c g y' (qx s ms)/\eJ w y w' y':=by
 refine (yGm (y.lo n) g y.wv y.mr s.net _ v ms w h.qe hv.oN (fun k hk=>⟨(hv.block hk).1,fun e=>?_⟩) hlo).mono ?_
 ·have h0:=hno k hk;rcases e with e | e | e
  ·rw [e,h.own.main] at h0;cases h0
  ·rw [h.own.net k (.inl e)] at h0;cases h0
  ·rw [h.own.net k (.inr e)] at h0;cases h0
 ·rintro e w' ⟨iJ,rfl,hN,BV,iK⟩;obtain ⟨hH,hS⟩:=h.sW iK hN BV (.inl rfl);exact ⟨⟨_,rfl⟩,_,hH,hS,rfl,rfl,rfl,rfl,rfl⟩
theorem du.yk{w w':World}{n c g:Nat}{y:dX}{s:dW}(h:du w n c g y s){k b j d:Nat}(hk:k<s.lines.length)(hb:y.gH[k]?=some b)(hd:(y.fU b)[j]?=some d){nv lv v:Value}{x:eH}{ms:List dp}
  (hm:Mod (gx d (y.kI d) (y.kJ d)) w w') (hN:fh w' (y.lo n) d nv lv x) (h1:iC w (y.kI d) nv) (h2:iC w (y.kJ d) lv) (hv:eX w' (y.lo n) v ms) (hf:lE w v) :
  ∃ y',du w' n c g y' (je s k j x)/\eJ w y w' y'/\eX w' (y'.lo n) v ms/\∀ z,v.ownBlock=some z->y'.own z=.no:=by
 obtain ⟨hH,hS⟩:=h.jZ hk hb hd hm hN h1 h2;refine ⟨_,hH,⟨hS,rfl,rfl,rfl,rfl,rfl⟩,hv,fun z hz=>?_⟩;have hzf:=hf z hz;obtain ⟨_,cur,fX⟩:=hv.block hz;simp only [dX.lG];rw [aE]
 ·exact aR fun e=>by have:=(h.own.lt z e).2;omega
 ·rintro ⟨_,e | e | e⟩
  ·have hB:=hN.blk;unfold dh at hB;rw [<-e,fX] at hB;simp at hB
  ·obtain ⟨_,_,kf,h2⟩:=ft hN.ns e;rw [fX] at h2;simp at h2
  ·obtain ⟨us,_,h3,_⟩:=hN.lg;obtain ⟨_,_,kf,h2⟩:=ft h3 e;rw [fX] at h2;simp at h2
end Go.Proofs.YtmaiggbnceejiaaGreatDoor
