import Derived.Test.YtogaigioeohjaaaGreatDoorD30
set_option linter.unusedVariables false
set_option maxRecDepth 100000
set_option maxHeartbeats 16000000
namespace Go.Proofs.YtogaigioeohjaaaGreatDoor
theorem zUl{s:zAa}(h:Safe s)(hH:Held s)(k:Int):ActG s (zCe s k).1:=by
 unfold zCe
 split
 ·rename_i m _ hm
  split
  ·exact ⟨h.way (net:=zFe s.net m) fun m' hm'=>(zZm hm').elim id (fun e=>by rw [e];exact List.mem_of_getElem? hm),hH.lines rfl rfl,zGo.of rfl,rfl⟩
  ·exact ActG.refl h hH
 ·exact ActG.refl h hH
theorem yGh(s:zAa){j:Nat}(h1:1<=j)(hj:j<=s.txs.length):(zGk s).tx j=s.tx j:=by
 unfold zAa.tx zGk
 simp only [List.getD_eq_getElem?_getD]
 rw [List.getElem?_append_left (by omega)]
theorem yCc(s:zAa):(zGk s).tx (s.txs.length+1)=⟨1,List.replicate s.lines.length 0,[],0⟩:=by
 unfold zAa.tx zGk
 simp [List.getD_eq_getElem?_getD]
theorem zHs(s:zAa):(zGk s).txs.length=s.txs.length+1:=by simp [zGk]
theorem zNy(n k:Nat):(List.replicate n (0:Int)).getD k 0=0:=by
 rw [List.getD_eq_getElem?_getD,List.getElem?_replicate];split <;> rfl
theorem yJi{s:zAa}(h:Safe s)(hH:Held s)(hl:s.txs.length<60):ActG s (zGk s):=by
 have e1:=fun {j} (a:1<=j) (b:j<=s.txs.length)=>yGh s a b
 refine ⟨h.txs rfl rfl (by rw [zHs];omega) (fun k c hk hc q=>?_) (fun id i1 i2=>?_),?_,⟨by rw [zHs];omega,fun j j1 j2 _=>by rw [e1 j1 j2]⟩,rfl⟩
 ·have hlo:=q.lo
  have hhi:=q.hi
  have e:(zGk s).tx c.tx.toNat=s.tx c.tx.toNat:=e1 (by omega) (by omega)
  exact ⟨q.lo,by rw [zHs];omega,by rw [e];exact q.dec,by rw [e];exact q.shard⟩
 ·by_cases e:id=s.txs.length+1
  ·subst e
   refine ⟨?_,?_,?_,?_,?_,?_,?_,?_,?_⟩
   all_goals rw [yCc]
   ·show (List.replicate s.lines.length (0:Int)).length=s.lines.length;simp
   ·simp
   ·intro k;show 0<=(List.replicate _ (0:Int)).getD k 0/\_<=_;rw [zNy];omega
   ·exact zNy _ _
   ·intro _ k;show (List.replicate _ (0:Int)).getD k 0≠2;rw [zNy];omega
   ·intro k _ hk
    have hk':(List.replicate s.lines.length (0:Int)).getD k 0=2:=hk
    rw [zNy] at hk';omega
   ·intro hs;simp at hs
   ·simp
   ·simp
  ·have i3:id<=s.txs.length:=by rw [zHs] at i2;omega
   exact (h.tx id i1 i3).same (e1 i1 i3) rfl
 ·have e2:∀ x:Int,1<=x->x<=(s.txs.length:Int)->(zGk s).tx x.toNat=s.tx x.toNat:=fun x a b=>e1 (by omega) (by omega)
  refine ⟨fun k=>(hH.apart k).more fun x hx=>?_,fun k c hc=>?_,fun k c hc=>?_,hH.small⟩
  ·simp only [List.nil_append] at hx ⊢
   obtain ⟨q1,q2,q3⟩:=zFh.1 hx
   exact zFh.2 ⟨q1,by rw [zHs];omega,by rw [e2 x q1 q2];exact q3⟩
  ·obtain ⟨q1,q2,q3⟩:=hH.hold k c hc
   exact ⟨q1,by rw [zHs];omega,by rw [e2 _ q1 q2];exact q3⟩
  ·obtain ⟨q1,q2,q3⟩:=hH.wait k c hc
   exact ⟨q1,by rw [zHs];omega,by rw [e2 _ q1 q2];exact q3⟩
theorem zDz.ending{s:zAa}(hH:Held s){id:Nat}(h1:1<=id)(h2:id<=s.txs.length){t:TxS}(ht:t.state=2)(ho:(s.tx id).state=1)(hw:∀ k,∀ c∈(s.keys k).waits,c.tx≠(id:Int)):Held (setTx s id t):=by
 have es:∀ j:Nat,1<=j->((setTx s id t).tx j).state=if j=id then 2 else (s.tx j).state:=fun j hj=>by
  rw [zJp s id t hj h1 h2]
  split
  ·exact ht
  ·rfl
 have el:=zBd s id t
 refine ⟨fun key=>(hH.apart key).more fun x hx=>?_,fun key c hc=>?_,fun key c hc=>?_,hH.small⟩
 ·simp only [List.nil_append] at hx ⊢
  obtain ⟨q1,q2,q3⟩:=zFh.1 hx
  refine zFh.2 ⟨q1,by rw [el];exact q2,?_⟩
  rw [es _ (by omega)]
  split
  ·rfl
  ·exact q3
 ·obtain ⟨q1,q2,q3⟩:=hH.hold key c hc
  refine ⟨q1,by rw [el];exact q2,?_⟩
  rw [es _ (by omega)]
  split
  ·exact .inr rfl
  ·exact q3
 ·obtain ⟨q1,q2,q3⟩:=hH.wait key c hc
  refine ⟨q1,by rw [el];exact q2,?_⟩
  rw [es _ (by omega),if_neg (fun e=>hw key c hc (by omega))]
  exact q3
theorem zDz.states{X:List Int}{s:zAa}(h:zDz X s){id:Nat}(h1:1<=id)(h2:id<=s.txs.length){t:TxS}(ht:t.state=(s.tx id).state):zDz X (setTx s id t):=by
 have es:∀ j:Nat,1<=j->((setTx s id t).tx j).state=(s.tx j).state:=fun j hj=>by
  rw [zJp s id t hj h1 h2]
  split
  ·rename_i e;rw [e];exact ht
  ·rfl
 have el:=zBd s id t
 refine ⟨fun key=>(h.apart key).more fun x hx=>?_,fun key c hc=>?_,fun key c hc=>?_,h.small⟩
 ·rcases List.mem_append.1 hx with q | q
  ·exact List.mem_append.2 (.inl q)
  ·obtain ⟨q1,q2,q3⟩:=zFh.1 q
   exact List.mem_append.2 (.inr (zFh.2 ⟨q1,by rw [el];exact q2,by rw [es _ (by omega)];exact q3⟩))
 ·obtain ⟨q1,q2,q3⟩:=h.hold key c hc
  exact ⟨q1,by rw [el];exact q2,by rw [es _ (by omega)];exact q3⟩
 ·obtain ⟨q1,q2,q3⟩:=h.wait key c hc
  exact ⟨q1,by rw [el];exact q2,by rw [es _ (by omega)];exact q3⟩
theorem zJm{s:zAa}{id:Int}(h:zRq s id=false):∀ k,∀ c∈(s.keys k).waits,c.tx≠id:=fun k c hc e=>by
 unfold zRq at h
 simp only [decide_eq_false_iff_not] at h
 exact h ⟨k,List.any_eq_true.2 ⟨c,hc,by simpa using e⟩⟩
theorem yRc{s:zAa}(h:Safe s)(hH:Held s)(id:Int):ActG s (endH s id).1:=by
 unfold endH
 split
 ·exact ActG.refl h hH
 ·rename_i e
  split
  ·exact ActG.refl h hH
  ·rename_i e2
   obtain ⟨i,rfl,h1,h2,ho⟩:=zEi (by simpa using e)
   rw [Int.toNat_natCast]
   have hS:Safe (setTx s i { s.tx i with state:=2 }):=h.write (ws:=(s.tx i).writes) h1 h2 ho (h.tx i h1 h2).few (.inr rfl)
   have hHs:Held (setTx s i { s.tx i with state:=2 }):=hH.ending h1 h2 rfl ho (zJm (by simpa using e2))
   have hA:ActG s (setTx s i { s.tx i with state:=2 }):=⟨hS,hHs,⟨by rw [zBd];exact Nat.le_refl _,fun j j1 j2 j3=>by
    rw [zJp s i _ j1 h1 h2,if_neg (fun q=>by subst q;omega)]⟩,rfl⟩
   obtain ⟨b,c,_⟩:=zDv hS
   have q:=c.toS b hHs
   exact (hA.trans q.toA).trans (zGa b q.held).1.toA
theorem yOk.toA{s r:zAa}{id k:Nat}(h:yOk s id k r)(hs:Safe s)(ho:(s.tx id).state=1):ActG s r:=
 ⟨h.safe,h.held,⟨by rw [h.same.len];exact Nat.le_refl _,fun j j1 j2 j3=>by
  by_cases e:j=id
  ·subst e;omega
  ·rcases h.cut j j1 e with q | q
   ·rw [q]
   ·omega⟩,by rw [h.same.l]⟩
theorem yFj{s:zAa}(h:Safe s)(hH:Held s)(id:Int)(p:zAz):ActG s (putH s id p).1:=by
 unfold putH
 split
 ·exact ActG.refl h hH
 split
 ·exact ActG.refl h hH
 rename_i e1
 obtain ⟨i,rfl,h1,h2,ho⟩:=zEi (zCi (by simpa using e1)).1
 rw [Int.toNat_natCast]
 split
 ·exact ActG.refl h hH
 rename_i e2
 have hks:=(zCi (by simpa using e1)).2.1
 have q:=zHm h hH h1 h2 ho p.key hks (mode:=2) (.inr rfl)
 have qA:=q.toA h ho
 simp only
 split
 ·exact qA
 ·rename_i e3
  have hnf:zMr (s.tx i) p.key=false:=by
   cases hf:zMr (s.tx i) p.key with
   | false=>rfl
   | true=>
    have hy:zEc s i p.key=false:=by
     cases hy:zEc s i p.key with
     | false=>rfl
     | true=>exact absurd (by rw [hf,hy];rfl) e2
    exact absurd (by simpa using e3) (yHu h hH h1 h2 ho p.key hks hy)
  refine qA.trans ?_
  generalize (zBw s i p.key 2).1=r at q qA ⊢
  have hwr:=q.wr
  have hl:i<=r.txs.length:=by rw [q.same.len];exact h2
  have hx:=q.safe.tx i h1 hl
  have hw:zEq (r.tx i) p={ r.tx i with state:=1,writes:=(zEq (r.tx i) p).writes }:=by
   unfold zEq
   split
   ·simp [q.st]
   ·simp [q.st]
  have hwk:∀ q∈(zEq (r.tx i) p).writes,q.key.size<=20:=fun q hq=>by
   have hp:=(zCi (by simpa using e1)).2.1
   unfold zEq at hq
   split at hq
   ·rcases List.mem_or_eq_of_mem_set hq with e | e
    ·exact hx.few.2 q e
    ·rw [e];exact hp
   ·rcases List.mem_append.1 hq with e | e
    ·exact hx.few.2 q e
    ·simp at e;rw [e];exact hp
  have hwl:(zEq (r.tx i) p).writes.length<=20:=by
   unfold zEq
   split
   ·simpa using hx.few.1
   ·rename_i hn
    simp only [List.length_append,List.length_cons,List.length_nil]
    have hn2:zJk (s.tx i) p.key=none:=by unfold zJk at hn ⊢;rw [hwr] at hn;exact hn
    unfold zMr at hnf
    rw [hn2] at hnf
    rw [hwr]
    simp at hnf
    omega
  rw [hw]
  refine ⟨q.safe.write h1 hl q.st ⟨hwl,hwk⟩ (.inl rfl),q.held.states h1 hl (by simp [q.st]),⟨by rw [zBd];exact Nat.le_refl _,fun j j1 j2 j3=>?_⟩,rfl⟩
  rw [zJp r i _ j1 h1 hl]
  split
  ·rename_i e;subst e;have:=q.st;omega
  ·rfl
theorem yQv{s:zAa}(h:Safe s)(hH:Held s)(id:Int)(key:ByteArray):ActG s (getH s id key).1:=by
 unfold getH
 split
 ·exact ActG.refl h hH
 rename_i e1
 obtain ⟨i,rfl,h1,h2,ho⟩:=zEi (zCi (by simpa using e1)).1
 have q:=(zHm h hH h1 h2 ho key (zCi (by simpa using e1)).2.1 (mode:=1) (.inl rfl)).toA h ho
 simp only
 split
 ·exact q
 ·exact q
theorem zMc(nodes:Nat):∀ m,(newF nodes m).lines=(List.range m).map fun k=>(zBu k nodes).1
 | 0=>rfl
 | m+1=>by
  show (newF nodes m).lines++[(zBu m nodes).1]=_
  rw [zMc nodes m,List.range_succ,List.map_append];rfl
theorem zSf(nodes:Nat):∀ m,(newF nodes m).dead=[]/\(newF nodes m).txs=[]/\(newF nodes m).keys=(fun _=>⟨[],[]⟩)/\(newF nodes m).net.down=[]/\∀ x∈(newF nodes m).net.way,x.kind=1\/x.kind=4
 | 0=>⟨rfl,rfl,rfl,rfl,fun x hx=>by simp [newF] at hx⟩
 | m+1=>by
  obtain ⟨a,b,c,d,e⟩:=zSf nodes m
  refine ⟨a,b,c,by show (zFd _ _).down=_;rw [zMa];exact d,fun x hx=>?_⟩
  rcases zNv hx with q | q
  ·exact e x q
  ·exact zQm q
def zCm(k nodes:Nat):List zAl:=(List.range nodes).map fun (i:Nat)=>zPn (10*(k:Int)+(i:Int))
theorem yAj(k nodes:Nat){i:Nat}(hi:i<nodes):(zCm k nodes)[i]?=some (zPn (10*(k:Int)+(i:Int))):=by
 unfold zCm;simp [hi]
theorem yFn(k nodes:Nat):(zCm k nodes).Pairwise fun a b=>a.id<b.id:=by
 unfold zCm
 rw [List.pairwise_map]
 refine List.Pairwise.imp ?_ List.pairwise_lt_range
 intro a b hab
 show 10*(k:Int)+(a:Int)<10*(k:Int)+(b:Int)
 omega
theorem yLo(k nodes:Nat)(h1:1<=nodes){n:zAl}(hn:n∈zCm k nodes):(becF ⟨zCm k nodes,0⟩ n).id=n.id/\(becF ⟨zCm k nodes,0⟩ n).epoch=1/\(becF ⟨zCm k nodes,0⟩ n).nodes=(zCm k nodes).map (·.id)/\(becF ⟨zCm k nodes,0⟩ n).log=[]:=by
 obtain ⟨i,hi⟩:=List.getElem?_of_mem hn
 have hlog:n.log=[]/\n.nodes=[]:=by
  unfold zCm at hn
  obtain ⟨j,_,rfl⟩:=List.mem_map.1 hn
  exact ⟨rfl,rfl⟩
 have hep:zDy ⟨zCm k nodes,0⟩=1:=by
  unfold zDy
  rw [List.getD_eq_getElem?_getD,yAj k nodes (by omega)];rfl
 have hbl:(becN n 1 ((zCm k nodes).map (·.id))).log=[]/\(becN n 1 ((zCm k nodes).map (·.id))).id=n.id/\(becN n 1 ((zCm k nodes).map (·.id))).epoch=1/\(becN n 1 ((zCm k nodes).map (·.id))).nodes=(zCm k nodes).map (·.id):=by
  unfold becN
  split
  ·exact ⟨rfl,rfl,rfl,rfl⟩
  ·exact ⟨hlog.1,rfl,rfl,rfl⟩
 unfold becF
 rw [hep]
 obtain ⟨g1,g2,_⟩:=zJn (becN n 1 ((zCm k nodes).map (·.id)))
 exact ⟨g1.id.trans hbl.2.1,g1.ep.trans hbl.2.2.1,g1.cf.trans hbl.2.2.2,g2.trans hbl.1⟩
theorem zPo(k nodes:Nat)(h1:1<=nodes)(h4:nodes<=4):zGv k (zBu k nodes).1/\∀ n∈(zBu k nodes).1.nodes,n.log=[]:=by
 have hb:=fun n hn=>yLo k nodes h1 (n:=n) hn
 have hN:(zBu k nodes).1=⟨(zCm k nodes).map (becF ⟨zCm k nodes,0⟩),0⟩:=rfl
 have hlen:(zCm k nodes).length=nodes:=by simp [zCm]
 rw [hN]
 refine ⟨⟨fun e=>?_,?_,fun x hx=>?_,fun x hx=>?_,⟨1,by omega,?_,fun x hx=>?_⟩,fun x hx=>Nat.zero_le _,fun x hx=>?_⟩,fun x hx=>?_⟩
 ·have:=congrArg List.length e
  simp [hlen] at this
  omega
 ·rw [List.pairwise_map]
  refine List.Pairwise.imp_of_mem ?_ (yFn k nodes)
  intro a b ha hb' hab
  rw [(hb a ha).1,(hb b hb').1,(hb a ha).2.2.2,(hb b hb').2.2.2];exact ⟨hab,List.prefix_refl _⟩
 ·obtain ⟨n,hn,rfl⟩:=List.mem_map.1 hx
  rw [(hb n hn).1]
  unfold zCm at hn
  obtain ⟨j,hj,rfl⟩:=List.mem_map.1 hn
  have:=List.mem_range.1 hj
  show 10*(k:Int)<=10*(k:Int)+(j:Int)/\_<_
  refine ⟨by omega,?_⟩
  show 10*(k:Int)+(j:Int)<_
  omega
 ·obtain ⟨n,hn,rfl⟩:=List.mem_map.1 hx
  rw [(hb n hn).2.2.1]
  show (zCm k nodes).map (·.id)=((zCm k nodes).map (becF ⟨zCm k nodes,0⟩)).map (·.id)
  rw [List.map_map]
  exact List.map_congr_left fun a ha=>((hb a ha).1).symm
 ·show 1+(((zCm k nodes).map _).length:Int)<=6
  rw [List.length_map,hlen];omega
 ·obtain ⟨n,hn,rfl⟩:=List.mem_map.1 hx
  exact (hb n hn).2.1
 ·obtain ⟨n,hn,rfl⟩:=List.mem_map.1 hx
  rw [(hb n hn).2.2.2];simp
 ·obtain ⟨n,hn,rfl⟩:=List.mem_map.1 hx
  exact (hb n hn).2.2.2
theorem yPz{shards nodes:Nat}(h1:1<=shards/\shards<=4)(h2:1<=nodes/\nodes<=4):Safe (newH shards nodes)/\Held (newH shards nodes)/\(newH shards nodes).lines.length=shards+1:=by
 obtain ⟨a,b,c,d,e⟩:=zSf nodes (shards+1)
 have hl:=zMc nodes (shards+1)
 have hlen:(newH shards nodes).lines.length=shards+1:=by show (newF nodes (shards+1)).lines.length=_;rw [hl];simp
 have ht:(newH shards nodes).txs=[]:=b
 have hline:∀ k,k<shards+1->(newH shards nodes).line k=(zBu k nodes).1:=fun k hk=>by
  show (newF nodes (shards+1)).lines.getD k _=_
  rw [hl,List.getD_eq_getElem?_getD];simp [hk]
 refine ⟨⟨by rw [hlen];omega,by rw [ht];simp,fun k hk=>?_,fun k hk=>?_,fun m hm h3=>?_,fun id i1 i2=>by rw [ht] at i2;simp at i2;omega⟩,?_,hlen⟩
 ·rw [hlen] at hk;rw [hline k hk];exact (zPo k nodes h2.1 h2.2).1
 ·rw [hlen] at hk
  have q:=zPo k nodes h2.1 h2.2
  have hn:(zAp (newH shards nodes) k).log=[]:=by
   have:=zSe (s:=newH shards nodes) (k:=k) (by rw [hline k hk];exact q.1.ne)
   rw [hline k hk] at this
   exact q.2 _ (List.mem_of_getElem? this)
  rw [hn]
  exact ⟨by simp,List.Pairwise.nil,fun _ i c hi=>by simp at hi⟩
 ·have:=e m hm;omega
 ·have hk:∀ k,(newH shards nodes).keys k=⟨[],[]⟩:=fun k=>by show (newF nodes (shards+1)).keys k=_;rw [c]
  exact ⟨fun k=>by rw [hk];exact zJi.nil _,fun k c hc=>by rw [hk] at hc;simp at hc,fun k c hc=>by rw [hk] at hc;simp at hc,fun k _=>by rw [hk];exact ⟨rfl,rfl⟩⟩
def phi(m:MsgD):Nat:=if m.kind=1 then 602 else if m.kind=2 then 601 else if m.kind=4 then 1+min m.to.toNat 100 else 1
theorem phi_le(m:MsgD):phi m<=602:=by
 unfold phi
 split
 ·omega
 ·split
  ·omega
  ·split
   ·omega
   ·omega
theorem yDi(m:MsgD):1<=phi m:=by
 unfold phi
 split
 ·omega
 ·split
  ·omega
  ·split
   ·omega
   ·omega
def phiL(ms:List MsgD):Nat:=(ms.map phi).sum
theorem yPm(a b:List MsgD):phiL (a++b)=phiL a+phiL b:=by simp [phiL]
theorem yDj:∀ ms:List MsgD,phiL ms<=602*ms.length
 | []=>by simp [phiL]
 | m :: ms=>by
  have:=yDj ms
  have:=phi_le m
  have e:phiL (m :: ms)=phi m+phiL ms:=by simp [phiL]
  rw [e,List.length_cons,Nat.mul_succ];omega
theorem yLh(s:NetS)(m:MsgD):phiL (zFe s m).way<=phiL s.way+phi m:=by
 unfold zFe
 split
 ·exact Nat.le_add_right _ _
 ·show phiL (s.way++[m])<=_
  rw [yPm];simp [phiL]
theorem zSb:∀ (ms:List MsgD) (s:NetS),phiL (zFd s ms).way<=phiL s.way+phiL ms
 | [],s=>Nat.le_add_right _ _
 | m :: ms,s=>by
  have h1:=zSb ms (zFe s m)
  have h2:=yLh s m
  have e:phiL (m :: ms)=phi m+phiL ms:=by simp [phiL]
  show phiL (zFd (zFe s m) ms).way<=_
  omega
def zHw(s:zAa):Nat:=sumR (fun k=>sumR (fun j=>500 - (zAo s k j).log.length) (s.line k).nodes.length) s.lines.length
def phiS(s:zAa):Nat:=phiL s.net.way
def muS(s:zAa):Nat:=zHw s*120401+phiS s
theorem yLi{s:zAa}(h:s.net.way.length<=200):phiS s<=120400:=by
 have:=yDj s.net.way
 unfold phiS;omega
theorem zEh{s:zAa}{k j:Nat}(hj:j<(s.line k).nodes.length):(s.line k).nodes[j]?=some (zAo s k j):=by
 rw [List.getElem?_eq_getElem hj];unfold zAo;rw [List.getD_eq_getElem?_getD,List.getElem?_eq_getElem hj];rfl
theorem zGx.at{s s':zAa}(h:zGx s s'){k j:Nat}(hj:j<(s.line k).nodes.length):zKq (zAo s k j) (zAo s' k j)/\(zAo s k j).log <+: (zAo s' k j).log:=by
 obtain ⟨n',e1,e2,e3,_⟩:=h.node k j _ (zEh hj)
 rw [zFq e1];exact ⟨e2,e3⟩
theorem zGx.room{s s':zAa}(h:zGx s s'):zHw s'<=zHw s:=by
 unfold zHw
 rw [h.ll]
 refine zKx fun k hk=>?_
 rw [h.len]
 refine zKx fun j hj=>?_
 have:=(h.at hj).2.length_le
 omega
theorem zGx.less{s s':zAa}(h:zGx s s')(hS:Safe s'){k j:Nat}(hk:k<s.lines.length)(hj:j<(s.line k).nodes.length)(hlt:(zAo s k j).log.length<(zAo s' k j).log.length):zHw s'<zHw s:=by
 have hf:(zAo s' k j).log.length<=500:=(hS.line k (by rw [h.ll];exact hk)).few _ (List.mem_of_getElem? (zEh (by rw [h.len];exact hj)))
 unfold zHw
 rw [h.ll]
 refine zXc (fun k' hk'=>?_) k hk ?_
 ·rw [h.len]
  refine zKx fun j' hj'=>?_
  have:=(h.at hj').2.length_le
  omega
 ·rw [h.len]
  refine zXc (fun j' hj'=>?_) j hj (by omega)
  have:=(h.at hj').2.length_le
  omega
theorem yKr{f g:Nat->Nat}:∀ {n:Nat},(∀ k,k<n->f k=g k)->sumR f n=sumR g n
 | 0,_=>rfl
 | n+1,h=>by show sumR f n+f n=sumR g n+g n;rw [yKr fun k hk=>h k (by omega),h n (by omega)]
theorem yDa{s:zAa}(h:zDo s=false):zCo s=s:=by
 unfold zCo settleF
 rw [h];rfl
theorem yOx{k:Nat}{l:zCs}(hL:zGv k l)(hk:k<=4){j:Nat}{n:zAl}(hj:l.nodes[j]?=some n)(m:MsgD)(hg:(zCt n m).1.log=n.log):phiL (zCt n m).2<phi m/\(zCt n m).2.length<=500:=by
 have hnm:=List.mem_of_getElem? hj
 have hsend:∀ (s:zAl) (wh:Int) (x:MsgD),(zGn s wh x).length<=1:=fun s wh x=>by
  unfold zGn;split <;> simp
 unfold zCt at hg ⊢
 split at hg
 ·rename_i h0
  rw [if_pos h0]
  split at hg
  ·rename_i h1
   rw [if_pos h1]
   refine ⟨?_,Nat.le_trans (hsend _ _ _) (by omega)⟩
   have e:phi m=602:=by unfold phi;rw [if_pos h1.1]
   rw [e]
   show phiL (zGn n (-1) (zCh 2 n.log.length))<602
   unfold zGn
   split
   ·simp [phiL]
   ·simp [phiL,phi,zCh]
  ·rename_i h1
   rw [if_neg h1]
   split at hg
   ·rename_i h2
    rw [if_pos h2]
    have e:phi m=601:=by unfold phi;rw [if_neg (by omega),if_pos h2.1]
    rw [e]
    have hlen:(zOm n m.n).length<=500:=by
     unfold zOm
     split
     ·simp
     ·simp only [fwdL,List.length_map,List.length_range]
      have:=hL.few n hnm
      omega
    refine ⟨?_,hlen⟩
    have hone:∀ x∈zOm n m.n,phi x=1:=fun x hx=>by
     unfold zOm at hx
     cases hn:nbrN n 1 with
     | none=>rw [hn] at hx;simp at hx
     | some t=>
      rw [hn] at hx
      simp only [fwdL,List.mem_map] at hx
      obtain ⟨i,_,rfl⟩:=hx
      rfl
    have hsum:∀ ms:List MsgD,(∀ x∈ms,phi x=1)->phiL ms=ms.length:=fun ms=>by
     induction ms with
     | nil=>intro _;rfl
     | cons a ms ih=>
      intro hx
      have e1:=ih fun x hm=>hx x (by simp [hm])
      have e2:phiL (a :: ms)=phi a+phiL ms:=by simp [phiL]
      rw [e2,e1,hx a (by simp),List.length_cons];omega
    show phiL (zOm n m.n)<601
    rw [hsum _ hone];omega
   ·rename_i h2
    rw [if_neg h2]
    split at hg
    ·rename_i h3
     have:=(zJv n m.cmd).2.1
     rw [this] at hg
     have:=congrArg List.length hg
     simp at this
    ·rename_i h3
     rw [if_neg h3]
     split at hg
     ·rename_i h4
      rw [if_pos h4]
      refine ⟨?_,Nat.le_trans (hsend _ _ _) (by omega)⟩
      have hto:m.to=n.id:=h0.2
      have hr:=hL.rng n hnm
      have e:phi m=1+n.id.toNat:=by
       unfold phi
       rw [if_neg (by omega),if_neg (by omega),if_pos h4.1,hto,Nat.min_eq_left (by omega)]
      rw [e]
      show phiL (zGn (zPc n m.n) (-1) (zCh 4 (zPc n m.n).stable))<_
      unfold zGn
      split
      ·simp [phiL];omega
      ·rename_i t ht
       have ht':nbrN n (-1)=some t:=ht
       obtain ⟨i,a,hi,ha,haid⟩:=hL.nbr hj ht'
       have hlt:=(zJr.1 hL.ord i j a n (by omega) ha hj).1
       have hra:=hL.rng a (List.mem_of_getElem? ha)
       simp only [phiL,phi,zCh,List.map_cons,List.map_nil,List.sum_cons,List.sum_nil]
       simp only [show ((4:Int)=1)=False by simp,show ((4:Int)=2)=False by simp,if_false,if_true]
       have:min t.toNat 100<=t.toNat:=Nat.min_le_left _ _
       omega
     ·rename_i h4
      rw [if_neg h4]
      exact ⟨by have:=yDi m;simp [phiL];omega,by simp⟩
 ·rename_i h0
  rw [if_neg h0]
  exact ⟨by have:=yDi m;simp [phiL];omega,by simp⟩
theorem Safe.k4{s:zAa}(h:Safe s){k:Nat}(hk:k<s.lines.length):k<=4:=by have:=h.ll.2;omega
theorem yIu{s:zAa}(h:Safe s)(hH:Held s)(hn:zDo s=false)(hf:s.net.way.length<=200)(hne:s.net.way≠[]):muS (zBb s 0)<muS s/\zDo (zBb s 0)=false/\(zBb s 0).net.way.length<=200:=by
 have hG:=zJb h hH 0
 have hf':=hG.few hf
 cases hw:s.net.way with
 | nil=>exact absurd hw hne
 | cons m R=>
  have hm:s.net.way[0]?=some m:=by rw [hw];rfl
  have hphi:phiS s=phi m+phiL R:=by unfold phiS;rw [hw];simp [phiL]
  have hT:∀ k,(zBi s 0).line k=s.line k:=fun _=>rfl
  have htw:(zBi s 0).net.way=R:=by show s.net.way.eraseIdx 0=R;rw [hw];rfl
  have hpm:=yDi m
  have hroomT:zHw (zBi s 0)=zHw s:=rfl
  unfold zBb at hG hf' ⊢
  rw [hm] at hG hf' ⊢
  simp only at hG hf' ⊢
  cases hnd:zIo s m.to with
  | none=>
   rw [hnd] at hG hf'
   simp only at hG hf' ⊢
   refine ⟨?_,hn,hf'⟩
   unfold muS
   rw [hroomT]
   have:phiS (zBi s 0)=phiL R:=by unfold phiS;rw [htw]
   omega
  | some kj=>
   obtain ⟨k,j⟩:=kj
   rw [hnd] at hG hf'
   simp only at hG hf' ⊢
   obtain ⟨hk,n,q1,q2,q3⟩:=zJs hnd
   have ht:Safe (zBi s 0):=h.way fun m' hm'=>List.mem_of_mem_eraseIdx hm'
   have hTH:Held (zBi s 0):=hH.lines rfl rfl
   have hmo:yCk (zBi s 0) m:=h.msg m (List.mem_of_getElem? hm)
   have hS:=ht.step (k:=k) (j:=j) (n:=n) hk q1 hmo
   have hTl:=zCk.step (s:=zBi s 0) hk q1 q2 m
   have hSH:Held (zHv (zBi s 0) k j m):=hTH.lines hTl.keys hTl.txs
   obtain ⟨g1,g2⟩:=zGa hS hSH
   refine ⟨?_,g2,hf'⟩
   have hstep:=zRv n m
   have hnode:zAo (zHv (zBi s 0) k j m) k j=(zCt n m).1:=by
    have hq1:((zBi s 0).line k).nodes[j]?=some n:=q1
    refine zFq ?_
    show ((setNode (zBi s 0) k j (zCt (zAo (zBi s 0) k j) m).1).line k).nodes[j]?=_
    rw [zEa (zBi s 0) (k:=k) hk,if_pos rfl,zFq hq1]
    show ((s.line k).nodes.set j _)[j]?=_
    rw [zDn,if_pos ⟨rfl,(List.getElem?_eq_some_iff.1 q1).1⟩]
   have hjl:j<(s.line k).nodes.length:=(List.getElem?_eq_some_iff.1 q1).1
   have hna:zAo s k j=n:=zFq q1
   rcases hstep.2.1 with e | e
   ·have hs1:zCo (zHv (zBi s 0) k j m)=zHv (zBi s 0) k j m:=by
     refine yDa (zNk.2 fun i hi=>?_)
     have hi':i<s.lines.length:=by have:=hTl.mv.ll;rw [this] at hi;exact hi
     have e1:=zNk.1 hn i hi'
     have hne':=(hS.line i hi).ne
     have hlen:=hTl.mv.len i
     have hpos:=List.length_pos_iff.2 hne'
     unfold zGb zGe at e1 ⊢
     rw [hTl.heard,zEw _ _ hpos]
     rw [zEw _ _ (by rw [<-hT i,<-hlen];exact hpos)] at e1
     have hlog:∀ (x:Nat) (a b:zAl),(s.line i).nodes[x]?=some a->((zHv (zBi s 0) k j m).line i).nodes[x]?=some b->b.log=a.log:=fun x a b ha hb=>by
      have hb':((setNode (zBi s 0) k j (zCt (zAo (zBi s 0) k j) m).1).line i).nodes[x]?=some b:=hb
      rw [zEa (zBi s 0) (k:=k) hk] at hb'
      split at hb'
      ·rename_i ei;subst ei
       have hb2:((s.line i).nodes.set j (zCt (zAo (zBi s 0) i j) m).1)[x]?=some b:=hb'
       rw [zDn] at hb2
       split at hb2
       ·rename_i ex
        cases hb2
        rw [ex.1,q1] at ha;cases ha
        rw [show zAo (zBi s 0) i j=n from hna];exact e
       ·rw [ha] at hb2;cases hb2;rfl
      ·have hb2:(s.line i).nodes[x]?=some b:=hb'
       rw [ha] at hb2;cases hb2;rfl
     have hx:=hlog ((s.line i).nodes.length - 1) _ _ (List.getElem?_eq_getElem (by rw [<-hT i,<-hlen];omega)) (by
      rw [show (s.line i).nodes.length=((zHv (zBi s 0) k j m).line i).nodes.length by rw [hlen];rfl]
      exact List.getElem?_eq_getElem (by omega))
     rw [hx];exact e1
    rw [hs1]
    obtain ⟨p1,p2⟩:=yOx (h.line k hk) (h.k4 hk) q1 m e
    unfold muS
    have hr:=hTl.mv.room
    rw [hroomT] at hr
    have hp:phiS (zHv (zBi s 0) k j m)<=phiL R+phiL (zCt n m).2:=by
     have:=zSb (zCt (zAo (zBi s 0) k j) m).2 (zBi s 0).net
     rw [htw,show zAo (zBi s 0) k j=n from hna] at this
     unfold phiS zHv zLb
     simp only [show zAo (zBi s 0) k j=n from hna]
     exact this
    have:zHw (zHv (zBi s 0) k j m)*120401<=zHw s*120401:=Nat.mul_le_mul_right _ hr
    omega
   ·have hlt:zHw (zHv (zBi s 0) k j m)<zHw (zBi s 0):=hTl.mv.less hS (k:=k) (j:=j) hk hjl (by rw [hnode,e.2.2.2.2,show zAo (zBi s 0) k j=n from hna];simp)
    have hr2:=g1.mv.room
    rw [hroomT] at hlt
    have hp:=yLi hf'
    unfold muS
    have:(zHw (zCo (zHv (zBi s 0) k j m))+1)*120401<=zHw s*120401:=Nat.mul_le_mul_right _ (by omega)
    rw [Nat.add_mul] at this
    omega
structure zEg(s:zAa):Prop where
 safe:Safe s
 held:Held s
 none:zDo s=false
 few:s.net.way.length<=200
def drainF:Nat->zAa->zAa
 | 0,s=>s
 | n+1,s=>if s.net.way.isEmpty then s else drainF n (zBb s 0)
def zLp(s:zAa):zAa:=drainF (muS s+1) s
theorem zEg.deliver{s:zAa}(h:zEg s)(hne:s.net.way≠[]):zEg (zBb s 0)/\zBv s (zBb s 0)/\muS (zBb s 0)<muS s:=by
 obtain ⟨a,b,c⟩:=yIu h.safe h.held h.none h.few hne
 have q:=zJb h.safe h.held 0
 exact ⟨⟨q.safe,q.held,b,c⟩,q,a⟩
theorem zTk:∀ (n:Nat) {s:zAa},zEg s->zEg (drainF n s)/\zBv s (drainF n s)/\muS (drainF n s)<=muS s
 | 0,s,h=>⟨h,zBv.refl h.safe h.held,Nat.le_refl _⟩
 | n+1,s,h=>by
  unfold drainF
  split
  ·exact ⟨h,zBv.refl h.safe h.held,Nat.le_refl _⟩
  ·rename_i e
   obtain ⟨a,b,c⟩:=h.deliver (fun q=>e (by rw [q];rfl))
   obtain ⟨a',b',c'⟩:=zTk n a
   exact ⟨a',b.trans b',by omega⟩
theorem yIt(n:Nat):∀ {s:zAa},zEg s->muS s<n->(drainF n s).net.way=[]:=by
 induction n with
 | zero=>intro s h hn;exact absurd hn (Nat.not_lt_zero _)
 | succ n ih=>
  intro s h hn
  unfold drainF
  by_cases e:s.net.way.isEmpty=true
  ·rw [if_pos e];exact List.isEmpty_iff.1 e
  ·rw [if_neg e]
   obtain ⟨a,b,c⟩:=h.deliver (fun q=>e (by rw [q];rfl))
   exact ih a (Nat.lt_of_lt_of_le c (Nat.le_of_lt_succ hn))
theorem yIs{s:zAa}(h:zEg s):zEg (zLp s)/\zBv s (zLp s)/\muS (zLp s)<=muS s/\(zLp s).net.way=[]:=by
 obtain ⟨a,b,c⟩:=zTk (muS s+1) h
 exact ⟨a,b,c,yIt (muS s+1) h (Nat.lt_succ_self _)⟩
theorem zYh(n:zAl)(c:CmdD):(zFo n c).2.length<=1:=by
 unfold zFo
 split
 ·unfold zEd zGn
  split
  ·simp only;split <;> simp
  ·simp only;split <;> simp
 ·simp only;split <;> simp
theorem zNn(n:zAl):(zEd n).2.length<=1:=by
 unfold zEd zGn
 split
 ·simp only;split <;> simp
 ·simp only;split <;> simp
theorem yRy(s:zAa)(k:Nat)(c:CmdD):s.net.lost<=(addH s k c).net.lost/\(addH s k c).net.lost<=s.net.lost+1/\(addH s k c).lines.length=s.lines.length/\(addH s k c).txs=s.txs:=by
 have hl:(addN (zAp s k) c).2.length<=1:=by
  unfold addN
  split
  ·exact zYh _ _
  ·simp
 have:=zFc (addN (zAp s k) c).2 s.net
 refine ⟨this.1,?_,by simp [addH,zLb,setNode,setLine],rfl⟩
 have h2:=this.2
 show (zFd s.net (addN (zAp s k) c).2).lost<=_
 omega
theorem zUv(s:zAa)(k:Nat)(log:List CmdD)(id:Nat):s.net.lost<=(tell1 s k log id).net.lost/\(tell1 s k log id).net.lost<=s.net.lost+1/\(tell1 s k log id).lines.length=s.lines.length/\(tell1 s k log id).txs=s.txs:=by
 unfold tell1
 split
 ·exact ⟨Int.le_refl _,by omega,rfl,rfl⟩
 ·split
  ·exact yRy s k _
  ·exact ⟨Int.le_refl _,by omega,rfl,rfl⟩
theorem zUt(k:Nat)(log:List CmdD):∀ (ids:List Nat) (s:zAa),s.net.lost<=(ids.foldl (fun h id=>tell1 h k log id) s).net.lost/\(ids.foldl (fun h id=>tell1 h k log id) s).net.lost<=s.net.lost+ids.length/\(ids.foldl (fun h id=>tell1 h k log id) s).lines.length=s.lines.length/\(ids.foldl (fun h id=>tell1 h k log id) s).txs=s.txs
 | [],s=>⟨Int.le_refl _,by simp,rfl,rfl⟩
 | id :: ids,s=>by
  obtain ⟨a,b,c,d⟩:=zUv s k log id
  obtain ⟨a',b',c',d'⟩:=zUt k log ids (tell1 s k log id)
  rw [List.foldl_cons]
  exact ⟨by omega,by rw [List.length_cons];omega,by rw [c',c],by rw [d',d]⟩
theorem zRs(s:zAa)(k:Nat):s.net.lost<=(tellAt s k).net.lost/\(tellAt s k).net.lost<=s.net.lost+s.txs.length/\(tellAt s k).lines.length=s.lines.length/\(tellAt s k).txs=s.txs:=by
 unfold tellAt
 split
 ·exact ⟨Int.le_refl _,by omega,rfl,rfl⟩
 ·rename_i n _
  have:=zUt k n.log ((List.range s.txs.length).map (·+1)) s
  simpa using this
theorem yHd(s:zAa):s.net.lost<=(zEe s).net.lost/\(zEe s).net.lost<=s.net.lost+s.lines.length*s.txs.length/\(zEe s).lines.length=s.lines.length/\(zEe s).txs=s.txs:=by
 unfold zEe
 have key:∀ m,s.net.lost<=((List.range m).foldl tellAt s).net.lost/\((List.range m).foldl tellAt s).net.lost<=s.net.lost+m*s.txs.length/\((List.range m).foldl tellAt s).lines.length=s.lines.length/\((List.range m).foldl tellAt s).txs=s.txs:=by
  intro m
  induction m with
  | zero=>exact ⟨Int.le_refl _,by simp,rfl,rfl⟩
  | succ m ih=>
   rw [List.range_succ,List.foldl_append]
   obtain ⟨a,b,c,d⟩:=ih
   obtain ⟨a',b',c',d'⟩:=zRs ((List.range m).foldl tellAt s) m
   refine ⟨Int.le_trans a a',?_,c'.trans c,d'.trans d⟩
   rw [d] at b'
   show (tellAt _ m).net.lost<=_
   have e:((m+1:Nat):Int)*(s.txs.length:Int)=(m:Int)*(s.txs.length:Int)+(s.txs.length:Int):=by
    rw [show ((m+1:Nat):Int)=(m:Int)+1 by omega,Int.add_mul,Int.one_mul]
   rw [e];omega
 exact key s.lines.length
theorem zRu{s:zAa}(h:Safe s):s.net.lost<=(zEe s).net.lost/\(zEe s).net.lost<=s.net.lost+300:=by
 obtain ⟨a,b,_⟩:=yHd s
 refine ⟨a,?_⟩
 have h1:s.lines.length*s.txs.length<=5*60:=Nat.mul_le_mul h.ll.2 h.tl
 have h2:(s.lines.length:Int)*(s.txs.length:Int)<=300:=by
  have:((s.lines.length*s.txs.length:Nat):Int)<=300:=by omega
  simpa using this
 omega
theorem zQe:∀ (n:Nat) {s:zAa},Safe s->Held s->s.net.lost<=(settleF n s).net.lost/\(settleF n s).net.lost<=s.net.lost+300*n
 | 0,s,h,hH=>⟨Int.le_refl _,by simp [settleF]⟩
 | n+1,s,h,hH=>by
  unfold settleF
  split
  ·have q:=(zJq h hH).1
   have a:=zMk h hH
   have b:=zRu a.1.safe
   rw [a.1.same.net] at b
   have c:=zQe n q.safe q.held
   exact ⟨by omega,by omega⟩
  ·exact ⟨Int.le_refl _,by omega⟩
theorem zRx{s:zAa}(h:Safe s)(hH:Held s):s.net.lost<=(zCo s).net.lost/\(zCo s).net.lost<=s.net.lost+750300:=by
 have:=zQe (500*s.lines.length+1) h hH
 have:=h.ll.2
 unfold zCo
 omega
theorem yFf{n:zAl}(hn:n.log.length<=500)(m:MsgD):(zCt n m).2.length<=500:=by
 have hsend:∀ (s:zAl) (wh:Int) (x:MsgD),(zGn s wh x).length<=500:=fun s wh x=>by
  unfold zGn;split <;> simp
 unfold zCt
 split
 ·split
  ·exact hsend _ _ _
  ·split
   ·show (zOm n m.n).length<=500
    unfold zOm
    split
    ·simp
    ·simp only [fwdL,List.length_map,List.length_range];omega
   ·split
    ·exact Nat.le_trans (zYh _ _) (by omega)
    ·split
     ·exact hsend _ _ _
     ·simp
 ·simp
theorem zLq{s:zAa}(h:Safe s)(hH:Held s)(k:Nat):s.net.lost<=(zBb s k).net.lost/\(zBb s k).net.lost<=s.net.lost+750800:=by
 unfold zBb
 cases hm:s.net.way[k]? with
 | none=>exact ⟨Int.le_refl _,by show s.net.lost<=s.net.lost+750800;omega⟩
 | some m=>
  simp only
  cases hn:zIo s m.to with
  | none=>exact ⟨Int.le_refl _,by show s.net.lost<=_;omega⟩
  | some kj=>
   obtain ⟨kk,j⟩:=kj
   obtain ⟨hk,n,q1,q2,q3⟩:=zJs hn
   have ht:Safe (zBi s k):=h.way fun m' hm'=>List.mem_of_mem_eraseIdx hm'
   have hTH:Held (zBi s k):=hH.lines rfl rfl
   have hS:=ht.step (k:=kk) (j:=j) (n:=n) hk q1 (h.msg m (List.mem_of_getElem? hm))
   have hTl:=zCk.step (s:=zBi s k) hk q1 q2 m
   have hSH:Held (zHv (zBi s k) kk j m):=hTH.lines hTl.keys hTl.txs
   have a:=zRx hS hSH
   have b:=zFc (zCt (zAo (zBi s k) kk j) m).2 (zBi s k).net
   have c:=yFf (n:=zAo (zBi s k) kk j) (by rw [show zAo (zBi s k) kk j=n from zFq q1];exact (h.line kk hk).few n (List.mem_of_getElem? q1)) m
   have e1:(zHv (zBi s k) kk j m).net.lost=(zFd (zBi s k).net (zCt (zAo (zBi s k) kk j) m).2).lost:=rfl
   have e2:(zBi s k).net.lost=s.net.lost:=rfl
   simp only
   omega
def potS(s:zAa):Int:=s.net.lost+750800*(muS s:Int)
theorem zWf:∀ (n:Nat) {s:zAa},zEg s->s.net.lost<=(drainF n s).net.lost/\potS (drainF n s)<=potS s
 | 0,s,h=>⟨Int.le_refl _,Int.le_refl _⟩
 | n+1,s,h=>by
  unfold drainF
  split
  ·exact ⟨Int.le_refl _,Int.le_refl _⟩
  ·rename_i e
   obtain ⟨a,b,c⟩:=h.deliver (fun q=>e (by rw [q];rfl))
   have d:=zLq h.safe h.held 0
   obtain ⟨a',c'⟩:=zWf n a
   refine ⟨by omega,?_⟩
   have:potS (zBb s 0)<=potS s:=by unfold potS;omega
   omega
theorem yNd{s:zAa}(h:zEg s):s.net.lost<=(zLp s).net.lost/\potS (zLp s)<=potS s:=zWf _ h
end Go.Proofs.YtogaigioeohjaaaGreatDoor
