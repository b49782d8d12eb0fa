import Derived.Test.YtmaiggbnceejiaaGreatDoorP26
set_option linter.unusedVariables false
set_option maxRecDepth 100000
set_option maxHeartbeats 16000000
namespace Go.Proofs.YtmaiggbnceejiaaGreatDoor
structure zKq(n n':zAl):Prop where
 id:n'.id=n.id
 ep:n'.epoch=n.epoch
 cf:n'.nodes=n.nodes
structure zVz(n:zAl)(m:MsgD):Prop where
 frm:m.frm=n.id
 ep:m.epoch=n.epoch
 kd:1<=m.kind/\m.kind<=4
 dst:m.to∈n.nodes
 fw:m.kind=3->∃ N:Nat,m.n=N/\n.log[N]?=some m.cmd
theorem zWt{s:zAl}{wh:Int}{k x:Int}(hk:1<=k/\k<=4)(h3:k≠3){m:MsgD}(h:m∈zGo s wh (zCf k x)):zVz s m/\m.kind=k:=by
 unfold zGo at h
 cases hn:nbrN s wh with
 | none=>rw [hn] at h;simp at h
 | some t=>
  rw [hn] at h
  simp only [List.mem_singleton] at h
  subst h
  exact ⟨⟨rfl,rfl,hk,zRa hn,fun e=>absurd e h3⟩,rfl⟩
theorem zJl(n:zAl):zKq n (zEj n).1/\(zEj n).1.log=n.log/\∀ m∈(zEj n).2,zVz (zEj n).1 m/\(m.kind=1\/m.kind=4):=by
 unfold zEj
 split
 ·exact ⟨⟨rfl,rfl,rfl⟩,rfl,fun m hm=>(zWt (k:=4) (by omega) (by omega) hm).imp id .inr⟩
 ·exact ⟨⟨rfl,rfl,rfl⟩,rfl,fun m hm=>(zWt (k:=1) (by omega) (by omega) hm).imp id .inl⟩
theorem zJt(n:zAl)(c:CmdD):zKq n (zGd n c).1/\(zGd n c).1.log=n.log++[c]/\∀ m∈(zGd n c).2,zVz (zGd n c).1 m:=by
 unfold zGd
 split
 ·obtain ⟨h1,h2,h3⟩:=zJl (logN n (n.log++[c]))
  exact ⟨⟨h1.id,h1.ep,h1.cf⟩,h2,fun m hm=>(h3 m hm).1⟩
 ·refine ⟨⟨rfl,rfl,rfl⟩,rfl,fun m hm=>?_⟩
  cases hn:nbrN n 1 with
  | none=>rw [hn] at hm;simp at hm
  | some t=>
   rw [hn] at hm
   simp only [List.mem_singleton] at hm
   subst hm
   exact ⟨rfl,rfl,by simp [fwdM],zRa hn,fun _=>⟨n.log.length,rfl,by simp [logN,fwdM]⟩⟩
theorem yQj{s:zAl}{f:Int}{m:MsgD}(h:m∈zPz s f):zVz s m:=by
 unfold zPz at h
 cases hn:nbrN s 1 with
 | none=>rw [hn] at h;simp at h
 | some t=>
  rw [hn] at h
  simp only [fwdL,List.mem_map,List.mem_range] at h
  obtain ⟨j,hj,rfl⟩:=h
  refine ⟨rfl,rfl,by simp [fwdM],zRa hn,fun _=>⟨f.toNat+j,rfl,?_⟩⟩
  have:f.toNat+j<s.log.length:=by omega
  simp [fwdM,List.getD_eq_getElem?_getD,List.getElem?_eq_getElem this]
theorem zRn(n:zAl)(m:MsgD):zKq n (zCw n m).1/\((zCw n m).1.log=n.log\/(m.kind=3/\isN n (-1) m.frm=true/\m.n=n.log.length/\n.log.length<500/\(zCw n m).1.log=n.log++[m.cmd]))/\∀ m'∈(zCw n m).2,zVz (zCw n m).1 m':=by
 unfold zCw
 split
 ·split
  ·exact ⟨⟨rfl,rfl,rfl⟩,.inl rfl,fun m' hm=>(zWt (k:=2) (by omega) (by omega) hm).1⟩
  ·split
   ·exact ⟨⟨rfl,rfl,rfl⟩,.inl rfl,fun m' hm=>yQj hm⟩
   ·split
    ·rename_i h
     obtain ⟨h1,h2,h3⟩:=zJt n m.cmd
     exact ⟨h1,.inr ⟨h.1,h.2.1,h.2.2.1,h.2.2.2,h2⟩,h3⟩
    ·split
     ·exact ⟨⟨rfl,rfl,rfl⟩,.inl rfl,fun m' hm=>(zWt (k:=4) (by omega) (by omega) hm).1⟩
     ·exact ⟨⟨rfl,rfl,rfl⟩,.inl rfl,fun m' hm=>by simp at hm⟩
 ·exact ⟨⟨rfl,rfl,rfl⟩,.inl rfl,fun m' hm=>by simp at hm⟩
theorem zYv{s:NetS}{a m:MsgD}(h:m∈(zFe s a).way):m∈s.way\/m=a:=by
 unfold zFe at h
 split at h
 ·exact .inl h
 ·simpa using h
theorem zOa:∀ {ms:List MsgD} {s:NetS} {m:MsgD},m∈(zEz s ms).way->m∈s.way\/m∈ms
 | [],s,m,h=>.inl h
 | a :: ms,s,m,h=>by
  rcases zOa (ms:=ms) (s:=zFe s a) h with q | q
  ·rcases zYv q with q | q
   ·exact .inl q
   ·exact .inr (by simp [q])
  ·exact .inr (by simp [q])
theorem zHq{α:Type}{R:α->α->Prop}{l:List α}:l.Pairwise R↔∀ (i j:Nat) a b,i<j->l[i]?=some a->l[j]?=some b->R a b:=by
 rw [List.pairwise_iff_getElem]
 constructor
 ·intro h i j a b hij ha hb
  obtain ⟨h1,h2⟩:=List.getElem?_eq_some_iff.1 ha
  obtain ⟨h3,h4⟩:=List.getElem?_eq_some_iff.1 hb
  have:=h i j h1 h3 hij
  rwa [h2,h4] at this
 ·intro h i j hi hj hij
  exact h i j _ _ hij (List.getElem?_eq_getElem hi) (List.getElem?_eq_getElem hj)
structure zGm(k:Nat)(l:zCr):Prop where
 ne:l.nodes≠[]
 ord:l.nodes.Pairwise fun a b=>a.id<b.id/\b.log <+: a.log
 rng:∀ n∈l.nodes,10*(k:Int)<=n.id/\n.id<10*(k:Int)+4
 cfg:∀ n∈l.nodes,n.nodes=l.nodes.map (·.id)
 ep:∃ E:Int,1<=E/\E+l.nodes.length<=6/\∀ n∈l.nodes,n.epoch=E
 heard:∀ n∈l.nodes,l.heard<=n.log.length
 few:∀ n∈l.nodes,n.log.length<=500
theorem yHg{l:List zAl}(h:l.Pairwise fun a b=>a.id<b.id){j:Nat}{n:zAl}(hj:l[j]?=some n):zGi n.id (l.map (·.id))=some j:=by
 refine zSw _ _ _ (fun i y hi hy=>?_) (by simp [hj])
 simp only [List.getElem?_map,Option.map_eq_some_iff] at hy
 obtain ⟨a,ha,rfl⟩:=hy
 have:=zHq.1 h i j a n hi ha hj
 omega
theorem zGm.place{k:Nat}{l:zCr}(h:zGm k l){j:Nat}{n:zAl}(hj:l.nodes[j]?=some n):zGp n=j:=by
 unfold zGp
 rw [h.cfg n (List.mem_of_getElem? hj),yHg (h.ord.imp fun q=>q.1) hj];rfl
theorem zGm.inN{k:Nat}{l:zCr}(h:zGm k l){n:zAl}(hn:n∈l.nodes):inN n=true:=by
 obtain ⟨j,hj⟩:=List.getElem?_of_mem hn
 unfold Go.Proofs.YtmaiggbnceejiaaGreatDoor.inN
 rw [h.place hj];simp
theorem zGm.nbr{k:Nat}{l:zCr}(h:zGm k l){j:Nat}{n:zAl}(hj:l.nodes[j]?=some n){wh:Int}{x:Int}(hx:nbrN n wh=some x):∃ (i:Nat) (a:zAl),(i:Int)=j+wh/\l.nodes[i]?=some a/\a.id=x:=by
 unfold nbrN at hx
 split at hx
 ·rename_i e
  rw [h.place hj] at e hx
  rw [h.cfg n (List.mem_of_getElem? hj)] at hx
  simp only [Bool.and_eq_true,decide_eq_true_eq] at e
  simp only [List.getElem?_map,Option.map_eq_some_iff] at hx
  obtain ⟨a,ha,rfl⟩:=hx
  exact ⟨_,a,by omega,ha,rfl⟩
 ·cases hx
theorem zGm.set{k:Nat}{l:zCr}(h:zGm k l){j:Nat}{n n':zAl}(hj:l.nodes[j]?=some n)(hg:zKq n n')(hl:n.log <+: n'.log)(hf:n'.log.length<=500)(hp:∀ (i:Nat) p,i<j->l.nodes[i]?=some p->n'.log <+: p.log):zGm k ⟨l.nodes.set j n',l.heard⟩:=by
 have hm:=List.mem_of_getElem? hj
 have hjl:=(List.getElem?_eq_some_iff.1 hj).1
 have hmem:∀ x,x∈l.nodes.set j n'->x=n'\/x∈l.nodes:=fun x hx=>by
  rcases List.mem_or_eq_of_mem_set hx with q | q
  ·exact .inr q
  ·exact .inl q
 have hids:(l.nodes.set j n').map (·.id)=l.nodes.map (·.id):=by
  rw [List.map_set]
  refine List.ext_getElem? fun i=>?_
  rw [zDj]
  split
  ·rename_i e
   rw [e.1]
   simp [hj,hg.id]
  ·rfl
 refine ⟨fun e=>?_,?_,fun x hx=>?_,fun x hx=>?_,?_,fun x hx=>?_,fun x hx=>?_⟩
 ·have:=congrArg List.length e
  simp at this
  exact h.ne this
 ·rw [zHq]
  intro i i' a b hii ha hb
  rw [zDj] at ha hb
  have hpw:=zHq.1 h.ord
  by_cases e1:i=j
  ·rw [if_pos ⟨e1,by omega⟩] at ha
   rw [if_neg (by omega)] at hb
   cases ha
   subst e1
   have:=hpw i i' n b hii hj hb
   exact ⟨by rw [hg.id];exact this.1,this.2.trans hl⟩
  ·rw [if_neg (fun q=>e1 q.1)] at ha
   by_cases e2:i'=j
   ·rw [if_pos ⟨e2,by omega⟩] at hb
    cases hb
    subst e2
    have:=hpw i i' a n hii ha hj
    exact ⟨by rw [hg.id];exact this.1,hp i a hii ha⟩
   ·rw [if_neg (fun q=>e2 q.1)] at hb
    exact hpw i i' a b hii ha hb
 ·rcases hmem x hx with q | q
  ·rw [q,hg.id];exact h.rng n hm
  ·exact h.rng x q
 ·show x.nodes=(l.nodes.set j n').map (·.id)
  rw [hids]
  rcases hmem x hx with q | q
  ·rw [q,hg.cf];exact h.cfg n hm
  ·exact h.cfg x q
 ·obtain ⟨E,h1,h2,h3⟩:=h.ep
  refine ⟨E,h1,by simpa using h2,fun x hx=>?_⟩
  rcases hmem x hx with q | q
  ·rw [q,hg.ep];exact h3 n hm
  ·exact h3 x q
 ·rcases hmem x hx with q | q
  ·rw [q];exact Nat.le_trans (h.heard n hm) hl.length_le
  ·exact h.heard x q
 ·rcases hmem x hx with q | q
  ·rw [q];exact hf
  ·exact h.few x q
theorem zGm.take{k:Nat}{l:zCr}(h:zGm k l){a b:zAl}(ha:a∈l.nodes)(hb:b∈l.nodes):a.log.take l.heard=b.log.take l.heard:=by
 obtain ⟨i,hi⟩:=List.getElem?_of_mem ha
 obtain ⟨j,hj⟩:=List.getElem?_of_mem hb
 have key:∀ {x y:List CmdD},y <+: x->l.heard<=y.length->x.take l.heard=y.take l.heard:=fun {x y} hxy hl=>by
  obtain ⟨t,rfl⟩:=hxy
  rw [List.take_append_of_le_length hl]
 rcases Nat.lt_trichotomy i j with q | q | q
 ·exact key (zHq.1 h.ord i j a b q hi hj).2 (h.heard b hb)
 ·subst q;rw [hi] at hj;cases hj;rfl
 ·exact (key (zHq.1 h.ord j i b a q hj hi).2 (h.heard a ha)).symm
theorem zXm{l:List zAl}(h:l≠[])(d:zAl):l.getLastD d∈l:=by
 cases l with
 | nil=>exact absurd rfl h
 | cons a l=>rw [zEo _ _ (by simp)];exact List.getElem_mem _
theorem zGm.last{k:Nat}{l:zCr}(h:zGm k l)(d:zAl){n:zAl}(hn:n∈l.nodes):(l.nodes.getLastD d).log <+: n.log:=by
 obtain ⟨i,hi⟩:=List.getElem?_of_mem hn
 have hlt:=(List.getElem?_eq_some_iff.1 hi).1
 rw [zEo l.nodes d (by omega)]
 by_cases e:i=l.nodes.length - 1
 ·subst e
  rw [List.getElem?_eq_getElem (by omega)] at hi
  cases hi
  exact List.prefix_refl _
 ·exact (zHq.1 h.ord i (l.nodes.length - 1) n _ (by omega) hi (List.getElem?_eq_getElem (by omega))).2
structure zTq(s:zAa)(k:Nat)(c:CmdD):Prop where
 lo:1<=c.tx
 hi:c.tx<=(s.txs.length:Int)
 dec:k=decH s->c.kind=3/\(1<=c.time/\c.time<=501)/\((s.tx c.tx.toNat).state=2\/(s.tx c.tx.toNat).state=3)/\zIy (s.tx c.tx.toNat)=true
 shard:k≠decH s->(c.kind=2/\(s.tx c.tx.toNat).state≠1/\(s.tx c.tx.toNat).ats.getD k 0≠0)\/(c.kind=3/\(s.tx c.tx.toNat).state=3/\1<=c.time)\/(c.kind=4/\(s.tx c.tx.toNat).state=4)
structure zKs(s:zAa)(k:Nat)(log:List CmdD):Prop where
 all:∀ c∈log,zTq s k c
 one:log.Pairwise fun a b=>¬ (a.kind=b.kind/\a.tx=b.tx)
 prep:k≠decH s->∀ (i:Nat) c,log[i]?=some c->c.kind=3->∃ (j:Nat) (p:CmdD),j<i/\log[j]?=some p/\p.kind=2/\p.tx=c.tx
def zFi(s:zAa)(k:Nat):List CmdD:=(zAq s k).log.take (s.line k).heard
def hasC(l:List CmdD)(kind:Int)(id:Nat):Prop:=∃ c∈l,c.kind=kind/\c.tx=(id:Int)
structure TxOK(s:zAa)(id:Nat):Prop where
 len:(s.tx id).ats.length=s.lines.length
 st:1<=(s.tx id).state/\(s.tx id).state<=4
 rng:∀ k,0<=(s.tx id).ats.getD k 0/\(s.tx id).ats.getD k 0<=2
 dec:(s.tx id).ats.getD (decH s) 0=0
 op:(s.tx id).state=1->∀ k,(s.tx id).ats.getD k 0≠2
 sure:∀ k,k<decH s->(s.tx id).ats.getD k 0=2->hasC (zFi s k) 2 id
 com:(s.tx id).state=3->zIy (s.tx id)=true/\1<=(s.tx id).time/\hasC (zFi s (decH s)) 3 id
 tm:0<=(s.tx id).time/\(s.tx id).time<=501
 few:(s.tx id).writes.length<=20/\∀ p∈(s.tx id).writes,p.key.size<=20
def yBl(s:zAa)(m:MsgD):Prop:=m.kind=3->∀ k,k<s.lines.length->∀ n∈(s.line k).nodes,n.id=m.frm->∃ N:Nat,m.n=N/\n.log[N]?=some m.cmd
structure Safe(s:zAa):Prop where
 ll:2<=s.lines.length/\s.lines.length<=5
 tl:s.txs.length<=60
 line:∀ k,k<s.lines.length->zGm k (s.line k)
 log:∀ k,k<s.lines.length->zKs s k (zAq s k).log
 msg:∀ m∈s.net.way,yBl s m
 tx:∀ id,1<=id->id<=s.txs.length->TxOK s id
theorem zKs.pre{s:zAa}{k:Nat}{l l':List CmdD}(h:zKs s k l)(hp:l' <+: l):zKs s k l':=by
 obtain ⟨t,rfl⟩:=hp
 refine ⟨fun c hc=>h.all c (List.mem_append_left _ hc),(List.pairwise_append.1 h.one).1,fun hk i c hi hc=>?_⟩
 have hil:=(List.getElem?_eq_some_iff.1 hi).1
 obtain ⟨j,p,hj,hp,h1,h2⟩:=h.prep hk i c (by rw [List.getElem?_append_left hil];exact hi) hc
 exact ⟨j,p,hj,by rw [List.getElem?_append_left (by omega)] at hp;exact hp,h1,h2⟩
theorem zLj{s:zAa}{k:Nat}(h:(s.line k).nodes≠[]):(s.line k).nodes[0]?=some (zAq s k):=by
 unfold zAq
 cases hn:(s.line k).nodes with
 | nil=>exact absurd hn h
 | cons a l=>rfl
theorem Safe.head{s:zAa}(h:Safe s){k:Nat}(hk:k<s.lines.length):(s.line k).nodes[0]?=some (zAq s k):=zLj (h.line k hk).ne
theorem Safe.head_mem{s:zAa}(h:Safe s){k:Nat}(hk:k<s.lines.length):zAq s k∈(s.line k).nodes:=List.mem_of_getElem? (h.head hk)
theorem Safe.pre0{s:zAa}(h:Safe s){k:Nat}(hk:k<s.lines.length){n:zAl}(hn:n∈(s.line k).nodes):n.log <+: (zAq s k).log:=by
 obtain ⟨i,hi⟩:=List.getElem?_of_mem hn
 cases i with
 | zero=>rw [h.head hk] at hi;cases hi;exact List.prefix_refl _
 | succ i=>exact (zHq.1 (h.line k hk).ord 0 (i+1) _ _ (by omega) (h.head hk) hi).2
theorem Safe.logs{s:zAa}(h:Safe s){k:Nat}(hk:k<s.lines.length){n:zAl}(hn:n∈(s.line k).nodes):zKs s k n.log:=(h.log k hk).pre (h.pre0 hk hn)
theorem Safe.heardAt{s:zAa}(h:Safe s){k:Nat}(hk:k<s.lines.length){n:zAl}(hn:n∈(s.line k).nodes):n.log.take (s.line k).heard=zFi s k:=(h.line k hk).take hn (h.head_mem hk)
theorem Safe.dec_lt{s:zAa}(h:Safe s):decH s<s.lines.length:=by have:=h.ll.1;unfold decH;omega
theorem Safe.free{s:zAa}(h:Safe s){i:Nat}(ho:(s.tx i).state=1){k:Nat}(hk:k<s.lines.length){c:CmdD}(hc:c∈(zAq s k).log):c.tx≠(i:Int):=fun e=>by
 have q:=(h.log k hk).all c hc
 have e2:c.tx.toNat=i:=by omega
 by_cases hd:k=decH s
 ·have:=(q.dec hd).2.2.1
  rw [e2] at this;omega
 ·have:=q.shard hd
  rw [e2] at this;omega
theorem Safe.inj{s:zAa}(h:Safe s){k k':Nat}(hk:k<s.lines.length)(hk':k'<s.lines.length){n n':zAl}(hn:n∈(s.line k).nodes)(hn':n'∈(s.line k').nodes)(e:n.id=n'.id):k=k'/\n=n':=by
 have h1:=(h.line k hk).rng n hn
 have h2:=(h.line k' hk').rng n' hn'
 have hkk:k=k':=by omega
 subst hkk
 refine ⟨rfl,?_⟩
 obtain ⟨i,hi⟩:=List.getElem?_of_mem hn
 obtain ⟨j,hj⟩:=List.getElem?_of_mem hn'
 have hpw:=zHq.1 (h.line k hk).ord
 rcases Nat.lt_trichotomy i j with q | q | q
 ·have:=(hpw i j _ _ q hi hj).1;omega
 ·subst q;rw [hi] at hj;cases hj;rfl
 ·have:=(hpw j i _ _ q hj hi).1;omega
theorem Safe.sent{s:zAa}(h:Safe s){k:Nat}(hk:k<s.lines.length){n:zAl}(hn:n∈(s.line k).nodes){m:MsgD}(hm:zVz n m):yBl s m:=fun h3 k' hk' n' hn' e=>by
 obtain ⟨-,rfl⟩:=h.inj hk hk' hn hn' (by rw [e,hm.frm])
 exact hm.fw h3
theorem Safe.send{s:zAa}(h:Safe s){ms:List MsgD}(hm:∀ m∈ms,yBl s m):Safe (zMt s ms):=
 ⟨h.ll,h.tl,h.line,fun k hk=>⟨fun c hc=>⟨((h.log k hk).all c hc).lo,((h.log k hk).all c hc).hi,((h.log k hk).all c hc).dec,((h.log k hk).all c hc).shard⟩,(h.log k hk).one,(h.log k hk).prep⟩,
  fun m hmm=>(zOa hmm).elim (h.msg m) (hm m),fun id h1 h2=>(have q:=h.tx id h1 h2;⟨q.len,q.st,q.rng,q.dec,q.op,q.sure,q.com,q.tm,q.few⟩)⟩
theorem Safe.way{s:zAa}(h:Safe s){net:NetS}(hm:∀ m∈net.way,m∈s.net.way):Safe { s with net:=net }:=
 ⟨h.ll,h.tl,h.line,fun k hk=>⟨fun c hc=>⟨((h.log k hk).all c hc).lo,((h.log k hk).all c hc).hi,((h.log k hk).all c hc).dec,((h.log k hk).all c hc).shard⟩,(h.log k hk).one,(h.log k hk).prep⟩,
  fun m hmm=>h.msg m (hm m hmm),fun id h1 h2=>(have q:=h.tx id h1 h2;⟨q.len,q.st,q.rng,q.dec,q.op,q.sure,q.com,q.tm,q.few⟩)⟩
theorem zDx(s:zAa){k:Nat}(hk:k<s.lines.length)(j:Nat)(n:zAl)(i:Nat):(zCa s k j n).line i=if i=k then ⟨(s.line k).nodes.set j n,(s.line k).heard⟩ else s.line i:=zOn s k _ i hk
theorem zIi(s:zAa)(k j:Nat)(n:zAl):(zCa s k j n).lines.length=s.lines.length:=by simp [zCa,zDz]
theorem zRs(s:zAa)(k j:Nat)(n:zAl):decH (zCa s k j n)=decH s:=by unfold decH;rw [zIi]
theorem zKa{s:zAa}{k:Nat}(hk:k<s.lines.length)(hne:(s.line k).nodes≠[])(j:Nat)(n:zAl)(i:Nat):zAq (zCa s k j n) i=if i=k/\j=0 then n else zAq s i:=by
 unfold zAq
 rw [zDx s hk]
 by_cases e:i=k
 ·subst e
  rw [if_pos rfl]
  show ((s.line i).nodes.set j n).getD 0 _=_
  rw [List.getD_eq_getElem?_getD,zDj]
  by_cases e2:j=0
  ·subst e2
   rw [if_pos ⟨rfl,by have:=List.length_pos_iff.2 hne;omega⟩,if_pos ⟨rfl,rfl⟩];rfl
  ·rw [if_neg (by omega),if_neg (by omega),List.getD_eq_getElem?_getD]
 ·rw [if_neg e,if_neg (fun q=>e q.1)]
theorem zTq.of{s s':zAa}{k:Nat}{c:CmdD}(h:zTq s k c)(ht:s'.txs=s.txs)(hd:decH s'=decH s):zTq s' k c:=by
 have e:∀ i,s'.tx i=s.tx i:=fun i=>by unfold zAa.tx;rw [ht]
 exact ⟨h.lo,by rw [ht];exact h.hi,by rw [hd,e];exact h.dec,by rw [hd,e];exact h.shard⟩
theorem zKs.of{s s':zAa}{k:Nat}{l:List CmdD}(h:zKs s k l)(ht:s'.txs=s.txs)(hd:decH s'=decH s):zKs s' k l:=
 ⟨fun c hc=>(h.all c hc).of ht hd,h.one,by rw [hd];exact h.prep⟩
theorem TxOK.of{s s':zAa}{id:Nat}(h:TxOK s id)(ht:s'.txs=s.txs)(hl:s'.lines.length=s.lines.length)(hh:∀ k,k<s.lines.length->zFi s' k=zFi s k)(hd:decH s<s.lines.length):TxOK s' id:=by
 have e:s'.tx id=s.tx id:=by unfold zAa.tx;rw [ht]
 have ed:decH s'=decH s:=by unfold decH;rw [hl]
 refine ⟨by rw [e,hl];exact h.len,by rw [e];exact h.st,by rw [e];exact h.rng,by rw [e,ed];exact h.dec,by rw [e];exact h.op,fun k hk ha=>?_,fun hs=>?_,by rw [e];exact h.tm,by rw [e];exact h.few⟩
 ·rw [ed] at hk;rw [e] at ha;rw [hh k (by omega)];exact h.sure k hk ha
 ·rw [e] at hs ⊢;rw [ed,hh _ hd];exact h.com hs
theorem Safe.node{s:zAa}(h:Safe s){k j:Nat}(hk:k<s.lines.length){n n':zAl}(hj:(s.line k).nodes[j]?=some n)(hg:zKq n n')(hl:n.log <+: n'.log)(hf:n'.log.length<=500)
  (hp:∀ (i:Nat) p,i<j->(s.line k).nodes[i]?=some p->n'.log <+: p.log) (h0:j=0->zKs s k n'.log):Safe (zCa s k j n'):=by
 have hL:=h.line k hk
 have hn0:=fun i=>zKa hk hL.ne j n' i
 have hln:=fun i=>zDx s hk j n' i
 have hlen:=zIi s k j n'
 have hheard:∀ i,i<s.lines.length->zFi (zCa s k j n') i=zFi s i:=fun i hi=>by
  unfold zFi
  rw [hn0,hln]
  by_cases e:i=k
  ·subst e
   rw [if_pos rfl]
   by_cases e2:j=0
   ·subst e2
    rw [h.head hi] at hj;cases hj
    rw [if_pos ⟨rfl,rfl⟩]
    obtain ⟨t,ht⟩:=hl
    rw [<-ht]
    exact List.take_append_of_le_length (hL.heard _ (h.head_mem hi))
   ·rw [if_neg (fun q=>e2 q.2)]
  ·rw [if_neg e,if_neg (fun q=>e q.1)]
 refine ⟨by rw [hlen];exact h.ll,h.tl,fun i hi=>?_,fun i hi=>?_,fun m hm h3 i hi x hx hxe=>?_,fun id h1 h2=>(h.tx id h1 h2).of rfl hlen hheard h.dec_lt⟩
 ·rw [hlen] at hi
  rw [hln]
  by_cases e:i=k
  ·subst e;rw [if_pos rfl];exact hL.set hj hg hl hf hp
  ·rw [if_neg e];exact h.line i hi
 ·rw [hlen] at hi
  rw [hn0]
  by_cases e:i=k/\j=0
  ·rw [if_pos e];rw [e.1];exact (h0 e.2).of rfl (zRs _ _ _ _)
  ·rw [if_neg e];exact (h.log i hi).of rfl (zRs _ _ _ _)
 ·rw [hlen] at hi
  rw [hln] at hx
  have hmsg:=h.msg m hm h3
  by_cases e:i=k
  ·subst e
   rw [if_pos rfl] at hx
   rcases List.mem_or_eq_of_mem_set hx with q | q
   ·exact hmsg i hi x q hxe
   ·subst q
    obtain ⟨N,e1,e2⟩:=hmsg i hi n (List.mem_of_getElem? hj) (by rw [<-hg.id];exact hxe)
    refine ⟨N,e1,?_⟩
    obtain ⟨t,ht⟩:=hl
    rw [<-ht,List.getElem?_append_left (List.getElem?_eq_some_iff.1 e2).1]
    exact e2
  ·rw [if_neg e] at hx
   exact hmsg i hi x hx hxe
theorem Safe.txs{s s':zAa}(h:Safe s)(hl:s'.lines=s.lines)(hn:s'.net=s.net)(ht:s'.txs.length<=60)(hc:∀ k c,k<s.lines.length->c∈(zAq s k).log->zTq s k c->zTq s' k c)(hx:∀ id,1<=id->id<=s'.txs.length->TxOK s' id):Safe s':=by
 have e1:∀ k,s'.line k=s.line k:=fun k=>by unfold zAa.line;rw [hl]
 have e2:∀ k,zAq s' k=zAq s k:=fun k=>by unfold zAq;rw [e1]
 have e3:decH s'=decH s:=by unfold decH;rw [hl]
 refine ⟨by rw [hl];exact h.ll,ht,fun k hk=>by rw [hl] at hk;rw [e1];exact h.line k hk,fun k hk=>?_,fun m hm=>?_,hx⟩
 ·rw [hl] at hk;rw [e2]
  have q:=h.log k hk
  exact ⟨fun c hc'=>hc k c hk hc' (q.all c hc'),q.one,by rw [e3];exact q.prep⟩
 ·rw [hn] at hm
  have q:=h.msg m hm
  unfold yBl at q ⊢
  rw [hl]
  simp only [e1]
  exact q
theorem yAi{s s':zAa}(hl:s'.lines=s.lines)(k:Nat):zFi s' k=zFi s k:=by
 have e1:s'.line k=s.line k:=by unfold zAa.line;rw [hl]
 unfold zFi zAq;rw [e1]
theorem TxOK.same{s s':zAa}{id:Nat}(h:TxOK s id)(e:s'.tx id=s.tx id)(hl:s'.lines=s.lines):TxOK s' id:=by
 have ed:decH s'=decH s:=by unfold decH;rw [hl]
 refine ⟨by rw [e,hl];exact h.len,by rw [e];exact h.st,by rw [e];exact h.rng,by rw [e,ed];exact h.dec,by rw [e];exact h.op,fun k hk ha=>?_,fun hs=>?_,by rw [e];exact h.tm,by rw [e];exact h.few⟩
 ·rw [ed] at hk;rw [e] at ha;rw [yAi hl];exact h.sure k hk ha
 ·rw [e] at hs ⊢;rw [ed,yAi hl];exact h.com hs
theorem zJn(s:zAa)(id:Nat)(t:TxS){j:Nat}(hj:1<=j)(hid:1<=id)(hl:id<=s.txs.length):(setTx s id t).tx j=if j=id then t else s.tx j:=by
 by_cases e:j=id
 ·subst e;rw [if_pos rfl];exact zFq s t hj hl
 ·rw [if_neg e];exact zEs s t (by omega)
theorem zTq.same{s s':zAa}{k:Nat}{c:CmdD}(h:zTq s k c)(ht:s'.txs.length=s.txs.length)(hl:s'.lines=s.lines)(e:s'.tx c.tx.toNat=s.tx c.tx.toNat):zTq s' k c:=by
 have ed:decH s'=decH s:=by unfold decH;rw [hl]
 exact ⟨h.lo,by rw [ht];exact h.hi,by rw [ed,e];exact h.dec,by rw [ed,e];exact h.shard⟩
theorem Safe.setOpen{s:zAa}(h:Safe s){id:Nat}{t:TxS}(h1:1<=id)(h2:id<=s.txs.length)(ho:(s.tx id).state=1){keys:Tab}(hx:TxOK { setTx s id t with keys:=keys } id):Safe { setTx s id t with keys:=keys }:=by
 refine h.txs (s':={ setTx s id t with keys:=keys }) rfl rfl (by show (setTx s id t).txs.length<=60;rw [zBd];exact h.tl) (fun k c hk hc q=>?_) (fun j hj1 hj2=>?_)
 ·have hne:=h.free ho hk hc
  have hlo:=q.lo
  refine q.same (zBd s id t) rfl ?_
  exact zEs s t (by omega)
 ·by_cases e:j=id
  ·rw [e];exact hx
  ·have hj2':j<=s.txs.length:=by have:=zBd s id t;have:j<=(setTx s id t).txs.length:=hj2;omega
   exact (h.tx j hj1 hj2').same (zEs s t (by omega)) rfl
theorem zOs(l:List Int)(k:Nat):(l.map fun _=>(0:Int)).getD k 0=0:=by
 rw [List.getD_eq_getElem?_getD,List.getElem?_map]
 cases l[k]? <;> rfl
theorem zLg{t:TxS}:zIy t=true↔∀ k,t.ats.getD k 0≠1:=by
 unfold zIy
 simp only [Bool.not_eq_true',decide_eq_false_iff_not]
 constructor
 ·intro h k e
  rw [List.getD_eq_getElem?_getD] at e
  cases hk:t.ats[k]? with
  | none=>rw [hk] at e;simp at e
  | some x=>rw [hk] at e;simp at e;subst e;exact h (List.mem_of_getElem? hk)
 ·intro h hm
  obtain ⟨k,hk⟩:=List.getElem?_of_mem hm
  exact h k (by rw [List.getD_eq_getElem?_getD,hk];rfl)
theorem Safe.abort{s:zAa}(h:Safe s){id:Nat}(h1:1<=id)(h2:id<=s.txs.length)(ho:(s.tx id).state=1):Safe (zBk s id):=by
 have hx:=h.tx id h1 h2
 have e:zBk s id={ setTx s id { s.tx id with state:=4,ats:=(s.tx id).ats.map fun _=>0,writes:=[] } with keys:=relN s.keys id }:=by
  unfold zBk zDg
  rw [if_pos ho,zFq s _ h1 h2]
  simp only [setTx,List.set_set]
 rw [e]
 refine h.setOpen h1 h2 ho ?_
 have et:=zFq s { s.tx id with state:=4,ats:=(s.tx id).ats.map fun _=>0,writes:=[] } h1 h2
 have et':({ setTx s id { s.tx id with state:=4,ats:=(s.tx id).ats.map fun _=>0,writes:=[] } with keys:=relN s.keys id }:zAa).tx id={ s.tx id with state:=4,ats:=(s.tx id).ats.map fun _=>0,writes:=[] }:=et
 refine ⟨?_,?_,?_,?_,?_,?_,?_,?_,?_⟩
 all_goals rw [et']
 ·show (List.map _ _).length=s.lines.length;rw [List.length_map];exact hx.len
 ·simp
 ·intro k;show 0<=(List.map _ _).getD k 0/\(List.map _ _).getD k 0<=2;rw [zOs];omega
 ·exact zOs _ _
 ·intro hs;simp at hs
 ·intro k _ hk;rw [show ((s.tx id).ats.map fun _=>(0:Int)).getD k 0=0 from zOs _ _] at hk;omega
 ·intro hs;simp at hs
 ·exact hx.tm
 ·simp
theorem Safe.abort2{s:zAa}(h:Safe s){id:Nat}(h1:1<=id)(h2:id<=s.txs.length)(ho:(s.tx id).state=2)(hr:zIy (s.tx id)=false):Safe (zBk s id):=by
 have hx:=h.tx id h1 h2
 have e:zBk s id={ setTx s id { s.tx id with state:=4,writes:=[] } with keys:=relN s.keys id }:=by
  unfold zBk zDg
  rw [if_neg (by omega)]
 rw [e]
 have et:({ setTx s id { s.tx id with state:=4,writes:=[] } with keys:=relN s.keys id }:zAa).tx id={ s.tx id with state:=4,writes:=[] }:=zFq s _ h1 h2
 refine h.txs (s':={ setTx s id { s.tx id with state:=4,writes:=[] } with keys:=relN s.keys id }) rfl rfl (by show (setTx s id _).txs.length<=60;rw [zBd];exact h.tl) (fun k c hk hc q=>?_) (fun j hj1 hj2=>?_)
 ·by_cases e2:c.tx.toNat=id
  ·refine ⟨q.lo,by show c.tx<=((setTx s id _).txs.length:Int);rw [zBd];exact q.hi,fun hd=>?_,fun hd=>?_⟩
   ·have:=(q.dec hd).2.2.2
    rw [e2,hr] at this;cases this
   ·rw [e2,et]
    rcases q.shard hd with ⟨q1,q2,q3⟩ | ⟨q1,q2,q3⟩ | ⟨q1,q2⟩
    ·rw [e2] at q3;exact .inl ⟨q1,by simp,q3⟩
    ·rw [e2] at q2;omega
    ·rw [e2] at q2;omega
  ·have hlo:=q.lo
   exact q.same (zBd s id _) rfl (zEs s _ (by omega))
 ·by_cases e2:j=id
  ·subst e2
   refine ⟨?_,?_,?_,?_,?_,?_,?_,?_,?_⟩
   all_goals rw [et]
   ·exact hx.len
   ·simp
   ·exact hx.rng
   ·exact hx.dec
   ·intro hs;simp at hs
   ·exact hx.sure
   ·intro hs;simp at hs
   ·exact hx.tm
   ·simp
  ·have hj2':j<=s.txs.length:=by have:j<=(setTx s id _).txs.length:=hj2;rw [zBd] at this;exact this
   exact (h.tx j hj1 hj2').same (zEs s _ (by omega)) rfl
theorem Safe.keys{s:zAa}(h:Safe s)(keys:Tab):Safe { s with keys:=keys }:=
 h.txs (s':={ s with keys:=keys }) rfl rfl h.tl (fun k c _ _ q=>q.same rfl rfl rfl) (fun id h1 h2=>(h.tx id h1 h2).same rfl rfl)
theorem zPf(s:zAa)(i:Int):(wound1 s i).txs.length=s.txs.length:=(zBj.wound1 s i).len
theorem Safe.wound1{s:zAa}(h:Safe s){i:Int}(h1:1<=i/\i<=(s.txs.length:Int)):Safe (wound1 s i):=by
 unfold Go.Proofs.YtmaiggbnceejiaaGreatDoor.wound1
 split
 ·rename_i e;exact h.abort (by omega) (by omega) e
 ·exact h
theorem Safe.wound:∀ (ids:List Int) {s:zAa},Safe s->(∀ i∈ids,1<=i/\i<=(s.txs.length:Int))->Safe (zBz s ids)
 | [],s,h,_=>h
 | i :: ids,s,h,hi=>by
  show Safe (zBz (Go.Proofs.YtmaiggbnceejiaaGreatDoor.wound1 s i) ids)
  exact Safe.wound ids (h.wound1 (hi i (by simp))) (fun j hj=>by rw [zPf];exact hi j (by simp [hj]))
structure Hurt(s s':zAa)(ids:Int->Prop):Prop where
 other:∀ j:Nat,1<=j->¬ ids j->s'.tx j=s.tx j
 same:zBj s s'
theorem Hurt.refl(s:zAa)(ids:Int->Prop):Hurt s s ids:=⟨fun _ _ _=>rfl,zBj.refl s⟩
theorem zIp(s:zAa){id j:Nat}(h:j - 1≠id - 1):(zBk s id).tx j=s.tx j:=by
 unfold zBk zDg
 split
 ·show (setTx (setTx s id _) id _).tx j=_
  rw [zEs _ _ h,zEs _ _ h]
 ·exact zEs _ _ h
theorem Hurt.wound:∀ (ids:List Int) (s:zAa),(∀ i∈ids,1<=i)->Hurt s (zBz s ids) (fun x=>x∈ids)
 | [],s,_=>Hurt.refl s _
 | i :: ids,s,hi=>by
  have ih:=Hurt.wound ids (Go.Proofs.YtmaiggbnceejiaaGreatDoor.wound1 s i) (fun j hj=>hi j (by simp [hj]))
  refine ⟨fun j hj hn=>?_,zBj.wound _ _⟩
  show (zBz (Go.Proofs.YtmaiggbnceejiaaGreatDoor.wound1 s i) ids).tx j=_
  rw [ih.other j hj (fun q=>hn (by simp [q]))]
  unfold Go.Proofs.YtmaiggbnceejiaaGreatDoor.wound1
  have:=hi i (by simp)
  split
  ·exact zIp s (fun e=>hn (by simp [show (j:Int)=i by omega]))
  ·rfl
theorem yJd{s:zAa}(h:2<=s.lines.length)(key:ByteArray):zBg s key<decH s:=Nat.mod_lt _ (by unfold decH;omega)
theorem setD(l:List Int)(k j:Nat)(x:Int):(l.set k x).getD j 0=if j=k/\j<l.length then x else l.getD j 0:=by
 rw [List.getD_eq_getElem?_getD,zDj]
 split
 ·rfl
 ·rw [List.getD_eq_getElem?_getD]
theorem Safe.came{s:zAa}(h:Safe s){id k:Nat}(h1:1<=id)(h2:id<=s.txs.length)(ho:(s.tx id).state=1)(hk:k<decH s):Safe (zIu s id k):=by
 have hx:=h.tx id h1 h2
 have et:(setTx s id { s.tx id with ats:=(s.tx id).ats.set k 1 }).tx id={ s.tx id with ats:=(s.tx id).ats.set k 1 }:=zFq s _ h1 h2
 have key:=h.setOpen (keys:=s.keys) (t:={ s.tx id with ats:=(s.tx id).ats.set k 1 }) h1 h2 ho
 refine key ?_
 show TxOK (setTx s id { s.tx id with ats:=(s.tx id).ats.set k 1 }) id
 refine ⟨?_,?_,?_,?_,?_,?_,?_,?_,?_⟩
 all_goals rw [et]
 ·show ((s.tx id).ats.set k 1).length=s.lines.length;rw [List.length_set];exact hx.len
 ·exact hx.st
 ·intro j;show 0<=((s.tx id).ats.set k 1).getD j 0/\_<=_;rw [setD]
  split
  ·omega
  ·exact hx.rng j
 ·show ((s.tx id).ats.set k 1).getD (decH s) 0=0;rw [setD,if_neg (by omega)];exact hx.dec
 ·intro _ j;show ((s.tx id).ats.set k 1).getD j 0≠2;rw [setD]
  split
  ·omega
  ·exact hx.op ho j
 ·intro j hj hj2
  have hj2':((s.tx id).ats.set k 1).getD j 0=2:=hj2
  rw [setD] at hj2'
  split at hj2'
  ·omega
  ·exact absurd hj2' (hx.op ho j)
 ·intro hs;have hs':(s.tx id).state=3:=hs;omega
 ·exact hx.tm
 ·exact hx.few
theorem Safe.write{s:zAa}(h:Safe s){id:Nat}{ws:List zBa}{st:Int}(h1:1<=id)(h2:id<=s.txs.length)(ho:(s.tx id).state=1)(hw:ws.length<=20/\∀ p∈ws,p.key.size<=20)(hs:st=1\/st=2):Safe (setTx s id { s.tx id with state:=st,writes:=ws }):=by
 have hx:=h.tx id h1 h2
 have et:(setTx s id { s.tx id with state:=st,writes:=ws }).tx id={ s.tx id with state:=st,writes:=ws }:=zFq s _ h1 h2
 refine h.setOpen (keys:=s.keys) (t:={ s.tx id with state:=st,writes:=ws }) h1 h2 ho ?_
 show TxOK (setTx s id { s.tx id with state:=st,writes:=ws }) id
 refine ⟨?_,?_,?_,?_,?_,?_,?_,?_,?_⟩
 all_goals rw [et]
 ·exact hx.len
 ·show 1<=st/\st<=4;omega
 ·exact hx.rng
 ·exact hx.dec
 ·intro _;exact hx.op ho
 ·intro j hj hj2;exact absurd hj2 (hx.op ho j)
 ·intro hs';have:st=3:=hs';omega
 ·exact hx.tm
 ·exact hw
theorem yLd(l:List zAl)(a:Int)(ho:l.Pairwise fun a b=>a.id<b.id)(hr:∀ n∈l,a<=n.id/\n.id<a+4):l.length<=4:=by
 match l,ho,hr with
 | [],_,_=>simp
 | [_],_,_=>simp
 | [_,_],_,_=>simp
 | [_,_,_],_,_=>simp
 | [_,_,_,_],_,_=>simp
 | x0 :: x1 :: x2 :: x3 :: x4 :: l,ho,hr=>
  simp only [List.pairwise_cons] at ho
  have a1:=ho.1 x1 (by simp)
  have a2:=ho.2.1 x2 (by simp)
  have a3:=ho.2.2.1 x3 (by simp)
  have a4:=ho.2.2.2.1 x4 (by simp)
  have b0:=hr x0 (by simp)
  have b4:=hr x4 (by simp)
  omega
theorem Safe.shape{s:zAa}(h:Safe s):zFb s:=by
 refine ⟨by have:=h.ll;omega,fun l hl=>?_,h.tl,fun t ht=>?_,fun t ht=>?_⟩
 ·obtain ⟨i,hi⟩:=List.getElem?_of_mem hl
  have hil:=(List.getElem?_eq_some_iff.1 hi).1
  have e:=zBh hil
  rw [hi] at e
  have e':=Option.some.inj e
  rw [e']
  have q:=h.line i hil
  have:=List.length_pos_iff.2 q.ne
  obtain ⟨E,h1,h2,_⟩:=q.ep
  refine ⟨by omega,?_⟩
  have hr:=q.rng
  have ho:=q.ord
  exact yLd ((s.line i).nodes) (10*(i:Int)) (ho.imp fun q=>q.1) hr
 ·obtain ⟨i,hi⟩:=List.getElem?_of_mem ht
  have hil:=(List.getElem?_eq_some_iff.1 hi).1
  have e:=zIg (s:=s) (id:=i+1) (by omega) (by omega)
  rw [Nat.add_sub_cancel,hi] at e
  rw [Option.some.inj e]
  exact (h.tx (i+1) (by omega) (by omega)).len
 ·obtain ⟨i,hi⟩:=List.getElem?_of_mem ht
  have hil:=(List.getElem?_eq_some_iff.1 hi).1
  have e:=zIg (s:=s) (id:=i+1) (by omega) (by omega)
  rw [Nat.add_sub_cancel,hi] at e
  rw [Option.some.inj e]
  exact (h.tx (i+1) (by omega) (by omega)).few.1
def yDk(s:zAa):List Int:=((List.range s.txs.length).map fun (i:Nat)=>(i:Int)+1).filter fun o=>decide ((s.tx o.toNat).state=2)
theorem zEv{s:zAa}{x:Int}:x∈yDk s↔1<=x/\x<=(s.txs.length:Int)/\(s.tx x.toNat).state=2:=by
 unfold yDk
 simp only [List.mem_filter,List.mem_map,List.mem_range,decide_eq_true_eq]
 constructor
 ·rintro ⟨⟨i,hi,rfl⟩,h⟩;exact ⟨by omega,by omega,h⟩
 ·rintro ⟨h1,h2,h3⟩;exact ⟨⟨(x - 1).toNat,by omega,by omega⟩,h3⟩
structure zDv(X:List Int)(s:zAa):Prop where
 apart:∀ k,zJh (X++yDk s) (s.keys k)
 hold:∀ k,∀ c∈(s.keys k).held,1<=c.tx/\c.tx<=(s.txs.length:Int)/\((s.tx c.tx.toNat).state=1\/(s.tx c.tx.toNat).state=2)
 wait:∀ k,∀ c∈(s.keys k).waits,1<=c.tx/\c.tx<=(s.txs.length:Int)/\(s.tx c.tx.toNat).state=1
 small:∀ k:ByteArray,20<k.size->(s.keys k).held=[]/\(s.keys k).waits=[]
abbrev Held(s:zAa):Prop:=zDv [] s
theorem zDv.ki{X:List Int}{s:zAa}(h:zDv X s):zGn s.txs.length s.keys:=fun k c hc=>by
 rcases hc with hc | hc
 ·exact ⟨(h.hold k c hc).1,(h.hold k c hc).2.1⟩
 ·exact ⟨(h.wait k c hc).1,(h.wait k c hc).2.1⟩
theorem yQa{s:Tab}{t:Int}{k:ByteArray}(h:zGz (s k)):(∀ c∈(relN s t k).held,c∈(s k).held\/c∈(s k).waits)/\∀ c∈(relN s t k).waits,c∈(s k).waits:=by
 unfold relN
 split
 ·unfold outN
  refine ⟨fun c hc=>?_,fun c hc=>?_⟩
  ·rcases (zHb _ _ _ c).1 hc with q | q
   ·exact .inl (zBq.1 q).1
   ·exact .inr (zBq.1 q).1
  ·rcases (zHb _ _ _ c).2.1 hc with q | q
   ·simp at q
   ·exact (zBq.1 q).1
 ·exact ⟨fun c hc=>.inl hc,fun c hc=>hc⟩
theorem zDv.leave{X Y:List Int}{s s':zAa}{i:Int}(h:zDv X s)(hk:s'.keys=relN s.keys i)(hl:s'.txs.length=s.txs.length)(hs:∀ j:Nat,1<=j->(j:Int)≠i->(s'.tx j).state=(s.tx j).state)(hY:∀ x∈X,x=i\/x∈Y):zDv Y s':=by
 have hgone:=fun k=>yEg (h.apart k).ok i
 have hsub:=fun k=>yQa (t:=i) (h.apart k).ok
 have hst:∀ x:Int,1<=x->x≠i->(s'.tx x.toNat).state=(s.tx x.toNat).state:=fun x h1 h2=>hs x.toNat (by omega) (by omega)
 refine ⟨fun k=>?_,fun k c hc=>?_,fun k c hc=>?_,fun k hsz=>?_⟩
 ·rw [hk]
  refine yLx (W:=Y++yDk s') (fun k=>(h.apart k).more fun x hx=>?_) k
  by_cases e:x=i
  ·simp [e]
  ·refine List.mem_cons_of_mem _ (List.mem_append.2 ?_)
   rcases List.mem_append.1 hx with q | q
   ·exact .inl ((hY x q).resolve_left e)
   ·obtain ⟨q1,q2,q3⟩:=zEv.1 q
    exact .inr (zEv.2 ⟨q1,by rw [hl];exact q2,by rw [hst x q1 e];exact q3⟩)
 ·rw [hk] at hc
  have hne:=(hgone k).1 c hc
  rw [hl]
  rcases (hsub k).1 c hc with q | q
  ·obtain ⟨q1,q2,q3⟩:=h.hold k c q
   exact ⟨q1,q2,by rw [hst _ q1 hne];exact q3⟩
  ·obtain ⟨q1,q2,q3⟩:=h.wait k c q
   exact ⟨q1,q2,.inl (by rw [hst _ q1 hne];exact q3)⟩
 ·rw [hk] at hc
  have hne:=(hgone k).2 c hc
  rw [hl]
  obtain ⟨q1,q2,q3⟩:=h.wait k c ((hsub k).2 c hc)
  exact ⟨q1,q2,by rw [hst _ q1 hne];exact q3⟩
 ·rw [hk]
  obtain ⟨z1,z2⟩:=h.small k hsz
  have hs:=hsub k
  rw [z1,z2] at hs
  exact ⟨List.eq_nil_iff_forall_not_mem.2 fun c hc=>by simpa using hs.1 c hc,List.eq_nil_iff_forall_not_mem.2 fun c hc=>by simpa using hs.2 c hc⟩
theorem zVy(s:zAa)(id:Nat):(zBk s id).keys=relN s.keys id:=by
 unfold zBk zDg;split <;> rfl
theorem zDv.abort{X Y:List Int}{s:zAa}(h:zDv X s)(id:Nat)(hid:1<=id)(hY:∀ x∈X,x=(id:Int)\/x∈Y):zDv Y (zBk s id):=
 h.leave (zVy s id) (zMq s id) (fun j hj hne=>by rw [zIp s (by omega)]) hY
theorem zDv.wound1{X:List Int}{s:zAa}(h:zDv X s){i:Int}(hi:1<=i):zDv X (wound1 s i):=by
 unfold Go.Proofs.YtmaiggbnceejiaaGreatDoor.wound1
 split
 ·exact h.abort i.toNat (by omega) (fun x hx=>.inr hx)
 ·exact h
theorem zDv.wounded{X:List Int}{s:zAa}{i:Int}(h:zDv (i :: X) s)(hi:1<=i)(hil:i<=(s.txs.length:Int)):zDv X (Go.Proofs.YtmaiggbnceejiaaGreatDoor.wound1 s i):=by
 unfold Go.Proofs.YtmaiggbnceejiaaGreatDoor.wound1
 split
 ·exact h.abort i.toNat (by omega) (fun x hx=>(List.mem_cons.1 hx).imp (fun e=>by omega) id)
 ·rename_i hne
  refine ⟨fun k=>?_,h.hold,h.wait,h.small⟩
  by_cases h2:(s.tx i.toNat).state=2
  ·refine (h.apart k).more fun x hx=>?_
   rcases List.mem_cons.1 hx with q | q
   ·rw [q];exact List.mem_append.2 (.inr (zEv.2 ⟨hi,hil,h2⟩))
   ·exact q
  ·refine zJh.less (t:=i) (h.apart k) (fun c hc e=>?_)
   have:=(h.hold k c hc).2.2
   rw [e] at this;omega
theorem zDv.wounds:∀ {ids X:List Int} {s:zAa},zDv X s->(∀ i∈ids,1<=i)->zDv X (zBz s ids)
 | [],_,_,h,_=>h
 | i :: ids,X,s,h,hi=>zDv.wounds (s:=Go.Proofs.YtmaiggbnceejiaaGreatDoor.wound1 s i) (h.wound1 (hi i (by simp))) (fun j hj=>hi j (by simp [hj]))
theorem zDv.woundAll:∀ {ids X:List Int} {s:zAa},zDv (ids++X) s->(∀ i∈ids,1<=i/\i<=(s.txs.length:Int))->zDv X (zBz s ids)
 | [],_,_,h,_=>h
 | i :: ids,X,s,h,hi=>zDv.woundAll (s:=Go.Proofs.YtmaiggbnceejiaaGreatDoor.wound1 s i) (zDv.wounded (i:=i) (X:=ids++X) h (hi i (by simp)).1 (hi i (by simp)).2) (fun j hj=>by rw [zPf];exact hi j (by simp [hj]))
theorem zDv.locked{X:List Int}{s:zAa}(h:zDv X s){id:Int}(h1:1<=id)(h2:id<=(s.txs.length:Int))(ho:(s.tx id.toNat).state=1)(key:ByteArray)(hks:key.size<=20){mode:Int}(hm:mode=1\/mode=2):zDv ((zAv s id key mode).2.1++X) (zAv s id key mode).1/\∀ x∈(zAv s id key mode).2.1,id<x:=by
 have ha:=yHy (c:=⟨id,mode⟩) (h.apart key) hm
 have hmem:∀ c,c∈(zCn (s.keys key) ⟨id,mode⟩).1.held->c∈(s.keys key).held\/c.tx=id:=fun c hc=>by
  unfold zCn at hc
  split at hc
  ·exact .inl hc
  split at hc
  ·exact .inl hc
  split at hc
  ·rcases (zBx (h.apart key).ok.held _ c).1 hc with q | q
   ·exact .inr (by rw [q])
   ·exact .inl q.1
  split at hc
  ·exact .inl hc
  ·exact .inl hc
 have hmew:∀ c,c∈(zCn (s.keys key) ⟨id,mode⟩).1.waits->c∈(s.keys key).waits\/c.tx=id:=fun c hc=>by
  unfold zCn at hc
  split at hc
  ·exact .inl hc
  split at hc
  ·exact .inl hc
  split at hc
  ·exact .inl hc
  split at hc
  ·exact .inl hc
  ·rcases (zBx (h.apart key).ok.waits _ c).1 hc with q | q
   ·exact .inr (by rw [q])
   ·exact .inl q.1
 refine ⟨⟨fun k=>?_,fun k c hc=>?_,fun k c hc=>?_,fun k hsz=>?_⟩,ha.2⟩
 ·show zJh _ (updK s.keys key _ k)
  by_cases e:k=key
  ·subst e
   rw [zEr]
   exact ha.1.more fun x hx=>by
    rw [List.append_assoc];exact hx
  ·rw [zFn e]
   exact (h.apart k).more fun x hx=>by
    rw [List.append_assoc];exact List.mem_append.2 (.inr hx)
 ·have hc':c∈(updK s.keys key (zCn (s.keys key) ⟨id,mode⟩).1 k).held:=hc
  by_cases e:k=key
  ·subst e
   rw [zEr] at hc'
   rcases hmem c hc' with q | q
   ·exact h.hold k c q
   ·rw [q];exact ⟨h1,h2,.inl ho⟩
  ·rw [zFn e] at hc'
   exact h.hold k c hc'
 ·have hc':c∈(updK s.keys key (zCn (s.keys key) ⟨id,mode⟩).1 k).waits:=hc
  by_cases e:k=key
  ·subst e
   rw [zEr] at hc'
   rcases hmew c hc' with q | q
   ·exact h.wait k c q
   ·rw [q];exact ⟨h1,h2,ho⟩
  ·rw [zFn e] at hc'
   exact h.wait k c hc'
 ·show (updK s.keys key _ k).held=[]/\(updK s.keys key _ k).waits=[]
  rw [zFn (fun e=>by rw [e] at hsz;omega)]
  exact h.small k hsz
theorem Safe.locked{s:zAa}(h:Safe s)(id:Int)(key:ByteArray)(mode:Int):Safe (zAv s id key mode).1:=h.keys _
end Go.Proofs.YtmaiggbnceejiaaGreatDoor
