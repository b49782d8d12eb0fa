import Derived.Test.YtmaiggbnceejiaaGreatDoorP27
set_option linter.unusedVariables false
set_option maxRecDepth 100000
set_option maxHeartbeats 16000000
namespace Go.Proofs.YtmaiggbnceejiaaGreatDoor
theorem zZj{s:zAa}{id o:Int}{key:ByteArray}(h:o∈zCt s id key):o≠id:=by
 unfold zCt at h
 simp only [List.mem_filter,Bool.and_eq_true,decide_eq_true_eq] at h
 exact h.2.1
structure Cut(s s':zAa):Prop where
 len:s'.txs.length=s.txs.length
 tx:∀ j:Nat,1<=j->s'.tx j=s.tx j\/((s.tx j).state=1/\(s'.tx j).state=4/\∀ k,(s'.tx j).ats.getD k 0=0)
theorem Cut.refl(s:zAa):Cut s s:=⟨rfl,fun _ _=>.inl rfl⟩
theorem Cut.trans{a b c:zAa}(h:Cut a b)(k:Cut b c):Cut a c:=by
 refine ⟨k.len.trans h.len,fun j hj=>?_⟩
 rcases h.tx j hj with q | q <;> rcases k.tx j hj with p | p
 ·exact .inl (p.trans q)
 ·rw [q] at p;exact .inr p
 ·rw [p];exact .inr q
 ·omega
theorem Cut.abort{s:zAa}{id:Nat}(h1:1<=id)(h2:id<=s.txs.length)(ho:(s.tx id).state=1):Cut s (zBk s id):=by
 refine ⟨zMq s id,fun j hj=>?_⟩
 by_cases e:j=id
 ·subst e
  right
  have e:(zBk s j).tx j={ s.tx j with state:=4,writes:=[],ats:=(s.tx j).ats.map fun _=>0 }:=by
   unfold zBk zDg
   rw [if_pos ho,zFq s _ h1 h2]
   show (setTx (setTx s j _) j _).tx j=_
   rw [zFq _ _ h1 (by rw [zBd];exact h2)]
  rw [e]
  exact ⟨ho,rfl,fun k=>zOs _ _⟩
 ·exact .inl (zIp s (by omega))
theorem Cut.wound1{s:zAa}{i:Int}(h:1<=i/\i<=(s.txs.length:Int)):Cut s (wound1 s i):=by
 unfold Go.Proofs.YtmaiggbnceejiaaGreatDoor.wound1
 split
 ·rename_i e;exact Cut.abort (by omega) (by omega) e
 ·exact Cut.refl s
theorem Cut.wound:∀ (ids:List Int) {s:zAa},(∀ i∈ids,1<=i/\i<=(s.txs.length:Int))->Cut s (zBz s ids)
 | [],s,_=>Cut.refl s
 | i :: ids,s,hi=>(Cut.wound1 (hi i (by simp))).trans (Cut.wound ids (s:=Go.Proofs.YtmaiggbnceejiaaGreatDoor.wound1 s i) (fun j hj=>by rw [zPf];exact hi j (by simp [hj])))
structure Lock2(s:zAa)(id:Nat)(a:zAa × List Int × Int):Prop where
 safe:Safe a.1
 held:zDv a.2.1 a.1
 wd:∀ x∈a.2.1,(id:Int)<x/\1<=x/\x<=(s.txs.length:Int)
 me:a.1.tx id=s.tx id
 same:zBj s a.1
 cut:Cut s a.1
theorem zVa{s:zAa}(hS:Safe s)(hH:Held s){id:Nat}(h1:1<=id)(h2:id<=s.txs.length)(ho:(s.tx id).state=1)(key:ByteArray)(hks:key.size<=20){mode:Int}(hm:mode=1\/mode=2):Lock2 s id (zBw s id key mode):=by
 have hi1:(1:Int)<=(id:Int):=by omega
 have hi2:(id:Int)<=(s.txs.length:Int):=by omega
 obtain ⟨l1,l2⟩:=hH.locked hi1 hi2 (by simpa using ho) key hks hm
 have lin:∀ x∈(zAv s id key mode).2.1,1<=x/\x<=(s.txs.length:Int):=fun x hx=>by
  obtain ⟨d,hd,rfl⟩:=zJa _ _ x hx
  exact hH.ki key d (.inl hd)
 unfold zBw
 simp only
 split
 ·have hoth:∀ i∈zCt (zAv s id key mode).1 id key,(1<=i/\i<=(s.txs.length:Int))/\i≠(id:Int):=fun i hi=>(have q:=zKe hi;⟨q,zZj hi⟩)
  obtain ⟨A,hA⟩:∃ A,A=(zAv s id key mode).1:=⟨_,rfl⟩
  obtain ⟨B,hB⟩:∃ B,B=zBz A (zCt A id key):=⟨_,rfl⟩
  rw [<-hA] at hoth ⊢
  rw [<-hB]
  have hAS:Safe A:=by rw [hA];exact hS.locked _ _ _
  have hw0:∀ k:KeyS,(zCn k ⟨(id:Int),mode⟩).2.2.2=4->(zCn k ⟨(id:Int),mode⟩).2.2.1=[]:=fun k e=>by
   revert e
   unfold zCn
   split
   ·simp
   split
   ·simp
   split
   ·simp
   split
   ·simp
   ·simp
  have hAH:Held A:=by
   have e:=hw0 (s.keys key) (by rename_i q;exact q.1)
   have e':(zAv s id key mode).2.1=[]:=e
   rw [e'] at l1
   rw [hA];exact l1
  have hAt:A.txs=s.txs:=by rw [hA];rfl
  have hAx:∀ j,A.tx j=s.tx j:=fun j=>by unfold zAa.tx;rw [hAt]
  have hBS:Safe B:=by rw [hB];exact Safe.wound _ hAS (fun i hi=>by rw [hAt];exact (hoth i hi).1)
  have hBH:Held B:=by rw [hB];exact hAH.wounds (fun i hi=>(hoth i hi).1.1)
  have hBu:=Hurt.wound (zCt A id key) A (fun i hi=>(hoth i hi).1.1)
  rw [<-hB] at hBu
  have hBm:B.tx id=s.tx id:=by rw [hBu.other id h1 (fun q=>(hoth _ q).2 rfl),hAx]
  have hBl:B.txs.length=s.txs.length:=by rw [hBu.same.len,hAt]
  obtain ⟨m1,m2⟩:=hBH.locked hi1 (by rw [hBl];exact hi2) (by rw [Int.toNat_natCast,hBm];exact ho) key hks hm
  refine ⟨hBS.locked _ _ _,by simpa using m1,fun x hx=>?_,hBm,?_,?_⟩
  ·obtain ⟨d,hd,e⟩:=zJa _ _ x hx
   have:=hBH.ki key d (.inl hd)
   rw [hBl] at this
   exact ⟨m2 x hx,by omega,by omega⟩
  ·have hs1:zBj s A:=⟨by rw [hA];rfl,by rw [hA];rfl,by rw [hA];rfl,by rw [hAt],fun j=>by rw [hAx]⟩
   have:=hs1.trans hBu.same
   exact ⟨this.l,this.d,this.net,this.len,this.at_⟩
  ·have hc:=Cut.wound (zCt A id key) (s:=A) (fun i hi=>by rw [hAt];exact (hoth i hi).1)
   rw [<-hB] at hc
   exact ⟨by show B.txs.length=_;rw [hc.len,hAt],fun j hj=>by
    have:=hc.tx j hj
    rw [hAx] at this
    exact this⟩
 ·exact ⟨hS.locked _ _ _,by simpa using l1,fun x hx=>⟨l2 x hx,lin x hx⟩,rfl,⟨rfl,rfl,rfl,rfl,fun _=>rfl⟩,⟨rfl,fun _ _=>.inl rfl⟩⟩
structure yMd(s:zAa)(id k:Nat)(r:zAa):Prop where
 safe:Safe r
 held:Held r
 st:(r.tx id).state=1
 wr:(r.tx id).writes=(s.tx id).writes
 ats:(r.tx id).ats=(s.tx id).ats\/(r.tx id).ats=(s.tx id).ats.set k 1
 tm:(r.tx id).time=(s.tx id).time
 same:zBj s r
 cut:∀ j:Nat,1<=j->j≠id->r.tx j=s.tx j\/((s.tx j).state=1/\(r.tx j).state=4/\∀ k,(r.tx j).ats.getD k 0=0)
theorem zDv.came{X:List Int}{s:zAa}(h:zDv X s){id k:Nat}(h1:1<=id)(h2:id<=s.txs.length):zDv X (zIu s id k):=by
 have e:∀ j:Nat,1<=j->((zIu s id k).tx j).state=(s.tx j).state:=fun j hj=>by
  show ((setTx s id _).tx j).state=_
  rw [zJn s id _ hj h1 h2]
  split
  ·rename_i q;rw [q]
  ·rfl
 have hl:(zIu s id k).txs.length=s.txs.length:=zBd _ _ _
 refine ⟨fun key=>(h.apart key).more fun x hx=>?_,fun key c hc=>?_,fun key c hc=>?_,h.small⟩
 ·rcases List.mem_append.1 hx with q | q
  ·exact List.mem_append.2 (.inl q)
  ·obtain ⟨q1,q2,q3⟩:=zEv.1 q
   exact List.mem_append.2 (.inr (zEv.2 ⟨q1,by rw [hl];exact q2,by rw [e _ (by omega)];exact q3⟩))
 ·obtain ⟨q1,q2,q3⟩:=h.hold key c hc
  exact ⟨q1,by rw [hl];exact q2,by rw [e _ (by omega)];exact q3⟩
 ·obtain ⟨q1,q2,q3⟩:=h.wait key c hc
  exact ⟨q1,by rw [hl];exact q2,by rw [e _ (by omega)];exact q3⟩
theorem zFh{s:zAa}(hS:Safe s)(hH:Held s){id:Nat}(h1:1<=id)(h2:id<=s.txs.length)(ho:(s.tx id).state=1)(key:ByteArray)(hks:key.size<=20){mode:Int}(hm:mode=1\/mode=2):yMd s id (zBg s key) (zBy s id key mode).1:=by
 have hL:=zVa hS hH h1 h2 ho key hks hm
 have hnil:(zBw s id key mode).2.2≠0->(zBw s id key mode).2.1=[]:=by
  have hw0:∀ k:KeyS,(zCn k ⟨(id:Int),mode⟩).2.2.2≠0->(zCn k ⟨(id:Int),mode⟩).2.2.1=[]:=fun k e=>by
   revert e
   unfold zCn
   split
   ·simp
   split
   ·simp
   split
   ·simp
   split
   ·simp
   ·simp
  unfold zBw
  simp only
  split
  ·exact hw0 _
  ·exact hw0 _
 unfold zBy
 simp only
 have stay:(zBw s id key mode).2.2≠0->yMd s id (zBg s key) (zBw s id key mode).1:=fun hne=>by
  have hh:=hL.held
  rw [hnil hne] at hh
  exact ⟨hL.safe,hh,by rw [hL.me];exact ho,by rw [hL.me],.inl (by rw [hL.me]),by rw [hL.me],hL.same,fun j hj _=>hL.cut.tx j hj⟩
 split
 ·rename_i e;exact stay (by rw [e];simp)
 split
 ·rename_i e;exact stay (by rw [e];simp)
 obtain ⟨A,hA⟩:∃ A,A=zBw s id key mode:=⟨_,rfl⟩
 rw [<-hA] at hL ⊢
 have hAl:A.1.lines=s.lines:=hL.same.l
 have hsk:zBg A.1 key=zBg s key:=by unfold zBg decH;rw [hAl]
 rw [hsk,Int.toNat_natCast]
 have hAn:A.1.txs.length=s.txs.length:=hL.same.len
 have hdec:decH A.1=decH s:=by unfold decH;rw [hAl]
 have hC:Safe (zIu A.1 id (zBg s key)):=hL.safe.came h1 (by rw [hAn];exact h2) (by rw [hL.me];exact ho) (by rw [hdec];exact yJd hS.ll.1 key)
 have hCH:=hL.held.came (k:=zBg s key) h1 (by rw [hAn];exact h2)
 have hCl:(zIu A.1 id (zBg s key)).txs.length=s.txs.length:=by show (setTx _ _ _).txs.length=_;rw [zBd,hAn]
 have hin:∀ i∈A.2.1,1<=i/\i<=((zIu A.1 id (zBg s key)).txs.length:Int):=fun i hi=>by rw [hCl];exact (hL.wd i hi).2
 have hCm:(zIu A.1 id (zBg s key)).tx id={ s.tx id with ats:=(s.tx id).ats.set (zBg s key) 1 }:=by
  show (setTx A.1 id _).tx id=_
  rw [zFq _ _ h1 (by rw [hAn];exact h2),hL.me]
 have hCo:∀ j:Nat,1<=j->j≠id->(zIu A.1 id (zBg s key)).tx j=A.1.tx j:=fun j hj hne=>zEs _ _ (by omega)
 have hu:=Hurt.wound A.2.1 (zIu A.1 id (zBg s key)) (fun i hi=>(hin i hi).1)
 have hme:=hu.other id h1 (fun q=>by have:=(hL.wd _ q).1;omega)
 rw [hCm] at hme
 have hsame:zBj s (zIu A.1 id (zBg s key)):=hL.same.trans (zBj.setTx A.1 id _ (by simp))
 have hcut:=Cut.wound A.2.1 hin
 refine ⟨Safe.wound _ hC hin,zDv.woundAll (ids:=A.2.1) (X:=[]) (by simpa using hCH) hin,by rw [hme];exact ho,by rw [hme],.inr (by rw [hme]),by rw [hme],hsame.trans hu.same,fun j hj hne=>?_⟩
 have c1:=hL.cut.tx j hj
 have c2:=hcut.tx j hj
 rw [hCo j hj hne] at c2
 rcases c1 with q | q <;> rcases c2 with p | p
 ·exact .inl (p.trans q)
 ·rw [q] at p;exact .inr p
 ·rw [p];exact .inr q
 ·omega
theorem zXg:∀ (N:Nat) (l:List Nat),l.Nodup->(∀ x∈l,x<N)->l.length<=N
 | 0,l,_,h=>by
  cases l with
  | nil=>simp
  | cons a l=>have:=h a (by simp);omega
 | N+1,l,hn,h=>by
  by_cases e:N∈l
  ·have h1:=List.length_erase_of_mem e
   have h2:=zXg N (l.erase N) (hn.erase N) (fun x hx=>by
    have:=(hn.mem_erase_iff).1 hx
    have:=h x this.2
    omega)
   have:=List.length_pos_of_mem e
   omega
  ·have:=zXg N l hn (fun x hx=>by
    have:=h x hx
    have:x≠N:=fun q=>e (by rw [<-q];exact hx)
    omega)
   omega
theorem zKs.few{s:zAa}{k:Nat}{log:List CmdD}(h:zKs s k log)(hT:s.txs.length<=60):log.length<=305:=by
 have hk:∀ c∈log,2<=c.kind/\c.kind<=4/\1<=c.tx/\c.tx<=60:=fun c hc=>by
  have q:=h.all c hc
  have h1:=q.lo
  have h2:=q.hi
  by_cases e:k=decH s
  ·have:=(q.dec e).1;omega
  ·have:=q.shard e;omega
 have hnd:(log.map fun c=>(c.kind*61+c.tx).toNat).Nodup:=by
  rw [List.Nodup,List.pairwise_map]
  refine (List.Pairwise.imp_of_mem ?_ h.one)
  intro a b ha hb hab e
  have:=hk a ha
  have:=hk b hb
  apply hab
  omega
 have:=zXg 305 _ hnd (fun x hx=>by
  obtain ⟨c,hc,rfl⟩:=List.mem_map.1 hx
  have:=hk c hc
  omega)
 simpa using this
theorem Safe.headN{s:zAa}(h:Safe s){k:Nat}(hk:k<s.lines.length):headN (zAq s k)=true:=by
 unfold Go.Proofs.YtmaiggbnceejiaaGreatDoor.headN
 rw [(h.line k hk).place (h.head hk)];rfl
theorem Safe.add{s:zAa}(h:Safe s){k:Nat}(hk:k<s.lines.length)(c:CmdD):addN (zAq s k) c=zGd (zAq s k) c:=by
 unfold addN
 rw [h.headN hk,if_pos]
 have:=(h.log k hk).few h.tl
 simp;omega
theorem Safe.grow{s:zAa}(h:Safe s){k:Nat}(hk:k<s.lines.length){c:CmdD}(hc:zTq s k c)(h1:∀ d∈(zAq s k).log,¬ (d.kind=c.kind/\d.tx=c.tx))(hp:k≠decH s->c.kind=3->∃ p∈(zAq s k).log,p.kind=2/\p.tx=c.tx):Safe (addH s k c):=by
 unfold addH
 rw [h.add hk]
 obtain ⟨g1,g2,g3⟩:=zJt (zAq s k) c
 have hlog:zKs s k ((zAq s k).log++[c]):=by
  have q:=h.log k hk
  refine ⟨fun d hd=>?_,List.pairwise_append.2 ⟨q.one,List.pairwise_singleton _ _,fun a ha b hb=>?_⟩,fun hd i d hi hd3=>?_⟩
  ·rcases List.mem_append.1 hd with e | e
   ·exact q.all d e
   ·simp at e;rw [e];exact hc
  ·simp at hb;subst hb;exact h1 a ha
  ·rw [List.getElem?_append] at hi
   split at hi
   ·obtain ⟨j,p,hj,hp,e1,e2⟩:=q.prep hd i d hi hd3
    exact ⟨j,p,hj,by rw [List.getElem?_append_left (by omega)];exact hp,e1,e2⟩
   ·rename_i hlt
    have hd':d=c:=by
     cases hx:i - (zAq s k).log.length with
     | zero=>rw [hx] at hi;simp at hi;exact hi.symm
     | succ x=>rw [hx] at hi;simp at hi
    subst hd'
    obtain ⟨p,hpm,e1,e2⟩:=hp hd hd3
    obtain ⟨j,hj⟩:=List.getElem?_of_mem hpm
    have:=(List.getElem?_eq_some_iff.1 hj).1
    exact ⟨j,p,by omega,by rw [List.getElem?_append_left this];exact hj,e1,e2⟩
 have hS:Safe (zCa s k 0 (zGd (zAq s k) c).1):=by
  refine h.node hk (h.head hk) g1 (by rw [g2];exact List.prefix_append _ _) ?_ (fun i p hi _=>by omega) (fun _=>by rw [g2];exact hlog)
  rw [g2]
  have:=hlog.few h.tl
  omega
 refine hS.send fun m hm=>?_
 have hk':k<(zCa s k 0 (zGd (zAq s k) c).1).lines.length:=by rw [zIi];exact hk
 refine hS.sent hk' (n:=(zGd (zAq s k) c).1) ?_ (g3 m hm)
 have e:=hS.head_mem hk'
 rw [zKa hk (h.line k hk).ne,if_pos ⟨rfl,rfl⟩] at e
 exact e
structure zGl(s s':zAa):Prop where
 ll:s'.lines.length=s.lines.length
 dead:s'.dead=s.dead
 tl:s'.txs.length=s.txs.length
 len:∀ k,(s'.line k).nodes.length=(s.line k).nodes.length
 node:∀ k (j:Nat) n,(s.line k).nodes[j]?=some n->∃ n',(s'.line k).nodes[j]?=some n'/\zKq n n'/\n.log <+: n'.log/\(zAs s n=false->n'.log=n.log)
 heard:∀ k,(s.line k).heard<=(s'.line k).heard
theorem zKq.refl(n:zAl):zKq n n:=⟨rfl,rfl,rfl⟩
theorem zKq.trans{a b c:zAl}(h:zKq a b)(k:zKq b c):zKq a c:=⟨k.id.trans h.id,k.ep.trans h.ep,k.cf.trans h.cf⟩
theorem zGl.refl(s:zAa):zGl s s:=⟨rfl,rfl,rfl,fun _=>rfl,fun k j n h=>⟨n,h,zKq.refl n,List.prefix_refl _,fun _=>rfl⟩,fun _=>Nat.le_refl _⟩
theorem zGl.trans{a b c:zAa}(h:zGl a b)(q:zGl b c):zGl a c:=by
 refine ⟨q.ll.trans h.ll,q.dead.trans h.dead,q.tl.trans h.tl,fun k=>(q.len k).trans (h.len k),fun k j n hn=>?_,fun k=>Nat.le_trans (h.heard k) (q.heard k)⟩
 obtain ⟨n1,e1,e2,e3,e7⟩:=h.node k j n hn
 obtain ⟨n2,e4,e5,e6,e8⟩:=q.node k j n1 e1
 refine ⟨n2,e4,e2.trans e5,e3.trans e6,fun hd=>?_⟩
 rw [e8 (by unfold zAs at hd ⊢;rw [h.dead,e2.id];exact hd),e7 hd]
theorem zGl.node1{s:zAa}{k j:Nat}(hk:k<s.lines.length){n n':zAl}(hj:(s.line k).nodes[j]?=some n)(hg:zKq n n')(hl:n.log <+: n'.log)(hd:zAs s n=false->n'.log=n.log):zGl s (zCa s k j n'):=by
 have hln:=fun i=>zDx s hk j n' i
 refine ⟨zIi _ _ _ _,rfl,rfl,fun i=>?_,fun i x m hm=>?_,fun i=>?_⟩
 ·rw [hln];split
  ·rename_i e;rw [e];simp
  ·rfl
 ·rw [hln]
  by_cases e:i=k
  ·subst e
   rw [if_pos rfl]
   show ∃ q,((s.line i).nodes.set j n')[x]?=some q/\_
   rw [zDj]
   by_cases e2:x=j
   ·subst e2
    rw [hj] at hm;cases hm
    exact ⟨n',by rw [if_pos ⟨rfl,(List.getElem?_eq_some_iff.1 hj).1⟩],hg,hl,hd⟩
   ·exact ⟨m,by rw [if_neg (fun q=>e2 q.1)];exact hm,zKq.refl _,List.prefix_refl _,fun _=>rfl⟩
  ·rw [if_neg e];exact ⟨m,hm,zKq.refl _,List.prefix_refl _,fun _=>rfl⟩
 ·rw [hln];split
  ·rename_i e;rw [e];exact Nat.le_refl _
  ·exact Nat.le_refl _
theorem zGl.net{s s':zAa}(h:zGl s s')(net:NetS):zGl s { s' with net:=net }:=⟨h.ll,h.dead,h.tl,h.len,h.node,h.heard⟩
structure zCh(s s':zAa):Prop where
 mv:zGl s s'
 txs:s'.txs=s.txs
 keys:s'.keys=s.keys
 down:s'.net.down=s.net.down
 heard:∀ k,(s'.line k).heard=(s.line k).heard
 few:s.net.way.length<=200->s'.net.way.length<=200
theorem zYw{s:NetS}(h:s.way.length<=200)(m:MsgD):(zFe s m).way.length<=200:=by
 unfold zFe
 split
 ·exact h
 ·rename_i e
  simp only [Bool.or_eq_true,decide_eq_true_eq,not_or] at e
  simp;omega
theorem zOb:∀ (ms:List MsgD) {s:NetS},s.way.length<=200->(zEz s ms).way.length<=200
 | [],_,h=>h
 | m :: ms,s,h=>zOb ms (zYw h m)
theorem zCh.refl(s:zAa):zCh s s:=⟨zGl.refl s,rfl,rfl,rfl,fun _=>rfl,id⟩
theorem zCh.trans{a b c:zAa}(h:zCh a b)(q:zCh b c):zCh a c:=⟨h.mv.trans q.mv,q.txs.trans h.txs,q.keys.trans h.keys,q.down.trans h.down,fun k=>(q.heard k).trans (h.heard k),fun e=>q.few (h.few e)⟩
theorem zMd:∀ (ms:List MsgD) (s:NetS),(zEz s ms).down=s.down
 | [],s=>rfl
 | m :: ms,s=>by show (zEz (zFe s m) ms).down=_;rw [zMd,zUr]
theorem zCh.node1{s:zAa}{k j:Nat}(hk:k<s.lines.length){n n':zAl}(hj:(s.line k).nodes[j]?=some n)(hg:zKq n n')(hl:n.log <+: n'.log)(hd:zAs s n=false->n'.log=n.log)(ms:List MsgD):zCh s (zMt (zCa s k j n') ms):=by
 refine ⟨(zGl.node1 hk hj hg hl hd).net _,rfl,rfl,zMd _ _,fun i=>?_,fun e=>zOb ms e⟩
 show ((zCa s k j n').line i).heard=_
 rw [zDx s hk]
 split
 ·rename_i e;rw [e]
 ·rfl
theorem zCh.add{s:zAa}(h:Safe s){k:Nat}(hk:k<s.lines.length)(hv:zAs s (zAq s k)=true)(c:CmdD):zCh s (addH s k c)/\(∀ i,zAq (addH s k c) i=if i=k then (zGd (zAq s k) c).1 else zAq s i):=by
 unfold addH
 rw [h.add hk]
 obtain ⟨g1,g2,g3⟩:=zJt (zAq s k) c
 refine ⟨zCh.node1 hk (h.head hk) g1 (by rw [g2];exact List.prefix_append _ _) (fun q=>by rw [hv] at q;cases q) _,fun i=>?_⟩
 show zAq (zCa s k 0 _) i=_
 rw [zKa hk (h.line k hk).ne]
 by_cases e:i=k
 ·rw [if_pos ⟨e,rfl⟩,if_pos e]
 ·rw [if_neg (fun q=>e q.1),if_neg e]
theorem zPl{log:List CmdD}{kind tx:Int}:zDn log kind tx=none↔∀ d∈log,¬ (d.kind=kind/\d.tx=tx):=by
 unfold zDn
 rw [List.findIdx?_eq_none_iff]
 simp only [Bool.and_eq_false_iff,decide_eq_false_iff_not]
 constructor
 ·intro h d hd q;exact (h d hd).elim (fun e=>e q.1) (fun e=>e q.2)
 ·intro h d hd
  by_cases e:d.kind=kind
  ·exact .inr fun e2=>h d hd ⟨e,e2⟩
  ·exact .inl e
theorem zRd{l l':List CmdD}{kind:Int}{id:Nat}(h:hasC l kind id)(hp:∀ c∈l,c∈l'):hasC l' kind id:=by
 obtain ⟨c,hc,q⟩:=h;exact ⟨c,hp c hc,q⟩
theorem zSo{s:zAa}(k:Nat):∀ c∈zFi s k,c∈(zAq s k).log:=fun c hc=>List.mem_of_mem_take hc
theorem due_ok{s:zAa}(h:Safe s){id k:Nat}(h1:1<=id)(h2:id<=s.txs.length)(hk:k<s.lines.length){time:Int}(ht:1<=time/\time<=501){c:CmdD}(hd:dueH s id k time=some c) :
  zTq s k c/\c.tx=id/\(k≠decH s->c.kind=3->∃ p∈(zAq s k).log,p.kind=2/\p.tx=c.tx):=by
 have hx:=h.tx id h1 h2
 have hi1:(1:Int)<=(id:Int):=by omega
 have hi2:(id:Int)<=(s.txs.length:Int):=by omega
 unfold dueH at hd
 simp only at hd
 split at hd
 ·rename_i e
  split at hd
  ·rename_i q
   cases hd
   exact ⟨⟨hi1,hi2,fun _=>⟨rfl,ht,.inl (by simpa using q.1),by simpa using q.2⟩,fun q=>absurd e q⟩,rfl,fun q=>absurd e q⟩
  ·cases hd
 ·rename_i e
  split at hd
  ·cases hd
  ·rename_i ha
   split at hd
   ·rename_i q
    cases hd
    exact ⟨⟨hi1,hi2,fun q=>absurd q e,fun _=>.inl ⟨rfl,by rw [Int.toNat_natCast,q];simp,by simpa using ha⟩⟩,rfl,fun _ q=>by simp at q⟩
   ·split at hd
    ·rename_i q
     cases hd
     obtain ⟨c1,c2,c3⟩:=hx.com q
     have hdk:k<decH s:=by unfold decH at e ⊢;omega
     have hs2:(s.tx id).ats.getD k 0=2:=by
      have:=hx.rng k
      have:=zLg.1 c1 k
      omega
     refine ⟨⟨hi1,hi2,fun q=>absurd q e,fun _=>.inr (.inl ⟨rfl,by simpa using q,c2⟩)⟩,rfl,fun _ _=>?_⟩
     obtain ⟨p,hp,e1,e2⟩:=hx.sure k hdk hs2
     exact ⟨p,zSo k p hp,e1,e2⟩
    ·split at hd
     ·rename_i q
      cases hd
      exact ⟨⟨hi1,hi2,fun q=>absurd q e,fun _=>.inr (.inr ⟨rfl,by simpa using q⟩)⟩,rfl,fun _ q=>by simp at q⟩
     ·cases hd
structure yDs(s S:zAa)(k j:Nat):Prop where
 safe:Safe S
 tells:zCh s S
 more:∃ X,(zAq S k).log=(zAq s k).log++X/\∀ c∈X,c.tx<=(j:Int)
 told:∀ id,1<=id->id<=j->∀ time c,dueH s id k time=some c->hasC (zAq S k).log c.kind id
 other:∀ i,i≠k->zAq S i=zAq s i
 live:zAs S (zAq S k)=true
theorem yFb{s:zAa}{id k:Nat}{time:Int}{c:CmdD}(h:dueH s id k time=some c)(t':Int):∃ c',dueH s id k t'=some c'/\c'.kind=c.kind/\c'.tx=c.tx:=by
 unfold dueH at h ⊢
 simp only at h ⊢
 split at h
 ·rename_i e
  rw [if_pos e]
  split at h
  ·rename_i q;rw [if_pos q];cases h;exact ⟨_,rfl,rfl,rfl⟩
  ·cases h
 ·rename_i e
  rw [if_neg e]
  exact ⟨c,h,rfl,rfl⟩
theorem yLg{s S:zAa}(ht:S.txs=s.txs)(hl:S.lines.length=s.lines.length)(id k:Nat)(time:Int):dueH S id k time=dueH s id k time:=by
 have e1:S.tx id=s.tx id:=by unfold zAa.tx;rw [ht]
 have e2:decH S=decH s:=by unfold decH;rw [hl]
 have e3:∀ t,zDq S t k=zDq s t k:=fun t=>by unfold zDq zBg;rw [e2]
 unfold dueH
 simp only [e1,e2,e3]
theorem yDs.step{s S:zAa}{k j:Nat}(hk:k<s.lines.length)(hj:j<s.txs.length)(h:yDs s S k j):yDs s (zJm S k (zAq s k).log (j+1)) k (j+1):=by
 have hkS:k<S.lines.length:=by rw [h.tells.mv.ll];exact hk
 have hlen:=(h.safe.log k hkS).few h.safe.tl
 have hdue:=yLg h.tells.txs h.tells.mv.ll (j+1) k
 obtain ⟨X,hX,hXt⟩:=h.more
 have skip:(∀ time c,dueH s (j+1) k time=some c->hasC (zAq S k).log c.kind (j+1))->yDs s S k (j+1):=fun hh=>
  ⟨h.safe,h.tells,⟨X,hX,fun c hc=>by have:=hXt c hc;omega⟩,fun id i1 i2 time c hc=>by
   by_cases e:id=j+1
   ·subst e;exact hh time c hc
   ·exact h.told id i1 (by omega) time c hc,h.other,h.live⟩
 unfold zJm
 cases hd:dueH S (j+1) k ((zAq S k).log.length+1) with
 | none=>
  refine skip fun time c hc=>?_
  obtain ⟨c',hc',_⟩:=yFb hc ((zAq S k).log.length+1)
  rw [hdue] at hd
  rw [hd] at hc';cases hc'
 | some c=>
  show yDs s (if (zDn (zAq s k).log c.kind ((j+1:Nat):Int)).isNone then addH S k c else S) k (j+1)
  obtain ⟨o1,o2,o3⟩:=due_ok h.safe (by omega) (by rw [h.tells.mv.tl];omega) hkS (by omega) hd
  have hkd:∀ time c',dueH s (j+1) k time=some c'->c'.kind=c.kind:=fun time c' hc'=>by
   obtain ⟨c2,q1,q2,_⟩:=yFb hc' ((zAq S k).log.length+1)
   rw [hdue] at hd
   rw [hd] at q1;cases q1
   exact q2.symm
  cases hp:zDn (zAq s k).log c.kind ((j+1:Nat):Int) with
  | some i=>
   simp only [Option.isNone_some,Bool.false_eq_true,if_false]
   refine skip fun time c' hc'=>?_
   rw [hkd time c' hc']
   have:¬ ∀ d∈(zAq s k).log,¬ (d.kind=c.kind/\d.tx=((j+1:Nat):Int)):=fun q=>by rw [zPl.2 q] at hp;cases hp
   apply Classical.byContradiction
   intro hn
   apply this
   intro d hd' q
   exact hn ⟨d,by rw [hX];exact List.mem_append_left _ hd',q⟩
  | none=>
   simp only [Option.isNone_none,if_true]
   have hno:=zPl.1 hp
   have hg:=h.safe.grow hkS o1 (fun d hd' q=>by
    rw [hX] at hd'
    rcases List.mem_append.1 hd' with e | e
    ·exact hno d e ⟨q.1,by rw [q.2,o2]⟩
    ·have:=hXt d e
     rw [q.2,o2] at this;omega) o3
   obtain ⟨t1,t2⟩:=zCh.add h.safe hkS h.live c
   have hg2:=(zJt (zAq S k) c).2.1
   refine ⟨hg,h.tells.trans t1,⟨X++[c],?_,fun d hd'=>?_⟩,fun id i1 i2 time c' hc'=>?_,fun i hi=>?_,?_⟩
   ·rw [t2 k,if_pos rfl,hg2,hX,List.append_assoc]
   ·rcases List.mem_append.1 hd' with e | e
    ·have:=hXt d e;omega
    ·simp at e;rw [e,o2];omega
   ·rw [t2 k,if_pos rfl,hg2]
    by_cases e:id=j+1
    ·subst e
     exact ⟨c,by simp,(hkd time c' hc').symm,o2⟩
    ·exact zRd (h.told id i1 (by omega) time c' hc') (fun d hd'=>List.mem_append_left _ hd')
   ·rw [t2 i,if_neg hi];exact h.other i hi
   ·rw [t2 k,if_pos rfl]
    have hv:=h.live
    unfold zAs at hv ⊢
    rw [t1.mv.dead,(zJt (zAq S k) c).1.id];exact hv
theorem zSq{s:zAa}(h:Safe s){k:Nat}(hk:k<s.lines.length){n:zAl}(e:zOq s k=some n):n=zAq s k/\zAs s n=true:=by
 have hh:=h.head hk
 unfold zOq at e
 cases hn:(s.line k).nodes with
 | nil=>rw [hn] at e;cases e
 | cons a l=>
  rw [hn] at e hh
  simp only at e
  split at e
  ·rename_i q;cases e;simp at hh;exact ⟨hh,q⟩
  ·cases e
theorem yAj{s:zAa}(h:Safe s){k:Nat}(hk:k<s.lines.length)(e:zOq s k=none):zAs s (zAq s k)=false:=by
 have hh:=h.head hk
 unfold zOq at e
 cases hn:(s.line k).nodes with
 | nil=>exact absurd hn (h.line k hk).ne
 | cons a l=>
  rw [hn] at e hh
  simp only at e
  simp at hh
  subst hh
  split at e
  ·cases e
  ·rename_i q;simpa using q
def Told(s:zAa)(k:Nat):Prop:=∀ id,1<=id->id<=s.txs.length->∀ time c,dueH s id k time=some c->hasC (zAq s k).log c.kind id
theorem zRl{s:zAa}(h:Safe s){k:Nat}(hk:k<s.lines.length):Safe (zDc s k)/\zCh s (zDc s k)/\(zAs s (zAq s k)=true->Told (zDc s k) k)/\(∀ i,i≠k->zAq (zDc s k) i=zAq s i):=by
 unfold zDc
 cases hh:zOq s k with
 | none=>exact ⟨h,zCh.refl s,fun (q:zAs s (zAq s k)=true)=>absurd q (by rw [yAj h hk hh];simp),fun _ _=>rfl⟩
 | some n=>
  obtain ⟨rfl,hl⟩:=zSq h hk hh
  simp only
  have key:∀ m,m<=s.txs.length->yDs s (((List.range m).map (·+1)).foldl (fun h id=>zJm h k (zAq s k).log id) s) k m:=by
   intro m
   induction m with
   | zero=>exact fun _=>⟨h,zCh.refl s,⟨[],by simp,by simp⟩,fun id i1 i2=>by omega,fun _ _=>rfl,hl⟩
   | succ m ih=>
    intro hm
    rw [List.range_succ,List.map_append,List.foldl_append]
    exact (ih (by omega)).step hk (by omega)
  have q:=key s.txs.length (Nat.le_refl _)
  refine ⟨q.safe,q.tells,fun _ id i1 i2 time c hc=>?_,q.other⟩
  rw [yLg q.tells.txs q.tells.mv.ll] at hc
  exact q.told id i1 (by rw [q.tells.mv.tl] at i2;exact i2) time c hc
theorem zDh{s:zAa}(h:Safe s):Safe (zDy s)/\zCh s (zDy s)/\∀ k,k<s.lines.length->zAs s (zAq s k)=true->Told (zDy s) k:=by
 have key:∀ m,m<=s.lines.length->Safe ((List.range m).foldl zDc s)/\zCh s ((List.range m).foldl zDc s)/\(∀ k,k<m->zAs s (zAq s k)=true->Told ((List.range m).foldl zDc s) k)/\(∀ k,m<=k->zAq ((List.range m).foldl zDc s) k=zAq s k):=by
  intro m
  induction m with
  | zero=>exact fun _=>⟨h,zCh.refl s,fun k hk=>by omega,fun _ _=>rfl⟩
  | succ m ih=>
   intro hm
   rw [List.range_succ,List.foldl_append]
   obtain ⟨a,b,c,d⟩:=ih (by omega)
   generalize (List.range m).foldl zDc s=S at a b c d
   have hmS:m<S.lines.length:=by rw [b.mv.ll];omega
   obtain ⟨a',b',c',d'⟩:=zRl a hmS
   refine ⟨a',b.trans b',fun k hk hl=>?_,fun k hk=>?_⟩
   ·by_cases e:k=m
    ·subst e
     refine c' ?_
     rw [d k (Nat.le_refl _)]
     unfold zAs at hl ⊢
     rw [b.mv.dead];exact hl
    ·intro id i1 i2 time c2 hc2
     have hc3:dueH S id k time=some c2:=(yLg b'.txs b'.mv.ll id k time).symm.trans hc2
     show hasC (zAq (zDc S m) k).log c2.kind id
     rw [d' k e]
     exact c k (by omega) hl id i1 (by have:=b'.mv.tl;show id<=S.txs.length;rw [<-this];exact i2) time c2 hc3
   ·show zAq (zDc S m) k=_
    rw [d' k (by omega)];exact d k (by omega)
 obtain ⟨a,b,c,_⟩:=key s.lines.length (Nat.le_refl _)
 exact ⟨a,b,c⟩
def bump(s:zAa)(k:Nat):zAa:=zDz s k ⟨(s.line k).nodes,(s.line k).heard+1⟩
theorem zLw(s:zAa){k:Nat}(hk:k<s.lines.length)(i:Nat):(bump s k).line i=if i=k then ⟨(s.line k).nodes,(s.line k).heard+1⟩ else s.line i:=zOn s k _ i hk
theorem zJc(s:zAa)(k:Nat):(bump s k).lines.length=s.lines.length:=by simp [bump,zDz]
theorem zQe(s:zAa){k:Nat}(hk:k<s.lines.length)(i:Nat):zAq (bump s k) i=zAq s i:=by
 unfold zAq;rw [zLw s hk];split
 ·rename_i e;rw [e]
 ·rfl
theorem Safe.bump{s:zAa}(h:Safe s){k:Nat}(hk:k<s.lines.length)(hl:∀ n∈(s.line k).nodes,(s.line k).heard<n.log.length):Safe (bump s k):=by
 have hd:decH (Go.Proofs.YtmaiggbnceejiaaGreatDoor.bump s k)=decH s:=by unfold decH;rw [zJc]
 have hln:=fun i=>zLw s hk i
 have hn:∀ i,((Go.Proofs.YtmaiggbnceejiaaGreatDoor.bump s k).line i).nodes=(s.line i).nodes:=fun i=>by
  rw [hln];split
  ·rename_i e;rw [e]
  ·rfl
 have hh:∀ i,∀ c∈zFi s i,c∈zFi (Go.Proofs.YtmaiggbnceejiaaGreatDoor.bump s k) i:=fun i c hc=>by
  unfold zFi at hc ⊢
  rw [zQe s hk,hln]
  split
  ·rename_i e
   rw [e] at hc ⊢
   exact List.mem_of_mem_take (i:=(s.line k).heard) (by rw [List.take_take,Nat.min_eq_left (by simp)];exact hc)
  ·exact hc
 refine ⟨by rw [zJc];exact h.ll,h.tl,fun i hi=>?_,fun i hi=>?_,fun m hm h3 i hi x hx e=>?_,fun id i1 i2=>?_⟩
 ·rw [zJc] at hi
  rw [hln]
  split
  ·rename_i e;subst e
   have q:=h.line i hi
   exact ⟨q.ne,q.ord,q.rng,q.cfg,q.ep,fun n hn=>hl n hn,q.few⟩
  ·exact h.line i hi
 ·rw [zJc] at hi
  rw [zQe s hk];exact (h.log i hi).of rfl hd
 ·rw [zJc] at hi
  rw [hn] at hx
  exact h.msg m hm h3 i hi x hx e
 ·have q:=h.tx id i1 i2
  exact ⟨by rw [zJc];exact q.len,q.st,q.rng,by rw [hd];exact q.dec,q.op,fun j hj ha=>zRd (q.sure j (by rw [hd] at hj;exact hj) ha) (hh j),fun hs=>by
   rw [hd]
   obtain ⟨a,b,c⟩:=q.com hs
   exact ⟨a,b,zRd c (hh _)⟩,q.tm,q.few⟩
theorem zDv.lines{X:List Int}{s s':zAa}(h:zDv X s)(hk:s'.keys=s.keys)(ht:s'.txs=s.txs):zDv X s':=by
 have e:∀ j,s'.tx j=s.tx j:=fun j=>by unfold zAa.tx;rw [ht]
 have e2:yDk s'=yDk s:=by unfold yDk;rw [ht];simp only [e]
 exact ⟨fun k=>by rw [e2,hk];exact h.apart k,fun k c hc=>by rw [hk] at hc;rw [ht,e];exact h.hold k c hc,fun k c hc=>by rw [hk] at hc;rw [ht,e];exact h.wait k c hc,by rw [hk];exact h.small⟩
theorem yKr(s:zAa){k:Nat}(hk:k<s.lines.length)(c:CmdD):zCz k s c=zCb (bump s k) k c:=by
 have hd:decH (bump s k)=decH s:=by unfold decH;rw [zJc]
 have hf:(zCb s k c).line k=s.line k:=by unfold zAa.line;rw [(zBj.follow s k c).l]
 unfold zCz
 rw [hf]
 unfold zCb
 rw [hd]
 split
 ·rfl
 ·split
  ·rfl
  ·rfl
structure zFm(s s':zAa):Prop where
 len:s.txs.length<=s'.txs.length
 fin:∀ j,1<=j->j<=s.txs.length->3<=(s.tx j).state->(s'.tx j).state=(s.tx j).state
theorem zFm.refl(s:zAa):zFm s s:=⟨Nat.le_refl _,fun _ _ _ _=>rfl⟩
theorem zFm.trans{a b c:zAa}(h:zFm a b)(k:zFm b c):zFm a c:=⟨Nat.le_trans h.len k.len,fun j h1 h2 h3=>by
 have e:=h.fin j h1 h2 h3
 rw [k.fin j h1 (Nat.le_trans h2 h.len) (by rw [e];exact h3),e]⟩
theorem zFm.of{s s':zAa}(h:s'.txs=s.txs):zFm s s':=⟨by rw [h];exact Nat.le_refl _,fun j _ _ _=>by unfold zAa.tx;rw [h]⟩
structure yQz(s s':zAa):Prop where
 safe:Safe s'
 held:Held s'
 same:zBj s s'
 fin:zFm s s'
theorem yDf{s:zAa}(h:Safe s)(hH:Held s){k:Nat}(hk:k<s.lines.length){c:CmdD}(hc:c∈zFi s k):yQz s (zCb s k c):=by
 have hcm:=zSo k c hc
 have q:=(h.log k hk).all c hcm
 have hlo:=q.lo
 have hhi:=q.hi
 obtain ⟨id,hid⟩:∃ id:Nat,c.tx=id:=⟨c.tx.toNat,by omega⟩
 have h1:1<=id:=by omega
 have h2:id<=s.txs.length:=by omega
 have hx:=h.tx id h1 h2
 have hsame:=zBj.follow s k c
 unfold zCb at hsame ⊢
 rw [hid,Int.toNat_natCast] at hsame ⊢
 split
 ·rename_i e
  rw [if_pos e] at hsame
  obtain ⟨d1,d2,d3,d4⟩:=q.dec e
  rw [hid,Int.toNat_natCast] at d3 d4
  have e1:zDg (setTx s id { s.tx id with time:=c.time }) id 3={ setTx s id { s.tx id with state:=3,writes:=[],time:=c.time } with keys:=relN s.keys id }:=by
   unfold zDg
   rw [zFq s _ h1 h2]
   simp only [setTx,List.set_set]
  have et:(zDg (setTx s id { s.tx id with time:=c.time }) id 3).tx id={ s.tx id with state:=3,writes:=[],time:=c.time }:=by
   rw [e1];exact zFq s _ h1 h2
  have eo:∀ j,j - 1≠id - 1->(zDg (setTx s id { s.tx id with time:=c.time }) id 3).tx j=s.tx j:=fun j hj=>by
   rw [e1];exact zEs s _ hj
  have el:(zDg (setTx s id { s.tx id with time:=c.time }) id 3).txs.length=s.txs.length:=hsame.len
  refine ⟨?_,?_,hsame,⟨by rw [el];exact Nat.le_refl _,fun j j1 j2 j3=>?_⟩⟩
  ·refine h.txs rfl rfl (by rw [el];exact h.tl) (fun k' c' hk' hc' q'=>?_) (fun j j1 j2=>?_)
   ·by_cases e2:c'.tx.toNat=id
    ·refine ⟨q'.lo,by rw [el];exact q'.hi,fun hd=>?_,fun hd=>?_⟩
     ·obtain ⟨p1,p2,p3,p4⟩:=q'.dec hd
      rw [e2,et]
      rw [e2] at p4
      exact ⟨p1,p2,.inr rfl,p4⟩
     ·rw [e2,et]
      have p:=q'.shard hd
      rw [e2] at p
      rcases p with ⟨p1,p2,p3⟩ | ⟨p1,p2,p3⟩ | ⟨p1,p2⟩
      ·exact .inl ⟨p1,by simp,p3⟩
      ·exact .inr (.inl ⟨p1,rfl,p3⟩)
      ·omega
    ·have:=q'.lo
     exact q'.same el rfl (eo _ (by omega))
   ·by_cases e2:j=id
    ·subst e2
     refine ⟨?_,?_,?_,?_,?_,?_,?_,?_,?_⟩
     all_goals rw [et]
     ·exact hx.len
     ·simp
     ·exact hx.rng
     ·exact hx.dec
     ·intro hs;simp at hs
     ·exact hx.sure
     ·intro _
      refine ⟨d4,d2.1,c,?_,d1,hid⟩
      rw [e] at hc
      exact hc
     ·exact ⟨by have:=d2.1;show 0<=c.time;omega,d2.2⟩
     ·simp
    ·exact (h.tx j j1 (by rw [el] at j2;exact j2)).same (eo j (by omega)) rfl
  ·refine hH.leave (i:=(id:Int)) rfl el (fun j hj hne=>?_) (fun x hx=>by simp at hx)
   rw [eo j (by omega)]
  ·by_cases e2:j=id
   ·subst e2;rw [et];rcases d3 with d3 | d3
    ·omega
    ·rw [d3]
   ·rw [eo j (by omega)]
 ·rename_i e
  rw [if_neg e] at hsame
  split
  ·rename_i e3
   rw [if_pos e3] at hsame
   have hne1:(s.tx id).state≠1:=by
    rcases q.shard e with p | p | p
    ·rw [hid,Int.toNat_natCast] at p;exact p.2.1
    ·omega
    ·omega
   have hkd:k<decH s:=by unfold decH at e ⊢;omega
   have et:(setTx s id { s.tx id with ats:=(s.tx id).ats.set k 2 }).tx id={ s.tx id with ats:=(s.tx id).ats.set k 2 }:=zFq s _ h1 h2
   have eo:∀ j,j - 1≠id - 1->(setTx s id { s.tx id with ats:=(s.tx id).ats.set k 2 }).tx j=s.tx j:=fun j hj=>zEs s _ hj
   have hrd:zIy (s.tx id)=true->zIy { s.tx id with ats:=(s.tx id).ats.set k 2 }=true:=fun hr=>by
    refine zLg.2 fun j=>?_
    show ((s.tx id).ats.set k 2).getD j 0≠1
    rw [setD]
    split
    ·omega
    ·exact zLg.1 hr j
   refine ⟨?_,?_,hsame,⟨by rw [hsame.len];exact Nat.le_refl _,fun j j1 j2 j3=>?_⟩⟩
   ·refine h.txs rfl rfl (by rw [hsame.len];exact h.tl) (fun k' c' hk' hc' q'=>?_) (fun j j1 j2=>?_)
    ·by_cases e2:c'.tx.toNat=id
     ·refine ⟨q'.lo,by rw [hsame.len];exact q'.hi,fun hd=>?_,fun hd=>?_⟩
      ·obtain ⟨p1,p2,p3,p4⟩:=q'.dec hd
       rw [e2,et]
       rw [e2] at p3 p4
       exact ⟨p1,p2,p3,hrd p4⟩
      ·rw [e2,et]
       have p:=q'.shard hd
       rw [e2] at p
       rcases p with ⟨p1,p2,p3⟩ | ⟨p1,p2,p3⟩ | ⟨p1,p2⟩
       ·refine .inl ⟨p1,p2,?_⟩
        show ((s.tx id).ats.set k 2).getD k' 0≠0
        rw [setD]
        split
        ·omega
        ·exact p3
       ·exact .inr (.inl ⟨p1,p2,p3⟩)
       ·exact .inr (.inr ⟨p1,p2⟩)
     ·have:=q'.lo
      exact q'.same hsame.len rfl (eo _ (by omega))
    ·by_cases e2:j=id
     ·subst e2
      refine ⟨?_,?_,?_,?_,?_,?_,?_,?_,?_⟩
      all_goals rw [et]
      ·show ((s.tx j).ats.set k 2).length=s.lines.length;rw [List.length_set];exact hx.len
      ·exact hx.st
      ·intro i;show 0<=((s.tx j).ats.set k 2).getD i 0/\_<=_;rw [setD]
       split
       ·omega
       ·exact hx.rng i
      ·show ((s.tx j).ats.set k 2).getD (decH s) 0=0;rw [setD,if_neg (by omega)];exact hx.dec
      ·intro hs;exact absurd hs hne1
      ·intro i hi hi2
       have hi2':((s.tx j).ats.set k 2).getD i 0=2:=hi2
       rw [setD] at hi2'
       split at hi2'
       ·rename_i e4
        rw [e4.1]
        exact ⟨c,hc,e3,hid⟩
       ·exact hx.sure i hi hi2'
      ·intro hs
       obtain ⟨a,b,d⟩:=hx.com hs
       exact ⟨hrd a,b,d⟩
      ·exact hx.tm
      ·exact hx.few
     ·exact (h.tx j j1 (by rw [hsame.len] at j2;exact j2)).same (eo j (by omega)) rfl
   ·have es:∀ j:Nat,1<=j->((setTx s id { s.tx id with ats:=(s.tx id).ats.set k 2 }).tx j).state=(s.tx j).state:=fun j hj=>by
     by_cases e2:j=id
     ·rw [e2,et]
     ·rw [eo j (by omega)]
    have el:=hsame.len
    refine ⟨fun key=>(hH.apart key).more fun x hx=>?_,fun key c hc=>?_,fun key c hc=>?_,hH.small⟩
    ·simp only [List.nil_append] at hx ⊢
     obtain ⟨q1,q2,q3⟩:=zEv.1 hx
     exact zEv.2 ⟨q1,by rw [el];exact q2,by rw [es _ (by omega)];exact q3⟩
    ·obtain ⟨q1,q2,q3⟩:=hH.hold key c hc
     exact ⟨q1,by rw [el];exact q2,by rw [es _ (by omega)];exact q3⟩
    ·obtain ⟨q1,q2,q3⟩:=hH.wait key c hc
     exact ⟨q1,by rw [el];exact q2,by rw [es _ (by omega)];exact q3⟩
   ·by_cases e2:j=id
    ·rw [e2,et]
    ·rw [eo j (by omega)]
  ·exact ⟨h,hH,zBj.refl s,zFm.refl s⟩
end Go.Proofs.YtmaiggbnceejiaaGreatDoor
