import Derived.Test.YtmaiggbnceejiaaGreatDoorP28
set_option linter.unusedVariables false
set_option maxRecDepth 100000
set_option maxHeartbeats 16000000
namespace Go.Proofs.YtmaiggbnceejiaaGreatDoor
structure zKt(s s':zAa):Prop where
 safe:Safe s'
 held:Held s'
 same:zLy s s'
 fin:zFm s s'
 heard:∀ k,(s.line k).heard<=(s'.line k).heard
theorem zKt.refl{s:zAa}(h:Safe s)(hH:Held s):zKt s s:=⟨h,hH,zLy.refl s,zFm.refl s,fun _=>Nat.le_refl _⟩
theorem zKt.trans{a b c:zAa}(h:zKt a b)(k:zKt b c):zKt a c:=⟨k.safe,k.held,h.same.trans k.same,h.fin.trans k.fin,fun i=>Nat.le_trans (h.heard i) (k.heard i)⟩
theorem zKt.mv{s s':zAa}(h:zKt s s'):zGl s s':=
 ⟨h.same.ll,h.same.d,h.same.len,fun k=>by rw [h.same.nodes],fun k j n hn=>⟨n,by rw [h.same.nodes];exact hn,zKq.refl n,List.prefix_refl _,fun _=>rfl⟩,h.heard⟩
theorem yHb{s:zAa}(h:Safe s)(hH:Held s){k:Nat}(hk:k<s.lines.length){c:CmdD}(hc:∀ n∈(s.line k).nodes,n.log[(s.line k).heard]?=some c):zKt s (zCz k s c)/\((zCz k s c).line k).heard=(s.line k).heard+1:=by
 have hb:=h.bump hk (fun n hn=>(List.getElem?_eq_some_iff.1 (hc n hn)).1)
 have hbH:Held (bump s k):=hH.lines rfl rfl
 have hkb:k<(bump s k).lines.length:=by rw [zJc];exact hk
 have hcm:c∈zFi (bump s k) k:=by
  unfold zFi
  rw [zQe s hk,zLw s hk,if_pos rfl]
  have:=hc _ (h.head_mem hk)
  show c∈(zAq s k).log.take ((s.line k).heard+1)
  rw [zBn this];simp
 have q:=yDf hb hbH hkb hcm
 rw [<-yKr s hk] at q
 have hl:(zCz k s c).line k=(bump s k).line k:=by unfold zAa.line;rw [q.same.l]
 refine ⟨⟨q.safe,q.held,zKb s k c hk,(zFm.of (s:=s) (s':=bump s k) rfl).trans q.fin,fun i=>?_⟩,?_⟩
 ·have hl':(zCz k s c).line i=(bump s k).line i:=by unfold zAa.line;rw [q.same.l]
  rw [hl',zLw s hk]
  split
  ·rename_i e;rw [e];simp
  ·exact Nat.le_refl _
 ·rw [hl,zLw s hk,if_pos rfl]
theorem zVg{k:Nat}:∀ (cs:List CmdD) {s:zAa},Safe s->Held s->k<s.lines.length->(∀ n∈(s.line k).nodes,∃ r,n.log.drop (s.line k).heard=cs++r)->zKt s (cs.foldl (zCz k) s)
 | [],s,h,hH,_,_=>zKt.refl h hH
 | c :: cs,s,h,hH,hk,hd=>by
  obtain ⟨q,hq⟩:=yHb h hH hk (c:=c) (fun n hn=>by
   obtain ⟨r,hr⟩:=hd n hn
   have:=congrArg (fun l=>l[0]?) hr
   simpa using this)
  refine q.trans (zVg cs q.safe q.held (by rw [q.same.ll];exact hk) fun n hn=>?_)
  rw [q.same.nodes] at hn
  obtain ⟨r,hr⟩:=hd n hn
  refine ⟨r,?_⟩
  rw [hq,<-List.drop_drop,hr];rfl
theorem yDc{s:zAa}(h:Safe s)(hH:Held s){k:Nat}(hk:k<s.lines.length):zKt s (zNc s k)/\zFs (zNc s k) k=[]:=by
 have hL:=h.line k hk
 have q:zKt s (zNc s k):=zVg (zFs s k) h hH hk fun n hn=>by
  obtain ⟨r,hr⟩:=hL.last ⟨0,0,[],[],0⟩ hn
  refine ⟨r,?_⟩
  rw [<-hr]
  unfold zFs zFv
  rw [List.drop_append_of_le_length]
  exact hL.heard _ (zXm hL.ne _)
 refine ⟨q,?_⟩
 have hh:((zNc s k).line k).heard=_:=zKj k (zFs s k) s hk k
 rw [if_pos rfl] at hh
 unfold zFs zFv
 rw [q.same.nodes,hh]
 apply List.drop_eq_nil_of_le
 have:(zFs s k).length=(zFv s k).log.length - (s.line k).heard:=by unfold zFs;rw [List.length_drop]
 unfold zFv at this
 omega
theorem zMn{s:zAa}(h:Safe s)(hH:Held s):zKt s (zHy s)/\∀ k,k<s.lines.length->zFs (zHy s) k=[]:=by
 have key:∀ m,m<=s.lines.length->zKt s (zHx s m)/\∀ k,k<m->zFs (zHx s m) k=[]:=by
  intro m
  induction m with
  | zero=>exact fun _=>⟨zKt.refl h hH,fun k hk=>by omega⟩
  | succ m ih=>
   intro hm
   rw [zMm]
   obtain ⟨a,b⟩:=ih (by omega)
   have hmS:m<(zHx s m).lines.length:=by rw [a.same.ll];omega
   obtain ⟨c,d⟩:=yDc a.safe a.held hmS
   refine ⟨a.trans c,fun k hk=>?_⟩
   by_cases e:k=m
   ·rw [e];exact d
   ·have e1:=b k (by omega)
    unfold zFs zFv at e1 ⊢
    rw [c.same.nodes]
    have:=c.heard k
    rw [List.drop_eq_nil_iff] at e1 ⊢
    omega
 exact key s.lines.length (Nat.le_refl _)
theorem Safe.news{s:zAa}(h:Safe s):yPq s:=fun k hk=>by
 have hL:=h.line k hk
 have hm:=zXm hL.ne (⟨0,0,[],[],0⟩:zAl)
 refine ⟨hL.heard _ hm,fun c hc=>?_⟩
 have:=(h.logs hk hm).all c (List.mem_of_mem_drop hc)
 exact ⟨this.lo,this.hi⟩
theorem zNr{s:zAa}:zDl s=false↔∀ k,k<s.lines.length->zFs s k=[]:=by
 unfold zDl
 rw [List.any_eq_false]
 simp
def sumR(f:Nat->Nat):Nat->Nat
 | 0=>0
 | n+1=>sumR f n+f n
theorem zLa{f g:Nat->Nat}:∀ {n:Nat},(∀ k,k<n->f k<=g k)->sumR f n<=sumR g n
 | 0,_=>Nat.le_refl _
 | n+1,h=>Nat.add_le_add (zLa fun k hk=>h k (by omega)) (h n (by omega))
theorem zWm{f g:Nat->Nat}:∀ {n:Nat},(∀ k,k<n->f k<=g k)->∀ k,k<n->f k<g k->sumR f n<sumR g n
 | 0,_,k,hk,_=>by omega
 | n+1,h,k,hk,hlt=>by
  by_cases e:k=n
  ·subst e;exact Nat.add_lt_add_of_le_of_lt (zLa fun j hj=>h j (by omega)) hlt
  ·exact Nat.add_lt_add_of_lt_of_le (zWm (fun j hj=>h j (by omega)) k (by omega) hlt) (h n (by omega))
theorem zMb{f:Nat->Nat}{B:Nat}:∀ {n:Nat},(∀ k,k<n->f k<=B)->sumR f n<=B*n
 | 0,_=>Nat.zero_le _
 | n+1,h=>by
  have:=zMb (n:=n) fun k hk=>h k (by omega)
  have:=h n (by omega)
  show sumR f n+f n<=B*(n+1)
  rw [Nat.mul_succ];omega
def zSp(s:zAa):Nat:=sumR (fun k=>(s.line k).heard) s.lines.length
theorem yAh{s:zAa}(h:Safe s):zSp s<=500*s.lines.length:=zMb fun k hk=>by
 have hL:=h.line k hk
 have hm:=h.head_mem hk
 exact Nat.le_trans (hL.heard _ hm) (hL.few _ hm)
structure zBu(s s':zAa):Prop where
 safe:Safe s'
 held:Held s'
 mv:zGl s s'
 fin:zFm s s'
 down:s'.net.down=s.net.down
 few:s.net.way.length<=200->s'.net.way.length<=200
theorem zBu.refl{s:zAa}(h:Safe s)(hH:Held s):zBu s s:=⟨h,hH,zGl.refl s,zFm.refl s,rfl,id⟩
theorem zBu.trans{a b c:zAa}(h:zBu a b)(k:zBu b c):zBu a c:=⟨k.safe,k.held,h.mv.trans k.mv,h.fin.trans k.fin,k.down.trans h.down,fun e=>k.few (h.few e)⟩
theorem zKt.toS{s s':zAa}(h:zKt s s'):zBu s s':=⟨h.safe,h.held,h.mv,h.fin,by rw [h.same.net],fun e=>by rw [h.same.net];exact e⟩
theorem zCh.toS{s s':zAa}(h:zCh s s')(hS:Safe s')(hH:Held s):zBu s s':=⟨hS,hH.lines h.keys h.txs,h.mv,zFm.of h.txs,h.down,h.few⟩
theorem zJo{s:zAa}(h:Safe s)(hH:Held s):zBu s (zDy (zHy s))/\zSp s+(if zDl s then 1 else 0)<=zSp (zDy (zHy s)):=by
 obtain ⟨a,b⟩:=zMn h hH
 obtain ⟨c,d,_⟩:=zDh a.safe
 refine ⟨a.toS.trans (d.toS c a.held),?_⟩
 have e:zSp (zDy (zHy s))=sumR (fun k=>((zHy s).line k).heard) s.lines.length:=by
  unfold zSp
  rw [d.mv.ll,a.same.ll]
  simp only [d.heard]
 rw [e]
 split
 ·rename_i hn
  have:∃ k,k<s.lines.length/\zFs s k≠[]:=by
   apply Classical.byContradiction
   intro hx
   have:zDl s=false:=zNr.2 fun k hk=>Classical.byContradiction fun q=>hx ⟨k,hk,q⟩
   rw [this] at hn;cases hn
  obtain ⟨k,hk,hne⟩:=this
  refine zWm (fun j hj=>a.heard j) k hk ?_
  have e1:=b k hk
  unfold zFs zFv at e1 hne
  rw [a.same.nodes,List.drop_eq_nil_iff] at e1
  rw [Ne,List.drop_eq_nil_iff] at hne
  omega
 ·exact zLa (fun j hj=>a.heard j)
theorem zQk:∀ (n:Nat) {s:zAa},Safe s->Held s->zBu s (zEl n s)
 | 0,s,h,hH=>zBu.refl h hH
 | n+1,s,h,hH=>by
  unfold zEl
  split
  ·have q:=(zJo h hH).1
   exact q.trans (zQk n q.safe q.held)
  ·exact zBu.refl h hH
theorem zRr:∀ (n:Nat) {s:zAa},Safe s->Held s->500*s.lines.length - zSp s<n->zDl (zEl n s)=false
 | 0,s,h,hH,hn=>by omega
 | n+1,s,h,hH,hn=>by
  unfold zEl
  by_cases e:zDl s=true
  ·rw [if_pos e]
   obtain ⟨q,hq⟩:=zJo h hH
   rw [if_pos e] at hq
   have:=yAh q.safe
   rw [q.mv.ll] at this
   exact zRr n q.safe q.held (by rw [q.mv.ll];omega)
  ·rw [if_neg e];simpa using e
theorem zEk{s:zAa}(h:Safe s)(hH:Held s):zBu s (zCi s)/\zDl (zCi s)=false:=by
 unfold zCi
 exact ⟨zQk _ h hH,zRr _ h hH (by omega)⟩
theorem yHh{h:zAa}{ns:List zAl}{id:Int}{j:Nat}(e:zTv h ns id=some j):∃ n,ns[j]?=some n/\zAs h n=true/\n.id=id:=by
 unfold zTv at e
 rw [List.findIdx?_eq_some_iff_getElem] at e
 obtain ⟨hj,h1,_⟩:=e
 simp only [Bool.and_eq_true,decide_eq_true_eq] at h1
 exact ⟨ns[j],List.getElem?_eq_getElem hj,h1.1,h1.2⟩
theorem zUy{h:zAa}{id:Int}:∀ {k0:Nat} {ls:List zCr} {k j:Nat},zQu h id k0 ls=some (k,j)->∃ l n,k0<=k/\ls[k - k0]?=some l/\l.nodes[j]?=some n/\zAs h n=true/\n.id=id
 | k0,[],k,j,e=>by simp [zQu] at e
 | k0,l :: ls,k,j,e=>by
  unfold zQu at e
  cases hf:zTv h l.nodes id with
  | some i=>
   rw [hf] at e
   simp only [Option.some.injEq,Prod.mk.injEq] at e
   obtain ⟨rfl,rfl⟩:=e
   obtain ⟨n,q⟩:=yHh hf
   exact ⟨l,n,Nat.le_refl _,by simp,q⟩
  | none=>
   rw [hf] at e
   obtain ⟨l',n,q1,q2,q3⟩:=zUy e
   exact ⟨l',n,by omega,by rw [show k - k0=(k - (k0+1))+1 by omega];simpa using q2,q3⟩
theorem zJp{s:zAa}{id:Int}{k j:Nat}(e:zIl s id=some (k,j)):k<s.lines.length/\∃ n,(s.line k).nodes[j]?=some n/\zAs s n=true/\n.id=id:=by
 obtain ⟨l,n,_,q2,q3⟩:=zUy e
 rw [Nat.sub_zero] at q2
 have hk:=(List.getElem?_eq_some_iff.1 q2).1
 have e1:=zBh hk
 rw [q2] at e1
 cases e1
 exact ⟨hk,n,q3⟩
theorem zFg{s:zAa}{k j:Nat}{n:zAl}(h:(s.line k).nodes[j]?=some n):zAo s k j=n:=by
 unfold zAo;rw [List.getD_eq_getElem?_getD,h];rfl
theorem Safe.step{s:zAa}(h:Safe s){k j:Nat}(hk:k<s.lines.length){n:zAl}(hj:(s.line k).nodes[j]?=some n){m:MsgD}(hm:yBl s m):Safe (zHt s k j m):=by
 unfold zHt
 rw [zFg hj]
 obtain ⟨g1,g2,g3⟩:=zRn n m
 have hL:=h.line k hk
 have hS:Safe (zCa s k j (zCw n m).1):=by
  rcases g2 with e | ⟨e1,e2,e3,e4,e5⟩
  ·refine h.node hk hj g1 (by rw [e];exact List.prefix_refl _) (by rw [e];exact hL.few n (List.mem_of_getElem? hj)) (fun i p hi hp=>?_) (fun e0=>?_)
   ·rw [e];exact (zHq.1 hL.ord i j p n hi hp hj).2
   ·rw [e];exact h.logs hk (List.mem_of_getElem? hj)
  ·obtain ⟨i,a,hi,ha,haid⟩:=hL.nbr hj (yCv e2)
   have hij:i+1=j:=by omega
   obtain ⟨N,q1,q2⟩:=hm e1 k hk a (List.mem_of_getElem? ha) haid
   have hN:N=n.log.length:=by omega
   subst hN
   have hpre:n.log++[m.cmd] <+: a.log:=by
    obtain ⟨t,ht⟩:=(zHq.1 hL.ord i j a n (by omega) ha hj).2
    rw [<-ht] at q2 ⊢
    rw [List.getElem?_append_right (Nat.le_refl _),Nat.sub_self] at q2
    cases t with
    | nil=>simp at q2
    | cons x t=>simp at q2;subst q2;exact ⟨t,by simp⟩
   refine h.node hk hj g1 (by rw [e5];exact List.prefix_append _ _) (by rw [e5];simp;omega) (fun i' p hi' hp=>?_) (fun e0=>by omega)
   rw [e5]
   by_cases e6:i'=i
   ·subst e6;rw [ha] at hp;cases hp;exact hpre
   ·exact hpre.trans (zHq.1 hL.ord i' i p a (by omega) hp ha).2
 refine hS.send fun m' hm'=>?_
 have hk':k<(zCa s k j (zCw n m).1).lines.length:=by rw [zIi];exact hk
 refine hS.sent hk' (n:=(zCw n m).1) ?_ (g3 m' hm')
 rw [zDx s hk,if_pos rfl]
 exact List.mem_of_getElem? (i:=j) (by rw [zDj,if_pos ⟨rfl,(List.getElem?_eq_some_iff.1 hj).1⟩])
theorem zCh.step{s:zAa}{k j:Nat}(hk:k<s.lines.length){n:zAl}(hj:(s.line k).nodes[j]?=some n)(hv:zAs s n=true)(m:MsgD):zCh s (zHt s k j m):=by
 unfold zHt
 rw [zFg hj]
 obtain ⟨g1,g2,g3⟩:=zRn n m
 refine zCh.node1 hk hj g1 ?_ (fun q=>by rw [hv] at q;cases q) _
 rcases g2 with e | ⟨_,_,_,_,e⟩
 ·rw [e];exact List.prefix_refl _
 ·rw [e];exact List.prefix_append _ _
theorem zJb{s:zAa}(h:Safe s)(hH:Held s)(k:Nat):zBu s (zBf s k):=by
 unfold zBf
 cases hm:s.net.way[k]? with
 | none=>exact zBu.refl h hH
 | some m=>
  have ht:Safe (zBi s k):=h.way fun m' hm'=>List.mem_of_mem_eraseIdx hm'
  have hT:zBu s (zBi s k):=⟨ht,hH.lines rfl rfl,(zGl.refl s).net _,zFm.of rfl,rfl,fun e=>Nat.le_trans (List.length_eraseIdx_le _ _) e⟩
  simp only
  cases hn:zIl s m.to with
  | none=>exact hT
  | some kj=>
   obtain ⟨kk,j⟩:=kj
   obtain ⟨hk,n,q1,q2,q3⟩:=zJp hn
   have hm':yBl (zBi s k) m:=h.msg m (List.mem_of_getElem? hm)
   have hS:=ht.step (k:=kk) (j:=j) (n:=n) hk q1 hm'
   have hT2:zBu (zBi s k) (zHt (zBi s k) kk j m):=(zCh.step (s:=zBi s k) hk q1 q2 m).toS hS hT.held
   exact (hT.trans hT2).trans (zEk hS hT2.held).1
theorem Safe.tick1{s:zAa}(h:Safe s){k j:Nat}(hk:k<s.lines.length):Safe (tick1 k s j)/\zCh s (tick1 k s j):=by
 unfold Go.Proofs.YtmaiggbnceejiaaGreatDoor.tick1
 split
 ·by_cases hj:j<(s.line k).nodes.length
  ·have hj':(s.line k).nodes[j]?=some (zAo s k j):=by rw [List.getElem?_eq_getElem hj];unfold zAo;rw [List.getD_eq_getElem?_getD,List.getElem?_eq_getElem hj];rfl
   obtain ⟨g1,g2,g3⟩:=zJl (zAo s k j)
   have hL:=h.line k hk
   have hS:Safe (zCa s k j (zEj (zAo s k j)).1):=by
    refine h.node hk hj' g1 (by rw [g2];exact List.prefix_refl _) (by rw [g2];exact hL.few _ (List.mem_of_getElem? hj')) (fun i p hi hp=>?_) (fun e0=>?_)
    ·rw [g2];exact (zHq.1 hL.ord i j p _ hi hp hj').2
    ·rw [g2];exact h.logs hk (List.mem_of_getElem? hj')
   refine ⟨hS.send fun m' hm' h3=>?_,zCh.node1 hk hj' g1 (by rw [g2];exact List.prefix_refl _) (fun _=>g2) _⟩
   have:=(g3 m' hm').2
   omega
  ·have hz:zAo s k j=⟨0,0,[],[],0⟩:=by unfold zAo;rw [List.getD_eq_getElem?_getD,List.getElem?_eq_none (by omega)];rfl
   have hset:∀ n,zCa s k j n=s:=fun n=>by
    unfold zCa zDz
    have e1:(s.line k).nodes.set j n=(s.line k).nodes:=List.set_eq_of_length_le (by omega)
    rw [e1]
    have e2:s.lines.set k ⟨(s.line k).nodes,(s.line k).heard⟩=s.lines:=by
     refine List.ext_getElem? fun i=>?_
     rw [zDj]
     split
     ·rename_i e;rw [e.1,zBh hk]
     ·rfl
    rw [e2]
   have hms:(zEj (zAo s k j)).2=[]:=by rw [hz];rfl
   rw [hset,hms]
   exact ⟨h,zCh.refl s⟩
 ·exact ⟨h,zCh.refl s⟩
theorem zJz{s:zAa}(h:Safe s){k:Nat}(hk:k<s.lines.length):Safe (zDm s k)/\zCh s (zDm s k):=by
 unfold zDm
 generalize List.range (s.line k).nodes.length=js
 suffices key:∀ (js:List Nat) (S:zAa),Safe S->zCh s S->Safe (js.foldl (tick1 k) S)/\zCh s (js.foldl (tick1 k) S) from key js s h (zCh.refl s)
 intro js
 induction js with
 | nil=>exact fun S a b=>⟨a,b⟩
 | cons j js ih=>
  intro S a b
  obtain ⟨c,d⟩:=a.tick1 (k:=k) (j:=j) (by rw [b.mv.ll];exact hk)
  exact ih _ c (b.trans d)
theorem zMa{s:zAa}(h:Safe s):Safe (zFd s)/\zCh s (zFd s):=by
 unfold zFd
 suffices key:∀ m,m<=s.lines.length->Safe ((List.range m).foldl zDm s)/\zCh s ((List.range m).foldl zDm s) from key _ (Nat.le_refl _)
 intro m
 induction m with
 | zero=>exact fun _=>⟨h,zCh.refl s⟩
 | succ m ih=>
  intro hm
  rw [List.range_succ,List.foldl_append]
  obtain ⟨a,b⟩:=ih (by omega)
  obtain ⟨c,d⟩:=zJz a (k:=m) (by rw [b.mv.ll];omega)
  exact ⟨c,b.trans d⟩
def becF(l:zCr)(n:zAl):zAl:=(zEj (becN n (zDu l) (l.nodes.map (·.id)))).1
theorem yPf{l:zCr}{n:zAl}(hi:inN n=true):(becF l n).id=n.id/\(becF l n).epoch=zDu l/\(becF l n).nodes=l.nodes.map (·.id)/\(becF l n).log=n.log:=by
 have e:becN n (zDu l) (l.nodes.map (·.id))=zQv n (zDu l) (l.nodes.map (·.id)):=by
  unfold becN;rw [hi];rfl
 unfold becF
 rw [e]
 obtain ⟨g1,g2,_⟩:=zJl (zQv n (zDu l) (l.nodes.map (·.id)))
 exact ⟨g1.id,g1.ep,g1.cf,g2⟩
theorem zKm(l:zCr):(zCc l).1=⟨l.nodes.map (becF l),l.heard⟩:=rfl
theorem zQq{l:zCr}{m:MsgD}(h:m∈(zCc l).2):m.kind=1\/m.kind=4:=by
 unfold zCc at h
 simp only [List.mem_flatMap] at h
 obtain ⟨n,_,hm⟩:=h
 exact ((zJl _).2.2 m hm).2
theorem zGm.fix{k:Nat}{l:zCr}(h:zGm k l){ns:List zAl}(hs:ns.Sublist l.nodes)(hne:ns≠[])(hlt:ns.length<l.nodes.length):zGm k (zCc ⟨ns,l.heard⟩).1/\∀ n∈ns,(becF ⟨ns,l.heard⟩ n).id=n.id/\(becF ⟨ns,l.heard⟩ n).log=n.log:=by
 have hin:∀ n∈ns,Go.Proofs.YtmaiggbnceejiaaGreatDoor.inN n=true:=fun n hn=>h.inN (hs.subset hn)
 have hb:∀ n∈ns,_:=fun n hn=>yPf (l:=⟨ns,l.heard⟩) (hin n hn)
 rw [zKm]
 refine ⟨⟨fun e=>hne (by simpa using e),?_,fun x hx=>?_,fun x hx=>?_,?_,fun x hx=>?_,fun x hx=>?_⟩,fun n hn=>⟨(hb n hn).1,(hb n hn).2.2.2⟩⟩
 ·rw [List.pairwise_map]
  refine List.Pairwise.imp_of_mem ?_ (h.ord.sublist hs)
  intro a b ha hb' hab
  rw [(hb a ha).1,(hb b hb').1,(hb a ha).2.2.2,(hb b hb').2.2.2];exact hab
 ·obtain ⟨n,hn,rfl⟩:=List.mem_map.1 hx
  rw [(hb n hn).1];exact h.rng n (hs.subset hn)
 ·obtain ⟨n,hn,rfl⟩:=List.mem_map.1 hx
  rw [(hb n hn).2.2.1]
  show ns.map (·.id)=(ns.map (becF ⟨ns,l.heard⟩)).map (·.id)
  rw [List.map_map]
  exact List.map_congr_left fun a ha=>((hb a ha).1).symm
 ·obtain ⟨E,h1,h2,h3⟩:=h.ep
  refine ⟨E+1,by omega,by show E+1+((ns.map _).length:Int)<=6;rw [List.length_map];omega,fun x hx=>?_⟩
  obtain ⟨n,hn,rfl⟩:=List.mem_map.1 hx
  rw [(hb n hn).2.1]
  unfold zDu
  cases ns with
  | nil=>exact absurd rfl hne
  | cons a ns=>show a.epoch+1=E+1;rw [h3 a (hs.subset (by simp))]
 ·obtain ⟨n,hn,rfl⟩:=List.mem_map.1 hx
  rw [(hb n hn).2.2.2];exact h.heard n (hs.subset hn)
 ·obtain ⟨n,hn,rfl⟩:=List.mem_map.1 hx
  rw [(hb n hn).2.2.2];exact h.few n (hs.subset hn)
def lineF(s:zAa)(k:Nat):zAa:=zMt (zDz s k (zCc ⟨zAj s k,(s.line k).heard⟩).1) (zCc ⟨zAj s k,(s.line k).heard⟩).2
theorem zMk(s:zAa){k:Nat}(hk:k<s.lines.length)(i:Nat):(lineF s k).line i=if i=k then (zCc ⟨zAj s k,(s.line k).heard⟩).1 else s.line i:=zOn s k _ i hk
theorem zEn(s:zAa)(k:Nat):(lineF s k).lines.length=s.lines.length:=by simp [lineF,zDz,zMt]
theorem Safe.lineF{s:zAa}(h:Safe s){k:Nat}(hk:k<s.lines.length)(hne:zAj s k≠[])(hlt:(zAj s k).length<(s.line k).nodes.length):Safe (lineF s k):=by
 have hL:=h.line k hk
 have hsub:(zAj s k).Sublist (s.line k).nodes:=List.filter_sublist
 obtain ⟨f1,f2⟩:=hL.fix hsub hne hlt
 have hln:=fun i=>zMk s hk i
 have hd:decH (Go.Proofs.YtmaiggbnceejiaaGreatDoor.lineF s k)=decH s:=by unfold decH;rw [zEn]
 have hold:∀ i,i<s.lines.length->∀ x∈((Go.Proofs.YtmaiggbnceejiaaGreatDoor.lineF s k).line i).nodes,∃ n∈(s.line i).nodes,x.id=n.id/\x.log=n.log:=fun i hi x hx=>by
  rw [hln] at hx
  split at hx
  ·rename_i e;subst e
   rw [zKm] at hx
   obtain ⟨n,hn,rfl⟩:=List.mem_map.1 hx
   exact ⟨n,hsub.subset hn,f2 n hn⟩
  ·exact ⟨x,hx,rfl,rfl⟩
 have hn0:∀ i,i<s.lines.length->∃ n∈(s.line i).nodes,(zAq (Go.Proofs.YtmaiggbnceejiaaGreatDoor.lineF s k) i).log=n.log:=fun i hi=>by
  have hne':((Go.Proofs.YtmaiggbnceejiaaGreatDoor.lineF s k).line i).nodes≠[]:=by
   rw [hln];split
   ·exact f1.ne
   ·exact (h.line i hi).ne
  obtain ⟨n,hn,_,e⟩:=hold i hi _ (List.mem_of_getElem? (zLj hne'))
  exact ⟨n,hn,e⟩
 have hhd:∀ i,((Go.Proofs.YtmaiggbnceejiaaGreatDoor.lineF s k).line i).heard=(s.line i).heard:=fun i=>by
  rw [hln];split
  ·rename_i e;rw [e];rfl
  ·rfl
 have hheard:∀ i,i<s.lines.length->zFi (Go.Proofs.YtmaiggbnceejiaaGreatDoor.lineF s k) i=zFi s i:=fun i hi=>by
  obtain ⟨n,hn,e⟩:=hn0 i hi
  unfold zFi
  rw [hhd,e]
  exact h.heardAt hi hn
 have hbase:Safe (Go.Proofs.YtmaiggbnceejiaaGreatDoor.lineF s k):=by
  refine ⟨by rw [zEn];exact h.ll,h.tl,fun i hi=>?_,fun i hi=>?_,fun m hm h3 i hi x hx e=>?_,fun id i1 i2=>(h.tx id i1 i2).of rfl (zEn s k) hheard h.dec_lt⟩
  ·rw [zEn] at hi
   rw [hln];split
   ·rename_i e;rw [e];exact f1
   ·exact h.line i hi
  ·rw [zEn] at hi
   obtain ⟨n,hn,e⟩:=hn0 i hi
   rw [e]
   exact (h.logs hi hn).of rfl hd
  ·rw [zEn] at hi
   rcases zOa hm with q | q
   ·obtain ⟨n,hn,e1,e2⟩:=hold i hi x hx
    rw [e2]
    exact h.msg m q h3 i hi n hn (by rw [<-e1];exact e)
   ·have:=zQq q;omega
 exact hbase
structure ActG(s s':zAa):Prop where
 safe:Safe s'
 held:Held s'
 fin:zFm s s'
 ll:s'.lines.length=s.lines.length
theorem ActG.refl{s:zAa}(h:Safe s)(hH:Held s):ActG s s:=⟨h,hH,zFm.refl s,rfl⟩
theorem ActG.trans{a b c:zAa}(h:ActG a b)(k:ActG b c):ActG a c:=⟨k.safe,k.held,h.fin.trans k.fin,k.ll.trans h.ll⟩
theorem zBu.toA{s s':zAa}(h:zBu s s'):ActG s s':=⟨h.safe,h.held,h.fin,h.mv.ll⟩
theorem zFm.abort{s:zAa}{id:Nat}(h1:1<=id)(h2:id<=s.txs.length)(ho:(s.tx id).state<3):zFm s (zBk s id):=by
 refine ⟨by rw [zMq];exact Nat.le_refl _,fun j j1 j2 j3=>?_⟩
 by_cases e:j=id
 ·subst e;omega
 ·rw [zIp s (by omega)]
theorem yIz{s:zAa}(h:Safe s){id k:Nat}(h1:1<=id)(h2:id<=s.txs.length)(hk:k<decH s)(hs:(s.tx id).ats.getD k 0=2):(zDn (zAq s k).log 2 (id:Int)).isNone=false:=by
 obtain ⟨c,hc,e1,e2⟩:=(h.tx id h1 h2).sure k hk hs
 cases hp:zDn (zAq s k).log 2 (id:Int) with
 | some i=>rfl
 | none=>exact absurd ⟨e1,e2⟩ (zPl.1 hp c (zSo k c hc))
theorem zLq{s:zAa}(h:Safe s)(hH:Held s){k:Nat}(hk:k<s.lines.length):ActG s (zEb s k)/\zBj s (zEb s k):=by
 unfold zEb
 suffices key:∀ m,m<=s.txs.length->ActG s ((List.range m).foldl (fun h i=>if zOl h k i then zBk h (i+1) else h) s)/\zBj s ((List.range m).foldl (fun h i=>if zOl h k i then zBk h (i+1) else h) s) from key _ (Nat.le_refl _)
 intro m
 induction m with
 | zero=>exact fun _=>⟨ActG.refl h hH,zBj.refl s⟩
 | succ m ih=>
  intro hm
  rw [List.range_succ,List.foldl_append]
  obtain ⟨a,b⟩:=ih (by omega)
  generalize (List.range m).foldl (fun h i=>if zOl h k i then zBk h (i+1) else h) s=S at a b
  show ActG s (if zOl S k m then zBk S (m+1) else S)/\zBj s (if zOl S k m then zBk S (m+1) else S)
  split
  ·rename_i hl
   have hmS:m+1<=S.txs.length:=by rw [b.len];omega
   have hkS:k<S.lines.length:=by rw [b.l];exact hk
   unfold zOl at hl
   simp only [Bool.and_eq_true,Bool.or_eq_true,decide_eq_true_eq] at hl
   obtain ⟨hl1,hl2⟩:=hl
   have hx:=a.safe.tx (m+1) (by omega) hmS
   have hkd:k<decH S:=by
    have:k≠decH S:=fun e=>hl1 (by rw [e];exact hx.dec)
    unfold decH at this ⊢;omega
   have hH':Held (zBk S (m+1)):=a.held.abort (m+1) (by omega) (fun x hx=>by simp at hx)
   rcases hl2 with q | ⟨q,q2⟩
   ·exact ⟨a.trans ⟨a.safe.abort (by omega) hmS q,hH',zFm.abort (by omega) hmS (by omega),by rw [zGb]⟩,b.trans (zBj.abort S _)⟩
   ·have hr:zIy (S.tx (m+1))=false:=by
     apply Classical.byContradiction
     intro hn
     simp only [Bool.not_eq_false] at hn
     have:=zLg.1 hn k
     have:=hx.rng k
     have h2:(S.tx (m+1)).ats.getD k 0=2:=by omega
     have:=yIz a.safe (by omega) hmS hkd h2
     have e:((m+1:Nat):Int)=(m:Int)+1:=by omega
     rw [e,q2] at this;cases this
    exact ⟨a.trans ⟨a.safe.abort2 (by omega) hmS q hr,hH',zFm.abort (by omega) hmS (by omega),by rw [zGb]⟩,b.trans (zBj.abort S _)⟩
  ·exact ⟨a,b⟩
theorem zMh{s:zAa}{k:Nat}(h:¬ ((zAj s k).length=0\/(zAj s k).length=(s.line k).nodes.length)):zAj s k≠[]/\(zAj s k).length<(s.line k).nodes.length:=by
 have:(zAj s k).length<=(s.line k).nodes.length:=List.length_filter_le _ _
 refine ⟨fun e=>h (.inl (by rw [e];rfl)),by omega⟩
theorem zQa{s:zAa}(h:Safe s)(hH:Held s){k:Nat}(hk:k<s.lines.length):ActG s (fixAt s k)/\(fixAt s k).dead=s.dead/\(fixAt s k).net.down=s.net.down/\(fixAt s k).txs.length=s.txs.length/\(∀ i,i≠k->(fixAt s k).line i=s.line i) /\
  (((fixAt s k).line k).nodes=(s.line k).nodes/\((zAj s k).length=0\/(zAj s k).length=(s.line k).nodes.length)\/(∀ n∈((fixAt s k).line k).nodes,zAs s n=true))/\(∀ i,((fixAt s k).line i).heard=(s.line i).heard):=by
 unfold fixAt
 split
 ·rename_i e;exact ⟨ActG.refl h hH,rfl,rfl,rfl,fun _ _=>rfl,.inl ⟨rfl,e⟩,fun _=>rfl⟩
 ·rename_i e
  obtain ⟨e1,e2⟩:=zMh e
  have hF:Safe (lineF s k):=h.lineF hk e1 e2
  have hFH:Held (lineF s k):=hH.lines rfl rfl
  obtain ⟨a,b⟩:=zLq hF hFH (k:=k) (by rw [zEn];exact hk)
  have hA:ActG s (lineF s k):=⟨hF,hFH,zFm.of rfl,zEn s k⟩
  have hl:∀ i,(zEb (lineF s k) k).line i=(lineF s k).line i:=fun i=>by unfold zAa.line;rw [b.l]
  refine ⟨hA.trans a,b.d,by show (zEb (lineF s k) k).net.down=_;rw [b.net];exact zMd _ _,b.len,fun i hi=>?_,.inr fun n hn=>?_,fun i=>?_⟩
  ·show (zEb (lineF s k) k).line i=_
   rw [hl,zMk s hk,if_neg hi]
  ·have hn':n∈((zEb (lineF s k) k).line k).nodes:=hn
   rw [hl,zMk s hk,if_pos rfl,zKm] at hn'
   obtain ⟨x,hx,rfl⟩:=List.mem_map.1 hn'
   have hxl:zAs s x=true:=(List.mem_filter.1 hx).2
   have:=((h.line k hk).fix (ns:=zAj s k) List.filter_sublist e1 e2).2 x hx
   unfold zAs at hxl ⊢
   rw [this.1];exact hxl
  ·show ((zEb (lineF s k) k).line i).heard=_
   rw [hl,zMk s hk]
   split
   ·rename_i q;rw [q];rfl
   ·rfl
theorem zFu{s:zAa}(h:Safe s)(hH:Held s):∀ m,m<=s.lines.length->ActG s ((List.range m).foldl fixAt s)/\((List.range m).foldl fixAt s).dead=s.dead/\((List.range m).foldl fixAt s).net.down=s.net.down/\((List.range m).foldl fixAt s).txs.length=s.txs.length/\(∀ i,m<=i->((List.range m).foldl fixAt s).line i=s.line i) /\
  (∀ i,i<m->(((List.range m).foldl fixAt s).line i).nodes=(s.line i).nodes/\((zAj s i).length=0\/(zAj s i).length=(s.line i).nodes.length)\/(∀ n∈(((List.range m).foldl fixAt s).line i).nodes,zAs s n=true))/\(∀ i,(((List.range m).foldl fixAt s).line i).heard=(s.line i).heard):=by
 intro m
 induction m with
 | zero=>exact fun _=>⟨ActG.refl h hH,rfl,rfl,rfl,fun _ _=>rfl,fun i hi=>by omega,fun _=>rfl⟩
 | succ m ih=>
  intro hm
  rw [List.range_succ,List.foldl_append]
  obtain ⟨a,b,b2,c,d,e,f⟩:=ih (by omega)
  generalize (List.range m).foldl fixAt s=S at a b b2 c d e f
  show ActG s (fixAt S m)/\(fixAt S m).dead=s.dead/\(fixAt S m).net.down=s.net.down/\(fixAt S m).txs.length=s.txs.length/\(∀ i,m+1<=i->(fixAt S m).line i=s.line i)/\(∀ i,i<m+1->((fixAt S m).line i).nodes=(s.line i).nodes/\((zAj s i).length=0\/(zAj s i).length=(s.line i).nodes.length)\/(∀ n∈((fixAt S m).line i).nodes,zAs s n=true))/\(∀ i,((fixAt S m).line i).heard=(s.line i).heard)
  obtain ⟨a',b',b2',c',d',e',f'⟩:=zQa a.safe a.held (k:=m) (by rw [a.ll];omega)
  have hlv:∀ n,zAs S n=zAs s n:=fun n=>by unfold zAs;rw [b]
  refine ⟨a.trans a',b'.trans b,b2'.trans b2,c'.trans c,fun i hi=>by rw [d' i (by omega),d i (by omega)],fun i hi=>?_,fun i=>(f' i).trans (f i)⟩
  by_cases q:i=m
  ·subst q
   have hli:zAj S i=zAj s i:=by unfold zAj;rw [d i (Nat.le_refl _)];congr 1;funext n;exact hlv n
   rw [d i (Nat.le_refl _),hli] at e'
   rcases e' with e' | e'
   ·exact .inl e'
   ·exact .inr fun n hn=>by rw [<-hlv];exact e' n hn
  ·rw [d' i q];exact e i (by omega)
theorem yOr{s:zAa}(h:Safe s)(hH:Held s):ActG s (fixH s):=by
 unfold fixH
 obtain ⟨a,-⟩:=zFu h hH s.lines.length (Nat.le_refl _)
 obtain ⟨b,c,_⟩:=zDh a.safe
 have:=c.toS b a.held
 exact (a.trans this.toA).trans (zEk b this.held).1.toA
theorem yOx{s:NetS}{id:Int}{m:MsgD}(h:m∈(yAy s id).way):m∈s.way:=(List.mem_filter.1 h).1
theorem Safe.dead{s:zAa}(h:Safe s)(d:List Int):Safe { s with dead:=d }:=
 h.txs (s':={ s with dead:=d }) rfl rfl h.tl (fun k c _ _ q=>q.same rfl rfl rfl) (fun id h1 h2=>(h.tx id h1 h2).same rfl rfl)
theorem zTd{s:zAa}(h:Safe s)(hH:Held s)(id:Int):ActG s (zGj s id).1:=by
 unfold zGj
 split
 ·exact ActG.refl h hH
 ·exact ⟨(h.way (net:=yAy s.net id) fun m hm=>yOx hm).dead _,hH.lines rfl rfl,zFm.of rfl,rfl⟩
theorem zZr{s:zAa}(h:Safe s)(hH:Held s)(k:Int):ActG s (zIm s k).1:=by
 unfold zIm
 split
 ·exact ⟨h.way (net:=yNw s.net k.toNat) fun m hm=>List.mem_of_mem_eraseIdx hm,hH.lines rfl rfl,zFm.of rfl,rfl⟩
 ·exact ActG.refl h hH
theorem yAx{s:zAa}(h:Safe s)(hH:Held s)(id:Int):ActG s (zIt s id).1:=by
 unfold zIt
 split
 ·exact ActG.refl h hH
 ·rename_i e
  obtain ⟨i,rfl,h1,h2,ho⟩:=zDk (by simpa using e)
  rw [Int.toNat_natCast]
  exact ⟨h.abort h1 h2 ho,hH.abort i h1 (fun x hx=>by simp at hx),zFm.abort h1 h2 (by omega),by rw [zGb]⟩
def Has(k:KeyS)(x:Int):Prop:=∃ c∈k.held,c.tx=x
theorem zXc{x:Int}:∀ (q held kept:List ClmD),zEw held->(∃ c∈held,c.tx=x)->∃ c∈(zDb held kept q).1,c.tx=x
 | [],held,kept,_,h=>h
 | c :: q,held,kept,he,h=>by
  unfold zDb
  split
  ·refine zXc q (zDa held c) kept (zGy he c) ?_
   obtain ⟨d,hd,e⟩:=h
   by_cases e2:d.tx=c.tx
   ·exact ⟨c,(zBx he c c).2 (.inl rfl),by omega⟩
   ·exact ⟨d,(zBx he c d).2 (.inr ⟨hd,e2⟩),e⟩
  ·exact zXc q held (kept++[c]) he h
theorem Has.rel{s:Tab}{k:ByteArray}{x t:Int}(hk:zGz (s k))(h:Has (s k) x)(hne:x≠t):Has (relN s t k) x:=by
 unfold relN
 split
 ·obtain ⟨c,hc,e⟩:=h
  exact zXc _ _ _ (zEp hk.held t) ⟨c,zBq.2 ⟨hc,by omega⟩,e⟩
 ·exact h
theorem Has.wound{x:Int}{key:ByteArray}(hx:1<=x):∀ (ids:List Int) {X:List Int} {s:zAa},zDv X s->(∀ i∈ids,1<=i)->Has (s.keys key) x->(x∉ids\/(s.tx x.toNat).state≠1)->Has ((zBz s ids).keys key) x
 | [],X,s,_,_,h,_=>h
 | i :: ids,X,s,hH,hi,h,hn=>by
  have hi1:=hi i (by simp)
  have hiH:=hH.wound1 (i:=i) hi1
  show Has ((zBz (Go.Proofs.YtmaiggbnceejiaaGreatDoor.wound1 s i) ids).keys key) x
  have hstep:Has ((Go.Proofs.YtmaiggbnceejiaaGreatDoor.wound1 s i).keys key) x/\(x∉ids\/((Go.Proofs.YtmaiggbnceejiaaGreatDoor.wound1 s i).tx x.toNat).state≠1):=by
   unfold Go.Proofs.YtmaiggbnceejiaaGreatDoor.wound1
   split
   ·rename_i e
    have hne:x≠i:=fun q=>by
     rcases hn with hn | hn
     ·exact hn (by simp [q])
     ·rw [q] at hn;exact hn e
    refine ⟨?_,?_⟩
    ·rw [zVy]
     exact Has.rel (hH.apart key).ok h (by omega)
    ·rw [zIp s (by omega)]
     exact hn.imp (fun q=>fun q2=>q (by simp [q2])) id
   ·exact ⟨h,hn.imp (fun q=>fun q2=>q (by simp [q2])) id⟩
  exact Has.wound hx ids hiH (fun j hj=>hi j (by simp [hj])) hstep.1 hstep.2
theorem yQk{W:List Int}{k:KeyS}(h:zJh W k){x id:Int}(hx:Has k x)(hne:x≠id):zCp k.held id<2:=by
 apply Classical.byContradiction
 intro hn
 have h0:zCp k.held id≠0:=by omega
 have hz:=fun hall=>h0 ((zJq h.ok.held h.ok.h0).2 hall)
 have:∃ c∈k.held,c.tx=id:=Classical.byContradiction fun q=>hz fun c hc e=>q ⟨c,hc,e⟩
 obtain ⟨c,hc,e⟩:=this
 have hm:=zXh h.ok.held hc
 rw [e] at hm
 obtain ⟨d,hd,e2⟩:=hx
 have:=h.alone c hc d hd
 unfold zCg at this
 have h2:c.mode=2:=by rcases h.ok.hmode c hc with q | q <;> omega
 rw [h2] at this
 have hne':c.tx≠d.tx:=by omega
 simp [hne'] at this
theorem yGu{s:zAa}(hS:Safe s)(hH:Held s){id:Nat}(h1:1<=id)(h2:id<=s.txs.length)(ho:(s.tx id).state=1)(key:ByteArray)(hks:key.size<=20)(hy:zEd s id key=false):(zBy s id key 2).2≠0:=by
 unfold zEd at hy
 simp only [Bool.not_eq_false',List.any_eq_true,Bool.or_eq_true,decide_eq_true_eq] at hy
 obtain ⟨o,hom,hoc⟩:=hy
 have hin:=zKe hom
 have hne:=zZj hom
 have hhas:Has (s.keys key) o:=by
  unfold zCt at hom
  simp only [List.mem_filter,Bool.and_eq_true,decide_eq_true_eq] at hom
  have:=hom.2.2
  have hz:=fun hall=>this ((zJq (hH.apart key).ok.held (hH.apart key).ok.h0).2 hall)
  exact Classical.byContradiction fun q=>hz fun c hc e=>q ⟨c,hc,e⟩
 have hy':zEd (zAv s id key 2).1 id key=false\/(zAv s id key 2).2.2≠4:=by
  by_cases e:(zAv s id key 2).2.2=4
  ·left
   have hk:(zCn (s.keys key) ⟨(id:Int),2⟩).1=s.keys key:=by
    have e':(zCn (s.keys key) ⟨(id:Int),2⟩).2.2.2=4:=e
    revert e'
    unfold zCn
    split
    ·simp
    split
    ·simp
    split
    ·simp
    split
    ·simp
    ·simp
   have hkk:(zAv s id key 2).1.keys key=s.keys key:=by
    show updK s.keys key _ key=_
    rw [zEr,hk]
   unfold zEd
   simp only [Bool.not_eq_false',List.any_eq_true,Bool.or_eq_true,decide_eq_true_eq]
   refine ⟨o,?_,hoc⟩
   unfold zCt at hom ⊢
   rw [hkk]
   exact hom
  ·exact .inr e
 have hl2:zBw s id key 2=zAv s id key 2:=by
  unfold zBw
  simp only
  rw [if_neg (fun q=>hy'.elim (fun e=>absurd q.2 (by rw [e];simp)) (fun e=>e q.1))]
 unfold zBy
 simp only
 rw [hl2]
 split
 ·simp
 split
 ·simp
 have hL:=zVa hS hH h1 h2 ho key hks (mode:=2) (.inr rfl)
 rw [hl2] at hL
 have hlt:zCp ((zBz (zIu (zAv s id key 2).1 (id:Int).toNat (zBg (zAv s id key 2).1 key)) (zAv s id key 2).2.1).keys key).held id<2:=by
  have hC:=hL.held.came (k:=zBg (zAv s id key 2).1 key) h1 h2
  have hin2:∀ i∈(zAv s id key 2).2.1,1<=i/\i<=((zIu (zAv s id key 2).1 id (zBg (zAv s id key 2).1 key)).txs.length:Int):=fun i hi=>by
   show 1<=i/\i<=((setTx (zAv s id key 2).1 id _).txs.length:Int)
   rw [zBd];exact (hL.wd i hi).2
  have hh:Has ((zIu (zAv s id key 2).1 id (zBg (zAv s id key 2).1 key)).keys key) o:=by
   show Has (updK s.keys key (zCn (s.keys key) ⟨(id:Int),2⟩).1 key) o
   rw [zEr]
   obtain ⟨c,hc,e⟩:=hhas
   have hko:=(hH.apart key).ok
   unfold zCn
   split
   ·exact ⟨c,hc,e⟩
   split
   ·exact ⟨c,hc,e⟩
   split
   ·exact ⟨c,(zBx hko.held _ c).2 (.inr ⟨hc,by show c.tx≠(id:Int);omega⟩),e⟩
   split
   ·exact ⟨c,hc,e⟩
   ·exact ⟨c,hc,e⟩
  rw [Int.toNat_natCast]
  have hw:=Has.wound (key:=key) hin.1 (zAv s id key 2).2.1 hC (fun i hi=>(hin2 i hi).1) hh (by
   rcases hoc with q | q
   ·exact .inl fun q2=>by have:=(hL.wd _ q2).1;omega
   ·right
    show ((setTx (zAv s id key 2).1 id _).tx o.toNat).state≠1
    rw [zEs _ _ (by omega)]
    exact q)
  have hA:=zDv.woundAll (ids:=(zAv s id key 2).2.1) (X:=[]) (by simpa using hC) hin2
  exact yQk (hA.apart key) hw hne
 rw [if_pos hlt];simp
end Go.Proofs.YtmaiggbnceejiaaGreatDoor
