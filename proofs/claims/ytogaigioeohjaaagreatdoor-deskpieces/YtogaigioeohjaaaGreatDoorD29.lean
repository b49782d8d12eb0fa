import Derived.Test.YtogaigioeohjaaaGreatDoorD28
set_option linter.unusedVariables false
set_option maxRecDepth 100000
set_option maxHeartbeats 16000000
namespace Go.Proofs.YtogaigioeohjaaaGreatDoor
theorem zPg{log:List CmdD}{kind tx:Int}:zDl log kind tx=none↔∀ d∈log,¬ (d.kind=kind/\d.tx=tx):=by
 unfold zDl
 rw [List.findIdx?_eq_none_iff]
 simp only [Bool.and_eq_false_iff,decide_eq_false_iff_not]
 constructor
 ·intro h d hd q;exact (h d hd).elim (fun e=>e q.1) (fun e=>e q.2)
 ·intro h d hd
  by_cases e:d.kind=kind
  ·exact .inr fun e2=>h d hd ⟨e,e2⟩
  ·exact .inl e
theorem zRc{l l':List CmdD}{kind:Int}{id:Nat}(h:hasC l kind id)(hp:∀ c∈l,c∈l'):hasC l' kind id:=by
 obtain ⟨c,hc,q⟩:=h;exact ⟨c,hp c hc,q⟩
theorem zSt{s:zAa}(k:Nat):∀ c∈zFr s k,c∈(zAp s k).log:=fun c hc=>List.mem_of_mem_take hc
theorem due_ok{s:zAa}(h:Safe s){id k:Nat}(h1:1<=id)(h2:id<=s.txs.length)(hk:k<s.lines.length){time:Int}(ht:1<=time/\time<=501){c:CmdD}(hd:dueH s id k time=some c) :
  zTu s k c/\c.tx=id/\(k≠decH s->c.kind=3->∃ p∈(zAp s k).log,p.kind=2/\p.tx=c.tx):=by
 have hx:=h.tx id h1 h2
 have hi1:(1:Int)<=(id:Int):=by omega
 have hi2:(id:Int)<=(s.txs.length:Int):=by omega
 unfold dueH at hd
 simp only at hd
 split at hd
 ·rename_i e
  split at hd
  ·rename_i q
   cases hd
   exact ⟨⟨hi1,hi2,fun _=>⟨rfl,ht,.inl (by simpa using q.1),by simpa using q.2⟩,fun q=>absurd e q⟩,rfl,fun q=>absurd e q⟩
  ·cases hd
 ·rename_i e
  split at hd
  ·cases hd
  ·rename_i ha
   split at hd
   ·rename_i q
    cases hd
    exact ⟨⟨hi1,hi2,fun q=>absurd q e,fun _=>.inl ⟨rfl,by rw [Int.toNat_natCast,q];simp,by simpa using ha⟩⟩,rfl,fun _ q=>by simp at q⟩
   ·split at hd
    ·rename_i q
     cases hd
     obtain ⟨c1,c2,c3⟩:=hx.com q
     have hdk:k<decH s:=by unfold decH at e ⊢;omega
     have hs2:(s.tx id).ats.getD k 0=2:=by
      have:=hx.rng k
      have:=zLe.1 c1 k
      omega
     refine ⟨⟨hi1,hi2,fun q=>absurd q e,fun _=>.inr (.inl ⟨rfl,by simpa using q,c2⟩)⟩,rfl,fun _ _=>?_⟩
     obtain ⟨p,hp,e1,e2⟩:=hx.sure k hdk hs2
     exact ⟨p,zSt k p hp,e1,e2⟩
    ·split at hd
     ·rename_i q
      cases hd
      exact ⟨⟨hi1,hi2,fun q=>absurd q e,fun _=>.inr (.inr ⟨rfl,by simpa using q⟩)⟩,rfl,fun _ q=>by simp at q⟩
     ·cases hd
structure yEt(s S:zAa)(k j:Nat):Prop where
 safe:Safe S
 tells:zCk s S
 more:∃ X,(zAp S k).log=(zAp s k).log++X/\∀ c∈X,c.tx<=(j:Int)
 told:∀ id,1<=id->id<=j->∀ time c,dueH s id k time=some c->hasC (zAp S k).log c.kind id
 other:∀ i,i≠k->zAp S i=zAp s i
 live:zAu S (zAp S k)=true
theorem yGc{s:zAa}{id k:Nat}{time:Int}{c:CmdD}(h:dueH s id k time=some c)(t':Int):∃ c',dueH s id k t'=some c'/\c'.kind=c.kind/\c'.tx=c.tx:=by
 unfold dueH at h ⊢
 simp only at h ⊢
 split at h
 ·rename_i e
  rw [if_pos e]
  split at h
  ·rename_i q;rw [if_pos q];cases h;exact ⟨_,rfl,rfl,rfl⟩
  ·cases h
 ·rename_i e
  rw [if_neg e]
  exact ⟨c,h,rfl,rfl⟩
theorem yNa{s S:zAa}(ht:S.txs=s.txs)(hl:S.lines.length=s.lines.length)(id k:Nat)(time:Int):dueH S id k time=dueH s id k time:=by
 have e1:S.tx id=s.tx id:=by unfold zAa.tx;rw [ht]
 have e2:decH S=decH s:=by unfold decH;rw [hl]
 have e3:∀ t,zDu S t k=zDu s t k:=fun t=>by unfold zDu zAv;rw [e2]
 unfold dueH
 simp only [e1,e2,e3]
theorem yEt.step{s S:zAa}{k j:Nat}(hk:k<s.lines.length)(hj:j<s.txs.length)(h:yEt s S k j):yEt s (tell1 S k (zAp s k).log (j+1)) k (j+1):=by
 have hkS:k<S.lines.length:=by rw [h.tells.mv.ll];exact hk
 have hlen:=(h.safe.log k hkS).few h.safe.tl
 have hdue:=yNa h.tells.txs h.tells.mv.ll (j+1) k
 obtain ⟨X,hX,hXt⟩:=h.more
 have skip:(∀ time c,dueH s (j+1) k time=some c->hasC (zAp S k).log c.kind (j+1))->yEt s S k (j+1):=fun hh=>
  ⟨h.safe,h.tells,⟨X,hX,fun c hc=>by have:=hXt c hc;omega⟩,fun id i1 i2 time c hc=>by
   by_cases e:id=j+1
   ·subst e;exact hh time c hc
   ·exact h.told id i1 (by omega) time c hc,h.other,h.live⟩
 unfold tell1
 cases hd:dueH S (j+1) k ((zAp S k).log.length+1) with
 | none=>
  refine skip fun time c hc=>?_
  obtain ⟨c',hc',_⟩:=yGc hc ((zAp S k).log.length+1)
  rw [hdue] at hd
  rw [hd] at hc';cases hc'
 | some c=>
  show yEt s (if (zDl (zAp s k).log c.kind ((j+1:Nat):Int)).isNone then addH S k c else S) k (j+1)
  obtain ⟨o1,o2,o3⟩:=due_ok h.safe (by omega) (by rw [h.tells.mv.tl];omega) hkS (by omega) hd
  have hkd:∀ time c',dueH s (j+1) k time=some c'->c'.kind=c.kind:=fun time c' hc'=>by
   obtain ⟨c2,q1,q2,_⟩:=yGc hc' ((zAp S k).log.length+1)
   rw [hdue] at hd
   rw [hd] at q1;cases q1
   exact q2.symm
  cases hp:zDl (zAp s k).log c.kind ((j+1:Nat):Int) with
  | some i=>
   simp only [Option.isNone_some,Bool.false_eq_true,if_false]
   refine skip fun time c' hc'=>?_
   rw [hkd time c' hc']
   have:¬ ∀ d∈(zAp s k).log,¬ (d.kind=c.kind/\d.tx=((j+1:Nat):Int)):=fun q=>by rw [zPg.2 q] at hp;cases hp
   apply Classical.byContradiction
   intro hn
   apply this
   intro d hd' q
   exact hn ⟨d,by rw [hX];exact List.mem_append_left _ hd',q⟩
  | none=>
   simp only [Option.isNone_none,if_true]
   have hno:=zPg.1 hp
   have hg:=h.safe.grow hkS o1 (fun d hd' q=>by
    rw [hX] at hd'
    rcases List.mem_append.1 hd' with e | e
    ·exact hno d e ⟨q.1,by rw [q.2,o2]⟩
    ·have:=hXt d e
     rw [q.2,o2] at this;omega) o3
   obtain ⟨t1,t2⟩:=zCk.add h.safe hkS h.live c
   have hg2:=(zJv (zAp S k) c).2.1
   refine ⟨hg,h.tells.trans t1,⟨X++[c],?_,fun d hd'=>?_⟩,fun id i1 i2 time c' hc'=>?_,fun i hi=>?_,?_⟩
   ·rw [t2 k,if_pos rfl,hg2,hX,List.append_assoc]
   ·rcases List.mem_append.1 hd' with e | e
    ·have:=hXt d e;omega
    ·simp at e;rw [e,o2];omega
   ·rw [t2 k,if_pos rfl,hg2]
    by_cases e:id=j+1
    ·subst e
     exact ⟨c,by simp,(hkd time c' hc').symm,o2⟩
    ·exact zRc (h.told id i1 (by omega) time c' hc') (fun d hd'=>List.mem_append_left _ hd')
   ·rw [t2 i,if_neg hi];exact h.other i hi
   ·rw [t2 k,if_pos rfl]
    have hv:=h.live
    unfold zAu at hv ⊢
    rw [t1.mv.dead,(zJv (zAp S k) c).1.id];exact hv
theorem zSv{s:zAa}(h:Safe s){k:Nat}(hk:k<s.lines.length){n:zAl}(e:zOl s k=some n):n=zAp s k/\zAu s n=true:=by
 have hh:=h.head hk
 unfold zOl at e
 cases hn:(s.line k).nodes with
 | nil=>rw [hn] at e;cases e
 | cons a l=>
  rw [hn] at e hh
  simp only at e
  split at e
  ·rename_i q;cases e;simp at hh;exact ⟨hh,q⟩
  ·cases e
theorem yBd{s:zAa}(h:Safe s){k:Nat}(hk:k<s.lines.length)(e:zOl s k=none):zAu s (zAp s k)=false:=by
 have hh:=h.head hk
 unfold zOl at e
 cases hn:(s.line k).nodes with
 | nil=>exact absurd hn (h.line k hk).ne
 | cons a l=>
  rw [hn] at e hh
  simp only at e
  simp at hh
  subst hh
  split at e
  ·cases e
  ·rename_i q;simpa using q
def Told(s:zAa)(k:Nat):Prop:=∀ id,1<=id->id<=s.txs.length->∀ time c,dueH s id k time=some c->hasC (zAp s k).log c.kind id
theorem zRt{s:zAa}(h:Safe s){k:Nat}(hk:k<s.lines.length):Safe (tellAt s k)/\zCk s (tellAt s k)/\(zAu s (zAp s k)=true->Told (tellAt s k) k)/\(∀ i,i≠k->zAp (tellAt s k) i=zAp s i):=by
 unfold tellAt
 cases hh:zOl s k with
 | none=>exact ⟨h,zCk.refl s,fun (q:zAu s (zAp s k)=true)=>absurd q (by rw [yBd h hk hh];simp),fun _ _=>rfl⟩
 | some n=>
  obtain ⟨rfl,hl⟩:=zSv h hk hh
  simp only
  have key:∀ m,m<=s.txs.length->yEt s (((List.range m).map (·+1)).foldl (fun h id=>tell1 h k (zAp s k).log id) s) k m:=by
   intro m
   induction m with
   | zero=>exact fun _=>⟨h,zCk.refl s,⟨[],by simp,by simp⟩,fun id i1 i2=>by omega,fun _ _=>rfl,hl⟩
   | succ m ih=>
    intro hm
    rw [List.range_succ,List.map_append,List.foldl_append]
    exact (ih (by omega)).step hk (by omega)
  have q:=key s.txs.length (Nat.le_refl _)
  refine ⟨q.safe,q.tells,fun _ id i1 i2 time c hc=>?_,q.other⟩
  rw [yNa q.tells.txs q.tells.mv.ll] at hc
  exact q.told id i1 (by rw [q.tells.mv.tl] at i2;exact i2) time c hc
theorem zDv{s:zAa}(h:Safe s):Safe (zEe s)/\zCk s (zEe s)/\∀ k,k<s.lines.length->zAu s (zAp s k)=true->Told (zEe s) k:=by
 have key:∀ m,m<=s.lines.length->Safe ((List.range m).foldl tellAt s)/\zCk s ((List.range m).foldl tellAt s)/\(∀ k,k<m->zAu s (zAp s k)=true->Told ((List.range m).foldl tellAt s) k)/\(∀ k,m<=k->zAp ((List.range m).foldl tellAt s) k=zAp s k):=by
  intro m
  induction m with
  | zero=>exact fun _=>⟨h,zCk.refl s,fun k hk=>by omega,fun _ _=>rfl⟩
  | succ m ih=>
   intro hm
   rw [List.range_succ,List.foldl_append]
   obtain ⟨a,b,c,d⟩:=ih (by omega)
   generalize (List.range m).foldl tellAt s=S at a b c d
   have hmS:m<S.lines.length:=by rw [b.mv.ll];omega
   obtain ⟨a',b',c',d'⟩:=zRt a hmS
   refine ⟨a',b.trans b',fun k hk hl=>?_,fun k hk=>?_⟩
   ·by_cases e:k=m
    ·subst e
     refine c' ?_
     rw [d k (Nat.le_refl _)]
     unfold zAu at hl ⊢
     rw [b.mv.dead];exact hl
    ·intro id i1 i2 time c2 hc2
     have hc3:dueH S id k time=some c2:=(yNa b'.txs b'.mv.ll id k time).symm.trans hc2
     show hasC (zAp (tellAt S m) k).log c2.kind id
     rw [d' k e]
     exact c k (by omega) hl id i1 (by have:=b'.mv.tl;show id<=S.txs.length;rw [<-this];exact i2) time c2 hc3
   ·show zAp (tellAt S m) k=_
    rw [d' k (by omega)];exact d k (by omega)
 obtain ⟨a,b,c,_⟩:=key s.lines.length (Nat.le_refl _)
 exact ⟨a,b,c⟩
def bump(s:zAa)(k:Nat):zAa:=setLine s k ⟨(s.line k).nodes,(s.line k).heard+1⟩
theorem zLv(s:zAa){k:Nat}(hk:k<s.lines.length)(i:Nat):(bump s k).line i=if i=k then ⟨(s.line k).nodes,(s.line k).heard+1⟩ else s.line i:=zOi s k _ i hk
theorem zJc(s:zAa)(k:Nat):(bump s k).lines.length=s.lines.length:=by simp [bump,setLine]
theorem zPz(s:zAa){k:Nat}(hk:k<s.lines.length)(i:Nat):zAp (bump s k) i=zAp s i:=by
 unfold zAp;rw [zLv s hk];split
 ·rename_i e;rw [e]
 ·rfl
theorem Safe.bump{s:zAa}(h:Safe s){k:Nat}(hk:k<s.lines.length)(hl:∀ n∈(s.line k).nodes,(s.line k).heard<n.log.length):Safe (bump s k):=by
 have hd:decH (Go.Proofs.YtogaigioeohjaaaGreatDoor.bump s k)=decH s:=by unfold decH;rw [zJc]
 have hln:=fun i=>zLv s hk i
 have hn:∀ i,((Go.Proofs.YtogaigioeohjaaaGreatDoor.bump s k).line i).nodes=(s.line i).nodes:=fun i=>by
  rw [hln];split
  ·rename_i e;rw [e]
  ·rfl
 have hh:∀ i,∀ c∈zFr s i,c∈zFr (Go.Proofs.YtogaigioeohjaaaGreatDoor.bump s k) i:=fun i c hc=>by
  unfold zFr at hc ⊢
  rw [zPz s hk,hln]
  split
  ·rename_i e
   rw [e] at hc ⊢
   exact List.mem_of_mem_take (i:=(s.line k).heard) (by rw [List.take_take,Nat.min_eq_left (by simp)];exact hc)
  ·exact hc
 refine ⟨by rw [zJc];exact h.ll,h.tl,fun i hi=>?_,fun i hi=>?_,fun m hm h3 i hi x hx e=>?_,fun id i1 i2=>?_⟩
 ·rw [zJc] at hi
  rw [hln]
  split
  ·rename_i e;subst e
   have q:=h.line i hi
   exact ⟨q.ne,q.ord,q.rng,q.cfg,q.ep,fun n hn=>hl n hn,q.few⟩
  ·exact h.line i hi
 ·rw [zJc] at hi
  rw [zPz s hk];exact (h.log i hi).of rfl hd
 ·rw [zJc] at hi
  rw [hn] at hx
  exact h.msg m hm h3 i hi x hx e
 ·have q:=h.tx id i1 i2
  exact ⟨by rw [zJc];exact q.len,q.st,q.rng,by rw [hd];exact q.dec,q.op,fun j hj ha=>zRc (q.sure j (by rw [hd] at hj;exact hj) ha) (hh j),fun hs=>by
   rw [hd]
   obtain ⟨a,b,c⟩:=q.com hs
   exact ⟨a,b,zRc c (hh _)⟩,q.tm,q.few⟩
theorem zDz.lines{X:List Int}{s s':zAa}(h:zDz X s)(hk:s'.keys=s.keys)(ht:s'.txs=s.txs):zDz X s':=by
 have e:∀ j,s'.tx j=s.tx j:=fun j=>by unfold zAa.tx;rw [ht]
 have e2:yEj s'=yEj s:=by unfold yEj;rw [ht];simp only [e]
 exact ⟨fun k=>by rw [e2,hk];exact h.apart k,fun k c hc=>by rw [hk] at hc;rw [ht,e];exact h.hold k c hc,fun k c hc=>by rw [hk] at hc;rw [ht,e];exact h.wait k c hc,by rw [hk];exact h.small⟩
theorem yMh(s:zAa){k:Nat}(hk:k<s.lines.length)(c:CmdD):hearOne k s c=zBx (bump s k) k c:=by
 have hd:decH (bump s k)=decH s:=by unfold decH;rw [zJc]
 have hf:(zBx s k c).line k=s.line k:=by unfold zAa.line;rw [(zBk.follow s k c).l]
 unfold hearOne
 rw [hf]
 unfold zBx
 rw [hd]
 split
 ·rfl
 ·split
  ·rfl
  ·rfl
structure zGo(s s':zAa):Prop where
 len:s.txs.length<=s'.txs.length
 fin:∀ j,1<=j->j<=s.txs.length->3<=(s.tx j).state->(s'.tx j).state=(s.tx j).state
theorem zGo.refl(s:zAa):zGo s s:=⟨Nat.le_refl _,fun _ _ _ _=>rfl⟩
theorem zGo.trans{a b c:zAa}(h:zGo a b)(k:zGo b c):zGo a c:=⟨Nat.le_trans h.len k.len,fun j h1 h2 h3=>by
 have e:=h.fin j h1 h2 h3
 rw [k.fin j h1 (Nat.le_trans h2 h.len) (by rw [e];exact h3),e]⟩
theorem zGo.of{s s':zAa}(h:s'.txs=s.txs):zGo s s':=⟨by rw [h];exact Nat.le_refl _,fun j _ _ _=>by unfold zAa.tx;rw [h]⟩
structure yTs(s s':zAa):Prop where
 safe:Safe s'
 held:Held s'
 same:zBk s s'
 fin:zGo s s'
theorem yEd{s:zAa}(h:Safe s)(hH:Held s){k:Nat}(hk:k<s.lines.length){c:CmdD}(hc:c∈zFr s k):yTs s (zBx s k c):=by
 have hcm:=zSt k c hc
 have q:=(h.log k hk).all c hcm
 have hlo:=q.lo
 have hhi:=q.hi
 obtain ⟨id,hid⟩:∃ id:Nat,c.tx=id:=⟨c.tx.toNat,by omega⟩
 have h1:1<=id:=by omega
 have h2:id<=s.txs.length:=by omega
 have hx:=h.tx id h1 h2
 have hsame:=zBk.follow s k c
 unfold zBx at hsame ⊢
 rw [hid,Int.toNat_natCast] at hsame ⊢
 split
 ·rename_i e
  rw [if_pos e] at hsame
  obtain ⟨d1,d2,d3,d4⟩:=q.dec e
  rw [hid,Int.toNat_natCast] at d3 d4
  have e1:zDe (setTx s id { s.tx id with time:=c.time }) id 3={ setTx s id { s.tx id with state:=3,writes:=[],time:=c.time } with keys:=relN s.keys id }:=by
   unfold zDe
   rw [zFx s _ h1 h2]
   simp only [setTx,List.set_set]
  have et:(zDe (setTx s id { s.tx id with time:=c.time }) id 3).tx id={ s.tx id with state:=3,writes:=[],time:=c.time }:=by
   rw [e1];exact zFx s _ h1 h2
  have eo:∀ j,j - 1≠id - 1->(zDe (setTx s id { s.tx id with time:=c.time }) id 3).tx j=s.tx j:=fun j hj=>by
   rw [e1];exact zFb s _ hj
  have el:(zDe (setTx s id { s.tx id with time:=c.time }) id 3).txs.length=s.txs.length:=hsame.len
  refine ⟨?_,?_,hsame,⟨by rw [el];exact Nat.le_refl _,fun j j1 j2 j3=>?_⟩⟩
  ·refine h.txs rfl rfl (by rw [el];exact h.tl) (fun k' c' hk' hc' q'=>?_) (fun j j1 j2=>?_)
   ·by_cases e2:c'.tx.toNat=id
    ·refine ⟨q'.lo,by rw [el];exact q'.hi,fun hd=>?_,fun hd=>?_⟩
     ·obtain ⟨p1,p2,p3,p4⟩:=q'.dec hd
      rw [e2,et]
      rw [e2] at p4
      exact ⟨p1,p2,.inr rfl,p4⟩
     ·rw [e2,et]
      have p:=q'.shard hd
      rw [e2] at p
      rcases p with ⟨p1,p2,p3⟩ | ⟨p1,p2,p3⟩ | ⟨p1,p2⟩
      ·exact .inl ⟨p1,by simp,p3⟩
      ·exact .inr (.inl ⟨p1,rfl,p3⟩)
      ·omega
    ·have:=q'.lo
     exact q'.same el rfl (eo _ (by omega))
   ·by_cases e2:j=id
    ·subst e2
     refine ⟨?_,?_,?_,?_,?_,?_,?_,?_,?_⟩
     all_goals rw [et]
     ·exact hx.len
     ·simp
     ·exact hx.rng
     ·exact hx.dec
     ·intro hs;simp at hs
     ·exact hx.sure
     ·intro _
      refine ⟨d4,d2.1,c,?_,d1,hid⟩
      rw [e] at hc
      exact hc
     ·exact ⟨by have:=d2.1;show 0<=c.time;omega,d2.2⟩
     ·simp
    ·exact (h.tx j j1 (by rw [el] at j2;exact j2)).same (eo j (by omega)) rfl
  ·refine hH.leave (i:=(id:Int)) rfl el (fun j hj hne=>?_) (fun x hx=>by simp at hx)
   rw [eo j (by omega)]
  ·by_cases e2:j=id
   ·subst e2;rw [et];rcases d3 with d3 | d3
    ·omega
    ·rw [d3]
   ·rw [eo j (by omega)]
 ·rename_i e
  rw [if_neg e] at hsame
  split
  ·rename_i e3
   rw [if_pos e3] at hsame
   have hne1:(s.tx id).state≠1:=by
    rcases q.shard e with p | p | p
    ·rw [hid,Int.toNat_natCast] at p;exact p.2.1
    ·omega
    ·omega
   have hkd:k<decH s:=by unfold decH at e ⊢;omega
   have et:(setTx s id { s.tx id with ats:=(s.tx id).ats.set k 2 }).tx id={ s.tx id with ats:=(s.tx id).ats.set k 2 }:=zFx s _ h1 h2
   have eo:∀ j,j - 1≠id - 1->(setTx s id { s.tx id with ats:=(s.tx id).ats.set k 2 }).tx j=s.tx j:=fun j hj=>zFb s _ hj
   have hrd:zIx (s.tx id)=true->zIx { s.tx id with ats:=(s.tx id).ats.set k 2 }=true:=fun hr=>by
    refine zLe.2 fun j=>?_
    show ((s.tx id).ats.set k 2).getD j 0≠1
    rw [setD]
    split
    ·omega
    ·exact zLe.1 hr j
   refine ⟨?_,?_,hsame,⟨by rw [hsame.len];exact Nat.le_refl _,fun j j1 j2 j3=>?_⟩⟩
   ·refine h.txs rfl rfl (by rw [hsame.len];exact h.tl) (fun k' c' hk' hc' q'=>?_) (fun j j1 j2=>?_)
    ·by_cases e2:c'.tx.toNat=id
     ·refine ⟨q'.lo,by rw [hsame.len];exact q'.hi,fun hd=>?_,fun hd=>?_⟩
      ·obtain ⟨p1,p2,p3,p4⟩:=q'.dec hd
       rw [e2,et]
       rw [e2] at p3 p4
       exact ⟨p1,p2,p3,hrd p4⟩
      ·rw [e2,et]
       have p:=q'.shard hd
       rw [e2] at p
       rcases p with ⟨p1,p2,p3⟩ | ⟨p1,p2,p3⟩ | ⟨p1,p2⟩
       ·refine .inl ⟨p1,p2,?_⟩
        show ((s.tx id).ats.set k 2).getD k' 0≠0
        rw [setD]
        split
        ·omega
        ·exact p3
       ·exact .inr (.inl ⟨p1,p2,p3⟩)
       ·exact .inr (.inr ⟨p1,p2⟩)
     ·have:=q'.lo
      exact q'.same hsame.len rfl (eo _ (by omega))
    ·by_cases e2:j=id
     ·subst e2
      refine ⟨?_,?_,?_,?_,?_,?_,?_,?_,?_⟩
      all_goals rw [et]
      ·show ((s.tx j).ats.set k 2).length=s.lines.length;rw [List.length_set];exact hx.len
      ·exact hx.st
      ·intro i;show 0<=((s.tx j).ats.set k 2).getD i 0/\_<=_;rw [setD]
       split
       ·omega
       ·exact hx.rng i
      ·show ((s.tx j).ats.set k 2).getD (decH s) 0=0;rw [setD,if_neg (by omega)];exact hx.dec
      ·intro hs;exact absurd hs hne1
      ·intro i hi hi2
       have hi2':((s.tx j).ats.set k 2).getD i 0=2:=hi2
       rw [setD] at hi2'
       split at hi2'
       ·rename_i e4
        rw [e4.1]
        exact ⟨c,hc,e3,hid⟩
       ·exact hx.sure i hi hi2'
      ·intro hs
       obtain ⟨a,b,d⟩:=hx.com hs
       exact ⟨hrd a,b,d⟩
      ·exact hx.tm
      ·exact hx.few
     ·exact (h.tx j j1 (by rw [hsame.len] at j2;exact j2)).same (eo j (by omega)) rfl
   ·have es:∀ j:Nat,1<=j->((setTx s id { s.tx id with ats:=(s.tx id).ats.set k 2 }).tx j).state=(s.tx j).state:=fun j hj=>by
     by_cases e2:j=id
     ·rw [e2,et]
     ·rw [eo j (by omega)]
    have el:=hsame.len
    refine ⟨fun key=>(hH.apart key).more fun x hx=>?_,fun key c hc=>?_,fun key c hc=>?_,hH.small⟩
    ·simp only [List.nil_append] at hx ⊢
     obtain ⟨q1,q2,q3⟩:=zFh.1 hx
     exact zFh.2 ⟨q1,by rw [el];exact q2,by rw [es _ (by omega)];exact q3⟩
    ·obtain ⟨q1,q2,q3⟩:=hH.hold key c hc
     exact ⟨q1,by rw [el];exact q2,by rw [es _ (by omega)];exact q3⟩
    ·obtain ⟨q1,q2,q3⟩:=hH.wait key c hc
     exact ⟨q1,by rw [el];exact q2,by rw [es _ (by omega)];exact q3⟩
   ·by_cases e2:j=id
    ·rw [e2,et]
    ·rw [eo j (by omega)]
  ·exact ⟨h,hH,zBk.refl s,zGo.refl s⟩
structure zKs(s s':zAa):Prop where
 safe:Safe s'
 held:Held s'
 same:zLw s s'
 fin:zGo s s'
 heard:∀ k,(s.line k).heard<=(s'.line k).heard
theorem zKs.refl{s:zAa}(h:Safe s)(hH:Held s):zKs s s:=⟨h,hH,zLw.refl s,zGo.refl s,fun _=>Nat.le_refl _⟩
theorem zKs.trans{a b c:zAa}(h:zKs a b)(k:zKs b c):zKs a c:=⟨k.safe,k.held,h.same.trans k.same,h.fin.trans k.fin,fun i=>Nat.le_trans (h.heard i) (k.heard i)⟩
theorem zKs.mv{s s':zAa}(h:zKs s s'):zGx s s':=
 ⟨h.same.ll,h.same.d,h.same.len,fun k=>by rw [h.same.nodes],fun k j n hn=>⟨n,by rw [h.same.nodes];exact hn,zKq.refl n,List.prefix_refl _,fun _=>rfl⟩,h.heard⟩
theorem yIh{s:zAa}(h:Safe s)(hH:Held s){k:Nat}(hk:k<s.lines.length){c:CmdD}(hc:∀ n∈(s.line k).nodes,n.log[(s.line k).heard]?=some c):zKs s (hearOne k s c)/\((hearOne k s c).line k).heard=(s.line k).heard+1:=by
 have hb:=h.bump hk (fun n hn=>(List.getElem?_eq_some_iff.1 (hc n hn)).1)
 have hbH:Held (bump s k):=hH.lines rfl rfl
 have hkb:k<(bump s k).lines.length:=by rw [zJc];exact hk
 have hcm:c∈zFr (bump s k) k:=by
  unfold zFr
  rw [zPz s hk,zLv s hk,if_pos rfl]
  have:=hc _ (h.head_mem hk)
  show c∈(zAp s k).log.take ((s.line k).heard+1)
  rw [zBt this];simp
 have q:=yEd hb hbH hkb hcm
 rw [<-yMh s hk] at q
 have hl:(hearOne k s c).line k=(bump s k).line k:=by unfold zAa.line;rw [q.same.l]
 refine ⟨⟨q.safe,q.held,zKe s k c hk,(zGo.of (s:=s) (s':=bump s k) rfl).trans q.fin,fun i=>?_⟩,?_⟩
 ·have hl':(hearOne k s c).line i=(bump s k).line i:=by unfold zAa.line;rw [q.same.l]
  rw [hl',zLv s hk]
  split
  ·rename_i e;rw [e];simp
  ·exact Nat.le_refl _
 ·rw [hl,zLv s hk,if_pos rfl]
theorem zVs{k:Nat}:∀ (cs:List CmdD) {s:zAa},Safe s->Held s->k<s.lines.length->(∀ n∈(s.line k).nodes,∃ r,n.log.drop (s.line k).heard=cs++r)->zKs s (cs.foldl (hearOne k) s)
 | [],s,h,hH,_,_=>zKs.refl h hH
 | c :: cs,s,h,hH,hk,hd=>by
  obtain ⟨q,hq⟩:=yIh h hH hk (c:=c) (fun n hn=>by
   obtain ⟨r,hr⟩:=hd n hn
   have:=congrArg (fun l=>l[0]?) hr
   simpa using this)
  refine q.trans (zVs cs q.safe q.held (by rw [q.same.ll];exact hk) fun n hn=>?_)
  rw [q.same.nodes] at hn
  obtain ⟨r,hr⟩:=hd n hn
  refine ⟨r,?_⟩
  rw [hq,<-List.drop_drop,hr];rfl
theorem yEa{s:zAa}(h:Safe s)(hH:Held s){k:Nat}(hk:k<s.lines.length):zKs s (zMx s k)/\zGb (zMx s k) k=[]:=by
 have hL:=h.line k hk
 have q:zKs s (zMx s k):=zVs (zGb s k) h hH hk fun n hn=>by
  obtain ⟨r,hr⟩:=hL.last ⟨0,0,[],[],0⟩ hn
  refine ⟨r,?_⟩
  rw [<-hr]
  unfold zGb zGe
  rw [List.drop_append_of_le_length]
  exact hL.heard _ (zYb hL.ne _)
 refine ⟨q,?_⟩
 have hh:((zMx s k).line k).heard=_:=zKi k (zGb s k) s hk k
 rw [if_pos rfl] at hh
 unfold zGb zGe
 rw [q.same.nodes,hh]
 apply List.drop_eq_nil_of_le
 have:(zGb s k).length=(zGe s k).log.length - (s.line k).heard:=by unfold zGb;rw [List.length_drop]
 unfold zGe at this
 omega
theorem zMk{s:zAa}(h:Safe s)(hH:Held s):zKs s (zHz s)/\∀ k,k<s.lines.length->zGb (zHz s) k=[]:=by
 have key:∀ m,m<=s.lines.length->zKs s (zIf s m)/\∀ k,k<m->zGb (zIf s m) k=[]:=by
  intro m
  induction m with
  | zero=>exact fun _=>⟨zKs.refl h hH,fun k hk=>by omega⟩
  | succ m ih=>
   intro hm
   rw [zMj]
   obtain ⟨a,b⟩:=ih (by omega)
   have hmS:m<(zIf s m).lines.length:=by rw [a.same.ll];omega
   obtain ⟨c,d⟩:=yEa a.safe a.held hmS
   refine ⟨a.trans c,fun k hk=>?_⟩
   by_cases e:k=m
   ·rw [e];exact d
   ·have e1:=b k (by omega)
    unfold zGb zGe at e1 ⊢
    rw [c.same.nodes]
    have:=c.heard k
    rw [List.drop_eq_nil_iff] at e1 ⊢
    omega
 exact key s.lines.length (Nat.le_refl _)
theorem Safe.news{s:zAa}(h:Safe s):ySe s:=fun k hk=>by
 have hL:=h.line k hk
 have hm:=zYb hL.ne (⟨0,0,[],[],0⟩:zAl)
 refine ⟨hL.heard _ hm,fun c hc=>?_⟩
 have:=(h.logs hk hm).all c (List.mem_of_mem_drop hc)
 exact ⟨this.lo,this.hi⟩
theorem zNk{s:zAa}:zDo s=false↔∀ k,k<s.lines.length->zGb s k=[]:=by
 unfold zDo
 rw [List.any_eq_false]
 simp
def sumR(f:Nat->Nat):Nat->Nat
 | 0=>0
 | n+1=>sumR f n+f n
theorem zKx{f g:Nat->Nat}:∀ {n:Nat},(∀ k,k<n->f k<=g k)->sumR f n<=sumR g n
 | 0,_=>Nat.le_refl _
 | n+1,h=>Nat.add_le_add (zKx fun k hk=>h k (by omega)) (h n (by omega))
theorem zXc{f g:Nat->Nat}:∀ {n:Nat},(∀ k,k<n->f k<=g k)->∀ k,k<n->f k<g k->sumR f n<sumR g n
 | 0,_,k,hk,_=>by omega
 | n+1,h,k,hk,hlt=>by
  by_cases e:k=n
  ·subst e;exact Nat.add_lt_add_of_le_of_lt (zKx fun j hj=>h j (by omega)) hlt
  ·exact Nat.add_lt_add_of_lt_of_le (zXc (fun j hj=>h j (by omega)) k (by omega) hlt) (h n (by omega))
theorem zLy{f:Nat->Nat}{B:Nat}:∀ {n:Nat},(∀ k,k<n->f k<=B)->sumR f n<=B*n
 | 0,_=>Nat.zero_le _
 | n+1,h=>by
  have:=zLy (n:=n) fun k hk=>h k (by omega)
  have:=h n (by omega)
  show sumR f n+f n<=B*(n+1)
  rw [Nat.mul_succ];omega
def zSu(s:zAa):Nat:=sumR (fun k=>(s.line k).heard) s.lines.length
theorem yBb{s:zAa}(h:Safe s):zSu s<=500*s.lines.length:=zLy fun k hk=>by
 have hL:=h.line k hk
 have hm:=h.head_mem hk
 exact Nat.le_trans (hL.heard _ hm) (hL.few _ hm)
structure zBv(s s':zAa):Prop where
 safe:Safe s'
 held:Held s'
 mv:zGx s s'
 fin:zGo s s'
 down:s'.net.down=s.net.down
 few:s.net.way.length<=200->s'.net.way.length<=200
theorem zBv.refl{s:zAa}(h:Safe s)(hH:Held s):zBv s s:=⟨h,hH,zGx.refl s,zGo.refl s,rfl,id⟩
theorem zBv.trans{a b c:zAa}(h:zBv a b)(k:zBv b c):zBv a c:=⟨k.safe,k.held,h.mv.trans k.mv,h.fin.trans k.fin,k.down.trans h.down,fun e=>k.few (h.few e)⟩
theorem zKs.toS{s s':zAa}(h:zKs s s'):zBv s s':=⟨h.safe,h.held,h.mv,h.fin,by rw [h.same.net],fun e=>by rw [h.same.net];exact e⟩
theorem zCk.toS{s s':zAa}(h:zCk s s')(hS:Safe s')(hH:Held s):zBv s s':=⟨hS,hH.lines h.keys h.txs,h.mv,zGo.of h.txs,h.down,h.few⟩
theorem zJq{s:zAa}(h:Safe s)(hH:Held s):zBv s (zEe (zHz s))/\zSu s+(if zDo s then 1 else 0)<=zSu (zEe (zHz s)):=by
 obtain ⟨a,b⟩:=zMk h hH
 obtain ⟨c,d,_⟩:=zDv a.safe
 refine ⟨a.toS.trans (d.toS c a.held),?_⟩
 have e:zSu (zEe (zHz s))=sumR (fun k=>((zHz s).line k).heard) s.lines.length:=by
  unfold zSu
  rw [d.mv.ll,a.same.ll]
  simp only [d.heard]
 rw [e]
 split
 ·rename_i hn
  have:∃ k,k<s.lines.length/\zGb s k≠[]:=by
   apply Classical.byContradiction
   intro hx
   have:zDo s=false:=zNk.2 fun k hk=>Classical.byContradiction fun q=>hx ⟨k,hk,q⟩
   rw [this] at hn;cases hn
  obtain ⟨k,hk,hne⟩:=this
  refine zXc (fun j hj=>a.heard j) k hk ?_
  have e1:=b k hk
  unfold zGb zGe at e1 hne
  rw [a.same.nodes,List.drop_eq_nil_iff] at e1
  rw [Ne,List.drop_eq_nil_iff] at hne
  omega
 ·exact zKx (fun j hj=>a.heard j)
theorem zQf:∀ (n:Nat) {s:zAa},Safe s->Held s->zBv s (settleF n s)
 | 0,s,h,hH=>zBv.refl h hH
 | n+1,s,h,hH=>by
  unfold settleF
  split
  ·have q:=(zJq h hH).1
   exact q.trans (zQf n q.safe q.held)
  ·exact zBv.refl h hH
theorem zRy:∀ (n:Nat) {s:zAa},Safe s->Held s->500*s.lines.length - zSu s<n->zDo (settleF n s)=false
 | 0,s,h,hH,hn=>by omega
 | n+1,s,h,hH,hn=>by
  unfold settleF
  by_cases e:zDo s=true
  ·rw [if_pos e]
   obtain ⟨q,hq⟩:=zJq h hH
   rw [if_pos e] at hq
   have:=yBb q.safe
   rw [q.mv.ll] at this
   exact zRy n q.safe q.held (by rw [q.mv.ll];omega)
  ·rw [if_neg e];simpa using e
theorem zGa{s:zAa}(h:Safe s)(hH:Held s):zBv s (zCo s)/\zDo (zCo s)=false:=by
 unfold zCo
 exact ⟨zQf _ h hH,zRy _ h hH (by omega)⟩
end Go.Proofs.YtogaigioeohjaaaGreatDoor
