import Derived.Test.YtogaigioeohjaaaGreatDoorD27
set_option linter.unusedVariables false
set_option maxRecDepth 100000
set_option maxHeartbeats 16000000
namespace Go.Proofs.YtogaigioeohjaaaGreatDoor
theorem Safe.keys{s:zAa}(h:Safe s)(keys:Tab):Safe { s with keys:=keys }:=
 h.txs (s':={ s with keys:=keys }) rfl rfl h.tl (fun k c _ _ q=>q.same rfl rfl rfl) (fun id h1 h2=>(h.tx id h1 h2).same rfl rfl)
theorem zPa(s:zAa)(i:Int):(wound1 s i).txs.length=s.txs.length:=(zBk.wound1 s i).len
theorem Safe.wound1{s:zAa}(h:Safe s){i:Int}(h1:1<=i/\i<=(s.txs.length:Int)):Safe (wound1 s i):=by
 unfold Go.Proofs.YtogaigioeohjaaaGreatDoor.wound1
 split
 ·rename_i e;exact h.abort (by omega) (by omega) e
 ·exact h
theorem Safe.wound:∀ (ids:List Int) {s:zAa},Safe s->(∀ i∈ids,1<=i/\i<=(s.txs.length:Int))->Safe (zBz s ids)
 | [],s,h,_=>h
 | i :: ids,s,h,hi=>by
  show Safe (zBz (Go.Proofs.YtogaigioeohjaaaGreatDoor.wound1 s i) ids)
  exact Safe.wound ids (h.wound1 (hi i (by simp))) (fun j hj=>by rw [zPa];exact hi j (by simp [hj]))
structure Hurt(s s':zAa)(ids:Int->Prop):Prop where
 other:∀ j:Nat,1<=j->¬ ids j->s'.tx j=s.tx j
 same:zBk s s'
theorem Hurt.refl(s:zAa)(ids:Int->Prop):Hurt s s ids:=⟨fun _ _ _=>rfl,zBk.refl s⟩
theorem zIt(s:zAa){id j:Nat}(h:j - 1≠id - 1):(zBh s id).tx j=s.tx j:=by
 unfold zBh zDe
 split
 ·show (setTx (setTx s id _) id _).tx j=_
  rw [zFb _ _ h,zFb _ _ h]
 ·exact zFb _ _ h
theorem Hurt.wound:∀ (ids:List Int) (s:zAa),(∀ i∈ids,1<=i)->Hurt s (zBz s ids) (fun x=>x∈ids)
 | [],s,_=>Hurt.refl s _
 | i :: ids,s,hi=>by
  have ih:=Hurt.wound ids (Go.Proofs.YtogaigioeohjaaaGreatDoor.wound1 s i) (fun j hj=>hi j (by simp [hj]))
  refine ⟨fun j hj hn=>?_,zBk.wound _ _⟩
  show (zBz (Go.Proofs.YtogaigioeohjaaaGreatDoor.wound1 s i) ids).tx j=_
  rw [ih.other j hj (fun q=>hn (by simp [q]))]
  unfold Go.Proofs.YtogaigioeohjaaaGreatDoor.wound1
  have:=hi i (by simp)
  split
  ·exact zIt s (fun e=>hn (by simp [show (j:Int)=i by omega]))
  ·rfl
theorem yKu{s:zAa}(h:2<=s.lines.length)(key:ByteArray):zAv s key<decH s:=Nat.mod_lt _ (by unfold decH;omega)
theorem setD(l:List Int)(k j:Nat)(x:Int):(l.set k x).getD j 0=if j=k/\j<l.length then x else l.getD j 0:=by
 rw [List.getD_eq_getElem?_getD,zDn]
 split
 ·rfl
 ·rw [List.getD_eq_getElem?_getD]
theorem Safe.came{s:zAa}(h:Safe s){id k:Nat}(h1:1<=id)(h2:id<=s.txs.length)(ho:(s.tx id).state=1)(hk:k<decH s):Safe (zIs s id k):=by
 have hx:=h.tx id h1 h2
 have et:(setTx s id { s.tx id with ats:=(s.tx id).ats.set k 1 }).tx id={ s.tx id with ats:=(s.tx id).ats.set k 1 }:=zFx s _ h1 h2
 have key:=h.setOpen (keys:=s.keys) (t:={ s.tx id with ats:=(s.tx id).ats.set k 1 }) h1 h2 ho
 refine key ?_
 show TxOK (setTx s id { s.tx id with ats:=(s.tx id).ats.set k 1 }) id
 refine ⟨?_,?_,?_,?_,?_,?_,?_,?_,?_⟩
 all_goals rw [et]
 ·show ((s.tx id).ats.set k 1).length=s.lines.length;rw [List.length_set];exact hx.len
 ·exact hx.st
 ·intro j;show 0<=((s.tx id).ats.set k 1).getD j 0/\_<=_;rw [setD]
  split
  ·omega
  ·exact hx.rng j
 ·show ((s.tx id).ats.set k 1).getD (decH s) 0=0;rw [setD,if_neg (by omega)];exact hx.dec
 ·intro _ j;show ((s.tx id).ats.set k 1).getD j 0≠2;rw [setD]
  split
  ·omega
  ·exact hx.op ho j
 ·intro j hj hj2
  have hj2':((s.tx id).ats.set k 1).getD j 0=2:=hj2
  rw [setD] at hj2'
  split at hj2'
  ·omega
  ·exact absurd hj2' (hx.op ho j)
 ·intro hs;have hs':(s.tx id).state=3:=hs;omega
 ·exact hx.tm
 ·exact hx.few
theorem Safe.write{s:zAa}(h:Safe s){id:Nat}{ws:List zAz}{st:Int}(h1:1<=id)(h2:id<=s.txs.length)(ho:(s.tx id).state=1)(hw:ws.length<=20/\∀ p∈ws,p.key.size<=20)(hs:st=1\/st=2):Safe (setTx s id { s.tx id with state:=st,writes:=ws }):=by
 have hx:=h.tx id h1 h2
 have et:(setTx s id { s.tx id with state:=st,writes:=ws }).tx id={ s.tx id with state:=st,writes:=ws }:=zFx s _ h1 h2
 refine h.setOpen (keys:=s.keys) (t:={ s.tx id with state:=st,writes:=ws }) h1 h2 ho ?_
 show TxOK (setTx s id { s.tx id with state:=st,writes:=ws }) id
 refine ⟨?_,?_,?_,?_,?_,?_,?_,?_,?_⟩
 all_goals rw [et]
 ·exact hx.len
 ·show 1<=st/\st<=4;omega
 ·exact hx.rng
 ·exact hx.dec
 ·intro _;exact hx.op ho
 ·intro j hj hj2;exact absurd hj2 (hx.op ho j)
 ·intro hs';have:st=3:=hs';omega
 ·exact hx.tm
 ·exact hw
theorem yMw(l:List zAl)(a:Int)(ho:l.Pairwise fun a b=>a.id<b.id)(hr:∀ n∈l,a<=n.id/\n.id<a+4):l.length<=4:=by
 match l,ho,hr with
 | [],_,_=>simp
 | [_],_,_=>simp
 | [_,_],_,_=>simp
 | [_,_,_],_,_=>simp
 | [_,_,_,_],_,_=>simp
 | x0 :: x1 :: x2 :: x3 :: x4 :: l,ho,hr=>
  simp only [List.pairwise_cons] at ho
  have a1:=ho.1 x1 (by simp)
  have a2:=ho.2.1 x2 (by simp)
  have a3:=ho.2.2.1 x3 (by simp)
  have a4:=ho.2.2.2.1 x4 (by simp)
  have b0:=hr x0 (by simp)
  have b4:=hr x4 (by simp)
  omega
theorem Safe.shape{s:zAa}(h:Safe s):zGd s:=by
 refine ⟨by have:=h.ll;omega,fun l hl=>?_,h.tl,fun t ht=>?_,fun t ht=>?_⟩
 ·obtain ⟨i,hi⟩:=List.getElem?_of_mem hl
  have hil:=(List.getElem?_eq_some_iff.1 hi).1
  have e:=zBj hil
  rw [hi] at e
  have e':=Option.some.inj e
  rw [e']
  have q:=h.line i hil
  have:=List.length_pos_iff.2 q.ne
  obtain ⟨E,h1,h2,_⟩:=q.ep
  refine ⟨by omega,?_⟩
  have hr:=q.rng
  have ho:=q.ord
  exact yMw ((s.line i).nodes) (10*(i:Int)) (ho.imp fun q=>q.1) hr
 ·obtain ⟨i,hi⟩:=List.getElem?_of_mem ht
  have hil:=(List.getElem?_eq_some_iff.1 hi).1
  have e:=zIj (s:=s) (id:=i+1) (by omega) (by omega)
  rw [Nat.add_sub_cancel,hi] at e
  rw [Option.some.inj e]
  exact (h.tx (i+1) (by omega) (by omega)).len
 ·obtain ⟨i,hi⟩:=List.getElem?_of_mem ht
  have hil:=(List.getElem?_eq_some_iff.1 hi).1
  have e:=zIj (s:=s) (id:=i+1) (by omega) (by omega)
  rw [Nat.add_sub_cancel,hi] at e
  rw [Option.some.inj e]
  exact (h.tx (i+1) (by omega) (by omega)).few.1
def yEj(s:zAa):List Int:=((List.range s.txs.length).map fun (i:Nat)=>(i:Int)+1).filter fun o=>decide ((s.tx o.toNat).state=2)
theorem zFh{s:zAa}{x:Int}:x∈yEj s↔1<=x/\x<=(s.txs.length:Int)/\(s.tx x.toNat).state=2:=by
 unfold yEj
 simp only [List.mem_filter,List.mem_map,List.mem_range,decide_eq_true_eq]
 constructor
 ·rintro ⟨⟨i,hi,rfl⟩,h⟩;exact ⟨by omega,by omega,h⟩
 ·rintro ⟨h1,h2,h3⟩;exact ⟨⟨(x - 1).toNat,by omega,by omega⟩,h3⟩
structure zDz(X:List Int)(s:zAa):Prop where
 apart:∀ k,zJi (X++yEj s) (s.keys k)
 hold:∀ k,∀ c∈(s.keys k).held,1<=c.tx/\c.tx<=(s.txs.length:Int)/\((s.tx c.tx.toNat).state=1\/(s.tx c.tx.toNat).state=2)
 wait:∀ k,∀ c∈(s.keys k).waits,1<=c.tx/\c.tx<=(s.txs.length:Int)/\(s.tx c.tx.toNat).state=1
 small:∀ k:ByteArray,20<k.size->(s.keys k).held=[]/\(s.keys k).waits=[]
abbrev Held(s:zAa):Prop:=zDz [] s
theorem zDz.ki{X:List Int}{s:zAa}(h:zDz X s):zGw s.txs.length s.keys:=fun k c hc=>by
 rcases hc with hc | hc
 ·exact ⟨(h.hold k c hc).1,(h.hold k c hc).2.1⟩
 ·exact ⟨(h.wait k c hc).1,(h.wait k c hc).2.1⟩
theorem ySq{s:Tab}{t:Int}{k:ByteArray}(h:zHg (s k)):(∀ c∈(relN s t k).held,c∈(s k).held\/c∈(s k).waits)/\∀ c∈(relN s t k).waits,c∈(s k).waits:=by
 unfold relN
 split
 ·unfold outN
  refine ⟨fun c hc=>?_,fun c hc=>?_⟩
  ·rcases (zHi _ _ _ c).1 hc with q | q
   ·exact .inl (zBq.1 q).1
   ·exact .inr (zBq.1 q).1
  ·rcases (zHi _ _ _ c).2.1 hc with q | q
   ·simp at q
   ·exact (zBq.1 q).1
 ·exact ⟨fun c hc=>.inl hc,fun c hc=>hc⟩
theorem zDz.leave{X Y:List Int}{s s':zAa}{i:Int}(h:zDz X s)(hk:s'.keys=relN s.keys i)(hl:s'.txs.length=s.txs.length)(hs:∀ j:Nat,1<=j->(j:Int)≠i->(s'.tx j).state=(s.tx j).state)(hY:∀ x∈X,x=i\/x∈Y):zDz Y s':=by
 have hgone:=fun k=>yFh (h.apart k).ok i
 have hsub:=fun k=>ySq (t:=i) (h.apart k).ok
 have hst:∀ x:Int,1<=x->x≠i->(s'.tx x.toNat).state=(s.tx x.toNat).state:=fun x h1 h2=>hs x.toNat (by omega) (by omega)
 refine ⟨fun k=>?_,fun k c hc=>?_,fun k c hc=>?_,fun k hsz=>?_⟩
 ·rw [hk]
  refine yOe (W:=Y++yEj s') (fun k=>(h.apart k).more fun x hx=>?_) k
  by_cases e:x=i
  ·simp [e]
  ·refine List.mem_cons_of_mem _ (List.mem_append.2 ?_)
   rcases List.mem_append.1 hx with q | q
   ·exact .inl ((hY x q).resolve_left e)
   ·obtain ⟨q1,q2,q3⟩:=zFh.1 q
    exact .inr (zFh.2 ⟨q1,by rw [hl];exact q2,by rw [hst x q1 e];exact q3⟩)
 ·rw [hk] at hc
  have hne:=(hgone k).1 c hc
  rw [hl]
  rcases (hsub k).1 c hc with q | q
  ·obtain ⟨q1,q2,q3⟩:=h.hold k c q
   exact ⟨q1,q2,by rw [hst _ q1 hne];exact q3⟩
  ·obtain ⟨q1,q2,q3⟩:=h.wait k c q
   exact ⟨q1,q2,.inl (by rw [hst _ q1 hne];exact q3)⟩
 ·rw [hk] at hc
  have hne:=(hgone k).2 c hc
  rw [hl]
  obtain ⟨q1,q2,q3⟩:=h.wait k c ((hsub k).2 c hc)
  exact ⟨q1,q2,by rw [hst _ q1 hne];exact q3⟩
 ·rw [hk]
  obtain ⟨z1,z2⟩:=h.small k hsz
  have hs:=hsub k
  rw [z1,z2] at hs
  exact ⟨List.eq_nil_iff_forall_not_mem.2 fun c hc=>by simpa using hs.1 c hc,List.eq_nil_iff_forall_not_mem.2 fun c hc=>by simpa using hs.2 c hc⟩
theorem zWo(s:zAa)(id:Nat):(zBh s id).keys=relN s.keys id:=by
 unfold zBh zDe;split <;> rfl
theorem zDz.abort{X Y:List Int}{s:zAa}(h:zDz X s)(id:Nat)(hid:1<=id)(hY:∀ x∈X,x=(id:Int)\/x∈Y):zDz Y (zBh s id):=
 h.leave (zWo s id) (zMn s id) (fun j hj hne=>by rw [zIt s (by omega)]) hY
theorem zDz.wound1{X:List Int}{s:zAa}(h:zDz X s){i:Int}(hi:1<=i):zDz X (wound1 s i):=by
 unfold Go.Proofs.YtogaigioeohjaaaGreatDoor.wound1
 split
 ·exact h.abort i.toNat (by omega) (fun x hx=>.inr hx)
 ·exact h
theorem zDz.wounded{X:List Int}{s:zAa}{i:Int}(h:zDz (i :: X) s)(hi:1<=i)(hil:i<=(s.txs.length:Int)):zDz X (Go.Proofs.YtogaigioeohjaaaGreatDoor.wound1 s i):=by
 unfold Go.Proofs.YtogaigioeohjaaaGreatDoor.wound1
 split
 ·exact h.abort i.toNat (by omega) (fun x hx=>(List.mem_cons.1 hx).imp (fun e=>by omega) id)
 ·rename_i hne
  refine ⟨fun k=>?_,h.hold,h.wait,h.small⟩
  by_cases h2:(s.tx i.toNat).state=2
  ·refine (h.apart k).more fun x hx=>?_
   rcases List.mem_cons.1 hx with q | q
   ·rw [q];exact List.mem_append.2 (.inr (zFh.2 ⟨hi,hil,h2⟩))
   ·exact q
  ·refine zJi.less (t:=i) (h.apart k) (fun c hc e=>?_)
   have:=(h.hold k c hc).2.2
   rw [e] at this;omega
theorem zDz.wounds:∀ {ids X:List Int} {s:zAa},zDz X s->(∀ i∈ids,1<=i)->zDz X (zBz s ids)
 | [],_,_,h,_=>h
 | i :: ids,X,s,h,hi=>zDz.wounds (s:=Go.Proofs.YtogaigioeohjaaaGreatDoor.wound1 s i) (h.wound1 (hi i (by simp))) (fun j hj=>hi j (by simp [hj]))
theorem zDz.woundAll:∀ {ids X:List Int} {s:zAa},zDz (ids++X) s->(∀ i∈ids,1<=i/\i<=(s.txs.length:Int))->zDz X (zBz s ids)
 | [],_,_,h,_=>h
 | i :: ids,X,s,h,hi=>zDz.woundAll (s:=Go.Proofs.YtogaigioeohjaaaGreatDoor.wound1 s i) (zDz.wounded (i:=i) (X:=ids++X) h (hi i (by simp)).1 (hi i (by simp)).2) (fun j hj=>by rw [zPa];exact hi j (by simp [hj]))
theorem zDz.locked{X:List Int}{s:zAa}(h:zDz X s){id:Int}(h1:1<=id)(h2:id<=(s.txs.length:Int))(ho:(s.tx id.toNat).state=1)(key:ByteArray)(hks:key.size<=20){mode:Int}(hm:mode=1\/mode=2):zDz ((zAw s id key mode).2.1++X) (zAw s id key mode).1/\∀ x∈(zAw s id key mode).2.1,id<x:=by
 have ha:=yJm (c:=⟨id,mode⟩) (h.apart key) hm
 have hmem:∀ c,c∈(zCx (s.keys key) ⟨id,mode⟩).1.held->c∈(s.keys key).held\/c.tx=id:=fun c hc=>by
  unfold zCx at hc
  split at hc
  ·exact .inl hc
  split at hc
  ·exact .inl hc
  split at hc
  ·rcases (zCa (h.apart key).ok.held _ c).1 hc with q | q
   ·exact .inr (by rw [q])
   ·exact .inl q.1
  split at hc
  ·exact .inl hc
  ·exact .inl hc
 have hmew:∀ c,c∈(zCx (s.keys key) ⟨id,mode⟩).1.waits->c∈(s.keys key).waits\/c.tx=id:=fun c hc=>by
  unfold zCx at hc
  split at hc
  ·exact .inl hc
  split at hc
  ·exact .inl hc
  split at hc
  ·exact .inl hc
  split at hc
  ·exact .inl hc
  ·rcases (zCa (h.apart key).ok.waits _ c).1 hc with q | q
   ·exact .inr (by rw [q])
   ·exact .inl q.1
 refine ⟨⟨fun k=>?_,fun k c hc=>?_,fun k c hc=>?_,fun k hsz=>?_⟩,ha.2⟩
 ·show zJi _ (updK s.keys key _ k)
  by_cases e:k=key
  ·subst e
   rw [zFu]
   exact ha.1.more fun x hx=>by
    rw [List.append_assoc];exact hx
  ·rw [zGq e]
   exact (h.apart k).more fun x hx=>by
    rw [List.append_assoc];exact List.mem_append.2 (.inr hx)
 ·have hc':c∈(updK s.keys key (zCx (s.keys key) ⟨id,mode⟩).1 k).held:=hc
  by_cases e:k=key
  ·subst e
   rw [zFu] at hc'
   rcases hmem c hc' with q | q
   ·exact h.hold k c q
   ·rw [q];exact ⟨h1,h2,.inl ho⟩
  ·rw [zGq e] at hc'
   exact h.hold k c hc'
 ·have hc':c∈(updK s.keys key (zCx (s.keys key) ⟨id,mode⟩).1 k).waits:=hc
  by_cases e:k=key
  ·subst e
   rw [zFu] at hc'
   rcases hmew c hc' with q | q
   ·exact h.wait k c q
   ·rw [q];exact ⟨h1,h2,ho⟩
  ·rw [zGq e] at hc'
   exact h.wait k c hc'
 ·show (updK s.keys key _ k).held=[]/\(updK s.keys key _ k).waits=[]
  rw [zGq (fun e=>by rw [e] at hsz;omega)]
  exact h.small k hsz
theorem Safe.locked{s:zAa}(h:Safe s)(id:Int)(key:ByteArray)(mode:Int):Safe (zAw s id key mode).1:=h.keys _
theorem yAe{s:zAa}{id o:Int}{key:ByteArray}(h:o∈zDa s id key):o≠id:=by
 unfold zDa at h
 simp only [List.mem_filter,Bool.and_eq_true,decide_eq_true_eq] at h
 exact h.2.1
structure Cut(s s':zAa):Prop where
 len:s'.txs.length=s.txs.length
 tx:∀ j:Nat,1<=j->s'.tx j=s.tx j\/((s.tx j).state=1/\(s'.tx j).state=4/\∀ k,(s'.tx j).ats.getD k 0=0)
theorem Cut.refl(s:zAa):Cut s s:=⟨rfl,fun _ _=>.inl rfl⟩
theorem Cut.trans{a b c:zAa}(h:Cut a b)(k:Cut b c):Cut a c:=by
 refine ⟨k.len.trans h.len,fun j hj=>?_⟩
 rcases h.tx j hj with q | q <;> rcases k.tx j hj with p | p
 ·exact .inl (p.trans q)
 ·rw [q] at p;exact .inr p
 ·rw [p];exact .inr q
 ·omega
theorem Cut.abort{s:zAa}{id:Nat}(h1:1<=id)(h2:id<=s.txs.length)(ho:(s.tx id).state=1):Cut s (zBh s id):=by
 refine ⟨zMn s id,fun j hj=>?_⟩
 by_cases e:j=id
 ·subst e
  right
  have e:(zBh s j).tx j={ s.tx j with state:=4,writes:=[],ats:=(s.tx j).ats.map fun _=>0 }:=by
   unfold zBh zDe
   rw [if_pos ho,zFx s _ h1 h2]
   show (setTx (setTx s j _) j _).tx j=_
   rw [zFx _ _ h1 (by rw [zBd];exact h2)]
  rw [e]
  exact ⟨ho,rfl,fun k=>zOo _ _⟩
 ·exact .inl (zIt s (by omega))
theorem Cut.wound1{s:zAa}{i:Int}(h:1<=i/\i<=(s.txs.length:Int)):Cut s (wound1 s i):=by
 unfold Go.Proofs.YtogaigioeohjaaaGreatDoor.wound1
 split
 ·rename_i e;exact Cut.abort (by omega) (by omega) e
 ·exact Cut.refl s
theorem Cut.wound:∀ (ids:List Int) {s:zAa},(∀ i∈ids,1<=i/\i<=(s.txs.length:Int))->Cut s (zBz s ids)
 | [],s,_=>Cut.refl s
 | i :: ids,s,hi=>(Cut.wound1 (hi i (by simp))).trans (Cut.wound ids (s:=Go.Proofs.YtogaigioeohjaaaGreatDoor.wound1 s i) (fun j hj=>by rw [zPa];exact hi j (by simp [hj])))
structure Lock2(s:zAa)(id:Nat)(a:zAa × List Int × Int):Prop where
 safe:Safe a.1
 held:zDz a.2.1 a.1
 wd:∀ x∈a.2.1,(id:Int)<x/\1<=x/\x<=(s.txs.length:Int)
 me:a.1.tx id=s.tx id
 same:zBk s a.1
 cut:Cut s a.1
theorem zVk{s:zAa}(hS:Safe s)(hH:Held s){id:Nat}(h1:1<=id)(h2:id<=s.txs.length)(ho:(s.tx id).state=1)(key:ByteArray)(hks:key.size<=20){mode:Int}(hm:mode=1\/mode=2):Lock2 s id (zBs s id key mode):=by
 have hi1:(1:Int)<=(id:Int):=by omega
 have hi2:(id:Int)<=(s.txs.length:Int):=by omega
 obtain ⟨l1,l2⟩:=hH.locked hi1 hi2 (by simpa using ho) key hks hm
 have lin:∀ x∈(zAw s id key mode).2.1,1<=x/\x<=(s.txs.length:Int):=fun x hx=>by
  obtain ⟨d,hd,rfl⟩:=zJa _ _ x hx
  exact hH.ki key d (.inl hd)
 unfold zBs
 simp only
 split
 ·have hoth:∀ i∈zDa (zAw s id key mode).1 id key,(1<=i/\i<=(s.txs.length:Int))/\i≠(id:Int):=fun i hi=>(have q:=zKg hi;⟨q,yAe hi⟩)
  obtain ⟨A,hA⟩:∃ A,A=(zAw s id key mode).1:=⟨_,rfl⟩
  obtain ⟨B,hB⟩:∃ B,B=zBz A (zDa A id key):=⟨_,rfl⟩
  rw [<-hA] at hoth ⊢
  rw [<-hB]
  have hAS:Safe A:=by rw [hA];exact hS.locked _ _ _
  have hw0:∀ k:KeyS,(zCx k ⟨(id:Int),mode⟩).2.2.2=4->(zCx k ⟨(id:Int),mode⟩).2.2.1=[]:=fun k e=>by
   revert e
   unfold zCx
   split
   ·simp
   split
   ·simp
   split
   ·simp
   split
   ·simp
   ·simp
  have hAH:Held A:=by
   have e:=hw0 (s.keys key) (by rename_i q;exact q.1)
   have e':(zAw s id key mode).2.1=[]:=e
   rw [e'] at l1
   rw [hA];exact l1
  have hAt:A.txs=s.txs:=by rw [hA];rfl
  have hAx:∀ j,A.tx j=s.tx j:=fun j=>by unfold zAa.tx;rw [hAt]
  have hBS:Safe B:=by rw [hB];exact Safe.wound _ hAS (fun i hi=>by rw [hAt];exact (hoth i hi).1)
  have hBH:Held B:=by rw [hB];exact hAH.wounds (fun i hi=>(hoth i hi).1.1)
  have hBu:=Hurt.wound (zDa A id key) A (fun i hi=>(hoth i hi).1.1)
  rw [<-hB] at hBu
  have hBm:B.tx id=s.tx id:=by rw [hBu.other id h1 (fun q=>(hoth _ q).2 rfl),hAx]
  have hBl:B.txs.length=s.txs.length:=by rw [hBu.same.len,hAt]
  obtain ⟨m1,m2⟩:=hBH.locked hi1 (by rw [hBl];exact hi2) (by rw [Int.toNat_natCast,hBm];exact ho) key hks hm
  refine ⟨hBS.locked _ _ _,by simpa using m1,fun x hx=>?_,hBm,?_,?_⟩
  ·obtain ⟨d,hd,e⟩:=zJa _ _ x hx
   have:=hBH.ki key d (.inl hd)
   rw [hBl] at this
   exact ⟨m2 x hx,by omega,by omega⟩
  ·have hs1:zBk s A:=⟨by rw [hA];rfl,by rw [hA];rfl,by rw [hA];rfl,by rw [hAt],fun j=>by rw [hAx]⟩
   have:=hs1.trans hBu.same
   exact ⟨this.l,this.d,this.net,this.len,this.at_⟩
  ·have hc:=Cut.wound (zDa A id key) (s:=A) (fun i hi=>by rw [hAt];exact (hoth i hi).1)
   rw [<-hB] at hc
   exact ⟨by show B.txs.length=_;rw [hc.len,hAt],fun j hj=>by
    have:=hc.tx j hj
    rw [hAx] at this
    exact this⟩
 ·exact ⟨hS.locked _ _ _,by simpa using l1,fun x hx=>⟨l2 x hx,lin x hx⟩,rfl,⟨rfl,rfl,rfl,rfl,fun _=>rfl⟩,⟨rfl,fun _ _=>.inl rfl⟩⟩
structure yOk(s:zAa)(id k:Nat)(r:zAa):Prop where
 safe:Safe r
 held:Held r
 st:(r.tx id).state=1
 wr:(r.tx id).writes=(s.tx id).writes
 ats:(r.tx id).ats=(s.tx id).ats\/(r.tx id).ats=(s.tx id).ats.set k 1
 tm:(r.tx id).time=(s.tx id).time
 same:zBk s r
 cut:∀ j:Nat,1<=j->j≠id->r.tx j=s.tx j\/((s.tx j).state=1/\(r.tx j).state=4/\∀ k,(r.tx j).ats.getD k 0=0)
theorem zDz.came{X:List Int}{s:zAa}(h:zDz X s){id k:Nat}(h1:1<=id)(h2:id<=s.txs.length):zDz X (zIs s id k):=by
 have e:∀ j:Nat,1<=j->((zIs s id k).tx j).state=(s.tx j).state:=fun j hj=>by
  show ((setTx s id _).tx j).state=_
  rw [zJp s id _ hj h1 h2]
  split
  ·rename_i q;rw [q]
  ·rfl
 have hl:(zIs s id k).txs.length=s.txs.length:=zBd _ _ _
 refine ⟨fun key=>(h.apart key).more fun x hx=>?_,fun key c hc=>?_,fun key c hc=>?_,h.small⟩
 ·rcases List.mem_append.1 hx with q | q
  ·exact List.mem_append.2 (.inl q)
  ·obtain ⟨q1,q2,q3⟩:=zFh.1 q
   exact List.mem_append.2 (.inr (zFh.2 ⟨q1,by rw [hl];exact q2,by rw [e _ (by omega)];exact q3⟩))
 ·obtain ⟨q1,q2,q3⟩:=h.hold key c hc
  exact ⟨q1,by rw [hl];exact q2,by rw [e _ (by omega)];exact q3⟩
 ·obtain ⟨q1,q2,q3⟩:=h.wait key c hc
  exact ⟨q1,by rw [hl];exact q2,by rw [e _ (by omega)];exact q3⟩
theorem zHm{s:zAa}(hS:Safe s)(hH:Held s){id:Nat}(h1:1<=id)(h2:id<=s.txs.length)(ho:(s.tx id).state=1)(key:ByteArray)(hks:key.size<=20){mode:Int}(hm:mode=1\/mode=2):yOk s id (zAv s key) (zBw s id key mode).1:=by
 have hL:=zVk hS hH h1 h2 ho key hks hm
 have hnil:(zBs s id key mode).2.2≠0->(zBs s id key mode).2.1=[]:=by
  have hw0:∀ k:KeyS,(zCx k ⟨(id:Int),mode⟩).2.2.2≠0->(zCx k ⟨(id:Int),mode⟩).2.2.1=[]:=fun k e=>by
   revert e
   unfold zCx
   split
   ·simp
   split
   ·simp
   split
   ·simp
   split
   ·simp
   ·simp
  unfold zBs
  simp only
  split
  ·exact hw0 _
  ·exact hw0 _
 unfold zBw
 simp only
 have stay:(zBs s id key mode).2.2≠0->yOk s id (zAv s key) (zBs s id key mode).1:=fun hne=>by
  have hh:=hL.held
  rw [hnil hne] at hh
  exact ⟨hL.safe,hh,by rw [hL.me];exact ho,by rw [hL.me],.inl (by rw [hL.me]),by rw [hL.me],hL.same,fun j hj _=>hL.cut.tx j hj⟩
 split
 ·rename_i e;exact stay (by rw [e];simp)
 split
 ·rename_i e;exact stay (by rw [e];simp)
 obtain ⟨A,hA⟩:∃ A,A=zBs s id key mode:=⟨_,rfl⟩
 rw [<-hA] at hL ⊢
 have hAl:A.1.lines=s.lines:=hL.same.l
 have hsk:zAv A.1 key=zAv s key:=by unfold zAv decH;rw [hAl]
 rw [hsk,Int.toNat_natCast]
 have hAn:A.1.txs.length=s.txs.length:=hL.same.len
 have hdec:decH A.1=decH s:=by unfold decH;rw [hAl]
 have hC:Safe (zIs A.1 id (zAv s key)):=hL.safe.came h1 (by rw [hAn];exact h2) (by rw [hL.me];exact ho) (by rw [hdec];exact yKu hS.ll.1 key)
 have hCH:=hL.held.came (k:=zAv s key) h1 (by rw [hAn];exact h2)
 have hCl:(zIs A.1 id (zAv s key)).txs.length=s.txs.length:=by show (setTx _ _ _).txs.length=_;rw [zBd,hAn]
 have hin:∀ i∈A.2.1,1<=i/\i<=((zIs A.1 id (zAv s key)).txs.length:Int):=fun i hi=>by rw [hCl];exact (hL.wd i hi).2
 have hCm:(zIs A.1 id (zAv s key)).tx id={ s.tx id with ats:=(s.tx id).ats.set (zAv s key) 1 }:=by
  show (setTx A.1 id _).tx id=_
  rw [zFx _ _ h1 (by rw [hAn];exact h2),hL.me]
 have hCo:∀ j:Nat,1<=j->j≠id->(zIs A.1 id (zAv s key)).tx j=A.1.tx j:=fun j hj hne=>zFb _ _ (by omega)
 have hu:=Hurt.wound A.2.1 (zIs A.1 id (zAv s key)) (fun i hi=>(hin i hi).1)
 have hme:=hu.other id h1 (fun q=>by have:=(hL.wd _ q).1;omega)
 rw [hCm] at hme
 have hsame:zBk s (zIs A.1 id (zAv s key)):=hL.same.trans (zBk.setTx A.1 id _ (by simp))
 have hcut:=Cut.wound A.2.1 hin
 refine ⟨Safe.wound _ hC hin,zDz.woundAll (ids:=A.2.1) (X:=[]) (by simpa using hCH) hin,by rw [hme];exact ho,by rw [hme],.inr (by rw [hme]),by rw [hme],hsame.trans hu.same,fun j hj hne=>?_⟩
 have c1:=hL.cut.tx j hj
 have c2:=hcut.tx j hj
 rw [hCo j hj hne] at c2
 rcases c1 with q | q <;> rcases c2 with p | p
 ·exact .inl (p.trans q)
 ·rw [q] at p;exact .inr p
 ·rw [p];exact .inr q
 ·omega
theorem zXv:∀ (N:Nat) (l:List Nat),l.Nodup->(∀ x∈l,x<N)->l.length<=N
 | 0,l,_,h=>by
  cases l with
  | nil=>simp
  | cons a l=>have:=h a (by simp);omega
 | N+1,l,hn,h=>by
  by_cases e:N∈l
  ·have h1:=List.length_erase_of_mem e
   have h2:=zXv N (l.erase N) (hn.erase N) (fun x hx=>by
    have:=(hn.mem_erase_iff).1 hx
    have:=h x this.2
    omega)
   have:=List.length_pos_of_mem e
   omega
  ·have:=zXv N l hn (fun x hx=>by
    have:=h x hx
    have:x≠N:=fun q=>e (by rw [<-q];exact hx)
    omega)
   omega
theorem zQv.few{s:zAa}{k:Nat}{log:List CmdD}(h:zQv s k log)(hT:s.txs.length<=60):log.length<=305:=by
 have hk:∀ c∈log,2<=c.kind/\c.kind<=4/\1<=c.tx/\c.tx<=60:=fun c hc=>by
  have q:=h.all c hc
  have h1:=q.lo
  have h2:=q.hi
  by_cases e:k=decH s
  ·have:=(q.dec e).1;omega
  ·have:=q.shard e;omega
 have hnd:(log.map fun c=>(c.kind*61+c.tx).toNat).Nodup:=by
  rw [List.Nodup,List.pairwise_map]
  refine (List.Pairwise.imp_of_mem ?_ h.one)
  intro a b ha hb hab e
  have:=hk a ha
  have:=hk b hb
  apply hab
  omega
 have:=zXv 305 _ hnd (fun x hx=>by
  obtain ⟨c,hc,rfl⟩:=List.mem_map.1 hx
  have:=hk c hc
  omega)
 simpa using this
theorem Safe.headN{s:zAa}(h:Safe s){k:Nat}(hk:k<s.lines.length):headN (zAp s k)=true:=by
 unfold Go.Proofs.YtogaigioeohjaaaGreatDoor.headN
 rw [(h.line k hk).place (h.head hk)];rfl
theorem Safe.add{s:zAa}(h:Safe s){k:Nat}(hk:k<s.lines.length)(c:CmdD):addN (zAp s k) c=zFo (zAp s k) c:=by
 unfold addN
 rw [h.headN hk,if_pos]
 have:=(h.log k hk).few h.tl
 simp;omega
theorem Safe.grow{s:zAa}(h:Safe s){k:Nat}(hk:k<s.lines.length){c:CmdD}(hc:zTu s k c)(h1:∀ d∈(zAp s k).log,¬ (d.kind=c.kind/\d.tx=c.tx))(hp:k≠decH s->c.kind=3->∃ p∈(zAp s k).log,p.kind=2/\p.tx=c.tx):Safe (addH s k c):=by
 unfold addH
 rw [h.add hk]
 obtain ⟨g1,g2,g3⟩:=zJv (zAp s k) c
 have hlog:zQv s k ((zAp s k).log++[c]):=by
  have q:=h.log k hk
  refine ⟨fun d hd=>?_,List.pairwise_append.2 ⟨q.one,List.pairwise_singleton _ _,fun a ha b hb=>?_⟩,fun hd i d hi hd3=>?_⟩
  ·rcases List.mem_append.1 hd with e | e
   ·exact q.all d e
   ·simp at e;rw [e];exact hc
  ·simp at hb;subst hb;exact h1 a ha
  ·rw [List.getElem?_append] at hi
   split at hi
   ·obtain ⟨j,p,hj,hp,e1,e2⟩:=q.prep hd i d hi hd3
    exact ⟨j,p,hj,by rw [List.getElem?_append_left (by omega)];exact hp,e1,e2⟩
   ·rename_i hlt
    have hd':d=c:=by
     cases hx:i - (zAp s k).log.length with
     | zero=>rw [hx] at hi;simp at hi;exact hi.symm
     | succ x=>rw [hx] at hi;simp at hi
    subst hd'
    obtain ⟨p,hpm,e1,e2⟩:=hp hd hd3
    obtain ⟨j,hj⟩:=List.getElem?_of_mem hpm
    have:=(List.getElem?_eq_some_iff.1 hj).1
    exact ⟨j,p,by omega,by rw [List.getElem?_append_left this];exact hj,e1,e2⟩
 have hS:Safe (setNode s k 0 (zFo (zAp s k) c).1):=by
  refine h.node hk (h.head hk) g1 (by rw [g2];exact List.prefix_append _ _) ?_ (fun i p hi _=>by omega) (fun _=>by rw [g2];exact hlog)
  rw [g2]
  have:=hlog.few h.tl
  omega
 refine hS.send fun m hm=>?_
 have hk':k<(setNode s k 0 (zFo (zAp s k) c).1).lines.length:=by rw [zIl];exact hk
 refine hS.sent hk' (n:=(zFo (zAp s k) c).1) ?_ (g3 m hm)
 have e:=hS.head_mem hk'
 rw [zKd hk (h.line k hk).ne,if_pos ⟨rfl,rfl⟩] at e
 exact e
structure zGx(s s':zAa):Prop where
 ll:s'.lines.length=s.lines.length
 dead:s'.dead=s.dead
 tl:s'.txs.length=s.txs.length
 len:∀ k,(s'.line k).nodes.length=(s.line k).nodes.length
 node:∀ k (j:Nat) n,(s.line k).nodes[j]?=some n->∃ n',(s'.line k).nodes[j]?=some n'/\zKq n n'/\n.log <+: n'.log/\(zAu s n=false->n'.log=n.log)
 heard:∀ k,(s.line k).heard<=(s'.line k).heard
theorem zKq.refl(n:zAl):zKq n n:=⟨rfl,rfl,rfl⟩
theorem zKq.trans{a b c:zAl}(h:zKq a b)(k:zKq b c):zKq a c:=⟨k.id.trans h.id,k.ep.trans h.ep,k.cf.trans h.cf⟩
theorem zGx.refl(s:zAa):zGx s s:=⟨rfl,rfl,rfl,fun _=>rfl,fun k j n h=>⟨n,h,zKq.refl n,List.prefix_refl _,fun _=>rfl⟩,fun _=>Nat.le_refl _⟩
theorem zGx.trans{a b c:zAa}(h:zGx a b)(q:zGx b c):zGx a c:=by
 refine ⟨q.ll.trans h.ll,q.dead.trans h.dead,q.tl.trans h.tl,fun k=>(q.len k).trans (h.len k),fun k j n hn=>?_,fun k=>Nat.le_trans (h.heard k) (q.heard k)⟩
 obtain ⟨n1,e1,e2,e3,e7⟩:=h.node k j n hn
 obtain ⟨n2,e4,e5,e6,e8⟩:=q.node k j n1 e1
 refine ⟨n2,e4,e2.trans e5,e3.trans e6,fun hd=>?_⟩
 rw [e8 (by unfold zAu at hd ⊢;rw [h.dead,e2.id];exact hd),e7 hd]
theorem zGx.node1{s:zAa}{k j:Nat}(hk:k<s.lines.length){n n':zAl}(hj:(s.line k).nodes[j]?=some n)(hg:zKq n n')(hl:n.log <+: n'.log)(hd:zAu s n=false->n'.log=n.log):zGx s (setNode s k j n'):=by
 have hln:=fun i=>zEa s hk j n' i
 refine ⟨zIl _ _ _ _,rfl,rfl,fun i=>?_,fun i x m hm=>?_,fun i=>?_⟩
 ·rw [hln];split
  ·rename_i e;rw [e];simp
  ·rfl
 ·rw [hln]
  by_cases e:i=k
  ·subst e
   rw [if_pos rfl]
   show ∃ q,((s.line i).nodes.set j n')[x]?=some q/\_
   rw [zDn]
   by_cases e2:x=j
   ·subst e2
    rw [hj] at hm;cases hm
    exact ⟨n',by rw [if_pos ⟨rfl,(List.getElem?_eq_some_iff.1 hj).1⟩],hg,hl,hd⟩
   ·exact ⟨m,by rw [if_neg (fun q=>e2 q.1)];exact hm,zKq.refl _,List.prefix_refl _,fun _=>rfl⟩
  ·rw [if_neg e];exact ⟨m,hm,zKq.refl _,List.prefix_refl _,fun _=>rfl⟩
 ·rw [hln];split
  ·rename_i e;rw [e];exact Nat.le_refl _
  ·exact Nat.le_refl _
theorem zGx.net{s s':zAa}(h:zGx s s')(net:NetS):zGx s { s' with net:=net }:=⟨h.ll,h.dead,h.tl,h.len,h.node,h.heard⟩
structure zCk(s s':zAa):Prop where
 mv:zGx s s'
 txs:s'.txs=s.txs
 keys:s'.keys=s.keys
 down:s'.net.down=s.net.down
 heard:∀ k,(s'.line k).heard=(s.line k).heard
 few:s.net.way.length<=200->s'.net.way.length<=200
theorem zZn{s:NetS}(h:s.way.length<=200)(m:MsgD):(zFe s m).way.length<=200:=by
 unfold zFe
 split
 ·exact h
 ·rename_i e
  simp only [Bool.or_eq_true,decide_eq_true_eq,not_or] at e
  simp;omega
theorem zNw:∀ (ms:List MsgD) {s:NetS},s.way.length<=200->(zFd s ms).way.length<=200
 | [],_,h=>h
 | m :: ms,s,h=>zNw ms (zZn h m)
theorem zCk.refl(s:zAa):zCk s s:=⟨zGx.refl s,rfl,rfl,rfl,fun _=>rfl,id⟩
theorem zCk.trans{a b c:zAa}(h:zCk a b)(q:zCk b c):zCk a c:=⟨h.mv.trans q.mv,q.txs.trans h.txs,q.keys.trans h.keys,q.down.trans h.down,fun k=>(q.heard k).trans (h.heard k),fun e=>q.few (h.few e)⟩
theorem zMa:∀ (ms:List MsgD) (s:NetS),(zFd s ms).down=s.down
 | [],s=>rfl
 | m :: ms,s=>by show (zFd (zFe s m) ms).down=_;rw [zMa,zUy]
theorem zCk.node1{s:zAa}{k j:Nat}(hk:k<s.lines.length){n n':zAl}(hj:(s.line k).nodes[j]?=some n)(hg:zKq n n')(hl:n.log <+: n'.log)(hd:zAu s n=false->n'.log=n.log)(ms:List MsgD):zCk s (zLb (setNode s k j n') ms):=by
 refine ⟨(zGx.node1 hk hj hg hl hd).net _,rfl,rfl,zMa _ _,fun i=>?_,fun e=>zNw ms e⟩
 show ((setNode s k j n').line i).heard=_
 rw [zEa s hk]
 split
 ·rename_i e;rw [e]
 ·rfl
theorem zCk.add{s:zAa}(h:Safe s){k:Nat}(hk:k<s.lines.length)(hv:zAu s (zAp s k)=true)(c:CmdD):zCk s (addH s k c)/\(∀ i,zAp (addH s k c) i=if i=k then (zFo (zAp s k) c).1 else zAp s i):=by
 unfold addH
 rw [h.add hk]
 obtain ⟨g1,g2,g3⟩:=zJv (zAp s k) c
 refine ⟨zCk.node1 hk (h.head hk) g1 (by rw [g2];exact List.prefix_append _ _) (fun q=>by rw [hv] at q;cases q) _,fun i=>?_⟩
 show zAp (setNode s k 0 _) i=_
 rw [zKd hk (h.line k hk).ne]
 by_cases e:i=k
 ·rw [if_pos ⟨e,rfl⟩,if_pos e]
 ·rw [if_neg (fun q=>e q.1),if_neg e]
end Go.Proofs.YtogaigioeohjaaaGreatDoor
