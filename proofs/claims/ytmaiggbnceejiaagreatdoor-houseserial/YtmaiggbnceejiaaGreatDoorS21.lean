import Derived.Test.YtmaiggbnceejiaaGreatDoorS20
set_option linter.unusedVariables false
set_option maxRecDepth 100000
set_option maxHeartbeats 16000000
namespace Go.Proofs.YtmaiggbnceejiaaGreatDoor
theorem Safe.keys{s:dX}(h:Safe s)(keys:fy):Safe { s with keys:=keys }:=
 h.dW (s':={ s with keys:=keys }) rfl rfl h.tl (fun k c _ _ q=>q.same rfl rfl rfl) (fun id h1 h2=>(h.tx id h1 h2).same rfl rfl)
theorem RY(s:dX)(i:Int):(eH s i).dW.length=s.dW.length:=(gG.eH s i).len
theorem Safe.eH{s:dX}(h:Safe s){i:Int}(h1:1<=i/\i<=(s.dW.length:Int)):Safe (eH s i):=by
 unfold Go.Proofs.YtmaiggbnceejiaaGreatDoor.eH;split
 ·rename_i e;exact h.abort (by omega) (by omega) e
 ·exact h
theorem Safe.fc:∀ (ids:List Int) {s:dX},Safe s->(∀ i∈ids,1<=i/\i<=(s.dW.length:Int))->Safe (jV s ids)
 | [],s,h,_=>h
 | i :: ids,s,h,hi=>by
  show Safe (jV (Go.Proofs.YtmaiggbnceejiaaGreatDoor.eH s i) ids);exact Safe.fc ids (h.eH (hi i (by simp))) (fun j hj=>by rw [RY];exact hi j (by simp [hj]))
structure sM(s s':dX)(ids:Int->Prop):Prop where
 other:∀ j:Nat,1<=j->¬ ids j->s'.tx j=s.tx j
 same:gG s s'
theorem sM.refl(s:dX)(ids:Int->Prop):sM s s ids:=⟨fun _ _ _=>rfl,gG.refl s⟩
theorem GS(s:dX){id j:Nat}(h:j - 1≠id - 1):(gi s id).tx j=s.tx j:=by
 unfold gi oq;split
 ·show (db (db s id _) id _).tx j=_;rw [xV _ _ h,xV _ _ h]
 ·exact xV _ _ h
theorem sM.fc:∀ (ids:List Int) (s:dX),(∀ i∈ids,1<=i)->sM s (jV s ids) (fun x=>x∈ids)
 | [],s,_=>sM.refl s _
 | i :: ids,s,hi=>by
  have ih:=sM.fc ids (Go.Proofs.YtmaiggbnceejiaaGreatDoor.eH s i) (fun j hj=>hi j (by simp [hj]));refine ⟨fun j hj hn=>?_,gG.fc _ _⟩;show (jV (Go.Proofs.YtmaiggbnceejiaaGreatDoor.eH s i) ids).tx j=_;rw [ih.other j hj (fun q=>hn (by simp [q]))];unfold Go.Proofs.YtmaiggbnceejiaaGreatDoor.eH;have:=hi i (by simp);split
  ·exact GS s (fun e=>hn (by simp [show (j:Int)=i by omega]))
  ·rfl
theorem ES{s:dX}(h:2<=s.lines.length)(key:ByteArray):ee s key<du s:=dH _ (by unfold du;omega)
theorem oy(l:List Int)(k j:Nat)(x:Int):(l.set k x).getD j 0=if j=k/\j<l.length then x else l.getD j 0:=by
 rw [aI,qf];split
 ·rfl
 ·rw [aI]
theorem Safe.came{s:dX}(h:Safe s){id k:Nat}(h1:1<=id)(h2:id<=s.dW.length)(ho:(s.tx id).state=1)(hk:k<du s):Safe (nC s id k):=by
 have hx:=h.tx id h1 h2;have et:(db s id { s.tx id with ats:=(s.tx id).ats.set k 1 }).tx id={ s.tx id with ats:=(s.tx id).ats.set k 1 }:=yk s _ h1 h2;have key:=h.rp (keys:=s.keys) (t:={ s.tx id with ats:=(s.tx id).ats.set k 1 }) h1 h2 ho;refine key ?_;show qI (db s id { s.tx id with ats:=(s.tx id).ats.set k 1 }) id;refine ⟨?_,?_,?_,?_,?_,?_,?_,?_,?_⟩
 all_goals rw [et]
 ·show ((s.tx id).ats.set k 1).length=s.lines.length;rw [ag];exact hx.len
 ·exact hx.st
 ·intro j;show 0<=((s.tx id).ats.set k 1).getD j 0/\_<=_;rw [oy];split
  ·omega
  ·exact hx.oz j
 ·show ((s.tx id).ats.set k 1).getD (du s) 0=0;rw [oy,aK (by omega)];exact hx.dec
 ·intro _ j;show ((s.tx id).ats.set k 1).getD j 0≠2;rw [oy];split
  ·omega
  ·exact hx.op ho j
 ·intro j hj CE;have vJ:((s.tx id).ats.set k 1).getD j 0=2:=CE;rw [oy] at vJ;split at vJ
  ·omega
  ·exact absurd vJ (hx.op ho j)
 ·intro hs;have hs':(s.tx id).state=3:=hs;omega
 ·exact hx.tm
 ·exact hx.few
theorem Safe.write{s:dX}(h:Safe s){id:Nat}{ws:List fQ}{st:Int}(h1:1<=id)(h2:id<=s.dW.length)(ho:(s.tx id).state=1)(hw:ws.length<=20/\∀ p∈ws,p.key.size<=20)(hs:st=1\/st=2):Safe (db s id { s.tx id with state:=st,writes:=ws }):=by
 have hx:=h.tx id h1 h2;have et:(db s id { s.tx id with state:=st,writes:=ws }).tx id={ s.tx id with state:=st,writes:=ws }:=yk s _ h1 h2;refine h.rp (keys:=s.keys) (t:={ s.tx id with state:=st,writes:=ws }) h1 h2 ho ?_;show qI (db s id { s.tx id with state:=st,writes:=ws }) id;refine ⟨?_,?_,?_,?_,?_,?_,?_,?_,?_⟩
 all_goals rw [et]
 ·exact hx.len
 ·show 1<=st/\st<=4;omega
 ·exact hx.oz
 ·exact hx.dec
 ·intro _;exact hx.op ho
 ·intro j hj CE;exact absurd CE (hx.op ho j)
 ·intro hs';have:st=3:=hs';omega
 ·exact hx.tm
 ·exact hw
theorem yPb(l:List eK)(a:Int)(ho:l.Pairwise fun a b=>a.id<b.id)(hr:∀ n∈l,a<=n.id/\n.id<a+4):l.length<=4:=by
 match l,ho,hr with
 | [],_,_=>simp
 | [_],_,_=>simp
 | [_,_],_,_=>simp
 | [_,_,_],_,_=>simp
 | [_,_,_,_],_,_=>simp
 | x0 :: x1 :: x2 :: x3 :: x4 :: l,ho,hr=>
  simp only [List.pairwise_cons] at ho;have a1:=ho.1 x1 (by simp);have a2:=ho.2.1 x2 (by simp);have a3:=ho.2.2.1 x3 (by simp);have a4:=ho.2.2.2.1 x4 (by simp);have b0:=hr x0 (by simp);have b4:=hr x4 (by simp);omega
theorem Safe.shape{s:dX}(h:Safe s):lr s:=by
 refine ⟨by have:=h.ll;omega,fun l hl=>?_,h.tl,fun t ht=>?_,fun t ht=>?_⟩
 ·obtain ⟨i,hi⟩:=aO hl;have hil:=(aB.1 hi).1;have e:=ma hil;rw [hi] at e;have e':=ax e;rw [e'];have q:=h.line i hil;have:=bX.2 q.ne;obtain ⟨E,h1,h2,_⟩:=q.ep;refine ⟨by omega,?_⟩;have hr:=q.oz;have ho:=q.ord;exact yPb ((s.line i).nodes) (10*(i:Int)) (ho.imp fun q=>q.1) hr
 ·obtain ⟨i,hi⟩:=aO ht;have hil:=(aB.1 hi).1;have e:=uG (s:=s) (id:=i+1) (by omega) (by omega);rw [bP,hi] at e;rw [ax e];exact (h.tx (i+1) (by omega) (by omega)).len
 ·obtain ⟨i,hi⟩:=aO ht;have hil:=(aB.1 hi).1;have e:=uG (s:=s) (id:=i+1) (by omega) (by omega);rw [bP,hi] at e;rw [ax e];exact (h.tx (i+1) (by omega) (by omega)).few.1
def Ge(s:dX):List Int:=((List.range s.dW.length).map fun (i:Nat)=>(i:Int)+1).filter fun o=>decide ((s.tx o.toNat).state=2)
theorem xU{s:dX}{x:Int}:x∈Ge s↔1<=x/\x<=(s.dW.length:Int)/\(s.tx x.toNat).state=2:=by
 unfold Ge;simp only [bE,af,bZ,bA];constructor
 ·rintro ⟨⟨i,hi,rfl⟩,h⟩;exact ⟨by omega,by omega,h⟩
 ·rintro ⟨h1,h2,h3⟩;exact ⟨⟨(x - 1).toNat,by omega,by omega⟩,h3⟩
structure jI(X:List Int)(s:dX):Prop where
 apart:∀ k,qP (X++Ge s) (s.keys k)
 hold:∀ k,∀ c∈(s.keys k).held,1<=c.tx/\c.tx<=(s.dW.length:Int)/\((s.tx c.tx.toNat).state=1\/(s.tx c.tx.toNat).state=2)
 wait:∀ k,∀ c∈(s.keys k).waits,1<=c.tx/\c.tx<=(s.dW.length:Int)/\(s.tx c.tx.toNat).state=1
 small:∀ k:ByteArray,20<k.size->(s.keys k).held=[]/\(s.keys k).waits=[]
abbrev Held(s:dX):Prop:=jI [] s
theorem jI.ki{X:List Int}{s:dX}(h:jI X s):rh s.dW.length s.keys:=fun k c hc=>by
 rcases hc with hc | hc
 ·exact ⟨(h.hold k c hc).1,(h.hold k c hc).2.1⟩
 ·exact ⟨(h.wait k c hc).1,(h.wait k c hc).2.1⟩
theorem yUt{s:fy}{t:Int}{k:ByteArray}(h:mu (s k)):(∀ c∈(gP s t k).held,c∈(s k).held\/c∈(s k).waits)/\∀ c∈(gP s t k).waits,c∈(s k).waits:=by
 unfold gP;split
 ·unfold mC;refine ⟨fun c hc=>?_,fun c hc=>?_⟩
  ·rcases (Bm _ _ _ c).1 hc with q | q
   ·exact .inl (pP.1 q).1
   ·exact .inr (pP.1 q).1
  ·rcases (Bm _ _ _ c).2.1 hc with q | q
   ·simp at q
   ·exact (pP.1 q).1
 ·exact ⟨fun c hc=>.inl hc,fun c hc=>hc⟩
theorem jI.leave{X Y:List Int}{s s':dX}{i:Int}(h:jI X s)(hk:s'.keys=gP s.keys i)(hl:s'.dW.length=s.dW.length)(hs:∀ j:Nat,1<=j->(j:Int)≠i->(s'.tx j).state=(s.tx j).state)(hY:∀ x∈X,x=i\/x∈Y):jI Y s':=by
 have FP:=fun k=>yHj (h.apart k).ok i;have hsub:=fun k=>yUt (t:=i) (h.apart k).ok;have hst:∀ x:Int,1<=x->x≠i->(s'.tx x.toNat).state=(s.tx x.toNat).state:=fun x h1 h2=>hs x.toNat (by omega) (by omega);refine ⟨fun k=>?_,fun k c hc=>?_,fun k c hc=>?_,fun k hsz=>?_⟩
 ·rw [hk];refine yQd (W:=Y++Ge s') (fun k=>(h.apart k).more fun x hx=>?_) k;by_cases e:x=i
  ·simp [e]
  ·refine bS _ (aN.2 ?_);rcases aN.1 hx with q | q
   ·exact .inl ((hY x q).resolve_left e)
   ·obtain ⟨q1,q2,q3⟩:=xU.1 q;exact .inr (xU.2 ⟨q1,by rw [hl];exact q2,by rw [hst x q1 e];exact q3⟩)
 ·rw [hk] at hc;have hne:=(FP k).1 c hc;rw [hl];rcases (hsub k).1 c hc with q | q
  ·obtain ⟨q1,q2,q3⟩:=h.hold k c q;exact ⟨q1,q2,by rw [hst _ q1 hne];exact q3⟩
  ·obtain ⟨q1,q2,q3⟩:=h.wait k c q;exact ⟨q1,q2,.inl (by rw [hst _ q1 hne];exact q3)⟩
 ·rw [hk] at hc;have hne:=(FP k).2 c hc;rw [hl];obtain ⟨q1,q2,q3⟩:=h.wait k c ((hsub k).2 c hc);exact ⟨q1,q2,by rw [hst _ q1 hne];exact q3⟩
 ·rw [hk];obtain ⟨z1,z2⟩:=h.small k hsz;have hs:=hsub k;rw [z1,z2] at hs;exact ⟨List.eq_nil_iff_forall_not_mem.2 fun c hc=>by simpa using hs.1 c hc,List.eq_nil_iff_forall_not_mem.2 fun c hc=>by simpa using hs.2 c hc⟩
theorem UH(s:dX)(id:Nat):(gi s id).keys=gP s.keys id:=by
 unfold gi oq;split <;> rfl
theorem jI.abort{X Y:List Int}{s:dX}(h:jI X s)(id:Nat)(hid:1<=id)(hY:∀ x∈X,x=(id:Int)\/x∈Y):jI Y (gi s id):=
 h.leave (UH s id) (ML s id) (fun j hj hne=>by rw [GS s (by omega)]) hY
theorem jI.eH{X:List Int}{s:dX}(h:jI X s){i:Int}(hi:1<=i):jI X (eH s i):=by
 unfold Go.Proofs.YtmaiggbnceejiaaGreatDoor.eH;split
 ·exact h.abort i.toNat (by omega) (fun x hx=>.inr hx)
 ·exact h
theorem jI.Cr{X:List Int}{s:dX}{i:Int}(h:jI (i :: X) s)(hi:1<=i)(hil:i<=(s.dW.length:Int)):jI X (Go.Proofs.YtmaiggbnceejiaaGreatDoor.eH s i):=by
 unfold Go.Proofs.YtmaiggbnceejiaaGreatDoor.eH;split
 ·exact h.abort i.toNat (by omega) (fun x hx=>(bV.1 hx).imp (fun e=>by omega) id)
 ·rename_i hne;refine ⟨fun k=>?_,h.hold,h.wait,h.small⟩;by_cases h2:(s.tx i.toNat).state=2
  ·refine (h.apart k).more fun x hx=>?_;rcases bV.1 hx with q | q
   ·rw [q];exact aN.2 (.inr (xU.2 ⟨hi,hil,h2⟩))
   ·exact q
  ·refine qP.less (t:=i) (h.apart k) (fun c hc e=>?_);have:=(h.hold k c hc).2.2;rw [e] at this;omega
theorem jI.mb:∀ {ids X:List Int} {s:dX},jI X s->(∀ i∈ids,1<=i)->jI X (jV s ids)
 | [],_,_,h,_=>h
 | i :: ids,X,s,h,hi=>jI.mb (s:=Go.Proofs.YtmaiggbnceejiaaGreatDoor.eH s i) (h.eH (hi i (by simp))) (fun j hj=>hi j (by simp [hj]))
theorem jI.pj:∀ {ids X:List Int} {s:dX},jI (ids++X) s->(∀ i∈ids,1<=i/\i<=(s.dW.length:Int))->jI X (jV s ids)
 | [],_,_,h,_=>h
 | i :: ids,X,s,h,hi=>jI.pj (s:=Go.Proofs.YtmaiggbnceejiaaGreatDoor.eH s i) (jI.Cr (i:=i) (X:=ids++X) h (hi i (by simp)).1 (hi i (by simp)).2) (fun j hj=>by rw [RY];exact hi j (by simp [hj]))
theorem jI.locked{X:List Int}{s:dX}(h:jI X s){id:Int}(h1:1<=id)(h2:id<=(s.dW.length:Int))(ho:(s.tx id.toNat).state=1)(key:ByteArray)(hks:key.size<=20){mode:Int}(hm:mode=1\/mode=2):jI ((ix s id key mode).2.1++X) (ix s id key mode).1/\∀ x∈(ix s id key mode).2.1,id<x:=by
 have ha:=yLn (c:=⟨id,mode⟩) (h.apart key) hm;have hmem:∀ c,c∈(iv (s.keys key) ⟨id,mode⟩).1.held->c∈(s.keys key).held\/c.tx=id:=fun c hc=>by
  unfold iv at hc;split at hc
  ·exact .inl hc
  split at hc
  ·exact .inl hc
  split at hc
  ·rcases (oC (h.apart key).ok.held _ c).1 hc with q | q
   ·exact .inr (by rw [q])
   ·exact .inl q.1
  split at hc
  ·exact .inl hc
  ·exact .inl hc
 have Xd:∀ c,c∈(iv (s.keys key) ⟨id,mode⟩).1.waits->c∈(s.keys key).waits\/c.tx=id:=fun c hc=>by
  unfold iv at hc;split at hc
  ·exact .inl hc
  split at hc
  ·exact .inl hc
  split at hc
  ·exact .inl hc
  split at hc
  ·exact .inl hc
  ·rcases (oC (h.apart key).ok.waits _ c).1 hc with q | q
   ·exact .inr (by rw [q])
   ·exact .inl q.1
 refine ⟨⟨fun k=>?_,fun k c hc=>?_,fun k c hc=>?_,fun k hsz=>?_⟩,ha.2⟩
 ·show qP _ (jX s.keys key _ k);by_cases e:k=key
  ·subst e;rw [wE];exact ha.1.more fun x hx=>by
    rw [aU];exact hx
  ·rw [xW e];exact (h.apart k).more fun x hx=>by
    rw [aU];exact aN.2 (.inr hx)
 ·have hc':c∈(jX s.keys key (iv (s.keys key) ⟨id,mode⟩).1 k).held:=hc;by_cases e:k=key
  ·subst e;rw [wE] at hc';rcases hmem c hc' with q | q
   ·exact h.hold k c q
   ·rw [q];exact ⟨h1,h2,.inl ho⟩
  ·rw [xW e] at hc';exact h.hold k c hc'
 ·have hc':c∈(jX s.keys key (iv (s.keys key) ⟨id,mode⟩).1 k).waits:=hc;by_cases e:k=key
  ·subst e;rw [wE] at hc';rcases Xd c hc' with q | q
   ·exact h.wait k c q
   ·rw [q];exact ⟨h1,h2,ho⟩
  ·rw [xW e] at hc';exact h.wait k c hc'
 ·show (jX s.keys key _ k).held=[]/\(jX s.keys key _ k).waits=[];rw [xW (fun e=>by rw [e] at hsz;omega)];exact h.small k hsz
theorem Safe.locked{s:dX}(h:Safe s)(id:Int)(key:ByteArray)(mode:Int):Safe (ix s id key mode).1:=h.keys _
theorem yBs{s:dX}{id o:Int}{key:ByteArray}(h:o∈oO s id key):o≠id:=by
 unfold oO at h;simp only [bE,bT,bA] at h;exact h.2.1
structure Cut(s s':dX):Prop where
 len:s'.dW.length=s.dW.length
 tx:∀ j:Nat,1<=j->s'.tx j=s.tx j\/((s.tx j).state=1/\(s'.tx j).state=4/\∀ k,(s'.tx j).ats.getD k 0=0)
theorem Cut.refl(s:dX):Cut s s:=⟨rfl,fun _ _=>.inl rfl⟩
theorem Cut.trans{a b c:dX}(h:Cut a b)(k:Cut b c):Cut a c:=by
 refine ⟨k.len.trans h.len,fun j hj=>?_⟩;rcases h.tx j hj with q | q <;> rcases k.tx j hj with p | p
 ·exact .inl (p.trans q)
 ·rw [q] at p;exact .inr p
 ·rw [p];exact .inr q
 ·omega
theorem Cut.abort{s:dX}{id:Nat}(h1:1<=id)(h2:id<=s.dW.length)(ho:(s.tx id).state=1):Cut s (gi s id):=by
 refine ⟨ML s id,fun j hj=>?_⟩;by_cases e:j=id
 ·subst e;right;have e:(gi s j).tx j={ s.tx j with state:=4,writes:=[],ats:=(s.tx j).ats.map fun _=>0 }:=by
   unfold gi oq;rw [aP ho,yk s _ h1 h2];show (db (db s j _) j _).tx j=_;rw [yk _ _ h1 (by rw [my];exact h2)]
  rw [e];exact ⟨ho,rfl,fun k=>RD _ _⟩
 ·exact .inl (GS s (by omega))
theorem Cut.eH{s:dX}{i:Int}(h:1<=i/\i<=(s.dW.length:Int)):Cut s (eH s i):=by
 unfold Go.Proofs.YtmaiggbnceejiaaGreatDoor.eH;split
 ·rename_i e;exact Cut.abort (by omega) (by omega) e
 ·exact Cut.refl s
theorem Cut.fc:∀ (ids:List Int) {s:dX},(∀ i∈ids,1<=i/\i<=(s.dW.length:Int))->Cut s (jV s ids)
 | [],s,_=>Cut.refl s
 | i :: ids,s,hi=>(Cut.eH (hi i (by simp))).trans (Cut.fc ids (s:=Go.Proofs.YtmaiggbnceejiaaGreatDoor.eH s i) (fun j hj=>by rw [RY];exact hi j (by simp [hj])))
structure Pd(s:dX)(id:Nat)(a:dX × List Int × Int):Prop where
 safe:Safe a.1
 held:jI a.2.1 a.1
 wd:∀ x∈a.2.1,(id:Int)<x/\1<=x/\x<=(s.dW.length:Int)
 me:a.1.tx id=s.tx id
 same:gG s a.1
 cut:Cut s a.1
theorem UQ{s:dX}(hS:Safe s)(hH:Held s){id:Nat}(h1:1<=id)(h2:id<=s.dW.length)(ho:(s.tx id).state=1)(key:ByteArray)(hks:key.size<=20){mode:Int}(hm:mode=1\/mode=2):Pd s id (jT s id key mode):=by
 have hi1:(1:Int)<=(id:Int):=by omega
 have hi2:(id:Int)<=(s.dW.length:Int):=by omega
 obtain ⟨l1,l2⟩:=hH.locked hi1 hi2 (by simpa using ho) key hks hm;have lin:∀ x∈(ix s id key mode).2.1,1<=x/\x<=(s.dW.length:Int):=fun x hx=>by
  obtain ⟨d,hd,rfl⟩:=Rg _ _ x hx;exact hH.ki key d (.inl hd)
 unfold jT;simp only;split
 ·have hoth:∀ i∈oO (ix s id key mode).1 id key,(1<=i/\i<=(s.dW.length:Int))/\i≠(id:Int):=fun i hi=>(have q:=Rb hi;⟨q,yBs hi⟩);obtain ⟨A,hA⟩:∃ A,A=(ix s id key mode).1:=⟨_,rfl⟩;obtain ⟨B,hB⟩:∃ B,B=jV A (oO A id key):=⟨_,rfl⟩;rw [<-hA] at hoth ⊢;rw [<-hB];have hAS:Safe A:=by rw [hA];exact hS.locked _ _ _
  have hw0:∀ k:ec,(iv k ⟨(id:Int),mode⟩).2.2.2=4->(iv k ⟨(id:Int),mode⟩).2.2.1=[]:=fun k e=>by
   revert e;unfold iv;split
   ·simp
   split
   ·simp
   split
   ·simp
   split
   ·simp
   ·simp
  have hAH:Held A:=by
   have e:=hw0 (s.keys key) (by rename_i q;exact q.1);have e':(ix s id key mode).2.1=[]:=e;rw [e'] at l1;rw [hA];exact l1
  have LI:A.dW=s.dW:=by rw [hA];rfl
  have Yt:∀ j,A.tx j=s.tx j:=fun j=>by unfold dX.tx;rw [LI]
  have hBS:Safe B:=by rw [hB];exact Safe.fc _ hAS (fun i hi=>by rw [LI];exact (hoth i hi).1)
  have hBH:Held B:=by rw [hB];exact hAH.mb (fun i hi=>(hoth i hi).1.1)
  have Sh:=sM.fc (oO A id key) A (fun i hi=>(hoth i hi).1.1);rw [<-hB] at Sh;have hBm:B.tx id=s.tx id:=by rw [Sh.other id h1 (fun q=>(hoth _ q).2 rfl),Yt]
  have hBl:B.dW.length=s.dW.length:=by rw [Sh.same.len,LI]
  obtain ⟨m1,m2⟩:=hBH.locked hi1 (by rw [hBl];exact hi2) (by rw [aV,hBm];exact ho) key hks hm;refine ⟨hBS.locked _ _ _,by simpa using m1,fun x hx=>?_,hBm,?_,?_⟩
  ·obtain ⟨d,hd,e⟩:=Rg _ _ x hx;have:=hBH.ki key d (.inl hd);rw [hBl] at this;exact ⟨m2 x hx,by omega,by omega⟩
  ·have hs1:gG s A:=⟨by rw [hA];rfl,by rw [hA];rfl,by rw [hA];rfl,by rw [LI],fun j=>by rw [Yt]⟩;have:=hs1.trans Sh.same;exact ⟨this.l,this.d,this.net,this.len,this.at_⟩
  ·have hc:=Cut.fc (oO A id key) (s:=A) (fun i hi=>by rw [LI];exact (hoth i hi).1);rw [<-hB] at hc;exact ⟨by show B.dW.length=_;rw [hc.len,LI],fun j hj=>by
    have:=hc.tx j hj;rw [Yt] at this;exact this⟩
 ·exact ⟨hS.locked _ _ _,by simpa using l1,fun x hx=>⟨l2 x hx,lin x hx⟩,rfl,⟨rfl,rfl,rfl,rfl,fun _=>rfl⟩,⟨rfl,fun _ _=>.inl rfl⟩⟩
structure Ma(s:dX)(id k:Nat)(r:dX):Prop where
 safe:Safe r
 held:Held r
 st:(r.tx id).state=1
 wr:(r.tx id).writes=(s.tx id).writes
 ats:(r.tx id).ats=(s.tx id).ats\/(r.tx id).ats=(s.tx id).ats.set k 1
 tm:(r.tx id).time=(s.tx id).time
 same:gG s r
 cut:∀ j:Nat,1<=j->j≠id->r.tx j=s.tx j\/((s.tx j).state=1/\(r.tx j).state=4/\∀ k,(r.tx j).ats.getD k 0=0)
theorem jI.came{X:List Int}{s:dX}(h:jI X s){id k:Nat}(h1:1<=id)(h2:id<=s.dW.length):jI X (nC s id k):=by
 have e:∀ j:Nat,1<=j->((nC s id k).tx j).state=(s.tx j).state:=fun j hj=>by
  show ((db s id _).tx j).state=_;rw [wG s id _ hj h1 h2];split
  ·rename_i q;rw [q]
  ·rfl
 have hl:(nC s id k).dW.length=s.dW.length:=my _ _ _;refine ⟨fun key=>(h.apart key).more fun x hx=>?_,fun key c hc=>?_,fun key c hc=>?_,h.small⟩
 ·rcases aN.1 hx with q | q
  ·exact aN.2 (.inl q)
  ·obtain ⟨q1,q2,q3⟩:=xU.1 q;exact aN.2 (.inr (xU.2 ⟨q1,by rw [hl];exact q2,by rw [e _ (by omega)];exact q3⟩))
 ·obtain ⟨q1,q2,q3⟩:=h.hold key c hc;exact ⟨q1,by rw [hl];exact q2,by rw [e _ (by omega)];exact q3⟩
 ·obtain ⟨q1,q2,q3⟩:=h.wait key c hc;exact ⟨q1,by rw [hl];exact q2,by rw [e _ (by omega)];exact q3⟩
theorem zX{s:dX}(hS:Safe s)(hH:Held s){id:Nat}(h1:1<=id)(h2:id<=s.dW.length)(ho:(s.tx id).state=1)(key:ByteArray)(hks:key.size<=20){mode:Int}(hm:mode=1\/mode=2):Ma s id (ee s key) (gV s id key mode).1:=by
 have hL:=UQ hS hH h1 h2 ho key hks hm;have hnil:(jT s id key mode).2.2≠0->(jT s id key mode).2.1=[]:=by
  have hw0:∀ k:ec,(iv k ⟨(id:Int),mode⟩).2.2.2≠0->(iv k ⟨(id:Int),mode⟩).2.2.1=[]:=fun k e=>by
   revert e;unfold iv;split
   ·simp
   split
   ·simp
   split
   ·simp
   split
   ·simp
   ·simp
  unfold jT;simp only;split
  ·exact hw0 _
  ·exact hw0 _
 unfold gV;simp only;have stay:(jT s id key mode).2.2≠0->Ma s id (ee s key) (jT s id key mode).1:=fun hne=>by
  have hh:=hL.held;rw [hnil hne] at hh;exact ⟨hL.safe,hh,by rw [hL.me];exact ho,by rw [hL.me],.inl (by rw [hL.me]),by rw [hL.me],hL.same,fun j hj _=>hL.cut.tx j hj⟩
 split
 ·rename_i e;exact stay (by rw [e];simp)
 split
 ·rename_i e;exact stay (by rw [e];simp)
 obtain ⟨A,hA⟩:∃ A,A=jT s id key mode:=⟨_,rfl⟩;rw [<-hA] at hL ⊢;have Sj:A.1.lines=s.lines:=hL.same.l;have hsk:ee A.1 key=ee s key:=by unfold ee du;rw [Sj]
 rw [hsk,aV];have Dn:A.1.dW.length=s.dW.length:=hL.same.len;have hdec:du A.1=du s:=by unfold du;rw [Sj]
 have hC:Safe (nC A.1 id (ee s key)):=hL.safe.came h1 (by rw [Dn];exact h2) (by rw [hL.me];exact ho) (by rw [hdec];exact ES hS.ll.1 key);have Yr:=hL.held.came (k:=ee s key) h1 (by rw [Dn];exact h2);have Yq:(nC A.1 id (ee s key)).dW.length=s.dW.length:=by show (db _ _ _).dW.length=_;rw [my,Dn]
 have hin:∀ i∈A.2.1,1<=i/\i<=((nC A.1 id (ee s key)).dW.length:Int):=fun i hi=>by rw [Yq];exact (hL.wd i hi).2
 have Yp:(nC A.1 id (ee s key)).tx id={ s.tx id with ats:=(s.tx id).ats.set (ee s key) 1 }:=by
  show (db A.1 id _).tx id=_;rw [yk _ _ h1 (by rw [Dn];exact h2),hL.me]
 have hCo:∀ j:Nat,1<=j->j≠id->(nC A.1 id (ee s key)).tx j=A.1.tx j:=fun j hj hne=>xV _ _ (by omega);have hu:=sM.fc A.2.1 (nC A.1 id (ee s key)) (fun i hi=>(hin i hi).1);have hme:=hu.other id h1 (fun q=>by have:=(hL.wd _ q).1;omega);rw [Yp] at hme;have hsame:gG s (nC A.1 id (ee s key)):=hL.same.trans (gG.db A.1 id _ (by simp));have hcut:=Cut.fc A.2.1 hin;refine ⟨Safe.fc _ hC hin,jI.pj (ids:=A.2.1) (X:=[]) (by simpa using Yr) hin,by rw [hme];exact ho,by rw [hme],.inr (by rw [hme]),by rw [hme],hsame.trans hu.same,fun j hj hne=>?_⟩;have c1:=hL.cut.tx j hj;have c2:=hcut.tx j hj;rw [hCo j hj hne] at c2;rcases c1 with q | q <;> rcases c2 with p | p
 ·exact .inl (p.trans q)
 ·rw [q] at p;exact .inr p
 ·rw [p];exact .inr q
 ·omega
theorem TQ:∀ (N:Nat) (l:List Nat),l.Nodup->(∀ x∈l,x<N)->l.length<=N
 | 0,l,_,h=>by
  cases l with
  | nil=>simp
  | cons a l=>have:=h a (by simp);omega
 | N+1,l,hn,h=>by
  by_cases e:N∈l
  ·have h1:=List.length_erase_of_mem e;have h2:=TQ N (l.erase N) (hn.erase N) (fun x hx=>by
    have:=(hn.mem_erase_iff).1 hx;have:=h x this.2;omega)
   have:=List.length_pos_of_mem e;omega
  ·have:=TQ N l hn (fun x hx=>by
    have:=h x hx;have:x≠N:=fun q=>e (by rw [<-q];exact hx);omega)
   omega
theorem yV.few{s:dX}{k:Nat}{log:List dv}(h:yV s k log)(hT:s.dW.length<=60):log.length<=305:=by
 have hk:∀ c∈log,2<=c.kind/\c.kind<=4/\1<=c.tx/\c.tx<=60:=fun c hc=>by
  have q:=h.all c hc;have h1:=q.lo;have h2:=q.hi;by_cases e:k=du s
  ·have:=(q.dec e).1;omega
  ·have:=q.jZ e;omega
 have hnd:(log.map fun c=>(c.kind*61+c.tx).toNat).Nodup:=by
  rw [List.Nodup,cB];refine (cr ?_ h.one);intro a b ha hb hab e;have:=hk a ha;have:=hk b hb;apply hab;omega
 have:=TQ 305 _ hnd (fun x hx=>by
  obtain ⟨c,hc,rfl⟩:=af.1 hx;have:=hk c hc;omega)
 simpa using this
theorem Safe.mW{s:dX}(h:Safe s){k:Nat}(hk:k<s.lines.length):mW (eE s k)=true:=by
 unfold Go.Proofs.YtmaiggbnceejiaaGreatDoor.mW;rw [(h.line k hk).place (h.head hk)];rfl
theorem Safe.add{s:dX}(h:Safe s){k:Nat}(hk:k<s.lines.length)(c:dv):tf (eE s k) c=mw (eE s k) c:=by
 unfold tf;rw [h.mW hk,aP];have:=(h.log k hk).few h.tl;simp;omega
theorem Safe.grow{s:dX}(h:Safe s){k:Nat}(hk:k<s.lines.length){c:dv}(hc:zL s k c)(h1:∀ d∈(eE s k).log,¬ (d.kind=c.kind/\d.tx=c.tx))(hp:k≠du s->c.kind=3->∃ p∈(eE s k).log,p.kind=2/\p.tx=c.tx):Safe (mn s k c):=by
 unfold mn;rw [h.add hk];obtain ⟨g1,g2,g3⟩:=GM (eE s k) c;have jE:yV s k ((eE s k).log++[c]):=by
  have q:=h.log k hk;refine ⟨fun d hd=>?_,bg.2 ⟨q.one,List.pairwise_singleton _ _,fun a ha b hb=>?_⟩,fun hd i d hi hd3=>?_⟩
  ·rcases aN.1 hd with e | e
   ·exact q.all d e
   ·simp at e;rw [e];exact hc
  ·simp at hb;subst hb;exact h1 a ha
  ·rw [List.getElem?_append] at hi;split at hi
   ·obtain ⟨j,p,hj,hp,e1,e2⟩:=q.rq hd i d hi hd3;exact ⟨j,p,hj,by rw [aE (by omega)];exact hp,e1,e2⟩
   ·rename_i hlt;have hd':d=c:=by
     cases hx:i - (eE s k).log.length with
     | zero=>rw [hx] at hi;simp at hi;exact hi.symm
     | succ x=>rw [hx] at hi;simp at hi
    subst hd';obtain ⟨p,AT,e1,e2⟩:=hp hd hd3;obtain ⟨j,hj⟩:=aO AT;have:=(aB.1 hj).1;exact ⟨j,p,by omega,by rw [aE this];exact hj,e1,e2⟩
 have hS:Safe (ld s k 0 (mw (eE s k) c).1):=by
  refine h.node hk (h.head hk) g1 (by rw [g2];exact List.prefix_append _ _) ?_ (fun i p hi _=>by omega) (fun _=>by rw [g2];exact jE);rw [g2];have:=jE.few h.tl;omega
 refine hS.send fun m hm=>?_;have hk':k<(ld s k 0 (mw (eE s k) c).1).lines.length:=by rw [GW];exact hk
 refine hS.sent hk' (n:=(mw (eE s k) c).1) ?_ (g3 m hm);have e:=hS.head_mem hk';rw [MX hk (h.line k hk).ne,aP ⟨rfl,rfl⟩] at e;exact e
structure nZ(s s':dX):Prop where
 ll:s'.lines.length=s.lines.length
 dead:s'.dead=s.dead
 tl:s'.dW.length=s.dW.length
 len:∀ k,(s'.line k).nodes.length=(s.line k).nodes.length
 node:∀ k (j:Nat) n,(s.line k).nodes[j]?=some n->∃ n',(s'.line k).nodes[j]?=some n'/\rY n n'/\n.log <+: n'.log/\(gS s n=false->n'.log=n.log)
 heard:∀ k,(s.line k).heard<=(s'.line k).heard
theorem rY.refl(n:eK):rY n n:=⟨rfl,rfl,rfl⟩
theorem rY.trans{a b c:eK}(h:rY a b)(k:rY b c):rY a c:=⟨k.id.trans h.id,k.ep.trans h.ep,k.cf.trans h.cf⟩
theorem nZ.refl(s:dX):nZ s s:=⟨rfl,rfl,rfl,fun _=>rfl,fun k j n h=>⟨n,h,rY.refl n,bx _,fun _=>rfl⟩,fun _=>aF _⟩
theorem nZ.trans{a b c:dX}(h:nZ a b)(q:nZ b c):nZ a c:=by
 refine ⟨q.ll.trans h.ll,q.dead.trans h.dead,q.tl.trans h.tl,fun k=>(q.len k).trans (h.len k),fun k j n hn=>?_,fun k=>aJ (h.heard k) (q.heard k)⟩;obtain ⟨n1,e1,e2,e3,e7⟩:=h.node k j n hn;obtain ⟨n2,e4,e5,e6,e8⟩:=q.node k j n1 e1;refine ⟨n2,e4,e2.trans e5,e3.trans e6,fun hd=>?_⟩;rw [e8 (by unfold gS at hd ⊢;rw [h.dead,e2.id];exact hd),e7 hd]
theorem nZ.node1{s:dX}{k j:Nat}(hk:k<s.lines.length){n n':eK}(hj:(s.line k).nodes[j]?=some n)(hg:rY n n')(hl:n.log <+: n'.log)(hd:gS s n=false->n'.log=n.log):nZ s (ld s k j n'):=by
 have nM:=fun i=>Eb s hk j n' i;refine ⟨GW _ _ _ _,rfl,rfl,fun i=>?_,fun i x m hm=>?_,fun i=>?_⟩
 ·rw [nM];split
  ·rename_i e;rw [e];simp
  ·rfl
 ·rw [nM];by_cases e:i=k
  ·subst e;rw [aP rfl];show ∃ q,((s.line i).nodes.set j n')[x]?=some q/\_;rw [qf];by_cases e2:x=j
   ·subst e2;rw [hj] at hm;cases hm
    exact ⟨n',by rw [aP ⟨rfl,(aB.1 hj).1⟩],hg,hl,hd⟩
   ·exact ⟨m,by rw [aK (fun q=>e2 q.1)];exact hm,rY.refl _,bx _,fun _=>rfl⟩
  ·rw [aK e];exact ⟨m,hm,rY.refl _,bx _,fun _=>rfl⟩
 ·rw [nM];split
  ·rename_i e;rw [e];exact aF _
  ·exact aF _
theorem nZ.net{s s':dX}(h:nZ s s')(net:fC):nZ s { s' with net:=net }:=⟨h.ll,h.dead,h.tl,h.len,h.node,h.heard⟩
structure iD(s s':dX):Prop where
 mv:nZ s s'
 dW:s'.dW=s.dW
 keys:s'.keys=s.keys
 down:s'.net.down=s.net.down
 heard:∀ k,(s'.line k).heard=(s.line k).heard
 few:s.net.way.length<=200->s'.net.way.length<=200
theorem yBf{s:fC}(h:s.way.length<=200)(m:dw):(mR s m).way.length<=200:=by
 unfold mR;split
 ·exact h
 ·rename_i e;simp only [br,bA,not_or] at e;simp;omega
theorem RK:∀ (ms:List dw) {s:fC},s.way.length<=200->(ly s ms).way.length<=200
 | [],_,h=>h
 | m :: ms,s,h=>RK ms (yBf h m)
theorem iD.refl(s:dX):iD s s:=⟨nZ.refl s,rfl,rfl,rfl,fun _=>rfl,id⟩
theorem iD.trans{a b c:dX}(h:iD a b)(q:iD b c):iD a c:=⟨h.mv.trans q.mv,q.dW.trans h.dW,q.keys.trans h.keys,q.down.trans h.down,fun k=>(q.heard k).trans (h.heard k),fun e=>q.few (h.few e)⟩
theorem RV:∀ (ms:List dw) (s:fC),(ly s ms).down=s.down
 | [],s=>rfl
 | m :: ms,s=>by show (ly (mR s m) ms).down=_;rw [RV,zWs]
theorem iD.node1{s:dX}{k j:Nat}(hk:k<s.lines.length){n n':eK}(hj:(s.line k).nodes[j]?=some n)(hg:rY n n')(hl:n.log <+: n'.log)(hd:gS s n=false->n'.log=n.log)(ms:List dw):iD s (sg (ld s k j n') ms):=by
 refine ⟨(nZ.node1 hk hj hg hl hd).net _,rfl,rfl,RV _ _,fun i=>?_,fun e=>RK ms e⟩;show ((ld s k j n').line i).heard=_;rw [Eb s hk];split
 ·rename_i e;rw [e]
 ·rfl
theorem iD.add{s:dX}(h:Safe s){k:Nat}(hk:k<s.lines.length)(hv:gS s (eE s k)=true)(c:dv):iD s (mn s k c)/\(∀ i,eE (mn s k c) i=if i=k then (mw (eE s k) c).1 else eE s i):=by
 unfold mn;rw [h.add hk];obtain ⟨g1,g2,g3⟩:=GM (eE s k) c;refine ⟨iD.node1 hk (h.head hk) g1 (by rw [g2];exact List.prefix_append _ _) (fun q=>by rw [hv] at q;cases q) _,fun i=>?_⟩;show eE (ld s k 0 _) i=_;rw [MX hk (h.line k hk).ne];by_cases e:i=k
 ·rw [aP ⟨e,rfl⟩,aP e]
 ·rw [aK (fun q=>e q.1),aK e]
theorem RT{log:List dv}{kind tx:Int}:kp log kind tx=none↔∀ d∈log,¬ (d.kind=kind/\d.tx=tx):=by
 unfold kp;rw [List.findIdx?_eq_none_iff];simp only [Bool.and_eq_false_iff,bw];constructor
 ·intro h d hd q;exact (h d hd).elim (fun e=>e q.1) (fun e=>e q.2)
 ·intro h d hd;by_cases e:d.kind=kind
  ·exact .inr fun e2=>h d hd ⟨e,e2⟩
  ·exact .inl e
theorem Lt{l l':List dv}{kind:Int}{id:Nat}(h:nS l kind id)(hp:∀ c∈l,c∈l'):nS l' kind id:=by
 obtain ⟨c,hc,q⟩:=h;exact ⟨c,hp c hc,q⟩
theorem RF{s:dX}(k:Nat):∀ c∈pN s k,c∈(eE s k).log:=fun c hc=>cP hc
theorem JF{s:dX}(h:Safe s){id k:Nat}(h1:1<=id)(h2:id<=s.dW.length)(hk:k<s.lines.length){time:Int}(ht:1<=time/\time<=501){c:dv}(hd:fX s id k time=some c) :
  zL s k c/\c.tx=id/\(k≠du s->c.kind=3->∃ p∈(eE s k).log,p.kind=2/\p.tx=c.tx):=by
 have hx:=h.tx id h1 h2;have hi1:(1:Int)<=(id:Int):=by omega
 have hi2:(id:Int)<=(s.dW.length:Int):=by omega
 unfold fX at hd;simp only at hd;split at hd
 ·rename_i e;split at hd
  ·rename_i q
   cases hd
   exact ⟨⟨hi1,hi2,fun _=>⟨rfl,ht,.inl (by simpa using q.1),by simpa using q.2⟩,fun q=>absurd e q⟩,rfl,fun q=>absurd e q⟩
  ·cases hd
 ·rename_i e;split at hd
  ·cases hd
  ·rename_i ha;split at hd
   ·rename_i q
    cases hd
    exact ⟨⟨hi1,hi2,fun q=>absurd q e,fun _=>.inl ⟨rfl,by rw [aV,q];simp,by simpa using ha⟩⟩,rfl,fun _ q=>by simp at q⟩
   ·split at hd
    ·rename_i q
     cases hd
     obtain ⟨c1,c2,c3⟩:=hx.JG q;have hdk:k<du s:=by unfold du at e ⊢;omega
     have hs2:(s.tx id).ats.getD k 0=2:=by
      have:=hx.oz k;have:=Jy.1 c1 k;omega
     refine ⟨⟨hi1,hi2,fun q=>absurd q e,fun _=>.inr (.inl ⟨rfl,by simpa using q,c2⟩)⟩,rfl,fun _ _=>?_⟩;obtain ⟨p,hp,e1,e2⟩:=hx.sure k hdk hs2;exact ⟨p,RF k p hp,e1,e2⟩
    ·split at hd
     ·rename_i q
      cases hd
      exact ⟨⟨hi1,hi2,fun q=>absurd q e,fun _=>.inr (.inr ⟨rfl,by simpa using q⟩)⟩,rfl,fun _ q=>by simp at q⟩
     ·cases hd
structure Ee(s S:dX)(k j:Nat):Prop where
 safe:Safe S
 tells:iD s S
 more:∃ X,(eE S k).log=(eE s k).log++X/\∀ c∈X,c.tx<=(j:Int)
 told:∀ id,1<=id->id<=j->∀ time c,fX s id k time=some c->nS (eE S k).log c.kind id
 other:∀ i,i≠k->eE S i=eE s i
 live:gS S (eE S k)=true
theorem yIh{s:dX}{id k:Nat}{time:Int}{c:dv}(h:fX s id k time=some c)(t':Int):∃ c',fX s id k t'=some c'/\c'.kind=c.kind/\c'.tx=c.tx:=by
 unfold fX at h ⊢;simp only at h ⊢;split at h
 ·rename_i e;rw [aP e];split at h
  ·rename_i q;rw [aP q];cases h;exact ⟨_,rfl,rfl,rfl⟩
  ·cases h
 ·rename_i e;rw [aK e];exact ⟨c,h,rfl,rfl⟩
theorem VP{s S:dX}(ht:S.dW=s.dW)(hl:S.lines.length=s.lines.length)(id k:Nat)(time:Int):fX S id k time=fX s id k time:=by
 have e1:S.tx id=s.tx id:=by unfold dX.tx;rw [ht]
 have e2:du S=du s:=by unfold du;rw [hl]
 have e3:∀ t,uM S t k=uM s t k:=fun t=>by unfold uM ee;rw [e2]
 unfold fX;simp only [e1,e2,e3]
theorem Ee.step{s S:dX}{k j:Nat}(hk:k<s.lines.length)(hj:j<s.dW.length)(h:Ee s S k j):Ee s (gB S k (eE s k).log (j+1)) k (j+1):=by
 have IS:k<S.lines.length:=by rw [h.tells.mv.ll];exact hk
 have hlen:=(h.safe.log k IS).few h.safe.tl;have nO:=VP h.tells.dW h.tells.mv.ll (j+1) k;obtain ⟨X,hX,YO⟩:=h.more;have skip:(∀ time c,fX s (j+1) k time=some c->nS (eE S k).log c.kind (j+1))->Ee s S k (j+1):=fun hh=>
  ⟨h.safe,h.tells,⟨X,hX,fun c hc=>by have:=YO c hc;omega⟩,fun id i1 i2 time c hc=>by
   by_cases e:id=j+1
   ·subst e;exact hh time c hc
   ·exact h.told id i1 (by omega) time c hc,h.other,h.live⟩
 unfold gB
 cases hd:fX S (j+1) k ((eE S k).log.length+1) with
 | none=>
  refine skip fun time c hc=>?_;obtain ⟨c',hc',_⟩:=yIh hc ((eE S k).log.length+1);rw [nO] at hd;rw [hd] at hc';cases hc'
 | some c=>
  show Ee s (if (kp (eE s k).log c.kind ((j+1:Nat):Int)).isNone then mn S k c else S) k (j+1);obtain ⟨o1,o2,o3⟩:=JF h.safe (by omega) (by rw [h.tells.mv.tl];omega) IS (by omega) hd;have lp:∀ time c',fX s (j+1) k time=some c'->c'.kind=c.kind:=fun time c' hc'=>by
   obtain ⟨c2,q1,q2,_⟩:=yIh hc' ((eE S k).log.length+1);rw [nO] at hd;rw [hd] at q1;cases q1
   exact q2.symm
  cases hp:kp (eE s k).log c.kind ((j+1:Nat):Int) with
  | some i=>
   simp only [Option.isNone_some,dB,if_false];refine skip fun time c' hc'=>?_;rw [lp time c' hc'];have:¬ ∀ d∈(eE s k).log,¬ (d.kind=c.kind/\d.tx=((j+1:Nat):Int)):=fun q=>by rw [RT.2 q] at hp;cases hp
   apply aS;intro hn;apply this;intro d hd' q;exact hn ⟨d,by rw [hX];exact cH _ hd',q⟩
  | none=>
   simp only [Option.isNone_none,if_true];have hno:=RT.1 hp;have hg:=h.safe.grow IS o1 (fun d hd' q=>by
    rw [hX] at hd';rcases aN.1 hd' with e | e
    ·exact hno d e ⟨q.1,by rw [q.2,o2]⟩
    ·have:=YO d e;rw [q.2,o2] at this;omega) o3
   obtain ⟨t1,t2⟩:=iD.add h.safe IS h.live c;have hg2:=(GM (eE S k) c).2.1;refine ⟨hg,h.tells.trans t1,⟨X++[c],?_,fun d hd'=>?_⟩,fun id i1 i2 time c' hc'=>?_,fun i hi=>?_,?_⟩
   ·rw [t2 k,aP rfl,hg2,hX,aU]
   ·rcases aN.1 hd' with e | e
    ·have:=YO d e;omega
    ·simp at e;rw [e,o2];omega
   ·rw [t2 k,aP rfl,hg2];by_cases e:id=j+1
    ·subst e;exact ⟨c,by simp,(lp time c' hc').symm,o2⟩
    ·exact Lt (h.told id i1 (by omega) time c' hc') (fun d hd'=>cH _ hd')
   ·rw [t2 i,aK hi];exact h.other i hi
   ·rw [t2 k,aP rfl];have hv:=h.live;unfold gS at hv ⊢;rw [t1.mv.dead,(GM (eE S k) c).1.id];exact hv
theorem Jw{s:dX}(h:Safe s){k:Nat}(hk:k<s.lines.length){n:eK}(e:uX s k=some n):n=eE s k/\gS s n=true:=by
 have hh:=h.head hk;unfold uX at e
 cases hn:(s.line k).nodes with
 | nil=>rw [hn] at e;cases e
 | cons a l=>
  rw [hn] at e hh;simp only at e;split at e
  ·rename_i q;cases e;simp at hh;exact ⟨hh,q⟩
  ·cases e
theorem yCq{s:dX}(h:Safe s){k:Nat}(hk:k<s.lines.length)(e:uX s k=none):gS s (eE s k)=false:=by
 have hh:=h.head hk;unfold uX at e
 cases hn:(s.line k).nodes with
 | nil=>exact absurd hn (h.line k hk).ne
 | cons a l=>
  rw [hn] at e hh;simp only at e;simp at hh;subst hh;split at e
  ·cases e
  ·rename_i q;simpa using q
def Told(s:dX)(k:Nat):Prop:=∀ id,1<=id->id<=s.dW.length->∀ time c,fX s id k time=some c->nS (eE s k).log c.kind id
theorem Um{s:dX}(h:Safe s){k:Nat}(hk:k<s.lines.length):Safe (eR s k)/\iD s (eR s k)/\(gS s (eE s k)=true->Told (eR s k) k)/\(∀ i,i≠k->eE (eR s k) i=eE s i):=by
 unfold eR
 cases hh:uX s k with
 | none=>exact ⟨h,iD.refl s,fun (q:gS s (eE s k)=true)=>absurd q (by rw [yCq h hk hh];simp),fun _ _=>rfl⟩
 | some n=>
  obtain ⟨rfl,hl⟩:=Jw h hk hh;simp only;have key:∀ m,m<=s.dW.length->Ee s (((List.range m).map (·+1)).foldl (fun h id=>gB h k (eE s k).log id) s) k m:=by
   intro m
   induction m with
   | zero=>exact fun _=>⟨h,iD.refl s,⟨[],by simp,by simp⟩,fun id i1 i2=>by omega,fun _ _=>rfl,hl⟩
   | succ m ih=>
    intro hm;rw [aj,ay,al];exact (ih (by omega)).step hk (by omega)
  have q:=key s.dW.length (aF _);refine ⟨q.safe,q.tells,fun _ id i1 i2 time c hc=>?_,q.other⟩;rw [VP q.tells.dW q.tells.mv.ll] at hc;exact q.told id i1 (by rw [q.tells.mv.tl] at i2;exact i2) time c hc
theorem xX{s:dX}(h:Safe s):Safe (kM s)/\iD s (kM s)/\∀ k,k<s.lines.length->gS s (eE s k)=true->Told (kM s) k:=by
 have key:∀ m,m<=s.lines.length->Safe ((List.range m).foldl eR s)/\iD s ((List.range m).foldl eR s)/\(∀ k,k<m->gS s (eE s k)=true->Told ((List.range m).foldl eR s) k)/\(∀ k,m<=k->eE ((List.range m).foldl eR s) k=eE s k):=by
  intro m
  induction m with
  | zero=>exact fun _=>⟨h,iD.refl s,fun k hk=>by omega,fun _ _=>rfl⟩
  | succ m ih=>
   intro hm;rw [aj,al];obtain ⟨a,b,c,d⟩:=ih (by omega);generalize (List.range m).foldl eR s=S at a b c d;have jx:m<S.lines.length:=by rw [b.mv.ll];omega
   obtain ⟨a',b',c',d'⟩:=Um a jx;refine ⟨a',b.trans b',fun k hk hl=>?_,fun k hk=>?_⟩
   ·by_cases e:k=m
    ·subst e;refine c' ?_;rw [d k (aF _)];unfold gS at hl ⊢;rw [b.mv.dead];exact hl
    ·intro id i1 i2 time c2 hc2;have hc3:fX S id k time=some c2:=(VP b'.dW b'.mv.ll id k time).symm.trans hc2;show nS (eE (eR S m) k).log c2.kind id;rw [d' k e];exact c k (by omega) hl id i1 (by have:=b'.mv.tl;show id<=S.dW.length;rw [<-this];exact i2) time c2 hc3
   ·show eE (eR S m) k=_;rw [d' k (by omega)];exact d k (by omega)
 obtain ⟨a,b,c,_⟩:=key s.lines.length (aF _);exact ⟨a,b,c⟩
def bump(s:dX)(k:Nat):dX:=rn s k ⟨(s.line k).nodes,(s.line k).heard+1⟩
theorem Ju(s:dX){k:Nat}(hk:k<s.lines.length)(i:Nat):(bump s k).line i=if i=k then ⟨(s.line k).nodes,(s.line k).heard+1⟩ else s.line i:=Lv s k _ i hk
theorem Bi(s:dX)(k:Nat):(bump s k).lines.length=s.lines.length:=by simp [bump,rn]
theorem MM(s:dX){k:Nat}(hk:k<s.lines.length)(i:Nat):eE (bump s k) i=eE s i:=by
 unfold eE;rw [Ju s hk];split
 ·rename_i e;rw [e]
 ·rfl
theorem Safe.bump{s:dX}(h:Safe s){k:Nat}(hk:k<s.lines.length)(hl:∀ n∈(s.line k).nodes,(s.line k).heard<n.log.length):Safe (bump s k):=by
 have hd:du (Go.Proofs.YtmaiggbnceejiaaGreatDoor.bump s k)=du s:=by unfold du;rw [Bi]
 have nM:=fun i=>Ju s hk i;have hn:∀ i,((Go.Proofs.YtmaiggbnceejiaaGreatDoor.bump s k).line i).nodes=(s.line i).nodes:=fun i=>by
  rw [nM];split
  ·rename_i e;rw [e]
  ·rfl
 have hh:∀ i,∀ c∈pN s i,c∈pN (Go.Proofs.YtmaiggbnceejiaaGreatDoor.bump s k) i:=fun i c hc=>by
  unfold pN at hc ⊢;rw [MM s hk,nM];split
  ·rename_i e;rw [e] at hc ⊢;exact cP (i:=(s.line k).heard) (by rw [List.take_take,Nat.min_eq_left (by simp)];exact hc)
  ·exact hc
 refine ⟨by rw [Bi];exact h.ll,h.tl,fun i hi=>?_,fun i hi=>?_,fun m hm h3 i hi x hx e=>?_,fun id i1 i2=>?_⟩
 ·rw [Bi] at hi;rw [nM];split
  ·rename_i e;subst e;have q:=h.line i hi;exact ⟨q.ne,q.ord,q.oz,q.cfg,q.ep,fun n hn=>hl n hn,q.few⟩
  ·exact h.line i hi
 ·rw [Bi] at hi;rw [MM s hk];exact (h.log i hi).of rfl hd
 ·rw [Bi] at hi;rw [hn] at hx;exact h.msg m hm h3 i hi x hx e
 ·have q:=h.tx id i1 i2;exact ⟨by rw [Bi];exact q.len,q.st,q.oz,by rw [hd];exact q.dec,q.op,fun j hj ha=>Lt (q.sure j (by rw [hd] at hj;exact hj) ha) (hh j),fun hs=>by
   rw [hd];obtain ⟨a,b,c⟩:=q.JG hs;exact ⟨a,b,Lt c (hh _)⟩,q.tm,q.few⟩
theorem jI.lines{X:List Int}{s s':dX}(h:jI X s)(hk:s'.keys=s.keys)(ht:s'.dW=s.dW):jI X s':=by
 have e:∀ j,s'.tx j=s.tx j:=fun j=>by unfold dX.tx;rw [ht]
 have e2:Ge s'=Ge s:=by unfold Ge;rw [ht];simp only [e]
 exact ⟨fun k=>by rw [e2,hk];exact h.apart k,fun k c hc=>by rw [hk] at hc;rw [ht,e];exact h.hold k c hc,fun k c hc=>by rw [hk] at hc;rw [ht,e];exact h.wait k c hc,by rw [hk];exact h.small⟩
theorem yCp(s:dX){k:Nat}(hk:k<s.lines.length)(c:dv):ot k s c=lz (bump s k) k c:=by
 have hd:du (bump s k)=du s:=by unfold du;rw [Bi]
 have hf:(lz s k c).line k=s.line k:=by unfold dX.line;rw [(gG.follow s k c).l]
 unfold ot;rw [hf];unfold lz;rw [hd];split
 ·rfl
 ·split
  ·rfl
  ·rfl
structure mP(s s':dX):Prop where
 len:s.dW.length<=s'.dW.length
 fin:∀ j,1<=j->j<=s.dW.length->3<=(s.tx j).state->(s'.tx j).state=(s.tx j).state
theorem mP.refl(s:dX):mP s s:=⟨aF _,fun _ _ _ _=>rfl⟩
theorem mP.trans{a b c:dX}(h:mP a b)(k:mP b c):mP a c:=⟨aJ h.len k.len,fun j h1 h2 h3=>by
 have e:=h.fin j h1 h2 h3;rw [k.fin j h1 (aJ h2 h.len) (by rw [e];exact h3),e]⟩
theorem mP.of{s s':dX}(h:s'.dW=s.dW):mP s s':=⟨by rw [h];exact aF _,fun j _ _ _=>by unfold dX.tx;rw [h]⟩
structure yVx(s s':dX):Prop where
 safe:Safe s'
 held:Held s'
 same:gG s s'
 fin:mP s s'
theorem yGa{s:dX}(h:Safe s)(hH:Held s){k:Nat}(hk:k<s.lines.length){c:dv}(hc:c∈pN s k):yVx s (lz s k c):=by
 have hcm:=RF k c hc;have q:=(h.log k hk).all c hcm;have hlo:=q.lo;have hhi:=q.hi;obtain ⟨id,hid⟩:∃ id:Nat,c.tx=id:=⟨c.tx.toNat,by omega⟩;have h1:1<=id:=by omega
 have h2:id<=s.dW.length:=by omega
 have hx:=h.tx id h1 h2;have hsame:=gG.follow s k c;unfold lz at hsame ⊢;rw [hid,aV] at hsame ⊢;split
 ·rename_i e;rw [aP e] at hsame;obtain ⟨d1,d2,d3,d4⟩:=q.dec e;rw [hid,aV] at d3 d4;have e1:oq (db s id { s.tx id with time:=c.time }) id 3={ db s id { s.tx id with state:=3,writes:=[],time:=c.time } with keys:=gP s.keys id }:=by
   unfold oq;rw [yk s _ h1 h2];simp only [db,List.set_set]
  have et:(oq (db s id { s.tx id with time:=c.time }) id 3).tx id={ s.tx id with state:=3,writes:=[],time:=c.time }:=by
   rw [e1];exact yk s _ h1 h2
  have eo:∀ j,j - 1≠id - 1->(oq (db s id { s.tx id with time:=c.time }) id 3).tx j=s.tx j:=fun j hj=>by
   rw [e1];exact xV s _ hj
  have el:(oq (db s id { s.tx id with time:=c.time }) id 3).dW.length=s.dW.length:=hsame.len;refine ⟨?_,?_,hsame,⟨by rw [el];exact aF _,fun j j1 j2 j3=>?_⟩⟩
  ·refine h.dW rfl rfl (by rw [el];exact h.tl) (fun k' c' hk' hc' q'=>?_) (fun j j1 j2=>?_)
   ·by_cases e2:c'.tx.toNat=id
    ·refine ⟨q'.lo,by rw [el];exact q'.hi,fun hd=>?_,fun hd=>?_⟩
     ·obtain ⟨p1,p2,p3,p4⟩:=q'.dec hd;rw [e2,et];rw [e2] at p4;exact ⟨p1,p2,.inr rfl,p4⟩
     ·rw [e2,et];have p:=q'.jZ hd;rw [e2] at p;rcases p with ⟨p1,p2,p3⟩ | ⟨p1,p2,p3⟩ | ⟨p1,p2⟩
      ·exact .inl ⟨p1,by simp,p3⟩
      ·exact .inr (.inl ⟨p1,rfl,p3⟩)
      ·omega
    ·have:=q'.lo;exact q'.same el rfl (eo _ (by omega))
   ·by_cases e2:j=id
    ·subst e2;refine ⟨?_,?_,?_,?_,?_,?_,?_,?_,?_⟩
     all_goals rw [et]
     ·exact hx.len
     ·simp
     ·exact hx.oz
     ·exact hx.dec
     ·intro hs;simp at hs
     ·exact hx.sure
     ·intro _;refine ⟨d4,d2.1,c,?_,d1,hid⟩;rw [e] at hc;exact hc
     ·exact ⟨by have:=d2.1;show 0<=c.time;omega,d2.2⟩
     ·simp
    ·exact (h.tx j j1 (by rw [el] at j2;exact j2)).same (eo j (by omega)) rfl
  ·refine hH.leave (i:=(id:Int)) rfl el (fun j hj hne=>?_) (fun x hx=>by simp at hx);rw [eo j (by omega)]
  ·by_cases e2:j=id
   ·subst e2;rw [et];rcases d3 with d3 | d3
    ·omega
    ·rw [d3]
   ·rw [eo j (by omega)]
 ·rename_i e;rw [aK e] at hsame;split
  ·rename_i e3;rw [aP e3] at hsame;have AW:(s.tx id).state≠1:=by
    rcases q.jZ e with p | p | p
    ·rw [hid,aV] at p;exact p.2.1
    ·omega
    ·omega
   have lp:k<du s:=by unfold du at e ⊢;omega
   have et:(db s id { s.tx id with ats:=(s.tx id).ats.set k 2 }).tx id={ s.tx id with ats:=(s.tx id).ats.set k 2 }:=yk s _ h1 h2;have eo:∀ j,j - 1≠id - 1->(db s id { s.tx id with ats:=(s.tx id).ats.set k 2 }).tx j=s.tx j:=fun j hj=>xV s _ hj;have Kg:ue (s.tx id)=true->ue { s.tx id with ats:=(s.tx id).ats.set k 2 }=true:=fun hr=>by
    refine Jy.2 fun j=>?_;show ((s.tx id).ats.set k 2).getD j 0≠1;rw [oy];split
    ·omega
    ·exact Jy.1 hr j
   refine ⟨?_,?_,hsame,⟨by rw [hsame.len];exact aF _,fun j j1 j2 j3=>?_⟩⟩
   ·refine h.dW rfl rfl (by rw [hsame.len];exact h.tl) (fun k' c' hk' hc' q'=>?_) (fun j j1 j2=>?_)
    ·by_cases e2:c'.tx.toNat=id
     ·refine ⟨q'.lo,by rw [hsame.len];exact q'.hi,fun hd=>?_,fun hd=>?_⟩
      ·obtain ⟨p1,p2,p3,p4⟩:=q'.dec hd;rw [e2,et];rw [e2] at p3 p4;exact ⟨p1,p2,p3,Kg p4⟩
      ·rw [e2,et];have p:=q'.jZ hd;rw [e2] at p;rcases p with ⟨p1,p2,p3⟩ | ⟨p1,p2,p3⟩ | ⟨p1,p2⟩
       ·refine .inl ⟨p1,p2,?_⟩;show ((s.tx id).ats.set k 2).getD k' 0≠0;rw [oy];split
        ·omega
        ·exact p3
       ·exact .inr (.inl ⟨p1,p2,p3⟩)
       ·exact .inr (.inr ⟨p1,p2⟩)
     ·have:=q'.lo;exact q'.same hsame.len rfl (eo _ (by omega))
    ·by_cases e2:j=id
     ·subst e2;refine ⟨?_,?_,?_,?_,?_,?_,?_,?_,?_⟩
      all_goals rw [et]
      ·show ((s.tx j).ats.set k 2).length=s.lines.length;rw [ag];exact hx.len
      ·exact hx.st
      ·intro i;show 0<=((s.tx j).ats.set k 2).getD i 0/\_<=_;rw [oy];split
       ·omega
       ·exact hx.oz i
      ·show ((s.tx j).ats.set k 2).getD (du s) 0=0;rw [oy,aK (by omega)];exact hx.dec
      ·intro hs;exact absurd hs AW
      ·intro i hi hi2;have IY:((s.tx j).ats.set k 2).getD i 0=2:=hi2;rw [oy] at IY;split at IY
       ·rename_i e4;rw [e4.1];exact ⟨c,hc,e3,hid⟩
       ·exact hx.sure i hi IY
      ·intro hs;obtain ⟨a,b,d⟩:=hx.JG hs;exact ⟨Kg a,b,d⟩
      ·exact hx.tm
      ·exact hx.few
     ·exact (h.tx j j1 (by rw [hsame.len] at j2;exact j2)).same (eo j (by omega)) rfl
   ·have es:∀ j:Nat,1<=j->((db s id { s.tx id with ats:=(s.tx id).ats.set k 2 }).tx j).state=(s.tx j).state:=fun j hj=>by
     by_cases e2:j=id
     ·rw [e2,et]
     ·rw [eo j (by omega)]
    have el:=hsame.len;refine ⟨fun key=>(hH.apart key).more fun x hx=>?_,fun key c hc=>?_,fun key c hc=>?_,hH.small⟩
    ·simp only [aY] at hx ⊢;obtain ⟨q1,q2,q3⟩:=xU.1 hx;exact xU.2 ⟨q1,by rw [el];exact q2,by rw [es _ (by omega)];exact q3⟩
    ·obtain ⟨q1,q2,q3⟩:=hH.hold key c hc;exact ⟨q1,by rw [el];exact q2,by rw [es _ (by omega)];exact q3⟩
    ·obtain ⟨q1,q2,q3⟩:=hH.wait key c hc;exact ⟨q1,by rw [el];exact q2,by rw [es _ (by omega)];exact q3⟩
   ·by_cases e2:j=id
    ·rw [e2,et]
    ·rw [eo j (by omega)]
  ·exact ⟨h,hH,gG.refl s,mP.refl s⟩
end Go.Proofs.YtmaiggbnceejiaaGreatDoor
