import Derived.Test.YtmaiggbnceejiaaGreatDoorP20
set_option linter.unusedVariables false
set_option maxRecDepth 100000
set_option maxHeartbeats 16000000
namespace Go.Proofs.YtmaiggbnceejiaaGreatDoor
theorem Safe.dV{s s':dW}(h:Safe s)(hl:s'.lines=s.lines)(hn:s'.net=s.net)(ht:s'.dV.length<=60)(hc:∀ k c,k<s.lines.length->c∈(dy s k).log->yO s k c->yO s' k c)(hx:∀ id,1<=id->id<=s'.dV.length->qF s' id):Safe s':=by
 have e1:∀ k,s'.line k=s.line k:=fun k=>by unfold dW.line;rw [hl]
 have e2:∀ k,dy s' k=dy s k:=fun k=>by unfold dy;rw [e1]
 have e3:dk s'=dk s:=by unfold dk;rw [hl]
 refine ⟨by rw [hl];exact h.ll,ht,fun k hk=>by rw [hl] at hk;rw [e1];exact h.line k hk,fun k hk=>?_,fun m hm=>?_,hx⟩
 ·rw [hl] at hk;rw [e2];have q:=h.log k hk;exact ⟨fun c hc'=>hc k c hk hc' (q.all c hc'),q.one,by rw [e3];exact q.rX⟩
 ·rw [hn] at hm;have q:=h.msg m hm;unfold yR at q ⊢;rw [hl];simp only [e1];exact q
theorem Le{s s':dW}(hl:s'.lines=s.lines)(k:Nat):jY s' k=jY s k:=by
 have e1:s'.line k=s.line k:=by unfold dW.line;rw [hl]
 unfold jY dy;rw [e1]
theorem qF.same{s s':dW}{id:Nat}(h:qF s id)(e:s'.tx id=s.tx id)(hl:s'.lines=s.lines):qF s' id:=by
 have ed:dk s'=dk s:=by unfold dk;rw [hl]
 refine ⟨by rw [e,hl];exact h.len,by rw [e];exact h.st,by rw [e];exact h.nf,by rw [e,ed];exact h.dec,by rw [e];exact h.op,fun k hk ha=>?_,fun hs=>?_,by rw [e];exact h.tm,by rw [e];exact h.few⟩
 ·rw [ed] at hk;rw [e] at ha;rw [Le hl];exact h.sure k hk ha
 ·rw [e] at hs ⊢;rw [ed,Le hl];exact h.Ht hs
theorem mq(s:dW)(id:Nat)(t:jO){j:Nat}(hj:1<=j)(hid:1<=id)(hl:id<=s.dV.length):(dY s id t).tx j=if j=id then t else s.tx j:=by
 by_cases e:j=id
 ·subst e;rw [aJ rfl];exact xy s t hj hl
 ·rw [aE e];exact wg s t (by omega)
theorem yO.same{s s':dW}{k:Nat}{c:dt}(h:yO s k c)(ht:s'.dV.length=s.dV.length)(hl:s'.lines=s.lines)(e:s'.tx c.tx.toNat=s.tx c.tx.toNat):yO s' k c:=by
 have ed:dk s'=dk s:=by unfold dk;rw [hl]
 exact ⟨h.lo,by rw [ht];exact h.hi,by rw [ed,e];exact h.dec,by rw [ed,e];exact h.jE⟩
theorem Safe.rW{s:dW}(h:Safe s){id:Nat}{t:jO}(h1:1<=id)(h2:id<=s.dV.length)(ho:(s.tx id).state=1){keys:fv}(hx:qF { dY s id t with keys:=keys } id):Safe { dY s id t with keys:=keys }:=by
 refine h.dV (s':={ dY s id t with keys:=keys }) rfl rfl (by show (dY s id t).dV.length<=60;rw [kT];exact h.tl) (fun k c hk hc q=>?_) (fun j zi BM=>?_)
 ·have hne:=h.free ho hk hc;have hlo:=q.lo;refine q.same (kT s id t) rfl ?_;exact wg s t (by omega)
 ·by_cases e:j=id
  ·rw [e];exact hx
  ·have uj:j<=s.dV.length:=by have:=kT s id t;have:j<=(dY s id t).dV.length:=BM;omega
   exact (h.tx j zi uj).same (wg s t (by omega)) rfl
theorem QR(l:List Int)(k:Nat):(l.map fun _=>(0:Int)).getD k 0=0:=by
 rw [aH,bF]
 cases l[k]? <;> rfl
theorem FK{t:jO}:tj t=true↔∀ k,t.ats.getD k 0≠1:=by
 unfold tj;simp only [cr,bT];constructor
 ·intro h k e;rw [aH] at e
  cases hk:t.ats[k]? with
  | none=>rw [hk] at e;simp at e
  | some x=>rw [hk] at e;simp at e;subst e;exact h (aC hk)
 ·intro h hm;obtain ⟨k,hk⟩:=aN hm;exact h k (by rw [aH,hk];rfl)
theorem Safe.abort{s:dW}(h:Safe s){id:Nat}(h1:1<=id)(h2:id<=s.dV.length)(ho:(s.tx id).state=1):Safe (gO s id):=by
 have hx:=h.tx id h1 h2;have e:gO s id={ dY s id { s.tx id with state:=4,ats:=(s.tx id).ats.map fun _=>0,writes:=[] } with keys:=gI s.keys id }:=by
  unfold gO nr;rw [aJ ho,xy s _ h1 h2];simp only [dY,List.set_set]
 rw [e];refine h.rW h1 h2 ho ?_;have et:=xy s { s.tx id with state:=4,ats:=(s.tx id).ats.map fun _=>0,writes:=[] } h1 h2;have et':({ dY s id { s.tx id with state:=4,ats:=(s.tx id).ats.map fun _=>0,writes:=[] } with keys:=gI s.keys id }:dW).tx id={ s.tx id with state:=4,ats:=(s.tx id).ats.map fun _=>0,writes:=[] }:=et;refine ⟨?_,?_,?_,?_,?_,?_,?_,?_,?_⟩
 all_goals rw [et']
 ·show (List.map _ _).length=s.lines.length;rw [af];exact hx.len
 ·simp
 ·intro k;show 0<=(List.map _ _).getD k 0/\(List.map _ _).getD k 0<=2;rw [QR];omega
 ·exact QR _ _
 ·intro hs;simp at hs
 ·intro k _ hk;rw [show ((s.tx id).ats.map fun _=>(0:Int)).getD k 0=0 from QR _ _] at hk;omega
 ·intro hs;simp at hs
 ·exact hx.tm
 ·simp
theorem Safe.vI{s:dW}(h:Safe s){id:Nat}(h1:1<=id)(h2:id<=s.dV.length)(ho:(s.tx id).state=2)(hr:tj (s.tx id)=false):Safe (gO s id):=by
 have hx:=h.tx id h1 h2;have e:gO s id={ dY s id { s.tx id with state:=4,writes:=[] } with keys:=gI s.keys id }:=by
  unfold gO nr;rw [aE (by omega)]
 rw [e];have et:({ dY s id { s.tx id with state:=4,writes:=[] } with keys:=gI s.keys id }:dW).tx id={ s.tx id with state:=4,writes:=[] }:=xy s _ h1 h2;refine h.dV (s':={ dY s id { s.tx id with state:=4,writes:=[] } with keys:=gI s.keys id }) rfl rfl (by show (dY s id _).dV.length<=60;rw [kT];exact h.tl) (fun k c hk hc q=>?_) (fun j zi BM=>?_)
 ·by_cases e2:c.tx.toNat=id
  ·refine ⟨q.lo,by show c.tx<=((dY s id _).dV.length:Int);rw [kT];exact q.hi,fun hd=>?_,fun hd=>?_⟩
   ·have:=(q.dec hd).2.2.2;rw [e2,hr] at this;cases this
   ·rw [e2,et];rcases q.jE hd with ⟨q1,q2,q3⟩ | ⟨q1,q2,q3⟩ | ⟨q1,q2⟩
    ·rw [e2] at q3;exact .inl ⟨q1,by simp,q3⟩
    ·rw [e2] at q2;omega
    ·rw [e2] at q2;omega
  ·have hlo:=q.lo;exact q.same (kT s id _) rfl (wg s _ (by omega))
 ·by_cases e2:j=id
  ·subst e2;refine ⟨?_,?_,?_,?_,?_,?_,?_,?_,?_⟩
   all_goals rw [et]
   ·exact hx.len
   ·simp
   ·exact hx.nf
   ·exact hx.dec
   ·intro hs;simp at hs
   ·exact hx.sure
   ·intro hs;simp at hs
   ·exact hx.tm
   ·simp
  ·have uj:j<=s.dV.length:=by have:j<=(dY s id _).dV.length:=BM;rw [kT] at this;exact this
   exact (h.tx j zi uj).same (wg s _ (by omega)) rfl
theorem Safe.keys{s:dW}(h:Safe s)(keys:fv):Safe { s with keys:=keys }:=
 h.dV (s':={ s with keys:=keys }) rfl rfl h.tl (fun k c _ _ q=>q.same rfl rfl rfl) (fun id h1 h2=>(h.tx id h1 h2).same rfl rfl)
theorem Qn(s:dW)(i:Int):(eE s i).dV.length=s.dV.length:=(gB.eE s i).len
theorem Safe.eE{s:dW}(h:Safe s){i:Int}(h1:1<=i/\i<=(s.dV.length:Int)):Safe (eE s i):=by
 unfold Go.Proofs.YtmaiggbnceejiaaGreatDoor.eE;split
 ·rename_i e;exact h.abort (by omega) (by omega) e
 ·exact h
theorem Safe.fT:∀ (ids:List Int) {s:dW},Safe s->(∀ i∈ids,1<=i/\i<=(s.dV.length:Int))->Safe (il s ids)
 | [],s,h,_=>h
 | i :: ids,s,h,hi=>by
  show Safe (il (Go.Proofs.YtmaiggbnceejiaaGreatDoor.eE s i) ids);exact Safe.fT ids (h.eE (hi i (by simp))) (fun j hj=>by rw [Qn];exact hi j (by simp [hj]))
structure ru(s s':dW)(ids:Int->Prop):Prop where
 other:∀ j:Nat,1<=j->¬ ids j->s'.tx j=s.tx j
 same:gB s s'
theorem ru.refl(s:dW)(ids:Int->Prop):ru s s ids:=⟨fun _ _ _=>rfl,gB.refl s⟩
theorem Dk(s:dW){id j:Nat}(h:j - 1≠id - 1):(gO s id).tx j=s.tx j:=by
 unfold gO nr;split
 ·show (dY (dY s id _) id _).tx j=_;rw [wg _ _ h,wg _ _ h]
 ·exact wg _ _ h
theorem ru.fT:∀ (ids:List Int) (s:dW),(∀ i∈ids,1<=i)->ru s (il s ids) (fun x=>x∈ids)
 | [],s,_=>ru.refl s _
 | i :: ids,s,hi=>by
  have ih:=ru.fT ids (Go.Proofs.YtmaiggbnceejiaaGreatDoor.eE s i) (fun j hj=>hi j (by simp [hj]));refine ⟨fun j hj hn=>?_,gB.fT _ _⟩;show (il (Go.Proofs.YtmaiggbnceejiaaGreatDoor.eE s i) ids).tx j=_;rw [ih.other j hj (fun q=>hn (by simp [q]))];unfold Go.Proofs.YtmaiggbnceejiaaGreatDoor.eE;have:=hi i (by simp);split
  ·exact Dk s (fun e=>hn (by simp [show (j:Int)=i by omega]))
  ·rfl
theorem Bw{s:dW}(h:2<=s.lines.length)(key:ByteArray):ee s key<dk s:=dF _ (by unfold dk;omega)
theorem ny(l:List Int)(k j:Nat)(x:Int):(l.set k x).getD j 0=if j=k/\j<l.length then x else l.getD j 0:=by
 rw [aH,pX];split
 ·rfl
 ·rw [aH]
theorem Safe.came{s:dW}(h:Safe s){id k:Nat}(h1:1<=id)(h2:id<=s.dV.length)(ho:(s.tx id).state=1)(hk:k<dk s):Safe (lZ s id k):=by
 have hx:=h.tx id h1 h2;have et:(dY s id { s.tx id with ats:=(s.tx id).ats.set k 1 }).tx id={ s.tx id with ats:=(s.tx id).ats.set k 1 }:=xy s _ h1 h2;have key:=h.rW (keys:=s.keys) (t:={ s.tx id with ats:=(s.tx id).ats.set k 1 }) h1 h2 ho;refine key ?_;show qF (dY s id { s.tx id with ats:=(s.tx id).ats.set k 1 }) id;refine ⟨?_,?_,?_,?_,?_,?_,?_,?_,?_⟩
 all_goals rw [et]
 ·show ((s.tx id).ats.set k 1).length=s.lines.length;rw [aa];exact hx.len
 ·exact hx.st
 ·intro j;show 0<=((s.tx id).ats.set k 1).getD j 0/\_<=_;rw [ny];split
  ·omega
  ·exact hx.nf j
 ·show ((s.tx id).ats.set k 1).getD (dk s) 0=0;rw [ny,aE (by omega)];exact hx.dec
 ·intro _ j;show ((s.tx id).ats.set k 1).getD j 0≠2;rw [ny];split
  ·omega
  ·exact hx.op ho j
 ·intro j hj BM;have uj:((s.tx id).ats.set k 1).getD j 0=2:=BM;rw [ny] at uj;split at uj
  ·omega
  ·exact absurd uj (hx.op ho j)
 ·intro hs;have hs':(s.tx id).state=3:=hs;omega
 ·exact hx.tm
 ·exact hx.few
theorem Safe.write{s:dW}(h:Safe s){id:Nat}{ws:List fR}{st:Int}(h1:1<=id)(h2:id<=s.dV.length)(ho:(s.tx id).state=1)(hw:ws.length<=20/\∀ p∈ws,p.key.size<=20)(hs:st=1\/st=2):Safe (dY s id { s.tx id with state:=st,writes:=ws }):=by
 have hx:=h.tx id h1 h2;have et:(dY s id { s.tx id with state:=st,writes:=ws }).tx id={ s.tx id with state:=st,writes:=ws }:=xy s _ h1 h2;refine h.rW (keys:=s.keys) (t:={ s.tx id with state:=st,writes:=ws }) h1 h2 ho ?_;show qF (dY s id { s.tx id with state:=st,writes:=ws }) id;refine ⟨?_,?_,?_,?_,?_,?_,?_,?_,?_⟩
 all_goals rw [et]
 ·exact hx.len
 ·show 1<=st/\st<=4;omega
 ·exact hx.nf
 ·exact hx.dec
 ·intro _;exact hx.op ho
 ·intro j hj BM;exact absurd BM (hx.op ho j)
 ·intro hs';have:st=3:=hs';omega
 ·exact hx.tm
 ·exact hw
theorem yNs(l:List eH)(a:Int)(ho:l.Pairwise fun a b=>a.id<b.id)(hr:∀ n∈l,a<=n.id/\n.id<a+4):l.length<=4:=by
 match l,ho,hr with
 | [],_,_=>simp
 | [_],_,_=>simp
 | [_,_],_,_=>simp
 | [_,_,_],_,_=>simp
 | [_,_,_,_],_,_=>simp
 | x0 :: x1 :: x2 :: x3 :: x4 :: l,ho,hr=>
  simp only [List.pairwise_cons] at ho;have a1:=ho.1 x1 (by simp);have a2:=ho.2.1 x2 (by simp);have a3:=ho.2.2.1 x3 (by simp);have a4:=ho.2.2.2.1 x4 (by simp);have b0:=hr x0 (by simp);have b4:=hr x4 (by simp);omega
theorem Safe.shape{s:dW}(h:Safe s):lY s:=by
 refine ⟨by have:=h.ll;omega,fun l hl=>?_,h.tl,fun t ht=>?_,fun t ht=>?_⟩
 ·obtain ⟨i,hi⟩:=aN hl;have hil:=(aB.1 hi).1;have e:=mL hil;rw [hi] at e;have e':=ax e;rw [e'];have q:=h.line i hil;have:=bH.2 q.ne;obtain ⟨E,h1,h2,_⟩:=q.ep;refine ⟨by omega,?_⟩;have hr:=q.nf;have ho:=q.ord;exact yNs ((s.line i).nodes) (10*(i:Int)) (ho.imp fun q=>q.1) hr
 ·obtain ⟨i,hi⟩:=aN ht;have hil:=(aB.1 hi).1;have e:=tk (s:=s) (id:=i+1) (by omega) (by omega);rw [bZ,hi] at e;rw [ax e];exact (h.tx (i+1) (by omega) (by omega)).len
 ·obtain ⟨i,hi⟩:=aN ht;have hil:=(aB.1 hi).1;have e:=tk (s:=s) (id:=i+1) (by omega) (by omega);rw [bZ,hi] at e;rw [ax e];exact (h.tx (i+1) (by omega) (by omega)).few.1
def Dn(s:dW):List Int:=((List.range s.dV.length).map fun (i:Nat)=>(i:Int)+1).filter fun o=>decide ((s.tx o.toNat).state=2)
theorem vi{s:dW}{x:Int}:x∈Dn s↔1<=x/\x<=(s.dV.length:Int)/\(s.tx x.toNat).state=2:=by
 unfold Dn;simp only [al,ag,cL,ar];constructor
 ·rintro ⟨⟨i,hi,rfl⟩,h⟩;exact ⟨by omega,by omega,h⟩
 ·rintro ⟨h1,h2,h3⟩;exact ⟨⟨(x - 1).toNat,by omega,by omega⟩,h3⟩
structure jD(X:List Int)(s:dW):Prop where
 apart:∀ k,qK (X++Dn s) (s.keys k)
 hold:∀ k,∀ c∈(s.keys k).held,1<=c.tx/\c.tx<=(s.dV.length:Int)/\((s.tx c.tx.toNat).state=1\/(s.tx c.tx.toNat).state=2)
 wait:∀ k,∀ c∈(s.keys k).waits,1<=c.tx/\c.tx<=(s.dV.length:Int)/\(s.tx c.tx.toNat).state=1
 small:∀ k:ByteArray,20<k.size->(s.keys k).held=[]/\(s.keys k).waits=[]
abbrev Held(s:dW):Prop:=jD [] s
theorem jD.ki{X:List Int}{s:dW}(h:jD X s):rP s.dV.length s.keys:=fun k c hc=>by
 rcases hc with hc | hc
 ·exact ⟨(h.hold k c hc).1,(h.hold k c hc).2.1⟩
 ·exact ⟨(h.wait k c hc).1,(h.wait k c hc).2.1⟩
theorem yTe{s:fv}{t:Int}{k:ByteArray}(h:mW (s k)):(∀ c∈(gI s t k).held,c∈(s k).held\/c∈(s k).waits)/\∀ c∈(gI s t k).waits,c∈(s k).waits:=by
 unfold gI;split
 ·unfold lr;refine ⟨fun c hc=>?_,fun c hc=>?_⟩
  ·rcases (Ap _ _ _ c).1 hc with q | q
   ·exact .inl (nZ.1 q).1
   ·exact .inr (nZ.1 q).1
  ·rcases (Ap _ _ _ c).2.1 hc with q | q
   ·simp at q
   ·exact (nZ.1 q).1
 ·exact ⟨fun c hc=>.inl hc,fun c hc=>hc⟩
theorem jD.leave{X Y:List Int}{s s':dW}{i:Int}(h:jD X s)(hk:s'.keys=gI s.keys i)(hl:s'.dV.length=s.dV.length)(hs:∀ j:Nat,1<=j->(j:Int)≠i->(s'.tx j).state=(s.tx j).state)(hY:∀ x∈X,x=i\/x∈Y):jD Y s':=by
 have EZ:=fun k=>yGo (h.apart k).ok i;have hsub:=fun k=>yTe (t:=i) (h.apart k).ok;have hst:∀ x:Int,1<=x->x≠i->(s'.tx x.toNat).state=(s.tx x.toNat).state:=fun x h1 h2=>hs x.toNat (by omega) (by omega);refine ⟨fun k=>?_,fun k c hc=>?_,fun k c hc=>?_,fun k hsz=>?_⟩
 ·rw [hk];refine yOs (W:=Y++Dn s') (fun k=>(h.apart k).more fun x hx=>?_) k;by_cases e:x=i
  ·simp [e]
  ·refine ay _ (aL.2 ?_);rcases aL.1 hx with q | q
   ·exact .inl ((hY x q).resolve_left e)
   ·obtain ⟨q1,q2,q3⟩:=vi.1 q;exact .inr (vi.2 ⟨q1,by rw [hl];exact q2,by rw [hst x q1 e];exact q3⟩)
 ·rw [hk] at hc;have hne:=(EZ k).1 c hc;rw [hl];rcases (hsub k).1 c hc with q | q
  ·obtain ⟨q1,q2,q3⟩:=h.hold k c q;exact ⟨q1,q2,by rw [hst _ q1 hne];exact q3⟩
  ·obtain ⟨q1,q2,q3⟩:=h.wait k c q;exact ⟨q1,q2,.inl (by rw [hst _ q1 hne];exact q3)⟩
 ·rw [hk] at hc;have hne:=(EZ k).2 c hc;rw [hl];obtain ⟨q1,q2,q3⟩:=h.wait k c ((hsub k).2 c hc);exact ⟨q1,q2,by rw [hst _ q1 hne];exact q3⟩
 ·rw [hk];obtain ⟨z1,z2⟩:=h.small k hsz;have hs:=hsub k;rw [z1,z2] at hs;exact ⟨List.eq_nil_iff_forall_not_mem.2 fun c hc=>by simpa using hs.1 c hc,List.eq_nil_iff_forall_not_mem.2 fun c hc=>by simpa using hs.2 c hc⟩
theorem QZ(s:dW)(id:Nat):(gO s id).keys=gI s.keys id:=by
 unfold gO nr;split <;> rfl
theorem jD.abort{X Y:List Int}{s:dW}(h:jD X s)(id:Nat)(hid:1<=id)(hY:∀ x∈X,x=(id:Int)\/x∈Y):jD Y (gO s id):=
 h.leave (QZ s id) (Iz s id) (fun j hj hne=>by rw [Dk s (by omega)]) hY
theorem jD.eE{X:List Int}{s:dW}(h:jD X s){i:Int}(hi:1<=i):jD X (eE s i):=by
 unfold Go.Proofs.YtmaiggbnceejiaaGreatDoor.eE;split
 ·exact h.abort i.toNat (by omega) (fun x hx=>.inr hx)
 ·exact h
theorem jD.CG{X:List Int}{s:dW}{i:Int}(h:jD (i :: X) s)(hi:1<=i)(hil:i<=(s.dV.length:Int)):jD X (Go.Proofs.YtmaiggbnceejiaaGreatDoor.eE s i):=by
 unfold Go.Proofs.YtmaiggbnceejiaaGreatDoor.eE;split
 ·exact h.abort i.toNat (by omega) (fun x hx=>(bA.1 hx).imp (fun e=>by omega) id)
 ·rename_i hne;refine ⟨fun k=>?_,h.hold,h.wait,h.small⟩;by_cases h2:(s.tx i.toNat).state=2
  ·refine (h.apart k).more fun x hx=>?_;rcases bA.1 hx with q | q
   ·rw [q];exact aL.2 (.inr (vi.2 ⟨hi,hil,h2⟩))
   ·exact q
  ·refine qK.less (t:=i) (h.apart k) (fun c hc e=>?_);have:=(h.hold k c hc).2.2;rw [e] at this;omega
theorem jD.ma:∀ {ids X:List Int} {s:dW},jD X s->(∀ i∈ids,1<=i)->jD X (il s ids)
 | [],_,_,h,_=>h
 | i :: ids,X,s,h,hi=>jD.ma (s:=Go.Proofs.YtmaiggbnceejiaaGreatDoor.eE s i) (h.eE (hi i (by simp))) (fun j hj=>hi j (by simp [hj]))
theorem jD.pZ:∀ {ids X:List Int} {s:dW},jD (ids++X) s->(∀ i∈ids,1<=i/\i<=(s.dV.length:Int))->jD X (il s ids)
 | [],_,_,h,_=>h
 | i :: ids,X,s,h,hi=>jD.pZ (s:=Go.Proofs.YtmaiggbnceejiaaGreatDoor.eE s i) (jD.CG (i:=i) (X:=ids++X) h (hi i (by simp)).1 (hi i (by simp)).2) (fun j hj=>by rw [Qn];exact hi j (by simp [hj]))
theorem jD.locked{X:List Int}{s:dW}(h:jD X s){id:Int}(h1:1<=id)(h2:id<=(s.dV.length:Int))(ho:(s.tx id.toNat).state=1)(key:ByteArray)(hks:key.size<=20){mode:Int}(hm:mode=1\/mode=2):jD ((gZ s id key mode).2.1++X) (gZ s id key mode).1/\∀ x∈(gZ s id key mode).2.1,id<x:=by
 have ha:=yKi (c:=⟨id,mode⟩) (h.apart key) hm;have hmem:∀ c,c∈(iI (s.keys key) ⟨id,mode⟩).1.held->c∈(s.keys key).held\/c.tx=id:=fun c hc=>by
  unfold iI at hc;split at hc
  ·exact .inl hc
  split at hc
  ·exact .inl hc
  split at hc
  ·rcases (lp (h.apart key).ok.held _ c).1 hc with q | q
   ·exact .inr (by rw [q])
   ·exact .inl q.1
  split at hc
  ·exact .inl hc
  ·exact .inl hc
 have XR:∀ c,c∈(iI (s.keys key) ⟨id,mode⟩).1.waits->c∈(s.keys key).waits\/c.tx=id:=fun c hc=>by
  unfold iI at hc;split at hc
  ·exact .inl hc
  split at hc
  ·exact .inl hc
  split at hc
  ·exact .inl hc
  split at hc
  ·exact .inl hc
  ·rcases (lp (h.apart key).ok.waits _ c).1 hc with q | q
   ·exact .inr (by rw [q])
   ·exact .inl q.1
 refine ⟨⟨fun k=>?_,fun k c hc=>?_,fun k c hc=>?_,fun k hsz=>?_⟩,ha.2⟩
 ·show qK _ (jI s.keys key _ k);by_cases e:k=key
  ·subst e;rw [uQ];exact ha.1.more fun x hx=>by
    rw [aU];exact hx
  ·rw [wj e];exact (h.apart k).more fun x hx=>by
    rw [aU];exact aL.2 (.inr hx)
 ·have hc':c∈(jI s.keys key (iI (s.keys key) ⟨id,mode⟩).1 k).held:=hc;by_cases e:k=key
  ·subst e;rw [uQ] at hc';rcases hmem c hc' with q | q
   ·exact h.hold k c q
   ·rw [q];exact ⟨h1,h2,.inl ho⟩
  ·rw [wj e] at hc';exact h.hold k c hc'
 ·have hc':c∈(jI s.keys key (iI (s.keys key) ⟨id,mode⟩).1 k).waits:=hc;by_cases e:k=key
  ·subst e;rw [uQ] at hc';rcases XR c hc' with q | q
   ·exact h.wait k c q
   ·rw [q];exact ⟨h1,h2,ho⟩
  ·rw [wj e] at hc';exact h.wait k c hc'
 ·show (jI s.keys key _ k).held=[]/\(jI s.keys key _ k).waits=[];rw [wj (fun e=>by rw [e] at hsz;omega)];exact h.small k hsz
theorem Safe.locked{s:dW}(h:Safe s)(id:Int)(key:ByteArray)(mode:Int):Safe (gZ s id key mode).1:=h.keys _
theorem yBg{s:dW}{id o:Int}{key:ByteArray}(h:o∈oK s id key):o≠id:=by
 unfold oK at h;simp only [al,bN,ar] at h;exact h.2.1
structure Cut(s s':dW):Prop where
 len:s'.dV.length=s.dV.length
 tx:∀ j:Nat,1<=j->s'.tx j=s.tx j\/((s.tx j).state=1/\(s'.tx j).state=4/\∀ k,(s'.tx j).ats.getD k 0=0)
theorem Cut.refl(s:dW):Cut s s:=⟨rfl,fun _ _=>.inl rfl⟩
theorem Cut.trans{a b c:dW}(h:Cut a b)(k:Cut b c):Cut a c:=by
 refine ⟨k.len.trans h.len,fun j hj=>?_⟩;rcases h.tx j hj with q | q <;> rcases k.tx j hj with p | p
 ·exact .inl (p.trans q)
 ·rw [q] at p;exact .inr p
 ·rw [p];exact .inr q
 ·omega
theorem Cut.abort{s:dW}{id:Nat}(h1:1<=id)(h2:id<=s.dV.length)(ho:(s.tx id).state=1):Cut s (gO s id):=by
 refine ⟨Iz s id,fun j hj=>?_⟩;by_cases e:j=id
 ·subst e;right;have e:(gO s j).tx j={ s.tx j with state:=4,writes:=[],ats:=(s.tx j).ats.map fun _=>0 }:=by
   unfold gO nr;rw [aJ ho,xy s _ h1 h2];show (dY (dY s j _) j _).tx j=_;rw [xy _ _ h1 (by rw [kT];exact h2)]
  rw [e];exact ⟨ho,rfl,fun k=>QR _ _⟩
 ·exact .inl (Dk s (by omega))
theorem Cut.eE{s:dW}{i:Int}(h:1<=i/\i<=(s.dV.length:Int)):Cut s (eE s i):=by
 unfold Go.Proofs.YtmaiggbnceejiaaGreatDoor.eE;split
 ·rename_i e;exact Cut.abort (by omega) (by omega) e
 ·exact Cut.refl s
theorem Cut.fT:∀ (ids:List Int) {s:dW},(∀ i∈ids,1<=i/\i<=(s.dV.length:Int))->Cut s (il s ids)
 | [],s,_=>Cut.refl s
 | i :: ids,s,hi=>(Cut.eE (hi i (by simp))).trans (Cut.fT ids (s:=Go.Proofs.YtmaiggbnceejiaaGreatDoor.eE s i) (fun j hj=>by rw [Qn];exact hi j (by simp [hj])))
structure PD(s:dW)(id:Nat)(a:dW × List Int × Int):Prop where
 safe:Safe a.1
 held:jD a.2.1 a.1
 wd:∀ x∈a.2.1,(id:Int)<x/\1<=x/\x<=(s.dV.length:Int)
 me:a.1.tx id=s.tx id
 same:gB s a.1
 cut:Cut s a.1
theorem Qf{s:dW}(hS:Safe s)(hH:Held s){id:Nat}(h1:1<=id)(h2:id<=s.dV.length)(ho:(s.tx id).state=1)(key:ByteArray)(hks:key.size<=20){mode:Int}(hm:mode=1\/mode=2):PD s id (jH s id key mode):=by
 have hi1:(1:Int)<=(id:Int):=by omega
 have hi2:(id:Int)<=(s.dV.length:Int):=by omega
 obtain ⟨l1,l2⟩:=hH.locked hi1 hi2 (by simpa using ho) key hks hm;have lin:∀ x∈(gZ s id key mode).2.1,1<=x/\x<=(s.dV.length:Int):=fun x hx=>by
  obtain ⟨d,hd,rfl⟩:=Qt _ _ x hx;exact hH.ki key d (.inl hd)
 unfold jH;simp only;split
 ·have hoth:∀ i∈oK (gZ s id key mode).1 id key,(1<=i/\i<=(s.dV.length:Int))/\i≠(id:Int):=fun i hi=>(have q:=Qq hi;⟨q,yBg hi⟩);obtain ⟨A,hA⟩:∃ A,A=(gZ s id key mode).1:=⟨_,rfl⟩;obtain ⟨B,hB⟩:∃ B,B=il A (oK A id key):=⟨_,rfl⟩;rw [<-hA] at hoth ⊢;rw [<-hB];have Rw:Safe A:=by rw [hA];exact hS.locked _ _ _
  have hw0:∀ k:eh,(iI k ⟨(id:Int),mode⟩).2.2.2=4->(iI k ⟨(id:Int),mode⟩).2.2.1=[]:=fun k e=>by
   revert e;unfold iI;split
   ·simp
   split
   ·simp
   split
   ·simp
   split
   ·simp
   ·simp
  have hAH:Held A:=by
   have e:=hw0 (s.keys key) (by rename_i q;exact q.1);have e':(gZ s id key mode).2.1=[]:=e;rw [e'] at l1;rw [hA];exact l1
  have KH:A.dV=s.dV:=by rw [hA];rfl
  have Yk:∀ j,A.tx j=s.tx j:=fun j=>by unfold dW.tx;rw [KH]
  have hBS:Safe B:=by rw [hB];exact Safe.fT _ Rw (fun i hi=>by rw [KH];exact (hoth i hi).1)
  have hBH:Held B:=by rw [hB];exact hAH.ma (fun i hi=>(hoth i hi).1.1)
  have Ru:=ru.fT (oK A id key) A (fun i hi=>(hoth i hi).1.1);rw [<-hB] at Ru;have hBm:B.tx id=s.tx id:=by rw [Ru.other id h1 (fun q=>(hoth _ q).2 rfl),Yk]
  have hBl:B.dV.length=s.dV.length:=by rw [Ru.same.len,KH]
  obtain ⟨m1,m2⟩:=hBH.locked hi1 (by rw [hBl];exact hi2) (by rw [aS,hBm];exact ho) key hks hm;refine ⟨hBS.locked _ _ _,by simpa using m1,fun x hx=>?_,hBm,?_,?_⟩
  ·obtain ⟨d,hd,e⟩:=Qt _ _ x hx;have:=hBH.ki key d (.inl hd);rw [hBl] at this;exact ⟨m2 x hx,by omega,by omega⟩
  ·have hs1:gB s A:=⟨by rw [hA];rfl,by rw [hA];rfl,by rw [hA];rfl,by rw [KH],fun j=>by rw [Yk]⟩;have:=hs1.trans Ru.same;exact ⟨this.l,this.d,this.net,this.len,this.at_⟩
  ·have hc:=Cut.fT (oK A id key) (s:=A) (fun i hi=>by rw [KH];exact (hoth i hi).1);rw [<-hB] at hc;exact ⟨by show B.dV.length=_;rw [hc.len,KH],fun j hj=>by
    have:=hc.tx j hj;rw [Yk] at this;exact this⟩
 ·exact ⟨hS.locked _ _ _,by simpa using l1,fun x hx=>⟨l2 x hx,lin x hx⟩,rfl,⟨rfl,rfl,rfl,rfl,fun _=>rfl⟩,⟨rfl,fun _ _=>.inl rfl⟩⟩
structure FW(s:dW)(id k:Nat)(r:dW):Prop where
 safe:Safe r
 held:Held r
 st:(r.tx id).state=1
 wr:(r.tx id).writes=(s.tx id).writes
 ats:(r.tx id).ats=(s.tx id).ats\/(r.tx id).ats=(s.tx id).ats.set k 1
 tm:(r.tx id).time=(s.tx id).time
 same:gB s r
 cut:∀ j:Nat,1<=j->j≠id->r.tx j=s.tx j\/((s.tx j).state=1/\(r.tx j).state=4/\∀ k,(r.tx j).ats.getD k 0=0)
theorem jD.came{X:List Int}{s:dW}(h:jD X s){id k:Nat}(h1:1<=id)(h2:id<=s.dV.length):jD X (lZ s id k):=by
 have e:∀ j:Nat,1<=j->((lZ s id k).tx j).state=(s.tx j).state:=fun j hj=>by
  show ((dY s id _).tx j).state=_;rw [mq s id _ hj h1 h2];split
  ·rename_i q;rw [q]
  ·rfl
 have hl:(lZ s id k).dV.length=s.dV.length:=kT _ _ _;refine ⟨fun key=>(h.apart key).more fun x hx=>?_,fun key c hc=>?_,fun key c hc=>?_,h.small⟩
 ·rcases aL.1 hx with q | q
  ·exact aL.2 (.inl q)
  ·obtain ⟨q1,q2,q3⟩:=vi.1 q;exact aL.2 (.inr (vi.2 ⟨q1,by rw [hl];exact q2,by rw [e _ (by omega)];exact q3⟩))
 ·obtain ⟨q1,q2,q3⟩:=h.hold key c hc;exact ⟨q1,by rw [hl];exact q2,by rw [e _ (by omega)];exact q3⟩
 ·obtain ⟨q1,q2,q3⟩:=h.wait key c hc;exact ⟨q1,by rw [hl];exact q2,by rw [e _ (by omega)];exact q3⟩
theorem tr{s:dW}(hS:Safe s)(hH:Held s){id:Nat}(h1:1<=id)(h2:id<=s.dV.length)(ho:(s.tx id).state=1)(key:ByteArray)(hks:key.size<=20){mode:Int}(hm:mode=1\/mode=2):FW s id (ee s key) (gC s id key mode).1:=by
 have hL:=Qf hS hH h1 h2 ho key hks hm;have hnil:(jH s id key mode).2.2≠0->(jH s id key mode).2.1=[]:=by
  have hw0:∀ k:eh,(iI k ⟨(id:Int),mode⟩).2.2.2≠0->(iI k ⟨(id:Int),mode⟩).2.2.1=[]:=fun k e=>by
   revert e;unfold iI;split
   ·simp
   split
   ·simp
   split
   ·simp
   split
   ·simp
   ·simp
  unfold jH;simp only;split
  ·exact hw0 _
  ·exact hw0 _
 unfold gC;simp only;have stay:(jH s id key mode).2.2≠0->FW s id (ee s key) (jH s id key mode).1:=fun hne=>by
  have hh:=hL.held;rw [hnil hne] at hh;exact ⟨hL.safe,hh,by rw [hL.me];exact ho,by rw [hL.me],.inl (by rw [hL.me]),by rw [hL.me],hL.same,fun j hj _=>hL.cut.tx j hj⟩
 split
 ·rename_i e;exact stay (by rw [e];simp)
 split
 ·rename_i e;exact stay (by rw [e];simp)
 obtain ⟨A,hA⟩:∃ A,A=jH s id key mode:=⟨_,rfl⟩;rw [<-hA] at hL ⊢;have Rv:A.1.lines=s.lines:=hL.same.l;have hsk:ee A.1 key=ee s key:=by unfold ee dk;rw [Rv]
 rw [hsk,aS];have DE:A.1.dV.length=s.dV.length:=hL.same.len;have hdec:dk A.1=dk s:=by unfold dk;rw [Rv]
 have hC:Safe (lZ A.1 id (ee s key)):=hL.safe.came h1 (by rw [DE];exact h2) (by rw [hL.me];exact ho) (by rw [hdec];exact Bw hS.ll.1 key);have Yi:=hL.held.came (k:=ee s key) h1 (by rw [DE];exact h2);have Yh:(lZ A.1 id (ee s key)).dV.length=s.dV.length:=by show (dY _ _ _).dV.length=_;rw [kT,DE]
 have hin:∀ i∈A.2.1,1<=i/\i<=((lZ A.1 id (ee s key)).dV.length:Int):=fun i hi=>by rw [Yh];exact (hL.wd i hi).2
 have Yg:(lZ A.1 id (ee s key)).tx id={ s.tx id with ats:=(s.tx id).ats.set (ee s key) 1 }:=by
  show (dY A.1 id _).tx id=_;rw [xy _ _ h1 (by rw [DE];exact h2),hL.me]
 have hCo:∀ j:Nat,1<=j->j≠id->(lZ A.1 id (ee s key)).tx j=A.1.tx j:=fun j hj hne=>wg _ _ (by omega);have hu:=ru.fT A.2.1 (lZ A.1 id (ee s key)) (fun i hi=>(hin i hi).1);have hme:=hu.other id h1 (fun q=>by have:=(hL.wd _ q).1;omega);rw [Yg] at hme;have hsame:gB s (lZ A.1 id (ee s key)):=hL.same.trans (gB.dY A.1 id _ (by simp));have hcut:=Cut.fT A.2.1 hin;refine ⟨Safe.fT _ hC hin,jD.pZ (ids:=A.2.1) (X:=[]) (by simpa using Yi) hin,by rw [hme];exact ho,by rw [hme],.inr (by rw [hme]),by rw [hme],hsame.trans hu.same,fun j hj hne=>?_⟩;have c1:=hL.cut.tx j hj;have c2:=hcut.tx j hj;rw [hCo j hj hne] at c2;rcases c1 with q | q <;> rcases c2 with p | p
 ·exact .inl (p.trans q)
 ·rw [q] at p;exact .inr p
 ·rw [p];exact .inr q
 ·omega
theorem TE:∀ (N:Nat) (l:List Nat),l.Nodup->(∀ x∈l,x<N)->l.length<=N
 | 0,l,_,h=>by
  cases l with
  | nil=>simp
  | cons a l=>have:=h a (by simp);omega
 | N+1,l,hn,h=>by
  by_cases e:N∈l
  ·have h1:=List.length_erase_of_mem e;have h2:=TE N (l.erase N) (hn.erase N) (fun x hx=>by
    have:=(hn.mem_erase_iff).1 hx;have:=h x this.2;omega)
   have:=List.length_pos_of_mem e;omega
  ·have:=TE N l hn (fun x hx=>by
    have:=h x hx;have:x≠N:=fun q=>e (by rw [<-q];exact hx);omega)
   omega
theorem xj.few{s:dW}{k:Nat}{log:List dt}(h:xj s k log)(hT:s.dV.length<=60):log.length<=305:=by
 have hk:∀ c∈log,2<=c.kind/\c.kind<=4/\1<=c.tx/\c.tx<=60:=fun c hc=>by
  have q:=h.all c hc;have h1:=q.lo;have h2:=q.hi;by_cases e:k=dk s
  ·have:=(q.dec e).1;omega
  ·have:=q.jE e;omega
 have hnd:(log.map fun c=>(c.kind*61+c.tx).toNat).Nodup:=by
  rw [List.Nodup,cC];refine (dJ ?_ h.one);intro a b ha hb hab e;have:=hk a ha;have:=hk b hb;apply hab;omega
 have:=TE 305 _ hnd (fun x hx=>by
  obtain ⟨c,hc,rfl⟩:=ag.1 hx;have:=hk c hc;omega)
 simpa using this
theorem Safe.mR{s:dW}(h:Safe s){k:Nat}(hk:k<s.lines.length):mR (dy s k)=true:=by
 unfold Go.Proofs.YtmaiggbnceejiaaGreatDoor.mR;rw [(h.line k hk).place (h.head hk)];rfl
theorem Safe.add{s:dW}(h:Safe s){k:Nat}(hk:k<s.lines.length)(c:dt):tG (dy s k) c=mX (dy s k) c:=by
 unfold tG;rw [h.mR hk,aJ];have:=(h.log k hk).few h.tl;simp;omega
theorem Safe.grow{s:dW}(h:Safe s){k:Nat}(hk:k<s.lines.length){c:dt}(hc:yO s k c)(h1:∀ d∈(dy s k).log,¬ (d.kind=c.kind/\d.tx=c.tx))(hp:k≠dk s->c.kind=3->∃ p∈(dy s k).log,p.kind=2/\p.tx=c.tx):Safe (mj s k c):=by
 unfold mj;rw [h.add hk];obtain ⟨g1,g2,g3⟩:=Bu (dy s k) c;have gk:xj s k ((dy s k).log++[c]):=by
  have q:=h.log k hk;refine ⟨fun d hd=>?_,bW.2 ⟨q.one,List.pairwise_singleton _ _,fun a ha b hb=>?_⟩,fun hd i d hi hd3=>?_⟩
  ·rcases aL.1 hd with e | e
   ·exact q.all d e
   ·simp at e;rw [e];exact hc
  ·simp at hb;subst hb;exact h1 a ha
  ·rw [List.getElem?_append] at hi;split at hi
   ·obtain ⟨j,p,hj,hp,e1,e2⟩:=q.rX hd i d hi hd3;exact ⟨j,p,hj,by rw [aI (by omega)];exact hp,e1,e2⟩
   ·rename_i hlt;have hd':d=c:=by
     cases hx:i - (dy s k).log.length with
     | zero=>rw [hx] at hi;simp at hi;exact hi.symm
     | succ x=>rw [hx] at hi;simp at hi
    subst hd';obtain ⟨p,Gd,e1,e2⟩:=hp hd hd3;obtain ⟨j,hj⟩:=aN Gd;have:=(aB.1 hj).1;exact ⟨j,p,by omega,by rw [aI this];exact hj,e1,e2⟩
 have hS:Safe (je s k 0 (mX (dy s k) c).1):=by
  refine h.node hk (h.head hk) g1 (by rw [g2];exact List.prefix_append _ _) ?_ (fun i p hi _=>by omega) (fun _=>by rw [g2];exact gk);rw [g2];have:=gk.few h.tl;omega
 refine hS.send fun m hm=>?_;have hk':k<(je s k 0 (mX (dy s k) c).1).lines.length:=by rw [Dl];exact hk
 refine hS.sent hk' (n:=(mX (dy s k) c).1) ?_ (g3 m hm);have e:=hS.head_mem hk';rw [Ls hk (h.line k hk).ne,aJ ⟨rfl,rfl⟩] at e;exact e
structure kp(s s':dW):Prop where
 ll:s'.lines.length=s.lines.length
 dead:s'.dead=s.dead
 tl:s'.dV.length=s.dV.length
 len:∀ k,(s'.line k).nodes.length=(s.line k).nodes.length
 node:∀ k (j:Nat) n,(s.line k).nodes[j]?=some n->∃ n',(s'.line k).nodes[j]?=some n'/\rK n n'/\n.log <+: n'.log/\(fs s n=false->n'.log=n.log)
 heard:∀ k,(s.line k).heard<=(s'.line k).heard
theorem rK.refl(n:eH):rK n n:=⟨rfl,rfl,rfl⟩
theorem rK.trans{a b c:eH}(h:rK a b)(k:rK b c):rK a c:=⟨k.id.trans h.id,k.ep.trans h.ep,k.cf.trans h.cf⟩
theorem kp.refl(s:dW):kp s s:=⟨rfl,rfl,rfl,fun _=>rfl,fun k j n h=>⟨n,h,rK.refl n,br _,fun _=>rfl⟩,fun _=>aF _⟩
theorem kp.trans{a b c:dW}(h:kp a b)(q:kp b c):kp a c:=by
 refine ⟨q.ll.trans h.ll,q.dead.trans h.dead,q.tl.trans h.tl,fun k=>(q.len k).trans (h.len k),fun k j n hn=>?_,fun k=>aM (h.heard k) (q.heard k)⟩;obtain ⟨n1,e1,e2,e3,e7⟩:=h.node k j n hn;obtain ⟨n2,e4,e5,e6,e8⟩:=q.node k j n1 e1;refine ⟨n2,e4,e2.trans e5,e3.trans e6,fun hd=>?_⟩;rw [e8 (by unfold fs at hd ⊢;rw [h.dead,e2.id];exact hd),e7 hd]
theorem kp.node1{s:dW}{k j:Nat}(hk:k<s.lines.length){n n':eH}(hj:(s.line k).nodes[j]?=some n)(hg:rK n n')(hl:n.log <+: n'.log)(hd:fs s n=false->n'.log=n.log):kp s (je s k j n'):=by
 have mQ:=fun i=>Az s hk j n' i;refine ⟨Dl _ _ _ _,rfl,rfl,fun i=>?_,fun i x m hm=>?_,fun i=>?_⟩
 ·rw [mQ];split
  ·rename_i e;rw [e];simp
  ·rfl
 ·rw [mQ];by_cases e:i=k
  ·subst e;rw [aJ rfl];show ∃ q,((s.line i).nodes.set j n')[x]?=some q/\_;rw [pX];by_cases e2:x=j
   ·subst e2;rw [hj] at hm;cases hm
    exact ⟨n',by rw [aJ ⟨rfl,(aB.1 hj).1⟩],hg,hl,hd⟩
   ·exact ⟨m,by rw [aE (fun q=>e2 q.1)];exact hm,rK.refl _,br _,fun _=>rfl⟩
  ·rw [aE e];exact ⟨m,hm,rK.refl _,br _,fun _=>rfl⟩
 ·rw [mQ];split
  ·rename_i e;rw [e];exact aF _
  ·exact aF _
theorem kp.net{s s':dW}(h:kp s s')(net:ey):kp s { s' with net:=net }:=⟨h.ll,h.dead,h.tl,h.len,h.node,h.heard⟩
structure gb(s s':dW):Prop where
 mv:kp s s'
 dV:s'.dV=s.dV
 keys:s'.keys=s.keys
 down:s'.net.down=s.net.down
 heard:∀ k,(s'.line k).heard=(s.line k).heard
 few:s.net.way.length<=200->s'.net.way.length<=200
theorem yAu{s:ey}(h:s.way.length<=200)(m:dp):(kF s m).way.length<=200:=by
 unfold kF;split
 ·exact h
 ·rename_i e;simp only [cF,ar,not_or] at e;simp;omega
theorem QX:∀ (ms:List dp) {s:ey},s.way.length<=200->(ju s ms).way.length<=200
 | [],_,h=>h
 | m :: ms,s,h=>QX ms (yAu h m)
theorem gb.refl(s:dW):gb s s:=⟨kp.refl s,rfl,rfl,rfl,fun _=>rfl,id⟩
theorem gb.trans{a b c:dW}(h:gb a b)(q:gb b c):gb a c:=⟨h.mv.trans q.mv,q.dV.trans h.dV,q.keys.trans h.keys,q.down.trans h.down,fun k=>(q.heard k).trans (h.heard k),fun e=>q.few (h.few e)⟩
theorem Qj:∀ (ms:List dp) (s:ey),(ju s ms).down=s.down
 | [],s=>rfl
 | m :: ms,s=>by show (ju (kF s m) ms).down=_;rw [Qj,UQ]
theorem gb.node1{s:dW}{k j:Nat}(hk:k<s.lines.length){n n':eH}(hj:(s.line k).nodes[j]?=some n)(hg:rK n n')(hl:n.log <+: n'.log)(hd:fs s n=false->n'.log=n.log)(ms:List dp):gb s (qx (je s k j n') ms):=by
 refine ⟨(kp.node1 hk hj hg hl hd).net _,rfl,rfl,Qj _ _,fun i=>?_,fun e=>QX ms e⟩;show ((je s k j n').line i).heard=_;rw [Az s hk];split
 ·rename_i e;rw [e]
 ·rfl
theorem gb.add{s:dW}(h:Safe s){k:Nat}(hk:k<s.lines.length)(hv:fs s (dy s k)=true)(c:dt):gb s (mj s k c)/\(∀ i,dy (mj s k c) i=if i=k then (mX (dy s k) c).1 else dy s i):=by
 unfold mj;rw [h.add hk];obtain ⟨g1,g2,g3⟩:=Bu (dy s k) c;refine ⟨gb.node1 hk (h.head hk) g1 (by rw [g2];exact List.prefix_append _ _) (fun q=>by rw [hv] at q;cases q) _,fun i=>?_⟩;show dy (je s k 0 _) i=_;rw [Ls hk (h.line k hk).ne];by_cases e:i=k
 ·rw [aJ ⟨e,rfl⟩,aJ e]
 ·rw [aE (fun q=>e q.1),aE e]
theorem Qh{log:List dt}{kind tx:Int}:kq log kind tx=none↔∀ d∈log,¬ (d.kind=kind/\d.tx=tx):=by
 unfold kq;rw [List.findIdx?_eq_none_iff];simp only [Bool.and_eq_false_iff,bT];constructor
 ·intro h d hd q;exact (h d hd).elim (fun e=>e q.1) (fun e=>e q.2)
 ·intro h d hd;by_cases e:d.kind=kind
  ·exact .inr fun e2=>h d hd ⟨e,e2⟩
  ·exact .inl e
theorem LU{l l':List dt}{kind:Int}{id:Nat}(h:nQ l kind id)(hp:∀ c∈l,c∈l'):nQ l' kind id:=by
 obtain ⟨c,hc,q⟩:=h;exact ⟨c,hp c hc,q⟩
theorem As{s:dW}(k:Nat):∀ c∈jY s k,c∈(dy s k).log:=fun c hc=>cU hc
theorem Hs{s:dW}(h:Safe s){id k:Nat}(h1:1<=id)(h2:id<=s.dV.length)(hk:k<s.lines.length){time:Int}(ht:1<=time/\time<=501){c:dt}(hd:fb s id k time=some c) :
  yO s k c/\c.tx=id/\(k≠dk s->c.kind=3->∃ p∈(dy s k).log,p.kind=2/\p.tx=c.tx):=by
 have hx:=h.tx id h1 h2;have hi1:(1:Int)<=(id:Int):=by omega
 have hi2:(id:Int)<=(s.dV.length:Int):=by omega
 unfold fb at hd;simp only at hd;split at hd
 ·rename_i e;split at hd
  ·rename_i q
   cases hd
   exact ⟨⟨hi1,hi2,fun _=>⟨rfl,ht,.inl (by simpa using q.1),by simpa using q.2⟩,fun q=>absurd e q⟩,rfl,fun q=>absurd e q⟩
  ·cases hd
 ·rename_i e;split at hd
  ·cases hd
  ·rename_i ha;split at hd
   ·rename_i q
    cases hd
    exact ⟨⟨hi1,hi2,fun q=>absurd q e,fun _=>.inl ⟨rfl,by rw [aS,q];simp,by simpa using ha⟩⟩,rfl,fun _ q=>by simp at q⟩
   ·split at hd
    ·rename_i q
     cases hd
     obtain ⟨c1,c2,c3⟩:=hx.Ht q;have hdk:k<dk s:=by unfold dk at e ⊢;omega
     have hs2:(s.tx id).ats.getD k 0=2:=by
      have:=hx.nf k;have:=FK.1 c1 k;omega
     refine ⟨⟨hi1,hi2,fun q=>absurd q e,fun _=>.inr (.inl ⟨rfl,by simpa using q,c2⟩)⟩,rfl,fun _ _=>?_⟩;obtain ⟨p,hp,e1,e2⟩:=hx.sure k hdk hs2;exact ⟨p,As k p hp,e1,e2⟩
    ·split at hd
     ·rename_i q
      cases hd
      exact ⟨⟨hi1,hi2,fun q=>absurd q e,fun _=>.inr (.inr ⟨rfl,by simpa using q⟩)⟩,rfl,fun _ q=>by simp at q⟩
     ·cases hd
structure Dm(s S:dW)(k j:Nat):Prop where
 safe:Safe S
 tells:gb s S
 more:∃ X,(dy S k).log=(dy s k).log++X/\∀ c∈X,c.tx<=(j:Int)
 told:∀ id,1<=id->id<=j->∀ time c,fb s id k time=some c->nQ (dy S k).log c.kind id
 other:∀ i,i≠k->dy S i=dy s i
 live:fs S (dy S k)=true
theorem yHl{s:dW}{id k:Nat}{time:Int}{c:dt}(h:fb s id k time=some c)(t':Int):∃ c',fb s id k t'=some c'/\c'.kind=c.kind/\c'.tx=c.tx:=by
 unfold fb at h ⊢;simp only at h ⊢;split at h
 ·rename_i e;rw [aJ e];split at h
  ·rename_i q;rw [aJ q];cases h;exact ⟨_,rfl,rfl,rfl⟩
  ·cases h
 ·rename_i e;rw [aE e];exact ⟨c,h,rfl,rfl⟩
theorem VF{s S:dW}(ht:S.dV=s.dV)(hl:S.lines.length=s.lines.length)(id k:Nat)(time:Int):fb S id k time=fb s id k time:=by
 have e1:S.tx id=s.tx id:=by unfold dW.tx;rw [ht]
 have e2:dk S=dk s:=by unfold dk;rw [hl]
 have e3:∀ t,tt S t k=tt s t k:=fun t=>by unfold tt ee;rw [e2]
 unfold fb;simp only [e1,e2,e3]
theorem Dm.step{s S:dW}{k j:Nat}(hk:k<s.lines.length)(hj:j<s.dV.length)(h:Dm s S k j):Dm s (gE S k (dy s k).log (j+1)) k (j+1):=by
 have xM:k<S.lines.length:=by rw [h.tells.mv.ll];exact hk
 have hlen:=(h.safe.log k xM).few h.safe.tl;have nM:=VF h.tells.dV h.tells.mv.ll (j+1) k;obtain ⟨X,hX,YG⟩:=h.more;have skip:(∀ time c,fb s (j+1) k time=some c->nQ (dy S k).log c.kind (j+1))->Dm s S k (j+1):=fun hh=>
  ⟨h.safe,h.tells,⟨X,hX,fun c hc=>by have:=YG c hc;omega⟩,fun id i1 i2 time c hc=>by
   by_cases e:id=j+1
   ·subst e;exact hh time c hc
   ·exact h.told id i1 (by omega) time c hc,h.other,h.live⟩
 unfold gE
 cases hd:fb S (j+1) k ((dy S k).log.length+1) with
 | none=>
  refine skip fun time c hc=>?_;obtain ⟨c',hc',_⟩:=yHl hc ((dy S k).log.length+1);rw [nM] at hd;rw [hd] at hc';cases hc'
 | some c=>
  show Dm s (if (kq (dy s k).log c.kind ((j+1:Nat):Int)).isNone then mj S k c else S) k (j+1);obtain ⟨o1,o2,o3⟩:=Hs h.safe (by omega) (by rw [h.tells.mv.tl];omega) xM (by omega) hd;have lK:∀ time c',fb s (j+1) k time=some c'->c'.kind=c.kind:=fun time c' hc'=>by
   obtain ⟨c2,q1,q2,_⟩:=yHl hc' ((dy S k).log.length+1);rw [nM] at hd;rw [hd] at q1;cases q1
   exact q2.symm
  cases hp:kq (dy s k).log c.kind ((j+1:Nat):Int) with
  | some i=>
   simp only [Option.isNone_some,cA,if_false];refine skip fun time c' hc'=>?_;rw [lK time c' hc'];have:¬ ∀ d∈(dy s k).log,¬ (d.kind=c.kind/\d.tx=((j+1:Nat):Int)):=fun q=>by rw [Qh.2 q] at hp;cases hp
   apply aR;intro hn;apply this;intro d hd' q;exact hn ⟨d,by rw [hX];exact bP _ hd',q⟩
  | none=>
   simp only [Option.isNone_none,if_true];have hno:=Qh.1 hp;have hg:=h.safe.grow xM o1 (fun d hd' q=>by
    rw [hX] at hd';rcases aL.1 hd' with e | e
    ·exact hno d e ⟨q.1,by rw [q.2,o2]⟩
    ·have:=YG d e;rw [q.2,o2] at this;omega) o3
   obtain ⟨t1,t2⟩:=gb.add h.safe xM h.live c;have hg2:=(Bu (dy S k) c).2.1;refine ⟨hg,h.tells.trans t1,⟨X++[c],?_,fun d hd'=>?_⟩,fun id i1 i2 time c' hc'=>?_,fun i hi=>?_,?_⟩
   ·rw [t2 k,aJ rfl,hg2,hX,aU]
   ·rcases aL.1 hd' with e | e
    ·have:=YG d e;omega
    ·simp at e;rw [e,o2];omega
   ·rw [t2 k,aJ rfl,hg2];by_cases e:id=j+1
    ·subst e;exact ⟨c,by simp,(lK time c' hc').symm,o2⟩
    ·exact LU (h.told id i1 (by omega) time c' hc') (fun d hd'=>bP _ hd')
   ·rw [t2 i,aE hi];exact h.other i hi
   ·rw [t2 k,aJ rfl];have hv:=h.live;unfold fs at hv ⊢;rw [t1.mv.dead,(Bu (dy S k) c).1.id];exact hv
theorem Iv{s:dW}(h:Safe s){k:Nat}(hk:k<s.lines.length){n:eH}(e:td s k=some n):n=dy s k/\fs s n=true:=by
 have hh:=h.head hk;unfold td at e
 cases hn:(s.line k).nodes with
 | nil=>rw [hn] at e;cases e
 | cons a l=>
  rw [hn] at e hh;simp only at e;split at e
  ·rename_i q;cases e;simp at hh;exact ⟨hh,q⟩
  ·cases e
theorem Tb{s:dW}(h:Safe s){k:Nat}(hk:k<s.lines.length)(e:td s k=none):fs s (dy s k)=false:=by
 have hh:=h.head hk;unfold td at e
 cases hn:(s.line k).nodes with
 | nil=>exact absurd hn (h.line k hk).ne
 | cons a l=>
  rw [hn] at e hh;simp only at e;simp at hh;subst hh;split at e
  ·cases e
  ·rename_i q;simpa using q
def Told(s:dW)(k:Nat):Prop:=∀ id,1<=id->id<=s.dV.length->∀ time c,fb s id k time=some c->nQ (dy s k).log c.kind id
theorem Ud{s:dW}(h:Safe s){k:Nat}(hk:k<s.lines.length):Safe (eV s k)/\gb s (eV s k)/\(fs s (dy s k)=true->Told (eV s k) k)/\(∀ i,i≠k->dy (eV s k) i=dy s i):=by
 unfold eV
 cases hh:td s k with
 | none=>exact ⟨h,gb.refl s,fun (q:fs s (dy s k)=true)=>absurd q (by rw [Tb h hk hh];simp),fun _ _=>rfl⟩
 | some n=>
  obtain ⟨rfl,hl⟩:=Iv h hk hh;simp only;have key:∀ m,m<=s.dV.length->Dm s (((List.range m).map (·+1)).foldl (fun h id=>gE h k (dy s k).log id) s) k m:=by
   intro m
   induction m with
   | zero=>exact fun _=>⟨h,gb.refl s,⟨[],by simp,by simp⟩,fun id i1 i2=>by omega,fun _ _=>rfl,hl⟩
   | succ m ih=>
    intro hm;rw [aY,ao,aX];exact (ih (by omega)).step hk (by omega)
  have q:=key s.dV.length (aF _);refine ⟨q.safe,q.tells,fun _ id i1 i2 time c hc=>?_,q.other⟩;rw [VF q.tells.dV q.tells.mv.ll] at hc;exact q.told id i1 (by rw [q.tells.mv.tl] at i2;exact i2) time c hc
theorem sV{s:dW}(h:Safe s):Safe (jd s)/\gb s (jd s)/\∀ k,k<s.lines.length->fs s (dy s k)=true->Told (jd s) k:=by
 have key:∀ m,m<=s.lines.length->Safe ((List.range m).foldl eV s)/\gb s ((List.range m).foldl eV s)/\(∀ k,k<m->fs s (dy s k)=true->Told ((List.range m).foldl eV s) k)/\(∀ k,m<=k->dy ((List.range m).foldl eV s) k=dy s k):=by
  intro m
  induction m with
  | zero=>exact fun _=>⟨h,gb.refl s,fun k hk=>by omega,fun _ _=>rfl⟩
  | succ m ih=>
   intro hm;rw [aY,aX];obtain ⟨a,b,c,d⟩:=ih (by omega);generalize (List.range m).foldl eV s=S at a b c d;have jq:m<S.lines.length:=by rw [b.mv.ll];omega
   obtain ⟨a',b',c',d'⟩:=Ud a jq;refine ⟨a',b.trans b',fun k hk hl=>?_,fun k hk=>?_⟩
   ·by_cases e:k=m
    ·subst e;refine c' ?_;rw [d k (aF _)];unfold fs at hl ⊢;rw [b.mv.dead];exact hl
    ·intro id i1 i2 time c2 hc2;have hc3:fb S id k time=some c2:=(VF b'.dV b'.mv.ll id k time).symm.trans hc2;show nQ (dy (eV S m) k).log c2.kind id;rw [d' k e];exact c k (by omega) hl id i1 (by have:=b'.mv.tl;show id<=S.dV.length;rw [<-this];exact i2) time c2 hc3
   ·show dy (eV S m) k=_;rw [d' k (by omega)];exact d k (by omega)
 obtain ⟨a,b,c,_⟩:=key s.lines.length (aF _);exact ⟨a,b,c⟩
end Go.Proofs.YtmaiggbnceejiaaGreatDoor
