import Derived.Test.YtmaiggbnceejiaaGreatDoorS21
set_option linter.unusedVariables false
set_option maxRecDepth 100000
set_option maxHeartbeats 16000000
namespace Go.Proofs.YtmaiggbnceejiaaGreatDoor
structure rL(s s':dX):Prop where
 safe:Safe s'
 held:Held s'
 same:sd s s'
 fin:mP s s'
 heard:∀ k,(s.line k).heard<=(s'.line k).heard
theorem rL.refl{s:dX}(h:Safe s)(hH:Held s):rL s s:=⟨h,hH,sd.refl s,mP.refl s,fun _=>aF _⟩
theorem rL.trans{a b c:dX}(h:rL a b)(k:rL b c):rL a c:=⟨k.safe,k.held,h.same.trans k.same,h.fin.trans k.fin,fun i=>aJ (h.heard i) (k.heard i)⟩
theorem rL.mv{s s':dX}(h:rL s s'):nZ s s':=
 ⟨h.same.ll,h.same.d,h.same.len,fun k=>by rw [h.same.nodes],fun k j n hn=>⟨n,by rw [h.same.nodes];exact hn,rY.refl n,bx _,fun _=>rfl⟩,h.heard⟩
theorem zXi{s:dX}(h:Safe s)(hH:Held s){k:Nat}(hk:k<s.lines.length){c:dv}(hc:∀ n∈(s.line k).nodes,n.log[(s.line k).heard]?=some c):rL s (ot k s c)/\((ot k s c).line k).heard=(s.line k).heard+1:=by
 have hb:=h.bump hk (fun n hn=>(aB.1 (hc n hn)).1);have YL:Held (bump s k):=hH.lines rfl rfl;have hkb:k<(bump s k).lines.length:=by rw [Bi];exact hk
 have hcm:c∈pN (bump s k) k:=by
  unfold pN;rw [MM s hk,Ju s hk,aP rfl];have:=hc _ (h.head_mem hk);show c∈(eE s k).log.take ((s.line k).heard+1);rw [qg this];simp
 have q:=yGa hb YL hkb hcm;rw [<-yCp s hk] at q;have hl:(ot k s c).line k=(bump s k).line k:=by unfold dX.line;rw [q.same.l]
 refine ⟨⟨q.safe,q.held,Rc s k c hk,(mP.of (s:=s) (s':=bump s k) rfl).trans q.fin,fun i=>?_⟩,?_⟩
 ·have hl':(ot k s c).line i=(bump s k).line i:=by unfold dX.line;rw [q.same.l]
  rw [hl',Ju s hk];split
  ·rename_i e;rw [e];simp
  ·exact aF _
 ·rw [hl,Ju s hk,aP rfl]
theorem zXh{k:Nat}:∀ (cs:List dv) {s:dX},Safe s->Held s->k<s.lines.length->(∀ n∈(s.line k).nodes,∃ r,n.log.drop (s.line k).heard=cs++r)->rL s (cs.foldl (ot k) s)
 | [],s,h,hH,_,_=>rL.refl h hH
 | c :: cs,s,h,hH,hk,hd=>by
  obtain ⟨q,hq⟩:=zXi h hH hk (c:=c) (fun n hn=>by
   obtain ⟨r,hr⟩:=hd n hn;have:=ai (fun l=>l[0]?) hr;simpa using this)
  refine q.trans (zXh cs q.safe q.held (by rw [q.same.ll];exact hk) fun n hn=>?_);rw [q.same.nodes] at hn;obtain ⟨r,hr⟩:=hd n hn;refine ⟨r,?_⟩;rw [hq,<-List.drop_drop,hr];rfl
theorem zUn{s:dX}(h:Safe s)(hH:Held s){k:Nat}(hk:k<s.lines.length):rL s (il s k)/\lx (il s k) k=[]:=by
 have hL:=h.line k hk;have q:rL s (il s k):=zXh (lx s k) h hH hk fun n hn=>by
  obtain ⟨r,hr⟩:=hL.last ⟨0,0,[],[],0⟩ hn;refine ⟨r,?_⟩;rw [<-hr];unfold lx qd;rw [List.drop_append_of_le_length];exact hL.heard _ (Qv hL.ne _)
 refine ⟨q,?_⟩;have hh:((il s k).line k).heard=_:=Ra k (lx s k) s hk k;rw [aP rfl] at hh;unfold lx qd;rw [q.same.nodes,hh];apply dC;have:(lx s k).length=(qd s k).log.length - (s.line k).heard:=by unfold lx;rw [bO]
 unfold qd at this;omega
theorem MP{s:dX}(h:Safe s)(hH:Held s):rL s (oh s)/\∀ k,k<s.lines.length->lx (oh s) k=[]:=by
 have key:∀ m,m<=s.lines.length->rL s (nw s m)/\∀ k,k<m->lx (nw s m) k=[]:=by
  intro m
  induction m with
  | zero=>exact fun _=>⟨rL.refl h hH,fun k hk=>by omega⟩
  | succ m ih=>
   intro hm;rw [MQ];obtain ⟨a,b⟩:=ih (by omega);have jx:m<(nw s m).lines.length:=by rw [a.same.ll];omega
   obtain ⟨c,d⟩:=zUn a.safe a.held jx;refine ⟨a.trans c,fun k hk=>?_⟩;by_cases e:k=m
   ·rw [e];exact d
   ·have e1:=b k (by omega);unfold lx qd at e1 ⊢;rw [c.same.nodes];have:=c.heard k;rw [List.drop_eq_nil_iff] at e1 ⊢;omega
 exact key s.lines.length (aF _)
theorem Safe.news{s:dX}(h:Safe s):yUd s:=fun k hk=>by
 have hL:=h.line k hk;have hm:=Qv hL.ne (⟨0,0,[],[],0⟩:eK);refine ⟨hL.heard _ hm,fun c hc=>?_⟩;have:=(h.logs hk hm).all c (cQ hc);exact ⟨this.lo,this.hi⟩
theorem GI{s:dX}:qe s=false↔∀ k,k<s.lines.length->lx s k=[]:=by
 unfold qe;rw [List.any_eq_false];simp
def gm(f:Nat->Nat):Nat->Nat
 | 0=>0
 | n+1=>gm f n+f n
theorem EK{f g:Nat->Nat}:∀ {n:Nat},(∀ k,k<n->f k<=g k)->gm f n<=gm g n
 | 0,_=>aF _
 | n+1,h=>Nat.add_le_add (EK fun k hk=>h k (by omega)) (h n (by omega))
theorem Qo{f g:Nat->Nat}:∀ {n:Nat},(∀ k,k<n->f k<=g k)->∀ k,k<n->f k<g k->gm f n<gm g n
 | 0,_,k,hk,_=>by omega
 | n+1,h,k,hk,hlt=>by
  by_cases e:k=n
  ·subst e;exact Nat.add_lt_add_of_le_of_lt (EK fun j hj=>h j (by omega)) hlt
  ·exact Nat.add_lt_add_of_lt_of_le (Qo (fun j hj=>h j (by omega)) k (by omega) hlt) (h n (by omega))
theorem RW{f:Nat->Nat}{B:Nat}:∀ {n:Nat},(∀ k,k<n->f k<=B)->gm f n<=B*n
 | 0,_=>aT _
 | n+1,h=>by
  have:=RW (n:=n) fun k hk=>h k (by omega);have:=h n (by omega);show gm f n+f n<=B*(n+1);rw [Nat.mul_succ];omega
def GF(s:dX):Nat:=gm (fun k=>(s.line k).heard) s.lines.length
theorem yCn{s:dX}(h:Safe s):GF s<=500*s.lines.length:=RW fun k hk=>by
 have hL:=h.line k hk;have hm:=h.head_mem hk;exact aJ (hL.heard _ hm) (hL.few _ hm)
structure lD(s s':dX):Prop where
 safe:Safe s'
 held:Held s'
 mv:nZ s s'
 fin:mP s s'
 down:s'.net.down=s.net.down
 few:s.net.way.length<=200->s'.net.way.length<=200
theorem lD.refl{s:dX}(h:Safe s)(hH:Held s):lD s s:=⟨h,hH,nZ.refl s,mP.refl s,rfl,id⟩
theorem lD.trans{a b c:dX}(h:lD a b)(k:lD b c):lD a c:=⟨k.safe,k.held,h.mv.trans k.mv,h.fin.trans k.fin,k.down.trans h.down,fun e=>k.few (h.few e)⟩
theorem rL.wI{s s':dX}(h:rL s s'):lD s s':=⟨h.safe,h.held,h.mv,h.fin,by rw [h.same.net],fun e=>by rw [h.same.net];exact e⟩
theorem iD.wI{s s':dX}(h:iD s s')(hS:Safe s')(hH:Held s):lD s s':=⟨hS,hH.lines h.keys h.dW,h.mv,mP.of h.dW,h.down,h.few⟩
theorem KE{s:dX}(h:Safe s)(hH:Held s):lD s (kM (oh s))/\GF s+(if qe s then 1 else 0)<=GF (kM (oh s)):=by
 obtain ⟨a,b⟩:=MP h hH;obtain ⟨c,d,_⟩:=xX a.safe;refine ⟨a.wI.trans (d.wI c a.held),?_⟩;have e:GF (kM (oh s))=gm (fun k=>((oh s).line k).heard) s.lines.length:=by
  unfold GF;rw [d.mv.ll,a.same.ll];simp only [d.heard]
 rw [e];split
 ·rename_i hn;have:∃ k,k<s.lines.length/\lx s k≠[]:=by
   apply aS;intro hx;have:qe s=false:=GI.2 fun k hk=>aS fun q=>hx ⟨k,hk,q⟩;rw [this] at hn;cases hn
  obtain ⟨k,hk,hne⟩:=this;refine Qo (fun j hj=>a.heard j) k hk ?_;have e1:=b k hk;unfold lx qd at e1 hne;rw [a.same.nodes,List.drop_eq_nil_iff] at e1;rw [Ne,List.drop_eq_nil_iff] at hne;omega
 ·exact EK (fun j hj=>a.heard j)
theorem zRz:∀ (n:Nat) {s:dX},Safe s->Held s->lD s (fA n s)
 | 0,s,h,hH=>lD.refl h hH
 | n+1,s,h,hH=>by
  unfold fA;split
  ·have q:=(KE h hH).1;exact q.trans (zRz n q.safe q.held)
  ·exact lD.refl h hH
theorem zTl:∀ (n:Nat) {s:dX},Safe s->Held s->500*s.lines.length - GF s<n->qe (fA n s)=false
 | 0,s,h,hH,hn=>by omega
 | n+1,s,h,hH,hn=>by
  unfold fA;by_cases e:qe s=true
  ·rw [aP e];obtain ⟨q,hq⟩:=KE h hH;rw [aP e] at hq;have:=yCn q.safe;rw [q.mv.ll] at this;exact zTl n q.safe q.held (by rw [q.mv.ll];omega)
  ·rw [aK e];simpa using e
theorem GX{s:dX}(h:Safe s)(hH:Held s):lD s (oB s)/\qe (oB s)=false:=by
 unfold oB;exact ⟨zRz _ h hH,zTl _ h hH (by omega)⟩
theorem yKs{h:dX}{ns:List eK}{id:Int}{j:Nat}(e:Bc h ns id=some j):∃ n,ns[j]?=some n/\gS h n=true/\n.id=id:=by
 unfold Bc at e;rw [cA] at e;obtain ⟨hj,h1,_⟩:=e;simp only [bT,bA] at h1;exact ⟨ns[j],aA hj,h1.1,h1.2⟩
theorem zXa{h:dX}{id:Int}:∀ {k0:Nat} {ls:List jG} {k j:Nat},yZ h id k0 ls=some (k,j)->∃ l n,k0<=k/\ls[k - k0]?=some l/\l.nodes[j]?=some n/\gS h n=true/\n.id=id
 | k0,[],k,j,e=>by simp [yZ] at e
 | k0,l :: ls,k,j,e=>by
  unfold yZ at e
  cases hf:Bc h l.nodes id with
  | some i=>
   rw [hf] at e;simp only [ae,Prod.mk.injEq] at e;obtain ⟨rfl,rfl⟩:=e;obtain ⟨n,q⟩:=yKs hf;exact ⟨l,n,aF _,by simp,q⟩
  | none=>
   rw [hf] at e;obtain ⟨l',n,q1,q2,q3⟩:=zXa e;exact ⟨l',n,by omega,by rw [show k - k0=(k - (k0+1))+1 by omega];simpa using q2,q3⟩
theorem KD{s:dX}{id:Int}{k j:Nat}(e:pK s id=some (k,j)):k<s.lines.length/\∃ n,(s.line k).nodes[j]?=some n/\gS s n=true/\n.id=id:=by
 obtain ⟨l,n,_,q2,q3⟩:=zXa e;rw [Nat.sub_zero] at q2;have hk:=(aB.1 q2).1;have e1:=ma hk;rw [q2] at e1
 cases e1
 exact ⟨hk,n,q3⟩
theorem zY{s:dX}{k j:Nat}{n:eK}(h:(s.line k).nodes[j]?=some n):fP s k j=n:=by
 unfold fP;rw [aI,h];rfl
theorem Safe.step{s:dX}(h:Safe s){k j:Nat}(hk:k<s.lines.length){n:eK}(hj:(s.line k).nodes[j]?=some n){m:dw}(hm:Cn s m):Safe (nx s k j m):=by
 unfold nx;rw [zY hj];obtain ⟨g1,g2,g3⟩:=RM n m;have hL:=h.line k hk;have hS:Safe (ld s k j (jP n m).1):=by
  rcases g2 with e | ⟨e1,e2,e3,e4,e5⟩
  ·refine h.node hk hj g1 (by rw [e];exact bx _) (by rw [e];exact hL.few n (aC hj)) (fun i p hi hp=>?_) (fun e0=>?_)
   ·rw [e];exact (ud.1 hL.ord i j p n hi hp hj).2
   ·rw [e];exact h.logs hk (aC hj)
  ·obtain ⟨i,a,hi,ha,Ow⟩:=hL.WS hj (Qi e2);have hij:i+1=j:=by omega
   obtain ⟨N,q1,q2⟩:=hm e1 k hk a (aC ha) Ow;have hN:N=n.log.length:=by omega
   subst hN;have hpre:n.log++[m.cmd] <+: a.log:=by
    obtain ⟨t,ht⟩:=(ud.1 hL.ord i j a n (by omega) ha hj).2;rw [<-ht] at q2 ⊢;rw [aM (aF _),Nat.sub_self] at q2
    cases t with
    | nil=>simp at q2
    | cons x t=>simp at q2;subst q2;exact ⟨t,by simp⟩
   refine h.node hk hj g1 (by rw [e5];exact List.prefix_append _ _) (by rw [e5];simp;omega) (fun i' p hi' hp=>?_) (fun e0=>by omega);rw [e5];by_cases e6:i'=i
   ·subst e6;rw [ha] at hp;cases hp;exact hpre
   ·exact hpre.trans (ud.1 hL.ord i' i p a (by omega) hp ha).2
 refine hS.send fun m' hm'=>?_;have hk':k<(ld s k j (jP n m).1).lines.length:=by rw [GW];exact hk
 refine hS.sent hk' (n:=(jP n m).1) ?_ (g3 m' hm');rw [Eb s hk,aP rfl];exact aC (i:=j) (by rw [qf,aP ⟨rfl,(aB.1 hj).1⟩])
theorem iD.step{s:dX}{k j:Nat}(hk:k<s.lines.length){n:eK}(hj:(s.line k).nodes[j]?=some n)(hv:gS s n=true)(m:dw):iD s (nx s k j m):=by
 unfold nx;rw [zY hj];obtain ⟨g1,g2,g3⟩:=RM n m;refine iD.node1 hk hj g1 ?_ (fun q=>by rw [hv] at q;cases q) _;rcases g2 with e | ⟨_,_,_,_,e⟩
 ·rw [e];exact bx _
 ·rw [e];exact List.prefix_append _ _
theorem Rf{s:dX}(h:Safe s)(hH:Held s)(k:Nat):lD s (lk s k):=by
 unfold lk
 cases hm:s.net.way[k]? with
 | none=>exact lD.refl h hH
 | some m=>
  have ht:Safe (fz s k):=h.way fun m' hm'=>cG hm';have hT:lD s (fz s k):=⟨ht,hH.lines rfl rfl,(nZ.refl s).net _,mP.of rfl,rfl,fun e=>aJ (List.length_eraseIdx_le _ _) e⟩;simp only
  cases hn:pK s m.to with
  | none=>exact hT
  | some kj=>
   obtain ⟨kk,j⟩:=kj;obtain ⟨hk,n,q1,q2,q3⟩:=KD hn;have hm':Cn (fz s k) m:=h.msg m (aC hm);have hS:=ht.step (k:=kk) (j:=j) (n:=n) hk q1 hm';have SW:lD (fz s k) (nx (fz s k) kk j m):=(iD.step (s:=fz s k) hk q1 q2 m).wI hS hT.held;exact (hT.trans SW).trans (GX hS SW.held).1
theorem Safe.fK{s:dX}(h:Safe s){k j:Nat}(hk:k<s.lines.length):Safe (fK k s j)/\iD s (fK k s j):=by
 unfold Go.Proofs.YtmaiggbnceejiaaGreatDoor.fK;split
 ·by_cases hj:j<(s.line k).nodes.length
  ·have hj':(s.line k).nodes[j]?=some (fP s k j):=by rw [aA hj];unfold fP;rw [aI,aA hj];rfl
   obtain ⟨g1,g2,g3⟩:=GP (fP s k j);have hL:=h.line k hk;have hS:Safe (ld s k j (kz (fP s k j)).1):=by
    refine h.node hk hj' g1 (by rw [g2];exact bx _) (by rw [g2];exact hL.few _ (aC hj')) (fun i p hi hp=>?_) (fun e0=>?_)
    ·rw [g2];exact (ud.1 hL.ord i j p _ hi hp hj').2
    ·rw [g2];exact h.logs hk (aC hj')
   refine ⟨hS.send fun m' hm' h3=>?_,iD.node1 hk hj' g1 (by rw [g2];exact bx _) (fun _=>g2) _⟩;have:=(g3 m' hm').2;omega
  ·have hz:fP s k j=⟨0,0,[],[],0⟩:=by unfold fP;rw [aI,ah (by omega)];rfl
   have Hw:∀ n,ld s k j n=s:=fun n=>by
    unfold ld rn;have e1:(s.line k).nodes.set j n=(s.line k).nodes:=List.set_eq_of_length_le (by omega);rw [e1];have e2:s.lines.set k ⟨(s.line k).nodes,(s.line k).heard⟩=s.lines:=by
     refine bI fun i=>?_;rw [qf];split
     ·rename_i e;rw [e.1,ma hk]
     ·rfl
    rw [e2]
   have ib:(kz (fP s k j)).2=[]:=by rw [hz];rfl
   rw [Hw,ib];exact ⟨h,iD.refl s⟩
 ·exact ⟨h,iD.refl s⟩
theorem MU{s:dX}(h:Safe s){k:Nat}(hk:k<s.lines.length):Safe (eU s k)/\iD s (eU s k):=by
 unfold eU;generalize List.range (s.line k).nodes.length=js
 suffices key:∀ (js:List Nat) (S:dX),Safe S->iD s S->Safe (js.foldl (fK k) S)/\iD s (js.foldl (fK k) S) from key js s h (iD.refl s)
 intro js
 induction js with
 | nil=>exact fun S a b=>⟨a,b⟩
 | cons j js ih=>
  intro S a b;obtain ⟨c,d⟩:=a.fK (k:=k) (j:=j) (by rw [b.mv.ll];exact hk);exact ih _ c (b.trans d)
theorem RX{s:dX}(h:Safe s):Safe (lZ s)/\iD s (lZ s):=by
 unfold lZ
 suffices key:∀ m,m<=s.lines.length->Safe ((List.range m).foldl eU s)/\iD s ((List.range m).foldl eU s) from key _ (aF _)
 intro m
 induction m with
 | zero=>exact fun _=>⟨h,iD.refl s⟩
 | succ m ih=>
  intro hm;rw [aj,al];obtain ⟨a,b⟩:=ih (by omega);obtain ⟨c,d⟩:=MU a (k:=m) (by rw [b.mv.ll];omega);exact ⟨c,b.trans d⟩
def kG(l:jG)(n:eK):eK:=(kz (jL n (nz l) (l.nodes.map (·.id)))).1
theorem yTu{l:jG}{n:eK}(hi:oR n=true):(kG l n).id=n.id/\(kG l n).dk=nz l/\(kG l n).nodes=l.nodes.map (·.id)/\(kG l n).log=n.log:=by
 have e:jL n (nz l) (l.nodes.map (·.id))=yX n (nz l) (l.nodes.map (·.id)):=by
  unfold jL;rw [hi];rfl
 unfold kG;rw [e];obtain ⟨g1,g2,_⟩:=GP (yX n (nz l) (l.nodes.map (·.id)));exact ⟨g1.id,g1.ep,g1.cf,g2⟩
theorem Ri(l:jG):(mZ l).1=⟨l.nodes.map (kG l),l.heard⟩:=rfl
theorem zSf{l:jG}{m:dw}(h:m∈(mZ l).2):m.kind=1\/m.kind=4:=by
 unfold mZ at h;simp only [cS] at h;obtain ⟨n,_,hm⟩:=h;exact ((GP _).2.2 m hm).2
theorem ri.fix{k:Nat}{l:jG}(h:ri k l){ns:List eK}(hs:ns.Sublist l.nodes)(hne:ns≠[])(hlt:ns.length<l.nodes.length):ri k (mZ ⟨ns,l.heard⟩).1/\∀ n∈ns,(kG ⟨ns,l.heard⟩ n).id=n.id/\(kG ⟨ns,l.heard⟩ n).log=n.log:=by
 have hin:∀ n∈ns,Go.Proofs.YtmaiggbnceejiaaGreatDoor.oR n=true:=fun n hn=>h.oR (hs.subset hn);have hb:∀ n∈ns,_:=fun n hn=>yTu (l:=⟨ns,l.heard⟩) (hin n hn);rw [Ri];refine ⟨⟨fun e=>hne (by simpa using e),?_,fun x hx=>?_,fun x hx=>?_,?_,fun x hx=>?_,fun x hx=>?_⟩,fun n hn=>⟨(hb n hn).1,(hb n hn).2.2.2⟩⟩
 ·rw [cB];refine cr ?_ (h.ord.sublist hs);intro a b ha hb' hab;rw [(hb a ha).1,(hb b hb').1,(hb a ha).2.2.2,(hb b hb').2.2.2];exact hab
 ·obtain ⟨n,hn,rfl⟩:=af.1 hx;rw [(hb n hn).1];exact h.oz n (hs.subset hn)
 ·obtain ⟨n,hn,rfl⟩:=af.1 hx;rw [(hb n hn).2.2.1];show ns.map (·.id)=(ns.map (kG ⟨ns,l.heard⟩)).map (·.id);rw [dO];exact List.map_congr_left fun a ha=>((hb a ha).1).symm
 ·obtain ⟨E,h1,h2,h3⟩:=h.ep;refine ⟨E+1,by omega,by show E+1+((ns.map _).length:Int)<=6;rw [ar];omega,fun x hx=>?_⟩;obtain ⟨n,hn,rfl⟩:=af.1 hx;rw [(hb n hn).2.1];unfold nz
  cases ns with
  | nil=>exact absurd rfl hne
  | cons a ns=>show a.dk+1=E+1;rw [h3 a (hs.subset (by simp))]
 ·obtain ⟨n,hn,rfl⟩:=af.1 hx;rw [(hb n hn).2.2.2];exact h.heard n (hs.subset hn)
 ·obtain ⟨n,hn,rfl⟩:=af.1 hx;rw [(hb n hn).2.2.2];exact h.few n (hs.subset hn)
def eY(s:dX)(k:Nat):dX:=sg (rn s k (mZ ⟨fa s k,(s.line k).heard⟩).1) (mZ ⟨fa s k,(s.line k).heard⟩).2
theorem KC(s:dX){k:Nat}(hk:k<s.lines.length)(i:Nat):(eY s k).line i=if i=k then (mZ ⟨fa s k,(s.line k).heard⟩).1 else s.line i:=Lv s k _ i hk
theorem wF(s:dX)(k:Nat):(eY s k).lines.length=s.lines.length:=by simp [eY,rn,sg]
theorem Safe.eY{s:dX}(h:Safe s){k:Nat}(hk:k<s.lines.length)(hne:fa s k≠[])(hlt:(fa s k).length<(s.line k).nodes.length):Safe (eY s k):=by
 have hL:=h.line k hk;have hsub:(fa s k).Sublist (s.line k).nodes:=bj;obtain ⟨f1,f2⟩:=hL.fix hsub hne hlt;have nM:=fun i=>KC s hk i;have hd:du (Go.Proofs.YtmaiggbnceejiaaGreatDoor.eY s k)=du s:=by unfold du;rw [wF]
 have hold:∀ i,i<s.lines.length->∀ x∈((Go.Proofs.YtmaiggbnceejiaaGreatDoor.eY s k).line i).nodes,∃ n∈(s.line i).nodes,x.id=n.id/\x.log=n.log:=fun i hi x hx=>by
  rw [nM] at hx;split at hx
  ·rename_i e;subst e;rw [Ri] at hx;obtain ⟨n,hn,rfl⟩:=af.1 hx;exact ⟨n,hsub.subset hn,f2 n hn⟩
  ·exact ⟨x,hx,rfl,rfl⟩
 have hn0:∀ i,i<s.lines.length->∃ n∈(s.line i).nodes,(eE (Go.Proofs.YtmaiggbnceejiaaGreatDoor.eY s k) i).log=n.log:=fun i hi=>by
  have qp:((Go.Proofs.YtmaiggbnceejiaaGreatDoor.eY s k).line i).nodes≠[]:=by
   rw [nM];split
   ·exact f1.ne
   ·exact (h.line i hi).ne
  obtain ⟨n,hn,_,e⟩:=hold i hi _ (aC (Tw qp));exact ⟨n,hn,e⟩
 have FO:∀ i,((Go.Proofs.YtmaiggbnceejiaaGreatDoor.eY s k).line i).heard=(s.line i).heard:=fun i=>by
  rw [nM];split
  ·rename_i e;rw [e];rfl
  ·rfl
 have vL:∀ i,i<s.lines.length->pN (Go.Proofs.YtmaiggbnceejiaaGreatDoor.eY s k) i=pN s i:=fun i hi=>by
  obtain ⟨n,hn,e⟩:=hn0 i hi;unfold pN;rw [FO,e];exact h.Db hi hn
 have hbase:Safe (Go.Proofs.YtmaiggbnceejiaaGreatDoor.eY s k):=by
  refine ⟨by rw [wF];exact h.ll,h.tl,fun i hi=>?_,fun i hi=>?_,fun m hm h3 i hi x hx e=>?_,fun id i1 i2=>(h.tx id i1 i2).of rfl (wF s k) vL h.dec_lt⟩
  ·rw [wF] at hi;rw [nM];split
   ·rename_i e;rw [e];exact f1
   ·exact h.line i hi
  ·rw [wF] at hi;obtain ⟨n,hn,e⟩:=hn0 i hi;rw [e];exact (h.logs hi hn).of rfl hd
  ·rw [wF] at hi;rcases RL hm with q | q
   ·obtain ⟨n,hn,e1,e2⟩:=hold i hi x hx;rw [e2];exact h.msg m q h3 i hi n hn (by rw [<-e1];exact e)
   ·have:=zSf q;omega
 exact hbase
structure fZ(s s':dX):Prop where
 safe:Safe s'
 held:Held s'
 fin:mP s s'
 ll:s'.lines.length=s.lines.length
theorem fZ.refl{s:dX}(h:Safe s)(hH:Held s):fZ s s:=⟨h,hH,mP.refl s,rfl⟩
theorem fZ.trans{a b c:dX}(h:fZ a b)(k:fZ b c):fZ a c:=⟨k.safe,k.held,h.fin.trans k.fin,k.ll.trans h.ll⟩
theorem lD.En{s s':dX}(h:lD s s'):fZ s s':=⟨h.safe,h.held,h.fin,h.mv.ll⟩
theorem mP.abort{s:dX}{id:Nat}(h1:1<=id)(h2:id<=s.dW.length)(ho:(s.tx id).state<3):mP s (gi s id):=by
 refine ⟨by rw [ML];exact aF _,fun j j1 j2 j3=>?_⟩;by_cases e:j=id
 ·subst e;omega
 ·rw [GS s (by omega)]
theorem Vh{s:dX}(h:Safe s){id k:Nat}(h1:1<=id)(h2:id<=s.dW.length)(hk:k<du s)(hs:(s.tx id).ats.getD k 0=2):(kp (eE s k).log 2 (id:Int)).isNone=false:=by
 obtain ⟨c,hc,e1,e2⟩:=(h.tx id h1 h2).sure k hk hs
 cases hp:kp (eE s k).log 2 (id:Int) with
 | some i=>rfl
 | none=>exact absurd ⟨e1,e2⟩ (RT.1 hp c (RF k c hc))
theorem Uq{s:dX}(h:Safe s)(hH:Held s){k:Nat}(hk:k<s.lines.length):fZ s (sV s k)/\gG s (sV s k):=by
 unfold sV
 suffices key:∀ m,m<=s.dW.length->fZ s ((List.range m).foldl (fun h i=>if kc h k i then gi h (i+1) else h) s)/\gG s ((List.range m).foldl (fun h i=>if kc h k i then gi h (i+1) else h) s) from key _ (aF _)
 intro m
 induction m with
 | zero=>exact fun _=>⟨fZ.refl h hH,gG.refl s⟩
 | succ m ih=>
  intro hm;rw [aj,al];obtain ⟨a,b⟩:=ih (by omega);generalize (List.range m).foldl (fun h i=>if kc h k i then gi h (i+1) else h) s=S at a b;show fZ s (if kc S k m then gi S (m+1) else S)/\gG s (if kc S k m then gi S (m+1) else S);split
  ·rename_i hl;have jx:m+1<=S.dW.length:=by rw [b.len];omega
   have IS:k<S.lines.length:=by rw [b.l];exact hk
   unfold kc at hl;simp only [bT,br,bA] at hl;obtain ⟨oJ,hl2⟩:=hl;have hx:=a.safe.tx (m+1) (by omega) jx;have lp:k<du S:=by
    have:k≠du S:=fun e=>oJ (by rw [e];exact hx.dec);unfold du at this ⊢;omega
   have Fh:Held (gi S (m+1)):=a.held.abort (m+1) (by omega) (fun x hx=>by simp at hx);rcases hl2 with q | ⟨q,q2⟩
   ·exact ⟨a.trans ⟨a.safe.abort (by omega) jx q,Fh,mP.abort (by omega) jx (by omega),by rw [Ea]⟩,b.trans (gG.abort S _)⟩
   ·have hr:ue (S.tx (m+1))=false:=by
     apply aS;intro hn;simp only [Bool.not_eq_false] at hn;have:=Jy.1 hn k;have:=hx.oz k;have h2:(S.tx (m+1)).ats.getD k 0=2:=by omega
     have:=Vh a.safe (by omega) jx lp h2;have e:((m+1:Nat):Int)=(m:Int)+1:=by omega
     rw [e,q2] at this;cases this
    exact ⟨a.trans ⟨a.safe.ve (by omega) jx q hr,Fh,mP.abort (by omega) jx (by omega),by rw [Ea]⟩,b.trans (gG.abort S _)⟩
  ·exact ⟨a,b⟩
theorem MS{s:dX}{k:Nat}(h:¬ ((fa s k).length=0\/(fa s k).length=(s.line k).nodes.length)):fa s k≠[]/\(fa s k).length<(s.line k).nodes.length:=by
 have:(fa s k).length<=(s.line k).nodes.length:=bB _ _;refine ⟨fun e=>h (.inl (by rw [e];rfl)),by omega⟩
theorem zXn{s:dX}(h:Safe s)(hH:Held s){k:Nat}(hk:k<s.lines.length):fZ s (eW s k)/\(eW s k).dead=s.dead/\(eW s k).net.down=s.net.down/\(eW s k).dW.length=s.dW.length/\(∀ i,i≠k->(eW s k).line i=s.line i) /\
  (((eW s k).line k).nodes=(s.line k).nodes/\((fa s k).length=0\/(fa s k).length=(s.line k).nodes.length)\/(∀ n∈((eW s k).line k).nodes,gS s n=true))/\(∀ i,((eW s k).line i).heard=(s.line i).heard):=by
 unfold eW;split
 ·rename_i e;exact ⟨fZ.refl h hH,rfl,rfl,rfl,fun _ _=>rfl,.inl ⟨rfl,e⟩,fun _=>rfl⟩
 ·rename_i e;obtain ⟨e1,e2⟩:=MS e;have hF:Safe (eY s k):=h.eY hk e1 e2;have Fi:Held (eY s k):=hH.lines rfl rfl;obtain ⟨a,b⟩:=Uq hF Fi (k:=k) (by rw [wF];exact hk);have hA:fZ s (eY s k):=⟨hF,Fi,mP.of rfl,wF s k⟩;have hl:∀ i,(sV (eY s k) k).line i=(eY s k).line i:=fun i=>by unfold dX.line;rw [b.l]
  refine ⟨hA.trans a,b.d,by show (sV (eY s k) k).net.down=_;rw [b.net];exact RV _ _,b.len,fun i hi=>?_,.inr fun n hn=>?_,fun i=>?_⟩
  ·show (sV (eY s k) k).line i=_;rw [hl,KC s hk,aK hi]
  ·have hn':n∈((sV (eY s k) k).line k).nodes:=hn;rw [hl,KC s hk,aP rfl,Ri] at hn';obtain ⟨x,hx,rfl⟩:=af.1 hn';have hxl:gS s x=true:=(bE.1 hx).2;have:=((h.line k hk).fix (ns:=fa s k) bj e1 e2).2 x hx;unfold gS at hxl ⊢;rw [this.1];exact hxl
  ·show ((sV (eY s k) k).line i).heard=_;rw [hl,KC s hk];split
   ·rename_i q;rw [q];rfl
   ·rfl
theorem GU{s:dX}(h:Safe s)(hH:Held s):∀ m,m<=s.lines.length->fZ s ((List.range m).foldl eW s)/\((List.range m).foldl eW s).dead=s.dead/\((List.range m).foldl eW s).net.down=s.net.down/\((List.range m).foldl eW s).dW.length=s.dW.length/\(∀ i,m<=i->((List.range m).foldl eW s).line i=s.line i) /\
  (∀ i,i<m->(((List.range m).foldl eW s).line i).nodes=(s.line i).nodes/\((fa s i).length=0\/(fa s i).length=(s.line i).nodes.length)\/(∀ n∈(((List.range m).foldl eW s).line i).nodes,gS s n=true))/\(∀ i,(((List.range m).foldl eW s).line i).heard=(s.line i).heard):=by
 intro m
 induction m with
 | zero=>exact fun _=>⟨fZ.refl h hH,rfl,rfl,rfl,fun _ _=>rfl,fun i hi=>by omega,fun _=>rfl⟩
 | succ m ih=>
  intro hm;rw [aj,al];obtain ⟨a,b,b2,c,d,e,f⟩:=ih (by omega);generalize (List.range m).foldl eW s=S at a b b2 c d e f;show fZ s (eW S m)/\(eW S m).dead=s.dead/\(eW S m).net.down=s.net.down/\(eW S m).dW.length=s.dW.length/\(∀ i,m+1<=i->(eW S m).line i=s.line i)/\(∀ i,i<m+1->((eW S m).line i).nodes=(s.line i).nodes/\((fa s i).length=0\/(fa s i).length=(s.line i).nodes.length)\/(∀ n∈((eW S m).line i).nodes,gS s n=true))/\(∀ i,((eW S m).line i).heard=(s.line i).heard);obtain ⟨a',b',b2',c',d',e',f'⟩:=zXn a.safe a.held (k:=m) (by rw [a.ll];omega);have hlv:∀ n,gS S n=gS s n:=fun n=>by unfold gS;rw [b]
  refine ⟨a.trans a',b'.trans b,b2'.trans b2,c'.trans c,fun i hi=>by rw [d' i (by omega),d i (by omega)],fun i hi=>?_,fun i=>(f' i).trans (f i)⟩;by_cases q:i=m
  ·subst q;have hli:fa S i=fa s i:=by unfold fa;rw [d i (aF _)];congr 1;funext n;exact hlv n
   rw [d i (aF _),hli] at e';rcases e' with e' | e'
   ·exact .inl e'
   ·exact .inr fun n hn=>by rw [<-hlv];exact e' n hn
  ·rw [d' i q];exact e i (by omega)
theorem yTc{s:dX}(h:Safe s)(hH:Held s):fZ s (mL s):=by
 unfold mL;obtain ⟨a,-⟩:=GU h hH s.lines.length (aF _);obtain ⟨b,c,_⟩:=xX a.safe;have:=c.wI b a.held;exact (a.trans this.En).trans (GX b this.held).1.En
theorem yTk{s:fC}{id:Int}{m:dw}(h:m∈(Ef s id).way):m∈s.way:=(bE.1 h).1
theorem Safe.dead{s:dX}(h:Safe s)(d:List Int):Safe { s with dead:=d }:=
 h.dW (s':={ s with dead:=d }) rfl rfl h.tl (fun k c _ _ q=>q.same rfl rfl rfl) (fun id h1 h2=>(h.tx id h1 h2).same rfl rfl)
theorem yDd{s:dX}(h:Safe s)(hH:Held s)(id:Int):fZ s (pZ s id).1:=by
 unfold pZ;split
 ·exact fZ.refl h hH
 ·exact ⟨(h.way (net:=Ef s.net id) fun m hm=>yTk hm).dead _,hH.lines rfl rfl,mP.of rfl,rfl⟩
theorem yBz{s:dX}(h:Safe s)(hH:Held s)(k:Int):fZ s (pd s k).1:=by
 unfold pd;split
 ·exact ⟨h.way (net:=Rp s.net k.toNat) fun m hm=>cG hm,hH.lines rfl rfl,mP.of rfl,rfl⟩
 ·exact fZ.refl h hH
theorem yDh{s:dX}(h:Safe s)(hH:Held s)(id:Int):fZ s (qQ s id).1:=by
 unfold qQ;split
 ·exact fZ.refl h hH
 ·rename_i e;obtain ⟨i,rfl,h1,h2,ho⟩:=pO (by simpa using e);rw [aV];exact ⟨h.abort h1 h2 ho,hH.abort i h1 (fun x hx=>by simp at hx),mP.abort h1 h2 (by omega),by rw [Ea]⟩
def Has(k:ec)(x:Int):Prop:=∃ c∈k.held,c.tx=x
theorem TT{x:Int}:∀ (q held kept:List de),kZ held->(∃ c∈held,c.tx=x)->∃ c∈(jO held kept q).1,c.tx=x
 | [],held,kept,_,h=>h
 | c :: q,held,kept,he,h=>by
  unfold jO;split
  ·refine TT q (jS held c) kept (EU he c) ?_;obtain ⟨d,hd,e⟩:=h;by_cases e2:d.tx=c.tx
   ·exact ⟨c,(oC he c c).2 (.inl rfl),by omega⟩
   ·exact ⟨d,(oC he c d).2 (.inr ⟨hd,e2⟩),e⟩
  ·exact TT q held (kept++[c]) he h
theorem Has.rel{s:fy}{k:ByteArray}{x t:Int}(hk:mu (s k))(h:Has (s k) x)(hne:x≠t):Has (gP s t k) x:=by
 unfold gP;split
 ·obtain ⟨c,hc,e⟩:=h;exact TT _ _ _ (EX hk.held t) ⟨c,pP.2 ⟨hc,by omega⟩,e⟩
 ·exact h
theorem Has.fc{x:Int}{key:ByteArray}(hx:1<=x):∀ (ids:List Int) {X:List Int} {s:dX},jI X s->(∀ i∈ids,1<=i)->Has (s.keys key) x->(x∉ids\/(s.tx x.toNat).state≠1)->Has ((jV s ids).keys key) x
 | [],X,s,_,_,h,_=>h
 | i :: ids,X,s,hH,hi,h,hn=>by
  have hi1:=hi i (by simp);have hiH:=hH.eH (i:=i) hi1;show Has ((jV (Go.Proofs.YtmaiggbnceejiaaGreatDoor.eH s i) ids).keys key) x;have hstep:Has ((Go.Proofs.YtmaiggbnceejiaaGreatDoor.eH s i).keys key) x/\(x∉ids\/((Go.Proofs.YtmaiggbnceejiaaGreatDoor.eH s i).tx x.toNat).state≠1):=by
   unfold Go.Proofs.YtmaiggbnceejiaaGreatDoor.eH;split
   ·rename_i e;have hne:x≠i:=fun q=>by
     rcases hn with hn | hn
     ·exact hn (by simp [q])
     ·rw [q] at hn;exact hn e
    refine ⟨?_,?_⟩
    ·rw [UH];exact Has.rel (hH.apart key).ok h (by omega)
    ·rw [GS s (by omega)];exact hn.imp (fun q=>fun q2=>q (by simp [q2])) id
   ·exact ⟨h,hn.imp (fun q=>fun q2=>q (by simp [q2])) id⟩
  exact Has.fc hx ids hiH (fun j hj=>hi j (by simp [hj])) hstep.1 hstep.2
theorem yVe{W:List Int}{k:ec}(h:qP W k){x id:Int}(hx:Has k x)(hne:x≠id):iw k.held id<2:=by
 apply aS;intro hn;have h0:iw k.held id≠0:=by omega
 have hz:=fun hall=>h0 ((GN h.ok.held h.ok.h0).2 hall);have:∃ c∈k.held,c.tx=id:=aS fun q=>hz fun c hc e=>q ⟨c,hc,e⟩;obtain ⟨c,hc,e⟩:=this;have hm:=Jn h.ok.held hc;rw [e] at hm;obtain ⟨d,hd,e2⟩:=hx;have:=h.alone c hc d hd;unfold kU at this;have h2:c.mode=2:=by rcases h.ok.hmode c hc with q | q <;> omega
 rw [h2] at this;have qp:c.tx≠d.tx:=by omega
 simp [qp] at this
theorem yKf{s:dX}(hS:Safe s)(hH:Held s){id:Nat}(h1:1<=id)(h2:id<=s.dW.length)(ho:(s.tx id).state=1)(key:ByteArray)(hks:key.size<=20)(hy:oo s id key=false):(gV s id key 2).2≠0:=by
 unfold oo at hy;simp only [Bool.not_eq_false',cU,br,bA] at hy;obtain ⟨o,IE,hoc⟩:=hy;have hin:=Rb IE;have hne:=yBs IE;have hhas:Has (s.keys key) o:=by
  unfold oO at IE;simp only [bE,bT,bA] at IE;have:=IE.2.2;have hz:=fun hall=>this ((GN (hH.apart key).ok.held (hH.apart key).ok.h0).2 hall);exact aS fun q=>hz fun c hc e=>q ⟨c,hc,e⟩
 have hy':oo (ix s id key 2).1 id key=false\/(ix s id key 2).2.2≠4:=by
  by_cases e:(ix s id key 2).2.2=4
  ·left;have hk:(iv (s.keys key) ⟨(id:Int),2⟩).1=s.keys key:=by
    have e':(iv (s.keys key) ⟨(id:Int),2⟩).2.2.2=4:=e;revert e';unfold iv;split
    ·simp
    split
    ·simp
    split
    ·simp
    split
    ·simp
    ·simp
   have hkk:(ix s id key 2).1.keys key=s.keys key:=by
    show jX s.keys key _ key=_;rw [wE,hk]
   unfold oo;simp only [Bool.not_eq_false',cU,br,bA];refine ⟨o,?_,hoc⟩;unfold oO at IE ⊢;rw [hkk];exact IE
  ·exact .inr e
 have hl2:jT s id key 2=ix s id key 2:=by
  unfold jT;simp only;rw [aK (fun q=>hy'.elim (fun e=>absurd q.2 (by rw [e];simp)) (fun e=>e q.1))]
 unfold gV;simp only;rw [hl2];split
 ·simp
 split
 ·simp
 have hL:=UQ hS hH h1 h2 ho key hks (mode:=2) (.inr rfl);rw [hl2] at hL;have hlt:iw ((jV (nC (ix s id key 2).1 (id:Int).toNat (ee (ix s id key 2).1 key)) (ix s id key 2).2.1).keys key).held id<2:=by
  have hC:=hL.held.came (k:=ee (ix s id key 2).1 key) h1 h2;have vK:∀ i∈(ix s id key 2).2.1,1<=i/\i<=((nC (ix s id key 2).1 id (ee (ix s id key 2).1 key)).dW.length:Int):=fun i hi=>by
   show 1<=i/\i<=((db (ix s id key 2).1 id _).dW.length:Int);rw [my];exact (hL.wd i hi).2
  have hh:Has ((nC (ix s id key 2).1 id (ee (ix s id key 2).1 key)).keys key) o:=by
   show Has (jX s.keys key (iv (s.keys key) ⟨(id:Int),2⟩).1 key) o;rw [wE];obtain ⟨c,hc,e⟩:=hhas;have hko:=(hH.apart key).ok;unfold iv;split
   ·exact ⟨c,hc,e⟩
   split
   ·exact ⟨c,hc,e⟩
   split
   ·exact ⟨c,(oC hko.held _ c).2 (.inr ⟨hc,by show c.tx≠(id:Int);omega⟩),e⟩
   split
   ·exact ⟨c,hc,e⟩
   ·exact ⟨c,hc,e⟩
  rw [aV];have hw:=Has.fc (key:=key) hin.1 (ix s id key 2).2.1 hC (fun i hi=>(vK i hi).1) hh (by
   rcases hoc with q | q
   ·exact .inl fun q2=>by have:=(hL.wd _ q2).1;omega
   ·right;show ((db (ix s id key 2).1 id _).tx o.toNat).state≠1;rw [xV _ _ (by omega)];exact q)
  have hA:=jI.pj (ids:=(ix s id key 2).2.1) (X:=[]) (by simpa using hC) vK;exact yVe (hA.apart key) hw hne
 rw [aP hlt];simp
theorem zWe{s:dX}(h:Safe s)(hH:Held s)(k:Int):fZ s (oA s k).1:=by
 unfold oA;split
 ·rename_i m _ hm;split
  ·exact ⟨h.way (net:=mR s.net m) fun m' hm'=>(yBe hm').elim id (fun e=>by rw [e];exact aC hm),hH.lines rfl rfl,mP.of rfl,rfl⟩
  ·exact fZ.refl h hH
 ·exact fZ.refl h hH
theorem yh(s:dX){j:Nat}(h1:1<=j)(hj:j<=s.dW.length):(nf s).tx j=s.tx j:=by
 unfold dX.tx nf;simp only [aI];rw [aE (by omega)]
theorem MB(s:dX):(nf s).tx (s.dW.length+1)=⟨1,List.replicate s.lines.length 0,[],0⟩:=by
 unfold dX.tx nf;simp [List.getD_eq_getElem?_getD]
theorem Cl(s:dX):(nf s).dW.length=s.dW.length+1:=by simp [nf]
theorem RI(n k:Nat):(List.replicate n (0:Int)).getD k 0=0:=by
 rw [aI,List.getElem?_replicate];split <;> rfl
theorem yLj{s:dX}(h:Safe s)(hH:Held s)(hl:s.dW.length<60):fZ s (nf s):=by
 have e1:=fun {j} (a:1<=j) (b:j<=s.dW.length)=>yh s a b;refine ⟨h.dW rfl rfl (by rw [Cl];omega) (fun k c hk hc q=>?_) (fun id i1 i2=>?_),?_,⟨by rw [Cl];omega,fun j j1 j2 _=>by rw [e1 j1 j2]⟩,rfl⟩
 ·have hlo:=q.lo;have hhi:=q.hi;have e:(nf s).tx c.tx.toNat=s.tx c.tx.toNat:=e1 (by omega) (by omega);exact ⟨q.lo,by rw [Cl];omega,by rw [e];exact q.dec,by rw [e];exact q.jZ⟩
 ·by_cases e:id=s.dW.length+1
  ·subst e;refine ⟨?_,?_,?_,?_,?_,?_,?_,?_,?_⟩
   all_goals rw [MB]
   ·show (List.replicate s.lines.length (0:Int)).length=s.lines.length;simp
   ·simp
   ·intro k;show 0<=(List.replicate _ (0:Int)).getD k 0/\_<=_;rw [RI];omega
   ·exact RI _ _
   ·intro _ k;show (List.replicate _ (0:Int)).getD k 0≠2;rw [RI];omega
   ·intro k _ hk;have hk':(List.replicate s.lines.length (0:Int)).getD k 0=2:=hk;rw [RI] at hk';omega
   ·intro hs;simp at hs
   ·simp
   ·simp
  ·have i3:id<=s.dW.length:=by rw [Cl] at i2;omega
   exact (h.tx id i1 i3).same (e1 i1 i3) rfl
 ·have e2:∀ x:Int,1<=x->x<=(s.dW.length:Int)->(nf s).tx x.toNat=s.tx x.toNat:=fun x a b=>e1 (by omega) (by omega);refine ⟨fun k=>(hH.apart k).more fun x hx=>?_,fun k c hc=>?_,fun k c hc=>?_,hH.small⟩
  ·simp only [aY] at hx ⊢;obtain ⟨q1,q2,q3⟩:=xU.1 hx;exact xU.2 ⟨q1,by rw [Cl];omega,by rw [e2 x q1 q2];exact q3⟩
  ·obtain ⟨q1,q2,q3⟩:=hH.hold k c hc;exact ⟨q1,by rw [Cl];omega,by rw [e2 _ q1 q2];exact q3⟩
  ·obtain ⟨q1,q2,q3⟩:=hH.wait k c hc;exact ⟨q1,by rw [Cl];omega,by rw [e2 _ q1 q2];exact q3⟩
theorem jI.ending{s:dX}(hH:Held s){id:Nat}(h1:1<=id)(h2:id<=s.dW.length){t:jR}(ht:t.state=2)(ho:(s.tx id).state=1)(hw:∀ k,∀ c∈(s.keys k).waits,c.tx≠(id:Int)):Held (db s id t):=by
 have es:∀ j:Nat,1<=j->((db s id t).tx j).state=if j=id then 2 else (s.tx j).state:=fun j hj=>by
  rw [wG s id t hj h1 h2];split
  ·exact ht
  ·rfl
 have el:=my s id t;refine ⟨fun key=>(hH.apart key).more fun x hx=>?_,fun key c hc=>?_,fun key c hc=>?_,hH.small⟩
 ·simp only [aY] at hx ⊢;obtain ⟨q1,q2,q3⟩:=xU.1 hx;refine xU.2 ⟨q1,by rw [el];exact q2,?_⟩;rw [es _ (by omega)];split
  ·rfl
  ·exact q3
 ·obtain ⟨q1,q2,q3⟩:=hH.hold key c hc;refine ⟨q1,by rw [el];exact q2,?_⟩;rw [es _ (by omega)];split
  ·exact .inr rfl
  ·exact q3
 ·obtain ⟨q1,q2,q3⟩:=hH.wait key c hc;refine ⟨q1,by rw [el];exact q2,?_⟩;rw [es _ (by omega),aK (fun e=>hw key c hc (by omega))];exact q3
theorem jI.states{X:List Int}{s:dX}(h:jI X s){id:Nat}(h1:1<=id)(h2:id<=s.dW.length){t:jR}(ht:t.state=(s.tx id).state):jI X (db s id t):=by
 have es:∀ j:Nat,1<=j->((db s id t).tx j).state=(s.tx j).state:=fun j hj=>by
  rw [wG s id t hj h1 h2];split
  ·rename_i e;rw [e];exact ht
  ·rfl
 have el:=my s id t;refine ⟨fun key=>(h.apart key).more fun x hx=>?_,fun key c hc=>?_,fun key c hc=>?_,h.small⟩
 ·rcases aN.1 hx with q | q
  ·exact aN.2 (.inl q)
  ·obtain ⟨q1,q2,q3⟩:=xU.1 q;exact aN.2 (.inr (xU.2 ⟨q1,by rw [el];exact q2,by rw [es _ (by omega)];exact q3⟩))
 ·obtain ⟨q1,q2,q3⟩:=h.hold key c hc;exact ⟨q1,by rw [el];exact q2,by rw [es _ (by omega)];exact q3⟩
 ·obtain ⟨q1,q2,q3⟩:=h.wait key c hc;exact ⟨q1,by rw [el];exact q2,by rw [es _ (by omega)];exact q3⟩
theorem KF{s:dX}{id:Int}(h:Cg s id=false):∀ k,∀ c∈(s.keys k).waits,c.tx≠id:=fun k c hc e=>by
 unfold Cg at h;simp only [bw] at h;exact h ⟨k,cU.2 ⟨c,hc,by simpa using e⟩⟩
theorem yTg{s:dX}(h:Safe s)(hH:Held s)(id:Int):fZ s (iT s id).1:=by
 unfold iT;split
 ·exact fZ.refl h hH
 ·rename_i e;split
  ·exact fZ.refl h hH
  ·rename_i e2;obtain ⟨i,rfl,h1,h2,ho⟩:=pO (by simpa using e);rw [aV];have hS:Safe (db s i { s.tx i with state:=2 }):=h.write (ws:=(s.tx i).writes) h1 h2 ho (h.tx i h1 h2).few (.inr rfl);have As:Held (db s i { s.tx i with state:=2 }):=hH.ending h1 h2 rfl ho (KF (by simpa using e2));have hA:fZ s (db s i { s.tx i with state:=2 }):=⟨hS,As,⟨by rw [my];exact aF _,fun j j1 j2 j3=>by
    rw [wG s i _ j1 h1 h2,aK (fun q=>by subst q;omega)]⟩,rfl⟩
   obtain ⟨b,c,_⟩:=xX hS;have q:=c.wI b As;exact (hA.trans q.En).trans (GX b q.held).1.En
theorem Ma.En{s r:dX}{id k:Nat}(h:Ma s id k r)(hs:Safe s)(ho:(s.tx id).state=1):fZ s r:=
 ⟨h.safe,h.held,⟨by rw [h.same.len];exact aF _,fun j j1 j2 j3=>by
  by_cases e:j=id
  ·subst e;omega
  ·rcases h.cut j j1 e with q | q
   ·rw [q]
   ·omega⟩,by rw [h.same.l]⟩
theorem yHl{s:dX}(h:Safe s)(hH:Held s)(id:Int)(p:fQ):fZ s (fG s id p).1:=by
 unfold fG;split
 ·exact fZ.refl h hH
 split
 ·exact fZ.refl h hH
 rename_i e1;obtain ⟨i,rfl,h1,h2,ho⟩:=pO (ph (by simpa using e1)).1;rw [aV];split
 ·exact fZ.refl h hH
 rename_i e2;have hks:=(ph (by simpa using e1)).2.1;have q:=zX h hH h1 h2 ho p.key hks (mode:=2) (.inr rfl);have qA:=q.En h ho;simp only;split
 ·exact qA
 ·rename_i e3;have XX:uC (s.tx i) p.key=false:=by
   cases hf:uC (s.tx i) p.key with
   | false=>rfl
   | true=>
    have hy:oo s i p.key=false:=by
     cases hy:oo s i p.key with
     | false=>rfl
     | true=>exact absurd (by rw [hf,hy];rfl) e2
    exact absurd (by simpa using e3) (yKf h hH h1 h2 ho p.key hks hy)
  refine qA.trans ?_;generalize (gV s i p.key 2).1=r at q qA ⊢;have hwr:=q.wr;have hl:i<=r.dW.length:=by rw [q.same.len];exact h2
  have hx:=q.safe.tx i h1 hl;have hw:ni (r.tx i) p={ r.tx i with state:=1,writes:=(ni (r.tx i) p).writes }:=by
   unfold ni;split
   ·simp [q.st]
   ·simp [q.st]
  have hwk:∀ q∈(ni (r.tx i) p).writes,q.key.size<=20:=fun q hq=>by
   have hp:=(ph (by simpa using e1)).2.1;unfold ni at hq;split at hq
   ·rcases bQ hq with e | e
    ·exact hx.few.2 q e
    ·rw [e];exact hp
   ·rcases aN.1 hq with e | e
    ·exact hx.few.2 q e
    ·simp at e;rw [e];exact hp
  have px:(ni (r.tx i) p).writes.length<=20:=by
   unfold ni;split
   ·simpa using hx.few.1
   ·rename_i hn;simp only [aD,aW,az];have DP:uI (s.tx i) p.key=none:=by unfold uI at hn ⊢;rw [hwr] at hn;exact hn
    unfold uC at XX;rw [DP] at XX;rw [hwr];simp at XX;omega
  rw [hw];refine ⟨q.safe.write h1 hl q.st ⟨px,hwk⟩ (.inl rfl),q.held.states h1 hl (by simp [q.st]),⟨by rw [my];exact aF _,fun j j1 j2 j3=>?_⟩,rfl⟩;rw [wG r i _ j1 h1 hl];split
  ·rename_i e;subst e;have:=q.st;omega
  ·rfl
theorem ySy{s:dX}(h:Safe s)(hH:Held s)(id:Int)(key:ByteArray):fZ s (fH s id key).1:=by
 unfold fH;split
 ·exact fZ.refl h hH
 rename_i e1;obtain ⟨i,rfl,h1,h2,ho⟩:=pO (ph (by simpa using e1)).1;have q:=(zX h hH h1 h2 ho key (ph (by simpa using e1)).2.1 (mode:=1) (.inl rfl)).En h ho;simp only;split
 ·exact q
 ·exact q
theorem RS(nodes:Nat):∀ m,(gY nodes m).lines=(List.range m).map fun k=>(oD k nodes).1
 | 0=>rfl
 | m+1=>by
  show (gY nodes m).lines++[(oD m nodes).1]=_;rw [RS nodes m,aj,ay];rfl
theorem Tv(nodes:Nat):∀ m,(gY nodes m).dead=[]/\(gY nodes m).dW=[]/\(gY nodes m).keys=(fun _=>⟨[],[]⟩)/\(gY nodes m).net.down=[]/\∀ x∈(gY nodes m).net.way,x.kind=1\/x.kind=4
 | 0=>⟨rfl,rfl,rfl,rfl,fun x hx=>by simp [gY] at hx⟩
 | m+1=>by
  obtain ⟨a,b,c,d,e⟩:=Tv nodes m;refine ⟨a,b,c,by show (ly _ _).down=_;rw [RV];exact d,fun x hx=>?_⟩;rcases RL hx with q | q
  ·exact e x q
  ·exact zSf q
def iu(k nodes:Nat):List eK:=(List.range nodes).map fun (i:Nat)=>Lj (10*(k:Int)+(i:Int))
theorem yBv(k nodes:Nat){i:Nat}(hi:i<nodes):(iu k nodes)[i]?=some (Lj (10*(k:Int)+(i:Int))):=by
 unfold iu;simp [hi]
theorem yHq(k nodes:Nat):(iu k nodes).Pairwise fun a b=>a.id<b.id:=by
 unfold iu;rw [cB];refine List.Pairwise.imp ?_ List.pairwise_lt_range;intro a b hab;show 10*(k:Int)+(a:Int)<10*(k:Int)+(b:Int);omega
theorem yNv(k nodes:Nat)(h1:1<=nodes){n:eK}(hn:n∈iu k nodes):(kG ⟨iu k nodes,0⟩ n).id=n.id/\(kG ⟨iu k nodes,0⟩ n).dk=1/\(kG ⟨iu k nodes,0⟩ n).nodes=(iu k nodes).map (·.id)/\(kG ⟨iu k nodes,0⟩ n).log=[]:=by
 obtain ⟨i,hi⟩:=aO hn;have jE:n.log=[]/\n.nodes=[]:=by
  unfold iu at hn;obtain ⟨j,_,rfl⟩:=af.1 hn;exact ⟨rfl,rfl⟩
 have iS:nz ⟨iu k nodes,0⟩=1:=by
  unfold nz;rw [aI,yBv k nodes (by omega)];rfl
 have hbl:(jL n 1 ((iu k nodes).map (·.id))).log=[]/\(jL n 1 ((iu k nodes).map (·.id))).id=n.id/\(jL n 1 ((iu k nodes).map (·.id))).dk=1/\(jL n 1 ((iu k nodes).map (·.id))).nodes=(iu k nodes).map (·.id):=by
  unfold jL;split
  ·exact ⟨rfl,rfl,rfl,rfl⟩
  ·exact ⟨jE.1,rfl,rfl,rfl⟩
 unfold kG;rw [iS];obtain ⟨g1,g2,_⟩:=GP (jL n 1 ((iu k nodes).map (·.id)));exact ⟨g1.id.trans hbl.2.1,g1.ep.trans hbl.2.2.1,g1.cf.trans hbl.2.2.2,g2.trans hbl.1⟩
theorem US(k nodes:Nat)(h1:1<=nodes)(h4:nodes<=4):ri k (oD k nodes).1/\∀ n∈(oD k nodes).1.nodes,n.log=[]:=by
 have hb:=fun n hn=>yNv k nodes h1 (n:=n) hn;have hN:(oD k nodes).1=⟨(iu k nodes).map (kG ⟨iu k nodes,0⟩),0⟩:=rfl;have hlen:(iu k nodes).length=nodes:=by simp [iu]
 rw [hN];refine ⟨⟨fun e=>?_,?_,fun x hx=>?_,fun x hx=>?_,⟨1,by omega,?_,fun x hx=>?_⟩,fun x hx=>aT _,fun x hx=>?_⟩,fun x hx=>?_⟩
 ·have:=ai List.length e;simp [hlen] at this;omega
 ·rw [cB];refine cr ?_ (yHq k nodes);intro a b ha hb' hab;rw [(hb a ha).1,(hb b hb').1,(hb a ha).2.2.2,(hb b hb').2.2.2];exact ⟨hab,bx _⟩
 ·obtain ⟨n,hn,rfl⟩:=af.1 hx;rw [(hb n hn).1];unfold iu at hn;obtain ⟨j,hj,rfl⟩:=af.1 hn;have:=bZ.1 hj;show 10*(k:Int)<=10*(k:Int)+(j:Int)/\_<_;refine ⟨by omega,?_⟩;show 10*(k:Int)+(j:Int)<_;omega
 ·obtain ⟨n,hn,rfl⟩:=af.1 hx;rw [(hb n hn).2.2.1];show (iu k nodes).map (·.id)=((iu k nodes).map (kG ⟨iu k nodes,0⟩)).map (·.id);rw [dO];exact List.map_congr_left fun a ha=>((hb a ha).1).symm
 ·show 1+(((iu k nodes).map _).length:Int)<=6;rw [ar,hlen];omega
 ·obtain ⟨n,hn,rfl⟩:=af.1 hx;exact (hb n hn).2.1
 ·obtain ⟨n,hn,rfl⟩:=af.1 hx;rw [(hb n hn).2.2.2];simp
 ·obtain ⟨n,hn,rfl⟩:=af.1 hx;exact (hb n hn).2.2.2
theorem yRz{shards nodes:Nat}(h1:1<=shards/\shards<=4)(h2:1<=nodes/\nodes<=4):Safe (fq shards nodes)/\Held (fq shards nodes)/\(fq shards nodes).lines.length=shards+1:=by
 obtain ⟨a,b,c,d,e⟩:=Tv nodes (shards+1);have hl:=RS nodes (shards+1);have hlen:(fq shards nodes).lines.length=shards+1:=by show (gY nodes (shards+1)).lines.length=_;rw [hl];simp
 have ht:(fq shards nodes).dW=[]:=b;have nN:∀ k,k<shards+1->(fq shards nodes).line k=(oD k nodes).1:=fun k hk=>by
  show (gY nodes (shards+1)).lines.getD k _=_;rw [hl,aI];simp [hk]
 refine ⟨⟨by rw [hlen];omega,by rw [ht];simp,fun k hk=>?_,fun k hk=>?_,fun m hm h3=>?_,fun id i1 i2=>by rw [ht] at i2;simp at i2;omega⟩,?_,hlen⟩
 ·rw [hlen] at hk;rw [nN k hk];exact (US k nodes h2.1 h2.2).1
 ·rw [hlen] at hk;have q:=US k nodes h2.1 h2.2;have hn:(eE (fq shards nodes) k).log=[]:=by
   have:=Tw (s:=fq shards nodes) (k:=k) (by rw [nN k hk];exact q.1.ne);rw [nN k hk] at this;exact q.2 _ (aC this)
  rw [hn];exact ⟨by simp,List.Pairwise.nil,fun _ i c hi=>by simp at hi⟩
 ·have:=e m hm;omega
 ·have hk:∀ k,(fq shards nodes).keys k=⟨[],[]⟩:=fun k=>by show (gY nodes (shards+1)).keys k=_;rw [c]
  exact ⟨fun k=>by rw [hk];exact qP.nil _,fun k c hc=>by rw [hk] at hc;simp at hc,fun k c hc=>by rw [hk] at hc;simp at hc,fun k _=>by rw [hk];exact ⟨rfl,rfl⟩⟩
end Go.Proofs.YtmaiggbnceejiaaGreatDoor
