import Derived.Test.YtmaiggbnceejiaaGreatDoorP21
set_option linter.unusedVariables false
set_option maxRecDepth 100000
set_option maxHeartbeats 16000000
namespace Go.Proofs.YtmaiggbnceejiaaGreatDoor
def bump(s:dW)(k:Nat):dW:=rS s k ⟨(s.line k).nodes,(s.line k).heard+1⟩
theorem FJ(s:dW){k:Nat}(hk:k<s.lines.length)(i:Nat):(bump s k).line i=if i=k then ⟨(s.line k).nodes,(s.line k).heard+1⟩ else s.line i:=LY s k _ i hk
theorem xx(s:dW)(k:Nat):(bump s k).lines.length=s.lines.length:=by simp [bump,rS]
theorem JA(s:dW){k:Nat}(hk:k<s.lines.length)(i:Nat):dy (bump s k) i=dy s i:=by
 unfold dy;rw [FJ s hk];split
 ·rename_i e;rw [e]
 ·rfl
theorem Safe.bump{s:dW}(h:Safe s){k:Nat}(hk:k<s.lines.length)(hl:∀ n∈(s.line k).nodes,(s.line k).heard<n.log.length):Safe (bump s k):=by
 have hd:dk (Go.Proofs.YtmaiggbnceejiaaGreatDoor.bump s k)=dk s:=by unfold dk;rw [xx]
 have mQ:=fun i=>FJ s hk i;have hn:∀ i,((Go.Proofs.YtmaiggbnceejiaaGreatDoor.bump s k).line i).nodes=(s.line i).nodes:=fun i=>by
  rw [mQ];split
  ·rename_i e;rw [e]
  ·rfl
 have hh:∀ i,∀ c∈jY s i,c∈jY (Go.Proofs.YtmaiggbnceejiaaGreatDoor.bump s k) i:=fun i c hc=>by
  unfold jY at hc ⊢;rw [JA s hk,mQ];split
  ·rename_i e;rw [e] at hc ⊢;exact cU (i:=(s.line k).heard) (by rw [List.take_take,Nat.min_eq_left (by simp)];exact hc)
  ·exact hc
 refine ⟨by rw [xx];exact h.ll,h.tl,fun i hi=>?_,fun i hi=>?_,fun m hm h3 i hi x hx e=>?_,fun id i1 i2=>?_⟩
 ·rw [xx] at hi;rw [mQ];split
  ·rename_i e;subst e;have q:=h.line i hi;exact ⟨q.ne,q.ord,q.nf,q.cfg,q.ep,fun n hn=>hl n hn,q.few⟩
  ·exact h.line i hi
 ·rw [xx] at hi;rw [JA s hk];exact (h.log i hi).of rfl hd
 ·rw [xx] at hi;rw [hn] at hx;exact h.msg m hm h3 i hi x hx e
 ·have q:=h.tx id i1 i2;exact ⟨by rw [xx];exact q.len,q.st,q.nf,by rw [hd];exact q.dec,q.op,fun j hj ha=>LU (q.sure j (by rw [hd] at hj;exact hj) ha) (hh j),fun hs=>by
   rw [hd];obtain ⟨a,b,c⟩:=q.Ht hs;exact ⟨a,b,LU c (hh _)⟩,q.tm,q.few⟩
theorem jD.lines{X:List Int}{s s':dW}(h:jD X s)(hk:s'.keys=s.keys)(ht:s'.dV=s.dV):jD X s':=by
 have e:∀ j,s'.tx j=s.tx j:=fun j=>by unfold dW.tx;rw [ht]
 have e2:Dn s'=Dn s:=by unfold Dn;rw [ht];simp only [e]
 exact ⟨fun k=>by rw [e2,hk];exact h.apart k,fun k c hc=>by rw [hk] at hc;rw [ht,e];exact h.hold k c hc,fun k c hc=>by rw [hk] at hc;rw [ht,e];exact h.wait k c hc,by rw [hk];exact h.small⟩
theorem Iw(s:dW){k:Nat}(hk:k<s.lines.length)(c:dt):lk k s c=lW (bump s k) k c:=by
 have hd:dk (bump s k)=dk s:=by unfold dk;rw [xx]
 have hf:(lW s k c).line k=s.line k:=by unfold dW.line;rw [(gB.follow s k c).l]
 unfold lk;rw [hf];unfold lW;rw [hd];split
 ·rfl
 ·split
  ·rfl
  ·rfl
structure km(s s':dW):Prop where
 len:s.dV.length<=s'.dV.length
 fin:∀ j,1<=j->j<=s.dV.length->3<=(s.tx j).state->(s'.tx j).state=(s.tx j).state
theorem km.refl(s:dW):km s s:=⟨aF _,fun _ _ _ _=>rfl⟩
theorem km.trans{a b c:dW}(h:km a b)(k:km b c):km a c:=⟨aM h.len k.len,fun j h1 h2 h3=>by
 have e:=h.fin j h1 h2 h3;rw [k.fin j h1 (aM h2 h.len) (by rw [e];exact h3),e]⟩
theorem km.of{s s':dW}(h:s'.dV=s.dV):km s s':=⟨by rw [h];exact aF _,fun j _ _ _=>by unfold dW.tx;rw [h]⟩
structure yUg(s s':dW):Prop where
 safe:Safe s'
 held:Held s'
 same:gB s s'
 fin:km s s'
theorem yFg{s:dW}(h:Safe s)(hH:Held s){k:Nat}(hk:k<s.lines.length){c:dt}(hc:c∈jY s k):yUg s (lW s k c):=by
 have hcm:=As k c hc;have q:=(h.log k hk).all c hcm;have hlo:=q.lo;have hhi:=q.hi;obtain ⟨id,hid⟩:∃ id:Nat,c.tx=id:=⟨c.tx.toNat,by omega⟩;have h1:1<=id:=by omega
 have h2:id<=s.dV.length:=by omega
 have hx:=h.tx id h1 h2;have hsame:=gB.follow s k c;unfold lW at hsame ⊢;rw [hid,aS] at hsame ⊢;split
 ·rename_i e;rw [aJ e] at hsame;obtain ⟨d1,d2,d3,d4⟩:=q.dec e;rw [hid,aS] at d3 d4;have e1:nr (dY s id { s.tx id with time:=c.time }) id 3={ dY s id { s.tx id with state:=3,writes:=[],time:=c.time } with keys:=gI s.keys id }:=by
   unfold nr;rw [xy s _ h1 h2];simp only [dY,List.set_set]
  have et:(nr (dY s id { s.tx id with time:=c.time }) id 3).tx id={ s.tx id with state:=3,writes:=[],time:=c.time }:=by
   rw [e1];exact xy s _ h1 h2
  have eo:∀ j,j - 1≠id - 1->(nr (dY s id { s.tx id with time:=c.time }) id 3).tx j=s.tx j:=fun j hj=>by
   rw [e1];exact wg s _ hj
  have el:(nr (dY s id { s.tx id with time:=c.time }) id 3).dV.length=s.dV.length:=hsame.len;refine ⟨?_,?_,hsame,⟨by rw [el];exact aF _,fun j j1 j2 j3=>?_⟩⟩
  ·refine h.dV rfl rfl (by rw [el];exact h.tl) (fun k' c' hk' hc' q'=>?_) (fun j j1 j2=>?_)
   ·by_cases e2:c'.tx.toNat=id
    ·refine ⟨q'.lo,by rw [el];exact q'.hi,fun hd=>?_,fun hd=>?_⟩
     ·obtain ⟨p1,p2,p3,p4⟩:=q'.dec hd;rw [e2,et];rw [e2] at p4;exact ⟨p1,p2,.inr rfl,p4⟩
     ·rw [e2,et];have p:=q'.jE hd;rw [e2] at p;rcases p with ⟨p1,p2,p3⟩ | ⟨p1,p2,p3⟩ | ⟨p1,p2⟩
      ·exact .inl ⟨p1,by simp,p3⟩
      ·exact .inr (.inl ⟨p1,rfl,p3⟩)
      ·omega
    ·have:=q'.lo;exact q'.same el rfl (eo _ (by omega))
   ·by_cases e2:j=id
    ·subst e2;refine ⟨?_,?_,?_,?_,?_,?_,?_,?_,?_⟩
     all_goals rw [et]
     ·exact hx.len
     ·simp
     ·exact hx.nf
     ·exact hx.dec
     ·intro hs;simp at hs
     ·exact hx.sure
     ·intro _;refine ⟨d4,d2.1,c,?_,d1,hid⟩;rw [e] at hc;exact hc
     ·exact ⟨by have:=d2.1;show 0<=c.time;omega,d2.2⟩
     ·simp
    ·exact (h.tx j j1 (by rw [el] at j2;exact j2)).same (eo j (by omega)) rfl
  ·refine hH.leave (i:=(id:Int)) rfl el (fun j hj hne=>?_) (fun x hx=>by simp at hx);rw [eo j (by omega)]
  ·by_cases e2:j=id
   ·subst e2;rw [et];rcases d3 with d3 | d3
    ·omega
    ·rw [d3]
   ·rw [eo j (by omega)]
 ·rename_i e;rw [aE e] at hsame;split
  ·rename_i e3;rw [aJ e3] at hsame;have zR:(s.tx id).state≠1:=by
    rcases q.jE e with p | p | p
    ·rw [hid,aS] at p;exact p.2.1
    ·omega
    ·omega
   have lK:k<dk s:=by unfold dk at e ⊢;omega
   have et:(dY s id { s.tx id with ats:=(s.tx id).ats.set k 2 }).tx id={ s.tx id with ats:=(s.tx id).ats.set k 2 }:=xy s _ h1 h2;have eo:∀ j,j - 1≠id - 1->(dY s id { s.tx id with ats:=(s.tx id).ats.set k 2 }).tx j=s.tx j:=fun j hj=>wg s _ hj;have Je:tj (s.tx id)=true->tj { s.tx id with ats:=(s.tx id).ats.set k 2 }=true:=fun hr=>by
    refine FK.2 fun j=>?_;show ((s.tx id).ats.set k 2).getD j 0≠1;rw [ny];split
    ·omega
    ·exact FK.1 hr j
   refine ⟨?_,?_,hsame,⟨by rw [hsame.len];exact aF _,fun j j1 j2 j3=>?_⟩⟩
   ·refine h.dV rfl rfl (by rw [hsame.len];exact h.tl) (fun k' c' hk' hc' q'=>?_) (fun j j1 j2=>?_)
    ·by_cases e2:c'.tx.toNat=id
     ·refine ⟨q'.lo,by rw [hsame.len];exact q'.hi,fun hd=>?_,fun hd=>?_⟩
      ·obtain ⟨p1,p2,p3,p4⟩:=q'.dec hd;rw [e2,et];rw [e2] at p3 p4;exact ⟨p1,p2,p3,Je p4⟩
      ·rw [e2,et];have p:=q'.jE hd;rw [e2] at p;rcases p with ⟨p1,p2,p3⟩ | ⟨p1,p2,p3⟩ | ⟨p1,p2⟩
       ·refine .inl ⟨p1,p2,?_⟩;show ((s.tx id).ats.set k 2).getD k' 0≠0;rw [ny];split
        ·omega
        ·exact p3
       ·exact .inr (.inl ⟨p1,p2,p3⟩)
       ·exact .inr (.inr ⟨p1,p2⟩)
     ·have:=q'.lo;exact q'.same hsame.len rfl (eo _ (by omega))
    ·by_cases e2:j=id
     ·subst e2;refine ⟨?_,?_,?_,?_,?_,?_,?_,?_,?_⟩
      all_goals rw [et]
      ·show ((s.tx j).ats.set k 2).length=s.lines.length;rw [aa];exact hx.len
      ·exact hx.st
      ·intro i;show 0<=((s.tx j).ats.set k 2).getD i 0/\_<=_;rw [ny];split
       ·omega
       ·exact hx.nf i
      ·show ((s.tx j).ats.set k 2).getD (dk s) 0=0;rw [ny,aE (by omega)];exact hx.dec
      ·intro hs;exact absurd hs zR
      ·intro i hi hi2;have Gr:((s.tx j).ats.set k 2).getD i 0=2:=hi2;rw [ny] at Gr;split at Gr
       ·rename_i e4;rw [e4.1];exact ⟨c,hc,e3,hid⟩
       ·exact hx.sure i hi Gr
      ·intro hs;obtain ⟨a,b,d⟩:=hx.Ht hs;exact ⟨Je a,b,d⟩
      ·exact hx.tm
      ·exact hx.few
     ·exact (h.tx j j1 (by rw [hsame.len] at j2;exact j2)).same (eo j (by omega)) rfl
   ·have es:∀ j:Nat,1<=j->((dY s id { s.tx id with ats:=(s.tx id).ats.set k 2 }).tx j).state=(s.tx j).state:=fun j hj=>by
     by_cases e2:j=id
     ·rw [e2,et]
     ·rw [eo j (by omega)]
    have el:=hsame.len;refine ⟨fun key=>(hH.apart key).more fun x hx=>?_,fun key c hc=>?_,fun key c hc=>?_,hH.small⟩
    ·simp only [ak] at hx ⊢;obtain ⟨q1,q2,q3⟩:=vi.1 hx;exact vi.2 ⟨q1,by rw [el];exact q2,by rw [es _ (by omega)];exact q3⟩
    ·obtain ⟨q1,q2,q3⟩:=hH.hold key c hc;exact ⟨q1,by rw [el];exact q2,by rw [es _ (by omega)];exact q3⟩
    ·obtain ⟨q1,q2,q3⟩:=hH.wait key c hc;exact ⟨q1,by rw [el];exact q2,by rw [es _ (by omega)];exact q3⟩
   ·by_cases e2:j=id
    ·rw [e2,et]
    ·rw [eo j (by omega)]
  ·exact ⟨h,hH,gB.refl s,km.refl s⟩
structure qM(s s':dW):Prop where
 safe:Safe s'
 held:Held s'
 same:sO s s'
 fin:km s s'
 heard:∀ k,(s.line k).heard<=(s'.line k).heard
theorem qM.refl{s:dW}(h:Safe s)(hH:Held s):qM s s:=⟨h,hH,sO.refl s,km.refl s,fun _=>aF _⟩
theorem qM.trans{a b c:dW}(h:qM a b)(k:qM b c):qM a c:=⟨k.safe,k.held,h.same.trans k.same,h.fin.trans k.fin,fun i=>aM (h.heard i) (k.heard i)⟩
theorem qM.mv{s s':dW}(h:qM s s'):kp s s':=
 ⟨h.same.ll,h.same.d,h.same.len,fun k=>by rw [h.same.nodes],fun k j n hn=>⟨n,by rw [h.same.nodes];exact hn,rK.refl n,br _,fun _=>rfl⟩,h.heard⟩
theorem UB{s:dW}(h:Safe s)(hH:Held s){k:Nat}(hk:k<s.lines.length){c:dt}(hc:∀ n∈(s.line k).nodes,n.log[(s.line k).heard]?=some c):qM s (lk k s c)/\((lk k s c).line k).heard=(s.line k).heard+1:=by
 have hb:=h.bump hk (fun n hn=>(aB.1 (hc n hn)).1);have YD:Held (bump s k):=hH.lines rfl rfl;have hkb:k<(bump s k).lines.length:=by rw [xx];exact hk
 have hcm:c∈jY (bump s k) k:=by
  unfold jY;rw [JA s hk,FJ s hk,aJ rfl];have:=hc _ (h.head_mem hk);show c∈(dy s k).log.take ((s.line k).heard+1);rw [qP this];simp
 have q:=yFg hb YD hkb hcm;rw [<-Iw s hk] at q;have hl:(lk k s c).line k=(bump s k).line k:=by unfold dW.line;rw [q.same.l]
 refine ⟨⟨q.safe,q.held,Qr s k c hk,(km.of (s:=s) (s':=bump s k) rfl).trans q.fin,fun i=>?_⟩,?_⟩
 ·have hl':(lk k s c).line i=(bump s k).line i:=by unfold dW.line;rw [q.same.l]
  rw [hl',FJ s hk];split
  ·rename_i e;rw [e];simp
  ·exact aF _
 ·rw [hl,FJ s hk,aJ rfl]
theorem zXf{k:Nat}:∀ (cs:List dt) {s:dW},Safe s->Held s->k<s.lines.length->(∀ n∈(s.line k).nodes,∃ r,n.log.drop (s.line k).heard=cs++r)->qM s (cs.foldl (lk k) s)
 | [],s,h,hH,_,_=>qM.refl h hH
 | c :: cs,s,h,hH,hk,hd=>by
  obtain ⟨q,hq⟩:=UB h hH hk (c:=c) (fun n hn=>by
   obtain ⟨r,hr⟩:=hd n hn;have:=ae (fun l=>l[0]?) hr;simpa using this)
  refine q.trans (zXf cs q.safe q.held (by rw [q.same.ll];exact hk) fun n hn=>?_);rw [q.same.nodes] at hn;obtain ⟨r,hr⟩:=hd n hn;refine ⟨r,?_⟩;rw [hq,<-List.drop_drop,hr];rfl
theorem UX{s:dW}(h:Safe s)(hH:Held s){k:Nat}(hk:k<s.lines.length):qM s (gX s k)/\kX (gX s k) k=[]:=by
 have hL:=h.line k hk;have q:qM s (gX s k):=zXf (kX s k) h hH hk fun n hn=>by
  obtain ⟨r,hr⟩:=hL.last ⟨0,0,[],[],0⟩ hn;refine ⟨r,?_⟩;rw [<-hr];unfold kX pE;rw [dB];exact hL.heard _ (LW hL.ne _)
 refine ⟨q,?_⟩;have hh:((gX s k).line k).heard=_:=Qp k (kX s k) s hk k;rw [aJ rfl] at hh;unfold kX pE;rw [q.same.nodes,hh];apply cq;have:(kX s k).length=(pE s k).log.length - (s.line k).heard:=by unfold kX;rw [bJ]
 unfold pE at this;omega
theorem JB{s:dW}(h:Safe s)(hH:Held s):qM s (oI s)/\∀ k,k<s.lines.length->kX (oI s) k=[]:=by
 have key:∀ m,m<=s.lines.length->qM s (nn s m)/\∀ k,k<m->kX (nn s m) k=[]:=by
  intro m
  induction m with
  | zero=>exact fun _=>⟨qM.refl h hH,fun k hk=>by omega⟩
  | succ m ih=>
   intro hm;rw [Lm];obtain ⟨a,b⟩:=ih (by omega);have jq:m<(nn s m).lines.length:=by rw [a.same.ll];omega
   obtain ⟨c,d⟩:=UX a.safe a.held jq;refine ⟨a.trans c,fun k hk=>?_⟩;by_cases e:k=m
   ·rw [e];exact d
   ·have e1:=b k (by omega);unfold kX pE at e1 ⊢;rw [c.same.nodes];have:=c.heard k;rw [dS] at e1 ⊢;omega
 exact key s.lines.length (aF _)
theorem Safe.news{s:dW}(h:Safe s):ySq s:=fun k hk=>by
 have hL:=h.line k hk;have hm:=LW hL.ne (⟨0,0,[],[],0⟩:eH);refine ⟨hL.heard _ hm,fun c hc=>?_⟩;have:=(h.logs hk hm).all c (cO hc);exact ⟨this.lo,this.hi⟩
theorem Ak{s:dW}:qO s=false↔∀ k,k<s.lines.length->kX s k=[]:=by
 unfold qO;rw [List.any_eq_false];simp
def gi(f:Nat->Nat):Nat->Nat
 | 0=>0
 | n+1=>gi f n+f n
theorem Bn{f g:Nat->Nat}:∀ {n:Nat},(∀ k,k<n->f k<=g k)->gi f n<=gi g n
 | 0,_=>aF _
 | n+1,h=>Nat.add_le_add (Bn fun k hk=>h k (by omega)) (h n (by omega))
theorem Il{f g:Nat->Nat}:∀ {n:Nat},(∀ k,k<n->f k<=g k)->∀ k,k<n->f k<g k->gi f n<gi g n
 | 0,_,k,hk,_=>by omega
 | n+1,h,k,hk,hlt=>by
  by_cases e:k=n
  ·subst e;exact Nat.add_lt_add_of_le_of_lt (Bn fun j hj=>h j (by omega)) hlt
  ·exact Nat.add_lt_add_of_lt_of_le (Il (fun j hj=>h j (by omega)) k (by omega) hlt) (h n (by omega))
theorem Qk{f:Nat->Nat}{B:Nat}:∀ {n:Nat},(∀ k,k<n->f k<=B)->gi f n<=B*n
 | 0,_=>aV _
 | n+1,h=>by
  have:=Qk (n:=n) fun k hk=>h k (by omega);have:=h n (by omega);show gi f n+f n<=B*(n+1);rw [Nat.mul_succ];omega
def FE(s:dW):Nat:=gi (fun k=>(s.line k).heard) s.lines.length
theorem yCe{s:dW}(h:Safe s):FE s<=500*s.lines.length:=Qk fun k hk=>by
 have hL:=h.line k hk;have hm:=h.head_mem hk;exact aM (hL.heard _ hm) (hL.few _ hm)
structure kS(s s':dW):Prop where
 safe:Safe s'
 held:Held s'
 mv:kp s s'
 fin:km s s'
 down:s'.net.down=s.net.down
 few:s.net.way.length<=200->s'.net.way.length<=200
theorem kS.refl{s:dW}(h:Safe s)(hH:Held s):kS s s:=⟨h,hH,kp.refl s,km.refl s,rfl,id⟩
theorem kS.trans{a b c:dW}(h:kS a b)(k:kS b c):kS a c:=⟨k.safe,k.held,h.mv.trans k.mv,h.fin.trans k.fin,k.down.trans h.down,fun e=>k.few (h.few e)⟩
theorem qM.rV{s s':dW}(h:qM s s'):kS s s':=⟨h.safe,h.held,h.mv,h.fin,by rw [h.same.net],fun e=>by rw [h.same.net];exact e⟩
theorem gb.rV{s s':dW}(h:gb s s')(hS:Safe s')(hH:Held s):kS s s':=⟨hS,hH.lines h.keys h.dV,h.mv,km.of h.dV,h.down,h.few⟩
theorem FO{s:dW}(h:Safe s)(hH:Held s):kS s (jd (oI s))/\FE s+(if qO s then 1 else 0)<=FE (jd (oI s)):=by
 obtain ⟨a,b⟩:=JB h hH;obtain ⟨c,d,_⟩:=sV a.safe;refine ⟨a.rV.trans (d.rV c a.held),?_⟩;have e:FE (jd (oI s))=gi (fun k=>((oI s).line k).heard) s.lines.length:=by
  unfold FE;rw [d.mv.ll,a.same.ll];simp only [d.heard]
 rw [e];split
 ·rename_i hn;have:∃ k,k<s.lines.length/\kX s k≠[]:=by
   apply aR;intro hx;have:qO s=false:=Ak.2 fun k hk=>aR fun q=>hx ⟨k,hk,q⟩;rw [this] at hn;cases hn
  obtain ⟨k,hk,hne⟩:=this;refine Il (fun j hj=>a.heard j) k hk ?_;have e1:=b k hk;unfold kX pE at e1 hne;rw [a.same.nodes,dS] at e1;rw [Ne,dS] at hne;omega
 ·exact Bn (fun j hj=>a.heard j)
theorem zRv:∀ (n:Nat) {s:dW},Safe s->Held s->kS s (ez n s)
 | 0,s,h,hH=>kS.refl h hH
 | n+1,s,h,hH=>by
  unfold ez;split
  ·have q:=(FO h hH).1;exact q.trans (zRv n q.safe q.held)
  ·exact kS.refl h hH
theorem zTf:∀ (n:Nat) {s:dW},Safe s->Held s->500*s.lines.length - FE s<n->qO (ez n s)=false
 | 0,s,h,hH,hn=>by omega
 | n+1,s,h,hH,hn=>by
  unfold ez;by_cases e:qO s=true
  ·rw [aJ e];obtain ⟨q,hq⟩:=FO h hH;rw [aJ e] at hq;have:=yCe q.safe;rw [q.mv.ll] at this;exact zTf n q.safe q.held (by rw [q.mv.ll];omega)
  ·rw [aE e];simpa using e
theorem wm{s:dW}(h:Safe s)(hH:Held s):kS s (mH s)/\qO (mH s)=false:=by
 unfold mH;exact ⟨zRv _ h hH,zTf _ h hH (by omega)⟩
theorem yJq{h:dW}{ns:List eH}{id:Int}{j:Nat}(e:xo h ns id=some j):∃ n,ns[j]?=some n/\fs h n=true/\n.id=id:=by
 unfold xo at e;rw [bu] at e;obtain ⟨hj,h1,_⟩:=e;simp only [bN,ar] at h1;exact ⟨ns[j],aA hj,h1.1,h1.2⟩
theorem zWx{h:dW}{id:Int}:∀ {k0:Nat} {ls:List ik} {k j:Nat},vd h id k0 ls=some (k,j)->∃ l n,k0<=k/\ls[k - k0]?=some l/\l.nodes[j]?=some n/\fs h n=true/\n.id=id
 | k0,[],k,j,e=>by simp [vd] at e
 | k0,l :: ls,k,j,e=>by
  unfold vd at e
  cases hf:xo h l.nodes id with
  | some i=>
   rw [hf] at e;simp only [bB,Prod.mk.injEq] at e;obtain ⟨rfl,rfl⟩:=e;obtain ⟨n,q⟩:=yJq hf;exact ⟨l,n,aF _,by simp,q⟩
  | none=>
   rw [hf] at e;obtain ⟨l',n,q1,q2,q3⟩:=zWx e;exact ⟨l',n,by omega,by rw [show k - k0=(k - (k0+1))+1 by omega];simpa using q2,q3⟩
theorem Av{s:dW}{id:Int}{k j:Nat}(e:mY s id=some (k,j)):k<s.lines.length/\∃ n,(s.line k).nodes[j]?=some n/\fs s n=true/\n.id=id:=by
 obtain ⟨l,n,_,q2,q3⟩:=zWx e;rw [Nat.sub_zero] at q2;have hk:=(aB.1 q2).1;have e1:=mL hk;rw [q2] at e1
 cases e1
 exact ⟨hk,n,q3⟩
theorem pH{s:dW}{k j:Nat}{n:eH}(h:(s.line k).nodes[j]?=some n):eG s k j=n:=by
 unfold eG;rw [aH,h];rfl
theorem Safe.step{s:dW}(h:Safe s){k j:Nat}(hk:k<s.lines.length){n:eH}(hj:(s.line k).nodes[j]?=some n){m:dp}(hm:yR s m):Safe (lD s k j m):=by
 unfold lD;rw [pH hj];obtain ⟨g1,g2,g3⟩:=Lj n m;have hL:=h.line k hk;have hS:Safe (je s k j (fy n m).1):=by
  rcases g2 with e | ⟨e1,e2,e3,e4,e5⟩
  ·refine h.node hk hj g1 (by rw [e];exact br _) (by rw [e];exact hL.few n (aC hj)) (fun i p hi hp=>?_) (fun e0=>?_)
   ·rw [e];exact (rR.1 hL.ord i j p n hi hp hj).2
   ·rw [e];exact h.logs hk (aC hj)
  ·obtain ⟨i,a,hi,ha,uw⟩:=hL.RN hj (FG e2);have hij:i+1=j:=by omega
   obtain ⟨N,q1,q2⟩:=hm e1 k hk a (aC ha) uw;have hN:N=n.log.length:=by omega
   subst hN;have hpre:n.log++[m.cmd] <+: a.log:=by
    obtain ⟨t,ht⟩:=(rR.1 hL.ord i j a n (by omega) ha hj).2;rw [<-ht] at q2 ⊢;rw [aO (aF _),Nat.sub_self] at q2
    cases t with
    | nil=>simp at q2
    | cons x t=>simp at q2;subst q2;exact ⟨t,by simp⟩
   refine h.node hk hj g1 (by rw [e5];exact List.prefix_append _ _) (by rw [e5];simp;omega) (fun i' p hi' hp=>?_) (fun e0=>by omega);rw [e5];by_cases e6:i'=i
   ·subst e6;rw [ha] at hp;cases hp;exact hpre
   ·exact hpre.trans (rR.1 hL.ord i' i p a (by omega) hp ha).2
 refine hS.send fun m' hm'=>?_;have hk':k<(je s k j (fy n m).1).lines.length:=by rw [Dl];exact hk
 refine hS.sent hk' (n:=(fy n m).1) ?_ (g3 m' hm');rw [Az s hk,aJ rfl];exact aC (i:=j) (by rw [pX,aJ ⟨rfl,(aB.1 hj).1⟩])
theorem gb.step{s:dW}{k j:Nat}(hk:k<s.lines.length){n:eH}(hj:(s.line k).nodes[j]?=some n)(hv:fs s n=true)(m:dp):gb s (lD s k j m):=by
 unfold lD;rw [pH hj];obtain ⟨g1,g2,g3⟩:=Lj n m;refine gb.node1 hk hj g1 ?_ (fun q=>by rw [hv] at q;cases q) _;rcases g2 with e | ⟨_,_,_,_,e⟩
 ·rw [e];exact br _
 ·rw [e];exact List.prefix_append _ _
theorem JJ{s:dW}(h:Safe s)(hH:Held s)(k:Nat):kS s (im s k):=by
 unfold im
 cases hm:s.net.way[k]? with
 | none=>exact kS.refl h hH
 | some m=>
  have ht:Safe (fH s k):=h.way fun m' hm'=>bb hm';have hT:kS s (fH s k):=⟨ht,hH.lines rfl rfl,(kp.refl s).net _,km.of rfl,rfl,fun e=>aM (List.length_eraseIdx_le _ _) e⟩;simp only
  cases hn:mY s m.to with
  | none=>exact hT
  | some kj=>
   obtain ⟨kk,j⟩:=kj;obtain ⟨hk,n,q1,q2,q3⟩:=Av hn;have hm':yR (fH s k) m:=h.msg m (aC hm);have hS:=ht.step (k:=kk) (j:=j) (n:=n) hk q1 hm';have Ju:kS (fH s k) (lD (fH s k) kk j m):=(gb.step (s:=fH s k) hk q1 q2 m).rV hS hT.held;exact (hT.trans Ju).trans (wm hS Ju.held).1
theorem Safe.fD{s:dW}(h:Safe s){k j:Nat}(hk:k<s.lines.length):Safe (fD k s j)/\gb s (fD k s j):=by
 unfold Go.Proofs.YtmaiggbnceejiaaGreatDoor.fD;split
 ·by_cases hj:j<(s.line k).nodes.length
  ·have hj':(s.line k).nodes[j]?=some (eG s k j):=by rw [aA hj];unfold eG;rw [aH,aA hj];rfl
   obtain ⟨g1,g2,g3⟩:=Dh (eG s k j);have hL:=h.line k hk;have hS:Safe (je s k j (kK (eG s k j)).1):=by
    refine h.node hk hj' g1 (by rw [g2];exact br _) (by rw [g2];exact hL.few _ (aC hj')) (fun i p hi hp=>?_) (fun e0=>?_)
    ·rw [g2];exact (rR.1 hL.ord i j p _ hi hp hj').2
    ·rw [g2];exact h.logs hk (aC hj')
   refine ⟨hS.send fun m' hm' h3=>?_,gb.node1 hk hj' g1 (by rw [g2];exact br _) (fun _=>g2) _⟩;have:=(g3 m' hm').2;omega
  ·have hz:eG s k j=⟨0,0,[],[],0⟩:=by unfold eG;rw [aH,aj (by omega)];rfl
   have GV:∀ n,je s k j n=s:=fun n=>by
    unfold je rS;have e1:(s.line k).nodes.set j n=(s.line k).nodes:=List.set_eq_of_length_le (by omega);rw [e1];have e2:s.lines.set k ⟨(s.line k).nodes,(s.line k).heard⟩=s.lines:=by
     refine bf fun i=>?_;rw [pX];split
     ·rename_i e;rw [e.1,mL hk]
     ·rfl
    rw [e2]
   have iV:(kK (eG s k j)).2=[]:=by rw [hz];rfl
   rw [GV,iV];exact ⟨h,gb.refl s⟩
 ·exact ⟨h,gb.refl s⟩
theorem Lq{s:dW}(h:Safe s){k:Nat}(hk:k<s.lines.length):Safe (eM s k)/\gb s (eM s k):=by
 unfold eM;generalize List.range (s.line k).nodes.length=js
 suffices key:∀ (js:List Nat) (S:dW),Safe S->gb s S->Safe (js.foldl (fD k) S)/\gb s (js.foldl (fD k) S) from key js s h (gb.refl s)
 intro js
 induction js with
 | nil=>exact fun S a b=>⟨a,b⟩
 | cons j js ih=>
  intro S a b;obtain ⟨c,d⟩:=a.fD (k:=k) (j:=j) (by rw [b.mv.ll];exact hk);exact ih _ c (b.trans d)
theorem Lp{s:dW}(h:Safe s):Safe (jv s)/\gb s (jv s):=by
 unfold jv
 suffices key:∀ m,m<=s.lines.length->Safe ((List.range m).foldl eM s)/\gb s ((List.range m).foldl eM s) from key _ (aF _)
 intro m
 induction m with
 | zero=>exact fun _=>⟨h,gb.refl s⟩
 | succ m ih=>
  intro hm;rw [aY,aX];obtain ⟨a,b⟩:=ih (by omega);obtain ⟨c,d⟩:=Lq a (k:=m) (by rw [b.mv.ll];omega);exact ⟨c,b.trans d⟩
def kB(l:ik)(n:eH):eH:=(kK (jK n (np l) (l.nodes.map (·.id)))).1
theorem ySb{l:ik}{n:eH}(hi:oD n=true):(kB l n).id=n.id/\(kB l n).db=np l/\(kB l n).nodes=l.nodes.map (·.id)/\(kB l n).log=n.log:=by
 have e:jK n (np l) (l.nodes.map (·.id))=xm n (np l) (l.nodes.map (·.id)):=by
  unfold jK;rw [hi];rfl
 unfold kB;rw [e];obtain ⟨g1,g2,_⟩:=Dh (xm n (np l) (l.nodes.map (·.id)));exact ⟨g1.id,g1.ep,g1.cf,g2⟩
theorem JM(l:ik):(mZ l).1=⟨l.nodes.map (kB l),l.heard⟩:=rfl
theorem zSb{l:ik}{m:dp}(h:m∈(mZ l).2):m.kind=1\/m.kind=4:=by
 unfold mZ at h;simp only [cP] at h;obtain ⟨n,_,hm⟩:=h;exact ((Dh _).2.2 m hm).2
theorem pW.fix{k:Nat}{l:ik}(h:pW k l){ns:List eH}(hs:ns.Sublist l.nodes)(hne:ns≠[])(hlt:ns.length<l.nodes.length):pW k (mZ ⟨ns,l.heard⟩).1/\∀ n∈ns,(kB ⟨ns,l.heard⟩ n).id=n.id/\(kB ⟨ns,l.heard⟩ n).log=n.log:=by
 have hin:∀ n∈ns,Go.Proofs.YtmaiggbnceejiaaGreatDoor.oD n=true:=fun n hn=>h.oD (hs.subset hn);have hb:∀ n∈ns,_:=fun n hn=>ySb (l:=⟨ns,l.heard⟩) (hin n hn);rw [JM];refine ⟨⟨fun e=>hne (by simpa using e),?_,fun x hx=>?_,fun x hx=>?_,?_,fun x hx=>?_,fun x hx=>?_⟩,fun n hn=>⟨(hb n hn).1,(hb n hn).2.2.2⟩⟩
 ·rw [cC];refine dJ ?_ (h.ord.sublist hs);intro a b ha hb' hab;rw [(hb a ha).1,(hb b hb').1,(hb a ha).2.2.2,(hb b hb').2.2.2];exact hab
 ·obtain ⟨n,hn,rfl⟩:=ag.1 hx;rw [(hb n hn).1];exact h.nf n (hs.subset hn)
 ·obtain ⟨n,hn,rfl⟩:=ag.1 hx;rw [(hb n hn).2.2.1];show ns.map (·.id)=(ns.map (kB ⟨ns,l.heard⟩)).map (·.id);rw [dN];exact List.map_congr_left fun a ha=>((hb a ha).1).symm
 ·obtain ⟨E,h1,h2,h3⟩:=h.ep;refine ⟨E+1,by omega,by show E+1+((ns.map _).length:Int)<=6;rw [af];omega,fun x hx=>?_⟩;obtain ⟨n,hn,rfl⟩:=ag.1 hx;rw [(hb n hn).2.1];unfold np
  cases ns with
  | nil=>exact absurd rfl hne
  | cons a ns=>show a.db+1=E+1;rw [h3 a (hs.subset (by simp))]
 ·obtain ⟨n,hn,rfl⟩:=ag.1 hx;rw [(hb n hn).2.2.2];exact h.heard n (hs.subset hn)
 ·obtain ⟨n,hn,rfl⟩:=ag.1 hx;rw [(hb n hn).2.2.2];exact h.few n (hs.subset hn)
def eW(s:dW)(k:Nat):dW:=qx (rS s k (mZ ⟨fM s k,(s.line k).heard⟩).1) (mZ ⟨fM s k,(s.line k).heard⟩).2
theorem Bz(s:dW){k:Nat}(hk:k<s.lines.length)(i:Nat):(eW s k).line i=if i=k then (mZ ⟨fM s k,(s.line k).heard⟩).1 else s.line i:=LY s k _ i hk
theorem sH(s:dW)(k:Nat):(eW s k).lines.length=s.lines.length:=by simp [eW,rS,qx]
theorem Safe.eW{s:dW}(h:Safe s){k:Nat}(hk:k<s.lines.length)(hne:fM s k≠[])(hlt:(fM s k).length<(s.line k).nodes.length):Safe (eW s k):=by
 have hL:=h.line k hk;have hsub:(fM s k).Sublist (s.line k).nodes:=bQ;obtain ⟨f1,f2⟩:=hL.fix hsub hne hlt;have mQ:=fun i=>Bz s hk i;have hd:dk (Go.Proofs.YtmaiggbnceejiaaGreatDoor.eW s k)=dk s:=by unfold dk;rw [sH]
 have hold:∀ i,i<s.lines.length->∀ x∈((Go.Proofs.YtmaiggbnceejiaaGreatDoor.eW s k).line i).nodes,∃ n∈(s.line i).nodes,x.id=n.id/\x.log=n.log:=fun i hi x hx=>by
  rw [mQ] at hx;split at hx
  ·rename_i e;subst e;rw [JM] at hx;obtain ⟨n,hn,rfl⟩:=ag.1 hx;exact ⟨n,hsub.subset hn,f2 n hn⟩
  ·exact ⟨x,hx,rfl,rfl⟩
 have hn0:∀ i,i<s.lines.length->∃ n∈(s.line i).nodes,(dy (Go.Proofs.YtmaiggbnceejiaaGreatDoor.eW s k) i).log=n.log:=fun i hi=>by
  have ou:((Go.Proofs.YtmaiggbnceejiaaGreatDoor.eW s k).line i).nodes≠[]:=by
   rw [mQ];split
   ·exact f1.ne
   ·exact (h.line i hi).ne
  obtain ⟨n,hn,_,e⟩:=hold i hi _ (aC (Tj ou));exact ⟨n,hn,e⟩
 have BN:∀ i,((Go.Proofs.YtmaiggbnceejiaaGreatDoor.eW s k).line i).heard=(s.line i).heard:=fun i=>by
  rw [mQ];split
  ·rename_i e;rw [e];rfl
  ·rfl
 have uq:∀ i,i<s.lines.length->jY (Go.Proofs.YtmaiggbnceejiaaGreatDoor.eW s k) i=jY s i:=fun i hi=>by
  obtain ⟨n,hn,e⟩:=hn0 i hi;unfold jY;rw [BN,e];exact h.Cp hi hn
 have hbase:Safe (Go.Proofs.YtmaiggbnceejiaaGreatDoor.eW s k):=by
  refine ⟨by rw [sH];exact h.ll,h.tl,fun i hi=>?_,fun i hi=>?_,fun m hm h3 i hi x hx e=>?_,fun id i1 i2=>(h.tx id i1 i2).of rfl (sH s k) uq h.dec_lt⟩
  ·rw [sH] at hi;rw [mQ];split
   ·rename_i e;rw [e];exact f1
   ·exact h.line i hi
  ·rw [sH] at hi;obtain ⟨n,hn,e⟩:=hn0 i hi;rw [e];exact (h.logs hi hn).of rfl hd
  ·rw [sH] at hi;rcases Iy hm with q | q
   ·obtain ⟨n,hn,e1,e2⟩:=hold i hi x hx;rw [e2];exact h.msg m q h3 i hi n hn (by rw [<-e1];exact e)
   ·have:=zSb q;omega
 exact hbase
structure fe(s s':dW):Prop where
 safe:Safe s'
 held:Held s'
 fin:km s s'
 ll:s'.lines.length=s.lines.length
theorem fe.refl{s:dW}(h:Safe s)(hH:Held s):fe s s:=⟨h,hH,km.refl s,rfl⟩
theorem fe.trans{a b c:dW}(h:fe a b)(k:fe b c):fe a c:=⟨k.safe,k.held,h.fin.trans k.fin,k.ll.trans h.ll⟩
theorem kS.CK{s s':dW}(h:kS s s'):fe s s':=⟨h.safe,h.held,h.fin,h.mv.ll⟩
theorem km.abort{s:dW}{id:Nat}(h1:1<=id)(h2:id<=s.dV.length)(ho:(s.tx id).state<3):km s (gO s id):=by
 refine ⟨by rw [Iz];exact aF _,fun j j1 j2 j3=>?_⟩;by_cases e:j=id
 ·subst e;omega
 ·rw [Dk s (by omega)]
theorem VV{s:dW}(h:Safe s){id k:Nat}(h1:1<=id)(h2:id<=s.dV.length)(hk:k<dk s)(hs:(s.tx id).ats.getD k 0=2):(kq (dy s k).log 2 (id:Int)).isNone=false:=by
 obtain ⟨c,hc,e1,e2⟩:=(h.tx id h1 h2).sure k hk hs
 cases hp:kq (dy s k).log 2 (id:Int) with
 | some i=>rfl
 | none=>exact absurd ⟨e1,e2⟩ (Qh.1 hp c (As k c hc))
theorem Qs{s:dW}(h:Safe s)(hH:Held s){k:Nat}(hk:k<s.lines.length):fe s (pF s k)/\gB s (pF s k):=by
 unfold pF
 suffices key:∀ m,m<=s.dV.length->fe s ((List.range m).foldl (fun h i=>if kE h k i then gO h (i+1) else h) s)/\gB s ((List.range m).foldl (fun h i=>if kE h k i then gO h (i+1) else h) s) from key _ (aF _)
 intro m
 induction m with
 | zero=>exact fun _=>⟨fe.refl h hH,gB.refl s⟩
 | succ m ih=>
  intro hm;rw [aY,aX];obtain ⟨a,b⟩:=ih (by omega);generalize (List.range m).foldl (fun h i=>if kE h k i then gO h (i+1) else h) s=S at a b;show fe s (if kE S k m then gO S (m+1) else S)/\gB s (if kE S k m then gO S (m+1) else S);split
  ·rename_i hl;have jq:m+1<=S.dV.length:=by rw [b.len];omega
   have xM:k<S.lines.length:=by rw [b.l];exact hk
   unfold kE at hl;simp only [bN,cF,ar] at hl;obtain ⟨mw,hl2⟩:=hl;have hx:=a.safe.tx (m+1) (by omega) jq;have lK:k<dk S:=by
    have:k≠dk S:=fun e=>mw (by rw [e];exact hx.dec);unfold dk at this ⊢;omega
   have Em:Held (gO S (m+1)):=a.held.abort (m+1) (by omega) (fun x hx=>by simp at hx);rcases hl2 with q | ⟨q,q2⟩
   ·exact ⟨a.trans ⟨a.safe.abort (by omega) jq q,Em,km.abort (by omega) jq (by omega),by rw [CC]⟩,b.trans (gB.abort S _)⟩
   ·have hr:tj (S.tx (m+1))=false:=by
     apply aR;intro hn;simp only [Bool.not_eq_false] at hn;have:=FK.1 hn k;have:=hx.nf k;have h2:(S.tx (m+1)).ats.getD k 0=2:=by omega
     have:=VV a.safe (by omega) jq lK h2;have e:((m+1:Nat):Int)=(m:Int)+1:=by omega
     rw [e,q2] at this;cases this
    exact ⟨a.trans ⟨a.safe.vI (by omega) jq q hr,Em,km.abort (by omega) jq (by omega),by rw [CC]⟩,b.trans (gB.abort S _)⟩
  ·exact ⟨a,b⟩
theorem JF{s:dW}{k:Nat}(h:¬ ((fM s k).length=0\/(fM s k).length=(s.line k).nodes.length)):fM s k≠[]/\(fM s k).length<(s.line k).nodes.length:=by
 have:(fM s k).length<=(s.line k).nodes.length:=aw _ _;refine ⟨fun e=>h (.inl (by rw [e];rfl)),by omega⟩
theorem UA{s:dW}(h:Safe s)(hH:Held s){k:Nat}(hk:k<s.lines.length):fe s (eK s k)/\(eK s k).dead=s.dead/\(eK s k).net.down=s.net.down/\(eK s k).dV.length=s.dV.length/\(∀ i,i≠k->(eK s k).line i=s.line i) /\
  (((eK s k).line k).nodes=(s.line k).nodes/\((fM s k).length=0\/(fM s k).length=(s.line k).nodes.length)\/(∀ n∈((eK s k).line k).nodes,fs s n=true))/\(∀ i,((eK s k).line i).heard=(s.line i).heard):=by
 unfold eK;split
 ·rename_i e;exact ⟨fe.refl h hH,rfl,rfl,rfl,fun _ _=>rfl,.inl ⟨rfl,e⟩,fun _=>rfl⟩
 ·rename_i e;obtain ⟨e1,e2⟩:=JF e;have hF:Safe (eW s k):=h.eW hk e1 e2;have BX:Held (eW s k):=hH.lines rfl rfl;obtain ⟨a,b⟩:=Qs hF BX (k:=k) (by rw [sH];exact hk);have hA:fe s (eW s k):=⟨hF,BX,km.of rfl,sH s k⟩;have hl:∀ i,(pF (eW s k) k).line i=(eW s k).line i:=fun i=>by unfold dW.line;rw [b.l]
  refine ⟨hA.trans a,b.d,by show (pF (eW s k) k).net.down=_;rw [b.net];exact Qj _ _,b.len,fun i hi=>?_,.inr fun n hn=>?_,fun i=>?_⟩
  ·show (pF (eW s k) k).line i=_;rw [hl,Bz s hk,aE hi]
  ·have hn':n∈((pF (eW s k) k).line k).nodes:=hn;rw [hl,Bz s hk,aJ rfl,JM] at hn';obtain ⟨x,hx,rfl⟩:=ag.1 hn';have hxl:fs s x=true:=(al.1 hx).2;have:=((h.line k hk).fix (ns:=fM s k) bQ e1 e2).2 x hx;unfold fs at hxl ⊢;rw [this.1];exact hxl
  ·show ((pF (eW s k) k).line i).heard=_;rw [hl,Bz s hk];split
   ·rename_i q;rw [q];rfl
   ·rfl
theorem Ax{s:dW}(h:Safe s)(hH:Held s):∀ m,m<=s.lines.length->fe s ((List.range m).foldl eK s)/\((List.range m).foldl eK s).dead=s.dead/\((List.range m).foldl eK s).net.down=s.net.down/\((List.range m).foldl eK s).dV.length=s.dV.length/\(∀ i,m<=i->((List.range m).foldl eK s).line i=s.line i) /\
  (∀ i,i<m->(((List.range m).foldl eK s).line i).nodes=(s.line i).nodes/\((fM s i).length=0\/(fM s i).length=(s.line i).nodes.length)\/(∀ n∈(((List.range m).foldl eK s).line i).nodes,fs s n=true))/\(∀ i,(((List.range m).foldl eK s).line i).heard=(s.line i).heard):=by
 intro m
 induction m with
 | zero=>exact fun _=>⟨fe.refl h hH,rfl,rfl,rfl,fun _ _=>rfl,fun i hi=>by omega,fun _=>rfl⟩
 | succ m ih=>
  intro hm;rw [aY,aX];obtain ⟨a,b,b2,c,d,e,f⟩:=ih (by omega);generalize (List.range m).foldl eK s=S at a b b2 c d e f;show fe s (eK S m)/\(eK S m).dead=s.dead/\(eK S m).net.down=s.net.down/\(eK S m).dV.length=s.dV.length/\(∀ i,m+1<=i->(eK S m).line i=s.line i)/\(∀ i,i<m+1->((eK S m).line i).nodes=(s.line i).nodes/\((fM s i).length=0\/(fM s i).length=(s.line i).nodes.length)\/(∀ n∈((eK S m).line i).nodes,fs s n=true))/\(∀ i,((eK S m).line i).heard=(s.line i).heard);obtain ⟨a',b',b2',c',d',e',f'⟩:=UA a.safe a.held (k:=m) (by rw [a.ll];omega);have hlv:∀ n,fs S n=fs s n:=fun n=>by unfold fs;rw [b]
  refine ⟨a.trans a',b'.trans b,b2'.trans b2,c'.trans c,fun i hi=>by rw [d' i (by omega),d i (by omega)],fun i hi=>?_,fun i=>(f' i).trans (f i)⟩;by_cases q:i=m
  ·subst q;have hli:fM S i=fM s i:=by unfold fM;rw [d i (aF _)];congr 1;funext n;exact hlv n
   rw [d i (aF _),hli] at e';rcases e' with e' | e'
   ·exact .inl e'
   ·exact .inr fun n hn=>by rw [<-hlv];exact e' n hn
  ·rw [d' i q];exact e i (by omega)
theorem yRj{s:dW}(h:Safe s)(hH:Held s):fe s (jz s):=by
 unfold jz;obtain ⟨a,-⟩:=Ax h hH s.lines.length (aF _);obtain ⟨b,c,_⟩:=sV a.safe;have:=c.rV b a.held;exact (a.trans this.CK).trans (wm b this.held).1.CK
theorem yRs{s:ey}{id:Int}{m:dp}(h:m∈(Bf s id).way):m∈s.way:=(al.1 h).1
theorem Safe.dead{s:dW}(h:Safe s)(d:List Int):Safe { s with dead:=d }:=
 h.dV (s':={ s with dead:=d }) rfl rfl h.tl (fun k c _ _ q=>q.same rfl rfl rfl) (fun id h1 h2=>(h.tx id h1 h2).same rfl rfl)
theorem yCt{s:dW}(h:Safe s)(hH:Held s)(id:Int):fe s (oa s id).1:=by
 unfold oa;split
 ·exact fe.refl h hH
 ·exact ⟨(h.way (net:=Bf s.net id) fun m hm=>yRs hm).dead _,hH.lines rfl rfl,km.of rfl,rfl⟩
theorem yBp{s:dW}(h:Safe s)(hH:Held s)(k:Int):fe s (ob s k).1:=by
 unfold ob;split
 ·exact ⟨h.way (net:=RG s.net k.toNat) fun m hm=>bb hm,hH.lines rfl rfl,km.of rfl,rfl⟩
 ·exact fe.refl h hH
theorem yCy{s:dW}(h:Safe s)(hH:Held s)(id:Int):fe s (pC s id).1:=by
 unfold pC;split
 ·exact fe.refl h hH
 ·rename_i e;obtain ⟨i,rfl,h1,h2,ho⟩:=nY (by simpa using e);rw [aS];exact ⟨h.abort h1 h2 ho,hH.abort i h1 (fun x hx=>by simp at hx),km.abort h1 h2 (by omega),by rw [CC]⟩
def Has(k:eh)(x:Int):Prop:=∃ c∈k.held,c.tx=x
theorem TH{x:Int}:∀ (q held kept:List dg),jl held->(∃ c∈held,c.tx=x)->∃ c∈(iw held kept q).1,c.tx=x
 | [],held,kept,_,h=>h
 | c :: q,held,kept,he,h=>by
  unfold iw;split
  ·refine TH q (jM held c) kept (By he c) ?_;obtain ⟨d,hd,e⟩:=h;by_cases e2:d.tx=c.tx
   ·exact ⟨c,(lp he c c).2 (.inl rfl),by omega⟩
   ·exact ⟨d,(lp he c d).2 (.inr ⟨hd,e2⟩),e⟩
  ·exact TH q held (kept++[c]) he h
theorem Has.rel{s:fv}{k:ByteArray}{x t:Int}(hk:mW (s k))(h:Has (s k) x)(hne:x≠t):Has (gI s t k) x:=by
 unfold gI;split
 ·obtain ⟨c,hc,e⟩:=h;exact TH _ _ _ (Aw hk.held t) ⟨c,nZ.2 ⟨hc,by omega⟩,e⟩
 ·exact h
theorem Has.fT{x:Int}{key:ByteArray}(hx:1<=x):∀ (ids:List Int) {X:List Int} {s:dW},jD X s->(∀ i∈ids,1<=i)->Has (s.keys key) x->(x∉ids\/(s.tx x.toNat).state≠1)->Has ((il s ids).keys key) x
 | [],X,s,_,_,h,_=>h
 | i :: ids,X,s,hH,hi,h,hn=>by
  have hi1:=hi i (by simp);have Xf:=hH.eE (i:=i) hi1;show Has ((il (Go.Proofs.YtmaiggbnceejiaaGreatDoor.eE s i) ids).keys key) x;have hstep:Has ((Go.Proofs.YtmaiggbnceejiaaGreatDoor.eE s i).keys key) x/\(x∉ids\/((Go.Proofs.YtmaiggbnceejiaaGreatDoor.eE s i).tx x.toNat).state≠1):=by
   unfold Go.Proofs.YtmaiggbnceejiaaGreatDoor.eE;split
   ·rename_i e;have hne:x≠i:=fun q=>by
     rcases hn with hn | hn
     ·exact hn (by simp [q])
     ·rw [q] at hn;exact hn e
    refine ⟨?_,?_⟩
    ·rw [QZ];exact Has.rel (hH.apart key).ok h (by omega)
    ·rw [Dk s (by omega)];exact hn.imp (fun q=>fun q2=>q (by simp [q2])) id
   ·exact ⟨h,hn.imp (fun q=>fun q2=>q (by simp [q2])) id⟩
  exact Has.fT hx ids Xf (fun j hj=>hi j (by simp [hj])) hstep.1 hstep.2
theorem yTo{W:List Int}{k:eh}(h:qK W k){x id:Int}(hx:Has k x)(hne:x≠id):iM k.held id<2:=by
 apply aR;intro hn;have h0:iM k.held id≠0:=by omega
 have hz:=fun hall=>h0 ((Dg h.ok.held h.ok.h0).2 hall);have:∃ c∈k.held,c.tx=id:=aR fun q=>hz fun c hc e=>q ⟨c,hc,e⟩;obtain ⟨c,hc,e⟩:=this;have hm:=DY h.ok.held hc;rw [e] at hm;obtain ⟨d,hd,e2⟩:=hx;have:=h.alone c hc d hd;unfold kL at this;have h2:c.mode=2:=by rcases h.ok.hmode c hc with q | q <;> omega
 rw [h2] at this;have ou:c.tx≠d.tx:=by omega
 simp [ou] at this
theorem yJc{s:dW}(hS:Safe s)(hH:Held s){id:Nat}(h1:1<=id)(h2:id<=s.dV.length)(ho:(s.tx id).state=1)(key:ByteArray)(hks:key.size<=20)(hy:oe s id key=false):(gC s id key 2).2≠0:=by
 unfold oe at hy;simp only [Bool.not_eq_false',cK,cF,ar] at hy;obtain ⟨o,ug,hoc⟩:=hy;have hin:=Qq ug;have hne:=yBg ug;have hhas:Has (s.keys key) o:=by
  unfold oK at ug;simp only [al,bN,ar] at ug;have:=ug.2.2;have hz:=fun hall=>this ((Dg (hH.apart key).ok.held (hH.apart key).ok.h0).2 hall);exact aR fun q=>hz fun c hc e=>q ⟨c,hc,e⟩
 have hy':oe (gZ s id key 2).1 id key=false\/(gZ s id key 2).2.2≠4:=by
  by_cases e:(gZ s id key 2).2.2=4
  ·left;have hk:(iI (s.keys key) ⟨(id:Int),2⟩).1=s.keys key:=by
    have e':(iI (s.keys key) ⟨(id:Int),2⟩).2.2.2=4:=e;revert e';unfold iI;split
    ·simp
    split
    ·simp
    split
    ·simp
    split
    ·simp
    ·simp
   have hkk:(gZ s id key 2).1.keys key=s.keys key:=by
    show jI s.keys key _ key=_;rw [uQ,hk]
   unfold oe;simp only [Bool.not_eq_false',cK,cF,ar];refine ⟨o,?_,hoc⟩;unfold oK at ug ⊢;rw [hkk];exact ug
  ·exact .inr e
 have hl2:jH s id key 2=gZ s id key 2:=by
  unfold jH;simp only;rw [aE (fun q=>hy'.elim (fun e=>absurd q.2 (by rw [e];simp)) (fun e=>e q.1))]
 unfold gC;simp only;rw [hl2];split
 ·simp
 split
 ·simp
 have hL:=Qf hS hH h1 h2 ho key hks (mode:=2) (.inr rfl);rw [hl2] at hL;have hlt:iM ((il (lZ (gZ s id key 2).1 (id:Int).toNat (ee (gZ s id key 2).1 key)) (gZ s id key 2).2.1).keys key).held id<2:=by
  have hC:=hL.held.came (k:=ee (gZ s id key 2).1 key) h1 h2;have uk:∀ i∈(gZ s id key 2).2.1,1<=i/\i<=((lZ (gZ s id key 2).1 id (ee (gZ s id key 2).1 key)).dV.length:Int):=fun i hi=>by
   show 1<=i/\i<=((dY (gZ s id key 2).1 id _).dV.length:Int);rw [kT];exact (hL.wd i hi).2
  have hh:Has ((lZ (gZ s id key 2).1 id (ee (gZ s id key 2).1 key)).keys key) o:=by
   show Has (jI s.keys key (iI (s.keys key) ⟨(id:Int),2⟩).1 key) o;rw [uQ];obtain ⟨c,hc,e⟩:=hhas;have hko:=(hH.apart key).ok;unfold iI;split
   ·exact ⟨c,hc,e⟩
   split
   ·exact ⟨c,hc,e⟩
   split
   ·exact ⟨c,(lp hko.held _ c).2 (.inr ⟨hc,by show c.tx≠(id:Int);omega⟩),e⟩
   split
   ·exact ⟨c,hc,e⟩
   ·exact ⟨c,hc,e⟩
  rw [aS];have hw:=Has.fT (key:=key) hin.1 (gZ s id key 2).2.1 hC (fun i hi=>(uk i hi).1) hh (by
   rcases hoc with q | q
   ·exact .inl fun q2=>by have:=(hL.wd _ q2).1;omega
   ·right;show ((dY (gZ s id key 2).1 id _).tx o.toNat).state≠1;rw [wg _ _ (by omega)];exact q)
  have hA:=jD.pZ (ids:=(gZ s id key 2).2.1) (X:=[]) (by simpa using hC) uk;exact yTo (hA.apart key) hw hne
 rw [aJ hlt];simp
end Go.Proofs.YtmaiggbnceejiaaGreatDoor
