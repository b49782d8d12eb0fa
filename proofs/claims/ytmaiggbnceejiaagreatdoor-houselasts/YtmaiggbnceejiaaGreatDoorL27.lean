import Derived.Test.YtmaiggbnceejiaaGreatDoorL24
set_option linter.unusedVariables false
set_option maxRecDepth 100000
set_option maxHeartbeats 16000000
namespace Go.Proofs.YtmaiggbnceejiaaGreatDoor
open Go.RowKit Go.Lib Go.Maps
variable {s s':dp}{k j:Nat}{n:ec}{w:World}{L:Lo}{v:Value}{ms:List eG}
def sL(m:eG):Nat:=if m.kind=1 then 602 else if m.kind=2 then 601 else if m.kind=4 then 1+min m.C3.toNat 100 else 1
theorem Kw(m:eG):sL m<=602:=by
 unfold sL;split
 .omega
 .split
  .omega
  .split
   .omega
   .omega
theorem yHq(m:eG):1<=sL m:=by
 unfold sL;split
 .omega
 .split
  .omega
  .split
   .omega
   .omega
def gX(ms:List eG):Nat:=(ms.map sL).sum
theorem yUs(a b:List eG):gX (a++b)=gX a+gX b:=by simp[gX]
theorem yHr:∀ms:List eG,gX ms<=602*ms.length
|[]=>by simp[gX]
|m::ms=>by
  have:=yHr ms;have:=Kw m;have e:gX (m::ms)=sL m+gX ms:=by simp[gX]
  rw[e,aW,Nat.mul_succ];omega
theorem yQh(s:fS)(m:eG):gX (lC s m).way<=gX s.way+sL m:=by
 unfold lC;split
 .exact Nat.le_add_right _ _
 .show gX (s.way++[m])<=_;rw[yUs];simp[gX]
theorem Yz:∀(ms:List eG) (s:fS),gX (kp s ms).way<=gX s.way+gX ms
|[],s=>Nat.le_add_right _ _
|m::ms,s=>by
  have b:=Yz ms (lC s m);have a:=yQh s m;have e:gX (m::ms)=sL m+gX ms:=by simp[gX]
  show gX (kp (lC s m) ms).way<=_;omega
def qI(s:dp):Nat:=iQ (λk=>iQ (λj=>500-(eZ s k j).M.length) (s.A k).nodes.length) s.lines.length
def kU(s:dp):Nat:=gX s.J.way
def qP(s:dp):Nat:=qI s*120401+kU s
theorem yQi(h:s.J.way.length<=200):kU s<=120400:=by
 have:=yHr s.J.way;unfold kU;omega
theorem qM(a:j<(s.A k).nodes.length):(s.A k).nodes[j]?=some (eZ s k j):=by
 rw[aA a];unfold eZ;rw[aI,aA a];rfl
theorem lz.at(h:lz s s')(a:j<(s.A k).nodes.length):sq (eZ s k j) (eZ s' k j)/\(eZ s k j).M <+: (eZ s' k j).M:=by
 obtain⟨e,d,c,b,_⟩:=h.node k j _ (qM a);rw[qi d];exact⟨c,b⟩
theorem lz.room(h:lz s s'):qI s'<=qI s:=by
 unfold qI;rw[h.ll];refine FR λk b=>?_;rw[h.len];refine FR λj a=>?_;have:=(h.at a).2.length_le;omega
theorem lz.less(h:lz s s')(g:Safe s')(b:k<s.lines.length)(c:j<(s.A k).nodes.length)(e:(eZ s k j).M.length<(eZ s' k j).M.length):qI s'<qI s:=by
 have l:(eZ s' k j).M.length<=500:=(g.A k (by rw[h.ll];exact b)).few _ (aC (qM (by rw[h.len];exact c)));unfold qI;rw[h.ll];refine Nt (λi f=>?_) k b ?_
 .rw[h.len];refine FR λd a=>?_;have:=(h.at a).2.length_le;omega
 .rw[h.len];refine Nt (λd a=>?_) j c (by omega);have:=(h.at a).2.length_le;omega
theorem yPq{f g:Nat->Nat}:∀{n:Nat},(∀k,k<n->f k=g k)->iQ f n=iQ g n
|0,_=>rfl
|n+1,h=>by show iQ f n+f n=iQ g n+g n;rw[yPq λk a=>h k (by omega),h n (by omega)]
theorem zVa(h:rp s=false):nK s=s:=by
 unfold nK fT;rw[h];rfl
theorem yUc{l:jS}(p:qz k l)(Q:k<=4)(A:l.nodes[j]?=some n)(m:eG)(d:(gV n m).1.M=n.M):gX (gV n m).2<sL m/\(gV n m).2.length<=500:=by
 have h:=aC A;have b:∀(s:ec) (B:Int) (x:eG),(lY s B x).length<=1:=λs B x=>by
  unfold lY;split <;> simp
 unfold gV at d⊢;split at d
 .rename_i h0;rw[aK h0];split at d
  .rename_i u;rw[aK u];refine⟨?_,aO (b _ _ _) (by omega)⟩;have e:sL m=602:=by unfold sL;rw[aK u.1]
   rw[e];show gX (lY n (-1) (qh 2 n.M.length))<602;unfold lY;split
   .simp[gX]
   .simp[gX,sL,qh]
  .rename_i u;rw[aH u];split at d
   .rename_i r;rw[aK r];have e:sL m=601:=by unfold sL;rw[aH (by omega),aK r.1]
    rw[e];have o:(tr n m.n).length<=500:=by
     unfold tr;split
     .simp
     .simp only[lq,ao,List.length_range];have:=p.few n h;omega
    refine⟨?_,o⟩;have g:∀x∈tr n m.n,sL x=1:=λx c=>by
     unfold tr at c
     cases C:iU n 1 with
    |none=>rw[C]at c;simp at c
    |some t=>
      rw[C]at c;simp only[lq,aj]at c;obtain⟨i,_,rfl⟩:=c;rfl
    have f:∀ms:List eG,(∀x∈ms,sL x=1)->gX ms=ms.length:=λms=>by
     induction ms with
    |nil=>intro _;rfl
    |cons a ms G=>
      intro c;have N:=G λx I=>c x (by simp[I]);have K:gX (a::ms)=sL a+gX ms:=by simp[gX]
      rw[K,N,c a (by simp),aW];omega
    show gX (tr n m.n)<601;rw[f _ g];omega
   .rename_i r;rw[aH r];split at d
    .rename_i E;have:=(FV n m.z).2.1;rw[this]at d;have:=an List.length d;simp at this
    .rename_i E;rw[aH E];split at d
     .rename_i q;rw[aK q];refine⟨?_,aO (b _ _ _) (by omega)⟩;have F:m.C3=n.id:=h0.2;have P:=p.pE n h;have e:sL m=1+n.id.toNat:=by
       unfold sL;rw[aH (by omega),aH (by omega),aK q.1,F,Nat.min_eq_left (by omega)]
      rw[e];show gX (lY (wE n m.n) (-1) (qh 4 (wE n m.n).iR))<_;unfold lY;split
      .simp[gX];omega
      .rename_i t ht;have y:iU n (-1)=some t:=ht;obtain⟨i,a,R,D,O⟩:=p.XC A y;have J:=(sy.1 p.ord i j a n (by omega) D A).1;have H:=p.pE a (aC D);simp only[gX,sL,qh,bZ,cO,List.sum_cons,List.sum_nil];simp only[show((4:Int)=1)=False by simp,show((4:Int)=2)=False by simp,if_false,if_true];have:min t.toNat 100<=t.toNat:=Nat.min_le_left _ _;omega
     .rename_i q;rw[aH q];exact⟨by have:=yHq m;simp[gX];omega,by simp⟩
 .rename_i h0;rw[aH h0];exact⟨by have:=yHq m;simp[gX];omega,by simp⟩
theorem Safe.k4(h:Safe s)(a:k<s.lines.length):k<=4:=by have:=h.ll.2;omega
theorem yNo(h:Safe s)(Y:Held s)(V:rp s=false)(hf:s.J.way.length<=200)(F:s.J.way≠[]):qP (jU s 0)<qP s/\rp (jU s 0)=false/\(jU s 0).J.way.length<=200:=by
 have p:=ON h Y 0;have c:=p.few hf
 cases z:s.J.way with
|nil=>exact absurd z F
|cons m R=>
  have W:s.J.way[0]?=some m:=by rw[z];rfl
  have T:kU s=sL m+gX R:=by unfold kU;rw[z];simp[gX]
  have X:∀k,(fa s 0).A k=s.A k:=λ_=>rfl;have Z:(fa s 0).J.way=R:=by show s.J.way.eraseIdx 0=R;rw[z];rfl
  have Cu:=yHq m;have C:qI (fa s 0)=qI s:=rfl;unfold jU at p c⊢;rw[W]at p c⊢;simp only at p c⊢
  cases t:nf s m.C3 with
 |none=>
   rw[t]at p c;simp only at p c⊢;refine⟨?_,V,c⟩;unfold qP;rw[C];have:kU (fa s 0)=gX R:=by unfold kU;rw[Z]
   omega
 |some kj=>
   obtain⟨k,j⟩:=kj;rw[t]at p c;simp only at p c⊢;obtain⟨u,n,l,q2,q3⟩:=EY t;have ht:Safe (fa s 0):=h.way λm' H=>bk H;have Gh:Held (fa s 0):=Y.lines rfl rfl;have G:CA (fa s 0) m:=h.msg m (aC W);have P:=ht.step (k:=k) (j:=j) (n:=n) u l G;have q:=iN.step (s:=fa s 0) u l q2 m;have Ey:Held (mM (fa s 0) k j m):=Gh.lines q.keys q.U;obtain⟨g1,g2⟩:=AK P Ey;refine⟨?_,g2,c⟩;have r:=RD n m;have pn:eZ (mM (fa s 0) k j m) k j=(gV n m).1:=by
    have E:((fa s 0).A k).nodes[j]?=some n:=l;refine qi ?_;show((kS (fa s 0) k j (gV (eZ (fa s 0) k j) m).1).A k).nodes[j]?=_;rw[Ee (fa s 0) (k:=k) u,aK rfl,qi E];show((s.A k).nodes.set j _)[j]?=_;rw[rE,aK ⟨rfl,(aB.1 l).1⟩]
   have K:j<(s.A k).nodes.length:=(aB.1 l).1;have y:eZ s k j=n:=qi l;obtain e|e:=r.2.1
   .have D:nK (mM (fa s 0) k j m)=mM (fa s 0) k j m:=by
     refine zVa (EM.2 λi O=>?_);have N:i<s.lines.length:=by have:=q.mv.ll;rw[this]at O;exact O
     have Q:=EM.1 V i N;have qU:=(P.A i O).ne;have f:=q.mv.len i;have o:=bR.2 qU;unfold lX qf at Q⊢;rw[q.heard,Fa _ _ o];rw[Fa _ _ (by rw[<-X i,<-f];exact o)]at Q;have iS:∀(x:Nat) (a b:ec),(s.A i).nodes[x]?=some a->((mM (fa s 0) k j m).A i).nodes[x]?=some b->b.M=a.M:=λx a b B hb=>by
      have g:((kS (fa s 0) k j (gV (eZ (fa s 0) k j) m).1).A i).nodes[x]?=some b:=hb;rw[Ee (fa s 0) (k:=k) u]at g;split at g
      .rename_i ei;subst ei;have d:((s.A i).nodes.set j (gV (eZ (fa s 0) i j) m).1)[x]?=some b:=g;rw[rE]at d;split at d
       .rename_i ex
        cases d
        rw[ex.1,l]at B;cases B
        rw[show eZ (fa s 0) i j=n from y];exact e
       .rw[B]at d;cases d;rfl
      .have d:(s.A i).nodes[x]?=some b:=g;rw[B]at d;cases d;rfl
     have hx:=iS ((s.A i).nodes.length-1) _ _ (aA (by rw[<-X i,<-f];omega)) (by
      rw[show(s.A i).nodes.length=((mM (fa s 0) k j m).A i).nodes.length by rw[f];rfl];exact aA (by omega))
     rw[hx];exact Q
    rw[D];obtain⟨p1,p2⟩:=yUc (h.A k u) (h.k4 u) l m e;unfold qP;have S:=q.mv.room;rw[C]at S;have hp:kU (mM (fa s 0) k j m)<=gX R+gX (gV n m).2:=by
     have:=Yz (gV (eZ (fa s 0) k j) m).2 (fa s 0).J;rw[Z,show eZ (fa s 0) k j=n from y]at this;unfold kU mM sd;simp only[show eZ (fa s 0) k j=n from y];exact this
    have:qI (mM (fa s 0) k j m)*120401<=qI s*120401:=dZ _ S;omega
   .have I:qI (mM (fa s 0) k j m)<qI (fa s 0):=q.mv.less P (k:=k) (j:=j) u K (by rw[pn,e.2.2.2.2,show eZ (fa s 0) k j=n from y];simp);have hr2:=g1.mv.room;rw[C]at I;have hp:=yQi c;unfold qP;have:(qI (nK (mM (fa s 0) k j m))+1)*120401<=qI s*120401:=dZ _ (by omega);rw[Nat.add_mul]at this;omega
structure jY(s:dp):Prop where
 safe:Safe s
 held:Held s
 none:rp s=false
 few:s.J.way.length<=200
def fo:Nat->dp->dp
|0,s=>s
|n+1,s=>if s.J.way.isEmpty then s else fo n (jU s 0)
def zs(s:dp):dp:=fo (qP s+1) s
theorem jY.fj(h:jY s)(d:s.J.way≠[]):jY (jU s 0)/\lT s (jU s 0)/\qP (jU s 0)<qP s:=by
 obtain⟨a,b,c⟩:=yNo h.safe h.held h.none h.few d;have q:=ON h.safe h.held 0;exact⟨⟨q.safe,q.held,b,c⟩,q,a⟩
theorem Zk:∀(n:Nat) {s:dp},jY s->jY (fo n s)/\lT s (fo n s)/\qP (fo n s)<=qP s
|0,s,h=>⟨h,lT.refl h.safe h.held,aD _⟩
|n+1,s,h=>by
  unfold fo;split
  .exact⟨h,lT.refl h.safe h.held,aD _⟩
  .rename_i e;obtain⟨a,b,c⟩:=h.fj (λq=>e (by rw[q];rfl));obtain⟨f,d,g⟩:=Zk n a;exact⟨f,b.trans d,by omega⟩
theorem yNj(n:Nat):∀{s:dp},jY s->qP s<n->(fo n s).J.way=[]:=by
 induction n with
|zero=>intro s h d;exact absurd d (Nat.not_lt_zero _)
|succ n f=>
  intro s h d;unfold fo;by_cases e:s.J.way.isEmpty=true
  .rw[aK e];exact List.isEmpty_iff.1 e
  .rw[aH e];obtain⟨a,b,c⟩:=h.fj (λq=>e (by rw[q];rfl));exact f a (aJ c (Nat.le_of_lt_succ d))
theorem zZz(h:jY s):jY (zs s)/\lT s (zs s)/\qP (zs s)<=qP s/\(zs s).J.way=[]:=by
 obtain⟨a,b,c⟩:=Zk (qP s+1) h;exact⟨a,b,c,yNj (qP s+1) h (Nat.lt_succ_self _)⟩
theorem yBy(n:ec)(c:eH):(nc n c).2.length<=1:=by
 unfold nc;split
 .unfold lH lY;split
  .simp only;split <;> simp
  .simp only;split <;> simp
 .simp only;split <;> simp
theorem Nz(n:ec):(lH n).2.length<=1:=by
 unfold lH lY;split
 .simp only;split <;> simp
 .simp only;split <;> simp
theorem yXd(s:dp)(k:Nat)(c:eH):s.J.lost<=(ny s k c).J.lost/\(ny s k c).J.lost<=s.J.lost+1/\(ny s k c).lines.length=s.lines.length/\(ny s k c).U=s.U:=by
 have a:(vF (eU s k) c).2.length<=1:=by
  unfold vF;split
  .exact yBy _ _
  .simp
 have:=FZ (vF (eU s k) c).2 s.J;refine⟨this.1,?_,by simp[ny,sd,kS,tB],rfl⟩;have b:=this.2;show(kp s.J (vF (eU s k) c).2).lost<=_;omega
theorem zYr(s:dp)(k:Nat)(a:List eH)(id:Nat):s.J.lost<=(gY s k a id).J.lost/\(gY s k a id).J.lost<=s.J.lost+1/\(gY s k a id).lines.length=s.lines.length/\(gY s k a id).U=s.U:=by
 unfold gY;split
 .exact⟨bO _,by omega,rfl,rfl⟩
 .split
  .exact yXd s k _
  .exact⟨bO _,by omega,rfl,rfl⟩
theorem zYp(k:Nat)(e:List eH):∀(ids:List Nat) (s:dp),s.J.lost<=(ids.foldl (λh id=>gY h k e id) s).J.lost/\(ids.foldl (λh id=>gY h k e id) s).J.lost<=s.J.lost+ids.length/\(ids.foldl (λh id=>gY h k e id) s).lines.length=s.lines.length/\(ids.foldl (λh id=>gY h k e id) s).U=s.U
|[],s=>⟨bO _,by simp,rfl,rfl⟩
|id::ids,s=>by
  obtain⟨a,b,c,d⟩:=zYr s k e id;obtain⟨l,i,g,f⟩:=zYp k e ids (gY s k e id);rw[cQ];exact⟨by omega,by rw[aW];omega,by rw[g,c],by rw[f,d]⟩
theorem zUw(s:dp)(k:Nat):s.J.lost<=(fD s k).J.lost/\(fD s k).J.lost<=s.J.lost+s.U.length/\(fD s k).lines.length=s.lines.length/\(fD s k).U=s.U:=by
 unfold fD;split
 .exact⟨bO _,by omega,rfl,rfl⟩
 .rename_i n _;have:=zYp k n.M ((List.range s.U.length).map (·+1)) s;simpa using this
theorem yMc(s:dp):s.J.lost<=(kR s).J.lost/\(kR s).J.lost<=s.J.lost+s.lines.length*s.U.length/\(kR s).lines.length=s.lines.length/\(kR s).U=s.U:=by
 unfold kR;have f:∀m,s.J.lost<=((List.range m).foldl fD s).J.lost/\((List.range m).foldl fD s).J.lost<=s.J.lost+m*s.U.length/\((List.range m).foldl fD s).lines.length=s.lines.length/\((List.range m).foldl fD s).U=s.U:=by
  intro m
  induction m with
 |zero=>exact⟨bO _,by simp,rfl,rfl⟩
 |succ m g=>
   rw[aZ,ae];obtain⟨a,b,c,d⟩:=g;obtain⟨o,l,i,h⟩:=zUw ((List.range m).foldl fD s) m;refine⟨Int.le_trans a o,?_,i.trans c,h.trans d⟩;rw[d]at l;show(fD _ m).J.lost<=_;have e:((m+1:Nat):Int)*(s.U.length:Int)=(m:Int)*(s.U.length:Int)+(s.U.length:Int):=by
    rw[show((m+1:Nat):Int)=(m:Int)+1 by omega,Int.add_mul,Int.one_mul]
   rw[e];omega
 exact f s.lines.length
theorem Qc(h:Safe s):s.J.lost<=(kR s).J.lost/\(kR s).J.lost<=s.J.lost+300:=by
 obtain⟨a,b,_⟩:=yMc s;refine⟨a,?_⟩;have d:s.lines.length*s.U.length<=5*60:=Nat.mul_le_mul h.ll.2 h.tl;have c:(s.lines.length:Int)*(s.U.length:Int)<=300:=by
  have:((s.lines.length*s.U.length:Nat):Int)<=300:=by omega
  simpa using this
 omega
theorem zTo:∀(n:Nat) {s:dp},Safe s->Held s->s.J.lost<=(fT n s).J.lost/\(fT n s).J.lost<=s.J.lost+300*n
|0,s,h,d=>⟨bO _,by simp[fT]⟩
|n+1,s,h,d=>by
  unfold fT;split
  .have q:=(KU h d).1;have a:=OI h d;have b:=Qc a.1.safe;rw[a.1.same.J]at b;have c:=zTo n q.safe q.held;exact⟨by omega,by omega⟩
  .exact⟨bO _,by omega⟩
theorem zVb(h:Safe s)(a:Held s):s.J.lost<=(nK s).J.lost/\(nK s).J.lost<=s.J.lost+750300:=by
 have:=zTo (500*s.lines.length+1) h a;have:=h.ll.2;unfold nK;omega
theorem yJt(c:n.M.length<=500)(m:eG):(gV n m).2.length<=500:=by
 have a:∀(s:ec) (b:Int) (x:eG),(lY s b x).length<=500:=λs b x=>by
  unfold lY;split <;> simp
 unfold gV;split
 .split
  .exact a _ _ _
  .split
   .show(tr n m.n).length<=500;unfold tr;split
    .simp
    .simp only[lq,ao,List.length_range];omega
   .split
    .exact aO (yBy _ _) (by omega)
    .split
     .exact a _ _ _
     .simp
 .simp
theorem Zu(h:Safe s)(t:Held s)(k:Nat):s.J.lost<=(jU s k).J.lost/\(jU s k).J.lost<=s.J.lost+750800:=by
 unfold jU
 cases q:s.J.way[k]? with
|none=>exact⟨bO _,by show s.J.lost<=s.J.lost+750800;omega⟩
|some m=>
  simp only
  cases p:nf s m.C3 with
 |none=>exact⟨bO _,by show s.J.lost<=_;omega⟩
 |some o=>
   obtain⟨d,j⟩:=o;obtain⟨g,n,e,l,y⟩:=EY p;have ht:Safe (fa s k):=h.way λz f=>bk f;have u:Held (fa s k):=t.lines rfl rfl;have r:=ht.step (k:=d) (j:=j) (n:=n) g e (h.msg m (aC q));have i:=iN.step (s:=fa s k) g e l m;have x:Held (mM (fa s k) d j m):=u.lines i.keys i.U;have a:=zVb r x;have b:=FZ (gV (eZ (fa s k) d j) m).2 (fa s k).J;have c:=yJt (n:=eZ (fa s k) d j) (by rw[show eZ (fa s k) d j=n from qi e];exact(h.A d g).few n (aC e)) m;have C:(mM (fa s k) d j m).J.lost=(kp (fa s k).J (gV (eZ (fa s k) d j) m).2).lost:=rfl;have B:(fa s k).J.lost=s.J.lost:=rfl;simp only;omega
def iD(s:dp):Int:=s.J.lost+750800*(qP s:Int)
theorem yAa:∀(n:Nat) {s:dp},jY s->s.J.lost<=(fo n s).J.lost/\iD (fo n s)<=iD s
|0,s,h=>⟨bO _,bO _⟩
|n+1,s,h=>by
  unfold fo;split
  .exact⟨bO _,bO _⟩
  .rename_i e;obtain⟨a,b,c⟩:=h.fj (λq=>e (by rw[q];rfl));have d:=Zu h.safe h.held 0;obtain⟨g,f⟩:=yAa n a;refine⟨by omega,?_⟩;have:iD (jU s 0)<=iD s:=by unfold iD;omega
   omega
theorem ySd(h:jY s):s.J.lost<=(zs s).J.lost/\iD (zs s)<=iD s:=yAa _ h
theorem yDg(f:Nat->Nat):∀n,iQ f (n+1)=f 0+iQ (λj=>f (j+1)) n
|0=>by simp[iQ]
|n+1=>by
  have:=yDg f n;show iQ f (n+1)+f (n+1)=f 0+(iQ (λj=>f (j+1)) n+f (n+1));omega
theorem yDs(f:Nat->Nat):∀n,((List.range n).map f).sum=iQ f n
|0=>rfl
|n+1=>by rw[aZ,ay,List.sum_append,yDs f n];simp[iQ]
theorem zZx(p:ec->Bool)(f:ec->Nat)(d:ec):∀l:List ec,((l.filter p).map f).sum=iQ (λj=>if p (l.getD j d)then f (l.getD j d)else 0) l.length
|[]=>rfl
|a::l=>by
  rw[aW,yDg];have b:=zZx p f d l;simp only[List.getD_cons_zero,List.getD_cons_succ];rw[<-b,cE];split
  .simp
  .simp
def RV(s:dp):Nat:=iQ (λk=>iQ (λj=>if gQ s (eZ s k j)then(eZ s k j).M.length else 0) (s.A k).nodes.length) s.lines.length
theorem Qk(s:dp):lD s=RV s:=by
 unfold lD RV;rw[yDs];refine yPq λk a=>?_;unfold fc eZ;exact zZx _ _ _ _
theorem lz.lives(h:lz s s')(a:j<(s.A k).nodes.length):gQ s' (eZ s' k j)=gQ s (eZ s k j):=by
 unfold gQ;rw[h.dead,(h.at a).1.id]
theorem lz.known(h:lz s s'):lD s<=lD s':=by
 rw[Qk,Qk];unfold RV;rw[h.ll];refine FR λk b=>?_;rw[h.len];refine FR λj a=>?_;simp only[h.lives a];split
 .exact(h.at a).2.length_le
 .exact aD _
theorem lz.more(h:lz s s')(g:k<s.lines.length)(d:j<(s.A k).nodes.length)(c:gQ s (eZ s k j)=true)(b:(eZ s k j).M.length<(eZ s' k j).M.length):lD s<lD s':=by
 rw[Qk,Qk];unfold RV;rw[h.ll];refine Nt (λi f=>?_) k g ?_
 .rw[h.len];refine FR λe a=>?_;simp only[h.lives a];split
  .exact(h.at a).2.length_le
  .exact aD _
 .rw[h.len];refine Nt (λe a=>?_) j d ?_
  .simp only[h.lives a];split
   .exact(h.at a).2.length_le
   .exact aD _
  .simp only[h.lives d];rw[aK c,aK c];exact b
theorem Safe.oV(h:Safe s)(a:k<s.lines.length):(s.A k).nodes.length<=4:=yRx _ _ ((h.A k a).ord.imp λq=>q.1) (h.A k a).pE
theorem yKk(h:Safe s):lD s<=10000:=by
 rw[Qk];unfold RV;have:iQ (λk=>iQ (λj=>if gQ s (eZ s k j)then(eZ s k j).M.length else 0) (s.A k).nodes.length) s.lines.length<=2000*s.lines.length:=by
  refine WL λk a=>?_;have c:=h.oV a;have:iQ (λj=>if gQ s (eZ s k j)then(eZ s k j).M.length else 0) (s.A k).nodes.length<=500*(s.A k).nodes.length:=by
   refine WL λj b=>?_;split
   .exact(h.A k a).few _ (aC (qM b))
   .omega
  omega
 have:=h.ll.2;omega
theorem zYo(k:Nat)(s:dp)(j:Nat):s.J.lost<=(fX k s j).J.lost/\(fX k s j).J.lost<=s.J.lost+1/\kU (fX k s j)<=kU s+602:=by
 unfold fX;split
 .have a:=FZ (lH (eZ s k j)).2 s.J;have b:=Nz (eZ s k j);have c:=Yz (lH (eZ s k j)).2 s.J;have d:=yHr (lH (eZ s k j)).2;refine⟨a.1,?_,?_⟩
  .show(kp s.J _).lost<=_;omega
  .show gX (kp s.J _).way<=gX s.J.way+602;omega
 .exact⟨bO _,by omega,Nat.le_add_right _ _⟩
theorem Ze(k:Nat):∀(d:List Nat) (s:dp),s.J.lost<=(d.foldl (fX k) s).J.lost/\(d.foldl (fX k) s).J.lost<=s.J.lost+d.length/\kU (d.foldl (fX k) s)<=kU s+602*d.length
|[],s=>⟨bO _,by simp,by simp⟩
|j::d,s=>by
  obtain⟨a,b,c⟩:=zYo k s j;obtain⟨g,f,e⟩:=Ze k d (fX k s j);rw[cQ,aW];exact⟨by omega,by omega,by omega⟩
theorem zYm(h:Safe s):s.J.lost<=(kq s).J.lost/\(kq s).J.lost<=s.J.lost+20/\kU (kq s)<=kU s+12040:=by
 have e:∀m,m<=s.lines.length->s.J.lost<=((List.range m).foldl fB s).J.lost/\((List.range m).foldl fB s).J.lost<=s.J.lost+4*m/\kU ((List.range m).foldl fB s)<=kU s+2408*m:=by
  intro m
  induction m with
 |zero=>exact λ_=>⟨bO _,by simp,by simp⟩
 |succ m f=>
   intro i;rw[aZ,ae];obtain⟨a,b,c⟩:=f (by omega);have g:Safe ((List.range m).foldl fB s)/\iN s ((List.range m).foldl fB s):=by
    suffices e:∀m,m<=s.lines.length->Safe ((List.range m).foldl fB s)/\iN s ((List.range m).foldl fB s)from e m (by omega)
    intro m
    induction m with
   |zero=>exact λ_=>⟨h,iN.refl s⟩
   |succ m f=>
     intro i;rw[aZ,ae];obtain⟨a,b⟩:=f (by omega);obtain⟨c,d⟩:=RM a (k:=m) (by rw[b.mv.ll];omega);exact⟨c,b.trans d⟩
   generalize (List.range m).foldl fB s=S at a b c g;obtain⟨q,o,l⟩:=Ze m (List.range (S.A m).nodes.length) S;have p:=g.1.oV (k:=m) (by rw[g.2.mv.ll];omega);rw[List.length_range]at o l;show s.J.lost<=(fB S m).J.lost/\(fB S m).J.lost<=_/\kU (fB S m)<=_;unfold fB;exact⟨by omega,by omega,by omega⟩
 have:=e s.lines.length (aD _);have:=h.ll.2;unfold kq;omega
theorem yPj(h:Safe s):qI (kq s)<=qI s:=(RL h).2.mv.room
theorem yPk(h:Safe s)(o:∀k j,(eZ (kq s) k j).M=(eZ s k j).M)(m:rp s=false):rp (kq s)=false:=by
 obtain⟨a,b⟩:=RL h;refine EM.2 λk d=>?_;have c:k<s.lines.length:=by rw[b.mv.ll]at d;exact d
 have e:=EM.1 m k c;have l:=bR.2 (a.A k d).ne;have i:=bR.2 (h.A k c).ne;have p:=o k ((s.A k).nodes.length-1);have g:qf (kq s) k=eZ (kq s) k ((s.A k).nodes.length-1):=by
  unfold qf;rw[Fa _ _ l];symm;refine qi ?_;rw[<-b.mv.len k];exact aA (by omega)
 have f:qf s k=eZ s k ((s.A k).nodes.length-1):=by
  unfold qf;rw[Fa _ _ i];symm;exact qi (aA (by omega))
 unfold lX at e⊢;rw[g,p,<-f,b.heard];exact e
theorem yDe(h:Safe s)(a:k<s.lines.length)(j k' j':Nat):(eZ (fX k s j) k' j').M=(eZ s k' j').M:=by
 unfold fX;split
 .have b:=(IU (eZ s k j)).2.1;show(((kS s k j (lH (eZ s k j)).1).A k').nodes.getD j' ⟨0,0,[],[],0⟩).M=_;rw[Ee s a];split
  .rename_i e;subst e;show(((s.A k').nodes.set j _).getD j' _).M=_;rw[aI,rE];split
   .rename_i c;rw[c.1];exact b
   .rw[<-aI];rfl
  .rfl
 .rfl
theorem yLx(h:Safe s)(e:k<s.lines.length)(k' j':Nat):(eZ (fB s k) k' j').M=(eZ s k' j').M:=by
 unfold fB;generalize List.range (s.A k).nodes.length=b
 suffices key:∀(b:List Nat) (S:dp),Safe S->k<S.lines.length->(eZ (b.foldl (fX k) S) k' j').M=(eZ S k' j').M from key b s h e
 intro b
 induction b with
|nil=>exact λS _ _=>rfl
|cons j b f=>
  intro S a e;obtain⟨c,d⟩:=a.fX (k:=k) (j:=j) e;rw[cQ,f _ c (by rw[d.mv.ll];exact e),yDe a e]
theorem yPl(h:Safe s)(k' j':Nat):(eZ (kq s) k' j').M=(eZ s k' j').M:=by
 unfold kq
 suffices key:∀m,m<=s.lines.length->Safe ((List.range m).foldl fB s)/\iN s ((List.range m).foldl fB s)/\(eZ ((List.range m).foldl fB s) k' j').M=(eZ s k' j').M from(key _ (aD _)).2.2
 intro m
 induction m with
|zero=>exact λ_=>⟨h,iN.refl s,rfl⟩
|succ m f=>
  intro g;rw[aZ,ae];obtain⟨a,b,e⟩:=f (by omega);obtain⟨c,d⟩:=RM a (k:=m) (by rw[b.mv.ll];omega);exact⟨c,b.trans d,(yLx a (by rw[b.mv.ll];omega) k' j').trans e⟩
theorem jY.tick(h:jY s):jY (kq s)/\lT s (kq s)/\iD (kq s)<=iD s+9040000000/\s.J.lost<=(kq s).J.lost:=by
 obtain⟨a,b⟩:=RL h.safe;obtain⟨e,f,d⟩:=zYm h.safe;have r:=yPj h.safe;have q:=b.tD a h.held;refine⟨⟨a,q.held,yPk h.safe (yPl h.safe) h.none,b.few h.few⟩,q,?_,e⟩;have g:qP (kq s)<=qP s+12040:=by
  have c:qI (kq s)*120401<=qI s*120401:=dZ _ r;show qI (kq s)*120401+kU (kq s)<=qI s*120401+kU s+12040;rw[cj];exact Nat.add_le_add c d
 unfold iD;omega
def qJ(s:dp):dp:=zs (kq s)
def gL(s:dp):dp:=qJ (qJ (qJ (qJ s)))
theorem AJ(h:jY s):jY (qJ s)/\lT s (qJ s)/\iD (qJ s)<=iD s+9040000000/\s.J.lost<=(qJ s).J.lost/\(qJ s).J.way=[]:=by
 obtain⟨a,b,c,d⟩:=h.tick;obtain⟨l,i,m,g⟩:=zZz a;obtain⟨e,f⟩:=ySd a;exact⟨l,b.trans i,Int.le_trans f c,Int.le_trans d e,g⟩
theorem RE(h:jY s):jY (gL s)/\lT s (gL s)/\iD (gL s)<=iD s+36160000000/\s.J.lost<=(gL s).J.lost:=by
 obtain⟨i,d,u,p,_⟩:=AJ h;obtain⟨g,c,t,o,_⟩:=AJ i;obtain⟨f,b,r,m,_⟩:=AJ g;obtain⟨e,a,q,l,_⟩:=AJ f;unfold gL;exact⟨e,((d.trans c).trans b).trans a,by omega,by omega⟩
def iO:Nat->dp->dp
|0,s=>s
|n+1,s=>if lD (gL s)=lD s then gL s else iO n (gL s)
def lQ(s:dp):dp:=iO 10001 s
theorem yNy(n:Nat):∀{s:dp},jY s->jY (iO n s)/\lT s (iO n s):=by
 induction n with
|zero=>intro s h;exact⟨h,lT.refl h.safe h.held⟩
|succ n c=>
  intro s h;unfold iO;obtain⟨a,b,_⟩:=RE h;split
  .exact⟨a,b⟩
  .obtain⟨e,d⟩:=c a;exact⟨e,b.trans d⟩
theorem ySp(n:Nat):∀{s:dp},jY s->10000-lD s<n->∃S,jY S/\lT s S/\iO n s=gL S/\lD (gL S)=lD S:=by
 induction n with
|zero=>intro s h c;exact absurd c (Nat.not_lt_zero _)
|succ n l=>
  intro s h c;unfold iO;obtain⟨a,b,_⟩:=RE h;by_cases e:lD (gL s)=lD s
  .rw[aK e];exact⟨s,h,lT.refl h.safe h.held,rfl,e⟩
  .rw[aH e];have o:=b.mv.known;have m:=yKk a.safe;obtain⟨S,i,g,f,d⟩:=l a (by omega);exact⟨S,i,b.trans g,f,d⟩
theorem yWx(h:jY s):∃S,jY S/\lT s S/\lQ s=gL S/\lD (gL S)=lD S:=ySp 10001 h (by omega)
theorem IN(h:jY s):jY (lQ s)/\lT s (lQ s):=yNy _ h
theorem fF.nO(h:fF w L v ms):Ke w L (λk=>v.ownBlock=some k) v ms:=by
 have h0:=h;obtain⟨z,N,y,M,K⟩:=h;by_cases o:ms=[]
 .subst o;obtain⟨rfl,_⟩|⟨g,d,cur,rfl,_,_,c,b,_⟩:=y.2
  .exact⟨none,0,rfl,aT _,aT _,.inl rfl⟩
  .exact⟨_,d,rfl,c,b,.inl rfl⟩
 .obtain⟨m,hm⟩:∃m,ms[0]?=some m:=by cases ms with
  |nil=>exact absurd rfl o
  |cons x l=>exact⟨x,rfl⟩
  obtain⟨g,d,_,f,c,b,_⟩:=h0.at hm;refine⟨_,d,f,c,b,.inr ⟨g,0,rfl,by rw[f];rfl,λi m t=>?_⟩⟩;obtain⟨O,p,u,a,_,_,r,q,I,H,G,F,E,D,C,B,A⟩:=h0.at t;rw[f]at a;simp only[Value.slice.injEq,ag,Addr.mk.injEq]at a;obtain⟨⟨rfl,_⟩,_,rfl⟩:=a;refine⟨u,r,q,λj x e=>?_⟩;rw[aY];have J:j<9:=by
   have:=(aB.1 e).1;simpa[kG]using this
  have:j=0\/j=1\/j=2\/j=3\/j=4\/j=5\/j=6\/j=7\/j=8:=by omega
  obtain rfl|rfl|rfl|rfl|rfl|rfl|rfl|rfl|rfl:=this <;> (simp[kG]at e;subst e;assumption)
theorem fF.block(h:fF w L v ms)(d:v.ownBlock=some k):k<w.heap.size/\∃a,w.heap[k]?=some (.cells a 112):=by
 obtain⟨f,_,e,_⟩:=h;obtain⟨_,c,a,b⟩:=fs e d;exact⟨c,a,b⟩
theorem Qv(n c g:Nat)(y:dq)(s:dp)(v:Value)(ms:List eG)(w:World)(h:eJ w n c g y s)(i:fF w (y.lo n) v ms)(b:∀k,v.ownBlock=some k->y.own k=.no)(d:s.J.lost+ms.length<=4611686018427387904) :
  Calls Tryz.prog 48 #[.pointer (some ⟨g,2,none⟩),v] w λe a=>(∃x,e=.returned (.int .i64 x))/\∃f,eJ a n c g f (sd s ms)/\eu w y a f:=by
 refine(yJu (y.lo n) g y.wv y.mr s.J _ v ms w h.sM i.nO (λk l=>⟨(i.block l).1,λe=>?_⟩) d).mono ?_
 .have h0:=b k l;obtain e|e|e:=e
  .rw[e,h.own.main]at h0;cases h0
  .rw[h.own.J k (.inl e)]at h0;cases h0
  .rw[h.own.J k (.inr e)]at h0;cases h0
 .rintro e a⟨r,rfl,hN,q,m⟩;obtain⟨p,o⟩:=h.uQ m hN q (.inl rfl);exact⟨⟨_,rfl⟩,_,p,o,rfl,rfl,rfl,rfl,rfl⟩
theorem eJ.CQ{w':World}{n c g:Nat}{y:dq}(h:eJ w n c g y s){b d:Nat}(r:k<s.lines.length)(A:y.gd[k]?=some b)(u:(y.fu b)[j]?=some d){nv lv:Value}{x:ec}
  (q:Mod (iV d (y.lF d) (y.lG d)) w w') (hN:gI w' (y.lo n) d nv lv x) (E:ik w (y.lF d) nv) (a:ik w (y.lG d) lv) (m:fF w' (y.lo n) v ms) (t:mN w v) :
  ∃f,eJ w' n c g f (kS s k j x)/\eu w y w' f/\fF w' (f.lo n) v ms/\∀z,v.ownBlock=some z->f.own z=.no:=by
 obtain⟨C,B⟩:=h.kO r A u q hN E a;refine⟨_,C,⟨B,rfl,rfl,rfl,rfl,rfl⟩,m,λz l=>?_⟩;have p:=t z l;obtain⟨_,F,i⟩:=m.block l;simp only[dq.mQ];rw[aH]
 .exact aS λe=>by have:=(h.own.lt z e).2;omega
 .rintro⟨_,e|e|e⟩
  .have hB:=hN.Z;unfold dx at hB;rw[<-e,i]at hB;simp at hB
  .obtain⟨_,_,o,a⟩:=fs hN.ns e;rw[i]at a;simp at a
  .obtain⟨G,_,D,_⟩:=hN.lg;obtain⟨_,_,o,a⟩:=fs D e;rw[i]at a;simp at a
end Go.Proofs.YtmaiggbnceejiaaGreatDoor
namespace Go.Proofs.YtmaiggbnceejiaaGreatDoor
open Go.RowKit Go.Lib Go.Maps
variable {s s':dp}{k j i b:Nat}{w w':World}{e:Ending}{y:dq}{v:Value}
def vX(s:dp)(m:Nat):dp:=(List.range m).foldl fD s
theorem zYq(s:dp)(m:Nat):vX s (m+1)=fD (vX s m) m:=by unfold vX;rw[aZ,ae];rfl
theorem yMb(h:Safe s):∀m,m<=s.lines.length->Safe (vX s m)/\iN s (vX s m)/\(vX s m).J.lost<=s.J.lost+m*s.U.length:=by
 intro m
 induction m with
|zero=>exact λ_=>⟨h,iN.refl s,by simp[vX]⟩
|succ m d=>
  intro n;rw[zYq];obtain⟨a,b,c⟩:=d (by omega);obtain⟨l,g,_⟩:=Zq a (k:=m) (by rw[b.mv.ll];omega);obtain⟨_,f,_⟩:=zUw (vX s m) m;refine⟨l,b.trans g,?_⟩;rw[b.mv.tl]at f;have e:((m+1:Nat):Int)*(s.U.length:Int)=(m:Int)*(s.U.length:Int)+(s.U.length:Int):=by
   rw[show((m+1:Nat):Int)=(m:Int)+1 by omega,Int.add_mul,Int.one_mul]
  rw[e];omega
def mP(s:dp)(k j:Nat):dp:=((List.range j).map (·+1)).foldl (λh id=>gY h k (eU s k).M id) s
theorem yDf(s:dp)(k j:Nat):mP s k (j+1)=gY (mP s k j) k (eU s k).M (j+1):=by unfold mP;rw[aZ,ay,ae];rfl
theorem yPn(h:Safe s)(g:k<s.lines.length)(f:gQ s (eU s k)=true):∀j,j<=s.U.length->Ie s (mP s k j) k j/\(mP s k j).J.lost<=s.J.lost+j:=by
 intro j
 induction j with
|zero=>exact λ_=>⟨⟨h,iN.refl s,⟨[],by simp[mP],by simp⟩,λid m l=>by omega,λ_ _=>rfl,f⟩,by simp[mP]⟩
|succ j d=>
  intro n;rw[yDf];obtain⟨a,b⟩:=d (by omega);have c:=zYr (mP s k j) k (eU s k).M (j+1);exact⟨a.step g (by omega),by omega⟩
theorem yHa(h:Safe s)(c:k<s.lines.length)(a:gQ s (eU s k)=true):fD s k=mP s k s.U.length:=by
 unfold fD
 cases d:vV s k with
|none=>rw[Ym h c d]at a;cases a
|some n=>obtain⟨rfl,_⟩:=OD h c d;rfl
theorem yHb(h:Safe s)(c:k<s.lines.length)(a:gQ s (eU s k)=false):fD s k=s:=by
 unfold fD
 cases d:vV s k with
|none=>rfl
|some n=>obtain⟨rfl,e⟩:=OD h c d;rw[a]at e;cases e
theorem No.out{r:Option eH}(h:No w w' r e):∃(d:eH) (u:Value) (ok:Bool),e=.returned (.tuple #[.agg #[.int .i64 d.kind,.int .i64 d.I,.int .i64 d.time,u],.bool ok])/\w'.ownsRow w.heap.size 68 3 u d.writes.length (iG d.writes)/\r=(if ok then some d else none)/\Mod dt w w':=h
theorem yWm(h:Safe s){id:Nat}(r:1<=id)(q:id<=s.U.length)(t:k<s.lines.length){c:eH}{d:Int}(ht:1<=d/\d<=501)(a:gF s id k d=some c):Fc c:=by
 have m:=h.I id r q;have p:=h.tl;have l:gi (0:Int):=by unfold gi;omega
 have o:gi (2:Int):=by unfold gi;omega
 have g:gi (3:Int):=by unfold gi;omega
 have n:gi (4:Int):=by unfold gi;omega
 have f:gi (id:Int):=by unfold gi;omega
 unfold gF at a;simp only at a;split at a
 .split at a
  .cases a;exact⟨⟨g,f,show gi d by unfold gi;omega⟩,by simp⟩
  .cases a
 .split at a
  .cases a
  .split at a
   .cases a
    refine⟨⟨o,f,l⟩,?_⟩;have:(vn s (s.I id) k).length<=(s.I id).writes.length:=bD _ _;have:=m.few.1;show(vn s (s.I id) k).length<=40;omega
   .split at a
    .cases a
     have:=m.tm;exact⟨⟨g,f,show gi (s.I id).time by unfold gi;omega⟩,by simp⟩
    .split at a
     .cases a;exact⟨⟨n,f,l⟩,by simp⟩
     .cases a
theorem yAu(n c g:Nat)(y:dq)(s:dp)(w:World)(h:eJ w n c g y s)(hS:Safe s)(hlo:s.J.lost+300<=4611686018427387904) :
  Calls Tryz.prog 42 #[.pointer (some ⟨g,0,none⟩)] w λe w'=>e=.returned (.tuple #[])/\∃y',eJ w' n c g y' (kR s)/\eu w y w' y':=by
 obtain⟨c0,-⟩:=kX h.Z;obtain⟨la,fQ,V⟩:=fU h.gN;have hll:=hS.ll;have htl:=hS.tl;have K:=h.ir;rw[V,K]at c0;have hLT:(s.lines.length:Int)*(s.U.length:Int)<=300:=by
  have h1:s.lines.length*s.U.length<=5*60:=Nat.mul_le_mul hll.2 htl;have:((s.lines.length*s.U.length:Nat):Int)<=300:=by omega
  simpa using this
 have FM:Hid (y.lv=.slice la s.lines.length fQ):=by unfold Hid;rw[V,K]
 have HH:=dk h;have HS:=dk hS;have Hv:=dk hLT;clear h hS V hLT;go_enter Tryz.func42,Tryz.ntmps42;go_wp2_with fail;go_loopw [17] (λk0 wr=>∃(k:Nat) (o:dq),k<=s.lines.length/\k0=.int .i64 k/\eJ wr n c g o (vX s k)/\eu w y wr o) (λk0 _=>s.lines.length-(intOf k0).toNat)
 case atStart=>exact⟨0,y,aT _,rfl,HH.out,eu.refl _ _⟩
 case round=>
  obtain⟨k,o,hkl,rfl,L,hK⟩:=hrel;obtain⟨wo,hwo⟩:∃x,x=wr:=⟨_,rfl⟩;subst hwo;by_cases hlt:k<s.lines.length
  .obtain⟨tS,tT,tL⟩:=yMb HS.out k hkl;have TQ:(vX s k).J.lost+s.U.length<=4611686018427387904:=by
    have:((k:Int)+1)*(s.U.length:Int)<=(s.lines.length:Int)*(s.U.length:Int):=Int.mul_le_mul_of_nonneg_right (by omega) (by omega);rw[Int.add_mul,Int.one_mul]at this;have:=Hv.out;omega
   have PM:=zYq s k;have mY:(vX s k).U.length=s.U.length:=tT.mv.tl;have p:k<(vX s k).lines.length:=by rw[tT.mv.ll];exact hlt
   have kg:=dk PM;clear PM tT tL;generalize vX s k=S at L tS TQ mY p kg;obtain⟨b,hb,hL⟩:=L.nQ p;obtain⟨d,hd,x,hx,Xf⟩:=hL.zF (j:=0) (by have:=bR.2 (tS.A k p).ne;omega);have hx0:x=eU S k:=by
    have:=tS.head p;rw[hx]at this;exact bA this
   subst hx0;have E:o.st S d=eU S k:=L.lU hb (nM p) hd hx;have Dy:=dk (yEw n c g o S k b d wo L p hb hd);rw[E]at Dy;have zO:(k:Int)<(s.lines.length:Int):=by omega
   have ry:(0:Int)<=(k:Int):=by omega
   have jm:=dk L;have pG:=dk hK;have HB:=dk hb;have HD:=dk hd;have qE:=dk tS;have Q:=dk p;clear L hK hL hb hd hx Xf tS E p
   cases hv:gQ S (eU S k)with
  |false=>
    rw[hv]at Dy;have HE:Hid (vX s (k+1)=S):=by unfold Hid;rw[kg.out,yHb qE.out Q.out hv]
    clear hv;go_upto_region 4 with(first
    |(go_at_call 64;refine Dy.out.mono ?_;rintro e w1⟨rfl,X⟩)
    |fail)
    have t:Hid (eJ w1 n c g o (vX s (k+1))/\eu w y w1 o):=⟨by rw[HE.out];exact jm.out.quiet X,pG.out.trans (eu.quiet X)⟩;clear X;go_wp2_with fail;go_roundw
    case rel=>exact⟨k+1,o,by omega,by go_num,t.out.1,t.out.2⟩
    case measure=>simp[intOf];omega
  |true=>
    rw[hv]at Dy;have fy:(eU S k).M.length<=305:=(qE.out.M k Q.out).few qE.out.tl;have tk:Hid (∀m,Mod dt wo m->Calls Tryz.prog 40 #[.pointer (some ⟨d,0,none⟩)] m λe w'=>∃v,e=.returned v/\iF w' (o.lo n) v (eU S k).M/\mN m v/\Mod dt m w'):=λm hq=>by
     have hN:=(jm.out.quiet hq).nP HB.out (aC HD.out);have E:o.st S d=eU S k:=jm.out.lU HB.out (nM Q.out) HD.out (qE.out.head Q.out);rw[E]at hN;exact Qf _ _ _ _ _ _ hN
    have HV:=dk hv;clear hv;go_upto_region 5 with(first
    |(go_at_call 64;refine Dy.out.mono ?_;rintro e w1⟨rfl,X⟩)
    |fail)
    have VC:=dk (tk.out w1 X);have fh:=dk X;clear X Dy;go_upto_region 6 with(first
    |(go_at_call 40;refine VC.out.mono ?_;rintro e w2⟨v,rfl,F,sQ,hm2⟩;obtain⟨va,vc,lL⟩:=F.slice;subst lL)
    |fail)
    have AZ:Mod dt wo w2:=fh.out.trans hm2;have Af:OT w2 o (.slice va (eU S k).M.length vc) (eU S k).M:=by
     refine⟨F.nO,.inr λz hz=>?_⟩;have hz2:=sQ z hz;have hz1:=fh.out.size;obtain⟨us,_,h3,_⟩:=F;refine⟨?_,(fs h3 hz).2.1⟩;exact aS λe=>by have:=(jm.out.own.lt z e).2;omega
    have sC:=dk Af;have mh:=dk (jm.out.quiet AZ);have ze:=dk (pG.out.trans (eu.quiet AZ));clear F sQ hm2 AZ Af tk VC fh;go_wp2_with fail;go_loopw [6] (λj0 O=>∃(j:Nat) (a:dq),j<=s.U.length/\j0=.int .i64 ((j:Int)+1)/\eJ O n c g a (mP S k j)/\eu w y O a/\eu w2 o O a) (λj0 _=>s.U.length+1-(intOf j0).toNat)
    case atStart=>exact⟨0,o,aT _,rfl,mh.out,ze.out,eu.refl _ _⟩
    case round=>
     obtain⟨j,a,hjl,rfl,B,tY,vA⟩:=hrel;obtain⟨O,wX⟩:∃x,x=wr:=⟨_,rfl⟩;subst wX;obtain⟨P,tL⟩:=yPn qE.out Q.out HV.out j (by rw[mY];exact hjl);have Tt:=yDf S k j;have Dh:=dk Tt;have MZ:=yHa qE.out Q.out HV.out;rw[mY]at MZ;have HAll:=dk MZ;clear Tt MZ;obtain⟨-,-,-,-,-,-,c6⟩:=kX B.Z;obtain⟨ta,gz,pj⟩:=fU B.iC;have zJ:a.kP.length=s.U.length:=by rw[B.lJ,P.tells.mv.tl,mY]
     rw[pj,zJ]at c6;by_cases qW:j<s.U.length
     .have MA:(j:Int)+1<=(s.U.length:Int):=by omega
      generalize Ak:mP S k j=R at B P tL Dh;have N:k<R.lines.length:=by rw[P.tells.mv.ll];exact Q.out
      have hRT:R.U.length=s.U.length:=by rw[P.tells.mv.tl,mY]
      have Ah:a.gd[k]?=some b:=by rw[vA.l];exact HB.out
      have G:(a.fu b)[0]?=some d:=by rw[vA.n];exact HD.out
      have Y:=P.safe;have hRf:(eU R k).M.length<=305:=(Y.M k N).few Y.tl;have SZ:a.st R d=eU R k:=B.lU Ah (nM N) G (Y.head N);have MP:=B.nP Ah (aC G);rw[SZ]at MP;have Hy:=dk (yCh _ _ _ _ _ _ MP);have W:((j+1:Nat):Int)=(j:Int)+1:=by omega
      have HDU:=dk (yYv n c g a R (j+1) k ((eU R k).M.length+1) O B Y.shape (by omega) (by omega) N (Y.I (j+1) (by omega) (by omega)).few.2);rw[W]at HDU;have HHi:=dk B;have VE:=dk tY;have HKr:=dk vA;have HRS:=dk Y;have HBi:=dk Ah;have HDi:=dk G;have HNi:=dk MP;have QE:Hid (R.J.lost<=S.J.lost+j):=tL;have HPL0:Hid (∀q m,il w2 o m a->Calls Tryz.prog 80 #[.slice va (eU S k).M.length vc,.int .i64 q,.int .i64 ((j:Int)+1)] m λe w'=>e=.returned (.int .i64 (jE (mC (eU S k).M q ((j:Int)+1))))/\Mod dt m w'):=λq m hq=>ZN _ _ q _ m (sC.out.keep hq).1 (by omega);clear B tY vA Ah G MP SZ P tL Y pj zJ Ak;go_upto_region 10 with(first
      |(go_at_call 79;refine Hy.out.mono ?_;rintro e w3⟨rfl,rfl⟩)
      |(go_at_call 78;refine HDU.out.mono ?_;rintro e w4 oc;obtain⟨f,u,ok,rfl,C,H,gw⟩:=oc.out;obtain⟨ua,uc,GH⟩:=fU C;subst GH)
      |fail)
      obtain⟨w5,oH⟩:∃z,z=w4.alloc (.cells #[.int .i64 f.kind,.int .i64 f.I,.int .i64 f.time,.slice ua f.writes.length uc] 65):=⟨_,rfl⟩;rw[<-oH];have nt:Mod dt w4 w5:=by rw[oH];exact(Mod.refl _ w4).alloc _
      have oh:dx w5 w4.heap.size [.int .i64 f.kind,.int .i64 f.I,.int .i64 f.time,.slice ua f.writes.length uc] 65:=by rw[oH];exact dx.new w4 _ _
      have jf:Mod dt w3 w5:=gw.trans nt;have SJ:=gw.size;have x0:=oh.cell 0 rfl;have QO:=dk (HHi.out.quiet jf);have Jt:=dk (VE.out.trans (eu.quiet jf));have Bk:=dk (HKr.out.trans (eu.quiet jf));have HRow:=dk (gO C nt (λ_ _ _ _=>id));have HB5:=dk oh;have HM35:=dk jf;have Au:=dk H;clear oH gw nt oh jf C H HDU Hy;have Jz:Hid (∀R',gY R k (eU S k).M (j+1)=R'->mP S k (j+1)=R'):=λR' e=>by rw[Dh.out];exact e
      cases ok with
     |false=>
       have t:Hid (mP S k (j+1)=R):=Jz.out _ (by
        unfold gY;rw[Au.out];rfl)
       clear Au;go_wp2_with fail;go_roundw
       case rel=>exact⟨j+1,a,by omega,by go_num,by rw[t.out];exact QO.out,Jt.out,Bk.out⟩
       case measure=>simp[intOf];omega
     |true=>
       have mn:=dk (HPL0.out f.kind w5 Bk.out.st)
       cases r:mC (eU S k).M f.kind ((j:Int)+1)with
      |some i=>
        rw[r]at mn;have hi0:decide ((i:Int)<0)=false:=aN (by omega);have t:Hid (mP S k (j+1)=R):=Jz.out _ (by
         unfold gY;rw[Au.out];show(if (mC (eU S k).M f.kind ((j+1:Nat):Int)).isNone=true then _ else _)=_;rw[W,r];rfl)
        clear Au r;go_wp2_with (first
        |(go_at_call 80;refine mn.out.mono ?_;rintro e w6⟨rfl,D⟩;simp only[jE])
        |fail)
        have T:Hid (eJ w6 n c g a (mP S k (j+1))/\eu w y w6 a/\eu w2 o w6 a):=⟨by rw[t.out];exact QO.out.quiet D,Jt.out.trans (eu.quiet D),Bk.out.trans (eu.quiet D)⟩;clear D;go_wp2_with fail;go_roundw
        case rel=>exact⟨j+1,a,by omega,by go_num,T.out.1,T.out.2.1,T.out.2.2⟩
        case measure=>simp[intOf];omega
      |none=>
        rw[r]at mn;have oc:gF R (j+1) k ((eU R k).M.length+1)=some f:=Au.out;have vt:=yWm HRS.out (by omega) (by omega) N (by omega) oc;have t:Hid (mP S k (j+1)=sd (kS R k 0 (nc (eU R k) f).1) (nc (eU R k) f).2):=Jz.out _ (by
         unfold gY;rw[oc];show(if (mC (eU S k).M f.kind ((j+1:Nat):Int)).isNone=true then ny R k f else _)=_;rw[W,r];show ny R k f=_;unfold ny;rw[HRS.out.add N])
        have VV:Hid (∀m,Mod dt w5 m->Calls Tryz.prog 81 #[.pointer (some ⟨d,0,none⟩),.agg #[.int .i64 f.kind,.int .i64 f.I,.int .i64 f.time,.slice ua f.writes.length uc]] m λe w'=>
          ∃v kB,e=.returned (.tuple #[.int .i64 (eU R k).M.length,v,.nilIface])/\gI w' (a.lo n) d (a.lF d) kB (nc (eU R k) f).1/\fF w' (a.lo n) v (nc (eU R k) f).2/\mN m v/\ik m (a.lG d) kB/\Mod (iV d (a.lF d) (a.lG d)) m w'):=λm hq=>by
         have hN:=HNi.out.quiet (HM35.out.trans hq);have hpt:ie m (a.lo n) (.slice ua f.writes.length uc) f.writes:=by
          have h0:=gO HRow.out hq (λ_ _ _ _=>id);exact ie.iX h0 (λz hz=>yYf HHi.out.own z hz)
         exact yWy (a.lo n) d (a.lF d) (a.lG d) (eU R k) f _ m hN (HRS.out.nU N) (by omega) hpt vt
        clear Au r oc vt;go_upto_region 11 with(first
        |(go_at_call 80;refine mn.out.mono ?_;rintro e w6⟨rfl,D⟩;simp only[jE])
        |fail)
        have oe:=HB5.out.mod D (λe=>e);obtain⟨z0,z1,z2,z3,-,-,-,-⟩:=vD oe;have KE:=dk (VV.out w6 D);have HH6:=dk (QO.out.quiet D);have HK6:=dk (Jt.out.trans (eu.quiet D));have HR6:=dk (Bk.out.trans (eu.quiet D));clear D oe VV mn;go_upto_region 12 with(first
        |(go_at_call 81;refine KE.out.mono ?_;rintro e w7⟨v7,zG,rfl,vv,sm,Bf,Cy,im⟩;obtain⟨XA,Wz,tP⟩:=sm.slice;subst tP)
        |fail)
        obtain⟨y7,xL,vw,ux,rP⟩:=HH6.out.CQ N HBi.out HDi.out im vv (.inl rfl) Cy sm Bf;have hl7:=yBy (eU R k) f;have qu:=dk (Qv n c g y7 _ _ _ w7 xL ux rP (by
         show R.J.lost+((nc (eU R k) f).2.length:Int)<=_;have:=QE.out;omega))
        have Nb:=dk (HK6.out.trans vw);have Jq:=dk (HR6.out.trans vw);have hg7:=xL.Z.lt;clear xL vw ux rP vv sm Bf Cy im KE z0 z1 z2 z3;go_upto_region 8 with(first
        |(go_at_call 48;refine qu.out.mono ?_;rintro e w8⟨⟨x8,rfl⟩,y8,vy,An⟩)
        |fail)
        have T:Hid (eJ w8 n c g y8 (mP S k (j+1))/\eu w y w8 y8/\eu w2 o w8 y8):=⟨by rw[t.out];exact vy,Nb.out.trans An,Jq.out.trans An⟩;clear vy An qu;go_wp2_with fail;go_roundw
        case rel=>exact⟨j+1,y8,by omega,by go_num,T.out.1,T.out.2.1,T.out.2.2⟩
        case measure=>simp[intOf];omega
     .obtain rfl:j=s.U.length:=by omega
      have MA:¬((s.U.length:Int)+1<=(s.U.length:Int)):=by omega
      have t:Hid (eJ O n c g a (vX s (k+1))/\eu w y O a):=⟨by rw[kg.out,HAll.out];exact B,tY⟩;clear B tY vA P tL pj zJ;go_wp2_with fail;go_roundw
      case rel=>exact⟨k+1,a,by omega,by go_num,t.out.1,t.out.2⟩
      case measure=>simp[intOf];omega
  .obtain rfl:k=s.lines.length:=by omega
   have t:Hid (∃y',eJ wo n c g y' (kR s)/\eu w y wo y'):=⟨o,L,hK⟩;clear L hK;go_wp2_with fail;go_end0;exact⟨rfl,t.out⟩
theorem yRk(h:rp s=false):pZ s=s:=by
 have d:=EM.1 h;have a:∀m,m<=s.lines.length->pI s m=s:=by
  intro m
  induction m with
 |zero=>exact λ_=>rfl
 |succ m c=>
   intro f;rw[RH,c (by omega)];unfold iI;rw[d m (by omega)];rfl
 exact a s.lines.length (aD _)
def Ws(n c g:Nat)(w:World)(y:dq)(s:dp)(wr:World)(f:Nat):Prop:=∃(S:dp) (a:dq),f<=500*s.lines.length+1/\nK s=fT f S/\Safe S/\Held S/\S.lines.length=s.lines.length/\500*s.lines.length-KH S<f/\S.J.lost+300*f<=s.J.lost+300*(500*s.lines.length+1)/\eJ wr n c g a S/\eu w y wr a
theorem yEn{P:Nat->Prop}:∀n,P n->∃f,P f/\∀m,P m->f<=m:=by
 intro n
 induction n using Nat.strongRecOn with
|ind n a=>
  intro c;by_cases h:∃m,m<n/\P m
  .obtain⟨m,l,g⟩:=h;exact a m l g
  .exact⟨n,c,λm d=>aS λq=>h ⟨m,by omega,d⟩⟩
open Classical in
noncomputable def CG(P:World->Nat->Prop)(w:World):Nat:=if h:∃f,P w f/\∀m,P w m->f<=m then Classical.choose h else 0
theorem Yr{P:World->Nat->Prop}(h:∃f,P w f):P w (CG P w):=by
 obtain⟨f,c⟩:=h;have a:=yEn f c;unfold CG;rw[dif_pos a];exact(dX a).1
theorem Ys{P:World->Nat->Prop}{f:Nat}(h:P w f):CG P w<=f:=by
 have a:=yEn f h;unfold CG;rw[dif_pos a];exact(dX a).2 f h
theorem Zc(n c g:Nat)(y:dq)(s:dp)(w:World)(h:eJ w n c g y s)(d:Safe s)(o:Held s)(hc:c<=10000)(Y:s.J.lost+750300<=4611686018427387904) :
  Calls Tryz.prog 43 #[.pointer (some ⟨g,0,none⟩)] w λe w'=>e=.returned (.tuple #[])/\∃m,eJ w' n c g m (nK s)/\eu w y w' m:=by
 have Z:=d.ll;have HH:=dk h;have HS:=dk d;have Nf:=dk o;have HU:Hid (∀S:dp,fT (500*s.lines.length+1) s=S->nK s=S):=λS e=>e;clear h d o;go_enter Tryz.func43,Tryz.ntmps43;go_wp2_with fail;go_loopw [] (λwr=>∃f,Ws n c g w y s wr f) (CG (Ws n c g w y s))
 case atStart=>exact⟨_,s,y,aD _,rfl,HS.out,Nf.out,rfl,by omega,bO _,HH.out,eu.refl _ _⟩
 case round=>
  obtain⟨S,T,hf,B,d,o,hl,L,I,H,E⟩:=Yr hrel;obtain⟨f,Ad⟩:∃f,f=CG (Ws n c g w y s) wr:=⟨_,rfl⟩;rw[<-Ad]at hf B L I;have Nj:=dk Ad;clear hrel Ad;have q:=dk (yVv n c g T S wr H d.shape hc d.news);have t:=OI d o
  cases r:rp S with
 |false=>
   rw[r]at q;have HE:Hid (nK s=pZ S):=by
    unfold Hid;rw[B,yRk r]
    cases f with
   |zero=>rfl
   |succ f=>unfold fT;rw[r];rfl
   have K:=dk E;clear H E d o B L I t;go_wp2_with fail;refine q.out.mono ?_;rintro e w1⟨rfl,F,z,x⟩;have HF:Hid (∃m,eJ w1 n c g m (nK s)/\eu w y w1 m):=⟨F,by rw[HE.out];exact z,K.out.trans x⟩;clear z x q;go_wp2_with fail;go_end0;exact⟨rfl,HF.out⟩
 |true=>
   rw[r]at q;obtain⟨u,G⟩:=KU d o;rw[r]at G;have A:=yEx u.safe;have p:(kR (pZ S)).lines.length=s.lines.length:=by rw[u.mv.ll,hl]
   rw[p]at A;obtain⟨D,rfl⟩:∃D,f=D+1:=⟨f-1,by omega⟩;have N:=Qc t.1.safe;rw[t.1.same.J]at N;have U:Hid (∀a l,eJ a n c g l (pZ S)->Calls Tryz.prog 42 #[.pointer (some ⟨g,0,none⟩)] a λe w'=>e=.returned (.tuple #[])/\∃m,eJ w' n c g m (kR (pZ S))/\eu a l w' m):=λa l X=>yAu n c g l (pZ S) a X t.1.safe (by rw[t.1.same.J];omega);have Dn:Hid (∀a l,eJ a n c g l (kR (pZ S))->eu w y a l->Ws n c g w y s a D):=λa l P O=>⟨kR (pZ S),l,by omega,by
    rw[B];show(if rp S=true then fT D (kR (pZ S))else S)=_;rw[r];rfl,u.safe,u.held,p,by
    have:(if true=true then 1 else 0)=1:=rfl;rw[this]at G;omega,by omega,P,O⟩
   have K:=dk E;clear H E d o B L I t u G A p N;go_wp2_with fail;refine q.out.mono ?_;rintro e w1⟨rfl,F,z,x⟩;have Q:=dk (U.out w1 F z);have Dv:=dk (K.out.trans x);clear z x q;go_wp2_with fail;refine Q.out.mono ?_;rintro e W⟨rfl,V,M,C⟩;have R:=dk (Dn.out W V M (Dv.out.trans C));clear M C Q;go_wp2_with fail;go_roundw
   case rel=>exact⟨D,R.out⟩
   case measure=>
    have P:=Ys R.out;have O:=Nj.out;omega
theorem yKe(c:s'.dead=s.dead)(id:Int):∀(k:Nat) (a:List jS),yt s' id k a=yt s id k a
|_,[]=>rfl
|k,l::a=>by
  have e:BI s' l.nodes id=BI s l.nodes id:=by unfold BI gQ;rw[c]
  unfold yt;rw[e,yKe c id (k+1) a]
theorem yUz(c:s'.dead=s.dead)(a:s'.lines=s.lines)(id:Int):nf s' id=nf s id:=by
 unfold nf;rw[a];exact yKe c id 0 _
theorem zZr(h:yTn y none e):e=.returned (.tuple #[.pointer none,.bool false]):=h
theorem zZq(h:yTn y (some (k,j)) e):∃b d,y.gd[k]?=some b/\(y.fu b)[j]?=some d/\e=.returned (.tuple #[.pointer (some ⟨d,0,none⟩),.bool true]):=h
theorem zXb(n c g:Nat)(y:dq)(s:dp)(i:Nat)(m:eG)(w:World)(h:eJ w n c g y s)(hS:Safe s)(qY:Held s)(hc:c<=10000)(Q:s.J.way[i]?=some m)(hlo:s.J.lost+750800<=4611686018427387904) :
  Calls Tryz.prog 28 #[.pointer (some ⟨g,0,none⟩),.int .i64 i] w (jG w n c g y (jU s i) 0):=by
 have O:=yJr (y.lo n) g y.wv y.mr s.J i m w h.sM Q;unfold wT at O;have Jp:=dk O;have jg:sE m:=by obtain⟨_,_,_,_,_,_,_,jg,-⟩:=h.J.row.at Q;exact jg
 clear O;have hTS:Safe (fa s i):=hS.way λm' hm'=>bk hm';have Gh:Held (fa s i):=qY.lines rfl rfl;have X:nf (fa s i) m.C3=nf s m.C3:=yUz (s:=s) (s':=fa s i) rfl rfl _;have Y:CA (fa s i) m:=hS.msg m (aC Q);have Yc:=dk jg;have qE:=dk hTS;have QF:=dk Gh;have Av:=dk X;have Uz:=dk Y;have hg:=h.Z.lt;have HH:=dk h;have HE0:Hid (jP 0=.nilIface):=pM;have vP:Hid (nf s m.C3=none->jU s i=fa s i):=λe=>by
  unfold jU;rw[Q];simp only;rw[e]
 have HDS:Hid (∀t j,nf s m.C3=some (t,j)->jU s i=nK (mM (fa s i) t j m)):=λt j e=>by
  unfold jU;rw[Q];simp only;rw[e]
 clear h hS qY jg hTS Gh X Y Q;obtain⟨a,C,l,B,f,⟨F,D,E,r⟩⟩:=m;go_enter Tryz.func28,Tryz.ntmps28;go_upto_region 2 with(first
 |(go_at_call 54;refine Jp.out.mono ?_;rintro e w1⟨Rg,u,rfl,pW,S,W,dy⟩;(obtain⟨M,P,rfl⟩:∃M P,u=.slice M r.length P:=(by obtain⟨M,P,h,_⟩:=S;exact⟨M,P,h⟩)))
 |fail)
 obtain⟨kf,hS1⟩:=HH.out.uQ dy pW (.inl W) (.inl rfl);obtain⟨w2,hw2⟩:∃x,x=w1.alloc (.cells #[.int .i64 a,.int .i64 C,.int .i64 l,.int .i64 B,.int .i64 f,.int .i64 F,.int .i64 D,.int .i64 E,.slice M r.length P] 112):=⟨_,rfl⟩;rw[<-hw2];have G:Mod dt w1 w2:=by rw[hw2];exact(Mod.refl _ w1).alloc _
 have iT:dx w2 w1.heap.size [.int .i64 a,.int .i64 C,.int .i64 l,.int .i64 B,.int .i64 f,.int .i64 F,.int .i64 D,.int .i64 E,.slice M r.length P] 112:=by rw[hw2];exact dx.new w1 _ _
 have qp:eu w y w1 (y.qO w Rg y.mr):=⟨hS1,rfl,rfl,rfl,rfl,rfl⟩;have PT:(y.qO w Rg y.mr).lo n=y.lo n:=rfl;rw[<-PT]at S;generalize y.qO w Rg y.mr=y1 at kf qp S;have nV:=kf.quiet G;have ze:=dk (qp.trans (eu.quiet G));have Dl:=dk (S.mod G (Qm.none _ _));have mh:Hid (eJ w2 n c g y1 (fa s i)):=nV;have T:=dk (yEt n c g y1 (fa s i) l w2 nV qE.out.shape);have q2:=iT.cell 2 rfl;have mi:=dk iT;have hg2:=nV.Z.lt;clear hw2 dy pW W kf hS1 qp S nV G iT Jp PT
 cases q:nf s l with
|none=>
  have p:nf (fa s i) l=none:=by rw[Av.out];exact q
  rw[p]at T;have HE:=dk (vP.out q);clear q p;go_upto_region 5 with(first
  |(go_at_call 55;refine T.out.mono ?_;rintro e R⟨H,L⟩;obtain rfl:=zZr H)
  |fail)
  have HF:Hid (jG w n c g y (jU s i) 0 (.returned .nilIface) R):=⟨by rw[HE0.out],y1,by rw[HE.out];exact mh.out.quiet L,ze.out.trans (eu.quiet L)⟩;clear L;go_wp2_with fail;go_ret;exact HF.out
|some kj=>
  obtain⟨t,j⟩:=kj;have p:nf (fa s i) l=some (t,j):=by rw[Av.out];exact q
  rw[p]at T;have HE:=dk (HDS.out t j q);obtain⟨z,x,o,V,hx3⟩:=EY p;have hjl:=(aB.1 o).1;have JI:eZ (fa s i) t j=x:=qi o;have fy:=(qE.out.A t z).few x (aC o);have MM:=qE.out.step z o Uz.out;have mY:=iN.step (s:=fa s i) z o V ⟨a,C,l,B,f,⟨F,D,E,r⟩⟩;have Ey:Held (mM (fa s i) t j ⟨a,C,l,B,f,⟨F,D,E,r⟩⟩):=QF.out.lines mY.keys mY.U;have K:=yJt fy ⟨a,C,l,B,f,⟨F,D,E,r⟩⟩;have N:mM (fa s i) t j ⟨a,C,l,B,f,⟨F,D,E,r⟩⟩=sd (kS (fa s i) t j (gV x ⟨a,C,l,B,f,⟨F,D,E,r⟩⟩).1) (gV x ⟨a,C,l,B,f,⟨F,D,E,r⟩⟩).2:=by unfold mM;rw[JI]
  have hls:(mM (fa s i) t j ⟨a,C,l,B,f,⟨F,D,E,r⟩⟩).J.lost<=s.J.lost+500:=by
   rw[N];have:=(FZ (gV x ⟨a,C,l,B,f,⟨F,D,E,r⟩⟩).2 (fa s i).J).2;have e2:(fa s i).J.lost=s.J.lost:=rfl;show(kp (fa s i).J _).lost<=_;omega
  have HSS:=dk MM;have zY:=dk Ey;have I:=dk N;have HLS:=dk hls;have rf:=dk z;have HX1:=dk o;have HLEN:=dk K;clear q p MM Ey N hls mY JI V hx3 z o K;go_upto_region 6 with(first
  |(go_at_call 55;refine T.out.mono ?_;rintro e R⟨H,L⟩;obtain⟨b,d,hb,hd,rfl⟩:=zZq H)
  |fail)
  have GQ:Mod dt w2 R.drew:=L.drewN 1;have mb:=mi.out.mod L (λe=>e);have Jv:=dk (mh.out.quiet GQ);have vN:=dk (ze.out.trans (eu.quiet GQ));have sU:=Jv.out.nP hb (aC hd);rw[Jv.out.lU hb (nM rf.out) hd HX1.out]at sU;have Ug:=dk (ySj (y1.lo n) d (y1.lF d) (y1.lG d) x ⟨a,C,l,B,f,⟨F,D,E,r⟩⟩ (.slice M r.length P) R.drew sU (Dl.out.mod GQ (Qm.none _ _)) Yc.out);obtain⟨⟨p0,p1,p2,p3,p4,p5,p6,p7,p8⟩,_⟩:=ix mb;have hg3:g<R.heap.size:=aJ hg2 L.size;have HBB:=dk hb;have BB:=dk hd;clear L GQ mb sU H hb hd T q2;go_region_with (first
  |(go_at_call 56;refine Ug.out.mono ?_;rintro e w7⟨v7,zG,rfl,vv,sm,Bf,Cy,im⟩;obtain⟨XA,Wz,tP⟩:=sm.slice;subst tP;obtain⟨y7,xL,vw,ux,rP⟩:=Jv.out.CQ rf.out HBB.out BB.out im vv (.inl rfl) Cy sm Bf;(have qu:=dk (Qv n c g y7 _ _ _ w7 xL ux rP (by have:=HLEN.out;have e2:(fa s i).J.lost=s.J.lost:=rfl;show(fa s i).J.lost+_<=_;omega)));(have Nb:=dk (vN.out.trans vw));clear xL vw ux rP vv sm Bf Cy im Ug)
  |(go_at_call 48;refine qu.out.mono ?_;rintro e w8⟨⟨x8,rfl⟩,y8,vy,An⟩)
  |fail)
  all_goals
   have Uk:=dk (Zc n c g y8 _ w8 vy (by rw[<-I.out];exact HSS.out) (by rw[<-I.out];exact zY.out) hc (by rw[<-I.out];have:=HLS.out;omega));have HK8:=dk (Nb.out.trans An);clear vy An qu p0 p1 p2 p3 p4 p5 p6 p7 p8;go_wp2_with fail;refine Uk.out.mono ?_;rintro e w9⟨rfl,y9,Jh,Gp⟩;have HF:Hid (jG w n c g y (jU s i) 0 (.returned .nilIface) w9):=⟨by rw[HE0.out],y9,by rw[HE.out,I.out];exact Jh,HK8.out.trans Gp⟩;clear Jh Gp Uk;go_wp2_with fail;go_ret;exact HF.out
def ig(s:dp)(k:Nat):List Nat:=(List.range (s.A k).nodes.length).filter λj=>gQ s (eZ s k j)
theorem WE(s:dp)(k:Nat):(ig s k).map (eZ s k)=fc s k:=by
 have e:(s.A k).nodes=(List.range (s.A k).nodes.length).map (eZ s k):=by
  apply bP;intro j;rw[ah];by_cases a:j<(s.A k).nodes.length
  .rw[qM a,cz a];rfl
  .rw[aX (by omega),aX (by simp;omega)];rfl
 unfold ig fc
 conv=>rhs;rw[e]
 rw[List.filter_map];rfl
theorem RJ(s:dp)(k:Nat):(ig s k).length=(fc s k).length:=by rw[<-WE,ao]
theorem IQ(h:(ig s k)[i]?=some j):j<(s.A k).nodes.length/\gQ s (eZ s k j)=true:=by
 have:=au.1 (aC h);exact⟨bV.1 this.1,this.2⟩
def yY(w:World)(y:dq)(s:dp)(k b:Nat)(v:Value):Prop:=∃c f,v=.slice c (ig s k).length f/\∀(i j:Nat),(ig s k)[i]?=some j->∃a d,c=some ⟨a,0,none⟩/\(y.fu b)[j]?=some d/\w.cell? ⟨a,i,none⟩=some (.pointer (some ⟨d,0,none⟩))/\y.own a=.no
theorem yY.keep{a:dq}(h:yY w y s k b v)(f:il w y w' a)(o:a.fu=y.fu):yY w' a s k b v:=by
 obtain⟨n,m,r,q⟩:=h;refine⟨n,m,r,λi j p=>?_⟩;obtain⟨c,d,u,t,l,g⟩:=q i j p;exact⟨c,d,u,by rw[o];exact t,f.md.cell l (λe=>e g),by rw[f.old c (AC w _ l)];exact g⟩
theorem yY.of{n c g:Nat}(h:eJ w n c g y s)(x:k<s.lines.length)(B:y.gd[k]?=some b)(H:Mod dt w w')(p:w'.ownsRow w.heap.size 91 1 v (y.lk s b).length (kc (y.lk s b))):yY w' y s k b v:=by
 have m:=h.A k b _ B (nM x);have C:y.lk s b=(ig s k).map λj=>(y.fu b).getD j 0:=by
  have e:y.fu b=(List.range (s.A k).nodes.length).map λj=>(y.fu b).getD j 0:=by
   apply bP;intro j;rw[ah];by_cases l:j<(s.A k).nodes.length
   .rw[cz l,bJ,aI,aA (by rw[m.len];exact l)];rfl
   .rw[aX (by rw[m.len];omega),aX (by simp;omega)];rfl
  unfold dq.lk ig
  conv=>lhs;rw[e]
  rw[List.filter_map];congr 1;apply List.filter_congr;intro j l;have f:=bV.1 l;show gQ s (y.st s ((y.fu b).getD j 0))=_;have t:(y.fu b)[j]?=some ((y.fu b).getD j 0):=by rw[aI,aA (by rw[m.len];exact f)];rfl
  rw[h.lU B (nM x) t (qM f)]
 have d:(y.lk s b).length=(ig s k).length:=by rw[C,ao]
 obtain⟨u,D,o⟩:=fU p;rw[d]at o;refine⟨u,D,o,λi j r=>?_⟩;have F:=(aB.1 r).1;obtain⟨e,h0⟩|⟨g',cap',cur,e,q1,_⟩:=p.2
 .omega
 .have E:u=some ⟨g',0,none⟩:=by
   rw[o]at e;simp only[Value.slice.injEq]at e;exact e.1
  have a:=p;rw[e]at a;have t:(y.lk s b)[i]?=some ((y.fu b).getD j 0):=by rw[C,ah,r];rfl
  have z:=a.cells (g:=g') rfl i (jd ((y.fu b).getD j 0)) (by rw[<-Vw,ah,t];rfl);have G:(⟨g',0,none⟩:Addr).add i=⟨g',i,none⟩:=by cases i <;> simp[Addr.add]
  rw[G]at z;refine⟨g',(y.fu b).getD j 0,E,?_,z,?_⟩
  .rw[aI,aA (by rw[m.len];exact(IQ r).1)];rfl
  .exact aS λq=>by have:=(h.own.lt g' q).2;omega
theorem WR(n c g:Nat)(y:dq)(s:dp)(k b:Nat)(w:World)(h:eJ w n c g y s)(l:mo s)(a:k<s.lines.length)(d:y.gd[k]?=some b) :
  Calls Tryz.prog 46 #[.pointer (some ⟨g,0,none⟩),.int .i64 k] w λe w'=>∃v,e=.returned v/\yY w' y s k b v/\Mod dt w w':=by
 have o:=(h.A k b _ d (nM a)).len;have p:=l.nl _ (Nu a);refine(ZR n c g y s k b w h a d (by omega) (by omega)).mono ?_;rintro e w'⟨v,rfl,m,f⟩;exact⟨v,rfl,yY.of h a d f m,f⟩
def KI(s:dp)(m:Nat):Nat:=((List.range m).map λk=>((fc s k).map λn=>n.M.length).sum).sum
theorem zVz(s:dp)(m:Nat):KI s (m+1)=KI s m+((fc s m).map λn=>n.M.length).sum:=by unfold KI;rw[aZ,ay,List.sum_append];simp
def FO(s:dp)(k i:Nat):Nat:=(((ig s k).take i).map λj=>(eZ s k j).M.length).sum
theorem yHy(h:(ig s k)[i]?=some j):FO s k (i+1)=FO s k i+(eZ s k j).M.length:=by unfold FO;rw[rq h,ay,List.sum_append];simp
theorem yMw(s:dp)(k:Nat):FO s k (ig s k).length=((fc s k).map λn=>n.M.length).sum:=by unfold FO;rw[bQ,<-WE,dW];rfl
theorem yEo(h:Safe s):∀m,m<=s.lines.length->KI s m<=2000*m
|0,_=>by simp[KI]
|m+1,o=>by
  have g:=yEo h m (by omega);have c:m<s.lines.length:=by omega
  rw[zVz];have q:=h.oV c;have p:(fc s m).length<=(s.A m).nodes.length:=bD _ _;have:((fc s m).map λn=>n.M.length).sum<=500*(fc s m).length:=by
   have f:∀n∈fc s m,n.M.length<=500:=λn d=>(h.A m c).few n (au.1 d).1;generalize fc s m=l at f
   induction l with
  |nil=>simp
  |cons a l g=>
    have t:=g (λn d=>f n (by simp[d]));have r:=f a (by simp);simp only[bZ,List.sum_cons,aW];omega
  omega
theorem yRa(h:Safe s)(f:k<s.lines.length)(i:Nat):FO s k i<=2000:=by
 have t:=h.oV f;have d:((ig s k).take i).length<=4:=by
  have g:((ig s k).take i).length<=(ig s k).length:=by rw[af];omega
  rw[RJ]at g;have r:(fc s k).length<=(s.A k).nodes.length:=bD _ _;omega
 have c:∀j∈(ig s k).take i,(eZ s k j).M.length<=500:=λj q=>by
  obtain⟨x,o⟩:=aP (cS q);exact(h.A k f).few _ (aC (qM (IQ o).1))
 unfold FO;generalize (ig s k).take i=l at d c;have:(l.map λj=>(eZ s k j).M.length).sum<=500*l.length:=by
  clear d
  induction l with
 |nil=>simp
 |cons a l m=>
   have g:=m (λn p=>c n (by simp[p]));have r:=c a (by simp);simp only[bZ,List.sum_cons,aW];omega
 omega
theorem yQz(n c g:Nat)(y:dq)(s:dp)(w:World)(h:eJ w n c g y s)(J:Safe s) :
  Calls Tryz.prog 44 #[.pointer (some ⟨g,0,none⟩)] w λe w'=>e=.returned (.int .i64 (lD s))/\Mod dt w w':=by
 obtain⟨c0,-⟩:=kX h.Z;obtain⟨la,fQ,l⟩:=fU h.gN;have hll:=J.ll;have m:=h.ir;rw[l,m]at c0;have V:=dk h;have q:=dk J;clear h J l;go_enter Tryz.func44,Tryz.ntmps44;go_wp2_with fail;go_loopw [3,12] (λL C wr=>∃(k:Nat),k<=s.lines.length/\C=.int .i64 k/\L=.int .i64 (KI s k)/\Mod dt w wr) (λ_ C _=>s.lines.length-(intOf C).toNat)
 case atStart=>exact⟨0,aT _,rfl,rfl,Mod.refl _ _⟩
 case round=>
  obtain⟨k,G,rfl,rfl,o⟩:=hrel;obtain⟨wo,hwo⟩:∃x,x=wr:=⟨_,rfl⟩;subst hwo;by_cases a:k<s.lines.length
  .have K:=V.out.quiet o;obtain⟨b,I,hL⟩:=K.nQ a;have Q:=dk (WR n c g y s k b wo K q.out.shape a I);have zO:(k:Int)<(s.lines.length:Int):=by omega
   have ry:(0:Int)<=(k:Int):=by omega
   have hT:=yEo q.out k G;have HI:=dk (λi=>yRa q.out a i);have W:=dk I;have O:=dk o;have kg:=dk (zVz s k);have VT:=dk (yMw s k);clear K hL I o;go_wp2_with fail;refine Q.out.mono ?_;rintro e w1⟨v,rfl,F,T⟩;have E:∃t r,v=.slice t (ig s k).length r:=by obtain⟨t,r,e,_⟩:=F;exact⟨t,r,e⟩
   obtain⟨t,r,lL⟩:=E;subst lL;have HV:=dk F;have fh:=dk (O.out.trans T);have hl4:(ig s k).length<=4:=by
    rw[RJ];have h2:(fc s k).length<=(s.A k).nodes.length:=bD _ _;have:=q.out.oV a;omega
   clear F T Q;go_wp2_with fail;go_loopw [3,19] (λL D P=>∃(i:Nat),i<=(ig s k).length/\D=.int .i64 i/\L=.int .i64 ((KI s k:Int)+(FO s k i:Int))/\Mod dt w P/\Mod dt w1 P) (λ_ D _=>(ig s k).length-(intOf D).toNat)
   case atStart=>exact⟨0,aT _,rfl,by simp[FO],fh.out,Mod.refl _ _⟩
   case round=>
    obtain⟨i,hil,rfl,rfl,p,u⟩:=hrel;have hIl:=HI.out i;by_cases GX:i<(ig s k).length
    .obtain⟨j,hj⟩:∃j,(ig s k)[i]?=some j:=⟨_,aA GX⟩;obtain⟨Y,X,z,S⟩:=HV.out;simp only[Value.slice.injEq]at z;obtain⟨z,-,-⟩:=z;subst z;obtain⟨lg,d,rfl,H,R,-⟩:=S i j hj;have B:=V.out.quiet p;have hN:=B.nP W.out (aC H);rw[B.lU W.out (nM a) H (qM (IQ hj).1)]at hN;have N:=dk (yCh _ _ _ _ _ _ hN);have hci:=u.cell R id;have zP:(i:Int)<((ig s k).length:Int):=by omega
     have hi0:(0:Int)<=(i:Int):=by omega
     have fy:=(q.out.A k a).few _ (aC (qM (IQ hj).1));have U:=dk (yHy hj);have f:=dk p;have Dq:=dk u;clear B hN p u hj H R S;generalize (eZ s k j).M.length=ln at N fy U;go_wp2_with fail;refine N.out.mono ?_;rintro e w3⟨rfl,rfl⟩;clear N;go_wp2_with fail;go_roundw
     case rel=>exact⟨i+1,by omega,by go_num,by rw[U.out];go_num,f.out,Dq.out⟩
     case measure=>simp[intOf];omega
    .obtain rfl:i=(ig s k).length:=by omega
     have f:=dk p;clear p u;go_wp2_with fail;go_roundw
     case rel=>exact⟨k+1,by omega,by go_num,by rw[kg.out,<-VT.out];rfl,f.out⟩
     case measure=>simp[intOf];omega
  .obtain rfl:k=s.lines.length:=by omega
   have O:=dk o;clear o;go_wp2_with fail;go_ret;exact⟨rfl,O.out⟩
end Go.Proofs.YtmaiggbnceejiaaGreatDoor
namespace Go.Proofs.YtmaiggbnceejiaaGreatDoor
open Go.RowKit Go.Lib Go.Maps
variable {k j:Nat}{h s:dp}
def Oa(k:Nat)(h:dp)(j:Nat):dp:=sd (kS h k j (lH (eZ h k j)).1) (lH (eZ h k j)).2
theorem zYn(a:gQ h (eZ h k j)=true):fX k h j=Oa k h j:=by unfold fX;rw[aK a];rfl
theorem yLz(a:gQ h (eZ h k j)=false):fX k h j=h:=by unfold fX;rw[aH (by rw[a];simp)]
theorem zUv(l:k<s.lines.length):∀(f:List Nat) (S:dp),Safe S->iN s S->(∀j∈f,j<(s.A k).nodes.length)->f.foldl (fX k) S=(f.filter λj=>gQ s (eZ s k j)).foldl (Oa k) S
|[],S,_,_,_=>rfl
|j::f,S,a,b,m=>by
  have g:=m j (by simp);have e:gQ S (eZ S k j)=gQ s (eZ s k j):=b.mv.lives g;obtain⟨c,d⟩:=a.fX (k:=k) (j:=j) (by rw[b.mv.ll];exact l);have n:=zUv l f (fX k S j) c (b.trans d) (λx o=>m x (by simp[o]));rw[cQ,n,cE]
  cases i:gQ s (eZ s k j)with
 |true=>rw[i]at e;rw[zYn e];rfl
 |false=>rw[i]at e;rw[yLz e];rfl
theorem yLy(h:Safe s)(a:k<s.lines.length):fB s k=(ig s k).foldl (Oa k) s:=
 zUv a (List.range (s.A k).nodes.length) s h (iN.refl s) (λj b=>bV.1 b)
def vY(s:dp)(m:Nat):dp:=(List.range m).foldl fB s
theorem zYk(s:dp)(m:Nat):vY s (m+1)=fB (vY s m) m:=by unfold vY;rw[aZ,ae];rfl
theorem yLu(h:Safe s):∀m,m<=s.lines.length->Safe (vY s m)/\iN s (vY s m)/\(vY s m).J.lost<=s.J.lost+4*m:=by
 intro m
 induction m with
|zero=>exact λ_=>⟨h,iN.refl s,by simp[vY]⟩
|succ m e=>
  intro l;rw[zYk];obtain⟨a,b,c⟩:=e (by omega);have d:m<(vY s m).lines.length:=by rw[b.mv.ll];omega
  obtain⟨i,g⟩:=RM a d;obtain⟨_,f,_⟩:=Ze m (List.range ((vY s m).A m).nodes.length) (vY s m);have n:=a.oV d;rw[List.length_range]at f;refine⟨i,b.trans g,?_⟩;show(fB (vY s m) m).J.lost<=_;unfold fB;omega
def uJ(s:dp)(k i:Nat):dp:=((ig s k).take i).foldl (Oa k) s
theorem zYl{i:Nat}(h:(ig s k)[i]?=some j):uJ s k (i+1)=Oa k (uJ s k i) j:=by unfold uJ;rw[rq h,ae];rfl
theorem yLw(h:Safe s)(m:k<s.lines.length):∀i,i<=(ig s k).length->Safe (uJ s k i)/\iN s (uJ s k i)/\(uJ s k i).J.lost<=s.J.lost+i:=by
 intro i
 induction i with
|zero=>exact λ_=>⟨h,iN.refl s,by simp[uJ]⟩
|succ i g=>
  intro p;obtain⟨a,b,c⟩:=g (by omega);obtain⟨j,hj⟩:∃j,(ig s k)[i]?=some j:=⟨_,aA (by omega)⟩;obtain⟨f,d⟩:=IQ hj;rw[zYl hj];have l:gQ (uJ s k i) (eZ (uJ s k i) k j)=true:=by rw[b.mv.lives f];exact d
  rw[<-zYn l];obtain⟨o,n⟩:=a.fX (k:=k) (j:=j) (by rw[b.mv.ll];exact m);have e:=zYo k (uJ s k i) j;exact⟨o,b.trans n,by omega⟩
theorem yJq(n c g:Nat)(y:dq)(s:dp)(w:World)(h:eJ w n c g y s)(hS:Safe s)(hlo:s.J.lost+20<=4611686018427387904) :
  Calls Tryz.prog 31 #[.pointer (some ⟨g,0,none⟩)] w λe w'=>e=.returned (.tuple #[])/\∃B,eJ w' n c g B (kq s)/\eu w y w' B:=by
 obtain⟨c0,-⟩:=kX h.Z;obtain⟨la,fQ,F⟩:=fU h.gN;have hll:=hS.ll;have o:=h.ir;rw[F,o]at c0;have HH:=dk h;have HS:=dk hS;clear h hS F;go_enter Tryz.func31,Tryz.ntmps31;go_wp2_with fail;go_loopw [10] (λk0 wr=>∃(k:Nat) (p:dq),k<=s.lines.length/\k0=.int .i64 k/\eJ wr n c g p (vY s k)/\eu w y wr p) (λk0 _=>s.lines.length-(intOf k0).toNat)
 case atStart=>exact⟨0,y,aT _,rfl,HH.out,eu.refl _ _⟩
 case round=>
  obtain⟨k,p,hkl,rfl,t,P⟩:=hrel;obtain⟨wo,hwo⟩:∃x,x=wr:=⟨_,rfl⟩;subst hwo;by_cases hlt:k<s.lines.length
  .obtain⟨D,tT,tL⟩:=yLu HS.out k hkl;have a:k<(vY s k).lines.length:=by rw[tT.mv.ll];exact hlt
   have TQ:(vY s k).J.lost+4<=4611686018427387904:=by omega
   have PM:=zYk s k;rw[yLy D a]at PM;have kg:=dk PM;clear PM tT tL;generalize vY s k=S at t D TQ a kg;obtain⟨b,hb,hL⟩:=t.nQ a;have wA:=dk (WR n c g p S k b wo t D.shape a hb);have zO:(k:Int)<(s.lines.length:Int):=by omega
   have ry:(0:Int)<=(k:Int):=by omega
   have jm:=dk t;have pG:=dk P;have HB:=dk hb;have qE:=dk D;have Y:=dk a;clear t P hL hb D a;go_wp2_with fail;refine wA.out.mono ?_;rintro e w1⟨v,rfl,hv,dy⟩;have hvv:∃L K,v=.slice L (ig S k).length K:=by obtain⟨L,K,e,_⟩:=hv;exact⟨L,K,e⟩
   obtain⟨L,K,lL⟩:=hvv;subst lL;have HV:=dk hv;have uE:=dk (jm.out.quiet dy);have Dv:=dk (pG.out.trans (eu.quiet dy));have hl4:(ig S k).length<=4:=by
    rw[RJ];have h2:(fc S k).length<=(S.A k).nodes.length:=bD _ _;have:=qE.out.oV Y.out;omega
   clear hv dy wA;go_wp2_with fail;go_loopw [17] (λi0 m=>∃(i:Nat) (f:dq),i<=(ig S k).length/\i0=.int .i64 i/\eJ m n c g f (uJ S k i)/\eu w y m f/\eu w1 p m f) (λi0 _=>(ig S k).length-(intOf i0).toNat)
   case atStart=>exact⟨0,p,aT _,rfl,uE.out,Dv.out,eu.refl _ _⟩
   case round=>
    obtain⟨i,f,hil,rfl,z,M,u⟩:=hrel;obtain⟨m,wX⟩:∃x,x=wr:=⟨_,rfl⟩;subst wX;by_cases GX:i<(ig S k).length
    .obtain⟨j,hj⟩:∃j,(ig S k)[i]?=some j:=⟨_,aA GX⟩;obtain⟨va',vc',Q,e2⟩:=HV.out.keep u.st u.n;simp only[Value.slice.injEq]at Q;obtain⟨Q,-,-⟩:=Q;subst Q;obtain⟨lg,d,rfl,O,hc,-⟩:=e2 i j hj;obtain⟨C,r,E⟩:=yLw qE.out Y.out i hil;have Dh:=dk (zYl hj);have G:=(IQ hj).1;have DI:j<((uJ S k i).A k).nodes.length:=by rw[r.mv.len];exact G
     have U:k<(uJ S k i).lines.length:=by rw[r.mv.ll];exact Y.out
     generalize uJ S k i=R at z C E Dh DI U;have T:f.gd[k]?=some b:=by rw[u.l];exact HB.out
     have N:=z.quiet ((Mod.refl dt m).drewN 1);have hN:=N.nP T (aC O);rw[N.lU T (nM U) O (qM DI)]at hN;have Hq:=dk (Qt (f.lo n) d (f.lF d) (f.lG d) (eZ R k j) m.drew hN);have zP:(i:Int)<((ig S k).length:Int):=by omega
     have hi0:(0:Int)<=(i:Int):=by omega
     have o:=Nz (eZ R k j);have H:Hid (R.J.lost+((lH (eZ R k j)).2.length:Int)<=4611686018427387904):=by
      unfold Hid;omega
     have Nf:Hid (eJ m.drew n c g f R):=N;have VE:=dk (M.trans (eu.quiet ((Mod.refl dt m).drewN 1)));have HKr:=dk (u.trans (eu.quiet ((Mod.refl dt m).drewN 1)));have HBi:=dk T;have HDi:=dk O;have HKR:=dk U;have Tb:=z.Z.lt;clear z hN hj O e2 C r E N M u T U G DI o;go_upto_region 6 with fail;go_region_with (first
     |(go_at_call 59;refine Hq.out.mono ?_;rintro e w7⟨v7,rfl,vv,X,Bf,im⟩;obtain⟨XA,Wz,tP⟩:=X.slice;subst tP;obtain⟨y7,xL,W,ux,rP⟩:=Nf.out.CQ HKR.out HBi.out HDi.out (im.mono (λ_ _ e=>.inl e)) vv (.inl rfl) (.inl rfl) X Bf;(have qu:=dk (Qv n c g y7 _ _ _ w7 xL ux rP H.out));(have Nb:=dk (VE.out.trans W));(have Jq:=dk (HKr.out.trans W));clear xL W ux rP vv X Bf im Hq)
     |(go_at_call 48;refine qu.out.mono ?_;rintro e V⟨⟨x8,rfl⟩,I,vy,An⟩)
     |fail)
     all_goals
      have q:Hid (eJ V n c g I (uJ S k (i+1))/\eu w y V I/\eu w1 p V I):=⟨by rw[Dh.out];exact vy,Nb.out.trans An,Jq.out.trans An⟩;clear vy An qu hc;go_wp2_with fail;go_roundw
      case rel=>exact⟨i+1,I,by omega,by go_num,q.out.1,q.out.2.1,q.out.2.2⟩
      case measure=>simp[intOf];omega
    .obtain rfl:i=(ig S k).length:=by omega
     have q:Hid (eJ m n c g f (vY s (k+1))/\eu w y m f):=by
      have e:uJ S k (ig S k).length=(ig S k).foldl (Oa k) S:=by unfold uJ;rw[bQ]
      unfold Hid;rw[kg.out,<-e];exact⟨z,M⟩
     clear z M u;go_wp2_with fail;go_roundw
     case rel=>exact⟨k+1,f,by omega,by go_num,q.out.1,q.out.2⟩
     case measure=>simp[intOf];omega
  .obtain rfl:k=s.lines.length:=by omega
   have q:Hid (∃B,eJ wo n c g B (kq s)/\eu w y wo B):=⟨p,t,P⟩;clear t P;go_wp2_with fail;go_end0;exact⟨rfl,q.out⟩
def Wm(n c g:Nat)(w:World)(y:dq)(s:dp)(wr:World)(f:Nat):Prop:=∃(S:dp) (a:dq),zs s=fo f S/\jY S/\qP S<f/\iD S<=iD s/\eJ wr n c g a S/\eu w y wr a
theorem yKh(s:dp):s.J.lost<=iD s:=by unfold iD;omega
theorem ySe(n c g:Nat)(y:dq)(s:dp)(w:World)(h:eJ w n c g y s)(i:jY s)(Y:c<=10000)(v:iD s+750800<=4611686018427387904) :
  Calls Tryz.prog 45 #[.pointer (some ⟨g,0,none⟩)] w λe L=>e=.returned (.tuple #[])/\∃p,eJ L n c g p (zs s)/\eu w y L p:=by
 have HH:=dk h;have HC:=dk i;have V:=dk v;clear h i v;go_enter Tryz.func45,Tryz.ntmps45;go_wp2_with fail;go_loopw [] (λwr=>∃f,Wm n c g w y s wr f) (CG (Wm n c g w y s))
 case atStart=>exact⟨_,s,y,rfl,HC.out,Nat.lt_succ_self _,bO _,HH.out,eu.refl _ _⟩
 case round=>
  obtain⟨S,F,x,i,I,t,A,E⟩:=Yr hrel;obtain⟨f,Ad⟩:∃f,f=CG (Wm n c g w y s) wr:=⟨_,rfl⟩;rw[<-Ad]at x I;have Z:=dk Ad;clear hrel Ad;have o:=dk (yEu n c g F S wr A);have H:=i.few;obtain⟨B,rfl⟩:∃B,f=B+1:=⟨f-1,by omega⟩
  cases l:S.J.way with
 |nil=>
   have HE:Hid (zs s=S):=by
    unfold Hid;rw[x];unfold fo;rw[l];rfl
   rw[l]at o H;have HF:Hid (∃p,eJ wr n c g p (zs s)/\eu w y wr p):=⟨F,by rw[HE.out];exact A,E⟩;clear A E i x I t l;go_wp2_with fail;refine o.out.mono ?_;rintro e w1⟨rfl,rfl⟩;clear o;go_wp2_with fail;go_end0;exact⟨rfl,HF.out⟩
 |cons m R=>
   have u:S.J.way≠[]:=by rw[l];simp
   have N:S.J.way[0]?=some m:=by rw[l];rfl
   obtain⟨a,b,d⟩:=i.fj u;have W:=yKh S;have G:=V.out;have K:=dk (zXb n c g F S 0 m wr A i.safe i.held Y N (by omega));have r:iD (jU S 0)<=iD S:=by
    have e:=Zu i.safe i.held 0;unfold iD;omega
   have Dn:Hid (∀D C,eJ D n c g C (jU S 0)->eu w y D C->Wm n c g w y s D B):=λD C P O=>⟨jU S 0,C,by
    rw[x];show(if S.J.way.isEmpty=true then S else fo B (jU S 0))=_;rw[l];rfl,a,by omega,by omega,P,O⟩
   have HK:=dk E;rw[l]at o H;have X:(0:Int)<((m::R).length:Int):=by simp only[aW];omega
   generalize (m::R).length=q at o X H;clear A E i x I t a b d l u N r W G;go_wp2_with fail;refine o.out.mono ?_;rintro e w1⟨rfl,rfl⟩;clear o;go_wp2_with fail;refine K.out.mono ?_;rintro e U⟨rfl,T,M,z⟩;have Q:=dk (Dn.out U T M (HK.out.trans z));clear M z K;go_wp2_with fail;go_roundw
   case rel=>exact⟨B,Q.out⟩
   case measure=>
    have P:=Ys Q.out;have O:=Z.out;omega
def kO:Nat->dp->dp
|0,s=>s
|n+1,s=>qJ (kO n s)
theorem zYh(h:jY s):∀i,jY (kO i s)/\lT s (kO i s)/\iD (kO i s)<=iD s+9040000000*i
|0=>⟨h,lT.refl h.safe h.held,by simp[kO]⟩
|i+1=>by
  obtain⟨a,b,c⟩:=zYh h i;obtain⟨e,d,f,_⟩:=AJ a;refine⟨e,b.trans d,?_⟩;show iD (qJ (kO i s))<=_;omega
def OS(n c g:Nat)(w:World)(y:dq)(s:dp)(d:Value)(wr:World)(f:Nat):Prop:=∃(S:dp) (a:dq) (b:Int),d=.int .i64 b/\jY S/\eJ wr n c g a S/\eu w y wr a/\(b≠lD S/\lQ s=iO f S/\10000-lD S<f/\iD S+36160000000*f<=iD s+36160000000*10001\/b=lD S/\S=lQ s)
theorem yCj(n c g:Nat)(y:dq)(s:dp)(w:World)(h:eJ w n c g y s)(o:jY s)(hc:c<=10000)(D:iD s+400000000000000<=4611686018427387904) :
  Calls Tryz.prog 16 #[.pointer (some ⟨g,0,none⟩)] w λe q=>e=.returned (.tuple #[])/\∃m,eJ q n c g m (lQ s)/\eu w y q m:=by
 have HH:=dk h;have HC:=dk o;have oM:=dk D;clear h o D;go_enter Tryz.func16,Tryz.ntmps16;go_wp2_with fail;go_loopw [2] (λV wr=>∃f,OS n c g w y s V wr f) (λV wr=>CG (OS n c g w y s V) wr)
 case atStart=>exact⟨10001,s,y,-1,rfl,HC.out,HH.out,eu.refl _ _,.inl ⟨by omega,rfl,by omega,bO _⟩⟩
 case round=>
  obtain⟨S,M,b,hb,o,F,L,Ou⟩:=Yr hrel;obtain⟨f,Ad⟩:∃f,f=CG (OS n c g w y s u2) wr:=⟨_,rfl⟩;rw[<-Ad]at Ou;have W:=dk Ad;clear hrel Ad;subst hb;have I:Hid (∀d,Mod dt wr d->Calls Tryz.prog 44 #[.pointer (some ⟨g,0,none⟩)] d λe q=>e=.returned (.int .i64 (lD S))/\Mod dt d q):=λd x=>yQz n c g M S d (F.quiet x) o.safe;obtain⟨hne,he,Ev,hpo⟩|⟨rfl,rfl⟩:=Ou
  .obtain⟨u,rfl⟩:∃u,f=u+1:=⟨f-1,by omega⟩;have Dn:Hid (∀d l,eJ d n c g l (gL S)->eu w y d l->∃t,t<=u/\OS n c g w y s (.int .i64 (lD S)) d t):=λd l U T=>by
    obtain⟨O,q2,q3,_⟩:=RE o;have hk2:=yKk O.safe;have hk1:=q2.mv.known;have J:lQ s=if lD (gL S)=lD S then gL S else iO u (gL S):=he
    by_cases e:lD (gL S)=lD S
    .rw[aK e]at J;exact⟨0,aT _,gL S,l,_,rfl,O,U,T,.inr ⟨by rw[e],J.symm⟩⟩
    .rw[aH e]at J;exact⟨u,aD _,gL S,l,_,rfl,O,U,T,.inl ⟨by omega,J,by omega,by omega⟩⟩
   have R:=oM.out;have C:iD S+36160000000+750800<=4611686018427387904:=by omega
   have hneb:((b:Int) !=((lD S:Nat):Int))=true:=by simpa using hne
   have z:=dk (I.out wr (Mod.refl _ _));have tn:=dk F;have HK:=dk L;have KA:=dk o;have G:Hid (CG (OS n c g w y s (.int .i64 b)) wr=u+1):=W.out.symm;have sa:=dk C;clear F L o he Ev hpo hne R W C;go_upto_region 2 with(first
   |(go_at_call 44;refine z.out.mono ?_;rintro e w1⟨rfl,v⟩)
   |fail)
   have Dv:=dk (I.out w1 v);clear z I;go_upto_region 3 with(first
   |(go_at_call 44;refine Dv.out.mono ?_;rintro e w2⟨rfl,r⟩)
   |fail)
   have mh:=dk (tn.out.quiet (v.trans r));have ze:=dk (HK.out.trans (eu.quiet (v.trans r)));clear v r Dv;go_wp2_with fail;go_loopw [9] (λP X=>∃(i:Nat) (A:dq),i<=4/\P=.int .i64 i/\eJ X n c g A (kO i S)/\eu w y X A) (λP _=>4-(intOf P).toNat)
   case atStart=>exact⟨0,M,aT _,rfl,mh.out,ze.out⟩
   case round=>
    obtain⟨i,A,hil,rfl,B,K⟩:=hrel;by_cases GX:i<4
    .obtain⟨a,_,p⟩:=zYh KA.out i;obtain⟨a2,_,p2,_⟩:=a.tick;have Q:=sa.out;have oK:=yKh (kO i S);have Hq:=dk (yJq n c g A (kO i S) wr B a.safe (by omega));have Jz:Hid (∀d l,eJ d n c g l (kq (kO i S))->Calls Tryz.prog 45 #[.pointer (some ⟨g,0,none⟩)] d λe q=>e=.returned (.tuple #[])/\∃m,eJ q n c g m (kO (i+1) S)/\eu d l q m):=λd l x=>ySe n c g l _ d x a2 hc (by omega);have zP:(i:Int)<4:=by omega
     have hi0:(0:Int)<=(i:Int):=by omega
     have VE:=dk K;clear B K a a2 p p2 Q oK;go_wp2_with fail;refine Hq.out.mono ?_;rintro e w4⟨rfl,y4,Z,E⟩;have VO:=dk (Jz.out w4 y4 Z);have Du:=dk (VE.out.trans E);clear Z E Hq Jz;go_wp2_with fail;refine VO.out.mono ?_;rintro e Y⟨rfl,N,mG,qX⟩;have H:Hid (eJ Y n c g N (kO (i+1) S)/\eu w y Y N):=⟨mG,Du.out.trans qX⟩;clear mG qX VO;go_wp2_with fail;go_roundw
     case rel=>exact⟨i+1,N,by omega,by go_num,H.out.1,H.out.2⟩
     case measure=>simp[intOf];omega
    .have hi4:decide ((i:Int)<4)=false:=aN (by omega);have Ht:Hid (∃t,t<=u/\OS n c g w y s (.int .i64 (lD S)) wr t):=by
      have e:i=4:=by omega
      rw[e]at B;exact Dn.out wr A B K
     clear B K;go_wp2_with fail;obtain⟨t,hf2,UE⟩:=Ht.out;go_roundw
     case rel=>exact⟨t,UE⟩
     case measure=>
      have U:=Ys UE;have T:=G.out;omega
  .have H:Hid (∀d,Mod dt wr d->∃m,eJ d n c g m (lQ s)/\eu w y d m):=λd x=>⟨M,F.quiet x,L.trans (eu.quiet x)⟩;have z:=dk (I.out wr (Mod.refl _ _));clear F L o I W;generalize lD (lQ s)=kn at z;have hbb:((kn:Int) !=(kn:Int))=false:=by simp
   go_wp2_with fail;refine z.out.mono ?_;rintro e w1⟨rfl,v⟩;have Yd:=dk (H.out w1 v);clear v z H;go_wp2_with fail;go_end0;exact⟨rfl,Yd.out⟩
theorem yRc{B N:Nat}{q:jB}{s:gU}{w:World}:Nq 121 #[] (λ_=>true) B N q s w:=by
 refine⟨zu Tryz.func121 (by kernel_rfl) rfl,λk wr e b g=>?_⟩;show Calls Tryz.prog 121 #[.agg #[q.hd k true,q.hd k false]] wr _;obtain⟨i,a,c⟩:=fU (b.rows k true e id);obtain⟨f,l,d⟩:=fU (b.rows k false e id);rw[c,d];have m:Hid (Mod dt wr (wr.alloc (.cells #[.slice i (s k).held.length a,.slice f (s k).waits.length l] 168))):=(Mod.refl _ wr).alloc _;clear b g c d;go_enter Tryz.func121,Tryz.ntmps121;go_wp2_with fail;go_ret;exact⟨rfl,m.out⟩
theorem yVp(B N:Nat)(q:jB)(s:gU)(w:World)(h:qD w B N q s)(r:q.n<=1000000) :
  Calls Tryz.prog 74 #[.pointer (some ⟨q.b,q.pre.length,none⟩)] w (Wo w s (λ_=>true) q.n):=by
 have o:=dk (yEf 121 #[] (λ_=>true) B N q s w h yRc r);clear h;go_enter Tryz.func74,Tryz.ntmps74;go_wp2_with fail;refine o.out.mono ?_;rintro e t⟨v,d,rfl,c,g,f,l,i⟩;obtain⟨a,m,rfl,x,u⟩:=gD.slice c;have p:=dk c;clear c;go_wp2_with fail;go_ret;exact⟨_,d,rfl,p.out,g,f,l,i⟩
def II(s:dp)(id:Int)(key:ByteArray):Bool:=decide (id∈(s.keys key).waits.map (·.I))
theorem yLn(n c g o m:Nat)(y:dq)(s:dp)(id:Int)(key:ByteArray)(w:World)(h:eJ w n c g y s)(q:gP key)(F:w.cell? ⟨o,0,none⟩=some (.pointer (some ⟨g,0,none⟩)))(r:w.cell? ⟨m,0,none⟩=some (.int .i64 id)) :
  Calls Tryz.prog 75 (#[.string key]++#[.pointer (some ⟨o,0,none⟩),.pointer (some ⟨m,0,none⟩)]) w λe b=>e=.returned (.bool (II s id key))/\Mod dt w b:=by
 have p:=h.quiet ((Mod.refl dt w).drewN 1);have i:Calls Tryz.prog 77 #[.pointer (some ⟨g,5,none⟩),.string key] w.drew λe b=>∃u,e=.returned u/\ju b w.drew.heap.size u ((s.keys key).waits.map (·.I))/\Mod dt w.drew b:=yOu n 120 (y.tb g s.J.lost) s.keys key w.drew p.AP q (by omega);have a:Hid (II s id key=decide (id∈(s.keys key).waits.map λ(d:dw)=>d.I)):=rfl;generalize ((s.keys key).waits.map λ(d:dw)=>d.I)=tl at i a;have t:=dk i;have E:=h.Z.lt;clear h p i;go_enter Tryz.func75,Tryz.ntmps75;go_upto_region 1 with fail;go_region_with (first
 |(go_at_call 77;(refine t.out.mono ?_;rintro e w1⟨u,rfl,f,l⟩;(have D:=(((Mod.refl dt w).drewN 1).trans l).cell r (λe=>e));obtain⟨C,B,z⟩:=fU f;(have x:=dk (zRs u tl id w1 (kF.iX f)));(have v:=dk (((Mod.refl dt w).drewN 1).trans l));subst z;clear f l))
 |(go_at_call 76;refine x.out.mono ?_;rintro e A⟨rfl,rfl⟩)
 |fail)
 all_goals
  go_wp2_with fail;go_ret;exact⟨by rw[a.out];rfl,v.out⟩
open Classical in
theorem yTu{id:Int}{b:List ByteArray}(f:Oc s.keys (λ_=>true) b)(d:∀k:ByteArray,20<k.size->(s.keys k).held=[]/\(s.keys k).waits=[]):b.any (II s id)=BM s id:=by
 have e:∀k,(s.keys k).waits.any (λc=>decide (c.I=id))=II s id k:=λk=>by
  unfold II;rw[cR,cP,decide_eq_true_iff,aj];simp only[aw]
 unfold BM;rw[cR,cP,decide_eq_true_iff];constructor
 .rintro⟨k,_,a⟩;exact⟨k,by rw[e];exact a⟩
 .rintro⟨k,a⟩;rw[e]at a;refine⟨k,(f.2 k).2 ⟨?_,?_,rfl⟩,a⟩
  .unfold gP maxLen;apply aS;intro i;have:=(d k (by omega)).2;unfold II at a;rw[this]at a;simp at a
  .intro g;unfold II at a;rw[g.2]at a;simp at a
theorem yMy(n c g:Nat)(y:dq)(s:dp)(id:Int)(w:World)(h:eJ w n c g y s)(hc:c<=10000)(D:∀k:ByteArray,20<k.size->(s.keys k).held=[]/\(s.keys k).waits=[]) :
  Calls Tryz.prog 41 #[.pointer (some ⟨g,0,none⟩),.int .i64 id] w λe I=>e=.returned (.bool (BM s id))/\Mod dt w I:=by
 obtain⟨w1,hw1⟩:∃x,x=(w.alloc (.cells #[.pointer (some ⟨g,0,none⟩)] 35)).alloc (.cells #[.int .i64 id] 3):=⟨_,rfl⟩;have z:Mod dt w w1:=by rw[hw1];exact((Mod.refl _ w).alloc _).alloc _
 have l:dx w1 w.heap.size [.pointer (some ⟨g,0,none⟩)] 35:=by rw[hw1];exact(dx.new w _ _).mod ((Mod.refl dt _).alloc _) (λe=>e)
 have m:dx w1 (w.heap.size+1) [.int .i64 id] 3:=by
  rw[hw1];have:=dx.new (w.alloc (.cells #[.pointer (some ⟨g,0,none⟩)] 35)) [.int .i64 id] 3;simpa using this
 have p:=h.quiet z;have U:=l.cell 0 rfl;have hg:=p.Z.lt;have hq:=p.qn.2.2;have o:Calls Tryz.prog 74 #[.pointer (some ⟨g,5,none⟩)] w1 (Wo w1 s.keys (λ_=>true) y.q.n):=yVp n 120 (y.tb g s.J.lost) s.keys w1 p.AP (by show y.q.n<=1000000;omega);have H:=dk o;have sg:∀E first r w,(Instr.makeFunc E first r).run Tryz.prog w=.ok (.func E first r) w:=λ_ _ _ _=>rfl
 have T:=dk p;have L:=dk l;have N:=dk m;have R:=dk z;have S:=dk D;clear h p l m z o D;go_enter Tryz.func41,Tryz.ntmps41;go_upto_region 1 with fail;rw[<-hw1];clear hw1;go_wp2_with fail;refine H.out.mono ?_;rintro e B⟨v,C,rfl,f,b,K,u,a⟩;have G:nI 75 #[.pointer (some ⟨w.heap.size,0,none⟩),.pointer (some ⟨w.heap.size+1,0,none⟩)] (λ(d:ByteArray)=>.string d) C (II s id) (λwr=>eJ wr n c g y s/\wr.cell? ⟨w.heap.size,0,none⟩=some (.pointer (some ⟨g,0,none⟩))/\wr.cell? ⟨w.heap.size+1,0,none⟩=some (.int .i64 id)):=
  ⟨zu Tryz.func75 (by kernel_rfl) rfl,λW V i t=>⟨i.1.quiet t,t.cell i.2.1 (λe=>e),t.cell i.2.2 (λe=>e)⟩,λd P wr i=>yLn n c g _ _ y s id d wr i.1 ((b.2 d).1 P).1 i.2.1 i.2.2⟩
 have A:=dk (zXw 75 B.heap.size _ _ v C B _ f G ⟨T.out.quiet a,a.cell (L.out.cell 0 rfl) (λe=>e),a.cell (N.out.cell 0 rfl) (λe=>e)⟩ (by omega));rw[yTu b S.out]at A;obtain⟨va,Y,M,-,-⟩:=gD.slice f;subst M;have Q:=dk (R.out.trans a);clear f b K u a G H;go_wp2_with fail;refine A.out.mono ?_;rintro e X⟨rfl,F⟩;have O:=dk (Q.out.trans F);clear F A;go_wp2_with fail;go_ret;exact⟨rfl,O.out⟩
theorem yIs(n c g:Nat)(y:dq)(s:dp)(id:Int)(w:World)(h:eJ w n c g y s)(A:Safe s)(K:Held s)(hc:c<=10000)(hlo:s.J.lost+750600<=4611686018427387904) :
  Calls Tryz.prog 15 #[.pointer (some ⟨g,0,none⟩),.int .i64 id] w (jG w n c g y (gK s id).1 (gK s id).2):=by
 have v:=dk (Yn n c g y s id w h A.tl);by_cases m:oC s id=0
 .rw[m,pM]at v;obtain⟨i,rfl,d,l,r⟩:=pB m;have C:=dk (yMy n c g y s i w h hc K.small)
  cases p:BM s i with
 |true=>
   rw[p]at C;have O:Hid (gK s i=(s,11)):=by unfold Hid gK;rw[aH (λq=>q m),p];rfl
   have G:=dk h;clear h m p;go_enter Tryz.func15,Tryz.ntmps15;go_wp2_with (first
   |(go_at_call 35;refine v.out.mono ?_;rintro e w1⟨rfl,rfl⟩)
   |(go_at_call 41;refine C.out.mono ?_;rintro e o⟨rfl,a⟩;have B:Hid (jG w1 n c g y (gK s i).1 (gK s i).2 (.returned (.iface 90 (.int .i64 11))) o):=(by unfold Hid;rw[O.out];exact⟨by rw[nL (by omega)],y,G.out.quiet a,eu.quiet a⟩);clear a)
   |fail)
   go_ret;exact B.out
 |false=>
   rw[p]at C;have O:Hid (gK s i=(nK (kR (du s i {s.I i with state:=2})),0)):=by unfold Hid gK;rw[aH (λq=>q m),p,aU];rfl
   have F:Safe (du s i {s.I i with state:=2}):=A.write (ws:=(s.I i).writes) d l r (A.I i d l).few (.inr rfl);have R:Held (du s i {s.I i with state:=2}):=K.ending d l rfl r (IY p);obtain⟨H,S,-⟩:=uO F;have Gh:Held (kR (du s i {s.I i with state:=2})):=(S.tD H R).held;have L:=Qc F;have htl:=A.tl;have Ue:Hid (∀u,Mod dt w u->∃b,y.kP[i-1]?=some b/\vG u n y b (s.I i)/\Calls Tryz.prog 34 #[.pointer (some ⟨g,0,none⟩),.int .i64 i] u λe w'=>e=.returned (.pointer (some ⟨b,0,none⟩))/\w'=u):=λu Y=>by
    obtain⟨b,z,f⟩:=(h.quiet Y).AN d l;exact⟨b,z,f,BQ n c g y s i b u (h.quiet Y) d (by omega) z⟩
   have G:=dk h;have M:=dk F;have qE:=dk H;have QF:=dk Gh;have Hq:=dk (vf (s:=s) d l);have P:(du s i {s.I i with state:=2}).J.lost=s.J.lost:=rfl;clear h m p F R H S Gh A K r;go_enter Tryz.func15,Tryz.ntmps15;go_upto_region 6 with(first
   |(go_at_call 35;refine v.out.mono ?_;rintro e w1⟨rfl,rfl⟩)
   |(go_at_call 41;refine C.out.mono ?_;rintro e o⟨rfl,a⟩)
   |fail)
   obtain⟨b,z,f,Ex⟩:=Ue.out o a;have nW:=dk Ex;have p0:=f.Z.cell 0 rfl;have f0:=f.Z.frozen 0;have zb:=f.Z.lt;obtain⟨w3,hw3⟩:∃x,x=o.setCell ⟨b,0,none⟩ (.int .i64 2):=⟨_,rfl⟩;have E:Mod (eQ b) o w3:=by rw[hw3];exact Mod.eE b 0 _
   have V:dx w3 b [.int .i64 2,y.jy b,y.kT b,.int .i64 (s.I i).time] 86:=by rw[hw3];exact f.Z.set 0 _
   have X:=pf f.ats f.Z (by decide);have Bc:=pf f.wr f.Z (by decide);obtain⟨D,Tu⟩:=(G.out.quiet a).rI z Hq.out (t':={s.I i with state:=2}) (av:=y.jy b) (wv:=y.kT b) (E.mono (λx _ e=>.inl e)) V (gO f.ats E (λk _ _ e q=>X (by rw[e];exact an some q))) (gO f.wr E (λk _ _ e q=>Bc (by rw[e];exact an some q))) (.inl (.inl rfl)) (.inl (.inl rfl));rw[Ny]at D;have t:eu w1 y w3 (y.kK o b (y.jy b) (y.kT b)):=(eu.quiet a).trans ⟨Tu,rfl,rfl,rfl,rfl,rfl⟩;generalize y.kK o b (y.jy b) (y.kT b)=y3 at D t;have Q:=dk (yAu n c g y3 _ w3 D M.out (by rw[P];omega));have vN:=dk t;have N:Hid ((kR (du s i {s.I i with state:=2})).J.lost<=s.J.lost+300):=by rw[P]at L;exact L.2
   clear z f Ex a E V X Bc D Tu t G Ue v C L P;go_upto_region 7 with(first
   |(go_at_call 34;refine nW.out.mono ?_;rintro e w4⟨rfl,rfl⟩)
   |fail)
   rw[<-hw3];clear hw3 p0 f0 zb;go_wp2_with fail;refine Q.out.mono ?_;rintro e w5⟨rfl,y5,W,U⟩;have T:=dk (Zc n c g y5 _ w5 W qE.out QF.out hc (by have:=N.out;omega));have Jt:=dk (vN.out.trans U);clear W U Q;go_wp2_with fail;refine T.out.mono ?_;rintro e w6⟨rfl,y6,Xk,Jf⟩;have B:Hid (jG w1 n c g y (gK s i).1 (gK s i).2 (.returned .nilIface) w6):=by unfold Hid;rw[O.out];exact⟨by rw[pM],y6,Xk,Jt.out.trans Jf⟩
   clear Xk Jf T;go_wp2_with fail;go_ret;exact B.out
 .have B:Hid (jG w n c g y (gK s id).1 (gK s id).2 (.returned (.iface 90 (.int .i64 (oC s id)))) w):=by
   unfold Hid gK;rw[aK m];exact⟨by rw[nL m],y,h,eu.refl _ _⟩
  rw[nL m]at v;clear h m;go_enter Tryz.func15,Tryz.ntmps15;go_wp2_with (first
  |(go_at_call 35;refine v.out.mono ?_;rintro e w1⟨rfl,rfl⟩)
  |fail)
  go_ret;exact B.out
def rn(s:dp)(k m:Nat):dp:=(List.range m).foldl (λh i=>if kz h k i then gk h (i+1)else h) s
theorem zZs(s:dp)(k m:Nat):rn s k (m+1)=if kz (rn s k m) k m then gk (rn s k m) (m+1)else rn s k m:=by unfold rn;rw[aZ,ae];rfl
theorem yNd(h:Safe s)(w:Held s)(v:k<s.lines.length):∀m,m<=s.U.length->gH s (rn s k m)/\gS s (rn s k m):=by
 intro m
 induction m with
|zero=>exact λ_=>⟨gH.refl h w,gS.refl s⟩
|succ m t=>
  intro z;rw[zZs];obtain⟨a,b⟩:=t (by omega);generalize rn s k m=S at a b;split
  .rename_i g;have c:m+1<=S.U.length:=by rw[b.len];omega
   have A:k<S.lines.length:=by rw[b.l];exact v
   unfold kz at g;simp only[bX,cA,aw]at g;obtain⟨p,f⟩:=g;have d:=a.safe.I (m+1) (by omega) c;have r:k<dz S:=by
    have:k≠dz S:=λe=>p (by rw[e];exact d.dec);unfold dz at this⊢;omega
   have n:Held (gk S (m+1)):=a.held.abort (m+1) (by omega) (λx d=>by simp at d);obtain q|⟨q,o⟩:=f
   .exact⟨a.trans ⟨a.safe.abort (by omega) c q,n,lx.abort (by omega) c (by omega),by rw[Ec]⟩,b.trans (gS.abort S _)⟩
   .have u:ve (S.I (m+1))=false:=by
     apply aS;intro i;simp only[Bool.not_eq_false]at i;have:=KP.1 i k;have:=d.pE k;have y:(S.I (m+1)).ats.getD k 0=2:=by omega
     have:=yHc a.safe (by omega) c r y;have e:((m+1:Nat):Int)=(m:Int)+1:=by omega
     rw[e,o]at this;cases this
    exact⟨a.trans ⟨a.safe.yW (by omega) c q u,n,lx.abort (by omega) c (by omega),by rw[Ec]⟩,b.trans (gS.abort S _)⟩
  .exact⟨a,b⟩
theorem yIl(n c g:Nat)(y:dq)(s:dp)(k:Nat)(w:World)(h:eJ w n c g y s)(Q:Safe s)(qY:Held s)(hk:k<s.lines.length)(hc:c<=10000) :
  Calls Tryz.prog 62 #[.pointer (some ⟨g,0,none⟩),.int .i64 k] w λe w'=>e=.returned (.tuple #[])/\∃O,eJ w' n c g O (qg s k)/\eu w y w' O:=by
 obtain⟨c0,-⟩:=kX h.Z;obtain⟨b,hb,hL⟩:=h.nQ hk;obtain⟨lg,fQ,hlv,cl⟩:=yv h.gN hb;have hlen:=h.ir;rw[hlv,hlen]at c0;obtain⟨d,hd,x,hx,Xf⟩:=hL.zF (j:=0) (by have:=bR.2 (Q.A k hk).ne;omega);have u:x=eU s k:=by
  have:=Q.head hk;rw[hx]at this;exact bA this
 subst u;have b0:=hL.Z.cell 0 rfl;obtain⟨ng,iq,qS,cn⟩:=yv hL.row hd;rw[qS]at b0;have tk:=dk (Qf _ _ _ _ _ _ Xf);have zO:(k:Int)<(s.lines.length:Int):=by omega
 have ry:(0:Int)<=(k:Int):=by omega
 have N:=(aB.1 hd).1;have uA:(0:Int)<((y.fu b).length:Int):=by omega
 have fy:(eU s k).M.length<=305:=(Q.M k hk).few Q.tl;have htl:=Q.tl;have hll:=Q.ll;have HH:=dk h;have HS:=dk Q;have Nf:=dk qY;clear h Q qY hb hL hlv hd hx Xf qS;go_enter Tryz.func62,Tryz.ntmps62;go_upto_region 1 with(first
 |(go_at_call 40;refine tk.out.mono ?_;rintro e F⟨v,rfl,L,sQ,Y⟩;obtain⟨va,vc,lL⟩:=L.slice;subst lL)
 |fail)
 have Af:OT F y (.slice va (eU s k).M.length vc) (eU s k).M:=by
  refine⟨L.nO,.inr λz hz=>?_⟩;have hz2:=sQ z hz;obtain⟨us,_,h3,_⟩:=L;refine⟨?_,(fs h3 hz).2.1⟩;exact aS λe=>by have:=(HH.out.own.lt z e).2;omega
 have sC:=dk Af;have mh:=dk (HH.out.quiet Y);have ze:Hid (eu w y F y):=eu.quiet Y;obtain⟨-,-,-,-,-,-,c6⟩:=kX mh.out.Z;obtain⟨ta,gz,pj⟩:=fU mh.out.iC;rw[pj,mh.out.lJ]at c6;have HTV:Hid (y.tv=.slice ta s.U.length gz):=by unfold Hid;rw[pj,mh.out.lJ]
 clear L sQ Y Af tk pj c0 b0 cl cn;go_wp2_with fail;go_loopw [26] (λi0 wr=>∃(i:Nat) (m:dq),i<=s.U.length/\i0=.int .i64 i/\eJ wr n c g m (rn s k i)/\eu F y wr m) (λi0 _=>s.U.length-(intOf i0).toNat)
 case atStart=>exact⟨0,y,aT _,rfl,mh.out,eu.refl _ _⟩
 case round=>
  obtain⟨i,m,hil,rfl,R,hK⟩:=hrel;obtain⟨wo,hwo⟩:∃x,x=wr:=⟨_,rfl⟩;subst hwo;by_cases hlt:i<s.U.length
  .obtain⟨tA,tS⟩:=yNd HS.out Nf.out hk i hil;have kg:=dk (zZs s k i);have mY:(rn s k i).U.length=s.U.length:=tS.len;have N:eU (rn s k i) k=eU s k:=by unfold eU dp.A;rw[tS.l]
   have GW:(rn s k i).lines.length=s.lines.length:=by rw[tS.l]
   generalize rn s k i=S at R tA kg mY N GW;have hi1:1<=i+1:=by omega
   have hi2:i+1<=S.U.length:=by omega
   obtain⟨b2,hb2,hT⟩:=R.AN hi1 hi2;rw[bL]at hb2;obtain⟨tg,tcap',Ch,ct⟩:=yv R.iC hb2;have Ek:ta=some ⟨tg,0,none⟩:=by
    have e:=hK.tv;rw[Ch,HTV.out]at e;simp only[Value.slice.injEq]at e;exact e.1.symm
   subst Ek;have rS:=(tA.safe.I (i+1) hi1 hi2).len;obtain⟨ab,sY,pF,MK⟩:=yLe hT (k:=k) (by rw[rS,GW];exact hk);have t0:=hT.Z.cell 0 rfl;have t1:=hT.Z.cell 1 rfl;rw[pF,rS,GW]at t1;obtain⟨x,hx⟩:∃x,x=(S.I (i+1)).ats.getD k 0:=⟨_,rfl⟩;rw[<-hx]at MK;have E:=dk (ZN _ _ 2 ((i:Int)+1) wo (sC.out.keep hK.st).1 (by omega));have eii:((i+1:Nat):Int)=(i:Int)+1:=by omega
   have J:Hid (∀a,Mod dt wo a->Calls Tryz.prog 36 #[.pointer (some ⟨g,0,none⟩),.int .i64 ((i:Int)+1)] a λe w'=>e=.returned (.tuple #[])/\∃O,eJ w' n c g O (gk S (i+1))/\eu a m w' O):=λa o=>by
    have:=Yi n c g m S (i+1) a (R.quiet o) hi1 hi2 (by omega) hc (by rw[rS];omega);rw[eii]at this;exact this
   have B:Hid (∀bl,kz S k i=bl->rn s k (i+1)=if bl then gk S (i+1)else S):=λbl e=>by rw[kg.out,e]
   have r:Hid (kz S k i=(decide (x≠0)&&(decide ((S.I (i+1)).state=1)||(decide ((S.I (i+1)).state=2)&&(mC (eU s k).M 2 ((i:Int)+1)).isNone)))):=by unfold Hid kz;simp only;rw[N,hx]
   have zP:(i:Int)<(s.U.length:Int):=by omega
   have hi0:(0:Int)<=(i:Int):=by omega
   have D:=dk R;have C:=dk hK;clear R hK hT hb2 Ch pF rS tA tS kg N GW hx;generalize (S.I (i+1)).state=st at t0 r;by_cases u:x=0
   .have LV:(x !=0)=false:=by simpa using u
    by_cases K:st=1
    .have X:(st==1)=true:=by simpa using K
     have f:Hid (∀a,Mod dt wo a->eJ a n c g m (rn s k (i+1))/\eu F y a m):=λa o=>⟨by rw[B.out false (by rw[r.out];simp[K,u])];exact D.out.quiet o,C.out.trans (eu.quiet o)⟩;clear B r D C J;have t:=dk (f.out wo (Mod.refl _ _));clear f;go_wp2_with fail;go_roundw
     case rel=>exact⟨i+1,m,by omega,by go_num,t.out.1,t.out.2⟩
     case measure=>simp[intOf];omega
    .have X:(st==1)=false:=by simpa using K
     by_cases G:st=2
     .have W:(st==2)=true:=by simpa using G
      cases p:mC (eU s k).M 2 ((i:Int)+1)with
     |none=>
       rw[p]at E;have f:Hid (∀a,Mod dt wo a->eJ a n c g m (rn s k (i+1))/\eu F y a m):=λa o=>⟨by rw[B.out false (by rw[r.out];simp[G,u,p])];exact D.out.quiet o,C.out.trans (eu.quiet o)⟩;clear B r D C J;go_upto_region 5 with(first
       |(go_at_call 80;refine E.out.mono ?_;rintro e V⟨rfl,q⟩;simp only[jE])
       |fail)
       have q1:=q.cell t1 (λe=>e);have q2:=q.cell MK (λe=>e);have P:=dk q;clear q E;have t:=dk (f.out V P.out);clear f;go_wp2_with fail;go_roundw
       case rel=>exact⟨i+1,m,by omega,by go_num,t.out.1,t.out.2⟩
       case measure=>simp[intOf];omega
     |some j=>
       rw[p]at E;have PA:decide ((j:Int)<0)=false:=aN (by omega);have f:Hid (∀a,Mod dt wo a->eJ a n c g m (rn s k (i+1))/\eu F y a m):=λa o=>⟨by rw[B.out false (by rw[r.out];simp[G,p])];exact D.out.quiet o,C.out.trans (eu.quiet o)⟩;clear B r D C J;go_upto_region 5 with(first
       |(go_at_call 80;refine E.out.mono ?_;rintro e V⟨rfl,q⟩;simp only[jE])
       |fail)
       have q1:=q.cell t1 (λe=>e);have q2:=q.cell MK (λe=>e);have P:=dk q;clear q E;have t:=dk (f.out V P.out);clear f;go_wp2_with fail;go_roundw
       case rel=>exact⟨i+1,m,by omega,by go_num,t.out.1,t.out.2⟩
       case measure=>simp[intOf];omega
     .have W:(st==2)=false:=by simpa using G
      have f:Hid (∀a,Mod dt wo a->eJ a n c g m (rn s k (i+1))/\eu F y a m):=λa o=>⟨by rw[B.out false (by rw[r.out];simp[K,G])];exact D.out.quiet o,C.out.trans (eu.quiet o)⟩;clear B r D C J;have t:=dk (f.out wo (Mod.refl _ _));clear f;go_wp2_with fail;go_roundw
      case rel=>exact⟨i+1,m,by omega,by go_num,t.out.1,t.out.2⟩
      case measure=>simp[intOf];omega
   .have LV:(x !=0)=true:=by simpa using u
    by_cases K:st=1
    .have X:(st==1)=true:=by simpa using K
     have HE:=dk (B.out true (by rw[r.out];simp[K,u]));clear B r;have EB:=dk (J.out wo (Mod.refl _ _));have vN:=dk (C.out.trans (eu.quiet (Mod.refl _ _)));clear J D C;go_wp2_with fail;refine EB.out.mono ?_;rintro e w4⟨rfl,T,qq,H⟩;have f:Hid (eJ w4 n c g T (rn s k (i+1))/\eu F y w4 T):=⟨by rw[HE.out];exact qq,vN.out.trans H⟩;clear qq H EB;go_wp2_with fail;go_roundw
     case rel=>exact⟨i+1,T,by omega,by go_num,f.out.1,f.out.2⟩
     case measure=>simp[intOf];omega
    .have X:(st==1)=false:=by simpa using K
     by_cases G:st=2
     .have W:(st==2)=true:=by simpa using G
      cases p:mC (eU s k).M 2 ((i:Int)+1)with
     |none=>
       rw[p]at E;have HE:=dk (B.out true (by rw[r.out];simp[G,u,p]));clear B r;go_upto_region 5 with(first
       |(go_at_call 80;refine E.out.mono ?_;rintro e V⟨rfl,q⟩;simp only[jE])
       |fail)
       have q1:=q.cell t1 (λe=>e);have q2:=q.cell MK (λe=>e);have P:=dk q;clear q E;have EB:=dk (J.out V P.out);have vN:=dk (C.out.trans (eu.quiet P.out));clear J D C;go_wp2_with fail;refine EB.out.mono ?_;rintro e w4⟨rfl,T,qq,H⟩;have f:Hid (eJ w4 n c g T (rn s k (i+1))/\eu F y w4 T):=⟨by rw[HE.out];exact qq,vN.out.trans H⟩;clear qq H EB;go_wp2_with fail;go_roundw
       case rel=>exact⟨i+1,T,by omega,by go_num,f.out.1,f.out.2⟩
       case measure=>simp[intOf];omega
     |some j=>
       rw[p]at E;have PA:decide ((j:Int)<0)=false:=aN (by omega);have f:Hid (∀a,Mod dt wo a->eJ a n c g m (rn s k (i+1))/\eu F y a m):=λa o=>⟨by rw[B.out false (by rw[r.out];simp[G,p])];exact D.out.quiet o,C.out.trans (eu.quiet o)⟩;clear B r D C J;go_upto_region 5 with(first
       |(go_at_call 80;refine E.out.mono ?_;rintro e V⟨rfl,q⟩;simp only[jE])
       |fail)
       have q1:=q.cell t1 (λe=>e);have q2:=q.cell MK (λe=>e);have P:=dk q;clear q E;have t:=dk (f.out V P.out);clear f;go_wp2_with fail;go_roundw
       case rel=>exact⟨i+1,m,by omega,by go_num,t.out.1,t.out.2⟩
       case measure=>simp[intOf];omega
     .have W:(st==2)=false:=by simpa using G
      have f:Hid (∀a,Mod dt wo a->eJ a n c g m (rn s k (i+1))/\eu F y a m):=λa o=>⟨by rw[B.out false (by rw[r.out];simp[K,G])];exact D.out.quiet o,C.out.trans (eu.quiet o)⟩;clear B r D C J;have t:=dk (f.out wo (Mod.refl _ _));clear f;go_wp2_with fail;go_roundw
      case rel=>exact⟨i+1,m,by omega,by go_num,t.out.1,t.out.2⟩
      case measure=>simp[intOf];omega
  .obtain rfl:i=s.U.length:=by omega
   have f:Hid (∃O,eJ wo n c g O (qg s k)/\eu w y wo O):=⟨m,R,ze.out.trans hK⟩;clear R hK;go_wp2_with fail;go_end0;exact⟨rfl,f.out⟩
