import Derived.Test.YtmaiggbnceejiaaGreatDoorL21
set_option linter.unusedVariables false
set_option maxRecDepth 100000
set_option maxHeartbeats 16000000
namespace Go.Proofs.YtmaiggbnceejiaaGreatDoor
variable {s s':dp}{wh x i:Int}{k j id:Nat}{m:eG}{l:jS}{n n':ec}{c:eH}{t:jz}{X Y:List Int}
structure sq(n n':ec):Prop where
 id:n'.id=n.id
 ep:n'.dv=n.dv
 cf:n'.nodes=n.nodes
structure Od(n:ec)(m:eG):Prop where
 eP:m.eP=n.id
 ep:m.dv=n.dv
 kd:1<=m.kind/\m.kind<=4
 dst:m.C3∈n.nodes
 fw:m.kind=3->∃N:Nat,m.n=N/\n.M[N]?=some m.z
theorem Qb{s:ec}{k:Int}(b:1<=k/\k<=4)(d:k≠3)(h:m∈lY s wh (qh k x)):Od s m/\m.kind=k:=by
 unfold lY at h
 cases a:iU s wh with
|none=>rw[a]at h;simp at h
|some t=>
  rw[a]at h;simp only[bU]at h;subst h;exact⟨⟨rfl,rfl,b,Vh a,λe=>absurd e d⟩,rfl⟩
theorem IU(n:ec):sq n (lH n).1/\(lH n).1.M=n.M/\∀m∈(lH n).2,Od (lH n).1 m/\(m.kind=1\/m.kind=4):=by
 unfold lH;split
 .exact⟨⟨rfl,rfl,rfl⟩,rfl,λm a=>(Qb (k:=4) (by omega) (by omega) a).imp id .inr⟩
 .exact⟨⟨rfl,rfl,rfl⟩,rfl,λm a=>(Qb (k:=1) (by omega) (by omega) a).imp id .inl⟩
theorem FV(n:ec)(c:eH):sq n (nc n c).1/\(nc n c).1.M=n.M++[c]/\∀m∈(nc n c).2,Od (nc n c).1 m:=by
 unfold nc;split
 .obtain⟨d,f,e⟩:=IU (oU n (n.M++[c]));exact⟨⟨d.id,d.ep,d.cf⟩,f,λm a=>(e m a).1⟩
 .refine⟨⟨rfl,rfl,rfl⟩,rfl,λm a=>?_⟩
  cases b:iU n 1 with
 |none=>rw[b]at a;simp at a
 |some t=>
   rw[b]at a;simp only[bU]at a;subst a;exact⟨rfl,rfl,by simp[oq],Vh b,λ_=>⟨n.M.length,rfl,by simp[oU,oq]⟩⟩
theorem yYj{s:ec}{f:Int}(h:m∈tr s f):Od s m:=by
 unfold tr at h
 cases a:iU s 1 with
|none=>rw[a]at h;simp at h
|some t=>
  rw[a]at h;simp only[lq,aj,bV]at h;obtain⟨j,b,rfl⟩:=h;refine⟨rfl,rfl,by simp[oq],Vh a,λ_=>⟨f.toNat+j,rfl,?_⟩⟩;have:f.toNat+j<s.M.length:=by omega
  simp[oq,List.getD_eq_getElem?_getD,List.getElem?_eq_getElem this]
theorem RD(n:ec)(m:eG):sq n (gV n m).1/\((gV n m).1.M=n.M\/(m.kind=3/\nR n (-1) m.eP=true/\m.n=n.M.length/\n.M.length<500/\(gV n m).1.M=n.M++[m.z]))/\∀b∈(gV n m).2,Od (gV n m).1 b:=by
 unfold gV;split
 .split
  .exact⟨⟨rfl,rfl,rfl⟩,.inl rfl,λb a=>(Qb (k:=2) (by omega) (by omega) a).1⟩
  .split
   .exact⟨⟨rfl,rfl,rfl⟩,.inl rfl,λb a=>yYj a⟩
   .split
    .rename_i h;obtain⟨f,e,d⟩:=FV n m.z;exact⟨f,.inr ⟨h.1,h.2.1,h.2.2.1,h.2.2.2,e⟩,d⟩
    .split
     .exact⟨⟨rfl,rfl,rfl⟩,.inl rfl,λb a=>(Qb (k:=4) (by omega) (by omega) a).1⟩
     .exact⟨⟨rfl,rfl,rfl⟩,.inl rfl,λb a=>by simp at a⟩
 .exact⟨⟨rfl,rfl,rfl⟩,.inl rfl,λb a=>by simp at a⟩
theorem yDk{s:fS}{a:eG}(h:m∈(lC s a).way):m∈s.way\/m=a:=by
 unfold lC at h;split at h
 .exact .inl h
 .simpa using h
theorem OF:∀{ms:List eG}{s:fS}{m:eG},m∈(kp s ms).way->m∈s.way\/m∈ms
|[],s,m,h=>.inl h
|a::ms,s,m,h=>by
  rcases OF (ms:=ms) (s:=lC s a) h with q|q
  .rcases yDk q with q|q
   .exact .inl q
   .exact .inr (by simp[q])
  .exact .inr (by simp[q])
theorem sy{α:Type}{R:α->α->Prop}{l:List α}:l.Pairwise R↔∀(i j:Nat) a b,i<j->l[i]?=some a->l[j]?=some b->R a b:=by
 rw[aq];constructor
 .intro h i j a b d o g;obtain⟨u,r⟩:=aB.1 o;obtain⟨q,p⟩:=aB.1 g;have:=h i j u q d
  rwa [r,p]at this
 .intro h i j f e d;exact h i j _ _ d (aA f) (aA e)
structure qz(k:Nat)(l:jS):Prop where
 ne:l.nodes≠[]
 ord:l.nodes.Pairwise λa b=>a.id<b.id/\b.M <+: a.M
 pE:∀n∈l.nodes,10*(k:Int)<=n.id/\n.id<10*(k:Int)+4
 cfg:∀n∈l.nodes,n.nodes=l.nodes.map (·.id)
 ep:∃E:Int,1<=E/\E+l.nodes.length<=6/\∀n∈l.nodes,n.dv=E
 heard:∀n∈l.nodes,l.heard<=n.M.length
 few:∀n∈l.nodes,n.M.length<=500
theorem yNh{l:List ec}(h:l.Pairwise λa b=>a.id<b.id)(e:l[j]?=some n):sx n.id (l.map (·.id))=some j:=by
 refine Yl _ _ _ (λi y f d=>?_) (by simp[e]);simp only[ah,cN]at d;obtain⟨a,g,rfl⟩:=d;have:=sy.1 h i j a n f g e;omega
theorem qz.place(h:qz k l)(a:l.nodes[j]?=some n):tu n=j:=by
 unfold tu;rw[h.cfg n (aC a),yNh (h.ord.imp λq=>q.1) a];rfl
theorem qz.pU(h:qz k l)(a:n∈l.nodes):pU n=true:=by
 obtain⟨j,b⟩:=aP a;unfold Go.Proofs.YtmaiggbnceejiaaGreatDoor.pU;rw[h.place b];simp
theorem qz.XC(h:qz k l)(d:l.nodes[j]?=some n)(b:iU n wh=some x):∃(i:Nat) (a:ec),(i:Int)=j+wh/\l.nodes[i]?=some a/\a.id=x:=by
 unfold iU at b;split at b
 .rename_i e;rw[h.place d]at e b;rw[h.cfg n (aC d)]at b;simp only[bX,aw]at e;simp only[ah,cN]at b;obtain⟨a,f,rfl⟩:=b;exact⟨_,a,by omega,f,rfl⟩
 .cases b
theorem qz.set(h:qz k l)(v:l.nodes[j]?=some n)(u:sq n n')(C:n.M <+: n'.M)(H:n'.M.length<=500)(F:∀(i:Nat) p,i<j->l.nodes[i]?=some p->n'.M <+: p.M):qz k ⟨l.nodes.set j n',l.heard⟩:=by
 have y:=aC v;have G:=(aB.1 v).1;have d:∀x,x∈l.nodes.set j n'->x=n' \/x∈l.nodes:=λx f=>by
  rcases bG f with q|q
  .exact .inr q
  .exact .inl q
 have K:(l.nodes.set j n').map (·.id)=l.nodes.map (·.id):=by
  rw[List.map_set];refine bP λi=>?_;rw[rE];split
  .rename_i e;rw[e.1];simp[v,u.id]
  .rfl
 refine⟨λe=>?_,?_,λx f=>?_,λx f=>?_,?_,λx f=>?_,λx f=>?_⟩
 .have:=an List.length e;simp at this;exact h.ne this
 .rw[sy];intro i w a b z r o;rw[rE]at r o;have g:=sy.1 h.ord;by_cases B:i=j
  .rw[aK ⟨B,by omega⟩]at r;rw[aH (by omega)]at o
   cases r
   subst B;have:=g i w n b z v o;exact⟨by rw[u.id];exact this.1,this.2.trans C⟩
  .rw[aH (λq=>B q.1)]at r;by_cases A:w=j
   .rw[aK ⟨A,by omega⟩]at o
    cases o
    subst A;have:=g i w a n z r v;exact⟨by rw[u.id];exact this.1,F i a z r⟩
   .rw[aH (λq=>A q.1)]at o;exact g i w a b z r o
 .rcases d x f with q|q
  .rw[q,u.id];exact h.pE n y
  .exact h.pE x q
 .show x.nodes=(l.nodes.set j n').map (·.id);rw[K];rcases d x f with q|q
  .rw[q,u.cf];exact h.cfg n y
  .exact h.cfg x q
 .obtain⟨E,J,I,D⟩:=h.ep;refine⟨E,J,by simpa using I,λx f=>?_⟩;rcases d x f with q|q
  .rw[q,u.ep];exact D n y
  .exact D x q
 .rcases d x f with q|q
  .rw[q];exact aO (h.heard n y) C.length_le
  .exact h.heard x q
 .rcases d x f with q|q
  .rw[q];exact H
  .exact h.few x q
theorem qz.take(h:qz k l){a b:ec}(p:a∈l.nodes)(o:b∈l.nodes):a.M.take l.heard=b.M.take l.heard:=by
 obtain⟨i,g⟩:=aP p;obtain⟨j,e⟩:=aP o;have d:∀{x y:List eH},y <+: x->l.heard<=y.length->x.take l.heard=y.take l.heard:=λ{x y} f r=>by
  obtain⟨t,rfl⟩:=f;rw[bd r]
 rcases cG i j with q|q|q
 .exact d (sy.1 h.ord i j a b q g e).2 (h.heard b o)
 .subst q;rw[g]at e;cases e;rfl
 .exact(d (sy.1 h.ord j i b a q e g).2 (h.heard a p)).symm
theorem Ql{l:List ec}(h:l≠[])(d:ec):l.getLastD d∈l:=by
 cases l with
|nil=>exact absurd rfl h
|cons a l=>rw[Fa _ _ (by simp)];exact dJ _
theorem qz.last(h:qz k l)(d:ec)(b:n∈l.nodes):(l.nodes.getLastD d).M <+: n.M:=by
 obtain⟨i,a⟩:=aP b;have f:=(aB.1 a).1;rw[Fa l.nodes d (by omega)];by_cases e:i=l.nodes.length-1
 .subst e;rw[aA (by omega)]at a
  cases a
  exact cC _
 .exact(sy.1 h.ord i (l.nodes.length-1) n _ (by omega) a (aA (by omega))).2
structure Bv(s:dp)(k:Nat)(c:eH):Prop where
 lo:1<=c.I
 hi:c.I<=(s.U.length:Int)
 dec:k=dz s->c.kind=3/\(1<=c.time/\c.time<=501)/\((s.I c.I.toNat).state=2\/(s.I c.I.toNat).state=3)/\ve (s.I c.I.toNat)=true
 jl:k≠dz s->(c.kind=2/\(s.I c.I.toNat).state≠1/\(s.I c.I.toNat).ats.getD k 0≠0)\/(c.kind=3/\(s.I c.I.toNat).state=3/\1<=c.time)\/(c.kind=4/\(s.I c.I.toNat).state=4)
structure BE(s:dp)(k:Nat)(log:List eH):Prop where
 all:∀c∈log,Bv s k c
 one:log.Pairwise λa b=>¬(a.kind=b.kind/\a.I=b.I)
 tG:k≠dz s->∀(i:Nat) c,log[i]?=some c->c.kind=3->∃(j:Nat) (p:eH),j<i/\log[j]?=some p/\p.kind=2/\p.I=c.I
def kN(s:dp)(k:Nat):List eH:=(eU s k).M.take (s.A k).heard
def om(l:List eH)(a:Int)(id:Nat):Prop:=∃c∈l,c.kind=a/\c.I=(id:Int)
structure rX(s:dp)(id:Nat):Prop where
 len:(s.I id).ats.length=s.lines.length
 st:1<=(s.I id).state/\(s.I id).state<=4
 pE:∀k,0<=(s.I id).ats.getD k 0/\(s.I id).ats.getD k 0<=2
 dec:(s.I id).ats.getD (dz s) 0=0
 op:(s.I id).state=1->∀k,(s.I id).ats.getD k 0≠2
 sure:∀k,k<dz s->(s.I id).ats.getD k 0=2->om (kN s k) 2 id
 Mh:(s.I id).state=3->ve (s.I id)=true/\1<=(s.I id).time/\om (kN s (dz s)) 3 id
 tm:0<=(s.I id).time/\(s.I id).time<=501
 few:(s.I id).writes.length<=20/\∀p∈(s.I id).writes,p.key.size<=20
def CA(s:dp)(m:eG):Prop:=m.kind=3->∀k,k<s.lines.length->∀n∈(s.A k).nodes,n.id=m.eP->∃N:Nat,m.n=N/\n.M[N]?=some m.z
structure Safe(s:dp):Prop where
 ll:2<=s.lines.length/\s.lines.length<=5
 tl:s.U.length<=60
 A:∀k,k<s.lines.length->qz k (s.A k)
 M:∀k,k<s.lines.length->BE s k (eU s k).M
 msg:∀m∈s.J.way,CA s m
 I:∀id,1<=id->id<=s.U.length->rX s id
theorem BE.pre{l l':List eH}(h:BE s k l)(a:l' <+: l):BE s k l':=by
 obtain⟨t,rfl⟩:=a;refine⟨λc d=>h.all c (bW _ d),(bg.1 h.one).1,λf i c e d=>?_⟩;have b:=(aB.1 e).1;obtain⟨j,p,g,a,q,o⟩:=h.tG f i c (by rw[aG b];exact e) d;exact⟨j,p,g,by rw[aG (by omega)]at a;exact a,q,o⟩
theorem Yu(h:(s.A k).nodes≠[]):(s.A k).nodes[0]?=some (eU s k):=by
 unfold eU
 cases b:(s.A k).nodes with
|nil=>exact absurd b h
|cons a l=>rfl
theorem Safe.head(h:Safe s)(a:k<s.lines.length):(s.A k).nodes[0]?=some (eU s k):=Yu (h.A k a).ne
theorem Safe.head_mem(h:Safe s)(a:k<s.lines.length):eU s k∈(s.A k).nodes:=aC (h.head a)
theorem Safe.Rr(h:Safe s)(a:k<s.lines.length)(d:n∈(s.A k).nodes):n.M <+: (eU s k).M:=by
 obtain⟨i,b⟩:=aP d
 cases i with
|zero=>rw[h.head a]at b;cases b;exact cC _
|succ i=>exact(sy.1 (h.A k a).ord 0 (i+1) _ _ (by omega) (h.head a) b).2
theorem Safe.logs(h:Safe s)(a:k<s.lines.length)(b:n∈(s.A k).nodes):BE s k n.M:=(h.M k a).pre (h.Rr a b)
theorem Safe.Gb(h:Safe s)(a:k<s.lines.length)(b:n∈(s.A k).nodes):n.M.take (s.A k).heard=kN s k:=(h.A k a).take b (h.head_mem a)
theorem Safe.dec_lt(h:Safe s):dz s<s.lines.length:=by have:=h.ll.1;unfold dz;omega
theorem Safe.free(h:Safe s){i:Nat}(g:(s.I i).state=1)(d:k<s.lines.length)(f:c∈(eU s k).M):c.I≠(i:Int):=λe=>by
 have q:=(h.M k d).all c f;have b:c.I.toNat=i:=by omega
 by_cases a:k=dz s
 .have:=(q.dec a).2.2.1;rw[b]at this;omega
 .have:=q.jl a;rw[b]at this;omega
theorem Safe.inj(h:Safe s){k':Nat}(r:k<s.lines.length)(g:k'<s.lines.length)(p:n∈(s.A k).nodes)(b:n'∈(s.A k').nodes)(e:n.id=n'.id):k=k'/\n=n':=by
 have v:=(h.A k r).pE n p;have u:=(h.A k' g).pE n' b;have f:k=k':=by omega
 subst f;refine⟨rfl,?_⟩;obtain⟨i,o⟩:=aP p;obtain⟨j,d⟩:=aP b;have a:=sy.1 (h.A k r).ord;rcases cG i j with q|q|q
 .have:=(a i j _ _ q o d).1;omega
 .subst q;rw[o]at d;cases d;rfl
 .have:=(a j i _ _ q d o).1;omega
theorem Safe.sent(h:Safe s)(g:k<s.lines.length)(f:n∈(s.A k).nodes)(d:Od n m):CA s m:=λo p b n' a e=>by
 obtain⟨-,rfl⟩:=h.inj g b f a (by rw[e,d.eP]);exact d.fw o
theorem Safe.send(h:Safe s){ms:List eG}(e:∀m∈ms,CA s m):Safe (sd s ms):=
 ⟨h.ll,h.tl,h.A,λk a=>⟨λc b=>⟨((h.M k a).all c b).lo,((h.M k a).all c b).hi,((h.M k a).all c b).dec,((h.M k a).all c b).jl⟩,(h.M k a).one,(h.M k a).tG⟩,
  λm d=>(OF d).elim (h.msg m) (e m),λid g f=>(have q:=h.I id g f;⟨q.len,q.st,q.pE,q.dec,q.op,q.sure,q.Mh,q.tm,q.few⟩)⟩
theorem Safe.way(h:Safe s){net:fS}(e:∀m∈net.way,m∈s.J.way):Safe {s with J:=net}:=
 ⟨h.ll,h.tl,h.A,λk a=>⟨λc b=>⟨((h.M k a).all c b).lo,((h.M k a).all c b).hi,((h.M k a).all c b).dec,((h.M k a).all c b).jl⟩,(h.M k a).one,(h.M k a).tG⟩,
  λm d=>h.msg m (e m d),λid g f=>(have q:=h.I id g f;⟨q.len,q.st,q.pE,q.dec,q.op,q.sure,q.Mh,q.tm,q.few⟩)⟩
theorem Ee(s:dp)(a:k<s.lines.length)(j:Nat)(n:ec)(i:Nat):(kS s k j n).A i=if i=k then⟨(s.A k).nodes.set j n,(s.A k).heard⟩else s.A i:=Qo s k _ i a
theorem Ia(s:dp)(k j:Nat)(n:ec):(kS s k j n).lines.length=s.lines.length:=by simp[kS,tB]
theorem zVd(s:dp)(k j:Nat)(n:ec):dz (kS s k j n)=dz s:=by unfold dz;rw[Ia]
theorem RP(b:k<s.lines.length)(a:(s.A k).nodes≠[])(j:Nat)(n:ec)(i:Nat):eU (kS s k j n) i=if i=k/\j=0 then n else eU s i:=by
 unfold eU;rw[Ee s b];by_cases e:i=k
 .subst e;rw[aK rfl];show((s.A i).nodes.set j n).getD 0 _=_;rw[aI,rE];by_cases d:j=0
  .subst d;rw[aK ⟨rfl,by have:=bR.2 a;omega⟩,aK ⟨rfl,rfl⟩];rfl
  .rw[aH (by omega),aH (by omega),aI]
 .rw[aH e,aH (λq=>e q.1)]
theorem Bv.of(h:Bv s k c)(ht:s'.U=s.U)(a:dz s'=dz s):Bv s' k c:=by
 have e:∀i,s'.I i=s.I i:=λi=>by unfold dp.I;rw[ht]
 exact⟨h.lo,by rw[ht];exact h.hi,by rw[a,e];exact h.dec,by rw[a,e];exact h.jl⟩
theorem BE.of{l:List eH}(h:BE s k l)(ht:s'.U=s.U)(a:dz s'=dz s):BE s' k l:=
 ⟨λc b=>(h.all c b).of ht a,h.one,by rw[a];exact h.tG⟩
theorem rX.of(h:rX s id)(ht:s'.U=s.U)(d:s'.lines.length=s.lines.length)(g:∀k,k<s.lines.length->kN s' k=kN s k)(p:dz s<s.lines.length):rX s' id:=by
 have e:s'.I id=s.I id:=by unfold dp.I;rw[ht]
 have a:dz s'=dz s:=by unfold dz;rw[d]
 refine⟨by rw[e,d];exact h.len,by rw[e];exact h.st,by rw[e];exact h.pE,by rw[e,a];exact h.dec,by rw[e];exact h.op,λk f o=>?_,λb=>?_,by rw[e];exact h.tm,by rw[e];exact h.few⟩
 .rw[a]at f;rw[e]at o;rw[g k (by omega)];exact h.sure k f o
 .rw[e]at b⊢;rw[a,g _ p];exact h.Mh b
theorem Safe.node(h:Safe s)(v:k<s.lines.length)(o:(s.A k).nodes[j]?=some n)(B:sq n n')(u:n.M <+: n'.M)(F:n'.M.length<=500)
  (D:∀(i:Nat) p,i<j->(s.A k).nodes[i]?=some p->n'.M <+: p.M) (h0:j=0->BE s k n'.M):Safe (kS s k j n'):=by
 have w:=h.A k v;have f:=λi=>RP v w.ne j n' i;have r:=λi=>Ee s v j n' i;have a:=Ia s k j n';have C:∀i,i<s.lines.length->kN (kS s k j n') i=kN s i:=λi b=>by
  unfold kN;rw[f,r];by_cases e:i=k
  .subst e;rw[aK rfl];by_cases g:j=0
   .subst g;rw[h.head b]at o;cases o
    rw[aK ⟨rfl,rfl⟩];obtain⟨t,ht⟩:=u;rw[<-ht];exact bd (w.heard _ (h.head_mem b))
   .rw[aH (λq=>g q.2)]
  .rw[aH e,aH (λq=>e q.1)]
 refine⟨by rw[a];exact h.ll,h.tl,λi b=>?_,λi b=>?_,λm E G i b x d z=>?_,λid J H=>(h.I id J H).of rfl a C h.dec_lt⟩
 .rw[a]at b;rw[r];by_cases e:i=k
  .subst e;rw[aK rfl];exact w.set o B u F D
  .rw[aH e];exact h.A i b
 .rw[a]at b;rw[f];by_cases e:i=k/\j=0
  .rw[aK e];rw[e.1];exact(h0 e.2).of rfl (zVd _ _ _ _)
  .rw[aH e];exact(h.M i b).of rfl (zVd _ _ _ _)
 .rw[a]at b;rw[r]at d;have y:=h.msg m E G;by_cases e:i=k
  .subst e;rw[aK rfl]at d;rcases bG d with q|q
   .exact y i b x q z
   .subst q;obtain⟨N,K,g⟩:=y i b n (aC o) (by rw[<-B.id];exact z);refine⟨N,K,?_⟩;obtain⟨t,ht⟩:=u;rw[<-ht,aG (aB.1 g).1];exact g
  .rw[aH e]at d;exact y i b x d z
theorem Safe.U(h:Safe s)(a:s'.lines=s.lines)(o:s'.J=s.J)(ht:s'.U.length<=60)(p:∀k c,k<s.lines.length->c∈(eU s k).M->Bv s k c->Bv s' k c)(g:∀id,1<=id->id<=s'.U.length->rX s' id):Safe s':=by
 have e:∀k,s'.A k=s.A k:=λk=>by unfold dp.A;rw[a]
 have u:∀k,eU s' k=eU s k:=λk=>by unfold eU;rw[e]
 have r:dz s'=dz s:=by unfold dz;rw[a]
 refine⟨by rw[a];exact h.ll,ht,λk b=>by rw[a]at b;rw[e];exact h.A k b,λk b=>?_,λm f=>?_,g⟩
 .rw[a]at b;rw[u];have q:=h.M k b;exact⟨λc d=>p k c b d (q.all c d),q.one,by rw[r];exact q.tG⟩
 .rw[o]at f;have q:=h.msg m f;unfold CA at q⊢;rw[a];simp only[e];exact q
theorem Qu(a:s'.lines=s.lines)(k:Nat):kN s' k=kN s k:=by
 have b:s'.A k=s.A k:=by unfold dp.A;rw[a]
 unfold kN eU;rw[b]
theorem rX.same(h:rX s id)(e:s'.I id=s.I id)(a:s'.lines=s.lines):rX s' id:=by
 have b:dz s'=dz s:=by unfold dz;rw[a]
 refine⟨by rw[e,a];exact h.len,by rw[e];exact h.st,by rw[e];exact h.pE,by rw[e,b];exact h.dec,by rw[e];exact h.op,λk f g=>?_,λd=>?_,by rw[e];exact h.tm,by rw[e];exact h.few⟩
 .rw[b]at f;rw[e]at g;rw[Qu a];exact h.sure k f g
 .rw[e]at d⊢;rw[b,Qu a];exact h.Mh d
theorem pO(s:dp)(id:Nat)(t:jz)(b:1<=j)(d:1<=id)(a:id<=s.U.length):(du s id t).I j=if j=id then t else s.I j:=by
 by_cases e:j=id
 .subst e;rw[aK rfl];exact BV s t b a
 .rw[aH e];exact AH s t (by omega)
theorem Bv.same(h:Bv s k c)(ht:s'.U.length=s.U.length)(b:s'.lines=s.lines)(e:s'.I c.I.toNat=s.I c.I.toNat):Bv s' k c:=by
 have a:dz s'=dz s:=by unfold dz;rw[b]
 exact⟨h.lo,by rw[ht];exact h.hi,by rw[a,e];exact h.dec,by rw[a,e];exact h.jl⟩
theorem Safe.tF(h:Safe s)(w:1<=id)(v:id<=s.U.length)(d:(s.I id).state=1){keys:gU}(b:rX {du s id t with keys:=keys} id):Safe {du s id t with keys:=keys}:=by
 refine h.U (s':={du s id t with keys:=keys}) rfl rfl (by show(du s id t).U.length<=60;rw[mO];exact h.tl) (λk c o p q=>?_) (λj u r=>?_)
 .have f:=h.free d o p;have g:=q.lo;refine q.same (mO s id t) rfl ?_;exact AH s t (by omega)
 .by_cases e:j=id
  .rw[e];exact b
  .have a:j<=s.U.length:=by have:=mO s id t;have:j<=(du s id t).U.length:=r;omega
   exact(h.I j u a).same (AH s t (by omega)) rfl
theorem Vq(l:List Int)(k:Nat):(l.map λ_=>(0:Int)).getD k 0=0:=by
 rw[aI,ah]
 cases l[k]? <;> rfl
theorem KP:ve t=true↔∀k,t.ats.getD k 0≠1:=by
 unfold ve;simp only[dG,bc];constructor
 .intro h k e;rw[aI]at e
  cases a:t.ats[k]? with
 |none=>rw[a]at e;simp at e
 |some x=>rw[a]at e;simp at e;subst e;exact h (aC a)
 .intro h b;obtain⟨k,a⟩:=aP b;exact h k (by rw[aI,a];rfl)
theorem Safe.abort(h:Safe s)(b:1<=id)(a:id<=s.U.length)(o:(s.I id).state=1):Safe (gk s id):=by
 have g:=h.I id b a;have e:gk s id={du s id {s.I id with state:=4,ats:=(s.I id).ats.map λ_=>0,writes:=[]}with keys:=gg s.keys id}:=by
  unfold gk pA;rw[aK o,BV s _ b a];simp only[du,List.set_set]
 rw[e];refine h.tF b a o ?_;have et:=BV s {s.I id with state:=4,ats:=(s.I id).ats.map λ_=>0,writes:=[]} b a;have f:({du s id {s.I id with state:=4,ats:=(s.I id).ats.map λ_=>0,writes:=[]}with keys:=gg s.keys id}:dp).I id={s.I id with state:=4,ats:=(s.I id).ats.map λ_=>0,writes:=[]}:=et;refine⟨?_,?_,?_,?_,?_,?_,?_,?_,?_⟩
 all_goals rw[f]
 .show(List.map _ _).length=s.lines.length;rw[ao];exact g.len
 .simp
 .intro k;show 0<=(List.map _ _).getD k 0/\(List.map _ _).getD k 0<=2;rw[Vq];omega
 .exact Vq _ _
 .intro d;simp at d
 .intro k _ p;rw[show((s.I id).ats.map λ_=>(0:Int)).getD k 0=0 from Vq _ _]at p;omega
 .intro d;simp at d
 .exact g.tm
 .simp
theorem Safe.yW(h:Safe s)(o:1<=id)(g:id<=s.U.length)(y:(s.I id).state=2)(r:ve (s.I id)=false):Safe (gk s id):=by
 have b:=h.I id o g;have e:gk s id={du s id {s.I id with state:=4,writes:=[]}with keys:=gg s.keys id}:=by
  unfold gk pA;rw[aH (by omega)]
 rw[e];have et:({du s id {s.I id with state:=4,writes:=[]}with keys:=gg s.keys id}:dp).I id={s.I id with state:=4,writes:=[]}:=BV s _ o g;refine h.U (s':={du s id {s.I id with state:=4,writes:=[]}with keys:=gg s.keys id}) rfl rfl (by show(du s id _).U.length<=60;rw[mO];exact h.tl) (λk c z A q=>?_) (λj w v=>?_)
 .by_cases a:c.I.toNat=id
  .refine⟨q.lo,by show c.I<=((du s id _).U.length:Int);rw[mO];exact q.hi,λf=>?_,λf=>?_⟩
   .have:=(q.dec f).2.2.2;rw[a,r]at this;cases this
   .rw[a,et];rcases q.jl f with⟨q1,q2,q3⟩|⟨q1,q2,q3⟩|⟨q1,q2⟩
    .rw[a]at q3;exact .inl ⟨q1,by simp,q3⟩
    .rw[a]at q2;omega
    .rw[a]at q2;omega
  .have u:=q.lo;exact q.same (mO s id _) rfl (AH s _ (by omega))
 .by_cases a:j=id
  .subst a;refine⟨?_,?_,?_,?_,?_,?_,?_,?_,?_⟩
   all_goals rw[et]
   .exact b.len
   .simp
   .exact b.pE
   .exact b.dec
   .intro d;simp at d
   .exact b.sure
   .intro d;simp at d
   .exact b.tm
   .simp
  .have p:j<=s.U.length:=by have:j<=(du s id _).U.length:=v;rw[mO]at this;exact this
   exact(h.I j w p).same (AH s _ (by omega)) rfl
theorem Safe.keys(h:Safe s)(keys:gU):Safe {s with keys:=keys}:=
 h.U (s':={s with keys:=keys}) rfl rfl h.tl (λk c _ _ q=>q.same rfl rfl rfl) (λid b a=>(h.I id b a).same rfl rfl)
theorem WN(s:dp)(i:Int):(eW s i).U.length=s.U.length:=(gS.eW s i).len
theorem Safe.eW(h:Safe s)(a:1<=i/\i<=(s.U.length:Int)):Safe (eW s i):=by
 unfold Go.Proofs.YtmaiggbnceejiaaGreatDoor.eW;split
 .rename_i e;exact h.abort (by omega) (by omega) e
 .exact h
theorem Safe.ft:∀(ids:List Int) {s:dp},Safe s->(∀i∈ids,1<=i/\i<=(s.U.length:Int))->Safe (jT s ids)
|[],s,h,_=>h
|i::ids,s,h,a=>by
  show Safe (jT (Go.Proofs.YtmaiggbnceejiaaGreatDoor.eW s i) ids);exact Safe.ft ids (h.eW (a i (by simp))) (λj b=>by rw[WN];exact a j (by simp[b]))
structure tf(s s':dp)(ids:Int->Prop):Prop where
 other:∀j:Nat,1<=j->¬ids j->s'.I j=s.I j
 same:gS s s'
theorem tf.refl(s:dp)(ids:Int->Prop):tf s s ids:=⟨λ_ _ _=>rfl,gS.refl s⟩
theorem EZ(s:dp)(h:j-1≠id-1):(gk s id).I j=s.I j:=by
 unfold gk pA;split
 .show(du (du s id _) id _).I j=_;rw[AH _ _ h,AH _ _ h]
 .exact AH _ _ h
theorem tf.ft:∀(ids:List Int) (s:dp),(∀i∈ids,1<=i)->tf s (jT s ids) (λx=>x∈ids)
|[],s,_=>tf.refl s _
|i::ids,s,d=>by
  have f:=tf.ft ids (Go.Proofs.YtmaiggbnceejiaaGreatDoor.eW s i) (λj a=>d j (by simp[a]));refine⟨λj a b=>?_,gS.ft _ _⟩;show(jT (Go.Proofs.YtmaiggbnceejiaaGreatDoor.eW s i) ids).I j=_;rw[f.other j a (λq=>b (by simp[q]))];unfold Go.Proofs.YtmaiggbnceejiaaGreatDoor.eW;have:=d i (by simp);split
  .exact EZ s (λe=>b (by simp[show(j:Int)=i by omega]))
  .rfl
theorem FW(h:2<=s.lines.length)(key:ByteArray):fL s key<dz s:=dP _ (by unfold dz;omega)
theorem pQ(l:List Int)(k j:Nat)(x:Int):(l.set k x).getD j 0=if j=k/\j<l.length then x else l.getD j 0:=by
 rw[aI,rE];split
 .rfl
 .rw[aI]
theorem Safe.came(h:Safe s)(g:1<=id)(f:id<=s.U.length)(e:(s.I id).state=1)(r:k<dz s):Safe (mq s id k):=by
 have a:=h.I id g f;have et:(du s id {s.I id with ats:=(s.I id).ats.set k 1}).I id={s.I id with ats:=(s.I id).ats.set k 1}:=BV s _ g f;have d:=h.tF (keys:=s.keys) (t:={s.I id with ats:=(s.I id).ats.set k 1}) g f e;refine d ?_;show rX (du s id {s.I id with ats:=(s.I id).ats.set k 1}) id;refine⟨?_,?_,?_,?_,?_,?_,?_,?_,?_⟩
 all_goals rw[et]
 .show((s.I id).ats.set k 1).length=s.lines.length;rw[ai];exact a.len
 .exact a.st
 .intro j;show 0<=((s.I id).ats.set k 1).getD j 0/\_<=_;rw[pQ];split
  .omega
  .exact a.pE j
 .show((s.I id).ats.set k 1).getD (dz s) 0=0;rw[pQ,aH (by omega)];exact a.dec
 .intro _ j;show((s.I id).ats.set k 1).getD j 0≠2;rw[pQ];split
  .omega
  .exact a.op e j
 .intro j u q;have b:((s.I id).ats.set k 1).getD j 0=2:=q;rw[pQ]at b;split at b
  .omega
  .exact absurd b (a.op e j)
 .intro p;have o:(s.I id).state=3:=p;omega
 .exact a.tm
 .exact a.few
theorem Safe.write(h:Safe s){ws:List gB}{st:Int}(f:1<=id)(e:id<=s.U.length)(d:(s.I id).state=1)(g:ws.length<=20/\∀p∈ws,p.key.size<=20)(q:st=1\/st=2):Safe (du s id {s.I id with state:=st,writes:=ws}):=by
 have a:=h.I id f e;have et:(du s id {s.I id with state:=st,writes:=ws}).I id={s.I id with state:=st,writes:=ws}:=BV s _ f e;refine h.tF (keys:=s.keys) (t:={s.I id with state:=st,writes:=ws}) f e d ?_;show rX (du s id {s.I id with state:=st,writes:=ws}) id;refine⟨?_,?_,?_,?_,?_,?_,?_,?_,?_⟩
 all_goals rw[et]
 .exact a.len
 .show 1<=st/\st<=4;omega
 .exact a.pE
 .exact a.dec
 .intro _;exact a.op d
 .intro j r o;exact absurd o (a.op d j)
 .intro b;have:st=3:=b;omega
 .exact a.tm
 .exact g
theorem yRx(l:List ec)(a:Int)(d:l.Pairwise λa b=>a.id<b.id)(e:∀n∈l,a<=n.id/\n.id<a+4):l.length<=4:=by
 match l,d,e with
|[],_,_=>simp
|[_],_,_=>simp
|[_,_],_,_=>simp
|[_,_,_],_,_=>simp
|[_,_,_,_],_,_=>simp
|p::o::h::g::f::l,d,e=>
  simp only[List.pairwise_cons]at d;have y:=d.1 o (by simp);have w:=d.2.1 h (by simp);have v:=d.2.2.1 g (by simp);have u:=d.2.2.2.1 f (by simp);have r:=e p (by simp);have q:=e f (by simp);omega
theorem Safe.shape(h:Safe s):mo s:=by
 refine⟨by have:=h.ll;omega,λl g=>?_,h.tl,λt ht=>?_,λt ht=>?_⟩
 .obtain⟨i,b⟩:=aP g;have a:=(aB.1 b).1;have e:=nM a;rw[b]at e;have o:=bA e;rw[o];have q:=h.A i a;have:=bR.2 q.ne;obtain⟨E,r,p,_⟩:=q.ep;refine⟨by omega,?_⟩;have d:=q.pE;have f:=q.ord;exact yRx ((s.A i).nodes) (10*(i:Int)) (f.imp λq=>q.1) d
 .obtain⟨i,b⟩:=aP ht;have a:=(aB.1 b).1;have e:=vf (s:=s) (id:=i+1) (by omega) (by omega);rw[bL,b]at e;rw[bA e];exact(h.I (i+1) (by omega) (by omega)).len
 .obtain⟨i,b⟩:=aP ht;have a:=(aB.1 b).1;have e:=vf (s:=s) (id:=i+1) (by omega) (by omega);rw[bL,b]at e;rw[bA e];exact(h.I (i+1) (by omega) (by omega)).few.1
def Ig(s:dp):List Int:=((List.range s.U.length).map λ(i:Nat)=>(i:Int)+1).filter λo=>decide ((s.I o.toNat).state=2)
theorem yy:x∈Ig s↔1<=x/\x<=(s.U.length:Int)/\(s.I x.toNat).state=2:=by
 unfold Ig;simp only[au,aj,bV,aw];constructor
 .rintro⟨⟨i,b,rfl⟩,h⟩;exact⟨by omega,by omega,h⟩
 .rintro⟨e,d,a⟩;exact⟨⟨(x-1).toNat,by omega,by omega⟩,a⟩
structure jh(X:List Int)(s:dp):Prop where
 apart:∀k,ri (X++Ig s) (s.keys k)
 hold:∀k,∀c∈(s.keys k).held,1<=c.I/\c.I<=(s.U.length:Int)/\((s.I c.I.toNat).state=1\/(s.I c.I.toNat).state=2)
 wait:∀k,∀c∈(s.keys k).waits,1<=c.I/\c.I<=(s.U.length:Int)/\(s.I c.I.toNat).state=1
 small:∀k:ByteArray,20<k.size->(s.keys k).held=[]/\(s.keys k).waits=[]
abbrev Held(s:dp):Prop:=jh [] s
theorem jh.ki(h:jh X s):sw s.U.length s.keys:=λk c a=>by
 obtain a|a:=a
 .exact⟨(h.hold k c a).1,(h.hold k c a).2.1⟩
 .exact⟨(h.wait k c a).1,(h.wait k c a).2.1⟩
theorem yXz{s:gU}{t:Int}{k:ByteArray}(h:nY (s k)):(∀c∈(gg s t k).held,c∈(s k).held\/c∈(s k).waits)/\∀c∈(gg s t k).waits,c∈(s k).waits:=by
 unfold gg;split
 .unfold my;refine⟨λc a=>?_,λc a=>?_⟩
  .rcases(ES _ _ _ c).1 a with q|q
   .exact .inl (pD.1 q).1
   .exact .inr (pD.1 q).1
  .rcases(ES _ _ _ c).2.1 a with q|q
   .simp at q
   .exact(pD.1 q).1
 .exact⟨λc a=>.inl a,λc a=>a⟩
theorem jh.leave(h:jh X s)(u:s'.keys=gg s.keys i)(w:s'.U.length=s.U.length)(r:∀j:Nat,1<=j->(j:Int)≠i->(s'.I j).state=(s.I j).state)(C:∀x∈X,x=i\/x∈Y):jh Y s':=by
 have y:=λk=>yJx (h.apart k).ok i;have b:=λk=>yXz (t:=i) (h.apart k).ok;have f:∀x:Int,1<=x->x≠i->(s'.I x.toNat).state=(s.I x.toNat).state:=λx E D=>r x.toNat (by omega) (by omega);refine⟨λk=>?_,λk c d=>?_,λk c d=>?_,λk v=>?_⟩
 .rw[u];refine yTd (W:=Y++Ig s') (λk=>(h.apart k).more λx B=>?_) k;by_cases e:x=i
  .simp[e]
  .refine bH _ (aM.2 ?_);rcases aM.1 B with q|q
   .exact .inl ((C x q).resolve_left e)
   .obtain⟨a,p,o⟩:=yy.1 q;exact .inr (yy.2 ⟨a,by rw[w];exact p,by rw[f x a e];exact o⟩)
 .rw[u]at d;have g:=(y k).1 c d;rw[w];rcases(b k).1 c d with q|q
  .obtain⟨a,p,o⟩:=h.hold k c q;exact⟨a,p,by rw[f _ a g];exact o⟩
  .obtain⟨a,p,o⟩:=h.wait k c q;exact⟨a,p,.inl (by rw[f _ a g];exact o)⟩
 .rw[u]at d;have g:=(y k).2 c d;rw[w];obtain⟨a,p,o⟩:=h.wait k c ((b k).2 c d);exact⟨a,p,by rw[f _ a g];exact o⟩
 .rw[u];obtain⟨A,z⟩:=h.small k v;have r:=b k;rw[A,z]at r;exact⟨List.eq_nil_iff_forall_not_mem.2 λc d=>by simpa using r.1 c d,List.eq_nil_iff_forall_not_mem.2 λc d=>by simpa using r.2 c d⟩
theorem WA(s:dp)(id:Nat):(gk s id).keys=gg s.keys id:=by
 unfold gk pA;split <;> rfl
theorem jh.abort(h:jh X s)(id:Nat)(b:1<=id)(d:∀x∈X,x=(id:Int)\/x∈Y):jh Y (gk s id):=
 h.leave (WA s id) (IV s id) (λj e a=>by rw[EZ s (by omega)]) d
theorem jh.eW(h:jh X s)(b:1<=i):jh X (eW s i):=by
 unfold Go.Proofs.YtmaiggbnceejiaaGreatDoor.eW;split
 .exact h.abort i.toNat (by omega) (λx a=>.inr a)
 .exact h
theorem jh.Fj(h:jh (i::X) s)(f:1<=i)(b:i<=(s.U.length:Int)):jh X (Go.Proofs.YtmaiggbnceejiaaGreatDoor.eW s i):=by
 unfold Go.Proofs.YtmaiggbnceejiaaGreatDoor.eW;split
 .exact h.abort i.toNat (by omega) (λx a=>(bB.1 a).imp (λe=>by omega) id)
 .rename_i d;refine⟨λk=>?_,h.hold,h.wait,h.small⟩;by_cases o:(s.I i.toNat).state=2
  .refine(h.apart k).more λx a=>?_;rcases bB.1 a with q|q
   .rw[q];exact aM.2 (.inr (yy.2 ⟨f,b,o⟩))
   .exact q
  .refine ri.less (t:=i) (h.apart k) (λc g e=>?_);have:=(h.hold k c g).2.2;rw[e]at this;omega
theorem jh.nk:∀{ids X:List Int}{s:dp},jh X s->(∀i∈ids,1<=i)->jh X (jT s ids)
|[],_,_,h,_=>h
|i::ids,X,s,h,a=>jh.nk (s:=Go.Proofs.YtmaiggbnceejiaaGreatDoor.eW s i) (h.eW (a i (by simp))) (λj b=>a j (by simp[b]))
theorem jh.rG:∀{ids X:List Int}{s:dp},jh (ids++X) s->(∀i∈ids,1<=i/\i<=(s.U.length:Int))->jh X (jT s ids)
|[],_,_,h,_=>h
|i::ids,X,s,h,a=>jh.rG (s:=Go.Proofs.YtmaiggbnceejiaaGreatDoor.eW s i) (jh.Fj (i:=i) (X:=ids++X) h (a i (by simp)).1 (a i (by simp)).2) (λj b=>by rw[WN];exact a j (by simp[b]))
theorem jh.locked(h:jh X s){id:Int}(v:1<=id)(u:id<=(s.U.length:Int))(p:(s.I id.toNat).state=1)(key:ByteArray)(y:key.size<=20){mode:Int}(w:mode=1\/mode=2):jh ((iL s id key mode).2.1++X) (iL s id key mode).1/\∀x∈(iL s id key mode).2.1,id<x:=by
 have r:=yOc (c:=⟨id,mode⟩) (h.apart key) w;have g:∀c,c∈(iz (s.keys key) ⟨id,mode⟩).1.held->c∈(s.keys key).held\/c.I=id:=λc a=>by
  unfold iz at a;split at a
  .exact .inl a
  split at a
  .exact .inl a
  split at a
  .rcases(mx (h.apart key).ok.held _ c).1 a with q|q
   .exact .inr (by rw[q])
   .exact .inl q.1
  split at a
  .exact .inl a
  .exact .inl a
 have f:∀c,c∈(iz (s.keys key) ⟨id,mode⟩).1.waits->c∈(s.keys key).waits\/c.I=id:=λc a=>by
  unfold iz at a;split at a
  .exact .inl a
  split at a
  .exact .inl a
  split at a
  .exact .inl a
  split at a
  .exact .inl a
  .rcases(mx (h.apart key).ok.waits _ c).1 a with q|q
   .exact .inr (by rw[q])
   .exact .inl q.1
 refine⟨⟨λk=>?_,λk c a=>?_,λk c a=>?_,λk d=>?_⟩,r.2⟩
 .show ri _ (jo s.keys key _ k);by_cases e:k=key
  .subst e;rw[wI];exact r.1.more λx o=>by
    rw[aV];exact o
  .rw[AI e];exact(h.apart k).more λx o=>by
    rw[aV];exact aM.2 (.inr o)
 .have b:c∈(jo s.keys key (iz (s.keys key) ⟨id,mode⟩).1 k).held:=a;by_cases e:k=key
  .subst e;rw[wI]at b;rcases g c b with q|q
   .exact h.hold k c q
   .rw[q];exact⟨v,u,.inl p⟩
  .rw[AI e]at b;exact h.hold k c b
 .have b:c∈(jo s.keys key (iz (s.keys key) ⟨id,mode⟩).1 k).waits:=a;by_cases e:k=key
  .subst e;rw[wI]at b;rcases f c b with q|q
   .exact h.wait k c q
   .rw[q];exact⟨v,u,p⟩
  .rw[AI e]at b;exact h.wait k c b
 .show(jo s.keys key _ k).held=[]/\(jo s.keys key _ k).waits=[];rw[AI (λe=>by rw[e]at d;omega)];exact h.small k d
theorem Safe.locked(h:Safe s)(id:Int)(key:ByteArray)(mode:Int):Safe (iL s id key mode).1:=h.keys _
end Go.Proofs.YtmaiggbnceejiaaGreatDoor
namespace Go.Proofs.YtmaiggbnceejiaaGreatDoor
variable {s a b c s' S:dp}{id k j:Nat}{mode kind time:Int}{X:List Int}{log:List eH}{n n':ec}{f g:Nat->Nat}
theorem yDz{id o:Int}{key:ByteArray}(h:o∈pd s id key):o≠id:=by
 unfold pd at h;simp only[au,bX,aw]at h;exact h.2.1
structure Cut(s s':dp):Prop where
 len:s'.U.length=s.U.length
 I:∀j:Nat,1<=j->s'.I j=s.I j\/((s.I j).state=1/\(s'.I j).state=4/\∀k,(s'.I j).ats.getD k 0=0)
theorem Cut.refl(s:dp):Cut s s:=⟨rfl,λ_ _=>.inl rfl⟩
theorem Cut.trans(h:Cut a b)(k:Cut b c):Cut a c:=by
 refine⟨k.len.trans h.len,λj d=>?_⟩;rcases h.I j d with q|q <;> rcases k.I j d with p|p
 .exact .inl (p.trans q)
 .rw[q]at p;exact .inr p
 .rw[p];exact .inr q
 .omega
theorem Cut.abort(i:1<=id)(h:id<=s.U.length)(d:(s.I id).state=1):Cut s (gk s id):=by
 refine⟨IV s id,λj l=>?_⟩;by_cases e:j=id
 .subst e;right;have e:(gk s j).I j={s.I j with state:=4,writes:=[],ats:=(s.I j).ats.map λ_=>0}:=by
   unfold gk pA;rw[aK d,BV s _ i h];show(du (du s j _) j _).I j=_;rw[BV _ _ i (by rw[mO];exact h)]
  rw[e];exact⟨d,rfl,λk=>Vq _ _⟩
 .exact .inl (EZ s (by omega))
theorem Cut.eW{i:Int}(h:1<=i/\i<=(s.U.length:Int)):Cut s (eW s i):=by
 unfold Go.Proofs.YtmaiggbnceejiaaGreatDoor.eW;split
 .rename_i e;exact Cut.abort (by omega) (by omega) e
 .exact Cut.refl s
theorem Cut.ft:∀(ids:List Int) {s:dp},(∀i∈ids,1<=i/\i<=(s.U.length:Int))->Cut s (jT s ids)
|[],s,_=>Cut.refl s
|i::ids,s,d=>(Cut.eW (d i (by simp))).trans (Cut.ft ids (s:=Go.Proofs.YtmaiggbnceejiaaGreatDoor.eW s i) (λj e=>by rw[WN];exact d j (by simp[e])))
structure UX(s:dp)(id:Nat)(a:dp×List Int×Int):Prop where
 safe:Safe a.1
 held:jh a.2.1 a.1
 wd:∀x∈a.2.1,(id:Int)<x/\1<=x/\x<=(s.U.length:Int)
 me:a.1.I id=s.I id
 same:gS s a.1
 cut:Cut s a.1
theorem WG(P:Safe s)(Q:Held s)(Y:1<=id)(h2:id<=s.U.length)(N:(s.I id).state=1)(key:ByteArray)(t:key.size<=20)(O:mode=1\/mode=2):UX s id (jn s id key mode):=by
 have v:(1:Int)<=(id:Int):=by omega
 have u:(id:Int)<=(s.U.length:Int):=by omega
 obtain⟨E,V⟩:=Q.locked v u (by simpa using N) key t O;have D:∀x∈(iL s id key mode).2.1,1<=x/\x<=(s.U.length:Int):=λx o=>by
  obtain⟨d,H,rfl⟩:=WW _ _ x o;exact Q.ki key d (.inl H)
 unfold jn;simp only;split
 .have h:∀i∈pd (iL s id key mode).1 id key,(1<=i/\i<=(s.U.length:Int))/\i≠(id:Int):=λi m=>(have q:=WS m;⟨q,yDz m⟩);obtain⟨A,hA⟩:∃A,A=(iL s id key mode).1:=⟨_,rfl⟩;obtain⟨B,hB⟩:∃B,B=jT A (pd A id key):=⟨_,rfl⟩;rw[<-hA]at h⊢;rw[<-hB];have Xq:Safe A:=by rw[hA];exact P.locked _ _ _
  have F:∀k:fP,(iz k ⟨(id:Int),mode⟩).2.2.2=4->(iz k ⟨(id:Int),mode⟩).2.2.1=[]:=λk e=>by
   revert e;unfold iz;split
   .simp
   split
   .simp
   split
   .simp
   split
   .simp
   .simp
  have M:Held A:=by
   have e:=F (s.keys key) (by rename_i q;exact q.1);have Z:(iL s id key mode).2.1=[]:=e;rw[Z]at E;rw[hA];exact E
  have r:A.U=s.U:=by rw[hA];rfl
  have p:∀j,A.I j=s.I j:=λj=>by unfold dp.I;rw[r]
  have L:Safe B:=by rw[hB];exact Safe.ft _ Xq (λi m=>by rw[r];exact(h i m).1)
  have z:Held B:=by rw[hB];exact M.nk (λi m=>(h i m).1.1)
  have C:=tf.ft (pd A id key) A (λi m=>(h i m).1.1);rw[<-hB]at C;have w:B.I id=s.I id:=by rw[C.other id Y (λq=>(h _ q).2 rfl),p]
  have y:B.U.length=s.U.length:=by rw[C.same.len,r]
  obtain⟨T,R⟩:=z.locked v (by rw[y];exact u) (by rw[aU,w];exact N) key t O;refine⟨L.locked _ _ _,by simpa using T,λx o=>?_,w,?_,?_⟩
  .obtain⟨d,H,e⟩:=WW _ _ x o;have:=z.ki key d (.inl H);rw[y]at this;exact⟨R x o,by omega,by omega⟩
  .have G:gS s A:=⟨by rw[hA];rfl,by rw[hA];rfl,by rw[hA];rfl,by rw[r],λj=>by rw[p]⟩;have:=G.trans C.same;exact⟨this.l,this.d,this.J,this.len,this.at_⟩
  .have K:=Cut.ft (pd A id key) (s:=A) (λi m=>by rw[r];exact(h i m).1);rw[<-hB]at K;exact⟨by show B.U.length=_;rw[K.len,r],λj W=>by
    have:=K.I j W;rw[p]at this;exact this⟩
 .exact⟨P.locked _ _ _,by simpa using E,λx o=>⟨V x o,D x o⟩,rfl,⟨rfl,rfl,rfl,rfl,λ_=>rfl⟩,⟨rfl,λ_ _=>.inl rfl⟩⟩
structure Kd(s:dp)(id k:Nat)(r:dp):Prop where
 safe:Safe r
 held:Held r
 st:(r.I id).state=1
 wr:(r.I id).writes=(s.I id).writes
 ats:(r.I id).ats=(s.I id).ats\/(r.I id).ats=(s.I id).ats.set k 1
 tm:(r.I id).time=(s.I id).time
 same:gS s r
 cut:∀j:Nat,1<=j->j≠id->r.I j=s.I j\/((s.I j).state=1/\(r.I j).state=4/\∀k,(r.I j).ats.getD k 0=0)
theorem jh.came(h:jh X s)(v:1<=id)(u:id<=s.U.length):jh X (mq s id k):=by
 have e:∀j:Nat,1<=j->((mq s id k).I j).state=(s.I j).state:=λj t=>by
  show((du s id _).I j).state=_;rw[pO s id _ t v u];split
  .rename_i q;rw[q]
  .rfl
 have o:(mq s id k).U.length=s.U.length:=mO _ _ _;refine⟨λd=>(h.apart d).more λx r=>?_,λd c p=>?_,λd c p=>?_,h.small⟩
 .rcases aM.1 r with q|q
  .exact aM.2 (.inl q)
  .obtain⟨m,l,i⟩:=yy.1 q;exact aM.2 (.inr (yy.2 ⟨m,by rw[o];exact l,by rw[e _ (by omega)];exact i⟩))
 .obtain⟨m,l,i⟩:=h.hold d c p;exact⟨m,by rw[o];exact l,by rw[e _ (by omega)];exact i⟩
 .obtain⟨m,l,i⟩:=h.wait d c p;exact⟨m,by rw[o];exact l,by rw[e _ (by omega)];exact i⟩
theorem vm(L:Safe s)(P:Held s)(x:1<=id)(z:id<=s.U.length)(y:(s.I id).state=1)(key:ByteArray)(D:key.size<=20)(O:mode=1\/mode=2):Kd s id (fL s key) (gj s id key mode).1:=by
 have d:=WG L P x z y key D O;have v:(jn s id key mode).2.2≠0->(jn s id key mode).2.1=[]:=by
  have u:∀k:fP,(iz k ⟨(id:Int),mode⟩).2.2.2≠0->(iz k ⟨(id:Int),mode⟩).2.2.1=[]:=λk e=>by
   revert e;unfold iz;split
   .simp
   split
   .simp
   split
   .simp
   split
   .simp
   .simp
  unfold jn;simp only;split
  .exact u _
  .exact u _
 unfold gj;simp only;have stay:(jn s id key mode).2.2≠0->Kd s id (fL s key) (jn s id key mode).1:=λm=>by
  have K:=d.held;rw[v m]at K;exact⟨d.safe,K,by rw[d.me];exact y,by rw[d.me],.inl (by rw[d.me]),by rw[d.me],d.same,λj t _=>d.cut.I j t⟩
 split
 .rename_i e;exact stay (by rw[e];simp)
 split
 .rename_i e;exact stay (by rw[e];simp)
 obtain⟨A,hA⟩:∃A,A=jn s id key mode:=⟨_,rfl⟩;rw[<-hA]at d⊢;have N:A.1.lines=s.lines:=d.same.l;have C:fL A.1 key=fL s key:=by unfold fL dz;rw[N]
 rw[C,aU];have B:A.1.U.length=s.U.length:=d.same.len;have w:dz A.1=dz s:=by unfold dz;rw[N]
 have Q:Safe (mq A.1 id (fL s key)):=d.safe.came x (by rw[B];exact z) (by rw[d.me];exact y) (by rw[w];exact FW L.ll.1 key);have H:=d.held.came (k:=fL s key) x (by rw[B];exact z);have G:(mq A.1 id (fL s key)).U.length=s.U.length:=by show(du _ _ _).U.length=_;rw[mO,B]
 have o:∀i∈A.2.1,1<=i/\i<=((mq A.1 id (fL s key)).U.length:Int):=λi E=>by rw[G];exact(d.wd i E).2
 have F:(mq A.1 id (fL s key)).I id={s.I id with ats:=(s.I id).ats.set (fL s key) 1}:=by
  show(du A.1 id _).I id=_;rw[BV _ _ x (by rw[B];exact z),d.me]
 have T:∀j:Nat,1<=j->j≠id->(mq A.1 id (fL s key)).I j=A.1.I j:=λj t m=>AH _ _ (by omega);have J:=tf.ft A.2.1 (mq A.1 id (fL s key)) (λi E=>(o i E).1);have h:=J.other id x (λq=>by have:=(d.wd _ q).1;omega);rw[F]at h;have r:gS s (mq A.1 id (fL s key)):=d.same.trans (gS.du A.1 id _ (by simp));have hcut:=Cut.ft A.2.1 o;refine⟨Safe.ft _ Q o,jh.rG (ids:=A.2.1) (X:=[]) (by simpa using H) o,by rw[h];exact y,by rw[h],.inr (by rw[h]),by rw[h],r.trans J.same,λj t m=>?_⟩;have R:=d.cut.I j t;have M:=hcut.I j t;rw[T j t m]at M;obtain q|q:=R <;> obtain p|p:=M
 .exact .inl (p.trans q)
 .rw[q]at p;exact .inr p
 .rw[p];exact .inr q
 .omega
theorem yBq:∀(N:Nat) (l:List Nat),l.Nodup->(∀x∈l,x<N)->l.length<=N
|0,l,_,h=>by
  cases l with
 |nil=>simp
 |cons a l=>have:=h a (by simp);omega
|N+1,l,i,h=>by
  by_cases e:N∈l
  .have o:=List.length_erase_of_mem e;have m:=yBq N (l.erase N) (i.erase N) (λx d=>by
    have:=(i.mem_erase_iff).1 d;have:=h x this.2;omega)
   have:=List.length_pos_of_mem e;omega
  .have:=yBq N l i (λx d=>by
    have:=h x d;have:x≠N:=λq=>e (by rw[<-q];exact d);omega)
   omega
theorem BE.few(h:BE s k log)(t:s.U.length<=60):log.length<=305:=by
 have i:∀c∈log,2<=c.kind/\c.kind<=4/\1<=c.I/\c.I<=60:=λc l=>by
  have q:=h.all c l;have v:=q.lo;have u:=q.hi;by_cases e:k=dz s
  .have:=(q.dec e).1;omega
  .have:=q.jl e;omega
 have d:(log.map λc=>(c.kind*61+c.I).toNat).Nodup:=by
  rw[List.Nodup,cH];refine(dA ?_ h.one);intro a b r p m e;have:=i a r;have:=i b p;apply m;omega
 have:=yBq 305 _ d (λx o=>by
  obtain⟨c,l,rfl⟩:=aj.1 o;have:=i c l;omega)
 simpa using this
theorem Safe.nU(h:Safe s)(d:k<s.lines.length):nU (eU s k)=true:=by
 unfold Go.Proofs.YtmaiggbnceejiaaGreatDoor.nU;rw[(h.A k d).place (h.head d)];rfl
theorem Safe.add(h:Safe s)(d:k<s.lines.length)(c:eH):vF (eU s k) c=nc (eU s k) c:=by
 unfold vF;rw[h.nU d,aK];have:=(h.M k d).few h.tl;simp;omega
theorem Safe.grow(h:Safe s)(o:k<s.lines.length){c:eH}(K:Bv s k c)(N:∀d∈(eU s k).M,¬(d.kind=c.kind/\d.I=c.I))(w:k≠dz s->c.kind=3->∃p∈(eU s k).M,p.kind=2/\p.I=c.I):Safe (ny s k c):=by
 unfold ny;rw[h.add o];obtain⟨P,B,O⟩:=FV (eU s k) c;have E:BE s k ((eU s k).M++[c]):=by
  have q:=h.M k o;refine⟨λd v=>?_,bg.2 ⟨q.one,List.pairwise_singleton _ _,λa L b G=>?_⟩,λv i d l t=>?_⟩
  .rcases aM.1 v with e|e
   .exact q.all d e
   .simp at e;rw[e];exact K
  .simp at G;subst G;exact N a L
  .rw[List.getElem?_append]at l;split at l
   .obtain⟨j,p,u,w,D,C⟩:=q.tG v i d l t;exact⟨j,p,u,by rw[aG (by omega)];exact w,D,C⟩
   .rename_i J;have y:d=c:=by
     cases F:i-(eU s k).M.length with
    |zero=>rw[F]at l;simp at l;exact l.symm
    |succ x=>rw[F]at l;simp at l
    subst y;obtain⟨p,Q,D,C⟩:=w v t;obtain⟨j,u⟩:=aP Q;have:=(aB.1 u).1;exact⟨j,p,by omega,by rw[aG this];exact u,D,C⟩
 have z:Safe (kS s k 0 (nc (eU s k) c).1):=by
  refine h.node o (h.head o) P (by rw[B];exact List.prefix_append _ _) ?_ (λi p l _=>by omega) (λ_=>by rw[B];exact E);rw[B];have:=E.few h.tl;omega
 refine z.send λm H=>?_;have r:k<(kS s k 0 (nc (eU s k) c).1).lines.length:=by rw[Ia];exact o
 refine z.sent r (n:=(nc (eU s k) c).1) ?_ (O m H);have e:=z.head_mem r;rw[RP o (h.A k o).ne,aK ⟨rfl,rfl⟩]at e;exact e
structure lz(s s':dp):Prop where
 ll:s'.lines.length=s.lines.length
 dead:s'.dead=s.dead
 tl:s'.U.length=s.U.length
 len:∀k,(s'.A k).nodes.length=(s.A k).nodes.length
 node:∀k (j:Nat) n,(s.A k).nodes[j]?=some n->∃n',(s'.A k).nodes[j]?=some n'/\sq n n'/\n.M <+: n'.M/\(gQ s n=false->n'.M=n.M)
 heard:∀k,(s.A k).heard<=(s'.A k).heard
theorem sq.refl(n:ec):sq n n:=⟨rfl,rfl,rfl⟩
theorem sq.trans{a b c:ec}(h:sq a b)(k:sq b c):sq a c:=⟨k.id.trans h.id,k.ep.trans h.ep,k.cf.trans h.cf⟩
theorem lz.refl(s:dp):lz s s:=⟨rfl,rfl,rfl,λ_=>rfl,λk j n h=>⟨n,h,sq.refl n,cC _,λ_=>rfl⟩,λ_=>aD _⟩
theorem lz.trans(h:lz a b)(q:lz b c):lz a c:=by
 refine⟨q.ll.trans h.ll,q.dead.trans h.dead,q.tl.trans h.tl,λk=>(q.len k).trans (h.len k),λk j n m=>?_,λk=>aO (h.heard k) (q.heard k)⟩;obtain⟨l,w,e,v,p⟩:=h.node k j n m;obtain⟨i,u,t,r,o⟩:=q.node k j l w;refine⟨i,u,e.trans t,v.trans r,λd=>?_⟩;rw[o (by unfold gQ at d⊢;rw[h.dead,e.id];exact d),p d]
theorem lz.node1(r:k<s.lines.length)(l:(s.A k).nodes[j]?=some n)(t:sq n n')(p:n.M <+: n'.M)(u:gQ s n=false->n'.M=n.M):lz s (kS s k j n'):=by
 have h:=λi=>Ee s r j n' i;refine⟨Ia _ _ _ _,rfl,rfl,λi=>?_,λi x m d=>?_,λi=>?_⟩
 .rw[h];split
  .rename_i e;rw[e];simp
  .rfl
 .rw[h];by_cases e:i=k
  .subst e;rw[aK rfl];show ∃q,((s.A i).nodes.set j n')[x]?=some q/\_;rw[rE];by_cases o:x=j
   .subst o;rw[l]at d;cases d
    exact⟨n',by rw[aK ⟨rfl,(aB.1 l).1⟩],t,p,u⟩
   .exact⟨m,by rw[aH (λq=>o q.1)];exact d,sq.refl _,cC _,λ_=>rfl⟩
  .rw[aH e];exact⟨m,d,sq.refl _,cC _,λ_=>rfl⟩
 .rw[h];split
  .rename_i e;rw[e];exact aD _
  .exact aD _
theorem lz.J(h:lz s s')(net:fS):lz s {s' with J:=net}:=⟨h.ll,h.dead,h.tl,h.len,h.node,h.heard⟩
structure iN(s s':dp):Prop where
 mv:lz s s'
 U:s'.U=s.U
 keys:s'.keys=s.keys
 down:s'.J.down=s.J.down
 heard:∀k,(s'.A k).heard=(s.A k).heard
 few:s.J.way.length<=200->s'.J.way.length<=200
theorem yDl{s:fS}(h:s.way.length<=200)(m:eG):(lC s m).way.length<=200:=by
 unfold lC;split
 .exact h
 .rename_i e;simp only[cA,aw,not_or]at e;simp;omega
theorem Vx:∀(ms:List eG) {s:fS},s.way.length<=200->(kp s ms).way.length<=200
|[],_,h=>h
|m::ms,s,h=>Vx ms (yDl h m)
theorem iN.refl(s:dp):iN s s:=⟨lz.refl s,rfl,rfl,rfl,λ_=>rfl,id⟩
theorem iN.trans(h:iN a b)(q:iN b c):iN a c:=⟨h.mv.trans q.mv,q.U.trans h.U,q.keys.trans h.keys,q.down.trans h.down,λk=>(q.heard k).trans (h.heard k),λe=>q.few (h.few e)⟩
theorem WK:∀(ms:List eG) (s:fS),(kp s ms).down=s.down
|[],s=>rfl
|m::ms,s=>by show(kp (lC s m) ms).down=_;rw[WK,Zb]
theorem iN.node1(d:k<s.lines.length)(l:(s.A k).nodes[j]?=some n)(m:sq n n')(h:n.M <+: n'.M)(o:gQ s n=false->n'.M=n.M)(ms:List eG):iN s (sd (kS s k j n') ms):=by
 refine⟨(lz.node1 d l m h o).J _,rfl,rfl,WK _ _,λi=>?_,λe=>Vx ms e⟩;show((kS s k j n').A i).heard=_;rw[Ee s d];split
 .rename_i e;rw[e]
 .rfl
theorem iN.add(h:Safe s)(d:k<s.lines.length)(l:gQ s (eU s k)=true)(c:eH):iN s (ny s k c)/\(∀i,eU (ny s k c) i=if i=k then(nc (eU s k) c).1 else eU s i):=by
 unfold ny;rw[h.add d];obtain⟨o,m,p⟩:=FV (eU s k) c;refine⟨iN.node1 d (h.head d) o (by rw[m];exact List.prefix_append _ _) (λq=>by rw[l]at q;cases q) _,λi=>?_⟩;show eU (kS s k 0 _) i=_;rw[RP d (h.A k d).ne];by_cases e:i=k
 .rw[aK ⟨e,rfl⟩,aK e]
 .rw[aH (λq=>e q.1),aH e]
theorem WI{tx:Int}:mC log kind tx=none↔∀d∈log,¬(d.kind=kind/\d.I=tx):=by
 unfold mC;rw[List.findIdx?_eq_none_iff];simp only[Bool.and_eq_false_iff,bc];constructor
 .intro h d i q;exact(h d i).elim (λe=>e q.1) (λe=>e q.2)
 .intro h d i;by_cases e:d.kind=kind
  .exact .inr λl=>h d i ⟨e,l⟩
  .exact .inl e
theorem Qj{l l':List eH}(h:om l kind id)(d:∀c∈l,c∈l'):om l' kind id:=by
 obtain⟨c,e,q⟩:=h;exact⟨c,d c e,q⟩
theorem EW(k:Nat):∀c∈kN s k,c∈(eU s k).M:=λc d=>cS d
theorem Mg(h:Safe s)(w:1<=id)(v:id<=s.U.length)(B:k<s.lines.length)(ht:1<=time/\time<=501){c:eH}(d:gF s id k time=some c) :
  Bv s k c/\c.I=id/\(k≠dz s->c.kind=3->∃p∈(eU s k).M,p.kind=2/\p.I=c.I):=by
 have m:=h.I id w v;have l:(1:Int)<=(id:Int):=by omega
 have i:(id:Int)<=(s.U.length:Int):=by omega
 unfold gF at d;simp only at d;split at d
 .rename_i e;split at d
  .rename_i q
   cases d
   exact⟨⟨l,i,λ_=>⟨rfl,ht,.inl (by simpa using q.1),by simpa using q.2⟩,λq=>absurd e q⟩,rfl,λq=>absurd e q⟩
  .cases d
 .rename_i e;split at d
  .cases d
  .rename_i u;split at d
   .rename_i q
    cases d
    exact⟨⟨l,i,λq=>absurd q e,λ_=>.inl ⟨rfl,by rw[aU,q];simp,by simpa using u⟩⟩,rfl,λ_ q=>by simp at q⟩
   .split at d
    .rename_i q
     cases d
     obtain⟨A,z,C⟩:=m.Mh q;have r:k<dz s:=by unfold dz at e⊢;omega
     have o:(s.I id).ats.getD k 0=2:=by
      have:=m.pE k;have:=KP.1 A k;omega
     refine⟨⟨l,i,λq=>absurd q e,λ_=>.inr (.inl ⟨rfl,by simpa using q,z⟩)⟩,rfl,λ_ _=>?_⟩;obtain⟨p,t,y,x⟩:=m.sure k r o;exact⟨p,EW k p t,y,x⟩
    .split at d
     .rename_i q
      cases d
      exact⟨⟨l,i,λq=>absurd q e,λ_=>.inr (.inr ⟨rfl,by simpa using q⟩)⟩,rfl,λ_ q=>by simp at q⟩
     .cases d
structure Ie(s S:dp)(k j:Nat):Prop where
 safe:Safe S
 tells:iN s S
 more:∃X,(eU S k).M=(eU s k).M++X/\∀c∈X,c.I<=(j:Int)
 told:∀id,1<=id->id<=j->∀time c,gF s id k time=some c->om (eU S k).M c.kind id
 other:∀i,i≠k->eU S i=eU s i
 live:gQ S (eU S k)=true
theorem yKx{c:eH}(h:gF s id k time=some c)(t':Int):∃d,gF s id k t'=some d/\d.kind=c.kind/\d.I=c.I:=by
 unfold gF at h⊢;simp only at h⊢;split at h
 .rename_i e;rw[aK e];split at h
  .rename_i q;rw[aK q];cases h;exact⟨_,rfl,rfl,rfl⟩
  .cases h
 .rename_i e;rw[aH e];exact⟨c,h,rfl,rfl⟩
theorem ySa(ht:S.U=s.U)(e:S.lines.length=s.lines.length)(id k:Nat)(time:Int):gF S id k time=gF s id k time:=by
 have i:S.I id=s.I id:=by unfold dp.I;rw[ht]
 have d:dz S=dz s:=by unfold dz;rw[e]
 have h:∀t,vn S t k=vn s t k:=λt=>by unfold vn fL;rw[d]
 unfold gF;simp only[i,d,h]
theorem Ie.step(Q:k<s.lines.length)(V:j<s.U.length)(h:Ie s S k j):Ie s (gY S k (eU s k).M (j+1)) k (j+1):=by
 have y:k<S.lines.length:=by rw[h.tells.mv.ll];exact Q
 have H:=(h.safe.M k y).few h.safe.tl;have E:=ySa h.tells.U h.tells.mv.ll (j+1) k;obtain⟨X,x,p⟩:=h.more;have skip:(∀time c,gF s (j+1) k time=some c->om (eU S k).M c.kind (j+1))->Ie s S k (j+1):=λR=>
  ⟨h.safe,h.tells,⟨X,x,λc r=>by have:=p c r;omega⟩,λid z O time c r=>by
   by_cases e:id=j+1
   .subst e;exact R time c r
   .exact h.told id z (by omega) time c r,h.other,h.live⟩
 unfold gY
 cases u:gF S (j+1) k ((eU S k).M.length+1)with
|none=>
  refine skip λtime c r=>?_;obtain⟨o,l,_⟩:=yKx r ((eU S k).M.length+1);rw[E]at u;rw[u]at l;cases l
|some c=>
  show Ie s (if (mC (eU s k).M c.kind ((j+1:Nat):Int)).isNone then ny S k c else S) k (j+1);obtain⟨N,w,L⟩:=Mg h.safe (by omega) (by rw[h.tells.mv.tl];omega) y (by omega) u;have F:∀time o,gF s (j+1) k time=some o->o.kind=c.kind:=λtime o l=>by
   obtain⟨W,D,K,_⟩:=yKx l ((eU S k).M.length+1);rw[E]at u;rw[u]at D;cases D
   exact K.symm
  cases A:mC (eU s k).M c.kind ((j+1:Nat):Int)with
 |some i=>
   simp only[Option.isNone_some,cX,if_false];refine skip λtime o l=>?_;rw[F time o l];have:¬∀d∈(eU s k).M,¬(d.kind=c.kind/\d.I=((j+1:Nat):Int)):=λq=>by rw[WI.2 q]at A;cases A
   apply aS;intro P;apply this;intro d m q;exact P ⟨d,by rw[x];exact bW _ m,q⟩
 |none=>
   simp only[Option.isNone_none,if_true];have B:=WI.1 A;have T:=h.safe.grow y N (λd m q=>by
    rw[x]at m;rcases aM.1 m with e|e
    .exact B d e ⟨q.1,by rw[q.2,w]⟩
    .have:=p d e;rw[q.2,w]at this;omega) L
   obtain⟨C,v⟩:=iN.add h.safe y h.live c;have t:=(FV (eU S k) c).2.1;refine⟨T,h.tells.trans C,⟨X++[c],?_,λd m=>?_⟩,λid z O time o l=>?_,λi J=>?_,?_⟩
   .rw[v k,aK rfl,t,x,aV]
   .rcases aM.1 m with e|e
    .have:=p d e;omega
    .simp at e;rw[e,w];omega
   .rw[v k,aK rfl,t];by_cases e:id=j+1
    .subst e;exact⟨c,by simp,(F time o l).symm,w⟩
    .exact Qj (h.told id z (by omega) time o l) (λd m=>bW _ m)
   .rw[v i,aH J];exact h.other i J
   .rw[v k,aK rfl];have G:=h.live;unfold gQ at G⊢;rw[C.mv.dead,(FV (eU S k) c).1.id];exact G
theorem OD(h:Safe s)(m:k<s.lines.length)(e:vV s k=some n):n=eU s k/\gQ s n=true:=by
 have d:=h.head m;unfold vV at e
 cases i:(s.A k).nodes with
|nil=>rw[i]at e;cases e
|cons a l=>
  rw[i]at e d;simp only at e;split at e
  .rename_i q;cases e;simp at d;exact⟨d,q⟩
  .cases e
theorem Ym(h:Safe s)(m:k<s.lines.length)(e:vV s k=none):gQ s (eU s k)=false:=by
 have d:=h.head m;unfold vV at e
 cases i:(s.A k).nodes with
|nil=>exact absurd i (h.A k m).ne
|cons a l=>
  rw[i]at e d;simp only at e;simp at d;subst d;split at e
  .cases e
  .rename_i q;simpa using q
def Told(s:dp)(k:Nat):Prop:=∀id,1<=id->id<=s.U.length->∀time c,gF s id k time=some c->om (eU s k).M c.kind id
theorem Zq(h:Safe s)(l:k<s.lines.length):Safe (fD s k)/\iN s (fD s k)/\(gQ s (eU s k)=true->Told (fD s k) k)/\(∀i,i≠k->eU (fD s k) i=eU s i):=by
 unfold fD
 cases p:vV s k with
|none=>exact⟨h,iN.refl s,λ(q:gQ s (eU s k)=true)=>absurd q (by rw[Ym h l p];simp),λ_ _=>rfl⟩
|some n=>
  obtain⟨rfl,u⟩:=OD h l p;simp only;have d:∀m,m<=s.U.length->Ie s (((List.range m).map (·+1)).foldl (λh id=>gY h k (eU s k).M id) s) k m:=by
   intro m
   induction m with
  |zero=>exact λ_=>⟨h,iN.refl s,⟨[],by simp,by simp⟩,λid o e=>by omega,λ_ _=>rfl,u⟩
  |succ m t=>
    intro v;rw[aZ,ay,ae];exact(t (by omega)).step l (by omega)
  have q:=d s.U.length (aD _);refine⟨q.safe,q.tells,λ_ id o e time c r=>?_,q.other⟩;rw[ySa q.tells.U q.tells.mv.ll]at r;exact q.told id o (by rw[q.tells.mv.tl]at e;exact e) time c r
theorem uO(h:Safe s):Safe (kR s)/\iN s (kR s)/\∀k,k<s.lines.length->gQ s (eU s k)=true->Told (kR s) k:=by
 have l:∀m,m<=s.lines.length->Safe ((List.range m).foldl fD s)/\iN s ((List.range m).foldl fD s)/\(∀k,k<m->gQ s (eU s k)=true->Told ((List.range m).foldl fD s) k)/\(∀k,m<=k->eU ((List.range m).foldl fD s) k=eU s k):=by
  intro m
  induction m with
 |zero=>exact λ_=>⟨h,iN.refl s,λk t=>by omega,λ_ _=>rfl⟩
 |succ m w=>
   intro B;rw[aZ,ae];obtain⟨a,b,c,d⟩:=w (by omega);generalize (List.range m).foldl fD s=S at a b c d;have v:m<S.lines.length:=by rw[b.mv.ll];omega
   obtain⟨A,i,z,u⟩:=Zq a v;refine⟨A,b.trans i,λk t o=>?_,λk t=>?_⟩
   .by_cases e:k=m
    .subst e;refine z ?_;rw[d k (aD _)];unfold gQ at o⊢;rw[b.mv.dead];exact o
    .intro id y x time r q;have p:gF S id k time=some r:=(ySa i.U i.mv.ll id k time).symm.trans q;show om (eU (fD S m) k).M r.kind id;rw[u k e];exact c k (by omega) o id y (by have:=i.mv.tl;show id<=S.U.length;rw[<-this];exact x) time r p
   .show eU (fD S m) k=_;rw[u k (by omega)];exact d k (by omega)
 obtain⟨a,b,c,_⟩:=l s.lines.length (aD _);exact⟨a,b,c⟩
def bump(s:dp)(k:Nat):dp:=tB s k ⟨(s.A k).nodes,(s.A k).heard+1⟩
theorem KN(s:dp)(d:k<s.lines.length)(i:Nat):(bump s k).A i=if i=k then⟨(s.A k).nodes,(s.A k).heard+1⟩else s.A i:=Qo s k _ i d
theorem BS(s:dp)(k:Nat):(bump s k).lines.length=s.lines.length:=by simp[bump,tB]
theorem OG(s:dp)(d:k<s.lines.length)(i:Nat):eU (bump s k) i=eU s i:=by
 unfold eU;rw[KN s d];split
 .rename_i e;rw[e]
 .rfl
theorem Safe.bump(h:Safe s)(t:k<s.lines.length)(D:∀n∈(s.A k).nodes,(s.A k).heard<n.M.length):Safe (bump s k):=by
 have l:dz (Go.Proofs.YtmaiggbnceejiaaGreatDoor.bump s k)=dz s:=by unfold dz;rw[BS]
 have p:=λi=>KN s t i;have r:∀i,((Go.Proofs.YtmaiggbnceejiaaGreatDoor.bump s k).A i).nodes=(s.A i).nodes:=λi=>by
  rw[p];split
  .rename_i e;rw[e]
  .rfl
 have w:∀i,∀c∈kN s i,c∈kN (Go.Proofs.YtmaiggbnceejiaaGreatDoor.bump s k) i:=λi c o=>by
  unfold kN at o⊢;rw[OG s t,p];split
  .rename_i e;rw[e]at o⊢;exact cS (i:=(s.A k).heard) (by rw[List.take_take,Nat.min_eq_left (by simp)];exact o)
  .exact o
 refine⟨by rw[BS];exact h.ll,h.tl,λi d=>?_,λi d=>?_,λm C F i d x u e=>?_,λid z y=>?_⟩
 .rw[BS]at d;rw[p];split
  .rename_i e;subst e;have q:=h.A i d;exact⟨q.ne,q.ord,q.pE,q.cfg,q.ep,λn r=>D n r,q.few⟩
  .exact h.A i d
 .rw[BS]at d;rw[OG s t];exact(h.M i d).of rfl l
 .rw[BS]at d;rw[r]at u;exact h.msg m C F i d x u e
 .have q:=h.I id z y;exact⟨by rw[BS];exact q.len,q.st,q.pE,by rw[l];exact q.dec,q.op,λj v E=>Qj (q.sure j (by rw[l]at v;exact v) E) (w j),λB=>by
   rw[l];obtain⟨a,b,c⟩:=q.Mh B;exact⟨a,b,Qj c (w _)⟩,q.tm,q.few⟩
theorem jh.lines(h:jh X s)(i:s'.keys=s.keys)(ht:s'.U=s.U):jh X s':=by
 have e:∀j,s'.I j=s.I j:=λj=>by unfold dp.I;rw[ht]
 have l:Ig s'=Ig s:=by unfold Ig;rw[ht];simp only[e]
 exact⟨λk=>by rw[l,i];exact h.apart k,λk c d=>by rw[i]at d;rw[ht,e];exact h.hold k c d,λk c d=>by rw[i]at d;rw[ht,e];exact h.wait k c d,by rw[i];exact h.small⟩
theorem OE(s:dp)(h:k<s.lines.length)(c:eH):mw k s c=mj (bump s k) k c:=by
 have e:dz (bump s k)=dz s:=by unfold dz;rw[BS]
 have d:(mj s k c).A k=s.A k:=by unfold dp.A;rw[(gS.follow s k c).l]
 unfold mw;rw[d];unfold mj;rw[e];split
 .rfl
 .split
  .rfl
  .rfl
structure lx(s s':dp):Prop where
 len:s.U.length<=s'.U.length
 fin:∀j,1<=j->j<=s.U.length->3<=(s.I j).state->(s'.I j).state=(s.I j).state
theorem lx.refl(s:dp):lx s s:=⟨aD _,λ_ _ _ _=>rfl⟩
theorem lx.trans(h:lx a b)(k:lx b c):lx a c:=⟨aO h.len k.len,λj l i d=>by
 have e:=h.fin j l i d;rw[k.fin j l (aO i h.len) (by rw[e];exact d),e]⟩
theorem lx.of(h:s'.U=s.U):lx s s':=⟨by rw[h];exact aD _,λj _ _ _=>by unfold dp.I;rw[h]⟩
structure yZf(s s':dp):Prop where
 safe:Safe s'
 held:Held s'
 same:gS s s'
 fin:lx s s'
theorem yIm(h:Safe s)(D:Held s)(hk:k<s.lines.length){c:eH}(A:c∈kN s k):yZf s (mj s k c):=by
 have R:=EW k c A;have q:=(h.M k hk).all c R;have hlo:=q.lo;have hhi:=q.hi;obtain⟨id,hid⟩:∃id:Nat,c.I=id:=⟨c.I.toNat,by omega⟩;have O:1<=id:=by omega
 have N:id<=s.U.length:=by omega
 have o:=h.I id O N;have l:=gS.follow s k c;unfold mj at l⊢;rw[hid,aU]at l⊢;split
 .rename_i e;rw[aK e]at l;obtain⟨d1,W,d3,d4⟩:=q.dec e;rw[hid,aU]at d3 d4;have e1:pA (du s id {s.I id with time:=c.time}) id 3={du s id {s.I id with state:=3,writes:=[],time:=c.time}with keys:=gg s.keys id}:=by
   unfold pA;rw[BV s _ O N];simp only[du,List.set_set]
  have et:(pA (du s id {s.I id with time:=c.time}) id 3).I id={s.I id with state:=3,writes:=[],time:=c.time}:=by
   rw[e1];exact BV s _ O N
  have z:∀j,j-1≠id-1->(pA (du s id {s.I id with time:=c.time}) id 3).I j=s.I j:=λj L=>by
   rw[e1];exact AH s _ L
  have y:(pA (du s id {s.I id with time:=c.time}) id 3).U.length=s.U.length:=l.len;refine⟨?_,?_,l,⟨by rw[y];exact aD _,λj J B j3=>?_⟩⟩
  .refine h.U rfl rfl (by rw[y];exact h.tl) (λk' Y P T t=>?_) (λj J B=>?_)
   .by_cases m:Y.I.toNat=id
    .refine⟨t.lo,by rw[y];exact t.hi,λC=>?_,λC=>?_⟩
     .obtain⟨r,u,v,H⟩:=t.dec C;rw[m,et];rw[m]at H;exact⟨r,u,.inr rfl,H⟩
     .rw[m,et];have p:=t.jl C;rw[m]at p;obtain⟨r,u,v⟩|⟨r,u,v⟩|⟨r,u⟩:=p
      .exact .inl ⟨r,by simp,v⟩
      .exact .inr (.inl ⟨r,rfl,v⟩)
      .omega
    .have:=t.lo;exact t.same y rfl (z _ (by omega))
   .by_cases m:j=id
    .subst m;refine⟨?_,?_,?_,?_,?_,?_,?_,?_,?_⟩
     all_goals rw[et]
     .exact o.len
     .simp
     .exact o.pE
     .exact o.dec
     .intro K;simp at K
     .exact o.sure
     .intro _;refine⟨d4,W.1,c,?_,d1,hid⟩;rw[e]at A;exact A
     .exact⟨by have:=W.1;show 0<=c.time;omega,W.2⟩
     .simp
    .exact(h.I j J (by rw[y]at B;exact B)).same (z j (by omega)) rfl
  .refine D.leave (i:=(id:Int)) rfl y (λj L hne=>?_) (λx o=>by simp at o);rw[z j (by omega)]
  .by_cases m:j=id
   .subst m;rw[et];obtain d3|d3:=d3
    .omega
    .rw[d3]
   .rw[z j (by omega)]
 .rename_i e;rw[aH e]at l;split
  .rename_i e3;rw[aK e3]at l;have Cx:(s.I id).state≠1:=by
    rcases q.jl e with p|p|p
    .rw[hid,aU]at p;exact p.2.1
    .omega
    .omega
   have mV:k<dz s:=by unfold dz at e⊢;omega
   have et:(du s id {s.I id with ats:=(s.I id).ats.set k 2}).I id={s.I id with ats:=(s.I id).ats.set k 2}:=BV s _ O N;have z:∀j,j-1≠id-1->(du s id {s.I id with ats:=(s.I id).ats.set k 2}).I j=s.I j:=λj L=>AH s _ L;have Ot:ve (s.I id)=true->ve {s.I id with ats:=(s.I id).ats.set k 2}=true:=λhr=>by
    refine KP.2 λj=>?_;show((s.I id).ats.set k 2).getD j 0≠1;rw[pQ];split
    .omega
    .exact KP.1 hr j
   refine⟨?_,?_,l,⟨by rw[l.len];exact aD _,λj J B j3=>?_⟩⟩
   .refine h.U rfl rfl (by rw[l.len];exact h.tl) (λk' Y P T t=>?_) (λj J B=>?_)
    .by_cases m:Y.I.toNat=id
     .refine⟨t.lo,by rw[l.len];exact t.hi,λC=>?_,λC=>?_⟩
      .obtain⟨r,u,v,H⟩:=t.dec C;rw[m,et];rw[m]at v H;exact⟨r,u,v,Ot H⟩
      .rw[m,et];have p:=t.jl C;rw[m]at p;obtain⟨r,u,v⟩|⟨r,u,v⟩|⟨r,u⟩:=p
       .refine .inl ⟨r,u,?_⟩;show((s.I id).ats.set k 2).getD k' 0≠0;rw[pQ];split
        .omega
        .exact v
       .exact .inr (.inl ⟨r,u,v⟩)
       .exact .inr (.inr ⟨r,u⟩)
     .have:=t.lo;exact t.same l.len rfl (z _ (by omega))
    .by_cases m:j=id
     .subst m;refine⟨?_,?_,?_,?_,?_,?_,?_,?_,?_⟩
      all_goals rw[et]
      .show((s.I j).ats.set k 2).length=s.lines.length;rw[ai];exact o.len
      .exact o.st
      .intro i;show 0<=((s.I j).ats.set k 2).getD i 0/\_<=_;rw[pQ];split
       .omega
       .exact o.pE i
      .show((s.I j).ats.set k 2).getD (dz s) 0=0;rw[pQ,aH (by omega)];exact o.dec
      .intro K;exact absurd K Cx
      .intro i hi Q;have Z:((s.I j).ats.set k 2).getD i 0=2:=Q;rw[pQ]at Z;split at Z
       .rename_i e4;rw[e4.1];exact⟨c,A,e3,hid⟩
       .exact o.sure i hi Z
      .intro K;obtain⟨a,b,d⟩:=o.Mh K;exact⟨Ot a,b,d⟩
      .exact o.tm
      .exact o.few
     .exact(h.I j J (by rw[l.len]at B;exact B)).same (z j (by omega)) rfl
   .have V:∀j:Nat,1<=j->((du s id {s.I id with ats:=(s.I id).ats.set k 2}).I j).state=(s.I j).state:=λj L=>by
     by_cases m:j=id
     .rw[m,et]
     .rw[z j (by omega)]
    have y:=l.len;refine⟨λw=>(D.apart w).more λx o=>?_,λw c A=>?_,λw c A=>?_,D.small⟩
    .simp only[aa]at o⊢;obtain⟨G,F,E⟩:=yy.1 o;exact yy.2 ⟨G,by rw[y];exact F,by rw[V _ (by omega)];exact E⟩
    .obtain⟨G,F,E⟩:=D.hold w c A;exact⟨G,by rw[y];exact F,by rw[V _ (by omega)];exact E⟩
    .obtain⟨G,F,E⟩:=D.wait w c A;exact⟨G,by rw[y];exact F,by rw[V _ (by omega)];exact E⟩
   .by_cases m:j=id
    .rw[m,et]
    .rw[z j (by omega)]
  .exact⟨h,D,gS.refl s,lx.refl s⟩
structure rj(s s':dp):Prop where
 safe:Safe s'
 held:Held s'
 same:uG s s'
 fin:lx s s'
 heard:∀k,(s.A k).heard<=(s'.A k).heard
theorem rj.refl(h:Safe s)(d:Held s):rj s s:=⟨h,d,uG.refl s,lx.refl s,λ_=>aD _⟩
theorem rj.trans(h:rj a b)(k:rj b c):rj a c:=⟨k.safe,k.held,h.same.trans k.same,h.fin.trans k.fin,λi=>aO (h.heard i) (k.heard i)⟩
theorem rj.mv(h:rj s s'):lz s s':=
 ⟨h.same.ll,h.same.d,h.same.len,λk=>by rw[h.same.nodes],λk j n e=>⟨n,by rw[h.same.nodes];exact e,sq.refl n,cC _,λ_=>rfl⟩,h.heard⟩
theorem ZM(h:Safe s)(x:Held s)(d:k<s.lines.length){c:eH}(t:∀n∈(s.A k).nodes,n.M[(s.A k).heard]?=some c):rj s (mw k s c)/\((mw k s c).A k).heard=(s.A k).heard+1:=by
 have w:=h.bump d (λn u=>(aB.1 (t n u)).1);have r:Held (bump s k):=x.lines rfl rfl;have o:k<(bump s k).lines.length:=by rw[BS];exact d
 have p:c∈kN (bump s k) k:=by
  unfold kN;rw[OG s d,KN s d,aK rfl];have:=t _ (h.head_mem d);show c∈(eU s k).M.take ((s.A k).heard+1);rw[rq this];simp
 have q:=yIm w r o p;rw[<-OE s d]at q;have v:(mw k s c).A k=(bump s k).A k:=by unfold dp.A;rw[q.same.l]
 refine⟨⟨q.safe,q.held,WT s k c d,(lx.of (s:=s) (s':=bump s k) rfl).trans q.fin,λi=>?_⟩,?_⟩
 .have m:(mw k s c).A i=(bump s k).A i:=by unfold dp.A;rw[q.same.l]
  rw[m,KN s d];split
  .rename_i e;rw[e];simp
  .exact aD _
 .rw[v,KN s d,aK rfl]
theorem zZo:∀(e:List eH) {s:dp},Safe s->Held s->k<s.lines.length->(∀n∈(s.A k).nodes,∃r,n.M.drop (s.A k).heard=e++r)->rj s (e.foldl (mw k) s)
|[],s,h,m,_,_=>rj.refl h m
|c::e,s,h,m,o,p=>by
  obtain⟨q,t⟩:=ZM h m o (c:=c) (λn d=>by
   obtain⟨r,i⟩:=p n d;have:=an (λl=>l[0]?) i;simpa using this)
  refine q.trans (zZo e q.safe q.held (by rw[q.same.ll];exact o) λn d=>?_);rw[q.same.nodes]at d;obtain⟨r,i⟩:=p n d;refine⟨r,?_⟩;rw[t,<-List.drop_drop,i];rfl
theorem Zl(h:Safe s)(o:Held s)(d:k<s.lines.length):rj s (iI s k)/\lX (iI s k) k=[]:=by
 have e:=h.A k d;have q:rj s (iI s k):=zZo (lX s k) h o d λn m=>by
  obtain⟨r,l⟩:=e.last ⟨0,0,[],[],0⟩ m;refine⟨r,?_⟩;rw[<-l];unfold lX qf;rw[dL];exact e.heard _ (Ql e.ne _)
 refine⟨q,?_⟩;have i:((iI s k).A k).heard=_:=WQ k (lX s k) s d k;rw[aK rfl]at i;unfold lX qf;rw[q.same.nodes,i];apply dF;have:(lX s k).length=(qf s k).M.length-(s.A k).heard:=by unfold lX;rw[bT]
 unfold qf at this;omega
theorem OI(h:Safe s)(r:Held s):rj s (pZ s)/\∀k,k<s.lines.length->lX (pZ s) k=[]:=by
 have i:∀m,m<=s.lines.length->rj s (pI s m)/\∀k,k<m->lX (pI s m) k=[]:=by
  intro m
  induction m with
 |zero=>exact λ_=>⟨rj.refl h r,λk q=>by omega⟩
 |succ m p=>
   intro t;rw[RH];obtain⟨a,b⟩:=p (by omega);have o:m<(pI s m).lines.length:=by rw[a.same.ll];omega
   obtain⟨c,d⟩:=Zl a.safe a.held o;refine⟨a.trans c,λk q=>?_⟩;by_cases e:k=m
   .rw[e];exact d
   .have l:=b k (by omega);unfold lX qf at l⊢;rw[c.same.nodes];have:=c.heard k;rw[dg]at l⊢;omega
 exact i s.lines.length (aD _)
theorem Safe.news(h:Safe s):yXj s:=λk e=>by
 have i:=h.A k e;have d:=Ql i.ne (⟨0,0,[],[],0⟩:ec);refine⟨i.heard _ d,λc l=>?_⟩;have:=(h.logs e d).all c (cT l);exact⟨this.lo,this.hi⟩
theorem EM:rp s=false↔∀k,k<s.lines.length->lX s k=[]:=by
 unfold rp;rw[List.any_eq_false];simp
def iQ(f:Nat->Nat):Nat->Nat
|0=>0
|n+1=>iQ f n+f n
theorem FR:∀{n:Nat},(∀k,k<n->f k<=g k)->iQ f n<=iQ g n
|0,_=>aD _
|n+1,h=>Nat.add_le_add (FR λk d=>h k (by omega)) (h n (by omega))
theorem Nt:∀{n:Nat},(∀k,k<n->f k<=g k)->∀k,k<n->f k<g k->iQ f n<iQ g n
|0,_,k,i,_=>by omega
|n+1,h,k,i,d=>by
  by_cases e:k=n
  .subst e;exact Nat.add_lt_add_of_le_of_lt (FR λj l=>h j (by omega)) d
  .exact Nat.add_lt_add_of_lt_of_le (Nt (λj l=>h j (by omega)) k (by omega) d) (h n (by omega))
theorem WL{B:Nat}:∀{n:Nat},(∀k,k<n->f k<=B)->iQ f n<=B*n
|0,_=>aT _
|n+1,h=>by
  have:=WL (n:=n) λk d=>h k (by omega);have:=h n (by omega);show iQ f n+f n<=B*(n+1);rw[Nat.mul_succ];omega
def KH(s:dp):Nat:=iQ (λk=>(s.A k).heard) s.lines.length
theorem yEx(h:Safe s):KH s<=500*s.lines.length:=WL λk e=>by
 have i:=h.A k e;have d:=h.head_mem e;exact aO (i.heard _ d) (i.few _ d)
structure lT(s s':dp):Prop where
 safe:Safe s'
 held:Held s'
 mv:lz s s'
 fin:lx s s'
 down:s'.J.down=s.J.down
 few:s.J.way.length<=200->s'.J.way.length<=200
theorem lT.refl(h:Safe s)(d:Held s):lT s s:=⟨h,d,lz.refl s,lx.refl s,rfl,id⟩
theorem lT.trans(h:lT a b)(k:lT b c):lT a c:=⟨k.safe,k.held,h.mv.trans k.mv,h.fin.trans k.fin,k.down.trans h.down,λe=>k.few (h.few e)⟩
theorem rj.tD(h:rj s s'):lT s s':=⟨h.safe,h.held,h.mv,h.fin,by rw[h.same.J],λe=>by rw[h.same.J];exact e⟩
theorem iN.tD(h:iN s s')(d:Safe s')(e:Held s):lT s s':=⟨d,e.lines h.keys h.U,h.mv,lx.of h.U,h.down,h.few⟩
theorem KU(h:Safe s)(t:Held s):lT s (kR (pZ s))/\KH s+(if rp s then 1 else 0)<=KH (kR (pZ s)):=by
 obtain⟨a,b⟩:=OI h t;obtain⟨c,d,_⟩:=uO a.safe;refine⟨a.tD.trans (d.tD c a.held),?_⟩;have e:KH (kR (pZ s))=iQ (λk=>((pZ s).A k).heard) s.lines.length:=by
  unfold KH;rw[d.mv.ll,a.same.ll];simp only[d.heard]
 rw[e];split
 .rename_i m;have:∃k,k<s.lines.length/\lX s k≠[]:=by
   apply aS;intro p;have:rp s=false:=EM.2 λk l=>aS λq=>p ⟨k,l,q⟩;rw[this]at m;cases m
  obtain⟨k,l,i⟩:=this;refine Nt (λj r=>a.heard j) k l ?_;have o:=b k l;unfold lX qf at o i;rw[a.same.nodes,dg]at o;rw[Ne,dg]at i;omega
 .exact FR (λj r=>a.heard j)
theorem zTp:∀(n:Nat) {s:dp},Safe s->Held s->lT s (fT n s)
|0,s,h,d=>lT.refl h d
|n+1,s,h,d=>by
  unfold fT;split
  .have q:=(KU h d).1;exact q.trans (zTp n q.safe q.held)
  .exact lT.refl h d
theorem zVc:∀(n:Nat) {s:dp},Safe s->Held s->500*s.lines.length-KH s<n->rp (fT n s)=false
|0,s,h,d,l=>by omega
|n+1,s,h,d,l=>by
  unfold fT;by_cases e:rp s=true
  .rw[aK e];obtain⟨q,i⟩:=KU h d;rw[aK e]at i;have:=yEx q.safe;rw[q.mv.ll]at this;exact zVc n q.safe q.held (by rw[q.mv.ll];omega)
  .rw[aH e];simpa using e
theorem AK(h:Safe s)(d:Held s):lT s (nK s)/\rp (nK s)=false:=by
 unfold nK;exact⟨zTp _ h d,zVc _ h d (by omega)⟩
end Go.Proofs.YtmaiggbnceejiaaGreatDoor
namespace Go.Proofs.YtmaiggbnceejiaaGreatDoor
variable {h s:dp}{ns:List ec}{id x:Int}{j k:Nat}{n:ec}{m:eG}{l:jS}{t:jz}
theorem yNi(e:BI h ns id=some j):∃n,ns[j]?=some n/\gQ h n=true/\n.id=id:=by
 unfold BI at e;rw[cF]at e;obtain⟨b,a,_⟩:=e;simp only[bX,aw]at a;exact⟨ns[j],aA b,a.1,a.2⟩
theorem zZe:∀{k0:Nat}{a:List jS}{k j:Nat},yt h id k0 a=some (k,j)->∃l n,k0<=k/\a[k-k0]?=some l/\l.nodes[j]?=some n/\gQ h n=true/\n.id=id
|k0,[],k,j,e=>by simp[yt]at e
|k0,l::a,k,j,e=>by
  unfold yt at e
  cases b:BI h l.nodes id with
 |some i=>
   rw[b]at e;simp only[ag,Prod.mk.injEq]at e;obtain⟨rfl,rfl⟩:=e;obtain⟨n,q⟩:=yNi b;exact⟨l,n,aD _,by simp,q⟩
 |none=>
   rw[b]at e;obtain⟨f,n,g,d,c⟩:=zZe e;exact⟨f,n,by omega,by rw[show k-k0=(k-(k0+1))+1 by omega];simpa using d,c⟩
theorem EY(e:nf s id=some (k,j)):k<s.lines.length/\∃n,(s.A k).nodes[j]?=some n/\gQ s n=true/\n.id=id:=by
 obtain⟨l,n,_,a,d⟩:=zZe e;rw[Nat.sub_zero]at a;have b:=(aB.1 a).1;have c:=nM b;rw[a]at c
 cases c
 exact⟨b,n,d⟩
theorem qi(h:(s.A k).nodes[j]?=some n):eZ s k j=n:=by
 unfold eZ;rw[aI,h];rfl
theorem Safe.step(h:Safe s)(d:k<s.lines.length)(b:(s.A k).nodes[j]?=some n)(F:CA s m):Safe (mM s k j m):=by
 unfold mM;rw[qi b];obtain⟨C,J,I⟩:=RD n m;have o:=h.A k d;have B:Safe (kS s k j (gV n m).1):=by
  obtain e|⟨O,L,S,R,v⟩:=J
  .refine h.node d b C (by rw[e];exact cC _) (by rw[e];exact o.few n (aC b)) (λi p y g=>?_) (λP=>?_)
   .rw[e];exact(sy.1 o.ord i j p n y g b).2
   .rw[e];exact h.logs d (aC b)
  .obtain⟨i,a,y,q,D⟩:=o.XC b (KK L);have G:i+1=j:=by omega
   obtain⟨N,Q,f⟩:=F O k d a (aC q) D;have hN:N=n.M.length:=by omega
   subst hN;have c:n.M++[m.z] <+: a.M:=by
    obtain⟨t,ht⟩:=(sy.1 o.ord i j a n (by omega) q b).2;rw[<-ht]at f⊢;rw[aL (aD _),dO]at f
    cases t with
   |nil=>simp at f
   |cons x t=>simp at f;subst f;exact⟨t,by simp⟩
   refine h.node d b C (by rw[v];exact List.prefix_append _ _) (by rw[v];simp;omega) (λw p H g=>?_) (λP=>by omega);rw[v];by_cases K:w=i
   .subst K;rw[q]at g;cases g;exact c
   .exact c.trans (sy.1 o.ord w i p a (by omega) g q).2
 refine B.send λE r=>?_;have u:k<(kS s k j (gV n m).1).lines.length:=by rw[Ia];exact d
 refine B.sent u (n:=(gV n m).1) ?_ (I E r);rw[Ee s d,aK rfl];exact aC (i:=j) (by rw[rE,aK ⟨rfl,(aB.1 b).1⟩])
theorem iN.step(c:k<s.lines.length)(a:(s.A k).nodes[j]?=some n)(b:gQ s n=true)(m:eG):iN s (mM s k j m):=by
 unfold mM;rw[qi a];obtain⟨f,d,g⟩:=RD n m;refine iN.node1 c a f ?_ (λq=>by rw[b]at q;cases q) _;obtain e|⟨_,_,_,_,e⟩:=d
 .rw[e];exact cC _
 .rw[e];exact List.prefix_append _ _
theorem ON(h:Safe s)(i:Held s)(k:Nat):lT s (jU s k):=by
 unfold jU
 cases u:s.J.way[k]? with
|none=>exact lT.refl h i
|some m=>
  have ht:Safe (fa s k):=h.way λw a=>bk a;have b:lT s (fa s k):=⟨ht,i.lines rfl rfl,(lz.refl s).J _,lx.of rfl,rfl,λe=>aO (List.length_eraseIdx_le _ _) e⟩;simp only
  cases r:nf s m.C3 with
 |none=>exact b
 |some q=>
   obtain⟨d,j⟩:=q;obtain⟨f,n,c,p,v⟩:=EY r;have a:CA (fa s k) m:=h.msg m (aC u);have g:=ht.step (k:=d) (j:=j) (n:=n) f c a;have o:lT (fa s k) (mM (fa s k) d j m):=(iN.step (s:=fa s k) f c p m).tD g b.held;exact(b.trans o).trans (AK g o.held).1
theorem Safe.fX(h:Safe s)(c:k<s.lines.length):Safe (fX k s j)/\iN s (fX k s j):=by
 unfold Go.Proofs.YtmaiggbnceejiaaGreatDoor.fX;split
 .by_cases f:j<(s.A k).nodes.length
  .have a:(s.A k).nodes[j]?=some (eZ s k j):=by rw[aA f];unfold eZ;rw[aI,aA f];rfl
   obtain⟨o,b,z⟩:=IU (eZ s k j);have g:=h.A k c;have y:Safe (kS s k j (lH (eZ s k j)).1):=by
    refine h.node c a o (by rw[b];exact cC _) (by rw[b];exact g.few _ (aC a)) (λi p w v=>?_) (λF=>?_)
    .rw[b];exact(sy.1 g.ord i j p _ w v a).2
    .rw[b];exact h.logs c (aC a)
   refine⟨y.send λq d E=>?_,iN.node1 c a o (by rw[b];exact cC _) (λ_=>b) _⟩;have:=(z q d).2;omega
  .have u:eZ s k j=⟨0,0,[],[],0⟩:=by unfold eZ;rw[aI,aX (by omega)];rfl
   have D:∀n,kS s k j n=s:=λn=>by
    unfold kS tB;have C:(s.A k).nodes.set j n=(s.A k).nodes:=List.set_eq_of_length_le (by omega);rw[C];have B:s.lines.set k ⟨(s.A k).nodes,(s.A k).heard⟩=s.lines:=by
     refine bP λi=>?_;rw[rE];split
     .rename_i e;rw[e.1,nM c]
     .rfl
    rw[B]
   have r:(lH (eZ s k j)).2=[]:=by rw[u];rfl
   rw[D,r];exact⟨h,iN.refl s⟩
 .exact⟨h,iN.refl s⟩
theorem RM(h:Safe s)(g:k<s.lines.length):Safe (fB s k)/\iN s (fB s k):=by
 unfold fB;generalize List.range (s.A k).nodes.length=e
 suffices key:∀(e:List Nat) (S:dp),Safe S->iN s S->Safe (e.foldl (fX k) S)/\iN s (e.foldl (fX k) S)from key e s h (iN.refl s)
 intro e
 induction e with
|nil=>exact λS a b=>⟨a,b⟩
|cons j e f=>
  intro S a b;obtain⟨c,d⟩:=a.fX (k:=k) (j:=j) (by rw[b.mv.ll];exact g);exact f _ c (b.trans d)
theorem RL(h:Safe s):Safe (kq s)/\iN s (kq s):=by
 unfold kq
 suffices key:∀m,m<=s.lines.length->Safe ((List.range m).foldl fB s)/\iN s ((List.range m).foldl fB s)from key _ (aD _)
 intro m
 induction m with
|zero=>exact λ_=>⟨h,iN.refl s⟩
|succ m e=>
  intro f;rw[aZ,ae];obtain⟨a,b⟩:=e (by omega);obtain⟨c,d⟩:=RM a (k:=m) (by rw[b.mv.ll];omega);exact⟨c,b.trans d⟩
def kv(l:jS)(n:ec):ec:=(lH (jr n (pJ l) (l.nodes.map (·.id)))).1
theorem yWz(b:pU n=true):(kv l n).id=n.id/\(kv l n).dv=pJ l/\(kv l n).nodes=l.nodes.map (·.id)/\(kv l n).M=n.M:=by
 have e:jr n (pJ l) (l.nodes.map (·.id))=BH n (pJ l) (l.nodes.map (·.id)):=by
  unfold jr;rw[b];rfl
 unfold kv;rw[e];obtain⟨a,c,_⟩:=IU (BH n (pJ l) (l.nodes.map (·.id)));exact⟨a.id,a.ep,a.cf,c⟩
theorem OQ(l:jS):(nj l).1=⟨l.nodes.map (kv l),l.heard⟩:=rfl
theorem zTv(h:m∈(nj l).2):m.kind=1\/m.kind=4:=by
 unfold nj at h;simp only[cV]at h;obtain⟨n,_,a⟩:=h;exact((IU _).2.2 m a).2
theorem qz.fix(h:qz k l)(g:ns.Sublist l.nodes)(i:ns≠[])(u:ns.length<l.nodes.length):qz k (nj ⟨ns,l.heard⟩).1/\∀n∈ns,(kv ⟨ns,l.heard⟩ n).id=n.id/\(kv ⟨ns,l.heard⟩ n).M=n.M:=by
 have q:∀n∈ns,Go.Proofs.YtmaiggbnceejiaaGreatDoor.pU n=true:=λn c=>h.pU (g.subset c);have d:∀n∈ns,_:=λn c=>yWz (l:=⟨ns,l.heard⟩) (q n c);rw[OQ];refine⟨⟨λe=>i (by simpa using e),?_,λx f=>?_,λx f=>?_,?_,λx f=>?_,λx f=>?_⟩,λn c=>⟨(d n c).1,(d n c).2.2.2⟩⟩
 .rw[cH];refine dA ?_ (h.ord.sublist g);intro a b p o r;rw[(d a p).1,(d b o).1,(d a p).2.2.2,(d b o).2.2.2];exact r
 .obtain⟨n,c,rfl⟩:=aj.1 f;rw[(d n c).1];exact h.pE n (g.subset c)
 .obtain⟨n,c,rfl⟩:=aj.1 f;rw[(d n c).2.2.1];show ns.map (·.id)=(ns.map (kv ⟨ns,l.heard⟩)).map (·.id);rw[dW];exact List.map_congr_left λa p=>((d a p).1).symm
 .obtain⟨E,y,w,v⟩:=h.ep;refine⟨E+1,by omega,by show E+1+((ns.map _).length:Int)<=6;rw[ao];omega,λx f=>?_⟩;obtain⟨n,c,rfl⟩:=aj.1 f;rw[(d n c).2.1];unfold pJ
  cases ns with
 |nil=>exact absurd rfl i
 |cons a ns=>show a.dv+1=E+1;rw[v a (g.subset (by simp))]
 .obtain⟨n,c,rfl⟩:=aj.1 f;rw[(d n c).2.2.2];exact h.heard n (g.subset c)
 .obtain⟨n,c,rfl⟩:=aj.1 f;rw[(d n c).2.2.2];exact h.few n (g.subset c)
def fE(s:dp)(k:Nat):dp:=sd (tB s k (nj ⟨fc s k,(s.A k).heard⟩).1) (nj ⟨fc s k,(s.A k).heard⟩).2
theorem FY(s:dp)(a:k<s.lines.length)(i:Nat):(fE s k).A i=if i=k then(nj ⟨fc s k,(s.A k).heard⟩).1 else s.A i:=Qo s k _ i a
theorem tz(s:dp)(k:Nat):(fE s k).lines.length=s.lines.length:=by simp[fE,tB,sd]
theorem Safe.fE(h:Safe s)(v:k<s.lines.length)(r:fc s k≠[])(u:(fc s k).length<(s.A k).nodes.length):Safe (fE s k):=by
 have F:=h.A k v;have c:(fc s k).Sublist (s.A k).nodes:=ba;obtain⟨w,H⟩:=F.fix c r u;have p:=λi=>FY s v i;have E:dz (Go.Proofs.YtmaiggbnceejiaaGreatDoor.fE s k)=dz s:=by unfold dz;rw[tz]
 have d:∀i,i<s.lines.length->∀x∈((Go.Proofs.YtmaiggbnceejiaaGreatDoor.fE s k).A i).nodes,∃n∈(s.A i).nodes,x.id=n.id/\x.M=n.M:=λi a x f=>by
  rw[p]at f;split at f
  .rename_i e;subst e;rw[OQ]at f;obtain⟨n,b,rfl⟩:=aj.1 f;exact⟨n,c.subset b,H n b⟩
  .exact⟨x,f,rfl,rfl⟩
 have o:∀i,i<s.lines.length->∃n∈(s.A i).nodes,(eU (Go.Proofs.YtmaiggbnceejiaaGreatDoor.fE s k) i).M=n.M:=λi a=>by
  have z:((Go.Proofs.YtmaiggbnceejiaaGreatDoor.fE s k).A i).nodes≠[]:=by
   rw[p];split
   .exact w.ne
   .exact(h.A i a).ne
  obtain⟨n,b,_,e⟩:=d i a _ (aC (Yu z));exact⟨n,b,e⟩
 have L:∀i,((Go.Proofs.YtmaiggbnceejiaaGreatDoor.fE s k).A i).heard=(s.A i).heard:=λi=>by
  rw[p];split
  .rename_i e;rw[e];rfl
  .rfl
 have y:∀i,i<s.lines.length->kN (Go.Proofs.YtmaiggbnceejiaaGreatDoor.fE s k) i=kN s i:=λi a=>by
  obtain⟨n,b,e⟩:=o i a;unfold kN;rw[L,e];exact h.Gb a b
 have g:Safe (Go.Proofs.YtmaiggbnceejiaaGreatDoor.fE s k):=by
  refine⟨by rw[tz];exact h.ll,h.tl,λi a=>?_,λi a=>?_,λm D G i a x f e=>?_,λid C B=>(h.I id C B).of rfl (tz s k) y h.dec_lt⟩
  .rw[tz]at a;rw[p];split
   .rename_i e;rw[e];exact w
   .exact h.A i a
  .rw[tz]at a;obtain⟨n,b,e⟩:=o i a;rw[e];exact(h.logs a b).of rfl E
  .rw[tz]at a;rcases OF D with q|q
   .obtain⟨n,b,K,J⟩:=d i a x f;rw[J];exact h.msg m q G i a n b (by rw[<-K];exact e)
   .have:=zTv q;omega
 exact g
structure gH(s s':dp):Prop where
 safe:Safe s'
 held:Held s'
 fin:lx s s'
 ll:s'.lines.length=s.lines.length
theorem gH.refl(h:Safe s)(a:Held s):gH s s:=⟨h,a,lx.refl s,rfl⟩
theorem gH.trans{a b c:dp}(h:gH a b)(k:gH b c):gH a c:=⟨k.safe,k.held,h.fin.trans k.fin,k.ll.trans h.ll⟩
theorem lT.Fo{s':dp}(h:lT s s'):gH s s':=⟨h.safe,h.held,h.fin,h.mv.ll⟩
theorem lx.abort{id:Nat}(g:1<=id)(f:id<=s.U.length)(d:(s.I id).state<3):lx s (gk s id):=by
 refine⟨by rw[IV];exact aD _,λj c b a=>?_⟩;by_cases e:j=id
 .subst e;omega
 .rw[EZ s (by omega)]
theorem yHc(h:Safe s){id:Nat}(g:1<=id)(f:id<=s.U.length)(d:k<dz s)(a:(s.I id).ats.getD k 0=2):(mC (eU s k).M 2 (id:Int)).isNone=false:=by
 obtain⟨c,e,p,o⟩:=(h.I id g f).sure k d a
 cases b:mC (eU s k).M 2 (id:Int)with
|some i=>rfl
|none=>exact absurd ⟨p,o⟩ (WI.1 b c (EW k c e))
theorem WV(h:Safe s)(A:Held s)(z:k<s.lines.length):gH s (qg s k)/\gS s (qg s k):=by
 unfold qg
 suffices key:∀m,m<=s.U.length->gH s ((List.range m).foldl (λh i=>if kz h k i then gk h (i+1)else h) s)/\gS s ((List.range m).foldl (λh i=>if kz h k i then gk h (i+1)else h) s)from key _ (aD _)
 intro m
 induction m with
|zero=>exact λ_=>⟨gH.refl h A,gS.refl s⟩
|succ m w=>
  intro C;rw[aZ,ae];obtain⟨a,b⟩:=w (by omega);generalize (List.range m).foldl (λh i=>if kz h k i then gk h (i+1)else h) s=S at a b;show gH s (if kz S k m then gk S (m+1)else S)/\gS s (if kz S k m then gk S (m+1)else S);split
  .rename_i g;have c:m+1<=S.U.length:=by rw[b.len];omega
   have D:k<S.lines.length:=by rw[b.l];exact z
   unfold kz at g;simp only[bX,cA,aw]at g;obtain⟨u,f⟩:=g;have d:=a.safe.I (m+1) (by omega) c;have v:k<dz S:=by
    have:k≠dz S:=λe=>u (by rw[e];exact d.dec);unfold dz at this⊢;omega
   have p:Held (gk S (m+1)):=a.held.abort (m+1) (by omega) (λx d=>by simp at d);obtain q|⟨q,r⟩:=f
   .exact⟨a.trans ⟨a.safe.abort (by omega) c q,p,lx.abort (by omega) c (by omega),by rw[Ec]⟩,b.trans (gS.abort S _)⟩
   .have y:ve (S.I (m+1))=false:=by
     apply aS;intro o;simp only[Bool.not_eq_false]at o;have:=KP.1 o k;have:=d.pE k;have B:(S.I (m+1)).ats.getD k 0=2:=by omega
     have:=yHc a.safe (by omega) c v B;have e:((m+1:Nat):Int)=(m:Int)+1:=by omega
     rw[e,r]at this;cases this
    exact⟨a.trans ⟨a.safe.yW (by omega) c q y,p,lx.abort (by omega) c (by omega),by rw[Ec]⟩,b.trans (gS.abort S _)⟩
  .exact⟨a,b⟩
theorem OK(h:¬((fc s k).length=0\/(fc s k).length=(s.A k).nodes.length)):fc s k≠[]/\(fc s k).length<(s.A k).nodes.length:=by
 have:(fc s k).length<=(s.A k).nodes.length:=bD _ _;refine⟨λe=>h (.inl (by rw[e];rfl)),by omega⟩
theorem ZL(h:Safe s)(r:Held s)(c:k<s.lines.length):gH s (ey s k)/\(ey s k).dead=s.dead/\(ey s k).J.down=s.J.down/\(ey s k).U.length=s.U.length/\(∀i,i≠k->(ey s k).A i=s.A i) /\
  (((ey s k).A k).nodes=(s.A k).nodes/\((fc s k).length=0\/(fc s k).length=(s.A k).nodes.length)\/(∀n∈((ey s k).A k).nodes,gQ s n=true))/\(∀i,((ey s k).A i).heard=(s.A i).heard):=by
 unfold ey;split
 .rename_i e;exact⟨gH.refl h r,rfl,rfl,rfl,λ_ _=>rfl,.inl ⟨rfl,e⟩,λ_=>rfl⟩
 .rename_i e;obtain⟨v,u⟩:=OK e;have hF:Safe (fE s k):=h.fE c v u;have w:Held (fE s k):=r.lines rfl rfl;obtain⟨a,b⟩:=WV hF w (k:=k) (by rw[tz];exact c);have hA:gH s (fE s k):=⟨hF,w,lx.of rfl,tz s k⟩;have o:∀i,(qg (fE s k) k).A i=(fE s k).A i:=λi=>by unfold dp.A;rw[b.l]
  refine⟨hA.trans a,b.d,by show(qg (fE s k) k).J.down=_;rw[b.J];exact WK _ _,b.len,λi z=>?_,.inr λn y=>?_,λi=>?_⟩
  .show(qg (fE s k) k).A i=_;rw[o,FY s c,aH z]
  .have g:n∈((qg (fE s k) k).A k).nodes:=y;rw[o,FY s c,aK rfl,OQ]at g;obtain⟨x,p,rfl⟩:=aj.1 g;have f:gQ s x=true:=(au.1 p).2;have:=((h.A k c).fix (ns:=fc s k) ba v u).2 x p;unfold gQ at f⊢;rw[this.1];exact f
  .show((qg (fE s k) k).A i).heard=_;rw[o,FY s c];split
   .rename_i q;rw[q];rfl
   .rfl
theorem Eb(h:Safe s)(B:Held s):∀m,m<=s.lines.length->gH s ((List.range m).foldl ey s)/\((List.range m).foldl ey s).dead=s.dead/\((List.range m).foldl ey s).J.down=s.J.down/\((List.range m).foldl ey s).U.length=s.U.length/\(∀i,m<=i->((List.range m).foldl ey s).A i=s.A i) /\
  (∀i,i<m->(((List.range m).foldl ey s).A i).nodes=(s.A i).nodes/\((fc s i).length=0\/(fc s i).length=(s.A i).nodes.length)\/(∀n∈(((List.range m).foldl ey s).A i).nodes,gQ s n=true))/\(∀i,(((List.range m).foldl ey s).A i).heard=(s.A i).heard):=by
 intro m
 induction m with
|zero=>exact λ_=>⟨gH.refl h B,rfl,rfl,rfl,λ_ _=>rfl,λi u=>by omega,λ_=>rfl⟩
|succ m y=>
  intro G;rw[aZ,ae];obtain⟨a,b,w,c,d,e,f⟩:=y (by omega);generalize (List.range m).foldl ey s=S at a b w c d e f;show gH s (ey S m)/\(ey S m).dead=s.dead/\(ey S m).J.down=s.J.down/\(ey S m).U.length=s.U.length/\(∀i,m+1<=i->(ey S m).A i=s.A i)/\(∀i,i<m+1->((ey S m).A i).nodes=(s.A i).nodes/\((fc s i).length=0\/(fc s i).length=(s.A i).nodes.length)\/(∀n∈((ey S m).A i).nodes,gQ s n=true))/\(∀i,((ey S m).A i).heard=(s.A i).heard);obtain⟨F,E,r,D,v,g,C⟩:=ZL a.safe a.held (k:=m) (by rw[a.ll];omega);have o:∀n,gQ S n=gQ s n:=λn=>by unfold gQ;rw[b]
  refine⟨a.trans F,E.trans b,r.trans w,D.trans c,λi u=>by rw[v i (by omega),d i (by omega)],λi u=>?_,λi=>(C i).trans (f i)⟩;by_cases q:i=m
  .subst q;have p:fc S i=fc s i:=by unfold fc;rw[d i (aD _)];congr 1;funext n;exact o n
   rw[d i (aD _),p]at g;obtain g|g:=g
   .exact .inl g
   .exact .inr λn z=>by rw[<-o];exact g n z
  .rw[v i q];exact e i (by omega)
theorem yWf(h:Safe s)(d:Held s):gH s (ku s):=by
 unfold ku;obtain⟨a,-⟩:=Eb h d s.lines.length (aD _);obtain⟨b,c,_⟩:=uO a.safe;have:=c.tD b a.held;exact(a.trans this.Fo).trans (AK b this.held).1.Fo
theorem yWo{s:fS}(h:m∈(Fb s id).way):m∈s.way:=(au.1 h).1
theorem Safe.dead(h:Safe s)(d:List Int):Safe {s with dead:=d}:=
 h.U (s':={s with dead:=d}) rfl rfl h.tl (λk c _ _ q=>q.same rfl rfl rfl) (λid b a=>(h.I id b a).same rfl rfl)
theorem yFo(h:Safe s)(a:Held s)(id:Int):gH s (qG s id).1:=by
 unfold qG;split
 .exact gH.refl h a
 .exact⟨(h.way (net:=Fb s.J id) λm b=>yWo b).dead _,a.lines rfl rfl,lx.of rfl,rfl⟩
theorem yEi(h:Safe s)(a:Held s)(k:Int):gH s (qH s k).1:=by
 unfold qH;split
 .exact⟨h.way (net:=Wj s.J k.toNat) λm b=>bk b,a.lines rfl rfl,lx.of rfl,rfl⟩
 .exact gH.refl h a
theorem yFt(h:Safe s)(b:Held s)(id:Int):gH s (oz s id).1:=by
 unfold oz;split
 .exact gH.refl h b
 .rename_i e;obtain⟨i,rfl,a,c,f⟩:=pB (by simpa using e);rw[aU];exact⟨h.abort a c f,b.abort i a (λx d=>by simp at d),lx.abort a c (by omega),by rw[Ec]⟩
def Has(k:fP)(x:Int):Prop:=∃c∈k.held,c.I=x
theorem yBm:∀(q a b:List dw),kY a->(∃c∈a,c.I=x)->∃c∈(ja a b q).1,c.I=x
|[],a,b,_,h=>h
|c::q,a,b,f,h=>by
  unfold ja;split
  .refine yBm q (jx a c) b (FX f c) ?_;obtain⟨d,g,e⟩:=h;by_cases i:d.I=c.I
   .exact⟨c,(mx f c c).2 (.inl rfl),by omega⟩
   .exact⟨d,(mx f c d).2 (.inr ⟨g,i⟩),e⟩
  .exact yBm q a (b++[c]) f h
theorem Has.rel{s:gU}{k:ByteArray}{t:Int}(b:nY (s k))(h:Has (s k) x)(a:x≠t):Has (gg s t k) x:=by
 unfold gg;split
 .obtain⟨c,d,e⟩:=h;exact yBm _ _ _ (Ea b.held t) ⟨c,pD.2 ⟨d,by omega⟩,e⟩
 .exact h
theorem Has.ft{key:ByteArray}(p:1<=x):∀(ids:List Int) {X:List Int}{s:dp},jh X s->(∀i∈ids,1<=i)->Has (s.keys key) x->(x∉ids\/(s.I x.toNat).state≠1)->Has ((jT s ids).keys key) x
|[],X,s,_,_,h,_=>h
|i::ids,X,s,o,g,h,b=>by
  have f:=g i (by simp);have d:=o.eW (i:=i) f;show Has ((jT (Go.Proofs.YtmaiggbnceejiaaGreatDoor.eW s i) ids).keys key) x;have a:Has ((Go.Proofs.YtmaiggbnceejiaaGreatDoor.eW s i).keys key) x/\(x∉ids\/((Go.Proofs.YtmaiggbnceejiaaGreatDoor.eW s i).I x.toNat).state≠1):=by
   unfold Go.Proofs.YtmaiggbnceejiaaGreatDoor.eW;split
   .rename_i e;have r:x≠i:=λq=>by
     obtain b|b:=b
     .exact b (by simp[q])
     .rw[q]at b;exact b e
    refine⟨?_,?_⟩
    .rw[WA];exact Has.rel (o.apart key).ok h (by omega)
    .rw[EZ s (by omega)];exact b.imp (λq=>λc=>q (by simp[c])) id
   .exact⟨h,b.imp (λq=>λc=>q (by simp[c])) id⟩
  exact Has.ft p ids d (λj u=>g j (by simp[u])) a.1 a.2
theorem yYk{W:List Int}{k:fP}(h:ri W k)(i:Has k x)(o:x≠id):jD k.held id<2:=by
 apply aS;intro v;have h0:jD k.held id≠0:=by omega
 have g:=λb=>h0 ((IS h.ok.held h.ok.h0).2 b);have:∃c∈k.held,c.I=id:=aS λq=>g λc a e=>q ⟨c,a,e⟩;obtain⟨c,a,e⟩:=this;have p:=IE h.ok.held a;rw[e]at p;obtain⟨d,r,w⟩:=i;have:=h.alone c a d r;unfold lI at this;have u:c.mode=2:=by rcases h.ok.hmode c a with q|q <;> omega
 rw[u]at this;have f:c.I≠d.I:=by omega
 simp[f]at this
theorem yMt(Q:Safe s)(r:Held s){id:Nat}(H:1<=id)(G:id<=s.U.length)(N:(s.I id).state=1)(key:ByteArray)(z:key.size<=20)(v:qK s id key=false):(gj s id key 2).2≠0:=by
 unfold qK at v;simp only[Bool.not_eq_false',cP,cA,aw]at v;obtain⟨o,b,J⟩:=v;have C:=WS b;have w:=yDz b;have f:Has (s.keys key) o:=by
  unfold pd at b;simp only[au,bX,aw]at b;have:=b.2.2;have L:=λg=>this ((IS (r.apart key).ok.held (r.apart key).ok.h0).2 g);exact aS λq=>L λc a e=>q ⟨c,a,e⟩
 have u:qK (iL s id key 2).1 id key=false\/(iL s id key 2).2.2≠4:=by
  by_cases e:(iL s id key 2).2.2=4
  .left;have O:(iz (s.keys key) ⟨(id:Int),2⟩).1=s.keys key:=by
    have R:(iz (s.keys key) ⟨(id:Int),2⟩).2.2.2=4:=e;revert R;unfold iz;split
    .simp
    split
    .simp
    split
    .simp
    split
    .simp
    .simp
   have B:(iL s id key 2).1.keys key=s.keys key:=by
    show jo s.keys key _ key=_;rw[wI,O]
   unfold qK;simp only[Bool.not_eq_false',cP,cA,aw];refine⟨o,?_,J⟩;unfold pd at b⊢;rw[B];exact b
  .exact .inr e
 have d:jn s id key 2=iL s id key 2:=by
  unfold jn;simp only;rw[aH (λq=>u.elim (λe=>absurd q.2 (by rw[e];simp)) (λe=>e q.1))]
 unfold gj;simp only;rw[d];split
 .simp
 split
 .simp
 have p:=WG Q r H G N key z (mode:=2) (.inr rfl);rw[d]at p;have y:jD ((jT (mq (iL s id key 2).1 (id:Int).toNat (fL (iL s id key 2).1 key)) (iL s id key 2).2.1).keys key).held id<2:=by
  have F:=p.held.came (k:=fL (iL s id key 2).1 key) H G;have E:∀i∈(iL s id key 2).2.1,1<=i/\i<=((mq (iL s id key 2).1 id (fL (iL s id key 2).1 key)).U.length:Int):=λi D=>by
   show 1<=i/\i<=((du (iL s id key 2).1 id _).U.length:Int);rw[mO];exact(p.wd i D).2
  have P:Has ((mq (iL s id key 2).1 id (fL (iL s id key 2).1 key)).keys key) o:=by
   show Has (jo s.keys key (iz (s.keys key) ⟨(id:Int),2⟩).1 key) o;rw[wI];obtain⟨c,a,e⟩:=f;have A:=(r.apart key).ok;unfold iz;split
   .exact⟨c,a,e⟩
   split
   .exact⟨c,a,e⟩
   split
   .exact⟨c,(mx A.held _ c).2 (.inr ⟨a,by show c.I≠(id:Int);omega⟩),e⟩
   split
   .exact⟨c,a,e⟩
   .exact⟨c,a,e⟩
  rw[aU];have M:=Has.ft (key:=key) C.1 (iL s id key 2).2.1 F (λi D=>(E i D).1) P (by
   obtain q|q:=J
   .exact .inl λK=>by have:=(p.wd _ K).1;omega
   .right;show((du (iL s id key 2).1 id _).I o.toNat).state≠1;rw[AH _ _ (by omega)];exact q)
  have hA:=jh.rG (ids:=(iL s id key 2).2.1) (X:=[]) (by simpa using F) E;exact yYk (hA.apart key) M w
 rw[aK y];simp
theorem zYg(h:Safe s)(b:Held s)(k:Int):gH s (oP s k).1:=by
 unfold oP;split
 .rename_i m _ c;split
  .exact⟨h.way (net:=lC s.J m) λd a=>(yDk a).elim id (λe=>by rw[e];exact aC c),b.lines rfl rfl,lx.of rfl,rfl⟩
  .exact gH.refl h b
 .exact gH.refl h b
theorem wH(s:dp)(b:1<=j)(a:j<=s.U.length):(mB s).I j=s.I j:=by
 unfold dp.I mB;simp only[aI];rw[aG (by omega)]
theorem OB(s:dp):(mB s).I (s.U.length+1)=⟨1,List.replicate s.lines.length 0,[],0⟩:=by
 unfold dp.I mB;simp[List.getD_eq_getElem?_getD]
theorem EV(s:dp):(mB s).U.length=s.U.length+1:=by simp[mB]
theorem Vv(n k:Nat):(List.replicate n (0:Int)).getD k 0=0:=by
 rw[aI,List.getElem?_replicate];split <;> rfl
theorem yAc(h:Safe s)(o:Held s)(G:s.U.length<60):gH s (mB s):=by
 have p:=λ{j} (a:1<=j) (b:j<=s.U.length)=>wH s a b;refine⟨h.U rfl rfl (by rw[EV];omega) (λk c z i q=>?_) (λid w C=>?_),?_,⟨by rw[EV];omega,λj B A _=>by rw[p B A]⟩,rfl⟩
 .have E:=q.lo;have F:=q.hi;have e:(mB s).I c.I.toNat=s.I c.I.toNat:=p (by omega) (by omega);exact⟨q.lo,by rw[EV];omega,by rw[e];exact q.dec,by rw[e];exact q.jl⟩
 .by_cases e:id=s.U.length+1
  .subst e;refine⟨?_,?_,?_,?_,?_,?_,?_,?_,?_⟩
   all_goals rw[OB]
   .show(List.replicate s.lines.length (0:Int)).length=s.lines.length;simp
   .simp
   .intro k;show 0<=(List.replicate _ (0:Int)).getD k 0/\_<=_;rw[Vv];omega
   .exact Vv _ _
   .intro _ k;show(List.replicate _ (0:Int)).getD k 0≠2;rw[Vv];omega
   .intro k _ z;have r:(List.replicate s.lines.length (0:Int)).getD k 0=2:=z;rw[Vv]at r;omega
   .intro D;simp at D
   .simp
   .simp
  .have v:id<=s.U.length:=by rw[EV]at C;omega
   exact(h.I id w v).same (p w v) rfl
 .have u:∀x:Int,1<=x->x<=(s.U.length:Int)->(mB s).I x.toNat=s.I x.toNat:=λx a b=>p (by omega) (by omega);refine⟨λk=>(o.apart k).more λx y=>?_,λk c i=>?_,λk c i=>?_,o.small⟩
  .simp only[aa]at y⊢;obtain⟨d,g,f⟩:=yy.1 y;exact yy.2 ⟨d,by rw[EV];omega,by rw[u x d g];exact f⟩
  .obtain⟨d,g,f⟩:=o.hold k c i;exact⟨d,by rw[EV];omega,by rw[u _ d g];exact f⟩
  .obtain⟨d,g,f⟩:=o.wait k c i;exact⟨d,by rw[EV];omega,by rw[u _ d g];exact f⟩
theorem jh.ending(i:Held s){id:Nat}(w:1<=id)(v:id<=s.U.length)(ht:t.state=2)(y:(s.I id).state=1)(r:∀k,∀c∈(s.keys k).waits,c.I≠(id:Int)):Held (du s id t):=by
 have o:∀j:Nat,1<=j->((du s id t).I j).state=if j=id then 2 else(s.I j).state:=λj u=>by
  rw[pO s id t u w v];split
  .exact ht
  .rfl
 have p:=mO s id t;refine⟨λa=>(i.apart a).more λx q=>?_,λa c g=>?_,λa c g=>?_,i.small⟩
 .simp only[aa]at q⊢;obtain⟨f,d,b⟩:=yy.1 q;refine yy.2 ⟨f,by rw[p];exact d,?_⟩;rw[o _ (by omega)];split
  .rfl
  .exact b
 .obtain⟨f,d,b⟩:=i.hold a c g;refine⟨f,by rw[p];exact d,?_⟩;rw[o _ (by omega)];split
  .exact .inr rfl
  .exact b
 .obtain⟨f,d,b⟩:=i.wait a c g;refine⟨f,by rw[p];exact d,?_⟩;rw[o _ (by omega),aH (λe=>r a c g (by omega))];exact b
theorem jh.states{X:List Int}(h:jh X s){id:Nat}(v:1<=id)(u:id<=s.U.length)(ht:t.state=(s.I id).state):jh X (du s id t):=by
 have i:∀j:Nat,1<=j->((du s id t).I j).state=(s.I j).state:=λj r=>by
  rw[pO s id t r v u];split
  .rename_i e;rw[e];exact ht
  .rfl
 have o:=mO s id t;refine⟨λa=>(h.apart a).more λx p=>?_,λa c g=>?_,λa c g=>?_,h.small⟩
 .rcases aM.1 p with q|q
  .exact aM.2 (.inl q)
  .obtain⟨f,d,b⟩:=yy.1 q;exact aM.2 (.inr (yy.2 ⟨f,by rw[o];exact d,by rw[i _ (by omega)];exact b⟩))
 .obtain⟨f,d,b⟩:=h.hold a c g;exact⟨f,by rw[o];exact d,by rw[i _ (by omega)];exact b⟩
 .obtain⟨f,d,b⟩:=h.wait a c g;exact⟨f,by rw[o];exact d,by rw[i _ (by omega)];exact b⟩
theorem IY(h:BM s id=false):∀k,∀c∈(s.keys k).waits,c.I≠id:=λk c a e=>by
 unfold BM at h;simp only[bc]at h;exact h ⟨k,cP.2 ⟨c,a,by simpa using e⟩⟩
theorem yWj(h:Safe s)(f:Held s)(id:Int):gH s (gK s id).1:=by
 unfold gK;split
 .exact gH.refl h f
 .rename_i e;split
  .exact gH.refl h f
  .rename_i u;obtain⟨i,rfl,d,a,o⟩:=pB (by simpa using e);rw[aU];have p:Safe (du s i {s.I i with state:=2}):=h.write (ws:=(s.I i).writes) d a o (h.I i d a).few (.inr rfl);have g:Held (du s i {s.I i with state:=2}):=f.ending d a rfl o (IY (by simpa using u));have hA:gH s (du s i {s.I i with state:=2}):=⟨p,g,⟨by rw[mO];exact aD _,λj r w v=>by
    rw[pO s i _ r d a,aH (λq=>by subst q;omega)]⟩,rfl⟩
   obtain⟨b,c,_⟩:=uO p;have q:=c.tD b g;exact(hA.trans q.Fo).trans (AK b q.held).1.Fo
theorem Kd.Fo{r:dp}{id:Nat}(h:Kd s id k r)(d:Safe s)(f:(s.I id).state=1):gH s r:=
 ⟨h.safe,h.held,⟨by rw[h.same.len];exact aD _,λj a c b=>by
  by_cases e:j=id
  .subst e;omega
  .rcases h.cut j a e with q|q
   .rw[q]
   .omega⟩,by rw[h.same.l]⟩
theorem yJz(h:Safe s)(d:Held s)(id:Int)(p:gB):gH s (fg s id p).1:=by
 unfold fg;split
 .exact gH.refl h d
 split
 .exact gH.refl h d
 rename_i B;obtain⟨i,rfl,a,A,y⟩:=pB (pL (by simpa using B)).1;rw[aU];split
 .exact gH.refl h d
 rename_i K;have c:=(pL (by simpa using B)).2.1;have q:=vm h d a A y p.key c (mode:=2) (.inr rfl);have o:=q.Fo h y;simp only;split
 .exact o
 .rename_i J;have C:vU (s.I i) p.key=false:=by
   cases H:vU (s.I i) p.key with
  |false=>rfl
  |true=>
    have u:qK s i p.key=false:=by
     cases u:qK s i p.key with
    |false=>rfl
    |true=>exact absurd (by rw[H,u];rfl) K
    exact absurd (by simpa using J) (yMt h d a A y p.key c u)
  refine o.trans ?_;generalize (gj s i p.key 2).1=r at q o⊢;have b:=q.wr;have g:i<=r.U.length:=by rw[q.same.len];exact A
  have v:=q.safe.I i a g;have G:oF (r.I i) p={r.I i with state:=1,writes:=(oF (r.I i) p).writes}:=by
   unfold oF;split
   .simp[q.st]
   .simp[q.st]
  have w:∀q∈(oF (r.I i) p).writes,q.key.size<=20:=λq f=>by
   have D:=(pL (by simpa using B)).2.1;unfold oF at f;split at f
   .rcases bG f with e|e
    .exact v.few.2 q e
    .rw[e];exact D
   .rcases aM.1 f with e|e
    .exact v.few.2 q e
    .simp at e;rw[e];exact D
  have E:(oF (r.I i) p).writes.length<=20:=by
   unfold oF;split
   .simpa using v.few.1
   .rename_i z;simp only[aE,aW,bC];have L:vg (s.I i) p.key=none:=by unfold vg at z⊢;rw[b]at z;exact z
    unfold vU at C;rw[L]at C;rw[b];simp at C;omega
  rw[G];refine⟨q.safe.write a g q.st ⟨E,w⟩ (.inl rfl),q.held.states a g (by simp[q.st]),⟨by rw[mO];exact aD _,λj F N M=>?_⟩,rfl⟩;rw[pO r i _ F a g];split
  .rename_i e;subst e;have:=q.st;omega
  .rfl
theorem yWb(h:Safe s)(b:Held s)(id:Int)(key:ByteArray):gH s (fG s id key).1:=by
 unfold fG;split
 .exact gH.refl h b
 rename_i c;obtain⟨i,rfl,e,d,a⟩:=pB (pL (by simpa using c)).1;have q:=(vm h b e d a key (pL (by simpa using c)).2.1 (mode:=1) (.inl rfl)).Fo h a;simp only;split
 .exact q
 .exact q
theorem WH(nodes:Nat):∀m,(iE nodes m).lines=(List.range m).map λk=>(pK k nodes).1
|0=>rfl
|m+1=>by
  show(iE nodes m).lines++[(pK m nodes).1]=_;rw[WH nodes m,aZ,ay];rfl
theorem Vs(nodes:Nat):∀m,(iE nodes m).dead=[]/\(iE nodes m).U=[]/\(iE nodes m).keys=(λ_=>⟨[],[]⟩)/\(iE nodes m).J.down=[]/\∀x∈(iE nodes m).J.way,x.kind=1\/x.kind=4
|0=>⟨rfl,rfl,rfl,rfl,λx f=>by simp[iE]at f⟩
|m+1=>by
  obtain⟨a,b,c,d,e⟩:=Vs nodes m;refine⟨a,b,c,by show(kp _ _).down=_;rw[WK];exact d,λx f=>?_⟩;rcases OF f with q|q
  .exact e x q
  .exact zTv q
def jR(k nodes:Nat):List ec:=(List.range nodes).map λ(i:Nat)=>QZ (10*(k:Int)+(i:Int))
theorem yEd(k nodes:Nat){i:Nat}(a:i<nodes):(jR k nodes)[i]?=some (QZ (10*(k:Int)+(i:Int))):=by
 unfold jR;simp[a]
theorem yKf(k nodes:Nat):(jR k nodes).Pairwise λa b=>a.id<b.id:=by
 unfold jR;rw[cH];refine List.Pairwise.imp ?_ List.pairwise_lt_range;intro a b c;show 10*(k:Int)+(a:Int)<10*(k:Int)+(b:Int);omega
theorem yQq(k nodes:Nat)(o:1<=nodes)(b:n∈jR k nodes):(kv ⟨jR k nodes,0⟩ n).id=n.id/\(kv ⟨jR k nodes,0⟩ n).dv=1/\(kv ⟨jR k nodes,0⟩ n).nodes=(jR k nodes).map (·.id)/\(kv ⟨jR k nodes,0⟩ n).M=[]:=by
 obtain⟨i,g⟩:=aP b;have e:n.M=[]/\n.nodes=[]:=by
  unfold jR at b;obtain⟨j,_,rfl⟩:=aj.1 b;exact⟨rfl,rfl⟩
 have d:pJ ⟨jR k nodes,0⟩=1:=by
  unfold pJ;rw[aI,yEd k nodes (by omega)];rfl
 have a:(jr n 1 ((jR k nodes).map (·.id))).M=[]/\(jr n 1 ((jR k nodes).map (·.id))).id=n.id/\(jr n 1 ((jR k nodes).map (·.id))).dv=1/\(jr n 1 ((jR k nodes).map (·.id))).nodes=(jR k nodes).map (·.id):=by
  unfold jr;split
  .exact⟨rfl,rfl,rfl,rfl⟩
  .exact⟨e.1,rfl,rfl,rfl⟩
 unfold kv;rw[d];obtain⟨c,f,_⟩:=IU (jr n 1 ((jR k nodes).map (·.id)));exact⟨c.id.trans a.2.1,c.ep.trans a.2.2.1,c.cf.trans a.2.2.2,f.trans a.1⟩
theorem ZT(k nodes:Nat)(r:1<=nodes)(u:nodes<=4):qz k (pK k nodes).1/\∀n∈(pK k nodes).1.nodes,n.M=[]:=by
 have f:=λn c=>yQq k nodes r (n:=n) c;have hN:(pK k nodes).1=⟨(jR k nodes).map (kv ⟨jR k nodes,0⟩),0⟩:=rfl;have g:(jR k nodes).length=nodes:=by simp[jR]
 rw[hN];refine⟨⟨λe=>?_,?_,λx d=>?_,λx d=>?_,⟨1,by omega,?_,λx d=>?_⟩,λx d=>aT _,λx d=>?_⟩,λx d=>?_⟩
 .have:=an List.length e;simp[g]at this;omega
 .rw[cH];refine dA ?_ (yKf k nodes);intro a b o i p;rw[(f a o).1,(f b i).1,(f a o).2.2.2,(f b i).2.2.2];exact⟨p,cC _⟩
 .obtain⟨n,c,rfl⟩:=aj.1 d;rw[(f n c).1];unfold jR at c;obtain⟨j,q,rfl⟩:=aj.1 c;have:=bV.1 q;show 10*(k:Int)<=10*(k:Int)+(j:Int)/\_<_;refine⟨by omega,?_⟩;show 10*(k:Int)+(j:Int)<_;omega
 .obtain⟨n,c,rfl⟩:=aj.1 d;rw[(f n c).2.2.1];show(jR k nodes).map (·.id)=((jR k nodes).map (kv ⟨jR k nodes,0⟩)).map (·.id);rw[dW];exact List.map_congr_left λa o=>((f a o).1).symm
 .show 1+(((jR k nodes).map _).length:Int)<=6;rw[ao,g];omega
 .obtain⟨n,c,rfl⟩:=aj.1 d;exact(f n c).2.1
 .obtain⟨n,c,rfl⟩:=aj.1 d;rw[(f n c).2.2.2];simp
 .obtain⟨n,c,rfl⟩:=aj.1 d;exact(f n c).2.2.2
theorem yVe{shards nodes:Nat}(D:1<=shards/\shards<=4)(p:1<=nodes/\nodes<=4):Safe (fp shards nodes)/\Held (fp shards nodes)/\(fp shards nodes).lines.length=shards+1:=by
 obtain⟨a,b,c,d,e⟩:=Vs nodes (shards+1);have v:=WH nodes (shards+1);have f:(fp shards nodes).lines.length=shards+1:=by show(iE nodes (shards+1)).lines.length=_;rw[v];simp
 have ht:(fp shards nodes).U=[]:=b;have r:∀k,k<shards+1->(fp shards nodes).A k=(pK k nodes).1:=λk g=>by
  show(iE nodes (shards+1)).lines.getD k _=_;rw[v,aI];simp[g]
 refine⟨⟨by rw[f];omega,by rw[ht];simp,λk g=>?_,λk g=>?_,λm y C=>?_,λid B u=>by rw[ht]at u;simp at u;omega⟩,?_,f⟩
 .rw[f]at g;rw[r k g];exact(ZT k nodes p.1 p.2).1
 .rw[f]at g;have q:=ZT k nodes p.1 p.2;have w:(eU (fp shards nodes) k).M=[]:=by
   have:=Yu (s:=fp shards nodes) (k:=k) (by rw[r k g];exact q.1.ne);rw[r k g]at this;exact q.2 _ (aC this)
  rw[w];exact⟨by simp,List.Pairwise.nil,λ_ i c z=>by simp at z⟩
 .have:=e m y;omega
 .have g:∀k,(fp shards nodes).keys k=⟨[],[]⟩:=λk=>by show(iE nodes (shards+1)).keys k=_;rw[c]
  exact⟨λk=>by rw[g];exact ri.nil _,λk c o=>by rw[g]at o;simp at o,λk c o=>by rw[g]at o;simp at o,λk _=>by rw[g];exact⟨rfl,rfl⟩⟩
