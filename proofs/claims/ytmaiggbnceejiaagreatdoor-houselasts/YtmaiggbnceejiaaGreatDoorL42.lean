import Derived.Test.YtmaiggbnceejiaaGreatDoorL39
import Derived.Laws.OwnMore
set_option linter.unusedVariables false
set_option maxRecDepth 100000
set_option maxHeartbeats 16000000
namespace Go.Proofs.YtmaiggbnceejiaaGreatDoor
variable {s s' S:dp}{id k j i c:Nat}{n a:ec}{m:eG}{l:jS}{wh:Int}{P:Nat->Nat->Prop}
structure oG(s:dp):Prop where
 lives:∀k,k<s.lines.length->∀n∈(s.A k).nodes,gQ s n=true
 down:∀x∈s.J.down,x∈s.dead
theorem oG.moves(h:oG s)(d:lz s s')(r:s'.J.down=s.J.down):oG s':=by
 refine⟨λk p n o=>?_,λx f=>?_⟩
 .obtain⟨j,g⟩:=aP o;have b:j<(s.A k).nodes.length:=by rw[<-d.len k];exact(aB.1 g).1
  have q:=h.lives k (by rw[<-d.ll];exact p) _ (aC (qM b));have e:=d.lives b;rw[qi g]at e;rw[e];exact q
 .rw[d.dead];rw[r]at f;exact h.down x f
theorem zZf{h:dp}{id:Int}:∀{k0:Nat}{d:List jS},yt h id k0 d=none->∀l∈d,∀n∈l.nodes,gQ h n=true->n.id≠id
|_,[],_,l,f,_,_,_=>by cases f
|k0,p::d,e,l,f,n,o,g=>by
  unfold yt at e
  cases b:BI h p.nodes id with
 |some j=>rw[b]at e;cases e
 |none=>
   rw[b]at e;rcases bB.1 f with q|q
   .subst q;unfold BI at b;rw[List.findIdx?_eq_none_iff]at b;have:=b n o;intro q;simp[g,q]at this
   .exact zZf (k0:=k0+1) e l q n o g
theorem yQm(h:Safe s)(r:k<s.lines.length)(e:(s.A k).nodes[j]?=some n)(v:gQ s n=true):nf s n.id=some (k,j):=by
 cases p:nf s n.id with
|none=>exact absurd rfl (zZf p (s.A k) (aC (nM r)) n (aC e) v)
|some u=>
  obtain⟨o,d⟩:=u;obtain⟨b,g,f,z,y⟩:=EY p;have x:=(h.A k r).pE n (aC e);have w:=(h.A o b).pE g (aC f);obtain rfl:o=k:=by omega
  have t:=(h.A o b).ord;have:d=j:=by
   rcases cG d j with q|q|q
   .have:=(sy.1 t d j g n q f e).1;omega
   .exact q
   .have:=(sy.1 t j d n g q e f).1;omega
  rw[this]
theorem yPu(s:fS)(a:eG)(h:m∈s.way):m∈(lC s a).way:=by
 unfold lC;split
 .exact h
 .exact bW _ h
theorem Vy:∀(ms:List eG) (s:fS) {m:eG},m∈s.way->m∈(kp s ms).way
|[],_,_,h=>h
|a::ms,s,_,h=>Vy ms (lC s a) (yPu s a h)
theorem Zp{s:fS}{ms:List eG}(b:rF s.down m=false)(d:s.way.length<200):m∈(kp s (m::ms)).way:=by
 refine Vy ms (lC s m) ?_;unfold lC;rw[b,aN (by omega)];simp
theorem ZE:∀(ms:List eG) (s:fS),(kp s ms).way.length<=s.way.length+ms.length
|[],s=>by simp[kp]
|a::ms,s=>by
  have:=ZE ms (lC s a);have b:(lC s a).way.length<=s.way.length+1:=by
   unfold lC;split
   .exact Nat.le_succ _
   .simp
  simp only[kp,aW];omega
structure BF(s s':dp):Prop where
 ll:s'.lines.length=s.lines.length
 len:∀k,(s'.A k).nodes.length=(s.A k).nodes.length
 id:∀k j,j<(s.A k).nodes.length->(eZ s' k j).id=(eZ s k j).id
 ep:∀k j,j<(s.A k).nodes.length->(eZ s' k j).dv=(eZ s k j).dv
 M:∀k j,k<s.lines.length->j<(s.A k).nodes.length->(eZ s' k j).M.length=(eZ s k j).M.length
theorem lz.Rn(h:lz s s')(hA:oG s)(e:lD s'=lD s):BF s s':=
 ⟨h.ll,h.len,λk j b=>(h.at b).1.id,λk j b=>(h.at b).1.ep,λk j d b=>by
  have f:=(h.at b).2.length_le;apply aS;intro q;have:=h.more d b (hA.lives k d _ (aC (qM b))) (by omega);omega⟩
def BD(s:dp)(k j:Nat):Prop:=k<s.lines.length/\j+1<(s.A k).nodes.length
def yZb(s:dp)(k j:Nat):Prop:=∃m∈s.J.way,m.kind=1/\m.eP=(eZ s k j).id/\m.C3=(eZ s k (j+1)).id/\m.dv=(eZ s k (j+1)).dv
def Jo(s:dp)(k j:Nat):Prop:=∃m∈s.J.way,m.kind=2/\m.eP=(eZ s k (j+1)).id/\m.C3=(eZ s k j).id/\m.dv=(eZ s k j).dv
def VZ(s:dp)(k j:Nat):Prop:=∃m∈s.J.way,m.kind=3/\m.eP=(eZ s k j).id/\m.C3=(eZ s k (j+1)).id/\m.dv=(eZ s k (j+1)).dv/\m.n=(eZ s k (j+1)).M.length/\(eZ s k (j+1)).M.length<500
structure QC(s:dp):Prop where
 few:s.J.way.length<=20
 hv:∀m∈s.J.way,m.kind=2->∀k j,k<s.lines.length->j<(s.A k).nodes.length->(eZ s k j).id=m.eP->m.n=(eZ s k j).M.length
 link:∀k j,BD s k j->yZb s k j\/Jo s k j\/(eZ s k j).M.length<=(eZ s k (j+1)).M.length
def QB(s:dp):Prop:=∃k j,BD s k j/\VZ s k j
theorem BF.link(h:BF s s')(b:BD s' k j):BD s k j:=⟨by rw[<-h.ll];exact b.1,by rw[<-h.len];exact b.2⟩
theorem BF.CV(h:BF s s')(b:BD s k j):BD s' k j:=⟨by rw[h.ll];exact b.1,by rw[h.len];exact b.2⟩
theorem BF.sync(h:BF s s')(d:BD s k j)(b:m∈s'.J.way)(q:m.kind=1/\m.eP=(eZ s k j).id/\m.C3=(eZ s k (j+1)).id/\m.dv=(eZ s k (j+1)).dv):yZb s' k j:=by
 have:=d.2;exact⟨m,b,q.1,by rw[h.id k j (by omega)];exact q.2.1,by rw[h.id k (j+1) (by omega)];exact q.2.2.1,by rw[h.ep k (j+1) (by omega)];exact q.2.2.2⟩
theorem BF.DR(h:BF s s')(d:BD s k j)(b:m∈s'.J.way)(q:m.kind=2/\m.eP=(eZ s k (j+1)).id/\m.C3=(eZ s k j).id/\m.dv=(eZ s k j).dv):Jo s' k j:=by
 have:=d.2;exact⟨m,b,q.1,by rw[h.id k (j+1) (by omega)];exact q.2.1,by rw[h.id k j (by omega)];exact q.2.2.1,by rw[h.ep k j (by omega)];exact q.2.2.2⟩
theorem BF.fwd(h:BF s s')(b:BD s k j)(d:m∈s'.J.way)(q:m.kind=3/\m.eP=(eZ s k j).id/\m.C3=(eZ s k (j+1)).id/\m.dv=(eZ s k (j+1)).dv/\m.n=(eZ s k (j+1)).M.length/\(eZ s k (j+1)).M.length<500):VZ s' k j:=by
 have:=b.2;have e:=h.M k (j+1) b.1 (by omega);exact⟨m,d,q.1,by rw[h.id k j (by omega)];exact q.2.1,by rw[h.id k (j+1) (by omega)];exact q.2.2.1,by rw[h.ep k (j+1) (by omega)];exact q.2.2.2.1,by rw[e];exact q.2.2.2.2.1,by rw[e];exact q.2.2.2.2.2⟩
theorem yPo(h:(s.A k).nodes≠[]):qf s k=eZ s k ((s.A k).nodes.length-1):=by
 have b:=bR.2 h;unfold qf;rw[Fa _ _ b];exact(qi (aA (by omega))).symm
theorem yBr(h:(s.A k).nodes≠[]):lX s k=[]↔(eZ s k ((s.A k).nodes.length-1)).M.length<=(s.A k).heard:=by
 unfold lX;rw[yPo h,dg]
theorem yFv(h:Safe s)(z:rp s=false){R:List eG}(y:s.J.way=m::R)(g:nf s m.C3=some (k,j))(r:(s.A k).nodes[j]?=some n)(e:(gV n m).1.M=n.M):jU s 0=sd (kS (fa s 0) k j (gV n m).1) (gV n m).2:=by
 obtain⟨C,G,f,u,F⟩:=EY g;rw[r]at f;cases f
 have B:s.J.way[0]?=some m:=by rw[y];rfl
 have x:eZ (fa s 0) k j=n:=qi (s:=s) r;unfold jU;rw[B];simp only;rw[g];simp only;have t:mM (fa s 0) k j m=sd (kS (fa s 0) k j (gV n m).1) (gV n m).2:=by unfold mM;rw[x]
 rw[t];have v:=λi=>Ee (fa s 0) (k:=k) C j (gV n m).1 i;refine zVa (EM.2 λi D=>?_);have o:i<s.lines.length:=by
  have:(kS (fa s 0) k j (gV n m).1).lines.length=s.lines.length:=Ia _ _ _ _;rw[<-this];exact D
 have d:=EM.1 z i o;have b:=(h.A i o).ne;have w:((sd (kS (fa s 0) k j (gV n m).1) (gV n m).2).A i).nodes≠[]:=by
  show((kS (fa s 0) k j (gV n m).1).A i).nodes≠[];rw[v i];split
  .rename_i p;subst p;intro q;exact b (by have u:(s.A i).nodes.set j (gV n m).1=[]:=q;simpa using u)
  .exact b
 rw[yBr b]at d;rw[yBr w];show(eZ (kS (fa s 0) k j (gV n m).1) i (((kS (fa s 0) k j (gV n m).1).A i).nodes.length-1)).M.length<=((kS (fa s 0) k j (gV n m).1).A i).heard;unfold eZ at d⊢;rw[v i];by_cases p:i=k
 .subst p;rw[aK rfl];show(((s.A i).nodes.set j (gV n m).1).getD (((s.A i).nodes.set j (gV n m).1).length-1) _).M.length<=(s.A i).heard;rw[ai,aI,rE];rw[aI]at d;split
  .rename_i E;rw[E.1,r]at d;simpa[e]using d
  .exact d
 .rw[aH p];exact d
theorem qz.wS(h:qz k l)(b:l.nodes[j]?=some n)(d:l.nodes[i]?=some a)(e:(i:Int)=j+wh):iU n wh=some a.id:=by
 have f:=h.place b;have o:=h.cfg n (aC b);have g:=(aB.1 d).1;unfold iU;rw[h.pU (aC b),f,o,<-e];simp only[ao];rw[aQ (show(0:Int)<=(i:Int) by omega),aQ (show(i:Int)<(l.nodes.length:Int) by omega)];simp[d]
theorem qz.CY(h:qz k l)(d:l.nodes[j]?=some n)(e:l.nodes[i]?=some a)(b:(i:Int)=j+wh):nR n wh a.id=true:=by
 unfold nR;rw[h.wS d e b];simp
theorem yPs(e:(gV n m).1.M=n.M):((gV n m).2.length<=1/\∀x∈(gV n m).2,x.kind=2->x.eP=n.id/\x.n=n.M.length)\/(m.kind=2/\m.dv=n.dv/\m.C3=n.id/\nR n 1 m.eP=true/\0<=m.n/\(gV n m).2=tr n m.n):=by
 have d:∀(s:ec) (wh:Int) (x:eG),(lY s wh x).length<=1:=λs wh x=>by
  unfold lY;split <;> simp
 unfold gV at e⊢;split at e
 .rename_i h0;rw[aK h0];split at e
  .rename_i o;rw[aK o];refine .inl ⟨d _ _ _,λx f _=>?_⟩;have b:x∈lY n (-1) (qh 2 n.M.length):=f;unfold lY at b;split at b
   .cases b
   .simp at b;rw[b];exact⟨rfl,rfl⟩
  .rename_i o;rw[aH o];split at e
   .rename_i g;rw[aK g];exact .inr ⟨g.1,h0.1,h0.2,g.2.1,g.2.2,rfl⟩
   .rename_i g;rw[aH g];split at e
    .rename_i p;have:=(FV n m.z).2.1;rw[this]at e;simp at e
    .rename_i p;rw[aH p];split at e
     .rename_i h;rw[aK h];refine .inl ⟨d _ _ _,λx f q=>?_⟩;have b:x∈lY (wE n m.n) (-1) (qh 4 (wE n m.n).iR):=f;have:=(Qb (by omega) (by omega) b).2;omega
     .rename_i h;rw[aH h];exact .inl ⟨by simp,λx f=>by cases f⟩
 .rename_i h0;rw[aH h0];exact .inl ⟨by simp,λx f=>by cases f⟩
theorem ZU(hA:oG s){k' j':Nat}(e:k<s.lines.length)(g:j<(s.A k).nodes.length)(d:k'<s.lines.length)(f:j'<(s.A k').nodes.length)(o:m.eP=(eZ s k j).id)(h:m.C3=(eZ s k' j').id):rF s.J.down m=false:=by
 have b:∀k j,k<s.lines.length->j<(s.A k).nodes.length->(eZ s k j).id∉s.J.down:=λk j e g q=>by
  have a:=hA.lives k e _ (aC (qM g));unfold gQ at a;simp at a;exact a (hA.down _ q)
 unfold rF;rw[aN (by rw[o];exact b k j e g),aN (by rw[h];exact b k' j' d f)];rfl
theorem yNn(h:jY s)(hA:oG s)(K:QC s\/QB s)(hne:s.J.way≠[])(hkn:lD (jU s 0)=lD s):QC (jU s 0)\/QB (jU s 0):=by
 have hG:=ON h.safe h.held 0;have r:=hG.mv.Rn hA hkn
 cases C:s.J.way with
|nil=>exact absurd C hne
|cons m R=>
  have hm:s.J.way[0]?=some m:=by rw[C];rfl
  have Q:∀k j,k<s.lines.length->j<(s.A k).nodes.length->nf s (eZ s k j).id=some (k,j):=λk j y v=>yQm h.safe y (qM v) (hA.lives k y _ (aC (qM v)))
  cases w:nf s m.C3 with
 |none=>
   have hd:jU s 0=fa s 0:=by
    unfold jU;rw[hm];simp only;rw[w]
   have T:(jU s 0).J.way=R:=by rw[hd];show s.J.way.eraseIdx 0=R;rw[C];rfl
   have jM:∀k j,k<s.lines.length->j<(s.A k).nodes.length->m.C3≠(eZ s k j).id:=λk j y v q=>by
    rw[q,Q k j y v]at w;cases w
   have W:∀g∈s.J.way,(∃k j,k<s.lines.length/\j<(s.A k).nodes.length/\g.C3=(eZ s k j).id)->g∈(jU s 0).J.way:=λg d ⟨k,j,y,v,q⟩=>by
    rw[T];rw[C]at d;rcases bB.1 d with e|e
    .rw[e]at q;exact absurd q (jM k j y v)
    .exact e
   obtain K|⟨k,j,F,g,d,q⟩:=K
   .refine .inl ⟨by rw[T];have:=K.few;rw[C]at this;simp at this;omega,λg d h2 k j y v H=>?_,λk j F=>?_⟩
    .rw[T]at d;rw[r.ll]at y;rw[r.len]at v;rw[r.M k j y v];rw[r.id k j v]at H;exact K.hv g (by rw[C];exact bH _ d) h2 k j y v H
    .have f:=r.link F;have D:=f.2;rcases K.link k j f with⟨g,d,q⟩|⟨g,d,q⟩|q
     .exact .inl (r.sync f (W g d ⟨k,j+1,f.1,by omega,q.2.2.1⟩) q)
     .exact .inr (.inl (r.DR f (W g d ⟨k,j,f.1,by omega,q.2.2.1⟩) q))
     .exact .inr (.inr (by rw[r.M k j f.1 (by omega),r.M k (j+1) f.1 (by omega)];exact q))
   .exact .inr ⟨k,j,r.CV F,r.fwd F (W g d ⟨k,j+1,F.1,by have:=F.2;omega,q.2.2.1⟩) q⟩
 |some kj=>
   obtain⟨o,p⟩:=kj;obtain⟨t,n,O,q2,q3⟩:=EY w;have N:p<(s.A o).nodes.length:=(aB.1 O).1;have B:eZ s o p=n:=qi O;have Xg:=h.safe.A o t;have u:(gV n m).1.M=n.M:=by
    rcases(RD n m).2.1 with e|e
    .exact e
    .exfalso;have ht:Safe (fa s 0):=h.safe.way λg d=>bk d;have hmo:CA (fa s 0) m:=h.safe.msg m (aC hm);have mY:=iN.step (s:=fa s 0) t O q2 m;have hS:=ht.step (k:=o) (j:=p) (n:=n) t O hmo;have Ey:Held (mM (fa s 0) o p m):=(h.held.lines (s':=fa s 0) rfl rfl).lines mY.keys mY.U;obtain⟨g1,_⟩:=AK hS Ey;have hd:jU s 0=nK (mM (fa s 0) o p m):=by
      unfold jU;rw[hm];simp only;rw[w]
     have pn:eZ (mM (fa s 0) o p m) o p=(gV n m).1:=by
      refine qi ?_;show((kS (fa s 0) o p (gV (eZ (fa s 0) o p) m).1).A o).nodes[p]?=_;rw[Ee (fa s 0) (k:=o) t,aK rfl,show eZ (fa s 0) o p=n from B];show((s.A o).nodes.set p _)[p]?=_;rw[rE,aK ⟨rfl,N⟩]
     have hlen:(mM (fa s 0) o p m).A o=_:=rfl;have DI:p<((mM (fa s 0) o p m).A o).nodes.length:=by rw[mY.mv.len o];exact N
     have a:=(g1.mv.at DI).2.length_le;rw[pn,e.2.2.2.2]at a;have b:=r.M o p t N;rw[hd,B]at b;simp at a;omega
   have hd:=yFv h.safe h.none C w O u;have qT:(jU s 0).J=kp ⟨R,s.J.lost,s.J.down⟩ (gV n m).2:=by
    rw[hd];show kp (RU s.J 0) _=_;unfold RU;rw[C];rfl
   have hR:∀g∈R,g∈(jU s 0).J.way:=λg d=>by rw[qT];exact Vy _ _ d
   have jM:∀k j,k<s.lines.length->j<(s.A k).nodes.length->m.C3=(eZ s k j).id->k=o/\j=p:=λk j y v q=>by
    rw[q,Q k j y v]at w;cases w;exact⟨rfl,rfl⟩
   obtain K|⟨k,j,F,g,d,q⟩:=K
   .have fy:=K.few;rw[C]at fy;simp at fy;by_cases hq:QB (jU s 0)
    .exact .inr hq
    refine .inl ?_
    -- what a Have brings
    have JS:m.kind=2/\m.dv=n.dv/\m.C3=n.id/\nR n 1 m.eP=true/\0<=m.n/\(gV n m).2=tr n m.n->(gV n m).2=[]/\∃a,(s.A o).nodes[p+1]?=some a/\a.id=m.eP/\n.M.length<=a.M.length:=λ⟨a1,a2,a3,a4,a5,a6⟩=>by
     obtain⟨i,a,hi,I,xH⟩:=Xg.XC O (KK a4);obtain rfl:i=p+1:=by omega
     have Y:=(aB.1 I).1;have XQ:=K.hv m (by rw[C];simp) a1 o (p+1) t Y (by rw[qi I];exact xH);rw[qi I]at XQ;have hlk:BD s o p:=⟨t,Y⟩;have V:n.M.length<=a.M.length:=by
      apply aS;intro hlt;apply hq;refine⟨o,p,r.CV hlk,?_⟩;have X:∃c ms,(gV n m).2=⟨3,n.id,m.eP,n.dv,(a.M.length:Int),c⟩::ms:=by
       rw[a6];unfold tr;rw[KK a4];show ∃c ms,lq n m.eP m.n.toNat (n.M.length-m.n.toNat)=_;have e1:m.n.toNat=a.M.length:=by omega
       rw[e1];obtain⟨x,hx⟩:∃x,n.M.length-a.M.length=x+1:=⟨n.M.length-a.M.length-1,by omega⟩;rw[hx];unfold lq;rw[List.range_succ_eq_map];exact⟨_,_,rfl⟩
      obtain⟨c,ms,X⟩:=X;refine r.fwd hlk (m:=⟨3,n.id,m.eP,n.dv,(a.M.length:Int),c⟩) ?_ ⟨rfl,by rw[B],by rw[qi I];exact xH.symm,?_,by rw[qi I],?_⟩
      .rw[qT,X];refine Zp ?_ (by show R.length<200;omega);exact ZU hA (k:=o) (j:=p) (k':=o) (j':=p+1) t N t Y (by rw[B]) (by rw[qi I];exact xH.symm)
      .rw[qi I];obtain⟨E,_,_,hE⟩:=Xg.ep;rw[hE n (aC O),hE a (aC I)]
      .rw[qi I];have:=Xg.few n (aC O);omega
     refine⟨?_,a,I,xH,V⟩;rw[a6];unfold tr;rw[KK a4];show lq n m.eP m.n.toNat (n.M.length-m.n.toNat)=[];rw[show n.M.length-m.n.toNat=0 by omega];rfl
    have JK:(gV n m).2.length<=1/\∀x∈(gV n m).2,x.kind=2->x.eP=n.id/\x.n=n.M.length:=by
     rcases yPs u with q|q
     .exact q
     .rw[(JS q).1];exact⟨by simp,λx hx=>by cases hx⟩
    refine⟨?_,λg d h2 k j y v H=>?_,λk j F=>?_⟩
    .rw[qT];have:=ZE (gV n m).2 ⟨R,s.J.lost,s.J.down⟩;have h1:=JK.1;simp only at this;omega
    .rw[r.ll]at y;rw[r.len]at v;rw[r.M k j y v];rw[r.id k j v]at H;rw[qT]at d;rcases OF d with e|e
     .exact K.hv g (by rw[C];exact bH _ e) h2 k j y v H
     .obtain⟨b1,b2⟩:=JK.2 g e h2;have hid2:nf s n.id=some (k,j):=by rw[<-b1,<-H];exact Q k j y v
      have TV:=Q o p t N;rw[B,hid2]at TV
      cases TV
      rw[B];exact b2
    .have f:=r.link F;have D:=f.2;have G:(s.A k).nodes[j]?=some (eZ s k j):=qM (by omega);have DH:(s.A k).nodes[j+1]?=some (eZ s k (j+1)):=qM D;have Gk:=h.safe.A k f.1;have iS:(eZ (jU s 0) k j).M.length=(eZ s k j).M.length/\(eZ (jU s 0) k (j+1)).M.length=(eZ s k (j+1)).M.length:=⟨r.M k j f.1 (by omega),r.M k (j+1) f.1 (by omega)⟩;rcases K.link k j f with⟨g,d,q⟩|⟨g,d,q⟩|q
     .rw[C]at d;rcases bB.1 d with e|e
      .subst e;obtain⟨rfl,rfl⟩:=jM k (j+1) f.1 D q.2.2.1;have e0:n=eZ s k (j+1):=B.symm;subst e0;refine .inr (.inl (r.DR f (m:=⟨2,(eZ s k (j+1)).id,(eZ s k j).id,(eZ s k (j+1)).dv,((eZ s k (j+1)).M.length:Int),tC⟩) ?_ ⟨rfl,rfl,rfl,?_⟩))
       .rw[qT];have L:(gV (eZ s k (j+1)) g).2=[⟨2,(eZ s k (j+1)).id,(eZ s k j).id,(eZ s k (j+1)).dv,((eZ s k (j+1)).M.length:Int),tC⟩]:=by
         unfold gV;have hnb:=Gk.wS (wh:=-1) DH G (by omega);have Z:=Gk.CY (wh:=-1) DH G (by omega);rw[aK ⟨q.2.2.2,q.2.2.1⟩,aK ⟨q.1,by rw[q.2.1];exact Z⟩];show lY (eZ s k (j+1)) (-1) _=_;unfold lY;rw[hnb];rfl
        rw[L];refine Zp ?_ (by show R.length<200;omega);exact ZU hA (k:=k) (j:=j+1) (k':=k) (j':=j) f.1 D f.1 (by omega) rfl rfl
       .obtain⟨E,_,_,hE⟩:=Gk.ep;show(eZ s k (j+1)).dv=(eZ s k j).dv;rw[hE _ (aC G),hE _ (aC DH)]
      .exact .inl (r.sync f (hR g e) q)
     .rw[C]at d;rcases bB.1 d with e|e
      .subst e;obtain⟨rfl,rfl⟩:=jM k j f.1 (by omega) q.2.2.1;have Z:=Gk.CY (wh:=1) G DH (by omega);have XQ:=K.hv g (by rw[C];simp) q.1 k (j+1) f.1 D q.2.1.symm;have L:(gV n g).2=tr n g.n:=by
        unfold gV;rw[aK ⟨by rw[q.2.2.2,B],by rw[q.2.2.1,B]⟩,aH (λe=>by have:=q.1;omega),aK ⟨q.1,by rw[q.2.1,<-B];exact Z,by omega⟩]
       obtain⟨_,a,I,_,V⟩:=JS ⟨q.1,by rw[q.2.2.2,B],by rw[q.2.2.1,B],by rw[q.2.1,<-B];exact Z,by omega,L⟩;rw[DH]at I
       cases I
       refine .inr (.inr ?_);rw[iS.1,iS.2,B];exact V
      .exact .inr (.inl (r.DR f (hR g e) q))
     .exact .inr (.inr (by rw[iS.1,iS.2];exact q))
   .rw[C]at d;rcases bB.1 d with e|e
    .exfalso;subst e;have D:=F.2;obtain⟨rfl,rfl⟩:=jM k (j+1) F.1 D q.2.2.1;have G:(s.A k).nodes[j]?=some (eZ s k j):=qM (by omega);have Z:=Xg.CY (wh:=-1) O G (by omega);rw[B]at q;have L:(gV n g).1=(nc n g.z).1:=by
      unfold gV;rw[aK ⟨q.2.2.2.1,q.2.2.1⟩,aH (λe=>by have:=q.1;omega),aH (λe=>by have:=q.1;omega),aK ⟨q.1,by rw[q.2.1];exact Z,q.2.2.2.2.1,q.2.2.2.2.2⟩]
     rw[L,(FV n g.z).2.1]at u;simp at u
    .exact .inr ⟨k,j,r.CV F,r.fwd F (hR g e) q⟩
theorem lz.Kr(h:lz s s')(d:∀k j,(eZ s' k j).M=(eZ s k j).M):BF s s':=
 ⟨h.ll,h.len,λk j b=>(h.at b).1.id,λk j b=>(h.at b).1.ep,λk j _ _=>by rw[d]⟩
structure CC(s S:dp)(c:Nat)(P:Nat->Nat->Prop):Prop where
 safe:Safe S
 tells:iN s S
 M:∀k j,(eZ S k j).M=(eZ s k j).M
 few:S.J.way.length<=c
 kd:∀m∈S.J.way,m.kind=1\/m.kind=4
 sync:∀k j,BD S k j->P k j->yZb S k j
theorem CC.step(h:CC s S c P)(hA:oG s)(L:c<200)(G:k<s.lines.length)(H:j<(s.A k).nodes.length):CC s (fX k S j) (c+1) (λa b=>P a b\/(a=k/\b=j)):=by
 have B:=hA.moves h.tells.mv h.tells.down;have f:k<S.lines.length:=by rw[h.tells.mv.ll];exact G
 have e:j<(S.A k).nodes.length:=by rw[h.tells.mv.len];exact H
 obtain⟨I,z⟩:=h.safe.fX (k:=k) (j:=j) f;have y:=λk' j'=>yDe h.safe f j k' j';have D:=B.lives k f _ (aC (qM e));have w:=z.mv.Kr y;obtain⟨n,hn⟩:∃n,n=eZ S k j:=⟨_,rfl⟩;have p:(S.A k).nodes[j]?=some n:=by rw[hn];exact qM e
 have g:(fX k S j).J=kp S.J (lH n).2:=by
  unfold fX;rw[aK D,<-hn];rfl
 have t:=(IU n).2.2;refine⟨I,h.tells.trans z,λa b=>(y a b).trans (h.M a b),?_,λm o=>?_,λa b F x=>?_⟩
 .rw[g];have:=ZE (lH n).2 S.J;have:=Nz n;have:=h.few;omega
 .rw[g]at o;rcases OF o with q|q
  .exact h.kd m q
  .exact(t m q).2
 .have d:=w.link F;obtain x|⟨rfl,rfl⟩:=x
  .obtain⟨m,o,q⟩:=h.sync a b d x;exact w.sync d (by rw[g];exact Vy _ _ o) q
  .have r:=h.safe.A a d.1;have C:=qM d.2;have v:=r.wS (wh:=1) p C (by omega);have u:=r.place p;have K:=r.cfg n (aC p);have ht:vW n=false:=by
    unfold vW;rw[u,K,ao];have:=d.2;have:¬((b:Int)=((S.A a).nodes.length:Int)-1):=by omega
    simp[this]
   refine w.sync d (m:=⟨1,n.id,(eZ S a (b+1)).id,n.dv,n.M.length,tC⟩) ?_ ⟨rfl,by rw[hn],rfl,?_⟩
   .rw[g];have:(lH n).2=[⟨1,n.id,(eZ S a (b+1)).id,n.dv,n.M.length,tC⟩]:=by
     unfold lH;rw[ht];show lY n 1 _=_;unfold lY;rw[v];rfl
    rw[this];refine Zp ?_ (by have:=h.few;omega);exact ZU B (k:=a) (j:=b) (k':=a) (j':=b+1) f e f d.2 (by rw[hn]) rfl
   .obtain⟨E,_,_,hE⟩:=r.ep;show n.dv=(eZ S a (b+1)).dv;rw[hE _ (aC p),hE _ (aC C)]
theorem CC.mono{c':Nat}{d:Nat->Nat->Prop}(h:CC s S c P)(f:c<=c')(g:∀a b,d a b->P a b):CC s S c' d:=
 ⟨h.safe,h.tells,h.M,aO h.few f,h.kd,λk j e q=>h.sync k j e (g k j q)⟩
theorem yPm(h:CC s S c P)(hA:oG s)(p:Safe s)(x:c+4<200)(g:k<s.lines.length):CC s (fB S k) (c+4) (λa b=>P a b\/a=k):=by
 have f:∀m,m<=(s.A k).nodes.length->CC s ((List.range m).foldl (fX k) S) (c+m) (λa b=>P a b\/(a=k/\b<m)):=by
  intro m
  induction m with
 |zero=>exact λ_=>h.mono (by omega) (λa b q=>q.elim id (λq=>by omega))
 |succ m t=>
   intro w;rw[aZ,ae];have u:=p.oV g;refine((t (by omega)).step hA (by omega) g (j:=m) (by omega)).mono (by omega) (λa b q=>?_);obtain q|⟨o,v⟩:=q
   .exact .inl (.inl q)
   .by_cases e:b=m
    .exact .inr ⟨o,e⟩
    .exact .inl (.inr ⟨o,by omega⟩)
 have u:=p.oV g;unfold fB;rw[h.tells.mv.len];obtain⟨T,hT⟩:∃T,T=(List.range (s.A k).nodes.length).foldl (fX k) S:=⟨_,rfl⟩;have d:=f (s.A k).nodes.length (aD _);rw[<-hT]at d⊢;refine⟨d.safe,d.tells,d.M,by have:=d.few;omega,d.kd,λa b r hp=>d.sync a b r ?_⟩;obtain hp|hp:=hp
 .exact .inl hp
 .refine .inr ⟨hp,?_⟩;have:=r.2;rw[d.tells.mv.len,hp]at this;omega
theorem yXr(h:jY s)(hA:oG s)(o:s.J.way=[]):QC (kq s):=by
 have g:∀m,m<=s.lines.length->CC s ((List.range m).foldl fB s) (4*m) (λa b=>a<m):=by
  intro m
  induction m with
 |zero=>
   intro _;show CC s s _ _;exact⟨h.safe,iN.refl s,λ_ _=>rfl,by rw[o];simp,λm f=>(by rw[o]at f;cases f),λk j _ q=>by omega⟩
 |succ m r=>
   intro f;rw[aZ,ae];have t:=h.safe.ll.2;refine(yPm (r (by omega)) hA h.safe (by omega) (k:=m) (by omega)).mono (by omega) (λa b q=>?_);by_cases e:a=m
   .exact .inr e
   .exact .inl (by omega)
 have d:=g s.lines.length (aD _);have t:=h.safe.ll.2;unfold kq;obtain⟨T,hT⟩:∃T,T=(List.range s.lines.length).foldl fB s:=⟨_,rfl⟩;rw[<-hT]at d⊢;refine⟨by have:=d.few;omega,λm f u=>?_,λk j p=>.inl (d.sync k j p (by rw[<-d.tells.mv.ll];exact p.1))⟩;have:=d.kd m f;omega
theorem yKz:∀(n:Nat) {s:dp},jY s->oG s->QC s\/QB s->lD (fo n s)=lD s->QC (fo n s)\/QB (fo n s)
|0,s,_,_,f,_=>f
|n+1,s,h,hA,f,g=>by
  unfold fo at g⊢;split
  .exact f
  .rename_i e;rw[aH e]at g;have d:s.J.way≠[]:=λq=>e (by rw[q];rfl);obtain⟨a,b,c⟩:=h.fj d;obtain⟨t,o,_⟩:=Zk n a;have r:=b.mv.known;have p:=o.mv.known;exact yKz n a (hA.moves b.mv b.down) (yNn h hA f d (by omega)) (by omega)
def yZg(s:dp):Prop:=∀k j,k<s.lines.length->j<(s.A k).nodes.length->(eZ s k j).M=(eU s k).M
theorem yPa(h:jY s)(hA:oG s)(x:s.J.way=[])(r:lD (qJ s)=lD s):yZg (qJ s):=by
 obtain⟨a,b,_,_,e⟩:=AJ h;obtain⟨v,t,_,_⟩:=h.tick;obtain⟨H,D,_,_⟩:=zZz v;have G:=t.mv.known;have F:=D.mv.known;have E:lD (zs (kq s))=lD (qJ s):=rfl;have y:=yKz (qP (kq s)+1) v (hA.moves t.mv t.down) (.inl (yXr h hA x)) (by show lD (zs (kq s))=_;omega);have g:QC (qJ s)\/QB (qJ s):=y;have o:∀k j,BD (qJ s) k j->(eZ (qJ s) k j).M.length<=(eZ (qJ s) k (j+1)).M.length:=λk j z=>by
  obtain q|⟨_,_,_,m,f,_⟩:=g
  .rcases q.link k j z with⟨m,f,_⟩|⟨m,f,_⟩|q
   .rw[e]at f;cases f
   .rw[e]at f;cases f
   .exact q
  .rw[e]at f;cases f
 intro k j r u;have B:=a.safe.A k r;have p:∀j,j<((qJ s).A k).nodes.length->(eU (qJ s) k).M.length<=(eZ (qJ s) k j).M.length:=by
  intro j
  induction j with
 |zero=>exact λ_=>aD _
 |succ j w=>exact λq=>aO (w (by omega)) (o k j ⟨r,q⟩)
 by_cases C:j=0
 .rw[C];rfl
 .have d:=(sy.1 B.ord 0 j _ _ (by omega) (qM (by omega)) (qM u)).2;exact d.eq_of_length (Nat.le_antisymm d.length_le (p j u))
theorem ySn(h:jY s)(hA:oG s):yZg (lQ s):=by
 obtain⟨S,r,g,q,p⟩:=yWx h;rw[q];obtain⟨w,f,_,_,C⟩:=AJ r;obtain⟨v,e,_,_,B⟩:=AJ w;obtain⟨o,d,_,_,t⟩:=AJ v;obtain⟨D,u,_,_,A⟩:=AJ o;have b:=(((hA.moves g.mv g.down).moves f.mv f.down).moves e.mv e.down).moves d.mv d.down;have z:=f.mv.known;have y:=e.mv.known;have x:=d.mv.known;have k4:=u.mv.known;unfold gL at p;exact yPa o b t (by omega)
structure zo(s:dp):Prop where
 sh:∀k,k<dz s->∀c∈kN s k,c.kind=2->(s.I c.I.toNat).state=2->(s.I c.I.toNat).ats.getD k 0=2
 de:∀c∈kN s (dz s),(s.I c.I.toNat).state=3
theorem zo.of(h:zo s)(o:Safe s)(y:s'.lines.length=s.lines.length)(v:∀k,k<s.lines.length->kN s' k=kN s k)(z:lx s s')(x:∀id,1<=id->id<=s.U.length->(s'.I id).state=2->(s.I id).state=1\/s'.I id=s.I id):zo s':=by
 have w:dz s'=dz s:=by unfold dz;rw[y]
 have A:=o.ll.1;have t:dz s<s.lines.length:=by unfold dz;omega
 refine⟨λk u c d r b=>?_,λc d=>?_⟩
 .rw[w]at u;rw[v k (by omega)]at d;have q:=(o.M k (by omega)).all c (EW k c d);have f:=q.lo;have g:=q.hi;rcases x c.I.toNat (by omega) (by omega) b with e|e
  .exfalso;rcases q.jl (by omega)with p|p|p
   .exact p.2.1 e
   .omega
   .omega
  .rw[e]at b⊢;exact h.sh k u c d r b
 .rw[w,v _ t]at d;have q:=(o.M _ t).all c (EW _ c d);have f:=q.lo;have g:=q.hi;have e:=h.de c d;rw[z.fin c.I.toNat (by omega) (by omega) (by omega)];exact e
structure mJ(s s':dp):Prop where
 hi:zo s->zo s'
 tl:s'.U.length=s.U.length
 ends:∀id,1<=id->id<=s.U.length->(s'.I id).state=(s.I id).state\/((s.I id).state=2/\(s'.I id).state=3)
theorem mJ.refl(s:dp):mJ s s:=⟨id,rfl,λ_ _ _=>.inl rfl⟩
theorem mJ.trans{a b c:dp}(h:mJ a b)(k:mJ b c):mJ a c:=by
 refine⟨λq=>k.hi (h.hi q),k.tl.trans h.tl,λid g d=>?_⟩;rcases h.ends id g d with e|⟨p,o⟩
 .rcases k.ends id g (by rw[h.tl];exact d)with f|⟨f1,f2⟩
  .exact .inl (f.trans e)
  .exact .inr ⟨by rw[<-e];exact f1,f2⟩
 .rcases k.ends id g (by rw[h.tl];exact d)with f|⟨f1,f2⟩
  .exact .inr ⟨p,by rw[f];exact o⟩
  .omega
theorem yEy(d:Safe s)(h:iN s s')(b:k<s.lines.length):kN s' k=kN s k:=by
 have f:=bR.2 (d.A k b).ne;have e:=(h.mv.at (k:=k) (j:=0) f).2;have g:(eU s k).M <+: (eU s' k).M:=e;obtain⟨t,ht⟩:=g;unfold kN;rw[h.heard,<-ht,bd];exact(d.A k b).heard _ (d.head_mem b)
theorem iN.sound(h:iN s s')(b:Safe s):mJ s s':=by
 have e:∀i,s'.I i=s.I i:=λi=>by unfold dp.I;rw[h.U]
 exact⟨λq=>q.of b h.mv.ll (λk d=>yEy b h d) (lx.of h.U) (λid _ _ _=>.inr (e id)),by rw[h.U],λid _ _=>.inl (by rw[e])⟩
theorem yIh(h:Safe s)(hH:Held s)(t:k<s.lines.length){c:eH}(hc:∀n∈(s.A k).nodes,n.M[(s.A k).heard]?=some c):mJ s (mw k s c):=by
 have Et:=h.head_mem t;have L:=hc _ Et;have J:c∈(eU s k).M:=aC L;have q:=(h.M k t).all c J;have hlo:=q.lo;have hhi:=q.hi;obtain⟨id,hid⟩:∃id:Nat,c.I=id:=⟨c.I.toNat,by omega⟩;have x:1<=id:=by omega
 have y:id<=s.U.length:=by omega
 have hx:=h.I id x y;have T:=gS.follow (bump s k) k c;have R:dz (bump s k)=dz s:=by unfold dz;rw[BS]
 have Y:∀i,i<s.lines.length->kN (mw k s c) i=if i=k then kN s k++[c]else kN s i:=λi G=>by
  rw[OE s t,Qu T.l];unfold kN;rw[OG s t,KN s t];split
  .rename_i e;subst e;exact rq L
  .rfl
 have O:(mw k s c).lines.length=s.lines.length:=by rw[OE s t,T.l,BS]
 have X:dz (mw k s c)=dz s:=by unfold dz;rw[O]
 have hl2:=h.ll.1;have V:dz s<s.lines.length:=by unfold dz;omega
 -- what becomes of the transactions
 have o:∀j,1<=j->j<=s.U.length->(mw k s c).I j=if j=id then(if k=dz s then{s.I id with state:=3,writes:=[],time:=c.time}else if c.kind=2 then{s.I id with ats:=(s.I id).ats.set k 2}else s.I id)else s.I j:=λj D W=>by
  rw[OE s t];unfold mj;rw[R,hid,aU];have hb:∀i,(bump s k).I i=s.I i:=λ_=>rfl;have r:(bump s k).U.length=s.U.length:=rfl;by_cases e:k=dz s
  .rw[aK e,aK e];unfold pA;show(du (du (bump s k) id _) id _).I j=_;rw[pO _ id _ D x (by simp[du,r,y]),pO _ id _ D x (by rw[r];exact y),pO _ id _ x x (by rw[r];exact y)];by_cases f:j=id
   .rw[aK f,aK f,aK rfl];rfl
   .rw[aH f,aH f,aH f];rfl
  .rw[aH e,aH e];by_cases v:c.kind=2
   .rw[aK v,aK v,pO _ id _ D x (by rw[r];exact y)];rfl
   .rw[aH v,aH v];split
    .rename_i f;rw[f];rfl
    .rfl
 have F:(mw k s c).U.length=s.U.length:=by rw[OE s t,T.len];rfl
 refine⟨λN=>⟨λi G g b C d=>?_,λg b=>?_⟩,F,λj D W=>?_⟩
 .rw[X]at G;rw[Y i (by omega)]at b;have K:g∈(eU s i).M:=by
   split at b
   .rename_i e;subst e;rcases aM.1 b with p|p
    .exact EW _ _ p
    .simp at p;rw[p];exact J
   .exact EW _ _ b
  have z:=(h.M i (by omega)).all g K;have E:=z.lo;have H:=z.hi;rw[o g.I.toNat (by omega) (by omega)]at d⊢;by_cases f:g.I.toNat=id
  .rw[aK f]at d⊢;by_cases e:k=dz s
   .rw[aK e]at d;simp at d
   .rw[aH e]at d⊢;by_cases v:c.kind=2
    .rw[aK v]at d⊢;show((s.I id).ats.set k 2).getD i 0=2;rw[pQ,hx.len];split
     .rfl
     .rename_i Z;have Q:i≠k:=λq=>Z ⟨q,by omega⟩;rw[aH Q]at b;have:=N.sh i G g b C (by rw[f];exact d);rw[f]at this;exact this
    .rw[aH v]at d⊢;have w:g∈kN s i:=by
      split at b
      .rename_i u;subst u;rcases aM.1 b with p|p
       .exact p
       .simp at p;rw[p]at C;exact absurd C v
      .exact b
     have:=N.sh i G g w C (by rw[f];exact d);rw[f]at this;exact this
  .rw[aH f]at d⊢;have w:g∈kN s i:=by
    split at b
    .rename_i u;subst u;rcases aM.1 b with p|p
     .exact p
     .simp at p;rw[p,hid]at f;simp at f
    .exact b
   exact N.sh i G g w C d
 .rw[X]at b;rw[Y _ V]at b;have B:g∈kN s (dz s)->((mw k s c).I g.I.toNat).state=3:=λp=>by
   have z:=(h.M _ V).all g (EW _ _ p);have E:=z.lo;have H:=z.hi;have u:=N.de g p;rw[o g.I.toNat (by omega) (by omega)];by_cases f:g.I.toNat=id
   .rw[aK f];rw[f]at u;split
    .rfl
    .split
     .exact u
     .exact u
   .rw[aH f];exact u
  split at b
  .rename_i e;rcases aM.1 b with p|p
   .exact B (by rw[e];exact p)
   .simp at p;rw[p,hid,aU,o id x y,aK rfl,aK e.symm]
  .exact B b
 .rw[o j D W];by_cases f:j=id
  .subst f;rw[aK rfl];by_cases e:k=dz s
   .rw[aK e];obtain⟨_,_,d3,_⟩:=q.dec e;rw[hid,aU]at d3;obtain d3|d3:=d3
    .exact .inr ⟨d3,rfl⟩
    .exact .inl d3.symm
   .rw[aH e];split
    .exact .inl rfl
    .exact .inl rfl
  .rw[aH f];exact .inl rfl
theorem zWi:∀(d:List eH) {s:dp},Safe s->Held s->k<s.lines.length->(∀n∈(s.A k).nodes,∃r,n.M.drop (s.A k).heard=d++r)->mJ s (d.foldl (mw k) s)
|[],s,h,g,_,_=>mJ.refl s
|c::d,s,h,g,f,o=>by
  have p:∀n∈(s.A k).nodes,n.M[(s.A k).heard]?=some c:=λn b=>by
   obtain⟨r,e⟩:=o n b;have:=an (λl=>l[0]?) e;simpa using this
  obtain⟨q,t⟩:=ZM h g f p;refine(yIh h g f p).trans (zWi d q.safe q.held (by rw[q.same.ll];exact f) λn b=>?_);rw[q.same.nodes]at b;obtain⟨r,e⟩:=o n b;refine⟨r,?_⟩;rw[t,<-List.drop_drop,e];rfl
theorem yEz(h:Safe s)(g:Held s)(d:k<s.lines.length):mJ s (iI s k):=by
 have b:=h.A k d;refine zWi (lX s k) h g d λn f=>?_;obtain⟨r,e⟩:=b.last ⟨0,0,[],[],0⟩ f;refine⟨r,?_⟩;rw[<-e];unfold lX qf;rw[dL];exact b.heard _ (Ql b.ne _)
theorem yIg(h:Safe s)(g:Held s):mJ s (pZ s):=by
 have d:∀m,m<=s.lines.length->rj s ((List.range m).foldl iI s)/\mJ s ((List.range m).foldl iI s):=by
  intro m
  induction m with
 |zero=>exact λ_=>⟨rj.refl h g,mJ.refl s⟩
 |succ m f=>
   intro o;rw[aZ,ae];obtain⟨a,b⟩:=f (by omega);have e:m<((List.range m).foldl iI s).lines.length:=by rw[a.same.ll];omega
   exact⟨a.trans (Zl a.safe a.held e).1,b.trans (yEz a.safe a.held e)⟩
 exact(d _ (aD _)).2
theorem Zr(h:Safe s):mJ s (kR s):=(uO h).2.1.sound h
theorem zQm:∀(n:Nat) {s:dp},Safe s->Held s->mJ s (fT n s)
|0,s,_,_=>mJ.refl s
|n+1,s,h,d=>by
  unfold fT;split
  .have a:=(OI h d).1;obtain⟨b,_⟩:=KU h d;exact((yIg h d).trans (Zr a.safe)).trans (zQm n b.safe b.held)
  .exact mJ.refl s
theorem Zy(h:Safe s)(b:Held s):mJ s (nK s):=zQm _ h b
theorem mJ.J(net:fS):mJ s {s with J:=net}:=⟨λh=>⟨h.sh,h.de⟩,rfl,λ_ _ _=>.inl rfl⟩
theorem zRp(h:Safe s)(v:Held s)(k:Nat):mJ s (jU s k):=by
 unfold jU
 cases t:s.J.way[k]? with
|none=>exact mJ.refl s
|some m=>
  have ht:Safe (fa s k):=h.way λy b=>bk b;have o:mJ s (fa s k):=mJ.J _;simp only
  cases r:nf s m.C3 with
 |none=>exact o
 |some q=>
   obtain⟨f,j⟩:=q;obtain⟨g,n,e,p,x⟩:=EY r;have b:CA (fa s k) m:=h.msg m (aC t);have u:=ht.step (k:=f) (j:=j) (n:=n) g e b;have d:=iN.step (s:=fa s k) g e p m;have w:Held (mM (fa s k) f j m):=(v.lines (s':=fa s k) rfl rfl).lines d.keys d.U;exact(o.trans (d.sound ht)).trans (Zy u w)
theorem zYj(h:Safe s):mJ s (kq s):=(RL h).2.sound h
theorem zXa:∀(n:Nat) {s:dp},jY s->mJ s (fo n s)
|0,s,_=>mJ.refl s
|n+1,s,h=>by
  unfold fo;split
  .exact mJ.refl s
  .rename_i e;obtain⟨a,_,_⟩:=h.fj (λq=>e (by rw[q];rfl));exact(zRp h.safe h.held 0).trans (zXa n a)
theorem WM(h:jY s):mJ s (qJ s):=(zYj h.safe).trans (zXa _ h.tick.1)
theorem zXe(h:jY s):mJ s (gL s):=by
 obtain⟨d,_⟩:=AJ h;obtain⟨b,_⟩:=AJ d;obtain⟨e,_⟩:=AJ b;exact(((WM h).trans (WM d)).trans (WM b)).trans (WM e)
theorem zXd:∀(n:Nat) {s:dp},jY s->mJ s (iO n s)
|0,s,_=>mJ.refl s
|n+1,s,h=>by
  unfold iO;split
  .exact zXe h
  .exact(zXe h).trans (zXd n (RE h).1)
theorem ZI(h:jY s):mJ s (lQ s):=zXd _ h
theorem yIr(t:Rest S)(hA:oG S)(z:zo S)(hE:yZg S)(v:1<=id)(u:id<=S.U.length):(S.I id).state≠2:=λf=>by
 have a:=t.c;have y:=a.safe.I id v u;have C:=a.safe.ll.1;have r:dz S<S.lines.length:=by unfold dz;omega
 -- all of a head's log was heard
 have d:∀k,k<S.lines.length->kN S k=(eU S k).M:=λk b=>by
  have g:=(a.safe.A k b).ne;have F:=bR.2 g;have o:=(yBr g).1 (EM.1 a.none k b);rw[hE k ((S.A k).nodes.length-1) b (by omega)]at o;unfold kN;exact bM o
 have x:∀k,k<S.lines.length->gQ S (eU S k)=true:=λk b=>hA.lives k b _ (a.safe.head_mem b);have D:∀k,k<dz S->(S.I id).ats.getD k 0≠0->(S.I id).ats.getD k 0=2:=λk b B=>by
  have w:ot (S.I id) (decide (k=dz S)) k=some 2:=by
   unfold ot;rw[aN (by omega)];simp only[cX,if_false];rw[aH B,aK f]
  obtain⟨c,h,o,p⟩:=Vm.1 (t.told k (by omega) (x k (by omega))) id v u 2 w;rw[<-d k (by omega)]at h;have:=z.sh k b c h o (by rw[p];simpa using f);rw[p]at this;simpa using this
 have E:ve (S.I id)=true:=KP.2 λk q=>by
  by_cases b:k<dz S
  .have:=D k b (by omega);omega
  .by_cases e:k=dz S
   .rw[e,y.dec]at q;omega
   .have:(S.I id).ats.length<=k:=by rw[y.len];unfold dz at b e;omega
    rw[aI,aX this]at q;simp at q
 have w:ot (S.I id) (decide (dz S=dz S)) (dz S)=some 3:=by
  unfold ot;rw[aQ rfl];simp only[if_true];rw[aK ⟨f,E⟩]
 obtain⟨c,h,o,p⟩:=Vm.1 (t.told _ r (x _ r)) id v u 3 w;rw[<-d _ r]at h;have:=z.de c h;rw[p]at this;simp at this;omega
theorem zVr(h:Rest s)(hA:oG s)(d:zo s)(f:1<=id)(e:id<=s.U.length):((lQ s).I id).state≠2:=by
 obtain⟨a,b⟩:=IN h.c;exact yIr h.calm (hA.moves b.mv b.down) ((ZI h.c).hi d) (ySn h.c hA) f (by rw[b.mv.tl];exact e)
end Go.Proofs.YtmaiggbnceejiaaGreatDoor
namespace Go.Proofs.YtmaiggbnceejiaaGreatDoor
variable {s s' r:dp}{id k j:Nat}{x m:Int}{key:ByteArray}
structure iK(s:dp):Prop where
 heard:zo s
 some:∀k,k<s.lines.length->∃n∈(s.A k).nodes,gQ s n=true
 down:∀x∈s.J.down,x∈s.dead
theorem iK.of(h:iK s)(i:Safe s)(b:s'.lines=s.lines)(d:s'.dead=s.dead)(a:s'.J.down=s.J.down)(g:lx s s')(e:∀id,1<=id->id<=s.U.length->(s'.I id).state=2->(s.I id).state=1\/s'.I id=s.I id):iK s':=by
 refine⟨h.heard.of i (by rw[b]) (λk _=>Qu b k) g e,λk c=>?_,by rw[d,a];exact h.down⟩;rw[b]at c;obtain⟨n,a,f⟩:=h.some k c;refine⟨n,?_,by rw[Nv d];exact f⟩;unfold dp.A at a⊢;rw[b];exact a
theorem iK.pP(h:iK s)(a:lz s s')(b:s'.J.down=s.J.down)(f:mJ s s'):iK s':=by
 refine⟨f.hi h.heard,λk d=>?_,by rw[a.dead,b];exact h.down⟩;rw[a.ll]at d;obtain⟨n,b,c⟩:=h.some k d;obtain⟨j,g⟩:=aP b;obtain⟨e,l,i,_⟩:=a.node k j n g;refine⟨e,aC l,?_⟩;unfold gQ at c⊢;rw[a.dead,i.id];exact c
theorem iK.begin(h:iK s)(a:Rest s)(b:s.U.length<60):iK (mB s):=
 h.of a.c.safe rfl rfl rfl (yAc a.c.safe a.c.held b).fin (λid e d _=>.inr (wH s e d))
theorem iK.locked(h:iK s)(c:Safe s)(b:(s.I id).state=1)(a:Kd s id k r):iK r:=by
 refine h.of c a.same.l a.same.d (by rw[a.same.J]) (a.Fo c b).fin λj g n i=>?_;by_cases e:j=id
 .left;rw[e];exact b
 .rcases a.cut j g e with q|⟨f,_,_⟩
  .exact .inr q
  .exact .inl f
theorem iK.get(h:iK s)(a:Rest s)(id:Int)(key:ByteArray):iK (fG s id key).1:=by
 unfold fG;split
 .exact h
 rename_i d;obtain⟨i,rfl,f,e,b⟩:=pB (pL (by simpa using d)).1;have q:=h.locked a.c.safe b (vm a.c.safe a.c.held f e b key (pL (by simpa using d)).2.1 (mode:=1) (.inl rfl));simp only;split
 .exact q
 .exact q
theorem iK.put(h:iK s)(f:Rest s)(id:Int)(p:gB):iK (fg s id p).1:=by
 unfold fg;split
 .exact h
 split
 .exact h
 rename_i t;obtain⟨i,rfl,g,o,l⟩:=pB (pL (by simpa using t)).1;rw[aU];split
 .exact h
 have q:=vm f.c.safe f.c.held g o l p.key (pL (by simpa using t)).2.1 (mode:=2) (.inr rfl);have a:=h.locked f.c.safe l q;simp only;split
 .exact a
 .generalize (gj s i p.key 2).1=r at q a;have n:i<=r.U.length:=by rw[q.same.len];exact o
  have w:(oF (r.I i) p).state=1:=by
   unfold oF;split
   .exact q.st
   .exact q.st
  refine a.of q.safe rfl rfl rfl ⟨by rw[mO];exact aD _,λj b v u=>?_⟩ λj b v d=>?_
  .rw[pO r i _ b g n];split
   .rename_i e;rw[e,q.st]at u;omega
   .rfl
  .rw[pO r i _ b g n]at d⊢;split
   .rename_i e;left;rw[e];exact q.st
   .exact .inr rfl
theorem iK.drop(h:iK s)(g:Rest s)(id:Int):iK (oz s id).1:=by
 unfold oz;split
 .exact h
 .rename_i e;obtain⟨i,rfl,b,a,l⟩:=pB (by simpa using e);rw[aU];have n:=Cut.abort b a l;refine h.of g.c.safe (Ec s i) (gS.abort s i).d (by show(gk s i).J.down=_;rw[(gS.abort s i).J]) (lx.abort b a (by omega)) λj f o _=>?_;rcases n.I j f with q|⟨q,_,_⟩
  .exact .inr q
  .exact .inl q
theorem iK.told(h:iK s)(a:Safe s)(d:Held s):iK (nK (kR s)):=by
 obtain⟨b,c,_⟩:=uO a;have q:=c.tD b d;exact(h.pP c.mv c.down (Zr a)).pP (AK b q.held).1.mv (AK b q.held).1.down (Zy b q.held)
theorem iK.end_(h:iK s)(d:Rest s)(id:Int):iK (gK s id).1:=by
 unfold gK;split
 .exact h
 .rename_i e;split
  .exact h
  .rename_i t;obtain⟨i,rfl,b,a,g⟩:=pB (by simpa using e);rw[aU];have q:Safe (du s i {s.I i with state:=2}):=d.c.safe.write (ws:=(s.I i).writes) b a g (d.c.safe.I i b a).few (.inr rfl);have l:Held (du s i {s.I i with state:=2}):=d.c.held.ending b a rfl g (IY (by simpa using t));refine iK.told (h.of d.c.safe rfl rfl rfl ⟨by rw[mO];exact aD _,λj f o n=>?_⟩ λj f o p=>?_) q l
   .rw[pO s i _ f b a];split
    .rename_i e;rw[e]at n;omega
    .rfl
   .by_cases e:j=i
    .left;rw[e];exact g
    .right;rw[pO s i _ f b a,aH e]
theorem iK.J(h:iK s){net:fS}(a:net.down=s.J.down):iK {s with J:=net}:=⟨⟨h.heard.sh,h.heard.de⟩,h.some,by show ∀x∈net.down,x∈s.dead;rw[a];exact h.down⟩
theorem iK.rM(h:iK s)(k:Int):iK (qH s k).1:=by
 unfold qH;split
 .exact h.J rfl
 .exact h
theorem iK.twice(h:iK s)(k:Int):iK (oP s k).1:=by
 unfold oP;split
 .split
  .exact h.J (Zb _ _)
  .exact h
 .exact h
theorem iK.fj(h:iK s)(a:Rest s)(i:Nat):iK (jU s i):=by
 have q:=ON a.c.safe a.c.held i;exact h.pP q.mv q.down (zRp a.c.safe a.c.held i)
theorem iK.tick(h:iK s)(a:Rest s):iK (kq s):=by
 have q:=a.c.tick.2.1;exact h.pP q.mv q.down (zYj a.c.safe)
theorem iK.calm(h:iK s)(a:Rest s):iK (lQ s):=by
 have q:=(IN a.c).2;exact h.pP q.mv q.down (ZI a.c)
theorem iK.fail(h:iK s)(p:Safe s)(D:j<10)(E:1<(fc s k).length):iK (qG s (10*k+j:Nat)).1:=by
 unfold qG;split
 .exact h
 .refine⟨⟨h.heard.sh,h.heard.de⟩,λi w=>?_,λx t=>?_⟩
  .have b:i<s.lines.length:=w;by_cases e:i=k
   .subst e;have y:=(p.A i b).ord;have c:(fc s i).Sublist (s.A i).nodes:=ba;have B:=y.sublist c;have l:(fc s i)[0]?=.some ((fc s i)[0]'(by omega)):=aA _;have g:(fc s i)[1]?=.some ((fc s i)[1]'(by omega)):=aA _;have v:=(sy.1 B 0 1 _ _ (by omega) l g).1;have key:∀n∈fc s i,n.id≠((10*i+j:Nat):Int)->∃n∈(s.A i).nodes,gQ {s with dead:=s.dead++[((10*i+j:Nat):Int)],J:=Fb s.J ((10*i+j:Nat):Int)} n=true:=λn d u=>by
     have o:=au.1 d;refine⟨n,o.1,?_⟩;have a:=o.2;unfold gQ at a⊢;simp only[dG,bc]at a⊢;intro q;rcases aM.1 q with q|q
     .exact a q
     .simp at q;omega
    by_cases z:((fc s i)[0]'(by omega)).id=((10*i+j:Nat):Int)
    .exact key _ (dJ _) (by omega:((fc s i)[1]'(by omega)).id≠_)
    .exact key _ (dJ _) z
   .obtain⟨n,d,a⟩:=h.some i b;refine⟨n,d,?_⟩;have C:=(p.A i b).pE n d;unfold gQ at a⊢;simp only[dG,bc]at a⊢;intro q;rcases aM.1 q with q|q
    .exact a q
    .simp at q;omega
  .have f:x∈s.J.down++[((10*k+j:Nat):Int)]:=t;show x∈s.dead++[((10*k+j:Nat):Int)];rcases aM.1 f with q|q
   .exact bW _ (h.down x q)
   .exact List.mem_append_right _ q
theorem yNc(k:Nat)(g:1<=j):(qg s k).I j=s.I j\/((qg s k).I j).state=4:=by
 unfold qg;have key:∀(is:List Nat) (S:dp),(S.I j=s.I j\/(S.I j).state=4)->((is.foldl (λh i=>if kz h k i then gk h (i+1)else h) S).I j=s.I j\/((is.foldl (λh i=>if kz h k i then gk h (i+1)else h) S).I j).state=4):=by
  intro is
  induction is with
 |nil=>exact λS q=>q
 |cons i is c=>
   intro S q;rw[cQ];refine c _ ?_;by_cases b:kz S k i=true
   .rw[aK b];by_cases e:j=i+1
    .by_cases a:i+1<=S.U.length
     .right;rw[e];unfold gk pA;split
      .show((du (du S (i+1) _) (i+1) _).I (i+1)).state=4;rw[pO _ (i+1) _ (by omega) (by omega) (by rw[mO];exact a),aK rfl]
      .show((du S (i+1) _).I (i+1)).state=4;rw[pO _ (i+1) _ (by omega) (by omega) a,aK rfl]
     .have:(gk S (i+1)).I j=S.I j:=by
       have f:S.I j=⟨0,[],[],0⟩:=by unfold dp.I;rw[aI,aX (by omega)];rfl
       have d:(gk S (i+1)).I j=⟨0,[],[],0⟩:=by unfold dp.I;rw[aI,aX (by rw[IV];omega)];rfl
       rw[f,d]
      rw[this];exact q
    .rw[EZ S (by omega)];exact q
   .rw[aH b];exact q
 exact key _ s (.inl rfl)
theorem zo.ey(h:zo s)(c:Safe s)(t:Held s)(a:k<s.lines.length):zo (ey s k):=by
 have hA:=(ZL c t a).1;revert hA;unfold Go.Proofs.YtmaiggbnceejiaaGreatDoor.ey;split
 .exact λ_=>h
 .rename_i e;intro hA;obtain⟨w,v⟩:=OK e;have hF:Safe (fE s k):=c.fE a w v;have C:Held (fE s k):=t.lines rfl rfl;obtain⟨_,b⟩:=WV hF C (k:=k) (by rw[tz];exact a);have g:=(c.A k a).fix (ns:=fc s k) ba w v;refine h.of c (by show(qg (fE s k) k).lines.length=_;rw[b.l,tz]) (λi D=>?_) hA.fin (λid z E f=>?_)
  .show kN (qg (fE s k) k) i=_;rw[Qu b.l];by_cases u:i=k
   .subst u;have y:((fE s i).A i).nodes≠[]:=(hF.A i (by rw[tz];exact a)).ne;have p:=hF.head_mem (k:=i) (by rw[tz];exact a);rw[FY s a,aK rfl,OQ]at p;obtain⟨x,n,B⟩:=aj.1 p;have d:=(g.2 x n).2;unfold kN;rw[<-B,d,FY s a,aK rfl,OQ];exact(c.A i a).take (au.1 n).1 (c.head_mem a)
   .unfold kN eU;rw[FY s a,aH u]
  .rcases yNc (s:=fE s k) k z with q|q
   .exact .inr q
   .have o:((qg (fE s k) k).I id).state=2:=f;omega
theorem yFj(h:zo s)(c:Safe s)(d:Held s):∀m,m<=s.lines.length->zo ((List.range m).foldl ey s):=by
 intro m
 induction m with
|zero=>exact λ_=>h
|succ m b=>
  intro e;rw[aZ,ae];obtain⟨a,_⟩:=Eb c d m (by omega);exact(b (by omega)).ey a.safe a.held (by rw[a.ll];omega)
theorem iK.fixed(h:iK s)(o:Rest s):iK ((List.range s.lines.length).foldl ey s)/\oG ((List.range s.lines.length).foldl ey s):=by
 have w:=o.c.safe;obtain⟨a,b,z,c,d,e,f⟩:=Eb w o.c.held s.lines.length (aD _);have y:=yFj h.heard w o.c.held s.lines.length (aD _);generalize (List.range s.lines.length).foldl ey s=S at a b z c d e f y;have hA:oG S:=by
  refine⟨λk i n u=>?_,by rw[b,z];exact h.down⟩;rw[a.ll]at i;rw[Nv b];rcases e k i with⟨q1,q2⟩|q
  .obtain⟨B,t,l⟩:=h.some k i;have p:fc s k≠[]:=λq=>by
    have:B∈fc s k:=au.2 ⟨t,l⟩;rw[q]at this;cases this
   have g:(fc s k).length=(s.A k).nodes.length:=q2.resolve_left (λq=>p (aR q));rw[q1]at u;unfold fc at g;exact List.length_filter_eq_length_iff.1 g n u
  .exact q n u
 refine⟨⟨y,λk i=>?_,hA.down⟩,hA⟩;have v:=a.safe.head_mem i;exact⟨_,v,hA.lives k i _ v⟩
theorem iK.fix(h:iK s)(d:Rest s):iK (ku s)/\oG (ku s):=by
 obtain⟨p,q⟩:=h.fixed d;obtain⟨a,-⟩:=Eb d.c.safe d.c.held s.lines.length (aD _);unfold ku;refine⟨p.told a.safe a.held,?_⟩;obtain⟨b,c,_⟩:=uO a.safe;have t:=c.tD b a.held;exact(q.moves c.mv c.down).moves (AK b t.held).1.mv (AK b t.held).1.down
def ow(k:fP)(x m:Int):Prop:=∃c,(c∈k.held\/c∈k.waits)/\c.I=x/\m<=c.mode
theorem Yx:∀(q b a:List dw),kY b->kY (a++q)->(∀c∈a++q,∀o∈b,o.I=c.I->o.mode<c.mode)->(∃c,(c∈b\/c∈a++q)/\c.I=x/\m<=c.mode)->∃c,(c∈(ja b a q).1\/c∈(ja b a q).2.1)/\c.I=x/\m<=c.mode
|[],b,a,_,_,_,h=>by simpa[ja]using h
|c::q,b,a,i,n,v,h=>by
  unfold ja;split
  .have y:kY (a++q):=List.Pairwise.sublist (List.Sublist.append_left (List.sublist_cons_self c q) a) n;have g:∀d,d∈a++q->d∈a++c::q:=λd f=>by
    rcases aM.1 f with p|p
    .exact bW _ p
    .exact List.mem_append_right _ (bH _ p)
   have l:c∈a++c::q:=by simp
   refine Yx q (jx b c) a (FX i c) y (λd f o A e=>?_) ?_
   .rcases(mx i c o).1 A with rfl|⟨p,_⟩
    .exfalso;have:=yWk n l (g d f) e;subst this;have z:=bg.1 n;rcases aM.1 f with p|p
     .have:=z.2.2 o p o (by simp);omega
     .have:=bY z.2.1 p;omega
    .exact v d (g d f) o p e
   .obtain⟨d,f,u,t⟩:=h;obtain f|f:=f
    .by_cases e:d.I=c.I
     .exact⟨c,.inl ((mx i c c).2 (.inl rfl)),by omega,by have:=v c l d f e;omega⟩
     .exact⟨d,.inl ((mx i c d).2 (.inr ⟨f,e⟩)),u,t⟩
    .rcases aM.1 f with p|p
     .exact⟨d,.inr (bW _ p),u,t⟩
     .rcases bB.1 p with p|p
      .exact⟨c,.inl ((mx i c c).2 (.inl rfl)),by rw[<-p];exact u,by rw[<-p];exact t⟩
      .exact⟨d,.inr (List.mem_append_right _ p),u,t⟩
  .have w:(a++[c])++q=a++c::q:=by simp
   exact Yx q b (a++[c]) i (by rw[w];exact n) (by rw[w];exact v) (by rw[w];exact h)
theorem ow.rel{s:gU}{k:ByteArray}{t:Int}(a:nY (s k))(h:ow (s k) x m)(f:x≠t):ow (gg s t k) x m:=by
 unfold gg;split
 .obtain⟨c,i,n,l⟩:=h;refine Yx _ _ _ (Ea a.held t) (Ea a.waits t) (λd g o b e=>?_) ⟨c,?_,n,l⟩
  .exact a.wants d (pD.1 g).1 o (pD.1 b).1 e
  .exact i.imp (λp=>pD.2 ⟨p,by omega⟩) (λp=>pD.2 ⟨p,by omega⟩)
 .exact h
theorem ow.ft(g:1<=x):∀(ids:List Int) {X:List Int}{s:dp},jh X s->(∀i∈ids,1<=i)->ow (s.keys key) x m->x∉ids->ow ((jT s ids).keys key) x m
|[],X,s,_,_,h,_=>h
|i::ids,X,s,f,e,h,d=>by
  have c:=e i (by simp);have b:=f.eW (i:=i) c;show ow ((jT (Go.Proofs.YtmaiggbnceejiaaGreatDoor.eW s i) ids).keys key) x m;have a:ow ((Go.Proofs.YtmaiggbnceejiaaGreatDoor.eW s i).keys key) x m:=by
   unfold Go.Proofs.YtmaiggbnceejiaaGreatDoor.eW;split
   .have l:x≠i:=λq=>d (by simp[q]);rw[WA];exact ow.rel (f.apart key).ok h (by omega)
   .exact h
  exact ow.ft g ids b (λj n=>e j (by simp[n])) a (λq=>d (by simp[q]))
theorem yRz{n:Nat}:∀(l:List dw) (a:Int),kY l->(∀c∈l,a<=c.I/\c.I<a+n)->l.length<=n:=by
 induction n with
|zero=>
  intro l a _ h
  cases l with
 |nil=>exact aT _
 |cons c l=>have:=h c (by simp);omega
|succ n f=>
  intro l a b h
  cases l with
 |nil=>exact aT _
 |cons c l=>
   have g:=h c (by simp);have:=f l (a+1) (List.Pairwise.of_cons b) (λd e=>by
    have o:=bY b e;have i:=h d (by simp[e]);omega)
   simp;omega
structure CE(s:dp)(id:Nat):Prop where
 h1:1<=id
 h2:id<=s.U.length
 op:(s.I id).state=1
 few:s.U.length<=49
 none:∀j,1<=j->j<=s.U.length->(s.I j).state≠2
 elder:∀j,1<=j->j<id->(s.I j).state≠1
theorem CE.waits(h:CE s id)(g:Held s)(key:ByteArray):∀c∈(s.keys key).waits,c.I≠(id:Int):=λc l e=>by
 have z:Ig s=[]:=by
  rw[List.eq_nil_iff_forall_not_mem];intro x v;obtain⟨D,C,n⟩:=yy.1 v;exact h.none x.toNat (by omega) (by omega) n
 have hA:=g.apart key;rw[z]at hA;have i:=hA.stuck c l;have b:∀t:Int,1<=t->t<(id:Int)->(s.I t.toNat).state≠1/\(s.I t.toNat).state≠2:=λt B A=>by
  have:=h.h2;exact⟨h.elder t.toNat (by omega) (by omega),h.none t.toNat (by omega) (by omega)⟩
 have a:qe (s.keys key).held (s.keys key).waits c=true:=by
  refine Qi.2 ⟨λo d=>?_,λo d y=>?_⟩
  .cases w:lI o c with
  |false=>rfl
  |true=>
    exfalso;rcases hA.elder c l o d w with q|q
    .obtain⟨f,u,p⟩:=g.hold key o d;have:=b o.I f (by omega);omega
    .cases q
  .obtain⟨f,u,p⟩:=g.wait key o d;have:=b o.I f (by omega);omega
 rw[a]at i;cases i
theorem CE.locked(h:CE s id)(b:Kd s id k r):CE r id:=by
 refine⟨h.h1,by rw[b.same.len];exact h.h2,b.st,by rw[b.same.len];exact h.few,λj c d a=>?_,λj c d a=>?_⟩
 .by_cases e:j=id
  .rw[e,b.st]at a;omega
  .rcases b.cut j c e with q|⟨_,q,_⟩
   .rw[q]at a;exact h.none j c (by rw[<-b.same.len];exact d) a
   .omega
 .rcases b.cut j c (by omega)with q|⟨_,q,_⟩
  .rw[q]at a;exact h.elder j c d a
  .omega
theorem CE.lock(h:CE s id)(C:Safe s)(t:Held s)(key:ByteArray)(l:key.size<=20){mode:Int}(A:mode=1\/mode=2):(gj s id key mode).2=0:=by
 have d:=vm C t h.h1 h.h2 h.op key l A;have u:=h.locked d;have a:=(t.apart key).ok;have f:jD (s.keys key).waits (id:Int)=0:=yEg (h.waits t key);have L:¬50<=(s.keys key).waits.length:=by
  have:=yRz (n:=s.U.length) _ 1 a.waits (λc b=>by have:=t.wait key c b;omega);have:=h.few;omega
 have F:(iz (s.keys key) ⟨(id:Int),mode⟩).2.2.2=0:=by
  unfold iz;rw[aH (by rw[f];simp)];split
  .rfl
  split
  .rfl
  rfl
 have g:jn s id key mode=iL s id key mode:=by
  unfold jn;simp only;rw[aH];rintro⟨q,_⟩;have z:(iz (s.keys key) ⟨(id:Int),mode⟩).2.2.2=4:=q;rw[F]at z;cases z
 have v:=WG C t h.h1 h.h2 h.op key l A;rw[g]at v;have o:ow ((iL s id key mode).1.keys key) id mode:=by
  show ow (jo s.keys key (iz (s.keys key) ⟨(id:Int),mode⟩).1 key) id mode;rw[wI];unfold iz;rw[aH (by rw[f];simp)];split
  .rename_i e;have M:mode<=jD (s.keys key).held (id:Int):=e;have h0:jD (s.keys key).held (id:Int)≠0:=by omega
   have G:=λp=>h0 ((IS a.held a.h0).2 p);have:∃c∈(s.keys key).held,c.I=(id:Int):=aS λq=>G λc b e=>q ⟨c,b,e⟩;obtain⟨c,b,y⟩:=this;have w:=IE a.held b;rw[y]at w;exact⟨c,.inl b,y,by omega⟩
  split
  .exact⟨⟨(id:Int),mode⟩,.inl ((mx a.held _ _).2 (.inl rfl)),rfl,bO _⟩
  exact⟨⟨(id:Int),mode⟩,.inr ((mx a.waits _ _).2 (.inl rfl)),rfl,bO _⟩
 have J:=v.held.came (k:=fL (iL s id key mode).1 key) h.h1 h.h2;have B:ow ((jT (mq (iL s id key mode).1 id (fL (iL s id key mode).1 key)) (iL s id key mode).2.1).keys key) id mode:=by
  refine ow.ft (by have:=h.h1;omega) _ J (λi H=>(v.wd i H).2.1) o (λq=>?_);have:=(v.wd _ q).1;omega
 have K:(gj s id key mode)=(jT (mq (iL s id key mode).1 id (fL (iL s id key mode).1 key)) (iL s id key mode).2.1,if jD ((jT (mq (iL s id key mode).1 id (fL (iL s id key mode).1 key)) (iL s id key mode).2.1).keys key).held id<mode then 11 else 0):=by
  unfold gj;simp only;rw[g];have E:(iL s id key mode).2.2=0:=F;rw[aH (by rw[E];simp),aH (by rw[E];simp),aU]
 rw[K]at d u⊢;simp only at d u⊢;generalize jT (mq (iL s id key mode).1 id (fL (iL s id key mode).1 key)) (iL s id key mode).2.1=r at B d u;rw[aH];obtain⟨c,b,D,y⟩:=B;obtain b|b:=b
 .have:=IE (d.held.apart key).ok.held b;rw[D]at this;omega
 .exact absurd D (u.waits d.held key c b)
theorem oG.same(h:oG s)(b:s'.lines=s.lines)(d:s'.dead=s.dead)(a:s'.J.down=s.J.down):oG s':=by
 refine⟨λk c n a=>?_,by rw[d,a];exact h.down⟩;rw[b]at c;unfold dp.A at a;rw[b]at a;rw[Nv d];exact h.lives k c n a
theorem CE.come(h:CE s id)(e:Safe s)(hA:oG s)(i:key.size<=20):oN s id key=0:=by
 have o:=h.h1;have l:=h.h2;have b:iB s (id:Int)=1:=by
  unfold iB uU;rw[aQ (show(1:Int)<=(id:Int) by omega),aQ (show(id:Int)<=(s.U.length:Int) by omega)];simpa using h.op
 have c:oC s id=0:=by unfold oC;rw[b];rfl
 have d:=e.ll.1;have a:fL s key<s.lines.length:=by have:=FW d key;unfold dz at this;omega
 unfold oN;rw[c,aH (by simp),aH (by omega),aH];have f:=hA.lives _ a _ (e.head_mem a)
 cases g:vV s (fL s key)with
|some n=>simp
|none=>rw[Ym e a g]at f;cases f
structure yk(s:dp)(id:Nat):Prop where
 qC:CE s id
 rest:Rest s
 live:iK s
 all:oG s
theorem yk.get(h:yk s id)(f:key.size<=20):(fG s id key).2.2.2=0/\yk (fG s id key).1 id:=by
 have g:=h.rest.c.safe;have n:=h.rest.c.held;have o:=h.qC.come g h.all f;have e:=h.qC.lock g n key f (mode:=1) (.inl rfl);have a:=vm g n h.qC.h1 h.qC.h2 h.qC.op key f (mode:=1) (.inl rfl);have i:=h.rest.get id key;have b:=h.live.get h.rest id key;revert i b;unfold fG;rw[aH (by rw[o];simp)];simp only;rw[aH (by rw[e];simp)];intro i b;exact⟨rfl,h.qC.locked a,i,b,h.all.same a.same.l a.same.d (by show(gj s id key 1).1.J.down=_;rw[a.same.J])⟩
theorem yk.end_(h:yk s id):(gK s id).2=0/\((lQ (gK s id).1).I id).state=3/\oG (lQ (gK s id).1)/\Rest (gK s id).1/\iK (gK s id).1/\(gK s id).1.U.length=s.U.length/\∀j,1<=j->j<=s.U.length->j≠id->((lQ (gK s id).1).I j).state=(s.I j).state:=by
 have K:=h.rest.c.safe;have L:=h.rest.c.held;have l:=h.qC.h1;have n:=h.qC.h2;have i:=h.rest.end_ id;have o:=h.live.end_ h.rest id;have C:iB s (id:Int)=1:=by
  unfold iB uU;rw[aQ (show(1:Int)<=(id:Int) by omega),aQ (show(id:Int)<=(s.U.length:Int) by omega)];simpa using h.qC.op
 have E:oC s id=0:=by unfold oC;rw[C];rfl
 have u:BM s id=false:=by
  cases D:BM s id with
 |false=>rfl
 |true=>
   exfalso;unfold BM at D;simp only[aw]at D;obtain⟨k,J⟩:=D;rw[cP]at J;obtain⟨c,O,e⟩:=J;exact h.qC.waits L k c O (by simpa using e)
 have z:Safe (du s id {s.I id with state:=2}):=K.write (ws:=(s.I id).writes) l n h.qC.op (K.I id l n).few (.inr rfl);have N:Held (du s id {s.I id with state:=2}):=L.ending l n rfl h.qC.op (IY u);obtain⟨b,c,_⟩:=uO z;have t:=c.tD b N;have g:=(AK b t.held).1;have B:=(Zr z).trans (Zy b t.held);have y:gK s id=(nK (kR (du s id {s.I id with state:=2})),0):=by
  unfold gK;rw[aH (by rw[E];simp),u,aU];rfl
 rw[y]at i o⊢;simp only at i o⊢;have G:oG (du s id {s.I id with state:=2}):=h.all.same rfl rfl rfl;have hA1:=(G.moves c.mv c.down).moves g.mv g.down;have d:(du s id {s.I id with state:=2}).U.length=s.U.length:=mO _ _ _;have w:((du s id {s.I id with state:=2}).I id).state=2:=by rw[pO s id _ l l n,aK rfl]
 have a:∀j,1<=j->j≠id->(du s id {s.I id with state:=2}).I j=s.I j:=λj p A=>by rw[pO s id _ p l n,aH A]
 generalize du s id {s.I id with state:=2}=S0 at b c t g B i o hA1 d w a;generalize nK (kR S0)=S at g B i o hA1;have P:=ZI i.c;have M:=IN i.c;have v:S.U.length=s.U.length:=B.tl.trans d;have f:=B.trans P;refine⟨trivial,?_,hA1.moves M.2.mv M.2.down,i,o,v,λj p A H=>?_⟩
 .have F:=zVr i hA1 o.heard l (by rw[v];exact n);rcases f.ends id l (by rw[d];exact n)with q|q
  .rw[w]at q;exact absurd q F
  .exact q.2
 .rcases f.ends j p (by rw[d];exact A)with q|⟨q,_⟩
  .rw[q,a j p H]
  .rw[a j p H]at q;exact absurd q (h.qC.none j p A)
theorem yXc{m:Nat}{s:eF}(h:iK s.h)(b:qx m s)(B:s.safe=true)(x:ActD):iK (eV s x).h:=by
 have d:=b.rest;have E:=b.few;have D:=b.tl;have fin:∀(l:dp) (dh:List eY),iK l->∀r:eF,r={s with h:=l,U:=dh}->iK r.h:=λl dh q r e=>by subst e;exact q
 obtain⟨r,fK⟩:∃r,r=eV s x:=⟨_,rfl⟩;rw[<-fK];unfold eV at fK;by_cases A:x.what=0
 .rw[aK A]at fK;by_cases e:s.U.length<7
  .rw[aK e]at fK;exact fin _ _ (h.begin d (by omega)) r fK
  .rw[aH e]at fK;rw[fK];exact h
 rw[aH A]at fK;by_cases z:x.what=1
 .rw[aK z]at fK;exact fin _ _ (h.get d _ _) r fK
 rw[aH z]at fK;by_cases y:x.what=2\/x.what=3
 .rw[aK y]at fK;exact fin _ _ (h.put d _ _) r fK
 rw[aH y]at fK;by_cases w:x.what=4
 .rw[aK w]at fK;exact fin _ _ (h.end_ d _) r fK
 rw[aH w]at fK;by_cases v:x.what=5
 .rw[aK v]at fK;by_cases e:x.a.tmod 4=0
  .rw[aK e]at fK;exact fin _ _ (h.drop d _) r fK
  .rw[aH e]at fK;rw[fK];exact h
 rw[aH v]at fK;by_cases u:x.what=6
 .rw[aK u]at fK;by_cases e:0<s.h.J.way.length
  .rw[aK e]at fK;exact fin _ _ (h.fj d _) r fK
  .rw[aH e]at fK;rw[fK];exact h
 rw[aH u]at fK;by_cases t:x.what=7
 .rw[aK t]at fK;by_cases e:0<s.h.J.way.length
  .rw[aK e]at fK;exact fin _ _ (h.rM _) r fK
  .rw[aH e]at fK;rw[fK];exact h
 rw[aH t]at fK;by_cases p:x.what=8
 .rw[aK p]at fK;by_cases e:0<s.h.J.way.length
  .rw[aK e]at fK;exact fin _ _ (h.twice _) r fK
  .rw[aH e]at fK;rw[fK];exact h
 rw[aH p]at fK;by_cases o:x.what=9
 .rw[aK o]at fK;exact fin _ _ (h.tick d) r fK
 rw[aH o]at fK;by_cases i:x.what=10
 .rw[aK i]at fK;refine fin _ _ ?_ r fK;unfold CF;split
  .rename_i e;have n:1<(Ih s.h (ko x.a 3)).length:=e.resolve_right (by rw[B];simp);have C:=FT x.I s.nodes (by have:=b.nodes;omega);refine h.fail d.c.safe (by have:=b.nodes;omega) ?_;unfold Ih at n;rw[ao]at n;exact n
  .exact h
 rw[aH i]at fK;by_cases g:x.what=11
 .rw[aK g]at fK;exact fin _ _ (h.fix d).1 r fK
 rw[aH g]at fK;by_cases f:x.what=12
 .rw[aK f]at fK;exact fin _ _ (h.calm d) r fK
 rw[aH f]at fK;rw[fK];exact h
theorem zYy{m:Nat}{s:eF}(h:iK s.h)(a:qx m s)(b:s.safe=true)(x:ActD):iK (lE s x).h:=yXc (s:={s with now:=s.now+1}) h (a.clock (s.now+1)) b x
theorem yVd(h:1<=k/\k<=3):iK (fp 2 k):=by
 have n:=Rest.new (shards:=2) (nodes:=k) ⟨by omega,by omega⟩ ⟨by omega,by omega⟩;obtain⟨q,v,u,p,t⟩:=Vs k 3;have e:dz (fp 2 k)=2/\(eU (fp 2 k) 0).M.length=0/\(eU (fp 2 k) 1).M.length=0/\(eU (fp 2 k) 2).M.length=0:=by
  rcases(show k=1\/k=2\/k=3 by omega)with rfl|rfl|rfl
  .decide +kernel
  .decide +kernel
  .decide +kernel
 have b:∀i,i<=dz (fp 2 k)->∀c,c∉kN (fp 2 k) i:=λi f c d=>by
  have a:=EW _ _ d;rw[e.1]at f;rcases(show i=0\/i=1\/i=2 by omega)with rfl|rfl|rfl
  .rw[aR e.2.1]at a;cases a
  .rw[aR e.2.2.1]at a;cases a
  .rw[aR e.2.2.2]at a;cases a
 have o:(fp 2 k).dead=[]:=q;have l:(fp 2 k).J.down=[]:=p;refine⟨⟨λi f c d=>absurd d (b i (by omega) c),λc d=>absurd d (b _ (aD _) c)⟩,λi f=>⟨_,n.c.safe.head_mem f,?_⟩,λx g=>(by rw[l]at g;cases g)⟩;unfold gQ;rw[o];simp
def EK(dh:List eY):Prop:=∀t∈dh,∀o∈t.ops,∃i,o.key=nameK i
theorem EK.fM{dh:List eY}(h:EK dh)(id:Nat){o:fm}(c:∃i,o.key=nameK i):EK (fM dh id o):=λt ht p a=>by
 unfold Go.Proofs.YtmaiggbnceejiaaGreatDoor.fM at ht;split at ht
 .rename_i u b;rcases bG ht with q|q
  .exact h t q p a
  .subst q;rcases aM.1 a with q|q
   .exact h u (aC b) p q
   .simp at q;rw[q];exact c
 .exact h t ht p a
theorem yTc{s:eF}(h:EK s.U)(x:ActD):EK (eV s x).U:=by
 obtain⟨r,hr⟩:∃r,r=eV s x:=⟨_,rfl⟩;rw[<-hr];unfold eV at hr;by_cases c:x.what=0
 .rw[aK c]at hr;by_cases e:s.U.length<7
  .rw[aK e]at hr;rw[hr];intro t ht;rcases aM.1 ht with q|q
   .exact h t q
   .rw[bU]at q;subst q;intro o d;cases d
  .rw[aH e]at hr;rw[hr];exact h
 rw[aH c]at hr;by_cases b:x.what=1
 .rw[aK b]at hr;rw[hr];dsimp only;split
  .exact h.fM _ ⟨_,rfl⟩
  .exact h
 rw[aH b]at hr;by_cases a:x.what=2\/x.what=3
 .rw[aK a]at hr;rw[hr];dsimp only;split
  .exact h.fM _ ⟨_,rfl⟩
  .exact h
 rw[aH a]at hr;have fin:r.U=s.U:=by
  rw[hr]
  repeat (first|rfl|split)
 rw[fin];exact h
theorem yHo{s:eF}(h:EK s.U)(x:ActD):EK (lE s x).U:=λt ht o a=>by
 obtain⟨u,b,e⟩:=yPe ht;rw[e]at a;exact yTc (s:={s with now:=s.now+1}) h x u b o a
structure yZd(m:Nat)(s:eF):Prop where
 ok:qx m s
 kH:iy s
 live:iK s.h
 safe:s.safe=true
 short:zr s.U
 named:EK s.U
 now:s.now=m
 ops:∀t∈s.U,t.ops.length<=m
end Go.Proofs.YtmaiggbnceejiaaGreatDoor
namespace Go.Proofs.YtmaiggbnceejiaaGreatDoor
open Go.RowKit Go.Lib Go.Maps
variable {m i gs g n cap L b:Nat}{h h' H:dp}{s:eF}{t:eY}{o:fm}{ops:List fm}{now:Int}{y:dq}{w' W w wr:World}{vs xs:List Value}{e:TypeId}
structure Kg(m:Nat)(h:dp):Prop where
 rest:Rest h
 live:iK h
 all:oG h
 ll:h.lines.length=3
 few:h.U.length<=8
 lost:h.J.lost<=3000000000000000*(m:Int)
theorem Kg.cost(q:Kg m h)(a:ez h h')(c:Rest h')(d:iK h')(j:oG h')(f:h'.U.length<=8):Kg (m+1) h':=
 ⟨c,d,j,by rw[a.ll];exact q.ll,f,by have:=a.lost;have:=q.lost;omega⟩
structure By(m:Nat)(s:eF)(i:Nat)(h:dp):Prop where
 tail:Kg m h
 kH:iy {s with h:=h}
 tl:h.U.length=s.U.length
 st:∀j,1<=j->j<=s.U.length->((h.I j).state=(s.h.I j).state\/((s.h.I j).state=1/\(h.I j).state=4))
 done:∀j,1<=j->j<=i->(h.I j).state≠1
theorem By.stay(q:By m s i h)(f:i<s.U.length)(a:iB h ((i:Int)+1)≠1):By m s (i+1) h:=by
 refine⟨q.tail,q.kH,q.tl,q.st,λj c d=>?_⟩;by_cases e:j=i+1
 .rw[e];have:((i:Int)+1)=((i+1:Nat):Int):=by omega
  rw[this,KR (by omega) (by rw[q.tl];omega)]at a;exact a
 .exact q.done j c (by omega)
theorem By.drop(q:By m s i h)(D:i<s.U.length)(k:iB h ((i:Int)+1)=1):By (m+1) s (i+1) (oz h ((i:Int)+1)).1:=by
 have C:((i:Int)+1)=((i+1:Nat):Int):=by omega
 have a:i+1<=h.U.length:=by rw[q.tl];omega
 rw[C]at k⊢;have v:(h.I (i+1)).state=1:=by rw[KR (by omega) a]at k;exact k
 have u:oC h ((i+1:Nat):Int)=0:=by unfold oC;rw[k];rfl
 have hcut:=Cut.abort (s:=h) (id:=i+1) (by omega) a v;have x:=q.tail.rest.drop ((i+1:Nat):Int);have l:=q.tail.live.drop q.tail.rest ((i+1:Nat):Int);have z:=ez.drop h ((i+1:Nat):Int);have c:=q.kH.kH.drop q.tail.rest ((i+1:Nat):Int);have B:oz h ((i+1:Nat):Int)=(gk h (i+1),0):=by
  unfold oz;rw[aH (by rw[u];simp),aU]
 rw[B]at x l z c⊢;simp only at x l z c⊢;have f:((gk h (i+1)).I (i+1)).state=4:=by
  unfold gk;rw[aK v];unfold pA;show((du (du h (i+1) _) (i+1) _).I (i+1)).state=4;rw[pO _ (i+1) _ (by omega) (by omega) (by rw[mO];exact a),aK rfl]
 refine⟨q.tail.cost z x l (q.tail.all.same (Ec h _) (gS.abort h _).d (by rw[(gS.abort h _).J])) (by rw[IV];exact q.tail.few),⟨c,q.kH.eP⟩,by rw[IV];exact q.tl,λj r A=>?_,λj r A=>?_⟩
 .by_cases e:j=i+1
  .right;rw[e];refine⟨?_,f⟩;rcases q.st (i+1) (by omega) (by omega)with p|p
   .rw[<-p];exact v
   .omega
  .rw[EZ h (by omega)];exact q.st j r A
 .by_cases e:j=i+1
  .rw[e,f];simp
  .rw[EZ h (by omega)];exact q.done j r (by omega)
structure EH(m:Nat)(s:eF)(ops:List fm)(h:dp):Prop where
 tail:Kg m h
 qC:CE h (s.U.length+1)
 kH:iy ⟨h,s.U++[⟨ops,s.now+1,-1⟩],s.now+1,s.safe,s.nodes⟩
 tl:h.U.length=s.U.length+1
 st:∀j,1<=j->j<=s.U.length->(h.I j).state=3\/(h.I j).state=4
 st3:∀j,1<=j->j<=s.U.length->((h.I j).state=3↔(s.h.I j).state=3)
 short:∀o∈ops,IC o
theorem By.begin(q:By m s s.U.length h)(O:s.U.length<=7)(x:∀j,1<=j->j<=s.U.length->(s.h.I j).state≠2):EH (m+1) s [] (mB h):=by
 have z:=q.tail.rest;have C:h.U.length<60:=by rw[q.tl];omega
 have v:∀j,1<=j->j<=s.U.length->((mB h).I j).state=3\/((mB h).I j).state=4:=λj f k=>by
  rw[wH h f (by rw[q.tl];exact k)];have Q:=(z.c.safe.I j f (by rw[q.tl];exact k)).st;have N:=q.done j f k;have P:=x j f k;rcases q.st j f k with e|e <;> omega
 have l:(mB h).U.length=s.U.length+1:=by rw[EV,q.tl]
 have r:(mB h).I (s.U.length+1)=⟨1,List.replicate h.lines.length 0,[],0⟩:=by rw[<-q.tl];exact OB h
 refine⟨q.tail.cost (ez.begin h) (z.begin C) (q.tail.live.begin z C) (q.tail.all.same rfl rfl rfl) (by rw[l];omega),⟨by omega,by rw[l];exact aD _,by rw[r],by rw[l];omega,λj f k A=>?_,λj f k A=>?_⟩,⟨?_,λu E=>?_⟩,l,v,λj f k=>?_,λo F=>by cases F⟩
 .by_cases e:j=s.U.length+1
  .rw[e,r]at A;simp at A
  .have:=v j f (by rw[l]at k;omega);omega
 .have:=v j f (by omega);omega
 .show fO (qs (s.U++[⟨[],s.now+1,-1⟩])) (ni (s.U++[⟨[],s.now+1,-1⟩])) (mB h);rw[zZc];refine(q.kH.kH.Ol (Q':=qs (s.U++[⟨[],s.now+1,-1⟩])) (λD V K M=>qs.push M (λa J=>?_)) (λD d p G=>p.more G)).begin z.c.safe.ll.1;have:=(K.dm a).1 J;have B:a<=h.U.length:=this.2.1;rw[q.tl]at B;exact⟨by omega,B⟩
 .show u.eP<=s.now+1;rcases aM.1 E with p|p
  .have:=q.kH.eP u p;have N:u.eP<=s.now:=this;omega
  .simp at p;rw[p];exact bO _
 .rw[wH h f (by rw[q.tl];exact k)];rcases q.st j f k with e|e
  .rw[e]
  .omega
theorem yOd(dh:List eY)(t:eY)(o:fm):fM (dh++[t]) (dh.length+1) o=dh++[⟨t.ops++[o],t.eP,t.fN⟩]:=by
 unfold fM;rw[bL,aL (aD _),dO];simp only[List.getElem?_cons_zero];rw[dH _ _ (aD _),dO];rfl
theorem iy.told(h:iy s)(ht:s.U[i]?=some t)(q:fO (qs s.U) (EJ (ni s.U) (i+1) o) h'):iy {s with h:=h',U:=fM s.U (i+1) o}:=by
 refine⟨?_,λu c=>?_⟩
 .show fO (qs (fM s.U (i+1) o)) (ni (fM s.U (i+1) o)) h';rw[yEb ht];exact q.Ol (λD V _ j=>j.fM _ _) (λD d p f=>p.more f)
 .show u.eP<=s.now;have a:u∈fM s.U (i+1) o:=c;unfold fM at a;rw[bL,ht]at a;simp only at a;rcases bG a with q|q
  .exact h.eP u q
  .rw[q];exact h.eP t (aC ht)
def yYp(h:dp)(n:Nat)(key:ByteArray):fm:=⟨1,key,(fG h n key).2.1,(fG h n key).2.2.1⟩
theorem EH.get(q:EH m s ops h){key:ByteArray}(v:key.size<=20):(fG h (s.U.length+1:Nat) key).2.2.2=0/\EH (m+1) s (ops++[yYp h (s.U.length+1) key]) (fG h (s.U.length+1:Nat) key).1:=by
 obtain⟨z,hE⟩:=yk.get ⟨q.qC,q.tail.rest,q.tail.live,q.tail.all⟩ v;have C:=(q.kH.kH.get q.tail.rest (s.U.length+1) key).1 z;have k:(s.U++[(⟨ops,s.now+1,-1⟩:eY)])[s.U.length]?=some ⟨ops,s.now+1,-1⟩:=by rw[aL (aD _),dO];rfl
 have E:=q.kH.told k C;have F:iy ⟨(fG h (s.U.length+1:Nat) key).1,s.U++[⟨ops++[yYp h (s.U.length+1) key],s.now+1,-1⟩],s.now+1,s.safe,s.nodes⟩:=by
  have:=yOd s.U ⟨ops,s.now+1,-1⟩ (yYp h (s.U.length+1) key);rw[<-this];exact E
 have u:=vm q.tail.rest.c.safe q.tail.rest.c.held q.qC.h1 q.qC.h2 q.qC.op key v (mode:=1) (.inl rfl);have x:(fG h (s.U.length+1:Nat) key).1=(gj h (s.U.length+1:Nat) key 1).1:=by
  have D:=q.qC.come q.tail.rest.c.safe q.tail.all v;have B:=q.qC.lock q.tail.rest.c.safe q.tail.rest.c.held key v (mode:=1) (.inl rfl);unfold fG;rw[aH (by rw[D];simp)];simp only;rw[aH (by rw[B];simp)]
 have l:∀j,1<=j->j<=s.U.length->(fG h (s.U.length+1:Nat) key).1.I j=h.I j:=λj a f=>by
  rw[x];rcases u.cut j a (by omega)with e|e
  .exact e
  .have:=q.st j a f;omega
 have d:(fG h (s.U.length+1:Nat) key).1.U.length=h.U.length:=by rw[x];exact u.same.len
 refine⟨z,q.tail.cost (ez.get q.tail.rest.c _ key) hE.rest hE.live hE.all (by rw[d];exact q.tail.few),hE.qC,F,d.trans q.tl,λj a f=>by rw[l j a f];exact q.st j a f,λj a f=>by rw[l j a f];exact q.st3 j a f,λo A=>?_⟩;rcases aM.1 A with p|p
 .exact q.short o p
 .simp at p;rw[p];rcases yFf h (s.U.length+1:Nat) key with r|r
  .exact .inl ⟨rfl,r⟩
  .exact .inr r
theorem iy.tils{txs':List eY}(h:iy s)(O:s.h.U.length=s.U.length)(z:∀(i:Nat) c,txs'[i]?=some c->∃t,s.U[i]?=some t/\c.ops=t.ops/\c.eP=t.eP/\(c.fN=t.fN\/(c.fN=s.now/\iB s.h ((i:Int)+1)=3)))(E:txs'.length=s.U.length):iy {s with U:=txs'}:=by
 have M:ni txs'=ni s.U:=zZb λi=>by
  cases p:txs'[i]? with
 |none=>
   rw[List.getElem?_eq_none_iff]at p;rw[aX (by omega)]
 |some c=>
   obtain⟨t,f,C,_⟩:=z i c p;rw[f,bJ,bJ,C]
 refine⟨?_,λu N=>?_⟩
 .show fO (qs txs') (ni txs') s.h;rw[M];refine h.kH.Ol (λD V T F=>?_) (λD d q P=>q.more P);have old:∀{a:Nat} {t:eY},0<a->txs'[a-1]?=some t->∃c,s.U[a-1]?=some c/\c.eP=t.eP/\(c.fN=t.fN\/(t.fN=s.now/\iB s.h a=3)):=λ{a t} ha ht=>by
   obtain⟨c,f,_,B,G⟩:=z (a-1) t ht;have Q:((a-1:Nat):Int)+1=a:=by omega
   rw[Q]at G;exact⟨c,f,B.symm,G.imp Eq.symm id⟩
  refine⟨λa t f C B=>?_,λa b R A=>?_⟩
  .obtain⟨c,k,l,x|⟨x,j⟩⟩:=old f C
   .exact F.1 a c f k (by omega)
   .rw[T.dm];have S:=(aB.1 k).1;rw[KR (by omega) (by omega)]at j;exact⟨by omega,by omega,j⟩
  .obtain⟨t,u,k,l,x,j,q5,Z⟩:=A;obtain⟨c,K,Y,J|⟨J,X⟩⟩:=old k x
   .obtain⟨v,r,I,_⟩:=old l j;exact F.2 a b R ⟨c,v,k,l,K,r,by omega,by omega⟩
   .exfalso;obtain⟨v,r,I,_⟩:=old l j;have:=h.eP v (aC r);omega
 .obtain⟨i,p⟩:=aP N;obtain⟨t,f,_,B,_⟩:=z i u p;have:=h.eP t (aC f);show u.eP<=s.now;omega
theorem yTh(j:Safe h)(hA:oG h):FN h=true:=by
 unfold FN;rw[List.all_eq_true];intro k c;rw[bV]at c;have d:=j.head_mem c;have:eU h k∈fc h k:=au.2 ⟨d,hA.lives k c _ d⟩
 cases f:fc h k with
|nil=>rw[f]at this;cases this
|cons a l=>rfl
theorem yLt(a:iB H ((s.U.length:Int)+1)=3):vZ ⟨H,s.U++[t],now,s.safe,s.nodes⟩=vZ {s with h:=H}++[s.U.length]:=by
 have c:(λi:Nat=>decide (iB H ((i:Int)+1)=3)||decide (iB H ((i:Int)+1)=2)) s.U.length=true:=by
  show(decide (iB H ((s.U.length:Int)+1)=3)||_)=true;rw[a];rfl
 show(List.range (s.U++[t]).length).filter (λi:Nat=>decide (iB H ((i:Int)+1)=3)||decide (iB H ((i:Int)+1)=2))=(List.range s.U.length).filter (λi:Nat=>decide (iB H ((i:Int)+1)=3)||decide (iB H ((i:Int)+1)=2))++[s.U.length];generalize (λi:Nat=>decide (iB H ((i:Int)+1)=3)||decide (iB H ((i:Int)+1)=2))=f at c;rw[aE,List.length_singleton,aZ,dE,cE,aK c,List.filter_nil]
theorem yPc(c:iB H ((s.U.length:Int)+1)=3):lZ ⟨H,s.U++[t],now,s.safe,s.nodes⟩=lZ {s with h:=H}++[t]:=by
 unfold lZ;rw[yLt c,ay];congr 1
 .refine List.map_congr_left λi f=>?_;have d:=(Vz.1 f).1;have a:i<s.U.length:=d;rw[aI,aG a,aI]
 .simp[List.getD_eq_getElem?_getD]
theorem yMu(C:fO (qs (s.U++[⟨ops,s.now+1,-1⟩])) (ni (s.U++[⟨ops,s.now+1,-1⟩])) H)(l:∀t∈s.U,t.eP<=s.now+2)(q:H.U.length=s.U.length+1)(k:iB H ((s.U.length:Int)+1)=3)(v:zr s.U)(D:∀o∈ops,IC o) :
  ¬IK (lZ {s with h:=H}++[⟨ops,s.now+1,s.now+2⟩]) [] jv/\∀t∈lZ {s with h:=H}++[⟨ops,s.now+1,s.now+2⟩],∀o∈t.ops,o.key.size<=20/\o.value.size<=9:=by
 have z:iy ⟨H,s.U++[⟨ops,s.now+1,-1⟩],s.now+2,s.safe,s.nodes⟩:=⟨C,λu E=>by
  show u.eP<=s.now+2;rcases aM.1 E with p|p
  .exact l u p
  .simp at p;rw[p];show s.now+1<=s.now+2;omega⟩
 have F:H.U.length=(s.U++[(⟨ops,s.now+1,-1⟩:eY)]).length:=by simpa using q
 have r:iy ⟨H,s.U++[⟨ops,s.now+1,s.now+2⟩],s.now+2,s.safe,s.nodes⟩:=by
  refine z.tils (txs':=s.U++[⟨ops,s.now+1,s.now+2⟩]) F (λi A c=>?_) (by simp);show ∃t,(s.U++[(⟨ops,s.now+1,-1⟩:eY)])[i]?=some t/\_;by_cases e:i<s.U.length
  .rw[aG e]at c;exact⟨A,by rw[aG e];exact c,rfl,rfl,.inl rfl⟩
  .rw[aL (by omega)]at c;have x:i=s.U.length:=by
    have:=(aB.1 c).1;simp at this;omega
   subst x;rw[dO]at c;have j:(⟨ops,s.now+1,s.now+2⟩:eY)=A:=by simpa using c
   exact⟨⟨ops,s.now+1,-1⟩,by rw[aL (aD _),dO];rfl,by rw[<-j],by rw[<-j],.inr ⟨by rw[<-j],k⟩⟩
 have f:=yPc (s:=s) (t:=⟨ops,s.now+1,s.now+2⟩) (now:=s.now+2) k;have d:H.U.length=(s.U++[(⟨ops,s.now+1,s.now+2⟩:eY)]).length:=by simpa using q
 have B:=r.Kq d;have a:=r.short d (λt ht=>by
  rcases aM.1 ht with p|p
  .exact v t p
  .simp at p;rw[p];exact D)
 rw[f]at B a;exact⟨B,a⟩
theorem EH.end_(q:EH m s ops h)(u:zr s.U) :
  (gK h (s.U.length+1:Nat)).2=0/\Kg (m+1) (gK h (s.U.length+1:Nat)).1/\∀H,H=lQ (gK h (s.U.length+1:Nat)).1->(Rest H/\iB H ((s.U.length:Int)+1)=3/\FN H=true/\H.U.length=s.U.length+1 /\
  ¬IK (lZ {s with h:=H}++[⟨ops,s.now+1,s.now+2⟩]) [] jv /\
  ∀t∈lZ {s with h:=H}++[⟨ops,s.now+1,s.now+2⟩],∀o∈t.ops,o.key.size<=20/\o.value.size<=9):=by
 obtain⟨O,G,A,p,F,E,Q⟩:=yk.end_ ⟨q.qC,q.tail.rest,q.tail.live,q.tail.all⟩;have x:=ez.end_ q.tail.rest.c ((s.U.length+1:Nat):Int);have B:=(q.kH.kH.end_ q.tail.rest ((s.U.length+1:Nat):Int)).calm p;have r:=(IN p.c).2;have z:oG (gK h (s.U.length+1:Nat)).1:=by
  refine⟨λk J n I=>?_,F.down⟩;obtain⟨j,C⟩:=aP I;have f:=(aB.1 C).1;have:=r.mv.lives f;rw[qi C]at this;rw[<-this];have v:k<(lQ (gK h (s.U.length+1:Nat)).1).lines.length:=by rw[r.mv.ll];exact J
  exact A.lives k v _ (aC (qM (by rw[r.mv.len];exact f)))
 refine⟨O,q.tail.cost x p F z (by rw[E];exact q.tail.few),λH D=>?_⟩;have l:H.U.length=s.U.length+1:=by rw[D,r.mv.tl,E,q.tl]
 have a:=p.calm;rw[<-D]at G A B a;have K:((s.U.length:Int)+1)=((s.U.length+1:Nat):Int):=by omega
 have d:iB H ((s.U.length:Int)+1)=3:=by rw[K,KR (by omega) (by omega)];exact G
 obtain⟨N,M⟩:=yMu B (λt ht=>by
  have:=q.kH.eP t (bW _ ht);have P:t.eP<=s.now+1:=this;omega) l d u q.short
 exact⟨a,d,yTh a.c.safe A,l,N,M⟩
theorem yZd.fixed(h:yZd m s)(E:m<=200){x y:ActD}(B:x.what=11)(A:y.what=12):By (m+2) (lE (lE s x) y) 0 (lE (lE s x) y).h/\(∀j,1<=j->j<=(lE (lE s x) y).U.length->((lE (lE s x) y).h.I j).state≠2):=by
 have f:=OL h.ok x;have d:=OL f.1 y;have q:=ZB h.kH h.ok (by rw[h.now];omega) x;have D:(lE s x).now=s.now+1:=f.2.2.1;have p:=ZB q f.1 (by rw[D,h.now];omega) y;have u:=zYy h.live h.ok h.safe x;have C:(lE s x).h=ku s.h:=by
  show(eV {s with now:=s.now+1} x).h=_;unfold eV;rw[aH (by omega),aH (by omega),aH (by omega),aH (by omega),aH (by omega),aH (by omega),aH (by omega),aH (by omega),aH (by omega),aH (by omega),aK B]
 have k:(lE (lE s x) y).h=lQ (lE s x).h:=by
  show(eV {lE s x with now:=(lE s x).now+1} y).h=_;unfold eV;rw[aH (by omega),aH (by omega),aH (by omega),aH (by omega),aH (by omega),aH (by omega),aH (by omega),aH (by omega),aH (by omega),aH (by omega),aH (by omega),aK A]
 have hA1:oG (lE s x).h:=by rw[C];exact(h.live.fix h.ok.rest).2
 have a:=f.1.rest;have hA2:oG (lE (lE s x) y).h:=by
  rw[k];have z:=(IN a.c).2;exact hA1.moves z.mv z.down
 have r:iK (lE (lE s x) y).h:=by rw[k];exact u.calm a
 refine⟨⟨⟨d.1.rest,r,hA2,d.1.ll,by rw[d.1.tl];have:=d.1.few;omega,d.1.lost⟩,p,d.1.tl,λj _ _=>.inl rfl,λj v l=>by omega⟩,λj v l=>?_⟩;rw[k];refine zVr a hA1 u.heard v ?_;rw[<-d.1.tl,k,(IN a.c).2.mv.tl]at l;exact l
structure nZ(W:World)(F:Nat->Prop)(gs g c:Nat)(s:eF)(y:dq)(xv:Value)(vs:List Value)(w:World):Prop where
 md:Mod dt W w
 fJ:fI w W.heap.size c gs g y xv vs s
 gl:W.heap.size<=gs
 side:∀k,F k->k<w.heap.size/\y.own k=.no/\¬zz gs xv vs k
def OW(W:World)(F:Nat->Prop)(gs g c:Nat)(s:eF)(w w':World):Prop:=(∃y a vs,nZ W F gs g c s y a vs w')/\Mod (λk=>¬F k) w w'
section
variable {W w:World}{F:Nat->Prop}{gs g c m:Nat}{s:eF}{y:dq}{xv:Value}{vs:List Value}
theorem nZ.call{c':Nat}{s':eF}(h:nZ W F gs g c s y xv vs w)(u:fW w W.heap.size c' gs g y xv vs s' w'):OW W F gs g c' s' w w':=by
 obtain⟨p,r,j,v,f⟩:=u;refine⟨⟨p,r,j,h.md.trans' f.md (λk l e=>?_),v,h.gl,λk l=>?_⟩,f.md.mono (λk _ e q=>?_)⟩
 .obtain e|e:=e
  .have:=(h.fJ.house.own.lt k e).1;omega
  .have:=(h.fJ.cells h.gl e).1;omega
 .obtain⟨a,b,d⟩:=h.side k l;exact⟨aJ a f.md.size,(f.old k a).trans b,λe=>d (f.fJ k a e)⟩
 .obtain⟨_,b,d⟩:=h.side k q;exact e.elim (λe=>e b) d
theorem nZ.quiet(h:nZ W F gs g c s y xv vs w)(a:Mod dt w w'):nZ W F gs g c s y xv vs w':=
 ⟨h.md.trans a,h.fJ.quiet a,h.gl,λk d=>(have q:=h.side k d;⟨aJ q.1 a.size,q.2⟩)⟩
structure zm(W:World)(c m:Nat)(s:eF):Prop where
 tail:Kg m s.h
 et:ET W
 n1:1<W.heap.size
 cc:c<=8900
 mm:m<=150
theorem zm.lost(k:zm W c m s):s.h.J.lost<=450000000000000000:=by
 have:=k.tail.lost;have:=k.mm;omega
theorem zm.lock(k:zm W c m s)(a:Mod dt W w):Ob w W.heap.size c s.h:=⟨k.tail.rest.c.safe.shape,k.tail.rest.c.held.ki,k.et.mod a,k.n1,by have:=k.cc;omega⟩
theorem nZ.get(h:nZ W F gs g c s y xv vs w)(k:zm W c m s)(id:Int)(key:ByteArray)(a:gP key):Calls Tryz.prog 14 #[.pointer (some ⟨g,0,none⟩),.int .i64 id,.string key] w λe w'=>e=.returned (.tuple #[.string (fG s.h id key).2.1,.bool (fG s.h id key).2.2.1,jP (fG s.h id key).2.2.2])/\OW W F gs g (c+2) {s with h:=(fG s.h id key).1} w w':=by
 refine(yIk W.heap.size c g y s.h id key w h.fJ.house (k.lock h.md) a (k.tail.rest.c.safe.fi key)).mono ?_;rintro e w'⟨rfl,f,d,a⟩;exact⟨rfl,h.call (h.fJ.call (Mod.refl _ _) d a.st (aD _))⟩
theorem nZ.end_(h:nZ W F gs g c s y xv vs w)(k:zm W c m s)(id:Int):Calls Tryz.prog 15 #[.pointer (some ⟨g,0,none⟩),.int .i64 id] w λe w'=>e=.returned (jP (gK s.h id).2)/\OW W F gs g c {s with h:=(gK s.h id).1} w w':=by
 refine(yIs W.heap.size c g y s.h id w h.fJ.house k.tail.rest.c.safe k.tail.rest.c.held (by have:=k.cc;omega) (by have:=k.lost;omega)).mono ?_;rintro e w'⟨rfl,f,d,a⟩;exact⟨rfl,h.call (h.fJ.call (Mod.refl _ _) d a.st (aD _))⟩
theorem nZ.drop(h:nZ W F gs g c s y xv vs w)(k:zm W c m s)(id:Int):Calls Tryz.prog 12 #[.pointer (some ⟨g,0,none⟩),.int .i64 id] w λe w'=>∃f,e=.returned f/\OW W F gs g c {s with h:=(oz s.h id).1} w w':=by
 refine(yKy W.heap.size c g y s.h id w h.fJ.house k.tail.rest.c.safe.shape (by have:=k.cc;omega)).mono ?_;rintro e w'⟨rfl,j,d,a⟩;exact⟨_,rfl,h.call (h.fJ.call (Mod.refl _ _) d a.st (aD _))⟩
theorem nZ.calm(h:nZ W F gs g c s y xv vs w)(k:zm W c m s):Calls Tryz.prog 16 #[.pointer (some ⟨g,0,none⟩)] w λe w'=>∃f,e=.returned f/\OW W F gs g c {s with h:=lQ s.h} w w':=by
 refine(yCj W.heap.size c g y s.h w h.fJ.house k.tail.rest.c (by have:=k.cc;omega) (by have:=Wv k.tail.rest.c;have:=k.lost;omega)).mono ?_;rintro e w'⟨rfl,j,d,a⟩;exact⟨_,rfl,h.call (h.fJ.call (Mod.refl _ _) d a.st (aD _))⟩
theorem nZ.begin(h:nZ W F gs g c s y xv vs w)(k:zm W c m s):Calls Tryz.prog 13 #[.pointer (some ⟨g,0,none⟩)] w λe w'=>e=.returned (.tuple #[.int .i64 (s.h.U.length+1),.nilIface])/\OW W F gs g c {s with h:=mB s.h} w w':=by
 refine(Vn W.heap.size c g y s.h w h.fJ.house k.tail.rest.c.safe.shape.ll (by have:=k.tail.few;omega)).mono ?_;rintro e w'⟨rfl,f,d,a⟩;exact⟨rfl,h.call (h.fJ.call (Mod.refl _ _) d a (aD _))⟩
theorem nZ.state(h:nZ W F gs g c s y xv vs w)(a:s.h.U.length<=60)(id:Int):Calls Tryz.prog 11 #[.pointer (some ⟨g,0,none⟩),.int .i64 id] w λe w'=>e=.returned (.int .i64 (iB s.h id))/\w'=w:=KT W.heap.size c g y s.h id w h.fJ.house a
end
structure sZ(s:eF):Prop where
 kH:vJ s
 live:iK s.h
 safe:s.safe=true
 named:EK s.U
theorem sZ.new{k:Nat}(h:1<=k/\k<=3):sZ (AQ k true):=⟨vJ.new h true,yVd h,rfl,λt ht=>(by cases ht)⟩
theorem sZ.uS(h:sZ s)(a:qx m s)(d:s.now=m)(x:ActD):sZ (lE s x):=⟨h.kH.uS a d x,zYy h.live a h.safe x,by rw[(OL a x).2.2.2];exact h.safe,yHo h.named x⟩
theorem sZ.tD(h:sZ s)(a:qx m s)(f:s.now=m)(d:∀t∈s.U,t.ops.length<=m):yZd m s:=⟨a,h.kH.kH,h.live,h.safe,h.kH.short,h.named,f,d⟩
def OX:ActD:=⟨11,0,0,⟨#[]⟩⟩
def RS:ActD:=⟨12,0,0,⟨#[]⟩⟩
structure Nn(W:World)(gs g m:Nat)(s:eF)(w:World):Prop where
 ex:∃y xv vs,nZ W (λ_=>False) gs g (2*m+4) s y xv vs w
 last:By (m+2) s 0 s.h
 none:∀j,1<=j->j<=s.U.length->(s.h.I j).state≠2
 few:s.U.length<=7
 now:s.now=(m:Int)+2
 named:EK s.U
 kH:vJ s
 ops:∀t∈s.U,t.ops.length<=m+2
theorem yKd{xv:Value}(f:Mod dt W w)(l:fI w W.heap.size (2*m) gs g y xv vs s)(C:qx m s)(D:s.now=m)(j:∀t∈s.U,t.ops.length<=m)(d:W.heap.size<=gs)(hE:ET W)(p:NMo W W.heap.size)(q:1<W.heap.size)(E:m<=125)(x:ActD)(u:gP x.value) :
  Calls Tryz.prog 10 #[.pointer (some ⟨gs,0,none⟩),.agg #[.int .i64 x.what,.int .i64 x.I,.int .i64 x.a,.string x.value]] w λe w'=>e=.returned (.tuple #[])/\Mod dt W w'/\∃y xv vs,fI w' W.heap.size (2*(m+1)) gs g y xv vs (lE s x):=by
 refine(yDw W.heap.size (2*m) m gs g y xv vs s x w ⟨l,C,p.mod f (λ_ _=>id),hE.mod f,q,by omega,by omega,d,by omega,j⟩ u).mono ?_;rintro e w'⟨rfl,r,B,A,z,v⟩;refine⟨rfl,f.trans' v.md (λk G e=>?_),r,B,A,z⟩;obtain e|e:=e
 .have:=(l.house.own.lt k e).1;omega
 .have:=(l.cells d e).1;omega
theorem yRs(h:Dd sZ W gs g m w)(hE:ET W)(j:NMo W W.heap.size)(l:1<W.heap.size)(V:m<=120) :
  Calls Tryz.prog 10 #[.pointer (some ⟨gs,0,none⟩),.agg #[.int .i64 11,.int .i64 0,.int .i64 0,.string ⟨#[]⟩]] w λe w1=>e=.returned (.tuple #[])/\Calls Tryz.prog 10 #[.pointer (some ⟨gs,0,none⟩),.agg #[.int .i64 12,.int .i64 0,.int .i64 0,.string ⟨#[]⟩]] w1 λe A=>e=.returned (.tuple #[])/\∃s,Nn W gs g m s A:=by
 obtain⟨N,y,xv,vs,s,P,q,p,a,d,D⟩:=h;have f:gP (⟨#[]⟩:ByteArray):=by unfold gP;decide
 obtain⟨v,-,K,-⟩:=OL q OX;obtain⟨Q,-,J,-⟩:=OL v RS;have z:(lE s OX).now=((m+1:Nat):Int):=by rw[K,p];omega
 have M:=D.uS q p OX;have C:=M.uS v z RS;have B:=ZA a OX;have hF:=(D.tD q p a).fixed (by omega) (x:=OX) (y:=RS) rfl rfl;refine(yKd N P q p a d hE j l (by omega) OX f).mono ?_;rintro e w1⟨rfl,R,U,X,I,G⟩;refine⟨rfl,(yKd R G v z B d hE j l (by omega) RS f).mono ?_⟩;rintro e A⟨rfl,u,E,T,r,S⟩;exact⟨rfl,_,⟨E,T,r,u,S,d,λk O=>O.elim⟩,hF.1,hF.2,Q.few,by rw[J,z];omega,C.named,C.kH,ZA B RS⟩
def BL(W:World)(gs g m:Nat)(s:eF)(i:Nat)(wr:World):Prop:=∃h y xv vs a,a<=m+2+i/\By a s i h/\nZ W (λ_=>False) gs g (2*m+4) {s with h:=h} y xv vs wr
theorem yWn(D:BL W gs g m s i wr)(v:i<s.U.length)(a:∀j,1<=j->j<=s.U.length->(s.h.I j).state≠2)(hE:ET W)(r:1<W.heap.size)(G:m<=120)(J:s.U.length<=7):∃st:Int,(st==2)=false /\
  (Calls Tryz.prog 11 #[.pointer (some ⟨g,0,none⟩),.int .i64 ((i:Int)+1)] wr λe w'=>e=.returned (.int .i64 st)/\w'=wr)/\(((st==1)=true/\Calls Tryz.prog 12 #[.pointer (some ⟨g,0,none⟩),.int .i64 ((i:Int)+1)] wr λe w'=>∃u,e=.returned u/\BL W gs g m s (i+1) w')\/((st==1)=false/\BL W gs g m s (i+1) wr)):=by
 obtain⟨h,y,xv,vs,l,A,d,q⟩:=D;have B:=d.tail.few;have C:((i:Int)+1)=((i+1:Nat):Int):=by omega
 refine⟨iB h ((i:Int)+1),?_,q.state (by show h.U.length<=60;omega) _,?_⟩
 .rw[C,KR (by omega) (by rw[d.tl];omega)];have E:=a (i+1) (by omega) (by omega);rcases d.st (i+1) (by omega) (by omega)with e|e
  .rw[e];simpa using E
  .rw[e.2];rfl
 .by_cases f:iB h ((i:Int)+1)=1
  .refine .inl ⟨by simpa using f,(q.drop (m:=l) ⟨d.tail,hE,r,by omega,by omega⟩ _).mono ?_⟩;rintro e w'⟨u,rfl,⟨x,z,k,p⟩,-⟩;exact⟨u,rfl,_,x,z,k,l+1,by omega,d.drop v f,p⟩
  .exact .inr ⟨by simpa using f,h,y,xv,vs,l,by omega,d.stay v f,q⟩
theorem BL.cells(l:BL W gs g m s i wr):∃a j,gs<wr.heap.size/\wr.cell? ⟨gs,0,none⟩=some (.pointer (some ⟨g,0,none⟩))/\wr.cell? ⟨gs,1,none⟩=some (.slice a s.U.length j)/\wr.cell? ⟨gs,2,none⟩=some (.int .i64 s.now):=by
 obtain⟨h,y,xv,vs,u,k,v,f⟩:=l;obtain⟨a,j,d⟩:=fU f.fJ.row.2;subst d;obtain⟨r,q,p,-,-⟩:=gb f.fJ.Z;exact⟨a,j,f.fJ.Z.lt,r,q,p⟩
theorem Kj(h:i<n)(a:n<=7):wrap64 ((i:Int)+1)=(i:Int)+1/\decide ((i:Int)<(n:Int))=true/\(i:Int)<(n:Int):=⟨B7 _ ⟨by omega,by omega⟩,aQ (by omega),by omega⟩
theorem lasA(c0 c1 c2 c3 c4 c6 c8 c9 G E D C B A z x v u r q NM NL NK NJ NI Gy NH NG Jk NF QA Pz Py Px Pw Pv Pu Pt Ps Pr Pq Pp Po Pn Pm Pk Pj P Ph O Pg Pf Pe Pd Pc Pb Pa ND NC NB NA Mz My Mx Mw Gx Mv Mu Mt Ms Mr Mq Mp Mo Mn Mm Ml Mk Mj YK YJ YI YH YG YF YE YD YC YB YA Xz Xy Xx Xw Xv Xu Xt Xs Hn Hm Hl Hk Hj Hi Hh Hg Hf He Hd Hc Hb Ha Gz T V X Y f Z yN yM yL yK yJ yI yH yG yF yE yD yC yB xz xy xx xw d xu xt xr xq xp xo xm xl xk xj xh xg xf xe xd xc xZ xY xX xW xV xU xT xS xR:Value)(W:World)(gs g m:Nat)(s:eF)(w:World)(kQ:Hid (∀j,1<=j->j<=s.U.length->(s.h.I j).state≠2))(HE:Hid (ET W))(N:1<W.heap.size)(rT:m<=120)(h7:s.U.length<=7)(H0:Hid (BL W gs g m s 0 w)){R:Act->World->Prop}
  (hN:∀(u4 u7 u32 u33 u34 u35 u36 u37 u38 u39 u40 u41 u42 u43 u44 u45 u46 u47 u48 u49 u50 u51 u52 u53 u54 u55 u56 u57 u58:Value) (wd:World),BL W gs g m s s.U.length wd->R ⟨#[c0,c1,c2,c3,u4,.pointer (some ⟨gs,0,none⟩),c6,u7,c8,c9,G,E,D,C,B,A,z,x,v,u,r,q,NM,NL,NK,NJ,NI,Gy,NH,NG,Jk,NF,u32,u33,u34,u35,u36,u37,u38,u39,u40,u41,u42,u43,u44,u45,u46,u47,u48,u49,u50,u51,u52,u53,u54,u55,u56,u57,u58,ND,NC,NB,NA,Mz,My,Mx,Mw,Gx,Mv,Mu,Mt,Ms,Mr,Mq,Mp,Mo,Mn,Mm,Ml,Mk,Mj,YK,YJ,YI,YH,YG,YF,YE,YD,YC,YB,YA,Xz,Xy,Xx,Xw,Xv,Xu,Xt,Xs,Hn,Hm,Hl,Hk,Hj,Hi,Hh,Hg,Hf,He,Hd,Hc,Hb,Ha,Gz,T,V,X,Y,f,Z,yN,yM,yL,yK,yJ,yI,yH,yG,yF,yE,yD,yC,yB,xz,xy,xx,xw,d,xu,xt,xr,xq,xp,xo,xm,xl,xk,xj,xh,xg,xf,xe,xd,xc,xZ,xY,xX,xW,xV,xU,xT,xS,xR],[]⟩ wd) :
  Code.wp Tryz.prog ((Tryz.f4.body.bind (CK 0)).getD .skip) (wG R) ⟨#[c0,c1,c2,c3,c4,.pointer (some ⟨gs,0,none⟩),c6,.int .i64 0,c8,c9,G,E,D,C,B,A,z,x,v,u,r,q,NM,NL,NK,NJ,NI,Gy,NH,NG,Jk,NF,QA,Pz,Py,Px,Pw,Pv,Pu,Pt,Ps,Pr,Pq,Pp,Po,Pn,Pm,Pk,Pj,P,Ph,O,Pg,Pf,Pe,Pd,Pc,Pb,Pa,ND,NC,NB,NA,Mz,My,Mx,Mw,Gx,Mv,Mu,Mt,Ms,Mr,Mq,Mp,Mo,Mn,Mm,Ml,Mk,Mj,YK,YJ,YI,YH,YG,YF,YE,YD,YC,YB,YA,Xz,Xy,Xx,Xw,Xv,Xu,Xt,Xs,Hn,Hm,Hl,Hk,Hj,Hi,Hh,Hg,Hf,He,Hd,Hc,Hb,Ha,Gz,T,V,X,Y,f,Z,yN,yM,yL,yK,yJ,yI,yH,yG,yF,yE,yD,yC,yB,xz,xy,xx,xw,d,xu,xt,xr,xq,xp,xo,xm,xl,xk,xj,xh,xg,xf,xe,xd,xc,xZ,xY,xX,xW,xV,xU,xT,xS,xR],[]⟩ w:=by
 conv=>arg 2;whnf
 have HN:=dk hN;clear hN;go_wp2_with fail;go_loopw [7] (λK wr=>∃i:Nat,i<=s.U.length/\K=.int .i64 i/\BL W gs g m s i wr) (λK _=>s.U.length-(intOf K).toNat)
 case atStart=>exact⟨0,aT _,rfl,H0.out⟩
 case round=>
  obtain⟨i,hil,rfl,p⟩:=hrel;clear H0;obtain⟨xa,fY,zg,d0,d1,d2⟩:=p.cells;by_cases a:i<s.U.length
  .obtain⟨ew,hb,jq⟩:=Kj a h7;obtain⟨st,hb2,k,M⟩:=yWn p a kQ.out HE.out N rT h7;have J:=dk k;clear k p;obtain⟨hb1,hdr⟩|⟨hb1,UE⟩:=M
   .have Jz:=dk hdr;clear hdr;go_wp2_with (first
    |(go_at_call 11;refine J.out.mono ?_;rintro e w'⟨rfl,rfl⟩)
    |(go_at_call 12;refine Jz.out.mono ?_;rintro e w5⟨ev,rfl,l⟩;have Q:=dk l;clear l)
    |fail)
    go_roundw
    case rel=>exact⟨i+1,a,by first|rfl|go_num,Q.out⟩
    case measure=>simp[intOf];omega
   .have S:=dk UE;clear UE;go_wp2_with (first
    |(go_at_call 11;refine J.out.mono ?_;rintro e w'⟨rfl,rfl⟩)
    |fail)
    go_roundw
    case rel=>exact⟨i+1,a,by first|rfl|go_num,S.out⟩
    case measure=>simp[intOf];omega
  .obtain rfl:i=s.U.length:=by omega
   have HQ:=dk p;clear p;go_wp2_with fail;show R _ _;exact HN.out _ _ _ _ _ _ _ _ _ _ _ _ _ _ _ _ _ _ _ _ _ _ _ _ _ _ _ _ _ _ HQ.out
def RW(s:eF)(i:Nat):Bool:=decide (iB s.h ((i:Int)+1)=3)||decide (iB s.h ((i:Int)+1)=2)
def uK(s:eF)(i:Nat):List eY:=((List.range i).filter (RW s)).map λi=>s.U.getD i ⟨[],0,0⟩
theorem yDb(s:eF):uK s s.U.length=lZ s:=rfl
theorem yLs(h:s.U[i]?=some t):uK s (i+1)=if RW s i then uK s i++[t]else uK s i:=by
 unfold uK;rw[aZ,dE,ay,cE,List.filter_nil];split
 .simp[List.getD_eq_getElem?_getD,h]
 .simp
theorem yDa(s:eF)(i:Nat):(uK s i).length<=i:=by
 unfold uK;rw[ao];exact aO (bD _ _) (by simp)
structure td(w:World)(s:eF)(vs:List Value)(ts:List eY)(v:Value)(us:List Value)(w':World):Prop where
 row:jt 46 w' w.heap.size v ts us
 sub:∀(k:Nat) t u,ts[k]?=some t->us[k]?=some u->∃j:Nat,s.U[j]?=some t/\vs[j]?=some u
 md:Mod dt w w'
def Jl(w:World)(s:eF)(vs:List Value)(e:Ending)(w':World):Prop:=∃v a,e=.returned v/\td w s vs (lZ s) v a w'
theorem fI.Fh{c a:Nat}(h:fI w n c gs g y (.slice (some ⟨a,0,none⟩) m cap) vs s){u:Value}(p:s.U[i]?=some t)(l:vs[i]?=some u) :
  w.cell? ⟨a,i*3,none⟩=some u/\w.cell? ⟨a,i*3+1,none⟩=some (.int .i64 t.eP)/\w.cell? ⟨a,i*3+2,none⟩=some (.int .i64 t.fN)/\a<w.heap.size:=by
 have d:∀j x,(sH t u)[j]?=some x->w.cell? ⟨a,i*3+j,none⟩=some x:=λj x f=>by
  have:=h.row.2.cells (g:=a) rfl _ _ (Ib s.U vs i t u h.row.1 p l j x f);rw[A1,aY]at this;exact this
 obtain⟨_,q,_⟩:=fs h.row.2 (k:=a) rfl;exact⟨d 0 _ rfl,d 1 _ rfl,d 2 _ rfl,q⟩
theorem yTx(n c gs g:Nat)(y:dq)(xv:Value)(vs:List Value)(s:eF)(w:World)(h:fI w n c gs g y xv vs s)(hl:s.U.length<=100)(hh:s.h.U.length<=60) :
  Calls Tryz.prog 9 #[.pointer (some ⟨gs,0,none⟩)] w (Jl w s vs):=by
 obtain⟨i0,T,Q,O,N⟩:=A3 Tryz.tK;obtain⟨xa,fY,R⟩:=fU h.row.2;subst R;have HH:=dk h;clear h;go_enter Tryz.func9,Tryz.ntmps9;go_wp2_with fail;go_loopw [3,4] (λv0 J wr=>∃j:Nat,j<=s.U.length/\J=.int .i64 j/\∃p,td w s vs (uK s j) v0 p wr) (λ_ J _=>s.U.length-(intOf J).toNat)
 case atStart=>exact⟨0,aT _,rfl,[],⟨rfl,A6 _ _ _ _⟩,λk t u v=>(by simp[uK]at v),Mod.refl _ _⟩
 case round=>
  rename_i v0 J;obtain⟨j,hjl,rfl,p,d⟩:=hrel;have r:=HH.out.quiet d.md;obtain⟨c0,c1,c2,-,-⟩:=gb r.Z;have zg:=r.Z.lt;obtain⟨ta,Y,pj⟩:=fU d.row.2;subst pj;have M:Hid (∀id,Calls Tryz.prog 11 #[.pointer (some ⟨g,0,none⟩),.int .i64 id] wr λe w'=>e=.returned (.int .i64 (iB s.h id))/\w'=wr):=λid=>KT n c g y s.h id wr r.house hh;by_cases qW:j<s.U.length
  .obtain⟨t,ht⟩:∃t,s.U[j]?=some t:=⟨_,aA qW⟩;obtain⟨xb,cap',K⟩:=r.oQ ht;simp only[Value.slice.injEq]at K;obtain⟨rfl,-,rfl⟩:=K;obtain⟨u,hu⟩:∃u,vs[j]?=some u:=⟨_,aA (by rw[r.row.1];exact qW)⟩;obtain⟨x0,x1,x2,zx⟩:=r.Fh ht hu;have MA:(j:Int)<(s.U.length:Int):=by omega
   have PA:(0:Int)<=(j:Int):=by omega
   have ew:wrap64 ((j:Int)+1)=(j:Int)+1:=B7 _ ⟨by omega,by omega⟩;have I:=dk (yLs ht);have A:∃a m k,u=.slice a m k:=by
    obtain⟨a,k,e⟩:=fU (r.ops j t u ht hu);exact⟨a,_,k,e⟩
   have hlen:=yDa s j;by_cases l:RW s j=true
   .
    obtain⟨ua,um,uk,C⟩:=A;have E:Mod dt wr (wr.alloc (.cells #[u,.int .i64 t.eP,.int .i64 t.fN] 46)):=(Mod.refl _ _).alloc _;have hzw:=d.md.size;have DN:∀q∈sH t u,q.oneCell'=true:=λq hq=>by
     simp[sH]at hq;obtain rfl|rfl|rfl:=hq
     .rw[C];rfl
     .rfl
     .rfl
    obtain⟨v7,w7,gT,eX,eh,_,ib⟩:=C0 (P:=Tryz.prog) (wr.alloc (.cells #[u,.int .i64 t.eP,.int .i64 t.fN] 46)) w.heap.size 29 29 46 i0 _ 3 40 Tryz.wO T Q O N rfl (by omega) _ _ _ (gO d.row.2 E (λ_ _ _ _ e=>e)) ⟨wr.heap.size,0,none⟩ 1 1 (sH t u) rfl (A7 (A0 wr _)) DN (by unfold maxLen;omega) (by omega) (by have:=E.size;omega);obtain⟨a7,fV,qQ⟩:=fU eX;subst qQ;have B:Hid (∃p,td w s vs (uK s (j+1)) (.slice a7 ((uK s j).length+1) fV) p w7):=by
     unfold Hid;rw[I.out,aK l];refine⟨p++[u],⟨by rw[aE,aE,d.row.1];rfl,?_⟩,λk t' u' v f=>?_,?_⟩
     .rw[Wd _ _ _ _ d.row.1,aE];exact eX
     .by_cases D:k<(uK s j).length
      .rw[aG D]at v;rw[aG (by rw[d.row.1];exact D)]at f;exact d.sub k t' u' v f
      .rw[aL (by omega)]at v;rw[aL (by rw[d.row.1];omega),d.row.1]at f;have S:k-(uK s j).length=0:=by
        have:=(aB.1 v).1;simp at this;omega
       rw[S]at v f;simp at v f;subst v f;exact⟨j,ht,hu⟩
     .refine(d.md.trans E).trans' ((Mod.refl _ _).grown eh (G:=λz=>(Value.slice ta (uK s j).length Y).ownBlock=some z) (λx K _=>K)) (λz hz q=>?_);have:=(fs d.row.2 q).1;omega
    have X:(iB s.h ((j:Int)+1)==3)=true\/((iB s.h ((j:Int)+1)==3)=false/\(iB s.h ((j:Int)+1)==2)=true):=by
     unfold RW at l;simp only[cA,aw]at l;by_cases e:iB s.h ((j:Int)+1)=3
     .exact .inl (by simpa using e)
     .exact .inr ⟨by simpa using e,by simpa using l.resolve_left e⟩
    subst C;clear d r eX eh ib E ht hu l I;obtain b3|⟨b3,b2⟩:=X
    .go_wp2_with (first
     |(go_at_call 11;refine(M.out _).mono ?_;rintro e w'⟨rfl,rfl⟩)
     |(at_builtin;refine RN rfl (yz (s:=.tmp 28) (x:=.tmp 36) (t:=29) rfl (by go_simp) (by go_simp) gT) ?_)
     |fail)
     go_roundw
     case rel=>exact⟨j+1,by omega,by first|rfl|go_num,B.out⟩
     case measure=>simp[intOf];omega
    .go_wp2_with (first
     |(go_at_call 11;refine(M.out _).mono ?_;rintro e w'⟨rfl,rfl⟩)
     |(at_builtin;refine RN rfl (yz (s:=.tmp 28) (x:=.tmp 36) (t:=29) rfl (by go_simp) (by go_simp) gT) ?_)
     |fail)
     go_roundw
     case rel=>exact⟨j+1,by omega,by first|rfl|go_num,B.out⟩
     case measure=>simp[intOf];omega
   .have B:Hid (∃p,td w s vs (uK s (j+1)) (.slice ta (uK s j).length Y) p wr):=by
     unfold Hid;rw[I.out,aH l];exact⟨p,d⟩
    have V:(iB s.h ((j:Int)+1)==3)=false/\(iB s.h ((j:Int)+1)==2)=false:=by
     unfold RW at l;simp only[cA,aw,not_or]at l;exact⟨by simpa using l.1,by simpa using l.2⟩
    obtain⟨b3,b2⟩:=V;clear d r ht hu l I A;go_wp2_with (first|(go_at_call 11;refine(M.out _).mono ?_;rintro e w'⟨rfl,rfl⟩)|fail);go_roundw
    case rel=>exact⟨j+1,by omega,by first|rfl|go_num,B.out⟩
    case measure=>simp[intOf];omega
  .obtain rfl:j=s.U.length:=by omega
   have B:Hid (td w s vs (lZ s) (.slice ta (uK s s.U.length).length Y) p wr):=by
    unfold Hid;rw[<-yDb];exact d
   clear d r;go_wp2_with fail;go_ret;exact⟨_,p,rfl,B.out⟩
theorem Tryz.info3:(Tryz.prog.info? 3).map (λi=>(i.zero,i.size,i.bytes))=some (some (.int .i64 0),1,8):=by kernel_rfl
theorem IL(o:List Nat):(ee o).length=o.length:=by simp[ee]
theorem yVj(w:World)(n:Nat)(l:n<=1000):(Instr.makeSlice 26 (.int .i64 n) (.int .i64 n)).run Tryz.prog w=.ok (.slice (some ⟨w.heap.size,0,none⟩) n n) (w.alloc (.cells (madeCells #[.int .i64 0] n) 3)):=by
 obtain⟨j,k,f,d,a⟩:=A3 Tryz.info3;have:=run_make (P:=Tryz.prog) w 26 3 j _ Tryz.underlying26 k f .i64 .i64 n n (by omega) (by omega) (by rw[a];omega) (by omega);rw[d]at this;simpa[Value.cells]using this
theorem yUj(w:World)(n:Nat)(a:n<=1000):(w.alloc (.cells (madeCells #[.int .i64 0] n) 3)).ownsRow w.heap.size 3 1 (.slice (some ⟨w.heap.size,0,none⟩) n n) n (ld [] n):=by
 refine⟨by simp[ld],.inr ⟨w.heap.size,n,madeCells #[.int .i64 0] n,rfl,aD _,A0 w _,aD _,by unfold maxLen;omega,by simp[madeCells],?_⟩⟩;rw[toList_madeCells_one,yUl];simp
theorem LC(h:Mod (jw w.heap.size) w w'):Mod dt w w':=h.mono (λi a e=>by simp only[jw]at e;omega)
theorem Vk(h:w.ownsRow L e 1 (.slice (some ⟨b,0,none⟩) n cap) n xs){j:Nat}{x:Value}(a:xs[j]?=some x):w.cell? ⟨b,j,none⟩=some x:=by
 have:=h.cells (g:=b) rfl j x a;rw[A1,aY]at this;exact this
theorem Za(h:w.ownsRow L e 1 (.slice (some ⟨b,0,none⟩) n cap) n xs)(j:Nat):w.frozen? ⟨b,j,none⟩=false/\b<w.heap.size:=by
 obtain⟨_,d,f,a⟩:=fs h (k:=b) rfl;exact⟨by simp[World.frozen?,a],d⟩
def Ff(s:gh):Prop:=∀k,(s k).there=false->s k=AB
theorem yPi:Ff jv:=λ_ _=>rfl
theorem yPh{s j:gh}{u:List (ByteArray×VD)}(h:Ff s)(a:jQ s o=some (j,u)):Ff j:=by
 have d:∀v:VD,(v.there=false->v=AB)->Ff (oS s o.key v):=λv l k f=>by
  unfold oS at f⊢;split
  .rename_i e;rw[aK e]at f;exact l f
  .rename_i e;rw[aH e]at f;exact h k f
 unfold jQ at a;split at a
 .split at a
  .simp at a;obtain⟨rfl,_⟩:=a;exact h
  .cases a
 .split at a
  .simp at a;obtain⟨rfl,_⟩:=a;exact d _ (λh=>by simp at h)
  .split at a
   .simp at a;obtain⟨rfl,_⟩:=a;exact d _ (λ_=>rfl)
   .simp at a;obtain⟨rfl,_⟩:=a;exact h
theorem Zf:∀(os:List fm) (s d:gh) (us:List (ByteArray×VD)),Ff s->iJ s os=some (d,us)->Ff d
|[],s,d,us,h,a=>by simp[iJ]at a;obtain⟨rfl,_⟩:=a;exact h
|p::os,s,d,us,h,a=>by
  rw[iJ]at a
  cases j:jQ s p with
 |none=>rw[j]at a;cases a
 |some r=>
   rw[j]at a;simp only at a
   cases f:iJ r.1 os with
  |none=>rw[f]at a;cases a
  |some t=>
    rw[f]at a;simp at a;obtain⟨rfl,_⟩:=a;exact Zf os r.1 t.1 t.2 (yPh h j) f
