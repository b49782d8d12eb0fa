import Derived.Test.YtmaiggbnceejiaaGreatDoorL37
set_option linter.unusedVariables false
set_option maxRecDepth 100000
set_option maxHeartbeats 16000000
namespace Go.Proofs.YtmaiggbnceejiaaGreatDoor
open Go.RowKit Go.Lib Go.Maps
variable {m i n b p j id d:Nat}{w:Bool}{ts:List eY}{o D:List Nat}{s s2 V:gh}{k:fP}{t:eY}{s':dp}{O:Nat->List fm}{x:Int}{E E':Nat->Prop}{X:List Int}
def mD:List Nat->Nat->Nat->Nat
|[],_,_=>0
|n::l,x,c=>if x=n then c+1 else mD l x (c+1)
theorem KJ:∀(l:List Nat) (x c:Nat),mD l x c≠0↔x∈l
|[],x,c=>by simp[mD]
|n::l,x,c=>by
  unfold mD;split
  .rename_i e;simp[e]
  .rename_i e;rw[KJ l x (c+1)];simp[e]
theorem Wp:∀(l:List Nat) (x c:Nat),mD l x c≠0->∃p,mD l x c=c+p+1/\l[p]?=some x
|[],x,c,h=>by simp[mD]at h
|n::l,x,c,h=>by
  unfold mD at h⊢;split
  .rename_i e;exact⟨0,by omega,by simp[e]⟩
  .rename_i e;rw[aH e]at h;obtain⟨p,f,a⟩:=Wp l x (c+1) h;exact⟨p+1,by omega,by simpa using a⟩
theorem yKb:∀(l:List Nat) (n x c:Nat),n∉l->mD (l++[n]) x c=if x=n then c+l.length+1 else mD l x c
|[],n,x,c,_=>by simp[mD]
|m::l,n,x,c,h=>by
  have f:=yKb l n x (c+1) (λe=>h (by simp[e]));have g:n≠m:=λe=>h (by simp[e]);rw[bI,mD,f,mD];by_cases a:x=m
  .rw[aK a,aK a,aH (λe=>g (by omega))]
  .rw[aH a,aH a];simp only[aW];split <;> omega
def ld(l:List Nat)(m:Nat):List Value:=(List.range m).map λ(i:Nat)=>.int .i64 (mD l i 0:Nat)
theorem KL(l:List Nat)(a:i<m):(ld l m)[i]?=some (.int .i64 (mD l i 0:Nat)):=by
 unfold ld;rw[ah,cz a];rfl
theorem yUk{l:List Nat}(r:n<m)(f:n∉l):(ld l m).set n (.int .i64 ((l.length:Nat)+1:Int))=ld (l++[n]) m:=by
 apply bP;intro i;rw[bz];by_cases c:i<m
 .rw[KL _ c,KL _ c,yKb l n i 0 f];have a:(ld l m).length=m:=by simp[ld]
  by_cases e:n=i
  .subst e;simp[a,c]
  .rw[aH e,aH (λq=>e q.symm)]
 .have h:(ld l m)[i]?=none:=by simp[ld];omega
  have g:(ld (l++[n]) m)[i]?=none:=by simp[ld];omega
  rw[h,g,aH (by omega)]
theorem yUl(m:Nat):ld [] m=List.replicate m (.int .i64 0):=by
 apply bP;intro i;by_cases a:i<m
 .rw[KL _ a,List.getElem?_replicate,aK a];rfl
 .have c:(ld [] m)[i]?=none:=by simp[ld];omega
  rw[c,List.getElem?_replicate,aH a]
theorem yUi{w:World}{L:Nat}{e:TypeId}{cap:Nat}{xs:List Value}(h:w.ownsRow L e 1 (.slice (some ⟨b,0,none⟩) n cap) n xs)(a:i<n)(u:Value):(w.setCell ⟨b,i,none⟩ u).ownsRow L e 1 (.slice (some ⟨b,0,none⟩) n cap) n (xs.set i u):=by
 refine⟨by rw[ai];exact h.1,?_⟩;obtain⟨h0,_⟩|⟨g,cap',cur,hv,h1,hg,h2,h3,h4,h5⟩:=h.2
 .cases h0
 .simp only[Value.slice.injEq,ag,Addr.mk.injEq]at hv;obtain⟨⟨rfl,_⟩,_,rfl⟩:=hv;refine .inr ⟨b,cap,cur.setIfInBounds i u,rfl,h1,?_,h2,h3,by simpa using h4,?_⟩
  .simp[World.setCell,Array.getElem?_modify,hg]
  .rw[Array.toList_setIfInBounds,List.take_set,h5]
theorem never(c:jZ ts [] s o=some s2){k:Nat}{u:eY}(ht:ts[i]?=some t)(a:ts[k]?=some u)(g:0<=t.fN)(f:t.fN<u.eP)(e:mD o k 0≠0):¬mD o k 0<mD o i 0:=λr=>by
 obtain⟨p,y,l⟩:=Wp o k 0 e;obtain⟨q,v,h⟩:=Wp o i 0 (by omega);exact yIj c l h (by omega) ht a ⟨g,f⟩
def jv:gh:=λ_=>AB
def iM(ts:List eY):gh->List Nat->Option gh
|s,[]=>some s
|s,n::rest=>match ts[n]? with
 |none=>none
 |some t=>match iJ s t.ops with
  |none=>none
  |some r=>iM ts r.1 rest
theorem yDp{rest:List Nat}:iM ts s (n::rest)=some s2↔∃t r,ts[n]?=some t/\iJ s t.ops=some r/\iM ts r.1 rest=some s2:=by
 rw[iM];constructor
 .intro h
  cases ht:ts[n]? with
 |none=>rw[ht]at h;cases h
 |some t=>
   rw[ht]at h;simp only at h
   cases a:iJ s t.ops with
  |none=>rw[a]at h;cases h
  |some r=>rw[a]at h;exact⟨t,r,rfl,a,h⟩
 .rintro⟨t,r,f,e,c⟩;rw[f];simp only;rw[e];exact c
theorem yBd(ts:List eY):∀(l r:List Nat) (s:gh),iM ts s (l++r)=(iM ts s l).bind λa=>iM ts a r
|[],r,s=>rfl
|n::l,r,s=>by
  rw[bI,iM,iM]
  cases ts[n]? with
 |none=>rfl
 |some t=>
   simp only
   cases iJ s t.ops with
  |none=>rfl
  |some x=>exact yBd ts l r x.1
theorem KO(ts:List eY):∀(rest d:List Nat) (s s2:gh),jZ ts d s rest=some s2↔(∀(p:Nat) n,rest[p]?=some n->KG ts (d++rest.take p) n)/\iM ts s rest=some s2
|[],d,s,s2=>by simp[jZ,iM]
|m::rest,d,s,s2=>by
  constructor
  .intro h;obtain⟨c,t,r,g,u,q⟩:=OH h;obtain⟨f,e⟩:=(KO ts rest (d++[m]) r.1 s2).1 q;refine⟨λp n a=>?_,yDp.2 ⟨t,r,g,u,e⟩⟩
   cases p with
  |zero=>simp at a;subst a;simpa using c
  |succ p=>have:=f p n (by simpa using a);simpa using this
  .rintro⟨c,g⟩;obtain⟨t,r,f,e,l⟩:=yDp.1 g;rw[Vf (by have:=c 0 m rfl;simpa using this) f e];refine(KO ts rest (d++[m]) r.1 s2).2 ⟨λp n a=>?_,l⟩;have:=c (p+1) n (by simpa using a);simpa using this
def FQ(ts:List eY)(o:List Nat):Prop:=∀(i k:Nat) t u,ts[i]?=some t->ts[k]?=some u->0<=t.fN->t.fN<u.eP->mD o k 0≠0->¬mD o k 0<mD o i 0
theorem Qx(h:o.Nodup)(l:o[p]?=some n):mD o n 0=p+1:=by
 obtain⟨q,u,r⟩:=Wp o n 0 ((KJ o n 0).2 (aC l));obtain⟨g,f⟩:=aB.1 l;obtain⟨e,c⟩:=aB.1 r;have:q=p:=by
  rcases cG q p with a|a|a
  .exact absurd (c.trans f.symm) ((aq.1 h) q p e g a)
  .exact a
  .exact absurd (f.trans c.symm) ((aq.1 h) p q g e a)
 omega
theorem yHt(a:o.Nodup)(H:FQ ts o)(c:o[p]?=some n)(h:∀(m:Nat) t u,ts[m]?=some t->ts[n]?=some u->Rb t u->m∈o):KG ts (o.take p) n:=by
 obtain⟨B,A⟩:=aB.1 c;refine⟨λF=>?_,λm t u ht v f l=>?_⟩
 .obtain⟨j,G,e⟩:=cU F;rw[List.getElem_take]at e;have g:j<p:=by simp at G;omega
  exact(aq.1 a) j p (by omega) B g (by rw[e,A])
 .obtain⟨q,z,r⟩:=cU (h m t u ht v l);have y:o[q]?=some m:=by rw[aA z,r]
  have I:=H m n t u ht v l.1 l.2 (by rw[Qx a c];omega);rw[Qx a c,Qx a y]at I;have C:q≠p:=λe=>by subst e;rw[y]at c;simp at c;exact f c
  refine List.mem_iff_getElem.2 ⟨q,by simp;omega,?_⟩;rw[List.getElem_take];exact r
theorem Qh(c:o.Nodup):((∃s2,jZ ts [] jv o=some s2)/\oB ts o)↔(oB ts o/\FQ ts o/\∃s2,iM ts jv o=some s2):=by
 constructor
 .rintro⟨⟨s2,e⟩,a⟩;exact⟨a,λi k t u ht f v r q=>never e ht f v r q,s2,((KO ts o [] jv s2).1 e).2⟩
 .rintro⟨a,l,s2,g⟩;refine⟨⟨s2,(KO ts o [] jv s2).2 ⟨λp n h=>?_,g⟩⟩,a⟩;rw[aa];exact yHt c l h (λm t u ht _ y=>a m t ht y.1)
def iw(ts:List eY)(o:List Nat)(j:Nat):List eY:=ts.mapIdx λi t=>if i<j/\i∉o/\0<=t.fN then⟨t.ops,t.eP,-1⟩else t
theorem BU(ts:List eY)(o:List Nat)(j:Nat):(iw ts o j).length=ts.length:=by simp[iw]
theorem BP(h:ts[i]?=some t):(iw ts o j)[i]?=some (if i<j/\i∉o/\0<=t.fN then⟨t.ops,t.eP,-1⟩else t):=by
 simp[iw,List.getElem?_mapIdx,h]
theorem Qg{t':eY}(h:(iw ts o j)[i]?=some t'):∃t,ts[i]?=some t/\t'=if i<j/\i∉o/\0<=t.fN then⟨t.ops,t.eP,-1⟩else t:=by
 have a:i<ts.length:=by rw[<-BU ts o j];exact(aB.1 h).1
 refine⟨ts[i],aA a,?_⟩;rw[BP (aA a)]at h;simpa using h.symm
theorem ySf(ts:List eY)(o:List Nat):iw ts o 0=ts:=by
 apply bP;intro i
 cases h:ts[i]? with
|none=>
  have:ts.length<=i:=by simpa using h
  rw[aX (by rw[BU];exact this)]
|some t=>rw[BP h,aH (by omega)]
theorem yJv{a:List eY}(h:∀(i:Nat),(a[i]?).map eY.ops=(ts[i]?).map eY.ops):∀(o:List Nat) (s:gh),iM a s o=iM ts s o
|[],s=>rfl
|n::o,s=>by
  have c:=h n;rw[iM,iM]
  cases f:ts[n]? with
 |none=>
   rw[f]at c
   cases e:a[n]? with
  |none=>rfl
  |some g=>rw[e]at c;cases c
 |some t=>
   rw[f]at c
   cases e:a[n]? with
  |none=>rw[e]at c;cases c
  |some g=>
    rw[e]at c;simp only[bJ,ag]at c;simp only;rw[c]
    cases iJ s t.ops with
   |none=>rfl
   |some r=>exact yJv h o r.1
theorem yWr(ts:List eY)(o:List Nat)(j i:Nat):((iw ts o j)[i]?).map eY.ops=(ts[i]?).map eY.ops:=by
 cases h:ts[i]? with
|none=>
  have:ts.length<=i:=by simpa using h
  rw[aX (by rw[BU];exact this)]
|some t=>
  rw[BP h];split <;> rfl
def EI(ts:List eY)(o:List Nat)(j:Nat):Prop:=∀(i:Nat) t,i<j->ts[i]?=some t->i∉o->0<=t.fN->∀k∈o,∀u,ts[k]?=some u->¬t.fN<u.eP
theorem Zd(v:o.Nodup):(EI ts o ts.length/\(∃s2,jZ (iw ts o ts.length) [] jv o=some s2)/\oB (iw ts o ts.length) o)↔∃s2,jZ ts [] jv o=some s2:=by
 have y:∀{i:Nat} {t:eY},ts[i]?=some t->i<ts.length:=λh=>(aB.1 h).1;have l:∀s,iM (iw ts o ts.length) s o=iM ts s o:=yJv (yWr ts o ts.length) o;have G:oB (iw ts o ts.length) o:=λi R f h0=>by
  obtain⟨t,ht,rfl⟩:=Qg f;by_cases c:i∈o
  .exact c
  .by_cases r:0<=t.fN
   .rw[aK ⟨y ht,c,r⟩]at h0;simp at h0
   .rw[aH (λh=>r h.2.2)]at h0;exact absurd h0 r
 constructor
 .rintro⟨a,TY,T⟩;obtain⟨_,Y,s2,U⟩:=(Qh v).1 ⟨TY,T⟩;have K:FQ ts o:=λi k t u ht g r F P=>by
   by_cases c:i∈o
   .have Z:(iw ts o ts.length)[i]?=some t:=by rw[BP ht,aH (λh=>h.2.1 c)]
    obtain⟨z,e2,L⟩:∃z,(iw ts o ts.length)[k]?=some z/\z.eP=u.eP:=⟨_,BP g,by split <;> rfl⟩;exact Y i k t z Z e2 r (by rw[L];exact F) P
   .exact absurd F (a i t (y ht) ht c r k ((KJ o k 0).1 P) u g)
  refine⟨s2,(KO ts o [] jv s2).2 ⟨λp n C=>?_,by rw[<-l];exact U⟩⟩;rw[aa];refine yHt v K C (λm t u ht g Q=>?_);by_cases A:m∈o
  .exact A
  .exact absurd Q.2 (a m t (y ht) ht A Q.1 n (aC C) u g)
 .rintro⟨s2,N⟩;obtain⟨r,F⟩:=(KO ts o [] jv s2).1 N;have a:EI ts o ts.length:=λi t _ ht c h0 k M u g B=>by
   obtain⟨p,C,e⟩:=cU M;have W:=r p k (by rw[aA C,e]);have:=W.2 i t u ht g (λq=>c (q ▸ M)) ⟨h0,B⟩;rw[aa]at this;exact c (cS this)
  refine⟨a,((Qh v).2 ⟨G,λi k R z f J I H S=>?_,s2,by rw[l];exact F⟩).1,G⟩;obtain⟨t,ht,rfl⟩:=Qg f;obtain⟨u,g,rfl⟩:=Qg J;have c:i∈o:=G i _ f I;rw[aH (λh=>h.2.1 c)]at I H;have L:(if k<ts.length/\k∉o/\0<=u.fN then(⟨u.ops,u.eP,-1⟩:eY)else u).eP=u.eP:=by split <;> rfl
  rw[L]at H;exact never N ht g I H S
def CN(o:fm):Option VD:=if o.kind=2 then some ⟨o.value,true⟩else if o.kind=3 then some AB else none
def mL:List fm->ByteArray->Option VD
|[],_=>none
|o::a,k=>match mL a k with
 |some v=>some v
 |none=>if o.key=k then CN o else none
theorem ZQ:∀(os:List fm) (o:fm) (k:ByteArray),mL (os++[o]) k=if o.key=k/\(CN o).isSome=true then CN o else mL os k
|[],o,k=>by
  simp only[aa,mL];by_cases e:o.key=k
  .rw[aK e]
   cases c:CN o with
  |none=>simp
  |some v=>simp[e]
  .rw[aH e,aH (λq=>e q.1)]
|p::os,o,k=>by
  rw[bI,mL,ZQ os o k];by_cases e:o.key=k/\(CN o).isSome=true
  .rw[aK e,aK e];obtain⟨v,a⟩:=bF.1 e.2;rw[a]
  .rw[aH e,aH e];rfl
theorem RI:∀{os:List fm}{k:ByteArray},(mL os k).isSome=true->∃o∈os,o.key=k/\(o.kind=2\/o.kind=3)
|[],k,h=>by simp[mL]at h
|o::os,k,h=>by
  rw[mL]at h
  cases a:mL os k with
 |some v=>
   obtain⟨c,g,f⟩:=RI (os:=os) (k:=k) (by rw[a];rfl);exact⟨c,by simp[g],f⟩
 |none=>
   rw[a]at h;simp only at h;split at h
   .rename_i e;refine⟨o,by simp,e,?_⟩;unfold CN at h;split at h
    .rename_i q;exact .inl q
    .split at h
     .rename_i q;exact .inr q
     .simp at h
   .simp at h
theorem yIt{f:gh}{o:fm}{us:List (ByteArray×VD)}(h:jQ s o=some (f,us))(k:ByteArray):f k=(if o.key=k then CN o else none).getD (s k):=by
 unfold jQ at h;unfold CN;split at h
 .rename_i e;split at h
  .cases h
   have a:¬o.kind=2:=by omega
   have c:¬o.kind=3:=by omega
   simp[a,c]
  .cases h
 .split at h
  .rename_i e
   cases h
   unfold oS;by_cases q:k=o.key
   .rw[aK q,aK q.symm,aK e];rfl
   .rw[aH q,aH (λz=>q z.symm)];rfl
  .split at h
   .rename_i a e
    cases h
    unfold oS;by_cases q:k=o.key
    .rw[aK q,aK q.symm,aH a,aK e];rfl
    .rw[aH q,aH (λz=>q z.symm)];rfl
   .rename_i a c
    cases h
    simp[a,c]
theorem Ve:∀{os:List fm}{s a:gh}{us:List (ByteArray×VD)},iJ s os=some (a,us)->∀k,a k=(mL os k).getD (s k)
|[],s,a,us,h,k=>by simp[iJ]at h;rw[<-h.1];rfl
|o::os,s,a,us,h,k=>by
  rw[iJ]at h
  cases e:jQ s o with
 |none=>rw[e]at h;cases h
 |some r=>
   rw[e]at h;simp only at h
   cases c:iJ r.1 os with
  |none=>rw[c]at h;cases h
  |some t=>
    rw[c]at h;simp at h;obtain⟨rfl,_⟩:=h;have g:=yIt (us:=r.2) e k;have f:=Ve (us:=t.2) c k;rw[f,g,mL]
    cases mL os k with
   |some v=>rfl
   |none=>rfl
theorem yWq{s':gh}{o:fm}(h:s o.key=s' o.key):(jQ s o).isSome=(jQ s' o).isSome:=by
 unfold jQ;rw[h];split
 .split <;> rfl
 .split
  .rfl
  .split <;> rfl
theorem yFu:∀{os:List fm}{s s':gh},(∀o∈os,s o.key=s' o.key)->(iJ s os).isSome=true->(iJ s' os).isSome=true
|[],s,s',_,_=>rfl
|o::os,s,s',g,h=>by
  rw[iJ]at h⊢;have h0:=yWq (g o (by simp))
  cases c:jQ s o with
 |none=>rw[c]at h;simp at h
 |some r=>
   rw[c]at h h0;obtain⟨f,a⟩:=bF.1 (h0.symm.trans rfl);rw[a];simp only at h⊢;have q:(iJ r.1 os).isSome=true:=by
    cases u:iJ r.1 os with
   |none=>rw[u]at h;simp at h
   |some t=>rfl
   have:=yFu (s':=f.1) (λl e=>by rw[yIt (us:=r.2) c,yIt (us:=f.2) a,g l (by simp[e])]) q;obtain⟨t,ht⟩:=bF.1 this;rw[ht];rfl
theorem yNk{os:List fm}{o:fm}(h:(iJ s os).isSome=true)(a:o.kind=1->(mL os o.key).getD (s o.key)=BK o):(iJ s (os++[o])).isSome=true:=by
 obtain⟨t,ht⟩:=bF.1 h;rw[ZJ os s t.1 t.2 o ht,Option.isSome_map];unfold jQ;split
 .rename_i e;rw[Ve (us:=t.2) ht,a e,aK rfl];rfl
 .split
  .rfl
  .split <;> rfl
def mR(O:Nat->List fm):gh->List Nat->Option gh
|s,[]=>some s
|s,d::a=>match iJ s (O d)with
 |none=>none
 |some r=>mR O r.1 a
theorem ZD(O:Nat->List fm):∀(a:List Nat) (s:gh) (d:Nat),mR O s (a++[d])=(mR O s a).bind λv=>(iJ v (O d)).map (·.1)
|[],s,d=>by
  simp only[aa,mR,cK]
  cases iJ s (O d)with
 |none=>rfl
 |some r=>rfl
|x::a,s,d=>by
  simp only[bI,mR]
  cases iJ s (O x)with
 |none=>rfl
 |some r=>exact ZD O a r.1 d
theorem yJw{c:Nat->List fm}:∀(a:List Nat) (s:gh),(∀d∈a,c d=O d)->mR c s a=mR O s a
|[],s,_=>rfl
|d::a,s,h=>by
  simp only[mR];rw[h d (by simp)]
  cases iJ s (O d)with
 |none=>rfl
 |some r=>exact yJw a r.1 (λx e=>h x (by simp[e]))
def BJ(O:Nat->List fm)(a:List Nat)(k:ByteArray):Option Nat:=a.reverse.find? λd=>(mL (O d) k).isSome
theorem yMv(O:Nat->List fm)(a:List Nat)(d:Nat)(k:ByteArray):BJ O (a++[d]) k=if (mL (O d) k).isSome then some d else BJ O a k:=by
 unfold BJ;rw[List.reverse_append,List.reverse_singleton,List.singleton_append,cL];split <;> rename_i e <;> simp[e]
theorem yXx(O:Nat->List fm)(k:ByteArray)(s:gh)(a:List Nat):∀(V:gh),mR O s a.reverse=some V->V k=((BJ O a.reverse k).bind λd=>mL (O d) k).getD (s k):=by
 induction a with
|nil=>intro V h;simp only[mR,List.reverse_nil,ag]at h;rw[<-h];rfl
|cons d a l=>
  intro V h;rw[List.reverse_cons]at h⊢;obtain⟨ds,hds⟩:∃z,z=a.reverse:=⟨_,rfl⟩;rw[<-hds]at h l⊢;rw[ZD]at h
  cases f:mR O s ds with
 |none=>rw[f]at h;cases h
 |some U=>
   rw[f,cK]at h
   cases g:iJ U (O d)with
  |none=>rw[g]at h;cases h
  |some r=>
    rw[g,bJ]at h;have h:=bA h;rw[<-h,Ve (us:=r.2) g,yMv,l U f];split
    .rename_i e;obtain⟨v,c⟩:=bF.1 e;rw[c,cK,c];rfl
    .rename_i e
     cases q:mL (O d) k with
    |some v=>rw[q]at e;simp at e
    |none=>rfl
theorem Ks{a:List Nat}(h:mR O s a=some V)(k:ByteArray):V k=((BJ O a k).bind λd=>mL (O d) k).getD (s k):=by
 have:=yXx O k s a.reverse V;rw[List.reverse_reverse]at this;exact this h
def qt(k:fP)(x:Int)(w:Bool):Prop:=∃c∈k.held,c.I=x/\(w=true->c.mode=2)
theorem qt.over{a:List dw}(h:qt k x w)(e:Over k.held a){ws:List dw}:qt ⟨a,ws⟩ x w:=by
 obtain⟨c,f,v,r⟩:=h;obtain⟨b,g,u,l⟩:=e c f;exact⟨b,g,by omega,λq=>l (r q)⟩
theorem Yy:∀(q f a:List dw),kY f->kY (a++q)->(∀c∈f,c.mode=1\/c.mode=2)->(∀c∈a++q,c.mode=1\/c.mode=2)->(∀c∈a++q,∀o∈f,o.I=c.I->o.mode<c.mode)->Over f (ja f a q).1
|[],f,a,_,_,_,_,_=>Over.refl _
|c::q,f,a,l,z,C,y,v=>by
  have B:=y c (by simp);have u:∀x∈a++q,x.I≠c.I:=λx h=>by
   have A:=bg.1 z;rcases aM.1 h with m|m
   .have:=A.2.2 x m c (by simp);omega
   .have:=bY A.2.1 m;omega
  unfold ja;split
  .have g:(a++q).Sublist (a++c::q):=List.Sublist.append (List.Sublist.refl _) (List.sublist_cons_self _ _);refine Over.trans (Vt l B (λo r F G=>by have:=v c (by simp) o r F;omega)) (Yy q (jx f c) a (FX l c) (z.sublist g) (λx h=>?_) (λx h=>y x (g.subset h)) (λx h o r e=>?_))
   .rcases(mx l c x).1 h with q'|q'
    .rw[q'];exact B
    .exact C x q'.1
   .rcases(mx l c o).1 r with q'|q'
    .rw[q']at e;exact absurd e.symm (u x h)
    .exact v x (g.subset h) o q'.1 e
  .have e:a++[c]++q=a++c::q:=by simp
   exact Yy q f (a++[c]) l (by rw[e];exact z) C (by rw[e];exact y) (by rw[e];exact v)
theorem qt.rel{s:gU}{k:ByteArray}{t:Int}(l:nY (s k))(h:qt (s k) x w)(u:x≠t):qt (gg s t k) x w:=by
 unfold gg;split
 .obtain⟨c,g,B,z⟩:=h;have f:(lS (s k).held t).Sublist (s k).held:=ba;have a:(lS (s k).waits t).Sublist (s k).waits:=ba;obtain⟨b,v,A,y⟩:=Yy (lS (s k).waits t) (lS (s k).held t) [] (l.held.sublist f) (show kY ([]++lS (s k).waits t)from l.waits.sublist a) (λc g=>l.hmode c (f.subset g)) (λc g=>l.rH c (a.subset (by simpa using g))) (λc g o r e=>l.wants c (a.subset (by simpa using g)) o (f.subset r) e) c (pD.2 ⟨g,by omega⟩);exact⟨b,v,by omega,λq=>y (z q)⟩
 .exact h
theorem qt.lock{c:dw}(a:nY k)(g:c.mode=1\/c.mode=2)(h:qt k x w):qt (iz k c).1 x w:=by
 unfold iz;split
 .exact h
 .split
  .exact h
  .rename_i r q;split
   .exact h.over (Vt a.held g (λo f e l=>by
     have:=IE a.held f;rw[e]at this;omega))
   .split
    .exact h
    .exact h.over (Over.refl _)
theorem qt.alone{W:List Int}(h:ri W k){y:Int}(e:qt k x true)(a:qt k y w):x=y:=by
 obtain⟨c,g,r,l⟩:=e;obtain⟨d,f,q,_⟩:=a;have:=h.alone c g d f;unfold lI at this;rw[l rfl]at this;simp at this;omega
theorem qt.Fw(h:nY k){m:Int}(l:m=1\/m=2)(g:¬jD k.held x<m):qt k x (decide (m=2)):=by
 have h0:jD k.held x≠0:=by omega
 have:∃c∈k.held,c.I=x:=aS λq=>h0 ((IS h.held h.h0).2 λc a e=>q ⟨c,a,e⟩);obtain⟨c,a,e⟩:=this;have f:=IE h.held a;rw[e]at f;exact⟨c,a,e,λq=>by
  have u:=h.hmode c a;have r:m=2:=of_decide_eq_true q;omega⟩
theorem qt.less{w':Bool}(h:qt k x w)(a:w'=true->w=true):qt k x w':=by
 obtain⟨c,e,g,f⟩:=h;exact⟨c,e,g,λq=>f (a q)⟩
def qN(p:gB):VD:=if p.gone then AB else⟨p.val,true⟩
def oR(ws:List gB)(k:ByteArray):Option VD:=(ws.find? λp=>decide (p.key=k)).map qN
def km(s:dp)(id:Nat):Prop:=1<=id/\id<=s.U.length/\((s.I id).state=1\/(s.I id).state=2)
def RY(D:List Nat)(a b:Nat):Prop:=b∈D->∃p q:Nat,p<q/\D[p]?=some a/\D[q]?=some b
structure fH(E:Nat->Prop)(O:Nat->List fm)(D:List Nat)(V:gh)(s:dp):Prop where
 nd:D.Nodup
 dm:∀id,id∈D↔1<=id/\id<=s.U.length/\(s.I id).state=3
 run:mR O jv D=some V
 out:∀id,¬(1<=id/\id<=s.U.length)->O id=[]
 kd:∀id,∀o∈O id,(o.kind=1\/o.kind=2\/o.kind=3)/\o.key.size<=20
 opn:∀id,km s id->(iJ V (O id)).isSome=true
 zH:∀id,km s id->∀o∈O id,qt (s.keys o.key) id (decide (o.kind≠1))
 ats:∀id,1<=id->id<=s.U.length->(s.I id).state≠4->∀o∈O id,(s.I id).ats.getD (fL s o.key) 0≠0
 wL:∀id,km s id->((s.I id).writes.map (·.key)).Nodup
 wK:∀id,km s id->∀k,oR (s.I id).writes k=mL (O id) k
 AS:∀K,K<dz s->∀c∈(eU s K).M,c.kind=2->(s.I c.I.toNat).state≠4->(c.writes.map (·.key)).Nodup/\∀k,fL s k=K->oR c.writes k=mL (O c.I.toNat) k
 hd1:∀id,km s id->¬E id->∀o∈O id,∀a∈D,(mL (O a) o.key).isSome=true->om (eU s (fL s o.key)).M 3 a
 hd2:∀K,K<dz s->∀(i:Nat) c,(eU s K).M[i]?=some c->c.kind=2->(s.I c.I.toNat).state≠4->∀o∈O c.I.toNat,fL s o.key=K->∀a∈D,(mL (O a) o.key).isSome=true->RY D a c.I.toNat->∃(j:Nat) (d:eH),j<i/\(eU s K).M[j]?=some d/\d.kind=3/\d.I=(a:Int)
def fO(Q:List Nat->Prop)(O:Nat->List fm)(s:dp):Prop:=(∀D d,Q D->d∉D->Q (D++[d]))/\∃D V,fH (λ_=>False) O D V s/\Q D
theorem fH.same{s:dp}(h:fH E O D V s)(ht:s'.U=s.U)(B:s'.keys=s.keys)(Q:s'.lines.length=s.lines.length)(A:∀K,K<dz s->(eU s' K).M=(eU s K).M)(R:2<=s.lines.length):fH E O D V s':=by
 have e:∀i,s'.I i=s.I i:=λi=>by unfold dp.I;rw[ht]
 have F:dz s'=dz s:=by unfold dz;rw[Q]
 have y:∀k,fL s' k=fL s k:=λk=>by unfold fL;rw[F]
 have v:∀{i},km s' i->km s i:=λ{i} q=>by unfold km at q⊢;rw[ht,e]at q;exact q
 have z:∀k,fL s k<dz s:=λk=>FW R k;exact⟨h.nd,λid=>by rw[ht,e];exact h.dm id,h.run,by rw[ht];exact h.out,h.kd,λid q=>h.opn id (v q),λid q=>by rw[B];exact h.zH id (v q),λid r f l o u=>by rw[e,y];rw[ht]at f;rw[e]at l;exact h.ats id r f l o u,
  λid q=>by rw[e];exact h.wL id (v q),λid q=>by rw[e];exact h.wK id (v q),λK g c H r f=>by
   rw[F]at g;rw[A K g]at H;rw[e]at f;obtain⟨L,J⟩:=h.AS K g c H r f;exact⟨L,λk B=>J k (by rw[<-y];exact B)⟩,
  λid q hE o u a C f=>by rw[y,A _ (z _)];exact h.hd1 id (v q) hE o u a C f,λK g i c G r f o u l a C P N=>by
   rw[F]at g;rw[A K g]at G⊢;rw[e]at f;rw[y]at l;exact h.hd2 K g i c G r f o u l a C P N⟩
theorem fH.gone{s:dp}(h:fH E O D V s)(hH:jh X s)(h1:1<=id)(h2:id<=s.U.length)(H:(s.I id).state≠3)(R:s'.lines=s.lines)(g:s'.U.length=s.U.length)(J:s'.keys=gg s.keys id)(A:∀j,1<=j->j≠id->s'.I j=s.I j)(W:(s'.I id).state=4)(hE:∀j,j≠id->¬E' j->¬E j):fH E' O D V s':=by
 have Q:dz s'=dz s:=by unfold dz;rw[R]
 have G:∀k,fL s' k=fL s k:=λk=>by unfold fL;rw[Q]
 have P:∀K,eU s' K=eU s K:=ER R;have C:∀{i},km s' i->i≠id/\km s i/\s'.I i=s.I i:=λ{i} q=>by
  have B:i≠id:=λf=>by rw[f]at q;have:=q.2.2;omega
  have e:=A i q.1 B;refine⟨B,?_,e⟩;unfold km at q⊢;rw[g,e]at q;exact q
 have h0:s'.I 0=s'.I 1:=rfl;have N:s.I 0=s.I 1:=rfl;have M:∀j,(s'.I j).state≠4->s'.I j=s.I j:=λj q=>by
  by_cases Y:j=0
  .rw[Y,h0]at q;rw[Y,h0,N];exact A 1 (by omega) (λf=>by rw[f]at q;exact q W)
  .exact A j (by omega) (λf=>by rw[f]at q;exact q W)
 refine⟨h.nd,λi=>?_,h.run,by rw[g];exact h.out,h.kd,λi q=>h.opn i (C q).2.1,λi q o r=>?_,λi z f v o r=>?_,λi q=>?_,λi q=>?_,λK F c T z f=>?_,λi q Z o r a L f=>?_,λK F i c S z f o r v a L q4 q5=>?_⟩
 .rw[h.dm i,g];by_cases e:i=id
  .subst e;constructor
   .intro q;exact absurd q.2.2 H
   .intro q;have:=q.2.2;omega
  .constructor
   .intro q;exact⟨q.1,q.2.1,by rw[A i q.1 e];exact q.2.2⟩
   .intro q;exact⟨q.1,q.2.1,by rw[<-A i q.1 e];exact q.2.2⟩
 .obtain⟨u,l,y⟩:=C q;rw[J];exact(h.zH i l o r).rel (hH.apart _).ok (by omega)
 .have e:=M i v;rw[e]at v⊢;rw[G];rw[g]at f;exact h.ats i z f v o r
 .obtain⟨u,l,y⟩:=C q;rw[y];exact h.wL i l
 .obtain⟨u,l,y⟩:=C q;rw[y];exact h.wK i l
 .rw[Q]at F;rw[P]at T;rw[M _ f]at f;obtain⟨u,l⟩:=h.AS K F c T z f;exact⟨u,λk J=>l k (by rw[<-G];exact J)⟩
 .obtain⟨u,l,y⟩:=C q;rw[G,P];exact h.hd1 i l (hE i u Z) o r a L f
 .rw[Q]at F;rw[P]at S⊢;rw[M _ f]at f;rw[G]at v;exact h.hd2 K F i c S z f o r v a L q4 q5
theorem yJd(s:dp)(a:1<=id)(c:id<=s.U.length):((gk s id).I id).state=4:=by
 unfold gk pA;split
 .show((du (du s id _) id _).I id).state=4;rw[pO _ id _ a a (by simp[du];omega),aK rfl]
 .show((du s id _).I id).state=4;rw[pO _ id _ a a c,aK rfl]
theorem zXf(s:dp)(id:Nat):(gk s id).lines=s.lines:=by
 unfold gk pA;split <;> rfl
theorem fH.abort{s:dp}(h:fH E O D V s)(g:jh X s)(e:1<=id)(c:id<=s.U.length)(a:(s.I id).state≠3)(hE:∀j,j≠id->¬E' j->¬E j):fH E' O D V (gk s id):=
 h.gone g e c a (zXf s id) (IV s id) (WA s id) (λj l f=>EZ s (by omega)) (yJd s e c) hE
section
variable {E:Nat->Prop}{O:Nat->List fm}{D:List Nat}{V:gh}{s s':dp}
theorem fH.tx1(h:fH E O D V s)(W:1<=id)(T:id<=s.U.length){t:jz}(P:t.writes=(s.I id).writes)(v:∀k,(s.I id).ats.getD k 0≠0->t.ats.getD k 0≠0)(Q:t.state=(s.I id).state\/((s.I id).state=1/\t.state=2)):fH E O D V (du s id t):=by
 have f:(du s id t).U.length=s.U.length:=by simp[du]
 have Y:∀k,fL (du s id t) k=fL s k:=λk=>rfl;have F:∀K,eU (du s id t) K=eU s K:=ER rfl;have r:∀j,1<=j->(du s id t).I j=if j=id then t else s.I j:=λj R=>pO s id t R W T
 have S:∀j,((du s id t).I j).state=3↔(s.I j).state=3:=λj=>by
  by_cases G:j=0
  .subst G;have l:(du s id t).I 0=(du s id t).I 1:=rfl;have g:s.I 0=s.I 1:=rfl;rw[l,g,r 1 (by omega)];split
   .rename_i e;rw[e];omega
   .exact Iff.rfl
  .rw[r j (by omega)];split
   .rename_i e;rw[e];omega
   .exact Iff.rfl
 have C:∀j,((du s id t).I j).state≠4->(s.I j).state≠4:=λj=>by
  by_cases G:j=0
  .subst G;have l:(du s id t).I 0=(du s id t).I 1:=rfl;have g:s.I 0=s.I 1:=rfl;rw[l,g,r 1 (by omega)];split
   .rename_i e;rw[e];omega
   .exact λq=>q
  .rw[r j (by omega)];split
   .rename_i e;rw[e];omega
   .exact λq=>q
 have y:∀{i},km (du s id t) i->km s i:=λ{i} q=>by
  refine⟨q.1,by rw[<-f];exact q.2.1,?_⟩;have:=q.2.2;rw[r i q.1]at this;split at this
  .rename_i e;rw[e];omega
  .exact this
 have J:∀i,1<=i->((du s id t).I i).writes=(s.I i).writes:=λi z=>by
  rw[r i z];split
  .rename_i e;rw[e];exact P
  .rfl
 refine⟨h.nd,λi=>by rw[h.dm i,f,S],h.run,by rw[f];exact h.out,h.kd,λi q=>h.opn i (y q),λi q=>h.zH i (y q),λi l g A o u=>?_,λi q=>by rw[J i q.1];exact h.wL i (y q),λi q=>by rw[J i q.1];exact h.wK i (y q),λK B c H l g=>?_,λi q L o u a v g=>?_,λK B i c z l g o u A a v N M=>?_⟩
 .have:=h.ats i l (by rw[<-f];exact g) (C i A) o u;rw[r i l];split
  .rename_i e;rw[e]at this;exact v _ this
  .exact this
 .rw[F]at H;exact h.AS K B c H l (C _ g)
 .rw[F];exact h.hd1 i (y q) L o u a v g
 .rw[F]at z⊢;exact h.hd2 K B i c z l (C _ g) o u A a v N M
theorem fH.keys(h:fH E O D V s){keys:gU}(c:∀k x w,qt (s.keys k) x w->qt (keys k) x w):fH E O D V {s with keys:=keys}:=
 ⟨h.nd,h.dm,h.run,h.out,h.kd,h.opn,λid q o a=>c _ _ _ (h.zH id q o a),h.ats,h.wL,h.wK,h.AS,h.hd1,h.hd2⟩
theorem fH.locked(h:fH E O D V s)(c:jh X s)(id:Int)(key:ByteArray){mode:Int}(a:mode=1\/mode=2):fH E O D V (iL s id key mode).1:=by
 refine h.keys (λk x w q=>?_);by_cases e:k=key
 .subst e;rw[wI];exact q.lock (c.apart k).ok a
 .rw[AI e];exact q
theorem fH.begin(h:fH E O D V s)(h2:2<=s.lines.length):fH E O D V (mB s):=by
 have z:=EV s;have N:∀K,eU (mB s) K=eU s K:=ER rfl;have P:∀i,i<=s.U.length->O i≠[]->1<=i/\(mB s).I i=s.I i:=λi F B=>by
  have Q:1<=i:=Nat.pos_of_ne_zero λe=>B (h.out i (by omega));exact⟨Q,wH s Q F⟩
 have l:O (s.U.length+1)=[]:=h.out _ (by omega);have J:∀i,(O i≠[])->1<=i/\i<=s.U.length:=λi B=>aS λq=>B (h.out i q);have C:∀{i},km (mB s) i->km s i\/i=s.U.length+1:=λ{i} q=>by
  have f:=q.2.1;rw[z]at f;by_cases e:i=s.U.length+1
  .exact .inr e
  .refine .inl ⟨q.1,by omega,?_⟩;have:=q.2.2;rw[wH s q.1 (by omega)]at this;exact this
 have B:∀{i:Nat} {o:fm},o∈O i->1<=i/\i<=s.U.length:=λ{i o} g=>J i (λe=>by rw[e]at g;cases g);refine⟨h.nd,λi=>?_,h.run,λi q=>h.out i (λf=>q ⟨f.1,by rw[z];omega⟩),h.kd,λi q=>?_,λi q o g=>?_,λi v f r o g=>?_,λi q=>?_,λi q=>?_,λK H c L v f=>?_,λi q T o g a M f=>?_,λK H i c F v f o g r a M q4 Z=>?_⟩
 .rw[h.dm i,z];constructor
  .rintro⟨v,f,r⟩;exact⟨v,by omega,by rw[wH s v f];exact r⟩
  .rintro⟨v,f,r⟩;by_cases e:i=s.U.length+1
   .rw[e,OB]at r;simp at r
   .rw[wH s v (by omega)]at r;exact⟨v,by omega,r⟩
 .rcases C q with q|q
  .exact h.opn i q
  .rw[q,l];rfl
 .rcases C q with q|q
  .exact h.zH i q o g
  .rw[q,l]at g;cases g
 .have:=B g;rw[wH s this.1 this.2]at r⊢;exact h.ats i this.1 this.2 r o g
 .rcases C q with y|y
  .rw[wH s y.1 y.2.1];exact h.wL i y
  .rw[y,OB];simp
 .rcases C q with y|y
  .rw[wH s y.1 y.2.1];exact h.wK i y
  .intro k;rw[y,OB,l];rfl
 .rw[N]at L;by_cases e:1<=c.I.toNat/\c.I.toNat<=s.U.length
  .rw[wH s e.1 e.2]at f;exact h.AS K H c L v f
  .by_cases R:(s.I c.I.toNat).state≠4
   .exact h.AS K H c L v R
   .exfalso;have A:(s.I c.I.toNat).state=4:=aS R;unfold dp.I at A;rw[aI]at A
    cases G:s.U[c.I.toNat-1]? with
   |none=>rw[G]at A;simp at A
   |some u=>
     have hl2:=(aB.1 G).1;have S:c.I.toNat=0:=by omega
     apply f;rw[S];have Y:(mB s).I 0=(mB s).I 1:=rfl;have W:s.I 0=s.I 1:=rfl;rw[Y,wH s (by omega) (by omega),<-W];unfold dp.I;rw[aI];rw[S]at G A;rw[G]at A⊢;exact A
 .rcases C q with q|q
  .rw[N];exact h.hd1 i q T o g a M f
  .rw[q,l]at g;cases g
 .rw[N]at F⊢;have:=B g;rw[wH s this.1 this.2]at f;exact h.hd2 K H i c F v f o g r a M q4 Z
end
theorem yIz{a:Nat}(g:d∉D)(v:a∈D)(h:RY (D++[d]) a b):RY D a b:=λe=>by
 obtain⟨p,q,l,f,c⟩:=h (bW _ e);have r:q<D.length:=by
  apply aS;intro u;rw[aL (by omega)]at c;have:=aC c;simp at this;rw[this]at e;exact g e
 rw[aG (by omega)]at f;rw[aG r]at c;exact⟨p,q,l,f,c⟩
theorem yJa(f:d∉D)(e:(D++[d]).Nodup)(g:b∈D++[d])(h:RY (D++[d]) d b):False:=by
 obtain⟨p,q,r,a,c⟩:=h g;have l:=(aB.1 c).1;simp at l;have:p<D.length:=by omega
 rw[aG this]at a;exact f (aC a)
section
variable {E:Nat->Prop}{O:Nat->List fm}{D:List Nat}{V:gh}{s s':dp}
theorem fH.apart(h:fH E O D V s)(y:jh X s)(u:km s d)(r:km s i)(l:i≠d){o:fm}(g:o∈O i):mL (O d) o.key=none:=by
 cases q:mL (O d) o.key with
|none=>rfl
|some v=>
  exfalso;obtain⟨e,a,z,A⟩:=RI (os:=O d) (k:=o.key) (by rw[q];rfl);have c:=h.zH d u e a;have f:=h.zH i r o g;rw[z,show decide (e.kind≠1)=true by simp;omega]at c;have:=qt.alone (y.apart o.key) c f;omega
theorem fH.Dc(h:fH E O D V s)(hS:Safe s)(hH:jh X s)(M:km s d)(hl:s'.lines=s.lines)(l:s'.U.length=s.U.length)(Z:s'.keys=gg s.keys d)(N:∀j,1<=j->j≠d->s'.I j=s.I j)(h3:(s'.I d).state=3)(hat:(s'.I d).ats=(s.I d).ats):∃V',fH E O (D++[d]) V' s':=by
 have G:d∉D:=λq=>by have:=((h.dm d).1 q).2.2;have:=M.2.2;omega
 obtain⟨r,hr⟩:=bF.1 (h.opn d M);have hV:∀k,r.1 k=(mL (O d) k).getD (V k):=λk=>Ve (us:=r.2) hr k;have H:∀{i:Nat},km s i->i≠d->∀o∈O i,mL (O d) o.key=none:=λ{i} R v o g=>h.apart hH M R v g;have ed:dz s'=dz s:=by unfold dz;rw[hl]
 have S:∀k,fL s' k=fL s k:=λk=>by unfold fL;rw[ed]
 have en:∀K,eU s' K=eU s K:=ER hl;have P:∀{i},km s' i->i≠d/\km s i/\s'.I i=s.I i:=λ{i} q=>by
  have v:i≠d:=λf=>by rw[f]at q;have:=q.2.2;omega
  have e:=N i q.1 v;refine⟨v,?_,e⟩;unfold km at q⊢;rw[l,e]at q;exact q
 have W:∀j,1<=j->(s'.I j).state≠4->(s.I j).state≠4:=λj hj q=>by
  by_cases e:j=d
  .rw[e];have:=M.2.2;omega
  .rw[<-N j hj e];exact q
 have Tz:∀{i:Nat} {o:fm},o∈O i->1<=i/\i<=s.U.length:=λ{i o} g=>aS λq=>by rw[h.out i q]at g;cases g
 have C:(D++[d]).Nodup:=by
  rw[br];exact⟨h.nd,by simp,λa A b hb=>by simp at hb;rw[hb];exact λe=>G (e ▸ A)⟩
 refine⟨r.1,C,λi=>?_,?_,by rw[l];exact h.out,h.kd,λi q=>?_,λi q o g=>?_,λi z f L o g=>?_,λi q=>?_,λi q=>?_,λK Q c hc z f=>?_,λi q zT o g a A f=>?_,λK Q i c R z f o g L a A Y q5=>?_⟩
 .rw[aM,bU,h.dm i,l];by_cases e:i=d
  .subst e;exact⟨λ_=>⟨M.1,M.2.1,h3⟩,λ_=>.inr rfl⟩
  .constructor
   .rintro(q|q)
    .exact⟨q.1,q.2.1,by rw[N i q.1 e];exact q.2.2⟩
    .exact absurd q e
   .rintro⟨z,f,L⟩;exact .inl ⟨z,f,by rw[<-N i z e];exact L⟩
 .rw[ZD,h.run,cK,hr];rfl
 .obtain⟨B,u,J⟩:=P q;exact yFu (λo g=>by rw[hV,H u B o g];rfl) (h.opn i u)
 .obtain⟨B,u,J⟩:=P q;rw[Z];exact(h.zH i u o g).rel (hH.apart _).ok (by omega)
 .rw[l]at f;have:=h.ats i z f (W i z L) o g;rw[S];by_cases e:i=d
  .rw[e,hat,<-e];exact this
  .rw[N i z e];exact this
 .obtain⟨B,u,J⟩:=P q;rw[J];exact h.wL i u
 .obtain⟨B,u,J⟩:=P q;rw[J];exact h.wK i u
 .rw[ed]at Q;rw[en]at hc;have h4:(s.I c.I.toNat).state≠4:=by
   by_cases e0:c.I.toNat=0
   .rw[e0]at f⊢;have r1:s'.I 0=s'.I 1:=rfl;have r2:s.I 0=s.I 1:=rfl;rw[r1]at f;rw[r2];exact W 1 (by omega) f
   .exact W _ (by omega) f
  obtain⟨B,u⟩:=h.AS K Q c hc z h4;exact⟨B,λk Z=>u k (by rw[<-S];exact Z)⟩
 .obtain⟨B,u,J⟩:=P q;rw[S,en];rcases aM.1 A with A|A
  .exact h.hd1 i u zT o g a A f
  .simp at A;rw[A,H u B o g]at f
   cases f
 .rw[ed]at Q;rw[en]at R⊢;rw[S]at L;have F:=Tz g;have h4:=W _ F.1 f;rcases aM.1 A with y|y
  .exact h.hd2 K Q i c R z h4 o g L a y Y (yIz G y q5)
  .simp at y;subst y;exfalso;by_cases T:c.I.toNat∈D++[a]
   .exact yJa G C T q5
   .have po:km s c.I.toNat:=by
     refine⟨F.1,F.2,?_⟩;have v:c.I.toNat≠a:=λe=>T (by rw[e];simp);have hno3:(s.I c.I.toNat).state≠3:=λe=>T (bW _ ((h.dm _).2 ⟨F.1,F.2,e⟩));have:=(hS.I _ F.1 F.2).st;omega
    rw[H po (λe=>T (by rw[e];simp)) o g]at Y
    cases Y
end
theorem yGy{ws:List gB}{f:gB->Bool}{k:ByteArray}(h:∀p∈ws,p.key=k->f p=true):oR (ws.filter f) k=oR ws k:=by
 unfold oR;rw[List.find?_filter];congr 1
 induction ws with
|nil=>rfl
|cons p ws a=>
  rw[cL,cL];have a:=a (λq c e=>h q (by simp[c]) e);by_cases e:p.key=k
  .have:=h p (by simp) e;simp[e,this]
  .simp only[e,decide_false];simpa using a
theorem yVy{l:List eH}{a:Int}(h:om l a id)(r:List eH):om (l++r) a id:=Qj h (λc e=>bW _ e)
section
variable {E:Nat->Prop}{O:Nat->List fm}{D:List Nat}{V:gh}{s s':dp}
theorem fH.grow(h:fH E O D V s)(ht:s'.U=s.U)(G:s'.keys=s.keys)(hl:s'.lines.length=s.lines.length)(h2:2<=s.lines.length){K:Nat}{c:eH}(hn:∀i,i<dz s->i≠K->(eU s' i).M=(eU s i).M)(hK:K<dz s->(eU s' K).M=(eU s K).M++[c])
  (hc:K<dz s->c.kind=2->(s.I c.I.toNat).state≠4->km s c.I.toNat/\¬E c.I.toNat/\c.writes=vn s (s.I c.I.toNat) K):fH E O D V s':=by
 have e:∀i,s'.I i=s.I i:=λi=>by unfold dp.I;rw[ht]
 have T:dz s'=dz s:=by unfold dz;rw[hl]
 have L:∀k,fL s' k=fL s k:=λk=>by unfold fL;rw[T]
 have J:∀{i},km s' i->km s i:=λ{i} q=>by unfold km at q⊢;rw[ht,e]at q;exact q
 have R:∀k,fL s k<dz s:=λk=>FW h2 k;have Q:∀i,i<dz s->(eU s' i).M=(eU s i).M\/(i=K/\(eU s' i).M=(eU s i).M++[c]):=λi r=>by
  by_cases q:i=K
  .exact .inr ⟨q,by rw[q];exact hK (by omega)⟩
  .exact .inl (hn i r q)
 refine⟨h.nd,λid=>by rw[ht,e];exact h.dm id,h.run,by rw[ht];exact h.out,h.kd,λid q=>h.opn id (J q),λid q=>by rw[G];exact h.zH id (J q),λid v f A o C=>by rw[e,L];rw[ht]at f;rw[e]at A;exact h.ats id v f A o C,
  λid q=>by rw[e];exact h.wL id (J q),λid q=>by rw[e];exact h.wK id (J q),λi r d g v f=>?_,λid q hE o C a P f=>?_,λi r j d l v f o C A a P Y q5=>?_⟩
 .rw[T]at r;rw[e]at f;have old:d∈(eU s i).M->(d.writes.map (·.key)).Nodup/\∀k,fL s' k=i->oR d.writes k=mL (O d.I.toNat) k:=λg=>by
   obtain⟨u,z⟩:=h.AS i r d g v f;exact⟨u,λk G=>z k (by rw[<-L];exact G)⟩
  rcases Q i r with q|⟨q,F⟩
  .rw[q]at g;exact old g
  .rw[F]at g;rcases aM.1 g with g|g
   .exact old g
   .simp at g;subst g;obtain⟨u,z,N⟩:=hc (by omega) v f;rw[N];refine⟨?_,λk G=>?_⟩
    .have:=h.wL _ u;exact this.sublist ((ba).map _)
    .rw[L]at G;unfold vn;rw[yGy (λp hp ep=>by simp[ep];omega),h.wK _ u]
 .rw[L];have:=h.hd1 id (J q) hE o C a P f;rcases Q _ (R o.key)with q|⟨q,F⟩
  .rw[q];exact this
  .rw[F];exact yVy this _
 .rw[T]at r;rw[e]at f;rw[L]at A;have old:(eU s i).M[j]?=some d->∃(B:Nat) (y:eH),B<j/\(eU s i).M[B]?=some y/\y.kind=3/\y.I=(a:Int):=λl=>h.hd2 i r j d l v f o C A a P Y q5;rcases Q i r with q|⟨q,F⟩
  .rw[q]at l⊢;exact old l
  .rw[F]at l⊢;by_cases S:j<(eU s i).M.length
   .rw[aG S]at l;obtain⟨B,y,u,z,N⟩:=old l;exact⟨B,y,u,by rw[aG (by omega)];exact z,N⟩
   .rw[aL (by omega)]at l;have Z:=aC l;simp at Z;subst Z;obtain⟨u,z,N⟩:=hc (by omega) v f;obtain⟨y,W,y2,y3⟩:=h.hd1 _ u z o C a P Y;rw[A]at W;obtain⟨B,H⟩:=aP W;have:=(aB.1 H).1;exact⟨B,y,by omega,by rw[aG this];exact H,y2,y3⟩
end
end Go.Proofs.YtmaiggbnceejiaaGreatDoor
namespace Go.Proofs.YtmaiggbnceejiaaGreatDoor
variable {ws:List gB}{k id:Nat}{X:List Int}{mode time:Int}{s:dp}{c:eH}
theorem yFn{α β:Type}(f:α->List β)(p:β->Bool):∀(l:List α),(l.flatMap f).find? p=(l.find? λa=>((f a).find? p).isSome).bind λa=>(f a).find? p
|[]=>rfl
|a::l=>by
  rw[bN,List.find?_append,cL,yFn f p l]
  cases h:(f a).find? p with
 |none=>simp
 |some b=>simp[h]
theorem yWh(h:(ws.map (·.key)).Nodup)(k:ByteArray):ws.reverse.find? (λp=>decide (p.key=k))=ws.find? λp=>decide (p.key=k):=by
 have b:∀{l:List gB} {p:gB},(l.map (·.key)).Nodup->p∈l->p.key=k->(l.find? λp=>decide (p.key=k))=some p:=by
  intro l
  induction l with
 |nil=>intro p _ hp;cases hp
 |cons q l f=>
   intro p d hp e;rw[cL];simp only[bZ,List.nodup_cons]at d;rcases bB.1 hp with rfl|hp
   .simp[e]
   .have:q.key≠k:=λg=>d.1 (by rw[g,<-e];exact List.mem_map_of_mem hp);simp only[this,decide_false];exact f d.2 hp e
 cases a:ws.find? λp=>decide (p.key=k)with
|none=>
  rw[dD]at a⊢;exact λp hp=>a p (by simpa using hp)
|some p=>
  have hp:=dR a;have e:p.key=k:=by simpa using List.find?_some a
  exact b (by rw[dI];unfold List.Nodup at h⊢;rw[List.pairwise_reverse];exact h.imp (λq=>Ne.symm q)) (by simpa using hp) e
theorem yJn(h:(ws.map (·.key)).Nodup)(k:ByteArray):(ws.reverse.find? λp=>decide (p.key=k)).map qN=oR ws k:=by
 rw[yWh h];rfl
section
variable {E:Nat->Prop}{O:Nat->List fm}{D:List Nat}{V:gh}{s:dp}
theorem fH.view(h:fH E O D V s)(hS:Safe s){k:ByteArray}(hT:Told s (fL s k)):((qj (eU s (fL s k)).M).find? λp=>decide (p.key=k)).map qN=(BJ O D k).bind λd=>mL (O d) k:=by
 have hd2:=hS.ll.1;have hK:fL s k<dz s:=FW hd2 k;have PU:fL s k<s.lines.length:=by have:=hS.dec_lt;omega
 obtain⟨K,Je⟩:∃K,K=fL s k:=⟨_,rfl⟩;rw[<-Je]at hT hK PU⊢;have e:=hS.M K PU;obtain⟨b,iS⟩:∃b,b=(eU s K).M:=⟨_,rfl⟩;rw[<-iS]at e⊢
 -- commits,and what they wrote
 have hcm:∀c∈b,c.kind=3->1<=c.I/\c.I.toNat∈D:=λc A h3=>by
  have q:=e.all c A;have S:=q.jl (by omega);refine⟨q.lo,(h.dm _).2 ⟨by have:=q.lo;omega,by have:=q.hi;omega,?_⟩⟩;obtain S|S|S:=S
  .omega
  .exact S.2.1
  .omega
 have Z:∀c∈b,c.kind=3->(((b.getD ((mC b 2 c.I).getD 0) tC).writes).reverse.find? λp=>decide (p.key=k)).map qN=mL (O c.I.toNat) k:=λc A h3=>by
  obtain⟨i,hi⟩:=aP A;obtain⟨j,p,Be,hj,p1,p2⟩:=e.tG (by omega) i c hi h3;have F:∃n,mC b 2 c.I=some n:=by
   cases hp:mC b 2 c.I with
  |some n=>exact⟨n,rfl⟩
  |none=>exact absurd ⟨p1,p2⟩ (WI.1 hp p (aC hj))
  obtain⟨n,hn⟩:=F;rw[hn,dS];unfold mC at hn;obtain⟨hnl,Bd,GN⟩:=cF.1 hn;simp only[bX,aw]at Bd;have hget:b.getD n tC=b[n]:=by rw[aI,aA hnl];rfl
  rw[hget];have m:b[n]∈(eU s K).M:=by rw[<-iS];exact dJ hnl
  have hst:(s.I (b[n]).I.toNat).state≠4:=by
   rw[Bd.2];have:=((h.dm _).1 (hcm c A h3).2).2.2;omega
  obtain⟨z1,z2⟩:=h.AS K hK _ m Bd.1 hst;rw[yJn z1,z2 k Je.symm,Bd.2]
 unfold qj;rw[yFn,Option.map_bind]
 -- the last Dc that wrote the key
 have r:∀c∈b.reverse.filter (λc=>decide (c.kind=3)),((((b.getD ((mC b 2 c.I).getD 0) tC).writes).reverse.find? λp=>decide (p.key=k)).isSome)=(mL (O c.I.toNat) k).isSome:=λc A=>by
  rw[au]at A;rw[<-Z c (by simpa using A.1) (by simpa using A.2),Option.isSome_map]
 cases hf:(b.reverse.filter (λc=>decide (c.kind=3))).find? (λc=>(((b.getD ((mC b 2 c.I).getD 0) tC).writes).reverse.find? λp=>decide (p.key=k)).isSome)with
|none=>
  rw[dD]at hf
  cases f:BJ O D k with
 |none=>rfl
 |some a=>
   exfalso;unfold BJ at f;have ha:a∈D:=by simpa using dR f
   have R:=List.find?_some f;obtain⟨o,ho,P,_⟩:=RI R;obtain⟨a1,a2,a3⟩:=(h.dm a).1 ha;have t:=h.ats a a1 a2 (by omega) o ho;rw[P,<-Je]at t;have oc:gF s a K 1=some ⟨3,a,(s.I a).time,[]⟩:=by
    unfold gF;simp only;rw[aH (by omega),aH t,aH (by omega),aK a3]
   obtain⟨c,c1,c2,c3⟩:=hT a a1 a2 1 _ oc;rw[<-iS]at c1;have Af:c∈b.reverse.filter (λc=>decide (c.kind=3)):=au.2 ⟨by simpa using c1,by simpa using c2⟩;have:=hf c Af;rw[r c Af,c3]at this;simp at this;rw[this]at R
   cases R
|some c=>
  rw[cK];have Tj:=dR hf;have XX:=List.find?_some hf;rw[r c Tj]at XX;have hcl:=au.1 Tj;have hc3:c.kind=3:=by simpa using hcl.2
  have J:c∈b:=by simpa using hcl.1
  show Option.map qN _=_;rw[Z c J hc3];obtain⟨t1,t2⟩:=hcm c J hc3
  -- it is the last one of the order
  have H:BJ O D k=some c.I.toNat:=by
   cases f:BJ O D k with
  |none=>
    unfold BJ at f;rw[dD]at f;exact absurd XX (f _ (by simpa using t2))
  |some a=>
    have hw0:=f;unfold BJ at f;have ha:a∈D:=by simpa using dR f
    have R:=List.find?_some f;congr 1;apply aS;intro hne;obtain⟨o,ho,P,_⟩:=RI R;obtain⟨a1,a2,a3⟩:=(h.dm a).1 ha;have t:=h.ats a a1 a2 (by omega) o ho;rw[P,<-Je]at t;have oc:gF s a K 1=some ⟨3,a,(s.I a).time,[]⟩:=by
     unfold gF;simp only;rw[aH (by omega),aH t,aH (by omega),aK a3]
    obtain⟨w,N,L,ca3⟩:=hT a a1 a2 1 _ oc;rw[<-iS]at N;simp only at L;obtain⟨ia,XS⟩:=aP N;obtain⟨jp,p,hjp,hp,p1,p2⟩:=e.tG (by omega) ia w XS L;have Li:p.I.toNat=a:=by rw[p2,ca3];simp
    -- c is ahead of a in D
    have hbef:RY D c.I.toNat a:=λ_=>by
     obtain⟨x,g⟩:=aP t2;obtain⟨y,C⟩:=aP ha;rcases cG x y with q|q|q
     .exact⟨x,y,q,g,C⟩
     .rw[q,C]at g;exact absurd (bA g) hne
     .exfalso
      -- a would not be the last
      obtain⟨l1,B,u,G⟩:=List.find?_eq_some_iff_append.1 f |>.2;have U:=(aB.1 g).1;have Y:D=B.reverse++a::l1.reverse:=by
       have:=an List.reverse u;simpa using this
      have m:c.I.toNat∈l1:=by
       rw[Y]at g C;have T:y=B.reverse.length:=by
        have hnd:=h.nd;rw[Y]at hnd;have h0:(B.reverse++a::l1.reverse)[B.reverse.length]?=some a:=by rw[aL (by omega)];simp
        have hyl:=(aB.1 C).1;have hl0:=(aB.1 h0).1;exact(List.getElem_inj hnd).1 ((aB.1 C).2.trans (aB.1 h0).2.symm)
       rw[aL (by omega)]at g;have:x-B.reverse.length≠0:=by omega
       obtain⟨z,hz⟩:=Nat.exists_eq_succ_of_ne_zero this;rw[hz,cW]at g;simpa using aC g
      have:=G _ m;rw[XX]at this
      cases this
    obtain⟨jc,dc,hjc,Q,dc1,dc2⟩:=h.hd2 K hK jp p (by rw[<-iS];exact hp) p1 (by rw[Li];omega) o (by rw[Li];exact ho) (by rw[P];exact Je.symm) c.I.toNat t2 (by rw[P];exact XX) (by rw[Li];exact hbef);rw[<-iS]at Q
    -- but c is behind a in the b
    obtain⟨l1,B,u,G⟩:=List.find?_eq_some_iff_append.1 hf |>.2;have MH:w∈b.reverse.filter (λc=>decide (c.kind=3)):=au.2 ⟨by simpa using N,by simpa using L⟩;have Tk:=r w MH;have JY:w.I.toNat=a:=by rw[ca3];simp
    rw[JY,R]at Tk;have Tl:w∈B:=by
     rw[u]at MH;rcases aM.1 MH with q|q
     .have:=G w q;rw[Tk]at this
      cases this
     .rcases bB.1 q with q|q
      .exfalso;apply hne;rw[<-q,JY]
      .exact q
    -- positions in the b
    have W:[c,w].Sublist b.reverse:=by
     refine List.Sublist.trans ?_ (ba (p:=λc=>decide (c.kind=3)));rw[u];refine List.Sublist.trans ?_ (List.sublist_append_right _ _);exact List.Sublist.cons_cons _ (List.singleton_sublist.2 Tl)
    have SY:[w,c].Sublist b:=by simpa using W.reverse
    -- c=dc,by one
    have hone:c=dc:=by
     obtain⟨ic,v⟩:=aP J;have l:=sy.1 e.one;rcases cG ic jc with q|q|q
     .exact absurd ⟨by omega,by omega⟩ (l ic jc _ _ q v Q)
     .rw[q,Q]at v;exact(bA v).symm
     .exact absurd ⟨by omega,by omega⟩ (l jc ic _ _ q Q v)
    obtain⟨r1,r2,Y,hca1,hr2⟩:=List.cons_sublist_iff.1 SY;have hc2:c∈r2:=List.singleton_sublist.1 hr2;obtain⟨x,g⟩:=aP hca1;obtain⟨y,C⟩:=aP hc2;have U:=(aB.1 g).1;have hx':b[x]?=some w:=by rw[Y,aG U];exact g
    have T:b[r1.length+y]?=some c:=by rw[Y,aL (by omega),Nat.add_sub_cancel_left];exact C
    have SS:∀(i j:Nat) (d:eH),b[i]?=some d->b[j]?=some d->i=j:=λi j d hi hj=>by
     have l:=sy.1 e.one;rcases cG i j with q|q|q
     .exact absurd ⟨rfl,rfl⟩ (l i j _ _ q hi hj)
     .exact q
     .exact absurd ⟨rfl,rfl⟩ (l j i _ _ q hj hi)
    rw[<-hone]at Q;have P:=SS _ _ _ hx' XS;have e2:=SS _ _ _ T Q;omega
  rw[H,cK]
end
def EJ(O:Nat->List fm)(id:Nat)(o:fm):Nat->List fm:=λj=>if j=id then O id++[o]else O j
theorem Nx(O:Nat->List fm)(id:Nat)(o:fm):EJ O id o id=O id++[o]:=aK rfl
theorem EU(O:Nat->List fm){j:Nat}(o:fm)(h:j≠id):EJ O id o j=O j:=aH h
section
variable {E:Nat->Prop}{O:Nat->List fm}{D:List Nat}{V:gh}{s:dp}
theorem fH.op(h:fH E O D V s)(H:Safe s)(A:1<=id)(z:id<=s.U.length)(v:(s.I id).state=1){o:fm}(S:(o.kind=1\/o.kind=2\/o.kind=3)/\o.key.size<=20)(Z:qt (s.keys o.key) id (decide (o.kind≠1)))(G:(s.I id).ats.getD (fL s o.key) 0≠0)
  (m:o.kind=1->(mL (O id) o.key).getD (V o.key)=BK o) (Et:∀a∈D,(mL (O a) o.key).isSome=true->om (eU s (fL s o.key)).M 3 a) (C:(ws.map (·.key)).Nodup) (R:∀k,oR ws k=mL (O id++[o]) k):fH E (EJ O id o) D V (du s id {s.I id with writes:=ws}):=by
 have B:km s id:=⟨A,z,.inl v⟩;have d:(du s id {s.I id with writes:=ws}).U.length=s.U.length:=by simp[du]
 have y:∀j,1<=j->(du s id {s.I id with writes:=ws}).I j=if j=id then{s.I id with writes:=ws}else s.I j:=λj T=>pO s id _ T A z
 have W:id∉D:=λq=>by have:=((h.dm id).1 q).2.2;omega
 have u:∀j,((du s id {s.I id with writes:=ws}).I j).state=(s.I j).state/\((du s id {s.I id with writes:=ws}).I j).ats=(s.I j).ats:=λj=>by
  by_cases Y:j=0
  .subst Y;have l:(du s id {s.I id with writes:=ws}).I 0=(du s id {s.I id with writes:=ws}).I 1:=rfl;have b:s.I 0=s.I 1:=rfl;rw[l,b,y 1 (by omega)];split
   .rename_i e;rw[e];exact⟨rfl,rfl⟩
   .exact⟨rfl,rfl⟩
  .rw[y j (by omega)];split
   .rename_i e;rw[e];exact⟨rfl,rfl⟩
   .exact⟨rfl,rfl⟩
 have w:∀{i},km (du s id {s.I id with writes:=ws}) i->km s i:=λ{i} q=>by
  unfold km at q⊢;rw[d,(u i).1]at q;exact q
 have J:∀K,eU (du s id {s.I id with writes:=ws}) K=eU s K:=ER rfl;have f:∀K,K<dz s->∀c∈(eU s K).M,c.I.toNat≠id:=λK t c r e=>by
  have P:K<s.lines.length:=by have:=H.dec_lt;omega
  have q:=(H.M K P).all c r;exact H.free v P r (by have:=q.lo;omega)
 have n:∀a∈D,EJ O id o a=O a:=λa g=>EU O o (λe=>W (e ▸ g));refine⟨h.nd,λi=>by rw[h.dm i,d,(u i).1],by rw[yJw D jv n];exact h.run,λi q=>?_,λi p hp=>?_,λi q=>?_,λi q p hp=>?_,λi l b x p hp=>?_,λi q=>?_,λi q=>?_,λK t c r l b=>?_,λi q L p hp a g b=>?_,λK t i c F l b p hp x a g N Q=>?_⟩
 .rw[d]at q;rw[EU O o (λe=>q (by rw[e];exact⟨A,z⟩))];exact h.out i q
 .by_cases e:i=id
  .rw[e,Nx]at hp;rcases aM.1 hp with hp|hp
   .exact h.kd id p hp
   .simp at hp;rw[hp];exact S
  .rw[EU O o e]at hp;exact h.kd i p hp
 .by_cases e:i=id
  .rw[e,Nx];exact yNk (h.opn id B) m
  .rw[EU O o e];exact h.opn i (w q)
 .by_cases e:i=id
  .rw[e,Nx]at hp;rw[e];rcases aM.1 hp with hp|hp
   .exact h.zH id B p hp
   .simp at hp;rw[hp];exact Z
  .rw[EU O o e]at hp;exact h.zH i (w q) p hp
 .rw[(u i).1]at x;rw[(u i).2];rw[d]at b;by_cases e:i=id
  .rw[e,Nx]at hp;rw[e];rcases aM.1 hp with hp|hp
   .exact h.ats id A z (by omega) p hp
   .simp at hp;rw[hp];exact G
  .rw[EU O o e]at hp;exact h.ats i l b x p hp
 .rw[y i q.1];split
  .exact C
  .exact h.wL i (w q)
 .rw[y i q.1];split
  .rename_i e;rw[e,Nx];exact R
  .rename_i e;rw[EU O o e];exact h.wK i (w q)
 .rw[J]at r;rw[(u _).1]at b;rw[EU O o (f K t c r)];exact h.AS K t c r l b
 .rw[J];rw[n a g]at b;by_cases e:i=id
  .rw[e,Nx]at hp;rcases aM.1 hp with hp|hp
   .exact h.hd1 id B (by rw[<-e];exact L) p hp a g b
   .simp at hp;rw[hp]at b⊢;exact Et a g b
  .rw[EU O o e]at hp;exact h.hd1 i (w q) L p hp a g b
 .rw[J]at F⊢;rw[(u _).1]at b;rw[EU O o (f K t c (aC F))]at hp;rw[n a g]at N;exact h.hd2 K t i c F l b p hp x a g N Q
theorem fH.heads(h:fH E O D V s)(l:2<=s.lines.length){k:ByteArray}(j:Told s (fL s k)):∀a∈D,(mL (O a) k).isSome=true->om (eU s (fL s k)).M 3 a:=λa i p=>by
 have q:fL s k<dz s:=FW l k;obtain⟨o,g,m,_⟩:=RI p;obtain⟨e,d,n⟩:=(h.dm a).1 i;have b:=h.ats a e d (by omega) o g;rw[m]at b;have f:gF s a (fL s k) 1=some ⟨3,a,(s.I a).time,[]⟩:=by
  unfold gF;simp only;rw[aH (by omega),aH b,aH (by omega),aK n]
 exact j a e d 1 _ f
theorem yUg(t:jz)(a:List eH)(k:ByteArray):BK ⟨1,k,(Kh t a k).1,(Kh t a k).2⟩=(((t.writes.reverse.find? λp=>decide (p.key=k)).map qN).or (((qj a).find? λp=>decide (p.key=k)).map qN)).getD AB:=by
 unfold Kh Iw;rw[List.find?_append];have b:∀p:gB,BK ⟨1,k,(if p.gone then(ByteArray.empty,false)else(p.val,true)).1,(if p.gone then(ByteArray.empty,false)else(p.val,true)).2⟩=qN p:=λp=>by
  unfold BK qN
  cases p.gone <;> rfl
 cases t.writes.reverse.find? λp=>decide (p.key=k)with
|some p=>exact b p
|none=>
  simp only[Option.map_none,Option.none_or]
  cases(qj a).find? λp=>decide (p.key=k)with
 |some p=>exact b p
 |none=>rfl
end
section
variable {E:Nat->Prop}{O:Nat->List fm}{D:List Nat}{V:gh}{s:dp}
theorem fH.eW(h:fH E O D V s)(a:jh X s){i:Int}(b:1<=i/\i<=(s.U.length:Int)):fH E O D V (Go.Proofs.YtmaiggbnceejiaaGreatDoor.eW s i):=by
 unfold Go.Proofs.YtmaiggbnceejiaaGreatDoor.eW;split
 .rename_i e;exact h.abort a (by omega) (by omega) (by omega) (λj _ q=>q)
 .exact h
theorem fH.nk:∀(ids:List Int) {s:dp},fH E O D V s->jh X s->(∀i∈ids,1<=i/\i<=(s.U.length:Int))->fH E O D V (jT s ids)
|[],s,h,_,_=>h
|i::ids,s,h,b,a=>by
  have q:=a i (by simp);show fH E O D V (jT (Go.Proofs.YtmaiggbnceejiaaGreatDoor.eW s i) ids);exact fH.nk ids (h.eW b q) (b.eW q.1) (λj d=>by rw[WN];exact a j (by simp[d]))
theorem fH.SC(h:fH E O D V s)(r:Safe s)(m:Held s)(u:1<=id)(t:id<=s.U.length)(n:(s.I id).state=1)(key:ByteArray)(f:key.size<=20)(e:mode=1\/mode=2):fH E O D V (jn s id key mode).1:=by
 have j:(1:Int)<=(id:Int):=by omega
 have g:(id:Int)<=(s.U.length:Int):=by omega
 obtain⟨l,p⟩:=m.locked j g (by simpa using n) key f e;have q:=h.locked m id key e;have b:∀i∈pd (iL s id key mode).1 id key,1<=i/\i<=((iL s id key mode).1.U.length:Int):=λi d=>by
  unfold pd at d;rw[au,aj]at d;obtain⟨⟨a,o,rfl⟩,_⟩:=d;rw[bV]at o;omega
 unfold jn;simp only;split
 .exact(q.nk _ l b).locked (l.nk (λi d=>(b i d).1)) id key e
 .exact q
theorem fH.lock(h:fH E O D V s)(j:Safe s)(v:Held s)(a:1<=id)(g:id<=s.U.length)(r:(s.I id).state=1)(key:ByteArray)(d:key.size<=20)(n:mode=1\/mode=2) :
  fH E O D V (gj s id key mode).1/\((gj s id key mode).2=0->qt ((gj s id key mode).1.keys key) id (decide (mode=2))/\((gj s id key mode).1.I id).ats.getD (fL s key) 0≠0):=by
 have f:=WG j v a g r key d n;have q:=h.SC j v a g r key d n;have w:=vm j v a g r key d n;revert w;unfold gj;simp only;split
 .intro _;exact⟨q,λe=>by simp at e⟩
 split
 .intro _;exact⟨q,λe=>by simp at e⟩
 obtain⟨A,hA⟩:∃A,A=jn s id key mode:=⟨_,rfl⟩;rw[<-hA]at f q⊢;have H:A.1.lines=s.lines:=f.same.l;have p:fL A.1 key=fL s key:=by unfold fL dz;rw[H]
 rw[p,aU];have o:A.1.U.length=s.U.length:=f.same.len;have z:=f.held.came (k:=fL s key) a (by rw[o];exact g);have y:(mq A.1 id (fL s key)).U.length=s.U.length:=by show(du _ _ _).U.length=_;rw[mO,o]
 have m:∀i∈A.2.1,1<=i/\i<=((mq A.1 id (fL s key)).U.length:Int):=λi u=>by rw[y];exact(f.wd i u).2
 have x:(mq A.1 id (fL s key)).I id={s.I id with ats:=(s.I id).ats.set (fL s key) 1}:=by
  show(du A.1 id _).I id=_;rw[pO A.1 id _ a a (by rw[o];exact g),aK rfl,f.me]
 have C:fH E O D V (mq A.1 id (fL s key)):=by
  refine q.tx1 a (by rw[o];exact g) rfl (λk G=>?_) (.inl rfl);show((A.1.I id).ats.set _ 1).getD k 0≠0;rw[pQ];split
  .simp
  .exact G
 have B:=C.nk A.2.1 z m;have t:(jT (mq A.1 id (fL s key)) A.2.1).I id=(mq A.1 id (fL s key)).I id:=(tf.ft A.2.1 _ (λi u=>(m i u).1)).other id a (λe=>by have:=(f.wd _ e).1;omega);intro w;refine⟨B,λe=>?_⟩;have b:¬jD ((jT (mq A.1 id (fL s key)) A.2.1).keys key).held id<mode:=λF=>by rw[aK F]at e;simp at e
 refine⟨qt.Fw (w.held.apart key).ok n b,?_⟩;rw[t,x];show((s.I id).ats.set _ 1).getD _ 0≠0;rw[pQ,aK ⟨rfl,by rw[(j.I id a g).len];have:=FW j.ll.1 key;have:=j.dec_lt;omega⟩];simp
theorem fO.get{Q:List Nat->Prop}(h:fO Q O s)(f:Rest s)(id:Nat)(key:ByteArray):((fG s id key).2.2.2=0->fO Q (EJ O id ⟨1,key,(fG s id key).2.1,(fG s id key).2.2.1⟩) (fG s id key).1)/\((fG s id key).2.2.2≠0->fO Q O (fG s id key).1):=by
 have n:=f.get id key;revert n;unfold fG;split
 .rename_i C;intro _;exact⟨λe=>absurd e C,λ_=>h⟩
 rename_i C;intro n;have UQ:oN s id key=0:=by simpa using C
 obtain⟨c1,F,c3⟩:=pL UQ;obtain⟨i,Y,u,t,J⟩:=pB c1;obtain rfl:id=i:=by omega
 obtain⟨L,D,V,Z,P⟩:=h;have p:=vm f.c.safe f.c.held u t J key F (mode:=1) (.inl rfl);obtain⟨b,S⟩:=Z.lock f.c.safe f.c.held u t J key F (mode:=1) (.inl rfl);have w:=f.locked p;simp only at n⊢;by_cases y:(gj s id key 1).2=0
 .rw[aH (λq=>q y)];refine⟨λ_=>⟨L,D,V,?_,P⟩,λe=>absurd rfl e⟩;obtain⟨H,G⟩:=S y;obtain⟨r,hrr⟩:∃r,r=(gj s id key 1).1:=⟨_,rfl⟩;rw[<-hrr]at p b H G w⊢;have g:r.lines=s.lines:=p.same.l;have m:fL r key=fL s key:=by unfold fL dz;rw[g]
  have a:r.U.length=s.U.length:=p.same.len;have N:fL s key<s.lines.length:=by have:=FW f.c.safe.ll.1 key;have:=f.c.safe.dec_lt;omega
  obtain⟨nh,z⟩:=bF.1 c3;obtain⟨B,T⟩:=OD f.c.safe N z;have R:eU r (fL s key)=eU s (fL s key):=ER g _;have K:Told r (fL r key):=by
   rw[m];refine w.told _ (by rw[g];exact N) ?_;rw[R,<-B,Nv p.same.d];exact T
  have W:((s.A (fL s key)).nodes.getD 0 ⟨0,0,[],[],0⟩).M=(eU r (fL r key)).M:=by rw[m,R];rfl
  have x:km r id:=⟨u,by rw[a];exact t,.inl p.st⟩;rw[aU,W];have Sc:du r id {r.I id with writes:=(r.I id).writes}=r:=by
   unfold du;have:r.U.set (id-1) (r.I id)=r.U:=by
    refine bP λj=>?_;rw[bz];split
    .rename_i e;split
     .rw[<-e,vf u (by rw[a];exact t)]
     .rename_i q;rw[<-e];exact(aX (by omega)).symm
    .rfl
   show{r with U:=r.U.set (id-1) (r.I id)}=r;rw[this]
  have:=b.op w.c.safe (o:=⟨1,key,(Kh (r.I id) (eU r (fL r key)).M key).1,(Kh (r.I id) (eU r (fL r key)).M key).2⟩) (ws:=(r.I id).writes) u (by rw[a];exact t) p.st ⟨.inl rfl,F⟩ (H.less (by simp)) (by show(r.I id).ats.getD (fL r key) 0≠0;rw[m];exact G) (λ_=>?_) (b.heads w.c.safe.ll.1 K) (b.wL id x) (λk=>?_)
  .rw[Sc]at this;exact this
  .rw[yUg,yJn (b.wL id x),b.wK id x,b.view w.c.safe K,Ks b.run]
   cases mL (O id) key with
  |some v=>rfl
  |none=>rfl
  .rw[b.wK id x,ZQ];simp[CN]
 .rw[aK y];exact⟨λe=>absurd e y,λ_=>⟨L,D,V,b,P⟩⟩
end
theorem yXo(p:gB)(v:ByteArray):CN ⟨if p.gone then 3 else 2,p.key,p.val,false⟩=some (qN p):=by
 unfold CN qN
 cases p.gone <;> rfl
theorem yOn{t:jz}{p:gB}(r:(t.writes.map (·.key)).Nodup):((oF t p).writes.map (·.key)).Nodup/\∀k,oR (oF t p).writes k=if p.key=k then some (qN p)else oR t.writes k:=by
 unfold oF
 cases f:vg t p.key with
|some n=>
  unfold vg at f;obtain⟨d,C,B⟩:=cF.1 f;have e:(t.writes[n]).key=p.key:=by simpa using C
  have x:(t.writes.set n p).map (·.key)=t.writes.map (·.key):=by
   rw[List.map_set];refine bP λi=>?_;rw[bz];split
   .rename_i q;split
    .rw[<-q,ah,aA d,bJ,e]
    .rename_i F;rw[<-q,aX (by omega)]
   .rfl
  refine⟨by show((t.writes.set n p).map _).Nodup;rw[x];exact r,λk=>?_⟩;show oR (t.writes.set n p) k=_;unfold oR;by_cases q:p.key=k
  .rw[aK q];have:(t.writes.set n p).find? (λp=>decide (p.key=k))=some p:=by
    rw[List.find?_eq_some_iff_getElem];refine⟨by simpa using q,n,by simpa using d,by simp,λj y=>?_⟩;rw[List.getElem_set_ne (by omega)];have:=B j y;rw[<-q];simpa using this
   rw[this];rfl
  .rw[aH q];congr 1;have o:∀(l:List gB) (n:Nat) (h:n<l.length),(l[n]).key≠k->(l.set n p).find? (λp=>decide (p.key=k))=l.find? λp=>decide (p.key=k):=by
    intro l
    induction l with
   |nil=>intro n h;simp at h
   |cons a l w=>
     intro n h u
     cases n with
    |zero=>
      rw[List.set_cons_zero,cL,cL];have A:a.key≠k:=u;simp[A,q]
    |succ n=>
      rw[dQ,cL,cL,w n (by simpa using h) (by simpa using u)]
   exact o t.writes n d (by rw[e];exact q)
|none=>
  unfold vg at f;rw[List.findIdx?_eq_none_iff]at f;have g:∀a∈t.writes,a.key≠p.key:=λa m=>by simpa using f a m
  refine⟨?_,λk=>?_⟩
  .show((t.writes++[p]).map _).Nodup;rw[ay,br];refine⟨r,by simp,λa m b v=>?_⟩;obtain⟨c,z,rfl⟩:=aj.1 m;simp at v;rw[v];exact g c z
  .show oR (t.writes++[p]) k=_;unfold oR;rw[List.find?_append];by_cases q:p.key=k
   .rw[aK q];have:t.writes.find? (λp=>decide (p.key=k))=none:=by
     rw[dD];intro a m;have:=g a m;simp;rw[<-q];exact this
    rw[this];simp[q]
   .rw[aH q]
    cases t.writes.find? λp=>decide (p.key=k)with
   |some a=>rfl
   |none=>simp[q]
section
variable {Q:List Nat->Prop}{O:Nat->List fm}{s:dp}
theorem fO.put(h:fO Q O s)(a:Rest s)(id:Nat)(p:gB):((fg s id p).2=0->fO Q (EJ O id ⟨if p.gone then 3 else 2,p.key,p.val,false⟩) (fg s id p).1)/\((fg s id p).2≠0->fO Q O (fg s id p).1):=by
 unfold fg;split
 .exact⟨λe=>by simp at e,λ_=>h⟩
 split
 .rename_i z;exact⟨λe=>absurd e z,λ_=>h⟩
 rename_i z;have Z:oN s id p.key=0:=by simpa using z
 obtain⟨Y,A,W⟩:=pL Z;obtain⟨i,R,t,n,G⟩:=pB Y;obtain rfl:id=i:=by omega
 rw[aU];split
 .exact⟨λe=>by simp at e,λ_=>h⟩
 obtain⟨H,D,V,S,K⟩:=h;have g:=vm a.c.safe a.c.held t n G p.key A (mode:=2) (.inr rfl);obtain⟨j,M⟩:=S.lock a.c.safe a.c.held t n G p.key A (mode:=2) (.inr rfl);have v:=a.locked g;simp only;by_cases u:(gj s id p.key 2).2=0
 .rw[aH (λq=>q u)];refine⟨λ_=>⟨H,D,V,?_,K⟩,λe=>absurd rfl e⟩;obtain⟨F,C⟩:=M u;obtain⟨r,hrr⟩:∃r,r=(gj s id p.key 2).1:=⟨_,rfl⟩;rw[<-hrr]at g j F C v⊢;have f:r.lines=s.lines:=g.same.l;have m:fL r p.key=fL s p.key:=by unfold fL dz;rw[f]
  have b:r.U.length=s.U.length:=g.same.len;have J:fL s p.key<s.lines.length:=by have:=FW a.c.safe.ll.1 p.key;have:=a.c.safe.dec_lt;omega
  obtain⟨nh,x⟩:=bF.1 W;obtain⟨y,N⟩:=OD a.c.safe J x;have GO:eU r (fL s p.key)=eU s (fL s p.key):=ER f _;have T:Told r (fL r p.key):=by
   rw[m];refine v.told _ (by rw[f];exact J) ?_;rw[GO,<-y,Nv g.same.d];exact N
  have B:km r id:=⟨t,by rw[b];exact n,.inl g.st⟩;obtain⟨w1,L⟩:=yOn (p:=p) (j.wL id B);have w:oF (r.I id) p={r.I id with writes:=(oF (r.I id) p).writes}:=by
   unfold oF;split <;> rfl
  have P:(if p.gone then(3:Int)else 2)=2\/(if p.gone then(3:Int)else 2)=3:=by cases p.gone <;> simp
  rw[w];refine j.op v.c.safe (o:=⟨if p.gone then 3 else 2,p.key,p.val,false⟩) (ws:=(oF (r.I id) p).writes) t (by rw[b];exact n) g.st ⟨.inr P,A⟩ (F.less (by simp)) (by show(r.I id).ats.getD (fL r p.key) 0≠0;rw[m];exact C) (λe=>?_) (j.heads v.c.safe.ll.1 T) w1 (λk=>?_)
  .simp only at e;omega
  .rw[L,ZQ,yXo p p.val,j.wK id B];simp
 .rw[aK u];exact⟨λe=>absurd e u,λ_=>⟨H,D,V,j,K⟩⟩
theorem fO.drop(h:fO Q O s)(a:Rest s)(id:Int):fO Q O (oz s id).1:=by
 unfold oz;split
 .exact h
 .rename_i e;obtain⟨i,rfl,l,g,m⟩:=pB (by simpa using e);obtain⟨d,D,V,b,f⟩:=h;exact⟨d,D,V,b.abort a.c.held l g (by show(s.I i).state≠3;omega) (λj _ q=>q),f⟩
theorem fO.begin(h:fO Q O s)(e:2<=s.lines.length):fO Q O (mB s):=by
 obtain⟨b,D,V,a,d⟩:=h;exact⟨b,D,V,a.begin e,d⟩
theorem fO.same{s':dp}(h:fO Q O s)(f:Safe s)(ht:s'.U=s.U)(d:s'.keys=s.keys)(b:s'.lines.length=s.lines.length)(a:∀K,K<dz s->(eU s' K).M=(eU s K).M):fO Q O s':=by
 obtain⟨g,D,V,e,i⟩:=h;exact⟨g,D,V,e.same ht d b a f.ll.1,i⟩
end
section
variable {E:Nat->Prop}{O:Nat->List fm}{D:List Nat}{V:gh}{s s':dp}
theorem fH.again(h:fH E O D V s)(S:jh X s)(Z:1<=id)(Y:id<=s.U.length)(P:(s.I id).state=3)(G:s'.lines=s.lines)(b:s'.U.length=s.U.length)(y:s'.keys=gg s.keys id)(F:∀j,1<=j->j≠id->s'.I j=s.I j)(W:(s'.I id).state=3)(z:(s'.I id).ats=(s.I id).ats):fH E O D V s':=by
 have C:dz s'=dz s:=by unfold dz;rw[G]
 have x:∀k,fL s' k=fL s k:=λk=>by unfold fL;rw[C]
 have B:∀K,eU s' K=eU s K:=ER G;have v:∀{i},km s' i->i≠id/\km s i/\s'.I i=s.I i:=λ{i} q=>by
  have t:i≠id:=λd=>by rw[d]at q;have:=q.2.2;omega
  have e:=F i q.1 t;refine⟨t,?_,e⟩;unfold km at q⊢;rw[b,e]at q;exact q
 have u:∀j,(s'.I j).state=(s.I j).state/\(s'.I j).ats=(s.I j).ats:=λj=>by
  have r:∀j,1<=j->(s'.I j).state=(s.I j).state/\(s'.I j).ats=(s.I j).ats:=λj R=>by
   by_cases e:j=id
   .rw[e];exact⟨by omega,z⟩
   .rw[F j R e];exact⟨rfl,rfl⟩
  by_cases T:j=0
  .rw[T];exact r 1 (by omega)
  .exact r j (by omega)
 refine⟨h.nd,λi=>by rw[h.dm i,b,(u i).1],h.run,by rw[b];exact h.out,h.kd,λi q=>h.opn i (v q).2.1,λi q o g=>?_,λi p d n o g=>?_,λi q=>?_,λi q=>?_,λK w c J p d=>?_,λi q L o g a A d=>?_,λK w i c H p d o g n a A N M=>?_⟩
 .obtain⟨m,f,l⟩:=v q;rw[y];exact(h.zH i f o g).rel (S.apart _).ok (by omega)
 .rw[(u i).1]at n;rw[(u i).2,x];rw[b]at d;exact h.ats i p d n o g
 .obtain⟨m,f,l⟩:=v q;rw[l];exact h.wL i f
 .obtain⟨m,f,l⟩:=v q;rw[l];exact h.wK i f
 .rw[C]at w;rw[B]at J;rw[(u _).1]at d;obtain⟨m,f⟩:=h.AS K w c J p d;exact⟨m,λk y=>f k (by rw[<-x];exact y)⟩
 .obtain⟨m,f,l⟩:=v q;rw[x,B];exact h.hd1 i f L o g a A d
 .rw[C]at w;rw[B]at H⊢;rw[(u _).1]at d;rw[x]at n;exact h.hd2 K w i c H p d o g n a A N M
end
section
variable {Q:List Nat->Prop}{O:Nat->List fm}
theorem fO.follow(h:fO Q O s)(u:Safe s)(v:Held s)(y:k<s.lines.length)(z:c∈kN s k):fO Q O (mj s k c):=by
 obtain⟨o,D,V,n,p⟩:=h;have q:=(u.M k y).all c (EW k c z);obtain⟨id,hid⟩:∃id:Nat,c.I=id:=⟨c.I.toNat,by have:=q.lo;omega⟩;have b:1<=id:=by have:=q.lo;omega
 have m:id<=s.U.length:=by have:=q.hi;omega
 unfold mj;rw[hid,aU];split
 .rename_i e;have l:=(q.dec e).2.2.1;rw[hid,aU]at l;obtain⟨t1,ht1⟩:∃t,t={s.I id with time:=c.time}:=⟨_,rfl⟩;rw[<-ht1];have r:(du s id t1).U.length=s.U.length:=mO _ _ _;have B:(du s id t1).I id=t1:=by rw[pO s id t1 b b m,aK rfl]
  unfold pA;rw[B];obtain⟨t2,ht2⟩:∃t:jz,t={t1 with state:=3,writes:=[]}:=⟨_,rfl⟩;rw[<-ht2];have a:∀j,1<=j->({du (du s id t1) id t2 with keys:=gg (du s id t1).keys id}:dp).I j=if j=id then t2 else s.I j:=λj g=>by
   show(du (du s id t1) id t2).I j=_;rw[pO _ id t2 g b (by rw[r];exact m)];split
   .rfl
   .rename_i e;rw[pO s id t1 g b m,aH e]
  have f:({du (du s id t1) id t2 with keys:=gg (du s id t1).keys id}:dp).U.length=s.U.length:=by
   show(du (du s id t1) id t2).U.length=_;rw[mO,r]
  have x:(({du (du s id t1) id t2 with keys:=gg (du s id t1).keys id}:dp).I id).state=3:=by rw[a id b,aK rfl,ht2]
  have w:(({du (du s id t1) id t2 with keys:=gg (du s id t1).keys id}:dp).I id).ats=(s.I id).ats:=by rw[a id b,aK rfl,ht2,ht1]
  obtain l|l:=l
  .obtain⟨C,A⟩:=n.Dc (s':={du (du s id t1) id t2 with keys:=gg (du s id t1).keys id}) u v (d:=id) ⟨b,m,.inr l⟩ rfl f rfl (λj g i=>by rw[a j g,aH i]) x w;exact⟨o,_,C,A,o D id p (λq=>by have:=((n.dm id).1 q).2.2;omega)⟩
  .exact⟨o,D,V,n.again (s':={du (du s id t1) id t2 with keys:=gg (du s id t1).keys id}) v b m l rfl f rfl (λj g i=>by rw[a j g,aH i]) x w,p⟩
 .split
  .refine⟨o,D,V,n.tx1 b m rfl (λj g=>?_) (.inl rfl),p⟩;show((s.I id).ats.set k 2).getD j 0≠0;rw[pQ];split
   .simp
   .exact g
  .exact⟨o,D,V,n,p⟩
theorem fO.Te(h:fO Q O s)(f:Safe s)(l:Held s)(a:k<s.lines.length)(g:∀n∈(s.A k).nodes,n.M[(s.A k).heard]?=some c):fO Q O (mw k s c):=by
 have j:=f.bump a (λn i=>(aB.1 (g n i)).1);have e:Held (bump s k):=l.lines rfl rfl;have b:k<(bump s k).lines.length:=by rw[BS];exact a
 have d:c∈kN (bump s k) k:=by
  unfold kN;rw[OG s a,KN s a,aK rfl];have:=g _ (f.head_mem a);show c∈(eU s k).M.take ((s.A k).heard+1);rw[rq this];simp
 rw[OE s a];exact(h.same (s':=bump s k) f rfl rfl (BS s k) (λK _=>by rw[OG s a])).follow j e b d
theorem fO.JW:∀(b:List eH) {s:dp},fO Q O s->Safe s->Held s->k<s.lines.length->(∀n∈(s.A k).nodes,∃r,n.M.drop (s.A k).heard=b++r)->fO Q O (b.foldl (mw k) s)
|[],s,h,_,_,_,_=>h
|c::b,s,h,i,j,e,f=>by
  have g:∀n∈(s.A k).nodes,n.M[(s.A k).heard]?=some c:=λn a=>by
   obtain⟨r,d⟩:=f n a;have:=an (λl=>l[0]?) d;simpa using this
  obtain⟨q,m⟩:=ZM i j e g;refine fO.JW b (h.Te i j e g) q.safe q.held (by rw[q.same.ll];exact e) λn a=>?_;rw[q.same.nodes]at a;obtain⟨r,d⟩:=f n a;refine⟨r,?_⟩;rw[m,<-List.drop_drop,d];rfl
theorem fO.iI(h:fO Q O s)(d:Safe s)(g:Held s)(b:k<s.lines.length):fO Q O (Go.Proofs.YtmaiggbnceejiaaGreatDoor.iI s k):=by
 have a:=d.A k b;refine fO.JW (lX s k) h d g b λn f=>?_;obtain⟨r,e⟩:=a.last ⟨0,0,[],[],0⟩ f;refine⟨r,?_⟩;rw[<-e];unfold lX qf;rw[dL];exact a.heard _ (Ql a.ne _)
theorem fO.hear(h:fO Q O s)(i:Safe s)(j:Held s):fO Q O (pZ s):=by
 have e:∀m,m<=s.lines.length->rj s (pI s m)/\fO Q O (pI s m):=by
  intro m
  induction m with
 |zero=>exact λ_=>⟨rj.refl i j,h⟩
 |succ m g=>
   intro l;rw[RH];obtain⟨a,b⟩:=g (by omega);have f:m<(pI s m).lines.length:=by rw[a.same.ll];omega
   obtain⟨c,d⟩:=Zl a.safe a.held f;exact⟨a.trans c,b.iI a.safe a.held f⟩
 exact(e s.lines.length (aD _)).2
theorem yWl(a:gF s id k time=some c)(b:c.kind=2):c=⟨2,id,0,vn s (s.I id) k⟩/\(s.I id).state=2:=by
 unfold gF at a;simp only at a;split at a
 .split at a
  .cases a;simp at b
  .cases a
 .split at a
  .cases a
  .split at a
   .rename_i e;cases a;exact⟨rfl,e⟩
   .split at a
    .cases a;simp at b
    .split at a
     .cases a;simp at b
     .cases a
theorem Mf(a:gF s id k time=some c):c.I=(id:Int):=by
 unfold gF at a;simp only at a;split at a
 .split at a
  .cases a;rfl
  .cases a
 .split at a
  .cases a
  .split at a
   .cases a;rfl
   .split at a
    .cases a;rfl
    .split at a
     .cases a;rfl
     .cases a
theorem fO.gY{S:dp}(h:fO Q O S)(j:Safe S)(m:k<S.lines.length)(l:gQ S (eU S k)=true)(b:List eH)(t:1<=id)(r:id<=S.U.length):fO Q O (Go.Proofs.YtmaiggbnceejiaaGreatDoor.gY S k b id):=by
 unfold Go.Proofs.YtmaiggbnceejiaaGreatDoor.gY
 cases g:gF S id k ((eU S k).M.length+1)with
|none=>exact h
|some c=>
  simp only;split
  .obtain⟨o,D,V,n,p⟩:=h;obtain⟨a,f⟩:=iN.add j m l c;refine⟨o,D,V,n.grow a.U a.keys a.mv.ll j.ll.1 (K:=k) (c:=c) (λi x d=>by rw[f,aH d]) (λ_=>by rw[f,aK rfl];exact(FV _ c).2.1) (λ_ e _=>?_),p⟩;obtain⟨w,v⟩:=yWl g e;have u:=Mf g;rw[u,aU];exact⟨⟨t,r,.inr v⟩,λq=>q,by rw[w]⟩
  .exact h
theorem fO.fD(h:fO Q O s)(f:Safe s)(e:k<s.lines.length):fO Q O (Go.Proofs.YtmaiggbnceejiaaGreatDoor.fD s k):=by
 unfold Go.Proofs.YtmaiggbnceejiaaGreatDoor.fD
 cases j:vV s k with
|none=>exact h
|some n=>
  obtain⟨rfl,i⟩:=OD f e j;simp only;have d:∀m,m<=s.U.length->Ie s (((List.range m).map (·+1)).foldl (λh id=>Go.Proofs.YtmaiggbnceejiaaGreatDoor.gY h k (eU s k).M id) s) k m/\fO Q O (((List.range m).map (·+1)).foldl (λh id=>Go.Proofs.YtmaiggbnceejiaaGreatDoor.gY h k (eU s k).M id) s):=by
   intro m
   induction m with
  |zero=>exact λ_=>⟨⟨f,iN.refl s,⟨[],by simp,by simp⟩,λid o l=>by omega,λ_ _=>rfl,i⟩,h⟩
  |succ m g=>
    intro p;rw[aZ,ay,ae];obtain⟨a,b⟩:=g (by omega);refine⟨a.step e (by omega),?_⟩;generalize ((List.range m).map (·+1)).foldl (λh id=>Go.Proofs.YtmaiggbnceejiaaGreatDoor.gY h k (eU s k).M id) s=S at a b;exact b.gY a.safe (by rw[a.tells.mv.ll];exact e) a.live _ (show 1<=m+1 by omega) (show m+1<=S.U.length by rw[a.tells.U];omega)
  exact(d s.U.length (aD _)).2
theorem fO.tell(h:fO Q O s)(f:Safe s):fO Q O (kR s):=by
 have d:∀m,m<=s.lines.length->Safe ((List.range m).foldl Go.Proofs.YtmaiggbnceejiaaGreatDoor.fD s)/\((List.range m).foldl Go.Proofs.YtmaiggbnceejiaaGreatDoor.fD s).lines.length=s.lines.length/\fO Q O ((List.range m).foldl Go.Proofs.YtmaiggbnceejiaaGreatDoor.fD s):=by
  intro m
  induction m with
 |zero=>exact λ_=>⟨f,rfl,h⟩
 |succ m e=>
   intro j;rw[aZ,ae];obtain⟨a,b,c⟩:=e (by omega);generalize (List.range m).foldl Go.Proofs.YtmaiggbnceejiaaGreatDoor.fD s=S at a b c;obtain⟨i,g,_⟩:=Zq a (k:=m) (by omega);exact⟨i,by show(Go.Proofs.YtmaiggbnceejiaaGreatDoor.fD S m).lines.length=_;rw[g.mv.ll,b],c.fD a (by omega)⟩
 exact(d s.lines.length (aD _)).2.2
theorem fO.fT:∀(n:Nat) {s:dp},fO Q O s->Safe s->Held s->fO Q O (Go.Proofs.YtmaiggbnceejiaaGreatDoor.fT n s)
|0,s,h,_,_=>h
|n+1,s,h,a,b=>by
  unfold Go.Proofs.YtmaiggbnceejiaaGreatDoor.fT;split
  .have q:=(KU a b).1;exact fO.fT n ((h.hear a b).tell (OI a b).1.safe) q.safe q.held
  .exact h
theorem fO.settle(h:fO Q O s)(a:Safe s)(b:Held s):fO Q O (nK s):=h.fT _ a b
end
end Go.Proofs.YtmaiggbnceejiaaGreatDoor
namespace Go.Proofs.YtmaiggbnceejiaaGreatDoor
variable {k j i m x id:Nat}{n:ec}{dh:List eY}{t:eY}{D l:List Nat}{s:eF}{o:fm}
section
variable {E E':Nat->Prop}{O:Nat->List fm}{D:List Nat}{V:gh}{s s':dp}
theorem fH.less(h:fH E O D V s)(hE:∀id,km s id->¬E' id->¬E id):fH E' O D V s:=
 ⟨h.nd,h.dm,h.run,h.out,h.kd,h.opn,h.zH,h.ats,h.wL,h.wK,h.AS,λid q a=>h.hd1 id q (hE id q a),h.hd2⟩
theorem fH.A(h:fH (λ_=>False) O D V s)(hS:Safe s)(ht:s'.U=s.U)(Z:s'.keys=s.keys)(hl:s'.lines.length=s.lines.length)(mV:k<dz s)(Y:∀i,i≠k->(eU s' i).M=(eU s i).M)(hp:(eU s' k).M <+: (eU s k).M):fH (λid=>0<id/\kz s' k (id-1)=true) O D V s':=by
 have e:∀i,s'.I i=s.I i:=λi=>by unfold dp.I;rw[ht]
 have ed:dz s'=dz s:=by unfold dz;rw[hl]
 have S:∀k,fL s' k=fL s k:=λk=>by unfold fL;rw[ed]
 have G:∀{i},km s' i->km s i:=λ{i} q=>by unfold km at q⊢;rw[ht,e]at q;exact q
 obtain⟨t,y⟩:=hp;have u:∀(i:Nat) c,(eU s' k).M[i]?=some c->(eU s k).M[i]?=some c:=λi c p=>by
  rw[<-y,aG (aB.1 p).1];exact p
 have g:∀(i j:Nat) c d,(eU s' k).M[i]?=some c->j<i->(eU s k).M[j]?=some d->(eU s' k).M[j]?=some d:=λi j c d p Be hj=>by
  have:=(aB.1 p).1;rw[<-y,aG (by omega)]at hj;exact hj
 refine⟨h.nd,λid=>by rw[ht,e];exact h.dm id,h.run,by rw[ht];exact h.out,h.kd,λid q=>h.opn id (G q),λid q=>by rw[Z];exact h.zH id (G q),λid F f v o r=>by rw[e,S];rw[ht]at f;rw[e]at v;exact h.ats id F f v o r,
  λid q=>by rw[e];exact h.wL id (G q),λid q=>by rw[e];exact h.wK id (G q),λK Q c R F f=>?_,λid q hE o r a P f=>?_,λK Q i c p F f o r v a P q4 q5=>?_⟩
 .rw[ed]at Q;rw[e]at f;have hc':c∈(eU s K).M:=by
   by_cases q:K=k
   .rw[q]at R⊢;rw[<-y];exact bW _ R
   .rw[Y K q]at R;exact R
  obtain⟨C,H⟩:=h.AS K Q c hc' F f;exact⟨C,λk Z=>H k (by rw[<-S];exact Z)⟩
 .rw[S];by_cases W:fL s o.key=k
  .have z:=G q;have N:=h.ats id z.1 z.2.1 (by have:=z.2.2;omega) o r;rw[W]at N⊢;have b:kz s' k (id-1)=false:=by
    cases hx:kz s' k (id-1)with
   |false=>rfl
   |true=>exact absurd ⟨by have:=z.1;omega,hx⟩ hE
   unfold kz at b;simp only at b;rw[show id-1+1=id by have:=z.1;omega,e]at b;have hint:((id-1:Nat):Int)+1=(id:Int):=by have:=z.1;omega
   rw[hint]at b;simp only[N,ne_eq,not_false_eq_true,decide_true,Bool.true_and,Bool.or_eq_false_iff,bc,Bool.and_eq_false_imp,aw]at b;have X:(s.I id).state=2:=by have:=z.2.2;have:=b.1;omega
   have J:=b.2 X
   cases B:mC (eU s' k).M 2 id with
  |none=>rw[B]at J;cases J
  |some n=>
    unfold mC at B;obtain⟨L,Bd,_⟩:=cF.1 B;simp only[bX,aw]at Bd;have Tb:(eU s' k).M[n]?=some (eU s' k).M[n]:=aA L;have w:((eU s' k).M[n]).I.toNat=id:=by rw[Bd.2];simp
    obtain⟨j,d,C,H,T,z4⟩:=h.hd2 k mV n _ (u n _ Tb) Bd.1 (by rw[w];omega) o (by rw[w];exact r) W a P f (λhb=>by
     exfalso;rw[w]at hb;have:=((h.dm id).1 hb).2.2;omega)
    exact⟨d,aC (g n j _ d Tb C H),T,z4⟩
  .rw[Y _ W];exact h.hd1 id (G q) (λq=>q) o r a P f
 .rw[ed]at Q;rw[e]at f;rw[S]at v;by_cases q:K=k
  .rw[q]at p v⊢;obtain⟨j,d,C,H,T⟩:=h.hd2 k mV i c (u i c p) F f o r v a P q4 q5;exact⟨j,d,C,g i j c d p C H,T⟩
  .rw[Y K q]at p⊢;exact h.hd2 K Q i c p F f o r v a P q4 q5
theorem zTt{s:dp}(h:Safe s)(B:Held s)(A:k<s.lines.length):∀m,m<=s.U.length->gH s ((List.range m).foldl (λh i=>if kz h k i then gk h (i+1)else h) s)/\gS s ((List.range m).foldl (λh i=>if kz h k i then gk h (i+1)else h) s):=by
 intro m
 induction m with
|zero=>exact λ_=>⟨gH.refl h B,gS.refl s⟩
|succ m y=>
  intro F;rw[aZ,ae];obtain⟨a,b⟩:=y (by omega);generalize (List.range m).foldl (λh i=>if kz h k i then gk h (i+1)else h) s=S at a b;show gH s (if kz S k m then gk S (m+1)else S)/\gS s (if kz S k m then gk S (m+1)else S);split
  .rename_i g;have c:m+1<=S.U.length:=by rw[b.len];omega
   have G:k<S.lines.length:=by rw[b.l];exact A
   unfold kz at g;simp only[bX,cA,aw]at g;obtain⟨v,f⟩:=g;have d:=a.safe.I (m+1) (by omega) c;have w:k<dz S:=by
    have:k≠dz S:=λe=>v (by rw[e];exact d.dec);unfold dz at this⊢;omega
   have r:Held (gk S (m+1)):=a.held.abort (m+1) (by omega) (λx d=>by simp at d);obtain q|⟨q,u⟩:=f
   .exact⟨a.trans ⟨a.safe.abort (by omega) c q,r,lx.abort (by omega) c (by omega),by rw[Ec]⟩,b.trans (gS.abort S _)⟩
   .have z:ve (S.I (m+1))=false:=by
     apply aS;intro p;simp only[Bool.not_eq_false]at p;have:=KP.1 p k;have:=d.pE k;have C:(S.I (m+1)).ats.getD k 0=2:=by omega
     have:=yHc a.safe (by omega) c w C;have e:((m+1:Nat):Int)=(m:Int)+1:=by omega
     rw[e,u]at this;cases this
    exact⟨a.trans ⟨a.safe.yW (by omega) c q z,r,lx.abort (by omega) c (by omega),by rw[Ec]⟩,b.trans (gS.abort S _)⟩
  .exact⟨a,b⟩
theorem fH.zU(y:Safe s)(z:Held s)(w:k<s.lines.length)(h:fH (λid=>0<id/\kz s k (id-1)=true) O D V s):fH (λ_=>False) O D V (qg s k):=by
 unfold qg;have g:∀m,m<=s.U.length->fH (λid=>m<id/\kz ((List.range m).foldl (λh i=>if kz h k i then gk h (i+1)else h) s) k (id-1)=true) O D V ((List.range m).foldl (λh i=>if kz h k i then gk h (i+1)else h) s):=by
  intro m
  induction m with
 |zero=>exact λ_=>h
 |succ m B=>
   intro C;have c:=B (by omega);obtain⟨a,b⟩:=zTt y z w m (by omega);rw[aZ,ae];generalize (List.range m).foldl (λh i=>if kz h k i then gk h (i+1)else h) s=S at a b c;show fH (λid=>m+1<id/\kz (if kz S k m then gk S (m+1)else S) k (id-1)=true) O D V (if kz S k m then gk S (m+1)else S);have A:m+1<=S.U.length:=by rw[b.len];omega
   cases v:kz S k m with
  |true=>
    rw[aK rfl];have f:=v;unfold kz at f;simp only[bX,cA,aw]at f;refine c.abort a.held (by omega) A (by have:=f.2;omega) (λj F d q=>d ⟨by omega,?_⟩);have r:(gk S (m+1)).I (j-1+1)=S.I (j-1+1):=EZ S (by omega);have p:eU (gk S (m+1)) k=eU S k:=ER (zXf S _) k;have:kz (gk S (m+1)) k (j-1)=kz S k (j-1):=by unfold kz;simp only;rw[r,p]
    rw[this];exact q.2
  |false=>
    rw[aH (by simp)];refine c.less (λid u d q=>?_);by_cases e:id=m+1
    .rw[e,bL,v]at q;exact absurd q.2 (by simp)
    .exact d ⟨by omega,q.2⟩
 obtain⟨a,b⟩:=zTt y z w s.U.length (aD _);exact(g s.U.length (aD _)).less (λid u _ q=>by have:=u.2.1;rw[b.len]at this;omega)
end
section
variable {Q:List Nat->Prop}{O:Nat->List fm}{s:dp}
theorem fO.node1(h:fO Q O s)(c:Safe s)(b:k<s.lines.length){a:ec}(d:(s.A k).nodes[j]?=some n)(h0:j=0->a.M=n.M)(ms:List eG):fO Q O (sd (kS s k j a) ms):=by
 refine h.same c rfl rfl (Ia s k j a) (λK f=>?_);show(eU (kS s k j a) K).M=_;rw[RP b (c.A k b).ne];split
 .rename_i e;rw[h0 e.2];have:n=eU s k:=by
   have:=c.head b;rw[<-e.2,d]at this;exact bA this
  rw[this,e.1]
 .rfl
theorem fO.step(h:fO Q O s)(d:Safe s)(c:k<s.lines.length)(b:(s.A k).nodes[j]?=some n)(m:eG):fO Q O (mM s k j m):=by
 unfold mM;rw[qi b];refine h.node1 d c b (λe=>?_) _;rcases(RD n m).2.1 with q|⟨_,q,_⟩
 .exact q
 .obtain⟨i,a,f,_⟩:=(d.A k c).XC b (KK q);omega
theorem fO.fX(h:fO Q O s)(b:Safe s)(a:k<s.lines.length):fO Q O (Go.Proofs.YtmaiggbnceejiaaGreatDoor.fX k s j):=by
 unfold Go.Proofs.YtmaiggbnceejiaaGreatDoor.fX;split
 .by_cases d:j<(s.A k).nodes.length
  .have c:(s.A k).nodes[j]?=some (eZ s k j):=by rw[aA d];unfold eZ;rw[aI,aA d];rfl
   exact h.node1 b a c (λ_=>(IU (eZ s k j)).2.1) _
  .have h0:j≠0:=λe=>by
    have:=bR.2 (b.A k a).ne;omega
   refine h.same b rfl rfl (Ia s k j _) (λK f=>?_);show(eU (kS s k j _) K).M=_;rw[RP a (b.A k a).ne,aH (λq=>h0 q.2)]
 .exact h
theorem fO.fB(h:fO Q O s)(q:Safe s)(p:k<s.lines.length):fO Q O (Go.Proofs.YtmaiggbnceejiaaGreatDoor.fB s k):=by
 unfold Go.Proofs.YtmaiggbnceejiaaGreatDoor.fB;generalize List.range (s.A k).nodes.length=f
 suffices key:∀(f:List Nat) (S:dp),Safe S->k<S.lines.length->fO Q O S->fO Q O (f.foldl (Go.Proofs.YtmaiggbnceejiaaGreatDoor.fX k) S)from key f s q p h
 intro f
 induction f with
|nil=>exact λS _ _ c=>c
|cons j f g=>
  intro S a b c;obtain⟨d,e⟩:=a.fX (k:=k) (j:=j) b;exact g _ d (by rw[e.mv.ll];exact b) (c.fX a b)
theorem fO.tick(h:fO Q O s)(p:Safe s):fO Q O (kq s):=by
 unfold kq
 suffices key:∀m,m<=s.lines.length->Safe ((List.range m).foldl Go.Proofs.YtmaiggbnceejiaaGreatDoor.fB s)/\iN s ((List.range m).foldl Go.Proofs.YtmaiggbnceejiaaGreatDoor.fB s)/\fO Q O ((List.range m).foldl Go.Proofs.YtmaiggbnceejiaaGreatDoor.fB s)from(key _ (aD _)).2.2
 intro m
 induction m with
|zero=>exact λ_=>⟨p,iN.refl s,h⟩
|succ m g=>
  intro q;rw[aZ,ae];obtain⟨a,b,e⟩:=g (by omega);have f:m<((List.range m).foldl Go.Proofs.YtmaiggbnceejiaaGreatDoor.fB s).lines.length:=by rw[b.mv.ll];omega
  obtain⟨c,d⟩:=RM a (k:=m) f;exact⟨c,b.trans d,e.fB a f⟩
theorem fO.fj(h:fO Q O s)(d:Safe s)(v:Held s)(k:Nat):fO Q O (jU s k):=by
 unfold jU
 cases u:s.J.way[k]? with
|none=>exact h
|some m=>
  have ht:Safe (fa s k):=d.way λz a=>bk a;have f:fO Q O (fa s k):=h.same d rfl rfl rfl (λ_ _=>rfl);simp only
  cases r:nf s m.C3 with
 |none=>exact f
 |some q=>
   obtain⟨e,j⟩:=q;obtain⟨c,n,b,p,y⟩:=EY r;have a:CA (fa s k) m:=d.msg m (aC u);have g:=ht.step (k:=e) (j:=j) (n:=n) c b a;have w:lT (fa s k) (mM (fa s k) e j m):=(iN.step (s:=fa s k) c b p m).tD g (v.lines rfl rfl);exact(f.step ht c b m).settle g w.held
theorem fO.end_(h:fO Q O s)(p:Rest s)(id:Int):fO Q O (gK s id).1:=by
 unfold gK;split
 .exact h
 split
 .exact h
 rename_i B A;obtain⟨i,rfl,f,e,g⟩:=pB (by simpa using B);rw[aU];obtain⟨y,D,V,w,z⟩:=h;have q:=p.c.safe;have d:Safe (du s i {s.I i with state:=2}):=q.write (ws:=(s.I i).writes) (st:=2) f e g (q.I i f e).few (.inr rfl);have u:Held (du s i {s.I i with state:=2}):=p.c.held.ending f e rfl g (IY (by simpa using A));have r:fO Q O (du s i {s.I i with state:=2}):=⟨y,D,V,w.tx1 f e rfl (λk v=>v) (.inr ⟨g,rfl⟩),z⟩;obtain⟨a,b,_⟩:=uO d;exact(r.tell d).settle a (u.lines b.keys b.U)
theorem fO.ey(h:fO Q O s)(d:Safe s)(G:Held s)(a:k<s.lines.length):fO Q O (Go.Proofs.YtmaiggbnceejiaaGreatDoor.ey s k):=by
 unfold Go.Proofs.YtmaiggbnceejiaaGreatDoor.ey;split
 .exact h
 .rename_i e;obtain⟨p,y⟩:=OK e;have hF:Safe (fE s k):=d.fE a p y;have z:Held (fE s k):=G.lines rfl rfl;have c:k<(fE s k).lines.length:=by rw[tz];exact a
  obtain⟨v,D,V,u,w⟩:=h;have r:∀i,i≠k->(eU (fE s k) i).M=(eU s i).M:=λi F=>by
   unfold eU;rw[FY s a,aH F]
  show fO Q O (qg (fE s k) k);by_cases B:k<dz s
  .refine⟨v,D,V,fH.zU hF z c (u.A (s':=fE s k) d rfl rfl (tz s k) B r ?_),w⟩;have f:fc s k≠[]:=p
   cases b:fc s k with
  |nil=>exact absurd b f
  |cons x H=>
    have C:x∈(s.A k).nodes:=(au.1 (show x∈fc s k by rw[b];simp)).1;have:(eU (fE s k) k).M=x.M:=by
     unfold eU;rw[FY s a,aK rfl,OQ,b];show(kv _ x).M=x.M;have:=((d.A k a).fix (ns:=fc s k) ba p y).2 x (by rw[b];simp);rw[b]at this;exact this.2
    rw[this];exact d.Rr a C
  .
   have g:fH (λ_=>False) O D V (fE s k):=u.same rfl rfl (tz s k) (λK I=>r K (by omega)) d.ll.1;refine⟨v,D,V,fH.zU hF z c (g.less (λid _ _ q=>q)),w⟩
theorem fO.Mc(h:fO Q O s)(c:Safe s)(d:Held s):∀m,m<=s.lines.length->fO Q O ((List.range m).foldl Go.Proofs.YtmaiggbnceejiaaGreatDoor.ey s):=by
 intro m
 induction m with
|zero=>exact λ_=>h
|succ m b=>
  intro e;rw[aZ,ae];obtain⟨a,-⟩:=Eb c d m (by omega);exact(b (by omega)).ey a.safe a.held (by rw[a.ll];omega)
theorem fO.fix(h:fO Q O s)(d:Safe s)(e:Held s):fO Q O (ku s):=by
 unfold ku;obtain⟨a,-⟩:=Eb d e s.lines.length (aD _);obtain⟨b,c,_⟩:=uO a.safe;exact((h.Mc d e _ (aD _)).tell a.safe).settle b (a.held.lines c.keys c.U)
theorem fO.J(h:fO Q O s)(a:Safe s)(net:fS)(dead:List Int):fO Q O {s with J:=net,dead:=dead}:=h.same a rfl rfl rfl (λ_ _=>rfl)
theorem fO.fail(h:fO Q O s)(a:Safe s)(id:Int):fO Q O (qG s id).1:=by
 unfold qG;split
 .exact h
 .exact h.J a _ _
theorem fO.rM(h:fO Q O s)(a:Safe s)(k:Int):fO Q O (qH s k).1:=by
 unfold qH;split
 .exact h.J a _ _
 .exact h
theorem fO.twice(h:fO Q O s)(a:Safe s)(k:Int):fO Q O (oP s k).1:=by
 unfold oP;split
 .split
  .exact h.J a _ _
  .exact h
 .exact h
theorem fO.drain(n:Nat):∀{s:dp},Rest s->fO Q O s->fO Q O (fo n s):=by
 induction n with
|zero=>exact λ_ h=>h
|succ n b=>
  intro s a h;unfold fo;split
  .exact h
  .exact b (a.fj 0) (h.fj a.c.safe a.c.held 0)
theorem fO.turn(h:fO Q O s)(a:Rest s):fO Q O (qJ s):=fO.drain _ a.tick (h.tick a.c.safe)
theorem fO.iO(n:Nat):∀{s:dp},Rest s->fO Q O s->fO Q O (Go.Proofs.YtmaiggbnceejiaaGreatDoor.iO n s):=by
 induction n with
|zero=>exact λ_ h=>h
|succ n c=>
  intro s a h;have b:fO Q O (gL s):=(((h.turn a).turn a.turn).turn a.turn.turn).turn a.turn.turn.turn;unfold Go.Proofs.YtmaiggbnceejiaaGreatDoor.iO;split
  .exact b
  .exact c a.gL b
theorem fO.calm(h:fO Q O s)(a:Rest s):fO Q O (lQ s):=fO.iO _ a h
end
def ni(dh:List eY)(id:Nat):List fm:=if id=0 then []else((dh[id-1]?).map eY.ops).getD []
theorem IW(dh:List eY)(i:Nat):ni dh (i+1)=((dh[i]?).map eY.ops).getD []:=by unfold ni;rw[aH (by omega),bL]
theorem zZc(dh:List eY)(f e:Int):ni (dh++[⟨[],f,e⟩])=ni dh:=by
 funext id
 cases id with
|zero=>rfl
|succ i=>
  rw[IW,IW];by_cases h:i<dh.length
  .rw[aG h]
  .rw[aL (by omega),aX (l:=dh) (by omega)]
   cases a:i-dh.length with
  |zero=>rfl
  |succ n=>rfl
theorem yEb(h:dh[i]?=some t)(o:fm):ni (fM dh (i+1) o)=EJ (ni dh) (i+1) o:=by
 have a:=(aB.1 h).1;unfold fM;rw[bL,h];simp only;funext id;unfold EJ
 cases id with
|zero=>rw[aH (by omega)];rfl
|succ j=>
  rw[IW,IW,IW,bz];by_cases e:i=j
  .subst e;rw[aK rfl,aK a,aK rfl,h];rfl
  .rw[aH e,aH (by omega)]
theorem zZb{txs':List eY}(h:∀i:Nat,(txs'[i]?).map eY.ops=(dh[i]?).map eY.ops):ni txs'=ni dh:=by
 funext id
 cases id with
|zero=>rfl
|succ i=>rw[IW,IW,h]
def RtT(dh:List eY)(a b:Nat):Prop:=∃t u,0<a/\0<b/\dh[a-1]?=some t/\dh[b-1]?=some u/\0<=t.fN/\t.fN<u.eP
def qs(dh:List eY)(D:List Nat):Prop:=(∀a t,0<a->dh[a-1]?=some t->0<=t.fN->a∈D)/\∀a b,b∈D->RtT dh a b->∃p q:Nat,p<q/\D[p]?=some a/\D[q]?=some b
theorem qs.more{d:Nat}(h:qs dh D)(C:d∉D):qs dh (D++[d]):=by
 refine⟨λa t v r g=>bW _ (h.1 a t v r g),λa b c f=>?_⟩;have B:a∈D:=by
  obtain⟨t,u,A,_,z,_,y,_⟩:=f;exact h.1 a t A z y
 rcases aM.1 c with c|c
 .obtain⟨p,q,v,r,g⟩:=h.2 a b c f;exact⟨p,q,v,by rw[aG (aB.1 r).1];exact r,by rw[aG (aB.1 g).1];exact g⟩
 .simp at c;subst c;obtain⟨p,w⟩:=aP B;have e:=(aB.1 w).1;exact⟨p,D.length,e,by rw[aG e];exact w,by rw[aL (aD _)];simp⟩
structure iy(s:eF):Prop where
 kH:fO (qs s.U) (ni s.U) s.h
 eP:∀t∈s.U,t.eP<=s.now
theorem fO.Ol{Q Q':List Nat->Prop}{O:Nat->List fm}{s:dp}(h:fO Q O s)(c:∀D V,fH (λ_=>False) O D V s->Q D->Q' D)(a:∀D d,Q' D->d∉D->Q' (D++[d])):fO Q' O s:=by
 obtain⟨_,D,V,b,e⟩:=h;exact⟨a,D,V,b,c D V b e⟩
theorem qs.push{f:Int}(h:qs dh D)(C:∀a∈D,0<a/\a<=dh.length):qs (dh++[⟨[],f,-1⟩]) D:=by
 have old:∀{a:Nat} {t:eY},0<a->(dh++[⟨[],f,-1⟩])[a-1]?=some t->dh[a-1]?=some t\/t=⟨[],f,-1⟩:=λ{a t} H ht=>by
  by_cases B:a-1<dh.length
  .rw[aG B]at ht;exact .inl ht
  .rw[aL (by omega)]at ht;have:=aC ht;simp at this;exact .inr this
 refine⟨λa t w G g=>?_,λa b v e=>?_⟩
 .rcases old w G with q|q
  .exact h.1 a t w q g
  .rw[q]at g;simp at g
 .obtain⟨t,u,r,A,z,p,c,y⟩:=e;have F:=C b v;have d:dh[b-1]?=some u:=by
   rw[aG (by omega)]at p;exact p
  rcases old r z with q|q
  .exact h.2 a b v ⟨t,u,r,A,q,d,c,y⟩
  .rw[q]at c;simp at c
theorem qs.fM(h:qs dh D)(id:Nat)(o:fm):qs (Go.Proofs.YtmaiggbnceejiaaGreatDoor.fM dh id o) D:=by
 have old:∀{a:Nat} {t:eY},(Go.Proofs.YtmaiggbnceejiaaGreatDoor.fM dh id o)[a-1]?=some t->∃c,dh[a-1]?=some c/\c.fN=t.fN/\c.eP=t.eP:=λ{a t} ht=>by
  unfold Go.Proofs.YtmaiggbnceejiaaGreatDoor.fM at ht;split at ht
  .rename_i u y;rw[bz]at ht;split at ht
   .rename_i e;split at ht
    .cases ht
     exact⟨u,by rw[<-e];exact y,rfl,rfl⟩
    .cases ht
   .exact⟨t,ht,rfl,rfl⟩
  .exact⟨t,ht,rfl,rfl⟩
 refine⟨λa t B A K=>?_,λa b z f=>?_⟩
 .obtain⟨c,d,g,_⟩:=old A;exact h.1 a c B d (by omega)
 .obtain⟨t,u,d,g,w,v,J,I⟩:=f;obtain⟨c,r,H,G⟩:=old w;obtain⟨q,p,F,C⟩:=old v;exact h.2 a b z ⟨c,q,d,g,r,p,by omega,by omega⟩
theorem yYy(h:iy s)(B:qx m s)(x:ActD):iy (eV s x):=by
 have b:=B.rest;have z:=b.c.safe;have T:=b.c.held;have N:2<=s.h.lines.length:=z.ll.1;have JO:∀{dh:List eY} D d,qs dh D->d∉D->qs dh (D++[d]):=λD d q hd=>q.more hd;have fin:∀(w:dp),fO (qs s.U) (ni s.U) w->∀r:eF,r={s with h:=w}->iy r:=λw q r b=>by
  subst b;exact⟨q,h.eP⟩
 have told:∀(w:dp) (i:Nat) (t:eY) (o:fm),s.U[i]?=some t->fO (qs s.U) (EJ (ni s.U) (i+1) o) w->∀r:eF,r={s with h:=w,U:=fM s.U (i+1) o}->iy r:=λw i t o ht q r b=>by
  subst b;refine⟨?_,λu L=>?_⟩
  .show fO (qs (fM s.U (i+1) o)) (ni (fM s.U (i+1) o)) w;rw[yEb ht];exact q.Ol (λD V _ P=>P.fM _ _) JO
  .show u.eP<=s.now;have p:u∈fM s.U (i+1) o:=L;unfold fM at p;rw[bL,ht]at p;simp only at p;rcases bG p with q|q
   .exact h.eP u q
   .rw[q];exact h.eP t (aC ht)
 obtain⟨r,fK⟩:∃r,r=eV s x:=⟨_,rfl⟩;rw[<-fK];have A:∀{i:Nat},ff s x=i+1->∃t,s.U[i]?=some t:=λ{i} e=>by
  unfold ff at e;split at e
  .rename_i q;have:=FT x.I s.U.length q;exact⟨_,aA (by omega)⟩
  .omega
 unfold eV at fK;by_cases e0:x.what=0
 .rw[aK e0]at fK;by_cases e:s.U.length<7
  .rw[aK e]at fK;subst fK;refine⟨?_,λu L=>?_⟩
   .show fO (qs (s.U++[⟨[],s.now,-1⟩])) (ni (s.U++[⟨[],s.now,-1⟩])) (mB s.h);rw[zZc];refine(h.kH.Ol (Q':=qs (s.U++[⟨[],s.now,-1⟩])) (λD V hX P=>P.push (λa ha=>?_)) JO).begin N;have:=(hX.dm a).1 ha;rw[B.tl]at this;exact⟨by omega,this.2.1⟩
   .show u.eP<=s.now;rcases aM.1 L with q|q
    .exact h.eP u q
    .simp at q;rw[q];exact bO _
  .rw[aH e]at fK;rw[fK];exact h
 rw[aH e0]at fK;by_cases e1:x.what=1
 .rw[aK e1]at fK;obtain⟨S,R⟩:=h.kH.get b (ff s x) (fC x);by_cases e:(fG s.h (ff s x) (fC x)).2.2.2=0/\0<ff s x
  .rw[aK e]at fK;obtain⟨i,C⟩:=Nat.exists_eq_succ_of_ne_zero (show ff s x≠0 by omega);obtain⟨t,ht⟩:=A C;have y:ff s x=i+1:=C;have g:=S e.1;rw[y]at g fK;exact told _ i t _ ht g r fK
  .rw[aH e]at fK;by_cases f:(fG s.h (ff s x) (fC x)).2.2.2=0
   .exfalso;have K:ff s x=0:=by
     apply aS;intro q;exact e ⟨f,by omega⟩
    rw[K]at f;have:oN s.h ((0:Nat):Int) (fC x)≠0:=λq=>by
     obtain⟨j,h1,h2,_⟩:=pB (pL q).1;omega
    unfold fG at f;rw[aK this]at f;exact this f
   .exact fin _ (R f) r fK
 rw[aH e1]at fK;by_cases f:x.what=2\/x.what=3
 .rw[aK f]at fK;obtain⟨S,R⟩:=h.kH.put b (ff s x) ⟨fC x,iP x,decide (x.what=3)⟩;have M:(⟨if (⟨fC x,iP x,decide (x.what=3)⟩:gB).gone then 3 else 2,fC x,iP x,false⟩:fm)=⟨x.what,fC x,iP x,false⟩:=by
   congr 1;obtain q|q:=f <;> simp[q]
  by_cases e:(fg s.h (ff s x) ⟨fC x,iP x,decide (x.what=3)⟩).2=0/\0<ff s x
  .rw[aK e]at fK;obtain⟨i,C⟩:=Nat.exists_eq_succ_of_ne_zero (show ff s x≠0 by omega);obtain⟨t,ht⟩:=A C;have y:ff s x=i+1:=C;have g:=S e.1;rw[M]at g;rw[y]at g fK;exact told _ i t _ ht g r fK
  .rw[aH e]at fK;by_cases v:(fg s.h (ff s x) ⟨fC x,iP x,decide (x.what=3)⟩).2=0
   .exfalso;have K:ff s x=0:=by
     apply aS;intro q;exact e ⟨v,by omega⟩
    rw[K]at v;have:oN s.h ((0:Nat):Int) (fC x)≠0:=λq=>by
     obtain⟨j,h1,h2,_⟩:=pB (pL q).1;omega
    unfold fg at v;split at v
    .simp at v
    .first
     |exact this v
     |(rw[aK this]at v;exact this v)
   .exact fin _ (R v) r fK
 rw[aH f]at fK;by_cases e4:x.what=4
 .rw[aK e4]at fK;exact fin _ (h.kH.end_ b _) r fK
 rw[aH e4]at fK;by_cases e5:x.what=5
 .rw[aK e5]at fK;by_cases e:x.a.tmod 4=0
  .rw[aK e]at fK;exact fin _ (h.kH.drop b _) r fK
  .rw[aH e]at fK;rw[fK];exact h
 rw[aH e5]at fK;by_cases Z:x.what=6
 .rw[aK Z]at fK;by_cases e:0<s.h.J.way.length
  .rw[aK e]at fK;exact fin _ (h.kH.fj z T _) r fK
  .rw[aH e]at fK;rw[fK];exact h
 rw[aH Z]at fK;by_cases Y:x.what=7
 .rw[aK Y]at fK;by_cases e:0<s.h.J.way.length
  .rw[aK e]at fK;exact fin _ (h.kH.rM z _) r fK
  .rw[aH e]at fK;rw[fK];exact h
 rw[aH Y]at fK;by_cases X:x.what=8
 .rw[aK X]at fK;by_cases e:0<s.h.J.way.length
  .rw[aK e]at fK;exact fin _ (h.kH.twice z _) r fK
  .rw[aH e]at fK;rw[fK];exact h
 rw[aH X]at fK;by_cases W:x.what=9
 .rw[aK W]at fK;exact fin _ (h.kH.tick z) r fK
 rw[aH W]at fK;by_cases H:x.what=10
 .rw[aK H]at fK;refine fin _ ?_ r fK;unfold CF;split
  .exact h.kH.fail z _
  .exact h.kH
 rw[aH H]at fK;by_cases G:x.what=11
 .rw[aK G]at fK;exact fin _ (h.kH.fix z T) r fK
 rw[aH G]at fK;by_cases F:x.what=12
 .rw[aK F]at fK;exact fin _ (h.kH.calm b) r fK
 rw[aH F]at fK;rw[fK];exact h
theorem yXp(h:iy s)(K:s.h.U.length=s.U.length)(lN:0<=s.now):iy (nn s):=by
 have I:ni (nn s).U=ni s.U:=zZb λi=>by
  unfold nn;rw[bS,Option.map_map]
  cases s.U[i]? with
 |none=>rfl
 |some t=>
   simp only[bJ,Function.comp];split <;> rfl
 refine⟨?_,λu J=>?_⟩
 .rw[I];refine h.kH.Ol (λD V S B=>?_) (λD d q M=>q.more M);have old:∀{a:Nat} {t:eY},0<a->(nn s).U[a-1]?=some t->∃c,s.U[a-1]?=some c/\c.eP=t.eP/\(c.fN=t.fN\/(t.fN=s.now/\iB s.h a=3)):=λ{a t} ha ht=>by
   unfold nn at ht;rw[bS]at ht
   cases p:s.U[a-1]? with
  |none=>rw[p]at ht;cases ht
  |some c=>
    rw[p,bJ]at ht;have ht:=bA ht;refine⟨c,rfl,?_⟩;split at ht
    .rename_i e;rw[<-ht];have N:((a-1:Nat):Int)+1=a:=by omega
     rw[N]at e;exact⟨rfl,.inr ⟨rfl,e.2⟩⟩
    .rw[<-ht];exact⟨rfl,.inl rfl⟩
  refine⟨λa t C T h3=>?_,λa b P A=>?_⟩
  .obtain⟨c,r,v,z|⟨z,g⟩⟩:=old C T
   .exact B.1 a c C r (by omega)
   .rw[S.dm];have R:=(aB.1 r).1;unfold iB at g;split at g
    .exact⟨by omega,by omega,by simpa using g⟩
    .simp at g
  .obtain⟨t,u,r,v,z,g,Z,Y⟩:=A;obtain⟨c,H,X,G|⟨G,W⟩⟩:=old r z
   .obtain⟨y,w,F,_⟩:=old v g;exact B.2 a b P ⟨c,y,r,v,H,w,by omega,by omega⟩
   .exfalso;obtain⟨y,w,F,_⟩:=old v g;have:=h.eP y (aC w);omega
 .obtain⟨i,f⟩:=aP J;unfold nn at f;rw[bS]at f
  cases p:s.U[i]? with
 |none=>rw[p]at f;cases f
 |some t=>
   rw[p,bJ]at f;have f:=bA f;have L:=h.eP t (aC p);show u.eP<=s.now;rw[<-f];split <;> exact L
theorem ZB(h:iy s)(a:qx m s)(d:0<=s.now)(x:ActD):iy (lE s x):=by
 have c:iy {s with now:=s.now+1}:=⟨h.kH,λt ht=>by have:=h.eP t ht;show t.eP<=s.now+1;omega⟩;have b:=Qe (a.clock (s.now+1)) x;exact yXp (yYy c (a.clock (s.now+1)) x) b.2.2.2.1 (by rw[b.2.2.2.2.2.1];show(0:Int)<=s.now+1;omega)
def vZ(s:eF):List Nat:=(List.range s.U.length).filter λi=>decide (iB s.h ((i:Int)+1)=3)||decide (iB s.h ((i:Int)+1)=2)
def lZ(s:eF):List eY:=(vZ s).map λi=>s.U.getD i ⟨[],0,0⟩
def sK(l:List Nat)(x:Nat):Nat:=l.findIdx λy=>decide (y=x)
theorem Qa(h:x∈l):l[sK l x]?=some x:=by
 unfold sK;have a:l.findIdx (λy=>decide (y=x))<l.length:=List.findIdx_lt_length_of_exists ⟨x,h,by simp⟩;rw[aA a];have:=List.findIdx_getElem (p:=λy=>decide (y=x)) (w:=a);simp at this;rw[this]
theorem yHl(a:l.Nodup)(h:l[i]?=some x):sK l x=i:=by
 have b:=Qa (aC h);obtain⟨f,d⟩:=aB.1 b;obtain⟨e,c⟩:=aB.1 h;exact(List.getElem_inj a).1 (d.trans c.symm)
theorem yGz(s:eF):(vZ s).Nodup:=List.Pairwise.filter _ List.nodup_range
theorem Vz:i∈vZ s↔i<s.U.length/\(iB s.h ((i:Int)+1)=3\/iB s.h ((i:Int)+1)=2):=by
 unfold vZ;rw[au,bV];simp
theorem Qr(h:(lZ s)[i]?=some t):∃j,(vZ s)[i]?=some j/\s.U[j]?=some t:=by
 unfold lZ at h;rw[ah]at h
 cases b:(vZ s)[i]? with
|none=>rw[b]at h;cases h
|some j=>
  rw[b,bJ]at h;have a:=(Vz.1 (aC b)).1;rw[aI,aA a]at h;exact⟨j,rfl,by rw[aA a];exact h⟩
theorem KR{s:dp}(b:1<=id)(a:id<=s.U.length):iB s (id:Int)=(s.I id).state:=by
 unfold iB uU;rw[aQ (show(1:Int)<=(id:Int) by omega),aQ (show(id:Int)<=(s.U.length:Int) by omega)];simp
theorem iy.fits(h:iy s)(htl:s.h.U.length=s.U.length):∃o s2,jZ (lZ s) [] jv o=some s2/\oB (lZ s) o:=by
 obtain⟨_,D,V,X,hD⟩:=h.kH;have w:∀d∈D,1<=d/\d<=s.U.length/\d-1∈vZ s:=λd c=>by
  obtain⟨L,q2,K⟩:=(X.dm d).1 c;refine⟨L,by omega,Vz.2 ⟨by omega,.inl ?_⟩⟩;have e:((d-1:Nat):Int)+1=(d:Int):=by omega
  rw[e,KR L q2];exact K
 obtain⟨o,ho⟩:∃o,o=D.map λd=>sK (vZ s) (d-1):=⟨_,rfl⟩;have g:=yGz s;have z:∀(p d:Nat),D[p]?=some d->o[p]?=some (sK (vZ s) (d-1)):=λp d f=>by rw[ho,ah,f];rfl
 have G:∀d∈D,∀J∈D,sK (vZ s) (d-1)=sK (vZ s) (J-1)->d=J:=λd c J I e=>by
  have a:=Qa (w d c).2.2;have b:=Qa (w J I).2.2;rw[e,b]at a;have:=bA a;have:=(w d c).1;have:=(w J I).1;omega
 have Z:o.Nodup:=by
  rw[ho];unfold List.Nodup;rw[cH];refine dA ?_ X.nd;intro a b W hb T e;exact T (G a W b hb e)
 have B:∀d∈D,sK (vZ s) (d-1)∈o:=λd c=>by rw[ho];exact aj.2 ⟨d,c,rfl⟩
 have hW:oB (lZ s) o:=λi t S ht=>by
  obtain⟨j,hj,Y⟩:=Qr S;have c:=hD.1 (j+1) t (by omega) (by simpa using Y) ht;have:=B _ c;rw[bL,yHl g hj]at this;exact this
 have hA:FQ (lZ s) o:=λi k t u S hk h0 P f wy=>by
  obtain⟨ji,Be,Y⟩:=Qr S;obtain⟨M,F,Lz⟩:=Qr hk;have C:k∈o:=(KJ o k 0).1 f;have R:M+1∈D:=by
   rw[ho]at C;obtain⟨d,c,he⟩:=aj.1 C;have:=Qa (w d c).2.2;rw[he,F]at this;have:=bA this;have:=(w d c).1;rw[show M+1=d by omega];exact c
  obtain⟨p,q,Sj,Lj,GL⟩:=hD.2 (ji+1) (M+1) R ⟨t,u,by omega,by omega,by simpa using Y,by simpa using Lz,h0,P⟩;have a1:=z p _ Lj;have a2:=z q _ GL;rw[bL,yHl g Be]at a1;rw[bL,yHl g F]at a2;rw[Qx Z a1,Qx Z a2]at wy;omega
 -- the run
 have A:∀(y:List Nat) (v:gh),(∀d∈y,d∈D)->iM (lZ s) v (y.map λd=>sK (vZ s) (d-1))=mR (ni s.U) v y:=by
  intro y
  induction y with
 |nil=>intro v _;rfl
 |cons d y ih=>
   intro v H;obtain⟨L,q2,K⟩:=w d (H d (by simp));have f:=Qa K;have N:(lZ s)[sK (vZ s) (d-1)]?=some (s.U.getD (d-1) ⟨[],0,0⟩):=by
    unfold lZ;rw[ah,f];rfl
   have je:ni s.U d=(s.U.getD (d-1) ⟨[],0,0⟩).ops:=by
    unfold ni;rw[aH (by omega),aI]
    cases s.U[d-1]? with
   |none=>rfl
   |some t=>rfl
   rw[bZ,iM,mR,N,je];simp only
   cases iJ v (s.U.getD (d-1) ⟨[],0,0⟩).ops with
  |none=>rfl
  |some r=>exact ih r.1 (λx hx=>H x (by simp[hx]))
 have hR:iM (lZ s) jv o=some V:=by rw[ho,A D jv (λ_ c=>c)];exact X.run
 refine⟨o,V,(KO (lZ s) o [] jv V).2 ⟨λp n f=>?_,hR⟩,hW⟩;rw[aa];exact yHt Z hA f (λm t u ht hu W=>hW m t ht W.1)
theorem iy.Kq(h:iy s)(a:s.h.U.length=s.U.length):¬IK (lZ s) [] jv:=λc=>by
 obtain⟨o,b,e,d⟩:=h.fits a;exact c o b e (by simpa using d)
theorem yVc(h:1<=k/\k<=3):(fp 2 k).U.length=0/\dz (fp 2 k)=2/\(eU (fp 2 k) 0).M.length=0/\(eU (fp 2 k) 1).M.length=0:=by
 rcases(show k=1\/k=2\/k=3 by omega)with rfl|rfl|rfl
 .decide +kernel
 .decide +kernel
 .decide +kernel
theorem yVb(h:1<=k/\k<=3)(e:Bool):iy ⟨fp 2 k,[],0,e,k⟩:=by
 obtain⟨I,F,C,B⟩:=yVc h;have w:∀id,ni [] id=[]:=λid=>by cases id <;> rfl
 have p:∀K,K<dz (fp 2 k)->(eU (fp 2 k) K).M=[]:=λK g=>by
  rw[F]at g;rcases(show K=0\/K=1 by omega)with rfl|rfl
  .exact aR C
  .exact aR B
 have f:∀{id},¬km (fp 2 k) id:=λ{id} q=>by have:=q.1;have:=q.2.1;omega
 have A:fH (λ_=>False) (ni []) [] jv (fp 2 k):=by
  refine⟨List.nodup_nil,λid=>⟨λq=>(by cases q),λq=>by omega⟩,rfl,λid _=>w id,λid o r=>(by rw[w id]at r;cases r),λid q=>absurd q f,λid q=>absurd q f,λid H G=>by omega,λid q=>absurd q f,λid q=>absurd q f,λK g c v=>?_,λid q=>absurd q f,λK g i c u=>?_⟩
  .rw[p K g]at v;cases v
  .rw[p K g]at u;simp at u
 exact⟨⟨λD d q y=>q.more y,[],jv,A,λa t _ ht=>(by simp at ht),λa b z=>(by cases z)⟩,λt ht=>(by cases ht)⟩
def IC(o:fm):Prop:=(o.kind=1/\o.found=true)\/o.value.size<=9
def zr(dh:List eY):Prop:=∀t∈dh,∀o∈t.ops,IC o
theorem yLo(x:ActD):(iP x).size<=9:=by
 unfold iP;split
 .rw[ByteArray.size_extract];omega
 .omega
theorem zr.fM(h:zr dh)(id:Nat)(c:IC o):zr (fM dh id o):=λt ht p a=>by
 unfold Go.Proofs.YtmaiggbnceejiaaGreatDoor.fM at ht;split at ht
 .rename_i u b;rcases bG ht with q|q
  .exact h t q p a
  .subst q;rcases aM.1 a with q|q
   .exact h u (aC b) p q
   .simp at q;rw[q];exact c
 .exact h t ht p a
theorem yFf(s:dp)(id:Int)(key:ByteArray):(fG s id key).2.2.1=true\/(fG s id key).2.1.size<=9:=by
 unfold fG;split
 .exact .inr (aT _)
 .dsimp only;split
  .exact .inr (aT _)
  .unfold Kh;dsimp only;split
   .exact .inr (aT _)
   .split
    .exact .inr (aT _)
    .exact .inl rfl
theorem yTb(h:zr s.U)(x:ActD):zr (eV s x).U:=by
 obtain⟨r,hr⟩:∃r,r=eV s x:=⟨_,rfl⟩;rw[<-hr];unfold eV at hr;by_cases c:x.what=0
 .rw[aK c]at hr;by_cases e:s.U.length<7
  .rw[aK e]at hr;rw[hr];intro t ht;rcases aM.1 ht with q|q
   .exact h t q
   .rw[bU]at q;subst q;intro o d;cases d
  .rw[aH e]at hr;rw[hr];exact h
 rw[aH c]at hr;by_cases b:x.what=1
 .rw[aK b]at hr;rw[hr];dsimp only;split
  .refine h.fM _ ?_;rcases yFf s.h (ff s x) (fC x)with q|q
   .exact .inl ⟨rfl,q⟩
   .exact .inr q
  .exact h
 rw[aH b]at hr;by_cases a:x.what=2\/x.what=3
 .rw[aK a]at hr;rw[hr];dsimp only;split
  .exact h.fM _ (.inr (yLo x))
  .exact h
 rw[aH a]at hr;have fin:r.U=s.U:=by
  rw[hr]
  repeat (first|rfl|split)
 rw[fin];exact h
theorem yPe(ht:t∈(nn s).U):∃u∈s.U,t.ops=u.ops:=by
 obtain⟨i,a⟩:=aP ht;unfold nn at a;rw[bS]at a
 cases b:s.U[i]? with
|none=>rw[b]at a;cases a
|some u=>
  rw[b,bJ]at a;have a:=bA a;refine⟨u,aC b,?_⟩;rw[<-a];split <;> rfl
theorem yHn(h:zr s.U)(x:ActD):zr (lE s x).U:=λt ht o a=>by
 obtain⟨u,b,e⟩:=yPe ht;rw[e]at a;exact yTb (s:={s with now:=s.now+1}) h x u b o a
def Oe(V:gh):Prop:=∀k,(V k).text.size<=9
theorem yNm{V f:gh}{us:List (ByteArray×VD)}(h:jQ V o=some (f,us))(a:Oe V)(d:IC o):Oe f/\o.value.size<=9:=by
 unfold jQ at h;split at h
 .split at h
  .rename_i e c
   cases h
   refine⟨a,?_⟩;obtain⟨_,q⟩|q:=d
   .unfold BK at c;rw[aK q]at c;have:=a o.key;rw[c]at this;exact this
   .exact q
  .cases h
 .rename_i e;have b:o.value.size<=9:=d.elim (λq=>absurd q.1 e) id;split at h
  .cases h
   refine⟨λk=>?_,b⟩;unfold oS;split
   .exact b
   .exact a k
  .split at h
   .cases h
    refine⟨λk=>?_,b⟩;unfold oS;split
    .exact aT _
    .exact a k
   .cases h;exact⟨a,b⟩
theorem Zj:∀{os:List fm}{V:gh}{r:gh×List (ByteArray×VD)},iJ V os=some r->Oe V->(∀o∈os,IC o)->Oe r.1/\∀o∈os,o.value.size<=9
|[],V,r,h,c,_=>by
  cases h
  exact⟨c,λo a=>by cases a⟩
|o::os,V,r,h,c,a=>by
  rw[iJ]at h
  cases e:jQ V o with
 |none=>rw[e]at h;cases h
 |some p=>
   obtain⟨y,u⟩:=p;rw[e]at h;simp only at h
   cases d:iJ y os with
  |none=>rw[d]at h;cases h
  |some q=>
    rw[d]at h
    cases h
    obtain⟨w,v⟩:=yNm e c (a o (by simp));obtain⟨g,f⟩:=Zj d w (λp b=>a p (by simp[b]));refine⟨g,λp b=>?_⟩;rcases bB.1 b with q|q
    .rw[q];exact v
    .exact f p q
theorem zYu{O:Nat->List fm}(e:∀id,∀o∈O id,IC o):∀{D:List Nat}{V a:gh},mR O V D=some a->Oe V->Oe a/\∀d∈D,∀o∈O d,o.value.size<=9
|[],V,a,h,b=>by
  cases h
  exact⟨b,λd g=>by cases g⟩
|d::D,V,a,h,b=>by
  rw[mR]at h
  cases c:iJ V (O d)with
 |none=>rw[c]at h;cases h
 |some r=>
   rw[c]at h;obtain⟨y,w⟩:=Zj c b (e d);obtain⟨v,u⟩:=zYu e (D:=D) h y;refine⟨v,λp f=>?_⟩;rcases bB.1 f with q|q
   .rw[q];exact w
   .exact u p q
theorem iy.short(h:iy s)(y:s.h.U.length=s.U.length)(z:zr s.U):∀t∈lZ s,∀o∈t.ops,o.key.size<=20/\o.value.size<=9:=λt ht o a=>by
 obtain⟨_,D,V,c,H⟩:=h.kH;have p:∀id,∀o∈ni s.U id,IC o:=λid o a=>by
  unfold ni at a;split at a
  .cases a
  .cases d:s.U[id-1]? with
  |none=>rw[d]at a;cases a
  |some u=>rw[d]at a;exact z u (aC d) o a
 obtain⟨i,C⟩:=aP ht;obtain⟨j,B,F⟩:=Qr C;obtain⟨G,g⟩:=Vz.1 (aC B);have f:ni s.U (j+1)=t.ops:=by rw[IW,F];rfl
 have b:o∈ni s.U (j+1):=by rw[f];exact a
 refine⟨(c.kd _ o b).2,?_⟩;obtain⟨w,v⟩:=zYu p c.run (λk=>aT _);have e:((j:Int)+1)=((j+1:Nat):Int):=by omega
 rw[e,KR (by omega) (by omega)]at g;obtain q|q:=g
 .exact v (j+1) ((c.dm _).2 ⟨by omega,by omega,q⟩) o b
 .have:=c.opn (j+1) ⟨by omega,by omega,.inr q⟩;obtain⟨r,A⟩:=bF.1 this;exact(Zj A w (p _)).2 o b
def vH(s:eF):Prop:=∀t∈s.U,(0<=t.eP/\t.eP<=s.now)/\-1<=t.fN/\t.fN<=s.now
theorem yAg(ht:t∈fM dh id o):∃u∈dh,u.eP=t.eP/\u.fN=t.fN:=by
 unfold fM at ht;split at ht
 .rename_i u a;rcases bG ht with q|q
  .exact⟨t,q,rfl,rfl⟩
  .exact⟨u,aC a,by rw[q],by rw[q]⟩
 .exact⟨t,ht,rfl,rfl⟩
theorem yYx(h:vH s)(f:qx m s)(v:0<=s.now)(x:ActD):vH (eV s x):=by
 have d:=(Qe f x).2.2.2.2.2.1;obtain⟨r,hr⟩:∃r,r=eV s x:=⟨_,rfl⟩;rw[<-hr]at d⊢;have a:(∀t∈r.U,∃u∈s.U,u.eP=t.eP/\u.fN=t.fN)->vH r:=λq t ht=>by
  obtain⟨u,p,c,b⟩:=q t ht;have:=h u p;rw[d,<-c,<-b];exact this
 unfold eV at hr;by_cases g:x.what=0
 .rw[aK g]at hr;by_cases e:s.U.length<7
  .rw[aK e]at hr;intro t ht;rw[d];rw[hr]at ht;rcases aM.1 ht with q|q
   .exact h t q
   .rw[bU]at q;subst q;exact⟨⟨v,bO _⟩,bO _,by show(-1:Int)<=s.now;omega⟩
  .rw[aH e]at hr;rw[hr];exact h
 rw[aH g]at hr;by_cases c:x.what=1
 .rw[aK c]at hr;refine a λt ht=>?_;rw[hr]at ht;dsimp only at ht;split at ht
  .exact yAg ht
  .exact⟨t,ht,rfl,rfl⟩
 rw[aH c]at hr;by_cases b:x.what=2\/x.what=3
 .rw[aK b]at hr;refine a λt ht=>?_;rw[hr]at ht;dsimp only at ht;split at ht
  .exact yAg ht
  .exact⟨t,ht,rfl,rfl⟩
 rw[aH b]at hr;have fin:r.U=s.U:=by
  rw[hr]
  repeat (first|rfl|split)
 refine a λt ht=>?_;rw[fin]at ht;exact⟨t,ht,rfl,rfl⟩
theorem yQg(h:vH s)(b:qx m s)(p:0<=s.now)(x:ActD):vH (lE s x):=by
 have g:vH {s with now:=s.now+1}:=λt ht=>by
  have q:=h t ht;exact⟨⟨q.1.1,by show t.eP<=s.now+1;omega⟩,q.2.1,by show t.fN<=s.now+1;omega⟩
 have e:=Qe (b.clock (s.now+1)) x;have f:=yYx g (b.clock (s.now+1)) (by show(0:Int)<=s.now+1;omega) x;have d:(eV {s with now:=s.now+1} x).now=s.now+1:=e.2.2.2.2.2.1;intro t ht;obtain⟨i,a⟩:=aP ht;unfold lE nn at a;rw[bS]at a;show(0<=t.eP/\t.eP<=(eV {s with now:=s.now+1} x).now)/\-1<=t.fN/\t.fN<=(eV {s with now:=s.now+1} x).now
 cases c:(eV {s with now:=s.now+1} x).U[i]? with
|none=>rw[c]at a;cases a
|some u=>
  rw[c,bJ]at a;have a:=bA a;have q:=f u (aC c);split at a
  .rw[<-a];exact⟨q.1,by show -1<=(eV {s with now:=s.now+1} x).now;rw[d];omega,bO _⟩
  .rw[<-a];exact q
structure vJ(s:eF):Prop where
 kH:iy s
 short:zr s.U
 tim:vH s
theorem vJ.new(h:1<=k/\k<=3)(a:Bool):vJ ⟨fp 2 k,[],0,a,k⟩:=⟨yVb h a,λt ht=>(by cases ht),λt ht=>(by cases ht)⟩
theorem vJ.uS(h:vJ s)(a:qx m s)(b:s.now=m)(x:ActD):vJ (lE s x):=⟨ZB h.kH a (by omega) x,yHn h.short x,yQg h.tim a (by omega) x⟩
