import Derived.Test.YtmaiggbnceejiaaGreatDoorL07
import Derived.Maps.StringElems
import Derived.Maps.RangeWalk
import Derived.ChangeMaps5
import Derived.Shelf.Lays
import Derived.Shelf.Sort.Plain
import Derived.Shelf.Slices.In.SortNone2
import Derived.Ground.NamesProg
set_option linter.unusedVariables false
set_option maxRecDepth 100000
set_option maxHeartbeats 16000000
namespace Go.Proofs.YtmaiggbnceejiaaGreatDoor
open Go.RowKit Go.Lib Go.Maps
variable {c m:dw}{g j b i B q:Nat}{t:TypeId}{α:Type}{w wr wr':World}{p:dw->Bool}{ms:List dw}{R cs:List Value}{v:Value}
structure ym(f q:Nat)(p:dw->Bool)(w:World):Prop where
 enter:∀(args:Array Value) (w:World),(callFunc f args).run Tryz.prog w=.ok (.enter f args) w
 ask:∀(d:dw) (wr:World),wr.heap[q]?=w.heap[q]? ->
  Calls Tryz.prog f #[.agg #[.int .i64 d.I,.int .i64 d.mode],.pointer (some ⟨q,0,none⟩)] wr λe w'=>e=.returned (.bool (p d))/\Mod dt wr w'
theorem zu {f : FuncId}{d : Func}{c : Code}(e : Tryz.prog.funcs[f]? = some d) (a : (d.name== "runtime.NumGoroutine") = false) (h : d.body = some c) (args : Array Value) (w : World) : (callFunc f args).run Tryz.prog w = .ok (.enter f args) w := by
 have k : d.name ≠ "runtime.NumGoroutine" := by simpa using a
 simp[callFunc,e,k,h]
def uL(p:dw->Bool):List dw->Option Nat
|[]=>none
|m::ms=>if p m then some 0 else(uL p ms).map (·+1)
theorem yFl(p:dw->Bool):∀(ms:List dw) (k:Nat),(∀i m,i<k->ms[i]?=some m->p m=false)->∀m,ms[k]?=some m->p m=true->uL p ms=some k
|[],_,_,m,h,_=>by simp at h
|d::ms,0,_,m,h,a=>by simp at h;subst h;simp[uL,a]
|d::ms,k+1,e,m,h,a=>by
  have h0:=e 0 d (by omega) rfl;have:=yFl p ms k (λi m l f=>e (i+1) m (by omega) (by simpa using f)) m (by simpa using h) a;simp[uL,h0,this]
theorem zWt(p:dw->Bool):∀(ms:List dw),(∀(i:Nat) m,ms[i]?=some m->p m=false)->uL p ms=none
|[],_=>rfl
|m::ms,h=>by
  have h0:=h 0 m rfl;simp[uL,h0,zWt p ms (λi m a=>h (i+1) m (by simpa using a))]
theorem zZu(p:dw->Bool):∀(ms:List dw),(uL p ms).isSome=ms.any p
|[]=>rfl
|m::ms=>by
  unfold uL;by_cases h:p m=true
  .simp[h]
  .simp[h,zZu p ms]
def QV(o:Option Nat):Int:=match o with|none=>-1|some k=>k
theorem zZm(f q L:Nat)(p:dw->Bool)(v:Value)(ms:List dw)(w:World)(s:yo w L v ms)(hA:ym f q p w)(O:q<w.heap.size)(hf:ms.length<=1000) :
  Calls Tryz.prog 171 #[v,.func (.func f) #[] #[.pointer (some ⟨q,0,none⟩)]] w λe I=>e=.returned (.int .i64 (QV (uL p ms)))/\Mod dt w I:=by
 have V:=dk s;obtain⟨a,U,rfl,T,S⟩:=gD.slice s;have W:=dk hA;have Q:=hA.enter;clear s hA;go_enter Tryz.func171,Tryz.ntmps171;go_wp2_with fail;go_loopw [8] (λi wr=>∃k:Nat,k<=ms.length/\i=.int .i64 k/\(∀i m,i<k->ms[i]?=some m->p m=false)/\Mod dt w wr) (λi _=>ms.length-(intOf i).toNat)
 case atStart=>exact⟨0,aT _,rfl,λi m h=>by omega,Mod.refl _ _⟩
 case round=>
  obtain⟨k,hk,rfl,n,F⟩:=hrel;have r:=dk n;have o:=dk F;clear n F;by_cases u:k<ms.length
  .obtain⟨m,l⟩:∃m,ms[k]?=some m:=⟨_,aA u⟩;obtain⟨b,M,rfl,_,A,z⟩:=V.out.at l;have K:=o.out.cell A id;have J:=o.out.cell z id;have H:=dk (W.out.ask m wr (o.out.block q O id));have D:=dk l;have Z:(k:Int)<(ms.length:Int):=by omega
   have Y:(0:Int)<=(k:Int):=by omega
   clear l A z;go_wp2_with fail;refine H.out.mono ?_;rintro e X⟨rfl,G⟩;have C:=dk (o.out.trans G);clear H K J G
   cases E:p m with
  |true=>
    have y:=dk (yFl p ms k r.out m D.out E);go_wp2_with fail;go_ret;exact⟨by rw[y.out];rfl,C.out⟩
  |false=>
    go_wp2_with fail;go_roundw
    case rel=>
     refine⟨k+1,by omega,by go_num,λi N P d=>?_,C.out⟩;by_cases x:i<k
     .exact r.out i N x d
     .obtain rfl:i=k:=by omega
      rw[D.out]at d;cases d;exact E
    case measure=>simp[intOf];omega
  .have y:=dk (zWt p ms (λi m l=>r.out i m (by have:=(aB.1 l).1;omega) l));go_wp2_with fail;go_ret;exact⟨by rw[y.out];rfl,o.out⟩
theorem zRt(f q L:Nat)(p:dw->Bool)(v:Value)(ms:List dw)(w:World)(d:yo w L v ms)(hA:ym f q p w)(l:q<w.heap.size)(o:ms.length<=1000) :
  Calls Tryz.prog 148 #[v,.func (.func f) #[] #[.pointer (some ⟨q,0,none⟩)]] w λe h=>e=.returned (.bool (ms.any p))/\Mod dt w h:=by
 have y:=dk (zZm f q L p v ms w d hA l o);obtain⟨a,u,rfl,s,r⟩:=gD.slice d;have x:Hid (decide (QV (uL p ms) ≥ 0)=ms.any p):=by
  rw[Hid,<-zZu]
  cases uL p ms with
 |none=>rfl
 |some k=>simp[QV]
 clear d hA;go_enter Tryz.func148,Tryz.ntmps148;go_wp2_with fail;refine y.out.mono ?_;rintro e w1⟨rfl,n⟩;go_wp2_with fail;go_ret;exact⟨by rw[<-x.out];rfl,n⟩
def yAo:Array Value:=#[.int .i64 0,.int .i64 0]
def AD(n:Nat):List Value:=(Builtin.zeroCells yAo n).toList
theorem Zh(n:Nat):(AD n).length=n*2:=by rw[AD,cM,size_zeroCells];rfl
theorem yLj(n:Nat):∀v∈AD n,v.oneCell'=true:=by
 intro v a;simp only[AD,Builtin.zeroCells,dU,aj]at a;obtain⟨i,_,rfl⟩:=a;have e:∀j,j<2->(yAo[j]!).oneCell'=true:=by
  intro j d
  match j,d with
 |0,_=>rfl
 |1,_=>rfl
 exact e _ (dP _ (by decide))
theorem yTr(w:World):(zeroValue 170).run Tryz.prog w=.ok (.agg #[.int .i64 0,.int .i64 0]) w:=by kernel_rfl
theorem yMg(w:World)(d:TypeId)(b o n c:Nat)(l:0<n)(k:∀j,j<n*2->(w.cell? ⟨b,o+j,none⟩).isSome=true)(h:∀j,j<n*2->w.frozen? ⟨b,o+j,none⟩=false) :
  (Builtin.clear_ #[166] d #[.slice (some ⟨b,o,none⟩) n c]).run Tryz.prog w=.ok (.tuple #[]) (w.setCells b o (AD n)):=by
 have a:=B3 (P:=Tryz.prog) b o (AD n) 0 w (by simpa[Zh]using k) (by simpa[Zh]using h) (yLj n);simp only[bK]at a;obtain⟨m,rfl⟩:∃m,n=m+1:=⟨n-1,by omega⟩;have f:=yTr;have e:(Value.agg #[.int .i64 0,.int .i64 0]).cells=yAo:=rfl;simp only[AD]at a⊢;simp[Builtin.clear_,run_underlying Tryz.underlying166,f,e,a]
theorem yAq{w:World}{e:Array Oper}{rest:List Oper}{o:Oper}{a:Act}{Q:Exit->Act->World->Prop}(f:o.guard=none)(s:Operand)
  (r:o.op=.call {callee:=.builtin .clear,args:=#[s],argTypes:=#[166]}) (b d n c:Nat) (k:a.eval s=.slice (some ⟨b,d,none⟩) n c) (u:0<n)
  (y:∀j,j<n*2->(w.cell? ⟨b,d+j,none⟩).isSome=true) (x:∀j,j<n*2->w.frozen? ⟨b,d+j,none⟩=false)
  (h:wpList Tryz.prog e Q rest (a.put o.dst (.tuple #[])) (w.setCells b d (AD n))):wpList Tryz.prog e Q (o::rest) a w:=by
 refine A2 f λK z=>?_;have l:=yMg w o.type b d n c u y x;unfold Oper.wp execOp;simp only[r,resolve,invoke,builtin,Sem.run_bind,Sem.run_pure,Result.andThen_ok,cD,bZ,cO,k,l];exact z _ _ h
theorem dx.lK:∀(d:List Value) (w:World) (a old c:List Value),dx w g (a++old++c) t->old.length=d.length->dx (w.setCells g a.length d) g (a++d++c) t
|[],w,a,old,c,h,f=>by
  have:old=[]:=aR f;subst this;exact h
|v::d,w,a,[],c,h,f=>by simp at f
|v::d,w,a,x::old,c,h,f=>by
  have k:=h.set a.length v;have e:((a++x::old++c).set a.length v)=(a++[v])++old++c:=by simp
  rw[e]at k;have:=dx.lK d (w.setCell ⟨g,a.length,none⟩ v) (a++[v]) old c k (by simpa using f);simp only[aE,aW,bC]at this;rw[World.setCells];simpa using this
theorem Mod.lK:∀(a:List Value) (o:Nat) (w:World),Mod (eQ g) w (w.setCells g o a)
|[],_,_=>Mod.refl _ _
|v::a,o,w=>(Mod.eE g o v).trans (Mod.lK a (o+1) (w.setCell ⟨g,o,none⟩ v))
theorem ZS(A X R:List α)(k:Nat):A++X.take k++(X.drop k++R)=A++X++R:=by
 rw[aV,aV,<-aV (X.take k),ar]
theorem wJ{l:List α}{x:α}(h:l[j]?=some x):l.drop j=x::l.drop (j+1):=by
 have a:j<l.length:=(aB.1 h).1;rw[aA a]at h;simp at h;rw[<-h,<-bw a]
theorem rq{l:List α}{x:α}(h:l[j]?=some x):l.take (j+1)=l.take j++[x]:=by
 have a:j<l.length:=(aB.1 h).1;rw[aA a]at h;simp at h;rw[ax a,h]
def oO(p:dw->Bool)(ms:List dw):List dw:=ms.filter (λm=>!p m)
theorem zZl(p:dw->Bool)(ms:List dw)(m:dw):oO p (ms++[m])=if p m then oO p ms else oO p ms++[m]:=by
 unfold oO;rw[dE]
 cases h:p m <;> simp[h]
theorem zZv(p:dw->Bool):∀ms,uL p ms=none->oO p ms=ms
|[],_=>rfl
|m::ms,h=>by
  unfold uL at h;split at h
  .cases h
  .rename_i d;have a:p m=false:=by simpa using d
   have:=zZv p ms (by simpa using h);unfold oO at this⊢;rw[cE,aK (by simp[a]),this]
theorem zWs(p:dw->Bool):∀ms k,uL p ms=some k->k<ms.length/\oO p (ms.take (k+1))=ms.take k
|[],_,h=>by simp[uL]at h
|m::ms,k,h=>by
  unfold uL at h;split at h
  .rename_i d;simp at h;subst h;refine⟨by simp,?_⟩;simp[oO,d]
  .rename_i d;have a:p m=false:=by simpa using d
   obtain⟨l,e,rfl⟩:=cN.1 h;obtain⟨n,f⟩:=zWs p ms l e;refine⟨by simp;omega,?_⟩;unfold oO at f⊢;rw[az,cE,aK (by simp[a]),f,az]
def nH(w wr:World)(b:Nat)(p:dw->Bool)(ms:List dw)(R:List Value)(i j:Nat):Prop:=
 ∃a:List Value,i=(oO p (ms.take j)).length/\a.length=(j-i)*2/\i<j/\j<=ms.length /\
  dx wr b (fZ (oO p (ms.take j))++a++(fZ (ms.drop j)++R)) 170/\Mod (eQ b) w wr
theorem nH.start{k0:Nat}(h:k0<ms.length)(a:oO p (ms.take (k0+1))=ms.take k0)(hB:dx w b (fZ ms++R) 170)(d:Mod dt w wr):nH w wr b p ms R k0 (k0+1):=by
 obtain⟨m,hm0⟩:∃m,ms[k0]?=some m:=⟨_,aA h⟩;have f:ms=ms.take k0++m::ms.drop (k0+1):=by
  rw[<-wJ hm0,ar]
 refine⟨gC m,by rw[a,af];omega,by simp[gC],by omega,by omega,?_,d.mono (λ_ _ e=>e.elim)⟩;rw[a];have:=hB.mod d id;have e:fZ ms=fZ (ms.take k0)++(gC m++fZ (ms.drop (k0+1))):=by
  conv=>lhs;rw[f]
  rw[RO,fZ]
 rw[e]at this;simpa[List.append_assoc]using this
theorem nH.look(h:nH w wr b p ms R i j)(k:ms[j]?=some m) :
  ∀n x,(gC m)[n]?=some x->wr.cell? ⟨b,j*2+n,none⟩=some x:=by
 obtain⟨d,r,o,y,u,l,s⟩:=h;intro n x a;have f:n<2:=(aB.1 a).1;refine l.cell _ ?_;rw[wJ k,fZ];have e:=zB (oO p (ms.take j));rw[aL (by rw[aE];omega),aE,e,o,<-r];rw[show j*2+n-(i*2+(j-i)*2)=n by omega,aV,aG f];exact a
theorem nH.skip(h:nH w wr b p ms R i j)(d:ms[j]?=some m)(k:p m=true)(f:Mod dt wr wr') :
  nH w wr' b p ms R i (j+1):=by
 obtain⟨a,r,o,x,u,n,l⟩:=h;have s:j<ms.length:=(aB.1 d).1;have e:oO p (ms.take (j+1))=oO p (ms.take j):=by rw[rq d,zZl,aK k]
 refine⟨a++gC m,by rw[e];exact r,by rw[aE,o];simp[gC];omega,by omega,by omega,?_,l.trans (f.mono (λ_ _ e=>e.elim))⟩;rw[e];have:=n.mod f id;rw[wJ d,fZ]at this;simpa[List.append_assoc]using this
theorem nH.keep(h:nH w wr b p ms R i j)(d:ms[j]?=some m)(r:p m=false)(f:Mod dt wr wr') :
  nH w (wr'.setCells b (i*2) (gC m)) b p ms R (i+1) (j+1):=by
 obtain⟨a,n,l,z,y,u,s⟩:=h;have x:j<ms.length:=(aB.1 d).1;have e:oO p (ms.take (j+1))=oO p (ms.take j)++[m]:=by rw[rq d,zZl,aH (by simp[r])]
 have o:=zB (oO p (ms.take j));refine⟨a.drop 2++gC m,by rw[e,aE,<-n];rfl,by rw[aE,bT,l];simp[gC];omega,by omega,by omega,?_,(s.trans (f.mono (λ_ _ e=>e.elim))).trans (Mod.lK _ _ _)⟩;rw[e,RO,RQ];have k:=u.mod f id;rw[wJ d,fZ]at k;have:=dx.lK (g:=b) (t:=170) (gC m) wr' (fZ (oO p (ms.take j))) (a.take 2) (a.drop 2++(gC m++fZ (ms.drop (j+1))++R)) (by
  rw[ZS];exact k) (by rw[af,l];simp[gC];omega)
 rw[o,<-n]at this;simpa[List.append_assoc]using this
theorem nH.room(h:nH w wr b p ms R i j):i<j/\j<=ms.length/\Mod (eQ b) w wr /\
  (∀n,n<(j-i)*2->(wr.cell? ⟨b,i*2+n,none⟩).isSome=true)/\∀n,wr.frozen? ⟨b,n,none⟩=false:=by
 obtain⟨a,s,r,k,f,d,e⟩:=h;have l:=zB (oO p (ms.take j));refine⟨k,f,e,λn o=>?_,λn=>d.frozen n⟩;obtain⟨x,hx⟩:∃x,(fZ (oO p (ms.take j))++a++(fZ (ms.drop j)++R))[i*2+n]?=some x:=⟨_,aA (by simp only[aE];omega)⟩;rw[show wr.cell? ⟨b,i*2+n,none⟩=some x from d.cell _ hx];rfl
theorem nH.done{cap:Nat}(h:nH w wr b p ms R i ms.length)(e:B<=b)(n:ms.length<=cap)(d:cap<=maxLen)(u:ms.length*2+R.length=cap*2) :
  fe (wr.setCells b (i*2) (AD (ms.length-i))) B (.slice (some ⟨b,0,none⟩) i cap) (oO p ms)/\Mod (eQ b) w (wr.setCells b (i*2) (AD (ms.length-i))):=by
 obtain⟨a,k,A,z,y,f,r⟩:=h;rw[bQ]at k f;have l:=zB (oO p ms);have x:=Zh (ms.length-i);have o:=r.trans (Mod.lK (AD (ms.length-i)) (i*2) wr);have s:fZ (ms.drop ms.length)=[]:=by rw[cy];rfl
 rw[s,aa]at f;have hB:=dx.lK (g:=b) (t:=170) (AD (ms.length-i)) wr (fZ (oO p ms)) a R f (by omega);rw[l,<-k]at hB;refine⟨⟨by omega,.inr ⟨b,cap,(fZ (oO p ms)++AD (ms.length-i)++R).toArray,by rw[<-k],e,hB,by omega,d,?_,?_⟩⟩,o⟩
 .simp only[bE,aE];omega
 .rw[<-l,aV,db]
theorem Zi(f q B:Nat)(p:dw->Bool)(v:Value)(ms:List dw)(w:World)(r:fe w B v ms)(hA:ym f q p w)(L:q<w.heap.size)(Lg:v.ownBlock≠some q)(hf:ms.length<=1000) :
  Calls Tryz.prog 151 #[v,.func (.func f) #[] #[.pointer (some ⟨q,0,none⟩)]] w λe Q=>∃G,e=.returned G/\fe Q B G (oO p ms)/\G.ownBlock=v.ownBlock/\Mod (λx=>v.ownBlock=some x) w Q:=by
 have z:=dk (zZm f q w.heap.size p v ms w (r.nO (aD _)) hA L hf)
 cases k:uL p ms with
|none=>
  rw[k]at z;have HK:=dk (zZv p ms k);have HR:=dk r;obtain⟨a,cap,rfl⟩:=fU r;clear r hA;go_enter Tryz.func151,Tryz.ntmps151;go_wp2_with fail;refine z.out.mono ?_;rintro e w1⟨rfl,D⟩;simp only[QV];go_wp2_with fail;go_ret;exact⟨_,rfl,by rw[HK.out];exact HR.out.mod D (λ_ _=>id),rfl,D.mono (λ_ _ e=>e.elim)⟩
|some C=>
  rw[k]at z;obtain⟨ry,U⟩:=zWs p ms C k;obtain⟨_,h0⟩|⟨b,cap,cur,rfl,Gl,hg,hcap,hcm,hcs,htk⟩:=r.2
  .omega
  unfold maxLen at hcm;obtain⟨R,Ak⟩:∃R,cur.toList=fZ ms++R:=by
   refine⟨cur.toList.drop (ms.length*2),?_⟩;rw[<-htk,ar]
  have X:=zB ms;have V:dx w b (fZ ms++R) 170:=by rw[dx,<-Ak];exact hg
  have lR:ms.length*2+R.length=cap*2:=by
   have:(fZ ms++R).length=cap*2:=by rw[<-Ak];simpa using hcs
   rw[aE,X]at this;exact this
  have GL:b≠q:=λe=>Lg (by rw[e];rfl);have oy:=dk V;have Na:=dk U;have HA:=dk hA;have hen:=hA.enter;clear V Ak hg hcs htk r U k X hA Lg;go_enter Tryz.func151,Tryz.ntmps151;go_wp2_with fail;refine z.out.mono ?_;rintro e w1⟨rfl,D⟩;simp only[QV];have hne:((C:Int)==-1)=false:=by rw[bp];omega
  go_wp2_with fail;go_loopw [5,6] (λx y wr=>∃i j:Nat,x=.int .i64 i/\y=.int .i64 j/\nH w wr b p ms R i j) (λ_ y _=>ms.length-(intOf y).toNat)
  case atStart=>exact⟨C,C+1,rfl,by go_num,nH.start ry Na.out oy.out D⟩
  case round=>
   obtain⟨i,j,rfl,rfl,s⟩:=hrel;obtain⟨hij,hjn,T,d,h⟩:=s.room;by_cases M:j<ms.length
   .obtain⟨m,hm⟩:∃m,ms[j]?=some m:=⟨_,aA M⟩;have l:=s.look hm;have H:=l 0 _ rfl;have q1:=l 1 _ rfl;simp only[bK]at H;have Si:wr.heap[q]?=w.heap[q]?:=T.block q L (λe=>GL e.symm);have u:q<wr.heap.size:=aJ L T.size;have HC:=dk (HA.out.ask m (wr.alloc (.cells #[.int .i64 m.I,.int .i64 m.mode] 170)) ((Below.heap_alloc _ _ _ u).trans Si));have HI:=dk s;have W:=dk hm;have E:=dk d;have J:=dk h;have Z:=dx.new wr (gC m) 170;have N:b<wr.heap.size:=AC wr _ H;clear s hm l d h Si u;go_wp2_with fail;refine HC.out.mono ?_;rintro e F⟨rfl,fA⟩;have P:dx F wr.heap.size (gC m) 170:=Z.mod fA id;have A:=((Mod.refl dt wr).alloc (.cells #[.int .i64 m.I,.int .i64 m.mode] 170)).trans fA;clear HC H q1 Z
    cases Y:p m with
   |true=>
     have O:=dk (HI.out.skip W.out Y A);go_wp2_with fail;go_roundw
     case rel=>exact⟨i,j+1,rfl,by go_num,O.out⟩
     case measure=>simp[intOf];omega
   |false=>
     have O:=dk (HI.out.keep W.out Y A);have p0:=P.cell 0 rfl;have p1:=P.cell 1 rfl;have hex:∀c,c<2->∃y,F.cell? ⟨b,i*2+c,none⟩=some y:=λc hc=>by
      obtain⟨y,hy⟩:=bF.1 (E.out c (by omega));exact⟨y,A.cell hy id⟩
     have o:∀c,F.frozen? ⟨b,c,none⟩=false:=λc=>(A.frozen (p:=⟨b,c,none⟩) N id).trans (J.out c);obtain⟨y0,K⟩:=hex 0 (by omega);obtain⟨y1,hy1⟩:=hex 1 (by omega);have f0:=o (i*2+0);have f1:=o (i*2+1);simp only[bK]at K f0;have sS:b≠wr.heap.size:=by omega
     clear hex o;go_wp2_with fail;go_roundw
     case rel=>exact⟨i+1,j+1,by go_num,by go_num,by simpa[World.setCells,gC,Nat.add_assoc]using O.out⟩
     case measure=>simp[intOf];omega
   .obtain rfl:j=ms.length:=by omega
    have S:=dk (s.done (B:=B) (cap:=cap) Gl hcap (by unfold maxLen;omega) lR);have hb3:¬cap=i:=by omega
    have hb4:i<=cap:=by omega
    have E:=dk d;have J:Hid (∀n,n<(ms.length-i)*2->wr.frozen? ⟨b,i*2+n,none⟩=false):=λn _=>h _;clear s d h;go_wp2_with (first
    |(refine yAq rfl _ rfl b (i*2) (ms.length-i) _ rfl (by omega) E.out J.out ?_)
    |fail)
    go_ret;exact⟨_,rfl,S.out.1,rfl,S.out.2.mono (λx _ e=>by simp only[eQ]at e;rw[e];rfl)⟩
theorem Yo(a b:dw)(w:World) :
  Calls Tryz.prog 146 #[.agg #[.int .i64 a.I,.int .i64 a.mode],.agg #[.int .i64 b.I,.int .i64 b.mode]] w λe x=>e=.returned (.bool (lI a b))/\Mod dt w x:=by
 obtain⟨d,k⟩:=a;obtain⟨f,l⟩:=b;have u:Hid (Mod dt w ((w.alloc (.cells #[.int .i64 d,.int .i64 k] 170)).alloc (.cells #[.int .i64 f,.int .i64 l] 170))):=((Mod.refl _ w).alloc _).alloc _;have h:Hid (lI ⟨d,k⟩ ⟨f,l⟩=(decide (d≠f)&&(decide (k=2)||decide (l=2)))):=rfl;generalize lI ⟨d,k⟩ ⟨f,l⟩=r at h;by_cases n:d=f
 .have y:r=false:=by rw[h.out];simp[n]
  subst y;subst n;clear h;go_enter Tryz.func146,Tryz.ntmps146;go_wp2_with fail;go_ret;exact⟨rfl,u.out⟩
 .by_cases o:k=2
  .have s:Hid (r=(d !=f)):=by rw[h.out,cR];simp[n,o,Hid]
   subst o;clear h;go_enter Tryz.func146,Tryz.ntmps146;go_wp2_with fail;go_ret;exact⟨by rw[s.out];rfl,u.out⟩
  .have s:Hid (r=(d !=f&&(k==2||l==2))):=by rw[h.out,cR];simp[n,o,Hid]
   clear h;go_enter Tryz.func146,Tryz.ntmps146;go_wp2_with fail;go_ret;exact⟨by rw[s.out];rfl,u.out⟩
theorem Vd(h:dx w q cs t)(a:wr.heap[q]?=w.heap[q]?):dx wr q cs t:=a.trans h
theorem yTa(h:dx w q (gC c) 170):ym 145 q (λo=>lI o c) w:=by
 refine⟨zu Tryz.func145 (by kernel_rfl) rfl,λd wr f=>?_⟩;have a:=Vd h f;have u:=a.cell 0 rfl;have s:=a.cell 1 rfl;have x:=a.lt;have r:Hid (Mod dt wr (wr.alloc (.cells #[.int .i64 d.I,.int .i64 d.mode] 170))):=(Mod.refl _ wr).alloc _;have k:=λw=>Yo d c w;have n:=dk k;clear h a f k;go_enter Tryz.func145,Tryz.ntmps145;go_wp2_with fail;refine(n.out _).mono ?_;rintro e w1⟨rfl,l⟩;go_wp2_with fail;go_ret;exact⟨rfl,r.out.trans l⟩
theorem ySz(h:dx w q (gC c) 170):ym 147 q (λo=>decide (o.I<c.I)&&lI o c) w:=by
 refine⟨zu Tryz.func147 (by kernel_rfl) rfl,λd wr n=>?_⟩;have a:=Vd h n;have z:=a.cell 0 rfl;have y:=a.cell 1 rfl;have A:=a.lt;have r:Hid (Mod dt wr (wr.alloc (.cells #[.int .i64 d.I,.int .i64 d.mode] 170))):=(Mod.refl _ wr).alloc _;have s:=λw=>Yo d c w;have x:=dk s;clear h a n s;by_cases l:d.I<c.I
 .have f:decide (d.I<c.I)=true:=aQ l;have k:=dk f;go_enter Tryz.func147,Tryz.ntmps147;go_wp2_with fail;refine(x.out _).mono ?_;rintro e w1⟨rfl,u⟩;go_wp2_with fail;go_ret;exact⟨by first|rfl|(rw[k.out];rfl),r.out.trans u⟩
 .have f:decide (d.I<c.I)=false:=aN l;have k:=dk f;go_enter Tryz.func147,Tryz.ntmps147;go_wp2_with fail;go_ret;exact⟨by first|rfl|(rw[k.out];rfl),r.out⟩
theorem yJb(h:dx w q (gC c) 170):ym 150 q (IH c) w:=by
 refine⟨zu Tryz.func150 (by kernel_rfl) rfl,λd wr n=>?_⟩;have a:=Vd h n;have y:=a.cell 0 rfl;have x:=a.cell 1 rfl;have z:=a.lt;have o:Hid (Mod dt wr (wr.alloc (.cells #[.int .i64 d.I,.int .i64 d.mode] 170))):=(Mod.refl _ wr).alloc _;have r:=λw=>Yo d c w;have u:=dk r;clear h a n r;unfold IH;by_cases l:d.I<c.I
 .have f:decide (d.I<c.I)=true:=aQ l;have k:=dk f;go_enter Tryz.func150,Tryz.ntmps150;go_wp2_with fail;go_ret;exact⟨by first|rfl|(rw[k.out];rfl),o.out⟩
 .have f:decide (d.I<c.I)=false:=aN l;have k:=dk f;go_enter Tryz.func150,Tryz.ntmps150;go_wp2_with fail;refine(u.out _).mono ?_;rintro e w1⟨rfl,s⟩;go_wp2_with fail;go_ret;exact⟨by first|rfl|(rw[k.out];rfl),o.out.trans s⟩
theorem yGd{t:Int}(h:dx w q [.int .i64 t] 3):ym 167 q (λc=>decide (c.I=t)) w:=by
 refine⟨zu Tryz.func167 (by kernel_rfl) rfl,λd wr e=>?_⟩;have a:=Vd h e;have k:=a.cell 0 rfl;have l:=a.lt;have f:Hid (Mod dt wr (wr.alloc (.cells #[.int .i64 d.I,.int .i64 d.mode] 170))):=(Mod.refl _ wr).alloc _;clear h a e;go_enter Tryz.func167,Tryz.ntmps167;go_wp2_with fail;go_ret;exact⟨by first|rfl|(congr 2;rw[cR];simp),f.out⟩
theorem yKs(L C:Nat)(y wv:Value)(a waits:List dw)(c:dw)(w:World)(z:dx w C [y,wv] 168)(A:yo w L y a)(x:yo w L wv waits)(Q:a.length<=1000)(P:waits.length<=1000) :
  Calls Tryz.prog 111 #[.pointer (some ⟨C,0,none⟩),.agg #[.int .i64 c.I,.int .i64 c.mode]] w λe u=>e=.returned (.bool (qe a waits c))/\Mod dt w u:=by
 have Y:∀E first n w,(Instr.makeFunc E first n).run Tryz.prog w=.ok (.func E first n) w:=λ_ _ _ _=>rfl
 obtain⟨w1,hw1⟩:∃q,q=w.alloc (.cells #[.int .i64 c.I,.int .i64 c.mode] 170):=⟨_,rfl⟩;have l:Mod dt w w1:=by rw[hw1];exact(Mod.refl _ w).alloc _
 have f:dx w1 w.heap.size (gC c) 170:=by rw[hw1];exact dx.new w (gC c) 170
 have s:=dk (zRt 145 w.heap.size L (λo=>lI o c) y a w1 (A.mod l (λ_ _=>id)) (yTa f) f.lt Q);have K:Hid (∀h,Mod dt w1 h->Calls Tryz.prog 148 #[wv,.func (.func 147) #[] #[.pointer (some ⟨w.heap.size,0,none⟩)]] h λe u=>e=.returned (.bool (waits.any (λo=>decide (o.I<c.I)&&lI o c)))/\Mod dt h u):=λh d=>
  zRt 147 w.heap.size L _ wv waits h ((x.mod l (λ_ _=>id)).mod d (λ_ _=>id)) (ySz (f.mod d id)) (f.mod d id).lt P
 have J:=dk (z.mod l id);have F:=dk l;obtain⟨Z,D,rfl,_,_⟩:=gD.slice A;obtain⟨W,gW,rfl,_,_⟩:=gD.slice x;have U:=J.out.cell 0 rfl;have G:=J.out.cell 1 rfl;have O:=z.lt;have k:Hid (qe a waits c=(!(a.any λo=>lI o c)&&!(waits.any λo=>decide (o.I<c.I)&&lI o c))):=rfl;generalize qe a waits c=r at k;clear l f z A x
 cases H:a.any (λo=>lI o c)with
|true=>
  rw[H]at s k;have N:r=false:=by rw[k.out];rfl
  subst N;go_enter Tryz.func111,Tryz.ntmps111;go_upto_region 1 with fail;rw[<-hw1];clear hw1;go_wp2_with fail;refine s.out.mono ?_;rintro e h⟨rfl,d⟩;go_wp2_with fail;go_ret;exact⟨rfl,F.out.trans d⟩
|false=>
  rw[H]at s k;have V:Hid (r=!(waits.any λo=>decide (o.I<c.I)&&lI o c)):=by rw[k.out];rfl
  clear k;go_enter Tryz.func111,Tryz.ntmps111;go_upto_region 1 with fail;rw[<-hw1];clear hw1;go_wp2_with fail;refine s.out.mono ?_;rintro e h⟨rfl,d⟩;have d1:=d.cell G id;have S:=dk d;have M:=dk (K.out h d);clear K d U G;go_wp2_with fail;refine M.out.mono ?_;rintro e X⟨rfl,T⟩;go_wp2_with fail;go_ret;exact⟨by rw[V.out];rfl,(F.out.trans S.out).trans T⟩
theorem Tryz.tN:(Tryz.prog.info? 3).map (λi=>(i.zero,i.size,i.bytes))=some (some (.int .i64 0),1,8):=by kernel_rfl
def IP(l:List Int):List Value:=l.map (Value.int .i64)
theorem zPm(l:List Int)(x:Int):IP (l++[x])=IP l++[.int .i64 x]:=by simp[IP]
def ju(w:World)(B:Nat)(v:Value)(l:List Int):Prop:=w.ownsRow B 3 1 v l.length (IP l)
theorem ju.mod{G:Nat->Prop}{w':World}{os:List Int}(h:ju w B v os)(a:Mod G w w')(d:∀k,v.ownBlock=some k->¬G k):ju w' B v os:=gO h a (λk _ _ e=>d k e)
theorem yOw(L:Nat)(v:Value)(l:List dw)(w:World)(A:yo w L v l)(hl:l.length<=1000) :
  Calls Tryz.prog 123 #[v] w λe H=>∃u,e=.returned u/\ju H w.heap.size u (l.map (·.I))/\Mod dt w H:=by
 obtain⟨Z,hj,LJ,LI,LH⟩:=A3 Tryz.tN;have HV:=dk A;obtain⟨a,cap,rfl,hc1,C⟩:=gD.slice A;unfold maxLen at C;clear A;have T:Hid (ju w w.heap.size (.slice none 0 0) []):=A6 _ _ _ _;go_enter Tryz.func123,Tryz.ntmps123;go_wp2_with fail;go_loopw [3,8] (λu i wr=>∃k:Nat,k<=l.length/\i=.int .i64 k/\ju wr w.heap.size u ((l.take k).map (·.I))/\Mod dt w wr) (λ_ i _=>l.length-(intOf i).toNat)
 case atStart=>exact⟨0,aT _,rfl,by simpa using T.out,Mod.refl _ _⟩
 case round=>
  rename_i u _;obtain⟨k,hk,rfl,f,P⟩:=hrel;obtain⟨J,S,rfl⟩:=fU f;have z:=dk P;have D:=dk f;clear f P T;by_cases r:k<l.length
  .obtain⟨d,hd⟩:∃d,l[k]?=some d:=⟨_,aA r⟩;obtain⟨b,Y,rfl,_,M,K⟩:=HV.out.at hd;have X:=z.out.cell M id;have W:=z.out.cell K id;have o:(l.take (k+1)).map (·.I)=(l.take k).map (·.I)++[d.I]:=by rw[rq hd,ay];rfl
   have Jp:=dk o;obtain⟨w3,hw3⟩:∃q,q=wr.alloc (.cells #[.int .i64 d.I,.int .i64 d.mode] 170):=⟨_,rfl⟩;have F:Mod dt wr w3:=by rw[hw3];exact(Mod.refl _ wr).alloc _
   have s:dx w3 wr.heap.size (gC d) 170:=by rw[hw3];exact dx.new wr (gC d) 170
   have r0:=s.cell 0 rfl;have G:Hid (w3.ownsRow w.heap.size 3 1 (.slice J (List.map (·.I) (l.take k)).length S) (List.map (·.I) (l.take k)).length (IP ((l.take k).map (·.I)))):=D.out.mod F (λ_ _=>id);have N:=dk (z.out.trans F);have n:(List.map (·.I) (l.take k)).length=k:=by simp;omega
   rw[n]at G;have iu:k+1<=maxLen:=by unfold maxLen;omega
   have iv:(k+1)*8<=140737488355328:=by omega
   have hz3:=N.out.size;have jq:(k:Int)<(l.length:Int):=by omega
   have mT:(0:Int)<=(k:Int):=by omega
   rw[n];have Bn:=dk n;clear hd M K o s F n;go_upto_region 5 with fail;rw[<-hw3];clear hw3 X W;go_wp2_with (first
   |(at_builtin;refine B1 _ rfl (.tmp 12) (.tmp 15) 26 rfl w.heap.size 3 Z _ 1 8 Tryz.underlying26 hj LJ LI LH rfl (by decide) _ _ _ rfl (G.out.alloc _) ⟨w3.heap.size,0,none⟩ 1 1 [.int .i64 d.I] rfl rfl (A7 (A0 w3 _)) (by simp[Value.oneCell']) iu iv (by simp;omega) ?_)
   |fail)
   intro v7 U E Q _ ib;have O:Mod dt w U:=(N.out.alloc _).grown Q (λy hy r=>by have:=(nN G.out hy).1;omega);obtain⟨a7,fV,V⟩:=fU E;subst V;have UY:=dk E;have Ax:=dk O;clear E Q ib O;go_wp2_with fail;go_roundw
   case rel=>
    refine⟨k+1,by omega,by go_num,?_,Ax.out⟩;rw[Jp.out];unfold ju;rw[zPm,aE,Bn.out,List.map_take];exact UY.out
   case measure=>simp[intOf];omega
  .obtain rfl:k=l.length:=by omega
   have Um:Hid (ju wr w.heap.size (.slice J l.length S) (l.map (·.I))):=by
    have h:=D.out;rw[Hid];unfold ju at h⊢;rw[bQ,ao]at h;rw[ao];exact h
   clear D;rw[show(List.map (λx:dw=>x.I) (l.take l.length)).length=l.length by simp];go_wp2_with fail;go_ret;exact⟨_,rfl,Um.out,z.out⟩
theorem yNu(B:Nat)(v:Value)(l:List dw)(w:World)(f:fe w B v l)(r:l.length<=1000) :
  Calls Tryz.prog 152 #[v] w λe d=>∃u,e=.returned u/\fe d w.heap.size u l/\Mod dt w d:=by
 obtain⟨rfl,h0⟩|⟨g,cap,cur,rfl,q1,q2,q3,q4,q5,q6⟩:=f.2
 .have k:l=[]:=aR h0;subst k;have s:(binOp .eql 166 (.slice none 0 0) (.slice none 0 0)).run Tryz.prog w=.ok (.bool true) w:=by kernel_rfl
  have x:Hid (fe w w.heap.size (.slice none 0 0) []):=A6 _ _ _ _;clear f;go_enter Tryz.func152,Tryz.ntmps152;go_wp2_with fail;go_ret;exact⟨_,rfl,x.out,Mod.refl _ _⟩
 .refine(yNv ⟨g,0,none⟩ l.length cap l w rfl (λj u n=>f.cells (g:=g) rfl j u n) r).mono ?_;rintro e d⟨y,h,rfl,a,o⟩;exact⟨_,rfl,a,o⟩
theorem yGw(B M:Nat)(z wv:Value)(a:List dw)(c:dw)(w:World)(D:dx w M [z,wv] 168)(E:fe w B z a)(F:a.length<=1000) :
  Calls Tryz.prog 114 #[.pointer (some ⟨M,0,none⟩),.agg #[.int .i64 c.I,.int .i64 c.mode]] w λe K=>∃u,e=.returned u/\ju K w.heap.size u (AA a c)/\Mod dt w K:=by
 have sg:∀P first o w,(Instr.makeFunc P first o).run Tryz.prog w=.ok (.func P first o) w:=λ_ _ _ _=>rfl
 obtain⟨w1,hw1⟩:∃q,q=w.alloc (.cells #[.int .i64 c.I,.int .i64 c.mode] 170):=⟨_,rfl⟩;have r:Mod dt w w1:=by rw[hw1];exact(Mod.refl _ w).alloc _
 have n:dx w1 w.heap.size (gC c) 170:=by rw[hw1];exact dx.new w (gC c) 170
 have V:=dk (yNu B z a w1 (E.mod r (λ_ _=>id)) F);have U:=dk (D.mod r id);have fh:=dk r;have L:=dk n;obtain⟨ha,O,rfl⟩:=fU E;have c0:=U.out.cell 0 rfl;have Z:=D.lt;clear r n D E;go_enter Tryz.func114,Tryz.ntmps114;go_upto_region 1 with fail;rw[<-hw1];have T:Hid (w1.heap.size=w.heap.size+1):=by rw[hw1,Hid];simp
 clear hw1;go_wp2_with fail;refine V.out.mono ?_;rintro e X⟨u,rfl,l,h⟩;have k:=L.out.mod h id;have S:=dk (Zi 150 w.heap.size w1.heap.size (IH c) u a X l (yJb k) k.lt (λe=>by have:=(nN l e).1;have:=T.out;omega) F);have gy:=dk (fh.out.trans h);have H:Hid (∀b,u.ownBlock=some b->w1.heap.size<=b):=λb hb=>(nN l hb).1;obtain⟨ua,eI,rfl⟩:=fU l;clear l h k c0 V U L;go_wp2_with fail;refine S.out.mono ?_;rintro e s⟨u3,rfl,f,A,Q⟩;have C:(oO (IH c) a).length<=1000:=aO (bD _ _) F;have HT:=dk (yOw s.heap.size u3 (oO (IH c) a) s (f.nO (aD _)) C);have N:Hid (Mod dt w s):=gy.out.trans' Q (λi hi e=>by have:=H.out i e;have:=T.out;omega);obtain⟨Y,y,rfl⟩:=fU f;clear f Q A S;go_wp2_with fail;refine HT.out.mono ?_;rintro e W⟨u4,rfl,d,gw⟩;have G:=vl d N.out.size;obtain⟨x,Rh,rfl⟩:=fU d;have J:Hid (ju W w.heap.size (.slice x (oO (IH c) a).length Rh) (AA a c)):=by
  rw[Hid];unfold ju AA;rw[ao]at G⊢;exact G
 clear d G;go_wp2_with fail;go_ret;exact⟨_,rfl,J.out,N.out.trans gw⟩
structure NS(w:World)(B kb:Nat)(hv wv:Value)(held waits:List dw):Prop where
 Z:dx w kb [hv,wv] 168
 h:fe w B hv held
 w:fe w B wv waits
 ne:∀x,hv.ownBlock=some x->wv.ownBlock≠some x
theorem AE{d:Nat}{l:List dw}(a:dx w d cs 168)(f:fe w B v l):v.ownBlock≠some d:=λe=>by
 obtain⟨_,_,k,h⟩:=nN f e;unfold dx at a;rw[h]at a;simp at a
theorem yQw(B d:Nat)(A wv:Value)(a waits:List dw)(t:Int)(w:World)(l:NS w B d A wv a waits)(h1:a.length<=1000)(h2:waits.length<=1000) :
  Calls Tryz.prog 142 #[.pointer (some ⟨d,0,none⟩),.int .i64 t] w λe H=>e=.returned (.tuple #[])/\∃o J,NS H B d o J (lS a t) (lS waits t)/\o.ownBlock=A.ownBlock/\J.ownBlock=wv.ownBlock/\Mod (λx=>x=d\/A.ownBlock=some x\/wv.ownBlock=some x) w H:=by
 have sg:∀fn first N w,(Instr.makeFunc fn first N).run Tryz.prog w=.ok (.func fn first N) w:=λ_ _ _ _=>rfl
 obtain⟨w1,hw1⟩:∃q,q=w.alloc (.cells #[.int .i64 t] 3):=⟨_,rfl⟩;have M:Mod dt w w1:=by rw[hw1];exact(Mod.refl _ w).alloc _
 have y:dx w1 w.heap.size [.int .i64 t] 3:=by rw[hw1];exact dx.new w [.int .i64 t] 3
 have T:=l.Z.mod M id;have L:=l.h.mod M (λ_ _=>id);have SL:=l.w.mod M (λ_ _=>id);have Lg:A.ownBlock≠some w.heap.size:=λe=>by have:=(nN l.h e).2.1;omega
 have hqw:wv.ownBlock≠some w.heap.size:=λe=>by have:=(nN l.w e).2.1;omega
 have E:A.ownBlock≠some d:=AE l.Z l.h;have DD:wv.ownBlock≠some d:=AE l.Z l.w;have hkq:d≠w.heap.size:=by have:=l.Z.lt;omega
 have S:=dk (Zi 167 w.heap.size B (λc=>decide (c.I=t)) A a w1 L (yGd y) y.lt Lg h1);have Q:Hid (∀z:World,Mod (λx=>A.ownBlock=some x\/x=d) w1 z->Calls Tryz.prog 151 #[wv,.func (.func 167) #[] #[.pointer (some ⟨w.heap.size,0,none⟩)]] z λe H=>∃v',e=.returned v'/\fe H B v' (lS waits t)/\v'.ownBlock=wv.ownBlock/\Mod (λx=>wv.ownBlock=some x) z H):=λz n=>by
  have k:=y.mod n (λe=>e.elim Lg (λe=>hkq e.symm));exact Zi 167 w.heap.size B (λc=>decide (c.I=t)) wv waits z (SL.mod n (λx f e=>e.elim (λe=>l.ne x e f) (λe=>DD (by rw[<-e];exact f)))) (yGd k) k.lt hqw h2
 have P:=dk l;have HKB:=dk T;have fh:=dk M;obtain⟨ha,r,rfl⟩:=fU l.h;obtain⟨wa,gW,rfl⟩:=fU l.w;have c0:=T.cell 0 rfl;have hkl:=T.lt;have hfz:=T.frozen 0;clear M y T L SL l;go_enter Tryz.func142,Tryz.ntmps142;go_upto_region 1 with fail;rw[<-hw1];clear hw1;go_wp2_with fail;refine S.out.mono ?_;rintro e z⟨u,rfl,uZ,D,n⟩;have k:=HKB.out.mod n E;have F:=k.set 0 u;obtain⟨w3,hw3⟩:∃q,q=z.setCell ⟨d,0,none⟩ u:=⟨_,rfl⟩;rw[<-hw3]at F;have eK:Mod (eQ d) z w3:=by rw[hw3];exact Mod.eE d 0 u
 have jO:Mod (λx=>(Value.slice ha a.length r).ownBlock=some x\/x=d) w1 w3:=(n.mono (λ_ _ e=>.inl e)).trans (eK.mono (λ_ _ e=>.inr e));have HD:=dk (Q.out w3 jO);have rh:Hid (dx w3 d [u,.slice wa waits.length gW] 168):=F;have HRU:Hid (fe w3 B u (lS a t)):=uZ.mod eK (λx f e=>by simp only[eQ]at e;rw[e,D]at f;exact E f);have X:=dk D;have O:=dk jO;have hf2:=k.frozen 0;have d0:=k.cell 0 rfl;have K:=k.lt;obtain⟨ua,eI,hu⟩:=fU uZ;subst hu;clear n k F uZ D S Q c0 eK jO hfz;go_upto_region 3 with fail;rw[<-hw3];clear hw3 d0 hf2 K;have c1:=rh.out.cell 1 rfl;have hkl3:=rh.out.lt;go_wp2_with fail;refine HD.out.mono ?_;rintro e U⟨G,rfl,C,Y,V⟩;have s:=rh.out.mod V DD;have PF:=s.frozen 1;have d1:=s.cell 1 rfl;have hkl4:=s.lt;have oh:=s.set 1 G;have W:Mod (eQ d) U (U.setCell ⟨d,1,none⟩ G):=Mod.eE d 1 G;have gp:Hid (∃o J,NS (U.setCell ⟨d,1,none⟩ G) B d o J (lS a t) (lS waits t)/\o.ownBlock=(Value.slice ha a.length r).ownBlock/\J.ownBlock=(Value.slice wa waits.length gW).ownBlock/\Mod (λx=>x=d\/(Value.slice ha a.length r).ownBlock=some x\/(Value.slice wa waits.length gW).ownBlock=some x) w (U.setCell ⟨d,1,none⟩ G)):=by
  refine⟨_,G,⟨oh,?_,?_,?_⟩,X.out,Y,?_⟩
  .refine(HRU.out.mod V (λx f e=>?_)).mod W (λx f e=>?_)
   .rw[X.out]at f;exact P.out.ne x f e
   .simp only[eQ]at e;rw[e,X.out]at f;exact E f
  .exact C.mod W (λx f e=>by simp only[eQ]at e;rw[e,Y]at f;exact DD f)
  .intro x f;rw[X.out]at f;rw[Y];exact P.out.ne x f
  .refine((fh.out.mono (λ_ _ e=>e.elim)).trans (O.out.mono (λx _ e=>e.elim (λe=>.inr (.inl e)) .inl))).trans ((V.mono (λx _ e=>.inr (.inr e))).trans (W.mono (λx _ e=>.inl e)))
 obtain⟨va,Fl,hv4⟩:=fU C;subst hv4;clear C Y V s oh W HD;go_wp2_with fail
 first
 |go_end0
 |refine bodyPost_normal (B4 rfl _ _ _) ?_
 exact⟨rfl,gp.out⟩
end Go.Proofs.YtmaiggbnceejiaaGreatDoor
namespace Go.Proofs.YtmaiggbnceejiaaGreatDoor
open Go.RowKit Go.Lib Go.Maps
variable {w w' wr w3 w6:World}{B g n x kb N N':Nat}{l waits held H K:List dw}{u hv gv hv' jA v h:Value}{c:dw}{k a b name:ByteArray}{s:gU}{G:Nat->Prop}{no:ByteArray->Prop}{i:Bool}{k':fP}{D:DataW Unit}
theorem zRv:∀(l:List dw) (n:Nat) (c:dw),n<l.length->fZ (l.set n c)=((fZ l).set (n*2) (.int .i64 c.I)).set (n*2+1) (.int .i64 c.mode)
|[],n,c,h=>by simp at h
|x::l,0,c,h=>by simp[fZ,gC]
|x::l,n+1,c,h=>by
  have d:=zRv l n c (by simpa using h);rw[dQ,fZ,fZ,d,show(n+1)*2=(gC x).length+n*2 by simp[gC];omega];rw[dH _ _ (by omega),dH _ _ (by omega)];congr 2
  .congr 1;omega
  .omega
theorem fe.set{cap:Nat}(h:fe w B (.slice (some ⟨g,0,none⟩) l.length cap) l)(f:n<l.length)(c:dw) :
  fe ((w.setCell ⟨g,n*2,none⟩ (.int .i64 c.I)).setCell ⟨g,n*2+1,none⟩ (.int .i64 c.mode)) B (.slice (some ⟨g,0,none⟩) l.length cap) (l.set n c):=by
 obtain⟨e,_⟩|⟨g',cap',cur,e,q1,q2,q3,q4,q5,q6⟩:=h.2
 .cases e
 .cases e
  have j:dx w g cur.toList 170:=by simpa[dx]using q2
  have d:=(j.set (n*2) (.int .i64 c.I)).set (n*2+1) (.int .i64 c.mode);refine⟨by rw[zB,ai],.inr ⟨g,cap,_,by rw[ai],q1,d,by rw[ai];exact q3,q4,by simpa using q5,?_⟩⟩;show List.take _ ((cur.toList.set _ _).set _ _)=_;rw[ai,zRv l n c f,<-q6,List.take_set,List.take_set]
def Wi(w:World)(B:Nat)(v:Value)(l:List dw)(c:dw)(e:Ending)(w':World):Prop:=
 ∃u,e=.returned u/\fe w' B u (jx l c)/\Mod (λb=>v.ownBlock=some b) w w'/\(u.ownBlock=v.ownBlock\/∀b,u.ownBlock=some b->w.heap.size<=b)
theorem yJm(B:Nat)(v:Value)(l:List dw)(c:dw)(w:World)(p:fe w B v l)(T:kY l)(hl:l.length<=900)(hB:B<=w.heap.size) :
  Calls Tryz.prog 112 #[v,.agg #[.int .i64 c.I,.int .i64 c.mode]] w (Wi w B v l c):=by
 obtain⟨w1,hw1⟩:∃q,q=w.alloc (.cells #[.int .i64 c.I,.int .i64 c.mode] 170):=⟨_,rfl⟩;have Q:Mod dt w w1:=by rw[hw1];exact(Mod.refl _ w).alloc _
 have m:dx w1 w.heap.size (gC c) 170:=by rw[hw1];exact dx.new w (gC c) 170
 have R:=p.mod Q (λ_ _=>id);have t:=dk (yDx w1.heap.size v l c.I w1 (R.nO (aD _)) T (by omega));have E:=Wu l c.I;have r:Hid (jx l c=if nE l c.I then l.set (iH l c.I) c else l.take (iH l c.I)++c::l.drop (iH l c.I)):=rfl;have P:=dk Q;have kh:=dk m;have Jr:=dk R;have HNV:Hid (v.ownBlock≠some w.heap.size):=λe=>by have:=(nN p e).2.1;omega
 have O:Hid (nE l c.I=true->iH l c.I<l.length):=λh=>by obtain⟨d,h1,_⟩:=Rc h;exact(aB.1 h1).1
 generalize iH l c.I=n at t E r O;have M:=m.cell 0 rfl;have L:=m.cell 1 rfl;have A:=m.lt
 cases F:nE l c.I with
|true=>
  have hn:=O.out F;rw[F]at t r;simp only[if_true]at r;obtain⟨_,h0⟩|⟨g,cap,cur,rfl,q1,q2,q3,q4,q5,q6⟩:=p.2
  .omega
  have hg:g<w.heap.size:=(aF.1 q2).1;have hcz:cur.size=cap*2:=q5;have J:dx w g cur.toList 170:=by simpa[dx]using q2
  have uA:(n:Int)<(l.length:Int):=by omega
  have hn0:(0:Int)<=(n:Int):=by omega
  have Yg:=dk J;have mF:g≠w.heap.size:=by omega
  clear p R Q m q2 q6 F T q5 J O;go_enter Tryz.func112,Tryz.ntmps112;go_upto_region 1 with fail;rw[<-hw1];clear hw1;go_wp2_with fail;refine t.out.mono ?_;rintro e j⟨rfl,f⟩;have z:dx j g cur.toList 170:=(Yg.out.mod P.out id).mod f id;have r0:=f.cell M id;have Z:=f.cell L id;have S:=aJ A f.size;obtain⟨y0,hy0⟩:∃y,j.cell? ⟨g,n*2,none⟩=some y:=⟨_,z.cell (n*2) (aA (by simp;omega))⟩;obtain⟨y1,hy1⟩:∃y,j.cell? ⟨g,n*2+1,none⟩=some y:=⟨_,z.cell (n*2+1) (aA (by simp;omega))⟩;have f0:=z.frozen (n*2);have f1:=z.frozen (n*2+1);have hg2:=z.lt;have gp:Hid (Wi w B (.slice (some ⟨g,0,none⟩) l.length cap) l c (.returned (.slice (some ⟨g,0,none⟩) l.length cap)) ((j.setCell ⟨g,n*2,none⟩ (.int .i64 c.I)).setCell ⟨g,n*2+1,none⟩ (.int .i64 c.mode))):=by
   refine⟨_,rfl,?_,?_,.inl rfl⟩
   .rw[r.out];exact(Jr.out.mod f (λ_ _=>id)).set hn c
   .refine((P.out.trans f).mono (λ_ _ e=>e.elim)).trans (((Mod.eE g (n*2) _).trans (Mod.eE g (n*2+1) _)).mono (λx _ e=>?_));simp only[eQ]at e;rw[e];rfl
  clear z f M L t;go_wp2_with fail;go_ret;exact gp.out
|false=>
  rw[F]at t r;simp only[cX,if_false]at r;have Y:Hid (∀j,Mod dt w1 j->Calls Tryz.prog 149 #[v,.int .i64 n,.slice (some ⟨j.heap.size,0,none⟩) 1 1] (j.alloc (.cells #[.int .i64 c.I,.int .i64 c.mode] 170)) (Wi w B v l c)):=λj f=>by
   have eK:Mod dt j (j.alloc (.cells #[.int .i64 c.I,.int .i64 c.mode] 170)):=(Mod.refl _ j).alloc _;have U:dx (j.alloc (.cells #[.int .i64 c.I,.int .i64 c.mode] 170)) j.heap.size (gC c) 170:=dx.new j (gC c) 170;have o:=(P.out.trans f).trans eK;refine(yIb B v l n c j.heap.size _ (p.mod o (λ_ _=>id)) E U (λe=>by have:=(nN p e).2.1;have:=(P.out.trans f).size;omega) (by omega) (aO hB o.size)).mono ?_;rintro e w4⟨u,rfl,C,gw,V⟩;refine⟨u,rfl,?_,(o.mono (λ_ _ e=>e.elim)).trans gw,V.imp id (λh b hb=>aO o.size (h b hb))⟩;unfold fe;rw[r.out];have:(l.take n++c::l.drop n).length=l.length+1:=by simp;omega
   rw[this];exact C
  have HRR:=dk p;obtain⟨va,Fl,rfl⟩:=fU p;clear p R Q m F T O;go_enter Tryz.func112,Tryz.ntmps112;go_upto_region 1 with fail;rw[<-hw1];clear hw1;go_wp2_with fail;refine t.out.mono ?_;rintro e j⟨rfl,f⟩;have r0:=f.cell M id;have Z:=f.cell L id;have S:=aJ A f.size;have X:=dk (Y.out j f);clear M L Y f;go_wp2_with fail;refine X.out.mono ?_;rintro e w3⟨u,rfl,W⟩;have HW:=dk W;obtain⟨ua,eI,rfl⟩:=fU W.1;clear W;go_wp2_with fail;go_ret;exact⟨_,rfl,HW.out⟩
def CH(x:List dw×List dw×List dw)(c:dw):List dw×List dw×List dw:=if qe x.1 x.2.1 c then(jx x.1 c,x.2.1,x.2.2++[c])else(x.1,x.2.1++[c],x.2.2)
theorem Yw:∀(q held d e:List dw),q.foldl CH (held,d,e)=((ja held d q).1,(ja held d q).2.1,e++(ja held d q).2.2)
|[],held,d,e=>by simp[ja]
|c::q,held,d,e=>by
  rw[cQ];by_cases h:qe held d c=true
  .rw[show CH (held,d,e) c=(jx held c,d,e++[c]) by simp[CH,h],Yw q];simp[ja,h]
  .rw[show CH (held,d,e) c=(held,d++[c],e) by simp[CH,h],Yw q];simp[ja,h]
theorem fe.snoc{w:World}(d:n=l.length)(h:w'.ownsRow B 170 2 u (n+1) (fZ l++gC c)):fe w' B u (l++[c]):=by
 subst d;unfold fe;rw[RO,RQ,aE];exact h
theorem zTu(c:dw):∀u∈gC c,u.oneCell'=true:=by
 intro u d;simp[gC]at d;obtain rfl|rfl:=d <;> rfl
structure CB(w wr:World)(B kb:Nat)(hv:Value)(held waits:List dw)(k:Nat)(gv hv' jA:Value)(H K G:List dw):Prop where
 fold:(waits.take k).foldl CH (held,[],[])=(H,K,G)
 ky:NS wr B kb hv' jA H K
 got:fe wr B gv G
 qC:kY H
 ga:∀x,gv.ownBlock=some x->hv'.ownBlock≠some x/\jA.ownBlock≠some x
 ha:hv'.ownBlock=hv.ownBlock\/∀x,hv'.ownBlock=some x->w.heap.size<=x
 wa:∀x,jA.ownBlock=some x->w.heap.size<=x
 gn:∀x,gv.ownBlock=some x->w.heap.size<=x
 hl:H.length<=held.length+k
 kl:K.length<=k
 gl:G.length<=k
 md:Mod (λx=>x=kb\/hv.ownBlock=some x) w wr
theorem yFg{k:Nat}{x y:List dw×List dw×List dw}{s:List dw×List dw×List dw}(e:waits[k]?=some c)(h:(waits.take k).foldl CH s=x)(d:CH x c=y):(waits.take (k+1)).foldl CH s=y:=by
 rw[rq e,ae,h];exact d
theorem CB.wait{k:Nat}{G:List dw}(h:CB w wr B kb hv held waits k gv hv' jA H K G)(O:waits[k]?=some c)(M:qe H K c=false)(m:Mod dt wr w3)(P:w.heap.size<=wr.heap.size)
  (F:fe w6 B u (K++[c])) (p:Mod (λx=>jA.ownBlock=some x) w3 w6) (z:u.ownBlock=jA.ownBlock\/∀x,u.ownBlock=some x->w3.heap.size<=x) :
  CB w (w6.setCell ⟨kb,1,none⟩ u) B kb hv held waits (k+1) gv hv' u H (K++[c]) G:=by
 have o:Mod (eQ kb) w6 (w6.setCell ⟨kb,1,none⟩ u):=Mod.eE kb 1 u;have C:=m.size;have A:=AE h.ky.Z h.ky.w;have t:=AE h.ky.Z h.ky.h;have y:=AE h.ky.Z h.got;have j:=h.ky.Z.mod m id;have E:=j.mod p A;have r:∀x,u.ownBlock=some x->jA.ownBlock=some x\/w3.heap.size<=x:=λx d=>by
  obtain e|e:=z
  .exact .inl (by rw[<-e];exact d)
  .exact .inr (e x d)
 have f:∀{v:Value} {l:List dw},fe wr B v l->∀x,v.ownBlock=some x->x<w3.heap.size:=λI x d=>aJ (nN I d).2.1 C;have J:fe (w6.setCell ⟨kb,1,none⟩ u) B hv' H:=((h.ky.h.mod m (λ_ _=>id)).mod p (λx d e=>h.ky.ne x d e)).mod o (λx d e=>by simp only[eQ]at e;rw[e]at d;exact t d);have L:fe (w6.setCell ⟨kb,1,none⟩ u) B gv G:=((h.got.mod m (λ_ _=>id)).mod p (λx d e=>(h.ga x d).2 e)).mod o (λx d e=>by simp only[eQ]at e;rw[e]at d;exact y d);refine⟨yFg O h.fold (by unfold CH;simp[M]),⟨E.set 1 u,J,F.mod o (λx d e=>?_),λx d e=>?_⟩,L,h.qC,λx d=>⟨(h.ga x d).1,λe=>?_⟩,h.ha,λx d=>?_,h.gn,by have:=h.hl;omega,by have:=h.kl;simp;omega,by have:=h.gl;omega,?_⟩
 .simp only[eQ]at e;rw[e]at d;rcases r kb d with q|q
  .exact A q
  .have:=j.lt;omega
 .rcases r x e with q|q
  .exact h.ky.ne x d q
  .have:=f h.ky.h x d;omega
 .rcases r x e with q|q
  .exact(h.ga x d).2 q
  .have:=f h.got x d;omega
 .rcases r x d with q|q
  .exact h.wa x q
  .omega
 .refine(h.md.trans (m.mono (λ_ _ e=>e.elim))).trans' ((p.mono (G':=λx=>jA.ownBlock=some x\/x=kb) (λ_ _ e=>.inl e)).trans (o.mono (λ_ _ e=>.inr e))) (λx d e=>?_);obtain e|e:=e
  .have:=h.wa x e;omega
  .exact .inl e
theorem CB.gets{C f:World}{k:Nat}{A:Value}{G:List dw}(h:CB w wr B kb hv held waits k gv hv' jA H K G)(X:waits[k]?=some c)(W:qe H K c=true)(J:Mod dt wr w3)(hw:w.heap.size<=wr.heap.size)
  (R:fe w6 B u (jx H c)) (I:Mod (λx=>hv'.ownBlock=some x) w3 w6) (z:u.ownBlock=hv'.ownBlock\/∀x,u.ownBlock=some x->w3.heap.size<=x)
  (o:Mod dt (w6.setCell ⟨kb,0,none⟩ u) C) (P:fe f B A (G++[c])) (E:Mod (λx=>gv.ownBlock=some x) C f) (T:A.ownBlock=gv.ownBlock\/∀x,A.ownBlock=some x->C.heap.size<=x) :
  CB w f B kb hv held waits (k+1) A u jA (jx H c) K (G++[c]):=by
 have F:Mod (eQ kb) w6 (w6.setCell ⟨kb,0,none⟩ u):=Mod.eE kb 0 u;have S:=J.size;have z6:=I.size;have z7:=F.size;have z8:=o.size;have DD:=AE h.ky.Z h.ky.w;have t:=AE h.ky.Z h.ky.h;have O:=AE h.ky.Z h.got;have y:=h.ky.Z.mod J id;have U:=y.mod I t;have Q:∀x,u.ownBlock=some x->hv'.ownBlock=some x\/w3.heap.size<=x:=λx d=>by
  obtain e|e:=z
  .exact .inl (by rw[<-e];exact d)
  .exact .inr (e x d)
 have m:∀x,A.ownBlock=some x->gv.ownBlock=some x\/C.heap.size<=x:=λx d=>by
  obtain e|e:=T
  .exact .inl (by rw[<-e];exact d)
  .exact .inr (e x d)
 have j:∀{v:Value} {l:List dw},fe wr B v l->∀x,v.ownBlock=some x->x<w3.heap.size:=λV x d=>aJ (nN V d).2.1 S;have p:u.ownBlock≠some kb:=λe=>by
  rcases Q kb e with q|q
  .exact t q
  .have:=y.lt;omega
 have r:∀x,u.ownBlock=some x->gv.ownBlock≠some x:=λx d e=>by
  rcases Q x d with q|q
  .exact(h.ga x e).1 q
  .have:=j h.got x e;omega
 have M:fe f B u (jx H c):=((R.mod F (λx d e=>by simp only[eQ]at e;rw[e]at d;exact p d)).mod o (λ_ _=>id)).mod E (λx d e=>r x d e);have L:fe f B jA K:=((((h.ky.w.mod J (λ_ _=>id)).mod I (λx d e=>h.ky.ne x e d)).mod F (λx d e=>by simp only[eQ]at e;rw[e]at d;exact DD d)).mod o (λ_ _=>id)).mod E (λx d e=>(h.ga x e).2 d);have Ai:dx f kb [u,jA] 168:=((U.set 0 u).mod o id).mod E O;refine⟨yFg X h.fold (by unfold CH;simp[W]),⟨Ai,M,L,λx d e=>?_⟩,P,FX h.qC c,λx d=>⟨λe=>?_,λe=>?_⟩,?_,h.wa,λx d=>?_,by have:=h.hl;have:=Qn H c;omega,by have:=h.kl;omega,by have:=h.gl;simp;omega,?_⟩
 .rcases Q x d with q|q
  .exact h.ky.ne x q e
  .have:=j h.ky.w x e;omega
 .rcases m x d with q|q
  .exact r x e q
  .have h1:=(nN R e).2.1;omega
 .rcases m x d with q|q
  .exact(h.ga x q).2 e
  .have:=j h.ky.w x e;omega
 .obtain e|e:=z
  .obtain q|q:=h.ha
   .exact .inl (e.trans q)
   .exact .inr (λx d=>q x (by rw[<-e];exact d))
  .exact .inr (λx d=>by have:=e x d;omega)
 .rcases m x d with q|q
  .exact h.gn x q
  .omega
 .have Y:Mod (λx=>hv'.ownBlock=some x\/x=kb\/gv.ownBlock=some x) w3 f:=((I.mono (λ_ _ e=>.inl e)).trans (F.mono (λ_ _ e=>.inr (.inl e)))).trans ((o.mono (λ_ _ e=>e.elim)).trans (E.mono (λ_ _ e=>.inr (.inr e))));refine(h.md.trans (J.mono (λ_ _ e=>e.elim))).trans' Y (λx d e=>?_);obtain e|e|e:=e
  .obtain q|q:=h.ha
   .exact .inr (by rw[<-q];exact e)
   .have:=q x e;omega
  .exact .inl e
  .have:=h.gn x e;omega
def UW(w:World)(B kb:Nat)(hv:Value)(held waits:List dw)(e:Ending)(w':World):Prop:=
 ∃gv hv' jA,e=.returned gv/\CB w w' B kb hv held waits waits.length gv hv' jA (ja held [] waits).1 (ja held [] waits).2.1 (ja held [] waits).2.2
theorem yUt(B kb:Nat)(hv wv:Value)(held waits:List dw)(w:World)(t:NS w B kb hv wv held waits)(heh:kY held)(h1:held.length<=400)(h2:waits.length<=400)(hB:B<=w.heap.size) :
  Calls Tryz.prog 143 #[.pointer (some ⟨kb,0,none⟩)] w (UW w B kb hv held waits):=by
 obtain⟨i0,hi,W,V,U⟩:=A3 Tryz.oW;obtain⟨wa,gW,jI⟩:=fU t.w;subst jI;have hkh:=AE t.Z t.h;have DD:=AE t.Z t.w;have c1:=t.Z.cell 1 rfl;have f1:=t.Z.frozen 1;have hkl:=t.Z.lt;obtain⟨w1,hw1⟩:∃q,q=w.setCell ⟨kb,1,none⟩ (.slice none 0 0):=⟨_,rfl⟩;have dy:Mod (eQ kb) w w1:=by rw[hw1];exact Mod.eE kb 1 _
 have HQV:Hid (fe w1 B (.slice wa waits.length gW) waits):=t.w.mod dy (λx d e=>by simp only[eQ]at e;rw[e]at d;exact DD d);have VI:Hid (CB w w1 B kb hv held waits 0 (.slice none 0 0) hv (.slice none 0 0) held [] []):=by
  refine⟨rfl,⟨?_,t.h.mod dy (λx d e=>by simp only[eQ]at e;rw[e]at d;exact hkh d),A6 _ _ _ _,λx _=>by simp[Value.ownBlock]⟩,A6 _ _ _ _,heh,λx d=>by simp[Value.ownBlock]at d,.inl rfl,λx d=>by simp[Value.ownBlock]at d,λx d=>by simp[Value.ownBlock]at d,by omega,by simp,by simp,dy.mono (λ_ _ e=>.inl e)⟩;have:=t.Z.set 1 (.slice none 0 0);rw[<-hw1]at this;exact this
 have HQB:Hid (∀x,(Value.slice wa waits.length gW).ownBlock=some x->x<w.heap.size/\x≠kb/\hv.ownBlock≠some x):=λx d=>⟨(nN t.w d).2.1,λe=>DD (by rw[<-e];exact d),λe=>t.ne x e d⟩;have AT:=dy.size;have HKW:Hid (fe w B (.slice wa waits.length gW) waits):=t.w;clear t dy;go_enter Tryz.func143,Tryz.ntmps143;go_upto_region 4 with fail;rw[<-hw1];clear hw1 c1 f1;go_wp2_with fail;go_loopw [3,16] (λg0 i wr=>∃(k:Nat) (hv' jA:Value) (H K G:List dw),k<=waits.length/\i=.int .i64 k/\CB w wr B kb hv held waits k g0 hv' jA H K G) (λ_ i _=>waits.length-(intOf i).toNat)
 case atStart=>exact⟨0,_,_,_,_,_,aT _,rfl,VI.out⟩
 case round=>
  obtain⟨k,hv',jA,H,K,G,hkw',rfl,j⟩:=hrel;clear VI;have hHl:=j.hl;have PU:=j.kl;have hGl:=j.gl;have XD:=j.md.size;by_cases hlt:k<waits.length
  .obtain⟨c,hc⟩:∃c,waits[k]?=some c:=⟨_,aA hlt⟩;have Si:fe wr B (.slice wa waits.length gW) waits:=HKW.out.mod j.md (λx d e=>e.elim (HQB.out x d).2.1 (HQB.out x d).2.2);obtain⟨qb,qoff,rfl,_,q0,q1⟩:=(Si.nO (aD _)).at hc;obtain⟨w3,hw3⟩:∃q,q=wr.alloc (.cells #[.int .i64 c.I,.int .i64 c.mode] 170):=⟨_,rfl⟩;have eK:Mod dt wr w3:=by rw[hw3];exact(Mod.refl _ wr).alloc _
   have z:dx w3 wr.heap.size (gC c) 170:=by rw[hw3];exact dx.new wr (gC c) 170
   obtain⟨M,f,nu⟩:=fU j.ky.h;obtain⟨T,CW,jI⟩:=fU j.ky.w;obtain⟨ga,nD,GZ⟩:=fU j.got;subst nu;subst jI;subst GZ;have kI:=dk (yKs w3.heap.size kb _ _ H K c w3 (j.ky.Z.mod eK id) ((j.ky.h.mod eK (λ_ _=>id)).nO (aD _)) ((j.ky.w.mod eK (λ_ _=>id)).nO (aD _)) (by omega) (by omega));have m:=dk j;have HC:=dk hc;have jC:=dk eK;have rh:=dk z;have x0:=z.cell 0 rfl;have x1:=z.cell 1 rfl;have XF:=z.lt;have jq:(k:Int)<(waits.length:Int):=by omega
   have mT:(0:Int)<=(k:Int):=by omega
   clear Si j hc eK z;go_upto_region 7 with fail;rw[<-hw3];clear hw3 q0 q1;go_wp2_with fail;refine kI.out.mono ?_;rintro e o⟨rfl,gw⟩;have A:=rh.out.mod gw id;have y0:=A.cell 0 rfl;have y1:=A.cell 1 rfl;have hzc4:=A.lt;have GR:Mod dt wr o:=jC.out.trans gw;have P:=m.out.ky.Z.mod GR id;have k0:=P.cell 0 rfl;have k1:=P.cell 1 rfl;have S:=P.frozen 0;have R:=P.frozen 1;have X:=P.lt;have Dr:=dk GR;have hz34:=GR.size;have VF:Hid ((Value.slice T K.length CW).ownBlock≠some kb):=AE m.out.ky.Z m.out.ky.w;have VG:Hid ((Value.slice M H.length f).ownBlock≠some kb):=AE m.out.ky.Z m.out.ky.h;have HKG4:Hid ((Value.slice ga G.length nD).ownBlock≠some kb):=AE m.out.ky.Z m.out.got;clear gw A P GR x0 x1 kI
   cases gE:qe H K c with
  |false=>
    have gG:Hid (fe o B (.slice T K.length CW) K):=m.out.ky.w.mod Dr.out (λ_ _=>id);have iu:K.length+1<=maxLen:=by unfold maxLen;omega
    have iv:(K.length+1)*16<=140737488355328:=by omega
    have hBz:B<=o.heap.size:=by omega
    go_upto_region 8 with fail
    go_region_law
     ((first
     |(refine step_append_lies _ (by rfl) _ _ _ (by rfl) B 170 i0 _ 2 16 Tryz.underlying166 hi W V U rfl (by omega) _ _ _ (by rfl) ((World.ownsRow.drew gG.out).alloc _) ⟨o.heap.size,0,none⟩ 1 1 (gC c) (by rfl) (by rfl) (A7 (A0 o.drew _)) (zTu c) (by omega) iu iv (by simp;omega) _ rfl ?_;intro g6 mf w6 ij y hat GV;have r:Mod (λk=>(Value.slice T K.length CW).ownBlock=some k) o w6:=(((Mod.refl _ o).drew).alloc _).grown y (λx d _=>d);have d6:=r.cell k1 VF.out;have f6:=(r.frozen (p:=⟨kb,1,none⟩) X VF.out).trans R)
     |fail))
    all_goals
     have C:(Value.slice (some ⟨g6,0,none⟩) (K.length+1) mf).ownBlock=(Value.slice T K.length CW).ownBlock\/∀x,(Value.slice (some ⟨g6,0,none⟩) (K.length+1) mf).ownBlock=some x->o.heap.size<=x:=by
      obtain e|e:=hat
      .exact .inl (by rw[e];rfl)
      .exact .inr (λx d=>by simp[Value.ownBlock]at d;simp at e;omega)
     have gp:=dk (m.out.wait HC.out gE Dr.out XD (fe.snoc (w:=o) rfl ij) r C);clear ij y hat C r;go_wp2_with fail;go_roundw
     case rel=>exact⟨k+1,_,_,_,_,_,by omega,by go_num,gp.out⟩
     case measure=>simp[intOf];omega
  |true=>
    have Dg:=dk (yJm B (.slice M H.length f) H c o.drew ((m.out.ky.h.mod Dr.out (λ_ _=>id)).mod ((Mod.refl dt o).drew) (λ_ _=>id)) m.out.qC (by omega) (by show B<=o.heap.size;omega));go_upto_region 9 with fail;go_cut [] (λwc=>∃w6 u,fe w6 B u (jx H c)/\Mod (λx=>(Value.slice M H.length f).ownBlock=some x) o w6/\(u.ownBlock=(Value.slice M H.length f).ownBlock\/∀x,u.ownBlock=some x->o.heap.size<=x)/\wc=w6.setCell ⟨kb,0,none⟩ u)
    case first=>
     go_region_with (first
     |(go_at_call 112;refine Dg.out.mono ?_;rintro e w6⟨u6,rfl,O,gR,Q⟩;have r:Mod (λx=>(Value.slice M H.length f).ownBlock=some x) o w6:=((Mod.refl _ o).drew).trans gR;have d6:=r.cell k0 VG.out;have f6:=(r.frozen (p:=⟨kb,0,none⟩) X VG.out).trans S;obtain⟨ua6,uc6,rfl⟩:=fU O)
     |fail)
     all_goals
      have J:=dk O;have L:=dk Q;have Ay:=dk r;clear O Q r gR;go_wp2_with fail;go_meet
      case rel=>exact⟨w6,_,J.out,Ay.out,L.out,rfl⟩
    case rest=>
     obtain⟨w6,u,O,r,Q,E⟩:=hcut;have fq:Mod (eQ kb) w6 wc:=by rw[E];exact Mod.eE kb 0 u
     have vt:fe wc B (.slice ga G.length nD) G:=((m.out.got.mod Dr.out (λ_ _=>id)).mod r (λx d e=>(m.out.ga x d).1 e)).mod fq (λx d e=>by simp only[eQ]at e;rw[e]at d;exact HKG4.out d);have gG:=dk vt;have z46:=r.size;have z67:=fq.size;have hcn:¬(Value.slice M H.length f).ownBlock=some wr.heap.size:=λe=>by have:=(nN m.out.ky.h e).2.1;omega
     have Y:wr.heap.size≠kb:=by have:=m.out.ky.Z.lt;omega
     have t0:=(fq.cell (r.cell y0 hcn) Y);have t1:=(fq.cell (r.cell y1 hcn) Y);have hzt:wr.heap.size<wc.heap.size:=by omega
     have iu:G.length+1<=maxLen:=by unfold maxLen;omega
     have iv:(G.length+1)*16<=140737488355328:=by omega
     have hBz:B<=wc.heap.size:=by omega
     have J:=dk O;have L:=dk Q;have Ay:=dk r;have HWC:=dk E;clear O r Q E vt k0 k1 S R y0 y1 Dg fq;go_wp2_with (first
     |(at_builtin;refine B1 _ rfl (.tmp 43) (.tmp 45) 166 rfl B 170 i0 _ 2 16 Tryz.underlying166 hi W V U rfl (by decide) _ _ _ rfl (gG.out.alloc _) ⟨wc.heap.size,0,none⟩ 1 1 (gC c) rfl rfl (A7 (A0 wc _)) (zTu c) iu iv (by simp;omega) ?_)
     |fail)
     intro v9 w9 nS mX _ xF;have oJ:Mod dt wc (wc.alloc (.cells #[.int .i64 c.I,.int .i64 c.mode] 170)):=(Mod.refl _ wc).alloc _;have ru:Mod (λx=>(Value.slice ga G.length nD).ownBlock=some x) (wc.alloc (.cells #[.int .i64 c.I,.int .i64 c.mode] 170)) w9:=(Mod.refl _ _).grown mX (λx d _=>d);have gp:Hid (CB w w9 B kb hv held waits (k+1) v9 u (.slice T K.length CW) (jx H c) K (G++[c])):=m.out.gets HC.out gE Dr.out XD J.out Ay.out L.out (by rw[<-HWC.out];exact oJ) (fe.snoc (w:=wc) rfl nS) ru (xF.imp (λe=>e) (λe x d=>by rw[e]at d;simp at d;simp;omega));obtain⟨a9,US,hv9⟩:=fU nS;subst hv9;clear nS mX xF oJ ru;go_wp2_with fail;go_roundw
     case rel=>exact⟨k+1,_,_,_,_,_,by omega,by go_num,gp.out⟩
     case measure=>simp[intOf];omega
  .obtain rfl:k=waits.length:=by omega
   have F:=j.fold;rw[bQ,Yw]at F;simp only[aa,Prod.mk.injEq]at F;obtain⟨e1,e2,e3⟩:=F;rw[<-e1,<-e2,<-e3]at j;obtain⟨ga,nD,GZ⟩:=fU j.got;subst GZ;have m:=dk j;clear j e1 e2 e3;go_wp2_with fail;go_ret;exact⟨_,_,_,rfl,m.out⟩
def gP(k:ByteArray):Prop:=k.size<=maxLen
def sR:Value->Option (DataW Unit)
|.slice none n c=>if n=0/\c=0 then some .nil else none
|.slice (some a) n c=>if a.off=0/\a.spot=none then some (.agg [.lit (.int .i64 a.block),.lit (.int .i64 n),.lit (.int .i64 c)])else none
|_=>none
def sW(v:Value):DataW Unit:=(sR v).getD .nil
def se(v:Value):Prop:=v=.slice none 0 0\/∃g n c,v=.slice (some ⟨g,0,none⟩) n c
theorem yIi(h:se v):sR v=some (sW v):=by
 obtain rfl|⟨g,n,c,rfl⟩:=h <;> simp[sR,sW]
theorem yKo{y:DataW Unit}(h:sR v=some y):se v/\y=sW v:=by
 have d:se v:=by
  unfold sR at h;split at h
  .rename_i n c;split at h
   .rename_i e;obtain⟨rfl,rfl⟩:=e;exact .inl rfl
   .cases h
  .rename_i a n c;split at h
   .rename_i e;obtain⟨b,o,s⟩:=a;simp at e;obtain⟨rfl,rfl⟩:=e;exact .inr ⟨b,n,c,rfl⟩
   .cases h
  .cases h
 refine⟨d,?_⟩;rw[yIi d]at h
 cases h
 rfl
theorem yKu(hv:se v)(e:se u)(h:sW v=sW u):v=u:=by
 obtain rfl|⟨g,n,c,rfl⟩:=hv <;> obtain rfl|⟨f,d,j,rfl⟩:=e
 .rfl
 .simp[sW,sR]at h
 .simp[sW,sR]at h
 .simp[sW,sR]at h;obtain⟨p,o,m⟩:=h;have:g=f:=by omega
  have:n=d:=by omega
  have:c=j:=by omega
  subst_vars;rfl
theorem Qp{e:TypeId}{d:Nat}{xs:List Value}(h:w.ownsRow B e d v n xs):se v:=by
 obtain⟨rfl,_⟩|⟨g,cap,cur,rfl,_⟩:=h.2
 .exact .inl rfl
 .exact .inr ⟨g,n,cap,rfl⟩
def sv:Value->Option (DataW Unit×List MemPlace)
|.agg d=>match d.toList with
 |[h,v]=>match sR h,sR v with
  |some a,some b=>some (.agg [a,b],[])
  |_,_=>none
 |_=>none
|_=>none
def mc(h v:Value):DataW Unit:=.agg [sW h,sW v]
def Fg:DataW Unit:=.agg [.nil,.nil]
theorem yKw(d:se h)(hv:se v):sv (.agg #[h,v])=some (mc h v,[]):=by
 simp[sv,yIi d,yIi hv,mc]
theorem yFq{x:Value}{y:DataW Unit×List MemPlace}(h:sv x=some y):∃a b,x=.agg #[a,b]/\se a/\se b/\y.1=mc a b:=by
 unfold sv at h;split at h
 .rename_i d;split at h
  .rename_i a b e;split at h
   .rename_i p q j f;obtain⟨o,rfl⟩:=yKo j;obtain⟨m,rfl⟩:=yKo f
    cases h
    refine⟨a,b,?_,o,m,rfl⟩;have:d=#[a,b]:=by apply Array.ext';simpa using e
    rw[this]
   .cases h
  .cases h
 .cases h
theorem yKv{f d:Value}(a:se h)(b:se v)(m:se f)(j:se d)(e:mc h v=mc f d):h=f/\v=d:=by
 simp[mc]at e;exact⟨yKu a m e.1,yKu b j e.2⟩
theorem WB(h:a.data.toList=b.data.toList):a=b:=by
 cases a;cases b;simp at h;simp;exact h
def gu(k:ByteArray):Lit:=.string k.data.toList
theorem yBv(h:gu a=gu b):a=b:=WB (by simpa[gu]using h)
theorem Vg(k:ByteArray):WideAt.IsKeyLit (gu k):=by simp[WideAt.IsKeyLit,gu]
structure jB where
 b:Nat
 pre:List Value
 post:List Value
 t:TypeId
 m:Option Nat
 n:Nat
 hd:ByteArray->Bool->Value
def jB.own(q:jB)(x:Nat):Prop:=q.m=some x\/∃k i,gP k/\(q.hd k i).ownBlock=some x
def fP.list(k:fP)(i:Bool):List dw:=if i then k.held else k.waits
def rZ(w:World)(B:Nat)(m:Option Nat)(n:Nat)(d:ByteArray->Bool->Value)(s:gU):Prop:=match m with
|none=>∀k,gP k->(∀i,d k i=.slice none 0 0)/\(s k).bare
|some g=>B<=g/\∃D,w.ownsMap Tryz.prog 9 sv g n D/\∀k,gP k->D.atKey (gu k) Fg=mc (d k true) (d k false)/\(Maps.has D (gu k)=true↔¬(s k).bare)
structure kx(w:World)(B N:Nat)(q:jB)(s:gU)(no:ByteArray->Prop):Prop where
 Z:dx w q.b (q.pre++.map q.m::q.post) q.t
 bt:q.t≠170
 map:rZ w B q.m q.n q.hd s
 hdr:∀k i,gP k->se (q.hd k i)
 rows:∀k i,gP k->¬no k->fe w B (q.hd k i) ((s k).list i)
 apart:∀k k' i i' x,gP k->gP k'->(q.hd k i).ownBlock=some x->(q.hd k' i').ownBlock=some x->k=k'/\i=i'
 ok:∀k,gP k->nY (s k)
 few:∀k,gP k->(s k).held.length+(s k).waits.length<=N
def Rx(_:ByteArray):Prop:=False
abbrev qD(w:World)(B N:Nat)(q:jB)(s:gU):Prop:=kx w B N q s Rx
theorem rZ.mod{m:Option Nat}{e:ByteArray->Bool->Value}(h:rZ w B m n e s)(j:Mod G w w')(p:∀x,m=some x->¬G x):rZ w' B m n e s:=by
 cases m with
|none=>exact h
|some g=>
  obtain⟨h0,D,f,q⟩:=h;have d:=f.lt;obtain⟨t,clock,o,r⟩:=f;exact⟨h0,D,⟨t,clock,(j.block g d (p g rfl)).trans o,r⟩,q⟩
theorem kx.mod{q:jB}(h:kx w B N q s no)(e:Mod G w w')(o:¬G q.b)(j:∀x,q.own x->¬G x):kx w' B N q s no:=
 ⟨h.Z.mod e o,h.bt,h.map.mod e (λx d=>j x (.inl d)),h.hdr,λk i f m=>(h.rows k i f m).mod e (λx d=>j x (.inr ⟨k,i,f,d⟩)),h.apart,h.ok,h.few⟩
theorem kx.old{q:jB}(h:kx w B N q s no)(j:gP k)(d:¬no k)(f:(q.hd k i).ownBlock=some x):B<=x/\x<w.heap.size/\∃e,w.heap[x]?=some (.cells e 170 (0,0)):=nN (h.rows k i j d) f
theorem kx.lt{q:jB}(h:qD w B N q s)(d:q.own x):B<=x/\x<w.heap.size:=by
 obtain d|⟨k,i,e,d⟩:=d
 .have:=h.map;rw[d]at this;obtain⟨h0,D,f,_⟩:=this;exact⟨h0,f.lt⟩
 .have:=h.old e id d;exact⟨this.1,this.2.1⟩
theorem kx.mS{q:jB}(h:kx w B N q s no)(r:gP k)(d:¬no k)(p:(q.hd k i).ownBlock=some x):x≠q.b/\q.m≠some x:=by
 obtain⟨_,_,t,j⟩:=h.old r d p;refine⟨λe=>?_,λe=>?_⟩
 .subst e;have:=h.Z;unfold dx at this;rw[j]at this;simp at this;exact h.bt this.2.symm
 .have f:=h.map;rw[e]at f;obtain⟨_,D,⟨y,clock,o,_⟩,_⟩:=f;rw[j]at o
  cases o
theorem kx.CT{q:jB}(h:kx w B N q s no):q.m≠some q.b:=λe=>by
 have d:=h.map;rw[e]at d;obtain⟨_,D,⟨j,clock,f,_⟩,_⟩:=d;have:=h.Z;unfold dx at this;rw[this]at f
 cases f
theorem kx.cell{q:jB}(h:kx w B N q s no):w.cell? ⟨q.b,q.pre.length,none⟩=some (.map q.m):=h.Z.cell _ (by simp)
theorem OY:Keyed Tryz.prog 9:=string_keyed Tryz.underlying9
theorem yTq(w:World):(zeroValue 168).run Tryz.prog w=.ok (.agg #[.slice none 0 0,.slice none 0 0]) w:=by kernel_rfl
theorem yVm(k:ByteArray)(w:World):(Instr.lookup 79 (.map none) (.string k) false).run Tryz.prog w=.ok (.agg #[.slice none 0 0,.slice none 0 0]) w:=by kernel_rfl
theorem kx.look{q:jB}(h:kx w B N q s no)(d:gP k):(Instr.lookup 79 (.map q.m) (.string k) false).run Tryz.prog w=.ok (.agg #[q.hd k true,q.hd k false]) w:=by
 have f:=h.map
 cases j:q.m with
|none=>
  rw[j]at f;rw[(f k d).1 true,(f k d).1 false];exact yVm k w
|some g=>
  rw[j]at f;obtain⟨_,D,p,o⟩:=f;obtain⟨v,A,e,hv⟩:=p.lookup OY Tryz.underlying79 (yTq w) (zd:=Fg) (zp:=[]) (yKw (.inl rfl) (.inl rfl)) (B5 Tryz.underlying9 d);obtain⟨a,b,rfl,z,y,t⟩:=yFq hv;have r:mc a b=mc (q.hd k true) (q.hd k false):=by rw[<-t];exact(o k d).1
  obtain⟨rfl,rfl⟩:=yKv z y (h.hdr k true d) (h.hdr k false d) r;exact e
theorem kx.less{q:jB}(h:qD w B N q s)(no:ByteArray->Prop):kx w B N q s no:=
 ⟨h.Z,h.bt,h.map,h.hdr,λk i d _=>h.rows k i d id,h.apart,h.ok,h.few⟩
theorem kx.turn{q:jB}(h:kx w B N q s (·=name))(f:Mod G w w')(p:¬G q.b)(e:∀x,q.m=some x->¬G x)(r:∀k i x,gP k->k≠name->(q.hd k i).ownBlock=some x->¬G x):kx w' B N q s (·=name):=
 ⟨h.Z.mod f p,h.bt,h.map.mod f e,h.hdr,λk i j d=>(h.rows k i j d).mod f (λx o=>r k i x j d o),h.apart,h.ok,h.few⟩
def Ij(h:ByteArray->Bool->Value)(k:ByteArray)(v:Bool->Value):ByteArray->Bool->Value:=λx=>if x=k then v else h x
theorem BW(h:ByteArray->Bool->Value)(k:ByteArray)(v:Bool->Value):Ij h k v k=v:=by unfold Ij;rw[aK rfl]
theorem BX{h:ByteArray->Bool->Value}{x:ByteArray}{v:Bool->Value}(e:x≠k):Ij h k v x=h x:=by unfold Ij;rw[aH e]
theorem wI(s:gU)(k:ByteArray)(a:fP):jo s k a k=a:=by unfold jo;rw[aK rfl]
theorem AI{x:ByteArray}{a:fP}(e:x≠k):jo s k a x=s x:=by unfold jo;rw[aH e]
structure EG(w:World)(B:Nat)(q:jB)(name:ByteArray)(v:Bool->Value)(k':fP):Prop where
 row:∀i,fe w B (v i) (k'.list i)
 ne:∀x,(v true).ownBlock=some x->(v false).ownBlock≠some x
 out:∀k i j x,gP k->k≠name->(q.hd k i).ownBlock=some x->(v j).ownBlock≠some x
structure Ka(w w':World)(B N:Nat)(q q':jB)(s:gU)(name:ByteArray)(v:Bool->Value)(k':fP):Prop where
 tb:qD w' B N q' (jo s name k')
 b:q'.b=q.b
 pre:q'.pre=q.pre
 post:q'.post=q.post
 t:q'.t=q.t
 n1:q'.n<=q.n+1
 n0:¬(s name).bare->q'.n<=q.n
 md:Mod (λx=>x=q.b\/q.m=some x) w w'
 own:∀x,q'.own x->q.own x\/w.heap.size<=x\/∃i,(v i).ownBlock=some x
theorem Yq{q:jB}{v:Bool->Value}{m:Option Nat}(h:kx w B N q s (·=name))(P:gP name)(z:EG w B q name v k')(F:nY k')(hN:k'.held.length+k'.waits.length<=N')(O:N<=N')
  (J:Mod G w w') (M:∀k i x,gP k->(Ij q.hd name v k i).ownBlock=some x->¬G x) (L:dx w' q.b (q.pre++.map m::q.post) q.t) (r:rZ w' B m n (Ij q.hd name v) (jo s name k')) :
  qD w' B N' {q with m:=m,n:=n,hd:=Ij q.hd name v} (jo s name k'):=by
 have o:∀k i,gP k->fe w B (Ij q.hd name v k i) ((jo s name k' k).list i):=λk i d=>by
  by_cases e:k=name
  .subst e;rw[BW,wI];exact z.row i
  .rw[BX e,AI e];exact h.rows k i d e
 refine⟨L,h.bt,r,λk i d=>Qp (o k i d),λk i d _=>(o k i d).mod J (λx I=>M k i x d I),λk A i C x y d j f=>?_,λk d=>?_,λk d=>?_⟩
 .simp only at j f;by_cases E:k=name
  .by_cases p:A=name
   .subst E;refine⟨p.symm,?_⟩;subst p;rw[BW]at j f
    cases i <;> cases C
    .rfl
    .exact absurd j (z.ne x f)
    .exact absurd f (z.ne x j)
    .rfl
   .subst E;rw[BW]at j;rw[BX p]at f;exact absurd j (z.out A C i x d p f)
  .rw[BX E]at j;by_cases p:A=name
   .subst p;rw[BW]at f;exact absurd f (z.out k i C x y E j)
   .rw[BX p]at f;exact h.apart k A i C x y d j f
 .by_cases e:k=name
  .rw[e,wI];exact F
  .rw[AI e];exact h.ok k d
 .by_cases e:k=name
  .rw[e,wI];exact hN
  .rw[AI e];exact aO (h.few k d) O
theorem yKn(w:World)(B:Nat)(q:jB)(name:ByteArray):EG w B q name (λ_=>.slice none 0 0) ⟨[],[]⟩:=
 ⟨λi=>by cases i <;> exact A6 _ _ _ _,λx d=>by simp[Value.ownBlock]at d,λk i j x _ _ _=>by simp[Value.ownBlock]⟩
theorem ySv{k:fP}(h:k.bare):k=⟨[],[]⟩:=by cases k;obtain⟨e,d⟩:=h;simp at e d;rw[e,d]
theorem yRe{q:jB}{v:Bool->Value}(h:kx w B N q s (·=name))(y:gP name)(t:k'.bare)(A:N<=N')(j:Mod dt w w')(p:q.m=none) :
  ∃r,Ka w w' B N' q r s name v k':=by
 have z:=ySv t;subst z;have f:=h.map;rw[p]at f;refine⟨_,⟨Yq (m:=none) (n:=q.n) h y (yKn w B q name) nY.nil (by simp) A j (λ_ _ _ _ _=>id) (by have:=h.Z.mod j id;rw[p]at this;exact this) (λk o=>?_),rfl,rfl,rfl,rfl,by show q.n<=q.n+1;omega,λ_=>aD _,j.mono (λ_ _ e=>e.elim),λx d=>?_⟩⟩
 .by_cases e:k=name
  .subst e;rw[BW,wI];exact⟨λ_=>rfl,rfl,rfl⟩
  .rw[BX e,AI e];exact f k o
 .obtain d|⟨k,i,o,d⟩:=d
  .cases d
  .simp only at d;by_cases e:k=name
   .subst e;rw[BW]at d;simp[Value.ownBlock]at d
   .rw[BX e]at d;exact .inl (.inr ⟨k,i,o,d⟩)
theorem yBn(h:w.ownsMap Tryz.prog 9 sv g n D):w.ownsMap Tryz.prog 9 sv g (Maps.size D) D:=by
 obtain⟨e,clock,d,F,_,rfl⟩:=h;exact⟨e,clock,d,F,by simp[Maps.size,length_sorted],rfl⟩
theorem yVt{w1:World}{q:jB}{v:Bool->Value}(h:kx w B N q s (·=name))(C:gP name)(A:k'.bare)(M:N<=N')(L:Mod dt w w1)(j:q.m=some g)(t:B<=g)
  (I:∀k,gP k->D.atKey (gu k) Fg=mc (q.hd k true) (q.hd k false)/\(Maps.has D (gu k)=true↔¬(s k).bare)) (o:w'.ownsMap Tryz.prog 9 sv g q.n (D.del (gu name))) (E:Mod (eQ g) w1 w') :
  ∃z,Ka w w' B N' q z s name v k':=by
 have F:=ySv A;subst F;have f:Mod (eQ g) w w':=(L.mono (λ_ _ e=>e.elim)).trans E;refine⟨_,⟨Yq (m:=some g) (n:=q.n) h C (yKn w B q name) nY.nil (by simp) M f (λk i x r d e=>?_) ?_ ⟨t,_,o,λk r=>?_⟩,rfl,rfl,rfl,rfl,by show q.n<=q.n+1;omega,λ_=>aD _,f.mono (λx _ e=>.inr (by simp only[eQ]at e;rw[j,e])),λx d=>?_⟩⟩
 .simp only[eQ]at e;by_cases y:k=name
  .subst y;rw[BW]at d;simp[Value.ownBlock]at d
  .rw[BX y]at d;exact(h.mS r y d).2 (by rw[j,e])
 .have:=h.Z.mod f (λe=>by simp only[eQ]at e;exact h.CT (by rw[j,e]));rw[j]at this;exact this
 .by_cases e:k=name
  .subst e;rw[BW,wI,atKey_del_same,has_del_same];refine⟨rfl,?_⟩;simp[fP.bare]
  .have p:gu k≠gu name:=λJ=>e (yBv J);rw[BX e,AI e,atKey_del_other p,has_del_other p];exact I k r
 .obtain d|⟨k,i,r,d⟩:=d
  .exact .inl (.inl (by rw[j];exact d))
  .simp only at d;by_cases e:k=name
   .subst e;rw[BW]at d;simp[Value.ownBlock]at d
   .rw[BX e]at d;exact .inl (.inr ⟨k,i,r,d⟩)
theorem yVr{q:jB}(h:kx w B N q s (·=name))(hB:B<=w.heap.size)(t:q.m=none) :
  kx ((w.setCell ⟨q.b,q.pre.length,none⟩ (.map (some w.heap.size))).alloc (.map #[] 0)) B N {q with m:=some w.heap.size,n:=0} s (·=name)/\Mod (eQ q.b) w ((w.setCell ⟨q.b,q.pre.length,none⟩ (.map (some w.heap.size))).alloc (.map #[] 0)):=by
 have j:Mod (eQ q.b) w ((w.setCell ⟨q.b,q.pre.length,none⟩ (.map (some w.heap.size))).alloc (.map #[] 0)):=(Mod.eE _ _ _).alloc _;have d:=h.map;rw[t]at d;refine⟨⟨?_,h.bt,⟨hB,.map [],?_,λk o=>?_⟩,h.hdr,λk i o f=>(h.rows k i o f).mod j (λx r e=>?_),h.apart,h.ok,h.few⟩,j⟩
 .have:=(h.Z.set q.pre.length (.map (some w.heap.size))).mod ((Mod.refl dt _).alloc (.map #[] 0)) id;rw[dH _ _ (aD _),dO,List.set_cons_zero]at this;exact this
 .have p:=B2 (w.setCell ⟨q.b,q.pre.length,none⟩ (.map (some w.heap.size))) Tryz.prog 9 sv;simpa using p
 .obtain⟨p,y⟩:=d k o;show DataW.atKey (.map []) (gu k) Fg=mc (q.hd k true) (q.hd k false)/\_;rw[p true,p false];exact⟨rfl,by simp[has,y]⟩
 .simp only[eQ]at e;exact(h.mS o f r).1 e
theorem yVq{t:World}{q:jB}{v:Bool->Value}(h:kx w B N q s (·=name))(M:gP name)(O:EG w B q name v k')(E:nY k')(hN:k'.held.length+k'.waits.length<=N')(Y:N<=N')(V:¬k'.bare)(p:q.m=some g)(I:B<=g)
  (f:w.ownsMap Tryz.prog 9 sv g q.n D) (T:∀k,gP k->D.atKey (gu k) Fg=mc (q.hd k true) (q.hd k false)/\(Maps.has D (gu k)=true↔¬(s k).bare))
  (S:t.ownsMap Tryz.prog 9 sv g (q.n+1) (D.put (gu name) (mc (v true) (v false)))) (y:Mod (eQ g) w t) :
  ∃U,Ka w t B N' q U s name v k':=by
 have R:=f.isMap;have A:=f.tidy OY;have C:=f.size_le;have J:=yBn S;obtain⟨o,hn',h7n,hn0⟩:∃o,o<=q.n+1/\t.ownsMap Tryz.prog 9 sv g o (D.put (gu name) (mc (v true) (v false)))/\(¬(s name).bare->o<=q.n):=by
  refine⟨_,S.size_le,J,λF=>?_⟩;rw[size_put A,aK ((T name M).2.2 F)];exact C
 have z:∀i x,(v i).ownBlock=some x->x≠g:=λi x d e=>by
  obtain⟨_,_,X,P⟩:=nN (O.row i) d;obtain⟨es,clock,Q,_⟩:=f;rw[e]at P;rw[P]at Q
  cases Q
 refine⟨_,⟨Yq (m:=some g) (n:=o) h M O E hN Y y (λk i x j d e=>?_) ?_ ⟨I,_,h7n,λk j=>?_⟩,rfl,rfl,rfl,rfl,hn',hn0,y.mono (λx _ e=>.inr (by simp only[eQ]at e;rw[p,e])),λx d=>?_⟩⟩
 .simp only[eQ]at e;by_cases L:k=name
  .subst L;rw[BW]at d;exact z i x d e
  .rw[BX L]at d;exact(h.mS j L d).2 (by rw[p,e])
 .have:=h.Z.mod y (λe=>by simp only[eQ]at e;exact h.CT (by rw[p,e]));rw[p]at this;exact this
 .by_cases e:k=name
  .subst e;rw[BW,wI,atKey_put_same R (Vg _),has_put_same R (Vg _)];exact⟨rfl,by simp[V]⟩
  .have r:gu k≠gu name:=λW=>e (yBv W);rw[BX e,AI e,atKey_put_other r,has_put_other r];exact T k j
 .obtain d|⟨k,i,j,d⟩:=d
  .exact .inl (.inl (by rw[p];exact d))
  .simp only at d;by_cases e:k=name
   .subst e;rw[BW]at d;exact .inr (.inr ⟨i,d⟩)
   .rw[BX e]at d;exact .inl (.inr ⟨k,i,j,d⟩)
theorem yYu(m:Option Nat)(w:World):(binOp .eql 79 (.map m) (.map none)).run Tryz.prog w=.ok (.bool m.isNone) w:=by cases m <;> kernel_rfl
theorem yDn(w:World):(Instr.makeMap 79 none).run Tryz.prog w=.ok (.map (some w.heap.size)) (w.alloc (.map #[] 0)):=by kernel_rfl
end Go.Proofs.YtmaiggbnceejiaaGreatDoor
namespace Go.Proofs.YtmaiggbnceejiaaGreatDoor
open Go.RowKit Go.Lib Go.Maps Go.Shelf
variable {w w6:World}{B N:Nat}{s:gU}{q:jB}{name:ByteArray}{c:dw}{u:Value}
theorem rZ.get{n g:Nat}{m:Option Nat}{a:ByteArray->Bool->Value}(h:rZ w B m n a s)(b:m=some g):B<=g/\∃D,w.ownsMap Tryz.prog 9 sv g n D/\∀k,gP k->D.atKey (gu k) Fg=mc (a k true) (a k false)/\(Maps.has D (gu k)=true↔¬(s k).bare):=by
 subst b;exact h
theorem yBw(B N N':Nat)(q:jB)(s:gU)(name:ByteArray)(v:Bool->Value)(k':fP)(w:World)(h:kx w B N q s (·=name))(Y:gP name)(hk:EG w B q name v k')(O:nY k')(hN:k'.held.length+k'.waits.length<=N')(DV:N<=N')(GJ:q.n<=1000000)(hB:B<=w.heap.size) :
  Calls Tryz.prog 113 #[.pointer (some ⟨q.b,q.pre.length,none⟩),.string name,.agg #[v true,v false]] w λe w'=>e=.returned (.tuple #[])/\∃L,Ka w w' B N' q L s name v k':=by
 have R:Hid (keyOf Tryz.prog 9 (.string name)=some (gu name)):=B5 Tryz.underlying9 Y;obtain⟨ha,hcap,F⟩:=fU (hk.row true);obtain⟨wa,gW,G⟩:=fU (hk.row false);have e1:k'.list true=k'.held:=rfl;have o:k'.list false=k'.waits:=rfl;rw[e1]at F;rw[o]at G;obtain⟨w1,hw1⟩:∃x,x=w.alloc (.cells #[v true,v false] 168):=⟨_,rfl⟩;have dy:Mod dt w w1:=by rw[hw1];exact(Mod.refl _ w).alloc _
 have f:dx w1 w.heap.size [v true,v false] 168:=by rw[hw1];exact dx.new w [v true,v false] 168
 have W:=f.cell 0 rfl;have V:=f.cell 1 rfl;have hz1:=f.lt;have h1:=h.mod dy id (λ_ _=>id);have c0:=h1.cell;have hzb:=h1.Z.lt;have HT:=dk h;have QG:=dk h1;have K:=dk hk;have C:=dk dy;have qF:=dk O;have kh:=dk f;have HW:Hid (w1.heap.size=w.heap.size+1):=by rw[hw1,Hid];simp
 rw[F]at W;rw[G]at V;rw[F,G]at hw1;rw[F,G];have Dx:=dk F;have De:=dk G;have GL:q.b<w.heap.size:=h.Z.lt;clear h hk O dy f h1 F G e1 o;generalize I:k'.held.length=X at W V hw1 Dx hN;generalize E:k'.waits.length=lw at W V hw1 De hN;by_cases lW:X=0/\lw=0
 .obtain⟨rfl,rfl⟩:=lW;have Yf:Hid k'.bare:=⟨aR I,aR E⟩
  cases r:q.m with
 |none=>
   have pr:∀ty (w:World),(Builtin.delete_ #[79,9] ty #[.map none,.string name]).run Tryz.prog w=.ok (.tuple #[]) w:=λty w=>Go.ChangeMaps.run_delete_nil Tryz.underlying79 Tryz.underlying9 name;rw[r]at c0;have HQ:=dk (yRe (v:=v) HT.out Y Yf.out DV C.out r);clear r I E;go_enter Tryz.func113,Tryz.ntmps113;go_upto_region 1 with fail;rw[<-hw1];clear hw1;go_wp2_with fail
   first
   |go_end0
   |refine A5 (B4 rfl _ _ _) rfl ?_
   exact⟨rfl,HQ.out⟩
 |some g=>
   rw[r]at c0;obtain⟨A,D,a,S⟩:=QG.out.map.get r;have HO:=dk a;have HD:=dk S;have YS:=dk r;clear r I E a S;go_enter Tryz.func113,Tryz.ntmps113;go_upto_region 1 with fail;rw[<-hw1];clear hw1;go_wp2_with (first
   |(at_delete;refine wpList_delete_own _ rfl _ _ 79 9 rfl 168 OY Tryz.underlying79 sv g q.n D rfl HO.out _ (gu name) rfl R.out ?_)
   |fail)
   intro w2 d Cj;have Q:Mod (eQ g) w1 w2:=(Mod.refl _ w1).grown Cj.grown (λx k _=>by simp only[eQ];simpa using k.symm);have HQ:=dk (yVt (v:=v) HT.out Y Yf.out DV C.out YS.out A HD.out d Q);clear d Cj Q;go_wp2_with fail
   first
   |go_end0
   |refine A5 (B4 rfl _ _ _) rfl ?_
   exact⟨rfl,HQ.out⟩
 .have Yf:Hid (¬k'.bare):=λe=>lW ⟨by rw[<-I,e.1];rfl,by rw[<-E,e.2];rfl⟩;have hen:=yYu q.m w1;have hmm:=yDn;have U:Hid (k'.held.length+k'.waits.length<=N'):=by rw[Hid,I,E];exact hN
  have XV:=QG.out.Z.frozen q.pre.length;have HKP:Hid (∀wc,Mod (eQ q.b) w1 wc->EG wc B q name v k'):=λwc oI=>by
   have J:Mod (eQ q.b) w wc:=(C.out.mono (λ_ _ e=>e.elim)).trans oI;refine⟨λi=>(K.out.row i).mod J (λx k e=>?_),K.out.ne,K.out.out⟩;simp only[eQ]at e;subst e;obtain⟨_,_,cur,hc⟩:=nN (K.out.row i) k;have:=HT.out.Z;unfold dx at this;rw[hc]at this;simp at this;exact HT.out.bt this.2.symm
  clear I E;go_enter Tryz.func113,Tryz.ntmps113;go_upto_region 1 with fail;rw[<-hw1];clear hw1;have hg0:(X=0/\¬lw=0)\/¬X=0:=by omega
  go_cut [15] (λb15 wc=>b15=.bool false/\wc=w1)
  case first=>
   obtain⟨rfl,hg1⟩|hg1:=hg0
   .have hi1:¬(lw:Int)=0:=by omega
    go_wp2_with fail;go_meet
    case rel=>exact⟨by first|(simp;done)|(simp;omega),rfl⟩
   .have hi1:¬(X:Int)=0:=by omega
    go_wp2_with fail;go_meet
    case rel=>exact⟨by first|(simp;done)|(simp;omega),rfl⟩
  case rest=>
   obtain⟨rfl,Ce⟩:=hcut;rw[Ce];clear Ce;go_upto_if 25 with fail;go_cut [] (λwc=>∃(g M:Nat),kx wc B N {q with m:=some g,n:=M} s (·=name)/\M<=q.n/\Mod (eQ q.b) w1 wc/\(q.m=some g\/w1.heap.size<=g))
   case first=>
    cases p:q.m with
   |none=>
     have T:=dk (yVr QG.out (aO hB C.out.size) p);have hqi:q.m.isNone=true:=by rw[p];rfl
     have YS:=dk p;clear p;go_wp2_with fail;go_meet
     case rel=>exact⟨w1.heap.size,0,T.out.1,aT _,T.out.2,.inr (aD _)⟩
   |some g=>
     have sa:Hid (kx w1 B N {q with m:=some g,n:=q.n} s (·=name)):=by
      have:({q with m:=some g,n:=q.n}:jB)=q:=by rw[<-p]
      rw[this];exact QG.out
     have hqi:q.m.isNone=false:=by rw[p];rfl
     have YS:=dk p;clear p;go_wp2_with fail;go_meet
     case rel=>exact⟨g,q.n,sa.out,aD _,Mod.refl _ _,.inl YS.out⟩
   case rest=>
    obtain⟨g,M,hS,GN,H,y⟩:=hcut;obtain⟨q2,hq2⟩:∃x:jB,x={q with m:=some g,n:=M}:=⟨_,rfl⟩;rw[<-hq2]at hS;have Ls:q2.m=some g:=by rw[hq2]
    have Sx:q2.n=M:=by rw[hq2]
    have z:kx wc.drew B N q2 s (·=name):=hS.mod ((Mod.refl dt wc).drew) id (λ_ _=>id);obtain⟨A,D,a,S⟩:=z.map.get Ls;have J:Mod (eQ q.b) w1 wc.drew:=H.drew;have Am:EG wc.drew B q2 name v k':=by
     have h9:=HKP.out wc.drew J;exact⟨h9.row,h9.ne,by rw[hq2];exact h9.out⟩
    obtain⟨w7,gT,eX,Ci⟩:=a.store OY Tryz.underlying79 (by rw[Sx];unfold maxLen;omega) R.out (yKw (Qp (K.out.row true)) (Qp (K.out.row false)));have im:Mod (eQ g) wc.drew w7:=(Mod.refl _ wc.drew).grown Ci.grown (λx k _=>by simp only[eQ];simpa using k.symm);have gp:Hid (∃L,Ka w w7 B N' q L s name v k'):=by
     obtain⟨L,l⟩:=yVq z Y Am qF.out U.out DV Yf.out Ls A a S eX im;refine⟨L,⟨l.tb,by rw[l.b,hq2],by rw[l.pre,hq2],by rw[l.post,hq2],by rw[l.t,hq2],by have:=l.n1;omega,λhb=>by have:=l.n0 hb;omega,?_,λx k=>?_⟩⟩
     .have a1:Mod (eQ q.b) w wc.drew:=(C.out.mono (λ_ _ e=>e.elim)).trans J;refine(a1.mono (G':=λx=>x=q.b\/q.m=some x) (λx _ e=>.inl e)).trans' im (λx k e=>?_);simp only[eQ]at e;obtain o|o:=y
      .exact .inr (by rw[o,e])
      .have:=C.out.size;omega
     .have hz3:=J.size;have hz1':=C.out.size;rcases l.own x k with j|j|j
      .rw[hq2]at j;obtain j|j:=j
       .simp at j;obtain o|o:=y
        .exact .inl (.inl (by rw[o,j]))
        .exact .inr (.inl (by omega))
       .exact .inl (.inr j)
      .exact .inr (.inl (by omega))
      .exact .inr (.inr j)
    have x0:wc.cell? ⟨q.b,q.pre.length,none⟩=some (.map (some g)):=by have:=hS.cell;rw[hq2]at this;exact this
    have zb:q.b<wc.heap.size:=aJ hzb H.size;have P:w.heap.size≠q.b:=by omega
    have y0:=H.cell W P;have y1:=H.cell V P;have zk:w.heap.size<wc.heap.size:=aJ hz1 H.size;rw[Dx.out,De.out]at gT;clear hS z a S Am eX Ci im J H y hq2 Ls Sx hen hmm;go_upto_region 5 with fail;go_region
    all_goals
     go_wp2_with fail
     first
     |go_end0
     |refine A5 (B4 rfl _ _ _) rfl ?_
     exact⟨rfl,gp.out⟩
theorem yYt(a:Option Addr)(n c:Nat)(d:Option Addr)(b c':Nat)(w:World):(Instr.field 168 (.agg #[.slice a n c,.slice d b c']) 0).run Tryz.prog w=.ok (.slice a n c) w:=by kernel_rfl
theorem yYs(a:Option Addr)(n c:Nat)(d:Option Addr)(b c':Nat)(w:World):(Instr.field 168 (.agg #[.slice a n c,.slice d b c']) 1).run Tryz.prog w=.ok (.slice d b c') w:=by kernel_rfl
theorem yRi(B N:Nat)(q:jB)(s:gU)(t:Int)(name:ByteArray)(w:World)(h:qD w B N q s)(d:gP name)(hN:N<=900) :
  Calls Tryz.prog 70 #[.pointer (some ⟨q.b,q.pre.length,none⟩),.int .i64 t,.string name] w λe l=>e=.returned (.int .i64 (jD (s name).held t))/\Mod dt w l:=by
 have v:=h.cell;have p:=h.Z.lt;have i:=h.look d;have r:=h.few name d;have f:=h.rows name true d id;have k:=dk (RK w.heap.size (q.hd name true) (s name).held t w (f.nO (aD _)) (h.ok name d).held (by omega));obtain⟨a,o,n⟩:=fU f;obtain⟨x,j,g⟩:=fU (h.rows name false d id);rw[n]at i k;rw[g]at i;have y:=yYt;clear h f;go_enter Tryz.func70,Tryz.ntmps70;go_wp2_with fail;refine k.out.mono ?_;rintro e w1⟨rfl,m⟩;go_wp2_with fail;go_ret;exact⟨rfl,m⟩
theorem yOu(B N:Nat)(q:jB)(s:gU)(name:ByteArray)(w:World)(h:qD w B N q s)(d:gP name)(hN:N<=900) :
  Calls Tryz.prog 77 #[.pointer (some ⟨q.b,q.pre.length,none⟩),.string name] w λe k=>∃u,e=.returned u/\ju k w.heap.size u ((s name).waits.map (·.I))/\Mod dt w k:=by
 have D:=h.cell;have A:=h.Z.lt;have l:=h.look d;have C:=h.few name d;have g:=h.rows name false d id;have p:=dk (yOw w.heap.size (q.hd name false) (s name).waits w (g.nO (aD _)) (by omega));obtain⟨a,y,v⟩:=fU g;obtain⟨E,n,i⟩:=fU (h.rows name true d id);rw[v]at l p;rw[i]at l;have F:=yYs;clear h g;go_enter Tryz.func77,Tryz.ntmps77;go_wp2_with fail;refine p.out.mono ?_;rintro e w1⟨u,rfl,f,t⟩;have o:=dk f;obtain⟨r,x,z⟩:=fU f;subst z;have j:Hid (ju w1 w.heap.size (.slice r (s name).waits.length x) ((s name).waits.map (·.I))):=by
  have m:=o.out;rw[ao]at m;exact m
 clear f o;go_wp2_with fail;go_ret;exact⟨_,rfl,j.out,t⟩
def jP(e:Int):Value:=if e=0 then .nilIface else .iface 90 (.int .i64 e)
structure yZe(w w':World)(B N:Nat)(q q':jB)(s:gU)(name:ByteArray)(c:dw)(u:Value):Prop where
 ft:ju w' w.heap.size u (iz (s name) c).2.2.1
 tb:qD w' B N q' (jo s name (iz (s name) c).1)
 b:q'.b=q.b
 pre:q'.pre=q.pre
 post:q'.post=q.post
 t:q'.t=q.t
 n:q'.n<=q.n+1
 md:Mod (λx=>x=q.b\/q.own x) w w'
 own:∀x,q'.own x->q.own x\/w.heap.size<=x
def OV(w:World)(B N:Nat)(q:jB)(s:gU)(name:ByteArray)(c:dw)(e:Ending)(w':World):Prop:=
 ∃a u,e=.returned (.tuple #[.bool (iz (s name) c).2.1,u,jP (iz (s name) c).2.2.2])/\yZe w w' B N q a s name c u
theorem yOv(s:gU)(k:ByteArray):jo s k (s k)=s:=by
 funext y;unfold jo;split
 .rename_i e;rw[e]
 .rfl
theorem kx.more{N':Nat}{no:ByteArray->Prop}(h:kx w B N q s no)(hN:N<=N'):kx w B N' q s no:=
 ⟨h.Z,h.bt,h.map,h.hdr,h.rows,h.apart,h.ok,λk a=>aO (h.few k a) hN⟩
theorem Yt{w':World}(h:qD w B N q s)(a:Mod dt w w')(f:(iz (s name) c).1=s name)(d:(iz (s name) c).2.2.1=[]):yZe w w' B (N+1) q q s name c (.slice none 0 0):=by
 refine⟨by rw[d];exact A6 _ _ _ _,?_,rfl,rfl,rfl,rfl,by omega,a.mono (λ_ _ e=>e.elim),λx b=>.inl b⟩;rw[f,yOv];exact(h.more (by omega)).mod a id (λ_ _=>id)
theorem yQu(k:fP)(c:dw):(iz k c).1.held.length+(iz k c).1.waits.length<=k.held.length+k.waits.length+1:=by
 unfold iz;split
 .simp only;omega
 split
 .simp only;omega
 split
 .have:=Qn k.held c;simp only;omega
 split
 .simp only;omega
 .have:=Qn k.waits c;simp only;omega
theorem yKm{l:List dw}(a:Bool)(k':fP)(h:qD w B N q s)(d:gP name)(z:fe w6 B u l)(C:k'.list a=l)(A:k'.list (!a)=(s name).list (!a))
  (v:Mod (λx=>(q.hd name a).ownBlock=some x\/w.heap.size<=x) w w6) (t:u.ownBlock=(q.hd name a).ownBlock\/∀x,u.ownBlock=some x->w.heap.size<=x) :
  EG w6 B q name (λi=>if i=a then u else q.hd name i) k'/\kx w6 B N q s (·=name):=by
 have y:∀x,u.ownBlock=some x->(q.hd name a).ownBlock=some x\/w.heap.size<=x:=λx b=>by
  obtain e|e:=t
  .exact .inl (by rw[<-e];exact b)
  .exact .inr (e x b)
 have g:∀k i x,gP k->(q.hd k i).ownBlock=some x->x<w.heap.size:=λk i x o b=>(h.old o id b).2.1;have r:∀x,(q.hd name (!a)).ownBlock=some x->u.ownBlock≠some x:=λx b e=>by
  rcases y x e with f|f
  .have:=(h.apart name name (!a) a x d d b f).2;cases a <;> cases this
  .have:=g name (!a) x d b;omega
 refine⟨⟨λi=>?_,λx p n=>?_,λk i j x o m p n=>?_⟩,(h.less _).turn v (λe=>?_) (λx b e=>?_) (λk i x o m b e=>?_)⟩
 .by_cases e:i=a
  .subst e;simp only[if_true];rw[C];exact z
  .have:i=!a:=by cases i <;> cases a <;> simp_all
   subst this;simp only[e,if_false];rw[A];refine(h.rows name (!a) d id).mod v (λx b f=>?_);obtain f|f:=f
   .have:=(h.apart name name (!a) a x d d b f).2;cases a <;> cases this
   .have:=g name (!a) x d b;omega
 .cases a
  .simp only[Bool.true_eq_false,if_false,if_true]at p n;exact r x p n
  .simp only[cX,if_false,if_true]at p n;exact r x n p
 .by_cases e:j=a
  .subst e;simp only[if_true]at n;rcases y x n with f|f
   .exact m (h.apart k name i j x o d p f).1
   .have:=g k i x o p;omega
  .simp only[e,if_false]at n;exact m (h.apart k name i j x o d p n).1
 .obtain e|e:=e
  .exact(h.mS d id e).1 rfl
  .have:=h.Z.lt;omega
 .obtain e|e:=e
  .exact(h.mS d id e).2 b
  .have:=(h.lt (.inl b)).2;omega
 .obtain e|e:=e
  .exact m (h.apart k name i a x o d b e).1
  .have:=g k i x o b;omega
theorem Nw(e:Int)(w:World):(Instr.makeInterface 90 (.int .i64 e)).run Tryz.prog w=.ok (.iface 90 (.int .i64 e)) w:=by kernel_rfl
theorem yKi{l f:World}{m:jB}{v:Bool->Value}{k':fP}(g:Bool)(h:qD w B N q s)(r:gP name)(o:Mod (λx=>(q.hd name g).ownBlock=some x\/w.heap.size<=x) w w6)
  (A:∀i x,(v i).ownBlock=some x->q.own x\/w.heap.size<=x) (a:Ka w6 l B (N+1) q m s name v k') (n:Mod dt l f) (k:(iz (s name) c).1=k') (p:ju f w.heap.size u (iz (s name) c).2.2.1):yZe w f B (N+1) q m s name c u:=by
 have j:∀x,x<w.heap.size->(q.hd name g).ownBlock=some x\/w.heap.size<=x->q.own x:=λx d e=>by
  obtain e|e:=e
  .exact .inr ⟨name,g,r,e⟩
  .omega
 have z:Mod (λx=>x=q.b\/q.own x) w w6:=o.mono (λx d e=>.inr (j x d e));have y:=z.trans (a.md.mono (G':=λx=>x=q.b\/q.own x) (λx _ e=>e.imp id (λe=>.inl e)));refine⟨p,by rw[k];exact a.tb.mod n id (λ_ _=>id),a.b,a.pre,a.post,a.t,a.n1,y.trans (n.mono (λ_ _ e=>e.elim)),λx d=>?_⟩;rcases a.own x d with e|e|⟨i,e⟩
 .exact .inl e
 .exact .inr (aO o.size e)
 .exact A i x e
theorem yVo(B N:Nat)(q:jB)(s:gU)(t:Int)(name:ByteArray)(m:Int)(w:World)(h:qD w B N q s)(sO:m=1\/m=2)(hn:name.size<=20)(hN:N<=390)(GJ:q.n<=1000000)(hB:B<=w.heap.size) :
  Calls Tryz.prog 66 #[.pointer (some ⟨q.b,q.pre.length,none⟩),.int .i64 t,.string name,.int .i64 m] w (OV w B (N+1) q s name ⟨t,m⟩):=by
 have a:gP name:=by unfold gP maxLen;omega
 have hd13:(m !=1&&m !=2)=false:=by obtain rfl|rfl:=sO <;> rfl
 have c0:=h.cell;have z0:=h.Z.lt;have mU:=h.look a;have fy:=h.few name a;have DW:=h.ok name a;obtain⟨ha,hcap,nu⟩:=fU (h.rows name true a id);obtain⟨wa,gW,jI⟩:=fU (h.rows name false a id);have e1:(s name).list true=(s name).held:=rfl;have e2:(s name).list false=(s name).waits:=rfl;rw[e1]at nu;rw[e2]at jI;obtain⟨w1,hw1⟩:∃x,x=(w.alloc (.cells #[q.hd name true,q.hd name false] 168)).alloc (.cells #[.int .i64 t,.int .i64 m] 170):=⟨_,rfl⟩;have dy:Mod dt w w1:=by rw[hw1];exact((Mod.refl _ w).alloc _).alloc _
 have C:dx w1 w.heap.size [q.hd name true,q.hd name false] 168:=by rw[hw1];exact(dx.new w [q.hd name true,q.hd name false] 168).mod ((Mod.refl dt _).alloc _) id
 have F:dx w1 (w.heap.size+1) (gC ⟨t,m⟩) 170:=by
  rw[hw1];have:=dx.new (w.alloc (.cells #[q.hd name true,q.hd name false] 168)) (gC ⟨t,m⟩) 170;rw[A4]at this;exact this
 have V:=h.mod dy id (λ_ _=>id);have hz1:w1.heap.size=w.heap.size+1+1:=by rw[hw1];simp
 have r:=dk h;have QG:=dk V;have fh:=dk dy;have kh:=dk C;have zh:=dk F;have QM:=dk DW
 -- what is asked of the lists
 have QK:=dk (RK w1.heap.size (q.hd name false) (s name).waits t w1 ((V.rows name false a id).nO (aD _)) DW.waits (by omega));have Y:Hid (∀g,Mod dt w1 g->Calls Tryz.prog 110 #[q.hd name true,.int .i64 t] g λe w'=>e=.returned (.int .i64 (jD (s name).held t))/\Mod dt g w'):=λg d=>
  RK g.heap.size _ _ t g (((V.rows name true a id).mod d (λ_ _=>id)).nO (aD _)) DW.held (by have:=fy;omega)
 have kI:Hid (∀g,Mod dt w1 g->Calls Tryz.prog 111 #[.pointer (some ⟨w.heap.size,0,none⟩),.agg #[.int .i64 t,.int .i64 m]] g λe w'=>e=.returned (.bool (qe (s name).held (s name).waits ⟨t,m⟩))/\Mod dt g w'):=λg d=>
  yKs g.heap.size w.heap.size (q.hd name true) (q.hd name false) (s name).held (s name).waits ⟨t,m⟩ g (C.mod d id) (((V.rows name true a id).mod d (λ_ _=>id)).nO (aD _)) (((V.rows name false a id).mod d (λ_ _=>id)).nO (aD _)) (by omega) (by omega)
 have Dg:Hid (∀(i:Bool) (g:World),Mod dt w1 g->Calls Tryz.prog 112 #[q.hd name i,.agg #[.int .i64 t,.int .i64 m]] g (Wi g B (q.hd name i) ((s name).list i) ⟨t,m⟩)):=λi g d=>
  yJm B _ _ ⟨t,m⟩ g ((V.rows name i a id).mod d (λ_ _=>id)) (by cases i;exact DW.waits;exact DW.held) (by cases i <;> simp only[fP.list] <;> (try simp) <;> omega) (aO hB (aO dy.size d.size))
 have Bn:=dk (yQt (c:=⟨t,m⟩) DW sO);have zZ:=dk (yQu (s name) ⟨t,m⟩);have pY:Hid (iz (s name) ⟨t,m⟩=if jD (s name).waits t≠0 then(s name,false,[],9)else if m<=jD (s name).held t then(s name,true,[],0)else if qe (s name).held (s name).waits ⟨t,m⟩then({s name with held:=jx (s name).held ⟨t,m⟩},true,[],0)else if 50<=(s name).waits.length then(s name,false,[],4)else({s name with waits:=jx (s name).waits ⟨t,m⟩},false,AA (s name).held ⟨t,m⟩,0)):=rfl;have p0:=C.cell 0 rfl;have p1:=C.cell 1 rfl;have x0:=F.cell 0 rfl;have x1:=F.cell 1 rfl;have Dx:=dk nu;have De:=dk jI;rw[nu]at p0;rw[jI]at p1;rw[nu,jI]at hw1 mU;rw[jI]at QK;have hmi:=Nw;have hlI:¬((name.size:Int) > 20):=by omega
 have XE:w.heap.size<w1.heap.size:=by omega
 have XF:w.heap.size+1<w1.heap.size:=by omega
 clear h V dy C F nu jI e1 e2 DW;go_enter Tryz.func66,Tryz.ntmps66;go_upto_region 1 with fail;go_cut [18] (λb wc=>b=.bool false/\wc=w)
 case first=>
  obtain rfl|rfl:=sO
  .go_wp2_with fail;go_meet
   case rel=>exact⟨rfl,rfl⟩
  .go_wp2_with fail;go_meet
   case rel=>exact⟨rfl,rfl⟩
 obtain⟨rfl,Ce⟩:=hcut;rw[Ce];clear Ce;go_upto_region 6 with fail;rw[<-hw1];clear hw1 mU c0;go_wp2_with fail;refine QK.out.mono ?_;rintro e g⟨rfl,d⟩;have gy:=dk d;clear QK;by_cases g1:jD (s name).waits t=0
 .have Hx:Hid (iz (s name) ⟨t,m⟩=if m<=jD (s name).held t then(s name,true,[],0)else if qe (s name).held (s name).waits ⟨t,m⟩then({s name with held:=jx (s name).held ⟨t,m⟩},true,[],0)else if 50<=(s name).waits.length then(s name,false,[],4)else({s name with waits:=jx (s name).waits ⟨t,m⟩},false,AA (s name).held ⟨t,m⟩,0)):=by rw[pY.out,aH (by simp[g1])];rfl
  have NY:=Y.out g d;rw[Dx.out]at NY;have HMH3:=dk NY;have y0:=d.cell p0 id;have y1:=d.cell p1 id;have u0:=d.cell x0 id;have u1:=d.cell x1 id;have hzk2:=aJ XE d.size;have hzc2:=aJ XF d.size;clear Y pY NY p0 p1 x0 x1 d;rw[g1];go_wp2_with fail;refine HMH3.out.mono ?_;rintro e w3⟨rfl,P⟩;have jC:=dk (gy.out.trans P);by_cases g2:m<=jD (s name).held t
  .have hge:decide (jD (s name).held t ≥ m)=true:=aQ g2;have H:Hid (OV w B (N+1) q s name ⟨t,m⟩ (.returned (.tuple #[.bool true,.slice none 0 0,.nilIface])) w3):=by
    have A:iz (s name) ⟨t,m⟩=(s name,true,[],0):=by rw[Hx.out,aK g2]
    refine⟨q,.slice none 0 0,by rw[A];rfl,Yt r.out (fh.out.trans jC.out) (by rw[A]) (by rw[A])⟩
   clear Hx;go_wp2_with fail;go_ret3;exact H.out
  .have hge:decide (jD (s name).held t ≥ m)=false:=aN (by omega);have Az:Hid (iz (s name) ⟨t,m⟩=if qe (s name).held (s name).waits ⟨t,m⟩then({s name with held:=jx (s name).held ⟨t,m⟩},true,[],0)else if 50<=(s name).waits.length then(s name,false,[],4)else({s name with waits:=jx (s name).waits ⟨t,m⟩},false,AA (s name).held ⟨t,m⟩,0)):=by rw[Hx.out,aH g2];rfl
   have VN:=dk (kI.out w3 jC.out);have z0':=P.cell y0 id;have z1':=P.cell y1 id;have v0:=P.cell u0 id;have v1:=P.cell u1 id;have hzk3:=aJ hzk2 P.size;have hzc3:=aJ hzc2 P.size;clear kI Hx y0 y1 u0 u1 P g2;go_wp2_with fail;refine VN.out.mono ?_;rintro e w4⟨rfl,M⟩;have D:=dk (jC.out.trans M);have HB4:=dk (kh.out.mod D.out id);have HC4:=dk (zh.out.mod D.out id);have r0:=M.cell z0' id;have r1:=M.cell z1' id;have s0:=M.cell v0 id;have s1:=M.cell v1 id;have hzk4:=aJ hzk3 M.size;have hzc4:=aJ hzc3 M.size;have HT4:Hid (qD w4 B N q s):=QG.out.mod D.out id (λ_ _=>id);clear z0' z1' v0 v1 M VN
   cases gE:qe (s name).held (s name).waits ⟨t,m⟩with
  |true=>
    have E:Hid (iz (s name) ⟨t,m⟩=({s name with held:=jx (s name).held ⟨t,m⟩},true,[],0)):=by rw[Az.out,gE];rfl
    clear Az;have S:=Dg.out true w4 D.out;rw[Dx.out]at S;have Df:=dk S;clear S Dg;go_upto_region 11 with fail;go_wp2_with fail;refine Df.out.mono ?_;rintro e w5⟨u,rfl,T,O,R⟩;have DE:¬(Value.slice ha (s name).held.length hcap).ownBlock=some w.heap.size:=λe=>by
     have L:=r.out.rows name true a id;rw[Dx.out]at L;have:=(nN L e).2.1;omega
    have z:=HB4.out.mod O DE;have p:=z.set 0 u;obtain⟨w6,uW⟩:∃x,x=w5.setCell ⟨w.heap.size,0,none⟩ u:=⟨_,rfl⟩;rw[<-uW]at p;have K:Mod (eQ w.heap.size) w5 w6:=by rw[uW];exact Mod.eE _ _ _
    have I:Mod (λx=>(q.hd name true).ownBlock=some x\/w.heap.size<=x) w w6:=by
     refine((fh.out.trans D.out).mono (λ_ _ e=>e.elim)).trans ((O.mono (λx _ e=>.inl (by rw[Dx.out];exact e))).trans (K.mono (λx _ e=>.inr (by simp only[eQ]at e;omega))))
    have SJ:=D.out.size;have l:u.ownBlock=(q.hd name true).ownBlock\/∀x,u.ownBlock=some x->w.heap.size<=x:=by
     rw[Dx.out];exact R.imp id (λh x f=>by have:=h x f;omega)
    have Ct:fe w6 B u (jx (s name).held ⟨t,m⟩):=T.mod K (λx f e=>by
     simp only[eQ]at e;rw[e]at f;obtain o|o:=R
     .rw[o]at f;exact DE f
     .have:=o _ f;omega)
    obtain⟨Q,Ex⟩:=yKm true {s name with held:=jx (s name).held ⟨t,m⟩} r.out a Ct rfl rfl I l;obtain⟨v,hv⟩:∃v:Bool->Value,v=λi=>if i=true then u else q.hd name i:=⟨_,rfl⟩
    rw[<-hv]at Q;have J:v true=u:=by rw[hv];rfl
    have Cf:v false=q.hd name false:=by rw[hv];rfl
    have k:=Bn.out;have j:=zZ.out;rw[E.out]at k j;have DF:=yBw B N (N+1) q s name v _ w6 Ex a Q k (by simp only at j⊢;omega) (by omega) GJ (aO hB I.size);rw[J,Cf,De.out]at DF;have Bo:=dk DF;have Uc:Hid (∀i x,(v i).ownBlock=some x->q.own x\/w.heap.size<=x):=λi x f=>by
     cases i with
    |false=>rw[Cf]at f;exact .inl (.inr ⟨name,false,a,f⟩)
    |true=>
      rw[J]at f;obtain o|o:=l
      .exact .inl (.inr ⟨name,true,a,by rw[<-o];exact f⟩)
      .exact .inr (o x f)
    have Ay:=dk I;have f5:=z.frozen 0;have d5:=z.cell 0 rfl;have LS:=z.lt;have X:=p.cell 0 rfl;have W:=p.cell 1 rfl;have hzk6:=p.lt;rw[De.out]at W;obtain⟨ua,eI,hu⟩:=fU T;subst hu;clear T O R z p K I l Ct Q Ex hv J Cf DF k j Df r0 r1;go_upto_region 12 with fail;rw[<-uW];clear uW f5 d5 LS;go_wp2_with fail;refine Bo.out.mono ?_;rintro e w7⟨rfl,q',G⟩;have H:Hid (OV w B (N+1) q s name ⟨t,m⟩ (.returned (.tuple #[.bool true,.slice none 0 0,.nilIface])) w7):=by
     refine⟨q',.slice none 0 0,by rw[E.out];rfl,yKi true r.out a Ay.out Uc.out G (Mod.refl _ _) (by rw[E.out]) (by rw[E.out];exact A6 _ _ _ _)⟩
    clear G Bo;go_wp2_with fail;go_ret3;exact H.out
  |false=>
    have E:Hid (iz (s name) ⟨t,m⟩=if 50<=(s name).waits.length then(s name,false,[],4)else({s name with waits:=jx (s name).waits ⟨t,m⟩},false,AA (s name).held ⟨t,m⟩,0)):=by rw[Az.out,gE];rfl
    clear Az;by_cases g4:50<=(s name).waits.length
    .have Tb:decide (((s name).waits.length:Int) ≥ 50)=true:=aQ (by omega);have H:Hid (OV w B (N+1) q s name ⟨t,m⟩ (.returned (.tuple #[.bool false,.slice none 0 0,.iface 90 (.int .i64 4)])) w4):=by
      have A:iz (s name) ⟨t,m⟩=(s name,false,[],4):=by rw[E.out,aK g4]
      refine⟨q,.slice none 0 0,by rw[A];rfl,Yt r.out (fh.out.trans D.out) (by rw[A]) (by rw[A])⟩
     clear E;go_wp2_with fail;go_ret3;exact H.out
    .have Tb:decide (((s name).waits.length:Int) ≥ 50)=false:=aN (by omega);have Hw:Hid (iz (s name) ⟨t,m⟩=({s name with waits:=jx (s name).waits ⟨t,m⟩},false,AA (s name).held ⟨t,m⟩,0)):=by rw[E.out,aH g4];rfl
     clear E;have S:=Dg.out false w4 D.out;rw[De.out]at S;have Df:=dk S;clear S Dg;go_upto_region 16 with fail;go_wp2_with fail;refine Df.out.mono ?_;rintro e w5⟨u,rfl,T,O,R⟩;have DE:¬(Value.slice wa (s name).waits.length gW).ownBlock=some w.heap.size:=λe=>by
      have L:=r.out.rows name false a id;rw[De.out]at L;have:=(nN L e).2.1;omega
     have TP:¬(Value.slice wa (s name).waits.length gW).ownBlock=some (w.heap.size+1):=λe=>by
      have L:=r.out.rows name false a id;rw[De.out]at L;have:=(nN L e).2.1;omega
     have z:=HB4.out.mod O DE;have PJ:=HC4.out.mod O TP;have p:=z.set 1 u;obtain⟨w6,uW⟩:∃x,x=w5.setCell ⟨w.heap.size,1,none⟩ u:=⟨_,rfl⟩;rw[<-uW]at p;have K:Mod (eQ w.heap.size) w5 w6:=by rw[uW];exact Mod.eE _ _ _
     have PI:=PJ.mod K (λe=>by simp only[eQ]at e;omega);have I:Mod (λx=>(q.hd name false).ownBlock=some x\/w.heap.size<=x) w w6:=by
      refine((fh.out.trans D.out).mono (λ_ _ e=>e.elim)).trans ((O.mono (λx _ e=>.inl (by rw[De.out];exact e))).trans (K.mono (λx _ e=>.inr (by simp only[eQ]at e;omega))))
     have SJ:=D.out.size;have l:u.ownBlock=(q.hd name false).ownBlock\/∀x,u.ownBlock=some x->w.heap.size<=x:=by
      rw[De.out];exact R.imp id (λh x f=>by have:=h x f;omega)
     have Ct:fe w6 B u (jx (s name).waits ⟨t,m⟩):=T.mod K (λx f e=>by
      simp only[eQ]at e;rw[e]at f;obtain o|o:=R
      .rw[o]at f;exact DE f
      .have:=o _ f;omega)
     obtain⟨Q,Ex⟩:=yKm false {s name with waits:=jx (s name).waits ⟨t,m⟩} r.out a Ct rfl rfl I l;obtain⟨v,hv⟩:∃v:Bool->Value,v=λi=>if i=false then u else q.hd name i:=⟨_,rfl⟩
     rw[<-hv]at Q;have J:v true=q.hd name true:=by rw[hv];rfl
     have Cf:v false=u:=by rw[hv];rfl
     have k:=Bn.out;have j:=zZ.out;rw[Hw.out]at k j;have DF:=yBw B N (N+1) q s name v _ w6 Ex a Q k (by simp only at j⊢;omega) (by omega) GJ (aO hB I.size);rw[J,Cf,Dx.out]at DF;have Bo:=dk DF;have Uc:Hid (∀i x,(v i).ownBlock=some x->q.own x\/w.heap.size<=x):=λi x f=>by
      cases i with
     |true=>rw[J]at f;exact .inl (.inr ⟨name,true,a,f⟩)
     |false=>
       rw[Cf]at f;obtain o|o:=l
       .exact .inl (.inr ⟨name,false,a,by rw[<-o];exact f⟩)
       .exact .inr (o x f)
     have HRT:Hid (fe w6 B (q.hd name true) (s name).held):=by have:=Q.row true;rw[J]at this;exact this
     have Ay:=dk I;have Yh:=dk p;have Bu:=dk PI;have f5:=z.frozen 1;have d5:=z.cell 1 rfl;have LS:=z.lt;have X:=p.cell 0 rfl;have W:=p.cell 1 rfl;have hzk6:=p.lt;rw[Dx.out]at X;obtain⟨ua,eI,hu⟩:=fU T;subst hu;clear T O R z p K I l Ct Q Ex hv J Cf DF k j Df r0 r1 PJ PI;go_upto_region 17 with fail;rw[<-uW];clear uW f5 d5 LS;go_wp2_with fail;refine Bo.out.mono ?_;rintro e w7⟨rfl,q',G⟩;have hnb:∀y,w.heap.size<=y->¬(y=q.b\/q.m=some y):=λy hy e=>by
      obtain e|e:=e
      .omega
      .have:=(r.out.lt (.inl e)).2;omega
     have To:=Yh.out.mod G.md (hnb _ (aD _));have Gc:=Bu.out.mod G.md (hnb _ (by omega));have hr7:=HRT.out.mod G.md (λx f e=>by
      have hne:=r.out.mS a id f;exact e.elim hne.1 hne.2)
     have HWO:=dk (yGw B w.heap.size _ _ (s name).held ⟨t,m⟩ w7 To hr7 (by omega));have s70:=Gc.cell 0 rfl;have s71:=Gc.cell 1 rfl;have hzc7:=Gc.lt;have HQ:=dk G;have hz67:=G.md.size;have hz06:=Ay.out.size;clear G Bo To Gc hr7 X W s0 s1;go_upto_region 18 with fail;go_wp2_with fail;refine HWO.out.mono ?_;rintro e w8⟨u8,rfl,U,oJ⟩;have HR8:=dk (vl U (aO hz06 hz67));obtain⟨u8a,Ip,hu8⟩:=fU U;subst hu8;have H:Hid (OV w B (N+1) q s name ⟨t,m⟩ (.returned (.tuple #[.bool false,.slice u8a (AA (s name).held ⟨t,m⟩).length Ip,.nilIface])) w8):=by
      refine⟨q',.slice u8a (AA (s name).held ⟨t,m⟩).length Ip,by rw[Hw.out];rfl,yKi false r.out a Ay.out Uc.out HQ.out oJ (by rw[Hw.out]) (by rw[Hw.out];exact HR8.out)⟩
     clear U HR8;go_wp2_with fail;go_ret3;exact H.out
 .have g1b:(jD (s name).waits t==0)=false:=by simpa using g1
  have H:Hid (OV w B (N+1) q s name ⟨t,m⟩ (.returned (.tuple #[.bool false,.slice none 0 0,.iface 90 (.int .i64 9)])) g):=by
   have A:iz (s name) ⟨t,m⟩=(s name,false,[],9):=by rw[pY.out,aK g1]
   refine⟨q,.slice none 0 0,by rw[A];rfl,Yt r.out (fh.out.trans gy.out) (by rw[A]) (by rw[A])⟩
  clear pY Y;go_wp2_with fail;go_ret3;exact H.out
def Tryz.uR:Go.Shelf.Ren:=⟨fun|190=>160|125=>179|258=>178|128=>191|129=>192|302=>182|303=>183|304=>184|305=>185|306=>186|307=>187|308=>188|309=>189|310=>190|333=>194|329=>195|330=>196|334=>197|335=>198|336=>199|344=>200|n=>n,fun|31=>47|9=>9|3=>3|46=>101|0=>0|51=>261|53=>263|4=>4|183=>254|182=>253|131=>194|5=>5|218=>265|222=>269|228=>271|229=>272|n=>n,fun|n=>n⟩
theorem Tryz.sortStr:Go.Proofs.Lays.n190 Tryz.prog Tryz.uR:={
 mixed:=by kernel_rfl
 f125:=Tryz.func179.trans (an some (by kernel_rfl))
 f128:=Tryz.func191.trans (an some (by kernel_rfl))
 f129:=Tryz.func192.trans (an some (by kernel_rfl))
 f190:=Tryz.func160.trans (an some (by kernel_rfl))
 f258:=Tryz.func178.trans (an some (by kernel_rfl))
 f302:=Tryz.func182.trans (an some (by kernel_rfl))
 f303:=Tryz.func183.trans (an some (by kernel_rfl))
 f304:=Tryz.func184.trans (an some (by kernel_rfl))
 f305:=Tryz.func185.trans (an some (by kernel_rfl))
 f306:=Tryz.func186.trans (an some (by kernel_rfl))
 f307:=Tryz.func187.trans (an some (by kernel_rfl))
 f308:=Tryz.func188.trans (an some (by kernel_rfl))
 f309:=Tryz.func189.trans (an some (by kernel_rfl))
 f310:=Tryz.func190.trans (an some (by kernel_rfl))
 f329:=Tryz.func195.trans (an some (by kernel_rfl))
 f330:=Tryz.func196.trans (an some (by kernel_rfl))
 f333:=Tryz.func194.trans (an some (by kernel_rfl))
 f334:=Tryz.func197.trans (an some (by kernel_rfl))
 f335:=Tryz.func198.trans (an some (by kernel_rfl))
 f336:=Tryz.func199.trans (an some (by kernel_rfl))
 f344:=Tryz.func200.trans (an some (by kernel_rfl))
 t0:=Tryz.underlying0
 a0:=Tryz.isAgg0
 z0:=Tryz.sizeOf0
 v0:=Tryz.zeroValue0
 t3:=Tryz.underlying3
 a3:=Tryz.isAgg3
 z3:=Tryz.sizeOf3
 v3:=Tryz.zeroValue3
 t4:=Tryz.underlying4
 a4:=Tryz.isAgg4
 z4:=Tryz.sizeOf4
 v4:=Tryz.zeroValue4
 t5:=Tryz.underlying5
 a5:=Tryz.isAgg5
 z5:=Tryz.sizeOf5
 v5:=Tryz.zeroValue5
 t9:=Tryz.underlying9
 a9:=Tryz.isAgg9
 z9:=Tryz.sizeOf9
 v9:=Tryz.zeroValue9
 t31:=Tryz.underlying47
 a31:=Tryz.isAgg47
 z31:=Tryz.sizeOf47
 v31:=Tryz.zeroValue47
 t46:=Tryz.underlying101
 a46:=Tryz.isAgg101
 z46:=Tryz.sizeOf101
 v46:=Tryz.zeroValue101
 t51:=Tryz.underlying261
 a51:=Tryz.isAgg261
 z51:=Tryz.sizeOf261
 v51:=Tryz.zeroValue261
 t53:=Tryz.underlying263
 a53:=Tryz.isAgg263
 z53:=Tryz.sizeOf263
 v53:=Tryz.zeroValue263
 t131:=Tryz.underlying194
 a131:=Tryz.isAgg194
 z131:=Tryz.sizeOf194
 v131:=Tryz.zeroValue194
 t182:=Tryz.underlying253
 a182:=Tryz.isAgg253
 z182:=Tryz.sizeOf253
 v182:=Tryz.zeroValue253
 t183:=Tryz.underlying254
 a183:=Tryz.isAgg254
 z183:=Tryz.sizeOf254
 v183:=Tryz.zeroValue254
 t218:=Tryz.underlying265
 a218:=Tryz.isAgg265
 z218:=Tryz.sizeOf265
 v218:=Tryz.zeroValue265
 t222:=Tryz.underlying269
 a222:=Tryz.isAgg269
 z222:=Tryz.sizeOf269
 v222:=Tryz.zeroValue269
 t228:=Tryz.underlying271
 a228:=Tryz.isAgg271
 z228:=Tryz.sizeOf271
 v228:=Tryz.zeroValue271
 t229:=Tryz.underlying272
 a229:=Tryz.isAgg272
 z229:=Tryz.sizeOf272
 v229:=Tryz.zeroValue272}
