import Derived.Test.YtmaiggbnceejiaaGreatDoorL04
import Derived.Test.YtmaiggbnceejiaaGreatDoorProg
import Derived.Lib.Overlaps
import Derived.Lib.AppendZeros
import Derived.Lib.AppendZerosOnto
import Derived.Laws.NewBlocks
import Derived.Shelf.RegionOpenPlain
set_option linter.unusedVariables false
set_option maxRecDepth 100000
set_option maxHeartbeats 16000000
namespace Go.Proofs.YtmaiggbnceejiaaGreatDoor
open Go.RowKit Go.Lib Go.Maps
variable {w wr wr' w1:World}{L:Lo}{b j i n g:Nat}{ds:List Int}{ms:List eG}{us R:List Value}{α:Type}{m:eG}{u wv:Value}{id t:Int}{s:fS}
variable {E:Ext}
def yAm:Array Value:=#[.int .i64 0,.int .i64 0,.int .i64 0,.int .i64 0,.int .i64 0,.int .i64 0,.int .i64 0,.int .i64 0,.slice none 0 0]
def zn(n:Nat):List Value:=(Builtin.zeroCells yAm n).toList
theorem ZH(n:Nat):(zn n).length=n*9:=by rw[zn,cM,size_zeroCells];rfl
theorem yOk(n:Nat):∀v∈zn n,v.oneCell'=true:=by
 intro v a;simp only[zn,Builtin.zeroCells,dU,aj]at a;obtain⟨i,_,rfl⟩:=a;have d:∀j,j<9->(yAm[j]!).oneCell'=true:=by
  intro j c
  match j,c with
 |0,_=>rfl
 |1,_=>rfl
 |2,_=>rfl
 |3,_=>rfl
 |4,_=>rfl
 |5,_=>rfl
 |6,_=>rfl
 |7,_=>rfl
 |8,_=>rfl
 exact d _ (dP _ (by decide))
theorem yHg(w:World)(d:TypeId)(b o n c:Nat)(l:0<n)(k:∀j,j<n*9->(w.cell? ⟨b,o+j,none⟩).isSome=true)(h:∀j,j<n*9->w.frozen? ⟨b,o+j,none⟩=false) :
  (Builtin.clear_ #[76] d #[.slice (some ⟨b,o,none⟩) n c]).run Tryz.prog w=.ok (.tuple #[]) (w.setCells b o (zn n)):=by
 have a:=B3 (P:=Tryz.prog) b o (zn n) 0 w (by simpa[ZH]using k) (by simpa[ZH]using h) (yOk n);simp only[bK]at a;obtain⟨m,rfl⟩:∃m,n=m+1:=⟨n-1,by omega⟩;have f:=yTp;have e:(Value.agg #[.int .i64 0,.int .i64 0,.int .i64 0,.int .i64 0,.int .i64 0,.int .i64 0,.int .i64 0,.int .i64 0,.slice none 0 0]).cells=yAm:=rfl;simp only[zn]at a⊢;simp[Builtin.clear_,run_underlying Tryz.underlying76,f,e,a]
theorem zXq{w:World}{e:Array Oper}{rest:List Oper}{o:Oper}{a:Act}{Q:Exit->Act->World->Prop}(f:o.guard=none)(s:Operand)
  (p:o.op=.call {callee:=.builtin .clear,args:=#[s],argTypes:=#[76]}) (b d n c:Nat) (k:a.eval s=.slice (some ⟨b,d,none⟩) n c) (q:0<n)
  (v:∀j,j<n*9->(w.cell? ⟨b,d+j,none⟩).isSome=true) (r:∀j,j<n*9->w.frozen? ⟨b,d+j,none⟩=false)
  (h:wpList Tryz.prog e Q rest (a.put o.dst (.tuple #[])) (w.setCells b d (zn n))):wpList Tryz.prog e Q (o::rest) a w:=by
 refine A2 f λK x=>?_;have l:=yHg w o.type b d n c q v r;unfold Oper.wp execOp;simp only[p,resolve,invoke,builtin,Sem.run_bind,Sem.run_pure,Result.andThen_ok,cD,bZ,cO,k,l];exact x _ _ h
def mu(ds:List Int)(ms:List eG):List eG:=ms.filter (λm=>!rF ds m)
theorem zZk(ds:List Int)(ms:List eG)(m:eG):mu ds (ms++[m])=if rF ds m then mu ds ms else mu ds ms++[m]:=by
 unfold mu;rw[dE]
 cases h:rF ds m <;> simp[h]
theorem zZw(ds:List Int):∀ms,zv ds ms=none->mu ds ms=ms
|[],_=>rfl
|m::ms,h=>by
  unfold zv at h;split at h
  .cases h
  .rename_i c;have a:rF ds m=false:=by simpa using c
   have:=zZw ds ms (by simpa using h);unfold mu at this⊢;rw[cE,aK (by simp[a]),this]
theorem zWv(ds:List Int):∀ms k,zv ds ms=some k->k<ms.length/\mu ds (ms.take (k+1))=ms.take k
|[],_,h=>by simp[zv]at h
|m::ms,k,h=>by
  unfold zv at h;split at h
  .rename_i c;simp at h;subst h;refine⟨by simp,?_⟩;simp[mu,c]
  .rename_i c;have a:rF ds m=false:=by simpa using c
   obtain⟨f,d,rfl⟩:=cN.1 h;obtain⟨l,e⟩:=zWv ds ms f d;refine⟨by simp;omega,?_⟩;unfold mu at e⊢;rw[az,cE,aK (by simp[a]),e,az]
theorem yRf(ds:List Int)(ms:List eG):(mu ds ms).length<=ms.length:=bD _ _
def vd(w wr:World)(L:Lo)(b:Nat)(ds:List Int)(ms:List eG)(us R:List Value)(i j:Nat):Prop:=
 ∃c a:List Value,i=(mu ds (ms.take j)).length/\c.length=i/\a.length=(j-i)*9/\i<j/\j<=ms.length /\
  dx wr b (iW (mu ds (ms.take j)) c++a++(iW (ms.drop j) (us.drop j)++R)) 112/\(∀(n:Nat) m u,(mu ds (ms.take j))[n]?=some m->c[n]?=some u->ie w L u m.z.writes)/\Mod (eQ b) w wr
theorem vd.start{k0:Nat}(p:us.length=ms.length)(f:k0<ms.length)(c:mu ds (ms.take (k0+1))=ms.take k0)(hB:dx w b (iW ms us++R) 112)
  (d:∀(i:Nat) m u,ms[i]?=some m->us[i]?=some u->ie w L u m.z.writes) (h:Mod dt w wr):vd w wr L b ds ms us R k0 (k0+1):=by
 obtain⟨m,hm0⟩:∃m,ms[k0]?=some m:=⟨_,aA f⟩;obtain⟨u,hu0⟩:∃u,us[k0]?=some u:=⟨_,aA (by omega)⟩;have r:ms=ms.take k0++m::ms.drop (k0+1):=by
  rw[aA f]at hm0;simp at hm0;rw[<-hm0,<-bw f,ar]
 have l:k0<us.length:=by omega
 have x:us=us.take k0++u::us.drop (k0+1):=by
  rw[aA l]at hu0;simp at hu0;rw[<-hu0,<-bw l,ar]
 refine⟨us.take k0,kG m u,by rw[c,af];omega,by rw[af];omega,by simp[kG],by omega,by omega,?_,λn q o a k=>?_,h.mono (λ_ _ e=>e.elim)⟩
 .rw[c];have:=hB.mod h id;have e:iW ms us=iW (ms.take k0) (us.take k0)++(kG m u++iW (ms.drop (k0+1)) (us.drop (k0+1))):=by
   conv=>lhs;rw[r,x]
   rw[Wh _ _ _ _ (by simp[p]),iW]
  rw[e]at this;simpa[List.append_assoc]using this
 .rw[c]at a;have v:n<k0:=by have:=(aB.1 a).1;rw[af]at this;omega
  rw[dB,aK v]at a k;exact d n q o a k
theorem OO{l:List α}{x:α}(h:l[j]?=some x):l.drop j=x::l.drop (j+1):=by
 have a:j<l.length:=(aB.1 h).1;rw[aA a]at h;simp at h;rw[<-h,<-bw a]
theorem zTm{l:List α}{x:α}(h:l[j]?=some x):l.take (j+1)=l.take j++[x]:=by
 have a:j<l.length:=(aB.1 h).1;rw[aA a]at h;simp at h;rw[ax a,h]
theorem vd.look(h:vd w wr L b ds ms us R i j)(l:ms[j]?=some m)(f:us[j]?=some u) :
  ∀n x,(kG m u)[n]?=some x->wr.cell? ⟨b,j*9+n,none⟩=some x:=by
 obtain⟨c,d,q,A,p,z,y,o,v,r⟩:=h;intro n x a;have k:n<9:=(aB.1 a).1;refine o.cell _ ?_;rw[OO l,OO f,iW];have e:=Ef (mu ds (ms.take j)) c (by omega);rw[aL (by rw[aE];omega),aE,e,p,<-q];rw[show j*9+n-(i*9+(j-i)*9)=n by omega,aV,aG k];exact a
theorem vd.skip(h:vd w wr L b ds ms us R i j)(c:ms[j]?=some m)(k:us[j]?=some u)(l:rF ds m=true)(d:Mod dt wr wr') :
  vd w wr' L b ds ms us R i (j+1):=by
 obtain⟨f,a,x,v,r,A,z,q,p,o⟩:=h;have y:j<ms.length:=(aB.1 c).1;have e:mu ds (ms.take (j+1))=mu ds (ms.take j):=by rw[zTm c,zZk,aK l]
 refine⟨f,a++kG m u,by rw[e];exact x,v,by rw[aE,r];simp[kG];omega,by omega,by omega,?_,by rw[e];exact p,o.trans (d.mono (λ_ _ e=>e.elim))⟩;rw[e];have:=q.mod d id;rw[OO c,OO k,iW]at this;simpa[List.append_assoc]using this
theorem vd.keep(h:vd w wr L b ds ms us R i j)(l:∀(i:Nat) m u,ms[i]?=some m->us[i]?=some u->ie w L u m.z.writes)
  {m:eG} {u:Value} (f:ms[j]?=some m) (r:us[j]?=some u) (D:rF ds m=false) (q:Mod dt wr wr') :
  vd w (wr'.setCells b (i*9) (kG m u)) L b ds ms us R (i+1) (j+1):=by
 obtain⟨k,a,p,y,x,M,K,H,G,F⟩:=h;have J:j<ms.length:=(aB.1 f).1;have e:mu ds (ms.take (j+1))=mu ds (ms.take j)++[m]:=by rw[zTm f,zZk,aH (by simp[D])]
 have C:=Ef (mu ds (ms.take j)) k (by omega);refine⟨k++[u],a.drop 9++kG m u,by rw[e,aE,<-p];rfl,by simp[y],by rw[aE,bT,x];simp[kG];omega,by omega,by omega,?_,λn B A c d=>?_,(F.trans (q.mono (λ_ _ e=>e.elim))).trans (Mod.setCells _ _ _)⟩
 .rw[e,Wf _ _ _ _ (by omega)];have v:=H.mod q id;rw[OO f,OO r,iW]at v;have:=dx.setCells (g:=b) (t:=112) (kG m u) wr' (iW (mu ds (ms.take j)) k) (a.take 9) (a.drop 9++(kG m u++iW (ms.drop (j+1)) (us.drop (j+1))++R)) (by
   rw[yEh];exact v) (by rw[af,x];simp[kG];omega)
  rw[C,<-p]at this;simpa[List.append_assoc]using this
 .rw[e]at c;by_cases I:n<i
  .rw[aG (by omega)]at c;rw[aG (by omega)]at d;exact G n B A c d
  .have o:n=i:=by
    have:=(aB.1 c).1;rw[aE]at this;simp at this;omega
   subst o;rw[aL (by omega)]at c d;simp[y,<-p]at c d;subst c d;exact l j m u f r
theorem vd.room(h:vd w wr L b ds ms us R i j):i<j/\j<=ms.length/\Mod (eQ b) w wr /\
  (∀n,n<(j-i)*9->(wr.cell? ⟨b,i*9+n,none⟩).isSome=true)/\∀n,wr.frozen? ⟨b,n,none⟩=false:=by
 obtain⟨c,a,v,r,q,k,f,d,p,e⟩:=h;have l:=Ef (mu ds (ms.take j)) c (by omega);refine⟨k,f,e,λn o=>?_,λn=>d.frozen n⟩;obtain⟨x,hx⟩:∃x,(iW (mu ds (ms.take j)) c++a++(iW (ms.drop j) (us.drop j)++R))[i*9+n]?=some x:=⟨_,aA (by simp only[aE];omega)⟩;rw[show wr.cell? ⟨b,i*9+n,none⟩=some x from d.cell _ hx];rfl
theorem vd.done{cap:Nat}{p:List Value}(h:vd w wr L b ds ms us R i ms.length)(q:dx w b p 112)(H:L<=b)(_hcap:ms.length<=cap)(f:cap<=maxLen)(I:ms.length*9+R.length=cap*9)(d:∀m∈ms,sE m) :
  fF (wr.setCells b (i*9) (zn (ms.length-i))) L (.slice (some ⟨b,0,none⟩) i cap) (mu ds ms)/\Mod (λx=>(Value.slice (some ⟨b,0,none⟩) ms.length cap).ownBlock=some x) w (wr.setCells b (i*9) (zn (ms.length-i))):=by
 obtain⟨a,c,o,P,O,N,M,l,y,D⟩:=h;rw[bQ]at o l y;have r:=Ef (mu ds ms) a (by omega);have J:=ZH (ms.length-i);have v:=D.trans (Mod.setCells (zn (ms.length-i)) (i*9) wr);have F:iW (ms.drop ms.length) (us.drop ms.length)=[]:=by rw[cy];cases us.drop ms.length <;> rfl
 rw[F,aa]at l;have hB:=dx.setCells (g:=b) (t:=112) (zn (ms.length-i)) wr (iW (mu ds ms) a) c R l (by omega);rw[r,<-o]at hB;have B:Qm w L (eQ b):=by
  intro k K e;simp only[eQ]at e;subst e;rintro(e|⟨⟨G,Q,e⟩,_⟩)
  .omega
  .simp only[dx]at q;rw[q]at e;simp at e
 refine⟨⟨a,by omega,⟨by omega,.inr ⟨b,cap,(iW (mu ds ms) a++zn (ms.length-i)++R).toArray,by rw[<-o],H,hB,by omega,f,?_,?_⟩⟩,λn m u A z=>(y n m u A z).mod v B,λm C=>d m (au.1 C).1⟩,v.mono (λx _ e=>by simp only[eQ]at e;rw[e];rfl)⟩
 .simp only[bE,aE];omega
 .rw[<-r,aV,db]
theorem zXv(L:Lo)(g q:Nat)(T:Option Nat)(ds:List Int)(v:Value)(ms:List eG)(w:World)(C:fF w L v ms)(hA:yl w L g q T ds)(Lg:v.ownBlock≠some q)(GZ:v.ownBlock≠some g)(Se:∀k,v.ownBlock=some k->T≠some k)(hf:ms.length<=200) :
  Calls Tryz.prog 138 #[v,.func (.func 131) #[] #[.pointer (some ⟨q,0,none⟩)]] w λe w'=>∃P,e=.returned P/\fF w' L P (mu ds ms)/\P.ownBlock=v.ownBlock/\Mod (λx=>v.ownBlock=some x) w w':=by
 have H:=eC (yRg L g q T ds v ms w C hA hf)
 cases o:zv ds ms with
|none=>
  rw[o]at H;have HK:=eC (zZw ds ms o);go_enter Tryz.func138,Tryz.ntmps138;go_wp2_with fail;refine H.out.mono ?_;rintro e w1⟨rfl,M⟩;simp only[yRw];go_wp2_with fail;go_ret;exact⟨v,rfl,by rw[HK.out];exact C.mod M (Qm.none _ _) (λ_ _=>id),rfl,M.mono (λ_ _ e=>e.elim)⟩
|some K=>
  rw[o]at H;obtain⟨ry,qo⟩:=zWv ds ms K o;obtain⟨us,mz,B,F,G⟩:=C;obtain⟨_,h0⟩|⟨b,cap,cur,rfl,Gl,hg,hcap,hcm,hcs,htk⟩:=B.2
  .omega
  unfold maxLen at hcm;obtain⟨R,C⟩:∃R,cur.toList=iW ms us++R:=by
   refine⟨cur.toList.drop (ms.length*9),?_⟩;rw[<-htk,ar]
  have lA:=Ef ms us mz;have oL:dx w b (iW ms us++R) 112:=by rw[dx,<-C];exact hg
  have lR:ms.length*9+R.length=cap*9:=by
   have:(iW ms us++R).length=cap*9:=by rw[<-C];simpa using hcs
   rw[aE,lA]at this;exact this
  have Q:=eC F;have Z:=eC G;have oy:=eC oL;have Na:=eC qo;clear F G oL C hg hcs htk B qo o lA;go_enter Tryz.func138,Tryz.ntmps138;go_wp2_with fail;refine H.out.mono ?_;rintro e w1⟨rfl,M⟩;simp only[yRw];have hne:((K:Int)==-1)=false:=by rw[bp];omega
  go_wp2_with fail;go_loopw [5,6] (λx y wr=>∃i j:Nat,x=.int .i64 i/\y=.int .i64 j/\vd w wr L b ds ms us R i j) (λ_ y _=>ms.length-(intOf y).toNat)
  case atStart=>exact⟨K,K+1,rfl,by go_num,vd.start mz ry Na.out oy.out Q.out M⟩
  case round=>
   obtain⟨i,j,rfl,rfl,D⟩:=hrel;obtain⟨hij,hjn,sV,f,l⟩:=D.room;by_cases W:j<ms.length
   .obtain⟨m,hm⟩:∃m,ms[j]?=some m:=⟨_,aA W⟩;obtain⟨u,hu⟩:∃u,us[j]?=some u:=⟨_,aA (by omega)⟩;have a:=D.look hm hu;have S:=a 0 _ rfl;have q1:=a 1 _ rfl;have q2:=a 2 _ rfl;have q3:=a 3 _ rfl;have q4:=a 4 _ rfl;have q5:=a 5 _ rfl;have q6:=a 6 _ rfl;have q7:=a 7 _ rfl;have q8:=a 8 _ rfl;simp only[bK]at S;have jg:=Z.out m (aC hm);obtain⟨r,A,rfl⟩:∃r A,u=.slice r m.z.writes.length A:=by obtain⟨r,A,h,_⟩:=Q.out j m u hm hu;exact⟨r,A,h⟩
    have hA2:=(hA.mod sV (λe=>Lg (by rw[e];rfl)) (λe=>GZ (by rw[e];rfl)) (λk hk e=>Se k (by rw[e];rfl) hk)).mod ((Mod.refl dt wr).alloc (.cells #[.int .i64 m.kind,.int .i64 m.eP,.int .i64 m.C3,.int .i64 m.dv,.int .i64 m.n,.int .i64 m.z.kind,.int .i64 m.z.I,.int .i64 m.z.time,.slice r m.z.writes.length A] 112)) id id (λ_ _=>id);have HC:=eC (hA2.call m (.slice r m.z.writes.length A) jg.1);have HI:=eC D;have lu:=eC hm;have Ud:=eC hu;have N:=eC f;have U:=eC l;have gM:=dx.new wr (kG m (.slice r m.z.writes.length A)) 112;have X:b<wr.heap.size:=AC wr _ S;clear D hm hu a hA2 f l;go_wp2_with fail;refine HC.out.mono ?_;rintro e O⟨rfl,fA⟩;have xM:dx O wr.heap.size (kG m (.slice r m.z.writes.length A)) 112:=gM.mod fA id;have J:=((Mod.refl dt wr).alloc (.cells #[.int .i64 m.kind,.int .i64 m.eP,.int .i64 m.C3,.int .i64 m.dv,.int .i64 m.n,.int .i64 m.z.kind,.int .i64 m.z.I,.int .i64 m.z.time,.slice r m.z.writes.length A] 112)).trans fA;clear HC S q1 q2 q3 q4 q5 q6 q7 q8 gM
    cases hs:rF ds m with
   |true=>
     have Y:=eC (HI.out.skip lu.out Ud.out hs J);go_wp2_with fail;go_roundw
     case rel=>exact⟨i,j+1,rfl,by go_num,Y.out⟩
     case measure=>simp[intOf];omega
   |false=>
     have Y:=eC (HI.out.keep Q.out lu.out Ud.out hs J);obtain⟨⟨p0,p1,p2,p3,p4,p5,p6,p7,p8⟩,_⟩:=ix xM;have hex:∀c,c<9->∃y,O.cell? ⟨b,i*9+c,none⟩=some y:=λc hc=>by
      obtain⟨y,hy⟩:=bF.1 (N.out c (by omega));exact⟨y,J.cell hy id⟩
     have d:∀c,O.frozen? ⟨b,c,none⟩=false:=λc=>(J.frozen (p:=⟨b,c,none⟩) X id).trans (U.out c);obtain⟨y0,V⟩:=hex 0 (by omega);obtain⟨y1,hy1⟩:=hex 1 (by omega);obtain⟨y2,hy2⟩:=hex 2 (by omega);obtain⟨y3,hy3⟩:=hex 3 (by omega);obtain⟨y4,hy4⟩:=hex 4 (by omega);obtain⟨y5,hy5⟩:=hex 5 (by omega);obtain⟨y6,hy6⟩:=hex 6 (by omega);obtain⟨y7,hy7⟩:=hex 7 (by omega);obtain⟨y8,hy8⟩:=hex 8 (by omega);have f0:=d (i*9+0);have f1:=d (i*9+1);have f2:=d (i*9+2);have f3:=d (i*9+3);have f4:=d (i*9+4);have f5:=d (i*9+5);have f6:=d (i*9+6);have f7:=d (i*9+7);have f8:=d (i*9+8);simp only[bK]at V f0;have sS:b≠wr.heap.size:=by omega
     clear hex d;go_wp2_with fail;go_roundw
     case rel=>exact⟨i+1,j+1,by go_num,by go_num,by simpa[World.setCells,kG,Nat.add_assoc]using Y.out⟩
     case measure=>simp[intOf];omega
   .obtain rfl:j=ms.length:=by omega
    have vP:=eC (D.done (cap:=cap) oy.out Gl hcap (by unfold maxLen;omega) lR Z.out);have hb3:¬cap=i:=by omega
    have hb4:i<=cap:=by omega
    have N:=eC f;have U:Hid (∀n,n<(ms.length-i)*9->wr.frozen? ⟨b,i*9+n,none⟩=false):=λn _=>l _;clear D f l;go_wp2_with (first
    |(refine zXq rfl _ rfl b (i*9) (ms.length-i) _ rfl (by omega) N.out U.out ?_)
    |fail)
    go_ret;exact⟨_,rfl,vP.out.1,rfl,vP.out.2⟩
end Go.Proofs.YtmaiggbnceejiaaGreatDoor
namespace Go.Proofs.YtmaiggbnceejiaaGreatDoor
open Go.RowKit Go.Lib Go.Maps
variable {w wr wr' w1:World}{L:Lo}{b j i n g:Nat}{ds:List Int}{ms:List eG}{us R:List Value}{α:Type}{m:eG}{u wv:Value}{id t:Int}{s:fS}
variable {E:Ext}
def Fb(s:fS)(id:Int):fS:=⟨mu (s.down++[id]) s.way,s.lost+((s.way.length:Int)-((mu (s.down++[id]) s.way).length:Int)),s.down++[id]⟩
theorem qy.put{w':World}{D:DataW Unit}(d:∀x,(Lit.int .i64 x).wf=true->Maps.has D (.int .i64 x)=decide (x∈ds))(k:IsMap D)(f:L<=b)(l:n<=ds.length)
  (c:gi id) (h:w'.ownsMap Tryz.prog 3 unitElem b (n+1) (D.put (.int .i64 id) (.agg []))):qy w' L (some b) (ds++[id]):=by
 refine .inr ⟨b,_,rfl,f,h.mono (by simp;omega),λx a=>?_⟩;by_cases e:x=id
 .subst e;rw[has_put_same k (by simp[WideAt.IsKeyLit])];simp
 .rw[has_put_other (by intro h;cases h;exact e rfl),d x a];simp[e]
theorem gA.mapped(h:gA E w L g wv none s) :
  gA E ((w.setCell ⟨g,4,none⟩ (.map (some w.heap.size))).alloc (.map #[] 0)) L g wv (some w.heap.size) s/\Mod (oE g wv none) w ((w.setCell ⟨g,4,none⟩ (.map (some w.heap.size))).alloc (.map #[] 0)):=by
 obtain⟨q,_,_⟩:=h.apart;have f:(w.setCell ⟨g,4,none⟩ (.map (some w.heap.size))).heap.size=w.heap.size:=by simp[World.setCell]
 have p:Mod (eQ g) w (w.setCell ⟨g,4,none⟩ (.map (some w.heap.size))):=Mod.eE g 4 _;have a:Mod (eQ g) w ((w.setCell ⟨g,4,none⟩ (.map (some w.heap.size))).alloc (.map #[] 0)):=p.alloc _;have l:Qm w L (eQ g):=Qm.np h (λk _ e=>.inl e);have r:=h.low;have o:=h.Z.lt;have d:s.down=[]:=by
  obtain⟨_,e⟩|⟨b,D,e,_⟩:=h.dn
  .exact e
  .cases e
 refine⟨⟨(h.Z.set 4 (.map (some w.heap.size))).mod ((Mod.refl dt _).alloc _) id,h.low,h.row.mod a l (λk c e=>q (by rw[c,e])),?_,h.few,h.lo,λk c=>aJ (h.xb k c) a.size⟩,a.mono (λi _ e=>.inl e)⟩;rw[d];have:=B2 (H:=Unit) (w.setCell ⟨g,4,none⟩ (.map (some w.heap.size))) Tryz.prog 3 unitElem;rw[f]at this;exact .inr ⟨w.heap.size,.map [],rfl,by omega,this,λx _=>by simp[Maps.has]⟩
theorem gA.puts{D:DataW Unit}(h:gA E w L g wv (some b) s)(o:w.ownsMap Tryz.prog 3 unitElem b s.down.length D)(p:∀x,(Lit.int .i64 x).wf=true->Maps.has D (.int .i64 x)=decide (x∈s.down))(z:L<=b)(d:gi id)
  (q:w.grownBy w1 (some b)) (r:w1.ownsMap Tryz.prog 3 unitElem b (s.down.length+1) (D.put (.int .i64 id) (.agg []))):gA E w1 L g wv (some b) ⟨s.way,s.lost,s.down++[id]⟩/\Mod (λk=>some b=some k) w w1:=by
 obtain⟨A,y,v⟩:=h.apart;have a:Mod (λk=>some b=some k) w w1:=(Mod.refl _ w).grown q (λx f _=>f);have l:Qm w L (λk=>some b=some k):=Qm.np h (λk _ e=>.inr (.inr e));exact⟨⟨h.Z.mod a y,h.low,h.row.mod a l (λk c e=>v k c e),qy.put p o.isMap z (aD _) d r,h.few,h.lo,λk c=>aJ (h.xb k c) a.size⟩,a⟩
theorem Mod.net2{c:World}{v:Value}{a:Option Nat}(h:Mod (oE g v a) w w1)(d:some b=a\/w.heap.size<=b)(k:Mod (λx=>some b=some x) w1 c):Mod (oE g v a) w c:=
 h.trans' k (λi f e=>by
  cases e
  obtain e|e:=d
  .exact .inr (.inr e.symm)
  .omega)
theorem yWp(L:Lo)(g:Nat)(wv:Value)(v:Option Nat)(s:fS)(id:Int)(w:World)(h:gA E w L g wv v s)(B:gi id)(hds:s.down.length<=1000000)(hlo:s.lost+200<=4611686018427387904) :
  Calls Tryz.prog 105 #[.pointer (some ⟨g,2,none⟩),.int .i64 id] w λe X=>∃x l,e=.returned (.int .i64 ((Fb s id).lost-s.lost))/\gA E X L g x l (Fb s id)/\x.ownBlock=wv.ownBlock/\(l=v\/∀k,l=some k->w.heap.size<=k)/\Mod (oE g wv v) w X:=by
 have S:=h.Z.cell 4 rfl;have f2:=h.Z.frozen 4;have hen:=λ(r:Option Nat) (w:World)=>run_eql_map_nil (P:=Tryz.prog) w 75 _ _ r Tryz.underlying75;have hmm:=@run_makeMap Tryz.prog;have hgl:=h.Z.lt;go_enter Tryz.func105,Tryz.ntmps105;go_upto_if 11 with fail;go_cut [] (λwc=>∃b,gA E wc L g wv (some b) s/\(some b=v\/w.heap.size<=b)/\Mod (oE g wv v) w wc)
 case first=>
  cases v with
 |none=>
   have HH:=eC h.mapped;clear h;go_wp2_with fail;go_meet
   case rel=>exact⟨_,HH.out.1,.inr (aD _),HH.out.2⟩
 |some b=>
   go_wp2_with fail;go_meet
   case rel=>exact⟨b,h,.inl rfl,Mod.refl _ _⟩
 case rest=>
  obtain⟨b,hN,G,hM⟩:=hcut;clear S f2 h;have S:=hN.Z.cell 4 rfl;have pr:=hN.dn;obtain⟨e,_⟩|⟨b',D,e,Gm,hown,hhas⟩:=pr
  .cases e
  cases e
  have A:keyOf Tryz.prog 3 (.int .i64 id)=some (.int .i64 id):=keyOf_int_mk Tryz.underlying3 (Qd B);have U:=eC hown;have Nh:=eC hhas;have HN:=eC hN;clear hown hhas hN;go_wp2_with (first
  |(at_mapUpdate;refine wpList_mapUpdate_own _ rfl _ _ _ 75 rfl 3 158 CX Tryz.underlying75 unitElem b _ D rfl U.out (by unfold maxLen;omega) _ _ _ rfl rfl A _ [] unitElem_mk ?_)
  |fail)
  intro w1 d c;have f:=HN.out.puts U.out Nh.out Gm B c d;have Y:=hM.net2 G f.2;obtain⟨W,gW,K⟩:=f.1.row.slice;subst K;have T:=f.1.Z.cell 2 rfl;have f0:=f.1.Z.frozen 2;have F:=eC f.1;have V:=f.1.Z.lt;have H:=f.1.apart;have fy:=f.1.few;have N:=f.1.lo;have hkl:=yRf (s.down++[id]) s.way;simp only at T fy N;clear f d c U Nh HN hM S;go_upto_region 5 with fail;go_cut [] (λwc=>∃x,gA E wc L g x (some b) ⟨mu (s.down++[id]) s.way,s.lost,s.down++[id]⟩/\x.ownBlock=(Value.slice W s.way.length gW).ownBlock/\Mod (oE g (.slice W s.way.length gW) (some b)) w1 wc)
  case first=>
   go_region_law
    ((first
    |(go_simp;go_at_call 88;(refine(zYs g _).mono ?_;rintro e J⟨o,rfl⟩;have a:Mod dt w1 J:=(by rw[o];exact((Mod.refl dt w1).drew).alloc _);have M:dx J w1.heap.size [.pointer (some ⟨g,2,none⟩)] 147:=(by rw[o];exact dx.new w1.drew _ _);clear o;have Q:=a.cell T (λe=>e);have z2:=a.size;try dsimp only))
    |(go_simp;go_at_call 138;(refine(zXv L g w1.heap.size (some b) (s.down++[id]) _ s.way J (F.out.mod a (Qm.none _ _) (λ_ _ e=>e)).row ⟨M.cell 0 rfl,(F.out.mod a (Qm.none _ _) (λ_ _ e=>e)).Z.cell 4 rfl,(F.out.mod a (Qm.none _ _) (λ_ _ e=>e)).dn⟩ (λe=>cZ _ (F.out.lt (.inr (.inl e))).2.1) H.1 H.2.2 fy).mono ?_;rintro e w3⟨v3,rfl,Bh,z,O⟩;obtain⟨Oi,Io,LY⟩:=Bh.slice;subst LY;have Jk:=O.cell Q H.1;have f30:=((O.frozen (p:=⟨g,2,none⟩) (aJ V z2) H.1).trans (a.frozen (p:=⟨g,2,none⟩) V (λe=>e))).trans f0;try dsimp only))
    |fail))
   all_goals
    have R:=(F.out.mod a (Qm.none _ _) (λ_ _ e=>e)).Iy O Bh z (by omega);go_wp2_with fail;go_meet
    case rel=>exact⟨_,R.1,z,(a.mono (λ_ _ e=>e.elim)).trans R.2⟩
  case rest=>
   obtain⟨x,q,y,gw⟩:=hcut;obtain⟨wb,I,K⟩:=q.row.slice;subst K;have x0:=q.Z.cell 2 rfl;have x1:=q.Z.cell 3 rfl;have y1:=q.Z.frozen 3;simp only at x0 x1;have HL:=eC (q.loses (s.lost+((s.way.length:Int)-((mu (s.down++[id]) s.way).length:Int))) ⟨by omega,by omega⟩);have uD:=eC (Y.trans' gw (λi hi e=>by
    obtain e|e|e:=e
    .exact .inl e
    .exact .inr (.inl e)
    .cases e
     obtain e|e:=G
     .exact .inr (.inr e.symm)
     .omega))
   have C:=eC y;clear q gw Y y T f0;go_wp2_with fail;go_ret;refine⟨?_,?_⟩
   .simp only[Fb];go_num
   refine⟨.slice wb (mu (s.down++[id]) s.way).length I,some b,?_,C.out,?_,?_⟩
   .simpa[Fb]using HL.out.1
   .obtain e|e:=G
    .exact .inl e
    .exact .inr (λk hk=>by cases hk;exact e)
   .simpa using uD.out.trans' HL.out.2 (λi hi e=>by
     obtain e|e|e:=e
     .exact .inl e
     .exact .inr (.inl (by rw[<-C.out];exact e))
     .cases e
      obtain e|e:=G
      .exact .inr (.inr e.symm)
      .omega)
end Go.Proofs.YtmaiggbnceejiaaGreatDoor
namespace Go.Proofs.YtmaiggbnceejiaaGreatDoor
variable {w wr wr' w1:World}{L:Lo}{b j i n g:Nat}{ds:List Int}{ms:List eG}{us R:List Value}{α:Type}{m:eG}{u wv:Value}{id t:Int}{s:fS}
structure dw where
 I:Int
 mode:Int
 deriving DecidableEq
def kY(l:List dw):Prop:=l.Pairwise λa b=>a.I<b.I
def iH(l:List dw)(t:Int):Nat:=(l.filter λc=>decide (c.I<t)).length
theorem Wu(l:List dw)(t:Int):iH l t<=l.length:=bD _ _
theorem yDv(v:dw)(l:List dw)(t:Int):iH (v::l) t=(if v.I<t then 1 else 0)+iH l t:=by
 unfold iH;rw[cE];by_cases h:v.I<t
 .simp[h];omega
 .simp[h]
theorem yDu{l:List dw}(h:∀v∈l,t<=v.I):iH l t=0:=by
 unfold iH;rw[List.length_eq_zero_iff,List.filter_eq_nil_iff];intro v a;have:=h v a;simp;omega
theorem CI:∀{l:List dw}(_:kY l) (t:Int) (k:Nat) (v:dw),l[k]?=some v->(k<iH l t↔v.I<t)
|[],_,t,k,v,h=>by simp at h
|x::l,a,t,0,v,h=>by
  simp at h;subst h;rw[yDv];by_cases d:x.I<t
  .simp[d];omega
  .have:iH l t=0:=yDu (λy c=>by have:=bY a c;omega);simp[d,this]
|x::l,a,t,k+1,v,h=>by
  have e:l[k]?=some v:=by simpa using h
  have o:=CI (List.Pairwise.of_cons a) t k v e;have d:=bY a (aC e);rw[yDv];by_cases f:x.I<t
  .simp only[f,if_true];rw[<-o];omega
  .have:iH l t=0:=yDu (λy c=>by have:=bY a c;omega);simp only[f,if_false,this];constructor
   .intro h;omega
   .intro h;omega
theorem yQf{l:List dw}(c:kY l)(f:n<=l.length)(e:∀k v,k<n->l[k]?=some v->v.I<t)(d:∀k v,n<=k->l[k]?=some v->t<=v.I):iH l t=n:=by
 rcases cG (iH l t) n with h|h|h
 .obtain⟨v,hv⟩:∃v,l[iH l t]?=some v:=⟨_,aA (by omega)⟩;have a:=e _ v h hv;have:=(CI c t _ v hv).2 a;omega
 .exact h
 .have o:=Wu l t;obtain⟨v,hv⟩:∃v,l[n]?=some v:=⟨_,aA (by omega)⟩;have a:=(CI c t _ v hv).1 h;have b:=d _ v (aD _) hv;omega
def nE(l:List dw)(t:Int):Bool:=match l[iH l t]? with
|some c=>decide (c.I=t)
|none=>false
def jD(l:List dw)(t:Int):Int:=match l[iH l t]? with
|some c=>if c.I=t then c.mode else 0
|none=>0
def jx(l:List dw)(c:dw):List dw:=if nE l c.I then l.set (iH l c.I) c else l.take (iH l c.I)++c::l.drop (iH l c.I)
def lI(a b:dw):Bool:=decide (a.I≠b.I)&&(decide (a.mode=2)||decide (b.mode=2))
def qe(a waits:List dw)(c:dw):Bool:=!(a.any λo=>lI o c)&&!(waits.any λo=>decide (o.I<c.I)&&lI o c)
def IH(c o:dw):Bool:=decide (o.I<c.I)||!lI o c
def AA(a:List dw)(c:dw):List Int:=(a.filter λo=>!IH c o).map (·.I)
def lS(l:List dw)(t:Int):List dw:=l.filter λc=>!decide (c.I=t)
def ja(d a:List dw):List dw->List dw×List dw×List dw
|[]=>(d,a,[])
|c::q=>if qe d a c then((ja (jx d c) a q).1,(ja (jx d c) a q).2.1,c::(ja (jx d c) a q).2.2)else ja d (a++[c]) q
theorem Rc{l:List dw}(h:nE l t=true):∃c,l[iH l t]?=some c/\c.I=t:=by
 unfold nE at h
 cases a:l[iH l t]? with
|none=>rw[a]at h;cases h
|some c=>rw[a]at h;exact⟨c,rfl,by simpa using h⟩
theorem yWk{l:List dw}(e:kY l){a b:dw}(k:a∈l)(f:b∈l)(h:a.I=b.I):a=b:=by
 induction l with
|nil=>simp at k
|cons x l o=>
  rcases bB.1 k with rfl|d
  .rcases bB.1 f with rfl|c
   .rfl
   .have:=bY e c;omega
  .rcases bB.1 f with rfl|c
   .have:=bY e d;omega
   .exact o (List.Pairwise.of_cons e) d c
theorem yHm{l:List dw}(h:kY l){c:dw}(p:c∈l):l[iH l c.I]?=some c:=by
 obtain⟨k,f⟩:=aP p;have d:=(aB.1 f).1;have:iH l c.I=k:=yQf h (by omega) (λj v o a=>by
  have q:=(CI h v.I j v a);have:=aq.1 h j k (aB.1 a).1 d o;rw[(aB.1 a).2,(aB.1 f).2]at this;exact this) (λj v o a=>by
  by_cases e:j=k
  .subst e;rw[f]at a;cases a;exact bO _
  .have:=aq.1 h k j d (aB.1 a).1 (by omega);rw[(aB.1 a).2,(aB.1 f).2]at this;omega)
 rw[this];exact f
theorem yRr{l:List dw}(d:kY l)(t:Int):nE l t=true↔∃c∈l,c.I=t:=by
 constructor
 .intro h;obtain⟨c,a,e⟩:=Rc h;exact⟨c,aC a,e⟩
 .rintro⟨c,a,rfl⟩;unfold nE;rw[yHm d a];simp
theorem IE{l:List dw}(a:kY l){c:dw}(d:c∈l):jD l c.I=c.mode:=by
 unfold jD;rw[yHm a d];simp
theorem yEg{l:List dw}(h:∀c∈l,c.I≠t):jD l t=0:=by
 unfold jD
 cases a:l[iH l t]? with
|none=>rfl
|some c=>
  have:=h c (aC a);simp[this]
theorem IS{l:List dw}(d:kY l)(f:∀c∈l,c.mode≠0):jD l t=0↔∀c∈l,c.I≠t:=by
 constructor
 .intro h c a e;subst e;rw[IE d a]at h;exact f c a h
 .exact yEg
theorem mx{l:List dw}(v:kY l)(c o:dw):o∈jx l c↔o=c\/(o∈l/\o.I≠c.I):=by
 unfold jx;split
 .rename_i h;obtain⟨d,B,D⟩:=Rc h;have C:=(aB.1 B).1;rw[List.mem_iff_getElem?];constructor
  .rintro⟨k,a⟩;rw[bz]at a;split at a
   .simp at a;exact .inl a.symm
   .rename_i f;refine .inr ⟨aC a,λe=>f ?_⟩;have p:=aC a;have:=yHm v p;rw[e]at this;obtain⟨y,x⟩:=aB.1 a;obtain⟨A,z⟩:=aB.1 this;rcases cG (iH l c.I) k with q|q|q
    .have:=aq.1 v _ _ A y q;rw[z,x]at this;omega
    .exact q
    .have:=aq.1 v _ _ y A q;rw[z,x]at this;omega
  .rintro(rfl|⟨p,f⟩)
   .exact⟨iH l o.I,by rw[List.getElem?_set_self C]⟩
   .obtain⟨k,a⟩:=aP p;refine⟨k,?_⟩;rw[List.getElem?_set_ne ?_]
    .exact a
    .rintro rfl;rw[B]at a
     cases a
     exact f D
 .rename_i h;rw[aM,bB];have r:∀o∈l,o.I≠c.I:=λo p e=>h ((yRr v c.I).2 ⟨o,p,e⟩);constructor
  .rintro(q|rfl|q)
   .have:=cS q;exact .inr ⟨this,r o this⟩
   .exact .inl rfl
   .have:=cT q;exact .inr ⟨this,r o this⟩
  .rintro(rfl|⟨q,_⟩)
   .exact .inr (.inl rfl)
   .rw[<-ar (iH l c.I) l,aM]at q;obtain q|q:=q
    .exact .inl q
    .exact .inr (.inr q)
theorem FX{l:List dw}(f:kY l)(c:dw):kY (jx l c):=by
 unfold jx;split
 .rename_i h;obtain⟨d,A,D⟩:=Rc h;obtain⟨G,C⟩:=aB.1 A;unfold kY;rw[aq];intro i j B q y;simp only[ai]at B q;have:=aq.1 f i j B q y;rw[List.getElem_set,List.getElem_set];split
  .rename_i e;subst e;rw[aH (by omega)];rw[C,D]at this;exact this
  .split
   .rename_i e;subst e;rw[C,D]at this;exact this
   .exact this
 .rename_i h;have v:∀o∈l,o.I≠c.I:=λo r e=>h ((yRr f c.I).2 ⟨o,r,e⟩);unfold kY;rw[bg];refine⟨f.sublist (List.take_sublist _ _),?_,?_⟩
  .rw[List.pairwise_cons];refine⟨λo r=>?_,f.sublist (List.drop_sublist _ _)⟩;obtain⟨k,p⟩:=aP r;rw[dC]at p;have:=mt (CI f c.I _ o p).2 (by omega);have:=v o (cT r);omega
  .intro a F b z;obtain⟨k,p⟩:=aP F;rw[dB]at p;split at p
   .rename_i x;have A:=(CI f c.I k a p).1 x;rcases bB.1 z with rfl|z
    .exact A
    .obtain⟨j,q⟩:=aP z;rw[dC]at q;have:=mt (CI f c.I _ b q).2 (by omega);omega
   .cases p
theorem Qn(l:List dw)(c:dw):(jx l c).length<=l.length+1:=by
 unfold jx;split
 .simp
 .have:=Wu l c.I;simp;omega
theorem pD{l:List dw}{o:dw}:o∈lS l t↔o∈l/\o.I≠t:=by
 unfold lS;simp
theorem Ea{l:List dw}(a:kY l)(t:Int):kY (lS l t):=a.sublist ba
theorem Qw(l:List dw)(t:Int):(lS l t).length<=l.length:=bD _ _
theorem ZW:∀(q d a:List dw),kY d->kY (a++q)->kY (ja d a q).1/\kY (ja d a q).2.1
|[],d,a,f,e=>⟨f,by simpa[ja]using e⟩
|c::q,d,a,f,e=>by
  unfold ja;split
  .exact ZW q (jx d c) a (FX f c) (e.sublist (by simp))
  .exact ZW q d (a++[c]) f (by simpa using e)
theorem yBl:∀(q a d:List dw),(ja a d q).1.length<=a.length+q.length/\(ja a d q).2.1.length<=d.length+q.length/\(ja a d q).2.2.length<=q.length
|[],a,d=>by simp[ja]
|c::q,a,d=>by
  unfold ja;split
  .have:=yBl q (jx a c) d;have:=Qn a c;simp only[aW];omega
  .have:=yBl q a (d++[c]);simp only[aW,aE,bC]at *;omega
theorem ES:∀(q d a:List dw) (o:dw),(o∈(ja d a q).1->o∈d\/o∈q)/\(o∈(ja d a q).2.1->o∈a\/o∈q)/\(o∈(ja d a q).2.2->o∈q)
|[],d,a,o=>by simp[ja]
|c::q,d,a,o=>by
  unfold ja;split
  .obtain⟨k,f,e⟩:=ES q (jx d c) a o;refine⟨λh=>?_,λh=>?_,λh=>?_⟩
   .rcases k h with h|h
    .unfold jx at h;split at h
     .rcases bG h with h|h
      .exact .inl h
      .exact .inr (by rw[h];simp)
     .rcases aM.1 h with h|h
      .exact .inl (cS h)
      .rcases bB.1 h with h|h
       .exact .inr (by rw[h];simp)
       .exact .inl (cT h)
    .exact .inr (bH _ h)
   .exact(f h).imp id (bH _)
   .rcases bB.1 h with h|h
    .rw[h];simp
    .exact bH _ (e h)
  .obtain⟨k,f,e⟩:=ES q d (a++[c]) o;refine⟨λh=>(k h).imp id (bH _),λh=>?_,λh=>bH _ (e h)⟩;rcases f h with h|h
   .rcases aM.1 h with h|h
    .exact .inl h
    .simp at h;exact .inr (by rw[h];simp)
   .exact .inr (bH _ h)
end Go.Proofs.YtmaiggbnceejiaaGreatDoor
namespace Go.Proofs.YtmaiggbnceejiaaGreatDoor
open Go.RowKit Go.Lib Go.Maps Go.ChangeShapes Go.WideShapes Go.Deep
variable {c a b:dw}{k:ByteArray}{held waits l os:List dw}{W:List Int}{t x:Int}{α:Type}{G:Nat->Prop}{w w':World}{L sz n cap i B:Nat}{v:Value}
structure fP where
 held:List dw
 waits:List dw
abbrev gU:=ByteArray->fP
def fP.bare(k:fP):Prop:=k.held=[]/\k.waits=[]
def jo(s:gU)(k:ByteArray)(x:fP):gU:=λy=>if y=k then x else s y
def iz(k:fP)(c:dw):fP×Bool×List Int×Int:=
 if jD k.waits c.I≠0 then(k,false,[],9)
 else if c.mode<=jD k.held c.I then(k,true,[],0)
 else if qe k.held k.waits c then({k with held:=jx k.held c},true,[],0)
 else if 50<=k.waits.length then(k,false,[],4)
 else({k with waits:=jx k.waits c},false,AA k.held c,0)
def yT(k:fP)(t:Int):Bool:=decide (jD k.held t≠0)||decide (jD k.waits t≠0)
def my(k:fP)(t:Int):fP:=⟨(ja (lS k.held t) [] (lS k.waits t)).1,(ja (lS k.held t) [] (lS k.waits t)).2.1⟩
def jW(k:fP)(t:Int):List dw:=(ja (lS k.held t) [] (lS k.waits t)).2.2
def gg(s:gU)(t:Int):gU:=λk=>if yT (s k) t then my (s k) t else s k
structure nY(k:fP):Prop where
 held:kY k.held
 waits:kY k.waits
 hmode:∀c∈k.held,c.mode=1\/c.mode=2
 rH:∀c∈k.waits,c.mode=1\/c.mode=2
 wants:∀c∈k.waits,∀o∈k.held,o.I=c.I->o.mode<c.mode
theorem nY.h0{k:fP}(h:nY k):∀c∈k.held,c.mode≠0:=λc d=>by rcases h.hmode c d with e|e <;> omega
theorem nY.w0{k:fP}(h:nY k):∀c∈k.waits,c.mode≠0:=λc d=>by rcases h.rH c d with e|e <;> omega
theorem nY.nil:nY ⟨[],[]⟩:=⟨List.Pairwise.nil,List.Pairwise.nil,by simp,by simp,by simp⟩
theorem yQt{k:fP}(h:nY k)(m:c.mode=1\/c.mode=2):nY (iz k c).1:=by
 unfold iz;split
 .exact h
 rename_i p;have j:jD k.waits c.I=0:=aS p;split
 .exact h
 rename_i q;split
 .refine⟨FX h.held c,h.waits,λo f=>?_,h.rH,λd g o f e=>?_⟩
  .rcases(mx h.held c o).1 f with rfl|⟨f,_⟩
   .exact m
   .exact h.hmode o f
  .rcases(mx h.held c o).1 f with rfl|⟨f,_⟩
   .exact absurd e.symm ((IS h.waits h.w0).1 j d g)
   .exact h.wants d g o f e
 split
 .exact h
 .refine⟨h.held,FX h.waits c,h.hmode,λo f=>?_,λd g o f e=>?_⟩
  .rcases(mx h.waits c o).1 f with rfl|⟨f,_⟩
   .exact m
   .exact h.rH o f
  .rcases(mx h.waits c d).1 g with rfl|⟨g,_⟩
   .have:=IE h.held f;rw[e]at this;omega
   .exact h.wants d g o f e
theorem ZY:∀(q held f:List dw),kY held->kY (f++q)->(∀c∈f++q,∀o∈held,o.I=c.I->o.mode<c.mode)->∀c∈(ja held f q).2.1,∀o∈(ja held f q).1,o.I=c.I->o.mode<c.mode
|[],held,f,m,h,j=>by simpa[ja]using j
|c::q,held,f,m,h,j=>by
  unfold ja;split
  .refine ZY q (jx held c) f (FX m c) (h.sublist (by simp)) (λd r o p e=>?_);rcases(mx m c o).1 p with rfl|⟨p,_⟩
   .exfalso;rcases aM.1 r with g|g
    .have:=(bg.1 h).2.2 d g o (by simp);omega
    .have:=bY (bg.1 h).2.1 g;omega
   .refine j d ?_ o p e;rcases aM.1 r with g|g
    .exact aM.2 (.inl g)
    .exact aM.2 (.inr (bH _ g))
  .exact ZY q held (f++[c]) m (by simpa using h) (by simpa using j)
theorem Kz{k:fP}(h:nY k)(t:Int):nY (my k t):=by
 obtain⟨g,f⟩:=ZW (lS k.waits t) (lS k.held t) [] (Ea h.held t) (by simpa using Ea h.waits t);refine⟨g,f,λo d=>?_,λo d=>?_,ZY _ _ _ (Ea h.held t) (by simpa using Ea h.waits t) (λc e o d=>h.wants c (by simp at e;exact(pD.1 e).1) o (pD.1 d).1)⟩
 .rcases(ES _ _ _ o).1 d with q|q
  .exact h.hmode o (pD.1 q).1
  .exact h.rH o (pD.1 q).1
 .rcases(ES _ _ _ o).2.1 d with q|q
  .simp at q
  .exact h.rH o (pD.1 q).1
theorem NO{k:fP}(h:nY k)(t:Int):yT k t=true↔(∃c∈k.held,c.I=t)\/∃c∈k.waits,c.I=t:=by
 unfold yT;have g:=IS h.held h.h0 (t:=t);have f:=IS h.waits h.w0 (t:=t);simp only[cA,decide_eq_true_iff,ne_eq,g,f];constructor
 .rintro(q|q)
  .left;exact aS λn=>q (λc d e=>n ⟨c,d,e⟩)
  .right;exact aS λn=>q (λc d e=>n ⟨c,d,e⟩)
 .rintro(⟨c,d,e⟩|⟨c,d,e⟩)
  .exact .inl (λq=>q c d e)
  .exact .inr (λq=>q c d e)
theorem yUv{k:fP}(t:Int):(∀c∈(my k t).held,c.I≠t)/\∀c∈(my k t).waits,c.I≠t:=by
 refine⟨λc d=>?_,λc d=>?_⟩
 .rcases(ES _ _ _ c).1 d with q|q
  .exact(pD.1 q).2
  .exact(pD.1 q).2
 .rcases(ES _ _ _ c).2.1 d with q|q
  .simp at q
  .exact(pD.1 q).2
theorem yJx{s:gU}(h:nY (s k))(t:Int):(∀c∈(gg s t k).held,c.I≠t)/\∀c∈(gg s t k).waits,c.I≠t:=by
 unfold gg;split
 .exact yUv t
 .rename_i q;have:=mt (NO h t).2 q;exact⟨λc d e=>this (.inl ⟨c,d,e⟩),λc d e=>this (.inr ⟨c,d,e⟩)⟩
def Oo(P:List ByteArray)(k:ByteArray):Bool:=P.any λy=>decide (y=k)
theorem QY{P:List ByteArray}:Oo P k=true↔k∈P:=by
 unfold Oo;rw[cP];constructor
 .rintro⟨y,d,e⟩;simp only[decide_eq_true_iff]at e;rw[<-e];exact d
 .exact λh=>⟨k,h,by simp⟩
structure ri(W:List Int)(k:fP):Prop where
 ok:nY k
 alone:∀a∈k.held,∀b∈k.held,lI a b=false
 stuck:∀c∈k.waits,qe k.held k.waits c=false
 elder:∀c∈k.waits,∀a∈k.held,lI a c=true->a.I<c.I\/a.I∈W
theorem yAs(a b:dw):lI a b=lI b a:=by
 unfold lI;rw[show decide (a.I≠b.I)=decide (b.I≠a.I) by simp only[ne_eq,eq_comm],Bool.or_comm]
theorem yTs(a:dw):lI a a=false:=by simp[lI]
theorem yAr(h:a.I=b.I):lI a b=false:=by simp[lI,h]
theorem ri.nil(W:List Int):ri W ⟨[],[]⟩:=⟨nY.nil,by simp,by simp,by simp⟩
theorem Qi:qe held waits c=true↔(∀o∈held,lI o c=false)/\∀o∈waits,o.I<c.I->lI o c=false:=by
 unfold qe;simp only[bX,dG,List.any_eq_false,Bool.not_eq_true,decide_eq_true_iff];constructor
 .rintro⟨g,f⟩;refine⟨g,λo e d=>?_⟩
  cases h:lI o c with
 |false=>rfl
 |true=>exact absurd ⟨d,h⟩ (f o e)
 .rintro⟨g,f⟩;refine⟨g,λo e d=>?_⟩;have:=f o e d.1;rw[d.2]at this;cases this
theorem yTt(ht:a.I=b.I)(d:a.mode=2->b.mode=2)(h:lI a c=true):lI b c=true:=by
 unfold lI at *;simp only[bX,cA,decide_eq_true_iff]at *;exact⟨by rw[<-ht];exact h.1,h.2.imp d id⟩
def Over(h d:List dw):Prop:=∀a∈h,∃b∈d,a.I=b.I/\(a.mode=2->b.mode=2)
theorem Over.refl(h:List dw):Over h h:=λa d=>⟨a,d,rfl,id⟩
theorem Over.trans{a b c:List dw}(h:Over a b)(k:Over b c):Over a c:=λx g=>by
 obtain⟨y,f,p,o⟩:=h x g;obtain⟨z,d,m,j⟩:=k y f;exact⟨z,d,p.trans m,λe=>j (o e)⟩
theorem Vt(f:kY held)(h:c.mode=1\/c.mode=2)(d:∀o∈held,o.I=c.I->o.mode=2->c.mode=2):Over held (jx held c):=λa g=>by
 by_cases e:a.I=c.I
 .exact⟨c,(mx f c c).2 (.inl rfl),e,d a g e⟩
 .exact⟨a,(mx f c a).2 (.inr ⟨g,e⟩),rfl,id⟩
theorem OR{d f:List dw}(h:qe held waits c=false)(m:Over held d)(j:∀o∈waits,o.I<c.I->o∈f):qe d f c=false:=by
 cases q:qe d f c with
|false=>rfl
|true=>
  exfalso;obtain⟨u,s⟩:=Qi.1 q;have:qe held waits c=true:=Qi.2 ⟨λo e=>?_,λo e g=>s o (j o e g) g⟩
  .rw[h]at this;cases this
  .cases p:lI o c with
  |false=>rfl
  |true=>
    obtain⟨b,r,z,y⟩:=m o e;have:=yTt z y p;rw[u b r]at this;cases this
theorem yAf{W:List Int}{waits:List dw}(e:kY held)(g:∀a∈held,∀b∈held,lI a b=false)(f:∀o∈held,lI o c=false):∀a∈jx held c,∀b∈jx held c,lI a b=false:=λa h b d=>by
 rcases(mx e c a).1 h with rfl|⟨h1',_⟩
 .rcases(mx e a b).1 d with rfl|⟨d,_⟩
  .exact yTs _
  .rw[yAs];exact f b d
 .rcases(mx e c b).1 d with rfl|⟨d,_⟩
  .exact f a h1'
  .exact g a h1' b d
theorem ZV(W:List Int):∀(q held d:List dw),kY held->kY (d++q)->(∀c∈held,c.mode=1\/c.mode=2)->(∀c∈d++q,c.mode=1\/c.mode=2) ->
  (∀a∈held,∀b∈held,lI a b=false)->(∀c∈d,qe held d c=false)->(∀c∈d++q,∀a∈held,lI a c=true->a.I<c.I\/a.I∈W)->(∀c∈d++q,∀o∈held,o.I=c.I->o.mode<c.mode) ->
  ri W ⟨(ja held d q).1,(ja held d q).2.1⟩
|[],held,d,g,j,F,u,E,D,A,s=>by
  simp only[cY]at *;exact⟨⟨g,j,F,u,s⟩,E,D,A⟩
|c::q,held,d,g,j,F,u,E,D,A,s=>by
  have z:=u c (by simp);unfold ja;split
  .rename_i C;obtain⟨O,N⟩:=Qi.1 C;have m:∀o∈d,o.I<c.I:=λo f=>(bg.1 j).2.2 o f c (by simp);have y:∀o∈q,c.I<o.I:=λo f=>bY (bg.1 j).2.1 f;have p:∀o,o∈d++q->o∈d++c::q:=λo f=>by
    rcases aM.1 f with e|e
    .exact aM.2 (.inl e)
    .exact aM.2 (.inr (bH _ e))
   have M:Over held (jx held c):=Vt g z (λo f e Q=>by have:=s c (by simp) o f e;omega);refine ZV W q (jx held c) d (FX g c) (j.sublist (by simp)) (λo f=>?_) (λo f=>u o (p o f)) (yAf (W:=W) (waits:=[]) g E O) (λo f=>OR (D o f) M (λ_ h _=>h)) (λo f a r K=>?_) (λo f a r e=>?_)
   .rcases(mx g c o).1 f with rfl|⟨f,_⟩
    .exact z
    .exact F o f
   .rcases(mx g c a).1 r with rfl|⟨r,_⟩
    .rcases aM.1 f with e|e
     .rw[yAs,N o e (m o e)]at K;cases K
     .exact .inl (y o e)
    .exact A o (p o f) a r K
   .rcases(mx g c a).1 r with rfl|⟨r,_⟩
    .exfalso;rcases aM.1 f with H|H
     .have:=m o H;omega
     .have:=y o H;omega
    .exact s o (p o f) a r e
  .rename_i C;simp only[Bool.not_eq_true]at C;have P:d++c::q=d++[c]++q:=by simp
   rw[P]at j u A s;have m:∀o∈d,o.I<c.I:=λo f=>(bg.1 (bg.1 j).1).2.2 o f c (by simp);refine ZV W q held (d++[c]) g j F u E (λo f=>?_) A s;rcases aM.1 f with e|e
   .exact OR (D o e) (Over.refl _) (λx J _=>aM.2 (.inl J))
   .simp at e;subst e;exact OR C (Over.refl _) (λx J _=>aM.2 (.inl J))
theorem yTe{k:fP}(h:ri W k)(t:Int):ri W (my k t):=by
 refine ZV W _ _ _ (Ea h.ok.held t) (by simpa using Ea h.ok.waits t) (λc d=>h.ok.hmode c (pD.1 d).1) (λc d=>h.ok.rH c ?_) (λa e b f=>h.alone a (pD.1 e).1 b (pD.1 f).1) (by simp) (λc d a e=>h.elder c ?_ a (pD.1 e).1) (λc d a e=>h.ok.wants c ?_ a (pD.1 e).1)
 .simp at d;exact(pD.1 d).1
 .simp at d;exact(pD.1 d).1
 .simp at d;exact(pD.1 d).1
theorem ri.less{k:fP}(h:ri (t::W) k)(g:∀c∈k.held,c.I≠t):ri W k:=
 ⟨h.ok,h.alone,h.stuck,λc j a d f=>(h.elder c j a d f).imp id (λe=>(bB.1 e).resolve_left (g a d))⟩
theorem yOc{k:fP}(h:ri W k)(F:c.mode=1\/c.mode=2):ri ((iz k c).2.2.1++W) (iz k c).1/\(∀x∈(iz k c).2.2.1,c.I<x):=by
 have g:=yQt h.ok F;revert g;unfold iz;split
 .exact λ_=>⟨by simpa using h,by simp⟩
 rename_i J;have E:jD k.waits c.I=0:=aS J;have m:=(IS h.ok.waits h.ok.w0).1 E;split
 .exact λ_=>⟨by simpa using h,by simp⟩
 rename_i N;have D:∀o∈k.held,o.I=c.I->o.mode<c.mode:=λo A e=>by
  have:=IE h.ok.held A;rw[e]at this;omega
 split
 .rename_i y;obtain⟨M,K⟩:=Qi.1 y;intro g;have z:Over k.held (jx k.held c):=Vt h.ok.held F (λo A e O=>by have:=D o A e;omega);refine⟨⟨g,yAf (W:=W) (waits:=[]) h.ok.held h.alone M,λd f=>OR (h.stuck d f) z (λ_ h _=>h),λd f a r j=>?_⟩,by simp⟩;rcases(mx h.ok.held c a).1 r with rfl|⟨r,_⟩
  .left;rcases Int.lt_trichotomy a.I d.I with q|q|q
   .exact q
   .rw[yAr q]at j;cases j
   .rw[yAs,K d f q]at j;cases j
  .exact(h.elder d f a r j).imp id (λe=>by simpa using e)
 rename_i y;simp only[Bool.not_eq_true]at y;split
 .exact λ_=>⟨by simpa using h,by simp⟩
 .intro g;have s:∀x,x∈AA k.held c↔∃o∈k.held,o.I=x/\c.I<x/\lI o c=true:=λx=>by
   unfold AA IH;simp only[aj,au,Bool.not_or,Bool.not_not,bX,dG,bc];constructor
   .rintro⟨o,⟨C,H,u⟩,rfl⟩;refine⟨o,C,rfl,?_,u⟩;have:o.I≠c.I:=λe=>by rw[yAr e]at u;cases u
    omega
   .rintro⟨o,C,rfl,H,u⟩;exact⟨o,⟨C,by omega,u⟩,rfl⟩
  refine⟨⟨g,h.alone,λd f=>?_,λd f a r j=>?_⟩,λx p=>?_⟩
  .rcases(mx h.ok.waits c d).1 f with rfl|⟨f,_⟩
   .exact OR y (Over.refl _) (λx p _=>(mx h.ok.waits d x).2 (.inr ⟨p,m x p⟩))
   .exact OR (h.stuck d f) (Over.refl _) (λx p _=>(mx h.ok.waits c x).2 (.inr ⟨p,m x p⟩))
  .rcases(mx h.ok.waits c d).1 f with rfl|⟨f,_⟩
   .rcases Int.lt_trichotomy a.I d.I with q|q|q
    .exact .inl q
    .rw[yAr q]at j;cases j
    .exact .inr (aM.2 (.inl ((s a.I).2 ⟨a,r,rfl,q,j⟩)))
   .exact(h.elder d f a r j).imp id (λe=>aM.2 (.inr e))
  .obtain⟨o,_,_,q,_⟩:=(s x).1 p;exact q
theorem ri.more{d:List Int}{k:fP}(h:ri W k)(f:∀x∈W,x∈d):ri d k:=
 ⟨h.ok,h.alone,h.stuck,λc g a j e=>(h.elder c g a j e).imp id (f _)⟩
theorem yTd{s:gU}(h:∀k,ri (t::W) (s k)):∀k,ri W (gg s t k):=λk=>by
 have d:=(yJx (h k).ok t).1;refine ri.less (t:=t) ?_ d;unfold gg;split
 .exact yTe (h k) t
 .exact h k
structure jS where
 nodes:List ec
 heard:Nat
structure jz where
 state:Int
 ats:List Int
 writes:List gB
 time:Int
structure dp where
 lines:List jS
 dead:List Int
 J:fS
 keys:gU
 U:List jz
def dp.A(h:dp)(k:Nat):jS:=h.lines.getD k ⟨[],0⟩
def dp.I(h:dp)(id:Nat):jz:=h.U.getD (id-1) ⟨0,[],[],0⟩
def dz(h:dp):Nat:=h.lines.length-1
def sumK(key:ByteArray):Nat:=key.toList.foldl (λa b=>a+b.toNat) 0
def fL(h:dp)(key:ByteArray):Nat:=sumK key % dz h
def gQ(h:dp)(n:ec):Bool:=!(decide (n.id∈h.dead))
def fc(h:dp)(k:Nat):List ec:=(h.A k).nodes.filter (gQ h)
def vV(h:dp)(k:Nat):Option ec:=match (h.A k).nodes with
|[]=>none
|n::_=>if gQ h n then some n else none
def tB(h:dp)(k:Nat)(l:jS):dp:={h with lines:=h.lines.set k l}
def kS(h:dp)(k j:Nat)(n:ec):dp:=tB h k ⟨(h.A k).nodes.set j n,(h.A k).heard⟩
def du(h:dp)(id:Nat)(t:jz):dp:={h with U:=h.U.set (id-1) t}
def sd(h:dp)(ms:List eG):dp:={h with J:=kp h.J ms}
def uU(h:dp)(id:Int):Bool:=decide (1<=id)&&decide (id<=(h.U.length:Int))
def iB(h:dp)(id:Int):Int:=if uU h id then(h.I id.toNat).state else 0
def oC(h:dp)(id:Int):Int:=if iB h id=0 then 7 else if iB h id=1 then 0 else 6
def oN(h:dp)(id:Int)(key:ByteArray):Int:=
 if oC h id≠0 then oC h id else if 20<key.size then 4 else if (vV h (fL h key)).isNone then 12 else 0
def pd(h:dp)(id:Int)(key:ByteArray):List Int:=
 ((List.range h.U.length).map λ(i:Nat)=>(i:Int)+1).filter λo=>decide (o≠id)&&decide (jD (h.keys key).held o≠0)
def qK(h:dp)(id:Int)(key:ByteArray):Bool:=!((pd h id key).any λo=>decide (o<id)||decide ((h.I o.toNat).state≠1))
def pA(h:dp)(id:Nat)(st:Int):dp:={du h id {h.I id with state:=st,writes:=[]}with keys:=gg h.keys id}
def gk(h:dp)(id:Nat):dp:=
 pA (if (h.I id).state=1 then du h id {h.I id with ats:=(h.I id).ats.map λ_=>0}else h) id 4
def jT(h:dp)(ids:List Int):dp:=ids.foldl (λh i=>if (h.I i.toNat).state=1 then gk h i.toNat else h) h
def iL(h:dp)(id:Int)(key:ByteArray)(mode:Int):dp×List Int×Int:=
 ({h with keys:=jo h.keys key (iz (h.keys key) ⟨id,mode⟩).1},(iz (h.keys key) ⟨id,mode⟩).2.2.1,(iz (h.keys key) ⟨id,mode⟩).2.2.2)
def jn(h:dp)(id:Int)(key:ByteArray)(mode:Int):dp×List Int×Int:=
 let a:=iL h id key mode
 if a.2.2=4/\qK a.1 id key=true then iL (jT a.1 (pd a.1 id key)) id key mode else a
def mq(h:dp)(id k:Nat):dp:=du h id {h.I id with ats:=(h.I id).ats.set k 1}
def gj(h:dp)(id:Int)(key:ByteArray)(mode:Int):dp×Int:=
 let a:=jn h id key mode
 if a.2.2=9 then(a.1,11)else if a.2.2=4 then(a.1,4)else
  let b:=jT (mq a.1 id.toNat (fL a.1 key)) a.2.1
  (b,if jD (b.keys key).held id<mode then 11 else 0)
def mC(e:List eH)(d tx:Int):Option Nat:=e.findIdx? λc=>decide (c.kind=d)&&decide (c.I=tx)
def qj(d:List eH):List gB:=(d.reverse.filter λc=>decide (c.kind=3)).flatMap λc=>((d.getD ((mC d 2 c.I).getD 0) tC).writes).reverse
def Iw(t:jz)(d:List eH):List gB:=t.writes.reverse++qj d
def Kh(t:jz)(d:List eH)(key:ByteArray):ByteArray×Bool:=match (Iw t d).find? λp=>decide (p.key=key)with
|none=>(ByteArray.empty,false)
|some p=>if p.gone then(ByteArray.empty,false)else(p.val,true)
def fG(h:dp)(id:Int)(key:ByteArray):dp×ByteArray×Bool×Int:=
 if oN h id key≠0 then(h,ByteArray.empty,false,oN h id key)else
  let a:=gj h id key 1
  if a.2≠0 then(a.1,ByteArray.empty,false,a.2)else
   let v:=Kh (a.1.I id.toNat) (((h.A (fL h key)).nodes.getD 0 ⟨0,0,[],[],0⟩).M) key
   (a.1,v.1,v.2,0)
def vg(t:jz)(key:ByteArray):Option Nat:=t.writes.findIdx? λp=>decide (p.key=key)
def vU(t:jz)(key:ByteArray):Bool:=decide (20<=t.writes.length)&&(vg t key).isNone
def oF(t:jz)(p:gB):jz:=match vg t p.key with
|some n=>{t with writes:=t.writes.set n p}
|none=>{t with writes:=t.writes++[p]}
def fg(h:dp)(id:Int)(p:gB):dp×Int:=
 if 40<p.val.size then(h,4)else if oN h id p.key≠0 then(h,oN h id p.key)
 else if vU (h.I id.toNat) p.key&&qK h id p.key then(h,4)
 else
  let a:=gj h id p.key 2
  if a.2≠0 then a else(du a.1 id.toNat (oF (a.1.I id.toNat) p),0)
def vn(h:dp)(t:jz)(k:Nat):List gB:=t.writes.filter λp=>decide (fL h p.key=k)
def ve(t:jz):Bool:=!(decide ((1:Int)∈t.ats))
def gF(h:dp)(id k:Nat)(d:Int):Option eH:=
 let t:=h.I id
 if k=dz h then(if t.state=2/\ve t=true then some ⟨3,id,d,[]⟩else none)
 else if t.ats.getD k 0=0 then none
 else if t.state=2 then some ⟨2,id,0,vn h t k⟩
 else if t.state=3 then some ⟨3,id,t.time,[]⟩
 else if t.state=4 then some ⟨4,id,0,[]⟩
 else none
def vF(n:ec)(c:eH):ec×List eG:=if nU n&&decide (n.M.length<500)then nc n c else(n,[])
def eU(h:dp)(k:Nat):ec:=(h.A k).nodes.getD 0 ⟨0,0,[],[],0⟩
def ny(h:dp)(k:Nat)(c:eH):dp:=sd (kS h k 0 (vF (eU h k) c).1) (vF (eU h k) c).2
def gY(h:dp)(k:Nat)(d:List eH)(id:Nat):dp:=match gF h id k ((eU h k).M.length+1)with
|none=>h
|some c=>if (mC d c.kind id).isNone then ny h k c else h
def fD(h:dp)(k:Nat):dp:=match vV h k with
|none=>h
|some n=>((List.range h.U.length).map (·+1)).foldl (λh id=>gY h k n.M id) h
def kR(h:dp):dp:=(List.range h.lines.length).foldl fD h
def qf(h:dp)(k:Nat):ec:=(h.A k).nodes.getLastD ⟨0,0,[],[],0⟩
def lX(h:dp)(k:Nat):List eH:=(qf h k).M.drop (h.A k).heard
def mj(h:dp)(k:Nat)(c:eH):dp:=
 if k=dz h then pA (du h c.I.toNat {h.I c.I.toNat with time:=c.time}) c.I.toNat 3
 else if c.kind=2 then du h c.I.toNat {h.I c.I.toNat with ats:=(h.I c.I.toNat).ats.set k 2}
 else h
def mw(k:Nat)(h:dp)(c:eH):dp:=tB (mj h k c) k ⟨((mj h k c).A k).nodes,((mj h k c).A k).heard+1⟩
def iI(h:dp)(k:Nat):dp:=(lX h k).foldl (mw k) h
def pZ(h:dp):dp:=(List.range h.lines.length).foldl iI h
def rp(h:dp):Bool:=(List.range h.lines.length).any λk=>!(lX h k).isEmpty
def fT:Nat->dp->dp
|0,h=>h
|n+1,h=>if rp h then fT n (kR (pZ h))else h
def nK(h:dp):dp:=fT (500*h.lines.length+1) h
open Classical in
noncomputable def BM(h:dp)(id:Int):Bool:=decide (∃k,(h.keys k).waits.any (λc=>decide (c.I=id))=true)
noncomputable def gK(h:dp)(id:Int):dp×Int:=
 if oC h id≠0 then(h,oC h id)else if BM h id then(h,11)
 else(nK (kR (du h id.toNat {h.I id.toNat with state:=2})),0)
def oz(h:dp)(id:Int):dp×Int:=if oC h id≠0 then(h,oC h id)else(gk h id.toNat,0)
def BI(h:dp)(ns:List ec)(id:Int):Option Nat:=ns.findIdx? λn=>gQ h n&&decide (n.id=id)
def yt(h:dp)(id:Int):Nat->List jS->Option (Nat×Nat)
|_,[]=>none
|k,l::d=>match BI h l.nodes id with
 |some j=>some (k,j)
 |none=>yt h id (k+1) d
def nf(h:dp)(id:Int):Option (Nat×Nat):=yt h id 0 h.lines
def eZ(h:dp)(k j:Nat):ec:=(h.A k).nodes.getD j ⟨0,0,[],[],0⟩
def mM(h:dp)(k j:Nat)(m:eG):dp:=sd (kS h k j (gV (eZ h k j) m).1) (gV (eZ h k j) m).2
def fa(h:dp)(k:Nat):dp:={h with J:=RU h.J k}
def jU(h:dp)(k:Nat):dp:=match h.J.way[k]? with
|none=>h
|some m=>match nf h m.C3 with
 |none=>fa h k
 |some (d,j)=>nK (mM (fa h k) d j m)
def fX(k:Nat)(h:dp)(j:Nat):dp:=if gQ h (eZ h k j)then sd (kS h k j (lH (eZ h k j)).1) (lH (eZ h k j)).2 else h
def fB(h:dp)(k:Nat):dp:=(List.range (h.A k).nodes.length).foldl (fX k) h
def kq(h:dp):dp:=(List.range h.lines.length).foldl fB h
def lD(h:dp):Nat:=((List.range h.lines.length).map λk=>((fc h k).map λn=>n.M.length).sum).sum
def FN(h:dp):Bool:=(List.range h.lines.length).all λk=>!(fc h k).isEmpty
def pJ(l:jS):Int:=(l.nodes.getD 0 ⟨0,0,[],[],0⟩).dv+1
def nj(l:jS):jS×List eG:=
 (⟨l.nodes.map λn=>(lH (jr n (pJ l) (l.nodes.map (·.id)))).1,l.heard⟩,l.nodes.flatMap λn=>(lH (jr n (pJ l) (l.nodes.map (·.id)))).2)
def kz(h:dp)(k i:Nat):Bool:=
 let t:=h.I (i+1)
 decide (t.ats.getD k 0≠0)&&(decide (t.state=1)||(decide (t.state=2)&&(mC (eU h k).M 2 ((i:Int)+1)).isNone))
def qg(h:dp)(k:Nat):dp:=(List.range h.U.length).foldl (λh i=>if kz h k i then gk h (i+1)else h) h
def ey(h:dp)(k:Nat):dp:=
 if (fc h k).length=0\/(fc h k).length=(h.A k).nodes.length then h
 else qg (sd (tB h k (nj ⟨fc h k,(h.A k).heard⟩).1) (nj ⟨fc h k,(h.A k).heard⟩).2) k
def ku(h:dp):dp:=nK (kR ((List.range h.lines.length).foldl ey h))
def qG(h:dp)(id:Int):dp×Int:=if (nf h id).isNone then(h,7)else({h with dead:=h.dead++[id],J:=Fb h.J id},0)
def QZ(id:Int):ec:=⟨id,0,[],[],0⟩
def pK(k nodes:Nat):jS×List eG:=nj ⟨(List.range nodes).map λ(i:Nat)=>QZ (10*(k:Int)+(i:Int)),0⟩
def iE(nodes:Nat):Nat->dp
|0=>⟨[],[],⟨[],0,[]⟩,λ_=>⟨[],[]⟩,[]⟩
|k+1=>let h:=iE nodes k;{h with lines:=h.lines++[(pK k nodes).1],J:=kp h.J (pK k nodes).2}
def fp(shards nodes:Nat):dp:=iE nodes (shards+1)
def mB(h:dp):dp:={h with U:=h.U++[⟨1,List.replicate h.lines.length 0,[],0⟩]}
def gD{α:Type}(w:World)(L sz:Nat)(R:α->List Value->Prop)(v:Value)(f:List α):Prop:=
 ∃a cap,v=.slice a f.length cap/\f.length<=cap/\cap<=maxLen /\
  (f=[]\/∃b e,a=some ⟨b,e,none⟩/\b<L/\∀(i:Nat) d,f[i]?=some d->∃g,R d g/\g.length=sz/\∀(j:Nat) x,g[j]?=some x->w.cell? ⟨b,e+i*sz+j,none⟩=some x)
theorem gD.mod{R p:α->List Value->Prop}{o:List α}(h:gD w L sz R v o)(y:Mod G w w')(C:∀k,k<L->¬G k)(A:∀d e,R d e->p d e):gD w' L sz p v o:=by
 obtain⟨a,cap,I,H,F,g⟩:=h;refine⟨a,cap,I,H,F,?_⟩;obtain g|⟨b,f,E,m,D⟩:=g
 .exact .inl g
 .refine .inr ⟨b,f,E,m,λi d z=>?_⟩;obtain⟨e,s,r,q⟩:=D i d z;exact⟨e,A d e s,r,λj x u=>y.cell (q j x u) (C b m)⟩
theorem gD.slice{R:α->List Value->Prop}{d:List α}(h:gD w L sz R v d):∃a cap,v=.slice a d.length cap/\d.length<=cap/\cap<=maxLen:=by
 obtain⟨a,cap,g,f,e,_⟩:=h;exact⟨a,cap,g,f,e⟩
theorem gD.at{R:α->List Value->Prop}{a:Option Addr}{o:List α}(h:gD w L sz R (.slice a n cap) o){d:α}(g:o[i]?=some d) :
  ∃b e f,a=some ⟨b,e,none⟩/\b<L/\R d f/\f.length=sz/\∀(j:Nat) x,f[j]?=some x->w.cell? ⟨b,e+i*sz+j,none⟩=some x:=by
 obtain⟨C,p,m,_,_,A⟩:=h;simp only[Value.slice.injEq]at m;obtain⟨rfl,_,_⟩:=m;obtain rfl|⟨b,e,z,y,u⟩:=A
 .simp at g
 .obtain⟨f,s,r,q⟩:=u i d g;exact⟨b,e,f,z,y,s,r,q⟩
theorem gD.nil(w:World)(L sz:Nat)(R:α->List Value->Prop):gD w L sz R (.slice none 0 0) []:=⟨none,0,rfl,aD _,aT _,.inl rfl⟩
section
variable {H:Type}{enc:TypeId×Value->H}{P:Program}{w:World}{base:Nat}{spare:Nat->Bool}{held:Bool}
theorem sl_plain{a:Addr}(h:w.cell? (a.add 0)=some v):∃b d,a=⟨b,d,none⟩:=by
 obtain⟨b,d,e⟩:=a;have f:e=none:=by simpa[Addr.add]using World.cell?_spot h
 exact⟨b,d,by rw[f]⟩
theorem open_slR[Inhabited α]{I u:TypeId}{R:α->List Value->Prop}(U:P.underlying I=some (.slice u))(T:P.cellsOf u=sz)(hz:0<sz)
  (hE:∀(n:Nat) (e:List Value) (x:DataW H×List MemPlace),DataW.trod enc P w base spare held n u e=some x->∃d,R d e)
  {s:Nat} {v:Value} {x:DataW H×List MemPlace} (h:DataW.trod enc P w base spare held s I [v]=some x):∃Z,gD w w.heap.size sz R v Z:=by
 rcases open_slice U h with⟨hcs,rfl⟩|⟨a,len,cap,m,n,D,Pl,hcs,hb,hl,hm,hmm,rfl,hx⟩
 .simp only[List.cons.injEq,and_true]at hcs;subst hcs;exact⟨[],gD.nil _ _ _ _⟩
 .simp only[List.cons.injEq,and_true]at hcs;subst hcs;have Q:len<=m:=by rw[hmm];split <;> omega
  rw[T]at hx;obtain⟨f,K⟩:=choose_lt (α:=α) (p:=λi d=>∃e,R d e/\e.length=sz/\∀(j:Nat) y,e[j]?=some y->w.cell? (a.add (i*sz+j))=some y) (n:=len) (λi A=>by
   obtain⟨o,Y,X⟩:=hx i (by omega);obtain⟨d,r⟩:=hE n o _ X;obtain⟨_,q,V⟩:=World.cells?_some Y;refine⟨d,o,r,q,λj y g=>?_⟩;have J:j<o.length:=(aB.1 g).1;have:=V j (by omega);rw[add_add]at this;rw[this];simpa using g)
  refine⟨(List.range len).map f,some a,cap,by simp,by simpa using hl,hm,?_⟩;by_cases h0:len=0
  .subst h0;exact .inl rfl
  .right;obtain⟨F,_,S,E⟩:=K 0 (by omega);obtain⟨y0,hy0⟩:∃y,F[0]?=some y:=⟨_,aA (by omega)⟩;have g:=E 0 y0 hy0;rw[cr,aY]at g;obtain⟨b,z,rfl⟩:=sl_plain g;refine⟨b,z,rfl,AC w _ (by rw[add_plain]at g;exact g),λi d r=>?_⟩;have A:i<len:=by
    have:=(aB.1 r).1;simpa using this
   have C:d=f i:=by
    rw[ah,cz A]at r;simpa using r.symm
   subst C;obtain⟨e,O,N,M⟩:=K i A;refine⟨e,O,N,λj y J=>?_⟩;have:=M j y J;rw[add_plain]at this;rw[cj];exact this
end
theorem dk{p:Prop}(h:p):Hid p:=h
def clmR(d:dw)(e:List Value):Prop:=e=[.int .i64 d.I,.int .i64 d.mode]
def yo(w:World)(L:Nat)(v:Value)(l:List dw):Prop:=gD w L 2 clmR v l
theorem yo.mod(h:yo w L v l)(d:Mod G w w')(e:∀k,k<L->¬G k):yo w' L v l:=gD.mod h d e (λ_ _ h=>h)
theorem yo.at{a:Option Addr}(h:yo w L (.slice a n cap) l){d:dw}(g:l[i]?=some d) :
  ∃b e,a=some ⟨b,e,none⟩/\b<L/\w.cell? ⟨b,e+i*2,none⟩=some (.int .i64 d.I)/\w.cell? ⟨b,e+i*2+1,none⟩=some (.int .i64 d.mode):=by
 obtain⟨b,e,o,m,j,rfl,_,f⟩:=gD.at h g;exact⟨b,e,m,j,by have:=f 0 _ rfl;simpa using this,f 1 _ rfl⟩
def rW(x y:Int):Int:=if x<y then -1 else if x > y then 1 else 0
theorem yEq(x:Int)(w:World):Calls Tryz.prog 180 #[.int .i64 x] w λe w'=>e=.returned (.bool false)/\w'=w:=by
 go_enter Tryz.func180,Tryz.ntmps180;go_wp2_with fail;go_ret;exact⟨by simp,rfl⟩
theorem yWt(x y:Int)(w:World):Calls Tryz.prog 170 #[.int .i64 x,.int .i64 y] w λe w'=>e=.returned (.int .i64 (rW x y))/\w'=w:=by
 have j:=dk (yEq x w);have h:=dk (yEq y w);have d:Hid (rW x y=if x<y then -1 else if x > y then 1 else 0):=rfl;generalize rW x y=z at d;by_cases g:x<y
 .have f:z = -1:=by rw[d.out,aK g]
  subst f;clear d;go_enter Tryz.func170,Tryz.ntmps170;go_wp2_with fail;refine j.out.mono ?_;rintro e w1⟨rfl,rfl⟩;go_wp2_with fail;refine h.out.mono ?_;rintro e w1⟨rfl,rfl⟩;go_wp2_with fail;go_ret;exact⟨rfl,rfl⟩
 .by_cases m:x > y
  .have f:z=1:=by rw[d.out,aH g,aK m]
   subst f;clear d;go_enter Tryz.func170,Tryz.ntmps170;go_wp2_with fail;refine j.out.mono ?_;rintro e w1⟨rfl,rfl⟩;go_wp2_with fail;refine h.out.mono ?_;rintro e w1⟨rfl,rfl⟩;go_wp2_with fail;go_ret;exact⟨rfl,rfl⟩
  .have f:z=0:=by rw[d.out,aH g,aH m]
   subst f;clear d;go_enter Tryz.func170,Tryz.ntmps170;go_wp2_with fail;refine j.out.mono ?_;rintro e w1⟨rfl,rfl⟩;go_wp2_with fail;refine h.out.mono ?_;rintro e w1⟨rfl,rfl⟩;go_wp2_with fail;go_ret;exact⟨rfl,rfl⟩
theorem zYz(d:dw)(t:Int)(w:World):Calls Tryz.prog 169 #[.agg #[.int .i64 d.I,.int .i64 d.mode],.int .i64 t] w λe w'=>e=.returned (.int .i64 (rW d.I t))/\Mod dt w w':=by
 have g:=λw'=>yWt d.I t w';have f:Hid (Mod dt w (w.alloc (.cells #[.int .i64 d.I,.int .i64 d.mode] 170))):=(Mod.refl _ w).alloc _;go_enter Tryz.func169,Tryz.ntmps169;go_wp2_with fail;refine(g _).mono ?_;rintro e w1⟨rfl,rfl⟩;go_wp2_with fail;go_ret;exact⟨rfl,f.out⟩
theorem yLb:rW x t<0↔x<t:=by
 unfold rW;split
 .simp;omega
 split
 .simp;omega
 .simp;omega
theorem ySk:rW x t=0↔x=t:=by
 unfold rW;split
 .simp;omega
 split
 .simp;omega
 .simp;omega
theorem yIy(L:Nat)(v:Value)(l:List dw)(t:Int)(w:World)(O:yo w L v l)(Y:kY l)(hl:l.length<=1000) :
  Calls Tryz.prog 168 #[v,.int .i64 t,.func (.func 169) #[] #[]] w λe w'=>e=.returned (.tuple #[.int .i64 (iH l t),.bool (nE l t)])/\Mod dt w w':=by
 have HV:=dk O;obtain⟨a,cap,rfl,hc1,hc2⟩:=gD.slice O;have C:=dk Y;clear O Y;go_enter Tryz.func168,Tryz.ntmps168;go_wp2_with fail;go_loopw [9,10] (λx y wr=>∃i j:Nat,x=.int .i64 i/\y=.int .i64 j/\i<=j/\j<=l.length/\(∀k d,k<i->l[k]?=some d->d.I<t)/\(∀k d,j<=k->l[k]?=some d->t<=d.I)/\Mod dt w wr) (λx y _=>(intOf y).toNat-(intOf x).toNat)
 case atStart=>exact⟨0,l.length,rfl,rfl,aT _,aD _,λk d h=>by omega,λk d h Q=>by have:=(aB.1 Q).1;omega,Mod.refl _ _⟩
 case round=>
  obtain⟨i,j,rfl,rfl,hij,Z,s,u,hM⟩:=hrel;have X:=dk s;have D:=dk u;have m:=dk hM;clear s u hM;by_cases f:i<j
  .obtain⟨h,hh⟩:∃h:Nat,h=(i+j) / 2:=⟨_,rfl⟩;have XT:h<l.length:=by omega
   obtain⟨d,hd⟩:∃d,l[h]?=some d:=⟨_,aA XT⟩;obtain⟨b,N,rfl,_,p,o⟩:=HV.out.at hd;have M:=m.out.cell p id;have K:=m.out.cell o id;have q:=dk (zYz d t wr);have HD:=dk hd;have jq:(i:Int)<(j:Int):=by omega
   have hhI:(h:Int)<(l.length:Int):=by omega
   have hh0:(0:Int)<=(h:Int):=by omega
   have U:Hid (((i:Int)+(j:Int)) / 2=(h:Int)):=(by omega:((i:Int)+(j:Int)) / 2=(h:Int));have E:=dk hh;clear hd p o hh;go_upto_region 5 with fail;rw[U.out];go_wp2_with fail;refine q.out.mono ?_;rintro e w5⟨rfl,A⟩;have F:=dk (m.out.trans A);clear A q M K;by_cases z:d.I<t
   .have R:decide (rW d.I t<0)=true:=aQ (yLb.2 z);go_wp2_with fail;go_roundw
    case rel=>
     refine⟨h+1,j,by go_num,rfl,by have:=E.out;omega,Z,λk S Q g=>?_,D.out,F.out⟩;have h1:=(CI C.out t h d HD.out).2 (by omega);exact(CI C.out t k S g).1 (by omega)
    case measure=>have:=E.out;simp[intOf];omega
   .have R:decide (rW d.I t<0)=false:=aN (λh=>z (yLb.1 h));go_wp2_with fail;go_roundw
    case rel=>
     refine⟨i,h,rfl,rfl,by have:=E.out;omega,by omega,X.out,λk S Q g=>?_,F.out⟩;have h1:=mt (CI C.out t h d HD.out).1 (by omega);have h2:=mt (CI C.out t k S g).2 (by omega);omega
    case measure=>have:=E.out;simp[intOf];omega
  .obtain rfl:i=j:=by omega
   have J:=dk (yQf C.out Z X.out D.out);clear f;by_cases f:i<l.length
   .obtain⟨d,hd⟩:∃d,l[i]?=some d:=⟨_,aA f⟩;obtain⟨b,N,rfl,_,p,o⟩:=HV.out.at hd;have M:=m.out.cell p id;have K:=m.out.cell o id;have V:Hid (nE l t=decide (d.I=t)):=by unfold nE;rw[J.out,hd];rfl
    have q:=dk (zYz d t wr);have zP:(i:Int)<(l.length:Int):=by omega
    have hi0:(0:Int)<=(i:Int):=by omega
    have r:(rW d.I t==0)=decide (d.I=t):=by rw[cR,beq_iff_eq,decide_eq_true_iff];exact ySk
    have T:=dk r;clear hd p o r;go_wp2_with fail;refine q.out.mono ?_;rintro e w5⟨rfl,A⟩;have F:=dk (m.out.trans A);clear A q M K;go_wp2_with fail;go_ret2;exact⟨by rw[J.out,V.out,<-T.out];rfl,F.out⟩
   .have V:Hid (nE l t=false):=by unfold nE;rw[J.out,aX (by omega)];rfl
    have zP:¬(i:Int)<(l.length:Int):=by omega
    go_wp2_with fail;go_ret2;exact⟨by rw[J.out,V.out];rfl,m.out⟩
theorem yDx(L:Nat)(v:Value)(l:List dw)(t:Int)(w:World)(d:yo w L v l)(f:kY l)(h:l.length<=1000) :
  Calls Tryz.prog 144 #[v,.int .i64 t] w λe w'=>e=.returned (.tuple #[.int .i64 (iH l t),.bool (nE l t)])/\Mod dt w w':=by
 have o:=dk (yIy L v l t w d f h);obtain⟨a,cap,rfl,m,j⟩:=gD.slice d;clear d f;go_enter Tryz.func144,Tryz.ntmps144;go_wp2_with fail;refine o.out.mono ?_;rintro e w1⟨rfl,g⟩;go_wp2_with fail;go_ret2;exact⟨rfl,g⟩
theorem RK(L:Nat)(v:Value)(l:List dw)(t:Int)(w:World)(h:yo w L v l)(r:kY l)(A:l.length<=1000) :
  Calls Tryz.prog 110 #[v,.int .i64 t] w λe w'=>e=.returned (.int .i64 (jD l t))/\Mod dt w w':=by
 have g:=dk (yDx L v l t w h r A);have F:=dk h;obtain⟨a,cap,rfl,D,C⟩:=gD.slice h;have p:=Wu l t;clear h r
 cases d:nE l t with
|true=>
  rw[d]at g;obtain⟨c,j,s⟩:=Rc d;have q:Hid (jD l t=c.mode):=by rw[Hid];unfold jD;rw[j];simp[s]
  obtain⟨b,y,rfl,_,u,m⟩:=F.out.at j;have o:iH l t<l.length:=(aB.1 j).1;generalize iH l t=n at g p m o;have J:(n:Int)<(l.length:Int):=by omega
  have z:(0:Int)<=(n:Int):=by omega
  clear d j s u;go_enter Tryz.func110,Tryz.ntmps110;go_wp2_with fail;refine g.out.mono ?_;rintro e w1⟨rfl,f⟩;have K:=f.cell m id;have I:=dk f;clear f m;go_wp2_with fail;go_ret;exact⟨by rw[q.out];rfl,I.out⟩
|false=>
  rw[d]at g;have q:Hid (jD l t=0):=by
   rw[Hid];unfold nE at d;unfold jD
   cases E:l[iH l t]? with
  |none=>rfl
  |some c=>rw[E]at d;simp at d;simp[d]
  clear d;go_enter Tryz.func110,Tryz.ntmps110;go_wp2_with fail;refine g.out.mono ?_;rintro e w1⟨rfl,f⟩;go_wp2_with fail;go_ret;exact⟨by rw[q.out];rfl,f⟩
def gC(d:dw):List Value:=[.int .i64 d.I,.int .i64 d.mode]
def fZ:List dw->List Value
|[]=>[]
|o::os=>gC o++fZ os
theorem zB:∀os,(fZ os).length=os.length*2
|[]=>rfl
|o::os=>by simp[fZ,gC,zB os];omega
theorem RO:∀a b,fZ (a++b)=fZ a++fZ b
|[],b=>by simp[fZ]
|p::a,b=>by simp[fZ,RO a b]
theorem RQ(d:dw):fZ [d]=gC d:=by simp[fZ]
theorem zPn:∀(os:List dw) (i:Nat),fZ (os.take i)=(fZ os).take (i*2)
|[],i=>by simp[fZ]
|o::os,0=>by simp[fZ]
|o::os,i+1=>by
  rw[az,fZ,fZ,zPn os i,show(i+1)*2=(gC o).length+i*2 by simp[gC];omega,List.take_length_add_append]
theorem zPo:∀(os:List dw) (i:Nat),fZ (os.drop i)=(fZ os).drop (i*2)
|[],i=>by simp[fZ]
|o::os,0=>by simp[fZ]
|o::os,i+1=>by
  rw[bb,fZ,zPo os i,show(i+1)*2=(gC o).length+i*2 by simp[gC];omega,List.drop_length_add_append]
theorem zPp:∀(os:List dw) (i:Nat) (o:dw),os[i]?=some o->∀j x,(gC o)[j]?=some x->(fZ os)[i*2+j]?=some x
|[],i,o,h,_,_,_=>by simp at h
|p::os,0,o,h,j,x,d=>by
  simp at h;subst h;have g:j<(gC p).length:=(aB.1 d).1;rw[fZ,cr,aY,aG g];exact d
|p::os,i+1,o,h,j,x,d=>by
  have e:=zPp os i o (by simpa using h) j x d;have f:(gC p).length=2:=rfl;rw[fZ,aL (by omega),f,show(i+1)*2+j-2=i*2+j by omega];exact e
def fe(w:World)(B:Nat)(v:Value)(os:List dw):Prop:=w.ownsRow B 170 2 v os.length (fZ os)
theorem fe.nO(h:fe w B v os)(s:w.heap.size<=L):yo w L v os:=by
 obtain⟨r,q⟩:=h;obtain⟨rfl,hn⟩|⟨g,cap,cur,rfl,q1,q2,q3,q4,q5,q6⟩:=q
 .have:os=[]:=aR hn;subst this;exact gD.nil _ _ _ _
 .have p:w.ownsRow B 170 2 (.slice (some ⟨g,0,none⟩) os.length cap) os.length (fZ os):=⟨r,.inr ⟨g,cap,cur,rfl,q1,q2,q3,q4,q5,q6⟩⟩;have d:=p.cells (g:=g) rfl;have m:g<w.heap.size:=(aF.1 q2).1;refine⟨_,cap,rfl,q3,q4,.inr ⟨g,0,rfl,by omega,λi o f=>⟨gC o,rfl,rfl,λj x e=>?_⟩⟩⟩;have:=d _ _ (zPp os i o f j x e);rw[A1,aY]at this;rw[aY];exact this
theorem fe.mod(h:fe w B v os)(d:Mod G w w')(f:∀k,v.ownBlock=some k->¬G k):fe w' B v os:=gO h d (λk _ _ e=>f k e)
theorem KZ:∀(os:List dw),∀u∈fZ os,u.oneCell'=true
|[],u,h=>by simp[fZ]at h
|o::os,u,h=>by
  rcases aM.1 h with h|h
  .simp[gC]at h;obtain rfl|rfl:=h <;> rfl
  .exact KZ os u h
theorem nN{e:TypeId}{xs:List Value}(h:w.ownsRow B e sz v n xs){k:Nat}(f:v.ownBlock=some k):B<=k/\k<w.heap.size/\∃d,w.heap[k]?=some (.cells d e (0,0)):=by
 obtain⟨rfl,_⟩|⟨g,cap,d,rfl,q1,q2,_⟩:=h.2
 .simp[Value.ownBlock]at f
 .simp[Value.ownBlock]at f;subst f;exact⟨q1,(aF.1 q2).1,d,q2⟩
theorem Tryz.oW:(Tryz.prog.info? 170).map (λi=>(i.zero,i.size,i.bytes))=some (some (.agg #[.int .i64 0,.int .i64 0]),2,16):=by kernel_rfl
end Go.Proofs.YtmaiggbnceejiaaGreatDoor
namespace Go.Proofs.YtmaiggbnceejiaaGreatDoor
open Go.RowKit Go.Lib Go.Maps Go.Shelf
variable {o:Oper}{g:Nat}
theorem zYv(w:World)(e:TypeId)(a:Nat):(w.alloc (.cells #[] e)).ownsRow w.heap.size e a (.slice (some ⟨w.heap.size,0,none⟩) 0 0) 0 []:=
 ⟨by simp,.inr ⟨w.heap.size,0,#[],rfl,aD _,A0 w _,aD _,by unfold maxLen;omega,by simp,by simp⟩⟩
theorem zNb{w0:World}{r:Array Oper}{rest:List Oper}{a:Act}{Q:Exit->Act->World->Prop}(y:o.guard=none)(s x:Operand)(t:TypeId)
  (H:o.op=.call {callee:=.builtin .append,args:=#[s,x],argTypes:=#[t,t]})
  (e:TypeId) (i:TypeInfo) (z:Value) (size bytes:Nat) (ht:Tryz.prog.underlying t=some (.slice e)) (S:Tryz.prog.info? e=some i) (L:i.zero=some z)
  (f:i.size=size) (E:i.bytes=bytes) (B:z.cells.size=size) (C:0<size)
  (v:∀(g:Nat) (a:Option Addr) (c:Nat) (J:TypeId) (w:World),(Builtin.append_ #[t,t] J #[.slice (some ⟨g,0,none⟩) 0 0,.slice a 0 c]).run Tryz.prog w=.ok (.slice (some ⟨g,0,none⟩) 0 0) w)
  (G:a.eval s=.slice (some ⟨w0.heap.size,0,none⟩) 0 0)
  (F:Option Addr) (m c:Nat) (news:List Value) (A:a.eval x=.slice F m c) (I:news.length=m*size) (k:m=0\/∃p,F=some p/\∀j u,news[j]?=some u->w0.cell? (p.add j)=some u) (W:∀u∈news,u.oneCell'=true)
  (V:m<=maxLen) (d:m*bytes<=140737488355328)
  (h:∀(g cap:Nat) q,q.ownsRow w0.heap.size e size (.slice (some ⟨g,0,none⟩) m cap) m news->Mod dt w0 q->wpList Tryz.prog r Q rest (a.put o.dst (.slice (some ⟨g,0,none⟩) m cap)) q) :
  wpList Tryz.prog r Q (o::rest) a (w0.alloc (.cells #[] e)):=by
 have l:Mod dt w0 (w0.alloc (.cells #[] e)):=(Mod.refl _ w0).alloc _;by_cases D:m=0
 .subst D;have P:news=[]:=aR (by simpa using I);subst P;refine A2 y λK U=>?_;have N:=v w0.heap.size F c o.type (w0.alloc (.cells #[] e));unfold Oper.wp execOp;simp only[H,resolve,invoke,builtin,Sem.run_bind,Sem.run_pure,Result.andThen_ok,cD,bZ,cO,G,A,N];exact U _ _ (h _ _ _ (zYv w0 e size) l)
 .obtain⟨p,rfl,T⟩:=k.resolve_left D;refine wpList_append_own _ y s x t H w0.heap.size e i z size bytes ht S L f E B C _ 0 [] G (zYv w0 e size) p m c news A I (λj u M=>l.cell (T j u M) id) W (by omega) (by rw[aY];exact d) (by simp) ?_;intro Y q b n O;have X:Mod dt w0 q:=l.grown n (λx A R=>by simp[Value.ownBlock]at A;omega);simp only[aY,aa]at b;obtain⟨e0,e1⟩|⟨g,cap,cur,rfl,_⟩:=b.2
  .exact absurd e1 D
  .exact h g cap q b X
theorem zXy(g:Nat)(a:Option Addr)(c:Nat)(b:TypeId)(w:World):(Builtin.append_ #[166,166] b #[.slice (some ⟨g,0,none⟩) 0 0,.slice a 0 c]).run Tryz.prog w=.ok (.slice (some ⟨g,0,none⟩) 0 0) w:=by
 cases a <;> kernel_rfl
theorem yNv(p:Addr)(m c:Nat)(l:List dw)(w:World)(s:m=l.length)(t:∀(j:Nat) u,(fZ l)[j]?=some u->w.cell? (p.add j)=some u)(D:l.length<=1000) :
  Calls Tryz.prog 152 #[.slice (some p) m c] w λe r=>∃g a,e=.returned (.slice (some ⟨g,0,none⟩) m a)/\r.ownsRow w.heap.size 170 2 (.slice (some ⟨g,0,none⟩) m a) m (fZ l)/\Mod dt w r:=by
 obtain⟨y,z,h,f,d⟩:=A3 Tryz.oW;have k:m<=maxLen:=by unfold maxLen;omega
 have n:m*16<=140737488355328:=by omega
 have v:Hid ((fZ l).length=m*2):=by rw[s];exact zB l
 have B:Hid (m=0\/∃q,some p=some q/\∀(j:Nat) u,(fZ l)[j]?=some u->w.cell? (q.add j)=some u):=.inr ⟨p,rfl,t⟩;have x:=dk (KZ l);have A:=run_eql_slice_nil (P:=Tryz.prog) w 166 170 (some p) m c 0 0 Tryz.underlying166;clear t s;go_enter Tryz.func152,Tryz.ntmps152;go_wp2_with (first
 |(at_builtin;(refine zNb (w0:=w) rfl _ _ 166 rfl 170 y _ 2 16 Tryz.underlying166 z h f d rfl (by omega) zXy rfl (some p) m c (fZ l) rfl v.out B.out x.out k n ?_))
 |fail)
 intro g a C b i;go_wp2_with fail;go_ret;exact⟨g,a,rfl,b,i⟩
def tt(a:List Value)(o:Nat):List Value->List Value
|[]=>a
|v::r=>tt (a.set o v) (o+1) r
theorem Qq:∀(b a:List Value) (o:Nat),o+b.length<=a.length->tt a o b=a.take o++b++a.drop (o+b.length)
|[],a,o,h=>by simp[tt]
|v::r,a,o,h=>by
  simp only[aW]at h;have c:o<a.length:=by omega
  rw[tt,Qq r (a.set o v) (o+1) (by rw[ai];omega)];have e:(a.set o v).take (o+1)=a.take o++[v]:=by
   rw[ax (by rw[ai];exact c),List.take_set_of_le (aD _),List.getElem_set_self]
  have d:(a.set o v).drop (o+1+r.length)=a.drop (o+(v::r).length):=by
   rw[List.drop_set_of_lt (by omega),aW,show o+1+r.length=o+(r.length+1) by omega]
  rw[e,d];simp
theorem dx.gZ{t:TypeId}:∀(b:List Value) (o:Nat) {w:World}{a:List Value},dx w g a t->dx (w.setCells g o b) g (tt a o b) t
|[],o,w,a,h=>h
|v::r,o,w,a,h=>by
  rw[World.setCells,tt];exact dx.gZ r (o+1) (h.set o v)
theorem Mod.gZ:∀(a:List Value) (o:Nat) (w:World),Mod (eQ g) w (w.setCells g o a)
|[],o,w=>Mod.refl _ _
|v::r,o,w=>by
  rw[World.setCells];exact(Mod.eE g o v).trans (Mod.gZ r (o+1) _)
theorem Wg(w:World)(q s r elem:TypeId)(b o d k:Nat)(a:Addr)(c f l:Nat)(e:List Value)
  (t:Tryz.prog.underlying q=some (.slice elem)) (p:(Tryz.prog.info? elem).map (·.size)=some l) (u:e.length=Nat.min c d*l)
  (h:∀j v,e[j]?=some v->w.cell? (a.add j)=some v) (A:∀j,j<e.length->(w.cell? ⟨b,o+j,none⟩).isSome=true) (z:∀j,j<e.length->w.frozen? ⟨b,o+j,none⟩=false) (B:∀v∈e,v.oneCell'=true) :
  (Builtin.copy_ #[q,s] r #[.slice (some ⟨b,o,none⟩) d k,.slice (some a) c f]).run Tryz.prog w=.ok (goInt (Nat.min c d)) (w.setCells b o e):=by
 have x:=run_loadCells_list (P:=Tryz.prog) w a e h;have m:=B3 (P:=Tryz.prog) b o e 0 w (by simpa using A) (by simpa using z) B
 cases n:Tryz.prog.info? elem with
|none=>simp[n]at p
|some i=>
  have y:i.size=l:=by simpa[n]using p
  simp[Builtin.copy_,run_underlying t,Builtin.lenOf,Builtin.firstCells,sizeOf,typeInfo,n,y,<-u,x,m]
theorem zQl{b:Array Oper}{a:Act}{w:World}{K:Act->World->Prop}{Q:Exit->Act->World->Prop}{E:Prop}
  (l:o.guard=none) (d x:Operand) (h f:TypeId) (c:o.op=Op.call {callee:=Callee.builtin Builtin.copy,args:=#[d,x],argTypes:=#[h,f]})
  (v u:Value) (m:a.eval d=v) (i:a.eval x=u) {e:Value} {w':World} (k:(Builtin.copy_ #[h,f] o.type #[v,u]).run Tryz.prog w=.ok e w') (n:K (a.put o.dst e) w') :
  if Region.wanted o (yielded b a.tmps)=true then Oper.wp Tryz.prog o a w K Q else E:=by
 have j:Region.wanted o (yielded b a.tmps)=true:=by simp[Region.wanted,l]
 rw[aK j];unfold Oper.wp;simp[execOp,c,resolve,invoke,builtin,m,i,k,Result.andThen];exact n
def OU(w:World)(B:Nat)(v:Value)(l:List dw)(i:Nat)(d:dw)(e:Ending)(w':World):Prop:=
 ∃u,e=.returned u/\w'.ownsRow B 170 2 u (l.length+1) (fZ (l.take i++d::l.drop i))/\Mod (λb=>v.ownBlock=some b) w w'/\(u.ownBlock=v.ownBlock\/∀b,u.ownBlock=some b->w.heap.size<=b)
theorem ZO(l:List dw)(i:Nat)(d:dw):fZ (l.take i++d::l.drop i)=(fZ l).take (i*2)++gC d++(fZ l).drop (i*2):=by
 rw[RO,fZ,zPn,zPo];simp
theorem yIa(B:Nat)(v:Value)(l:List dw)(d:dw)(k:Nat)(w:World)(f:w.ownsRow B 170 2 v l.length (fZ l))(h:dx w k (gC d) 170)(P:l.length<=1000)(hB:B<=w.heap.size) :
  Calls Tryz.prog 149 #[v,.int .i64 l.length,.slice (some ⟨k,0,none⟩) 1 1] w (OU w B v l l.length d):=by
 obtain⟨G,H,p,n,m⟩:=A3 Tryz.oW;have i:∃a c,v=.slice a l.length c/\l.length<=c/\c<=maxLen:=by
  obtain⟨rfl,h0⟩|⟨g,c,cur,rfl,_,_,h1,h2,_⟩:=f.2
  .exact⟨none,0,by rw[h0],by omega,aT _⟩
  .exact⟨_,c,rfl,h1,h2⟩
 obtain⟨a,c,rfl,I,r⟩:=i;have L:=dk f;have N:Hid (∀(j:Nat) u,(gC d)[j]?=some u->w.cell? ((⟨k,0,none⟩:Addr).add j)=some u):=λj u q=>by
  rw[A1,aY];exact h.cell j q
 have M:Hid (∀u∈gC d,u.oneCell'=true):=λu q=>KZ [d] u (by rw[RQ];exact q);have F:l.length+1<=maxLen:=by unfold maxLen;omega
 have E:(l.length+1)*16<=140737488355328:=by omega
 unfold maxLen at r;clear f h;go_enter Tryz.func149,Tryz.ntmps149;go_wp2_with (first
 |(at_builtin;refine B1 _ rfl _ _ 166 rfl B 170 G _ 2 16 Tryz.underlying166 H p n m rfl (by omega) _ _ _ rfl L.out ⟨k,0,none⟩ 1 1 (gC d) rfl rfl N.out M.out F E hB ?_)
 |fail)
 all_goals
  intro D C t y _ s;have J:Hid (Mod (λb=>(Value.slice a l.length c).ownBlock=some b) w C):=(Mod.refl _ w).grown y (λx z _=>by cases a <;> first|exact z|cases z);have K:=dk t;have O:=dk s;clear t y s;go_wp2_with fail;go_ret;refine⟨D,rfl,?_,J.out,O.out.imp (λe=>e.trans (by cases a <;> rfl)) (λe b A=>by rw[e]at A;simp at A;omega)⟩;rw[ZO,bM (by rw[zB];exact aD _),dF (by rw[zB];exact aD _),cY];exact K.out
theorem zSz(b:Nat)(a:List Value)(o:Nat)(w:World)(h:∀j,j<a.length->(w.cell? ⟨b,o+j,none⟩).isSome=true)(k:Nat)(c:(w.cell? ⟨b,k,none⟩).isSome=true):((w.setCells b o a).cell? ⟨b,k,none⟩).isSome=true:=by
 by_cases d:o<=k/\k<o+a.length
 .have:=World.cell?_setCells_in b a o w h (k-o) (by omega);rw[show o+(k-o)=k by omega]at this;rw[this];rfl
 .rw[World.cell?_setCells_out b a o w ⟨b,k,none⟩ (λ_ _=>by show k<o\/o+a.length<=k;omega)];exact c
theorem yUe:∀w,(Go.sizeOf 170).run Tryz.prog w=.ok 2 w:=λw=>by kernel_rfl
theorem yBx(B g cap:Nat)(l:List dw)(i:Nat)(d:dw)(q:Nat)(w:World)(s:w.ownsRow B 170 2 (.slice (some ⟨g,0,none⟩) l.length cap) l.length (fZ l))(hi:i<l.length)(A:l.length+1<=cap)(m:dx w q (gC d) 170)(G:q≠g)(hl:l.length<=1000)(hB:B<=w.heap.size) :
  Calls Tryz.prog 149 #[.slice (some ⟨g,0,none⟩) l.length cap,.int .i64 i,.slice (some ⟨q,0,none⟩) 1 1] w (OU w B (.slice (some ⟨g,0,none⟩) l.length cap) l i d):=by
 obtain⟨a,hBg,fz,hcm,hcs,hct⟩:∃a:Array Value,B<=g/\dx w g a.toList 170/\cap<=maxLen/\a.size=cap*2/\a.toList.take (l.length*2)=fZ l:=by
  obtain⟨e,_⟩|⟨g',cap',a,e,q1,q2,q3,q4,q5,q6⟩:=s.2
  .cases e
  .cases e
   exact⟨a,q1,by simpa[dx]using q2,q4,q5,q6⟩
 have z:(Tryz.prog.info? 170).map (·.size)=some 2:=by
  obtain⟨i0,Q,h0,h1,h2⟩:=A3 Tryz.oW;rw[Q];simp[h1]
 have n:=zB l;have f:∀j v,a.toList[j]?=some v->w.cell? ⟨g,j,none⟩=some v:=λj v h=>fz.cell j h;have p:∀j,j<cap*2->(w.cell? ⟨g,j,none⟩).isSome=true:=λj c=>by
  rw[f j _ (aA (by simp;omega))];rfl
 have C:∀j,w.frozen? ⟨g,j,none⟩=false:=λj=>fz.frozen j;have P:∀N S,(callFunc 172 #[.slice (some ⟨q,0,none⟩) 1 1,.slice (some ⟨g,(i+1)*2,none⟩) N S]).run Tryz.prog w=.ok (.value (.bool false)) w:=λN S=>by
  rw[run_callFunc_extern Tryz.func172 (by kernel_rfl) (by kernel_rfl) (by kernel_rfl) (e:=Extern.SlicesOverlaps.overlaps #[166,166] #[4]) (by kernel_rfl),
   Lib.run_overlaps_apart w 166 4 170 Tryz.underlying166 2 yUe ⟨q,0,none⟩ ⟨g,(i+1)*2,none⟩ 1 1 N S G 170 170 2 (cap*2) (by have:=m;unfold dx at this;simp[World.shape?,this,gC]) (by have:=fz;unfold dx at this;simp[World.shape?,this,hcs]) (by omega) (m.frozen 0) (m.frozen 2)]
  rfl
 have r:∀j v,((fZ l).drop (i*2))[j]?=some v->w.cell? ⟨g,i*2+j,none⟩=some v:=λj v c=>by
  rw[dC,<-hct,dB]at c;split at c
  .exact f _ v c
  .cases c
 have E:((fZ l).drop (i*2)).length=(l.length-i)*2:=by rw[bT,n];omega
 obtain⟨t,hW1⟩:∃t,t=w.drew.setCells g ((i+1)*2) ((fZ l).drop (i*2)):=⟨_,rfl⟩;have J:∀y D L,(Builtin.copy_ #[166,166] y #[.slice (some ⟨g,(i+1)*2,none⟩) (l.length-i) D,.slice (some ⟨g,i*2,none⟩) (l.length+1-i) L]).run Tryz.prog w.drew=.ok (goInt (Nat.min (l.length+1-i) (l.length-i))) t:=λy D L=>by
  rw[hW1];exact Wg w.drew _ _ y 170 g ((i+1)*2) _ D ⟨g,i*2,none⟩ _ L 2 ((fZ l).drop (i*2)) Tryz.underlying166 z (by rw[E];simp only[Nat.min_def];split <;> omega)
   (λj v c=>by rw[A1];exact r j v c)
   (λj c=>p _ (by omega)) (λj c=>C _) (λv hv=>KZ l v (cT hv))
 have F:∀(j:Nat) u,(gC d)[j]?=some u->w.cell? ⟨q,j,none⟩=some u:=λj u O=>m.cell j O;have X:∀k,k<cap*2->(t.cell? ⟨g,k,none⟩).isSome=true:=λk hk=>by
  rw[hW1];exact zSz g ((fZ l).drop (i*2)) ((i+1)*2) w.drew (λj c=>p _ (by rw[E]at c;omega)) k (p k hk)
 have I:∀(W:World),(∀x,W.cell? x=t.cell? x)->(∀x,W.frozen? x=t.frozen? x)->∀y D,(Builtin.copy_ #[166,166] y #[.slice (some ⟨g,i*2,none⟩) (l.length+1-i) D,.slice (some ⟨q,0,none⟩) 1 1]).run Tryz.prog W=.ok (goInt (Nat.min 1 (l.length+1-i))) (W.setCells g (i*2) (gC d)):=λW K R y D=>
  Wg W _ _ y 170 g (i*2) _ D ⟨q,0,none⟩ 1 1 2 (gC d) Tryz.underlying166 z (by simp only[Nat.min_def,gC];split <;> simp <;> omega)
   (λj v c=>by
    rw[A1,K,hW1,World.cell?_setCells_out g _ _ _ _ (λh _=>absurd h G),aY];exact F j v c)
   (λj c=>by rw[K];exact X _ (by simp[gC]at c;omega)) (λj c=>by rw[R,hW1,World.frozen?_setCells];exact C _) (λu O=>KZ [d] u (by rw[RQ];exact O))
 have BA:Hid (∀W:World,dx W g (tt a.toList ((i+1)*2) ((fZ l).drop (i*2))) 170->Mod (eQ g) w W->OU w B (.slice (some ⟨g,0,none⟩) l.length cap) l i d (.returned (.slice (some ⟨g,0,none⟩) (l.length+1) cap)) (W.setCells g (i*2) (gC d))):=λW hW hM=>by
  have iT:=hW.gZ (gC d) (i*2);have oK:(i+1)*2+((fZ l).drop (i*2)).length<=a.toList.length:=by rw[E];simp;omega
  have V:=Qq ((fZ l).drop (i*2)) a.toList ((i+1)*2) oK;have H:(tt a.toList ((i+1)*2) ((fZ l).drop (i*2))).length=cap*2:=by
   rw[V];simp;rw[E,hcs]at *;omega
  have U:=Qq (gC d) _ (i*2) (by rw[H];simp[gC];omega:i*2+(gC d).length<=(tt a.toList ((i+1)*2) ((fZ l).drop (i*2))).length);refine⟨_,rfl,⟨?_,.inr ⟨g,cap,(tt (tt a.toList ((i+1)*2) ((fZ l).drop (i*2))) (i*2) (gC d)).toArray,rfl,hBg,?_,A,hcm,?_,?_⟩⟩,?_,.inl rfl⟩
  .rw[zB];simp;omega
  .simpa[dx]using iT
  .rw[U];simp[H,gC];omega
  .rw[ZO,U,V];have t1:(a.toList.take ((i+1)*2)++(fZ l).drop (i*2)++a.toList.drop ((i+1)*2+((fZ l).drop (i*2)).length)).take (i*2)=(fZ l).take (i*2):=by
    rw[aV,bd (by simp;omega),List.take_take,<-hct,List.take_take];congr 1;simp only[Nat.min_def];split <;> split <;> omega
   have t2:(a.toList.take ((i+1)*2)++(fZ l).drop (i*2)++a.toList.drop ((i+1)*2+((fZ l).drop (i*2)).length)).drop (i*2+(gC d).length)=(fZ l).drop (i*2)++a.toList.drop ((i+1)*2+((fZ l).drop (i*2)).length):=by
    rw[aV,dL (by simp[gC];omega),dF (by simp[gC];omega),aa]
   rw[t1,t2];have Z:((fZ l).take (i*2)++gC d++(fZ l).drop (i*2)).length=(l.length+1)*2:=by simp[gC,n];omega
   show(((fZ l).take (i*2)++gC d++((fZ l).drop (i*2)++_))).take _=_;rw[<-aV,bd (by rw[Z];exact aD _),bM (by rw[Z];exact aD _)]
  .exact(hM.trans (Mod.gZ _ _ _)).mono (λb _ e=>by simp only[eQ]at e;rw[e];rfl)
 have Y:Hid (dx t g (tt a.toList ((i+1)*2) ((fZ l).drop (i*2))) 170/\Mod (eQ g) w t):=by
  rw[hW1];exact⟨dx.gZ _ _ (fz.mod ((Mod.refl dt w).drew) id),((Mod.refl _ w).drew).trans (Mod.gZ _ _ _)⟩
 have hz2:¬((i:Int)=(l.length:Int)):=by omega
 have T:cap<=9223372036854775807:=by unfold maxLen at hcm;omega
 have hw1:IntKind.i64.wrap ((i:Int)+1)=(i:Int)+1:=by rw[IntKind.wrap_i64];omega
 have htn:((i:Int)+1).toNat=i+1:=by omega
 have hb1:(0:Int)<=(i:Int)+1:=by omega
 have hin:i<=l.length:=by omega
 have oh:(i:Int)+1<=(l.length:Int)+1:=by omega
 have M:Tryz.prog.follows Departure.mixedOrders=true:=by kernel_rfl
 have hb2:¬(cap=i+1):=by omega
 have hb3:(i:Int)<=(l.length:Int)+1:=by omega
 have hb4:¬(cap=i):=by omega
 clear hW1 X F E r C p f n hct hcs fz s m z;go_enter Tryz.func149,Tryz.ntmps149;go_wp2_with (simp only[P])
 go_region_law_o (refine zQl rfl _ _ 166 166 rfl _ _ (by simp[Act.eval,Act.put]) (by simp[Act.eval,Act.put]) (J _ _ _) ?_)
 go_wp2_with (at_builtin;refine wpList_copy_atQ _ rfl _ _ 166 166 rfl _ _ rfl rfl (I _ (λ_=>rfl) (λ_=>rfl) _ _) ?_);go_ret;exact BA.out _ (Y.out.1) (Y.out.2)
theorem yEr(B g cap:Nat)(l:List dw)(i:Nat)(d:dw)(O:Nat)(w:World)(q:w.ownsRow B 170 2 (.slice (some ⟨g,0,none⟩) l.length cap) l.length (fZ l))(hi:i<l.length)(hnc:l.length<=cap)(z:cap<l.length+1)(x:dx w O (gC d) 170)(hl:l.length<=1000)(hB:B<=w.heap.size) :
  Calls Tryz.prog 149 #[.slice (some ⟨g,0,none⟩) l.length cap,.int .i64 i,.slice (some ⟨O,0,none⟩) 1 1] w (OU w B (.slice (some ⟨g,0,none⟩) l.length cap) l i d):=by
 obtain⟨i0,K,V,F,H⟩:=A3 Tryz.oW;have y:(Tryz.prog.info? 170).map (·.size)=some 2:=by rw[K];simp[F]
 have f:=zB l;have C:∀(j:Nat) v,(fZ l)[j]?=some v->w.cell? ⟨g,j,none⟩=some v:=λj v m=>by
  have:=q.cells (g:=g) rfl j v m;rw[A1,aY]at this;exact this
 have hgw:g<w.heap.size:=(nN q (k:=g) rfl).2.1;have hvw:=x.lt;have J:(l.length:Int)+1-(i:Int)=((l.length+1-i:Nat):Int):=by omega
 have A:i+(l.length+1-i)=l.length+1:=by omega
 have s:(Builtin.firstCells i0.size i (.slice (some ⟨g,0,none⟩) i cap)).run Tryz.prog w.drew=.ok ((fZ l).take (i*2)).toArray w.drew:=by
  rw[F];exact run_firstCells_some w.drew 2 i ⟨g,0,none⟩ i cap ((fZ l).take (i*2)) (by rw[af,f];omega) (λj v m=>by
   rw[A1,aY];rw[dB]at m;split at m
   .exact C j v m
   .cases m)
 have I:∀p,(Builtin.append_ #[166,3] p #[.slice (some ⟨g,0,none⟩) i cap,.int .i64 ((l.length:Int)+1-(i:Int))]).run Tryz.prog w =
   .ok (.slice (some ⟨w.heap.size,0,none⟩) (l.length+1) (grownCap w (l.length+1) cap 170)) (w.drew.alloc (.cells (((fZ l).take (i*2)).toArray++Builtin.zeroCells (Value.agg #[.int .i64 0,.int .i64 0]).cells (l.length+1-i)++Builtin.zeroCells (Value.agg #[.int .i64 0,.int .i64 0]).cells (grownCap w (l.length+1) cap 170-(l.length+1))) 170)):=λp=>by
  have h:=Lib.run_append_grow_zeros w 166 3 p 170 i0 _ .i64 .i64 Tryz.underlying166 Tryz.underlying3 K V (some ⟨g,0,none⟩) i cap ((fZ l).take (i*2)) s (l.length+1-i) (by omega) (by omega) (by omega) (by omega) (by rw[H];omega) (by rw[H,A];exact growslice_fits z (by omega));rw[A]at h;rw[J];exact h
 obtain⟨G,hG⟩:∃G,G=grownCap w (l.length+1) cap 170:=⟨_,rfl⟩;obtain⟨Z,hZ⟩:∃Z:List Value,Z=(Builtin.zeroCells (Value.agg #[.int .i64 0,.int .i64 0]).cells (l.length+1-i)).toList++(Builtin.zeroCells (Value.agg #[.int .i64 0,.int .i64 0]).cells (G-(l.length+1))).toList:=⟨_,rfl⟩;have X:l.length+1<=G:=by rw[hG];exact grownCap_ge w _ _ _
 have N:Z.length=(G-i)*2:=by rw[hZ];simp[Builtin.zeroCells,Value.cells];omega
 obtain⟨t,hW1⟩:∃t,t=w.drew.alloc (.cells (((fZ l).take (i*2)).toArray++Builtin.zeroCells (Value.agg #[.int .i64 0,.int .i64 0]).cells (l.length+1-i)++Builtin.zeroCells (Value.agg #[.int .i64 0,.int .i64 0]).cells (G-(l.length+1))) 170):=⟨_,rfl⟩;rw[<-hG,<-hW1]at I;have Q:dx t w.heap.size ((fZ l).take (i*2)++Z) 170:=by
  rw[hW1,hZ];have:=A0 w.drew (.cells (((fZ l).take (i*2)).toArray++Builtin.zeroCells (Value.agg #[.int .i64 0,.int .i64 0]).cells (l.length+1-i)++Builtin.zeroCells (Value.agg #[.int .i64 0,.int .i64 0]).cells (G-(l.length+1))) 170);have e:∀(a:List Value) (b c:Array Value),(a++(b.toList++c.toList)).toArray=a.toArray++b++c:=λa b c=>by apply Array.ext';simp
  unfold dx;rw[e];exact this
 have S:Mod dt w t:=by rw[hW1];exact((Mod.refl dt w).drew).alloc _
 have MO:((fZ l).take (i*2)++Z).length=G*2:=by rw[aE,N,af,f];omega
 have hN:∀j,j<G*2->(t.cell? ⟨w.heap.size,j,none⟩).isSome=true:=λj m=>by
  rw[Q.cell j (aA (by omega))];rfl
 obtain⟨n,hW2⟩:∃n,n=t.setCells w.heap.size (i*2) (gC d):=⟨_,rfl⟩;have M:∀p D,(Builtin.copy_ #[166,166] p #[.slice (some ⟨w.heap.size,i*2,none⟩) (l.length+1-i) D,.slice (some ⟨O,0,none⟩) 1 1]).run Tryz.prog t=.ok (goInt (Nat.min 1 (l.length+1-i))) n:=λp D=>by
  rw[hW2];exact Wg t _ _ p 170 w.heap.size (i*2) _ D ⟨O,0,none⟩ 1 1 2 (gC d) Tryz.underlying166 y (by simp only[Nat.min_def,gC];split <;> simp <;> omega)
   (λj v m=>by rw[A1,aY];exact S.cell (x.cell j m) id)
   (λj m=>hN _ (by simp[gC]at m;omega)) (λj m=>Q.frozen _) (λu hu=>KZ [d] u (by rw[RQ];exact hu))
 have P:dx n w.heap.size (tt ((fZ l).take (i*2)++Z) (i*2) (gC d)) 170:=by rw[hW2];exact Q.gZ _ _
 have U:Mod dt w n:=by rw[hW2];exact S.trans' (Mod.gZ _ _ _) (λb W e=>by simp only[eQ]at e;omega)
 have e1:=Qq (gC d) ((fZ l).take (i*2)++Z) (i*2) (by rw[MO];simp[gC];omega);have DT:(tt ((fZ l).take (i*2)++Z) (i*2) (gC d)).length=G*2:=by
  rw[e1];simp only[aE,af,bT]at *;simp only[gC,aW,bC];omega
 have E:((fZ l).drop (i*2)).length=(l.length-i)*2:=by rw[bT,f];omega
 have L:∀p D R,(Builtin.copy_ #[166,166] p #[.slice (some ⟨w.heap.size,(i+1)*2,none⟩) (l.length-i) D,.slice (some ⟨g,i*2,none⟩) (l.length-i) R]).run Tryz.prog n.drew=.ok (goInt (Nat.min (l.length-i) (l.length-i))) (n.drew.setCells w.heap.size ((i+1)*2) ((fZ l).drop (i*2))):=λp D R=>
  Wg n.drew _ _ p 170 w.heap.size ((i+1)*2) _ D ⟨g,i*2,none⟩ _ R 2 ((fZ l).drop (i*2)) Tryz.underlying166 y (by rw[E];simp only[Nat.min_def];split <;> omega)
   (λj v m=>by
    rw[A1];rw[dC]at m;exact U.cell (C _ v m) id)
   (λj m=>by
    have:=P.cell ((i+1)*2+j) (aA (by omega));show(n.cell? _).isSome=true;rw[this];rfl)
   (λj m=>P.frozen _) (λv hv=>KZ l v (cT hv))
 have BA:Hid (OU w B (.slice (some ⟨g,0,none⟩) l.length cap) l i d (.returned (.slice (some ⟨w.heap.size,0,none⟩) (l.length+1) G)) (n.drew.setCells w.heap.size ((i+1)*2) ((fZ l).drop (i*2)))):=by
  have mb:dx (n.drew.setCells w.heap.size ((i+1)*2) ((fZ l).drop (i*2))) w.heap.size _ 170:=dx.gZ ((fZ l).drop (i*2)) ((i+1)*2) (P.mod ((Mod.refl dt n).drew) id);have e2:=Qq ((fZ l).drop (i*2)) (tt ((fZ l).take (i*2)++Z) (i*2) (gC d)) ((i+1)*2) (by rw[DT,E];omega);have Y:G<=maxLen:=by rw[hG];exact grownCap_le_maxLen w (l.length+1) cap 170 (by unfold maxLen;omega)
  refine⟨_,rfl,⟨by rw[zB];simp;omega,.inr ⟨w.heap.size,G,(tt (tt ((fZ l).take (i*2)++Z) (i*2) (gC d)) ((i+1)*2) ((fZ l).drop (i*2))).toArray,rfl,hB,mb,X,Y,?_,?_⟩⟩,(U.drew.trans' (Mod.gZ _ _ _) (λb W e=>by simp only[eQ]at e;omega)).mono (λ_ _ e=>e.elim),.inr (λb W=>by simp[Value.ownBlock]at W;omega)⟩
  .rw[e2];simp only[bE,aE,af,bT,DT,f];omega
  .rw[ZO];show List.take _ (tt _ _ _)=_;rw[e2,e1];have r:((fZ l).take (i*2)).length=i*2:=by rw[af,f];omega
   have hx:(((fZ l).take (i*2)++Z).take (i*2)++gC d++((fZ l).take (i*2)++Z).drop (i*2+(gC d).length)).take ((i+1)*2)=(fZ l).take (i*2)++gC d:=by
    rw[bd (by simp[gC,r];omega),bM (by simp[gC,r];omega),bd (by omega),bM (by omega)]
   rw[hx,bd (by simp only[aE,r,E,gC,aW,bC];omega),bM (by simp only[aE,r,E,gC,aW,bC];omega)]
 have hz2:¬((i:Int)=(l.length:Int)):=by omega
 have hz3:(cap:Int)<(l.length:Int)+1:=by omega
 have hG63:G<=9223372036854775807:=by
  have:=grownCap_le_maxLen w (l.length+1) cap 170 (by unfold maxLen;omega);rw[<-hG]at this;unfold maxLen at this;omega
 have hw1:IntKind.i64.wrap ((i:Int)+1)=(i:Int)+1:=by rw[IntKind.wrap_i64];omega
 have htn:((i:Int)+1).toNat=i+1:=by omega
 have hb1:(0:Int)<=(i:Int)+1:=by omega
 have hin:i<=l.length:=by omega
 have oh:(i:Int)+1<=(l.length:Int)+1:=by omega
 have T:Tryz.prog.follows Departure.mixedOrders=true:=by kernel_rfl
 have hGi:¬(G=i):=by omega
 have hGim:¬(G=i+1):=by omega
 have hci:¬(cap=i):=by omega
 clear J A s hG hW1 hW2 Q S MO hN P U e1 DT E hZ N C q x y f;go_enter Tryz.func149,Tryz.ntmps149;go_wp2_with (first
 |(at_builtin;refine Lib.wpList_append_run _ rfl _ _ _ _ rfl _ _ rfl rfl _ _ (I _) ?_)
 |(at_builtin;refine wpList_copy_atQ _ rfl _ _ 166 166 rfl _ _ rfl rfl (M _ _) ?_))
 go_region_law_o (refine zQl rfl _ _ 166 166 rfl (.slice (some ⟨w.heap.size,(i+1)*2,none⟩) (l.length-i) (G-(i+1))) (.slice (some ⟨g,i*2,none⟩) (l.length-i) (cap-i)) (by simp[Act.eval,Act.put]) (by simp[Act.eval,Act.put]) (L _ (G-(i+1)) (cap-i)) ?_)
 go_wp2_with fail;go_ret;exact BA.out
theorem yIb(B:Nat)(v:Value)(l:List dw)(i:Nat)(d:dw)(f:Nat)(w:World)(b:w.ownsRow B 170 2 v l.length (fZ l))(q:i<=l.length)(c:dx w f (gC d) 170)(j:v.ownBlock≠some f)(k:l.length<=1000)(hB:B<=w.heap.size) :
  Calls Tryz.prog 149 #[v,.int .i64 i,.slice (some ⟨f,0,none⟩) 1 1] w (OU w B v l i d):=by
 by_cases m:i=l.length
 .subst m;exact yIa B v l d f w b c k hB
 .have h:∃g a,v=.slice (some ⟨g,0,none⟩) l.length a/\l.length<=a:=by
   obtain⟨rfl,h0⟩|⟨g,a,cur,rfl,_,_,m,n,_⟩:=b.2
   .omega
   .exact⟨g,a,rfl,m⟩
  obtain⟨g,a,rfl,p⟩:=h;by_cases n:l.length+1<=a
  .exact yBx B g a l i d f w b (by omega) n c (λe=>j (by rw[e];rfl)) k hB
  .exact yEr B g a l i d f w b (by omega) p (by omega) c k hB
