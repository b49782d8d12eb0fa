import Derived.Test.YtmaiggbnceejiaaGreatDoorL30
set_option linter.unusedVariables false
set_option maxRecDepth 100000
set_option maxHeartbeats 16000000
namespace Go.Proofs.YtmaiggbnceejiaaGreatDoor
open Go.RowKit Go.Lib Go.Maps
variable {s:dp}{k i B n c gs g b cap xb:Nat}{w w' w7:World}{L:Lo}{v xv u v7:Value}{G:Nat->Prop}{y:dq}{vs:List Value}{t:eY}
theorem Tryz.LP:(Tryz.prog.info? 62).map (λi=>(i.zero,i.size,i.bytes))=some (some (.slice none 0 0),1,24):=by kernel_rfl
def CD(s:dp)(k i:Nat):List (List eH):=((ig s k).take i).map λj=>(eZ s k j).M
def Ih(s:dp)(k:Nat):List (List eH):=(fc s k).map λ(x:ec)=>x.M
theorem yMs{j:Nat}(h:(ig s k)[i]?=some j):CD s k (i+1)=CD s k i++[(eZ s k j).M]:=by unfold CD;rw[rq h,ay];rfl
theorem yQs(s:dp)(k:Nat):CD s k (ig s k).length=Ih s k:=by unfold CD Ih;rw[bQ,<-WE,dW];rfl
theorem yQr(s:dp)(k:Nat)(h:i<=(ig s k).length):(CD s k i).length=i:=by unfold CD;rw[ao,af];omega
def yX(w:World)(B:Nat)(L:Lo)(v:Value)(d:List (List eH)):Prop:=∃a:List Value,a.length=d.length/\w.ownsRow B 62 1 v d.length a/\∀(i:Nat) l u,d[i]?=some l->a[i]?=some u->iF w L u l/\∀z,u.ownBlock=some z->B<=z
theorem yX.nil(w:World)(B:Nat)(L:Lo):yX w B L (.slice none 0 0) []:=⟨[],rfl,A6 _ _ _ _,λi l u h=>by simp at h⟩
theorem iF.one'{d:List eH}(h:iF w L v d):v.oneCell'=true:=by obtain⟨a,cap,rfl⟩:=h.slice;rfl
theorem yVn(n c g:Nat)(y:dq)(s:dp)(k:Nat)(w:World)(h:eJ w n c g y s)(X:Safe s)(hk:k<s.lines.length) :
  Calls Tryz.prog 21 #[.pointer (some ⟨g,0,none⟩),.int .i64 k] w λe w'=>∃v,e=.returned (.tuple #[v,.nilIface])/\yX w' w.heap.size (y.lo n) v (Ih s k)/\Mod dt w w':=by
 obtain⟨i0,hi,hz0,hz1,hz2⟩:=A3 Tryz.LP;obtain⟨c0,-⟩:=kX h.Z;obtain⟨la,fQ,U⟩:=fU h.gN;have hll:=X.ll;have V:=h.ir;rw[U,V]at c0;obtain⟨b,hb,hL⟩:=h.nQ hk;have wA:=dk (WR n c g y s k b w h X.shape hk hb);have ry:decide ((k:Int)<0)=false:=aN (by omega);have hk1:decide ((k:Int) ≥ (s.lines.length:Int))=false:=aN (by omega);have kt:=h.low;have hgl:=h.Z.lt;have HH:=dk h;have HS:=dk X;have HB:=dk hb;have hl4:(ig s k).length<=4:=by
  rw[RJ];have H:(fc s k).length<=(s.A k).nodes.length:=bD _ _;have:=X.oV hk;omega
 clear h X hb hL U;go_enter Tryz.func21,Tryz.ntmps21;go_upto_region 5 with(first
 |(go_at_call 46;refine wA.out.mono ?_;rintro e w1⟨v,rfl,hv,dy⟩;(have hvv:∃va vc,v=.slice va (ig s k).length vc:=(by obtain⟨va,vc,e,_⟩:=hv;exact⟨va,vc,e⟩));obtain⟨va,vc,lL⟩:=hvv;subst lL)
 |fail)
 have HV:=dk hv;have fh:=dk dy;clear hv dy wA c0;go_loopw [6,25] (λtv i1 wr=>∃(i:Nat),i<=(ig s k).length/\i1=.int .i64 i/\yX wr w1.heap.size (y.lo n) tv (CD s k i)/\Mod dt w wr/\Mod dt w1 wr) (λ_ i1 _=>(ig s k).length-(intOf i1).toNat)
 case atStart=>exact⟨0,aT _,rfl,yX.nil _ _ _,fh.out,Mod.refl _ _⟩
 case round=>
  obtain⟨i,hil,rfl,hR,Y,J⟩:=hrel;obtain⟨wo,hwo⟩:∃x,x=wr:=⟨_,rfl⟩;subst hwo;obtain⟨us,Q,f,p⟩:=hR;have K:=yQr s k hil;rw[K]at f Q;obtain⟨ta,gz,pj⟩:=fU f;subst pj;by_cases hlt:i<(ig s k).length
  .obtain⟨j,hj⟩:∃j,(ig s k)[i]?=some j:=⟨_,aA hlt⟩;obtain⟨va',vc',e1,e2⟩:=HV.out;simp only[Value.slice.injEq]at e1;obtain⟨e1,-,-⟩:=e1;subst e1;obtain⟨lg,d,rfl,hd,hc,-⟩:=e2 i j hj;have lO:=HH.out.quiet Y;have hN:=lO.nP HB.out (aC hd);rw[lO.lU HB.out (nM hk) hd (qM (IQ hj).1)]at hN;have tk:=dk (Qf _ _ _ _ _ _ hN);have hci:=J.cell hc (λe=>e);have zP:(i:Int)<((ig s k).length:Int):=by omega
   have hi00:(0:Int)<=(i:Int):=by omega
   have kg:=dk (yMs hj);have gG:=dk f;have KA:=dk p;have HM:=dk Y;have Dq:=dk J;have F:=dk Q;have zZ:=dk K;have Cd:=J.size;have hzw1:=fh.out.size;clear lO hN Y J hj hd hc e2 f p Q K;generalize (eZ s k j).M=lj at tk kg;go_upto_region 7 with fail;go_wp2_with fail;refine tk.out.mono ?_;rintro e r⟨C,rfl,DT,W,T⟩;have R:=DT.one';obtain⟨a2,cap2,hv2⟩:=DT.slice;have D:Mod dt wo (r.alloc (.cells #[C] 62)):=T.alloc _;obtain⟨v7,w7,gT,eX,eh,_,ib⟩:=C0 (P:=Tryz.prog) (r.alloc (.cells #[C] 62)) w1.heap.size 58 58 62 i0 _ 1 24 Tryz.underlying58 hi hz0 hz1 hz2 rfl (by omega) _ _ _ (gO gG.out D (λ_ _ _ _ e=>e)) ⟨r.heap.size,0,none⟩ 1 1 [C] rfl (A7 (A0 r _)) (by intro u o;simp at o;rw[o];exact R) (by unfold maxLen;omega) (by omega) (by have:=D.size;omega);obtain⟨a7,fV,qQ⟩:=fU eX;subst qQ;have a:=gO gG.out D (λ_ _ _ _ e=>e);have N:Mod (λz=>(Value.slice ta i gz).ownBlock=some z) (r.alloc (.cells #[C] 62)) w7:=(Mod.refl _ _).grown eh (λx hx _=>hx);have Lh:Qm (r.alloc (.cells #[C] 62)) (y.lo n) (λz=>(Value.slice ta i gz).ownBlock=some z):=Qm.row a (by show n<=w1.heap.size;have:=fh.out.size;omega) (by decide);have I:Hid (yX w7 w1.heap.size (y.lo n) (.slice a7 (i+1) fV) (CD s k (i+1))/\Mod dt w w7/\Mod dt w1 w7):=by
    have S:∀{u:Value} {l:List eH},iF (r.alloc (.cells #[C] 62)) (y.lo n) u l->∀z,u.ownBlock=some z->(Value.slice ta i gz).ownBlock≠some z:=λ{u l} o z m q=>by
     obtain⟨_,_,cur,fz⟩:=fs a q;obtain⟨AM,_,h3,_⟩:=o;obtain⟨_,_,lr,H⟩:=fs h3 m;rw[fz]at H;simp at H
    have hfin:∀{G:World},Mod dt G wo->w.heap.size<=G.heap.size\/True->Mod dt G (r.alloc (.cells #[C] 62)):=λh _=>h.trans D;refine⟨⟨us++[C],by rw[aE,F.out,kg.out,aE,zZ.out];rfl,?_,λx l u E o=>?_⟩,?_,?_⟩
    .rw[kg.out,aE,zZ.out];exact eX
    .rw[kg.out]at E;have hlen1:(CD s k i).length=i:=zZ.out;have ui:us.length=i:=F.out;by_cases hx:x<i
     .rw[aG (by omega)]at E;rw[aG (by omega)]at o;obtain⟨q1,q2⟩:=KA.out x l u E o;have O:=q1.mod D (Qm.none _ _) (λ_ _ e=>e);exact⟨O.mod N Lh (λz m=>S O z m),q2⟩
     .rw[aL (by omega)]at E o;have hx0:x-(CD s k i).length=0:=by
       have:=(aB.1 E).1;simp at this;omega
      rw[hx0]at E;rw[show x-us.length=0 by omega]at o;simp at E o;subst E o;have O:=DT.mod ((Mod.refl dt r).alloc (.cells #[C] 62)) (Qm.none _ _) (λ_ _ e=>e);exact⟨O.mod N Lh (λz m=>S O z m),λz m=>aO Cd (W z m)⟩
    .exact(HM.out.trans D).trans' N (λz m q=>by have:=(fs a q).1;omega)
    .exact(Dq.out.trans D).trans' N (λz m q=>by have:=(fs a q).1;omega)
   subst hv2;clear DT W T D eX eh ib a N Lh tk gG KA HM Dq F hci;go_wp2_with (first
   |(at_builtin;refine RN rfl (yz (s:=.tmp 29) (x:=.tmp 32) (t:=58) rfl (by go_simp) (by go_simp) gT) ?_)
   |fail)
   go_roundw
   case rel=>exact⟨i+1,by omega,by go_num,I.out.1,I.out.2.1,I.out.2.2⟩
   case measure=>simp[intOf];omega
  .obtain rfl:i=(ig s k).length:=by omega
   have I:Hid (yX wo w.heap.size (y.lo n) (.slice ta (ig s k).length gz) (Ih s k)/\Mod dt w wo):=by
    unfold Hid;rw[<-yQs];exact⟨⟨us,by rw[K];exact Q,by rw[K];exact vl f fh.out.size,λx l u h1 H=>⟨(p x l u h1 H).1,λz m=>aO fh.out.size ((p x l u h1 H).2 z m)⟩⟩,Y⟩
   clear Y J f p Q;go_wp2_with fail;go_ret2;exact⟨_,rfl,I.out.1,I.out.2⟩
theorem yTg(n c g:Nat)(y:dq)(s:dp)(w:World)(h:eJ w n c g y s)(I:Safe s) :
  Calls Tryz.prog 17 #[.pointer (some ⟨g,0,none⟩)] w λe w'=>e=.returned (.bool (FN s))/\Mod dt w w':=by
 obtain⟨T,-⟩:=kX h.Z;obtain⟨la,fQ,p⟩:=fU h.gN;have P:=I.ll;have q:=h.ir;rw[p,q]at T;have X:=dk h;have W:=dk I;clear h I p;go_enter Tryz.func17,Tryz.ntmps17;go_wp2_with fail;go_loopw [9] (λE wr=>∃(k:Nat),k<=s.lines.length/\E=.int .i64 k/\(∀i,i<k->fc s i≠[])/\Mod dt w wr) (λE _=>s.lines.length-(intOf E).toNat)
 case atStart=>exact⟨0,aT _,rfl,λi H=>by omega,Mod.refl _ _⟩
 case round=>
  obtain⟨k,Q,rfl,f,r⟩:=hrel;obtain⟨wo,hwo⟩:∃x,x=wr:=⟨_,rfl⟩;subst hwo;by_cases l:k<s.lines.length
  .have J:=X.out.quiet r;obtain⟨b,O,R⟩:=J.nQ l;have A:=dk (WR n c g y s k b wo J W.out.shape l O);have Y:(k:Int)<(s.lines.length:Int):=by omega
   have ry:(0:Int)<=(k:Int):=by omega
   have C:=dk r;have U:=dk f;have N:=dk (RJ s k);clear J R O r f;by_cases m:fc s k=[]
   .have F:(((ig s k).length:Int)==0)=true:=by rw[N.out,m];rfl
    have M:Hid (FN s=false):=by
     unfold Hid FN;rw[List.all_eq_false];exact⟨k,bV.2 l,by rw[m];simp⟩
    clear m;go_wp2_with fail;refine A.out.mono ?_;rintro e w1⟨v,rfl,o,z⟩;have j:∃d a,v=.slice d (ig s k).length a:=by obtain⟨d,a,e,_⟩:=o;exact⟨d,a,e⟩
    obtain⟨d,a,D⟩:=j;subst D;have K:=dk (C.out.trans z);clear o z A;go_wp2_with fail;go_ret;exact⟨by rw[M.out];rfl,K.out⟩
   .have F:(((ig s k).length:Int)==0)=false:=by
     have:(ig s k).length≠0:=λe=>m (aR (by rw[<-N.out];exact e));have S:((ig s k).length:Int)≠0:=by omega
     simpa using S
    have V:Hid (∀i,i<k+1->fc s i≠[]):=λi H=>by
     by_cases e:i=k
     .rw[e];exact m
     .exact U.out i (by omega)
    clear m;go_wp2_with fail;refine A.out.mono ?_;rintro e w1⟨v,rfl,o,z⟩;have j:∃d a,v=.slice d (ig s k).length a:=by obtain⟨d,a,e,_⟩:=o;exact⟨d,a,e⟩
    obtain⟨d,a,D⟩:=j;subst D;have K:=dk (C.out.trans z);clear o z A;go_wp2_with fail;go_roundw
    case rel=>exact⟨k+1,by omega,by go_num,V.out,K.out⟩
    case measure=>simp[intOf];omega
  .obtain rfl:k=s.lines.length:=by omega
   have M:Hid (FN s=true):=by
    unfold Hid FN;rw[List.all_eq_true];intro i H;have:=f i (bV.1 H);simpa using this
   have C:=dk r;clear r f;go_wp2_with fail;go_ret;exact⟨by rw[M.out];rfl,C.out⟩
def nG(w:World)(B:Nat)(v:Value)(os:List fm):Prop:=w.ownsRow B 51 4 v os.length (uN os)
theorem nG.mod{os:List fm}(h:nG w B v os)(a:Mod G w w')(d:∀k,v.ownBlock=some k->¬G k):nG w' B v os:=gO h a (λk _ _ e=>d k e)
structure eF where
 h:dp
 U:List eY
 now:Int
 safe:Bool
 nodes:Nat
def yAw(g:Nat)(xv:Value)(s:eF):List Value:=[.pointer (some ⟨g,0,none⟩),xv,.int .i64 s.now,.bool s.safe,.int .i64 s.nodes]
structure fI(w:World)(n c gs g:Nat)(y:dq)(xv:Value)(vs:List Value)(s:eF):Prop where
 Z:dx w gs (yAw g xv s) 37
 house:eJ w n c g y s.h
 row:jt 46 w n xv s.U vs
 ops:∀(i:Nat) t u,s.U[i]?=some t->vs[i]?=some u->nG w n u t.ops
 no:y.own gs=.no
 JC:∀k,xv.ownBlock=some k->y.own k=.no
 Fz:∀u∈vs,∀k,u.ownBlock=some k->y.own k=.no
 apart:∀(i j:Nat) u v k,vs[i]?=some u->vs[j]?=some v->u.ownBlock=some k->v.ownBlock=some k->i=j
theorem fI.JB{s:eF}(h:fI w n c gs g y xv vs s)(e:u∈vs):∃(i:Nat) (t:eY),s.U[i]?=some t/\vs[i]?=some u/\nG w n u t.ops:=by
 obtain⟨i,d⟩:=aP e;have a:i<s.U.length:=by have:=(aB.1 d).1;have:=h.row.1;omega
 exact⟨i,_,aA a,d,h.ops i _ u (aA a) d⟩
theorem fI.step{c':Nat}{j:dq}{s:eF}(h:fI w n c gs g y xv vs s)(f:il w y w' j){o:dp}(z:eJ w' n c' g j o):fI w' n c' gs g j xv vs {s with h:=o}:=by
 have p:∀k,xv.ownBlock=some k->k<w.heap.size:=λk a=>by obtain⟨_,_,m,l⟩:=fs h.row.2 a;exact(aF.1 l).1
 have r:∀u∈vs,∀k,u.ownBlock=some k->k<w.heap.size:=λu d k a=>by
  obtain⟨i,t,_,_,q⟩:=h.JB d;obtain⟨_,_,m,l⟩:=fs q a;exact(aF.1 l).1
 exact⟨f.Z h.Z h.no,z,h.row.mod f.md (λk a e=>e (h.JC k a)),λi t u x d=>(h.ops i t u x d).mod f.md (λk a e=>e (h.Fz u (aC d) k a)),
  (f.old gs h.Z.lt).trans h.no,λk a=>(f.old k (p k a)).trans (h.JC k a),λu d k a=>(f.old k (r u d k a)).trans (h.Fz u d k a),h.apart⟩
theorem fI.quiet{s:eF}(h:fI w n c gs g y xv vs s)(a:Mod dt w w'):fI w' n c gs g y xv vs s:=h.step (il.quiet a) (h.house.quiet a)
theorem gb{s:eF}(h:dx w gs (yAw g xv s) 37) :
  w.cell? ⟨gs,0,none⟩=some (.pointer (some ⟨g,0,none⟩))/\w.cell? ⟨gs,1,none⟩=some xv/\w.cell? ⟨gs,2,none⟩=some (.int .i64 s.now)/\w.cell? ⟨gs,3,none⟩=some (.bool s.safe)/\w.cell? ⟨gs,4,none⟩=some (.int .i64 s.nodes):=
 ⟨h.cell 0 rfl,h.cell 1 rfl,h.cell 2 rfl,h.cell 3 rfl,h.cell 4 rfl⟩
def CF(s:eF)(a node:Nat):dp:=if 1<(Ih s.h a).length\/s.safe=false then(qG s.h (10*a+node:Nat)).1 else s.h
theorem yRy(n c gs g:Nat)(y:dq)(xv:Value)(vs:List Value)(s:eF)(k j:Nat)(w:World)(h:fI w n c gs g y xv vs s)(hS:Safe s.h)(C:mo s.h)(hk:k<s.h.lines.length)(hk3:k<3)(hj:j<3)(I:s.h.dead.length<=1000)(H:s.h.J.down.length<=1000)(D:s.h.J.lost+200<=4611686018427387904) :
  Calls Tryz.prog 32 #[.pointer (some ⟨gs,0,none⟩),.int .i64 k,.int .i64 j] w λe w'=>e=.returned (.tuple #[])/\∃a,fI w' n c gs g a xv vs {s with h:=CF s k j}/\il w y w' a:=by
 obtain⟨S,c1,c2,R,c4⟩:=gb h.Z;have N:=dk (yVn n c g y s.h k w h.house hS hk);have HH:=dk h;have F:=h.Z.lt;have U:Hid (∀x,Mod dt w x->Calls Tryz.prog 60 #[.pointer (some ⟨g,0,none⟩),.int .i64 (10*(k:Int)+j)] x λe w'=>∃K,e=.returned K/\∃a,fI w' n c gs g a xv vs {s with h:=(qG s.h (10*k+j:Nat)).1}/\il w y w' a):=λx f=>by
  have:=yWi n c g y s.h (10*k+j:Nat) x (h.house.quiet f) C (by unfold gi;omega) I H D;rw[show((10*k+j:Nat):Int)=10*(k:Int)+j by omega]at this⊢;refine this.mono ?_;rintro e w'⟨rfl,a,E,q⟩;exact⟨_,rfl,a,(h.quiet f).step q.st E,(il.quiet f).trans q.st⟩
 have e1:wrap64 (10*(k:Int))=10*(k:Int):=B7 _ ⟨by omega,by omega⟩;have e2:wrap64 (10*(k:Int)+j)=10*(k:Int)+j:=B7 _ ⟨by omega,by omega⟩;clear h;go_enter Tryz.func32,Tryz.ntmps32;go_wp2_with fail;refine N.out.mono ?_;rintro e w1⟨v,rfl,Y,p⟩;obtain⟨us,XJ,l,-⟩:=Y;obtain⟨va,vc,X⟩:=fU l;subst X;have Q:=p.cell R id;have d0:=p.cell S id;have O:=aJ F p.size;have A:=dk p;obtain⟨lg,Lx⟩:∃z,z=Ih s.h k:=⟨_,rfl⟩;rw[<-Lx];have T:Hid (1<lg.length\/s.safe=false->CF s k j=(qG s.h (10*k+j:Nat)).1):=λe=>by unfold CF;rw[<-Lx,aK e]
 have W:Hid (¬(1<lg.length\/s.safe=false)->CF s k j=s.h):=λe=>by unfold CF;rw[<-Lx,aH e]
 clear Lx l XJ p S c1 c2 R c4 N
 cases P:decide ((lg.length:Int) > 1)
 .cases o:s.safe
  .rw[o]at Q;have r:=dk (T.out (.inr o));clear o;go_wp2_with fail;refine(U.out _ A.out).mono ?_;rintro e V⟨K,rfl,a,f,d⟩;rw[<-r.out]at f;have M:=dk f;have m:=dk d;clear f d;go_wp2_with fail;go_end0;exact⟨rfl,a,M.out,m.out⟩
  .rw[o]at Q;have r:=dk (W.out (λe=>e.elim (λe=>by simp at P;omega) (λe=>by rw[o]at e;cases e)));clear o;go_wp2_with fail;go_end0;refine⟨rfl,y,?_,il.quiet A.out⟩;rw[r.out];exact HH.out.quiet A.out
 .have r:=dk (T.out (.inl (by simp at P;omega)));go_wp2_with fail;refine(U.out _ A.out).mono ?_;rintro e V⟨K,rfl,a,f,d⟩;rw[<-r.out]at f;have M:=dk f;have m:=dk d;clear f d;go_wp2_with fail;go_end0;exact⟨rfl,a,M.out,m.out⟩
theorem eJ.beside(h:eJ w n c g y s)(f:Mod G w w')(r:Qm w (y.lo n) G)(D:∀k,k<w.heap.size->G k->y.own k=.no):eJ w' n c g y s:=by
 have hN:∀k,y.own k≠.no->¬G k:=λk a e=>a (D k (h.own.lt k a).2 e);refine⟨h.Z.mod f (hN _ (by rw[h.own.main];simp)),h.J.mod f r (λk a=>hN _ (by rw[h.own.J k a];simp)),h.dead.mod f (λk a=>hN _ (by cases a;rw[h.own.dead];simp)),h.tab.mod f (λk a=>hN _ (by rw[h.own.tab k a];simp)),h.qn,
  gO h.gN f (λk _ _ e=>hN _ (by rw[h.own.gN k e];simp)),h.ir,λk b l m z=>?_,gO h.iC f (λk _ _ e=>hN _ (by rw[h.own.iC k e];simp)),h.lJ,λi b t m ht=>?_,
  {h.own with lt:=λk a=>⟨(h.own.lt k a).1,aJ (h.own.lt k a).2 f.size⟩}⟩
 .have q:=aC m;obtain⟨p,o⟩:=h.own.A b q;exact(h.A k b l m z).mod f r (hN _ (by rw[p];simp)) (λx j=>hN _ (by rw[o x j];simp)) (λd C x j=>hN _ (by rw[h.own.node b q d C x j];simp))
 .obtain⟨p,o⟩:=h.own.I b (aC m);exact(h.I i b t m ht).mod f (hN _ (by rw[p];simp)) (λx j=>hN _ (by rw[o x j];simp))
theorem Wk{a:Array Value}{t:TypeId}{j:Nat×Nat}(e:w.heap[k]?=some (.cells a t j))(ht:t≠68)(l:L.n<=k):¬St w L k:=by
 rintro(h|⟨⟨d,f,h⟩,_⟩)
 .omega
 .rw[e]at h;simp at h;exact ht h.2.1
def zz(gs:Nat)(xv:Value)(vs:List Value)(k:Nat):Prop:=k=gs\/xv.ownBlock=some k\/∃u∈vs,u.ownBlock=some k
theorem fI.Ky{s:eF}(h:fI w n c gs g y xv vs s)(a:zz gs xv vs k):y.own k=.no:=by
 obtain rfl|a|⟨u,d,a⟩:=a
 .exact h.no
 .exact h.JC k a
 .exact h.Fz u d k a
theorem fI.cells{s:eF}(h:fI w n c gs g y xv vs s)(z:n<=gs)(l:zz gs xv vs k):n<=k/\k<w.heap.size/\∃d t C,w.heap[k]?=some (.cells d t C)/\t≠68/\(xv.ownBlock=some k->t=46)/\(k=gs->t=37)/\((∃u∈vs,u.ownBlock=some k)->t=51):=by
 have m:∀k,xv.ownBlock=some k->∃d,n<=k/\w.heap[k]?=some (.cells d 46 (0,0)):=λk l=>by
  obtain⟨a,b,d,f⟩:=fs h.row.2 l;exact⟨d,a,f⟩
 have x:∀u∈vs,∀k,u.ownBlock=some k->∃d,n<=k/\w.heap[k]?=some (.cells d 51 (0,0)):=λu o k l=>by
  obtain⟨i,t,_,_,A⟩:=h.JB o;obtain⟨a,b,d,f⟩:=fs A l;exact⟨d,a,f⟩
 have q:w.heap[gs]?=some (.cells (yAw g xv s).toArray 37 (0,0)):=h.Z;obtain rfl|l|⟨u,o,l⟩:=l
 .refine⟨z,h.Z.lt,_,_,_,q,by decide,λe=>?_,λ_=>rfl,λ⟨u,o,e⟩=>?_⟩
  .obtain⟨d,_,f⟩:=m _ e;rw[q]at f;simp at f
  .obtain⟨d,_,f⟩:=x u o _ e;rw[q]at f;simp at f
 .obtain⟨d,r,f⟩:=m k l;refine⟨r,(aF.1 f).1,_,_,_,f,by decide,λ_=>rfl,λe=>?_,λ⟨u,o,e⟩=>?_⟩
  .subst e;rw[q]at f;simp at f
  .obtain⟨p,_,j⟩:=x u o _ e;rw[f]at j;simp at j
 .obtain⟨d,r,f⟩:=x u o k l;refine⟨r,(aF.1 f).1,_,_,_,f,by decide,λe=>?_,λe=>?_,λ_=>rfl⟩
  .obtain⟨p,_,j⟩:=m _ e;rw[f]at j;simp at j
  .subst e;rw[q]at f;simp at f
theorem fI.tU{s:eF}(h:fI w n c gs g y xv vs s)(j:n<=gs)(l:Mod G w w')(f:∀k,k<w.heap.size->G k->zz gs xv vs k):eJ w' n c g y s.h:=
 h.house.beside l (λk d e=>by
  obtain⟨a,_,o,t,p,m,ht,_⟩:=h.cells j (f k d e);exact Wk m ht a) (λk d e=>h.Ky (f k d e))
theorem fI.tick{s:eF}(h:fI w n c gs g y xv vs s)(f:n<=gs)(t:Int):fI (w.setCell ⟨gs,2,none⟩ (.int .i64 t)) n c gs g y xv vs {s with now:=t}:=by
 have l:Mod (eQ gs) w (w.setCell ⟨gs,2,none⟩ (.int .i64 t)):=Mod.eE gs 2 _;have z:∀k,zz gs xv vs k->k≠gs->¬eQ gs k:=λk _ e q=>e q;refine⟨?_,h.tU f l (λk _ e=>.inl e),h.row.mod l (λk a e=>?_),λi x u A j=>(h.ops i x u A j).mod l (λk a e=>?_),h.no,h.JC,h.Fz,h.apart⟩
 .have:=h.Z.set 2 (.int .i64 t);exact this
 .obtain⟨_,_,m,o,C,_,_,r,d,_⟩:=h.cells f (k:=k) (.inr (.inl a));have:=(r a).symm.trans (d e);exact absurd this (by decide)
 .obtain⟨_,_,m,o,C,_,_,_,d,p⟩:=h.cells f (k:=k) (.inr (.inr ⟨u,aC j,a⟩));have:=(p ⟨u,aC j,a⟩).symm.trans (d e);exact absurd this (by decide)
theorem yPw{L:Nat}{e:TypeId}{a:Nat}{xs:List Value}(h:w.ownsRow L e a (.slice (some ⟨b,0,none⟩) n cap) n xs)(i:Nat)(u:Value):(w.setCell ⟨b,i,none⟩ u).ownsRow L e a (.slice (some ⟨b,0,none⟩) n cap) n (xs.set i u):=by
 refine⟨by rw[ai];exact h.1,?_⟩;obtain⟨h0,_⟩|⟨g,cap',cur,hv,h1,hg,h2,h3,h4,h5⟩:=h.2
 .cases h0
 .simp only[Value.slice.injEq,ag,Addr.mk.injEq]at hv;obtain⟨⟨rfl,_⟩,_,rfl⟩:=hv;refine .inr ⟨b,cap,cur.setIfInBounds i u,rfl,h1,?_,h2,h3,by simpa using h4,?_⟩
  .simp[World.setCell,Array.getElem?_modify,hg]
  .rw[Array.toList_setIfInBounds,List.take_set,h5]
theorem zNd:∀(ts:List eY) (vs:List Value) (i:Nat) (t:eY) (os:List fm) (v:Value),vs.length=ts.length->ts[i]?=some t->(pC ts vs).set (i*3) v=pC (ts.set i ⟨os,t.eP,t.fN⟩) (vs.set i v)
|[],_,_,_,_,_,_,h=>by simp at h
|_::_,[],_,_,_,_,h,_=>by simp at h
|p::ts,q::vs,0,t,os,v,_,h=>by
  simp at h;subst h;rfl
|p::ts,q::vs,i+1,t,os,v,d,h=>by
  have a:=zNd ts vs i t os v (by simpa using d) (by simpa using h);rw[dQ,dQ,pC,pC,<-a,show(i+1)*3=i*3+1+1+1 by omega];rfl
theorem jt.Kp{a:TypeId}{ts:List eY}(h:jt a w B (.slice (some ⟨b,0,none⟩) n cap) ts vs)(d:n=ts.length)(e:ts[i]?=some t)(os:List fm)(v:Value):jt a (w.setCell ⟨b,i*3,none⟩ v) B (.slice (some ⟨b,0,none⟩) n cap) (ts.set i ⟨os,t.eP,t.fN⟩) (vs.set i v):=by
 subst d;refine⟨by simpa using h.1,?_⟩;rw[<-zNd ts vs i t os v h.1 e,ai];exact yPw h.2 _ _
theorem zKh:∀(ts:List eY) (vs:List Value) (i:Nat) (t:eY) (u:Int),vs.length=ts.length->ts[i]?=some t->(pC ts vs).set (i*3+2) (.int .i64 u)=pC (ts.set i ⟨t.ops,t.eP,u⟩) vs
|[],_,_,_,_,_,h=>by simp at h
|_::_,[],_,_,_,h,_=>by simp at h
|p::ts,q::vs,0,t,u,_,h=>by
  simp at h;subst h;rfl
|p::ts,q::vs,i+1,t,u,d,h=>by
  have a:=zKh ts vs i t u (by simpa using d) (by simpa using h);rw[dQ,pC,pC,<-a,show(i+1)*3+2=i*3+2+1+1+1 by omega];rfl
theorem fI.oQ{s:eF}(h:fI w n c gs g y xv vs s)(a:s.U[i]?=some t):∃xb cap,xv=.slice (some ⟨xb,0,none⟩) s.U.length cap:=by
 have d:=(aB.1 a).1;obtain⟨_,h0⟩|⟨g',cap',cur,e,_⟩:=h.row.2.2
 .omega
 .exact⟨g',cap',e⟩
theorem fI.rJ{s:eF}(h:fI w n c gs g y (.slice (some ⟨xb,0,none⟩) s.U.length cap) vs s)(q:n<=gs)(r:s.U[i]?=some t)(u:Int) :
  fI (w.setCell ⟨xb,i*3+2,none⟩ (.int .i64 u)) n c gs g y (.slice (some ⟨xb,0,none⟩) s.U.length cap) vs {s with U:=s.U.set i ⟨t.ops,t.eP,u⟩}:=by
 have l:Mod (eQ xb) w (w.setCell ⟨xb,i*3+2,none⟩ (.int .i64 u)):=Mod.eE xb _ _;have f:(Value.slice (some ⟨xb,0,none⟩) s.U.length cap).ownBlock=some xb:=rfl;obtain⟨_,_,E,F,H,_,_,p,A,z⟩:=h.cells q (k:=xb) (.inr (.inl f));have o:=h.row;refine⟨h.Z.mod l (λe=>?_),h.tU q l (λk _ e=>.inr (.inl (by rw[f];exact an some (Eq.symm e)))),⟨by rw[ai];exact o.1,?_⟩,λj x v a m=>?_,h.no,h.JC,h.Fz,h.apart⟩
 .have:=(p f).symm.trans (A (Eq.symm e));exact absurd this (by decide)
 .show World.ownsRow _ _ _ _ _ (s.U.set i ⟨t.ops,t.eP,u⟩).length (pC (s.U.set i ⟨t.ops,t.eP,u⟩) vs);rw[<-zKh s.U vs i t u o.1 r,ai];exact yPw o.2 _ _
 .have d:∀k,v.ownBlock=some k->¬eQ xb k:=λk C e=>by
   have D:k=xb:=e;subst D;have:=(p f).symm.trans (z ⟨v,aC m,C⟩);exact absurd this (by decide)
  rw[bz]at a;split at a
  .rename_i e;split at a
   .cases a
    subst e;exact(h.ops _ t v r m).mod l d
   .cases a
  .exact(h.ops j x v a m).mod l d
theorem fI.Kv{s:eF}(h:fI w n c gs g y (.slice (some ⟨xb,0,none⟩) s.U.length cap) vs s)(K:n<=gs){o:fm}(hi:s.U[i]?=some t)(E:vs[i]?=some u)(hm:Mod (λk=>u.ownBlock=some k) w w7)
  (F:nG w7 n v7 (t.ops++[o])) (l:∀k,v7.ownBlock=some k->u.ownBlock=some k\/w.heap.size<=k) :
  fI (w7.setCell ⟨xb,i*3,none⟩ v7) n c gs g y (.slice (some ⟨xb,0,none⟩) s.U.length cap) (vs.set i v7) {s with U:=s.U.set i ⟨t.ops++[o],t.eP,t.fN⟩}:=by
 have C:=aC E;have D:(Value.slice (some ⟨xb,0,none⟩) s.U.length cap).ownBlock=some xb:=rfl;obtain⟨_,hxl,V,ty,fr,Oq,_,X,q2,q3⟩:=h.cells K (k:=xb) (.inr (.inl D));have hr:=h.row;have W:∀v∈vs,v.ownBlock≠some xb:=λv d e=>by
  have:=(X D).symm.trans (q3 ⟨v,d,e⟩);exact absurd this (by decide)
 have P:gs≠xb:=λe=>by have:=(X D).symm.trans (q2 (Eq.symm e));exact absurd this (by decide)
 have Q:∀v∈vs,v.ownBlock≠some gs:=λv d e=>by
  obtain⟨_,_,V,ty,fr,_,_,_,p2,p3⟩:=h.cells K (k:=gs) (.inl rfl);have:=(p2 rfl).symm.trans (p3 ⟨v,d,e⟩);exact absurd this (by decide)
 have H:∀v∈vs,∀k,v.ownBlock=some k->k<w.heap.size:=λv d k f=>(h.cells K (k:=k) (.inr (.inr ⟨v,d,f⟩))).2.1;have Y:Mod (eQ xb) w7 (w7.setCell ⟨xb,i*3,none⟩ v7):=Mod.eE xb _ _;have R:Mod (λk=>u.ownBlock=some k\/k=xb) w (w7.setCell ⟨xb,i*3,none⟩ v7):=(hm.mono (λ_ _ e=>.inl e)).trans (Y.mono (λ_ _ e=>.inr e));have z:=(aB.1 E).1;have S:v7.ownBlock≠some xb:=λe=>by
  rcases l xb e with q|q
  .exact W u C q
  .omega
 have O:∀k,w.heap.size<=k->y.own k=.no:=λk f=>by
  by_cases e:y.own k=.no
  .exact e
  .have:=(h.house.own.lt k e).2;omega
 have r7:jt 46 w7 n (.slice (some ⟨xb,0,none⟩) s.U.length cap) s.U vs:=hr.mod hm (λk f e=>by rw[D]at f;cases f;exact W u C e);refine⟨h.Z.mod R (λe=>e.elim (Q u C) P),h.tU K R (λk _ e=>e.elim (λe=>.inr (.inr ⟨u,C,e⟩)) (λe=>.inr (.inl (by rw[D];exact an some (Eq.symm e))))),?_,λj x v I d=>?_,h.no,h.JC,λv d k f=>?_,λa b p q k A m N M=>?_⟩
 .have:=r7.Kp rfl hi (t.ops++[o]) v7;exact this
 .rw[bz]at I d;by_cases e:i=j
  .subst e;have rQ:=(aB.1 hi).1;rw[aK rfl,aK rQ]at I;rw[aK rfl,aK z]at d
   cases I
   cases d
   exact F.mod Y (λk f e=>S (by have e':k=xb:=e;rw[e']at f;exact f))
  .rw[aH e]at I d;refine(h.ops j x v I d).mod R (λk f q=>?_);obtain q|q:=q
   .exact e (h.apart i j u v k E d q f)
   .subst q;exact W v (aC d) f
 .rcases bG d with q|q
  .exact h.Fz v q k f
  .subst q;rcases l k f with r|r
   .exact h.Fz u C k r
   .exact O k r
 .rw[bz]at A m;by_cases T:i=a
  .by_cases J:i=b
   .omega
   .rw[aH J]at m;subst T;rw[aK rfl,aK z]at A
    cases A
    rcases l k N with r|r
    .exact absurd (h.apart i b u q k E m r M) J
    .have:=H q (aC m) k M;omega
  .rw[aH T]at A;by_cases J:i=b
   .subst J;rw[aK rfl,aK z]at m
    cases m
    rcases l k M with r|r
    .exact absurd (h.apart i a u p k E A r N) T
    .have:=H p (aC A) k N;omega
   .rw[aH J]at m;exact h.apart a b p q k A m N M
theorem fI.Ku{s:eF}(h:fI w n c gs g y xv vs s)(F:n<=gs)(f e:Int)(T:Mod (λk=>xv.ownBlock=some k) w w7)
  (z:jt 46 w7 n v7 (s.U++[⟨[],f,e⟩]) (vs++[.slice none 0 0])) (C:∀k,v7.ownBlock=some k->xv.ownBlock=some k\/w.heap.size<=k) :
  fI (w7.setCell ⟨gs,1,none⟩ v7) n c gs g y v7 (vs++[.slice none 0 0]) {s with U:=s.U++[⟨[],f,e⟩]}:=by
 obtain⟨_,hgl,O,W,fr,_,_,Y,Q,X⟩:=h.cells F (k:=gs) (.inl rfl);have D:xv.ownBlock≠some gs:=λe=>by have:=(Y e).symm.trans (Q rfl);exact absurd this (by decide)
 have J:∀v∈vs,v.ownBlock≠some gs:=λv d e=>by have:=(Q rfl).symm.trans (X ⟨v,d,e⟩);exact absurd this (by decide)
 have SQ:∀v∈vs,∀k,v.ownBlock=some k->xv.ownBlock≠some k:=λv d k l e=>by
  obtain⟨_,_,O,W,fr,_,_,p1,_,p3⟩:=h.cells F (k:=k) (.inr (.inl e));have:=(p1 e).symm.trans (p3 ⟨v,d,l⟩);exact absurd this (by decide)
 have R:Mod (eQ gs) w7 (w7.setCell ⟨gs,1,none⟩ v7):=Mod.eE gs _ _;have V:Mod (λk=>xv.ownBlock=some k\/k=gs) w (w7.setCell ⟨gs,1,none⟩ v7):=(T.mono (λ_ _ e=>.inl e)).trans (R.mono (λ_ _ e=>.inr e));have M:v7.ownBlock≠some gs:=λe=>by
  rcases C gs e with q|q
  .exact D q
  .omega
 have H:∀k,w.heap.size<=k->y.own k=.no:=λk l=>by
  by_cases e:y.own k=.no
  .exact e
  .have:=(h.house.own.lt k e).2;omega
 have hvl:=h.row.1;have A:∀k,(Value.slice none 0 0).ownBlock≠some k:=λk e=>by cases e
 refine⟨?_,h.tU F V (λk _ e=>e.elim (λe=>.inr (.inl e)) .inl),z.mod R (λk l e=>M (by have e':k=gs:=e;rw[e']at l;exact l)),λj x v o d=>?_,h.no,λk l=>?_,λv d k l=>?_,λa b p q k m hb E S=>?_⟩
 .exact(h.Z.mod T D).set 1 v7
 .by_cases I:j<s.U.length
  .rw[aG I]at o;rw[aG (by omega)]at d;refine(h.ops j x v o d).mod V (λk l q=>?_);obtain q|q:=q
   .exact SQ v (aC d) k l q
   .subst q;exact J v (aC d) l
  .rw[aL (by omega)]at o;rw[aL (by omega)]at d;have e0:j-s.U.length=0:=by have:=(aB.1 o).1;simp at this;omega
   have N:j-vs.length=0:=by omega
   rw[e0]at o;rw[N]at d
   cases o
   cases d
   exact A6 _ _ _ _
 .rcases C k l with r|r
  .exact h.JC k r
  .exact H k r
 .rcases aM.1 d with q|q
  .exact h.Fz v q k l
  .rw[bU]at q;subst q;exact absurd l (A k)
 .have P:∀(a:Nat) (p:Value),(vs++[Value.slice none 0 0])[a]?=some p->p.ownBlock=some k->vs[a]?=some p:=λa p m E=>by
   by_cases K:a<vs.length
   .rw[aG K]at m;exact m
   .rw[aL (by omega)]at m;have N:a-vs.length=0:=by have:=(aB.1 m).1;simp at this;omega
    rw[N]at m
    cases m
    exact absurd E (A k)
  exact h.apart a b p q k (P a p m E) (P b q hb S) E S
end Go.Proofs.YtmaiggbnceejiaaGreatDoor
namespace Go.Proofs.YtmaiggbnceejiaaGreatDoor
open Go.RowKit Go.Lib Go.Maps
variable {s s' S:dp}{k m:Nat}{t:jz}
def ot(t:jz)(d:Bool)(k:Nat):Option Int:=
 if d then(if t.state=2/\ve t=true then some 3 else none)else if t.ats.getD k 0=0 then none else if t.state=2 then some 2 else if t.state=3 then some 3 else if t.state=4 then some 4 else none
theorem Jj(s:dp)(id k:Nat)(a:Int):(gF s id k a).map (·.kind)=ot (s.I id) (decide (k=dz s)) k:=by
 unfold gF ot;simp only;by_cases e:k=dz s
 .rw[aK e,aQ e];simp only[if_true];split
  .rfl
  .rfl
 .rw[aH e,aN e];simp only[cX,if_false];split
  .rfl
  .split
   .rfl
   .split
    .rfl
    .split
     .rfl
     .rfl
theorem Vm:Told s k↔∀id,1<=id->id<=s.U.length->∀κ,ot (s.I id) (decide (k=dz s)) k=some κ->om (eU s k).M κ id:=by
 constructor
 .intro h id d b κ hκ;rw[<-Jj s id k 0]at hκ;obtain⟨c,e,rfl⟩:=cN.1 hκ;exact h id d b 0 c e
 .intro h id d b a c e;refine h id d b c.kind ?_;rw[<-Jj s id k a,e];rfl
theorem Yj(h:t.state=1)(d:Bool)(k:Nat):ot t d k=none:=by
 unfold ot;rw[h]
 cases d <;> simp
theorem ySb(h:t.state=4)(k:Nat)(h0:t.ats.getD k 0=0)(d:Bool):ot t d k=none:=by
 unfold ot;rw[h,h0]
 cases d <;> simp
structure Rest(s:dp):Prop where
 c:jY s
 told:∀k,k<s.lines.length->gQ s (eU s k)=true->Told s k
theorem Told.U(h:Told s k)(b:s'.lines=s.lines)(e:∀id,1<=id->id<=s'.U.length->(id<=s.U.length/\s'.I id=s.I id)\/∀d,ot (s'.I id) d k=none):Told s' k:=by
 have g:eU s' k=eU s k:=by unfold eU dp.A;rw[b]
 have f:dz s'=dz s:=by unfold dz;rw[b]
 rw[Vm]at h⊢;intro id a c κ hκ;rw[g];rcases e id a c with⟨q1,q2⟩|q
 .rw[f,q2]at hκ;exact h id a q1 κ hκ
 .rw[q]at hκ;cases hκ
theorem yYd(a:s'.lines=s.lines):rp s'=rp s:=by
 unfold rp lX qf dp.A;rw[a]
theorem Nv(a:s'.dead=s.dead)(n:ec):gQ s' n=gQ s n:=by unfold gQ;rw[a]
theorem ER(a:s'.lines=s.lines)(k:Nat):eU s' k=eU s k:=by unfold eU dp.A;rw[a]
theorem Rest.U(h:Rest s)(o:Safe s')(p:Held s')(a:s'.lines=s.lines)(n:s'.dead=s.dead)(l:s'.J=s.J)(j:∀id,1<=id->id<=s'.U.length->(id<=s.U.length/\s'.I id=s.I id)\/∀d k,ot (s'.I id) d k=none):Rest s':=by
 refine⟨⟨o,p,by rw[yYd a];exact h.c.none,by rw[l];exact h.c.few⟩,λk f b=>?_⟩;rw[a]at f;rw[Nv n,ER a]at b;exact(h.told k f b).U a λid i g=>(j id i g).imp (λe=>e) (λq d=>q d k)
theorem yFr(h:t.state=4)(h0:∀k,t.ats.getD k 0=0)(d:Bool)(k:Nat):ot t d k=none:=ySb h k (h0 k) d
theorem Rest.begin(h:Rest s)(f:s.U.length<60):Rest (mB s):=by
 have q:=yAc h.c.safe h.c.held f;refine h.U q.safe q.held rfl rfl rfl λid b a=>?_;by_cases e:id=s.U.length+1
 .right;intro d k;rw[e,OB];exact Yj rfl d k
 .left;rw[EV]at a;exact⟨by omega,wH s b (by omega)⟩
theorem Rest.locked{r:dp}{id:Nat}(h:Rest s)(a:Kd s id k r):Rest r:=by
 refine h.U a.safe a.held a.same.l a.same.d a.same.J λj g b=>?_;rw[a.same.len]at b;by_cases e:j=id
 .right;intro d k;subst e;exact Yj a.st d k
 .rcases a.cut j g e with q|⟨_,f,c⟩
  .exact .inl ⟨b,q⟩
  .exact .inr λd k=>yFr f c d k
theorem Rest.get(h:Rest s)(id:Int)(key:ByteArray):Rest (fG s id key).1:=by
 unfold fG;split
 .exact h
 rename_i a;obtain⟨i,rfl,e,d,b⟩:=pB (pL (by simpa using a)).1;have q:=h.locked (vm h.c.safe h.c.held e d b key (pL (by simpa using a)).2.1 (mode:=1) (.inl rfl));simp only;split
 .exact q
 .exact q
theorem Rest.put(h:Rest s)(id:Int)(p:gB):Rest (fg s id p).1:=by
 have hA:=yJz h.c.safe h.c.held id p;revert hA;unfold fg;split
 .exact λ_=>h
 split
 .exact λ_=>h
 rename_i g;obtain⟨i,rfl,f,e,n⟩:=pB (pL (by simpa using g)).1;rw[aU];split
 .exact λ_=>h
 have q:=vm h.c.safe h.c.held f e n p.key (pL (by simpa using g)).2.1 (mode:=2) (.inr rfl);have a:=h.locked q;simp only;split
 .exact λ_=>a
 .intro hA;generalize (gj s i p.key 2).1=r at q a hA;have o:i<=r.U.length:=by rw[q.same.len];exact e
  refine a.U hA.safe hA.held rfl rfl rfl λj l b=>?_;rw[mO]at b;rw[pO r i _ l f o];split
  .right;intro d k;refine Yj ?_ d k;unfold oF;split
   .exact q.st
   .exact q.st
  .exact .inl ⟨b,rfl⟩
theorem Rest.drop(h:Rest s)(id:Int):Rest (oz s id).1:=by
 have hA:=yFt h.c.safe h.c.held id;revert hA;unfold oz;split
 .exact λ_=>h
 .rename_i e;obtain⟨i,rfl,p,o,l⟩:=pB (by simpa using e);rw[aU];intro hA;have n:=Cut.abort p o l;refine h.U hA.safe hA.held (Ec s i) (gS.abort s i).d (gS.abort s i).J λj g a=>?_;rw[IV]at a;rcases n.I j g with q|⟨_,f,b⟩
  .exact .inl ⟨a,q⟩
  .exact .inr λd k=>yFr f b d k
theorem Rest.J(h:Rest s){net:fS}(f:Safe {s with J:=net})(e:net.way.length<=200):Rest {s with J:=net}:=
 ⟨⟨f,h.c.held.lines rfl rfl,h.c.none,e⟩,λk d b=>(h.told k d b).U rfl λid g a=>.inl ⟨a,rfl⟩⟩
theorem Rest.rM(h:Rest s)(k:Int):Rest (qH s k).1:=by
 have hA:=yEi h.c.safe h.c.held k;revert hA;unfold qH;split
 .exact λhA=>h.J hA.safe (aO (List.length_eraseIdx_le _ _) h.c.few)
 .exact λ_=>h
theorem Rest.twice(h:Rest s)(k:Int):Rest (oP s k).1:=by
 have hA:=zYg h.c.safe h.c.held k;revert hA;unfold oP;split
 .split
  .exact λhA=>h.J hA.safe (yDl h.c.few _)
  .exact λ_=>h
 .exact λ_=>h
theorem Rest.fail(h:Rest s)(id:Int):Rest (qG s id).1:=by
 have hA:=yFo h.c.safe h.c.held id;revert hA;unfold qG;split
 .exact λ_=>h
 .intro hA;refine⟨⟨hA.safe,hA.held,h.c.none,aO (bD _ _) h.c.few⟩,λk d a=>(h.told k d ?_).U rfl λid e b=>.inl ⟨b,rfl⟩⟩;unfold gQ at a⊢;simp only[dG,bc]at a⊢;exact λq=>a (aM.2 (.inl q))
def BO(s:dp):Prop:=∀k,k<s.lines.length->gQ s (eU s k)=true->Told s k
theorem yLr(h:Safe s)(l:Held s):BO (kR (pZ s)):=by
 obtain⟨a,_⟩:=OI h l;obtain⟨b,c,d⟩:=uO a.safe;intro k g f;have e:k<(pZ s).lines.length:=by rw[c.mv.ll]at g;exact g
 refine d k e ?_;have i:=(c.mv.at (k:=k) (j:=0) (bR.2 (a.safe.A k e).ne)).1;have o:eZ (pZ s) k 0=eU (pZ s) k:=rfl;have n:eZ (kR (pZ s)) k 0=eU (kR (pZ s)) k:=rfl;rw[o,n]at i;unfold gQ at f⊢;rw[c.mv.dead,i.id]at f;exact f
theorem yCz(h:Safe s):BO (kR s):=by
 obtain⟨b,c,d⟩:=uO h;intro k f e;have a:k<s.lines.length:=by rw[c.mv.ll]at f;exact f
 refine d k a ?_;have g:=(c.mv.at (k:=k) (j:=0) (bR.2 (h.A k a).ne)).1;have l:eZ s k 0=eU s k:=rfl;have i:eZ (kR s) k 0=eU (kR s) k:=rfl;rw[l,i]at g;unfold gQ at e⊢;rw[c.mv.dead,g.id]at e;exact e
theorem yDj(n:Nat):∀{s:dp},Safe s->Held s->BO s->BO (fT n s):=by
 induction n with
|zero=>intro s _ _ h;exact h
|succ n c=>
  intro s a b h;unfold fT;split
  .have q:=(KU a b).1;exact c q.safe q.held (yLr a b)
  .exact h
theorem yHe(h:Safe s)(a:Held s)(ht:BO s):BO (nK s):=yDj _ h a ht
theorem Rest.settled(h:Safe s)(c:Held s)(d:s.J.way.length<=200)(ht:BO s):Rest (nK s):=by
 obtain⟨a,b⟩:=AK h c;exact⟨⟨a.safe,a.held,b,a.few d⟩,yHe h c ht⟩
theorem Rest.end_(h:Rest s)(id:Int):Rest (gK s id).1:=by
 unfold gK;split
 .exact h
 .rename_i e;split
  .exact h
  .rename_i l;obtain⟨i,rfl,d,a,f⟩:=pB (by simpa using e);rw[aU];have g:Safe (du s i {s.I i with state:=2}):=h.c.safe.write (ws:=(s.I i).writes) d a f (h.c.safe.I i d a).few (.inr rfl);have j:Held (du s i {s.I i with state:=2}):=h.c.held.ending d a rfl f (IY (by simpa using l));obtain⟨b,c,_⟩:=uO g;exact Rest.settled b (c.tD b j).held (c.few h.c.few) (yCz g)
theorem Told.step(h:Told s k)(f:k<s.lines.length)(l:Safe s)(ht:iN s s'):Told s' k:=by
 have g:dz s'=dz s:=by unfold dz;rw[ht.mv.ll]
 rw[Vm]at h⊢;intro id b a κ hκ;rw[ht.mv.tl]at a;have e:s'.I id=s.I id:=by unfold dp.I;rw[ht.U]
 rw[g,e]at hκ;refine Qj (h id b a κ hκ) λc i=>?_;have d:=(ht.mv.at (k:=k) (j:=0) (bR.2 (l.A k f).ne)).2;exact d.subset i
theorem BO.step(h:BO s)(d:Safe s)(ht:iN s s'):BO s':=λk a b=>by
 rw[ht.mv.ll]at a;refine(h k a ?_).step a d ht;have c:=(ht.mv.at (k:=k) (j:=0) (bR.2 (d.A k a).ne)).1;have f:eZ s k 0=eU s k:=rfl;have e:eZ s' k 0=eU s' k:=rfl;rw[f,e]at c;unfold gQ at b⊢;rw[ht.mv.dead,c.id]at b;exact b
theorem Rest.fj(h:Rest s)(i:Nat):Rest (jU s i):=by
 unfold jU
 cases q:s.J.way[i]? with
|none=>exact h
|some m=>
  simp only;have ht:Safe (fa s i):=h.c.safe.way λv d=>bk d;have b:Rest (fa s i):=h.J ht (aO (List.length_eraseIdx_le _ _) h.c.few)
  cases p:nf s m.C3 with
 |none=>exact b
 |some o=>
   obtain⟨l,j⟩:=o;obtain⟨f,n,e,g,u⟩:=EY p;have r:=ht.step (k:=l) (j:=j) (n:=n) f e (h.c.safe.msg m (aC q));have a:=iN.step (s:=fa s i) f e g m;exact Rest.settled r (b.c.held.lines a.keys a.U) (a.few b.c.few) (BO.step b.told ht a)
theorem Rest.tick(h:Rest s):Rest (kq s):=⟨h.c.tick.1,BO.step h.told h.c.safe (RL h.c.safe).2⟩
theorem Rest.fo(n:Nat):∀{s:dp},Rest s->Rest (fo n s):=by
 induction n with
|zero=>intro s h;exact h
|succ n a=>
  intro s h;unfold Go.Proofs.YtmaiggbnceejiaaGreatDoor.fo;split
  .exact h
  .exact a (h.fj 0)
theorem Rest.turn(h:Rest s):Rest (qJ s):=h.tick.fo _
theorem Rest.gL(h:Rest s):Rest (gL s):=h.turn.turn.turn.turn
theorem Rest.iO(n:Nat):∀{s:dp},Rest s->Rest (iO n s):=by
 induction n with
|zero=>intro s h;exact h
|succ n a=>
  intro s h;unfold Go.Proofs.YtmaiggbnceejiaaGreatDoor.iO;split
  .exact h.gL
  .exact a h.gL
theorem Rest.calm(h:Rest s):Rest (lQ s):=h.iO _
theorem yRv(k:Nat)(b:s.J.way.length<=200):(ey s k).J.way.length<=200:=by
 unfold ey;split
 .exact b
 .unfold qg;have a:∀(is:List Nat) (S:dp),S.J.way.length<=200->(is.foldl (λh i=>if kz h k i then gk h (i+1)else h) S).J.way.length<=200:=by
   intro is
   induction is with
  |nil=>exact λS h=>h
  |cons i is c=>
    intro S h;rw[cQ];refine c _ ?_;split
    .rw[(gS.abort S _).J];exact h
    .exact h
  exact a _ _ (Vx _ b)
theorem Rest.fix(h:Rest s):Rest (ku s):=by
 unfold ku;obtain⟨a,-⟩:=Eb h.c.safe h.c.held s.lines.length (aD _);have g:((List.range s.lines.length).foldl ey s).J.way.length<=200:=by
  generalize List.range s.lines.length=d;have e:∀(d:List Nat) (S:dp),S.J.way.length<=200->(d.foldl ey S).J.way.length<=200:=by
   intro d
   induction d with
  |nil=>exact λS h=>h
  |cons k d f=>intro S h;exact f _ (yRv k h)
  exact e d s h.c.few
 obtain⟨b,c,_⟩:=uO a.safe;exact Rest.settled b (c.tD b a.held).held (c.few g) (yCz a.safe)
theorem Rest.new{shards nodes:Nat}(p:1<=shards/\shards<=4)(f:1<=nodes/\nodes<=4):Rest (fp shards nodes):=by
 obtain⟨a,b,c⟩:=yVe p f;obtain⟨x,q,w,v,u⟩:=Vs nodes (shards+1);have ht:(fp shards nodes).U=[]:=q;refine⟨⟨a,b,?_,?_⟩,λk d _ id r h=>by rw[ht]at h;simp at h;omega⟩
 .refine EM.2 λk d=>?_;have o:=a.A k d;have i:=Ql o.ne (⟨0,0,[],[],0⟩:ec);have l:(qf (fp shards nodes) k).M=[]:=by
   have n:=WH nodes (shards+1);have g:(fp shards nodes).A k=(pK k nodes).1:=by
    show(iE nodes (shards+1)).lines.getD k _=_;rw[n,aI];rw[c]at d;simp[d]
   rw[g]at i;unfold qf;rw[g];exact(ZT k nodes f.1 f.2).2 _ i
  unfold lX;rw[l];simp
 .show(iE nodes (shards+1)).J.way.length<=200;have e:∀m,(iE nodes m).J.way.length<=200:=by
   intro m
   induction m with
  |zero=>simp[iE]
  |succ m j=>exact Vx _ j
  exact e _
theorem yAv{f:Nat->Nat}{b:Nat}:∀{n:Nat},(∀k,k<n->f k<=b)->iQ f n<=n*b
|0,_=>by simp[iQ]
|n+1,h=>by
  have d:=yAv (n:=n) (λk a=>h k (by omega));have c:=h n (by omega);have e:iQ f (n+1)=iQ f n+f n:=by simp[iQ]
  rw[e,Nat.succ_mul];omega
theorem yUn(h:Safe s):qI s<=10000:=by
 have d:qI s<=s.lines.length*2000:=by
  unfold qI;refine yAv λk a=>?_;have c:=h.oV a;have:=yAv (f:=λj=>500-(eZ s k j).M.length) (b:=500) (n:=(s.A k).nodes.length) (λj _=>Nat.sub_le _ _);exact aO this (by omega)
 have:=h.shape.ll;omega
theorem Wv(h:jY s):iD s<=s.J.lost+1000000000000000:=by
 have c:=yUn h.safe;have b:=yQi h.few;have a:qP s<=1204130400:=by
  have e:qP s=qI s*120401+kU s:=rfl;omega
 have e:iD s=s.J.lost+750800*(qP s:Int):=rfl;omega
theorem ySo(n:Nat):∀{s:dp},jY s->(iO n s).J.lost<=iD s+36160000000*n/\s.J.lost<=(iO n s).J.lost:=by
 induction n with
|zero=>
  intro s h;refine⟨?_,bO _⟩;show s.J.lost<=iD s+36160000000*((0:Nat):Int);have:iD s=s.J.lost+750800*(qP s:Int):=rfl;omega
|succ n e=>
  intro s h;unfold iO;obtain⟨a,b,c,d⟩:=RE h;split
  .refine⟨?_,d⟩;have:iD (gL s)=(gL s).J.lost+750800*(qP (gL s):Int):=rfl;omega
  .obtain⟨g,f⟩:=e a;exact⟨by omega,by omega⟩
structure ez(s s':dp):Prop where
 lost:s'.J.lost<=s.J.lost+2000000000000000
 dead:s'.dead.length<=s.dead.length+1
 down:s'.J.down.length<=s.J.down.length+1
 ll:s'.lines.length=s.lines.length
theorem ez.refl(s:dp):ez s s:=⟨by omega,by omega,by omega,rfl⟩
theorem ez.of(a:s'.J=s.J)(c:s'.dead=s.dead)(b:s'.lines.length=s.lines.length):ez s s':=by
 have f:s'.J.lost=s.J.lost:=an fS.lost a;have e:=an List.length c;have d:s'.J.down.length=s.J.down.length:=an (λx=>x.down.length) a;exact⟨by omega,by omega,by omega,b⟩
theorem ez.pP(h:lT s s')(a:s'.J.lost<=s.J.lost+2000000000000000):ez s s':=by
 have c:=an List.length h.mv.dead;have b:=an List.length h.down;exact⟨a,by omega,by omega,h.mv.ll⟩
theorem yWw(h:jY s):(lQ s).J.lost<=iD s+361636160000000:=by
 unfold lQ;obtain⟨n,hn⟩:∃n:Nat,n=10001:=⟨_,rfl⟩;rw[<-hn];have a:=(ySo n h).1;omega
theorem ez.calm(h:jY s):ez s (lQ s):=by
 have b:=yWw h;have c:=Wv h;have a:=(IN h).2;generalize lQ s=r at b a⊢;exact ez.pP a (by omega)
theorem ez.tick(h:jY s):ez s (kq s):=by
 have a:=(zYm h.safe).2.1;exact ez.pP h.tick.2.1 (by omega)
theorem ez.begin(s:dp):ez s (mB s):=ez.of rfl rfl rfl
theorem ez.same(h:gS s s'):ez s s':=ez.of h.J h.d (by rw[h.l])
theorem ez.drop(s:dp)(id:Int):ez s (oz s id).1:=by
 unfold oz;split
 .exact ez.refl s
 .exact ez.same (gS.abort s _)
theorem ez.rM(s:dp)(k:Int):ez s (qH s k).1:=by
 unfold qH;split
 .exact⟨by show s.J.lost+1<=_;omega,by show s.dead.length<=_;omega,by show s.J.down.length<=_;omega,rfl⟩
 .exact ez.refl s
theorem ez.twice(s:dp)(k:Int):ez s (oP s k).1:=by
 unfold oP;split
 .split
  .rename_i m _ _ _;refine⟨?_,by show s.dead.length<=_;omega,?_,rfl⟩
   .show(lC s.J m).lost<=_;unfold lC;split
    .show s.J.lost+1<=_;omega
    .show s.J.lost<=_;omega
   .show(lC s.J m).down.length<=_;have e:=an List.length (Zb s.J m);omega
  .exact ez.refl s
 .exact ez.refl s
theorem ez.fail(h:s.J.way.length<=200)(id:Int):ez s (qG s id).1:=by
 unfold qG;split
 .exact ez.refl s
 .refine⟨?_,by show(s.dead++[id]).length<=_;simp,by show(s.J.down++[id]).length<=_;simp,rfl⟩;show s.J.lost+((s.J.way.length:Int)-_)<=_;omega
theorem ez.fj(h:jY s)(i:Nat):ez s (jU s i):=ez.pP (ON h.safe h.held i) (by have:=(Zu h.safe h.held i).2;omega)
theorem ez.get(h:jY s)(id:Int)(key:ByteArray):ez s (fG s id key).1:=by
 unfold fG;split
 .exact ez.refl s
 rename_i a;obtain⟨i,rfl,d,c,b⟩:=pB (pL (by simpa using a)).1;have q:=ez.same (vm h.safe h.held d c b key (pL (by simpa using a)).2.1 (mode:=1) (.inl rfl)).same;simp only;split
 .exact q
 .exact q
theorem ez.put(h:jY s)(id:Int)(p:gB):ez s (fg s id p).1:=by
 unfold fg;split
 .exact ez.refl s
 split
 .exact ez.refl s
 rename_i a;obtain⟨i,rfl,d,c,b⟩:=pB (pL (by simpa using a)).1;rw[aU];split
 .exact ez.refl s
 have q:=ez.same (vm h.safe h.held d c b p.key (pL (by simpa using a)).2.1 (mode:=2) (.inr rfl)).same;simp only;split
 .exact q
 .exact⟨q.lost,q.dead,q.down,q.ll⟩
theorem ez.settled(a:Safe S)(h:Held S)(n:S.J.lost<=s.J.lost+1000)(f:S.dead=s.dead)(d:S.J.down=s.J.down)(e:S.lines.length=s.lines.length):ez s (nK (kR S)):=by
 obtain⟨b,c,_⟩:=uO a;have q:=c.tD b h;have o:=(Qc a).2;have i:=(zVb b q.held).2;have g:=q.trans (AK b q.held).1;have l:=an List.length g.mv.dead;have j:=an List.length g.down;have u:=an List.length f;have p:=an List.length d;generalize nK (kR S)=r at i g l j⊢;exact⟨by omega,by omega,by omega,g.mv.ll.trans e⟩
theorem ez.end_(h:jY s)(id:Int):ez s (gK s id).1:=by
 unfold gK;split
 .exact ez.refl s
 .rename_i e;split
  .exact ez.refl s
  .rename_i g;obtain⟨i,rfl,b,a,c⟩:=pB (by simpa using e);rw[aU];have f:Safe (du s i {s.I i with state:=2}):=h.safe.write (ws:=(s.I i).writes) b a c (h.safe.I i b a).few (.inr rfl);have d:Held (du s i {s.I i with state:=2}):=h.held.ending b a rfl c (IY (by simpa using g));exact ez.settled f d (by show s.J.lost<=_;omega) rfl rfl rfl
theorem yWe{α β:Type}(f:α->List β)(l:List α)(h:∀a,(f a).length<=1):(l.flatMap f).length<=l.length:=by
 induction l with
|nil=>simp
|cons a l b=>have:=h a;simp only[bN,aE,aW];omega
theorem yNg(h:Safe s)(c:Held s)(a:k<s.lines.length):(ey s k).J.lost<=s.J.lost+4:=by
 unfold ey;split
 .omega
 .rename_i e;obtain⟨f,d⟩:=OK e;have hF:Safe (fE s k):=h.fE a f d;obtain⟨_,b⟩:=WV hF (c.lines rfl rfl) (k:=k) (by rw[tz];exact a);show(qg (fE s k) k).J.lost<=_;rw[b.J];have l:=(FZ (nj ⟨fc s k,(s.A k).heard⟩).2 s.J).2;have j:(nj ⟨fc s k,(s.A k).heard⟩).2.length<=(fc s k).length:=yWe _ _ (λn=>Nz _);have i:=h.oV a;have g:(fc s k).length<=(s.A k).nodes.length:=bD _ _;show(kp s.J _).lost<=_;omega
theorem yIn(h:Safe s)(e:Held s):∀m,m<=s.lines.length->((List.range m).foldl ey s).J.lost<=s.J.lost+4*m:=by
 intro m
 induction m with
|zero=>exact λ_=>by simp
|succ m d=>
  intro f;have b:=d (by omega);obtain⟨a,-⟩:=Eb h e m (by omega);rw[aZ,ae];have c:=yNg a.safe a.held (k:=m) (by rw[a.ll];omega);show(ey _ m).J.lost<=_;omega
theorem ez.fix(h:jY s):ez s (ku s):=by
 unfold ku;obtain⟨a,b,c,-⟩:=Eb h.safe h.held s.lines.length (aD _);have d:=yIn h.safe h.held s.lines.length (aD _);have e:=h.safe.shape.ll;exact ez.settled a.safe a.held (by omega) b c a.ll
structure kE(s s':dp):Prop where
 rest:Rest s'
 cost:ez s s'
 act:gH s s'
 tl:s'.U.length=s.U.length
theorem kE.refl(h:Rest s):kE s s:=⟨h,ez.refl s,gH.refl h.c.safe h.c.held,rfl⟩
theorem kE.get(h:Rest s)(id:Int)(key:ByteArray):kE s (fG s id key).1:=by
 refine⟨h.get id key,ez.get h.c id key,yWb h.c.safe h.c.held id key,?_⟩;unfold fG;split
 .rfl
 rename_i a;obtain⟨i,rfl,e,d,b⟩:=pB (pL (by simpa using a)).1;have q:=(vm h.c.safe h.c.held e d b key (pL (by simpa using a)).2.1 (mode:=1) (.inl rfl)).same.len;simp only;split
 .exact q
 .exact q
theorem kE.put(h:Rest s)(id:Int)(p:gB):kE s (fg s id p).1:=by
 refine⟨h.put id p,ez.put h.c id p,yJz h.c.safe h.c.held id p,?_⟩;unfold fg;split
 .rfl
 split
 .rfl
 rename_i a;obtain⟨i,rfl,e,d,b⟩:=pB (pL (by simpa using a)).1;rw[aU];split
 .rfl
 have q:=(vm h.c.safe h.c.held e d b p.key (pL (by simpa using a)).2.1 (mode:=2) (.inr rfl)).same.len;simp only;split
 .exact q
 .exact(mO _ _ _).trans q
theorem kE.told(d:Safe S)(e:Held S)(a:S.U.length=s.U.length):(nK (kR S)).U.length=s.U.length:=by
 obtain⟨b,c,_⟩:=uO d;have q:=c.tD b e;exact((q.trans (AK b q.held).1).mv.tl).trans a
theorem kE.end_(h:Rest s)(id:Int):kE s (gK s id).1:=by
 refine⟨h.end_ id,ez.end_ h.c id,yWj h.c.safe h.c.held id,?_⟩;unfold gK;split
 .rfl
 .rename_i e;split
  .rfl
  .rename_i j;obtain⟨i,rfl,b,a,d⟩:=pB (by simpa using e);rw[aU];have g:Safe (du s i {s.I i with state:=2}):=h.c.safe.write (ws:=(s.I i).writes) b a d (h.c.safe.I i b a).few (.inr rfl);have f:Held (du s i {s.I i with state:=2}):=h.c.held.ending b a rfl d (IY (by simpa using j));exact kE.told g f (mO _ _ _)
theorem kE.fix(h:Rest s):kE s (ku s):=by
 refine⟨h.fix,ez.fix h.c,yWf h.c.safe h.c.held,?_⟩;unfold ku;obtain⟨a,b,c,d,-⟩:=Eb h.c.safe h.c.held s.lines.length (aD _);exact kE.told a.safe a.held d
theorem kE.drop(h:Rest s)(id:Int):kE s (oz s id).1:=by
 refine⟨h.drop id,ez.drop s id,yFt h.c.safe h.c.held id,?_⟩;unfold oz;split
 .rfl
 .exact(gS.abort s _).len
theorem kE.rM(h:Rest s)(k:Int):kE s (qH s k).1:=by
 refine⟨h.rM k,ez.rM s k,yEi h.c.safe h.c.held k,?_⟩;unfold qH;split <;> rfl
theorem kE.twice(h:Rest s)(k:Int):kE s (oP s k).1:=by
 refine⟨h.twice k,ez.twice s k,zYg h.c.safe h.c.held k,?_⟩;unfold oP;split
 .split <;> rfl
 .rfl
theorem kE.pP(h:Rest s')(b:ez s s')(a:lT s s'):kE s s':=⟨h,b,a.Fo,a.mv.tl⟩
theorem kE.fj(h:Rest s)(i:Nat):kE s (jU s i):=kE.pP (h.fj i) (ez.fj h.c i) (ON h.c.safe h.c.held i)
theorem kE.tick(h:Rest s):kE s (kq s):=kE.pP h.tick (ez.tick h.c) h.c.tick.2.1
theorem kE.calm(h:Rest s):kE s (lQ s):=by
 have a:=h.calm;have b:=ez.calm h.c;have c:=(IN h.c).2;generalize lQ s=r at a b c⊢;exact kE.pP a b c
theorem kE.fail(h:Rest s)(id:Int):kE s (qG s id).1:=by
 refine⟨h.fail id,ez.fail h.c.few id,yFo h.c.safe h.c.held id,?_⟩;unfold qG;split <;> rfl
def nameK:Nat->ByteArray
|0=>⟨#[97]⟩
|1=>⟨#[98]⟩
|2=>⟨#[99]⟩
|_=>⟨#[100]⟩
theorem zZg(i:Nat):(nameK i).size=1:=by
 match i with
|0=>rfl
|1=>rfl
|2=>rfl
|i+3=>rfl
structure ActD where
 what:Int
 I:Int
 a:Int
 value:ByteArray
def ff(s:eF)(x:ActD):Nat:=if 0<s.U.length then 1+ko x.I s.U.length else 0
def fC(x:ActD):ByteArray:=nameK (ko x.a 4)
def iP(x:ActD):ByteArray:=if 9<x.value.size then x.value.extract 0 9 else x.value
def fM(dh:List eY)(id:Nat)(o:fm):List eY:=match dh[id-1]? with
|some t=>dh.set (id-1) ⟨t.ops++[o],t.eP,t.fN⟩
|none=>dh
noncomputable def eV(s:eF)(x:ActD):eF:=
 if x.what=0 then(if s.U.length<7 then{s with h:=mB s.h,U:=s.U++[⟨[],s.now,-1⟩]}else s)
 else if x.what=1 then{s with h:=(fG s.h (ff s x) (fC x)).1,U:=if (fG s.h (ff s x) (fC x)).2.2.2=0/\0<ff s x then fM s.U (ff s x) ⟨1,fC x,(fG s.h (ff s x) (fC x)).2.1,(fG s.h (ff s x) (fC x)).2.2.1⟩else s.U}
 else if x.what=2\/x.what=3 then{s with h:=(fg s.h (ff s x) ⟨fC x,iP x,decide (x.what=3)⟩).1,U:=if (fg s.h (ff s x) ⟨fC x,iP x,decide (x.what=3)⟩).2=0/\0<ff s x then fM s.U (ff s x) ⟨x.what,fC x,iP x,false⟩else s.U}
 else if x.what=4 then{s with h:=(gK s.h (ff s x)).1}
 else if x.what=5 then(if x.a.tmod 4=0 then{s with h:=(oz s.h (ff s x)).1}else s)
 else if x.what=6 then(if 0<s.h.J.way.length then{s with h:=jU s.h (ko x.a s.h.J.way.length)}else s)
 else if x.what=7 then(if 0<s.h.J.way.length then{s with h:=(qH s.h (ko x.a s.h.J.way.length)).1}else s)
 else if x.what=8 then(if 0<s.h.J.way.length then{s with h:=(oP s.h (ko x.a s.h.J.way.length)).1}else s)
 else if x.what=9 then{s with h:=kq s.h}
 else if x.what=10 then{s with h:=CF s (ko x.a 3) (ko x.I s.nodes)}
 else if x.what=11 then{s with h:=ku s.h}
 else if x.what=12 then{s with h:=lQ s.h}
 else s
def nn(s:eF):eF:={s with U:=s.U.mapIdx λi t=>if t.fN<0/\iB s.h ((i:Int)+1)=3 then⟨t.ops,t.eP,s.now⟩else t}
noncomputable def lE(s:eF)(x:ActD):eF:=nn (eV {s with now:=s.now+1} x)
structure qx(m:Nat)(s:eF):Prop where
 rest:Rest s.h
 ll:s.h.lines.length=3
 tl:s.h.U.length=s.U.length
 few:s.U.length<=7
 lost:s.h.J.lost<=3000000000000000*(m:Int)
 dead:s.h.dead.length<=m
 down:s.h.J.down.length<=m
 nodes:1<=s.nodes/\s.nodes<=3
theorem ez.ok{s:eF}{a:dp}(h:qx m s)(b:ez s.h a):a.J.lost<=3000000000000000*((m+1:Nat):Int)/\a.dead.length<=m+1/\a.J.down.length<=m+1/\a.lines.length=3:=by
 have i:=b.lost;have g:=b.dead;have f:=b.down;have e:=h.lost;have d:=h.dead;have c:=h.down;exact⟨by omega,by omega,by omega,by rw[b.ll];exact h.ll⟩
theorem yGg(dh:List eY)(id:Nat)(o:fm):(fM dh id o).length=dh.length:=by
 unfold fM;split
 .rw[ai]
 .rfl
theorem Qe{s:eF}(h:qx m s)(x:ActD):Rest (eV s x).h/\ez s.h (eV s x).h/\True/\(eV s x).h.U.length=(eV s x).U.length/\(eV s x).U.length<=7/\(eV s x).now=s.now/\(eV s x).nodes=s.nodes/\(eV s x).safe=s.safe:=by
 have A:=h.few;have j:=h.tl;have c:∀(d:dp) (dh:List eY),kE s.h d->dh.length=s.U.length->Rest d/\ez s.h d/\True/\d.U.length=dh.length/\dh.length<=7:=λd dh q ht=>
  ⟨q.rest,q.cost,trivial,by rw[q.tl,j,ht],by omega⟩
 have fin:∀(d:dp) (dh:List eY),(Rest d/\ez s.h d/\True/\d.U.length=dh.length/\dh.length<=7)->∀r:eF,r={s with h:=d,U:=dh}->Rest r.h/\ez s.h r.h/\True/\r.h.U.length=r.U.length/\r.U.length<=7/\r.now=s.now/\r.nodes=s.nodes/\r.safe=s.safe:=λd dh q r b=>by
  subst b;exact⟨q.1,q.2.1,q.2.2.1,q.2.2.2.1,q.2.2.2.2,rfl,rfl,rfl⟩
 have same:=fin s.h s.U (c s.h s.U (kE.refl h.rest) rfl) s rfl;obtain⟨r,b⟩:∃r,r=eV s x:=⟨_,rfl⟩;rw[<-b];unfold eV at b;by_cases z:x.what=0
 .rw[aK z]at b;by_cases e:s.U.length<7
  .rw[aK e]at b;refine fin (mB s.h) (s.U++[⟨[],s.now,-1⟩]) ⟨h.rest.begin (by omega),ez.begin s.h,trivial,?_,?_⟩ r b
   .show(s.h.U++_).length=_;simp[j]
   .simp;omega
  .rw[aH e]at b;rw[b];exact same
 rw[aH z]at b;by_cases y:x.what=1
 .rw[aK y]at b;refine fin _ _ (c _ _ (kE.get h.rest _ _) ?_) r b;split
  .exact yGg _ _ _
  .rfl
 rw[aH y]at b;by_cases w:x.what=2\/x.what=3
 .rw[aK w]at b;refine fin _ _ (c _ _ (kE.put h.rest _ _) ?_) r b;split
  .exact yGg _ _ _
  .rfl
 rw[aH w]at b;by_cases v:x.what=4
 .rw[aK v]at b;exact fin _ _ (c _ _ (kE.end_ h.rest _) rfl) r b
 rw[aH v]at b;by_cases u:x.what=5
 .rw[aK u]at b;by_cases e:x.a.tmod 4=0
  .rw[aK e]at b;exact fin _ _ (c _ _ (kE.drop h.rest _) rfl) r b
  .rw[aH e]at b;rw[b];exact same
 rw[aH u]at b;by_cases p:x.what=6
 .rw[aK p]at b;by_cases e:0<s.h.J.way.length
  .rw[aK e]at b;exact fin _ _ (c _ _ (kE.fj h.rest _) rfl) r b
  .rw[aH e]at b;rw[b];exact same
 rw[aH p]at b;by_cases o:x.what=7
 .rw[aK o]at b;by_cases e:0<s.h.J.way.length
  .rw[aK e]at b;exact fin _ _ (c _ _ (kE.rM h.rest _) rfl) r b
  .rw[aH e]at b;rw[b];exact same
 rw[aH o]at b;by_cases n:x.what=8
 .rw[aK n]at b;by_cases e:0<s.h.J.way.length
  .rw[aK e]at b;exact fin _ _ (c _ _ (kE.twice h.rest _) rfl) r b
  .rw[aH e]at b;rw[b];exact same
 rw[aH n]at b;by_cases l:x.what=9
 .rw[aK l]at b;exact fin _ _ (c _ _ (kE.tick h.rest) rfl) r b
 rw[aH l]at b;by_cases i:x.what=10
 .rw[aK i]at b;refine fin _ _ (c _ _ ?_ rfl) r b;unfold CF;split
  .exact kE.fail h.rest _
  .exact kE.refl h.rest
 rw[aH i]at b;by_cases g:x.what=11
 .rw[aK g]at b;exact fin _ _ (c _ _ (kE.fix h.rest) rfl) r b
 rw[aH g]at b;by_cases f:x.what=12
 .rw[aK f]at b;exact fin _ _ (c _ _ (kE.calm h.rest) rfl) r b
 rw[aH f]at b;rw[b];exact same
theorem qx.clock{s:eF}(h:qx m s)(t:Int):qx m {s with now:=t}:=⟨h.rest,h.ll,h.tl,h.few,h.lost,h.dead,h.down,h.nodes⟩
theorem OL{s:eF}(h:qx m s)(x:ActD):qx (m+1) (lE s x)/\True/\(lE s x).now=s.now+1/\(lE s x).safe=s.safe:=by
 obtain⟨o,n,l,j,i,g,f,e⟩:=Qe (h.clock (s.now+1)) x;obtain⟨d,c,b,a⟩:=ez.ok (h.clock (s.now+1)) n;refine⟨⟨o,a,?_,?_,d,c,b,?_⟩,l,g,e⟩
 .show(eV _ x).h.U.length=(List.mapIdx _ _).length;rw[List.length_mapIdx];exact j
 .show(List.mapIdx _ _).length<=7;rw[List.length_mapIdx];exact i
 .show 1<=(eV _ x).nodes/\(eV _ x).nodes<=3;rw[f];exact h.nodes
end Go.Proofs.YtmaiggbnceejiaaGreatDoor
namespace Go.Proofs.YtmaiggbnceejiaaGreatDoor
open Go.RowKit Go.Lib Go.Maps
variable {gs n c c' g:Nat}{w w' wq:World}{y y':dq}{xv:Value}{vs:List Value}{s:eF}{fr:Act}
structure kM(gs:Nat)(w:World)(y:dq)(xv:Value)(vs:List Value)(w':World)(y':dq)(uP:Value)(vs':List Value):Prop where
 md:Mod (λk=>y.own k≠.no\/zz gs xv vs k) w w'
 old:∀k,k<w.heap.size->y'.own k=y.own k
 fJ:∀k,k<w.heap.size->zz gs uP vs' k->zz gs xv vs k
theorem kM.trans{w1 l:World}{j f:dq}{o m:Value}{d b:List Value}(h:kM gs w y xv vs w1 j o d)(k:kM gs w1 j o d l f m b):kM gs w y xv vs l f m b:=
 ⟨h.md.trans' k.md (λi a e=>e.imp (λe=>by rw[<-h.old i a];exact e) (h.fJ i a)),λi a=>(k.old i (aJ a h.md.size)).trans (h.old i a),λi a e=>h.fJ i a (k.fJ i (aJ a h.md.size) e)⟩
theorem kM.steps(h:il w y w' y'):kM gs w y xv vs w' y' xv vs:=⟨h.md.mono (λ_ _ e=>.inl e),h.old,λ_ _ e=>e⟩
theorem kM.quiet(h:Mod dt w w'):kM gs w y xv vs w' y xv vs:=kM.steps (il.quiet h)
def fW(w:World)(n c gs g:Nat)(y:dq)(xv:Value)(vs:List Value)(s':eF)(w':World):Prop:=∃y' b a,fI w' n c gs g y' b a s'/\kM gs w y xv vs w' y' b a
theorem eJ.more{s:dp}(h:eJ w n c g y s)(a:c<=c'):eJ w n c' g y s:={h with qn:=⟨h.qn.1,h.qn.2.1,by have:=h.qn.2.2;omega⟩}
theorem fI.more(h:fI w n c gs g y xv vs s)(a:c<=c'):fI w n c' gs g y xv vs s:={h with house:=h.house.more a}
theorem fI.call{d:Nat}{e:dp}(h:fI w n c gs g y xv vs s)(b:Mod dt w wq)(f:eJ w' n c' g y' e)(a:il wq y w' y')(i:c'<=d):fW w n d gs g y xv vs {s with h:=e} w':=
 ⟨y',xv,vs,((h.quiet b).step a f).more i,kM.steps ((il.quiet b).trans a)⟩
structure jH(w:World)(n c m gs g:Nat)(y:dq)(xv:Value)(vs:List Value)(s:eF)(xb:Nat)(x:ActD):Prop where
 fJ:fI w n c gs g y xv vs s
 ok:qx m s
 et:ET w
 n1:1<n
 cc:c<=8000
 mm:m<=125
 lg:n<=gs
 now:0<=s.now/\s.now<=1000
 act:dx w xb [.int .i64 x.what,.int .i64 x.I,.int .i64 x.a,.string x.value] 34
 xn:y.own xb=.no
 xs:¬zz gs xv vs xb
 val:gP x.value
 Ru:∀t∈s.U,t.ops.length<=m
section
variable {w:World}{n c m gs g:Nat}{y:dq}{xv:Value}{vs:List Value}{s:eF}{xb:Nat}{x:ActD}
theorem jH.shape(h:jH w n c m gs g y xv vs s xb x):mo s.h:=h.ok.rest.c.safe.shape
theorem jH.lost(h:jH w n c m gs g y xv vs s xb x):s.h.J.lost<=375000000000000000:=by
 have:=h.ok.lost;have:=h.mm;omega
theorem jH.lock(h:jH w n c m gs g y xv vs s xb x)(a:Mod dt w wq):Ob wq n c s.h:=⟨h.shape,h.ok.rest.c.held.ki,h.et.mod a,h.n1,by have:=h.cc;omega⟩
theorem Ns(x:ActD):gP (fC x):=by unfold gP;rw[show(fC x).size=1 from zZg _];decide
theorem jH.calm(h:jH w n c m gs g y xv vs s xb x)(wq:World)(a:Mod dt w wq):Calls Tryz.prog 16 #[.pointer (some ⟨g,0,none⟩)] wq λe w'=>∃f,e=.returned f/\fW w n (c+2) gs g y xv vs {s with h:=lQ s.h} w':=by
 refine(yCj n c g y s.h wq (h.fJ.house.quiet a) h.ok.rest.c (by have:=h.cc;omega) (by have:=Wv h.ok.rest.c;have:=h.lost;omega)).mono ?_;rintro e w'⟨rfl,y',d,b⟩;exact⟨_,rfl,h.fJ.call a d b.st (by omega)⟩
theorem jH.fix(h:jH w n c m gs g y xv vs s xb x)(wq:World)(a:Mod dt w wq):Calls Tryz.prog 33 #[.pointer (some ⟨g,0,none⟩)] wq λe w'=>∃f,e=.returned f/\fW w n (c+2) gs g y xv vs {s with h:=ku s.h} w':=by
 refine(yYr n c g y s.h wq (h.fJ.house.quiet a) h.ok.rest.c.safe h.ok.rest.c.held (by have:=h.cc;omega) (by have:=h.lost;omega)).mono ?_;rintro e w'⟨rfl,y',d,b⟩;exact⟨_,rfl,h.fJ.call a d b.st (by omega)⟩
theorem jH.tick(h:jH w n c m gs g y xv vs s xb x)(wq:World)(a:Mod dt w wq):Calls Tryz.prog 31 #[.pointer (some ⟨g,0,none⟩)] wq λe w'=>∃f,e=.returned f/\fW w n (c+2) gs g y xv vs {s with h:=kq s.h} w':=by
 refine(yJq n c g y s.h wq (h.fJ.house.quiet a) h.ok.rest.c.safe (by have:=h.lost;omega)).mono ?_;rintro e w'⟨rfl,y',d,b⟩;exact⟨_,rfl,h.fJ.call a d b.st (by omega)⟩
theorem jH.end_(h:jH w n c m gs g y xv vs s xb x)(id:Int)(wq:World)(a:Mod dt w wq):Calls Tryz.prog 15 #[.pointer (some ⟨g,0,none⟩),.int .i64 id] wq λe w'=>∃f,e=.returned f/\fW w n (c+2) gs g y xv vs {s with h:=(gK s.h id).1} w':=by
 refine(yIs n c g y s.h id wq (h.fJ.house.quiet a) h.ok.rest.c.safe h.ok.rest.c.held (by have:=h.cc;omega) (by have:=h.lost;omega)).mono ?_;rintro e w'⟨rfl,y',d,b⟩;exact⟨_,rfl,h.fJ.call a d b.st (by omega)⟩
theorem jH.drop(h:jH w n c m gs g y xv vs s xb x)(id:Int)(wq:World)(a:Mod dt w wq):Calls Tryz.prog 12 #[.pointer (some ⟨g,0,none⟩),.int .i64 id] wq λe w'=>∃f,e=.returned f/\fW w n (c+2) gs g y xv vs {s with h:=(oz s.h id).1} w':=by
 refine(yKy n c g y s.h id wq (h.fJ.house.quiet a) h.shape (by have:=h.cc;omega)).mono ?_;rintro e w'⟨rfl,y',d,b⟩;exact⟨_,rfl,h.fJ.call a d b.st (by omega)⟩
theorem jH.fj(h:jH w n c m gs g y xv vs s xb x)(i:Nat)(d:i<s.h.J.way.length)(wq:World)(a:Mod dt w wq):Calls Tryz.prog 28 #[.pointer (some ⟨g,0,none⟩),.int .i64 i] wq λe w'=>∃j,e=.returned j/\fW w n (c+2) gs g y xv vs {s with h:=jU s.h i} w':=by
 refine(zXb n c g y s.h i _ wq (h.fJ.house.quiet a) h.ok.rest.c.safe h.ok.rest.c.held (by have:=h.cc;omega) (aA d) (by have:=h.lost;omega)).mono ?_;rintro e w'⟨rfl,y',f,b⟩;exact⟨_,rfl,h.fJ.call a f b.st (by omega)⟩
theorem jH.rM(h:jH w n c m gs g y xv vs s xb x)(i:Nat)(wq:World)(a:Mod dt w wq):Calls Tryz.prog 29 #[.pointer (some ⟨g,0,none⟩),.int .i64 i] wq λe w'=>∃f,e=.returned f/\fW w n (c+2) gs g y xv vs {s with h:=(qH s.h i).1} w':=by
 refine(yRj n c g y s.h i wq (h.fJ.house.quiet a) (by have:=h.lost;omega)).mono ?_;rintro e w'⟨rfl,y',d,b⟩;exact⟨_,rfl,h.fJ.call a d b.st (by omega)⟩
theorem jH.twice(h:jH w n c m gs g y xv vs s xb x)(i:Nat)(wq:World)(a:Mod dt w wq):Calls Tryz.prog 30 #[.pointer (some ⟨g,0,none⟩),.int .i64 i] wq λe w'=>∃f,e=.returned f/\fW w n (c+2) gs g y xv vs {s with h:=(oP s.h i).1} w':=by
 refine(yMz n c g y s.h i wq (h.fJ.house.quiet a) (by have:=h.lost;omega)).mono ?_;rintro e w'⟨rfl,y',d,b⟩;exact⟨_,rfl,h.fJ.call a d b.st (by omega)⟩
theorem jH.begin(h:jH w n c m gs g y xv vs s xb x)(wq:World)(a:Mod dt w wq):Calls Tryz.prog 13 #[.pointer (some ⟨g,0,none⟩)] wq λe w'=>e=.returned (.tuple #[.int .i64 (s.U.length+1),.nilIface])/\∃y',fI w' n c gs g y' xv vs {s with h:=mB s.h}/\il w y w' y':=by
 refine(Vn n c g y s.h wq (h.fJ.house.quiet a) h.shape.ll (by have:=h.ok.few;have:=h.ok.tl;omega)).mono ?_;rintro e w'⟨rfl,y',d,b⟩;exact⟨by rw[h.ok.tl],y',(h.fJ.quiet a).step b d,(il.quiet a).trans b⟩
theorem jH.put(h:jH w n c m gs g y xv vs s xb x)(id:Int)(p:gB)(a:gP p.key)(d:gP p.val)(wq:World)(b:Mod dt w wq):Calls Tryz.prog 23 #[.pointer (some ⟨g,0,none⟩),.int .i64 id,.agg #[.string p.key,.string p.val,.bool p.gone]] wq λe w'=>e=.returned (jP (fg s.h id p).2)/\∃y',fI w' n (c+2) gs g y' xv vs {s with h:=(fg s.h id p).1}/\il wq y w' y':=by
 refine(yQe n c g y s.h id p wq (h.fJ.house.quiet b) (h.lock b) a d).mono ?_;rintro e w'⟨rfl,y',f,a⟩;exact⟨rfl,y',(h.fJ.quiet b).step a.st f,a.st⟩
theorem yHp{a:List eH}{tx:Int}{j:Nat}{p:eH}(b:a[j]?=some p)(e:p.kind=2)(d:p.I=tx):(mC a 2 tx).isSome=true:=by
 unfold mC;rw[List.findIdx?_isSome,cP];exact⟨p,aC b,by simp[e,d]⟩
theorem Safe.fi{s:dp}(h:Safe s)(key:ByteArray):(fi s key).length<=1000/\∀c∈fi s key,c.kind=3->(mC (fi s key) 2 c.I).isSome=true:=by
 have r:=h.dec_lt;have q:fL s key<dz s:=dP _ (by have:=h.ll.1;unfold dz;omega);have d:=h.M (fL s key) (by omega);have e:Go.Proofs.YtmaiggbnceejiaaGreatDoor.fi s key=(eU s (fL s key)).M:=rfl;rw[e];refine⟨?_,λc l o=>?_⟩
 .have:=(h.A (fL s key) (by omega)).few _ (h.head_mem (by omega));omega
 .obtain⟨i,k⟩:=aP l;obtain⟨j,p,-,f,b,a⟩:=d.tG (by omega) i c k o;exact yHp f b a
theorem jH.get(h:jH w n c m gs g y xv vs s xb x)(id:Int)(key:ByteArray)(b:gP key)(wq:World)(a:Mod dt w wq):Calls Tryz.prog 14 #[.pointer (some ⟨g,0,none⟩),.int .i64 id,.string key] wq λe w'=>e=.returned (.tuple #[.string (fG s.h id key).2.1,.bool (fG s.h id key).2.2.1,jP (fG s.h id key).2.2.2])/\∃y',fI w' n (c+2) gs g y' xv vs {s with h:=(fG s.h id key).1}/\il w y w' y':=by
 refine(yIk n c g y s.h id key wq (h.fJ.house.quiet a) (h.lock a) b (h.ok.rest.c.safe.fi key)).mono ?_;rintro e w'⟨rfl,y',d,b⟩;exact⟨rfl,y',(h.fJ.quiet a).step b.st d,(il.quiet a).trans b.st⟩
theorem jH.many(h:jH w n c m gs g y xv vs s xb x)(wq:World)(a:Mod dt w wq):Calls Tryz.prog 27 #[.pointer (some ⟨g,0,none⟩)] wq λe w'=>e=.returned (.int .i64 s.h.J.way.length)/\w'=wq:=yEu n c g y s.h wq (h.fJ.house.quiet a)
theorem jH.fails(h:jH w n c m gs g y xv vs s xb x)(k j:Nat)(a:k<3)(d:j<3)(wq:World)(b:Mod dt w wq):Calls Tryz.prog 32 #[.pointer (some ⟨gs,0,none⟩),.int .i64 k,.int .i64 j] wq λe w'=>∃i,e=.returned i/\fW w n (c+2) gs g y xv vs {s with h:=CF s k j} w':=by
 refine(yRy n c gs g y xv vs s k j wq (h.fJ.quiet b) h.ok.rest.c.safe h.shape (by have:=h.ok.ll;omega) a d (by have:=h.ok.dead;have:=h.mm;omega) (by have:=h.ok.down;have:=h.mm;omega) (by have:=h.lost;omega)).mono ?_;rintro e w'⟨rfl,y',f,a⟩;exact⟨_,rfl,y',xv,vs,f.more (by omega),kM.steps ((il.quiet b).trans a)⟩
end
theorem yTi{N:Nat}(h:fr.tmps.size=N)(a:fr.defers=[]):fr=⟨((List.range N).map λi=>fr.tmps.getD i undef).toArray,[]⟩:=by
 obtain⟨t,d⟩:=fr;dsimp only at h a⊢;subst a;congr 1;apply Array.ext
 .simp[h]
 .intro i b e;simp[b]
structure jX(fr:Act)(gs:Nat):Prop where
 sz:fr.tmps.size=319
 df:fr.defers=[]
 t0:fr.tmps[0]?=some (.pointer (some ⟨gs,0,none⟩))
structure qZ(fr:Act)(gs xb id:Nat)(key:ByteArray)(what:Int):Prop where
 en:jX fr gs
 t3:fr.tmps[3]?=some (.pointer (some ⟨xb,0,none⟩))
 t4:fr.tmps[4]?=some (.int .i64 id)
 t5:fr.tmps[5]?=some (.string key)
 t46:fr.tmps[46]?=some (.int .i64 what)
theorem getD_some{i:Nat}{v:Value}(h:fr.tmps[i]?=some v):fr.tmps.getD i undef=v:=by
 rw[Array.getD_eq_getD_getElem?,h];rfl
theorem jX.lit(h:jX fr gs):∃f:Nat->Value,fr=⟨#[.pointer (some ⟨gs,0,none⟩),f 1,f 2,f 3,f 4,f 5,f 6,f 7,f 8,f 9,f 10,f 11,f 12,f 13,f 14,f 15,f 16,f 17,f 18,f 19,f 20,f 21,f 22,f 23,f 24,f 25,f 26,f 27,f 28,f 29,f 30,f 31,f 32,f 33,f 34,f 35,f 36,f 37,f 38,f 39,f 40,f 41,f 42,f 43,f 44,f 45,f 46,f 47,f 48,f 49,f 50,f 51,f 52,f 53,f 54,f 55,f 56,f 57,f 58,f 59,f 60,f 61,f 62,f 63,f 64,f 65,f 66,f 67,f 68,f 69,f 70,f 71,f 72,f 73,f 74,f 75,f 76,f 77,f 78,f 79,f 80,f 81,f 82,f 83,f 84,f 85,f 86,f 87,f 88,f 89,f 90,f 91,f 92,f 93,f 94,f 95,f 96,f 97,f 98,f 99,f 100,f 101,f 102,f 103,f 104,f 105,f 106,f 107,f 108,f 109,f 110,f 111,f 112,f 113,f 114,f 115,f 116,f 117,f 118,f 119,f 120,f 121,f 122,f 123,f 124,f 125,f 126,f 127,f 128,f 129,f 130,f 131,f 132,f 133,f 134,f 135,f 136,f 137,f 138,f 139,f 140,f 141,f 142,f 143,f 144,f 145,f 146,f 147,f 148,f 149,f 150,f 151,f 152,f 153,f 154,f 155,f 156,f 157,f 158,f 159,f 160,f 161,f 162,f 163,f 164,f 165,f 166,f 167,f 168,f 169,f 170,f 171,f 172,f 173,f 174,f 175,f 176,f 177,f 178,f 179,f 180,f 181,f 182,f 183,f 184,f 185,f 186,f 187,f 188,f 189,f 190,f 191,f 192,f 193,f 194,f 195,f 196,f 197,f 198,f 199,f 200,f 201,f 202,f 203,f 204,f 205,f 206,f 207,f 208,f 209,f 210,f 211,f 212,f 213,f 214,f 215,f 216,f 217,f 218,f 219,f 220,f 221,f 222,f 223,f 224,f 225,f 226,f 227,f 228,f 229,f 230,f 231,f 232,f 233,f 234,f 235,f 236,f 237,f 238,f 239,f 240,f 241,f 242,f 243,f 244,f 245,f 246,f 247,f 248,f 249,f 250,f 251,f 252,f 253,f 254,f 255,f 256,f 257,f 258,f 259,f 260,f 261,f 262,f 263,f 264,f 265,f 266,f 267,f 268,f 269,f 270,f 271,f 272,f 273,f 274,f 275,f 276,f 277,f 278,f 279,f 280,f 281,f 282,f 283,f 284,f 285,f 286,f 287,f 288,f 289,f 290,f 291,f 292,f 293,f 294,f 295,f 296,f 297,f 298,f 299,f 300,f 301,f 302,f 303,f 304,f 305,f 306,f 307,f 308,f 309,f 310,f 311,f 312,f 313,f 314,f 315,f 316,f 317,f 318],[]⟩:=by
 have e:=yTi h.sz h.df;have a:=getD_some h.t0;refine⟨λi=>fr.tmps.getD i undef,e.trans ?_⟩;rw[<-a];kernel_rfl
theorem qZ.lit{xb id:Nat}{key:ByteArray}{a:Int}(h:qZ fr gs xb id key a):∃f:Nat->Value,fr=⟨#[.pointer (some ⟨gs,0,none⟩),f 1,f 2,.pointer (some ⟨xb,0,none⟩),.int .i64 id,.string key,f 6,f 7,f 8,f 9,f 10,f 11,f 12,f 13,f 14,f 15,f 16,f 17,f 18,f 19,f 20,f 21,f 22,f 23,f 24,f 25,f 26,f 27,f 28,f 29,f 30,f 31,f 32,f 33,f 34,f 35,f 36,f 37,f 38,f 39,f 40,f 41,f 42,f 43,f 44,f 45,.int .i64 a,f 47,f 48,f 49,f 50,f 51,f 52,f 53,f 54,f 55,f 56,f 57,f 58,f 59,f 60,f 61,f 62,f 63,f 64,f 65,f 66,f 67,f 68,f 69,f 70,f 71,f 72,f 73,f 74,f 75,f 76,f 77,f 78,f 79,f 80,f 81,f 82,f 83,f 84,f 85,f 86,f 87,f 88,f 89,f 90,f 91,f 92,f 93,f 94,f 95,f 96,f 97,f 98,f 99,f 100,f 101,f 102,f 103,f 104,f 105,f 106,f 107,f 108,f 109,f 110,f 111,f 112,f 113,f 114,f 115,f 116,f 117,f 118,f 119,f 120,f 121,f 122,f 123,f 124,f 125,f 126,f 127,f 128,f 129,f 130,f 131,f 132,f 133,f 134,f 135,f 136,f 137,f 138,f 139,f 140,f 141,f 142,f 143,f 144,f 145,f 146,f 147,f 148,f 149,f 150,f 151,f 152,f 153,f 154,f 155,f 156,f 157,f 158,f 159,f 160,f 161,f 162,f 163,f 164,f 165,f 166,f 167,f 168,f 169,f 170,f 171,f 172,f 173,f 174,f 175,f 176,f 177,f 178,f 179,f 180,f 181,f 182,f 183,f 184,f 185,f 186,f 187,f 188,f 189,f 190,f 191,f 192,f 193,f 194,f 195,f 196,f 197,f 198,f 199,f 200,f 201,f 202,f 203,f 204,f 205,f 206,f 207,f 208,f 209,f 210,f 211,f 212,f 213,f 214,f 215,f 216,f 217,f 218,f 219,f 220,f 221,f 222,f 223,f 224,f 225,f 226,f 227,f 228,f 229,f 230,f 231,f 232,f 233,f 234,f 235,f 236,f 237,f 238,f 239,f 240,f 241,f 242,f 243,f 244,f 245,f 246,f 247,f 248,f 249,f 250,f 251,f 252,f 253,f 254,f 255,f 256,f 257,f 258,f 259,f 260,f 261,f 262,f 263,f 264,f 265,f 266,f 267,f 268,f 269,f 270,f 271,f 272,f 273,f 274,f 275,f 276,f 277,f 278,f 279,f 280,f 281,f 282,f 283,f 284,f 285,f 286,f 287,f 288,f 289,f 290,f 291,f 292,f 293,f 294,f 295,f 296,f 297,f 298,f 299,f 300,f 301,f 302,f 303,f 304,f 305,f 306,f 307,f 308,f 309,f 310,f 311,f 312,f 313,f 314,f 315,f 316,f 317,f 318],[]⟩:=by
 have e:=yTi h.en.sz h.en.df;have l:=getD_some h.en.t0;have k:=getD_some h.t3;have j:=getD_some h.t4;have d:=getD_some h.t5;have b:=getD_some h.t46;refine⟨λi=>fr.tmps.getD i undef,e.trans ?_⟩;rw[<-l,<-k,<-j,<-d,<-b];kernel_rfl
end Go.Proofs.YtmaiggbnceejiaaGreatDoor
namespace Go.Proofs.YtmaiggbnceejiaaGreatDoor
open Go.RowKit Go.Lib Go.Maps
variable {fr:Act}{gs n c g:Nat}{w w7:World}{y:dq}{v7:Value}{vs:List Value}{s:eF}{R:Act->World->Prop}
def EO(n:Nat):Code->Option Code
|.region m e d=>if m==n then some (.region m e d)else none
|.block _ c=>EO n c
|.loop c=>EO n c
|.seq a b=>match EO n a with
 |some c=>some c
 |none=>EO n b
|.scope c=>EO n c
|.cond _ a b=>match EO n a with
 |some c=>some c
 |none=>EO n b
|_=>none
def wG(R:Act->World->Prop):Exit->Act->World->Prop
|.normal,a,b=>R a b
|_,_,_=>False
theorem jX.put(h:jX fr gs){d:Nat}(v:Value)(a:d≠0):jX (fr.put (some d) v) gs:=
 ⟨by have:=h.sz;simpa[Act.put]using this,h.df,by have:=h.t0;simpa[Act.put,Array.getElem?_setIfInBounds,a]using this⟩
theorem jX.Kt(h:jX fr gs)(v:Value):jX (fr.put none v) gs:=h
theorem jX.at0(h:jX fr gs):∃a:0<fr.tmps.size,fr.tmps[0]=.pointer (some ⟨gs,0,none⟩):=aF.1 h.t0
theorem Tryz.tK:(Tryz.prog.info? 46).map (λi=>(i.zero,i.size,i.bytes))=some (some (.agg #[.slice none 0 0,.int .i64 0,.int .i64 0]),3,40):=by kernel_rfl
theorem Tryz.tM:(Tryz.prog.info? 51).map (λi=>(i.zero,i.size,i.bytes))=some (some (.agg #[.int .i64 0,.string ⟨#[]⟩,.string ⟨#[]⟩,.bool false]),4,48):=by kernel_rfl
theorem Tryz.wO:Tryz.prog.underlying 29=some (.slice 46):=by kernel_rfl
theorem Tryz.wP:Tryz.prog.underlying 44=some (.slice 51):=by kernel_rfl
theorem fI.Fs{i:Value}(h:fI w n c gs g y i vs s)(l:n<=gs)(f e:Int)(j:Mod (λk=>i.ownBlock=some k) w w7)
  (b:jt 46 w7 n v7 (s.U++[⟨[],f,e⟩]) (vs++[.slice none 0 0])) (d:∀k,v7.ownBlock=some k->i.ownBlock=some k\/w.heap.size<=k) :
  fW w n c gs g y i vs {s with U:=s.U++[⟨[],f,e⟩]} (w7.setCell ⟨gs,1,none⟩ v7):=by
 refine⟨y,v7,vs++[.slice none 0 0],h.Ku l f e j b d,⟨?_,λ_ _=>rfl,λk o a=>?_⟩⟩
 .exact(j.mono (λ_ _ e=>.inr (.inr (.inl e)))).trans ((Mod.eE gs 1 v7).mono (λ_ _ e=>.inr (.inl e)))
 .obtain rfl|a|⟨u,m,a⟩:=a
  .exact .inl rfl
  .rcases d k a with q|q
   .exact .inr (.inl q)
   .omega
  .rcases aM.1 m with q|q
   .exact .inr (.inr ⟨u,q,a⟩)
   .rw[bU]at q;subst q;cases a
theorem fI.zD{f cap:Nat}(h:fI w n c gs g y (.slice (some ⟨f,0,none⟩) s.U.length cap) vs s)(p:n<=gs){i:Nat}{t:eY}{u:Value}{o:fm}(z:s.U[i]?=some t)(l:vs[i]?=some u)(m:Mod (λk=>u.ownBlock=some k) w w7)
  (b:nG w7 n v7 (t.ops++[o])) (d:∀k,v7.ownBlock=some k->u.ownBlock=some k\/w.heap.size<=k) :
  fW w n c gs g y (.slice (some ⟨f,0,none⟩) s.U.length cap) vs {s with U:=s.U.set i ⟨t.ops++[o],t.eP,t.fN⟩} (w7.setCell ⟨f,i*3,none⟩ v7):=by
 have j:=aC l;refine⟨y,_,vs.set i v7,h.Kv p z l m b d,⟨?_,λ_ _=>rfl,λk A a=>?_⟩⟩
 .exact(m.mono (λ_ _ e=>.inr (.inr (.inr ⟨u,j,e⟩)))).trans ((Mod.eE f _ v7).mono (λk _ e=>.inr (.inr (.inl (an some (Eq.symm e))))))
 .obtain rfl|a|⟨v,x,a⟩:=a
  .exact .inl rfl
  .exact .inr (.inl a)
  .rcases bG x with q|q
   .exact .inr (.inr ⟨v,q,a⟩)
   .subst q;rcases d k a with r|r
    .exact .inr (.inr ⟨u,j,r⟩)
    .omega
theorem Rq(n c gs g:Nat)(y:dq)(G:Value)(vs:List Value)(s:eF)(w:World)(h:fI w n c gs g y G vs s)(mF:n<=gs)(hl:s.U.length<=100)(fr:Act)(E:jX fr gs)
  (hN:∀C W,jX C gs->fW w n c gs g y G vs {s with U:=s.U++[⟨[],s.now,-1⟩]} W->R C W) :
  Code.wp Tryz.prog ((Tryz.f10.body.bind (EO 11)).getD .skip) (wG R) fr w:=by
 conv=>arg 2;whnf
 obtain⟨i0,M,L,K,J⟩:=A3 Tryz.tK;obtain⟨o,r,z⟩:=fU h.row.2;obtain⟨-,D,F,-,-⟩:=gb h.Z;have f1:=h.Z.frozen 1;have V:=h.Z.lt;have d:=h.row.2;rw[z]at D d;have Bc:n<=w.heap.size:=by omega
 have i:((w.alloc (.cells #[.slice none 0 0,.int .i64 s.now,.int .i64 (-1)] 46)).drew).ownsRow n 46 3 (.slice o s.U.length r) s.U.length (pC s.U vs):=gO d (((Mod.refl dt w).alloc _).drew) (λ_ _ _ _ e=>e);obtain⟨v7,w7,gT,Q,eh,oX,X⟩:=C0 (P:=Tryz.prog) _ n 29 29 46 i0 _ 3 40 Tryz.wO M L K J rfl (by omega) _ _ _ i ⟨w.heap.size,0,none⟩ 1 1 (sH ⟨[],s.now,-1⟩ (.slice none 0 0)) rfl (A7 (A0 w _)) (λu Y=>by simp[sH]at Y;obtain rfl|rfl|rfl:=Y <;> rfl) (by unfold maxLen;omega) (by omega) (by show n<=(w.alloc _).heap.size;rw[A4];omega);obtain⟨T,O,qQ⟩:=fU Q;subst qQ;have B:Mod (λk=>(Value.slice o s.U.length r).ownBlock=some k) w w7:=(((Mod.refl _ w).alloc _).drew).grown eh (λx hx _=>hx);have A:(Value.slice o s.U.length r).ownBlock≠some gs:=pf d h.Z (by decide);have S:=B.cell D A;have Gy:=B.cell F A;have f7:=(B.frozen (p:=⟨gs,1,none⟩) V A).trans f1;have zb7:=aJ V B.size;have vM:Hid (fW w n c gs g y G vs {s with U:=s.U++[⟨[],s.now,-1⟩]} (w7.setCell ⟨gs,1,none⟩ (.slice T (s.U.length+1) O))):=by
  refine h.Fs mF s.now (-1) (by rw[z];exact B) ⟨by simp[h.row.1],?_⟩ (λk N=>?_)
  .rw[Wd _ _ _ _ h.row.1,aE];exact Q
  .rw[z];obtain q|q:=X
   .exact .inl (by rw[<-q];exact N)
   .rw[q]at N;simp only[ag]at N;have:(w.alloc (.cells #[.slice none 0 0,.int .i64 s.now,.int .i64 (-1)] 46)).drew.heap.size=w.heap.size+1:=A4 _ _;omega
 have hsz:=E.sz;obtain⟨_,t0⟩:=E.at0;have HF:=dk E;have HN:=dk hN;have I:Mod dt w (w.alloc (.cells #[.slice none 0 0,.int .i64 s.now,.int .i64 (-1)] 46)).drew:=((Mod.refl dt w).alloc _).drew;have j:Hid (w.drew.cell? ⟨gs,1,none⟩=some (.slice o s.U.length r)/\w.drew.cell? ⟨gs,2,none⟩=some (.int .i64 s.now)):=⟨D,F⟩;have zh:Hid ((w.alloc (.cells #[.slice none 0 0,.int .i64 s.now,.int .i64 (-1)] 46)).drew.cell? ⟨gs,1,none⟩=some (.slice o s.U.length r)/\(w.alloc (.cells #[.slice none 0 0,.int .i64 s.now,.int .i64 (-1)] 46)).drew.cell? ⟨gs,2,none⟩=some (.int .i64 s.now)):=⟨I.cell D (λe=>e),I.cell F (λe=>e)⟩;have H:Hid (w7.cell? ⟨gs,1,none⟩=some (.slice o s.U.length r)/\w7.cell? ⟨gs,2,none⟩=some (.int .i64 s.now)):=⟨S,Gy⟩;clear h E hN d i Q X oX I D F B;refine CM 14 (λf=>f.cell? ⟨gs,1,none⟩=some (.slice o s.U.length r)/\f.cell? ⟨gs,2,none⟩=some (.int .i64 s.now)) rfl ?_;refine fR 14 0 75 (.pointer (some ⟨gs,0,none⟩)) rfl rfl (λc a w h=>h) j.out ⟨by rfl,λf b=>by obtain⟨m,l⟩:=b;go_simp⟩ ?_;refine fR 14 1 76 (.pointer (some ⟨gs,0,none⟩)) rfl rfl (λc a w h=>h) j.out ⟨by rfl,λf b=>by obtain⟨m,l⟩:=b;go_simp⟩ ?_;refine fR 14 2 77 (.pointer (some ⟨gs,0,none⟩)) rfl rfl (λc a w h=>h) j.out ⟨by rfl,λf b=>by obtain⟨m,l⟩:=b;go_simp⟩ ?_;refine fR 14 3 78 (.pointer (some ⟨gs,1,none⟩)) rfl rfl (λc a w h=>h) j.out ⟨by rfl,λf b=>by obtain⟨m,l⟩:=b;go_simp⟩ ?_;refine fR 14 4 79 (.slice o s.U.length r) rfl rfl (λc a w h=>h) j.out ⟨by rfl,λf b=>by obtain⟨m,l⟩:=b;go_simp⟩ ?_;refine fR 14 5 80 (.pointer (some ⟨gs,0,none⟩)) rfl rfl (λc a w h=>h) j.out ⟨by rfl,λf b=>by obtain⟨m,l⟩:=b;go_simp⟩ ?_;refine fR 14 6 81 (.pointer (some ⟨gs,0,none⟩)) rfl rfl (λc a w h=>h) j.out ⟨by rfl,λf b=>by obtain⟨m,l⟩:=b;go_simp⟩ ?_;refine fR 14 7 82 (.pointer (some ⟨gs,2,none⟩)) rfl rfl (λc a w h=>h) j.out ⟨by rfl,λf b=>by obtain⟨m,l⟩:=b;go_simp⟩ ?_;refine fR 14 8 83 (.int .i64 s.now) rfl rfl (λc a w h=>h) j.out ⟨by rfl,λf b=>by obtain⟨m,l⟩:=b;go_simp⟩ ?_;refine fR 14 9 84 (.agg #[.slice none 0 0,.int .i64 s.now,.int .i64 (-1)]) rfl rfl (λc a w h=>h) j.out ⟨by rfl,λf b=>by obtain⟨m,l⟩:=b;go_simp⟩ ?_;refine kJ 14 10 85 rfl rfl (by kernel_rfl) rfl (v:=.slice (some ⟨w.heap.size,0,none⟩) 1 1) (w':=(w.alloc (.cells #[.slice none 0 0,.int .i64 s.now,.int .i64 (-1)] 46)).drew) (by go_simp) zh.out ?_;refine kJ 14 11 86 rfl rfl (by kernel_rfl) rfl (v:=.slice T (s.U.length+1) O) (w':=w7) (yz (s:=.tmp 79) (x:=.tmp 85) (t:=29) rfl (by go_simp) (by go_simp) gT) H.out ?_;refine kJ 14 12 87 rfl rfl (by kernel_rfl) rfl (v:=.pointer (some ⟨gs,0,none⟩)) (w':=w7) (by go_simp) H.out ?_;refine kJ 14 13 88 rfl rfl (by kernel_rfl) rfl (v:=.pointer (some ⟨gs,1,none⟩)) (w':=w7) (by go_simp) H.out ?_;refine KX 14 rfl (by kernel_rfl) rfl (w':=w7.setCell ⟨gs,1,none⟩ (.slice T (s.U.length+1) O)) (by go_simp) ?_;refine⟨by kernel_rfl,?_⟩;show R _ _;refine HN.out _ _ ?_ vM.out;refine jX.Kt ?_ _
 repeat (refine jX.put ?_ _ (by decide))
 exact HF.out
theorem Rp(n c gs g d C i:Nat)(id:Int)(key f:ByteArray)(z:Bool)(t:eY)(y:dq)(vs:List Value)(s:eF)(w:World)(h:fI w n c gs g y (.slice (some ⟨d,0,none⟩) s.U.length C) vs s)(mF:n<=gs)(J:s.U[i]?=some t)(F:id=(i:Int)+1)(hsm:s.U.length<=100)(hl:t.ops.length<=1000)(fr:Act)(L:jX fr gs)(t4:fr.tmps[4]?=some (.int .i64 id))(t5:fr.tmps[5]?=some (.string key))(t8:fr.tmps[8]?=some (.string f))(t9:fr.tmps[9]?=some (.bool z))
  (hN:∀K wd,jX K gs->fW w n c gs g y (.slice (some ⟨d,0,none⟩) s.U.length C) vs {s with U:=s.U.set i ⟨t.ops++[⟨1,key,f,z⟩],t.eP,t.fN⟩} wd->R K wd) :
  Code.wp Tryz.prog ((Tryz.f10.body.bind (EO 15)).getD .skip) (wG R) fr w:=by
 conv=>arg 2;whnf
 obtain⟨i0,X,V,T,S⟩:=A3 Tryz.tM;have hil:=(aB.1 J).1;obtain⟨u,E⟩:∃u,vs[i]?=some u:=⟨_,aA (by rw[h.row.1];exact hil)⟩;have vq:=aC E;have r:w.ownsRow n 51 4 u t.ops.length (uN t.ops):=h.ops i t u J E;obtain⟨B,D,W⟩:=fU r;subst W;obtain⟨-,N,-,-,-⟩:=gb h.Z;have M:w.cell? ⟨d,i*3,none⟩=some (.slice B t.ops.length D):=by
  have:=h.row.2.cells (g:=d) rfl _ _ (Ib s.U vs i t _ h.row.1 J E 0 _ rfl);rw[A1,aY,bK]at this;exact this
 have G:(Value.slice (some ⟨d,0,none⟩) s.U.length C).ownBlock=some d:=rfl;obtain⟨_,zx,cur,ty,fr0,Oq,_,l,q2,q3⟩:=h.cells mF (k:=d) (.inr (.inl G));have fx:w.frozen? ⟨d,i*3,none⟩=false:=by
  obtain⟨_,_,cur',hc'⟩:=fs h.row.2 G;simp[World.frozen?,hc']
 have zg:=h.Z.lt;have Bc:n<=w.heap.size:=by omega
 have A:((w.alloc (.cells #[.int .i64 1,.string key,.string f,.bool z] 51)).drew).ownsRow n 51 4 (.slice B t.ops.length D) t.ops.length (uN t.ops):=gO r (((Mod.refl dt w).alloc _).drew) (λ_ _ _ _ e=>e);obtain⟨v7,w7,gT,eX,eh,oX,ib⟩:=C0 (P:=Tryz.prog) _ n 44 44 51 i0 _ 4 48 Tryz.wP X V T S rfl (by omega) _ _ _ A ⟨w.heap.size,0,none⟩ 1 1 (BR ⟨1,key,f,z⟩) rfl (A7 (A0 w _)) (λu E=>by simp[BR]at E;obtain rfl|rfl|rfl|rfl:=E <;> rfl) (by unfold maxLen;omega) (by omega) (by show n<=(w.alloc _).heap.size;rw[A4];omega);obtain⟨a7,fV,qQ⟩:=fU eX;subst qQ;have H:Mod (λk=>(Value.slice B t.ops.length D).ownBlock=some k) w w7:=(((Mod.refl _ w).alloc _).drew).grown eh (λx G _=>G);have Y:(Value.slice B t.ops.length D).ownBlock≠some gs:=pf r h.Z (by decide);have I:(Value.slice B t.ops.length D).ownBlock≠some d:=λe=>by
  have:=(l G).symm.trans (q3 ⟨_,vq,e⟩);exact absurd this (by decide)
 have c17:=H.cell N Y;have cx7:=H.cell M I;have fx7:=(H.frozen (p:=⟨d,i*3,none⟩) zx I).trans fx;have zx7:=aJ zx H.size;have vM:Hid (fW w n c gs g y (.slice (some ⟨d,0,none⟩) s.U.length C) vs {s with U:=s.U.set i ⟨t.ops++[⟨1,key,f,z⟩],t.eP,t.fN⟩} (w7.setCell ⟨d,i*3,none⟩ (.slice a7 (t.ops.length+1) fV))):=by
  refine h.zD mF J E H ?_ (λk hk=>?_)
  .unfold nG;rw[WZ,aE];exact eX
  .obtain q|q:=ib
   .exact .inl (by rw[<-q];exact hk)
   .rw[q]at hk;simp only[ag]at hk;have:((w.alloc (.cells #[.int .i64 1,.string key,.string f,.bool z] 51)).drew).heap.size=w.heap.size+1:=A4 _ _;omega
 have hsz:=L.sz;obtain⟨_,t0⟩:=L.at0;obtain⟨_,t4⟩:=aF.1 t4;obtain⟨_,t5⟩:=aF.1 t5;obtain⟨_,t8⟩:=aF.1 t8;obtain⟨_,t9⟩:=aF.1 t9;have HF:=dk L;have HN:=dk hN;have Q:Mod dt w (w.alloc (.cells #[.int .i64 1,.string key,.string f,.bool z] 51)).drew:=((Mod.refl dt w).alloc _).drew;have ew:wrap64 (id-1)=(i:Int):=by rw[F,show(i:Int)+1-1=(i:Int) by omega];exact B7 _ ⟨by omega,by omega⟩
 have Xr:IntKind.i64.wrap (id-1)=(i:Int):=by rw[F,show(i:Int)+1-1=(i:Int) by omega];exact C2 _ ⟨by omega,by omega⟩
 have zP:(i:Int)<(s.U.length:Int):=by omega
 have hi0:(0:Int)<=(i:Int):=by omega
 have m:Hid (w.drew.cell? ⟨gs,1,none⟩=some (.slice (some ⟨d,0,none⟩) s.U.length C)/\w.drew.cell? ⟨d,i*3,none⟩=some (.slice B t.ops.length D)):=⟨N,M⟩;have zh:Hid ((w.alloc (.cells #[.int .i64 1,.string key,.string f,.bool z] 51)).drew.cell? ⟨gs,1,none⟩=some (.slice (some ⟨d,0,none⟩) s.U.length C)/\(w.alloc (.cells #[.int .i64 1,.string key,.string f,.bool z] 51)).drew.cell? ⟨d,i*3,none⟩=some (.slice B t.ops.length D)):=⟨Q.cell N (λe=>e),Q.cell M (λe=>e)⟩;have O:Hid (w7.cell? ⟨gs,1,none⟩=some (.slice (some ⟨d,0,none⟩) s.U.length C)/\w7.cell? ⟨d,i*3,none⟩=some (.slice B t.ops.length D)):=⟨c17,cx7⟩;clear h L hN r A eX ib oX Q N M H F l q2 q3 E vq J Oq G;refine CM 23 (λj=>j.cell? ⟨gs,1,none⟩=some (.slice (some ⟨d,0,none⟩) s.U.length C)/\j.cell? ⟨d,i*3,none⟩=some (.slice B t.ops.length D)) rfl ?_;refine fR 23 0 108 (.pointer (some ⟨gs,0,none⟩)) rfl rfl (λc a w h=>h) m.out ⟨by rfl,λj b=>by obtain⟨o,l⟩:=b;go_simp⟩ ?_;refine fR 23 1 109 (.pointer (some ⟨gs,0,none⟩)) rfl rfl (λc a w h=>h) m.out ⟨by rfl,λj b=>by obtain⟨o,l⟩:=b;go_simp⟩ ?_;refine fR 23 2 110 (.pointer (some ⟨gs,1,none⟩)) rfl rfl (λc a w h=>h) m.out ⟨by rfl,λj b=>by obtain⟨o,l⟩:=b;go_simp⟩ ?_;refine fR 23 3 111 (.slice (some ⟨d,0,none⟩) s.U.length C) rfl rfl (λc a w h=>h) m.out ⟨by rfl,λj b=>by obtain⟨o,l⟩:=b;go_simp⟩ ?_;refine fR 23 4 112 (.int .i64 id) rfl rfl (λc a w h=>h) m.out ⟨by rfl,λj b=>by obtain⟨o,l⟩:=b;go_simp⟩ ?_;refine fR 23 5 113 (.int .i64 i) rfl rfl (λc a w h=>h) m.out ⟨by rfl,λj b=>by obtain⟨o,l⟩:=b;go_simp⟩ ?_;refine fR 23 6 114 (.pointer (some ⟨gs,0,none⟩)) rfl rfl (λc a w h=>h) m.out ⟨by rfl,λj b=>by obtain⟨o,l⟩:=b;go_simp⟩ ?_;refine fR 23 7 115 (.pointer (some ⟨gs,0,none⟩)) rfl rfl (λc a w h=>h) m.out ⟨by rfl,λj b=>by obtain⟨o,l⟩:=b;go_simp⟩ ?_;refine fR 23 8 116 (.pointer (some ⟨gs,1,none⟩)) rfl rfl (λc a w h=>h) m.out ⟨by rfl,λj b=>by obtain⟨o,l⟩:=b;go_simp⟩ ?_;refine fR 23 9 117 (.slice (some ⟨d,0,none⟩) s.U.length C) rfl rfl (λc a w h=>h) m.out ⟨by rfl,λj b=>by obtain⟨o,l⟩:=b;go_simp⟩ ?_;refine fR 23 10 118 (.int .i64 id) rfl rfl (λc a w h=>h) m.out ⟨by rfl,λj b=>by obtain⟨o,l⟩:=b;go_simp⟩ ?_;refine fR 23 11 119 (.int .i64 i) rfl rfl (λc a w h=>h) m.out ⟨by rfl,λj b=>by obtain⟨o,l⟩:=b;go_simp⟩ ?_;refine fR 23 12 120 (.pointer (some ⟨d,i*3,none⟩)) rfl rfl (λc a w h=>h) m.out ⟨by rfl,λj b=>by obtain⟨o,l⟩:=b;go_simp⟩ ?_;refine fR 23 13 121 (.pointer (some ⟨d,i*3,none⟩)) rfl rfl (λc a w h=>h) m.out ⟨by rfl,λj b=>by obtain⟨o,l⟩:=b;go_simp⟩ ?_;refine fR 23 14 122 (.slice B t.ops.length D) rfl rfl (λc a w h=>h) m.out ⟨by rfl,λj b=>by obtain⟨o,l⟩:=b;go_simp⟩ ?_;refine fR 23 15 123 (.string key) rfl rfl (λc a w h=>h) m.out ⟨by rfl,λj b=>by obtain⟨o,l⟩:=b;go_simp⟩ ?_;refine fR 23 16 124 (.string f) rfl rfl (λc a w h=>h) m.out ⟨by rfl,λj b=>by obtain⟨o,l⟩:=b;go_simp⟩ ?_;refine fR 23 17 125 (.bool z) rfl rfl (λc a w h=>h) m.out ⟨by rfl,λj b=>by obtain⟨o,l⟩:=b;go_simp⟩ ?_;refine fR 23 18 126 (.agg #[.int .i64 1,.string key,.string f,.bool z]) rfl rfl (λc a w h=>h) m.out ⟨by rfl,λj b=>by obtain⟨o,l⟩:=b;go_simp⟩ ?_;refine kJ 23 19 127 rfl rfl (by kernel_rfl) rfl (v:=.slice (some ⟨w.heap.size,0,none⟩) 1 1) (w':=(w.alloc (.cells #[.int .i64 1,.string key,.string f,.bool z] 51)).drew) (by go_simp) zh.out ?_;refine kJ 23 20 128 rfl rfl (by kernel_rfl) rfl (v:=.slice a7 (t.ops.length+1) fV) (w':=w7) (yz (s:=.tmp 122) (x:=.tmp 127) (t:=44) rfl (by go_simp) (by go_simp) gT) O.out ?_;refine kJ 23 21 129 rfl rfl (by kernel_rfl) rfl (v:=.pointer (some ⟨d,i*3,none⟩)) (w':=w7) (by go_simp) O.out ?_;refine kJ 23 22 130 rfl rfl (by kernel_rfl) rfl (v:=.pointer (some ⟨d,i*3,none⟩)) (w':=w7) (by go_simp) O.out ?_;refine KX 23 rfl (by kernel_rfl) rfl (w':=w7.setCell ⟨d,i*3,none⟩ (.slice a7 (t.ops.length+1) fV)) (by go_simp) ?_;refine⟨by kernel_rfl,?_⟩;show R _ _;refine HN.out _ _ ?_ vM.out;refine jX.Kt ?_ _
 repeat (refine jX.put ?_ _ (by decide))
 exact HF.out
theorem JA(n c gs g j E i:Nat)(id:Int)(key f:ByteArray)(t:eY)(y:dq)(vs:List Value)(s:eF)(w:World)(h:fI w n c gs g y (.slice (some ⟨j,0,none⟩) s.U.length E) vs s)(mF:n<=gs)(S:s.U[i]?=some t)(K:id=(i:Int)+1)(hsm:s.U.length<=100)(hl:t.ops.length<=1000)(J G:Nat)(b:Int)(Y:w.cell? ⟨J,0,none⟩=some (.int .i64 b))(W:w.cell? ⟨G,1,none⟩=some (.string f))(kV:∀u∈vs,u.ownBlock≠some J)(Q:∀u∈vs,u.ownBlock≠some G)(fr:Act)(X:jX fr gs)(t4:fr.tmps[4]?=some (.int .i64 id))(t5:fr.tmps[5]?=some (.string key))(t3:fr.tmps[3]?=some (.pointer (some ⟨J,0,none⟩)))(M:fr.tmps[11]?=some (.pointer (some ⟨G,0,none⟩)))
  (hN:∀T wd,jX T gs->fW w n c gs g y (.slice (some ⟨j,0,none⟩) s.U.length E) vs {s with U:=s.U.set i ⟨t.ops++[⟨b,key,f,false⟩],t.eP,t.fN⟩} wd->R T wd) :
  Code.wp Tryz.prog ((Tryz.f10.body.bind (EO 22)).getD .skip) (wG R) fr w:=by
 conv=>arg 2;whnf
 obtain⟨i0,hpi,hz0,hz1,hz2⟩:=A3 Tryz.tM;have hil:=(aB.1 S).1;obtain⟨u,H⟩:∃u,vs[i]?=some u:=⟨_,aA (by rw[h.row.1];exact hil)⟩;have V:=aC H;have B:w.ownsRow n 51 4 u t.ops.length (uN t.ops):=h.ops i t u S H;obtain⟨D,F,huv⟩:=fU B;subst huv;obtain⟨-,c1,-,-,-⟩:=gb h.Z;have cx:w.cell? ⟨j,i*3,none⟩=some (.slice D t.ops.length F):=by
  have:=h.row.2.cells (g:=j) rfl _ _ (Ib s.U vs i t _ h.row.1 S H 0 _ rfl);rw[A1,aY,bK]at this;exact this
 have L:(Value.slice (some ⟨j,0,none⟩) s.U.length E).ownBlock=some j:=rfl;obtain⟨_,zx,cur,ty,fr0,Oq,_,o,r,m⟩:=h.cells mF (k:=j) (.inr (.inl L));have fx:w.frozen? ⟨j,i*3,none⟩=false:=by
  obtain⟨_,_,cur',hc'⟩:=fs h.row.2 L;simp[World.frozen?,hc']
 have zg:=h.Z.lt;have Bc:n<=w.heap.size:=by omega
 have C:((w.alloc (.cells #[.int .i64 b,.string key,.string f,.bool false] 51)).drew).ownsRow n 51 4 (.slice D t.ops.length F) t.ops.length (uN t.ops):=gO B (((Mod.refl dt w).alloc _).drew) (λ_ _ _ _ e=>e);obtain⟨v7,w7,gT,eX,eh,oX,ib⟩:=C0 (P:=Tryz.prog) _ n 44 44 51 i0 _ 4 48 Tryz.wP hpi hz0 hz1 hz2 rfl (by omega) _ _ _ C ⟨w.heap.size,0,none⟩ 1 1 (BR ⟨b,key,f,false⟩) rfl (A7 (A0 w _)) (λu H=>by simp[BR]at H;obtain rfl|rfl|rfl|rfl:=H <;> rfl) (by unfold maxLen;omega) (by omega) (by show n<=(w.alloc _).heap.size;rw[A4];omega);obtain⟨a7,fV,qQ⟩:=fU eX;subst qQ;have I:Mod (λk=>(Value.slice D t.ops.length F).ownBlock=some k) w w7:=(((Mod.refl _ w).alloc _).drew).grown eh (λx L _=>L);have hnb:(Value.slice D t.ops.length F).ownBlock≠some gs:=pf B h.Z (by decide);have O:(Value.slice D t.ops.length F).ownBlock≠some j:=λe=>by
  have:=(o L).symm.trans (m ⟨_,V,e⟩);exact absurd this (by decide)
 have c17:=I.cell c1 hnb;have cx7:=I.cell cx O;have fx7:=(I.frozen (p:=⟨j,i*3,none⟩) zx O).trans fx;have zx7:=aJ zx I.size;have vM:Hid (fW w n c gs g y (.slice (some ⟨j,0,none⟩) s.U.length E) vs {s with U:=s.U.set i ⟨t.ops++[⟨b,key,f,false⟩],t.eP,t.fN⟩} (w7.setCell ⟨j,i*3,none⟩ (.slice a7 (t.ops.length+1) fV))):=by
  refine h.zD mF S H I ?_ (λk hk=>?_)
  .unfold nG;rw[WZ,aE];exact eX
  .obtain q|q:=ib
   .exact .inl (by rw[<-q];exact hk)
   .rw[q]at hk;simp only[ag]at hk;have:((w.alloc (.cells #[.int .i64 b,.string key,.string f,.bool false] 51)).drew).heap.size=w.heap.size+1:=A4 _ _;omega
 have hsz:=X.sz;obtain⟨_,t0⟩:=X.at0;obtain⟨_,t4⟩:=aF.1 t4;obtain⟨_,t5⟩:=aF.1 t5;obtain⟨_,t3⟩:=aF.1 t3;obtain⟨_,M⟩:=aF.1 M;have ca7:=I.cell Y (kV _ V);have cp7:=I.cell W (Q _ V);have HF:=dk X;have HN:=dk hN;have N:Mod dt w (w.alloc (.cells #[.int .i64 b,.string key,.string f,.bool false] 51)).drew:=((Mod.refl dt w).alloc _).drew;have ew:wrap64 (id-1)=(i:Int):=by rw[K,show(i:Int)+1-1=(i:Int) by omega];exact B7 _ ⟨by omega,by omega⟩
 have Xr:IntKind.i64.wrap (id-1)=(i:Int):=by rw[K,show(i:Int)+1-1=(i:Int) by omega];exact C2 _ ⟨by omega,by omega⟩
 have zP:(i:Int)<(s.U.length:Int):=by omega
 have hi0:(0:Int)<=(i:Int):=by omega
 have z:Hid (w.drew.cell? ⟨gs,1,none⟩=some (.slice (some ⟨j,0,none⟩) s.U.length E)/\w.drew.cell? ⟨j,i*3,none⟩=some (.slice D t.ops.length F)/\w.drew.cell? ⟨J,0,none⟩=some (.int .i64 b)/\w.drew.cell? ⟨G,1,none⟩=some (.string f)):=⟨c1,cx,Y,W⟩;have zh:Hid ((w.alloc (.cells #[.int .i64 b,.string key,.string f,.bool false] 51)).drew.cell? ⟨gs,1,none⟩=some (.slice (some ⟨j,0,none⟩) s.U.length E)/\(w.alloc (.cells #[.int .i64 b,.string key,.string f,.bool false] 51)).drew.cell? ⟨j,i*3,none⟩=some (.slice D t.ops.length F)/\(w.alloc (.cells #[.int .i64 b,.string key,.string f,.bool false] 51)).drew.cell? ⟨J,0,none⟩=some (.int .i64 b)/\(w.alloc (.cells #[.int .i64 b,.string key,.string f,.bool false] 51)).drew.cell? ⟨G,1,none⟩=some (.string f)):=⟨N.cell c1 (λe=>e),N.cell cx (λe=>e),N.cell Y (λe=>e),N.cell W (λe=>e)⟩;have qa:Hid (w7.cell? ⟨gs,1,none⟩=some (.slice (some ⟨j,0,none⟩) s.U.length E)/\w7.cell? ⟨j,i*3,none⟩=some (.slice D t.ops.length F)/\w7.cell? ⟨J,0,none⟩=some (.int .i64 b)/\w7.cell? ⟨G,1,none⟩=some (.string f)):=⟨c17,cx7,ca7,cp7⟩;clear h X hN B C eX ib oX N c1 cx I K o r m H V S Oq L Y W kV Q;refine CM 25 (λl=>l.cell? ⟨gs,1,none⟩=some (.slice (some ⟨j,0,none⟩) s.U.length E)/\l.cell? ⟨j,i*3,none⟩=some (.slice D t.ops.length F)/\l.cell? ⟨J,0,none⟩=some (.int .i64 b)/\l.cell? ⟨G,1,none⟩=some (.string f)) rfl ?_;refine fR 25 0 161 (.pointer (some ⟨gs,0,none⟩)) rfl rfl (λc a w h=>h) z.out ⟨by rfl,λl d=>by obtain⟨A,o,r,m⟩:=d;go_simp⟩ ?_;refine fR 25 1 162 (.pointer (some ⟨gs,0,none⟩)) rfl rfl (λc a w h=>h) z.out ⟨by rfl,λl d=>by obtain⟨A,o,r,m⟩:=d;go_simp⟩ ?_;refine fR 25 2 163 (.pointer (some ⟨gs,1,none⟩)) rfl rfl (λc a w h=>h) z.out ⟨by rfl,λl d=>by obtain⟨A,o,r,m⟩:=d;go_simp⟩ ?_;refine fR 25 3 164 (.slice (some ⟨j,0,none⟩) s.U.length E) rfl rfl (λc a w h=>h) z.out ⟨by rfl,λl d=>by obtain⟨A,o,r,m⟩:=d;go_simp⟩ ?_;refine fR 25 4 165 (.int .i64 id) rfl rfl (λc a w h=>h) z.out ⟨by rfl,λl d=>by obtain⟨A,o,r,m⟩:=d;go_simp⟩ ?_;refine fR 25 5 166 (.int .i64 i) rfl rfl (λc a w h=>h) z.out ⟨by rfl,λl d=>by obtain⟨A,o,r,m⟩:=d;go_simp⟩ ?_;refine fR 25 6 167 (.pointer (some ⟨gs,0,none⟩)) rfl rfl (λc a w h=>h) z.out ⟨by rfl,λl d=>by obtain⟨A,o,r,m⟩:=d;go_simp⟩ ?_;refine fR 25 7 168 (.pointer (some ⟨gs,0,none⟩)) rfl rfl (λc a w h=>h) z.out ⟨by rfl,λl d=>by obtain⟨A,o,r,m⟩:=d;go_simp⟩ ?_;refine fR 25 8 169 (.pointer (some ⟨gs,1,none⟩)) rfl rfl (λc a w h=>h) z.out ⟨by rfl,λl d=>by obtain⟨A,o,r,m⟩:=d;go_simp⟩ ?_;refine fR 25 9 170 (.slice (some ⟨j,0,none⟩) s.U.length E) rfl rfl (λc a w h=>h) z.out ⟨by rfl,λl d=>by obtain⟨A,o,r,m⟩:=d;go_simp⟩ ?_;refine fR 25 10 171 (.int .i64 id) rfl rfl (λc a w h=>h) z.out ⟨by rfl,λl d=>by obtain⟨A,o,r,m⟩:=d;go_simp⟩ ?_;refine fR 25 11 172 (.int .i64 i) rfl rfl (λc a w h=>h) z.out ⟨by rfl,λl d=>by obtain⟨A,o,r,m⟩:=d;go_simp⟩ ?_;refine fR 25 12 173 (.pointer (some ⟨j,i*3,none⟩)) rfl rfl (λc a w h=>h) z.out ⟨by rfl,λl d=>by obtain⟨A,o,r,m⟩:=d;go_simp⟩ ?_;refine fR 25 13 174 (.pointer (some ⟨j,i*3,none⟩)) rfl rfl (λc a w h=>h) z.out ⟨by rfl,λl d=>by obtain⟨A,o,r,m⟩:=d;go_simp⟩ ?_;refine fR 25 14 175 (.slice D t.ops.length F) rfl rfl (λc a w h=>h) z.out ⟨by rfl,λl d=>by obtain⟨A,o,r,m⟩:=d;go_simp⟩ ?_;refine fR 25 15 176 (.pointer (some ⟨J,0,none⟩)) rfl rfl (λc a w h=>h) z.out ⟨by rfl,λl d=>by obtain⟨A,o,r,m⟩:=d;go_simp⟩ ?_;refine fR 25 16 177 (.int .i64 b) rfl rfl (λc a w h=>h) z.out ⟨by rfl,λl d=>by obtain⟨A,o,r,m⟩:=d;go_simp⟩ ?_;refine fR 25 17 178 (.string key) rfl rfl (λc a w h=>h) z.out ⟨by rfl,λl d=>by obtain⟨A,o,r,m⟩:=d;go_simp⟩ ?_;refine fR 25 18 179 (.pointer (some ⟨G,1,none⟩)) rfl rfl (λc a w h=>h) z.out ⟨by rfl,λl d=>by obtain⟨A,o,r,m⟩:=d;go_simp⟩ ?_;refine fR 25 19 180 (.string f) rfl rfl (λc a w h=>h) z.out ⟨by rfl,λl d=>by obtain⟨A,o,r,m⟩:=d;go_simp⟩ ?_;refine fR 25 20 181 (.agg #[.int .i64 b,.string key,.string f,.bool false]) rfl rfl (λc a w h=>h) z.out ⟨by rfl,λl d=>by obtain⟨A,o,r,m⟩:=d;go_simp⟩ ?_;refine kJ 25 21 182 rfl rfl (by kernel_rfl) rfl (v:=.slice (some ⟨w.heap.size,0,none⟩) 1 1) (w':=(w.alloc (.cells #[.int .i64 b,.string key,.string f,.bool false] 51)).drew) (by go_simp) zh.out ?_;refine kJ 25 22 183 rfl rfl (by kernel_rfl) rfl (v:=.slice a7 (t.ops.length+1) fV) (w':=w7) (yz (s:=.tmp 175) (x:=.tmp 182) (t:=44) rfl (by go_simp) (by go_simp) gT) qa.out ?_;refine kJ 25 23 184 rfl rfl (by kernel_rfl) rfl (v:=.pointer (some ⟨j,i*3,none⟩)) (w':=w7) (by go_simp) qa.out ?_;refine kJ 25 24 185 rfl rfl (by kernel_rfl) rfl (v:=.pointer (some ⟨j,i*3,none⟩)) (w':=w7) (by go_simp) qa.out ?_;refine KX 25 rfl (by kernel_rfl) rfl (w':=w7.setCell ⟨j,i*3,none⟩ (.slice a7 (t.ops.length+1) fV)) (by go_simp) ?_;refine⟨by kernel_rfl,?_⟩;show R _ _;refine HN.out _ _ ?_ vM.out;refine jX.Kt ?_ _
 repeat (refine jX.put ?_ _ (by decide))
 exact HF.out
