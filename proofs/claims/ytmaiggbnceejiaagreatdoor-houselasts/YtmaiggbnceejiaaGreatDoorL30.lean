import Derived.Test.YtmaiggbnceejiaaGreatDoorL27
set_option linter.unusedVariables false
set_option maxRecDepth 100000
set_option maxHeartbeats 16000000
namespace Go.Proofs.YtmaiggbnceejiaaGreatDoor
open Go.RowKit Go.Lib Go.Maps
variable {w w':World}{n c g j k b:Nat}{y:dq}{s:dp}{v:Value}{L:Lo}{bs:List Nat}{nv lv:Nat->Value}{ns:List ec}{x:ec}{ms:List eG}{l:jS}{G:Nat->Prop}
theorem eJ.Rl(h:eJ w n c g y s){d:List Int}(m:Mod (eQ y.dr) w w')(u:qy w' n (some y.dr) d):eJ w' n c g y {s with dead:=d}/\eu w y w' y:=by
 have own:=h.own;have q:Qm w (y.lo n) (eQ y.dr):=λz p e=>by
  simp only[eQ]at e;subst e;rintro(a|⟨⟨A,E,a⟩,_⟩)
  .have B:=(own.lt y.dr (by rw[own.dead];simp)).1;have C:y.dr<n:=a;omega
  .obtain⟨e,_⟩|⟨b,D,e,_,⟨es,clock,h2,_⟩,_⟩:=h.dead
   .cases e
   .cases e
    rw[h2]at a;simp at a
 have ht:su w w' n y (λt=>t=.dead):=⟨⟨_,m,q,λz p e=>by
  simp only[eQ]at e;subst e;exact⟨own.dead,by rw[own.dead];simp⟩⟩⟩
 refine⟨⟨h.vC ht (by simp),h.xN ht (by simp),u,h.vB ht (by simp),h.qn,h.pz ht (by simp),h.ir,λk b l o r=>h.rU ht o r (by simp) (λd _=>by simp),h.py ht (by simp),h.lJ,λi b t o f=>h.Gs ht o f (by simp),own.more m.size⟩,⟨m.mono (λz p e=>by simp only[eQ]at e;subst e;rw[own.dead];simp),λ_ _=>rfl⟩,rfl,rfl,rfl,rfl,rfl⟩
theorem yWi(n c g:Nat)(y:dq)(s:dp)(id:Int)(w:World)(h:eJ w n c g y s)(hs:mo s)(i:gi id)(hd1:s.dead.length<=1000)(hd2:s.J.down.length<=1000)(C:s.J.lost+200<=4611686018427387904) :
  Calls Tryz.prog 60 #[.pointer (some ⟨g,0,none⟩),.int .i64 id] w (jG w n c g y (qG s id).1 (qG s id).2):=by
 have p:=dk (yEt n c g y s id w h hs);have R:=dk h
 cases a:nf s id with
|none=>
  rw[a]at p;have H:Hid (qG s id=(s,7)):=by unfold Hid qG;rw[a];rfl
  clear h a;go_enter Tryz.func60,Tryz.ntmps60;go_upto_region 2 with(first
  |(go_at_call 55;refine p.out.mono ?_;rintro e o⟨f,m⟩;obtain rfl:=zZr f)
  |fail)
  have F:Hid (jG w n c g y (qG s id).1 (qG s id).2 (.returned (.iface 90 (.int .i64 7))) o):=by
   unfold Hid;rw[H.out];exact⟨by rw[nL (by omega)],y,R.out.quiet m,eu.quiet m⟩
  clear m;go_wp2_with fail;go_ret;exact F.out
|some Y=>
  obtain⟨kk,j⟩:=Y;rw[a]at p;have H:Hid (qG s id=({s with dead:=s.dead++[id],J:=Fb s.J id},0)):=by unfold Hid qG;rw[a];rfl
  have q:keyOf Tryz.prog 3 (.int .i64 id)=some (.int .i64 id):=keyOf_int_mk Tryz.underlying3 (Qd i);clear h a;go_enter Tryz.func60,Tryz.ntmps60;go_upto_region 4 with(first
  |(go_at_call 55;refine p.out.mono ?_;rintro e o⟨f,m⟩;obtain⟨b,d,-,-,rfl⟩:=zZq f)
  |fail)
  have A:=dk (R.out.quiet m);have V:Hid (eu w y o y):=eu.quiet m;obtain⟨-,c1,-⟩:=kX A.out.Z;have hg3:=A.out.Z.lt;have W:=A.out.dead;obtain⟨e,_⟩|⟨b',D,e,Gm,hown,hhas⟩:=W
  .cases e
  cases e
  have E:=dk hown;have P:=dk hhas;clear hown hhas m f p;go_upto_region 5 with(first
  |(at_mapUpdate;refine wpList_mapUpdate_own _ rfl _ _ _ 75 rfl 3 158 CX Tryz.underlying75 unitElem y.dr _ D rfl E.out (by unfold maxLen;omega) _ _ _ rfl rfl q _ [] unitElem_mk ?_;intro I Q S)
  |fail)
  have N:Mod (eQ y.dr) o I:=(Mod.refl _ o).grown S (λx hx _=>by cases hx;rfl);obtain⟨z,t⟩:=A.out.Rl N (qy.put (L:=⟨n,λ_=>False⟩) P.out E.out.isMap Gm (aD _) i Q);have u:=dk (yWp (y.lo n) g y.wv y.mr s.J id I z.sM i (by omega) C);have Yb:=dk z;have Du:=dk (V.out.trans t);have hg4:=z.Z.lt;clear z t N Q S E P c1;go_wp2_with fail;refine u.out.mono ?_;rintro e U⟨T,X,rfl,K,B,kW,O⟩;obtain⟨M,r⟩:=Yb.out.uQ O K (.inl B) kW;have F:Hid (jG w n c g y (qG s id).1 (qG s id).2 (.returned .nilIface) U):=by
   unfold Hid;rw[H.out];exact⟨by rw[pM],_,M,Du.out.trans ⟨r,rfl,rfl,rfl,rfl,rfl⟩⟩
  clear M r K O u;go_wp2_with fail;go_ret;exact F.out
theorem RN{P:Program}{d:Array Oper}{rest:List Oper}{o:Oper}{a:Act}{Q:Exit->Act->World->Prop}(f:o.guard=none)(e:(execOp a.eval o).run P w=.ok (.value v) w')(h:wpList P d Q rest (a.put o.dst v) w'):wpList P d Q (o::rest) a w:=by
 refine A2 f λK i=>?_;unfold Oper.wp;rw[e];exact i _ _ h
structure ly(w:World)(L:Lo)(bs:List Nat)(nv lv:Nat->Value)(ns:List ec):Prop where
 len:bs.length=ns.length
 nd:bs.Nodup
 node:∀(j c:Nat) s,bs[j]?=some c->ns[j]?=some s->gI w L c (nv c) (lv c) s
 ap:∀c∈bs,∀c'∈bs,c≠c'->∀z,iV c (nv c) (lv c) z->¬iV c' (nv c') (lv c') z
theorem ly.quiet(h:ly w L bs nv lv ns)(d:Mod dt w w'):ly w' L bs nv lv ns:=⟨h.len,h.nd,λj c s e a=>(h.node j c s e a).quiet d,h.ap⟩
def kr(f:Nat->Value)(d:Nat)(v:Value):Nat->Value:=λx=>if x=d then v else f x
theorem vh(f:Nat->Value)(d:Nat)(v:Value):kr f d v d=v:=by simp[kr]
theorem vk(f:Nat->Value){d x:Nat}(v:Value)(h:x≠d):kr f d v x=f x:=by simp[kr,h]
theorem ly.turn(h:ly w L bs nv lv ns)(A:bs[j]?=some c){B C:Value}(N:Mod (iV c (nv c) (lv c)) w w')(hN:gI w' L c B C x)(P:ik w (nv c) B)(O:ik w (lv c) C):ly w' L bs (kr nv c B) (kr lv c C) (ns.set j x):=by
 have H:=aC A;have E:j<ns.length:=by have:=(aB.1 A).1;have:=h.len;omega
 have t:=h.node j c _ A (aA E);have u:∀d∈bs,∀z,iV d (nv d) (lv d) z->z<w.heap.size:=λd m z f=>by
  obtain⟨i,M⟩:=aP m;have F:i<ns.length:=by have:=(aB.1 M).1;have:=h.len;omega
  exact((h.node i d _ M (aA F)).lt f).2.1
 have J:∀z,iV c B C z->z<w.heap.size->iV c (nv c) (lv c) z:=λz f Q=>by
  obtain e|e|e:=f
  .exact .inl e
  .obtain q|q:=P
   .exact .inr (.inl (by rw[<-q];exact e))
   .have:=q z e;omega
  .obtain q|q:=O
   .exact .inr (.inr (by rw[<-q];exact e))
   .have:=q z e;omega
 refine⟨by rw[ai];exact h.len,h.nd,λi d s m r=>?_,λd m p o a z f=>?_⟩
 .rw[rE]at r;by_cases e:i=j
  .rw[aK ⟨e,by omega⟩]at r
   cases r
   subst e;rw[A]at m;cases m
   rw[vh,vh];exact hN
  .rw[aH (λq=>e q.1)]at r;have a:d≠c:=λq=>e (by subst q;exact KM h.nd m A);rw[vk _ _ a,vk _ _ a];exact gI.mod (h.node i d s m r) N (gI.qm t) (λz f q=>h.ap d (aC m) c H a z f q)
 .by_cases e:d=c
  .subst e;have K:p≠d:=λq=>a q.symm;rw[vh,vh]at f;rw[vk _ _ K,vk _ _ K];intro q;have D:=u p o z q;exact h.ap d m p o a z (J z f D) q
  .rw[vk _ _ e,vk _ _ e]at f;by_cases I:p=c
   .subst I;rw[vh,vh];intro q;exact h.ap d m p o a z f (J z q (u d m z f))
   .rw[vk _ _ I,vk _ _ I];exact h.ap d m p o a z f
theorem zRb:∀(ms:List eG) (us:List Value) (a:List eG) (d:List Value),us.length=ms.length->iW (ms++a) (us++d)=iW ms us++iW a d
|[],[],a,d,_=>by simp[iW]
|[],_::_,_,_,h=>by simp at h
|_::_,[],_,_,h=>by simp at h
|m::ms,u::us,a,d,h=>by simp[iW,zRb ms us a d (by simpa using h)]
theorem zRa:∀(ms:List eG) (us:List Value),us.length=ms.length->(∀(i:Nat) m u,ms[i]?=some m->us[i]?=some u->ie w L u m.z.writes)->∀u∈iW ms us,u.oneCell'=true
|[],[],_,_=>by simp[iW]
|[],_::_,h,_=>by simp at h
|_::_,[],h,_=>by simp at h
|m::ms,u::us,h,f=>by
  intro x q;rcases aM.1 q with e|e
  .obtain⟨a,d,rfl,_⟩:=f 0 m u rfl rfl;exact yHv m a _ d x e
  .exact zRa ms us (by simpa using h) (λi p o t r=>f (i+1) p o (by simpa using t) (by simpa using r)) x e
theorem fF.join{r:Value}{a:List eG}(h:fF w L v ms)(k:fF w L r a)(hl:ms.length+a.length<=1000)(hb:L.n<=w.heap.size)(E:TypeId) :
  ∃f w',(Builtin.append_ #[76,76] E #[v,r]).run Tryz.prog w=.ok f w'/\fF w' L f (ms++a)/\w.grownBy w' v.ownBlock/\(f.ownBlock=v.ownBlock\/f.ownBlock=some w.heap.size):=by
 obtain⟨S,V,J,I,H⟩:=A3 Tryz.qk;obtain⟨D,C,B,X,W⟩:=h;obtain⟨t,F,R,Q,k4⟩:=k;obtain⟨e,e0⟩|⟨g',cap',cur,e,_⟩:=R.2
 .subst e;have p:a=[]:=aR e0;subst p;refine⟨v,w,run_append_owned_none (P:=Tryz.prog) (w:=w) L.n 76 E 112 S 9 Tryz.underlying76 V v _ _ B,by rw[cY];exact⟨D,C,B,X,W⟩,⟨rfl,rfl,rfl,aD _,λ_ _ _=>rfl⟩,.inl rfl⟩
 .subst e;have N:=R.cells (g:=g') rfl;obtain⟨f,w',Z,o,q,_,O⟩:=C0 (P:=Tryz.prog) w L.n 76 E 112 S _ 9 88 Tryz.underlying76 V J I H rfl (by omega) v _ _ B ⟨g',0,none⟩ a.length cap' (iW a t) (Ef a t F) N (zRa a t F Q) (by unfold maxLen;omega) (by omega) hb;have U:Mod (λz=>v.ownBlock=some z) w w':=(Mod.refl _ w).grown q (λx Y _=>Y);have T:=Qm.row B (aD _) (by decide);refine⟨f,w',Z,⟨D++t,by rw[aE,aE,C,F],?_,λi m u d A=>?_,λm K=>?_⟩,q,O⟩
  .rw[zRb ms D a t C,aE];exact o
  .by_cases M:i<ms.length
   .rw[aG M]at d;rw[aG (by omega)]at A;exact(X i m u d A).mod U T
   .rw[aL (by omega)]at d;rw[aL (by omega),C]at A;exact(Q _ m u d A).mod U T
  .rcases aM.1 K with e|e
   .exact W m e
   .exact k4 m e
def iY(l:jS):List Int:=l.nodes.map λ(x:ec)=>x.id
def NN(l:jS)(x:ec):List eG:=(lH (jr x (pJ l) (iY l))).2
def rL(l:jS)(j:Nat):List ec:=(l.nodes.take j).map (kv l)++l.nodes.drop j
def sG(l:jS)(j:Nat):List eG:=(l.nodes.take j).flatMap (NN l)
theorem yVg(h:l.nodes[j]?=some x):(rL l j)[j]?=some x:=by
 have a:=(aB.1 h).1;unfold rL;rw[aL (by simp;omega)];simp only[ao,af,dC];rw[show j+(j-min j l.nodes.length)=j by omega];exact h
theorem yVf(h:l.nodes[j]?=some x):(rL l j).set j (kv l x)=rL l (j+1):=by
 have a:=(aB.1 h).1;unfold rL;rw[rq h,ay,wJ h];rw[dH _ _ (by simp;omega)];have e:j-((l.nodes.take j).map (kv l)).length=0:=by simp;omega
 rw[e];simp
theorem yVh(l:jS):rL l l.nodes.length=(nj l).1.nodes:=by
 unfold rL;rw[bQ,cy,cY];rfl
theorem zYi(h:l.nodes[j]?=some x):sG l (j+1)=sG l j++NN l x:=by unfold sG;rw[rq h,dN];simp
theorem yDd(l:jS):sG l l.nodes.length=(nj l).2:=by unfold sG;rw[bQ];rfl
theorem yXa(l:jS)(x:ec):(NN l x).length<=1:=Nz _
theorem yDc(l:jS):∀j,(sG l j).length<=j:=by
 intro j
 induction j with
|zero=>simp[sG]
|succ j a=>
  by_cases d:j<l.nodes.length
  .rw[zYi (aA d),aE];have:=yXa l (l.nodes[j]);omega
  .have e:l.nodes.take (j+1)=l.nodes.take j:=by rw[bM (by omega),bM (by omega)]
   unfold sG at a⊢;rw[e];omega
theorem kF.modG{ns:List Int}(h:kF w v ns)(p:Mod G w w')(q:∀k,v.ownBlock=some k->¬G k):kF w' v ns:=by
 obtain⟨a,f,m,u,t,e⟩:=h;refine⟨a,f,m,u,t,?_⟩;obtain e|⟨b,d,i,r⟩:=e
 .exact .inl e
 .exact .inr ⟨b,d,i,λj x o=>p.cell (r j x o) (q b (by rw[m,i];rfl))⟩
theorem ly.mod(h:ly w L bs nv lv ns)(f:Mod G w w')(e:Qm w L G)(i:∀c∈bs,∀z,iV c (nv c) (lv c) z->¬G z):ly w' L bs nv lv ns:=
 ⟨h.len,h.nd,λj c s a d=>gI.mod (h.node j c s a d) f e (i c (aC a)),h.ap⟩
theorem ly.row(h:ly w L bs nv lv ns)(p:fF w L v ms)(r:c∈bs){z:Nat}(o:iV c (nv c) (lv c) z):v.ownBlock≠some z:=λe=>by
 obtain⟨_,u,f⟩:=p.block e;obtain⟨j,i⟩:=aP r;have d:j<ns.length:=by have:=(aB.1 i).1;have:=h.len;omega
 have hN:=h.node j c _ i (aA d);obtain q|q|q:=o
 .have hB:=hN.Z;unfold dx at hB;rw[<-q,f]at hB;simp at hB
 .obtain⟨_,_,m,a⟩:=fs hN.ns q;rw[f]at a;simp at a
 .obtain⟨A,_,t,_⟩:=hN.lg;obtain⟨_,_,m,a⟩:=fs t q;rw[f]at a;simp at a
theorem yAd(n:Nat)(L:Lo)(b:Nat)(bs:List Nat)(nv lv:Nat->Value)(l:jS)(rv:Value)(w:World)(hLn:L.n=n)(hB:dx w b [rv,.int .i64 l.heard] 120)(hr:w.ownsRow n 91 1 rv bs.length (bs.map jd))(hN:ly w L bs nv lv l.nodes)(hne:0<l.nodes.length)(h4:l.nodes.length<=4)
  (hE:0<=pJ l/\pJ l<=100) (jF:∀x∈l.nodes,x.dv<pJ l) (hid:(iY l).Nodup) (kt:n<=w.heap.size) :
  Calls Tryz.prog 61 #[.pointer (some ⟨b,0,none⟩)] w λe w'=>∃v D E,e=.returned v/\ly w' L bs D E (nj l).1.nodes/\fF w' L v (nj l).2/\mN w v/\(∀c∈bs,ik w (nv c) (D c)/\ik w (lv c) (E c))/\Mod (λz=>z∈bs) w w':=by
 obtain⟨j0,hj,LJ,LI,LH⟩:=A3 Tryz.tN;have J:=hN.len;obtain⟨d0,hd0⟩:∃d,bs[0]?=some d:=⟨_,aA (by omega)⟩;obtain⟨x0,hx0⟩:∃x,l.nodes[0]?=some x:=⟨_,aA hne⟩;have UB:=hN.node 0 d0 x0 hd0 hx0;have Xl:pJ l=x0.dv+1:=by unfold pJ;rw[aI,hx0];rfl
 have b0:=hB.cell 0 rfl;obtain⟨ng,iq,qS,cn⟩:=yv hr hd0;rw[qS,J]at b0;have so:=dk (yNx _ _ _ _ _ _ UB);have hint:gi (pJ l):=by unfold gi;omega
 obtain⟨w1,hw1⟩:∃x,x=w.alloc (.cells #[.int .i64 (x0.dv+1),.slice none 0 0] 160):=⟨_,rfl⟩;have dy:Mod dt w w1:=by rw[hw1];exact(Mod.refl _ w).alloc _
 have gM:dx w1 w.heap.size [.int .i64 (x0.dv+1),.slice none 0 0] 160:=by rw[hw1];exact dx.new w _ _
 have zb:=hB.lt;have hrI:(0:Int)<(l.nodes.length:Int):=by omega
 have DO:-1<=x0.dv/\x0.dv<=99:=by omega
 have HN:=dk hN;have HB:=dk hB;have FG:Hid (w.ownsRow n 91 1 rv bs.length (bs.map jd)):=hr;have HRV:=dk qS;have b1:=dy.cell b0 (λe=>e);have zb1:=aJ zb dy.size;have fh:=dk dy;have kh:=dk gM;have HEQ:=dk Xl;have HID0:Hid (iY l=iY l):=rfl;clear hB hr hN UB qS hx0 hd0 dy gM Xl;go_enter Tryz.func61,Tryz.ntmps61;go_upto_region 2 with(first
 |(go_at_call 106;refine so.out.mono ?_;rintro e a⟨rfl,rfl⟩)
 |fail)
 rw[<-hw1];clear hw1 b0 zb so;go_wp2_with fail;go_loopw [25] (λi0 wr=>∃(i:Nat) (cv:Value),i<=l.nodes.length/\i0=.int .i64 i/\dx wr a.heap.size [.int .i64 (x0.dv+1),cv] 160/\wr.ownsRow a.heap.size 3 1 cv ((iY l).take i).length (((iY l).take i).map (Value.int .i64))/\Mod dt a wr) (λi0 _=>l.nodes.length-(intOf i0).toNat)
 case atStart=>exact⟨0,.slice none 0 0,aT _,rfl,kh.out,A6 _ _ _ _,fh.out⟩
 case round=>
  obtain⟨i,cv,hil,rfl,m,f,S⟩:=hrel;obtain⟨r,hwo⟩:∃x,x=wr:=⟨_,rfl⟩;subst hwo;obtain⟨V,M,hcv⟩:=fU f;subst hcv;have B:((iY l).take i).length=i:=by unfold iY;rw[af,ao];omega
  rw[B]at m f;by_cases hlt:i<l.nodes.length
  .obtain⟨d,hd⟩:∃d,bs[i]?=some d:=⟨_,aA (by omega)⟩;obtain⟨x,A⟩:∃x,l.nodes[i]?=some x:=⟨_,aA hlt⟩;have MP:=HN.out.node i d x hd A;obtain⟨Rz,SB,h,UR⟩:=yv FG.out hd;have N:Rz=ng:=by
    rw[HRV.out]at h;simp only[Value.slice.injEq,ag,Addr.mk.injEq]at h;exact h.1.1.symm
   subst N;have cd:=S.cell UR (λe=>e);have TU:(iY l).take (i+1)=(iY l).take i++[x.id]:=rq (by unfold iY;rw[ah,A];rfl);have R:Mod dt a r.drew:=S.drewN 1;have HNi:=dk (MP.quiet R);have HRi:Hid (r.drew.ownsRow a.heap.size 3 1 (.slice V i M) i (((iY l).take i).map (Value.int .i64))):=gO f ((Mod.refl dt r).drewN 1) (λ_ _ _ _ e=>e);have q1:=m.cell 1 rfl;have f1:=m.frozen 1;have zc:=m.lt;have hnc:=pf f m (by decide);have Cd:=S.size;have zP:(i:Int)<(l.nodes.length:Int):=by omega
   have hi0:(0:Int)<=(i:Int):=by omega
   have iu:i+1<=maxLen:=by unfold maxLen;omega
   have iv:(i+1)*8<=140737488355328:=by omega
   have HBr:=dk m;have HMd:=dk R;have pH:=dk TU;have HNC:=dk hnc;have QE:=dk B;have hlx:(((iY l).take i).map (Value.int .i64)).length=i:=by rw[ao,B]
   clear MP h UR S R f m TU hd A hnc B;go_upto_region 5 with fail
   go_region_law
    ((first
    |(go_simp;go_at_call 98;(refine(yIx _ _ _ _ _ _ HNi.out).mono ?_;rintro e w5⟨rfl,rfl⟩))
    |(refine step_append_lies _ (by rfl) _ _ _ (by rfl) a.heap.size 3 j0 _ 1 8 Tryz.underlying26 hj LJ LI LH rfl (by decide) _ _ _ (by rfl) (HRi.out.alloc _) ⟨r.heap.size,0,none⟩ 1 1 [.int .i64 x.id] (by rfl) (by rfl) (A7 (A0 r.drew _)) (by simp[Value.oneCell']) (by omega) iu iv (by simp;omega) _ rfl ?_;intro g6 mf u ij C hat GV;have jN:Mod (λk=>(Value.slice V i M).ownBlock=some k) r.drew u:=((Mod.refl _ r.drew).alloc _).grown C (λx A _=>A);have d6:=jN.cell q1 HNC.out;have e6:=(jN.frozen (p:=⟨a.heap.size,1,none⟩) zc HNC.out).trans f1)
    |fail))
   all_goals
    have FE:dx u a.heap.size [.int .i64 (x0.dv+1),.slice V i M] 160:=(HBr.out.mod ((Mod.refl dt r).drewN 1) (λe=>e)).mod jN HNC.out;have jK:Mod (eQ a.heap.size) u (u.setCell ⟨a.heap.size,1,none⟩ (.slice (some ⟨g6,0,none⟩) (i+1) mf)):=Mod.eE _ 1 _;have hn6:=pf ij FE (by decide);have HF:Hid (dx (u.setCell ⟨a.heap.size,1,none⟩ (.slice (some ⟨g6,0,none⟩) (i+1) mf)) a.heap.size [.int .i64 (x0.dv+1),.slice (some ⟨g6,0,none⟩) (i+1) mf] 160/\(u.setCell ⟨a.heap.size,1,none⟩ (.slice (some ⟨g6,0,none⟩) (i+1) mf)).ownsRow a.heap.size 3 1 (.slice (some ⟨g6,0,none⟩) (i+1) mf) ((iY l).take (i+1)).length (((iY l).take (i+1)).map (Value.int .i64))/\Mod dt a (u.setCell ⟨a.heap.size,1,none⟩ (.slice (some ⟨g6,0,none⟩) (i+1) mf))):=by
     refine⟨FE.set 1 _,?_,?_⟩
     .have h7:=gO ij jK (λk _ _ e q=>hn6 (by rw[e];exact an some q));rw[pH.out,aE,ay,QE.out];exact h7
     .have h6:Mod dt a u:=HMd.out.trans' jN (λk o e=>by have:=(fs HRi.out e).1;omega);exact h6.trans' jK (λk o e=>by simp only[eQ]at e;omega)
    clear FE jK hn6 ij C hat GV jN;go_wp2_with fail;go_roundw
    case rel=>exact⟨i+1,_,by omega,by go_num,HF.out.1,HF.out.2.1,HF.out.2.2⟩
    case measure=>simp[intOf];omega
  .obtain rfl:i=l.nodes.length:=by omega
   have GY:(iY l).take l.nodes.length=iY l:=bM (by unfold iY;simp);rw[GY]at f;have rQ:(iY l).length=l.nodes.length:=by unfold iY;simp
   have HBr:=dk m;have Dw:Hid (kF r (.slice V l.nodes.length M) (iY l)):=by
    have:r.ownsRow a.heap.size 3 1 (.slice V l.nodes.length M) (iY l).length ((iY l).map (Value.int .i64)):=by rw[rQ];exact f
    exact kF.iX this
   have KB:Hid (∀z,(Value.slice V l.nodes.length M).ownBlock=some z->a.heap.size<=z):=λz hz=>(fs f hz).1;have Dq:=dk S;have HIL:=dk rQ;have bo:=S.cell (HB.out.cell 0 rfl) (λe=>e);rw[HRV.out,J]at bo;clear m f S GY B rQ;go_wp2_with fail;go_loopw [6,42] (λtv j1 wr=>∃(j:Nat) (Y X:Nat->Value),j<=l.nodes.length/\j1=.int .i64 j/\ly wr L bs Y X (rL l j)/\fF wr L tv (sG l j)/\mN r tv/\(∀c∈bs,ik a (nv c) (Y c)/\ik a (lv c) (X c))/\Mod (λz=>z∈bs) r wr) (λ_ j1 _=>l.nodes.length-(intOf j1).toNat)
   case atStart=>exact⟨0,nv,lv,aT _,rfl,HN.out.quiet Dq.out,fF.nil _ _,λk o=>by simp[Value.ownBlock]at o,λc _=>⟨ik.refl _ _,ik.refl _ _⟩,Mod.refl _ _⟩
   case round=>
    obtain⟨j,Y,X,hjl,rfl,zS,Tw,gE,H,W⟩:=hrel;obtain⟨ta,gz,pj⟩:=Tw.slice;subst pj;have zJ:=yDc l j;by_cases qW:j<l.nodes.length
    .obtain⟨d,hd⟩:∃d,bs[j]?=some d:=⟨_,aA (by omega)⟩;obtain⟨x,A⟩:∃x,l.nodes[j]?=some x:=⟨_,aA qW⟩;have Ae:=aC hd;have O:=zS.node j d x hd (yVg A);obtain⟨Rz,SB,h,UR⟩:=yv FG.out hd;have N:Rz=ng:=by
      rw[HRV.out]at h;simp only[Value.slice.injEq,ag,Addr.mk.injEq]at h;exact h.1.1.symm
     subst N;have Sz:Rz∉bs:=λq=>by
      obtain⟨i,F⟩:=aP q;have I:i<l.nodes.length:=by have:=(aB.1 F).1;omega
      have UJ:=(HN.out.node i Rz _ F (aA I)).Z;exact pf FG.out UJ (by decide) (by rw[h];rfl)
     have cd:=W.cell (Dq.out.cell UR (λe=>e)) Sz;have Ge:∀c∈bs,c<a.heap.size:=λc K=>by
      obtain⟨i,F⟩:=aP K;have I:i<l.nodes.length:=by have:=(aB.1 F).1;omega
      exact(HN.out.node i c _ F (aA I)).Z.lt
     have hcb:a.heap.size∉bs:=λq=>by have:=Ge _ q;omega
     have U:=HBr.out.mod W hcb;have p0:=U.cell 0 rfl;have p1:=U.cell 1 rfl;have hIV:=Dw.out.modG W (λk o q=>by have:=KB.out k o;have:=Ge k q;omega);have T:=yWu L d (Y d) (X d) x (pJ l) (.slice V l.nodes.length M) (iY l) wr O (by have:=jF x (aC A);omega) hint hIV (λz hz=>by
      unfold iY at hz;obtain⟨q,hq,rfl⟩:=aj.1 hz;obtain⟨i,F⟩:=aP hq;have I:=(aB.1 F).1;obtain⟨c,K⟩:∃c,bs[i]?=some c:=⟨_,aA (by omega)⟩;exact(HN.out.node i c q K F).ints.1) (by rw[HIL.out];omega) (by rw[HIL.out];omega) ((zZy _ _).2 ⟨hid,by simp⟩)
     have Q:Hid (sG l (j+1)=sG l j++(lH (jr x (pJ l) (iY l))).2):=zYi A;have P:Hid ((rL l j).set j (lH (jr x (pJ l) (iY l))).1=rL l (j+1)):=yVf A;rw[HEQ.out]at T Q P;have HHB:=dk T;have MA:(j:Int)<(l.nodes.length:Int):=by omega
     have hj00:(0:Int)<=(j:Int):=by omega
     have hbl:=Nz (jr x (x0.dv+1) (iY l));have pY:=dk zS;have Up:=dk Tw;have kI:=dk gE;have HMV:=dk H;have lu:=dk W;have HD:=dk hd;have HBS:=dk Ge;have HNJ:=dk O;clear zS Tw gE H W O h UR Sz U hIV T A hd hcb Ge;go_upto_region 12 with(first
     |(go_at_call 107;refine HHB.out.mono ?_;rintro e w5⟨r5,Fx,lv5,rfl,nx,uB,Ew,Ln,Lv,fA⟩)
     |fail)
     have Lu:Mod (iV d (Y d) (X d)) wr w5:=fA.mono (λ_ _ e=>.inl e);have Gn:=pY.out.turn HD.out Lu nx (.inr Ln) Lv;rw[P.out]at Gn;have DS:fF w5 L (.slice ta (sG l j).length gz) (sG l j):=Up.out.mod Lu (gI.qm HNJ.out) (λk o q=>pY.out.row Up.out Ae q o);obtain⟨v6,u,Sf,xI,PD,uw⟩:=DS.join uB (by omega) (by rw[hLn];exact aO kt (aO Dq.out.size (aO lu.out.size fA.size))) 76;obtain⟨ra5,rc5,hr5⟩:=uB.slice;subst hr5;rw[<-Q.out]at xI;obtain⟨va6,vc6,tQ⟩:=xI.slice;subst tQ;have gR:Mod (λk=>(Value.slice ta (sG l j).length gz).ownBlock=some k) w5 u:=(Mod.refl _ w5).grown PD (λx A _=>A);have En:Qm w5 L (λk=>(Value.slice ta (sG l j).length gz).ownBlock=some k):=by
      obtain⟨us,_,h2,_⟩:=DS;exact Qm.row h2 (aD _) (by decide)
     have Jd:=Gn.mod gR En (λc K z hz q=>Gn.row DS K hz q);have JG:=aO lu.out.size fA.size;have HF:Hid (∃D E:Nat->Value,ly u L bs D E (rL l (j+1))/\fF u L (.slice va6 (sG l (j+1)).length vc6) (sG l (j+1))/\mN r (.slice va6 (sG l (j+1)).length vc6)/\(∀c∈bs,ik a (nv c) (D c)/\ik a (lv c) (E c))/\Mod (λz=>z∈bs) r u):=by
      refine⟨kr Y d Fx,kr X d lv5,Jd,xI,λk o=>?_,λc K=>?_,?_⟩
      .obtain e|e:=uw
       .exact kI.out k (by rw[<-e];exact o)
       .rw[e]at o;simp only[ag]at o;omega
      .by_cases e:c=d
       .subst e;rw[vh,vh];have hzz:=aO Dq.out.size lu.out.size;exact⟨.inr λk o=>aO hzz (Ln k o),(HMV.out c K).2.trans Lv hzz⟩
       .rw[vk _ _ e,vk _ _ e];exact HMV.out c K
      .exact(lu.out.trans' fA (λi F e=>by simp only[eQ]at e;rw[e];exact Ae)).trans' gR (λi F e=>by have:=kI.out i e;omega)
     clear Gn DS xI uB nx Ew Ln Lv fA Lu PD uw gR En Jd Q P pY Up HHB cd p0 p1;go_wp2_with (first
     |(at_builtin;refine RN rfl (yz (s:=.tmp 52) (x:=.tmp 53) (t:=76) rfl (by go_simp) (by go_simp) Sf) ?_)
     |fail)
     obtain⟨D,E,f1,f2,f3,f4,f5⟩:=HF.out;go_roundw
     case rel=>exact⟨j+1,D,E,by omega,by go_num,f1,f2,f3,f4,f5⟩
     case measure=>simp[intOf];omega
    .obtain rfl:j=l.nodes.length:=by omega
     rw[yVh]at zS;have Tv:fF wr L (.slice ta (sG l l.nodes.length).length gz) (nj l).2:=by
      have e:=Tw;generalize (sG l l.nodes.length).length=q at e⊢;rw[yDd]at e;exact e
     have HF:Hid (∃v D E,Ending.returned (.slice ta (sG l l.nodes.length).length gz)=.returned v/\ly wr L bs D E (nj l).1.nodes/\fF wr L v (nj l).2/\mN a v/\(∀c∈bs,ik a (nv c) (D c)/\ik a (lv c) (E c))/\Mod (λz=>z∈bs) a wr):=⟨_,Y,X,rfl,zS,Tv,λk o=>aO Dq.out.size (gE k o),H,(Dq.out.mono (λ_ _ e=>e.elim)).trans W⟩;clear zS Tw Tv gE H W;go_wp2_with fail;go_ret;exact HF.out
theorem eJ.JE(h:eJ w n c g y s)(r:k<s.lines.length)(m:y.gd[k]?=some b):ly w (y.lo n) (y.fu b) y.lF y.lG (s.A k).nodes:=by
 have o:=h.A k b _ m (nM r);have a:=aC m;refine⟨o.len,yEc h.own.Ba a,o.node,λd t u i f z q e=>?_⟩;have p:=h.own.node b a d t z q;rw[h.own.node b a u i z e]at p
 cases p
 exact f rfl
theorem ly.some(h:ly w L bs nv lv ns){m:List Nat}(C:m.Pairwise (·<·))(d:∀j∈m,j<bs.length):ly w L (m.map λj=>bs.getD j 0) nv lv (m.map λj=>ns.getD j ⟨0,0,[],[],0⟩):=by
 have p:∀j,j<bs.length->bs[j]?=Option.some (bs.getD j 0):=λj d=>by rw[aI,aA d];rfl
 refine⟨by simp,?_,λi c s f u=>?_,λc f A t=>?_⟩
 .rw[List.Nodup,cH];refine dA ?_ C;intro a b F D E e;have z:=p a (d a F);have H:=p b (d b D);rw[e]at z;have:=KM h.nd z H;omega
 .simp only[ah,cN]at f u;obtain⟨j,q,rfl⟩:=f;obtain⟨I,B,rfl⟩:=u;rw[q]at B;cases B
  have r:=d j (aC q);refine h.node j _ _ (p j r) ?_;have:=h.len;rw[aI,aA (by omega)];rfl
 .have o:∀c∈m.map (λj=>bs.getD j 0),c∈bs:=λc f=>by
   obtain⟨j,q,rfl⟩:=aj.1 f;exact aC (p j (d j q))
  exact h.ap c (o c f) A (o A t)
open Classical in
noncomputable def pR(w:World)(y:dq)(b:Nat)(rv:Value)(bs:List Nat)(nv lv:Nat->Value)(x:Nat):Tag:=
 if w.heap.size<=x/\rv.ownBlock=some x then .A b else if h:w.heap.size<=x/\∃c∈bs,iV c (nv c) (lv c) x then .node (Classical.choose h.2)else y.own x
theorem Vi(w:World)(y:dq)(b:Nat)(rv:Value)(bs:List Nat)(nv lv:Nat->Value){x:Nat}(h:x<w.heap.size):pR w y b rv bs nv lv x=y.own x:=by
 unfold pR;rw[aH (λe=>by omega),dif_neg (λe=>by omega)]
theorem eJ.Rj(h:eJ w n c g y s)(hk:k<s.lines.length)(hb:y.gd[k]?=some b){rv:Value}{l':jS}
  (hm:Mod (λz=>z=b\/z∈bs) w w') (hB:dx w' b [rv,.int .i64 l'.heard] 120) (hr:w'.ownsRow n 91 1 rv bs.length (bs.map jd)) (hN:ly w' (y.lo n) bs nv lv l'.nodes) (hs:bs.Sublist (y.fu b)) (h1:ik w (y.sf b) rv) (O:∀c∈bs,ik w (y.lF c) (nv c)/\ik w (y.lG c) (lv c)) :
  ∃p,eJ w' n c g p (tB s k l')/\il w y w' p/\p.gd=y.gd/\p.kP=y.kP/\p.lv=y.lv/\p.tv=y.tv/\(∀z,w.heap.size<=z->rv.ownBlock≠some z->(∀c∈bs,¬iV c (nv c) (lv c) z)->p.own z=.no)/\p.lo n=y.lo n:=by
 have own:=h.own;have N:=aC hb;have hL:=h.A k b _ hb (nM hk);have zS:=h.JE hk hb;have K:∀d∈bs,d∈y.fu b:=λd o=>hs.subset o;have Y:∀d∈bs,∃x,zj w n y d x:=λd o=>by
  obtain⟨j,hj⟩:=aP (K d o);have T:j<(s.A k).nodes.length:=by have:=(aB.1 hj).1;have:=hL.len;omega
  exact⟨_,hL.node j d _ hj (aA T)⟩
 have zK:∀d∈bs,y.own d=.node d:=λd o=>own.node b N d (K d o) d (.inl rfl);have hq:Qm w (y.lo n) (λz=>z=b\/z∈bs):=λz f e=>by
  rintro(H|⟨⟨cur,fr,H⟩,_⟩)
  .have h8:z<n:=H;obtain e|e:=e
   .subst e;have:=(own.lt z (by rw[(own.A z N).1];simp)).1;omega
   .have:=(own.lt z (by rw[zK z e];simp)).1;omega
  .obtain e|e:=e
   .subst e;have:=hL.Z;unfold dx at this;rw[this]at H;simp at H
   .obtain⟨x,B⟩:=Y z e;have:=B.Z;unfold dx at this;rw[this]at H;simp at H
 have ht:su w w' n y (λt=>t=.A b\/∃d∈bs,t=.node d):=⟨⟨_,hm,hq,λz f e=>by
  obtain e|e:=e
  .subst e;exact⟨.inl (own.A z N).1,by rw[(own.A z N).1];simp⟩
  .exact⟨.inr ⟨z,e,zK z e⟩,by rw[zK z e];simp⟩⟩⟩
 let p:dq:={y with sf:=λx=>if x=b then rv else y.sf x,fu:=λx=>if x=b then bs else y.fu x,lF:=λx=>if x∈bs then nv x else y.lF x,lG:=λx=>if x∈bs then lv x else y.lG x,own:=pR w y b rv bs nv lv}
 have Q:p.sf b=rv/\p.fu b=bs:=by constructor <;> simp[p]
 have P:∀{x},x≠b->p.sf x=y.sf x/\p.fu x=y.fu x:=λ{x} B=>by constructor <;> simp[p,B]
 have eD:∀{x},x∈bs->p.lF x=nv x/\p.lG x=lv x:=λ{x} B=>by constructor <;> simp[p,B]
 have eO:∀{x},x∉bs->p.lF x=y.lF x/\p.lG x=y.lG x:=λ{x} B=>by constructor <;> simp[p,B]
 have F:∀z,y.own z≠.no->p.own z=y.own z:=λz f=>Vi _ _ _ _ _ _ _ (own.lt z f).2;have hnew:∀z,w.heap.size<=z->y.own z=.no:=λz f=>aS λe=>by have:=(own.lt z e).2;omega
 -- blocks of nodes
 have Cw:∀d∈bs,∃x,gI w' (y.lo n) d (nv d) (lv d) x:=λd o=>by
  obtain⟨j,hj⟩:=aP o;have T:j<l'.nodes.length:=by have:=(aB.1 hj).1;have:=hN.len;omega
  exact⟨_,hN.node j d _ hj (aA T)⟩
 have Cq:∀d∈bs,∀z,iV d (nv d) (lv d) z->rv.ownBlock≠some z:=λd o z f e=>by
  obtain⟨x,B⟩:=Cw d o;obtain⟨_,_,cur,fz⟩:=fs hr e;obtain q|q|q:=f
  .have U:=B.Z;unfold dx at U;rw[<-q,fz]at U;simp at U
  .obtain⟨_,_,lr,O⟩:=fs B.ns q;rw[fz]at O;simp at O
  .obtain⟨us,_,h3,_⟩:=B.lg;obtain⟨_,_,lr,O⟩:=fs h3 q;rw[fz]at O;simp at O
 have hold:∀d∈bs,∀z,iV d (nv d) (lv d) z->z<w.heap.size->iV d (y.lF d) (y.lG d) z:=λd o z f D=>by
  obtain e|e|e:=f
  .exact .inl e
  .rcases(O d o).1 with q|q
   .exact .inr (.inl (by rw[<-q];exact e))
   .have:=q z e;omega
  .rcases(O d o).2 with q|q
   .exact .inr (.inr (by rw[<-q];exact e))
   .have:=q z e;omega
 have Sl:∀d∈bs,∀z,iV d (nv d) (lv d) z->p.own z=.node d:=λd o z f=>by
  by_cases D:z<w.heap.size
  .show pR w y b rv bs nv lv z=_;rw[Vi _ _ _ _ _ _ _ D];exact own.node b N d (K d o) z (hold d o z f D)
  .show pR w y b rv bs nv lv z=_;unfold pR;have hex:w.heap.size<=z/\∃c∈bs,iV c (nv c) (lv c) z:=⟨by omega,d,o,f⟩;rw[aH (λe=>Cq d o z f e.2),dif_pos hex];have hsp:=dX hex.2;congr 1;exact aS λe=>hN.ap _ hsp.1 d o e z hsp.2 f
 have Sm:∀z,rv.ownBlock=some z->p.own z=.A b:=λz f=>by
  by_cases D:z<w.heap.size
  .show pR w y b rv bs nv lv z=_;rw[Vi _ _ _ _ _ _ _ D];obtain q|q:=h1
   .exact(own.A b N).2 z (by rw[<-q];exact f)
   .have:=q z f;omega
  .show pR w y b rv bs nv lv z=_;unfold pR;rw[aK ⟨by omega,f⟩]
 have xA:∀(i:Nat) l,(tB s k l').lines[i]?=some l->(i=k/\l=l')\/(i≠k/\s.lines[i]?=some l):=λi l hl=>by
  have C:(s.lines.set k l')[i]?=some l:=hl;rw[rE]at C;by_cases e:i=k
  .rw[aK ⟨e,by omega⟩]at C;exact .inl ⟨e,(bA C).symm⟩
  .rw[aH (λq=>e q.1)]at C;exact .inr ⟨e,C⟩
 have wm:∀r∈y.gd,r≠b->∀d∈y.fu r,d∉bs:=λr m S d o q=>S (zZd own.Ba m N o (K d q));refine⟨p,⟨h.vC ht (by simp),?_,h.qB ht (by simp),h.vB ht (by simp),h.qn,h.pz ht (by simp),?_,λi r l m hl=>?_,h.py ht (by simp),h.lJ,λi r t m hti=>(have q:=h.Gs ht m hti (by simp);⟨q.Z,q.ats,q.wr⟩),?_⟩,⟨hm.mono (λz f e=>?_),λz f=>Vi _ _ _ _ _ _ _ f⟩,rfl,rfl,rfl,rfl,λz f hz1 hz2=>?_,rfl⟩
 .exact h.xN ht (by simp)
 .show y.gd.length=(s.lines.set k _).length;rw[ai];exact h.ir
 .have E:y.gd[i]?=some r:=m;rcases xA i l hl with⟨rfl,rfl⟩|⟨S,C⟩
  .rw[hb]at E;cases E
   refine⟨by rw[Q.1];exact hB,by rw[Q.1,Q.2];exact hr,by rw[Q.2];exact hN.len,λj d x o B=>?_⟩;rw[Q.2]at o;have Ae:=aC o;show gI w' (y.lo n) d (p.lF d) (p.lG d) x;rw[(eD Ae).1,(eD Ae).2];exact hN.node j d x o B
  .have M:r≠b:=λq=>S (by subst q;exact KM own.Eh E hb);have DQ:=aC E;have q:=h.rU ht E C (by simpa using M) (λd o e=>by
    obtain e|⟨d',u,e⟩:=e
    .cases e
    .cases e;exact wm r DQ M d o u)
   refine⟨by rw[(P M).1];exact q.Z,by rw[(P M).1,(P M).2];exact q.row,by rw[(P M).2];exact q.len,λj d x o B=>?_⟩;rw[(P M).2]at o;have V:=wm r DQ M d (aC o);show gI w' (y.lo n) d (p.lF d) (p.lG d) x;rw[(eO V).1,(eO V).2];exact q.node j d x o B
 .refine⟨by rw[F _ (by rw[own.main];simp)];exact own.main,λz f=>?_,λz f=>?_,λz f=>?_,?_,λz f=>?_,λr m=>⟨?_,λz f=>?_⟩,λr m d' u z f=>?_,λr m=>⟨?_,λz f=>?_⟩,λz f=>?_,own.Eh,own.Ir,?_⟩
  .rw[F z (by rw[own.gN z f];simp)];exact own.gN z f
  .rw[F z (by rw[own.iC z f];simp)];exact own.iC z f
  .rw[F z (by rw[own.J z f];simp)];exact own.J z f
  .show p.own y.dr=_;rw[F _ (by rw[own.dead];simp)];exact own.dead
  .rw[F z (by rw[own.tab z f];simp)];exact own.tab z f
  .rw[F r (by rw[(own.A r m).1];simp)];exact(own.A r m).1
  .by_cases e:r=b
   .subst e;rw[Q.1]at f;exact Sm z f
   .rw[(P e).1]at f;rw[F z (by rw[(own.A r m).2 z f];simp)];exact(own.A r m).2 z f
  .by_cases e:r=b
   .subst e;rw[Q.2]at u;rw[(eD u).1,(eD u).2]at f;exact Sl d' u z f
   .rw[(P e).2]at u;have V:=wm r m e d' u;rw[(eO V).1,(eO V).2]at f;have:=own.node r m d' u z f;rw[F z (by rw[this];simp)];exact this
  .rw[F r (by rw[(own.I r m).1];simp)];exact(own.I r m).1
  .rw[F z (by rw[(own.I r m).2 z f];simp)];exact(own.I r m).2 z f
  .have R:pR w y b rv bs nv lv z≠.no:=f;by_cases H:w.heap.size<=z/\rv.ownBlock=some z
   .exact⟨(fs hr H.2).1,(fs hr H.2).2.1⟩
   .by_cases e2:w.heap.size<=z/\∃c∈bs,iV c (nv c) (lv c) z
    .obtain⟨_,d,o,hzd⟩:=e2;obtain⟨x,B⟩:=Cw d o;have:=B.lt hzd;exact⟨this.1,this.2.1⟩
    .have hz3:y.own z≠.no:=by
      unfold pR at R;rw[aH H,dif_neg e2]at R;exact R
     have:=own.lt z hz3;exact⟨this.1,aJ this.2 hm.size⟩
  .show(y.gd.flatMap p.fu).Nodup;have X:∀W:List Nat,(W.flatMap p.fu).Sublist (W.flatMap y.fu):=by
    intro W
    induction W with
   |nil=>exact List.Sublist.refl _
   |cons a W ih=>
     rw[bN,bN];refine List.Sublist.append ?_ ih;by_cases e:a=b
     .subst e;rw[Q.2];exact hs
     .rw[(P e).2];exact List.Sublist.refl _
   exact own.Ba.sublist (X y.gd)
 .obtain e|e:=e
  .subst e;rw[(own.A z N).1];simp
  .rw[zK z e];simp
 .show pR w y b rv bs nv lv z=.no;unfold pR;rw[aH (λe=>hz1 e.2),dif_neg (λe=>by obtain⟨_,d,o,q⟩:=e;exact hz2 d o q)];exact hnew z f
end Go.Proofs.YtmaiggbnceejiaaGreatDoor
namespace Go.Proofs.YtmaiggbnceejiaaGreatDoor
open Go.RowKit Go.Lib Go.Maps
variable {w w':World}{y:dq}{s:dp}{k n c g b:Nat}
structure sr(w:World)(y:dq)(w':World)(y':dq):Prop where
 st:il w y w' y'
 l:y'.gd=y.gd
 t:y'.kP=y.kP
 lv:y'.lv=y.lv
 tv:y'.tv=y.tv
theorem sr.trans{w1 e:World}{d a:dq}(h:sr w y w1 d)(k:sr w1 d e a):sr w y e a:=⟨h.st.trans k.st,k.l.trans h.l,k.t.trans h.t,k.lv.trans h.lv,k.tv.trans h.tv⟩
theorem eu.Oj{a:dq}(h:eu w y w' a):sr w y w' a:=⟨h.st,h.l,h.t,h.lv,h.tv⟩
theorem sr.refl(w:World)(y:dq):sr w y w y:=(eu.refl w y).Oj
theorem sr.quiet(a:Mod dt w w'):sr w y w' y:=(eu.quiet a).Oj
def lP(s:dp)(m:Nat):dp:=(List.range m).foldl ey s
theorem yFi(s:dp)(m:Nat):lP s (m+1)=ey (lP s m) m:=by unfold lP;rw[aZ,ae];rfl
theorem WO(l:jS):(nj l).2.length<=l.nodes.length:=by
 rw[<-yDd];exact yDc l _
theorem yNf(h:Safe s)(d:Held s)(a:k<s.lines.length):(ey s k).J.lost<=s.J.lost+4:=by
 unfold ey;split
 .omega
 .rename_i e;obtain⟨j,i⟩:=OK e;have hF:Safe (fE s k):=h.fE a j i;obtain⟨_,b⟩:=WV hF (d.lines rfl rfl) (k:=k) (by rw[tz];exact a);show(qg (fE s k) k).J.lost<=_;rw[b.J];have m:=(FZ (nj ⟨fc s k,(s.A k).heard⟩).2 s.J).2;have f:=WO ⟨fc s k,(s.A k).heard⟩;have l:=h.oV a;show(kp s.J _).lost<=_;simp only at f;omega
theorem yRu(h:Safe s)(f:Held s):∀m,m<=s.lines.length->gH s (lP s m)/\(lP s m).J.lost<=s.J.lost+4*m:=by
 intro m
 induction m with
|zero=>exact λ_=>⟨gH.refl h f,by simp[lP]⟩
|succ m e=>
  intro i;obtain⟨a,b⟩:=e (by omega);have d:m<(lP s m).lines.length:=by rw[a.ll];omega
  rw[yFi];have q:=(ZL a.safe a.held d).1;have c:=yNf a.safe a.held d;exact⟨a.trans q,by omega⟩
theorem yQv(s:dp)(k:Nat):(ig s k).Pairwise (·<·):=List.Pairwise.filter _ List.pairwise_lt_range
theorem eJ.LF(h:eJ w n c g y s)(i:k<s.lines.length)(l:y.gd[k]?=some b):y.lk s b=(ig s k).map λj=>(y.fu b).getD j 0:=by
 have f:=h.A k b _ l (nM i);have e:y.fu b=(List.range (s.A k).nodes.length).map λj=>(y.fu b).getD j 0:=by
  apply bP;intro j;rw[ah];by_cases d:j<(s.A k).nodes.length
  .rw[cz d,bJ,aI,aA (by rw[f.len];exact d)];rfl
  .rw[aX (by rw[f.len];omega),aX (by simp;omega)];rfl
 unfold dq.lk ig
 conv=>lhs;rw[e]
 rw[List.filter_map];congr 1;apply List.filter_congr;intro j d;have a:=bV.1 d;show gQ s (y.st s ((y.fu b).getD j 0))=_;have m:(y.fu b)[j]?=some ((y.fu b).getD j 0):=by rw[aI,aA (by rw[f.len];exact a)];rfl
 rw[h.lU l (nM i) m (qM a)]
theorem eJ.livN(h:eJ w n c g y s)(a:k<s.lines.length)(d:y.gd[k]?=some b):ly w (y.lo n) (y.lk s b) y.lF y.lG (fc s k):=by
 rw[h.LF a d,<-WE];have l:=h.A k b _ d (nM a);exact(h.JE a d).some (yQv s k) (λj e=>by
  obtain⟨i,f⟩:=aP e;rw[l.len];exact(IQ f).1)
theorem yRt(h:Safe s)(i:k<s.lines.length)(e:fc s k≠[]):(0<=pJ ⟨fc s k,(s.A k).heard⟩/\pJ ⟨fc s k,(s.A k).heard⟩<=100)/\(∀x∈fc s k,x.dv<pJ ⟨fc s k,(s.A k).heard⟩)/\(iY ⟨fc s k,(s.A k).heard⟩).Nodup/\(fc s k).length<=4:=by
 have j:=h.A k i;obtain⟨E,u,t,l⟩:=j.ep;have d:(fc s k).Sublist (s.A k).nodes:=ba;have o:=h.oV i;have p:pJ ⟨fc s k,(s.A k).heard⟩=E+1:=by
  unfold pJ
  cases f:fc s k with
 |nil=>exact absurd f e
 |cons a r=>show a.dv+1=_;rw[l a (d.subset (by rw[f];simp))]
 rw[p];refine⟨by omega,λx m=>by rw[l x (d.subset m)];omega,?_,aO d.length_le o⟩;unfold iY;rw[List.Nodup,cH];exact(j.ord.sublist d).imp (λq=>by have:=q.1;omega)
theorem yYr(n c g:Nat)(y:dq)(s:dp)(w:World)(h:eJ w n c g y s)(hS:Safe s)(qY:Held s)(hc:c<=10000)(hlo:s.J.lost+751000<=4611686018427387904) :
  Calls Tryz.prog 33 #[.pointer (some ⟨g,0,none⟩)] w λe w'=>e=.returned (.tuple #[])/\∃E,eJ w' n c g E (ku s)/\sr w y w' E:=by
 obtain⟨c0,-⟩:=kX h.Z;obtain⟨la,fQ,M⟩:=fU h.gN;have hll:=hS.ll;have G:=h.ir;rw[M,G]at c0;have FM:Hid (y.lv=.slice la s.lines.length fQ):=by unfold Hid;rw[M,G]
 have HH:=dk h;have HS:=dk hS;have Nf:=dk qY;clear h hS qY M;go_enter Tryz.func33,Tryz.ntmps33;go_wp2_with fail;go_loopw [10] (λk0 wr=>∃(k:Nat) (f:dq),k<=s.lines.length/\k0=.int .i64 k/\eJ wr n c g f (lP s k)/\sr w y wr f) (λk0 _=>s.lines.length-(intOf k0).toNat)
 case atStart=>exact⟨0,y,aT _,rfl,HH.out,sr.refl _ _⟩
 case round=>
  obtain⟨k,f,hkl,rfl,C,hK⟩:=hrel;obtain⟨wo,hwo⟩:∃x,x=wr:=⟨_,rfl⟩;subst hwo;obtain⟨B,tL⟩:=yRu HS.out Nf.out k hkl;by_cases hlt:k<s.lines.length
  .have m:k<(lP s k).lines.length:=by rw[B.ll];exact hlt
   have TQ:(lP s k).J.lost+4<=4611686018427387904:=by omega
   have kg:=dk (yFi s k);have tS:=B.safe;have tH:=B.held;clear B tL;generalize lP s k=S at C tS tH TQ m kg;obtain⟨b,hb,hL⟩:=C.nQ m;obtain⟨lg,lcap',hv',cl⟩:=yv C.gN hb;have JR:la=some ⟨lg,0,none⟩:=by
    have e:=hK.lv;rw[hv',FM.out]at e;simp only[Value.slice.injEq]at e;exact e.1.symm
   subst JR;have hnl:=tS.shape.nl _ (Nu m);have hnb:(f.fu b).length=(S.A k).nodes.length:=hL.len;have wA:=dk (ZR n c g f S k b wo C m hb (by omega) (by omega));have TF:(f.lk S b).length=(fc S k).length:=by rw[<-C.GB m hb,ao]
   have HL2:=dk TF;have zO:(k:Int)<(s.lines.length:Int):=by omega
   have ry:(0:Int)<=(k:Int):=by omega
   obtain⟨na,iq,qS⟩:=fU hL.row;have zb:=hL.Z.lt;have l:=dk C;have pG:=dk hK;have HB:=dk hb;have qE:=dk tS;have QF:=dk tH;have Y:=dk m;have YZ:=dk hL.Z;have HNV:=dk qS;clear C hK hL hb hv' tS tH m TF qS;go_upto_region 4 with(first
   |(go_at_call 46;refine wA.out.mono ?_;rintro e w1⟨v,rfl,o,dy⟩;rw[HL2.out]at o;obtain⟨Q,P,lL⟩:=fU o;subst lL)
   |fail)
   have b0:=(YZ.out.mod dy (λe=>e)).cell 0 rfl;have f0:=(YZ.out.mod dy (λe=>e)).frozen 0;rw[HNV.out,hnb]at b0;have zb1:=aJ zb dy.size;have hlele:(fc S k).length<=(S.A k).nodes.length:=bD _ _;have t:=dk dy;have gG:=dk o;clear o dy wA cl;by_cases L:(fc S k).length=0
   .have O:Hid (lP s (k+1)=S):=by unfold Hid;rw[kg.out];unfold ey;rw[aK (.inl L)]
    have u:Hid (eJ w1 n c g f (lP s (k+1))/\sr w y w1 f):=⟨by rw[O.out];exact l.out.quiet t.out,pG.out.trans (sr.quiet t.out)⟩;have hzb:(((fc S k).length:Int)==0)=true:=by simpa using L
    clear L O;go_wp2_with fail;go_roundw
    case rel=>exact⟨k+1,f,by omega,by go_num,u.out.1,u.out.2⟩
    case measure=>simp[intOf];omega
   .have hzb:(((fc S k).length:Int)==0)=false:=by simpa using L
    by_cases he:(fc S k).length=(S.A k).nodes.length
    .have O:Hid (lP s (k+1)=S):=by unfold Hid;rw[kg.out];unfold ey;rw[aK (.inr he)]
     have u:Hid (eJ w1 n c g f (lP s (k+1))/\sr w y w1 f):=⟨by rw[O.out];exact l.out.quiet t.out,pG.out.trans (sr.quiet t.out)⟩;have MF:(((fc S k).length:Int)==((S.A k).nodes.length:Int))=true:=by
      have:((fc S k).length:Int)=((S.A k).nodes.length:Int):=by omega
      simpa using this
     clear L he O;go_wp2_with (first|fail);go_roundw
     case rel=>exact⟨k+1,f,by omega,by go_num,u.out.1,u.out.2⟩
     case measure=>simp[intOf];omega
    .have MF:(((fc S k).length:Int)==((S.A k).nodes.length:Int))=false:=by
      have:((fc S k).length:Int)≠((S.A k).nodes.length:Int):=by omega
      simpa using this
     have Ou:¬((fc S k).length=0\/(fc S k).length=(S.A k).nodes.length):=λq=>q.elim L he;have O:Hid (lP s (k+1)=qg (fE S k) k):=by unfold Hid;rw[kg.out];unfold ey;rw[aH Ou];rfl
     obtain⟨e1,e2⟩:=OK Ou;obtain⟨fn1,fn2,fn3,fn4⟩:=yRt qE.out Y.out e1;have hFS:Safe (fE S k):=qE.out.fE Y.out e1 e2;have FC:Held (fE S k):=QF.out.lines rfl rfl;have hnH:=l.out.low;have hgl:=l.out.Z.lt;have R:=aC HB.out
     -- the line has a new row
     obtain⟨j,hw2⟩:∃x,x=w1.setCell ⟨b,0,none⟩ (.slice Q (fc S k).length P):=⟨_,rfl⟩;have T:Mod (eQ b) w1 j:=by rw[hw2];exact Mod.eE b 0 _
     have iT:dx j b [.slice Q (fc S k).length P,.int .i64 (S.A k).heard] 120:=by rw[hw2];exact(YZ.out.mod t.out (λe=>e)).set 0 _
     have hvb:(Value.slice Q (fc S k).length P).ownBlock≠some b:=λe=>by have:=(fs gG.out e).1;omega
     have DT:j.ownsRow n 91 1 (.slice Q (fc S k).length P) (f.lk S b).length ((f.lk S b).map jd):=by
      have h1:=gO gG.out T (λz _ _ e q=>hvb (by rw[e];exact an some q));rw[HL2.out,Vw];exact vl h1 (by omega)
     have mZ:ly j (f.lo n) (f.lk S b) f.lF f.lG (fc S k):=by
      refine((l.out.livN Y.out HB.out).quiet t.out).mod T (λz i e=>?_) (λd U z i e=>?_)
      .simp only[eQ]at e;subst e;rintro(e5|⟨⟨cur,fr,e5⟩,_⟩)
       .have h9:=(l.out.own.lt z (by rw[(l.out.own.A z R).1];simp)).1;have h8:z<n:=e5;omega
       .have:=YZ.out.mod t.out (λe=>e);unfold dx at this;rw[this]at e5;simp at e5
      .simp only[eQ]at e;subst e;have r:d∈f.fu z:=(au.1 U).1;have N:=l.out.own.node z R d r z i;rw[(l.out.own.A z R).1]at N
       cases N
     have V:Mod dt j j.drew:=(Mod.refl dt j).drewN 1;have MY:=iT.mod V (λe=>e);have Gi:=gO DT V (λ_ _ _ _ e=>e);have UA:=mZ.quiet V;have GD:wo.heap.size<=j.drew.heap.size:=aO t.out.size (aO T.size V.size);have VR:=dk (yAd n (f.lo n) b (f.lk S b) f.lF f.lG ⟨fc S k,(S.A k).heard⟩ (.slice Q (fc S k).length P) j.drew rfl MY Gi UA (by show 0<(fc S k).length;omega) fn4 fn1 fn2 fn3 (by omega));have zM:=WO ⟨fc S k,(S.A k).heard⟩;have F:(f.lk S b).Sublist (f.fu b):=ba;have sS:b∉f.lk S b:=λq=>by
      have r:b∈f.fu b:=(au.1 q).1;have N:=l.out.own.node b R b r b (.inl rfl);rw[(l.out.own.A b R).1]at N
      cases N
     have HTU:Hid (∀p (H:Value) (BZ W:Nat->Value),ly p (f.lo n) (f.lk S b) BZ W (nj ⟨fc S k,(S.A k).heard⟩).1.nodes->fF p (f.lo n) H (nj ⟨fc S k,(S.A k).heard⟩).2->mN j.drew H->(∀d∈f.lk S b,ik j.drew (f.lF d) (BZ d)/\ik j.drew (f.lG d) (W d))->Mod (λz=>z∈f.lk S b) j.drew p ->
       ∃D,eJ p n c g D (tB S k (nj ⟨fc S k,(S.A k).heard⟩).1)/\sr wo f p D/\fF p (D.lo n) H (nj ⟨fc S k,(S.A k).heard⟩).2/\∀z,H.ownBlock=some z->D.own z=.no):=λp H BZ W q1 K q3 q4 I=>by
      have im:Mod (λz=>z=b\/z∈f.lk S b) wo p:=((t.out.mono (λ_ _ e=>e.elim)).trans ((T.mono (λ_ _ e=>.inl e)).trans (V.mono (λ_ _ e=>e.elim)))).trans (I.mono (λ_ _ e=>.inr e));have hvn:∀z,(Value.slice Q (fc S k).length P).ownBlock=some z->z∉f.lk S b:=λz i q=>by
       have h1:=(fs gG.out i).1;have r:z∈f.fu b:=(au.1 q).1;have N:=l.out.own.node b R z r z (.inl rfl);have:=(l.out.own.lt z (by rw[N];simp)).2;omega
      obtain⟨D,r1,r2,r3,r4,r5,r6,r7,r8⟩:=l.out.Rj Y.out HB.out (l':=(nj ⟨fc S k,(S.A k).heard⟩).1) im (MY.mod I sS) (gO Gi I (λz _ _ e q=>hvn z e q)) q1 F (.inr λz i=>(fs gG.out i).1) (λd U=>⟨(ik.refl wo _).trans (q4 d U).1 GD,(ik.refl wo _).trans (q4 d U).2 GD⟩);refine⟨D,r1,⟨r2,r3,r4,r5,r6⟩,by rw[r8];exact K,λz i=>r7 z (aO GD (q3 z i)) (λe=>?_) (λd U q=>q1.row K U q i)⟩;have h1:=fs (gO Gi I (λz _ _ e q=>hvn z e q)) e;obtain⟨_,_,cur,fz⟩:=h1;obtain⟨_,lr,JX⟩:=K.block i;rw[fz]at JX;simp at JX
     have HFS:=dk hFS;have HFH:=dk FC;have HML:=dk zM;have HLF:Hid (sd (tB S k (nj ⟨fc S k,(S.A k).heard⟩).1) (nj ⟨fc S k,(S.A k).heard⟩).2=fE S k):=rfl;have hg2:g<j.heap.size:=aJ hgl (aO t.out.size T.size);have Vc:b<j.heap.size:=iT.lt;clear Ou e1 e2 fn1 fn2 fn3 hFS FC hnH hgl T iT hvb DT mZ V MY Gi UA GD zM F sS qE QF l gG t L he;go_upto_region 6 with fail;rw[<-hw2];clear hw2 b0 f0 zb1;go_region_with (first
     |(go_at_call 61;refine VR.out.mono ?_;rintro e p⟨H,BZ,W,rfl,q1,K,q3,q4,I⟩;obtain⟨D,xL,vw,sm,rP⟩:=HTU.out p H BZ W q1 K q3 q4 I;(have qu:=dk (Qv n c g D _ _ _ p xL sm rP (by have:=HML.out;show S.J.lost+_<=_;simp only at this;omega)));(have Nb:=dk (pG.out.trans vw));obtain⟨XA,Wz,tP⟩:=K.slice;subst tP;clear xL vw sm rP q1 K q3 q4 I VR HTU)
     |(go_at_call 48;refine qu.out.mono ?_;rintro e w8⟨⟨x8,rfl⟩,y8,vy,An⟩)
     |fail)
     all_goals
      rw[HLF.out]at vy;have Ni:=dk (yIl n c g y8 (fE S k) k w8 vy HFS.out HFH.out (by rw[tz];exact Y.out) hc);have HK8:=dk (Nb.out.trans An.Oj);clear vy An qu;go_wp2_with fail;refine Ni.out.mono ?_;rintro e w9⟨rfl,y9,Jh,Gp⟩;have u:Hid (eJ w9 n c g y9 (lP s (k+1))/\sr w y w9 y9):=⟨by rw[O.out];exact Jh,HK8.out.trans Gp.Oj⟩;clear Jh Gp Ni;go_wp2_with fail;go_roundw
      case rel=>exact⟨k+1,y9,by omega,by go_num,u.out.1,u.out.2⟩
      case measure=>simp[intOf];omega
  .obtain rfl:k=s.lines.length:=by omega
   have t3:=Qc B.safe;obtain⟨u1,u2,-⟩:=uO B.safe;have uH:=(u2.tD u1 B.held).held;have yZ:=dk (yAu n c g f _ wo C B.safe (by omega));have qu:Hid (∀X yq,eJ X n c g yq (kR (lP s s.lines.length))->Calls Tryz.prog 43 #[.pointer (some ⟨g,0,none⟩)] X λe w'=>e=.returned (.tuple #[])/\∃E,eJ w' n c g E (ku s)/\eu X yq w' E):=λX yq hq=>Zc n c g yq _ X hq u1 uH hc (show(kR (lP s s.lines.length)).J.lost+750300<=4611686018427387904 by omega);have HK:=dk hK;clear C hK B tL t3 u1 u2 uH;go_wp2_with fail;refine yZ.out.mono ?_;rintro e w1⟨rfl,y1,kf,qp⟩;have Ul:=dk (qu.out w1 y1 kf);have Dv:=dk (HK.out.trans qp.Oj);clear kf qp yZ qu;go_wp2_with fail;refine Ul.out.mono ?_;rintro e j⟨rfl,y2,nV,hK2⟩;have u:Hid (∃E,eJ j n c g E (ku s)/\sr w y j E):=⟨y2,nV,Dv.out.trans hK2.Oj⟩;clear nV hK2 Ul;go_wp2_with fail;go_end0;exact⟨rfl,u.out⟩
open Classical in
noncomputable def dq.kD(y:dq)(w:World)(tv:Value)(b:Nat)(av:Value):dq:=
 {y with tv:=tv,kP:=y.kP++[b],jy:=λx=>if x=b then av else y.jy x,kT:=λx=>if x=b then(.slice none 0 0)else y.kT x,own:=λx=>if w.heap.size<=x/\tv.ownBlock=some x then .iC else if w.heap.size<=x/\(x=b\/av.ownBlock=some x)then .I b else y.own x}
theorem yCm(y:dq)(w:World)(tv:Value)(b:Nat)(av:Value){x:Nat}(h:x<w.heap.size):(y.kD w tv b av).own x=y.own x:=by
 simp only[dq.kD];rw[aH (λe=>by omega),aH (λe=>by omega)]
theorem eJ.kD(h:eJ w n c g y s){tv av:Value}
  (X:Mod (λz=>z=g\/y.tv.ownBlock=some z) w w') (hB:dx w' g [y.lv,.map (some y.dr),y.wv,.int .i64 s.J.lost,.map y.mr,.map y.q.m,tv] 84) (P:w'.ownsRow n 87 1 tv (y.kP.length+1) ((y.kP++[b]).map jd))
  (hb:w.heap.size<=b) (N:dx w' b [.int .i64 1,av,.slice none 0 0,.int .i64 0] 86) (M:w'.ownsRow n 3 1 av s.lines.length ((List.replicate s.lines.length (0:Int)).map (Value.int .i64))) (pF:∀k,av.ownBlock=some k->w.heap.size<=k) (h1:ik w y.tv tv) (hn:n<=w.heap.size) :
  eJ w' n c g (y.kD w tv b av) (mB s)/\il w y w' (y.kD w tv b av):=by
 have own:=h.own;have O:∀z,(z=g\/y.tv.ownBlock=some z)->y.own z=.main\/y.own z=.iC:=λz e=>by
  obtain e|e:=e
  .rw[e];exact .inl own.main
  .exact .inr (own.iC z e)
 have hq:Qm w (y.lo n) (λz=>z=g\/y.tv.ownBlock=some z):=λz f e=>by
  rintro(C|⟨⟨cur,fr,C⟩,_⟩)
  .have h8:z<n:=C;have:=(own.lt z (by rcases O z e with q|q <;> rw[q] <;> simp)).1;omega
  .obtain e|e:=e
   .subst e;have:=h.Z;unfold dx at this;rw[this]at C;simp at C
   .obtain⟨_,_,lr,R⟩:=fs h.iC e;rw[R]at C;simp at C
 have ht:su w w' n y (λt=>t=.main\/t=.iC):=⟨⟨_,X,hq,λz f e=>⟨O z e,by rcases O z e with q|q <;> rw[q] <;> simp⟩⟩⟩;have H:b∉y.kP:=λq=>by have:=(own.lt b (by rw[(own.I b q).1];simp)).2;omega
 have L:(y.kD w tv b av).lo n=y.lo n:=by
  unfold dq.lo;congr 1;funext k;apply propext;constructor
  .rintro⟨t,ht,Q⟩;rcases aM.1 ht with q|q
   .have p:t≠b:=λe=>H (by rw[<-e];exact q);exact⟨t,q,by simpa[dq.kD,p]using Q⟩
   .simp at q;subst q;simp[dq.kD,Value.ownBlock]at Q
  .rintro⟨t,ht,Q⟩;have p:t≠b:=λe=>H (by rw[<-e];exact ht);exact⟨t,aM.2 (.inl ht),by simpa[dq.kD,p]using Q⟩
 have B:∀z,y.own z≠.no->(y.kD w tv b av).own z=y.own z:=λz f=>yCm _ _ _ _ _ (own.lt z f).2;have K:∀z,tv.ownBlock=some z->(y.kD w tv b av).own z=.iC:=λz e=>by
  by_cases E:z<w.heap.size
  .rw[yCm _ _ _ _ _ E];obtain q|q:=h1
   .exact own.iC z (by rw[<-q];exact e)
   .have:=q z e;omega
  .simp only[dq.kD];rw[aK ⟨by omega,e⟩]
 have W:∀z,z=b\/av.ownBlock=some z->tv.ownBlock≠some z:=λz e q=>by
  obtain⟨_,_,cur,fz⟩:=fs P q;obtain e|e:=e
  .subst e;unfold dx at N;rw[fz]at N;simp at N
  .obtain⟨_,_,lr,R⟩:=fs M e;rw[fz]at R;simp at R
 have D:∀z,z=b\/av.ownBlock=some z->(y.kD w tv b av).own z=.I b:=λz e=>by
  simp only[dq.kD];rw[aH (λq=>W z e q.2),aK ⟨e.elim (λe=>by omega) (pF z),e⟩]
 have G:(y.kD w tv b av).jy b=av/\(y.kD w tv b av).kT b=.slice none 0 0:=by simp[dq.kD]
 have F:∀{x},x≠b->(y.kD w tv b av).jy x=y.jy x/\(y.kD w tv b av).kT x=y.kT x:=λ{x} T=>by simp[dq.kD,T]
 refine⟨⟨hB,?_,h.qB ht (by simp),h.vB ht (by simp),h.qn,h.pz ht (by simp),h.ir,λk u l o hl=>?_,?_,?_,λi u t o V=>?_,?_⟩,?_⟩
 .have:=h.xN ht (by simp);rw[L];exact this
 .have q:=h.rU ht o hl (by simp) (λd _=>by simp);refine⟨q.Z,q.row,q.len,λj d x hd T=>?_⟩;have:=q.node j d x hd T;unfold zj at this⊢;rw[L];exact this
 .show w'.ownsRow n 87 1 tv (y.kP++[b]).length ((y.kP++[b]).map jd);rw[aE];exact P
 .show(y.kP++[b]).length=(s.U++[_]).length;rw[aE,aE,h.lJ];rfl
 .have r:(y.kP++[b])[i]?=some u:=o;have v:(s.U++[(⟨1,List.replicate s.lines.length 0,[],0⟩:jz)])[i]?=some t:=V;have htl:=h.lJ;by_cases E:i<y.kP.length
  .rw[aG E]at r;rw[aG (by omega)]at v;have p:u≠b:=λe=>H (by rw[<-e];exact aC r);have q:=h.Gs ht r v (by simp);refine⟨?_,?_,?_⟩
   .rw[(F p).1,(F p).2];exact q.Z
   .rw[(F p).1];exact q.ats
   .rw[(F p).2];exact q.wr
  .rw[aL (by omega)]at r v;have hi:i-y.kP.length=0:=by
    have:=(aB.1 r).1;simp at this;omega
   rw[hi]at r;rw[show i-s.U.length=0 by omega]at v;simp at r v;subst r v;refine⟨?_,?_,?_⟩
   .rw[G.1,G.2];exact N
   .rw[G.1];show w'.ownsRow n 3 1 av (List.replicate s.lines.length (0:Int)).length _;rw[List.length_replicate];exact M
   .rw[G.2];exact A6 _ _ _ _
 .refine⟨by rw[B _ (by rw[own.main];simp)];exact own.main,λz f=>?_,λz f=>K z f,λz f=>?_,?_,λz f=>?_,λu o=>⟨?_,λz f=>?_⟩,λu o d' Y z f=>?_,λu o=>?_,λz f=>?_,own.Eh,?_,own.Ba⟩
  .rw[B z (by rw[own.gN z f];simp)];exact own.gN z f
  .rw[B z (by rw[own.J z f];simp)];exact own.J z f
  .show(y.kD w tv b av).own y.dr=_;rw[B _ (by rw[own.dead];simp)];exact own.dead
  .rw[B z (by rw[own.tab z f];simp)];exact own.tab z f
  .rw[B u (by rw[(own.A u o).1];simp)];exact(own.A u o).1
  .rw[B z (by rw[(own.A u o).2 z f];simp)];exact(own.A u o).2 z f
  .have:=own.node u o d' Y z f;rw[B z (by rw[this];simp)];exact this
  .have r:u∈y.kP++[b]:=o;rcases aM.1 r with q|q
   .have p:u≠b:=λe=>H (by rw[<-e];exact q);refine⟨by rw[B u (by rw[(own.I u q).1];simp)];exact(own.I u q).1,λz f=>?_⟩;rw[(F p).1,(F p).2]at f;rw[B z (by rw[(own.I u q).2 z f];simp)];exact(own.I u q).2 z f
   .simp at q;subst q;refine⟨D u (.inl rfl),λz f=>?_⟩;rw[G.1,G.2]at f;obtain f|f:=f
    .exact D z (.inr f)
    .simp[Value.ownBlock]at f
  .by_cases C:w.heap.size<=z/\tv.ownBlock=some z
   .exact⟨(fs P C.2).1,(fs P C.2).2.1⟩
   .by_cases e2:w.heap.size<=z/\(z=b\/av.ownBlock=some z)
    .refine⟨by omega,?_⟩;obtain e|e:=e2.2
     .subst e;exact N.lt
     .exact(fs M e).2.1
    .have S:y.own z≠.no:=by
      simp only[dq.kD]at f;rw[aH C,aH e2]at f;exact f
     have:=own.lt z S;exact⟨this.1,aJ this.2 X.size⟩
  .show(y.kP++[b]).Nodup;rw[br];exact⟨own.Ir,by simp,λa M c hc e=>by simp at hc;subst hc;subst e;exact H M⟩
 .exact⟨X.mono (λz f e=>by rcases O z e with q|q <;> rw[q] <;> simp),λz f=>yCm _ _ _ _ _ f⟩
theorem yMr:∀m:Nat,m<=5->(madeCells (Value.cells (.int .i64 0)) (m*1)).toList=(List.replicate m (0:Int)).map (Value.int .i64):=by
 intro m a;obtain rfl|rfl|rfl|rfl|rfl|rfl:m=0\/m=1\/m=2\/m=3\/m=4\/m=5:=by omega
 all_goals kernel_rfl
theorem Tryz.LM:(Tryz.prog.info? 87).map (λi=>(i.zero,i.size,i.bytes))=some (some (.pointer none),1,8):=by kernel_rfl
def yTo(w:World)(n c g:Nat)(y:dq)(s:dp)(e:Ending)(w':World):Prop:=e=.returned (.tuple #[.int .i64 (s.U.length+1),.nilIface])/\∃a,eJ w' n c g a (mB s)/\il w y w' a
theorem Vn(n c g:Nat)(y:dq)(s:dp)(w:World)(h:eJ w n c g y s)(hll:2<=s.lines.length/\s.lines.length<=5)(hT:s.U.length<60) :
  Calls Tryz.prog 13 #[.pointer (some ⟨g,0,none⟩)] w (yTo w n c g y s):=by
 obtain⟨j0,hj,LJ,LI,LH⟩:=A3 Tryz.tN;obtain⟨k0,hk,kz0,kz1,kz2⟩:=A3 Tryz.LM;obtain⟨c0,-,-,-,-,-,c6⟩:=kX h.Z;have f6:=h.Z.frozen 6;obtain⟨L,Q,X⟩:=fU h.gN;obtain⟨ta,m,T⟩:=fU h.iC;have Y:=h.ir;have r:=h.lJ;rw[X,Y]at c0;rw[T,r]at c6;have hg:=h.Z.lt;have kt:=h.low;have j:w.ownsRow n 87 1 (.slice ta s.U.length m) s.U.length (y.kP.map jd):=by have:=h.iC;rw[T,r]at this;exact this
 -- the numbers
 obtain⟨w1,N,Lp,hg1⟩:=run_makeSlice_full (P:=Tryz.prog) w.drew n 26 3 j0 _ 1 Tryz.underlying26 hj LJ LI .i64 .i64 s.lines.length (by omega) (by rw[LH];omega) (by unfold maxLen;omega) (by show n<=w.heap.size;omega);have hds:w.drew.heap.size=w.heap.size:=rfl;rw[yMr _ hll.2,hds]at Lp;rw[hds]at N;have H:Mod dt w w1:=((Mod.refl dt w).drewN 1).grown hg1 (λx hx _=>by cases hx);obtain⟨w2,hw2⟩:∃x,x=w1.alloc (.cells #[.int .i64 1,.slice (some ⟨w.heap.size,0,none⟩) s.lines.length s.lines.length,.slice none 0 0,.int .i64 0] 86):=⟨_,rfl⟩;have B:Mod dt w1 w2:=by rw[hw2];exact(Mod.refl _ w1).alloc _
 have iT:dx w2 w1.heap.size [.int .i64 1,.slice (some ⟨w.heap.size,0,none⟩) s.lines.length s.lines.length,.slice none 0 0,.int .i64 0] 86:=by rw[hw2];exact dx.new w1 _ _
 obtain⟨w3,hw3⟩:∃x,x=w2.alloc (.cells #[.pointer (some ⟨w1.heap.size,0,none⟩)] 87):=⟨_,rfl⟩;have eK:Mod dt w2 w3:=by rw[hw3];exact(Mod.refl _ w2).alloc _
 have E:=(H.trans B).trans eK;have u:=gO j E (λ_ _ _ _ e=>e);obtain⟨v7,i,gT,eX,eh,_,ib⟩:=C0 (P:=Tryz.prog) w3 n 82 82 87 k0 _ 1 8 Tryz.underlying82 hk kz0 kz1 kz2 rfl (by omega) _ _ _ u ⟨w2.heap.size,0,none⟩ 1 1 [.pointer (some ⟨w1.heap.size,0,none⟩)] rfl (by rw[hw3];exact A7 (A0 w2 _)) (by simp[Value.oneCell']) (by unfold maxLen;omega) (by omega) (by have:=E.size;omega);obtain⟨K,I,qQ⟩:=fU eX;subst qQ;have F:Mod (λk=>(Value.slice ta s.U.length m).ownBlock=some k) w3 i:=(Mod.refl _ w3).grown eh (λx hx _=>hx);have A:(Value.slice ta s.U.length m).ownBlock≠some g:=pf j h.Z (by decide);have d0:=E.cell c0 (λe=>e);have d6:=E.cell c6 (λe=>e);have c07:=F.cell d0 A;have Gx:=F.cell d6 A;have O:g<w3.heap.size:=aJ hg E.size;have hg7:g<i.heap.size:=aJ O F.size;have f67:=(F.frozen (p:=⟨g,6,none⟩) O A).trans ((E.frozen (p:=⟨g,6,none⟩) hg (λe=>e)).trans f6);have M:∀z,(Value.slice ta s.U.length m).ownBlock=some z->z<w.heap.size:=λz R=>(fs j R).2.1
 -- what comes of it
 have HF:Hid (∃y',eJ (i.setCell ⟨g,6,none⟩ (.slice K (s.U.length+1) I)) n c g y' (mB s)/\il w y (i.setCell ⟨g,6,none⟩ (.slice K (s.U.length+1) I)) y'):=by
  have jK:Mod (eQ g) i (i.setCell ⟨g,6,none⟩ (.slice K (s.U.length+1) I)):=Mod.eE g 6 _;have ml:Mod (λz=>z=g\/y.tv.ownBlock=some z) w (i.setCell ⟨g,6,none⟩ (.slice K (s.U.length+1) I)):=((E.mono (λ_ _ e=>e.elim)).trans (F.mono (λz _ e=>.inr (by rw[T,r];exact e)))).trans (jK.mono (λz _ e=>.inl e));have FD:dx i g (OJ y s.J.lost) 84:=(h.Z.mod E (λe=>e)).mod F A;have ug:=pf eX FD (by decide);have hbg:w1.heap.size≠g:=by have:=H.size;omega
  have Tn:(Value.slice ta s.U.length m).ownBlock≠some w1.heap.size:=λe=>by have:=M _ e;have:=H.size;omega
  have hag:(Value.slice (some ⟨w.heap.size,0,none⟩) s.lines.length s.lines.length).ownBlock≠some g:=λe=>by simp[Value.ownBlock]at e;omega
  have Sr:i.ownsRow n 3 1 (.slice (some ⟨w.heap.size,0,none⟩) s.lines.length s.lines.length) s.lines.length ((List.replicate s.lines.length (0:Int)).map (Value.int .i64)):=gO (gO Lp (B.trans eK) (λ_ _ _ _ e=>e)) F (λz _ _ e q=>by have:=M z q;simp[Value.ownBlock]at e;omega);obtain⟨o,q2⟩:=h.kD (b:=w1.heap.size) (av:=.slice (some ⟨w.heap.size,0,none⟩) s.lines.length s.lines.length) (tv:=.slice K (s.U.length+1) I) ml (FD.set 6 _) (by
    rw[r,ay];exact gO eX jK (λz _ _ e q=>ug (by rw[e];exact an some q))) H.size (((iT.mod eK (λe=>e)).mod F Tn).mod jK (λe=>hbg e)) (gO Sr jK (λz _ _ e q=>hag (by rw[e];exact an some q))) (λz R=>by simp[Value.ownBlock]at R;omega) (by
    obtain e|e:=ib
    .exact .inl (by rw[e,T,r])
    .exact .inr λz R=>by rw[e]at R;simp only[ag]at R;have:=E.size;omega) (by omega)
  exact⟨_,o,q2⟩
 have D:Hid (w.drew.cell? ⟨g,0,none⟩=some (.slice L s.lines.length Q)/\w.drew.cell? ⟨g,6,none⟩=some (.slice ta s.U.length m)):=⟨c0,c6⟩;have zh:Hid (w1.cell? ⟨g,0,none⟩=some (.slice L s.lines.length Q)/\w1.cell? ⟨g,6,none⟩=some (.slice ta s.U.length m)):=⟨H.cell c0 (λe=>e),H.cell c6 (λe=>e)⟩;have HC2:Hid (w2.cell? ⟨g,0,none⟩=some (.slice L s.lines.length Q)/\w2.cell? ⟨g,6,none⟩=some (.slice ta s.U.length m)):=⟨(H.trans B).cell c0 (λe=>e),(H.trans B).cell c6 (λe=>e)⟩;have HC3:Hid (w3.cell? ⟨g,0,none⟩=some (.slice L s.lines.length Q)/\w3.cell? ⟨g,6,none⟩=some (.slice ta s.U.length m)):=⟨d0,d6⟩;have qa:Hid (i.cell? ⟨g,0,none⟩=some (.slice L s.lines.length Q)/\i.cell? ⟨g,6,none⟩=some (.slice ta s.U.length m)):=⟨c07,Gx⟩;have hT6:decide ((s.U.length:Int) ≥ 60)=false:=aN (by omega);have W:(Instr.makeSlice 26 (.int .i64 s.lines.length) (.int .i64 s.lines.length)).run Tryz.prog w.drew=.ok (.slice (some ⟨w.heap.size,0,none⟩) s.lines.length s.lines.length) w1:=N;clear h X T j Lp hg1 H B iT eK E u eX eh ib F A d0 d6 O M N;go_enter Tryz.func13,Tryz.ntmps13;go_upto_region 3 with fail;refine IJ λfr S=>?_;refine IM λQ1 V=>?_;have C:∀(d:Nat) (v:Value) (c:List PanicEntry) (a:Act) (w:World),Q1 (.panic c) (a.put (some d) v) w->Q1 (.panic c) a w:=λd v c a w h=>by rw[V]at h⊢;exact h
 have ti:=dk V;clear V;have hsz:fr.tmps.size=33:=by rw[S];rfl
 obtain⟨_,t0⟩:∃h:0<fr.tmps.size,fr.tmps[0]=.pointer (some ⟨g,0,none⟩):=aF.1 (by rw[S];rfl);have kI:=dk S;clear S;refine CM 17 (λl=>l.cell? ⟨g,0,none⟩=some (.slice L s.lines.length Q)/\l.cell? ⟨g,6,none⟩=some (.slice ta s.U.length m)) rfl ?_;refine fR 17 0 11 (.pointer (some ⟨g,0,none⟩)) rfl rfl (λc a w h=>C _ _ c a w h) D.out ⟨by rfl,λl f=>by have G:=f.1;have o:=f.2;go_simp⟩ ?_;refine fR 17 1 12 (.pointer (some ⟨g,0,none⟩)) rfl rfl (λc a w h=>C _ _ c a w h) D.out ⟨by rfl,λl f=>by have G:=f.1;have o:=f.2;go_simp⟩ ?_;refine fR 17 2 13 (.pointer (some ⟨g,0,none⟩)) rfl rfl (λc a w h=>C _ _ c a w h) D.out ⟨by rfl,λl f=>by have G:=f.1;have o:=f.2;go_simp⟩ ?_;refine fR 17 3 14 (.pointer (some ⟨g,6,none⟩)) rfl rfl (λc a w h=>C _ _ c a w h) D.out ⟨by rfl,λl f=>by have G:=f.1;have o:=f.2;go_simp⟩ ?_;refine fR 17 4 15 (.slice ta s.U.length m) rfl rfl (λc a w h=>C _ _ c a w h) D.out ⟨by rfl,λl f=>by have G:=f.1;have o:=f.2;go_simp⟩ ?_;refine fR 17 5 16 (.pointer (some ⟨g,0,none⟩)) rfl rfl (λc a w h=>C _ _ c a w h) D.out ⟨by rfl,λl f=>by have G:=f.1;have o:=f.2;go_simp⟩ ?_;refine fR 17 6 17 (.pointer (some ⟨g,0,none⟩)) rfl rfl (λc a w h=>C _ _ c a w h) D.out ⟨by rfl,λl f=>by have G:=f.1;have o:=f.2;go_simp⟩ ?_;refine fR 17 7 18 (.pointer (some ⟨g,0,none⟩)) rfl rfl (λc a w h=>C _ _ c a w h) D.out ⟨by rfl,λl f=>by have G:=f.1;have o:=f.2;go_simp⟩ ?_;refine fR 17 8 19 (.slice L s.lines.length Q) rfl rfl (λc a w h=>C _ _ c a w h) D.out ⟨by rfl,λl f=>by have G:=f.1;have o:=f.2;go_simp⟩ ?_;refine fR 17 9 20 (.int .i64 s.lines.length) rfl rfl (λc a w h=>C _ _ c a w h) D.out ⟨by rfl,λl f=>by have G:=f.1;have o:=f.2;go_simp⟩ ?_;refine kJ 17 10 21 rfl rfl (by kernel_rfl) rfl (v:=.slice (some ⟨w.heap.size,0,none⟩) s.lines.length s.lines.length) (w':=w1) (by go_simp) zh.out ?_;refine kJ 17 11 22 rfl rfl (by kernel_rfl) rfl (v:=.agg #[.int .i64 1,.slice (some ⟨w.heap.size,0,none⟩) s.lines.length s.lines.length,.slice none 0 0,.int .i64 0]) (w':=w1) (by go_simp) zh.out ?_;refine kJ 17 12 23 rfl rfl (by kernel_rfl) rfl (v:=.pointer (some ⟨w1.heap.size,0,none⟩)) (w':=w2) (by rw[hw2];go_simp) HC2.out ?_;refine kJ 17 13 24 rfl rfl (by kernel_rfl) rfl (v:=.slice (some ⟨w2.heap.size,0,none⟩) 1 1) (w':=w3) (by rw[hw3];go_simp) HC3.out ?_;refine kJ 17 14 25 rfl rfl (by kernel_rfl) rfl (v:=.slice K (s.U.length+1) I) (w':=i) (yz (s:=.tmp 15) (x:=.tmp 24) (t:=82) rfl (by go_simp) (by go_simp) gT) qa.out ?_;refine kJ 17 15 26 rfl rfl (by kernel_rfl) rfl (v:=.pointer (some ⟨g,0,none⟩)) (w':=i) (by go_simp) qa.out ?_;refine kJ 17 16 27 rfl rfl (by kernel_rfl) rfl (v:=.pointer (some ⟨g,6,none⟩)) (w':=i) (by go_simp) qa.out ?_;refine KX 17 rfl (by kernel_rfl) rfl (w':=i.setCell ⟨g,6,none⟩ (.slice K (s.U.length+1) I)) (by go_simp) ?_;refine⟨by kernel_rfl,?_⟩;have V:=ti.out;subst V;have S:=kI.out;subst S;clear C hsz t0 D zh HC2 HC3 qa ti kI W hw2 hw3 gT;have hgg:g<(i.setCell ⟨g,6,none⟩ (.slice K (s.U.length+1) I)).heap.size:=by simpa[World.setCell]using hg7
 go_wp2_with fail;go_ret2;exact⟨by first|rfl|simp,HF.out⟩
end Go.Proofs.YtmaiggbnceejiaaGreatDoor
namespace Go.Proofs.YtmaiggbnceejiaaGreatDoor
open Go.RowKit Go.Lib Go.Maps
variable {w w':World}{bs:List Nat}{nv:Nat->Value}
theorem ly.nil(w:World)(L:Lo)(nv lv:Nat->Value):ly w L [] nv lv []:=⟨rfl,List.nodup_nil,λj c s h=>by simp at h,λc h=>by simp at h⟩
theorem ly.snoc{L:Lo}{lv:Nat->Value}{ns:List ec}(h:ly w L bs nv lv ns){d:Nat}{x:ec}(D:w.heap.size<=d)(A:Mod dt w w')(hN:gI w' L d (.slice none 0 0) (.slice none 0 0) x):ly w' L (bs++[d]) (kr nv d (.slice none 0 0)) (kr lv d (.slice none 0 0)) (ns++[x]):=by
 have m:∀c∈bs,∀z,iV c (nv c) (lv c) z->z<w.heap.size:=λc b z g=>by
  obtain⟨i,p⟩:=aP b;have t:i<ns.length:=by have:=(aB.1 p).1;have:=h.len;omega
  exact((h.node i c _ p (aA t)).lt g).2.1
 have k:∀c∈bs,c≠d:=λc b e=>by have:=m c b c (.inl rfl);omega
 have y:∀z,iV d (kr nv d (.slice none 0 0) d) (kr lv d (.slice none 0 0) d) z->z=d:=λz g=>by
  rw[vh,vh]at g;obtain e|e|e:=g
  .exact e
  .simp[Value.ownBlock]at e
  .simp[Value.ownBlock]at e
 have f:∀c∈bs,∀z,iV c (kr nv d (.slice none 0 0) c) (kr lv d (.slice none 0 0) c) z->iV c (nv c) (lv c) z:=λc b z g=>by
  rw[vk _ _ (k c b),vk _ _ (k c b)]at g;exact g
 refine⟨by rw[aE,aE,h.len];rfl,?_,λi c s b n=>?_,λc b r v o z g l=>?_⟩
 .rw[br];exact⟨h.nd,by simp,λa B c b e=>by simp at b;subst b;exact k a B e⟩
 .have C:=h.len;by_cases p:i<bs.length
  .rw[aG p]at b;rw[aG (by omega)]at n;have:=k c (aC b);rw[vk _ _ this,vk _ _ this];exact(h.node i c s b n).quiet A
  .rw[aL (by omega)]at b n;have u:i-bs.length=0:=by
    have:=(aB.1 b).1;simp at this;omega
   rw[u]at b;rw[show i-ns.length=0 by omega]at n;simp at b n;subst b n;rw[vh,vh];exact hN
 .rcases aM.1 b with q|q <;> rcases aM.1 v with j|j
  .exact h.ap c q r j o z (f c q z g) (f r j z l)
  .simp at j;subst j;have:=y z l;have:=m c q z (f c q z g);omega
  .simp at q;subst q;have:=y z g;have:=m r j z (f r j z l);omega
  .simp at q j;exact o (q.trans j.symm)
theorem yMp(k i:Nat):jR k (i+1)=jR k i++[QZ (10*(k:Int)+(i:Int))]:=by unfold jR;rw[aZ,ay];rfl
structure Jn(w w':World)(L:Lo)(b:Nat)(bs:List Nat)(nv lv:Nat->Value)(rv v:Value)(l:jS)(ms:List eG):Prop where
 bn:w.heap.size<=b
 Z:dx w' b [rv,.int .i64 l.heard] 120
 row:w'.ownsRow w.heap.size 91 1 rv bs.length (bs.map jd)
 node:ly w' L bs nv lv l.nodes
 new:∀c∈bs,∀z,iV c (nv c) (lv c) z->w.heap.size<=z
 msg:fF w' L v ms
 fresh:mN w v
 md:Mod dt w w'
theorem yHu(L:Lo)(k nodes:Nat)(w:World)(hk:k<=4)(h1:1<=nodes)(h4:nodes<=4)(hLn:L.n<=w.heap.size)(hLx:∀z,L.x z->z<w.heap.size) :
  Calls Tryz.prog 47 #[.int .i64 k,.int .i64 nodes] w λe w'=>∃b bs nv D R v,e=.returned (.tuple #[.pointer (some ⟨b,0,none⟩),v])/\Jn w w' L b bs nv D R v (pK k nodes).1 (pK k nodes).2:=by
 obtain⟨i0,hi,hz0,hz1,hz2⟩:=A3 Tryz.Ca;obtain⟨w1,hw1⟩:∃x,x=w.alloc (.cells #[.slice none 0 0,.int .i64 0] 120):=⟨_,rfl⟩;have dy:Mod dt w w1:=by rw[hw1];exact(Mod.refl _ w).alloc _
 have gM:dx w1 w.heap.size [.slice none 0 0,.int .i64 0] 120:=by rw[hw1];exact dx.new w _ _
 have fh:=dk dy;have kh:=dk gM;clear dy gM;go_enter Tryz.func47,Tryz.ntmps47;go_upto_region 2 with fail;rw[<-hw1];clear hw1;go_wp2_with fail;go_loopw [11] (λj1 wr=>∃(i:Nat) (bs:List Nat) (nv D:Nat->Value) (R:Value),i<=nodes/\j1=.int .i64 i/\bs.length=i/\dx wr w.heap.size [R,.int .i64 0] 120/\wr.ownsRow w.heap.size 91 1 R i (bs.map jd)/\ly wr L bs nv D (jR k i)/\(∀c∈bs,∀z,iV c (nv c) (D c) z->w.heap.size<=z)/\Mod dt w wr) (λj1 _=>nodes-(intOf j1).toNat)
 case atStart=>exact⟨0,[],λ_=>.slice none 0 0,λ_=>.slice none 0 0,.slice none 0 0,aT _,rfl,rfl,kh.out,A6 _ _ _ _,ly.nil _ _ _ _,λc h=>by simp at h,fh.out⟩
 case round=>
  obtain⟨i,bs,nv,D,R,hil,rfl,N,hB,l,zS,u,X⟩:=hrel;obtain⟨wo,hwo⟩:∃x,x=wr:=⟨_,rfl⟩;subst hwo;obtain⟨m,o,Se⟩:=fU l;subst Se;by_cases hlt:i<nodes
  .have zP:(i:Int)<(nodes:Int):=by omega
   have hi00:(0:Int)<=(i:Int):=by omega
   have Cd:=X.size;have hNW:=yWs L (10*(k:Int)+(i:Int)) wo.drew (by unfold gi;omega) (by show L.n<=wo.heap.size;omega) (λz r=>by have:=hLx z r;show z<wo.heap.size;omega);have c0:=hB.cell 0 rfl;have f0:=hB.frozen 0;have zb:=hB.lt;have yb:=dk hNW;have pY:=dk zS;have YV:=dk u;have NX:=dk X;have Ye:=dk hB;have HRo:=dk l;have Yg:=dk N;have K:Hid (wo.drew.cell? ⟨w.heap.size,0,none⟩=some (.slice m i o)):=c0;have zO:(0:Int)<=(k:Int)/\(k:Int)<=4:=by omega
   have hwa:IntKind.i64.wrap (10*(k:Int))=10*(k:Int):=C2 _ ⟨by omega,by omega⟩;have hwb:IntKind.i64.wrap (10*(k:Int)+(i:Int))=10*(k:Int)+(i:Int):=C2 _ ⟨by omega,by omega⟩;clear hNW zS u X hB l N;go_upto_region 5 with fail;refine IJ λU T=>?_;refine IM λQ1 jV=>?_;have J:∀(d:Nat) (v:Value) (c:List PanicEntry) (a:Act) (w:World),Q1 (.panic c) (a.put (some d) v) w->Q1 (.panic c) a w:=λd v c a w h=>by rw[jV]at h⊢;exact h
   have ti:=dk jV;clear jV;have hsz:U.tmps.size=32:=by rw[T];rfl
   obtain⟨_,t0⟩:∃h:0<U.tmps.size,U.tmps[0]=.int .i64 k:=aF.1 (by rw[T];rfl);obtain⟨_,t6⟩:∃h:6<U.tmps.size,U.tmps[6]=.pointer (some ⟨w.heap.size,0,none⟩):=aF.1 (by rw[T];rfl);obtain⟨_,t7⟩:∃h:7<U.tmps.size,U.tmps[7]=.int .i64 i:=aF.1 (by rw[T];rfl);have kI:=dk T;clear T;refine CM 14 (λy=>y.cell? ⟨w.heap.size,0,none⟩=some (.slice m i o)) rfl ?_;refine fR 14 0 14 (.pointer (some ⟨w.heap.size,0,none⟩)) rfl rfl (λc a w h=>J _ _ c a w h) K.out ⟨by rfl,λy B=>by have S:y.cell? ⟨w.heap.size,0,none⟩=some (.slice m i o):=B;go_simp⟩ ?_;refine fR 14 1 15 (.pointer (some ⟨w.heap.size,0,none⟩)) rfl rfl (λc a w h=>J _ _ c a w h) K.out ⟨by rfl,λy B=>by have S:y.cell? ⟨w.heap.size,0,none⟩=some (.slice m i o):=B;go_simp⟩ ?_;refine fR 14 2 16 (.pointer (some ⟨w.heap.size,0,none⟩)) rfl rfl (λc a w h=>J _ _ c a w h) K.out ⟨by rfl,λy B=>by have S:y.cell? ⟨w.heap.size,0,none⟩=some (.slice m i o):=B;go_simp⟩ ?_;refine fR 14 3 17 (.pointer (some ⟨w.heap.size,0,none⟩)) rfl rfl (λc a w h=>J _ _ c a w h) K.out ⟨by rfl,λy B=>by have S:y.cell? ⟨w.heap.size,0,none⟩=some (.slice m i o):=B;go_simp⟩ ?_;refine fR 14 4 18 (.slice m i o) rfl rfl (λc a w h=>J _ _ c a w h) K.out ⟨by rfl,λy B=>by have S:y.cell? ⟨w.heap.size,0,none⟩=some (.slice m i o):=B;go_simp⟩ ?_;refine fR 14 5 19 (.int .i64 k) rfl rfl (λc a w h=>J _ _ c a w h) K.out ⟨by rfl,λy B=>by have S:y.cell? ⟨w.heap.size,0,none⟩=some (.slice m i o):=B;go_simp⟩ ?_;refine fR 14 6 20 (.int .i64 (10*(k:Int))) rfl rfl (λc a w h=>J _ _ c a w h) K.out ⟨by rfl,λy B=>by have S:y.cell? ⟨w.heap.size,0,none⟩=some (.slice m i o):=B;go_simp⟩ ?_;refine fR 14 7 21 (.int .i64 i) rfl rfl (λc a w h=>J _ _ c a w h) K.out ⟨by rfl,λy B=>by have S:y.cell? ⟨w.heap.size,0,none⟩=some (.slice m i o):=B;go_simp⟩ ?_;refine fR 14 8 22 (.int .i64 (10*(k:Int)+(i:Int))) rfl rfl (λc a w h=>J _ _ c a w h) K.out ⟨by rfl,λy B=>by have S:y.cell? ⟨w.heap.size,0,none⟩=some (.slice m i o):=B;go_simp⟩ ?_;refine KY 14 9 23 rfl rfl (by kernel_rfl) rfl (f:=87) (args:=#[.int .i64 (10*(k:Int)+(i:Int))]) (by go_simp) (yb.out.mono ?_);rintro e M⟨rfl,nx,fA⟩;have Gj:Mod dt wo M:=((Mod.refl dt wo).drewN 1).trans fA;have PJ:M.cell? ⟨w.heap.size,0,none⟩=some (.slice m i o):=Gj.cell c0 (λe=>e);refine⟨_,rfl,PJ,?_⟩;obtain⟨w6,uW⟩:∃x,x=M.alloc (.cells #[.pointer (some ⟨wo.heap.size,0,none⟩)] 91):=⟨_,rfl⟩;have jN:Mod dt M w6:=by rw[uW];exact(Mod.refl _ M).alloc _
   have Q:=Gj.trans jN;have ue:=gO HRo.out Q (λ_ _ _ _ e=>e);obtain⟨v7,g,gT,eX,eh,_,ib⟩:=C0 (P:=Tryz.prog) w6 w.heap.size 99 99 91 i0 _ 1 8 Tryz.underlying99 hi hz0 hz1 hz2 rfl (by omega) _ _ _ ue ⟨M.heap.size,0,none⟩ 1 1 [.pointer (some ⟨wo.heap.size,0,none⟩)] rfl (by rw[uW];exact A7 (A0 M _)) (by simp[Value.oneCell']) (by unfold maxLen;omega) (by omega) (by have:=Q.size;omega);obtain⟨G,E,qQ⟩:=fU eX;subst qQ;have fq:Mod (λz=>(Value.slice m i o).ownBlock=some z) w6 g:=(Mod.refl _ w6).grown eh (λx H _=>H);have V:(Value.slice m i o).ownBlock≠some w.heap.size:=pf HRo.out Ye.out (by decide);have PI:w6.cell? ⟨w.heap.size,0,none⟩=some (.slice m i o):=jN.cell PJ (λe=>e);have Gc:g.cell? ⟨w.heap.size,0,none⟩=some (.slice m i o):=fq.cell PI V;have zb6:w.heap.size<w6.heap.size:=aJ zb Q.size;have zb7:w.heap.size<g.heap.size:=aJ zb6 fq.size;have f7:=(fq.frozen (p:=⟨w.heap.size,0,none⟩) zb6 V).trans ((Q.frozen (p:=⟨w.heap.size,0,none⟩) zb (λe=>e)).trans f0);have HF:Hid (∃(F:List Nat) (ph kB:Nat->Value),F.length=i+1/\dx (g.setCell ⟨w.heap.size,0,none⟩ (.slice G (i+1) E)) w.heap.size [.slice G (i+1) E,.int .i64 0] 120/\(g.setCell ⟨w.heap.size,0,none⟩ (.slice G (i+1) E)).ownsRow w.heap.size 91 1 (.slice G (i+1) E) (i+1) (F.map jd)/\ly (g.setCell ⟨w.heap.size,0,none⟩ (.slice G (i+1) E)) L F ph kB (jR k (i+1))/\(∀c∈F,∀z,iV c (ph c) (kB c) z->w.heap.size<=z)/\Mod dt w (g.setCell ⟨w.heap.size,0,none⟩ (.slice G (i+1) E))):=by
    have jK:Mod (eQ w.heap.size) g (g.setCell ⟨w.heap.size,0,none⟩ (.slice G (i+1) E)):=Mod.eE _ 0 _;have FD:dx g w.heap.size [.slice m i o,.int .i64 0] 120:=(Ye.out.mod Q (λe=>e)).mod fq V;have ug:=pf eX FD (by decide);have Gn:=pY.out.snoc (w':=M) (d:=wo.heap.size) (x:=QZ (10*(k:Int)+(i:Int))) (aD _) Gj nx;rw[<-yMp]at Gn;have Jd:=Gn.quiet jN;have hnd:∀c∈bs++[wo.heap.size],∃x,gI w6 L c (kr nv wo.heap.size (.slice none 0 0) c) (kr D wo.heap.size (.slice none 0 0) c) x:=λc A=>by
     obtain⟨j,hj⟩:=aP A;have W:j<(jR k (i+1)).length:=by have:=(aB.1 hj).1;have:=Jd.len;omega
     exact⟨_,Jd.node j c _ hj (aA W)⟩
    have pq:∀c∈bs++[wo.heap.size],∀z,iV c (kr nv wo.heap.size (.slice none 0 0) c) (kr D wo.heap.size (.slice none 0 0) c) z->∀I t,w6.heap[z]?=some (.cells I t)->t≠91/\t≠120:=λc A z r I t fz=>by
     obtain⟨x,H⟩:=hnd c A;obtain q|q|q:=r
     .have O:=H.Z;unfold dx at O;rw[<-q,fz]at O;simp at O;rw[O.2];decide
     .obtain⟨_,_,lr,Y⟩:=fs H.ns q;rw[fz]at Y;simp at Y;rw[Y.2];decide
     .obtain⟨us,_,h3,_⟩:=H.lg;obtain⟨_,_,lr,Y⟩:=fs h3 q;rw[fz]at Y;simp at Y;rw[Y.2];decide
    have hL7:=Jd.mod fq (Qm.row ue hLn (by decide)) (λc A z r q=>by
     obtain⟨_,_,I,fz⟩:=fs ue q;exact(pq c A z r I _ fz).1 rfl)
    have FE:dx w6 w.heap.size [.slice m i o,.int .i64 0] 120:=Ye.out.mod Q (λe=>e);refine⟨bs++[wo.heap.size],kr nv wo.heap.size (.slice none 0 0),kr D wo.heap.size (.slice none 0 0),by rw[aE,Yg.out];rfl,FD.set 0 _,?_,?_,λc A z r=>?_,?_⟩
    .rw[ay];exact gO eX jK (λz _ _ e q=>ug (by rw[e];exact an some q))
    .refine hL7.mod jK (λz C e=>?_) (λc A z r e=>?_)
     .simp only[eQ]at e;subst e;rintro(e5|⟨⟨I,U,e5⟩,_⟩)
      .have h8:w.heap.size<L.n:=e5;omega
      .unfold dx at FD;rw[FD]at e5;simp at e5
     .simp only[eQ]at e;subst e;unfold dx at FE;exact(pq c A _ r _ _ FE).2 rfl
    .rcases aM.1 A with q|q
     .by_cases e:c=wo.heap.size
      .subst e;rw[vh,vh]at r;obtain e|e|e:=r
       .omega
       .simp[Value.ownBlock]at e
       .simp[Value.ownBlock]at e
      .rw[vk _ _ e,vk _ _ e]at r;exact YV.out c q z r
     .simp at q;subst q;rw[vh,vh]at r;obtain e|e|e:=r
      .omega
      .simp[Value.ownBlock]at e
      .simp[Value.ownBlock]at e
    .exact((NX.out.trans Q).trans' fq (λz r q=>by have:=(fs ue q).1;omega)).trans' jK (λz r q=>by simp only[eQ]at q;omega)
   clear ue eX eh ib fq jN Q Gj nx fA yb pY YV NX Ye HRo Yg;refine kJ 14 10 24 rfl rfl (by kernel_rfl) rfl (v:=.slice (some ⟨M.heap.size,0,none⟩) 1 1) (w':=w6) (by rw[uW];go_simp) PI ?_;refine kJ 14 11 25 rfl rfl (by kernel_rfl) rfl (v:=.slice G (i+1) E) (w':=g) (yz (s:=.tmp 18) (x:=.tmp 24) (t:=99) rfl (by go_simp) (by go_simp) gT) Gc ?_;refine kJ 14 12 26 rfl rfl (by kernel_rfl) rfl (v:=.pointer (some ⟨w.heap.size,0,none⟩)) (w':=g) (by go_simp) Gc ?_;refine kJ 14 13 27 rfl rfl (by kernel_rfl) rfl (v:=.pointer (some ⟨w.heap.size,0,none⟩)) (w':=g) (by go_simp) Gc ?_;refine KX 14 rfl (by kernel_rfl) rfl (w':=g.setCell ⟨w.heap.size,0,none⟩ (.slice G (i+1) E)) (by go_simp) ?_;refine⟨by kernel_rfl,?_⟩;have jV:=ti.out;subst jV;have T:=kI.out;subst T;clear J hsz t0 t6 t7 K ti kI uW gT PJ PI Gc f7;obtain⟨F,ph,kB,r1,r2,r3,r4,r5,r6⟩:=HF.out;have nX:Hid (∃(i':Nat) (bs:List Nat) (nv D:Nat->Value) (R:Value),i'<=nodes/\Value.int .i64 ((i:Int)+1)=.int .i64 i'/\bs.length=i'/\dx (g.setCell ⟨w.heap.size,0,none⟩ (.slice G (i+1) E)) w.heap.size [R,.int .i64 0] 120/\(g.setCell ⟨w.heap.size,0,none⟩ (.slice G (i+1) E)).ownsRow w.heap.size 91 1 R i' (bs.map jd)/\ly (g.setCell ⟨w.heap.size,0,none⟩ (.slice G (i+1) E)) L bs nv D (jR k i')/\(∀c∈bs,∀z,iV c (nv c) (D c) z->w.heap.size<=z)/\Mod dt w (g.setCell ⟨w.heap.size,0,none⟩ (.slice G (i+1) E))):=⟨i+1,F,ph,kB,_,by omega,rfl,r1,r2,r3,r4,r5,r6⟩;clear HF r1 r2 r3 r4 r5 r6;go_wp2_with fail;go_roundw
   case rel=>exact nX.out
   case measure=>simp[intOf];omega
  .obtain rfl:i=nodes:=by omega
   have hNL:pK k i=nj ⟨jR k i,0⟩:=rfl;have ME:pJ ⟨jR k i,0⟩=1:=by unfold pJ;rw[aI,yEd k i (by omega)];rfl
   have hnl:(jR k i).length=i:=by simp[jR]
   have hMo:=X;have r:=X.size;have VR:=dk (yAd L.n L w.heap.size bs nv D ⟨jR k i,0⟩ (.slice m i o) wo rfl hB (by rw[N];exact vl l hLn) zS (by show 0<(jR k i).length;omega) (by show(jR k i).length<=4;omega) (by rw[ME];omega) (λx H=>by
    rw[ME];have hx':x∈jR k i:=H;unfold jR at hx';obtain⟨j,_,rfl⟩:=aj.1 hx';show(0:Int)<1;omega) (by
    unfold iY;rw[List.Nodup,cH];exact(yKf k i).imp (λq=>by omega)) (by omega))
   have HF:Hid (∀g (v7:Value) (BZ zG:Nat->Value),ly g L bs BZ zG (nj ⟨jR k i,0⟩).1.nodes->fF g L v7 (nj ⟨jR k i,0⟩).2->mN wo v7->(∀d∈bs,ik wo (nv d) (BZ d)/\ik wo (D d) (zG d))->Mod (λz=>z∈bs) wo g->Jn w g L w.heap.size bs BZ zG (.slice m i o) v7 (pK k i).1 (pK k i).2):=λg v7 BZ zG q1 q2 q3 q4 q5=>by
    have hbs:∀c∈bs,w.heap.size<=c:=λc A=>u c A c (.inl rfl);have pq:∀c∈bs,∃x,gI wo L c (nv c) (D c) x:=λc A=>by
     obtain⟨j,hj⟩:=aP A;have W:j<(jR k i).length:=by have:=(aB.1 hj).1;have:=zS.len;omega
     exact⟨_,zS.node j c _ hj (aA W)⟩
    have hb:w.heap.size∉bs:=λq=>by
     obtain⟨x,H⟩:=pq _ q;have h1:=H.Z;unfold dx at h1 hB;rw[hB]at h1;simp at h1
    have hr:∀z,(Value.slice m i o).ownBlock=some z->z∉bs:=λz C q=>by
     obtain⟨x,H⟩:=pq _ q;exact pf l H.Z (by decide) C
    refine⟨aD _,hB.mod q5 hb,by rw[N];exact gO l q5 (λz _ _ e q=>hr z e q),q1,λc A z C=>?_,q2,λz C=>aO r (q3 z C),X.trans' q5 (λz C q=>by have:=hbs z q;omega)⟩;obtain e|e|e:=C
    .rw[e];exact hbs c A
    .rcases(q4 c A).1 with q|q
     .exact u c A z (.inr (.inl (by rw[<-q];exact e)))
     .exact aO r (q z e)
    .rcases(q4 c A).2 with q|q
     .exact u c A z (.inr (.inr (by rw[<-q];exact e)))
     .exact aO r (q z e)
   have zb:=hB.lt;clear hB l zS u X hNL ME hnl hMo;go_wp2_with fail;refine VR.out.mono ?_;rintro e g⟨v7,BZ,zG,rfl,q1,q2,q3,q4,q5⟩;obtain⟨XA,Wz,tP⟩:=q2.slice;subst tP;have HF7:=dk (HF.out g _ BZ zG q1 q2 q3 q4 q5);clear q1 q2 q3 q4 q5 VR HF;go_wp2_with fail;go_ret2;exact⟨_,_,_,_,_,_,rfl,HF7.out⟩
open Classical in
noncomputable def pS(w:World)(y:dq)(lv:Value)(b:Nat)(rv:Value)(bs:List Nat)(nv lf:Nat->Value)(x:Nat):Tag:=
 if w.heap.size<=x/\lv.ownBlock=some x then .gN else if w.heap.size<=x/\(x=b\/rv.ownBlock=some x)then .A b else if h:w.heap.size<=x/\∃c∈bs,iV c (nv c) (lf c) x then .node (Classical.choose h.2)else y.own x
theorem yBp(w:World)(y:dq)(lv:Value)(b:Nat)(rv:Value)(bs:List Nat)(nv lf:Nat->Value){x:Nat}(h:x<w.heap.size):pS w y lv b rv bs nv lf x=y.own x:=by
 unfold pS;rw[aH (λe=>by omega),aH (λe=>by omega),dif_neg (λe=>by omega)]
theorem eJ.addL{n c g:Nat}{y:dq}{s:dp}(h:eJ w n c g y s){lv rv:Value}{b:Nat}{lf:Nat->Value}{l:jS}
  (hm:Mod (λz=>z=g\/y.lv.ownBlock=some z) w w') (hB:dx w' g [lv,.map (some y.dr),y.wv,.int .i64 s.J.lost,.map y.mr,.map y.q.m,y.tv] 84) (X:w'.ownsRow n 102 1 lv (y.gd.length+1) ((y.gd++[b]).map jd)) (h1:ik w y.lv lv)
  (hb:w.heap.size<=b) (U:dx w' b [rv,.int .i64 l.heard] 120) (C:w'.ownsRow n 91 1 rv bs.length (bs.map jd)) (Se:∀z,rv.ownBlock=some z->w.heap.size<=z) (hN:ly w' (y.lo n) bs nv lf l.nodes) (O:∀d∈bs,∀z,iV d (nv d) (lf d) z->w.heap.size<=z) :
  ∃o,eJ w' n c g o {s with lines:=s.lines++[l]}/\il w y w' o/\o.lo n=y.lo n/\(∀z,w.heap.size<=z->lv.ownBlock≠some z->z≠b->rv.ownBlock≠some z->(∀d∈bs,¬iV d (nv d) (lf d) z)->o.own z=.no):=by
 have own:=h.own;have kC:∀z,(z=g\/y.lv.ownBlock=some z)->y.own z=.main\/y.own z=.gN:=λz e=>by
  obtain e|e:=e
  .rw[e];exact .inl own.main
  .exact .inr (own.gN z e)
 have hq:Qm w (y.lo n) (λz=>z=g\/y.lv.ownBlock=some z):=λz f e=>by
  rintro(H|⟨⟨F,fr,H⟩,_⟩)
  .have h8:z<n:=H;have:=(own.lt z (by rcases kC z e with q|q <;> rw[q] <;> simp)).1;omega
  .obtain e|e:=e
   .subst e;have:=h.Z;unfold dx at this;rw[this]at H;simp at H
   .obtain⟨_,_,lr,G⟩:=fs h.gN e;rw[G]at H;simp at H
 have ht:su w w' n y (λt=>t=.main\/t=.gN):=⟨⟨_,hm,hq,λz f e=>⟨kC z e,by rcases kC z e with q|q <;> rw[q] <;> simp⟩⟩⟩;have Bc:∀z,w.heap.size<=z->y.own z=.no:=λz f=>aS λe=>by have:=(own.lt z e).2;omega
 have sS:b∉y.gd:=λq=>by have:=(own.lt b (by rw[(own.A b q).1];simp)).2;omega
 have Y:∀d∈bs,w.heap.size<=d:=λd r=>O d r d (.inl rfl);have pr:∀p∈y.gd,∀d∈y.fu p,d∉bs:=λp k d r q=>by
  have e:=own.node p k d r d (.inl rfl);have:=(own.lt d (by rw[e];simp)).2;have:=Y d q;omega
 have pq:∀d∈bs,∃x,gI w' (y.lo n) d (nv d) (lf d) x:=λd r=>by
  obtain⟨j,hj⟩:=aP r;have hjl:j<l.nodes.length:=by have:=(aB.1 hj).1;have:=hN.len;omega
  exact⟨_,hN.node j d _ hj (aA hjl)⟩
 have S:∀d∈bs,∀z,iV d (nv d) (lf d) z->∀F t,w'.heap[z]?=some (.cells F t)->t≠91/\t≠120/\t≠102:=λd r z f F t K=>by
  obtain⟨x,v⟩:=pq d r;obtain q|q|q:=f
  .have N:=v.Z;unfold dx at N;rw[<-q,K]at N;simp at N;rw[N.2];decide
  .obtain⟨_,_,lr,G⟩:=fs v.ns q;rw[K]at G;simp at G;rw[G.2];decide
  .obtain⟨us,_,h3,_⟩:=v.lg;obtain⟨_,_,lr,G⟩:=fs h3 q;rw[K]at G;simp at G;rw[G.2];decide
 let o:dq:={y with lv:=lv,gd:=y.gd++[b],sf:=λx=>if x=b then rv else y.sf x,fu:=λx=>if x=b then bs else y.fu x,lF:=λx=>if x∈bs then nv x else y.lF x,lG:=λx=>if x∈bs then lf x else y.lG x,own:=pS w y lv b rv bs nv lf}
 have Q:o.sf b=rv/\o.fu b=bs:=by constructor <;> simp[o]
 have P:∀{x},x≠b->o.sf x=y.sf x/\o.fu x=y.fu x:=λ{x} v=>by constructor <;> simp[o,v]
 have eD:∀{x},x∈bs->o.lF x=nv x/\o.lG x=lf x:=λ{x} v=>by constructor <;> simp[o,v]
 have eO:∀{x},x∉bs->o.lF x=y.lF x/\o.lG x=y.lG x:=λ{x} v=>by constructor <;> simp[o,v]
 have L:∀z,y.own z≠.no->o.own z=y.own z:=λz f=>yBp _ _ _ _ _ _ _ _ (own.lt z f).2;have TJ:∀z,lv.ownBlock=some z->o.own z=.gN:=λz e=>by
  show pS w y lv b rv bs nv lf z=_;by_cases T:z<w.heap.size
  .rw[yBp _ _ _ _ _ _ _ _ T];obtain q|q:=h1
   .exact own.gN z (by rw[<-q];exact e)
   .have:=q z e;omega
  .unfold pS;rw[aK ⟨by omega,e⟩]
 have oZ:∀z,(z=b\/rv.ownBlock=some z)->o.own z=.A b:=λz e=>by
  show pS w y lv b rv bs nv lf z=_;have f:w.heap.size<=z:=e.elim (λe=>by omega) (Se z);unfold pS;rw[aH,aK ⟨f,e⟩];rintro⟨_,q⟩;obtain⟨_,_,F,K⟩:=fs X q;obtain e|e:=e
  .subst e;unfold dx at U;rw[K]at U;simp at U
  .obtain⟨_,_,lr,G⟩:=fs C e;rw[K]at G;simp at G
 have pn:∀d∈bs,∀z,iV d (nv d) (lf d) z->o.own z=.node d:=λd r z f=>by
  show pS w y lv b rv bs nv lf z=_;have hzn:=O d r z f;unfold pS;rw[aH,aH]
  .have hex:w.heap.size<=z/\∃c∈bs,iV c (nv c) (lf c) z:=⟨hzn,d,r,f⟩;rw[dif_pos hex];have W:=dX hex.2;congr 1;exact aS λe=>hN.ap _ W.1 d r e z W.2 f
  .rintro⟨_,q|q⟩
   .subst q;unfold dx at U;exact(S d r z f _ _ U).2.1 rfl
   .obtain⟨_,_,F,K⟩:=fs C q;exact(S d r z f _ _ K).1 rfl
  .rintro⟨_,q⟩;obtain⟨_,_,F,K⟩:=fs X q;exact(S d r z f _ _ K).2.2 rfl
 have M:∀x∈y.gd,x≠b:=λx v e=>sS (by rw[<-e];exact v);refine⟨o,⟨hB,h.xN ht (by simp),h.qB ht (by simp),h.vB ht (by simp),h.qn,?_,?_,λi p l' k hl=>?_,h.py ht (by simp),h.lJ,λi p t k hti=>(have q:=h.Gs ht k hti (by simp);⟨q.Z,q.ats,q.wr⟩),?_⟩,⟨hm.mono (λz f e=>by rcases kC z e with q|q <;> rw[q] <;> simp),λz f=>yBp _ _ _ _ _ _ _ _ f⟩,rfl,λz f z1 z2 z3 z4=>?_⟩
 .show w'.ownsRow n 102 1 lv (y.gd++[b]).length ((y.gd++[b]).map jd);rw[aE];exact X
 .show(y.gd++[b]).length=(s.lines++[l]).length;rw[aE,aE,h.ir];rfl
 .have u:(y.gd++[b])[i]?=some p:=k;have E:(s.lines++[l])[i]?=some l':=hl;have hll:=h.ir;by_cases T:i<y.gd.length
  .rw[aG T]at u;rw[aG (by omega)]at E;have DQ:=aC u;have B:=M p DQ;have q:=h.rU ht u E (by simp) (λd _=>by simp);refine⟨by rw[(P B).1];exact q.Z,by rw[(P B).1,(P B).2];exact q.row,by rw[(P B).2];exact q.len,λj d x r v=>?_⟩;rw[(P B).2]at r;have DP:=pr p DQ d (aC r);show gI w' (y.lo n) d (o.lF d) (o.lG d) x;rw[(eO DP).1,(eO DP).2];exact q.node j d x r v
  .rw[aL (by omega)]at u E;have hi:i-y.gd.length=0:=by
    have:=(aB.1 u).1;simp at this;omega
   rw[hi]at u;rw[show i-s.lines.length=0 by omega]at E;simp at u E;subst u E;refine⟨by rw[Q.1];exact U,by rw[Q.1,Q.2];exact C,by rw[Q.2];exact hN.len,λj d x r v=>?_⟩;rw[Q.2]at r;have Ae:=aC r;show gI w' (y.lo n) d (o.lF d) (o.lG d) x;rw[(eD Ae).1,(eD Ae).2];exact hN.node j d x r v
 .refine⟨by rw[L _ (by rw[own.main];simp)];exact own.main,λz f=>TJ z f,λz f=>?_,λz f=>?_,?_,λz f=>?_,λp k=>?_,λp k d' D z f=>?_,λp k=>⟨?_,λz f=>?_⟩,λz f=>?_,?_,own.Ir,?_⟩
  .rw[L z (by rw[own.iC z f];simp)];exact own.iC z f
  .rw[L z (by rw[own.J z f];simp)];exact own.J z f
  .show o.own y.dr=_;rw[L _ (by rw[own.dead];simp)];exact own.dead
  .rw[L z (by rw[own.tab z f];simp)];exact own.tab z f
  .have u:p∈y.gd++[b]:=k;rcases aM.1 u with q|q
   .have B:=M p q;refine⟨by rw[L p (by rw[(own.A p q).1];simp)];exact(own.A p q).1,λz f=>?_⟩;rw[(P B).1]at f;rw[L z (by rw[(own.A p q).2 z f];simp)];exact(own.A p q).2 z f
   .simp at q;subst q;exact⟨oZ p (.inl rfl),λz f=>by rw[Q.1]at f;exact oZ z (.inr f)⟩
  .have u:p∈y.gd++[b]:=k;rcases aM.1 u with q|q
   .have B:=M p q;rw[(P B).2]at D;have DP:=pr p q d' D;rw[(eO DP).1,(eO DP).2]at f;have:=own.node p q d' D z f;rw[L z (by rw[this];simp)];exact this
   .simp at q;subst q;rw[Q.2]at D;rw[(eD D).1,(eD D).2]at f;exact pn d' D z f
  .rw[L p (by rw[(own.I p k).1];simp)];exact(own.I p k).1
  .rw[L z (by rw[(own.I p k).2 z f];simp)];exact(own.I p k).2 z f
  .have R:pS w y lv b rv bs nv lf z≠.no:=f;by_cases H:w.heap.size<=z/\lv.ownBlock=some z
   .exact⟨(fs X H.2).1,(fs X H.2).2.1⟩
   .by_cases e2:w.heap.size<=z/\(z=b\/rv.ownBlock=some z)
    .obtain e|e:=e2.2
     .subst e;have kt:=h.low;have:=h.Z.lt;exact⟨by omega,U.lt⟩
     .exact⟨(fs C e).1,(fs C e).2.1⟩
    .by_cases e3:w.heap.size<=z/\∃c∈bs,iV c (nv c) (lf c) z
     .obtain⟨_,d,r,hzd⟩:=e3;obtain⟨x,v⟩:=pq d r;have:=v.lt hzd;exact⟨this.1,this.2.1⟩
     .have hz3:y.own z≠.no:=by
       unfold pS at R;rw[aH H,aH e2,dif_neg e3]at R;exact R
      have:=own.lt z hz3;exact⟨this.1,aJ this.2 hm.size⟩
  .show(y.gd++[b]).Nodup;rw[br];exact⟨own.Eh,by simp,λa ha c hc e=>by simp at hc;subst hc;subst e;exact sS ha⟩
  .show((y.gd++[b]).flatMap o.fu).Nodup;have H:y.gd.flatMap o.fu=y.gd.flatMap y.fu:=by
    have:∀V:List Nat,(∀x∈V,x≠b)->V.flatMap o.fu=V.flatMap y.fu:=by
     intro V
     induction V with
    |nil=>intro _;rfl
    |cons a V ih=>intro v;rw[bN,bN,ih (λx hx'=>v x (by simp[hx'])),(P (v a (by simp))).2]
    exact this y.gd M
   rw[dN,H];simp only[bN,List.flatMap_nil,cY];rw[Q.2,br];refine⟨own.Ba,hN.nd,λa ha c hc e=>?_⟩;subst e;obtain⟨p,k,r⟩:=cV.1 ha;exact pr p k a r hc
 .show pS w y lv b rv bs nv lf z=.no;unfold pS;rw[aH (λe=>z1 e.2),aH (λe=>e.2.elim z2 z3),dif_neg (λe=>by obtain⟨_,d,r,q⟩:=e;exact z4 d r q)];exact Bc z f
def RT(d:Nat):List Value:=[.slice none 0 0,.map (some d),.slice none 0 0,.int .i64 0,.map none,.map none,.slice none 0 0]
def sD(g d:Nat):dq:=⟨.slice none 0 0,d,.slice none 0 0,none,.slice none 0 0,[],λ_=>.slice none 0 0,λ_=>[],λ_=>.slice none 0 0,λ_=>.slice none 0 0,[],λ_=>.slice none 0 0,λ_=>.slice none 0 0,⟨g,[],[],84,none,0,λ_ _=>.slice none 0 0⟩,λx=>if x=g then .main else if x=d then .dead else .no⟩
theorem eJ.bare(w:World)(n c nodes:Nat)(o:n<=w.heap.size):eJ ((w.alloc (.map #[] 0)).alloc (.cells (RT w.heap.size).toArray 84)) n c (w.heap.size+1) (sD (w.heap.size+1) w.heap.size) (iE nodes 0):=by
 have f:(w.alloc (.map #[] 0)).heap.size=w.heap.size+1:=A4 _ _;have hB:dx ((w.alloc (.map #[] 0)).alloc (.cells (RT w.heap.size).toArray 84)) (w.heap.size+1) (RT w.heap.size) 84:=by
  have:=dx.new (w.alloc (.map #[] 0)) (RT w.heap.size) 84;rw[f]at this;exact this
 have g:((w.alloc (.map #[] 0)).alloc (.cells (RT w.heap.size).toArray 84)).heap.size=w.heap.size+1+1:=by rw[A4,f]
 have r:=B2 (H:=Unit) w Tryz.prog 3 unitElem;refine⟨hB,⟨fF.nil _ _,.inl ⟨rfl,rfl⟩,by simp[iE],by simp[iE]⟩,?_,⟨λk a=>⟨λ_=>rfl,rfl,rfl⟩,λk i a=>.inl rfl,λk i a=>?_,λk s i u x _ _ h _=>by simp[sD,Value.ownBlock]at h,λk a=>nY.nil,λk a=>by simp[iE]⟩,⟨rfl,rfl,aT _⟩,A6 _ _ _ _,rfl,λk b l d=>by simp[sD]at d,A6 _ _ _ _,rfl,λi b t d=>by simp[sD]at d,?_⟩
 .refine .inr ⟨w.heap.size,.map [],rfl,o,?_,λx _=>by simp[Maps.has,iE]⟩;obtain⟨q,clock,h,p⟩:=r;refine⟨q,clock,?_,p⟩;rw[heap_alloc_old _ _ (by rw[f];omega)];exact h
 .cases i <;> exact A6 _ _ _ _
 .refine⟨by simp[sD],λk a=>by simp[sD,Value.ownBlock]at a,λk a=>by simp[sD,Value.ownBlock]at a,λk a=>by simp[sD,Value.ownBlock]at a,by simp[sD],λk a=>?_,λb d=>by simp[sD]at d,λb d=>by simp[sD]at d,λb d=>by simp[sD]at d,λk a=>?_,by simp[sD],by simp[sD],by simp[sD]⟩
  .obtain a|⟨z,i,_,a⟩:=a
   .simp[sD]at a
   .simp[sD,Value.ownBlock]at a
  .have:k=w.heap.size+1\/k=w.heap.size:=by
    simp only[sD]at a;by_cases m:k=w.heap.size+1
    .exact .inl m
    .by_cases j:k=w.heap.size
     .exact .inr j
     .rw[aH m,aH j]at a;exact absurd rfl a
   rw[g];obtain e|e:=this <;> omega
theorem yEe(nodes:Nat)(a:nodes<=4):∀m,0<=(iE nodes m).J.lost/\(iE nodes m).J.lost<=4*m
|0=>by simp[iE]
|m+1=>by
  have b:=yEe nodes a m;have e:=FZ (pK m nodes).2 (iE nodes m).J;have d:(pK m nodes).2.length<=(jR m nodes).length:=WO ⟨jR m nodes,0⟩;have c:(jR m nodes).length=nodes:=by simp[jR]
  show 0<=(kp (iE nodes m).J (pK m nodes).2).lost/\(kp (iE nodes m).J (pK m nodes).2).lost<=_;omega
theorem Tryz.LO:(Tryz.prog.info? 102).map (λi=>(i.zero,i.size,i.bytes))=some (some (.pointer none),1,8):=by kernel_rfl
theorem yQp(n c shards nodes:Nat)(w:World)(h1:1<=shards/\shards<=4)(u:1<=nodes/\nodes<=4)(hn:n<=w.heap.size) :
  Calls Tryz.prog 19 #[.int .i64 shards,.int .i64 nodes] w λe w'=>∃g y,e=.returned (.tuple #[.pointer (some ⟨g,0,none⟩),.nilIface])/\eJ w' n c g y (fp shards nodes)/\w.heap.size<=g/\Mod dt w w'/\(∀k,k<w.heap.size->y.own k=.no):=by
 obtain⟨i0,hi,hz0,hz1,hz2⟩:=A3 Tryz.LO;have hmm:=@run_makeMap Tryz.prog;obtain⟨g,hg⟩:∃g,g=w.heap.size+1:=⟨_,rfl⟩;have lW:=eJ.bare w n c nodes hn;rw[<-hg]at lW;obtain⟨w1,hw1⟩:∃x,x=(w.alloc (.map #[] 0)).alloc (.cells #[.slice none 0 0,.map (some w.heap.size),.slice none 0 0,.int .i64 0,.map none,.map none,.slice none 0 0] 84):=⟨_,rfl⟩;have W:eJ w1 n c g (sD g w.heap.size) (iE nodes 0):=by rw[hw1];exact lW
 have dy:Mod dt w w1:=by rw[hw1];exact((Mod.refl _ w).alloc _).alloc _
 have SP:w1=(w.alloc (.map #[] 0)).alloc (.cells #[.slice none 0 0,.map (some w.heap.size),.slice none 0 0,.int .i64 0,.map none,.map none,.slice none 0 0] 84):=hw1;have kh:=dk W;have fh:=dk dy;have YU:Hid (∀k,k<w.heap.size->(sD g w.heap.size).own k=.no):=λk hk=>by simp only[sD];rw[aH (by omega),aH (by omega)]
 have hs1:decide ((shards:Int)<1)=false:=aN (by omega);have hs4:decide ((shards:Int) > 4)=false:=aN (by omega);have Bd:decide ((nodes:Int)<1)=false:=aN (by omega);have hn4:decide ((nodes:Int) > 4)=false:=aN (by omega);clear lW W dy;go_enter Tryz.func19,Tryz.ntmps19;go_upto_region 4 with fail;rw[<-SP,<-hg];have HG:=dk hg;clear hw1 SP hmm hg;go_wp2_with fail;go_loopw [30] (λk0 wr=>∃(k:Nat) (j:dq),k<=shards+1/\k0=.int .i64 k/\eJ wr n c g j (iE nodes k)/\Mod dt w wr/\∀z,z<w.heap.size->j.own z=.no) (λk0 _=>shards+1-(intOf k0).toNat)
 case atStart=>exact⟨0,_,aT _,rfl,kh.out,fh.out,YU.out⟩
 case round=>
  obtain⟨k,j,hkl,rfl,Q,hM,hO⟩:=hrel;obtain⟨wo,hwo⟩:∃x,x=wr:=⟨_,rfl⟩;subst hwo;by_cases hlt:k<shards+1
  .have DC:=yEe nodes u.2 k;have G:(iE nodes k).lines.length=k:=by rw[WH];simp
   have QJ:=dk (yHu (j.lo n) k nodes wo (by omega) u.1 u.2 (aO hn hM.size) (λz a=>yYf Q.own z a));have zM:(pK k nodes).2.length<=nodes:=by
    have q1:(pK k nodes).2.length<=(jR k nodes).length:=WO ⟨jR k nodes,0⟩;have q2:(jR k nodes).length=nodes:=by simp[jR]
    omega
   have HNF:Hid (iE nodes (k+1)=sd {iE nodes k with lines:=(iE nodes k).lines++[(pK k nodes).1]} (pK k nodes).2):=rfl;have zO:(k:Int)<(shards:Int)+1:=by omega
   have ry:(0:Int)<=(k:Int):=by omega
   have hgl:=Q.Z.lt;have O:=dk Q;have NX:=dk hM;have K:=dk hO;clear Q hM hO;generalize iE nodes k=S at O HNF DC G;go_upto_region 8 with(first
   |(go_at_call 47;refine QJ.out.mono ?_;rintro e m⟨b,bs,nv,lf,rv,v,rfl,f⟩;obtain⟨va,vc,lL⟩:=f.msg.slice;subst lL)
   |fail)
   have o:=O.out.quiet f.md;obtain⟨c0,-⟩:=kX o.Z;have f0:=o.Z.frozen 0;have V:=o.Z.lt;have kt:=o.low;obtain⟨D,E,r⟩:=fU o.gN;have h:=o.ir;rw[G]at h;rw[r,h]at c0;have i:m.ownsRow n 102 1 (.slice D k E) k (j.gd.map jd):=by have:=o.gN;rw[r,h]at this;exact this
   have lp:Mod dt m (m.alloc (.cells #[.pointer (some ⟨b,0,none⟩)] 102)):=(Mod.refl _ m).alloc _;obtain⟨v7,B,gT,eX,eh,_,ib⟩:=C0 (P:=Tryz.prog) (m.alloc (.cells #[.pointer (some ⟨b,0,none⟩)] 102)) n 74 74 102 i0 _ 1 8 Tryz.underlying74 hi hz0 hz1 hz2 rfl (by omega) _ _ _ (gO i lp (λ_ _ _ _ e=>e)) ⟨m.heap.size,0,none⟩ 1 1 [.pointer (some ⟨b,0,none⟩)] rfl (A7 (A0 m _)) (by simp[Value.oneCell']) (by unfold maxLen;omega) (by omega) (by have:=lp.size;omega);obtain⟨I,H,qQ⟩:=fU eX;subst qQ;have N:Mod (λz=>(Value.slice D k E).ownBlock=some z) m B:=((Mod.refl _ m).alloc _).grown eh (λx hx _=>hx);have C:(Value.slice D k E).ownBlock≠some g:=pf i o.Z (by decide);have c7:=N.cell c0 C;have f7:=(N.frozen (p:=⟨g,0,none⟩) V C).trans f0;have hg7:=aJ V N.size;have U:∀z,(Value.slice D k E).ownBlock=some z->z<wo.heap.size:=λz a=>(fs O.out.gN (by rw[r,O.out.ir,G];exact a)).2.1;have HF:Hid (∃A,eJ (B.setCell ⟨g,0,none⟩ (.slice I (k+1) H)) n c g A {S with lines:=S.lines++[(pK k nodes).1]}/\Mod dt w (B.setCell ⟨g,0,none⟩ (.slice I (k+1) H))/\(∀z,z<w.heap.size->A.own z=.no)/\fF (B.setCell ⟨g,0,none⟩ (.slice I (k+1) H)) (A.lo n) (.slice va (pK k nodes).2.length vc) (pK k nodes).2/\∀z,(Value.slice va (pK k nodes).2.length vc).ownBlock=some z->A.own z=.no):=by
    have jK:Mod (eQ g) B (B.setCell ⟨g,0,none⟩ (.slice I (k+1) H)):=Mod.eE g 0 _;have F:Mod (λz=>z=g\/(Value.slice D k E).ownBlock=some z) m (B.setCell ⟨g,0,none⟩ (.slice I (k+1) H)):=(N.mono (λz _ e=>.inr e)).trans (jK.mono (λz _ e=>.inl e));have T:j.lv=.slice D k E:=by rw[r,h]
    have ml:Mod (λz=>z=g\/j.lv.ownBlock=some z) wo (B.setCell ⟨g,0,none⟩ (.slice I (k+1) H)):=(f.md.mono (λ_ _ e=>e.elim)).trans (by rw[T];exact F);have FD:dx B g (OJ j S.J.lost) 84:=o.Z.mod N C;have ug:=pf eX FD (by decide);have M:∀z,(z=g\/(Value.slice D k E).ownBlock=some z)->z<wo.heap.size:=λz e=>e.elim (λe=>by rw[e];exact hgl) (U z);have sS:=f.bn;have hq:Qm m (j.lo n) (λz=>z=g\/(Value.slice D k E).ownBlock=some z):=λz a e=>by
     rintro(R|⟨⟨cur,fr,R⟩,_⟩)
     .have h8:z<n:=R;obtain e|e:=e
      .omega
      .have:=(fs i e).1;omega
     .obtain e|e:=e
      .subst e;have:=o.Z;unfold dx at this;rw[this]at R;simp at R
      .obtain⟨_,_,lr,u⟩:=fs i e;rw[u]at R;simp at R
    have Cq:∀z,rv.ownBlock=some z->wo.heap.size<=z:=λz a=>(fs f.row a).1;obtain⟨A,r1,r2,r3,r4⟩:=O.out.addL (b:=b) (bs:=bs) (nv:=nv) (lf:=lf) (rv:=rv) (l:=(pK k nodes).1) (lv:=.slice I (k+1) H) ml (FD.set 0 _) (by
      rw[show j.gd.length=k from h,ay];exact gO eX jK (λz _ _ e q=>ug (by rw[e];exact an some q))) (by
      rw[T];obtain e|e:=ib
      .exact .inl e
      .exact .inr λz a=>by rw[e]at a;simp only[ag]at a;have:=f.md.size;have:=lp.size;omega) f.bn (f.Z.mod F (λe=>by have:=M b e;omega)) (vl (gO f.row F (λz a _ e q=>by have:=M z q;have:=Cq z e;omega)) (aO hn NX.out.size)) Cq (f.node.mod F hq (λd hd z a q=>by have:=f.new d hd z a;have:=M z q;omega)) f.new
    refine⟨A,r1,NX.out.trans' r2.md (λz a e=>e (K.out z a)),λz a=>by rw[r2.old z (aJ a NX.out.size)];exact K.out z a,by rw[r3];exact f.msg.mod F hq (λz a q=>by have:=f.fresh z a;have:=M z q;omega),λz a=>?_⟩;obtain⟨_,cur,fz⟩:=(f.msg.mod F hq (λz a q=>by have:=f.fresh z a;have:=M z q;omega)).block a;refine r4 z (f.fresh z a) (λe=>?_) (λe=>?_) (λe=>?_) (λd hd q=>?_)
    .obtain⟨_,_,lr,u⟩:=fs (gO eX jK (λz _ _ e q=>ug (by rw[e];exact an some q))) e;rw[fz]at u;simp at u
    .have h3:=f.Z.mod F (λe=>by have:=M b e;omega);unfold dx at h3;rw[<-e,fz]at h3;simp at h3
    .obtain⟨_,_,lr,u⟩:=fs (gO f.row F (λz a _ e q=>by have:=M z q;have:=Cq z e;omega)) e;rw[fz]at u;simp at u
    .exact f.node.row f.msg hd q a
   clear f o i lp eX eh ib N C r O NX K QJ U kt h;go_upto_region 9 with(first
   |(at_builtin;refine RN rfl (yz (s:=.tmp 43) (x:=.tmp 45) (t:=74) rfl (by go_simp) (by go_simp) gT) ?_)
   |fail)
   obtain⟨y8,vy,Y,X,Xe,Sw⟩:=HF.out;have qu:=dk (Qv n c g y8 _ _ _ _ vy Xe Sw (by show S.J.lost+_<=_;omega));have VA:=dk Y;have HO8:=dk X;have hg8:=vy.Z.lt;clear vy Y X Xe Sw HF c0 f0 c7 f7 gT;go_wp2_with fail;refine qu.out.mono ?_;rintro e w9⟨⟨x9,rfl⟩,y9,Jh,Gp⟩;have L:Hid (eJ w9 n c g y9 (iE nodes (k+1))/\Mod dt w w9/\∀z,z<w.heap.size->y9.own z=.no):=⟨by rw[HNF.out];exact Jh,VA.out.trans' Gp.st.md (λz a e=>e (HO8.out z a)),λz a=>by rw[Gp.st.old z (aJ a VA.out.size)];exact HO8.out z a⟩;clear Jh Gp qu;go_wp2_with fail;go_roundw
   case rel=>exact⟨k+1,y9,by omega,by go_num,L.out.1,L.out.2.1,L.out.2.2⟩
   case measure=>simp[intOf];omega
  .obtain rfl:k=shards+1:=by omega
   have HF:Hid (∃g' A,Ending.returned (.tuple #[.pointer (some ⟨g,0,none⟩),.nilIface])=.returned (.tuple #[.pointer (some ⟨g',0,none⟩),.nilIface])/\eJ wo n c g' A (fp shards nodes)/\w.heap.size<=g'/\Mod dt w wo/\(∀k,k<w.heap.size->A.own k=.no)):=⟨g,j,rfl,Q,by have:=HG.out;omega,hM,hO⟩;have mV:decide (((shards+1:Nat):Int)<(shards:Int)+1)=false:=aN (by omega);clear Q hM hO;go_wp2_with fail;go_ret2;exact HF.out
