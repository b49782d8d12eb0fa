import Derived.Test.YtmaiggbnceejiaaGreatDoorL13
import Derived.LaidEql
import Derived.Stop.Asserts
import Derived.RowKitTokens
set_option linter.unusedVariables false
set_option maxRecDepth 100000
set_option maxHeartbeats 16000000
namespace Go.Proofs.YtmaiggbnceejiaaGreatDoor
open Go.RowKit Go.Lib Go.Maps
variable {β α:Type}{w w':World}{n c g k b j d id i:Nat}{y:dq}{s:dp}{l:jS}{x:ec}{v:Value}{cs:List eH}
def Ik:ec:=⟨0,0,[],[],0⟩
def dq.pairs(y:dq)(s:dp):List (Nat×ec):=(y.gd.zip s.lines).flatMap λp=>(y.fu p.1).zip p.2.nodes
def dq.st(y:dq)(s:dp)(d:Nat):ec:=(((y.pairs s).find? λp=>decide (p.1=d)).map (·.2)).getD Ik
theorem yKt:∀(l:List (Nat×β)) (c:Nat) (x:β),(l.map (·.1)).Nodup->(c,x)∈l->l.find? (λp=>decide (p.1=c))=some (c,x)
|[],_,_,_,h=>by simp at h
|q::l,c,x,f,h=>by
  simp only[bZ,List.nodup_cons]at f;rw[cL];rcases bB.1 h with e|e
  .subst e;simp
  .have a:q.1≠c:=λm=>f.1 (by rw[m];exact aj.2 ⟨_,e,rfl⟩);rw[aN a];exact yKt l c x f.2 e
theorem yQj(h:eJ w n c g y s):(y.pairs s).map (·.1)=y.gd.flatMap y.fu:=by
 have f:∀(e:List Nat) (a:List jS),e.length=a.length->(∀(k b:Nat) l,e[k]?=some b->a[k]?=some l->(y.fu b).length=l.nodes.length)->((e.zip a).flatMap λp=>(y.fu p.1).zip p.2.nodes).map (·.1)=e.flatMap y.fu:=by
  intro e
  induction e with
 |nil=>intro a _ _;simp
 |cons b e u=>
   intro a r q
   cases a with
  |nil=>simp at r
  |cons l a=>
    rw[List.zip_cons_cons,bN,ay,bN,u a (by simpa using r) (λk z t o m=>q (k+1) z t (by simpa using o) (by simpa using m))];congr 1;exact List.map_fst_zip (Nat.le_of_eq (q 0 b l rfl rfl))
 exact f y.gd s.lines h.ir (λk b l o m=>(h.A k b l o m).len)
theorem yBs:∀{a:List α}{b:List β}{i:Nat}{x:α}{z:β},a[i]?=some x->b[i]?=some z->(x,z)∈a.zip b
|[],_,_,_,_,h,_=>by simp at h
|_::_,[],_,_,_,_,h=>by simp at h
|p::a,q::b,0,x,z,f,e=>by simp at f e;subst f e;simp
|p::a,q::b,i+1,x,z,f,e=>by
  rw[List.zip_cons_cons];exact bH _ (yBs (by simpa using f) (by simpa using e))
theorem eJ.lU(h:eJ w n c g y s)(o:y.gd[k]?=some b)(m:s.lines[k]?=some l)(f:(y.fu b)[j]?=some d)(e:l.nodes[j]?=some x):y.st s d=x:=by
 unfold dq.st;have a:(d,x)∈y.pairs s:=cV.2 ⟨(b,l),yBs o m,yBs f e⟩;rw[yKt (y.pairs s) d x (by rw[yQj h];exact h.own.Ba) a];rfl
theorem eJ.wR(h:eJ w n c g y s)(f:y.gd[k]?=some b)(e:s.lines[k]?=some l):(y.fu b).map (y.st s)=l.nodes:=by
 have m:=(h.A k b l f e).len;apply bP;intro j;rw[ah];by_cases a:j<(y.fu b).length
 .rw[aA a,aA (by omega),bJ,h.lU f e (aA a) (aA (by omega))]
 .rw[aX (by omega),aX (by omega)];rfl
theorem eJ.nP(h:eJ w n c g y s)(f:y.gd[k]?=some b)(r:d∈y.fu b):zj w n y d (y.st s d):=by
 obtain⟨j,e⟩:=aP r;have q:k<s.lines.length:=by have:=(aB.1 f).1;have:=h.ir;omega
 have p:s.lines[k]?=some s.lines[k]:=aA q;have m:=h.A k b _ f p;have a:j<s.lines[k].nodes.length:=by have:=(aB.1 e).1;have:=m.len;omega
 have o:s.lines[k].nodes[j]?=some s.lines[k].nodes[j]:=aA a;rw[h.lU f p e o];exact m.node j d _ e o
theorem nM(a:k<s.lines.length):s.lines[k]?=some (s.A k):=by
 unfold dp.A;rw[aI,aA a];rfl
theorem Vw:∀a:List Nat,a.map jd=kc a
|[]=>rfl
|b::a=>by rw[KV,bZ,Vw a];rfl
def dq.lk(y:dq)(s:dp)(b:Nat):List Nat:=(y.fu b).filter λd=>gQ s (y.st s d)
theorem eJ.GB(h:eJ w n c g y s)(a:k<s.lines.length)(e:y.gd[k]?=some b):(y.lk s b).map (y.st s)=fc s k:=by
 unfold dq.lk fc;rw[<-h.wR e (nM a),List.filter_map];rfl
theorem yEw(n c g:Nat)(y:dq)(s:dp)(k b d:Nat)(w:World)(h:eJ w n c g y s)(u:k<s.lines.length)(a:y.gd[k]?=some b)(f:(y.fu b)[0]?=some d) :
  Calls Tryz.prog 64 #[.pointer (some ⟨g,0,none⟩),.int .i64 k] w λe w'=>e=.returned (.tuple #[.pointer (some ⟨d,0,none⟩),.bool (gQ s (y.st s d))])/\Mod dt w w':=by
 obtain⟨B,-⟩:=kX h.Z;obtain⟨I,z,p,L⟩:=yv h.gN a;rw[p]at B;have m:=h.A k b _ a (nM u);have C:=m.Z.cell 0 rfl;obtain⟨H,J,o,K⟩:=yv m.row f;rw[o]at C;have D:=dk (yEm n c g y s d (y.st s d) w h (h.nP a (aC f)));have t:=(aB.1 a).1;have E:(k:Int)<(y.gd.length:Int):=by omega
 have G:(0:Int)<=(k:Int):=by omega
 have q:=(aB.1 f).1;have F:(0:Int)<((y.fu b).length:Int):=by omega
 clear h p m o a f;go_enter Tryz.func64,Tryz.ntmps64;go_wp2_with fail;refine D.out.mono ?_;rintro e w1⟨rfl,r⟩;go_wp2_with fail;go_ret2;exact⟨rfl,r⟩
theorem yHx(n c g q:Nat)(y:dq)(s:dp)(d:Nat)(w:World)(h:eJ w n c g y s)(a:zj w n y d (y.st s d))(o:w.cell? ⟨q,0,none⟩=some (.pointer (some ⟨g,0,none⟩))) :
  Calls Tryz.prog 83 #[.pointer (some ⟨d,0,none⟩),.pointer (some ⟨q,0,none⟩)] w λe w'=>e=.returned (.bool (!gQ s (y.st s d)))/\Mod dt w w':=by
 have m:=dk (yEm n c g y s d (y.st s d) w h a);clear h a;go_enter Tryz.func83,Tryz.ntmps83;go_wp2_with fail;refine m.out.mono ?_;rintro e w1⟨rfl,f⟩;go_wp2_with fail;go_ret;exact⟨rfl,f⟩
theorem yVs(y:dq)(s:dp)(b:Nat):jb (λd=>!gQ s (y.st s d)) (y.fu b)=y.lk s b:=by
 unfold jb dq.lk;congr 1;funext d;simp
theorem ZR(n c g:Nat)(y:dq)(s:dp)(k b:Nat)(w:World)(h:eJ w n c g y s)(hk:k<s.lines.length)(z:y.gd[k]?=some b)(hf:(y.fu b).length<=100)(E:0<(y.fu b).length) :
  Calls Tryz.prog 46 #[.pointer (some ⟨g,0,none⟩),.int .i64 k] w λe w'=>∃v,e=.returned v/\w'.ownsRow w.heap.size 91 1 v (y.lk s b).length (kc (y.lk s b))/\Mod dt w w':=by
 obtain⟨w1,hw1⟩:∃x,x=w.alloc (.cells #[.pointer (some ⟨g,0,none⟩)] 35):=⟨_,rfl⟩;have G:Mod dt w w1:=by rw[hw1];exact(Mod.refl _ w).alloc _
 have q:dx w1 w.heap.size [.pointer (some ⟨g,0,none⟩)] 35:=by rw[hw1];exact dx.new w _ _
 have B:=h.quiet G;have x0:=q.cell 0 rfl;obtain⟨c0,-⟩:=kX B.Z;obtain⟨lg,r,P,cl⟩:=yv B.gN z;rw[P]at c0;have C:=B.A k b _ z (nM hk);have b0:=C.Z.cell 0 rfl;obtain⟨nd,hnd⟩:∃d,(y.fu b)[0]?=some d:=⟨_,aA E⟩;obtain⟨M,iq,L,cn⟩:=yv C.row hnd;have m:=C.row;rw[L]at b0 m;have p:=m.cells (g:=M) rfl;rw[Vw]at p;have J:=dk (yIw ⟨M,0,none⟩ (y.fu b).length iq (y.fu b) w1 rfl p (by omega) (λd _ u Q=>by simp[qd]at Q;subst Q;rfl));have sg:∀S first r w,(Instr.makeFunc S first r).run Tryz.prog w=.ok (.func S first r) w:=λ_ _ _ _=>rfl
 have hlt:=(aB.1 z).1;have zO:(k:Int)<(y.gd.length:Int):=by omega
 have ry:(0:Int)<=(k:Int):=by omega
 have V:=dk B;have HB:=dk z;have N:=dk q;have T:=dk G;clear h B P C L m p z hnd q G cn;go_enter Tryz.func46,Tryz.ntmps46;go_upto_region 1 with fail;rw[<-hw1];clear hw1;go_wp2_with fail;refine J.out.mono ?_;rintro e Y⟨D,SA,rfl,a,o⟩;have W:nI 83 #[.pointer (some ⟨w.heap.size,0,none⟩)] (λd=>.pointer (some ⟨d,0,none⟩)) (y.fu b) (λd=>!gQ s (y.st s d)) (λwr=>eJ wr n c g y s/\wr.cell? ⟨w.heap.size,0,none⟩=some (.pointer (some ⟨g,0,none⟩))):=
  ⟨zu Tryz.func83 (by kernel_rfl) rfl,λwa wb t R=>⟨t.1.quiet R,R.cell t.2 id⟩,λd hd wr t=>yHx n c g w.heap.size y s d wr t.1 (t.1.nP HB.out hd) t.2⟩
 have K:=V.out.quiet o;have H:=dk (yFx 83 w1.heap.size #[.pointer (some ⟨w.heap.size,0,none⟩)] (λd=>!gQ s (y.st s d)) (.slice (some ⟨D,0,none⟩) (y.fu b).length SA) (y.fu b) Y _ a W ⟨K,o.cell (N.out.cell 0 rfl) id⟩ (λx hx w' F=>by
  have hx1:w1.heap.size<=x:=(fs a hx).1;have I:Mod dt w1 w':=o.trans' F (λi hi e=>by simp only[eQ]at e;omega);exact⟨V.out.quiet I,I.cell (N.out.cell 0 rfl) id⟩) (by omega))
 rw[yVs]at H;have HR:=dk a;have gy:=dk o;clear a K W o J;go_wp2_with fail;refine H.out.mono ?_;rintro e X⟨v3,rfl,f,hv3,U⟩;obtain⟨Oi,Io,LZ⟩:=fU f;subst LZ;have Dk:=dk f;have O:Mod dt w1 X:=gy.out.trans' U (λi hi e=>by have:=(fs HR.out e).1;omega);have jC:=dk (T.out.trans O);have HZ:=dk T.out.size;clear f U O H;go_wp2_with fail;go_ret;exact⟨_,rfl,vl Dk.out HZ.out,jC.out⟩
structure mo(s:dp):Prop where
 ll:2<=s.lines.length/\s.lines.length<=5
 nl:∀l∈s.lines,1<=l.nodes.length/\l.nodes.length<=4
 tl:s.U.length<=60
 ta:∀t∈s.U,t.ats.length=s.lines.length
 tw:∀t∈s.U,t.writes.length<=20
theorem Nu(a:k<s.lines.length):s.A k∈s.lines:=aC (nM a)
theorem vf(e:1<=id)(a:id<=s.U.length):s.U[id-1]?=some (s.I id):=by
 unfold dp.I;rw[aI,aA (by omega)];rfl
theorem FP(e:1<=id)(a:id<=s.U.length):s.I id∈s.U:=aC (vf e a)
theorem zWx(f p:α->Bool):∀l:List α,
  ((l.filter f).findIdx? p=none/\l.findIdx? (λx=>f x&&p x)=none)\/∃i j d,(l.filter f).findIdx? p=some i/\(l.filter f)[i]?=some d/\l.findIdx? (λx=>f x&&p x)=some j/\l[j]?=some d
|[]=>.inl ⟨rfl,rfl⟩
|x::l=>by
  have e:=zWx f p l
  cases a:f x with
 |false=>
   rw[List.filter_cons_of_neg (by simp[a]),cB (xs:=l) (p:=λx=>f x&&p x)];simp only[a,Bool.false_and];obtain⟨h1,h2⟩|⟨i,j,d,h1,h2,h3,h4⟩:=e
   .exact .inl ⟨h1,by simp[h2]⟩
   .exact .inr ⟨i,j+1,d,h1,h2,by simp[h3],by simpa using h4⟩
 |true=>
   rw[List.filter_cons_of_pos a,cB (xs:=l) (p:=λx=>f x&&p x),cB];simp only[a,Bool.true_and]
   cases h:p x with
  |true=>exact .inr ⟨0,0,x,by simp,rfl,by simp,rfl⟩
  |false=>
    obtain⟨h1,h2⟩|⟨i,j,d,h1,h2,h3,h4⟩:=e
    .exact .inl ⟨by simp[h1],by simp[h2]⟩
    .exact .inr ⟨i+1,j+1,d,by simp[h1],by simpa using h2,by simp[h3],by simpa using h4⟩
def yTn(y:dq)(o:Option (Nat×Nat))(e:Ending):Prop:=match o with
|none=>e=.returned (.tuple #[.pointer none,.bool false])
|some (k,j)=>∃b d,y.gd[k]?=some b/\(y.fu b)[j]?=some d/\e=.returned (.tuple #[.pointer (some ⟨d,0,none⟩),.bool true])
theorem yMn{id:Int}(a:k<s.lines.length):yt s id k (s.lines.drop k)=match BI s (s.A k).nodes id with
 |some j=>some (k,j)
 |none=>yt s id (k+1) (s.lines.drop (k+1)):=by
 rw[wJ (nM a)];rfl
theorem yQn(n c g q:Nat)(y:dq)(s:dp)(d:Nat)(id:Int)(w:World)(p:zj w n y d (y.st s d))(t:w.cell? ⟨q,0,none⟩=some (.int .i64 id)) :
  Calls Tryz.prog 97 #[.pointer (some ⟨d,0,none⟩),.pointer (some ⟨q,0,none⟩)] w λe w'=>e=.returned (.bool (decide ((y.st s d).id=id)))/\Mod dt w w':=by
 have r:Hid (∀m,Calls Tryz.prog 98 #[.pointer (some ⟨d,0,none⟩)] (w.drewN m) λe w'=>e=.returned (.int .i64 (y.st s d).id)/\w'=w.drewN m):=λm=>yIx _ _ _ _ _ _ (p.drewN m);have z:=AC w _ t;clear p;by_cases f:(y.st s d).id=id
 .have h:((y.st s d).id==id)=true:=by simpa using f
  have a:decide ((y.st s d).id=id)=true:=aQ f;have o:=dk a;clear a f;go_enter Tryz.func97,Tryz.ntmps97;go_upto_region 1 with fail;go_quiet (first
  |(go_at_call 98;refine A8 (r.out _))
  |fail)
  go_wp2_with fail;go_ret;exact⟨by rw[o.out];first|rfl|(simp[h]),(Mod.refl _ w).drewN _⟩
 .have h:((y.st s d).id==id)=false:=by simpa using f
  have a:decide ((y.st s d).id=id)=false:=aN f;have o:=dk a;clear a f;go_enter Tryz.func97,Tryz.ntmps97;go_upto_region 1 with fail;go_quiet (first
  |(go_at_call 98;refine A8 (r.out _))
  |fail)
  go_wp2_with fail;go_ret;exact⟨by rw[o.out];first|rfl|(simp[h]),(Mod.refl _ w).drewN _⟩
theorem yEt(n c g:Nat)(y:dq)(s:dp)(id:Int)(w:World)(h:eJ w n c g y s)(X:mo s) :
  Calls Tryz.prog 55 #[.pointer (some ⟨g,0,none⟩),.int .i64 id] w λe w'=>yTn y (nf s id) e/\Mod dt w w':=by
 obtain⟨w1,hw1⟩:∃x,x=w.alloc (.cells #[.int .i64 id] 3):=⟨_,rfl⟩;have N:Mod dt w w1:=by rw[hw1];exact(Mod.refl _ w).alloc _
 have z:dx w1 w.heap.size [.int .i64 id] 3:=by rw[hw1];exact dx.new w _ _
 have I:=h.quiet N;obtain⟨c0,-⟩:=kX I.Z;obtain⟨la,fQ,G⟩:=fU I.gN;rw[G,h.ir]at c0;have hll:=X.ll;have HH:=dk I;have kh:=dk z;have fh:=dk N;have sg:∀fn first C w,(Instr.makeFunc fn first C).run Tryz.prog w=.ok (.func fn first C) w:=λ_ _ _ _=>rfl
 clear h I G z N;go_enter Tryz.func55,Tryz.ntmps55;go_upto_region 1 with fail;rw[<-hw1];clear hw1;go_wp2_with fail;go_loopw [14] (λL wr=>∃k:Nat,k<=s.lines.length/\L=.int .i64 k/\nf s id=yt s id k (s.lines.drop k)/\Mod dt w1 wr) (λL _=>s.lines.length-(intOf L).toNat)
 case atStart=>exact⟨0,aT _,rfl,by rw[cI];rfl,Mod.refl _ _⟩
 case round=>
  obtain⟨k,hkl,rfl,Y,r⟩:=hrel;have P:=dk r;have R:=dk Y;clear r Y c0;by_cases f:k<s.lines.length
  .have F:=HH.out.quiet P.out;obtain⟨b,H,hL⟩:=F.nQ f;have hnl:=X.nl _ (Nu f);have t:=hL.len;have FM:=dk (ZR n c g y s k b wr F f H (by omega) (by omega));have jq:(k:Int)<(s.lines.length:Int):=by omega
   have S:=dk H;have HL:=dk F;have E:=dk (yMn (id:=id) f);have O:=dk (F.wR H (nM f));clear F hL H t;go_wp2_with fail;refine FM.out.mono ?_;rintro e T⟨v,rfl,a,o⟩;obtain⟨va,vc,G⟩:=fU a;subst G;have HR:=dk a;have gy:=dk (P.out.trans o);have U:=HL.out.quiet o;have HA:nI 97 #[.pointer (some ⟨w.heap.size,0,none⟩)] (λd=>.pointer (some ⟨d,0,none⟩)) (y.lk s b) (λd=>decide ((y.st s d).id=id)) (λwr=>eJ wr n c g y s/\wr.cell? ⟨w.heap.size,0,none⟩=some (.int .i64 id)):=
    ⟨zu Tryz.func97 (by kernel_rfl) rfl,λwa wb u r=>⟨u.1.quiet r,r.cell u.2 (λe=>e)⟩,λd hd wr u=>yQn n c g w.heap.size y s d id wr (u.1.nP S.out (au.1 hd).1) u.2⟩
   have K:=dk (zWe 97 T.heap.size #[.pointer (some ⟨w.heap.size,0,none⟩)] (λd=>decide ((y.st s d).id=id)) _ (y.lk s b) T _ (Yv a) HA ⟨U,gy.out.cell (kh.out.cell 0 rfl) (λe=>e)⟩ (by have:=bD (λd=>gQ s (y.st s d)) (y.fu b);have:=(HL.out.A k b _ S.out (nM f)).len;show(y.lk s b).length<=_;unfold dq.lk;omega));clear a o U HA FM;go_wp2_with fail;refine K.out.mono ?_;rintro e w3⟨rfl,J⟩;have W:=dk (gy.out.trans J);have Ad:=zWx (λd=>gQ s (y.st s d)) (λd=>decide ((y.st s d).id=id)) (y.fu b);have m:BI s (s.A k).nodes id=(y.fu b).findIdx? (λd=>gQ s (y.st s d)&&decide ((y.st s d).id=id)):=by
    unfold BI;rw[<-O.out,List.findIdx?_map];rfl
   obtain⟨g1,g2⟩|⟨i,j,d,g1,g2,g3,g4⟩:=Ad
   .have B:jE ((y.lk s b).findIdx? λd=>decide ((y.st s d).id=id)) = -1:=by unfold dq.lk;rw[g1];rfl
    rw[B];have D:Hid (nf s id=yt s id (k+1) (s.lines.drop (k+1))):=by unfold Hid;rw[R.out,E.out,m,g2]
    clear B g1 g2 m J K;go_wp2_with fail;go_roundw
    case rel=>exact⟨k+1,by omega,by go_num,D.out,W.out⟩
    case measure=>simp[intOf];omega
   .have B:jE ((y.lk s b).findIdx? λd=>decide ((y.st s d).id=id))=(i:Int):=by unfold dq.lk;rw[g1];rfl
    rw[B];have D:Hid (nf s id=some (k,j)):=by unfold Hid;rw[R.out,E.out,m,g3]
    obtain⟨rb,V,rl,M,_,p,_,q⟩:=gD.at (Yv (gO HR.out J (λ_ _ _ _ e=>e))) g2;unfold Wl at p;subst p;subst M;have q0:=q 0 _ rfl;simp only[bK,cq]at q0;have hil:i<(y.lk s b).length:=(aB.1 g2).1;have zP:(i:Int)<((y.lk s b).length:Int):=by omega
    have hi0:(0:Int)<=(i:Int):=by omega
    have hge:decide ((i:Int) ≥ 0)=true:=aQ (by omega);have Q:=dk g4;clear B g1 g2 g3 g4 m J K q;go_wp2_with fail;go_ret2;exact⟨by rw[D.out];exact⟨b,d,S.out,Q.out,rfl⟩,fh.out.trans W.out⟩
  .obtain rfl:k=s.lines.length:=by omega
   have D:Hid (nf s id=none):=by unfold Hid;rw[R.out,cy];rfl
   go_wp2_with fail;go_ret2;exact⟨by rw[D.out];rfl,fh.out.trans P.out⟩
def vQ(w:World)(v:Value)(cs:List eH):Prop:=∃e:List Value,(e.length=cs.length/\∀u∈e,∃a m c,u=.slice a m c)/\gD w w.heap.size 4 Ii v (cs.zip e)
theorem Wy:∀{a:List α}{b:List β}{i:Nat}{x:α×β},(a.zip b)[i]?=some x->a[i]?=some x.1/\b[i]?=some x.2
|[],_,_,_,h=>by simp at h
|_::_,[],_,_,h=>by simp at h
|p::a,q::b,0,x,h=>by simp at h;subst h;exact⟨rfl,rfl⟩
|p::a,q::b,i+1,x,h=>by
  rw[List.zip_cons_cons,cW]at h;have:=Wy h;exact⟨by simpa using this.1,by simpa using this.2⟩
theorem iF.nO{L:Lo}(h:iF w L v cs):vQ w v cs:=by
 obtain⟨o,z,t,E,H⟩:=h;refine⟨o,⟨z,λu B=>?_⟩,?_⟩
 .obtain⟨i,m⟩:=aP B;have p:i<cs.length:=by have:=(aB.1 m).1;omega
  obtain⟨a,f,e,_⟩:=E i _ u (aA p) m;exact⟨_,_,_,e⟩
 have r:(cs.zip o).length=cs.length:=by rw[cJ];omega
 obtain⟨rfl,hn⟩|⟨g,f,cur,rfl,q1,q2,q3,q4,q5,q6⟩:=t.2
 .have D:cs=[]:=aR hn;subst D;exact gD.nil _ _ _ _
 .have q:=t.cells (g:=g) rfl;have C:g<w.heap.size:=(aF.1 q2).1;refine⟨_,f,by rw[r],by rw[r];exact q3,q4,.inr ⟨g,0,rfl,by omega,λi d m=>⟨yx d.1 d.2,rfl,rfl,λj x A=>?_⟩⟩⟩;obtain⟨G,F⟩:=Wy m;have:=q _ _ (WY cs o i d.1 d.2 z G F j x A);rw[A1,aY]at this;rw[aY];exact this
theorem vQ.mod{G:Nat->Prop}(h:vQ w v cs)(p:Mod G w w')(B:∀k,v.ownBlock=some k->¬G k):vQ w' v cs:=by
 obtain⟨t,H,a,o,r,F,E,m⟩:=h;refine⟨t,H,a,o,r,F,E,?_⟩;obtain m|⟨b,e,q,D,C⟩:=m
 .exact .inl m
 .refine .inr ⟨b,e,q,aJ D p.size,λi d A=>?_⟩;obtain⟨l,z,f,I⟩:=C i d A;refine⟨l,z,f,λj x u=>p.cell (I j x u) (B b ?_)⟩;rw[r,q];rfl
theorem yWg(p:α->Bool)(a:List α)(b:List β)(h:b.length=a.length):(a.zip b).findIdx? (λd=>p d.1)=a.findIdx? p:=by
 conv=>rhs;rw[<-List.map_fst_zip (l₁:=a) (l₂:=b) (by omega)]
 rw[List.findIdx?_map];rfl
theorem yIf(C B:Nat)(d:eH×Value)(a tx:Int)(w:World)(E:w.cell? ⟨C,0,none⟩=some (.int .i64 a))(D:w.cell? ⟨B,0,none⟩=some (.int .i64 tx)) :
  Calls Tryz.prog 127 #[.agg #[.int .i64 d.1.kind,.int .i64 d.1.I,.int .i64 d.1.time,d.2],.pointer (some ⟨C,0,none⟩),.pointer (some ⟨B,0,none⟩)] w λe w'=>e=.returned (.bool (decide (d.1.kind=a)&&decide (d.1.I=tx)))/\Mod dt w w':=by
 obtain⟨⟨k,x,t,F⟩,u⟩:=d;dsimp only;obtain⟨w1,hw1⟩:∃z,z=w.alloc (.cells #[.int .i64 k,.int .i64 x,.int .i64 t,u] 65):=⟨_,rfl⟩;have p:Mod dt w w1:=by rw[hw1];exact(Mod.refl _ w).alloc _
 have f:dx w1 w.heap.size [.int .i64 k,.int .i64 x,.int .i64 t,u] 65:=by rw[hw1];exact dx.new w _ _
 have H:=p.cell E id;have G:=p.cell D id;have K:=f.cell 0 rfl;have J:=f.cell 1 rfl;have A:=dk p;clear E D f p;by_cases h:k=a
 .have q:(k==a)=true:=by simpa using h
  by_cases m:x=tx
  .have r:(x==tx)=true:=by simpa using m
   have o:Hid ((decide (k=a)&&decide (x=tx))=true):=by unfold Hid;simp[h,m]
   clear h m;go_enter Tryz.func127,Tryz.ntmps127;go_upto_region 1 with fail;rw[<-hw1];clear hw1;go_wp2_with fail;go_ret;exact⟨by rw[o.out];first|rfl|simp[q,r],A.out⟩
  .have r:(x==tx)=false:=by simpa using m
   have o:Hid ((decide (k=a)&&decide (x=tx))=false):=by unfold Hid;simp[m]
   clear h m;go_enter Tryz.func127,Tryz.ntmps127;go_upto_region 1 with fail;rw[<-hw1];clear hw1;go_wp2_with fail;go_ret;exact⟨by rw[o.out];first|rfl|simp[q,r],A.out⟩
 .have q:(k==a)=false:=by simpa using h
  have o:Hid ((decide (k=a)&&decide (x=tx))=false):=by unfold Hid;simp[h]
  clear h;go_enter Tryz.func127,Tryz.ntmps127;go_upto_region 1 with fail;rw[<-hw1];clear hw1;go_wp2_with fail;go_ret;exact⟨by rw[o.out];first|rfl|simp[q],A.out⟩
theorem ZN(v:Value)(cs:List eH)(a tx:Int)(w:World)(C:vQ w v cs)(R:cs.length<=1000) :
  Calls Tryz.prog 80 #[v,.int .i64 a,.int .i64 tx] w λe w'=>e=.returned (.int .i64 (jE (mC cs a tx)))/\Mod dt w w':=by
 obtain⟨w1,hw1⟩:∃z,z=w.alloc (.cells #[.int .i64 a] 3):=⟨_,rfl⟩;obtain⟨w2,hw2⟩:∃z,z=w1.alloc (.cells #[.int .i64 tx] 3):=⟨_,rfl⟩;have E:Mod dt w w1:=by rw[hw1];exact(Mod.refl _ w).alloc _
 have h:Mod dt w1 w2:=by rw[hw2];exact(Mod.refl _ w1).alloc _
 have p:w1.heap.size=w.heap.size+1:=by rw[hw1,A4]
 have t:dx w2 w.heap.size [.int .i64 a] 3:=dx.mod (by rw[hw1];exact dx.new w _ _) h id;have r:dx w2 (w.heap.size+1) [.int .i64 tx] 3:=by rw[<-p,hw2];exact dx.new w1 _ _
 have m:=E.trans h;obtain⟨o,G,f⟩:=C.mod m (λ_ _ e=>e);have K:(cs.zip o).length=cs.length:=by rw[cJ];omega
 have F:nI 127 #[.pointer (some ⟨w.heap.size,0,none⟩),.pointer (some ⟨w.heap.size+1,0,none⟩)] (λd=>.agg #[.int .i64 d.1.kind,.int .i64 d.1.I,.int .i64 d.1.time,d.2]) (cs.zip o) (λd=>decide (d.1.kind=a)&&decide (d.1.I=tx)) (λwr=>wr.cell? ⟨w.heap.size,0,none⟩=some (.int .i64 a)/\wr.cell? ⟨w.heap.size+1,0,none⟩=some (.int .i64 tx)):=
  ⟨zu Tryz.func127 (by kernel_rfl) rfl,λM L q m=>⟨m.cell q.1 (λe=>e),m.cell q.2 (λe=>e)⟩,λd S wr q=>yIf _ _ d a tx wr q.1 q.2⟩
 have A:=dk (yIe 127 w2.heap.size _ _ v (cs.zip o) w2 _ f F ⟨t.cell 0 rfl,r.cell 0 rfl⟩ (by omega));rw[show((cs.zip o).findIdx? λd=>decide (d.1.kind=a)&&decide (d.1.I=tx))=mC cs a tx from yWg (λc=>decide (c.kind=a)&&decide (c.I=tx)) cs o G.1]at A;obtain⟨P,O,B,_,_⟩:=gD.slice f;rw[K]at B;subst B;have Q:∀D first u w,(Instr.makeFunc D first u).run Tryz.prog w=.ok (.func D first u) w:=λ_ _ _ _=>rfl
 have J:=dk m;clear C f F t r E h m p;go_enter Tryz.func80,Tryz.ntmps80;go_upto_region 1 with fail;rw[<-hw1,<-hw2];clear hw1 hw2;go_wp2_with fail;refine A.out.mono ?_;rintro e N⟨rfl,H⟩;go_wp2_with fail;go_ret;exact⟨rfl,J.out.trans H⟩
theorem yFs:∀(a:List α) (b:List β) (k:Nat),(a.drop k).zip (b.drop k)=(a.zip b).drop k
|[],b,k=>by simp
|a::e,[],k=>by cases k <;> simp
|a::e,b::f,0=>rfl
|a::e,b::f,k+1=>by simpa using yFs e f k
theorem vQ.drop{o:Addr}{m cap:Nat}(h:vQ w (.slice (some o) m cap) cs)(N:k<cs.length):o.spot=none/\vQ w (.slice (some ⟨o.block,o.off+k*4,none⟩) (m-k) (cap-k)) (cs.drop k)/\m=cs.length/\k<=cap:=by
 obtain⟨t,f,a,C,A,J,O,r⟩:=h;have p:(cs.zip t).length=cs.length:=by rw[cJ];omega
 simp only[Value.slice.injEq]at A;obtain⟨L,B,K⟩:=A;rw[p]at B J;subst L B K;obtain r|⟨b,e,I,H,G⟩:=r
 .rw[r]at p;simp at p;omega
 .cases I
  refine⟨rfl,⟨t.drop k,⟨by simp[f.1],λu E=>f.2 u (cT E)⟩,some ⟨b,e+k*4,none⟩,cap-k,?_,?_,?_,.inr ⟨b,e+k*4,rfl,H,λi d z=>?_⟩⟩,rfl,by omega⟩
  .rw[cJ,bT,bT,f.1,Nat.min_self]
  .rw[cJ,bT,bT,f.1,Nat.min_self];omega
  .omega
  .rw[yFs,dC]at z;obtain⟨l,F,q,M⟩:=G _ d z;refine⟨l,F,q,λj x D=>?_⟩;have:=M j x D;rw[show e+k*4+i*4+j=e+(k+i)*4+j by omega];exact this
def sI(l:List UInt8):Nat:=l.foldl (λa b=>a+b.toNat) 0
theorem yPr(l:List UInt8)(b:UInt8):sI (l++[b])=sI l+b.toNat:=by simp[sI]
theorem yXt:∀l:List UInt8,sI l<=255*l.length:=by
 intro l
 suffices h:∀(l:List UInt8) (a:Nat),l.foldl (λa b=>a+b.toNat) a<=a+255*l.length by simpa[sI]using h l 0
 intro l
 induction l with
|nil=>intro a;simp
|cons b l e=>
  intro a;have m:=e (a+b.toNat);have f:=b.toNat_lt;simp only[cQ,aW];omega
theorem ZF(n c g:Nat)(y:dq)(s:dp)(key:ByteArray)(w:World)(h:eJ w n c g y s)(z:mo s)(J:key.size<=1000000) :
  Calls Tryz.prog 65 #[.pointer (some ⟨g,0,none⟩),.string key] w λe w'=>e=.returned (.int .i64 (fL s key))/\w'=w:=by
 have A:=z.ll;have G:=dk (zMq n c g y s w h (by omega) (by omega));have D:1<=dz s:=by unfold dz;omega
 have H:dz s<=5:=by unfold dz;omega
 clear h;go_enter Tryz.func65,Tryz.ntmps65;go_wp2_with fail;go_loopw [5,9] (λt f wr=>∃i:Nat,i<=key.size/\f=.int .i64 i/\t=.int .i64 (sI (key.toList.take i))/\wr=w) (λ_ f _=>key.size-(intOf f).toNat)
 case atStart=>exact⟨0,aT _,rfl,rfl,rfl⟩
 case round=>
  obtain⟨i,K,rfl,rfl,rfl⟩:=hrel;have a:=yXt (key.toList.take i);rw[af]at a;have F:sI (key.toList.take i)<=255*1000000:=by omega
  by_cases m:i<key.size
  .have I:(i:Int)<(key.size:Int):=by omega
   have C:(0:Int)<=(i:Int):=by omega
   have p:key.toList.take (i+1)=key.toList.take i++[key[i]]:=by
    have B:i<key.toList.length:=by rw[B6];simpa using m
    rw[ax B];congr 2;simp only[ByteArray.toList_eq,ByteArray.getElem_eq_getElem_data,Array.getElem_toList]
   have E:=key[i].toNat_lt;have o:Hid (wrap64 (↑(sI (key.toList.take i))+wrap64 ↑key[i].toNat)=((sI (key.toList.take (i+1)):Nat):Int)):=by
    unfold Hid;rw[B7 ((key[i].toNat:Nat):Int) ⟨by omega,by omega⟩,B7 _ ⟨by omega,by omega⟩,p,yPr];omega
   clear p E;go_wp2_with fail;refine⟨⟨i+1,by omega,by go_num,by rw[o.out],by trivial⟩,by simp[intOf];omega⟩
  .obtain rfl:i=key.size:=by omega
   have r:key.toList.take key.size=key.toList:=by rw[bM];rw[B6];simp
   have q:((dz s:Nat):Int)≠0:=by omega
   have u:(((dz s:Nat):Int)==0)=false:=by simpa using q
   have o:Hid (((sI (key.toList.take key.size):Nat):Int) % ((dz s:Nat):Int)=((fL s key:Nat):Int)):=by
    unfold Hid;rw[r];rfl
   clear r q a F;go_wp2_with fail;refine G.out.mono ?_;rintro e w1⟨rfl,rfl⟩;go_wp2_with fail;go_ret;exact⟨by rw[<-o.out];rfl,rfl⟩
theorem Fa(l:List α)(d:α)(h:0<l.length):l.getLastD d=l[l.length-1]'(by omega):=by
 cases l with
|nil=>simp at h
|cons a l=>
  rw[List.getLastD_cons,List.getLastD_eq_getLast?,List.getLast?_eq_getElem?]
  cases l with
 |nil=>rfl
 |cons b l=>simp
theorem yVa(n b:Nat)(y:dq)(l:jS)(w:World)(q:Bz w n y b l)(z:0<l.nodes.length)(hx:l.nodes.length<=4)(Q:l.heard<=(l.nodes.getLastD Ik).M.length) :
  Calls Tryz.prog 129 #[.pointer (some ⟨b,0,none⟩)] w λe w'=>∃v,e=.returned v/\vQ w' v ((l.nodes.getLastD Ik).M.drop l.heard)/\mN w v/\Mod dt w w':=by
 have I:=q.Z.cell 0 rfl;have V:=q.Z.cell 1 rfl;have h:=q.len;obtain⟨d,S,t,ht,hN⟩:=q.zF (j:=l.nodes.length-1) (by omega);obtain⟨ng,iq,N,H⟩:=yv q.row S;rw[N,h]at I;have u:l.nodes.getLastD Ik=t:=by
  rw[Fa _ _ z];have:=aA (show l.nodes.length-1<l.nodes.length by omega);rw[ht]at this;exact(bA this).symm
 rw[u]at Q⊢;obtain⟨m,hm⟩:∃m,l.nodes.length=m+1:=⟨l.nodes.length-1,by omega⟩;rw[hm]at I H;rw[bL]at H;have fy:=hN.few.2;have hmI:(m:Int)<((m+1:Nat):Int):=by omega
 have hm0:(0:Int)<=(m:Int):=by omega
 have W:Hid (∀a,Mod dt w a->Calls Tryz.prog 79 #[.pointer (some ⟨d,0,none⟩)] a λe w'=>e=.returned (.int .i64 t.M.length)/\w'=a):=λa f=>yCh _ _ _ _ _ _ (hN.quiet f);have tk:Hid (∀a,Mod dt w a->Calls Tryz.prog 40 #[.pointer (some ⟨d,0,none⟩)] a λe w'=>∃v,e=.returned v/\iF w' (y.lo n) v t.M/\mN a v/\Mod dt a w'):=λa f=>Qf _ _ _ _ _ _ (hN.quiet f);have X:=q.Z.lt;clear q N S ht hN u h z;go_enter Tryz.func129,Tryz.ntmps129;go_upto_region 1 with fail;go_quiet (fail);obtain⟨w1,hw1⟩:∃x,x=w.drewN nq:=⟨_,rfl⟩;have r:Mod dt w w1:=by rw[hw1];exact(Mod.refl _ w).drewN nq
 have U:=r.cell V id;have L:b<w1.heap.size:=aJ X r.size;rw[<-hw1];clear hw1 I V H;go_upto_region 2 with fail;by_cases E:t.M.length=l.heard
 .have MF:((t.M.length:Int)==(l.heard:Int))=true:=by rw[beq_iff_eq];omega
  have HN:Hid (t.M.drop l.heard=[]):=by unfold Hid;rw[<-E];simp
  clear E Q;go_quiet (first
  |(go_at_call 79;refine A8 (W.out _ (r.drewN _)))
  |fail)
  go_wp2_with fail;go_ret;exact⟨_,rfl,by rw[HN.out];exact⟨[],⟨rfl,by simp⟩,gD.nil _ _ _ _⟩,λk D=>by simp[Value.ownBlock]at D,r.drewN _⟩
 .have MF:((t.M.length:Int)==(l.heard:Int))=false:=by rw[bp];omega
  have C:l.heard<t.M.length:=by omega
  go_quiet (first
  |(go_at_call 79;refine A8 (W.out _ (r.drewN _)))
  |fail)
  obtain⟨w2,hw2⟩:∃x,x=w1.drewN nq:=⟨_,rfl⟩;have p:Mod dt w w2:=by rw[hw2];exact r.drewN _
  have d2:w2.cell? ⟨b,1,none⟩=some (.int .i64 l.heard):=by rw[hw2];exact U
  have z2:b<w2.heap.size:=by rw[hw2];exact L
  rw[<-hw2];clear hw2 U L r E;go_upto_region 4 with fail;go_cut [2] (λv wc=>vQ wc v (t.M.drop l.heard)/\mN w v/\Mod dt w wc)
  case first=>
   have jq:(l.heard:Int)<(t.M.length:Int):=by omega
   have h00:(0:Int)<=(l.heard:Int):=by omega
   obtain⟨c0,hc0⟩:∃c,t.M[0]?=some c:=⟨_,aA (by omega)⟩;go_region_with (go_at_call 40;refine(tk.out _ p.drew).mono ?_;rintro e Y⟨v3,rfl,o,A,G⟩;(have d3:=G.cell d2 id;obtain⟨T,Io,u3,B,F,O,-⟩:=o.at hc0;subst B;have P:l.heard<=Io:=(by omega)))
   all_goals
    obtain⟨-,f,-,-⟩:=vQ.drop o.nO C;simp only[aY]at f;have J:=dk f;have K:Hid (w.heap.size<=T):=aO p.size (A T rfl);have HM:Hid (Mod dt w Y):=(p.drew).trans G;clear f o A G;go_wp2_with fail;go_meet
    case rel=>exact⟨J.out,λk D=>(by cases D;exact K.out),HM.out⟩
  case rest=>
   obtain⟨f,R,oI⟩:=hcut;have J:=dk f;have K:=dk R;clear f R;go_wp2_with fail;go_ret;exact⟨_,rfl,J.out,K.out,oI⟩
structure su(w w':World)(n:Nat)(y:dq)(T:Tag->Prop):Prop where
 ex:∃G:Nat->Prop,Mod G w w'/\Qm w (y.lo n) G/\∀k,k<w.heap.size->G k->T (y.own k)/\y.own k≠.no
section
variable {w w':World}{n c g:Nat}{y:dq}{s:dp}{T:Tag->Prop}
theorem eJ.vC(h:eJ w n c g y s)(ht:su w w' n y T)(a:¬T .main):dx w' g (OJ y s.J.lost) 84:=by
 obtain⟨G,f,o,m⟩:=ht.ex;exact h.Z.mod f (λe=>a (by have:=(m g h.Z.lt e).1;rwa [h.own.main]at this))
theorem eJ.xN(h:eJ w n c g y s)(ht:su w w' n y T)(m:¬T .J):vL w' (y.lo n) y.wv y.mr s.J:=by
 obtain⟨G,o,f,q⟩:=ht.ex;refine h.J.mod o f (λk p e=>m ?_);have a:=h.own.J k p;have:=(q k (h.own.lt k (by rw[a];simp)).2 e).1
 rwa [a]at this
theorem eJ.qB(h:eJ w n c g y s)(ht:su w w' n y T)(f:¬T .dead):qy w' n (some y.dr) s.dead:=by
 obtain⟨G,m,q,p⟩:=ht.ex;refine h.dead.mod m (λk o e=>f ?_)
 cases o
 have a:=h.own.dead;have:=(p _ (h.own.lt _ (by rw[a];simp)).2 e).1
 rwa [a]at this
theorem eJ.vB(h:eJ w n c g y s)(ht:su w w' n y T)(f:¬T .tab):vI w' n 120 y.q s.keys:=by
 obtain⟨G,m,r,p⟩:=ht.ex;refine h.tab.mod m (λk o e=>f ?_);have a:=h.own.tab k o;have:=(p k (h.own.lt k (by rw[a];simp)).2 e).1
 rwa [a]at this
theorem eJ.pz(h:eJ w n c g y s)(ht:su w w' n y T)(f:¬T .gN):w'.ownsRow n 102 1 y.lv y.gd.length (y.gd.map jd):=by
 obtain⟨G,m,q,p⟩:=ht.ex;refine gO h.gN m (λk _ _ o e=>f ?_);have a:=h.own.gN k o;have:=(p k (h.own.lt k (by rw[a];simp)).2 e).1
 rwa [a]at this
theorem eJ.py(h:eJ w n c g y s)(ht:su w w' n y T)(f:¬T .iC):w'.ownsRow n 87 1 y.tv y.kP.length (y.kP.map jd):=by
 obtain⟨G,m,q,p⟩:=ht.ex;refine gO h.iC m (λk _ _ o e=>f ?_);have a:=h.own.iC k o;have:=(p k (h.own.lt k (by rw[a];simp)).2 e).1
 rwa [a]at this
theorem eJ.Gs(h:eJ w n c g y s)(ht:su w w' n y T){t:jz}(q:y.kP[i]?=some b)(m:s.U[i]?=some t)(p:¬T (.I b)):vG w' n y b t:=by
 obtain⟨G,u,A,r⟩:=ht.ex;have a:=aC q;have o:=h.own.I b a;refine(h.I i b t q m).mod u (λe=>p ?_) (λk z e=>p ?_)
 .have:=(r b (h.own.lt b (by rw[o.1];simp)).2 e).1
  rwa [o.1]at this
 .have f:=o.2 k z;have:=(r k (h.own.lt k (by rw[f];simp)).2 e).1
  rwa [f]at this
theorem eJ.Da(h:eJ w n c g y s)(ht:su w w' n y T)(u:y.gd[k]?=some b)(t:d∈y.fu b)(o:zj w n y d x)(q:¬T (.node d)):zj w' n y d x:=by
 obtain⟨G,r,p,A⟩:=ht.ex;have a:=aC u;refine gI.mod o r p (λz m e=>q ?_);have f:=h.own.node b a d t z m;have:=(A z (h.own.lt z (by rw[f];simp)).2 e).1
 rwa [f]at this
theorem eJ.rU(h:eJ w n c g y s)(ht:su w w' n y T)(r:y.gd[k]?=some b)(E:s.lines[k]?=some l)(t:¬T (.A b))(p:∀d∈y.fu b,¬T (.node d)):Bz w' n y b l:=by
 obtain⟨G,u,F,B⟩:=ht.ex;have a:=aC r;have o:=h.own.A b a;have m:=h.A k b l r E;refine⟨m.Z.mod u (λe=>t ?_),gO m.row u (λz _ _ C e=>t ?_),m.len,λj d x q D=>h.Da ht r (aC q) (m.node j d x q D) (p d (aC q))⟩
 .have:=(B b (h.own.lt b (by rw[o.1];simp)).2 e).1
  rwa [o.1]at this
 .have f:=o.2 z C;have:=(B z (h.own.lt z (by rw[f];simp)).2 e).1
  rwa [f]at this
theorem eJ.xO(h:eJ w n c g y s)(ht:su w w' n y T)(q:y.gd[k]?=some b)(B:s.lines[k]?=some l)(o:¬T (.A b)):dx w' b [y.sf b,.int .i64 l.heard] 120/\w'.ownsRow n 91 1 (y.sf b) (y.fu b).length ((y.fu b).map jd):=by
 obtain⟨G,p,C,r⟩:=ht.ex;have a:=aC q;have m:=h.own.A b a;have t:=h.A k b l q B;refine⟨t.Z.mod p (λe=>o ?_),gO t.row p (λz _ _ u e=>o ?_)⟩
 .have:=(r b (h.own.lt b (by rw[m.1];simp)).2 e).1
  rwa [m.1]at this
 .have f:=m.2 z u;have:=(r z (h.own.lt z (by rw[f];simp)).2 e).1
  rwa [f]at this
end
theorem zZd:∀{h:List Nat},(h.flatMap y.fu).Nodup->∀{b m d:Nat},b∈h->m∈h->d∈y.fu b->d∈y.fu m->b=m:=by
 intro h
 induction h with
|nil=>intro _ b m d t;simp at t
|cons a h z=>
  intro o b m d t r q f;rw[bN,br]at o;obtain⟨_,A,u⟩:=o;rcases bB.1 t with e|e <;> rcases bB.1 r with p|p
  .rw[e,p]
  .subst e;exact absurd rfl (u d q d (cV.2 ⟨m,p,f⟩))
  .subst p;exact absurd rfl (u d f d (cV.2 ⟨b,e,q⟩))
  .exact z A e p q f
theorem yEc:∀{h:List Nat},(h.flatMap y.fu).Nodup->∀{b:Nat},b∈h->(y.fu b).Nodup:=by
 intro h
 induction h with
|nil=>intro _ b m;simp at m
|cons a h o=>
  intro f b m;rw[bN,br]at f;rcases bB.1 m with e|e
  .subst e;exact f.1
  .exact o f.2.1 e
theorem KM{l:List α}(h:l.Nodup){x:α}(p:l[i]?=some x)(o:l[j]?=some x):i=j:=by
 obtain⟨m,f⟩:=aB.1 p;obtain⟨e,a⟩:=aB.1 o;rcases cG i j with q|q|q
 .exact absurd (f.trans a.symm) (aq.1 h i j m e q)
 .exact q
 .exact absurd (a.trans f.symm) (aq.1 h j i e m q)
open Classical in
noncomputable def dq.mQ(y:dq)(w:World)(d:Nat)(nv lv:Value):dq:=
 {y with lF:=λx=>if x=d then nv else y.lF x,lG:=λx=>if x=d then lv else y.lG x,own:=λx=>if w.heap.size<=x/\iV d nv lv x then .node d else y.own x}
theorem Vl(y:dq)(w:World)(d:Nat)(nv lv:Value):(y.mQ w d nv lv).lF d=nv/\(y.mQ w d nv lv).lG d=lv:=by simp[dq.mQ]
theorem Wx(y:dq)(w:World){x:Nat}(nv lv:Value)(h:x≠d):(y.mQ w d nv lv).lF x=y.lF x/\(y.mQ w d nv lv).lG x=y.lG x:=by simp[dq.mQ,h]
theorem yBa(y:dq)(w:World)(d:Nat)(nv lv:Value){x:Nat}(h:x<w.heap.size):(y.mQ w d nv lv).own x=y.own x:=by
 simp only[dq.mQ];rw[aH (λe=>by omega)]
theorem rE(l:List α)(j:Nat)(x:α)(i:Nat):(l.set j x)[i]?=if i=j/\i<l.length then some x else l[i]?:=by
 rw[bz];by_cases h:j=i
 .subst h;by_cases a:j<l.length
  .simp[a]
  .simp[a]
 .rw[aH h,aH (λe=>h e.1.symm)]
theorem eJ.kO(h:eJ w n c g y s)(hk:k<s.lines.length)(M:y.gd[k]?=some b)(Q:(y.fu b)[j]?=some d){nv lv:Value}
  (X:Mod (iV d (y.lF d) (y.lG d)) w w') (hN:gI w' (y.lo n) d nv lv x) (h1:ik w (y.lF d) nv) (h2:ik w (y.lG d) lv) :
  eJ w' n c g (y.mQ w d nv lv) (kS s k j x)/\il w y w' (y.mQ w d nv lv):=by
 have L:=aC M;have U:=aC Q;have S:=h.A k b _ M (nM hk);have hj:j<(s.A k).nodes.length:=by have:=(aB.1 Q).1;have:=S.len;omega
 have P:=S.node j d _ Q (aA hj);have wu:∀z,iV d nv lv z->z<w.heap.size->iV d (y.lF d) (y.lG d) z:=λz a K=>by
  obtain e|e|e:=a
  .exact .inl e
  .obtain q|q:=h1
   .exact .inr (.inl (by rw[<-q];exact e))
   .have:=q z e;omega
  .obtain q|q:=h2
   .exact .inr (.inr (by rw[<-q];exact e))
   .have:=q z e;omega
 have ht:su w w' n y (λt=>t=.node d):=⟨⟨_,X,gI.qm P,λz a e=>by
  have:=h.own.node b L d U z e;exact⟨this,by rw[this];simp⟩⟩⟩
 have Sk:∀z,iV d nv lv z->(y.mQ w d nv lv).own z=.node d:=λz a=>by
  by_cases K:z<w.heap.size
  .rw[yBa _ _ _ _ _ K];exact h.own.node b L d U z (wu z a K)
  .simp only[dq.mQ];rw[aK ⟨by omega,a⟩]
 have E:∀z,y.own z≠.no->(y.mQ w d nv lv).own z=y.own z:=λz a=>yBa _ _ _ _ _ (h.own.lt z a).2;have xA:∀(i:Nat) l,(kS s k j x).lines[i]?=some l->(i=k/\l=⟨(s.A k).nodes.set j x,(s.A k).heard⟩)\/(i≠k/\s.lines[i]?=some l):=λi l Y=>by
  have C:(s.lines.set k ⟨(s.A k).nodes.set j x,(s.A k).heard⟩)[i]?=some l:=Y;rw[rE]at C;by_cases e:i=k
  .rw[aK ⟨e,by omega⟩]at C;exact .inl ⟨e,(bA C).symm⟩
  .rw[aH (λq=>e q.1)]at C;exact .inr ⟨e,C⟩
 have pn:∀(m:Nat),m∈y.gd->∀{F p:Nat} {G:ec} {k':Nat},y.gd[k']?=some m->(y.fu m)[F]?=some p->p≠d->zj w n y p G->zj w' n (y.mQ w d nv lv) p G:=λm f F p G k' hk' o B u=>by
  have:=h.Da ht hk' (aC o) u (λe=>B (by simpa using e));unfold zj at this⊢;rw[(Wx y w nv lv B).1,(Wx y w nv lv B).2];exact this
 refine⟨⟨h.vC ht (by simp),h.xN ht (by simp),h.qB ht (by simp),h.vB ht (by simp),h.qn,h.pz ht (by simp),?_,λi m l f Y=>?_,h.py ht (by simp),h.lJ,λi m t f W=>(have q:=h.Gs ht f W (by simp);⟨q.Z,q.ats,q.wr⟩),?_⟩,?_⟩
 .show y.gd.length=(s.lines.set k _).length;rw[ai];exact h.ir
 .have H:y.gd[i]?=some m:=f;rcases xA i l Y with⟨rfl,rfl⟩|⟨B,hl2⟩
  .rw[M]at H;cases H
   obtain⟨O,N⟩:=h.xO ht M (nM hk) (by simp);refine⟨O,N,by show(y.fu b).length=((s.A i).nodes.set j x).length;rw[ai];exact S.len,λF p G o u=>?_⟩;have D:(y.fu b)[F]?=some p:=o;have r:((s.A i).nodes.set j x)[F]?=some G:=u;rw[rE]at r;by_cases e:F=j
   .subst e;rw[aK ⟨rfl,hj⟩]at r;cases r
    rw[Q]at D;cases D
    show gI w' (y.lo n) d _ _ x;rw[(Vl y w d nv lv).1,(Vl y w d nv lv).2];exact hN
   .rw[aH (λq=>e q.1)]at r;refine pn b L M D (λq=>e ?_) (S.node F p G D r);subst q;exact KM (yEc h.own.Ba L) D Q
  .have R:=h.A i m l H hl2;obtain⟨O,N⟩:=h.xO ht H hl2 (by simp);refine⟨O,N,R.len,λF p G o u=>?_⟩;refine pn m (aC H) H o (λq=>?_) (R.node F p G o u);subst q;have hbb:=zZd h.own.Ba (aC H) L (aC o) U;subst hbb;exact B (KM h.own.Eh H M)
 .have own:=h.own;refine⟨by rw[E _ (by rw[own.main];simp)];exact own.main,λz a=>?_,λz a=>?_,λz a=>?_,?_,λz a=>?_,λm f=>⟨?_,λz a=>?_⟩,λm f p o z a=>?_,λm f=>⟨?_,λz a=>?_⟩,λz a=>?_,own.Eh,own.Ir,own.Ba⟩
  .rw[E z (by rw[own.gN z a];simp)];exact own.gN z a
  .rw[E z (by rw[own.iC z a];simp)];exact own.iC z a
  .rw[E z (by rw[own.J z a];simp)];exact own.J z a
  .rw[show(y.mQ w d nv lv).dr=y.dr from rfl,E _ (by rw[own.dead];simp)];exact own.dead
  .rw[E z (by rw[own.tab z a];simp)];exact own.tab z a
  .rw[E m (by rw[(own.A m f).1];simp)];exact(own.A m f).1
  .rw[E z (by rw[(own.A m f).2 z a];simp)];exact(own.A m f).2 z a
  .by_cases e:p=d
   .subst e;rw[(Vl y w p nv lv).1,(Vl y w p nv lv).2]at a;exact Sk z a
   .rw[(Wx y w nv lv e).1,(Wx y w nv lv e).2]at a;have:=own.node m f p o z a;rw[E z (by rw[this];simp)];exact this
  .rw[E m (by rw[(own.I m f).1];simp)];exact(own.I m f).1
  .rw[E z (by rw[(own.I m f).2 z a];simp)];exact(own.I m f).2 z a
  .by_cases e:w.heap.size<=z/\iV d nv lv z
   .obtain⟨O,N,_⟩:=hN.lt e.2;exact⟨O,N⟩
   .have V:y.own z≠.no:=by
     simp only[dq.mQ]at a;rw[aH e]at a;exact a
    have:=own.lt z V;exact⟨this.1,aJ this.2 X.size⟩
 .exact⟨X.mono (λz a e=>by rw[h.own.node b L d U z e];simp),λz a=>yBa _ _ _ _ _ a⟩
end Go.Proofs.YtmaiggbnceejiaaGreatDoor
namespace Go.Proofs.YtmaiggbnceejiaaGreatDoor
open Go.RowKit Go.Lib Go.Maps
variable {w w':World}{n c g x N b i B m id cap:Nat}{y:dq}{s:dp}{wv v:Value}{mr:Option Nat}{q:jB}{L L':Lo}{G:Nat->Prop}{l:List Int}
theorem eJ.low(h:eJ w n c g y s):n<=g:=(h.own.lt g (by rw[h.own.main];simp)).1
theorem eJ.sM(h:eJ w n c g y s):gA y.ext w (y.lo n) g y.wv y.mr s.J:=
 ⟨h.Z,h.low,h.J.row,h.J.dn,h.J.few,h.J.lo,yYf h.own⟩
def dq.tb(y:dq)(g:Nat)(lost:Int):jB:={y.q with b:=g,pre:=[y.lv,.map (some y.dr),y.wv,.int .i64 lost,.map y.mr],post:=[y.tv],t:=84}
theorem eJ.AP(h:eJ w n c g y s):qD w n 120 (y.tb g s.J.lost) s.keys:=
 vI.toP (q:=y.tb g s.J.lost) ⟨h.tab.map,h.tab.hdr,h.tab.rows,h.tab.apart,h.tab.ok,h.tab.few⟩ h.Z (by show 84≠170;decide)
theorem As.more(h:As w n g y)(d:w.heap.size<=w'.heap.size):As w' n g y:={h with lt:=λk a=>⟨(h.lt k a).1,aJ (h.lt k a).2 d⟩}
open Classical in
noncomputable def dq.qO(y:dq)(w:World)(wv:Value)(mr:Option Nat):dq:=
 {y with wv:=wv,mr:=mr,own:=λx=>if w.heap.size<=x/\(wv.ownBlock=some x\/mr=some x)then .J else y.own x}
theorem yAx(y:dq)(w:World)(wv:Value)(mr:Option Nat)(h:x<w.heap.size):(y.qO w wv mr).own x=y.own x:=by
 simp only[dq.qO];rw[aH (λe=>by omega)]
theorem eJ.uQ(h:eJ w n c g y s){net:fS}
  (p:Mod (oE g y.wv y.mr) w w') (hN:gA y.ext w' (y.lo n) g wv mr net) (Q:ik w y.wv wv) (P:mr=y.mr\/∀k,mr=some k->w.heap.size<=k) :
  eJ w' n c g (y.qO w wv mr) {s with J:=net}/\il w y w' (y.qO w wv mr):=by
 have own:=h.own;have a:=p.size;have r:∀z,oE g y.wv y.mr z->y.own z=.main\/y.own z=.J:=λz e=>by
  obtain e|e|e:=e
  .rw[e];exact .inl own.main
  .exact .inr (own.J z (.inl e))
  .exact .inr (own.J z (.inr e))
 have ht:su w w' n y (λt=>t=.main\/t=.J):=⟨⟨_,p,gA.qm h.sM,λz a e=>⟨r z e,by rcases r z e with q|q <;> rw[q] <;> simp⟩⟩⟩;have o:∀z,y.own z≠.no->(y.qO w wv mr).own z=y.own z:=λz a=>yAx _ _ _ _ (own.lt z a).2;have H:∀z,wv.ownBlock=some z\/mr=some z->(y.qO w wv mr).own z=.J:=λz e=>by
  by_cases D:z<w.heap.size
  .rw[yAx _ _ _ _ D];refine own.J z ?_;obtain e|e:=e
   .obtain q|q:=Q
    .exact .inl (by rw[<-q];exact e)
    .have:=q z e;omega
   .obtain q|q:=P
    .exact .inr (by rw[<-q];exact e)
    .have:=q z e;omega
  .simp only[dq.qO];rw[aK ⟨by omega,e⟩]
 refine⟨⟨hN.Z,⟨hN.row,hN.dn,hN.few,hN.lo⟩,h.qB ht (by simp),h.vB ht (by simp),h.qn,h.pz ht (by simp),h.ir,λk b l F O=>?_,h.py ht (by simp),h.lJ,λi b t F C=>(have q:=h.Gs ht F C (by simp);⟨q.Z,q.ats,q.wr⟩),?_⟩,?_⟩
 .have q:=h.rU ht F O (by simp) (λd _=>by simp);exact⟨q.Z,q.row,q.len,q.node⟩
 .refine⟨by rw[o _ (by rw[own.main];simp)];exact own.main,λz a=>?_,λz a=>?_,λz a=>H z a,?_,λz a=>?_,λj f=>⟨?_,λz a=>?_⟩,λj f R E z a=>?_,λj f=>⟨?_,λz a=>?_⟩,λz a=>?_,own.Eh,own.Ir,own.Ba⟩
  .rw[o z (by rw[own.gN z a];simp)];exact own.gN z a
  .rw[o z (by rw[own.iC z a];simp)];exact own.iC z a
  .rw[show(y.qO w wv mr).dr=y.dr from rfl,o _ (by rw[own.dead];simp)];exact own.dead
  .rw[o z (by rw[own.tab z a];simp)];exact own.tab z a
  .rw[o j (by rw[(own.A j f).1];simp)];exact(own.A j f).1
  .rw[o z (by rw[(own.A j f).2 z a];simp)];exact(own.A j f).2 z a
  .have:=own.node j f R E z a;rw[o z (by rw[this];simp)];exact this
  .rw[o j (by rw[(own.I j f).1];simp)];exact(own.I j f).1
  .rw[o z (by rw[(own.I j f).2 z a];simp)];exact(own.I j f).2 z a
  .by_cases e:w.heap.size<=z/\(wv.ownBlock=some z\/mr=some z)
   .obtain⟨M,K,_⟩:=hN.lt (.inr e.2);exact⟨M,K⟩
   .have u:y.own z≠.no:=by
     simp only[dq.qO]at a;rw[aH e]at a;exact a
    have:=own.lt z u;exact⟨this.1,aJ this.2 p.size⟩
 .exact⟨p.mono (λz a e=>by rcases r z e with q|q <;> rw[q] <;> simp),λz a=>yAx _ _ _ _ a⟩
open Classical in
noncomputable def dq.rK(y:dq)(w:World)(q:jB):dq:=
 {y with q:=q,own:=λx=>if w.heap.size<=x/\q.own x then .tab else y.own x}
theorem yAz(y:dq)(w:World)(q:jB)(h:x<w.heap.size):(y.rK w q).own x=y.own x:=by
 simp only[dq.rK];rw[aH (λe=>by omega)]
theorem Kn{s:gU}(h:qD w n N q s)(ht:q.t=84)(u:n<=q.b)(A:L.n=n):Qm w L (λx=>x=q.b\/q.own x):=λk r e=>by
 rintro(d|⟨⟨p,C,d⟩,_⟩)
 .obtain e|e:=e
  .omega
  .have:=(h.lt e).1;omega
 .obtain e|e|⟨z,i,o,e⟩:=e
  .subst e;have:=h.Z;unfold dx at this;rw[this,ht]at d;simp at d
  .have a:=h.map;unfold rZ at a;rw[e]at a;obtain⟨_,D,⟨E,clock,f,_⟩,_⟩:=a;rw[f]at d;simp at d
  .obtain⟨_,_,j,f⟩:=h.old o id e;rw[f]at d;simp at d
theorem eJ.Iq{c':Nat}(h:eJ w n c g y s){keys:gU}
  (P:Mod (λx=>x=g\/y.q.own x) w w') (r:qD w' n N q keys) (u:q.b=g) (E:q.pre=(y.tb g s.J.lost).pre) (p:q.post=[y.tv]) (C:q.t=84) (S:q.n<=c') (F:∀x,q.own x->y.q.own x\/w.heap.size<=x) (V:∀k,gP k->(keys k).held.length+(keys k).waits.length<=120) :
  eJ w' n c' g (y.rK w q) {s with keys:=keys}/\il w y w' (y.rK w q):=by
 have own:=h.own;have K:∀z,(z=g\/y.q.own z)->y.own z=.main\/y.own z=.tab:=λz e=>by
  obtain e|e:=e
  .rw[e];exact .inl own.main
  .exact .inr (own.tab z e)
 have ht:su w w' n y (λt=>t=.main\/t=.tab):=⟨⟨_,P,Kn (q:=y.tb g s.J.lost) h.AP rfl h.low rfl,λz a e=>⟨K z e,by rcases K z e with q|q <;> rw[q] <;> simp⟩⟩⟩;have o:∀z,y.own z≠.no->(y.rK w q).own z=y.own z:=λz a=>yAz _ _ _ (own.lt z a).2;have D:∀z,q.own z->(y.rK w q).own z=.tab:=λz e=>by
  by_cases Q:z<w.heap.size
  .rw[yAz _ _ _ Q];rcases F z e with e|e
   .exact own.tab z e
   .omega
  .simp only[dq.rK];rw[aK ⟨by omega,e⟩]
 have H:dx w' g (OJ (y.rK w q) s.J.lost) 84:=by
  have:=r.Z;rw[u,E,p,C]at this;exact this
 refine⟨⟨H,?_,h.qB ht (by simp),⟨r.map,r.hdr,λk i U=>r.rows k i U id,r.apart,r.ok,V⟩,⟨u,C,S⟩,h.pz ht (by simp),h.ir,λk b l u T=>?_,h.py ht (by simp),h.lJ,λi b t u O=>(have q:=h.Gs ht u O (by simp);⟨q.Z,q.ats,q.wr⟩),?_⟩,?_⟩
 .exact h.xN ht (by simp)
 .have q:=h.rU ht u T (by simp) (λd _=>by simp);exact⟨q.Z,q.row,q.len,q.node⟩
 .refine⟨by rw[o _ (by rw[own.main];simp)];exact own.main,λz a=>?_,λz a=>?_,λz a=>?_,?_,λz a=>D z a,λj f=>⟨?_,λz a=>?_⟩,λj f W R z a=>?_,λj f=>⟨?_,λz a=>?_⟩,λz a=>?_,own.Eh,own.Ir,own.Ba⟩
  .rw[o z (by rw[own.gN z a];simp)];exact own.gN z a
  .rw[o z (by rw[own.iC z a];simp)];exact own.iC z a
  .rw[o z (by rw[own.J z a];simp)];exact own.J z a
  .rw[show(y.rK w q).dr=y.dr from rfl,o _ (by rw[own.dead];simp)];exact own.dead
  .rw[o j (by rw[(own.A j f).1];simp)];exact(own.A j f).1
  .rw[o z (by rw[(own.A j f).2 z a];simp)];exact(own.A j f).2 z a
  .have:=own.node j f W R z a;rw[o z (by rw[this];simp)];exact this
  .rw[o j (by rw[(own.I j f).1];simp)];exact(own.I j f).1
  .rw[o z (by rw[(own.I j f).2 z a];simp)];exact(own.I j f).2 z a
  .by_cases e:w.heap.size<=z/\q.own z
   .exact r.lt e.2
   .have M:y.own z≠.no:=by
     simp only[dq.rK]at a;rw[aH e]at a;exact a
    have:=own.lt z M;exact⟨this.1,aJ this.2 P.size⟩
 .exact⟨P.mono (λz a e=>by rcases K z e with q|q <;> rw[q] <;> simp),λz a=>yAz _ _ _ a⟩
structure Aq(w w':World)(L L':Lo):Prop where
 n:L'.n=L.n
 x:∀k,L'.x k->L.x k\/w.heap.size<=k
 lt:∀k,L'.x k->k<w'.heap.size
theorem ie.sJ{d:List gB}(h:ie w L v d)(E:Mod G w w')(D:Qm w L G)(C:Aq w w' L L'):ie w' L' v d:=by
 obtain⟨a,cap,O,M,K,A⟩:=h;refine⟨a,cap,O,M,K,?_⟩;obtain A|⟨b,k,J,F,f⟩:=A
 .exact .inl A
 .cases d with
 |nil=>exact .inl rfl
 |cons p d=>
   have z:b<w.heap.size:=AC w _ (f 0 p rfl).1;have t:∀(j:Nat) (u:Value),w.cell? ⟨b,j,none⟩=some u->w'.cell? ⟨b,j,none⟩=some u:=λj u I=>E.cell I (λg=>D b z g F);refine .inr ⟨b,k,J,?_,λj p r=>⟨t _ _ (f j p r).1,t _ _ (f j p r).2.1,t _ _ (f j p r).2.2⟩⟩;rcases F.mod E D with e|⟨e,H⟩
   .exact .inl (by rw[C.n];exact e)
   .refine .inr ⟨e,λo=>?_⟩;rcases C.x b o with q|q
    .exact H q
    .omega
theorem iF.sJ{f:List eH}(h:iF w L v f)(d:Mod G w w')(p:Qm w L G)(t:∀k,v.ownBlock=some k->¬G k)(a:Aq w w' L L'):iF w' L' v f:=by
 obtain⟨j,D,C,A,z⟩:=h;exact⟨j,D,by rw[a.n];exact gO C d (λk _ _ e=>t k e),λi m u r o=>(A i m u r o).sJ d p a,z⟩
theorem fF.sJ{ms:List eG}(h:fF w L v ms)(d:Mod G w w')(o:Qm w L G)(r:∀k,v.ownBlock=some k->¬G k)(a:Aq w w' L L'):fF w' L' v ms:=by
 obtain⟨f,C,A,z,t⟩:=h;exact⟨f,C,by rw[a.n];exact gO A d (λk _ _ e=>r k e),λi m u p j=>(z i m u p j).sJ d o a,t⟩
theorem gI.sJ{nv lv:Value}{s:ec}(h:gI w L g nv lv s)(d:Mod G w w')(j:Qm w L G)(f:∀k,iV g nv lv k->¬G k)(a:Aq w w' L L'):gI w' L' g nv lv s:=
 ⟨h.Z.mod d (f g (.inl rfl)),by rw[a.n];exact h.low,by rw[a.n];exact gO h.ns d (λk _ _ e=>f k (.inr (.inl e))),h.lg.sJ d j (λk o=>f k (.inr (.inr o))) a,h.ints,h.few,h.st,a.lt⟩
theorem vL.sJ{s:fS}(h:vL w L wv mr s)(e:Mod G w w')(j:Qm w L G)(f:∀k,wv.ownBlock=some k\/mr=some k->¬G k)(d:Aq w w' L L'):vL w' L' wv mr s:=
 ⟨h.row.sJ e j (λk a=>f k (.inl a)) d,by rw[d.n];exact h.dn.mod e (λk a=>f k (.inr a)),h.few,h.lo⟩
open Classical in
noncomputable def dq.kK(y:dq)(w:World)(b:Nat)(av wv:Value):dq:=
 {y with jy:=λx=>if x=b then av else y.jy x,kT:=λx=>if x=b then wv else y.kT x,own:=λx=>if w.heap.size<=x/\(av.ownBlock=some x\/wv.ownBlock=some x)then .I b else y.own x}
theorem IF(y:dq)(w:World)(b:Nat)(av wv:Value):(y.kK w b av wv).jy b=av/\(y.kK w b av wv).kT b=wv:=by simp[dq.kK]
theorem IG(y:dq)(w:World)(av wv:Value)(h:x≠b):(y.kK w b av wv).jy x=y.jy x/\(y.kK w b av wv).kT x=y.kT x:=by simp[dq.kK,h]
theorem yAy(y:dq)(w:World)(b:Nat)(av wv:Value)(h:x<w.heap.size):(y.kK w b av wv).own x=y.own x:=by
 simp only[dq.kK];rw[aH (λe=>by omega)]
def RX(b:Nat)(av wv:Value)(k:Nat):Prop:=k=b\/av.ownBlock=some k\/wv.ownBlock=some k
theorem eJ.rI(h:eJ w n c g y s){t t':jz}(V:y.kP[i]?=some b)(Q:s.U[i]?=some t){av:Value}
  (F:Mod (RX b (y.jy b) (y.kT b)) w w') (hB:dx w' b [.int .i64 t'.state,av,wv,.int .i64 t'.time] 86) (ha:w'.ownsRow n 3 1 av t'.ats.length (t'.ats.map (Value.int .i64))) (hw:w'.ownsRow n 68 3 wv t'.writes.length (t'.writes.flatMap pN))
  (h1:ik w (y.jy b) av\/av=.slice none 0 0) (h2:ik w (y.kT b) wv\/wv=.slice none 0 0) :
  eJ w' n c g (y.kK w b av wv) {s with U:=s.U.set i t'}/\il w y w' (y.kK w b av wv):=by
 have own:=h.own;have M:=aC V;have D:=h.I i b t V Q;have hil:i<s.U.length:=(aB.1 Q).1;have O:∀z,RX b (y.jy b) (y.kT b) z->y.own z=.I b:=λz e=>by
  obtain e|e|e:=e
  .rw[e];exact(own.I b M).1
  .exact(own.I b M).2 z (.inl e)
  .exact(own.I b M).2 z (.inr e)
 have hq:Qm w (y.lo n) (RX b (y.jy b) (y.kT b)):=λk H e=>by
  rintro(K|⟨⟨cur,fr,K⟩,C⟩)
  .have h9:=(own.lt k (by rw[O k e];simp)).1;have h8:k<n:=K;omega
  .obtain e|e|e:=e
   .subst e;have:=D.Z;unfold dx at this;rw[this]at K;simp at K
   .obtain⟨_,_,cur',h5⟩:=fs D.ats e;rw[h5]at K;simp at K
   .exact C ⟨b,M,e⟩
 have ht:su w w' n y (λt=>t=.I b):=⟨⟨_,F,hq,λz a e=>⟨O z e,by rw[O z e];simp⟩⟩⟩;have R:∀z,(av.ownBlock=some z\/wv.ownBlock=some z)->z<w.heap.size->(y.jy b).ownBlock=some z\/(y.kT b).ownBlock=some z:=λz e E=>by
  obtain e|e:=e
  .rcases h1 with(q|q)|q
   .exact .inl (by rw[<-q];exact e)
   .have:=q z e;omega
   .rw[q]at e;simp[Value.ownBlock]at e
  .rcases h2 with(q|q)|q
   .exact .inr (by rw[<-q];exact e)
   .have:=q z e;omega
   .rw[q]at e;simp[Value.ownBlock]at e
 have TG:∀z,(av.ownBlock=some z\/wv.ownBlock=some z)->n<=z/\z<w'.heap.size:=λz e=>by
  obtain e|e:=e
  .exact⟨(fs ha e).1,(fs ha e).2.1⟩
  .exact⟨(fs hw e).1,(fs hw e).2.1⟩
 have hr:Aq w w' (y.lo n) ((y.kK w b av wv).lo n):=by
  refine⟨rfl,λk H=>?_,λk H=>?_⟩
  .obtain⟨x,C,e⟩:=H;by_cases S:x=b
   .subst S;rw[(IF y w x av wv).2]at e;rcases h2 with(q|q)|q
    .exact .inl ⟨x,C,by rw[<-q];exact e⟩
    .exact .inr (q k e)
    .rw[q]at e;simp[Value.ownBlock]at e
   .rw[(IG y w av wv S).2]at e;exact .inl ⟨x,C,e⟩
  .obtain⟨x,C,e⟩:=H;by_cases S:x=b
   .subst S;rw[(IF y w x av wv).2]at e;exact(TG k (.inr e)).2
   .rw[(IG y w av wv S).2]at e;exact aJ (own.lt k (by rw[(own.I x C).2 k (.inr e)];simp)).2 F.size
 have r:∀z,y.own z≠.no->(y.kK w b av wv).own z=y.own z:=λz a=>yAy _ _ _ _ _ (own.lt z a).2;have TA:∀z,av.ownBlock=some z\/wv.ownBlock=some z->(y.kK w b av wv).own z=.I b:=λz e=>by
  by_cases E:z<w.heap.size
  .rw[yAy _ _ _ _ _ E];exact(own.I b M).2 z (R z e E)
  .simp only[dq.kK];rw[aK ⟨by omega,e⟩]
 have Sv:∀(W:Tag),W≠.I b->∀z,y.own z=W->¬RX b (y.jy b) (y.kT b) z:=λW p z a e=>p (by rw[<-a,O z e]);refine⟨⟨h.vC ht (by simp),?_,h.qB ht (by simp),h.vB ht (by simp),h.qn,h.pz ht (by simp),h.ir,λk o l f hl=>?_,h.py ht (by simp),?_,λX o t2 f P=>?_,?_⟩,?_⟩
 .exact h.J.sJ F hq (λk H=>Sv .J (by simp) k (own.J k H)) hr
 .obtain⟨q1,q2⟩:=h.xO ht f hl (by simp);have hL:=h.A k o l f hl;exact⟨q1,q2,hL.len,λj d x hd C=>(hL.node j d x hd C).sJ F hq (λz a=>Sv (.node d) (by simp) z (own.node o (aC f) d (aC hd) z a)) hr⟩
 .show y.kP.length=(s.U.set i t').length;rw[ai];exact h.lJ
 .have u:y.kP[X]?=some o:=f;have T:(s.U.set i t')[X]?=some t2:=P;rw[rE]at T;by_cases e:X=i
  .subst e;rw[aK ⟨rfl,hil⟩]at T;cases T
   rw[V]at u;cases u
   refine⟨?_,?_,?_⟩
   .rw[(IF y w b av wv).1,(IF y w b av wv).2];exact hB
   .rw[(IF y w b av wv).1];exact ha
   .rw[(IF y w b av wv).2];exact hw
  .rw[aH (λq=>e q.1)]at T;have p:o≠b:=λq=>e (KM own.Ir (q ▸ u) V);have q:=h.Gs ht u T (λe=>p (by simpa using e));refine⟨?_,?_,?_⟩
   .rw[(IG y w av wv p).1,(IG y w av wv p).2];exact q.Z
   .rw[(IG y w av wv p).1];exact q.ats
   .rw[(IG y w av wv p).2];exact q.wr
 .refine⟨by rw[r _ (by rw[own.main];simp)];exact own.main,λz a=>?_,λz a=>?_,λz a=>?_,?_,λz a=>?_,λo f=>⟨?_,λz a=>?_⟩,λo f d' hd' z a=>?_,λo f=>⟨?_,λz a=>?_⟩,λz a=>?_,own.Eh,own.Ir,own.Ba⟩
  .rw[r z (by rw[own.gN z a];simp)];exact own.gN z a
  .rw[r z (by rw[own.iC z a];simp)];exact own.iC z a
  .rw[r z (by rw[own.J z a];simp)];exact own.J z a
  .rw[show(y.kK w b av wv).dr=y.dr from rfl,r _ (by rw[own.dead];simp)];exact own.dead
  .rw[r z (by rw[own.tab z a];simp)];exact own.tab z a
  .rw[r o (by rw[(own.A o f).1];simp)];exact(own.A o f).1
  .rw[r z (by rw[(own.A o f).2 z a];simp)];exact(own.A o f).2 z a
  .have:=own.node o f d' hd' z a;rw[r z (by rw[this];simp)];exact this
  .rw[r o (by rw[(own.I o f).1];simp)];exact(own.I o f).1
  .by_cases e:o=b
   .subst e;rw[(IF y w o av wv).1,(IF y w o av wv).2]at a;exact TA z a
   .rw[(IG y w av wv e).1,(IG y w av wv e).2]at a;rw[r z (by rw[(own.I o f).2 z a];simp)];exact(own.I o f).2 z a
  .by_cases e:w.heap.size<=z/\(av.ownBlock=some z\/wv.ownBlock=some z)
   .exact TG z e.2
   .have Y:y.own z≠.no:=by
     simp only[dq.kK]at a;rw[aH e]at a;exact a
    have:=own.lt z Y;exact⟨this.1,aJ this.2 F.size⟩
 .exact⟨F.mono (λz a e=>by rw[O z e];simp),λz a=>yAy _ _ _ _ _ a⟩
structure eu(w:World)(y:dq)(w':World)(y':dq):Prop where
 st:il w y w' y'
 l:y'.gd=y.gd
 n:y'.fu=y.fu
 t:y'.kP=y.kP
 lv:y'.lv=y.lv
 tv:y'.tv=y.tv
theorem eu.refl(w:World)(y:dq):eu w y w y:=⟨il.refl _ _,rfl,rfl,rfl,rfl,rfl⟩
theorem eu.quiet(a:Mod dt w w'):eu w y w' y:=⟨il.quiet a,rfl,rfl,rfl,rfl,rfl⟩
theorem eu.trans{w1 e:World}{d a:dq}(h:eu w y w1 d)(k:eu w1 d e a):eu w y e a:=⟨h.st.trans k.st,k.l.trans h.l,k.n.trans h.n,k.t.trans h.t,k.lv.trans h.lv,k.tv.trans h.tv⟩
theorem pf{e t:TypeId}{j:Nat}{xs:List Value}(h:w.ownsRow B e j v m xs){o:List Value}(f:dx w b o t)(a:e≠t):v.ownBlock≠some b:=λq=>by
 obtain⟨_,_,k,d⟩:=fs h q;unfold dx at f;rw[f]at d;simp at d;exact a d.2.symm
theorem Ny(s:dp)(t:jz):{s with U:=s.U.set (id-1) t}=du s id t:=rfl
theorem BV(s:dp)(t:jz)(d:1<=id)(a:id<=s.U.length):(du s id t).I id=t:=by
 unfold dp.I du;rw[aI,rE,aK ⟨rfl,by omega⟩];rfl
theorem AH(s:dp){j:Nat}(t:jz)(h:j-1≠id-1):(du s id t).I j=s.I j:=by
 unfold dp.I du;rw[aI,rE,aH (λq=>h q.1),aI]
theorem mO(s:dp)(id:Nat)(t:jz):(du s id t).U.length=s.U.length:=by simp[du]
theorem yIq(s:dp)(id:Nat)(st:Int):(pA s id st).U.length=s.U.length:=mO _ _ _
theorem IV(s:dp)(id:Nat):(gk s id).U.length=s.U.length:=by
 unfold gk;rw[yIq];split
 .exact mO _ _ _
 .rfl
theorem yCb(s:dp)(id:Nat)(st:Int):(pA s id st).lines=s.lines:=rfl
theorem Ec(s:dp)(id:Nat):(gk s id).lines=s.lines:=by
 unfold gk;rw[yCb];split <;> rfl
theorem ZK(n c g:Nat)(y:dq)(s:dp)(id:Nat)(st:Int)(w:World)(h:eJ w n c g y s)(u:1<=id)(F:id<=s.U.length)(hl:s.U.length<=60)(hc:c<=10000) :
  Calls Tryz.prog 63 #[.pointer (some ⟨g,0,none⟩),.int .i64 id,.int .i64 st] w λe w'=>e=.returned (.tuple #[])/\∃j,eJ w' n c g j (pA s id st)/\eu w y w' j:=by
 obtain⟨b,t,a⟩:=h.AN u F;have M:=dk (BQ n c g y s id b w h u (by omega) t);have o:=vf u F;have W:=a.Z.cell 0 rfl;have V:=a.Z.cell 2 rfl;have T:=a.Z.frozen 0;have S:=a.Z.frozen 2;have Y:=a.Z.lt;obtain⟨w1,hw1⟩:∃x,x=(w.setCell ⟨b,0,none⟩ (.int .i64 st)).setCell ⟨b,2,none⟩ (.slice none 0 0):=⟨_,rfl⟩;have z:Mod (eQ b) w w1:=by rw[hw1];exact(Mod.eE b 0 _).trans (Mod.eE b 2 _)
 have H:dx w1 b [.int .i64 st,y.jy b,.slice none 0 0,.int .i64 (s.I id).time] 86:=by rw[hw1];exact(a.Z.set 0 _).set 2 _
 have E:=pf a.ats a.Z (by decide);obtain⟨f,p⟩:=h.rI t o (t':={s.I id with state:=st,writes:=[]}) (av:=y.jy b) (wv:=.slice none 0 0) (z.mono (λx _ e=>.inl e)) H (gO a.ats z (λk _ _ e q=>E (by rw[e];exact an some q))) (A6 _ _ _ _) (.inl (.inl rfl)) (.inr rfl);rw[Ny]at f;have r:eu w y w1 (y.kK w b (y.jy b) (.slice none 0 0)):=⟨p,rfl,rfl,rfl,rfl,rfl⟩;generalize y.kK w b (y.jy b) (.slice none 0 0)=y1 at f r;have R:=f.Z.cell 5 rfl;have O:=dk (yHk n 120 (y1.tb g (du s id {s.I id with state:=st,writes:=[]}).J.lost) _ id w1 f.AP (by show 84≠202;decide) (by omega) (by have:=f.qn.2.2;show y1.q.n<=10000;omega) (aO f.low (Nat.le_of_lt f.Z.lt)));have A:=dk f;have P:=dk r;clear h a t o z H p f r E;go_enter Tryz.func63,Tryz.ntmps63;go_wp2_with (first
 |(go_at_call 34;refine M.out.mono ?_;rintro e Q⟨rfl,rfl⟩)
 |fail)
 rw[<-hw1];refine O.out.mono ?_;rintro e C⟨gv,q',ks,rfl,d⟩;obtain⟨D,K⟩:=A.out.Iq (c':=c) d.md d.tb d.b d.pre d.post d.ty (aO d.n A.out.qn.2.2) d.own d.tb.few;have X:Hid (∃j,eJ C n c g j (pA s id st)/\eu Q y C j):=⟨_,D,P.out.trans ⟨K,rfl,rfl,rfl,rfl,rfl⟩⟩;clear D K d A P O M hw1 W V T S;go_wp2_with fail;go_end0;exact⟨rfl,X.out⟩
def yGr:Array Value:=#[.int .i64 0]
def yw(n:Nat):List Value:=(Builtin.zeroCells yGr n).toList
theorem OM(n:Nat):(yw n).length=n:=by rw[yw,cM,size_zeroCells];show n*1=n;omega
theorem zUq(n:Nat):∀v∈yw n,v=.int .i64 0:=by
 intro v a;simp only[yw,Builtin.zeroCells,dU,aj]at a;obtain⟨i,_,rfl⟩:=a;have:i % yGr.size=0:=Nat.mod_one i;rw[this];rfl
theorem yLk(n:Nat):yw n=(List.replicate n (0:Int)).map (Value.int .i64):=by
 rw[List.map_replicate];exact List.eq_replicate_iff.2 ⟨OM n,zUq n⟩
theorem yXm(w:World):(zeroValue 3).run Tryz.prog w=.ok (.int .i64 0) w:=by kernel_rfl
theorem yHj(w:World)(d:TypeId)(b n c:Nat)(p:0<n)(o:∀j,j<n->(w.cell? ⟨b,0+j,none⟩).isSome=true)(k:∀j,j<n->w.frozen? ⟨b,0+j,none⟩=false) :
  (Builtin.clear_ #[26] d #[.slice (some ⟨b,0,none⟩) n c]).run Tryz.prog w=.ok (.tuple #[]) (w.setCells b 0 (yw n)):=by
 have a:=B3 (P:=Tryz.prog) b 0 (yw n) 0 w (by simpa[OM]using o) (by simpa[OM]using k) (λv h=>by rw[zUq n v h];rfl);simp only[bK]at a;obtain⟨m,rfl⟩:∃m,n=m+1:=⟨n-1,by omega⟩;have f:=yXm;have e:(Value.cells (.int .i64 0))=yGr:=rfl;simp only[yw]at a⊢;simp[Builtin.clear_,run_underlying Tryz.underlying26,f,e,a]
theorem zXt{w:World}{d:Array Oper}{rest:List Oper}{o:Oper}{a:Act}{Q:Exit->Act->World->Prop}(e:o.guard=none)(s:Operand)
  (p:o.op=.call {callee:=.builtin .clear,args:=#[s],argTypes:=#[26]}) (b n c:Nat) (f:a.eval s=.slice (some ⟨b,0,none⟩) n c) (r:0<n)
  (u:∀j,j<n->(w.cell? ⟨b,0+j,none⟩).isSome=true) (t:∀j,j<n->w.frozen? ⟨b,0+j,none⟩=false)
  (h:wpList Tryz.prog d Q rest (a.put o.dst (.tuple #[])) (w.setCells b 0 (yw n))):wpList Tryz.prog d Q (o::rest) a w:=by
 refine A2 e λK z=>?_;have k:=yHj w o.type b n c r u t;unfold Oper.wp execOp;simp only[p,resolve,invoke,builtin,Sem.run_bind,Sem.run_pure,Result.andThen_ok,cD,bZ,cO,f,k];exact z _ _ h
theorem yPx(h:w.ownsRow B 3 1 (.slice (some ⟨b,0,none⟩) m cap) l.length (l.map (Value.int .i64))):(w.setCells b 0 (yw l.length)).ownsRow B 3 1 (.slice (some ⟨b,0,none⟩) m cap) l.length ((l.map λ_=>(0:Int)).map (Value.int .i64))/\Mod (eQ b) w (w.setCells b 0 (yw l.length))/\(∀j,j<l.length->(w.cell? ⟨b,0+j,none⟩).isSome=true)/\(∀j,w.frozen? ⟨b,0+j,none⟩=false):=by
 obtain⟨r,k⟩:=h;obtain⟨e,_⟩|⟨b',cap',cur,e,q1,q2,q3,q4,q5,q6⟩:=k
 .simp at e
 .simp only[Value.slice.injEq,ag,Addr.mk.injEq]at e;obtain⟨⟨rfl,_,_⟩,rfl,rfl⟩:=e;have hB:dx w b ([]++l.map (Value.int .i64)++cur.toList.drop l.length) 3:=by
   unfold dx;rw[q2];congr 2;apply Array.ext';simp only[aa];have:cur.toList.take l.length=l.map (Value.int .i64):=by simpa using q6
   rw[<-this,ar]
  have a:=dx.lK (g:=b) (t:=3) (yw l.length) w [] (l.map (Value.int .i64)) (cur.toList.drop l.length) hB (by simp[OM]);have d:l.length<=cur.size:=by omega
  refine⟨⟨by simp,.inr ⟨b,cap,(yw l.length++cur.toList.drop l.length).toArray,rfl,q1,?_,q3,q4,?_,?_⟩⟩,Mod.lK _ _ _,λj p=>?_,λj=>hB.frozen _⟩
  .unfold dx at a;simpa using a
  .simp only[bE,aE,OM,bT,cM];omega
  .have o:(l.map λ_=>(0:Int))=List.replicate l.length 0:=List.eq_replicate_iff.2 ⟨by rw[ao],λb f=>by obtain⟨_,_,e⟩:=aj.1 f;exact e.symm⟩;rw[o,<-yLk];simp[OM]
  .obtain⟨x,hx⟩:∃x,([]++l.map (Value.int .i64)++cur.toList.drop l.length)[0+j]?=some x:=⟨_,aA (by simp;omega)⟩;rw[hB.cell (0+j) hx];rfl
theorem Yi(n c g:Nat)(y:dq)(s:dp)(id:Nat)(w:World)(h:eJ w n c g y s)(F:1<=id)(K:id<=s.U.length)(hl:s.U.length<=60)(hc:c<=10000)(ha:0<(s.I id).ats.length) :
  Calls Tryz.prog 36 #[.pointer (some ⟨g,0,none⟩),.int .i64 id] w λe w'=>e=.returned (.tuple #[])/\∃p,eJ w' n c g p (gk s id)/\eu w y w' p:=by
 obtain⟨b,J,o⟩:=h.AN F K;have HT:=dk (BQ n c g y s id b w h F (by omega) J);have r:=vf F K;have c0:=o.Z.cell 0 rfl;have c1:=o.Z.cell 1 rfl;by_cases d:(s.I id).state=1
 .obtain⟨t,Y,pF⟩:∃t Y,y.jy b=.slice (some ⟨t,0,none⟩) (s.I id).ats.length Y:=by
   obtain⟨e,h0⟩|⟨g',cap',T,e,_⟩:=o.ats.2
   .omega
   .exact⟨g',cap',e⟩
  have a:=o.ats;rw[pF]at a c1;obtain⟨Q,A,r3,r4⟩:=yPx a;have kV:t≠b:=λe=>pf a o.Z (by decide) (by rw[e];rfl);have C:∀k,(y.kT b).ownBlock=some k->k≠t:=λk hk e=>by
   subst e;obtain⟨_,_,T,S⟩:=fs o.wr hk;obtain⟨_,_,cur',D⟩:=fs a rfl;rw[S]at D;simp at D
  obtain⟨w1,hw1⟩:∃x,x=w.setCells t 0 (yw (s.I id).ats.length):=⟨_,rfl⟩;rw[<-hw1]at Q A;obtain⟨H,E⟩:=h.rI J r (t':={s.I id with ats:=(s.I id).ats.map λ_=>0}) (av:=y.jy b) (wv:=y.kT b) (A.mono (λx _ e=>.inr (.inl (by rw[pF];exact an some (Eq.symm e))))) (o.Z.mod A (λe=>kV (Eq.symm e))) (by rw[pF,ao];exact Q) (gO o.wr A (λk _ _ e q=>C k e q)) (.inl (.inl rfl)) (.inl (.inl rfl));rw[Ny]at H;have R:eu w y w1 (y.kK w b (y.jy b) (y.kT b)):=⟨E,rfl,rfl,rfl,rfl,rfl⟩;generalize y.kK w b (y.jy b) (y.kT b)=y1 at H R;have V:=dk (ZK n c g y1 _ id 4 w1 H F (by rw[mO];exact K) (by rw[mO];exact hl) hc);have P:Hid (gk s id=pA (du s id {s.I id with ats:=(s.I id).ats.map λ_=>0}) id 4):=by unfold Hid gk;rw[aK d]
  have Cn:((s.I id).state==1)=true:=by simpa using d
  have HK:=dk R;have Dk:=dk r3;have W:Hid (∀j,j<(s.I id).ats.length->w.frozen? ⟨t,0+j,none⟩=false):=λj _=>r4 j;clear h o J r a Q A r3 r4 H R E d pF C;go_enter Tryz.func36,Tryz.ntmps36;go_wp2_with (first
  |(go_at_call 34;refine HT.out.mono ?_;rintro e O⟨rfl,rfl⟩)
  |(refine zXt rfl _ rfl t (s.I id).ats.length _ rfl ha Dk.out W.out ?_;rw[<-hw1];clear hw1)
  |(go_at_call 63;refine V.out.mono ?_;rintro e u⟨rfl,M,z,f⟩;(have X:Hid (∃p,eJ u n c g p (gk s id)/\eu O y u p):=⟨M,by rw[P.out];exact z,HK.out.trans f⟩);clear z f)
  |fail)
  go_end0;exact⟨rfl,X.out⟩
 .have V:=dk (ZK n c g y s id 4 w h F K hl hc);have P:Hid (gk s id=pA s id 4):=by unfold Hid gk;rw[aH d]
  have Cn:((s.I id).state==1)=false:=by simpa using d
  clear h o J r d c1;go_enter Tryz.func36,Tryz.ntmps36;go_wp2_with (first
  |(go_at_call 34;refine HT.out.mono ?_;rintro e O⟨rfl,rfl⟩)
  |(go_at_call 63;refine V.out.mono ?_;rintro e u⟨rfl,M,z,f⟩;(have X:Hid (∃p,eJ u n c g p (gk s id)/\eu O y u p):=⟨M,by rw[P.out];exact z,f⟩);clear z f)
  |fail)
  go_end0;exact⟨rfl,X.out⟩
structure gS(s s':dp):Prop where
 l:s'.lines=s.lines
 d:s'.dead=s.dead
 J:s'.J=s.J
 len:s'.U.length=s.U.length
 at_:∀j,(s'.I j).ats.length=(s.I j).ats.length
theorem gS.refl(s:dp):gS s s:=⟨rfl,rfl,rfl,rfl,λ_=>rfl⟩
theorem gS.trans{a b c:dp}(h:gS a b)(k:gS b c):gS a c:=⟨k.l.trans h.l,k.d.trans h.d,k.J.trans h.J,k.len.trans h.len,λj=>(k.at_ j).trans (h.at_ j)⟩
theorem yPt(s:dp)(id:Nat)(t:jz)(j:Nat):(du s id t).I j=s.I j\/((du s id t).I j=t/\j-1=id-1):=by
 by_cases h:j-1=id-1
 .by_cases a:id-1<s.U.length
  .refine .inr ⟨?_,h⟩;unfold dp.I du;rw[aI,rE,aK ⟨h,by omega⟩];rfl
  .refine .inl ?_;unfold dp.I du;rw[aI,rE,aH (λq=>by omega),aI]
 .exact .inl (AH s t h)
theorem gS.du(s:dp)(id:Nat)(t:jz)(h:t.ats.length=(s.I id).ats.length):gS s (du s id t):=by
 refine⟨rfl,rfl,rfl,mO _ _ _,λj=>?_⟩;rcases yPt s id t j with e|⟨e,q⟩
 .rw[e]
 .rw[e,h];have:s.I j=s.I id:=by unfold dp.I;rw[q]
  rw[this]
theorem gS.finish(s:dp)(id:Nat)(st:Int):gS s (pA s id st):=by
 have h:=gS.du s id {s.I id with state:=st,writes:=[]} rfl;exact⟨rfl,rfl,rfl,h.len,h.at_⟩
theorem gS.abort(s:dp)(id:Nat):gS s (gk s id):=by
 unfold gk;split
 .exact(gS.du s id {s.I id with ats:=(s.I id).ats.map λ_=>0} (by simp)).trans (gS.finish _ id 4)
 .exact gS.finish s id 4
def eW(h:dp)(i:Int):dp:=if (h.I i.toNat).state=1 then gk h i.toNat else h
theorem yOt(s:dp)(ids:List Int):jT s ids=ids.foldl eW s:=rfl
theorem gS.eW(s:dp)(i:Int):gS s (eW s i):=by
 unfold Go.Proofs.YtmaiggbnceejiaaGreatDoor.eW;split
 .exact gS.abort s _
 .exact gS.refl s
theorem gS.ft:∀(ids:List Int) (s:dp),gS s (jT s ids)
|[],s=>gS.refl s
|i::ids,s=>(gS.eW s i).trans (gS.ft ids _)
theorem yGx(s:dp)(ids:List Int)(i:Int):jT s (ids++[i])=eW (jT s ids) i:=by simp[yOt,List.foldl_append]
def Bw(w:World)(y:dq)(v:Value)(l:List Int):Prop:=gD w w.heap.size 1 OZ v l/\∀k,v.ownBlock=some k->y.own k=.no/\k<w.heap.size
theorem Bw.keep{C:dq}(h:Bw w y v l)(k:il w y w' C):Bw w' C v l:=by
 obtain⟨⟨a,cap,E,O,M,A⟩,f⟩:=h;refine⟨⟨a,cap,E,O,M,?_⟩,λz p=>⟨by rw[k.old z (f z p).2];exact(f z p).1,aJ (f z p).2 k.size⟩⟩;obtain A|⟨b,o,D,K,J⟩:=A
 .exact .inl A
 .refine .inr ⟨b,o,D,aJ K k.size,λi d I=>?_⟩;obtain⟨x,F,t,r⟩:=J i d I;exact⟨x,F,t,λj u H=>k.md.cell (r j u H) (λe=>e (f b (by rw[E,D];rfl)).1)⟩
theorem Bw.at{a:Option Addr}(h:Bw w y (.slice a m cap) l){x:Int}(f:l[i]?=some x):∃b d,a=some ⟨b,d,none⟩/\w.cell? ⟨b,d+i,none⟩=some (.int .i64 x):=by
 obtain⟨b,d,p,k,o,e,_,j⟩:=gD.at h.1 f;unfold OZ at e;subst e;have:=j 0 _ rfl;simp only[bK,cq]at this;exact⟨b,d,k,this⟩
theorem yBf(h:ju w B v l):gD w w.heap.size 1 OZ v l:=by
 obtain⟨u,t⟩:=h;obtain⟨rfl,hn⟩|⟨g,cap,cur,rfl,q1,q2,q3,q4,q5,q6⟩:=t
 .have:l=[]:=aR hn;subst this;exact gD.nil _ _ _ _
 .have r:ju w B (.slice (some ⟨g,0,none⟩) l.length cap) l:=⟨u,.inr ⟨g,cap,cur,rfl,q1,q2,q3,q4,q5,q6⟩⟩;have p:g<w.heap.size:=(aF.1 q2).1;refine⟨_,cap,rfl,q3,q4,.inr ⟨g,0,rfl,by omega,λi o k=>⟨[.int .i64 o],rfl,rfl,λj x a=>?_⟩⟩⟩;have d:w.ownsRow B 3 1 (.slice (some ⟨g,0,none⟩) l.length cap) l.length (IP l):=r;have e:=d.cells (g:=g) rfl i (.int .i64 o) (by simp[IP,k]);rw[A1,aY]at e;have f:j=0:=by have:=(aB.1 a).1;simp at this;omega
  subst f;simp at a;subst a;simpa using e
theorem yCu(n c g:Nat)(y:dq)(s:dp)(v:Value)(ids:List Int)(w:World)(h:eJ w n c g y s)(u:mo s)(hc:c<=10000)(F:Bw w y v ids)(V:∀i∈ids,1<=i/\i<=(s.U.length:Int)) :
  Calls Tryz.prog 68 #[.pointer (some ⟨g,0,none⟩),v] w λe w'=>e=.returned (.tuple #[])/\∃o,eJ w' n c g o (jT s ids)/\eu w y w' o:=by
 obtain⟨a,cap,rfl,hc1,K⟩:=gD.slice F.1;unfold maxLen at K;have X:=dk F;have HI:=dk V;have HH:=dk h;have H:=u.tl;have O:=dk u.ta;have hll:=u.ll;clear F V h u;go_enter Tryz.func68,Tryz.ntmps68;go_wp2_with fail;go_loopw [8] (λC wr=>∃(i:Nat) (k:dq),i<=ids.length/\C=.int .i64 i/\eJ wr n c g k (jT s (ids.take i))/\eu w y wr k) (λC _=>ids.length-(intOf C).toNat)
 case atStart=>exact⟨0,y,aT _,rfl,by rw[bu];exact HH.out,eu.refl _ _⟩
 case round=>
  obtain⟨i,k,hil,rfl,j,t⟩:=hrel;by_cases J:i<ids.length
  .obtain⟨x,hx⟩:∃x,ids[i]?=some x:=⟨_,aA J⟩;obtain⟨b,off,rfl,q0⟩:=(X.out.keep t.st).at hx;obtain⟨E,D⟩:=HI.out x (aC hx);obtain⟨id,rfl⟩:∃id:Nat,x=id:=⟨x.toNat,by omega⟩;have d:=gS.ft (ids.take i) s;have p:id<=(jT s (ids.take i)).U.length:=by rw[d.len];omega
   obtain⟨tb,Ej,W⟩:=j.AN (id:=id) (by omega) p;have t0:=W.Z.cell 0 rfl;have Y:=dk (BQ n c g k _ id tb wr j (by omega) (by omega) Ej);have T:0<((jT s (ids.take i)).I id).ats.length:=by
    rw[d.at_ id,O.out _ (FP (by omega) (by omega))];omega
   have uF:=dk (Yi n c g k _ id wr j (by omega) p (by rw[d.len];exact H) hc T);have Q:Hid (jT s (ids.take (i+1))=eW (jT s (ids.take i)) id):=by unfold Hid;rw[rq hx,yGx]
   have HK:=dk t;have P:=dk j;have jq:(i:Int)<(ids.length:Int):=by omega
   have hi0:(0:Int)<=(i:Int):=by omega
   clear j t W Ej hx d T E D X;by_cases f:((jT s (ids.take i)).I id).state=1
   .have Cn:(((jT s (ids.take i)).I id).state==1)=true:=by simpa using f
    have M:Hid (eW (jT s (ids.take i)) id=gk (jT s (ids.take i)) id):=by unfold Hid eW;rw[aU,aK f]
    clear f;go_wp2_with (first
    |(go_at_call 34;refine Y.out.mono ?_;rintro e w2⟨rfl,rfl⟩)
    |(go_at_call 36;refine uF.out.mono ?_;rintro e R⟨rfl,A,S,r⟩;(have z:Hid (eJ R n c g A (jT s (ids.take (i+1)))/\eu w y R A):=⟨by rw[Q.out,M.out];exact S,HK.out.trans r⟩);clear S r)
    |fail)
    go_roundw
    case rel=>exact⟨i+1,A,by omega,by go_num,z.out.1,z.out.2⟩
    case measure=>simp[intOf];omega
   .have Cn:(((jT s (ids.take i)).I id).state==1)=false:=by simpa using f
    have M:Hid (eW (jT s (ids.take i)) id=jT s (ids.take i)):=by unfold Hid eW;rw[aU,aH f]
    clear f;go_wp2_with (first
    |(go_at_call 34;refine Y.out.mono ?_;rintro e w2⟨rfl,rfl⟩)
    |fail)
    go_roundw
    case rel=>exact⟨i+1,k,by omega,by go_num,by rw[Q.out,M.out];exact P.out,HK.out⟩
    case measure=>simp[intOf];omega
  .obtain rfl:i=ids.length:=by omega
   rw[bQ]at j;have z:Hid (∃o,eJ wr n c g o (jT s ids)/\eu w y wr o):=⟨k,j,t⟩;clear j t;go_wp2_with fail;go_end0;exact⟨rfl,z.out⟩
end Go.Proofs.YtmaiggbnceejiaaGreatDoor
namespace Go.Proofs.YtmaiggbnceejiaaGreatDoor
open Go.RowKit Go.Lib Go.Maps Go.Extern.Stop Go.Stop Go.Extern
variable {s:dp}{w w':World}{n c g m:Nat}{y:dq}
def uM(s:dp)(id:Int)(key:ByteArray)(m:Nat):List Int:=((List.range m).map λ(i:Nat)=>(i:Int)+1).filter λo=>decide (o≠id)&&decide (jD (s.keys key).held o≠0)
theorem yEa(s:dp)(id:Int)(key:ByteArray)(m:Nat):uM s id key (m+1)=if ((m:Int)+1≠id/\jD (s.keys key).held ((m:Int)+1)≠0)then uM s id key m++[(m:Int)+1]else uM s id key m:=by
 unfold uM;rw[aZ,ay,dE];by_cases b:(m:Int)+1≠id <;> by_cases a:jD (s.keys key).held ((m:Int)+1)≠0 <;> simp[b,a]
theorem Zm(s:dp)(id:Int)(key:ByteArray)(m:Nat):(uM s id key m).length<=m:=by
 refine aO (bD _ _) ?_;simp
theorem WS{id o:Int}{key:ByteArray}(h:o∈pd s id key):1<=o/\o<=(s.U.length:Int):=by
 obtain⟨b,_⟩:=au.1 h;obtain⟨i,a,rfl⟩:=aj.1 b;have:=bV.1 a;omega
theorem eJ.holds(h:eJ w n c g y s)(t:Int)(key:ByteArray)(a:gP key) :
  Calls Tryz.prog 70 #[.pointer (some ⟨g,5,none⟩),.int .i64 t,.string key] w λe w'=>e=.returned (.int .i64 (jD (s.keys key).held t))/\Mod dt w w':=
 yRi n 120 (y.tb g s.J.lost) s.keys t key w h.AP a (by omega)
theorem zZa(n c g:Nat)(y:dq)(s:dp)(id:Int)(key:ByteArray)(w:World)(h:eJ w n c g y s)(hl:s.U.length<=60)(V:gP key) :
  Calls Tryz.prog 69 #[.pointer (some ⟨g,0,none⟩),.int .i64 id,.string key] w λe w'=>∃u,e=.returned u/\ju w' w.heap.size u (pd s id key)/\Mod dt w w':=by
 obtain⟨M,W,LJ,LI,LH⟩:=A3 Tryz.tN;have I:Hid (ju w w.heap.size (.slice none 0 0) []):=A6 _ _ _ _;have HH:=dk h;clear h;go_enter Tryz.func69,Tryz.ntmps69;go_wp2_with fail;go_loopw [7,8] (λu i wr=>∃k:Nat,k<=s.U.length/\i=.int .i64 ((k:Int)+1)/\ju wr w.heap.size u (uM s id key k)/\Mod dt w wr) (λ_ i _=>s.U.length+1-(intOf i).toNat)
 case atStart=>exact⟨0,aT _,rfl,I.out,Mod.refl _ _⟩
 case round=>
  obtain⟨k,T,rfl,d,D⟩:=hrel;obtain⟨K,X,rfl⟩:=fU d;have o:=HH.out.quiet D;obtain⟨-,-,-,-,-,-,Y⟩:=kX o.Z;obtain⟨ta,gz,F⟩:=fU o.iC;rw[F,o.lJ]at Y;have x:=dk D;have t:=dk d;have v:=dk (o.holds ((k:Int)+1) key V);have S:=Zm s id key k;have f:=dk (yEa s id key k);clear d D I o F;by_cases B:k<s.U.length
  .have C:decide ((k:Int)+1<=(s.U.length:Int))=true:=aQ (by omega);by_cases j:(k:Int)+1=id
   .have MF:(((k:Int)+1) !=id)=false:=by simpa using j
    have l:Hid (uM s id key (k+1)=uM s id key k):=by unfold Hid;rw[f.out,aH (λq=>q.1 j)]
    clear j f v;go_wp2_with fail;go_roundw
    case rel=>exact⟨k+1,by omega,by go_num,by rw[l.out];exact t.out,x.out⟩
    case measure=>simp[intOf];omega
   .have MF:(((k:Int)+1) !=id)=true:=by simpa using j
    by_cases b:jD (s.keys key).held ((k:Int)+1)=0
    .have A:(jD (s.keys key).held ((k:Int)+1) !=0)=false:=by simpa using b
     have l:Hid (uM s id key (k+1)=uM s id key k):=by unfold Hid;rw[f.out,aH (λq=>q.2 b)]
     clear j f b;go_wp2_with (first
     |(go_at_call 70;refine v.out.mono ?_;rintro e p⟨rfl,a⟩;have r:=dk (x.out.trans a);have z:=dk (t.out.mod a (λ_ _ e=>e));clear a)
     |fail)
     go_roundw
     case rel=>exact⟨k+1,by omega,by go_num,by rw[l.out];exact z.out,r.out⟩
     case measure=>simp[intOf];omega
    .have A:(jD (s.keys key).held ((k:Int)+1) !=0)=true:=by simpa using b
     have l:Hid (uM s id key (k+1)=uM s id key k++[(k:Int)+1]):=by unfold Hid;rw[f.out,aK ⟨j,b⟩]
     have O:(uM s id key k).length+1<=maxLen:=by unfold maxLen;omega
     have N:((uM s id key k).length+1)*8<=140737488355328:=by omega
     clear j f b;go_upto_region 6 with(first
     |(go_at_call 70;refine v.out.mono ?_;rintro e p⟨rfl,a⟩;have r:=dk (x.out.trans a);have z:Hid (p.ownsRow w.heap.size 3 1 (.slice K (uM s id key k).length X) (uM s id key k).length (IP (uM s id key k))):=t.out.mod a (λ_ _ e=>e);clear a)
     |fail)
     have Q:=r.out.size;go_wp2_with (first
     |(at_builtin;refine B1 _ rfl (.tmp 30) (.tmp 32) 26 rfl w.heap.size 3 M _ 1 8 Tryz.underlying26 W LJ LI LH rfl (by decide) _ _ _ rfl (z.out.alloc _) ⟨p.heap.size,0,none⟩ 1 1 [.int .i64 ((k:Int)+1)] rfl rfl (A7 (A0 p _)) (by simp[Value.oneCell']) O N (by simp;omega) ?_)
     |fail)
     intro v7 J E H _ P;have G:Mod dt w J:=(r.out.alloc _).grown H (λy R B=>by have:=(nN z.out R).1;omega);obtain⟨a7,fV,L⟩:=fU E;subst L;have UY:=dk E;have Ax:=dk G;clear E H P G;go_wp2_with fail;go_roundw
     case rel=>
      refine⟨k+1,by omega,by go_num,?_,Ax.out⟩;rw[l.out];unfold ju;rw[zPm,aE];exact UY.out
     case measure=>simp[intOf];omega
  .obtain rfl:k=s.U.length:=by omega
   have C:decide (((s.U.length:Nat):Int)+1<=(s.U.length:Int))=false:=aN (by omega);clear f v;go_wp2_with fail;go_ret;exact⟨_,rfl,t.out,x.out⟩
theorem yLl(n c g l k:Nat)(y:dq)(s:dp)(id o:Int)(w:World)(h:eJ w n c g y s)(A:s.U.length<=60)(z:1<=o/\o<=(s.U.length:Int))(C:w.cell? ⟨l,0,none⟩=some (.int .i64 id))(B:w.cell? ⟨k,0,none⟩=some (.pointer (some ⟨g,0,none⟩))) :
  Calls Tryz.prog 92 #[.int .i64 o,.pointer (some ⟨l,0,none⟩),.pointer (some ⟨k,0,none⟩)] w λe w'=>e=.returned (.bool (decide (o<id)||decide ((s.I o.toNat).state≠1)))/\Mod dt w w':=by
 obtain⟨i,rfl⟩:∃i:Nat,o=i:=⟨o.toNat,by omega⟩;rw[aU];obtain⟨b,p,r⟩:=h.AN (id:=i) (by omega) (by omega);have t:=dk (BQ n c g y s i b w h (by omega) (by omega) p);have x:=r.Z.cell 0 rfl;clear h r p;by_cases a:(i:Int)<id
 .have f:decide ((i:Int)<id)=true:=aQ a;clear a;go_enter Tryz.func92,Tryz.ntmps92;go_wp2_with fail;go_ret;exact⟨by rw[f];rfl,Mod.refl _ _⟩
 .have f:decide ((i:Int)<id)=false:=aN a;by_cases d:(s.I i).state=1
  .have v:((s.I i).state !=1)=false:=by simpa using d
   have j:Hid (decide ((s.I i).state≠1)=false):=aN (λq=>q d);clear a d;go_enter Tryz.func92,Tryz.ntmps92;go_wp2_with (first
   |(go_at_call 34;refine t.out.mono ?_;rintro e u⟨rfl,rfl⟩)
   |fail)
   go_ret;exact⟨by rw[f,j.out];rfl,Mod.refl _ _⟩
  .have v:((s.I i).state !=1)=true:=by simpa using d
   have j:Hid (decide ((s.I i).state≠1)=true):=aQ d;clear a d;go_enter Tryz.func92,Tryz.ntmps92;go_wp2_with (first
   |(go_at_call 34;refine t.out.mono ?_;rintro e u⟨rfl,rfl⟩)
   |fail)
   go_ret;exact⟨by rw[f,j.out];rfl,Mod.refl _ _⟩
theorem yCq(n c g:Nat)(y:dq)(s:dp)(id:Int)(key:ByteArray)(w:World)(h:eJ w n c g y s)(t:s.U.length<=60)(L:gP key) :
  Calls Tryz.prog 51 #[.pointer (some ⟨g,0,none⟩),.int .i64 id,.string key] w λe w'=>e=.returned (.bool (qK s id key))/\Mod dt w w':=by
 obtain⟨w1,hw1⟩:∃x,x=w.alloc (.cells #[.pointer (some ⟨g,0,none⟩)] 35):=⟨_,rfl⟩;obtain⟨w2,hw2⟩:∃x,x=w1.alloc (.cells #[.int .i64 id] 3):=⟨_,rfl⟩;have D:Mod dt w w1:=by rw[hw1];exact(Mod.refl _ w).alloc _
 have a:Mod dt w1 w2:=by rw[hw2];exact(Mod.refl _ w1).alloc _
 have i:w1.heap.size=w.heap.size+1:=by rw[hw1,A4]
 have k:dx w2 w.heap.size [.pointer (some ⟨g,0,none⟩)] 35:=dx.mod (by rw[hw1];exact dx.new w _ _) a (λe=>e);have j:dx w2 (w.heap.size+1) [.int .i64 id] 3:=by rw[<-i,hw2];exact dx.new w1 _ _
 have b:=D.trans a;have q:=h.quiet b;have J:=k.cell 0 rfl;have H:=j.cell 0 rfl;have E:=dk (zZa n c g y s id key w2 q t L);have Z:∀C first p w,(Instr.makeFunc C first p).run Tryz.prog w=.ok (.func C first p) w:=λ_ _ _ _=>rfl
 have R:=dk q;have Q:=dk b;have z:=dk J;have v:=dk H;clear h D a k j b q i;go_enter Tryz.func51,Tryz.ntmps51;go_upto_region 1 with fail;rw[<-hw1,<-hw2];clear hw1 hw2;go_wp2_with fail;refine E.out.mono ?_;rintro e A⟨u,rfl,r,l⟩;have G:nI 92 #[.pointer (some ⟨w.heap.size+1,0,none⟩),.pointer (some ⟨w.heap.size,0,none⟩)] (λd=>.int .i64 d) (pd s id key) (λo=>decide (o<id)||decide ((s.I o.toNat).state≠1)) (λwr=>eJ wr n c g y s/\wr.cell? ⟨w.heap.size+1,0,none⟩=some (.int .i64 id)/\wr.cell? ⟨w.heap.size,0,none⟩=some (.pointer (some ⟨g,0,none⟩))):=
  ⟨zu Tryz.func92 (by kernel_rfl) rfl,λV T f b=>⟨f.1.quiet b,b.cell f.2.1 (λe=>e),b.cell f.2.2 (λe=>e)⟩,λd M wr f=>yLl n c g _ _ y s id d wr f.1 t (WS M) f.2.1 f.2.2⟩
 have B:(pd s id key).length<=60:=aO (Zm s id key s.U.length) t;have P:=dk (zXx 92 A.heap.size _ _ u (pd s id key) A _ (yBf r) G ⟨R.out.quiet l,l.cell v.out (λe=>e),l.cell z.out (λe=>e)⟩ (by omega));obtain⟨Y,X,S⟩:=fU r;subst S;have K:=dk (Q.out.trans l);clear r G l E;go_wp2_with fail;refine P.out.mono ?_;rintro e W⟨rfl,O⟩;have F:Hid (qK s id key=!((pd s id key).any λo=>decide (o<id)||decide ((s.I o.toNat).state≠1))):=rfl
 cases N:(pd s id key).any λo=>decide (o<id)||decide ((s.I o.toNat).state≠1)
 all_goals
  rw[N]at F;go_wp2_with fail;go_ret;exact⟨by rw[F.out];rfl,K.out.trans O⟩
theorem vG.nO{b:Nat}{t:jz}(h:vG w n y b t):gD w w.heap.size 3 Fe (y.kT b) t.writes:=yDy h.wr
theorem yLm(q:Nat)(d:gB)(key:ByteArray)(w:World)(i:w.cell? ⟨q,0,none⟩=some (.string key)) :
  Calls Tryz.prog 133 #[.agg #[.string d.key,.string d.val,.bool d.gone],.pointer (some ⟨q,0,none⟩)] w λe w'=>e=.returned (.bool (decide (d.key=key)))/\Mod dt w w':=by
 obtain⟨k,v,j⟩:=d;dsimp only;obtain⟨w1,hw1⟩:∃z,z=w.alloc (.cells #[.string k,.string v,.bool j] 68):=⟨_,rfl⟩;have f:Mod dt w w1:=by rw[hw1];exact(Mod.refl _ w).alloc _
 have a:dx w1 w.heap.size [.string k,.string v,.bool j] 68:=by rw[hw1];exact dx.new w _ _
 have o:=f.cell i id;have p:=a.cell 0 rfl;have l:=dk f;clear i a f;by_cases e:k=key
 .have b:(k.toList==key.toList)=true:=by rw[e];simp
  have h:Hid (decide (k=key)=true):=aQ e;clear e;go_enter Tryz.func133,Tryz.ntmps133;go_upto_region 1 with fail;rw[<-hw1];clear hw1;go_wp2_with fail;go_ret;exact⟨by rw[h.out];first|rfl|(simp[b]),l.out⟩
 .have b:(k.toList==key.toList)=false:=by
   rw[bp];intro q;rw[B6,B6]at q;exact e (WB q)
  have h:Hid (decide (k=key)=false):=aN e;clear e;go_enter Tryz.func133,Tryz.ntmps133;go_upto_region 1 with fail;rw[<-hw1];clear hw1;go_wp2_with fail;go_ret;exact⟨by rw[h.out];first|rfl|(simp[b]),l.out⟩
theorem ZG(n b:Nat)(y:dq)(t:jz)(key:ByteArray)(w:World)(h:vG w n y b t)(G:t.writes.length<=1000) :
  Calls Tryz.prog 91 #[.pointer (some ⟨b,0,none⟩),.string key] w λe w'=>e=.returned (.int .i64 (jE (vg t key)))/\Mod dt w w':=by
 obtain⟨w1,hw1⟩:∃z,z=w.alloc (.cells #[.string key] 9):=⟨_,rfl⟩;have l:Mod dt w w1:=by rw[hw1];exact(Mod.refl _ w).alloc _
 have i:dx w1 w.heap.size [.string key] 9:=by rw[hw1];exact dx.new w _ _
 have j:=h.mod l (λe=>e) (λ_ _ e=>e);have A:=j.Z.cell 2 rfl;obtain⟨a,f,q⟩:=fU j.wr;have u:nI 133 #[.pointer (some ⟨w.heap.size,0,none⟩)] (λd=>.agg #[.string d.key,.string d.val,.bool d.gone]) t.writes (λp=>decide (p.key=key)) (λwr=>wr.cell? ⟨w.heap.size,0,none⟩=some (.string key)):=
  ⟨zu Tryz.func133 (by kernel_rfl) rfl,λD C k v=>v.cell k (λe=>e),λd H wr k=>yLm _ d key wr k⟩
 have o:=dk (zWd 133 w1.heap.size _ _ (y.kT b) t.writes w1 _ j.nO u (i.cell 0 rfl) (by omega));rw[q]at A o;have F:∀r first f w,(Instr.makeFunc r first f).run Tryz.prog w=.ok (.func r first f) w:=λ_ _ _ _=>rfl
 have B:=dk l;clear h j q u i l;go_enter Tryz.func91,Tryz.ntmps91;go_upto_region 1 with fail;rw[<-hw1];clear hw1;go_wp2_with fail;refine o.out.mono ?_;rintro e E⟨rfl,x⟩;go_wp2_with fail;go_ret;exact⟨rfl,B.out.trans x⟩
theorem yWd(n b:Nat)(y:dq)(t:jz)(key:ByteArray)(w:World)(h:vG w n y b t)(q:t.writes.length<=1000) :
  Calls Tryz.prog 50 #[.pointer (some ⟨b,0,none⟩),.string key] w λe w'=>e=.returned (.bool (vU t key))/\Mod dt w w':=by
 have f:=dk (ZG n b y t key w h q);have v:=h.Z.cell 2 rfl;obtain⟨a,u,o⟩:=fU h.wr;rw[o]at v;clear h o;by_cases j:20<=t.writes.length
 .have r:decide ((t.writes.length:Int) ≥ 20)=true:=aQ (by omega);have i:Hid (vU t key=(vg t key).isNone):=by unfold Hid vU;rw[aQ j];rfl
  cases l:vg t key with
 |none=>
   rw[l]at f i;simp only[jE]at f;clear j;go_enter Tryz.func50,Tryz.ntmps50;go_wp2_with (first
   |(go_at_call 91;refine f.out.mono ?_;rintro e p⟨rfl,d⟩)
   |fail)
   go_ret;exact⟨by rw[i.out];rfl,d⟩
 |some k=>
   rw[l]at f i;simp only[jE]at f;have x:decide ((k:Int)<0)=false:=aN (by omega);clear j;go_enter Tryz.func50,Tryz.ntmps50;go_wp2_with (first
   |(go_at_call 91;refine f.out.mono ?_;rintro e p⟨rfl,d⟩)
   |fail)
   go_ret;exact⟨by rw[i.out];rfl,d⟩
 .have r:decide ((t.writes.length:Int) ≥ 20)=false:=aN (by omega);have i:Hid (vU t key=false):=by unfold Hid vU;rw[aN j];rfl
  clear j f;go_enter Tryz.func50,Tryz.ntmps50;go_wp2_with fail;go_ret;exact⟨by rw[i.out];rfl,Mod.refl _ _⟩
theorem Tryz.CO(t:Addr)(w:World):(ReflectliteValue.unpack (.iface 177 (.pointer (some t)))).run Tryz.prog w
  = .ok (.agg #[.pointer (some ⟨2,177,none⟩),.pointer (some ⟨w.heap.size,0,none⟩),.int .u64 150]) (w.alloc (.cells #[.pointer (some t)] 177)):=by kernel_rfl
theorem Tryz.Ri (a : Addr) (w : World) : (ReflectliteValue.methodAny (ReflectliteValue.valueError "reflectlite.Value.Type" 0) (λt _ _ _ => ReflectliteType.toType t) #[.agg #[.pointer (some ⟨2, 177, none⟩), .pointer (some a), .int .u64 150]]).run Tryz.prog w
  = .ok (.iface 236 (.agg #[.pointer (some ⟨2,177,none⟩)])) w:=by kernel_rfl
theorem Tryz.wV (h : Value) (w : World) : (Go.method 402 236 (.agg #[h]) "Kind").run Tryz.prog w = .ok (215, h) w := by kernel_rfl
theorem Tryz.SF(w:World):((ReflectliteType.abiMethod λt=>(λa:Nat=>Value.int IntKind.u8 (a:Int)) <$> Rtype.kind t) #[.pointer (some ⟨2,177,none⟩)]).run Tryz.prog w=.ok (.int .u8 22) w:=by kernel_rfl
theorem Tryz.SG(w:World):((ReflectliteType.abiMethod λt=>(λa:Nat=>Value.int IntKind.u8 (a:Int)) <$> Rtype.kind t) #[.pointer (some ⟨2,90,none⟩)]).run Tryz.prog w=.ok (.int .u8 2) w:=by kernel_rfl
theorem rlm(z:Sem Value)(f:TypeId->Addr->Nat->Nat->Sem Value)(v:Value) :
  ReflectliteValue.method z f #[v]=(do match <-ReflectliteValue.parts v with|none=>z|some (t,a,fl)=>f t a fl (fl % 32)):=rfl
theorem Tryz.CS(a:Addr)(w:World):(ReflectliteValue.parts (.agg #[.pointer (some ⟨2,177,none⟩),.pointer (some a),.int .u64 150])).run Tryz.prog w=.ok (some (177,a,150)) w:=by kernel_rfl
theorem Tryz.LK(a p:Addr)(W:World)(b:W.cell? a=some (.pointer (some p))) :
  (ReflectliteValue.method (ReflectliteValue.valueError "reflectlite.Value.IsNil" 0) ReflectliteValue.isNil #[.agg #[.pointer (some ⟨2, 177, none⟩), .pointer (some a), .int .u64 150]]).run Tryz.prog W = .ok (.bool false) W := by
 rw[rlm];simp only[Sem.run_bind,Tryz.CS,Result.andThen];simp[ReflectliteValue.isNil,loadVar,isAgg,underlying,Tryz.underlying177,b,Result.andThen]
theorem Tryz.wW (h : Value) (w : World) : (Go.method 402 236 (.agg #[h]) "Elem").run Tryz.prog w = .ok (226, .agg #[h]) w := by kernel_rfl
theorem Tryz.pT (h : Value) (w : World) : (Go.method 402 236 (.agg #[h]) "Implements").run Tryz.prog w = .ok (227, .agg #[h]) w := by kernel_rfl
theorem Tryz.nr (h : Value) (w : World) : (Go.method 402 236 (.agg #[h]) "AssignableTo").run Tryz.prog w = .ok (224, .agg #[h]) w := by kernel_rfl
theorem Tryz.UP(w:World):(ReflectliteType.method ReflectliteType.elem #[.agg #[.pointer (some ⟨2,177,none⟩)]]).run Tryz.prog w=.ok (.iface 236 (.agg #[.pointer (some ⟨2,90,none⟩)])) w:=by kernel_rfl
theorem Tryz.uV (w : World) : (ReflectliteType.relation "Implements" ReflectliteType.implements_ #[.agg #[.pointer (some ⟨2, 90, none⟩)], .iface 236 (.agg #[.pointer (some ⟨2, 40, none⟩)])]).run Tryz.prog w = .ok (.bool true) w := by kernel_rfl
theorem Tryz.Fm(v:Value)(w:World):(ReflectliteType.typeOf #[.iface 90 v]).run Tryz.prog w=.ok (.iface 236 (.agg #[.pointer (some ⟨2,90,none⟩)])) w:=by kernel_rfl
theorem Tryz.vE (w : World) : (ReflectliteType.relation "AssignableTo" ReflectliteType.assignableTo #[.agg #[.pointer (some ⟨2, 90, none⟩)], .iface 236 (.agg #[.pointer (some ⟨2, 90, none⟩)])]).run Tryz.prog w = .ok (.bool true) w := by kernel_rfl
theorem Tryz.CP(e:Int)(w:World):(ReflectliteValue.unpack (.iface 90 (.int .i64 e))).run Tryz.prog w
  = .ok (.agg #[.pointer (some ⟨2,90,none⟩),.pointer (some ⟨w.heap.size,0,none⟩),.int .u64 130]) (w.alloc (.cells #[.int .i64 e] 90)):=by kernel_rfl
theorem Tryz.Gv(w:World):(Rtype.elem? 177).run Tryz.prog w=.ok (some 90) w:=by kernel_rfl
theorem Tryz.mkE(p:Addr)(w:World):(ReflectliteValue.mk 90 p ReflectliteValue.flagAddr).run Tryz.prog w=.ok (.agg #[.pointer (some ⟨2,90,none⟩),.pointer (some p),.int .u64 386]) w:=by kernel_rfl
theorem Tryz.Me(a p:Addr)(W:World)(b:W.cell? a=some (.pointer (some p))) :
  (ReflectliteValue.method (ReflectliteValue.valueError "reflectlite.Value.Elem" 0) ReflectliteValue.elem #[.agg #[.pointer (some ⟨2, 177, none⟩), .pointer (some a), .int .u64 150]]).run Tryz.prog W
   = .ok (.agg #[.pointer (some ⟨2,90,none⟩),.pointer (some p),.int .u64 386]) W:=by
 rw[rlm];simp only[Sem.run_bind,Tryz.CS,Result.andThen];simp[ReflectliteValue.elem,loadVar,isAgg,underlying,Tryz.underlying177,b,Result.andThen,Tryz.Gv,Tryz.mkE]
theorem rls(v x:Value):ReflectliteValue.set #[v,x]=(do
  let (some (dst,a,fl),some (src,b,_)):=(<-ReflectliteValue.parts v,<-ReflectliteValue.parts x)
  |unsupported (.noEntry "extern/(internal/reflectlite.Value).Set.zeroValue")
  if fl / ReflectliteValue.flagAddr % 2==0 then unsupported (.noEntry "extern/(internal/reflectlite.Value).Set.unaddressable")
  let val <-loadVar src b
  if <-Rtype.directlyAssignable dst src then storeVar dst a val
  else if <-Rtype.implements dst src then
   if (<-Rtype.kind src)==20 then
    match val with
   |.nilIface => unsupported (.noEntry "extern/reflectlite: a nil value of one interface type handed on as a value of another")
   |_=>storeVar dst a val
   else storeVar dst a (.iface src val)
  else panicString ("reflectlite.Set: value of type " ++ (← Rtype.spelt src) ++ " is not assignable to type " ++ (← Rtype.spelt dst))
  pure (.tuple #[])):=rfl
theorem Tryz.Fv(a:Addr)(w:World):(ReflectliteValue.parts (.agg #[.pointer (some ⟨2,90,none⟩),.pointer (some a),.int .u64 386])).run Tryz.prog w=.ok (some (90,a,386)) w:=by kernel_rfl
theorem Tryz.Kx(a:Addr)(w:World):(ReflectliteValue.parts (.agg #[.pointer (some ⟨2,90,none⟩),.pointer (some a),.int .u64 130])).run Tryz.prog w=.ok (some (90,a,130)) w:=by kernel_rfl
theorem Tryz.Gw(w:World):(Rtype.directlyAssignable 90 90).run Tryz.prog w=.ok true w:=by kernel_rfl
theorem Tryz.setE(ta b:Addr)(e:Int)(old:Value)(W:World)(d:W.cell? b=some (.int .i64 e))(ht:W.cell? ta=some old)(a:W.frozen? ta=false) :
  (ReflectliteValue.set #[.agg #[.pointer (some ⟨2,90,none⟩),.pointer (some ta),.int .u64 386],.agg #[.pointer (some ⟨2,90,none⟩),.pointer (some b),.int .u64 130]]).run Tryz.prog W
   = .ok (.tuple #[]) (W.setCell ta (.int .i64 e)):=by
 rw[rls];simp only[Sem.run_bind,Tryz.Fv,Tryz.Kx,Result.andThen];simp[ReflectliteValue.flagAddr,loadVar,isAgg,underlying,Tryz.underlying90,d,Result.andThen,Tryz.Gw,storeVar,Value.cells,storeCells,Addr.add];rw[run_store Tryz.prog W ta _ _ (by rfl)];simp[ht,a]
theorem NP(e:Int)(t:Addr)(old:Value)(w:World)(i:w.cell? ⟨1,0,none⟩=some (.iface 236 (.agg #[.pointer (some ⟨2,40,none⟩)])))(b:w.cell? t=some old)(E:w.frozen? t=false) :
  Calls Tryz.prog 115 #[.iface 90 (.int .i64 e),.iface 177 (.pointer (some t))] w λB w'=>B=.returned (.bool true)/\w'=((((w.alloc (.cells #[.pointer (some t)] 177)).alloc (.cells #[.pointer (some ⟨2,177,none⟩),.pointer (some ⟨w.heap.size,0,none⟩),.int .u64 150] 213)).alloc (.cells #[.pointer (some ⟨2,177,none⟩),.pointer (some ⟨w.heap.size,0,none⟩),.int .u64 150] 213)).alloc (.cells #[.int .i64 e] 90)).setCell t (.int .i64 e):=by
 have N:=@run_callFunc_extern Tryz.prog 153 _ (λd=>ReflectliteValue.unpack (d.getD 0 (.tuple #[]))) Tryz.func153 (by kernel_rfl) (by kernel_rfl) (by kernel_rfl) (by kernel_rfl)
 have M := @run_callFunc_extern Tryz.prog 154 _ (ReflectliteValue.methodAny (ReflectliteValue.valueError "reflectlite.Value.Type" 0) (λt _ _ _ => ReflectliteType.toType t)) Tryz.func154 (by kernel_rfl) (by kernel_rfl) (by kernel_rfl) (by kernel_rfl)
 have L := @run_callFunc_extern Tryz.prog 155 _ (ReflectliteValue.method (ReflectliteValue.valueError "reflectlite.Value.IsNil" 0) ReflectliteValue.isNil) Tryz.func155 (by kernel_rfl) (by kernel_rfl) (by kernel_rfl) (by kernel_rfl)
 have v:=@run_callFunc_extern Tryz.prog 215 _ (ReflectliteType.abiMethod λt=>do pure (.int .u8 (<-Rtype.kind t))) Tryz.func215 (by kernel_rfl) (by kernel_rfl) (by kernel_rfl) (by kernel_rfl);have r:=@run_callFunc_extern Tryz.prog 226 _ (ReflectliteType.method ReflectliteType.elem) Tryz.func226 (by kernel_rfl) (by kernel_rfl) (by kernel_rfl) (by kernel_rfl)
 have q := @run_callFunc_extern Tryz.prog 227 _ (ReflectliteType.relation "Implements" ReflectliteType.implements_) Tryz.func227 (by kernel_rfl) (by kernel_rfl) (by kernel_rfl) (by kernel_rfl)
 have A:=@run_callFunc_extern Tryz.prog 174 _ ReflectliteType.typeOf Tryz.func174 (by kernel_rfl) (by kernel_rfl) (by kernel_rfl) (by kernel_rfl)
 have u := @run_callFunc_extern Tryz.prog 224 _ (ReflectliteType.relation "AssignableTo" ReflectliteType.assignableTo) Tryz.func224 (by kernel_rfl) (by kernel_rfl) (by kernel_rfl) (by kernel_rfl)
 have z := @run_callFunc_extern Tryz.prog 175 _ (ReflectliteValue.method (ReflectliteValue.valueError "reflectlite.Value.Elem" 0) ReflectliteValue.elem) Tryz.func175 (by kernel_rfl) (by kernel_rfl) (by kernel_rfl) (by kernel_rfl)
 have x:=@run_callFunc_extern Tryz.prog 176 _ ReflectliteValue.set Tryz.func176 (by kernel_rfl) (by kernel_rfl) (by kernel_rfl) (by kernel_rfl);have F:=Tryz.Fm;have K:=Tryz.nr;have D:=Tryz.vE;have j:=Tryz.CP;have P:=Tryz.CO;have O:=Tryz.Ri;have H:=Tryz.wV;have J:=Tryz.wW;have I:=Tryz.pT;have k:=Tryz.SF;have l:=Tryz.SG;have C:=Tryz.UP;have o:=Tryz.uV;have G:=Tryz.LK ⟨w.heap.size,0,none⟩ t ((w.alloc (.cells #[.pointer (some t)] 177)).alloc (.cells #[.pointer (some ⟨2,177,none⟩),.pointer (some ⟨w.heap.size,0,none⟩),.int .u64 150] 213)) (by simp);have f:1<w.heap.size:=AC w _ i;have p:((w.alloc (.cells #[.pointer (some t)] 177)).alloc (.cells #[.pointer (some ⟨2,177,none⟩),.pointer (some ⟨w.heap.size,0,none⟩),.int .u64 150] 213)).cell? ⟨1,0,none⟩=some (.iface 236 (.agg #[.pointer (some ⟨2,40,none⟩)])):=by
  rw[B8 _ _ ⟨1,0,none⟩ (by simp;omega),B8 _ _ ⟨1,0,none⟩ f];exact i
 have a:t.block<w.heap.size:=by
  rcases dV t.block w.heap.size with h|h
  .exact h
  .simp[World.cell?,Array.getElem?_eq_none h]at b
 have Q:=Tryz.Me ⟨w.heap.size,0,none⟩ t (((w.alloc (.cells #[.pointer (some t)] 177)).alloc (.cells #[.pointer (some ⟨2,177,none⟩),.pointer (some ⟨w.heap.size,0,none⟩),.int .u64 150] 213)).alloc (.cells #[.pointer (some ⟨2,177,none⟩),.pointer (some ⟨w.heap.size,0,none⟩),.int .u64 150] 213)) (by rw[B8 _ _ ⟨w.heap.size,0,none⟩ (by simp;omega)];simp);have st:=Tryz.setE t ⟨w.heap.size+1+1+1,0,none⟩ e old ((((w.alloc (.cells #[.pointer (some t)] 177)).alloc (.cells #[.pointer (some ⟨2,177,none⟩),.pointer (some ⟨w.heap.size,0,none⟩),.int .u64 150] 213)).alloc (.cells #[.pointer (some ⟨2,177,none⟩),.pointer (some ⟨w.heap.size,0,none⟩),.int .u64 150] 213)).alloc (.cells #[.int .i64 e] 90))
  (by rw[World.cell?_alloc_at _ _ _ _ (by simp)];rfl)
  (by rw[B8 _ _ t (by simp;omega),B8 _ _ t (by simp;omega),B8 _ _ t (by simp;omega),B8 _ _ t a];exact b)
  (by rw[World.frozen?_alloc_old _ _ t (by simp;omega),World.frozen?_alloc_old _ _ t (by simp;omega),World.frozen?_alloc_old _ _ t (by simp;omega),World.frozen?_alloc_old _ _ t (Nat.ne_of_lt a)];exact E)
 go_enter Tryz.func115,Tryz.ntmps115
 go_wp2
 refine wp_loop_rounds 1 ?_;rw[rounds_succ]
 go_wp2
 go_ret;exact⟨rfl,rfl⟩
def ET(w:World):Prop:=w.cell? ⟨1,0,none⟩=some (.iface 236 (.agg #[.pointer (some ⟨2,40,none⟩)]))
theorem ET.mod(h:ET w)(a:Mod dt w w'):ET w':=a.cell h id
theorem yUb(w:World):Calls Tryz.prog 67 #[.nilIface] w λe w'=>e=.returned (.int .i64 0)/\w'=w:=by
 go_enter Tryz.func67,Tryz.ntmps67;go_wp2_with fail;go_ret;exact⟨rfl,rfl⟩
theorem yMa(e:Int)(w:World)(h:ET w):Calls Tryz.prog 67 #[.iface 90 (.int .i64 e)] w λd w'=>d=.returned (.int .i64 e)/\Mod dt w w':=by
 have b:(w.alloc (.cells #[.int .i64 0] 90)).cell? ⟨1,0,none⟩=some (.iface 236 (.agg #[.pointer (some ⟨2,40,none⟩)])):=h.mod ((Mod.refl _ w).alloc _);have f:=dk b;have j:0<w.heap.size:=by
  rcases Nat.eq_zero_or_pos w.heap.size with h0|k
  .simp[ET,World.cell?,h0]at h
  .exact k
 clear b;go_enter Tryz.func67,Tryz.ntmps67;go_wp2_with fail;refine(NP e ⟨w.heap.size,0,none⟩ (.int .i64 0) _ f.out (by simp) (by simp)).mono ?_;rintro d w1⟨rfl,a⟩;have l:w1.cell? ⟨w.heap.size,0,none⟩=some (.int .i64 e):=by
  rw[a];exact((((((dx.new w [.int .i64 0] 90).mod ((Mod.refl dt _).alloc _) id).mod ((Mod.refl dt _).alloc _) id).mod ((Mod.refl dt _).alloc _) id).mod ((Mod.refl dt _).alloc _) id).set 0 _).cell 0 rfl
 have i:Mod dt w w1:=by
  rw[a];exact((((((Mod.refl dt w).alloc _).alloc _).alloc _).alloc _).alloc _).setCell (p:=⟨w.heap.size,0,none⟩) (λh=>absurd h (cZ _)) _
 clear a f;go_wp2_with fail;go_ret;exact⟨rfl,i⟩
def sw(m:Nat)(s:gU):Prop:=∀k c,c∈(s k).held\/c∈(s k).waits->1<=c.I/\c.I<=(m:Int)
theorem sw.lock{s:gU}(h:sw m s){b:ByteArray}(i:nY (s b)){c:dw}(f:1<=c.I/\c.I<=(m:Int)):sw m (jo s b (iz (s b) c).1):=λk d a=>by
 by_cases e:k=b
 .subst e;rw[wI]at a;unfold iz at a;split at a
  .exact h k d a
  split at a
  .exact h k d a
  split at a
  .obtain a|a:=a
   .rcases(mx i.held c d).1 a with rfl|⟨a,_⟩
    .exact f
    .exact h k d (.inl a)
   .exact h k d (.inr a)
  split at a
  .exact h k d a
  .obtain a|a:=a
   .exact h k d (.inl a)
   .rcases(mx i.waits c d).1 a with rfl|⟨a,_⟩
    .exact f
    .exact h k d (.inr a)
 .rw[AI e]at a;exact h k d a
theorem sw.rel{s:gU}(h:sw m s)(t:Int):sw m (gg s t):=λk d a=>by
 unfold gg at a;split at a
 .unfold my at a;obtain a|a:=a
  .rcases(ES _ _ _ d).1 a with q|q
   .exact h k d (.inl (pD.1 q).1)
   .exact h k d (.inr (pD.1 q).1)
  .rcases(ES _ _ _ d).2.1 a with q|q
   .simp at q
   .exact h k d (.inr (pD.1 q).1)
 .exact h k d a
theorem Yk:∀(l:List dw) (a m:Int),kY l->(∀c∈l,a<c.I/\c.I<=m)->a<=m->(l.length:Int)<=m-a
|[],a,m,_,_,h=>by simp;omega
|c::l,a,m,b,f,i=>by
  have h0:=f c (List.mem_cons_self ..);unfold kY at b;rw[List.pairwise_cons]at b;have:=Yk l c.I m b.2 (λd e=>⟨b.1 d e,(f d (bH _ e)).2⟩) h0.2;simp only[aW];omega
theorem sw.few{s:gU}(h:sw m s)(d:m<=60){k:ByteArray}(b:nY (s k)):(s k).held.length+(s k).waits.length<=120:=by
 have f:=Yk (s k).held 0 m b.held (λc a=>⟨by have:=(h k c (.inl a)).1;omega,(h k c (.inl a)).2⟩) (by omega);have e:=Yk (s k).waits 0 m b.waits (λc a=>⟨by have:=(h k c (.inr a)).1;omega,(h k c (.inr a)).2⟩) (by omega);omega
theorem WW(k:fP)(c:dw):∀t∈(iz k c).2.2.1,∃d∈k.held,d.I=t:=λt ht=>by
 unfold iz at ht;split at ht
 .simp at ht
 split at ht
 .simp at ht
 split at ht
 .simp at ht
 split at ht
 .simp at ht
 .obtain⟨d,a,rfl⟩:=aj.1 ht;exact⟨d,(au.1 a).1,rfl⟩
theorem ET.keep{a:dq}(h:ET w)(d:As w n g y)(f:1<n)(b:il w y w' a):ET w':=b.md.cell h (λe=>by have:=(d.lt 1 e).1;omega)
theorem eJ.JD(h:eJ w n c g y s)(v:sw s.U.length s.keys)(H:s.U.length<=60)(N:c<=10000)(id:Int)(A:1<=id/\id<=(s.U.length:Int))(key:ByteArray)(j:key.size<=20)(mode:Int)(G:mode=1\/mode=2) :
  Calls Tryz.prog 66 #[.pointer (some ⟨g,5,none⟩),.int .i64 id,.string key,.int .i64 mode] w λe w'=>∃(ok:Bool) (u:Value) (o:dq),e=.returned (.tuple #[.bool ok,u,jP (iL s id key mode).2.2]) /\
   eJ w' n (c+1) g o (iL s id key mode).1/\eu w y w' o/\Bw w' o u (iL s id key mode).2.1:=by
 have p:gP key:=by unfold gP maxLen;omega
 refine(yVo n 120 (y.tb g s.J.lost) s.keys id key mode w h.AP G j (by omega) (by have:=h.qn.2.2;show y.q.n<=1000000;omega) (aO h.low (Nat.le_of_lt h.Z.lt))).mono ?_;rintro e w'⟨C,u,rfl,a⟩;have f:=h.tab.ok key p;obtain⟨K,I⟩:=h.Iq (c':=c+1) a.md a.tb a.b a.pre a.post a.t (by have:=a.n;have:=h.qn.2.2;show C.n<=c+1;have:(y.tb g s.J.lost).n=y.q.n:=rfl;omega) a.own (λk j=>(v.lock f A).few H (a.tb.ok k j));refine⟨_,u,_,rfl,K,⟨I,rfl,rfl,rfl,rfl,rfl⟩,yBf a.ft,λk j=>?_⟩;obtain⟨O,L,M,l⟩:=fs a.ft j;refine⟨?_,L⟩;have r:¬C.own k:=λe=>by
  obtain e|⟨z,i,F,e⟩:=e
  .have d:=a.tb.map;unfold rZ at d;rw[e]at d;obtain⟨_,D,⟨P,clock,B,_⟩,_⟩:=d;rw[B]at l;simp at l
  .obtain⟨_,_,E,B⟩:=a.tb.old F (λx=>x) e;rw[B]at l;simp at l
 simp only[dq.rK];rw[aH (λe=>r e.2)];by_cases e:y.own k=.no
 .exact e
 .have:=(h.own.lt k e).2;omega
