import Derived.Test.YtmaiggbnceejiaaGreatDoorL01
import Derived.BigRegion
import Derived.WalkSpells
import Derived.Lib.SliceRun
set_option linter.unusedVariables false
set_option maxRecDepth 100000
set_option maxHeartbeats 16000000
namespace Go.Proofs.YtmaiggbnceejiaaGreatDoor
open Go.RowKit Go.Lib Go.Maps
variable {w w6 w':World}{L:Lo}{s:ec}{g n:Nat}{nv lv v v6 u:Value}{us:List Value}{ns:List Int}
theorem fF.one(m:eG)(u:Value)(j:L<=w.heap.size)(f:ie w L u m.z.writes)(h:sE m) :
  fF (w.alloc (.cells #[.int .i64 m.kind,.int .i64 m.eP,.int .i64 m.C3,.int .i64 m.dv,.int .i64 m.n,.int .i64 m.z.kind,.int .i64 m.z.I,.int .i64 m.z.time,u] 112)) L (.slice (some ⟨w.heap.size,0,none⟩) 1 1) [m]:=by
 refine⟨[u],rfl,⟨rfl,.inr ⟨w.heap.size,1,_,rfl,j,A0 w _,aD _,by unfold maxLen;omega,rfl,rfl⟩⟩,λi d k c a=>?_,λd b=>?_⟩
 .have e:i=0:=by
   cases i with
  |zero=>rfl
  |succ i=>simp at c
  subst e;simp at c a;subst c a;exact f.mod ((Mod.refl dt w).alloc _) (Qm.none _ _)
 .simp at b;subst b;exact h
def lY(s:ec)(wh:Int)(m:eG):List eG:=match iU s wh with
|none=>[]
|some t=>[⟨m.kind,s.id,t,s.dv,m.n,m.z⟩]
theorem Vh{wh t:Int}(h:iU s wh=some t):t∈s.nodes:=by
 unfold iU at h;split at h
 .exact aC h
 .cases h
def mN(w:World)(v:Value):Prop:=∀k,v.ownBlock=some k->w.heap.size<=k
theorem Qs(L:Lo)(g:Nat)(nv lv:Value)(s:ec)(wh:Int)(m:eG)(u:Value)(w:World)(h:gI w L g nv lv s)(E:wh=1\/wh = -1)(j:ie w L u m.z.writes)(c:gi m.kind/\gi m.n/\Fc m.z) :
  Calls Tryz.prog 100 #[.pointer (some ⟨g,0,none⟩),.int .i64 wh,.agg #[.int .i64 m.kind,.int .i64 m.eP,.int .i64 m.C3,.int .i64 m.dv,.int .i64 m.n,.int .i64 m.z.kind,.int .i64 m.z.I,.int .i64 m.z.time,u]] w λe w'=>
   ∃v,e=.returned v/\fF w' L v (lY s wh m)/\mN w v/\Mod dt w w':=by
 obtain⟨a,b,rfl⟩:∃a b,u=.slice a m.z.writes.length b:=by obtain⟨a,b,h,_⟩:=j;exact⟨a,b,h⟩
 obtain⟨w1,hw1⟩:∃q,q=w.alloc (.cells #[.int .i64 m.kind,.int .i64 m.eP,.int .i64 m.C3,.int .i64 m.dv,.int .i64 m.n,.int .i64 m.z.kind,.int .i64 m.z.I,.int .i64 m.z.time,.slice a m.z.writes.length b] 112):=⟨_,rfl⟩;have f:Mod dt w w1:=by rw[hw1];exact(Mod.refl _ w).alloc _
 have p:dx w1 w.heap.size (kG m (.slice a m.z.writes.length b)) 112:=by rw[hw1];exact dx.new w _ _
 have d:=h.quiet f;have H:=h.Z.lt;have kt:=h.low;have y:=eC (zQz L g nv lv s wh w1 d E);have r:=eC h.ints;have N:=eC (j.mod f (Qm.none _ _));clear h j;go_enter Tryz.func100,Tryz.ntmps100;go_upto_region 1 with fail;rw[<-hw1];clear hw1;go_wp2_with fail;refine y.out.mono ?_;rintro e w2⟨rfl,A,rfl⟩
 cases l:iU s wh with
|none=>
  have x:Hid (lY s wh m=[]):=by rw[Hid,lY,l]
  simp only[Option.getD_none,Option.isSome_none];clear y;go_wp2_with fail;go_ret;exact⟨_,rfl,by rw[x.out];exact fF.nil _ _,λk o=>by simp[Value.ownBlock]at o,f.drewN _⟩
|some t=>
  have x:Hid (lY s wh m=[⟨m.kind,s.id,t,s.dv,m.n,m.z⟩]):=by rw[Hid,lY,l]
  have ht:gi t:=r.out.2.2 t (Vh l);simp only[dS,Option.isSome_some];obtain⟨c0,c1,c2,c3,c4⟩:=nJ d.Z;obtain⟨⟨x0,x1,x2,x3,x4,x5,x6,x7,Y⟩,⟨X,W,V,U,T,S,R,Q,P⟩⟩:=ix p;have F:=p.lt;have B:g<w1.heap.size:=d.Z.lt;clear y d;go_upto_region 4 with fail;go_region
  all_goals go_wp2_with fail
  go_ret;obtain⟨w5,oH⟩:∃q,q=(((w1.drewN (A+1)).setCell ⟨w.heap.size,1,none⟩ (.int .i64 s.id)).setCell ⟨w.heap.size,2,none⟩ (.int .i64 t)).setCell ⟨w.heap.size,3,none⟩ (.int .i64 s.dv):=⟨_,rfl⟩;have M:w5.heap.size=w1.heap.size:=by rw[oH];simp
  have D:Mod (eQ w.heap.size) w1 w5:=by
   rw[oH];exact((((Mod.refl (eQ w.heap.size) w1).drewN (A+1)).trans (Mod.eE _ 1 _)).trans (Mod.eE _ 2 _)).trans (Mod.eE _ 3 _)
  have G:Qm w1 L (eQ w.heap.size):=λk _ e=>by
   simp only[eQ]at e;subst e;have C:=p;simp only[dx]at C;rintro(e|⟨⟨K,fr,e⟩,_⟩)
   .omega
   .rw[C]at e;simp at e
  have J:Mod dt w w5:=f.trans' D (λi hi e=>by simp only[eQ]at e;omega);rw[<-oH,<-M];have O:L<=w5.heap.size:=by omega
  refine⟨_,rfl,?_,λk o=>?_,J.alloc _⟩
  .rw[x.out];exact fF.one ⟨m.kind,s.id,t,s.dv,m.n,m.z⟩ _ O (N.out.mod D G) ⟨⟨c.1,r.out.1,ht,r.out.2.1,c.2.1,c.2.2.1⟩,c.2.2.2⟩
  .have e:w5.heap.size=k:=by simpa[Value.ownBlock]using o
   omega
def qh(a n:Int):eG:=⟨a,0,0,0,n,tC⟩
def CJ(s:ec)(n:Int):ec:=⟨s.id,s.dv,s.nodes,s.M,n⟩
def lH(s:ec):ec×List eG:=if vW s then(CJ s s.M.length,lY (CJ s s.M.length) (-1) (qh 4 s.M.length))else(s,lY s 1 (qh 1 s.M.length))
theorem WJ(a n:Int)(c:gi a)(b:gi n):gi (qh a n).kind/\gi (qh a n).n/\Fc (qh a n).z:=by
 refine⟨c,b,⟨?_,?_,?_⟩,?_⟩ <;> simp[qh,tC,gi]
theorem gI.zC(h:gI w L g nv lv s)(n:Int)(d:0<=n/\n<=s.M.length) :
  gI (w.setCell ⟨g,4,none⟩ (.int .i64 n)) L g nv lv (CJ s n)/\Mod (eQ g) w (w.setCell ⟨g,4,none⟩ (.int .i64 n)):=by
 obtain⟨i,f,_⟩:=h.apart;have b:Mod (eQ g) w (w.setCell ⟨g,4,none⟩ (.int .i64 n)):=Mod.eE g 4 _;have c:Qm w L (eQ g):=Qm.zE h (λk _ e=>.inl e);exact⟨⟨h.Z.set 4 _,h.low,gO h.ns b (λk _ _ a e=>i (by rw[a];rw[e])),h.lg.mod b c (λk a e=>f (by rw[a];rw[e])),h.ints,h.few,d,λk a=>aJ (h.xb k a) b.size⟩,b⟩
theorem Qt(L:Lo)(g:Nat)(nv lv:Value)(s:ec)(w:World)(h:gI w L g nv lv s) :
  Calls Tryz.prog 59 #[.pointer (some ⟨g,0,none⟩)] w λe w'=>∃v,e=.returned v/\gI w' L g nv lv (lH s).1/\fF w' L v (lH s).2/\mN w v/\Mod (eQ g) w w':=by
 obtain⟨C,F,m⟩:=h.lg.slice;subst m;have r:=eC (yJs L g nv _ s w h);have D:=h.low;have E:=h.few;go_enter Tryz.func59,Tryz.ntmps59;go_wp2_with fail;refine r.out.mono ?_;rintro e w1⟨rfl,j,rfl⟩;have b:=h.drewN j;have c:Mod dt w (w.drewN j):=(Mod.refl _ w).drewN j;obtain⟨N,K,J,I,H⟩:=nJ b.Z;have G:=b.Z.frozen 4;have z:=b.Z.lt;clear r h
 cases ht:vW s with
|false=>
  have f:Hid (lH s=(s,lY s 1 (qh 1 s.M.length))):=by rw[Hid,lH,ht];rfl
  have d:=eC (Qs L g nv _ s 1 (qh 1 s.M.length) (.slice none 0 0) (w.drewN j) b (.inl rfl) (ie.nil _ _) (WJ _ _ (by simp[gi]) (by simp only[gi];omega)));have p:=eC b;clear b;go_wp2_with fail;refine d.out.mono ?_;rintro e B⟨v,rfl,o,l,a⟩;clear d;go_wp2_with fail;go_ret;exact⟨v,rfl,by rw[f.out];exact p.out.quiet a,by rw[f.out];exact o,l,(c.trans a).mono (λ_ _ e=>e.elim)⟩
|true=>
  have f:Hid (lH s=(CJ s s.M.length,lY (CJ s s.M.length) (-1) (qh 4 s.M.length))):=by rw[Hid,lH,ht];rfl
  obtain⟨i,a⟩:=b.zC s.M.length (by omega);have x:=i.Z.cell 4 rfl;have d:=eC (Qs L g nv _ (CJ s s.M.length) (-1) (qh 4 s.M.length) (.slice none 0 0) _ i (.inr rfl) (ie.nil _ _) (WJ _ _ (by simp[gi]) (by simp only[gi];omega)));have p:=eC i;have y:=eC a;simp only[CJ]at x;clear b i a;go_wp2_with fail;refine d.out.mono ?_;rintro e A⟨v,rfl,o,l,q⟩;clear d;go_wp2_with fail;go_ret;refine⟨v,rfl,by rw[f.out];exact p.out.quiet q,by rw[f.out];exact o,λk t=>?_,((c.mono (λ_ _ e=>e.elim)).trans y.out).trans (q.mono (λ_ _ e=>e.elim))⟩;have:=l k t;simpa using this
theorem fF.snoc{ms:List eG}{m:eG}(d:us.length=ms.length)(c:w.ownsRow L 112 9 v ms.length (iW ms us))
  (h:∀(i:Nat) m u,ms[i]?=some m->us[i]?=some u->ie w L u m.z.writes) (p:∀m∈ms,sE m) (A:ie w L u m.z.writes) (x:sE m)
  (q:Mod (λk=>v.ownBlock=some k) w w6) (y:w6.ownsRow L 112 9 v6 (ms.length+1) (iW ms us++kG m u)):fF w6 L v6 (ms++[m]):=by
 have r:=Qm.row c (aD _) (by decide);refine⟨us++[u],by simp[d],by rw[Wf _ _ _ _ d];simpa using y,λi f t b a=>?_,λf j=>?_⟩
 .by_cases l:i<ms.length
  .rw[aG l]at b;rw[aG (by omega)]at a;exact(h i f t b a).mod q r
  .have o:i=ms.length:=by
    rcases dV i (ms.length+1)with h'|h'
    .omega
    .rw[aX (by simpa using h')]at b;cases b
   subst o;rw[aL (aD _)]at b;rw[aL (by omega)]at a;simp[d]at b a;subst b a;exact A.mod q r
 .rcases aM.1 j with e|e
  .exact p f e
  .simp at e;subst e;exact x
theorem iF.snoc{ms:List eH}{m:eH}(d:us.length=ms.length)(c:w.ownsRow L 65 4 v ms.length (CL ms us))
  (h:∀(i:Nat) m u,ms[i]?=some m->us[i]?=some u->ie w L u m.writes) (p:∀m∈ms,Fc m) (z:ie w L u m.writes) (x:Fc m)
  (q:Mod (λk=>v.ownBlock=some k) w w6) (y:w6.ownsRow L 65 4 v6 (ms.length+1) (CL ms us++yx m u)):iF w6 L v6 (ms++[m]):=by
 have r:=Qm.row c (aD _) (by decide);refine⟨us++[u],by simp[d],by rw[zRc _ _ _ _ d];simpa using y,λi f t b a=>?_,λf j=>?_⟩
 .by_cases l:i<ms.length
  .rw[aG l]at b;rw[aG (by omega)]at a;exact(h i f t b a).mod q r
  .have o:i=ms.length:=by
    rcases dV i (ms.length+1)with h'|h'
    .omega
    .rw[aX (by simpa using h')]at b;cases b
   subst o;rw[aL (aD _)]at b;rw[aL (by omega)]at a;simp[d]at b a;subst b a;exact z.mod q r
 .rcases aM.1 j with e|e
  .exact p f e
  .simp at e;subst e;exact x
def oq(s:ec)(t:Int)(k:Nat)(c:eH):eG:=⟨3,s.id,t,s.dv,k,c⟩
def lq(s:ec)(t:Int)(f n:Nat):List eG:=(List.range n).map (λj=>oq s t (f+j) (s.M.getD (f+j) tC))
theorem yRq(s:ec)(t:Int)(f n:Nat)(c:eH)(a:s.M[f+n]?=some c):lq s t f (n+1)=lq s t f n++[oq s t (f+n) c]:=by
 unfold lq;rw[aZ,ay,List.map_singleton,aI,a];rfl
theorem yWc(s:ec)(t:Int)(f n:Nat):(lq s t f n).length=n:=by simp[lq]
theorem zWo(L:Lo)(g:Nat)(nv lv:Value)(s:ec)(t:Int)(f:Int)(w:World)(h:gI w L g nv lv s)(hn:iU s 1=some t)(hf:0<=f) :
  Calls Tryz.prog 101 #[.pointer (some ⟨g,0,none⟩),.int .i64 f] w λe w'=>∃v,e=.returned v/\fF w' L v (lq s t f.toNat (s.M.length-f.toNat))/\mN w v/\Mod dt w w':=by
 obtain⟨i0,hi,Y,X,W⟩:=A3 Tryz.qk;obtain⟨a,rfl⟩:∃a:Nat,f=a:=⟨f.toNat,by omega⟩;rw[aU];obtain⟨la,fQ,hlv⟩:=h.lg.slice;subst hlv;have fy:=h.few.2;have kt:=h.low;have Hv:Hid (∀k,iV g nv (.slice la s.M.length fQ) k->k<w.heap.size):=λk l=>(h.lt l).2.1;go_enter Tryz.func101,Tryz.ntmps101;go_wp2_with fail;go_loopw [5,6] (λv i wr=>∃j:Nat,j<=s.M.length-a/\i=.int .i64 ((a+j:Nat):Int)/\gI wr L g nv (.slice la s.M.length fQ) s/\fF wr L v (lq s t a j)/\mN w v/\Mod dt w wr) (λ_ i _=>s.M.length-(intOf i).toNat)
 case atStart=>exact⟨0,aT _,rfl,h,fF.nil _ _,λk l=>by simp[Value.ownBlock]at l,Mod.refl _ _⟩
 case round=>
  obtain⟨j,hj,rfl,hN,J,H,hM⟩:=hrel;clear h;obtain⟨c0,c1,c2,c3,c4⟩:=nJ hN.Z;by_cases D:a+j<s.M.length
  .obtain⟨c,hc⟩:∃c,s.M[a+j]?=some c:=⟨_,aA D⟩;obtain⟨b,Ap,u,hv,hb1,hb2,hu,vt,q0,q1,q2,q3⟩:=hN.lg.at hc;simp only[Value.slice.injEq]at hv;obtain⟨rfl,_,rfl⟩:=hv;obtain⟨p,q,rfl⟩:∃p q,u=.slice p c.writes.length q:=by obtain⟨p,q,h,_⟩:=hu;exact⟨p,q,h⟩
   obtain⟨d,hkk⟩:∃d:Nat,d=a+j:=⟨_,rfl⟩;have kg:=eC (yRq s t a j c hc);rw[<-hkk]at D q0 q1 q2 q3 kg⊢;have HO:=eC (yBo L c (.slice p c.writes.length q) wr hu (by have:=vt.2;omega));have jq:(d:Int)<(s.M.length:Int):=by omega
   have mT:(0:Int)<=(d:Int):=by omega
   have rf:=eC hkk;clear hu hc hkk;go_wp2_with fail;refine HO.out.mono ?_;rintro e w5⟨uo,rfl,V,N⟩;obtain⟨Kl,Kk,rfl⟩:=fU V;have A:=ie.iX (L:=L) V (λk l=>hN.xb k l);have U:=hN.quiet N;have uB:=J.mod N (Qm.none _ _) (λ_ _=>id);have HS:=eC (Qs L g nv _ s 1 ⟨3,0,0,0,d,c⟩ (.slice Kl c.writes.length Kk) w5 U (.inl rfl) A ⟨by simp[gi],by simp only[gi];omega,vt⟩);have zR:=hM.trans N;clear HO V hN J hM q0 q1 q2 q3 c0 c1 c2 c3 c4;go_wp2_with fail;refine HS.out.mono ?_;rintro e w6⟨v6,rfl,O,hfv6,K⟩;have B:lY s 1 ⟨3,0,0,0,d,c⟩=[oq s t d c]:=by unfold lY;rw[hn];rfl
   rw[B]at O;obtain⟨b6,bc6,Q,R,_,_,Ei,Ta,r0,r1,r2,r3,r4,r5,r6,r7,r8⟩:=O.at (i:=0) (m:=oq s t d c) rfl;obtain⟨ua6,uc6,rfl⟩:∃p q,Q=.slice p c.writes.length q:=by obtain⟨p,q,h,_⟩:=Ei;exact⟨p,q,h⟩
   have P:=U.quiet K;have F:=uB.mod K (Qm.none _ _) (λ_ _=>id);have FB:=zR.trans K;have hz6:=FB.size;have Uh:Hid (∀(i:Nat) x,(kG (oq s t d c) (.slice ua6 c.writes.length uc6))[i]?=some x->w6.cell? ((⟨b6,0,none⟩:Addr).add i)=some x):=by
    intro i x z;rw[A1,aY];have hi9:i<9:=(aB.1 z).1;have hcs:i=0\/i=1\/i=2\/i=3\/i=4\/i=5\/i=6\/i=7\/i=8:=by omega
    simp only[cr,aY]at r0 r1 r2 r3 r4 r5 r6 r7 r8;obtain rfl|rfl|rfl|rfl|rfl|rfl|rfl|rfl|rfl:=hcs <;> (simp[kG]at z;subst z;assumption)
   obtain⟨us,mz,r,C,E⟩:=F;have G:=eC r;have sa:=eC C;have ye:=eC E;have HU:=eC Ei;have Yc:=eC Ta;have T:=eC (yWc s t a j);rw[T.out]at G;have iu:j+1<=maxLen:=by unfold maxLen;omega
   have iv:(j+1)*88<=140737488355328:=by omega
   have Jd:L<=w6.heap.size:=by have:=P.Z.lt;omega
   simp only[aW,bC]at R;rw[R];have YW:=eC P;clear r C E HS U uB zR O Ei Ta r0 r1 r2 r3 r4 r5 r6 r7 r8 R P B A N K;go_wp2_with (first
   |(at_builtin;refine B1 _ rfl (.tmp 17) (.tmp 29) 76 rfl L 112 i0 _ 9 88 Tryz.underlying76 hi Y X W rfl (by omega) _ _ _ rfl G.out ⟨b6,0,none⟩ 1 bc6 (kG (oq s t d c) (.slice ua6 c.writes.length uc6)) rfl rfl Uh.out (yHv _ _ _ _) iu iv Jd ?_)
   |fail)
   intro v7 w7 eX o _ y;have I:Mod (λk=>u5.ownBlock=some k) w6 w7:=(Mod.refl _ w6).grown o (λx z _=>z);have S:=fF.snoc mz (by rw[T.out];exact G.out) sa.out ye.out HU.out Yc.out I (by rw[T.out];exact eX);have MS:Mod dt w w7:=FB.trans' I (λi hi e=>by have:=H i e;omega);have vv:=YW.out.mod I (Qm.row G.out (aD _) (by decide)) (λk l e=>by have:=Hv.out k l;have:=H k e;omega);have Bf:mN w v7:=λk l=>by
    obtain e|e:=y
    .exact H k (by rw[<-e];exact l)
    .rw[e]at l;simp at l;omega
   rw[<-kg.out]at S;have Jq:=eC S;have HN7:=eC vv;clear eX o y G sa ye HU Yc Uh FB S vv I YW;go_wp2_with fail;go_roundw
   case rel=>exact⟨j+1,by have:=rf.out;omega,by rw[show a+(j+1)=d+1 by have:=rf.out;omega];go_num,HN7.out,Jq.out,Bf,MS⟩
   case measure=>simp[intOf];omega
  .have hd:decide (((a+j:Nat):Int)<(s.M.length:Int))=false:=aN (by omega);obtain rfl:j=s.M.length-a:=by omega
   have HR:=eC J;clear hN J;go_wp2_with fail;go_ret;exact⟨_,rfl,HR.out,H,hM⟩
def oU(s:ec)(l:List eH):ec:=⟨s.id,s.dv,s.nodes,l,s.iR⟩
def nc(s:ec)(c:eH):ec×List eG:=if vW s then lH (oU s (s.M++[c]))else(oU s (s.M++[c]),match iU s 1 with
|none=>[]
|some t=>[oq s t s.M.length c])
theorem yPp(s:ec)(l:List eH):vW (oU s l)=vW s:=rfl
theorem yUx(a:pU s=true)(ht:vW s=false):∃t,iU s 1=some t:=by
 simp only[pU,aw]at a;rcases zTq s with e|⟨k,e,_,h⟩
 .omega
 .have b:¬(tu s=(s.nodes.length:Int)-1):=by
   intro d;have:vW s=true:=by unfold vW pU;rw[aQ a,d];simp
   rw[this]at ht;cases ht
  obtain⟨t,ht2⟩:∃t,s.nodes[k+1]?=some t:=⟨_,aA (by omega)⟩;refine⟨t,?_⟩;have c:(tu s+1).toNat=k+1:=by omega
  have f:pU s=true:=by simp only[pU,aw];exact a
  unfold iU;rw[f,aQ (show(0:Int)<=tu s+1 by omega),aQ (show tu s+1<(s.nodes.length:Int) by omega),c];simpa using ht2
theorem Mod.node{w1 a:World}{b:Value}(h:Mod (iV g nv v) w w1)(hm:ik w v b)(k:Mod (iV g nv b) w1 a):Mod (iV g nv v) w a:=
 h.trans' k (λi c e=>by
  obtain e|e|e:=e
  .exact .inl e
  .exact .inr (.inl e)
  .obtain hm|hm:=hm
   .exact .inr (.inr (by rw[<-hm];exact e))
   .have:=hm i e;omega)
theorem gI.logged{c:List eH}(h:gI w L g nv lv s)(b:Mod (λk=>lv.ownBlock=some k) w w6)(t:iF w6 L v6 c)(o:v6.ownBlock=lv.ownBlock\/∀k,v6.ownBlock=some k->w.heap.size<=k)(r:c.length<=500)(f:s.iR<=c.length) :
  gI (w6.setCell ⟨g,3,none⟩ v6) L g nv v6 (oU s c)/\Mod (iV g nv lv) w (w6.setCell ⟨g,3,none⟩ v6):=by
 obtain⟨z,m,y⟩:=h.apart;have l:dx w6 g [.int .i64 s.id,.int .i64 s.dv,nv,lv,.int .i64 s.iR] 132:=h.Z.mod b m;have j:=l;simp only[dx]at j;have d:Mod (eQ g) w6 (w6.setCell ⟨g,3,none⟩ v6):=Mod.eE g 3 _;have A:Qm w6 L (eQ g):=λk _ e=>by
  simp only[eQ]at e;subst e;rintro(e|⟨⟨x,B,e⟩,_⟩)
  .have:=h.low;omega
  .rw[j]at e;simp at e
 have q:=h.Z.lt;refine⟨⟨l.set 3 _,h.low,gO (gO h.ns b (λk _ _ a e=>y k a e)) d (λk _ _ a e=>z (by rw[a,e])),t.mod d A (λk a e=>?_),h.ints,⟨h.few.1,r⟩,⟨h.st.1,f⟩,λk a=>aJ (h.xb k a) (aO b.size d.size)⟩,?_⟩
 .simp only[eQ]at e;subst e;obtain e|e:=o
  .exact m (by rw[<-e];exact a)
  .have:=e _ a;omega
 exact(b.mono (λi _ e=>.inr (.inr e))).setCell (p:=⟨g,3,none⟩) (λ_=>.inl rfl) _
theorem yKq(L:Lo)(g:Nat)(nv lv:Value)(s:ec)(c:eH)(u:Value)(w:World)(h:gI w L g nv lv s)(hin:pU s=true)(hro:s.M.length<500)(hu:ie w L u c.writes)(vt:Fc c) :
  Calls Tryz.prog 103 #[.pointer (some ⟨g,0,none⟩),.agg #[.int .i64 c.kind,.int .i64 c.I,.int .i64 c.time,u]] w λe w'=>
   ∃v F,e=.returned v/\gI w' L g nv F (nc s c).1/\fF w' L v (nc s c).2/\mN w v/\ik w lv F/\Mod (iV g nv lv) w w':=by
 obtain⟨i0,hi,hz0,hz1,hz2⟩:=A3 Tryz.Cc;obtain⟨z,C,rfl⟩:∃z C,u=.slice z c.writes.length C:=by obtain⟨z,C,h,_⟩:=hu;exact⟨z,C,h⟩
 obtain⟨w1,hw1⟩:∃q,q=w.alloc (.cells #[.int .i64 c.kind,.int .i64 c.I,.int .i64 c.time,.slice z c.writes.length C] 65):=⟨_,rfl⟩;have X:Mod dt w w1:=by rw[hw1];exact(Mod.refl _ w).alloc _
 have gM:dx w1 w.heap.size [.int .i64 c.kind,.int .i64 c.I,.int .i64 c.time,.slice z c.writes.length C] 65:=by rw[hw1];exact dx.new w _ _
 have a:=h.quiet X;have AT:=X.size;obtain⟨j,l,hlv⟩:=a.lg.slice;subst hlv;obtain⟨c0,c1,c2,c3,c4⟩:=nJ a.Z;have f3:=a.Z.frozen 3;obtain⟨x0,x1,x2,x3,_⟩:=vD gM;have Q:=a.Z.lt;have hbz:=gM.lt;have HU:Hid (ie w1.drew L (.slice z c.writes.length C) c.writes):=(hu.mod X (Qm.none _ _)).mod ((Mod.refl dt w1).drew) (Qm.none _ _);have zM:c.writes.length<=1000000:=by have:=vt.2;omega
 have iu:s.M.length+1<=maxLen:=by unfold maxLen;omega
 have iv:(s.M.length+1)*48<=140737488355328:=by omega
 obtain⟨us,mz,y,G,J⟩:=a.lg;have gG:=eC y;have sa:=eC G;have ye:=eC J;have QT:=eC a.apart;have Bm:=eC a;have kt:=a.low;have hst:=a.st;clear h hu a y G J;go_enter Tryz.func103,Tryz.ntmps103;go_upto_region 1 with fail;rw[<-hw1];clear hw1;go_upto_region 2 with fail;go_cut [] (λwc=>∃F,gI wc L g nv F (oU s (s.M++[c]))/\ik w1 (.slice j s.M.length l) F/\Mod (iV g nv (.slice j s.M.length l)) w1 wc)
 case first=>
  go_region_law
   ((first
   |(go_simp;go_at_call 72;(refine(yBo L c _ _ HU.out zM).mono ?_;rintro e o⟨uo,rfl,jJ,fA⟩;obtain⟨Kl,Kk,rfl⟩:=fU jJ;have r:Mod dt w1 o:=(((Mod.refl dt w1).drew).trans fA);have d3:=r.cell c3 id;have e3:=(r.frozen (p:=⟨g,3,none⟩) Q id).trans f3;have z5:=r.size;have gz5:g<o.heap.size:=aJ Q z5;have Bk:=eC (gO gG.out r (λ_ _ _ _=>id))))
   |(refine step_append_lies _ (by rfl) _ _ _ (by rfl) L 65 i0 _ 4 48 Tryz.underlying62 hi hz0 hz1 hz2 rfl (by omega) _ _ _ (by rfl) (Bk.out.alloc _) ⟨o.heap.size,0,none⟩ 1 1 (yx c (.slice Kl c.writes.length Kk)) (by rfl) (by rfl) (A7 (A0 o _)) (ySl _ _ _ _) (by omega) iu iv (by simp;omega) _ rfl ?_;intro W S w6 ij f N GV;have U:Mod (λk=>(Value.slice j s.M.length l).ownBlock=some k) o w6:=((Mod.refl _ o).alloc _).grown f (λx hx _=>hx);have d6:=U.cell d3 QT.out.2.1;have e6:=(U.frozen (p:=⟨g,3,none⟩) (aJ Q z5) QT.out.2.1).trans e3)
   |fail))
  all_goals
  have nx:=Bm.out.quiet r;have xI:iF w6 L (.slice (some ⟨W,0,none⟩) (s.M.length+1) S) (s.M++[c]):=iF.snoc mz (gO gG.out r (λ_ _ _ _=>id)) (λi m u a h2=>(sa.out i m u a h2).mod r (Qm.none _ _)) ye.out (ie.iX jJ (λk d=>Bm.out.xb k d)) vt U ij;have b:(Value.slice (some ⟨W,0,none⟩) (s.M.length+1) S).ownBlock=(Value.slice j s.M.length l).ownBlock\/∀k,(Value.slice (some ⟨W,0,none⟩) (s.M.length+1) S).ownBlock=some k->o.heap.size<=k:=by
   obtain e|e:=N
   .exact .inl (by rw[e];rfl)
   .exact .inr (λk d=>by simp[Value.ownBlock]at d;simp at e;omega)
  have R:=nx.logged U xI b (by simp;omega) (by simp;omega);have HR:=eC R;have HL:Hid (ik w1 (.slice j s.M.length l) (.slice (some ⟨W,0,none⟩) (s.M.length+1) S)):=by
   obtain e|e:=b
   .exact .inl e
   .exact .inr (λk d=>aO z5 (e k d))
  have HM:Hid (Mod (iV g nv (.slice j s.M.length l)) w1 o):=r.mono (λ_ _ e=>e.elim);clear R xI ij f N b jJ nx;go_wp2_with fail;go_meet
  case rel=>exact⟨_,HR.out.1,HL.out,HM.out.trans HR.out.2⟩
 case rest=>
  obtain⟨D,T,Lq,B⟩:=hcut;clear gG sa ye QT Bm HU c0 c1 c2 c3 c4 f3 x0 x1 x2 x3 Q hbz gM;have Y:=eC (yJs L g nv D _ wc T);rw[yPp]at Y;have A:ik w (.slice j s.M.length l) D:=by
   obtain e|e:=Lq
   .exact .inl e
   .exact .inr (λk d=>aO AT (e k d))
  have AZ:Mod (iV g nv (.slice j s.M.length l)) w wc:=(X.mono (λ_ _ e=>e.elim)).trans B;have SK:=AZ.size;go_wp2_with fail;refine Y.out.mono ?_;rintro e w3⟨rfl,m3,rfl⟩;have E:=T.drewN m3;have TE:Mod (iV g nv (.slice j s.M.length l)) w (wc.drewN m3):=AZ.drewN m3
  cases ht:vW s with
 |true=>
   have O:Hid (nc s c=lH (oU s (s.M++[c]))):=by rw[Hid,nc,ht];rfl
   have HK:=eC (Qt L g nv D _ _ E);clear Y T E B Lq;go_wp2_with fail;refine HK.out.mono ?_;rintro e w4⟨v,rfl,uC,Ty,PF,V⟩;clear HK;go_wp2_with fail;go_ret;exact⟨v,D,rfl,by rw[O.out];exact uC,by rw[O.out];exact Ty,λk d=>aO SK (PF k d),A,TE.node A (V.mono (λi _ e=>.inl e))⟩
 |false=>
   obtain⟨t,H⟩:=yUx hin ht;have O:Hid (nc s c=(oU s (s.M++[c]),[oq s t s.M.length c])):=by rw[Hid,nc,ht,H];rfl
   have HF:=zWo L g nv D (oU s (s.M++[c])) t s.M.length _ E H (by omega);have K:lq (oU s (s.M++[c])) t s.M.length 1=[oq s t s.M.length c]:=by
    simp[lq,oq,oU]
   rw[aU,show(oU s (s.M++[c])).M.length-s.M.length=1 by simp[oU],K]at HF;have P:=eC HF;have vz:=eC E;clear Y T E B Lq HF K;go_wp2_with fail;refine P.out.mono ?_;rintro e w4⟨v,rfl,Ty,PF,V⟩;clear P;go_wp2_with fail;go_ret;exact⟨v,D,rfl,by rw[O.out];exact vz.out.quiet V,by rw[O.out];exact Ty,λk d=>aO SK (PF k d),A,TE.trans (V.mono (λ_ _ e=>e.elim))⟩
theorem yYi(h:nU s=true):pU s=true:=by
 simp only[nU,beq_iff_eq]at h;simp[pU,h]
theorem yWy(L:Lo)(g:Nat)(nv lv:Value)(s:ec)(c:eH)(u:Value)(w:World)(h:gI w L g nv lv s)(B:nU s=true)(C:s.M.length<500)(r:ie w L u c.writes)(O:Fc c) :
  Calls Tryz.prog 81 #[.pointer (some ⟨g,0,none⟩),.agg #[.int .i64 c.kind,.int .i64 c.I,.int .i64 c.time,u]] w λe w'=>
   ∃v A,e=.returned (.tuple #[.int .i64 s.M.length,v,.nilIface])/\gI w' L g nv A (nc s c).1/\fF w' L v (nc s c).2/\mN w v/\ik w lv A/\Mod (iV g nv lv) w w':=by
 obtain⟨a,b,rfl⟩:∃a b,u=.slice a c.writes.length b:=by obtain⟨a,b,h,_⟩:=r;exact⟨a,b,h⟩
 obtain⟨w1,hw1⟩:∃q,q=w.alloc (.cells #[.int .i64 c.kind,.int .i64 c.I,.int .i64 c.time,.slice a c.writes.length b] 65):=⟨_,rfl⟩;have m:Mod dt w w1:=by rw[hw1];exact(Mod.refl _ w).alloc _
 have R:dx w1 w.heap.size [.int .i64 c.kind,.int .i64 c.I,.int .i64 c.time,.slice a c.writes.length b] 65:=by rw[hw1];exact dx.new w _ _
 have l:=h.quiet m;obtain⟨la,fQ,t⟩:=l.lg.slice;subst t;have d:=m.size;have z:=yVw L g nv _ s _ l;rw[B]at z;have i:=eC z;have F:=eC l;have E:=eC (r.mod m (Qm.none _ _));clear h z l r;go_enter Tryz.func81,Tryz.ntmps81;go_upto_region 1 with fail;rw[<-hw1];clear hw1;go_wp2_with fail;refine i.out.mono ?_;rintro e w2⟨rfl,j,rfl⟩;have f:=F.out.drewN j;have y:=Vp L g nv _ s _ f;rw[aQ C]at y;have D:=eC y;obtain⟨W,V,U,T,S⟩:=nJ f.Z;have xE:=f.Z.lt;obtain⟨N,K,J,H,_⟩:=vD (R.mod ((Mod.refl dt w1).drewN j) id);have G:=eC (yKq L g nv _ s c (.slice a c.writes.length b) _ f (yYi B) C (E.out.mod ((Mod.refl dt w1).drewN j) (Qm.none _ _)) O);clear y i F f E;go_wp2_with fail;refine D.out.mono ?_;rintro e w3⟨rfl,rfl⟩;go_wp2_with fail;refine G.out.mono ?_;rintro e w4⟨v,o,rfl,P,X,Y,p,Q⟩;clear G D N K J H W V U T S;go_wp2_with fail;refine A5 (results_tmp3 rfl _ _ _) rfl ⟨v,o,rfl,P,X,λk x=>aO d (Y k x),?_,?_⟩
 .obtain e|e:=p
  .exact .inl e
  .exact .inr (λk x=>aO d (e k x))
 .exact((m.drewN j).mono (λ_ _ e=>e.elim)).trans Q
theorem yQl(w:World)(n:Nat)(a:Array Value)(c:a.size=n*4)(b:n<=maxLen):(w.alloc (.cells a 65)).ownsRow w.heap.size 65 4 (.slice (some ⟨w.heap.size,0,none⟩) 0 n) 0 []:=
 ⟨rfl,.inr ⟨w.heap.size,n,a,rfl,aD _,A0 w _,aT _,b,c,by simp⟩⟩
theorem Qf(L:Lo)(g:Nat)(nv lv:Value)(s:ec)(w:World)(h:gI w L g nv lv s) :
  Calls Tryz.prog 40 #[.pointer (some ⟨g,0,none⟩)] w λe w'=>∃v,e=.returned v/\iF w' L v s.M/\mN w v/\Mod dt w w':=by
 obtain⟨i0,T,y,t,r⟩:=A3 Tryz.Cc;obtain⟨a,cap,R⟩:=h.lg.slice;subst R;have c0:=h.Z.cell 3 rfl;have hf:=h.few.2;have kt:=h.low;have hgl:=h.Z.lt;have f:=run_make (P:=Tryz.prog) w 62 65 i0 _ Tryz.underlying62 T y .i64 .i64 0 s.M.length (by omega) (by omega) (by rw[r];omega) (by omega);rw[t]at f;simp only[aU,Int.toNat_zero]at f;obtain⟨cur,fz⟩:∃c,c=madeCells (Value.agg #[.int .i64 0,.int .i64 0,.int .i64 0,.slice none 0 0]).cells (s.M.length*4):=⟨_,rfl⟩;rw[<-fz]at f;have U:cur.size=s.M.length*4:=by rw[fz];simp[madeCells]
 clear fz;have Jb:iF (w.alloc (.cells cur 65)) L (.slice (some ⟨w.heap.size,0,none⟩) 0 s.M.length) []:=
  ⟨[],rfl,vl (yQl w s.M.length cur U (by unfold maxLen;omega)) (by omega),λi m u h=>by simp at h,by simp⟩
 have Y:Mod dt w (w.alloc (.cells cur 65)):=(Mod.refl _ w).alloc _;have c1:=Y.cell c0 id;have HN:=eC h;clear h;go_enter Tryz.func40,Tryz.ntmps40;go_wp2_with fail;go_loopw [3,17] (λv i wr=>∃k:Nat,k<=s.M.length/\i=.int .i64 k/\iF wr L v (s.M.take k)/\mN w v/\Mod dt w wr) (λ_ i _=>s.M.length-(intOf i).toNat)
 case atStart=>exact⟨0,aT _,rfl,Jb,λx o=>by simp[Value.ownBlock]at o;omega,Y⟩
 case round=>
  obtain⟨k,hk,rfl,G,X,C⟩:=hrel;clear Jb Y c1 c0 f;have V:=HN.out.quiet C;by_cases p:k<s.M.length
  .obtain⟨c,hc⟩:∃c,s.M[k]?=some c:=⟨_,aA p⟩;obtain⟨b,Ap,u,hv,_,_,Q,vt,q0,q1,q2,q3⟩:=V.lg.at hc;simp only[Value.slice.injEq]at hv;obtain⟨rfl,_,rfl⟩:=hv;obtain⟨q,D,rfl⟩:∃q D,u=.slice q c.writes.length D:=by obtain⟨q,D,h,_⟩:=Q;exact⟨q,D,h⟩
   have HT:Hid (s.M.take (k+1)=s.M.take k++[c]):=by
    rw[Hid,ax p];rw[aA p]at hc;simp at hc;rw[hc]
   have N:Hid ((s.M.take k).length=k):=by rw[Hid,af];omega
   have J:Mod dt wr (wr.alloc (.cells #[.int .i64 c.kind,.int .i64 c.I,.int .i64 c.time,.slice q c.writes.length D] 65)):=(Mod.refl _ wr).alloc _;have E:=eC (yBo L c _ _ (Q.mod J (Qm.none _ _)) (by have:=vt.2;omega));go_wp2_with fail;refine E.out.mono ?_;rintro e F⟨uo,rfl,O,fA⟩;obtain⟨Kl,Kk,rfl⟩:=fU O;have DA:=J.trans fA;have uB:=G.mod DA (Qm.none _ _) (λ_ _=>id);obtain⟨us,mz,j,z,A⟩:=uB;have H:=eC j;have sa:=eC z;have ye:=eC A;have HU:=eC (ie.iX (L:=L) O (λk hk=>aJ (HN.out.xb k hk) (C.trans J).size));have K:=C.trans DA;have JG:=K.size;rw[N.out]at H;have iu:k+1<=maxLen:=by unfold maxLen;omega
   have iv:(k+1)*48<=140737488355328:=by omega
   clear j z A O E G Q fA J q0 q1 q2 q3;go_wp2_with (first
   |(at_builtin;refine B1 _ rfl (.tmp 21) (.tmp 24) 62 rfl L 65 i0 _ 4 48 Tryz.underlying62 T y t r rfl (by omega) _ _ _ rfl (H.out.alloc _) ⟨F.heap.size,0,none⟩ 1 1 (yx c (.slice Kl c.writes.length Kk)) rfl rfl (A7 (A0 F _)) (ySl _ _ _ _) iu iv (by simp;omega) ?_)
   |fail)
   intro v6 w6 ij d _ l;have W:Mod (λk=>u3.ownBlock=some k) F w6:=((Mod.refl _ F).alloc _).grown d (λx o _=>o);have xI:iF w6 L v6 (s.M.take k++[c]):=iF.snoc mz (by rw[N.out];exact H.out) sa.out ye.out HU.out vt W (by rw[N.out];exact ij);have FB:Mod dt w w6:=K.trans' W (λi T e=>by have:=X i e;omega);have B:mN w v6:=λx o=>by
    obtain e|e:=l
    .exact X x (by rw[<-e];exact o)
    .rw[e]at o;simp at o;omega
   clear ij d l H sa ye HU K C W;go_wp2_with fail;go_roundw
   case rel=>exact⟨k+1,by omega,by go_num,by rw[HT.out];exact xI,B,FB⟩
   case measure=>simp[intOf];omega
  .have S:k=s.M.length:=by omega
   subst S;rw[bQ]at G;go_wp2_with fail;go_ret;exact⟨_,rfl,G,X,C⟩
theorem kF.quiet(h:kF w v ns)(i:Mod dt w w'):kF w' v ns:=by
 obtain⟨a,e,p,o,m,d⟩:=h;refine⟨a,e,p,o,m,?_⟩;obtain d|⟨b,c,l,k⟩:=d
 .exact .inl d
 .exact .inr ⟨b,c,l,λj x f=>i.cell (k j x f) id⟩
def rV:List Int->List Int->Bool
|_,[]=>false
|seen,x::a=>decide (x∈seen)||rV (seen++[x]) a
theorem zZy:∀(xs seen:List Int),rV seen xs=false↔xs.Nodup/\∀x∈xs,x∉seen
|[],seen=>by simp[rV]
|x::xs,seen=>by
  simp only[rV,Bool.or_eq_false_iff,bc,zZy xs (seen++[x]),List.nodup_cons,bB,aM];constructor
  .rintro⟨e,d,c⟩;exact⟨⟨λf=>(c x f) (.inr (by simp)),d⟩,λy b=>by
    obtain rfl|b:=b
    .exact e
    .exact λa=>c y b (.inl a)⟩
  .rintro⟨⟨e,d⟩,c⟩;refine⟨c x (.inl rfl),d,λy b a=>?_⟩;obtain a|a:=a
   .exact c y (.inr b) a
   .simp at a;subst a;exact e b
theorem yXw{L b:Nat}{a:List Int}{D:DataW Unit}{x:Int}(f:∀x,(Lit.int .i64 x).wf=true->Maps.has D (.int .i64 x)=decide (x∈a))(j:IsMap D)(i:L<=b)(k:n<=a.length)
  (d:gi x) (h:w'.ownsMap Tryz.prog 3 unitElem b (n+1) (D.put (.int .i64 x) (.agg []))):qy w' L (some b) (a++[x]):=by
 refine .inr ⟨b,_,rfl,i,h.mono (by simp;omega),λy c=>?_⟩;by_cases e:y=x
 .subst e;rw[has_put_same j (by simp[WideAt.IsKeyLit])];simp
 .rw[has_put_other (by intro h;cases h;exact e rfl),f y c];simp[e]
theorem yLq(L q b:Nat)(f:List Int)(x:Int)(w:World)(t:w.cell? ⟨q,0,none⟩=some (.map (some b)))(l:qy w L (some b) f)(h:gi x)(z:f.length<=1000000) :
  Calls Tryz.prog 165 #[.int .i64 x,.pointer (some ⟨q,0,none⟩)] w λe w'=>e=.returned (.bool (decide (x∈f)))/\qy w' L (some b) (f++[x])/\Mod (eQ b) w w':=by
 have p:=KW l h;have r:q<w.heap.size:=AC w _ t;have j:=l;obtain⟨e,_⟩|⟨b',D,e,Gm,hown,hhas⟩:=l
 .cases e
 cases e
 have d:keyOf Tryz.prog 3 (.int .i64 x)=some (.int .i64 x):=keyOf_int_mk Tryz.underlying3 (Qd h);have A:Mod dt w (w.alloc (.cells #[] 158)):=(Mod.refl _ w).alloc _;have m:=eC (World.ownsMap.alloc hown (.cells #[] 158));have B:=eC hhas;have C:Hid (IsMap D):=hown.isMap;clear hown hhas j;go_enter Tryz.func165,Tryz.ntmps165;go_wp2_with (first
 |(at_mapUpdate;refine wpList_mapUpdate_own _ rfl _ _ _ 75 rfl 3 158 CX Tryz.underlying75 unitElem b _ D rfl m.out (by unfold maxLen;omega) _ _ _ rfl rfl d _ [] unitElem_mk ?_)
 |fail)
 intro w1 c a;have i:Mod (eQ b) (w.alloc (.cells #[] 158)) w1:=(Mod.refl _ _).grown a (λk y _=>by cases y;exact rfl);have o:=eC (yXw B.out C.out Gm (aD _) h c);clear c a m p;go_wp2_with fail;go_ret;exact⟨rfl,o.out,(A.mono (λ_ _ e=>e.elim)).trans i⟩
theorem yCx(L q b:Nat)(v:Value)(ns:List Int)(w:World)(P:kF w v ns)(I:ns≠[]->∀a n A,v=.slice (some a) n A->a.block≠b)(Q:w.cell? ⟨q,0,none⟩=some (.map (some b)))(V:q≠b)(H:qy w L (some b) [])(o:∀x∈ns,gi x)(Y:ns.length<=1000000) :
  Calls Tryz.prog 134 #[v,.func (.func 165) #[] #[.pointer (some ⟨q,0,none⟩)]] w λe w'=>∃r:Int,e=.returned (.int .i64 r)/\decide (0<=r)=rV [] ns/\Mod (eQ b) w w':=by
 obtain⟨a,A,rfl,R,C,d⟩:=P;unfold maxLen at C;have J:=eC d;have M:=eC o;have U:=eC I;clear d o I;go_enter Tryz.func134,Tryz.ntmps134;go_wp2_with fail;go_loopw [8] (λi wr=>∃k:Nat,k<=ns.length/\i=.int .i64 k/\rV [] ns=rV (ns.take k) (ns.drop k)/\qy wr L (some b) (ns.take k)/\Mod (eQ b) w wr) (λi _=>ns.length-(intOf i).toNat)
 case atStart=>exact⟨0,aT _,rfl,by simp,by simpa using H,Mod.refl _ _⟩
 case round=>
  obtain⟨k,Z,rfl,l,G,z⟩:=hrel;clear H;by_cases c:k<ns.length
  .obtain⟨y,hy⟩:∃y,ns[k]?=some y:=⟨_,aA c⟩;obtain e|⟨T,N,rfl,d⟩:=J.out
   .rw[e]at c;simp at c
   have D:T≠b:=U.out (by intro e;rw[e]at c;simp at c) _ _ _ rfl;have K:=z.cell (d k y hy) D;have m:=z.cell Q V;have p:ns.drop k=y::ns.drop (k+1):=by
    rw[bw c];rw[aA c]at hy;simp at hy;rw[hy]
   have j:ns.take (k+1)=ns.take k++[y]:=by
    rw[ax c];rw[aA c]at hy;simp at hy;rw[hy]
   rw[p,rV,<-j]at l;have E:=yLq L q b (ns.take k) y wr m G (M.out y (aC hy)) (by rw[af];omega);rw[<-j]at E;have B:=eC E;have f:=eC l;have X:(k:Int)<(ns.length:Int):=by omega
   have O:(0:Int)<=(k:Int):=by omega
   clear d hy E l p j G m;go_wp2_with fail;refine B.out.mono ?_;rintro e W⟨rfl,t,S⟩;have F:=z.trans S;clear B K z;by_cases h:y∈ns.take k
   .rw[aQ h]at f⊢;rw[Bool.true_or]at f;go_wp2_with fail;go_ret;exact⟨k,rfl,by rw[f.out];exact aQ O,F⟩
   .rw[aN h]at f⊢;rw[Bool.false_or]at f;go_wp2_with fail;go_roundw
    case rel=>exact⟨k+1,by omega,by go_num,f.out,t,F⟩
    case measure=>simp[intOf];omega
  .obtain rfl:k=ns.length:=by omega
   rw[cy]at l;have f:=eC l;clear l;go_wp2_with fail;go_ret;exact⟨-1,rfl,by rw[f.out];rfl,z⟩
theorem yCy(L q b:Nat)(v:Value)(ns:List Int)(w:World)(f:kF w v ns)(t:ns≠[]->∀a n d,v=.slice (some a) n d->a.block≠b)(i:w.cell? ⟨q,0,none⟩=some (.map (some b)))(p:q≠b)(j:qy w L (some b) [])(c:∀x∈ns,gi x)(k:ns.length<=1000000) :
  Calls Tryz.prog 93 #[v,.func (.func 165) #[] #[.pointer (some ⟨q,0,none⟩)]] w λe w'=>e=.returned (.bool (rV [] ns))/\Mod (eQ b) w w':=by
 have o:=eC (yCx L q b v ns w f t i p j c k);obtain⟨a,d,rfl,_⟩:=f;clear i j c;go_enter Tryz.func93,Tryz.ntmps93;go_wp2_with fail;refine o.out.mono ?_;rintro e w1⟨r,rfl,h,l⟩;have m:=eC h;clear h;go_wp2_with fail;go_ret;exact⟨by rw[<-m.out];rfl,l⟩
theorem yOz(v:Value)(ns:List Int)(w:World)(j:kF w v ns)(f:∀x∈ns,gi x)(q:ns.length<=1000000) :
  Calls Tryz.prog 139 #[v] w λe w'=>e=.returned (.bool (rV [] ns))/\Mod dt w w':=by
 have r:=@run_makeMap Tryz.prog;have d:=j;obtain⟨a,D,rfl,y,t,h⟩:=d;go_enter Tryz.func139,Tryz.ntmps139;go_wp2_with fail;have c:Mod dt w ((w.alloc (.map #[] 0)).alloc (.cells #[.map (some w.heap.size)] 75)):=((Mod.refl _ w).alloc _).alloc _;have o:qy ((w.alloc (.map #[] 0)).alloc (.cells #[.map (some w.heap.size)] 75)) w.heap.size (some w.heap.size) []:=
  .inr ⟨w.heap.size,.map [],rfl,aD _,(B2 (H:=Unit) w Tryz.prog 3 unitElem).alloc _,λx _=>by simp[Maps.has]⟩
 have m:=dx.new (w.alloc (.map #[] 0)) [.map (some w.heap.size)] 75;rw[A4]at m;refine(yCy w.heap.size (w.heap.size+1) w.heap.size _ ns _ (j.quiet c) (λb J F l e=>?_) (m.cell 0 rfl) (by omega) o f q).mono ?_
 .simp only[Value.slice.injEq]at e;obtain C|⟨I,p,B,z⟩:=h
  .exact absurd C b
  .obtain⟨x,hx⟩:∃x,ns[0]?=some x:=⟨_,aA (by cases ns with|nil=>exact absurd rfl b|cons=>simp)⟩;have:=AC w _ (z 0 x hx);rw[B]at e;have k:=e.1;simp at k;rw[<-k];simp only at this⊢;omega
 .rintro e E⟨rfl,A⟩;go_wp2_with fail;go_ret;exact⟨rfl,c.trans' A (λi G e=>by simp only[eQ]at e;omega)⟩
theorem kF.cells{a:Option Addr}{cap:Nat}(h:kF w (.slice a n cap) ns)(h0:ns≠[]) :
  ∃b c,a=some ⟨b,c,none⟩/\∀(j:Nat) u,(ns.map (Value.int .i64))[j]?=some u->w.cell? ((⟨b,c,none⟩:Addr).add j)=some u:=by
 obtain⟨o,k,i,_,_,f⟩:=h;simp only[Value.slice.injEq]at i;obtain⟨rfl,_,rfl⟩:=i;obtain f|⟨b,c,m,l⟩:=f
 .exact absurd f h0
 .refine⟨b,c,m,λj u d=>?_⟩;rw[A1];rw[ah]at d
  cases e:ns[j]? with
 |none=>rw[e]at d;cases d
 |some x=>rw[e]at d;cases d;exact l j x e
theorem Tryz.SI:(Tryz.prog.info? 3).map (λi=>(i.zero,i.size,i.bytes))=some (some (.int .i64 0),1,8):=by kernel_rfl
theorem yVu(ns:List Int):∀u∈ns.map (Value.int .i64),u.oneCell'=true:=by
 intro u a;obtain⟨x,_,rfl⟩:=aj.1 a;rfl
theorem yNw(v:Value)(ns:List Int)(w:World)(p:kF w v ns)(q:ns≠[])(O:ns.length<=1000000) :
  Calls Tryz.prog 140 #[v] w λe w'=>∃i,e=.returned i/\w'.ownsRow w.heap.size 3 1 i ns.length (ns.map (Value.int .i64))/\Mod dt w w':=by
 obtain⟨F,H,m,l,k⟩:=A3 Tryz.SI;have o:=p;obtain⟨a,t,rfl,K,J,_⟩:=o;obtain⟨b,f,rfl,h⟩:=p.cells q;have A:Mod dt w (w.alloc (.cells #[] 3)):=(Mod.refl _ w).alloc _;have y:Hid (∀(j:Nat) u,(ns.map (Value.int .i64))[j]?=some u->(w.alloc (.cells #[] 3)).cell? ((⟨b,f,none⟩:Addr).add j)=some u):=λj u M=>A.cell (h j u M) id;have B:Hid ((w.alloc (.cells #[] 3)).ownsRow w.heap.size 3 1 (.slice (some ⟨w.heap.size,0,none⟩) 0 0) 0 []):=
  ⟨rfl,.inr ⟨w.heap.size,0,#[],rfl,aD _,A0 w _,aD _,by unfold maxLen;omega,rfl,rfl⟩⟩
 have C:Hid ((ns.map (Value.int .i64)).length=ns.length*1):=by rw[Hid];simp
 have z:=eC (yVu ns);have E:0+ns.length<=maxLen:=by unfold maxLen;omega
 have D:(0+ns.length)*8<=140737488355328:=by omega
 have I:=run_eql_slice_nil (P:=Tryz.prog) w 26 3 (some ⟨b,f,none⟩) ns.length t 0 0 Tryz.underlying26;clear h p;go_enter Tryz.func140,Tryz.ntmps140;go_wp2_with (first
 |(at_builtin;refine wpList_append_own _ rfl _ _ 26 rfl w.heap.size 3 F _ 1 8 Tryz.underlying26 H m l k rfl (by omega) _ _ _ rfl B.out ⟨b,f,none⟩ _ _ (ns.map (Value.int .i64)) rfl C.out y.out z.out E D (by simp) ?_)
 |fail)
 intro i w1 c d _;have r:Mod (jw w.heap.size) (w.alloc (.cells #[] 3)) w1:=(Mod.refl _ _).grown d (λx G _=>by simp[Value.ownBlock]at G;simp only[jw];omega);have N:=eC c;clear c d B y C z;go_wp2_with fail;go_ret;exact⟨_,rfl,by simpa using N.out,A.since r (aD _)⟩
end Go.Proofs.YtmaiggbnceejiaaGreatDoor
namespace Go.Proofs.YtmaiggbnceejiaaGreatDoor
open Go.RowKit Go.Lib Go.Maps
variable {w:World}{L:Lo}{g:Nat}{nv lv:Value}{s:ec}{wh x:Int}
def BH(s:ec)(a:Int)(ns:List Int):ec:=⟨s.id,a,ns,s.M,s.iR⟩
def jr(s:ec)(a:Int)(ns:List Int):ec:=if !pU s&&pU (BH s a ns)then⟨s.id,a,ns,[],0⟩else BH s a ns
theorem gI.xQ{a:World}{b:Value}{d:Int}{ns:List Int}(h:gI w L g nv lv s)(l:Mod dt w a)(m:a.ownsRow w.heap.size 3 1 b ns.length (ns.map (Value.int .i64)))(n:gi d)(i:∀x∈ns,gi x)(o:ns.length<=1000000) :
  gI ((a.setCell ⟨g,1,none⟩ (.int .i64 d)).setCell ⟨g,2,none⟩ b) L g b lv (BH s d ns)/\Mod (eQ g) w ((a.setCell ⟨g,1,none⟩ (.int .i64 d)).setCell ⟨g,2,none⟩ b):=by
 have j:=h.quiet l;obtain⟨v,q,_⟩:=h.apart;have t:=h.low;have p:=h.Z.lt;have f:Mod (eQ g) a ((a.setCell ⟨g,1,none⟩ (.int .i64 d)).setCell ⟨g,2,none⟩ b):=(Mod.eE g 1 _).trans (Mod.eE g 2 _);have r:Qm a L (eQ g):=Qm.zE j (λk _ e=>.inl e);refine⟨⟨(j.Z.set 1 _).set 2 _,h.low,gO (vl m (by omega)) f (λk _ _ c e=>?_),j.lg.mod f r (λk c e=>q (by rw[c,e])),⟨h.ints.1,n,i⟩,⟨o,h.few.2⟩,h.st,λk c=>aJ (h.xb k c) (aO l.size f.size)⟩,(l.mono (λ_ _ e=>e.elim)).trans f⟩;simp only[eQ]at e;subst e;obtain⟨u,_,_⟩:=fs m c;omega
theorem gI.Gu(h:gI w L g nv lv s) :
  gI ((w.setCell ⟨g,3,none⟩ (.slice none 0 0)).setCell ⟨g,4,none⟩ (.int .i64 0)) L g nv (.slice none 0 0) ⟨s.id,s.dv,s.nodes,[],0⟩/\Mod (eQ g) w ((w.setCell ⟨g,3,none⟩ (.slice none 0 0)).setCell ⟨g,4,none⟩ (.int .i64 0)):=by
 obtain⟨c,d,_⟩:=h.apart;have a:Mod (eQ g) w ((w.setCell ⟨g,3,none⟩ (.slice none 0 0)).setCell ⟨g,4,none⟩ (.int .i64 0)):=(Mod.eE g 3 _).trans (Mod.eE g 4 _);exact⟨⟨(h.Z.set 3 _).set 4 _,h.low,gO h.ns a (λk _ _ b e=>c (by rw[b,e])),iF.nil _ _,h.ints,⟨h.few.1,by simp⟩,by simp,λk b=>aJ (h.xb k b) a.size⟩,a⟩
theorem yWu(L:Lo)(g:Nat)(nv lv:Value)(s:ec)(a:Int)(v:Value)(ns:List Int)(w:World)(h:gI w L g nv lv s)(hgt:¬a<=s.dv)(jF:gi a)(hv:kF w v ns)(b:∀x∈ns,gi x)(C:1<=ns.length)(h6n:ns.length<=6)(tW:rV [] ns=false) :
  Calls Tryz.prog 107 #[.pointer (some ⟨g,0,none⟩),.agg #[.int .i64 a,v]] w λe w'=>
   ∃r A kB,e=.returned (.tuple #[r,.nilIface])/\gI w' L g A kB (lH (jr s a ns)).1/\fF w' L r (lH (jr s a ns)).2/\mN w r/\mN w A/\ik w lv kB/\Mod (eQ g) w w':=by
 have hv0:=hv;obtain⟨ca,sX,rfl,hc1,hc2,_⟩:=hv0;obtain⟨w1,hw1⟩:∃q,q=w.alloc (.cells #[.int .i64 a,.slice ca ns.length sX] 160):=⟨_,rfl⟩;have U:Mod dt w w1:=by rw[hw1];exact(Mod.refl _ w).alloc _
 have T:dx w1 w.heap.size [.int .i64 a,.slice ca ns.length sX] 160:=by rw[hw1];exact dx.new w _ _
 have S:=h.quiet U;obtain⟨X,E,D,W,V⟩:=nJ S.Z;have M:=T.cell 0 rfl;have K:=T.cell 1 rfl;have z1:=T.lt;have z2:=S.Z.lt;have z3:=h.Z.lt;have hd:decide (a<=s.dv)=false:=aN hgt;have hd1:decide ((ns.length:Int)<1)=false:=aN (by omega);have hd2:decide ((ns.length:Int) > 6)=false:=aN (by omega);have HV:=eC (hv.quiet U);have pH:=eC b;have HN:=eC S;clear h S hv b;go_enter Tryz.func107,Tryz.ntmps107;go_upto_region 1 with fail;rw[<-hw1];clear hw1;go_quiet (fail);have HT:=yOz _ ns _ (HV.out.quiet ((Mod.refl dt w1).drewN nq)) pH.out (by omega);rw[tW]at HT;have F:=eC HT;clear HT tW;go_wp2_with fail;refine F.out.mono ?_;rintro e N⟨rfl,eK⟩;have jO:Mod dt w1 N:=((Mod.refl dt w1).drewN nq).trans eK;have sU:=HN.out.quiet jO;have j:=eC (Re L g nv lv s N sU);clear F eK X E D W V M K;go_wp2_with fail;refine j.out.mono ?_;rintro e l⟨rfl,P,rfl⟩;have I:Mod dt w1 (N.drewN P):=jO.drewN P;have m:=sU.drewN P;obtain⟨l,hw4⟩:∃q,q=N.drewN P:=⟨_,rfl⟩;rw[<-hw4]at I m⊢;have o:=T.mod I id;have M:=o.cell 0 rfl;have K:=o.cell 1 rfl;obtain⟨X,E,D,W,V⟩:=nJ m.Z;have f1:=m.Z.frozen 1;have f2:=m.Z.frozen 2;have z4:=o.lt;have z5:=m.Z.lt;have hzz:=(U.trans I).size;have sb:=eC (yNw _ ns l.drew (HV.out.quiet (I.drew)) (by intro e;rw[e]at C;simp at C) (by omega));clear j hw4 jO sU;go_upto_region 6 with fail;go_cut [6] (λt wc=>t=.bool (pU s)/\∃A,gI wc L g A lv (BH s a ns)/\mN w A/\Mod (eQ g) l wc)
 case first=>
  go_region_with (first
  |(go_at_call 140;refine sb.out.mono ?_;rintro e w5⟨v5,rfl,jJ,fA⟩;have c:Mod dt l w5:=((Mod.refl dt l).drew).trans fA;have y0:=c.cell M id;have y1:=c.cell K id;have z7:=aJ z4 c.size;have d1:=c.cell E id;have d2:=c.cell D id;have e1:=(c.frozen (p:=⟨g,1,none⟩) z5 id).trans f1;have e2:=(c.frozen (p:=⟨g,2,none⟩) z5 id).trans f2;have z6:=aJ z5 c.size;obtain⟨va5,vc5,rfl⟩:=fU jJ)
  |fail)
  all_goals
   have R:=m.xQ c (vl jJ (aD _)) jF pH.out (by omega);have H:mN w (.slice va5 ns.length vc5):=λk i=>by
    have:=(fs jJ i).1;have h9:l.drew.heap.size=l.heap.size:=rfl;omega
   go_wp2_with fail;go_meet
   case rel=>exact⟨rfl,_,R.1,H,R.2⟩
 case rest=>
  obtain⟨rfl,y,n,H,c⟩:=hcut;clear sb X E D W V f1 f2 M K m HN;have Y:Mod (eQ g) w wc:=((U.trans I).mono (λ_ _ e=>e.elim)).trans c;have JG:=Y.size
  cases b:pU s with
 |true=>
   have G:Hid (jr s a ns=BH s a ns):=by rw[Hid,jr,b];rfl
   have d:=eC (Qt L g y lv _ wc n);rw[<-G.out]at d;clear n;go_wp2_with fail;refine d.out.mono ?_;rintro e w6⟨r,rfl,f,xI,hf6,gR⟩;clear d;go_wp2_with fail;refine A5 (B0 rfl _ _ _) rfl ⟨r,y,lv,rfl,f,xI,λk i=>aO JG (hf6 k i),H,ik.refl _ _,Y.trans gR⟩
 |false=>
   have j:=Re L g y lv _ wc n
   cases J:pU (BH s a ns)with
  |false=>
    rw[J]at j;have z:=eC j;have G:Hid (jr s a ns=BH s a ns):=by rw[Hid,jr,b,J];rfl
    have u:=eC n;clear j n;go_wp2_with fail;refine z.out.mono ?_;rintro e w6⟨rfl,B,rfl⟩;have d:=eC (Qt L g y lv _ _ (u.out.drewN B));rw[<-G.out]at d;clear z;go_wp2_with fail;refine d.out.mono ?_;rintro e w7⟨r,rfl,O,sm,Bf,Q⟩;clear d;go_wp2_with fail;refine A5 (B0 rfl _ _ _) rfl ⟨r,y,lv,rfl,O,sm,λk i=>aO JG (Bf k i),H,ik.refl _ _,(Y.drewN B).trans Q⟩
  |true=>
    rw[J]at j;have z:=eC j;have G:Hid (jr s a ns=⟨s.id,a,ns,[],0⟩):=by rw[Hid,jr,b,J];rfl
    have u:=eC n;clear j n;go_wp2_with fail;refine z.out.mono ?_;rintro e w6⟨rfl,B,rfl⟩;have f:=u.out.drewN B;obtain⟨O,Q⟩:=f.Gu;obtain⟨X,E,D,W,V⟩:=nJ f.Z;have f3:=f.Z.frozen 3;have f4:=f.Z.frozen 4;have z6:=f.Z.lt;have d:=eC (Qt L g y (.slice none 0 0) _ _ O);have PK:(⟨(BH s a ns).id,(BH s a ns).dv,(BH s a ns).nodes,[],0⟩:ec)=jr s a ns:=by rw[G.out];rfl
    rw[PK]at d;have Ax:=eC Q;obtain⟨la,fQ,hlv⟩:=f.lg.slice;subst hlv;clear z f O PK Q;go_wp2_with fail;refine d.out.mono ?_;rintro e w8⟨r,rfl,hN8,Xe,hf8,oJ⟩;clear d;go_wp2_with fail;refine A5 (B0 rfl _ _ _) rfl ⟨r,y,.slice none 0 0,rfl,hN8,Xe,λk i=>aO JG (by simpa using hf8 k i),H,.inr (λk i=>by simp[Value.ownBlock]at i),((Y.drewN B).trans Ax.out).trans oJ⟩
def tr(s:ec)(f:Int):List eG:=match iU s 1 with
|none=>[]
|some t=>lq s t f.toNat (s.M.length-f.toNat)
def wE(s:ec)(n:Int):ec:=CJ s (if s.iR<n then n else s.iR)
def gV(s:ec)(m:eG):ec×List eG:=
 if m.dv=s.dv/\m.C3=s.id then
  if m.kind=1/\nR s (-1) m.eP=true then(s,lY s (-1) (qh 2 s.M.length))
  else if m.kind=2/\nR s 1 m.eP=true/\0<=m.n then(s,tr s m.n)
  else if m.kind=3/\nR s (-1) m.eP=true/\m.n=s.M.length/\s.M.length<500 then nc s m.z
  else if m.kind=4/\nR s 1 m.eP=true/\0<=m.n/\m.n<=s.M.length then(wE s m.n,lY (wE s m.n) (-1) (qh 4 (wE s m.n).iR))
  else(s,[])
 else(s,[])
theorem KK(h:nR s wh x=true):iU s wh=some x:=by
 unfold nR at h
 cases a:iU s wh with
|none=>rw[a]at h;cases h
|some y=>rw[a]at h;simp at h;rw[h]
theorem LL(h:nR s wh x=true):pU s=true:=by
 have:=KK h;unfold iU at this;split at this
 .rename_i e;simp only[bX]at e;exact e.1
 .cases this
theorem EN{m:eG}{u:Value}(h:gI w L g nv lv s)(i:ie w L u m.z.writes):∃a b w1 c e,u=.slice a m.z.writes.length b/\lv=.slice c s.M.length e/\w1=w.alloc (.cells #[.int .i64 m.kind,.int .i64 m.eP,.int .i64 m.C3,.int .i64 m.dv,.int .i64 m.n,.int .i64 m.z.kind,.int .i64 m.z.I,.int .i64 m.z.time,.slice a m.z.writes.length b] 112)/\Mod dt w w1/\dx w1 w.heap.size (kG m (.slice a m.z.writes.length b)) 112/\gI w1 L g nv lv s/\Hid (ie w1 L u m.z.writes):=by
 obtain⟨a,b,rfl⟩:∃a b,u=.slice a m.z.writes.length b:=by obtain⟨a,b,h,_⟩:=i;exact⟨a,b,h⟩
 have f:Mod dt w (w.alloc (.cells #[.int .i64 m.kind,.int .i64 m.eP,.int .i64 m.C3,.int .i64 m.dv,.int .i64 m.n,.int .i64 m.z.kind,.int .i64 m.z.I,.int .i64 m.z.time,.slice a m.z.writes.length b] 112)):=(Mod.refl _ w).alloc _;have j:=h.quiet f;obtain⟨c,e,d⟩:=j.lg.slice;exact⟨a,b,_,c,e,rfl,d,rfl,f,dx.new w _ _,j,eC (i.mod f (Qm.none _ _))⟩
theorem ySh(L:Lo)(g:Nat)(nv lv:Value)(s:ec)(m:eG)(u:Value)(w:World)(h:gI w L g nv lv s)(i:ie w L u m.z.writes)(M:sE m)(d:¬(m.dv=s.dv/\m.C3=s.id)) :
  Calls Tryz.prog 56 #[.pointer (some ⟨g,0,none⟩),.agg #[.int .i64 m.kind,.int .i64 m.eP,.int .i64 m.C3,.int .i64 m.dv,.int .i64 m.n,.int .i64 m.z.kind,.int .i64 m.z.I,.int .i64 m.z.time,u]] w λe k=>e=.returned (.slice none 0 0)/\Mod dt w k:=by
 obtain⟨J,P,w1,K,O,rfl,rfl,c,a,j,b,V⟩:=EN h i;obtain⟨U,T,S,R,Q⟩:=nJ b.Z;obtain⟨⟨H,G,F,E,D,C,B,A,y⟩,_⟩:=ix j;have v:=j.lt;have t:=b.Z.lt;have o:=a.size;have N:=b.few;have p:=b.st;have W:=eC b;clear h i b;go_enter Tryz.func56,Tryz.ntmps56;go_upto_region 1 with fail;rw[<-c];clear c;by_cases f:m.dv=s.dv
 .have l:¬m.C3=s.id:=λe=>d ⟨f,e⟩;have q:(m.dv !=s.dv)=false:=by simp[f]
  have r:(m.C3 !=s.id)=true:=by simpa using l
  go_quiet (fail);go_wp2_with fail;go_ret;exact⟨rfl,by first|exact a.drewN _|exact(a.drewN _).drewN _|exact((a.drewN _).drewN _).drewN _|exact(((a.drewN _).drewN _).drewN _).drewN _⟩
 .have q:(m.dv !=s.dv)=true:=by simpa using f
  go_quiet (fail);go_wp2_with fail;go_ret;exact⟨rfl,by first|exact a.drewN _|exact(a.drewN _).drewN _|exact((a.drewN _).drewN _).drewN _|exact(((a.drewN _).drewN _).drewN _).drewN _⟩
theorem yNs(L:Lo)(g:Nat)(nv lv:Value)(s:ec)(m:eG)(u:Value)(w:World)(h:gI w L g nv lv s)(o:ie w L u m.z.writes)(T:sE m)(l:m.dv=s.dv)(k:m.C3=s.id)(j:m.kind≠1)(i:m.kind≠2)(f:m.kind≠3)(d:m.kind≠4) :
  Calls Tryz.prog 56 #[.pointer (some ⟨g,0,none⟩),.agg #[.int .i64 m.kind,.int .i64 m.eP,.int .i64 m.C3,.int .i64 m.dv,.int .i64 m.n,.int .i64 m.z.kind,.int .i64 m.z.I,.int .i64 m.z.time,u]] w λe q=>e=.returned (.slice none 0 0)/\Mod dt w q:=by
 have r:=eC l;have t:=eC k;clear l k;obtain⟨O,W,w1,P,V,rfl,rfl,b,c,p,a,HU⟩:=EN h o;obtain⟨c0,c1,c2,Y,X⟩:=nJ a.Z;obtain⟨⟨N,M,K,J,H,G,F,E,D⟩,_⟩:=ix p;have C:=p.lt;have B:=a.Z.lt;have v:=c.size;have U:=a.few;have y:=a.st;have HN:=eC a;clear h o a;go_enter Tryz.func56,Tryz.ntmps56;go_upto_region 1 with fail;rw[<-b];clear b;have S:(m.kind==1)=false:=by simpa using j
 have R:(m.kind==2)=false:=by simpa using i
 have Q:(m.kind==3)=false:=by simpa using f
 have k4:(m.kind==4)=false:=by simpa using d
 have DO:(m.dv !=s.dv)=false:=by simp[r.out]
 have A:(m.C3 !=s.id)=false:=by simp[t.out]
 go_quiet (fail);go_upto_region 7 with fail;go_quiet (fail);go_upto_region 9 with fail;go_quiet (fail);go_wp2_with fail;go_ret;exact⟨rfl,by first|exact c.drewN _|exact(c.drewN _).drewN _|exact((c.drewN _).drewN _).drewN _|exact(((c.drewN _).drewN _).drewN _).drewN _⟩
theorem yNq(L:Lo)(g:Nat)(nv lv:Value)(s:ec)(m:eG)(u:Value)(w:World)(h:gI w L g nv lv s)(r:ie w L u m.z.writes)(jg:sE m)(q:m.dv=s.dv)(p:m.C3=s.id)(c:m.kind=1)(F:nR s (-1) m.eP=true) :
  Calls Tryz.prog 56 #[.pointer (some ⟨g,0,none⟩),.agg #[.int .i64 m.kind,.int .i64 m.eP,.int .i64 m.C3,.int .i64 m.dv,.int .i64 m.n,.int .i64 m.z.kind,.int .i64 m.z.I,.int .i64 m.z.time,u]] w λe j=>∃v,e=.returned v/\fF j L v (lY s (-1) (qh 2 s.M.length))/\mN w v/\Mod dt w j:=by
 have C:=eC q;have D:=eC p;have d:=eC c;clear q p c;obtain⟨ua,eI,w1,la,fQ,rfl,rfl,b,y,t,a,HU⟩:=EN h r;obtain⟨c0,c1,c2,c3,c4⟩:=nJ a.Z;obtain⟨⟨X,W,V,U,T,S,R,Q,P⟩,_⟩:=ix t;have O:=t.lt;have N:=a.Z.lt;have f:=y.size;have fy:=a.few;have E:=a.st;have B:=eC a;clear h r a;go_enter Tryz.func56,Tryz.ntmps56;go_upto_region 1 with fail;rw[<-b];clear b;have k1:(m.kind==1)=true:=by simp[d.out]
 have k2:(m.kind==2)=false:=by simp[d.out]
 have k3:(m.kind==3)=false:=by simp[d.out]
 have k4:(m.kind==4)=false:=by simp[d.out]
 have DO:(m.dv !=s.dv)=false:=by simp[C.out]
 have K:(m.C3 !=s.id)=false:=by simp[D.out]
 go_quiet (fail);have i:=EL L g nv _ s (-1) m.eP _ (B.out.drewN nq) (.inr rfl);rw[F]at i;have l:=eC i;clear i;go_wp2_with fail;refine l.out.mono ?_;rintro e w2⟨rfl,o,rfl⟩;have A:=eC (Qs L g nv _ s (-1) (qh 2 s.M.length) (.slice none 0 0) _ (B.out.drewN (nq+o)) (.inr rfl) (ie.nil _ _) (WJ _ _ (by simp[gi]) (by simp only[gi];omega)));clear l;go_wp2_with fail;refine A.out.mono ?_;rintro e Y⟨v,rfl,H,G,J⟩;clear A;go_wp2_with fail;go_ret;exact⟨v,rfl,H,λk c=>aO f (G k c),(y.drewN (nq+o)).trans J⟩
theorem yCe(L:Lo)(g:Nat)(nv lv:Value)(s:ec)(m:eG)(u:Value)(w:World)(h:gI w L g nv lv s)(l:ie w L u m.z.writes)(X:sE m)(k:m.dv=s.dv)(j:m.C3=s.id)(o:m.kind=1)(A:nR s (-1) m.eP=false) :
  Calls Tryz.prog 56 #[.pointer (some ⟨g,0,none⟩),.agg #[.int .i64 m.kind,.int .i64 m.eP,.int .i64 m.C3,.int .i64 m.dv,.int .i64 m.n,.int .i64 m.z.kind,.int .i64 m.z.I,.int .i64 m.z.time,u]] w λe q=>e=.returned (.slice none 0 0)/\Mod dt w q:=by
 have r:=eC k;have t:=eC j;have d:=eC o;clear k j o;obtain⟨R,eI,w1,T,fQ,rfl,rfl,b,c,p,a,HU⟩:=EN h l;obtain⟨c0,c1,c2,c3,c4⟩:=nJ a.Z;obtain⟨⟨P,O,N,M,K,J,H,G,F⟩,_⟩:=ix p;have E:=p.lt;have D:=a.Z.lt;have v:=c.size;have Y:=a.few;have y:=a.st;have B:=eC a;clear h l a;go_enter Tryz.func56,Tryz.ntmps56;go_upto_region 1 with fail;rw[<-b];clear b;have W:(m.kind==1)=true:=by simp[d.out]
 have V:(m.kind==2)=false:=by simp[d.out]
 have U:(m.kind==3)=false:=by simp[d.out]
 have k4:(m.kind==4)=false:=by simp[d.out]
 have DO:(m.dv !=s.dv)=false:=by simp[r.out]
 have C:(m.C3 !=s.id)=false:=by simp[t.out]
 go_quiet (fail);have f:=EL L g nv _ s (-1) m.eP _ (B.out.drewN nq) (.inr rfl);rw[A]at f;have i:=eC f;clear f;go_wp2_with fail;refine i.out.mono ?_;rintro e Q⟨rfl,S,rfl⟩;clear i;go_upto_region 7 with fail;go_quiet (fail);go_upto_region 9 with fail;go_quiet (fail);go_wp2_with fail;go_ret;exact⟨rfl,by first|exact c.drewN _|exact(c.drewN _).drewN _|exact((c.drewN _).drewN _).drewN _|exact(((c.drewN _).drewN _).drewN _).drewN _⟩
theorem yNt(L:Lo)(g:Nat)(nv lv:Value)(s:ec)(m:eG)(u:Value)(w:World)(h:gI w L g nv lv s)(y:ie w L u m.z.writes)(jg:sE m)(t:m.dv=s.dv)(r:m.C3=s.id)(d:m.kind=2)(A:nR s 1 m.eP=true)(j:0<=m.n) :
  Calls Tryz.prog 56 #[.pointer (some ⟨g,0,none⟩),.agg #[.int .i64 m.kind,.int .i64 m.eP,.int .i64 m.C3,.int .i64 m.dv,.int .i64 m.n,.int .i64 m.z.kind,.int .i64 m.z.I,.int .i64 m.z.time,u]] w λe o=>∃v,e=.returned v/\fF o L v (tr s m.n)/\mN w v/\Mod dt w o:=by
 have F:=eC t;have G:=eC r;have f:=eC d;clear t r d;obtain⟨ua,eI,w1,la,fQ,rfl,rfl,b,C,B,a,HU⟩:=EN h y;obtain⟨c0,c1,c2,c3,c4⟩:=nJ a.Z;obtain⟨⟨x0,x1,x2,Y,X,W,V,U,T⟩,_⟩:=ix B;have S:=B.lt;have R:=a.Z.lt;have i:=C.size;have fy:=a.few;have H:=a.st;have D:=eC a;clear h y a;go_enter Tryz.func56,Tryz.ntmps56;go_upto_region 1 with fail;rw[<-b];clear b;have k1:(m.kind==1)=false:=by simp[f.out]
 have k2:(m.kind==2)=true:=by simp[f.out]
 have k3:(m.kind==3)=false:=by simp[f.out]
 have k4:(m.kind==4)=false:=by simp[f.out]
 have c:=KK A;have P:Hid (tr s m.n=lq s m.eP m.n.toNat (s.M.length-m.n.toNat)):=by rw[Hid,tr,c]
 have hd:decide (m.n ≥ 0)=true:=aQ j;have K:decide (0<=m.n)=true:=aQ j;have DO:(m.dv !=s.dv)=false:=by simp[F.out]
 have Q:(m.C3 !=s.id)=false:=by simp[G.out]
 go_quiet (fail);have l:=EL L g nv _ s 1 m.eP _ (D.out.drewN nq) (.inl rfl);rw[A]at l;have p:=eC l;clear l;go_wp2_with fail;refine p.out.mono ?_;rintro e w2⟨rfl,q,rfl⟩;have E:=eC (zWo L g nv _ s m.eP m.n _ (D.out.drewN (nq+q)) c j);clear p;go_wp2_with fail;refine E.out.mono ?_;rintro e w3⟨v,rfl,N,J,O⟩;clear E;go_wp2_with fail;go_ret;exact⟨v,rfl,by rw[P.out];exact N,λk d=>aO i (J k d),(C.drewN (nq+q)).trans O⟩
theorem yCg(L:Lo)(g:Nat)(nv lv:Value)(s:ec)(m:eG)(u:Value)(w:World)(h:gI w L g nv lv s)(p:ie w L u m.z.writes)(jg:sE m)(o:m.dv=s.dv)(l:m.C3=s.id)(r:m.kind=2)(j:¬(nR s 1 m.eP=true/\0<=m.n)) :
  Calls Tryz.prog 56 #[.pointer (some ⟨g,0,none⟩),.agg #[.int .i64 m.kind,.int .i64 m.eP,.int .i64 m.C3,.int .i64 m.dv,.int .i64 m.n,.int .i64 m.z.kind,.int .i64 m.z.I,.int .i64 m.z.time,u]] w λe y=>e=.returned (.slice none 0 0)/\Mod dt w y:=by
 have A:=eC o;have B:=eC l;have i:=eC r;clear o l r;obtain⟨V,eI,w1,W,fQ,rfl,rfl,f,a,t,b,HU⟩:=EN h p;obtain⟨c0,c1,c2,c3,c4⟩:=nJ b.Z;obtain⟨⟨U,T,S,R,Q,P,O,N,M⟩,_⟩:=ix t;have K:=t.lt;have J:=b.Z.lt;have D:=a.size;have fy:=b.few;have E:=b.st;have G:=eC b;clear h p b;go_enter Tryz.func56,Tryz.ntmps56;go_upto_region 1 with fail;rw[<-f];clear f;have k1:(m.kind==1)=false:=by simp[i.out]
 have Y:(m.kind==2)=true:=by simp[i.out]
 have X:(m.kind==3)=false:=by simp[i.out]
 have k4:(m.kind==4)=false:=by simp[i.out]
 have DO:(m.dv !=s.dv)=false:=by simp[A.out]
 have H:(m.C3 !=s.id)=false:=by simp[B.out]
 go_quiet (fail);have c:=EL L g nv _ s 1 m.eP _ (G.out.drewN nq) (.inl rfl)
 cases k:nR s 1 m.eP with
|true=>
  have q:¬0<=m.n:=λe=>j ⟨k,e⟩;have hd:decide (m.n ≥ 0)=false:=aN q;have F:decide (0<=m.n)=false:=aN q;rw[k]at c;have d:=eC c;clear c;go_wp2_with fail;refine d.out.mono ?_;rintro e v⟨rfl,C,rfl⟩;clear d;go_upto_region 7 with fail;go_quiet (fail);go_upto_region 9 with fail;go_quiet (fail);go_wp2_with fail;go_ret;exact⟨rfl,by first|exact a.drewN _|exact(a.drewN _).drewN _|exact((a.drewN _).drewN _).drewN _|exact(((a.drewN _).drewN _).drewN _).drewN _⟩
|false=>
  rw[k]at c;have d:=eC c;clear c;go_wp2_with fail;refine d.out.mono ?_;rintro e v⟨rfl,C,rfl⟩;clear d;go_upto_region 7 with fail;go_quiet (fail);go_upto_region 9 with fail;go_quiet (fail);go_wp2_with fail;go_ret;exact⟨rfl,by first|exact a.drewN _|exact(a.drewN _).drewN _|exact((a.drewN _).drewN _).drewN _|exact(((a.drewN _).drewN _).drewN _).drewN _⟩
theorem ySi(L:Lo)(g:Nat)(nv lv:Value)(s:ec)(m:eG)(u:Value)(w:World)(h:gI w L g nv lv s)(U:ie w L u m.z.writes)(R:sE m)(T:m.dv=s.dv)(S:m.C3=s.id)(f:m.kind=3)(W:nR s (-1) m.eP=true)(V:m.n=s.M.length)(o:s.M.length<500) :
  Calls Tryz.prog 56 #[.pointer (some ⟨g,0,none⟩),.agg #[.int .i64 m.kind,.int .i64 m.eP,.int .i64 m.C3,.int .i64 m.dv,.int .i64 m.n,.int .i64 m.z.kind,.int .i64 m.z.I,.int .i64 m.z.time,u]] w λe a=>∃v Q,e=.returned v/\gI a L g nv Q (nc s m.z).1/\fF a L v (nc s m.z).2/\mN w v/\ik w lv Q/\Mod (iV g nv lv) w a:=by
 have Av:=eC V;clear V;have so:=eC T;have sB:=eC S;have t:=eC f;clear T S f;obtain⟨ua,eI,w1,la,fQ,rfl,rfl,l,B,r,i,HU⟩:=EN h U;obtain⟨c0,c1,c2,Y,X⟩:=nJ i.Z;obtain⟨⟨P,O,N,K,J,H,G,F,E⟩,_⟩:=ix r;have z1:=r.lt;have z2:=i.Z.lt;have hz1:=B.size;have fy:=i.few;have hst:=i.st;have HN:=eC i;clear h U i;go_enter Tryz.func56,Tryz.ntmps56;go_upto_region 1 with fail;rw[<-l];clear l;have k1:(m.kind==1)=false:=by simp[t.out]
 have k2:(m.kind==2)=false:=by simp[t.out]
 have k3:(m.kind==3)=true:=by simp[t.out]
 have k4:(m.kind==4)=false:=by simp[t.out]
 have hnn:(m.n==(s.M.length:Int))=true:=by simp[Av.out]
 have Ot:decide (s.M.length<500)=true:=aQ o;have DO:(m.dv !=s.dv)=false:=by simp[so.out]
 have zQ:(m.C3 !=s.id)=false:=by simp[sB.out]
 go_quiet (fail);have d:=HN.out.drewN nq;have p:=r.mod ((Mod.refl dt w1).drewN nq) id;have c:=B.drewN nq;have b:=HU.out.mod ((Mod.refl dt w1).drewN nq) (Qm.none _ _);obtain⟨w2,hw2⟩:∃q,q=w1.drewN nq:=⟨_,rfl⟩;rw[<-hw2]at d p c b⊢;clear hw2 c0 c1 c2 Y X P O N K J H G F E HN HU r B;obtain⟨c0,c1,c2,Y,X⟩:=nJ d.Z;obtain⟨⟨P,O,N,K,J,H,G,F,E⟩,_⟩:=ix p;have z3:=p.lt;have z4:=d.Z.lt;have j:=c.size;have D:Hid (∀n,Calls Tryz.prog 99 #[.pointer (some ⟨g,0,none⟩),.int .i64 (-1),.int .i64 m.eP] (w2.drewN n) λe a=>e=.returned (.bool true)/\∃k,a=(w2.drewN n).drewN k):=λn=>by have:=EL L g nv _ s (-1) m.eP _ (d.drewN n) (.inr rfl);rw[W]at this;exact this
 have C:Hid (∀n,Calls Tryz.prog 102 #[.pointer (some ⟨g,0,none⟩)] (w2.drewN n) λe a=>e=.returned (.bool (decide (s.M.length<500)))/\a=w2.drewN n):=λn=>Vp L g nv _ s _ (d.drewN n);rw[Ot]at C;go_upto_region 7 with fail;go_quiet (first
 |(go_at_call 99;refine A9 (D.out _))
 |(go_at_call 102;refine A8 (C.out _))
 |fail)
 have mb:=p.mod ((Mod.refl dt w2).drewN nq) id;obtain⟨⟨y0,y1,y2,y3,y4,y5,y6,y7,y8⟩,_⟩:=ix mb;have HG:=eC (yKq L g nv _ s m.z (.slice ua m.z.writes.length eI) (w2.drewN nq) (d.drewN nq) (LL W) o (b.mod ((Mod.refl dt w2).drewN nq) (Qm.none _ _)) ⟨R.1.2.2.2.2.2,R.2⟩);clear d b D C;go_wp2_with fail;refine HG.out.mono ?_;rintro e w3⟨v,y,rfl,sU,hR,hf,A,eK⟩;clear HG;go_wp2_with fail;go_ret;refine⟨v,y,rfl,sU,hR,λk f=>aO j (hf k f),?_,((c.drewN nq).mono (λ_ _ e=>e.elim)).trans eK⟩;obtain e|e:=A
 .exact .inl e
 .exact .inr (λk f=>aO j (e k f))
theorem yFz(L:Lo)(g:Nat)(nv lv:Value)(s:ec)(m:eG)(u:Value)(w:World)(h:gI w L g nv lv s)(R:ie w L u m.z.writes)(jg:sE m)(Q:m.dv=s.dv)(P:m.C3=s.id)(S:m.kind=3)(y:¬(nR s (-1) m.eP=true/\m.n=s.M.length/\s.M.length<500)) :
  Calls Tryz.prog 56 #[.pointer (some ⟨g,0,none⟩),.agg #[.int .i64 m.kind,.int .i64 m.eP,.int .i64 m.C3,.int .i64 m.dv,.int .i64 m.n,.int .i64 m.z.kind,.int .i64 m.z.I,.int .i64 m.z.time,u]] w λe b=>e=.returned (.slice none 0 0)/\Mod dt w b:=by
 have so:=eC Q;have sB:=eC P;have p:=eC S;clear Q P S;obtain⟨ua,eI,w1,la,fQ,rfl,rfl,f,C,o,d,Y⟩:=EN h R;obtain⟨X,W,V,U,T⟩:=nJ d.Z;obtain⟨⟨O,N,K,J,H,G,F,E,D⟩,_⟩:=ix o;have z1:=o.lt;have z2:=d.Z.lt;have hz1:=C.size;have fy:=d.few;have hst:=d.st;have HN:=eC d;clear h R d;go_enter Tryz.func56,Tryz.ntmps56;go_upto_region 1 with fail;rw[<-f];clear f;have k1:(m.kind==1)=false:=by simp[p.out]
 have k2:(m.kind==2)=false:=by simp[p.out]
 have k3:(m.kind==3)=true:=by simp[p.out]
 have k4:(m.kind==4)=false:=by simp[p.out]
 have DO:(m.dv !=s.dv)=false:=by simp[so.out]
 have zQ:(m.C3 !=s.id)=false:=by simp[sB.out]
 go_quiet (fail);have c:=HN.out.drewN nq;have r:=o.mod ((Mod.refl dt w1).drewN nq) id;have a:=C.drewN nq;have t:=Y.out.mod ((Mod.refl dt w1).drewN nq) (Qm.none _ _);obtain⟨w2,hw2⟩:∃q,q=w1.drewN nq:=⟨_,rfl⟩;rw[<-hw2]at c r a t⊢;clear hw2 X W V U T O N K J H G F E D HN Y o C;obtain⟨X,W,V,U,T⟩:=nJ c.Z;obtain⟨⟨O,N,K,J,H,G,F,E,D⟩,_⟩:=ix r;have z3:=r.lt;have z4:=c.Z.lt;have hz2:=a.size;go_upto_region 7 with fail
 cases B:nR s (-1) m.eP with
|false=>
  have l:Hid (∀n,Calls Tryz.prog 99 #[.pointer (some ⟨g,0,none⟩),.int .i64 (-1),.int .i64 m.eP] (w2.drewN n) λe b=>e=.returned (.bool false)/\∃k,b=(w2.drewN n).drewN k):=λn=>by have:=EL L g nv _ s (-1) m.eP _ (c.drewN n) (.inr rfl);rw[B]at this;exact this
  have j:Hid (∀n,Calls Tryz.prog 102 #[.pointer (some ⟨g,0,none⟩)] (w2.drewN n) λe b=>e=.returned (.bool (decide (s.M.length<500)))/\b=w2.drewN n):=λn=>Vp L g nv _ s _ (c.drewN n);go_quiet (first
  |(go_at_call 99;refine A9 (l.out _))
  |(go_at_call 102;refine A8 (j.out _))
  |fail)
  go_upto_region 9 with fail;go_quiet (fail);go_wp2_with fail;go_ret;exact⟨rfl,by first|exact a.drewN _|exact(a.drewN _).drewN _|exact((a.drewN _).drewN _).drewN _⟩
|true=>
  have l:Hid (∀n,Calls Tryz.prog 99 #[.pointer (some ⟨g,0,none⟩),.int .i64 (-1),.int .i64 m.eP] (w2.drewN n) λe b=>e=.returned (.bool true)/\∃k,b=(w2.drewN n).drewN k):=λn=>by have:=EL L g nv _ s (-1) m.eP _ (c.drewN n) (.inr rfl);rw[B]at this;exact this
  have j:Hid (∀n,Calls Tryz.prog 102 #[.pointer (some ⟨g,0,none⟩)] (w2.drewN n) λe b=>e=.returned (.bool (decide (s.M.length<500)))/\b=w2.drewN n):=λn=>Vp L g nv _ s _ (c.drewN n);by_cases i:m.n=s.M.length
  .have v:¬s.M.length<500:=λe=>y ⟨B,i,e⟩;have A:(m.n==(s.M.length:Int))=true:=by simp[i]
   have Ot:decide (s.M.length<500)=false:=aN v;rw[Ot]at j;have Av:=eC i;clear i;go_quiet (first
   |(go_at_call 99;refine A9 (l.out _))
   |(go_at_call 102;refine A8 (j.out _))
   |fail)
   go_upto_region 9 with fail;go_quiet (fail);go_wp2_with fail;go_ret;exact⟨rfl,by first|exact a.drewN _|exact(a.drewN _).drewN _|exact((a.drewN _).drewN _).drewN _⟩
  .have A:(m.n==(s.M.length:Int))=false:=by simpa using i
   go_quiet (first
   |(go_at_call 99;refine A9 (l.out _))
   |(go_at_call 102;refine A8 (j.out _))
   |fail)
   go_upto_region 9 with fail;go_quiet (fail);go_wp2_with fail;go_ret;exact⟨rfl,by first|exact a.drewN _|exact(a.drewN _).drewN _|exact((a.drewN _).drewN _).drewN _⟩
theorem yCf(L:Lo)(g:Nat)(nv lv:Value)(s:ec)(m:eG)(u:Value)(w:World)(h:gI w L g nv lv s)(hu:ie w L u m.z.writes)(jg:sE m)(jF:m.dv=s.dv)(jM:m.C3=s.id)(hk:m.kind=4)(S:¬(nR s 1 m.eP=true/\0<=m.n/\m.n<=s.M.length)) :
  Calls Tryz.prog 56 #[.pointer (some ⟨g,0,none⟩),.agg #[.int .i64 m.kind,.int .i64 m.eP,.int .i64 m.C3,.int .i64 m.dv,.int .i64 m.n,.int .i64 m.z.kind,.int .i64 m.z.I,.int .i64 m.z.time,u]] w λe d=>e=.returned (.slice none 0 0)/\Mod dt w d:=by
 have so:=eC jF;have sB:=eC jM;have P:=eC hk;clear jF jM hk;obtain⟨ua,eI,w1,la,fQ,rfl,rfl,i,W,G,c,HU⟩:=EN h hu;obtain⟨O,N,K,J,H⟩:=nJ c.Z;obtain⟨⟨F,E,D,C,B,A,y,v,t⟩,_⟩:=ix G;have z1:=G.lt;have z2:=c.Z.lt;have hz1:=W.size;have fy:=c.few;have hst:=c.st;have HN:=eC c;clear h hu c;go_enter Tryz.func56,Tryz.ntmps56;go_upto_region 1 with fail;rw[<-i];clear i;have k1:(m.kind==1)=false:=by simp[P.out]
 have k2:(m.kind==2)=false:=by simp[P.out]
 have k3:(m.kind==3)=false:=by simp[P.out]
 have k4:(m.kind==4)=true:=by simp[P.out]
 have DO:(m.dv !=s.dv)=false:=by simp[so.out]
 have zQ:(m.C3 !=s.id)=false:=by simp[sB.out]
 go_quiet (fail);have p:=HN.out.drewN nq;have f:=G.mod ((Mod.refl dt w1).drewN nq) id;have a:=W.drewN nq;have j:=HU.out.mod ((Mod.refl dt w1).drewN nq) (Qm.none _ _);obtain⟨w2,hw2⟩:∃q,q=w1.drewN nq:=⟨_,rfl⟩;rw[<-hw2]at p f a j⊢;clear hw2 O N K J H F E D C B A y v t HN HU G W;obtain⟨O,N,K,J,H⟩:=nJ p.Z;obtain⟨⟨F,E,D,C,B,A,y,v,t⟩,_⟩:=ix f;have Y:=f.lt;have X:=p.Z.lt;have R:=a.size;go_upto_region 7 with fail;go_quiet (fail);have o:=p.drewN nq;have Q:=f.mod ((Mod.refl dt w2).drewN nq) id;have b:=a.drewN nq;obtain⟨w3,hw3⟩:∃q,q=w2.drewN nq:=⟨_,rfl⟩;rw[<-hw3]at o Q b⊢;clear hw3 O N K J H F E D C B A y v t p f a j Y X R;obtain⟨O,N,K,J,H⟩:=nJ o.Z;obtain⟨⟨F,E,D,C,B,A,y,v,t⟩,_⟩:=ix Q;have Y:=Q.lt;have X:=o.Z.lt;have hz3:=b.size;go_upto_region 9 with fail
 cases U:nR s 1 m.eP with
|false=>
  have r:Hid (∀n,Calls Tryz.prog 99 #[.pointer (some ⟨g,0,none⟩),.int .i64 (1),.int .i64 m.eP] (w3.drewN n) λe d=>e=.returned (.bool false)/\∃k,d=(w3.drewN n).drewN k):=λn=>by have:=EL L g nv _ s (1) m.eP _ (o.drewN n) (.inl rfl);rw[U]at this;exact this
  go_quiet (first
  |(go_at_call 99;refine A9 (r.out _))
  |fail)
  go_wp2_with fail;go_ret;exact⟨rfl,by first|exact b.drewN _|exact(b.drewN _).drewN _⟩
|true=>
  have r:Hid (∀n,Calls Tryz.prog 99 #[.pointer (some ⟨g,0,none⟩),.int .i64 (1),.int .i64 m.eP] (w3.drewN n) λe d=>e=.returned (.bool true)/\∃k,d=(w3.drewN n).drewN k):=λn=>by have:=EL L g nv _ s (1) m.eP _ (o.drewN n) (.inl rfl);rw[U]at this;exact this
  by_cases l:0<=m.n
  .have V:decide (m.n ≥ 0)=true:=aQ l;have Th:decide (0<=m.n)=true:=aQ l;have T:¬m.n<=s.M.length:=λe=>S ⟨U,l,e⟩;have hd2:decide (m.n<=(s.M.length:Int))=false:=aN T;go_quiet (first
   |(go_at_call 99;refine A9 (r.out _))
   |fail)
   go_wp2_with fail;go_ret;exact⟨rfl,by first|exact b.drewN _|exact(b.drewN _).drewN _⟩
  .have V:decide (m.n ≥ 0)=false:=aN l;have Th:decide (0<=m.n)=false:=aN l;go_quiet (first
   |(go_at_call 99;refine A9 (r.out _))
   |fail)
   go_wp2_with fail;go_ret;exact⟨rfl,by first|exact b.drewN _|exact(b.drewN _).drewN _⟩
theorem yNr(L:Lo)(g:Nat)(nv lv:Value)(s:ec)(m:eG)(u:Value)(w:World)(h:gI w L g nv lv s)(hu:ie w L u m.z.writes)(jg:sE m)(jF:m.dv=s.dv)(jM:m.C3=s.id)(T:m.kind=4)(hi:nR s 1 m.eP=true)(hn:0<=m.n)(hle:m.n<=s.M.length) :
  Calls Tryz.prog 56 #[.pointer (some ⟨g,0,none⟩),.agg #[.int .i64 m.kind,.int .i64 m.eP,.int .i64 m.C3,.int .i64 m.dv,.int .i64 m.n,.int .i64 m.z.kind,.int .i64 m.z.I,.int .i64 m.z.time,u]] w λe H=>∃v,e=.returned v/\gI H L g nv lv (wE s m.n)/\fF H L v (lY (wE s m.n) (-1) (qh 4 (wE s m.n).iR))/\mN w v/\Mod (eQ g) w H:=by
 have so:=eC jF;have sB:=eC jM;have W:=eC T;clear jF jM T;obtain⟨ua,eI,w1,la,fQ,rfl,rfl,N,dy,U,B,HU⟩:=EN h hu;obtain⟨G,F,E,D,C⟩:=nJ B.Z;obtain⟨⟨r,p,o,l,j,i,f,d,c⟩,_⟩:=ix U;have z1:=U.lt;have z2:=B.Z.lt;have hz1:=dy.size;have fy:=B.few;have hst:=B.st;have HN:=eC B;clear h hu B;go_enter Tryz.func56,Tryz.ntmps56;go_upto_region 1 with fail;rw[<-N];clear N;have k1:(m.kind==1)=false:=by simp[W.out]
 have k2:(m.kind==2)=false:=by simp[W.out]
 have k3:(m.kind==3)=false:=by simp[W.out]
 have k4:(m.kind==4)=true:=by simp[W.out]
 have DO:(m.dv !=s.dv)=false:=by simp[so.out]
 have zQ:(m.C3 !=s.id)=false:=by simp[sB.out]
 go_quiet (fail);have P:=HN.out.drewN nq;have K:=U.mod ((Mod.refl dt w1).drewN nq) id;have a:=dy.drewN nq;have O:=HU.out.mod ((Mod.refl dt w1).drewN nq) (Qm.none _ _);obtain⟨w2,hw2⟩:∃q,q=w1.drewN nq:=⟨_,rfl⟩;rw[<-hw2]at P K a O⊢;clear hw2 G F E D C r p o l j i f d c HN HU U dy;obtain⟨G,F,E,D,C⟩:=nJ P.Z;obtain⟨⟨r,p,o,l,j,i,f,d,c⟩,_⟩:=ix K;have S:=K.lt;have R:=P.Z.lt;have hz2:=a.size;go_upto_region 7 with fail;go_quiet (fail);have A:=P.drewN nq;have J:=K.mod ((Mod.refl dt w2).drewN nq) id;have V:=a.drewN nq;obtain⟨w3,hw3⟩:∃q,q=w2.drewN nq:=⟨_,rfl⟩;rw[<-hw3]at A J V⊢;clear hw3 G F E D C r p o l j i f d c P K a O S R hz2;obtain⟨G,F,E,D,C⟩:=nJ A.Z;obtain⟨⟨r,p,o,l,j,i,f,d,c⟩,_⟩:=ix J;have S:=J.lt;have R:=A.Z.lt;have hz3:=V.size;go_upto_region 9 with fail;have yd:Hid (∀n,Calls Tryz.prog 99 #[.pointer (some ⟨g,0,none⟩),.int .i64 (1),.int .i64 m.eP] (w3.drewN n) λe H=>e=.returned (.bool true)/\∃k,H=(w3.drewN n).drewN k):=λn=>by have:=EL L g nv _ s (1) m.eP _ (A.drewN n) (.inl rfl);rw[hi]at this;exact this
 have hd1:decide (m.n ≥ 0)=true:=aQ hn;have Th:decide (0<=m.n)=true:=aQ hn;have hd2:decide (m.n<=(s.M.length:Int))=true:=aQ hle;go_quiet (first
 |(go_at_call 99;refine A9 (yd.out _))
 |fail)
 have y:=A.drewN nq;have b:=J.mod ((Mod.refl dt w3).drewN nq) id;have gw:=V.drewN nq;obtain⟨w4,hw4⟩:∃q,q=w3.drewN nq:=⟨_,rfl⟩;rw[<-hw4]at y b gw⊢;clear hw4 G F E D C r p o l j i f d c A J V S R yd;obtain⟨G,F,E,D,C⟩:=nJ y.Z;obtain⟨⟨r,p,o,l,j,i,f,d,c⟩,_⟩:=ix b;have f4:=y.Z.frozen 4;have S:=b.lt;have R:=y.Z.lt;have SJ:=gw.size;obtain⟨t,ht⟩:∃t,t=(if s.iR<m.n then m.n else s.iR):=⟨_,rfl⟩;have Ej:0<=t/\t<=s.M.length:=by rw[ht];split <;> omega
 have Q:Hid (wE s m.n=CJ s t):=by rw[Hid,wE,<-ht]
 obtain⟨Y,fA⟩:=y.zC t Ej;have X:=Y.quiet ((Mod.refl dt _).drew);have d4:=Y.Z.cell 4 rfl;simp only[CJ]at d4;have HS:=eC (Qs L g nv _ (CJ s t) (-1) (qh 4 t) (.slice none 0 0) _ X (.inr rfl) (ie.nil _ _) (WJ _ _ (by simp[gi]) (by simp only[gi];omega)));have YW:=eC X;have Ay:Hid (Mod (eQ g) w4 (w4.setCell ⟨g,4,none⟩ (.int .i64 t)).drew):=fA.drew;clear y Y X fA;go_upto_region 10 with fail;go_region;rw[<-ht];clear ht;go_wp2_with fail;refine HS.out.mono ?_;rintro e w6⟨v,rfl,hR,hf,gR⟩;clear HS;go_wp2_with fail;go_ret;refine⟨v,rfl,by rw[Q.out];exact YW.out.quiet gR,by rw[Q.out];exact hR,λk T=>aO SJ (by simpa using hf k T),((gw.mono (λ_ _ e=>e.elim)).trans Ay.out).trans (gR.mono (λ_ _ e=>e.elim))⟩
theorem ySj(L:Lo)(g:Nat)(nv lv:Value)(s:ec)(m:eG)(u:Value)(w:World)(h:gI w L g nv lv s)(y:ie w L u m.z.writes)(t:sE m) :
  Calls Tryz.prog 56 #[.pointer (some ⟨g,0,none⟩),.agg #[.int .i64 m.kind,.int .i64 m.eP,.int .i64 m.C3,.int .i64 m.dv,.int .i64 m.n,.int .i64 m.z.kind,.int .i64 m.z.I,.int .i64 m.z.time,u]] w λe l=>
   ∃v A,e=.returned v/\gI l L g nv A (gV s m).1/\fF l L v (gV s m).2/\mN w v/\ik w lv A/\Mod (iV g nv lv) w l:=by
 have nil:∀(P:gV s m=(s,[])) (e:Ending) (l:World),e=.returned (.slice none 0 0)/\Mod dt w l->∃v A,e=.returned v/\gI l L g nv A (gV s m).1/\fF l L v (gV s m).2/\mN w v/\ik w lv A/\Mod (iV g nv lv) w l:=by
  rintro P e l⟨rfl,B⟩;rw[P];exact⟨_,lv,rfl,h.quiet B,fF.nil _ _,λk J=>by simp[Value.ownBlock]at J,ik.refl _ _,B.mono (λ_ _ e=>e.elim)⟩
 have C:∀(E:List eG) (P:gV s m=(s,E)) (e:Ending) (l:World),(∃v,e=.returned v/\fF l L v E/\mN w v/\Mod dt w l)->∃v A,e=.returned v/\gI l L g nv A (gV s m).1/\fF l L v (gV s m).2/\mN w v/\ik w lv A/\Mod (iV g nv lv) w l:=by
  rintro E P e l⟨v,rfl,G,F,B⟩;rw[P];exact⟨v,lv,rfl,h.quiet B,G,F,ik.refl _ _,B.mono (λ_ _ e=>e.elim)⟩
 by_cases H:m.dv=s.dv/\m.C3=s.id
 .obtain⟨j,f⟩:=H;by_cases r:m.kind=1
  .cases D:nR s (-1) m.eP with
  |true=>exact(yNq L g nv lv s m u w h y t j f r D).mono (C _ (by simp[gV,j,f,r,D]))
  |false=>exact(yCe L g nv lv s m u w h y t j f r D).mono (nil (by simp[gV,j,f,r,D]))
  by_cases q:m.kind=2
  .by_cases d:nR s 1 m.eP=true/\0<=m.n
   .exact(yNt L g nv lv s m u w h y t j f q d.1 d.2).mono (C _ (by simp[gV,j,f,q,d]))
   .exact(yCg L g nv lv s m u w h y t j f q d).mono (nil (by simp[gV,j,f,q];intro a b;exact absurd ⟨a,b⟩ d))
  by_cases p:m.kind=3
  .by_cases d:nR s (-1) m.eP=true/\m.n=s.M.length/\s.M.length<500
   .have P:gV s m=nc s m.z:=by simp[gV,j,f,p,d]
    rw[P];exact ySi L g nv lv s m u w h y t j f p d.1 d.2.1 d.2.2
   .exact(yFz L g nv lv s m u w h y t j f p d).mono (nil (by simp[gV,j,f,p];intro a b c;exact absurd ⟨a,b,c⟩ d))
  by_cases o:m.kind=4
  .by_cases d:nR s 1 m.eP=true/\0<=m.n/\m.n<=s.M.length
   .have P:gV s m=(wE s m.n,lY (wE s m.n) (-1) (qh 4 (wE s m.n).iR)):=by simp[gV,j,f,o,d]
    rw[P];refine(yNr L g nv lv s m u w h y t j f o d.1 d.2.1 d.2.2).mono ?_;rintro e l⟨v,rfl,hN,G,F,B⟩;exact⟨v,lv,rfl,hN,G,F,ik.refl _ _,B.mono (λi _ e=>.inl e)⟩
   .exact(yCf L g nv lv s m u w h y t j f o d).mono (nil (by simp[gV,j,f,o];intro a b c;exact absurd ⟨a,b,c⟩ d))
  .exact(yNs L g nv lv s m u w h y t j f r q p o).mono (nil (by simp[gV,j,f,r,q,p,o]))
 .exact(ySh L g nv lv s m u w h y t H).mono (nil (by simp[gV];intro a b;exact absurd ⟨a,b⟩ H))
end Go.Proofs.YtmaiggbnceejiaaGreatDoor
namespace Go.Proofs.YtmaiggbnceejiaaGreatDoor
open Go.RowKit Go.Lib Go.Maps
theorem dx.setCells{g:Nat}{t:TypeId}:∀(b:List Value) (w:World) (a old c:List Value),dx w g (a++old++c) t->old.length=b.length->dx (w.setCells g a.length b) g (a++b++c) t
|[],w,a,old,c,h,d=>by
  have:old=[]:=aR d;subst this;exact h
|v::b,w,a,[],c,h,d=>by simp at d
|v::b,w,a,x::old,c,h,d=>by
  have f:=h.set a.length v;have e:((a++x::old++c).set a.length v)=(a++[v])++old++c:=by simp
  rw[e]at f;have:=dx.setCells b (w.setCell ⟨g,a.length,none⟩ v) (a++[v]) old c f (by simpa using d);simp only[aE,aW,bC]at this;rw[World.setCells];simpa using this
theorem Mod.setCells{g:Nat}:∀(a:List Value) (o:Nat) (w:World),Mod (eQ g) w (w.setCells g o a)
|[],_,_=>Mod.refl _ _
|v::a,o,w=>(Mod.eE g o v).trans (Mod.setCells a (o+1) (w.setCell ⟨g,o,none⟩ v))
theorem Wh:∀(a b:List eG) (d c:List Value),d.length=a.length->iW (a++b) (d++c)=iW a d++iW b c
|[],b,[],c,_=>by simp[iW]
|[],_,_::_,_,h=>by simp at h
|_::_,_,[],_,h=>by simp at h
|m::a,b,u::d,c,h=>by simp[iW,Wh a b d c (by simpa using h)]
def yu:List Value:=[.int .i64 0,.int .i64 0,.int .i64 0,.int .i64 0,.int .i64 0,.int .i64 0,.int .i64 0,.int .i64 0,.slice none 0 0]
theorem yTp(w:World):(zeroValue 112).run Tryz.prog w=.ok (.agg #[.int .i64 0,.int .i64 0,.int .i64 0,.int .i64 0,.int .i64 0,.int .i64 0,.int .i64 0,.int .i64 0,.slice none 0 0]) w:=by kernel_rfl
theorem yOm:∀v∈yu,v.oneCell'=true:=by
 intro v a;simp[yu]at a;obtain rfl|rfl:=a <;> rfl
theorem yBc(w:World)(d:TypeId)(b o c:Nat)(f:∀j,j<9->(w.cell? ⟨b,o+j,none⟩).isSome=true)(e:∀j,j<9->w.frozen? ⟨b,o+j,none⟩=false) :
  (Builtin.clear_ #[76] d #[.slice (some ⟨b,o,none⟩) 1 c]).run Tryz.prog w=.ok (.tuple #[]) (w.setCells b o yu):=by
 have a:=B3 (P:=Tryz.prog) b o yu 0 w (by simpa[yu]using f) (by simpa[yu]using e) yOm;simp only[bK]at a;have g:(Builtin.zeroCells (Value.agg #[.int .i64 0,.int .i64 0,.int .i64 0,.int .i64 0,.int .i64 0,.int .i64 0,.int .i64 0,.int .i64 0,.slice none 0 0]).cells 1).toList=yu:=by kernel_rfl
 simp[Builtin.clear_,run_underlying Tryz.underlying76,g,a]
theorem zTw{w:World}{e:Array Oper}{rest:List Oper}{o:Oper}{a:Act}{Q:Exit->Act->World->Prop}(f:o.guard=none)(s:Operand)
  (k:o.op=.call {callee:=.builtin .clear,args:=#[s],argTypes:=#[76]}) (b d n c:Nat) (g:a.eval s=.slice (some ⟨b,d,none⟩) n c) (l:n=1)
  (p:∀j,j<9->(w.cell? ⟨b,d+j,none⟩).isSome=true) (m:∀j,j<9->w.frozen? ⟨b,d+j,none⟩=false)
  (h:wpList Tryz.prog e Q rest (a.put o.dst (.tuple #[])) (w.setCells b d yu)):wpList Tryz.prog e Q (o::rest) a w:=by
 refine A2 f λK q=>?_;subst l;have i:=yBc w o.type b d c p m;unfold Oper.wp execOp;simp only[k,resolve,invoke,builtin,Sem.run_bind,Sem.run_pure,Result.andThen_ok,cD,bZ,cO,g,i];exact q _ _ h
theorem yKg:∀(ms:List eG) (us:List Value),us.length=ms.length->(∀(i:Nat) m u,ms[i]?=some m->us[i]?=some u->u.oneCell'=true)->∀x∈iW ms us,x.oneCell'=true
|[],_,_,_,x,a=>by simp[iW]at a
|_::_,[],h,_,_,_=>by simp at h
|m::ms,u::us,h,b,x,a=>by
  rw[iW]at a;rcases aM.1 a with a|a
  .have h0:=b 0 m u rfl rfl;simp[kG]at a;obtain rfl|rfl|rfl|rfl|rfl|rfl|rfl|rfl|rfl:=a
   .rfl
   .rfl
   .rfl
   .rfl
   .rfl
   .rfl
   .rfl
   .rfl
   .exact h0
  .exact yKg ms us (by simpa using h) (λi d c f e=>b (i+1) d c (by simpa using f) (by simpa using e)) x a
theorem yEh{α:Type}(A X R:List α)(k:Nat):A++X.take k++(X.drop k++R)=A++X++R:=by
 rw[aV,aV,<-aV (X.take k),ar]
theorem yNp(L:Lo)(a b:List eG)(m:eG)(v:Value)(w:World)(P:fF w L v (a++m::b))(hf:(a++m::b).length<=200) :
  Calls Tryz.prog 95 #[v,.int .i64 a.length,.int .i64 ((a.length:Int)+1)] w λe w'=>∃T,e=.returned T/\fF w' L T (a++b)/\T.ownBlock=v.ownBlock/\Mod (λx=>v.ownBlock=some x) w w':=by
 obtain⟨i0,hi,hz0,H,hz2⟩:=A3 Tryz.qk;obtain⟨F,mz,y,D,J⟩:=P;obtain⟨_,h0⟩|⟨g,cap,cur,rfl,Gl,hg,hcap,hcm,hcs,htk⟩:=y.2
 .simp at h0
 unfold maxLen at hcm;have C:(a++m::b).length=a.length+1+b.length:=by simp;omega
 rw[C]at hcap hf⊢;have hne:(((a.length:Int))==(a.length:Int)+1)=false:=by
  rw[bp];omega
 obtain⟨l,u,n,La,oK,hl2⟩:∃l u n,F=l++u::n/\l.length=a.length/\n.length=b.length:=by
  rw[C]at mz;have Y:a.length<F.length:=by omega
  refine⟨F.take a.length,F[a.length],F.drop (a.length+1),?_,by rw[af];omega,by rw[bT];omega⟩;rw[<-bw Y,ar]
 subst La;have f:iW (a++m::b) (l++u::n)=iW a l++(kG m u++iW b n):=by
  rw[Wh _ _ _ _ oK,iW]
 obtain⟨R,P⟩:∃R,cur.toList=iW a l++(kG m u++iW b n)++R:=by
  refine⟨cur.toList.drop ((a++m::b).length*9),?_⟩;rw[<-f,<-htk,ar]
 have V:=Ef a l oK;have G:=Ef b n hl2;have s:dx w g (iW a l++(kG m u++iW b n)++R) 112:=by
  rw[dx,<-P];exact hg
 have lR:(iW a l++(kG m u++iW b n)++R).length=cap*9:=by rw[<-P];simpa using hcs
 simp only[aE,V,G,show(kG m u).length=9 from rfl]at lR;obtain⟨A,hA⟩:∃A,A=iW a l:=⟨_,rfl⟩;obtain⟨M,hM⟩:∃M,M=kG m u:=⟨_,rfl⟩;obtain⟨B,hB⟩:∃B,B=iW b n:=⟨_,rfl⟩;rw[<-hA]at V s;rw[<-hB]at G s;rw[<-hM]at s;have lM:M.length=9:=by rw[hM];rfl
 have z:∀x∈B,x.oneCell'=true:=by
  rw[hB];refine yKg b n hl2 (λi E S Y h2=>?_);obtain⟨ua,eI,e,_⟩:=D (a.length+1+i) E S (by rw[aL (by omega),show a.length+1+i-a.length=i+1 by omega,cW];exact Y) (by rw[aL (by omega),oK,show a.length+1+i-a.length=i+1 by omega,cW];exact h2);rw[e];rfl
 have O:∀(j:Nat) x,B[j]?=some x->w.drew.cell? ((⟨g,(a.length+1)*9,none⟩:Addr).add j)=some x:=λj x p=>by
  rw[A1];exact s.cell _ (by
   rw[aV,aL (by omega),V,aV,aL (by omega),lM];have hj:=(aB.1 p).1;rw[aG (by omega)];rw[show(a.length+1)*9+j-a.length*9-9=j by omega];exact p)
 have d:∀j,j<B.length->(w.drew.cell? ⟨g,0+a.length*9+j,none⟩).isSome=true/\w.drew.frozen? ⟨g,0+a.length*9+j,none⟩=false:=λj hj=>by
  refine⟨?_,s.frozen _⟩;obtain⟨x,p⟩:∃x,(A++(M++B)++R)[0+a.length*9+j]?=some x:=⟨_,aA (by simp only[aE];omega)⟩;rw[show w.drew.cell? ⟨g,0+a.length*9+j,none⟩=some x from s.cell _ p];rfl
 have HB:=eC s;have KB:=eC O;have Uj:=eC d;have U:=eC z;have sa:=eC D;have ye:=eC J;have HA:=eC hA;have HBB:=eC hB;clear s O d z D J hg hcs htk y f P mz hA hM hB;have o:a.length+b.length<=cap:=by omega
 have hb1:a.length<=cap:=by omega
 have hb2:(a.length:Int)+1<=(a.length:Int)+1+(b.length:Int):=by omega
 have hb4:0<=(a.length:Int)+1:=by omega
 go_enter Tryz.func95,Tryz.ntmps95;go_upto_region 5 with fail;go_cut [0] (λv0 wc=>v0=.slice (some ⟨g,0,none⟩) (a.length+b.length) cap/\(∃c:List Value,c.length=9/\dx wc g (A++B++(c++R)) 112)/\Mod (eQ g) w wc)
 case first=>
  have HF:Hid ((∃c:List Value,c.length=9/\dx (w.drew.setCells g (a.length*9) B) g (A++B++(c++R)) 112)/\Mod (eQ g) w (w.drew.setCells g (a.length*9) B)):=by
   have e:a.length*9=A.length:=by omega
   rw[Hid,e];refine⟨⟨(M++B).drop B.length,by simp;omega,?_⟩,((Mod.refl (eQ g) w).drew).trans (Mod.setCells B A.length w.drew)⟩;have:=dx.setCells (g:=g) (t:=112) B w.drew A ((M++B).take B.length) ((M++B).drop B.length++R) (by
    have:=HB.out;rw[dx]at this⊢;rw[yEh];exact this) (by simp)
   exact this
  by_cases hc1:a.length+1<cap
  .have hb3:¬cap=a.length+1:=by omega
   go_region_law
    ((first
    |(refine step_append_room (by rfl) _ _ _ (by rfl) 112 i0 9 Tryz.underlying76 hi H g 0 a.length cap (by rfl) ⟨g,(a.length+1)*9,none⟩ b.length _ B (by rfl) G KB.out U.out o Uj.out ?_)
    |fail))
   all_goals
    go_wp2_with fail;go_meet
    case rel=>exact⟨rfl,HF.out⟩
  .obtain rfl:cap=a.length+1:=by omega
   obtain rfl:b=[]:=aR (by omega);have pV:(a.length:Int)<=(a.length:Int)+1:=by omega
   have UJ:B=[]:=aR G;have Q:Hid (∀(j:Nat) x,B[j]?=some x->w.drew.cell? ((⟨g,0,none⟩:Addr).add j)=some x):=λj x p=>by rw[UJ]at p;simp at p
   have HBN:=eC UJ;clear UJ
   go_region_law
    ((first
    |(refine step_append_room (by rfl) _ _ _ (by rfl) 112 i0 9 Tryz.underlying76 hi H g 0 a.length cap (by rfl) ⟨g,0,none⟩ 0 _ B (by rfl) G Q.out U.out o Uj.out ?_)
    |fail))
   all_goals
    go_wp2_with fail;go_meet
    case rel=>exact⟨rfl,by have:=HF.out;rw[show w.drew.setCells g (a.length*9) B=w.drew by rw[HBN.out];rfl]at this;exact this⟩
 case rest=>
  obtain⟨rfl,⟨c,W,Z⟩,oo⟩:=hcut;have N:∀j,j<9->(wc.cell? ⟨g,(a.length+b.length)*9+j,none⟩).isSome=true:=λj hj=>by
   obtain⟨x,p⟩:∃x,(A++B++(c++R))[(a.length+b.length)*9+j]?=some x:=⟨_,aA (by simp only[aE];omega)⟩;rw[show wc.cell? ⟨g,(a.length+b.length)*9+j,none⟩=some x from Z.cell _ p];rfl
  have K:∀j,j<9->wc.frozen? ⟨g,(a.length+b.length)*9+j,none⟩=false:=λj _=>Z.frozen _;have HCZ:=eC N;have HFZ:=eC K;have oe:(a.length:Int)+(b.length:Int)<=(a.length:Int)+1+(b.length:Int):=by omega
  have To:¬cap=a.length+b.length:=by omega
  clear N K KB Uj U;go_wp2_with (first
  |(refine zTw rfl _ rfl g ((a.length+b.length)*9) _ _ rfl (by omega) HCZ.out HFZ.out ?_)
  |fail)
  go_ret;have e:(a.length+b.length)*9=(A++B).length:=by rw[aE];omega
  have iT:dx (wc.setCells g ((a.length+b.length)*9) yu) g (A++B++yu++R) 112:=by
   rw[e];exact dx.setCells yu wc (A++B) c R (by rw[aV (A++B)];exact Z) (by rw[W];rfl)
  have ma:Mod (eQ g) w (wc.setCells g ((a.length+b.length)*9) yu):=oo.trans (Mod.setCells _ _ _);have hq:Qm w L (eQ g):=λk _ ek=>by
   simp only[eQ]at ek;subst ek;have:=HB.out;rw[dx]at this;rintro(e1|⟨⟨cur',fr,e1⟩,_⟩)
   .omega
   .rw[this]at e1;simp at e1
  refine⟨_,rfl,⟨l++n,by simp[oK,hl2],⟨?_,.inr ⟨g,cap,(A++B++yu++R).toArray,by simp,Gl,iT,by simp;omega,by unfold maxLen;omega,?_,?_⟩⟩,?_,?_⟩,rfl,ma.mono (λi _ ei=>by simp only[eQ]at ei;rw[ei];rfl)⟩
  .rw[Ef _ _ (by simp[oK,hl2])]
  .simp only[bE,aE,show yu.length=9 from rfl];omega
  .rw[Wh _ _ _ _ oK,<-HA.out,<-HBB.out,aE,e,aV (A++B),db]
  .intro i E S r q;refine ie.mod ?_ ma hq;by_cases I:i<a.length
   .rw[aG I]at r;rw[aG (by omega)]at q;exact sa.out i E S (by rw[aG I];exact r) (by rw[aG (by omega)];exact q)
   .rw[aL (by omega)]at r q;refine sa.out (i+1) E S ?_ ?_
    .rw[aL (by omega),show i+1-a.length=i-a.length+1 by omega,cW];exact r
    .rw[aL (by omega),show i+1-l.length=i-l.length+1 by omega,cW];exact q
  .intro E X;refine ye.out E ?_;rcases aM.1 X with h|h
   .exact aM.2 (.inl h)
   .exact aM.2 (.inr (bH _ h))
variable {E:Ext}
def RU(s:fS)(k:Nat):fS:=⟨s.way.eraseIdx k,s.lost,s.down⟩
theorem yUd{α:Type}{l:List α}{k:Nat}{x:α}(h:l[k]?=some x):∃a b,l=a++x::b/\a.length=k/\l.eraseIdx k=a++b:=by
 have c:k<l.length:=(aB.1 h).1;refine⟨l.take k,l.drop (k+1),?_,by rw[af];omega,by rw[List.eraseIdx_eq_take_drop_succ]⟩;rw[aA c]at h;simp at h;rw[<-h,<-bw c,ar]
theorem gA.Iy{w a:World}{L:Lo}{g:Nat}{wv c:Value}{d:Option Nat}{s:fS}{ms:List eG}(h:gA E w L g wv d s)(f:Mod (λk=>wv.ownBlock=some k) w a)(r:fF a L c ms)(o:c.ownBlock=wv.ownBlock)(q:ms.length<=200) :
  gA E (a.setCell ⟨g,2,none⟩ c) L g c d ⟨ms,s.lost,s.down⟩/\Mod (oE g wv d) w (a.setCell ⟨g,2,none⟩ c):=by
 obtain⟨n,v,u⟩:=h.apart;have m:dx a g [E.a0,E.a1,wv,.int .i64 s.lost,.map d,E.a5,E.a6] 84:=h.Z.mod f n;have l:=m;simp only[dx]at l;have j:Mod (eQ g) a (a.setCell ⟨g,2,none⟩ c):=Mod.eE g 2 _;have x:Qm a L (eQ g):=λk _ e=>by
  simp only[eQ]at e;subst e;rintro(e|⟨⟨t,y,e⟩,_⟩)
  .have:=h.low;omega
  .rw[l]at e;simp at e
 refine⟨⟨m.set 2 _,h.low,r.mod j x (λk b e=>n (by rw[<-o,b,e])),(h.dn.mod f (λk b e=>u k e b)).mod j (λk b e=>v (by rw[b,e])),q,h.lo,λk b=>aJ (h.xb k b) (aO f.size j.size)⟩,?_⟩;exact(f.mono (λi _ e=>.inr (.inl e))).setCell (p:=⟨g,2,none⟩) (λ_=>.inl rfl) _
theorem yJr(L:Lo)(g:Nat)(wv:Value)(y:Option Nat)(s:fS)(k:Nat)(m:eG)(w:World)(h:gA E w L g wv y s)(T:s.way[k]?=some m) :
  Calls Tryz.prog 54 #[.pointer (some ⟨g,2,none⟩),.int .i64 k] w λe A=>∃jA u,e=.returned (.tuple #[wT m u,.nilIface])/\gA E A L g jA y (RU s k)/\ie A L u m.z.writes/\jA.ownBlock=wv.ownBlock/\Mod (oE g wv y) w A:=by
 have hk:k<s.way.length:=(aB.1 T).1;have fy:=h.few;have N:Hid (Calls Tryz.prog 94 #[.pointer (some ⟨g,2,none⟩),.int .i64 k] (w.alloc (.cells #[.int .i64 0,.int .i64 0,.int .i64 0,.int .i64 0,.int .i64 0,.int .i64 0,.int .i64 0,.int .i64 0,.slice none 0 0] 112)) λe A=>e=.returned (.bool (hasB s k))/\A=(w.alloc (.cells #[.int .i64 0,.int .i64 0,.int .i64 0,.int .i64 0,.int .i64 0,.int .i64 0,.int .i64 0,.int .i64 0,.slice none 0 0] 112))):=QX L g wv y s k _ (h.mod ((Mod.refl dt w).alloc _) (Qm.none _ _) (λ_ _=>id));have TX:hasB s k=true:=by simp[hasB];omega
 rw[TX]at N;obtain⟨w0,hw0⟩:∃q,q=w.alloc (.cells #[.int .i64 0,.int .i64 0,.int .i64 0,.int .i64 0,.int .i64 0,.int .i64 0,.int .i64 0,.int .i64 0,.slice none 0 0] 112):=⟨_,rfl⟩;have d:Mod dt w w0:=by rw[hw0];exact(Mod.refl _ w).alloc _
 have H:dx w0 w.heap.size [.int .i64 0,.int .i64 0,.int .i64 0,.int .i64 0,.int .i64 0,.int .i64 0,.int .i64 0,.int .i64 0,.slice none 0 0] 112:=by rw[hw0];exact dx.new w _ _
 have h0:=h.mod d (Qm.none _ _) (λ_ _=>id);rw[<-hw0]at N;go_enter Tryz.func54,Tryz.ntmps54;go_wp2_with fail;rw[<-hw0];clear hw0 TX;refine N.out.mono ?_;rintro e w1⟨rfl,Q⟩;subst Q;clear N;obtain⟨b,Ap,u,hv,hcb,hcm,S,jg,q0,q1,q2,q3,q4,q5,q6,q7,q8⟩:=h0.row.at T;subst hv;have c0:=h0.Z.cell 2 rfl;obtain⟨l,v,rfl⟩:∃l v,u=.slice l m.z.writes.length v:=by obtain⟨l,v,h,_⟩:=S;exact⟨l,v,h⟩
 obtain⟨m1,m2,r,oK,D⟩:=yUd T;have Jb:fF w1 L (.slice (some ⟨b,0,none⟩) s.way.length Ap) (m1++m::m2):=by rw[<-r];exact h0.row
 have xE:=h0.Z.lt;obtain⟨w2,hw2⟩:∃q,q=w1.alloc (.cells #[.int .i64 m.kind,.int .i64 m.eP,.int .i64 m.C3,.int .i64 m.dv,.int .i64 m.n,.int .i64 m.z.kind,.int .i64 m.z.I,.int .i64 m.z.time,.slice l m.z.writes.length v] 112):=⟨_,rfl⟩;have a:Mod dt w1 w2:=by rw[hw2];exact(Mod.refl _ w1).alloc _
 have iT:dx w2 w1.heap.size (kG m (.slice l m.z.writes.length v)) 112:=by rw[hw2];exact dx.new w1 _ _
 have f:=h0.mod a (Qm.none _ _) (λ_ _=>id);have c2:=f.Z.cell 2 rfl;have f2:=f.Z.frozen 2;have U:=yNp L m1 m2 m _ w2 (Jb.mod a (Qm.none _ _) (λ_ _=>id)) (by rw[<-r];exact fy);rw[oK]at U;have HD:=eC U;have HER:=eC D;clear U D r Jb;go_wp2_with fail;rw[<-hw2];refine HD.out.mono ?_;rintro e M⟨v3,rfl,P,o,j⟩;rw[<-HER.out]at P;have O:=f.apart;have R:=f.Iy j P o (by rw[List.length_eraseIdx];split <;> omega);have c3:=j.cell c2 O.1;have f3:=(j.frozen (p:=⟨g,2,none⟩) f.Z.lt O.1).trans f2;have B:=((S.mod a (Qm.none _ _)).mod j (Qm.np f (λk _ e=>.inr (.inl e))));have hbl:b<w.heap.size:=(h.lt (.inr (.inl rfl))).2.1;have hz1:=d.size;have J:=iT.mod j (λe=>by simp[Value.ownBlock]at e;omega);have G:=(H.mod a id).mod j (λe=>by simp[Value.ownBlock]at e;omega);have hgw:g<w.heap.size:=h.Z.lt;have MX:=J.mod (Mod.eE (w:=M) g 2 v3) (λe=>by simp only[eQ]at e;omega);have t:=G.mod (Mod.eE (w:=M) g 2 v3) (λe=>by simp only[eQ]at e;omega);obtain⟨⟨p0,p1,p2,p3,p4,p5,p6,p7,p8⟩,_⟩:=ix MX;obtain⟨⟨z0,z1,z2,z3,z4,z5,z6,z7,z8⟩,⟨y0,y1,y2,y3,y4,y5,y6,y7,y8⟩⟩:=ix t;obtain⟨W,X,LY⟩:=P.slice;subst LY;have K:=eC R;have HM:=eC ((d.trans a).mono (G':=oE g (.slice (some ⟨b,0,none⟩) s.way.length Ap) y) (λ_ _ e=>e.elim));have Y:=eC (B.mod (Mod.eE (w:=M) g 2 (.slice W (s.way.eraseIdx k).length X)) (λx c e=>by
  simp only[eQ]at e;subst e;have F:=f.Z.mod j O.1;simp only[dx]at F;rintro(e|⟨⟨V,fr,e⟩,_⟩)
  .have:=h.low;omega
  .rw[F]at e;simp at e))
 have YN:=eC o;have HMR:Hid (∀k,y=some k->k<w.heap.size):=λk hk=>(h.lt (.inr (.inr hk))).2.1;have kt:=h.low;clear R j B J G P iT a d f HD H h0 S h q0 q1 q2 q3 q4 q5 q6 q7 q8 c0 c2 f2 O o;go_wp2_with fail;have C:Qm (M.setCell ⟨g,2,none⟩ (.slice W (s.way.eraseIdx k).length X)) L (eQ w.heap.size):=λx c e=>by
  simp only[eQ]at e;subst e;have F:=t;simp only[dx]at F;rintro(e|⟨⟨V,fr,e⟩,_⟩)
  .omega
  .rw[F]at e;simp at e
 refine A5 (Ed Tryz.results54 _ ⟨w.heap.size,0,none⟩ rfl rfl (yKa t _ _ _ _ _ _ _ _ _)) rfl ⟨.slice W (s.way.eraseIdx k).length X,.slice l m.z.writes.length v,rfl,?_,?_,YN.out,?_⟩
 .refine K.out.1.mod (Qy _ _ _ _ _ _ _ _ _ _ _) C (λx c e=>?_);simp only[eQ]at e;obtain c|c|c:=c
  .omega
  .rw[YN.out]at c;simp[Value.ownBlock]at c;omega
  .have:=HMR.out x c;omega
 .exact Y.out.mod (Qy _ _ _ _ _ _ _ _ _ _ _) C
 .exact(HM.out.trans K.out.2).trans' (Qy _ _ _ _ _ _ _ _ _ _ _) (λi hi e=>by simp only[eQ]at e;omega)
theorem yXs(L:Lo)(g:Nat)(wv:Value)(a:Option Nat)(s:fS)(k:Int)(w:World)(h:gA E w L g wv a s)(b:hasB s k=false) :
  Calls Tryz.prog 54 #[.pointer (some ⟨g,2,none⟩),.int .i64 k] w λe d=>e=.returned (.tuple #[wT yOl (.slice none 0 0),.iface 90 (.int .i64 2)])/\Mod dt w d:=by
 have c:=eC (QX L g wv a s k _ (h.mod ((Mod.refl dt w).alloc (.cells #[.int .i64 0,.int .i64 0,.int .i64 0,.int .i64 0,.int .i64 0,.int .i64 0,.int .i64 0,.int .i64 0,.slice none 0 0] 112)) (Qm.none _ _) (λ_ _=>id)));rw[b]at c;clear h b;go_enter Tryz.func54,Tryz.ntmps54;go_wp2_with fail;refine c.out.mono ?_;rintro e w1⟨rfl,rfl⟩;go_wp2_with fail;refine A5 (Ed Tryz.results54 _ ⟨w.heap.size,0,none⟩ rfl rfl (yBu (dx.new w _ _))) rfl ⟨rfl,(Mod.refl _ w).alloc _⟩
end Go.Proofs.YtmaiggbnceejiaaGreatDoor
namespace Go.Proofs.YtmaiggbnceejiaaGreatDoor
open Go.RowKit Go.Lib Go.Maps
variable {E:Ext}
def Wj(s:fS)(k:Nat):fS:=⟨s.way.eraseIdx k,s.lost+1,s.down⟩
theorem Mod.net1{w w1 b:World}{g:Nat}{v c:Value}{a:Option Nat}(h:Mod (oE g v a) w w1)(d:c.ownBlock=v.ownBlock)(k:Mod (oE g c a) w1 b):Mod (oE g v a) w b:=h.J (.inl d) k
theorem yVk(L:Lo)(g:Nat)(wv:Value)(f:Option Nat)(s:fS)(k:Nat)(m:eG)(w:World)(h:gA E w L g wv f s)(q:s.way[k]?=some m)(r:s.lost+1<=4611686018427387904) :
  Calls Tryz.prog 57 #[.pointer (some ⟨g,2,none⟩),.int .i64 k] w λe j=>∃l,e=.returned .nilIface/\gA E j L g l f (Wj s k)/\l.ownBlock=wv.ownBlock/\Mod (oE g wv f) w j:=by
 have o:=eC (yJr L g wv f s k m w h q);have t:=h.lo;clear h;go_enter Tryz.func57,Tryz.ntmps57;go_wp2_with fail;refine o.out.mono ?_;rintro e w1⟨x,u,rfl,b,c,a,n⟩;simp only[wT];obtain⟨d,i,rfl⟩:∃d i,u=.slice d m.z.writes.length i:=by obtain⟨d,i,h,_⟩:=c;exact⟨d,i,h⟩
 have v:=b.Z.cell 3 rfl;have B:=b.Z.lt;have C:=b.Z.frozen 3;have p:=eC (b.loses (s.lost+1) (by omega));have y:=eC a;have A:=eC (Mod.net1 n a p.out.2);simp only[RU]at v;clear b c n o a;go_wp2_with fail;go_ret;exact⟨x,rfl,p.out.1.mod ((Mod.refl dt _).alloc _) (Qm.none _ _) (λ_ _=>id),y.out,A.out.alloc _⟩
theorem yYe(L:Lo)(g:Nat)(wv:Value)(a:Option Nat)(s:fS)(k:Int)(w:World)(h:gA E w L g wv a s)(b:hasB s k=false) :
  Calls Tryz.prog 57 #[.pointer (some ⟨g,2,none⟩),.int .i64 k] w λe c=>e=.returned (.iface 90 (.int .i64 2))/\Mod dt w c:=by
 have f:=eC (yXs L g wv a s k w h b);clear h b;go_enter Tryz.func57,Tryz.ntmps57;go_wp2_with fail;refine f.out.mono ?_;rintro e w1⟨rfl,d⟩;simp only[wT];go_wp2_with fail;go_ret;exact⟨rfl,d.alloc _⟩
theorem yTv(L:Lo)(g:Nat)(wv:Value)(a:Option Nat)(s:fS)(k:Int)(w:World)(h:gA E w L g wv a s)(b:hasB s k=false) :
  Calls Tryz.prog 58 #[.pointer (some ⟨g,2,none⟩),.int .i64 k] w λe d=>e=.returned (.iface 90 (.int .i64 2))/\Mod dt w d:=by
 have c:=eC (QX L g wv a s k w h);rw[b]at c;clear h b;go_enter Tryz.func58,Tryz.ntmps58;go_wp2_with fail;refine c.out.mono ?_;rintro e w1⟨rfl,rfl⟩;go_wp2_with fail;go_ret;exact⟨rfl,Mod.refl _ _⟩
theorem yLp(L:Lo)(g:Nat)(wv:Value)(a:Option Nat)(s:fS)(k:Int)(w:World)(h:gA E w L g wv a s)(f:hasB s k=true)(d:¬s.way.length<200) :
  Calls Tryz.prog 58 #[.pointer (some ⟨g,2,none⟩),.int .i64 k] w λe l=>e=.returned (.iface 90 (.int .i64 4))/\Mod dt w l:=by
 have i:=eC (QX L g wv a s k w h);rw[f]at i;have j:=eC (yBg L g wv a s w h);rw[aN d]at j;clear h f d;go_enter Tryz.func58,Tryz.ntmps58;go_wp2_with fail;refine i.out.mono ?_;rintro e w1⟨rfl,c⟩;subst c;go_wp2_with fail;refine j.out.mono ?_;rintro e m⟨rfl,b⟩;subst b;go_wp2_with fail;go_ret;exact⟨rfl,Mod.refl _ _⟩
theorem yOy(L:Lo)(g:Nat)(wv:Value)(f:Option Nat)(s:fS)(k:Nat)(m:eG)(w:World)(h:gA E w L g wv f s)(D:s.way[k]?=some m)(P:s.way.length<200)(y:s.lost+1<=4611686018427387904) :
  Calls Tryz.prog 58 #[.pointer (some ⟨g,2,none⟩),.int .i64 k] w λe B=>∃C,e=.returned .nilIface/\gA E B L g C f (lC s m)/\ik w wv C/\Mod (oE g wv f) w B:=by
 have hk:k<s.way.length:=(aB.1 D).1;have H:=eC (QX L g wv f s k w h);have G:hasB s k=true:=by simp[hasB];omega
 rw[G]at H;have J:=eC (yBg L g wv f s w h);rw[aQ P]at J;clear G;obtain⟨b,Ap,u,O,R,Q,v,N,q0,q1,q2,q3,q4,q5,Y,X,W⟩:=h.row.at D;subst O;have c0:=h.Z.cell 2 rfl;obtain⟨a,d,rfl⟩:∃a d,u=.slice a m.z.writes.length d:=by obtain⟨a,d,h,_⟩:=v;exact⟨a,d,h⟩
 have A:Mod dt w (w.alloc (.cells #[.int .i64 m.kind,.int .i64 m.eP,.int .i64 m.C3,.int .i64 m.dv,.int .i64 m.n,.int .i64 m.z.kind,.int .i64 m.z.I,.int .i64 m.z.time,.slice a m.z.writes.length d] 112)):=(Mod.refl _ w).alloc _;have F:=dx.new w (kG m (.slice a m.z.writes.length d)) 112;have o:Ke (w.alloc (.cells #[.int .i64 m.kind,.int .i64 m.eP,.int .i64 m.C3,.int .i64 m.dv,.int .i64 m.n,.int .i64 m.z.kind,.int .i64 m.z.I,.int .i64 m.z.time,.slice a m.z.writes.length d] 112)) L (λx=>x=w.heap.size) (.slice (some ⟨w.heap.size,0,none⟩) 1 1) [m]:=by
  refine⟨_,_,rfl,aD _,by unfold maxLen;omega,.inr ⟨w.heap.size,0,rfl,rfl,λi M c=>?_⟩⟩;have e:i=0/\M=m:=by
   cases i with
  |zero=>simp at c;exact⟨rfl,c.symm⟩
  |succ i=>simp at c
  obtain⟨rfl,rfl⟩:=e;exact⟨_,v.mod A (Qm.none _ _),N,λj x l=>by
   rw[show 0+0*9+j=j by omega];exact F.cell j l⟩
 have T:=eC (yJu L g _ f s _ _ [m] _ (h.mod A (Qm.none _ _) (λ_ _=>id)) o (λx l=>⟨by subst l;simp,λe=>by
  have:=(h.lt e).2.1;omega⟩) (by simpa using y))
 clear h o F v;go_enter Tryz.func58,Tryz.ntmps58;go_wp2_with fail;refine H.out.mono ?_;rintro e w1⟨rfl,r⟩;subst r;go_wp2_with fail;refine J.out.mono ?_;rintro e V⟨rfl,q⟩;subst q;go_wp2_with fail;refine T.out.mono ?_;rintro e U⟨p,rfl,K,t,S⟩;go_wp2_with fail;go_ret;refine⟨p,rfl,K,?_,(A.mono (λ_ _ e=>e.elim)).trans S⟩;obtain e|e:=t
 .exact .inl e
 .exact .inr (λx l=>by have:=e x l;simp at this;omega)
end Go.Proofs.YtmaiggbnceejiaaGreatDoor
namespace Go.Proofs.YtmaiggbnceejiaaGreatDoor
open Go.RowKit Go.Lib Go.Maps
variable {E:Ext}
structure yl(w:World)(L:Lo)(g q:Nat)(mr:Option Nat)(ds:List Int):Prop where
 box:w.cell? ⟨q,0,none⟩=some (.pointer (some ⟨g,2,none⟩))
 fld:w.cell? ⟨g,4,none⟩=some (.map mr)
 dn:qy w L mr ds
theorem yl.mod{G:Nat->Prop}{w w':World}{L:Lo}{g q:Nat}{a:Option Nat}{c:List Int}(h:yl w L g q a c)(b:Mod G w w')(e:¬G q)(f:¬G g)(d:∀k,a=some k->¬G k):yl w' L g q a c:=
 ⟨b.cell h.box e,b.cell h.fld f,h.dn.mod b d⟩
theorem yl.call{w:World}{L:Lo}{g q:Nat}{b:Option Nat}{a:List Int}(h:yl w L g q b a)(m:eG)(u:Value)(d:yYh m) :
  Calls Tryz.prog 131 #[.agg #[.int .i64 m.kind,.int .i64 m.eP,.int .i64 m.C3,.int .i64 m.dv,.int .i64 m.n,.int .i64 m.z.kind,.int .i64 m.z.I,.int .i64 m.z.time,u],.pointer (some ⟨q,0,none⟩)] w λe c=>e=.returned (.bool (rF a m))/\Mod dt w c:=
 zUy g q L m u b a w h.box h.fld h.dn d
def zv(a:List Int):List eG->Option Nat
|[]=>none
|m::b=>if rF a m then some 0 else(zv a b).map (·+1)
theorem yFm(a:List Int):∀(ms:List eG) (k:Nat),(∀i m,i<k->ms[i]?=some m->rF a m=false)->∀m,ms[k]?=some m->rF a m=true->zv a ms=some k
|[],_,_,m,h,_=>by simp at h
|c::ms,0,_,m,h,b=>by simp at h;subst h;simp[zv,b]
|c::ms,k+1,d,m,h,b=>by
  have h0:=d 0 c (by omega) rfl;have:=yFm a ms k (λi m f e=>d (i+1) m (by omega) (by simpa using e)) m (by simpa using h) b;simp[zv,h0,this]
theorem zWw(a:List Int):∀(ms:List eG),(∀(i:Nat) m,ms[i]?=some m->rF a m=false)->zv a ms=none
|[],_=>rfl
|m::ms,h=>by
  have h0:=h 0 m rfl;simp[zv,h0,zWw a ms (λi m b=>h (i+1) m (by simpa using b))]
def yRw(o:Option Nat):Int:=match o with|none=>-1|some k=>k
theorem yRg(L:Lo)(g q:Nat)(M:Option Nat)(d:List Int)(v:Value)(ms:List eG)(w:World)(y:fF w L v ms)(hA:yl w L g q M d)(V:ms.length<=200) :
  Calls Tryz.prog 164 #[v,.func (.func 131) #[] #[.pointer (some ⟨q,0,none⟩)]] w λe A=>e=.returned (.int .i64 (yRw (zv d ms)))/\Mod dt w A:=by
 obtain⟨S,W,j⟩:=y.slice;subst j;go_enter Tryz.func164,Tryz.ntmps164;go_wp2_with fail;go_loopw [8] (λi wr=>∃k:Nat,k<=ms.length/\i=.int .i64 k/\(∀i m,i<k->ms[i]?=some m->rF d m=false)/\Mod dt w wr) (λi _=>ms.length-(intOf i).toNat)
 case atStart=>exact⟨0,aT _,rfl,λi m h=>by omega,Mod.refl _ _⟩
 case round=>
  obtain⟨k,U,rfl,f,l⟩:=hrel;have n:=eC f;clear f;by_cases o:k<ms.length
  .obtain⟨m,c⟩:∃m,ms[k]?=some m:=⟨_,aA o⟩;obtain⟨b,X,u,j,_,_,T,O,K,J,I,H,G,F,D,C,B⟩:=(y.mod l (Qm.none _ _) (λ_ _=>id)).at c;simp only[Value.slice.injEq]at j;obtain⟨rfl,_,rfl⟩:=j;have z:=eC ((hA.mod l id id (λ_ _=>id)).call m u O.1);have t:=eC c;clear c;go_wp2_with fail;refine z.out.mono ?_;rintro e R⟨rfl,Q⟩;have s:=l.trans Q;clear z K J I H G F D C B
   cases x:rF d m with
  |true=>
    have r:=eC (yFm d ms k n.out m t.out x);go_wp2_with fail;go_ret;exact⟨by rw[r.out];rfl,s⟩
  |false=>
    go_wp2_with fail;go_roundw
    case rel=>
     refine⟨k+1,by omega,by go_num,λi N P a=>?_,s⟩;by_cases p:i<k
     .exact n.out i N p a
     .obtain rfl:i=k:=by omega
      rw[t.out]at a;cases a;exact x
    case measure=>simp[intOf];omega
  .have r:=eC (zWw d ms (λi m c=>n.out i m (by have:=(aB.1 c).1;omega) c));go_wp2_with fail;go_ret;exact⟨by rw[r.out];rfl,l⟩
