import Derived.Test.YtmaiggbnceejiaaGreatDoorS22
import Derived.Test.YtmaiggbnceejiaaGreatDoorS20
set_option linter.unusedVariables false
set_option maxRecDepth 100000
set_option maxHeartbeats 16000000
namespace Go.Proofs.YtmaiggbnceejiaaGreatDoor
open Go.RowKit Go.Lib Go.Maps
def ql(m:dw):Nat:=if m.kind=1 then 602 else if m.kind=2 then 601 else if m.kind=4 then 1+min m.to.toNat 100 else 1
theorem Gs(m:dw):ql m<=602:=by
 unfold ql;split
 ·omega
 ·split
  ·omega
  ·split
   ·omega
   ·omega
theorem Vd(m:dw):1<=ql m:=by
 unfold ql;split
 ·omega
 ·split
  ·omega
  ·split
   ·omega
   ·omega
def fu(ms:List dw):Nat:=(ms.map ql).sum
theorem yRp(a b:List dw):fu (a++b)=fu a+fu b:=by simp [fu]
theorem Vc:∀ ms:List dw,fu ms<=602*ms.length
 | []=>by simp [fu]
 | m :: ms=>by
  have:=Vc ms;have:=Gs m;have e:fu (m :: ms)=ql m+fu ms:=by simp [fu]
  rw [e,aW,Nat.mul_succ];omega
theorem yNm(s:fC)(m:dw):fu (mR s m).way<=fu s.way+ql m:=by
 unfold mR;split
 ·exact Nat.le_add_right _ _
 ·show fu (s.way++[m])<=_;rw [yRp];simp [fu]
theorem UA:∀ (ms:List dw) (s:fC),fu (ly s ms).way<=fu s.way+fu ms
 | [],s=>Nat.le_add_right _ _
 | m :: ms,s=>by
  have h1:=UA ms (mR s m);have h2:=yNm s m;have e:fu (m :: ms)=ql m+fu ms:=by simp [fu]
  show fu (ly (mR s m) ms).way<=_;omega
def om(s:dX):Nat:=gm (fun k=>gm (fun j=>500 - (fP s k j).log.length) (s.line k).nodes.length) s.lines.length
def jr(s:dX):Nat:=fu s.net.way
def pR(s:dX):Nat:=om s*120401+jr s
theorem yNn{s:dX}(h:s.net.way.length<=200):jr s<=120400:=by
 have:=Vc s.net.way;unfold jr;omega
theorem zZ{s:dX}{k j:Nat}(hj:j<(s.line k).nodes.length):(s.line k).nodes[j]?=some (fP s k j):=by
 rw [aA hj];unfold fP;rw [aI,aA hj];rfl
theorem nZ.at{s s':dX}(h:nZ s s'){k j:Nat}(hj:j<(s.line k).nodes.length):rY (fP s k j) (fP s' k j)/\(fP s k j).log <+: (fP s' k j).log:=by
 obtain ⟨n',e1,e2,e3,_⟩:=h.node k j _ (zZ hj);rw [zY e1];exact ⟨e2,e3⟩
theorem nZ.room{s s':dX}(h:nZ s s'):om s'<=om s:=by
 unfold om;rw [h.ll];refine EK fun k hk=>?_;rw [h.len];refine EK fun j hj=>?_;have:=(h.at hj).2.length_le;omega
theorem nZ.less{s s':dX}(h:nZ s s')(hS:Safe s'){k j:Nat}(hk:k<s.lines.length)(hj:j<(s.line k).nodes.length)(hlt:(fP s k j).log.length<(fP s' k j).log.length):om s'<om s:=by
 have hf:(fP s' k j).log.length<=500:=(hS.line k (by rw [h.ll];exact hk)).few _ (aC (zZ (by rw [h.len];exact hj)));unfold om;rw [h.ll];refine Qo (fun k' hk'=>?_) k hk ?_
 ·rw [h.len];refine EK fun j' hj'=>?_;have:=(h.at hj').2.length_le;omega
 ·rw [h.len];refine Qo (fun j' hj'=>?_) j hj (by omega);have:=(h.at hj').2.length_le;omega
theorem yMu{f g:Nat->Nat}:∀ {n:Nat},(∀ k,k<n->f k=g k)->gm f n=gm g n
 | 0,_=>rfl
 | n+1,h=>by show gm f n+f n=gm g n+g n;rw [yMu fun k hk=>h k (by omega),h n (by omega)]
theorem yEv{s:dX}(h:qe s=false):oB s=s:=by
 unfold oB fA;rw [h];rfl
theorem yQz{k:Nat}{l:jG}(hL:ri k l)(hk:k<=4){j:Nat}{n:eK}(hj:l.nodes[j]?=some n)(m:dw)(hg:(jP n m).1.log=n.log):fu (jP n m).2<ql m/\(jP n m).2.length<=500:=by
 have hnm:=aC hj;have hsend:∀ (s:eK) (wh:Int) (x:dw),(nc s wh x).length<=1:=fun s wh x=>by
  unfold nc;split <;> simp
 unfold jP at hg ⊢;split at hg
 ·rename_i h0;rw [aP h0];split at hg
  ·rename_i h1;rw [aP h1];refine ⟨?_,aJ (hsend _ _ _) (by omega)⟩;have e:ql m=602:=by unfold ql;rw [aP h1.1]
   rw [e];show fu (nc n (-1) (qU 2 n.log.length))<602;unfold nc;split
   ·simp [fu]
   ·simp [fu,ql,qU]
  ·rename_i h1;rw [aK h1];split at hg
   ·rename_i h2;rw [aP h2];have e:ql m=601:=by unfold ql;rw [aK (by omega),aP h2.1]
    rw [e];have hlen:(xH n m.n).length<=500:=by
     unfold xH;split
     ·simp
     ·simp only [ml,ar,List.length_range];have:=hL.few n hnm;omega
    refine ⟨?_,hlen⟩;have hone:∀ x∈xH n m.n,ql x=1:=fun x hx=>by
     unfold xH at hx
     cases hn:iE n 1 with
     | none=>rw [hn] at hx;simp at hx
     | some t=>
      rw [hn] at hx;simp only [ml,af] at hx;obtain ⟨i,_,rfl⟩:=hx;rfl
    have XF:∀ ms:List dw,(∀ x∈ms,ql x=1)->fu ms=ms.length:=fun ms=>by
     induction ms with
     | nil=>intro _;rfl
     | cons a ms ih=>
      intro hx;have e1:=ih fun x hm=>hx x (by simp [hm]);have e2:fu (a :: ms)=ql a+fu ms:=by simp [fu]
      rw [e2,e1,hx a (by simp),aW];omega
    show fu (xH n m.n)<601;rw [XF _ hone];omega
   ·rename_i h2;rw [aK h2];split at hg
    ·rename_i h3;have:=(GM n m.cmd).2.1;rw [this] at hg;have:=ai List.length hg;simp at this
    ·rename_i h3;rw [aK h3];split at hg
     ·rename_i h4;rw [aP h4];refine ⟨?_,aJ (hsend _ _ _) (by omega)⟩;have jJ:m.to=n.id:=h0.2;have hr:=hL.oz n hnm;have e:ql m=1+n.id.toNat:=by
       unfold ql;rw [aK (by omega),aK (by omega),aP h4.1,jJ,Nat.min_eq_left (by omega)]
      rw [e];show fu (nc (xI n m.n) (-1) (qU 4 (xI n m.n).gz))<_;unfold nc;split
      ·simp [fu];omega
      ·rename_i t ht;have ht':iE n (-1)=some t:=ht;obtain ⟨i,a,hi,ha,Ow⟩:=hL.WS hj ht';have hlt:=(ud.1 hL.ord i j a n (by omega) ha hj).1;have hra:=hL.oz a (aC ha);simp only [fu,ql,qU,bW,cM,List.sum_cons,List.sum_nil];simp only [show ((4:Int)=1)=False by simp,show ((4:Int)=2)=False by simp,if_false,if_true];have:min t.toNat 100<=t.toNat:=Nat.min_le_left _ _;omega
     ·rename_i h4;rw [aK h4];exact ⟨by have:=Vd m;simp [fu];omega,by simp⟩
 ·rename_i h0;rw [aK h0];exact ⟨by have:=Vd m;simp [fu];omega,by simp⟩
theorem Safe.k4{s:dX}(h:Safe s){k:Nat}(hk:k<s.lines.length):k<=4:=by have:=h.ll.2;omega
theorem yKy{s:dX}(h:Safe s)(hH:Held s)(hn:qe s=false)(hf:s.net.way.length<=200)(hne:s.net.way≠[]):pR (lk s 0)<pR s/\qe (lk s 0)=false/\(lk s 0).net.way.length<=200:=by
 have hG:=Rf h hH 0;have hf':=hG.few hf
 cases hw:s.net.way with
 | nil=>exact absurd hw hne
 | cons m R=>
  have hm:s.net.way[0]?=some m:=by rw [hw];rfl
  have hphi:jr s=ql m+fu R:=by unfold jr;rw [hw];simp [fu]
  have hT:∀ k,(fz s 0).line k=s.line k:=fun _=>rfl;have Nb:(fz s 0).net.way=R:=by show s.net.way.eraseIdx 0=R;rw [hw];rfl
  have AT:=Vd m;have vE:om (fz s 0)=om s:=rfl;unfold lk at hG hf' ⊢;rw [hm] at hG hf' ⊢;simp only at hG hf' ⊢
  cases hnd:pK s m.to with
  | none=>
   rw [hnd] at hG hf';simp only at hG hf' ⊢;refine ⟨?_,hn,hf'⟩;unfold pR;rw [vE];have:jr (fz s 0)=fu R:=by unfold jr;rw [Nb]
   omega
  | some kj=>
   obtain ⟨k,j⟩:=kj;rw [hnd] at hG hf';simp only at hG hf' ⊢;obtain ⟨hk,n,q1,q2,q3⟩:=KD hnd;have ht:Safe (fz s 0):=h.way fun m' hm'=>cG hm';have Dg:Held (fz s 0):=hH.lines rfl rfl;have hmo:Cn (fz s 0) m:=h.msg m (aC hm);have hS:=ht.step (k:=k) (j:=j) (n:=n) hk q1 hmo;have oK:=iD.step (s:=fz s 0) hk q1 q2 m;have Kw:Held (nx (fz s 0) k j m):=Dg.lines oK.keys oK.dW;obtain ⟨g1,g2⟩:=GX hS Kw;refine ⟨?_,g2,hf'⟩;have hstep:=RM n m;have rS:fP (nx (fz s 0) k j m) k j=(jP n m).1:=by
    have hq1:((fz s 0).line k).nodes[j]?=some n:=q1;refine zY ?_;show ((ld (fz s 0) k j (jP (fP (fz s 0) k j) m).1).line k).nodes[j]?=_;rw [Eb (fz s 0) (k:=k) hk,aP rfl,zY hq1];show ((s.line k).nodes.set j _)[j]?=_;rw [qf,aP ⟨rfl,(aB.1 q1).1⟩]
   have hjl:j<(s.line k).nodes.length:=(aB.1 q1).1;have pD:fP s k j=n:=zY q1;rcases hstep.2.1 with e | e
   ·have hs1:oB (nx (fz s 0) k j m)=nx (fz s 0) k j m:=by
     refine yEv (GI.2 fun i hi=>?_);have hi':i<s.lines.length:=by have:=oK.mv.ll;rw [this] at hi;exact hi
     have e1:=GI.1 hn i hi';have qp:=(hS.line i hi).ne;have hlen:=oK.mv.len i;have hpos:=bX.2 qp;unfold lx qd at e1 ⊢;rw [oK.heard,EY _ _ hpos];rw [EY _ _ (by rw [<-hT i,<-hlen];exact hpos)] at e1;have jE:∀ (x:Nat) (a b:eK),(s.line i).nodes[x]?=some a->((nx (fz s 0) k j m).line i).nodes[x]?=some b->b.log=a.log:=fun x a b ha hb=>by
      have hb':((ld (fz s 0) k j (jP (fP (fz s 0) k j) m).1).line i).nodes[x]?=some b:=hb;rw [Eb (fz s 0) (k:=k) hk] at hb';split at hb'
      ·rename_i ei;subst ei;have hb2:((s.line i).nodes.set j (jP (fP (fz s 0) i j) m).1)[x]?=some b:=hb';rw [qf] at hb2;split at hb2
       ·rename_i ex
        cases hb2
        rw [ex.1,q1] at ha;cases ha
        rw [show fP (fz s 0) i j=n from pD];exact e
       ·rw [ha] at hb2;cases hb2;rfl
      ·have hb2:(s.line i).nodes[x]?=some b:=hb';rw [ha] at hb2;cases hb2;rfl
     have hx:=jE ((s.line i).nodes.length - 1) _ _ (aA (by rw [<-hT i,<-hlen];omega)) (by
      rw [show (s.line i).nodes.length=((nx (fz s 0) k j m).line i).nodes.length by rw [hlen];rfl];exact aA (by omega))
     rw [hx];exact e1
    rw [hs1];obtain ⟨p1,p2⟩:=yQz (h.line k hk) (h.k4 hk) q1 m e;unfold pR;have hr:=oK.mv.room;rw [vE] at hr;have hp:jr (nx (fz s 0) k j m)<=fu R+fu (jP n m).2:=by
     have:=UA (jP (fP (fz s 0) k j) m).2 (fz s 0).net;rw [Nb,show fP (fz s 0) k j=n from pD] at this;unfold jr nx sg;simp only [show fP (fz s 0) k j=n from pD];exact this
    have:om (nx (fz s 0) k j m)*120401<=om s*120401:=dS _ hr;omega
   ·have hlt:om (nx (fz s 0) k j m)<om (fz s 0):=oK.mv.less hS (k:=k) (j:=j) hk hjl (by rw [rS,e.2.2.2.2,show fP (fz s 0) k j=n from pD];simp);have hr2:=g1.mv.room;rw [vE] at hlt;have hp:=yNn hf';unfold pR;have:(om (oB (nx (fz s 0) k j m))+1)*120401<=om s*120401:=dS _ (by omega);rw [Nat.add_mul] at this;omega
structure kT(s:dX):Prop where
 safe:Safe s
 held:Held s
 none:qe s=false
 few:s.net.way.length<=200
def gD:Nat->dX->dX
 | 0,s=>s
 | n+1,s=>if s.net.way.isEmpty then s else gD n (lk s 0)
def zQ(s:dX):dX:=gD (pR s+1) s
theorem kT.fp{s:dX}(h:kT s)(hne:s.net.way≠[]):kT (lk s 0)/\lD s (lk s 0)/\pR (lk s 0)<pR s:=by
 obtain ⟨a,b,c⟩:=yKy h.safe h.held h.none h.few hne;have q:=Rf h.safe h.held 0;exact ⟨⟨q.safe,q.held,b,c⟩,q,a⟩
theorem zVd:∀ (n:Nat) {s:dX},kT s->kT (gD n s)/\lD s (gD n s)/\pR (gD n s)<=pR s
 | 0,s,h=>⟨h,lD.refl h.safe h.held,aF _⟩
 | n+1,s,h=>by
  unfold gD;split
  ·exact ⟨h,lD.refl h.safe h.held,aF _⟩
  ·rename_i e;obtain ⟨a,b,c⟩:=h.fp (fun q=>e (by rw [q];rfl));obtain ⟨a',b',c'⟩:=zVd n a;exact ⟨a',b.trans b',by omega⟩
theorem yKu(n:Nat):∀ {s:dX},kT s->pR s<n->(gD n s).net.way=[]:=by
 induction n with
 | zero=>intro s h hn;exact absurd hn (Nat.not_lt_zero _)
 | succ n ih=>
  intro s h hn;unfold gD;by_cases e:s.net.way.isEmpty=true
  ·rw [aP e];exact List.isEmpty_iff.1 e
  ·rw [aK e];obtain ⟨a,b,c⟩:=h.fp (fun q=>e (by rw [q];rfl));exact ih a (aH c (Nat.le_of_lt_succ hn))
theorem yKt{s:dX}(h:kT s):kT (zQ s)/\lD s (zQ s)/\pR (zQ s)<=pR s/\(zQ s).net.way=[]:=by
 obtain ⟨a,b,c⟩:=zVd (pR s+1) h;exact ⟨a,b,c,yKu (pR s+1) h (Nat.lt_succ_self _)⟩
theorem TJ(n:eK)(c:dv):(mw n c).2.length<=1:=by
 unfold mw;split
 ·unfold kz nc;split
  ·simp only;split <;> simp
  ·simp only;split <;> simp
 ·simp only;split <;> simp
theorem Ly(n:eK):(kz n).2.length<=1:=by
 unfold kz nc;split
 ·simp only;split <;> simp
 ·simp only;split <;> simp
theorem yTx(s:dX)(k:Nat)(c:dv):s.net.lost<=(mn s k c).net.lost/\(mn s k c).net.lost<=s.net.lost+1/\(mn s k c).lines.length=s.lines.length/\(mn s k c).dW=s.dW:=by
 have hl:(tf (eE s k) c).2.length<=1:=by
  unfold tf;split
  ·exact TJ _ _
  ·simp
 have:=Cm (tf (eE s k) c).2 s.net;refine ⟨this.1,?_,by simp [mn,sg,ld,rn],rfl⟩;have h2:=this.2;show (ly s.net (tf (eE s k) c).2).lost<=_;omega
theorem zWo(s:dX)(k:Nat)(log:List dv)(id:Nat):s.net.lost<=(gB s k log id).net.lost/\(gB s k log id).net.lost<=s.net.lost+1/\(gB s k log id).lines.length=s.lines.length/\(gB s k log id).dW=s.dW:=by
 unfold gB;split
 ·exact ⟨bR _,by omega,rfl,rfl⟩
 ·split
  ·exact yTx s k _
  ·exact ⟨bR _,by omega,rfl,rfl⟩
theorem zWm(k:Nat)(log:List dv):∀ (ids:List Nat) (s:dX),s.net.lost<=(ids.foldl (fun h id=>gB h k log id) s).net.lost/\(ids.foldl (fun h id=>gB h k log id) s).net.lost<=s.net.lost+ids.length/\(ids.foldl (fun h id=>gB h k log id) s).lines.length=s.lines.length/\(ids.foldl (fun h id=>gB h k log id) s).dW=s.dW
 | [],s=>⟨bR _,by simp,rfl,rfl⟩
 | id :: ids,s=>by
  obtain ⟨a,b,c,d⟩:=zWo s k log id;obtain ⟨a',b',c',d'⟩:=zWm k log ids (gB s k log id);rw [cV];exact ⟨by omega,by rw [aW];omega,by rw [c',c],by rw [d',d]⟩
theorem zTg(s:dX)(k:Nat):s.net.lost<=(eR s k).net.lost/\(eR s k).net.lost<=s.net.lost+s.dW.length/\(eR s k).lines.length=s.lines.length/\(eR s k).dW=s.dW:=by
 unfold eR;split
 ·exact ⟨bR _,by omega,rfl,rfl⟩
 ·rename_i n _;have:=zWm k n.log ((List.range s.dW.length).map (·+1)) s;simpa using this
theorem yJk(s:dX):s.net.lost<=(kM s).net.lost/\(kM s).net.lost<=s.net.lost+s.lines.length*s.dW.length/\(kM s).lines.length=s.lines.length/\(kM s).dW=s.dW:=by
 unfold kM;have key:∀ m,s.net.lost<=((List.range m).foldl eR s).net.lost/\((List.range m).foldl eR s).net.lost<=s.net.lost+m*s.dW.length/\((List.range m).foldl eR s).lines.length=s.lines.length/\((List.range m).foldl eR s).dW=s.dW:=by
  intro m
  induction m with
  | zero=>exact ⟨bR _,by simp,rfl,rfl⟩
  | succ m ih=>
   rw [aj,al];obtain ⟨a,b,c,d⟩:=ih;obtain ⟨a',b',c',d'⟩:=zTg ((List.range m).foldl eR s) m;refine ⟨Int.le_trans a a',?_,c'.trans c,d'.trans d⟩;rw [d] at b';show (eR _ m).net.lost<=_;have e:((m+1:Nat):Int)*(s.dW.length:Int)=(m:Int)*(s.dW.length:Int)+(s.dW.length:Int):=by
    rw [show ((m+1:Nat):Int)=(m:Int)+1 by omega,Int.add_mul,Int.one_mul]
   rw [e];omega
 exact key s.lines.length
theorem Ll{s:dX}(h:Safe s):s.net.lost<=(kM s).net.lost/\(kM s).net.lost<=s.net.lost+300:=by
 obtain ⟨a,b,_⟩:=yJk s;refine ⟨a,?_⟩;have h1:s.lines.length*s.dW.length<=5*60:=Nat.mul_le_mul h.ll.2 h.tl;have h2:(s.lines.length:Int)*(s.dW.length:Int)<=300:=by
  have:((s.lines.length*s.dW.length:Nat):Int)<=300:=by omega
  simpa using this
 omega
theorem zRy:∀ (n:Nat) {s:dX},Safe s->Held s->s.net.lost<=(fA n s).net.lost/\(fA n s).net.lost<=s.net.lost+300*n
 | 0,s,h,hH=>⟨bR _,by simp [fA]⟩
 | n+1,s,h,hH=>by
  unfold fA;split
  ·have q:=(KE h hH).1;have a:=MP h hH;have b:=Ll a.1.safe;rw [a.1.same.net] at b;have c:=zRy n q.safe q.held;exact ⟨by omega,by omega⟩
  ·exact ⟨bR _,by omega⟩
theorem zTk{s:dX}(h:Safe s)(hH:Held s):s.net.lost<=(oB s).net.lost/\(oB s).net.lost<=s.net.lost+750300:=by
 have:=zRy (500*s.lines.length+1) h hH;have:=h.ll.2;unfold oB;omega
theorem yHf{n:eK}(hn:n.log.length<=500)(m:dw):(jP n m).2.length<=500:=by
 have hsend:∀ (s:eK) (wh:Int) (x:dw),(nc s wh x).length<=500:=fun s wh x=>by
  unfold nc;split <;> simp
 unfold jP;split
 ·split
  ·exact hsend _ _ _
  ·split
   ·show (xH n m.n).length<=500;unfold xH;split
    ·simp
    ·simp only [ml,ar,List.length_range];omega
   ·split
    ·exact aJ (TJ _ _) (by omega)
    ·split
     ·exact hsend _ _ _
     ·simp
 ·simp
theorem Up{s:dX}(h:Safe s)(hH:Held s)(k:Nat):s.net.lost<=(lk s k).net.lost/\(lk s k).net.lost<=s.net.lost+750800:=by
 unfold lk
 cases hm:s.net.way[k]? with
 | none=>exact ⟨bR _,by show s.net.lost<=s.net.lost+750800;omega⟩
 | some m=>
  simp only
  cases hn:pK s m.to with
  | none=>exact ⟨bR _,by show s.net.lost<=_;omega⟩
  | some kj=>
   obtain ⟨kk,j⟩:=kj;obtain ⟨hk,n,q1,q2,q3⟩:=KD hn;have ht:Safe (fz s k):=h.way fun m' hm'=>cG hm';have Dg:Held (fz s k):=hH.lines rfl rfl;have hS:=ht.step (k:=kk) (j:=j) (n:=n) hk q1 (h.msg m (aC hm));have oK:=iD.step (s:=fz s k) hk q1 q2 m;have Kw:Held (nx (fz s k) kk j m):=Dg.lines oK.keys oK.dW;have a:=zTk hS Kw;have b:=Cm (jP (fP (fz s k) kk j) m).2 (fz s k).net;have c:=yHf (n:=fP (fz s k) kk j) (by rw [show fP (fz s k) kk j=n from zY q1];exact (h.line kk hk).few n (aC q1)) m;have e1:(nx (fz s k) kk j m).net.lost=(ly (fz s k).net (jP (fP (fz s k) kk j) m).2).lost:=rfl;have e2:(fz s k).net.lost=s.net.lost:=rfl;simp only;omega
def gX(s:dX):Int:=s.net.lost+750800*(pR s:Int)
theorem zXu:∀ (n:Nat) {s:dX},kT s->s.net.lost<=(gD n s).net.lost/\gX (gD n s)<=gX s
 | 0,s,h=>⟨bR _,bR _⟩
 | n+1,s,h=>by
  unfold gD;split
  ·exact ⟨bR _,bR _⟩
  ·rename_i e;obtain ⟨a,b,c⟩:=h.fp (fun q=>e (by rw [q];rfl));have d:=Up h.safe h.held 0;obtain ⟨a',c'⟩:=zXu n a;refine ⟨by omega,?_⟩;have:gX (lk s 0)<=gX s:=by unfold gX;omega
   omega
theorem yPg{s:dX}(h:kT s):s.net.lost<=(zQ s).net.lost/\gX (zQ s)<=gX s:=zXu _ h
theorem yAz(f:Nat->Nat):∀ n,gm f (n+1)=f 0+gm (fun j=>f (j+1)) n
 | 0=>by simp [gm]
 | n+1=>by
  have:=yAz f n;show gm f (n+1)+f (n+1)=f 0+(gm (fun j=>f (j+1)) n+f (n+1));omega
theorem yBm(f:Nat->Nat):∀ n,((List.range n).map f).sum=gm f n
 | 0=>rfl
 | n+1=>by rw [aj,ay,List.sum_append,yBm f n];simp [gm]
theorem zXs(p:eK->Bool)(f:eK->Nat)(d:eK):∀ l:List eK,((l.filter p).map f).sum=gm (fun j=>if p (l.getD j d) then f (l.getD j d) else 0) l.length
 | []=>rfl
 | a :: l=>by
  rw [aW,yAz];have ih:=zXs p f d l;simp only [List.getD_cons_zero,List.getD_cons_succ];rw [<-ih,cF];split
  ·simp
  ·simp
def Ro(s:dX):Nat:=gm (fun k=>gm (fun j=>if gS s (fP s k j) then (fP s k j).log.length else 0) (s.line k).nodes.length) s.lines.length
theorem TM(s:dX):rO s=Ro s:=by
 unfold rO Ro;rw [yBm];refine yMu fun k hk=>?_;unfold fa fP;exact zXs _ _ _ _
theorem nZ.lives{s s':dX}(h:nZ s s'){k j:Nat}(hj:j<(s.line k).nodes.length):gS s' (fP s' k j)=gS s (fP s k j):=by
 unfold gS;rw [h.dead,(h.at hj).1.id]
theorem nZ.known{s s':dX}(h:nZ s s'):rO s<=rO s':=by
 rw [TM,TM];unfold Ro;rw [h.ll];refine EK fun k hk=>?_;rw [h.len];refine EK fun j hj=>?_;simp only [h.lives hj];split
 ·exact (h.at hj).2.length_le
 ·exact aF _
theorem Safe.pA{s:dX}(h:Safe s){k:Nat}(hk:k<s.lines.length):(s.line k).nodes.length<=4:=yPb _ _ ((h.line k hk).ord.imp fun q=>q.1) (h.line k hk).oz
theorem ySk{s:dX}(h:Safe s):rO s<=10000:=by
 rw [TM];unfold Ro;have:gm (fun k=>gm (fun j=>if gS s (fP s k j) then (fP s k j).log.length else 0) (s.line k).nodes.length) s.lines.length<=2000*s.lines.length:=by
  refine RW fun k hk=>?_;have h4:=h.pA hk;have:gm (fun j=>if gS s (fP s k j) then (fP s k j).log.length else 0) (s.line k).nodes.length<=500*(s.line k).nodes.length:=by
   refine RW fun j hj=>?_;split
   ·exact (h.line k hk).few _ (aC (zZ hj))
   ·omega
  omega
 have:=h.ll.2;omega
theorem zWl(k:Nat)(s:dX)(j:Nat):s.net.lost<=(fK k s j).net.lost/\(fK k s j).net.lost<=s.net.lost+1/\jr (fK k s j)<=jr s+602:=by
 unfold fK;split
 ·have a:=Cm (kz (fP s k j)).2 s.net;have b:=Ly (fP s k j);have c:=UA (kz (fP s k j)).2 s.net;have d:=Vc (kz (fP s k j)).2;refine ⟨a.1,?_,?_⟩
  ·show (ly s.net _).lost<=_;omega
  ·show fu (ly s.net _).way<=fu s.net.way+602;omega
 ·exact ⟨bR _,by omega,Nat.le_add_right _ _⟩
theorem Ud(k:Nat):∀ (js:List Nat) (s:dX),s.net.lost<=(js.foldl (fK k) s).net.lost/\(js.foldl (fK k) s).net.lost<=s.net.lost+js.length/\jr (js.foldl (fK k) s)<=jr s+602*js.length
 | [],s=>⟨bR _,by simp,by simp⟩
 | j :: js,s=>by
  obtain ⟨a,b,c⟩:=zWl k s j;obtain ⟨a',b',c'⟩:=Ud k js (fK k s j);rw [cV,aW];exact ⟨by omega,by omega,by omega⟩
theorem zWj{s:dX}(h:Safe s):s.net.lost<=(lZ s).net.lost/\(lZ s).net.lost<=s.net.lost+20/\jr (lZ s)<=jr s+12040:=by
 have key:∀ m,m<=s.lines.length->s.net.lost<=((List.range m).foldl eU s).net.lost/\((List.range m).foldl eU s).net.lost<=s.net.lost+4*m/\jr ((List.range m).foldl eU s)<=jr s+2408*m:=by
  intro m
  induction m with
  | zero=>exact fun _=>⟨bR _,by simp,by simp⟩
  | succ m ih=>
   intro hm;rw [aj,al];obtain ⟨a,b,c⟩:=ih (by omega);have hg:Safe ((List.range m).foldl eU s)/\iD s ((List.range m).foldl eU s):=by
    suffices key:∀ m,m<=s.lines.length->Safe ((List.range m).foldl eU s)/\iD s ((List.range m).foldl eU s) from key m (by omega)
    intro m
    induction m with
    | zero=>exact fun _=>⟨h,iD.refl s⟩
    | succ m ih=>
     intro hm;rw [aj,al];obtain ⟨a,b⟩:=ih (by omega);obtain ⟨c,d⟩:=MU a (k:=m) (by rw [b.mv.ll];omega);exact ⟨c,b.trans d⟩
   generalize (List.range m).foldl eU s=S at a b c hg;obtain ⟨a',b',c'⟩:=Ud m (List.range (S.line m).nodes.length) S;have h4:=hg.1.pA (k:=m) (by rw [hg.2.mv.ll];omega);rw [List.length_range] at b' c';show s.net.lost<=(eU S m).net.lost/\(eU S m).net.lost<=_/\jr (eU S m)<=_;unfold eU;exact ⟨by omega,by omega,by omega⟩
 have:=key s.lines.length (aF _);have:=h.ll.2;unfold lZ;omega
theorem yMo{s:dX}(h:Safe s):om (lZ s)<=om s:=(RX h).2.mv.room
theorem yMp{s:dX}(h:Safe s)(hl:∀ k j,(fP (lZ s) k j).log=(fP s k j).log)(hn:qe s=false):qe (lZ s)=false:=by
 obtain ⟨a,b⟩:=RX h;refine GI.2 fun k hk=>?_;have hk':k<s.lines.length:=by rw [b.mv.ll] at hk;exact hk
 have e1:=GI.1 hn k hk';have p1:=bX.2 (a.line k hk).ne;have p2:=bX.2 (h.line k hk').ne;have e2:=hl k ((s.line k).nodes.length - 1);have t1:qd (lZ s) k=fP (lZ s) k ((s.line k).nodes.length - 1):=by
  unfold qd;rw [EY _ _ p1];symm;refine zY ?_;rw [<-b.mv.len k];exact aA (by omega)
 have t2:qd s k=fP s k ((s.line k).nodes.length - 1):=by
  unfold qd;rw [EY _ _ p2];symm;exact zY (aA (by omega))
 unfold lx at e1 ⊢;rw [t1,e2,<-t2,b.heard];exact e1
theorem yMr{s:dX}(h:Safe s){k:Nat}(hk:k<s.lines.length)(j k' j':Nat):(fP (fK k s j) k' j').log=(fP s k' j').log:=by
 unfold fK;split
 ·have hg:=(GP (fP s k j)).2.1;show (((ld s k j (kz (fP s k j)).1).line k').nodes.getD j' ⟨0,0,[],[],0⟩).log=_;rw [Eb s hk];split
  ·rename_i e;subst e;show (((s.line k').nodes.set j _).getD j' _).log=_;rw [aI,qf];split
   ·rename_i e2;rw [e2.1];exact hg
   ·rw [<-aI];rfl
  ·rfl
 ·rfl
theorem yJf{s:dX}(h:Safe s){k:Nat}(hk:k<s.lines.length)(k' j':Nat):(fP (eU s k) k' j').log=(fP s k' j').log:=by
 unfold eU;generalize List.range (s.line k).nodes.length=js
 suffices key:∀ (js:List Nat) (S:dX),Safe S->k<S.lines.length->(fP (js.foldl (fK k) S) k' j').log=(fP S k' j').log from key js s h hk
 intro js
 induction js with
 | nil=>exact fun S _ _=>rfl
 | cons j js ih=>
  intro S a hk;obtain ⟨c,d⟩:=a.fK (k:=k) (j:=j) hk;rw [cV,ih _ c (by rw [d.mv.ll];exact hk),yMr a hk]
theorem yMq{s:dX}(h:Safe s)(k' j':Nat):(fP (lZ s) k' j').log=(fP s k' j').log:=by
 unfold lZ
 suffices key:∀ m,m<=s.lines.length->Safe ((List.range m).foldl eU s)/\iD s ((List.range m).foldl eU s)/\(fP ((List.range m).foldl eU s) k' j').log=(fP s k' j').log from (key _ (aF _)).2.2
 intro m
 induction m with
 | zero=>exact fun _=>⟨h,iD.refl s,rfl⟩
 | succ m ih=>
  intro hm;rw [aj,al];obtain ⟨a,b,e⟩:=ih (by omega);obtain ⟨c,d⟩:=MU a (k:=m) (by rw [b.mv.ll];omega);exact ⟨c,b.trans d,(yJf a (by rw [b.mv.ll];omega) k' j').trans e⟩
theorem kT.tick{s:dX}(h:kT s):kT (lZ s)/\lD s (lZ s)/\gX (lZ s)<=gX s+9040000000/\s.net.lost<=(lZ s).net.lost:=by
 obtain ⟨a,b⟩:=RX h.safe;obtain ⟨c1,c2,c3⟩:=zWj h.safe;have r:=yMo h.safe;have q:=b.wI a h.held;refine ⟨⟨a,q.held,yMp h.safe (yMq h.safe) h.none,b.few h.few⟩,q,?_,c1⟩;have SL:pR (lZ s)<=pR s+12040:=by
  have hr:om (lZ s)*120401<=om s*120401:=dS _ r;show om (lZ s)*120401+jr (lZ s)<=om s*120401+jr s+12040;rw [cY];exact Nat.add_le_add hr c3
 unfold gX;omega
def xJ(s:dX):dX:=zQ (lZ s)
def gU(s:dX):dX:=xJ (xJ (xJ (xJ s)))
theorem MK{s:dX}(h:kT s):kT (xJ s)/\lD s (xJ s)/\gX (xJ s)<=gX s+9040000000/\s.net.lost<=(xJ s).net.lost/\(xJ s).net.way=[]:=by
 obtain ⟨a,b,c,d⟩:=h.tick;obtain ⟨a',b',c',d'⟩:=yKt a;obtain ⟨e,f⟩:=yPg a;exact ⟨a',b.trans b',Int.le_trans f c,Int.le_trans d e,d'⟩
theorem UI{s:dX}(h:kT s):kT (gU s)/\lD s (gU s)/\gX (gU s)<=gX s+36160000000/\s.net.lost<=(gU s).net.lost:=by
 obtain ⟨a1,b1,c1,d1,_⟩:=MK h;obtain ⟨a2,b2,c2,d2,_⟩:=MK a1;obtain ⟨a3,b3,c3,d3,_⟩:=MK a2;obtain ⟨a4,b4,c4,d4,_⟩:=MK a3;unfold gU;exact ⟨a4,((b1.trans b2).trans b3).trans b4,by omega,by omega⟩
def ie:Nat->dX->dX
 | 0,s=>s
 | n+1,s=>if rO (gU s)=rO s then gU s else ie n (gU s)
def oe(s:dX):dX:=ie 10001 s
theorem yLi(n:Nat):∀ {s:dX},kT s->kT (ie n s)/\lD s (ie n s):=by
 induction n with
 | zero=>intro s h;exact ⟨h,lD.refl h.safe h.held⟩
 | succ n ih=>
  intro s h;unfold ie;obtain ⟨a,b,_⟩:=UI h;split
  ·exact ⟨a,b⟩
  ·obtain ⟨a',b'⟩:=ih a;exact ⟨a',b.trans b'⟩
theorem yDq{s:dX}(h:kT s):kT (oe s)/\lD s (oe s):=yLi _ h
theorem eV.mB{w:World}{L:Lo}{v:Value}{ms:List dw}(h:eV w L v ms):Gc w L (fun k=>v.ownBlock=some k) v ms:=by
 have h0:=h;obtain ⟨us,h1,h2,h3,h4⟩:=h;by_cases hn:ms=[]
 ·subst hn;rcases h2.2 with ⟨rfl,_⟩ | ⟨g,cap,cur,rfl,_,_,hc1,hc2,_⟩
  ·exact ⟨none,0,rfl,aT _,aT _,.inl rfl⟩
  ·exact ⟨_,cap,rfl,hc1,hc2,.inl rfl⟩
 ·obtain ⟨m,hm⟩:∃ m,ms[0]?=some m:=by cases ms with
   | nil=>exact absurd rfl hn
   | cons x l=>exact ⟨x,rfl⟩
  obtain ⟨g,cap,_,hv,hc1,hc2,_⟩:=h0.at hm;refine ⟨_,cap,hv,hc1,hc2,.inr ⟨g,0,rfl,by rw [hv];rfl,fun i m hi=>?_⟩⟩;obtain ⟨g',cap',u,hv',_,_,hu,jF,q0,q1,q2,q3,q4,q5,q6,q7,q8⟩:=h0.at hi;rw [hv] at hv';simp only [Value.slice.injEq,ae,Addr.mk.injEq] at hv';obtain ⟨⟨rfl,_⟩,_,rfl⟩:=hv';refine ⟨u,hu,jF,fun j x hx=>?_⟩;rw [aX];have hj:j<9:=by
   have:=(aB.1 hx).1;simpa [ig] using this
  have:j=0\/j=1\/j=2\/j=3\/j=4\/j=5\/j=6\/j=7\/j=8:=by omega
  rcases this with rfl | rfl | rfl | rfl | rfl | rfl | rfl | rfl | rfl <;> (simp [ig] at hx;subst hx;assumption)
theorem eV.block{w:World}{L:Lo}{v:Value}{ms:List dw}(h:eV w L v ms){k:Nat}(hk:v.ownBlock=some k):k<w.heap.size/\∃ cur,w.heap[k]?=some (.cells cur 112):=by
 obtain ⟨us,_,h2,_⟩:=h;obtain ⟨_,q2,cur,q3⟩:=fW h2 hk;exact ⟨q2,cur,q3⟩
theorem ME(n c g:Nat)(y:dY)(s:dX)(v:Value)(ms:List dw)(w:World)(h:dx w n c g y s)(hv:eV w (y.lo n) v ms)(hno:∀ k,v.ownBlock=some k->y.own k=.no)(hlo:s.net.lost+ms.length<=4611686018427387904) :
  Calls Tryz.prog 48 #[.pointer (some ⟨g,2,none⟩),v] w fun e w'=>(∃ x,e=.returned (.int .i64 x))/\∃ y',dx w' n c g y' (sg s ms)/\eL w y w' y':=by
 refine (yHg (y.lo n) g y.wv y.mr s.net _ v ms w h.qo hv.mB (fun k hk=>⟨(hv.block hk).1,fun e=>?_⟩) hlo).mono ?_
 ·have h0:=hno k hk;rcases e with e | e | e
  ·rw [e,h.own.main] at h0;cases h0
  ·rw [h.own.net k (.inl e)] at h0;cases h0
  ·rw [h.own.net k (.inr e)] at h0;cases h0
 ·rintro e w' ⟨iN,rfl,hN,CL,ij⟩;obtain ⟨hH,hS⟩:=h.so ij hN CL (.inl rfl);exact ⟨⟨_,rfl⟩,_,hH,hS,rfl,rfl,rfl,rfl,rfl⟩
theorem dx.zn{w w':World}{n c g:Nat}{y:dY}{s:dX}(h:dx w n c g y s){k b j d:Nat}(hk:k<s.lines.length)(hb:y.gF[k]?=some b)(hd:(y.fL b)[j]?=some d){nv lv v:Value}{x:eK}{ms:List dw}
  (hm:Mod (gw d (y.kK d) (y.kL d)) w w') (hN:fe w' (y.lo n) d nv lv x) (h1:iF w (y.kK d) nv) (h2:iF w (y.kL d) lv) (hv:eV w' (y.lo n) v ms) (hf:lC w v) :
  ∃ y',dx w' n c g y' (ld s k j x)/\eL w y w' y'/\eV w' (y'.lo n) v ms/\∀ z,v.ownBlock=some z->y'.own z=.no:=by
 obtain ⟨hH,hS⟩:=h.jn hk hb hd hm hN h1 h2;refine ⟨_,hH,⟨hS,rfl,rfl,rfl,rfl,rfl⟩,hv,fun z hz=>?_⟩;have hzf:=hf z hz;obtain ⟨_,cur,fN⟩:=hv.block hz;simp only [dY.lF];rw [aK]
 ·exact aS fun e=>by have:=(h.own.lt z e).2;omega
 ·rintro ⟨_,e | e | e⟩
  ·have hB:=hN.blk;unfold dg at hB;rw [<-e,fN] at hB;simp at hB
  ·obtain ⟨_,_,kh,h2⟩:=fW hN.ns e;rw [fN] at h2;simp at h2
  ·obtain ⟨us,_,h3,_⟩:=hN.lg;obtain ⟨_,_,kh,h2⟩:=fW h3 e;rw [fN] at h2;simp at h2
def uD(s:dX)(m:Nat):dX:=(List.range m).foldl eR s
theorem zWn(s:dX)(m:Nat):uD s (m+1)=eR (uD s m) m:=by unfold uD;rw [aj,al];rfl
theorem yJj{s:dX}(h:Safe s):∀ m,m<=s.lines.length->Safe (uD s m)/\iD s (uD s m)/\(uD s m).net.lost<=s.net.lost+m*s.dW.length:=by
 intro m
 induction m with
 | zero=>exact fun _=>⟨h,iD.refl s,by simp [uD]⟩
 | succ m ih=>
  intro hm;rw [zWn];obtain ⟨a,b,c⟩:=ih (by omega);obtain ⟨a',b',_⟩:=Um a (k:=m) (by rw [b.mv.ll];omega);obtain ⟨_,d',_⟩:=zTg (uD s m) m;refine ⟨a',b.trans b',?_⟩;rw [b.mv.tl] at d';have e:((m+1:Nat):Int)*(s.dW.length:Int)=(m:Int)*(s.dW.length:Int)+(s.dW.length:Int):=by
   rw [show ((m+1:Nat):Int)=(m:Int)+1 by omega,Int.add_mul,Int.one_mul]
  rw [e];omega
def lE(s:dX)(k j:Nat):dX:=((List.range j).map (·+1)).foldl (fun h id=>gB h k (eE s k).log id) s
theorem yAy(s:dX)(k j:Nat):lE s k (j+1)=gB (lE s k j) k (eE s k).log (j+1):=by unfold lE;rw [aj,ay,al];rfl
theorem yMs{s:dX}(h:Safe s){k:Nat}(hk:k<s.lines.length)(hv:gS s (eE s k)=true):∀ j,j<=s.dW.length->Ee s (lE s k j) k j/\(lE s k j).net.lost<=s.net.lost+j:=by
 intro j
 induction j with
 | zero=>exact fun _=>⟨⟨h,iD.refl s,⟨[],by simp [lE],by simp⟩,fun id i1 i2=>by omega,fun _ _=>rfl,hv⟩,by simp [lE]⟩
 | succ j ih=>
  intro hj;rw [yAy];obtain ⟨a,b⟩:=ih (by omega);have c:=zWo (lE s k j) k (eE s k).log (j+1);exact ⟨a.step hk (by omega),by omega⟩
theorem yEr{s:dX}(h:Safe s){k:Nat}(hk:k<s.lines.length)(hv:gS s (eE s k)=true):eR s k=lE s k s.dW.length:=by
 unfold eR
 cases hh:uX s k with
 | none=>rw [yCq h hk hh] at hv;cases hv
 | some n=>obtain ⟨rfl,_⟩:=Jw h hk hh;rfl
theorem yEs{s:dX}(h:Safe s){k:Nat}(hk:k<s.lines.length)(hv:gS s (eE s k)=false):eR s k=s:=by
 unfold eR
 cases hh:uX s k with
 | none=>rfl
 | some n=>obtain ⟨rfl,e⟩:=Jw h hk hh;rw [hv] at e;cases e
theorem Je.out{w w':World}{r:Option dv}{e:Ending}(h:Je w w' r e):∃ (d:dv) (u:Value) (ok:Bool),e=.returned (.tuple #[.agg #[.int .i64 d.kind,.int .i64 d.tx,.int .i64 d.time,u],.bool ok])/\w'.ownsRow w.heap.size 68 3 u d.writes.length (gb d.writes)/\r=(if ok then some d else none)/\Mod dZ w w':=h
theorem yTi{s:dX}(h:Safe s){id k:Nat}(h1:1<=id)(h2:id<=s.dW.length)(hk:k<s.lines.length){c:dv}{time:Int}(ht:1<=time/\time<=501)(hd:fX s id k time=some c):CY c:=by
 have hx:=h.tx id h1 h2;have htl:=h.tl;have i0:gO (0:Int):=by unfold gO;omega
 have i2:gO (2:Int):=by unfold gO;omega
 have i3:gO (3:Int):=by unfold gO;omega
 have i4:gO (4:Int):=by unfold gO;omega
 have ii:gO (id:Int):=by unfold gO;omega
 unfold fX at hd;simp only at hd;split at hd
 ·split at hd
  ·cases hd;exact ⟨⟨i3,ii,show gO time by unfold gO;omega⟩,by simp⟩
  ·cases hd
 ·split at hd
  ·cases hd
  ·split at hd
   ·cases hd
    refine ⟨⟨i2,ii,i0⟩,?_⟩;have:(uM s (s.tx id) k).length<=(s.tx id).writes.length:=bB _ _;have:=hx.few.1;show (uM s (s.tx id) k).length<=40;omega
   ·split at hd
    ·cases hd
     have:=hx.tm;exact ⟨⟨i3,ii,show gO (s.tx id).time by unfold gO;omega⟩,by simp⟩
    ·split at hd
     ·cases hd;exact ⟨⟨i4,ii,i0⟩,by simp⟩
     ·cases hd
theorem Te(n c g:Nat)(y:dY)(s:dX)(w:World)(h:dx w n c g y s)(hS:Safe s)(hlo:s.net.lost+300<=4611686018427387904) :
  Calls Tryz.prog 42 #[.pointer (some ⟨g,0,none⟩)] w fun e w'=>e=.returned (.tuple #[])/\∃ y',dx w' n c g y' (kM s)/\eL w y w' y':=by
 obtain ⟨c0,-⟩:=kF h.blk;obtain ⟨la,ey,hlv⟩:=eu h.fi;have hll:=hS.ll;have htl:=hS.tl;have hlen:=h.iQ;rw [hlv,hlen] at c0;have hLT:(s.lines.length:Int)*(s.dW.length:Int)<=300:=by
  have h1:s.lines.length*s.dW.length<=5*60:=Nat.mul_le_mul hll.2 htl;have:((s.lines.length*s.dW.length:Nat):Int)<=300:=by omega
  simpa using this
 have CX:Hid (y.lv=.slice la s.lines.length ey):=by unfold Hid;rw [hlv,hlen]
 have HH:=dV h;have HS:=dV hS;have LV:=dV hLT;clear h hS hlv hLT;go_enter Tryz.func42,Tryz.ntmps42;go_wp2_with fail;go_loopw [17] (fun k0 wr=>∃ (k:Nat) (yr:dY),k<=s.lines.length/\k0=.int .i64 k/\dx wr n c g yr (uD s k)/\eL w y wr yr) (fun k0 _=>s.lines.length - (intOf k0).toNat)
 case atStart=>exact ⟨0,y,aT _,rfl,HH.out,eL.refl _ _⟩
 case round=>
  obtain ⟨k,yr,hkl,rfl,hH,hK⟩:=hrel;obtain ⟨wo,hwo⟩:∃ x,x=wr:=⟨_,rfl⟩;subst hwo;by_cases hlt:k<s.lines.length
  ·obtain ⟨tS,tT,tL⟩:=yJj HS.out k hkl;have OW:(uD s k).net.lost+s.dW.length<=4611686018427387904:=by
    have:((k:Int)+1)*(s.dW.length:Int)<=(s.lines.length:Int)*(s.dW.length:Int):=Int.mul_le_mul_of_nonneg_right (by omega) (by omega);rw [Int.add_mul,Int.one_mul] at this;have:=LV.out;omega
   have Kv:=zWn s k;have oK:(uD s k).dW.length=s.dW.length:=tT.mv.tl;have hk':k<(uD s k).lines.length:=by rw [tT.mv.ll];exact hlt
   have jz:=dV Kv;clear Kv tT tL;generalize uD s k=S at hH tS OW oK hk' jz;obtain ⟨b,hb,hL⟩:=hH.nJ hk';obtain ⟨d,hd,x,hx,Sa⟩:=hL.wN (j:=0) (by have:=bX.2 (tS.line k hk').ne;omega);have hx0:x=eE S k:=by
    have:=tS.head hk';rw [hx] at this;exact ax this
   subst hx0;have hst:yr.st S d=eE S k:=hH.kW hb (ma hk') hd hx;have BU:=dV (yCm n c g yr S k b d wo hH hk' hb hd);rw [hst] at BU;have xu:(k:Int)<(s.lines.length:Int):=by omega
   have qs:(0:Int)<=(k:Int):=by omega
   have jH:=dV hH;have nt:=dV hK;have HB:=dV hb;have HD:=dV hd;have oc:=dV tS;have qN:=dV hk';clear hH hK hL hb hd hx Sa tS hst hk'
   cases hv:gS S (eE S k) with
   | false=>
    rw [hv] at BU;have HE:Hid (uD s (k+1)=S):=by unfold Hid;rw [jz.out,yEs oc.out qN.out hv]
    clear hv;go_upto_region 4 with (first
     | (go_at_call 64;refine BU.out.mono ?_;rintro e w1 ⟨rfl,dh⟩)
     | fail)
    have HF:Hid (dx w1 n c g yr (uD s (k+1))/\eL w y w1 yr):=⟨by rw [HE.out];exact jH.out.quiet dh,nt.out.trans (eL.quiet dh)⟩;clear dh;go_wp2_with fail;go_roundw
    case rel=>exact ⟨k+1,yr,by omega,by go_num,HF.out.1,HF.out.2⟩
    case measure=>simp [intOf];omega
   | true=>
    rw [hv] at BU;have fR:(eE S k).log.length<=305:=(oc.out.log k qN.out).few oc.out.tl;have sP:Hid (∀ wq,Mod dZ wo wq->Calls Tryz.prog 40 #[.pointer (some ⟨d,0,none⟩)] wq fun e w'=>∃ v,e=.returned v/\gZ w' (yr.lo n) v (eE S k).log/\lC wq v/\Mod dZ wq w'):=fun wq hq=>by
     have hN:=(jH.out.quiet hq).mU HB.out (aC HD.out);have hst:yr.st S d=eE S k:=jH.out.kW HB.out (ma qN.out) HD.out (oc.out.head qN.out);rw [hst] at hN;exact Lq _ _ _ _ _ _ hN
    have HV:=dV hv;clear hv;go_upto_region 5 with (first
     | (go_at_call 64;refine BU.out.mono ?_;rintro e w1 ⟨rfl,dh⟩)
     | fail)
    have QK:=dV (sP.out w1 dh);have fJ:=dV dh;clear dh BU;go_upto_region 6 with (first
     | (go_at_call 40;refine QK.out.mono ?_;rintro e w2 ⟨v,rfl,hrc,qu,hm2⟩;obtain ⟨va,vc,lI⟩:=hrc.slice;subst lI)
     | fail)
    have xq:Mod dZ wo w2:=fJ.out.trans hm2;have Ak:KM w2 yr (.slice va (eE S k).log.length vc) (eE S k).log:=by
     refine ⟨hrc.mB,.inr fun z hz=>?_⟩;have hz2:=qu z hz;have hz1:=fJ.out.size;obtain ⟨us,_,h3,_⟩:=hrc;refine ⟨?_,(fW h3 hz).2.1⟩;exact aS fun e=>by have:=(jH.out.own.lt z e).2;omega
    have Lb:=dV Ak;have lW:=dV (jH.out.quiet xq);have xC:=dV (nt.out.trans (eL.quiet xq));clear hrc qu hm2 xq Ak sP QK fJ;go_wp2_with fail;go_loopw [6] (fun j0 wi=>∃ (j:Nat) (yi:dY),j<=s.dW.length/\j0=.int .i64 ((j:Int)+1)/\dx wi n c g yi (lE S k j)/\eL w y wi yi/\eL w2 yr wi yi) (fun j0 _=>s.dW.length+1 - (intOf j0).toNat)
    case atStart=>exact ⟨0,yr,aT _,rfl,lW.out,xC.out,eL.refl _ _⟩
    case round=>
     obtain ⟨j,yi,hjl,rfl,kQ,sI,tX⟩:=hrel;obtain ⟨wi,xj⟩:∃ x,x=wr:=⟨_,rfl⟩;subst xj;obtain ⟨tI,tL⟩:=yMs oc.out qN.out HV.out j (by rw [oK];exact hjl);have PA:=yAy S k j;have BC:=dV PA;have Iy:=yEr oc.out qN.out HV.out;rw [oK] at Iy;have HAll:=dV Iy;clear PA Iy;obtain ⟨-,-,-,-,-,-,c6⟩:=kF kQ.blk;obtain ⟨ta,gL,oS⟩:=eu kQ.gW;have wT:yi.jo.length=s.dW.length:=by rw [kQ.kN,tI.tells.mv.tl,oK]
     rw [oS,wT] at c6;by_cases pF:j<s.dW.length
     ·have IW:(j:Int)+1<=(s.dW.length:Int):=by omega
      generalize yE:lE S k j=R at kQ tI tL BC;have xt:k<R.lines.length:=by rw [tI.tells.mv.ll];exact qN.out
      have hRT:R.dW.length=s.dW.length:=by rw [tI.tells.mv.tl,oK]
      have yC:yi.gF[k]?=some b:=by rw [tX.l];exact HB.out
      have hdi:(yi.fL b)[0]?=some d:=by rw [tX.n];exact HD.out
      have Ik:=tI.safe;have hRf:(eE R k).log.length<=305:=(Ik.log k xt).few Ik.tl;have Nh:yi.st R d=eE R k:=kQ.kW yC (ma xt) hdi (Ik.head xt);have Im:=kQ.mU yC (aC hdi);rw [Nh] at Im;have EC:=dV (Vn _ _ _ _ _ _ Im);have ZB:((j+1:Nat):Int)=(j:Int)+1:=by omega
      have HDU:=dV (yVo n c g yi R (j+1) k ((eE R k).log.length+1) wi kQ Ik.shape (by omega) (by omega) xt (Ik.tx (j+1) (by omega) (by omega)).few.2);rw [ZB] at HDU;have HHi:=dV kQ;have QL:=dV sI;have Zu:=dV tX;have LQ:=dV Ik;have HBi:=dV yC;have HDi:=dV hdi;have Zj:=dV Im;have LM:Hid (R.net.lost<=S.net.lost+j):=tL;have Ze:Hid (∀ kind wq,iG w2 yr wq yi->Calls Tryz.prog 80 #[.slice va (eE S k).log.length vc,.int .i64 kind,.int .i64 ((j:Int)+1)] wq fun e w'=>e=.returned (.int .i64 (iR (kp (eE S k).log kind ((j:Int)+1))))/\Mod dZ wq w'):=fun kind wq hq=>UL _ _ kind _ wq (Lb.out.keep hq).1 (by omega);clear kQ sI tX yC hdi Im Nh tI tL Ik oS wT yE;go_upto_region 10 with (first
       | (go_at_call 79;refine EC.out.mono ?_;rintro e w3 ⟨rfl,rfl⟩)
       | (go_at_call 78;refine HDU.out.mono ?_;rintro e w4 nO;obtain ⟨dc,u,ok,rfl,hrow,hres,gR⟩:=nO.out;obtain ⟨ua,uc,DJ⟩:=eu hrow;subst DJ)
       | fail)
      obtain ⟨w5,pB⟩:∃ z,z=w4.alloc (.cells #[.int .i64 dc.kind,.int .i64 dc.tx,.int .i64 dc.time,.slice ua dc.writes.length uc] 65):=⟨_,rfl⟩;rw [<-pB];have mh:Mod dZ w4 w5:=by rw [pB];exact (Mod.refl _ w4).alloc _
      have nR:dg w5 w4.heap.size [.int .i64 dc.kind,.int .i64 dc.tx,.int .i64 dc.time,.slice ua dc.writes.length uc] 65:=by rw [pB];exact dg.new w4 _ _
      have jD:Mod dZ w3 w5:=gR.trans mh;have NR:=gR.size;have x0:=nR.cell 0 rfl;have LY:=dV (HHi.out.quiet jD);have Ft:=dV (QL.out.trans (eL.quiet jD));have zE:=dV (Zu.out.trans (eL.quiet jD));have ZV:=dV (fm hrow mh (fun _ _ _ _=>id));have HB5:=dV nR;have Zs:=dV jD;have yN:=dV hres;clear pB gR mh nR jD hrow hres HDU EC;have LZ:Hid (∀ R',gB R k (eE S k).log (j+1)=R'->lE S k (j+1)=R'):=fun R' e=>by rw [BC.out];exact e
      cases ok with
      | false=>
       have HF:Hid (lE S k (j+1)=R):=LZ.out _ (by
        unfold gB;rw [yN.out];rfl)
       clear yN;go_wp2_with fail;go_roundw
       case rel=>exact ⟨j+1,yi,by omega,by go_num,by rw [HF.out];exact LY.out,Ft.out,zE.out⟩
       case measure=>simp [intOf];omega
      | true=>
       have lq:=dV (Ze.out dc.kind w5 zE.out.st)
       cases hpc:kp (eE S k).log dc.kind ((j:Int)+1) with
       | some i=>
        rw [hpc] at lq;have hi0:decide ((i:Int)<0)=false:=aL (by omega);have HF:Hid (lE S k (j+1)=R):=LZ.out _ (by
         unfold gB;rw [yN.out];show (if (kp (eE S k).log dc.kind ((j+1:Nat):Int)).isNone=true then _ else _)=_;rw [ZB,hpc];rfl)
        clear yN hpc;go_wp2_with (first
         | (go_at_call 80;refine lq.out.mono ?_;rintro e w6 ⟨rfl,fs⟩;simp only [iR])
         | fail)
        have nX:Hid (dx w6 n c g yi (lE S k (j+1))/\eL w y w6 yi/\eL w2 yr w6 yi):=⟨by rw [HF.out];exact LY.out.quiet fs,Ft.out.trans (eL.quiet fs),zE.out.trans (eL.quiet fs)⟩;clear fs;go_wp2_with fail;go_roundw
        case rel=>exact ⟨j+1,yi,by omega,by go_num,nX.out.1,nX.out.2.1,nX.out.2.2⟩
        case measure=>simp [intOf];omega
       | none=>
        rw [hpc] at lq;have nO:fX R (j+1) k ((eE R k).log.length+1)=some dc:=yN.out;have uQ:=yTi LQ.out (by omega) (by omega) xt (by omega) nO;have HF:Hid (lE S k (j+1)=sg (ld R k 0 (mw (eE R k) dc).1) (mw (eE R k) dc).2):=LZ.out _ (by
         unfold gB;rw [nO];show (if (kp (eE S k).log dc.kind ((j+1:Nat):Int)).isNone=true then mn R k dc else _)=_;rw [ZB,hpc];show mn R k dc=_;unfold mn;rw [LQ.out.add xt])
        have Qc:Hid (∀ wq,Mod dZ w5 wq->Calls Tryz.prog 81 #[.pointer (some ⟨d,0,none⟩),.agg #[.int .i64 dc.kind,.int .i64 dc.tx,.int .i64 dc.time,.slice ua dc.writes.length uc]] wq fun e w'=>
          ∃ v ja,e=.returned (.tuple #[.int .i64 (eE R k).log.length,v,.nilIface])/\fe w' (yi.lo n) d (yi.kK d) ja (mw (eE R k) dc).1/\eV w' (yi.lo n) v (mw (eE R k) dc).2/\lC wq v/\iF wq (yi.kL d) ja/\Mod (gw d (yi.kK d) (yi.kL d)) wq w'):=fun wq hq=>by
         have hN:=Zj.out.quiet (Zs.out.trans hq);have hpt:iH wq (yi.lo n) (.slice ua dc.writes.length uc) dc.writes:=by
          have h0:=fm ZV.out hq (fun _ _ _ _=>id);exact iH.iA h0 (fun z hz=>VJ HHi.out.own z hz)
         exact yTt (yi.lo n) d (yi.kK d) (yi.kL d) (eE R k) dc _ wq hN (LQ.out.mW xt) (by omega) hpt uQ
        clear yN hpc nO uQ;go_upto_region 11 with (first
         | (go_at_call 80;refine lq.out.mono ?_;rintro e w6 ⟨rfl,fs⟩;simp only [iR])
         | fail)
        have nQ:=HB5.out.mod fs (fun e=>e);obtain ⟨z0,z1,z2,z3,-,-,-,-⟩:=td nQ;have GC:=dV (Qc.out w6 fs);have HH6:=dV (LY.out.quiet fs);have HK6:=dV (Ft.out.trans (eL.quiet fs));have HR6:=dV (zE.out.trans (eL.quiet fs));clear fs nQ Qc lq;go_upto_region 12 with (first
         | (go_at_call 81;refine GC.out.mono ?_;rintro e w7 ⟨v7,wO,rfl,uR,rU,zA,AX,iO⟩;obtain ⟨Rz,Ry,rz⟩:=rU.slice;subst rz)
         | fail)
        obtain ⟨y7,vS,uS,tU,qB⟩:=HH6.out.zn xt HBi.out HDi.out iO uR (.inl rfl) AX rU zA;have hl7:=TJ (eE R k) dc;have pX:=dV (ME n c g y7 _ _ _ w7 vS tU qB (by
         show R.net.lost+((mw (eE R k) dc).2.length:Int)<=_;have:=LM.out;omega))
        have JW:=dV (HK6.out.trans uS);have Fp:=dV (HR6.out.trans uS);have Xu:=vS.blk.lt;clear vS uS tU qB uR rU zA AX iO GC z0 z1 z2 z3;go_upto_region 8 with (first
         | (go_at_call 48;refine pX.out.mono ?_;rintro e w8 ⟨⟨x8,rfl⟩,y8,uT,yH⟩)
         | fail)
        have nX:Hid (dx w8 n c g y8 (lE S k (j+1))/\eL w y w8 y8/\eL w2 yr w8 y8):=⟨by rw [HF.out];exact uT,JW.out.trans yH,Fp.out.trans yH⟩;clear uT yH pX;go_wp2_with fail;go_roundw
        case rel=>exact ⟨j+1,y8,by omega,by go_num,nX.out.1,nX.out.2.1,nX.out.2.2⟩
        case measure=>simp [intOf];omega
     ·obtain rfl:j=s.dW.length:=by omega
      have IW:¬ ((s.dW.length:Int)+1<=(s.dW.length:Int)):=by omega
      have HF:Hid (dx wi n c g yi (uD s (k+1))/\eL w y wi yi):=⟨by rw [jz.out,HAll.out];exact kQ,sI⟩;clear kQ sI tX tI tL oS wT;go_wp2_with fail;go_roundw
      case rel=>exact ⟨k+1,yi,by omega,by go_num,HF.out.1,HF.out.2⟩
      case measure=>simp [intOf];omega
  ·obtain rfl:k=s.lines.length:=by omega
   have HF:Hid (∃ y',dx wo n c g y' (kM s)/\eL w y wo y'):=⟨yr,hH,hK⟩;clear hH hK;go_wp2_with fail;go_end0;exact ⟨rfl,HF.out⟩
end Go.Proofs.YtmaiggbnceejiaaGreatDoor
