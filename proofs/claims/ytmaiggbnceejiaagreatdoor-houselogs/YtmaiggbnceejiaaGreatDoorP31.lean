import Derived.Test.YtmaiggbnceejiaaGreatDoorP30
import Derived.Test.YtmaiggbnceejiaaGreatDoorP26
set_option linter.unusedVariables false
set_option maxRecDepth 100000
set_option maxHeartbeats 16000000
namespace Go.Proofs.YtmaiggbnceejiaaGreatDoor
theorem zYq(f:Nat->Nat):∀ n,sumR f (n+1)=f 0+sumR (fun j=>f (j+1)) n
 | 0=>by simp [sumR]
 | n+1=>by
  have:=zYq f n
  show sumR f (n+1)+f (n+1)=f 0+(sumR (fun j=>f (j+1)) n+f (n+1))
  omega
theorem zZc(f:Nat->Nat):∀ n,((List.range n).map f).sum=sumR f n
 | 0=>rfl
 | n+1=>by rw [List.range_succ,List.map_append,List.sum_append,zZc f n];simp [sumR]
theorem zVp(p:zAl->Bool)(f:zAl->Nat)(d:zAl):∀ l:List zAl,((l.filter p).map f).sum=sumR (fun j=>if p (l.getD j d) then f (l.getD j d) else 0) l.length
 | []=>rfl
 | a :: l=>by
  rw [List.length_cons,zYq]
  have ih:=zVp p f d l
  simp only [List.getD_cons_zero,List.getD_cons_succ]
  rw [<-ih,List.filter_cons]
  split
  ·simp
  ·simp
def yOb(s:zAa):Nat:=sumR (fun k=>sumR (fun j=>if zAs s (zAo s k j) then (zAo s k j).log.length else 0) (s.line k).nodes.length) s.lines.length
theorem zXn(s:zAa):zFz s=yOb s:=by
 unfold zFz yOb
 rw [zZc]
 refine yJa fun k hk=>?_
 unfold zAj zAo
 exact zVp _ _ _ _
theorem zGl.lives{s s':zAa}(h:zGl s s'){k j:Nat}(hj:j<(s.line k).nodes.length):zAs s' (zAo s' k j)=zAs s (zAo s k j):=by
 unfold zAs
 rw [h.dead,(h.at hj).1.id]
theorem zGl.known{s s':zAa}(h:zGl s s'):zFz s<=zFz s':=by
 rw [zXn,zXn]
 unfold yOb
 rw [h.ll]
 refine zLa fun k hk=>?_
 rw [h.len]
 refine zLa fun j hj=>?_
 simp only [h.lives hj]
 split
 ·exact (h.at hj).2.length_le
 ·exact Nat.le_refl _
theorem Safe.len4{s:zAa}(h:Safe s){k:Nat}(hk:k<s.lines.length):(s.line k).nodes.length<=4:=yLd _ _ ((h.line k hk).ord.imp fun q=>q.1) (h.line k hk).rng
theorem yOa{s:zAa}(h:Safe s):zFz s<=10000:=by
 rw [zXn]
 unfold yOb
 have:sumR (fun k=>sumR (fun j=>if zAs s (zAo s k j) then (zAo s k j).log.length else 0) (s.line k).nodes.length) s.lines.length<=2000*s.lines.length:=by
  refine zMb fun k hk=>?_
  have h4:=h.len4 hk
  have:sumR (fun j=>if zAs s (zAo s k j) then (zAo s k j).log.length else 0) (s.line k).nodes.length<=500*(s.line k).nodes.length:=by
   refine zMb fun j hj=>?_
   split
   ·exact (h.line k hk).few _ (List.mem_of_getElem? (zDt hj))
   ·omega
  omega
 have:=h.ll.2
 omega
theorem zUl(k:Nat)(s:zAa)(j:Nat):s.net.lost<=(tick1 k s j).net.lost/\(tick1 k s j).net.lost<=s.net.lost+1/\phiS (tick1 k s j)<=phiS s+602:=by
 unfold tick1
 split
 ·have a:=zEt (zEj (zAo s k j)).2 s.net
  have b:=zNw (zAo s k j)
  have c:=zRv (zEj (zAo s k j)).2 s.net
  have d:=yCo (zEj (zAo s k j)).2
  refine ⟨a.1,?_,?_⟩
  ·show (zEz s.net _).lost<=_;omega
  ·show phiL (zEz s.net _).way<=phiL s.net.way+602;omega
 ·exact ⟨Int.le_refl _,by omega,Nat.le_add_right _ _⟩
theorem zPh(k:Nat):∀ (js:List Nat) (s:zAa),s.net.lost<=(js.foldl (tick1 k) s).net.lost/\(js.foldl (tick1 k) s).net.lost<=s.net.lost+js.length/\phiS (js.foldl (tick1 k) s)<=phiS s+602*js.length
 | [],s=>⟨Int.le_refl _,by simp,by simp⟩
 | j :: js,s=>by
  obtain ⟨a,b,c⟩:=zUl k s j
  obtain ⟨a',b',c'⟩:=zPh k js (tick1 k s j)
  rw [List.foldl_cons,List.length_cons]
  exact ⟨by omega,by omega,by omega⟩
theorem zUj{s:zAa}(h:Safe s):s.net.lost<=(zFd s).net.lost/\(zFd s).net.lost<=s.net.lost+20/\phiS (zFd s)<=phiS s+12040:=by
 have key:∀ m,m<=s.lines.length->s.net.lost<=((List.range m).foldl zDm s).net.lost/\((List.range m).foldl zDm s).net.lost<=s.net.lost+4*m/\phiS ((List.range m).foldl zDm s)<=phiS s+2408*m:=by
  intro m
  induction m with
  | zero=>exact fun _=>⟨Int.le_refl _,by simp,by simp⟩
  | succ m ih=>
   intro hm
   rw [List.range_succ,List.foldl_append]
   obtain ⟨a,b,c⟩:=ih (by omega)
   have hg:Safe ((List.range m).foldl zDm s)/\zCh s ((List.range m).foldl zDm s):=by
    suffices key:∀ m,m<=s.lines.length->Safe ((List.range m).foldl zDm s)/\zCh s ((List.range m).foldl zDm s) from key m (by omega)
    intro m
    induction m with
    | zero=>exact fun _=>⟨h,zCh.refl s⟩
    | succ m ih=>
     intro hm
     rw [List.range_succ,List.foldl_append]
     obtain ⟨a,b⟩:=ih (by omega)
     obtain ⟨c,d⟩:=zJz a (k:=m) (by rw [b.mv.ll];omega)
     exact ⟨c,b.trans d⟩
   generalize (List.range m).foldl zDm s=S at a b c hg
   obtain ⟨a',b',c'⟩:=zPh m (List.range (S.line m).nodes.length) S
   have h4:=hg.1.len4 (k:=m) (by rw [hg.2.mv.ll];omega)
   rw [List.length_range] at b' c'
   show s.net.lost<=(zDm S m).net.lost/\(zDm S m).net.lost<=_/\phiS (zDm S m)<=_
   unfold zDm
   exact ⟨by omega,by omega,by omega⟩
 have:=key s.lines.length (Nat.le_refl _)
 have:=h.ll.2
 unfold zFd
 omega
theorem yIt{s:zAa}(h:Safe s):zHn (zFd s)<=zHn s:=(zMa h).2.mv.room
theorem yIu{s:zAa}(h:Safe s)(hl:∀ k j,(zAo (zFd s) k j).log=(zAo s k j).log)(hn:zDl s=false):zDl (zFd s)=false:=by
 obtain ⟨a,b⟩:=zMa h
 refine zNr.2 fun k hk=>?_
 have hk':k<s.lines.length:=by rw [b.mv.ll] at hk;exact hk
 have e1:=zNr.1 hn k hk'
 have p1:=List.length_pos_iff.2 (a.line k hk).ne
 have p2:=List.length_pos_iff.2 (h.line k hk').ne
 have e2:=hl k ((s.line k).nodes.length - 1)
 have t1:zFv (zFd s) k=zAo (zFd s) k ((s.line k).nodes.length - 1):=by
  unfold zFv
  rw [zEo _ _ p1]
  symm
  refine zFg ?_
  rw [<-b.mv.len k]
  exact List.getElem?_eq_getElem (by omega)
 have t2:zFv s k=zAo s k ((s.line k).nodes.length - 1):=by
  unfold zFv
  rw [zEo _ _ p2]
  symm
  exact zFg (List.getElem?_eq_getElem (by omega))
 unfold zFs at e1 ⊢
 rw [t1,e2,<-t2,b.heard];exact e1
theorem yIw{s:zAa}(h:Safe s){k:Nat}(hk:k<s.lines.length)(j k' j':Nat):(zAo (tick1 k s j) k' j').log=(zAo s k' j').log:=by
 unfold tick1
 split
 ·have hg:=(zJl (zAo s k j)).2.1
  show (((zCa s k j (zEj (zAo s k j)).1).line k').nodes.getD j' ⟨0,0,[],[],0⟩).log=_
  rw [zDx s hk]
  split
  ·rename_i e;subst e
   show (((s.line k').nodes.set j _).getD j' _).log=_
   rw [List.getD_eq_getElem?_getD,zDj]
   split
   ·rename_i e2;rw [e2.1];exact hg
   ·rw [<-List.getD_eq_getElem?_getD];rfl
  ·rfl
 ·rfl
theorem yFw{s:zAa}(h:Safe s){k:Nat}(hk:k<s.lines.length)(k' j':Nat):(zAo (zDm s k) k' j').log=(zAo s k' j').log:=by
 unfold zDm
 generalize List.range (s.line k).nodes.length=js
 suffices key:∀ (js:List Nat) (S:zAa),Safe S->k<S.lines.length->(zAo (js.foldl (tick1 k) S) k' j').log=(zAo S k' j').log from key js s h hk
 intro js
 induction js with
 | nil=>exact fun S _ _=>rfl
 | cons j js ih=>
  intro S a hk
  obtain ⟨c,d⟩:=a.tick1 (k:=k) (j:=j) hk
  rw [List.foldl_cons,ih _ c (by rw [d.mv.ll];exact hk),yIw a hk]
theorem yIv{s:zAa}(h:Safe s)(k' j':Nat):(zAo (zFd s) k' j').log=(zAo s k' j').log:=by
 unfold zFd
 suffices key:∀ m,m<=s.lines.length->Safe ((List.range m).foldl zDm s)/\zCh s ((List.range m).foldl zDm s)/\(zAo ((List.range m).foldl zDm s) k' j').log=(zAo s k' j').log from (key _ (Nat.le_refl _)).2.2
 intro m
 induction m with
 | zero=>exact fun _=>⟨h,zCh.refl s,rfl⟩
 | succ m ih=>
  intro hm
  rw [List.range_succ,List.foldl_append]
  obtain ⟨a,b,e⟩:=ih (by omega)
  obtain ⟨c,d⟩:=zJz a (k:=m) (by rw [b.mv.ll];omega)
  exact ⟨c,b.trans d,(yFw a (by rw [b.mv.ll];omega) k' j').trans e⟩
theorem zEe.tick{s:zAa}(h:zEe s):zEe (zFd s)/\zBu s (zFd s)/\potS (zFd s)<=potS s+9040000000/\s.net.lost<=(zFd s).net.lost:=by
 obtain ⟨a,b⟩:=zMa h.safe
 obtain ⟨c1,c2,c3⟩:=zUj h.safe
 have r:=yIt h.safe
 have q:=b.toS a h.held
 refine ⟨⟨a,q.held,yIu h.safe (yIv h.safe) h.none,b.few h.few⟩,q,?_,c1⟩
 have hmu:muS (zFd s)<=muS s+12040:=by
  have hr:zHn (zFd s)*120401<=zHn s*120401:=Nat.mul_le_mul_right _ r
  show zHn (zFd s)*120401+phiS (zFd s)<=zHn s*120401+phiS s+12040
  rw [Nat.add_assoc]
  exact Nat.add_le_add hr c3
 unfold potS
 omega
def zQs(s:zAa):zAa:=zLs (zFd s)
def calm1(s:zAa):zAa:=zQs (zQs (zQs (zQs s)))
theorem zKy{s:zAa}(h:zEe s):zEe (zQs s)/\zBu s (zQs s)/\potS (zQs s)<=potS s+9040000000/\s.net.lost<=(zQs s).net.lost/\(zQs s).net.way=[]:=by
 obtain ⟨a,b,c,d⟩:=h.tick
 obtain ⟨a',b',c',d'⟩:=yHi a
 obtain ⟨e,f⟩:=yLi a
 exact ⟨a',b.trans b',Int.le_trans f c,Int.le_trans d e,d'⟩
theorem zQd{s:zAa}(h:zEe s):zEe (calm1 s)/\zBu s (calm1 s)/\potS (calm1 s)<=potS s+36160000000/\s.net.lost<=(calm1 s).net.lost:=by
 obtain ⟨a1,b1,c1,d1,_⟩:=zKy h
 obtain ⟨a2,b2,c2,d2,_⟩:=zKy a1
 obtain ⟨a3,b3,c3,d3,_⟩:=zKy a2
 obtain ⟨a4,b4,c4,d4,_⟩:=zKy a3
 unfold calm1
 exact ⟨a4,((b1.trans b2).trans b3).trans b4,by omega,by omega⟩
def calmF:Nat->zAa->zAa
 | 0,s=>s
 | n+1,s=>if zFz (calm1 s)=zFz s then calm1 s else calmF n (calm1 s)
def zIa(s:zAa):zAa:=calmF 10001 s
theorem yHu(n:Nat):∀ {s:zAa},zEe s->zEe (calmF n s)/\zBu s (calmF n s):=by
 induction n with
 | zero=>intro s h;exact ⟨h,zBu.refl h.safe h.held⟩
 | succ n ih=>
  intro s h
  unfold calmF
  obtain ⟨a,b,_⟩:=zQd h
  split
  ·exact ⟨a,b⟩
  ·obtain ⟨a',b'⟩:=ih a
   exact ⟨a',b.trans b'⟩
theorem yBd{s:zAa}(h:zEe s):zEe (zIa s)/\zBu s (zIa s):=yHu _ h
end Go.Proofs.YtmaiggbnceejiaaGreatDoor
namespace Go.Proofs.YtmaiggbnceejiaaGreatDoor
open Go.RowKit Go.Lib Go.Maps
theorem RowM.toV{w:World}{L:Lo}{v:Value}{ms:List MsgD}(h:RowM w L v ms):yDt w L (fun k=>v.ownBlock=some k) v ms:=by
 have h0:=h
 obtain ⟨us,h1,h2,h3,h4⟩:=h
 by_cases hn:ms=[]
 ·subst hn
  rcases h2.2 with ⟨rfl,_⟩ | ⟨g,cap,cur,rfl,_,_,hc1,hc2,_⟩
  ·exact ⟨none,0,rfl,Nat.zero_le _,Nat.zero_le _,.inl rfl⟩
  ·exact ⟨_,cap,rfl,hc1,hc2,.inl rfl⟩
 ·obtain ⟨m,hm⟩:∃ m,ms[0]?=some m:=by cases ms with
   | nil=>exact absurd rfl hn
   | cons x l=>exact ⟨x,rfl⟩
  obtain ⟨g,cap,_,hv,hc1,hc2,_⟩:=h0.at hm
  refine ⟨_,cap,hv,hc1,hc2,.inr ⟨g,0,rfl,by rw [hv];rfl,fun i m hi=>?_⟩⟩
  obtain ⟨g',cap',u,hv',_,_,hu,hgm,q0,q1,q2,q3,q4,q5,q6,q7,q8⟩:=h0.at hi
  rw [hv] at hv'
  simp only [Value.slice.injEq,Option.some.injEq,Addr.mk.injEq] at hv'
  obtain ⟨⟨rfl,_⟩,_,rfl⟩:=hv'
  refine ⟨u,hu,hgm,fun j x hx=>?_⟩
  rw [Nat.zero_add]
  have hj:j<9:=by
   have:=(List.getElem?_eq_some_iff.1 hx).1
   simpa [zAp] using this
  have:j=0\/j=1\/j=2\/j=3\/j=4\/j=5\/j=6\/j=7\/j=8:=by omega
  rcases this with rfl | rfl | rfl | rfl | rfl | rfl | rfl | rfl | rfl <;> (simp [zAp] at hx;subst hx;assumption)
theorem RowM.block{w:World}{L:Lo}{v:Value}{ms:List MsgD}(h:RowM w L v ms){k:Nat}(hk:v.ownBlock=some k):k<w.heap.size/\∃ cur,w.heap[k]?=some (.cells cur 112):=by
 obtain ⟨us,_,h2,_⟩:=h
 obtain ⟨_,q2,cur,q3⟩:=zAh h2 hk
 exact ⟨q2,cur,q3⟩
theorem zLo(n c g:Nat)(y:HLay)(s:zAa)(v:Value)(ms:List MsgD)(w:World)(h:zAd w n c g y s)(hv:RowM w (y.lo n) v ms)(hno:∀ k,v.ownBlock=some k->y.own k=.no)(hlo:s.net.lost+ms.length<=4611686018427387904) :
  Calls Tryz.prog 48 #[.pointer (some ⟨g,2,none⟩),v] w fun e w'=>(∃ x,e=.returned (.int .i64 x))/\∃ y',zAd w' n c g y' (zMt s ms)/\zAn w y w' y':=by
 refine (yEe (y.lo n) g y.wv y.mr s.net _ v ms w h.netP hv.toV (fun k hk=>⟨(hv.block hk).1,fun e=>?_⟩) hlo).mono ?_
 ·have h0:=hno k hk
  rcases e with e | e | e
  ·rw [e,h.own.main] at h0;cases h0
  ·rw [h.own.net k (.inl e)] at h0;cases h0
  ·rw [h.own.net k (.inr e)] at h0;cases h0
 ·rintro e w' ⟨wv',rfl,hN,hMv,hmd⟩
  obtain ⟨hH,hS⟩:=h.turnW hmd hN hMv (.inl rfl)
  exact ⟨⟨_,rfl⟩,_,hH,hS,rfl,rfl,rfl,rfl,rfl⟩
theorem zAd.turnS{w w':World}{n c g:Nat}{y:HLay}{s:zAa}(h:zAd w n c g y s){k b j d:Nat}(hk:k<s.lines.length)(hb:y.lbs[k]?=some b)(hd:(y.nbs b)[j]?=some d){nv lv v:Value}{x:zAl}{ms:List MsgD}
  (hm:Mod (zAt d (y.nnv d) (y.nlv d)) w w') (hN:zAx w' (y.lo n) d nv lv x) (h1:zCe w (y.nnv d) nv) (h2:zCe w (y.nlv d) lv) (hv:RowM w' (y.lo n) v ms) (hf:zCm w v) :
  ∃ y',zAd w' n c g y' (zCa s k j x)/\zAn w y w' y'/\RowM w' (y'.lo n) v ms/\∀ z,v.ownBlock=some z->y'.own z=.no:=by
 obtain ⟨hH,hS⟩:=h.turnN hk hb hd hm hN h1 h2
 refine ⟨_,hH,⟨hS,rfl,rfl,rfl,rfl,rfl⟩,hv,fun z hz=>?_⟩
 have hzf:=hf z hz
 obtain ⟨_,cur,hcur⟩:=hv.block hz
 simp only [HLay.setN]
 rw [if_neg]
 ·exact Classical.byContradiction fun e=>by have:=(h.own.lt z e).2;omega
 ·rintro ⟨_,e | e | e⟩
  ·have hB:=hN.blk
   unfold Blk at hB
   rw [<-e,hcur] at hB;simp at hB
  ·obtain ⟨_,_,cur2,h2⟩:=zAh hN.ns e
   rw [hcur] at h2;simp at h2
  ·obtain ⟨us,_,h3,_⟩:=hN.lg
   obtain ⟨_,_,cur2,h2⟩:=zAh h3 e
   rw [hcur] at h2;simp at h2
def zMs(s:zAa)(m:Nat):zAa:=(List.range m).foldl zDc s
theorem zUn(s:zAa)(m:Nat):zMs s (m+1)=zDc (zMs s m) m:=by unfold zMs;rw [List.range_succ,List.foldl_append];rfl
theorem yGa{s:zAa}(h:Safe s):∀ m,m<=s.lines.length->Safe (zMs s m)/\zCh s (zMs s m)/\(zMs s m).net.lost<=s.net.lost+m*s.txs.length:=by
 intro m
 induction m with
 | zero=>exact fun _=>⟨h,zCh.refl s,by simp [zMs]⟩
 | succ m ih=>
  intro hm
  rw [zUn]
  obtain ⟨a,b,c⟩:=ih (by omega)
  obtain ⟨a',b',_⟩:=zRl a (k:=m) (by rw [b.mv.ll];omega)
  obtain ⟨_,d',_⟩:=zRk (zMs s m) m
  refine ⟨a',b.trans b',?_⟩
  rw [b.mv.tl] at d'
  have e:((m+1:Nat):Int)*(s.txs.length:Int)=(m:Int)*(s.txs.length:Int)+(s.txs.length:Int):=by
   rw [show ((m+1:Nat):Int)=(m:Int)+1 by omega,Int.add_mul,Int.one_mul]
  rw [e];omega
def telT(s:zAa)(k j:Nat):zAa:=((List.range j).map (·+1)).foldl (fun h id=>zJm h k (zAq s k).log id) s
theorem zYp(s:zAa)(k j:Nat):telT s k (j+1)=zJm (telT s k j) k (zAq s k).log (j+1):=by unfold telT;rw [List.range_succ,List.map_append,List.foldl_append];rfl
theorem yIx{s:zAa}(h:Safe s){k:Nat}(hk:k<s.lines.length)(hv:zAs s (zAq s k)=true):∀ j,j<=s.txs.length->yDs s (telT s k j) k j/\(telT s k j).net.lost<=s.net.lost+j:=by
 intro j
 induction j with
 | zero=>exact fun _=>⟨⟨h,zCh.refl s,⟨[],by simp [telT],by simp⟩,fun id i1 i2=>by omega,fun _ _=>rfl,hv⟩,by simp [telT]⟩
 | succ j ih=>
  intro hj
  rw [zYp]
  obtain ⟨a,b⟩:=ih (by omega)
  have c:=zUo (telT s k j) k (zAq s k).log (j+1)
  exact ⟨a.step hk (by omega),by omega⟩
theorem yBz{s:zAa}(h:Safe s){k:Nat}(hk:k<s.lines.length)(hv:zAs s (zAq s k)=true):zDc s k=telT s k s.txs.length:=by
 unfold zDc
 cases hh:zOq s k with
 | none=>rw [yAj h hk hh] at hv;cases hv
 | some n=>obtain ⟨rfl,_⟩:=zSq h hk hh;rfl
theorem yCa{s:zAa}(h:Safe s){k:Nat}(hk:k<s.lines.length)(hv:zAs s (zAq s k)=false):zDc s k=s:=by
 unfold zDc
 cases hh:zOq s k with
 | none=>rfl
 | some n=>obtain ⟨rfl,e⟩:=zSq h hk hh;rw [hv] at e;cases e
theorem DueP.out{w w':World}{r:Option CmdD}{e:Ending}(h:DueP w w' r e):∃ (d:CmdD) (u:Value) (ok:Bool),e=.returned (.tuple #[.agg #[.int .i64 d.kind,.int .i64 d.tx,.int .i64 d.time,u],.bool ok])/\w'.ownsRow w.heap.size 68 3 u d.writes.length (zBp d.writes)/\r=(if ok then some d else none)/\Mod zAb w w':=h
theorem yOv{s:zAa}(h:Safe s){id k:Nat}(h1:1<=id)(h2:id<=s.txs.length)(hk:k<s.lines.length){c:CmdD}{time:Int}(ht:1<=time/\time<=501)(hd:dueH s id k time=some c):zXs c:=by
 have hx:=h.tx id h1 h2
 have htl:=h.tl
 have i0:zBm (0:Int):=by unfold zBm;omega
 have i2:zBm (2:Int):=by unfold zBm;omega
 have i3:zBm (3:Int):=by unfold zBm;omega
 have i4:zBm (4:Int):=by unfold zBm;omega
 have ii:zBm (id:Int):=by unfold zBm;omega
 unfold dueH at hd
 simp only at hd
 split at hd
 ·split at hd
  ·cases hd;exact ⟨⟨i3,ii,show zBm time by unfold zBm;omega⟩,by simp⟩
  ·cases hd
 ·split at hd
  ·cases hd
  ·split at hd
   ·cases hd
    refine ⟨⟨i2,ii,i0⟩,?_⟩
    have:(zDq s (s.tx id) k).length<=(s.tx id).writes.length:=List.length_filter_le _ _
    have:=hx.few.1
    show (zDq s (s.tx id) k).length<=40
    omega
   ·split at hd
    ·cases hd
     have:=hx.tm
     exact ⟨⟨i3,ii,show zBm (s.tx id).time by unfold zBm;omega⟩,by simp⟩
    ·split at hd
     ·cases hd;exact ⟨⟨i4,ii,i0⟩,by simp⟩
     ·cases hd
theorem zWk(n c g:Nat)(y:HLay)(s:zAa)(w:World)(h:zAd w n c g y s)(hS:Safe s)(hlo:s.net.lost+300<=4611686018427387904) :
  Calls Tryz.prog 42 #[.pointer (some ⟨g,0,none⟩)] w fun e w'=>e=.returned (.tuple #[])/\∃ y',zAd w' n c g y' (zDy s)/\zAn w y w' y':=by
 obtain ⟨c0,-⟩:=blkH h.blk
 obtain ⟨la,lcap,hlv⟩:=zAf h.lrow
 have hll:=hS.ll
 have htl:=hS.tl
 have hlen:=h.llen
 rw [hlv,hlen] at c0
 have hLT:(s.lines.length:Int)*(s.txs.length:Int)<=300:=by
  have h1:s.lines.length*s.txs.length<=5*60:=Nat.mul_le_mul hll.2 htl
  have:((s.lines.length*s.txs.length:Nat):Int)<=300:=by omega
  simpa using this
 have HLV:Hid (y.lv=.slice la s.lines.length lcap):=by unfold Hid;rw [hlv,hlen]
 have HH:=Hmq h
 have HS:=Hmq hS
 have HLT:=Hmq hLT
 clear h hS hlv hLT
 go_enter Tryz.func42,Tryz.ntmps42
 go_wp2_with fail
 go_loopw [17] (fun k0 wr=>∃ (k:Nat) (yr:HLay),k<=s.lines.length/\k0=.int .i64 k/\zAd wr n c g yr (zMs s k)/\zAn w y wr yr) (fun k0 _=>s.lines.length - (intOf k0).toNat)
 case atStart=>exact ⟨0,y,Nat.zero_le _,rfl,HH.out,zAn.refl _ _⟩
 case round=>
  obtain ⟨k,yr,hkl,rfl,hH,hK⟩:=hrel
  obtain ⟨wo,hwo⟩:∃ x,x=wr:=⟨_,rfl⟩
  subst hwo
  by_cases hlt:k<s.lines.length
  ·obtain ⟨tS,tT,tL⟩:=yGa HS.out k hkl
   have hkT:(zMs s k).net.lost+s.txs.length<=4611686018427387904:=by
    have:((k:Int)+1)*(s.txs.length:Int)<=(s.lines.length:Int)*(s.txs.length:Int):=Int.mul_le_mul_of_nonneg_right (by omega) (by omega)
    rw [Int.add_mul,Int.one_mul] at this
    have:=HLT.out
    omega
   have hSU:=zUn s k
   have hTl:(zMs s k).txs.length=s.txs.length:=tT.mv.tl
   have hk':k<(zMs s k).lines.length:=by rw [tT.mv.ll];exact hlt
   have HSU:=Hmq hSU
   clear hSU tT tL
   generalize zMs s k=S at hH tS hkT hTl hk' HSU
   obtain ⟨b,hb,hL⟩:=hH.lineQ hk'
   obtain ⟨d,hd,x,hx,hNq⟩:=hL.nodeQ (j:=0) (by have:=List.length_pos_iff.2 (tS.line k hk').ne;omega)
   have hx0:x=zAq S k:=by
    have:=tS.head hk'
    rw [hx] at this
    exact Option.some.inj this
   subst hx0
   have hst:yr.st S d=zAq S k:=hH.st_eq hb (zBh hk') hd hx
   have HHD:=Hmq (yAg n c g yr S k b d wo hH hk' hb hd)
   rw [hst] at HHD
   have hkI:(k:Int)<(s.lines.length:Int):=by omega
   have hk0:(0:Int)<=(k:Int):=by omega
   have HHo:=Hmq hH
   have HKo:=Hmq hK
   have HB:=Hmq hb
   have HD:=Hmq hd
   have HTS:=Hmq tS
   have HKK:=Hmq hk'
   clear hH hK hL hb hd hx hNq tS hst hk'
   cases hv:zAs S (zAq S k) with
   | false=>
    rw [hv] at HHD
    have HE:Hid (zMs s (k+1)=S):=by unfold Hid;rw [HSU.out,yCa HTS.out HKK.out hv]
    clear hv
    go_upto_region 4 with (first
     | (go_at_call 64;refine HHD.out.mono ?_;rintro e w1 ⟨rfl,hm1⟩)
     | fail)
    have HF:Hid (zAd w1 n c g yr (zMs s (k+1))/\zAn w y w1 yr):=⟨by rw [HE.out];exact HHo.out.quiet hm1,HKo.out.trans (zAn.quiet hm1)⟩
    clear hm1
    go_wp2_with fail
    go_roundw
    case rel=>exact ⟨k+1,yr,by omega,by go_num,HF.out.1,HF.out.2⟩
    case measure=>simp [intOf];omega
   | true=>
    rw [hv] at HHD
    have hfew:(zAq S k).log.length<=305:=(HTS.out.log k HKK.out).few HTS.out.tl
    have HLG:Hid (∀ wq,Mod zAb wo wq->Calls Tryz.prog 40 #[.pointer (some ⟨d,0,none⟩)] wq fun e w'=>∃ v,e=.returned v/\RowC w' (yr.lo n) v (zAq S k).log/\zCm wq v/\Mod zAb wq w'):=fun wq hq=>by
     have hN:=(HHo.out.quiet hq).nodeB HB.out (List.mem_of_getElem? HD.out)
     have hst:yr.st S d=zAq S k:=HHo.out.st_eq HB.out (zBh HKK.out) HD.out (HTS.out.head HKK.out)
     rw [hst] at hN
     exact zOy _ _ _ _ _ _ hN
    have HV:=Hmq hv
    clear hv
    go_upto_region 5 with (first
     | (go_at_call 64;refine HHD.out.mono ?_;rintro e w1 ⟨rfl,hm1⟩)
     | fail)
    have HLG1:=Hmq (HLG.out w1 hm1)
    have HM1:=Hmq hm1
    clear hm1 HHD
    go_upto_region 6 with (first
     | (go_at_call 40;refine HLG1.out.mono ?_;rintro e w2 ⟨v,rfl,hrc,hfv,hm2⟩;obtain ⟨va,vc,hva⟩:=hrc.slice;subst hva)
     | fail)
    have hm02:Mod zAb wo w2:=HM1.out.trans hm2
    have hcf:yIb w2 yr (.slice va (zAq S k).log.length vc) (zAq S k).log:=by
     refine ⟨hrc.toV,.inr fun z hz=>?_⟩
     have hz2:=hfv z hz
     have hz1:=HM1.out.size
     obtain ⟨us,_,h3,_⟩:=hrc
     refine ⟨?_,(zAh h3 hz).2.1⟩
     exact Classical.byContradiction fun e=>by have:=(HHo.out.own.lt z e).2;omega
    have HCF:=Hmq hcf
    have HH2:=Hmq (HHo.out.quiet hm02)
    have HK2:=Hmq (HKo.out.trans (zAn.quiet hm02))
    clear hrc hfv hm2 hm02 hcf HLG HLG1 HM1
    go_wp2_with fail
    go_loopw [6] (fun j0 wi=>∃ (j:Nat) (yi:HLay),j<=s.txs.length/\j0=.int .i64 ((j:Int)+1)/\zAd wi n c g yi (telT S k j)/\zAn w y wi yi/\zAn w2 yr wi yi) (fun j0 _=>s.txs.length+1 - (intOf j0).toNat)
    case atStart=>exact ⟨0,yr,Nat.zero_le _,rfl,HH2.out,HK2.out,zAn.refl _ _⟩
    case round=>
     obtain ⟨j,yi,hjl,rfl,hHi,hKi,hKr⟩:=hrel
     obtain ⟨wi,hwi⟩:∃ x,x=wr:=⟨_,rfl⟩
     subst hwi
     obtain ⟨tI,tL⟩:=yIx HTS.out HKK.out HV.out j (by rw [hTl];exact hjl)
     have hSU2:=zYp S k j
     have HSU2:=Hmq hSU2
     have hAll:=yBz HTS.out HKK.out HV.out
     rw [hTl] at hAll
     have HAll:=Hmq hAll
     clear hSU2 hAll
     obtain ⟨-,-,-,-,-,-,c6⟩:=blkH hHi.blk
     obtain ⟨ta,tcap,htv⟩:=zAf hHi.trow
     have htlen:yi.tbs.length=s.txs.length:=by rw [hHi.tlen,tI.tells.mv.tl,hTl]
     rw [htv,htlen] at c6
     by_cases hjlt:j<s.txs.length
     ·have hjI:(j:Int)+1<=(s.txs.length:Int):=by omega
      generalize hRR:telT S k j=R at hHi tI tL HSU2
      have hkR:k<R.lines.length:=by rw [tI.tells.mv.ll];exact HKK.out
      have hRT:R.txs.length=s.txs.length:=by rw [tI.tells.mv.tl,hTl]
      have hbi:yi.lbs[k]?=some b:=by rw [hKr.l];exact HB.out
      have hdi:(yi.nbs b)[0]?=some d:=by rw [hKr.n];exact HD.out
      have hRS:=tI.safe
      have hRf:(zAq R k).log.length<=305:=(hRS.log k hkR).few hRS.tl
      have hsti:yi.st R d=zAq R k:=hHi.st_eq hbi (zBh hkR) hdi (hRS.head hkR)
      have hNi:=hHi.nodeB hbi (List.mem_of_getElem? hdi)
      rw [hsti] at hNi
      have HLE:=Hmq (zXz _ _ _ _ _ _ hNi)
      have ejj:((j+1:Nat):Int)=(j:Int)+1:=by omega
      have HDU:=Hmq (yQu n c g yi R (j+1) k ((zAq R k).log.length+1) wi hHi hRS.shape (by omega) (by omega) hkR (hRS.tx (j+1) (by omega) (by omega)).few.2)
      rw [ejj] at HDU
      have HHi:=Hmq hHi
      have HKi:=Hmq hKi
      have HKr:=Hmq hKr
      have HRS:=Hmq hRS
      have HBi:=Hmq hbi
      have HDi:=Hmq hdi
      have HNi:=Hmq hNi
      have HTL:Hid (R.net.lost<=S.net.lost+j):=tL
      have HPL0:Hid (∀ kind wq,zBv w2 yr wq yi->Calls Tryz.prog 80 #[.slice va (zAq S k).log.length vc,.int .i64 kind,.int .i64 ((j:Int)+1)] wq fun e w'=>e=.returned (.int .i64 (idxI (zDn (zAq S k).log kind ((j:Int)+1))))/\Mod zAb wq w'):=fun kind wq hq=>zPy _ _ kind _ wq (HCF.out.keep hq).1 (by omega)
      clear hHi hKi hKr hbi hdi hNi hsti tI tL hRS htv htlen hRR
      go_upto_region 10 with (first
       | (go_at_call 79;refine HLE.out.mono ?_;rintro e w3 ⟨rfl,rfl⟩)
       | (go_at_call 78;refine HDU.out.mono ?_;rintro e w4 hdue;obtain ⟨dc,u,ok,rfl,hrow,hres,hm4⟩:=hdue.out;obtain ⟨ua,uc,hua⟩:=zAf hrow;subst hua)
       | fail)
      obtain ⟨w5,hw5⟩:∃ z,z=w4.alloc (.cells #[.int .i64 dc.kind,.int .i64 dc.tx,.int .i64 dc.time,.slice ua dc.writes.length uc] 65):=⟨_,rfl⟩
      rw [<-hw5]
      have hm45:Mod zAb w4 w5:=by rw [hw5];exact (Mod.refl _ w4).alloc _
      have hb5:Blk w5 w4.heap.size [.int .i64 dc.kind,.int .i64 dc.tx,.int .i64 dc.time,.slice ua dc.writes.length uc] 65:=by rw [hw5];exact Blk.new w4 _ _
      have hm35:Mod zAb w3 w5:=hm4.trans hm45
      have hz4:=hm4.size
      have x0:=hb5.cell 0 rfl
      have HH5:=Hmq (HHi.out.quiet hm35)
      have HK5:=Hmq (HKi.out.trans (zAn.quiet hm35))
      have HR5:=Hmq (HKr.out.trans (zAn.quiet hm35))
      have HRow:=Hmq (zAm hrow hm45 (fun _ _ _ _=>id))
      have HB5:=Hmq hb5
      have HM35:=Hmq hm35
      have HRes:=Hmq hres
      clear hw5 hm4 hm45 hb5 hm35 hrow hres HDU HLE
      have HDR:Hid (∀ R',zJm R k (zAq S k).log (j+1)=R'->telT S k (j+1)=R'):=fun R' e=>by rw [HSU2.out];exact e
      cases ok with
      | false=>
       have HF:Hid (telT S k (j+1)=R):=HDR.out _ (by
        unfold zJm
        rw [HRes.out];rfl)
       clear HRes
       go_wp2_with fail
       go_roundw
       case rel=>exact ⟨j+1,yi,by omega,by go_num,by rw [HF.out];exact HH5.out,HK5.out,HR5.out⟩
       case measure=>simp [intOf];omega
      | true=>
       have HPL:=Hmq (HPL0.out dc.kind w5 HR5.out.st)
       cases hpc:zDn (zAq S k).log dc.kind ((j:Int)+1) with
       | some i=>
        rw [hpc] at HPL
        have hi0:decide ((i:Int)<0)=false:=decide_eq_false (by omega)
        have HF:Hid (telT S k (j+1)=R):=HDR.out _ (by
         unfold zJm
         rw [HRes.out]
         show (if (zDn (zAq S k).log dc.kind ((j+1:Nat):Int)).isNone=true then _ else _)=_
         rw [ejj,hpc];rfl)
        clear HRes hpc
        go_wp2_with (first
         | (go_at_call 80;refine HPL.out.mono ?_;rintro e w6 ⟨rfl,hm6⟩;simp only [idxI])
         | fail)
        have HF2:Hid (zAd w6 n c g yi (telT S k (j+1))/\zAn w y w6 yi/\zAn w2 yr w6 yi):=⟨by rw [HF.out];exact HH5.out.quiet hm6,HK5.out.trans (zAn.quiet hm6),HR5.out.trans (zAn.quiet hm6)⟩
        clear hm6
        go_wp2_with fail
        go_roundw
        case rel=>exact ⟨j+1,yi,by omega,by go_num,HF2.out.1,HF2.out.2.1,HF2.out.2.2⟩
        case measure=>simp [intOf];omega
       | none=>
        rw [hpc] at HPL
        have hdue:dueH R (j+1) k ((zAq R k).log.length+1)=some dc:=HRes.out
        have hgc:=yOv HRS.out (by omega) (by omega) hkR (by omega) hdue
        have HF:Hid (telT S k (j+1)=zMt (zCa R k 0 (zGd (zAq R k) dc).1) (zGd (zAq R k) dc).2):=HDR.out _ (by
         unfold zJm
         rw [hdue]
         show (if (zDn (zAq S k).log dc.kind ((j+1:Nat):Int)).isNone=true then addH R k dc else _)=_
         rw [ejj,hpc]
         show addH R k dc=_
         unfold addH
         rw [HRS.out.add hkR])
        have HADD:Hid (∀ wq,Mod zAb w5 wq->Calls Tryz.prog 81 #[.pointer (some ⟨d,0,none⟩),.agg #[.int .i64 dc.kind,.int .i64 dc.tx,.int .i64 dc.time,.slice ua dc.writes.length uc]] wq fun e w'=>
          ∃ v lv',e=.returned (.tuple #[.int .i64 (zAq R k).log.length,v,.nilIface])/\zAx w' (yi.lo n) d (yi.nnv d) lv' (zGd (zAq R k) dc).1/\RowM w' (yi.lo n) v (zGd (zAq R k) dc).2/\zCm wq v/\zCe wq (yi.nlv d) lv'/\Mod (zAt d (yi.nnv d) (yi.nlv d)) wq w'):=fun wq hq=>by
         have hN:=HNi.out.quiet (HM35.out.trans hq)
         have hpt:zAw wq (yi.lo n) (.slice ua dc.writes.length uc) dc.writes:=by
          have h0:=zAm HRow.out hq (fun _ _ _ _=>id)
          exact zAw.of_own h0 (fun z hz=>yQg HHi.out.own z hz)
         exact yPd (yi.lo n) d (yi.nnv d) (yi.nlv d) (zAq R k) dc _ wq hN (HRS.out.headN hkR) (by omega) hpt hgc
        clear HRes hpc hdue hgc
        go_upto_region 11 with (first
         | (go_at_call 80;refine HPL.out.mono ?_;rintro e w6 ⟨rfl,hm6⟩;simp only [idxI])
         | fail)
        have hb6:=HB5.out.mod hm6 (fun e=>e)
        obtain ⟨z0,z1,z2,z3,-,-,-,-⟩:=blk4 hb6
        have HADD6:=Hmq (HADD.out w6 hm6)
        have HH6:=Hmq (HH5.out.quiet hm6)
        have HK6:=Hmq (HK5.out.trans (zAn.quiet hm6))
        have HR6:=Hmq (HR5.out.trans (zAn.quiet hm6))
        clear hm6 hb6 HADD HPL
        go_upto_region 12 with (first
         | (go_at_call 81;refine HADD6.out.mono ?_;rintro e w7 ⟨v7,lv7,rfl,hN7,hR7,hf7,hmv7,hm7⟩;obtain ⟨va7,vc7,hva7⟩:=hR7.slice;subst hva7)
         | fail)
        obtain ⟨y7,hH7,hK7,hR7',hno7⟩:=HH6.out.turnS hkR HBi.out HDi.out hm7 hN7 (.inl rfl) hmv7 hR7 hf7
        have hl7:=zXr (zAq R k) dc
        have HSE:=Hmq (zLo n c g y7 _ _ _ w7 hH7 hR7' hno7 (by
         show R.net.lost+((zGd (zAq R k) dc).2.length:Int)<=_
         have:=HTL.out
         omega))
        have HK7:=Hmq (HK6.out.trans hK7)
        have HR7:=Hmq (HR6.out.trans hK7)
        have hg7:=hH7.blk.lt
        clear hH7 hK7 hR7' hno7 hN7 hR7 hf7 hmv7 hm7 HADD6 z0 z1 z2 z3
        go_upto_region 8 with (first
         | (go_at_call 48;refine HSE.out.mono ?_;rintro e w8 ⟨⟨x8,rfl⟩,y8,hH8,hK8⟩)
         | fail)
        have HF2:Hid (zAd w8 n c g y8 (telT S k (j+1))/\zAn w y w8 y8/\zAn w2 yr w8 y8):=⟨by rw [HF.out];exact hH8,HK7.out.trans hK8,HR7.out.trans hK8⟩
        clear hH8 hK8 HSE
        go_wp2_with fail
        go_roundw
        case rel=>exact ⟨j+1,y8,by omega,by go_num,HF2.out.1,HF2.out.2.1,HF2.out.2.2⟩
        case measure=>simp [intOf];omega
     ·obtain rfl:j=s.txs.length:=by omega
      have hjI:¬ ((s.txs.length:Int)+1<=(s.txs.length:Int)):=by omega
      have HF:Hid (zAd wi n c g yi (zMs s (k+1))/\zAn w y wi yi):=⟨by rw [HSU.out,HAll.out];exact hHi,hKi⟩
      clear hHi hKi hKr tI tL htv htlen
      go_wp2_with fail
      go_roundw
      case rel=>exact ⟨k+1,yi,by omega,by go_num,HF.out.1,HF.out.2⟩
      case measure=>simp [intOf];omega
  ·obtain rfl:k=s.lines.length:=by omega
   have HF:Hid (∃ y',zAd wo n c g y' (zDy s)/\zAn w y wo y'):=⟨yr,hH,hK⟩
   clear hH hK
   go_wp2_with fail
   go_end0
   exact ⟨rfl,HF.out⟩
theorem yKq{s:zAa}(h:zDl s=false):zHy s=s:=by
 have hn:=zNr.1 h
 have key:∀ m,m<=s.lines.length->zHx s m=s:=by
  intro m
  induction m with
  | zero=>exact fun _=>rfl
  | succ m ih=>
   intro hm
   rw [zMm,ih (by omega)]
   unfold zNc
   rw [hn m (by omega)];rfl
 exact key s.lines.length (Nat.le_refl _)
def zYb(n c g:Nat)(w:World)(y:HLay)(s:zAa)(wr:World)(f:Nat):Prop:=∃ (S:zAa) (yr:HLay),f<=500*s.lines.length+1/\zCi s=zEl f S/\Safe S/\Held S/\S.lines.length=s.lines.length/\500*s.lines.length - zSp S<f/\S.net.lost+300*f<=s.net.lost+300*(500*s.lines.length+1)/\zAd wr n c g yr S/\zAn w y wr yr
theorem zZw{P:Nat->Prop}:∀ n,P n->∃ f,P f/\∀ m,P m->f<=m:=by
 intro n
 induction n using Nat.strongRecOn with
 | ind n ih=>
  intro hn
  by_cases h:∃ m,m<n/\P m
  ·obtain ⟨m,h1,h2⟩:=h
   exact ih m h1 h2
  ·exact ⟨n,hn,fun m hm=>Classical.byContradiction fun q=>h ⟨m,by omega,hm⟩⟩
open Classical in
noncomputable def zLm(P:World->Nat->Prop)(w:World):Nat:=if h:∃ f,P w f/\∀ m,P w m->f<=m then Classical.choose h else 0
theorem zSe{P:World->Nat->Prop}{w:World}(h:∃ f,P w f):P w (zLm P w):=by
 obtain ⟨f,hf⟩:=h
 have h':=zZw f hf
 unfold zLm;rw [dif_pos h'];exact (Classical.choose_spec h').1
theorem zSd{P:World->Nat->Prop}{w:World}{f:Nat}(h:P w f):zLm P w<=f:=by
 have h':=zZw f h
 unfold zLm;rw [dif_pos h'];exact (Classical.choose_spec h').2 f h
theorem zPj(n c g:Nat)(y:HLay)(s:zAa)(w:World)(h:zAd w n c g y s)(hS:Safe s)(hHd:Held s)(hc:c<=10000)(hlo:s.net.lost+750300<=4611686018427387904) :
  Calls Tryz.prog 43 #[.pointer (some ⟨g,0,none⟩)] w fun e w'=>e=.returned (.tuple #[])/\∃ y',zAd w' n c g y' (zCi s)/\zAn w y w' y':=by
 have hll:=hS.ll
 have HH:=Hmq h
 have HS:=Hmq hS
 have HHd:=Hmq hHd
 have HU:Hid (∀ S:zAa,zEl (500*s.lines.length+1) s=S->zCi s=S):=fun S e=>e
 clear h hS hHd
 go_enter Tryz.func43,Tryz.ntmps43
 go_wp2_with fail
 go_loopw [] (fun wr=>∃ f,zYb n c g w y s wr f) (zLm (zYb n c g w y s))
 case atStart=>exact ⟨_,s,y,Nat.le_refl _,rfl,HS.out,HHd.out,rfl,by omega,Int.le_refl _,HH.out,zAn.refl _ _⟩
 case round=>
  obtain ⟨S,yr,hf,he,hS,hHd,hl,hfu,hlo2,hH,hK⟩:=zSe hrel
  obtain ⟨f,hff⟩:∃ f,f=zLm (zYb n c g w y s) wr:=⟨_,rfl⟩
  rw [<-hff] at hf he hfu hlo2
  have HFF:=Hmq hff
  clear hrel hff
  have HHE:=Hmq (yOi n c g yr S wr hH hS.shape hc hS.news)
  have hhg:=zMn hS hHd
  cases ha:zDl S with
  | false=>
   rw [ha] at HHE
   have HE:Hid (zCi s=zHy S):=by
    unfold Hid
    rw [he,yKq ha]
    cases f with
    | zero=>rfl
    | succ f=>unfold zEl;rw [ha];rfl
   have HK:=Hmq hK
   clear hH hK hS hHd he hfu hlo2 hhg
   go_wp2_with fail
   refine HHE.out.mono ?_
   rintro e w1 ⟨rfl,y1,hH1,hK1⟩
   have HF:Hid (∃ y',zAd w1 n c g y' (zCi s)/\zAn w y w1 y'):=⟨y1,by rw [HE.out];exact hH1,HK.out.trans hK1⟩
   clear hH1 hK1 HHE
   go_wp2_with fail
   go_end0
   exact ⟨rfl,HF.out⟩
  | true=>
   rw [ha] at HHE
   obtain ⟨r1,r2⟩:=zJo hS hHd
   rw [ha] at r2
   have hle:=yAh r1.safe
   have hl2:(zDy (zHy S)).lines.length=s.lines.length:=by rw [r1.mv.ll,hl]
   rw [hl2] at hle
   obtain ⟨f',rfl⟩:∃ f',f=f'+1:=⟨f - 1,by omega⟩
   have h3:=zRm hhg.1.safe
   rw [hhg.1.same.net] at h3
   have HTE:Hid (∀ wq yq,zAd wq n c g yq (zHy S)->Calls Tryz.prog 42 #[.pointer (some ⟨g,0,none⟩)] wq fun e w'=>e=.returned (.tuple #[])/\∃ y',zAd w' n c g y' (zDy (zHy S))/\zAn wq yq w' y'):=fun wq yq hq=>zWk n c g yq (zHy S) wq hq hhg.1.safe (by rw [hhg.1.same.net];omega)
   have HNX:Hid (∀ wq yq,zAd wq n c g yq (zDy (zHy S))->zAn w y wq yq->zYb n c g w y s wq f'):=fun wq yq h1 h2=>⟨zDy (zHy S),yq,by omega,by
    rw [he]
    show (if zDl S=true then zEl f' (zDy (zHy S)) else S)=_
    rw [ha];rfl,r1.safe,r1.held,hl2,by
    have:(if true=true then 1 else 0)=1:=rfl
    rw [this] at r2
    omega,by omega,h1,h2⟩
   have HK:=Hmq hK
   clear hH hK hS hHd he hfu hlo2 hhg r1 r2 hle hl2 h3
   go_wp2_with fail
   refine HHE.out.mono ?_
   rintro e w1 ⟨rfl,y1,hH1,hK1⟩
   have HTE1:=Hmq (HTE.out w1 y1 hH1)
   have HK1:=Hmq (HK.out.trans hK1)
   clear hH1 hK1 HHE
   go_wp2_with fail
   refine HTE1.out.mono ?_
   rintro e w2 ⟨rfl,y2,hH2,hK2⟩
   have HI:=Hmq (HNX.out w2 y2 hH2 (HK1.out.trans hK2))
   clear hH2 hK2 HTE1
   go_wp2_with fail
   go_roundw
   case rel=>exact ⟨f',HI.out⟩
   case measure=>
    have h1:=zSd HI.out
    have h2:=HFF.out
    omega
end Go.Proofs.YtmaiggbnceejiaaGreatDoor
