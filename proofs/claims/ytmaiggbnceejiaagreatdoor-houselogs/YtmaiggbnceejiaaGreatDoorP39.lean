import Derived.Test.YtmaiggbnceejiaaGreatDoorP37
import Derived.Test.YtmaiggbnceejiaaGreatDoorP38
import Derived.Test.YtmaiggbnceejiaaGreatDoorP26
import Derived.RangeFuncNested
import Derived.RangeFuncBound
import Derived.RangeFuncCalls
import Derived.RangeFuncLeaves
import Derived.Shelf.Abstract
import Derived.OwnWalkIn
import Derived.TacticsInMore
import Derived.LoopNIn
import Derived.LoopIn
set_option linter.unusedVariables false
set_option maxRecDepth 100000
set_option maxHeartbeats 16000000
namespace Go.Proofs.YtmaiggbnceejiaaGreatDoor
open Go.RowKit Go.Lib Go.Maps
theorem yIf(w:World):(zeroValue 4).run Tryz.prog w=.ok (.bool false) w:=by kernel_rfl
theorem yMj(w:World):(zeroValue 3).run Tryz.prog w=.ok (.int .i64 0) w:=by kernel_rfl
theorem zNm{P:Program}{e:TypeId}(he:P.underlying e=some .bool){v:Value}{z:DataW Unit × List MemPlace}(h:plainElem P e v=some z):∃ x,v=.bool x/\z=(.lit (.bool x),[]):=by
 unfold plainElem at h
 rw [he] at h
 cases v <;> simp at h
 exact ⟨_,rfl,h.symm⟩
def zCv(w:World)(b n:Nat)(f:Int->Bool):Prop:=∃ D:DataW Unit,w.ownsMap Tryz.prog 3 (plainElem Tryz.prog 4) b n D/\∀ x,zBm x->D.atKey (.int .i64 x) (.lit (.bool false))=.lit (.bool (f x))
def zIb(w:World)(b n:Nat)(f:Int->Int):Prop:=∃ D:DataW Unit,w.ownsMap Tryz.prog 3 (plainElem Tryz.prog 3) b n D/\∀ x,zBm x->D.atKey (.int .i64 x) (.lit (.int .i64 0))=.lit (.int .i64 (f x))
theorem zCv.mod{G:Nat->Prop}{w w':World}{b n:Nat}{f:Int->Bool}(h:zCv w b n f)(hm:Mod G w w')(hG:¬ G b):zCv w' b n f:=by
 obtain ⟨D,h3,h4⟩:=h
 have hlt:=h3.lt
 obtain ⟨es,clock,hb,r⟩:=h3
 exact ⟨D,⟨es,clock,(hm.block b hlt hG).trans hb,r⟩,h4⟩
theorem zIb.mod{G:Nat->Prop}{w w':World}{b n:Nat}{f:Int->Int}(h:zIb w b n f)(hm:Mod G w w')(hG:¬ G b):zIb w' b n f:=by
 obtain ⟨D,h3,h4⟩:=h
 have hlt:=h3.lt
 obtain ⟨es,clock,hb,r⟩:=h3
 exact ⟨D,⟨es,clock,(hm.block b hlt hG).trans hb,r⟩,h4⟩
theorem zCv.lt{w:World}{b n:Nat}{f:Int->Bool}(h:zCv w b n f):b<w.heap.size:=by obtain ⟨D,h1,_⟩:=h;exact h1.lt
theorem zIb.lt{w:World}{b n:Nat}{f:Int->Int}(h:zIb w b n f):b<w.heap.size:=by obtain ⟨D,h1,_⟩:=h;exact h1.lt
theorem zCv.made(w:World):zCv (w.alloc (.map #[] 0)) w.heap.size 0 (fun _=>false):=⟨.map [],World.ownsMap_made w _ _ _,fun x _=>rfl⟩
theorem zIb.made(w:World):zIb (w.alloc (.map #[] 0)) w.heap.size 0 (fun _=>0):=⟨.map [],World.ownsMap_made w _ _ _,fun x _=>rfl⟩
theorem keyY{x:Int}(hx:zBm x):keyOf Tryz.prog 3 (.int .i64 x)=some (.int .i64 x):=keyOf_int_mk Tryz.underlying3 (zPg hx)
theorem zCv.look{w:World}{b n:Nat}{f:Int->Bool}(h:zCv w b n f){x:Int}(hx:zBm x):(Instr.lookup 56 (.map (some b)) (.int .i64 x) false).run Tryz.prog w=.ok (.bool (f x)) w:=by
 obtain ⟨D,h1,h2⟩:=h
 obtain ⟨v,ps,hrun,hv⟩:=h1.lookup kInt Tryz.underlying56 (yIf w) (plainElem_bool Tryz.underlying4 false) (keyY hx)
 rw [h2 x hx] at hv
 obtain ⟨c,rfl,hc⟩:=zNm Tryz.underlying4 hv
 simp only [Prod.mk.injEq] at hc
 have:=hc.1
 simp at this
 rw [hrun,this]
theorem zIb.look{w:World}{b n:Nat}{f:Int->Int}(h:zIb w b n f){x:Int}(hx:zBm x):(Instr.lookup 57 (.map (some b)) (.int .i64 x) false).run Tryz.prog w=.ok (.int .i64 (f x)) w:=by
 obtain ⟨D,h1,h2⟩:=h
 obtain ⟨c,hrun,hv,_⟩:=h1.lookup_int kInt Tryz.underlying57 Tryz.underlying3 (yMj w) (keyY hx)
 rw [h2 x hx] at hv
 rw [hrun]
 simp at hv
 rw [hv]
theorem zCv.put{w':World}{b n:Nat}{f:Int->Bool}{D:DataW Unit}{x:Int}(hD:IsMap D)(h2:∀ x,zBm x->D.atKey (.int .i64 x) (.lit (.bool false))=.lit (.bool (f x)))(h:w'.ownsMap Tryz.prog 3 (plainElem Tryz.prog 4) b n (D.put (.int .i64 x) (.lit (.bool true)))):zCv w' b n (setB f x):=by
 refine ⟨_,h,fun z hz=>?_⟩
 unfold setB
 by_cases e:z=x
 ·subst e
  rw [if_pos rfl,atKey_put_same hD (by simp [WideAt.IsKeyLit])]
 ·rw [if_neg e,atKey_put_other (by intro h;cases h;exact e rfl)]
  exact h2 z hz
theorem zIb.put{w':World}{b n:Nat}{f:Int->Int}{D:DataW Unit}{x v:Int}(hD:IsMap D)(h2:∀ x,zBm x->D.atKey (.int .i64 x) (.lit (.int .i64 0))=.lit (.int .i64 (f x)))(h:w'.ownsMap Tryz.prog 3 (plainElem Tryz.prog 3) b n (D.put (.int .i64 x) (.lit (.int .i64 v)))):zIb w' b n (setI f x v):=by
 refine ⟨_,h,fun z hz=>?_⟩
 unfold setI
 by_cases e:z=x
 ·subst e
  rw [if_pos rfl,atKey_put_same hD (by simp [WideAt.IsKeyLit])]
 ·rw [if_neg e,atKey_put_other (by intro h;cases h;exact e rfl)]
  exact h2 z hz
theorem zCv.mono{w:World}{b n n':Nat}{f:Int->Bool}(h:zCv w b n f)(hn:n<=n'):zCv w b n' f:=by obtain ⟨D,h1,h2⟩:=h;exact ⟨D,h1.mono hn,h2⟩
end Go.Proofs.YtmaiggbnceejiaaGreatDoor
namespace Go.Proofs.YtmaiggbnceejiaaGreatDoor
open Go.RowKit Go.Lib Go.Maps Go.Shelf
theorem Mod.putObj{G:Nat->Prop}{a w:World}(h:Mod G a w){r:Nat}(hr:r<a.heap.size->G r)(o:Obj):Mod G a (w.putObj r o):=
 ⟨h.os,h.tape,h.output,by simpa using h.size,fun k hk hG=>by rw [World.putObj_heap_other (fun e=>hG (by subst e;exact hr hk))];exact h.block k hk hG⟩
def zQw{β:Type}(N:Nat)(J:β->World->Prop):Prop:=∀ s A B,Mod (zDf N) A B->N<=A.heap.size->J s A->J s B
def yMb{α:Type}(m:Nat)(P:Program)(l:Nat)(encs:α->Array Value)(X:Nat->Prop)(xs:List α)(J:List α->World->Prop)(Jx:World->Prop):Prop:=
 ∀ pre x rest A,xs=pre++x :: rest->J pre A->YieldAt Fence.wide m P l (encs x) A fun e B=>Mod X A B/\((e=.returned (.bool true)/\J (pre++[x]) B)\/(e=.returned (.bool false)/\Jx B))
def Iter{α:Type}(n:Nat)(P:Program)(g:Nat)(lb:Array Value)(encs:α->Array Value)(R:Nat->Prop)(xs:List α)(w:World):Prop:=
 ∀ (l:Nat) (X:Nat->Prop) (J:List α->World->Prop) (Jx:World->Prop) (W:World),Mod zAb w W->(∀ k,X k->k<W.heap.size/\¬ R k) ->
  zQw W.heap.size J->zQw W.heap.size (fun (_:Unit)=>Jx)->yMb (n - 1) P l encs X xs J Jx->J [] W ->
  CallsIn Fence.wide n P g (#[.func (.yield l) #[] #[]]++lb) W fun e B=>(∃ v,e=.returned v)/\Mod X W B/\(J xs B\/Jx B)
def yJk{α:Type}(X:Nat->Prop)(I:List α->World->Prop)(Ix:Code->World->Prop)(xs:List α)(W:World):Exit->Act->World->Prop
 | .normal,_,B=>Mod X W B/\I xs B
 | .ret,_,B=>Mod X W B/\Ix .ret B
 | .exit id,_,B=>Mod X W B/\Ix (.exit id) B
 | .goto t,_,B=>Mod X W B/\Ix (.goto t) B
 | .panic _,_,_=>False
 | .outgrown,_,_=>False
theorem zZd{α:Type}{F:Fence}{n:Nat}{P:Program}{g:Operand}{ps:Array Tmp}{assign body:Code}{Q:Exit->Act->World->Prop}{a:Act}{w:World}
  (hfn:F.fn=fun _=>True) (hdp:F.depth=none) (hal:F.alive=false)
  {l:Nat} {d:Nat} {mark:List Deferred} {lay:Obj->World} (hen:∀ fn,(Instr.enterLoop fn a.tmps ps assign body F.round).run P w=.ok (l,mark) (lay (.loop { state:=.ready,pending:=none,fn,tmps:=a.tmps,params:=ps,assign,body,defers:=d })))
  (hlay:∀ o,Mod zAb w (lay o)/\(lay o).heap[l]?=some o) (hl:w.heap.size<=l)
  {gf:Nat} {lb:Array Value} (hg:a.eval g=.func (.func gf) #[] lb) (eg:∀ args w,(callFunc gf args).run P w=.ok (.enter gf args) w)
  {encs:α->Array Value} {R:Nat->Prop} {xs:List α} (hit:Iter (n - 1) P gf lb encs R xs w) (hps:∀ x,(encs x).size=ps.size)
  (X:Nat->Prop) (hX:∀ k,X k->k<w.heap.size/\¬ R k) (hR:∀ k,R k->k<w.heap.size)
  (I:List α->World->Prop) (Ix:Code->World->Prop) (hI:zQw w.heap.size I) (hIx:zQw w.heap.size Ix) (h0:I [] w)
  (hround:∀ (pre:List α) (x:α) (rest:List α) (W:World),xs=pre++x :: rest->I pre W->l<W.heap.size ->
   assign.wpIn (Fence.wide.inRound l) (n - 1 - 1) P (Exit.then (fun a' Wa=>Mod zAb W Wa/\∀ Wb,Mod (zAc l) Wa Wb->(∃ r,Wb.heap[l]?=some (.loop r))->I pre Wb->body.wpIn (Fence.wide.inRound l) (n - 1 - 1) P (yJk X I Ix (pre++[x]) Wb) a' Wb) (fun _ _ _=>False))
    { tmps:=(ps.zip (encs x)).foldl (fun t (p,v)=>t.setIfInBounds p v) a.tmps,defers:=[] } W)
  (hdone:∀ W o,Mod (fun k=>X k\/k=l) (lay o) W->I xs W->Q .normal { a with defers:=mark++a.defers } W)
  (hstop:∀ c W o,Mod (fun k=>X k\/k=l) (lay o) W->Ix c W->c.wpIn F n P Q { a with defers:=mark++a.defers } W) :
  (Code.rangeFunc g ps assign body).wpIn F n P Q a w:=by
 obtain ⟨ffn,fdp,fal,fro⟩:=F
 dsimp only at hfn hdp hal
 subst hfn hdp hal
 refine wpIn_rangeFunc ?_
 intro fn _
 obtain ⟨rec,hrec⟩:∃ rec:LoopState->Option Code->Loop,rec=fun st pe=>{ state:=st,pending:=pe,fn,tmps:=a.tmps,params:=ps,assign,body,defers:=d }:=⟨_,rfl⟩
 obtain ⟨hm1,hL1⟩:=hlay (.loop (rec .ready none))
 have hne:=hen fn
 obtain ⟨W1,hW1⟩:∃ z,z=lay (.loop (rec .ready none)):=⟨_,rfl⟩
 rw [<-hW1] at hm1 hL1
 have hne':(Instr.enterLoop fn a.tmps ps assign body fro).run P w=.ok (l,mark) W1:=by rw [hW1,hrec];exact hne
 have hlt1:l<W1.heap.size:=(Array.getElem?_eq_some_iff.1 hL1).1
 have hput:∀ {W:World} {pre:List α} (o:Obj),w.heap.size<=W.heap.size->I pre W->I pre (W.putObj l o):=fun o hs hi=>hI _ _ _ ((Mod.refl (zDf w.heap.size) _).putObj (fun _=>hl) o) hs hi
 have hputx:∀ {W:World} {c:Code} (o:Obj),w.heap.size<=W.heap.size->Ix c W->Ix c (W.putObj l o):=fun o hs hi=>hIx _ _ _ ((Mod.refl (zDf w.heap.size) _).putObj (fun _=>hl) o) hs hi
 refine ⟨l,mark,W1,{ target:=.fn (.func gf) lb,args:=#[.func (.yield l) #[] #[]] },W1,gf,#[.func (.yield l) #[] #[]]++lb,W1,hne',?_,fun _ _=>trivial,?_,fun e=>by simp at e,?_⟩
 ·simp only [resolve,hg]
  simp [go_sem]
 ·simp [invoke,go_sem,eg]
 ·have hc:=hit l (fun k=>X k\/k=l) (fun pre W=>I pre W/\w.heap.size<=W.heap.size/\W.heap[l]?=some (.loop (rec .ready none))) (fun W=>∃ c,Ix c W/\w.heap.size<=W.heap.size/\W.heap[l]?=some (.loop (rec .done (some c)))) W1 hm1
   (fun k hk=>by
    rcases hk with hk | rfl
    ·exact ⟨Nat.lt_of_lt_of_le (hX k hk).1 hm1.size,(hX k hk).2⟩
    ·exact ⟨hlt1,fun hr=>by have:=hR _ hr;omega⟩)
   (fun pre A B hm hs ⟨h1,h2,h3⟩=>⟨hI _ _ _ (hm.mono (fun i _ hi=>Nat.le_trans hm1.size hi)) h2 h1,Nat.le_trans h2 hm.size,by rw [hm.block l (by omega) (by simp only [zDf];omega)];exact h3⟩)
   (fun _ A B hm hs ⟨c,h1,h2,h3⟩=>⟨c,hIx _ _ _ (hm.mono (fun i _ hi=>Nat.le_trans hm1.size hi)) h2 h1,Nat.le_trans h2 hm.size,by rw [hm.block l (by omega) (by simp only [zDf];omega)];exact h3⟩)
   (by
    rintro pre x rest A hx ⟨hi,hs,hlA⟩
    have hy:=run_yield (P:=P) (args:=encs x) hlA (by rw [hrec];exact hps x)
    rw [hrec] at hy
    refine ⟨fn,_,assign,body,hy,roundIn_of_wpIn (by trivial) (wpIn_mono (hround pre x rest A hx hi (Array.getElem?_eq_some_iff.1 hlA).1) ?_)⟩
    clear hy
    rintro e a' Wa hp
    cases e with
    | normal=>
     obtain ⟨hma,hb⟩:=hp
     have hltA:l<A.heap.size:=(Array.getElem?_eq_some_iff.1 hlA).1
     have hla:Wa.heap[l]?=some (.loop (rec .ready none)):=by rw [hma.block l hltA id];exact hlA
     have hlta:l<Wa.heap.size:=(Array.getElem?_eq_some_iff.1 hla).1
     refine ⟨_,run_beginRound hla (by rw [hrec]),?_⟩
     obtain ⟨Wb,hWb⟩:∃ z,z=Wa.putObj l (.loop { rec .ready none with state:=.busy }):=⟨_,rfl⟩
     have hlb:Wb.heap[l]?=some (.loop { rec .ready none with state:=.busy }):=by rw [hWb];exact World.putObj_heap_same hlta
     have hltb:l<Wb.heap.size:=(Array.getElem?_eq_some_iff.1 hlb).1
     have hmb:Mod (zAc l) Wa Wb:=by rw [hWb];exact Mod.putObj (G:=zAc l) (Mod.refl (zAc l) Wa) (fun _=>(rfl:l=l)) _
     have hia:I pre Wa:=hI _ _ _ (hma.mono (fun _ _ e=>e.elim)) hs hi
     have hib:I pre Wb:=by rw [hWb];exact hput _ (Nat.le_trans hs hma.size) hia
     rw [<-hWb]
     have hmab:Mod (fun k=>X k\/k=l) A Wb:=(hma.mono (fun _ _ e=>e.elim)).trans (hmb.mono (fun _ _ e=>.inr e))
     refine wpIn_mono (hb Wb hmb ⟨_,hlb⟩ hib) ?_
     have fin:∀ (jump:Option Code) (W3:World),Mod X Wb W3 ->
       (Instr.endRound l jump).run P W3=.ok (.bool jump.isNone) (W3.putObj l (.loop (rec (if jump.isNone then .ready else .done) jump)))/\w.heap.size<=W3.heap.size /\
       (W3.putObj l (.loop (rec (if jump.isNone then .ready else .done) jump))).heap[l]?=some (.loop (rec (if jump.isNone then .ready else .done) jump)) /\
       Mod (fun k=>X k\/k=l) A (W3.putObj l (.loop (rec (if jump.isNone then .ready else .done) jump))):=fun jump W3 hk3=>by
      have hl3:W3.heap[l]?=some (.loop { rec .ready none with state:=.busy }):=by rw [hk3.block l hltb (fun e=>by have:=(hX l e).1;omega)];exact hlb
      have:=run_endRound (P:=P) jump hl3
      refine ⟨?_,Nat.le_trans hs (Nat.le_trans hmab.size hk3.size),World.putObj_heap_same (Array.getElem?_eq_some_iff.1 hl3).1,(hmab.trans (hk3.mono (fun _ _ e=>.inl e))).putObj (fun _=>.inr rfl) _⟩
      rw [hrec] at this ⊢
      exact this
     rintro e a3 W3 hp
     cases e with
     | normal=>
      obtain ⟨hr,hs3,hl4,hm4⟩:=fin none W3 hp.1
      exact ⟨_,_,hr,hm4,.inl ⟨rfl,hput _ hs3 hp.2,by simpa using hs3,hl4⟩⟩
     | ret=>
      obtain ⟨hr,hs3,hl4,hm4⟩:=fin (some .ret) W3 hp.1
      exact ⟨_,_,hr,hm4,.inr ⟨rfl,_,hputx _ hs3 hp.2,by simpa using hs3,hl4⟩⟩
     | exit id=>
      obtain ⟨hr,hs3,hl4,hm4⟩:=fin (some (.exit id)) W3 hp.1
      exact ⟨_,_,hr,hm4,.inr ⟨rfl,_,hputx _ hs3 hp.2,by simpa using hs3,hl4⟩⟩
     | goto t=>
      obtain ⟨hr,hs3,hl4,hm4⟩:=fin (some (.goto t)) W3 hp.1
      exact ⟨_,_,hr,hm4,.inr ⟨rfl,_,hputx _ hs3 hp.2,by simpa using hs3,hl4⟩⟩
     | panic ch=>exact hp.elim
     | outgrown=>exact hp.elim
    | ret=>exact hp.elim
    | exit id=>exact hp.elim
    | goto t=>exact hp.elim
    | panic ch=>exact hp.elim
    | outgrown=>exact hp.elim)
   ⟨hI _ _ _ (hm1.mono (fun _ _ e=>e.elim)) (Nat.le_refl _) h0,hm1.size,hL1⟩
  have hc':CallsIn { fn:=fun _=>True,depth:=none,alive:=false,round:=fro } (n - 1) P gf (#[.func (.yield l) #[] #[]]++lb) W1 fun e B=>(∃ v,e=.returned v)/\Mod (fun k=>X k\/k=l) W1 B/\((I xs B/\w.heap.size<=B.heap.size/\B.heap[l]?=some (.loop (rec .ready none)))\/∃ c,Ix c B/\w.heap.size<=B.heap.size/\B.heap[l]?=some (.loop (rec .done (some c)))):=hc
  refine hc'.mono ?_
  rintro e W2 ⟨⟨v,rfl⟩,hm2,⟨hi,hs2,hl2⟩ | ⟨c,hi,hs2,hl2⟩⟩
  ·exact ⟨none,_,by have:=run_endLoop (P:=P) hl2 (by rw [hrec];simp);rw [hrec] at this;exact this,hdone _ (.loop (rec .ready none)) (by rw [hW1] at hm2;exact hm2.putObj (fun _=>.inr rfl) _) (hput _ hs2 hi)⟩
  ·exact ⟨some c,_,by have:=run_endLoop (P:=P) hl2 (by rw [hrec];simp);rw [hrec] at this;exact this,hstop c _ (.loop (rec .ready none)) (by rw [hW1] at hm2;exact hm2.putObj (fun _=>.inr rfl) _) (hputx _ hs2 hi)⟩
theorem zOf{α:Type}{n:Nat}{P:Program}{g:Operand}{ps:Array Tmp}{assign body:Code}{Q:Exit->Act->World->Prop}{a:Act}{w:World}
  {gf:Nat} {lb:Array Value} (hg:a.eval g=.func (.func gf) #[] lb) (eg:∀ args w,(callFunc gf args).run P w=.ok (.enter gf args) w)
  {encs:α->Array Value} {R:Nat->Prop} {xs:List α} (hit:Iter (n - 1) P gf lb encs R xs w) (hps:∀ x,(encs x).size=ps.size)
  (X:Nat->Prop) (hX:∀ k,X k->k<w.heap.size/\¬ R k) (hR:∀ k,R k->k<w.heap.size)
  (I:List α->World->Prop) (Ix:Code->World->Prop) (hI:zQw w.heap.size I) (hIx:zQw w.heap.size Ix) (h0:I [] w)
  (hround:∀ (pre:List α) (x:α) (rest:List α) (W:World),xs=pre++x :: rest->I pre W->w.heap.size+1<W.heap.size ->
   assign.wpIn (Fence.wide.inRound (w.heap.size+1)) (n - 1 - 1) P (Exit.then (fun a' Wa=>Mod zAb W Wa/\∀ Wb,Mod (zAc (w.heap.size+1)) Wa Wb->(∃ r,Wb.heap[w.heap.size+1]?=some (.loop r))->I pre Wb->body.wpIn (Fence.wide.inRound (w.heap.size+1)) (n - 1 - 1) P (yJk X I Ix (pre++[x]) Wb) a' Wb) (fun _ _ _=>False))
    { tmps:=(ps.zip (encs x)).foldl (fun t (p,v)=>t.setIfInBounds p v) a.tmps,defers:=[] } W)
  (hdone:∀ W,Mod X w W->W.heap[w.heap.size]?=some (.deferred (some []))->I xs W->Q .normal { a with defers:={ target:=.collected w.heap.size,args:=#[] } :: a.defers } W)
  (hstop:∀ c W,Mod X w W->W.heap[w.heap.size]?=some (.deferred (some []))->Ix c W->c.wpIn Fence.wide n P Q { a with defers:={ target:=.collected w.heap.size,args:=#[] } :: a.defers } W) :
  (Code.rangeFunc g ps assign body).wpIn Fence.wide n P Q a w:=by
 have hb:∀ {o W},Mod (fun k=>X k\/k=w.heap.size+1) ((w.alloc (.deferred (some []))).alloc o) W->Mod X w W/\W.heap[w.heap.size]?=some (.deferred (some [])):=fun {o W} h=>
  ⟨(((Mod.refl X w).alloc _).alloc _).trans' (h.mono (fun i _ e=>e)) (fun i hi e=>e.elim id (fun e=>by omega)),by
   rw [h.block w.heap.size (by simp;omega) (fun e=>e.elim (fun e=>absurd (hX _ e).1 (by omega)) (fun e=>by omega))]
   rw [heap_alloc_old _ _ (by simp)]
   exact heap_alloc_new w _⟩
 refine zZd (F:=Fence.wide) (l:=w.heap.size+1) (d:=w.heap.size) (mark:=[{ target:=.collected w.heap.size,args:=#[] }]) (lay:=fun o=>(w.alloc (.deferred (some []))).alloc o) rfl rfl rfl (fun fn=>run_enterLoop_outer _ _ _ _ _) (fun o=>⟨((Mod.refl _ w).alloc _).alloc _,?_⟩) (by omega) hg eg hit hps X hX hR I Ix hI hIx h0 hround
  (fun W o hm hi=>hdone W (hb hm).1 (hb hm).2 hi) (fun c W o hm hi=>hstop c W (hb hm).1 (hb hm).2 hi)
 have:=heap_alloc_new (w.alloc (.deferred (some []))) o
 simpa using this
theorem yNd{α:Type}{n:Nat}{P:Program}{g:Operand}{ps:Array Tmp}{assign body:Code}{Q:Exit->Act->World->Prop}{a:Act}{w:World}
  {l₀:Nat} {r₀:Loop} (hl₀:w.heap[l₀]?=some (.loop r₀)) {gf:Nat} {lb:Array Value} (hg:a.eval g=.func (.func gf) #[] lb) (eg:∀ args w,(callFunc gf args).run P w=.ok (.enter gf args) w)
  {encs:α->Array Value} {R:Nat->Prop} {xs:List α} (hit:Iter (n - 1) P gf lb encs R xs w) (hps:∀ x,(encs x).size=ps.size)
  (X:Nat->Prop) (hX:∀ k,X k->k<w.heap.size/\¬ R k) (hR:∀ k,R k->k<w.heap.size)
  (I:List α->World->Prop) (Ix:Code->World->Prop) (hI:zQw w.heap.size I) (hIx:zQw w.heap.size Ix) (h0:I [] w)
  (hround:∀ (pre:List α) (x:α) (rest:List α) (W:World),xs=pre++x :: rest->I pre W->w.heap.size<W.heap.size ->
   assign.wpIn (Fence.wide.inRound w.heap.size) (n - 1 - 1) P (Exit.then (fun a' Wa=>Mod zAb W Wa/\∀ Wb,Mod (zAc w.heap.size) Wa Wb->(∃ r,Wb.heap[w.heap.size]?=some (.loop r))->I pre Wb->body.wpIn (Fence.wide.inRound w.heap.size) (n - 1 - 1) P (yJk X I Ix (pre++[x]) Wb) a' Wb) (fun _ _ _=>False))
    { tmps:=(ps.zip (encs x)).foldl (fun t (p,v)=>t.setIfInBounds p v) a.tmps,defers:=[] } W)
  (hdone:∀ W,Mod X w W->I xs W->Q .normal a W)
  (hstop:∀ c W,Mod X w W->Ix c W->c.wpIn (Fence.wide.inRound l₀) n P Q a W) :
  (Code.rangeFunc g ps assign body).wpIn (Fence.wide.inRound l₀) n P Q a w:=by
 have hb:∀ {o W},Mod (fun k=>X k\/k=w.heap.size) (w.alloc o) W->Mod X w W:=fun {o W} h=>
  ((Mod.refl X w).alloc _).trans' (h.mono (fun i _ e=>e)) (fun i hi e=>e.elim id (fun e=>by omega))
 exact zZd (F:=Fence.wide.inRound l₀) (l:=w.heap.size) (d:=r₀.defers) (mark:=[]) (lay:=fun o=>w.alloc o) rfl rfl rfl (fun fn=>run_enterLoop_inner hl₀ _ _ _ _ _) (fun o=>⟨(Mod.refl _ w).alloc _,heap_alloc_new w o⟩) (Nat.le_refl _) hg eg hit hps X hX hR I Ix hI hIx h0 hround
  (fun W o hm hi=>hdone W (hb hm) hi) (fun c W o hm hi=>hstop c W (hb hm) hi)
attribute [local go_sem] Oper.semAt_some
theorem yBf{α:Type}(us:List α)(q:Nat)(hq:q<us.length):us.zipIdx.reverse=(us.zipIdx.drop (q+1)).reverse++(us[q],q) :: (us.zipIdx.take q).reverse/\(us.zipIdx.drop (q+1)).reverse++[(us[q],q)]=(us.zipIdx.drop q).reverse:=by
 have h:us.zipIdx.drop q=(us[q],q) :: us.zipIdx.drop (q+1):=by
  rw [List.drop_eq_getElem_cons (by simpa using hq)]
  simp
 refine ⟨?_,by rw [h];simp⟩
 have e:=(List.take_append_drop q us.zipIdx).symm
 rw [h] at e
 exact (congrArg List.reverse e).trans (by simp)
def encP(x:zBa × Nat):Array Value:=#[.int .i64 (x.2:Int),.agg #[.string x.1.key,.string x.1.val,.bool x.1.gone]]
theorem yLt(n:Nat)(l Bs rb off cap:Nat)(X:Nat->Prop)(us:List (zBa))(hlen:us.length<=1000000)(J:List (zBa × Nat)->World->Prop)(Jx:World->Prop)
  (hY:yMb (n - 1) Tryz.prog l encP X (us.zipIdx.reverse) J Jx)
  (W:World) (hX1:¬ X Bs) (hX2:¬ X rb) (hBs:W.cell? ⟨Bs,0,none⟩=some (.slice (some ⟨rb,off,none⟩) us.length cap)) (hc:∀ j (hj:j<us.length),W.cell? ⟨rb,off+j*3,none⟩=some (.string us[j].key)/\W.cell? ⟨rb,off+j*3+1,none⟩=some (.string us[j].val)/\W.cell? ⟨rb,off+j*3+2,none⟩=some (.bool us[j].gone)) (h0:J [] W) :
  CallsIn Fence.wide n Tryz.prog 157 #[.func (.yield l) #[] #[],.pointer (some ⟨Bs,0,none⟩)] W fun e B=>(∃ v,e=.returned v)/\Mod X W B/\(J (us.zipIdx.reverse) B\/Jx B):=by
 refine callsIn_of_wp Tryz.func157 rfl trivial ?_ rfl
 simp only [Tryz.ntmps157,List.size_toArray,List.length_cons,List.length_nil,Nat.reduceAdd,Nat.reduceSub,Array.replicate_succ,Array.replicate_zero,List.push_toArray,List.append_toArray,List.nil_append,List.cons_append]
 gi_wp2
 gi_loopw [3] (fun i wr=>∃ q:Nat,q<=us.length/\i=.int .i64 ((q:Int) - 1)/\J ((us.zipIdx.drop q).reverse) wr/\Mod X W wr) (fun i _=>(intOf i+1).toNat)
 case atStart=>exact ⟨us.length,Nat.le_refl _,rfl,by rw [List.drop_eq_nil_of_le (by simp)];exact h0,Mod.refl _ _⟩
 case round=>
  obtain ⟨q,hq,rfl,hJs,hkp⟩:=hrel
  cases q with
  | zero=>
   gi_wp2
   go_end0
   exact ⟨⟨_,rfl⟩,hkp,.inl hJs⟩
  | succ q=>
   have hql:q<us.length:=by omega
   have hi:((q+1:Nat):Int) - 1=(q:Int):=by omega
   rw [hi]
   have hqI:(q:Int)<(us.length:Int):=by omega
   have hq0:(0:Int)<=(q:Int):=by omega
   have hqd:decide ((q:Int) ≥ 0)=true:=decide_eq_true (by omega)
   obtain ⟨c0,c1,c2⟩:=hc q hql
   have c0':=hkp.cell c0 hX2
   have c1':=hkp.cell c1 hX2
   have c2':=hkp.cell c2 hX2
   have hb':=hkp.cell hBs hX1
   obtain ⟨u,hu⟩:∃ u,u=us[q]:=⟨_,rfl⟩
   obtain ⟨hx,hnx⟩:=yBf us q hql
   rw [<-hu] at hx hnx
   obtain ⟨fn,tmps,assign,body,hy,hR⟩:=hY _ _ _ wr hx hJs
   rw [hnx] at hR
   dsimp only [encP] at hy
   rw [<-hu] at c0' c1' c2'
   clear hu hx hnx c0 c1 c2
   gi_wp2
   refine ⟨fun e=>by simp [Fence.wide] at e,hR.mono ?_⟩
   rintro e W3 ⟨hm3,⟨rfl,hJ3⟩ | ⟨rfl,hJx3⟩⟩
   ·gi_wp2
    go_roundw
    case rel=>exact ⟨q,by omega,rfl,hJ3,hkp.trans hm3⟩
    case measure=>simp [intOf]
   ·gi_wp2
    refine bodyPost_ret (results_none rfl _ _ _) rfl ?_
    exact ⟨⟨_,rfl⟩,hkp.trans hm3,.inr hJx3⟩
theorem yHw(n:Nat)(l Bs cap:Nat)(a:Option Addr)(J:World->Prop)(W:World)(hBs:W.cell? ⟨Bs,0,none⟩=some (.slice a 0 cap))(h0:J W) :
  CallsIn Fence.wide n Tryz.prog 157 #[.func (.yield l) #[] #[],.pointer (some ⟨Bs,0,none⟩)] W fun e B=>(∃ v,e=.returned v)/\B=W:=by
 refine callsIn_of_wp Tryz.func157 rfl trivial ?_ rfl
 simp only [Tryz.ntmps157,List.size_toArray,List.length_cons,List.length_nil,Nat.reduceAdd,Nat.reduceSub,Array.replicate_succ,Array.replicate_zero,List.push_toArray,List.append_toArray,List.nil_append,List.cons_append]
 gi_wp2
 gi_loopw [3] (fun i wr=>i=.int .i64 (-1)/\wr=W) (fun _ _=>0)
 case atStart=>exact ⟨rfl,rfl⟩
 case round=>
  obtain ⟨rfl,rfl⟩:=hrel
  gi_wp2
  go_end0
  exact ⟨⟨_,rfl⟩,rfl⟩
theorem yFg(l:Option Nat)(n:Nat)(a:Option Addr)(len cap:Nat)(w:World) :
  CallsIn Fence.wide n Tryz.prog 117 #[.slice a len cap] w fun e w'=>e=.returned (.func (.func 157) #[] #[.pointer (some ⟨w.heap.size,0,none⟩)])/\w'=w.alloc (.cells #[.slice a len cap] 63):=by
 refine callsIn_of_wp Tryz.func117 rfl trivial ?_ rfl
 simp only [Tryz.ntmps117,List.size_toArray,List.length_cons,List.length_nil,Nat.reduceAdd,Nat.reduceSub,Array.replicate_succ,Array.replicate_zero,List.push_toArray,List.append_toArray,List.nil_append,List.cons_append]
 gi_wp2
 go_ret
 exact ⟨rfl,rfl⟩
theorem zVw(n:Nat)(Bs:Nat)(v:Value)(us:List (zBa))(hlen:us.length<=1000000)(w:World)(hc:w.cell? ⟨Bs,0,none⟩=some v)(hs:SlR w w.heap.size 3 zWz v us) :
  Iter n Tryz.prog 157 #[.pointer (some ⟨Bs,0,none⟩)] encP (fun k=>k=Bs\/(us≠[]/\v.ownBlock=some k)) (us.zipIdx.reverse) w:=fun l X J Jx W hW hX _ _ hY h0=>by
 have hc':=hW.cell hc id
 obtain ⟨a,cap,rfl,-,-,h4⟩:=hs.mod hW (fun _ _=>id) (fun _ _ e=>e)
 have h5:us=[]\/(us≠[]/\∃ b off,a=some ⟨b,off,none⟩/\∀ (i:Nat) d,us[i]?=some d->∃ cs,zWz d cs/\cs.length=3/\∀ (j:Nat) x,cs[j]?=some x->W.cell? ⟨b,off+i*3+j,none⟩=some x):=by
  by_cases hne:us=[]
  ·exact .inl hne
  ·exact .inr ⟨hne,h4.elim (fun e=>absurd e hne) (fun ⟨b,off,e1,_,e3⟩=>⟨b,off,e1,e3⟩)⟩
 rcases h5 with rfl | ⟨hne,b,off,rfl,hcs⟩
 ·refine (yHw n l Bs cap a (fun _=>True) W hc' trivial).mono ?_
  rintro e B ⟨he,rfl⟩
  exact ⟨he,Mod.refl _ _,.inl h0⟩
 ·refine yLt n l Bs b off cap X us hlen J Jx hY W (fun e=>(hX _ e).2 (.inl rfl)) (fun e=>(hX _ e).2 (.inr ⟨hne,rfl⟩)) hc' (fun j hj=>?_) h0
  obtain ⟨cs,rfl,-,h⟩:=hcs j us[j] (List.getElem?_eq_getElem hj)
  exact ⟨by simpa using h 0 _ rfl,by simpa using h 1 _ rfl,by simpa using h 2 _ rfl⟩
attribute [local go_sem] Oper.semAt_some
def encC(x:(CmdD × Value) × Nat):Array Value:=#[.int .i64 (x.2:Int),.agg #[.int .i64 x.1.1.kind,.int .i64 x.1.1.tx,.int .i64 x.1.1.time,x.1.2]]
theorem yLu(n:Nat)(l Bs rb off cap:Nat)(X:Nat->Prop)(us:List ((CmdD × Value)))(hlen:us.length<=1000000)(J:List ((CmdD × Value) × Nat)->World->Prop)(Jx:World->Prop)
  (hY:yMb (n - 1) Tryz.prog l encC X (us.zipIdx.reverse) J Jx)
  (W:World) (hX1:¬ X Bs) (hX2:¬ X rb) (hBs:W.cell? ⟨Bs,0,none⟩=some (.slice (some ⟨rb,off,none⟩) us.length cap)) (hc:∀ j (hj:j<us.length),W.cell? ⟨rb,off+j*4,none⟩=some (.int .i64 us[j].1.kind)/\W.cell? ⟨rb,off+j*4+1,none⟩=some (.int .i64 us[j].1.tx)/\W.cell? ⟨rb,off+j*4+2,none⟩=some (.int .i64 us[j].1.time)/\W.cell? ⟨rb,off+j*4+3,none⟩=some (us[j].2)) (h0:J [] W) :
  CallsIn Fence.wide n Tryz.prog 177 #[.func (.yield l) #[] #[],.pointer (some ⟨Bs,0,none⟩)] W fun e B=>(∃ v,e=.returned v)/\Mod X W B/\(J (us.zipIdx.reverse) B\/Jx B):=by
 refine callsIn_of_wp Tryz.func177 rfl trivial ?_ rfl
 simp only [Tryz.ntmps177,List.size_toArray,List.length_cons,List.length_nil,Nat.reduceAdd,Nat.reduceSub,Array.replicate_succ,Array.replicate_zero,List.push_toArray,List.append_toArray,List.nil_append,List.cons_append]
 gi_wp2
 gi_loopw [3] (fun i wr=>∃ q:Nat,q<=us.length/\i=.int .i64 ((q:Int) - 1)/\J ((us.zipIdx.drop q).reverse) wr/\Mod X W wr) (fun i _=>(intOf i+1).toNat)
 case atStart=>exact ⟨us.length,Nat.le_refl _,rfl,by rw [List.drop_eq_nil_of_le (by simp)];exact h0,Mod.refl _ _⟩
 case round=>
  obtain ⟨q,hq,rfl,hJs,hkp⟩:=hrel
  cases q with
  | zero=>
   gi_wp2
   go_end0
   exact ⟨⟨_,rfl⟩,hkp,.inl hJs⟩
  | succ q=>
   have hql:q<us.length:=by omega
   have hi:((q+1:Nat):Int) - 1=(q:Int):=by omega
   rw [hi]
   have hqI:(q:Int)<(us.length:Int):=by omega
   have hq0:(0:Int)<=(q:Int):=by omega
   have hqd:decide ((q:Int) ≥ 0)=true:=decide_eq_true (by omega)
   obtain ⟨c0,c1,c2,c3⟩:=hc q hql
   have c0':=hkp.cell c0 hX2
   have c1':=hkp.cell c1 hX2
   have c2':=hkp.cell c2 hX2
   have c3':=hkp.cell c3 hX2
   have hb':=hkp.cell hBs hX1
   obtain ⟨u,hu⟩:∃ u,u=us[q]:=⟨_,rfl⟩
   obtain ⟨hx,hnx⟩:=yBf us q hql
   rw [<-hu] at hx hnx
   obtain ⟨fn,tmps,assign,body,hy,hR⟩:=hY _ _ _ wr hx hJs
   rw [hnx] at hR
   dsimp only [encC] at hy
   rw [<-hu] at c0' c1' c2' c3'
   clear hu hx hnx c0 c1 c2 c3
   gi_wp2
   refine ⟨fun e=>by simp [Fence.wide] at e,hR.mono ?_⟩
   rintro e W3 ⟨hm3,⟨rfl,hJ3⟩ | ⟨rfl,hJx3⟩⟩
   ·gi_wp2
    go_roundw
    case rel=>exact ⟨q,by omega,rfl,hJ3,hkp.trans hm3⟩
    case measure=>simp [intOf]
   ·gi_wp2
    refine bodyPost_ret (results_none rfl _ _ _) rfl ?_
    exact ⟨⟨_,rfl⟩,hkp.trans hm3,.inr hJx3⟩
theorem yHx(n:Nat)(l Bs cap:Nat)(a:Option Addr)(J:World->Prop)(W:World)(hBs:W.cell? ⟨Bs,0,none⟩=some (.slice a 0 cap))(h0:J W) :
  CallsIn Fence.wide n Tryz.prog 177 #[.func (.yield l) #[] #[],.pointer (some ⟨Bs,0,none⟩)] W fun e B=>(∃ v,e=.returned v)/\B=W:=by
 refine callsIn_of_wp Tryz.func177 rfl trivial ?_ rfl
 simp only [Tryz.ntmps177,List.size_toArray,List.length_cons,List.length_nil,Nat.reduceAdd,Nat.reduceSub,Array.replicate_succ,Array.replicate_zero,List.push_toArray,List.append_toArray,List.nil_append,List.cons_append]
 gi_wp2
 gi_loopw [3] (fun i wr=>i=.int .i64 (-1)/\wr=W) (fun _ _=>0)
 case atStart=>exact ⟨rfl,rfl⟩
 case round=>
  obtain ⟨rfl,rfl⟩:=hrel
  gi_wp2
  go_end0
  exact ⟨⟨_,rfl⟩,rfl⟩
theorem yPh(l:Option Nat)(n:Nat)(a:Option Addr)(len cap:Nat)(w:World) :
  CallsIn Fence.wide n Tryz.prog 159 #[.slice a len cap] w fun e w'=>e=.returned (.func (.func 177) #[] #[.pointer (some ⟨w.heap.size,0,none⟩)])/\w'=w.alloc (.cells #[.slice a len cap] 62):=by
 refine callsIn_of_wp Tryz.func159 rfl trivial ?_ rfl
 simp only [Tryz.ntmps159,List.size_toArray,List.length_cons,List.length_nil,Nat.reduceAdd,Nat.reduceSub,Array.replicate_succ,Array.replicate_zero,List.push_toArray,List.append_toArray,List.nil_append,List.cons_append]
 gi_wp2
 go_ret
 exact ⟨rfl,rfl⟩
theorem yHv(n:Nat)(Bs:Nat)(v:Value)(us:List ((CmdD × Value)))(hlen:us.length<=1000000)(w:World)(hc:w.cell? ⟨Bs,0,none⟩=some v)(hs:SlR w w.heap.size 4 zZb v us) :
  Iter n Tryz.prog 177 #[.pointer (some ⟨Bs,0,none⟩)] encC (fun k=>k=Bs\/(us≠[]/\v.ownBlock=some k)) (us.zipIdx.reverse) w:=fun l X J Jx W hW hX _ _ hY h0=>by
 have hc':=hW.cell hc id
 obtain ⟨a,cap,rfl,-,-,h4⟩:=hs.mod hW (fun _ _=>id) (fun _ _ e=>e)
 have h5:us=[]\/(us≠[]/\∃ b off,a=some ⟨b,off,none⟩/\∀ (i:Nat) d,us[i]?=some d->∃ cs,zZb d cs/\cs.length=4/\∀ (j:Nat) x,cs[j]?=some x->W.cell? ⟨b,off+i*4+j,none⟩=some x):=by
  by_cases hne:us=[]
  ·exact .inl hne
  ·exact .inr ⟨hne,h4.elim (fun e=>absurd e hne) (fun ⟨b,off,e1,_,e3⟩=>⟨b,off,e1,e3⟩)⟩
 rcases h5 with rfl | ⟨hne,b,off,rfl,hcs⟩
 ·refine (yHx n l Bs cap a (fun _=>True) W hc' trivial).mono ?_
  rintro e B ⟨he,rfl⟩
  exact ⟨he,Mod.refl _ _,.inl h0⟩
 ·refine yLu n l Bs b off cap X us hlen J Jx hY W (fun e=>(hX _ e).2 (.inl rfl)) (fun e=>(hX _ e).2 (.inr ⟨hne,rfl⟩)) hc' (fun j hj=>?_) h0
  obtain ⟨cs,rfl,-,h⟩:=hcs j us[j] (List.getElem?_eq_getElem hj)
  exact ⟨by simpa using h 0 _ rfl,by simpa using h 1 _ rfl,by simpa using h 2 _ rfl,by simpa using h 3 _ rfl⟩
end Go.Proofs.YtmaiggbnceejiaaGreatDoor
