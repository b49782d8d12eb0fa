import Derived.Test.YtiblcbdkiecbgaaGreatDoorM13
set_option linter.unusedVariables false
set_option maxRecDepth 100000
set_option maxHeartbeats 16000000
namespace Go.Proofs.YtiblcbdkiecbgaaGreatDoor
open Go.RowKit Go.Lib Go.Maps Go.Shelf
def Calm{β:Type}(J:β->World->Prop):Prop:=∀ s A B,Mod noBlock A B->J s A->J s B
def Beside{β:Type}(l:Nat)(J:β->World->Prop):Prop:=Calm J/\∀ s A r,J s A->J s (A.putObj l (.loop r))
def Iter2{α:Type}(n:Nat)(P:Program)(g:Nat)(lb:Array Value)(encs:α->Array Value)(R:Nat->Prop)(xs:List α)(w:World):Prop:=
 ∀ (l:Nat) (X:Nat->Prop) (J:List α->World->Prop) (Jx:World->Prop) (W:World),Mod noBlock w W->(∀ k,R k->¬ X k) ->
  Calm J->Calm (fun (_:Unit)=>Jx)->Rounds (n - 1) P l encs X xs J Jx->J [] W ->
  CallsIn Fence.wide n P g (#[.func (.yield l) #[] #[]]++lb) W fun e B=>(∃ v,e=.returned v)/\Mod X W B/\(J xs B\/Jx B)
theorem range_law2{α:Type}{F:Fence}{n:Nat}{P:Program}{g:Operand}{ps:Array Tmp}{assign body:Code}{Q:Exit->Act->World->Prop}{a:Act}{w:World}
  (hfn:F.fn=fun _=>True) (hdp:F.depth=none) (hal:F.alive=false)
  {l:Nat} {d:Nat} {mark:List Deferred} {lay:Obj->World} (hen:∀ fn,(Instr.enterLoop fn a.tmps ps assign body F.round).run P w=.ok (l,mark) (lay (.loop { state:=.ready,pending:=none,fn,tmps:=a.tmps,params:=ps,assign,body,defers:=d })))
  (hlay:∀ o,Mod noBlock w (lay o)/\(lay o).heap[l]?=some o) (hl:w.heap.size<=l)
  {gf:Nat} {lb:Array Value} (hg:a.eval g=.func (.func gf) #[] lb) (eg:∀ args w,(callFunc gf args).run P w=.ok (.enter gf args) w)
  {encs:α->Array Value} {R:Nat->Prop} {xs:List α} (hit:Iter2 (n - 1) P gf lb encs R xs w) (hps:∀ x,(encs x).size=ps.size)
  (X:Nat->Prop) (hX:¬ X l) (hXR:∀ k,R k->k<w.heap.size/\¬ X k)
  (I:List α->World->Prop) (Ix:Code->World->Prop) (hI:Beside l I) (hIx:Beside l Ix) {E:World->Prop} (hE:∀ o,E (lay o)) (h0:∀ W r,Mod noBlock w W->W.heap[l]?=some (.loop r)->E W->I [] W)
  (hround:∀ (pre:List α) (x:α) (rest:List α) (W:World),xs=pre++x :: rest->I pre W->l<W.heap.size ->
   assign.wpIn (Fence.wide.inRound l) (n - 1 - 1) P (Exit.then (fun a' Wa=>Mod noBlock W Wa/\∀ Wb,Mod (oneBlock l) Wa Wb->(∃ r,Wb.heap[l]?=some (.loop r))->I pre Wb->body.wpIn (Fence.wide.inRound l) (n - 1 - 1) P (roundP X I Ix (pre++[x]) Wb) a' Wb) (fun _ _ _=>False))
    { tmps:=(ps.zip (encs x)).foldl (fun t (p,v)=>t.setIfInBounds p v) a.tmps,defers:=[] } W)
  (hdone:∀ W o,Mod (fun k=>X k\/k=l) (lay o) W->I xs W->Q .normal { a with defers:=mark++a.defers } W)
  (hstop:∀ c W o,Mod (fun k=>X k\/k=l) (lay o) W->Ix c W->c.wpIn F n P Q { a with defers:=mark++a.defers } W) :
  (Code.rangeFunc g ps assign body).wpIn F n P Q a w:=by
 obtain ⟨ffn,fdp,fal,fro⟩:=F
 dsimp only at hfn hdp hal
 subst hfn hdp hal
 refine wpIn_rangeFunc ?_
 intro fn _
 obtain ⟨rec,hrec⟩:∃ rec:LoopState->Option Code->Loop,rec=fun st pe=>{ state:=st,pending:=pe,fn,tmps:=a.tmps,params:=ps,assign,body,defers:=d }:=⟨_,rfl⟩
 obtain ⟨hm1,hL1⟩:=hlay (.loop (rec .ready none))
 have hne:=hen fn
 obtain ⟨W1,hW1⟩:∃ z,z=lay (.loop (rec .ready none)):=⟨_,rfl⟩
 rw [<-hW1] at hm1 hL1
 have hne':(Instr.enterLoop fn a.tmps ps assign body fro).run P w=.ok (l,mark) W1:=by rw [hW1,hrec];exact hne
 have hlt1:l<W1.heap.size:=(Array.getElem?_eq_some_iff.1 hL1).1
 have hput:∀ {W:World} {pre:List α} (o:Loop),w.heap.size<=W.heap.size->I pre W->I pre (W.putObj l (.loop o)):=fun o hs hi=>hI.2 _ _ o hi
 have hputx:∀ {W:World} {c:Code} (o:Loop),w.heap.size<=W.heap.size->Ix c W->Ix c (W.putObj l (.loop o)):=fun o hs hi=>hIx.2 _ _ o hi
 refine ⟨l,mark,W1,{ target:=.fn (.func gf) lb,args:=#[.func (.yield l) #[] #[]] },W1,gf,#[.func (.yield l) #[] #[]]++lb,W1,hne',?_,fun _ _=>trivial,?_,fun e=>by simp at e,?_⟩
 ·simp only [resolve,hg]
  simp [go_sem]
 ·simp [invoke,go_sem,eg]
 ·have hc:=hit l (fun k=>X k\/k=l) (fun pre W=>I pre W/\w.heap.size<=W.heap.size/\W.heap[l]?=some (.loop (rec .ready none))) (fun W=>∃ c,Ix c W/\w.heap.size<=W.heap.size/\W.heap[l]?=some (.loop (rec .done (some c)))) W1 hm1
   (fun k hk e=>e.elim (hXR k hk).2 (fun e=>by have:=(hXR k hk).1;omega))
   (fun pre A B hm ⟨h1,h2,h3⟩=>⟨hI.1 _ _ _ hm h1,Nat.le_trans h2 hm.size,by rw [hm.block l (Array.getElem?_eq_some_iff.1 h3).1 id];exact h3⟩)
   (fun _ A B hm ⟨c,h1,h2,h3⟩=>⟨c,hIx.1 _ _ _ hm h1,Nat.le_trans h2 hm.size,by rw [hm.block l (Array.getElem?_eq_some_iff.1 h3).1 id];exact h3⟩)
   (by
    rintro pre x rest A hx ⟨hi,hs,hlA⟩
    have hy:=run_yield (P:=P) (args:=encs x) hlA (by rw [hrec];exact hps x)
    rw [hrec] at hy
    refine ⟨fn,_,assign,body,hy,roundIn_of_wpIn (by trivial) (wpIn_mono (hround pre x rest A hx hi (Array.getElem?_eq_some_iff.1 hlA).1) ?_)⟩
    clear hy
    rintro e a' Wa hp
    cases e with
    | normal=>
     obtain ⟨hma,hb⟩:=hp
     have hltA:l<A.heap.size:=(Array.getElem?_eq_some_iff.1 hlA).1
     have hla:Wa.heap[l]?=some (.loop (rec .ready none)):=by rw [hma.block l hltA id];exact hlA
     have hlta:l<Wa.heap.size:=(Array.getElem?_eq_some_iff.1 hla).1
     refine ⟨_,run_beginRound hla (by rw [hrec]),?_⟩
     obtain ⟨Wb,hWb⟩:∃ z,z=Wa.putObj l (.loop { rec .ready none with state:=.busy }):=⟨_,rfl⟩
     have hlb:Wb.heap[l]?=some (.loop { rec .ready none with state:=.busy }):=by rw [hWb];exact World.putObj_heap_same hlta
     have hltb:l<Wb.heap.size:=(Array.getElem?_eq_some_iff.1 hlb).1
     have hmb:Mod (oneBlock l) Wa Wb:=by rw [hWb];exact Mod.putObj (G:=oneBlock l) (Mod.refl (oneBlock l) Wa) (fun _=>(rfl:l=l)) _
     have hia:I pre Wa:=hI.1 _ _ _ hma hi
     have hib:I pre Wb:=by rw [hWb];exact hput _ (Nat.le_trans hs hma.size) hia
     rw [<-hWb]
     have hmab:Mod (fun k=>X k\/k=l) A Wb:=(hma.mono (fun _ _ e=>e.elim)).trans (hmb.mono (fun _ _ e=>.inr e))
     refine wpIn_mono (hb Wb hmb ⟨_,hlb⟩ hib) ?_
     have fin:∀ (jump:Option Code) (W3:World),Mod X Wb W3 ->
       (Instr.endRound l jump).run P W3=.ok (.bool jump.isNone) (W3.putObj l (.loop (rec (if jump.isNone then .ready else .done) jump)))/\w.heap.size<=W3.heap.size /\
       (W3.putObj l (.loop (rec (if jump.isNone then .ready else .done) jump))).heap[l]?=some (.loop (rec (if jump.isNone then .ready else .done) jump)) /\
       Mod (fun k=>X k\/k=l) A (W3.putObj l (.loop (rec (if jump.isNone then .ready else .done) jump))):=fun jump W3 hk3=>by
      have hl3:W3.heap[l]?=some (.loop { rec .ready none with state:=.busy }):=by rw [hk3.block l hltb (fun e=>hX e)];exact hlb
      have:=run_endRound (P:=P) jump hl3
      refine ⟨?_,Nat.le_trans hs (Nat.le_trans hmab.size hk3.size),World.putObj_heap_same (Array.getElem?_eq_some_iff.1 hl3).1,(hmab.trans (hk3.mono (fun _ _ e=>.inl e))).putObj (fun _=>.inr rfl) _⟩
      rw [hrec] at this ⊢
      exact this
     rintro e a3 W3 hp
     cases e with
     | normal=>
      obtain ⟨hr,hs3,hl4,hm4⟩:=fin none W3 hp.1
      exact ⟨_,_,hr,hm4,.inl ⟨rfl,hput _ hs3 hp.2,by simpa using hs3,hl4⟩⟩
     | ret=>
      obtain ⟨hr,hs3,hl4,hm4⟩:=fin (some .ret) W3 hp.1
      exact ⟨_,_,hr,hm4,.inr ⟨rfl,_,hputx _ hs3 hp.2,by simpa using hs3,hl4⟩⟩
     | exit id=>
      obtain ⟨hr,hs3,hl4,hm4⟩:=fin (some (.exit id)) W3 hp.1
      exact ⟨_,_,hr,hm4,.inr ⟨rfl,_,hputx _ hs3 hp.2,by simpa using hs3,hl4⟩⟩
     | goto t=>
      obtain ⟨hr,hs3,hl4,hm4⟩:=fin (some (.goto t)) W3 hp.1
      exact ⟨_,_,hr,hm4,.inr ⟨rfl,_,hputx _ hs3 hp.2,by simpa using hs3,hl4⟩⟩
     | panic ch=>exact hp.elim
     | outgrown=>exact hp.elim
    | ret=>exact hp.elim
    | exit id=>exact hp.elim
    | goto t=>exact hp.elim
    | panic ch=>exact hp.elim
    | outgrown=>exact hp.elim)
   ⟨h0 W1 _ hm1 hL1 (by rw [hW1];exact hE _),hm1.size,hL1⟩
  have hc':CallsIn { fn:=fun _=>True,depth:=none,alive:=false,round:=fro } (n - 1) P gf (#[.func (.yield l) #[] #[]]++lb) W1 fun e B=>(∃ v,e=.returned v)/\Mod (fun k=>X k\/k=l) W1 B/\((I xs B/\w.heap.size<=B.heap.size/\B.heap[l]?=some (.loop (rec .ready none)))\/∃ c,Ix c B/\w.heap.size<=B.heap.size/\B.heap[l]?=some (.loop (rec .done (some c)))):=hc
  refine hc'.mono ?_
  rintro e W2 ⟨⟨v,rfl⟩,hm2,⟨hi,hs2,hl2⟩ | ⟨c,hi,hs2,hl2⟩⟩
  ·exact ⟨none,_,by have:=run_endLoop (P:=P) hl2 (by rw [hrec];simp);rw [hrec] at this;exact this,hdone _ (.loop (rec .ready none)) (by rw [hW1] at hm2;exact hm2.putObj (fun _=>.inr rfl) _) (hput _ hs2 hi)⟩
  ·exact ⟨some c,_,by have:=run_endLoop (P:=P) hl2 (by rw [hrec];simp);rw [hrec] at this;exact this,hstop c _ (.loop (rec .ready none)) (by rw [hW1] at hm2;exact hm2.putObj (fun _=>.inr rfl) _) (hputx _ hs2 hi)⟩
theorem range_out2{α:Type}{n:Nat}{P:Program}{g:Operand}{ps:Array Tmp}{assign body:Code}{Q:Exit->Act->World->Prop}{a:Act}{w:World}
  {gf:Nat} {lb:Array Value} (hg:a.eval g=.func (.func gf) #[] lb) (eg:∀ args w,(callFunc gf args).run P w=.ok (.enter gf args) w)
  {encs:α->Array Value} {R:Nat->Prop} {xs:List α} (hit:Iter2 (n - 1) P gf lb encs R xs w) (hps:∀ x,(encs x).size=ps.size)
  (X:Nat->Prop) (hX:¬ X (w.heap.size+1)) (hXd:¬ X w.heap.size) (hXR:∀ k,R k->k<w.heap.size/\¬ X k)
  (I:List α->World->Prop) (Ix:Code->World->Prop) (hI:Beside (w.heap.size+1) I) (hIx:Beside (w.heap.size+1) Ix) (h0:∀ W r,Mod noBlock w W->W.heap[w.heap.size+1]?=some (.loop r)->W.heap[w.heap.size]?=some (.deferred (some []))->I [] W)
  (hround:∀ (pre:List α) (x:α) (rest:List α) (W:World),xs=pre++x :: rest->I pre W->w.heap.size+1<W.heap.size ->
   assign.wpIn (Fence.wide.inRound (w.heap.size+1)) (n - 1 - 1) P (Exit.then (fun a' Wa=>Mod noBlock W Wa/\∀ Wb,Mod (oneBlock (w.heap.size+1)) Wa Wb->(∃ r,Wb.heap[w.heap.size+1]?=some (.loop r))->I pre Wb->body.wpIn (Fence.wide.inRound (w.heap.size+1)) (n - 1 - 1) P (roundP X I Ix (pre++[x]) Wb) a' Wb) (fun _ _ _=>False))
    { tmps:=(ps.zip (encs x)).foldl (fun t (p,v)=>t.setIfInBounds p v) a.tmps,defers:=[] } W)
  (hdone:∀ W,Mod X w W->W.heap[w.heap.size]?=some (.deferred (some []))->I xs W->Q .normal { a with defers:={ target:=.collected w.heap.size,args:=#[] } :: a.defers } W)
  (hstop:∀ c W,Mod X w W->W.heap[w.heap.size]?=some (.deferred (some []))->Ix c W->c.wpIn Fence.wide n P Q { a with defers:={ target:=.collected w.heap.size,args:=#[] } :: a.defers } W) :
  (Code.rangeFunc g ps assign body).wpIn Fence.wide n P Q a w:=by
 have hb:∀ {o W},Mod (fun k=>X k\/k=w.heap.size+1) ((w.alloc (.deferred (some []))).alloc o) W->Mod X w W/\W.heap[w.heap.size]?=some (.deferred (some [])):=fun {o W} h=>
  ⟨(((Mod.refl X w).alloc _).alloc _).trans' (h.mono (fun i _ e=>e)) (fun i hi e=>e.elim id (fun e=>by omega)),by
   rw [h.block w.heap.size (by simp;omega) (fun e=>e.elim hXd (fun e=>by omega))]
   rw [heap_alloc_old _ _ (by simp)]
   exact heap_alloc_new w _⟩
 refine range_law2 (F:=Fence.wide) (l:=w.heap.size+1) (d:=w.heap.size) (mark:=[{ target:=.collected w.heap.size,args:=#[] }]) (lay:=fun o=>(w.alloc (.deferred (some []))).alloc o) rfl rfl rfl (fun fn=>run_enterLoop_outer _ _ _ _ _) (fun o=>⟨((Mod.refl _ w).alloc _).alloc _,?_⟩) (by omega) hg eg hit hps X hX hXR I Ix hI hIx (E:=fun W=>W.heap[w.heap.size]?=some (.deferred (some []))) (fun o=>by rw [heap_alloc_old _ _ (by simp)];exact heap_alloc_new w _) h0 hround
  (fun W o hm hi=>hdone W (hb hm).1 (hb hm).2 hi) (fun c W o hm hi=>hstop c W (hb hm).1 (hb hm).2 hi)
 have:=heap_alloc_new (w.alloc (.deferred (some []))) o
 simpa using this
end Go.Proofs.YtiblcbdkiecbgaaGreatDoor
