import Derived.Test.YtogaigioeohjaaaGreatDoorD10
import Derived.Lib.SliceRun
set_option linter.unusedVariables false
set_option maxRecDepth 100000
set_option maxHeartbeats 16000000
namespace Go.Proofs.YtogaigioeohjaaaGreatDoor
open Go.RowKit Go.Lib Go.Maps
structure AskQ(f q:Nat)(p:ClmD->Bool)(w:World):Prop where
 enter:∀ (args:Array Value) (w:World),(callFunc f args).run Tryz.prog w=.ok (.enter f args) w
 ask:∀ (d:ClmD) (wr:World),wr.heap[q]?=w.heap[q]? ->
  Calls Tryz.prog f #[.agg #[.int .i64 d.tx,.int .i64 d.mode],.pointer (some ⟨q,0,none⟩)] wr fun e w'=>e=.returned (.bool (p d))/\Mod zAb wr w'
theorem zJz {f : FuncId} {fn : Func} {c : Code} (hf : Tryz.prog.funcs[f]? = some fn) (hname : (fn.name == "runtime.NumGoroutine") = false) (hb : fn.body = some c) (args : Array Value) (w : World) : (callFunc f args).run Tryz.prog w = .ok (.enter f args) w := by
 have h1 : fn.name ≠ "runtime.NumGoroutine" := by simpa using hname
 simp [callFunc,hf,h1,hb]
def zHq(p:ClmD->Bool):List ClmD->Option Nat
 | []=>none
 | m :: ms=>if p m then some 0 else (zHq p ms).map (·+1)
theorem yBn(p:ClmD->Bool):∀ (ms:List ClmD) (k:Nat),(∀ i m,i<k->ms[i]?=some m->p m=false)->∀ m,ms[k]?=some m->p m=true->zHq p ms=some k
 | [],_,_,m,h,_=>by simp at h
 | m' :: ms,0,_,m,h,hs=>by simp at h;subst h;simp [zHq,hs]
 | m' :: ms,k+1,hf,m,h,hs=>by
  have h0:=hf 0 m' (by omega) rfl
  have:=yBn p ms k (fun i m hi hm=>hf (i+1) m (by omega) (by simpa using hm)) m (by simpa using h) hs
  simp [zHq,h0,this]
theorem zTd(p:ClmD->Bool):∀ (ms:List ClmD),(∀ (i:Nat) m,ms[i]?=some m->p m=false)->zHq p ms=none
 | [],_=>rfl
 | m :: ms,h=>by
  have h0:=h 0 m rfl
  simp [zHq,h0,zTd p ms (fun i m hm=>h (i+1) m (by simpa using hm))]
theorem zVz(p:ClmD->Bool):∀ (ms:List ClmD),(zHq p ms).isSome=ms.any p
 | []=>rfl
 | m :: ms=>by
  unfold zHq
  by_cases h:p m=true
  ·simp [h]
  ·simp [h,zVz p ms]
def zTe(o:Option Nat):Int:=match o with | none=>-1 | some k=>k
theorem zVp(f q L:Nat)(p:ClmD->Bool)(v:Value)(ms:List ClmD)(w:World)(hv:zOx w L v ms)(hA:AskQ f q p w)(hq:q<w.heap.size)(hf:ms.length<=1000) :
  Calls Tryz.prog 257 #[v,.func (.func f) #[] #[.pointer (some ⟨q,0,none⟩)]] w fun e w'=>e=.returned (.int .i64 (zTe (zHq p ms)))/\Mod zAb w w':=by
 have HV:=Hmq hv
 obtain ⟨a,cap,rfl,hc1,hc2⟩:=SlR.slice hv
 have HA:=Hmq hA
 have hen:=hA.enter
 clear hv hA
 go_enter Tryz.func257,Tryz.ntmps257
 go_wp2_with fail
 go_loopw [8] (fun i wr=>∃ k:Nat,k<=ms.length/\i=.int .i64 k/\(∀ i m,i<k->ms[i]?=some m->p m=false)/\Mod zAb w wr) (fun i _=>ms.length - (intOf i).toNat)
 case atStart=>exact ⟨0,Nat.zero_le _,rfl,fun i m h=>by omega,Mod.refl _ _⟩
 case round=>
  obtain ⟨k,hk,rfl,hno,hM⟩:=hrel
  have HNO:=Hmq hno
  have HM:=Hmq hM
  clear hno hM
  by_cases hlt:k<ms.length
  ·obtain ⟨m,hm⟩:∃ m,ms[k]?=some m:=⟨_,List.getElem?_eq_getElem hlt⟩
   obtain ⟨b,off,rfl,_,q0,q1⟩:=HV.out.at hm
   have p0:=HM.out.cell q0 id
   have p1:=HM.out.cell q1 id
   have HC:=Hmq (HA.out.ask m wr (HM.out.block q hq id))
   have HMM:=Hmq hm
   have hltI:(k:Int)<(ms.length:Int):=by omega
   have hlt0:(0:Int)<=(k:Int):=by omega
   clear hm q0 q1
   go_wp2_with fail
   refine HC.out.mono ?_
   rintro e w5 ⟨rfl,hm5⟩
   have HM5:=Hmq (HM.out.trans hm5)
   clear HC p0 p1 hm5
   cases hs:p m with
   | true=>
    have HF:=Hmq (yBn p ms k HNO.out m HMM.out hs)
    go_wp2_with fail
    go_ret
    exact ⟨by rw [HF.out];rfl,HM5.out⟩
   | false=>
    go_wp2_with fail
    go_roundw
    case rel=>
     refine ⟨k+1,by omega,by go_num,fun i m' hi' hm'=>?_,HM5.out⟩
     by_cases hik:i<k
     ·exact HNO.out i m' hik hm'
     ·obtain rfl:i=k:=by omega
      rw [HMM.out] at hm';cases hm';exact hs
    case measure=>simp [intOf];omega
  ·have HF:=Hmq (zTd p ms (fun i m hm=>HNO.out i m (by have:=(List.getElem?_eq_some_iff.1 hm).1;omega) hm))
   go_wp2_with fail
   go_ret
   exact ⟨by rw [HF.out];rfl,HM.out⟩
theorem zOu(f q L:Nat)(p:ClmD->Bool)(v:Value)(ms:List ClmD)(w:World)(hv:zOx w L v ms)(hA:AskQ f q p w)(hq:q<w.heap.size)(hf:ms.length<=1000) :
  Calls Tryz.prog 230 #[v,.func (.func f) #[] #[.pointer (some ⟨q,0,none⟩)]] w fun e w'=>e=.returned (.bool (ms.any p))/\Mod zAb w w':=by
 have HI:=Hmq (zVp f q L p v ms w hv hA hq hf)
 obtain ⟨a,cap,rfl,hc1,hc2⟩:=SlR.slice hv
 have HAN:Hid (decide (zTe (zHq p ms) ≥ 0)=ms.any p):=by
  rw [Hid,<-zVz]
  cases zHq p ms with
  | none=>rfl
  | some k=>simp [zTe]
 clear hv hA
 go_enter Tryz.func230,Tryz.ntmps230
 go_wp2_with fail
 refine HI.out.mono ?_
 rintro e w1 ⟨rfl,hm⟩
 go_wp2_with fail
 go_ret
 exact ⟨by rw [<-HAN.out];rfl,hm⟩
def zWu:Array Value:=#[.int .i64 0,.int .i64 0]
def zJj(n:Nat):List Value:=(Builtin.zeroCells zWu n).toList
theorem zOy(n:Nat):(zJj n).length=n*2:=by rw [zJj,Array.length_toList,size_zeroCells];rfl
theorem yGn(n:Nat):∀ v∈zJj n,v.oneCell'=true:=by
 intro v hv
 simp only [zJj,Builtin.zeroCells,Array.toList_map,List.mem_map] at hv
 obtain ⟨i,_,rfl⟩:=hv
 have h9:∀ j,j<2->(zWu[j]!).oneCell'=true:=by
  intro j hj
  match j,hj with
  | 0,_=>rfl
  | 1,_=>rfl
 exact h9 _ (Nat.mod_lt _ (by decide))
theorem yOo(w:World):(zeroValue 214).run Tryz.prog w=.ok (.agg #[.int .i64 0,.int .i64 0]) w:=by kernel_rfl
theorem yHg(w:World)(ty:TypeId)(b o n c:Nat)(hn:0<n)(hc:∀ j,j<n*2->(w.cell? ⟨b,o+j,none⟩).isSome=true)(hf:∀ j,j<n*2->w.frozen? ⟨b,o+j,none⟩=false) :
  (Builtin.clear_ #[210] ty #[.slice (some ⟨b,o,none⟩) n c]).run Tryz.prog w=.ok (.tuple #[]) (w.setCells b o (zJj n)):=by
 have hst:=run_storeCells_cells (P:=Tryz.prog) b o (zJj n) 0 w (by simpa [zOy] using hc) (by simpa [zOy] using hf) (yGn n)
 simp only [Nat.add_zero] at hst
 obtain ⟨m,rfl⟩:∃ m,n=m+1:=⟨n - 1,by omega⟩
 have hz:=yOo
 have e:(Value.agg #[.int .i64 0,.int .i64 0]).cells=zWu:=rfl
 simp only [zJj] at hst ⊢
 simp [Builtin.clear_,run_underlying Tryz.underlying210,hz,e,hst]
theorem zWw{w:World}{ops:Array Oper}{rest:List Oper}{o:Oper}{a:Act}{Q:Exit->Act->World->Prop}(hgd:o.guard=none)(s:Operand)
  (ho:o.op=.call { callee:=.builtin .clear,args:=#[s],argTypes:=#[210] }) (b off n c:Nat) (hs:a.eval s=.slice (some ⟨b,off,none⟩) n c) (hn:0<n)
  (hc:∀ j,j<n*2->(w.cell? ⟨b,off+j,none⟩).isSome=true) (hf:∀ j,j<n*2->w.frozen? ⟨b,off+j,none⟩=false)
  (h:wpList Tryz.prog ops Q rest (a.put o.dst (.tuple #[])) (w.setCells b off (zJj n))):wpList Tryz.prog ops Q (o :: rest) a w:=by
 refine wpList_plain hgd fun K hK=>?_
 have hr:=yHg w o.type b off n c hn hc hf
 unfold Oper.wp execOp
 simp only [ho,resolve,invoke,builtin,Sem.run_bind,Sem.run_pure,Result.andThen_ok,List.map_toArray,List.map_cons,List.map_nil,hs,hr]
 exact hK _ _ h
theorem Blk.midQ{g:Nat}{t:TypeId}:∀ (vs:List Value) (w:World) (a old c:List Value),Blk w g (a++old++c) t->old.length=vs.length->Blk (w.setCells g a.length vs) g (a++vs++c) t
 | [],w,a,old,c,h,hl=>by
  have:old=[]:=List.eq_nil_of_length_eq_zero hl
  subst this;exact h
 | v :: vs,w,a,[],c,h,hl=>by simp at hl
 | v :: vs,w,a,x :: old,c,h,hl=>by
  have h1:=h.set a.length v
  have e:((a++x :: old++c).set a.length v)=(a++[v])++old++c:=by simp
  rw [e] at h1
  have:=Blk.midQ vs (w.setCell ⟨g,a.length,none⟩ v) (a++[v]) old c h1 (by simpa using hl)
  simp only [List.length_append,List.length_cons,List.length_nil] at this
  rw [World.setCells]
  simpa using this
theorem Mod.midQ{g:Nat}:∀ (vs:List Value) (o:Nat) (w:World),Mod (zAd g) w (w.setCells g o vs)
 | [],_,_=>Mod.refl _ _
 | v :: vs,o,w=>(Mod.setBlk g o v).trans (Mod.midQ vs (o+1) (w.setCell ⟨g,o,none⟩ v))
theorem zPp{α:Type}(A X R:List α)(k:Nat):A++X.take k++(X.drop k++R)=A++X++R:=by
 rw [List.append_assoc,List.append_assoc,<-List.append_assoc (X.take k),List.take_append_drop]
theorem zCl{α:Type}{l:List α}{j:Nat}{x:α}(h:l[j]?=some x):l.drop j=x :: l.drop (j+1):=by
 have hj:j<l.length:=(List.getElem?_eq_some_iff.1 h).1
 rw [List.getElem?_eq_getElem hj] at h;simp at h
 rw [<-h,<-List.drop_eq_getElem_cons hj]
theorem zBt{α:Type}{l:List α}{j:Nat}{x:α}(h:l[j]?=some x):l.take (j+1)=l.take j++[x]:=by
 have hj:j<l.length:=(List.getElem?_eq_some_iff.1 h).1
 rw [List.getElem?_eq_getElem hj] at h;simp at h
 rw [List.take_succ_eq_append_getElem hj,h]
def zGs(p:ClmD->Bool)(ms:List ClmD):List ClmD:=ms.filter (fun m=>!p m)
theorem zVo(p:ClmD->Bool)(ms:List ClmD)(m:ClmD):zGs p (ms++[m])=if p m then zGs p ms else zGs p ms++[m]:=by
 unfold zGs;rw [List.filter_append]
 cases h:p m <;> simp [h]
theorem zWa(p:ClmD->Bool):∀ ms,zHq p ms=none->zGs p ms=ms
 | [],_=>rfl
 | m :: ms,h=>by
  unfold zHq at h
  split at h
  ·cases h
  ·rename_i hs
   have hs':p m=false:=by simpa using hs
   have:=zWa p ms (by simpa using h)
   unfold zGs at this ⊢
   rw [List.filter_cons,if_pos (by simp [hs']),this]
theorem zTc(p:ClmD->Bool):∀ ms k,zHq p ms=some k->k<ms.length/\zGs p (ms.take (k+1))=ms.take k
 | [],_,h=>by simp [zHq] at h
 | m :: ms,k,h=>by
  unfold zHq at h
  split at h
  ·rename_i hs
   simp at h;subst h
   refine ⟨by simp,?_⟩
   simp [zGs,hs]
  ·rename_i hs
   have hs':p m=false:=by simpa using hs
   obtain ⟨k',hk',rfl⟩:=Option.map_eq_some_iff.1 h
   obtain ⟨h1,h2⟩:=zTc p ms k' hk'
   refine ⟨by simp;omega,?_⟩
   unfold zGs at h2 ⊢
   rw [List.take_succ_cons,List.filter_cons,if_pos (by simp [hs']),h2,List.take_succ_cons]
def DelQ(w wr:World)(b:Nat)(p:ClmD->Bool)(ms:List ClmD)(R:List Value)(i j:Nat):Prop:=
 ∃ mid:List Value,i=(zGs p (ms.take j)).length/\mid.length=(j - i)*2/\i<j/\j<=ms.length /\
  Blk wr b (zAf (zGs p (ms.take j))++mid++(zAf (ms.drop j)++R)) 214/\Mod (zAd b) w wr
theorem DelQ.start{w wr:World}{b k0:Nat}{p:ClmD->Bool}{ms:List ClmD}{R:List Value}(hk:k0<ms.length)(hkt:zGs p (ms.take (k0+1))=ms.take k0)(hB:Blk w b (zAf ms++R) 214)(hm:Mod zAb w wr):DelQ w wr b p ms R k0 (k0+1):=by
 obtain ⟨m,hm0⟩:∃ m,ms[k0]?=some m:=⟨_,List.getElem?_eq_getElem hk⟩
 have hms:ms=ms.take k0++m :: ms.drop (k0+1):=by
  rw [<-zCl hm0,List.take_append_drop]
 refine ⟨zAh m,by rw [hkt,List.length_take];omega,by simp [zAh],by omega,by omega,?_,hm.mono (fun _ _ e=>e.elim)⟩
 rw [hkt]
 have:=hB.mod hm id
 have e:zAf ms=zAf (ms.take k0)++(zAh m++zAf (ms.drop (k0+1))):=by
  conv=>lhs;rw [hms]
  rw [zGu,zAf]
 rw [e] at this
 simpa [List.append_assoc] using this
theorem DelQ.look{w wr:World}{b i j:Nat}{p:ClmD->Bool}{ms:List ClmD}{R:List Value}(h:DelQ w wr b p ms R i j){m:ClmD}(hm:ms[j]?=some m) :
  ∀ n x,(zAh m)[n]?=some x->wr.cell? ⟨b,j*2+n,none⟩=some x:=by
 obtain ⟨mid,h1,h3,h4,h5,h6,h8⟩:=h
 intro n x hx
 have hn:n<2:=(List.getElem?_eq_some_iff.1 hx).1
 refine h6.cell _ ?_
 rw [zCl hm,zAf]
 have l1:=zBm (zGs p (ms.take j))
 rw [List.getElem?_append_right (by rw [List.length_append];omega),List.length_append,l1,h3,<-h1]
 rw [show j*2+n - (i*2+(j - i)*2)=n by omega,List.append_assoc,List.getElem?_append_left hn]
 exact hx
theorem DelQ.skip{w wr wr':World}{b i j:Nat}{p:ClmD->Bool}{ms:List ClmD}{R:List Value}(h:DelQ w wr b p ms R i j){m:ClmD}(hm:ms[j]?=some m)(hs:p m=true)(hmd:Mod zAb wr wr') :
  DelQ w wr' b p ms R i (j+1):=by
 obtain ⟨mid,h1,h3,h4,h5,h6,h8⟩:=h
 have hj:j<ms.length:=(List.getElem?_eq_some_iff.1 hm).1
 have e:zGs p (ms.take (j+1))=zGs p (ms.take j):=by rw [zBt hm,zVo,if_pos hs]
 refine ⟨mid++zAh m,by rw [e];exact h1,by rw [List.length_append,h3];simp [zAh];omega,by omega,by omega,?_,h8.trans (hmd.mono (fun _ _ e=>e.elim))⟩
 rw [e]
 have:=h6.mod hmd id
 rw [zCl hm,zAf] at this
 simpa [List.append_assoc] using this
theorem DelQ.keep{w wr wr':World}{b i j:Nat}{p:ClmD->Bool}{ms:List ClmD}{R:List Value}(h:DelQ w wr b p ms R i j){m:ClmD}(hm:ms[j]?=some m)(hs:p m=false)(hmd:Mod zAb wr wr') :
  DelQ w (wr'.setCells b (i*2) (zAh m)) b p ms R (i+1) (j+1):=by
 obtain ⟨mid,h1,h3,h4,h5,h6,h8⟩:=h
 have hj:j<ms.length:=(List.getElem?_eq_some_iff.1 hm).1
 have e:zGs p (ms.take (j+1))=zGs p (ms.take j)++[m]:=by rw [zBt hm,zVo,if_neg (by simp [hs])]
 have l1:=zBm (zGs p (ms.take j))
 refine ⟨mid.drop 2++zAh m,by rw [e,List.length_append,<-h1];rfl,by rw [List.length_append,List.length_drop,h3];simp [zAh];omega,by omega,by omega,?_,(h8.trans (hmd.mono (fun _ _ e=>e.elim))).trans (Mod.midQ _ _ _)⟩
 rw [e,zGu,zFs]
 have h9:=h6.mod hmd id
 rw [zCl hm,zAf] at h9
 have:=Blk.midQ (g:=b) (t:=214) (zAh m) wr' (zAf (zGs p (ms.take j))) (mid.take 2) (mid.drop 2++(zAh m++zAf (ms.drop (j+1))++R)) (by
  rw [zPp];exact h9) (by rw [List.length_take,h3];simp [zAh];omega)
 rw [l1,<-h1] at this
 simpa [List.append_assoc] using this
theorem DelQ.room{w wr:World}{b i j:Nat}{p:ClmD->Bool}{ms:List ClmD}{R:List Value}(h:DelQ w wr b p ms R i j):i<j/\j<=ms.length/\Mod (zAd b) w wr /\
  (∀ n,n<(j - i)*2->(wr.cell? ⟨b,i*2+n,none⟩).isSome=true)/\∀ n,wr.frozen? ⟨b,n,none⟩=false:=by
 obtain ⟨mid,h1,h3,h4,h5,h6,h8⟩:=h
 have l1:=zBm (zGs p (ms.take j))
 refine ⟨h4,h5,h8,fun n hn=>?_,fun n=>h6.frozen n⟩
 obtain ⟨x,hx⟩:∃ x,(zAf (zGs p (ms.take j))++mid++(zAf (ms.drop j)++R))[i*2+n]?=some x:=⟨_,List.getElem?_eq_getElem (by simp only [List.length_append];omega)⟩
 rw [show wr.cell? ⟨b,i*2+n,none⟩=some x from h6.cell _ hx];rfl
theorem DelQ.done{w wr:World}{B b i cap:Nat}{p:ClmD->Bool}{ms:List ClmD}{R:List Value}(h:DelQ w wr b p ms R i ms.length)(hBb:B<=b)(hcap:ms.length<=cap)(hcm:cap<=maxLen)(lR:ms.length*2+R.length=cap*2) :
  RowK (wr.setCells b (i*2) (zJj (ms.length - i))) B (.slice (some ⟨b,0,none⟩) i cap) (zGs p ms)/\Mod (zAd b) w (wr.setCells b (i*2) (zJj (ms.length - i))):=by
 obtain ⟨mid,h1,h3,h4,h5,h6,h8⟩:=h
 rw [List.take_length] at h1 h6
 have l1:=zBm (zGs p ms)
 have l2:=zOy (ms.length - i)
 have hM:=h8.trans (Mod.midQ (zJj (ms.length - i)) (i*2) wr)
 have e0:zAf (ms.drop ms.length)=[]:=by rw [List.drop_length];rfl
 rw [e0,List.nil_append] at h6
 have hB:=Blk.midQ (g:=b) (t:=214) (zJj (ms.length - i)) wr (zAf (zGs p ms)) mid R h6 (by omega)
 rw [l1,<-h1] at hB
 refine ⟨⟨by omega,.inr ⟨b,cap,(zAf (zGs p ms)++zJj (ms.length - i)++R).toArray,by rw [<-h1],hBb,hB,by omega,hcm,?_,?_⟩⟩,hM⟩
 ·simp only [List.size_toArray,List.length_append];omega
 ·rw [<-l1,List.append_assoc,List.take_left]
theorem zNj(f q B:Nat)(p:ClmD->Bool)(v:Value)(ms:List ClmD)(w:World)(hR:RowK w B v ms)(hA:AskQ f q p w)(hq:q<w.heap.size)(hqv:v.ownBlock≠some q)(hf:ms.length<=1000) :
  Calls Tryz.prog 233 #[v,.func (.func f) #[] #[.pointer (some ⟨q,0,none⟩)]] w fun e w'=>∃ v',e=.returned v'/\RowK w' B v' (zGs p ms)/\v'.ownBlock=v.ownBlock/\Mod (fun x=>v.ownBlock=some x) w w':=by
 have HIX:=Hmq (zVp f q w.heap.size p v ms w (hR.toV (Nat.le_refl _)) hA hq hf)
 cases hfi:zHq p ms with
 | none=>
  rw [hfi] at HIX
  have HK:=Hmq (zWa p ms hfi)
  have HR:=Hmq hR
  obtain ⟨a,cap,rfl⟩:=zAg hR
  clear hR hA
  go_enter Tryz.func233,Tryz.ntmps233
  go_wp2_with fail
  refine HIX.out.mono ?_
  rintro e w1 ⟨rfl,hm1⟩
  simp only [zTe]
  go_wp2_with fail
  go_ret
  exact ⟨_,rfl,by rw [HK.out];exact HR.out.mod hm1 (fun _ _=>id),rfl,hm1.mono (fun _ _ e=>e.elim)⟩
 | some k0=>
  rw [hfi] at HIX
  obtain ⟨hk0,hkt⟩:=zTc p ms k0 hfi
  rcases hR.2 with ⟨_,h0⟩ | ⟨b,cap,cur,rfl,hLg,hg,hcap,hcm,hcs,htk⟩
  ·omega
  unfold maxLen at hcm
  obtain ⟨R,hRR⟩:∃ R,cur.toList=zAf ms++R:=by
   refine ⟨cur.toList.drop (ms.length*2),?_⟩
   rw [<-htk,List.take_append_drop]
  have lA:=zBm ms
  have hB0:Blk w b (zAf ms++R) 214:=by rw [Blk,<-hRR];exact hg
  have lR:ms.length*2+R.length=cap*2:=by
   have:(zAf ms++R).length=cap*2:=by rw [<-hRR];simpa using hcs
   rw [List.length_append,lA] at this;exact this
  have hqb:b≠q:=fun e=>hqv (by rw [e];rfl)
  have HB0:=Hmq hB0
  have HKT:=Hmq hkt
  have HA:=Hmq hA
  have hen:=hA.enter
  clear hB0 hRR hg hcs htk hR hkt hfi lA hA hqv
  go_enter Tryz.func233,Tryz.ntmps233
  go_wp2_with fail
  refine HIX.out.mono ?_
  rintro e w1 ⟨rfl,hm1⟩
  simp only [zTe]
  have hne:((k0:Int) == -1)=false:=by rw [beq_eq_false_iff_ne];omega
  go_wp2_with fail
  go_loopw [5,6] (fun x y wr=>∃ i j:Nat,x=.int .i64 i/\y=.int .i64 j/\DelQ w wr b p ms R i j) (fun _ y _=>ms.length - (intOf y).toNat)
  case atStart=>exact ⟨k0,k0+1,rfl,by go_num,DelQ.start hk0 HKT.out HB0.out hm1⟩
  case round=>
   obtain ⟨i,j,rfl,rfl,hI⟩:=hrel
   obtain ⟨hij,hjn,hMr,hcell,hfro⟩:=hI.room
   by_cases hlt:j<ms.length
   ·obtain ⟨m,hm⟩:∃ m,ms[j]?=some m:=⟨_,List.getElem?_eq_getElem hlt⟩
    have hlk:=hI.look hm
    have q0:=hlk 0 _ rfl
    have q1:=hlk 1 _ rfl
    simp only [Nat.add_zero] at q0
    have hqr:wr.heap[q]?=w.heap[q]?:=hMr.block q hq (fun e=>hqb e.symm)
    have hqz:q<wr.heap.size:=Nat.lt_of_lt_of_le hq hMr.size
    have HC:=Hmq (HA.out.ask m (wr.alloc (.cells #[.int .i64 m.tx,.int .i64 m.mode] 214)) ((Below.heap_alloc _ _ _ hqz).trans hqr))
    have HI:=Hmq hI
    have HMM:=Hmq hm
    have HCE:=Hmq hcell
    have HFR:=Hmq hfro
    have hB1:=Blk.new wr (zAh m) 214
    have hbz:b<wr.heap.size:=World.block_lt_of_cell? wr _ q0
    clear hI hm hlk hcell hfro hqr hqz
    go_wp2_with fail
    refine HC.out.mono ?_
    rintro e w5 ⟨rfl,hm5⟩
    have hB5:Blk w5 wr.heap.size (zAh m) 214:=hB1.mod hm5 id
    have hmr5:=((Mod.refl zAb wr).alloc (.cells #[.int .i64 m.tx,.int .i64 m.mode] 214)).trans hm5
    clear HC q0 q1 hB1
    cases hs:p m with
    | true=>
     have HN:=Hmq (HI.out.skip HMM.out hs hmr5)
     go_wp2_with fail
     go_roundw
     case rel=>exact ⟨i,j+1,rfl,by go_num,HN.out⟩
     case measure=>simp [intOf];omega
    | false=>
     have HN:=Hmq (HI.out.keep HMM.out hs hmr5)
     have p0:=hB5.cell 0 rfl
     have p1:=hB5.cell 1 rfl
     have hex:∀ c,c<2->∃ y,w5.cell? ⟨b,i*2+c,none⟩=some y:=fun c hc=>by
      obtain ⟨y,hy⟩:=Option.isSome_iff_exists.1 (HCE.out c (by omega))
      exact ⟨y,hmr5.cell hy id⟩
     have hfz:∀ c,w5.frozen? ⟨b,c,none⟩=false:=fun c=>(hmr5.frozen (p:=⟨b,c,none⟩) hbz id).trans (HFR.out c)
     obtain ⟨y0,hy0⟩:=hex 0 (by omega)
     obtain ⟨y1,hy1⟩:=hex 1 (by omega)
     have f0:=hfz (i*2+0)
     have f1:=hfz (i*2+1)
     simp only [Nat.add_zero] at hy0 f0
     have hbn:b≠wr.heap.size:=by omega
     clear hex hfz
     go_wp2_with fail
     go_roundw
     case rel=>exact ⟨i+1,j+1,by go_num,by go_num,by simpa [World.setCells,zAh,Nat.add_assoc] using HN.out⟩
     case measure=>simp [intOf];omega
   ·obtain rfl:j=ms.length:=by omega
    have HDN:=Hmq (hI.done (B:=B) (cap:=cap) hLg hcap (by unfold maxLen;omega) lR)
    have hb3:¬ cap=i:=by omega
    have hb4:i<=cap:=by omega
    have HCE:=Hmq hcell
    have HFR:Hid (∀ n,n<(ms.length - i)*2->wr.frozen? ⟨b,i*2+n,none⟩=false):=fun n _=>hfro _
    clear hI hcell hfro
    go_wp2_with (first
     | (refine zWw rfl _ rfl b (i*2) (ms.length - i) _ rfl (by omega) HCE.out HFR.out ?_)
     | fail)
    go_ret
    exact ⟨_,rfl,HDN.out.1,rfl,HDN.out.2.mono (fun x _ e=>by simp only [zAd] at e;rw [e];rfl)⟩
theorem zSq(a b:ClmD)(w:World) :
  Calls Tryz.prog 228 #[.agg #[.int .i64 a.tx,.int .i64 a.mode],.agg #[.int .i64 b.tx,.int .i64 b.mode]] w fun e w'=>e=.returned (.bool (zCj a b))/\Mod zAb w w':=by
 obtain ⟨at',am⟩:=a
 obtain ⟨bt,bm⟩:=b
 have HM:Hid (Mod zAb w ((w.alloc (.cells #[.int .i64 at',.int .i64 am] 214)).alloc (.cells #[.int .i64 bt,.int .i64 bm] 214))):=((Mod.refl _ w).alloc _).alloc _
 have HI:Hid (zCj ⟨at',am⟩ ⟨bt,bm⟩=(decide (at'≠bt) && (decide (am=2) || decide (bm=2)))):=rfl
 generalize zCj ⟨at',am⟩ ⟨bt,bm⟩=r at HI
 by_cases h1:at'=bt
 ·have hr:r=false:=by rw [HI.out];simp [h1]
  subst hr
  subst h1
  clear HI
  go_enter Tryz.func228,Tryz.ntmps228
  go_wp2_with fail
  go_ret
  exact ⟨rfl,HM.out⟩
 ·by_cases h2:am=2
  ·have HR:Hid (r=(at' != bt)):=by rw [HI.out,Bool.eq_iff_iff];simp [h1,h2,Hid]
   subst h2
   clear HI
   go_enter Tryz.func228,Tryz.ntmps228
   go_wp2_with fail
   go_ret
   exact ⟨by rw [HR.out];rfl,HM.out⟩
  ·have HR:Hid (r=(at' != bt && (am == 2 || bm == 2))):=by rw [HI.out,Bool.eq_iff_iff];simp [h1,h2,Hid]
   clear HI
   go_enter Tryz.func228,Tryz.ntmps228
   go_wp2_with fail
   go_ret
   exact ⟨by rw [HR.out];rfl,HM.out⟩
theorem zRf{w wr:World}{q:Nat}{cs:List Value}{t:TypeId}(h:Blk w q cs t)(he:wr.heap[q]?=w.heap[q]?):Blk wr q cs t:=he.trans h
theorem yOd{w:World}{q:Nat}{c:ClmD}(h:Blk w q (zAh c) 214):AskQ 227 q (fun o=>zCj o c) w:=by
 refine ⟨zJz Tryz.func227 (by kernel_rfl) rfl,fun d wr he=>?_⟩
 have hb:=zRf h he
 have p0:=hb.cell 0 rfl
 have p1:=hb.cell 1 rfl
 have hq:=hb.lt
 have HM:Hid (Mod zAb wr (wr.alloc (.cells #[.int .i64 d.tx,.int .i64 d.mode] 214))):=(Mod.refl _ wr).alloc _
 have HI:=fun w=>zSq d c w
 have HIH:=Hmq HI
 clear h hb he HI
 go_enter Tryz.func227,Tryz.ntmps227
 go_wp2_with fail
 refine (HIH.out _).mono ?_
 rintro e w1 ⟨rfl,hm⟩
 go_wp2_with fail
 go_ret
 exact ⟨rfl,HM.out.trans hm⟩
theorem yOc{w:World}{q:Nat}{c:ClmD}(h:Blk w q (zAh c) 214):AskQ 229 q (fun o=>decide (o.tx<c.tx) && zCj o c) w:=by
 refine ⟨zJz Tryz.func229 (by kernel_rfl) rfl,fun d wr he=>?_⟩
 have hb:=zRf h he
 have p0:=hb.cell 0 rfl
 have p1:=hb.cell 1 rfl
 have hq:=hb.lt
 have HM:Hid (Mod zAb wr (wr.alloc (.cells #[.int .i64 d.tx,.int .i64 d.mode] 214))):=(Mod.refl _ wr).alloc _
 have HI:=fun w=>zSq d c w
 have HIH:=Hmq HI
 clear h hb he HI
 by_cases hl:d.tx<c.tx
 ·have hd:decide (d.tx<c.tx)=true:=decide_eq_true hl
  have HDD:=Hmq hd
  go_enter Tryz.func229,Tryz.ntmps229
  go_wp2_with fail
  refine (HIH.out _).mono ?_
  rintro e w1 ⟨rfl,hm⟩
  go_wp2_with fail
  go_ret
  exact ⟨by first | rfl | (rw [HDD.out];rfl),HM.out.trans hm⟩
 ·have hd:decide (d.tx<c.tx)=false:=decide_eq_false hl
  have HDD:=Hmq hd
  go_enter Tryz.func229,Tryz.ntmps229
  go_wp2_with fail
  go_ret
  exact ⟨by first | rfl | (rw [HDD.out];rfl),HM.out⟩
theorem yEq{w:World}{q:Nat}{c:ClmD}(h:Blk w q (zAh c) 214):AskQ 232 q (zKy c) w:=by
 refine ⟨zJz Tryz.func232 (by kernel_rfl) rfl,fun d wr he=>?_⟩
 have hb:=zRf h he
 have p0:=hb.cell 0 rfl
 have p1:=hb.cell 1 rfl
 have hq:=hb.lt
 have HM:Hid (Mod zAb wr (wr.alloc (.cells #[.int .i64 d.tx,.int .i64 d.mode] 214))):=(Mod.refl _ wr).alloc _
 have HI:=fun w=>zSq d c w
 have HIH:=Hmq HI
 clear h hb he HI
 unfold zKy
 by_cases hl:d.tx<c.tx
 ·have hd:decide (d.tx<c.tx)=true:=decide_eq_true hl
  have HDD:=Hmq hd
  go_enter Tryz.func232,Tryz.ntmps232
  go_wp2_with fail
  go_ret
  exact ⟨by first | rfl | (rw [HDD.out];rfl),HM.out⟩
 ·have hd:decide (d.tx<c.tx)=false:=decide_eq_false hl
  have HDD:=Hmq hd
  go_enter Tryz.func232,Tryz.ntmps232
  go_wp2_with fail
  refine (HIH.out _).mono ?_
  rintro e w1 ⟨rfl,hm⟩
  go_wp2_with fail
  go_ret
  exact ⟨by first | rfl | (rw [HDD.out];rfl),HM.out.trans hm⟩
theorem yCe{w:World}{q:Nat}{t:Int}(h:Blk w q [.int .i64 t] 3):AskQ 263 q (fun c=>decide (c.tx=t)) w:=by
 refine ⟨zJz Tryz.func263 (by kernel_rfl) rfl,fun d wr he=>?_⟩
 have hb:=zRf h he
 have p0:=hb.cell 0 rfl
 have hq:=hb.lt
 have HM:Hid (Mod zAb wr (wr.alloc (.cells #[.int .i64 d.tx,.int .i64 d.mode] 214))):=(Mod.refl _ wr).alloc _
 clear h hb he
 go_enter Tryz.func263,Tryz.ntmps263
 go_wp2_with fail
 go_ret
 exact ⟨by first | rfl | (congr 2;rw [Bool.eq_iff_iff];simp),HM.out⟩
theorem yFx(L kb:Nat)(hv wv:Value)(held waits:List ClmD)(c:ClmD)(w:World)(hk:Blk w kb [hv,wv] 212)(hh:zOx w L hv held)(hw:zOx w L wv waits)(h1:held.length<=1000)(h2:waits.length<=1000) :
  Calls Tryz.prog 176 #[.pointer (some ⟨kb,0,none⟩),.agg #[.int .i64 c.tx,.int .i64 c.mode]] w fun e w'=>e=.returned (.bool (zIq held waits c))/\Mod zAb w w':=by
 have hmf:∀ fn first cap w,(Instr.makeFunc fn first cap).run Tryz.prog w=.ok (.func fn first cap) w:=fun _ _ _ _=>rfl
 obtain ⟨w1,hw1⟩:∃ q,q=w.alloc (.cells #[.int .i64 c.tx,.int .i64 c.mode] 214):=⟨_,rfl⟩
 have hm1:Mod zAb w w1:=by rw [hw1];exact (Mod.refl _ w).alloc _
 have hb1:Blk w1 w.heap.size (zAh c) 214:=by rw [hw1];exact Blk.new w (zAh c) 214
 have HA:=Hmq (zOu 227 w.heap.size L (fun o=>zCj o c) hv held w1 (hh.mod hm1 (fun _ _=>id)) (yOd hb1) hb1.lt h1)
 have HB:Hid (∀ w2,Mod zAb w1 w2->Calls Tryz.prog 230 #[wv,.func (.func 229) #[] #[.pointer (some ⟨w.heap.size,0,none⟩)]] w2 fun e w'=>e=.returned (.bool (waits.any (fun o=>decide (o.tx<c.tx) && zCj o c)))/\Mod zAb w2 w'):=fun w2 hm2=>
  zOu 229 w.heap.size L _ wv waits w2 ((hw.mod hm1 (fun _ _=>id)).mod hm2 (fun _ _=>id)) (yOc (hb1.mod hm2 id)) (hb1.mod hm2 id).lt h2
 have HK:=Hmq (hk.mod hm1 id)
 have HM1:=Hmq hm1
 obtain ⟨ha,hcap,rfl,_,_⟩:=SlR.slice hh
 obtain ⟨wa,wcap,rfl,_,_⟩:=SlR.slice hw
 have c0:=HK.out.cell 0 rfl
 have c1:=HK.out.cell 1 rfl
 have hkl:=hk.lt
 have HF:Hid (zIq held waits c=(!(held.any fun o=>zCj o c) && !(waits.any fun o=>decide (o.tx<c.tx) && zCj o c))):=rfl
 generalize zIq held waits c=r at HF
 clear hm1 hb1 hk hh hw
 cases hany:held.any (fun o=>zCj o c) with
 | true=>
  rw [hany] at HA HF
  have hr:r=false:=by rw [HF.out];rfl
  subst hr
  go_enter Tryz.func176,Tryz.ntmps176
  go_upto_region 1 with fail
  rw [<-hw1]
  clear hw1
  go_wp2_with fail
  refine HA.out.mono ?_
  rintro e w2 ⟨rfl,hm2⟩
  go_wp2_with fail
  go_ret
  exact ⟨rfl,HM1.out.trans hm2⟩
 | false=>
  rw [hany] at HA HF
  have HR:Hid (r=!(waits.any fun o=>decide (o.tx<c.tx) && zCj o c)):=by rw [HF.out];rfl
  clear HF
  go_enter Tryz.func176,Tryz.ntmps176
  go_upto_region 1 with fail
  rw [<-hw1]
  clear hw1
  go_wp2_with fail
  refine HA.out.mono ?_
  rintro e w2 ⟨rfl,hm2⟩
  have d1:=hm2.cell c1 id
  have HM2:=Hmq hm2
  have HB2:=Hmq (HB.out w2 hm2)
  clear HB hm2 c0 c1
  go_wp2_with fail
  refine HB2.out.mono ?_
  rintro e w3 ⟨rfl,hm3⟩
  go_wp2_with fail
  go_ret
  exact ⟨by rw [HR.out];rfl,(HM1.out.trans HM2.out).trans hm3⟩
theorem Tryz.infoIQ:(Tryz.prog.info? 3).map (fun i=>(i.zero,i.size,i.bytes))=some (some (.int .i64 0),1,8):=by kernel_rfl
def zHp(l:List Int):List Value:=l.map (Value.int .i64)
theorem zMw(l:List Int)(x:Int):zHp (l++[x])=zHp l++[.int .i64 x]:=by simp [zHp]
def RowI(w:World)(B:Nat)(v:Value)(l:List Int):Prop:=w.ownsRow B 3 1 v l.length (zHp l)
theorem RowI.mod{G:Nat->Prop}{w w':World}{B:Nat}{v:Value}{os:List Int}(h:RowI w B v os)(hm:Mod G w w')(hG:∀ k,v.ownBlock=some k->¬ G k):RowI w' B v os:=zAn h hm (fun k _ _ e=>hG k e)
theorem yKe(L:Nat)(v:Value)(l:List ClmD)(w:World)(hv:zOx w L v l)(hl:l.length<=1000) :
  Calls Tryz.prog 194 #[v] w fun e w'=>∃ u,e=.returned u/\RowI w' w.heap.size u (l.map (·.tx))/\Mod zAb w w':=by
 obtain ⟨j0,hj,jz0,jz1,jz2⟩:=info_parts Tryz.infoIQ
 have HV:=Hmq hv
 obtain ⟨a,cap,rfl,hc1,hc2⟩:=SlR.slice hv
 unfold maxLen at hc2
 clear hv
 have HR0:Hid (RowI w w.heap.size (.slice none 0 0) []):=World.ownsRow_nil _ _ _ _
 go_enter Tryz.func194,Tryz.ntmps194
 go_wp2_with fail
 go_loopw [3,8] (fun u i wr=>∃ k:Nat,k<=l.length/\i=.int .i64 k/\RowI wr w.heap.size u ((l.take k).map (·.tx))/\Mod zAb w wr) (fun _ i _=>l.length - (intOf i).toNat)
 case atStart=>exact ⟨0,Nat.zero_le _,rfl,by simpa using HR0.out,Mod.refl _ _⟩
 case round=>
  rename_i u _
  obtain ⟨k,hk,rfl,hrow,hM⟩:=hrel
  obtain ⟨ua,ucap,rfl⟩:=zAg hrow
  have HM:=Hmq hM
  have HROW:=Hmq hrow
  clear hrow hM HR0
  by_cases hlt:k<l.length
  ·obtain ⟨d,hd⟩:∃ d,l[k]?=some d:=⟨_,List.getElem?_eq_getElem hlt⟩
   obtain ⟨b,off,rfl,_,q0,q1⟩:=HV.out.at hd
   have p0:=HM.out.cell q0 id
   have p1:=HM.out.cell q1 id
   have htk:(l.take (k+1)).map (·.tx)=(l.take k).map (·.tx)++[d.tx]:=by rw [zBt hd,List.map_append];rfl
   have HTK:=Hmq htk
   obtain ⟨w3,hw3⟩:∃ q,q=wr.alloc (.cells #[.int .i64 d.tx,.int .i64 d.mode] 214):=⟨_,rfl⟩
   have hm3:Mod zAb wr w3:=by rw [hw3];exact (Mod.refl _ wr).alloc _
   have hb3:Blk w3 wr.heap.size (zAh d) 214:=by rw [hw3];exact Blk.new wr (zAh d) 214
   have r0:=hb3.cell 0 rfl
   have HROW3:Hid (w3.ownsRow w.heap.size 3 1 (.slice ua (List.map (·.tx) (l.take k)).length ucap) (List.map (·.tx) (l.take k)).length (zHp ((l.take k).map (·.tx)))):=HROW.out.mod hm3 (fun _ _=>id)
   have HM3:=Hmq (HM.out.trans hm3)
   have hlk:(List.map (·.tx) (l.take k)).length=k:=by simp;omega
   rw [hlk] at HROW3
   have hk63:k+1<=maxLen:=by unfold maxLen;omega
   have hk47:(k+1)*8<=140737488355328:=by omega
   have hz3:=HM3.out.size
   have hltI:(k:Int)<(l.length:Int):=by omega
   have hlt0:(0:Int)<=(k:Int):=by omega
   rw [hlk]
   have HLK:=Hmq hlk
   clear hd q0 q1 htk hb3 hm3 hlk
   go_upto_region 5 with fail
   rw [<-hw3]
   clear hw3 p0 p1
   go_wp2_with (first
    | (at_builtin;refine wpList_append_own_at _ rfl (.tmp 12) (.tmp 15) 94 rfl w.heap.size 3 j0 _ 1 8 Tryz.underlying94 hj jz0 jz1 jz2 rfl (by decide) _ _ _ rfl (HROW3.out.alloc _) ⟨w3.heap.size,0,none⟩ 1 1 [.int .i64 d.tx] rfl rfl (World.news_of_block (heap_alloc_new w3 _)) (by simp [Value.oneCell']) hk63 hk47 (by simp;omega) ?_)
    | fail)
   intro v7 w7 hown7 hgrow7 _ hat7
   have hm7:Mod zAb w w7:=(HM3.out.alloc _).grown hgrow7 (fun y hy hlt=>by have:=(zAq HROW3.out hy).1;omega)
   obtain ⟨a7,cap7,hv7⟩:=zAg hown7
   subst hv7
   have HW7:=Hmq hown7
   have HM7:=Hmq hm7
   clear hown7 hgrow7 hat7 hm7
   go_wp2_with fail
   go_roundw
   case rel=>
    refine ⟨k+1,by omega,by go_num,?_,HM7.out⟩
    rw [HTK.out]
    unfold RowI
    rw [zMw,List.length_append,HLK.out,List.map_take]
    exact HW7.out
   case measure=>simp [intOf];omega
  ·obtain rfl:k=l.length:=by omega
   have HROWL:Hid (RowI wr w.heap.size (.slice ua l.length ucap) (l.map (·.tx))):=by
    have h:=HROW.out
    rw [Hid]
    unfold RowI at h ⊢
    rw [List.take_length,List.length_map] at h
    rw [List.length_map]
    exact h
   clear HROW
   rw [show (List.map (fun x:ClmD=>x.tx) (l.take l.length)).length=l.length by simp]
   go_wp2_with fail
   go_ret
   exact ⟨_,rfl,HROWL.out,HM.out⟩
theorem yJd(B:Nat)(v:Value)(l:List ClmD)(w:World)(hR:RowK w B v l)(hl:l.length<=1000) :
  Calls Tryz.prog 234 #[v] w fun e w'=>∃ u,e=.returned u/\RowK w' w.heap.size u l/\Mod zAb w w':=by
 rcases hR.2 with ⟨rfl,h0⟩ | ⟨g,cap,cur,rfl,q1,q2,q3,q4,q5,q6⟩
 ·have hln:l=[]:=List.eq_nil_of_length_eq_zero h0
  subst hln
  have hen:(binOp .eql 210 (.slice none 0 0) (.slice none 0 0)).run Tryz.prog w=.ok (.bool true) w:=by kernel_rfl
  have HR0:Hid (RowK w w.heap.size (.slice none 0 0) []):=World.ownsRow_nil _ _ _ _
  clear hR
  go_enter Tryz.func234,Tryz.ntmps234
  go_wp2_with fail
  go_ret
  exact ⟨_,rfl,HR0.out,Mod.refl _ _⟩
 ·refine (yJe ⟨g,0,none⟩ l.length cap l w rfl (fun j u hu=>hR.cells (g:=g) rfl j u hu) hl).mono ?_
  rintro e w' ⟨g',cap',rfl,hrow,hm⟩
  exact ⟨_,rfl,hrow,hm⟩
theorem yCv(B kb:Nat)(hv wv:Value)(held:List ClmD)(c:ClmD)(w:World)(hk:Blk w kb [hv,wv] 212)(hh:RowK w B hv held)(h1:held.length<=1000) :
  Calls Tryz.prog 179 #[.pointer (some ⟨kb,0,none⟩),.agg #[.int .i64 c.tx,.int .i64 c.mode]] w fun e w'=>∃ u,e=.returned u/\RowI w' w.heap.size u (zJl held c)/\Mod zAb w w':=by
 have hmf:∀ fn first cap w,(Instr.makeFunc fn first cap).run Tryz.prog w=.ok (.func fn first cap) w:=fun _ _ _ _=>rfl
 obtain ⟨w1,hw1⟩:∃ q,q=w.alloc (.cells #[.int .i64 c.tx,.int .i64 c.mode] 214):=⟨_,rfl⟩
 have hm1:Mod zAb w w1:=by rw [hw1];exact (Mod.refl _ w).alloc _
 have hb1:Blk w1 w.heap.size (zAh c) 214:=by rw [hw1];exact Blk.new w (zAh c) 214
 have HC:=Hmq (yJd B hv held w1 (hh.mod hm1 (fun _ _=>id)) h1)
 have HK:=Hmq (hk.mod hm1 id)
 have HM1:=Hmq hm1
 have HB1:=Hmq hb1
 obtain ⟨ha,hcap,rfl⟩:=zAg hh
 have c0:=HK.out.cell 0 rfl
 have hkl:=hk.lt
 clear hm1 hb1 hk hh
 go_enter Tryz.func179,Tryz.ntmps179
 go_upto_region 1 with fail
 rw [<-hw1]
 have HW1S:Hid (w1.heap.size=w.heap.size+1):=by rw [hw1,Hid];simp
 clear hw1
 go_wp2_with fail
 refine HC.out.mono ?_
 rintro e w2 ⟨u,rfl,hru,hm2⟩
 have hb2:=HB1.out.mod hm2 id
 have HDEL:=Hmq (zNj 232 w.heap.size w1.heap.size (zKy c) u held w2 hru (yEq hb2) hb2.lt (fun e=>by have:=(zAq hru e).1;have:=HW1S.out;omega) h1)
 have HM2:=Hmq (HM1.out.trans hm2)
 have HRU:Hid (∀ b,u.ownBlock=some b->w1.heap.size<=b):=fun b hb=>(zAq hru hb).1
 obtain ⟨ua,ucap,rfl⟩:=zAg hru
 clear hru hm2 hb2 c0 HC HK HB1
 go_wp2_with fail
 refine HDEL.out.mono ?_
 rintro e w3 ⟨u3,rfl,hr3,ho3,hm3⟩
 have hlk:(zGs (zKy c) held).length<=1000:=Nat.le_trans (List.length_filter_le _ _) h1
 have HT:=Hmq (yKe w3.heap.size u3 (zGs (zKy c) held) w3 (hr3.toV (Nat.le_refl _)) hlk)
 have HM3:Hid (Mod zAb w w3):=HM2.out.trans' hm3 (fun i hi e=>by have:=HRU.out i e;have:=HW1S.out;omega)
 obtain ⟨u3a,u3cap,rfl⟩:=zAg hr3
 clear hr3 hm3 ho3 HDEL
 go_wp2_with fail
 refine HT.out.mono ?_
 rintro e w4 ⟨u4,rfl,hr4,hm4⟩
 have hr4':=zEk hr4 HM3.out.size
 obtain ⟨u4a,u4cap,rfl⟩:=zAg hr4
 have HR4:Hid (RowI w4 w.heap.size (.slice u4a (zGs (zKy c) held).length u4cap) (zJl held c)):=by
  rw [Hid]
  unfold RowI zJl
  rw [List.length_map] at hr4' ⊢
  exact hr4'
 clear hr4 hr4'
 go_wp2_with fail
 go_ret
 exact ⟨_,rfl,HR4.out,HM3.out.trans hm4⟩
end Go.Proofs.YtogaigioeohjaaaGreatDoor
