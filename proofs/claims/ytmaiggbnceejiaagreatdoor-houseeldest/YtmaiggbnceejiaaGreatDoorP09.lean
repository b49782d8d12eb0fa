import Derived.Test.YtmaiggbnceejiaaGreatDoorP08
import Derived.Lib.SliceRun
set_option linter.unusedVariables false
set_option maxRecDepth 100000
set_option maxHeartbeats 16000000
namespace Go.Proofs.YtmaiggbnceejiaaGreatDoor
open Go.RowKit Go.Lib Go.Maps
structure vY(f q:Nat)(p:dg->Bool)(w:World):Prop where
 enter:∀ (args:Array Value) (w:World),(callFunc f args).run Tryz.prog w=.ok (.enter f args) w
 ask:∀ (d:dg) (wr:World),wr.heap[q]?=w.heap[q]? ->
  Calls Tryz.prog f #[.agg #[.int .i64 d.tx,.int .i64 d.mode],.pointer (some ⟨q,0,none⟩)] wr fun e w'=>e=.returned (.bool (p d))/\Mod dZ wr w'
theorem wR {f : FuncId} {fn : Func} {c : Code} (hf : Tryz.prog.funcs[f]? = some fn) (hname : (fn.name == "runtime.NumGoroutine") = false) (hb : fn.body = some c) (args : Array Value) (w : World) : (callFunc f args).run Tryz.prog w = .ok (.enter f args) w := by
 have h1 : fn.name ≠ "runtime.NumGoroutine" := by simpa using hname
 simp [callFunc,hf,h1,hb]
def sS(p:dg->Bool):List dg->Option Nat
 | []=>none
 | m :: ms=>if p m then some 0 else (sS p ms).map (·+1)
theorem yCq(p:dg->Bool):∀ (ms:List dg) (k:Nat),(∀ i m,i<k->ms[i]?=some m->p m=false)->∀ m,ms[k]?=some m->p m=true->sS p ms=some k
 | [],_,_,m,h,_=>by simp at h
 | m' :: ms,0,_,m,h,hs=>by simp at h;subst h;simp [sS,hs]
 | m' :: ms,k+1,hf,m,h,hs=>by
  have h0:=hf 0 m' (by omega) rfl;have:=yCq p ms k (fun i m hi hm=>hf (i+1) m (by omega) (by simpa using hm)) m (by simpa using h) hs;simp [sS,h0,this]
theorem zUt(p:dg->Bool):∀ (ms:List dg),(∀ (i:Nat) m,ms[i]?=some m->p m=false)->sS p ms=none
 | [],_=>rfl
 | m :: ms,h=>by
  have h0:=h 0 m rfl;simp [sS,h0,zUt p ms (fun i m hm=>h (i+1) m (by simpa using hm))]
theorem zXl(p:dg->Bool):∀ (ms:List dg),(sS p ms).isSome=ms.any p
 | []=>rfl
 | m :: ms=>by
  unfold sS;by_cases h:p m=true
  ·simp [h]
  ·simp [h,zXl p ms]
def LI(o:Option Nat):Int:=match o with | none=>-1 | some k=>k
theorem zXd(f q L:Nat)(p:dg->Bool)(v:Value)(ms:List dg)(w:World)(hv:vZ w L v ms)(hA:vY f q p w)(hq:q<w.heap.size)(hf:ms.length<=1000) :
  Calls Tryz.prog 171 #[v,.func (.func f) #[] #[.pointer (some ⟨q,0,none⟩)]] w fun e w'=>e=.returned (.int .i64 (LI (sS p ms)))/\Mod dZ w w':=by
 have HV:=dU hv;obtain ⟨a,cap,rfl,hc1,hc2⟩:=gG.slice hv;have HA:=dU hA;have hen:=hA.enter;clear hv hA;go_enter Tryz.func171,Tryz.ntmps171;go_wp2_with fail;go_loopw [8] (fun i wr=>∃ k:Nat,k<=ms.length/\i=.int .i64 k/\(∀ i m,i<k->ms[i]?=some m->p m=false)/\Mod dZ w wr) (fun i _=>ms.length - (intOf i).toNat)
 case atStart=>exact ⟨0,aV _,rfl,fun i m h=>by omega,Mod.refl _ _⟩
 case round=>
  obtain ⟨k,hk,rfl,hno,hM⟩:=hrel;have kv:=dU hno;have HM:=dU hM;clear hno hM;by_cases hlt:k<ms.length
  ·obtain ⟨m,hm⟩:∃ m,ms[k]?=some m:=⟨_,aA hlt⟩;obtain ⟨b,off,rfl,_,q0,q1⟩:=HV.out.at hm;have p0:=HM.out.cell q0 id;have p1:=HM.out.cell q1 id;have HC:=dU (HA.out.ask m wr (HM.out.block q hq id));have kh:=dU hm;have kO:(k:Int)<(ms.length:Int):=by omega
   have ow:(0:Int)<=(k:Int):=by omega
   clear hm q0 q1;go_wp2_with fail;refine HC.out.mono ?_;rintro e w5 ⟨rfl,eu⟩;have pA:=dU (HM.out.trans eu);clear HC p0 p1 eu
   cases hs:p m with
   | true=>
    have HF:=dU (yCq p ms k kv.out m kh.out hs);go_wp2_with fail;go_ret;exact ⟨by rw [HF.out];rfl,pA.out⟩
   | false=>
    go_wp2_with fail;go_roundw
    case rel=>
     refine ⟨k+1,by omega,by go_num,fun i m' hi' hm'=>?_,pA.out⟩;by_cases hik:i<k
     ·exact kv.out i m' hik hm'
     ·obtain rfl:i=k:=by omega
      rw [kh.out] at hm';cases hm';exact hs
    case measure=>simp [intOf];omega
  ·have HF:=dU (zUt p ms (fun i m hm=>kv.out i m (by have:=(aB.1 hm).1;omega) hm));go_wp2_with fail;go_ret;exact ⟨by rw [HF.out];rfl,HM.out⟩
theorem zQj(f q L:Nat)(p:dg->Bool)(v:Value)(ms:List dg)(w:World)(hv:vZ w L v ms)(hA:vY f q p w)(hq:q<w.heap.size)(hf:ms.length<=1000) :
  Calls Tryz.prog 148 #[v,.func (.func f) #[] #[.pointer (some ⟨q,0,none⟩)]] w fun e w'=>e=.returned (.bool (ms.any p))/\Mod dZ w w':=by
 have HI:=dU (zXd f q L p v ms w hv hA hq hf);obtain ⟨a,cap,rfl,hc1,hc2⟩:=gG.slice hv;have FC:Hid (decide (LI (sS p ms) ≥ 0)=ms.any p):=by
  rw [Hid,<-zXl]
  cases sS p ms with
  | none=>rfl
  | some k=>simp [LI]
 clear hv hA;go_enter Tryz.func148,Tryz.ntmps148;go_wp2_with fail;refine HI.out.mono ?_;rintro e w1 ⟨rfl,hm⟩;go_wp2_with fail;go_ret;exact ⟨by rw [<-FC.out];rfl,hm⟩
def TU:Array Value:=#[.int .i64 0,.int .i64 0]
def wV(n:Nat):List Value:=(Builtin.zeroCells TU n).toList
theorem UT(n:Nat):(wV n).length=n*2:=by rw [wV,cG,size_zeroCells];rfl
theorem yHt(n:Nat):∀ v∈wV n,v.oneCell'=true:=by
 intro v hv;simp only [wV,Builtin.zeroCells,dL,ag] at hv;obtain ⟨i,_,rfl⟩:=hv;have h9:∀ j,j<2->(TU[j]!).oneCell'=true:=by
  intro j hj
  match j,hj with
  | 0,_=>rfl
  | 1,_=>rfl
 exact h9 _ (dF _ (by decide))
theorem yPd(w:World):(zeroValue 170).run Tryz.prog w=.ok (.agg #[.int .i64 0,.int .i64 0]) w:=by kernel_rfl
theorem yIo(w:World)(ty:TypeId)(b o n c:Nat)(hn:0<n)(hc:∀ j,j<n*2->(w.cell? ⟨b,o+j,none⟩).isSome=true)(hf:∀ j,j<n*2->w.frozen? ⟨b,o+j,none⟩=false) :
  (Builtin.clear_ #[166] ty #[.slice (some ⟨b,o,none⟩) n c]).run Tryz.prog w=.ok (.tuple #[]) (w.setCells b o (wV n)):=by
 have hst:=run_storeCells_cells (P:=Tryz.prog) b o (wV n) 0 w (by simpa [UT] using hc) (by simpa [UT] using hf) (yHt n);simp only [bC] at hst;obtain ⟨m,rfl⟩:∃ m,n=m+1:=⟨n - 1,by omega⟩;have hz:=yPd;have e:(Value.agg #[.int .i64 0,.int .i64 0]).cells=TU:=rfl;simp only [wV] at hst ⊢;simp [Builtin.clear_,run_underlying Tryz.underlying166,hz,e,hst]
theorem zYh{w:World}{ops:Array Oper}{rest:List Oper}{o:Oper}{a:Act}{Q:Exit->Act->World->Prop}(hgd:o.guard=none)(s:Operand)
  (ho:o.op=.call { callee:=.builtin .clear,args:=#[s],argTypes:=#[166] }) (b off n c:Nat) (hs:a.eval s=.slice (some ⟨b,off,none⟩) n c) (hn:0<n)
  (hc:∀ j,j<n*2->(w.cell? ⟨b,off+j,none⟩).isSome=true) (hf:∀ j,j<n*2->w.frozen? ⟨b,off+j,none⟩=false)
  (h:wpList Tryz.prog ops Q rest (a.put o.dst (.tuple #[])) (w.setCells b off (wV n))):wpList Tryz.prog ops Q (o :: rest) a w:=by
 refine wpList_plain hgd fun K hK=>?_;have hr:=yIo w o.type b off n c hn hc hf;unfold Oper.wp execOp;simp only [ho,resolve,invoke,builtin,Sem.run_bind,Sem.run_pure,Result.andThen_ok,cI,bh,cR,hs,hr];exact hK _ _ h
theorem dh.kN{g:Nat}{t:TypeId}:∀ (vs:List Value) (w:World) (a old c:List Value),dh w g (a++old++c) t->old.length=vs.length->dh (w.setCells g a.length vs) g (a++vs++c) t
 | [],w,a,old,c,h,hl=>by
  have:old=[]:=aT hl;subst this;exact h
 | v :: vs,w,a,[],c,h,hl=>by simp at hl
 | v :: vs,w,a,x :: old,c,h,hl=>by
  have h1:=h.set a.length v;have e:((a++x :: old++c).set a.length v)=(a++[v])++old++c:=by simp
  rw [e] at h1;have:=dh.kN vs (w.setCell ⟨g,a.length,none⟩ v) (a++[v]) old c h1 (by simpa using hl);simp only [aD,aW,an] at this;rw [World.setCells];simpa using this
theorem Mod.kN{g:Nat}:∀ (vs:List Value) (o:Nat) (w:World),Mod (eF g) w (w.setCells g o vs)
 | [],_,_=>Mod.refl _ _
 | v :: vs,o,w=>(Mod.dq g o v).trans (Mod.kN vs (o+1) (w.setCell ⟨g,o,none⟩ v))
theorem UH{α:Type}(A X R:List α)(k:Nat):A++X.take k++(X.drop k++R)=A++X++R:=by
 rw [aU,aU,<-aU (X.take k),ai]
theorem uR{α:Type}{l:List α}{j:Nat}{x:α}(h:l[j]?=some x):l.drop j=x :: l.drop (j+1):=by
 have hj:j<l.length:=(aB.1 h).1;rw [aA hj] at h;simp at h;rw [<-h,<-bj hj]
theorem qP{α:Type}{l:List α}{j:Nat}{x:α}(h:l[j]?=some x):l.take (j+1)=l.take j++[x]:=by
 have hj:j<l.length:=(aB.1 h).1;rw [aA hj] at h;simp at h;rw [bd hj,h]
def nB(p:dg->Bool)(ms:List dg):List dg:=ms.filter (fun m=>!p m)
theorem zXc(p:dg->Bool)(ms:List dg)(m:dg):nB p (ms++[m])=if p m then nB p ms else nB p ms++[m]:=by
 unfold nB;rw [List.filter_append]
 cases h:p m <;> simp [h]
theorem zXm(p:dg->Bool):∀ ms,sS p ms=none->nB p ms=ms
 | [],_=>rfl
 | m :: ms,h=>by
  unfold sS at h;split at h
  ·cases h
  ·rename_i hs;have hs':p m=false:=by simpa using hs
   have:=zXm p ms (by simpa using h);unfold nB at this ⊢;rw [cJ,aJ (by simp [hs']),this]
theorem zUs(p:dg->Bool):∀ ms k,sS p ms=some k->k<ms.length/\nB p (ms.take (k+1))=ms.take k
 | [],_,h=>by simp [sS] at h
 | m :: ms,k,h=>by
  unfold sS at h;split at h
  ·rename_i hs;simp at h;subst h;refine ⟨by simp,?_⟩;simp [nB,hs]
  ·rename_i hs;have hs':p m=false:=by simpa using hs
   obtain ⟨k',hk',rfl⟩:=cH.1 h;obtain ⟨h1,h2⟩:=zUs p ms k' hk';refine ⟨by simp;omega,?_⟩;unfold nB at h2 ⊢;rw [aq,cJ,aJ (by simp [hs']),h2,aq]
def mD(w wr:World)(b:Nat)(p:dg->Bool)(ms:List dg)(R:List Value)(i j:Nat):Prop:=
 ∃ mid:List Value,i=(nB p (ms.take j)).length/\mid.length=(j - i)*2/\i<j/\j<=ms.length /\
  dh wr b (fF (nB p (ms.take j))++mid++(fF (ms.drop j)++R)) 170/\Mod (eF b) w wr
theorem mD.start{w wr:World}{b k0:Nat}{p:dg->Bool}{ms:List dg}{R:List Value}(hk:k0<ms.length)(pN:nB p (ms.take (k0+1))=ms.take k0)(hB:dh w b (fF ms++R) 170)(hm:Mod dZ w wr):mD w wr b p ms R k0 (k0+1):=by
 obtain ⟨m,hm0⟩:∃ m,ms[k0]?=some m:=⟨_,aA hk⟩;have iV:ms=ms.take k0++m :: ms.drop (k0+1):=by
  rw [<-uR hm0,ai]
 refine ⟨fZ m,by rw [pN,aZ];omega,by simp [fZ],by omega,by omega,?_,hm.mono (fun _ _ e=>e.elim)⟩;rw [pN];have:=hB.mod hm id;have e:fF ms=fF (ms.take k0)++(fZ m++fF (ms.drop (k0+1))):=by
  conv=>lhs;rw [iV]
  rw [Lr,fF]
 rw [e] at this;simpa [List.append_assoc] using this
theorem mD.look{w wr:World}{b i j:Nat}{p:dg->Bool}{ms:List dg}{R:List Value}(h:mD w wr b p ms R i j){m:dg}(hm:ms[j]?=some m) :
  ∀ n x,(fZ m)[n]?=some x->wr.cell? ⟨b,j*2+n,none⟩=some x:=by
 obtain ⟨mid,h1,h3,h4,h5,h6,h8⟩:=h;intro n x hx;have hn:n<2:=(aB.1 hx).1;refine h6.cell _ ?_;rw [uR hm,fF];have l1:=vj (nB p (ms.take j));rw [aO (by rw [aD];omega),aD,l1,h3,<-h1];rw [show j*2+n - (i*2+(j - i)*2)=n by omega,aU,aI hn];exact hx
theorem mD.skip{w wr wr':World}{b i j:Nat}{p:dg->Bool}{ms:List dg}{R:List Value}(h:mD w wr b p ms R i j){m:dg}(hm:ms[j]?=some m)(hs:p m=true)(iK:Mod dZ wr wr') :
  mD w wr' b p ms R i (j+1):=by
 obtain ⟨mid,h1,h3,h4,h5,h6,h8⟩:=h;have hj:j<ms.length:=(aB.1 hm).1;have e:nB p (ms.take (j+1))=nB p (ms.take j):=by rw [qP hm,zXc,aJ hs]
 refine ⟨mid++fZ m,by rw [e];exact h1,by rw [aD,h3];simp [fZ];omega,by omega,by omega,?_,h8.trans (iK.mono (fun _ _ e=>e.elim))⟩;rw [e];have:=h6.mod iK id;rw [uR hm,fF] at this;simpa [List.append_assoc] using this
theorem mD.keep{w wr wr':World}{b i j:Nat}{p:dg->Bool}{ms:List dg}{R:List Value}(h:mD w wr b p ms R i j){m:dg}(hm:ms[j]?=some m)(hs:p m=false)(iK:Mod dZ wr wr') :
  mD w (wr'.setCells b (i*2) (fZ m)) b p ms R (i+1) (j+1):=by
 obtain ⟨mid,h1,h3,h4,h5,h6,h8⟩:=h;have hj:j<ms.length:=(aB.1 hm).1;have e:nB p (ms.take (j+1))=nB p (ms.take j)++[m]:=by rw [qP hm,zXc,aE (by simp [hs])]
 have l1:=vj (nB p (ms.take j));refine ⟨mid.drop 2++fZ m,by rw [e,aD,<-h1];rfl,by rw [aD,bJ,h3];simp [fZ];omega,by omega,by omega,?_,(h8.trans (iK.mono (fun _ _ e=>e.elim))).trans (Mod.kN _ _ _)⟩;rw [e,Lr,Lt];have h9:=h6.mod iK id;rw [uR hm,fF] at h9;have:=dh.kN (g:=b) (t:=170) (fZ m) wr' (fF (nB p (ms.take j))) (mid.take 2) (mid.drop 2++(fZ m++fF (ms.drop (j+1))++R)) (by
  rw [UH];exact h9) (by rw [aZ,h3];simp [fZ];omega)
 rw [l1,<-h1] at this;simpa [List.append_assoc] using this
theorem mD.room{w wr:World}{b i j:Nat}{p:dg->Bool}{ms:List dg}{R:List Value}(h:mD w wr b p ms R i j):i<j/\j<=ms.length/\Mod (eF b) w wr /\
  (∀ n,n<(j - i)*2->(wr.cell? ⟨b,i*2+n,none⟩).isSome=true)/\∀ n,wr.frozen? ⟨b,n,none⟩=false:=by
 obtain ⟨mid,h1,h3,h4,h5,h6,h8⟩:=h;have l1:=vj (nB p (ms.take j));refine ⟨h4,h5,h8,fun n hn=>?_,fun n=>h6.frozen n⟩;obtain ⟨x,hx⟩:∃ x,(fF (nB p (ms.take j))++mid++(fF (ms.drop j)++R))[i*2+n]?=some x:=⟨_,aA (by simp only [aD];omega)⟩;rw [show wr.cell? ⟨b,i*2+n,none⟩=some x from h6.cell _ hx];rfl
theorem mD.done{w wr:World}{B b i cap:Nat}{p:dg->Bool}{ms:List dg}{R:List Value}(h:mD w wr b p ms R i ms.length)(hBb:B<=b)(hcap:ms.length<=cap)(hcm:cap<=maxLen)(lR:ms.length*2+R.length=cap*2) :
  fI (wr.setCells b (i*2) (wV (ms.length - i))) B (.slice (some ⟨b,0,none⟩) i cap) (nB p ms)/\Mod (eF b) w (wr.setCells b (i*2) (wV (ms.length - i))):=by
 obtain ⟨mid,h1,h3,h4,h5,h6,h8⟩:=h;rw [bI] at h1 h6;have l1:=vj (nB p ms);have l2:=UT (ms.length - i);have hM:=h8.trans (Mod.kN (wV (ms.length - i)) (i*2) wr);have e0:fF (ms.drop ms.length)=[]:=by rw [cV];rfl
 rw [e0,ak] at h6;have hB:=dh.kN (g:=b) (t:=170) (wV (ms.length - i)) wr (fF (nB p ms)) mid R h6 (by omega);rw [l1,<-h1] at hB;refine ⟨⟨by omega,.inr ⟨b,cap,(fF (nB p ms)++wV (ms.length - i)++R).toArray,by rw [<-h1],hBb,hB,by omega,hcm,?_,?_⟩⟩,hM⟩
 ·simp only [au,aD];omega
 ·rw [<-l1,aU,dR]
theorem UU(f q B:Nat)(p:dg->Bool)(v:Value)(ms:List dg)(w:World)(hR:fI w B v ms)(hA:vY f q p w)(hq:q<w.heap.size)(GY:v.ownBlock≠some q)(hf:ms.length<=1000) :
  Calls Tryz.prog 151 #[v,.func (.func f) #[] #[.pointer (some ⟨q,0,none⟩)]] w fun e w'=>∃ v',e=.returned v'/\fI w' B v' (nB p ms)/\v'.ownBlock=v.ownBlock/\Mod (fun x=>v.ownBlock=some x) w w':=by
 have nV:=dU (zXd f q w.heap.size p v ms w (hR.oN (aF _)) hA hq hf)
 cases hfi:sS p ms with
 | none=>
  rw [hfi] at nV;have HK:=dU (zXm p ms hfi);have HR:=dU hR;obtain ⟨a,cap,rfl⟩:=fJ hR;clear hR hA;go_enter Tryz.func151,Tryz.ntmps151;go_wp2_with fail;refine nV.out.mono ?_;rintro e w1 ⟨rfl,di⟩;simp only [LI];go_wp2_with fail;go_ret;exact ⟨_,rfl,by rw [HK.out];exact HR.out.mod di (fun _ _=>id),rfl,di.mono (fun _ _ e=>e.elim)⟩
 | some k0=>
  rw [hfi] at nV;obtain ⟨qT,pN⟩:=zUs p ms k0 hfi;rcases hR.2 with ⟨_,h0⟩ | ⟨b,cap,cur,rfl,DA,hg,hcap,hcm,hcs,htk⟩
  ·omega
  unfold maxLen at hcm;obtain ⟨R,xT⟩:∃ R,cur.toList=fF ms++R:=by
   refine ⟨cur.toList.drop (ms.length*2),?_⟩;rw [<-htk,ai]
  have lA:=vj ms;have mx:dh w b (fF ms++R) 170:=by rw [dh,<-xT];exact hg
  have lR:ms.length*2+R.length=cap*2:=by
   have:(fF ms++R).length=cap*2:=by rw [<-xT];simpa using hcs
   rw [aD,lA] at this;exact this
  have Ga:b≠q:=fun e=>GY (by rw [e];rfl);have nW:=dU mx;have IN:=dU pN;have HA:=dU hA;have hen:=hA.enter;clear mx xT hg hcs htk hR pN hfi lA hA GY;go_enter Tryz.func151,Tryz.ntmps151;go_wp2_with fail;refine nV.out.mono ?_;rintro e w1 ⟨rfl,di⟩;simp only [LI];have hne:((k0:Int) == -1)=false:=by rw [bk];omega
  go_wp2_with fail;go_loopw [5,6] (fun x y wr=>∃ i j:Nat,x=.int .i64 i/\y=.int .i64 j/\mD w wr b p ms R i j) (fun _ y _=>ms.length - (intOf y).toNat)
  case atStart=>exact ⟨k0,k0+1,rfl,by go_num,mD.start qT IN.out nW.out di⟩
  case round=>
   obtain ⟨i,j,rfl,rfl,hI⟩:=hrel;obtain ⟨hij,hjn,qj,hcell,hfro⟩:=hI.room;by_cases hlt:j<ms.length
   ·obtain ⟨m,hm⟩:∃ m,ms[j]?=some m:=⟨_,aA hlt⟩;have hlk:=hI.look hm;have q0:=hlk 0 _ rfl;have q1:=hlk 1 _ rfl;simp only [bC] at q0;have ND:wr.heap[q]?=w.heap[q]?:=qj.block q hq (fun e=>Ga e.symm);have Wv:q<wr.heap.size:=aG hq qj.size;have HC:=dU (HA.out.ask m (wr.alloc (.cells #[.int .i64 m.tx,.int .i64 m.mode] 170)) ((Below.heap_alloc _ _ _ Wv).trans ND));have HI:=dU hI;have kh:=dU hm;have vU:=dU hcell;have kx:=dU hfro;have fi:=dh.new wr (fZ m) 170;have hbz:b<wr.heap.size:=World.block_lt_of_cell? wr _ q0;clear hI hm hlk hcell hfro ND Wv;go_wp2_with fail;refine HC.out.mono ?_;rintro e w5 ⟨rfl,eu⟩;have AD:dh w5 wr.heap.size (fZ m) 170:=fi.mod eu id;have jk:=((Mod.refl dZ wr).alloc (.cells #[.int .i64 m.tx,.int .i64 m.mode] 170)).trans eu;clear HC q0 q1 fi
    cases hs:p m with
    | true=>
     have HN:=dU (HI.out.skip kh.out hs jk);go_wp2_with fail;go_roundw
     case rel=>exact ⟨i,j+1,rfl,by go_num,HN.out⟩
     case measure=>simp [intOf];omega
    | false=>
     have HN:=dU (HI.out.keep kh.out hs jk);have p0:=AD.cell 0 rfl;have p1:=AD.cell 1 rfl;have hex:∀ c,c<2->∃ y,w5.cell? ⟨b,i*2+c,none⟩=some y:=fun c hc=>by
      obtain ⟨y,hy⟩:=az.1 (vU.out c (by omega));exact ⟨y,jk.cell hy id⟩
     have hfz:∀ c,w5.frozen? ⟨b,c,none⟩=false:=fun c=>(jk.frozen (p:=⟨b,c,none⟩) hbz id).trans (kx.out c);obtain ⟨y0,hy0⟩:=hex 0 (by omega);obtain ⟨y1,hy1⟩:=hex 1 (by omega);have f0:=hfz (i*2+0);have f1:=hfz (i*2+1);simp only [bC] at hy0 f0;have uF:b≠wr.heap.size:=by omega
     clear hex hfz;go_wp2_with fail;go_roundw
     case rel=>exact ⟨i+1,j+1,by go_num,by go_num,by simpa [World.setCells,fZ,Nat.add_assoc] using HN.out⟩
     case measure=>simp [intOf];omega
   ·obtain rfl:j=ms.length:=by omega
    have vR:=dU (hI.done (B:=B) (cap:=cap) DA hcap (by unfold maxLen;omega) lR);have hb3:¬ cap=i:=by omega
    have hb4:i<=cap:=by omega
    have vU:=dU hcell;have kx:Hid (∀ n,n<(ms.length - i)*2->wr.frozen? ⟨b,i*2+n,none⟩=false):=fun n _=>hfro _;clear hI hcell hfro;go_wp2_with (first
     | (refine zYh rfl _ rfl b (i*2) (ms.length - i) _ rfl (by omega) vU.out kx.out ?_)
     | fail)
    go_ret;exact ⟨_,rfl,vR.out.1,rfl,vR.out.2.mono (fun x _ e=>by simp only [eF] at e;rw [e];rfl)⟩
theorem Td(a b:dg)(w:World) :
  Calls Tryz.prog 146 #[.agg #[.int .i64 a.tx,.int .i64 a.mode],.agg #[.int .i64 b.tx,.int .i64 b.mode]] w fun e w'=>e=.returned (.bool (kL a b))/\Mod dZ w w':=by
 obtain ⟨at',am⟩:=a;obtain ⟨bt,bm⟩:=b;have HM:Hid (Mod dZ w ((w.alloc (.cells #[.int .i64 at',.int .i64 am] 170)).alloc (.cells #[.int .i64 bt,.int .i64 bm] 170))):=((Mod.refl _ w).alloc _).alloc _;have HI:Hid (kL ⟨at',am⟩ ⟨bt,bm⟩=(decide (at'≠bt) && (decide (am=2) || decide (bm=2)))):=rfl;generalize kL ⟨at',am⟩ ⟨bt,bm⟩=r at HI;by_cases h1:at'=bt
 ·have hr:r=false:=by rw [HI.out];simp [h1]
  subst hr;subst h1;clear HI;go_enter Tryz.func146,Tryz.ntmps146;go_wp2_with fail;go_ret;exact ⟨rfl,HM.out⟩
 ·by_cases h2:am=2
  ·have HR:Hid (r=(at' != bt)):=by rw [HI.out,cN];simp [h1,h2,Hid]
   subst h2;clear HI;go_enter Tryz.func146,Tryz.ntmps146;go_wp2_with fail;go_ret;exact ⟨by rw [HR.out];rfl,HM.out⟩
  ·have HR:Hid (r=(at' != bt && (am == 2 || bm == 2))):=by rw [HI.out,cN];simp [h1,h2,Hid]
   clear HI;go_enter Tryz.func146,Tryz.ntmps146;go_wp2_with fail;go_ret;exact ⟨by rw [HR.out];rfl,HM.out⟩
theorem QH{w wr:World}{q:Nat}{cs:List Value}{t:TypeId}(h:dh w q cs t)(he:wr.heap[q]?=w.heap[q]?):dh wr q cs t:=he.trans h
theorem yOp{w:World}{q:Nat}{c:dg}(h:dh w q (fZ c) 170):vY 145 q (fun o=>kL o c) w:=by
 refine ⟨wR Tryz.func145 (by kernel_rfl) rfl,fun d wr he=>?_⟩;have hb:=QH h he;have p0:=hb.cell 0 rfl;have p1:=hb.cell 1 rfl;have hq:=hb.lt;have HM:Hid (Mod dZ wr (wr.alloc (.cells #[.int .i64 d.tx,.int .i64 d.mode] 170))):=(Mod.refl _ wr).alloc _;have HI:=fun w=>Td d c w;have Pg:=dU HI;clear h hb he HI;go_enter Tryz.func145,Tryz.ntmps145;go_wp2_with fail;refine (Pg.out _).mono ?_;rintro e w1 ⟨rfl,hm⟩;go_wp2_with fail;go_ret;exact ⟨rfl,HM.out.trans hm⟩
theorem yOo{w:World}{q:Nat}{c:dg}(h:dh w q (fZ c) 170):vY 147 q (fun o=>decide (o.tx<c.tx) && kL o c) w:=by
 refine ⟨wR Tryz.func147 (by kernel_rfl) rfl,fun d wr he=>?_⟩;have hb:=QH h he;have p0:=hb.cell 0 rfl;have p1:=hb.cell 1 rfl;have hq:=hb.lt;have HM:Hid (Mod dZ wr (wr.alloc (.cells #[.int .i64 d.tx,.int .i64 d.mode] 170))):=(Mod.refl _ wr).alloc _;have HI:=fun w=>Td d c w;have Pg:=dU HI;clear h hb he HI;by_cases hl:d.tx<c.tx
 ·have hd:decide (d.tx<c.tx)=true:=aQ hl;have xh:=dU hd;go_enter Tryz.func147,Tryz.ntmps147;go_wp2_with fail;refine (Pg.out _).mono ?_;rintro e w1 ⟨rfl,hm⟩;go_wp2_with fail;go_ret;exact ⟨by first | rfl | (rw [xh.out];rfl),HM.out.trans hm⟩
 ·have hd:decide (d.tx<c.tx)=false:=aP hl;have xh:=dU hd;go_enter Tryz.func147,Tryz.ntmps147;go_wp2_with fail;go_ret;exact ⟨by first | rfl | (rw [xh.out];rfl),HM.out⟩
theorem yFv{w:World}{q:Nat}{c:dg}(h:dh w q (fZ c) 170):vY 150 q (Db c) w:=by
 refine ⟨wR Tryz.func150 (by kernel_rfl) rfl,fun d wr he=>?_⟩;have hb:=QH h he;have p0:=hb.cell 0 rfl;have p1:=hb.cell 1 rfl;have hq:=hb.lt;have HM:Hid (Mod dZ wr (wr.alloc (.cells #[.int .i64 d.tx,.int .i64 d.mode] 170))):=(Mod.refl _ wr).alloc _;have HI:=fun w=>Td d c w;have Pg:=dU HI;clear h hb he HI;unfold Db;by_cases hl:d.tx<c.tx
 ·have hd:decide (d.tx<c.tx)=true:=aQ hl;have xh:=dU hd;go_enter Tryz.func150,Tryz.ntmps150;go_wp2_with fail;go_ret;exact ⟨by first | rfl | (rw [xh.out];rfl),HM.out⟩
 ·have hd:decide (d.tx<c.tx)=false:=aP hl;have xh:=dU hd;go_enter Tryz.func150,Tryz.ntmps150;go_wp2_with fail;refine (Pg.out _).mono ?_;rintro e w1 ⟨rfl,hm⟩;go_wp2_with fail;go_ret;exact ⟨by first | rfl | (rw [xh.out];rfl),HM.out.trans hm⟩
theorem yDg{w:World}{q:Nat}{t:Int}(h:dh w q [.int .i64 t] 3):vY 167 q (fun c=>decide (c.tx=t)) w:=by
 refine ⟨wR Tryz.func167 (by kernel_rfl) rfl,fun d wr he=>?_⟩;have hb:=QH h he;have p0:=hb.cell 0 rfl;have hq:=hb.lt;have HM:Hid (Mod dZ wr (wr.alloc (.cells #[.int .i64 d.tx,.int .i64 d.mode] 170))):=(Mod.refl _ wr).alloc _;clear h hb he;go_enter Tryz.func167,Tryz.ntmps167;go_wp2_with fail;go_ret;exact ⟨by first | rfl | (congr 2;rw [cN];simp),HM.out⟩
theorem yHg(L kb:Nat)(hv wv:Value)(held waits:List dg)(c:dg)(w:World)(hk:dh w kb [hv,wv] 168)(hh:vZ w L hv held)(hw:vZ w L wv waits)(h1:held.length<=1000)(h2:waits.length<=1000) :
  Calls Tryz.prog 111 #[.pointer (some ⟨kb,0,none⟩),.agg #[.int .i64 c.tx,.int .i64 c.mode]] w fun e w'=>e=.returned (.bool (pD held waits c))/\Mod dZ w w':=by
 have uB:∀ fn first cap w,(Instr.makeFunc fn first cap).run Tryz.prog w=.ok (.func fn first cap) w:=fun _ _ _ _=>rfl
 obtain ⟨w1,hw1⟩:∃ q,q=w.alloc (.cells #[.int .i64 c.tx,.int .i64 c.mode] 170):=⟨_,rfl⟩;have di:Mod dZ w w1:=by rw [hw1];exact (Mod.refl _ w).alloc _
 have hb1:dh w1 w.heap.size (fZ c) 170:=by rw [hw1];exact dh.new w (fZ c) 170
 have HA:=dU (zQj 145 w.heap.size L (fun o=>kL o c) hv held w1 (hh.mod di (fun _ _=>id)) (yOp hb1) hb1.lt h1);have HB:Hid (∀ w2,Mod dZ w1 w2->Calls Tryz.prog 148 #[wv,.func (.func 147) #[] #[.pointer (some ⟨w.heap.size,0,none⟩)]] w2 fun e w'=>e=.returned (.bool (waits.any (fun o=>decide (o.tx<c.tx) && kL o c)))/\Mod dZ w2 w'):=fun w2 hm2=>
  zQj 147 w.heap.size L _ wv waits w2 ((hw.mod di (fun _ _=>id)).mod hm2 (fun _ _=>id)) (yOo (hb1.mod hm2 id)) (hb1.mod hm2 id).lt h2
 have HK:=dU (hk.mod di id);have fg:=dU di;obtain ⟨ha,hcap,rfl,_,_⟩:=gG.slice hh;obtain ⟨wa,fz,rfl,_,_⟩:=gG.slice hw;have c0:=HK.out.cell 0 rfl;have c1:=HK.out.cell 1 rfl;have hkl:=hk.lt;have HF:Hid (pD held waits c=(!(held.any fun o=>kL o c) && !(waits.any fun o=>decide (o.tx<c.tx) && kL o c))):=rfl;generalize pD held waits c=r at HF;clear di hb1 hk hh hw
 cases OD:held.any (fun o=>kL o c) with
 | true=>
  rw [OD] at HA HF;have hr:r=false:=by rw [HF.out];rfl
  subst hr;go_enter Tryz.func111,Tryz.ntmps111;go_upto_region 1 with fail;rw [<-hw1];clear hw1;go_wp2_with fail;refine HA.out.mono ?_;rintro e w2 ⟨rfl,hm2⟩;go_wp2_with fail;go_ret;exact ⟨rfl,fg.out.trans hm2⟩
 | false=>
  rw [OD] at HA HF;have HR:Hid (r=!(waits.any fun o=>decide (o.tx<c.tx) && kL o c)):=by rw [HF.out];rfl
  clear HF;go_enter Tryz.func111,Tryz.ntmps111;go_upto_region 1 with fail;rw [<-hw1];clear hw1;go_wp2_with fail;refine HA.out.mono ?_;rintro e w2 ⟨rfl,hm2⟩;have d1:=hm2.cell c1 id;have gu:=dU hm2;have qJ:=dU (HB.out w2 hm2);clear HB hm2 c0 c1;go_wp2_with fail;refine qJ.out.mono ?_;rintro e w3 ⟨rfl,dz⟩;go_wp2_with fail;go_ret;exact ⟨by rw [HR.out];rfl,(fg.out.trans gu.out).trans dz⟩
theorem Tryz.rZ:(Tryz.prog.info? 3).map (fun i=>(i.zero,i.size,i.bytes))=some (some (.int .i64 0),1,8):=by kernel_rfl
def De(l:List Int):List Value:=l.map (Value.int .i64)
theorem zOg(l:List Int)(x:Int):De (l++[x])=De l++[.int .i64 x]:=by simp [De]
def jL(w:World)(B:Nat)(v:Value)(l:List Int):Prop:=w.ownsRow B 3 1 v l.length (De l)
theorem jL.mod{G:Nat->Prop}{w w':World}{B:Nat}{v:Value}{os:List Int}(h:jL w B v os)(hm:Mod G w w')(hG:∀ k,v.ownBlock=some k->¬ G k):jL w' B v os:=gD h hm (fun k _ _ e=>hG k e)
theorem yKz(L:Nat)(v:Value)(l:List dg)(w:World)(hv:vZ w L v l)(hl:l.length<=1000) :
  Calls Tryz.prog 123 #[v] w fun e w'=>∃ u,e=.returned u/\jL w' w.heap.size u (l.map (·.tx))/\Mod dZ w w':=by
 obtain ⟨j0,hj,GD,GC,GB⟩:=info_parts Tryz.rZ;have HV:=dU hv;obtain ⟨a,cap,rfl,hc1,hc2⟩:=gG.slice hv;unfold maxLen at hc2;clear hv;have ID:Hid (jL w w.heap.size (.slice none 0 0) []):=World.ownsRow_nil _ _ _ _;go_enter Tryz.func123,Tryz.ntmps123;go_wp2_with fail;go_loopw [3,8] (fun u i wr=>∃ k:Nat,k<=l.length/\i=.int .i64 k/\jL wr w.heap.size u ((l.take k).map (·.tx))/\Mod dZ w wr) (fun _ i _=>l.length - (intOf i).toNat)
 case atStart=>exact ⟨0,aV _,rfl,by simpa using ID.out,Mod.refl _ _⟩
 case round=>
  rename_i u _;obtain ⟨k,hk,rfl,hrow,hM⟩:=hrel;obtain ⟨ua,dj,rfl⟩:=fJ hrow;have HM:=dU hM;have fc:=dU hrow;clear hrow hM ID;by_cases hlt:k<l.length
  ·obtain ⟨d,hd⟩:∃ d,l[k]?=some d:=⟨_,aA hlt⟩;obtain ⟨b,off,rfl,_,q0,q1⟩:=HV.out.at hd;have p0:=HM.out.cell q0 id;have p1:=HM.out.cell q1 id;have htk:(l.take (k+1)).map (·.tx)=(l.take k).map (·.tx)++[d.tx]:=by rw [qP hd,ao];rfl
   have SX:=dU htk;obtain ⟨w3,hw3⟩:∃ q,q=wr.alloc (.cells #[.int .i64 d.tx,.int .i64 d.mode] 170):=⟨_,rfl⟩;have dz:Mod dZ wr w3:=by rw [hw3];exact (Mod.refl _ wr).alloc _
   have hb3:dh w3 wr.heap.size (fZ d) 170:=by rw [hw3];exact dh.new wr (fZ d) 170
   have r0:=hb3.cell 0 rfl;have AO:Hid (w3.ownsRow w.heap.size 3 1 (.slice ua (List.map (·.tx) (l.take k)).length dj) (List.map (·.tx) (l.take k)).length (De ((l.take k).map (·.tx)))):=fc.out.mod dz (fun _ _=>id);have jt:=dU (HM.out.trans dz);have hlk:(List.map (·.tx) (l.take k)).length=k:=by simp;omega
   rw [hlk] at AO;have iF:k+1<=maxLen:=by unfold maxLen;omega
   have iG:(k+1)*8<=140737488355328:=by omega
   have hz3:=jt.out.size;have kO:(k:Int)<(l.length:Int):=by omega
   have ow:(0:Int)<=(k:Int):=by omega
   rw [hlk];have yM:=dU hlk;clear hd q0 q1 htk hb3 dz hlk;go_upto_region 5 with fail;rw [<-hw3];clear hw3 p0 p1;go_wp2_with (first
    | (at_builtin;refine wpList_append_own_at _ rfl (.tmp 12) (.tmp 15) 26 rfl w.heap.size 3 j0 _ 1 8 Tryz.underlying26 hj GD GC GB rfl (by decide) _ _ _ rfl (AO.out.alloc _) ⟨w3.heap.size,0,none⟩ 1 1 [.int .i64 d.tx] rfl rfl (World.news_of_block (heap_alloc_new w3 _)) (by simp [Value.oneCell']) iF iG (by simp;omega) ?_)
    | fail)
   intro v7 w7 eQ fB _ jC;have ix:Mod dZ w w7:=(jt.out.alloc _).grown fB (fun y hy hlt=>by have:=(mM AO.out hy).1;omega);obtain ⟨a7,fP,qf⟩:=fJ eQ;subst qf;have PE:=dU eQ;have DR:=dU ix;clear eQ fB jC ix;go_wp2_with fail;go_roundw
   case rel=>
    refine ⟨k+1,by omega,by go_num,?_,DR.out⟩;rw [SX.out];unfold jL;rw [zOg,aD,yM.out,List.map_take];exact PE.out
   case measure=>simp [intOf];omega
  ·obtain rfl:k=l.length:=by omega
   have PO:Hid (jL wr w.heap.size (.slice ua l.length dj) (l.map (·.tx))):=by
    have h:=fc.out;rw [Hid];unfold jL at h ⊢;rw [bI,af] at h;rw [af];exact h
   clear fc;rw [show (List.map (fun x:dg=>x.tx) (l.take l.length)).length=l.length by simp];go_wp2_with fail;go_ret;exact ⟨_,rfl,PO.out,HM.out⟩
theorem yKa(B:Nat)(v:Value)(l:List dg)(w:World)(hR:fI w B v l)(hl:l.length<=1000) :
  Calls Tryz.prog 152 #[v] w fun e w'=>∃ u,e=.returned u/\fI w' w.heap.size u l/\Mod dZ w w':=by
 rcases hR.2 with ⟨rfl,h0⟩ | ⟨g,cap,cur,rfl,q1,q2,q3,q4,q5,q6⟩
 ·have mQ:l=[]:=aT h0;subst mQ;have hen:(binOp .eql 166 (.slice none 0 0) (.slice none 0 0)).run Tryz.prog w=.ok (.bool true) w:=by kernel_rfl
  have ID:Hid (fI w w.heap.size (.slice none 0 0) []):=World.ownsRow_nil _ _ _ _;clear hR;go_enter Tryz.func152,Tryz.ntmps152;go_wp2_with fail;go_ret;exact ⟨_,rfl,ID.out,Mod.refl _ _⟩
 ·refine (yKb ⟨g,0,none⟩ l.length cap l w rfl (fun j u hu=>hR.cells (g:=g) rfl j u hu) hl).mono ?_;rintro e w' ⟨g',cap',rfl,hrow,hm⟩;exact ⟨_,rfl,hrow,hm⟩
theorem yDw(B kb:Nat)(hv wv:Value)(held:List dg)(c:dg)(w:World)(hk:dh w kb [hv,wv] 168)(hh:fI w B hv held)(h1:held.length<=1000) :
  Calls Tryz.prog 114 #[.pointer (some ⟨kb,0,none⟩),.agg #[.int .i64 c.tx,.int .i64 c.mode]] w fun e w'=>∃ u,e=.returned u/\jL w' w.heap.size u (wU held c)/\Mod dZ w w':=by
 have uB:∀ fn first cap w,(Instr.makeFunc fn first cap).run Tryz.prog w=.ok (.func fn first cap) w:=fun _ _ _ _=>rfl
 obtain ⟨w1,hw1⟩:∃ q,q=w.alloc (.cells #[.int .i64 c.tx,.int .i64 c.mode] 170):=⟨_,rfl⟩;have di:Mod dZ w w1:=by rw [hw1];exact (Mod.refl _ w).alloc _
 have hb1:dh w1 w.heap.size (fZ c) 170:=by rw [hw1];exact dh.new w (fZ c) 170
 have HC:=dU (yKa B hv held w1 (hh.mod di (fun _ _=>id)) h1);have HK:=dU (hk.mod di id);have fg:=dU di;have mV:=dU hb1;obtain ⟨ha,hcap,rfl⟩:=fJ hh;have c0:=HK.out.cell 0 rfl;have hkl:=hk.lt;clear di hb1 hk hh;go_enter Tryz.func114,Tryz.ntmps114;go_upto_region 1 with fail;rw [<-hw1];have PG:Hid (w1.heap.size=w.heap.size+1):=by rw [hw1,Hid];simp
 clear hw1;go_wp2_with fail;refine HC.out.mono ?_;rintro e w2 ⟨u,rfl,sf,hm2⟩;have hb2:=mV.out.mod hm2 id;have Pq:=dU (UU 150 w.heap.size w1.heap.size (Db c) u held w2 sf (yFv hb2) hb2.lt (fun e=>by have:=(mM sf e).1;have:=PG.out;omega) h1);have gu:=dU (fg.out.trans hm2);have ZR:Hid (∀ b,u.ownBlock=some b->w1.heap.size<=b):=fun b hb=>(mM sf hb).1;obtain ⟨ua,dj,rfl⟩:=fJ sf;clear sf hm2 hb2 c0 HC HK mV;go_wp2_with fail;refine Pq.out.mono ?_;rintro e w3 ⟨u3,rfl,hr3,ho3,dz⟩;have hlk:(nB (Db c) held).length<=1000:=aM (aw _ _) h1;have HT:=dU (yKz w3.heap.size u3 (nB (Db c) held) w3 (hr3.oN (aF _)) hlk);have jt:Hid (Mod dZ w w3):=gu.out.trans' dz (fun i hi e=>by have:=ZR.out i e;have:=PG.out;omega);obtain ⟨u3a,u3cap,rfl⟩:=fJ hr3;clear hr3 dz ho3 Pq;go_wp2_with fail;refine HT.out.mono ?_;rintro e w4 ⟨u4,rfl,hr4,gM⟩;have GX:=uP hr4 jt.out.size;obtain ⟨u4a,MG,rfl⟩:=fJ hr4;have ZW:Hid (jL w4 w.heap.size (.slice u4a (nB (Db c) held).length MG) (wU held c)):=by
  rw [Hid];unfold jL wU;rw [af] at GX ⊢;exact GX
 clear hr4 GX;go_wp2_with fail;go_ret;exact ⟨_,rfl,ZW.out,jt.out.trans gM⟩
structure Hz(w:World)(B kb:Nat)(hv wv:Value)(held waits:List dg):Prop where
 blk:dh w kb [hv,wv] 168
 h:fI w B hv held
 w:fI w B wv waits
 ne:∀ x,hv.ownBlock=some x->wv.ownBlock≠some x
theorem wW{w:World}{B kb:Nat}{v:Value}{cs:List Value}{l:List dg}(hb:dh w kb cs 168)(hr:fI w B v l):v.ownBlock≠some kb:=fun e=>by
 obtain ⟨_,_,cur,hc⟩:=mM hr e;unfold dh at hb;rw [hc] at hb;simp at hb
theorem yMs(B kb:Nat)(hv wv:Value)(held waits:List dg)(t:Int)(w:World)(hk:Hz w B kb hv wv held waits)(h1:held.length<=1000)(h2:waits.length<=1000) :
  Calls Tryz.prog 142 #[.pointer (some ⟨kb,0,none⟩),.int .i64 t] w fun e w'=>e=.returned (.tuple #[])/\∃ hv' iJ,Hz w' B kb hv' iJ (kR held t) (kR waits t)/\hv'.ownBlock=hv.ownBlock/\iJ.ownBlock=wv.ownBlock/\Mod (fun x=>x=kb\/hv.ownBlock=some x\/wv.ownBlock=some x) w w':=by
 have uB:∀ fn first cap w,(Instr.makeFunc fn first cap).run Tryz.prog w=.ok (.func fn first cap) w:=fun _ _ _ _=>rfl
 obtain ⟨w1,hw1⟩:∃ q,q=w.alloc (.cells #[.int .i64 t] 3):=⟨_,rfl⟩;have di:Mod dZ w w1:=by rw [hw1];exact (Mod.refl _ w).alloc _
 have hb1:dh w1 w.heap.size [.int .i64 t] 3:=by rw [hw1];exact dh.new w [.int .i64 t] 3
 have ze:=hk.blk.mod di id;have hh1:=hk.h.mod di (fun _ _=>id);have Mj:=hk.w.mod di (fun _ _=>id);have GY:hv.ownBlock≠some w.heap.size:=fun e=>by have:=(mM hk.h e).2.1;omega
 have hqw:wv.ownBlock≠some w.heap.size:=fun e=>by have:=(mM hk.w e).2.1;omega
 have XZ:hv.ownBlock≠some kb:=wW hk.blk hk.h;have zX:wv.ownBlock≠some kb:=wW hk.blk hk.w;have hkq:kb≠w.heap.size:=by have:=hk.blk.lt;omega
 have HD1:=dU (UU 167 w.heap.size B (fun c=>decide (c.tx=t)) hv held w1 hh1 (yDg hb1) hb1.lt GY h1);have HD2:Hid (∀ w2:World,Mod (fun x=>hv.ownBlock=some x\/x=kb) w1 w2->Calls Tryz.prog 151 #[wv,.func (.func 167) #[] #[.pointer (some ⟨w.heap.size,0,none⟩)]] w2 fun e w'=>∃ v',e=.returned v'/\fI w' B v' (kR waits t)/\v'.ownBlock=wv.ownBlock/\Mod (fun x=>wv.ownBlock=some x) w2 w'):=fun w2 hm2=>by
  have hb2:=hb1.mod hm2 (fun e=>e.elim GY (fun e=>hkq e.symm));exact UU 167 w.heap.size B (fun c=>decide (c.tx=t)) wv waits w2 (Mj.mod hm2 (fun x hx e=>e.elim (fun e=>hk.ne x e hx) (fun e=>zX (by rw [<-e];exact hx)))) (yDg hb2) hb2.lt hqw h2
 have HKY:=dU hk;have HKB:=dU ze;have fg:=dU di;obtain ⟨ha,hcap,rfl⟩:=fJ hk.h;obtain ⟨wa,fz,rfl⟩:=fJ hk.w;have c0:=ze.cell 0 rfl;have hkl:=ze.lt;have hfz:=ze.frozen 0;clear di hb1 ze hh1 Mj hk;go_enter Tryz.func142,Tryz.ntmps142;go_upto_region 1 with fail;rw [<-hw1];clear hw1;go_wp2_with fail;refine HD1.out.mono ?_;rintro e w2 ⟨u,rfl,sf,Wz,hm2⟩;have hb2:=HKB.out.mod hm2 XZ;have hb3:=hb2.set 0 u;obtain ⟨w3,hw3⟩:∃ q,q=w2.setCell ⟨kb,0,none⟩ u:=⟨_,rfl⟩;rw [<-hw3] at hb3;have dz:Mod (eF kb) w2 w3:=by rw [hw3];exact Mod.dq kb 0 u
 have jJ:Mod (fun x=>(Value.slice ha held.length hcap).ownBlock=some x\/x=kb) w1 w3:=(hm2.mono (fun _ _ e=>.inl e)).trans (dz.mono (fun _ _ e=>.inr e));have HD:=dU (HD2.out w3 jJ);have FA:Hid (dh w3 kb [u,.slice wa waits.length fz] 168):=hb3;have ZR:Hid (fI w3 B u (kR held t)):=sf.mod dz (fun x hx e=>by simp only [eF] at e;rw [e,Wz] at hx;exact XZ hx);have Sc:=dU Wz;have Zk:=dU jJ;have hf2:=hb2.frozen 0;have d0:=hb2.cell 0 rfl;have Xa:=hb2.lt;obtain ⟨ua,dj,hu⟩:=fJ sf;subst hu;clear hm2 hb2 hb3 sf Wz HD1 HD2 c0 dz jJ hfz;go_upto_region 3 with fail;rw [<-hw3];clear hw3 d0 hf2 Xa;have c1:=FA.out.cell 1 rfl;have hkl3:=FA.out.lt;go_wp2_with fail;refine HD.out.mono ?_;rintro e w4 ⟨v4,rfl,hr4,RV,gM⟩;have hb4:=FA.out.mod gM zX;have Jn:=hb4.frozen 1;have d1:=hb4.cell 1 rfl;have hkl4:=hb4.lt;have nP:=hb4.set 1 v4;have eu:Mod (eF kb) w4 (w4.setCell ⟨kb,1,none⟩ v4):=Mod.dq kb 1 v4;have ir:Hid (∃ hv' iJ,Hz (w4.setCell ⟨kb,1,none⟩ v4) B kb hv' iJ (kR held t) (kR waits t)/\hv'.ownBlock=(Value.slice ha held.length hcap).ownBlock/\iJ.ownBlock=(Value.slice wa waits.length fz).ownBlock/\Mod (fun x=>x=kb\/(Value.slice ha held.length hcap).ownBlock=some x\/(Value.slice wa waits.length fz).ownBlock=some x) w (w4.setCell ⟨kb,1,none⟩ v4)):=by
  refine ⟨_,v4,⟨nP,?_,?_,?_⟩,Sc.out,RV,?_⟩
  ·refine (ZR.out.mod gM (fun x hx e=>?_)).mod eu (fun x hx e=>?_)
   ·rw [Sc.out] at hx;exact HKY.out.ne x hx e
   ·simp only [eF] at e;rw [e,Sc.out] at hx;exact XZ hx
  ·exact hr4.mod eu (fun x hx e=>by simp only [eF] at e;rw [e,RV] at hx;exact zX hx)
  ·intro x hx;rw [Sc.out] at hx;rw [RV];exact HKY.out.ne x hx
  ·refine ((fg.out.mono (fun _ _ e=>e.elim)).trans (Zk.out.mono (fun x _ e=>e.elim (fun e=>.inr (.inl e)) .inl))).trans ((gM.mono (fun x _ e=>.inr (.inr e))).trans (eu.mono (fun x _ e=>.inl e)))
 obtain ⟨va,CH,hv4⟩:=fJ hr4;subst hv4;clear hr4 RV gM hb4 nP eu HD;go_wp2_with fail
 first
  | go_end0
  | refine bodyPost_normal (results_none rfl _ _ _) ?_
 exact ⟨rfl,ir.out⟩
theorem zQl:∀ (l:List dg) (n:Nat) (c:dg),n<l.length->fF (l.set n c)=((fF l).set (n*2) (.int .i64 c.tx)).set (n*2+1) (.int .i64 c.mode)
 | [],n,c,h=>by simp at h
 | x :: l,0,c,h=>by simp [fF,fZ]
 | x :: l,n+1,c,h=>by
  have ih:=zQl l n c (by simpa using h);rw [dG,fF,fF,ih,show (n+1)*2=(fZ x).length+n*2 by simp [fZ];omega];rw [dO _ _ (by omega),dO _ _ (by omega)];congr 2
  ·congr 1;omega
  ·omega
theorem fI.set{w:World}{B g cap:Nat}{l:List dg}(h:fI w B (.slice (some ⟨g,0,none⟩) l.length cap) l){n:Nat}(hn:n<l.length)(c:dg) :
  fI ((w.setCell ⟨g,n*2,none⟩ (.int .i64 c.tx)).setCell ⟨g,n*2+1,none⟩ (.int .i64 c.mode)) B (.slice (some ⟨g,0,none⟩) l.length cap) (l.set n c):=by
 rcases h.2 with ⟨e,_⟩ | ⟨g',cap',cur,e,q1,q2,q3,q4,q5,q6⟩
 ·cases e
 ·cases e
  have hb:dh w g cur.toList 170:=by simpa [dh] using q2
  have hb2:=(hb.set (n*2) (.int .i64 c.tx)).set (n*2+1) (.int .i64 c.mode);refine ⟨by rw [vj,aa],.inr ⟨g,cap,_,by rw [aa],q1,hb2,by rw [aa];exact q3,q4,by simpa using q5,?_⟩⟩;show List.take _ ((cur.toList.set _ _).set _ _)=_;rw [aa,zQl l n c hn,<-q6,List.take_set,List.take_set]
def RE(w:World)(B:Nat)(v:Value)(l:List dg)(c:dg)(e:Ending)(w':World):Prop:=
 ∃ u,e=.returned u/\fI w' B u (jM l c)/\Mod (fun b=>v.ownBlock=some b) w w'/\(u.ownBlock=v.ownBlock\/∀ b,u.ownBlock=some b->w.heap.size<=b)
theorem yGg(B:Nat)(v:Value)(l:List dg)(c:dg)(w:World)(hR:fI w B v l)(hr:jl l)(hl:l.length<=900)(hB:B<=w.heap.size) :
  Calls Tryz.prog 112 #[v,.agg #[.int .i64 c.tx,.int .i64 c.mode]] w (RE w B v l c):=by
 obtain ⟨w1,hw1⟩:∃ q,q=w.alloc (.cells #[.int .i64 c.tx,.int .i64 c.mode] 170):=⟨_,rfl⟩;have di:Mod dZ w w1:=by rw [hw1];exact (Mod.refl _ w).alloc _
 have hb1:dh w1 w.heap.size (fZ c) 170:=by rw [hw1];exact dh.new w (fZ c) 170
 have Hb:=hR.mod di (fun _ _=>id);have HP:=dU (yBe w1.heap.size v l c.tx w1 (Hb.oN (aF _)) hr (by omega));have hle:=QB l c.tx;have wI:Hid (jM l c=if mB l c.tx then l.set (gW l c.tx) c else l.take (gW l c.tx)++c :: l.drop (gW l c.tx)):=rfl;have fg:=dU di;have mV:=dU hb1;have PS:=dU Hb;have HNV:Hid (v.ownBlock≠some w.heap.size):=fun e=>by have:=(mM hR e).2.1;omega
 have lX:Hid (mB l c.tx=true->gW l c.tx<l.length):=fun h=>by obtain ⟨d,h1,_⟩:=MB h;exact (aB.1 h1).1
 generalize gW l c.tx=n at HP hle wI lX;have p0:=hb1.cell 0 rfl;have p1:=hb1.cell 1 rfl;have hz1:=hb1.lt
 cases hf:mB l c.tx with
 | true=>
  have hn:=lX.out hf;rw [hf] at HP wI;simp only [if_true] at wI;rcases hR.2 with ⟨_,h0⟩ | ⟨g,cap,cur,rfl,q1,q2,q3,q4,q5,q6⟩
  ·omega
  have hg:g<w.heap.size:=(aK.1 q2).1;have hcz:cur.size=cap*2:=q5;have hbl:dh w g cur.toList 170:=by simpa [dh] using q2
  have XO:(n:Int)<(l.length:Int):=by omega
  have hn0:(0:Int)<=(n:Int):=by omega
  have Sr:=dU hbl;have kr:g≠w.heap.size:=by omega
  clear hR Hb di hb1 q2 q6 hf hr q5 hbl lX;go_enter Tryz.func112,Tryz.ntmps112;go_upto_region 1 with fail;rw [<-hw1];clear hw1;go_wp2_with fail;refine HP.out.mono ?_;rintro e w2 ⟨rfl,hm2⟩;have xR:dh w2 g cur.toList 170:=(Sr.out.mod fg.out id).mod hm2 id;have r0:=hm2.cell p0 id;have r1:=hm2.cell p1 id;have hz2:=aG hz1 hm2.size;obtain ⟨y0,hy0⟩:∃ y,w2.cell? ⟨g,n*2,none⟩=some y:=⟨_,xR.cell (n*2) (aA (by simp;omega))⟩;obtain ⟨y1,hy1⟩:∃ y,w2.cell? ⟨g,n*2+1,none⟩=some y:=⟨_,xR.cell (n*2+1) (aA (by simp;omega))⟩;have f0:=xR.frozen (n*2);have f1:=xR.frozen (n*2+1);have hg2:=xR.lt;have ir:Hid (RE w B (.slice (some ⟨g,0,none⟩) l.length cap) l c (.returned (.slice (some ⟨g,0,none⟩) l.length cap)) ((w2.setCell ⟨g,n*2,none⟩ (.int .i64 c.tx)).setCell ⟨g,n*2+1,none⟩ (.int .i64 c.mode))):=by
   refine ⟨_,rfl,?_,?_,.inl rfl⟩
   ·rw [wI.out];exact (PS.out.mod hm2 (fun _ _=>id)).set hn c
   ·refine ((fg.out.trans hm2).mono (fun _ _ e=>e.elim)).trans (((Mod.dq g (n*2) _).trans (Mod.dq g (n*2+1) _)).mono (fun x _ e=>?_));simp only [eF] at e;rw [e];rfl
  clear xR hm2 p0 p1 HP;go_wp2_with fail;go_ret;exact ir.out
 | false=>
  rw [hf] at HP wI;simp only [cA,if_false] at wI;have HI:Hid (∀ w2,Mod dZ w1 w2->Calls Tryz.prog 149 #[v,.int .i64 n,.slice (some ⟨w2.heap.size,0,none⟩) 1 1] (w2.alloc (.cells #[.int .i64 c.tx,.int .i64 c.mode] 170)) (RE w B v l c)):=fun w2 hm2=>by
   have dz:Mod dZ w2 (w2.alloc (.cells #[.int .i64 c.tx,.int .i64 c.mode] 170)):=(Mod.refl _ w2).alloc _;have hb3:dh (w2.alloc (.cells #[.int .i64 c.tx,.int .i64 c.mode] 170)) w2.heap.size (fZ c) 170:=dh.new w2 (fZ c) 170;have hw3:=(fg.out.trans hm2).trans dz;refine (yEx B v l n c w2.heap.size _ (hR.mod hw3 (fun _ _=>id)) hle hb3 (fun e=>by have:=(mM hR e).2.1;have:=(fg.out.trans hm2).size;omega) (by omega) (aM hB hw3.size)).mono ?_;rintro e w4 ⟨u,rfl,hrow,gM,hat⟩;refine ⟨u,rfl,?_,(hw3.mono (fun _ _ e=>e.elim)).trans gM,hat.imp id (fun h b hb=>aM hw3.size (h b hb))⟩;unfold fI;rw [wI.out];have:(l.take n++c :: l.drop n).length=l.length+1:=by simp;omega
   rw [this];exact hrow
  have ZT:=dU hR;obtain ⟨va,CH,rfl⟩:=fJ hR;clear hR Hb di hb1 hf hr lX;go_enter Tryz.func112,Tryz.ntmps112;go_upto_region 1 with fail;rw [<-hw1];clear hw1;go_wp2_with fail;refine HP.out.mono ?_;rintro e w2 ⟨rfl,hm2⟩;have r0:=hm2.cell p0 id;have r1:=hm2.cell p1 id;have hz2:=aG hz1 hm2.size;have HI2:=dU (HI.out w2 hm2);clear p0 p1 HI hm2;go_wp2_with fail;refine HI2.out.mono ?_;rintro e w3 ⟨u,rfl,hW⟩;have HW:=dU hW;obtain ⟨ua,dj,rfl⟩:=fJ hW.1;clear hW;go_wp2_with fail;go_ret;exact ⟨_,rfl,HW.out⟩
end Go.Proofs.YtmaiggbnceejiaaGreatDoor
