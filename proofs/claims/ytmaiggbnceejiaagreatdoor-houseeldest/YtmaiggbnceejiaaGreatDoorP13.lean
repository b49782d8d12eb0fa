import Derived.Test.YtmaiggbnceejiaaGreatDoorP12
import Derived.Lib.SliceRun
set_option linter.unusedVariables false
set_option maxRecDepth 100000
set_option maxHeartbeats 16000000
namespace Go.Proofs.YtmaiggbnceejiaaGreatDoor
open Go.RowKit Go.Lib Go.Maps
def iy{α:Type}(p:α->Bool)(ms:List α):List α:=ms.filter (fun m=>!p m)
theorem Qc{α:Type}(p:α->Bool)(ms:List α)(m:α):iy p (ms++[m])=if p m then iy p ms else iy p ms++[m]:=by
 unfold iy;rw [List.filter_append]
 cases h:p m <;> simp [h]
theorem Te{α:Type}(p:α->Bool):∀ ms:List α,ms.findIdx? p=none->iy p ms=ms
 | [],_=>rfl
 | m :: ms,h=>by
  rw [bq] at h;split at h
  ·cases h
  ·rename_i hs;have hs':p m=false:=by simpa using hs
   have:=Te p ms (by simpa using h);unfold iy at this ⊢;rw [cJ,aJ (by simp [hs']),this]
theorem UE{α:Type}(p:α->Bool):∀ (ms:List α) k,ms.findIdx? p=some k->k<ms.length/\iy p (ms.take (k+1))=ms.take k
 | [],_,h=>by simp at h
 | m :: ms,k,h=>by
  rw [bq] at h;split at h
  ·rename_i hs;simp at h;subst h;refine ⟨by simp,?_⟩;simp [iy,hs]
  ·rename_i hs;have hs':p m=false:=by simpa using hs
   obtain ⟨k',hk',rfl⟩:=cH.1 h;obtain ⟨h1,h2⟩:=UE p ms k' hk';refine ⟨by simp;omega,?_⟩;unfold iy at h2 ⊢;rw [aq,cJ,aJ (by simp [hs']),h2,aq]
def pB(d:Nat):List Value:=[.pointer (some ⟨d,0,none⟩)]
def jo(ds:List Nat):List Value:=ds.flatMap pB
theorem FL:∀ ds,(jo ds).length=ds.length*1
 | []=>rfl
 | d :: ds=>by
  have ih:=FL ds;unfold jo at ih ⊢;rw [bD,aD,ih];simp [pB];omega
theorem yAx(a b:List Nat):jo (a++b)=jo a++jo b:=by simp [jo]
theorem FP(d:Nat)(b:List Nat):jo (d :: b)=pB d++jo b:=by simp [jo]
theorem yLw(ds:List Nat)(hu:∀ d∈ds,∀ u∈pB d,u.oneCell'=true):∀ u∈jo ds,u.oneCell'=true:=by
 intro u h;obtain ⟨d,hd,hd2⟩:=cP.1 h;exact hu d hd u hd2
theorem zWs:∀ (os:List Nat) (i:Nat) (o:Nat),os[i]?=some o->∀ j x,(pB o)[j]?=some x->(jo os)[i*1+j]?=some x
 | [],i,o,h,_,_,_=>by simp at h
 | p :: os,0,o,h,j,x,hx=>by
  simp at h;subst h;have hj:j<(pB p).length:=(aB.1 hx).1;rw [FP,cj,ah,aI hj];exact hx
 | p :: os,i+1,o,h,j,x,hx=>by
  have ih:=zWs os i o (by simpa using h) j x hx;have hl:(pB p).length=1:=rfl;rw [FP,aO (by omega),hl,show (i+1)*1+j - 1=i*1+j by omega];exact ih
theorem Tk{w:World}{B:Nat}{v:Value}{ds:List Nat}(h:w.ownsRow B 91 1 v ds.length (jo ds)):gG w w.heap.size 1 RH v ds:=by
 obtain ⟨h1,h2⟩:=h;rcases h2 with ⟨rfl,hn⟩ | ⟨g,cap,cur,rfl,q1,q2,q3,q4,q5,q6⟩
 ·have:ds=[]:=aT hn;subst this;exact gG.nil _ _ _ _
 ·have hc:w.ownsRow B 91 1 (.slice (some ⟨g,0,none⟩) ds.length cap) ds.length (jo ds):=⟨h1,.inr ⟨g,cap,cur,rfl,q1,q2,q3,q4,q5,q6⟩⟩;have hcl:=hc.cells (g:=g) rfl;have hgl:g<w.heap.size:=(aK.1 q2).1;refine ⟨_,cap,rfl,q3,q4,.inr ⟨g,0,rfl,by omega,fun i o hi=>⟨pB o,rfl,rfl,fun j x hx=>?_⟩⟩⟩;have:=hcl _ _ (zWs ds i o hi j x hx);rw [Go.WideShapes.add_plain,ah] at this;rw [ah];exact this
def VX:Array Value:=#[.pointer none]
def wX(n:Nat):List Value:=(Builtin.zeroCells VX n).toList
theorem Ug(n:Nat):(wX n).length=n*1:=by rw [wX,cG,size_zeroCells];rfl
theorem yDo(n:Nat):∀ v∈wX n,v.oneCell'=true:=by
 intro v hv;simp only [wX,Builtin.zeroCells,dL,ag] at hv;obtain ⟨i,_,rfl⟩:=hv;have h9:∀ j,j<1->(VX[j]!).oneCell'=true:=by
  intro j hj
  match j,hj with
  | 0,_=>rfl
 exact h9 _ (dF _ (by decide))
theorem ySs(w:World):(zeroValue 91).run Tryz.prog w=.ok (.pointer none) w:=by kernel_rfl
theorem yEg(w:World)(ty:TypeId)(b o n c:Nat)(hn:0<n)(hc:∀ j,j<n*1->(w.cell? ⟨b,o+j,none⟩).isSome=true)(hf:∀ j,j<n*1->w.frozen? ⟨b,o+j,none⟩=false) :
  (Builtin.clear_ #[99] ty #[.slice (some ⟨b,o,none⟩) n c]).run Tryz.prog w=.ok (.tuple #[]) (w.setCells b o (wX n)):=by
 have hst:=run_storeCells_cells (P:=Tryz.prog) b o (wX n) 0 w (by simpa [Ug] using hc) (by simpa [Ug] using hf) (yDo n);simp only [bC] at hst;obtain ⟨m,rfl⟩:∃ m,n=m+1:=⟨n - 1,by omega⟩;have hz:=ySs;have e:(Value.cells (.pointer none))=VX:=rfl;simp only [wX] at hst ⊢;simp [Builtin.clear_,run_underlying Tryz.underlying99,hz,e,hst]
theorem zVr{w:World}{ops:Array Oper}{rest:List Oper}{o:Oper}{a:Act}{Q:Exit->Act->World->Prop}(hgd:o.guard=none)(s:Operand)
  (ho:o.op=.call { callee:=.builtin .clear,args:=#[s],argTypes:=#[99] }) (b off n c:Nat) (hs:a.eval s=.slice (some ⟨b,off,none⟩) n c) (hn:0<n)
  (hc:∀ j,j<n*1->(w.cell? ⟨b,off+j,none⟩).isSome=true) (hf:∀ j,j<n*1->w.frozen? ⟨b,off+j,none⟩=false)
  (h:wpList Tryz.prog ops Q rest (a.put o.dst (.tuple #[])) (w.setCells b off (wX n))):wpList Tryz.prog ops Q (o :: rest) a w:=by
 refine wpList_plain hgd fun K hK=>?_;have hr:=yEg w o.type b off n c hn hc hf;unfold Oper.wp execOp;simp only [ho,resolve,invoke,builtin,Sem.run_bind,Sem.run_pure,Result.andThen_ok,cI,bh,cR,hs,hr];exact hK _ _ h
def tY(w wr:World)(b:Nat)(p:Nat->Bool)(ms:List Nat)(R:List Value)(i j:Nat):Prop:=
 ∃ mid:List Value,i=(iy p (ms.take j)).length/\mid.length=(j - i)*1/\i<j/\j<=ms.length /\
  dh wr b (jo (iy p (ms.take j))++mid++(jo (ms.drop j)++R)) 91/\Mod (eF b) w wr
theorem tY.start{w wr:World}{b k0:Nat}{p:Nat->Bool}{ms:List Nat}{R:List Value}(hk:k0<ms.length)(pN:iy p (ms.take (k0+1))=ms.take k0)(hB:dh w b (jo ms++R) 91)(hm:Mod dZ w wr):tY w wr b p ms R k0 (k0+1):=by
 obtain ⟨m,hm0⟩:∃ m,ms[k0]?=some m:=⟨_,aA hk⟩;have iV:ms=ms.take k0++m :: ms.drop (k0+1):=by
  rw [<-uR hm0,ai]
 refine ⟨pB m,by rw [pN,aZ];omega,by simp [pB],by omega,by omega,?_,hm.mono (fun _ _ e=>e.elim)⟩;rw [pN];have:=hB.mod hm id;have e:jo ms=jo (ms.take k0)++(pB m++jo (ms.drop (k0+1))):=by
  conv=>lhs;rw [iV]
  rw [yAx,FP]
 rw [e] at this;simpa [List.append_assoc] using this
theorem tY.look{w wr:World}{b i j:Nat}{p:Nat->Bool}{ms:List Nat}{R:List Value}(h:tY w wr b p ms R i j){m:Nat}(hm:ms[j]?=some m) :
  ∀ n x,(pB m)[n]?=some x->wr.cell? ⟨b,j*1+n,none⟩=some x:=by
 obtain ⟨mid,h1,h3,h4,h5,h6,h8⟩:=h;intro n x hx;have hn:n<1:=(aB.1 hx).1;refine h6.cell _ ?_;rw [uR hm,FP];have l1:=FL (iy p (ms.take j));rw [aO (by rw [aD];omega),aD,l1,h3,<-h1];rw [show j*1+n - (i*1+(j - i)*1)=n by omega,aU,aI hn];exact hx
theorem tY.skip{w wr wr':World}{b i j:Nat}{p:Nat->Bool}{ms:List Nat}{R:List Value}(h:tY w wr b p ms R i j){m:Nat}(hm:ms[j]?=some m)(hs:p m=true)(iK:Mod dZ wr wr') :
  tY w wr' b p ms R i (j+1):=by
 obtain ⟨mid,h1,h3,h4,h5,h6,h8⟩:=h;have hj:j<ms.length:=(aB.1 hm).1;have e:iy p (ms.take (j+1))=iy p (ms.take j):=by rw [qP hm,Qc,aJ hs]
 refine ⟨mid++pB m,by rw [e];exact h1,by rw [aD,h3];simp [pB];omega,by omega,by omega,?_,h8.trans (iK.mono (fun _ _ e=>e.elim))⟩;rw [e];have:=h6.mod iK id;rw [uR hm,FP] at this;simpa [List.append_assoc] using this
theorem tY.keep{w wr wr':World}{b i j:Nat}{p:Nat->Bool}{ms:List Nat}{R:List Value}(h:tY w wr b p ms R i j){m:Nat}(hm:ms[j]?=some m)(hs:p m=false)(iK:Mod dZ wr wr') :
  tY w (wr'.setCells b (i*1) (pB m)) b p ms R (i+1) (j+1):=by
 obtain ⟨mid,h1,h3,h4,h5,h6,h8⟩:=h;have hj:j<ms.length:=(aB.1 hm).1;have e:iy p (ms.take (j+1))=iy p (ms.take j)++[m]:=by rw [qP hm,Qc,aE (by simp [hs])]
 have l1:=FL (iy p (ms.take j));have e1:jo [m]=pB m:=by simp [jo]
 refine ⟨mid.drop 1++pB m,by rw [e,aD,<-h1];rfl,by rw [aD,bJ,h3];simp [pB];omega,by omega,by omega,?_,(h8.trans (iK.mono (fun _ _ e=>e.elim))).trans (Mod.kN _ _ _)⟩;rw [e,yAx,e1];have h9:=h6.mod iK id;rw [uR hm,FP] at h9;have:=dh.kN (g:=b) (t:=91) (pB m) wr' (jo (iy p (ms.take j))) (mid.take 1) (mid.drop 1++(pB m++jo (ms.drop (j+1))++R)) (by
  rw [UH];exact h9) (by rw [aZ,h3];simp [pB];omega)
 rw [l1,<-h1] at this;simpa [List.append_assoc] using this
theorem tY.room{w wr:World}{b i j:Nat}{p:Nat->Bool}{ms:List Nat}{R:List Value}(h:tY w wr b p ms R i j):i<j/\j<=ms.length/\Mod (eF b) w wr /\
  (∀ n,n<(j - i)*1->(wr.cell? ⟨b,i*1+n,none⟩).isSome=true)/\∀ n,wr.frozen? ⟨b,n,none⟩=false:=by
 obtain ⟨mid,h1,h3,h4,h5,h6,h8⟩:=h;have l1:=FL (iy p (ms.take j));refine ⟨h4,h5,h8,fun n hn=>?_,fun n=>h6.frozen n⟩;obtain ⟨x,hx⟩:∃ x,(jo (iy p (ms.take j))++mid++(jo (ms.drop j)++R))[i*1+n]?=some x:=⟨_,aA (by simp only [aD];omega)⟩;rw [show wr.cell? ⟨b,i*1+n,none⟩=some x from h6.cell _ hx];rfl
theorem tY.done{w wr:World}{B b i cap:Nat}{p:Nat->Bool}{ms:List Nat}{R:List Value}(h:tY w wr b p ms R i ms.length)(hBb:B<=b)(hcap:ms.length<=cap)(hcm:cap<=maxLen)(lR:ms.length*1+R.length=cap*1) :
  (wr.setCells b (i*1) (wX (ms.length - i))).ownsRow B 91 1 (.slice (some ⟨b,0,none⟩) i cap) (iy p ms).length (jo (iy p ms))/\Mod (eF b) w (wr.setCells b (i*1) (wX (ms.length - i))):=by
 obtain ⟨mid,h1,h3,h4,h5,h6,h8⟩:=h;rw [bI] at h1 h6;have l1:=FL (iy p ms);have l2:=Ug (ms.length - i);have hM:=h8.trans (Mod.kN (wX (ms.length - i)) (i*1) wr);have e0:jo (ms.drop ms.length)=[]:=by rw [cV];rfl
 rw [e0,ak] at h6;have hB:=dh.kN (g:=b) (t:=91) (wX (ms.length - i)) wr (jo (iy p ms)) mid R h6 (by omega);rw [l1,<-h1] at hB;refine ⟨⟨by omega,.inr ⟨b,cap,(jo (iy p ms)++wX (ms.length - i)++R).toArray,by rw [<-h1],hBb,hB,by omega,hcm,?_,?_⟩⟩,hM⟩
 ·simp only [au,aD];omega
 ·rw [<-l1,aU,dR]
theorem yDc(f B:Nat)(gP:Array Value)(p:Nat->Bool)(v:Value)(ms:List Nat)(w:World)(C:World->Prop)(hR:w.ownsRow B 91 1 v ms.length (jo ms))(hA:mF f gP (fun d=>.pointer (some ⟨d,0,none⟩)) ms p C)(hC:C w)(OT:∀ b,v.ownBlock=some b->∀ w',Mod (eF b) w w'->C w')(hf:ms.length<=1000) :
  Calls Tryz.prog 85 #[v,.func (.func f) #[] gP] w fun e w'=>∃ v',e=.returned v'/\w'.ownsRow B 91 1 v' (iy p ms).length (jo (iy p ms))/\v'.ownBlock=v.ownBlock/\Mod (fun x=>v.ownBlock=some x) w w':=by
 have nV:=dU (zUf f w.heap.size gP p v ms w C (Tk hR) hA hC (by omega))
 cases hfi:ms.findIdx? p with
 | none=>
  rw [hfi] at nV;have HK:=dU (Te p ms hfi);have HR:=dU hR;obtain ⟨a,cap,rfl⟩:=fJ hR;clear hR hA;go_enter Tryz.func85,Tryz.ntmps85;go_wp2_with fail;refine nV.out.mono ?_;rintro e w1 ⟨rfl,di⟩;simp only [iO];go_wp2_with fail;go_ret;exact ⟨_,rfl,by rw [HK.out];exact gD HR.out di (fun _ _ _ _=>id),rfl,di.mono (fun _ _ e=>e.elim)⟩
 | some k0=>
  rw [hfi] at nV;obtain ⟨qT,pN⟩:=UE p ms k0 hfi;rcases hR.2 with ⟨_,h0⟩ | ⟨b,cap,cur,rfl,DA,hg,hcap,hcm,hcs,htk⟩
  ·omega
  unfold maxLen at hcm;obtain ⟨R,xT⟩:∃ R,cur.toList=jo ms++R:=by
   refine ⟨cur.toList.drop (ms.length*1),?_⟩;rw [<-htk,ai]
  have lA:=FL ms;have mx:dh w b (jo ms++R) 91:=by rw [dh,<-xT];exact hg
  have lR:ms.length*1+R.length=cap*1:=by
   have:(jo ms++R).length=cap*1:=by rw [<-xT];simpa using hcs
   rw [aD,lA] at this;exact this
  have nW:=dU mx;have IN:=dU pN;have HA:=dU hA;have Ez:=dU (OT b rfl);have hen:=hA.enter;clear mx xT hg hcs htk hR pN hfi lA hA hC OT;go_enter Tryz.func85,Tryz.ntmps85;go_wp2_with fail;refine nV.out.mono ?_;rintro e w1 ⟨rfl,di⟩;simp only [iO];have hne:((k0:Int) == -1)=false:=by rw [bk];omega
  go_wp2_with fail;go_loopw [5,6] (fun x y wr=>∃ i j:Nat,x=.int .i64 i/\y=.int .i64 j/\tY w wr b p ms R i j) (fun _ y _=>ms.length - (intOf y).toNat)
  case atStart=>exact ⟨k0,k0+1,rfl,by go_num,tY.start qT IN.out nW.out di⟩
  case round=>
   obtain ⟨i,j,rfl,rfl,hI⟩:=hrel;obtain ⟨hij,hjn,qj,hcell,hfro⟩:=hI.room;by_cases hlt:j<ms.length
   ·obtain ⟨m,hm⟩:∃ m,ms[j]?=some m:=⟨_,aA hlt⟩;have hlk:=hI.look hm;have q0:=hlk 0 _ rfl;simp only [bC,cT] at q0;have OS:=Ez.out wr qj;have HC:=dU (HA.out.ask m (aC hm) wr OS);have HI:=dU hI;have kh:=dU hm;have vU:=dU hcell;have kx:=dU hfro;have Nn:True:=trivial;have hbz:b<wr.heap.size:=World.block_lt_of_cell? wr _ q0;clear hI hm hlk hcell hfro OS;go_wp2_with fail;refine HC.out.mono ?_;rintro e w5 ⟨rfl,eu⟩;have jk:Mod dZ wr w5:=eu;clear HC q0
    cases hs:p m with
    | true=>
     have HN:=dU (HI.out.skip kh.out hs jk);go_wp2_with fail;go_roundw
     case rel=>exact ⟨i,j+1,rfl,by go_num,HN.out⟩
     case measure=>simp [intOf];omega
    | false=>
     have HN:=dU (HI.out.keep kh.out hs jk);have hex:∀ c,c<1->∃ y,w5.cell? ⟨b,i*1+c,none⟩=some y:=fun c hc=>by
      obtain ⟨y,hy⟩:=az.1 (vU.out c (by omega));exact ⟨y,jk.cell hy id⟩
     have hfz:∀ c,w5.frozen? ⟨b,c,none⟩=false:=fun c=>(jk.frozen (p:=⟨b,c,none⟩) hbz id).trans (kx.out c);obtain ⟨y0,hy0⟩:=hex 0 (by omega);have f0:=hfz (i*1+0);simp only [bC,cT] at hy0 f0;have uF:b≠wr.heap.size:=by omega
     clear hex hfz;go_wp2_with fail;go_roundw
     case rel=>exact ⟨i+1,j+1,by go_num,by go_num,by simpa [World.setCells,pB,Nat.add_assoc] using HN.out⟩
     case measure=>simp [intOf];omega
   ·obtain rfl:j=ms.length:=by omega
    have oT:=hI.done (B:=B) (cap:=cap) DA hcap (by unfold maxLen;omega) lR;have hb3:¬ cap=i:=by omega
    have hb4:i<=cap:=by omega
    simp only [cT] at oT hcell;have vR:=dU oT;have vU:Hid (∀ n,n<(ms.length - i)*1->(wr.cell? ⟨b,i+n,none⟩).isSome=true):=fun n hn=>hcell n (by omega);have kx:Hid (∀ n,n<(ms.length - i)*1->wr.frozen? ⟨b,i+n,none⟩=false):=fun n _=>hfro _;clear oT;clear hI hcell hfro;go_wp2_with (first
     | (refine zVr rfl _ rfl b (i) (ms.length - i) _ rfl (by omega) vU.out kx.out ?_)
     | fail)
    go_ret;exact ⟨_,rfl,vR.out.1,rfl,vR.out.2.mono (fun x _ e=>by simp only [eF] at e;rw [e];rfl)⟩
theorem zVy(g:Nat)(a:Option Addr)(c:Nat)(ty:TypeId)(w:World):(Builtin.append_ #[99,99] ty #[.slice (some ⟨g,0,none⟩) 0 0,.slice a 0 c]).run Tryz.prog w=.ok (.slice (some ⟨g,0,none⟩) 0 0) w:=by
 cases a <;> kernel_rfl
theorem Tryz.yy:(Tryz.prog.info? 91).map (fun i=>(i.zero,i.size,i.bytes))=some (some (.pointer none),1,8):=by kernel_rfl
theorem yFq(p:Addr)(m c:Nat)(l:List Nat)(w:World)(hm:m=l.length)(hc:∀ (j:Nat) u,(jo l)[j]?=some u->w.cell? (p.add j)=some u)(hl:l.length<=1000)(h1:∀ d∈l,∀ u∈pB d,u.oneCell'=true) :
  Calls Tryz.prog 86 #[.slice (some p) m c] w fun e w'=>∃ g cap,e=.returned (.slice (some ⟨g,0,none⟩) m cap)/\w'.ownsRow w.heap.size 91 1 (.slice (some ⟨g,0,none⟩) m cap) m (jo l)/\Mod dZ w w':=by
 obtain ⟨i0,hi,hz0,hz1,hz2⟩:=info_parts Tryz.yy;have h63:m<=maxLen:=by unfold maxLen;omega
 have h47:m*8<=140737488355328:=by omega
 have AX:Hid ((jo l).length=m*1):=by rw [hm];exact FL l
 have Be:Hid (m=0\/∃ q,some p=some q/\∀ (j:Nat) u,(jo l)[j]?=some u->w.cell? (q.add j)=some u):=.inr ⟨p,rfl,hc⟩;have sJ:=dU (yLw l h1);have hen:=run_eql_slice_nil (P:=Tryz.prog) w 99 91 (some p) m c 0 0 Tryz.underlying99;clear hc hm h1;go_enter Tryz.func86,Tryz.ntmps86;go_wp2_with (first
  | (at_builtin;(refine Uo (w0:=w) rfl _ _ 99 rfl 91 i0 _ 1 8 Tryz.underlying99 hi hz0 hz1 hz2 rfl (by omega) zVy rfl (some p) m c (jo l) rfl AX.out Be.out sJ.out h63 h47 ?_))
  | fail)
 intro g cap w2 hrow hm2;go_wp2_with fail;go_ret;exact ⟨g,cap,rfl,hrow,hm2⟩
def jn(d:fR):List Value:=[.string d.key,.string d.val,.bool d.gone]
def gV(ds:List fR):List Value:=ds.flatMap jn
theorem Au:∀ ds,(gV ds).length=ds.length*3
 | []=>rfl
 | d :: ds=>by
  have ih:=Au ds;unfold gV at ih ⊢;rw [bD,aD,ih];simp [jn];omega
theorem Li(a b:List fR):gV (a++b)=gV a++gV b:=by simp [gV]
theorem Di(d:fR)(b:List fR):gV (d :: b)=jn d++gV b:=by simp [gV]
theorem yLv(ds:List fR)(hu:∀ d∈ds,∀ u∈jn d,u.oneCell'=true):∀ u∈gV ds,u.oneCell'=true:=by
 intro u h;obtain ⟨d,hd,hd2⟩:=cP.1 h;exact hu d hd u hd2
theorem zWr:∀ (os:List fR) (i:Nat) (o:fR),os[i]?=some o->∀ j x,(jn o)[j]?=some x->(gV os)[i*3+j]?=some x
 | [],i,o,h,_,_,_=>by simp at h
 | p :: os,0,o,h,j,x,hx=>by
  simp at h;subst h;have hj:j<(jn p).length:=(aB.1 hx).1;rw [Di,cj,ah,aI hj];exact hx
 | p :: os,i+1,o,h,j,x,hx=>by
  have ih:=zWr os i o (by simpa using h) j x hx;have hl:(jn p).length=3:=rfl;rw [Di,aO (by omega),hl,show (i+1)*3+j - 3=i*3+j by omega];exact ih
theorem yBf{w:World}{B:Nat}{v:Value}{ds:List fR}(h:w.ownsRow B 68 3 v ds.length (gV ds)):gG w w.heap.size 3 Bi v ds:=by
 obtain ⟨h1,h2⟩:=h;rcases h2 with ⟨rfl,hn⟩ | ⟨g,cap,cur,rfl,q1,q2,q3,q4,q5,q6⟩
 ·have:ds=[]:=aT hn;subst this;exact gG.nil _ _ _ _
 ·have hc:w.ownsRow B 68 3 (.slice (some ⟨g,0,none⟩) ds.length cap) ds.length (gV ds):=⟨h1,.inr ⟨g,cap,cur,rfl,q1,q2,q3,q4,q5,q6⟩⟩;have hcl:=hc.cells (g:=g) rfl;have hgl:g<w.heap.size:=(aK.1 q2).1;refine ⟨_,cap,rfl,q3,q4,.inr ⟨g,0,rfl,by omega,fun i o hi=>⟨jn o,rfl,rfl,fun j x hx=>?_⟩⟩⟩;have:=hcl _ _ (zWr ds i o hi j x hx);rw [Go.WideShapes.add_plain,ah] at this;rw [ah];exact this
def VY:Array Value:=#[.string ⟨#[]⟩,.string ⟨#[]⟩,.bool false]
def wY(n:Nat):List Value:=(Builtin.zeroCells VY n).toList
theorem Uh(n:Nat):(wY n).length=n*3:=by rw [wY,cG,size_zeroCells];rfl
theorem yDn(n:Nat):∀ v∈wY n,v.oneCell'=true:=by
 intro v hv;simp only [wY,Builtin.zeroCells,dL,ag] at hv;obtain ⟨i,_,rfl⟩:=hv;have h9:∀ j,j<3->(VY[j]!).oneCell'=true:=by
  intro j hj
  match j,hj with
  | 0,_=>rfl
  | 1,_=>rfl
  | 2,_=>rfl
 exact h9 _ (dF _ (by decide))
theorem ySr(w:World):(zeroValue 68).run Tryz.prog w=.ok (.agg #[.string ⟨#[]⟩,.string ⟨#[]⟩,.bool false]) w:=by kernel_rfl
theorem yEf(w:World)(ty:TypeId)(b o n c:Nat)(hn:0<n)(hc:∀ j,j<n*3->(w.cell? ⟨b,o+j,none⟩).isSome=true)(hf:∀ j,j<n*3->w.frozen? ⟨b,o+j,none⟩=false) :
  (Builtin.clear_ #[63] ty #[.slice (some ⟨b,o,none⟩) n c]).run Tryz.prog w=.ok (.tuple #[]) (w.setCells b o (wY n)):=by
 have hst:=run_storeCells_cells (P:=Tryz.prog) b o (wY n) 0 w (by simpa [Uh] using hc) (by simpa [Uh] using hf) (yDn n);simp only [bC] at hst;obtain ⟨m,rfl⟩:∃ m,n=m+1:=⟨n - 1,by omega⟩;have hz:=ySr;have e:(Value.cells (.agg #[.string ⟨#[]⟩,.string ⟨#[]⟩,.bool false]))=VY:=rfl;simp only [wY] at hst ⊢;simp [Builtin.clear_,run_underlying Tryz.underlying63,hz,e,hst]
theorem zVq{w:World}{ops:Array Oper}{rest:List Oper}{o:Oper}{a:Act}{Q:Exit->Act->World->Prop}(hgd:o.guard=none)(s:Operand)
  (ho:o.op=.call { callee:=.builtin .clear,args:=#[s],argTypes:=#[63] }) (b off n c:Nat) (hs:a.eval s=.slice (some ⟨b,off,none⟩) n c) (hn:0<n)
  (hc:∀ j,j<n*3->(w.cell? ⟨b,off+j,none⟩).isSome=true) (hf:∀ j,j<n*3->w.frozen? ⟨b,off+j,none⟩=false)
  (h:wpList Tryz.prog ops Q rest (a.put o.dst (.tuple #[])) (w.setCells b off (wY n))):wpList Tryz.prog ops Q (o :: rest) a w:=by
 refine wpList_plain hgd fun K hK=>?_;have hr:=yEf w o.type b off n c hn hc hf;unfold Oper.wp execOp;simp only [ho,resolve,invoke,builtin,Sem.run_bind,Sem.run_pure,Result.andThen_ok,cI,bh,cR,hs,hr];exact hK _ _ h
def tZ(w wr:World)(b:Nat)(p:fR->Bool)(ms:List fR)(R:List Value)(i j:Nat):Prop:=
 ∃ mid:List Value,i=(iy p (ms.take j)).length/\mid.length=(j - i)*3/\i<j/\j<=ms.length /\
  dh wr b (gV (iy p (ms.take j))++mid++(gV (ms.drop j)++R)) 68/\Mod (eF b) w wr
theorem tZ.start{w wr:World}{b k0:Nat}{p:fR->Bool}{ms:List fR}{R:List Value}(hk:k0<ms.length)(pN:iy p (ms.take (k0+1))=ms.take k0)(hB:dh w b (gV ms++R) 68)(hm:Mod dZ w wr):tZ w wr b p ms R k0 (k0+1):=by
 obtain ⟨m,hm0⟩:∃ m,ms[k0]?=some m:=⟨_,aA hk⟩;have iV:ms=ms.take k0++m :: ms.drop (k0+1):=by
  rw [<-uR hm0,ai]
 refine ⟨jn m,by rw [pN,aZ];omega,by simp [jn],by omega,by omega,?_,hm.mono (fun _ _ e=>e.elim)⟩;rw [pN];have:=hB.mod hm id;have e:gV ms=gV (ms.take k0)++(jn m++gV (ms.drop (k0+1))):=by
  conv=>lhs;rw [iV]
  rw [Li,Di]
 rw [e] at this;simpa [List.append_assoc] using this
theorem tZ.look{w wr:World}{b i j:Nat}{p:fR->Bool}{ms:List fR}{R:List Value}(h:tZ w wr b p ms R i j){m:fR}(hm:ms[j]?=some m) :
  ∀ n x,(jn m)[n]?=some x->wr.cell? ⟨b,j*3+n,none⟩=some x:=by
 obtain ⟨mid,h1,h3,h4,h5,h6,h8⟩:=h;intro n x hx;have hn:n<3:=(aB.1 hx).1;refine h6.cell _ ?_;rw [uR hm,Di];have l1:=Au (iy p (ms.take j));rw [aO (by rw [aD];omega),aD,l1,h3,<-h1];rw [show j*3+n - (i*3+(j - i)*3)=n by omega,aU,aI hn];exact hx
theorem tZ.skip{w wr wr':World}{b i j:Nat}{p:fR->Bool}{ms:List fR}{R:List Value}(h:tZ w wr b p ms R i j){m:fR}(hm:ms[j]?=some m)(hs:p m=true)(iK:Mod dZ wr wr') :
  tZ w wr' b p ms R i (j+1):=by
 obtain ⟨mid,h1,h3,h4,h5,h6,h8⟩:=h;have hj:j<ms.length:=(aB.1 hm).1;have e:iy p (ms.take (j+1))=iy p (ms.take j):=by rw [qP hm,Qc,aJ hs]
 refine ⟨mid++jn m,by rw [e];exact h1,by rw [aD,h3];simp [jn];omega,by omega,by omega,?_,h8.trans (iK.mono (fun _ _ e=>e.elim))⟩;rw [e];have:=h6.mod iK id;rw [uR hm,Di] at this;simpa [List.append_assoc] using this
theorem tZ.keep{w wr wr':World}{b i j:Nat}{p:fR->Bool}{ms:List fR}{R:List Value}(h:tZ w wr b p ms R i j){m:fR}(hm:ms[j]?=some m)(hs:p m=false)(iK:Mod dZ wr wr') :
  tZ w (wr'.setCells b (i*3) (jn m)) b p ms R (i+1) (j+1):=by
 obtain ⟨mid,h1,h3,h4,h5,h6,h8⟩:=h;have hj:j<ms.length:=(aB.1 hm).1;have e:iy p (ms.take (j+1))=iy p (ms.take j)++[m]:=by rw [qP hm,Qc,aE (by simp [hs])]
 have l1:=Au (iy p (ms.take j));have e1:gV [m]=jn m:=by simp [gV]
 refine ⟨mid.drop 3++jn m,by rw [e,aD,<-h1];rfl,by rw [aD,bJ,h3];simp [jn];omega,by omega,by omega,?_,(h8.trans (iK.mono (fun _ _ e=>e.elim))).trans (Mod.kN _ _ _)⟩;rw [e,Li,e1];have h9:=h6.mod iK id;rw [uR hm,Di] at h9;have:=dh.kN (g:=b) (t:=68) (jn m) wr' (gV (iy p (ms.take j))) (mid.take 3) (mid.drop 3++(jn m++gV (ms.drop (j+1))++R)) (by
  rw [UH];exact h9) (by rw [aZ,h3];simp [jn];omega)
 rw [l1,<-h1] at this;simpa [List.append_assoc] using this
theorem tZ.room{w wr:World}{b i j:Nat}{p:fR->Bool}{ms:List fR}{R:List Value}(h:tZ w wr b p ms R i j):i<j/\j<=ms.length/\Mod (eF b) w wr /\
  (∀ n,n<(j - i)*3->(wr.cell? ⟨b,i*3+n,none⟩).isSome=true)/\∀ n,wr.frozen? ⟨b,n,none⟩=false:=by
 obtain ⟨mid,h1,h3,h4,h5,h6,h8⟩:=h;have l1:=Au (iy p (ms.take j));refine ⟨h4,h5,h8,fun n hn=>?_,fun n=>h6.frozen n⟩;obtain ⟨x,hx⟩:∃ x,(gV (iy p (ms.take j))++mid++(gV (ms.drop j)++R))[i*3+n]?=some x:=⟨_,aA (by simp only [aD];omega)⟩;rw [show wr.cell? ⟨b,i*3+n,none⟩=some x from h6.cell _ hx];rfl
theorem tZ.done{w wr:World}{B b i cap:Nat}{p:fR->Bool}{ms:List fR}{R:List Value}(h:tZ w wr b p ms R i ms.length)(hBb:B<=b)(hcap:ms.length<=cap)(hcm:cap<=maxLen)(lR:ms.length*3+R.length=cap*3) :
  (wr.setCells b (i*3) (wY (ms.length - i))).ownsRow B 68 3 (.slice (some ⟨b,0,none⟩) i cap) (iy p ms).length (gV (iy p ms))/\Mod (eF b) w (wr.setCells b (i*3) (wY (ms.length - i))):=by
 obtain ⟨mid,h1,h3,h4,h5,h6,h8⟩:=h;rw [bI] at h1 h6;have l1:=Au (iy p ms);have l2:=Uh (ms.length - i);have hM:=h8.trans (Mod.kN (wY (ms.length - i)) (i*3) wr);have e0:gV (ms.drop ms.length)=[]:=by rw [cV];rfl
 rw [e0,ak] at h6;have hB:=dh.kN (g:=b) (t:=68) (wY (ms.length - i)) wr (gV (iy p ms)) mid R h6 (by omega);rw [l1,<-h1] at hB;refine ⟨⟨by omega,.inr ⟨b,cap,(gV (iy p ms)++wY (ms.length - i)++R).toArray,by rw [<-h1],hBb,hB,by omega,hcm,?_,?_⟩⟩,hM⟩
 ·simp only [au,aD];omega
 ·rw [<-l1,aU,dR]
theorem yDb(f B:Nat)(gP:Array Value)(p:fR->Bool)(v:Value)(ms:List fR)(w:World)(C:World->Prop)(hR:w.ownsRow B 68 3 v ms.length (gV ms))(hA:mF f gP (fun d=>.agg #[.string d.key,.string d.val,.bool d.gone]) ms p C)(hC:C w)(OT:∀ b,v.ownBlock=some b->∀ w',Mod (eF b) w w'->C w')(hf:ms.length<=1000) :
  Calls Tryz.prog 162 #[v,.func (.func f) #[] gP] w fun e w'=>∃ v',e=.returned v'/\w'.ownsRow B 68 3 v' (iy p ms).length (gV (iy p ms))/\v'.ownBlock=v.ownBlock/\Mod (fun x=>v.ownBlock=some x) w w':=by
 have nV:=dU (zUe f w.heap.size gP p v ms w C (yBf hR) hA hC (by omega))
 cases hfi:ms.findIdx? p with
 | none=>
  rw [hfi] at nV;have HK:=dU (Te p ms hfi);have HR:=dU hR;obtain ⟨a,cap,rfl⟩:=fJ hR;clear hR hA;go_enter Tryz.func162,Tryz.ntmps162;go_wp2_with fail;refine nV.out.mono ?_;rintro e w1 ⟨rfl,di⟩;simp only [iO];go_wp2_with fail;go_ret;exact ⟨_,rfl,by rw [HK.out];exact gD HR.out di (fun _ _ _ _=>id),rfl,di.mono (fun _ _ e=>e.elim)⟩
 | some k0=>
  rw [hfi] at nV;obtain ⟨qT,pN⟩:=UE p ms k0 hfi;rcases hR.2 with ⟨_,h0⟩ | ⟨b,cap,cur,rfl,DA,hg,hcap,hcm,hcs,htk⟩
  ·omega
  unfold maxLen at hcm;obtain ⟨R,xT⟩:∃ R,cur.toList=gV ms++R:=by
   refine ⟨cur.toList.drop (ms.length*3),?_⟩;rw [<-htk,ai]
  have lA:=Au ms;have mx:dh w b (gV ms++R) 68:=by rw [dh,<-xT];exact hg
  have lR:ms.length*3+R.length=cap*3:=by
   have:(gV ms++R).length=cap*3:=by rw [<-xT];simpa using hcs
   rw [aD,lA] at this;exact this
  have nW:=dU mx;have IN:=dU pN;have HA:=dU hA;have Ez:=dU (OT b rfl);have hen:=hA.enter;clear mx xT hg hcs htk hR pN hfi lA hA hC OT;go_enter Tryz.func162,Tryz.ntmps162;go_wp2_with fail;refine nV.out.mono ?_;rintro e w1 ⟨rfl,di⟩;simp only [iO];have hne:((k0:Int) == -1)=false:=by rw [bk];omega
  go_wp2_with fail;go_loopw [5,6] (fun x y wr=>∃ i j:Nat,x=.int .i64 i/\y=.int .i64 j/\tZ w wr b p ms R i j) (fun _ y _=>ms.length - (intOf y).toNat)
  case atStart=>exact ⟨k0,k0+1,rfl,by go_num,tZ.start qT IN.out nW.out di⟩
  case round=>
   obtain ⟨i,j,rfl,rfl,hI⟩:=hrel;obtain ⟨hij,hjn,qj,hcell,hfro⟩:=hI.room;by_cases hlt:j<ms.length
   ·obtain ⟨m,hm⟩:∃ m,ms[j]?=some m:=⟨_,aA hlt⟩;have hlk:=hI.look hm;have q0:=hlk 0 _ rfl;have q1:=hlk 1 _ rfl;have q2:=hlk 2 _ rfl;simp only [bC] at q0;have OS:=Ez.out wr qj;have HC:=dU (HA.out.ask m (aC hm) (wr.alloc (.cells #[.string m.key,.string m.val,.bool m.gone] 68)) (HA.out.keep _ _ OS ((Mod.refl dZ wr).alloc _)));have HI:=dU hI;have kh:=dU hm;have vU:=dU hcell;have kx:=dU hfro;have fi:=dh.new wr (jn m) 68;have hbz:b<wr.heap.size:=World.block_lt_of_cell? wr _ q0;clear hI hm hlk hcell hfro OS;go_wp2_with fail;refine HC.out.mono ?_;rintro e w5 ⟨rfl,eu⟩;have AD:dh w5 wr.heap.size (jn m) 68:=fi.mod eu id;have jk:=((Mod.refl dZ wr).alloc (.cells #[.string m.key,.string m.val,.bool m.gone] 68)).trans eu;clear HC q0 q1 q2 fi;have p0:=AD.cell 0 rfl;have p1:=AD.cell 1 rfl;have p2:=AD.cell 2 rfl
    cases hs:p m with
    | true=>
     have HN:=dU (HI.out.skip kh.out hs jk);go_wp2_with fail;go_roundw
     case rel=>exact ⟨i,j+1,rfl,by go_num,HN.out⟩
     case measure=>simp [intOf];omega
    | false=>
     have HN:=dU (HI.out.keep kh.out hs jk);have hex:∀ c,c<3->∃ y,w5.cell? ⟨b,i*3+c,none⟩=some y:=fun c hc=>by
      obtain ⟨y,hy⟩:=az.1 (vU.out c (by omega));exact ⟨y,jk.cell hy id⟩
     have hfz:∀ c,w5.frozen? ⟨b,c,none⟩=false:=fun c=>(jk.frozen (p:=⟨b,c,none⟩) hbz id).trans (kx.out c);obtain ⟨y0,hy0⟩:=hex 0 (by omega);obtain ⟨y1,hy1⟩:=hex 1 (by omega);obtain ⟨y2,hy2⟩:=hex 2 (by omega);have f0:=hfz (i*3+0);have f1:=hfz (i*3+1);have f2:=hfz (i*3+2);simp only [bC] at hy0 f0;have uF:b≠wr.heap.size:=by omega
     clear hex hfz;go_wp2_with fail;go_roundw
     case rel=>exact ⟨i+1,j+1,by go_num,by go_num,by simpa [World.setCells,jn,Nat.add_assoc] using HN.out⟩
     case measure=>simp [intOf];omega
   ·obtain rfl:j=ms.length:=by omega
    have oT:=hI.done (B:=B) (cap:=cap) DA hcap (by unfold maxLen;omega) lR;have hb3:¬ cap=i:=by omega
    have hb4:i<=cap:=by omega
    have vR:=dU oT;have vU:Hid (∀ n,n<(ms.length - i)*3->(wr.cell? ⟨b,i*3+n,none⟩).isSome=true):=fun n hn=>hcell n (by omega);have kx:Hid (∀ n,n<(ms.length - i)*3->wr.frozen? ⟨b,i*3+n,none⟩=false):=fun n _=>hfro _;clear oT;clear hI hcell hfro;go_wp2_with (first
     | (refine zVq rfl _ rfl b (i*3) (ms.length - i) _ rfl (by omega) vU.out kx.out ?_)
     | fail)
    go_ret;exact ⟨_,rfl,vR.out.1,rfl,vR.out.2.mono (fun x _ e=>by simp only [eF] at e;rw [e];rfl)⟩
theorem zVx(g:Nat)(a:Option Addr)(c:Nat)(ty:TypeId)(w:World):(Builtin.append_ #[63,63] ty #[.slice (some ⟨g,0,none⟩) 0 0,.slice a 0 c]).run Tryz.prog w=.ok (.slice (some ⟨g,0,none⟩) 0 0) w:=by
 cases a <;> kernel_rfl
theorem Tryz.yx:(Tryz.prog.info? 68).map (fun i=>(i.zero,i.size,i.bytes))=some (some (.agg #[.string ⟨#[]⟩,.string ⟨#[]⟩,.bool false]),3,40):=by kernel_rfl
theorem yFp(p:Addr)(m c:Nat)(l:List fR)(w:World)(hm:m=l.length)(hc:∀ (j:Nat) u,(gV l)[j]?=some u->w.cell? (p.add j)=some u)(hl:l.length<=1000)(h1:∀ d∈l,∀ u∈jn d,u.oneCell'=true) :
  Calls Tryz.prog 163 #[.slice (some p) m c] w fun e w'=>∃ g cap,e=.returned (.slice (some ⟨g,0,none⟩) m cap)/\w'.ownsRow w.heap.size 68 3 (.slice (some ⟨g,0,none⟩) m cap) m (gV l)/\Mod dZ w w':=by
 obtain ⟨i0,hi,hz0,hz1,hz2⟩:=info_parts Tryz.yx;have h63:m<=maxLen:=by unfold maxLen;omega
 have h47:m*40<=140737488355328:=by omega
 have AX:Hid ((gV l).length=m*3):=by rw [hm];exact Au l
 have Be:Hid (m=0\/∃ q,some p=some q/\∀ (j:Nat) u,(gV l)[j]?=some u->w.cell? (q.add j)=some u):=.inr ⟨p,rfl,hc⟩;have sJ:=dU (yLv l h1);have hen:=run_eql_slice_nil (P:=Tryz.prog) w 63 68 (some p) m c 0 0 Tryz.underlying63;clear hc hm h1;go_enter Tryz.func163,Tryz.ntmps163;go_wp2_with (first
  | (at_builtin;(refine Uo (w0:=w) rfl _ _ 63 rfl 68 i0 _ 3 40 Tryz.underlying63 hi hz0 hz1 hz2 rfl (by omega) zVx rfl (some p) m c (gV l) rfl AX.out Be.out sJ.out h63 h47 ?_))
  | fail)
 intro g cap w2 hrow hm2;go_wp2_with fail;go_ret;exact ⟨g,cap,rfl,hrow,hm2⟩
theorem yFo(w:World):Calls Tryz.prog 163 #[.slice none 0 0] w fun e w'=>e=.returned (.slice none 0 0)/\w'=w:=by
 have hen:=run_eql_slice_nil (P:=Tryz.prog) w 63 68 none 0 0 0 0 Tryz.underlying63;go_enter Tryz.func163,Tryz.ntmps163;go_wp2_with fail;go_ret;exact ⟨rfl,rfl⟩
theorem vf{w:World}{B:Nat}{ty:TypeId}{v:Value}{bs:List Nat}(h:w.ownsRow B ty 1 v bs.length (bs.map iz)){k b:Nat}(hk:bs[k]?=some b) :
  ∃ g cap,v=.slice (some ⟨g,0,none⟩) bs.length cap/\w.cell? ⟨g,k,none⟩=some (.pointer (some ⟨b,0,none⟩)):=by
 have hlt:k<bs.length:=(aB.1 hk).1;rcases h.2 with ⟨e,h0⟩ | ⟨g,cap,cur,e,q1,q2,q3,q4,q5,q6⟩
 ·omega
 ·subst e;have:=h.cells (g:=g) rfl k (iz b) (by simp [hk]);rw [Go.WideShapes.add_plain,ah] at this;exact ⟨g,cap,rfl,this⟩
theorem kA{w:World}{g:Nat}{y:dX}{lost:Int}{t:TypeId}(h:dh w g (JC y lost) t) :
  w.cell? ⟨g,0,none⟩=some y.lv/\w.cell? ⟨g,1,none⟩=some (.map (some y.dr))/\w.cell? ⟨g,2,none⟩=some y.wv/\w.cell? ⟨g,3,none⟩=some (.int .i64 lost)/\w.cell? ⟨g,4,none⟩=some (.map y.mr)/\w.cell? ⟨g,5,none⟩=some (.map y.q.m)/\w.cell? ⟨g,6,none⟩=some y.tv:=
 ⟨h.cell 0 rfl,h.cell 1 rfl,h.cell 2 rfl,h.cell 3 rfl,h.cell 4 rfl,h.cell 5 rfl,h.cell 6 rfl⟩
theorem du.nI{w:World}{n c g:Nat}{y:dX}{s:dW}(h:du w n c g y s){k:Nat}(hk:k<s.lines.length):∃ b,y.gH[k]?=some b/\yQ w n y b (s.line k):=by
 have hl:=h.iN;refine ⟨y.gH[k]'(by omega),aA (by omega),h.line k _ _ (aA (by omega)) ?_⟩;unfold dW.line;rw [aH,aA hk];rfl
theorem du.xA{w:World}{n c g:Nat}{y:dX}{s:dW}(h:du w n c g y s){id:Nat}(h1:1<=id)(h2:id<=s.dV.length):∃ b,y.ja[id - 1]?=some b/\tJ w n y b (s.tx id):=by
 have hl:=h.kM;refine ⟨y.ja[id - 1]'(by omega),aA (by omega),h.tx (id - 1) _ _ (aA (by omega)) ?_⟩;unfold dW.tx;rw [aH,aA (by omega)];rfl
theorem yQ.vp{w:World}{n b:Nat}{y:dX}{l:ik}(h:yQ w n y b l){j:Nat}(hj:j<l.nodes.length):∃ c,(y.fU b)[j]?=some c/\∃ s,l.nodes[j]?=some s/\wN w n y c s:=by
 have hl:=h.len;exact ⟨(y.fU b)[j]'(by omega),aA (by omega),l.nodes[j],aA hj,h.node j _ _ (aA (by omega)) (aA hj)⟩
theorem Up(n c g:Nat)(y:dX)(s:dW)(w:World)(h:du w n c g y s)(hl:s.lines.length<=1000)(mw:1<=s.lines.length) :
  Calls Tryz.prog 109 #[.pointer (some ⟨g,0,none⟩)] w fun e w'=>e=.returned (.int .i64 (dk s))/\w'=w:=by
 obtain ⟨c0,-⟩:=kA h.blk;obtain ⟨a,cap,hv⟩:=fJ h.fm;rw [hv,h.iN] at c0;have hd:((s.lines.length:Int) - 1)=(dk s:Nat):=by unfold dk;omega
 have HD:=dU hd;clear h hv hd;go_enter Tryz.func109,Tryz.ntmps109;go_wp2_with fail;go_ret;exact ⟨by rw [<-HD.out];rfl,rfl⟩
theorem xw(n c g:Nat)(y:dX)(s:dW)(id b:Nat)(w:World)(h:du w n c g y s)(h1:1<=id)(h2:id<=1000)(hb:y.ja[id - 1]?=some b) :
  Calls Tryz.prog 34 #[.pointer (some ⟨g,0,none⟩),.int .i64 id] w fun e w'=>e=.returned (.pointer (some ⟨b,0,none⟩))/\w'=w:=by
 obtain ⟨-,-,-,-,-,-,c6⟩:=kA h.blk;obtain ⟨tg,cap,hv,ct⟩:=vf h.gR hb;rw [hv] at c6;obtain ⟨i,rfl⟩:∃ i,id=i+1:=⟨id - 1,by omega⟩;have hlt:i<y.ja.length:=by have:=(aB.1 hb).1;omega
 rw [bZ] at ct;have kO:(i:Int)<(y.ja.length:Int):=by omega
 have hi0:(0:Int)<=(i:Int):=by omega
 clear h hv hb;go_enter Tryz.func34,Tryz.ntmps34;go_wp2_with fail;go_ret;exact ⟨rfl,rfl⟩
theorem JD(n c g:Nat)(y:dX)(s:dW)(id:Int)(w:World)(h:du w n c g y s)(hl:s.dV.length<=60) :
  Calls Tryz.prog 11 #[.pointer (some ⟨g,0,none⟩),.int .i64 id] w fun e w'=>e=.returned (.int .i64 (ij s id))/\w'=w:=by
 obtain ⟨-,-,-,-,-,-,c6⟩:=kA h.blk;obtain ⟨a,cap,hv⟩:=fJ h.gR;rw [hv,h.kM] at c6;by_cases h1:id<1
 ·have hd:decide (id<1)=true:=aQ h1;have HS:Hid (ij s id=0):=by unfold Hid ij sa;rw [aP (show ¬ 1<=id by omega)];rfl
  clear h hv;go_enter Tryz.func11,Tryz.ntmps11;go_wp2_with fail;go_ret;exact ⟨by rw [HS.out];rfl,rfl⟩
 ·have hd:decide (id<1)=false:=aP h1;by_cases h2:id > (s.dV.length:Int)
  ·have hd2:decide (id > (s.dV.length:Int))=true:=aQ h2;have HS:Hid (ij s id=0):=by unfold Hid ij sa;rw [aP (show ¬ id<=(s.dV.length:Int) by omega),Bool.and_false];rfl
   clear h hv;go_enter Tryz.func11,Tryz.ntmps11;go_wp2_with fail;go_ret;exact ⟨by rw [HS.out];rfl,rfl⟩
  ·have hd2:decide (id > (s.dV.length:Int))=false:=aP h2;obtain ⟨i,rfl⟩:∃ i:Nat,id=i:=⟨id.toNat,by omega⟩;obtain ⟨b,hb,ht⟩:=h.xA (id:=i) (by omega) (by omega);have HT:=dU (xw n c g y s i b w h (by omega) (by omega) hb);have t0:=ht.blk.cell 0 rfl;have HS:Hid (ij s i=(s.tx i).state):=by
    unfold Hid ij sa;rw [aQ (show (1:Int)<=(i:Int) by omega),aQ (show (i:Int)<=(s.dV.length:Int) by omega)];rfl
   clear h hv ht hb;go_enter Tryz.func11,Tryz.ntmps11;go_wp2_with fail;refine HT.out.mono ?_;rintro e w1 ⟨rfl,rfl⟩;go_wp2_with fail;go_ret;exact ⟨by rw [HS.out];rfl,rfl⟩
theorem oL:ie 0=.nilIface:=by unfold ie;rw [aJ rfl]
theorem mJ{e:Int}(h:e≠0):ie e=.iface 90 (.int .i64 e):=by unfold ie;rw [aE h]
theorem Tc(n c g:Nat)(y:dX)(s:dW)(id:Int)(w:World)(h:du w n c g y s)(hl:s.dV.length<=60) :
  Calls Tryz.prog 35 #[.pointer (some ⟨g,0,none⟩),.int .i64 id] w fun e w'=>e=.returned (ie (nX s id))/\w'=w:=by
 have HS:=dU (JD n c g y s id w h hl);have hmk:=Ip;clear h;go_enter Tryz.func35,Tryz.ntmps35;go_wp2_with fail;refine HS.out.mono ?_;rintro e w1 ⟨rfl,rfl⟩;by_cases h0:ij s id=0
 ·rw [h0];have HO:Hid (ie (nX s id)=.iface 90 (.int .i64 7)):=by unfold Hid nX;rw [aJ h0];exact mJ (by omega)
  go_wp2_with fail;go_ret;exact ⟨by rw [HO.out];rfl,rfl⟩
 ·by_cases h1:ij s id=1
  ·rw [h1];have HO:Hid (ie (nX s id)=.nilIface):=by unfold Hid nX;rw [aE h0,aJ h1];exact oL
   go_wp2_with fail;go_ret;exact ⟨by rw [HO.out];rfl,rfl⟩
  ·have HO:Hid (ie (nX s id)=.iface 90 (.int .i64 6)):=by unfold Hid nX;rw [aE h0,aE h1];exact mJ (by omega)
   have e0:(ij s id == 0)=false:=by simpa using h0
   have e1:(ij s id == 1)=false:=by simpa using h1
   go_wp2_with fail;go_ret;exact ⟨by rw [HO.out];rfl,rfl⟩
theorem yBt(n c g:Nat)(y:dX)(s:dW)(b:Nat)(ns:eH)(w:World)(h:du w n c g y s)(hn:wN w n y b ns) :
  Calls Tryz.prog 84 #[.pointer (some ⟨g,0,none⟩),.pointer (some ⟨b,0,none⟩)] w fun e w'=>e=.returned (.bool (fs s ns))/\Mod dZ w w':=by
 obtain ⟨-,c1,-⟩:=kA h.blk;have z1:=h.blk.lt;have hi:=hn.ints.1;have hd:=h.dead;have l1:(Instr.lookup 75 (.map (some y.dr)) (.int .i64 ns.id) true).run Tryz.prog w.drew=.ok (.tuple #[.agg #[],.bool (decide (ns.id∈s.dead))]) w.drew:=FQ (hd.mod ((Mod.refl dZ w).drew) (fun _ _=>id)) hi;have l2:(Instr.lookup 75 (.map (some y.dr)) (.int .i64 ns.id) true).run Tryz.prog (w.alloc (.cells #[] 158)).drew=.ok (.tuple #[.agg #[],.bool (decide (ns.id∈s.dead))]) (w.alloc (.cells #[] 158)).drew:=FQ (hd.mod (((Mod.refl dZ w).alloc _).drew) (fun _ _=>id)) hi;have HI:Hid (∀ wq,Mod dZ w wq->Calls Tryz.prog 98 #[.pointer (some ⟨b,0,none⟩)] wq fun e w'=>e=.returned (.int .i64 ns.id)/\w'=wq):=fun wq hq=>VM _ _ _ _ _ _ (hn.quiet hq);have hL:fs s ns=!decide (ns.id∈s.dead):=rfl;have HL:=dU hL;clear h hn hd hL;go_enter Tryz.func84,Tryz.ntmps84;go_upto_region 1 with fail;go_cut [6] (fun t wc=>t=.bool (decide (ns.id∈s.dead))/\Mod dZ w wc)
 case first=>
  go_region_with (go_at_call 98;(first
   | (refine (HI.out _ ((Mod.refl dZ w).drew)).mono ?_)
   | (refine (HI.out _ (((Mod.refl dZ w).alloc _).drew)).mono ?_));rintro e w5 ⟨rfl,rfl⟩)
  all_goals
   go_wp2_with fail;go_meet
   case rel=>exact ⟨rfl,((Mod.refl dZ w).alloc _).drew⟩
 case rest=>
  obtain ⟨rfl,hm⟩:=hcut
  cases hdd:decide (ns.id∈s.dead)
  all_goals
   go_wp2_with fail;go_ret;exact ⟨by rw [HL.out,hdd];rfl,hm⟩
end Go.Proofs.YtmaiggbnceejiaaGreatDoor
