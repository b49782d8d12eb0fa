import Derived.Test.YtmaiggbnceejiaaGreatDoorS12
import Derived.Lib.SliceRun
set_option linter.unusedVariables false
set_option maxRecDepth 100000
set_option maxHeartbeats 16000000
namespace Go.Proofs.YtmaiggbnceejiaaGreatDoor
open Go.RowKit Go.Lib Go.Maps
def jB{α:Type}(p:α->Bool)(ms:List α):List α:=ms.filter (fun m=>!p m)
theorem RP{α:Type}(p:α->Bool)(ms:List α)(m:α):jB p (ms++[m])=if p m then jB p ms else jB p ms++[m]:=by
 unfold jB;rw [dJ]
 cases h:p m <;> simp [h]
theorem Tq{α:Type}(p:α->Bool):∀ ms:List α,ms.findIdx? p=none->jB p ms=ms
 | [],_=>rfl
 | m :: ms,h=>by
  rw [bu] at h;split at h
  ·cases h
  ·rename_i hs;have hs':p m=false:=by simpa using hs
   have:=Tq p ms (by simpa using h);unfold jB at this ⊢;rw [cF,aP (by simp [hs']),this]
theorem UN{α:Type}(p:α->Bool):∀ (ms:List α) k,ms.findIdx? p=some k->k<ms.length/\jB p (ms.take (k+1))=ms.take k
 | [],_,h=>by simp at h
 | m :: ms,k,h=>by
  rw [bu] at h;split at h
  ·rename_i hs;simp at h;subst h;refine ⟨by simp,?_⟩;simp [jB,hs]
  ·rename_i hs;have hs':p m=false:=by simpa using hs
   obtain ⟨k',hk',rfl⟩:=cL.1 h;obtain ⟨h1,h2⟩:=UN p ms k' hk';refine ⟨by simp;omega,?_⟩;unfold jB at h2 ⊢;rw [aw,cF,aP (by simp [hs']),h2,aw]
def pJ(d:Nat):List Value:=[.pointer (some ⟨d,0,none⟩)]
def jw(ds:List Nat):List Value:=ds.flatMap pJ
theorem GO:∀ ds,(jw ds).length=ds.length*1
 | []=>rfl
 | d :: ds=>by
  have ih:=GO ds;unfold jw at ih ⊢;rw [bH,aD,ih];simp [pJ];omega
theorem yBk(a b:List Nat):jw (a++b)=jw a++jw b:=by simp [jw]
theorem GR(d:Nat)(b:List Nat):jw (d :: b)=pJ d++jw b:=by simp [jw]
theorem yNc(ds:List Nat)(hu:∀ d∈ds,∀ u∈pJ d,u.oneCell'=true):∀ u∈jw ds,u.oneCell'=true:=by
 intro u h;obtain ⟨d,hd,hd2⟩:=cS.1 h;exact hu d hd u hd2
theorem zWw:∀ (os:List Nat) (i:Nat) (o:Nat),os[i]?=some o->∀ j x,(pJ o)[j]?=some x->(jw os)[i*1+j]?=some x
 | [],i,o,h,_,_,_=>by simp at h
 | p :: os,0,o,h,j,x,hx=>by
  simp at h;subst h;have hj:j<(pJ p).length:=(aB.1 hx).1;rw [GR,cg,aX,aE hj];exact hx
 | p :: os,i+1,o,h,j,x,hx=>by
  have ih:=zWw os i o (by simpa using h) j x hx;have hl:(pJ p).length=1:=rfl;rw [GR,aM (by omega),hl,show (i+1)*1+j - 1=i*1+j by omega];exact ih
theorem Tx{w:World}{B:Nat}{v:Value}{ds:List Nat}(h:w.ownsRow B 91 1 v ds.length (jw ds)):fV w w.heap.size 1 Rq v ds:=by
 obtain ⟨h1,h2⟩:=h;rcases h2 with ⟨rfl,hn⟩ | ⟨g,cap,cur,rfl,q1,q2,q3,q4,q5,q6⟩
 ·have:ds=[]:=aR hn;subst this;exact fV.nil _ _ _ _
 ·have hc:w.ownsRow B 91 1 (.slice (some ⟨g,0,none⟩) ds.length cap) ds.length (jw ds):=⟨h1,.inr ⟨g,cap,cur,rfl,q1,q2,q3,q4,q5,q6⟩⟩;have hcl:=hc.cells (g:=g) rfl;have hgl:g<w.heap.size:=(aG.1 q2).1;refine ⟨_,cap,rfl,q3,q4,.inr ⟨g,0,rfl,by omega,fun i o hi=>⟨pJ o,rfl,rfl,fun j x hx=>?_⟩⟩⟩;have:=hcl _ _ (zWw ds i o hi j x hx);rw [Go.WideShapes.add_plain,aX] at this;rw [aX];exact this
def Vj:Array Value:=#[.pointer none]
def xS(n:Nat):List Value:=(Builtin.zeroCells Vj n).toList
theorem Un(n:Nat):(xS n).length=n*1:=by rw [xS,cK,size_zeroCells];rfl
theorem yEf(n:Nat):∀ v∈xS n,v.oneCell'=true:=by
 intro v hv;simp only [xS,Builtin.zeroCells,dM,af] at hv;obtain ⟨i,_,rfl⟩:=hv;have h9:∀ j,j<1->(Vj[j]!).oneCell'=true:=by
  intro j hj
  match j,hj with
  | 0,_=>rfl
 exact h9 _ (dH _ (by decide))
theorem yUf(w:World):(zeroValue 91).run Tryz.prog w=.ok (.pointer none) w:=by kernel_rfl
theorem yEz(w:World)(ty:TypeId)(b o n c:Nat)(hn:0<n)(hc:∀ j,j<n*1->(w.cell? ⟨b,o+j,none⟩).isSome=true)(hf:∀ j,j<n*1->w.frozen? ⟨b,o+j,none⟩=false) :
  (Builtin.clear_ #[99] ty #[.slice (some ⟨b,o,none⟩) n c]).run Tryz.prog w=.ok (.tuple #[]) (w.setCells b o (xS n)):=by
 have hst:=run_storeCells_cells (P:=Tryz.prog) b o (xS n) 0 w (by simpa [Un] using hc) (by simpa [Un] using hf) (yEf n);simp only [bG] at hst;obtain ⟨m,rfl⟩:∃ m,n=m+1:=⟨n - 1,by omega⟩;have hz:=yUf;have e:(Value.cells (.pointer none))=Vj:=rfl;simp only [xS] at hst ⊢;simp [Builtin.clear_,run_underlying Tryz.underlying99,hz,e,hst]
theorem zVr{w:World}{ops:Array Oper}{rest:List Oper}{o:Oper}{a:Act}{Q:Exit->Act->World->Prop}(hgd:o.guard=none)(s:Operand)
  (ho:o.op=.call { callee:=.builtin .clear,args:=#[s],argTypes:=#[99] }) (b off n c:Nat) (hs:a.eval s=.slice (some ⟨b,off,none⟩) n c) (hn:0<n)
  (hc:∀ j,j<n*1->(w.cell? ⟨b,off+j,none⟩).isSome=true) (hf:∀ j,j<n*1->w.frozen? ⟨b,off+j,none⟩=false)
  (h:wpList Tryz.prog ops Q rest (a.put o.dst (.tuple #[])) (w.setCells b off (xS n))):wpList Tryz.prog ops Q (o :: rest) a w:=by
 refine wpList_plain hgd fun K hK=>?_;have hr:=yEz w o.type b off n c hn hc hf;unfold Oper.wp execOp;simp only [ho,resolve,invoke,builtin,Sem.run_bind,Sem.run_pure,Result.andThen_ok,bz,bW,cM,hs,hr];exact hK _ _ h
def uA(w wr:World)(b:Nat)(p:Nat->Bool)(ms:List Nat)(R:List Value)(i j:Nat):Prop:=
 ∃ mid:List Value,i=(jB p (ms.take j)).length/\mid.length=(j - i)*1/\i<j/\j<=ms.length /\
  dg wr b (jw (jB p (ms.take j))++mid++(jw (ms.drop j)++R)) 91/\Mod (eA b) w wr
theorem uA.start{w wr:World}{b k0:Nat}{p:Nat->Bool}{ms:List Nat}{R:List Value}(hk:k0<ms.length)(pT:jB p (ms.take (k0+1))=ms.take k0)(hB:dg w b (jw ms++R) 91)(hm:Mod dZ w wr):uA w wr b p ms R k0 (k0+1):=by
 obtain ⟨m,hm0⟩:∃ m,ms[k0]?=some m:=⟨_,aA hk⟩;have ib:ms=ms.take k0++m :: ms.drop (k0+1):=by
  rw [<-uh hm0,aq]
 refine ⟨pJ m,by rw [pT,aZ];omega,by simp [pJ],by omega,by omega,?_,hm.mono (fun _ _ e=>e.elim)⟩;rw [pT];have:=hB.mod hm id;have e:jw ms=jw (ms.take k0)++(pJ m++jw (ms.drop (k0+1))):=by
  conv=>lhs;rw [ib]
  rw [yBk,GR]
 rw [e] at this;simpa [List.append_assoc] using this
theorem uA.look{w wr:World}{b i j:Nat}{p:Nat->Bool}{ms:List Nat}{R:List Value}(h:uA w wr b p ms R i j){m:Nat}(hm:ms[j]?=some m) :
  ∀ n x,(pJ m)[n]?=some x->wr.cell? ⟨b,j*1+n,none⟩=some x:=by
 obtain ⟨mid,h1,h3,h4,h5,h6,h8⟩:=h;intro n x hx;have hn:n<1:=(aB.1 hx).1;refine h6.cell _ ?_;rw [uh hm,GR];have l1:=GO (jB p (ms.take j));rw [aM (by rw [aD];omega),aD,l1,h3,<-h1];rw [show j*1+n - (i*1+(j - i)*1)=n by omega,aU,aE hn];exact hx
theorem uA.skip{w wr wr':World}{b i j:Nat}{p:Nat->Bool}{ms:List Nat}{R:List Value}(h:uA w wr b p ms R i j){m:Nat}(hm:ms[j]?=some m)(hs:p m=true)(ij:Mod dZ wr wr') :
  uA w wr' b p ms R i (j+1):=by
 obtain ⟨mid,h1,h3,h4,h5,h6,h8⟩:=h;have hj:j<ms.length:=(aB.1 hm).1;have e:jB p (ms.take (j+1))=jB p (ms.take j):=by rw [qg hm,RP,aP hs]
 refine ⟨mid++pJ m,by rw [e];exact h1,by rw [aD,h3];simp [pJ];omega,by omega,by omega,?_,h8.trans (ij.mono (fun _ _ e=>e.elim))⟩;rw [e];have:=h6.mod ij id;rw [uh hm,GR] at this;simpa [List.append_assoc] using this
theorem uA.keep{w wr wr':World}{b i j:Nat}{p:Nat->Bool}{ms:List Nat}{R:List Value}(h:uA w wr b p ms R i j){m:Nat}(hm:ms[j]?=some m)(hs:p m=false)(ij:Mod dZ wr wr') :
  uA w (wr'.setCells b (i*1) (pJ m)) b p ms R (i+1) (j+1):=by
 obtain ⟨mid,h1,h3,h4,h5,h6,h8⟩:=h;have hj:j<ms.length:=(aB.1 hm).1;have e:jB p (ms.take (j+1))=jB p (ms.take j)++[m]:=by rw [qg hm,RP,aK (by simp [hs])]
 have l1:=GO (jB p (ms.take j));have e1:jw [m]=pJ m:=by simp [jw]
 refine ⟨mid.drop 1++pJ m,by rw [e,aD,<-h1];rfl,by rw [aD,bO,h3];simp [pJ];omega,by omega,by omega,?_,(h8.trans (ij.mono (fun _ _ e=>e.elim))).trans (Mod.kO _ _ _)⟩;rw [e,yBk,e1];have h9:=h6.mod ij id;rw [uh hm,GR] at h9;have:=dg.kO (g:=b) (t:=91) (pJ m) wr' (jw (jB p (ms.take j))) (mid.take 1) (mid.drop 1++(pJ m++jw (ms.drop (j+1))++R)) (by
  rw [UR];exact h9) (by rw [aZ,h3];simp [pJ];omega)
 rw [l1,<-h1] at this;simpa [List.append_assoc] using this
theorem uA.room{w wr:World}{b i j:Nat}{p:Nat->Bool}{ms:List Nat}{R:List Value}(h:uA w wr b p ms R i j):i<j/\j<=ms.length/\Mod (eA b) w wr /\
  (∀ n,n<(j - i)*1->(wr.cell? ⟨b,i*1+n,none⟩).isSome=true)/\∀ n,wr.frozen? ⟨b,n,none⟩=false:=by
 obtain ⟨mid,h1,h3,h4,h5,h6,h8⟩:=h;have l1:=GO (jB p (ms.take j));refine ⟨h4,h5,h8,fun n hn=>?_,fun n=>h6.frozen n⟩;obtain ⟨x,hx⟩:∃ x,(jw (jB p (ms.take j))++mid++(jw (ms.drop j)++R))[i*1+n]?=some x:=⟨_,aA (by simp only [aD];omega)⟩;rw [show wr.cell? ⟨b,i*1+n,none⟩=some x from h6.cell _ hx];rfl
theorem uA.done{w wr:World}{B b i cap:Nat}{p:Nat->Bool}{ms:List Nat}{R:List Value}(h:uA w wr b p ms R i ms.length)(hBb:B<=b)(hcap:ms.length<=cap)(hcm:cap<=maxLen)(lR:ms.length*1+R.length=cap*1) :
  (wr.setCells b (i*1) (xS (ms.length - i))).ownsRow B 91 1 (.slice (some ⟨b,0,none⟩) i cap) (jB p ms).length (jw (jB p ms))/\Mod (eA b) w (wr.setCells b (i*1) (xS (ms.length - i))):=by
 obtain ⟨mid,h1,h3,h4,h5,h6,h8⟩:=h;rw [bJ] at h1 h6;have l1:=GO (jB p ms);have l2:=Un (ms.length - i);have hM:=h8.trans (Mod.kO (xS (ms.length - i)) (i*1) wr);have e0:jw (ms.drop ms.length)=[]:=by rw [cj];rfl
 rw [e0,aY] at h6;have hB:=dg.kO (g:=b) (t:=91) (xS (ms.length - i)) wr (jw (jB p ms)) mid R h6 (by omega);rw [l1,<-h1] at hB;refine ⟨⟨by omega,.inr ⟨b,cap,(jw (jB p ms)++xS (ms.length - i)++R).toArray,by rw [<-h1],hBb,hB,by omega,hcm,?_,?_⟩⟩,hM⟩
 ·simp only [bC,aD];omega
 ·rw [<-l1,aU,dU]
theorem yDl(f B:Nat)(gT:Array Value)(p:Nat->Bool)(v:Value)(ms:List Nat)(w:World)(C:World->Prop)(hR:w.ownsRow B 91 1 v ms.length (jw ms))(hA:mO f gT (fun d=>.pointer (some ⟨d,0,none⟩)) ms p C)(hC:C w)(PM:∀ b,v.ownBlock=some b->∀ w',Mod (eA b) w w'->C w')(hf:ms.length<=1000) :
  Calls Tryz.prog 85 #[v,.func (.func f) #[] gT] w fun e w'=>∃ v',e=.returned v'/\w'.ownsRow B 91 1 v' (jB p ms).length (jw (jB p ms))/\v'.ownBlock=v.ownBlock/\Mod (fun x=>v.ownBlock=some x) w w':=by
 have nW:=dV (zUi f w.heap.size gT p v ms w C (Tx hR) hA hC (by omega))
 cases hfi:ms.findIdx? p with
 | none=>
  rw [hfi] at nW;have HK:=dV (Tq p ms hfi);have HR:=dV hR;obtain ⟨a,cap,rfl⟩:=eu hR;clear hR hA;go_enter Tryz.func85,Tryz.ntmps85;go_wp2_with fail;refine nW.out.mono ?_;rintro e w1 ⟨rfl,dh⟩;simp only [iR];go_wp2_with fail;go_ret;exact ⟨_,rfl,by rw [HK.out];exact fm HR.out dh (fun _ _ _ _=>id),rfl,dh.mono (fun _ _ e=>e.elim)⟩
 | some k0=>
  rw [hfi] at nW;obtain ⟨qs,pT⟩:=UN p ms k0 hfi;rcases hR.2 with ⟨_,h0⟩ | ⟨b,cap,cur,rfl,Dj,hg,hcap,hcm,hcs,htk⟩
  ·omega
  unfold maxLen at hcm;obtain ⟨R,yE⟩:∃ R,cur.toList=jw ms++R:=by
   refine ⟨cur.toList.drop (ms.length*1),?_⟩;rw [<-htk,aq]
  have lA:=GO ms;have nA:dg w b (jw ms++R) 91:=by rw [dg,<-yE];exact hg
  have lR:ms.length*1+R.length=cap*1:=by
   have:(jw ms++R).length=cap*1:=by rw [<-yE];simpa using hcs
   rw [aD,lA] at this;exact this
  have nY:=dV nA;have JV:=dV pT;have HA:=dV hA;have Fz:=dV (PM b rfl);have hen:=hA.enter;clear nA yE hg hcs htk hR pT hfi lA hA hC PM;go_enter Tryz.func85,Tryz.ntmps85;go_wp2_with fail;refine nW.out.mono ?_;rintro e w1 ⟨rfl,dh⟩;simp only [iR];have hne:((k0:Int) == -1)=false:=by rw [bc];omega
  go_wp2_with fail;go_loopw [5,6] (fun x y wr=>∃ i j:Nat,x=.int .i64 i/\y=.int .i64 j/\uA w wr b p ms R i j) (fun _ y _=>ms.length - (intOf y).toNat)
  case atStart=>exact ⟨k0,k0+1,rfl,by go_num,uA.start qs JV.out nY.out dh⟩
  case round=>
   obtain ⟨i,j,rfl,rfl,hI⟩:=hrel;obtain ⟨hij,hjn,qz,hcell,hfro⟩:=hI.room;by_cases hlt:j<ms.length
   ·obtain ⟨m,hm⟩:∃ m,ms[j]?=some m:=⟨_,aA hlt⟩;have hlk:=hI.look hm;have q0:=hlk 0 _ rfl;simp only [bG,cZ] at q0;have PL:=Fz.out wr qz;have HC:=dV (HA.out.ask m (aC hm) wr PL);have HI:=dV hI;have km:=dV hm;have vr:=dV hcell;have kI:=dV hfro;have Ob:True:=trivial;have hbz:b<wr.heap.size:=World.block_lt_of_cell? wr _ q0;clear hI hm hlk hcell hfro PL;go_wp2_with fail;refine HC.out.mono ?_;rintro e w5 ⟨rfl,eP⟩;have jt:Mod dZ wr w5:=eP;clear HC q0
    cases hs:p m with
    | true=>
     have HN:=dV (HI.out.skip km.out hs jt);go_wp2_with fail;go_roundw
     case rel=>exact ⟨i,j+1,rfl,by go_num,HN.out⟩
     case measure=>simp [intOf];omega
    | false=>
     have HN:=dV (HI.out.keep km.out hs jt);have hex:∀ c,c<1->∃ y,w5.cell? ⟨b,i*1+c,none⟩=some y:=fun c hc=>by
      obtain ⟨y,hy⟩:=bD.1 (vr.out c (by omega));exact ⟨y,jt.cell hy id⟩
     have hfz:∀ c,w5.frozen? ⟨b,c,none⟩=false:=fun c=>(jt.frozen (p:=⟨b,c,none⟩) hbz id).trans (kI.out c);obtain ⟨y0,hy0⟩:=hex 0 (by omega);have f0:=hfz (i*1+0);simp only [bG,cZ] at hy0 f0;have qx:b≠wr.heap.size:=by omega
     clear hex hfz;go_wp2_with fail;go_roundw
     case rel=>exact ⟨i+1,j+1,by go_num,by go_num,by simpa [World.setCells,pJ,Nat.add_assoc] using HN.out⟩
     case measure=>simp [intOf];omega
   ·obtain rfl:j=ms.length:=by omega
    have oV:=hI.done (B:=B) (cap:=cap) Dj hcap (by unfold maxLen;omega) lR;have hb3:¬ cap=i:=by omega
    have hb4:i<=cap:=by omega
    simp only [cZ] at oV hcell;have tu:=dV oV;have vr:Hid (∀ n,n<(ms.length - i)*1->(wr.cell? ⟨b,i+n,none⟩).isSome=true):=fun n hn=>hcell n (by omega);have kI:Hid (∀ n,n<(ms.length - i)*1->wr.frozen? ⟨b,i+n,none⟩=false):=fun n _=>hfro _;clear oV;clear hI hcell hfro;go_wp2_with (first
     | (refine zVr rfl _ rfl b (i) (ms.length - i) _ rfl (by omega) vr.out kI.out ?_)
     | fail)
    go_ret;exact ⟨_,rfl,tu.out.1,rfl,tu.out.2.mono (fun x _ e=>by simp only [eA] at e;rw [e];rfl)⟩
theorem zVz(g:Nat)(a:Option Addr)(c:Nat)(ty:TypeId)(w:World):(Builtin.append_ #[99,99] ty #[.slice (some ⟨g,0,none⟩) 0 0,.slice a 0 c]).run Tryz.prog w=.ok (.slice (some ⟨g,0,none⟩) 0 0) w:=by
 cases a <;> kernel_rfl
theorem Tryz.AB:(Tryz.prog.info? 91).map (fun i=>(i.zero,i.size,i.bytes))=some (some (.pointer none),1,8):=by kernel_rfl
theorem yGj(p:Addr)(m c:Nat)(l:List Nat)(w:World)(hm:m=l.length)(hc:∀ (j:Nat) u,(jw l)[j]?=some u->w.cell? (p.add j)=some u)(hl:l.length<=1000)(h1:∀ d∈l,∀ u∈pJ d,u.oneCell'=true) :
  Calls Tryz.prog 86 #[.slice (some p) m c] w fun e w'=>∃ g cap,e=.returned (.slice (some ⟨g,0,none⟩) m cap)/\w'.ownsRow w.heap.size 91 1 (.slice (some ⟨g,0,none⟩) m cap) m (jw l)/\Mod dZ w w':=by
 obtain ⟨i0,hi,hz0,hz1,hz2⟩:=info_parts Tryz.AB;have h63:m<=maxLen:=by unfold maxLen;omega
 have h47:m*8<=140737488355328:=by omega
 have uV:Hid ((jw l).length=m*1):=by rw [hm];exact GO l
 have zK:Hid (m=0\/∃ q,some p=some q/\∀ (j:Nat) u,(jw l)[j]?=some u->w.cell? (q.add j)=some u):=.inr ⟨p,rfl,hc⟩;have qM:=dV (yNc l h1);have hen:=run_eql_slice_nil (P:=Tryz.prog) w 99 91 (some p) m c 0 0 Tryz.underlying99;clear hc hm h1;go_enter Tryz.func86,Tryz.ntmps86;go_wp2_with (first
  | (at_builtin;(refine Uv (w0:=w) rfl _ _ 99 rfl 91 i0 _ 1 8 Tryz.underlying99 hi hz0 hz1 hz2 rfl (by omega) zVz rfl (some p) m c (jw l) rfl uV.out zK.out qM.out h63 h47 ?_))
  | fail)
 intro g cap w2 hrow hm2;go_wp2_with fail;go_ret;exact ⟨g,cap,rfl,hrow,hm2⟩
def jv(d:fQ):List Value:=[.string d.key,.string d.val,.bool d.gone]
def gb(ds:List fQ):List Value:=ds.flatMap jv
theorem Bo:∀ ds,(gb ds).length=ds.length*3
 | []=>rfl
 | d :: ds=>by
  have ih:=Bo ds;unfold gb at ih ⊢;rw [bH,aD,ih];simp [jv];omega
theorem MI(a b:List fQ):gb (a++b)=gb a++gb b:=by simp [gb]
theorem EW(d:fQ)(b:List fQ):gb (d :: b)=jv d++gb b:=by simp [gb]
theorem yNb(ds:List fQ)(hu:∀ d∈ds,∀ u∈jv d,u.oneCell'=true):∀ u∈gb ds,u.oneCell'=true:=by
 intro u h;obtain ⟨d,hd,hd2⟩:=cS.1 h;exact hu d hd u hd2
theorem zWv:∀ (os:List fQ) (i:Nat) (o:fQ),os[i]?=some o->∀ j x,(jv o)[j]?=some x->(gb os)[i*3+j]?=some x
 | [],i,o,h,_,_,_=>by simp at h
 | p :: os,0,o,h,j,x,hx=>by
  simp at h;subst h;have hj:j<(jv p).length:=(aB.1 hx).1;rw [EW,cg,aX,aE hj];exact hx
 | p :: os,i+1,o,h,j,x,hx=>by
  have ih:=zWv os i o (by simpa using h) j x hx;have hl:(jv p).length=3:=rfl;rw [EW,aM (by omega),hl,show (i+1)*3+j - 3=i*3+j by omega];exact ih
theorem yBr{w:World}{B:Nat}{v:Value}{ds:List fQ}(h:w.ownsRow B 68 3 v ds.length (gb ds)):fV w w.heap.size 3 Ca v ds:=by
 obtain ⟨h1,h2⟩:=h;rcases h2 with ⟨rfl,hn⟩ | ⟨g,cap,cur,rfl,q1,q2,q3,q4,q5,q6⟩
 ·have:ds=[]:=aR hn;subst this;exact fV.nil _ _ _ _
 ·have hc:w.ownsRow B 68 3 (.slice (some ⟨g,0,none⟩) ds.length cap) ds.length (gb ds):=⟨h1,.inr ⟨g,cap,cur,rfl,q1,q2,q3,q4,q5,q6⟩⟩;have hcl:=hc.cells (g:=g) rfl;have hgl:g<w.heap.size:=(aG.1 q2).1;refine ⟨_,cap,rfl,q3,q4,.inr ⟨g,0,rfl,by omega,fun i o hi=>⟨jv o,rfl,rfl,fun j x hx=>?_⟩⟩⟩;have:=hcl _ _ (zWv ds i o hi j x hx);rw [Go.WideShapes.add_plain,aX] at this;rw [aX];exact this
def Vk:Array Value:=#[.string ⟨#[]⟩,.string ⟨#[]⟩,.bool false]
def xT(n:Nat):List Value:=(Builtin.zeroCells Vk n).toList
theorem Uo(n:Nat):(xT n).length=n*3:=by rw [xT,cK,size_zeroCells];rfl
theorem yEe(n:Nat):∀ v∈xT n,v.oneCell'=true:=by
 intro v hv;simp only [xT,Builtin.zeroCells,dM,af] at hv;obtain ⟨i,_,rfl⟩:=hv;have h9:∀ j,j<3->(Vk[j]!).oneCell'=true:=by
  intro j hj
  match j,hj with
  | 0,_=>rfl
  | 1,_=>rfl
  | 2,_=>rfl
 exact h9 _ (dH _ (by decide))
theorem yUe(w:World):(zeroValue 68).run Tryz.prog w=.ok (.agg #[.string ⟨#[]⟩,.string ⟨#[]⟩,.bool false]) w:=by kernel_rfl
theorem yEy(w:World)(ty:TypeId)(b o n c:Nat)(hn:0<n)(hc:∀ j,j<n*3->(w.cell? ⟨b,o+j,none⟩).isSome=true)(hf:∀ j,j<n*3->w.frozen? ⟨b,o+j,none⟩=false) :
  (Builtin.clear_ #[63] ty #[.slice (some ⟨b,o,none⟩) n c]).run Tryz.prog w=.ok (.tuple #[]) (w.setCells b o (xT n)):=by
 have hst:=run_storeCells_cells (P:=Tryz.prog) b o (xT n) 0 w (by simpa [Uo] using hc) (by simpa [Uo] using hf) (yEe n);simp only [bG] at hst;obtain ⟨m,rfl⟩:∃ m,n=m+1:=⟨n - 1,by omega⟩;have hz:=yUe;have e:(Value.cells (.agg #[.string ⟨#[]⟩,.string ⟨#[]⟩,.bool false]))=Vk:=rfl;simp only [xT] at hst ⊢;simp [Builtin.clear_,run_underlying Tryz.underlying63,hz,e,hst]
theorem zVq{w:World}{ops:Array Oper}{rest:List Oper}{o:Oper}{a:Act}{Q:Exit->Act->World->Prop}(hgd:o.guard=none)(s:Operand)
  (ho:o.op=.call { callee:=.builtin .clear,args:=#[s],argTypes:=#[63] }) (b off n c:Nat) (hs:a.eval s=.slice (some ⟨b,off,none⟩) n c) (hn:0<n)
  (hc:∀ j,j<n*3->(w.cell? ⟨b,off+j,none⟩).isSome=true) (hf:∀ j,j<n*3->w.frozen? ⟨b,off+j,none⟩=false)
  (h:wpList Tryz.prog ops Q rest (a.put o.dst (.tuple #[])) (w.setCells b off (xT n))):wpList Tryz.prog ops Q (o :: rest) a w:=by
 refine wpList_plain hgd fun K hK=>?_;have hr:=yEy w o.type b off n c hn hc hf;unfold Oper.wp execOp;simp only [ho,resolve,invoke,builtin,Sem.run_bind,Sem.run_pure,Result.andThen_ok,bz,bW,cM,hs,hr];exact hK _ _ h
def uB(w wr:World)(b:Nat)(p:fQ->Bool)(ms:List fQ)(R:List Value)(i j:Nat):Prop:=
 ∃ mid:List Value,i=(jB p (ms.take j)).length/\mid.length=(j - i)*3/\i<j/\j<=ms.length /\
  dg wr b (gb (jB p (ms.take j))++mid++(gb (ms.drop j)++R)) 68/\Mod (eA b) w wr
theorem uB.start{w wr:World}{b k0:Nat}{p:fQ->Bool}{ms:List fQ}{R:List Value}(hk:k0<ms.length)(pT:jB p (ms.take (k0+1))=ms.take k0)(hB:dg w b (gb ms++R) 68)(hm:Mod dZ w wr):uB w wr b p ms R k0 (k0+1):=by
 obtain ⟨m,hm0⟩:∃ m,ms[k0]?=some m:=⟨_,aA hk⟩;have ib:ms=ms.take k0++m :: ms.drop (k0+1):=by
  rw [<-uh hm0,aq]
 refine ⟨jv m,by rw [pT,aZ];omega,by simp [jv],by omega,by omega,?_,hm.mono (fun _ _ e=>e.elim)⟩;rw [pT];have:=hB.mod hm id;have e:gb ms=gb (ms.take k0)++(jv m++gb (ms.drop (k0+1))):=by
  conv=>lhs;rw [ib]
  rw [MI,EW]
 rw [e] at this;simpa [List.append_assoc] using this
theorem uB.look{w wr:World}{b i j:Nat}{p:fQ->Bool}{ms:List fQ}{R:List Value}(h:uB w wr b p ms R i j){m:fQ}(hm:ms[j]?=some m) :
  ∀ n x,(jv m)[n]?=some x->wr.cell? ⟨b,j*3+n,none⟩=some x:=by
 obtain ⟨mid,h1,h3,h4,h5,h6,h8⟩:=h;intro n x hx;have hn:n<3:=(aB.1 hx).1;refine h6.cell _ ?_;rw [uh hm,EW];have l1:=Bo (jB p (ms.take j));rw [aM (by rw [aD];omega),aD,l1,h3,<-h1];rw [show j*3+n - (i*3+(j - i)*3)=n by omega,aU,aE hn];exact hx
theorem uB.skip{w wr wr':World}{b i j:Nat}{p:fQ->Bool}{ms:List fQ}{R:List Value}(h:uB w wr b p ms R i j){m:fQ}(hm:ms[j]?=some m)(hs:p m=true)(ij:Mod dZ wr wr') :
  uB w wr' b p ms R i (j+1):=by
 obtain ⟨mid,h1,h3,h4,h5,h6,h8⟩:=h;have hj:j<ms.length:=(aB.1 hm).1;have e:jB p (ms.take (j+1))=jB p (ms.take j):=by rw [qg hm,RP,aP hs]
 refine ⟨mid++jv m,by rw [e];exact h1,by rw [aD,h3];simp [jv];omega,by omega,by omega,?_,h8.trans (ij.mono (fun _ _ e=>e.elim))⟩;rw [e];have:=h6.mod ij id;rw [uh hm,EW] at this;simpa [List.append_assoc] using this
theorem uB.keep{w wr wr':World}{b i j:Nat}{p:fQ->Bool}{ms:List fQ}{R:List Value}(h:uB w wr b p ms R i j){m:fQ}(hm:ms[j]?=some m)(hs:p m=false)(ij:Mod dZ wr wr') :
  uB w (wr'.setCells b (i*3) (jv m)) b p ms R (i+1) (j+1):=by
 obtain ⟨mid,h1,h3,h4,h5,h6,h8⟩:=h;have hj:j<ms.length:=(aB.1 hm).1;have e:jB p (ms.take (j+1))=jB p (ms.take j)++[m]:=by rw [qg hm,RP,aK (by simp [hs])]
 have l1:=Bo (jB p (ms.take j));have e1:gb [m]=jv m:=by simp [gb]
 refine ⟨mid.drop 3++jv m,by rw [e,aD,<-h1];rfl,by rw [aD,bO,h3];simp [jv];omega,by omega,by omega,?_,(h8.trans (ij.mono (fun _ _ e=>e.elim))).trans (Mod.kO _ _ _)⟩;rw [e,MI,e1];have h9:=h6.mod ij id;rw [uh hm,EW] at h9;have:=dg.kO (g:=b) (t:=68) (jv m) wr' (gb (jB p (ms.take j))) (mid.take 3) (mid.drop 3++(jv m++gb (ms.drop (j+1))++R)) (by
  rw [UR];exact h9) (by rw [aZ,h3];simp [jv];omega)
 rw [l1,<-h1] at this;simpa [List.append_assoc] using this
theorem uB.room{w wr:World}{b i j:Nat}{p:fQ->Bool}{ms:List fQ}{R:List Value}(h:uB w wr b p ms R i j):i<j/\j<=ms.length/\Mod (eA b) w wr /\
  (∀ n,n<(j - i)*3->(wr.cell? ⟨b,i*3+n,none⟩).isSome=true)/\∀ n,wr.frozen? ⟨b,n,none⟩=false:=by
 obtain ⟨mid,h1,h3,h4,h5,h6,h8⟩:=h;have l1:=Bo (jB p (ms.take j));refine ⟨h4,h5,h8,fun n hn=>?_,fun n=>h6.frozen n⟩;obtain ⟨x,hx⟩:∃ x,(gb (jB p (ms.take j))++mid++(gb (ms.drop j)++R))[i*3+n]?=some x:=⟨_,aA (by simp only [aD];omega)⟩;rw [show wr.cell? ⟨b,i*3+n,none⟩=some x from h6.cell _ hx];rfl
theorem uB.done{w wr:World}{B b i cap:Nat}{p:fQ->Bool}{ms:List fQ}{R:List Value}(h:uB w wr b p ms R i ms.length)(hBb:B<=b)(hcap:ms.length<=cap)(hcm:cap<=maxLen)(lR:ms.length*3+R.length=cap*3) :
  (wr.setCells b (i*3) (xT (ms.length - i))).ownsRow B 68 3 (.slice (some ⟨b,0,none⟩) i cap) (jB p ms).length (gb (jB p ms))/\Mod (eA b) w (wr.setCells b (i*3) (xT (ms.length - i))):=by
 obtain ⟨mid,h1,h3,h4,h5,h6,h8⟩:=h;rw [bJ] at h1 h6;have l1:=Bo (jB p ms);have l2:=Uo (ms.length - i);have hM:=h8.trans (Mod.kO (xT (ms.length - i)) (i*3) wr);have e0:gb (ms.drop ms.length)=[]:=by rw [cj];rfl
 rw [e0,aY] at h6;have hB:=dg.kO (g:=b) (t:=68) (xT (ms.length - i)) wr (gb (jB p ms)) mid R h6 (by omega);rw [l1,<-h1] at hB;refine ⟨⟨by omega,.inr ⟨b,cap,(gb (jB p ms)++xT (ms.length - i)++R).toArray,by rw [<-h1],hBb,hB,by omega,hcm,?_,?_⟩⟩,hM⟩
 ·simp only [bC,aD];omega
 ·rw [<-l1,aU,dU]
theorem yDk(f B:Nat)(gT:Array Value)(p:fQ->Bool)(v:Value)(ms:List fQ)(w:World)(C:World->Prop)(hR:w.ownsRow B 68 3 v ms.length (gb ms))(hA:mO f gT (fun d=>.agg #[.string d.key,.string d.val,.bool d.gone]) ms p C)(hC:C w)(PM:∀ b,v.ownBlock=some b->∀ w',Mod (eA b) w w'->C w')(hf:ms.length<=1000) :
  Calls Tryz.prog 162 #[v,.func (.func f) #[] gT] w fun e w'=>∃ v',e=.returned v'/\w'.ownsRow B 68 3 v' (jB p ms).length (gb (jB p ms))/\v'.ownBlock=v.ownBlock/\Mod (fun x=>v.ownBlock=some x) w w':=by
 have nW:=dV (zUh f w.heap.size gT p v ms w C (yBr hR) hA hC (by omega))
 cases hfi:ms.findIdx? p with
 | none=>
  rw [hfi] at nW;have HK:=dV (Tq p ms hfi);have HR:=dV hR;obtain ⟨a,cap,rfl⟩:=eu hR;clear hR hA;go_enter Tryz.func162,Tryz.ntmps162;go_wp2_with fail;refine nW.out.mono ?_;rintro e w1 ⟨rfl,dh⟩;simp only [iR];go_wp2_with fail;go_ret;exact ⟨_,rfl,by rw [HK.out];exact fm HR.out dh (fun _ _ _ _=>id),rfl,dh.mono (fun _ _ e=>e.elim)⟩
 | some k0=>
  rw [hfi] at nW;obtain ⟨qs,pT⟩:=UN p ms k0 hfi;rcases hR.2 with ⟨_,h0⟩ | ⟨b,cap,cur,rfl,Dj,hg,hcap,hcm,hcs,htk⟩
  ·omega
  unfold maxLen at hcm;obtain ⟨R,yE⟩:∃ R,cur.toList=gb ms++R:=by
   refine ⟨cur.toList.drop (ms.length*3),?_⟩;rw [<-htk,aq]
  have lA:=Bo ms;have nA:dg w b (gb ms++R) 68:=by rw [dg,<-yE];exact hg
  have lR:ms.length*3+R.length=cap*3:=by
   have:(gb ms++R).length=cap*3:=by rw [<-yE];simpa using hcs
   rw [aD,lA] at this;exact this
  have nY:=dV nA;have JV:=dV pT;have HA:=dV hA;have Fz:=dV (PM b rfl);have hen:=hA.enter;clear nA yE hg hcs htk hR pT hfi lA hA hC PM;go_enter Tryz.func162,Tryz.ntmps162;go_wp2_with fail;refine nW.out.mono ?_;rintro e w1 ⟨rfl,dh⟩;simp only [iR];have hne:((k0:Int) == -1)=false:=by rw [bc];omega
  go_wp2_with fail;go_loopw [5,6] (fun x y wr=>∃ i j:Nat,x=.int .i64 i/\y=.int .i64 j/\uB w wr b p ms R i j) (fun _ y _=>ms.length - (intOf y).toNat)
  case atStart=>exact ⟨k0,k0+1,rfl,by go_num,uB.start qs JV.out nY.out dh⟩
  case round=>
   obtain ⟨i,j,rfl,rfl,hI⟩:=hrel;obtain ⟨hij,hjn,qz,hcell,hfro⟩:=hI.room;by_cases hlt:j<ms.length
   ·obtain ⟨m,hm⟩:∃ m,ms[j]?=some m:=⟨_,aA hlt⟩;have hlk:=hI.look hm;have q0:=hlk 0 _ rfl;have q1:=hlk 1 _ rfl;have q2:=hlk 2 _ rfl;simp only [bG] at q0;have PL:=Fz.out wr qz;have HC:=dV (HA.out.ask m (aC hm) (wr.alloc (.cells #[.string m.key,.string m.val,.bool m.gone] 68)) (HA.out.keep _ _ PL ((Mod.refl dZ wr).alloc _)));have HI:=dV hI;have km:=dV hm;have vr:=dV hcell;have kI:=dV hfro;have ff:=dg.new wr (jv m) 68;have hbz:b<wr.heap.size:=World.block_lt_of_cell? wr _ q0;clear hI hm hlk hcell hfro PL;go_wp2_with fail;refine HC.out.mono ?_;rintro e w5 ⟨rfl,eP⟩;have vT:dg w5 wr.heap.size (jv m) 68:=ff.mod eP id;have jt:=((Mod.refl dZ wr).alloc (.cells #[.string m.key,.string m.val,.bool m.gone] 68)).trans eP;clear HC q0 q1 q2 ff;have p0:=vT.cell 0 rfl;have p1:=vT.cell 1 rfl;have p2:=vT.cell 2 rfl
    cases hs:p m with
    | true=>
     have HN:=dV (HI.out.skip km.out hs jt);go_wp2_with fail;go_roundw
     case rel=>exact ⟨i,j+1,rfl,by go_num,HN.out⟩
     case measure=>simp [intOf];omega
    | false=>
     have HN:=dV (HI.out.keep km.out hs jt);have hex:∀ c,c<3->∃ y,w5.cell? ⟨b,i*3+c,none⟩=some y:=fun c hc=>by
      obtain ⟨y,hy⟩:=bD.1 (vr.out c (by omega));exact ⟨y,jt.cell hy id⟩
     have hfz:∀ c,w5.frozen? ⟨b,c,none⟩=false:=fun c=>(jt.frozen (p:=⟨b,c,none⟩) hbz id).trans (kI.out c);obtain ⟨y0,hy0⟩:=hex 0 (by omega);obtain ⟨y1,hy1⟩:=hex 1 (by omega);obtain ⟨y2,hy2⟩:=hex 2 (by omega);have f0:=hfz (i*3+0);have f1:=hfz (i*3+1);have f2:=hfz (i*3+2);simp only [bG] at hy0 f0;have qx:b≠wr.heap.size:=by omega
     clear hex hfz;go_wp2_with fail;go_roundw
     case rel=>exact ⟨i+1,j+1,by go_num,by go_num,by simpa [World.setCells,jv,Nat.add_assoc] using HN.out⟩
     case measure=>simp [intOf];omega
   ·obtain rfl:j=ms.length:=by omega
    have oV:=hI.done (B:=B) (cap:=cap) Dj hcap (by unfold maxLen;omega) lR;have hb3:¬ cap=i:=by omega
    have hb4:i<=cap:=by omega
    have tu:=dV oV;have vr:Hid (∀ n,n<(ms.length - i)*3->(wr.cell? ⟨b,i*3+n,none⟩).isSome=true):=fun n hn=>hcell n (by omega);have kI:Hid (∀ n,n<(ms.length - i)*3->wr.frozen? ⟨b,i*3+n,none⟩=false):=fun n _=>hfro _;clear oV;clear hI hcell hfro;go_wp2_with (first
     | (refine zVq rfl _ rfl b (i*3) (ms.length - i) _ rfl (by omega) vr.out kI.out ?_)
     | fail)
    go_ret;exact ⟨_,rfl,tu.out.1,rfl,tu.out.2.mono (fun x _ e=>by simp only [eA] at e;rw [e];rfl)⟩
theorem zVy(g:Nat)(a:Option Addr)(c:Nat)(ty:TypeId)(w:World):(Builtin.append_ #[63,63] ty #[.slice (some ⟨g,0,none⟩) 0 0,.slice a 0 c]).run Tryz.prog w=.ok (.slice (some ⟨g,0,none⟩) 0 0) w:=by
 cases a <;> kernel_rfl
theorem Tryz.AA:(Tryz.prog.info? 68).map (fun i=>(i.zero,i.size,i.bytes))=some (some (.agg #[.string ⟨#[]⟩,.string ⟨#[]⟩,.bool false]),3,40):=by kernel_rfl
theorem yGi(p:Addr)(m c:Nat)(l:List fQ)(w:World)(hm:m=l.length)(hc:∀ (j:Nat) u,(gb l)[j]?=some u->w.cell? (p.add j)=some u)(hl:l.length<=1000)(h1:∀ d∈l,∀ u∈jv d,u.oneCell'=true) :
  Calls Tryz.prog 163 #[.slice (some p) m c] w fun e w'=>∃ g cap,e=.returned (.slice (some ⟨g,0,none⟩) m cap)/\w'.ownsRow w.heap.size 68 3 (.slice (some ⟨g,0,none⟩) m cap) m (gb l)/\Mod dZ w w':=by
 obtain ⟨i0,hi,hz0,hz1,hz2⟩:=info_parts Tryz.AA;have h63:m<=maxLen:=by unfold maxLen;omega
 have h47:m*40<=140737488355328:=by omega
 have uV:Hid ((gb l).length=m*3):=by rw [hm];exact Bo l
 have zK:Hid (m=0\/∃ q,some p=some q/\∀ (j:Nat) u,(gb l)[j]?=some u->w.cell? (q.add j)=some u):=.inr ⟨p,rfl,hc⟩;have qM:=dV (yNb l h1);have hen:=run_eql_slice_nil (P:=Tryz.prog) w 63 68 (some p) m c 0 0 Tryz.underlying63;clear hc hm h1;go_enter Tryz.func163,Tryz.ntmps163;go_wp2_with (first
  | (at_builtin;(refine Uv (w0:=w) rfl _ _ 63 rfl 68 i0 _ 3 40 Tryz.underlying63 hi hz0 hz1 hz2 rfl (by omega) zVy rfl (some p) m c (gb l) rfl uV.out zK.out qM.out h63 h47 ?_))
  | fail)
 intro g cap w2 hrow hm2;go_wp2_with fail;go_ret;exact ⟨g,cap,rfl,hrow,hm2⟩
theorem yGh(w:World):Calls Tryz.prog 163 #[.slice none 0 0] w fun e w'=>e=.returned (.slice none 0 0)/\w'=w:=by
 have hen:=run_eql_slice_nil (P:=Tryz.prog) w 63 68 none 0 0 0 0 Tryz.underlying63;go_enter Tryz.func163,Tryz.ntmps163;go_wp2_with fail;go_ret;exact ⟨rfl,rfl⟩
theorem wB{w:World}{B:Nat}{ty:TypeId}{v:Value}{bs:List Nat}(h:w.ownsRow B ty 1 v bs.length (bs.map jC)){k b:Nat}(hk:bs[k]?=some b) :
  ∃ g cap,v=.slice (some ⟨g,0,none⟩) bs.length cap/\w.cell? ⟨g,k,none⟩=some (.pointer (some ⟨b,0,none⟩)):=by
 have hlt:k<bs.length:=(aB.1 hk).1;rcases h.2 with ⟨e,h0⟩ | ⟨g,cap,cur,e,q1,q2,q3,q4,q5,q6⟩
 ·omega
 ·subst e;have:=h.cells (g:=g) rfl k (jC b) (by simp [hk]);rw [Go.WideShapes.add_plain,aX] at this;exact ⟨g,cap,rfl,this⟩
theorem kF{w:World}{g:Nat}{y:dY}{lost:Int}{t:TypeId}(h:dg w g (KA y lost) t) :
  w.cell? ⟨g,0,none⟩=some y.lv/\w.cell? ⟨g,1,none⟩=some (.map (some y.dr))/\w.cell? ⟨g,2,none⟩=some y.wv/\w.cell? ⟨g,3,none⟩=some (.int .i64 lost)/\w.cell? ⟨g,4,none⟩=some (.map y.mr)/\w.cell? ⟨g,5,none⟩=some (.map y.q.m)/\w.cell? ⟨g,6,none⟩=some y.tv:=
 ⟨h.cell 0 rfl,h.cell 1 rfl,h.cell 2 rfl,h.cell 3 rfl,h.cell 4 rfl,h.cell 5 rfl,h.cell 6 rfl⟩
theorem dx.nJ{w:World}{n c g:Nat}{y:dY}{s:dX}(h:dx w n c g y s){k:Nat}(hk:k<s.lines.length):∃ b,y.gF[k]?=some b/\zN w n y b (s.line k):=by
 have hl:=h.iQ;refine ⟨y.gF[k]'(by omega),aA (by omega),h.line k _ _ (aA (by omega)) ?_⟩;unfold dX.line;rw [aI,aA hk];rfl
theorem dx.xc{w:World}{n c g:Nat}{y:dY}{s:dX}(h:dx w n c g y s){id:Nat}(h1:1<=id)(h2:id<=s.dW.length):∃ b,y.jo[id - 1]?=some b/\th w n y b (s.tx id):=by
 have hl:=h.kN;refine ⟨y.jo[id - 1]'(by omega),aA (by omega),h.tx (id - 1) _ _ (aA (by omega)) ?_⟩;unfold dX.tx;rw [aI,aA (by omega)];rfl
theorem zN.wN{w:World}{n b:Nat}{y:dY}{l:jG}(h:zN w n y b l){j:Nat}(hj:j<l.nodes.length):∃ c,(y.fL b)[j]?=some c/\∃ s,l.nodes[j]?=some s/\xG w n y c s:=by
 have hl:=h.len;exact ⟨(y.fL b)[j]'(by omega),aA (by omega),l.nodes[j],aA hj,h.node j _ _ (aA (by omega)) (aA hj)⟩
theorem Uw(n c g:Nat)(y:dY)(s:dX)(w:World)(h:dx w n c g y s)(hl:s.lines.length<=1000)(oJ:1<=s.lines.length) :
  Calls Tryz.prog 109 #[.pointer (some ⟨g,0,none⟩)] w fun e w'=>e=.returned (.int .i64 (du s))/\w'=w:=by
 obtain ⟨c0,-⟩:=kF h.blk;obtain ⟨a,cap,hv⟩:=eu h.fi;rw [hv,h.iQ] at c0;have hd:((s.lines.length:Int) - 1)=(du s:Nat):=by unfold du;omega
 have HD:=dV hd;clear h hv hd;go_enter Tryz.func109,Tryz.ntmps109;go_wp2_with fail;go_ret;exact ⟨by rw [<-HD.out];rfl,rfl⟩
theorem yg(n c g:Nat)(y:dY)(s:dX)(id b:Nat)(w:World)(h:dx w n c g y s)(h1:1<=id)(h2:id<=1000)(hb:y.jo[id - 1]?=some b) :
  Calls Tryz.prog 34 #[.pointer (some ⟨g,0,none⟩),.int .i64 id] w fun e w'=>e=.returned (.pointer (some ⟨b,0,none⟩))/\w'=w:=by
 obtain ⟨-,-,-,-,-,-,c6⟩:=kF h.blk;obtain ⟨tg,cap,hv,ct⟩:=wB h.gW hb;rw [hv] at c6;obtain ⟨i,rfl⟩:∃ i,id=i+1:=⟨id - 1,by omega⟩;have hlt:i<y.jo.length:=by have:=(aB.1 hb).1;omega
 rw [bP] at ct;have jd:(i:Int)<(y.jo.length:Int):=by omega
 have hi0:(0:Int)<=(i:Int):=by omega
 clear h hv hb;go_enter Tryz.func34,Tryz.ntmps34;go_wp2_with fail;go_ret;exact ⟨rfl,rfl⟩
theorem KB(n c g:Nat)(y:dY)(s:dX)(id:Int)(w:World)(h:dx w n c g y s)(hl:s.dW.length<=60) :
  Calls Tryz.prog 11 #[.pointer (some ⟨g,0,none⟩),.int .i64 id] w fun e w'=>e=.returned (.int .i64 (jU s id))/\w'=w:=by
 obtain ⟨-,-,-,-,-,-,c6⟩:=kF h.blk;obtain ⟨a,cap,hv⟩:=eu h.gW;rw [hv,h.kN] at c6;by_cases h1:id<1
 ·have hd:decide (id<1)=true:=aQ h1;have HS:Hid (jU s id=0):=by unfold Hid jU xg;rw [aL (show ¬ 1<=id by omega)];rfl
  clear h hv;go_enter Tryz.func11,Tryz.ntmps11;go_wp2_with fail;go_ret;exact ⟨by rw [HS.out];rfl,rfl⟩
 ·have hd:decide (id<1)=false:=aL h1;by_cases h2:id > (s.dW.length:Int)
  ·have hd2:decide (id > (s.dW.length:Int))=true:=aQ h2;have HS:Hid (jU s id=0):=by unfold Hid jU xg;rw [aL (show ¬ id<=(s.dW.length:Int) by omega),Bool.and_false];rfl
   clear h hv;go_enter Tryz.func11,Tryz.ntmps11;go_wp2_with fail;go_ret;exact ⟨by rw [HS.out];rfl,rfl⟩
  ·have hd2:decide (id > (s.dW.length:Int))=false:=aL h2;obtain ⟨i,rfl⟩:∃ i:Nat,id=i:=⟨id.toNat,by omega⟩;obtain ⟨b,hb,ht⟩:=h.xc (id:=i) (by omega) (by omega);have HT:=dV (yg n c g y s i b w h (by omega) (by omega) hb);have t0:=ht.blk.cell 0 rfl;have HS:Hid (jU s i=(s.tx i).state):=by
    unfold Hid jU xg;rw [aQ (show (1:Int)<=(i:Int) by omega),aQ (show (i:Int)<=(s.dW.length:Int) by omega)];rfl
   clear h hv ht hb;go_enter Tryz.func11,Tryz.ntmps11;go_wp2_with fail;refine HT.out.mono ?_;rintro e w1 ⟨rfl,rfl⟩;go_wp2_with fail;go_ret;exact ⟨by rw [HS.out];rfl,rfl⟩
theorem ou:je 0=.nilIface:=by unfold je;rw [aP rfl]
theorem mS{e:Int}(h:e≠0):je e=.iface 90 (.int .i64 e):=by unfold je;rw [aK h]
theorem To(n c g:Nat)(y:dY)(s:dX)(id:Int)(w:World)(h:dx w n c g y s)(hl:s.dW.length<=60) :
  Calls Tryz.prog 35 #[.pointer (some ⟨g,0,none⟩),.int .i64 id] w fun e w'=>e=.returned (je (pL s id))/\w'=w:=by
 have HS:=dV (KB n c g y s id w h hl);have hmk:=Jq;clear h;go_enter Tryz.func35,Tryz.ntmps35;go_wp2_with fail;refine HS.out.mono ?_;rintro e w1 ⟨rfl,rfl⟩;by_cases h0:jU s id=0
 ·rw [h0];have HO:Hid (je (pL s id)=.iface 90 (.int .i64 7)):=by unfold Hid pL;rw [aP h0];exact mS (by omega)
  go_wp2_with fail;go_ret;exact ⟨by rw [HO.out];rfl,rfl⟩
 ·by_cases h1:jU s id=1
  ·rw [h1];have HO:Hid (je (pL s id)=.nilIface):=by unfold Hid pL;rw [aK h0,aP h1];exact ou
   go_wp2_with fail;go_ret;exact ⟨by rw [HO.out];rfl,rfl⟩
  ·have HO:Hid (je (pL s id)=.iface 90 (.int .i64 6)):=by unfold Hid pL;rw [aK h0,aK h1];exact mS (by omega)
   have e0:(jU s id == 0)=false:=by simpa using h0
   have e1:(jU s id == 1)=false:=by simpa using h1
   go_wp2_with fail;go_ret;exact ⟨by rw [HO.out];rfl,rfl⟩
theorem yCc(n c g:Nat)(y:dY)(s:dX)(b:Nat)(ns:eK)(w:World)(h:dx w n c g y s)(hn:xG w n y b ns) :
  Calls Tryz.prog 84 #[.pointer (some ⟨g,0,none⟩),.pointer (some ⟨b,0,none⟩)] w fun e w'=>e=.returned (.bool (gS s ns))/\Mod dZ w w':=by
 obtain ⟨-,c1,-⟩:=kF h.blk;have z1:=h.blk.lt;have hi:=hn.ints.1;have hd:=h.dead;have l1:(Instr.lookup 75 (.map (some y.dr)) (.int .i64 ns.id) true).run Tryz.prog w.drew=.ok (.tuple #[.agg #[],.bool (decide (ns.id∈s.dead))]) w.drew:=GV (hd.mod ((Mod.refl dZ w).drew) (fun _ _=>id)) hi;have l2:(Instr.lookup 75 (.map (some y.dr)) (.int .i64 ns.id) true).run Tryz.prog (w.alloc (.cells #[] 158)).drew=.ok (.tuple #[.agg #[],.bool (decide (ns.id∈s.dead))]) (w.alloc (.cells #[] 158)).drew:=GV (hd.mod (((Mod.refl dZ w).alloc _).drew) (fun _ _=>id)) hi;have HI:Hid (∀ wq,Mod dZ w wq->Calls Tryz.prog 98 #[.pointer (some ⟨b,0,none⟩)] wq fun e w'=>e=.returned (.int .i64 ns.id)/\w'=wq):=fun wq hq=>VX _ _ _ _ _ _ (hn.quiet hq);have hL:gS s ns=!decide (ns.id∈s.dead):=rfl;have HL:=dV hL;clear h hn hd hL;go_enter Tryz.func84,Tryz.ntmps84;go_upto_region 1 with fail;go_cut [6] (fun t wc=>t=.bool (decide (ns.id∈s.dead))/\Mod dZ w wc)
 case first=>
  go_region_with (go_at_call 98;(first
   | (refine (HI.out _ ((Mod.refl dZ w).drew)).mono ?_)
   | (refine (HI.out _ (((Mod.refl dZ w).alloc _).drew)).mono ?_));rintro e w5 ⟨rfl,rfl⟩)
  all_goals
   go_wp2_with fail;go_meet
   case rel=>exact ⟨rfl,((Mod.refl dZ w).alloc _).drew⟩
 case rest=>
  obtain ⟨rfl,hm⟩:=hcut
  cases hdd:decide (ns.id∈s.dead)
  all_goals
   go_wp2_with fail;go_ret;exact ⟨by rw [HL.out,hdd];rfl,hm⟩
def Ei:eK:=⟨0,0,[],[],0⟩
def dY.pairs(y:dY)(s:dX):List (Nat × eK):=(y.gF.zip s.lines).flatMap fun p=>(y.fL p.1).zip p.2.nodes
def dY.st(y:dY)(s:dX)(d:Nat):eK:=(((y.pairs s).find? fun p=>decide (p.1=d)).map (·.2)).getD Ei
theorem yId{β:Type}:∀ (l:List (Nat × β)) (c:Nat) (x:β),(l.map (·.1)).Nodup->(c,x)∈l->l.find? (fun p=>decide (p.1=c))=some (c,x)
 | [],_,_,_,h=>by simp at h
 | q :: l,c,x,hn,h=>by
  simp only [bW,List.nodup_cons] at hn;rw [cJ];rcases bV.1 h with e | e
  ·subst e;simp
  ·have hne:q.1≠c:=fun e2=>hn.1 (by rw [e2];exact af.2 ⟨_,e,rfl⟩);rw [aL hne];exact yId l c x hn.2 e
theorem yNo{w:World}{n c g:Nat}{y:dY}{s:dX}(h:dx w n c g y s):(y.pairs s).map (·.1)=y.gF.flatMap y.fL:=by
 have key:∀ (bs:List Nat) (ls:List jG),bs.length=ls.length->(∀ (k b:Nat) l,bs[k]?=some b->ls[k]?=some l->(y.fL b).length=l.nodes.length)->((bs.zip ls).flatMap fun p=>(y.fL p.1).zip p.2.nodes).map (·.1)=bs.flatMap y.fL:=by
  intro bs
  induction bs with
  | nil=>intro ls _ _;simp
  | cons b bs ih=>
   intro ls hl hq
   cases ls with
   | nil=>simp at hl
   | cons l ls=>
    rw [List.zip_cons_cons,bH,ay,bH,ih ls (by simpa using hl) (fun k b' l' h1 h2=>hq (k+1) b' l' (by simpa using h1) (by simpa using h2))];congr 1;exact List.map_fst_zip (Nat.le_of_eq (hq 0 b l rfl rfl))
 exact key y.gF s.lines h.iQ (fun k b l h1 h2=>(h.line k b l h1 h2).len)
theorem TP{α β:Type}:∀ {a:List α} {b:List β} {i:Nat} {x:α} {z:β},a[i]?=some x->b[i]?=some z->(x,z)∈a.zip b
 | [],_,_,_,_,h,_=>by simp at h
 | _ :: _,[],_,_,_,_,h=>by simp at h
 | p :: a,q :: b,0,x,z,h1,h2=>by simp at h1 h2;subst h1 h2;simp
 | p :: a,q :: b,i+1,x,z,h1,h2=>by
  rw [List.zip_cons_cons];exact bS _ (TP (by simpa using h1) (by simpa using h2))
theorem dx.kW{w:World}{n c g:Nat}{y:dY}{s:dX}(h:dx w n c g y s){k b j d:Nat}{l:jG}{x:eK}(h1:y.gF[k]?=some b)(h2:s.lines[k]?=some l)(h3:(y.fL b)[j]?=some d)(h4:l.nodes[j]?=some x):y.st s d=x:=by
 unfold dY.st;have hmem:(d,x)∈y.pairs s:=cS.2 ⟨(b,l),TP h1 h2,TP h3 h4⟩;rw [yId (y.pairs s) d x (by rw [yNo h];exact h.own.yu) hmem];rfl
theorem dx.uu{w:World}{n c g:Nat}{y:dY}{s:dX}(h:dx w n c g y s){k b:Nat}{l:jG}(h1:y.gF[k]?=some b)(h2:s.lines[k]?=some l):(y.fL b).map (y.st s)=l.nodes:=by
 have hl:=(h.line k b l h1 h2).len;apply bI;intro j;rw [aa];by_cases hj:j<(y.fL b).length
 ·rw [aA hj,aA (by omega),bK,h.kW h1 h2 (aA hj) (aA (by omega))]
 ·rw [ah (by omega),ah (by omega)];rfl
theorem dx.mU{w:World}{n c g:Nat}{y:dY}{s:dX}(h:dx w n c g y s){k b d:Nat}(h1:y.gF[k]?=some b)(h3:d∈y.fL b):xG w n y d (y.st s d):=by
 obtain ⟨j,hj⟩:=aO h3;have hk:k<s.lines.length:=by have:=(aB.1 h1).1;have:=h.iQ;omega
 have h2:s.lines[k]?=some s.lines[k]:=aA hk;have hl:=h.line k b _ h1 h2;have hjl:j<s.lines[k].nodes.length:=by have:=(aB.1 hj).1;have:=hl.len;omega
 have h4:s.lines[k].nodes[j]?=some s.lines[k].nodes[j]:=aA hjl;rw [h.kW h1 h2 hj h4];exact hl.node j d _ hj h4
theorem ma{s:dX}{k:Nat}(hk:k<s.lines.length):s.lines[k]?=some (s.line k):=by
 unfold dX.line;rw [aI,aA hk];rfl
theorem RJ:∀ bs:List Nat,bs.map jC=jw bs
 | []=>rfl
 | b :: bs=>by rw [GR,bW,RJ bs];rfl
def dY.kf(y:dY)(s:dX)(b:Nat):List Nat:=(y.fL b).filter fun d=>gS s (y.st s d)
theorem dx.DE{w:World}{n c g:Nat}{y:dY}{s:dX}(h:dx w n c g y s){k b:Nat}(hk:k<s.lines.length)(h1:y.gF[k]?=some b):(y.kf s b).map (y.st s)=fa s k:=by
 unfold dY.kf fa;rw [<-h.uu h1 (ma hk),List.filter_map];rfl
theorem yCm(n c g:Nat)(y:dY)(s:dX)(k b d:Nat)(w:World)(h:dx w n c g y s)(hk:k<s.lines.length)(hb:y.gF[k]?=some b)(hd:(y.fL b)[0]?=some d) :
  Calls Tryz.prog 64 #[.pointer (some ⟨g,0,none⟩),.int .i64 k] w fun e w'=>e=.returned (.tuple #[.pointer (some ⟨d,0,none⟩),.bool (gS s (y.st s d))])/\Mod dZ w w':=by
 obtain ⟨c0,-⟩:=kF h.blk;obtain ⟨lg,cap,hv,cl⟩:=wB h.fi hb;rw [hv] at c0;have hL:=h.line k b _ hb (ma hk);have b0:=hL.blk.cell 0 rfl;obtain ⟨ng,pr,pC,cn⟩:=wB hL.row hd;rw [pC] at b0;have HV:=dV (yCc n c g y s d (y.st s d) w h (h.mU hb (aC hd)));have hlt:=(aB.1 hb).1;have xu:(k:Int)<(y.gF.length:Int):=by omega
 have qs:(0:Int)<=(k:Int):=by omega
 have hn0:=(aB.1 hd).1;have sW:(0:Int)<((y.fL b).length:Int):=by omega
 clear h hv hL pC hb hd;go_enter Tryz.func64,Tryz.ntmps64;go_wp2_with fail;refine HV.out.mono ?_;rintro e w1 ⟨rfl,hm⟩;go_wp2_with fail;go_ret2;exact ⟨rfl,hm⟩
theorem yFo(n c g q:Nat)(y:dY)(s:dX)(d:Nat)(w:World)(h:dx w n c g y s)(hd:xG w n y d (y.st s d))(hq:w.cell? ⟨q,0,none⟩=some (.pointer (some ⟨g,0,none⟩))) :
  Calls Tryz.prog 83 #[.pointer (some ⟨d,0,none⟩),.pointer (some ⟨q,0,none⟩)] w fun e w'=>e=.returned (.bool (!gS s (y.st s d)))/\Mod dZ w w':=by
 have HV:=dV (yCc n c g y s d (y.st s d) w h hd);clear h hd;go_enter Tryz.func83,Tryz.ntmps83;go_wp2_with fail;refine HV.out.mono ?_;rintro e w1 ⟨rfl,hm⟩;go_wp2_with fail;go_ret;exact ⟨rfl,hm⟩
theorem ySp(y:dY)(s:dX)(b:Nat):jB (fun d=>!gS s (y.st s d)) (y.fL b)=y.kf s b:=by
 unfold jB dY.kf;congr 1;funext d;simp
theorem UP(n c g:Nat)(y:dY)(s:dX)(k b:Nat)(w:World)(h:dx w n c g y s)(hk:k<s.lines.length)(hb:y.gF[k]?=some b)(hf:(y.fL b).length<=100)(hne:0<(y.fL b).length) :
  Calls Tryz.prog 46 #[.pointer (some ⟨g,0,none⟩),.int .i64 k] w fun e w'=>∃ v,e=.returned v/\w'.ownsRow w.heap.size 91 1 v (y.kf s b).length (jw (y.kf s b))/\Mod dZ w w':=by
 obtain ⟨w1,hw1⟩:∃ x,x=w.alloc (.cells #[.pointer (some ⟨g,0,none⟩)] 35):=⟨_,rfl⟩;have dh:Mod dZ w w1:=by rw [hw1];exact (Mod.refl _ w).alloc _
 have hb1:dg w1 w.heap.size [.pointer (some ⟨g,0,none⟩)] 35:=by rw [hw1];exact dg.new w _ _
 have h1:=h.quiet dh;have x0:=hb1.cell 0 rfl;obtain ⟨c0,-⟩:=kF h1.blk;obtain ⟨lg,cap,hv,cl⟩:=wB h1.fi hb;rw [hv] at c0;have hL:=h1.line k b _ hb (ma hk);have b0:=hL.blk.cell 0 rfl;obtain ⟨nd,hnd⟩:∃ d,(y.fL b)[0]?=some d:=⟨_,aA hne⟩;obtain ⟨ng,pr,pC,cn⟩:=wB hL.row hnd;have hrow:=hL.row;rw [pC] at b0 hrow;have hcl:=hrow.cells (g:=ng) rfl;rw [RJ] at hcl;have rJ:=dV (yGj ⟨ng,0,none⟩ (y.fL b).length pr (y.fL b) w1 rfl hcl (by omega) (fun d _ u hu=>by simp [pJ] at hu;subst hu;rfl));have tF:∀ fn first cap w,(Instr.makeFunc fn first cap).run Tryz.prog w=.ok (.func fn first cap) w:=fun _ _ _ _=>rfl
 have hlt:=(aB.1 hb).1;have xu:(k:Int)<(y.gF.length:Int):=by omega
 have qs:(0:Int)<=(k:Int):=by omega
 have HH:=dV h1;have HB:=dV hb;have kA:=dV hb1;have fJ:=dV dh;clear h h1 hv hL pC hrow hcl hb hnd hb1 dh cn;go_enter Tryz.func46,Tryz.ntmps46;go_upto_region 1 with fail;rw [<-hw1];clear hw1;go_wp2_with fail;refine rJ.out.mono ?_;rintro e w2 ⟨ng2,NJ,rfl,hrow2,hm2⟩;have HA:mO 83 #[.pointer (some ⟨w.heap.size,0,none⟩)] (fun d=>.pointer (some ⟨d,0,none⟩)) (y.fL b) (fun d=>!gS s (y.st s d)) (fun wr=>dx wr n c g y s/\wr.cell? ⟨w.heap.size,0,none⟩=some (.pointer (some ⟨g,0,none⟩))):=
  ⟨xL Tryz.func83 (by kernel_rfl) rfl,fun wa wb hh hm=>⟨hh.1.quiet hm,hm.cell hh.2 id⟩,fun d hd wr hh=>yFo n c g w.heap.size y s d wr hh.1 (hh.1.mU HB.out hd) hh.2⟩
 have qt:=HH.out.quiet hm2;have Jd:=dV (yDl 83 w1.heap.size #[.pointer (some ⟨w.heap.size,0,none⟩)] (fun d=>!gS s (y.st s d)) (.slice (some ⟨ng2,0,none⟩) (y.fL b).length NJ) (y.fL b) w2 _ hrow2 HA ⟨qt,hm2.cell (kA.out.cell 0 rfl) id⟩ (fun x hx w' hm'=>by
  have hx1:w1.heap.size<=x:=(fW hrow2 hx).1;have wW:Mod dZ w1 w':=hm2.trans' hm' (fun i hi e=>by simp only [eA] at e;omega);exact ⟨HH.out.quiet wW,wW.cell (kA.out.cell 0 rfl) id⟩) (by omega))
 rw [ySp] at Jd;have HR:=dV hrow2;have gE:=dV hm2;clear hrow2 qt HA hm2 rJ;go_wp2_with fail;refine Jd.out.mono ?_;rintro e w3 ⟨v3,rfl,hrow3,hv3,dy⟩;obtain ⟨KX,Ek,Hs⟩:=eu hrow3;subst Hs;have BF:=dV hrow3;have jK:Mod dZ w1 w3:=gE.out.trans' dy (fun i hi e=>by have:=(fW HR.out e).1;omega);have iI:=dV (fJ.out.trans jK);have HZ:=dV fJ.out.size;clear hrow3 dy jK Jd;go_wp2_with fail;go_ret;exact ⟨_,rfl,uL BF.out HZ.out,iI.out⟩
end Go.Proofs.YtmaiggbnceejiaaGreatDoor
