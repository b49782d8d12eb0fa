import Derived.Test.YtmaiggbnceejiaaGreatDoorS05
import Derived.WalkSpells
import Derived.Test.YtmaiggbnceejiaaGreatDoorS01
set_option linter.unusedVariables false
set_option maxRecDepth 100000
set_option maxHeartbeats 16000000
namespace Go.Proofs.YtmaiggbnceejiaaGreatDoor
open Go.RowKit Go.Lib Go.Maps
variable {E:Ext}
structure vu(w:World)(L:Lo)(g q:Nat)(mr:Option Nat)(ds:List Int):Prop where
 box:w.cell? ⟨q,0,none⟩=some (.pointer (some ⟨g,2,none⟩))
 fld:w.cell? ⟨g,4,none⟩=some (.map mr)
 dn:pf w L mr ds
theorem vu.mod{G:Nat->Prop}{w w':World}{L:Lo}{g q:Nat}{mr:Option Nat}{ds:List Int}(h:vu w L g q mr ds)(hm:Mod G w w')(hq:¬ G q)(hg:¬ G g)(hr:∀ k,mr=some k->¬ G k):vu w' L g q mr ds:=
 ⟨hm.cell h.box hq,hm.cell h.fld hg,h.dn.mod hm hr⟩
theorem vu.call{w:World}{L:Lo}{g q:Nat}{mr:Option Nat}{ds:List Int}(h:vu w L g q mr ds)(m:dw)(u:Value)(hi:VH m) :
  Calls Tryz.prog 131 #[.agg #[.int .i64 m.kind,.int .i64 m.eF,.int .i64 m.to,.int .i64 m.dk,.int .i64 m.n,.int .i64 m.cmd.kind,.int .i64 m.cmd.tx,.int .i64 m.cmd.time,u],.pointer (some ⟨q,0,none⟩)] w fun e w'=>e=.returned (.bool (rP ds m))/\Mod dZ w w':=
 zTi g q L m u mr ds w h.box h.fld h.dn hi
def xM(ds:List Int):List dw->Option Nat
 | []=>none
 | m :: ms=>if rP ds m then some 0 else (xM ds ms).map (·+1)
theorem yDb(ds:List Int):∀ (ms:List dw) (k:Nat),(∀ i m,i<k->ms[i]?=some m->rP ds m=false)->∀ m,ms[k]?=some m->rP ds m=true->xM ds ms=some k
 | [],_,_,m,h,_=>by simp at h
 | m' :: ms,0,_,m,h,hs=>by simp at h;subst h;simp [xM,hs]
 | m' :: ms,k+1,hf,m,h,hs=>by
  have h0:=hf 0 m' (by omega) rfl;have:=yDb ds ms k (fun i m hi hm=>hf (i+1) m (by omega) (by simpa using hm)) m (by simpa using h) hs;simp [xM,h0,this]
theorem zUz(ds:List Int):∀ (ms:List dw),(∀ (i:Nat) m,ms[i]?=some m->rP ds m=false)->xM ds ms=none
 | [],_=>rfl
 | m :: ms,h=>by
  have h0:=h 0 m rfl;simp [xM,h0,zUz ds ms (fun i m hm=>h (i+1) m (by simpa using hm))]
def VQ(o:Option Nat):Int:=match o with | none=>-1 | some k=>k
theorem yOk(L:Lo)(g q:Nat)(mr:Option Nat)(ds:List Int)(v:Value)(ms:List dw)(w:World)(hR:eV w L v ms)(hA:vu w L g q mr ds)(hf:ms.length<=200) :
  Calls Tryz.prog 164 #[v,.func (.func 131) #[] #[.pointer (some ⟨q,0,none⟩)]] w fun e w'=>e=.returned (.int .i64 (VQ (xM ds ms)))/\Mod dZ w w':=by
 obtain ⟨va,Cs,hv⟩:=hR.slice;subst hv;go_enter Tryz.func164,Tryz.ntmps164;go_wp2_with fail;go_loopw [8] (fun i wr=>∃ k:Nat,k<=ms.length/\i=.int .i64 k/\(∀ i m,i<k->ms[i]?=some m->rP ds m=false)/\Mod dZ w wr) (fun i _=>ms.length - (intOf i).toNat)
 case atStart=>exact ⟨0,aT _,rfl,fun i m h=>by omega,Mod.refl _ _⟩
 case round=>
  obtain ⟨k,hk,rfl,hno,hM⟩:=hrel;have kS:=dq hno;clear hno;by_cases hlt:k<ms.length
  ·obtain ⟨m,hm⟩:∃ m,ms[k]?=some m:=⟨_,aA hlt⟩;obtain ⟨b,yJ,u,hv,_,_,hu,jF,q0,q1,q2,q3,q4,q5,q6,q7,q8⟩:=(hR.mod hM (Qm.none _ _) (fun _ _=>id)).at hm;simp only [Value.slice.injEq] at hv;obtain ⟨rfl,_,rfl⟩:=hv;have HC:=dq ((hA.mod hM id id (fun _ _=>id)).call m u jF.1);have km:=dq hm;clear hm;go_wp2_with fail;refine HC.out.mono ?_;rintro e w5 ⟨rfl,eP⟩;have wZ:=hM.trans eP;clear HC q0 q1 q2 q3 q4 q5 q6 q7 q8
   cases hs:rP ds m with
   | true=>
    have HF:=dq (yDb ds ms k kS.out m km.out hs);go_wp2_with fail;go_ret;exact ⟨by rw [HF.out];rfl,wZ⟩
   | false=>
    go_wp2_with fail;go_roundw
    case rel=>
     refine ⟨k+1,by omega,by go_num,fun i m' hi' hm'=>?_,wZ⟩;by_cases hik:i<k
     ·exact kS.out i m' hik hm'
     ·obtain rfl:i=k:=by omega
      rw [km.out] at hm';cases hm';exact hs
    case measure=>simp [intOf];omega
  ·have HF:=dq (zUz ds ms (fun i m hm=>kS.out i m (by have:=(aB.1 hm).1;omega) hm));go_wp2_with fail;go_ret;exact ⟨by rw [HF.out];rfl,hM⟩
end Go.Proofs.YtmaiggbnceejiaaGreatDoor
namespace Go.Proofs.YtmaiggbnceejiaaGreatDoor
open Go.RowKit Go.Lib Go.Maps
variable {E:Ext}
def Ti:Array Value:=#[.int .i64 0,.int .i64 0,.int .i64 0,.int .i64 0,.int .i64 0,.int .i64 0,.int .i64 0,.int .i64 0,.slice none 0 0]
def xK(n:Nat):List Value:=(Builtin.zeroCells Ti n).toList
theorem UG(n:Nat):(xK n).length=n*9:=by rw [xK,cK,size_zeroCells];rfl
theorem yLs(n:Nat):∀ v∈xK n,v.oneCell'=true:=by
 intro v hv;simp only [xK,Builtin.zeroCells,dM,af] at hv;obtain ⟨i,_,rfl⟩:=hv;have h9:∀ j,j<9->(Ti[j]!).oneCell'=true:=by
  intro j hj
  match j,hj with
  | 0,_=>rfl
  | 1,_=>rfl
  | 2,_=>rfl
  | 3,_=>rfl
  | 4,_=>rfl
  | 5,_=>rfl
  | 6,_=>rfl
  | 7,_=>rfl
  | 8,_=>rfl
 exact h9 _ (dH _ (by decide))
theorem yEx(w:World)(ty:TypeId)(b o n c:Nat)(hn:0<n)(hc:∀ j,j<n*9->(w.cell? ⟨b,o+j,none⟩).isSome=true)(hf:∀ j,j<n*9->w.frozen? ⟨b,o+j,none⟩=false) :
  (Builtin.clear_ #[76] ty #[.slice (some ⟨b,o,none⟩) n c]).run Tryz.prog w=.ok (.tuple #[]) (w.setCells b o (xK n)):=by
 have hst:=run_storeCells_cells (P:=Tryz.prog) b o (xK n) 0 w (by simpa [UG] using hc) (by simpa [UG] using hf) (yLs n);simp only [bG] at hst;obtain ⟨m,rfl⟩:∃ m,n=m+1:=⟨n - 1,by omega⟩;have hz:=yQm;have e:(Value.agg #[.int .i64 0,.int .i64 0,.int .i64 0,.int .i64 0,.int .i64 0,.int .i64 0,.int .i64 0,.int .i64 0,.slice none 0 0]).cells=Ti:=rfl;simp only [xK] at hst ⊢;simp [Builtin.clear_,run_underlying Tryz.underlying76,hz,e,hst]
theorem zVp{w:World}{ops:Array Oper}{rest:List Oper}{o:Oper}{a:Act}{Q:Exit->Act->World->Prop}(hgd:o.guard=none)(s:Operand)
  (ho:o.op=.call { callee:=.builtin .clear,args:=#[s],argTypes:=#[76] }) (b off n c:Nat) (hs:a.eval s=.slice (some ⟨b,off,none⟩) n c) (hn:0<n)
  (hc:∀ j,j<n*9->(w.cell? ⟨b,off+j,none⟩).isSome=true) (hf:∀ j,j<n*9->w.frozen? ⟨b,off+j,none⟩=false)
  (h:wpList Tryz.prog ops Q rest (a.put o.dst (.tuple #[])) (w.setCells b off (xK n))):wpList Tryz.prog ops Q (o :: rest) a w:=by
 refine wpList_plain hgd fun K hK=>?_;have hr:=yEx w o.type b off n c hn hc hf;unfold Oper.wp execOp;simp only [ho,resolve,invoke,builtin,Sem.run_bind,Sem.run_pure,Result.andThen_ok,bz,bW,cM,hs,hr];exact hK _ _ h
def lu(ds:List Int)(ms:List dw):List dw:=ms.filter (fun m=>!rP ds m)
theorem zXd(ds:List Int)(ms:List dw)(m:dw):lu ds (ms++[m])=if rP ds m then lu ds ms else lu ds ms++[m]:=by
 unfold lu;rw [dJ]
 cases h:rP ds m <;> simp [h]
theorem zXr(ds:List Int):∀ ms,xM ds ms=none->lu ds ms=ms
 | [],_=>rfl
 | m :: ms,h=>by
  unfold xM at h;split at h
  ·cases h
  ·rename_i hs;have hs':rP ds m=false:=by simpa using hs
   have:=zXr ds ms (by simpa using h);unfold lu at this ⊢;rw [cF,aP (by simp [hs']),this]
theorem zUy(ds:List Int):∀ ms k,xM ds ms=some k->k<ms.length/\lu ds (ms.take (k+1))=ms.take k
 | [],_,h=>by simp [xM] at h
 | m :: ms,k,h=>by
  unfold xM at h;split at h
  ·rename_i hs;simp at h;subst h;refine ⟨by simp,?_⟩;simp [lu,hs]
  ·rename_i hs;have hs':rP ds m=false:=by simpa using hs
   obtain ⟨k',hk',rfl⟩:=cL.1 h;obtain ⟨h1,h2⟩:=zUy ds ms k' hk';refine ⟨by simp;omega,?_⟩;unfold lu at h2 ⊢;rw [aw,cF,aP (by simp [hs']),h2,aw]
theorem yOj(ds:List Int)(ms:List dw):(lu ds ms).length<=ms.length:=bB _ _
def uF(w wr:World)(L:Lo)(b:Nat)(ds:List Int)(ms:List dw)(us R:List Value)(i j:Nat):Prop:=
 ∃ ru mid:List Value,i=(lu ds (ms.take j)).length/\ru.length=i/\mid.length=(j - i)*9/\i<j/\j<=ms.length /\
  dg wr b (gy (lu ds (ms.take j)) ru++mid++(gy (ms.drop j) (us.drop j)++R)) 112/\(∀ (n:Nat) m u,(lu ds (ms.take j))[n]?=some m->ru[n]?=some u->iH w L u m.cmd.writes)/\Mod (eA b) w wr
theorem uF.start{w wr:World}{L:Lo}{b k0:Nat}{ds:List Int}{ms:List dw}{us R:List Value}(mD:us.length=ms.length)(hk:k0<ms.length)(pT:lu ds (ms.take (k0+1))=ms.take k0)(hB:dg w b (gy ms us++R) 112)
  (hps:∀ (i:Nat) m u,ms[i]?=some m->us[i]?=some u->iH w L u m.cmd.writes) (hm:Mod dZ w wr):uF w wr L b ds ms us R k0 (k0+1):=by
 obtain ⟨m,hm0⟩:∃ m,ms[k0]?=some m:=⟨_,aA hk⟩;obtain ⟨u,hu0⟩:∃ u,us[k0]?=some u:=⟨_,aA (by omega)⟩;have ib:ms=ms.take k0++m :: ms.drop (k0+1):=by
  rw [aA hk] at hm0;simp at hm0;rw [<-hm0,<-bh hk,aq]
 have SG:k0<us.length:=by omega
 have Ht:us=us.take k0++u :: us.drop (k0+1):=by
  rw [aA SG] at hu0;simp at hu0;rw [<-hu0,<-bh SG,aq]
 refine ⟨us.take k0,ig m u,by rw [pT,aZ];omega,by rw [aZ];omega,by simp [ig],by omega,by omega,?_,fun n m' u' h1 h2=>?_,hm.mono (fun _ _ e=>e.elim)⟩
 ·rw [pT];have:=hB.mod hm id;have e:gy ms us=gy (ms.take k0) (us.take k0)++(ig m u++gy (ms.drop (k0+1)) (us.drop (k0+1))):=by
   conv=>lhs;rw [ib,Ht]
   rw [Rm _ _ _ _ (by simp [mD]),gy]
  rw [e] at this;simpa [List.append_assoc] using this
 ·rw [pT] at h1;have hn:n<k0:=by have:=(aB.1 h1).1;rw [aZ] at this;omega
  rw [cy,aP hn] at h1 h2;exact hps n m' u' h1 h2
theorem KI{α:Type}{l:List α}{j:Nat}{x:α}(h:l[j]?=some x):l.drop j=x :: l.drop (j+1):=by
 have hj:j<l.length:=(aB.1 h).1;rw [aA hj] at h;simp at h;rw [<-h,<-bh hj]
theorem zRx{α:Type}{l:List α}{j:Nat}{x:α}(h:l[j]?=some x):l.take (j+1)=l.take j++[x]:=by
 have hj:j<l.length:=(aB.1 h).1;rw [aA hj] at h;simp at h;rw [au hj,h]
theorem uF.look{w wr:World}{L:Lo}{b i j:Nat}{ds:List Int}{ms:List dw}{us R:List Value}(h:uF w wr L b ds ms us R i j){m:dw}{u:Value}(hm:ms[j]?=some m)(hu:us[j]?=some u) :
  ∀ n x,(ig m u)[n]?=some x->wr.cell? ⟨b,j*9+n,none⟩=some x:=by
 obtain ⟨ru,mid,h1,h2,h3,h4,h5,h6,h7,h8⟩:=h;intro n x hx;have hn:n<9:=(aB.1 hx).1;refine h6.cell _ ?_;rw [KI hm,KI hu,gy];have l1:=Bu (lu ds (ms.take j)) ru (by omega);rw [aM (by rw [aD];omega),aD,l1,h3,<-h1];rw [show j*9+n - (i*9+(j - i)*9)=n by omega,aU,aE hn];exact hx
theorem uF.skip{w wr wr':World}{L:Lo}{b i j:Nat}{ds:List Int}{ms:List dw}{us R:List Value}(h:uF w wr L b ds ms us R i j){m:dw}{u:Value}(hm:ms[j]?=some m)(hu:us[j]?=some u)(hs:rP ds m=true)(ij:Mod dZ wr wr') :
  uF w wr' L b ds ms us R i (j+1):=by
 obtain ⟨ru,mid,h1,h2,h3,h4,h5,h6,h7,h8⟩:=h;have hj:j<ms.length:=(aB.1 hm).1;have e:lu ds (ms.take (j+1))=lu ds (ms.take j):=by rw [zRx hm,zXd,aP hs]
 refine ⟨ru,mid++ig m u,by rw [e];exact h1,h2,by rw [aD,h3];simp [ig];omega,by omega,by omega,?_,by rw [e];exact h7,h8.trans (ij.mono (fun _ _ e=>e.elim))⟩;rw [e];have:=h6.mod ij id;rw [KI hm,KI hu,gy] at this;simpa [List.append_assoc] using this
theorem uF.keep{w wr wr':World}{L:Lo}{b i j:Nat}{ds:List Int}{ms:List dw}{us R:List Value}(h:uF w wr L b ds ms us R i j)(hps:∀ (i:Nat) m u,ms[i]?=some m->us[i]?=some u->iH w L u m.cmd.writes)
  {m:dw} {u:Value} (hm:ms[j]?=some m) (hu:us[j]?=some u) (hs:rP ds m=false) (ij:Mod dZ wr wr') :
  uF w (wr'.setCells b (i*9) (ig m u)) L b ds ms us R (i+1) (j+1):=by
 obtain ⟨ru,mid,h1,h2,h3,h4,h5,h6,h7,h8⟩:=h;have hj:j<ms.length:=(aB.1 hm).1;have e:lu ds (ms.take (j+1))=lu ds (ms.take j)++[m]:=by rw [zRx hm,zXd,aK (by simp [hs])]
 have l1:=Bu (lu ds (ms.take j)) ru (by omega);refine ⟨ru++[u],mid.drop 9++ig m u,by rw [e,aD,<-h1];rfl,by simp [h2],by rw [aD,bO,h3];simp [ig];omega,by omega,by omega,?_,fun n m' u' k1 k2=>?_,(h8.trans (ij.mono (fun _ _ e=>e.elim))).trans (Mod.setCells _ _ _)⟩
 ·rw [e,Rk _ _ _ _ (by omega)];have h9:=h6.mod ij id;rw [KI hm,KI hu,gy] at h9;have:=dg.setCells (g:=b) (t:=112) (ig m u) wr' (gy (lu ds (ms.take j)) ru) (mid.take 9) (mid.drop 9++(ig m u++gy (ms.drop (j+1)) (us.drop (j+1))++R)) (by
   rw [yBy];exact h9) (by rw [aZ,h3];simp [ig];omega)
  rw [l1,<-h1] at this;simpa [List.append_assoc] using this
 ·rw [e] at k1;by_cases hn:n<i
  ·rw [aE (by omega)] at k1;rw [aE (by omega)] at k2;exact h7 n m' u' k1 k2
  ·have hn':n=i:=by
    have:=(aB.1 k1).1;rw [aD] at this;simp at this;omega
   subst hn';rw [aM (by omega)] at k1 k2;simp [h2,<-h1] at k1 k2;subst k1 k2;exact hps j m u hm hu
theorem uF.room{w wr:World}{L:Lo}{b i j:Nat}{ds:List Int}{ms:List dw}{us R:List Value}(h:uF w wr L b ds ms us R i j):i<j/\j<=ms.length/\Mod (eA b) w wr /\
  (∀ n,n<(j - i)*9->(wr.cell? ⟨b,i*9+n,none⟩).isSome=true)/\∀ n,wr.frozen? ⟨b,n,none⟩=false:=by
 obtain ⟨ru,mid,h1,h2,h3,h4,h5,h6,h7,h8⟩:=h;have l1:=Bu (lu ds (ms.take j)) ru (by omega);refine ⟨h4,h5,h8,fun n hn=>?_,fun n=>h6.frozen n⟩;obtain ⟨x,hx⟩:∃ x,(gy (lu ds (ms.take j)) ru++mid++(gy (ms.drop j) (us.drop j)++R))[i*9+n]?=some x:=⟨_,aA (by simp only [aD];omega)⟩;rw [show wr.cell? ⟨b,i*9+n,none⟩=some x from h6.cell _ hx];rfl
theorem uF.done{w wr:World}{L:Lo}{b i cap:Nat}{ds:List Int}{ms:List dw}{us R:List Value}{cs0:List Value}(h:uF w wr L b ds ms us R i ms.length)(nA:dg w b cs0 112)(Dk:L<=b)(_hcap:ms.length<=cap)(hcm:cap<=maxLen)(lR:ms.length*9+R.length=cap*9)(hgd:∀ m∈ms,qZ m) :
  eV (wr.setCells b (i*9) (xK (ms.length - i))) L (.slice (some ⟨b,0,none⟩) i cap) (lu ds ms)/\Mod (fun x=>(Value.slice (some ⟨b,0,none⟩) ms.length cap).ownBlock=some x) w (wr.setCells b (i*9) (xK (ms.length - i))):=by
 obtain ⟨ru,mid,h1,h2,h3,h4,h5,h6,h7,h8⟩:=h;rw [bJ] at h1 h6 h7;have l1:=Bu (lu ds ms) ru (by omega);have l2:=UG (ms.length - i);have hM:=h8.trans (Mod.setCells (xK (ms.length - i)) (i*9) wr);have e0:gy (ms.drop ms.length) (us.drop ms.length)=[]:=by rw [cj];cases us.drop ms.length <;> rfl
 rw [e0,aY] at h6;have hB:=dg.setCells (g:=b) (t:=112) (xK (ms.length - i)) wr (gy (lu ds ms) ru) mid R h6 (by omega);rw [l1,<-h1] at hB;have hq:Qm w L (eA b):=by
  intro k hk e;simp only [eA] at e;subst e;rintro (e | ⟨⟨cur,fr,e⟩,_⟩)
  ·omega
  ·simp only [dg] at nA;rw [nA] at e;simp at e
 refine ⟨⟨ru,by omega,⟨by omega,.inr ⟨b,cap,(gy (lu ds ms) ru++xK (ms.length - i)++R).toArray,by rw [<-h1],Dk,hB,by omega,hcm,?_,?_⟩⟩,fun n m u k1 k2=>(h7 n m u k1 k2).mod hM hq,fun m hm=>hgd m (bE.1 hm).1⟩,hM.mono (fun x _ e=>by simp only [eA] at e;rw [e];rfl)⟩
 ·simp only [bC,aD];omega
 ·rw [<-l1,aU,dU]
theorem zVu(L:Lo)(g q:Nat)(mr:Option Nat)(ds:List Int)(v:Value)(ms:List dw)(w:World)(hR:eV w L v ms)(hA:vu w L g q mr ds)(Hy:v.ownBlock≠some q)(DZ:v.ownBlock≠some g)(No:∀ k,v.ownBlock=some k->mr≠some k)(hf:ms.length<=200) :
  Calls Tryz.prog 138 #[v,.func (.func 131) #[] #[.pointer (some ⟨q,0,none⟩)]] w fun e w'=>∃ v',e=.returned v'/\eV w' L v' (lu ds ms)/\v'.ownBlock=v.ownBlock/\Mod (fun x=>v.ownBlock=some x) w w':=by
 have nW:=dq (yOk L g q mr ds v ms w hR hA hf)
 cases hfi:xM ds ms with
 | none=>
  rw [hfi] at nW;have HK:=dq (zXr ds ms hfi);go_enter Tryz.func138,Tryz.ntmps138;go_wp2_with fail;refine nW.out.mono ?_;rintro e w1 ⟨rfl,dh⟩;simp only [VQ];go_wp2_with fail;go_ret;exact ⟨v,rfl,by rw [HK.out];exact hR.mod dh (Qm.none _ _) (fun _ _=>id),rfl,dh.mono (fun _ _ e=>e.elim)⟩
 | some k0=>
  rw [hfi] at nW;obtain ⟨qs,pT⟩:=zUy ds ms k0 hfi;obtain ⟨us,mD,hrow,hps,hgd⟩:=hR;rcases hrow.2 with ⟨_,h0⟩ | ⟨b,cap,cur,rfl,Dj,hg,hcap,hcm,hcs,htk⟩
  ·omega
  unfold maxLen at hcm;obtain ⟨R,hR⟩:∃ R,cur.toList=gy ms us++R:=by
   refine ⟨cur.toList.drop (ms.length*9),?_⟩;rw [<-htk,aq]
  have lA:=Bu ms us mD;have nA:dg w b (gy ms us++R) 112:=by rw [dg,<-hR];exact hg
  have lR:ms.length*9+R.length=cap*9:=by
   have:(gy ms us++R).length=cap*9:=by rw [<-hR];simpa using hcs
   rw [aD,lA] at this;exact this
  have rI:=dq hps;have vp:=dq hgd;have nY:=dq nA;have JV:=dq pT;clear hps hgd nA hR hg hcs htk hrow pT hfi lA;go_enter Tryz.func138,Tryz.ntmps138;go_wp2_with fail;refine nW.out.mono ?_;rintro e w1 ⟨rfl,dh⟩;simp only [VQ];have hne:((k0:Int) == -1)=false:=by rw [bc];omega
  go_wp2_with fail;go_loopw [5,6] (fun x y wr=>∃ i j:Nat,x=.int .i64 i/\y=.int .i64 j/\uF w wr L b ds ms us R i j) (fun _ y _=>ms.length - (intOf y).toNat)
  case atStart=>exact ⟨k0,k0+1,rfl,by go_num,uF.start mD qs JV.out nY.out rI.out dh⟩
  case round=>
   obtain ⟨i,j,rfl,rfl,hI⟩:=hrel;obtain ⟨hij,hjn,qz,hcell,hfro⟩:=hI.room;by_cases hlt:j<ms.length
   ·obtain ⟨m,hm⟩:∃ m,ms[j]?=some m:=⟨_,aA hlt⟩;obtain ⟨u,hu⟩:∃ u,us[j]?=some u:=⟨_,aA (by omega)⟩;have hlk:=hI.look hm hu;have q0:=hlk 0 _ rfl;have q1:=hlk 1 _ rfl;have q2:=hlk 2 _ rfl;have q3:=hlk 3 _ rfl;have q4:=hlk 4 _ rfl;have q5:=hlk 5 _ rfl;have q6:=hlk 6 _ rfl;have q7:=hlk 7 _ rfl;have q8:=hlk 8 _ rfl;simp only [bG] at q0;have jF:=vp.out m (aC hm);obtain ⟨ua,dp,rfl⟩:∃ ua dp,u=.slice ua m.cmd.writes.length dp:=by obtain ⟨ua,dp,h,_⟩:=rI.out j m u hm hu;exact ⟨ua,dp,h⟩
    have hA2:=(hA.mod qz (fun e=>Hy (by rw [e];rfl)) (fun e=>DZ (by rw [e];rfl)) (fun k hk e=>No k (by rw [e];rfl) hk)).mod ((Mod.refl dZ wr).alloc (.cells #[.int .i64 m.kind,.int .i64 m.eF,.int .i64 m.to,.int .i64 m.dk,.int .i64 m.n,.int .i64 m.cmd.kind,.int .i64 m.cmd.tx,.int .i64 m.cmd.time,.slice ua m.cmd.writes.length dp] 112)) id id (fun _ _=>id);have HC:=dq (hA2.call m (.slice ua m.cmd.writes.length dp) jF.1);have HI:=dq hI;have km:=dq hm;have Pm:=dq hu;have vr:=dq hcell;have kI:=dq hfro;have ff:=dg.new wr (ig m (.slice ua m.cmd.writes.length dp)) 112;have hbz:b<wr.heap.size:=World.block_lt_of_cell? wr _ q0;clear hI hm hu hlk hA2 hcell hfro;go_wp2_with fail;refine HC.out.mono ?_;rintro e w5 ⟨rfl,eP⟩;have vT:dg w5 wr.heap.size (ig m (.slice ua m.cmd.writes.length dp)) 112:=ff.mod eP id;have jt:=((Mod.refl dZ wr).alloc (.cells #[.int .i64 m.kind,.int .i64 m.eF,.int .i64 m.to,.int .i64 m.dk,.int .i64 m.n,.int .i64 m.cmd.kind,.int .i64 m.cmd.tx,.int .i64 m.cmd.time,.slice ua m.cmd.writes.length dp] 112)).trans eP;clear HC q0 q1 q2 q3 q4 q5 q6 q7 q8 ff
    cases hs:rP ds m with
    | true=>
     have HN:=dq (HI.out.skip km.out Pm.out hs jt);go_wp2_with fail;go_roundw
     case rel=>exact ⟨i,j+1,rfl,by go_num,HN.out⟩
     case measure=>simp [intOf];omega
    | false=>
     have HN:=dq (HI.out.keep rI.out km.out Pm.out hs jt);obtain ⟨⟨p0,p1,p2,p3,p4,p5,p6,p7,p8⟩,_⟩:=iM vT;have hex:∀ c,c<9->∃ y,w5.cell? ⟨b,i*9+c,none⟩=some y:=fun c hc=>by
      obtain ⟨y,hy⟩:=bD.1 (vr.out c (by omega));exact ⟨y,jt.cell hy id⟩
     have hfz:∀ c,w5.frozen? ⟨b,c,none⟩=false:=fun c=>(jt.frozen (p:=⟨b,c,none⟩) hbz id).trans (kI.out c);obtain ⟨y0,hy0⟩:=hex 0 (by omega);obtain ⟨y1,hy1⟩:=hex 1 (by omega);obtain ⟨y2,hy2⟩:=hex 2 (by omega);obtain ⟨y3,Wp⟩:=hex 3 (by omega);obtain ⟨y4,Wo⟩:=hex 4 (by omega);obtain ⟨y5,Wn⟩:=hex 5 (by omega);obtain ⟨y6,hy6⟩:=hex 6 (by omega);obtain ⟨y7,hy7⟩:=hex 7 (by omega);obtain ⟨y8,hy8⟩:=hex 8 (by omega);have f0:=hfz (i*9+0);have f1:=hfz (i*9+1);have f2:=hfz (i*9+2);have f3:=hfz (i*9+3);have f4:=hfz (i*9+4);have f5:=hfz (i*9+5);have f6:=hfz (i*9+6);have f7:=hfz (i*9+7);have f8:=hfz (i*9+8);simp only [bG] at hy0 f0;have qx:b≠wr.heap.size:=by omega
     clear hex hfz;go_wp2_with fail;go_roundw
     case rel=>exact ⟨i+1,j+1,by go_num,by go_num,by simpa [World.setCells,ig,Nat.add_assoc] using HN.out⟩
     case measure=>simp [intOf];omega
   ·obtain rfl:j=ms.length:=by omega
    have tu:=dq (hI.done (cap:=cap) nY.out Dj hcap (by unfold maxLen;omega) lR vp.out);have hb3:¬ cap=i:=by omega
    have hb4:i<=cap:=by omega
    have vr:=dq hcell;have kI:Hid (∀ n,n<(ms.length - i)*9->wr.frozen? ⟨b,i*9+n,none⟩=false):=fun n _=>hfro _;clear hI hcell hfro;go_wp2_with (first
     | (refine zVp rfl _ rfl b (i*9) (ms.length - i) _ rfl (by omega) vr.out kI.out ?_)
     | fail)
    go_ret;exact ⟨_,rfl,tu.out.1,rfl,tu.out.2⟩
end Go.Proofs.YtmaiggbnceejiaaGreatDoor
namespace Go.Proofs.YtmaiggbnceejiaaGreatDoor
open Go.RowKit Go.Lib Go.Maps
variable {E:Ext}
def Ef(s:fC)(id:Int):fC:=⟨lu (s.down++[id]) s.way,s.lost+((s.way.length:Int) - ((lu (s.down++[id]) s.way).length:Int)),s.down++[id]⟩
theorem pf.put{w':World}{L:Lo}{b n:Nat}{ds:List Int}{D:DataW Unit}{id:Int}(hd:∀ x,(Lit.int .i64 x).wf=true->Maps.has D (.int .i64 x)=decide (x∈ds))(hD:IsMap D)(hb:L<=b)(hn:n<=ds.length)
  (hid:gO id) (h:w'.ownsMap Tryz.prog 3 unitElem b (n+1) (D.put (.int .i64 id) (.agg []))):pf w' L (some b) (ds++[id]):=by
 refine .inr ⟨b,_,rfl,hb,h.mono (by simp;omega),fun x hx=>?_⟩;by_cases e:x=id
 ·subst e;rw [has_put_same hD (by simp [WideAt.IsKeyLit])];simp
 ·rw [has_put_other (by intro h;cases h;exact e rfl),hd x hx];simp [e]
theorem fO.mapped{w:World}{L:Lo}{g:Nat}{wv:Value}{s:fC}(h:fO E w L g wv none s) :
  fO E ((w.setCell ⟨g,4,none⟩ (.map (some w.heap.size))).alloc (.map #[] 0)) L g wv (some w.heap.size) s/\Mod (mx g wv none) w ((w.setCell ⟨g,4,none⟩ (.map (some w.heap.size))).alloc (.map #[] 0)):=by
 obtain ⟨a1,_,_⟩:=h.apart;have hz:(w.setCell ⟨g,4,none⟩ (.map (some w.heap.size))).heap.size=w.heap.size:=by simp [World.setCell]
 have dh:Mod (eA g) w (w.setCell ⟨g,4,none⟩ (.map (some w.heap.size))):=Mod.dt g 4 _;have hm2:Mod (eA g) w ((w.setCell ⟨g,4,none⟩ (.map (some w.heap.size))).alloc (.map #[] 0)):=dh.alloc _;have hq:Qm w L (eA g):=Qm.mf h (fun k _ e=>.inl e);have kD:=h.low;have hlt:=h.blk.lt;have hd0:s.down=[]:=by
  rcases h.dn with ⟨_,e⟩ | ⟨b,D,e,_⟩
  ·exact e
  ·cases e
 refine ⟨⟨(h.blk.set 4 (.map (some w.heap.size))).mod ((Mod.refl dZ _).alloc _) id,h.low,h.row.mod hm2 hq (fun k hk e=>a1 (by rw [hk,e])),?_,h.few,h.lo,fun k hk=>aH (h.xb k hk) hm2.size⟩,hm2.mono (fun i _ e=>.inl e)⟩;rw [hd0];have:=World.ownsMap_made (H:=Unit) (w.setCell ⟨g,4,none⟩ (.map (some w.heap.size))) Tryz.prog 3 unitElem;rw [hz] at this;exact .inr ⟨w.heap.size,.map [],rfl,by omega,this,fun x _=>by simp [Maps.has]⟩
theorem fO.WN{w w1:World}{L:Lo}{g b:Nat}{wv:Value}{s:fC}{D:DataW Unit}{id:Int}(h:fO E w L g wv (some b) s)(ho:w.ownsMap Tryz.prog 3 unitElem b s.down.length D)(hh:∀ x,(Lit.int .i64 x).wf=true->Maps.has D (.int .i64 x)=decide (x∈s.down))(Dk:L<=b)(hid:gO id)
  (hg:w.grownBy w1 (some b)) (h1:w1.ownsMap Tryz.prog 3 unitElem b (s.down.length+1) (D.put (.int .i64 id) (.agg []))):fO E w1 L g wv (some b) ⟨s.way,s.lost,s.down++[id]⟩/\Mod (fun k=>some b=some k) w w1:=by
 obtain ⟨a1,a2,a3⟩:=h.apart;have hm:Mod (fun k=>some b=some k) w w1:=(Mod.refl _ w).grown hg (fun x hx _=>hx);have hq:Qm w L (fun k=>some b=some k):=Qm.mf h (fun k _ e=>.inr (.inr e));exact ⟨⟨h.blk.mod hm a2,h.low,h.row.mod hm hq (fun k hk e=>a3 k hk e),pf.put hh ho.isMap Dk (aF _) hid h1,h.few,h.lo,fun k hk=>aH (h.xb k hk) hm.size⟩,hm⟩
theorem Mod.WQ{w w1 w2:World}{g b:Nat}{v:Value}{mr:Option Nat}(h:Mod (mx g v mr) w w1)(hb:some b=mr\/w.heap.size<=b)(k:Mod (fun x=>some b=some x) w1 w2):Mod (mx g v mr) w w2:=
 h.trans' k (fun i hi e=>by
  cases e
  rcases hb with e | e
  ·exact .inr (.inr e.symm)
  ·omega)
theorem yTl(L:Lo)(g:Nat)(wv:Value)(mr:Option Nat)(s:fC)(id:Int)(w:World)(h:fO E w L g wv mr s)(hid:gO id)(hds:s.down.length<=1000000)(hlo:s.lost+200<=4611686018427387904) :
  Calls Tryz.prog 105 #[.pointer (some ⟨g,2,none⟩),.int .i64 id] w fun e w'=>∃ iN WT,e=.returned (.int .i64 ((Ef s id).lost - s.lost))/\fO E w' L g iN WT (Ef s id)/\iN.ownBlock=wv.ownBlock/\(WT=mr\/∀ k,WT=some k->w.heap.size<=k)/\Mod (mx g wv mr) w w':=by
 have c2:=h.blk.cell 4 rfl;have f2:=h.blk.frozen 4;have hen:=fun (r:Option Nat) (w:World)=>run_eql_map_nil (P:=Tryz.prog) w 75 _ _ r Tryz.underlying75;have hmm:=@run_makeMap Tryz.prog;have hgl:=h.blk.lt;go_enter Tryz.func105,Tryz.ntmps105;go_upto_if 11 with fail;go_cut [] (fun wc=>∃ b,fO E wc L g wv (some b) s/\(some b=mr\/w.heap.size<=b)/\Mod (mx g wv mr) w wc)
 case first=>
  cases mr with
  | none=>
   have HH:=dq h.mapped;clear h;go_wp2_with fail;go_meet
   case rel=>exact ⟨_,HH.out.1,.inr (aF _),HH.out.2⟩
  | some b=>
   go_wp2_with fail;go_meet
   case rel=>exact ⟨b,h,.inl rfl,Mod.refl _ _⟩
 case rest=>
  obtain ⟨b,hN,kX,hM⟩:=hcut;clear c2 f2 h;have c2:=hN.blk.cell 4 rfl;have oV:=hN.dn;rcases oV with ⟨e,_⟩ | ⟨b',D,e,Dk,hown,hhas⟩
  ·cases e
  cases e
  have hkey:keyOf Tryz.prog 3 (.int .i64 id)=some (.int .i64 id):=keyOf_int_mk Tryz.underlying3 (Lm hid);have HO:=dq hown;have Ja:=dq hhas;have HN:=dq hN;clear hown hhas hN;go_wp2_with (first
   | (at_mapUpdate;refine wpList_mapUpdate_own _ rfl _ _ _ 75 rfl 3 158 zz Tryz.underlying75 unitElem b _ D rfl HO.out (by unfold maxLen;omega) _ _ _ rfl rfl hkey _ [] unitElem_mk ?_)
   | fail)
  intro w1 hown1 hgrow1;have oL:=HN.out.WN HO.out Ja.out Dk hid hgrow1 hown1;have nT:=hM.WQ kX oL.2;obtain ⟨wa,ft,iY⟩:=oL.1.row.slice;subst iY;have c0:=oL.1.blk.cell 2 rfl;have f0:=oL.1.blk.frozen 2;have zH:=dq oL.1;have vM:=oL.1.blk.lt;have Dp:=oL.1.apart;have fR:=oL.1.few;have hl0:=oL.1.lo;have hkl:=yOj (s.down++[id]) s.way;simp only at c0 fR hl0;clear oL hown1 hgrow1 HO Ja HN hM c2;go_upto_region 5 with fail;go_cut [] (fun wc=>∃ iN,fO E wc L g iN (some b) ⟨lu (s.down++[id]) s.way,s.lost,s.down++[id]⟩/\iN.ownBlock=(Value.slice wa s.way.length ft).ownBlock/\Mod (mx g (.slice wa s.way.length ft) (some b)) w1 wc)
  case first=>
   go_region_law
    ((first
     | (go_simp;go_at_call 88;(refine (zWp g _).mono ?_;rintro e w2 ⟨hw2,rfl⟩;have hm2:Mod dZ w1 w2:=(by rw [hw2];exact ((Mod.refl dZ w1).drew).alloc _);have hq2:dg w2 w1.heap.size [.pointer (some ⟨g,2,none⟩)] 147:=(by rw [hw2];exact dg.new w1.drew _ _);clear hw2;have c20:=hm2.cell c0 (fun e=>e);have z2:=hm2.size;try dsimp only))
     | (go_simp;go_at_call 138;(refine (zVu L g w1.heap.size (some b) (s.down++[id]) _ s.way w2 (zH.out.mod hm2 (Qm.none _ _) (fun _ _ e=>e)).row ⟨hq2.cell 0 rfl,(zH.out.mod hm2 (Qm.none _ _) (fun _ _ e=>e)).blk.cell 4 rfl,(zH.out.mod hm2 (Qm.none _ _) (fun _ _ e=>e)).dn⟩ (fun e=>cX _ (zH.out.lt (.inr (.inl e))).2.1) Dp.1 Dp.2.2 fR).mono ?_;rintro e w3 ⟨v3,rfl,zB,hv3,dy⟩;obtain ⟨KX,Ek,Hr⟩:=zB.slice;subst Hr;have c30:=dy.cell c20 Dp.1;have f30:=((dy.frozen (p:=⟨g,2,none⟩) (aH vM z2) Dp.1).trans (hm2.frozen (p:=⟨g,2,none⟩) vM (fun e=>e))).trans f0;try dsimp only))
     | fail))
   all_goals
    have R:=(zH.out.mod hm2 (Qm.none _ _) (fun _ _ e=>e)).Ev dy zB hv3 (by omega);go_wp2_with fail;go_meet
    case rel=>exact ⟨_,R.1,hv3,(hm2.mono (fun _ _ e=>e.elim)).trans R.2⟩
  case rest=>
   obtain ⟨iN,sY,hv4,gR⟩:=hcut;obtain ⟨wb,wbc,iY⟩:=sY.row.slice;subst iY;have x0:=sY.blk.cell 2 rfl;have x1:=sY.blk.cell 3 rfl;have y1:=sY.blk.frozen 3;simp only at x0 x1;have HL:=dq (sY.loses (s.lost+((s.way.length:Int) - ((lu (s.down++[id]) s.way).length:Int))) ⟨by omega,by omega⟩);have sZ:=dq (nT.trans' gR (fun i hi e=>by
    rcases e with e | e | e
    ·exact .inl e
    ·exact .inr (.inl e)
    ·cases e
     rcases kX with e | e
     ·exact .inr (.inr e.symm)
     ·omega))
   have HV4:=dq hv4;clear sY gR nT hv4 c0 f0;go_wp2_with fail;go_ret;refine ⟨?_,?_⟩
   ·simp only [Ef];go_num
   refine ⟨.slice wb (lu (s.down++[id]) s.way).length wbc,some b,?_,HV4.out,?_,?_⟩
   ·simpa [Ef] using HL.out.1
   ·rcases kX with e | e
    ·exact .inl e
    ·exact .inr (fun k hk=>by cases hk;exact e)
   ·simpa using sZ.out.trans' HL.out.2 (fun i hi e=>by
     rcases e with e | e | e
     ·exact .inl e
     ·exact .inr (.inl (by rw [<-HV4.out];exact e))
     ·cases e
      rcases kX with e | e
      ·exact .inr (.inr e.symm)
      ·omega)
end Go.Proofs.YtmaiggbnceejiaaGreatDoor
namespace Go.Proofs.YtmaiggbnceejiaaGreatDoor
structure de where
 tx:Int
 mode:Int
 deriving DecidableEq
def kZ(l:List de):Prop:=l.Pairwise fun a b=>a.tx<b.tx
def gd(l:List de)(t:Int):Nat:=(l.filter fun c=>decide (c.tx<t)).length
theorem Qj(l:List de)(t:Int):gd l t<=l.length:=bB _ _
theorem yBp(v:de)(l:List de)(t:Int):gd (v :: l) t=(if v.tx<t then 1 else 0)+gd l t:=by
 unfold gd;rw [cF];by_cases h:v.tx<t
 ·simp [h];omega
 ·simp [h]
theorem yBo{l:List de}{t:Int}(h:∀ v∈l,t<=v.tx):gd l t=0:=by
 unfold gd;rw [List.length_eq_zero_iff,List.filter_eq_nil_iff];intro v hv;have:=h v hv;simp;omega
theorem zU:∀ {l:List de} (_:kZ l) (t:Int) (k:Nat) (v:de),l[k]?=some v->(k<gd l t↔v.tx<t)
 | [],_,t,k,v,h=>by simp at h
 | x :: l,hr,t,0,v,h=>by
  simp at h;subst h;rw [yBp];by_cases hx:x.tx<t
  ·simp [hx];omega
  ·have:gd l t=0:=yBo (fun y hy=>by have:=cN hr hy;omega);simp [hx,this]
 | x :: l,hr,t,k+1,v,h=>by
  have hv:l[k]?=some v:=by simpa using h
  have ih:=zU (List.Pairwise.of_cons hr) t k v hv;have hx:=cN hr (aC hv);rw [yBp];by_cases h1:x.tx<t
  ·simp only [h1,if_true];rw [<-ih];omega
  ·have:gd l t=0:=yBo (fun y hy=>by have:=cN hr hy;omega);simp only [h1,if_false,this];constructor
   ·intro h;omega
   ·intro h;omega
theorem yNh{l:List de}(hr:kZ l){t:Int}{n:Nat}(hn:n<=l.length)(h1:∀ k v,k<n->l[k]?=some v->v.tx<t)(h2:∀ k v,n<=k->l[k]?=some v->t<=v.tx):gd l t=n:=by
 rcases cI (gd l t) n with h | h | h
 ·obtain ⟨v,hv⟩:∃ v,l[gd l t]?=some v:=⟨_,aA (by omega)⟩;have a:=h1 _ v h hv;have:=(zU hr t _ v hv).2 a;omega
 ·exact h
 ·have hb:=Qj l t;obtain ⟨v,hv⟩:∃ v,l[n]?=some v:=⟨_,aA (by omega)⟩;have a:=(zU hr t _ v hv).1 h;have b:=h2 _ v (aF _) hv;omega
def mJ(l:List de)(t:Int):Bool:=match l[gd l t]? with
 | some c=>decide (c.tx=t)
 | none=>false
def iw(l:List de)(t:Int):Int:=match l[gd l t]? with
 | some c=>if c.tx=t then c.mode else 0
 | none=>0
def jS(l:List de)(c:de):List de:=if mJ l c.tx then l.set (gd l c.tx) c else l.take (gd l c.tx)++c :: l.drop (gd l c.tx)
def kU(a b:de):Bool:=decide (a.tx≠b.tx) && (decide (a.mode=2) || decide (b.mode=2))
def pc(held waits:List de)(c:de):Bool:=!(held.any fun o=>kU o c) && !(waits.any fun o=>decide (o.tx<c.tx) && kU o c)
def EJ(c o:de):Bool:=decide (o.tx<c.tx) || !kU o c
def xO(held:List de)(c:de):List Int:=(held.filter fun o=>!EJ c o).map (·.tx)
def kV(l:List de)(t:Int):List de:=l.filter fun c=>!decide (c.tx=t)
def jO(held kept:List de):List de->List de × List de × List de
 | []=>(held,kept,[])
 | c :: q=>if pc held kept c then ((jO (jS held c) kept q).1,(jO (jS held c) kept q).2.1,c :: (jO (jS held c) kept q).2.2) else jO held (kept++[c]) q
theorem Mk{l:List de}{t:Int}(h:mJ l t=true):∃ c,l[gd l t]?=some c/\c.tx=t:=by
 unfold mJ at h
 cases hc:l[gd l t]? with
 | none=>rw [hc] at h;cases h
 | some c=>rw [hc] at h;exact ⟨c,rfl,by simpa using h⟩
theorem Ve{l:List de}(hr:kZ l){c:de}(hc:c∈l):l[gd l c.tx]?=some c:=by
 obtain ⟨k,hk⟩:=aO hc;have hkl:=(aB.1 hk).1;have:gd l c.tx=k:=yNh hr (by omega) (fun j v hj hv=>by
  have h1:=(zU hr v.tx j v hv);have:=ao.1 hr j k (aB.1 hv).1 hkl hj;rw [(aB.1 hv).2,(aB.1 hk).2] at this;exact this) (fun j v hj hv=>by
  by_cases e:j=k
  ·subst e;rw [hk] at hv;cases hv;exact bR _
  ·have:=ao.1 hr k j hkl (aB.1 hv).1 (by omega);rw [(aB.1 hv).2,(aB.1 hk).2] at this;omega)
 rw [this];exact hk
theorem yOw{l:List de}(hr:kZ l)(t:Int):mJ l t=true↔∃ c∈l,c.tx=t:=by
 constructor
 ·intro h;obtain ⟨c,h1,h2⟩:=Mk h;exact ⟨c,aC h1,h2⟩
 ·rintro ⟨c,h1,rfl⟩;unfold mJ;rw [Ve hr h1];simp
theorem Jn{l:List de}(hr:kZ l){c:de}(hc:c∈l):iw l c.tx=c.mode:=by
 unfold iw;rw [Ve hr hc];simp
theorem yNw{l:List de}{t:Int}(h:∀ c∈l,c.tx≠t):iw l t=0:=by
 unfold iw
 cases hc:l[gd l t]? with
 | none=>rfl
 | some c=>
  have:=h c (aC hc);simp [this]
theorem GN{l:List de}(hr:kZ l)(hm:∀ c∈l,c.mode≠0){t:Int}:iw l t=0↔∀ c∈l,c.tx≠t:=by
 constructor
 ·intro h c hc e;subst e;rw [Jn hr hc] at h;exact hm c hc h
 ·exact yNw
theorem oC{l:List de}(hr:kZ l)(c o:de):o∈jS l c↔o=c\/(o∈l/\o.tx≠c.tx):=by
 unfold jS;split
 ·rename_i h;obtain ⟨d,h1,h2⟩:=Mk h;have hl:=(aB.1 h1).1;rw [List.mem_iff_getElem?];constructor
  ·rintro ⟨k,hk⟩;rw [bq] at hk;split at hk
   ·simp at hk;exact .inl hk.symm
   ·rename_i hne;refine .inr ⟨aC hk,fun e=>hne ?_⟩;have ho:=aC hk;have:=Ve hr ho;rw [e] at this;obtain ⟨k1,k2⟩:=aB.1 hk;obtain ⟨j1,j2⟩:=aB.1 this;rcases cI (gd l c.tx) k with q | q | q
    ·have:=ao.1 hr _ _ j1 k1 q;rw [j2,k2] at this;omega
    ·exact q
    ·have:=ao.1 hr _ _ k1 j1 q;rw [j2,k2] at this;omega
  ·rintro (rfl | ⟨ho,hne⟩)
   ·exact ⟨gd l o.tx,by rw [List.getElem?_set_self hl]⟩
   ·obtain ⟨k,hk⟩:=aO ho;refine ⟨k,?_⟩;rw [List.getElem?_set_ne ?_]
    ·exact hk
    ·rintro rfl;rw [h1] at hk
     cases hk
     exact hne h2
 ·rename_i h;rw [aN,bV];have hno:∀ o∈l,o.tx≠c.tx:=fun o ho e=>h ((yOw hr c.tx).2 ⟨o,ho,e⟩);constructor
  ·rintro (q | rfl | q)
   ·have:=cP q;exact .inr ⟨this,hno o this⟩
   ·exact .inl rfl
   ·have:=cQ q;exact .inr ⟨this,hno o this⟩
  ·rintro (rfl | ⟨q,_⟩)
   ·exact .inr (.inl rfl)
   ·rw [<-aq (gd l c.tx) l,aN] at q;rcases q with q | q
    ·exact .inl q
    ·exact .inr (.inr q)
theorem EU{l:List de}(hr:kZ l)(c:de):kZ (jS l c):=by
 unfold jS;split
 ·rename_i h;obtain ⟨d,h1,h2⟩:=Mk h;obtain ⟨hl,hd⟩:=aB.1 h1;unfold kZ;rw [ao];intro i j hi hj hij;simp only [ag] at hi hj;have:=ao.1 hr i j hi hj hij;rw [List.getElem_set,List.getElem_set];split
  ·rename_i e;subst e;rw [aK (by omega)];rw [hd,h2] at this;exact this
  ·split
   ·rename_i e;subst e;rw [hd,h2] at this;exact this
   ·exact this
 ·rename_i h;have hno:∀ o∈l,o.tx≠c.tx:=fun o ho e=>h ((yOw hr c.tx).2 ⟨o,ho,e⟩);unfold kZ;rw [bg];refine ⟨hr.sublist (List.take_sublist _ _),?_,?_⟩
  ·rw [List.pairwise_cons];refine ⟨fun o ho=>?_,hr.sublist (List.drop_sublist _ _)⟩;obtain ⟨k,hk⟩:=aO ho;rw [cz] at hk;have:=mt (zU hr c.tx _ o hk).2 (by omega);have:=hno o (cQ ho);omega
  ·intro a ha b hb;obtain ⟨k,hk⟩:=aO ha;rw [cy] at hk;split at hk
   ·rename_i hlt;have h1:=(zU hr c.tx k a hk).1 hlt;rcases bV.1 hb with rfl | hb
    ·exact h1
    ·obtain ⟨j,hj⟩:=aO hb;rw [cz] at hj;have:=mt (zU hr c.tx _ b hj).2 (by omega);omega
   ·cases hk
theorem Lu(l:List de)(c:de):(jS l c).length<=l.length+1:=by
 unfold jS;split
 ·simp
 ·have:=Qj l c.tx;simp;omega
theorem pP{l:List de}{t:Int}{o:de}:o∈kV l t↔o∈l/\o.tx≠t:=by
 unfold kV;simp
theorem EX{l:List de}(hr:kZ l)(t:Int):kZ (kV l t):=hr.sublist bj
theorem MF(l:List de)(t:Int):(kV l t).length<=l.length:=bB _ _
theorem UU:∀ (q held kept:List de),kZ held->kZ (kept++q)->kZ (jO held kept q).1/\kZ (jO held kept q).2.1
 | [],held,kept,h1,h2=>⟨h1,by simpa [jO] using h2⟩
 | c :: q,held,kept,h1,h2=>by
  unfold jO;split
  ·exact UU q (jS held c) kept (EU h1 c) (h2.sublist (by simp))
  ·exact UU q held (kept++[c]) h1 (by simpa using h2)
theorem TU:∀ (q held kept:List de),(jO held kept q).1.length<=held.length+q.length/\(jO held kept q).2.1.length<=kept.length+q.length/\(jO held kept q).2.2.length<=q.length
 | [],held,kept=>by simp [jO]
 | c :: q,held,kept=>by
  unfold jO;split
  ·have:=TU q (jS held c) kept;have:=Lu held c;simp only [aW];omega
  ·have:=TU q held (kept++[c]);simp only [aW,aD,az] at *;omega
theorem Bm:∀ (q held kept:List de) (o:de),(o∈(jO held kept q).1->o∈held\/o∈q)/\(o∈(jO held kept q).2.1->o∈kept\/o∈q)/\(o∈(jO held kept q).2.2->o∈q)
 | [],held,kept,o=>by simp [jO]
 | c :: q,held,kept,o=>by
  unfold jO;split
  ·obtain ⟨h1,h2,h3⟩:=Bm q (jS held c) kept o;refine ⟨fun h=>?_,fun h=>?_,fun h=>?_⟩
   ·rcases h1 h with h | h
    ·unfold jS at h;split at h
     ·rcases bQ h with h | h
      ·exact .inl h
      ·exact .inr (by rw [h];simp)
     ·rcases aN.1 h with h | h
      ·exact .inl (cP h)
      ·rcases bV.1 h with h | h
       ·exact .inr (by rw [h];simp)
       ·exact .inl (cQ h)
    ·exact .inr (bS _ h)
   ·exact (h2 h).imp id (bS _)
   ·rcases bV.1 h with h | h
    ·rw [h];simp
    ·exact bS _ (h3 h)
  ·obtain ⟨h1,h2,h3⟩:=Bm q held (kept++[c]) o;refine ⟨fun h=>(h1 h).imp id (bS _),fun h=>?_,fun h=>bS _ (h3 h)⟩;rcases h2 h with h | h
   ·rcases aN.1 h with h | h
    ·exact .inl h
    ·simp at h;exact .inr (by rw [h];simp)
   ·exact .inr (bS _ h)
end Go.Proofs.YtmaiggbnceejiaaGreatDoor
