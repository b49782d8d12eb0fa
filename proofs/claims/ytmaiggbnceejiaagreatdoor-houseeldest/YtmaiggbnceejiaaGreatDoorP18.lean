import Derived.Test.YtmaiggbnceejiaaGreatDoorP17
import Derived.RangeFuncNested
import Derived.RangeFuncBound
import Derived.RangeFuncCalls
import Derived.RangeFuncLeaves
import Derived.Shelf.Abstract
import Derived.OwnWalkIn
import Derived.TacticsInMore
import Derived.LoopNIn
import Derived.LoopIn
set_option linter.unusedVariables false
set_option maxRecDepth 100000
set_option maxHeartbeats 16000000
namespace Go.Proofs.YtmaiggbnceejiaaGreatDoor
open Go.RowKit Go.Lib Go.Maps Go.Shelf
theorem du.MK{w w':World}{n c g:Nat}{y:dX}{s:dW}(h:du w n c g y s){k b:Nat}(hk:k<s.lines.length)(hb:y.gH[k]?=some b){m:Nat}(hm:Mod (eF b) w w')(hB:dh w' b [y.qz b,.int .i64 m] 120) :
  du w' n c g y (rS s k ⟨(s.line k).nodes,m⟩)/\eJ w y w' y:=by
 have own:=h.own;have kV:=aC hb;have hL:=h.line k b _ hb (mL hk);have hq:Qm w (y.lo n) (eF b):=fun z hz e=>by
  simp only [eF] at e;subst e;rintro (e1 | ⟨⟨cur,fr,e1⟩,_⟩)
  ·have h9:=(own.lt z (by rw [(own.line z kV).1];simp)).1;have h8:z<n:=e1;omega
  ·have:=hL.blk;unfold dh at this;rw [this] at e1;simp at e1
 have ht:rM w w' n y (fun t=>t=.line b):=⟨⟨_,hm,hq,fun z hz e=>by
  simp only [eF] at e;subst e;exact ⟨(own.line z kV).1,by rw [(own.line z kV).1];simp⟩⟩⟩
 have hrb:(y.qz b).ownBlock≠some b:=oM hL.row hL.blk (by decide);refine ⟨⟨h.tC ht (by simp),h.vB ht (by simp),h.oW ht (by simp),h.tB ht (by simp),h.qn,h.oV ht (by simp),?_,fun i b' l hb' hl=>?_,h.oU ht (by simp),h.kM,fun i b' t hb' hti=>h.DG ht hb' hti (by simp),own.more hm.size⟩,⟨hm.mono (fun z hz e=>by simp only [eF] at e;subst e;rw [(own.line z kV).1];simp),fun _ _=>rfl⟩,rfl,rfl,rfl,rfl,rfl⟩
 ·show y.gH.length=(s.lines.set k _).length;rw [aa];exact h.iN
 ·have hl':(s.lines.set k ⟨(s.line k).nodes,m⟩)[i]?=some l:=hl;rw [pX] at hl';by_cases e:i=k
  ·subst e;rw [aJ ⟨rfl,hk⟩] at hl';cases hl'
   rw [hb] at hb';cases hb'
   refine ⟨hB,gD hL.row hm (fun z _ _ hz q=>hrb (by rw [hz];exact ae some q)),hL.len,fun j d x hd hx=>h.AF ht hb (aC hd) (hL.node j d x hd hx) (by simp)⟩
  ·rw [aE (fun q=>e q.1)] at hl';have hne:b'≠b:=fun q=>e (FI own.BC (q ▸ hb') hb);exact h.qC ht hb' hl' (fun q=>hne (by simpa using q)) (fun d _=>by simp)
theorem du.sets{w:World}{n c g:Nat}{y:dX}{s:dW}(h:du w n c g y s){id k b ab cap:Nat}(x:Int)(h1:1<=id)(h2:id<=s.dV.length)(hb:y.ja[id - 1]?=some b)(hk:k<(s.tx id).ats.length)(ni:y.jN b=.slice (some ⟨ab,0,none⟩) (s.tx id).ats.length cap) :
  ∃ y',du (w.setCell ⟨ab,k,none⟩ (.int .i64 x)) n c g y' (dY s id { s.tx id with ats:=(s.tx id).ats.set k x })/\eJ w y (w.setCell ⟨ab,k,none⟩ (.int .i64 x)) y':=by
 have hT:=h.tx (id - 1) b _ hb (tk h1 h2);have hrow:=hT.ats;rw [ni] at hrow;obtain ⟨r1,_,_⟩:=QD (x:=x) hrow hk;have r2:Mod (eF ab) w (w.setCell ⟨ab,k,none⟩ (.int .i64 x)):=Mod.dq ab k _;have ji:ab≠b:=fun e=>oM hrow hT.blk (by decide) (by rw [e];rfl);have hne:∀ k,(y.jf b).ownBlock=some k->k≠ab:=fun k hk e=>by
  subst e;obtain ⟨_,_,cur,hc1⟩:=ft hT.wr hk;obtain ⟨_,_,cur',hc2⟩:=ft hrow rfl;rw [hc1] at hc2;simp at hc2
 obtain ⟨jr,hS1⟩:=h.pd hb (tk h1 h2) (t':={ s.tx id with ats:=(s.tx id).ats.set k x }) (av:=y.jN b) (wv:=y.jf b) (r2.mono (fun z _ e=>.inr (.inl (by rw [ni];exact ae some (Eq.symm e))))) (hT.blk.mod r2 (fun e=>ji (Eq.symm e))) (by rw [ni];exact r1) (gD hT.wr r2 (fun k _ _ e q=>hne k e q)) (.inl (.inl rfl)) (.inl (.inl rfl));rw [Ir] at jr;exact ⟨_,jr,hS1,rfl,rfl,rfl,rfl,rfl⟩
theorem du.MM{w:World}{n c g:Nat}{y:dX}{s:dW}(h:du w n c g y s){id b:Nat}(x:Int)(h1:1<=id)(h2:id<=s.dV.length)(hb:y.ja[id - 1]?=some b) :
  ∃ y',du (w.setCell ⟨b,3,none⟩ (.int .i64 x)) n c g y' (dY s id { s.tx id with time:=x })/\eJ w y (w.setCell ⟨b,3,none⟩ (.int .i64 x)) y':=by
 have hT:=h.tx (id - 1) b _ hb (tk h1 h2);have r2:Mod (eF b) w (w.setCell ⟨b,3,none⟩ (.int .i64 x)):=Mod.dq b 3 _;have ji:=oM hT.ats hT.blk (by decide);have yH:=oM hT.wr hT.blk (by decide);obtain ⟨jr,hS1⟩:=h.pd hb (tk h1 h2) (t':={ s.tx id with time:=x }) (av:=y.jN b) (wv:=y.jf b) (r2.mono (fun z _ e=>.inl e)) (hT.blk.set 3 _) (gD hT.ats r2 (fun k _ _ e q=>ji (by rw [e];exact ae some q))) (gD hT.wr r2 (fun k _ _ e q=>yH (by rw [e];exact ae some q))) (.inl (.inl rfl)) (.inl (.inl rfl));rw [Ir] at jr;exact ⟨_,jr,hS1,rfl,rfl,rfl,rfl,rfl⟩
theorem yJm(n c g:Nat)(y:dX)(s:dW)(k:Nat)(cm:dt)(u:Value)(w:World)(h:du w n c g y s)(hs:lY s)(hc:c<=10000)(hk:k<s.lines.length)(ht:1<=cm.tx/\cm.tx<=(s.dV.length:Int)) :
  Calls Tryz.prog 130 #[.pointer (some ⟨g,0,none⟩),.int .i64 k,.agg #[.int .i64 cm.kind,.int .i64 cm.tx,.int .i64 cm.time,u]] w fun e w'=>e=.returned (.tuple #[])/\∃ y',du w' n c g y' (lW s k cm)/\eJ w y w' y':=by
 obtain ⟨kind,tx,time,ws⟩:=cm;dsimp only at ht ⊢;obtain ⟨id,rfl⟩:∃ i:Nat,tx=i:=⟨tx.toNat,by omega⟩;have hi1:1<=id:=by omega
 have hi2:id<=s.dV.length:=by omega
 have htl:=hs.tl;have hll:=hs.ll;obtain ⟨w1,hw1⟩:∃ z,z=w.alloc (.cells #[.int .i64 kind,.int .i64 id,.int .i64 time,u] 65):=⟨_,rfl⟩;have di:Mod dZ w w1:=by rw [hw1];exact (Mod.refl _ w).alloc _
 have hb1:dh w1 w.heap.size [.int .i64 kind,.int .i64 id,.int .i64 time,u] 65:=by rw [hw1];exact dh.new w _ _
 have h1:=h.quiet di;obtain ⟨b,hb,hT⟩:=h1.xA hi1 hi2;have nU:=dU (xw n c g y s id b w1 h1 hi1 (by omega) hb);have vS:=dU (Up n c g y s w1 h1 (by omega) (by omega));have x0:=hb1.cell 0 rfl;have x1:=hb1.cell 1 rfl;have x2:=hb1.cell 2 rfl;have PX:Hid (y.own w.heap.size=.no):=by
  by_cases e:y.own w.heap.size=.no
  ·exact e
  ·have:=(h.own.lt _ e).2;omega
 have mV:=dU hb1;have fg:=dU di;have sM:=dU h1;by_cases hd:k=dk s
 ·have Xr:((k:Int) == (dk s:Int))=true:=by rw [beq_iff_eq];omega
  obtain ⟨y2,mS,hK2⟩:=h1.MM time hi1 hi2 hb;obtain ⟨w2,hw2⟩:∃ z,z=w1.setCell ⟨b,3,none⟩ (.int .i64 time):=⟨_,rfl⟩;rw [<-hw2] at mS hK2;have t3:=hT.blk.cell 3 rfl;have f3:=hT.blk.frozen 3;have zb:=hT.blk.lt;have hb2:=hK2.st.blk hb1 PX.out;have z1:=hb2.cell 1 rfl;have Po:=dU (Tz n c g y2 _ id 3 w2 mS hi1 (by rw [kT];exact hi2) (by rw [kT];exact htl) hc);have IV:Hid (lW s k ⟨kind,id,time,ws⟩=nr (dY s id { s.tx id with time:=time }) id 3):=by unfold Hid lW;rw [aJ hd,aS]
  have HK:=dU ((eJ.quiet di).trans hK2);clear h h1 hb hT hb1 di mS hK2 hb2 hd;go_enter Tryz.func130,Tryz.ntmps130;go_upto_region 1 with fail;rw [<-hw1];clear hw1;go_upto_region 3 with (first
   | (go_at_call 34;refine nU.out.mono ?_;rintro e w5 ⟨rfl,rfl⟩)
   | (go_at_call 109;refine vS.out.mono ?_;rintro e w6 ⟨rfl,rfl⟩)
   | fail)
  go_upto_region 4 with fail;rw [<-hw2];clear hw2 t3 f3 x0 x1 x2;go_wp2_with (first
   | (go_at_call 63;refine Po.out.mono ?_;rintro e w7 ⟨rfl,y7,uz,uJ⟩;(have HF:Hid (∃ y',du w7 n c g y' (lW s k ⟨kind,id,time,ws⟩)/\eJ w y w7 y'):=⟨y7,by rw [IV.out];exact uz,HK.out.trans uJ⟩);clear uz uJ)
   | fail)
  go_end0;exact ⟨rfl,HF.out⟩
 ·have Xr:((k:Int) == (dk s:Int))=false:=by rw [bk];omega
  by_cases hp:kind=2
  ·have hpb:(kind == 2)=true:=by simpa using hp
   have px:(s.tx id).ats.length=s.lines.length:=hs.ta _ (Bm hi1 hi2);obtain ⟨ab,qo,ni⟩:∃ ab qo,y.jN b=.slice (some ⟨ab,0,none⟩) (s.tx id).ats.length qo:=by
    rcases hT.ats.2 with ⟨e,h0⟩ | ⟨g',cap',cur,e,_⟩
    ·omega
    ·exact ⟨g',cap',e⟩
   have hkl:k<(s.tx id).ats.length:=by omega
   obtain ⟨y2,mS,hK2⟩:=h1.sets 2 hi1 hi2 hb hkl ni;have t1:=hT.blk.cell 1 rfl;have hrow:=hT.ats;rw [ni] at t1 hrow;obtain ⟨_,⟨u0,a0⟩,f0⟩:=QD (x:=2) hrow hkl;have zb:=hT.blk.lt;have HF:Hid (∃ y',du (w1.setCell ⟨ab,k,none⟩ (.int .i64 2)) n c g y' (lW s k ⟨kind,id,time,ws⟩)/\eJ w y (w1.setCell ⟨ab,k,none⟩ (.int .i64 2)) y'):=by
    refine ⟨y2,?_,(eJ.quiet di).trans hK2⟩;unfold lW;rw [aE hd,aJ hp,aS];exact mS
   have wA:(k:Int)<((s.tx id).ats.length:Int):=by omega
   have qT:(0:Int)<=(k:Int):=by omega
   clear h h1 hb hT hb1 di mS hK2 hd hp ni hrow px;go_enter Tryz.func130,Tryz.ntmps130;go_upto_region 1 with fail;rw [<-hw1];clear hw1;go_wp2_with (first
    | (go_at_call 34;refine nU.out.mono ?_;rintro e w5 ⟨rfl,rfl⟩)
    | (go_at_call 109;refine vS.out.mono ?_;rintro e w6 ⟨rfl,rfl⟩)
    | fail)
   go_end0;exact ⟨rfl,HF.out⟩
  ·have hpb:(kind == 2)=false:=by simpa using hp
   have HF:Hid (∃ y',du w1 n c g y' (lW s k ⟨kind,id,time,ws⟩)/\eJ w y w1 y'):=by
    refine ⟨y,?_,eJ.quiet di⟩;unfold lW;rw [aE hd,aE hp];exact h1
   clear h h1 hb hT hb1 di hd hp;go_enter Tryz.func130,Tryz.ntmps130;go_upto_region 1 with fail;rw [<-hw1];clear hw1;go_wp2_with (first
    | (go_at_call 34;refine nU.out.mono ?_;rintro e w5 ⟨rfl,rfl⟩)
    | (go_at_call 109;refine vS.out.mono ?_;rintro e w6 ⟨rfl,rfl⟩)
    | fail)
   go_end0;exact ⟨rfl,HF.out⟩
structure sO(s s':dW):Prop where
 ll:s'.lines.length=s.lines.length
 nodes:∀ k,(s'.line k).nodes=(s.line k).nodes
 d:s'.dead=s.dead
 net:s'.net=s.net
 len:s'.dV.length=s.dV.length
 at_:∀ j,(s'.tx j).ats.length=(s.tx j).ats.length
theorem sO.refl(s:dW):sO s s:=⟨rfl,fun _=>rfl,rfl,rfl,rfl,fun _=>rfl⟩
theorem sO.trans{a b c:dW}(h:sO a b)(k:sO b c):sO a c:=⟨k.ll.trans h.ll,fun i=>(k.nodes i).trans (h.nodes i),k.d.trans h.d,k.net.trans h.net,k.len.trans h.len,fun j=>(k.at_ j).trans (h.at_ j)⟩
theorem gB.toN{s s':dW}(h:gB s s'):sO s s':=⟨by rw [h.l],fun k=>by unfold dW.line;rw [h.l],h.d,h.net,h.len,h.at_⟩
theorem gB.follow(s:dW)(k:Nat)(c:dt):gB s (lW s k c):=by
 unfold lW;split
 ·exact (gB.dY s c.tx.toNat { s.tx c.tx.toNat with time:=c.time } rfl).trans (gB.finish _ _ _)
 ·split
  ·exact gB.dY s _ _ (by simp)
  ·exact gB.refl s
theorem zZp(s:dW)(k:Nat)(c:dt)(h:∀ t∈s.dV,t.writes.length<=20):∀ t∈(lW s k c).dV,t.writes.length<=20:=by
 unfold lW;split
 ·exact zQf _ _ _ (JL s _ _ h (FM h _))
 ·split
  ·exact JL s _ _ h (FM h _)
  ·exact h
theorem LY(s:dW)(k:Nat)(l:ik)(i:Nat)(hk:k<s.lines.length):(rS s k l).line i=if i=k then l else s.line i:=by
 unfold dW.line rS;rw [aH,pX];by_cases e:i=k
 ·subst e;rw [aJ ⟨rfl,hk⟩,aJ rfl];rfl
 ·rw [aE (fun q=>e q.1),aE e,aH]
theorem Qr(s:dW)(k:Nat)(c:dt)(hk:k<s.lines.length):sO s (lk k s c):=by
 have h1:=(gB.follow s k c).toN;have hk1:k<(lW s k c).lines.length:=by rw [h1.ll];exact hk
 refine h1.trans ⟨by simp [lk,rS],fun i=>?_,rfl,rfl,rfl,fun _=>rfl⟩;show ((rS (lW s k c) k _).line i).nodes=_;rw [LY _ _ _ _ hk1];by_cases e:i=k
 ·rw [aJ e,e]
 ·rw [aE e]
theorem Ub(k:Nat):∀ (cs:List dt) (s:dW),k<s.lines.length->sO s (cs.foldl (lk k) s)
 | [],s,_=>sO.refl s
 | c :: cs,s,hk=>(Qr s k c hk).trans (Ub k cs _ (by rw [(Qr s k c hk).ll];exact hk))
theorem Uj(k:Nat):∀ (cs:List dt) (s:dW),(∀ t∈s.dV,t.writes.length<=20)->∀ t∈(cs.foldl (lk k) s).dV,t.writes.length<=20
 | [],_,h=>h
 | c :: cs,s,h=>Uj k cs _ (zZp s k c h)
theorem sO.shape{s s':dW}(h:sO s s')(hs:lY s)(hw:∀ t∈s'.dV,t.writes.length<=20):lY s':=by
 refine ⟨by rw [h.ll];exact hs.ll,fun l hl=>?_,by rw [h.len];exact hs.tl,fun t ht=>?_,hw⟩
 ·obtain ⟨i,hi⟩:=aN hl;have hil:i<s'.lines.length:=(aB.1 hi).1;have e1:s'.line i=l:=by
   have:=mL hil;rw [hi] at this;exact (ax this).symm
  have:=h.nodes i;rw [e1] at this;rw [this];exact hs.nl _ (Im (by rw [h.ll] at hil;exact hil))
 ·obtain ⟨i,hi⟩:=aN ht;have hil:i<s'.dV.length:=(aB.1 hi).1;have e1:s'.tx (i+1)=t:=by
   have:=tk (s:=s') (id:=i+1) (by omega) (by omega);rw [bZ,hi] at this;exact (ax this).symm
  have:=h.at_ (i+1);rw [e1] at this;rw [this,h.ll];exact hs.ta _ (Bm (by omega) (by rw [h.len] at hil;omega))
def nn(s:dW)(m:Nat):dW:=(List.range m).foldl gX s
theorem Lm(s:dW)(m:Nat):nn s (m+1)=gX (nn s m) m:=by unfold nn;rw [aY,aX];rfl
theorem Qp(k:Nat):∀ (cs:List dt) (s:dW),k<s.lines.length->∀ i,((cs.foldl (lk k) s).line i).heard=if i=k then (s.line k).heard+cs.length else (s.line i).heard
 | [],s,_,i=>by
  by_cases e:i=k
  ·subst e;simp
  ·simp [e]
 | c :: cs,s,hk,i=>by
  have h1:=Qr s k c hk;have hf:=gB.follow s k c;have hk1:k<(lW s k c).lines.length:=by rw [hf.l];exact hk
  have hl:∀ j,(lk k s c).line j=if j=k then ⟨((lW s k c).line k).nodes,((lW s k c).line k).heard+1⟩ else (lW s k c).line j:=fun j=>LY _ _ _ _ hk1
  have hfl:∀ j,(lW s k c).line j=s.line j:=fun j=>by unfold dW.line;rw [hf.l]
  rw [cM,Qp k cs _ (by rw [h1.ll];exact hk),hl,hl];by_cases e:i=k
  ·rw [aJ e,aJ e,aJ rfl,hfl];simp;omega
  ·rw [aE e,aE e,aE e,hfl]
theorem Ua(s:dW):∀ m,m<=s.lines.length->sO s (nn s m)/\(∀ i,m<=i->((nn s m).line i).heard=(s.line i).heard)/\((∀ t∈s.dV,t.writes.length<=20)->∀ t∈(nn s m).dV,t.writes.length<=20)
 | 0,_=>⟨sO.refl s,fun _ _=>rfl,fun h=>h⟩
 | m+1,hm=>by
  obtain ⟨h1,h2,h3⟩:=Ua s m (by omega);have hk:m<(nn s m).lines.length:=by rw [h1.ll];omega
  rw [Lm];refine ⟨h1.trans (Ub m _ _ hk),fun i hi=>?_,fun h=>Uj m _ _ (h3 h)⟩;unfold gX;rw [Qp m _ _ hk,aE (by omega)];exact h2 i (by omega)
theorem yIx{s:dW}{m:Nat}(hm:m<=s.lines.length):kX (nn s m) m=kX s m:=by
 obtain ⟨h1,h2,_⟩:=Ua s m hm;unfold kX pE;rw [h1.nodes,h2 m (aF _)]
def ySq(s:dW):Prop:=∀ k,k<s.lines.length->(s.line k).heard<=(pE s k).log.length/\∀ c∈kX s k,1<=c.tx/\c.tx<=(s.dV.length:Int)
def vG(s:dW)(m:Nat):Bool:=(List.range m).any fun k=>!(kX s k).isEmpty
theorem yOu(s:dW)(m:Nat):vG s (m+1)=(vG s m || !(kX s m).isEmpty):=by unfold vG;rw [aY,List.any_append];simp
theorem tX.at{w:World}{a:Option Addr}{m cap:Nat}{cs:List dt}(h:tX w (.slice a m cap) cs){i:Nat}{d:dt}(hi:cs[i]?=some d):∃ b off ua um uc,a=some ⟨b,off,none⟩/\w.cell? ⟨b,off+i*4,none⟩=some (.int .i64 d.kind)/\w.cell? ⟨b,off+i*4+1,none⟩=some (.int .i64 d.tx)/\w.cell? ⟨b,off+i*4+2,none⟩=some (.int .i64 d.time)/\w.cell? ⟨b,off+i*4+3,none⟩=some (.slice ua um uc):=by
 obtain ⟨us,h1,h2⟩:=h;have hil:i<us.length:=by have:=(aB.1 hi).1;omega
 have hz:(cs.zip us)[i]?=some (d,us[i]):=by
  rw [List.getElem?_zip_eq_some];exact ⟨hi,aA hil⟩
 obtain ⟨b,off,l,e1,_,e3,_,e5⟩:=gG.at h2 hz;unfold Dq at e3;subst e3;have q0:=e5 0 _ rfl;simp only [bC] at q0;obtain ⟨ua,um,uc,hu⟩:=h1.2 us[i] (dA hil);have q3:=e5 3 _ rfl;dsimp only at q3;rw [hu] at q3;exact ⟨b,off,ua,um,uc,e1,q0,e5 1 _ rfl,e5 2 _ rfl,q3⟩
def JP(w:World)(y:dX)(v:Value)(cs:List dt):Prop:=tX w v cs/\(cs=[]\/∀ k,v.ownBlock=some k->y.own k=.no/\k<w.heap.size)
theorem JP.keep{w w':World}{y y':dX}{v:Value}{cs:List dt}(h:JP w y v cs)(k:iD w y w' y'):JP w' y' v cs:=by
 rcases h.2 with e | hq
 ·subst e;obtain ⟨us,h1,a,cap,h2,h3,h4,_⟩:=h.1;exact ⟨⟨us,h1,a,cap,h2,h3,h4,.inl (by simp)⟩,.inl rfl⟩
 ·exact ⟨h.1.mod k.md (fun z hz e=>e (hq z hz).1),.inr (fun z hz=>⟨by rw [k.old z (hq z hz).2];exact (hq z hz).1,aG (hq z hz).2 k.size⟩)⟩
theorem yJj(k:Nat)(s:dW)(cs:List dt)(c:dt):(cs++[c]).foldl (lk k) s=lk k (cs.foldl (lk k) s) c:=by rw [aX];rfl
theorem yQ.yl{w:World}{n b:Nat}{y:dX}{l:ik}(h:yQ w n y b l)(hne:0<l.nodes.length):(l.nodes.getLastD Ds).log.length<=500:=by
 obtain ⟨d,hd,t,ht,hN⟩:=h.vp (j:=l.nodes.length - 1) (by omega);have htl:l.nodes.getLastD Ds=t:=by
  rw [CB _ _ hne];have:=aA (show l.nodes.length - 1<l.nodes.length by omega);rw [ht] at this;exact (ax this).symm
 rw [htl];exact hN.few.2
theorem yQz(n c g:Nat)(y:dX)(s:dW)(w:World)(h:du w n c g y s)(hs:lY s)(hc:c<=10000)(hn:ySq s) :
  Calls Tryz.prog 82 #[.pointer (some ⟨g,0,none⟩)] w fun e w'=>e=.returned (.bool (qO s))/\∃ y',du w' n c g y' (oI s)/\eJ w y w' y':=by
 obtain ⟨c0,-⟩:=kA h.blk;obtain ⟨la,fG,hlv⟩:=fJ h.fm;have hll:=hs.ll;have hlen:=h.iN;rw [hlv,hlen] at c0;have Bd:Hid (y.lv=.slice la s.lines.length fG):=by unfold Hid;rw [hlv,hlen]
 have HH:=dU h;have HS:=dU hs;have HN:=dU hn;clear h hs hn hlv;go_enter Tryz.func82,Tryz.ntmps82;go_wp2_with fail;go_loopw [3,13] (fun f k0 wr=>∃ (k:Nat) (yr:dX),k<=s.lines.length/\k0=.int .i64 k/\f=.bool (vG s k)/\du wr n c g yr (nn s k)/\eJ w y wr yr) (fun _ k0 _=>s.lines.length - (intOf k0).toNat)
 case atStart=>exact ⟨0,y,aV _,rfl,rfl,HH.out,eJ.refl _ _⟩
 case round=>
  obtain ⟨k,yr,hkl,rfl,rfl,hH,hK⟩:=hrel;obtain ⟨wo,hwo⟩:∃ x,x=wr:=⟨_,rfl⟩;subst hwo;by_cases hlt:k<s.lines.length
  ·obtain ⟨hsm,BN,hwr⟩:=Ua s k hkl;have hk':k<(nn s k).lines.length:=by rw [hsm.ll];exact hlt
   have hsh:=hsm.shape HS.out (hwr HS.out.tw);obtain ⟨b,hb,hL⟩:=hH.nI hk';obtain ⟨lg,cap',hv,cl⟩:=vf hH.fm hb;have EX:la=some ⟨lg,0,none⟩:=by
    have e:=hK.lv;rw [hv,Bd.out] at e;simp only [Value.slice.injEq] at e;exact e.1.symm
   subst EX;have hnl:=hsh.nl _ (Im hk');have yH:=yIx hkl;have Cd:=HN.out k hlt;have htl:((nn s k).line k).nodes.getLastD Ds=pE s k:=by unfold pE;rw [hsm.nodes];rfl
   have Re:((nn s k).line k).heard=(s.line k).heard:=BN k (aF _);have BQ:=hL.yl (by omega);rw [htl] at BQ;have IG:=dU (yQf n b yr ((nn s k).line k) wo hL (by omega) (by omega) (by rw [htl,Re];exact Cd.1));rw [show (((nn s k).line k).nodes.getLastD Ds).log.drop ((nn s k).line k).heard=kX s k by rw [htl,Re];rfl] at IG;have hcl:(s.line k).heard+(kX s k).length<=500:=by
    have:(kX s k).length=(pE s k).log.length - (s.line k).heard:=by unfold kX;rw [bJ]
    omega
   have nU:=dU Cd.2;have wA:(k:Int)<(s.lines.length:Int):=by omega
   have qT:(0:Int)<=(k:Int):=by omega
   have jG:=dU hH;have nj:=dU hK;have HB:=dU hb;have wJ:=dU hsh;have wL:=dU Re;have FC:=dU (yOu s k);have kg:Hid (nn s (k+1)=(kX s k).foldl (lk k) (nn s k)):=by unfold Hid;rw [Lm];unfold gX;rw [yH]
   have AV:=dU hk';have HTN:Hid ((nn s k).dV.length=s.dV.length):=hsm.len;clear hH hK hL hb hv hsm BN hwr hsh yH Cd htl Re BQ hnl hk';generalize kX s k=cs at IG hcl nU FC kg;generalize nn s k=S at jG wJ wL kg AV HTN;go_upto_region 5 with fail;go_wp2_with fail;refine IG.out.mono ?_;rintro e w2 ⟨v,rfl,hv2,hf2,hm2⟩;have xQ:JP w2 yr v cs:=by
    refine ⟨hv2,?_⟩;obtain ⟨us,hu,a',cap2,e1,_,_,e4⟩:=hv2;rcases e4 with e4 | ⟨b',off',e5,e6,_⟩
    ·left;have hz:(cs.zip us).length=cs.length:=by rw [bz];omega
     rw [e4] at hz;exact aT hz.symm
    ·right;intro z hz;have hz2:=hf2 z hz;refine ⟨?_,?_⟩
     ·by_cases e:yr.own z=.no
      ·exact e
      ·have:=(jG.out.own.lt z e).2;omega
     ·rw [e1,e5] at hz;simp [Value.ownBlock] at hz;subst hz;exact e6
   have hvs:∃ va vc,v=.slice va cs.length vc:=by
    obtain ⟨us,hu,a',cap2,e1,_⟩:=hv2;refine ⟨a',cap2,?_⟩;rw [e1,bz,hu.1,Nat.min_self]
   obtain ⟨va,vc,lI⟩:=hvs;subst lI;have LF:=dU xQ;have lU:=dU (jG.out.quiet hm2);have wK:=dU (nj.out.trans (eJ.quiet hm2));clear hv2 hf2 hm2 xQ jG nj IG;go_wp2_with fail;go_loopw [3,21] (fun f j0 wi=>∃ (j:Nat) (yi:dX),j<=cs.length/\j0=.int .i64 j/\f=.bool (vG s k || decide (0<j))/\du wi n c g yi ((cs.take j).foldl (lk k) S)/\eJ w y wi yi/\eJ w2 yr wi yi) (fun _ j0 _=>cs.length - (intOf j0).toNat)
   case atStart=>exact ⟨0,yr,aV _,rfl,by simp,lU.out,wK.out,eJ.refl _ _⟩
   case round=>
    obtain ⟨j,yi,hjl,rfl,rfl,kP,rn,sy⟩:=hrel;by_cases rj:j<cs.length
    ·obtain ⟨d,hd⟩:∃ d,cs[j]?=some d:=⟨_,aA rj⟩;obtain ⟨cb,coff,ua,um,uc,OA,q0,q1,q2,q3⟩:=tX.at (LF.out.keep sy.st).1 hd;subst OA;obtain ⟨hx1,hx2⟩:=nU.out d (aC hd);obtain ⟨T,hT⟩:∃ T,T=(cs.take j).foldl (lk k) S:=⟨_,rfl⟩;have hTs:sO S T:=by rw [hT];exact Ub k _ S AV.out
     have hTw:∀ t∈T.dV,t.writes.length<=20:=by rw [hT];exact Uj k _ S wJ.out.tw
     have hTh:(T.line k).heard=(s.line k).heard+j:=by
      rw [hT,Qp k _ S AV.out,aJ rfl,wL.out,aZ];omega
     rw [<-hT] at kP;have OF:=hTs.shape wJ.out hTw;have hTk:k<T.lines.length:=by rw [hTs.ll];exact AV.out
     have IF:Hid ((cs.take (j+1)).foldl (lk k) S=lk k T d):=by unfold Hid;rw [qP hd,yJj,hT]
     obtain ⟨kind,tx,time,JY⟩:=d;dsimp only at q0 q1 q2 hx1 hx2;obtain ⟨w3,hw3⟩:∃ z,z=wr.alloc (.cells #[.int .i64 kind,.int .i64 tx,.int .i64 time,.slice ua um uc] 65):=⟨_,rfl⟩;have dz:Mod dZ wr w3:=by rw [hw3];exact (Mod.refl _ wr).alloc _
     have hb3:dh w3 wr.heap.size [.int .i64 kind,.int .i64 tx,.int .i64 time,.slice ua um uc] 65:=by rw [hw3];exact dh.new wr _ _
     have x0:=hb3.cell 0 rfl;have x1:=hb3.cell 1 rfl;have x2:=hb3.cell 2 rfl;have x3:=hb3.cell 3 rfl;have IV:=dU (yJm n c g yi T k ⟨kind,tx,time,JY⟩ (.slice ua um uc) w3 (kP.quiet dz) OF hc hTk ⟨hx1,by rw [hTs.len,HTN.out];exact hx2⟩);have tV:=dU (rn.trans (eJ.quiet dz));have Eu:=dU (sy.trans (eJ.quiet dz));have Ni:(j:Int)<(cs.length:Int):=by omega
     have RZ:(0:Int)<=(j:Int):=by omega
     have oY:=dU hTs;have hTf:=gB.follow T k ⟨kind,tx,time,JY⟩;have HTF:=dU hTf;have hzb:cb<wr.heap.size:=World.block_lt_of_cell? wr _ q0;clear kP rn sy hd hT hTw OF hb3 hTf hTs;go_upto_region 8 with fail;rw [<-hw3];clear hw3 q0 q1 q2 q3;go_wp2_with fail;refine IV.out.mono ?_;rintro e w4 ⟨rfl,y4,pQ,hK4⟩;have hk4:k<(lW T k ⟨kind,tx,time,JY⟩).lines.length:=by rw [HTF.out.l];exact hTk
     have hb4:y4.gH[k]?=some b:=by rw [hK4.l,Eu.out.l];exact HB.out
     have hL4:=pQ.line k b _ hb4 (mL hk4);have Xi:((lW T k ⟨kind,tx,time,JY⟩).line k).heard=(s.line k).heard+j:=by
      rw [<-hTh];unfold dW.line;rw [HTF.out.l]
     have l1:=hL4.blk.cell 1 rfl;have f1:=hL4.blk.frozen 1;have zl:=hL4.blk.lt;obtain ⟨w5,rE⟩:∃ z,z=w4.setCell ⟨b,1,none⟩ (.int .i64 (((lW T k ⟨kind,tx,time,JY⟩).line k).heard+1:Nat)):=⟨_,rfl⟩;have eu:Mod (eF b) w4 w5:=by rw [rE];exact Mod.dq b 1 _
     have AD:dh w5 b [y4.qz b,.int .i64 (((lW T k ⟨kind,tx,time,JY⟩).line k).heard+1:Nat)] 120:=by rw [rE];exact hL4.blk.set 1 _
     obtain ⟨kt,ox⟩:=pQ.MK hk4 hb4 eu AD;have HF:Hid (du w5 n c g y4 ((cs.take (j+1)).foldl (lk k) S)/\eJ w y w5 y4/\eJ w2 yr w5 y4):=by
      unfold Hid;rw [IF.out];exact ⟨kt,(tV.out.trans hK4).trans ox,(Eu.out.trans hK4).trans ox⟩
     rw [Xi] at l1 rE;have Ml:w5=w4.setCell ⟨b,1,none⟩ (.int .i64 (((s.line k).heard:Int)+(j:Int)+1)):=by rw [rE];congr 2
     have Mc:w4.cell? ⟨b,1,none⟩=some (.int .i64 (((s.line k).heard:Int)+(j:Int))):=by rw [l1];congr 2
     clear pQ hK4 hL4 eu AD kt ox l1 rE IV;go_upto_region 10 with fail;rw [<-Ml];clear Ml Mc f1;go_wp2_with fail;go_roundw
     case rel=>exact ⟨j+1,y4,by omega,by go_num,by simp,HF.out.1,HF.out.2.1,HF.out.2.2⟩
     case measure=>simp [intOf];omega
    ·obtain rfl:j=cs.length:=by omega
     rw [bI] at kP;have HF:Hid (du wr n c g yi (nn s (k+1))/\eJ w y wr yi):=⟨by rw [kg.out];exact kP,rn⟩;have Be:Hid (vG s (k+1)=(vG s k || decide (0<cs.length))):=by
      unfold Hid;rw [FC.out];congr 1
      cases cs <;> simp
     clear kP rn sy LF;go_wp2_with fail;go_roundw
     case rel=>exact ⟨k+1,yi,by omega,by go_num,by rw [Be.out],HF.out.1,HF.out.2⟩
     case measure=>simp [intOf];omega
  ·obtain rfl:k=s.lines.length:=by omega
   have HF:Hid (∃ y',du wo n c g y' (oI s)/\eJ w y wo y'):=⟨yr,hH,hK⟩;clear hH hK;go_wp2_with fail;go_ret;exact ⟨rfl,HF.out⟩
theorem zXk(x:Int):∀ l:List Int,decide (MS (rQ x l) ≥ 0)=decide (x∈l)
 | []=>rfl
 | a :: l=>by
  have ih:=zXk x l;unfold rQ;by_cases h:x=a
  ·rw [aJ h];subst h;simp [MS]
  ·rw [aE h];have e:decide (x∈a :: l)=decide (x∈l):=by simp [h]
   rw [e,<-ih]
   cases rQ x l with
   | none=>rfl
   | some k=>simp [MS];omega
theorem zQi(v:Value)(ns:List Int)(x:Int)(w:World)(hv:mz w v ns) :
  Calls Tryz.prog 76 #[v,.int .i64 x] w fun e w'=>e=.returned (.bool (decide (x∈ns)))/\w'=w:=by
 have HI:=dU (zXe v ns x w hv);obtain ⟨a,cap,rfl,hc1,hc2,hcl⟩:=hv;have HM:=dU (zXk x ns);clear hcl;go_enter Tryz.func76,Tryz.ntmps76;go_wp2_with fail;refine HI.out.mono ?_;rintro e w1 ⟨rfl,rfl⟩;go_wp2_with fail;go_ret;exact ⟨by rw [<-HM.out];rfl,rfl⟩
theorem yLz(n b:Nat)(y:dX)(t:jO)(w:World)(h:tJ w n y b t) :
  Calls Tryz.prog 124 #[.pointer (some ⟨b,0,none⟩)] w fun e w'=>e=.returned (.bool (tj t))/\w'=w:=by
 have HC:=dU (zQi (y.jN b) t.ats 1 w (mz.iY h.ats));have c1:=h.blk.cell 1 rfl;obtain ⟨a,cap,hv⟩:=fJ h.ats;rw [hv] at c1 HC;clear h hv;have HR:Hid (tj t=!decide ((1:Int)∈t.ats)):=rfl
 cases hd:decide ((1:Int)∈t.ats)
 all_goals
  rw [hd] at HC HR;go_enter Tryz.func124,Tryz.ntmps124;go_wp2_with fail;refine HC.out.mono ?_;rintro e w1 ⟨rfl,rfl⟩;go_wp2_with fail;go_ret;exact ⟨by rw [HR.out];rfl,rfl⟩
theorem Mod.putObj{G:Nat->Prop}{a w:World}(h:Mod G a w){r:Nat}(hr:r<a.heap.size->G r)(o:Obj):Mod G a (w.putObj r o):=
 ⟨h.os,h.tape,h.output,by simpa using h.size,fun k hk hG=>by rw [World.putObj_heap_other (fun e=>hG (by subst e;exact hr hk))];exact h.block k hk hG⟩
def xl{β:Type}(N:Nat)(J:β->World->Prop):Prop:=∀ s A B,Mod (jU N) A B->N<=A.heap.size->J s A->J s B
def VE{α:Type}(m:Nat)(P:Program)(l:Nat)(mC:α->Array Value)(X:Nat->Prop)(xs:List α)(J:List α->World->Prop)(Jx:World->Prop):Prop:=
 ∀ pre x rest A,xs=pre++x :: rest->J pre A->YieldAt Fence.wide m P l (mC x) A fun e B=>Mod X A B/\((e=.returned (.bool true)/\J (pre++[x]) B)\/(e=.returned (.bool false)/\Jx B))
def Iter{α:Type}(n:Nat)(P:Program)(g:Nat)(lb:Array Value)(mC:α->Array Value)(R:Nat->Prop)(xs:List α)(w:World):Prop:=
 ∀ (l:Nat) (X:Nat->Prop) (J:List α->World->Prop) (Jx:World->Prop) (W:World),Mod dZ w W->(∀ k,X k->k<W.heap.size/\¬ R k) ->
  xl W.heap.size J->xl W.heap.size (fun (_:Unit)=>Jx)->VE (n - 1) P l mC X xs J Jx->J [] W ->
  CallsIn Fence.wide n P g (#[.func (.yield l) #[] #[]]++lb) W fun e B=>(∃ v,e=.returned v)/\Mod X W B/\(J xs B\/Jx B)
def VL{α:Type}(X:Nat->Prop)(I:List α->World->Prop)(Ix:Code->World->Prop)(xs:List α)(W:World):Exit->Act->World->Prop
 | .normal,_,B=>Mod X W B/\I xs B
 | .ret,_,B=>Mod X W B/\Ix .ret B
 | .exit id,_,B=>Mod X W B/\Ix (.exit id) B
 | .goto t,_,B=>Mod X W B/\Ix (.goto t) B
 | .panic _,_,_=>False
 | .outgrown,_,_=>False
theorem yBa{α:Type}{F:Fence}{n:Nat}{P:Program}{g:Operand}{ps:Array Tmp}{assign body:Code}{Q:Exit->Act->World->Prop}{a:Act}{w:World}
  (hfn:F.fn=fun _=>True) (Xp:F.depth=none) (hal:F.alive=false)
  {l:Nat} {d:Nat} {mark:List Deferred} {lay:Obj->World} (hen:∀ fn,(Instr.enterLoop fn a.tmps ps assign body F.round).run P w=.ok (l,mark) (lay (.loop { state:=.ready,pending:=none,fn,tmps:=a.tmps,params:=ps,assign,body,defers:=d })))
  (XY:∀ o,Mod dZ w (lay o)/\(lay o).heap[l]?=some o) (hl:w.heap.size<=l)
  {gf:Nat} {lb:Array Value} (hg:a.eval g=.func (.func gf) #[] lb) (eg:∀ args w,(callFunc gf args).run P w=.ok (.enter gf args) w)
  {mC:α->Array Value} {R:Nat->Prop} {xs:List α} (hit:Iter (n - 1) P gf lb mC R xs w) (hps:∀ x,(mC x).size=ps.size)
  (X:Nat->Prop) (hX:∀ k,X k->k<w.heap.size/\¬ R k) (hR:∀ k,R k->k<w.heap.size)
  (I:List α->World->Prop) (Ix:Code->World->Prop) (hI:xl w.heap.size I) (KE:xl w.heap.size Ix) (h0:I [] w)
  (pn:∀ (pre:List α) (x:α) (rest:List α) (W:World),xs=pre++x :: rest->I pre W->l<W.heap.size ->
   assign.wpIn (Fence.wide.inRound l) (n - 1 - 1) P (Exit.then (fun a' Wa=>Mod dZ W Wa/\∀ Wb,Mod (eF l) Wa Wb->(∃ r,Wb.heap[l]?=some (.loop r))->I pre Wb->body.wpIn (Fence.wide.inRound l) (n - 1 - 1) P (VL X I Ix (pre++[x]) Wb) a' Wb) (fun _ _ _=>False))
    { tmps:=(ps.zip (mC x)).foldl (fun t (p,v)=>t.setIfInBounds p v) a.tmps,defers:=[] } W)
  (hdone:∀ W o,Mod (fun k=>X k\/k=l) (lay o) W->I xs W->Q .normal { a with defers:=mark++a.defers } W)
  (se:∀ c W o,Mod (fun k=>X k\/k=l) (lay o) W->Ix c W->c.wpIn F n P Q { a with defers:=mark++a.defers } W) :
  (Code.rangeFunc g ps assign body).wpIn F n P Q a w:=by
 obtain ⟨ffn,fdp,fal,fro⟩:=F;dsimp only at hfn Xp hal;subst hfn Xp hal;refine wpIn_rangeFunc ?_;intro fn _;obtain ⟨rec,hrec⟩:∃ rec:LoopState->Option Code->Loop,rec=fun st pe=>{ state:=st,pending:=pe,fn,tmps:=a.tmps,params:=ps,assign,body,defers:=d }:=⟨_,rfl⟩;obtain ⟨di,KC⟩:=XY (.loop (rec .ready none));have hne:=hen fn;obtain ⟨W1,hW1⟩:∃ z,z=lay (.loop (rec .ready none)):=⟨_,rfl⟩;rw [<-hW1] at di KC;have ou:(Instr.enterLoop fn a.tmps ps assign body fro).run P w=.ok (l,mark) W1:=by rw [hW1,hrec];exact hne
 have XW:l<W1.heap.size:=(aK.1 KC).1;have hput:∀ {W:World} {pre:List α} (o:Obj),w.heap.size<=W.heap.size->I pre W->I pre (W.putObj l o):=fun o hs hi=>hI _ _ _ ((Mod.refl (jU w.heap.size) _).putObj (fun _=>hl) o) hs hi;have vw:∀ {W:World} {c:Code} (o:Obj),w.heap.size<=W.heap.size->Ix c W->Ix c (W.putObj l o):=fun o hs hi=>KE _ _ _ ((Mod.refl (jU w.heap.size) _).putObj (fun _=>hl) o) hs hi;refine ⟨l,mark,W1,{ target:=.fn (.func gf) lb,args:=#[.func (.yield l) #[] #[]] },W1,gf,#[.func (.yield l) #[] #[]]++lb,W1,ou,?_,fun _ _=>trivial,?_,fun e=>by simp at e,?_⟩
 ·simp only [resolve,hg];simp [go_sem]
 ·simp [invoke,go_sem,eg]
 ·have hc:=hit l (fun k=>X k\/k=l) (fun pre W=>I pre W/\w.heap.size<=W.heap.size/\W.heap[l]?=some (.loop (rec .ready none))) (fun W=>∃ c,Ix c W/\w.heap.size<=W.heap.size/\W.heap[l]?=some (.loop (rec .done (some c)))) W1 di
   (fun k hk=>by
    rcases hk with hk | rfl
    ·exact ⟨aG (hX k hk).1 di.size,(hX k hk).2⟩
    ·exact ⟨XW,fun hr=>by have:=hR _ hr;omega⟩)
   (fun pre A B hm hs ⟨h1,h2,h3⟩=>⟨hI _ _ _ (hm.mono (fun i _ hi=>aM di.size hi)) h2 h1,aM h2 hm.size,by rw [hm.block l (by omega) (by simp only [jU];omega)];exact h3⟩)
   (fun _ A B hm hs ⟨c,h1,h2,h3⟩=>⟨c,KE _ _ _ (hm.mono (fun i _ hi=>aM di.size hi)) h2 h1,aM h2 hm.size,by rw [hm.block l (by omega) (by simp only [jU];omega)];exact h3⟩)
   (by
    rintro pre x rest A hx ⟨hi,hs,hlA⟩;have hy:=run_yield (P:=P) (args:=mC x) hlA (by rw [hrec];exact hps x);rw [hrec] at hy;refine ⟨fn,_,assign,body,hy,roundIn_of_wpIn (by trivial) (wpIn_mono (pn pre x rest A hx hi (aK.1 hlA).1) ?_)⟩;clear hy;rintro e a' Wa hp
    cases e with
    | normal=>
     obtain ⟨RY,hb⟩:=hp;have XU:l<A.heap.size:=(aK.1 hlA).1;have EX:Wa.heap[l]?=some (.loop (rec .ready none)):=by rw [RY.block l XU id];exact hlA
     have XT:l<Wa.heap.size:=(aK.1 EX).1;refine ⟨_,run_beginRound EX (by rw [hrec]),?_⟩;obtain ⟨Wb,Ri⟩:∃ z,z=Wa.putObj l (.loop { rec .ready none with state:=.busy }):=⟨_,rfl⟩;have hlb:Wb.heap[l]?=some (.loop { rec .ready none with state:=.busy }):=by rw [Ri];exact World.putObj_heap_same XT
     have XS:l<Wb.heap.size:=(aK.1 hlb).1;have hmb:Mod (eF l) Wa Wb:=by rw [Ri];exact Mod.putObj (G:=eF l) (Mod.refl (eF l) Wa) (fun _=>(rfl:l=l)) _
     have Rb:I pre Wa:=hI _ _ _ (RY.mono (fun _ _ e=>e.elim)) hs hi;have hib:I pre Wb:=by rw [Ri];exact hput _ (aM hs RY.size) Rb
     rw [<-Ri];have NT:Mod (fun k=>X k\/k=l) A Wb:=(RY.mono (fun _ _ e=>e.elim)).trans (hmb.mono (fun _ _ e=>.inr e));refine wpIn_mono (hb Wb hmb ⟨_,hlb⟩ hib) ?_;have fin:∀ (jump:Option Code) (W3:World),Mod X Wb W3 ->
       (Instr.endRound l jump).run P W3=.ok (.bool jump.isNone) (W3.putObj l (.loop (rec (if jump.isNone then .ready else .done) jump)))/\w.heap.size<=W3.heap.size /\
       (W3.putObj l (.loop (rec (if jump.isNone then .ready else .done) jump))).heap[l]?=some (.loop (rec (if jump.isNone then .ready else .done) jump)) /\
       Mod (fun k=>X k\/k=l) A (W3.putObj l (.loop (rec (if jump.isNone then .ready else .done) jump))):=fun jump W3 hk3=>by
      have BK:W3.heap[l]?=some (.loop { rec .ready none with state:=.busy }):=by rw [hk3.block l XS (fun e=>by have:=(hX l e).1;omega)];exact hlb
      have:=run_endRound (P:=P) jump BK;refine ⟨?_,aM hs (aM NT.size hk3.size),World.putObj_heap_same (aK.1 BK).1,(NT.trans (hk3.mono (fun _ _ e=>.inl e))).putObj (fun _=>.inr rfl) _⟩;rw [hrec] at this ⊢;exact this
     rintro e a3 W3 hp
     cases e with
     | normal=>
      obtain ⟨hr,hs3,hl4,gM⟩:=fin none W3 hp.1;exact ⟨_,_,hr,gM,.inl ⟨rfl,hput _ hs3 hp.2,by simpa using hs3,hl4⟩⟩
     | ret=>
      obtain ⟨hr,hs3,hl4,gM⟩:=fin (some .ret) W3 hp.1;exact ⟨_,_,hr,gM,.inr ⟨rfl,_,vw _ hs3 hp.2,by simpa using hs3,hl4⟩⟩
     | exit id=>
      obtain ⟨hr,hs3,hl4,gM⟩:=fin (some (.exit id)) W3 hp.1;exact ⟨_,_,hr,gM,.inr ⟨rfl,_,vw _ hs3 hp.2,by simpa using hs3,hl4⟩⟩
     | goto t=>
      obtain ⟨hr,hs3,hl4,gM⟩:=fin (some (.goto t)) W3 hp.1;exact ⟨_,_,hr,gM,.inr ⟨rfl,_,vw _ hs3 hp.2,by simpa using hs3,hl4⟩⟩
     | panic ch=>exact hp.elim
     | outgrown=>exact hp.elim
    | ret=>exact hp.elim
    | exit id=>exact hp.elim
    | goto t=>exact hp.elim
    | panic ch=>exact hp.elim
    | outgrown=>exact hp.elim)
   ⟨hI _ _ _ (di.mono (fun _ _ e=>e.elim)) (aF _) h0,di.size,KC⟩
  have hc':CallsIn { fn:=fun _=>True,depth:=none,alive:=false,round:=fro } (n - 1) P gf (#[.func (.yield l) #[] #[]]++lb) W1 fun e B=>(∃ v,e=.returned v)/\Mod (fun k=>X k\/k=l) W1 B/\((I xs B/\w.heap.size<=B.heap.size/\B.heap[l]?=some (.loop (rec .ready none)))\/∃ c,Ix c B/\w.heap.size<=B.heap.size/\B.heap[l]?=some (.loop (rec .done (some c)))):=hc;refine hc'.mono ?_;rintro e W2 ⟨⟨v,rfl⟩,hm2,⟨hi,hs2,hl2⟩ | ⟨c,hi,hs2,hl2⟩⟩
  ·exact ⟨none,_,by have:=run_endLoop (P:=P) hl2 (by rw [hrec];simp);rw [hrec] at this;exact this,hdone _ (.loop (rec .ready none)) (by rw [hW1] at hm2;exact hm2.putObj (fun _=>.inr rfl) _) (hput _ hs2 hi)⟩
  ·exact ⟨some c,_,by have:=run_endLoop (P:=P) hl2 (by rw [hrec];simp);rw [hrec] at this;exact this,se c _ (.loop (rec .ready none)) (by rw [hW1] at hm2;exact hm2.putObj (fun _=>.inr rfl) _) (vw _ hs2 hi)⟩
theorem QU{α:Type}{n:Nat}{P:Program}{g:Operand}{ps:Array Tmp}{assign body:Code}{Q:Exit->Act->World->Prop}{a:Act}{w:World}
  {gf:Nat} {lb:Array Value} (hg:a.eval g=.func (.func gf) #[] lb) (eg:∀ args w,(callFunc gf args).run P w=.ok (.enter gf args) w)
  {mC:α->Array Value} {R:Nat->Prop} {xs:List α} (hit:Iter (n - 1) P gf lb mC R xs w) (hps:∀ x,(mC x).size=ps.size)
  (X:Nat->Prop) (hX:∀ k,X k->k<w.heap.size/\¬ R k) (hR:∀ k,R k->k<w.heap.size)
  (I:List α->World->Prop) (Ix:Code->World->Prop) (hI:xl w.heap.size I) (KE:xl w.heap.size Ix) (h0:I [] w)
  (pn:∀ (pre:List α) (x:α) (rest:List α) (W:World),xs=pre++x :: rest->I pre W->w.heap.size+1<W.heap.size ->
   assign.wpIn (Fence.wide.inRound (w.heap.size+1)) (n - 1 - 1) P (Exit.then (fun a' Wa=>Mod dZ W Wa/\∀ Wb,Mod (eF (w.heap.size+1)) Wa Wb->(∃ r,Wb.heap[w.heap.size+1]?=some (.loop r))->I pre Wb->body.wpIn (Fence.wide.inRound (w.heap.size+1)) (n - 1 - 1) P (VL X I Ix (pre++[x]) Wb) a' Wb) (fun _ _ _=>False))
    { tmps:=(ps.zip (mC x)).foldl (fun t (p,v)=>t.setIfInBounds p v) a.tmps,defers:=[] } W)
  (hdone:∀ W,Mod X w W->W.heap[w.heap.size]?=some (.deferred (some []))->I xs W->Q .normal { a with defers:={ target:=.collected w.heap.size,args:=#[] } :: a.defers } W)
  (se:∀ c W,Mod X w W->W.heap[w.heap.size]?=some (.deferred (some []))->Ix c W->c.wpIn Fence.wide n P Q { a with defers:={ target:=.collected w.heap.size,args:=#[] } :: a.defers } W) :
  (Code.rangeFunc g ps assign body).wpIn Fence.wide n P Q a w:=by
 have hb:∀ {o W},Mod (fun k=>X k\/k=w.heap.size+1) ((w.alloc (.deferred (some []))).alloc o) W->Mod X w W/\W.heap[w.heap.size]?=some (.deferred (some [])):=fun {o W} h=>
  ⟨(((Mod.refl X w).alloc _).alloc _).trans' (h.mono (fun i _ e=>e)) (fun i hi e=>e.elim id (fun e=>by omega)),by
   rw [h.block w.heap.size (by simp;omega) (fun e=>e.elim (fun e=>absurd (hX _ e).1 (by omega)) (fun e=>by omega))];rw [heap_alloc_old _ _ (by simp)];exact heap_alloc_new w _⟩
 refine yBa (F:=Fence.wide) (l:=w.heap.size+1) (d:=w.heap.size) (mark:=[{ target:=.collected w.heap.size,args:=#[] }]) (lay:=fun o=>(w.alloc (.deferred (some []))).alloc o) rfl rfl rfl (fun fn=>run_enterLoop_outer _ _ _ _ _) (fun o=>⟨((Mod.refl _ w).alloc _).alloc _,?_⟩) (by omega) hg eg hit hps X hX hR I Ix hI KE h0 pn
  (fun W o hm hi=>hdone W (hb hm).1 (hb hm).2 hi) (fun c W o hm hi=>se c W (hb hm).1 (hb hm).2 hi)
 have:=heap_alloc_new (w.alloc (.deferred (some []))) o;simpa using this
theorem yPv{α:Type}{n:Nat}{P:Program}{g:Operand}{ps:Array Tmp}{assign body:Code}{Q:Exit->Act->World->Prop}{a:Act}{w:World}
  {l₀:Nat} {r₀:Loop} (hl₀:w.heap[l₀]?=some (.loop r₀)) {gf:Nat} {lb:Array Value} (hg:a.eval g=.func (.func gf) #[] lb) (eg:∀ args w,(callFunc gf args).run P w=.ok (.enter gf args) w)
  {mC:α->Array Value} {R:Nat->Prop} {xs:List α} (hit:Iter (n - 1) P gf lb mC R xs w) (hps:∀ x,(mC x).size=ps.size)
  (X:Nat->Prop) (hX:∀ k,X k->k<w.heap.size/\¬ R k) (hR:∀ k,R k->k<w.heap.size)
  (I:List α->World->Prop) (Ix:Code->World->Prop) (hI:xl w.heap.size I) (KE:xl w.heap.size Ix) (h0:I [] w)
  (pn:∀ (pre:List α) (x:α) (rest:List α) (W:World),xs=pre++x :: rest->I pre W->w.heap.size<W.heap.size ->
   assign.wpIn (Fence.wide.inRound w.heap.size) (n - 1 - 1) P (Exit.then (fun a' Wa=>Mod dZ W Wa/\∀ Wb,Mod (eF w.heap.size) Wa Wb->(∃ r,Wb.heap[w.heap.size]?=some (.loop r))->I pre Wb->body.wpIn (Fence.wide.inRound w.heap.size) (n - 1 - 1) P (VL X I Ix (pre++[x]) Wb) a' Wb) (fun _ _ _=>False))
    { tmps:=(ps.zip (mC x)).foldl (fun t (p,v)=>t.setIfInBounds p v) a.tmps,defers:=[] } W)
  (hdone:∀ W,Mod X w W->I xs W->Q .normal a W)
  (se:∀ c W,Mod X w W->Ix c W->c.wpIn (Fence.wide.inRound l₀) n P Q a W) :
  (Code.rangeFunc g ps assign body).wpIn (Fence.wide.inRound l₀) n P Q a w:=by
 have hb:∀ {o W},Mod (fun k=>X k\/k=w.heap.size) (w.alloc o) W->Mod X w W:=fun {o W} h=>
  ((Mod.refl X w).alloc _).trans' (h.mono (fun i _ e=>e)) (fun i hi e=>e.elim id (fun e=>by omega))
 exact yBa (F:=Fence.wide.inRound l₀) (l:=w.heap.size) (d:=r₀.defers) (mark:=[]) (lay:=fun o=>w.alloc o) rfl rfl rfl (fun fn=>run_enterLoop_inner hl₀ _ _ _ _ _) (fun o=>⟨(Mod.refl _ w).alloc _,heap_alloc_new w o⟩) (aF _) hg eg hit hps X hX hR I Ix hI KE h0 pn
  (fun W o hm hi=>hdone W (hb hm) hi) (fun c W o hm hi=>se c W (hb hm) hi)
attribute [local go_sem] Oper.semAt_some
theorem yDf{α:Type}(us:List α)(q:Nat)(hq:q<us.length):us.zipIdx.reverse=(us.zipIdx.drop (q+1)).reverse++(us[q],q) :: (us.zipIdx.take q).reverse/\(us.zipIdx.drop (q+1)).reverse++[(us[q],q)]=(us.zipIdx.drop q).reverse:=by
 have h:us.zipIdx.drop q=(us[q],q) :: us.zipIdx.drop (q+1):=by
  rw [bj (by simpa using hq)];simp
 refine ⟨?_,by rw [h];simp⟩;have e:=(ai q us.zipIdx).symm;rw [h] at e;exact (ae List.reverse e).trans (by simp)
def AG(x:fR × Nat):Array Value:=#[.int .i64 (x.2:Int),.agg #[.string x.1.key,.string x.1.val,.bool x.1.gone]]
theorem yOm(n:Nat)(l Bs rb off cap:Nat)(X:Nat->Prop)(us:List (fR))(hlen:us.length<=1000000)(J:List (fR × Nat)->World->Prop)(Jx:World->Prop)
  (hY:VE (n - 1) Tryz.prog l AG X (us.zipIdx.reverse) J Jx)
  (W:World) (hX1:¬ X Bs) (xS:¬ X rb) (Hi:W.cell? ⟨Bs,0,none⟩=some (.slice (some ⟨rb,off,none⟩) us.length cap)) (hc:∀ j (hj:j<us.length),W.cell? ⟨rb,off+j*3,none⟩=some (.string us[j].key)/\W.cell? ⟨rb,off+j*3+1,none⟩=some (.string us[j].val)/\W.cell? ⟨rb,off+j*3+2,none⟩=some (.bool us[j].gone)) (h0:J [] W) :
  CallsIn Fence.wide n Tryz.prog 157 #[.func (.yield l) #[] #[],.pointer (some ⟨Bs,0,none⟩)] W fun e B=>(∃ v,e=.returned v)/\Mod X W B/\(J (us.zipIdx.reverse) B\/Jx B):=by
 refine callsIn_of_wp Tryz.func157 rfl trivial ?_ rfl;simp only [Tryz.ntmps157,au,aW,an,Nat.reduceAdd,Nat.reduceSub,bY,bX,bp,bc,ak,bU]
 gi_wp2
 gi_loopw [3] (fun i wr=>∃ q:Nat,q<=us.length/\i=.int .i64 ((q:Int) - 1)/\J ((us.zipIdx.drop q).reverse) wr/\Mod X W wr) (fun i _=>(intOf i+1).toNat)
 case atStart=>exact ⟨us.length,aF _,rfl,by rw [cq (by simp)];exact h0,Mod.refl _ _⟩
 case round=>
  obtain ⟨q,hq,rfl,hJs,uC⟩:=hrel
  cases q with
  | zero=>
   gi_wp2
   go_end0;exact ⟨⟨_,rfl⟩,uC,.inl hJs⟩
  | succ q=>
   have Cb:q<us.length:=by omega
   have hi:((q+1:Nat):Int) - 1=(q:Int):=by omega
   rw [hi];have hqI:(q:Int)<(us.length:Int):=by omega
   have hq0:(0:Int)<=(q:Int):=by omega
   have hqd:decide ((q:Int) ≥ 0)=true:=aQ (by omega);obtain ⟨c0,c1,c2⟩:=hc q Cb;have c0':=uC.cell c0 xS;have c1':=uC.cell c1 xS;have ZA:=uC.cell c2 xS;have hb':=uC.cell Hi hX1;obtain ⟨u,hu⟩:∃ u,u=us[q]:=⟨_,rfl⟩;obtain ⟨hx,hnx⟩:=yDf us q Cb;rw [<-hu] at hx hnx;obtain ⟨fn,tmps,assign,body,hy,hR⟩:=hY _ _ _ wr hx hJs;rw [hnx] at hR;dsimp only [AG] at hy;rw [<-hu] at c0' c1' ZA;clear hu hx hnx c0 c1 c2
   gi_wp2
   refine ⟨fun e=>by simp [Fence.wide] at e,hR.mono ?_⟩;rintro e W3 ⟨dz,⟨rfl,hJ3⟩ | ⟨rfl,Hf⟩⟩
   ·gi_wp2
    go_roundw
    case rel=>exact ⟨q,by omega,rfl,hJ3,uC.trans dz⟩
    case measure=>simp [intOf]
   ·gi_wp2
    refine bodyPost_ret (results_none rfl _ _ _) rfl ?_;exact ⟨⟨_,rfl⟩,uC.trans dz,.inr Hf⟩
theorem yKg(n:Nat)(l Bs cap:Nat)(a:Option Addr)(J:World->Prop)(W:World)(Hi:W.cell? ⟨Bs,0,none⟩=some (.slice a 0 cap))(h0:J W) :
  CallsIn Fence.wide n Tryz.prog 157 #[.func (.yield l) #[] #[],.pointer (some ⟨Bs,0,none⟩)] W fun e B=>(∃ v,e=.returned v)/\B=W:=by
 refine callsIn_of_wp Tryz.func157 rfl trivial ?_ rfl;simp only [Tryz.ntmps157,au,aW,an,Nat.reduceAdd,Nat.reduceSub,bY,bX,bp,bc,ak,bU]
 gi_wp2
 gi_loopw [3] (fun i wr=>i=.int .i64 (-1)/\wr=W) (fun _ _=>0)
 case atStart=>exact ⟨rfl,rfl⟩
 case round=>
  obtain ⟨rfl,rfl⟩:=hrel
  gi_wp2
  go_end0;exact ⟨⟨_,rfl⟩,rfl⟩
theorem yHp(l:Option Nat)(n:Nat)(a:Option Addr)(len cap:Nat)(w:World) :
  CallsIn Fence.wide n Tryz.prog 117 #[.slice a len cap] w fun e w'=>e=.returned (.func (.func 157) #[] #[.pointer (some ⟨w.heap.size,0,none⟩)])/\w'=w.alloc (.cells #[.slice a len cap] 63):=by
 refine callsIn_of_wp Tryz.func117 rfl trivial ?_ rfl;simp only [Tryz.ntmps117,au,aW,an,Nat.reduceAdd,Nat.reduceSub,bY,bX,bp,bc,ak,bU]
 gi_wp2
 go_ret;exact ⟨rfl,rfl⟩
theorem zXv(n:Nat)(Bs:Nat)(v:Value)(us:List (fR))(hlen:us.length<=1000000)(w:World)(hc:w.cell? ⟨Bs,0,none⟩=some v)(hs:gG w w.heap.size 3 Bi v us) :
  Iter n Tryz.prog 157 #[.pointer (some ⟨Bs,0,none⟩)] AG (fun k=>k=Bs\/(us≠[]/\v.ownBlock=some k)) (us.zipIdx.reverse) w:=fun l X J Jx W hW hX _ _ hY h0=>by
 have hc':=hW.cell hc id;obtain ⟨a,cap,rfl,-,-,h4⟩:=hs.mod hW (fun _ _=>id) (fun _ _ e=>e);have h5:us=[]\/(us≠[]/\∃ b off,a=some ⟨b,off,none⟩/\∀ (i:Nat) d,us[i]?=some d->∃ cs,Bi d cs/\cs.length=3/\∀ (j:Nat) x,cs[j]?=some x->W.cell? ⟨b,off+i*3+j,none⟩=some x):=by
  by_cases hne:us=[]
  ·exact .inl hne
  ·exact .inr ⟨hne,h4.elim (fun e=>absurd e hne) (fun ⟨b,off,e1,_,e3⟩=>⟨b,off,e1,e3⟩)⟩
 rcases h5 with rfl | ⟨hne,b,off,rfl,hcs⟩
 ·refine (yKg n l Bs cap a (fun _=>True) W hc' trivial).mono ?_;rintro e B ⟨he,rfl⟩;exact ⟨he,Mod.refl _ _,.inl h0⟩
 ·refine yOm n l Bs b off cap X us hlen J Jx hY W (fun e=>(hX _ e).2 (.inl rfl)) (fun e=>(hX _ e).2 (.inr ⟨hne,rfl⟩)) hc' (fun j hj=>?_) h0;obtain ⟨cs,rfl,-,h⟩:=hcs j us[j] (aA hj);exact ⟨by simpa using h 0 _ rfl,by simpa using h 1 _ rfl,by simpa using h 2 _ rfl⟩
end Go.Proofs.YtmaiggbnceejiaaGreatDoor
