import Derived.Test.YtmaiggbnceejiaaGreatDoorS31
import Derived.Test.YtmaiggbnceejiaaGreatDoorS34
import Derived.Test.YtmaiggbnceejiaaGreatDoorS32
import Derived.Test.YtmaiggbnceejiaaGreatDoorS03
import Derived.Laws.OwnMore
import Derived.Test.YtmaiggbnceejiaaGreatDoorS19
import Derived.Lib.SmallJoins
import Derived.Deep.Strs
import Derived.OpenShut
set_option linter.unusedVariables false
set_option maxRecDepth 100000
set_option maxHeartbeats 16000000
namespace Go.Proofs.YtmaiggbnceejiaaGreatDoor
open Go.RowKit Go.Lib Go.Maps Go.ChangeShapes Go.WideShapes Go.Deep
def Mc(s:eC)(i:Nat):Bool:=decide (jU s.h ((i:Int)+1)=3) || decide (jU s.h ((i:Int)+1)=2)
def sl(s:eC)(i:Nat):List eM:=((List.range i).filter (Mc s)).map fun i=>s.dW.getD i ⟨[],0,0⟩
theorem yAv(s:eC):sl s s.dW.length=qT s:=rfl
theorem yJb{s:eC}{i:Nat}{t:eM}(h:s.dW[i]?=some t):sl s (i+1)=if Mc s i then sl s i++[t] else sl s i:=by
 unfold sl;rw [aj,dJ,ay,cF,List.filter_nil];split
 ·simp [List.getD_eq_getElem?_getD,h]
 ·simp
theorem yAu(s:eC)(i:Nat):(sl s i).length<=i:=by
 unfold sl;rw [ar];exact aJ (bB _ _) (by simp)
structure ti(w:World)(s:eC)(vs:List Value)(ts:List eM)(v:Value)(us:List Value)(w':World):Prop where
 row:ju 46 w' w.heap.size v ts us
 sub:∀ (k:Nat) t u,ts[k]?=some t->us[k]?=some u->∃ j:Nat,s.dW[j]?=some t/\vs[j]?=some u
 md:Mod dZ w w'
def PZ(w:World)(s:eC)(vs:List Value)(e:Ending)(w':World):Prop:=∃ v us,e=.returned v/\ti w s vs (qT s) v us w'
theorem eZ.Cp{w:World}{n c gs g xb m cap:Nat}{y:dY}{vs:List Value}{s:eC}(h:eZ w n c gs g y (.slice (some ⟨xb,0,none⟩) m cap) vs s){i:Nat}{t:eM}{u:Value}(hi:s.dW[i]?=some t)(hu:vs[i]?=some u) :
  w.cell? ⟨xb,i*3,none⟩=some u/\w.cell? ⟨xb,i*3+1,none⟩=some (.int .i64 t.eF)/\w.cell? ⟨xb,i*3+2,none⟩=some (.int .i64 t.fI)/\xb<w.heap.size:=by
 have key:∀ j x,(sU t u)[j]?=some x->w.cell? ⟨xb,i*3+j,none⟩=some x:=fun j x hx=>by
  have:=h.row.2.cells (g:=xb) rfl _ _ (Ec s.dW vs i t u h.row.1 hi hu j x hx);rw [Go.WideShapes.add_plain,aX] at this;exact this
 obtain ⟨_,h2,_⟩:=fW h.row.2 (k:=xb) rfl;exact ⟨key 0 _ rfl,key 1 _ rfl,key 2 _ rfl,h2⟩
theorem yQu(n c gs g:Nat)(y:dY)(xv:Value)(vs:List Value)(s:eC)(w:World)(h:eZ w n c gs g y xv vs s)(hl:s.dW.length<=100)(hh:s.h.dW.length<=60) :
  Calls Tryz.prog 9 #[.pointer (some ⟨gs,0,none⟩)] w (PZ w s vs):=by
 obtain ⟨i0,hpi,hz0,hz1,hz2⟩:=info_parts Tryz.wQ;obtain ⟨xa,fF,hxv⟩:=eu h.row.2;subst hxv;have HH:=dV h;clear h;go_enter Tryz.func9,Tryz.ntmps9;go_wp2_with fail;go_loopw [3,4] (fun v0 j0 wr=>∃ j:Nat,j<=s.dW.length/\j0=.int .i64 j/\∃ us,ti w s vs (sl s j) v0 us wr) (fun _ j0 _=>s.dW.length - (intOf j0).toNat)
 case atStart=>exact ⟨0,aT _,rfl,[],⟨rfl,World.ownsRow_nil _ _ _ _⟩,fun k t u hk=>(by simp [sl] at hk),Mod.refl _ _⟩
 case round=>
  rename_i v0 j0;obtain ⟨j,hjl,rfl,us,hT⟩:=hrel;have hP:=HH.out.quiet hT.md;obtain ⟨c0,c1,c2,-,-⟩:=gu hP.blk;have zg:=hP.blk.lt;obtain ⟨ta,gL,oS⟩:=eu hT.row.2;subst oS;have sQ:Hid (∀ id,Calls Tryz.prog 11 #[.pointer (some ⟨g,0,none⟩),.int .i64 id] wr fun e w'=>e=.returned (.int .i64 (jU s.h id))/\w'=wr):=fun id=>KB n c g y s.h id wr hP.house hh;by_cases pF:j<s.dW.length
  ·obtain ⟨t,ht⟩:∃ t,s.dW[j]?=some t:=⟨_,aA pF⟩;obtain ⟨xb,cap',hx⟩:=hP.nE ht;simp only [Value.slice.injEq] at hx;obtain ⟨rfl,-,rfl⟩:=hx;obtain ⟨u,hu⟩:∃ u,vs[j]?=some u:=⟨_,aA (by rw [hP.row.1];exact pF)⟩;obtain ⟨x0,x1,x2,zx⟩:=hP.Cp ht hu;have IW:(j:Int)<(s.dW.length:Int):=by omega
   have Kl:(0:Int)<=(j:Int):=by omega
   have ew:wrap64 ((j:Int)+1)=(j:Int)+1:=IntWalk.wrap64_in _ ⟨by omega,by omega⟩;have jz:=dV (yJb ht);have hone:∃ a m k,u=.slice a m k:=by
    obtain ⟨a,k,e⟩:=eu (hP.ops j t u ht hu);exact ⟨a,_,k,e⟩
   have hlen:=yAu s j;by_cases hb:Mc s j=true
   ·
    obtain ⟨ua,um,uk,hue⟩:=hone;have kg:Mod dZ wr (wr.alloc (.cells #[u,.int .i64 t.eF,.int .i64 t.fI] 46)):=(Mod.refl _ _).alloc _;have hzw:=hT.md.size;have Og:∀ q∈sU t u,q.oneCell'=true:=fun q hq=>by
     simp [sU] at hq;rcases hq with rfl | rfl | rfl
     ·rw [hue];rfl
     ·rfl
     ·rfl
    obtain ⟨v7,w7,gg,eJ,eS,_,iq⟩:=run_append_own_at (P:=Tryz.prog) (wr.alloc (.cells #[u,.int .i64 t.eF,.int .i64 t.fI] 46)) w.heap.size 29 29 46 i0 _ 3 40 Tryz.zj hpi hz0 hz1 hz2 rfl (by omega) _ _ _ (fm hT.row.2 kg (fun _ _ _ _ e=>e)) ⟨wr.heap.size,0,none⟩ 1 1 (sU t u) rfl (World.news_of_block (heap_alloc_new wr _)) Og (by unfold maxLen;omega) (by omega) (by have:=kg.size;omega);obtain ⟨a7,fE,py⟩:=eu eJ;subst py;have HF:Hid (∃ us,ti w s vs (sl s (j+1)) (.slice a7 ((sl s j).length+1) fE) us w7):=by
     unfold Hid;rw [jz.out,aP hb];refine ⟨us++[u],⟨by rw [aD,aD,hT.row.1];rfl,?_⟩,fun k t' u' hk hk'=>?_,?_⟩
     ·rw [Uz _ _ _ _ hT.row.1,aD];exact eJ
     ·by_cases hkl:k<(sl s j).length
      ·rw [aE hkl] at hk;rw [aE (by rw [hT.row.1];exact hkl)] at hk';exact hT.sub k t' u' hk hk'
      ·rw [aM (by omega)] at hk;rw [aM (by rw [hT.row.1];omega),hT.row.1] at hk';have hx0:k - (sl s j).length=0:=by
        have:=(aB.1 hk).1;simp at this;omega
       rw [hx0] at hk hk';simp at hk hk';subst hk hk';exact ⟨j,ht,hu⟩
     ·refine (hT.md.trans kg).trans' ((Mod.refl _ _).grown eS (G:=fun z=>(Value.slice ta (sl s j).length gL).ownBlock=some z) (fun x hx _=>hx)) (fun z hz q=>?_);have:=(fW hT.row.2 q).1;omega
    have hb3:(jU s.h ((j:Int)+1) == 3)=true\/((jU s.h ((j:Int)+1) == 3)=false/\(jU s.h ((j:Int)+1) == 2)=true):=by
     unfold Mc at hb;simp only [br,bA] at hb;by_cases e:jU s.h ((j:Int)+1)=3
     ·exact .inl (by simpa using e)
     ·exact .inr ⟨by simpa using e,by simpa using hb.resolve_left e⟩
    subst hue;clear hT hP eJ eS iq kg ht hu hb jz;rcases hb3 with b3 | ⟨b3,b2⟩
    ·go_wp2_with (first
      | (go_at_call 11;refine (sQ.out _).mono ?_;rintro e w' ⟨rfl,rfl⟩)
      | (at_builtin;refine MV rfl (ze (s:=.tmp 28) (x:=.tmp 36) (t:=29) rfl (by go_simp) (by go_simp) gg) ?_)
      | fail)
     go_roundw
     case rel=>exact ⟨j+1,by omega,by first | rfl | go_num,HF.out⟩
     case measure=>simp [intOf];omega
    ·go_wp2_with (first
      | (go_at_call 11;refine (sQ.out _).mono ?_;rintro e w' ⟨rfl,rfl⟩)
      | (at_builtin;refine MV rfl (ze (s:=.tmp 28) (x:=.tmp 36) (t:=29) rfl (by go_simp) (by go_simp) gg) ?_)
      | fail)
     go_roundw
     case rel=>exact ⟨j+1,by omega,by first | rfl | go_num,HF.out⟩
     case measure=>simp [intOf];omega
   ·have HF:Hid (∃ us,ti w s vs (sl s (j+1)) (.slice ta (sl s j).length gL) us wr):=by
     unfold Hid;rw [jz.out,aK hb];exact ⟨us,hT⟩
    have hbb:(jU s.h ((j:Int)+1) == 3)=false/\(jU s.h ((j:Int)+1) == 2)=false:=by
     unfold Mc at hb;simp only [br,bA,not_or] at hb;exact ⟨by simpa using hb.1,by simpa using hb.2⟩
    obtain ⟨b3,b2⟩:=hbb;clear hT hP ht hu hb jz hone;go_wp2_with (first | (go_at_call 11;refine (sQ.out _).mono ?_;rintro e w' ⟨rfl,rfl⟩) | fail);go_roundw
    case rel=>exact ⟨j+1,by omega,by first | rfl | go_num,HF.out⟩
    case measure=>simp [intOf];omega
  ·obtain rfl:j=s.dW.length:=by omega
   have HF:Hid (ti w s vs (qT s) (.slice ta (sl s s.dW.length).length gL) us wr):=by
    unfold Hid;rw [<-yAv];exact hT
   clear hT hP;go_wp2_with fail;go_ret;exact ⟨_,us,rfl,HF.out⟩
theorem ti.mB{w w':World}{n c gs g:Nat}{y:dY}{xv v:Value}{vs us:List Value}{s:eC}{ts:List eM}(h:ti w s vs ts v us w')(hP:eZ w n c gs g y xv vs s)(hok:∀ t∈ts,∀ o∈t.ops,ND o)(hi:∀ t∈ts,gO t.eF/\gO t.fI):mo w' w'.heap.size v ts:=by
 have hP':=hP.quiet h.md;refine h.row.mB (aF _) fun k t u hk hu=>?_;obtain ⟨j,q1,q2⟩:=h.sub k t u hk hu;have hm:=aC hk;exact ⟨JL.mB (t:=51) ⟨hP'.ops j t u q1 q2,hok t hm⟩ (aF _),hi t hm⟩
theorem yRy{k:Nat}(h:1<=k/\k<=3):(fq 2 k).dW.length=0/\du (fq 2 k)=2/\(eE (fq 2 k) 0).log.length=0/\(eE (fq 2 k) 1).log.length=0:=by
 rcases (show k=1\/k=2\/k=3 by omega) with rfl | rfl | rfl
 ·decide +kernel
 ·decide +kernel
 ·decide +kernel
theorem yRx{k:Nat}(h:1<=k/\k<=3)(safe:Bool):lU ⟨fq 2 k,[],0,safe,k⟩:=by
 obtain ⟨h1,h2,h3,h4⟩:=yRy h;have hO:∀ id,pM [] id=[]:=fun id=>by cases id <;> rfl
 have jE:∀ K,K<du (fq 2 k)->(eE (fq 2 k) K).log=[]:=fun K hK=>by
  rw [h2] at hK;rcases (show K=0\/K=1 by omega) with rfl | rfl
  ·exact aR h3
  ·exact aR h4
 have hL:∀ {id},¬ kB (fq 2 k) id:=fun {id} q=>by have:=q.1;have:=q.2.1;omega
 have hX:eX (fun _=>False) (pM []) [] jh (fq 2 k):=by
  refine ⟨List.nodup_nil,fun id=>⟨fun q=>(by cases q),fun q=>by omega⟩,rfl,fun id _=>hO id,fun id o ho=>(by rw [hO id] at ho;cases ho),fun id q=>absurd q hL,fun id q=>absurd q hL,fun id q1 q2=>by omega,fun id q=>absurd q hL,fun id q=>absurd q hL,fun K hK c hc=>?_,fun id q=>absurd q hL,fun K hK i c hi=>?_⟩
  ·rw [jE K hK] at hc;cases hc
  ·rw [jE K hK] at hi;simp at hi
 exact ⟨⟨fun D d q hd=>q.more hd,[],jh,hX,fun a t _ ht=>(by simp at ht),fun a b hb=>(by cases hb)⟩,fun t ht=>(by cases ht)⟩
def Jk(o:fg):Prop:=(o.kind=1/\o.found=true)\/o.value.size<=9
def Cd(dW:List eM):Prop:=∀ t∈dW,∀ o∈t.ops,Jk o
theorem yIx(x:ActD):(gk x).size<=9:=by
 unfold gk;split
 ·rw [ByteArray.size_extract];omega
 ·omega
theorem Cd.fh{dW:List eM}(h:Cd dW)(id:Nat){o:fg}(ho:Jk o):Cd (fh dW id o):=fun t ht p hp=>by
 unfold Go.Proofs.YtmaiggbnceejiaaGreatDoor.fh at ht;split at ht
 ·rename_i u hu;rcases bQ ht with q | q
  ·exact h t q p hp
  ·subst q;rcases aN.1 hp with q | q
   ·exact h u (aC hu) p q
   ·simp at q;rw [q];exact ho
 ·exact h t ht p hp
theorem yOt(s:dX)(id:Int)(key:ByteArray):(fH s id key).2.2.1=true\/(fH s id key).2.1.size<=9:=by
 unfold fH;split
 ·exact .inr (aT _)
 ·dsimp only;split
  ·exact .inr (aT _)
  ·unfold Gf;dsimp only;split
   ·exact .inr (aT _)
   ·split
    ·exact .inr (aT _)
    ·exact .inl rfl
theorem yQc{s:eC}(h:Cd s.dW)(x:ActD):Cd (eG s x).dW:=by
 obtain ⟨r,hr⟩:∃ r,r=eG s x:=⟨_,rfl⟩;rw [<-hr];unfold eG at hr;by_cases e0:x.what=0
 ·rw [aP e0] at hr;by_cases e:s.dW.length<7
  ·rw [aP e] at hr;rw [hr];intro t ht;rcases aN.1 ht with q | q
   ·exact h t q
   ·rw [bU] at q;subst q;intro o ho;cases ho
  ·rw [aK e] at hr;rw [hr];exact h
 rw [aK e0] at hr;by_cases e1:x.what=1
 ·rw [aP e1] at hr;rw [hr];dsimp only;split
  ·refine h.fh _ ?_;rcases yOt s.h (fB s x) (eQ x) with q | q
   ·exact .inl ⟨rfl,q⟩
   ·exact .inr q
  ·exact h
 rw [aK e1] at hr;by_cases e2:x.what=2\/x.what=3
 ·rw [aP e2] at hr;rw [hr];dsimp only;split
  ·exact h.fh _ (.inr (yIx x))
  ·exact h
 rw [aK e2] at hr;have fin:r.dW=s.dW:=by
  rw [hr]
  repeat (first | rfl | split)
 rw [fin];exact h
theorem yUk{s:eC}{t:eM}(ht:t∈(mc s).dW):∃ u∈s.dW,t.ops=u.ops:=by
 obtain ⟨i,hi⟩:=aO ht;unfold mc at hi;rw [bM] at hi
 cases hu:s.dW[i]? with
 | none=>rw [hu] at hi;cases hi
 | some u=>
  rw [hu,bK] at hi;have hi:=ax hi;refine ⟨u,aC hu,?_⟩;rw [<-hi];split <;> rfl
theorem yFf{s:eC}(h:Cd s.dW)(x:ActD):Cd (uZ s x).dW:=fun t ht o ho=>by
 obtain ⟨u,hu,e⟩:=yUk ht;rw [e] at ho;exact yQc (s:={ s with now:=s.now+1 }) h x u hu o ho
def Jj(V:gK):Prop:=∀ k,(V k).text.size<=9
theorem yKx{V V':gK}{o:fg}{us:List (ByteArray × VD)}(h:ir V o=some (V',us))(hV:Jj V)(ho:Jk o):Jj V'/\o.value.size<=9:=by
 unfold ir at h;split at h
 ·split at h
  ·rename_i e1 e2
   cases h
   refine ⟨hV,?_⟩;rcases ho with ⟨_,q⟩ | q
   ·unfold yb at e2;rw [aP q] at e2;have:=hV o.key;rw [e2] at this;exact this
   ·exact q
  ·cases h
 ·rename_i e1;have hs:o.value.size<=9:=ho.elim (fun q=>absurd q.1 e1) id;split at h
  ·cases h
   refine ⟨fun k=>?_,hs⟩;unfold nG;split
   ·exact hs
   ·exact hV k
  ·split at h
   ·cases h
    refine ⟨fun k=>?_,hs⟩;unfold nG;split
    ·exact aT _
    ·exact hV k
   ·cases h;exact ⟨hV,hs⟩
theorem Uh:∀ {os:List fg} {V:gK} {r:gK × List (ByteArray × VD)},gh V os=some r->Jj V->(∀ o∈os,Jk o)->Jj r.1/\∀ o∈os,o.value.size<=9
 | [],V,r,h,hV,_=>by
  cases h
  exact ⟨hV,fun o ho=>by cases ho⟩
 | o :: os,V,r,h,hV,ho=>by
  rw [gh] at h
  cases h1:ir V o with
  | none=>rw [h1] at h;cases h
  | some p=>
   obtain ⟨V1,u⟩:=p;rw [h1] at h;simp only at h
   cases h2:gh V1 os with
   | none=>rw [h2] at h;cases h
   | some q=>
    rw [h2] at h
    cases h
    obtain ⟨a1,a2⟩:=yKx h1 hV (ho o (by simp));obtain ⟨b1,b2⟩:=Uh h2 a1 (fun p hp=>ho p (by simp [hp]));refine ⟨b1,fun p hp=>?_⟩;rcases bV.1 hp with q | q
    ·rw [q];exact a2
    ·exact b2 p q
theorem zWt{O:Nat->List fg}(hO:∀ id,∀ o∈O id,Jk o):∀ {D:List Nat} {V V':gK},lG O V D=some V'->Jj V->Jj V'/\∀ d∈D,∀ o∈O d,o.value.size<=9
 | [],V,V',h,hV=>by
  cases h
  exact ⟨hV,fun d hd=>by cases hd⟩
 | d :: D,V,V',h,hV=>by
  rw [lG] at h
  cases h1:gh V (O d) with
  | none=>rw [h1] at h;cases h
  | some r=>
   rw [h1] at h;obtain ⟨a1,a2⟩:=Uh h1 hV (hO d);obtain ⟨b1,b2⟩:=zWt hO (D:=D) h a1;refine ⟨b1,fun p hp=>?_⟩;rcases bV.1 hp with q | q
   ·rw [q];exact a2
   ·exact b2 p q
theorem lU.short{s:eC}(h:lU s)(htl:s.h.dW.length=s.dW.length)(hs:Cd s.dW):∀ t∈qT s,∀ o∈t.ops,o.key.size<=20/\o.value.size<=9:=fun t ht o ho=>by
 obtain ⟨_,D,V,hX,hD⟩:=h.qi;have hO:∀ id,∀ o∈pM s.dW id,Jk o:=fun id o ho=>by
  unfold pM at ho;split at ho
  ·cases ho
  ·cases hu:s.dW[id - 1]? with
   | none=>rw [hu] at ho;cases ho
   | some u=>rw [hu] at ho;exact hs u (aC hu) o ho
 obtain ⟨i,hi⟩:=aO ht;obtain ⟨j,hj,OY⟩:=Lz hi;obtain ⟨q1,q2⟩:=UE.1 (aC hj);have hop:pM s.dW (j+1)=t.ops:=by rw [EV,OY];rfl
 have ho':o∈pM s.dW (j+1):=by rw [hop];exact ho
 refine ⟨(hX.kd _ o ho').2,?_⟩;obtain ⟨r1,r2⟩:=zWt hO hX.run (fun k=>aT _);have e:((j:Int)+1)=((j+1:Nat):Int):=by omega
 rw [e,yBa (by omega) (by omega)] at q2;rcases q2 with q | q
 ·exact r2 (j+1) ((hX.dm _).2 ⟨by omega,by omega,q⟩) o ho'
 ·have:=hX.opn (j+1) ⟨by omega,by omega,.inr q⟩;obtain ⟨r,hr⟩:=bD.1 this;exact (Uh hr r1 (hO _)).2 o ho'
def vf(s:eC):Prop:=∀ t∈s.dW,(0<=t.eF/\t.eF<=s.now)/\-1<=t.fI/\t.fI<=s.now
theorem zXz{dW:List eM}{id:Nat}{o:fg}{t:eM}(ht:t∈fh dW id o):∃ u∈dW,u.eF=t.eF/\u.fI=t.fI:=by
 unfold fh at ht;split at ht
 ·rename_i u hu;rcases bQ ht with q | q
  ·exact ⟨t,q,rfl,rfl⟩
  ·exact ⟨u,aC hu,by rw [q],by rw [q]⟩
 ·exact ⟨t,ht,rfl,rfl⟩
theorem yVr{m:Nat}{s:eC}(h:vf s)(hok:se m s)(hn:0<=s.now)(x:ActD):vf (eG s x):=by
 have nL:=(Lp hok x).2.2.2.2.2.1;obtain ⟨r,hr⟩:∃ r,r=eG s x:=⟨_,rfl⟩;rw [<-hr] at nL ⊢;have key:(∀ t∈r.dW,∃ u∈s.dW,u.eF=t.eF/\u.fI=t.fI)->vf r:=fun q t ht=>by
  obtain ⟨u,hu,e1,e2⟩:=q t ht;have:=h u hu;rw [nL,<-e1,<-e2];exact this
 unfold eG at hr;by_cases e0:x.what=0
 ·rw [aP e0] at hr;by_cases e:s.dW.length<7
  ·rw [aP e] at hr;intro t ht;rw [nL];rw [hr] at ht;rcases aN.1 ht with q | q
   ·exact h t q
   ·rw [bU] at q;subst q;exact ⟨⟨hn,bR _⟩,bR _,by show (-1:Int)<=s.now;omega⟩
  ·rw [aK e] at hr;rw [hr];exact h
 rw [aK e0] at hr;by_cases e1:x.what=1
 ·rw [aP e1] at hr;refine key fun t ht=>?_;rw [hr] at ht;dsimp only at ht;split at ht
  ·exact zXz ht
  ·exact ⟨t,ht,rfl,rfl⟩
 rw [aK e1] at hr;by_cases e2:x.what=2\/x.what=3
 ·rw [aP e2] at hr;refine key fun t ht=>?_;rw [hr] at ht;dsimp only at ht;split at ht
  ·exact zXz ht
  ·exact ⟨t,ht,rfl,rfl⟩
 rw [aK e2] at hr;have fin:r.dW=s.dW:=by
  rw [hr]
  repeat (first | rfl | split)
 refine key fun t ht=>?_;rw [fin] at ht;exact ⟨t,ht,rfl,rfl⟩
theorem yNi{m:Nat}{s:eC}(h:vf s)(hok:se m s)(hn:0<=s.now)(x:ActD):vf (uZ s x):=by
 have h1:vf { s with now:=s.now+1 }:=fun t ht=>by
  have q:=h t ht;exact ⟨⟨q.1.1,by show t.eF<=s.now+1;omega⟩,q.2.1,by show t.fI<=s.now+1;omega⟩
 have hg:=Lp (hok.clock (s.now+1)) x;have h2:=yVr h1 (hok.clock (s.now+1)) (by show (0:Int)<=s.now+1;omega) x;have nL:(eG { s with now:=s.now+1 } x).now=s.now+1:=hg.2.2.2.2.2.1;intro t ht;obtain ⟨i,hi⟩:=aO ht;unfold uZ mc at hi;rw [bM] at hi;show (0<=t.eF/\t.eF<=(eG { s with now:=s.now+1 } x).now)/\-1<=t.fI/\t.fI<=(eG { s with now:=s.now+1 } x).now
 cases hu:(eG { s with now:=s.now+1 } x).dW[i]? with
 | none=>rw [hu] at hi;cases hi
 | some u=>
  rw [hu,bK] at hi;have hi:=ax hi;have q:=h2 u (aC hu);split at hi
  ·rw [<-hi];exact ⟨q.1,by show -1<=(eG { s with now:=s.now+1 } x).now;rw [nL];omega,bR _⟩
  ·rw [<-hi];exact q
structure vg(s:eC):Prop where
 qi:lU s
 short:Cd s.dW
 tim:vf s
theorem vg.new{k:Nat}(h:1<=k/\k<=3)(safe:Bool):vg ⟨fq 2 k,[],0,safe,k⟩:=⟨yRx h safe,fun t ht=>(by cases ht),fun t ht=>(by cases ht)⟩
theorem vg.Mz{m:Nat}{s:eC}(h:vg s)(hok:se m s)(hn:s.now=m)(x:ActD):vg (uZ s x):=⟨yNj h.qi hok (by omega) x,yFf h.short x,yNi h.tim hok (by omega) x⟩
theorem Tryz.info3:(Tryz.prog.info? 3).map (fun i=>(i.zero,i.size,i.bytes))=some (some (.int .i64 0),1,8):=by kernel_rfl
theorem EM(o:List Nat):(eI o).length=o.length:=by simp [eI]
theorem ySe(w:World)(n:Nat)(hn:n<=1000):(Instr.makeSlice 26 (.int .i64 n) (.int .i64 n)).run Tryz.prog w=.ok (.slice (some ⟨w.heap.size,0,none⟩) n n) (w.alloc (.cells (madeCells #[.int .i64 0] n) 3)):=by
 obtain ⟨i0,hi,hz0,hz1,hz2⟩:=info_parts Tryz.info3;have:=run_make (P:=Tryz.prog) w 26 3 i0 _ Tryz.underlying26 hi hz0 .i64 .i64 n n (by omega) (by omega) (by rw [hz2];omega) (by omega);rw [hz1] at this;simpa [Value.cells] using this
theorem yRg(w:World)(n:Nat)(hn:n<=1000):(w.alloc (.cells (madeCells #[.int .i64 0] n) 3)).ownsRow w.heap.size 3 1 (.slice (some ⟨w.heap.size,0,none⟩) n n) n (ke [] n):=by
 refine ⟨by simp [ke],.inr ⟨w.heap.size,n,madeCells #[.int .i64 0] n,rfl,aF _,heap_alloc_new w _,aF _,by unfold maxLen;omega,by simp [madeCells],?_⟩⟩;rw [toList_madeCells_one,yRi];simp
theorem Gz{w w':World}(h:Mod (jN w.heap.size) w w'):Mod dZ w w':=h.mono (fun i hi e=>by simp only [jN] at e;omega)
theorem Qz{w:World}{L b n cap:Nat}{e:TypeId}{xs:List Value}(h:w.ownsRow L e 1 (.slice (some ⟨b,0,none⟩) n cap) n xs){j:Nat}{x:Value}(hx:xs[j]?=some x):w.cell? ⟨b,j,none⟩=some x:=by
 have:=h.cells (g:=b) rfl j x hx;rw [Go.WideShapes.add_plain,aX] at this;exact this
theorem UZ{w:World}{L b n cap:Nat}{e:TypeId}{xs:List Value}(h:w.ownsRow L e 1 (.slice (some ⟨b,0,none⟩) n cap) n xs)(j:Nat):w.frozen? ⟨b,j,none⟩=false/\b<w.heap.size:=by
 obtain ⟨_,h2,cur,h3⟩:=fW h (k:=b) rfl;exact ⟨by simp [World.frozen?,h3],h2⟩
def Cb(s:gK):Prop:=∀ k,(s k).there=false->s k=xP
theorem yMn:Cb jh:=fun _ _=>rfl
theorem yMm{s s1:gK}{o:fg}{u:List (ByteArray × VD)}(h:Cb s)(hd:ir s o=some (s1,u)):Cb s1:=by
 have key:∀ v:VD,(v.there=false->v=xP)->Cb (nG s o.key v):=fun v hv k hk=>by
  unfold nG at hk ⊢;split
  ·rename_i e;rw [aP e] at hk;exact hv hk
  ·rename_i e;rw [aK e] at hk;exact h k hk
 unfold ir at hd;split at hd
 ·split at hd
  ·simp at hd;obtain ⟨rfl,_⟩:=hd;exact h
  ·cases hd
 ·split at hd
  ·simp at hd;obtain ⟨rfl,_⟩:=hd;exact key _ (fun h=>by simp at h)
  ·split at hd
   ·simp at hd;obtain ⟨rfl,_⟩:=hd;exact key _ (fun _=>rfl)
   ·simp at hd;obtain ⟨rfl,_⟩:=hd;exact h
theorem Ue:∀ (os:List fg) (s s1:gK) (us:List (ByteArray × VD)),Cb s->gh s os=some (s1,us)->Cb s1
 | [],s,s1,us,h,hd=>by simp [gh] at hd;obtain ⟨rfl,_⟩:=hd;exact h
 | p :: os,s,s1,us,h,hd=>by
  rw [gh] at hd
  cases hp:ir s p with
  | none=>rw [hp] at hd;cases hd
  | some r=>
   rw [hp] at hd;simp only at hd
   cases hq:gh r.1 os with
   | none=>rw [hq] at hd;cases hd
   | some t=>
    rw [hq] at hd;simp at hd;obtain ⟨rfl,_⟩:=hd;exact Ue os r.1 t.1 t.2 (yMm h hp) hq
theorem MO{s s1:gK}{us:List (ByteArray × VD)}{ops:List fg}{k:Nat}{o:fg}(h:gh s (ops.take k)=some (s1,us))(ho:ops[k]?=some o):gh s (ops.take (k+1))=(ir s1 o).map (fun r=>(r.1,us++r.2)):=by
 have hk:=(aB.1 ho).1;rw [au hk];have:ops[k]=o:=by rw [aA hk] at ho;simpa using ho
 rw [this];exact UJ _ _ _ _ _ h
theorem yKw{s s1:gK}{us:List (ByteArray × VD)}{ops:List fg}{k:Nat}{o:fg}(h:gh s (ops.take k)=some (s1,us))(ho:ops[k]?=some o)(hf:ir s1 o=none):gh s ops=none:=by
 cases hq:gh s ops with
 | none=>rfl
 | some r=>
  obtain ⟨s2,vs,e⟩:=zXv ops s r.1 r.2 (k+1) hq;rw [MO h ho,hf] at e
  cases e
def Ed(w:World)(ts:List eM)(o:List Nat)(e:Ending)(w':World):Prop:=Mod dZ w w'/\∃ b:Bool,e=.returned (.bool b)/\(b=true↔(lY ts o/\Ch ts o/\∃ s2,gj ts jh o=some s2))
theorem Ed.no{w w':World}{ts:List eM}{o:List Nat}(hm:Mod dZ w w')(h:¬ (lY ts o/\Ch ts o/\∃ s2,gj ts jh o=some s2)):Ed w ts o (.returned (.bool false)) w':=⟨hm,false,rfl,⟨fun e=>by simp at e,fun e=>absurd e h⟩⟩
def Gd(ts:List eM)(o:List Nat)(i:Nat)(t:eM)(m:Nat):Prop:=∀ (k:Nat) u,k<m->ts[k]?=some u->0<=t.fI->t.fI<u.eF->kq o k 0≠0->¬ kq o k 0<kq o i 0
def Mh(ts:List eM)(o:List Nat)(j:Nat):Prop:=∀ (i:Nat) t,i<j->ts[i]?=some t->(0<=t.fI->kq o i 0≠0)/\Gd ts o i t ts.length
theorem yUs{ts:List eM}{o:List Nat}(h:Mh ts o ts.length):lY ts o/\Ch ts o:=
 ⟨fun i t ht h0=>(GH o i 0).1 ((h i t (aB.1 ht).1 ht).1 h0),fun i k t u ht hu h1 h2 h3=>(h i t (aB.1 ht).1 ht).2 k u (aB.1 hu).1 hu h1 h2 h3⟩
theorem Mh.more{ts:List eM}{o:List Nat}{j:Nat}{t:eM}(h:Mh ts o j)(ht:ts[j]?=some t)(h1:0<=t.fI->kq o j 0≠0)(h2:Gd ts o j t ts.length):Mh ts o (j+1):=fun i t' hi ht'=>by
 by_cases e:i=j
 ·subst e;rw [ht] at ht';simp at ht';subst ht';exact ⟨h1,h2⟩
 ·exact h i t' (by omega) ht'
theorem Gd.more{ts:List eM}{o:List Nat}{i m:Nat}{t u:eM}(h:Gd ts o i t m)(hu:ts[m]?=some u)(h1:¬ (0<=t.fI/\t.fI<u.eF/\kq o m 0≠0/\kq o m 0<kq o i 0)):Gd ts o i t (m+1):=fun k u' hk hu' q1 q2 q3 q4=>by
 by_cases e:k=m
 ·subst e;rw [hu] at hu';simp at hu';subst hu';exact h1 ⟨q1,q2,q3,q4⟩
 ·exact h k u' (by omega) hu' q1 q2 q3 q4
theorem yBi{ts:List eM}{o:List Nat}{p n:Nat}{t:eM}{s1:gK}(hg:gj ts jh (o.take p)=some s1)(hn:o[p]?=some n)(ht:ts[n]?=some t):gj ts jh (o.take (p+1))=(gh s1 t.ops).map (·.1):=by
 obtain ⟨hp,e⟩:=aB.1 hn;rw [au hp,e,TX,hg];simp only [cE];rw [gj,ht];simp only
 cases gh s1 t.ops with
 | none=>rfl
 | some r=>rfl
theorem yMx{ts:List eM}{o:List Nat}{p n:Nat}{t:eM}{s1:gK}(hg:gj ts jh (o.take p)=some s1)(hn:o[p]?=some n)(ht:ts[n]?=some t)(hd:gh s1 t.ops=none):¬ ∃ s2,gj ts jh o=some s2:=fun ⟨s2,h⟩=>by
 have h1:=yBi hg hn ht;rw [hd] at h1;rw [<-aq (p+1) o,TX,h1] at h
 cases h
theorem yCz(L:Nat)(tv ov:Value)(ts:List eM)(o:List Nat)(w:World)(ht:mo w L tv ts)(hL:L<=w.heap.size)(ho:jA w ov (eI o))(hnd:o.Nodup)(hin:∀ n∈o,n<ts.length)(hts:ts.length<=8)(kP:∀ t∈ts,t.ops.length<=200) :
  Calls Tryz.prog 25 #[tv,ov] w (Ed w ts o):=by
 obtain ⟨ta,gL,rfl,Nd,AN⟩:=fV.slice ht;have hol:o.length<=8:=by
  have:=dE hnd (l₂:=List.range ts.length) (fun x hx=>bZ.2 (hin x hx));simp at this;omega
 obtain ⟨oa,oH,rfl,Nz,AU,tC⟩:=ho;have hmk:=ySe w ts.length (by omega);have hrow:=yRg w ts.length (by omega);obtain ⟨w1,hw1⟩:∃ q,q=w.alloc (.cells (madeCells #[.int .i64 0] ts.length) 3):=⟨_,rfl⟩;rw [<-hw1] at hmk hrow;have dh:Mod dZ w w1:=by rw [hw1];exact (Mod.refl _ w).alloc _
 have HT:=dq ht;have Fs:=dq tC;have nr:=dq hnd;have mY:=dq hin;have zF:=dq (EM o);have vm:=dq kP;have Fq:=dq hrow;have fJ:=dq dh;unfold maxLen at AN AU;have hoI:((eI o).length:Int)<=8:=by have:=EM o;omega
 clear ht tC hnd hin kP hrow dh hw1;go_enter Tryz.func25,Tryz.ntmps25;go_wp2_with fail;go_loopw [24] (fun i wr=>∃ p:Nat,p<=(eI o).length/\i=.int .i64 p/\wr.ownsRow w.heap.size 3 1 (.slice (some ⟨w.heap.size,0,none⟩) ts.length ts.length) ts.length (ke (o.take p) ts.length)/\Mod dZ w wr) (fun i _=>(eI o).length - (intOf i).toNat)
 case atStart=>exact ⟨0,aT _,rfl,by simpa using Fq.out,fJ.out⟩
 case round=>
  obtain ⟨p,hp,rfl,hR,hM⟩:=hrel;clear Fq fJ hmk;by_cases hlt:p<(eI o).length
  ·have hpo:p<o.length:=by have:=zF.out;omega
   obtain ⟨n,hn⟩:∃ n,o[p]?=some n:=⟨_,aA hpo⟩;have sW:(eI o)[p]?=some (n:Int):=by unfold eI;rw [aa,hn];rfl
   have hnl:=mY.out n (aC hn);have hnn:n∉o.take p:=fun hm=>by
    obtain ⟨j,hj,e⟩:=cR hm;rw [List.getElem_take] at e;have hj':j<p:=by simp at hj;omega
    obtain ⟨p1,p2⟩:=aB.1 hn;exact (ao.1 nr.out) j p (by omega) p1 hj' (by rw [e,p2])
   rcases Fs.out with e | ⟨ob,off,rfl,hcl⟩
   ·rw [e] at hlt;simp at hlt
   have q0:=hM.cell (hcl p (n:Int) sW) id;have hz:kq (o.take p) n 0=0:=by
    by_cases e:kq (o.take p) n 0=0
    ·exact e
    ·exact absurd ((GH _ _ _).1 e) hnn
   have q1:=Qz hR (GJ (o.take p) hnl);rw [hz] at q1;obtain ⟨f1,z1⟩:=UZ hR n;have jd:(p:Int)<((eI o).length:Int):=by omega
   have lJ:(0:Int)<=(p:Int):=by omega
   have OG:(n:Int)<(ts.length:Int):=by omega
   have hn0:(0:Int)<=(n:Int):=by omega
   have hp8:(p:Int)<=1000:=by omega
   have htl:(o.take p).length=p:=by rw [aZ];omega
   have sC:o.take (p+1)=o.take p++[n]:=by
    rw [au hpo];rw [aA hpo] at hn;simp at hn;rw [hn]
   have hR':=yRf hR hnl (.int .i64 ((p:Int)+1));rw [show ((p:Int)+1)=(((o.take p).length:Nat):Int)+1 by rw [htl],yRh hnl hnn,<-sC,htl] at hR';have hM':Mod dZ w (wr.setCell ⟨w.heap.size,n,none⟩ (.int .i64 ((p:Int)+1))):=Gz (Mod.put (hM.mono (G':=jN w.heap.size) (fun _ _ e=>e.elim)) w.heap.size n (aF _) _);have Sr:=dq hR';have HM':=dq hM';clear hR hM hR' hM' hn sW hnn hz hcl sC htl;go_wp2_with fail;go_roundw
   case rel=>exact ⟨p+1,by omega,by go_num,Sr.out,HM'.out⟩
   case measure=>simp [intOf];omega
  ·have hpe:o.take p=o:=by have:=zF.out;rw [bL (by omega)]
   rw [hpe] at hR;have HR:=dq hR;have HM:=dq hM;clear hR hM hpe;go_wp2_with fail;go_loopw [52] (fun i wr=>∃ k:Nat,k<=ts.length/\i=.int .i64 k/\wr.ownsRow w.heap.size 3 1 (.slice (some ⟨w.heap.size,0,none⟩) ts.length ts.length) ts.length (ke o ts.length)/\Mh ts o k/\Mod dZ w wr) (fun i _=>ts.length - (intOf i).toNat)
   case atStart=>exact ⟨0,aT _,rfl,HR.out,fun i t h=>by omega,HM.out⟩
   case round=>
    clear HR HM;obtain ⟨k,hk,rfl,hR,hRO,hM⟩:=hrel;have Pw:=dq hRO;clear hRO;obtain ⟨wk,hwk⟩:∃ q,q=wr:=⟨_,rfl⟩;subst hwk;by_cases vH:k<ts.length
    ·obtain ⟨t,ht⟩:∃ t,ts[k]?=some t:=⟨_,aA vH⟩;obtain ⟨b,off,xv,rfl,hbL,xm,hints,q0,q1,q2⟩:=HT.out.at ht;obtain ⟨xa,fF,rfl,_⟩:=fV.slice xm;have WM:=hM.cell q0 id;have q1':=hM.cell q1 id;have q2':=hM.cell q2 id;have jd:(k:Int)<(ts.length:Int):=by omega
     have lJ:(0:Int)<=(k:Int):=by omega
     obtain ⟨w3,hw3⟩:∃ q,q=wk.alloc (.cells #[.slice xa t.ops.length fF,.int .i64 t.eF,.int .i64 t.fI] 46):=⟨_,rfl⟩;have dy:Mod dZ wk w3:=by rw [hw3];exact (Mod.refl _ wk).alloc _
     have lQ:dg w3 wk.heap.size [.slice xa t.ops.length fF,.int .i64 t.eF,.int .i64 t.fI] 46:=by rw [hw3];exact dg.new wk _ _
     have zB:=fm hR dy (fun _ _ _ _=>id);have r1:=Qz zB (GJ o vH);obtain ⟨f1,z1⟩:=UZ zB k;have x2:=lQ.cell 2 rfl;have z3:=lQ.lt;have BF:=dq zB;have qO:=dq lQ;have iI:=dq (hM.trans dy);have Fo:=dq ht;clear hR hM xm hints q0 q1 q2 ht dy lQ zB;go_upto_region 12 with fail;rw [<-hw3];clear hw3 WM q1' q2';obtain ⟨PY,Ih⟩:∃ q:Int,q=((kq o k 0:Nat):Int):=⟨_,rfl⟩;rw [<-Ih] at r1;have Qb:=dq Ih;clear Ih;go_cut [66] (fun v wc=>v=.bool (decide (0<=t.fI/\PY=0))/\wc=w3)
     case first=>
      by_cases htl:0<=t.fI
      ·have hd:decide (t.fI ≥ 0)=true:=aQ htl;by_cases SI:PY=0
       ·have SJ:(PY == 0)=true:=by simpa using SI
        clear SI;go_wp2_with fail;go_meet
        case rel=>exact ⟨by rw [aQ ⟨htl,by simpa using SJ⟩],rfl⟩
       ·have SJ:(PY == 0)=false:=by simpa using SI
        clear SI;go_wp2_with fail;go_meet
        case rel=>exact ⟨by rw [aL (fun h=>by rw [h.2] at SJ;simp at SJ)],rfl⟩
      ·have hd:decide (t.fI ≥ 0)=false:=aL htl;go_wp2_with fail;go_meet
       case rel=>exact ⟨by rw [aL (by omega)],rfl⟩
     case rest=>
      obtain ⟨DI,hwc⟩:=hcut;clear r1 f1 x2;rw [hwc];clear hwc;by_cases hbad:0<=t.fI/\PY=0
      ·rw [aQ hbad] at DI;subst DI;have zG:Hid (¬ lY ts o):=fun h=>by
        have h1:=(GH o k 0).2 (h k t Fo.out hbad.1);have h2:=Qb.out;have h3:=hbad.2;omega
       clear hbad;go_wp2_with fail;go_ret;exact Ed.no iI.out (fun h=>zG.out h.1)
      rw [aL hbad] at DI;subst DI;have tu:Hid (0<=t.fI->kq o k 0≠0):=fun h e=>hbad ⟨h,by have:=Qb.out;omega⟩;clear hbad;go_wp2_with fail;go_loopw [69] (fun i wx=>∃ m:Nat,m<=ts.length/\i=.int .i64 m/\wx.ownsRow w.heap.size 3 1 (.slice (some ⟨w.heap.size,0,none⟩) ts.length ts.length) ts.length (ke o ts.length)/\dg wx wk.heap.size [.slice xa t.ops.length fF,.int .i64 t.eF,.int .i64 t.fI] 46/\Gd ts o k t m/\Mod dZ w wx) (fun i _=>ts.length - (intOf i).toNat)
      case atStart=>exact ⟨0,aT _,rfl,BF.out,qO.out,fun i u h=>by omega,iI.out⟩
      case round=>
       clear BF qO iI;obtain ⟨m,hm,rfl,hR,hB,hRW,hM⟩:=hrel;have CP:=dq hRW;clear hRW;by_cases OQ:m<ts.length
       ·obtain ⟨u,hu⟩:∃ u,ts[m]?=some u:=⟨_,aA OQ⟩;obtain ⟨b',off',uv,hab,_,NZ,_,u0,u1,u2⟩:=HT.out.at hu;obtain ⟨ya,MZ,rfl,_⟩:=fV.slice NZ;simp only [ae,Addr.mk.injEq] at hab;obtain ⟨rfl,rfl,_⟩:=hab;have u0':=hM.cell u0 id;have u1':=hM.cell u1 id;have u2':=hM.cell u2 id;have hmI:(m:Int)<(ts.length:Int):=by omega
        have hm0:(0:Int)<=(m:Int):=by omega
        obtain ⟨w5,pB⟩:∃ q,q=wr.alloc (.cells #[.slice ya u.ops.length MZ,.int .i64 u.eF,.int .i64 u.fI] 46):=⟨_,rfl⟩;have eP:Mod dZ wr w5:=by rw [pB];exact (Mod.refl _ wr).alloc _
        have vT:dg w5 wr.heap.size [.slice ya u.ops.length MZ,.int .i64 u.eF,.int .i64 u.fI] 46:=by rw [pB];exact dg.new wr _ _
        have sX:=fm hR eP (fun _ _ _ _=>id);have Si:=hB.mod eP id;have rk:=Qz sX (GJ o vH);have rm:=Qz sX (GJ o OQ);obtain ⟨fk,zk⟩:=UZ sX k;have y1:=vT.cell 1 rfl;have y2:=Si.cell 2 rfl;have z5:=vT.lt;have zt:=Si.lt;have zE:=dq sX;have HBt:=dq Si;have kv:=dq (hM.trans eP);have HUM:=dq hu;clear hR hB hM NZ u0 u1 u2 hu eP vT sX Si;go_upto_region 17 with fail;rw [<-pB];clear pB u0' u1' u2';obtain ⟨am,SS⟩:∃ q:Int,q=((kq o m 0:Nat):Int):=⟨_,rfl⟩;obtain ⟨ak,YM⟩:∃ q:Int,q=((kq o k 0:Nat):Int):=⟨_,rfl⟩;rw [<-SS] at rm;rw [<-YM] at rk;have HAM:=dq SS;have HAK:=dq YM;clear SS YM;go_cut [101] (fun v wc=>v=.bool (decide (0<=t.fI/\t.fI<u.eF/\am > 0/\am<ak))/\Mod dZ w5 wc)
        case first=>
         by_cases htl:0<=t.fI
         ·have hd1:decide (t.fI ≥ 0)=true:=aQ htl;by_cases gI:t.fI<u.eF
          ·have hd2:decide (t.fI<u.eF)=true:=aQ gI;by_cases AT:am > 0
           ·have hd3:decide (am > 0)=true:=aQ AT;by_cases hpk:am<ak
            ·have hd4:decide (am<ak)=true:=aQ hpk;go_quiet (fail);go_wp2_with fail;go_meet
             case rel=>exact ⟨by rw [aQ ⟨htl,gI,AT,hpk⟩],(Mod.refl dZ w5).drewN _⟩
            ·have hd4:decide (am<ak)=false:=aL hpk;go_quiet (fail);go_wp2_with fail;go_meet
             case rel=>exact ⟨by rw [aL (by omega)],(Mod.refl dZ w5).drewN _⟩
           ·have hd3:decide (am > 0)=false:=aL AT;go_quiet (fail);go_wp2_with fail;go_meet
            case rel=>exact ⟨by rw [aL (by omega)],(Mod.refl dZ w5).drewN _⟩
          ·have hd2:decide (t.fI<u.eF)=false:=aL gI;go_quiet (fail);go_wp2_with fail;go_meet
           case rel=>exact ⟨by rw [aL (by omega)],(Mod.refl dZ w5).drewN _⟩
         ·have hd1:decide (t.fI ≥ 0)=false:=aL htl;go_quiet (fail);go_wp2_with fail;go_meet
          case rel=>exact ⟨by rw [aL (by omega)],(Mod.refl dZ w5).drewN _⟩
        case rest=>
         obtain ⟨wS,Io⟩:=hcut;by_cases hbad:0<=t.fI/\t.fI<u.eF/\am > 0/\am<ak
         ·rw [aQ hbad] at wS;subst wS;have QE:Hid (¬ Ch ts o):=fun h=>by
           have h1:=HAM.out;have h2:=HAK.out;exact h k m t u Fo.out HUM.out hbad.1 hbad.2.1 (by have:=hbad.2.2.1;omega) (by have:=hbad.2.2.2;omega)
          have CV:=dq (kv.out.trans Io);clear hbad Io rk rm y1 y2 fk;go_wp2_with fail;go_ret;exact Ed.no CV.out (fun h=>QE.out h.2.1)
         rw [aL hbad] at wS;subst wS;have Px:Hid (Gd ts o k t (m+1)):=CP.out.more HUM.out (fun h=>hbad ⟨h.1,h.2.1,by have:=HAM.out;have:=h.2.2.1;omega,by have:=HAM.out;have:=HAK.out;have:=h.2.2.2;omega⟩);clear hbad;have HRC:=dq (fm zE.out Io (fun _ _ _ _=>id));have HBC:=dq (HBt.out.mod Io id);have CV:=dq (kv.out.trans Io);clear Io rk rm y1 y2 fk;go_wp2_with fail;go_roundw
         case rel=>exact ⟨m+1,by omega,by go_num,HRC.out,HBC.out,Px.out,CV.out⟩
         case measure=>simp [intOf];omega
       ·have HR:=dq hR;have HM:=dq hM;clear hR hB hM;go_wp2_with fail;go_roundw
        case rel=>exact ⟨k+1,by omega,by go_num,HR.out,Pw.out.more Fo.out tu.out (by have h:=CP.out;rwa [show m=ts.length by omega] at h),HM.out⟩
        case measure=>simp [intOf];omega
    ·have CO:Hid (lY ts o/\Ch ts o):=yUs (by have h:=Pw.out;rwa [show k=ts.length by omega] at h);have hmm:=@run_makeMap Tryz.prog;obtain ⟨wj,Kf⟩:∃ q,q=wk.alloc (.map #[] 0):=⟨_,rfl⟩;have PH:lV wj wk.heap.size 0 jh:=by
      rw [Kf];exact ⟨.map [],World.ownsMap_made wk Tryz.prog 9 (plainElem Tryz.prog 9),fun k _=>⟨rfl,fun h=>by simp [jh,xP] at h⟩⟩
     have hmj:Mod dZ w wj:=by rw [Kf];exact hM.alloc _
     have HN0:=dq PH;have HMJ:=dq hmj;have SB:=hM.size;clear hR hM PH hmj;go_upto_region 22 with fail;rw [<-Kf];clear Kf;go_wp2_with fail;go_loopw [107] (fun i wx=>∃ (p n1:Nat) (s1:gK),p<=(eI o).length/\i=.int .i64 p/\gj ts jh (o.take p)=some s1/\Cb s1/\lV wx wk.heap.size n1 s1/\n1<=200*p/\Mod dZ w wx) (fun i _=>(eI o).length - (intOf i).toNat)
     case atStart=>exact ⟨0,0,jh,aT _,rfl,rfl,yMn,HN0.out,by omega,HMJ.out⟩
     case round=>
      clear HN0 HMJ hmm;obtain ⟨p,n1,s1,hp,rfl,hg1,htd,oL,yx,nT⟩:=hrel;have HTD:=dq htd;have HG1:=dq hg1;clear htd;obtain ⟨wp,hwp⟩:∃ q,q=wr:=⟨_,rfl⟩;subst hwp;by_cases OP:p<(eI o).length
      ·have hpo:p<o.length:=by have:=zF.out;omega
       obtain ⟨n,hn⟩:∃ n,o[p]?=some n:=⟨_,aA hpo⟩;have sW:(eI o)[p]?=some (n:Int):=by unfold eI;rw [aa,hn];rfl
       have hnl:=mY.out n (aC hn);obtain ⟨t,ht⟩:∃ t,ts[n]?=some t:=⟨_,aA hnl⟩;have hlo:=vm.out t (aC ht);rcases Fs.out with e | ⟨ob,off,rfl,hcl⟩
       ·rw [e] at OP;simp at OP
       obtain ⟨b,Vs,xv,rfl,hbL,xm,hints,q0,q1,q2⟩:=HT.out.at ht;obtain ⟨xa,fF,rfl,hxc1,Ws⟩:=fV.slice xm;have c0:=nT.cell (hcl p (n:Int) sW) id;have WM:=nT.cell q0 id;have jd:(p:Int)<((eI o).length:Int):=by omega
       have lJ:(0:Int)<=(p:Int):=by omega
       have OG:(n:Int)<(ts.length:Int):=by omega
       have hn0:(0:Int)<=(n:Int):=by omega
       unfold maxLen at Ws;have yO:=dq hn;have HTT:=dq ht;have Zi:=dq xm;have zH:=dq oL;have fJ:=dq nT;clear hg1 xm oL nT hn sW ht hcl q0 q1 q2 hints;go_wp2_with fail;go_loopw [117] (fun i wx=>∃ (j:Nat) (s3:gK) (us:List (ByteArray × VD)),j<=t.ops.length/\i=.int .i64 j/\gh s1 (t.ops.take j)=some (s3,us)/\lV wx wk.heap.size (n1+j) s3/\Mod dZ w wx) (fun i _=>t.ops.length - (intOf i).toNat)
       case atStart=>exact ⟨0,s1,[],aT _,rfl,by simp [gh],zH.out,fJ.out⟩
       case round=>
        clear zH fJ c0 WM;obtain ⟨j,s3,us,hj,rfl,Oj,hN,hM⟩:=hrel;by_cases Xh:j<t.ops.length
        ·obtain ⟨kind,key,value,found,ho⟩:∃ kind key value found,t.ops[j]?=some ⟨kind,key,value,found⟩:=⟨_,_,_,_,aA Xh⟩;obtain ⟨pb,Cy,IC,hpL,⟨hs1,hs2⟩,e0,e1,e2,e3⟩:=Zi.out.at ho;subst IC;have hs1:key.size<=maxLen:=hs1;have hs2:value.size<=maxLen:=hs2;have e0':wr.cell? ⟨pb,Cy+j*4,none⟩=some (.int .i64 kind):=hM.cell e0 id;have PV:wr.cell? ⟨pb,Cy+j*4+1,none⟩=some (.string key):=hM.cell e1 id;have e2':wr.cell? ⟨pb,Cy+j*4+2,none⟩=some (.string value):=hM.cell e2 id;have e3':wr.cell? ⟨pb,Cy+j*4+3,none⟩=some (.bool found):=hM.cell e3 id;have IW:(j:Int)<(t.ops.length:Int):=by omega
         have Kl:(0:Int)<=(j:Int):=by omega
         obtain ⟨w3,hw3⟩:∃ q,q=wr.alloc (.cells #[.int .i64 kind,.string key,.string value,.bool found] 51):=⟨_,rfl⟩;have dy:Mod dZ wr w3:=by rw [hw3];exact (Mod.refl _ wr).alloc _
         have lQ:dg w3 wr.heap.size [.int .i64 kind,.string key,.string value,.bool found] 51:=by rw [hw3];exact dg.new wr _ _
         have qy:=hN.mod dy id;obtain ⟨v,l3,vC,hvs⟩:=qy.look hs1;have x0:=lQ.cell 0 rfl;have x1:=lQ.cell 1 rfl;have x2:=lQ.cell 2 rfl;have x3:=lQ.cell 3 rfl;have z3:=lQ.lt;have CU:=dq qy;have iI:=dq (hM.trans dy);have La:=dq Oj;have QB:=dq ho;have Pj:=dq vC;obtain ⟨bt,Ot⟩:∃ q,q=(s3 key).there:=⟨_,rfl⟩;rw [<-Ot] at l3;have Lc:=dq Ot;clear Oj hN hM ho dy lQ qy vC Ot e0 e1 e2 e3;go_upto_region 28 with fail;rw [<-hw3];clear hw3 e0' PV e2' e3';by_cases h1:kind=1
         ·subst h1;have HT3:Hid (Cb s3):=Ue _ _ _ _ HTD.out La.out;have FR:s3 key≠yb ⟨1,key,value,found⟩->¬ ∃ s2,gj ts jh o=some s2:=fun e=>yMx HG1.out yO.out HTT.out (yKw La.out QB.out (by simp [ir,e]));have BV:=dq FR;have FQ:s3 key=yb ⟨1,key,value,found⟩->gh s1 (t.ops.take (j+1))=some (s3,us):=fun e=>by
           rw [MO La.out QB.out];simp [ir,e]
          have Fw:=dq FQ;clear FR FQ
          cases bt with
          | true=>
           cases found with
           | true=>
            by_cases hvv:v=value
            ·subst hvv;have gN:Hid (gh s1 (t.ops.take (j+1))=some (s3,us)):=Fw.out (by
              have h1:=Pj.out Lc.out.symm;have h2:=Lc.out;unfold yb;simp only [if_true];rw [h1,h2])
             go_wp2_with fail;go_roundw
             case rel=>exact ⟨j+1,s3,us,by omega,by go_num,gN.out,CU.out.mono (by omega),iI.out⟩
             case measure=>simp [intOf];omega
            ·have hvb:(v.toList == value.toList)=false:=by
              simp only [bc,ne_eq];intro e;rw [ByteArray.toList_eq,ByteArray.toList_eq] at e;exact hvv (RB e)
             have kS:Hid (¬ ∃ s2,gj ts jh o=some s2):=BV.out (fun e=>by
              have h1:=Pj.out Lc.out.symm;rw [e] at h1;exact hvv h1)
             clear hvv;go_wp2_with fail;go_ret;exact Ed.no iI.out (fun h=>kS.out h.2.2)
           | false=>
            have kS:Hid (¬ ∃ s2,gj ts jh o=some s2):=BV.out (fun e=>by
             have h2:=Lc.out;rw [e] at h2;simp [yb,xP] at h2)
            go_wp2_with fail;go_ret;exact Ed.no iI.out (fun h=>kS.out h.2.2)
          | false=>
           cases found with
           | true=>
            have kS:Hid (¬ ∃ s2,gj ts jh o=some s2):=BV.out (fun e=>by
             have h2:=Lc.out;rw [e] at h2;simp [yb] at h2)
            go_wp2_with fail;go_ret;exact Ed.no iI.out (fun h=>kS.out h.2.2)
           | false=>
            have gN:Hid (gh s1 (t.ops.take (j+1))=some (s3,us)):=Fw.out (HT3.out key Lc.out.symm);go_wp2_with fail;go_roundw
            case rel=>exact ⟨j+1,s3,us,by omega,by go_num,gN.out,CU.out.mono (by omega),iI.out⟩
            case measure=>simp [intOf];omega
         ·by_cases h2:kind=2
          ·subst h2;obtain ⟨D,hmap,hD⟩:=CU.out;have hmx:n1+j<maxLen:=by unfold maxLen;omega
           have QG:=dq hmap;have HD:=dq hD;have gN:Hid (gh s1 (t.ops.take (j+1))=some (nG s3 key ⟨value,true⟩,us++[(key,s3 key)])):=by
            rw [Hid,MO La.out QB.out];simp [ir]
           clear hmap hD;go_wp2_with (first
            | (at_mapUpdate;refine wpList_mapUpdate_own _ rfl _ _ _ 110 rfl 9 9 DF Tryz.underlying110 (plainElem Tryz.prog 9) wk.heap.size (n1+j) D rfl QG.out hmx _ _ (.string key.data.toList) rfl rfl (Go.WideMaps.keyOf_string_mk Tryz.underlying9 hs1) (.lit (.string value.data.toList)) [] (plainElem_string Tryz.underlying9 hs2) ?_)
            | fail)
           intro w7 eJ eS;have iO:Mod (eA wk.heap.size) w3 w7:=(Mod.refl _ w3).grown eS (fun x hx _=>by simp only [eA];simpa using hx.symm);have Ox:=lV.put QG.out.isMap HD.out eJ;have Iq:Mod dZ w w7:=iI.out.trans' iO (fun i hi e=>by simp only [eA] at e;omega);have ZN:=dq Ox;have yQ:=dq Iq;clear Ox Iq iO eJ eS x0 x1 x2 x3;go_wp2_with fail;go_roundw
           case rel=>exact ⟨j+1,_,_,by omega,by go_num,gN.out,ZN.out,yQ.out⟩
           case measure=>simp [intOf];omega
          ·by_cases h3:kind=3
           ·subst h3;obtain ⟨D,hmap,hD⟩:=CU.out;have hmx:n1+j<maxLen:=by unfold maxLen;omega
            have QG:=dq hmap;have HD:=dq hD;have gN:Hid (gh s1 (t.ops.take (j+1))=some (nG s3 key xP,us++[(key,s3 key)])):=by
             rw [Hid,MO La.out QB.out];simp [ir]
            clear hmap hD;go_wp2_with (first
             | (at_delete;refine wpList_delete_own _ rfl _ _ 110 9 rfl 9 DF Tryz.underlying110 (plainElem Tryz.prog 9) wk.heap.size (n1+j) D rfl QG.out _ (.string key.data.toList) rfl (Go.WideMaps.keyOf_string_mk Tryz.underlying9 hs1) ?_)
             | fail)
            intro w7 eJ eS;have iO:Mod (eA wk.heap.size) w3 w7:=(Mod.refl _ w3).grown eS.grown (fun x hx _=>by simp only [eA];simpa using hx.symm);have Ox:=lV.del (QG.out.tidy DF) HD.out eJ;have Iq:Mod dZ w w7:=iI.out.trans' iO (fun i hi e=>by simp only [eA] at e;omega);have ZN:=dq Ox;have yQ:=dq Iq;clear Ox Iq iO eJ eS x0 x1 x2 x3;go_wp2_with fail;go_roundw
            case rel=>exact ⟨j+1,_,_,by omega,by go_num,gN.out,ZN.out.mono (by omega),yQ.out⟩
            case measure=>simp [intOf];omega
           ·have d1:(kind == 1)=false:=by simpa using h1
            have d2:(kind == 2)=false:=by simpa using h2
            have d3:(kind == 3)=false:=by simpa using h3
            have gN:Hid (gh s1 (t.ops.take (j+1))=some (s3,us)):=by
             rw [Hid,MO La.out QB.out];simp [ir,h1,h2,h3]
            clear h1 h2 h3;go_wp2_with fail;go_roundw
            case rel=>exact ⟨j+1,s3,us,by omega,by go_num,gN.out,CU.out.mono (by omega),iI.out⟩
            case measure=>simp [intOf];omega
        ·obtain rfl:j=t.ops.length:=by omega
         have Ic:gh s1 t.ops=some (s3,us):=by rw [bJ] at Oj;exact Oj
         have gN:Hid (gj ts jh (o.take (p+1))=some s3/\Cb s3):=⟨by rw [yBi HG1.out yO.out HTT.out,Ic];rfl,Ue _ _ _ _ HTD.out Ic⟩;have HN:=dq hN;have HM:=dq hM;clear Oj Ic hN hM;go_wp2_with fail;go_roundw
         case rel=>exact ⟨p+1,n1+t.ops.length,s3,by omega,by go_num,gN.out.1,gN.out.2,HN.out,by omega,HM.out⟩
         case measure=>simp [intOf];omega
      ·go_wp2_with fail;go_ret;have hpe:o.take p=o:=by have:=zF.out;rw [bL (by omega)]
       have hg2:=HG1.out;rw [hpe] at hg2;exact ⟨nT,true,rfl,⟨fun _=>⟨CO.out.1,CO.out.2,s1,hg2⟩,fun _=>rfl⟩⟩
section
variable {H:Type} {enc:TypeId × Value->H} {w:World} {base:Nat} {spare:Nat->Bool} {held:Bool}
end
end Go.Proofs.YtmaiggbnceejiaaGreatDoor
