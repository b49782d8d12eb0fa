import Derived.Test.YtmaiggbnceejiaaGreatDoorP24
set_option linter.unusedVariables false
set_option maxRecDepth 100000
set_option maxHeartbeats 16000000
namespace Go.Proofs.YtmaiggbnceejiaaGreatDoor
open Go.RowKit Go.Lib Go.Maps
def RI(n c g:Nat)(w:World)(y:dX)(s:dW)(wr:World)(f:Nat):Prop:=∃ (S:dW) (yr:dX),wQ s=fO f S/\iv S/\oo S<f/\gS S<=gS s/\du wr n c g yr S/\eJ w y wr yr
theorem yGw(s:dW):s.net.lost<=gS s:=by unfold gS;omega
theorem yNz(n c g:Nat)(y:dX)(s:dW)(w:World)(h:du w n c g y s)(hC:iv s)(hc:c<=10000)(hlo:gS s+750800<=4611686018427387904) :
  Calls Tryz.prog 45 #[.pointer (some ⟨g,0,none⟩)] w fun e w'=>e=.returned (.tuple #[])/\∃ y',du w' n c g y' (wQ s)/\eJ w y w' y':=by
 have HH:=dU h;have HC:=dU hC;have my:=dU hlo;clear h hC hlo;go_enter Tryz.func45,Tryz.ntmps45;go_wp2_with fail;go_loopw [] (fun wr=>∃ f,RI n c g w y s wr f) (yX (RI n c g w y s))
 case atStart=>exact ⟨_,s,y,rfl,HC.out,Nat.lt_succ_self _,bG _,HH.out,eJ.refl _ _⟩
 case round=>
  obtain ⟨S,yr,he,hC,RX,hpo,hH,hK⟩:=Tg hrel;obtain ⟨f,xO⟩:∃ f,f=yX (RI n c g w y s) wr:=⟨_,rfl⟩;rw [<-xO] at he RX;have IW:=dU xO;clear hrel xO;have IL:=dU (yCb n c g yr S wr hH);have fW:=hC.few;obtain ⟨f',rfl⟩:∃ f',f=f'+1:=⟨f - 1,by omega⟩
  cases hw:S.net.way with
  | nil=>
   have HE:Hid (wQ s=S):=by
    unfold Hid;rw [he];unfold fO;rw [hw];rfl
   rw [hw] at IL fW;have HF:Hid (∃ y',du wr n c g y' (wQ s)/\eJ w y wr y'):=⟨yr,by rw [HE.out];exact hH,hK⟩;clear hH hK hC he RX hpo hw;go_wp2_with fail;refine IL.out.mono ?_;rintro e w1 ⟨rfl,rfl⟩;clear IL;go_wp2_with fail;go_end0;exact ⟨rfl,HF.out⟩
  | cons m R=>
   have hne:S.net.way≠[]:=by rw [hw];simp
   have hi:S.net.way[0]?=some m:=by rw [hw];rfl
   obtain ⟨a,b,d⟩:=hC.fN hne;have mw:=yGw S;have hl2:=my.out;have vS:=dU (zVb n c g yr S 0 m wr hH hC.safe hC.held hc hi (by omega));have Wx:gS (im S 0)<=gS S:=by
    have e:=Ui hC.safe hC.held 0;unfold gS;omega
   have IF:Hid (∀ wq yq,du wq n c g yq (im S 0)->eJ w y wq yq->RI n c g w y s wq f'):=fun wq yq h1 h2=>⟨im S 0,yq,by
    rw [he];show (if S.net.way.isEmpty=true then S else fO f' (im S 0))=_;rw [hw];rfl,a,by omega,by omega,h1,h2⟩
   have HK:=dU hK;rw [hw] at IL fW;have hp:(0:Int)<((m :: R).length:Int):=by simp only [aW];omega
   generalize (m :: R).length=q at IL hp fW;clear hH hK hC he RX hpo a b d hw hne hi Wx mw hl2;go_wp2_with fail;refine IL.out.mono ?_;rintro e w1 ⟨rfl,rfl⟩;clear IL;go_wp2_with fail;refine vS.out.mono ?_;rintro e w2 ⟨rfl,y2,mS,hK2⟩;have HI:=dU (IF.out w2 y2 mS (HK.out.trans hK2));clear mS hK2 vS;go_wp2_with fail;go_roundw
   case rel=>exact ⟨f',HI.out⟩
   case measure=>
    have h1:=Th HI.out;have h2:=IW.out;omega
def jZ:Nat->dW->dW
 | 0,s=>s
 | n+1,s=>od (jZ n s)
theorem zWd{s:dW}(h:iv s):∀ i,iv (jZ i s)/\kS s (jZ i s)/\gS (jZ i s)<=gS s+9040000000*i
 | 0=>⟨h,kS.refl h.safe h.held,by simp [jZ]⟩
 | i+1=>by
  obtain ⟨a,b,c⟩:=zWd h i;obtain ⟨a',b',c',_⟩:=wk a;refine ⟨a',b.trans b',?_⟩;show gS (od (jZ i s))<=_;omega
def JO(n c g:Nat)(w:World)(y:dX)(s:dW)(b0:Value)(wr:World)(f:Nat):Prop:=∃ (S:dW) (yr:dX) (b:Int),b0=.int .i64 b/\iv S/\du wr n c g yr S/\eJ w y wr yr/\(b≠kG S/\kD s=gd f S/\10000 - kG S<f/\gS S+36160000000*f<=gS s+36160000000*10001\/b=kG S/\S=kD s)
theorem Sv(n c g:Nat)(y:dX)(s:dW)(w:World)(h:du w n c g y s)(hC:iv s)(hc:c<=10000)(hlo:gS s+400000000000000<=4611686018427387904) :
  Calls Tryz.prog 16 #[.pointer (some ⟨g,0,none⟩)] w fun e w'=>e=.returned (.tuple #[])/\∃ y',du w' n c g y' (kD s)/\eJ w y w' y':=by
 have HH:=dU h;have HC:=dU hC;have my:=dU hlo;clear h hC hlo;go_enter Tryz.func16,Tryz.ntmps16;go_wp2_with fail;go_loopw [2] (fun b0 wr=>∃ f,JO n c g w y s b0 wr f) (fun b0 wr=>yX (JO n c g w y s b0) wr)
 case atStart=>exact ⟨10001,s,y,-1,rfl,HC.out,HH.out,eJ.refl _ _,.inl ⟨by omega,rfl,by omega,bG _⟩⟩
 case round=>
  obtain ⟨S,yr,b,hb,hC,hH,hK,Jf⟩:=Tg hrel;obtain ⟨f,xO⟩:∃ f,f=yX (JO n c g w y s u2) wr:=⟨_,rfl⟩;rw [<-xO] at Jf;have IW:=dU xO;clear hrel xO;subst hb;have AY:Hid (∀ wq,Mod dZ wr wq->Calls Tryz.prog 44 #[.pointer (some ⟨g,0,none⟩)] wq fun e w'=>e=.returned (.int .i64 (kG S))/\Mod dZ wq w'):=fun wq hq=>yMt n c g yr S wq (hH.quiet hq) hC.safe;rcases Jf with ⟨hne,he,BP,hpo⟩ | ⟨rfl,rfl⟩
  ·obtain ⟨f',rfl⟩:∃ f',f=f'+1:=⟨f - 1,by omega⟩;have IF:Hid (∀ wq yq,du wq n c g yq (ff S)->eJ w y wq yq->∃ f2,f2<=f'/\JO n c g w y s (.int .i64 (kG S)) wq f2):=fun wq yq h1 h2=>by
    obtain ⟨q1,q2,q3,_⟩:=Lk hC;have hk2:=yGz q1.safe;have hk1:=q2.mv.known;have wC:kD s=if kG (ff S)=kG S then ff S else gd f' (ff S):=he
    by_cases e:kG (ff S)=kG S
    ·rw [aJ e] at wC;exact ⟨0,aV _,ff S,yq,_,rfl,q1,h1,h2,.inr ⟨by rw [e],wC.symm⟩⟩
    ·rw [aE e] at wC;exact ⟨f',aF _,ff S,yq,_,rfl,q1,h1,h2,.inl ⟨by omega,wC,by omega,by omega⟩⟩
   have hl2:=my.out;have hpS:gS S+36160000000+750800<=4611686018427387904:=by omega
   have hneb:((b:Int) != ((kG S:Nat):Int))=true:=by simpa using hne
   have LB:=dU (AY.out wr (Mod.refl _ _));have vP:=dU hH;have HK:=dU hK;have Ey:=dU hC;have Zv:Hid (yX (JO n c g w y s (.int .i64 b)) wr=f'+1):=IW.out.symm;have qs:=dU hpS;clear hH hK hC he BP hpo hne hl2 IW hpS;go_upto_region 2 with (first
    | (go_at_call 44;refine LB.out.mono ?_;rintro e w1 ⟨rfl,di⟩)
    | fail)
   have Aa:=dU (AY.out w1 di);clear LB AY;go_upto_region 3 with (first
    | (go_at_call 44;refine Aa.out.mono ?_;rintro e w2 ⟨rfl,hm2⟩)
    | fail)
   have lU:=dU (vP.out.quiet (di.trans hm2));have wK:=dU (HK.out.trans (eJ.quiet (di.trans hm2)));clear di hm2 Aa;go_wp2_with fail;go_loopw [9] (fun i0 wi=>∃ (i:Nat) (yi:dX),i<=4/\i0=.int .i64 i/\du wi n c g yi (jZ i S)/\eJ w y wi yi) (fun i0 _=>4 - (intOf i0).toNat)
   case atStart=>exact ⟨0,yr,aV _,rfl,lU.out,wK.out⟩
   case round=>
    obtain ⟨i,yi,hil,rfl,kP,rn⟩:=hrel;by_cases Cl:i<4
    ·obtain ⟨a,_,p⟩:=zWd Ey.out i;obtain ⟨a2,_,p2,_⟩:=a.tick;have hps:=qs.out;have mw:=yGw (jZ i S);have DM:=dU (yGi n c g yi (jZ i S) wr kP a.safe (by omega));have LD:Hid (∀ wq yq,du wq n c g yq (jv (jZ i S))->Calls Tryz.prog 45 #[.pointer (some ⟨g,0,none⟩)] wq fun e w'=>e=.returned (.tuple #[])/\∃ y',du w' n c g y' (jZ (i+1) S)/\eJ wq yq w' y'):=fun wq yq hq=>yNz n c g yq _ wq hq a2 hc (by omega);have wB:(i:Int)<4:=by omega
     have hi0:(0:Int)<=(i:Int):=by omega
     have Pd:=dU rn;clear kP rn a a2 p p2 hps mw;go_wp2_with fail;refine DM.out.mono ?_;rintro e w4 ⟨rfl,y4,pQ,hK4⟩;have Pp:=dU (LD.out w4 y4 pQ);have AZ:=dU (Pd.out.trans hK4);clear pQ hK4 DM LD;go_wp2_with fail;refine Pp.out.mono ?_;rintro e w5 ⟨rfl,y5,kt,ox⟩;have HF:Hid (du w5 n c g y5 (jZ (i+1) S)/\eJ w y w5 y5):=⟨kt,AZ.out.trans ox⟩;clear kt ox Pp;go_wp2_with fail;go_roundw
     case rel=>exact ⟨i+1,y5,by omega,by go_num,HF.out.1,HF.out.2⟩
     case measure=>simp [intOf];omega
    ·have hi4:decide ((i:Int)<4)=false:=aP (by omega);have Kw:Hid (∃ f2,f2<=f'/\JO n c g w y s (.int .i64 (kG S)) wr f2):=by
      have e:i=4:=by omega
      rw [e] at kP;exact IF.out wr yi kP rn
     clear kP rn;go_wp2_with fail;obtain ⟨f2,hf2,hI2⟩:=Kw.out;go_roundw
     case rel=>exact ⟨f2,hI2⟩
     case measure=>
      have h1:=Th hI2;have h2:=Zv.out;omega
  ·have HF:Hid (∀ wq,Mod dZ wr wq->∃ y',du wq n c g y' (kD s)/\eJ w y wq y'):=fun wq hq=>⟨yr,hH.quiet hq,hK.trans (eJ.quiet hq)⟩;have LB:=dU (AY.out wr (Mod.refl _ _));clear hH hK hC AY IW;generalize kG (kD s)=kn at LB;have hbb:((kn:Int) != (kn:Int))=false:=by simp
   go_wp2_with fail;refine LB.out.mono ?_;rintro e w1 ⟨rfl,di⟩;have Sl:=dU (HF.out w1 di);clear di LB HF;go_wp2_with fail;go_end0;exact ⟨rfl,Sl.out⟩
theorem yMw{B N:Nat}{q:iL}{s:fv}{w:World}:Ib 121 #[] (fun _=>true) B N q s w:=by
 refine ⟨wR Tryz.func121 (by kernel_rfl) rfl,fun k wr hk hT hm=>?_⟩;show Calls Tryz.prog 121 #[.agg #[q.hd k true,q.hd k false]] wr _;obtain ⟨ha,hcap,mh⟩:=fJ (hT.rows k true hk id);obtain ⟨wa,fz,iT⟩:=fJ (hT.rows k false hk id);rw [mh,iT];have fg:Hid (Mod dZ wr (wr.alloc (.cells #[.slice ha (s k).held.length hcap,.slice wa (s k).waits.length fz] 168))):=(Mod.refl _ wr).alloc _;clear hT hm mh iT;go_enter Tryz.func121,Tryz.ntmps121;go_wp2_with fail;go_ret;exact ⟨rfl,fg.out⟩
theorem yQt(B N:Nat)(q:iL)(s:fv)(w:World)(h:oX w B N q s)(Ca:q.n<=1000000) :
  Calls Tryz.prog 74 #[.pointer (some ⟨q.b,q.pre.length,none⟩)] w (RJ w s (fun _=>true) q.n):=by
 have HN:=dU (yBm 121 #[] (fun _=>true) B N q s w h yMw Ca);clear h;go_enter Tryz.func74,Tryz.ntmps74;go_wp2_with fail;refine HN.out.mono ?_;rintro e w2 ⟨v,ks,rfl,hk,hs,hv,hl,hm⟩;obtain ⟨a,cap,rfl,h1,h2⟩:=gG.slice hk;have HK:=dU hk;clear hk;go_wp2_with fail;go_ret;exact ⟨_,ks,rfl,HK.out,hs,hv,hl,hm⟩
def Dc(s:dW)(id:Int)(key:ByteArray):Bool:=decide (id∈(s.keys key).waits.map (·.tx))
theorem yHx(n c g q1 q2:Nat)(y:dX)(s:dW)(id:Int)(key:ByteArray)(w:World)(h:du w n c g y s)(hk:fj key)(h1:w.cell? ⟨q1,0,none⟩=some (.pointer (some ⟨g,0,none⟩)))(h2:w.cell? ⟨q2,0,none⟩=some (.int .i64 id)) :
  Calls Tryz.prog 75 (#[.string key]++#[.pointer (some ⟨q1,0,none⟩),.pointer (some ⟨q2,0,none⟩)]) w fun e w'=>e=.returned (.bool (Dc s id key))/\Mod dZ w w':=by
 have hd:=h.quiet ((Mod.refl dZ w).drewN 1);have hW:Calls Tryz.prog 77 #[.pointer (some ⟨g,5,none⟩),.string key] w.drew fun e w'=>∃ u,e=.returned u/\jL w' w.drew.heap.size u ((s.keys key).waits.map (·.tx))/\Mod dZ w.drew w':=yKx n 120 (y.tb g s.net.lost) s.keys key w.drew hd.xB hk (by omega);have HWT:Hid (Dc s id key=decide (id∈(s.keys key).waits.map fun (d:dg)=>d.tx)):=rfl;generalize ((s.keys key).waits.map fun (d:dg)=>d.tx)=tl at hW HWT;have HW:=dU hW;have hg:=h.blk.lt;clear h hd hW;go_enter Tryz.func75,Tryz.ntmps75;go_upto_region 1 with fail;go_region_with (first
  | (go_at_call 77;(refine HW.out.mono ?_;rintro e w1 ⟨u,rfl,hu,di⟩;(have p2:=(((Mod.refl dZ w).drewN 1).trans di).cell h2 (fun e=>e));obtain ⟨ua,uc,CY⟩:=fJ hu;(have HC:=dU (zQi u tl id w1 (mz.iY hu)));(have HM:=dU (((Mod.refl dZ w).drewN 1).trans di));subst CY;clear hu di))
  | (go_at_call 76;refine HC.out.mono ?_;rintro e w2 ⟨rfl,rfl⟩)
  | fail)
 all_goals
  go_wp2_with fail;go_ret;exact ⟨by rw [HWT.out];rfl,HM.out⟩
open Classical in
theorem yPg{s:dW}{id:Int}{ks:List ByteArray}(hn:Ie s.keys (fun _=>true) ks)(hs:∀ k:ByteArray,20<k.size->(s.keys k).held=[]/\(s.keys k).waits=[]):ks.any (Dc s id)=xr s id:=by
 have e:∀ k,(s.keys k).waits.any (fun c=>decide (c.tx=id))=Dc s id k:=fun k=>by
  unfold Dc;rw [cN,cK,decide_eq_true_iff,ag];simp only [ar]
 unfold xr;rw [cN,cK,decide_eq_true_iff];constructor
 ·rintro ⟨k,_,h2⟩;exact ⟨k,by rw [e];exact h2⟩
 ·rintro ⟨k,h2⟩;rw [e] at h2;refine ⟨k,(hn.2 k).2 ⟨?_,?_,rfl⟩,h2⟩
  ·unfold fj maxLen;apply aR;intro hq;have:=(hs k (by omega)).2;unfold Dc at h2;rw [this] at h2;simp at h2
  ·intro hb;unfold Dc at h2;rw [hb.2] at h2;simp at h2
theorem yJg(n c g:Nat)(y:dX)(s:dW)(id:Int)(w:World)(h:du w n c g y s)(hc:c<=10000)(hs:∀ k:ByteArray,20<k.size->(s.keys k).held=[]/\(s.keys k).waits=[]) :
  Calls Tryz.prog 41 #[.pointer (some ⟨g,0,none⟩),.int .i64 id] w fun e w'=>e=.returned (.bool (xr s id))/\Mod dZ w w':=by
 obtain ⟨w1,hw1⟩:∃ x,x=(w.alloc (.cells #[.pointer (some ⟨g,0,none⟩)] 35)).alloc (.cells #[.int .i64 id] 3):=⟨_,rfl⟩;have di:Mod dZ w w1:=by rw [hw1];exact ((Mod.refl _ w).alloc _).alloc _
 have hb0:dh w1 w.heap.size [.pointer (some ⟨g,0,none⟩)] 35:=by rw [hw1];exact (dh.new w _ _).mod ((Mod.refl dZ _).alloc _) (fun e=>e)
 have hb1:dh w1 (w.heap.size+1) [.int .i64 id] 3:=by
  rw [hw1];have:=dh.new (w.alloc (.cells #[.pointer (some ⟨g,0,none⟩)] 35)) [.int .i64 id] 3;simpa using this
 have h1:=h.quiet di;have x0:=hb0.cell 0 rfl;have hg:=h1.blk.lt;have hq:=h1.qn.2.2;have hKE:Calls Tryz.prog 74 #[.pointer (some ⟨g,5,none⟩)] w1 (RJ w1 s.keys (fun _=>true) y.q.n):=yQt n 120 (y.tb g s.net.lost) s.keys w1 h1.xB (by show y.q.n<=1000000;omega);have yN:=dU hKE;have uB:∀ fn first cap w,(Instr.makeFunc fn first cap).run Tryz.prog w=.ok (.func fn first cap) w:=fun _ _ _ _=>rfl
 have HH:=dU h1;have nW:=dU hb0;have mV:=dU hb1;have fg:=dU di;have HS:=dU hs;clear h h1 hb0 hb1 di hKE hs;go_enter Tryz.func41,Tryz.ntmps41;go_upto_region 1 with fail;rw [<-hw1];clear hw1;go_wp2_with fail;refine yN.out.mono ?_;rintro e w2 ⟨v,ks,rfl,hks,hns,uE,hkl,hm2⟩;have HA:mF 75 #[.pointer (some ⟨w.heap.size,0,none⟩),.pointer (some ⟨w.heap.size+1,0,none⟩)] (fun (d:ByteArray)=>.string d) ks (Dc s id) (fun wr=>du wr n c g y s/\wr.cell? ⟨w.heap.size,0,none⟩=some (.pointer (some ⟨g,0,none⟩))/\wr.cell? ⟨w.heap.size+1,0,none⟩=some (.int .i64 id)):=
  ⟨wR Tryz.func75 (by kernel_rfl) rfl,fun wa wb hh hm=>⟨hh.1.quiet hm,hm.cell hh.2.1 (fun e=>e),hm.cell hh.2.2 (fun e=>e)⟩,fun d hd wr hh=>yHx n c g _ _ y s id d wr hh.1 ((hns.2 d).1 hd).1 hh.2.1 hh.2.2⟩
 have Pr:=dU (zVu 75 w2.heap.size _ _ v ks w2 _ hks HA ⟨HH.out.quiet hm2,hm2.cell (nW.out.cell 0 rfl) (fun e=>e),hm2.cell (mV.out.cell 0 rfl) (fun e=>e)⟩ (by omega));rw [yPg hns HS.out] at Pr;obtain ⟨va,vc,lI,-,-⟩:=gG.slice hks;subst lI;have gu:=dU (fg.out.trans hm2);clear hks hns uE hkl hm2 HA yN;go_wp2_with fail;refine Pr.out.mono ?_;rintro e w3 ⟨rfl,dz⟩;have jt:=dU (gu.out.trans dz);clear dz Pr;go_wp2_with fail;go_ret;exact ⟨rfl,jt.out⟩
theorem VO(n c g:Nat)(y:dX)(s:dW)(id:Int)(w:World)(h:du w n c g y s)(hS:Safe s)(oy:Held s)(hc:c<=10000)(hlo:s.net.lost+750600<=4611686018427387904) :
  Calls Tryz.prog 15 #[.pointer (some ⟨g,0,none⟩),.int .i64 id] w (iQ w n c g y (fa s id).1 (fa s id).2):=by
 have pT:=dU (Tc n c g y s id w h hS.tl);by_cases ho:nX s id=0
 ·rw [ho,oL] at pT;obtain ⟨i,rfl,hi1,hi2,hst⟩:=nY ho;have IA:=dU (yJg n c g y s i w h hc oy.small)
  cases hw:xr s i with
  | true=>
   rw [hw] at IA;have HD:Hid (fa s i=(s,11)):=by unfold Hid fa;rw [aE (fun q=>q ho),hw];rfl
   have HH:=dU h;clear h ho hw;go_enter Tryz.func15,Tryz.ntmps15;go_wp2_with (first
    | (go_at_call 35;refine pT.out.mono ?_;rintro e w1 ⟨rfl,rfl⟩)
    | (go_at_call 41;refine IA.out.mono ?_;rintro e w2 ⟨rfl,hm2⟩;have HF:Hid (iQ w1 n c g y (fa s i).1 (fa s i).2 (.returned (.iface 90 (.int .i64 11))) w2):=(by unfold Hid;rw [HD.out];exact ⟨by rw [mJ (by omega)],y,HH.out.quiet hm2,eJ.quiet hm2⟩);clear hm2)
    | fail)
   go_ret;exact HF.out
  | false=>
   rw [hw] at IA;have HD:Hid (fa s i=(mH (jd (dY s i { s.tx i with state:=2 })),0)):=by unfold Hid fa;rw [aE (fun q=>q ho),hw,aS];rfl
   have Gy:Safe (dY s i { s.tx i with state:=2 }):=hS.write (ws:=(s.tx i).writes) hi1 hi2 hst (hS.tx i hi1 hi2).few (.inr rfl);have uy:Held (dY s i { s.tx i with state:=2 }):=oy.ending hi1 hi2 rfl hst (Dj hw);obtain ⟨t1,t2,-⟩:=sV Gy;have Cw:Held (jd (dY s i { s.tx i with state:=2 })):=(t2.rV t1 uy).held;have Hm:=LO Gy;have htl:=hS.tl;have PH:Hid (∀ wq,Mod dZ w wq->∃ b,y.ja[i - 1]?=some b/\tJ wq n y b (s.tx i)/\Calls Tryz.prog 34 #[.pointer (some ⟨g,0,none⟩),.int .i64 i] wq fun e w'=>e=.returned (.pointer (some ⟨b,0,none⟩))/\w'=wq):=fun wq hq=>by
    obtain ⟨b,hb,hT⟩:=(h.quiet hq).xA hi1 hi2;exact ⟨b,hb,hT,xw n c g y s i b wq (h.quiet hq) hi1 (by omega) hb⟩
   have HH:=dU h;have ZM:=dU Gy;have oY:=dU t1;have Kq:=dU Cw;have DM:=dU (tk (s:=s) hi1 hi2);have BK:(dY s i { s.tx i with state:=2 }).net.lost=s.net.lost:=rfl;clear h ho hw Gy uy t1 t2 Cw hS oy hst;go_enter Tryz.func15,Tryz.ntmps15;go_upto_region 6 with (first
    | (go_at_call 35;refine pT.out.mono ?_;rintro e w1 ⟨rfl,rfl⟩)
    | (go_at_call 41;refine IA.out.mono ?_;rintro e w2 ⟨rfl,hm2⟩)
    | fail)
   obtain ⟨b,hb,hT,BR⟩:=PH.out w2 hm2;have nU:=dU BR;have p0:=hT.blk.cell 0 rfl;have f0:=hT.blk.frozen 0;have zb:=hT.blk.lt;obtain ⟨w3,hw3⟩:∃ x,x=w2.setCell ⟨b,0,none⟩ (.int .i64 2):=⟨_,rfl⟩;have dz:Mod (eF b) w2 w3:=by rw [hw3];exact Mod.dq b 0 _
   have qB:dh w3 b [.int .i64 2,y.jN b,y.jf b,.int .i64 (s.tx i).time] 86:=by rw [hw3];exact hT.blk.set 0 _
   have ji:=oM hT.ats hT.blk (by decide);have yH:=oM hT.wr hT.blk (by decide);obtain ⟨rp,OI⟩:=(HH.out.quiet hm2).pd hb DM.out (t':={ s.tx i with state:=2 }) (av:=y.jN b) (wv:=y.jf b) (dz.mono (fun x _ e=>.inl e)) qB (gD hT.ats dz (fun k _ _ e q=>ji (by rw [e];exact ae some q))) (gD hT.wr dz (fun k _ _ e q=>yH (by rw [e];exact ae some q))) (.inl (.inl rfl)) (.inl (.inl rfl));rw [Ir] at rp;have hK3:eJ w1 y w3 (y.jV w2 b (y.jN b) (y.jf b)):=(eJ.quiet hm2).trans ⟨OI,rfl,rfl,rfl,rfl,rfl⟩;generalize y.jV w2 b (y.jN b) (y.jf b)=y3 at rp hK3;have vM:=dU (TR n c g y3 _ w3 rp ZM.out (by rw [BK];omega));have tV:=dU hK3;have HL3:Hid ((jd (dY s i { s.tx i with state:=2 })).net.lost<=s.net.lost+300):=by rw [BK] at Hm;exact Hm.2
   clear hb hT BR hm2 dz qB ji yH rp OI hK3 HH PH pT IA Hm BK;go_upto_region 7 with (first
    | (go_at_call 34;refine nU.out.mono ?_;rintro e w4 ⟨rfl,rfl⟩)
    | fail)
   rw [<-hw3];clear hw3 p0 f0 zb;go_wp2_with fail;refine vM.out.mono ?_;rintro e w5 ⟨rfl,y5,kt,ox⟩;have pS:=dU (UR n c g y5 _ w5 kt oY.out Kq.out hc (by have:=HL3.out;omega));have Ev:=dU (tV.out.trans ox);clear kt ox vM;go_wp2_with fail;refine pS.out.mono ?_;rintro e w6 ⟨rfl,y6,Hg,Ej⟩;have HF:Hid (iQ w1 n c g y (fa s i).1 (fa s i).2 (.returned .nilIface) w6):=by unfold Hid;rw [HD.out];exact ⟨by rw [oL],y6,Hg,Ev.out.trans Ej⟩
   clear Hg Ej pS;go_wp2_with fail;go_ret;exact HF.out
 ·have HF:Hid (iQ w n c g y (fa s id).1 (fa s id).2 (.returned (.iface 90 (.int .i64 (nX s id)))) w):=by
   unfold Hid fa;rw [aJ ho];exact ⟨by rw [mJ ho],y,h,eJ.refl _ _⟩
  rw [mJ ho] at pT;clear h ho;go_enter Tryz.func15,Tryz.ntmps15;go_wp2_with (first
   | (go_at_call 35;refine pT.out.mono ?_;rintro e w1 ⟨rfl,rfl⟩)
   | fail)
  go_ret;exact HF.out
def qN(s:dW)(k m:Nat):dW:=(List.range m).foldl (fun h i=>if kE h k i then gO h (i+1) else h) s
theorem zXj(s:dW)(k m:Nat):qN s k (m+1)=if kE (qN s k m) k m then gO (qN s k m) (m+1) else qN s k m:=by unfold qN;rw [aY,aX];rfl
theorem yJl{s:dW}(h:Safe s)(hH:Held s){k:Nat}(hk:k<s.lines.length):∀ m,m<=s.dV.length->fe s (qN s k m)/\gB s (qN s k m):=by
 intro m
 induction m with
 | zero=>exact fun _=>⟨fe.refl h hH,gB.refl s⟩
 | succ m ih=>
  intro hm;rw [zXj];obtain ⟨a,b⟩:=ih (by omega);generalize qN s k m=S at a b;split
  ·rename_i hl;have jq:m+1<=S.dV.length:=by rw [b.len];omega
   have xM:k<S.lines.length:=by rw [b.l];exact hk
   unfold kE at hl;simp only [bN,cF,ar] at hl;obtain ⟨mw,hl2⟩:=hl;have hx:=a.safe.tx (m+1) (by omega) jq;have lK:k<dk S:=by
    have:k≠dk S:=fun e=>mw (by rw [e];exact hx.dec);unfold dk at this ⊢;omega
   have Em:Held (gO S (m+1)):=a.held.abort (m+1) (by omega) (fun x hx=>by simp at hx);rcases hl2 with q | ⟨q,q2⟩
   ·exact ⟨a.trans ⟨a.safe.abort (by omega) jq q,Em,km.abort (by omega) jq (by omega),by rw [CC]⟩,b.trans (gB.abort S _)⟩
   ·have hr:tj (S.tx (m+1))=false:=by
     apply aR;intro hn;simp only [Bool.not_eq_false] at hn;have:=FK.1 hn k;have:=hx.nf k;have h2:(S.tx (m+1)).ats.getD k 0=2:=by omega
     have:=VV a.safe (by omega) jq lK h2;have e:((m+1:Nat):Int)=(m:Int)+1:=by omega
     rw [e,q2] at this;cases this
    exact ⟨a.trans ⟨a.safe.vI (by omega) jq q hr,Em,km.abort (by omega) jq (by omega),by rw [CC]⟩,b.trans (gB.abort S _)⟩
  ·exact ⟨a,b⟩
theorem yFf(n c g:Nat)(y:dX)(s:dW)(k:Nat)(w:World)(h:du w n c g y s)(hS:Safe s)(oy:Held s)(hk:k<s.lines.length)(hc:c<=10000) :
  Calls Tryz.prog 62 #[.pointer (some ⟨g,0,none⟩),.int .i64 k] w fun e w'=>e=.returned (.tuple #[])/\∃ y',du w' n c g y' (pF s k)/\eJ w y w' y':=by
 obtain ⟨c0,-⟩:=kA h.blk;obtain ⟨b,hb,hL⟩:=h.nI hk;obtain ⟨lg,fG,hlv,cl⟩:=vf h.fm hb;have hlen:=h.iN;rw [hlv,hlen] at c0;obtain ⟨d,hd,x,hx,Rn⟩:=hL.vp (j:=0) (by have:=bH.2 (hS.line k hk).ne;omega);have hx0:x=dy s k:=by
  have:=hS.head hk;rw [hx] at this;exact ax this
 subst hx0;have b0:=hL.blk.cell 0 rfl;obtain ⟨ng,jh,oq,cn⟩:=vf hL.row hd;rw [oq] at b0;have sB:=dU (LR _ _ _ _ _ _ Rn);have wA:(k:Int)<(s.lines.length:Int):=by omega
 have qT:(0:Int)<=(k:Int):=by omega
 have hn0:=(aB.1 hd).1;have XO:(0:Int)<((y.fU b).length:Int):=by omega
 have fW:(dy s k).log.length<=305:=(hS.log k hk).few hS.tl;have htl:=hS.tl;have hll:=hS.ll;have HH:=dU h;have HS:=dU hS;have IS:=dU oy;clear h hS oy hb hL hlv hd hx Rn oq;go_enter Tryz.func62,Tryz.ntmps62;go_upto_region 1 with (first
  | (go_at_call 40;refine sB.out.mono ?_;rintro e w2 ⟨v,rfl,hrc,uE,hm2⟩;obtain ⟨va,vc,lI⟩:=hrc.slice;subst lI)
  | fail)
 have xQ:JP w2 y (.slice va (dy s k).log.length vc) (dy s k).log:=by
  refine ⟨hrc.oN,.inr fun z hz=>?_⟩;have hz2:=uE z hz;obtain ⟨us,_,h3,_⟩:=hrc;refine ⟨?_,(ft h3 hz).2.1⟩;exact aR fun e=>by have:=(HH.out.own.lt z e).2;omega
 have LF:=dU xQ;have lU:=dU (HH.out.quiet hm2);have wK:Hid (eJ w y w2 y):=eJ.quiet hm2;obtain ⟨-,-,-,-,-,-,c6⟩:=kA lU.out.blk;obtain ⟨ta,iX,pM⟩:=fJ lU.out.gR;rw [pM,lU.out.kM] at c6;have HTV:Hid (y.tv=.slice ta s.dV.length iX):=by unfold Hid;rw [pM,lU.out.kM]
 clear hrc uE hm2 xQ sB pM c0 b0 cl cn;go_wp2_with fail;go_loopw [26] (fun i0 wr=>∃ (i:Nat) (yr:dX),i<=s.dV.length/\i0=.int .i64 i/\du wr n c g yr (qN s k i)/\eJ w2 y wr yr) (fun i0 _=>s.dV.length - (intOf i0).toNat)
 case atStart=>exact ⟨0,y,aV _,rfl,lU.out,eJ.refl _ _⟩
 case round=>
  obtain ⟨i,yr,hil,rfl,hH,hK⟩:=hrel;obtain ⟨wo,hwo⟩:∃ x,x=wr:=⟨_,rfl⟩;subst hwo;by_cases hlt:i<s.dV.length
  ·obtain ⟨tA,tS⟩:=yJl HS.out IS.out hk i hil;have kg:=dU (zXj s k i);have lO:(qN s k i).dV.length=s.dV.length:=tS.len;have hn0:dy (qN s k i) k=dy s k:=by unfold dy dW.line;rw [tS.l]
   have Ck:(qN s k i).lines.length=s.lines.length:=by rw [tS.l]
   generalize qN s k i=S at hH tA kg lO hn0 Ck;have hi1:1<=i+1:=by omega
   have hi2:i+1<=S.dV.length:=by omega
   obtain ⟨b2,hb2,hT⟩:=hH.xA hi1 hi2;rw [bZ] at hb2;obtain ⟨tg,tcap',zG,ct⟩:=vf hH.gR hb2;have BF:ta=some ⟨tg,0,none⟩:=by
    have e:=hK.tv;rw [zG,HTV.out] at e;simp only [Value.slice.injEq] at e;exact e.1.symm
   subst BF;have px:=(tA.safe.tx (i+1) hi1 hi2).len;obtain ⟨ab,qo,ni,Gx⟩:=yHq hT (k:=k) (by rw [px,Ck];exact hk);have t0:=hT.blk.cell 0 rfl;have t1:=hT.blk.cell 1 rfl;rw [ni,px,Ck] at t1;obtain ⟨x,hx⟩:∃ x,x=(S.tx (i+1)).ats.getD k 0:=⟨_,rfl⟩;rw [<-hx] at Gx;have lX:=dU (UC _ _ 2 ((i:Int)+1) wo (LF.out.keep hK.st).1 (by omega));have eii:((i+1:Nat):Int)=(i:Int)+1:=by omega
   have sN:Hid (∀ wq,Mod dZ wo wq->Calls Tryz.prog 36 #[.pointer (some ⟨g,0,none⟩),.int .i64 ((i:Int)+1)] wq fun e w'=>e=.returned (.tuple #[])/\∃ y',du w' n c g y' (gO S (i+1))/\eJ wq yr w' y'):=fun wq hq=>by
    have:=TW n c g yr S (i+1) wq (hH.quiet hq) hi1 hi2 (by omega) hc (by rw [px];omega);rw [eii] at this;exact this
   have uL:Hid (∀ bl,kE S k i=bl->qN s k (i+1)=if bl then gO S (i+1) else S):=fun bl e=>by rw [kg.out,e]
   have my:Hid (kE S k i=(decide (x≠0) && (decide ((S.tx (i+1)).state=1) || (decide ((S.tx (i+1)).state=2) && (kq (dy s k).log 2 ((i:Int)+1)).isNone)))):=by unfold Hid kE;simp only;rw [hn0,hx]
   have wB:(i:Int)<(s.dV.length:Int):=by omega
   have hi0:(0:Int)<=(i:Int):=by omega
   have jG:=dU hH;have nj:=dU hK;clear hH hK hT hb2 zG ni px tA tS kg hn0 Ck hx;generalize (S.tx (i+1)).state=st at t0 my;by_cases hx0:x=0
   ·have GO:(x != 0)=false:=by simpa using hx0
    by_cases s1:st=1
    ·have hs1:(st == 1)=true:=by simpa using s1
     have HF:Hid (∀ wq,Mod dZ wo wq->du wq n c g yr (qN s k (i+1))/\eJ w2 y wq yr):=fun wq hq=>⟨by rw [uL.out false (by rw [my.out];simp [s1,hx0])];exact jG.out.quiet hq,nj.out.trans (eJ.quiet hq)⟩;clear uL my jG nj sN;have mU:=dU (HF.out wo (Mod.refl _ _));clear HF;go_wp2_with fail;go_roundw
     case rel=>exact ⟨i+1,yr,by omega,by go_num,mU.out.1,mU.out.2⟩
     case measure=>simp [intOf];omega
    ·have hs1:(st == 1)=false:=by simpa using s1
     by_cases s2:st=2
     ·have hs2:(st == 2)=true:=by simpa using s2
      cases hpc:kq (dy s k).log 2 ((i:Int)+1) with
      | none=>
       rw [hpc] at lX;have HF:Hid (∀ wq,Mod dZ wo wq->du wq n c g yr (qN s k (i+1))/\eJ w2 y wq yr):=fun wq hq=>⟨by rw [uL.out false (by rw [my.out];simp [s2,hx0,hpc])];exact jG.out.quiet hq,nj.out.trans (eJ.quiet hq)⟩;clear uL my jG nj sN;go_upto_region 5 with (first
        | (go_at_call 80;refine lX.out.mono ?_;rintro e w3 ⟨rfl,dz⟩;simp only [iO])
        | fail)
       have q1:=dz.cell t1 (fun e=>e);have q2:=dz.cell Gx (fun e=>e);have jt:=dU dz;clear dz lX;have mU:=dU (HF.out w3 jt.out);clear HF;go_wp2_with fail;go_roundw
       case rel=>exact ⟨i+1,yr,by omega,by go_num,mU.out.1,mU.out.2⟩
       case measure=>simp [intOf];omega
      | some j=>
       rw [hpc] at lX;have RZ:decide ((j:Int)<0)=false:=aP (by omega);have HF:Hid (∀ wq,Mod dZ wo wq->du wq n c g yr (qN s k (i+1))/\eJ w2 y wq yr):=fun wq hq=>⟨by rw [uL.out false (by rw [my.out];simp [s2,hpc])];exact jG.out.quiet hq,nj.out.trans (eJ.quiet hq)⟩;clear uL my jG nj sN;go_upto_region 5 with (first
        | (go_at_call 80;refine lX.out.mono ?_;rintro e w3 ⟨rfl,dz⟩;simp only [iO])
        | fail)
       have q1:=dz.cell t1 (fun e=>e);have q2:=dz.cell Gx (fun e=>e);have jt:=dU dz;clear dz lX;have mU:=dU (HF.out w3 jt.out);clear HF;go_wp2_with fail;go_roundw
       case rel=>exact ⟨i+1,yr,by omega,by go_num,mU.out.1,mU.out.2⟩
       case measure=>simp [intOf];omega
     ·have hs2:(st == 2)=false:=by simpa using s2
      have HF:Hid (∀ wq,Mod dZ wo wq->du wq n c g yr (qN s k (i+1))/\eJ w2 y wq yr):=fun wq hq=>⟨by rw [uL.out false (by rw [my.out];simp [s1,s2])];exact jG.out.quiet hq,nj.out.trans (eJ.quiet hq)⟩;clear uL my jG nj sN;have mU:=dU (HF.out wo (Mod.refl _ _));clear HF;go_wp2_with fail;go_roundw
      case rel=>exact ⟨i+1,yr,by omega,by go_num,mU.out.1,mU.out.2⟩
      case measure=>simp [intOf];omega
   ·have GO:(x != 0)=true:=by simpa using hx0
    by_cases s1:st=1
    ·have hs1:(st == 1)=true:=by simpa using s1
     have HE:=dU (uL.out true (by rw [my.out];simp [s1,hx0]));clear uL my;have Ad:=dU (sN.out wo (Mod.refl _ _));have tV:=dU (nj.out.trans (eJ.quiet (Mod.refl _ _)));clear sN jG nj;go_wp2_with fail;refine Ad.out.mono ?_;rintro e w4 ⟨rfl,y4,pQ,hK4⟩;have HF:Hid (du w4 n c g y4 (qN s k (i+1))/\eJ w2 y w4 y4):=⟨by rw [HE.out];exact pQ,tV.out.trans hK4⟩;clear pQ hK4 Ad;go_wp2_with fail;go_roundw
     case rel=>exact ⟨i+1,y4,by omega,by go_num,HF.out.1,HF.out.2⟩
     case measure=>simp [intOf];omega
    ·have hs1:(st == 1)=false:=by simpa using s1
     by_cases s2:st=2
     ·have hs2:(st == 2)=true:=by simpa using s2
      cases hpc:kq (dy s k).log 2 ((i:Int)+1) with
      | none=>
       rw [hpc] at lX;have HE:=dU (uL.out true (by rw [my.out];simp [s2,hx0,hpc]));clear uL my;go_upto_region 5 with (first
        | (go_at_call 80;refine lX.out.mono ?_;rintro e w3 ⟨rfl,dz⟩;simp only [iO])
        | fail)
       have q1:=dz.cell t1 (fun e=>e);have q2:=dz.cell Gx (fun e=>e);have jt:=dU dz;clear dz lX;have Ad:=dU (sN.out w3 jt.out);have tV:=dU (nj.out.trans (eJ.quiet jt.out));clear sN jG nj;go_wp2_with fail;refine Ad.out.mono ?_;rintro e w4 ⟨rfl,y4,pQ,hK4⟩;have HF:Hid (du w4 n c g y4 (qN s k (i+1))/\eJ w2 y w4 y4):=⟨by rw [HE.out];exact pQ,tV.out.trans hK4⟩;clear pQ hK4 Ad;go_wp2_with fail;go_roundw
       case rel=>exact ⟨i+1,y4,by omega,by go_num,HF.out.1,HF.out.2⟩
       case measure=>simp [intOf];omega
      | some j=>
       rw [hpc] at lX;have RZ:decide ((j:Int)<0)=false:=aP (by omega);have HF:Hid (∀ wq,Mod dZ wo wq->du wq n c g yr (qN s k (i+1))/\eJ w2 y wq yr):=fun wq hq=>⟨by rw [uL.out false (by rw [my.out];simp [s2,hpc])];exact jG.out.quiet hq,nj.out.trans (eJ.quiet hq)⟩;clear uL my jG nj sN;go_upto_region 5 with (first
        | (go_at_call 80;refine lX.out.mono ?_;rintro e w3 ⟨rfl,dz⟩;simp only [iO])
        | fail)
       have q1:=dz.cell t1 (fun e=>e);have q2:=dz.cell Gx (fun e=>e);have jt:=dU dz;clear dz lX;have mU:=dU (HF.out w3 jt.out);clear HF;go_wp2_with fail;go_roundw
       case rel=>exact ⟨i+1,yr,by omega,by go_num,mU.out.1,mU.out.2⟩
       case measure=>simp [intOf];omega
     ·have hs2:(st == 2)=false:=by simpa using s2
      have HF:Hid (∀ wq,Mod dZ wo wq->du wq n c g yr (qN s k (i+1))/\eJ w2 y wq yr):=fun wq hq=>⟨by rw [uL.out false (by rw [my.out];simp [s1,s2])];exact jG.out.quiet hq,nj.out.trans (eJ.quiet hq)⟩;clear uL my jG nj sN;have mU:=dU (HF.out wo (Mod.refl _ _));clear HF;go_wp2_with fail;go_roundw
      case rel=>exact ⟨i+1,yr,by omega,by go_num,mU.out.1,mU.out.2⟩
      case measure=>simp [intOf];omega
  ·obtain rfl:i=s.dV.length:=by omega
   have HF:Hid (∃ y',du wo n c g y' (pF s k)/\eJ w y wo y'):=⟨yr,hH,wK.out.trans hK⟩;clear hH hK;go_wp2_with fail;go_end0;exact ⟨rfl,HF.out⟩
theorem du.ML{w w':World}{n c g:Nat}{y:dX}{s:dW}(h:du w n c g y s){d:List Int}(hm:Mod (eF y.dr) w w')(hD:pV w' n (some y.dr) d):du w' n c g y { s with dead:=d }/\eJ w y w' y:=by
 have own:=h.own;have hq:Qm w (y.lo n) (eF y.dr):=fun z hz e=>by
  simp only [eF] at e;subst e;rintro (e1 | ⟨⟨cur,fr,e1⟩,_⟩)
  ·have h9:=(own.lt y.dr (by rw [own.dead];simp)).1;have h8:y.dr<n:=e1;omega
  ·rcases h.dead with ⟨e,_⟩ | ⟨b,D,e,_,⟨es,clock,h2,_⟩,_⟩
   ·cases e
   ·cases e
    rw [h2] at e1;simp at e1
 have ht:rM w w' n y (fun t=>t=.dead):=⟨⟨_,hm,hq,fun z hz e=>by
  simp only [eF] at e;subst e;exact ⟨own.dead,by rw [own.dead];simp⟩⟩⟩
 refine ⟨⟨h.tC ht (by simp),h.vB ht (by simp),hD,h.tB ht (by simp),h.qn,h.oV ht (by simp),h.iN,fun k b l hb hl=>h.qC ht hb hl (by simp) (fun d _=>by simp),h.oU ht (by simp),h.kM,fun i b t hb hti=>h.DG ht hb hti (by simp),own.more hm.size⟩,⟨hm.mono (fun z hz e=>by simp only [eF] at e;subst e;rw [own.dead];simp),fun _ _=>rfl⟩,rfl,rfl,rfl,rfl,rfl⟩
theorem yRm(n c g:Nat)(y:dX)(s:dW)(id:Int)(w:World)(h:du w n c g y s)(hs:lY s)(hid:gw id)(hd1:s.dead.length<=1000)(hd2:s.net.down.length<=1000)(hlo:s.net.lost+200<=4611686018427387904) :
  Calls Tryz.prog 60 #[.pointer (some ⟨g,0,none⟩),.int .i64 id] w (iQ w n c g y (oa s id).1 (oa s id).2):=by
 have AR:=dU (yCa n c g y s id w h hs);have HH:=dU h
 cases hno:mY s id with
 | none=>
  rw [hno] at AR;have HE:Hid (oa s id=(s,7)):=by unfold Hid oa;rw [hno];rfl
  clear h hno;go_enter Tryz.func60,Tryz.ntmps60;go_upto_region 2 with (first
   | (go_at_call 55;refine AR.out.mono ?_;rintro e w3 ⟨hfo,dz⟩;obtain rfl:=zXi hfo)
   | fail)
  have HF:Hid (iQ w n c g y (oa s id).1 (oa s id).2 (.returned (.iface 90 (.int .i64 7))) w3):=by
   unfold Hid;rw [HE.out];exact ⟨by rw [mJ (by omega)],y,HH.out.quiet dz,eJ.quiet dz⟩
  clear dz;go_wp2_with fail;go_ret;exact HF.out
 | some kj=>
  obtain ⟨kk,j⟩:=kj;rw [hno] at AR;have HE:Hid (oa s id=({ s with dead:=s.dead++[id],net:=Bf s.net id },0)):=by unfold Hid oa;rw [hno];rfl
  have hkey:keyOf Tryz.prog 3 (.int .i64 id)=some (.int .i64 id):=keyOf_int_mk Tryz.underlying3 (LP hid);clear h hno;go_enter Tryz.func60,Tryz.ntmps60;go_upto_region 4 with (first
   | (go_at_call 55;refine AR.out.mono ?_;rintro e w3 ⟨hfo,dz⟩;obtain ⟨b,d,-,-,rfl⟩:=zXh hfo)
   | fail)
  have Ex:=dU (HH.out.quiet dz);have tV:Hid (eJ w y w3 y):=eJ.quiet dz;obtain ⟨-,c1,-⟩:=kA Ex.out.blk;have hg3:=Ex.out.blk.lt;have oT:=Ex.out.dead;rcases oT with ⟨e,_⟩ | ⟨b',D,e,DB,hown,hhas⟩
  ·cases e
  cases e
  have HO:=dU hown;have IU:=dU hhas;clear hown hhas dz hfo AR;go_upto_region 5 with (first
   | (at_mapUpdate;refine wpList_mapUpdate_own _ rfl _ _ _ 75 rfl 3 158 yv Tryz.underlying75 unitElem y.dr _ D rfl HO.out (by unfold maxLen;omega) _ _ _ rfl rfl hkey _ [] unitElem_mk ?_;intro w4 ES zn)
   | fail)
  have gM:Mod (eF y.dr) w3 w4:=(Mod.refl _ w3).grown zn (fun x hx _=>by cases hx;rfl);obtain ⟨pQ,hK4⟩:=Ex.out.ML gM (pV.put (L:=⟨n,fun _=>False⟩) IU.out HO.out.isMap DB (aF _) hid ES);have HDW:=dU (yRt (y.lo n) g y.wv y.mr s.net id w4 pQ.qe hid (by omega) hlo);have Sj:=dU pQ;have AZ:=dU (tV.out.trans hK4);have hg4:=pQ.blk.lt;clear pQ hK4 gM ES zn HO IU c1;go_wp2_with fail;refine HDW.out.mono ?_;rintro e w5 ⟨wv5,mr5,rfl,mi,Wd,jk,eu⟩;obtain ⟨kt,hS5⟩:=Sj.out.sW eu mi (.inl Wd) jk;have HF:Hid (iQ w n c g y (oa s id).1 (oa s id).2 (.returned .nilIface) w5):=by
   unfold Hid;rw [HE.out];exact ⟨by rw [oL],_,kt,AZ.out.trans ⟨hS5,rfl,rfl,rfl,rfl,rfl⟩⟩
  clear kt hS5 mi eu HDW;go_wp2_with fail;go_ret;exact HF.out
theorem Uf{P:Program}{w w':World}{ops:Array Oper}{rest:List Oper}{o:Oper}{a:Act}{Q:Exit->Act->World->Prop}{v:Value}(hgd:o.guard=none)(hrun:(execOp a.eval o).run P w=.ok (.value v) w')(h:wpList P ops Q rest (a.put o.dst v) w'):wpList P ops Q (o :: rest) a w:=by
 refine wpList_plain hgd fun K hK=>?_;unfold Oper.wp;rw [hrun];exact hK _ _ h
structure ko(w:World)(L:Lo)(bs:List Nat)(nv lv:Nat->Value)(ns:List eH):Prop where
 len:bs.length=ns.length
 nd:bs.Nodup
 node:∀ (j c:Nat) s,bs[j]?=some c->ns[j]?=some s->fh w L c (nv c) (lv c) s
 ap:∀ c∈bs,∀ c'∈bs,c≠c'->∀ z,gx c (nv c) (lv c) z->¬ gx c' (nv c') (lv c') z
theorem ko.quiet{w w':World}{L:Lo}{bs:List Nat}{nv lv:Nat->Value}{ns:List eH}(h:ko w L bs nv lv ns)(hm:Mod dZ w w'):ko w' L bs nv lv ns:=⟨h.len,h.nd,fun j c s hc hs=>(h.node j c s hc hs).quiet hm,h.ap⟩
def jw(f:Nat->Value)(d:Nat)(v:Value):Nat->Value:=fun x=>if x=d then v else f x
theorem tp(f:Nat->Value)(d:Nat)(v:Value):jw f d v d=v:=by simp [jw]
theorem tq(f:Nat->Value){d x:Nat}(v:Value)(h:x≠d):jw f d v x=f x:=by simp [jw,h]
theorem ko.turn{w w':World}{L:Lo}{bs:List Nat}{nv lv:Nat->Value}{ns:List eH}(h:ko w L bs nv lv ns){j c:Nat}(hc:bs[j]?=some c){oO jQ:Value}{x:eH}(hm:Mod (gx c (nv c) (lv c)) w w')(hN:fh w' L c oO jQ x)(h1:iC w (nv c) oO)(h2:iC w (lv c) jQ):ko w' L bs (jw nv c oO) (jw lv c jQ) (ns.set j x):=by
 have hcm:=aC hc;have hjl:j<ns.length:=by have:=(aB.1 hc).1;have:=h.len;omega
 have hold:=h.node j c _ hc (aA hjl);have hlt:∀ d∈bs,∀ z,gx d (nv d) (lv d) z->z<w.heap.size:=fun d hd z hz=>by
  obtain ⟨i,hi⟩:=aN hd;have hil:i<ns.length:=by have:=(aB.1 hi).1;have:=h.len;omega
  exact ((h.node i d _ hi (aA hil)).lt hz).2.1
 have uh:∀ z,gx c oO jQ z->z<w.heap.size->gx c (nv c) (lv c) z:=fun z hz hl=>by
  rcases hz with e | e | e
  ·exact .inl e
  ·rcases h1 with q | q
   ·exact .inr (.inl (by rw [<-q];exact e))
   ·have:=q z e;omega
  ·rcases h2 with q | q
   ·exact .inr (.inr (by rw [<-q];exact e))
   ·have:=q z e;omega
 refine ⟨by rw [aa];exact h.len,h.nd,fun i d s hd hs=>?_,fun d hd d' hd' hne z hz=>?_⟩
 ·rw [pX] at hs;by_cases e:i=j
  ·rw [aJ ⟨e,by omega⟩] at hs
   cases hs
   subst e;rw [hc] at hd;cases hd
   rw [tp,tp];exact hN
  ·rw [aE (fun q=>e q.1)] at hs;have hne:d≠c:=fun q=>e (by subst q;exact FI h.nd hd hc);rw [tq _ _ hne,tq _ _ hne];exact fh.mod (h.node i d s hd hs) hm (fh.qm hold) (fun z hz q=>h.ap d (aC hd) c hcm hne z hz q)
 ·by_cases e:d=c
  ·subst e;have ou:d'≠d:=fun q=>hne q.symm;rw [tp,tp] at hz;rw [tq _ _ ou,tq _ _ ou];intro q;have hzl:=hlt d' hd' z q;exact h.ap d hd d' hd' hne z (uh z hz hzl) q
  ·rw [tq _ _ e,tq _ _ e] at hz;by_cases e2:d'=c
   ·subst e2;rw [tp,tp];intro q;exact h.ap d hd d' hd' hne z hz (uh z q (hlt d hd z hz))
   ·rw [tq _ _ e2,tq _ _ e2];exact h.ap d hd d' hd' hne z hz
theorem zPu:∀ (ms:List dp) (us:List Value) (uX:List dp) (wy:List Value),us.length=ms.length->gy (ms++uX) (us++wy)=gy ms us++gy uX wy
 | [],[],uX,wy,_=>by simp [gy]
 | [],_ :: _,_,_,h=>by simp at h
 | _ :: _,[],_,_,h=>by simp at h
 | m :: ms,u :: us,uX,wy,h=>by simp [gy,zPu ms us uX wy (by simpa using h)]
theorem zPt{w:World}{L:Lo}:∀ (ms:List dp) (us:List Value),us.length=ms.length->(∀ (i:Nat) m u,ms[i]?=some m->us[i]?=some u->iE w L u m.cmd.writes)->∀ u∈gy ms us,u.oneCell'=true
 | [],[],_,_=>by simp [gy]
 | [],_ :: _,h,_=>by simp at h
 | _ :: _,[],h,_=>by simp at h
 | m :: ms,u :: us,h,hp=>by
  intro x hx;rcases aL.1 hx with e | e
  ·obtain ⟨a,cap,rfl,_⟩:=hp 0 m u rfl rfl;exact VQ m a _ cap x e
  ·exact zPt ms us (by simpa using h) (fun i m' u' h1 h2=>hp (i+1) m' u' (by simpa using h1) (by simpa using h2)) x e
theorem eX.join{w:World}{L:Lo}{v r:Value}{ms uX:List dp}(h:eX w L v ms)(k:eX w L r uX)(hl:ms.length+uX.length<=1000)(hb:L.n<=w.heap.size)(ty:TypeId) :
  ∃ v' w',(Builtin.append_ #[76,76] ty #[v,r]).run Tryz.prog w=.ok v' w'/\eX w' L v' (ms++uX)/\w.grownBy w' v.ownBlock/\(v'.ownBlock=v.ownBlock\/v'.ownBlock=some w.heap.size):=by
 obtain ⟨i0,hi,hz0,hz1,hz2⟩:=info_parts Tryz.pK;obtain ⟨us,h1,h2,h3,h4⟩:=h;obtain ⟨wy,k1,k2,k3,k4⟩:=k;rcases k2.2 with ⟨e,e0⟩ | ⟨g',cap',cur,e,_⟩
 ·subst e;have hnil:uX=[]:=aT e0;subst hnil;refine ⟨v,w,run_append_owned_none (P:=Tryz.prog) (w:=w) L.n 76 ty 112 i0 9 Tryz.underlying76 hi v _ _ h2,by rw [dC];exact ⟨us,h1,h2,h3,h4⟩,⟨rfl,rfl,rfl,aF _,fun _ _ _=>rfl⟩,.inl rfl⟩
 ·subst e;have hcl:=k2.cells (g:=g') rfl;obtain ⟨v',w',hr,hown,hgr,_,hat⟩:=run_append_own_at (P:=Tryz.prog) w L.n 76 ty 112 i0 _ 9 88 Tryz.underlying76 hi hz0 hz1 hz2 rfl (by omega) v _ _ h2 ⟨g',0,none⟩ uX.length cap' (gy uX wy) (BA uX wy k1) hcl (zPt uX wy k1 k3) (by unfold maxLen;omega) (by omega) hb;have hm:Mod (fun z=>v.ownBlock=some z) w w':=(Mod.refl _ w).grown hgr (fun x hx _=>hx);have hq:=Qm.row h2 (aF _) (by decide);refine ⟨v',w',hr,⟨us++wy,by rw [aD,aD,h1,k1],?_,fun i m u hi' hu=>?_,fun m hm'=>?_⟩,hgr,hat⟩
  ·rw [zPu ms us uX wy h1,aD];exact hown
  ·by_cases hlt:i<ms.length
   ·rw [aI hlt] at hi';rw [aI (by omega)] at hu;exact (h3 i m u hi' hu).mod hm hq
   ·rw [aO (by omega)] at hi';rw [aO (by omega),h1] at hu;exact (k3 _ m u hi' hu).mod hm hq
  ·rcases aL.1 hm' with e | e
   ·exact h4 m e
   ·exact k4 m e
end Go.Proofs.YtmaiggbnceejiaaGreatDoor
