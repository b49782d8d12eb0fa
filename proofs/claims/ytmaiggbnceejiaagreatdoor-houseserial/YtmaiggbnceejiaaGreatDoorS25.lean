import Derived.Test.YtmaiggbnceejiaaGreatDoorS24
set_option linter.unusedVariables false
set_option maxRecDepth 100000
set_option maxHeartbeats 16000000
namespace Go.Proofs.YtmaiggbnceejiaaGreatDoor
open Go.RowKit Go.Lib Go.Maps
theorem yOg{B N:Nat}{q:iP}{s:fy}{w:World}:Jg 121 #[] (fun _=>true) B N q s w:=by
 refine ⟨xL Tryz.func121 (by kernel_rfl) rfl,fun k wr hk hT hm=>?_⟩;show Calls Tryz.prog 121 #[.agg #[q.hd k true,q.hd k false]] wr _;obtain ⟨ha,hcap,mi⟩:=eu (hT.rows k true hk id);obtain ⟨wa,ft,iY⟩:=eu (hT.rows k false hk id);rw [mi,iY];have fJ:Hid (Mod dZ wr (wr.alloc (.cells #[.slice ha (s k).held.length hcap,.slice wa (s k).waits.length ft] 168))):=(Mod.refl _ wr).alloc _;clear hT hm mi iY;go_enter Tryz.func121,Tryz.ntmps121;go_wp2_with fail;go_ret;exact ⟨rfl,fJ.out⟩
theorem ySm(B N:Nat)(q:iP)(s:fy)(w:World)(h:oZ w B N q s)(DL:q.n<=1000000) :
  Calls Tryz.prog 74 #[.pointer (some ⟨q.b,q.pre.length,none⟩)] w (Rt w s (fun _=>true) q.n):=by
 have HN:=dV (yBx 121 #[] (fun _=>true) B N q s w h yOg DL);clear h;go_enter Tryz.func74,Tryz.ntmps74;go_wp2_with fail;refine HN.out.mono ?_;rintro e w2 ⟨v,ks,rfl,hk,hs,hv,hl,hm⟩;obtain ⟨a,cap,rfl,h1,h2⟩:=fV.slice hk;have HK:=dV hk;clear hk;go_wp2_with fail;go_ret;exact ⟨_,ks,rfl,HK.out,hs,hv,hl,hm⟩
def EL(s:dX)(id:Int)(key:ByteArray):Bool:=decide (id∈(s.keys key).waits.map (·.tx))
theorem yIw(n c g q1 q2:Nat)(y:dY)(s:dX)(id:Int)(key:ByteArray)(w:World)(h:dx w n c g y s)(hk:gA key)(h1:w.cell? ⟨q1,0,none⟩=some (.pointer (some ⟨g,0,none⟩)))(h2:w.cell? ⟨q2,0,none⟩=some (.int .i64 id)) :
  Calls Tryz.prog 75 (#[.string key]++#[.pointer (some ⟨q1,0,none⟩),.pointer (some ⟨q2,0,none⟩)]) w fun e w'=>e=.returned (.bool (EL s id key))/\Mod dZ w w':=by
 have hd:=h.quiet ((Mod.refl dZ w).drewN 1);have hW:Calls Tryz.prog 77 #[.pointer (some ⟨g,5,none⟩),.string key] w.drew fun e w'=>∃ u,e=.returned u/\jM w' w.drew.heap.size u ((s.keys key).waits.map (·.tx))/\Mod dZ w.drew w':=yMc n 120 (y.tb g s.net.lost) s.keys key w.drew hd.xd hk (by omega);have HWT:Hid (EL s id key=decide (id∈(s.keys key).waits.map fun (d:de)=>d.tx)):=rfl;generalize ((s.keys key).waits.map fun (d:de)=>d.tx)=tl at hW HWT;have HW:=dV hW;have hg:=h.blk.lt;clear h hd hW;go_enter Tryz.func75,Tryz.ntmps75;go_upto_region 1 with fail;go_region_with (first
  | (go_at_call 77;(refine HW.out.mono ?_;rintro e w1 ⟨u,rfl,hu,dh⟩;(have p2:=(((Mod.refl dZ w).drewN 1).trans dh).cell h2 (fun e=>e));obtain ⟨ua,uc,DJ⟩:=eu hu;(have HC:=dV (zQe u tl id w1 (jA.iA hu)));(have HM:=dV (((Mod.refl dZ w).drewN 1).trans dh));subst DJ;clear hu dh))
  | (go_at_call 76;refine HC.out.mono ?_;rintro e w2 ⟨rfl,rfl⟩)
  | fail)
 all_goals
  go_wp2_with fail;go_ret;exact ⟨by rw [HWT.out];rfl,HM.out⟩
open Classical in
theorem yQr{s:dX}{id:Int}{ks:List ByteArray}(hn:Jh s.keys (fun _=>true) ks)(hs:∀ k:ByteArray,20<k.size->(s.keys k).held=[]/\(s.keys k).waits=[]):ks.any (EL s id)=Cg s id:=by
 have e:∀ k,(s.keys k).waits.any (fun c=>decide (c.tx=id))=EL s id k:=fun k=>by
  unfold EL;rw [cO,cU,decide_eq_true_iff,af];simp only [bA]
 unfold Cg;rw [cO,cU,decide_eq_true_iff];constructor
 ·rintro ⟨k,_,h2⟩;exact ⟨k,by rw [e];exact h2⟩
 ·rintro ⟨k,h2⟩;rw [e] at h2;refine ⟨k,(hn.2 k).2 ⟨?_,?_,rfl⟩,h2⟩
  ·unfold gA maxLen;apply aS;intro hq;have:=(hs k (by omega)).2;unfold EL at h2;rw [this] at h2;simp at h2
  ·intro hb;unfold EL at h2;rw [hb.2] at h2;simp at h2
theorem yKj(n c g:Nat)(y:dY)(s:dX)(id:Int)(w:World)(h:dx w n c g y s)(hc:c<=10000)(hs:∀ k:ByteArray,20<k.size->(s.keys k).held=[]/\(s.keys k).waits=[]) :
  Calls Tryz.prog 41 #[.pointer (some ⟨g,0,none⟩),.int .i64 id] w fun e w'=>e=.returned (.bool (Cg s id))/\Mod dZ w w':=by
 obtain ⟨w1,hw1⟩:∃ x,x=(w.alloc (.cells #[.pointer (some ⟨g,0,none⟩)] 35)).alloc (.cells #[.int .i64 id] 3):=⟨_,rfl⟩;have dh:Mod dZ w w1:=by rw [hw1];exact ((Mod.refl _ w).alloc _).alloc _
 have hb0:dg w1 w.heap.size [.pointer (some ⟨g,0,none⟩)] 35:=by rw [hw1];exact (dg.new w _ _).mod ((Mod.refl dZ _).alloc _) (fun e=>e)
 have hb1:dg w1 (w.heap.size+1) [.int .i64 id] 3:=by
  rw [hw1];have:=dg.new (w.alloc (.cells #[.pointer (some ⟨g,0,none⟩)] 35)) [.int .i64 id] 3;simpa using this
 have h1:=h.quiet dh;have x0:=hb0.cell 0 rfl;have hg:=h1.blk.lt;have hq:=h1.qn.2.2;have hKE:Calls Tryz.prog 74 #[.pointer (some ⟨g,5,none⟩)] w1 (Rt w1 s.keys (fun _=>true) y.q.n):=ySm n 120 (y.tb g s.net.lost) s.keys w1 h1.xd (by show y.q.n<=1000000;omega);have zJ:=dV hKE;have tF:∀ fn first cap w,(Instr.makeFunc fn first cap).run Tryz.prog w=.ok (.func fn first cap) w:=fun _ _ _ _=>rfl
 have HH:=dV h1;have nY:=dV hb0;have kA:=dV hb1;have fJ:=dV dh;have HS:=dV hs;clear h h1 hb0 hb1 dh hKE hs;go_enter Tryz.func41,Tryz.ntmps41;go_upto_region 1 with fail;rw [<-hw1];clear hw1;go_wp2_with fail;refine zJ.out.mono ?_;rintro e w2 ⟨v,ks,rfl,hks,hns,qu,hkl,hm2⟩;have HA:mO 75 #[.pointer (some ⟨w.heap.size,0,none⟩),.pointer (some ⟨w.heap.size+1,0,none⟩)] (fun (d:ByteArray)=>.string d) ks (EL s id) (fun wr=>dx wr n c g y s/\wr.cell? ⟨w.heap.size,0,none⟩=some (.pointer (some ⟨g,0,none⟩))/\wr.cell? ⟨w.heap.size+1,0,none⟩=some (.int .i64 id)):=
  ⟨xL Tryz.func75 (by kernel_rfl) rfl,fun wa wb hh hm=>⟨hh.1.quiet hm,hm.cell hh.2.1 (fun e=>e),hm.cell hh.2.2 (fun e=>e)⟩,fun d hd wr hh=>yIw n c g _ _ y s id d wr hh.1 ((hns.2 d).1 hd).1 hh.2.1 hh.2.2⟩
 have QW:=dV (zVv 75 w2.heap.size _ _ v ks w2 _ hks HA ⟨HH.out.quiet hm2,hm2.cell (nY.out.cell 0 rfl) (fun e=>e),hm2.cell (kA.out.cell 0 rfl) (fun e=>e)⟩ (by omega));rw [yQr hns HS.out] at QW;obtain ⟨va,vc,lI,-,-⟩:=fV.slice hks;subst lI;have gE:=dV (fJ.out.trans hm2);clear hks hns qu hkl hm2 HA zJ;go_wp2_with fail;refine QW.out.mono ?_;rintro e w3 ⟨rfl,dy⟩;have iI:=dV (gE.out.trans dy);clear dy QW;go_wp2_with fail;go_ret;exact ⟨rfl,iI.out⟩
theorem yPd(n c g:Nat)(y:dY)(s:dX)(id:Int)(w:World)(h:dx w n c g y s)(hS:Safe s)(pH:Held s)(hc:c<=10000)(hlo:s.net.lost+750600<=4611686018427387904) :
  Calls Tryz.prog 15 #[.pointer (some ⟨g,0,none⟩),.int .i64 id] w (iU w n c g y (iT s id).1 (iT s id).2):=by
 have pY:=dV (To n c g y s id w h hS.tl);by_cases ho:pL s id=0
 ·rw [ho,ou] at pY;obtain ⟨i,rfl,hi1,hi2,hst⟩:=pO ho;have CO:=dV (yKj n c g y s i w h hc pH.small)
  cases hw:Cg s i with
  | true=>
   rw [hw] at CO;have HD:Hid (iT s i=(s,11)):=by unfold Hid iT;rw [aK (fun q=>q ho),hw];rfl
   have HH:=dV h;clear h ho hw;go_enter Tryz.func15,Tryz.ntmps15;go_wp2_with (first
    | (go_at_call 35;refine pY.out.mono ?_;rintro e w1 ⟨rfl,rfl⟩)
    | (go_at_call 41;refine CO.out.mono ?_;rintro e w2 ⟨rfl,hm2⟩;have HF:Hid (iU w1 n c g y (iT s i).1 (iT s i).2 (.returned (.iface 90 (.int .i64 11))) w2):=(by unfold Hid;rw [HD.out];exact ⟨by rw [mS (by omega)],y,HH.out.quiet hm2,eL.quiet hm2⟩);clear hm2)
    | fail)
   go_ret;exact HF.out
  | false=>
   rw [hw] at CO;have HD:Hid (iT s i=(oB (kM (db s i { s.tx i with state:=2 })),0)):=by unfold Hid iT;rw [aK (fun q=>q ho),hw,aV];rfl
   have Ij:Safe (db s i { s.tx i with state:=2 }):=hS.write (ws:=(s.tx i).writes) hi1 hi2 hst (hS.tx i hi1 hi2).few (.inr rfl);have As:Held (db s i { s.tx i with state:=2 }):=pH.ending hi1 hi2 rfl hst (KF hw);obtain ⟨t1,t2,-⟩:=xX Ij;have Dg:Held (kM (db s i { s.tx i with state:=2 })):=(t2.wI t1 As).held;have Iz:=Ll Ij;have htl:=hS.tl;have Pn:Hid (∀ wq,Mod dZ w wq->∃ b,y.jo[i - 1]?=some b/\th wq n y b (s.tx i)/\Calls Tryz.prog 34 #[.pointer (some ⟨g,0,none⟩),.int .i64 i] wq fun e w'=>e=.returned (.pointer (some ⟨b,0,none⟩))/\w'=wq):=fun wq hq=>by
    obtain ⟨b,hb,hT⟩:=(h.quiet hq).xc hi1 hi2;exact ⟨b,hb,hT,yg n c g y s i b wq (h.quiet hq) hi1 (by omega) hb⟩
   have HH:=dV h;have ZT:=dV Ij;have oc:=dV t1;have LN:=dV Dg;have Dx:=dV (uG (s:=s) hi1 hi2);have CD:(db s i { s.tx i with state:=2 }).net.lost=s.net.lost:=rfl;clear h ho hw Ij As t1 t2 Dg hS pH hst;go_enter Tryz.func15,Tryz.ntmps15;go_upto_region 6 with (first
    | (go_at_call 35;refine pY.out.mono ?_;rintro e w1 ⟨rfl,rfl⟩)
    | (go_at_call 41;refine CO.out.mono ?_;rintro e w2 ⟨rfl,hm2⟩)
    | fail)
   obtain ⟨b,hb,hT,CJ⟩:=Pn.out w2 hm2;have ku:=dV CJ;have p0:=hT.blk.cell 0 rfl;have f0:=hT.blk.frozen 0;have zb:=hT.blk.lt;obtain ⟨w3,hw3⟩:∃ x,x=w2.setCell ⟨b,0,none⟩ (.int .i64 2):=⟨_,rfl⟩;have dy:Mod (eA b) w2 w3:=by rw [hw3];exact Mod.dt b 0 _
   have lQ:dg w3 b [.int .i64 2,y.jQ b,y.jq b,.int .i64 (s.tx i).time] 86:=by rw [hw3];exact hT.blk.set 0 _
   have pD:=oP hT.ats hT.blk (by decide);have yw:=oP hT.wr hT.blk (by decide);obtain ⟨sJ,PB⟩:=(HH.out.quiet hm2).po hb Dx.out (t':={ s.tx i with state:=2 }) (av:=y.jQ b) (wv:=y.jq b) (dy.mono (fun x _ e=>.inl e)) lQ (fm hT.ats dy (fun k _ _ e q=>pD (by rw [e];exact ai some q))) (fm hT.wr dy (fun k _ _ e q=>yw (by rw [e];exact ai some q))) (.inl (.inl rfl)) (.inl (.inl rfl));rw [Js] at sJ;have hK3:eL w1 y w3 (y.jj w2 b (y.jQ b) (y.jq b)):=(eL.quiet hm2).trans ⟨PB,rfl,rfl,rfl,rfl,rfl⟩;generalize y.jj w2 b (y.jQ b) (y.jq b)=y3 at sJ hK3;have vl:=dV (Te n c g y3 _ w3 sJ ZT.out (by rw [CD];omega));have tr:=dV hK3;have HL3:Hid ((kM (db s i { s.tx i with state:=2 })).net.lost<=s.net.lost+300):=by rw [CD] at Iz;exact Iz.2
   clear hb hT CJ hm2 dy lQ pD yw sJ PB hK3 HH Pn pY CO Iz CD;go_upto_region 7 with (first
    | (go_at_call 34;refine ku.out.mono ?_;rintro e w4 ⟨rfl,rfl⟩)
    | fail)
   rw [<-hw3];clear hw3 p0 f0 zb;go_wp2_with fail;refine vl.out.mono ?_;rintro e w5 ⟨rfl,y5,kt,pG⟩;have pX:=dV (Ua n c g y5 _ w5 kt oc.out LN.out hc (by have:=HL3.out;omega));have Ft:=dV (tr.out.trans pG);clear kt pG vl;go_wp2_with fail;refine pX.out.mono ?_;rintro e w6 ⟨rfl,y6,Se,Fe⟩;have HF:Hid (iU w1 n c g y (iT s i).1 (iT s i).2 (.returned .nilIface) w6):=by unfold Hid;rw [HD.out];exact ⟨by rw [ou],y6,Se,Ft.out.trans Fe⟩
   clear Se Fe pX;go_wp2_with fail;go_ret;exact HF.out
 ·have HF:Hid (iU w n c g y (iT s id).1 (iT s id).2 (.returned (.iface 90 (.int .i64 (pL s id)))) w):=by
   unfold Hid iT;rw [aP ho];exact ⟨by rw [mS ho],y,h,eL.refl _ _⟩
  rw [mS ho] at pY;clear h ho;go_enter Tryz.func15,Tryz.ntmps15;go_wp2_with (first
   | (go_at_call 35;refine pY.out.mono ?_;rintro e w1 ⟨rfl,rfl⟩)
   | fail)
  go_ret;exact HF.out
def qS(s:dX)(k m:Nat):dX:=(List.range m).foldl (fun h i=>if kc h k i then gi h (i+1) else h) s
theorem zXm(s:dX)(k m:Nat):qS s k (m+1)=if kc (qS s k m) k m then gi (qS s k m) (m+1) else qS s k m:=by unfold qS;rw [aj,al];rfl
theorem yKn{s:dX}(h:Safe s)(hH:Held s){k:Nat}(hk:k<s.lines.length):∀ m,m<=s.dW.length->fZ s (qS s k m)/\gG s (qS s k m):=by
 intro m
 induction m with
 | zero=>exact fun _=>⟨fZ.refl h hH,gG.refl s⟩
 | succ m ih=>
  intro hm;rw [zXm];obtain ⟨a,b⟩:=ih (by omega);generalize qS s k m=S at a b;split
  ·rename_i hl;have jx:m+1<=S.dW.length:=by rw [b.len];omega
   have IS:k<S.lines.length:=by rw [b.l];exact hk
   unfold kc at hl;simp only [bT,br,bA] at hl;obtain ⟨oJ,hl2⟩:=hl;have hx:=a.safe.tx (m+1) (by omega) jx;have lp:k<du S:=by
    have:k≠du S:=fun e=>oJ (by rw [e];exact hx.dec);unfold du at this ⊢;omega
   have Fh:Held (gi S (m+1)):=a.held.abort (m+1) (by omega) (fun x hx=>by simp at hx);rcases hl2 with q | ⟨q,q2⟩
   ·exact ⟨a.trans ⟨a.safe.abort (by omega) jx q,Fh,mP.abort (by omega) jx (by omega),by rw [Ea]⟩,b.trans (gG.abort S _)⟩
   ·have hr:ue (S.tx (m+1))=false:=by
     apply aS;intro hn;simp only [Bool.not_eq_false] at hn;have:=Jy.1 hn k;have:=hx.oz k;have h2:(S.tx (m+1)).ats.getD k 0=2:=by omega
     have:=Vh a.safe (by omega) jx lp h2;have e:((m+1:Nat):Int)=(m:Int)+1:=by omega
     rw [e,q2] at this;cases this
    exact ⟨a.trans ⟨a.safe.ve (by omega) jx q hr,Fh,mP.abort (by omega) jx (by omega),by rw [Ea]⟩,b.trans (gG.abort S _)⟩
  ·exact ⟨a,b⟩
theorem yFz(n c g:Nat)(y:dY)(s:dX)(k:Nat)(w:World)(h:dx w n c g y s)(hS:Safe s)(pH:Held s)(hk:k<s.lines.length)(hc:c<=10000) :
  Calls Tryz.prog 62 #[.pointer (some ⟨g,0,none⟩),.int .i64 k] w fun e w'=>e=.returned (.tuple #[])/\∃ y',dx w' n c g y' (sV s k)/\eL w y w' y':=by
 obtain ⟨c0,-⟩:=kF h.blk;obtain ⟨b,hb,hL⟩:=h.nJ hk;obtain ⟨lg,ey,hlv,cl⟩:=wB h.fi hb;have hlen:=h.iQ;rw [hlv,hlen] at c0;obtain ⟨d,hd,x,hx,Sa⟩:=hL.wN (j:=0) (by have:=bX.2 (hS.line k hk).ne;omega);have hx0:x=eE s k:=by
  have:=hS.head hk;rw [hx] at this;exact ax this
 subst hx0;have b0:=hL.blk.cell 0 rfl;obtain ⟨ng,pr,pC,cn⟩:=wB hL.row hd;rw [pC] at b0;have sP:=dV (Lq _ _ _ _ _ _ Sa);have xu:(k:Int)<(s.lines.length:Int):=by omega
 have qs:(0:Int)<=(k:Int):=by omega
 have hn0:=(aB.1 hd).1;have sW:(0:Int)<((y.fL b).length:Int):=by omega
 have fR:(eE s k).log.length<=305:=(hS.log k hk).few hS.tl;have htl:=hS.tl;have hll:=hS.ll;have HH:=dV h;have HS:=dV hS;have JY:=dV pH;clear h hS pH hb hL hlv hd hx Sa pC;go_enter Tryz.func62,Tryz.ntmps62;go_upto_region 1 with (first
  | (go_at_call 40;refine sP.out.mono ?_;rintro e w2 ⟨v,rfl,hrc,qu,hm2⟩;obtain ⟨va,vc,lI⟩:=hrc.slice;subst lI)
  | fail)
 have Ak:KM w2 y (.slice va (eE s k).log.length vc) (eE s k).log:=by
  refine ⟨hrc.mB,.inr fun z hz=>?_⟩;have hz2:=qu z hz;obtain ⟨us,_,h3,_⟩:=hrc;refine ⟨?_,(fW h3 hz).2.1⟩;exact aS fun e=>by have:=(HH.out.own.lt z e).2;omega
 have Lb:=dV Ak;have lW:=dV (HH.out.quiet hm2);have xC:Hid (eL w y w2 y):=eL.quiet hm2;obtain ⟨-,-,-,-,-,-,c6⟩:=kF lW.out.blk;obtain ⟨ta,gL,oS⟩:=eu lW.out.gW;rw [oS,lW.out.kN] at c6;have HTV:Hid (y.tv=.slice ta s.dW.length gL):=by unfold Hid;rw [oS,lW.out.kN]
 clear hrc qu hm2 Ak sP oS c0 b0 cl cn;go_wp2_with fail;go_loopw [26] (fun i0 wr=>∃ (i:Nat) (yr:dY),i<=s.dW.length/\i0=.int .i64 i/\dx wr n c g yr (qS s k i)/\eL w2 y wr yr) (fun i0 _=>s.dW.length - (intOf i0).toNat)
 case atStart=>exact ⟨0,y,aT _,rfl,lW.out,eL.refl _ _⟩
 case round=>
  obtain ⟨i,yr,hil,rfl,hH,hK⟩:=hrel;obtain ⟨wo,hwo⟩:∃ x,x=wr:=⟨_,rfl⟩;subst hwo;by_cases hlt:i<s.dW.length
  ·obtain ⟨tA,tS⟩:=yKn HS.out JY.out hk i hil;have jz:=dV (zXm s k i);have oK:(qS s k i).dW.length=s.dW.length:=tS.len;have hn0:eE (qS s k i) k=eE s k:=by unfold eE dX.line;rw [tS.l]
   have DW:(qS s k i).lines.length=s.lines.length:=by rw [tS.l]
   generalize qS s k i=S at hH tA jz oK hn0 DW;have hi1:1<=i+1:=by omega
   have hi2:i+1<=S.dW.length:=by omega
   obtain ⟨b2,hb2,hT⟩:=hH.xc hi1 hi2;rw [bP] at hb2;obtain ⟨tg,tcap',AJ,ct⟩:=wB hH.gW hb2;have Bz:ta=some ⟨tg,0,none⟩:=by
    have e:=hK.tv;rw [AJ,HTV.out] at e;simp only [Value.slice.injEq] at e;exact e.1.symm
   subst Bz;have qE:=(tA.safe.tx (i+1) hi1 hi2).len;obtain ⟨ab,rH,np,Ii⟩:=yIn hT (k:=k) (by rw [qE,DW];exact hk);have t0:=hT.blk.cell 0 rfl;have t1:=hT.blk.cell 1 rfl;rw [np,qE,DW] at t1;obtain ⟨x,hx⟩:∃ x,x=(S.tx (i+1)).ats.getD k 0:=⟨_,rfl⟩;rw [<-hx] at Ii;have lq:=dV (UL _ _ 2 ((i:Int)+1) wo (Lb.out.keep hK.st).1 (by omega));have eii:((i+1:Nat):Int)=(i:Int)+1:=by omega
   have sb:Hid (∀ wq,Mod dZ wo wq->Calls Tryz.prog 36 #[.pointer (some ⟨g,0,none⟩),.int .i64 ((i:Int)+1)] wq fun e w'=>e=.returned (.tuple #[])/\∃ y',dx w' n c g y' (gi S (i+1))/\eL wq yr w' y'):=fun wq hq=>by
    have:=Tj n c g yr S (i+1) wq (hH.quiet hq) hi1 hi2 (by omega) hc (by rw [qE];omega);rw [eii] at this;exact this
   have uW:Hid (∀ bl,kc S k i=bl->qS s k (i+1)=if bl then gi S (i+1) else S):=fun bl e=>by rw [jz.out,e]
   have nB:Hid (kc S k i=(decide (x≠0) && (decide ((S.tx (i+1)).state=1) || (decide ((S.tx (i+1)).state=2) && (kp (eE s k).log 2 ((i:Int)+1)).isNone)))):=by unfold Hid kc;simp only;rw [hn0,hx]
   have xw:(i:Int)<(s.dW.length:Int):=by omega
   have hi0:(0:Int)<=(i:Int):=by omega
   have jH:=dV hH;have nt:=dV hK;clear hH hK hT hb2 AJ np qE tA tS jz hn0 DW hx;generalize (S.tx (i+1)).state=st at t0 nB;by_cases hx0:x=0
   ·have Hq:(x != 0)=false:=by simpa using hx0
    by_cases s1:st=1
    ·have hs1:(st == 1)=true:=by simpa using s1
     have HF:Hid (∀ wq,Mod dZ wo wq->dx wq n c g yr (qS s k (i+1))/\eL w2 y wq yr):=fun wq hq=>⟨by rw [uW.out false (by rw [nB.out];simp [s1,hx0])];exact jH.out.quiet hq,nt.out.trans (eL.quiet hq)⟩;clear uW nB jH nt sb;have nX:=dV (HF.out wo (Mod.refl _ _));clear HF;go_wp2_with fail;go_roundw
     case rel=>exact ⟨i+1,yr,by omega,by go_num,nX.out.1,nX.out.2⟩
     case measure=>simp [intOf];omega
    ·have hs1:(st == 1)=false:=by simpa using s1
     by_cases s2:st=2
     ·have hs2:(st == 2)=true:=by simpa using s2
      cases hpc:kp (eE s k).log 2 ((i:Int)+1) with
      | none=>
       rw [hpc] at lq;have HF:Hid (∀ wq,Mod dZ wo wq->dx wq n c g yr (qS s k (i+1))/\eL w2 y wq yr):=fun wq hq=>⟨by rw [uW.out false (by rw [nB.out];simp [s2,hx0,hpc])];exact jH.out.quiet hq,nt.out.trans (eL.quiet hq)⟩;clear uW nB jH nt sb;go_upto_region 5 with (first
        | (go_at_call 80;refine lq.out.mono ?_;rintro e w3 ⟨rfl,dy⟩;simp only [iR])
        | fail)
       have q1:=dy.cell t1 (fun e=>e);have q2:=dy.cell Ii (fun e=>e);have iI:=dV dy;clear dy lq;have nX:=dV (HF.out w3 iI.out);clear HF;go_wp2_with fail;go_roundw
       case rel=>exact ⟨i+1,yr,by omega,by go_num,nX.out.1,nX.out.2⟩
       case measure=>simp [intOf];omega
      | some j=>
       rw [hpc] at lq;have Kl:decide ((j:Int)<0)=false:=aL (by omega);have HF:Hid (∀ wq,Mod dZ wo wq->dx wq n c g yr (qS s k (i+1))/\eL w2 y wq yr):=fun wq hq=>⟨by rw [uW.out false (by rw [nB.out];simp [s2,hpc])];exact jH.out.quiet hq,nt.out.trans (eL.quiet hq)⟩;clear uW nB jH nt sb;go_upto_region 5 with (first
        | (go_at_call 80;refine lq.out.mono ?_;rintro e w3 ⟨rfl,dy⟩;simp only [iR])
        | fail)
       have q1:=dy.cell t1 (fun e=>e);have q2:=dy.cell Ii (fun e=>e);have iI:=dV dy;clear dy lq;have nX:=dV (HF.out w3 iI.out);clear HF;go_wp2_with fail;go_roundw
       case rel=>exact ⟨i+1,yr,by omega,by go_num,nX.out.1,nX.out.2⟩
       case measure=>simp [intOf];omega
     ·have hs2:(st == 2)=false:=by simpa using s2
      have HF:Hid (∀ wq,Mod dZ wo wq->dx wq n c g yr (qS s k (i+1))/\eL w2 y wq yr):=fun wq hq=>⟨by rw [uW.out false (by rw [nB.out];simp [s1,s2])];exact jH.out.quiet hq,nt.out.trans (eL.quiet hq)⟩;clear uW nB jH nt sb;have nX:=dV (HF.out wo (Mod.refl _ _));clear HF;go_wp2_with fail;go_roundw
      case rel=>exact ⟨i+1,yr,by omega,by go_num,nX.out.1,nX.out.2⟩
      case measure=>simp [intOf];omega
   ·have Hq:(x != 0)=true:=by simpa using hx0
    by_cases s1:st=1
    ·have hs1:(st == 1)=true:=by simpa using s1
     have HE:=dV (uW.out true (by rw [nB.out];simp [s1,hx0]));clear uW nB;have BW:=dV (sb.out wo (Mod.refl _ _));have tr:=dV (nt.out.trans (eL.quiet (Mod.refl _ _)));clear sb jH nt;go_wp2_with fail;refine BW.out.mono ?_;rintro e w4 ⟨rfl,y4,pV,hK4⟩;have HF:Hid (dx w4 n c g y4 (qS s k (i+1))/\eL w2 y w4 y4):=⟨by rw [HE.out];exact pV,tr.out.trans hK4⟩;clear pV hK4 BW;go_wp2_with fail;go_roundw
     case rel=>exact ⟨i+1,y4,by omega,by go_num,HF.out.1,HF.out.2⟩
     case measure=>simp [intOf];omega
    ·have hs1:(st == 1)=false:=by simpa using s1
     by_cases s2:st=2
     ·have hs2:(st == 2)=true:=by simpa using s2
      cases hpc:kp (eE s k).log 2 ((i:Int)+1) with
      | none=>
       rw [hpc] at lq;have HE:=dV (uW.out true (by rw [nB.out];simp [s2,hx0,hpc]));clear uW nB;go_upto_region 5 with (first
        | (go_at_call 80;refine lq.out.mono ?_;rintro e w3 ⟨rfl,dy⟩;simp only [iR])
        | fail)
       have q1:=dy.cell t1 (fun e=>e);have q2:=dy.cell Ii (fun e=>e);have iI:=dV dy;clear dy lq;have BW:=dV (sb.out w3 iI.out);have tr:=dV (nt.out.trans (eL.quiet iI.out));clear sb jH nt;go_wp2_with fail;refine BW.out.mono ?_;rintro e w4 ⟨rfl,y4,pV,hK4⟩;have HF:Hid (dx w4 n c g y4 (qS s k (i+1))/\eL w2 y w4 y4):=⟨by rw [HE.out];exact pV,tr.out.trans hK4⟩;clear pV hK4 BW;go_wp2_with fail;go_roundw
       case rel=>exact ⟨i+1,y4,by omega,by go_num,HF.out.1,HF.out.2⟩
       case measure=>simp [intOf];omega
      | some j=>
       rw [hpc] at lq;have Kl:decide ((j:Int)<0)=false:=aL (by omega);have HF:Hid (∀ wq,Mod dZ wo wq->dx wq n c g yr (qS s k (i+1))/\eL w2 y wq yr):=fun wq hq=>⟨by rw [uW.out false (by rw [nB.out];simp [s2,hpc])];exact jH.out.quiet hq,nt.out.trans (eL.quiet hq)⟩;clear uW nB jH nt sb;go_upto_region 5 with (first
        | (go_at_call 80;refine lq.out.mono ?_;rintro e w3 ⟨rfl,dy⟩;simp only [iR])
        | fail)
       have q1:=dy.cell t1 (fun e=>e);have q2:=dy.cell Ii (fun e=>e);have iI:=dV dy;clear dy lq;have nX:=dV (HF.out w3 iI.out);clear HF;go_wp2_with fail;go_roundw
       case rel=>exact ⟨i+1,yr,by omega,by go_num,nX.out.1,nX.out.2⟩
       case measure=>simp [intOf];omega
     ·have hs2:(st == 2)=false:=by simpa using s2
      have HF:Hid (∀ wq,Mod dZ wo wq->dx wq n c g yr (qS s k (i+1))/\eL w2 y wq yr):=fun wq hq=>⟨by rw [uW.out false (by rw [nB.out];simp [s1,s2])];exact jH.out.quiet hq,nt.out.trans (eL.quiet hq)⟩;clear uW nB jH nt sb;have nX:=dV (HF.out wo (Mod.refl _ _));clear HF;go_wp2_with fail;go_roundw
      case rel=>exact ⟨i+1,yr,by omega,by go_num,nX.out.1,nX.out.2⟩
      case measure=>simp [intOf];omega
  ·obtain rfl:i=s.dW.length:=by omega
   have HF:Hid (∃ y',dx wo n c g y' (sV s k)/\eL w y wo y'):=⟨yr,hH,xC.out.trans hK⟩;clear hH hK;go_wp2_with fail;go_end0;exact ⟨rfl,HF.out⟩
theorem dx.Mt{w w':World}{n c g:Nat}{y:dY}{s:dX}(h:dx w n c g y s){d:List Int}(hm:Mod (eA y.dr) w w')(hD:pf w' n (some y.dr) d):dx w' n c g y { s with dead:=d }/\eL w y w' y:=by
 have own:=h.own;have hq:Qm w (y.lo n) (eA y.dr):=fun z hz e=>by
  simp only [eA] at e;subst e;rintro (e1 | ⟨⟨cur,fr,e1⟩,_⟩)
  ·have h9:=(own.lt y.dr (by rw [own.dead];simp)).1;have h8:y.dr<n:=e1;omega
  ·rcases h.dead with ⟨e,_⟩ | ⟨b,D,e,_,⟨es,clock,h2,_⟩,_⟩
   ·cases e
   ·cases e
    rw [h2] at e1;simp at e1
 have ht:re w w' n y (fun t=>t=.dead):=⟨⟨_,hm,hq,fun z hz e=>by
  simp only [eA] at e;subst e;exact ⟨own.dead,by rw [own.dead];simp⟩⟩⟩
 refine ⟨⟨h.tZ ht (by simp),h.vU ht (by simp),hD,h.tY ht (by simp),h.qn,h.oX ht (by simp),h.iQ,fun k b l hb hl=>h.qF ht hb hl (by simp) (fun d _=>by simp),h.oW ht (by simp),h.kN,fun i b t hb hti=>h.Dq ht hb hti (by simp),own.more hm.size⟩,⟨hm.mono (fun z hz e=>by simp only [eA] at e;subst e;rw [own.dead];simp),fun _ _=>rfl⟩,rfl,rfl,rfl,rfl,rfl⟩
theorem yTf(n c g:Nat)(y:dY)(s:dX)(id:Int)(w:World)(h:dx w n c g y s)(hs:lr s)(hid:gO id)(hd1:s.dead.length<=1000)(hd2:s.net.down.length<=1000)(hlo:s.net.lost+200<=4611686018427387904) :
  Calls Tryz.prog 60 #[.pointer (some ⟨g,0,none⟩),.int .i64 id] w (iU w n c g y (pZ s id).1 (pZ s id).2):=by
 have nr:=dV (yCj n c g y s id w h hs);have HH:=dV h
 cases hno:pK s id with
 | none=>
  rw [hno] at nr;have HE:Hid (pZ s id=(s,7)):=by unfold Hid pZ;rw [hno];rfl
  clear h hno;go_enter Tryz.func60,Tryz.ntmps60;go_upto_region 2 with (first
   | (go_at_call 55;refine nr.out.mono ?_;rintro e w3 ⟨hfo,dy⟩;obtain rfl:=zXl hfo)
   | fail)
  have HF:Hid (iU w n c g y (pZ s id).1 (pZ s id).2 (.returned (.iface 90 (.int .i64 7))) w3):=by
   unfold Hid;rw [HE.out];exact ⟨by rw [mS (by omega)],y,HH.out.quiet dy,eL.quiet dy⟩
  clear dy;go_wp2_with fail;go_ret;exact HF.out
 | some kj=>
  obtain ⟨kk,j⟩:=kj;rw [hno] at nr;have HE:Hid (pZ s id=({ s with dead:=s.dead++[id],net:=Ef s.net id },0)):=by unfold Hid pZ;rw [hno];rfl
  have hkey:keyOf Tryz.prog 3 (.int .i64 id)=some (.int .i64 id):=keyOf_int_mk Tryz.underlying3 (Lm hid);clear h hno;go_enter Tryz.func60,Tryz.ntmps60;go_upto_region 4 with (first
   | (go_at_call 55;refine nr.out.mono ?_;rintro e w3 ⟨hfo,dy⟩;obtain ⟨b,d,-,-,rfl⟩:=zXk hfo)
   | fail)
  have Fv:=dV (HH.out.quiet dy);have tr:Hid (eL w y w3 y):=eL.quiet dy;obtain ⟨-,c1,-⟩:=kF Fv.out.blk;have hg3:=Fv.out.blk.lt;have oV:=Fv.out.dead;rcases oV with ⟨e,_⟩ | ⟨b',D,e,Dk,hown,hhas⟩
  ·cases e
  cases e
  have HO:=dV hown;have Ja:=dV hhas;clear hown hhas dy hfo nr;go_upto_region 5 with (first
   | (at_mapUpdate;refine wpList_mapUpdate_own _ rfl _ _ _ 75 rfl 3 158 zz Tryz.underlying75 unitElem y.dr _ D rfl HO.out (by unfold maxLen;omega) _ _ _ rfl rfl hkey _ [] unitElem_mk ?_;intro w4 FH Ah)
   | fail)
  have gR:Mod (eA y.dr) w3 w4:=(Mod.refl _ w3).grown Ah (fun x hx _=>by cases hx;rfl);obtain ⟨pV,hK4⟩:=Fv.out.Mt gR (pf.put (L:=⟨n,fun _=>False⟩) Ja.out HO.out.isMap Dk (aF _) hid FH);have HDW:=dV (yTl (y.lo n) g y.wv y.mr s.net id w4 pV.qo hid (by omega) hlo);have TC:=dV pV;have BP:=dV (tr.out.trans hK4);have hg4:=pV.blk.lt;clear pV hK4 gR FH Ah HO Ja c1;go_wp2_with fail;refine HDW.out.mono ?_;rintro e w5 ⟨wv5,mr5,rfl,mj,Ww,jt,eP⟩;obtain ⟨kt,hS5⟩:=TC.out.so eP mj (.inl Ww) jt;have HF:Hid (iU w n c g y (pZ s id).1 (pZ s id).2 (.returned .nilIface) w5):=by
   unfold Hid;rw [HE.out];exact ⟨by rw [ou],_,kt,BP.out.trans ⟨hS5,rfl,rfl,rfl,rfl,rfl⟩⟩
  clear kt hS5 mj eP HDW;go_wp2_with fail;go_ret;exact HF.out
theorem MV{P:Program}{w w':World}{ops:Array Oper}{rest:List Oper}{o:Oper}{a:Act}{Q:Exit->Act->World->Prop}{v:Value}(hgd:o.guard=none)(hrun:(execOp a.eval o).run P w=.ok (.value v) w')(h:wpList P ops Q rest (a.put o.dst v) w'):wpList P ops Q (o :: rest) a w:=by
 refine wpList_plain hgd fun K hK=>?_;unfold Oper.wp;rw [hrun];exact hK _ _ h
structure ko(w:World)(L:Lo)(bs:List Nat)(nv lv:Nat->Value)(ns:List eK):Prop where
 len:bs.length=ns.length
 nd:bs.Nodup
 node:∀ (j c:Nat) s,bs[j]?=some c->ns[j]?=some s->fe w L c (nv c) (lv c) s
 ap:∀ c∈bs,∀ c'∈bs,c≠c'->∀ z,gw c (nv c) (lv c) z->¬ gw c' (nv c') (lv c') z
theorem ko.quiet{w w':World}{L:Lo}{bs:List Nat}{nv lv:Nat->Value}{ns:List eK}(h:ko w L bs nv lv ns)(hm:Mod dZ w w'):ko w' L bs nv lv ns:=⟨h.len,h.nd,fun j c s hc hs=>(h.node j c s hc hs).quiet hm,h.ap⟩
def kC(f:Nat->Value)(d:Nat)(v:Value):Nat->Value:=fun x=>if x=d then v else f x
theorem uJ(f:Nat->Value)(d:Nat)(v:Value):kC f d v d=v:=by simp [kC]
theorem uK(f:Nat->Value){d x:Nat}(v:Value)(h:x≠d):kC f d v x=f x:=by simp [kC,h]
theorem ko.turn{w w':World}{L:Lo}{bs:List Nat}{nv lv:Nat->Value}{ns:List eK}(h:ko w L bs nv lv ns){j c:Nat}(hc:bs[j]?=some c){oQ ja:Value}{x:eK}(hm:Mod (gw c (nv c) (lv c)) w w')(hN:fe w' L c oQ ja x)(h1:iF w (nv c) oQ)(h2:iF w (lv c) ja):ko w' L bs (kC nv c oQ) (kC lv c ja) (ns.set j x):=by
 have hcm:=aC hc;have hjl:j<ns.length:=by have:=(aB.1 hc).1;have:=h.len;omega
 have hold:=h.node j c _ hc (aA hjl);have hlt:∀ d∈bs,∀ z,gw d (nv d) (lv d) z->z<w.heap.size:=fun d hd z hz=>by
  obtain ⟨i,hi⟩:=aO hd;have hil:i<ns.length:=by have:=(aB.1 hi).1;have:=h.len;omega
  exact ((h.node i d _ hi (aA hil)).lt hz).2.1
 have vG:∀ z,gw c oQ ja z->z<w.heap.size->gw c (nv c) (lv c) z:=fun z hz hl=>by
  rcases hz with e | e | e
  ·exact .inl e
  ·rcases h1 with q | q
   ·exact .inr (.inl (by rw [<-q];exact e))
   ·have:=q z e;omega
  ·rcases h2 with q | q
   ·exact .inr (.inr (by rw [<-q];exact e))
   ·have:=q z e;omega
 refine ⟨by rw [ag];exact h.len,h.nd,fun i d s hd hs=>?_,fun d hd d' hd' hne z hz=>?_⟩
 ·rw [qf] at hs;by_cases e:i=j
  ·rw [aP ⟨e,by omega⟩] at hs
   cases hs
   subst e;rw [hc] at hd;cases hd
   rw [uJ,uJ];exact hN
  ·rw [aK (fun q=>e q.1)] at hs;have hne:d≠c:=fun q=>e (by subst q;exact GK h.nd hd hc);rw [uK _ _ hne,uK _ _ hne];exact fe.mod (h.node i d s hd hs) hm (fe.qm hold) (fun z hz q=>h.ap d (aC hd) c hcm hne z hz q)
 ·by_cases e:d=c
  ·subst e;have qp:d'≠d:=fun q=>hne q.symm;rw [uJ,uJ] at hz;rw [uK _ _ qp,uK _ _ qp];intro q;have hzl:=hlt d' hd' z q;exact h.ap d hd d' hd' hne z (vG z hz hzl) q
  ·rw [uK _ _ e,uK _ _ e] at hz;by_cases e2:d'=c
   ·subst e2;rw [uJ,uJ];intro q;exact h.ap d hd d' hd' hne z hz (vG z q (hlt d hd z hz))
   ·rw [uK _ _ e2,uK _ _ e2];exact h.ap d hd d' hd' hne z hz
theorem zPq:∀ (ms:List dw) (us:List Value) (uz:List dw) (xZ:List Value),us.length=ms.length->gy (ms++uz) (us++xZ)=gy ms us++gy uz xZ
 | [],[],uz,xZ,_=>by simp [gy]
 | [],_ :: _,_,_,h=>by simp at h
 | _ :: _,[],_,_,h=>by simp at h
 | m :: ms,u :: us,uz,xZ,h=>by simp [gy,zPq ms us uz xZ (by simpa using h)]
theorem zPp{w:World}{L:Lo}:∀ (ms:List dw) (us:List Value),us.length=ms.length->(∀ (i:Nat) m u,ms[i]?=some m->us[i]?=some u->iH w L u m.cmd.writes)->∀ u∈gy ms us,u.oneCell'=true
 | [],[],_,_=>by simp [gy]
 | [],_ :: _,h,_=>by simp at h
 | _ :: _,[],h,_=>by simp at h
 | m :: ms,u :: us,h,hp=>by
  intro x hx;rcases aN.1 hx with e | e
  ·obtain ⟨a,cap,rfl,_⟩:=hp 0 m u rfl rfl;exact Va m a _ cap x e
  ·exact zPp ms us (by simpa using h) (fun i m' u' h1 h2=>hp (i+1) m' u' (by simpa using h1) (by simpa using h2)) x e
theorem eV.join{w:World}{L:Lo}{v r:Value}{ms uz:List dw}(h:eV w L v ms)(k:eV w L r uz)(hl:ms.length+uz.length<=1000)(hb:L.n<=w.heap.size)(ty:TypeId) :
  ∃ v' w',(Builtin.append_ #[76,76] ty #[v,r]).run Tryz.prog w=.ok v' w'/\eV w' L v' (ms++uz)/\w.grownBy w' v.ownBlock/\(v'.ownBlock=v.ownBlock\/v'.ownBlock=some w.heap.size):=by
 obtain ⟨i0,hi,hz0,hz1,hz2⟩:=info_parts Tryz.pS;obtain ⟨us,h1,h2,h3,h4⟩:=h;obtain ⟨xZ,k1,k2,k3,k4⟩:=k;rcases k2.2 with ⟨e,e0⟩ | ⟨g',cap',cur,e,_⟩
 ·subst e;have hnil:uz=[]:=aR e0;subst hnil;refine ⟨v,w,run_append_owned_none (P:=Tryz.prog) (w:=w) L.n 76 ty 112 i0 9 Tryz.underlying76 hi v _ _ h2,by rw [cW];exact ⟨us,h1,h2,h3,h4⟩,⟨rfl,rfl,rfl,aF _,fun _ _ _=>rfl⟩,.inl rfl⟩
 ·subst e;have hcl:=k2.cells (g:=g') rfl;obtain ⟨v',w',hr,hown,hgr,_,hat⟩:=run_append_own_at (P:=Tryz.prog) w L.n 76 ty 112 i0 _ 9 88 Tryz.underlying76 hi hz0 hz1 hz2 rfl (by omega) v _ _ h2 ⟨g',0,none⟩ uz.length cap' (gy uz xZ) (Bu uz xZ k1) hcl (zPp uz xZ k1 k3) (by unfold maxLen;omega) (by omega) hb;have hm:Mod (fun z=>v.ownBlock=some z) w w':=(Mod.refl _ w).grown hgr (fun x hx _=>hx);have hq:=Qm.row h2 (aF _) (by decide);refine ⟨v',w',hr,⟨us++xZ,by rw [aD,aD,h1,k1],?_,fun i m u hi' hu=>?_,fun m hm'=>?_⟩,hgr,hat⟩
  ·rw [zPq ms us uz xZ h1,aD];exact hown
  ·by_cases hlt:i<ms.length
   ·rw [aE hlt] at hi';rw [aE (by omega)] at hu;exact (h3 i m u hi' hu).mod hm hq
   ·rw [aM (by omega)] at hi';rw [aM (by omega),h1] at hu;exact (k3 _ m u hi' hu).mod hm hq
  ·rcases aN.1 hm' with e | e
   ·exact h4 m e
   ·exact k4 m e
end Go.Proofs.YtmaiggbnceejiaaGreatDoor
