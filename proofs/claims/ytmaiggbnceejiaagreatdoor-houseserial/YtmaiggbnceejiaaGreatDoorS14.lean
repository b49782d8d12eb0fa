import Derived.Test.YtmaiggbnceejiaaGreatDoorS13
set_option linter.unusedVariables false
set_option maxRecDepth 100000
set_option maxHeartbeats 16000000
namespace Go.Proofs.YtmaiggbnceejiaaGreatDoor
open Go.RowKit Go.Lib Go.Maps
structure lr(s:dX):Prop where
 ll:2<=s.lines.length/\s.lines.length<=5
 nl:∀ l∈s.lines,1<=l.nodes.length/\l.nodes.length<=4
 tl:s.dW.length<=60
 ta:∀ t∈s.dW,t.ats.length=s.lines.length
 tw:∀ t∈s.dW,t.writes.length<=20
theorem Jp{s:dX}{k:Nat}(hk:k<s.lines.length):s.line k∈s.lines:=aC (ma hk)
theorem uG{s:dX}{id:Nat}(h1:1<=id)(h2:id<=s.dW.length):s.dW[id - 1]?=some (s.tx id):=by
 unfold dX.tx;rw [aI,aA (by omega)];rfl
theorem Cf{s:dX}{id:Nat}(h1:1<=id)(h2:id<=s.dW.length):s.tx id∈s.dW:=aC (uG h1 h2)
theorem zVa{α:Type}(f p:α->Bool):∀ l:List α,
  ((l.filter f).findIdx? p=none/\l.findIdx? (fun x=>f x && p x)=none)\/∃ i j d,(l.filter f).findIdx? p=some i/\(l.filter f)[i]?=some d/\l.findIdx? (fun x=>f x && p x)=some j/\l[j]?=some d
 | []=>.inl ⟨rfl,rfl⟩
 | x :: l=>by
  have ih:=zVa f p l
  cases hf:f x with
  | false=>
   rw [List.filter_cons_of_neg (by simp [hf]),bu (xs:=l) (p:=fun x=>f x && p x)];simp only [hf,Bool.false_and];rcases ih with ⟨h1,h2⟩ | ⟨i,j,d,h1,h2,h3,h4⟩
   ·exact .inl ⟨h1,by simp [h2]⟩
   ·exact .inr ⟨i,j+1,d,h1,h2,by simp [h3],by simpa using h4⟩
  | true=>
   rw [List.filter_cons_of_pos hf,bu (xs:=l) (p:=fun x=>f x && p x),bu];simp only [hf,Bool.true_and]
   cases hp:p x with
   | true=>exact .inr ⟨0,0,x,by simp,rfl,by simp,rfl⟩
   | false=>
    rcases ih with ⟨h1,h2⟩ | ⟨i,j,d,h1,h2,h3,h4⟩
    ·exact .inl ⟨by simp [h1],by simp [h2]⟩
    ·exact .inr ⟨i+1,j+1,d,by simp [h1],by simpa using h2,by simp [h3],by simpa using h4⟩
def VM(y:dY)(o:Option (Nat × Nat))(e:Ending):Prop:=match o with
 | none=>e=.returned (.tuple #[.pointer none,.bool false])
 | some (k,j)=>∃ b d,y.gF[k]?=some b/\(y.fL b)[j]?=some d/\e=.returned (.tuple #[.pointer (some ⟨d,0,none⟩),.bool true])
theorem yJx{s:dX}{id:Int}{k:Nat}(hk:k<s.lines.length):yZ s id k (s.lines.drop k)=match Bc s (s.line k).nodes id with
  | some j=>some (k,j)
  | none=>yZ s id (k+1) (s.lines.drop (k+1)):=by
 rw [uh (ma hk)];rfl
theorem yNs(n c g q:Nat)(y:dY)(s:dX)(d:Nat)(id:Int)(w:World)(hd:xG w n y d (y.st s d))(hq:w.cell? ⟨q,0,none⟩=some (.int .i64 id)) :
  Calls Tryz.prog 97 #[.pointer (some ⟨d,0,none⟩),.pointer (some ⟨q,0,none⟩)] w fun e w'=>e=.returned (.bool (decide ((y.st s d).id=id)))/\Mod dZ w w':=by
 have HI:Hid (∀ m,Calls Tryz.prog 98 #[.pointer (some ⟨d,0,none⟩)] (w.drewN m) fun e w'=>e=.returned (.int .i64 (y.st s d).id)/\w'=w.drewN m):=fun m=>VX _ _ _ _ _ _ (hd.drewN m);have z:=World.block_lt_of_cell? w _ hq;clear hd;by_cases he:(y.st s d).id=id
 ·have hb:((y.st s d).id == id)=true:=by simpa using he
  have hdd:decide ((y.st s d).id=id)=true:=aQ he;have yU:=dV hdd;clear hdd he;go_enter Tryz.func97,Tryz.ntmps97;go_upto_region 1 with fail;go_quiet (first
   | (go_at_call 98;refine Calls.quiet_of_same (HI.out _))
   | fail)
  go_wp2_with fail;go_ret;exact ⟨by rw [yU.out];first | rfl | (simp [hb]),(Mod.refl _ w).drewN _⟩
 ·have hb:((y.st s d).id == id)=false:=by simpa using he
  have hdd:decide ((y.st s d).id=id)=false:=aL he;have yU:=dV hdd;clear hdd he;go_enter Tryz.func97,Tryz.ntmps97;go_upto_region 1 with fail;go_quiet (first
   | (go_at_call 98;refine Calls.quiet_of_same (HI.out _))
   | fail)
  go_wp2_with fail;go_ret;exact ⟨by rw [yU.out];first | rfl | (simp [hb]),(Mod.refl _ w).drewN _⟩
theorem yCj(n c g:Nat)(y:dY)(s:dX)(id:Int)(w:World)(h:dx w n c g y s)(hs:lr s) :
  Calls Tryz.prog 55 #[.pointer (some ⟨g,0,none⟩),.int .i64 id] w fun e w'=>VM y (pK s id) e/\Mod dZ w w':=by
 obtain ⟨w1,hw1⟩:∃ x,x=w.alloc (.cells #[.int .i64 id] 3):=⟨_,rfl⟩;have dh:Mod dZ w w1:=by rw [hw1];exact (Mod.refl _ w).alloc _
 have hb1:dg w1 w.heap.size [.int .i64 id] 3:=by rw [hw1];exact dg.new w _ _
 have h1:=h.quiet dh;obtain ⟨c0,-⟩:=kF h1.blk;obtain ⟨la,ey,hv⟩:=eu h1.fi;rw [hv,h.iQ] at c0;have hll:=hs.ll;have HH:=dV h1;have kA:=dV hb1;have fJ:=dV dh;have tF:∀ fn first cap w,(Instr.makeFunc fn first cap).run Tryz.prog w=.ok (.func fn first cap) w:=fun _ _ _ _=>rfl
 clear h h1 hv hb1 dh;go_enter Tryz.func55,Tryz.ntmps55;go_upto_region 1 with fail;rw [<-hw1];clear hw1;go_wp2_with fail;go_loopw [14] (fun k0 wr=>∃ k:Nat,k<=s.lines.length/\k0=.int .i64 k/\pK s id=yZ s id k (s.lines.drop k)/\Mod dZ w1 wr) (fun k0 _=>s.lines.length - (intOf k0).toNat)
 case atStart=>exact ⟨0,aT _,rfl,by rw [cC];rfl,Mod.refl _ _⟩
 case round=>
  obtain ⟨k,hkl,rfl,hf,hm⟩:=hrel;have HM:=dV hm;have HF:=dV hf;clear hm hf c0;by_cases hlt:k<s.lines.length
  ·have Af:=HH.out.quiet HM.out;obtain ⟨b,hb,hL⟩:=Af.nJ hlt;have hnl:=hs.nl _ (Jp hlt);have hlen:=hL.len;have CX:=dV (UP n c g y s k b wr Af hlt hb (by omega) (by omega));have jd:(k:Int)<(s.lines.length:Int):=by omega
   have HB:=dV hb;have HL:=dV Af;have HFC:=dV (yJx (id:=id) hlt);have HSM:=dV (Af.uu hb (ma hlt));clear Af hL hb hlen;go_wp2_with fail;refine CX.out.mono ?_;rintro e w2 ⟨v,rfl,hrow,hm2⟩;obtain ⟨va,vc,hv⟩:=eu hrow;subst hv;have HR:=dV hrow;have gE:=dV (HM.out.trans hm2);have qt:=HL.out.quiet hm2;have HA:mO 97 #[.pointer (some ⟨w.heap.size,0,none⟩)] (fun d=>.pointer (some ⟨d,0,none⟩)) (y.kf s b) (fun d=>decide ((y.st s d).id=id)) (fun wr=>dx wr n c g y s/\wr.cell? ⟨w.heap.size,0,none⟩=some (.int .i64 id)):=
    ⟨xL Tryz.func97 (by kernel_rfl) rfl,fun wa wb hh hm=>⟨hh.1.quiet hm,hm.cell hh.2 (fun e=>e)⟩,fun d hd wr hh=>yNs n c g w.heap.size y s d id wr (hh.1.mU HB.out (bE.1 hd).1) hh.2⟩
   have nW:=dV (zUi 97 w2.heap.size #[.pointer (some ⟨w.heap.size,0,none⟩)] (fun d=>decide ((y.st s d).id=id)) _ (y.kf s b) w2 _ (Tx hrow) HA ⟨qt,gE.out.cell (kA.out.cell 0 rfl) (fun e=>e)⟩ (by have:=bB (fun d=>gS s (y.st s d)) (y.fL b);have:=(HL.out.line k b _ HB.out (ma hlt)).len;show (y.kf s b).length<=_;unfold dY.kf;omega));clear hrow hm2 qt HA CX;go_wp2_with fail;refine nW.out.mono ?_;rintro e w3 ⟨rfl,dy⟩;have iI:=dV (gE.out.trans dy);have xx:=zVa (fun d=>gS s (y.st s d)) (fun d=>decide ((y.st s d).id=id)) (y.fL b);have hfn:Bc s (s.line k).nodes id=(y.fL b).findIdx? (fun d=>gS s (y.st s d) && decide ((y.st s d).id=id)):=by
    unfold Bc;rw [<-HSM.out,List.findIdx?_map];rfl
   rcases xx with ⟨g1,g2⟩ | ⟨i,j,d,g1,g2,g3,g4⟩
   ·have e1:iR ((y.kf s b).findIdx? fun d=>decide ((y.st s d).id=id)) = -1:=by unfold dY.kf;rw [g1];rfl
    rw [e1];have HN:Hid (pK s id=yZ s id (k+1) (s.lines.drop (k+1))):=by unfold Hid;rw [HF.out,HFC.out,hfn,g2]
    clear e1 g1 g2 hfn dy nW;go_wp2_with fail;go_roundw
    case rel=>exact ⟨k+1,by omega,by go_num,HN.out,iI.out⟩
    case measure=>simp [intOf];omega
   ·have e1:iR ((y.kf s b).findIdx? fun d=>decide ((y.st s d).id=id))=(i:Int):=by unfold dY.kf;rw [g1];rfl
    rw [e1];have HN:Hid (pK s id=some (k,j)):=by unfold Hid;rw [HF.out,HFC.out,hfn,g3]
    obtain ⟨rb,roff,rl,hra,_,hrl,_,hrc⟩:=fV.at (Tx (fm HR.out dy (fun _ _ _ _ e=>e))) g2;unfold Rq at hrl;subst hrl;subst hra;have q0:=hrc 0 _ rfl;simp only [bG,cZ] at q0;have hil:i<(y.kf s b).length:=(aB.1 g2).1;have xw:(i:Int)<((y.kf s b).length:Int):=by omega
    have hi0:(0:Int)<=(i:Int):=by omega
    have hge:decide ((i:Int) ≥ 0)=true:=aQ (by omega);have HG4:=dV g4;clear e1 g1 g2 g3 g4 hfn dy nW hrc;go_wp2_with fail;go_ret2;exact ⟨by rw [HN.out];exact ⟨b,d,HB.out,HG4.out,rfl⟩,fJ.out.trans iI.out⟩
  ·obtain rfl:k=s.lines.length:=by omega
   have HN:Hid (pK s id=none):=by unfold Hid;rw [HF.out,cj];rfl
   go_wp2_with fail;go_ret2;exact ⟨by rw [HN.out];rfl,fJ.out.trans HM.out⟩
def tz(w:World)(v:Value)(cs:List dv):Prop:=∃ us:List Value,(us.length=cs.length/\∀ u∈us,∃ a m c,u=.slice a m c)/\fV w w.heap.size 4 Eg v (cs.zip us)
theorem Qp{α β:Type}:∀ {a:List α} {b:List β} {i:Nat} {x:α × β},(a.zip b)[i]?=some x->a[i]?=some x.1/\b[i]?=some x.2
 | [],_,_,_,h=>by simp at h
 | _ :: _,[],_,_,h=>by simp at h
 | p :: a,q :: b,0,x,h=>by simp at h;subst h;exact ⟨rfl,rfl⟩
 | p :: a,q :: b,i+1,x,h=>by
  rw [List.zip_cons_cons,cT] at h;have:=Qp h;exact ⟨by simpa using this.1,by simpa using this.2⟩
theorem gZ.mB{w:World}{L:Lo}{v:Value}{cs:List dv}(h:gZ w L v cs):tz w v cs:=by
 obtain ⟨us,h1,h2,h3,h4⟩:=h;refine ⟨us,⟨h1,fun u hu=>?_⟩,?_⟩
 ·obtain ⟨i,hi⟩:=aO hu;have hil:i<cs.length:=by have:=(aB.1 hi).1;omega
  obtain ⟨a,cap,e,_⟩:=h3 i _ u (aA hil) hi;exact ⟨_,_,_,e⟩
 have hz:(cs.zip us).length=cs.length:=by rw [cD];omega
 rcases h2.2 with ⟨rfl,hn⟩ | ⟨g,cap,cur,rfl,q1,q2,q3,q4,q5,q6⟩
 ·have hc:cs=[]:=aR hn;subst hc;exact fV.nil _ _ _ _
 ·have hcl:=h2.cells (g:=g) rfl;have hgl:g<w.heap.size:=(aG.1 q2).1;refine ⟨_,cap,by rw [hz],by rw [hz];exact q3,q4,.inr ⟨g,0,rfl,by omega,fun i d hi=>⟨wD d.1 d.2,rfl,rfl,fun j x hx=>?_⟩⟩⟩;obtain ⟨e1,e2⟩:=Qp hi;have:=hcl _ _ (Rj cs us i d.1 d.2 h1 e1 e2 j x hx);rw [Go.WideShapes.add_plain,aX] at this;rw [aX];exact this
theorem tz.mod{G:Nat->Prop}{w w':World}{v:Value}{cs:List dv}(h:tz w v cs)(hm:Mod G w w')(hG:∀ k,v.ownBlock=some k->¬ G k):tz w' v cs:=by
 obtain ⟨us,h1,a,cap,h2,h3,h4,h5⟩:=h;refine ⟨us,h1,a,cap,h2,h3,h4,?_⟩;rcases h5 with h5 | ⟨b,off,h6,h7,h8⟩
 ·exact .inl h5
 ·refine .inr ⟨b,off,h6,aH h7 hm.size,fun i d hi=>?_⟩;obtain ⟨l,hl,hl2,CD⟩:=h8 i d hi;refine ⟨l,hl,hl2,fun j x hx=>hm.cell (CD j x hx) (hG b ?_)⟩;rw [h2,h6];rfl
theorem yTd{α β:Type}(p:α->Bool)(a:List α)(b:List β)(h:b.length=a.length):(a.zip b).findIdx? (fun d=>p d.1)=a.findIdx? p:=by
 conv=>rhs;rw [<-List.map_fst_zip (l₁:=a) (l₂:=b) (by omega)]
 rw [List.findIdx?_map];rfl
theorem yFw(q1 q2:Nat)(d:dv × Value)(kind tx:Int)(w:World)(h1:w.cell? ⟨q1,0,none⟩=some (.int .i64 kind))(h2:w.cell? ⟨q2,0,none⟩=some (.int .i64 tx)) :
  Calls Tryz.prog 127 #[.agg #[.int .i64 d.1.kind,.int .i64 d.1.tx,.int .i64 d.1.time,d.2],.pointer (some ⟨q1,0,none⟩),.pointer (some ⟨q2,0,none⟩)] w fun e w'=>e=.returned (.bool (decide (d.1.kind=kind) && decide (d.1.tx=tx)))/\Mod dZ w w':=by
 obtain ⟨⟨k,x,t,ws⟩,u⟩:=d;dsimp only;obtain ⟨w1,hw1⟩:∃ z,z=w.alloc (.cells #[.int .i64 k,.int .i64 x,.int .i64 t,u] 65):=⟨_,rfl⟩;have dh:Mod dZ w w1:=by rw [hw1];exact (Mod.refl _ w).alloc _
 have hb1:dg w1 w.heap.size [.int .i64 k,.int .i64 x,.int .i64 t,u] 65:=by rw [hw1];exact dg.new w _ _
 have g1:=dh.cell h1 id;have g2:=dh.cell h2 id;have b0:=hb1.cell 0 rfl;have b1:=hb1.cell 1 rfl;have HM:=dV dh;clear h1 h2 hb1 dh;by_cases e1:k=kind
 ·have d1:(k == kind)=true:=by simpa using e1
  by_cases e2:x=tx
  ·have d2:(x == tx)=true:=by simpa using e2
   have HD:Hid ((decide (k=kind) && decide (x=tx))=true):=by unfold Hid;simp [e1,e2]
   clear e1 e2;go_enter Tryz.func127,Tryz.ntmps127;go_upto_region 1 with fail;rw [<-hw1];clear hw1;go_wp2_with fail;go_ret;exact ⟨by rw [HD.out];first | rfl | simp [d1,d2],HM.out⟩
  ·have d2:(x == tx)=false:=by simpa using e2
   have HD:Hid ((decide (k=kind) && decide (x=tx))=false):=by unfold Hid;simp [e2]
   clear e1 e2;go_enter Tryz.func127,Tryz.ntmps127;go_upto_region 1 with fail;rw [<-hw1];clear hw1;go_wp2_with fail;go_ret;exact ⟨by rw [HD.out];first | rfl | simp [d1,d2],HM.out⟩
 ·have d1:(k == kind)=false:=by simpa using e1
  have HD:Hid ((decide (k=kind) && decide (x=tx))=false):=by unfold Hid;simp [e1]
  clear e1;go_enter Tryz.func127,Tryz.ntmps127;go_upto_region 1 with fail;rw [<-hw1];clear hw1;go_wp2_with fail;go_ret;exact ⟨by rw [HD.out];first | rfl | simp [d1],HM.out⟩
theorem UL(v:Value)(cs:List dv)(kind tx:Int)(w:World)(hv:tz w v cs)(hl:cs.length<=1000) :
  Calls Tryz.prog 80 #[v,.int .i64 kind,.int .i64 tx] w fun e w'=>e=.returned (.int .i64 (iR (kp cs kind tx)))/\Mod dZ w w':=by
 obtain ⟨w1,hw1⟩:∃ z,z=w.alloc (.cells #[.int .i64 kind] 3):=⟨_,rfl⟩;obtain ⟨w2,hw2⟩:∃ z,z=w1.alloc (.cells #[.int .i64 tx] 3):=⟨_,rfl⟩;have dh:Mod dZ w w1:=by rw [hw1];exact (Mod.refl _ w).alloc _
 have hm2:Mod dZ w1 w2:=by rw [hw2];exact (Mod.refl _ w1).alloc _
 have hz1:w1.heap.size=w.heap.size+1:=by rw [hw1,World.size_alloc]
 have hb1:dg w2 w.heap.size [.int .i64 kind] 3:=dg.mod (by rw [hw1];exact dg.new w _ _) hm2 id;have hb2:dg w2 (w.heap.size+1) [.int .i64 tx] 3:=by rw [<-hz1,hw2];exact dg.new w1 _ _
 have hm:=dh.trans hm2;obtain ⟨us,hu,hsl⟩:=hv.mod hm (fun _ _ e=>e);have Aa:(cs.zip us).length=cs.length:=by rw [cD];omega
 have HA:mO 127 #[.pointer (some ⟨w.heap.size,0,none⟩),.pointer (some ⟨w.heap.size+1,0,none⟩)] (fun d=>.agg #[.int .i64 d.1.kind,.int .i64 d.1.tx,.int .i64 d.1.time,d.2]) (cs.zip us) (fun d=>decide (d.1.kind=kind) && decide (d.1.tx=tx)) (fun wr=>wr.cell? ⟨w.heap.size,0,none⟩=some (.int .i64 kind)/\wr.cell? ⟨w.heap.size+1,0,none⟩=some (.int .i64 tx)):=
  ⟨xL Tryz.func127 (by kernel_rfl) rfl,fun wa wb hh hm=>⟨hm.cell hh.1 (fun e=>e),hm.cell hh.2 (fun e=>e)⟩,fun d hd wr hh=>yFw _ _ d kind tx wr hh.1 hh.2⟩
 have nW:=dV (yFv 127 w2.heap.size _ _ v (cs.zip us) w2 _ hsl HA ⟨hb1.cell 0 rfl,hb2.cell 0 rfl⟩ (by omega));rw [show ((cs.zip us).findIdx? fun d=>decide (d.1.kind=kind) && decide (d.1.tx=tx))=kp cs kind tx from yTd (fun c=>decide (c.kind=kind) && decide (c.tx=tx)) cs us hu.1] at nW;obtain ⟨va,vc,lI,_,_⟩:=fV.slice hsl;rw [Aa] at lI;subst lI;have tF:∀ fn first cap w,(Instr.makeFunc fn first cap).run Tryz.prog w=.ok (.func fn first cap) w:=fun _ _ _ _=>rfl
 have HM:=dV hm;clear hv hsl HA hb1 hb2 dh hm2 hm hz1;go_enter Tryz.func80,Tryz.ntmps80;go_upto_region 1 with fail;rw [<-hw1,<-hw2];clear hw1 hw2;go_wp2_with fail;refine nW.out.mono ?_;rintro e w3 ⟨rfl,dy⟩;go_wp2_with fail;go_ret;exact ⟨rfl,HM.out.trans dy⟩
theorem yDg{α β:Type}:∀ (a:List α) (b:List β) (k:Nat),(a.drop k).zip (b.drop k)=(a.zip b).drop k
 | [],b,k=>by simp
 | a :: as',[],k=>by cases k <;> simp
 | a :: as',b :: bs,0=>rfl
 | a :: as',b :: bs,k+1=>by simpa using yDg as' bs k
theorem tz.drop{w:World}{ga:Addr}{m cap:Nat}{cs:List dv}(h:tz w (.slice (some ga) m cap) cs){k:Nat}(hk:k<cs.length):ga.spot=none/\tz w (.slice (some ⟨ga.block,ga.off+k*4,none⟩) (m - k) (cap - k)) (cs.drop k)/\m=cs.length/\k<=cap:=by
 obtain ⟨us,h1,a,cap',h2,h3,h4,h5⟩:=h;have hz:(cs.zip us).length=cs.length:=by rw [cD];omega
 simp only [Value.slice.injEq] at h2;obtain ⟨e1,e2,e3⟩:=h2;rw [hz] at e2 h3;subst e1 e2 e3;rcases h5 with h5 | ⟨b,off,h6,h7,h8⟩
 ·rw [h5] at hz;simp at hz;omega
 ·cases h6
  refine ⟨rfl,⟨us.drop k,⟨by simp [h1.1],fun u hu=>h1.2 u (cQ hu)⟩,some ⟨b,off+k*4,none⟩,cap - k,?_,?_,?_,.inr ⟨b,off+k*4,rfl,h7,fun i d hi=>?_⟩⟩,rfl,by omega⟩
  ·rw [cD,bO,bO,h1.1,Nat.min_self]
  ·rw [cD,bO,bO,h1.1,Nat.min_self];omega
  ·omega
  ·rw [yDg,cz] at hi;obtain ⟨l,hl,hl2,CD⟩:=h8 _ d hi;refine ⟨l,hl,hl2,fun j x hx=>?_⟩;have:=CD j x hx;rw [show off+k*4+i*4+j=off+(k+i)*4+j by omega];exact this
def qh(l:List UInt8):Nat:=l.foldl (fun a b=>a+b.toNat) 0
theorem yMv(l:List UInt8)(b:UInt8):qh (l++[b])=qh l+b.toNat:=by simp [qh]
theorem yUn:∀ l:List UInt8,qh l<=255*l.length:=by
 intro l
 suffices h:∀ (l:List UInt8) (a:Nat),l.foldl (fun a b=>a+b.toNat) a<=a+255*l.length by simpa [qh] using h l 0
 intro l
 induction l with
 | nil=>intro a;simp
 | cons b l ih=>
  intro a;have h1:=ih (a+b.toNat);have h2:=b.toNat_lt;simp only [cV,aW];omega
theorem UD(n c g:Nat)(y:dY)(s:dX)(key:ByteArray)(w:World)(h:dx w n c g y s)(hs:lr s)(hk:key.size<=1000000) :
  Calls Tryz.prog 65 #[.pointer (some ⟨g,0,none⟩),.string key] w fun e w'=>e=.returned (.int .i64 (ee s key))/\w'=w:=by
 have hll:=hs.ll;have HD:=dV (Uw n c g y s w h (by omega) (by omega));have Xx:1<=du s:=by unfold du;omega
 have xz:du s<=5:=by unfold du;omega
 clear h;go_enter Tryz.func65,Tryz.ntmps65;go_wp2_with fail;go_loopw [5,9] (fun s0 i0 wr=>∃ i:Nat,i<=key.size/\i0=.int .i64 i/\s0=.int .i64 (qh (key.toList.take i))/\wr=w) (fun _ i0 _=>key.size - (intOf i0).toNat)
 case atStart=>exact ⟨0,aT _,rfl,rfl,rfl⟩
 case round=>
  obtain ⟨i,hi,rfl,rfl,rfl⟩:=hrel;have hle:=yUn (key.toList.take i);rw [aZ] at hle;have OU:qh (key.toList.take i)<=255*1000000:=by omega
  by_cases hlt:i<key.size
  ·have jd:(i:Int)<(key.size:Int):=by omega
   have hi0:(0:Int)<=(i:Int):=by omega
   have sC:key.toList.take (i+1)=key.toList.take i++[key[i]]:=by
    have hl:i<key.toList.length:=by rw [ByteArray.toList_eq];simpa using hlt
    rw [au hl];congr 2;simp only [ByteArray.toList_eq,ByteArray.getElem_eq_getElem_data,Array.getElem_toList]
   have hb:=key[i].toNat_lt;have HW:Hid (wrap64 (↑(qh (key.toList.take i))+wrap64 ↑key[i].toNat)=((qh (key.toList.take (i+1)):Nat):Int)):=by
    unfold Hid;rw [IntWalk.wrap64_in ((key[i].toNat:Nat):Int) ⟨by omega,by omega⟩,IntWalk.wrap64_in _ ⟨by omega,by omega⟩,sC,yMv];omega
   clear sC hb;go_wp2_with fail;refine ⟨⟨i+1,by omega,by go_num,by rw [HW.out],by trivial⟩,by simp [intOf];omega⟩
  ·obtain rfl:i=key.size:=by omega
   have Bz:key.toList.take key.size=key.toList:=by rw [bL];rw [ByteArray.toList_eq];simp
   have hz:((du s:Nat):Int)≠0:=by omega
   have hzb:(((du s:Nat):Int) == 0)=false:=by simpa using hz
   have HW:Hid (((qh (key.toList.take key.size):Nat):Int) % ((du s:Nat):Int)=((ee s key:Nat):Int)):=by
    unfold Hid;rw [Bz];rfl
   clear Bz hz hle OU;go_wp2_with fail;refine HD.out.mono ?_;rintro e w1 ⟨rfl,rfl⟩;go_wp2_with fail;go_ret;exact ⟨by rw [<-HW.out];rfl,rfl⟩
theorem EY{α:Type}(l:List α)(d:α)(h:0<l.length):l.getLastD d=l[l.length - 1]'(by omega):=by
 cases l with
 | nil=>simp at h
 | cons a l=>
  rw [List.getLastD_cons,List.getLastD_eq_getLast?,List.getLast?_eq_getElem?]
  cases l with
  | nil=>rfl
  | cons b l=>simp
theorem yRw(n b:Nat)(y:dY)(l:jG)(w:World)(hL:zN w n y b l)(hne:0<l.nodes.length)(hx:l.nodes.length<=4)(hh:l.heard<=(l.nodes.getLastD Ei).log.length) :
  Calls Tryz.prog 129 #[.pointer (some ⟨b,0,none⟩)] w fun e w'=>∃ v,e=.returned v/\tz w' v ((l.nodes.getLastD Ei).log.drop l.heard)/\lC w v/\Mod dZ w w':=by
 have b0:=hL.blk.cell 0 rfl;have b1:=hL.blk.cell 1 rfl;have hlen:=hL.len;obtain ⟨d,hd,t,ht,hN⟩:=hL.wN (j:=l.nodes.length - 1) (by omega);obtain ⟨ng,pr,pC,cn⟩:=wB hL.row hd;rw [pC,hlen] at b0;have htl:l.nodes.getLastD Ei=t:=by
  rw [EY _ _ hne];have:=aA (show l.nodes.length - 1<l.nodes.length by omega);rw [ht] at this;exact (ax this).symm
 rw [htl] at hh ⊢;obtain ⟨m,hm⟩:∃ m,l.nodes.length=m+1:=⟨l.nodes.length - 1,by omega⟩;rw [hm] at b0 cn;rw [bP] at cn;have fR:=hN.few.2;have hmI:(m:Int)<((m+1:Nat):Int):=by omega
 have hm0:(0:Int)<=(m:Int):=by omega
 have EC:Hid (∀ wq,Mod dZ w wq->Calls Tryz.prog 79 #[.pointer (some ⟨d,0,none⟩)] wq fun e w'=>e=.returned (.int .i64 t.log.length)/\w'=wq):=fun wq hq=>Vn _ _ _ _ _ _ (hN.quiet hq);have sP:Hid (∀ wq,Mod dZ w wq->Calls Tryz.prog 40 #[.pointer (some ⟨d,0,none⟩)] wq fun e w'=>∃ v,e=.returned v/\gZ w' (y.lo n) v t.log/\lC wq v/\Mod dZ wq w'):=fun wq hq=>Lq _ _ _ _ _ _ (hN.quiet hq);have zb:=hL.blk.lt;clear hL pC hd ht hN htl hlen hne;go_enter Tryz.func129,Tryz.ntmps129;go_upto_region 1 with fail;go_quiet (fail);obtain ⟨w1,hw1⟩:∃ x,x=w.drewN nq:=⟨_,rfl⟩;have dh:Mod dZ w w1:=by rw [hw1];exact (Mod.refl _ w).drewN nq
 have d1:=dh.cell b1 id;have z1:b<w1.heap.size:=aH zb dh.size;rw [<-hw1];clear hw1 b0 b1 cn;go_upto_region 2 with fail;by_cases he:t.log.length=l.heard
 ·have Ib:((t.log.length:Int) == (l.heard:Int))=true:=by rw [beq_iff_eq];omega
  have HN:Hid (t.log.drop l.heard=[]):=by unfold Hid;rw [<-he];simp
  clear he hh;go_quiet (first
   | (go_at_call 79;refine Calls.quiet_of_same (EC.out _ (dh.drewN _)))
   | fail)
  go_wp2_with fail;go_ret;exact ⟨_,rfl,by rw [HN.out];exact ⟨[],⟨rfl,by simp⟩,fV.nil _ _ _ _⟩,fun k hk=>by simp [Value.ownBlock] at hk,dh.drewN _⟩
 ·have Ib:((t.log.length:Int) == (l.heard:Int))=false:=by rw [bc];omega
  have hlt:l.heard<t.log.length:=by omega
  go_quiet (first
   | (go_at_call 79;refine Calls.quiet_of_same (EC.out _ (dh.drewN _)))
   | fail)
  obtain ⟨w2,hw2⟩:∃ x,x=w1.drewN nq:=⟨_,rfl⟩;have hm2:Mod dZ w w2:=by rw [hw2];exact dh.drewN _
  have d2:w2.cell? ⟨b,1,none⟩=some (.int .i64 l.heard):=by rw [hw2];exact d1
  have z2:b<w2.heap.size:=by rw [hw2];exact z1
  rw [<-hw2];clear hw2 d1 z1 dh he;go_upto_region 4 with fail;go_cut [2] (fun v wc=>tz wc v (t.log.drop l.heard)/\lC w v/\Mod dZ w wc)
  case first=>
   have jd:(l.heard:Int)<(t.log.length:Int):=by omega
   have h00:(0:Int)<=(l.heard:Int):=by omega
   obtain ⟨c0,hc0⟩:∃ c,t.log[0]?=some c:=⟨_,aA (by omega)⟩;go_region_with (go_at_call 40;refine (sP.out _ hm2.drew).mono ?_;rintro e w3 ⟨v3,rfl,hr3,hf3,dy⟩;(have d3:=dy.cell d2 id;obtain ⟨g3,Ek,u3,hv3,hcap3,hmx3,-⟩:=hr3.at hc0;subst hv3;have hle3:l.heard<=Ek:=(by omega)))
   all_goals
    obtain ⟨-,hq,-,-⟩:=tz.drop hr3.mB hlt;simp only [aX] at hq;have HQ:=dV hq;have HF:Hid (w.heap.size<=g3):=aJ hm2.size (hf3 g3 rfl);have HM:Hid (Mod dZ w w3):=(hm2.drew).trans dy;clear hq hr3 hf3 dy;go_wp2_with fail;go_meet
    case rel=>exact ⟨HQ.out,fun k hk=>(by cases hk;exact HF.out),HM.out⟩
  case rest=>
   obtain ⟨hq,hf,mz⟩:=hcut;have HQ:=dV hq;have HF:=dV hf;clear hq hf;go_wp2_with fail;go_ret;exact ⟨_,rfl,HQ.out,HF.out,mz⟩
structure re(w w':World)(n:Nat)(y:dY)(T:Tag->Prop):Prop where
 ex:∃ G:Nat->Prop,Mod G w w'/\Qm w (y.lo n) G/\∀ k,k<w.heap.size->G k->T (y.own k)/\y.own k≠.no
section
variable {w w':World} {n c g:Nat} {y:dY} {s:dX} {T:Tag->Prop}
theorem dx.tZ(h:dx w n c g y s)(ht:re w w' n y T)(hn:¬ T .main):dg w' g (KA y s.net.lost) 84:=by
 obtain ⟨G,hm,hq,hT⟩:=ht.ex;exact h.blk.mod hm (fun e=>hn (by have:=(hT g h.blk.lt e).1;rwa [h.own.main] at this))
theorem dx.vU(h:dx w n c g y s)(ht:re w w' n y T)(hn:¬ T .net):tp w' (y.lo n) y.wv y.mr s.net:=by
 obtain ⟨G,hm,hq,hT⟩:=ht.ex;refine h.net.mod hm hq (fun k hk e=>hn ?_);have ho:=h.own.net k hk;have:=(hT k (h.own.lt k (by rw [ho];simp)).2 e).1
 rwa [ho] at this
theorem dx.oY(h:dx w n c g y s)(ht:re w w' n y T)(hn:¬ T .dead):pf w' n (some y.dr) s.dead:=by
 obtain ⟨G,hm,hq,hT⟩:=ht.ex;refine h.dead.mod hm (fun k hk e=>hn ?_)
 cases hk
 have ho:=h.own.dead;have:=(hT _ (h.own.lt _ (by rw [ho];simp)).2 e).1
 rwa [ho] at this
theorem dx.tY(h:dx w n c g y s)(ht:re w w' n y T)(hn:¬ T .tab):tj w' n 120 y.q s.keys:=by
 obtain ⟨G,hm,hq,hT⟩:=ht.ex;refine h.tab.mod hm (fun k hk e=>hn ?_);have ho:=h.own.tab k hk;have:=(hT k (h.own.lt k (by rw [ho];simp)).2 e).1
 rwa [ho] at this
theorem dx.oX(h:dx w n c g y s)(ht:re w w' n y T)(hn:¬ T .fi):w'.ownsRow n 102 1 y.lv y.gF.length (y.gF.map jC):=by
 obtain ⟨G,hm,hq,hT⟩:=ht.ex;refine fm h.fi hm (fun k _ _ hk e=>hn ?_);have ho:=h.own.fi k hk;have:=(hT k (h.own.lt k (by rw [ho];simp)).2 e).1
 rwa [ho] at this
theorem dx.oW(h:dx w n c g y s)(ht:re w w' n y T)(hn:¬ T .gW):w'.ownsRow n 87 1 y.tv y.jo.length (y.jo.map jC):=by
 obtain ⟨G,hm,hq,hT⟩:=ht.ex;refine fm h.gW hm (fun k _ _ hk e=>hn ?_);have ho:=h.own.gW k hk;have:=(hT k (h.own.lt k (by rw [ho];simp)).2 e).1
 rwa [ho] at this
theorem dx.Dq(h:dx w n c g y s)(ht:re w w' n y T){i b:Nat}{t:jR}(hb:y.jo[i]?=some b)(hti:s.dW[i]?=some t)(hn:¬ T (.tx b)):th w' n y b t:=by
 obtain ⟨G,hm,hq,hT⟩:=ht.ex;have hmem:=aC hb;have ho:=h.own.tx b hmem;refine (h.tx i b t hb hti).mod hm (fun e=>hn ?_) (fun k hk e=>hn ?_)
 ·have:=(hT b (h.own.lt b (by rw [ho.1];simp)).2 e).1
  rwa [ho.1] at this
 ·have hk2:=ho.2 k hk;have:=(hT k (h.own.lt k (by rw [hk2];simp)).2 e).1
  rwa [hk2] at this
theorem dx.Av(h:dx w n c g y s)(ht:re w w' n y T){k b d:Nat}{x:eK}(hb:y.gF[k]?=some b)(hd:d∈y.fL b)(hx:xG w n y d x)(hn:¬ T (.node d)):xG w' n y d x:=by
 obtain ⟨G,hm,hq,hT⟩:=ht.ex;have hmem:=aC hb;refine fe.mod hx hm hq (fun z hz e=>hn ?_);have ho:=h.own.node b hmem d hd z hz;have:=(hT z (h.own.lt z (by rw [ho];simp)).2 e).1
 rwa [ho] at this
theorem dx.qF(h:dx w n c g y s)(ht:re w w' n y T){k b:Nat}{l:jG}(hb:y.gF[k]?=some b)(hl:s.lines[k]?=some l)(hn:¬ T (.line b))(hnn:∀ d∈y.fL b,¬ T (.node d)):zN w' n y b l:=by
 obtain ⟨G,hm,hq,hT⟩:=ht.ex;have hmem:=aC hb;have ho:=h.own.line b hmem;have hL:=h.line k b l hb hl;refine ⟨hL.blk.mod hm (fun e=>hn ?_),fm hL.row hm (fun z _ _ hz e=>hn ?_),hL.len,fun j d x hd hx=>h.Av ht hb (aC hd) (hL.node j d x hd hx) (hnn d (aC hd))⟩
 ·have:=(hT b (h.own.lt b (by rw [ho.1];simp)).2 e).1
  rwa [ho.1] at this
 ·have hk2:=ho.2 z hz;have:=(hT z (h.own.lt z (by rw [hk2];simp)).2 e).1
  rwa [hk2] at this
theorem dx.vV(h:dx w n c g y s)(ht:re w w' n y T){k b:Nat}{l:jG}(hb:y.gF[k]?=some b)(hl:s.lines[k]?=some l)(hn:¬ T (.line b)):dg w' b [y.rR b,.int .i64 l.heard] 120/\w'.ownsRow n 91 1 (y.rR b) (y.fL b).length ((y.fL b).map jC):=by
 obtain ⟨G,hm,hq,hT⟩:=ht.ex;have hmem:=aC hb;have ho:=h.own.line b hmem;have hL:=h.line k b l hb hl;refine ⟨hL.blk.mod hm (fun e=>hn ?_),fm hL.row hm (fun z _ _ hz e=>hn ?_)⟩
 ·have:=(hT b (h.own.lt b (by rw [ho.1];simp)).2 e).1
  rwa [ho.1] at this
 ·have hk2:=ho.2 z hz;have:=(hT z (h.own.lt z (by rw [hk2];simp)).2 e).1
  rwa [hk2] at this
end
theorem zWz{y:dY}:∀ {ls:List Nat},(ls.flatMap y.fL).Nodup->∀ {b b' d:Nat},b∈ls->b'∈ls->d∈y.fL b->d∈y.fL b'->b=b':=by
 intro ls
 induction ls with
 | nil=>intro _ b b' d hb;simp at hb
 | cons a ls ih=>
  intro hnd b b' d hb hb' hd hd';rw [bH,bN] at hnd;obtain ⟨_,h2,h3⟩:=hnd;rcases bV.1 hb with e | e <;> rcases bV.1 hb' with e' | e'
  ·rw [e,e']
  ·subst e;exact absurd rfl (h3 d hd d (cS.2 ⟨b',e',hd'⟩))
  ·subst e';exact absurd rfl (h3 d hd' d (cS.2 ⟨b,e,hd⟩))
  ·exact ih h2 e e' hd hd'
theorem yBu{y:dY}:∀ {ls:List Nat},(ls.flatMap y.fL).Nodup->∀ {b:Nat},b∈ls->(y.fL b).Nodup:=by
 intro ls
 induction ls with
 | nil=>intro _ b hb;simp at hb
 | cons a ls ih=>
  intro hnd b hb;rw [bH,bN] at hnd;rcases bV.1 hb with e | e
  ·subst e;exact hnd.1
  ·exact ih hnd.2.1 e
theorem GK{α:Type}{l:List α}(h:l.Nodup){i j:Nat}{x:α}(hi:l[i]?=some x)(hj:l[j]?=some x):i=j:=by
 obtain ⟨h1,h2⟩:=aB.1 hi;obtain ⟨h3,h4⟩:=aB.1 hj;rcases cI i j with q | q | q
 ·exact absurd (h2.trans h4.symm) (ao.1 h i j h1 h3 q)
 ·exact q
 ·exact absurd (h4.trans h2.symm) (ao.1 h j i h3 h1 q)
open Classical in
noncomputable def dY.lF(y:dY)(w:World)(d:Nat)(nv lv:Value):dY:=
 { y with kK:=fun x=>if x=d then nv else y.kK x,kL:=fun x=>if x=d then lv else y.kL x,own:=fun x=>if w.heap.size<=x/\gw d nv lv x then .node d else y.own x }
theorem RA(y:dY)(w:World)(d:Nat)(nv lv:Value):(y.lF w d nv lv).kK d=nv/\(y.lF w d nv lv).kL d=lv:=by simp [dY.lF]
theorem Qn(y:dY)(w:World){d x:Nat}(nv lv:Value)(h:x≠d):(y.lF w d nv lv).kK x=y.kK x/\(y.lF w d nv lv).kL x=y.kL x:=by simp [dY.lF,h]
theorem TY(y:dY)(w:World)(d:Nat)(nv lv:Value){x:Nat}(h:x<w.heap.size):(y.lF w d nv lv).own x=y.own x:=by
 simp only [dY.lF];rw [aK (fun e=>by omega)]
theorem qf{α:Type}(l:List α)(j:Nat)(x:α)(i:Nat):(l.set j x)[i]?=if i=j/\i<l.length then some x else l[i]?:=by
 rw [bq];by_cases h:j=i
 ·subst h;by_cases h2:j<l.length
  ·simp [h2]
  ·simp [h2]
 ·rw [aK h,aK (fun e=>h e.1.symm)]
theorem dx.jn{w w':World}{n c g:Nat}{y:dY}{s:dX}(h:dx w n c g y s){k b j d:Nat}(hk:k<s.lines.length)(hb:y.gF[k]?=some b)(hd:(y.fL b)[j]?=some d){nv lv:Value}{x:eK}
  (hm:Mod (gw d (y.kK d) (y.kL d)) w w') (hN:fe w' (y.lo n) d nv lv x) (h1:iF w (y.kK d) nv) (h2:iF w (y.kL d) lv) :
  dx w' n c g (y.lF w d nv lv) (ld s k j x)/\iG w y w' (y.lF w d nv lv):=by
 have kX:=aC hb;have xy:=aC hd;have hL:=h.line k b _ hb (ma hk);have hj:j<(s.line k).nodes.length:=by have:=(aB.1 hd).1;have:=hL.len;omega
 have hold:=hL.node j d _ hd (aA hj);have vG:∀ z,gw d nv lv z->z<w.heap.size->gw d (y.kK d) (y.kL d) z:=fun z hz hlt=>by
  rcases hz with e | e | e
  ·exact .inl e
  ·rcases h1 with q | q
   ·exact .inr (.inl (by rw [<-q];exact e))
   ·have:=q z e;omega
  ·rcases h2 with q | q
   ·exact .inr (.inr (by rw [<-q];exact e))
   ·have:=q z e;omega
 have ht:re w w' n y (fun t=>t=.node d):=⟨⟨_,hm,fe.qm hold,fun z hz e=>by
  have:=h.own.node b kX d xy z e;exact ⟨this,by rw [this];simp⟩⟩⟩
 have Nv:∀ z,gw d nv lv z->(y.lF w d nv lv).own z=.node d:=fun z hz=>by
  by_cases hlt:z<w.heap.size
  ·rw [TY _ _ _ _ _ hlt];exact h.own.node b kX d xy z (vG z hz hlt)
  ·simp only [dY.lF];rw [aP ⟨by omega,hz⟩]
 have dz:∀ z,y.own z≠.no->(y.lF w d nv lv).own z=y.own z:=fun z hz=>TY _ _ _ _ _ (h.own.lt z hz).2;have vI:∀ (i:Nat) l,(ld s k j x).lines[i]?=some l->(i=k/\l=⟨(s.line k).nodes.set j x,(s.line k).heard⟩)\/(i≠k/\s.lines[i]?=some l):=fun i l hl=>by
  have hl':(s.lines.set k ⟨(s.line k).nodes.set j x,(s.line k).heard⟩)[i]?=some l:=hl;rw [qf] at hl';by_cases e:i=k
  ·rw [aP ⟨e,by omega⟩] at hl';exact .inl ⟨e,(ax hl').symm⟩
  ·rw [aK (fun q=>e q.1)] at hl';exact .inr ⟨e,hl'⟩
 have rS:∀ (b':Nat),b'∈y.gF->∀ {j' d':Nat} {x':eK} {k':Nat},y.gF[k']?=some b'->(y.fL b')[j']?=some d'->d'≠d->xG w n y d' x'->xG w' n (y.lF w d nv lv) d' x':=fun b' hb' j' d' x' k' hk' hd' hne hx'=>by
  have:=h.Av ht hk' (aC hd') hx' (fun e=>hne (by simpa using e));unfold xG at this ⊢;rw [(Qn y w nv lv hne).1,(Qn y w nv lv hne).2];exact this
 refine ⟨⟨h.tZ ht (by simp),h.vU ht (by simp),h.oY ht (by simp),h.tY ht (by simp),h.qn,h.oX ht (by simp),?_,fun i b' l hb' hl=>?_,h.oW ht (by simp),h.kN,fun i b' t hb' hti=>(have q:=h.Dq ht hb' hti (by simp);⟨q.blk,q.ats,q.wr⟩),?_⟩,?_⟩
 ·show y.gF.length=(s.lines.set k _).length;rw [ag];exact h.iQ
 ·have tQ:y.gF[i]?=some b':=hb';rcases vI i l hl with ⟨rfl,rfl⟩ | ⟨hne,hl2⟩
  ·rw [hb] at tQ;cases tQ
   obtain ⟨q1,q2⟩:=h.vV ht hb (ma hk) (by simp);refine ⟨q1,q2,by show (y.fL b).length=((s.line i).nodes.set j x).length;rw [ag];exact hL.len,fun j' d' x' hd' hx'=>?_⟩;have hd2:(y.fL b)[j']?=some d':=hd';have hx2:((s.line i).nodes.set j x)[j']?=some x':=hx';rw [qf] at hx2;by_cases e:j'=j
   ·subst e;rw [aP ⟨rfl,hj⟩] at hx2;cases hx2
    rw [hd] at hd2;cases hd2
    show fe w' (y.lo n) d _ _ x;rw [(RA y w d nv lv).1,(RA y w d nv lv).2];exact hN
   ·rw [aK (fun q=>e q.1)] at hx2;refine rS b kX hb hd2 (fun q=>e ?_) (hL.node j' d' x' hd2 hx2);subst q;exact GK (yBu h.own.yu kX) hd2 hd
  ·have hL2:=h.line i b' l tQ hl2;obtain ⟨q1,q2⟩:=h.vV ht tQ hl2 (by simp);refine ⟨q1,q2,hL2.len,fun j' d' x' hd' hx'=>?_⟩;refine rS b' (aC tQ) tQ hd' (fun q=>?_) (hL2.node j' d' x' hd' hx');subst q;have hbb:=zWz h.own.yu (aC tQ) kX (aC hd') xy;subst hbb;exact hne (GK h.own.Bv tQ hb)
 ·have own:=h.own;refine ⟨by rw [dz _ (by rw [own.main];simp)];exact own.main,fun z hz=>?_,fun z hz=>?_,fun z hz=>?_,?_,fun z hz=>?_,fun b' hb'=>⟨?_,fun z hz=>?_⟩,fun b' hb' d' hd' z hz=>?_,fun b' hb'=>⟨?_,fun z hz=>?_⟩,fun z hz=>?_,own.Bv,own.Eo,own.yu⟩
  ·rw [dz z (by rw [own.fi z hz];simp)];exact own.fi z hz
  ·rw [dz z (by rw [own.gW z hz];simp)];exact own.gW z hz
  ·rw [dz z (by rw [own.net z hz];simp)];exact own.net z hz
  ·rw [show (y.lF w d nv lv).dr=y.dr from rfl,dz _ (by rw [own.dead];simp)];exact own.dead
  ·rw [dz z (by rw [own.tab z hz];simp)];exact own.tab z hz
  ·rw [dz b' (by rw [(own.line b' hb').1];simp)];exact (own.line b' hb').1
  ·rw [dz z (by rw [(own.line b' hb').2 z hz];simp)];exact (own.line b' hb').2 z hz
  ·by_cases e:d'=d
   ·subst e;rw [(RA y w d' nv lv).1,(RA y w d' nv lv).2] at hz;exact Nv z hz
   ·rw [(Qn y w nv lv e).1,(Qn y w nv lv e).2] at hz;have:=own.node b' hb' d' hd' z hz;rw [dz z (by rw [this];simp)];exact this
  ·rw [dz b' (by rw [(own.tx b' hb').1];simp)];exact (own.tx b' hb').1
  ·rw [dz z (by rw [(own.tx b' hb').2 z hz];simp)];exact (own.tx b' hb').2 z hz
  ·by_cases e:w.heap.size<=z/\gw d nv lv z
   ·obtain ⟨q1,q2,_⟩:=hN.lt e.2;exact ⟨q1,q2⟩
   ·have hz':y.own z≠.no:=by
     simp only [dY.lF] at hz;rw [aK e] at hz;exact hz
    have:=own.lt z hz';exact ⟨this.1,aH this.2 hm.size⟩
 ·exact ⟨hm.mono (fun z hz e=>by rw [h.own.node b kX d xy z e];simp),fun z hz=>TY _ _ _ _ _ hz⟩
theorem dx.low{w:World}{n c g:Nat}{y:dY}{s:dX}(h:dx w n c g y s):n<=g:=(h.own.lt g (by rw [h.own.main];simp)).1
theorem dx.qo{w:World}{n c g:Nat}{y:dY}{s:dX}(h:dx w n c g y s):fO y.ext w (y.lo n) g y.wv y.mr s.net:=
 ⟨h.blk,h.low,h.net.row,h.net.dn,h.net.few,h.net.lo,VJ h.own⟩
def dY.tb(y:dY)(g:Nat)(lost:Int):iP:={ y.q with b:=g,pre:=[y.lv,.map (some y.dr),y.wv,.int .i64 lost,.map y.mr],post:=[y.tv],t:=84 }
theorem dx.xd{w:World}{n c g:Nat}{y:dY}{s:dX}(h:dx w n c g y s):oZ w n 120 (y.tb g s.net.lost) s.keys:=
 tj.toP (q:=y.tb g s.net.lost) ⟨h.tab.map,h.tab.hdr,h.tab.rows,h.tab.apart,h.tab.ok,h.tab.few⟩ h.blk (by show 84≠170;decide)
theorem yM.more{w w':World}{n g:Nat}{y:dY}(h:yM w n g y)(hz:w.heap.size<=w'.heap.size):yM w' n g y:={ h with lt:=fun k hk=>⟨(h.lt k hk).1,aH (h.lt k hk).2 hz⟩ }
open Classical in
noncomputable def dY.ox(y:dY)(w:World)(wv:Value)(mr:Option Nat):dY:=
 { y with wv:=wv,mr:=mr,own:=fun x=>if w.heap.size<=x/\(wv.ownBlock=some x\/mr=some x) then .net else y.own x }
theorem Tb(y:dY)(w:World)(wv:Value)(mr:Option Nat){x:Nat}(h:x<w.heap.size):(y.ox w wv mr).own x=y.own x:=by
 simp only [dY.ox];rw [aK (fun e=>by omega)]
theorem dx.so{w w':World}{n c g:Nat}{y:dY}{s:dX}(h:dx w n c g y s){wv:Value}{mr:Option Nat}{net:fC}
  (hm:Mod (mx g y.wv y.mr) w w') (hN:fO y.ext w' (y.lo n) g wv mr net) (h1:iF w y.wv wv) (h2:mr=y.mr\/∀ k,mr=some k->w.heap.size<=k) :
  dx w' n c g (y.ox w wv mr) { s with net:=net }/\iG w y w' (y.ox w wv mr):=by
 have own:=h.own;have hz:=hm.size;have jb:∀ z,mx g y.wv y.mr z->y.own z=.main\/y.own z=.net:=fun z e=>by
  rcases e with e | e | e
  ·rw [e];exact .inl own.main
  ·exact .inr (own.net z (.inl e))
  ·exact .inr (own.net z (.inr e))
 have ht:re w w' n y (fun t=>t=.main\/t=.net):=⟨⟨_,hm,fO.qm h.qo,fun z hz e=>⟨jb z e,by rcases jb z e with q | q <;> rw [q] <;> simp⟩⟩⟩;have dz:∀ z,y.own z≠.no->(y.ox w wv mr).own z=y.own z:=fun z hz=>Tb _ _ _ _ (own.lt z hz).2;have XY:∀ z,wv.ownBlock=some z\/mr=some z->(y.ox w wv mr).own z=.net:=fun z e=>by
  by_cases hlt:z<w.heap.size
  ·rw [Tb _ _ _ _ hlt];refine own.net z ?_;rcases e with e | e
   ·rcases h1 with q | q
    ·exact .inl (by rw [<-q];exact e)
    ·have:=q z e;omega
   ·rcases h2 with q | q
    ·exact .inr (by rw [<-q];exact e)
    ·have:=q z e;omega
  ·simp only [dY.ox];rw [aP ⟨by omega,e⟩]
 refine ⟨⟨hN.blk,⟨hN.row,hN.dn,hN.few,hN.lo⟩,h.oY ht (by simp),h.tY ht (by simp),h.qn,h.oX ht (by simp),h.iQ,fun k b l hb hl=>?_,h.oW ht (by simp),h.kN,fun i b t hb hti=>(have q:=h.Dq ht hb hti (by simp);⟨q.blk,q.ats,q.wr⟩),?_⟩,?_⟩
 ·have q:=h.qF ht hb hl (by simp) (fun d _=>by simp);exact ⟨q.blk,q.row,q.len,q.node⟩
 ·refine ⟨by rw [dz _ (by rw [own.main];simp)];exact own.main,fun z hz=>?_,fun z hz=>?_,fun z hz=>XY z hz,?_,fun z hz=>?_,fun b' hb'=>⟨?_,fun z hz=>?_⟩,fun b' hb' d' hd' z hz=>?_,fun b' hb'=>⟨?_,fun z hz=>?_⟩,fun z hz=>?_,own.Bv,own.Eo,own.yu⟩
  ·rw [dz z (by rw [own.fi z hz];simp)];exact own.fi z hz
  ·rw [dz z (by rw [own.gW z hz];simp)];exact own.gW z hz
  ·rw [show (y.ox w wv mr).dr=y.dr from rfl,dz _ (by rw [own.dead];simp)];exact own.dead
  ·rw [dz z (by rw [own.tab z hz];simp)];exact own.tab z hz
  ·rw [dz b' (by rw [(own.line b' hb').1];simp)];exact (own.line b' hb').1
  ·rw [dz z (by rw [(own.line b' hb').2 z hz];simp)];exact (own.line b' hb').2 z hz
  ·have:=own.node b' hb' d' hd' z hz;rw [dz z (by rw [this];simp)];exact this
  ·rw [dz b' (by rw [(own.tx b' hb').1];simp)];exact (own.tx b' hb').1
  ·rw [dz z (by rw [(own.tx b' hb').2 z hz];simp)];exact (own.tx b' hb').2 z hz
  ·by_cases e:w.heap.size<=z/\(wv.ownBlock=some z\/mr=some z)
   ·obtain ⟨q1,q2,_⟩:=hN.lt (.inr e.2);exact ⟨q1,q2⟩
   ·have hz':y.own z≠.no:=by
     simp only [dY.ox] at hz;rw [aK e] at hz;exact hz
    have:=own.lt z hz';exact ⟨this.1,aH this.2 hm.size⟩
 ·exact ⟨hm.mono (fun z hz e=>by rcases jb z e with q | q <;> rw [q] <;> simp),fun z hz=>Tb _ _ _ _ hz⟩
open Classical in
noncomputable def dY.pq(y:dY)(w:World)(q:iP):dY:=
 { y with q:=q,own:=fun x=>if w.heap.size<=x/\q.own x then .tab else y.own x }
theorem TZ(y:dY)(w:World)(q:iP){x:Nat}(h:x<w.heap.size):(y.pq w q).own x=y.own x:=by
 simp only [dY.pq];rw [aK (fun e=>by omega)]
theorem Gj{w:World}{n N:Nat}{q:iP}{s:fy}(h:oZ w n N q s)(ht:q.t=84)(hb:n<=q.b){L:Lo}(hL:L.n=n):Qm w L (fun x=>x=q.b\/q.own x):=fun k hk e=>by
 rintro (e1 | ⟨⟨cur,fr,e1⟩,_⟩)
 ·rcases e with e | e
  ·omega
  ·have:=(h.lt e).1;omega
 ·rcases e with e | e | ⟨z,i,hz,e⟩
  ·subst e;have:=h.blk;unfold dg at this;rw [this,ht] at e1;simp at e1
  ·have hmm:=h.map;unfold qK at hmm;rw [e] at hmm;obtain ⟨_,D,⟨es,clock,h2,_⟩,_⟩:=hmm;rw [h2] at e1;simp at e1
  ·obtain ⟨_,_,cur',h2⟩:=h.old hz id e;rw [h2] at e1;simp at e1
theorem dx.Em{w w':World}{n c c' g N:Nat}{y:dY}{s:dX}(h:dx w n c g y s){q:iP}{keys:fy}
  (hm:Mod (fun x=>x=g\/y.q.own x) w w') (hT:oZ w' n N q keys) (hb:q.b=g) (hpre:q.pre=(y.tb g s.net.lost).pre) (hpost:q.post=[y.tv]) (hty:q.t=84) (hn:q.n<=c') (hown:∀ x,q.own x->y.q.own x\/w.heap.size<=x) (fR:∀ k,gA k->(keys k).held.length+(keys k).waits.length<=120) :
  dx w' n c' g (y.pq w q) { s with keys:=keys }/\iG w y w' (y.pq w q):=by
 have own:=h.own;have jb:∀ z,(z=g\/y.q.own z)->y.own z=.main\/y.own z=.tab:=fun z e=>by
  rcases e with e | e
  ·rw [e];exact .inl own.main
  ·exact .inr (own.tab z e)
 have ht:re w w' n y (fun t=>t=.main\/t=.tab):=⟨⟨_,hm,Gj (q:=y.tb g s.net.lost) h.xd rfl h.low rfl,fun z hz e=>⟨jb z e,by rcases jb z e with q | q <;> rw [q] <;> simp⟩⟩⟩;have dz:∀ z,y.own z≠.no->(y.pq w q).own z=y.own z:=fun z hz=>TZ _ _ _ (own.lt z hz).2;have XD:∀ z,q.own z->(y.pq w q).own z=.tab:=fun z e=>by
  by_cases hlt:z<w.heap.size
  ·rw [TZ _ _ _ hlt];rcases hown z e with e | e
   ·exact own.tab z e
   ·omega
  ·simp only [dY.pq];rw [aP ⟨by omega,e⟩]
 have hblk:dg w' g (KA (y.pq w q) s.net.lost) 84:=by
  have:=hT.blk;rw [hb,hpre,hpost,hty] at this;exact this
 refine ⟨⟨hblk,?_,h.oY ht (by simp),⟨hT.map,hT.hdr,fun k i hk=>hT.rows k i hk id,hT.apart,hT.ok,fR⟩,⟨hb,hty,hn⟩,h.oX ht (by simp),h.iQ,fun k b l hb hl=>?_,h.oW ht (by simp),h.kN,fun i b t hb hti=>(have q:=h.Dq ht hb hti (by simp);⟨q.blk,q.ats,q.wr⟩),?_⟩,?_⟩
 ·exact h.vU ht (by simp)
 ·have q:=h.qF ht hb hl (by simp) (fun d _=>by simp);exact ⟨q.blk,q.row,q.len,q.node⟩
 ·refine ⟨by rw [dz _ (by rw [own.main];simp)];exact own.main,fun z hz=>?_,fun z hz=>?_,fun z hz=>?_,?_,fun z hz=>XD z hz,fun b' hb'=>⟨?_,fun z hz=>?_⟩,fun b' hb' d' hd' z hz=>?_,fun b' hb'=>⟨?_,fun z hz=>?_⟩,fun z hz=>?_,own.Bv,own.Eo,own.yu⟩
  ·rw [dz z (by rw [own.fi z hz];simp)];exact own.fi z hz
  ·rw [dz z (by rw [own.gW z hz];simp)];exact own.gW z hz
  ·rw [dz z (by rw [own.net z hz];simp)];exact own.net z hz
  ·rw [show (y.pq w q).dr=y.dr from rfl,dz _ (by rw [own.dead];simp)];exact own.dead
  ·rw [dz b' (by rw [(own.line b' hb').1];simp)];exact (own.line b' hb').1
  ·rw [dz z (by rw [(own.line b' hb').2 z hz];simp)];exact (own.line b' hb').2 z hz
  ·have:=own.node b' hb' d' hd' z hz;rw [dz z (by rw [this];simp)];exact this
  ·rw [dz b' (by rw [(own.tx b' hb').1];simp)];exact (own.tx b' hb').1
  ·rw [dz z (by rw [(own.tx b' hb').2 z hz];simp)];exact (own.tx b' hb').2 z hz
  ·by_cases e:w.heap.size<=z/\q.own z
   ·exact hT.lt e.2
   ·have hz':y.own z≠.no:=by
     simp only [dY.pq] at hz;rw [aK e] at hz;exact hz
    have:=own.lt z hz';exact ⟨this.1,aH this.2 hm.size⟩
 ·exact ⟨hm.mono (fun z hz e=>by rcases jb z e with q | q <;> rw [q] <;> simp),fun z hz=>TZ _ _ _ hz⟩
end Go.Proofs.YtmaiggbnceejiaaGreatDoor
