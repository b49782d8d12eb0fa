import Derived.Test.YtmaiggbnceejiaaGreatDoorP13
set_option linter.unusedVariables false
set_option maxRecDepth 100000
set_option maxHeartbeats 16000000
namespace Go.Proofs.YtmaiggbnceejiaaGreatDoor
open Go.RowKit Go.Lib Go.Maps
def Ds:eH:=⟨0,0,[],[],0⟩
def dX.pairs(y:dX)(s:dW):List (Nat × eH):=(y.gH.zip s.lines).flatMap fun p=>(y.fU p.1).zip p.2.nodes
def dX.st(y:dX)(s:dW)(d:Nat):eH:=(((y.pairs s).find? fun p=>decide (p.1=d)).map (·.2)).getD Ds
theorem yHh{β:Type}:∀ (l:List (Nat × β)) (c:Nat) (x:β),(l.map (·.1)).Nodup->(c,x)∈l->l.find? (fun p=>decide (p.1=c))=some (c,x)
 | [],_,_,_,h=>by simp at h
 | q :: l,c,x,hn,h=>by
  simp only [bh,List.nodup_cons] at hn;rw [cE];rcases bA.1 h with e | e
  ·subst e;simp
  ·have hne:q.1≠c:=fun e2=>hn.1 (by rw [e2];exact ag.2 ⟨_,e,rfl⟩);rw [aP hne];exact yHh l c x hn.2 e
theorem yMe{w:World}{n c g:Nat}{y:dX}{s:dW}(h:du w n c g y s):(y.pairs s).map (·.1)=y.gH.flatMap y.fU:=by
 have key:∀ (bs:List Nat) (ls:List ik),bs.length=ls.length->(∀ (k b:Nat) l,bs[k]?=some b->ls[k]?=some l->(y.fU b).length=l.nodes.length)->((bs.zip ls).flatMap fun p=>(y.fU p.1).zip p.2.nodes).map (·.1)=bs.flatMap y.fU:=by
  intro bs
  induction bs with
  | nil=>intro ls _ _;simp
  | cons b bs ih=>
   intro ls hl hq
   cases ls with
   | nil=>simp at hl
   | cons l ls=>
    rw [List.zip_cons_cons,bD,ao,bD,ih ls (by simpa using hl) (fun k b' l' h1 h2=>hq (k+1) b' l' (by simpa using h1) (by simpa using h2))];congr 1;exact List.map_fst_zip (Nat.le_of_eq (hq 0 b l rfl rfl))
 exact key y.gH s.lines h.iN (fun k b l h1 h2=>(h.line k b l h1 h2).len)
theorem TC{α β:Type}:∀ {a:List α} {b:List β} {i:Nat} {x:α} {z:β},a[i]?=some x->b[i]?=some z->(x,z)∈a.zip b
 | [],_,_,_,_,h,_=>by simp at h
 | _ :: _,[],_,_,_,_,h=>by simp at h
 | p :: a,q :: b,0,x,z,h1,h2=>by simp at h1 h2;subst h1 h2;simp
 | p :: a,q :: b,i+1,x,z,h1,h2=>by
  rw [List.zip_cons_cons];exact ay _ (TC (by simpa using h1) (by simpa using h2))
theorem du.kU{w:World}{n c g:Nat}{y:dX}{s:dW}(h:du w n c g y s){k b j d:Nat}{l:ik}{x:eH}(h1:y.gH[k]?=some b)(h2:s.lines[k]?=some l)(h3:(y.fU b)[j]?=some d)(h4:l.nodes[j]?=some x):y.st s d=x:=by
 unfold dX.st;have hmem:(d,x)∈y.pairs s:=cP.2 ⟨(b,l),TC h1 h2,TC h3 h4⟩;rw [yHh (y.pairs s) d x (by rw [yMe h];exact h.own.yE) hmem];rfl
theorem du.uU{w:World}{n c g:Nat}{y:dX}{s:dW}(h:du w n c g y s){k b:Nat}{l:ik}(h1:y.gH[k]?=some b)(h2:s.lines[k]?=some l):(y.fU b).map (y.st s)=l.nodes:=by
 have hl:=(h.line k b l h1 h2).len;apply bf;intro j;rw [bF];by_cases hj:j<(y.fU b).length
 ·rw [aA hj,aA (by omega),bS,h.kU h1 h2 (aA hj) (aA (by omega))]
 ·rw [aj (by omega),aj (by omega)];rfl
theorem du.mN{w:World}{n c g:Nat}{y:dX}{s:dW}(h:du w n c g y s){k b d:Nat}(h1:y.gH[k]?=some b)(h3:d∈y.fU b):wN w n y d (y.st s d):=by
 obtain ⟨j,hj⟩:=aN h3;have hk:k<s.lines.length:=by have:=(aB.1 h1).1;have:=h.iN;omega
 have h2:s.lines[k]?=some s.lines[k]:=aA hk;have hl:=h.line k b _ h1 h2;have hjl:j<s.lines[k].nodes.length:=by have:=(aB.1 hj).1;have:=hl.len;omega
 have h4:s.lines[k].nodes[j]?=some s.lines[k].nodes[j]:=aA hjl;rw [h.kU h1 h2 hj h4];exact hl.node j d _ hj h4
theorem mL{s:dW}{k:Nat}(hk:k<s.lines.length):s.lines[k]?=some (s.line k):=by
 unfold dW.line;rw [aH,aA hk];rfl
theorem QW:∀ bs:List Nat,bs.map iz=jo bs
 | []=>rfl
 | b :: bs=>by rw [FP,bh,QW bs];rfl
def dX.kZ(y:dX)(s:dW)(b:Nat):List Nat:=(y.fU b).filter fun d=>fs s (y.st s d)
theorem du.CU{w:World}{n c g:Nat}{y:dX}{s:dW}(h:du w n c g y s){k b:Nat}(hk:k<s.lines.length)(h1:y.gH[k]?=some b):(y.kZ s b).map (y.st s)=fM s k:=by
 unfold dX.kZ fM;rw [<-h.uU h1 (mL hk),List.filter_map];rfl
theorem yCd(n c g:Nat)(y:dX)(s:dW)(k b d:Nat)(w:World)(h:du w n c g y s)(hk:k<s.lines.length)(hb:y.gH[k]?=some b)(hd:(y.fU b)[0]?=some d) :
  Calls Tryz.prog 64 #[.pointer (some ⟨g,0,none⟩),.int .i64 k] w fun e w'=>e=.returned (.tuple #[.pointer (some ⟨d,0,none⟩),.bool (fs s (y.st s d))])/\Mod dZ w w':=by
 obtain ⟨c0,-⟩:=kA h.blk;obtain ⟨lg,cap,hv,cl⟩:=vf h.fm hb;rw [hv] at c0;have hL:=h.line k b _ hb (mL hk);have b0:=hL.blk.cell 0 rfl;obtain ⟨ng,jh,oq,cn⟩:=vf hL.row hd;rw [oq] at b0;have HV:=dU (yBt n c g y s d (y.st s d) w h (h.mN hb (aC hd)));have hlt:=(aB.1 hb).1;have wA:(k:Int)<(y.gH.length:Int):=by omega
 have qT:(0:Int)<=(k:Int):=by omega
 have hn0:=(aB.1 hd).1;have XO:(0:Int)<((y.fU b).length:Int):=by omega
 clear h hv hL oq hb hd;go_enter Tryz.func64,Tryz.ntmps64;go_wp2_with fail;refine HV.out.mono ?_;rintro e w1 ⟨rfl,hm⟩;go_wp2_with fail;go_ret2;exact ⟨rfl,hm⟩
theorem yEt(n c g q:Nat)(y:dX)(s:dW)(d:Nat)(w:World)(h:du w n c g y s)(hd:wN w n y d (y.st s d))(hq:w.cell? ⟨q,0,none⟩=some (.pointer (some ⟨g,0,none⟩))) :
  Calls Tryz.prog 83 #[.pointer (some ⟨d,0,none⟩),.pointer (some ⟨q,0,none⟩)] w fun e w'=>e=.returned (.bool (!fs s (y.st s d)))/\Mod dZ w w':=by
 have HV:=dU (yBt n c g y s d (y.st s d) w h hd);clear h hd;go_enter Tryz.func83,Tryz.ntmps83;go_wp2_with fail;refine HV.out.mono ?_;rintro e w1 ⟨rfl,hm⟩;go_wp2_with fail;go_ret;exact ⟨rfl,hm⟩
theorem yQw(y:dX)(s:dW)(b:Nat):iy (fun d=>!fs s (y.st s d)) (y.fU b)=y.kZ s b:=by
 unfold iy dX.kZ;congr 1;funext d;simp
theorem UG(n c g:Nat)(y:dX)(s:dW)(k b:Nat)(w:World)(h:du w n c g y s)(hk:k<s.lines.length)(hb:y.gH[k]?=some b)(hf:(y.fU b).length<=100)(hne:0<(y.fU b).length) :
  Calls Tryz.prog 46 #[.pointer (some ⟨g,0,none⟩),.int .i64 k] w fun e w'=>∃ v,e=.returned v/\w'.ownsRow w.heap.size 91 1 v (y.kZ s b).length (jo (y.kZ s b))/\Mod dZ w w':=by
 obtain ⟨w1,hw1⟩:∃ x,x=w.alloc (.cells #[.pointer (some ⟨g,0,none⟩)] 35):=⟨_,rfl⟩;have di:Mod dZ w w1:=by rw [hw1];exact (Mod.refl _ w).alloc _
 have hb1:dh w1 w.heap.size [.pointer (some ⟨g,0,none⟩)] 35:=by rw [hw1];exact dh.new w _ _
 have h1:=h.quiet di;have x0:=hb1.cell 0 rfl;obtain ⟨c0,-⟩:=kA h1.blk;obtain ⟨lg,cap,hv,cl⟩:=vf h1.fm hb;rw [hv] at c0;have hL:=h1.line k b _ hb (mL hk);have b0:=hL.blk.cell 0 rfl;obtain ⟨nd,hnd⟩:∃ d,(y.fU b)[0]?=some d:=⟨_,aA hne⟩;obtain ⟨ng,jh,oq,cn⟩:=vf hL.row hnd;have hrow:=hL.row;rw [oq] at b0 hrow;have hcl:=hrow.cells (g:=ng) rfl;rw [QW] at hcl;have qt:=dU (yFq ⟨ng,0,none⟩ (y.fU b).length jh (y.fU b) w1 rfl hcl (by omega) (fun d _ u hu=>by simp [pB] at hu;subst hu;rfl));have uB:∀ fn first cap w,(Instr.makeFunc fn first cap).run Tryz.prog w=.ok (.func fn first cap) w:=fun _ _ _ _=>rfl
 have hlt:=(aB.1 hb).1;have wA:(k:Int)<(y.gH.length:Int):=by omega
 have qT:(0:Int)<=(k:Int):=by omega
 have HH:=dU h1;have HB:=dU hb;have mV:=dU hb1;have fg:=dU di;clear h h1 hv hL oq hrow hcl hb hnd hb1 di cn;go_enter Tryz.func46,Tryz.ntmps46;go_upto_region 1 with fail;rw [<-hw1];clear hw1;go_wp2_with fail;refine qt.out.mono ?_;rintro e w2 ⟨ng2,MZ,rfl,hrow2,hm2⟩;have HA:mF 83 #[.pointer (some ⟨w.heap.size,0,none⟩)] (fun d=>.pointer (some ⟨d,0,none⟩)) (y.fU b) (fun d=>!fs s (y.st s d)) (fun wr=>du wr n c g y s/\wr.cell? ⟨w.heap.size,0,none⟩=some (.pointer (some ⟨g,0,none⟩))):=
  ⟨wR Tryz.func83 (by kernel_rfl) rfl,fun wa wb hh hm=>⟨hh.1.quiet hm,hm.cell hh.2 id⟩,fun d hd wr hh=>yEt n c g w.heap.size y s d wr hh.1 (hh.1.mN HB.out hd) hh.2⟩
 have qh:=HH.out.quiet hm2;have IX:=dU (yDc 83 w1.heap.size #[.pointer (some ⟨w.heap.size,0,none⟩)] (fun d=>!fs s (y.st s d)) (.slice (some ⟨ng2,0,none⟩) (y.fU b).length MZ) (y.fU b) w2 _ hrow2 HA ⟨qh,hm2.cell (mV.out.cell 0 rfl) id⟩ (fun x hx w' hm'=>by
  have hx1:w1.heap.size<=x:=(ft hrow2 hx).1;have vy:Mod dZ w1 w':=hm2.trans' hm' (fun i hi e=>by simp only [eF] at e;omega);exact ⟨HH.out.quiet vy,vy.cell (mV.out.cell 0 rfl) id⟩) (by omega))
 rw [yQw] at IX;have HR:=dU hrow2;have gu:=dU hm2;clear hrow2 qh HA hm2 qt;go_wp2_with fail;refine IX.out.mono ?_;rintro e w3 ⟨v3,rfl,hrow3,hv3,dz⟩;obtain ⟨JZ,Dv,GQ⟩:=fJ hrow3;subst GQ;have Eu:=dU hrow3;have jJ:Mod dZ w1 w3:=gu.out.trans' dz (fun i hi e=>by have:=(ft HR.out e).1;omega);have jt:=dU (fg.out.trans jJ);have HZ:=dU fg.out.size;clear hrow3 dz jJ IX;go_wp2_with fail;go_ret;exact ⟨_,rfl,uP Eu.out HZ.out,jt.out⟩
structure lY(s:dW):Prop where
 ll:2<=s.lines.length/\s.lines.length<=5
 nl:∀ l∈s.lines,1<=l.nodes.length/\l.nodes.length<=4
 tl:s.dV.length<=60
 ta:∀ t∈s.dV,t.ats.length=s.lines.length
 tw:∀ t∈s.dV,t.writes.length<=20
theorem Im{s:dW}{k:Nat}(hk:k<s.lines.length):s.line k∈s.lines:=aC (mL hk)
theorem tk{s:dW}{id:Nat}(h1:1<=id)(h2:id<=s.dV.length):s.dV[id - 1]?=some (s.tx id):=by
 unfold dW.tx;rw [aH,aA (by omega)];rfl
theorem Bm{s:dW}{id:Nat}(h1:1<=id)(h2:id<=s.dV.length):s.tx id∈s.dV:=aC (tk h1 h2)
theorem zUx{α:Type}(f p:α->Bool):∀ l:List α,
  ((l.filter f).findIdx? p=none/\l.findIdx? (fun x=>f x && p x)=none)\/∃ i j d,(l.filter f).findIdx? p=some i/\(l.filter f)[i]?=some d/\l.findIdx? (fun x=>f x && p x)=some j/\l[j]?=some d
 | []=>.inl ⟨rfl,rfl⟩
 | x :: l=>by
  have ih:=zUx f p l
  cases hf:f x with
  | false=>
   rw [List.filter_cons_of_neg (by simp [hf]),bq (xs:=l) (p:=fun x=>f x && p x)];simp only [hf,dH];rcases ih with ⟨h1,h2⟩ | ⟨i,j,d,h1,h2,h3,h4⟩
   ·exact .inl ⟨h1,by simp [h2]⟩
   ·exact .inr ⟨i,j+1,d,h1,h2,by simp [h3],by simpa using h4⟩
  | true=>
   rw [List.filter_cons_of_pos hf,bq (xs:=l) (p:=fun x=>f x && p x),bq];simp only [hf,Bool.true_and]
   cases hp:p x with
   | true=>exact .inr ⟨0,0,x,by simp,rfl,by simp,rfl⟩
   | false=>
    rcases ih with ⟨h1,h2⟩ | ⟨i,j,d,h1,h2,h3,h4⟩
    ·exact .inl ⟨by simp [h1],by simp [h2]⟩
    ·exact .inr ⟨i+1,j+1,d,by simp [h1],by simpa using h2,by simp [h3],by simpa using h4⟩
def VB(y:dX)(o:Option (Nat × Nat))(e:Ending):Prop:=match o with
 | none=>e=.returned (.tuple #[.pointer none,.bool false])
 | some (k,j)=>∃ b d,y.gH[k]?=some b/\(y.fU b)[j]?=some d/\e=.returned (.tuple #[.pointer (some ⟨d,0,none⟩),.bool true])
theorem yIw{s:dW}{id:Int}{k:Nat}(hk:k<s.lines.length):vd s id k (s.lines.drop k)=match xo s (s.line k).nodes id with
  | some j=>some (k,j)
  | none=>vd s id (k+1) (s.lines.drop (k+1)):=by
 rw [uR (mL hk)];rfl
theorem yMj(n c g q:Nat)(y:dX)(s:dW)(d:Nat)(id:Int)(w:World)(hd:wN w n y d (y.st s d))(hq:w.cell? ⟨q,0,none⟩=some (.int .i64 id)) :
  Calls Tryz.prog 97 #[.pointer (some ⟨d,0,none⟩),.pointer (some ⟨q,0,none⟩)] w fun e w'=>e=.returned (.bool (decide ((y.st s d).id=id)))/\Mod dZ w w':=by
 have HI:Hid (∀ m,Calls Tryz.prog 98 #[.pointer (some ⟨d,0,none⟩)] (w.drewN m) fun e w'=>e=.returned (.int .i64 (y.st s d).id)/\w'=w.drewN m):=fun m=>VM _ _ _ _ _ _ (hd.drewN m);have z:=World.block_lt_of_cell? w _ hq;clear hd;by_cases he:(y.st s d).id=id
 ·have hb:((y.st s d).id == id)=true:=by simpa using he
  have hdd:decide ((y.st s d).id=id)=true:=aQ he;have xh:=dU hdd;clear hdd he;go_enter Tryz.func97,Tryz.ntmps97;go_upto_region 1 with fail;go_quiet (first
   | (go_at_call 98;refine Calls.quiet_of_same (HI.out _))
   | fail)
  go_wp2_with fail;go_ret;exact ⟨by rw [xh.out];first | rfl | (simp [hb]),(Mod.refl _ w).drewN _⟩
 ·have hb:((y.st s d).id == id)=false:=by simpa using he
  have hdd:decide ((y.st s d).id=id)=false:=aP he;have xh:=dU hdd;clear hdd he;go_enter Tryz.func97,Tryz.ntmps97;go_upto_region 1 with fail;go_quiet (first
   | (go_at_call 98;refine Calls.quiet_of_same (HI.out _))
   | fail)
  go_wp2_with fail;go_ret;exact ⟨by rw [xh.out];first | rfl | (simp [hb]),(Mod.refl _ w).drewN _⟩
theorem yCa(n c g:Nat)(y:dX)(s:dW)(id:Int)(w:World)(h:du w n c g y s)(hs:lY s) :
  Calls Tryz.prog 55 #[.pointer (some ⟨g,0,none⟩),.int .i64 id] w fun e w'=>VB y (mY s id) e/\Mod dZ w w':=by
 obtain ⟨w1,hw1⟩:∃ x,x=w.alloc (.cells #[.int .i64 id] 3):=⟨_,rfl⟩;have di:Mod dZ w w1:=by rw [hw1];exact (Mod.refl _ w).alloc _
 have hb1:dh w1 w.heap.size [.int .i64 id] 3:=by rw [hw1];exact dh.new w _ _
 have h1:=h.quiet di;obtain ⟨c0,-⟩:=kA h1.blk;obtain ⟨la,fG,hv⟩:=fJ h1.fm;rw [hv,h.iN] at c0;have hll:=hs.ll;have HH:=dU h1;have mV:=dU hb1;have fg:=dU di;have uB:∀ fn first cap w,(Instr.makeFunc fn first cap).run Tryz.prog w=.ok (.func fn first cap) w:=fun _ _ _ _=>rfl
 clear h h1 hv hb1 di;go_enter Tryz.func55,Tryz.ntmps55;go_upto_region 1 with fail;rw [<-hw1];clear hw1;go_wp2_with fail;go_loopw [14] (fun k0 wr=>∃ k:Nat,k<=s.lines.length/\k0=.int .i64 k/\mY s id=vd s id k (s.lines.drop k)/\Mod dZ w1 wr) (fun k0 _=>s.lines.length - (intOf k0).toNat)
 case atStart=>exact ⟨0,aV _,rfl,by rw [bx];rfl,Mod.refl _ _⟩
 case round=>
  obtain ⟨k,hkl,rfl,hf,hm⟩:=hrel;have HM:=dU hm;have HF:=dU hf;clear hm hf c0;by_cases hlt:k<s.lines.length
  ·have zj:=HH.out.quiet HM.out;obtain ⟨b,hb,hL⟩:=zj.nI hlt;have hnl:=hs.nl _ (Im hlt);have hlen:=hL.len;have Bd:=dU (UG n c g y s k b wr zj hlt hb (by omega) (by omega));have kO:(k:Int)<(s.lines.length:Int):=by omega
   have HB:=dU hb;have HL:=dU zj;have HFC:=dU (yIw (id:=id) hlt);have HSM:=dU (zj.uU hb (mL hlt));clear zj hL hb hlen;go_wp2_with fail;refine Bd.out.mono ?_;rintro e w2 ⟨v,rfl,hrow,hm2⟩;obtain ⟨va,vc,hv⟩:=fJ hrow;subst hv;have HR:=dU hrow;have gu:=dU (HM.out.trans hm2);have qh:=HL.out.quiet hm2;have HA:mF 97 #[.pointer (some ⟨w.heap.size,0,none⟩)] (fun d=>.pointer (some ⟨d,0,none⟩)) (y.kZ s b) (fun d=>decide ((y.st s d).id=id)) (fun wr=>du wr n c g y s/\wr.cell? ⟨w.heap.size,0,none⟩=some (.int .i64 id)):=
    ⟨wR Tryz.func97 (by kernel_rfl) rfl,fun wa wb hh hm=>⟨hh.1.quiet hm,hm.cell hh.2 (fun e=>e)⟩,fun d hd wr hh=>yMj n c g w.heap.size y s d id wr (hh.1.mN HB.out (al.1 hd).1) hh.2⟩
   have nV:=dU (zUf 97 w2.heap.size #[.pointer (some ⟨w.heap.size,0,none⟩)] (fun d=>decide ((y.st s d).id=id)) _ (y.kZ s b) w2 _ (Tk hrow) HA ⟨qh,gu.out.cell (mV.out.cell 0 rfl) (fun e=>e)⟩ (by have:=aw (fun d=>fs s (y.st s d)) (y.fU b);have:=(HL.out.line k b _ HB.out (mL hlt)).len;show (y.kZ s b).length<=_;unfold dX.kZ;omega));clear hrow hm2 qh HA Bd;go_wp2_with fail;refine nV.out.mono ?_;rintro e w3 ⟨rfl,dz⟩;have jt:=dU (gu.out.trans dz);have xO:=zUx (fun d=>fs s (y.st s d)) (fun d=>decide ((y.st s d).id=id)) (y.fU b);have hfn:xo s (s.line k).nodes id=(y.fU b).findIdx? (fun d=>fs s (y.st s d) && decide ((y.st s d).id=id)):=by
    unfold xo;rw [<-HSM.out,List.findIdx?_map];rfl
   rcases xO with ⟨g1,g2⟩ | ⟨i,j,d,g1,g2,g3,g4⟩
   ·have e1:iO ((y.kZ s b).findIdx? fun d=>decide ((y.st s d).id=id)) = -1:=by unfold dX.kZ;rw [g1];rfl
    rw [e1];have HN:Hid (mY s id=vd s id (k+1) (s.lines.drop (k+1))):=by unfold Hid;rw [HF.out,HFC.out,hfn,g2]
    clear e1 g1 g2 hfn dz nV;go_wp2_with fail;go_roundw
    case rel=>exact ⟨k+1,by omega,by go_num,HN.out,jt.out⟩
    case measure=>simp [intOf];omega
   ·have e1:iO ((y.kZ s b).findIdx? fun d=>decide ((y.st s d).id=id))=(i:Int):=by unfold dX.kZ;rw [g1];rfl
    rw [e1];have HN:Hid (mY s id=some (k,j)):=by unfold Hid;rw [HF.out,HFC.out,hfn,g3]
    obtain ⟨rb,roff,rl,hra,_,hrl,_,hrc⟩:=gG.at (Tk (gD HR.out dz (fun _ _ _ _ e=>e))) g2;unfold RH at hrl;subst hrl;subst hra;have q0:=hrc 0 _ rfl;simp only [bC,cT] at q0;have hil:i<(y.kZ s b).length:=(aB.1 g2).1;have wB:(i:Int)<((y.kZ s b).length:Int):=by omega
    have hi0:(0:Int)<=(i:Int):=by omega
    have hge:decide ((i:Int) ≥ 0)=true:=aQ (by omega);have HG4:=dU g4;clear e1 g1 g2 g3 g4 hfn dz nV hrc;go_wp2_with fail;go_ret2;exact ⟨by rw [HN.out];exact ⟨b,d,HB.out,HG4.out,rfl⟩,fg.out.trans jt.out⟩
  ·obtain rfl:k=s.lines.length:=by omega
   have HN:Hid (mY s id=none):=by unfold Hid;rw [HF.out,cV];rfl
   go_wp2_with fail;go_ret2;exact ⟨by rw [HN.out];rfl,fg.out.trans HM.out⟩
def tX(w:World)(v:Value)(cs:List dt):Prop:=∃ us:List Value,(us.length=cs.length/\∀ u∈us,∃ a m c,u=.slice a m c)/\gG w w.heap.size 4 Dq v (cs.zip us)
theorem QG{α β:Type}:∀ {a:List α} {b:List β} {i:Nat} {x:α × β},(a.zip b)[i]?=some x->a[i]?=some x.1/\b[i]?=some x.2
 | [],_,_,_,h=>by simp at h
 | _ :: _,[],_,_,h=>by simp at h
 | p :: a,q :: b,0,x,h=>by simp at h;subst h;exact ⟨rfl,rfl⟩
 | p :: a,q :: b,i+1,x,h=>by
  rw [List.zip_cons_cons,cQ] at h;have:=QG h;exact ⟨by simpa using this.1,by simpa using this.2⟩
theorem gU.oN{w:World}{L:Lo}{v:Value}{cs:List dt}(h:gU w L v cs):tX w v cs:=by
 obtain ⟨us,h1,h2,h3,h4⟩:=h;refine ⟨us,⟨h1,fun u hu=>?_⟩,?_⟩
 ·obtain ⟨i,hi⟩:=aN hu;have hil:i<cs.length:=by have:=(aB.1 hi).1;omega
  obtain ⟨a,cap,e,_⟩:=h3 i _ u (aA hil) hi;exact ⟨_,_,_,e⟩
 have hz:(cs.zip us).length=cs.length:=by rw [bz];omega
 rcases h2.2 with ⟨rfl,hn⟩ | ⟨g,cap,cur,rfl,q1,q2,q3,q4,q5,q6⟩
 ·have hc:cs=[]:=aT hn;subst hc;exact gG.nil _ _ _ _
 ·have hcl:=h2.cells (g:=g) rfl;have hgl:g<w.heap.size:=(aK.1 q2).1;refine ⟨_,cap,by rw [hz],by rw [hz];exact q3,q4,.inr ⟨g,0,rfl,by omega,fun i d hi=>⟨vh d.1 d.2,rfl,rfl,fun j x hx=>?_⟩⟩⟩;obtain ⟨e1,e2⟩:=QG hi;have:=hcl _ _ (Qv cs us i d.1 d.2 h1 e1 e2 j x hx);rw [Go.WideShapes.add_plain,ah] at this;rw [ah];exact this
theorem tX.mod{G:Nat->Prop}{w w':World}{v:Value}{cs:List dt}(h:tX w v cs)(hm:Mod G w w')(hG:∀ k,v.ownBlock=some k->¬ G k):tX w' v cs:=by
 obtain ⟨us,h1,a,cap,h2,h3,h4,h5⟩:=h;refine ⟨us,h1,a,cap,h2,h3,h4,?_⟩;rcases h5 with h5 | ⟨b,off,h6,h7,h8⟩
 ·exact .inl h5
 ·refine .inr ⟨b,off,h6,aG h7 hm.size,fun i d hi=>?_⟩;obtain ⟨l,hl,hl2,BK⟩:=h8 i d hi;refine ⟨l,hl,hl2,fun j x hx=>hm.cell (BK j x hx) (hG b ?_)⟩;rw [h2,h6];rfl
theorem yRk{α β:Type}(p:α->Bool)(a:List α)(b:List β)(h:b.length=a.length):(a.zip b).findIdx? (fun d=>p d.1)=a.findIdx? p:=by
 conv=>rhs;rw [<-List.map_fst_zip (l₁:=a) (l₂:=b) (by omega)]
 rw [List.findIdx?_map];rfl
theorem yFb(q1 q2:Nat)(d:dt × Value)(kind tx:Int)(w:World)(h1:w.cell? ⟨q1,0,none⟩=some (.int .i64 kind))(h2:w.cell? ⟨q2,0,none⟩=some (.int .i64 tx)) :
  Calls Tryz.prog 127 #[.agg #[.int .i64 d.1.kind,.int .i64 d.1.tx,.int .i64 d.1.time,d.2],.pointer (some ⟨q1,0,none⟩),.pointer (some ⟨q2,0,none⟩)] w fun e w'=>e=.returned (.bool (decide (d.1.kind=kind) && decide (d.1.tx=tx)))/\Mod dZ w w':=by
 obtain ⟨⟨k,x,t,ws⟩,u⟩:=d;dsimp only;obtain ⟨w1,hw1⟩:∃ z,z=w.alloc (.cells #[.int .i64 k,.int .i64 x,.int .i64 t,u] 65):=⟨_,rfl⟩;have di:Mod dZ w w1:=by rw [hw1];exact (Mod.refl _ w).alloc _
 have hb1:dh w1 w.heap.size [.int .i64 k,.int .i64 x,.int .i64 t,u] 65:=by rw [hw1];exact dh.new w _ _
 have g1:=di.cell h1 id;have g2:=di.cell h2 id;have b0:=hb1.cell 0 rfl;have b1:=hb1.cell 1 rfl;have HM:=dU di;clear h1 h2 hb1 di;by_cases e1:k=kind
 ·have d1:(k == kind)=true:=by simpa using e1
  by_cases e2:x=tx
  ·have d2:(x == tx)=true:=by simpa using e2
   have HD:Hid ((decide (k=kind) && decide (x=tx))=true):=by unfold Hid;simp [e1,e2]
   clear e1 e2;go_enter Tryz.func127,Tryz.ntmps127;go_upto_region 1 with fail;rw [<-hw1];clear hw1;go_wp2_with fail;go_ret;exact ⟨by rw [HD.out];first | rfl | simp [d1,d2],HM.out⟩
  ·have d2:(x == tx)=false:=by simpa using e2
   have HD:Hid ((decide (k=kind) && decide (x=tx))=false):=by unfold Hid;simp [e2]
   clear e1 e2;go_enter Tryz.func127,Tryz.ntmps127;go_upto_region 1 with fail;rw [<-hw1];clear hw1;go_wp2_with fail;go_ret;exact ⟨by rw [HD.out];first | rfl | simp [d1,d2],HM.out⟩
 ·have d1:(k == kind)=false:=by simpa using e1
  have HD:Hid ((decide (k=kind) && decide (x=tx))=false):=by unfold Hid;simp [e1]
  clear e1;go_enter Tryz.func127,Tryz.ntmps127;go_upto_region 1 with fail;rw [<-hw1];clear hw1;go_wp2_with fail;go_ret;exact ⟨by rw [HD.out];first | rfl | simp [d1],HM.out⟩
theorem UC(v:Value)(cs:List dt)(kind tx:Int)(w:World)(hv:tX w v cs)(hl:cs.length<=1000) :
  Calls Tryz.prog 80 #[v,.int .i64 kind,.int .i64 tx] w fun e w'=>e=.returned (.int .i64 (iO (kq cs kind tx)))/\Mod dZ w w':=by
 obtain ⟨w1,hw1⟩:∃ z,z=w.alloc (.cells #[.int .i64 kind] 3):=⟨_,rfl⟩;obtain ⟨w2,hw2⟩:∃ z,z=w1.alloc (.cells #[.int .i64 tx] 3):=⟨_,rfl⟩;have di:Mod dZ w w1:=by rw [hw1];exact (Mod.refl _ w).alloc _
 have hm2:Mod dZ w1 w2:=by rw [hw2];exact (Mod.refl _ w1).alloc _
 have hz1:w1.heap.size=w.heap.size+1:=by rw [hw1,World.size_alloc]
 have hb1:dh w2 w.heap.size [.int .i64 kind] 3:=dh.mod (by rw [hw1];exact dh.new w _ _) hm2 id;have hb2:dh w2 (w.heap.size+1) [.int .i64 tx] 3:=by rw [<-hz1,hw2];exact dh.new w1 _ _
 have hm:=di.trans hm2;obtain ⟨us,hu,hsl⟩:=hv.mod hm (fun _ _ e=>e);have zW:(cs.zip us).length=cs.length:=by rw [bz];omega
 have HA:mF 127 #[.pointer (some ⟨w.heap.size,0,none⟩),.pointer (some ⟨w.heap.size+1,0,none⟩)] (fun d=>.agg #[.int .i64 d.1.kind,.int .i64 d.1.tx,.int .i64 d.1.time,d.2]) (cs.zip us) (fun d=>decide (d.1.kind=kind) && decide (d.1.tx=tx)) (fun wr=>wr.cell? ⟨w.heap.size,0,none⟩=some (.int .i64 kind)/\wr.cell? ⟨w.heap.size+1,0,none⟩=some (.int .i64 tx)):=
  ⟨wR Tryz.func127 (by kernel_rfl) rfl,fun wa wb hh hm=>⟨hm.cell hh.1 (fun e=>e),hm.cell hh.2 (fun e=>e)⟩,fun d hd wr hh=>yFb _ _ d kind tx wr hh.1 hh.2⟩
 have nV:=dU (yFa 127 w2.heap.size _ _ v (cs.zip us) w2 _ hsl HA ⟨hb1.cell 0 rfl,hb2.cell 0 rfl⟩ (by omega));rw [show ((cs.zip us).findIdx? fun d=>decide (d.1.kind=kind) && decide (d.1.tx=tx))=kq cs kind tx from yRk (fun c=>decide (c.kind=kind) && decide (c.tx=tx)) cs us hu.1] at nV;obtain ⟨va,vc,lI,_,_⟩:=gG.slice hsl;rw [zW] at lI;subst lI;have uB:∀ fn first cap w,(Instr.makeFunc fn first cap).run Tryz.prog w=.ok (.func fn first cap) w:=fun _ _ _ _=>rfl
 have HM:=dU hm;clear hv hsl HA hb1 hb2 di hm2 hm hz1;go_enter Tryz.func80,Tryz.ntmps80;go_upto_region 1 with fail;rw [<-hw1,<-hw2];clear hw1 hw2;go_wp2_with fail;refine nV.out.mono ?_;rintro e w3 ⟨rfl,dz⟩;go_wp2_with fail;go_ret;exact ⟨rfl,HM.out.trans dz⟩
theorem yCx{α β:Type}:∀ (a:List α) (b:List β) (k:Nat),(a.drop k).zip (b.drop k)=(a.zip b).drop k
 | [],b,k=>by simp
 | a :: as',[],k=>by cases k <;> simp
 | a :: as',b :: bs,0=>rfl
 | a :: as',b :: bs,k+1=>by simpa using yCx as' bs k
theorem tX.drop{w:World}{ga:Addr}{m cap:Nat}{cs:List dt}(h:tX w (.slice (some ga) m cap) cs){k:Nat}(hk:k<cs.length):ga.spot=none/\tX w (.slice (some ⟨ga.block,ga.off+k*4,none⟩) (m - k) (cap - k)) (cs.drop k)/\m=cs.length/\k<=cap:=by
 obtain ⟨us,h1,a,cap',h2,h3,h4,h5⟩:=h;have hz:(cs.zip us).length=cs.length:=by rw [bz];omega
 simp only [Value.slice.injEq] at h2;obtain ⟨e1,e2,e3⟩:=h2;rw [hz] at e2 h3;subst e1 e2 e3;rcases h5 with h5 | ⟨b,off,h6,h7,h8⟩
 ·rw [h5] at hz;simp at hz;omega
 ·cases h6
  refine ⟨rfl,⟨us.drop k,⟨by simp [h1.1],fun u hu=>h1.2 u (cO hu)⟩,some ⟨b,off+k*4,none⟩,cap - k,?_,?_,?_,.inr ⟨b,off+k*4,rfl,h7,fun i d hi=>?_⟩⟩,rfl,by omega⟩
  ·rw [bz,bJ,bJ,h1.1,Nat.min_self]
  ·rw [bz,bJ,bJ,h1.1,Nat.min_self];omega
  ·omega
  ·rw [yCx,cY] at hi;obtain ⟨l,hl,hl2,BK⟩:=h8 _ d hi;refine ⟨l,hl,hl2,fun j x hx=>?_⟩;have:=BK j x hx;rw [show off+k*4+i*4+j=off+(k+i)*4+j by omega];exact this
def qZ(l:List UInt8):Nat:=l.foldl (fun a b=>a+b.toNat) 0
theorem yLp(l:List UInt8)(b:UInt8):qZ (l++[b])=qZ l+b.toNat:=by simp [qZ]
theorem ySz:∀ l:List UInt8,qZ l<=255*l.length:=by
 intro l
 suffices h:∀ (l:List UInt8) (a:Nat),l.foldl (fun a b=>a+b.toNat) a<=a+255*l.length by simpa [qZ] using h l 0
 intro l
 induction l with
 | nil=>intro a;simp
 | cons b l ih=>
  intro a;have h1:=ih (a+b.toNat);have h2:=b.toNat_lt;simp only [cM,aW];omega
theorem Tu(n c g:Nat)(y:dX)(s:dW)(key:ByteArray)(w:World)(h:du w n c g y s)(hs:lY s)(hk:key.size<=1000000) :
  Calls Tryz.prog 65 #[.pointer (some ⟨g,0,none⟩),.string key] w fun e w'=>e=.returned (.int .i64 (ee s key))/\w'=w:=by
 have hll:=hs.ll;have HD:=dU (Up n c g y s w h (by omega) (by omega));have Xp:1<=dk s:=by unfold dk;omega
 have pw:dk s<=5:=by unfold dk;omega
 clear h;go_enter Tryz.func65,Tryz.ntmps65;go_wp2_with fail;go_loopw [5,9] (fun s0 i0 wr=>∃ i:Nat,i<=key.size/\i0=.int .i64 i/\s0=.int .i64 (qZ (key.toList.take i))/\wr=w) (fun _ i0 _=>key.size - (intOf i0).toNat)
 case atStart=>exact ⟨0,aV _,rfl,rfl,rfl⟩
 case round=>
  obtain ⟨i,hi,rfl,rfl,rfl⟩:=hrel;have hle:=ySz (key.toList.take i);rw [aZ] at hle;have Nb:qZ (key.toList.take i)<=255*1000000:=by omega
  by_cases hlt:i<key.size
  ·have kO:(i:Int)<(key.size:Int):=by omega
   have hi0:(0:Int)<=(i:Int):=by omega
   have BG:key.toList.take (i+1)=key.toList.take i++[key[i]]:=by
    have hl:i<key.toList.length:=by rw [ByteArray.toList_eq];simpa using hlt
    rw [bd hl];congr 2;simp only [ByteArray.toList_eq,ByteArray.getElem_eq_getElem_data,Array.getElem_toList]
   have hb:=key[i].toNat_lt;have HW:Hid (wrap64 (↑(qZ (key.toList.take i))+wrap64 ↑key[i].toNat)=((qZ (key.toList.take (i+1)):Nat):Int)):=by
    unfold Hid;rw [IntWalk.wrap64_in ((key[i].toNat:Nat):Int) ⟨by omega,by omega⟩,IntWalk.wrap64_in _ ⟨by omega,by omega⟩,BG,yLp];omega
   clear BG hb;go_wp2_with fail;refine ⟨⟨i+1,by omega,by go_num,by rw [HW.out],by trivial⟩,by simp [intOf];omega⟩
  ·obtain rfl:i=key.size:=by omega
   have BF:key.toList.take key.size=key.toList:=by rw [ba];rw [ByteArray.toList_eq];simp
   have hz:((dk s:Nat):Int)≠0:=by omega
   have hzb:(((dk s:Nat):Int) == 0)=false:=by simpa using hz
   have HW:Hid (((qZ (key.toList.take key.size):Nat):Int) % ((dk s:Nat):Int)=((ee s key:Nat):Int)):=by
    unfold Hid;rw [BF];rfl
   clear BF hz hle Nb;go_wp2_with fail;refine HD.out.mono ?_;rintro e w1 ⟨rfl,rfl⟩;go_wp2_with fail;go_ret;exact ⟨by rw [<-HW.out];rfl,rfl⟩
theorem CB{α:Type}(l:List α)(d:α)(h:0<l.length):l.getLastD d=l[l.length - 1]'(by omega):=by
 cases l with
 | nil=>simp at h
 | cons a l=>
  rw [List.getLastD_cons,List.getLastD_eq_getLast?,List.getLast?_eq_getElem?]
  cases l with
  | nil=>rfl
  | cons b l=>simp
theorem yQf(n b:Nat)(y:dX)(l:ik)(w:World)(hL:yQ w n y b l)(hne:0<l.nodes.length)(hx:l.nodes.length<=4)(hh:l.heard<=(l.nodes.getLastD Ds).log.length) :
  Calls Tryz.prog 129 #[.pointer (some ⟨b,0,none⟩)] w fun e w'=>∃ v,e=.returned v/\tX w' v ((l.nodes.getLastD Ds).log.drop l.heard)/\lE w v/\Mod dZ w w':=by
 have b0:=hL.blk.cell 0 rfl;have b1:=hL.blk.cell 1 rfl;have hlen:=hL.len;obtain ⟨d,hd,t,ht,hN⟩:=hL.vp (j:=l.nodes.length - 1) (by omega);obtain ⟨ng,jh,oq,cn⟩:=vf hL.row hd;rw [oq,hlen] at b0;have htl:l.nodes.getLastD Ds=t:=by
  rw [CB _ _ hne];have:=aA (show l.nodes.length - 1<l.nodes.length by omega);rw [ht] at this;exact (ax this).symm
 rw [htl] at hh ⊢;obtain ⟨m,hm⟩:∃ m,l.nodes.length=m+1:=⟨l.nodes.length - 1,by omega⟩;rw [hm] at b0 cn;rw [bZ] at cn;have fW:=hN.few.2;have hmI:(m:Int)<((m+1:Nat):Int):=by omega
 have hm0:(0:Int)<=(m:Int):=by omega
 have DU:Hid (∀ wq,Mod dZ w wq->Calls Tryz.prog 79 #[.pointer (some ⟨d,0,none⟩)] wq fun e w'=>e=.returned (.int .i64 t.log.length)/\w'=wq):=fun wq hq=>Sw _ _ _ _ _ _ (hN.quiet hq);have sB:Hid (∀ wq,Mod dZ w wq->Calls Tryz.prog 40 #[.pointer (some ⟨d,0,none⟩)] wq fun e w'=>∃ v,e=.returned v/\gU w' (y.lo n) v t.log/\lE wq v/\Mod dZ wq w'):=fun wq hq=>LR _ _ _ _ _ _ (hN.quiet hq);have zb:=hL.blk.lt;clear hL oq hd ht hN htl hlen hne;go_enter Tryz.func129,Tryz.ntmps129;go_upto_region 1 with fail;go_quiet (fail);obtain ⟨w1,hw1⟩:∃ x,x=w.drewN nq:=⟨_,rfl⟩;have di:Mod dZ w w1:=by rw [hw1];exact (Mod.refl _ w).drewN nq
 have d1:=di.cell b1 id;have z1:b<w1.heap.size:=aG zb di.size;rw [<-hw1];clear hw1 b0 b1 cn;go_upto_region 2 with fail;by_cases he:t.log.length=l.heard
 ·have Gu:((t.log.length:Int) == (l.heard:Int))=true:=by rw [beq_iff_eq];omega
  have HN:Hid (t.log.drop l.heard=[]):=by unfold Hid;rw [<-he];simp
  clear he hh;go_quiet (first
   | (go_at_call 79;refine Calls.quiet_of_same (DU.out _ (di.drewN _)))
   | fail)
  go_wp2_with fail;go_ret;exact ⟨_,rfl,by rw [HN.out];exact ⟨[],⟨rfl,by simp⟩,gG.nil _ _ _ _⟩,fun k hk=>by simp [Value.ownBlock] at hk,di.drewN _⟩
 ·have Gu:((t.log.length:Int) == (l.heard:Int))=false:=by rw [bk];omega
  have hlt:l.heard<t.log.length:=by omega
  go_quiet (first
   | (go_at_call 79;refine Calls.quiet_of_same (DU.out _ (di.drewN _)))
   | fail)
  obtain ⟨w2,hw2⟩:∃ x,x=w1.drewN nq:=⟨_,rfl⟩;have hm2:Mod dZ w w2:=by rw [hw2];exact di.drewN _
  have d2:w2.cell? ⟨b,1,none⟩=some (.int .i64 l.heard):=by rw [hw2];exact d1
  have z2:b<w2.heap.size:=by rw [hw2];exact z1
  rw [<-hw2];clear hw2 d1 z1 di he;go_upto_region 4 with fail;go_cut [2] (fun v wc=>tX wc v (t.log.drop l.heard)/\lE w v/\Mod dZ w wc)
  case first=>
   have kO:(l.heard:Int)<(t.log.length:Int):=by omega
   have h00:(0:Int)<=(l.heard:Int):=by omega
   obtain ⟨c0,hc0⟩:∃ c,t.log[0]?=some c:=⟨_,aA (by omega)⟩;go_region_with (go_at_call 40;refine (sB.out _ hm2.drew).mono ?_;rintro e w3 ⟨v3,rfl,hr3,hf3,dz⟩;(have d3:=dz.cell d2 id;obtain ⟨g3,Dv,u3,hv3,hcap3,hmx3,-⟩:=hr3.at hc0;subst hv3;have hle3:l.heard<=Dv:=(by omega)))
   all_goals
    obtain ⟨-,hq,-,-⟩:=tX.drop hr3.oN hlt;simp only [ah] at hq;have HQ:=dU hq;have HF:Hid (w.heap.size<=g3):=aM hm2.size (hf3 g3 rfl);have HM:Hid (Mod dZ w w3):=(hm2.drew).trans dz;clear hq hr3 hf3 dz;go_wp2_with fail;go_meet
    case rel=>exact ⟨HQ.out,fun k hk=>(by cases hk;exact HF.out),HM.out⟩
  case rest=>
   obtain ⟨hq,hf,mu⟩:=hcut;have HQ:=dU hq;have HF:=dU hf;clear hq hf;go_wp2_with fail;go_ret;exact ⟨_,rfl,HQ.out,HF.out,mu⟩
structure rM(w w':World)(n:Nat)(y:dX)(T:Tag->Prop):Prop where
 ex:∃ G:Nat->Prop,Mod G w w'/\Qm w (y.lo n) G/\∀ k,k<w.heap.size->G k->T (y.own k)/\y.own k≠.no
section
variable {w w':World} {n c g:Nat} {y:dX} {s:dW} {T:Tag->Prop}
theorem du.tC(h:du w n c g y s)(ht:rM w w' n y T)(hn:¬ T .main):dh w' g (JC y s.net.lost) 84:=by
 obtain ⟨G,hm,hq,hT⟩:=ht.ex;exact h.blk.mod hm (fun e=>hn (by have:=(hT g h.blk.lt e).1;rwa [h.own.main] at this))
theorem du.vB(h:du w n c g y s)(ht:rM w w' n y T)(hn:¬ T .net):tQ w' (y.lo n) y.wv y.mr s.net:=by
 obtain ⟨G,hm,hq,hT⟩:=ht.ex;refine h.net.mod hm hq (fun k hk e=>hn ?_);have ho:=h.own.net k hk;have:=(hT k (h.own.lt k (by rw [ho];simp)).2 e).1
 rwa [ho] at this
theorem du.oW(h:du w n c g y s)(ht:rM w w' n y T)(hn:¬ T .dead):pV w' n (some y.dr) s.dead:=by
 obtain ⟨G,hm,hq,hT⟩:=ht.ex;refine h.dead.mod hm (fun k hk e=>hn ?_)
 cases hk
 have ho:=h.own.dead;have:=(hT _ (h.own.lt _ (by rw [ho];simp)).2 e).1
 rwa [ho] at this
theorem du.tB(h:du w n c g y s)(ht:rM w w' n y T)(hn:¬ T .tab):tK w' n 120 y.q s.keys:=by
 obtain ⟨G,hm,hq,hT⟩:=ht.ex;refine h.tab.mod hm (fun k hk e=>hn ?_);have ho:=h.own.tab k hk;have:=(hT k (h.own.lt k (by rw [ho];simp)).2 e).1
 rwa [ho] at this
theorem du.oV(h:du w n c g y s)(ht:rM w w' n y T)(hn:¬ T .fm):w'.ownsRow n 102 1 y.lv y.gH.length (y.gH.map iz):=by
 obtain ⟨G,hm,hq,hT⟩:=ht.ex;refine gD h.fm hm (fun k _ _ hk e=>hn ?_);have ho:=h.own.fm k hk;have:=(hT k (h.own.lt k (by rw [ho];simp)).2 e).1
 rwa [ho] at this
theorem du.oU(h:du w n c g y s)(ht:rM w w' n y T)(hn:¬ T .gR):w'.ownsRow n 87 1 y.tv y.ja.length (y.ja.map iz):=by
 obtain ⟨G,hm,hq,hT⟩:=ht.ex;refine gD h.gR hm (fun k _ _ hk e=>hn ?_);have ho:=h.own.gR k hk;have:=(hT k (h.own.lt k (by rw [ho];simp)).2 e).1
 rwa [ho] at this
theorem du.DG(h:du w n c g y s)(ht:rM w w' n y T){i b:Nat}{t:jO}(hb:y.ja[i]?=some b)(hti:s.dV[i]?=some t)(hn:¬ T (.tx b)):tJ w' n y b t:=by
 obtain ⟨G,hm,hq,hT⟩:=ht.ex;have hmem:=aC hb;have ho:=h.own.tx b hmem;refine (h.tx i b t hb hti).mod hm (fun e=>hn ?_) (fun k hk e=>hn ?_)
 ·have:=(hT b (h.own.lt b (by rw [ho.1];simp)).2 e).1
  rwa [ho.1] at this
 ·have hk2:=ho.2 k hk;have:=(hT k (h.own.lt k (by rw [hk2];simp)).2 e).1
  rwa [hk2] at this
theorem du.AF(h:du w n c g y s)(ht:rM w w' n y T){k b d:Nat}{x:eH}(hb:y.gH[k]?=some b)(hd:d∈y.fU b)(hx:wN w n y d x)(hn:¬ T (.node d)):wN w' n y d x:=by
 obtain ⟨G,hm,hq,hT⟩:=ht.ex;have hmem:=aC hb;refine fh.mod hx hm hq (fun z hz e=>hn ?_);have ho:=h.own.node b hmem d hd z hz;have:=(hT z (h.own.lt z (by rw [ho];simp)).2 e).1
 rwa [ho] at this
theorem du.qC(h:du w n c g y s)(ht:rM w w' n y T){k b:Nat}{l:ik}(hb:y.gH[k]?=some b)(hl:s.lines[k]?=some l)(hn:¬ T (.line b))(hnn:∀ d∈y.fU b,¬ T (.node d)):yQ w' n y b l:=by
 obtain ⟨G,hm,hq,hT⟩:=ht.ex;have hmem:=aC hb;have ho:=h.own.line b hmem;have hL:=h.line k b l hb hl;refine ⟨hL.blk.mod hm (fun e=>hn ?_),gD hL.row hm (fun z _ _ hz e=>hn ?_),hL.len,fun j d x hd hx=>h.AF ht hb (aC hd) (hL.node j d x hd hx) (hnn d (aC hd))⟩
 ·have:=(hT b (h.own.lt b (by rw [ho.1];simp)).2 e).1
  rwa [ho.1] at this
 ·have hk2:=ho.2 z hz;have:=(hT z (h.own.lt z (by rw [hk2];simp)).2 e).1
  rwa [hk2] at this
theorem du.vC(h:du w n c g y s)(ht:rM w w' n y T){k b:Nat}{l:ik}(hb:y.gH[k]?=some b)(hl:s.lines[k]?=some l)(hn:¬ T (.line b)):dh w' b [y.qz b,.int .i64 l.heard] 120/\w'.ownsRow n 91 1 (y.qz b) (y.fU b).length ((y.fU b).map iz):=by
 obtain ⟨G,hm,hq,hT⟩:=ht.ex;have hmem:=aC hb;have ho:=h.own.line b hmem;have hL:=h.line k b l hb hl;refine ⟨hL.blk.mod hm (fun e=>hn ?_),gD hL.row hm (fun z _ _ hz e=>hn ?_)⟩
 ·have:=(hT b (h.own.lt b (by rw [ho.1];simp)).2 e).1
  rwa [ho.1] at this
 ·have hk2:=ho.2 z hz;have:=(hT z (h.own.lt z (by rw [hk2];simp)).2 e).1
  rwa [hk2] at this
end
theorem zWw{y:dX}:∀ {ls:List Nat},(ls.flatMap y.fU).Nodup->∀ {b b' d:Nat},b∈ls->b'∈ls->d∈y.fU b->d∈y.fU b'->b=b':=by
 intro ls
 induction ls with
 | nil=>intro _ b b' d hb;simp at hb
 | cons a ls ih=>
  intro hnd b b' d hb hb' hd hd';rw [bD,cD] at hnd;obtain ⟨_,h2,h3⟩:=hnd;rcases bA.1 hb with e | e <;> rcases bA.1 hb' with e' | e'
  ·rw [e,e']
  ·subst e;exact absurd rfl (h3 d hd d (cP.2 ⟨b',e',hd'⟩))
  ·subst e';exact absurd rfl (h3 d hd' d (cP.2 ⟨b,e,hd⟩))
  ·exact ih h2 e e' hd hd'
theorem yBi{y:dX}:∀ {ls:List Nat},(ls.flatMap y.fU).Nodup->∀ {b:Nat},b∈ls->(y.fU b).Nodup:=by
 intro ls
 induction ls with
 | nil=>intro _ b hb;simp at hb
 | cons a ls ih=>
  intro hnd b hb;rw [bD,cD] at hnd;rcases bA.1 hb with e | e
  ·subst e;exact hnd.1
  ·exact ih hnd.2.1 e
theorem FI{α:Type}{l:List α}(h:l.Nodup){i j:Nat}{x:α}(hi:l[i]?=some x)(hj:l[j]?=some x):i=j:=by
 obtain ⟨h1,h2⟩:=aB.1 hi;obtain ⟨h3,h4⟩:=aB.1 hj;rcases cB i j with q | q | q
 ·exact absurd (h2.trans h4.symm) (bL.1 h i j h1 h3 q)
 ·exact q
 ·exact absurd (h4.trans h2.symm) (bL.1 h j i h3 h1 q)
open Classical in
noncomputable def dX.lG(y:dX)(w:World)(d:Nat)(nv lv:Value):dX:=
 { y with kI:=fun x=>if x=d then nv else y.kI x,kJ:=fun x=>if x=d then lv else y.kJ x,own:=fun x=>if w.heap.size<=x/\gx d nv lv x then .node d else y.own x }
theorem QN(y:dX)(w:World)(d:Nat)(nv lv:Value):(y.lG w d nv lv).kI d=nv/\(y.lG w d nv lv).kJ d=lv:=by simp [dX.lG]
theorem QE(y:dX)(w:World){d x:Nat}(nv lv:Value)(h:x≠d):(y.lG w d nv lv).kI x=y.kI x/\(y.lG w d nv lv).kJ x=y.kJ x:=by simp [dX.lG,h]
theorem TL(y:dX)(w:World)(d:Nat)(nv lv:Value){x:Nat}(h:x<w.heap.size):(y.lG w d nv lv).own x=y.own x:=by
 simp only [dX.lG];rw [aE (fun e=>by omega)]
theorem pX{α:Type}(l:List α)(j:Nat)(x:α)(i:Nat):(l.set j x)[i]?=if i=j/\i<l.length then some x else l[i]?:=by
 rw [bw];by_cases h:j=i
 ·subst h;by_cases h2:j<l.length
  ·simp [h2]
  ·simp [h2]
 ·rw [aE h,aE (fun e=>h e.1.symm)]
theorem du.jZ{w w':World}{n c g:Nat}{y:dX}{s:dW}(h:du w n c g y s){k b j d:Nat}(hk:k<s.lines.length)(hb:y.gH[k]?=some b)(hd:(y.fU b)[j]?=some d){nv lv:Value}{x:eH}
  (hm:Mod (gx d (y.kI d) (y.kJ d)) w w') (hN:fh w' (y.lo n) d nv lv x) (h1:iC w (y.kI d) nv) (h2:iC w (y.kJ d) lv) :
  du w' n c g (y.lG w d nv lv) (je s k j x)/\iD w y w' (y.lG w d nv lv):=by
 have kV:=aC hb;have xP:=aC hd;have hL:=h.line k b _ hb (mL hk);have hj:j<(s.line k).nodes.length:=by have:=(aB.1 hd).1;have:=hL.len;omega
 have hold:=hL.node j d _ hd (aA hj);have uh:∀ z,gx d nv lv z->z<w.heap.size->gx d (y.kI d) (y.kJ d) z:=fun z hz hlt=>by
  rcases hz with e | e | e
  ·exact .inl e
  ·rcases h1 with q | q
   ·exact .inr (.inl (by rw [<-q];exact e))
   ·have:=q z e;omega
  ·rcases h2 with q | q
   ·exact .inr (.inr (by rw [<-q];exact e))
   ·have:=q z e;omega
 have ht:rM w w' n y (fun t=>t=.node d):=⟨⟨_,hm,fh.qm hold,fun z hz e=>by
  have:=h.own.node b kV d xP z e;exact ⟨this,by rw [this];simp⟩⟩⟩
 have NF:∀ z,gx d nv lv z->(y.lG w d nv lv).own z=.node d:=fun z hz=>by
  by_cases hlt:z<w.heap.size
  ·rw [TL _ _ _ _ _ hlt];exact h.own.node b kV d xP z (uh z hz hlt)
  ·simp only [dX.lG];rw [aJ ⟨by omega,hz⟩]
 have dv:∀ z,y.own z≠.no->(y.lG w d nv lv).own z=y.own z:=fun z hz=>TL _ _ _ _ _ (h.own.lt z hz).2;have ui:∀ (i:Nat) l,(je s k j x).lines[i]?=some l->(i=k/\l=⟨(s.line k).nodes.set j x,(s.line k).heard⟩)\/(i≠k/\s.lines[i]?=some l):=fun i l hl=>by
  have hl':(s.lines.set k ⟨(s.line k).nodes.set j x,(s.line k).heard⟩)[i]?=some l:=hl;rw [pX] at hl';by_cases e:i=k
  ·rw [aJ ⟨e,by omega⟩] at hl';exact .inl ⟨e,(ax hl').symm⟩
  ·rw [aE (fun q=>e q.1)] at hl';exact .inr ⟨e,hl'⟩
 have oP:∀ (b':Nat),b'∈y.gH->∀ {j' d':Nat} {x':eH} {k':Nat},y.gH[k']?=some b'->(y.fU b')[j']?=some d'->d'≠d->wN w n y d' x'->wN w' n (y.lG w d nv lv) d' x':=fun b' hb' j' d' x' k' hk' hd' hne hx'=>by
  have:=h.AF ht hk' (aC hd') hx' (fun e=>hne (by simpa using e));unfold wN at this ⊢;rw [(QE y w nv lv hne).1,(QE y w nv lv hne).2];exact this
 refine ⟨⟨h.tC ht (by simp),h.vB ht (by simp),h.oW ht (by simp),h.tB ht (by simp),h.qn,h.oV ht (by simp),?_,fun i b' l hb' hl=>?_,h.oU ht (by simp),h.kM,fun i b' t hb' hti=>(have q:=h.DG ht hb' hti (by simp);⟨q.blk,q.ats,q.wr⟩),?_⟩,?_⟩
 ·show y.gH.length=(s.lines.set k _).length;rw [aa];exact h.iN
 ·have sq:y.gH[i]?=some b':=hb';rcases ui i l hl with ⟨rfl,rfl⟩ | ⟨hne,hl2⟩
  ·rw [hb] at sq;cases sq
   obtain ⟨q1,q2⟩:=h.vC ht hb (mL hk) (by simp);refine ⟨q1,q2,by show (y.fU b).length=((s.line i).nodes.set j x).length;rw [aa];exact hL.len,fun j' d' x' hd' hx'=>?_⟩;have hd2:(y.fU b)[j']?=some d':=hd';have hx2:((s.line i).nodes.set j x)[j']?=some x':=hx';rw [pX] at hx2;by_cases e:j'=j
   ·subst e;rw [aJ ⟨rfl,hj⟩] at hx2;cases hx2
    rw [hd] at hd2;cases hd2
    show fh w' (y.lo n) d _ _ x;rw [(QN y w d nv lv).1,(QN y w d nv lv).2];exact hN
   ·rw [aE (fun q=>e q.1)] at hx2;refine oP b kV hb hd2 (fun q=>e ?_) (hL.node j' d' x' hd2 hx2);subst q;exact FI (yBi h.own.yE kV) hd2 hd
  ·have hL2:=h.line i b' l sq hl2;obtain ⟨q1,q2⟩:=h.vC ht sq hl2 (by simp);refine ⟨q1,q2,hL2.len,fun j' d' x' hd' hx'=>?_⟩;refine oP b' (aC sq) sq hd' (fun q=>?_) (hL2.node j' d' x' hd' hx');subst q;have hbb:=zWw h.own.yE (aC sq) kV (aC hd') xP;subst hbb;exact hne (FI h.own.BC sq hb)
 ·have own:=h.own;refine ⟨by rw [dv _ (by rw [own.main];simp)];exact own.main,fun z hz=>?_,fun z hz=>?_,fun z hz=>?_,?_,fun z hz=>?_,fun b' hb'=>⟨?_,fun z hz=>?_⟩,fun b' hb' d' hd' z hz=>?_,fun b' hb'=>⟨?_,fun z hz=>?_⟩,fun z hz=>?_,own.BC,own.Dy,own.yE⟩
  ·rw [dv z (by rw [own.fm z hz];simp)];exact own.fm z hz
  ·rw [dv z (by rw [own.gR z hz];simp)];exact own.gR z hz
  ·rw [dv z (by rw [own.net z hz];simp)];exact own.net z hz
  ·rw [show (y.lG w d nv lv).dr=y.dr from rfl,dv _ (by rw [own.dead];simp)];exact own.dead
  ·rw [dv z (by rw [own.tab z hz];simp)];exact own.tab z hz
  ·rw [dv b' (by rw [(own.line b' hb').1];simp)];exact (own.line b' hb').1
  ·rw [dv z (by rw [(own.line b' hb').2 z hz];simp)];exact (own.line b' hb').2 z hz
  ·by_cases e:d'=d
   ·subst e;rw [(QN y w d' nv lv).1,(QN y w d' nv lv).2] at hz;exact NF z hz
   ·rw [(QE y w nv lv e).1,(QE y w nv lv e).2] at hz;have:=own.node b' hb' d' hd' z hz;rw [dv z (by rw [this];simp)];exact this
  ·rw [dv b' (by rw [(own.tx b' hb').1];simp)];exact (own.tx b' hb').1
  ·rw [dv z (by rw [(own.tx b' hb').2 z hz];simp)];exact (own.tx b' hb').2 z hz
  ·by_cases e:w.heap.size<=z/\gx d nv lv z
   ·obtain ⟨q1,q2,_⟩:=hN.lt e.2;exact ⟨q1,q2⟩
   ·have hz':y.own z≠.no:=by
     simp only [dX.lG] at hz;rw [aE e] at hz;exact hz
    have:=own.lt z hz';exact ⟨this.1,aG this.2 hm.size⟩
 ·exact ⟨hm.mono (fun z hz e=>by rw [h.own.node b kV d xP z e];simp),fun z hz=>TL _ _ _ _ _ hz⟩
end Go.Proofs.YtmaiggbnceejiaaGreatDoor
