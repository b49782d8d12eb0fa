import Derived.Test.YtogaigioeohjaaaGreatDoorD25
import Derived.StillTailTactics
import Derived.Test.YtogaigioeohjaaaGreatDoorD32
set_option linter.unusedVariables false
set_option maxRecDepth 100000
set_option maxHeartbeats 16000000
namespace Go.Proofs.YtogaigioeohjaaaGreatDoor
open Go.RowKit Go.Lib Go.Maps
theorem zWv(n c g q q2:Nat)(y:HLay)(s:zAa)(k:Nat)(d:zAz)(w:World)(h:zAe w n c g y s)(hs:zGd s)(hd:d.key.size<=1000000)(hq:w.cell? ⟨q,0,none⟩=some (.pointer (some ⟨g,0,none⟩)))(hq2:w.cell? ⟨q2,0,none⟩=some (.int .i64 k)) :
  Calls Tryz.prog 241 (#[.agg #[.string d.key,.string d.val,.bool d.gone]]++#[.pointer (some ⟨q,0,none⟩),.pointer (some ⟨q2,0,none⟩)]) w fun e w'=>e=.returned (.bool (!decide (zAv s d.key=k)))/\Mod zAb w w':=by
 obtain ⟨w1,hw1⟩:∃ x,x=w.alloc (.cells #[.string d.key,.string d.val,.bool d.gone] 65):=⟨_,rfl⟩
 have hm1:Mod zAb w w1:=by rw [hw1];exact (Mod.refl _ w).alloc _
 have hb1:Blk w1 w.heap.size [.string d.key,.string d.val,.bool d.gone] 65:=by rw [hw1];exact Blk.new w _ _
 have x0:=hb1.cell 0 rfl
 have p1:=hm1.cell hq id
 have p2:=hm1.cell hq2 id
 have hm2:Mod zAb w w1.drew:=hm1.drewN 1
 have HSH:=Hmq (zNt n c g y s d.key w1.drew (h.quiet hm2) hs hd)
 have HM:=Hmq hm2
 clear h hb1 hq hq2 hm2
 go_enter Tryz.func241,Tryz.ntmps241
 go_upto_region 1 with fail
 rw [<-hw1]
 clear hw1 hm1
 refine wp_region_still_tail 6 (by kernel_rfl) (by kernel_rfl) ?_
 simp only [List.take_succ_cons,List.take_zero,List.drop_succ_cons,List.drop_zero]
 repeat still_step
 still_call HSH.out
 repeat still_step
 refine wpStill_nil ?_
 go_wp2_with fail
 go_ret
 refine ⟨?_,HM.out⟩
 congr 2
 by_cases e:zAv s d.key=k
 ·rw [decide_eq_true e,e];simp
 ·rw [decide_eq_false e]
  have:((zAv s d.key:Nat):Int)≠(k:Int):=by omega
  simpa using this
theorem yDs(s:zAa)(t:TxS)(k:Nat):zCu (fun d=>!decide (zAv s d.key=k)) t.writes=zDu s t k:=by
 unfold zCu zDu
 congr 1
 funext d
 simp
theorem yNs(d:zAz):∀ u∈zDs d,u.oneCell'=true:=fun u hu=>by
 simp only [zDs,List.mem_cons,List.not_mem_nil,or_false] at hu
 rcases hu with rfl | rfl | rfl <;> rfl
theorem zYv(n c g:Nat)(y:HLay)(s:zAa)(b k:Nat)(t:TxS)(w:World)(h:zAe w n c g y s)(hs:zGd s)(hT:TxP w n y b t)(hl:t.writes.length<=20)(hk:∀ p∈t.writes,p.key.size<=20) :
  Calls Tryz.prog 196 #[.pointer (some ⟨g,0,none⟩),.pointer (some ⟨b,0,none⟩),.int .i64 k] w fun e w'=>∃ v,e=.returned v/\w'.ownsRow w.heap.size 65 3 v (zDu s t k).length (zBp (zDu s t k))/\Mod zAb w w':=by
 obtain ⟨w1,hw1⟩:∃ x,x=(w.alloc (.cells #[.pointer (some ⟨g,0,none⟩)] 42)).alloc (.cells #[.int .i64 k] 3):=⟨_,rfl⟩
 have hm1:Mod zAb w w1:=by rw [hw1];exact ((Mod.refl _ w).alloc _).alloc _
 have hz1:w1.heap.size=w.heap.size+1+1:=by rw [hw1];simp
 have hb0:Blk w1 w.heap.size [.pointer (some ⟨g,0,none⟩)] 42:=by rw [hw1];exact (Blk.new w _ _).mod ((Mod.refl zAb _).alloc _) id
 have hb1:Blk w1 (w.heap.size+1) [.int .i64 k] 3:=by
  rw [hw1]
  have:=Blk.new (w.alloc (.cells #[.pointer (some ⟨g,0,none⟩)] 42)) [.int .i64 (k:Int)] 3
  simpa using this
 have h1:=h.quiet hm1
 have hT1:=hT.mod hm1 id (fun _ _=>id)
 have t2:=hT1.blk.cell 2 rfl
 have hrow:=hT1.wr
 have hen:Calls Tryz.prog 243 #[y.twv b] w1 fun e w'=>∃ v,e=.returned v/\w'.ownsRow w1.heap.size 65 3 v t.writes.length (zBp t.writes)/\Mod zAb w1 w':=by
  rcases hrow.2 with ⟨e,h0⟩ | ⟨g',cap',cur,e,q1,q2,q3,q4,q5,q6⟩
  ·rw [e]
   refine (yEl w1).mono ?_
   rintro e2 w2 ⟨rfl,rfl⟩
   have hnil:t.writes=[]:=List.eq_nil_of_length_eq_zero h0
   exact ⟨_,rfl,by rw [hnil];exact World.ownsRow_nil _ _ _ _,Mod.refl _ _⟩
  ·rw [e] at hrow ⊢
   have hcl:=hrow.cells (g:=g') rfl
   refine (yEm ⟨g',0,none⟩ t.writes.length cap' t.writes w1 rfl hcl (by omega) (fun d _=>yNs d)).mono ?_
   rintro e2 w2 ⟨g2,cap2,rfl,hr2,hm2⟩
   exact ⟨_,rfl,hr2,hm2⟩
 obtain ⟨wa,wc,hwv⟩:=zAg hT1.wr
 rw [hwv] at t2 hen
 have HCL:=Hmq hen
 have hmf:∀ fn first cap w,(Instr.makeFunc fn first cap).run Tryz.prog w=.ok (.func fn first cap) w:=fun _ _ _ _=>rfl
 have HH:=Hmq h1
 have HB0:=Hmq hb0
 have HB1:=Hmq hb1
 have HM1:=Hmq hm1
 have HZ1:=Hmq hz1
 clear h h1 hT hT1 hrow hwv hb0 hb1 hm1 hz1 hen
 go_enter Tryz.func196,Tryz.ntmps196
 go_upto_region 1 with fail
 rw [<-hw1]
 clear hw1
 go_wp2_with fail
 refine HCL.out.mono ?_
 rintro e w2 ⟨v2,rfl,hrow2,hm2⟩
 have HA:AskG 241 #[.pointer (some ⟨w.heap.size,0,none⟩),.pointer (some ⟨w.heap.size+1,0,none⟩)] (fun (d:zAz)=>.agg #[.string d.key,.string d.val,.bool d.gone]) t.writes (fun d=>!decide (zAv s d.key=k)) (fun wr=>zAe wr n c g y s/\wr.cell? ⟨w.heap.size,0,none⟩=some (.pointer (some ⟨g,0,none⟩))/\wr.cell? ⟨w.heap.size+1,0,none⟩=some (.int .i64 k)):=
  ⟨zJz Tryz.func241 (by kernel_rfl) rfl,fun wa wb hh hm=>⟨hh.1.quiet hm,hm.cell hh.2.1 id,hm.cell hh.2.2 id⟩,fun d hd wr hh=>zWv n c g _ _ y s k d wr hh.1 hs (Nat.le_trans (hk d hd) (by omega)) hh.2.1 hh.2.2⟩
 have hh2:=HH.out.quiet hm2
 have HDL:=Hmq (yBv 241 w1.heap.size #[.pointer (some ⟨w.heap.size,0,none⟩),.pointer (some ⟨w.heap.size+1,0,none⟩)] (fun d=>!decide (zAv s d.key=k)) v2 t.writes w2 _ hrow2 HA ⟨hh2,hm2.cell (HB0.out.cell 0 rfl) id,hm2.cell (HB1.out.cell 0 rfl) id⟩ (fun x hx w' hm'=>by
  have hx1:w1.heap.size<=x:=(zAi hrow2 hx).1
  have hml:Mod zAb w1 w':=hm2.trans' hm' (fun i hi e=>by simp only [zAd] at e;omega)
  exact ⟨HH.out.quiet hml,hml.cell (HB0.out.cell 0 rfl) id,hml.cell (HB1.out.cell 0 rfl) id⟩) (by omega))
 rw [yDs] at HDL
 obtain ⟨va2,vc2,hv2⟩:=zAg hrow2
 subst hv2
 have HR:=Hmq hrow2
 have HM2:=Hmq hm2
 clear hrow2 hh2 HA hm2 HCL
 go_wp2_with fail
 refine HDL.out.mono ?_
 rintro e w3 ⟨v3,rfl,hrow3,hv3,hm3⟩
 obtain ⟨va3,vc3,hv3'⟩:=zAg hrow3
 subst hv3'
 have HR3:=Hmq hrow3
 have hm13:Mod zAb w1 w3:=HM2.out.trans' hm3 (fun i hi e=>by have:=(zAi HR.out e).1;omega)
 have HM3:=Hmq (HM1.out.trans hm13)
 have HZ:=Hmq HM1.out.size
 clear hrow3 hm3 hm13 HDL
 go_wp2_with fail
 go_ret
 exact ⟨_,rfl,zEk HR3.out HZ.out,HM3.out⟩
def DueP(w w':World)(r:Option CmdD)(e:Ending):Prop:=∃ (d:CmdD) (u:Value) (ok:Bool),e=.returned (.tuple #[.agg #[.int .i64 d.kind,.int .i64 d.tx,.int .i64 d.time,u],.bool ok])/\w'.ownsRow w.heap.size 65 3 u d.writes.length (zBp d.writes)/\r=(if ok then some d else none)/\Mod zAb w w'
theorem zLo{w w2:World}{a0 a1 a2 a3:Value}(hm:Mod zAb w w2)(hB:Blk w2 w.heap.size [a0,a1,a2,a3] 108)(d:CmdD)(u:Value)(hu:w2.ownsRow w.heap.size 65 3 u d.writes.length (zBp d.writes)) :
  (put4 w2 w.heap.size (.int .i64 d.kind) (.int .i64 d.tx) (.int .i64 d.time) u).ownsRow w.heap.size 65 3 u d.writes.length (zBp d.writes)/\Mod zAb w (put4 w2 w.heap.size (.int .i64 d.kind) (.int .i64 d.tx) (.int .i64 d.time) u):=by
 have h1:=zSa w2 w.heap.size (.int .i64 d.kind) (.int .i64 d.tx) (.int .i64 d.time) u
 refine ⟨zAn hu h1 (fun k _ _ e q=>?_),hm.trans' h1 (fun i hi e=>by simp only [zAd] at e;omega)⟩
 simp only [zAd] at q
 subst q
 exact zBf hu hB (by decide) e
theorem yGj{w:World}{n b:Nat}{y:HLay}{t:TxS}(h:TxP w n y b t){k:Nat}(hk:k<t.ats.length):∃ ab cap,y.tav b=.slice (some ⟨ab,0,none⟩) t.ats.length cap/\w.cell? ⟨ab,k,none⟩=some (.int .i64 (t.ats.getD k 0)):=by
 rcases h.ats.2 with ⟨e,h0⟩ | ⟨g',cap',cur,e,_⟩
 ·omega
 ·have hr:=h.ats
  rw [e] at hr
  have hc:=hr.cells (g:=g') rfl k (.int .i64 (t.ats.getD k 0)) (by rw [List.getElem?_map,List.getElem?_eq_getElem hk,List.getD_eq_getElem?_getD,List.getElem?_eq_getElem hk];rfl)
  refine ⟨g',cap',e,?_⟩
  have e2:(⟨g',0,none⟩:Addr).add k=⟨g',k,none⟩:=by cases k <;> simp [Addr.add]
  rw [<-e2];exact hc
theorem yTl(n c g:Nat)(y:HLay)(s:zAa)(id k:Nat)(time:Int)(w:World)(h:zAe w n c g y s)(hs:zGd s)(h1:1<=id)(h2:id<=s.txs.length)(hk:k<s.lines.length)(hw:∀ p∈(s.tx id).writes,p.key.size<=20) :
  Calls Tryz.prog 144 #[.pointer (some ⟨g,0,none⟩),.int .i64 id,.int .i64 k,.int .i64 time] w fun e w'=>DueP w w' (dueH s id k time) e:=by
 obtain ⟨w0,hw0⟩:∃ x,x=w.alloc (.cells #[.int .i64 0,.int .i64 0,.int .i64 0,.slice none 0 0] 108):=⟨_,rfl⟩
 have hm0:Mod zAb w w0:=by rw [hw0];exact (Mod.refl _ w).alloc _
 have hB0:Blk w0 w.heap.size [.int .i64 0,.int .i64 0,.int .i64 0,.slice none 0 0] 108:=by rw [hw0];exact Blk.new w _ _
 have hz0:=hm0.size
 have h0:=h.quiet hm0
 have hll:=hs.ll
 have htl:=hs.tl
 obtain ⟨b,hb,hT⟩:=h0.txQ h1 h2
 have hta:=hs.ta _ (zNm h1 h2)
 have htw:=hs.tw _ (zNm h1 h2)
 have HTX:=Hmq (zHy n c g y s id b w0 h0 h1 (by omega) hb)
 have HDE:=Hmq (zKk n c g y s w0 h0 (by omega) (by omega))
 have HRD:=Hmq (yLd n b y (s.tx id) w0 hT)
 have HWA:=Hmq (zYv n c g y s b k (s.tx id) w0 h0 hs hT htw hw)
 obtain ⟨ab,acap,hav,hac⟩:=yGj hT (k:=k) (by rw [hta];exact hk)
 have t0:=hT.blk.cell 0 rfl
 have t1:=hT.blk.cell 1 rfl
 have t3:=hT.blk.cell 3 rfl
 rw [hav,hta] at t1
 obtain ⟨x,hx⟩:∃ x,x=(s.tx id).ats.getD k 0:=⟨_,rfl⟩
 rw [<-hx] at hac
 obtain ⟨⟨p0,p1,p2,p3⟩,⟨f0,f1,f2,f3⟩⟩:(w0.cell? ⟨w.heap.size,0,none⟩=some (.int .i64 0)/\w0.cell? ⟨w.heap.size,1,none⟩=some (.int .i64 0)/\w0.cell? ⟨w.heap.size,2,none⟩=some (.int .i64 0)/\w0.cell? ⟨w.heap.size,3,none⟩=some (.slice none 0 0))/\(w0.frozen? ⟨w.heap.size,0,none⟩=false/\w0.frozen? ⟨w.heap.size,1,none⟩=false/\w0.frozen? ⟨w.heap.size,2,none⟩=false/\w0.frozen? ⟨w.heap.size,3,none⟩=false):=by
  obtain ⟨x0,x1,x2,x3,y0,y1,y2,y3⟩:=blk4 hB0
  exact ⟨⟨x0,x1,x2,x3⟩,⟨y0,y1,y2,y3⟩⟩
 have hkI:(k:Int)<(s.lines.length:Int):=by omega
 have hk0:(0:Int)<=(k:Int):=by omega
 have HB0:=Hmq hB0
 have HM0:=Hmq hm0
 have nilR:∀ w':World,w'.ownsRow w.heap.size 65 3 (.slice none 0 0) 0 (zBp []):=fun w'=>World.ownsRow_nil _ _ _ _
 have HNR:=Hmq nilR
 clear h h0 hT hb hB0 hm0 hav nilR hta htw
 by_cases hkd:k=decH s
 ·have hkdb:((k:Int) == ((decH s:Nat):Int))=true:=by
   have:(k:Int)=((decH s:Nat):Int):=by omega
   simpa using this
  by_cases hst:(s.tx id).state=2
  ·have hsb:((s.tx id).state == 2)=true:=by simpa using hst
   cases hr:zIx (s.tx id) with
   | true=>
    have HR:Hid (dueH s id k time=some ⟨3,id,time,[]⟩):=by unfold Hid dueH;simp only;rw [if_pos hkd,if_pos ⟨hst,hr⟩]
    rw [hr] at HRD
    clear hkd hst hr
    go_enter Tryz.func144,Tryz.ntmps144
    go_upto_region 1 with fail
    rw [<-hw0]
    clear hw0
    go_wp2_with (first
     | (go_at_call 72;refine HTX.out.mono ?_;rintro e w2 ⟨rfl,rfl⟩)
     | (go_at_call 98;refine HDE.out.mono ?_;rintro e w2 ⟨rfl,rfl⟩)
     | (go_at_call 195;refine HRD.out.mono ?_;rintro e w2 ⟨rfl,rfl⟩)
     | fail)
    obtain ⟨q1,q2⟩:=zLo HM0.out HB0.out ⟨3,id,time,[]⟩ (.slice none 0 0) (HNR.out _)
    refine bodyPost_ret (zDb Tryz.results144 _ ⟨w.heap.size,0,none⟩ rfl rfl (zId HB0.out _ _ _ _)) rfl ⟨⟨3,id,time,[]⟩,.slice none 0 0,true,rfl,q1,HR.out,q2⟩
   | false=>
    have HR:Hid (dueH s id k time=none):=by unfold Hid dueH;simp only;rw [if_pos hkd,if_neg (fun q=>by rw [hr] at q;cases q.2)]
    rw [hr] at HRD
    clear hkd hst hr
    go_enter Tryz.func144,Tryz.ntmps144
    go_upto_region 1 with fail
    rw [<-hw0]
    clear hw0
    go_wp2_with (first
     | (go_at_call 72;refine HTX.out.mono ?_;rintro e w2 ⟨rfl,rfl⟩)
     | (go_at_call 98;refine HDE.out.mono ?_;rintro e w2 ⟨rfl,rfl⟩)
     | (go_at_call 195;refine HRD.out.mono ?_;rintro e w2 ⟨rfl,rfl⟩)
     | fail)
    obtain ⟨q1,q2⟩:=zLo HM0.out HB0.out ⟨3,id,time,[]⟩ (.slice none 0 0) (HNR.out _)
    refine bodyPost_ret (zDb Tryz.results144 _ ⟨w.heap.size,0,none⟩ rfl rfl (zId HB0.out _ _ _ _)) rfl ⟨⟨3,id,time,[]⟩,.slice none 0 0,false,rfl,q1,HR.out,q2⟩
  ·have hsb:((s.tx id).state == 2)=false:=by simpa using hst
   have HR:Hid (dueH s id k time=none):=by unfold Hid dueH;simp only;rw [if_pos hkd,if_neg (fun q=>hst q.1)]
   clear hkd hst
   go_enter Tryz.func144,Tryz.ntmps144
   go_upto_region 1 with fail
   rw [<-hw0]
   clear hw0
   go_wp2_with (first
    | (go_at_call 72;refine HTX.out.mono ?_;rintro e w2 ⟨rfl,rfl⟩)
    | (go_at_call 98;refine HDE.out.mono ?_;rintro e w2 ⟨rfl,rfl⟩)
    | (go_at_call 195;refine HRD.out.mono ?_;rintro e w2 ⟨rfl,rfl⟩)
    | fail)
   obtain ⟨q1,q2⟩:=zLo HM0.out HB0.out ⟨3,id,time,[]⟩ (.slice none 0 0) (HNR.out _)
   refine bodyPost_ret (zDb Tryz.results144 _ ⟨w.heap.size,0,none⟩ rfl rfl (zId HB0.out _ _ _ _)) rfl ⟨⟨3,id,time,[]⟩,.slice none 0 0,false,rfl,q1,HR.out,q2⟩
 ·have hkdb:((k:Int) == ((decH s:Nat):Int))=false:=by
   have:(k:Int)≠((decH s:Nat):Int):=by omega
   simpa using this
  by_cases ha:x=0
  ·have HR:Hid (dueH s id k time=none):=by unfold Hid dueH;simp only;rw [if_neg hkd,if_pos (by rw [<-hx];exact ha)]
   have hab:(x == 0)=true:=by simpa using ha
   clear ha hkd hx
   go_enter Tryz.func144,Tryz.ntmps144
   go_upto_region 1 with fail
   rw [<-hw0]
   clear hw0
   go_wp2_with (first
    | (go_at_call 72;refine HTX.out.mono ?_;rintro e w2 ⟨rfl,rfl⟩)
    | (go_at_call 98;refine HDE.out.mono ?_;rintro e w2 ⟨rfl,rfl⟩)
    | (go_at_call 195;refine HRD.out.mono ?_;rintro e w2 ⟨rfl,rfl⟩)
    | fail)
   obtain ⟨q1,q2⟩:=zLo HM0.out HB0.out zHu (.slice none 0 0) (HNR.out _)
   refine bodyPost_ret (zDb Tryz.results144 _ ⟨w.heap.size,0,none⟩ rfl rfl (zId HB0.out _ _ _ _)) rfl ⟨zHu,.slice none 0 0,false,rfl,q1,HR.out,q2⟩
  ·have hab:(x == 0)=false:=by simpa using ha
   have ha':¬ ((s.tx id).ats.getD k 0=0):=by rw [<-hx];exact ha
   by_cases s2:(s.tx id).state=2
   ·have HR:Hid (dueH s id k time=some ⟨2,id,0,zDu s (s.tx id) k⟩):=by unfold Hid dueH;simp only;rw [if_neg hkd,if_neg ha',if_pos s2]
    have hsb:((s.tx id).state == 2)=true:=by simpa using s2
    clear ha hkd hx ha' s2
    go_enter Tryz.func144,Tryz.ntmps144
    go_upto_region 1 with fail
    rw [<-hw0]
    clear hw0
    go_wp2_with (first
     | (go_at_call 72;refine HTX.out.mono ?_;rintro e w2 ⟨rfl,rfl⟩)
     | (go_at_call 98;refine HDE.out.mono ?_;rintro e w2 ⟨rfl,rfl⟩)
     | (go_at_call 195;refine HRD.out.mono ?_;rintro e w2 ⟨rfl,rfl⟩)
     | fail)
    refine HWA.out.mono ?_
    rintro e w3 ⟨v,rfl,hrow,hm3⟩
    obtain ⟨va,vc,hv⟩:=zAg hrow
    subst hv
    have hB3:=HB0.out.mod hm3 (fun e=>e)
    obtain ⟨x0,x1,x2,x3,y0,y1,y2,y3⟩:=blk4 hB3
    have HRW:=Hmq (zEk hrow hz0)
    have HM3:=Hmq (HM0.out.trans hm3)
    have HB3:=Hmq hB3
    clear hrow hm3 hB3
    go_wp2_with fail
    obtain ⟨q1,q2⟩:=zLo HM3.out HB3.out ⟨2,id,0,zDu s (s.tx id) k⟩ _ HRW.out
    refine bodyPost_ret (zDb Tryz.results144 _ ⟨w.heap.size,0,none⟩ rfl rfl (zId HB3.out _ _ _ _)) rfl ⟨⟨2,id,0,zDu s (s.tx id) k⟩,_,true,rfl,q1,HR.out,q2⟩
   ·have hs2:((s.tx id).state == 2)=false:=by simpa using s2
    by_cases s3:(s.tx id).state=3
    ·have HR:Hid (dueH s id k time=some ⟨3,id,(s.tx id).time,[]⟩):=by unfold Hid dueH;simp only;rw [if_neg hkd,if_neg ha',if_neg s2,if_pos s3]
     have hs3:((s.tx id).state == 3)=true:=by simpa using s3
     clear ha hkd hx ha' s2 s3
     go_enter Tryz.func144,Tryz.ntmps144
     go_upto_region 1 with fail
     rw [<-hw0]
     clear hw0
     go_wp2_with (first
      | (go_at_call 72;refine HTX.out.mono ?_;rintro e w2 ⟨rfl,rfl⟩)
      | (go_at_call 98;refine HDE.out.mono ?_;rintro e w2 ⟨rfl,rfl⟩)
      | (go_at_call 195;refine HRD.out.mono ?_;rintro e w2 ⟨rfl,rfl⟩)
      | fail)
     obtain ⟨q1,q2⟩:=zLo HM0.out HB0.out ⟨3,id,(s.tx id).time,[]⟩ (.slice none 0 0) (HNR.out _)
     refine bodyPost_ret (zDb Tryz.results144 _ ⟨w.heap.size,0,none⟩ rfl rfl (zId HB0.out _ _ _ _)) rfl ⟨⟨3,id,(s.tx id).time,[]⟩,.slice none 0 0,true,rfl,q1,HR.out,q2⟩
    ·have hs3:((s.tx id).state == 3)=false:=by simpa using s3
     by_cases s4:(s.tx id).state=4
     ·have HR:Hid (dueH s id k time=some ⟨4,id,0,[]⟩):=by unfold Hid dueH;simp only;rw [if_neg hkd,if_neg ha',if_neg s2,if_neg s3,if_pos s4]
      have hs4:((s.tx id).state == 4)=true:=by simpa using s4
      clear ha hkd hx ha' s2 s3 s4
      go_enter Tryz.func144,Tryz.ntmps144
      go_upto_region 1 with fail
      rw [<-hw0]
      clear hw0
      go_wp2_with (first
       | (go_at_call 72;refine HTX.out.mono ?_;rintro e w2 ⟨rfl,rfl⟩)
       | (go_at_call 98;refine HDE.out.mono ?_;rintro e w2 ⟨rfl,rfl⟩)
       | (go_at_call 195;refine HRD.out.mono ?_;rintro e w2 ⟨rfl,rfl⟩)
       | fail)
      obtain ⟨q1,q2⟩:=zLo HM0.out HB0.out ⟨4,id,0,[]⟩ (.slice none 0 0) (HNR.out _)
      refine bodyPost_ret (zDb Tryz.results144 _ ⟨w.heap.size,0,none⟩ rfl rfl (zId HB0.out _ _ _ _)) rfl ⟨⟨4,id,0,[]⟩,.slice none 0 0,true,rfl,q1,HR.out,q2⟩
     ·have HR:Hid (dueH s id k time=none):=by unfold Hid dueH;simp only;rw [if_neg hkd,if_neg ha',if_neg s2,if_neg s3,if_neg s4]
      have hs4:((s.tx id).state == 4)=false:=by simpa using s4
      clear ha hkd hx ha' s2 s3 s4
      go_enter Tryz.func144,Tryz.ntmps144
      go_upto_region 1 with fail
      rw [<-hw0]
      clear hw0
      go_wp2_with (first
       | (go_at_call 72;refine HTX.out.mono ?_;rintro e w2 ⟨rfl,rfl⟩)
       | (go_at_call 98;refine HDE.out.mono ?_;rintro e w2 ⟨rfl,rfl⟩)
       | (go_at_call 195;refine HRD.out.mono ?_;rintro e w2 ⟨rfl,rfl⟩)
       | fail)
      obtain ⟨q1,q2⟩:=zLo HM0.out HB0.out zHu (.slice none 0 0) (HNR.out _)
      refine bodyPost_ret (zDb Tryz.results144 _ ⟨w.heap.size,0,none⟩ rfl rfl (zId HB0.out _ _ _ _)) rfl ⟨zHu,.slice none 0 0,false,rfl,q1,HR.out,q2⟩
theorem RowM.toV{w:World}{L:Lo}{v:Value}{ms:List MsgD}(h:RowM w L v ms):yEu w L (fun k=>v.ownBlock=some k) v ms:=by
 have h0:=h
 obtain ⟨us,h1,h2,h3,h4⟩:=h
 by_cases hn:ms=[]
 ·subst hn
  rcases h2.2 with ⟨rfl,_⟩ | ⟨g,cap,cur,rfl,_,_,hc1,hc2,_⟩
  ·exact ⟨none,0,rfl,Nat.zero_le _,Nat.zero_le _,.inl rfl⟩
  ·exact ⟨_,cap,rfl,hc1,hc2,.inl rfl⟩
 ·obtain ⟨m,hm⟩:∃ m,ms[0]?=some m:=by cases ms with
   | nil=>exact absurd rfl hn
   | cons x l=>exact ⟨x,rfl⟩
  obtain ⟨g,cap,_,hv,hc1,hc2,_⟩:=h0.at hm
  refine ⟨_,cap,hv,hc1,hc2,.inr ⟨g,0,rfl,by rw [hv];rfl,fun i m hi=>?_⟩⟩
  obtain ⟨g',cap',u,hv',_,_,hu,hgm,q0,q1,q2,q3,q4,q5,q6,q7,q8⟩:=h0.at hi
  rw [hv] at hv'
  simp only [Value.slice.injEq,Option.some.injEq,Addr.mk.injEq] at hv'
  obtain ⟨⟨rfl,_⟩,_,rfl⟩:=hv'
  refine ⟨u,hu,hgm,fun j x hx=>?_⟩
  rw [Nat.zero_add]
  have hj:j<9:=by
   have:=(List.getElem?_eq_some_iff.1 hx).1
   simpa [zAt] using this
  have:j=0\/j=1\/j=2\/j=3\/j=4\/j=5\/j=6\/j=7\/j=8:=by omega
  rcases this with rfl | rfl | rfl | rfl | rfl | rfl | rfl | rfl | rfl <;> (simp [zAt] at hx;subst hx;assumption)
theorem RowM.block{w:World}{L:Lo}{v:Value}{ms:List MsgD}(h:RowM w L v ms){k:Nat}(hk:v.ownBlock=some k):k<w.heap.size/\∃ cur,w.heap[k]?=some (.cells cur 110):=by
 obtain ⟨us,_,h2,_⟩:=h
 obtain ⟨_,q2,cur,q3⟩:=zAi h2 hk
 exact ⟨q2,cur,q3⟩
theorem zLl(n c g:Nat)(y:HLay)(s:zAa)(v:Value)(ms:List MsgD)(w:World)(h:zAe w n c g y s)(hv:RowM w (y.lo n) v ms)(hno:∀ k,v.ownBlock=some k->y.own k=.no)(hlo:s.net.lost+ms.length<=4611686018427387904) :
  Calls Tryz.prog 80 #[.pointer (some ⟨g,2,none⟩),v] w fun e w'=>(∃ x,e=.returned (.int .i64 x))/\∃ y',zAe w' n c g y' (zLb s ms)/\zAm w y w' y':=by
 refine (yFg (y.lo n) g y.wv y.mr s.net _ v ms w h.netP hv.toV (fun k hk=>⟨(hv.block hk).1,fun e=>?_⟩) hlo).mono ?_
 ·have h0:=hno k hk
  rcases e with e | e | e
  ·rw [e,h.own.main] at h0;cases h0
  ·rw [h.own.net k (.inl e)] at h0;cases h0
  ·rw [h.own.net k (.inr e)] at h0;cases h0
 ·rintro e w' ⟨wv',rfl,hN,hMv,hmd⟩
  obtain ⟨hH,hS⟩:=h.turnW hmd hN hMv (.inl rfl)
  exact ⟨⟨_,rfl⟩,_,hH,hS,rfl,rfl,rfl,rfl,rfl⟩
theorem zAe.turnS{w w':World}{n c g:Nat}{y:HLay}{s:zAa}(h:zAe w n c g y s){k b j d:Nat}(hk:k<s.lines.length)(hb:y.lbs[k]?=some b)(hd:(y.nbs b)[j]?=some d){nv lv v:Value}{x:zAl}{ms:List MsgD}
  (hm:Mod (zAs d (y.nnv d) (y.nlv d)) w w') (hN:zAx w' (y.lo n) d nv lv x) (h1:zCf w (y.nnv d) nv) (h2:zCf w (y.nlv d) lv) (hv:RowM w' (y.lo n) v ms) (hf:zCr w v) :
  ∃ y',zAe w' n c g y' (setNode s k j x)/\zAm w y w' y'/\RowM w' (y'.lo n) v ms/\∀ z,v.ownBlock=some z->y'.own z=.no:=by
 obtain ⟨hH,hS⟩:=h.turnN hk hb hd hm hN h1 h2
 refine ⟨_,hH,⟨hS,rfl,rfl,rfl,rfl,rfl⟩,hv,fun z hz=>?_⟩
 have hzf:=hf z hz
 obtain ⟨_,cur,hcur⟩:=hv.block hz
 simp only [HLay.setN]
 rw [if_neg]
 ·exact Classical.byContradiction fun e=>by have:=(h.own.lt z e).2;omega
 ·rintro ⟨_,e | e | e⟩
  ·have hB:=hN.blk
   unfold Blk at hB
   rw [<-e,hcur] at hB;simp at hB
  ·obtain ⟨_,_,cur2,h2⟩:=zAi hN.ns e
   rw [hcur] at h2;simp at h2
  ·obtain ⟨us,_,h3,_⟩:=hN.lg
   obtain ⟨_,_,cur2,h2⟩:=zAi h3 e
   rw [hcur] at h2;simp at h2
end Go.Proofs.YtogaigioeohjaaaGreatDoor
