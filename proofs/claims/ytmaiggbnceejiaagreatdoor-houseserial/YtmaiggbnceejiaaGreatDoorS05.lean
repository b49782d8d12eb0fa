import Derived.Test.YtmaiggbnceejiaaGreatDoorS04
import Derived.Test.YtmaiggbnceejiaaGreatDoorS02
import Derived.Lib.SliceRun
set_option linter.unusedVariables false
set_option maxRecDepth 100000
set_option maxHeartbeats 16000000
namespace Go.Proofs.YtmaiggbnceejiaaGreatDoor
open Go.RowKit Go.Lib Go.Maps
theorem yPl(L:Lo)(g:Nat)(nv lv:Value)(s:eK)(m:dw)(u:Value)(w:World)(h:fe w L g nv lv s)(hu:iH w L u m.cmd.writes)(jF:qZ m)(iS:m.dk=s.dk)(jJ:m.to=s.id)(hk:m.kind=3)(hi:nk s (-1) m.eF=true)(hn:m.n=s.log.length)(hro:s.log.length<500) :
  Calls Tryz.prog 56 #[.pointer (some ⟨g,0,none⟩),.agg #[.int .i64 m.kind,.int .i64 m.eF,.int .i64 m.to,.int .i64 m.dk,.int .i64 m.n,.int .i64 m.cmd.kind,.int .i64 m.cmd.tx,.int .i64 m.cmd.time,u]] w fun e w'=>∃ v ja,e=.returned v/\fe w' L g nv ja (mw s m.cmd).1/\eV w' L v (mw s m.cmd).2/\lC w v/\iF w lv ja/\Mod (gw g nv lv) w w':=by
 have yO:=dq hn;clear hn;have rX:=dq iS;have rV:=dq jJ;have HK:=dq hk;clear iS jJ hk;obtain ⟨ua,dp,rfl⟩:∃ ua dp,u=.slice ua m.cmd.writes.length dp:=by obtain ⟨ua,dp,h,_⟩:=hu;exact ⟨ua,dp,h⟩
 obtain ⟨w1,hw1⟩:∃ q,q=w.alloc (.cells #[.int .i64 m.kind,.int .i64 m.eF,.int .i64 m.to,.int .i64 m.dk,.int .i64 m.n,.int .i64 m.cmd.kind,.int .i64 m.cmd.tx,.int .i64 m.cmd.time,.slice ua m.cmd.writes.length dp] 112):=⟨_,rfl⟩;have dh:Mod dZ w w1:=by rw [hw1];exact (Mod.refl _ w).alloc _
 have ff:dg w1 w.heap.size (ig m (.slice ua m.cmd.writes.length dp)) 112:=by rw [hw1];exact dg.new w _ _
 have h1:=h.quiet dh;obtain ⟨la,ey,hlv⟩:=h1.lg.slice;subst hlv;obtain ⟨c0,c1,c2,c3,c4⟩:=mQ h1.blk;obtain ⟨⟨x0,x1,x2,x3,x4,x5,x6,x7,x8⟩,_⟩:=iM ff;have z1:=ff.lt;have z2:=h1.blk.lt;have hz1:=dh.size;have fR:=h1.few;have hst:=h1.st;have HN:=dq h1;have HU:=dq (hu.mod dh (Qm.none _ _));clear h hu h1;go_enter Tryz.func56,Tryz.ntmps56;go_upto_region 1 with fail;rw [<-hw1];clear hw1;have k1:(m.kind == 1)=false:=by simp [HK.out]
 have k2:(m.kind == 2)=false:=by simp [HK.out]
 have k3:(m.kind == 3)=true:=by simp [HK.out]
 have k4:(m.kind == 4)=false:=by simp [HK.out]
 have hnn:(m.n == (s.log.length:Int))=true:=by simp [yO.out]
 have Kg:decide (s.log.length<500)=true:=aQ hro;have Ai:(m.dk != s.dk)=false:=by simp [rX.out]
 have wX:(m.to != s.id)=false:=by simp [rV.out]
 go_quiet (fail);have h2:=HN.out.drewN nq;have gp:=ff.mod ((Mod.refl dZ w1).drewN nq) id;have hm2:=dh.drewN nq;have hu2:=HU.out.mod ((Mod.refl dZ w1).drewN nq) (Qm.none _ _);obtain ⟨w2,hw2⟩:∃ q,q=w1.drewN nq:=⟨_,rfl⟩;rw [<-hw2] at h2 gp hm2 hu2 ⊢;clear hw2 c0 c1 c2 c3 c4 x0 x1 x2 x3 x4 x5 x6 x7 x8 HN HU ff dh;obtain ⟨c0,c1,c2,c3,c4⟩:=mQ h2.blk;obtain ⟨⟨x0,x1,x2,x3,x4,x5,x6,x7,x8⟩,_⟩:=iM gp;have z3:=gp.lt;have z4:=h2.blk.lt;have hz2:=hm2.size;have vn:Hid (∀ n,Calls Tryz.prog 99 #[.pointer (some ⟨g,0,none⟩),.int .i64 (-1),.int .i64 m.eF] (w2.drewN n) fun e w'=>e=.returned (.bool true)/\∃ k,w'=(w2.drewN n).drewN k):=fun n=>by have:=Bf L g nv _ s (-1) m.eF _ (h2.drewN n) (.inr rfl);rw [hi] at this;exact this
 have Dz:Hid (∀ n,Calls Tryz.prog 102 #[.pointer (some ⟨g,0,none⟩)] (w2.drewN n) fun e w'=>e=.returned (.bool (decide (s.log.length<500)))/\w'=w2.drewN n):=fun n=>RC L g nv _ s _ (h2.drewN n);rw [Kg] at Dz;go_upto_region 7 with fail;go_quiet (first
  | (go_at_call 99;refine Calls.quiet_of (vn.out _))
  | (go_at_call 102;refine Calls.quiet_of_same (Dz.out _))
  | fail)
 have lQ:=gp.mod ((Mod.refl dZ w2).drewN nq) id;obtain ⟨⟨y0,y1,y2,y3,y4,y5,y6,y7,y8⟩,_⟩:=iM lQ;have HG:=dq (yIa L g nv _ s m.cmd (.slice ua m.cmd.writes.length dp) (w2.drewN nq) (h2.drewN nq) (Hh hi) hro (hu2.mod ((Mod.refl dZ w2).drewN nq) (Qm.none _ _)) ⟨jF.1.2.2.2.2.2,jF.2⟩);clear h2 hu2 vn Dz;go_wp2_with fail;refine HG.out.mono ?_;rintro e w3 ⟨v,lv3,rfl,qy,hR,hf,hv3,dy⟩;clear HG;go_wp2_with fail;go_ret;refine ⟨v,lv3,rfl,qy,hR,fun k hk=>aJ hz2 (hf k hk),?_,((hm2.drewN nq).mono (fun _ _ e=>e.elim)).trans dy⟩;rcases hv3 with e | e
 ·exact .inl e
 ·exact .inr (fun k hk=>aJ hz2 (e k hk))
theorem yDn(L:Lo)(g:Nat)(nv lv:Value)(s:eK)(m:dw)(u:Value)(w:World)(h:fe w L g nv lv s)(hu:iH w L u m.cmd.writes)(jF:qZ m)(iS:m.dk=s.dk)(jJ:m.to=s.id)(hk:m.kind=3)(hno:¬ (nk s (-1) m.eF=true/\m.n=s.log.length/\s.log.length<500)) :
  Calls Tryz.prog 56 #[.pointer (some ⟨g,0,none⟩),.agg #[.int .i64 m.kind,.int .i64 m.eF,.int .i64 m.to,.int .i64 m.dk,.int .i64 m.n,.int .i64 m.cmd.kind,.int .i64 m.cmd.tx,.int .i64 m.cmd.time,u]] w fun e w'=>e=.returned (.slice none 0 0)/\Mod dZ w w':=by
 have rX:=dq iS;have rV:=dq jJ;have HK:=dq hk;clear iS jJ hk;obtain ⟨ua,dp,rfl⟩:∃ ua dp,u=.slice ua m.cmd.writes.length dp:=by obtain ⟨ua,dp,h,_⟩:=hu;exact ⟨ua,dp,h⟩
 obtain ⟨w1,hw1⟩:∃ q,q=w.alloc (.cells #[.int .i64 m.kind,.int .i64 m.eF,.int .i64 m.to,.int .i64 m.dk,.int .i64 m.n,.int .i64 m.cmd.kind,.int .i64 m.cmd.tx,.int .i64 m.cmd.time,.slice ua m.cmd.writes.length dp] 112):=⟨_,rfl⟩;have dh:Mod dZ w w1:=by rw [hw1];exact (Mod.refl _ w).alloc _
 have ff:dg w1 w.heap.size (ig m (.slice ua m.cmd.writes.length dp)) 112:=by rw [hw1];exact dg.new w _ _
 have h1:=h.quiet dh;obtain ⟨la,ey,hlv⟩:=h1.lg.slice;subst hlv;obtain ⟨c0,c1,c2,c3,c4⟩:=mQ h1.blk;obtain ⟨⟨x0,x1,x2,x3,x4,x5,x6,x7,x8⟩,_⟩:=iM ff;have z1:=ff.lt;have z2:=h1.blk.lt;have hz1:=dh.size;have fR:=h1.few;have hst:=h1.st;have HN:=dq h1;have HU:=dq (hu.mod dh (Qm.none _ _));clear h hu h1;go_enter Tryz.func56,Tryz.ntmps56;go_upto_region 1 with fail;rw [<-hw1];clear hw1;have k1:(m.kind == 1)=false:=by simp [HK.out]
 have k2:(m.kind == 2)=false:=by simp [HK.out]
 have k3:(m.kind == 3)=true:=by simp [HK.out]
 have k4:(m.kind == 4)=false:=by simp [HK.out]
 have Ai:(m.dk != s.dk)=false:=by simp [rX.out]
 have wX:(m.to != s.id)=false:=by simp [rV.out]
 go_quiet (fail);have h2:=HN.out.drewN nq;have gp:=ff.mod ((Mod.refl dZ w1).drewN nq) id;have hm2:=dh.drewN nq;have hu2:=HU.out.mod ((Mod.refl dZ w1).drewN nq) (Qm.none _ _);obtain ⟨w2,hw2⟩:∃ q,q=w1.drewN nq:=⟨_,rfl⟩;rw [<-hw2] at h2 gp hm2 hu2 ⊢;clear hw2 c0 c1 c2 c3 c4 x0 x1 x2 x3 x4 x5 x6 x7 x8 HN HU ff dh;obtain ⟨c0,c1,c2,c3,c4⟩:=mQ h2.blk;obtain ⟨⟨x0,x1,x2,x3,x4,x5,x6,x7,x8⟩,_⟩:=iM gp;have z3:=gp.lt;have z4:=h2.blk.lt;have hz2:=hm2.size;go_upto_region 7 with fail
 cases hi:nk s (-1) m.eF with
 | false=>
  have vn:Hid (∀ n,Calls Tryz.prog 99 #[.pointer (some ⟨g,0,none⟩),.int .i64 (-1),.int .i64 m.eF] (w2.drewN n) fun e w'=>e=.returned (.bool false)/\∃ k,w'=(w2.drewN n).drewN k):=fun n=>by have:=Bf L g nv _ s (-1) m.eF _ (h2.drewN n) (.inr rfl);rw [hi] at this;exact this
  have Dz:Hid (∀ n,Calls Tryz.prog 102 #[.pointer (some ⟨g,0,none⟩)] (w2.drewN n) fun e w'=>e=.returned (.bool (decide (s.log.length<500)))/\w'=w2.drewN n):=fun n=>RC L g nv _ s _ (h2.drewN n);go_quiet (first
   | (go_at_call 99;refine Calls.quiet_of (vn.out _))
   | (go_at_call 102;refine Calls.quiet_of_same (Dz.out _))
   | fail)
  go_upto_region 9 with fail;go_quiet (fail);go_wp2_with fail;go_ret;exact ⟨rfl,by first | exact hm2.drewN _ | exact (hm2.drewN _).drewN _ | exact ((hm2.drewN _).drewN _).drewN _⟩
 | true=>
  have vn:Hid (∀ n,Calls Tryz.prog 99 #[.pointer (some ⟨g,0,none⟩),.int .i64 (-1),.int .i64 m.eF] (w2.drewN n) fun e w'=>e=.returned (.bool true)/\∃ k,w'=(w2.drewN n).drewN k):=fun n=>by have:=Bf L g nv _ s (-1) m.eF _ (h2.drewN n) (.inr rfl);rw [hi] at this;exact this
  have Dz:Hid (∀ n,Calls Tryz.prog 102 #[.pointer (some ⟨g,0,none⟩)] (w2.drewN n) fun e w'=>e=.returned (.bool (decide (s.log.length<500)))/\w'=w2.drewN n):=fun n=>RC L g nv _ s _ (h2.drewN n);by_cases hn:m.n=s.log.length
  ·have hro:¬ s.log.length<500:=fun e=>hno ⟨hi,hn,e⟩;have hnn:(m.n == (s.log.length:Int))=true:=by simp [hn]
   have Kg:decide (s.log.length<500)=false:=aL hro;rw [Kg] at Dz;have yO:=dq hn;clear hn;go_quiet (first
    | (go_at_call 99;refine Calls.quiet_of (vn.out _))
    | (go_at_call 102;refine Calls.quiet_of_same (Dz.out _))
    | fail)
   go_upto_region 9 with fail;go_quiet (fail);go_wp2_with fail;go_ret;exact ⟨rfl,by first | exact hm2.drewN _ | exact (hm2.drewN _).drewN _ | exact ((hm2.drewN _).drewN _).drewN _⟩
  ·have hnn:(m.n == (s.log.length:Int))=false:=by simpa using hn
   go_quiet (first
    | (go_at_call 99;refine Calls.quiet_of (vn.out _))
    | (go_at_call 102;refine Calls.quiet_of_same (Dz.out _))
    | fail)
   go_upto_region 9 with fail;go_quiet (fail);go_wp2_with fail;go_ret;exact ⟨rfl,by first | exact hm2.drewN _ | exact (hm2.drewN _).drewN _ | exact ((hm2.drewN _).drewN _).drewN _⟩
theorem yAa(L:Lo)(g:Nat)(nv lv:Value)(s:eK)(m:dw)(u:Value)(w:World)(h:fe w L g nv lv s)(hu:iH w L u m.cmd.writes)(jF:qZ m)(iS:m.dk=s.dk)(jJ:m.to=s.id)(hk:m.kind=4)(hno:¬ (nk s 1 m.eF=true/\0<=m.n/\m.n<=s.log.length)) :
  Calls Tryz.prog 56 #[.pointer (some ⟨g,0,none⟩),.agg #[.int .i64 m.kind,.int .i64 m.eF,.int .i64 m.to,.int .i64 m.dk,.int .i64 m.n,.int .i64 m.cmd.kind,.int .i64 m.cmd.tx,.int .i64 m.cmd.time,u]] w fun e w'=>e=.returned (.slice none 0 0)/\Mod dZ w w':=by
 have rX:=dq iS;have rV:=dq jJ;have HK:=dq hk;clear iS jJ hk;obtain ⟨ua,dp,rfl⟩:∃ ua dp,u=.slice ua m.cmd.writes.length dp:=by obtain ⟨ua,dp,h,_⟩:=hu;exact ⟨ua,dp,h⟩
 obtain ⟨w1,hw1⟩:∃ q,q=w.alloc (.cells #[.int .i64 m.kind,.int .i64 m.eF,.int .i64 m.to,.int .i64 m.dk,.int .i64 m.n,.int .i64 m.cmd.kind,.int .i64 m.cmd.tx,.int .i64 m.cmd.time,.slice ua m.cmd.writes.length dp] 112):=⟨_,rfl⟩;have dh:Mod dZ w w1:=by rw [hw1];exact (Mod.refl _ w).alloc _
 have ff:dg w1 w.heap.size (ig m (.slice ua m.cmd.writes.length dp)) 112:=by rw [hw1];exact dg.new w _ _
 have h1:=h.quiet dh;obtain ⟨la,ey,hlv⟩:=h1.lg.slice;subst hlv;obtain ⟨c0,c1,c2,c3,c4⟩:=mQ h1.blk;obtain ⟨⟨x0,x1,x2,x3,x4,x5,x6,x7,x8⟩,_⟩:=iM ff;have z1:=ff.lt;have z2:=h1.blk.lt;have hz1:=dh.size;have fR:=h1.few;have hst:=h1.st;have HN:=dq h1;have HU:=dq (hu.mod dh (Qm.none _ _));clear h hu h1;go_enter Tryz.func56,Tryz.ntmps56;go_upto_region 1 with fail;rw [<-hw1];clear hw1;have k1:(m.kind == 1)=false:=by simp [HK.out]
 have k2:(m.kind == 2)=false:=by simp [HK.out]
 have k3:(m.kind == 3)=false:=by simp [HK.out]
 have k4:(m.kind == 4)=true:=by simp [HK.out]
 have Ai:(m.dk != s.dk)=false:=by simp [rX.out]
 have wX:(m.to != s.id)=false:=by simp [rV.out]
 go_quiet (fail);have h2:=HN.out.drewN nq;have gp:=ff.mod ((Mod.refl dZ w1).drewN nq) id;have hm2:=dh.drewN nq;have hu2:=HU.out.mod ((Mod.refl dZ w1).drewN nq) (Qm.none _ _);obtain ⟨w2,hw2⟩:∃ q,q=w1.drewN nq:=⟨_,rfl⟩;rw [<-hw2] at h2 gp hm2 hu2 ⊢;clear hw2 c0 c1 c2 c3 c4 x0 x1 x2 x3 x4 x5 x6 x7 x8 HN HU ff dh;obtain ⟨c0,c1,c2,c3,c4⟩:=mQ h2.blk;obtain ⟨⟨x0,x1,x2,x3,x4,x5,x6,x7,x8⟩,_⟩:=iM gp;have z3:=gp.lt;have z4:=h2.blk.lt;have hz2:=hm2.size;go_upto_region 7 with fail;go_quiet (fail);have h3:=h2.drewN nq;have lQ:=gp.mod ((Mod.refl dZ w2).drewN nq) id;have dy:=hm2.drewN nq;obtain ⟨w3,hw3⟩:∃ q,q=w2.drewN nq:=⟨_,rfl⟩;rw [<-hw3] at h3 lQ dy ⊢;clear hw3 c0 c1 c2 c3 c4 x0 x1 x2 x3 x4 x5 x6 x7 x8 h2 gp hm2 hu2 z3 z4 hz2;obtain ⟨c0,c1,c2,c3,c4⟩:=mQ h3.blk;obtain ⟨⟨x0,x1,x2,x3,x4,x5,x6,x7,x8⟩,_⟩:=iM lQ;have z3:=lQ.lt;have z4:=h3.blk.lt;have hz3:=dy.size;go_upto_region 9 with fail
 cases hi:nk s 1 m.eF with
 | false=>
  have vn:Hid (∀ n,Calls Tryz.prog 99 #[.pointer (some ⟨g,0,none⟩),.int .i64 (1),.int .i64 m.eF] (w3.drewN n) fun e w'=>e=.returned (.bool false)/\∃ k,w'=(w3.drewN n).drewN k):=fun n=>by have:=Bf L g nv _ s (1) m.eF _ (h3.drewN n) (.inl rfl);rw [hi] at this;exact this
  go_quiet (first
   | (go_at_call 99;refine Calls.quiet_of (vn.out _))
   | fail)
  go_wp2_with fail;go_ret;exact ⟨rfl,by first | exact dy.drewN _ | exact (dy.drewN _).drewN _⟩
 | true=>
  have vn:Hid (∀ n,Calls Tryz.prog 99 #[.pointer (some ⟨g,0,none⟩),.int .i64 (1),.int .i64 m.eF] (w3.drewN n) fun e w'=>e=.returned (.bool true)/\∃ k,w'=(w3.drewN n).drewN k):=fun n=>by have:=Bf L g nv _ s (1) m.eF _ (h3.drewN n) (.inl rfl);rw [hi] at this;exact this
  by_cases hn:0<=m.n
  ·have hd1:decide (m.n ≥ 0)=true:=aQ hn;have Ol:decide (0<=m.n)=true:=aQ hn;have hle:¬ m.n<=s.log.length:=fun e=>hno ⟨hi,hn,e⟩;have hd2:decide (m.n<=(s.log.length:Int))=false:=aL hle;go_quiet (first
    | (go_at_call 99;refine Calls.quiet_of (vn.out _))
    | fail)
   go_wp2_with fail;go_ret;exact ⟨rfl,by first | exact dy.drewN _ | exact (dy.drewN _).drewN _⟩
  ·have hd1:decide (m.n ≥ 0)=false:=aL hn;have Ol:decide (0<=m.n)=false:=aL hn;go_quiet (first
    | (go_at_call 99;refine Calls.quiet_of (vn.out _))
    | fail)
   go_wp2_with fail;go_ret;exact ⟨rfl,by first | exact dy.drewN _ | exact (dy.drewN _).drewN _⟩
theorem yLb(L:Lo)(g:Nat)(nv lv:Value)(s:eK)(m:dw)(u:Value)(w:World)(h:fe w L g nv lv s)(hu:iH w L u m.cmd.writes)(jF:qZ m)(iS:m.dk=s.dk)(jJ:m.to=s.id)(hk:m.kind=4)(hi:nk s 1 m.eF=true)(hn:0<=m.n)(hle:m.n<=s.log.length) :
  Calls Tryz.prog 56 #[.pointer (some ⟨g,0,none⟩),.agg #[.int .i64 m.kind,.int .i64 m.eF,.int .i64 m.to,.int .i64 m.dk,.int .i64 m.n,.int .i64 m.cmd.kind,.int .i64 m.cmd.tx,.int .i64 m.cmd.time,u]] w fun e w'=>∃ v,e=.returned v/\fe w' L g nv lv (xI s m.n)/\eV w' L v (nc (xI s m.n) (-1) (qU 4 (xI s m.n).gz))/\lC w v/\Mod (eA g) w w':=by
 have rX:=dq iS;have rV:=dq jJ;have HK:=dq hk;clear iS jJ hk;obtain ⟨ua,dp,rfl⟩:∃ ua dp,u=.slice ua m.cmd.writes.length dp:=by obtain ⟨ua,dp,h,_⟩:=hu;exact ⟨ua,dp,h⟩
 obtain ⟨w1,hw1⟩:∃ q,q=w.alloc (.cells #[.int .i64 m.kind,.int .i64 m.eF,.int .i64 m.to,.int .i64 m.dk,.int .i64 m.n,.int .i64 m.cmd.kind,.int .i64 m.cmd.tx,.int .i64 m.cmd.time,.slice ua m.cmd.writes.length dp] 112):=⟨_,rfl⟩;have dh:Mod dZ w w1:=by rw [hw1];exact (Mod.refl _ w).alloc _
 have ff:dg w1 w.heap.size (ig m (.slice ua m.cmd.writes.length dp)) 112:=by rw [hw1];exact dg.new w _ _
 have h1:=h.quiet dh;obtain ⟨la,ey,hlv⟩:=h1.lg.slice;subst hlv;obtain ⟨c0,c1,c2,c3,c4⟩:=mQ h1.blk;obtain ⟨⟨x0,x1,x2,x3,x4,x5,x6,x7,x8⟩,_⟩:=iM ff;have z1:=ff.lt;have z2:=h1.blk.lt;have hz1:=dh.size;have fR:=h1.few;have hst:=h1.st;have HN:=dq h1;have HU:=dq (hu.mod dh (Qm.none _ _));clear h hu h1;go_enter Tryz.func56,Tryz.ntmps56;go_upto_region 1 with fail;rw [<-hw1];clear hw1;have k1:(m.kind == 1)=false:=by simp [HK.out]
 have k2:(m.kind == 2)=false:=by simp [HK.out]
 have k3:(m.kind == 3)=false:=by simp [HK.out]
 have k4:(m.kind == 4)=true:=by simp [HK.out]
 have Ai:(m.dk != s.dk)=false:=by simp [rX.out]
 have wX:(m.to != s.id)=false:=by simp [rV.out]
 go_quiet (fail);have h2:=HN.out.drewN nq;have gp:=ff.mod ((Mod.refl dZ w1).drewN nq) id;have hm2:=dh.drewN nq;have hu2:=HU.out.mod ((Mod.refl dZ w1).drewN nq) (Qm.none _ _);obtain ⟨w2,hw2⟩:∃ q,q=w1.drewN nq:=⟨_,rfl⟩;rw [<-hw2] at h2 gp hm2 hu2 ⊢;clear hw2 c0 c1 c2 c3 c4 x0 x1 x2 x3 x4 x5 x6 x7 x8 HN HU ff dh;obtain ⟨c0,c1,c2,c3,c4⟩:=mQ h2.blk;obtain ⟨⟨x0,x1,x2,x3,x4,x5,x6,x7,x8⟩,_⟩:=iM gp;have z3:=gp.lt;have z4:=h2.blk.lt;have hz2:=hm2.size;go_upto_region 7 with fail;go_quiet (fail);have h3:=h2.drewN nq;have lQ:=gp.mod ((Mod.refl dZ w2).drewN nq) id;have dy:=hm2.drewN nq;obtain ⟨w3,hw3⟩:∃ q,q=w2.drewN nq:=⟨_,rfl⟩;rw [<-hw3] at h3 lQ dy ⊢;clear hw3 c0 c1 c2 c3 c4 x0 x1 x2 x3 x4 x5 x6 x7 x8 h2 gp hm2 hu2 z3 z4 hz2;obtain ⟨c0,c1,c2,c3,c4⟩:=mQ h3.blk;obtain ⟨⟨x0,x1,x2,x3,x4,x5,x6,x7,x8⟩,_⟩:=iM lQ;have z3:=lQ.lt;have z4:=h3.blk.lt;have hz3:=dy.size;go_upto_region 9 with fail;have vn:Hid (∀ n,Calls Tryz.prog 99 #[.pointer (some ⟨g,0,none⟩),.int .i64 (1),.int .i64 m.eF] (w3.drewN n) fun e w'=>e=.returned (.bool true)/\∃ k,w'=(w3.drewN n).drewN k):=fun n=>by have:=Bf L g nv _ s (1) m.eF _ (h3.drewN n) (.inl rfl);rw [hi] at this;exact this
 have hd1:decide (m.n ≥ 0)=true:=aQ hn;have Ol:decide (0<=m.n)=true:=aQ hn;have hd2:decide (m.n<=(s.log.length:Int))=true:=aQ hle;go_quiet (first
  | (go_at_call 99;refine Calls.quiet_of (vn.out _))
  | fail)
 have h4:=h3.drewN nq;have hB4:=lQ.mod ((Mod.refl dZ w3).drewN nq) id;have gR:=dy.drewN nq;obtain ⟨w4,hw4⟩:∃ q,q=w3.drewN nq:=⟨_,rfl⟩;rw [<-hw4] at h4 hB4 gR ⊢;clear hw4 c0 c1 c2 c3 c4 x0 x1 x2 x3 x4 x5 x6 x7 x8 h3 lQ dy z3 z4 vn;obtain ⟨c0,c1,c2,c3,c4⟩:=mQ h4.blk;obtain ⟨⟨x0,x1,x2,x3,x4,x5,x6,x7,x8⟩,_⟩:=iM hB4;have f4:=h4.blk.frozen 4;have z3:=hB4.lt;have z4:=h4.blk.lt;have NR:=gR.size;obtain ⟨t,ht⟩:∃ t,t=(if s.gz<m.n then m.n else s.gz):=⟨_,rfl⟩;have By:0<=t/\t<=s.log.length:=by rw [ht];split <;> omega
 have HSB:Hid (xI s m.n=zV s t):=by rw [Hid,xI,<-ht]
 obtain ⟨mj,eP⟩:=h4.wJ t By;have tV:=mj.quiet ((Mod.refl dZ _).drew);have d4:=mj.blk.cell 4 rfl;simp only [zV] at d4;have HS:=dq (MC L g nv _ (zV s t) (-1) (qU 4 t) (.slice none 0 0) _ tV (.inr rfl) (iH.nil _ _) (RU _ _ (by simp [gO]) (by simp only [gO];omega)));have Sx:=dq tV;have yR:Hid (Mod (eA g) w4 (w4.setCell ⟨g,4,none⟩ (.int .i64 t)).drew):=eP.drew;clear h4 mj tV eP;go_upto_region 10 with fail;go_region;rw [<-ht];clear ht;go_wp2_with fail;refine HS.out.mono ?_;rintro e w6 ⟨v,rfl,hR,hf,fs⟩;clear HS;go_wp2_with fail;go_ret;refine ⟨v,rfl,by rw [HSB.out];exact Sx.out.quiet fs,by rw [HSB.out];exact hR,fun k hk=>aJ NR (by simpa using hf k hk),((gR.mono (fun _ _ e=>e.elim)).trans yR.out).trans (fs.mono (fun _ _ e=>e.elim))⟩
theorem yPm(L:Lo)(g:Nat)(nv lv:Value)(s:eK)(m:dw)(u:Value)(w:World)(h:fe w L g nv lv s)(hu:iH w L u m.cmd.writes)(jF:qZ m) :
  Calls Tryz.prog 56 #[.pointer (some ⟨g,0,none⟩),.agg #[.int .i64 m.kind,.int .i64 m.eF,.int .i64 m.to,.int .i64 m.dk,.int .i64 m.n,.int .i64 m.cmd.kind,.int .i64 m.cmd.tx,.int .i64 m.cmd.time,u]] w fun e w'=>
   ∃ v ja,e=.returned v/\fe w' L g nv ja (jP s m).1/\eV w' L v (jP s m).2/\lC w v/\iF w lv ja/\Mod (gw g nv lv) w w':=by
 have nil:∀ (P:jP s m=(s,[])) (e:Ending) (w':World),e=.returned (.slice none 0 0)/\Mod dZ w w'->∃ v ja,e=.returned v/\fe w' L g nv ja (jP s m).1/\eV w' L v (jP s m).2/\lC w v/\iF w lv ja/\Mod (gw g nv lv) w w':=by
  rintro P e w' ⟨rfl,hm⟩;rw [P];exact ⟨_,lv,rfl,h.quiet hm,eV.nil _ _,fun k hk=>by simp [Value.ownBlock] at hk,iF.refl _ _,hm.mono (fun _ _ e=>e.elim)⟩
 have say:∀ (ms:List dw) (P:jP s m=(s,ms)) (e:Ending) (w':World),(∃ v,e=.returned v/\eV w' L v ms/\lC w v/\Mod dZ w w')->∃ v ja,e=.returned v/\fe w' L g nv ja (jP s m).1/\eV w' L v (jP s m).2/\lC w v/\iF w lv ja/\Mod (gw g nv lv) w w':=by
  rintro ms P e w' ⟨v,rfl,hR,hf,hm⟩;rw [P];exact ⟨v,lv,rfl,h.quiet hm,hR,hf,iF.refl _ _,hm.mono (fun _ _ e=>e.elim)⟩
 by_cases ID:m.dk=s.dk/\m.to=s.id
 ·obtain ⟨iS,jJ⟩:=ID;by_cases hk1:m.kind=1
  ·cases hi:nk s (-1) m.eF with
   | true=>exact (yLa L g nv lv s m u w h hu jF iS jJ hk1 hi).mono (say _ (by simp [jP,iS,jJ,hk1,hi]))
   | false=>exact (zZz L g nv lv s m u w h hu jF iS jJ hk1 hi).mono (nil (by simp [jP,iS,jJ,hk1,hi]))
  by_cases hk2:m.kind=2
  ·by_cases hc:nk s 1 m.eF=true/\0<=m.n
   ·exact (yLd L g nv lv s m u w h hu jF iS jJ hk2 hc.1 hc.2).mono (say _ (by simp [jP,iS,jJ,hk2,hc]))
   ·exact (yAb L g nv lv s m u w h hu jF iS jJ hk2 hc).mono (nil (by simp [jP,iS,jJ,hk2];intro a b;exact absurd ⟨a,b⟩ hc))
  by_cases hk3:m.kind=3
  ·by_cases hc:nk s (-1) m.eF=true/\m.n=s.log.length/\s.log.length<500
   ·have P:jP s m=mw s m.cmd:=by simp [jP,iS,jJ,hk3,hc]
    rw [P];exact yPl L g nv lv s m u w h hu jF iS jJ hk3 hc.1 hc.2.1 hc.2.2
   ·exact (yDn L g nv lv s m u w h hu jF iS jJ hk3 hc).mono (nil (by simp [jP,iS,jJ,hk3];intro a b c;exact absurd ⟨a,b,c⟩ hc))
  by_cases hk4:m.kind=4
  ·by_cases hc:nk s 1 m.eF=true/\0<=m.n/\m.n<=s.log.length
   ·have P:jP s m=(xI s m.n,nc (xI s m.n) (-1) (qU 4 (xI s m.n).gz)):=by simp [jP,iS,jJ,hk4,hc]
    rw [P];refine (yLb L g nv lv s m u w h hu jF iS jJ hk4 hc.1 hc.2.1 hc.2.2).mono ?_;rintro e w' ⟨v,rfl,hN,hR,hf,hm⟩;exact ⟨v,lv,rfl,hN,hR,hf,iF.refl _ _,hm.mono (fun i _ e=>.inl e)⟩
   ·exact (yAa L g nv lv s m u w h hu jF iS jJ hk4 hc).mono (nil (by simp [jP,iS,jJ,hk4];intro a b c;exact absurd ⟨a,b,c⟩ hc))
  ·exact (yLc L g nv lv s m u w h hu jF iS jJ hk1 hk2 hk3 hk4).mono (nil (by simp [jP,iS,jJ,hk1,hk2,hk3,hk4]))
 ·exact (yPk L g nv lv s m u w h hu jF ID).mono (nil (by simp [jP];intro a b;exact absurd ⟨a,b⟩ ID))
theorem dg.setCells{g:Nat}{t:TypeId}:∀ (vs:List Value) (w:World) (a old c:List Value),dg w g (a++old++c) t->old.length=vs.length->dg (w.setCells g a.length vs) g (a++vs++c) t
 | [],w,a,old,c,h,hl=>by
  have:old=[]:=aR hl;subst this;exact h
 | v :: vs,w,a,[],c,h,hl=>by simp at hl
 | v :: vs,w,a,x :: old,c,h,hl=>by
  have h1:=h.set a.length v;have e:((a++x :: old++c).set a.length v)=(a++[v])++old++c:=by simp
  rw [e] at h1;have:=dg.setCells vs (w.setCell ⟨g,a.length,none⟩ v) (a++[v]) old c h1 (by simpa using hl);simp only [aD,aW,az] at this;rw [World.setCells];simpa using this
theorem Mod.setCells{g:Nat}:∀ (vs:List Value) (o:Nat) (w:World),Mod (eA g) w (w.setCells g o vs)
 | [],_,_=>Mod.refl _ _
 | v :: vs,o,w=>(Mod.dt g o v).trans (Mod.setCells vs (o+1) (w.setCell ⟨g,o,none⟩ v))
theorem Rm:∀ (a b:List dw) (ua ub:List Value),ua.length=a.length->gy (a++b) (ua++ub)=gy a ua++gy b ub
 | [],b,[],ub,_=>by simp [gy]
 | [],_,_ :: _,_,h=>by simp at h
 | _ :: _,_,[],_,h=>by simp at h
 | m :: a,b,u :: ua,ub,h=>by simp [gy,Rm a b ua ub (by simpa using h)]
def wA:List Value:=[.int .i64 0,.int .i64 0,.int .i64 0,.int .i64 0,.int .i64 0,.int .i64 0,.int .i64 0,.int .i64 0,.slice none 0 0]
theorem yQm(w:World):(zeroValue 112).run Tryz.prog w=.ok (.agg #[.int .i64 0,.int .i64 0,.int .i64 0,.int .i64 0,.int .i64 0,.int .i64 0,.int .i64 0,.int .i64 0,.slice none 0 0]) w:=by kernel_rfl
theorem yLu:∀ v∈wA,v.oneCell'=true:=by
 intro v hv;simp [wA] at hv;rcases hv with rfl | rfl <;> rfl
theorem zYw(w:World)(ty:TypeId)(b o c:Nat)(hc:∀ j,j<9->(w.cell? ⟨b,o+j,none⟩).isSome=true)(hf:∀ j,j<9->w.frozen? ⟨b,o+j,none⟩=false) :
  (Builtin.clear_ #[76] ty #[.slice (some ⟨b,o,none⟩) 1 c]).run Tryz.prog w=.ok (.tuple #[]) (w.setCells b o wA):=by
 have hst:=run_storeCells_cells (P:=Tryz.prog) b o wA 0 w (by simpa [wA] using hc) (by simpa [wA] using hf) yLu;simp only [bG] at hst;have SC:(Builtin.zeroCells (Value.agg #[.int .i64 0,.int .i64 0,.int .i64 0,.int .i64 0,.int .i64 0,.int .i64 0,.int .i64 0,.int .i64 0,.slice none 0 0]).cells 1).toList=wA:=by kernel_rfl
 simp [Builtin.clear_,run_underlying Tryz.underlying76,SC,hst]
theorem zSg{w:World}{ops:Array Oper}{rest:List Oper}{o:Oper}{a:Act}{Q:Exit->Act->World->Prop}(hgd:o.guard=none)(s:Operand)
  (ho:o.op=.call { callee:=.builtin .clear,args:=#[s],argTypes:=#[76] }) (b off n c:Nat) (hs:a.eval s=.slice (some ⟨b,off,none⟩) n c) (hn:n=1)
  (hc:∀ j,j<9->(w.cell? ⟨b,off+j,none⟩).isSome=true) (hf:∀ j,j<9->w.frozen? ⟨b,off+j,none⟩=false)
  (h:wpList Tryz.prog ops Q rest (a.put o.dst (.tuple #[])) (w.setCells b off wA)):wpList Tryz.prog ops Q (o :: rest) a w:=by
 refine wpList_plain hgd fun K hK=>?_;subst hn;have hr:=zYw w o.type b off c hc hf;unfold Oper.wp execOp;simp only [ho,resolve,invoke,builtin,Sem.run_bind,Sem.run_pure,Result.andThen_ok,bz,bW,cM,hs,hr];exact hK _ _ h
theorem yHr:∀ (ms:List dw) (us:List Value),us.length=ms.length->(∀ (i:Nat) m u,ms[i]?=some m->us[i]?=some u->u.oneCell'=true)->∀ x∈gy ms us,x.oneCell'=true
 | [],_,_,_,x,hx=>by simp [gy] at hx
 | _ :: _,[],h,_,_,_=>by simp at h
 | m :: ms,u :: us,h,hu,x,hx=>by
  rw [gy] at hx;rcases aN.1 hx with hx | hx
  ·have h0:=hu 0 m u rfl rfl;simp [ig] at hx;rcases hx with rfl | rfl | rfl | rfl | rfl | rfl | rfl | rfl | rfl
   ·rfl
   ·rfl
   ·rfl
   ·rfl
   ·rfl
   ·rfl
   ·rfl
   ·rfl
   ·exact h0
  ·exact yHr ms us (by simpa using h) (fun i m' u' h1 h2=>hu (i+1) m' u' (by simpa using h1) (by simpa using h2)) x hx
theorem yBy{α:Type}(A X R:List α)(k:Nat):A++X.take k++(X.drop k++R)=A++X++R:=by
 rw [aU,aU,<-aU (X.take k),aq]
theorem yKz(L:Lo)(m1 m2:List dw)(m:dw)(v:Value)(w:World)(hR:eV w L v (m1++m :: m2))(hf:(m1++m :: m2).length<=200) :
  Calls Tryz.prog 95 #[v,.int .i64 m1.length,.int .i64 ((m1.length:Int)+1)] w fun e w'=>∃ v',e=.returned v'/\eV w' L v' (m1++m2)/\v'.ownBlock=v.ownBlock/\Mod (fun x=>v.ownBlock=some x) w w':=by
 obtain ⟨i0,hi,hz0,hz1,hz2⟩:=info_parts Tryz.pS;obtain ⟨us,mD,hrow,hps,hgd⟩:=hR;rcases hrow.2 with ⟨_,h0⟩ | ⟨g,cap,cur,rfl,Dj,hg,hcap,hcm,hcs,htk⟩
 ·simp at h0
 unfold maxLen at hcm;have hlen:(m1++m :: m2).length=m1.length+1+m2.length:=by simp;omega
 rw [hlen] at hcap hf ⊢;have hne:(((m1.length:Int)) == (m1.length:Int)+1)=false:=by
  rw [bc];omega
 obtain ⟨xY,u,yp,Ht,oJ,hl2⟩:∃ xY u yp,us=xY++u :: yp/\xY.length=m1.length/\yp.length=m2.length:=by
  rw [hlen] at mD;have h1:m1.length<us.length:=by omega
  refine ⟨us.take m1.length,us[m1.length],us.drop (m1.length+1),?_,by rw [aZ];omega,by rw [bO];omega⟩;rw [<-bh h1,aq]
 subst Ht;have hcells:gy (m1++m :: m2) (xY++u :: yp)=gy m1 xY++(ig m u++gy m2 yp):=by
  rw [Rm _ _ _ _ oJ,gy]
 obtain ⟨R,hR⟩:∃ R,cur.toList=gy m1 xY++(ig m u++gy m2 yp)++R:=by
  refine ⟨cur.toList.drop ((m1++m :: m2).length*9),?_⟩;rw [<-hcells,<-htk,aq]
 have lA:=Bu m1 xY oJ;have lB:=Bu m2 yp hl2;have nA:dg w g (gy m1 xY++(ig m u++gy m2 yp)++R) 112:=by
  rw [dg,<-hR];exact hg
 have lR:(gy m1 xY++(ig m u++gy m2 yp)++R).length=cap*9:=by rw [<-hR];simpa using hcs
 simp only [aD,lA,lB,show (ig m u).length=9 from rfl] at lR;obtain ⟨A,hA⟩:∃ A,A=gy m1 xY:=⟨_,rfl⟩;obtain ⟨M,hM⟩:∃ M,M=ig m u:=⟨_,rfl⟩;obtain ⟨B,hB⟩:∃ B,B=gy m2 yp:=⟨_,rfl⟩;rw [<-hA] at lA nA;rw [<-hB] at lB nA;rw [<-hM] at nA;have lM:M.length=9:=by rw [hM];rfl
 have hone:∀ x∈B,x.oneCell'=true:=by
  rw [hB];refine yHr m2 yp hl2 (fun i m' u' h1 h2=>?_);obtain ⟨ua,dp,e,_⟩:=hps (m1.length+1+i) m' u' (by rw [aM (by omega),show m1.length+1+i - m1.length=i+1 by omega,cT];exact h1) (by rw [aM (by omega),oJ,show m1.length+1+i - m1.length=i+1 by omega,cT];exact h2);rw [e];rfl
 have hcB:∀ (j:Nat) x,B[j]?=some x->w.drew.cell? ((⟨g,(m1.length+1)*9,none⟩:Addr).add j)=some x:=fun j x hx=>by
  rw [Go.WideShapes.add_plain];exact nA.cell _ (by
   rw [aU,aM (by omega),lA,aU,aM (by omega),lM];have hj:=(aB.1 hx).1;rw [aE (by omega)];rw [show (m1.length+1)*9+j - m1.length*9 - 9=j by omega];exact hx)
 have hspare:∀ j,j<B.length->(w.drew.cell? ⟨g,0+m1.length*9+j,none⟩).isSome=true/\w.drew.frozen? ⟨g,0+m1.length*9+j,none⟩=false:=fun j hj=>by
  refine ⟨?_,nA.frozen _⟩;obtain ⟨x,hx⟩:∃ x,(A++(M++B)++R)[0+m1.length*9+j]?=some x:=⟨_,aA (by simp only [aD];omega)⟩;rw [show w.drew.cell? ⟨g,0+m1.length*9+j,none⟩=some x from nA.cell _ hx];rfl
 have HB:=dq nA;have Fz:=dq hcB;have Pr:=dq hspare;have qM:=dq hone;have rI:=dq hps;have vp:=dq hgd;have HA:=dq hA;have HBB:=dq hB;clear nA hcB hspare hone hps hgd hg hcs htk hrow hcells hR mD hA hM hB;have hroom:m1.length+m2.length<=cap:=by omega
 have hb1:m1.length<=cap:=by omega
 have hb2:(m1.length:Int)+1<=(m1.length:Int)+1+(m2.length:Int):=by omega
 have hb4:0<=(m1.length:Int)+1:=by omega
 go_enter Tryz.func95,Tryz.ntmps95;go_upto_region 5 with fail;go_cut [0] (fun v0 wc=>v0=.slice (some ⟨g,0,none⟩) (m1.length+m2.length) cap/\(∃ tail:List Value,tail.length=9/\dg wc g (A++B++(tail++R)) 112)/\Mod (eA g) w wc)
 case first=>
  have HF:Hid ((∃ tail:List Value,tail.length=9/\dg (w.drew.setCells g (m1.length*9) B) g (A++B++(tail++R)) 112)/\Mod (eA g) w (w.drew.setCells g (m1.length*9) B)):=by
   have e:m1.length*9=A.length:=by omega
   rw [Hid,e];refine ⟨⟨(M++B).drop B.length,by simp;omega,?_⟩,((Mod.refl (eA g) w).drew).trans (Mod.setCells B A.length w.drew)⟩;have:=dg.setCells (g:=g) (t:=112) B w.drew A ((M++B).take B.length) ((M++B).drop B.length++R) (by
    have:=HB.out;rw [dg] at this ⊢;rw [yBy];exact this) (by simp)
   exact this
  by_cases hc1:m1.length+1<cap
  ·have hb3:¬ cap=m1.length+1:=by omega
   go_region_law
    ((first
     | (refine step_append_room (by rfl) _ _ _ (by rfl) 112 i0 9 Tryz.underlying76 hi hz1 g 0 m1.length cap (by rfl) ⟨g,(m1.length+1)*9,none⟩ m2.length _ B (by rfl) lB Fz.out qM.out hroom Pr.out ?_)
     | fail))
   all_goals
    go_wp2_with fail;go_meet
    case rel=>exact ⟨rfl,HF.out⟩
  ·obtain rfl:cap=m1.length+1:=by omega
   obtain rfl:m2=[]:=aR (by omega);have im:(m1.length:Int)<=(m1.length:Int)+1:=by omega
   have PN:B=[]:=aR lB;have HCB':Hid (∀ (j:Nat) x,B[j]?=some x->w.drew.cell? ((⟨g,0,none⟩:Addr).add j)=some x):=fun j x hx=>by rw [PN] at hx;simp at hx
   have HBN:=dq PN;clear PN
   go_region_law
    ((first
     | (refine step_append_room (by rfl) _ _ _ (by rfl) 112 i0 9 Tryz.underlying76 hi hz1 g 0 m1.length cap (by rfl) ⟨g,0,none⟩ 0 _ B (by rfl) lB HCB'.out qM.out hroom Pr.out ?_)
     | fail))
   all_goals
    go_wp2_with fail;go_meet
    case rel=>exact ⟨rfl,by have:=HF.out;rw [show w.drew.setCells g (m1.length*9) B=w.drew by rw [HBN.out];rfl] at this;exact this⟩
 case rest=>
  obtain ⟨rfl,⟨tail,htl,ff⟩,nT⟩:=hcut;have hcz:∀ j,j<9->(wc.cell? ⟨g,(m1.length+m2.length)*9+j,none⟩).isSome=true:=fun j hj=>by
   obtain ⟨x,hx⟩:∃ x,(A++B++(tail++R))[(m1.length+m2.length)*9+j]?=some x:=⟨_,aA (by simp only [aD];omega)⟩;rw [show wc.cell? ⟨g,(m1.length+m2.length)*9+j,none⟩=some x from ff.cell _ hx];rfl
  have hfz:∀ j,j<9->wc.frozen? ⟨g,(m1.length+m2.length)*9+j,none⟩=false:=fun j _=>ff.frozen _;have HCZ:=dq hcz;have HFZ:=dq hfz;have nQ:(m1.length:Int)+(m2.length:Int)<=(m1.length:Int)+1+(m2.length:Int):=by omega
  have Ou:¬ cap=m1.length+m2.length:=by omega
  clear hcz hfz Fz Pr qM;go_wp2_with (first
   | (refine zSg rfl _ rfl g ((m1.length+m2.length)*9) _ _ rfl (by omega) HCZ.out HFZ.out ?_)
   | fail)
  go_ret;have e:(m1.length+m2.length)*9=(A++B).length:=by rw [aD];omega
  have gp:dg (wc.setCells g ((m1.length+m2.length)*9) wA) g (A++B++wA++R) 112:=by
   rw [e];exact dg.setCells wA wc (A++B) tail R (by rw [aU (A++B)];exact ff) (by rw [htl];rfl)
  have lP:Mod (eA g) w (wc.setCells g ((m1.length+m2.length)*9) wA):=nT.trans (Mod.setCells _ _ _);have hq:Qm w L (eA g):=fun k _ ek=>by
   simp only [eA] at ek;subst ek;have:=HB.out;rw [dg] at this;rintro (e1 | ⟨⟨cur',fr,e1⟩,_⟩)
   ·omega
   ·rw [this] at e1;simp at e1
  refine ⟨_,rfl,⟨xY++yp,by simp [oJ,hl2],⟨?_,.inr ⟨g,cap,(A++B++wA++R).toArray,by simp,Dj,gp,by simp;omega,by unfold maxLen;omega,?_,?_⟩⟩,?_,?_⟩,rfl,lP.mono (fun i _ ei=>by simp only [eA] at ei;rw [ei];rfl)⟩
  ·rw [Bu _ _ (by simp [oJ,hl2])]
  ·simp only [bC,aD,show wA.length=9 from rfl];omega
  ·rw [Rm _ _ _ _ oJ,<-HA.out,<-HBB.out,aD,e,aU (A++B),dU]
  ·intro i m' u' hi' hu';refine iH.mod ?_ lP hq;by_cases hlt:i<m1.length
   ·rw [aE hlt] at hi';rw [aE (by omega)] at hu';exact rI.out i m' u' (by rw [aE hlt];exact hi') (by rw [aE (by omega)];exact hu')
   ·rw [aM (by omega)] at hi' hu';refine rI.out (i+1) m' u' ?_ ?_
    ·rw [aM (by omega),show i+1 - m1.length=i - m1.length+1 by omega,cT];exact hi'
    ·rw [aM (by omega),show i+1 - xY.length=i - xY.length+1 by omega,cT];exact hu'
  ·intro m' hm';refine vp.out m' ?_;rcases aN.1 hm' with h | h
   ·exact aN.2 (.inl h)
   ·exact aN.2 (.inr (bS _ h))
variable {E:Ext}
def VF(s:fC)(k:Nat):fC:=⟨s.way.eraseIdx k,s.lost,s.down⟩
theorem yRa{α:Type}{l:List α}{k:Nat}{x:α}(h:l[k]?=some x):∃ a b,l=a++x :: b/\a.length=k/\l.eraseIdx k=a++b:=by
 have hk:k<l.length:=(aB.1 h).1;refine ⟨l.take k,l.drop (k+1),?_,by rw [aZ];omega,by rw [List.eraseIdx_eq_take_drop_succ]⟩;rw [aA hk] at h;simp at h;rw [<-h,<-bh hk,aq]
theorem fO.Ev{w w6:World}{L:Lo}{g:Nat}{wv v6:Value}{mr:Option Nat}{s:fC}{ms:List dw}(h:fO E w L g wv mr s)(fs:Mod (fun k=>wv.ownBlock=some k) w w6)(hR:eV w6 L v6 ms)(hv:v6.ownBlock=wv.ownBlock)(hf:ms.length<=200) :
  fO E (w6.setCell ⟨g,2,none⟩ v6) L g v6 mr ⟨ms,s.lost,s.down⟩/\Mod (mx g wv mr) w (w6.setCell ⟨g,2,none⟩ v6):=by
 obtain ⟨a1,a2,a3⟩:=h.apart;have nQ:dg w6 g [E.a0,E.a1,wv,.int .i64 s.lost,.map mr,E.a5,E.a6] 84:=h.blk.mod fs a1;have tP:=nQ;simp only [dg] at tP;have ib:Mod (eA g) w6 (w6.setCell ⟨g,2,none⟩ v6):=Mod.dt g 2 _;have Hz:Qm w6 L (eA g):=fun k _ e=>by
  simp only [eA] at e;subst e;rintro (e | ⟨⟨cur,fr,e⟩,_⟩)
  ·have:=h.low;omega
  ·rw [tP] at e;simp at e
 refine ⟨⟨nQ.set 2 _,h.low,hR.mod ib Hz (fun k hk e=>a1 (by rw [<-hv,hk,e])),(h.dn.mod fs (fun k hk e=>a3 k e hk)).mod ib (fun k hk e=>a2 (by rw [hk,e])),hf,h.lo,fun k hk=>aH (h.xb k hk) (aJ fs.size ib.size)⟩,?_⟩;exact (fs.mono (fun i _ e=>.inr (.inl e))).setCell (p:=⟨g,2,none⟩) (fun _=>.inl rfl) _
theorem yHd(L:Lo)(g:Nat)(wv:Value)(mr:Option Nat)(s:fC)(k:Nat)(m:dw)(w:World)(h:fO E w L g wv mr s)(hm:s.way[k]?=some m) :
  Calls Tryz.prog 54 #[.pointer (some ⟨g,2,none⟩),.int .i64 k] w fun e w'=>∃ iN u,e=.returned (.tuple #[uy m u,.nilIface])/\fO E w' L g iN mr (VF s k)/\iH w' L u m.cmd.writes/\iN.ownBlock=wv.ownBlock/\Mod (mx g wv mr) w w':=by
 have hk:k<s.way.length:=(aB.1 hm).1;have fR:=h.few;have HH:Hid (Calls Tryz.prog 94 #[.pointer (some ⟨g,2,none⟩),.int .i64 k] (w.alloc (.cells #[.int .i64 0,.int .i64 0,.int .i64 0,.int .i64 0,.int .i64 0,.int .i64 0,.int .i64 0,.int .i64 0,.slice none 0 0] 112)) fun e w'=>e=.returned (.bool (hasB s k))/\w'=(w.alloc (.cells #[.int .i64 0,.int .i64 0,.int .i64 0,.int .i64 0,.int .i64 0,.int .i64 0,.int .i64 0,.int .i64 0,.slice none 0 0] 112))):=Lh L g wv mr s k _ (h.mod ((Mod.refl dZ w).alloc _) (Qm.none _ _) (fun _ _=>id));have Oc:hasB s k=true:=by simp [hasB];omega
 rw [Oc] at HH;obtain ⟨w0,hw0⟩:∃ q,q=w.alloc (.cells #[.int .i64 0,.int .i64 0,.int .i64 0,.int .i64 0,.int .i64 0,.int .i64 0,.int .i64 0,.int .i64 0,.slice none 0 0] 112):=⟨_,rfl⟩;have hm0:Mod dZ w w0:=by rw [hw0];exact (Mod.refl _ w).alloc _
 have hZ0:dg w0 w.heap.size [.int .i64 0,.int .i64 0,.int .i64 0,.int .i64 0,.int .i64 0,.int .i64 0,.int .i64 0,.int .i64 0,.slice none 0 0] 112:=by rw [hw0];exact dg.new w _ _
 have h0:=h.mod hm0 (Qm.none _ _) (fun _ _=>id);rw [<-hw0] at HH;go_enter Tryz.func54,Tryz.ntmps54;go_wp2_with fail;rw [<-hw0];clear hw0 Oc;refine HH.out.mono ?_;rintro e w1 ⟨rfl,hw1⟩;subst hw1;clear HH;obtain ⟨b,yJ,u,hv,hcb,hcm,hu,jF,q0,q1,q2,q3,q4,q5,q6,q7,q8⟩:=h0.row.at hm;subst hv;have c0:=h0.blk.cell 2 rfl;obtain ⟨ua,dp,rfl⟩:∃ ua dp,u=.slice ua m.cmd.writes.length dp:=by obtain ⟨ua,dp,h,_⟩:=hu;exact ⟨ua,dp,h⟩
 obtain ⟨m1,m2,hsp,oJ,her⟩:=yRa hm;have FY:eV w1 L (.slice (some ⟨b,0,none⟩) s.way.length yJ) (m1++m :: m2):=by rw [<-hsp];exact h0.row
 have vM:=h0.blk.lt;obtain ⟨w2,hw2⟩:∃ q,q=w1.alloc (.cells #[.int .i64 m.kind,.int .i64 m.eF,.int .i64 m.to,.int .i64 m.dk,.int .i64 m.n,.int .i64 m.cmd.kind,.int .i64 m.cmd.tx,.int .i64 m.cmd.time,.slice ua m.cmd.writes.length dp] 112):=⟨_,rfl⟩;have hm2:Mod dZ w1 w2:=by rw [hw2];exact (Mod.refl _ w1).alloc _
 have gp:dg w2 w1.heap.size (ig m (.slice ua m.cmd.writes.length dp)) 112:=by rw [hw2];exact dg.new w1 _ _
 have h2:=h0.mod hm2 (Qm.none _ _) (fun _ _=>id);have c2:=h2.blk.cell 2 rfl;have f2:=h2.blk.frozen 2;have hD:=yKz L m1 m2 m _ w2 (FY.mod hm2 (Qm.none _ _) (fun _ _=>id)) (by rw [<-hsp];exact fR);rw [oJ] at hD;have HD:=dq hD;have HER:=dq her;clear hD her hsp FY;go_wp2_with fail;rw [<-hw2];refine HD.out.mono ?_;rintro e w3 ⟨v3,rfl,zB,hv3,dy⟩;rw [<-HER.out] at zB;have Dp:=h2.apart;have R:=h2.Ev dy zB hv3 (by rw [List.length_eraseIdx];split <;> omega);have c3:=dy.cell c2 Dp.1;have f3:=(dy.frozen (p:=⟨g,2,none⟩) h2.blk.lt Dp.1).trans f2;have hu3:=((hu.mod hm2 (Qm.none _ _)).mod dy (Qm.mf h2 (fun k _ e=>.inr (.inl e))));have hbl:b<w.heap.size:=(h.lt (.inr (.inl rfl))).2.1;have hz1:=hm0.size;have hBr:=gp.mod dy (fun e=>by simp [Value.ownBlock] at e;omega);have hZr:=(hZ0.mod hm2 id).mod dy (fun e=>by simp [Value.ownBlock] at e;omega);have hgw:g<w.heap.size:=h.blk.lt;have Iv:=hBr.mod (Mod.dt (w:=w3) g 2 v3) (fun e=>by simp only [eA] at e;omega);have YN:=hZr.mod (Mod.dt (w:=w3) g 2 v3) (fun e=>by simp only [eA] at e;omega);obtain ⟨⟨p0,p1,p2,p3,p4,p5,p6,p7,p8⟩,_⟩:=iM Iv;obtain ⟨⟨z0,z1,z2,z3,z4,z5,z6,z7,z8⟩,⟨y0,y1,y2,y3,y4,y5,y6,y7,y8⟩⟩:=iM YN;obtain ⟨KX,Ek,Hr⟩:=zB.slice;subst Hr;have Za:=dq R;have HM:=dq ((hm0.trans hm2).mono (G':=mx g (.slice (some ⟨b,0,none⟩) s.way.length yJ) mr) (fun _ _ e=>e.elim));have HU3:=dq (hu3.mod (Mod.dt (w:=w3) g 2 (.slice KX (s.way.eraseIdx k).length Ek)) (fun x hx e=>by
  simp only [eA] at e;subst e;have hb:=h2.blk.mod dy Dp.1;simp only [dg] at hb;rintro (e | ⟨⟨cur,fr,e⟩,_⟩)
  ·have:=h.low;omega
  ·rw [hb] at e;simp at e))
 have Sn:=dq hv3;have HMR:Hid (∀ k,mr=some k->k<w.heap.size):=fun k hk=>(h.lt (.inr (.inr hk))).2.1;have kD:=h.low;clear R dy hu3 hBr hZr zB gp hm2 hm0 h2 HD hZ0 h0 hu h q0 q1 q2 q3 q4 q5 q6 q7 q8 c0 c2 f2 Dp hv3;go_wp2_with fail;have hq9:Qm (w3.setCell ⟨g,2,none⟩ (.slice KX (s.way.eraseIdx k).length Ek)) L (eA w.heap.size):=fun x hx e=>by
  simp only [eA] at e;subst e;have hb:=YN;simp only [dg] at hb;rintro (e | ⟨⟨cur,fr,e⟩,_⟩)
  ·omega
  ·rw [hb] at e;simp at e
 refine bodyPost_ret (Br Tryz.results54 _ ⟨w.heap.size,0,none⟩ rfl rfl (yHm YN _ _ _ _ _ _ _ _ _)) rfl ⟨.slice KX (s.way.eraseIdx k).length Ek,.slice ua m.cmd.writes.length dp,rfl,?_,?_,Sn.out,?_⟩
 ·refine Za.out.1.mod (MH _ _ _ _ _ _ _ _ _ _ _) hq9 (fun x hx e=>?_);simp only [eA] at e;rcases hx with hx | hx | hx
  ·omega
  ·rw [Sn.out] at hx;simp [Value.ownBlock] at hx;omega
  ·have:=HMR.out x hx;omega
 ·exact HU3.out.mod (MH _ _ _ _ _ _ _ _ _ _ _) hq9
 ·exact (HM.out.trans Za.out.2).trans' (MH _ _ _ _ _ _ _ _ _ _ _) (fun i hi e=>by simp only [eA] at e;omega)
theorem yUm(L:Lo)(g:Nat)(wv:Value)(mr:Option Nat)(s:fC)(k:Int)(w:World)(h:fO E w L g wv mr s)(hk:hasB s k=false) :
  Calls Tryz.prog 54 #[.pointer (some ⟨g,2,none⟩),.int .i64 k] w fun e w'=>e=.returned (.tuple #[uy yLt (.slice none 0 0),.iface 90 (.int .i64 2)])/\Mod dZ w w':=by
 have HH:=dq (Lh L g wv mr s k _ (h.mod ((Mod.refl dZ w).alloc (.cells #[.int .i64 0,.int .i64 0,.int .i64 0,.int .i64 0,.int .i64 0,.int .i64 0,.int .i64 0,.int .i64 0,.slice none 0 0] 112)) (Qm.none _ _) (fun _ _=>id)));rw [hk] at HH;clear h hk;go_enter Tryz.func54,Tryz.ntmps54;go_wp2_with fail;refine HH.out.mono ?_;rintro e w1 ⟨rfl,rfl⟩;go_wp2_with fail;refine bodyPost_ret (Br Tryz.results54 _ ⟨w.heap.size,0,none⟩ rfl rfl (TO (dg.new w _ _))) rfl ⟨rfl,(Mod.refl _ w).alloc _⟩
end Go.Proofs.YtmaiggbnceejiaaGreatDoor
namespace Go.Proofs.YtmaiggbnceejiaaGreatDoor
open Go.RowKit Go.Lib Go.Maps
variable {E:Ext}
def Rp(s:fC)(k:Nat):fC:=⟨s.way.eraseIdx k,s.lost+1,s.down⟩
theorem Mod.WR{w w1 w2:World}{g:Nat}{v v':Value}{mr:Option Nat}(h:Mod (mx g v mr) w w1)(hm:v'.ownBlock=v.ownBlock)(k:Mod (mx g v' mr) w1 w2):Mod (mx g v mr) w w2:=h.net (.inl hm) k
theorem ySf(L:Lo)(g:Nat)(wv:Value)(mr:Option Nat)(s:fC)(k:Nat)(m:dw)(w:World)(h:fO E w L g wv mr s)(hm:s.way[k]?=some m)(hlo:s.lost+1<=4611686018427387904) :
  Calls Tryz.prog 57 #[.pointer (some ⟨g,2,none⟩),.int .i64 k] w fun e w'=>∃ iN,e=.returned .nilIface/\fO E w' L g iN mr (Rp s k)/\iN.ownBlock=wv.ownBlock/\Mod (mx g wv mr) w w':=by
 have HT:=dq (yHd L g wv mr s k m w h hm);have hl0:=h.lo;clear h;go_enter Tryz.func57,Tryz.ntmps57;go_wp2_with fail;refine HT.out.mono ?_;rintro e w1 ⟨Mn,u,rfl,oL,hu1,hv1,dh⟩;simp only [uy];obtain ⟨ua,dp,rfl⟩:∃ ua dp,u=.slice ua m.cmd.writes.length dp:=by obtain ⟨ua,dp,h,_⟩:=hu1;exact ⟨ua,dp,h⟩
 have c1:=oL.blk.cell 3 rfl;have vM:=oL.blk.lt;have f1:=oL.blk.frozen 3;have HR:=dq (oL.loses (s.lost+1) (by omega));have HV:=dq hv1;have HM:=dq (Mod.WR dh hv1 HR.out.2);simp only [VF] at c1;clear oL hu1 dh HT hv1;go_wp2_with fail;go_ret;exact ⟨Mn,rfl,HR.out.1.mod ((Mod.refl dZ _).alloc _) (Qm.none _ _) (fun _ _=>id),HV.out,HM.out.alloc _⟩
theorem yUy(L:Lo)(g:Nat)(wv:Value)(mr:Option Nat)(s:fC)(k:Int)(w:World)(h:fO E w L g wv mr s)(hk:hasB s k=false) :
  Calls Tryz.prog 57 #[.pointer (some ⟨g,2,none⟩),.int .i64 k] w fun e w'=>e=.returned (.iface 90 (.int .i64 2))/\Mod dZ w w':=by
 have HT:=dq (yUm L g wv mr s k w h hk);clear h hk;go_enter Tryz.func57,Tryz.ntmps57;go_wp2_with fail;refine HT.out.mono ?_;rintro e w1 ⟨rfl,dh⟩;simp only [uy];go_wp2_with fail;go_ret;exact ⟨rfl,dh.alloc _⟩
theorem yQs(L:Lo)(g:Nat)(wv:Value)(mr:Option Nat)(s:fC)(k:Int)(w:World)(h:fO E w L g wv mr s)(hk:hasB s k=false) :
  Calls Tryz.prog 58 #[.pointer (some ⟨g,2,none⟩),.int .i64 k] w fun e w'=>e=.returned (.iface 90 (.int .i64 2))/\Mod dZ w w':=by
 have HT:=dq (Lh L g wv mr s k w h);rw [hk] at HT;clear h hk;go_enter Tryz.func58,Tryz.ntmps58;go_wp2_with fail;refine HT.out.mono ?_;rintro e w1 ⟨rfl,rfl⟩;go_wp2_with fail;go_ret;exact ⟨rfl,Mod.refl _ _⟩
theorem yIy(L:Lo)(g:Nat)(wv:Value)(mr:Option Nat)(s:fC)(k:Int)(w:World)(h:fO E w L g wv mr s)(hk:hasB s k=true)(hr:¬ s.way.length<200) :
  Calls Tryz.prog 58 #[.pointer (some ⟨g,2,none⟩),.int .i64 k] w fun e w'=>e=.returned (.iface 90 (.int .i64 4))/\Mod dZ w w':=by
 have HT:=dq (Lh L g wv mr s k w h);rw [hk] at HT;have HR:=dq (TV L g wv mr s w h);rw [aL hr] at HR;clear h hk hr;go_enter Tryz.func58,Tryz.ntmps58;go_wp2_with fail;refine HT.out.mono ?_;rintro e w1 ⟨rfl,hw1⟩;subst hw1;go_wp2_with fail;refine HR.out.mono ?_;rintro e w2 ⟨rfl,hw2⟩;subst hw2;go_wp2_with fail;go_ret;exact ⟨rfl,Mod.refl _ _⟩
theorem yMg(L:Lo)(g:Nat)(wv:Value)(mr:Option Nat)(s:fC)(k:Nat)(m:dw)(w:World)(h:fO E w L g wv mr s)(hm:s.way[k]?=some m)(hr:s.way.length<200)(hlo:s.lost+1<=4611686018427387904) :
  Calls Tryz.prog 58 #[.pointer (some ⟨g,2,none⟩),.int .i64 k] w fun e w'=>∃ iN,e=.returned .nilIface/\fO E w' L g iN mr (mR s m)/\iF w wv iN/\Mod (mx g wv mr) w w':=by
 have hk:k<s.way.length:=(aB.1 hm).1;have HT:=dq (Lh L g wv mr s k w h);have Oc:hasB s k=true:=by simp [hasB];omega
 rw [Oc] at HT;have HR:=dq (TV L g wv mr s w h);rw [aQ hr] at HR;clear Oc;obtain ⟨b,yJ,u,hv,hcb,hcm,hu,jF,q0,q1,q2,q3,q4,q5,q6,q7,q8⟩:=h.row.at hm;subst hv;have c0:=h.blk.cell 2 rfl;obtain ⟨ua,dp,rfl⟩:∃ ua dp,u=.slice ua m.cmd.writes.length dp:=by obtain ⟨ua,dp,h,_⟩:=hu;exact ⟨ua,dp,h⟩
 have dh:Mod dZ w (w.alloc (.cells #[.int .i64 m.kind,.int .i64 m.eF,.int .i64 m.to,.int .i64 m.dk,.int .i64 m.n,.int .i64 m.cmd.kind,.int .i64 m.cmd.tx,.int .i64 m.cmd.time,.slice ua m.cmd.writes.length dp] 112)):=(Mod.refl _ w).alloc _;have ff:=dg.new w (ig m (.slice ua m.cmd.writes.length dp)) 112;have hV1:Gc (w.alloc (.cells #[.int .i64 m.kind,.int .i64 m.eF,.int .i64 m.to,.int .i64 m.dk,.int .i64 m.n,.int .i64 m.cmd.kind,.int .i64 m.cmd.tx,.int .i64 m.cmd.time,.slice ua m.cmd.writes.length dp] 112)) L (fun x=>x=w.heap.size) (.slice (some ⟨w.heap.size,0,none⟩) 1 1) [m]:=by
  refine ⟨_,_,rfl,aF _,by unfold maxLen;omega,.inr ⟨w.heap.size,0,rfl,rfl,fun i m' hi'=>?_⟩⟩;have e:i=0/\m'=m:=by
   cases i with
   | zero=>simp at hi';exact ⟨rfl,hi'.symm⟩
   | succ i=>simp at hi'
  obtain ⟨rfl,rfl⟩:=e;exact ⟨_,hu.mod dh (Qm.none _ _),jF,fun j x hx=>by
   rw [show 0+0*9+j=j by omega];exact ff.cell j hx⟩
 have HS:=dq (yHg L g _ mr s _ _ [m] _ (h.mod dh (Qm.none _ _) (fun _ _=>id)) hV1 (fun x hx=>⟨by subst hx;simp,fun e=>by
  have:=(h.lt e).2.1;omega⟩) (by simpa using hlo))
 clear h hV1 ff hu;go_enter Tryz.func58,Tryz.ntmps58;go_wp2_with fail;refine HT.out.mono ?_;rintro e w1 ⟨rfl,hw1⟩;subst hw1;go_wp2_with fail;refine HR.out.mono ?_;rintro e w2 ⟨rfl,hw2⟩;subst hw2;go_wp2_with fail;refine HS.out.mono ?_;rintro e w3 ⟨wv3,rfl,qy,hv3,dy⟩;go_wp2_with fail;go_ret;refine ⟨wv3,rfl,qy,?_,(dh.mono (fun _ _ e=>e.elim)).trans dy⟩;rcases hv3 with e | e
 ·exact .inl e
 ·exact .inr (fun x hx=>by have:=e x hx;simp at this;omega)
end Go.Proofs.YtmaiggbnceejiaaGreatDoor
