import Derived.Test.YtmaiggbnceejiaaGreatDoorP04
import Derived.Test.YtmaiggbnceejiaaGreatDoorP03
import Derived.Lib.SliceRun
set_option linter.unusedVariables false
set_option maxRecDepth 100000
set_option maxHeartbeats 16000000
namespace Go.Proofs.YtmaiggbnceejiaaGreatDoor
open Go.RowKit Go.Lib Go.Maps
def sC(s:eH)(f:Int):List dp:=match gp s 1 with
 | none=>[]
 | some t=>ke s t f.toNat (s.log.length - f.toNat)
def uN(s:eH)(n:Int):eH:=yb s (if s.gj<n then n else s.gj)
def fy(s:eH)(m:dp):eH × List dp:=
 if m.db=s.db/\m.to=s.id then
  if m.kind=1/\mO s (-1) m.eI=true then (s,kY s (-1) (pG 2 s.log.length))
  else if m.kind=2/\mO s 1 m.eI=true/\0<=m.n then (s,sC s m.n)
  else if m.kind=3/\mO s (-1) m.eI=true/\m.n=s.log.length/\s.log.length<500 then mX s m.cmd
  else if m.kind=4/\mO s 1 m.eI=true/\0<=m.n/\m.n<=s.log.length then (uN s m.n,kY (uN s m.n) (-1) (pG 4 (uN s m.n).gj))
  else (s,[])
 else (s,[])
theorem FG{s:eH}{wh x:Int}(h:mO s wh x=true):gp s wh=some x:=by
 unfold mO at h
 cases hn:gp s wh with
 | none=>rw [hn] at h;cases h
 | some y=>rw [hn] at h;simp at h;rw [h]
theorem GG{s:eH}{wh x:Int}(h:mO s wh x=true):oD s=true:=by
 have:=FG h;unfold gp at this;split at this
 ·rename_i e;simp only [bN] at e;exact e.1
 ·cases this
theorem yOa(L:Lo)(g:Nat)(nv lv:Value)(s:eH)(m:dp)(u:Value)(w:World)(h:fh w L g nv lv s)(hu:iE w L u m.cmd.writes)(jB:qW m)(hoff:¬ (m.db=s.db/\m.to=s.id)) :
  Calls Tryz.prog 56 #[.pointer (some ⟨g,0,none⟩),.agg #[.int .i64 m.kind,.int .i64 m.eI,.int .i64 m.to,.int .i64 m.db,.int .i64 m.n,.int .i64 m.cmd.kind,.int .i64 m.cmd.tx,.int .i64 m.cmd.time,u]] w fun e w'=>e=.returned (.slice none 0 0)/\Mod dZ w w':=by
 obtain ⟨ua,dj,rfl⟩:∃ ua dj,u=.slice ua m.cmd.writes.length dj:=by obtain ⟨ua,dj,h,_⟩:=hu;exact ⟨ua,dj,h⟩
 obtain ⟨w1,hw1⟩:∃ q,q=w.alloc (.cells #[.int .i64 m.kind,.int .i64 m.eI,.int .i64 m.to,.int .i64 m.db,.int .i64 m.n,.int .i64 m.cmd.kind,.int .i64 m.cmd.tx,.int .i64 m.cmd.time,.slice ua m.cmd.writes.length dj] 112):=⟨_,rfl⟩;have di:Mod dZ w w1:=by rw [hw1];exact (Mod.refl _ w).alloc _
 have fi:dh w1 w.heap.size (iW m (.slice ua m.cmd.writes.length dj)) 112:=by rw [hw1];exact dh.new w _ _
 have h1:=h.quiet di;obtain ⟨la,fG,hlv⟩:=h1.lg.slice;subst hlv;obtain ⟨c0,c1,c2,c3,c4⟩:=mG h1.blk;obtain ⟨⟨x0,x1,x2,x3,x4,x5,x6,x7,x8⟩,_⟩:=iH fi;have z1:=fi.lt;have z2:=h1.blk.lt;have hz1:=di.size;have fW:=h1.few;have hst:=h1.st;have HN:=eC h1;have HU:=eC (hu.mod di (Qm.none _ _));clear h hu h1;go_enter Tryz.func56,Tryz.ntmps56;go_upto_region 1 with fail;rw [<-hw1];clear hw1;by_cases iP:m.db=s.db
 ·have iZ:¬ m.to=s.id:=fun e=>hoff ⟨iP,e⟩;have zo:(m.db != s.db)=false:=by simp [iP]
  have wC:(m.to != s.id)=true:=by simpa using iZ
  go_quiet (fail);go_wp2_with fail;go_ret;exact ⟨rfl,by first | exact di.drewN _ | exact (di.drewN _).drewN _ | exact ((di.drewN _).drewN _).drewN _ | exact (((di.drewN _).drewN _).drewN _).drewN _⟩
 ·have zo:(m.db != s.db)=true:=by simpa using iP
  go_quiet (fail);go_wp2_with fail;go_ret;exact ⟨rfl,by first | exact di.drewN _ | exact (di.drewN _).drewN _ | exact ((di.drewN _).drewN _).drewN _ | exact (((di.drewN _).drewN _).drewN _).drewN _⟩
theorem yJy(L:Lo)(g:Nat)(nv lv:Value)(s:eH)(m:dp)(u:Value)(w:World)(h:fh w L g nv lv s)(hu:iE w L u m.cmd.writes)(jB:qW m)(iP:m.db=s.db)(iZ:m.to=s.id)(hk1:m.kind≠1)(hk2:m.kind≠2)(hk3:m.kind≠3)(hk4:m.kind≠4) :
  Calls Tryz.prog 56 #[.pointer (some ⟨g,0,none⟩),.agg #[.int .i64 m.kind,.int .i64 m.eI,.int .i64 m.to,.int .i64 m.db,.int .i64 m.n,.int .i64 m.cmd.kind,.int .i64 m.cmd.tx,.int .i64 m.cmd.time,u]] w fun e w'=>e=.returned (.slice none 0 0)/\Mod dZ w w':=by
 have rJ:=eC iP;have tR:=eC iZ;clear iP iZ;obtain ⟨ua,dj,rfl⟩:∃ ua dj,u=.slice ua m.cmd.writes.length dj:=by obtain ⟨ua,dj,h,_⟩:=hu;exact ⟨ua,dj,h⟩
 obtain ⟨w1,hw1⟩:∃ q,q=w.alloc (.cells #[.int .i64 m.kind,.int .i64 m.eI,.int .i64 m.to,.int .i64 m.db,.int .i64 m.n,.int .i64 m.cmd.kind,.int .i64 m.cmd.tx,.int .i64 m.cmd.time,.slice ua m.cmd.writes.length dj] 112):=⟨_,rfl⟩;have di:Mod dZ w w1:=by rw [hw1];exact (Mod.refl _ w).alloc _
 have fi:dh w1 w.heap.size (iW m (.slice ua m.cmd.writes.length dj)) 112:=by rw [hw1];exact dh.new w _ _
 have h1:=h.quiet di;obtain ⟨la,fG,hlv⟩:=h1.lg.slice;subst hlv;obtain ⟨c0,c1,c2,c3,c4⟩:=mG h1.blk;obtain ⟨⟨x0,x1,x2,x3,x4,x5,x6,x7,x8⟩,_⟩:=iH fi;have z1:=fi.lt;have z2:=h1.blk.lt;have hz1:=di.size;have fW:=h1.few;have hst:=h1.st;have HN:=eC h1;have HU:=eC (hu.mod di (Qm.none _ _));clear h hu h1;go_enter Tryz.func56,Tryz.ntmps56;go_upto_region 1 with fail;rw [<-hw1];clear hw1;have k1:(m.kind == 1)=false:=by simpa using hk1
 have k2:(m.kind == 2)=false:=by simpa using hk2
 have k3:(m.kind == 3)=false:=by simpa using hk3
 have k4:(m.kind == 4)=false:=by simpa using hk4
 have zo:(m.db != s.db)=false:=by simp [rJ.out]
 have wC:(m.to != s.id)=false:=by simp [tR.out]
 go_quiet (fail);go_upto_region 7 with fail;go_quiet (fail);go_upto_region 9 with fail;go_quiet (fail);go_wp2_with fail;go_ret;exact ⟨rfl,by first | exact di.drewN _ | exact (di.drewN _).drewN _ | exact ((di.drewN _).drewN _).drewN _ | exact (((di.drewN _).drewN _).drewN _).drewN _⟩
theorem yJw(L:Lo)(g:Nat)(nv lv:Value)(s:eH)(m:dp)(u:Value)(w:World)(h:fh w L g nv lv s)(hu:iE w L u m.cmd.writes)(jB:qW m)(iP:m.db=s.db)(iZ:m.to=s.id)(hk:m.kind=1)(hi:mO s (-1) m.eI=true) :
  Calls Tryz.prog 56 #[.pointer (some ⟨g,0,none⟩),.agg #[.int .i64 m.kind,.int .i64 m.eI,.int .i64 m.to,.int .i64 m.db,.int .i64 m.n,.int .i64 m.cmd.kind,.int .i64 m.cmd.tx,.int .i64 m.cmd.time,u]] w fun e w'=>∃ v,e=.returned v/\eX w' L v (kY s (-1) (pG 2 s.log.length))/\lE w v/\Mod dZ w w':=by
 have rJ:=eC iP;have tR:=eC iZ;have HK:=eC hk;clear iP iZ hk;obtain ⟨ua,dj,rfl⟩:∃ ua dj,u=.slice ua m.cmd.writes.length dj:=by obtain ⟨ua,dj,h,_⟩:=hu;exact ⟨ua,dj,h⟩
 obtain ⟨w1,hw1⟩:∃ q,q=w.alloc (.cells #[.int .i64 m.kind,.int .i64 m.eI,.int .i64 m.to,.int .i64 m.db,.int .i64 m.n,.int .i64 m.cmd.kind,.int .i64 m.cmd.tx,.int .i64 m.cmd.time,.slice ua m.cmd.writes.length dj] 112):=⟨_,rfl⟩;have di:Mod dZ w w1:=by rw [hw1];exact (Mod.refl _ w).alloc _
 have fi:dh w1 w.heap.size (iW m (.slice ua m.cmd.writes.length dj)) 112:=by rw [hw1];exact dh.new w _ _
 have h1:=h.quiet di;obtain ⟨la,fG,hlv⟩:=h1.lg.slice;subst hlv;obtain ⟨c0,c1,c2,c3,c4⟩:=mG h1.blk;obtain ⟨⟨x0,x1,x2,x3,x4,x5,x6,x7,x8⟩,_⟩:=iH fi;have z1:=fi.lt;have z2:=h1.blk.lt;have hz1:=di.size;have fW:=h1.few;have hst:=h1.st;have HN:=eC h1;have HU:=eC (hu.mod di (Qm.none _ _));clear h hu h1;go_enter Tryz.func56,Tryz.ntmps56;go_upto_region 1 with fail;rw [<-hw1];clear hw1;have k1:(m.kind == 1)=true:=by simp [HK.out]
 have k2:(m.kind == 2)=false:=by simp [HK.out]
 have k3:(m.kind == 3)=false:=by simp [HK.out]
 have k4:(m.kind == 4)=false:=by simp [HK.out]
 have zo:(m.db != s.db)=false:=by simp [rJ.out]
 have wC:(m.to != s.id)=false:=by simp [tR.out]
 go_quiet (fail);have HI:=Aj L g nv _ s (-1) m.eI _ (HN.out.drewN nq) (.inr rfl);rw [hi] at HI;have rI:=eC HI;clear HI;go_wp2_with fail;refine rI.out.mono ?_;rintro e w2 ⟨rfl,m2,rfl⟩;have HS:=eC (Lc L g nv _ s (-1) (pG 2 s.log.length) (.slice none 0 0) _ (HN.out.drewN (nq+m2)) (.inr rfl) (iE.nil _ _) (Qi _ _ (by simp [gw]) (by simp only [gw];omega)));clear rI;go_wp2_with fail;refine HS.out.mono ?_;rintro e w3 ⟨v,rfl,hR,hf,dz⟩;clear HS;go_wp2_with fail;go_ret;exact ⟨v,rfl,hR,fun k hk=>aM hz1 (hf k hk),(di.drewN (nq+m2)).trans dz⟩
theorem zZt(L:Lo)(g:Nat)(nv lv:Value)(s:eH)(m:dp)(u:Value)(w:World)(h:fh w L g nv lv s)(hu:iE w L u m.cmd.writes)(jB:qW m)(iP:m.db=s.db)(iZ:m.to=s.id)(hk:m.kind=1)(hi:mO s (-1) m.eI=false) :
  Calls Tryz.prog 56 #[.pointer (some ⟨g,0,none⟩),.agg #[.int .i64 m.kind,.int .i64 m.eI,.int .i64 m.to,.int .i64 m.db,.int .i64 m.n,.int .i64 m.cmd.kind,.int .i64 m.cmd.tx,.int .i64 m.cmd.time,u]] w fun e w'=>e=.returned (.slice none 0 0)/\Mod dZ w w':=by
 have rJ:=eC iP;have tR:=eC iZ;have HK:=eC hk;clear iP iZ hk;obtain ⟨ua,dj,rfl⟩:∃ ua dj,u=.slice ua m.cmd.writes.length dj:=by obtain ⟨ua,dj,h,_⟩:=hu;exact ⟨ua,dj,h⟩
 obtain ⟨w1,hw1⟩:∃ q,q=w.alloc (.cells #[.int .i64 m.kind,.int .i64 m.eI,.int .i64 m.to,.int .i64 m.db,.int .i64 m.n,.int .i64 m.cmd.kind,.int .i64 m.cmd.tx,.int .i64 m.cmd.time,.slice ua m.cmd.writes.length dj] 112):=⟨_,rfl⟩;have di:Mod dZ w w1:=by rw [hw1];exact (Mod.refl _ w).alloc _
 have fi:dh w1 w.heap.size (iW m (.slice ua m.cmd.writes.length dj)) 112:=by rw [hw1];exact dh.new w _ _
 have h1:=h.quiet di;obtain ⟨la,fG,hlv⟩:=h1.lg.slice;subst hlv;obtain ⟨c0,c1,c2,c3,c4⟩:=mG h1.blk;obtain ⟨⟨x0,x1,x2,x3,x4,x5,x6,x7,x8⟩,_⟩:=iH fi;have z1:=fi.lt;have z2:=h1.blk.lt;have hz1:=di.size;have fW:=h1.few;have hst:=h1.st;have HN:=eC h1;have HU:=eC (hu.mod di (Qm.none _ _));clear h hu h1;go_enter Tryz.func56,Tryz.ntmps56;go_upto_region 1 with fail;rw [<-hw1];clear hw1;have k1:(m.kind == 1)=true:=by simp [HK.out]
 have k2:(m.kind == 2)=false:=by simp [HK.out]
 have k3:(m.kind == 3)=false:=by simp [HK.out]
 have k4:(m.kind == 4)=false:=by simp [HK.out]
 have zo:(m.db != s.db)=false:=by simp [rJ.out]
 have wC:(m.to != s.id)=false:=by simp [tR.out]
 go_quiet (fail);have HI:=Aj L g nv _ s (-1) m.eI _ (HN.out.drewN nq) (.inr rfl);rw [hi] at HI;have rI:=eC HI;clear HI;go_wp2_with fail;refine rI.out.mono ?_;rintro e w2 ⟨rfl,m2,rfl⟩;clear rI;go_upto_region 7 with fail;go_quiet (fail);go_upto_region 9 with fail;go_quiet (fail);go_wp2_with fail;go_ret;exact ⟨rfl,by first | exact di.drewN _ | exact (di.drewN _).drewN _ | exact ((di.drewN _).drewN _).drewN _ | exact (((di.drewN _).drewN _).drewN _).drewN _⟩
theorem yJz(L:Lo)(g:Nat)(nv lv:Value)(s:eH)(m:dp)(u:Value)(w:World)(h:fh w L g nv lv s)(hu:iE w L u m.cmd.writes)(jB:qW m)(iP:m.db=s.db)(iZ:m.to=s.id)(hk:m.kind=2)(hi:mO s 1 m.eI=true)(hn:0<=m.n) :
  Calls Tryz.prog 56 #[.pointer (some ⟨g,0,none⟩),.agg #[.int .i64 m.kind,.int .i64 m.eI,.int .i64 m.to,.int .i64 m.db,.int .i64 m.n,.int .i64 m.cmd.kind,.int .i64 m.cmd.tx,.int .i64 m.cmd.time,u]] w fun e w'=>∃ v,e=.returned v/\eX w' L v (sC s m.n)/\lE w v/\Mod dZ w w':=by
 have rJ:=eC iP;have tR:=eC iZ;have HK:=eC hk;clear iP iZ hk;obtain ⟨ua,dj,rfl⟩:∃ ua dj,u=.slice ua m.cmd.writes.length dj:=by obtain ⟨ua,dj,h,_⟩:=hu;exact ⟨ua,dj,h⟩
 obtain ⟨w1,hw1⟩:∃ q,q=w.alloc (.cells #[.int .i64 m.kind,.int .i64 m.eI,.int .i64 m.to,.int .i64 m.db,.int .i64 m.n,.int .i64 m.cmd.kind,.int .i64 m.cmd.tx,.int .i64 m.cmd.time,.slice ua m.cmd.writes.length dj] 112):=⟨_,rfl⟩;have di:Mod dZ w w1:=by rw [hw1];exact (Mod.refl _ w).alloc _
 have fi:dh w1 w.heap.size (iW m (.slice ua m.cmd.writes.length dj)) 112:=by rw [hw1];exact dh.new w _ _
 have h1:=h.quiet di;obtain ⟨la,fG,hlv⟩:=h1.lg.slice;subst hlv;obtain ⟨c0,c1,c2,c3,c4⟩:=mG h1.blk;obtain ⟨⟨x0,x1,x2,x3,x4,x5,x6,x7,x8⟩,_⟩:=iH fi;have z1:=fi.lt;have z2:=h1.blk.lt;have hz1:=di.size;have fW:=h1.few;have hst:=h1.st;have HN:=eC h1;have HU:=eC (hu.mod di (Qm.none _ _));clear h hu h1;go_enter Tryz.func56,Tryz.ntmps56;go_upto_region 1 with fail;rw [<-hw1];clear hw1;have k1:(m.kind == 1)=false:=by simp [HK.out]
 have k2:(m.kind == 2)=true:=by simp [HK.out]
 have k3:(m.kind == 3)=false:=by simp [HK.out]
 have k4:(m.kind == 4)=false:=by simp [HK.out]
 have hnb:=FG hi;have HH:Hid (sC s m.n=ke s m.eI m.n.toNat (s.log.length - m.n.toNat)):=by rw [Hid,sC,hnb]
 have hd:decide (m.n ≥ 0)=true:=aQ hn;have hd':decide (0<=m.n)=true:=aQ hn;have zo:(m.db != s.db)=false:=by simp [rJ.out]
 have wC:(m.to != s.id)=false:=by simp [tR.out]
 go_quiet (fail);have HI:=Aj L g nv _ s 1 m.eI _ (HN.out.drewN nq) (.inl rfl);rw [hi] at HI;have rI:=eC HI;clear HI;go_wp2_with fail;refine rI.out.mono ?_;rintro e w2 ⟨rfl,m2,rfl⟩;have HF:=eC (zUo L g nv _ s m.eI m.n _ (HN.out.drewN (nq+m2)) hnb hn);clear rI;go_wp2_with fail;refine HF.out.mono ?_;rintro e w3 ⟨v,rfl,hR,hf,dz⟩;clear HF;go_wp2_with fail;go_ret;exact ⟨v,rfl,by rw [HH.out];exact hR,fun k hk=>aM hz1 (hf k hk),(di.drewN (nq+m2)).trans dz⟩
theorem zZv(L:Lo)(g:Nat)(nv lv:Value)(s:eH)(m:dp)(u:Value)(w:World)(h:fh w L g nv lv s)(hu:iE w L u m.cmd.writes)(jB:qW m)(iP:m.db=s.db)(iZ:m.to=s.id)(hk:m.kind=2)(hno:¬ (mO s 1 m.eI=true/\0<=m.n)) :
  Calls Tryz.prog 56 #[.pointer (some ⟨g,0,none⟩),.agg #[.int .i64 m.kind,.int .i64 m.eI,.int .i64 m.to,.int .i64 m.db,.int .i64 m.n,.int .i64 m.cmd.kind,.int .i64 m.cmd.tx,.int .i64 m.cmd.time,u]] w fun e w'=>e=.returned (.slice none 0 0)/\Mod dZ w w':=by
 have rJ:=eC iP;have tR:=eC iZ;have HK:=eC hk;clear iP iZ hk;obtain ⟨ua,dj,rfl⟩:∃ ua dj,u=.slice ua m.cmd.writes.length dj:=by obtain ⟨ua,dj,h,_⟩:=hu;exact ⟨ua,dj,h⟩
 obtain ⟨w1,hw1⟩:∃ q,q=w.alloc (.cells #[.int .i64 m.kind,.int .i64 m.eI,.int .i64 m.to,.int .i64 m.db,.int .i64 m.n,.int .i64 m.cmd.kind,.int .i64 m.cmd.tx,.int .i64 m.cmd.time,.slice ua m.cmd.writes.length dj] 112):=⟨_,rfl⟩;have di:Mod dZ w w1:=by rw [hw1];exact (Mod.refl _ w).alloc _
 have fi:dh w1 w.heap.size (iW m (.slice ua m.cmd.writes.length dj)) 112:=by rw [hw1];exact dh.new w _ _
 have h1:=h.quiet di;obtain ⟨la,fG,hlv⟩:=h1.lg.slice;subst hlv;obtain ⟨c0,c1,c2,c3,c4⟩:=mG h1.blk;obtain ⟨⟨x0,x1,x2,x3,x4,x5,x6,x7,x8⟩,_⟩:=iH fi;have z1:=fi.lt;have z2:=h1.blk.lt;have hz1:=di.size;have fW:=h1.few;have hst:=h1.st;have HN:=eC h1;have HU:=eC (hu.mod di (Qm.none _ _));clear h hu h1;go_enter Tryz.func56,Tryz.ntmps56;go_upto_region 1 with fail;rw [<-hw1];clear hw1;have k1:(m.kind == 1)=false:=by simp [HK.out]
 have k2:(m.kind == 2)=true:=by simp [HK.out]
 have k3:(m.kind == 3)=false:=by simp [HK.out]
 have k4:(m.kind == 4)=false:=by simp [HK.out]
 have zo:(m.db != s.db)=false:=by simp [rJ.out]
 have wC:(m.to != s.id)=false:=by simp [tR.out]
 go_quiet (fail);have HI:=Aj L g nv _ s 1 m.eI _ (HN.out.drewN nq) (.inl rfl)
 cases hi:mO s 1 m.eI with
 | true=>
  have hn:¬ 0<=m.n:=fun e=>hno ⟨hi,e⟩;have hd:decide (m.n ≥ 0)=false:=aP hn;have hd':decide (0<=m.n)=false:=aP hn;rw [hi] at HI;have rI:=eC HI;clear HI;go_wp2_with fail;refine rI.out.mono ?_;rintro e w2 ⟨rfl,m2,rfl⟩;clear rI;go_upto_region 7 with fail;go_quiet (fail);go_upto_region 9 with fail;go_quiet (fail);go_wp2_with fail;go_ret;exact ⟨rfl,by first | exact di.drewN _ | exact (di.drewN _).drewN _ | exact ((di.drewN _).drewN _).drewN _ | exact (((di.drewN _).drewN _).drewN _).drewN _⟩
 | false=>
  rw [hi] at HI;have rI:=eC HI;clear HI;go_wp2_with fail;refine rI.out.mono ?_;rintro e w2 ⟨rfl,m2,rfl⟩;clear rI;go_upto_region 7 with fail;go_quiet (fail);go_upto_region 9 with fail;go_quiet (fail);go_wp2_with fail;go_ret;exact ⟨rfl,by first | exact di.drewN _ | exact (di.drewN _).drewN _ | exact ((di.drewN _).drewN _).drewN _ | exact (((di.drewN _).drewN _).drewN _).drewN _⟩
theorem yOb(L:Lo)(g:Nat)(nv lv:Value)(s:eH)(m:dp)(u:Value)(w:World)(h:fh w L g nv lv s)(hu:iE w L u m.cmd.writes)(jB:qW m)(iP:m.db=s.db)(iZ:m.to=s.id)(hk:m.kind=3)(hi:mO s (-1) m.eI=true)(hn:m.n=s.log.length)(hro:s.log.length<500) :
  Calls Tryz.prog 56 #[.pointer (some ⟨g,0,none⟩),.agg #[.int .i64 m.kind,.int .i64 m.eI,.int .i64 m.to,.int .i64 m.db,.int .i64 m.n,.int .i64 m.cmd.kind,.int .i64 m.cmd.tx,.int .i64 m.cmd.time,u]] w fun e w'=>∃ v jQ,e=.returned v/\fh w' L g nv jQ (mX s m.cmd).1/\eX w' L v (mX s m.cmd).2/\lE w v/\iC w lv jQ/\Mod (gx g nv lv) w w':=by
 have II:=eC hn;clear hn;have rJ:=eC iP;have tR:=eC iZ;have HK:=eC hk;clear iP iZ hk;obtain ⟨ua,dj,rfl⟩:∃ ua dj,u=.slice ua m.cmd.writes.length dj:=by obtain ⟨ua,dj,h,_⟩:=hu;exact ⟨ua,dj,h⟩
 obtain ⟨w1,hw1⟩:∃ q,q=w.alloc (.cells #[.int .i64 m.kind,.int .i64 m.eI,.int .i64 m.to,.int .i64 m.db,.int .i64 m.n,.int .i64 m.cmd.kind,.int .i64 m.cmd.tx,.int .i64 m.cmd.time,.slice ua m.cmd.writes.length dj] 112):=⟨_,rfl⟩;have di:Mod dZ w w1:=by rw [hw1];exact (Mod.refl _ w).alloc _
 have fi:dh w1 w.heap.size (iW m (.slice ua m.cmd.writes.length dj)) 112:=by rw [hw1];exact dh.new w _ _
 have h1:=h.quiet di;obtain ⟨la,fG,hlv⟩:=h1.lg.slice;subst hlv;obtain ⟨c0,c1,c2,c3,c4⟩:=mG h1.blk;obtain ⟨⟨x0,x1,x2,x3,x4,x5,x6,x7,x8⟩,_⟩:=iH fi;have z1:=fi.lt;have z2:=h1.blk.lt;have hz1:=di.size;have fW:=h1.few;have hst:=h1.st;have HN:=eC h1;have HU:=eC (hu.mod di (Qm.none _ _));clear h hu h1;go_enter Tryz.func56,Tryz.ntmps56;go_upto_region 1 with fail;rw [<-hw1];clear hw1;have k1:(m.kind == 1)=false:=by simp [HK.out]
 have k2:(m.kind == 2)=false:=by simp [HK.out]
 have k3:(m.kind == 3)=true:=by simp [HK.out]
 have k4:(m.kind == 4)=false:=by simp [HK.out]
 have hnn:(m.n == (s.log.length:Int))=true:=by simp [II.out]
 have Je:decide (s.log.length<500)=true:=aQ hro;have zo:(m.db != s.db)=false:=by simp [rJ.out]
 have wC:(m.to != s.id)=false:=by simp [tR.out]
 go_quiet (fail);have h2:=HN.out.drewN nq;have gm:=fi.mod ((Mod.refl dZ w1).drewN nq) id;have hm2:=di.drewN nq;have hu2:=HU.out.mod ((Mod.refl dZ w1).drewN nq) (Qm.none _ _);obtain ⟨w2,hw2⟩:∃ q,q=w1.drewN nq:=⟨_,rfl⟩;rw [<-hw2] at h2 gm hm2 hu2 ⊢;clear hw2 c0 c1 c2 c3 c4 x0 x1 x2 x3 x4 x5 x6 x7 x8 HN HU fi di;obtain ⟨c0,c1,c2,c3,c4⟩:=mG h2.blk;obtain ⟨⟨x0,x1,x2,x3,x4,x5,x6,x7,x8⟩,_⟩:=iH gm;have z3:=gm.lt;have z4:=h2.blk.lt;have hz2:=hm2.size;have vO:Hid (∀ n,Calls Tryz.prog 99 #[.pointer (some ⟨g,0,none⟩),.int .i64 (-1),.int .i64 m.eI] (w2.drewN n) fun e w'=>e=.returned (.bool true)/\∃ k,w'=(w2.drewN n).drewN k):=fun n=>by have:=Aj L g nv _ s (-1) m.eI _ (h2.drewN n) (.inr rfl);rw [hi] at this;exact this
 have DO:Hid (∀ n,Calls Tryz.prog 102 #[.pointer (some ⟨g,0,none⟩)] (w2.drewN n) fun e w'=>e=.returned (.bool (decide (s.log.length<500)))/\w'=w2.drewN n):=fun n=>QQ L g nv _ s _ (h2.drewN n);rw [Je] at DO;go_upto_region 7 with fail;go_quiet (first
  | (go_at_call 99;refine Calls.quiet_of (vO.out _))
  | (go_at_call 102;refine Calls.quiet_of_same (DO.out _))
  | fail)
 have qB:=gm.mod ((Mod.refl dZ w2).drewN nq) id;obtain ⟨⟨y0,y1,y2,y3,y4,y5,y6,y7,y8⟩,_⟩:=iH qB;have HG:=eC (yHf L g nv _ s m.cmd (.slice ua m.cmd.writes.length dj) (w2.drewN nq) (h2.drewN nq) (GG hi) hro (hu2.mod ((Mod.refl dZ w2).drewN nq) (Qm.none _ _)) ⟨jB.1.2.2.2.2.2,jB.2⟩);clear h2 hu2 vO DO;go_wp2_with fail;refine HG.out.mono ?_;rintro e w3 ⟨v,lv3,rfl,sw,hR,hf,hv3,dz⟩;clear HG;go_wp2_with fail;go_ret;refine ⟨v,lv3,rfl,sw,hR,fun k hk=>aM hz2 (hf k hk),?_,((hm2.drewN nq).mono (fun _ _ e=>e.elim)).trans dz⟩;rcases hv3 with e | e
 ·exact .inl e
 ·exact .inr (fun k hk=>aM hz2 (e k hk))
theorem yDd(L:Lo)(g:Nat)(nv lv:Value)(s:eH)(m:dp)(u:Value)(w:World)(h:fh w L g nv lv s)(hu:iE w L u m.cmd.writes)(jB:qW m)(iP:m.db=s.db)(iZ:m.to=s.id)(hk:m.kind=3)(hno:¬ (mO s (-1) m.eI=true/\m.n=s.log.length/\s.log.length<500)) :
  Calls Tryz.prog 56 #[.pointer (some ⟨g,0,none⟩),.agg #[.int .i64 m.kind,.int .i64 m.eI,.int .i64 m.to,.int .i64 m.db,.int .i64 m.n,.int .i64 m.cmd.kind,.int .i64 m.cmd.tx,.int .i64 m.cmd.time,u]] w fun e w'=>e=.returned (.slice none 0 0)/\Mod dZ w w':=by
 have rJ:=eC iP;have tR:=eC iZ;have HK:=eC hk;clear iP iZ hk;obtain ⟨ua,dj,rfl⟩:∃ ua dj,u=.slice ua m.cmd.writes.length dj:=by obtain ⟨ua,dj,h,_⟩:=hu;exact ⟨ua,dj,h⟩
 obtain ⟨w1,hw1⟩:∃ q,q=w.alloc (.cells #[.int .i64 m.kind,.int .i64 m.eI,.int .i64 m.to,.int .i64 m.db,.int .i64 m.n,.int .i64 m.cmd.kind,.int .i64 m.cmd.tx,.int .i64 m.cmd.time,.slice ua m.cmd.writes.length dj] 112):=⟨_,rfl⟩;have di:Mod dZ w w1:=by rw [hw1];exact (Mod.refl _ w).alloc _
 have fi:dh w1 w.heap.size (iW m (.slice ua m.cmd.writes.length dj)) 112:=by rw [hw1];exact dh.new w _ _
 have h1:=h.quiet di;obtain ⟨la,fG,hlv⟩:=h1.lg.slice;subst hlv;obtain ⟨c0,c1,c2,c3,c4⟩:=mG h1.blk;obtain ⟨⟨x0,x1,x2,x3,x4,x5,x6,x7,x8⟩,_⟩:=iH fi;have z1:=fi.lt;have z2:=h1.blk.lt;have hz1:=di.size;have fW:=h1.few;have hst:=h1.st;have HN:=eC h1;have HU:=eC (hu.mod di (Qm.none _ _));clear h hu h1;go_enter Tryz.func56,Tryz.ntmps56;go_upto_region 1 with fail;rw [<-hw1];clear hw1;have k1:(m.kind == 1)=false:=by simp [HK.out]
 have k2:(m.kind == 2)=false:=by simp [HK.out]
 have k3:(m.kind == 3)=true:=by simp [HK.out]
 have k4:(m.kind == 4)=false:=by simp [HK.out]
 have zo:(m.db != s.db)=false:=by simp [rJ.out]
 have wC:(m.to != s.id)=false:=by simp [tR.out]
 go_quiet (fail);have h2:=HN.out.drewN nq;have gm:=fi.mod ((Mod.refl dZ w1).drewN nq) id;have hm2:=di.drewN nq;have hu2:=HU.out.mod ((Mod.refl dZ w1).drewN nq) (Qm.none _ _);obtain ⟨w2,hw2⟩:∃ q,q=w1.drewN nq:=⟨_,rfl⟩;rw [<-hw2] at h2 gm hm2 hu2 ⊢;clear hw2 c0 c1 c2 c3 c4 x0 x1 x2 x3 x4 x5 x6 x7 x8 HN HU fi di;obtain ⟨c0,c1,c2,c3,c4⟩:=mG h2.blk;obtain ⟨⟨x0,x1,x2,x3,x4,x5,x6,x7,x8⟩,_⟩:=iH gm;have z3:=gm.lt;have z4:=h2.blk.lt;have hz2:=hm2.size;go_upto_region 7 with fail
 cases hi:mO s (-1) m.eI with
 | false=>
  have vO:Hid (∀ n,Calls Tryz.prog 99 #[.pointer (some ⟨g,0,none⟩),.int .i64 (-1),.int .i64 m.eI] (w2.drewN n) fun e w'=>e=.returned (.bool false)/\∃ k,w'=(w2.drewN n).drewN k):=fun n=>by have:=Aj L g nv _ s (-1) m.eI _ (h2.drewN n) (.inr rfl);rw [hi] at this;exact this
  have DO:Hid (∀ n,Calls Tryz.prog 102 #[.pointer (some ⟨g,0,none⟩)] (w2.drewN n) fun e w'=>e=.returned (.bool (decide (s.log.length<500)))/\w'=w2.drewN n):=fun n=>QQ L g nv _ s _ (h2.drewN n);go_quiet (first
   | (go_at_call 99;refine Calls.quiet_of (vO.out _))
   | (go_at_call 102;refine Calls.quiet_of_same (DO.out _))
   | fail)
  go_upto_region 9 with fail;go_quiet (fail);go_wp2_with fail;go_ret;exact ⟨rfl,by first | exact hm2.drewN _ | exact (hm2.drewN _).drewN _ | exact ((hm2.drewN _).drewN _).drewN _⟩
 | true=>
  have vO:Hid (∀ n,Calls Tryz.prog 99 #[.pointer (some ⟨g,0,none⟩),.int .i64 (-1),.int .i64 m.eI] (w2.drewN n) fun e w'=>e=.returned (.bool true)/\∃ k,w'=(w2.drewN n).drewN k):=fun n=>by have:=Aj L g nv _ s (-1) m.eI _ (h2.drewN n) (.inr rfl);rw [hi] at this;exact this
  have DO:Hid (∀ n,Calls Tryz.prog 102 #[.pointer (some ⟨g,0,none⟩)] (w2.drewN n) fun e w'=>e=.returned (.bool (decide (s.log.length<500)))/\w'=w2.drewN n):=fun n=>QQ L g nv _ s _ (h2.drewN n);by_cases hn:m.n=s.log.length
  ·have hro:¬ s.log.length<500:=fun e=>hno ⟨hi,hn,e⟩;have hnn:(m.n == (s.log.length:Int))=true:=by simp [hn]
   have Je:decide (s.log.length<500)=false:=aP hro;rw [Je] at DO;have II:=eC hn;clear hn;go_quiet (first
    | (go_at_call 99;refine Calls.quiet_of (vO.out _))
    | (go_at_call 102;refine Calls.quiet_of_same (DO.out _))
    | fail)
   go_upto_region 9 with fail;go_quiet (fail);go_wp2_with fail;go_ret;exact ⟨rfl,by first | exact hm2.drewN _ | exact (hm2.drewN _).drewN _ | exact ((hm2.drewN _).drewN _).drewN _⟩
  ·have hnn:(m.n == (s.log.length:Int))=false:=by simpa using hn
   go_quiet (first
    | (go_at_call 99;refine Calls.quiet_of (vO.out _))
    | (go_at_call 102;refine Calls.quiet_of_same (DO.out _))
    | fail)
   go_upto_region 9 with fail;go_quiet (fail);go_wp2_with fail;go_ret;exact ⟨rfl,by first | exact hm2.drewN _ | exact (hm2.drewN _).drewN _ | exact ((hm2.drewN _).drewN _).drewN _⟩
theorem zZu(L:Lo)(g:Nat)(nv lv:Value)(s:eH)(m:dp)(u:Value)(w:World)(h:fh w L g nv lv s)(hu:iE w L u m.cmd.writes)(jB:qW m)(iP:m.db=s.db)(iZ:m.to=s.id)(hk:m.kind=4)(hno:¬ (mO s 1 m.eI=true/\0<=m.n/\m.n<=s.log.length)) :
  Calls Tryz.prog 56 #[.pointer (some ⟨g,0,none⟩),.agg #[.int .i64 m.kind,.int .i64 m.eI,.int .i64 m.to,.int .i64 m.db,.int .i64 m.n,.int .i64 m.cmd.kind,.int .i64 m.cmd.tx,.int .i64 m.cmd.time,u]] w fun e w'=>e=.returned (.slice none 0 0)/\Mod dZ w w':=by
 have rJ:=eC iP;have tR:=eC iZ;have HK:=eC hk;clear iP iZ hk;obtain ⟨ua,dj,rfl⟩:∃ ua dj,u=.slice ua m.cmd.writes.length dj:=by obtain ⟨ua,dj,h,_⟩:=hu;exact ⟨ua,dj,h⟩
 obtain ⟨w1,hw1⟩:∃ q,q=w.alloc (.cells #[.int .i64 m.kind,.int .i64 m.eI,.int .i64 m.to,.int .i64 m.db,.int .i64 m.n,.int .i64 m.cmd.kind,.int .i64 m.cmd.tx,.int .i64 m.cmd.time,.slice ua m.cmd.writes.length dj] 112):=⟨_,rfl⟩;have di:Mod dZ w w1:=by rw [hw1];exact (Mod.refl _ w).alloc _
 have fi:dh w1 w.heap.size (iW m (.slice ua m.cmd.writes.length dj)) 112:=by rw [hw1];exact dh.new w _ _
 have h1:=h.quiet di;obtain ⟨la,fG,hlv⟩:=h1.lg.slice;subst hlv;obtain ⟨c0,c1,c2,c3,c4⟩:=mG h1.blk;obtain ⟨⟨x0,x1,x2,x3,x4,x5,x6,x7,x8⟩,_⟩:=iH fi;have z1:=fi.lt;have z2:=h1.blk.lt;have hz1:=di.size;have fW:=h1.few;have hst:=h1.st;have HN:=eC h1;have HU:=eC (hu.mod di (Qm.none _ _));clear h hu h1;go_enter Tryz.func56,Tryz.ntmps56;go_upto_region 1 with fail;rw [<-hw1];clear hw1;have k1:(m.kind == 1)=false:=by simp [HK.out]
 have k2:(m.kind == 2)=false:=by simp [HK.out]
 have k3:(m.kind == 3)=false:=by simp [HK.out]
 have k4:(m.kind == 4)=true:=by simp [HK.out]
 have zo:(m.db != s.db)=false:=by simp [rJ.out]
 have wC:(m.to != s.id)=false:=by simp [tR.out]
 go_quiet (fail);have h2:=HN.out.drewN nq;have gm:=fi.mod ((Mod.refl dZ w1).drewN nq) id;have hm2:=di.drewN nq;have hu2:=HU.out.mod ((Mod.refl dZ w1).drewN nq) (Qm.none _ _);obtain ⟨w2,hw2⟩:∃ q,q=w1.drewN nq:=⟨_,rfl⟩;rw [<-hw2] at h2 gm hm2 hu2 ⊢;clear hw2 c0 c1 c2 c3 c4 x0 x1 x2 x3 x4 x5 x6 x7 x8 HN HU fi di;obtain ⟨c0,c1,c2,c3,c4⟩:=mG h2.blk;obtain ⟨⟨x0,x1,x2,x3,x4,x5,x6,x7,x8⟩,_⟩:=iH gm;have z3:=gm.lt;have z4:=h2.blk.lt;have hz2:=hm2.size;go_upto_region 7 with fail;go_quiet (fail);have h3:=h2.drewN nq;have qB:=gm.mod ((Mod.refl dZ w2).drewN nq) id;have dz:=hm2.drewN nq;obtain ⟨w3,hw3⟩:∃ q,q=w2.drewN nq:=⟨_,rfl⟩;rw [<-hw3] at h3 qB dz ⊢;clear hw3 c0 c1 c2 c3 c4 x0 x1 x2 x3 x4 x5 x6 x7 x8 h2 gm hm2 hu2 z3 z4 hz2;obtain ⟨c0,c1,c2,c3,c4⟩:=mG h3.blk;obtain ⟨⟨x0,x1,x2,x3,x4,x5,x6,x7,x8⟩,_⟩:=iH qB;have z3:=qB.lt;have z4:=h3.blk.lt;have hz3:=dz.size;go_upto_region 9 with fail
 cases hi:mO s 1 m.eI with
 | false=>
  have vO:Hid (∀ n,Calls Tryz.prog 99 #[.pointer (some ⟨g,0,none⟩),.int .i64 (1),.int .i64 m.eI] (w3.drewN n) fun e w'=>e=.returned (.bool false)/\∃ k,w'=(w3.drewN n).drewN k):=fun n=>by have:=Aj L g nv _ s (1) m.eI _ (h3.drewN n) (.inl rfl);rw [hi] at this;exact this
  go_quiet (first
   | (go_at_call 99;refine Calls.quiet_of (vO.out _))
   | fail)
  go_wp2_with fail;go_ret;exact ⟨rfl,by first | exact dz.drewN _ | exact (dz.drewN _).drewN _⟩
 | true=>
  have vO:Hid (∀ n,Calls Tryz.prog 99 #[.pointer (some ⟨g,0,none⟩),.int .i64 (1),.int .i64 m.eI] (w3.drewN n) fun e w'=>e=.returned (.bool true)/\∃ k,w'=(w3.drewN n).drewN k):=fun n=>by have:=Aj L g nv _ s (1) m.eI _ (h3.drewN n) (.inl rfl);rw [hi] at this;exact this
  by_cases hn:0<=m.n
  ·have hd1:decide (m.n ≥ 0)=true:=aQ hn;have Nv:decide (0<=m.n)=true:=aQ hn;have hle:¬ m.n<=s.log.length:=fun e=>hno ⟨hi,hn,e⟩;have hd2:decide (m.n<=(s.log.length:Int))=false:=aP hle;go_quiet (first
    | (go_at_call 99;refine Calls.quiet_of (vO.out _))
    | fail)
   go_wp2_with fail;go_ret;exact ⟨rfl,by first | exact dz.drewN _ | exact (dz.drewN _).drewN _⟩
  ·have hd1:decide (m.n ≥ 0)=false:=aP hn;have Nv:decide (0<=m.n)=false:=aP hn;go_quiet (first
    | (go_at_call 99;refine Calls.quiet_of (vO.out _))
    | fail)
   go_wp2_with fail;go_ret;exact ⟨rfl,by first | exact dz.drewN _ | exact (dz.drewN _).drewN _⟩
theorem yJx(L:Lo)(g:Nat)(nv lv:Value)(s:eH)(m:dp)(u:Value)(w:World)(h:fh w L g nv lv s)(hu:iE w L u m.cmd.writes)(jB:qW m)(iP:m.db=s.db)(iZ:m.to=s.id)(hk:m.kind=4)(hi:mO s 1 m.eI=true)(hn:0<=m.n)(hle:m.n<=s.log.length) :
  Calls Tryz.prog 56 #[.pointer (some ⟨g,0,none⟩),.agg #[.int .i64 m.kind,.int .i64 m.eI,.int .i64 m.to,.int .i64 m.db,.int .i64 m.n,.int .i64 m.cmd.kind,.int .i64 m.cmd.tx,.int .i64 m.cmd.time,u]] w fun e w'=>∃ v,e=.returned v/\fh w' L g nv lv (uN s m.n)/\eX w' L v (kY (uN s m.n) (-1) (pG 4 (uN s m.n).gj))/\lE w v/\Mod (eF g) w w':=by
 have rJ:=eC iP;have tR:=eC iZ;have HK:=eC hk;clear iP iZ hk;obtain ⟨ua,dj,rfl⟩:∃ ua dj,u=.slice ua m.cmd.writes.length dj:=by obtain ⟨ua,dj,h,_⟩:=hu;exact ⟨ua,dj,h⟩
 obtain ⟨w1,hw1⟩:∃ q,q=w.alloc (.cells #[.int .i64 m.kind,.int .i64 m.eI,.int .i64 m.to,.int .i64 m.db,.int .i64 m.n,.int .i64 m.cmd.kind,.int .i64 m.cmd.tx,.int .i64 m.cmd.time,.slice ua m.cmd.writes.length dj] 112):=⟨_,rfl⟩;have di:Mod dZ w w1:=by rw [hw1];exact (Mod.refl _ w).alloc _
 have fi:dh w1 w.heap.size (iW m (.slice ua m.cmd.writes.length dj)) 112:=by rw [hw1];exact dh.new w _ _
 have h1:=h.quiet di;obtain ⟨la,fG,hlv⟩:=h1.lg.slice;subst hlv;obtain ⟨c0,c1,c2,c3,c4⟩:=mG h1.blk;obtain ⟨⟨x0,x1,x2,x3,x4,x5,x6,x7,x8⟩,_⟩:=iH fi;have z1:=fi.lt;have z2:=h1.blk.lt;have hz1:=di.size;have fW:=h1.few;have hst:=h1.st;have HN:=eC h1;have HU:=eC (hu.mod di (Qm.none _ _));clear h hu h1;go_enter Tryz.func56,Tryz.ntmps56;go_upto_region 1 with fail;rw [<-hw1];clear hw1;have k1:(m.kind == 1)=false:=by simp [HK.out]
 have k2:(m.kind == 2)=false:=by simp [HK.out]
 have k3:(m.kind == 3)=false:=by simp [HK.out]
 have k4:(m.kind == 4)=true:=by simp [HK.out]
 have zo:(m.db != s.db)=false:=by simp [rJ.out]
 have wC:(m.to != s.id)=false:=by simp [tR.out]
 go_quiet (fail);have h2:=HN.out.drewN nq;have gm:=fi.mod ((Mod.refl dZ w1).drewN nq) id;have hm2:=di.drewN nq;have hu2:=HU.out.mod ((Mod.refl dZ w1).drewN nq) (Qm.none _ _);obtain ⟨w2,hw2⟩:∃ q,q=w1.drewN nq:=⟨_,rfl⟩;rw [<-hw2] at h2 gm hm2 hu2 ⊢;clear hw2 c0 c1 c2 c3 c4 x0 x1 x2 x3 x4 x5 x6 x7 x8 HN HU fi di;obtain ⟨c0,c1,c2,c3,c4⟩:=mG h2.blk;obtain ⟨⟨x0,x1,x2,x3,x4,x5,x6,x7,x8⟩,_⟩:=iH gm;have z3:=gm.lt;have z4:=h2.blk.lt;have hz2:=hm2.size;go_upto_region 7 with fail;go_quiet (fail);have h3:=h2.drewN nq;have qB:=gm.mod ((Mod.refl dZ w2).drewN nq) id;have dz:=hm2.drewN nq;obtain ⟨w3,hw3⟩:∃ q,q=w2.drewN nq:=⟨_,rfl⟩;rw [<-hw3] at h3 qB dz ⊢;clear hw3 c0 c1 c2 c3 c4 x0 x1 x2 x3 x4 x5 x6 x7 x8 h2 gm hm2 hu2 z3 z4 hz2;obtain ⟨c0,c1,c2,c3,c4⟩:=mG h3.blk;obtain ⟨⟨x0,x1,x2,x3,x4,x5,x6,x7,x8⟩,_⟩:=iH qB;have z3:=qB.lt;have z4:=h3.blk.lt;have hz3:=dz.size;go_upto_region 9 with fail;have vO:Hid (∀ n,Calls Tryz.prog 99 #[.pointer (some ⟨g,0,none⟩),.int .i64 (1),.int .i64 m.eI] (w3.drewN n) fun e w'=>e=.returned (.bool true)/\∃ k,w'=(w3.drewN n).drewN k):=fun n=>by have:=Aj L g nv _ s (1) m.eI _ (h3.drewN n) (.inl rfl);rw [hi] at this;exact this
 have hd1:decide (m.n ≥ 0)=true:=aQ hn;have Nv:decide (0<=m.n)=true:=aQ hn;have hd2:decide (m.n<=(s.log.length:Int))=true:=aQ hle;go_quiet (first
  | (go_at_call 99;refine Calls.quiet_of (vO.out _))
  | fail)
 have h4:=h3.drewN nq;have hB4:=qB.mod ((Mod.refl dZ w3).drewN nq) id;have gM:=dz.drewN nq;obtain ⟨w4,hw4⟩:∃ q,q=w3.drewN nq:=⟨_,rfl⟩;rw [<-hw4] at h4 hB4 gM ⊢;clear hw4 c0 c1 c2 c3 c4 x0 x1 x2 x3 x4 x5 x6 x7 x8 h3 qB dz z3 z4 vO;obtain ⟨c0,c1,c2,c3,c4⟩:=mG h4.blk;obtain ⟨⟨x0,x1,x2,x3,x4,x5,x6,x7,x8⟩,_⟩:=iH hB4;have f4:=h4.blk.frozen 4;have z3:=hB4.lt;have z4:=h4.blk.lt;have Mh:=gM.size;obtain ⟨t,ht⟩:∃ t,t=(if s.gj<m.n then m.n else s.gj):=⟨_,rfl⟩;have BE:0<=t/\t<=s.log.length:=by rw [ht];split <;> omega
 have HSB:Hid (uN s m.n=yb s t):=by rw [Hid,uN,<-ht]
 obtain ⟨mi,eu⟩:=h4.vl t BE;have sv:=mi.quiet ((Mod.refl dZ _).drew);have d4:=mi.blk.cell 4 rfl;simp only [yb] at d4;have HS:=eC (Lc L g nv _ (yb s t) (-1) (pG 4 t) (.slice none 0 0) _ sv (.inr rfl) (iE.nil _ _) (Qi _ _ (by simp [gw]) (by simp only [gw];omega)));have Se:=eC sv;have vN:Hid (Mod (eF g) w4 (w4.setCell ⟨g,4,none⟩ (.int .i64 t)).drew):=eu.drew;clear h4 mi sv eu;go_upto_region 10 with fail;go_region;rw [<-ht];clear ht;go_wp2_with fail;refine HS.out.mono ?_;rintro e w6 ⟨v,rfl,hR,hf,fq⟩;clear HS;go_wp2_with fail;go_ret;refine ⟨v,rfl,by rw [HSB.out];exact Se.out.quiet fq,by rw [HSB.out];exact hR,fun k hk=>aM Mh (by simpa using hf k hk),((gM.mono (fun _ _ e=>e.elim)).trans vN.out).trans (fq.mono (fun _ _ e=>e.elim))⟩
theorem yOc(L:Lo)(g:Nat)(nv lv:Value)(s:eH)(m:dp)(u:Value)(w:World)(h:fh w L g nv lv s)(hu:iE w L u m.cmd.writes)(jB:qW m) :
  Calls Tryz.prog 56 #[.pointer (some ⟨g,0,none⟩),.agg #[.int .i64 m.kind,.int .i64 m.eI,.int .i64 m.to,.int .i64 m.db,.int .i64 m.n,.int .i64 m.cmd.kind,.int .i64 m.cmd.tx,.int .i64 m.cmd.time,u]] w fun e w'=>
   ∃ v jQ,e=.returned v/\fh w' L g nv jQ (fy s m).1/\eX w' L v (fy s m).2/\lE w v/\iC w lv jQ/\Mod (gx g nv lv) w w':=by
 have nil:∀ (P:fy s m=(s,[])) (e:Ending) (w':World),e=.returned (.slice none 0 0)/\Mod dZ w w'->∃ v jQ,e=.returned v/\fh w' L g nv jQ (fy s m).1/\eX w' L v (fy s m).2/\lE w v/\iC w lv jQ/\Mod (gx g nv lv) w w':=by
  rintro P e w' ⟨rfl,hm⟩;rw [P];exact ⟨_,lv,rfl,h.quiet hm,eX.nil _ _,fun k hk=>by simp [Value.ownBlock] at hk,iC.refl _ _,hm.mono (fun _ _ e=>e.elim)⟩
 have say:∀ (ms:List dp) (P:fy s m=(s,ms)) (e:Ending) (w':World),(∃ v,e=.returned v/\eX w' L v ms/\lE w v/\Mod dZ w w')->∃ v jQ,e=.returned v/\fh w' L g nv jQ (fy s m).1/\eX w' L v (fy s m).2/\lE w v/\iC w lv jQ/\Mod (gx g nv lv) w w':=by
  rintro ms P e w' ⟨v,rfl,hR,hf,hm⟩;rw [P];exact ⟨v,lv,rfl,h.quiet hm,hR,hf,iC.refl _ _,hm.mono (fun _ _ e=>e.elim)⟩
 by_cases XC:m.db=s.db/\m.to=s.id
 ·obtain ⟨iP,iZ⟩:=XC;by_cases hk1:m.kind=1
  ·cases hi:mO s (-1) m.eI with
   | true=>exact (yJw L g nv lv s m u w h hu jB iP iZ hk1 hi).mono (say _ (by simp [fy,iP,iZ,hk1,hi]))
   | false=>exact (zZt L g nv lv s m u w h hu jB iP iZ hk1 hi).mono (nil (by simp [fy,iP,iZ,hk1,hi]))
  by_cases hk2:m.kind=2
  ·by_cases hc:mO s 1 m.eI=true/\0<=m.n
   ·exact (yJz L g nv lv s m u w h hu jB iP iZ hk2 hc.1 hc.2).mono (say _ (by simp [fy,iP,iZ,hk2,hc]))
   ·exact (zZv L g nv lv s m u w h hu jB iP iZ hk2 hc).mono (nil (by simp [fy,iP,iZ,hk2];intro a b;exact absurd ⟨a,b⟩ hc))
  by_cases hk3:m.kind=3
  ·by_cases hc:mO s (-1) m.eI=true/\m.n=s.log.length/\s.log.length<500
   ·have P:fy s m=mX s m.cmd:=by simp [fy,iP,iZ,hk3,hc]
    rw [P];exact yOb L g nv lv s m u w h hu jB iP iZ hk3 hc.1 hc.2.1 hc.2.2
   ·exact (yDd L g nv lv s m u w h hu jB iP iZ hk3 hc).mono (nil (by simp [fy,iP,iZ,hk3];intro a b c;exact absurd ⟨a,b,c⟩ hc))
  by_cases hk4:m.kind=4
  ·by_cases hc:mO s 1 m.eI=true/\0<=m.n/\m.n<=s.log.length
   ·have P:fy s m=(uN s m.n,kY (uN s m.n) (-1) (pG 4 (uN s m.n).gj)):=by simp [fy,iP,iZ,hk4,hc]
    rw [P];refine (yJx L g nv lv s m u w h hu jB iP iZ hk4 hc.1 hc.2.1 hc.2.2).mono ?_;rintro e w' ⟨v,rfl,hN,hR,hf,hm⟩;exact ⟨v,lv,rfl,hN,hR,hf,iC.refl _ _,hm.mono (fun i _ e=>.inl e)⟩
   ·exact (zZu L g nv lv s m u w h hu jB iP iZ hk4 hc).mono (nil (by simp [fy,iP,iZ,hk4];intro a b c;exact absurd ⟨a,b,c⟩ hc))
  ·exact (yJy L g nv lv s m u w h hu jB iP iZ hk1 hk2 hk3 hk4).mono (nil (by simp [fy,iP,iZ,hk1,hk2,hk3,hk4]))
 ·exact (yOa L g nv lv s m u w h hu jB XC).mono (nil (by simp [fy];intro a b;exact absurd ⟨a,b⟩ XC))
theorem dh.setCells{g:Nat}{t:TypeId}:∀ (vs:List Value) (w:World) (a old c:List Value),dh w g (a++old++c) t->old.length=vs.length->dh (w.setCells g a.length vs) g (a++vs++c) t
 | [],w,a,old,c,h,hl=>by
  have:old=[]:=aT hl;subst this;exact h
 | v :: vs,w,a,[],c,h,hl=>by simp at hl
 | v :: vs,w,a,x :: old,c,h,hl=>by
  have h1:=h.set a.length v;have e:((a++x :: old++c).set a.length v)=(a++[v])++old++c:=by simp
  rw [e] at h1;have:=dh.setCells vs (w.setCell ⟨g,a.length,none⟩ v) (a++[v]) old c h1 (by simpa using hl);simp only [aD,aW,an] at this;rw [World.setCells];simpa using this
theorem Mod.setCells{g:Nat}:∀ (vs:List Value) (o:Nat) (w:World),Mod (eF g) w (w.setCells g o vs)
 | [],_,_=>Mod.refl _ _
 | v :: vs,o,w=>(Mod.dq g o v).trans (Mod.setCells vs (o+1) (w.setCell ⟨g,o,none⟩ v))
theorem Qz:∀ (a b:List dp) (ua ub:List Value),ua.length=a.length->gy (a++b) (ua++ub)=gy a ua++gy b ub
 | [],b,[],ub,_=>by simp [gy]
 | [],_,_ :: _,_,h=>by simp at h
 | _ :: _,_,[],_,h=>by simp at h
 | m :: a,b,u :: ua,ub,h=>by simp [gy,Qz a b ua ub (by simpa using h)]
def ve:List Value:=[.int .i64 0,.int .i64 0,.int .i64 0,.int .i64 0,.int .i64 0,.int .i64 0,.int .i64 0,.int .i64 0,.slice none 0 0]
theorem yPb(w:World):(zeroValue 112).run Tryz.prog w=.ok (.agg #[.int .i64 0,.int .i64 0,.int .i64 0,.int .i64 0,.int .i64 0,.int .i64 0,.int .i64 0,.int .i64 0,.slice none 0 0]) w:=by kernel_rfl
theorem yKq:∀ v∈ve,v.oneCell'=true:=by
 intro v hv;simp [ve] at hv;rcases hv with rfl | rfl <;> rfl
theorem zYs(w:World)(ty:TypeId)(b o c:Nat)(hc:∀ j,j<9->(w.cell? ⟨b,o+j,none⟩).isSome=true)(hf:∀ j,j<9->w.frozen? ⟨b,o+j,none⟩=false) :
  (Builtin.clear_ #[76] ty #[.slice (some ⟨b,o,none⟩) 1 c]).run Tryz.prog w=.ok (.tuple #[]) (w.setCells b o ve):=by
 have hst:=run_storeCells_cells (P:=Tryz.prog) b o ve 0 w (by simpa [ve] using hc) (by simpa [ve] using hf) yKq;simp only [bC] at hst;have RP:(Builtin.zeroCells (Value.agg #[.int .i64 0,.int .i64 0,.int .i64 0,.int .i64 0,.int .i64 0,.int .i64 0,.int .i64 0,.int .i64 0,.slice none 0 0]).cells 1).toList=ve:=by kernel_rfl
 simp [Builtin.clear_,run_underlying Tryz.underlying76,RP,hst]
theorem zSc{w:World}{ops:Array Oper}{rest:List Oper}{o:Oper}{a:Act}{Q:Exit->Act->World->Prop}(hgd:o.guard=none)(s:Operand)
  (ho:o.op=.call { callee:=.builtin .clear,args:=#[s],argTypes:=#[76] }) (b off n c:Nat) (hs:a.eval s=.slice (some ⟨b,off,none⟩) n c) (hn:n=1)
  (hc:∀ j,j<9->(w.cell? ⟨b,off+j,none⟩).isSome=true) (hf:∀ j,j<9->w.frozen? ⟨b,off+j,none⟩=false)
  (h:wpList Tryz.prog ops Q rest (a.put o.dst (.tuple #[])) (w.setCells b off ve)):wpList Tryz.prog ops Q (o :: rest) a w:=by
 refine wpList_plain hgd fun K hK=>?_;subst hn;have hr:=zYs w o.type b off c hc hf;unfold Oper.wp execOp;simp only [ho,resolve,invoke,builtin,Sem.run_bind,Sem.run_pure,Result.andThen_ok,cI,bh,cR,hs,hr];exact hK _ _ h
theorem yGv:∀ (ms:List dp) (us:List Value),us.length=ms.length->(∀ (i:Nat) m u,ms[i]?=some m->us[i]?=some u->u.oneCell'=true)->∀ x∈gy ms us,x.oneCell'=true
 | [],_,_,_,x,hx=>by simp [gy] at hx
 | _ :: _,[],h,_,_,_=>by simp at h
 | m :: ms,u :: us,h,hu,x,hx=>by
  rw [gy] at hx;rcases aL.1 hx with hx | hx
  ·have h0:=hu 0 m u rfl rfl;simp [iW] at hx;rcases hx with rfl | rfl | rfl | rfl | rfl | rfl | rfl | rfl | rfl
   ·rfl
   ·rfl
   ·rfl
   ·rfl
   ·rfl
   ·rfl
   ·rfl
   ·rfl
   ·exact h0
  ·exact yGv ms us (by simpa using h) (fun i m' u' h1 h2=>hu (i+1) m' u' (by simpa using h1) (by simpa using h2)) x hx
theorem yBo{α:Type}(A X R:List α)(k:Nat):A++X.take k++(X.drop k++R)=A++X++R:=by
 rw [aU,aU,<-aU (X.take k),ai]
theorem yJv(L:Lo)(m1 m2:List dp)(m:dp)(v:Value)(w:World)(hR:eX w L v (m1++m :: m2))(hf:(m1++m :: m2).length<=200) :
  Calls Tryz.prog 95 #[v,.int .i64 m1.length,.int .i64 ((m1.length:Int)+1)] w fun e w'=>∃ v',e=.returned v'/\eX w' L v' (m1++m2)/\v'.ownBlock=v.ownBlock/\Mod (fun x=>v.ownBlock=some x) w w':=by
 obtain ⟨i0,hi,hz0,hz1,hz2⟩:=info_parts Tryz.pK;obtain ⟨us,lu,hrow,hps,hgd⟩:=hR;rcases hrow.2 with ⟨_,h0⟩ | ⟨g,cap,cur,rfl,DA,hg,hcap,hcm,hcs,htk⟩
 ·simp at h0
 unfold maxLen at hcm;have hlen:(m1++m :: m2).length=m1.length+1+m2.length:=by simp;omega
 rw [hlen] at hcap hf ⊢;have hne:(((m1.length:Int)) == (m1.length:Int)+1)=false:=by
  rw [bk];omega
 obtain ⟨wu,u,yC,GR,mw,hl2⟩:∃ wu u yC,us=wu++u :: yC/\wu.length=m1.length/\yC.length=m2.length:=by
  rw [hlen] at lu;have h1:m1.length<us.length:=by omega
  refine ⟨us.take m1.length,us[m1.length],us.drop (m1.length+1),?_,by rw [aZ];omega,by rw [bJ];omega⟩;rw [<-bj h1,ai]
 subst GR;have hcells:gy (m1++m :: m2) (wu++u :: yC)=gy m1 wu++(iW m u++gy m2 yC):=by
  rw [Qz _ _ _ _ mw,gy]
 obtain ⟨R,hR⟩:∃ R,cur.toList=gy m1 wu++(iW m u++gy m2 yC)++R:=by
  refine ⟨cur.toList.drop ((m1++m :: m2).length*9),?_⟩;rw [<-hcells,<-htk,ai]
 have lA:=BA m1 wu mw;have lB:=BA m2 yC hl2;have mx:dh w g (gy m1 wu++(iW m u++gy m2 yC)++R) 112:=by
  rw [dh,<-hR];exact hg
 have lR:(gy m1 wu++(iW m u++gy m2 yC)++R).length=cap*9:=by rw [<-hR];simpa using hcs
 simp only [aD,lA,lB,show (iW m u).length=9 from rfl] at lR;obtain ⟨A,hA⟩:∃ A,A=gy m1 wu:=⟨_,rfl⟩;obtain ⟨M,hM⟩:∃ M,M=iW m u:=⟨_,rfl⟩;obtain ⟨B,hB⟩:∃ B,B=gy m2 yC:=⟨_,rfl⟩;rw [<-hA] at lA mx;rw [<-hB] at lB mx;rw [<-hM] at mx;have lM:M.length=9:=by rw [hM];rfl
 have hone:∀ x∈B,x.oneCell'=true:=by
  rw [hB];refine yGv m2 yC hl2 (fun i m' u' h1 h2=>?_);obtain ⟨ua,dj,e,_⟩:=hps (m1.length+1+i) m' u' (by rw [aO (by omega),show m1.length+1+i - m1.length=i+1 by omega,cQ];exact h1) (by rw [aO (by omega),mw,show m1.length+1+i - m1.length=i+1 by omega,cQ];exact h2);rw [e];rfl
 have hcB:∀ (j:Nat) x,B[j]?=some x->w.drew.cell? ((⟨g,(m1.length+1)*9,none⟩:Addr).add j)=some x:=fun j x hx=>by
  rw [Go.WideShapes.add_plain];exact mx.cell _ (by
   rw [aU,aO (by omega),lA,aU,aO (by omega),lM];have hj:=(aB.1 hx).1;rw [aI (by omega)];rw [show (m1.length+1)*9+j - m1.length*9 - 9=j by omega];exact hx)
 have hspare:∀ j,j<B.length->(w.drew.cell? ⟨g,0+m1.length*9+j,none⟩).isSome=true/\w.drew.frozen? ⟨g,0+m1.length*9+j,none⟩=false:=fun j hj=>by
  refine ⟨?_,mx.frozen _⟩;obtain ⟨x,hx⟩:∃ x,(A++(M++B)++R)[0+m1.length*9+j]?=some x:=⟨_,aA (by simp only [aD];omega)⟩;rw [show w.drew.cell? ⟨g,0+m1.length*9+j,none⟩=some x from mx.cell _ hx];rfl
 have HB:=eC mx;have Ez:=eC hcB;have PL:=eC hspare;have sJ:=eC hone;have qs:=eC hps;have vQ:=eC hgd;have HA:=eC hA;have HBB:=eC hB;clear mx hcB hspare hone hps hgd hg hcs htk hrow hcells hR lu hA hM hB;have hroom:m1.length+m2.length<=cap:=by omega
 have hb1:m1.length<=cap:=by omega
 have hb2:(m1.length:Int)+1<=(m1.length:Int)+1+(m2.length:Int):=by omega
 have hb4:0<=(m1.length:Int)+1:=by omega
 go_enter Tryz.func95,Tryz.ntmps95;go_upto_region 5 with fail;go_cut [0] (fun v0 wc=>v0=.slice (some ⟨g,0,none⟩) (m1.length+m2.length) cap/\(∃ tail:List Value,tail.length=9/\dh wc g (A++B++(tail++R)) 112)/\Mod (eF g) w wc)
 case first=>
  have HF:Hid ((∃ tail:List Value,tail.length=9/\dh (w.drew.setCells g (m1.length*9) B) g (A++B++(tail++R)) 112)/\Mod (eF g) w (w.drew.setCells g (m1.length*9) B)):=by
   have e:m1.length*9=A.length:=by omega
   rw [Hid,e];refine ⟨⟨(M++B).drop B.length,by simp;omega,?_⟩,((Mod.refl (eF g) w).drew).trans (Mod.setCells B A.length w.drew)⟩;have:=dh.setCells (g:=g) (t:=112) B w.drew A ((M++B).take B.length) ((M++B).drop B.length++R) (by
    have:=HB.out;rw [dh] at this ⊢;rw [yBo];exact this) (by simp)
   exact this
  by_cases hc1:m1.length+1<cap
  ·have hb3:¬ cap=m1.length+1:=by omega
   go_region_law
    ((first
     | (refine step_append_room (by rfl) _ _ _ (by rfl) 112 i0 9 Tryz.underlying76 hi hz1 g 0 m1.length cap (by rfl) ⟨g,(m1.length+1)*9,none⟩ m2.length _ B (by rfl) lB Ez.out sJ.out hroom PL.out ?_)
     | fail))
   all_goals
    go_wp2_with fail;go_meet
    case rel=>exact ⟨rfl,HF.out⟩
  ·obtain rfl:cap=m1.length+1:=by omega
   obtain rfl:m2=[]:=aT (by omega);have OB:(m1.length:Int)<=(m1.length:Int)+1:=by omega
   have OU:B=[]:=aT lB;have HCB':Hid (∀ (j:Nat) x,B[j]?=some x->w.drew.cell? ((⟨g,0,none⟩:Addr).add j)=some x):=fun j x hx=>by rw [OU] at hx;simp at hx
   have HBN:=eC OU;clear OU
   go_region_law
    ((first
     | (refine step_append_room (by rfl) _ _ _ (by rfl) 112 i0 9 Tryz.underlying76 hi hz1 g 0 m1.length cap (by rfl) ⟨g,0,none⟩ 0 _ B (by rfl) lB HCB'.out sJ.out hroom PL.out ?_)
     | fail))
   all_goals
    go_wp2_with fail;go_meet
    case rel=>exact ⟨rfl,by have:=HF.out;rw [show w.drew.setCells g (m1.length*9) B=w.drew by rw [HBN.out];rfl] at this;exact this⟩
 case rest=>
  obtain ⟨rfl,⟨tail,htl,fi⟩,py⟩:=hcut;have hcz:∀ j,j<9->(wc.cell? ⟨g,(m1.length+m2.length)*9+j,none⟩).isSome=true:=fun j hj=>by
   obtain ⟨x,hx⟩:∃ x,(A++B++(tail++R))[(m1.length+m2.length)*9+j]?=some x:=⟨_,aA (by simp only [aD];omega)⟩;rw [show wc.cell? ⟨g,(m1.length+m2.length)*9+j,none⟩=some x from fi.cell _ hx];rfl
  have hfz:∀ j,j<9->wc.frozen? ⟨g,(m1.length+m2.length)*9+j,none⟩=false:=fun j _=>fi.frozen _;have HCZ:=eC hcz;have HFZ:=eC hfz;have nO:(m1.length:Int)+(m2.length:Int)<=(m1.length:Int)+1+(m2.length:Int):=by omega
  have OC:¬ cap=m1.length+m2.length:=by omega
  clear hcz hfz Ez PL sJ;go_wp2_with (first
   | (refine zSc rfl _ rfl g ((m1.length+m2.length)*9) _ _ rfl (by omega) HCZ.out HFZ.out ?_)
   | fail)
  go_ret;have e:(m1.length+m2.length)*9=(A++B).length:=by rw [aD];omega
  have gm:dh (wc.setCells g ((m1.length+m2.length)*9) ve) g (A++B++ve++R) 112:=by
   rw [e];exact dh.setCells ve wc (A++B) tail R (by rw [aU (A++B)];exact fi) (by rw [htl];rfl)
  have lQ:Mod (eF g) w (wc.setCells g ((m1.length+m2.length)*9) ve):=py.trans (Mod.setCells _ _ _);have hq:Qm w L (eF g):=fun k _ ek=>by
   simp only [eF] at ek;subst ek;have:=HB.out;rw [dh] at this;rintro (e1 | ⟨⟨cur',fr,e1⟩,_⟩)
   ·omega
   ·rw [this] at e1;simp at e1
  refine ⟨_,rfl,⟨wu++yC,by simp [mw,hl2],⟨?_,.inr ⟨g,cap,(A++B++ve++R).toArray,by simp,DA,gm,by simp;omega,by unfold maxLen;omega,?_,?_⟩⟩,?_,?_⟩,rfl,lQ.mono (fun i _ ei=>by simp only [eF] at ei;rw [ei];rfl)⟩
  ·rw [BA _ _ (by simp [mw,hl2])]
  ·simp only [au,aD,show ve.length=9 from rfl];omega
  ·rw [Qz _ _ _ _ mw,<-HA.out,<-HBB.out,aD,e,aU (A++B),dR]
  ·intro i m' u' hi' hu';refine iE.mod ?_ lQ hq;by_cases hlt:i<m1.length
   ·rw [aI hlt] at hi';rw [aI (by omega)] at hu';exact qs.out i m' u' (by rw [aI hlt];exact hi') (by rw [aI (by omega)];exact hu')
   ·rw [aO (by omega)] at hi' hu';refine qs.out (i+1) m' u' ?_ ?_
    ·rw [aO (by omega),show i+1 - m1.length=i - m1.length+1 by omega,cQ];exact hi'
    ·rw [aO (by omega),show i+1 - wu.length=i - wu.length+1 by omega,cQ];exact hu'
  ·intro m' hm';refine vQ.out m' ?_;rcases aL.1 hm' with h | h
   ·exact aL.2 (.inl h)
   ·exact aL.2 (.inr (ay _ h))
end Go.Proofs.YtmaiggbnceejiaaGreatDoor
