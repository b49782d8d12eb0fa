import Derived.Test.YtogaigioeohjaaaGreatDoorD05
set_option linter.unusedVariables false
set_option maxRecDepth 100000
set_option maxHeartbeats 16000000
namespace Go.Proofs.YtogaigioeohjaaaGreatDoor
open Go.RowKit Go.Lib Go.Maps
def zOm(s:zAl)(f:Int):List MsgD:=match nbrN s 1 with
 | none=>[]
 | some t=>fwdL s t f.toNat (s.log.length - f.toNat)
def zPc(s:zAl)(n:Int):zAl:=zIk s (if s.stable<n then n else s.stable)
def zCt(s:zAl)(m:MsgD):zAl × List MsgD:=
 if m.epoch=s.epoch/\m.to=s.id then
  if m.kind=1/\isN s (-1) m.frm=true then (s,zGn s (-1) (zCh 2 s.log.length))
  else if m.kind=2/\isN s 1 m.frm=true/\0<=m.n then (s,zOm s m.n)
  else if m.kind=3/\isN s (-1) m.frm=true/\m.n=s.log.length/\s.log.length<500 then zFo s m.cmd
  else if m.kind=4/\isN s 1 m.frm=true/\0<=m.n/\m.n<=s.log.length then (zPc s m.n,zGn (zPc s m.n) (-1) (zCh 4 (zPc s m.n).stable))
  else (s,[])
 else (s,[])
theorem yDt{s:zAl}{wh x:Int}(h:isN s wh x=true):nbrN s wh=some x:=by
 unfold isN at h
 cases hn:nbrN s wh with
 | none=>rw [hn] at h;cases h
 | some y=>rw [hn] at h;simp at h;rw [h]
theorem isN_in{s:zAl}{wh x:Int}(h:isN s wh x=true):inN s=true:=by
 have:=yDt h
 unfold nbrN at this
 split at this
 ·rename_i e;simp only [Bool.and_eq_true] at e;exact e.1
 ·cases this
theorem zJe{L:Lo}{g:Nat}{nv lv:Value}{s:zAl}{m:MsgD}{u:Value}{w:World}(h:zAx w L g nv lv s)(hu:zAy w L u m.cmd.writes):∃ ua ucap w1 la lcap,u=.slice ua m.cmd.writes.length ucap/\lv=.slice la s.log.length lcap/\w1=w.alloc (.cells #[.int .i64 m.kind,.int .i64 m.frm,.int .i64 m.to,.int .i64 m.epoch,.int .i64 m.n,.int .i64 m.cmd.kind,.int .i64 m.cmd.tx,.int .i64 m.cmd.time,.slice ua m.cmd.writes.length ucap] 110)/\Mod zAb w w1/\Blk w1 w.heap.size (zAt m (.slice ua m.cmd.writes.length ucap)) 110/\zAx w1 L g nv lv s/\Hid (zAy w1 L u m.cmd.writes):=by
 obtain ⟨ua,ucap,rfl⟩:∃ ua ucap,u=.slice ua m.cmd.writes.length ucap:=by obtain ⟨ua,ucap,h,_⟩:=hu;exact ⟨ua,ucap,h⟩
 have hm1:Mod zAb w (w.alloc (.cells #[.int .i64 m.kind,.int .i64 m.frm,.int .i64 m.to,.int .i64 m.epoch,.int .i64 m.n,.int .i64 m.cmd.kind,.int .i64 m.cmd.tx,.int .i64 m.cmd.time,.slice ua m.cmd.writes.length ucap] 110)):=(Mod.refl _ w).alloc _
 have h1:=h.quiet hm1
 obtain ⟨la,lcap,hlv⟩:=h1.lg.slice
 exact ⟨ua,ucap,_,la,lcap,rfl,hlv,rfl,hm1,Blk.new w _ _,h1,Hmr (hu.mod hm1 (Qm.none _ _))⟩
theorem yNn(L:Lo)(g:Nat)(nv lv:Value)(s:zAl)(m:MsgD)(u:Value)(w:World)(h:zAx w L g nv lv s)(hu:zAy w L u m.cmd.writes)(hgm:zJg m)(hoff:¬ (m.epoch=s.epoch/\m.to=s.id)) :
  Calls Tryz.prog 81 #[.pointer (some ⟨g,0,none⟩),.agg #[.int .i64 m.kind,.int .i64 m.frm,.int .i64 m.to,.int .i64 m.epoch,.int .i64 m.n,.int .i64 m.cmd.kind,.int .i64 m.cmd.tx,.int .i64 m.cmd.time,u]] w fun e w'=>e=.returned (.slice none 0 0)/\Mod zAb w w':=by
 obtain ⟨ua,ucap,w1,la,lcap,rfl,rfl,hw1,hm1,hB1,h1,HU⟩:=zJe h hu
 obtain ⟨c0,c1,c2,c3,c4⟩:=zFt h1.blk
 obtain ⟨⟨x0,x1,x2,x3,x4,x5,x6,x7,x8⟩,_⟩:=blk9 hB1
 have z1:=hB1.lt
 have z2:=h1.blk.lt
 have hz1:=hm1.size
 have hfew:=h1.few
 have hst:=h1.st
 have HN:=Hmr h1
 clear h hu h1
 go_enter Tryz.func81,Tryz.ntmps81
 go_upto_region 1 with fail
 rw [<-hw1]
 clear hw1
 by_cases hep:m.epoch=s.epoch
 ·have hto:¬ m.to=s.id:=fun e=>hoff ⟨hep,e⟩
  have he1:(m.epoch != s.epoch)=false:=by simp [hep]
  have he2:(m.to != s.id)=true:=by simpa using hto
  go_quiet (fail)
  go_wp2_with fail
  go_ret
  exact ⟨rfl,by first | exact hm1.drewN _ | exact (hm1.drewN _).drewN _ | exact ((hm1.drewN _).drewN _).drewN _ | exact (((hm1.drewN _).drewN _).drewN _).drewN _⟩
 ·have he1:(m.epoch != s.epoch)=true:=by simpa using hep
  go_quiet (fail)
  go_wp2_with fail
  go_ret
  exact ⟨rfl,by first | exact hm1.drewN _ | exact (hm1.drewN _).drewN _ | exact ((hm1.drewN _).drewN _).drewN _ | exact (((hm1.drewN _).drewN _).drewN _).drewN _⟩
theorem yJa(L:Lo)(g:Nat)(nv lv:Value)(s:zAl)(m:MsgD)(u:Value)(w:World)(h:zAx w L g nv lv s)(hu:zAy w L u m.cmd.writes)(hgm:zJg m)(hep:m.epoch=s.epoch)(hto:m.to=s.id)(hk1:m.kind≠1)(hk2:m.kind≠2)(hk3:m.kind≠3)(hk4:m.kind≠4) :
  Calls Tryz.prog 81 #[.pointer (some ⟨g,0,none⟩),.agg #[.int .i64 m.kind,.int .i64 m.frm,.int .i64 m.to,.int .i64 m.epoch,.int .i64 m.n,.int .i64 m.cmd.kind,.int .i64 m.cmd.tx,.int .i64 m.cmd.time,u]] w fun e w'=>e=.returned (.slice none 0 0)/\Mod zAb w w':=by
 have HEP:=Hmr hep
 have HTO:=Hmr hto
 clear hep hto
 obtain ⟨ua,ucap,w1,la,lcap,rfl,rfl,hw1,hm1,hB1,h1,HU⟩:=zJe h hu
 obtain ⟨c0,c1,c2,c3,c4⟩:=zFt h1.blk
 obtain ⟨⟨x0,x1,x2,x3,x4,x5,x6,x7,x8⟩,_⟩:=blk9 hB1
 have z1:=hB1.lt
 have z2:=h1.blk.lt
 have hz1:=hm1.size
 have hfew:=h1.few
 have hst:=h1.st
 have HN:=Hmr h1
 clear h hu h1
 go_enter Tryz.func81,Tryz.ntmps81
 go_upto_region 1 with fail
 rw [<-hw1]
 clear hw1
 have k1:(m.kind == 1)=false:=by simpa using hk1
 have k2:(m.kind == 2)=false:=by simpa using hk2
 have k3:(m.kind == 3)=false:=by simpa using hk3
 have k4:(m.kind == 4)=false:=by simpa using hk4
 have he1:(m.epoch != s.epoch)=false:=by simp [HEP.out]
 have he2:(m.to != s.id)=false:=by simp [HTO.out]
 go_quiet (fail)
 go_upto_region 7 with fail
 go_quiet (fail)
 go_upto_region 9 with fail
 go_quiet (fail)
 go_wp2_with fail
 go_ret
 exact ⟨rfl,by first | exact hm1.drewN _ | exact (hm1.drewN _).drewN _ | exact ((hm1.drewN _).drewN _).drewN _ | exact (((hm1.drewN _).drewN _).drewN _).drewN _⟩
theorem yIy(L:Lo)(g:Nat)(nv lv:Value)(s:zAl)(m:MsgD)(u:Value)(w:World)(h:zAx w L g nv lv s)(hu:zAy w L u m.cmd.writes)(hgm:zJg m)(hep:m.epoch=s.epoch)(hto:m.to=s.id)(hk:m.kind=1)(hi:isN s (-1) m.frm=true) :
  Calls Tryz.prog 81 #[.pointer (some ⟨g,0,none⟩),.agg #[.int .i64 m.kind,.int .i64 m.frm,.int .i64 m.to,.int .i64 m.epoch,.int .i64 m.n,.int .i64 m.cmd.kind,.int .i64 m.cmd.tx,.int .i64 m.cmd.time,u]] w fun e w'=>∃ v,e=.returned v/\RowM w' L v (zGn s (-1) (zCh 2 s.log.length))/\zCr w v/\Mod zAb w w':=by
 have HEP:=Hmr hep
 have HTO:=Hmr hto
 have HK:=Hmr hk
 clear hep hto hk
 obtain ⟨ua,ucap,w1,la,lcap,rfl,rfl,hw1,hm1,hB1,h1,HU⟩:=zJe h hu
 obtain ⟨c0,c1,c2,c3,c4⟩:=zFt h1.blk
 obtain ⟨⟨x0,x1,x2,x3,x4,x5,x6,x7,x8⟩,_⟩:=blk9 hB1
 have z1:=hB1.lt
 have z2:=h1.blk.lt
 have hz1:=hm1.size
 have hfew:=h1.few
 have hst:=h1.st
 have HN:=Hmr h1
 clear h hu h1
 go_enter Tryz.func81,Tryz.ntmps81
 go_upto_region 1 with fail
 rw [<-hw1]
 clear hw1
 have k1:(m.kind == 1)=true:=by simp [HK.out]
 have k2:(m.kind == 2)=false:=by simp [HK.out]
 have k3:(m.kind == 3)=false:=by simp [HK.out]
 have k4:(m.kind == 4)=false:=by simp [HK.out]
 have he1:(m.epoch != s.epoch)=false:=by simp [HEP.out]
 have he2:(m.to != s.id)=false:=by simp [HTO.out]
 go_quiet (fail)
 have HI:=zMv L g nv _ s (-1) m.frm _ (HN.out.drewN nq) (.inr rfl)
 rw [hi] at HI
 have HI':=Hmr HI
 clear HI
 go_wp2_with fail
 refine HI'.out.mono ?_
 rintro e w2 ⟨rfl,m2,rfl⟩
 have HS:=Hmr (zLs L g nv _ s (-1) (zCh 2 s.log.length) (.slice none 0 0) _ (HN.out.drewN (nq+m2)) (.inr rfl) (zAy.nil _ _) (zMb _ _ (by simp [zBc]) (by simp only [zBc];omega)))
 clear HI'
 go_wp2_with fail
 refine HS.out.mono ?_
 rintro e w3 ⟨v,rfl,hR,hf,hm3⟩
 clear HS
 go_wp2_with fail
 go_ret
 exact ⟨v,rfl,hR,fun k hk=>Nat.le_trans hz1 (hf k hk),(hm1.drewN (nq+m2)).trans hm3⟩
theorem zYm(L:Lo)(g:Nat)(nv lv:Value)(s:zAl)(m:MsgD)(u:Value)(w:World)(h:zAx w L g nv lv s)(hu:zAy w L u m.cmd.writes)(hgm:zJg m)(hep:m.epoch=s.epoch)(hto:m.to=s.id)(hk:m.kind=1)(hi:isN s (-1) m.frm=false) :
  Calls Tryz.prog 81 #[.pointer (some ⟨g,0,none⟩),.agg #[.int .i64 m.kind,.int .i64 m.frm,.int .i64 m.to,.int .i64 m.epoch,.int .i64 m.n,.int .i64 m.cmd.kind,.int .i64 m.cmd.tx,.int .i64 m.cmd.time,u]] w fun e w'=>e=.returned (.slice none 0 0)/\Mod zAb w w':=by
 have HEP:=Hmr hep
 have HTO:=Hmr hto
 have HK:=Hmr hk
 clear hep hto hk
 obtain ⟨ua,ucap,w1,la,lcap,rfl,rfl,hw1,hm1,hB1,h1,HU⟩:=zJe h hu
 obtain ⟨c0,c1,c2,c3,c4⟩:=zFt h1.blk
 obtain ⟨⟨x0,x1,x2,x3,x4,x5,x6,x7,x8⟩,_⟩:=blk9 hB1
 have z1:=hB1.lt
 have z2:=h1.blk.lt
 have hz1:=hm1.size
 have hfew:=h1.few
 have hst:=h1.st
 have HN:=Hmr h1
 clear h hu h1
 go_enter Tryz.func81,Tryz.ntmps81
 go_upto_region 1 with fail
 rw [<-hw1]
 clear hw1
 have k1:(m.kind == 1)=true:=by simp [HK.out]
 have k2:(m.kind == 2)=false:=by simp [HK.out]
 have k3:(m.kind == 3)=false:=by simp [HK.out]
 have k4:(m.kind == 4)=false:=by simp [HK.out]
 have he1:(m.epoch != s.epoch)=false:=by simp [HEP.out]
 have he2:(m.to != s.id)=false:=by simp [HTO.out]
 go_quiet (fail)
 have HI:=zMv L g nv _ s (-1) m.frm _ (HN.out.drewN nq) (.inr rfl)
 rw [hi] at HI
 have HI':=Hmr HI
 clear HI
 go_wp2_with fail
 refine HI'.out.mono ?_
 rintro e w2 ⟨rfl,m2,rfl⟩
 clear HI'
 go_upto_region 7 with fail
 go_quiet (fail)
 go_upto_region 9 with fail
 go_quiet (fail)
 go_wp2_with fail
 go_ret
 exact ⟨rfl,by first | exact hm1.drewN _ | exact (hm1.drewN _).drewN _ | exact ((hm1.drewN _).drewN _).drewN _ | exact (((hm1.drewN _).drewN _).drewN _).drewN _⟩
theorem yJb(L:Lo)(g:Nat)(nv lv:Value)(s:zAl)(m:MsgD)(u:Value)(w:World)(h:zAx w L g nv lv s)(hu:zAy w L u m.cmd.writes)(hgm:zJg m)(hep:m.epoch=s.epoch)(hto:m.to=s.id)(hk:m.kind=2)(hi:isN s 1 m.frm=true)(hn:0<=m.n) :
  Calls Tryz.prog 81 #[.pointer (some ⟨g,0,none⟩),.agg #[.int .i64 m.kind,.int .i64 m.frm,.int .i64 m.to,.int .i64 m.epoch,.int .i64 m.n,.int .i64 m.cmd.kind,.int .i64 m.cmd.tx,.int .i64 m.cmd.time,u]] w fun e w'=>∃ v,e=.returned v/\RowM w' L v (zOm s m.n)/\zCr w v/\Mod zAb w w':=by
 have HEP:=Hmr hep
 have HTO:=Hmr hto
 have HK:=Hmr hk
 clear hep hto hk
 obtain ⟨ua,ucap,w1,la,lcap,rfl,rfl,hw1,hm1,hB1,h1,HU⟩:=zJe h hu
 obtain ⟨c0,c1,c2,c3,c4⟩:=zFt h1.blk
 obtain ⟨⟨x0,x1,x2,x3,x4,x5,x6,x7,x8⟩,_⟩:=blk9 hB1
 have z1:=hB1.lt
 have z2:=h1.blk.lt
 have hz1:=hm1.size
 have hfew:=h1.few
 have hst:=h1.st
 have HN:=Hmr h1
 clear h hu h1
 go_enter Tryz.func81,Tryz.ntmps81
 go_upto_region 1 with fail
 rw [<-hw1]
 clear hw1
 have k1:(m.kind == 1)=false:=by simp [HK.out]
 have k2:(m.kind == 2)=true:=by simp [HK.out]
 have k3:(m.kind == 3)=false:=by simp [HK.out]
 have k4:(m.kind == 4)=false:=by simp [HK.out]
 have hnb:=yDt hi
 have HH:Hid (zOm s m.n=fwdL s m.frm m.n.toNat (s.log.length - m.n.toNat)):=by rw [Hid,zOm,hnb]
 have hd:decide (m.n ≥ 0)=true:=decide_eq_true hn
 have hd':decide (0<=m.n)=true:=decide_eq_true hn
 have he1:(m.epoch != s.epoch)=false:=by simp [HEP.out]
 have he2:(m.to != s.id)=false:=by simp [HTO.out]
 go_quiet (fail)
 have HI:=zMv L g nv _ s 1 m.frm _ (HN.out.drewN nq) (.inl rfl)
 rw [hi] at HI
 have HI':=Hmr HI
 clear HI
 go_wp2_with fail
 refine HI'.out.mono ?_
 rintro e w2 ⟨rfl,m2,rfl⟩
 have HF:=Hmr (zSy L g nv _ s m.frm m.n _ (HN.out.drewN (nq+m2)) hnb hn)
 clear HI'
 go_wp2_with fail
 refine HF.out.mono ?_
 rintro e w3 ⟨v,rfl,hR,hf,hm3⟩
 clear HF
 go_wp2_with fail
 go_ret
 exact ⟨v,rfl,by rw [HH.out];exact hR,fun k hk=>Nat.le_trans hz1 (hf k hk),(hm1.drewN (nq+m2)).trans hm3⟩
theorem zYo(L:Lo)(g:Nat)(nv lv:Value)(s:zAl)(m:MsgD)(u:Value)(w:World)(h:zAx w L g nv lv s)(hu:zAy w L u m.cmd.writes)(hgm:zJg m)(hep:m.epoch=s.epoch)(hto:m.to=s.id)(hk:m.kind=2)(hno:¬ (isN s 1 m.frm=true/\0<=m.n)) :
  Calls Tryz.prog 81 #[.pointer (some ⟨g,0,none⟩),.agg #[.int .i64 m.kind,.int .i64 m.frm,.int .i64 m.to,.int .i64 m.epoch,.int .i64 m.n,.int .i64 m.cmd.kind,.int .i64 m.cmd.tx,.int .i64 m.cmd.time,u]] w fun e w'=>e=.returned (.slice none 0 0)/\Mod zAb w w':=by
 have HEP:=Hmr hep
 have HTO:=Hmr hto
 have HK:=Hmr hk
 clear hep hto hk
 obtain ⟨ua,ucap,w1,la,lcap,rfl,rfl,hw1,hm1,hB1,h1,HU⟩:=zJe h hu
 obtain ⟨c0,c1,c2,c3,c4⟩:=zFt h1.blk
 obtain ⟨⟨x0,x1,x2,x3,x4,x5,x6,x7,x8⟩,_⟩:=blk9 hB1
 have z1:=hB1.lt
 have z2:=h1.blk.lt
 have hz1:=hm1.size
 have hfew:=h1.few
 have hst:=h1.st
 have HN:=Hmr h1
 clear h hu h1
 go_enter Tryz.func81,Tryz.ntmps81
 go_upto_region 1 with fail
 rw [<-hw1]
 clear hw1
 have k1:(m.kind == 1)=false:=by simp [HK.out]
 have k2:(m.kind == 2)=true:=by simp [HK.out]
 have k3:(m.kind == 3)=false:=by simp [HK.out]
 have k4:(m.kind == 4)=false:=by simp [HK.out]
 have he1:(m.epoch != s.epoch)=false:=by simp [HEP.out]
 have he2:(m.to != s.id)=false:=by simp [HTO.out]
 go_quiet (fail)
 have HI:=zMv L g nv _ s 1 m.frm _ (HN.out.drewN nq) (.inl rfl)
 cases hi:isN s 1 m.frm with
 | true=>
  have hn:¬ 0<=m.n:=fun e=>hno ⟨hi,e⟩
  have hd:decide (m.n ≥ 0)=false:=decide_eq_false hn
  have hd':decide (0<=m.n)=false:=decide_eq_false hn
  rw [hi] at HI
  have HI':=Hmr HI
  clear HI
  go_wp2_with fail
  refine HI'.out.mono ?_
  rintro e w2 ⟨rfl,m2,rfl⟩
  clear HI'
  go_upto_region 7 with fail
  go_quiet (fail)
  go_upto_region 9 with fail
  go_quiet (fail)
  go_wp2_with fail
  go_ret
  exact ⟨rfl,by first | exact hm1.drewN _ | exact (hm1.drewN _).drewN _ | exact ((hm1.drewN _).drewN _).drewN _ | exact (((hm1.drewN _).drewN _).drewN _).drewN _⟩
 | false=>
  rw [hi] at HI
  have HI':=Hmr HI
  clear HI
  go_wp2_with fail
  refine HI'.out.mono ?_
  rintro e w2 ⟨rfl,m2,rfl⟩
  clear HI'
  go_upto_region 7 with fail
  go_quiet (fail)
  go_upto_region 9 with fail
  go_quiet (fail)
  go_wp2_with fail
  go_ret
  exact ⟨rfl,by first | exact hm1.drewN _ | exact (hm1.drewN _).drewN _ | exact ((hm1.drewN _).drewN _).drewN _ | exact (((hm1.drewN _).drewN _).drewN _).drewN _⟩
theorem yNo(L:Lo)(g:Nat)(nv lv:Value)(s:zAl)(m:MsgD)(u:Value)(w:World)(h:zAx w L g nv lv s)(hu:zAy w L u m.cmd.writes)(hgm:zJg m)(hep:m.epoch=s.epoch)(hto:m.to=s.id)(hk:m.kind=3)(hi:isN s (-1) m.frm=true)(hn:m.n=s.log.length)(hro:s.log.length<500) :
  Calls Tryz.prog 81 #[.pointer (some ⟨g,0,none⟩),.agg #[.int .i64 m.kind,.int .i64 m.frm,.int .i64 m.to,.int .i64 m.epoch,.int .i64 m.n,.int .i64 m.cmd.kind,.int .i64 m.cmd.tx,.int .i64 m.cmd.time,u]] w fun e w'=>∃ v lv',e=.returned v/\zAx w' L g nv lv' (zFo s m.cmd).1/\RowM w' L v (zFo s m.cmd).2/\zCr w v/\zCf w lv lv'/\Mod (zAs g nv lv) w w':=by
 have HNN:=Hmr hn
 clear hn
 have HEP:=Hmr hep
 have HTO:=Hmr hto
 have HK:=Hmr hk
 clear hep hto hk
 obtain ⟨ua,ucap,w1,la,lcap,rfl,rfl,hw1,hm1,hB1,h1,HU⟩:=zJe h hu
 obtain ⟨c0,c1,c2,c3,c4⟩:=zFt h1.blk
 obtain ⟨⟨x0,x1,x2,x3,x4,x5,x6,x7,x8⟩,_⟩:=blk9 hB1
 have z1:=hB1.lt
 have z2:=h1.blk.lt
 have hz1:=hm1.size
 have hfew:=h1.few
 have hst:=h1.st
 have HN:=Hmr h1
 clear h hu h1
 go_enter Tryz.func81,Tryz.ntmps81
 go_upto_region 1 with fail
 rw [<-hw1]
 clear hw1
 have k1:(m.kind == 1)=false:=by simp [HK.out]
 have k2:(m.kind == 2)=false:=by simp [HK.out]
 have k3:(m.kind == 3)=true:=by simp [HK.out]
 have k4:(m.kind == 4)=false:=by simp [HK.out]
 have hnn:(m.n == (s.log.length:Int))=true:=by simp [HNN.out]
 have hrd:decide (s.log.length<500)=true:=decide_eq_true hro
 have he1:(m.epoch != s.epoch)=false:=by simp [HEP.out]
 have he2:(m.to != s.id)=false:=by simp [HTO.out]
 go_quiet (fail)
 have h2:=HN.out.drewN nq
 have hB2:=hB1.mod ((Mod.refl zAb w1).drewN nq) id
 have hm2:=hm1.drewN nq
 have hu2:=HU.out.mod ((Mod.refl zAb w1).drewN nq) (Qm.none _ _)
 obtain ⟨w2,hw2⟩:∃ q,q=w1.drewN nq:=⟨_,rfl⟩
 rw [<-hw2] at h2 hB2 hm2 hu2 ⊢
 clear hw2 c0 c1 c2 c3 c4 x0 x1 x2 x3 x4 x5 x6 x7 x8 HN HU hB1 hm1
 obtain ⟨c0,c1,c2,c3,c4⟩:=zFt h2.blk
 obtain ⟨⟨x0,x1,x2,x3,x4,x5,x6,x7,x8⟩,_⟩:=blk9 hB2
 have z3:=hB2.lt
 have z4:=h2.blk.lt
 have hz2:=hm2.size
 have HIQ:Hid (∀ n,Calls Tryz.prog 132 #[.pointer (some ⟨g,0,none⟩),.int .i64 (-1),.int .i64 m.frm] (w2.drewN n) fun e w'=>e=.returned (.bool true)/\∃ k,w'=(w2.drewN n).drewN k):=fun n=>by have:=zMv L g nv _ s (-1) m.frm _ (h2.drewN n) (.inr rfl);rw [hi] at this;exact this
 have HRQ:Hid (∀ n,Calls Tryz.prog 135 #[.pointer (some ⟨g,0,none⟩)] (w2.drewN n) fun e w'=>e=.returned (.bool (decide (s.log.length<500)))/\w'=w2.drewN n):=fun n=>zOr L g nv _ s _ (h2.drewN n)
 rw [hrd] at HRQ
 go_upto_region 7 with fail
 go_quiet (first
  | (go_at_call 132;refine Calls.quiet_of (HIQ.out _))
  | (go_at_call 135;refine Calls.quiet_of_same (HRQ.out _))
  | fail)
 have hB3:=hB2.mod ((Mod.refl zAb w2).drewN nq) id
 obtain ⟨⟨y0,y1,y2,y3,y4,y5,y6,y7,y8⟩,_⟩:=blk9 hB3
 have HG:=Hmr (yFw L g nv _ s m.cmd (.slice ua m.cmd.writes.length ucap) (w2.drewN nq) (h2.drewN nq) (isN_in hi) hro (hu2.mod ((Mod.refl zAb w2).drewN nq) (Qm.none _ _)) ⟨hgm.1.2.2.2.2.2,hgm.2⟩)
 clear h2 hu2 HIQ HRQ
 go_wp2_with fail
 refine HG.out.mono ?_
 rintro e w3 ⟨v,lv3,rfl,hN3,hR,hf,hv3,hm3⟩
 clear HG
 go_wp2_with fail
 go_ret
 refine ⟨v,lv3,rfl,hN3,hR,fun k hk=>Nat.le_trans hz2 (hf k hk),?_,((hm2.drewN nq).mono (fun _ _ e=>e.elim)).trans hm3⟩
 rcases hv3 with e | e
 ·exact .inl e
 ·exact .inr (fun k hk=>Nat.le_trans hz2 (e k hk))
theorem yBy(L:Lo)(g:Nat)(nv lv:Value)(s:zAl)(m:MsgD)(u:Value)(w:World)(h:zAx w L g nv lv s)(hu:zAy w L u m.cmd.writes)(hgm:zJg m)(hep:m.epoch=s.epoch)(hto:m.to=s.id)(hk:m.kind=3)(hno:¬ (isN s (-1) m.frm=true/\m.n=s.log.length/\s.log.length<500)) :
  Calls Tryz.prog 81 #[.pointer (some ⟨g,0,none⟩),.agg #[.int .i64 m.kind,.int .i64 m.frm,.int .i64 m.to,.int .i64 m.epoch,.int .i64 m.n,.int .i64 m.cmd.kind,.int .i64 m.cmd.tx,.int .i64 m.cmd.time,u]] w fun e w'=>e=.returned (.slice none 0 0)/\Mod zAb w w':=by
 have HEP:=Hmr hep
 have HTO:=Hmr hto
 have HK:=Hmr hk
 clear hep hto hk
 obtain ⟨ua,ucap,w1,la,lcap,rfl,rfl,hw1,hm1,hB1,h1,HU⟩:=zJe h hu
 obtain ⟨c0,c1,c2,c3,c4⟩:=zFt h1.blk
 obtain ⟨⟨x0,x1,x2,x3,x4,x5,x6,x7,x8⟩,_⟩:=blk9 hB1
 have z1:=hB1.lt
 have z2:=h1.blk.lt
 have hz1:=hm1.size
 have hfew:=h1.few
 have hst:=h1.st
 have HN:=Hmr h1
 clear h hu h1
 go_enter Tryz.func81,Tryz.ntmps81
 go_upto_region 1 with fail
 rw [<-hw1]
 clear hw1
 have k1:(m.kind == 1)=false:=by simp [HK.out]
 have k2:(m.kind == 2)=false:=by simp [HK.out]
 have k3:(m.kind == 3)=true:=by simp [HK.out]
 have k4:(m.kind == 4)=false:=by simp [HK.out]
 have he1:(m.epoch != s.epoch)=false:=by simp [HEP.out]
 have he2:(m.to != s.id)=false:=by simp [HTO.out]
 go_quiet (fail)
 have h2:=HN.out.drewN nq
 have hB2:=hB1.mod ((Mod.refl zAb w1).drewN nq) id
 have hm2:=hm1.drewN nq
 have hu2:=HU.out.mod ((Mod.refl zAb w1).drewN nq) (Qm.none _ _)
 obtain ⟨w2,hw2⟩:∃ q,q=w1.drewN nq:=⟨_,rfl⟩
 rw [<-hw2] at h2 hB2 hm2 hu2 ⊢
 clear hw2 c0 c1 c2 c3 c4 x0 x1 x2 x3 x4 x5 x6 x7 x8 HN HU hB1 hm1
 obtain ⟨c0,c1,c2,c3,c4⟩:=zFt h2.blk
 obtain ⟨⟨x0,x1,x2,x3,x4,x5,x6,x7,x8⟩,_⟩:=blk9 hB2
 have z3:=hB2.lt
 have z4:=h2.blk.lt
 have hz2:=hm2.size
 go_upto_region 7 with fail
 cases hi:isN s (-1) m.frm with
 | false=>
  have HIQ:Hid (∀ n,Calls Tryz.prog 132 #[.pointer (some ⟨g,0,none⟩),.int .i64 (-1),.int .i64 m.frm] (w2.drewN n) fun e w'=>e=.returned (.bool false)/\∃ k,w'=(w2.drewN n).drewN k):=fun n=>by have:=zMv L g nv _ s (-1) m.frm _ (h2.drewN n) (.inr rfl);rw [hi] at this;exact this
  have HRQ:Hid (∀ n,Calls Tryz.prog 135 #[.pointer (some ⟨g,0,none⟩)] (w2.drewN n) fun e w'=>e=.returned (.bool (decide (s.log.length<500)))/\w'=w2.drewN n):=fun n=>zOr L g nv _ s _ (h2.drewN n)
  go_quiet (first
   | (go_at_call 132;refine Calls.quiet_of (HIQ.out _))
   | (go_at_call 135;refine Calls.quiet_of_same (HRQ.out _))
   | fail)
  go_upto_region 9 with fail
  go_quiet (fail)
  go_wp2_with fail
  go_ret
  exact ⟨rfl,by first | exact hm2.drewN _ | exact (hm2.drewN _).drewN _ | exact ((hm2.drewN _).drewN _).drewN _⟩
 | true=>
  have HIQ:Hid (∀ n,Calls Tryz.prog 132 #[.pointer (some ⟨g,0,none⟩),.int .i64 (-1),.int .i64 m.frm] (w2.drewN n) fun e w'=>e=.returned (.bool true)/\∃ k,w'=(w2.drewN n).drewN k):=fun n=>by have:=zMv L g nv _ s (-1) m.frm _ (h2.drewN n) (.inr rfl);rw [hi] at this;exact this
  have HRQ:Hid (∀ n,Calls Tryz.prog 135 #[.pointer (some ⟨g,0,none⟩)] (w2.drewN n) fun e w'=>e=.returned (.bool (decide (s.log.length<500)))/\w'=w2.drewN n):=fun n=>zOr L g nv _ s _ (h2.drewN n)
  by_cases hn:m.n=s.log.length
  ·have hro:¬ s.log.length<500:=fun e=>hno ⟨hi,hn,e⟩
   have hnn:(m.n == (s.log.length:Int))=true:=by simp [hn]
   have hrd:decide (s.log.length<500)=false:=decide_eq_false hro
   rw [hrd] at HRQ
   have HNN:=Hmr hn
   clear hn
   go_quiet (first
    | (go_at_call 132;refine Calls.quiet_of (HIQ.out _))
    | (go_at_call 135;refine Calls.quiet_of_same (HRQ.out _))
    | fail)
   go_upto_region 9 with fail
   go_quiet (fail)
   go_wp2_with fail
   go_ret
   exact ⟨rfl,by first | exact hm2.drewN _ | exact (hm2.drewN _).drewN _ | exact ((hm2.drewN _).drewN _).drewN _⟩
  ·have hnn:(m.n == (s.log.length:Int))=false:=by simpa using hn
   go_quiet (first
    | (go_at_call 132;refine Calls.quiet_of (HIQ.out _))
    | (go_at_call 135;refine Calls.quiet_of_same (HRQ.out _))
    | fail)
   go_upto_region 9 with fail
   go_quiet (fail)
   go_wp2_with fail
   go_ret
   exact ⟨rfl,by first | exact hm2.drewN _ | exact (hm2.drewN _).drewN _ | exact ((hm2.drewN _).drewN _).drewN _⟩
theorem zYn(L:Lo)(g:Nat)(nv lv:Value)(s:zAl)(m:MsgD)(u:Value)(w:World)(h:zAx w L g nv lv s)(hu:zAy w L u m.cmd.writes)(hgm:zJg m)(hep:m.epoch=s.epoch)(hto:m.to=s.id)(hk:m.kind=4)(hno:¬ (isN s 1 m.frm=true/\0<=m.n/\m.n<=s.log.length)) :
  Calls Tryz.prog 81 #[.pointer (some ⟨g,0,none⟩),.agg #[.int .i64 m.kind,.int .i64 m.frm,.int .i64 m.to,.int .i64 m.epoch,.int .i64 m.n,.int .i64 m.cmd.kind,.int .i64 m.cmd.tx,.int .i64 m.cmd.time,u]] w fun e w'=>e=.returned (.slice none 0 0)/\Mod zAb w w':=by
 have HEP:=Hmr hep
 have HTO:=Hmr hto
 have HK:=Hmr hk
 clear hep hto hk
 obtain ⟨ua,ucap,w1,la,lcap,rfl,rfl,hw1,hm1,hB1,h1,HU⟩:=zJe h hu
 obtain ⟨c0,c1,c2,c3,c4⟩:=zFt h1.blk
 obtain ⟨⟨x0,x1,x2,x3,x4,x5,x6,x7,x8⟩,_⟩:=blk9 hB1
 have z1:=hB1.lt
 have z2:=h1.blk.lt
 have hz1:=hm1.size
 have hfew:=h1.few
 have hst:=h1.st
 have HN:=Hmr h1
 clear h hu h1
 go_enter Tryz.func81,Tryz.ntmps81
 go_upto_region 1 with fail
 rw [<-hw1]
 clear hw1
 have k1:(m.kind == 1)=false:=by simp [HK.out]
 have k2:(m.kind == 2)=false:=by simp [HK.out]
 have k3:(m.kind == 3)=false:=by simp [HK.out]
 have k4:(m.kind == 4)=true:=by simp [HK.out]
 have he1:(m.epoch != s.epoch)=false:=by simp [HEP.out]
 have he2:(m.to != s.id)=false:=by simp [HTO.out]
 go_quiet (fail)
 have h2:=HN.out.drewN nq
 have hB2:=hB1.mod ((Mod.refl zAb w1).drewN nq) id
 have hm2:=hm1.drewN nq
 have hu2:=HU.out.mod ((Mod.refl zAb w1).drewN nq) (Qm.none _ _)
 obtain ⟨w2,hw2⟩:∃ q,q=w1.drewN nq:=⟨_,rfl⟩
 rw [<-hw2] at h2 hB2 hm2 hu2 ⊢
 clear hw2 c0 c1 c2 c3 c4 x0 x1 x2 x3 x4 x5 x6 x7 x8 HN HU hB1 hm1
 obtain ⟨c0,c1,c2,c3,c4⟩:=zFt h2.blk
 obtain ⟨⟨x0,x1,x2,x3,x4,x5,x6,x7,x8⟩,_⟩:=blk9 hB2
 have z3:=hB2.lt
 have z4:=h2.blk.lt
 have hz2:=hm2.size
 go_upto_region 7 with fail
 go_quiet (fail)
 have h3:=h2.drewN nq
 have hB3:=hB2.mod ((Mod.refl zAb w2).drewN nq) id
 have hm3:=hm2.drewN nq
 obtain ⟨w3,hw3⟩:∃ q,q=w2.drewN nq:=⟨_,rfl⟩
 rw [<-hw3] at h3 hB3 hm3 ⊢
 clear hw3 c0 c1 c2 c3 c4 x0 x1 x2 x3 x4 x5 x6 x7 x8 h2 hB2 hm2 hu2 z3 z4 hz2
 obtain ⟨c0,c1,c2,c3,c4⟩:=zFt h3.blk
 obtain ⟨⟨x0,x1,x2,x3,x4,x5,x6,x7,x8⟩,_⟩:=blk9 hB3
 have z3:=hB3.lt
 have z4:=h3.blk.lt
 have hz3:=hm3.size
 go_upto_region 9 with fail
 cases hi:isN s 1 m.frm with
 | false=>
  have HIQ:Hid (∀ n,Calls Tryz.prog 132 #[.pointer (some ⟨g,0,none⟩),.int .i64 (1),.int .i64 m.frm] (w3.drewN n) fun e w'=>e=.returned (.bool false)/\∃ k,w'=(w3.drewN n).drewN k):=fun n=>by have:=zMv L g nv _ s (1) m.frm _ (h3.drewN n) (.inl rfl);rw [hi] at this;exact this
  go_quiet (first
   | (go_at_call 132;refine Calls.quiet_of (HIQ.out _))
   | fail)
  go_wp2_with fail
  go_ret
  exact ⟨rfl,by first | exact hm3.drewN _ | exact (hm3.drewN _).drewN _⟩
 | true=>
  have HIQ:Hid (∀ n,Calls Tryz.prog 132 #[.pointer (some ⟨g,0,none⟩),.int .i64 (1),.int .i64 m.frm] (w3.drewN n) fun e w'=>e=.returned (.bool true)/\∃ k,w'=(w3.drewN n).drewN k):=fun n=>by have:=zMv L g nv _ s (1) m.frm _ (h3.drewN n) (.inl rfl);rw [hi] at this;exact this
  by_cases hn:0<=m.n
  ·have hd1:decide (m.n ≥ 0)=true:=decide_eq_true hn
   have hd1':decide (0<=m.n)=true:=decide_eq_true hn
   have hle:¬ m.n<=s.log.length:=fun e=>hno ⟨hi,hn,e⟩
   have hd2:decide (m.n<=(s.log.length:Int))=false:=decide_eq_false hle
   go_quiet (first
    | (go_at_call 132;refine Calls.quiet_of (HIQ.out _))
    | fail)
   go_wp2_with fail
   go_ret
   exact ⟨rfl,by first | exact hm3.drewN _ | exact (hm3.drewN _).drewN _⟩
  ·have hd1:decide (m.n ≥ 0)=false:=decide_eq_false hn
   have hd1':decide (0<=m.n)=false:=decide_eq_false hn
   go_quiet (first
    | (go_at_call 132;refine Calls.quiet_of (HIQ.out _))
    | fail)
   go_wp2_with fail
   go_ret
   exact ⟨rfl,by first | exact hm3.drewN _ | exact (hm3.drewN _).drewN _⟩
theorem yIz(L:Lo)(g:Nat)(nv lv:Value)(s:zAl)(m:MsgD)(u:Value)(w:World)(h:zAx w L g nv lv s)(hu:zAy w L u m.cmd.writes)(hgm:zJg m)(hep:m.epoch=s.epoch)(hto:m.to=s.id)(hk:m.kind=4)(hi:isN s 1 m.frm=true)(hn:0<=m.n)(hle:m.n<=s.log.length) :
  Calls Tryz.prog 81 #[.pointer (some ⟨g,0,none⟩),.agg #[.int .i64 m.kind,.int .i64 m.frm,.int .i64 m.to,.int .i64 m.epoch,.int .i64 m.n,.int .i64 m.cmd.kind,.int .i64 m.cmd.tx,.int .i64 m.cmd.time,u]] w fun e w'=>∃ v,e=.returned v/\zAx w' L g nv lv (zPc s m.n)/\RowM w' L v (zGn (zPc s m.n) (-1) (zCh 4 (zPc s m.n).stable))/\zCr w v/\Mod (zAd g) w w':=by
 have HEP:=Hmr hep
 have HTO:=Hmr hto
 have HK:=Hmr hk
 clear hep hto hk
 obtain ⟨ua,ucap,w1,la,lcap,rfl,rfl,hw1,hm1,hB1,h1,HU⟩:=zJe h hu
 obtain ⟨c0,c1,c2,c3,c4⟩:=zFt h1.blk
 obtain ⟨⟨x0,x1,x2,x3,x4,x5,x6,x7,x8⟩,_⟩:=blk9 hB1
 have z1:=hB1.lt
 have z2:=h1.blk.lt
 have hz1:=hm1.size
 have hfew:=h1.few
 have hst:=h1.st
 have HN:=Hmr h1
 clear h hu h1
 go_enter Tryz.func81,Tryz.ntmps81
 go_upto_region 1 with fail
 rw [<-hw1]
 clear hw1
 have k1:(m.kind == 1)=false:=by simp [HK.out]
 have k2:(m.kind == 2)=false:=by simp [HK.out]
 have k3:(m.kind == 3)=false:=by simp [HK.out]
 have k4:(m.kind == 4)=true:=by simp [HK.out]
 have he1:(m.epoch != s.epoch)=false:=by simp [HEP.out]
 have he2:(m.to != s.id)=false:=by simp [HTO.out]
 go_quiet (fail)
 have h2:=HN.out.drewN nq
 have hB2:=hB1.mod ((Mod.refl zAb w1).drewN nq) id
 have hm2:=hm1.drewN nq
 have hu2:=HU.out.mod ((Mod.refl zAb w1).drewN nq) (Qm.none _ _)
 obtain ⟨w2,hw2⟩:∃ q,q=w1.drewN nq:=⟨_,rfl⟩
 rw [<-hw2] at h2 hB2 hm2 hu2 ⊢
 clear hw2 c0 c1 c2 c3 c4 x0 x1 x2 x3 x4 x5 x6 x7 x8 HN HU hB1 hm1
 obtain ⟨c0,c1,c2,c3,c4⟩:=zFt h2.blk
 obtain ⟨⟨x0,x1,x2,x3,x4,x5,x6,x7,x8⟩,_⟩:=blk9 hB2
 have z3:=hB2.lt
 have z4:=h2.blk.lt
 have hz2:=hm2.size
 go_upto_region 7 with fail
 go_quiet (fail)
 have h3:=h2.drewN nq
 have hB3:=hB2.mod ((Mod.refl zAb w2).drewN nq) id
 have hm3:=hm2.drewN nq
 obtain ⟨w3,hw3⟩:∃ q,q=w2.drewN nq:=⟨_,rfl⟩
 rw [<-hw3] at h3 hB3 hm3 ⊢
 clear hw3 c0 c1 c2 c3 c4 x0 x1 x2 x3 x4 x5 x6 x7 x8 h2 hB2 hm2 hu2 z3 z4 hz2
 obtain ⟨c0,c1,c2,c3,c4⟩:=zFt h3.blk
 obtain ⟨⟨x0,x1,x2,x3,x4,x5,x6,x7,x8⟩,_⟩:=blk9 hB3
 have z3:=hB3.lt
 have z4:=h3.blk.lt
 have hz3:=hm3.size
 go_upto_region 9 with fail
 have HIQ:Hid (∀ n,Calls Tryz.prog 132 #[.pointer (some ⟨g,0,none⟩),.int .i64 (1),.int .i64 m.frm] (w3.drewN n) fun e w'=>e=.returned (.bool true)/\∃ k,w'=(w3.drewN n).drewN k):=fun n=>by have:=zMv L g nv _ s (1) m.frm _ (h3.drewN n) (.inl rfl);rw [hi] at this;exact this
 have hd1:decide (m.n ≥ 0)=true:=decide_eq_true hn
 have hd1':decide (0<=m.n)=true:=decide_eq_true hn
 have hd2:decide (m.n<=(s.log.length:Int))=true:=decide_eq_true hle
 go_quiet (first
  | (go_at_call 132;refine Calls.quiet_of (HIQ.out _))
  | fail)
 have h4:=h3.drewN nq
 have hB4:=hB3.mod ((Mod.refl zAb w3).drewN nq) id
 have hm4:=hm3.drewN nq
 obtain ⟨w4,hw4⟩:∃ q,q=w3.drewN nq:=⟨_,rfl⟩
 rw [<-hw4] at h4 hB4 hm4 ⊢
 clear hw4 c0 c1 c2 c3 c4 x0 x1 x2 x3 x4 x5 x6 x7 x8 h3 hB3 hm3 z3 z4 HIQ
 obtain ⟨c0,c1,c2,c3,c4⟩:=zFt h4.blk
 obtain ⟨⟨x0,x1,x2,x3,x4,x5,x6,x7,x8⟩,_⟩:=blk9 hB4
 have f4:=h4.blk.frozen 4
 have z3:=hB4.lt
 have z4:=h4.blk.lt
 have hz4:=hm4.size
 obtain ⟨t,ht⟩:∃ t,t=(if s.stable<m.n then m.n else s.stable):=⟨_,rfl⟩
 have htb:0<=t/\t<=s.log.length:=by rw [ht];split <;> omega
 have HSB:Hid (zPc s m.n=zIk s t):=by rw [Hid,zPc,<-ht]
 obtain ⟨hN5,hm5⟩:=h4.stabled t htb
 have hN6:=hN5.quiet ((Mod.refl zAb _).drew)
 have d4:=hN5.blk.cell 4 rfl
 simp only [zIk] at d4
 have HS:=Hmr (zLs L g nv _ (zIk s t) (-1) (zCh 4 t) (.slice none 0 0) _ hN6 (.inr rfl) (zAy.nil _ _) (zMb _ _ (by simp [zBc]) (by simp only [zBc];omega)))
 have HN6:=Hmr hN6
 have HM6:Hid (Mod (zAd g) w4 (w4.setCell ⟨g,4,none⟩ (.int .i64 t)).drew):=hm5.drew
 clear h4 hN5 hN6 hm5
 go_upto_region 10 with fail
 go_region
 rw [<-ht]
 clear ht
 go_wp2_with fail
 refine HS.out.mono ?_
 rintro e w6 ⟨v,rfl,hR,hf,hm6⟩
 clear HS
 go_wp2_with fail
 go_ret
 refine ⟨v,rfl,by rw [HSB.out];exact HN6.out.quiet hm6,by rw [HSB.out];exact hR,fun k hk=>Nat.le_trans hz4 (by simpa using hf k hk),((hm4.mono (fun _ _ e=>e.elim)).trans HM6.out).trans (hm6.mono (fun _ _ e=>e.elim))⟩
theorem yNp(L:Lo)(g:Nat)(nv lv:Value)(s:zAl)(m:MsgD)(u:Value)(w:World)(h:zAx w L g nv lv s)(hu:zAy w L u m.cmd.writes)(hgm:zJg m) :
  Calls Tryz.prog 81 #[.pointer (some ⟨g,0,none⟩),.agg #[.int .i64 m.kind,.int .i64 m.frm,.int .i64 m.to,.int .i64 m.epoch,.int .i64 m.n,.int .i64 m.cmd.kind,.int .i64 m.cmd.tx,.int .i64 m.cmd.time,u]] w fun e w'=>
   ∃ v lv',e=.returned v/\zAx w' L g nv lv' (zCt s m).1/\RowM w' L v (zCt s m).2/\zCr w v/\zCf w lv lv'/\Mod (zAs g nv lv) w w':=by
 have nil:∀ (P:zCt s m=(s,[])) (e:Ending) (w':World),e=.returned (.slice none 0 0)/\Mod zAb w w'->∃ v lv',e=.returned v/\zAx w' L g nv lv' (zCt s m).1/\RowM w' L v (zCt s m).2/\zCr w v/\zCf w lv lv'/\Mod (zAs g nv lv) w w':=by
  rintro P e w' ⟨rfl,hm⟩
  rw [P]
  exact ⟨_,lv,rfl,h.quiet hm,RowM.nil _ _,fun k hk=>by simp [Value.ownBlock] at hk,zCf.refl _ _,hm.mono (fun _ _ e=>e.elim)⟩
 have say:∀ (ms:List MsgD) (P:zCt s m=(s,ms)) (e:Ending) (w':World),(∃ v,e=.returned v/\RowM w' L v ms/\zCr w v/\Mod zAb w w')->∃ v lv',e=.returned v/\zAx w' L g nv lv' (zCt s m).1/\RowM w' L v (zCt s m).2/\zCr w v/\zCf w lv lv'/\Mod (zAs g nv lv) w w':=by
  rintro ms P e w' ⟨v,rfl,hR,hf,hm⟩
  rw [P]
  exact ⟨v,lv,rfl,h.quiet hm,hR,hf,zCf.refl _ _,hm.mono (fun _ _ e=>e.elim)⟩
 by_cases hon:m.epoch=s.epoch/\m.to=s.id
 ·obtain ⟨hep,hto⟩:=hon
  by_cases hk1:m.kind=1
  ·cases hi:isN s (-1) m.frm with
   | true=>exact (yIy L g nv lv s m u w h hu hgm hep hto hk1 hi).mono (say _ (by simp [zCt,hep,hto,hk1,hi]))
   | false=>exact (zYm L g nv lv s m u w h hu hgm hep hto hk1 hi).mono (nil (by simp [zCt,hep,hto,hk1,hi]))
  by_cases hk2:m.kind=2
  ·by_cases hc:isN s 1 m.frm=true/\0<=m.n
   ·exact (yJb L g nv lv s m u w h hu hgm hep hto hk2 hc.1 hc.2).mono (say _ (by simp [zCt,hep,hto,hk2,hc]))
   ·exact (zYo L g nv lv s m u w h hu hgm hep hto hk2 hc).mono (nil (by simp [zCt,hep,hto,hk2];intro a b;exact absurd ⟨a,b⟩ hc))
  by_cases hk3:m.kind=3
  ·by_cases hc:isN s (-1) m.frm=true/\m.n=s.log.length/\s.log.length<500
   ·have P:zCt s m=zFo s m.cmd:=by simp [zCt,hep,hto,hk3,hc]
    rw [P]
    exact yNo L g nv lv s m u w h hu hgm hep hto hk3 hc.1 hc.2.1 hc.2.2
   ·exact (yBy L g nv lv s m u w h hu hgm hep hto hk3 hc).mono (nil (by simp [zCt,hep,hto,hk3];intro a b c;exact absurd ⟨a,b,c⟩ hc))
  by_cases hk4:m.kind=4
  ·by_cases hc:isN s 1 m.frm=true/\0<=m.n/\m.n<=s.log.length
   ·have P:zCt s m=(zPc s m.n,zGn (zPc s m.n) (-1) (zCh 4 (zPc s m.n).stable)):=by simp [zCt,hep,hto,hk4,hc]
    rw [P]
    refine (yIz L g nv lv s m u w h hu hgm hep hto hk4 hc.1 hc.2.1 hc.2.2).mono ?_
    rintro e w' ⟨v,rfl,hN,hR,hf,hm⟩
    exact ⟨v,lv,rfl,hN,hR,hf,zCf.refl _ _,hm.mono (fun i _ e=>.inl e)⟩
   ·exact (zYn L g nv lv s m u w h hu hgm hep hto hk4 hc).mono (nil (by simp [zCt,hep,hto,hk4];intro a b c;exact absurd ⟨a,b,c⟩ hc))
  ·exact (yJa L g nv lv s m u w h hu hgm hep hto hk1 hk2 hk3 hk4).mono (nil (by simp [zCt,hep,hto,hk1,hk2,hk3,hk4]))
 ·exact (yNn L g nv lv s m u w h hu hgm hon).mono (nil (by simp [zCt];intro a b;exact absurd ⟨a,b⟩ hon))
end Go.Proofs.YtogaigioeohjaaaGreatDoor
