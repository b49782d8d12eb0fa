import Derived.Test.YtogaigioeohjaaaGreatDoorD13
import Derived.Shelf.Lays
import Derived.Shelf.Sort.Plain
import Derived.Shelf.Slices.In.SortNone2
import Derived.Ground.NamesProg
import Derived.Test.YtogaigioeohjaaaGreatDoorProg
set_option linter.unusedVariables false
set_option maxRecDepth 100000
set_option maxHeartbeats 16000000
namespace Go.Proofs.YtogaigioeohjaaaGreatDoor
open Go.RowKit Go.Lib Go.Maps
theorem zMd(e:Int)(w:World):(Instr.makeInterface 25 (.int .i64 e)).run Tryz.prog w=.ok (.iface 25 (.int .i64 e)) w:=by kernel_rfl
theorem yFq{w w6 w7 w8:World}{B N:Nat}{q q':TbM}{s:Tab}{name:ByteArray}{v:Bool->Value}{k':KeyS}{c:ClmD}{u:Value}(i0:Bool)(h:TbP w B N q s)(hn:okQ name)(hm6:Mod (fun x=>(q.hd name i0).ownBlock=some x\/w.heap.size<=x) w w6)
  (hvo:∀ i x,(v i).ownBlock=some x->q.own x\/w.heap.size<=x) (hk:yEw w6 w7 B (N+1) q q' s name v k') (hm8:Mod zAb w7 w8) (hk':(zCx (s name) c).1=k') (hu:RowI w8 w.heap.size u (zCx (s name) c).2.2.1):yTq w w8 B (N+1) q q' s name c u:=by
 have hmb:∀ x,x<w.heap.size->(q.hd name i0).ownBlock=some x\/w.heap.size<=x->q.own x:=fun x hx e=>by
  rcases e with e | e
  ·exact .inr ⟨name,i0,hn,e⟩
  ·omega
 have a1:Mod (fun x=>x=q.b\/q.own x) w w6:=hm6.mono (fun x hx e=>.inr (hmb x hx e))
 have a2:=a1.trans (hk.md.mono (G':=fun x=>x=q.b\/q.own x) (fun x _ e=>e.imp id (fun e=>.inl e)))
 refine ⟨hu,by rw [hk'];exact hk.tb.mod hm8 id (fun _ _=>id),hk.b,hk.pre,hk.post,hk.t,hk.n1,a2.trans (hm8.mono (fun _ _ e=>e.elim)),fun x hx=>?_⟩
 rcases hk.own x hx with e | e | ⟨i,e⟩
 ·exact .inl e
 ·exact .inr (Nat.le_trans hm6.size e)
 ·exact hvo i x e
theorem yQi(B N:Nat)(q:TbM)(s:Tab)(t:Int)(name:ByteArray)(m:Int)(w:World)(h:TbP w B N q s)(hm12:m=1\/m=2)(hn:name.size<=20)(hN:N<=390)(hqn:q.n<=1000000)(hB:B<=w.heap.size) :
  Calls Tryz.prog 119 #[.pointer (some ⟨q.b,q.pre.length,none⟩),.int .i64 t,.string name,.int .i64 m] w (yJo w B (N+1) q s name ⟨t,m⟩):=by
 have hok:okQ name:=by unfold okQ maxLen;omega
 have hd13:(m != 1 && m != 2)=false:=by rcases hm12 with rfl | rfl <;> rfl
 have c0:=h.cell
 have z0:=h.blk.lt
 have hlook:=h.look hok
 have hfew:=h.few name hok
 have hKO:=h.ok name hok
 obtain ⟨ha,hcap,hhv⟩:=zAg (h.rows name true hok id)
 obtain ⟨wa,wcap,hwv⟩:=zAg (h.rows name false hok id)
 have e1:(s name).list true=(s name).held:=rfl
 have e2:(s name).list false=(s name).waits:=rfl
 rw [e1] at hhv
 rw [e2] at hwv
 obtain ⟨w1,hw1⟩:∃ x,x=(w.alloc (.cells #[q.hd name true,q.hd name false] 212)).alloc (.cells #[.int .i64 t,.int .i64 m] 214):=⟨_,rfl⟩
 have hm1:Mod zAb w w1:=by rw [hw1];exact ((Mod.refl _ w).alloc _).alloc _
 have hb1:Blk w1 w.heap.size [q.hd name true,q.hd name false] 212:=by rw [hw1];exact (Blk.new w [q.hd name true,q.hd name false] 212).mod ((Mod.refl zAb _).alloc _) id
 have hc1:Blk w1 (w.heap.size+1) (zAh ⟨t,m⟩) 214:=by
  rw [hw1]
  have:=Blk.new (w.alloc (.cells #[q.hd name true,q.hd name false] 212)) (zAh ⟨t,m⟩) 214
  rw [World.size_alloc] at this
  exact this
 have h1:=h.mod hm1 id (fun _ _=>id)
 have hz1:w1.heap.size=w.heap.size+1+1:=by rw [hw1];simp
 have HT:=Hmq h
 have HT1:=Hmq h1
 have HM1:=Hmq hm1
 have HB1:=Hmq hb1
 have HC1:=Hmq hc1
 have HKO:=Hmq hKO
 -- what is asked of the lists
 have HMW:=Hmq (zJu w1.heap.size (q.hd name false) (s name).waits t w1 ((h1.rows name false hok id).toV (Nat.le_refl _)) hKO.waits (by omega))
 have HMH:Hid (∀ w2,Mod zAb w1 w2->Calls Tryz.prog 175 #[q.hd name true,.int .i64 t] w2 fun e w'=>e=.returned (.int .i64 (zCw (s name).held t))/\Mod zAb w2 w'):=fun w2 hm2=>
  zJu w2.heap.size _ _ t w2 (((h1.rows name true hok id).mod hm2 (fun _ _=>id)).toV (Nat.le_refl _)) hKO.held (by have:=hfew;omega)
 have HFR:Hid (∀ w2,Mod zAb w1 w2->Calls Tryz.prog 176 #[.pointer (some ⟨w.heap.size,0,none⟩),.agg #[.int .i64 t,.int .i64 m]] w2 fun e w'=>e=.returned (.bool (zIq (s name).held (s name).waits ⟨t,m⟩))/\Mod zAb w2 w'):=fun w2 hm2=>
  yFx w2.heap.size w.heap.size (q.hd name true) (q.hd name false) (s name).held (s name).waits ⟨t,m⟩ w2 (hb1.mod hm2 id) (((h1.rows name true hok id).mod hm2 (fun _ _=>id)).toV (Nat.le_refl _)) (((h1.rows name false hok id).mod hm2 (fun _ _=>id)).toV (Nat.le_refl _)) (by omega) (by omega)
 have HWI:Hid (∀ (i:Bool) (w2:World),Mod zAb w1 w2->Calls Tryz.prog 177 #[q.hd name i,.agg #[.int .i64 t,.int .i64 m]] w2 (yRz w2 B (q.hd name i) ((s name).list i) ⟨t,m⟩)):=fun i w2 hm2=>
  yEz B _ _ ⟨t,m⟩ w2 ((h1.rows name i hok id).mod hm2 (fun _ _=>id)) (by cases i;exact hKO.waits;exact hKO.held) (by cases i <;> simp only [KeyS.list] <;> (try simp) <;> omega) (Nat.le_trans hB (Nat.le_trans hm1.size hm2.size))
 have HLK:=Hmq (yLq (c:=⟨t,m⟩) hKO hm12)
 have HLL:=Hmq (yLr (s name) ⟨t,m⟩)
 have HLN:Hid (zCx (s name) ⟨t,m⟩=if zCw (s name).waits t≠0 then (s name,false,[],9) else if m<=zCw (s name).held t then (s name,true,[],0) else if zIq (s name).held (s name).waits ⟨t,m⟩ then ({ s name with held:=zDg (s name).held ⟨t,m⟩ },true,[],0) else if 50<=(s name).waits.length then (s name,false,[],4) else ({ s name with waits:=zDg (s name).waits ⟨t,m⟩ },false,zJl (s name).held ⟨t,m⟩,0)):=rfl
 have p0:=hb1.cell 0 rfl
 have p1:=hb1.cell 1 rfl
 have x0:=hc1.cell 0 rfl
 have x1:=hc1.cell 1 rfl
 have HHV:=Hmq hhv
 have HWV:=Hmq hwv
 rw [hhv] at p0
 rw [hwv] at p1
 rw [hhv,hwv] at hw1 hlook
 rw [hwv] at HMW
 have hmi:=zMd
 have hlI:¬ ((name.size:Int) > 20):=by omega
 have hzk:w.heap.size<w1.heap.size:=by omega
 have hzc:w.heap.size+1<w1.heap.size:=by omega
 clear h h1 hm1 hb1 hc1 hhv hwv e1 e2 hKO
 go_enter Tryz.func119,Tryz.ntmps119
 go_upto_region 1 with fail
 go_cut [18] (fun b wc=>b=.bool false/\wc=w)
 case first=>
  rcases hm12 with rfl | rfl
  ·go_wp2_with fail
   go_meet
   case rel=>exact ⟨rfl,rfl⟩
  ·go_wp2_with fail
   go_meet
   case rel=>exact ⟨rfl,rfl⟩
 obtain ⟨rfl,hwc0⟩:=hcut
 rw [hwc0]
 clear hwc0
 go_upto_region 6 with fail
 rw [<-hw1]
 clear hw1 hlook c0
 go_wp2_with fail
 refine HMW.out.mono ?_
 rintro e w2 ⟨rfl,hm2⟩
 have HM2:=Hmq hm2
 clear HMW
 by_cases g1:zCw (s name).waits t=0
 ·have HLN1:Hid (zCx (s name) ⟨t,m⟩=if m<=zCw (s name).held t then (s name,true,[],0) else if zIq (s name).held (s name).waits ⟨t,m⟩ then ({ s name with held:=zDg (s name).held ⟨t,m⟩ },true,[],0) else if 50<=(s name).waits.length then (s name,false,[],4) else ({ s name with waits:=zDg (s name).waits ⟨t,m⟩ },false,zJl (s name).held ⟨t,m⟩,0)):=by rw [HLN.out,if_neg (by simp [g1])];rfl
  have HMH2:=HMH.out w2 hm2
  rw [HHV.out] at HMH2
  have HMH3:=Hmq HMH2
  have y0:=hm2.cell p0 id
  have y1:=hm2.cell p1 id
  have u0:=hm2.cell x0 id
  have u1:=hm2.cell x1 id
  have hzk2:=Nat.lt_of_lt_of_le hzk hm2.size
  have hzc2:=Nat.lt_of_lt_of_le hzc hm2.size
  clear HMH HLN HMH2 p0 p1 x0 x1 hm2
  rw [g1]
  go_wp2_with fail
  refine HMH3.out.mono ?_
  rintro e w3 ⟨rfl,hm3⟩
  have HM3:=Hmq (HM2.out.trans hm3)
  by_cases g2:m<=zCw (s name).held t
  ·have hge:decide (zCw (s name).held t ≥ m)=true:=decide_eq_true g2
   have HFIN:Hid (yJo w B (N+1) q s name ⟨t,m⟩ (.returned (.tuple #[.bool true,.slice none 0 0,.nilIface])) w3):=by
    have hl:zCx (s name) ⟨t,m⟩=(s name,true,[],0):=by rw [HLN1.out,if_pos g2]
    refine ⟨q,.slice none 0 0,by rw [hl];rfl,zSg HT.out (HM1.out.trans HM3.out) (by rw [hl]) (by rw [hl])⟩
   clear HLN1
   go_wp2_with fail
   go_ret3
   exact HFIN.out
  ·have hge:decide (zCw (s name).held t ≥ m)=false:=decide_eq_false (by omega)
   have HLN2:Hid (zCx (s name) ⟨t,m⟩=if zIq (s name).held (s name).waits ⟨t,m⟩ then ({ s name with held:=zDg (s name).held ⟨t,m⟩ },true,[],0) else if 50<=(s name).waits.length then (s name,false,[],4) else ({ s name with waits:=zDg (s name).waits ⟨t,m⟩ },false,zJl (s name).held ⟨t,m⟩,0)):=by rw [HLN1.out,if_neg g2];rfl
   have HFR3:=Hmq (HFR.out w3 HM3.out)
   have z0':=hm3.cell y0 id
   have z1':=hm3.cell y1 id
   have v0:=hm3.cell u0 id
   have v1:=hm3.cell u1 id
   have hzk3:=Nat.lt_of_lt_of_le hzk2 hm3.size
   have hzc3:=Nat.lt_of_lt_of_le hzc2 hm3.size
   clear HFR HLN1 y0 y1 u0 u1 hm3 g2
   go_wp2_with fail
   refine HFR3.out.mono ?_
   rintro e w4 ⟨rfl,hm4⟩
   have HM4:=Hmq (HM3.out.trans hm4)
   have HB4:=Hmq (HB1.out.mod HM4.out id)
   have HC4:=Hmq (HC1.out.mod HM4.out id)
   have r0:=hm4.cell z0' id
   have r1:=hm4.cell z1' id
   have s0:=hm4.cell v0 id
   have s1:=hm4.cell v1 id
   have hzk4:=Nat.lt_of_lt_of_le hzk3 hm4.size
   have hzc4:=Nat.lt_of_lt_of_le hzc3 hm4.size
   have HT4:Hid (TbP w4 B N q s):=HT1.out.mod HM4.out id (fun _ _=>id)
   clear z0' z1' v0 v1 hm4 HFR3
   cases hfr:zIq (s name).held (s name).waits ⟨t,m⟩ with
   | true=>
    have HLN3:Hid (zCx (s name) ⟨t,m⟩=({ s name with held:=zDg (s name).held ⟨t,m⟩ },true,[],0)):=by rw [HLN2.out,hfr];rfl
    clear HLN2
    have hwi:=HWI.out true w4 HM4.out
    rw [HHV.out] at hwi
    have HWI4:=Hmq hwi
    clear hwi HWI
    go_upto_region 11 with fail
    go_wp2_with fail
    refine HWI4.out.mono ?_
    rintro e w5 ⟨u,rfl,hru,hm5,hat5⟩
    have hkne:¬ (Value.slice ha (s name).held.length hcap).ownBlock=some w.heap.size:=fun e=>by
     have hr:=HT.out.rows name true hok id
     rw [HHV.out] at hr
     have:=(zAq hr e).2.1;omega
    have hb5:=HB4.out.mod hm5 hkne
    have hb6:=hb5.set 0 u
    obtain ⟨w6,hw6⟩:∃ x,x=w5.setCell ⟨w.heap.size,0,none⟩ u:=⟨_,rfl⟩
    rw [<-hw6] at hb6
    have hm56:Mod (zAd w.heap.size) w5 w6:=by rw [hw6];exact Mod.setBlk _ _ _
    have hm6:Mod (fun x=>(q.hd name true).ownBlock=some x\/w.heap.size<=x) w w6:=by
     refine ((HM1.out.trans HM4.out).mono (fun _ _ e=>e.elim)).trans ((hm5.mono (fun x _ e=>.inl (by rw [HHV.out];exact e))).trans (hm56.mono (fun x _ e=>.inr (by simp only [zAd] at e;omega))))
    have hz4:=HM4.out.size
    have hat:u.ownBlock=(q.hd name true).ownBlock\/∀ x,u.ownBlock=some x->w.heap.size<=x:=by
     rw [HHV.out]
     exact hat5.imp id (fun h x hx=>by have:=h x hx;omega)
    have hru6:RowK w6 B u (zDg (s name).held ⟨t,m⟩):=hru.mod hm56 (fun x hx e=>by
     simp only [zAd] at e
     rw [e] at hx
     rcases hat5 with h9 | h9
     ·rw [h9] at hx;exact hkne hx
     ·have:=h9 _ hx;omega)
    obtain ⟨hKP,hTX⟩:=yFt true { s name with held:=zDg (s name).held ⟨t,m⟩ } HT.out hok hru6 rfl rfl hm6 hat
    obtain ⟨v,hv⟩:∃ v:Bool->Value,v=fun i=>if i=true then u else q.hd name i:=⟨_,rfl⟩
    rw [<-hv] at hKP
    have hvt:v true=u:=by rw [hv];rfl
    have hvf:v false=q.hd name false:=by rw [hv];rfl
    have hlk:=HLK.out
    have hll:=HLL.out
    rw [HLN3.out] at hlk hll
    have hke:=zYe B N (N+1) q s name v _ w6 hTX hok hKP hlk (by simp only at hll ⊢;omega) (by omega) hqn (Nat.le_trans hB hm6.size)
    rw [hvt,hvf,HWV.out] at hke
    have HKE:=Hmq hke
    have HVO:Hid (∀ i x,(v i).ownBlock=some x->q.own x\/w.heap.size<=x):=fun i x hx=>by
     cases i with
     | false=>rw [hvf] at hx;exact .inl (.inr ⟨name,false,hok,hx⟩)
     | true=>
      rw [hvt] at hx
      rcases hat with h9 | h9
      ·exact .inl (.inr ⟨name,true,hok,by rw [<-h9];exact hx⟩)
      ·exact .inr (h9 x hx)
    have HM6:=Hmq hm6
    have f5:=hb5.frozen 0
    have d5:=hb5.cell 0 rfl
    have hzk5:=hb5.lt
    have b60:=hb6.cell 0 rfl
    have b61:=hb6.cell 1 rfl
    have hzk6:=hb6.lt
    rw [HWV.out] at b61
    obtain ⟨ua,ucap,hu⟩:=zAg hru
    subst hu
    clear hru hm5 hat5 hb5 hb6 hm56 hm6 hat hru6 hKP hTX hv hvt hvf hke hlk hll HWI4 r0 r1
    go_upto_region 12 with fail
    rw [<-hw6]
    clear hw6 f5 d5 hzk5
    go_wp2_with fail
    refine HKE.out.mono ?_
    rintro e w7 ⟨rfl,q',hQ⟩
    have HFIN:Hid (yJo w B (N+1) q s name ⟨t,m⟩ (.returned (.tuple #[.bool true,.slice none 0 0,.nilIface])) w7):=by
     refine ⟨q',.slice none 0 0,by rw [HLN3.out];rfl,yFq true HT.out hok HM6.out HVO.out hQ (Mod.refl _ _) (by rw [HLN3.out]) (by rw [HLN3.out];exact World.ownsRow_nil _ _ _ _)⟩
    clear hQ HKE
    go_wp2_with fail
    go_ret3
    exact HFIN.out
   | false=>
    have HLN3:Hid (zCx (s name) ⟨t,m⟩=if 50<=(s name).waits.length then (s name,false,[],4) else ({ s name with waits:=zDg (s name).waits ⟨t,m⟩ },false,zJl (s name).held ⟨t,m⟩,0)):=by rw [HLN2.out,hfr];rfl
    clear HLN2
    by_cases g4:50<=(s name).waits.length
    ·have hgi:decide (((s name).waits.length:Int) ≥ 50)=true:=decide_eq_true (by omega)
     have HFIN:Hid (yJo w B (N+1) q s name ⟨t,m⟩ (.returned (.tuple #[.bool false,.slice none 0 0,.iface 25 (.int .i64 4)])) w4):=by
      have hl:zCx (s name) ⟨t,m⟩=(s name,false,[],4):=by rw [HLN3.out,if_pos g4]
      refine ⟨q,.slice none 0 0,by rw [hl];rfl,zSg HT.out (HM1.out.trans HM4.out) (by rw [hl]) (by rw [hl])⟩
     clear HLN3
     go_wp2_with fail
     go_ret3
     exact HFIN.out
    ·have hgi:decide (((s name).waits.length:Int) ≥ 50)=false:=decide_eq_false (by omega)
     have HLN4:Hid (zCx (s name) ⟨t,m⟩=({ s name with waits:=zDg (s name).waits ⟨t,m⟩ },false,zJl (s name).held ⟨t,m⟩,0)):=by rw [HLN3.out,if_neg g4];rfl
     clear HLN3
     have hwi:=HWI.out false w4 HM4.out
     rw [HWV.out] at hwi
     have HWI4:=Hmq hwi
     clear hwi HWI
     go_upto_region 16 with fail
     go_wp2_with fail
     refine HWI4.out.mono ?_
     rintro e w5 ⟨u,rfl,hru,hm5,hat5⟩
     have hkne:¬ (Value.slice wa (s name).waits.length wcap).ownBlock=some w.heap.size:=fun e=>by
      have hr:=HT.out.rows name false hok id
      rw [HWV.out] at hr
      have:=(zAq hr e).2.1;omega
     have hkne1:¬ (Value.slice wa (s name).waits.length wcap).ownBlock=some (w.heap.size+1):=fun e=>by
      have hr:=HT.out.rows name false hok id
      rw [HWV.out] at hr
      have:=(zAq hr e).2.1;omega
     have hb5:=HB4.out.mod hm5 hkne
     have hc5:=HC4.out.mod hm5 hkne1
     have hb6:=hb5.set 1 u
     obtain ⟨w6,hw6⟩:∃ x,x=w5.setCell ⟨w.heap.size,1,none⟩ u:=⟨_,rfl⟩
     rw [<-hw6] at hb6
     have hm56:Mod (zAd w.heap.size) w5 w6:=by rw [hw6];exact Mod.setBlk _ _ _
     have hc6:=hc5.mod hm56 (fun e=>by simp only [zAd] at e;omega)
     have hm6:Mod (fun x=>(q.hd name false).ownBlock=some x\/w.heap.size<=x) w w6:=by
      refine ((HM1.out.trans HM4.out).mono (fun _ _ e=>e.elim)).trans ((hm5.mono (fun x _ e=>.inl (by rw [HWV.out];exact e))).trans (hm56.mono (fun x _ e=>.inr (by simp only [zAd] at e;omega))))
     have hz4:=HM4.out.size
     have hat:u.ownBlock=(q.hd name false).ownBlock\/∀ x,u.ownBlock=some x->w.heap.size<=x:=by
      rw [HWV.out]
      exact hat5.imp id (fun h x hx=>by have:=h x hx;omega)
     have hru6:RowK w6 B u (zDg (s name).waits ⟨t,m⟩):=hru.mod hm56 (fun x hx e=>by
      simp only [zAd] at e
      rw [e] at hx
      rcases hat5 with h9 | h9
      ·rw [h9] at hx;exact hkne hx
      ·have:=h9 _ hx;omega)
     obtain ⟨hKP,hTX⟩:=yFt false { s name with waits:=zDg (s name).waits ⟨t,m⟩ } HT.out hok hru6 rfl rfl hm6 hat
     obtain ⟨v,hv⟩:∃ v:Bool->Value,v=fun i=>if i=false then u else q.hd name i:=⟨_,rfl⟩
     rw [<-hv] at hKP
     have hvt:v true=q.hd name true:=by rw [hv];rfl
     have hvf:v false=u:=by rw [hv];rfl
     have hlk:=HLK.out
     have hll:=HLL.out
     rw [HLN4.out] at hlk hll
     have hke:=zYe B N (N+1) q s name v _ w6 hTX hok hKP hlk (by simp only at hll ⊢;omega) (by omega) hqn (Nat.le_trans hB hm6.size)
     rw [hvt,hvf,HHV.out] at hke
     have HKE:=Hmq hke
     have HVO:Hid (∀ i x,(v i).ownBlock=some x->q.own x\/w.heap.size<=x):=fun i x hx=>by
      cases i with
      | true=>rw [hvt] at hx;exact .inl (.inr ⟨name,true,hok,hx⟩)
      | false=>
       rw [hvf] at hx
       rcases hat with h9 | h9
       ·exact .inl (.inr ⟨name,false,hok,by rw [<-h9];exact hx⟩)
       ·exact .inr (h9 x hx)
     have HRT:Hid (RowK w6 B (q.hd name true) (s name).held):=by have:=hKP.row true;rw [hvt] at this;exact this
     have HM6:=Hmq hm6
     have HB6:=Hmq hb6
     have HC6:=Hmq hc6
     have f5:=hb5.frozen 1
     have d5:=hb5.cell 1 rfl
     have hzk5:=hb5.lt
     have b60:=hb6.cell 0 rfl
     have b61:=hb6.cell 1 rfl
     have hzk6:=hb6.lt
     rw [HHV.out] at b60
     obtain ⟨ua,ucap,hu⟩:=zAg hru
     subst hu
     clear hru hm5 hat5 hb5 hb6 hm56 hm6 hat hru6 hKP hTX hv hvt hvf hke hlk hll HWI4 r0 r1 hc5 hc6
     go_upto_region 17 with fail
     rw [<-hw6]
     clear hw6 f5 d5 hzk5
     go_wp2_with fail
     refine HKE.out.mono ?_
     rintro e w7 ⟨rfl,q',hQ⟩
     have hnb:∀ y,w.heap.size<=y->¬ (y=q.b\/q.m=some y):=fun y hy e=>by
      rcases e with e | e
      ·omega
      ·have:=(HT.out.lt (.inl e)).2;omega
     have hb7:=HB6.out.mod hQ.md (hnb _ (Nat.le_refl _))
     have hc7:=HC6.out.mod hQ.md (hnb _ (by omega))
     have hr7:=HRT.out.mod hQ.md (fun x hx e=>by
      have hne:=HT.out.row_ne hok id hx
      exact e.elim hne.1 hne.2)
     have HWO:=Hmq (yCv B w.heap.size _ _ (s name).held ⟨t,m⟩ w7 hb7 hr7 (by omega))
     have s70:=hc7.cell 0 rfl
     have s71:=hc7.cell 1 rfl
     have hzc7:=hc7.lt
     have HQ:=Hmq hQ
     have hz67:=hQ.md.size
     have hz06:=HM6.out.size
     clear hQ HKE hb7 hc7 hr7 b60 b61 s0 s1
     go_upto_region 18 with fail
     go_wp2_with fail
     refine HWO.out.mono ?_
     rintro e w8 ⟨u8,rfl,hr8,hm8⟩
     have HR8:=Hmq (zEk hr8 (Nat.le_trans hz06 hz67))
     obtain ⟨u8a,u8cap,hu8⟩:=zAg hr8
     subst hu8
     have HFIN:Hid (yJo w B (N+1) q s name ⟨t,m⟩ (.returned (.tuple #[.bool false,.slice u8a (zJl (s name).held ⟨t,m⟩).length u8cap,.nilIface])) w8):=by
      refine ⟨q',.slice u8a (zJl (s name).held ⟨t,m⟩).length u8cap,by rw [HLN4.out];rfl,yFq false HT.out hok HM6.out HVO.out HQ.out hm8 (by rw [HLN4.out]) (by rw [HLN4.out];exact HR8.out)⟩
     clear hr8 HR8
     go_wp2_with fail
     go_ret3
     exact HFIN.out
 ·have g1b:(zCw (s name).waits t == 0)=false:=by simpa using g1
  have HFIN:Hid (yJo w B (N+1) q s name ⟨t,m⟩ (.returned (.tuple #[.bool false,.slice none 0 0,.iface 25 (.int .i64 9)])) w2):=by
   have hl:zCx (s name) ⟨t,m⟩=(s name,false,[],9):=by rw [HLN.out,if_pos g1]
   refine ⟨q,.slice none 0 0,by rw [hl];rfl,zSg HT.out (HM1.out.trans HM2.out) (by rw [hl]) (by rw [hl])⟩
  clear HLN HMH
  go_wp2_with fail
  go_ret3
  exact HFIN.out
end Go.Proofs.YtogaigioeohjaaaGreatDoor
namespace Go.Proofs.YtogaigioeohjaaaGreatDoor
open Go.Shelf
def Tryz.sortStr_ren:Go.Shelf.Ren:=⟨fun | 190=>94 | 125=>155 | 258=>154 | 128=>217 | 129=>163 | 302=>208 | 303=>209 | 304=>210 | 305=>211 | 306=>212 | 307=>213 | 308=>214 | 309=>215 | 310=>216 | 333=>248 | 329=>249 | 330=>250 | 334=>251 | 335=>252 | 336=>253 | 344=>265 | n=>n,fun | 31=>50 | 9=>9 | 3=>3 | 46=>187 | 0=>0 | 51=>192 | 53=>136 | 4=>4 | 183=>248 | 182=>247 | 131=>226 | 5=>5 | 218=>292 | 222=>296 | 228=>311 | 229=>312 | n=>n,fun | n=>n⟩
theorem Tryz.sortStr:Go.Proofs.Lays.n190 Tryz.prog Tryz.sortStr_ren:={
 mixed:=by kernel_rfl
 f125:=Tryz.func155.trans (congrArg some (by kernel_rfl))
 f128:=Tryz.func217.trans (congrArg some (by kernel_rfl))
 f129:=Tryz.func163.trans (congrArg some (by kernel_rfl))
 f190:=Tryz.func94.trans (congrArg some (by kernel_rfl))
 f258:=Tryz.func154.trans (congrArg some (by kernel_rfl))
 f302:=Tryz.func208.trans (congrArg some (by kernel_rfl))
 f303:=Tryz.func209.trans (congrArg some (by kernel_rfl))
 f304:=Tryz.func210.trans (congrArg some (by kernel_rfl))
 f305:=Tryz.func211.trans (congrArg some (by kernel_rfl))
 f306:=Tryz.func212.trans (congrArg some (by kernel_rfl))
 f307:=Tryz.func213.trans (congrArg some (by kernel_rfl))
 f308:=Tryz.func214.trans (congrArg some (by kernel_rfl))
 f309:=Tryz.func215.trans (congrArg some (by kernel_rfl))
 f310:=Tryz.func216.trans (congrArg some (by kernel_rfl))
 f329:=Tryz.func249.trans (congrArg some (by kernel_rfl))
 f330:=Tryz.func250.trans (congrArg some (by kernel_rfl))
 f333:=Tryz.func248.trans (congrArg some (by kernel_rfl))
 f334:=Tryz.func251.trans (congrArg some (by kernel_rfl))
 f335:=Tryz.func252.trans (congrArg some (by kernel_rfl))
 f336:=Tryz.func253.trans (congrArg some (by kernel_rfl))
 f344:=Tryz.func265.trans (congrArg some (by kernel_rfl))
 t0:=Tryz.underlying0
 a0:=Tryz.isAgg0
 z0:=Tryz.sizeOf0
 v0:=Tryz.zeroValue0
 t3:=Tryz.underlying3
 a3:=Tryz.isAgg3
 z3:=Tryz.sizeOf3
 v3:=Tryz.zeroValue3
 t4:=Tryz.underlying4
 a4:=Tryz.isAgg4
 z4:=Tryz.sizeOf4
 v4:=Tryz.zeroValue4
 t5:=Tryz.underlying5
 a5:=Tryz.isAgg5
 z5:=Tryz.sizeOf5
 v5:=Tryz.zeroValue5
 t9:=Tryz.underlying9
 a9:=Tryz.isAgg9
 z9:=Tryz.sizeOf9
 v9:=Tryz.zeroValue9
 t31:=Tryz.underlying50
 a31:=Tryz.isAgg50
 z31:=Tryz.sizeOf50
 v31:=Tryz.zeroValue50
 t46:=Tryz.underlying187
 a46:=Tryz.isAgg187
 z46:=Tryz.sizeOf187
 v46:=Tryz.zeroValue187
 t51:=Tryz.underlying192
 a51:=Tryz.isAgg192
 z51:=Tryz.sizeOf192
 v51:=Tryz.zeroValue192
 t53:=Tryz.underlying136
 a53:=Tryz.isAgg136
 z53:=Tryz.sizeOf136
 v53:=Tryz.zeroValue136
 t131:=Tryz.underlying226
 a131:=Tryz.isAgg226
 z131:=Tryz.sizeOf226
 v131:=Tryz.zeroValue226
 t182:=Tryz.underlying247
 a182:=Tryz.isAgg247
 z182:=Tryz.sizeOf247
 v182:=Tryz.zeroValue247
 t183:=Tryz.underlying248
 a183:=Tryz.isAgg248
 z183:=Tryz.sizeOf248
 v183:=Tryz.zeroValue248
 t218:=Tryz.underlying292
 a218:=Tryz.isAgg292
 z218:=Tryz.sizeOf292
 v218:=Tryz.zeroValue292
 t222:=Tryz.underlying296
 a222:=Tryz.isAgg296
 z222:=Tryz.sizeOf296
 v222:=Tryz.zeroValue296
 t228:=Tryz.underlying311
 a228:=Tryz.isAgg311
 z228:=Tryz.sizeOf311
 v228:=Tryz.zeroValue311
 t229:=Tryz.underlying312
 a229:=Tryz.isAgg312
 z229:=Tryz.sizeOf312
 v229:=Tryz.zeroValue312 }
end Go.Proofs.YtogaigioeohjaaaGreatDoor
namespace Go.Proofs.YtogaigioeohjaaaGreatDoor
open Go.RowKit Go.Lib Go.Maps Go.Sort Go.Shelf
theorem Mod.growsQ{w w':World}(h:Mod zAb w w'):w.grownBy w' none:=⟨h.os,h.tape,h.output,h.size,fun k hk _=>h.block k hk id⟩
def ltQ(a b:ByteArray):Prop:=a.data.toList<b.data.toList
theorem zVi(a:ByteArray):¬ ltQ a a:=List.lt_irrefl _
theorem yHs(ss:List (List UInt8))(hn:ss.Nodup):(ss.mergeSort fun x y=>decide (x<=y)).Pairwise (·<·):=by
 have hp:(ss.mergeSort fun x y=>decide (x<=y)).Perm ss:=List.mergeSort_perm _ _
 have hs:(ss.mergeSort fun x y=>decide (x<=y)).Pairwise fun x y=>decide (x<=y)=true:=
  List.pairwise_mergeSort (fun a b c h1 h2=>by simp only [decide_eq_true_iff] at *;exact List.le_trans h1 h2) (fun a b=>by simp only [Bool.or_eq_true,decide_eq_true_iff];exact List.le_total a b) ss
 have hnd:(ss.mergeSort fun x y=>decide (x<=y)).Nodup:=hp.nodup_iff.2 hn
 refine List.Pairwise.imp₂ ?_ hs hnd
 intro a b h1 h2
 simp only [decide_eq_true_iff] at h1
 exact Classical.byContradiction fun n=>h2 (List.le_antisymm h1 (List.not_lt.1 n))
def RowS(w:World)(B:Nat)(v:Value)(ks:List ByteArray):Prop:=w.ownsRow B 9 1 v ks.length (ks.map Value.string)
theorem RowS.mod{G:Nat->Prop}{w w':World}{B:Nat}{v:Value}{os:List ByteArray}(h:RowS w B v os)(hm:Mod G w w')(hG:∀ k,v.ownBlock=some k->¬ G k):RowS w' B v os:=zAn h hm (fun k _ _ e=>hG k e)
theorem holdsQ{w:World}{B g cap:Nat}{ks:List ByteArray}(h:w.ownsRow B 9 1 (.slice (some ⟨g,0,none⟩) ks.length cap) ks.length (ks.map Value.string)):Holds encStr w g 0 (ks.map fun k=>k.data.toList).toArray:=by
 intro j hj
 simp only [List.size_toArray,List.length_map] at hj
 have h1:=h.cells (g:=g) rfl j (.string ks[j]) (by rw [List.getElem?_map,List.getElem?_eq_getElem hj];rfl)
 rw [Go.WideShapes.add_plain] at h1
 obtain ⟨_,_,cur,hc⟩:=zAq h (k:=g) rfl
 refine ⟨?_,by simp [World.frozen?,hc]⟩
 rw [h1,getElem!_pos _ j (by simpa using hj)]
 simp
theorem zOn{w:World}{g n:Nat}{os:Array Obj}(d:Array (List UInt8)):w.grownBy (grow (putRow encStr (Sort.ahead w n) g 0 d) os) (some g):=by
 refine ⟨rfl,rfl,rfl,by simp,fun k hk hne=>?_⟩
 rw [heap_grow_old _ _ (by simpa using hk)]
 have:g≠k:=fun e=>hne (by rw [e])
 simp [putRow,mapBlock,Sort.ahead,Array.getElem?_modify,this]
def keyRQ(k:ByteArray)(cs:List Value):Prop:=cs=[.string k]
def yEv(w:World)(L:Nat)(v:Value)(ks:List ByteArray):Prop:=SlR w L 1 keyRQ v ks
theorem yEv.mod{G:Nat->Prop}{w w':World}{L:Nat}{v:Value}{ks:List ByteArray}(h:yEv w L v ks)(hm:Mod G w w')(hG:∀ b,v.ownBlock=some b->¬ G b):yEv w' L v ks:=by
 obtain ⟨a,cap,rfl,h1,h2,h3⟩:=h
 refine ⟨a,cap,rfl,h1,h2,?_⟩
 rcases h3 with h3 | ⟨b,off,rfl,h4,h5⟩
 ·exact .inl h3
 ·refine .inr ⟨b,off,rfl,h4,fun i d hi=>?_⟩
  obtain ⟨cs,k1,k2,k3⟩:=h5 i d hi
  exact ⟨cs,k1,k2,fun j x hx=>hm.cell (k3 j x hx) (hG b rfl)⟩
theorem yEv.at{w:World}{L:Nat}{a:Option Addr}{n cap:Nat}{ks:List ByteArray}(h:yEv w L (.slice a n cap) ks){i:Nat}{k:ByteArray}(hi:ks[i]?=some k):∃ b off,a=some ⟨b,off,none⟩/\b<L/\w.cell? ⟨b,off+i,none⟩=some (.string k):=by
 obtain ⟨b,off,cs,h1,h2,rfl,_,h5⟩:=SlR.at h hi
 exact ⟨b,off,h1,h2,by have:=h5 0 _ rfl;simpa using this⟩
theorem zZj(B:Nat)(v:Value)(ks:List ByteArray)(w:World)(hrow:RowS w B v ks)(hn:ks.Nodup)(hl:ks.length<=1000000) :
  Calls Tryz.prog 94 #[v] w fun e w'=>e=.returned (.tuple #[])/\∃ ks',yEv w' w'.heap.size v ks'/\ks'.Perm ks/\ks'.Pairwise ltQ/\Mod (fun b=>v.ownBlock=some b) w w':=by
 by_cases h0:ks=[]
 ·subst h0
  have hv:∃ a cap,v=.slice a 0 cap/\cap<=maxLen:=by
   rcases hrow.2 with ⟨rfl,_⟩ | ⟨g,cap,cur,rfl,_,_,_,h2,_⟩
   ·exact ⟨none,0,rfl,Nat.zero_le _⟩
   ·exact ⟨_,cap,rfl,h2⟩
  obtain ⟨a,cap,rfl,hc⟩:=hv
  refine Calls.mono (Any.slices_Sort_string_none Tryz.sortStr a cap w) ?_
  rintro e w' ⟨rfl,rfl⟩
  exact ⟨rfl,[],⟨a,cap,rfl,Nat.zero_le _,hc,.inl rfl⟩,List.Perm.refl _,List.Pairwise.nil,Mod.refl _ _⟩
 ·have hv:∃ g cap,v=.slice (some ⟨g,0,none⟩) ks.length cap/\ks.length<=cap/\cap<=maxLen:=by
   rcases hrow.2 with ⟨rfl,h1⟩ | ⟨g,cap,cur,rfl,_,_,h1,h2,_⟩
   ·exact absurd (List.eq_nil_of_length_eq_zero h1) h0
   ·exact ⟨g,cap,rfl,h1,h2⟩
  obtain ⟨g,cap,rfl,hc1,hc2⟩:=hv
  have hg:g<w.heap.size:=(zAq hrow (k:=g) rfl).2.1
  have hH:=holdsQ hrow
  have hcon:=Any.slices_Sort_string Tryz.sortStr g 0 cap (ks.map fun k=>k.data.toList) w hH hg (by simp;omega)
  rw [List.length_map] at hcon
  refine Calls.mono hcon ?_
  rintro e w' ⟨rfl,n,os,rfl⟩
  obtain ⟨ts,hts⟩:∃ ts,ts=(ks.map fun k=>k.data.toList).mergeSort fun x y=>decide (x<=y):=⟨_,rfl⟩
  have hp:ts.Perm (ks.map fun k=>k.data.toList):=by rw [hts];exact List.mergeSort_perm _ _
  have hnd:(ks.map fun k=>k.data.toList).Nodup:=by
   rw [List.nodup_iff_pairwise_ne,List.pairwise_map]
   exact List.Pairwise.imp (fun hne e=>hne (zMm e)) hn
  have hr:ts.Pairwise (·<·):=by rw [hts];exact yHs _ hnd
  rw [<-hts]
  have hlen:ts.length=ks.length:=by rw [hp.length_eq,List.length_map]
  refine ⟨rfl,ts.map fun l=>⟨l.toArray⟩,?_,?_,?_,(Mod.refl _ w).grown (zOn _) (fun x hx _=>by cases hx;rfl)⟩
  ·have h0:Holds encStr (Sort.ahead w n) g 0 (ks.map fun k=>k.data.toList).toArray:=hH
   have h1:Holds encStr (putRow encStr (Sort.ahead w n) g 0 ts.toArray) g 0 ts.toArray:=holds_putRow encStr (Sort.ahead w n) g 0 (ks.map fun k=>k.data.toList).toArray ts.toArray h0 (by simp [hlen])
   have hgs:g<(putRow encStr (Sort.ahead w n) g 0 ts.toArray).heap.size:=by simp;exact hg
   refine ⟨_,cap,by rw [List.length_map,hlen],by rw [List.length_map,hlen];exact hc1,hc2,.inr ⟨g,0,rfl,?_,fun i k hi=>⟨[.string k],rfl,rfl,fun j x hx=>?_⟩⟩⟩
   ·have:=(zOn (w:=w) (g:=g) (n:=n) (os:=os) ts.toArray).size
    omega
   ·have hj:j=0:=by have:=(List.getElem?_eq_some_iff.1 hx).1;simp at this;exact this
    subst hj
    simp at hx
    subst hx
    rw [List.getElem?_map] at hi
    cases hti:ts[i]? with
    | none=>rw [hti] at hi;cases hi
    | some l=>
     rw [hti] at hi
     simp at hi
     have hil:=(List.getElem?_eq_some_iff.1 hti).1
     have h2:=(h1 i (by simpa using hil)).1
     rw [getElem!_pos _ i (by simpa using hil)] at h2
     simp only [List.getElem_toArray] at h2
     rw [(List.getElem?_eq_some_iff.1 hti).2] at h2
     rw [cell?_grow _ _ _ hgs,show 0+i*1+0=0+i by omega,h2,<-hi]
  ·have h2:=hp.map fun l:List UInt8=>(⟨l.toArray⟩:ByteArray)
   rw [List.map_map] at h2
   have h3:ks.map ((fun l:List UInt8=>(⟨l.toArray⟩:ByteArray)) ∘ fun k=>k.data.toList)=ks:=by
    conv=>rhs;rw [<-List.map_id ks]
    refine List.map_congr_left (fun k _=>?_)
    simp
   rw [h3] at h2
   exact h2
  ·rw [List.pairwise_map]
   exact hr
theorem yFs{key:Value}{kl:Lit}(h:keyOf Tryz.prog 9 key=some kl):∃ x:ByteArray,key=.string x/\kl=keyQ x/\okQ x:=by
 cases key <;> simp [keyOf,Tryz.underlying9,mapKey] at h
 rename_i x
 obtain ⟨h1,h2⟩:=h
 exact ⟨x,rfl,h2.symm,by unfold okQ;simpa using h1⟩
theorem zZo(a b:ByteArray):(keyQ a).sameKey (keyQ b)=decide (a=b):=by
 by_cases h:a=b
 ·subst h
  rw [WideAt.sameKey_self (zRa _)]
  simp
 ·rw [Maps.sameKey_ne (fun e=>h (zYd e))]
  simp [h]
theorem zYw(w:World){ops:Array Oper}{rest:List Oper}{o:Oper}{a:Act}{Q:Exit->Act->World->Prop}(hg:o.guard=none)(it:Operand)(hop:o.op=Op.next it false)(g r n:Nat)(D:DataW Unit)(left:Lit->Bool)(cnt:Nat)
  (hit:a.eval it=.pointer (some ⟨r,0,none⟩)) (h:w.ranges Tryz.prog 9 zKj g r n D left cnt)
  (hDone:(∀ kl,left kl=false)->wpList Tryz.prog ops Q rest (a.put o.dst (.tuple #[.bool false])) w)
  (hMore:∀ (x:ByteArray) (c d:Value) (w':World) (cnt':Nat),okQ x->left (keyQ x)=true->zGm c->zGm d->D.atKey (keyQ x) zWt=encK c d->w'.ranges Tryz.prog 9 zKj g r n D (fun z=>left z && !z.sameKey (keyQ x)) cnt'->cnt'<cnt ->
   w.grownBy w' (some r)->(Instr.entry (.pointer (some ⟨r,0,none⟩))).run Tryz.prog w'=.ok (.tuple #[.string x,.agg #[c,d]]) w'->wpList Tryz.prog ops Q rest (a.put o.dst (.tuple #[.bool true,.string x,.agg #[c,d]])) w') :
  wpList Tryz.prog ops Q (o :: rest) a w:=
 wpList_next_ranges w hg it hop 9 yIa zKj (fun x:ByteArray=>Value.string x) (fun v:Value=>v) (fun key kl hkey=>by obtain ⟨x,rfl,_⟩:=yFs hkey;exact ⟨x,rfl⟩) (fun v y _=>⟨v,rfl⟩) g r n D left cnt hit h (fun _ hl=>hDone hl)
  (fun x c kl y w' cnt' hkey hlk hv hat hrg hlt hgr hsz hen=>by
   obtain ⟨x',e,rfl,hok⟩:=yFs hkey
   cases e
   obtain ⟨a1,b1,rfl,h1,h2,h3⟩:=yBq hv
   exact hMore x a1 b1 w' cnt' hok hlk h1 h2 (by rw [hat zWt,h3]) hrg hlt hgr hen)
theorem yBf{w:World}{g r n cnt:Nat}{D:DataW Unit}{left:Lit->Bool}{x:ByteArray}(h:w.ranges Tryz.prog 9 zKj g r n D left cnt)(hl:left (keyQ x)=true):has D (keyQ x)=true:=by
 obtain ⟨es,clock,since,seen,c0,hb,F,hs,hDD,hr,hold,hcn,hl1,hl2,hsc,hsk⟩:=h
 obtain ⟨y,hy,e⟩:=hl2 _ hl
 rw [hDD]
 exact List.any_eq_true.2 ⟨_,mem_sorted.2 (List.mem_map.2 ⟨y,hy,rfl⟩),by rw [e];exact WideAt.sameKey_self (zRa _)⟩
end Go.Proofs.YtogaigioeohjaaaGreatDoor
