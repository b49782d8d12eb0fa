import Derived.Test.YtmaiggbnceejiaaGreatDoorP32
set_option linter.unusedVariables false
set_option maxRecDepth 100000
set_option maxHeartbeats 16000000
namespace Go.Proofs.YtmaiggbnceejiaaGreatDoor
open Go.RowKit Go.Lib Go.Maps
theorem yKj{B N:Nat}{q:TbM}{s:Tab}{w:World}:AskK 121 #[] (fun _=>true) B N q s w:=by
 refine ⟨zJx Tryz.func121 (by kernel_rfl) rfl,fun k wr hk hT hm=>?_⟩
 show Calls Tryz.prog 121 #[.agg #[q.hd k true,q.hd k false]] wr _
 obtain ⟨ha,hcap,hhv⟩:=zAf (hT.rows k true hk id)
 obtain ⟨wa,wcap,hwv⟩:=zAf (hT.rows k false hk id)
 rw [hhv,hwv]
 have HM1:Hid (Mod zAb wr (wr.alloc (.cells #[.slice ha (s k).held.length hcap,.slice wa (s k).waits.length wcap] 168))):=(Mod.refl _ wr).alloc _
 clear hT hm hhv hwv
 go_enter Tryz.func121,Tryz.ntmps121
 go_wp2_with fail
 go_ret
 exact ⟨rfl,HM1.out⟩
theorem yOc(B N:Nat)(q:TbM)(s:Tab)(w:World)(h:TbP w B N q s)(hqn:q.n<=1000000) :
  Calls Tryz.prog 74 #[.pointer (some ⟨q.b,q.pre.length,none⟩)] w (yFj w s (fun _=>true) q.n):=by
 have HN:=Hmq (zZp 121 #[] (fun _=>true) B N q s w h yKj hqn)
 clear h
 go_enter Tryz.func74,Tryz.ntmps74
 go_wp2_with fail
 refine HN.out.mono ?_
 rintro e w2 ⟨v,ks,rfl,hk,hs,hv,hl,hm⟩
 obtain ⟨a,cap,rfl,h1,h2⟩:=SlR.slice hk
 have HK:=Hmq hk
 clear hk
 go_wp2_with fail
 go_ret
 exact ⟨_,ks,rfl,HK.out,hs,hv,hl,hm⟩
def zKv(s:zAa)(id:Int)(key:ByteArray):Bool:=decide (id∈(s.keys key).waits.map (·.tx))
theorem yFp(n c g q1 q2:Nat)(y:HLay)(s:zAa)(id:Int)(key:ByteArray)(w:World)(h:zAd w n c g y s)(hk:okQ key)(h1:w.cell? ⟨q1,0,none⟩=some (.pointer (some ⟨g,0,none⟩)))(h2:w.cell? ⟨q2,0,none⟩=some (.int .i64 id)) :
  Calls Tryz.prog 75 (#[.string key]++#[.pointer (some ⟨q1,0,none⟩),.pointer (some ⟨q2,0,none⟩)]) w fun e w'=>e=.returned (.bool (zKv s id key))/\Mod zAb w w':=by
 have hd:=h.quiet ((Mod.refl zAb w).drewN 1)
 have hW:Calls Tryz.prog 77 #[.pointer (some ⟨g,5,none⟩),.string key] w.drew fun e w'=>∃ u,e=.returned u/\RowI w' w.drew.heap.size u ((s.keys key).waits.map (·.tx))/\Mod zAb w.drew w':=yIl n 120 (y.tb g s.net.lost) s.keys key w.drew hd.tabP hk (by omega)
 have HWT:Hid (zKv s id key=decide (id∈(s.keys key).waits.map fun (d:ClmD)=>d.tx)):=rfl
 generalize ((s.keys key).waits.map fun (d:ClmD)=>d.tx)=tl at hW HWT
 have HW:=Hmq hW
 have hg:=h.blk.lt
 clear h hd hW
 go_enter Tryz.func75,Tryz.ntmps75
 go_upto_region 1 with fail
 go_region_with (first
  | (go_at_call 77;(refine HW.out.mono ?_;rintro e w1 ⟨u,rfl,hu,hm1⟩;(have p2:=(((Mod.refl zAb w).drewN 1).trans hm1).cell h2 (fun e=>e));obtain ⟨ua,uc,hua⟩:=zAf hu;(have HC:=Hmq (zOw u tl id w1 (zHm.of_own hu)));(have HM:=Hmq (((Mod.refl zAb w).drewN 1).trans hm1));subst hua;clear hu hm1))
  | (go_at_call 76;refine HC.out.mono ?_;rintro e w2 ⟨rfl,rfl⟩)
  | fail)
 all_goals
  go_wp2_with fail
  go_ret
  exact ⟨by rw [HWT.out];rfl,HM.out⟩
open Classical in
theorem yMn{s:zAa}{id:Int}{ks:List ByteArray}(hn:zWa s.keys (fun _=>true) ks)(hs:∀ k:ByteArray,20<k.size->(s.keys k).held=[]/\(s.keys k).waits=[]):ks.any (zKv s id)=zNt s id:=by
 have e:∀ k,(s.keys k).waits.any (fun c=>decide (c.tx=id))=zKv s id k:=fun k=>by
  unfold zKv
  rw [Bool.eq_iff_iff,List.any_eq_true,decide_eq_true_iff,List.mem_map]
  simp only [decide_eq_true_eq]
 unfold zNt
 rw [Bool.eq_iff_iff,List.any_eq_true,decide_eq_true_iff]
 constructor
 ·rintro ⟨k,_,h2⟩;exact ⟨k,by rw [e];exact h2⟩
 ·rintro ⟨k,h2⟩
  rw [e] at h2
  refine ⟨k,(hn.2 k).2 ⟨?_,?_,rfl⟩,h2⟩
  ·unfold okQ maxLen
   apply Classical.byContradiction
   intro hq
   have:=(hs k (by omega)).2
   unfold zKv at h2
   rw [this] at h2
   simp at h2
  ·intro hb
   unfold zKv at h2
   rw [hb.2] at h2
   simp at h2
theorem yGx(n c g:Nat)(y:HLay)(s:zAa)(id:Int)(w:World)(h:zAd w n c g y s)(hc:c<=10000)(hs:∀ k:ByteArray,20<k.size->(s.keys k).held=[]/\(s.keys k).waits=[]) :
  Calls Tryz.prog 41 #[.pointer (some ⟨g,0,none⟩),.int .i64 id] w fun e w'=>e=.returned (.bool (zNt s id))/\Mod zAb w w':=by
 obtain ⟨w1,hw1⟩:∃ x,x=(w.alloc (.cells #[.pointer (some ⟨g,0,none⟩)] 35)).alloc (.cells #[.int .i64 id] 3):=⟨_,rfl⟩
 have hm1:Mod zAb w w1:=by rw [hw1];exact ((Mod.refl _ w).alloc _).alloc _
 have hb0:Blk w1 w.heap.size [.pointer (some ⟨g,0,none⟩)] 35:=by rw [hw1];exact (Blk.new w _ _).mod ((Mod.refl zAb _).alloc _) (fun e=>e)
 have hb1:Blk w1 (w.heap.size+1) [.int .i64 id] 3:=by
  rw [hw1]
  have:=Blk.new (w.alloc (.cells #[.pointer (some ⟨g,0,none⟩)] 35)) [.int .i64 id] 3
  simpa using this
 have h1:=h.quiet hm1
 have x0:=hb0.cell 0 rfl
 have hg:=h1.blk.lt
 have hq:=h1.qn.2.2
 have hKE:Calls Tryz.prog 74 #[.pointer (some ⟨g,5,none⟩)] w1 (yFj w1 s.keys (fun _=>true) y.q.n):=yOc n 120 (y.tb g s.net.lost) s.keys w1 h1.tabP (by show y.q.n<=1000000;omega)
 have HKE:=Hmq hKE
 have hmf:∀ fn first cap w,(Instr.makeFunc fn first cap).run Tryz.prog w=.ok (.func fn first cap) w:=fun _ _ _ _=>rfl
 have HH:=Hmq h1
 have HB0:=Hmq hb0
 have HB1:=Hmq hb1
 have HM1:=Hmq hm1
 have HS:=Hmq hs
 clear h h1 hb0 hb1 hm1 hKE hs
 go_enter Tryz.func41,Tryz.ntmps41
 go_upto_region 1 with fail
 rw [<-hw1]
 clear hw1
 go_wp2_with fail
 refine HKE.out.mono ?_
 rintro e w2 ⟨v,ks,rfl,hks,hns,hfv,hkl,hm2⟩
 have HA:AskG 75 #[.pointer (some ⟨w.heap.size,0,none⟩),.pointer (some ⟨w.heap.size+1,0,none⟩)] (fun (d:ByteArray)=>.string d) ks (zKv s id) (fun wr=>zAd wr n c g y s/\wr.cell? ⟨w.heap.size,0,none⟩=some (.pointer (some ⟨g,0,none⟩))/\wr.cell? ⟨w.heap.size+1,0,none⟩=some (.int .i64 id)):=
  ⟨zJx Tryz.func75 (by kernel_rfl) rfl,fun wa wb hh hm=>⟨hh.1.quiet hm,hm.cell hh.2.1 (fun e=>e),hm.cell hh.2.2 (fun e=>e)⟩,fun d hd wr hh=>yFp n c g _ _ y s id d wr hh.1 ((hns.2 d).1 hd).1 hh.2.1 hh.2.2⟩
 have HCN:=Hmq (zTx 75 w2.heap.size _ _ v ks w2 _ hks HA ⟨HH.out.quiet hm2,hm2.cell (HB0.out.cell 0 rfl) (fun e=>e),hm2.cell (HB1.out.cell 0 rfl) (fun e=>e)⟩ (by omega))
 rw [yMn hns HS.out] at HCN
 obtain ⟨va,vc,hva,-,-⟩:=SlR.slice hks
 subst hva
 have HM2:=Hmq (HM1.out.trans hm2)
 clear hks hns hfv hkl hm2 HA HKE
 go_wp2_with fail
 refine HCN.out.mono ?_
 rintro e w3 ⟨rfl,hm3⟩
 have HM3:=Hmq (HM2.out.trans hm3)
 clear hm3 HCN
 go_wp2_with fail
 go_ret
 exact ⟨rfl,HM3.out⟩
theorem yLf(n c g:Nat)(y:HLay)(s:zAa)(id:Int)(w:World)(h:zAd w n c g y s)(hS:Safe s)(hHd:Held s)(hc:c<=10000)(hlo:s.net.lost+750600<=4611686018427387904) :
  Calls Tryz.prog 15 #[.pointer (some ⟨g,0,none⟩),.int .i64 id] w (PutP w n c g y (endH s id).1 (endH s id).2):=by
 have HOP:=Hmq (zSn n c g y s id w h hS.tl)
 by_cases ho:zHv s id=0
 ·rw [ho,zAz] at HOP
  obtain ⟨i,rfl,hi1,hi2,hst⟩:=zDk ho
  have HWA:=Hmq (yGx n c g y s i w h hc hHd.small)
  cases hw:zNt s i with
  | true=>
   rw [hw] at HWA
   have HD:Hid (endH s i=(s,11)):=by unfold Hid endH;rw [if_neg (fun q=>q ho),hw];rfl
   have HH:=Hmq h
   clear h ho hw
   go_enter Tryz.func15,Tryz.ntmps15
   go_wp2_with (first
    | (go_at_call 35;refine HOP.out.mono ?_;rintro e w1 ⟨rfl,rfl⟩)
    | (go_at_call 41;refine HWA.out.mono ?_;rintro e w2 ⟨rfl,hm2⟩;have HF:Hid (PutP w1 n c g y (endH s i).1 (endH s i).2 (.returned (.iface 90 (.int .i64 11))) w2):=(by unfold Hid;rw [HD.out];exact ⟨by rw [zBb (by omega)],y,HH.out.quiet hm2,zAn.quiet hm2⟩);clear hm2)
    | fail)
   go_ret
   exact HF.out
  | false=>
   rw [hw] at HWA
   have HD:Hid (endH s i=(zCi (zDy (setTx s i { s.tx i with state:=2 })),0)):=by unfold Hid endH;rw [if_neg (fun q=>q ho),hw,Int.toNat_natCast];rfl
   have hSS:Safe (setTx s i { s.tx i with state:=2 }):=hS.write (ws:=(s.tx i).writes) hi1 hi2 hst (hS.tx i hi1 hi2).few (.inr rfl)
   have hHs:Held (setTx s i { s.tx i with state:=2 }):=hHd.ending hi1 hi2 rfl hst (zIc hw)
   obtain ⟨t1,t2,-⟩:=zDh hSS
   have hTH:Held (zDy (setTx s i { s.tx i with state:=2 })):=(t2.toS t1 hHs).held
   have h300:=zRm hSS
   have htl:=hS.tl
   have HTX0:Hid (∀ wq,Mod zAb w wq->∃ b,y.tbs[i - 1]?=some b/\TxP wq n y b (s.tx i)/\Calls Tryz.prog 34 #[.pointer (some ⟨g,0,none⟩),.int .i64 i] wq fun e w'=>e=.returned (.pointer (some ⟨b,0,none⟩))/\w'=wq):=fun wq hq=>by
    obtain ⟨b,hb,hT⟩:=(h.quiet hq).txQ hi1 hi2
    exact ⟨b,hb,hT,zHo n c g y s i b wq (h.quiet hq) hi1 (by omega) hb⟩
   have HH:=Hmq h
   have HSS:=Hmq hSS
   have HTS:=Hmq t1
   have HTH:=Hmq hTH
   have HTI:=Hmq (zIg (s:=s) hi1 hi2)
   have hl3:(setTx s i { s.tx i with state:=2 }).net.lost=s.net.lost:=rfl
   clear h ho hw hSS hHs t1 t2 hTH hS hHd hst
   go_enter Tryz.func15,Tryz.ntmps15
   go_upto_region 6 with (first
    | (go_at_call 35;refine HOP.out.mono ?_;rintro e w1 ⟨rfl,rfl⟩)
    | (go_at_call 41;refine HWA.out.mono ?_;rintro e w2 ⟨rfl,hm2⟩)
    | fail)
   obtain ⟨b,hb,hT,hTX⟩:=HTX0.out w2 hm2
   have HTX:=Hmq hTX
   have p0:=hT.blk.cell 0 rfl
   have f0:=hT.blk.frozen 0
   have zb:=hT.blk.lt
   obtain ⟨w3,hw3⟩:∃ x,x=w2.setCell ⟨b,0,none⟩ (.int .i64 2):=⟨_,rfl⟩
   have hm3:Mod (zAc b) w2 w3:=by rw [hw3];exact Mod.setBlk b 0 _
   have hB3:Blk w3 b [.int .i64 2,y.tav b,y.twv b,.int .i64 (s.tx i).time] 86:=by rw [hw3];exact hT.blk.set 0 _
   have hna:=zAy hT.ats hT.blk (by decide)
   have hnw:=zAy hT.wr hT.blk (by decide)
   obtain ⟨hH3,hS3⟩:=(HH.out.quiet hm2).turnT hb HTI.out (t':={ s.tx i with state:=2 }) (av:=y.tav b) (wv:=y.twv b) (hm3.mono (fun x _ e=>.inl e)) hB3 (zAm hT.ats hm3 (fun k _ _ e q=>hna (by rw [e];exact congrArg some q))) (zAm hT.wr hm3 (fun k _ _ e q=>hnw (by rw [e];exact congrArg some q))) (.inl (.inl rfl)) (.inl (.inl rfl))
   rw [zMc] at hH3
   have hK3:zAn w1 y w3 (y.setT w2 b (y.tav b) (y.twv b)):=(zAn.quiet hm2).trans ⟨hS3,rfl,rfl,rfl,rfl,rfl⟩
   generalize y.setT w2 b (y.tav b) (y.twv b)=y3 at hH3 hK3
   have HTE:=Hmq (zWk n c g y3 _ w3 hH3 HSS.out (by rw [hl3];omega))
   have HK3:=Hmq hK3
   have HL3:Hid ((zDy (setTx s i { s.tx i with state:=2 })).net.lost<=s.net.lost+300):=by rw [hl3] at h300;exact h300.2
   clear hb hT hTX hm2 hm3 hB3 hna hnw hH3 hS3 hK3 HH HTX0 HOP HWA h300 hl3
   go_upto_region 7 with (first
    | (go_at_call 34;refine HTX.out.mono ?_;rintro e w4 ⟨rfl,rfl⟩)
    | fail)
   rw [<-hw3]
   clear hw3 p0 f0 zb
   go_wp2_with fail
   refine HTE.out.mono ?_
   rintro e w5 ⟨rfl,y5,hH5,hK5⟩
   have HSE:=Hmq (zPj n c g y5 _ w5 hH5 HTS.out HTH.out hc (by have:=HL3.out;omega))
   have HK5:=Hmq (HK3.out.trans hK5)
   clear hH5 hK5 HTE
   go_wp2_with fail
   refine HSE.out.mono ?_
   rintro e w6 ⟨rfl,y6,hH6,hK6⟩
   have HF:Hid (PutP w1 n c g y (endH s i).1 (endH s i).2 (.returned .nilIface) w6):=by unfold Hid;rw [HD.out];exact ⟨by rw [zAz],y6,hH6,HK5.out.trans hK6⟩
   clear hH6 hK6 HSE
   go_wp2_with fail
   go_ret
   exact HF.out
 ·have HF:Hid (PutP w n c g y (endH s id).1 (endH s id).2 (.returned (.iface 90 (.int .i64 (zHv s id)))) w):=by
   unfold Hid endH;rw [if_pos ho];exact ⟨by rw [zBb ho],y,h,zAn.refl _ _⟩
  rw [zBb ho] at HOP
  clear h ho
  go_enter Tryz.func15,Tryz.ntmps15
  go_wp2_with (first
   | (go_at_call 35;refine HOP.out.mono ?_;rintro e w1 ⟨rfl,rfl⟩)
   | fail)
  go_ret
  exact HF.out
def zIs(s:zAa)(k m:Nat):zAa:=(List.range m).foldl (fun h i=>if zOl h k i then zBk h (i+1) else h) s
theorem zVk(s:zAa)(k m:Nat):zIs s k (m+1)=if zOl (zIs s k m) k m then zBk (zIs s k m) (m+1) else zIs s k m:=by unfold zIs;rw [List.range_succ,List.foldl_append];rfl
theorem yHc{s:zAa}(h:Safe s)(hH:Held s){k:Nat}(hk:k<s.lines.length):∀ m,m<=s.txs.length->ActG s (zIs s k m)/\zBj s (zIs s k m):=by
 intro m
 induction m with
 | zero=>exact fun _=>⟨ActG.refl h hH,zBj.refl s⟩
 | succ m ih=>
  intro hm
  rw [zVk]
  obtain ⟨a,b⟩:=ih (by omega)
  generalize zIs s k m=S at a b
  split
  ·rename_i hl
   have hmS:m+1<=S.txs.length:=by rw [b.len];omega
   have hkS:k<S.lines.length:=by rw [b.l];exact hk
   unfold zOl at hl
   simp only [Bool.and_eq_true,Bool.or_eq_true,decide_eq_true_eq] at hl
   obtain ⟨hl1,hl2⟩:=hl
   have hx:=a.safe.tx (m+1) (by omega) hmS
   have hkd:k<decH S:=by
    have:k≠decH S:=fun e=>hl1 (by rw [e];exact hx.dec)
    unfold decH at this ⊢;omega
   have hH':Held (zBk S (m+1)):=a.held.abort (m+1) (by omega) (fun x hx=>by simp at hx)
   rcases hl2 with q | ⟨q,q2⟩
   ·exact ⟨a.trans ⟨a.safe.abort (by omega) hmS q,hH',zFm.abort (by omega) hmS (by omega),by rw [zGb]⟩,b.trans (zBj.abort S _)⟩
   ·have hr:zIy (S.tx (m+1))=false:=by
     apply Classical.byContradiction
     intro hn
     simp only [Bool.not_eq_false] at hn
     have:=zLg.1 hn k
     have:=hx.rng k
     have h2:(S.tx (m+1)).ats.getD k 0=2:=by omega
     have:=yIz a.safe (by omega) hmS hkd h2
     have e:((m+1:Nat):Int)=(m:Int)+1:=by omega
     rw [e,q2] at this;cases this
    exact ⟨a.trans ⟨a.safe.abort2 (by omega) hmS q hr,hH',zFm.abort (by omega) hmS (by omega),by rw [zGb]⟩,b.trans (zBj.abort S _)⟩
  ·exact ⟨a,b⟩
theorem yDe(n c g:Nat)(y:HLay)(s:zAa)(k:Nat)(w:World)(h:zAd w n c g y s)(hS:Safe s)(hHd:Held s)(hk:k<s.lines.length)(hc:c<=10000) :
  Calls Tryz.prog 62 #[.pointer (some ⟨g,0,none⟩),.int .i64 k] w fun e w'=>e=.returned (.tuple #[])/\∃ y',zAd w' n c g y' (zEb s k)/\zAn w y w' y':=by
 obtain ⟨c0,-⟩:=blkH h.blk
 obtain ⟨b,hb,hL⟩:=h.lineQ hk
 obtain ⟨lg,lcap,hlv,cl⟩:=zIz h.lrow hb
 have hlen:=h.llen
 rw [hlv,hlen] at c0
 obtain ⟨d,hd,x,hx,hNq⟩:=hL.nodeQ (j:=0) (by have:=List.length_pos_iff.2 (hS.line k hk).ne;omega)
 have hx0:x=zAq s k:=by
  have:=hS.head hk
  rw [hx] at this
  exact Option.some.inj this
 subst hx0
 have b0:=hL.blk.cell 0 rfl
 obtain ⟨ng,ncap,hnv,cn⟩:=zIz hL.row hd
 rw [hnv] at b0
 have HLG:=Hmq (zOy _ _ _ _ _ _ hNq)
 have hkI:(k:Int)<(s.lines.length:Int):=by omega
 have hk0:(0:Int)<=(k:Int):=by omega
 have hn0:=(List.getElem?_eq_some_iff.1 hd).1
 have hnI:(0:Int)<((y.nbs b).length:Int):=by omega
 have hfew:(zAq s k).log.length<=305:=(hS.log k hk).few hS.tl
 have htl:=hS.tl
 have hll:=hS.ll
 have HH:=Hmq h
 have HS:=Hmq hS
 have HHd:=Hmq hHd
 clear h hS hHd hb hL hlv hd hx hNq hnv
 go_enter Tryz.func62,Tryz.ntmps62
 go_upto_region 1 with (first
  | (go_at_call 40;refine HLG.out.mono ?_;rintro e w2 ⟨v,rfl,hrc,hfv,hm2⟩;obtain ⟨va,vc,hva⟩:=hrc.slice;subst hva)
  | fail)
 have hcf:yIb w2 y (.slice va (zAq s k).log.length vc) (zAq s k).log:=by
  refine ⟨hrc.toV,.inr fun z hz=>?_⟩
  have hz2:=hfv z hz
  obtain ⟨us,_,h3,_⟩:=hrc
  refine ⟨?_,(zAh h3 hz).2.1⟩
  exact Classical.byContradiction fun e=>by have:=(HH.out.own.lt z e).2;omega
 have HCF:=Hmq hcf
 have HH2:=Hmq (HH.out.quiet hm2)
 have HK2:Hid (zAn w y w2 y):=zAn.quiet hm2
 obtain ⟨-,-,-,-,-,-,c6⟩:=blkH HH2.out.blk
 obtain ⟨ta,tcap,htv⟩:=zAf HH2.out.trow
 rw [htv,HH2.out.tlen] at c6
 have HTV:Hid (y.tv=.slice ta s.txs.length tcap):=by unfold Hid;rw [htv,HH2.out.tlen]
 clear hrc hfv hm2 hcf HLG htv c0 b0 cl cn
 go_wp2_with fail
 go_loopw [26] (fun i0 wr=>∃ (i:Nat) (yr:HLay),i<=s.txs.length/\i0=.int .i64 i/\zAd wr n c g yr (zIs s k i)/\zAn w2 y wr yr) (fun i0 _=>s.txs.length - (intOf i0).toNat)
 case atStart=>exact ⟨0,y,Nat.zero_le _,rfl,HH2.out,zAn.refl _ _⟩
 case round=>
  obtain ⟨i,yr,hil,rfl,hH,hK⟩:=hrel
  obtain ⟨wo,hwo⟩:∃ x,x=wr:=⟨_,rfl⟩
  subst hwo
  by_cases hlt:i<s.txs.length
  ·obtain ⟨tA,tS⟩:=yHc HS.out HHd.out hk i hil
   have HSU:=Hmq (zVk s k i)
   have hTl:(zIs s k i).txs.length=s.txs.length:=tS.len
   have hn0:zAq (zIs s k i) k=zAq s k:=by unfold zAq zAa.line;rw [tS.l]
   have hll2:(zIs s k i).lines.length=s.lines.length:=by rw [tS.l]
   generalize zIs s k i=S at hH tA HSU hTl hn0 hll2
   have hi1:1<=i+1:=by omega
   have hi2:i+1<=S.txs.length:=by omega
   obtain ⟨b2,hb2,hT⟩:=hH.txQ hi1 hi2
   rw [Nat.add_sub_cancel] at hb2
   obtain ⟨tg,tcap',htv',ct⟩:=zIz hH.trow hb2
   have hta:ta=some ⟨tg,0,none⟩:=by
    have e:=hK.tv
    rw [htv',HTV.out] at e
    simp only [Value.slice.injEq] at e
    exact e.1.symm
   subst hta
   have hats:=(tA.safe.tx (i+1) hi1 hi2).len
   obtain ⟨ab,acap,hav,hac⟩:=yFh hT (k:=k) (by rw [hats,hll2];exact hk)
   have t0:=hT.blk.cell 0 rfl
   have t1:=hT.blk.cell 1 rfl
   rw [hav,hats,hll2] at t1
   obtain ⟨x,hx⟩:∃ x,x=(S.tx (i+1)).ats.getD k 0:=⟨_,rfl⟩
   rw [<-hx] at hac
   have HPL:=Hmq (zPy _ _ 2 ((i:Int)+1) wo (HCF.out.keep hK.st).1 (by omega))
   have eii:((i+1:Nat):Int)=(i:Int)+1:=by omega
   have HAB:Hid (∀ wq,Mod zAb wo wq->Calls Tryz.prog 36 #[.pointer (some ⟨g,0,none⟩),.int .i64 ((i:Int)+1)] wq fun e w'=>e=.returned (.tuple #[])/\∃ y',zAd w' n c g y' (zBk S (i+1))/\zAn wq yr w' y'):=fun wq hq=>by
    have:=zTk n c g yr S (i+1) wq (hH.quiet hq) hi1 hi2 (by omega) hc (by rw [hats];omega)
    rw [eii] at this
    exact this
   have HL0:Hid (∀ bl,zOl S k i=bl->zIs s k (i+1)=if bl then zBk S (i+1) else S):=fun bl e=>by rw [HSU.out,e]
   have HLO:Hid (zOl S k i=(decide (x≠0) && (decide ((S.tx (i+1)).state=1) || (decide ((S.tx (i+1)).state=2) && (zDn (zAq s k).log 2 ((i:Int)+1)).isNone)))):=by unfold Hid zOl;simp only;rw [hn0,hx]
   have hiI:(i:Int)<(s.txs.length:Int):=by omega
   have hi0:(0:Int)<=(i:Int):=by omega
   have HHo:=Hmq hH
   have HKo:=Hmq hK
   clear hH hK hT hb2 htv' hav hats tA tS HSU hn0 hll2 hx
   generalize (S.tx (i+1)).state=st at t0 HLO
   by_cases hx0:x=0
   ·have hxb:(x != 0)=false:=by simpa using hx0
    by_cases s1:st=1
    ·have hs1:(st == 1)=true:=by simpa using s1
     have HF:Hid (∀ wq,Mod zAb wo wq->zAd wq n c g yr (zIs s k (i+1))/\zAn w2 y wq yr):=fun wq hq=>⟨by rw [HL0.out false (by rw [HLO.out];simp [s1,hx0])];exact HHo.out.quiet hq,HKo.out.trans (zAn.quiet hq)⟩
     clear HL0 HLO HHo HKo HAB
     have HF2:=Hmq (HF.out wo (Mod.refl _ _))
     clear HF
     go_wp2_with fail
     go_roundw
     case rel=>exact ⟨i+1,yr,by omega,by go_num,HF2.out.1,HF2.out.2⟩
     case measure=>simp [intOf];omega
    ·have hs1:(st == 1)=false:=by simpa using s1
     by_cases s2:st=2
     ·have hs2:(st == 2)=true:=by simpa using s2
      cases hpc:zDn (zAq s k).log 2 ((i:Int)+1) with
      | none=>
       rw [hpc] at HPL
       have HF:Hid (∀ wq,Mod zAb wo wq->zAd wq n c g yr (zIs s k (i+1))/\zAn w2 y wq yr):=fun wq hq=>⟨by rw [HL0.out false (by rw [HLO.out];simp [s2,hx0,hpc])];exact HHo.out.quiet hq,HKo.out.trans (zAn.quiet hq)⟩
       clear HL0 HLO HHo HKo HAB
       go_upto_region 5 with (first
        | (go_at_call 80;refine HPL.out.mono ?_;rintro e w3 ⟨rfl,hm3⟩;simp only [idxI])
        | fail)
       have q1:=hm3.cell t1 (fun e=>e)
       have q2:=hm3.cell hac (fun e=>e)
       have HM3:=Hmq hm3
       clear hm3 HPL
       have HF2:=Hmq (HF.out w3 HM3.out)
       clear HF
       go_wp2_with fail
       go_roundw
       case rel=>exact ⟨i+1,yr,by omega,by go_num,HF2.out.1,HF2.out.2⟩
       case measure=>simp [intOf];omega
      | some j=>
       rw [hpc] at HPL
       have hj0:decide ((j:Int)<0)=false:=decide_eq_false (by omega)
       have HF:Hid (∀ wq,Mod zAb wo wq->zAd wq n c g yr (zIs s k (i+1))/\zAn w2 y wq yr):=fun wq hq=>⟨by rw [HL0.out false (by rw [HLO.out];simp [s2,hpc])];exact HHo.out.quiet hq,HKo.out.trans (zAn.quiet hq)⟩
       clear HL0 HLO HHo HKo HAB
       go_upto_region 5 with (first
        | (go_at_call 80;refine HPL.out.mono ?_;rintro e w3 ⟨rfl,hm3⟩;simp only [idxI])
        | fail)
       have q1:=hm3.cell t1 (fun e=>e)
       have q2:=hm3.cell hac (fun e=>e)
       have HM3:=Hmq hm3
       clear hm3 HPL
       have HF2:=Hmq (HF.out w3 HM3.out)
       clear HF
       go_wp2_with fail
       go_roundw
       case rel=>exact ⟨i+1,yr,by omega,by go_num,HF2.out.1,HF2.out.2⟩
       case measure=>simp [intOf];omega
     ·have hs2:(st == 2)=false:=by simpa using s2
      have HF:Hid (∀ wq,Mod zAb wo wq->zAd wq n c g yr (zIs s k (i+1))/\zAn w2 y wq yr):=fun wq hq=>⟨by rw [HL0.out false (by rw [HLO.out];simp [s1,s2])];exact HHo.out.quiet hq,HKo.out.trans (zAn.quiet hq)⟩
      clear HL0 HLO HHo HKo HAB
      have HF2:=Hmq (HF.out wo (Mod.refl _ _))
      clear HF
      go_wp2_with fail
      go_roundw
      case rel=>exact ⟨i+1,yr,by omega,by go_num,HF2.out.1,HF2.out.2⟩
      case measure=>simp [intOf];omega
   ·have hxb:(x != 0)=true:=by simpa using hx0
    by_cases s1:st=1
    ·have hs1:(st == 1)=true:=by simpa using s1
     have HE:=Hmq (HL0.out true (by rw [HLO.out];simp [s1,hx0]))
     clear HL0 HLO
     have HAB2:=Hmq (HAB.out wo (Mod.refl _ _))
     have HK3:=Hmq (HKo.out.trans (zAn.quiet (Mod.refl _ _)))
     clear HAB HHo HKo
     go_wp2_with fail
     refine HAB2.out.mono ?_
     rintro e w4 ⟨rfl,y4,hH4,hK4⟩
     have HF:Hid (zAd w4 n c g y4 (zIs s k (i+1))/\zAn w2 y w4 y4):=⟨by rw [HE.out];exact hH4,HK3.out.trans hK4⟩
     clear hH4 hK4 HAB2
     go_wp2_with fail
     go_roundw
     case rel=>exact ⟨i+1,y4,by omega,by go_num,HF.out.1,HF.out.2⟩
     case measure=>simp [intOf];omega
    ·have hs1:(st == 1)=false:=by simpa using s1
     by_cases s2:st=2
     ·have hs2:(st == 2)=true:=by simpa using s2
      cases hpc:zDn (zAq s k).log 2 ((i:Int)+1) with
      | none=>
       rw [hpc] at HPL
       have HE:=Hmq (HL0.out true (by rw [HLO.out];simp [s2,hx0,hpc]))
       clear HL0 HLO
       go_upto_region 5 with (first
        | (go_at_call 80;refine HPL.out.mono ?_;rintro e w3 ⟨rfl,hm3⟩;simp only [idxI])
        | fail)
       have q1:=hm3.cell t1 (fun e=>e)
       have q2:=hm3.cell hac (fun e=>e)
       have HM3:=Hmq hm3
       clear hm3 HPL
       have HAB2:=Hmq (HAB.out w3 HM3.out)
       have HK3:=Hmq (HKo.out.trans (zAn.quiet HM3.out))
       clear HAB HHo HKo
       go_wp2_with fail
       refine HAB2.out.mono ?_
       rintro e w4 ⟨rfl,y4,hH4,hK4⟩
       have HF:Hid (zAd w4 n c g y4 (zIs s k (i+1))/\zAn w2 y w4 y4):=⟨by rw [HE.out];exact hH4,HK3.out.trans hK4⟩
       clear hH4 hK4 HAB2
       go_wp2_with fail
       go_roundw
       case rel=>exact ⟨i+1,y4,by omega,by go_num,HF.out.1,HF.out.2⟩
       case measure=>simp [intOf];omega
      | some j=>
       rw [hpc] at HPL
       have hj0:decide ((j:Int)<0)=false:=decide_eq_false (by omega)
       have HF:Hid (∀ wq,Mod zAb wo wq->zAd wq n c g yr (zIs s k (i+1))/\zAn w2 y wq yr):=fun wq hq=>⟨by rw [HL0.out false (by rw [HLO.out];simp [s2,hpc])];exact HHo.out.quiet hq,HKo.out.trans (zAn.quiet hq)⟩
       clear HL0 HLO HHo HKo HAB
       go_upto_region 5 with (first
        | (go_at_call 80;refine HPL.out.mono ?_;rintro e w3 ⟨rfl,hm3⟩;simp only [idxI])
        | fail)
       have q1:=hm3.cell t1 (fun e=>e)
       have q2:=hm3.cell hac (fun e=>e)
       have HM3:=Hmq hm3
       clear hm3 HPL
       have HF2:=Hmq (HF.out w3 HM3.out)
       clear HF
       go_wp2_with fail
       go_roundw
       case rel=>exact ⟨i+1,yr,by omega,by go_num,HF2.out.1,HF2.out.2⟩
       case measure=>simp [intOf];omega
     ·have hs2:(st == 2)=false:=by simpa using s2
      have HF:Hid (∀ wq,Mod zAb wo wq->zAd wq n c g yr (zIs s k (i+1))/\zAn w2 y wq yr):=fun wq hq=>⟨by rw [HL0.out false (by rw [HLO.out];simp [s1,s2])];exact HHo.out.quiet hq,HKo.out.trans (zAn.quiet hq)⟩
      clear HL0 HLO HHo HKo HAB
      have HF2:=Hmq (HF.out wo (Mod.refl _ _))
      clear HF
      go_wp2_with fail
      go_roundw
      case rel=>exact ⟨i+1,yr,by omega,by go_num,HF2.out.1,HF2.out.2⟩
      case measure=>simp [intOf];omega
  ·obtain rfl:i=s.txs.length:=by omega
   have HF:Hid (∃ y',zAd wo n c g y' (zEb s k)/\zAn w y wo y'):=⟨yr,hH,HK2.out.trans hK⟩
   clear hH hK
   go_wp2_with fail
   go_end0
   exact ⟨rfl,HF.out⟩
theorem zAd.turnD{w w':World}{n c g:Nat}{y:HLay}{s:zAa}(h:zAd w n c g y s){d:List Int}(hm:Mod (zAc y.dr) w w')(hD:zEq w' n (some y.dr) d):zAd w' n c g y { s with dead:=d }/\zAn w y w' y:=by
 have own:=h.own
 have hq:Qm w (y.lo n) (zAc y.dr):=fun z hz e=>by
  simp only [zAc] at e
  subst e
  rintro (e1 | ⟨⟨cur,fr,e1⟩,_⟩)
  ·have h9:=(own.lt y.dr (by rw [own.dead];simp)).1
   have h8:y.dr<n:=e1
   omega
  ·rcases h.dead with ⟨e,_⟩ | ⟨b,D,e,_,⟨es,clock,h2,_⟩,_⟩
   ·cases e
   ·cases e
    rw [h2] at e1;simp at e1
 have ht:zKo w w' n y (fun t=>t=.dead):=⟨⟨_,hm,hq,fun z hz e=>by
  simp only [zAc] at e
  subst e
  exact ⟨own.dead,by rw [own.dead];simp⟩⟩⟩
 refine ⟨⟨h.fMain ht (by simp),h.fNet ht (by simp),hD,h.fTab ht (by simp),h.qn,h.fLrow ht (by simp),h.llen,fun k b l hb hl=>h.fLine ht hb hl (by simp) (fun d _=>by simp),h.fTrow ht (by simp),h.tlen,fun i b t hb hti=>h.fTx ht hb hti (by simp),own.more hm.size⟩,⟨hm.mono (fun z hz e=>by simp only [zAc] at e;subst e;rw [own.dead];simp),fun _ _=>rfl⟩,rfl,rfl,rfl,rfl,rfl⟩
theorem yOt(n c g:Nat)(y:HLay)(s:zAa)(id:Int)(w:World)(h:zAd w n c g y s)(hs:zFb s)(hid:zBm id)(hd1:s.dead.length<=1000)(hd2:s.net.down.length<=1000)(hlo:s.net.lost+200<=4611686018427387904) :
  Calls Tryz.prog 60 #[.pointer (some ⟨g,0,none⟩),.int .i64 id] w (PutP w n c g y (zGj s id).1 (zGj s id).2):=by
 have HND:=Hmq (yAd n c g y s id w h hs)
 have HH:=Hmq h
 cases hno:zIl s id with
 | none=>
  rw [hno] at HND
  have HE:Hid (zGj s id=(s,7)):=by unfold Hid zGj;rw [hno];rfl
  clear h hno
  go_enter Tryz.func60,Tryz.ntmps60
  go_upto_region 2 with (first
   | (go_at_call 55;refine HND.out.mono ?_;rintro e w3 ⟨hfo,hm3⟩;obtain rfl:=zVj hfo)
   | fail)
  have HF:Hid (PutP w n c g y (zGj s id).1 (zGj s id).2 (.returned (.iface 90 (.int .i64 7))) w3):=by
   unfold Hid;rw [HE.out];exact ⟨by rw [zBb (by omega)],y,HH.out.quiet hm3,zAn.quiet hm3⟩
  clear hm3
  go_wp2_with fail
  go_ret
  exact HF.out
 | some kj=>
  obtain ⟨kk,j⟩:=kj
  rw [hno] at HND
  have HE:Hid (zGj s id=({ s with dead:=s.dead++[id],net:=yAy s.net id },0)):=by unfold Hid zGj;rw [hno];rfl
  have hkey:keyOf Tryz.prog 3 (.int .i64 id)=some (.int .i64 id):=keyOf_int_mk Tryz.underlying3 (zPg hid)
  clear h hno
  go_enter Tryz.func60,Tryz.ntmps60
  go_upto_region 4 with (first
   | (go_at_call 55;refine HND.out.mono ?_;rintro e w3 ⟨hfo,hm3⟩;obtain ⟨b,d,-,-,rfl⟩:=zVi hfo)
   | fail)
  have HH3:=Hmq (HH.out.quiet hm3)
  have HK3:Hid (zAn w y w3 y):=zAn.quiet hm3
  obtain ⟨-,c1,-⟩:=blkH HH3.out.blk
  have hg3:=HH3.out.blk.lt
  have hdn:=HH3.out.dead
  rcases hdn with ⟨e,_⟩ | ⟨b',D,e,hLb,hown,hhas⟩
  ·cases e
  cases e
  have HO:=Hmq hown
  have HHA:=Hmq hhas
  clear hown hhas hm3 hfo HND
  go_upto_region 5 with (first
   | (at_mapUpdate;refine wpList_mapUpdate_own _ rfl _ _ _ 75 rfl 3 158 kInt Tryz.underlying75 unitElem y.dr _ D rfl HO.out (by unfold maxLen;omega) _ _ _ rfl rfl hkey _ [] unitElem_mk ?_;intro w4 hown4 hgrow4)
   | fail)
  have hm4:Mod (zAc y.dr) w3 w4:=(Mod.refl _ w3).grown hgrow4 (fun x hx _=>by cases hx;rfl)
  obtain ⟨hH4,hK4⟩:=HH3.out.turnD hm4 (zEq.put (L:=⟨n,fun _=>False⟩) HHA.out HO.out.isMap hLb (Nat.le_refl _) hid hown4)
  have HDW:=Hmq (yOy (y.lo n) g y.wv y.mr s.net id w4 hH4.netP hid (by omega) hlo)
  have HH4:=Hmq hH4
  have HK4:=Hmq (HK3.out.trans hK4)
  have hg4:=hH4.blk.lt
  clear hH4 hK4 hm4 hown4 hgrow4 HO HHA c1
  go_wp2_with fail
  refine HDW.out.mono ?_
  rintro e w5 ⟨wv5,mr5,rfl,hN5,hv5,hmr5,hm5⟩
  obtain ⟨hH5,hS5⟩:=HH4.out.turnW hm5 hN5 (.inl hv5) hmr5
  have HF:Hid (PutP w n c g y (zGj s id).1 (zGj s id).2 (.returned .nilIface) w5):=by
   unfold Hid;rw [HE.out];exact ⟨by rw [zAz],_,hH5,HK4.out.trans ⟨hS5,rfl,rfl,rfl,rfl,rfl⟩⟩
  clear hH5 hS5 hN5 hm5 HDW
  go_wp2_with fail
  go_ret
  exact HF.out
theorem zNi{P:Program}{w w':World}{ops:Array Oper}{rest:List Oper}{o:Oper}{a:Act}{Q:Exit->Act->World->Prop}{v:Value}(hgd:o.guard=none)(hrun:(execOp a.eval o).run P w=.ok (.value v) w')(h:wpList P ops Q rest (a.put o.dst v) w'):wpList P ops Q (o :: rest) a w:=by
 refine wpList_plain hgd fun K hK=>?_
 unfold Oper.wp
 rw [hrun]
 exact hK _ _ h
structure zEi(w:World)(L:Lo)(bs:List Nat)(nv lv:Nat->Value)(ns:List zAl):Prop where
 len:bs.length=ns.length
 nd:bs.Nodup
 node:∀ (j c:Nat) s,bs[j]?=some c->ns[j]?=some s->zAx w L c (nv c) (lv c) s
 ap:∀ c∈bs,∀ c'∈bs,c≠c'->∀ z,zAt c (nv c) (lv c) z->¬ zAt c' (nv c') (lv c') z
theorem zEi.quiet{w w':World}{L:Lo}{bs:List Nat}{nv lv:Nat->Value}{ns:List zAl}(h:zEi w L bs nv lv ns)(hm:Mod zAb w w'):zEi w' L bs nv lv ns:=⟨h.len,h.nd,fun j c s hc hs=>(h.node j c s hc hs).quiet hm,h.ap⟩
def updV(f:Nat->Value)(d:Nat)(v:Value):Nat->Value:=fun x=>if x=d then v else f x
theorem zEy(f:Nat->Value)(d:Nat)(v:Value):updV f d v d=v:=by simp [updV]
theorem zEx(f:Nat->Value){d x:Nat}(v:Value)(h:x≠d):updV f d v x=f x:=by simp [updV,h]
theorem zEi.turn{w w':World}{L:Lo}{bs:List Nat}{nv lv:Nat->Value}{ns:List zAl}(h:zEi w L bs nv lv ns){j c:Nat}(hc:bs[j]?=some c){nv' lv':Value}{x:zAl}(hm:Mod (zAt c (nv c) (lv c)) w w')(hN:zAx w' L c nv' lv' x)(h1:zCe w (nv c) nv')(h2:zCe w (lv c) lv'):zEi w' L bs (updV nv c nv') (updV lv c lv') (ns.set j x):=by
 have hcm:=List.mem_of_getElem? hc
 have hjl:j<ns.length:=by have:=(List.getElem?_eq_some_iff.1 hc).1;have:=h.len;omega
 have hold:=h.node j c _ hc (List.getElem?_eq_getElem hjl)
 have hlt:∀ d∈bs,∀ z,zAt d (nv d) (lv d) z->z<w.heap.size:=fun d hd z hz=>by
  obtain ⟨i,hi⟩:=List.getElem?_of_mem hd
  have hil:i<ns.length:=by have:=(List.getElem?_eq_some_iff.1 hi).1;have:=h.len;omega
  exact ((h.node i d _ hi (List.getElem?_eq_getElem hil)).lt hz).2.1
 have hmay:∀ z,zAt c nv' lv' z->z<w.heap.size->zAt c (nv c) (lv c) z:=fun z hz hl=>by
  rcases hz with e | e | e
  ·exact .inl e
  ·rcases h1 with q | q
   ·exact .inr (.inl (by rw [<-q];exact e))
   ·have:=q z e;omega
  ·rcases h2 with q | q
   ·exact .inr (.inr (by rw [<-q];exact e))
   ·have:=q z e;omega
 refine ⟨by rw [List.length_set];exact h.len,h.nd,fun i d s hd hs=>?_,fun d hd d' hd' hne z hz=>?_⟩
 ·rw [zDj] at hs
  by_cases e:i=j
  ·rw [if_pos ⟨e,by omega⟩] at hs
   cases hs
   subst e
   rw [hc] at hd;cases hd
   rw [zEy,zEy];exact hN
  ·rw [if_neg (fun q=>e q.1)] at hs
   have hne:d≠c:=fun q=>e (by subst q;exact zKg h.nd hd hc)
   rw [zEx _ _ hne,zEx _ _ hne]
   exact zAx.mod (h.node i d s hd hs) hm (zAx.qm hold) (fun z hz q=>h.ap d (List.mem_of_getElem? hd) c hcm hne z hz q)
 ·by_cases e:d=c
  ·subst e
   have hne':d'≠d:=fun q=>hne q.symm
   rw [zEy,zEy] at hz
   rw [zEx _ _ hne',zEx _ _ hne']
   intro q
   have hzl:=hlt d' hd' z q
   exact h.ap d hd d' hd' hne z (hmay z hz hzl) q
  ·rw [zEx _ _ e,zEx _ _ e] at hz
   by_cases e2:d'=c
   ·subst e2
    rw [zEy,zEy]
    intro q
    exact h.ap d hd d' hd' hne z hz (hmay z q (hlt d hd z hz))
   ·rw [zEx _ _ e2,zEx _ _ e2]
    exact h.ap d hd d' hd' hne z hz
theorem zOk:∀ (ms:List MsgD) (us:List Value) (ms':List MsgD) (us':List Value),us.length=ms.length->zAk (ms++ms') (us++us')=zAk ms us++zAk ms' us'
 | [],[],ms',us',_=>by simp [zAk]
 | [],_ :: _,_,_,h=>by simp at h
 | _ :: _,[],_,_,h=>by simp at h
 | m :: ms,u :: us,ms',us',h=>by simp [zAk,zOk ms us ms' us' (by simpa using h)]
theorem zOj{w:World}{L:Lo}:∀ (ms:List MsgD) (us:List Value),us.length=ms.length->(∀ (i:Nat) m u,ms[i]?=some m->us[i]?=some u->zAw w L u m.cmd.writes)->∀ u∈zAk ms us,u.oneCell'=true
 | [],[],_,_=>by simp [zAk]
 | [],_ :: _,h,_=>by simp at h
 | _ :: _,[],h,_=>by simp at h
 | m :: ms,u :: us,h,hp=>by
  intro x hx
  rcases List.mem_append.1 hx with e | e
  ·obtain ⟨a,cap,rfl,_⟩:=hp 0 m u rfl rfl
   exact yCq m a _ cap x e
  ·exact zOj ms us (by simpa using h) (fun i m' u' h1 h2=>hp (i+1) m' u' (by simpa using h1) (by simpa using h2)) x e
theorem RowM.join{w:World}{L:Lo}{v r:Value}{ms ms':List MsgD}(h:RowM w L v ms)(k:RowM w L r ms')(hl:ms.length+ms'.length<=1000)(hb:L.n<=w.heap.size)(ty:TypeId) :
  ∃ v' w',(Builtin.append_ #[76,76] ty #[v,r]).run Tryz.prog w=.ok v' w'/\RowM w' L v' (ms++ms')/\w.grownBy w' v.ownBlock/\(v'.ownBlock=v.ownBlock\/v'.ownBlock=some w.heap.size):=by
 obtain ⟨i0,hi,hz0,hz1,hz2⟩:=info_parts Tryz.info112
 obtain ⟨us,h1,h2,h3,h4⟩:=h
 obtain ⟨us',k1,k2,k3,k4⟩:=k
 rcases k2.2 with ⟨e,e0⟩ | ⟨g',cap',cur,e,_⟩
 ·subst e
  have hnil:ms'=[]:=List.eq_nil_of_length_eq_zero e0
  subst hnil
  refine ⟨v,w,run_append_owned_none (P:=Tryz.prog) (w:=w) L.n 76 ty 112 i0 9 Tryz.underlying76 hi v _ _ h2,by rw [List.append_nil];exact ⟨us,h1,h2,h3,h4⟩,⟨rfl,rfl,rfl,Nat.le_refl _,fun _ _ _=>rfl⟩,.inl rfl⟩
 ·subst e
  have hcl:=k2.cells (g:=g') rfl
  obtain ⟨v',w',hr,hown,hgr,_,hat⟩:=run_append_own_at (P:=Tryz.prog) w L.n 76 ty 112 i0 _ 9 88 Tryz.underlying76 hi hz0 hz1 hz2 rfl (by omega) v _ _ h2 ⟨g',0,none⟩ ms'.length cap' (zAk ms' us') (zCk ms' us' k1) hcl (zOj ms' us' k1 k3) (by unfold maxLen;omega) (by omega) hb
  have hm:Mod (fun z=>v.ownBlock=some z) w w':=(Mod.refl _ w).grown hgr (fun x hx _=>hx)
  have hq:=Qm.row h2 (Nat.le_refl _) (by decide)
  refine ⟨v',w',hr,⟨us++us',by rw [List.length_append,List.length_append,h1,k1],?_,fun i m u hi' hu=>?_,fun m hm'=>?_⟩,hgr,hat⟩
  ·rw [zOk ms us ms' us' h1,List.length_append];exact hown
  ·by_cases hlt:i<ms.length
   ·rw [List.getElem?_append_left hlt] at hi'
    rw [List.getElem?_append_left (by omega)] at hu
    exact (h3 i m u hi' hu).mod hm hq
   ·rw [List.getElem?_append_right (by omega)] at hi'
    rw [List.getElem?_append_right (by omega),h1] at hu
    exact (k3 _ m u hi' hu).mod hm hq
  ·rcases List.mem_append.1 hm' with e | e
   ·exact h4 m e
   ·exact k4 m e
end Go.Proofs.YtmaiggbnceejiaaGreatDoor
