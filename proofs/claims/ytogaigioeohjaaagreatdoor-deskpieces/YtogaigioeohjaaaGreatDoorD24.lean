import Derived.Test.YtogaigioeohjaaaGreatDoorD23
set_option linter.unusedVariables false
set_option maxRecDepth 100000
set_option maxHeartbeats 16000000
namespace Go.Proofs.YtogaigioeohjaaaGreatDoor
open Go.RowKit Go.Lib Go.Maps
theorem zEi{s:zAa}{id:Int}(h:zHx s id=0):∃ i:Nat,id=i/\1<=i/\i<=s.txs.length/\(s.tx i).state=1:=by
 unfold zHx zGf isTx at h
 by_cases h1:1<=id
 ·by_cases h2:id<=(s.txs.length:Int)
  ·refine ⟨id.toNat,by omega,by omega,by omega,?_⟩
   rw [decide_eq_true h1,decide_eq_true h2] at h
   simp at h
   by_cases h0:(s.tx id.toNat).state=0
   ·simp [h0] at h
   ·by_cases h3:(s.tx id.toNat).state=1
    ·exact h3
    ·simp [h0,h3] at h
  ·rw [decide_eq_false h2] at h;simp at h
 ·rw [decide_eq_false h1] at h;simp at h
theorem zCi{s:zAa}{id:Int}{key:ByteArray}(h:zIa s id key=0):zHx s id=0/\key.size<=20/\(zOl s (zAv s key)).isSome=true:=by
 unfold zIa at h
 by_cases h1:zHx s id=0
 ·rw [if_neg (fun q=>q h1)] at h
  by_cases h2:20<key.size
  ·rw [if_pos h2] at h;omega
  ·rw [if_neg h2] at h
   cases h3:zOl s (zAv s key) with
   | none=>rw [h3] at h;simp at h
   | some x=>exact ⟨h1,by omega,rfl⟩
 ·rw [if_pos h1] at h;exact absurd h h1
theorem yAo(s:zAa)(id:Int)(key:ByteArray)(mode:Int)(h:∀ t∈s.txs,t.writes.length<=20):∀ t∈(zBs s id key mode).1.txs,t.writes.length<=20:=by
 unfold zBs
 simp only
 split
 ·exact zIw _ (zAw s id key mode).1 h
 ·exact h
theorem zSh(s:zAa)(id:Nat)(key:ByteArray)(mode:Int)(h:∀ t∈s.txs,t.writes.length<=20):(zBw s id key mode).1.txs.length=s.txs.length/\∀ t∈(zBw s id key mode).1.txs,t.writes.length<=20:=by
 have h2:=zVl s id key mode
 have h3:=yAo s id key mode h
 unfold zBw
 simp only
 split
 ·exact ⟨h2.1,h3⟩
 ·split
  ·exact ⟨h2.1,h3⟩
  ·refine ⟨?_,zIw _ _ (zGg _ _ _ h3 (zIi h3 _))⟩
   rw [(zBk.wound _ _).len]
   exact (zBd _ _ _).trans h2.1
theorem zAe.wrote{w w':World}{n c g:Nat}{y:HLay}{s:zAa}(h:zAe w n c g y s){id b:Nat}{t':TxS}(h1:1<=id)(h2:id<=s.txs.length)(hb:y.tbs[id - 1]?=some b)(hw:yCi w n b y t' w') :
  ∃ y',zAe w' n c g y' (setTx s id t')/\zAm w y w' y':=by
 obtain ⟨wv,q1,q2,q3,q4,q5⟩:=hw
 obtain ⟨hH,hS⟩:=h.turnT hb (zIj h1 h2) q5 q1 q2 q3 (.inl (.inl rfl)) (.inl q4)
 exact ⟨_,hH,hS,rfl,rfl,rfl,rfl,rfl⟩
def PutP(w:World)(n c g:Nat)(y:HLay)(s':zAa)(er:Int)(e:Ending)(w':World):Prop:=e=.returned (errQ er)/\∃ y',zAe w' n c g y' s'/\zAm w y w' y'
theorem yLe(n c g:Nat)(y:HLay)(s:zAa)(id:Int)(p:zAz)(w:World)(h:zAe w n c g y s)(hok:zQn w n c s)(hk:okQ p.key)(hv:okQ p.val) :
  Calls Tryz.prog 43 #[.pointer (some ⟨g,0,none⟩),.int .i64 id,.agg #[.string p.key,.string p.val,.bool p.gone]] w (PutP w n (c+2) g y (putH s id p).1 (putH s id p).2):=by
 obtain ⟨pk,pv,pg⟩:=p
 dsimp only at hk hv ⊢
 have hmk:=zMd
 have hcc:=hok.c
 obtain ⟨w1,hw1⟩:∃ z,z=w.alloc (.cells #[.string pk,.string pv,.bool pg] 65):=⟨_,rfl⟩
 have hm1:Mod zAb w w1:=by rw [hw1];exact (Mod.refl _ w).alloc _
 have hb1:Blk w1 w.heap.size [.string pk,.string pv,.bool pg] 65:=by rw [hw1];exact Blk.new w _ _
 have h1:=h.quiet hm1
 have x0:=hb1.cell 0 rfl
 have x1:=hb1.cell 1 rfl
 have HB1:=Hmq hb1
 have HM1:=Hmq hm1
 have HH1:=Hmq h1
 have HOK:=Hmq hok
 have HNB:Hid (y.own w.heap.size=.no):=by
  by_cases e:y.own w.heap.size=.no
  ·exact e
  ·have:=(h.own.lt _ e).2;omega
 have hlow:=h.low
 have hgl:=h.blk.lt
 unfold okQ maxLen at hv
 clear h h1 hb1 hm1 hok
 by_cases hvl:40<pv.size
 ·have hvb:decide ((pv.size:Int) > 40)=true:=decide_eq_true (by omega)
  have HF:Hid (PutP w n (c+2) g y (putH s id ⟨pk,pv,pg⟩).1 (putH s id ⟨pk,pv,pg⟩).2 (.returned (.iface 25 (.int .i64 4))) w1):=by
   unfold Hid putH;rw [if_pos hvl];exact ⟨by rw [zBa (by omega)],y,HH1.out.moreC (by omega),zAm.quiet HM1.out⟩
  clear hvl
  go_enter Tryz.func43,Tryz.ntmps43
  go_upto_region 1 with fail
  rw [<-hw1]
  clear hw1
  go_wp2_with fail
  go_ret
  exact HF.out
 ·have hvb:decide ((pv.size:Int) > 40)=false:=decide_eq_false (by omega)
  have HCM:=Hmq (yGf n c g y s id pk w1 HH1.out HOK.out.sh hk)
  have HP1:Hid (putH s id ⟨pk,pv,pg⟩=if zIa s id pk≠0 then (s,zIa s id pk) else if zMr (s.tx id.toNat) pk && zEc s id pk then (s,4) else if (zBw s id pk 2).2≠0 then zBw s id pk 2 else (setTx (zBw s id pk 2).1 id.toNat (zEq ((zBw s id pk 2).1.tx id.toNat) ⟨pk,pv,pg⟩),0)):=by
   unfold Hid putH;rw [if_neg hvl]
  clear hvl
  go_enter Tryz.func43,Tryz.ntmps43
  go_upto_region 1 with fail
  rw [<-hw1]
  clear hw1
  go_wp2_with fail
  refine HCM.out.mono ?_
  rintro e w2 ⟨hC,hm2⟩
  rcases hC with ⟨hc0,rfl⟩ | ⟨hc0,b,d,hb,hd,hlv,rfl⟩
  ·rw [zBa hc0]
   have HF:Hid (PutP w n (c+2) g y (putH s id ⟨pk,pv,pg⟩).1 (putH s id ⟨pk,pv,pg⟩).2 (.returned (.iface 25 (.int .i64 (zIa s id pk)))) w2):=by
    unfold Hid;rw [HP1.out,if_pos hc0];exact ⟨by rw [zBa hc0],y,(HH1.out.quiet hm2).moreC (by omega),zAm.quiet (HM1.out.trans hm2)⟩
   clear hc0
   go_wp2_with fail
   go_ret
   exact HF.out
  ·obtain ⟨ho,hk20,_⟩:=zCi hc0
   obtain ⟨i,rfl,hi1,hi2,hst⟩:=zEi ho
   have HP2:Hid (putH s i ⟨pk,pv,pg⟩=if zMr (s.tx i) pk && zEc s i pk then (s,4) else if (zBw s i pk 2).2≠0 then zBw s i pk 2 else (setTx (zBw s i pk 2).1 i (zEq ((zBw s i pk 2).1.tx i) ⟨pk,pv,pg⟩),0)):=by
    unfold Hid;rw [HP1.out,if_neg (fun q=>q hc0),Int.toNat_natCast]
   have htl:=HOK.out.sh.tl
   have hh2:=HH1.out.quiet hm2
   obtain ⟨tb,htb,hT⟩:=hh2.txQ (id:=i) hi1 hi2
   have hb2:=HB1.out.mod hm2 (fun e=>e)
   have HTX:Hid (∀ wq,Mod zAb w2 wq->Calls Tryz.prog 72 #[.pointer (some ⟨g,0,none⟩),.int .i64 i] wq fun e w'=>e=.returned (.pointer (some ⟨tb,0,none⟩))/\w'=wq):=fun wq hq=>zHy n c g y s i tb wq (hh2.quiet hq) hi1 (by omega) htb
   have hwl:=HOK.out.sh.tw _ (zNm hi1 hi2)
   have HFU:Hid (∀ wq,Mod zAb w2 wq->Calls Tryz.prog 73 #[.pointer (some ⟨tb,0,none⟩),.string pk] wq fun e w'=>e=.returned (.bool (zMr (s.tx i) pk))/\Mod zAb wq w'):=fun wq hq=>yQx n tb y _ pk wq (hT.mod hq (fun e=>e) (fun _ _ e=>e)) (by omega)
   have HYI:Hid (∀ wq,Mod zAb w2 wq->Calls Tryz.prog 74 #[.pointer (some ⟨g,0,none⟩),.int .i64 i,.string pk] wq fun e w'=>e=.returned (.bool (zEc s i pk))/\Mod zAb wq w'):=fun wq hq=>zYu n c g y s i pk wq (hh2.quiet hq) htl hk
   have z0:=hb2.cell 0 rfl
   have zq:=hb2.lt
   have HH2:=Hmq hh2
   have HM2:=Hmq (HM1.out.trans hm2)
   have HB2:=Hmq hb2
   clear hc0 hb hd hlv HCM HP1 hm2 hh2 hT htb hb2 HH1 HB1 HM1 x0 x1 ho
   go_upto_region 6 with fail
   go_cut [38] (fun t wc=>t=.bool (zMr (s.tx i) pk && zEc s i pk)/\Mod zAb w2 wc)
   case first=>
    cases hfu:zMr (s.tx i) pk
    ·rw [hfu] at HFU
     first
      | (go_region_with (first
        | (go_at_call 72;refine (HTX.out _ ((Mod.refl zAb w2).drew)).mono ?_;rintro e w3 ⟨rfl,rfl⟩)
        | (go_at_call 73;refine (HFU.out _ ((Mod.refl zAb w2).drew)).mono ?_;rintro e w4 ⟨rfl,hm4⟩;have hmf:=((Mod.refl zAb w2).drew).trans hm4)))
      | fail
     all_goals
      go_wp2_with fail
      go_meet
      case rel=>exact ⟨by rw [hfu];rfl,hmf⟩
    ·rw [hfu] at HFU
     cases hyi:zEc s i pk
     all_goals
      rw [hyi] at HYI
      go_region_with (first
       | (go_at_call 72;refine (HTX.out _ ((Mod.refl zAb w2).drew)).mono ?_;rintro e w3 ⟨rfl,rfl⟩)
       | (go_at_call 73;refine (HFU.out _ ((Mod.refl zAb w2).drew)).mono ?_;rintro e w4 ⟨rfl,hm4⟩;have hmf:=((Mod.refl zAb w2).drew).trans hm4;have z4:=hmf.cell z0 (fun e=>e))
       | (go_at_call 74;refine (HYI.out _ hmf).mono ?_;rintro e w5 ⟨rfl,hm5⟩;have hmg:=hmf.trans hm5))
      all_goals
       go_wp2_with fail
       go_meet
       case rel=>exact ⟨by rw [hfu,hyi];rfl,hmg⟩
   case rest=>
    obtain ⟨rfl,hmc⟩:=hcut
    have HHC:=Hmq (HH2.out.quiet hmc)
    have HMC:=Hmq (HM2.out.trans hmc)
    have hbc:=HB2.out.mod hmc (fun e=>e)
    have v0:=hbc.cell 0 rfl
    have HBC:=Hmq hbc
    have HEC:=Hmq (HOK.out.et.mod HMC.out)
    clear HH2 HM2 HB2 hmc z0 hbc HTX HFU HYI
    obtain ⟨wd,hwd⟩:∃ x,x=wc:=⟨_,rfl⟩
    subst hwd
    by_cases hfy:(zMr (s.tx i) pk && zEc s i pk)=true
    ·rw [hfy]
     have HF:Hid (PutP w n (c+2) g y (putH s i ⟨pk,pv,pg⟩).1 (putH s i ⟨pk,pv,pg⟩).2 (.returned (.iface 25 (.int .i64 4))) wd):=by
      unfold Hid;rw [HP2.out,if_pos hfy];exact ⟨by rw [zBa (by omega)],y,HHC.out.moreC (by omega),zAm.quiet HMC.out⟩
     clear hfy
     go_wp2_with fail
     go_ret
     exact HF.out
    ·have hfb:(zMr (s.tx i) pk && zEc s i pk)=false:=by simpa using hfy
     rw [hfb]
     have HP3:Hid (putH s i ⟨pk,pv,pg⟩=if (zBw s i pk 2).2≠0 then zBw s i pk 2 else (setTx (zBw s i pk 2).1 i (zEq ((zBw s i pk 2).1.tx i) ⟨pk,pv,pg⟩),0)):=by
      unfold Hid;rw [HP2.out,if_neg hfy]
     have HLK:=Hmq (yAz n c g y s i pk 2 wd HHC.out ⟨HOK.out.sh,HOK.out.ki,HEC.out,HOK.out.n,hcc⟩ hi1 hi2 hk20 (.inr rfl))
     clear hfy hfb HP2
     go_upto_region 8 with fail
     go_wp2_with fail
     refine HLK.out.mono ?_
     rintro e w5 ⟨rfl,y5,hH5,hK5⟩
     have hbw:=hK5.st.blk HBC.out HNB.out
     have hKF:=(zAm.quiet HMC.out).trans hK5
     obtain ⟨hln,hlw⟩:=zSh s i pk 2 HOK.out.sh.tw
     by_cases he:(zBw s i pk 2).2=0
     ·rw [he,zCc]
      have hle:i<=(zBw s i pk 2).1.txs.length:=by rw [hln];exact hi2
      obtain ⟨tb5,htb5,hT5⟩:=hH5.txQ (id:=i) hi1 hle
      have hwl5:=zIi hlw i
      have HTX:Hid (∀ wq,Mod zAb w5 wq->Calls Tryz.prog 72 #[.pointer (some ⟨g,0,none⟩),.int .i64 i] wq fun e w'=>e=.returned (.pointer (some ⟨tb5,0,none⟩))/\w'=wq):=fun wq hq=>zHy n (c+2) g y5 _ i tb5 wq (hH5.quiet hq) hi1 (by omega) htb5
      have HWR:Hid (∀ wq,Mod zAb w5 wq->Calls Tryz.prog 76 #[.pointer (some ⟨tb5,0,none⟩),.agg #[.string pk,.string pv,.bool pg]] wq fun e w'=>e=.returned (.tuple #[])/\∃ y',zAe w' n (c+2) g y' (setTx (zBw s i pk 2).1 i (zEq ((zBw s i pk 2).1.tx i) ⟨pk,pv,pg⟩))/\zAm w y w' y'):=fun wq hq=>by
       refine (yJy n tb5 y5 _ ⟨pk,pv,pg⟩ wq (hT5.mod hq (fun e=>e) (fun _ _ e=>e)) (Nat.le_trans hH5.low (Nat.le_trans (Nat.le_of_lt hH5.blk.lt) hq.size)) (by omega)).mono ?_
       rintro e w' ⟨rfl,hW⟩
       obtain ⟨y6,hH6,hK6⟩:=(hH5.quiet hq).wrote hi1 hle htb5 hW
       exact ⟨rfl,y6,hH6,(hKF.trans (zAm.quiet hq)).trans hK6⟩
      have HF:Hid (∀ w6,(∃ y',zAe w6 n (c+2) g y' (setTx (zBw s i pk 2).1 i (zEq ((zBw s i pk 2).1.tx i) ⟨pk,pv,pg⟩))/\zAm w y w6 y')->PutP w n (c+2) g y (putH s i ⟨pk,pv,pg⟩).1 (putH s i ⟨pk,pv,pg⟩).2 (.returned .nilIface) w6):=fun w6 hq=>by
       rw [HP3.out,if_neg (fun q=>q he)];exact ⟨by rw [zCc],hq⟩
      have u0:=hbw.cell 0 rfl
      have u1:=hbw.cell 1 rfl
      have u2:=hbw.cell 2 rfl
      have zw:=hbw.lt
      clear hH5 hK5 hT5 htb5 hbw hKF hln hlw he HLK v0
      go_upto_region 11 with fail
      go_region_with (first
       | (go_at_call 72;refine (HTX.out _ ((Mod.refl zAb w5).drew)).mono ?_;rintro e w6 ⟨rfl,rfl⟩)
       | (go_at_call 76;refine (HWR.out _ ((Mod.refl zAb w5).drew)).mono ?_;rintro e w7 ⟨rfl,hq7⟩))
      all_goals
       have HG:=Hmq (HF.out w7 hq7)
       clear hq7
       go_wp2_with fail
       go_ret
       exact HG.out
     ·rw [zBa he]
      have HF:Hid (PutP w n (c+2) g y (putH s i ⟨pk,pv,pg⟩).1 (putH s i ⟨pk,pv,pg⟩).2 (.returned (.iface 25 (.int .i64 (zBw s i pk 2).2))) w5):=by
       unfold Hid;rw [HP3.out,if_pos he];exact ⟨by rw [zBa he],y5,hH5,hKF⟩
      clear hH5 hK5 hbw hKF he HLK
      go_wp2_with fail
      go_ret
      exact HF.out
theorem yRe(n c g:Nat)(y:HLay)(s:zAa)(id:Int)(w:World)(h:zAe w n c g y s)(hs:zGd s)(hc:c<=10000) :
  Calls Tryz.prog 46 #[.pointer (some ⟨g,0,none⟩),.int .i64 id] w (PutP w n c g y (zEy s id).1 (zEy s id).2):=by
 have HOP:=Hmq (zSs n c g y s id w h hs.tl)
 have htl:=hs.tl
 have hll:=hs.ll
 by_cases ho:zHx s id=0
 ·obtain ⟨i,rfl,hi1,hi2,hst⟩:=zEi ho
  have HAB:=Hmq (zTp n c g y s i w h hi1 hi2 htl hc (by rw [hs.ta _ (zNm hi1 hi2)];omega))
  have HD:Hid (zEy s i=(zBh s i,0)):=by unfold Hid zEy;rw [if_neg (fun q=>q ho),Int.toNat_natCast]
  rw [ho,zCc] at HOP
  clear h ho
  go_enter Tryz.func46,Tryz.ntmps46
  go_wp2_with (first
   | (go_at_call 83;refine HOP.out.mono ?_;rintro e w1 ⟨rfl,rfl⟩)
   | (go_at_call 84;refine HAB.out.mono ?_;rintro e w2 ⟨rfl,hq⟩;have HF:Hid (PutP w1 n c g y (zEy s i).1 (zEy s i).2 (.returned .nilIface) w2):=(by unfold Hid;rw [HD.out];exact ⟨by rw [zCc],hq⟩);clear hq)
   | fail)
  go_ret
  exact HF.out
 ·have HF:Hid (PutP w n c g y (zEy s id).1 (zEy s id).2 (.returned (.iface 25 (.int .i64 (zHx s id)))) w):=by
   unfold Hid zEy;rw [if_pos ho];exact ⟨by rw [zBa ho],y,h,zAm.refl _ _⟩
  rw [zBa ho] at HOP
  clear h ho
  go_enter Tryz.func46,Tryz.ntmps46
  go_wp2_with (first
   | (go_at_call 83;refine HOP.out.mono ?_;rintro e w1 ⟨rfl,rfl⟩)
   | fail)
  go_ret
  exact HF.out
theorem yMe(n c g:Nat)(y:HLay)(s:zAa)(w:World)(h:zAe w n c g y s) :
  Calls Tryz.prog 113 #[.pointer (some ⟨g,0,none⟩)] w fun e w'=>e=.returned (.int .i64 s.net.way.length)/\w'=w:=by
 have HM:=Hmq (yQe (y.lo n) g y.wv y.mr s.net w h.netP)
 clear h
 go_enter Tryz.func113,Tryz.ntmps113
 go_wp2_with (first
  | (go_at_call 171;refine HM.out.mono ?_;rintro e w1 ⟨rfl,rfl⟩)
  | fail)
 go_ret
 exact ⟨rfl,rfl⟩
def zEn(s:zAa)(k:Int):zAa × Int:=if hasB s.net k then ({ s with net:=yQg s.net k.toNat },0) else (s,2)
def zCe(s:zAa)(k:Int):zAa × Int:=match hasB s.net k,s.net.way[k.toNat]? with
 | true,some m=>if s.net.way.length<200 then ({ s with net:=zFe s.net m },0) else (s,4)
 | _,_=>(s,2)
theorem yMi{s:NetS}{k:Int}(h:hasB s k=true):∃ (i:Nat) (m:MsgD),k=i/\s.way[i]?=some m:=by
 unfold hasB at h
 simp only [Bool.and_eq_true,decide_eq_true_eq] at h
 exact ⟨k.toNat,_,by omega,List.getElem?_eq_getElem (by omega)⟩
theorem yMf(n c g:Nat)(y:HLay)(s:zAa)(k:Int)(w:World)(h:zAe w n c g y s)(hlo:s.net.lost+1<=4611686018427387904) :
  Calls Tryz.prog 54 #[.pointer (some ⟨g,0,none⟩),.int .i64 k] w (PutP w n c g y (zEn s k).1 (zEn s k).2):=by
 cases hk:hasB s.net k with
 | true=>
  obtain ⟨i,m,rfl,hm⟩:=yMi hk
  have HL:=Hmq (yQf (y.lo n) g y.wv y.mr s.net i m w h.netP hm hlo)
  have HE:Hid (zEn s i=({ s with net:=yQg s.net i },0)):=by unfold Hid zEn;rw [if_pos hk,Int.toNat_natCast]
  have HH:=Hmq h
  clear h
  go_enter Tryz.func54,Tryz.ntmps54
  go_wp2_with fail
  refine HL.out.mono ?_
  rintro e w1 ⟨wv',rfl,hN,hv,hmd⟩
  obtain ⟨hH,hS⟩:=HH.out.turnW hmd hN (.inl hv) (.inl rfl)
  have HF:Hid (PutP w n c g y (zEn s i).1 (zEn s i).2 (.returned .nilIface) w1):=by
   unfold Hid;rw [HE.out];exact ⟨by rw [zCc],_,hH,hS,rfl,rfl,rfl,rfl,rfl⟩
  clear hN hmd hH hS
  go_wp2_with fail
  go_ret
  exact HF.out
 | false=>
  have HL:=Hmq (ySy (y.lo n) g y.wv y.mr s.net k w h.netP hk)
  have HE:Hid (zEn s k=(s,2)):=by unfold Hid zEn;rw [if_neg (by rw [hk];simp)]
  have HH:=Hmq h
  clear h
  go_enter Tryz.func54,Tryz.ntmps54
  go_wp2_with fail
  refine HL.out.mono ?_
  rintro e w1 ⟨rfl,hmd⟩
  have HF:Hid (PutP w n c g y (zEn s k).1 (zEn s k).2 (.returned (.iface 25 (.int .i64 2))) w1):=by
   unfold Hid;rw [HE.out];exact ⟨by rw [zBa (by omega)],_,HH.out.quiet hmd,zAm.quiet hmd⟩
  clear hmd
  go_wp2_with fail
  go_ret
  exact HF.out
theorem yId(n c g:Nat)(y:HLay)(s:zAa)(k:Int)(w:World)(h:zAe w n c g y s)(hlo:s.net.lost+1<=4611686018427387904) :
  Calls Tryz.prog 59 #[.pointer (some ⟨g,0,none⟩),.int .i64 k] w (PutP w n c g y (zCe s k).1 (zCe s k).2):=by
 cases hk:hasB s.net k with
 | true=>
  obtain ⟨i,m,rfl,hm⟩:=yMi hk
  by_cases hr:s.net.way.length<200
  ·have HL:=Hmq (yKg (y.lo n) g y.wv y.mr s.net i m w h.netP hm hr hlo)
   have HE:Hid (zCe s i=({ s with net:=zFe s.net m },0)):=by unfold Hid zCe;rw [Int.toNat_natCast,hk,hm];simp only;rw [if_pos hr]
   have HH:=Hmq h
   clear h
   go_enter Tryz.func59,Tryz.ntmps59
   go_wp2_with fail
   refine HL.out.mono ?_
   rintro e w1 ⟨wv',rfl,hN,hv,hmd⟩
   obtain ⟨hH,hS⟩:=HH.out.turnW hmd hN hv (.inl rfl)
   have HF:Hid (PutP w n c g y (zCe s i).1 (zCe s i).2 (.returned .nilIface) w1):=by
    unfold Hid;rw [HE.out];exact ⟨by rw [zCc],_,hH,hS,rfl,rfl,rfl,rfl,rfl⟩
   clear hN hmd hH hS
   go_wp2_with fail
   go_ret
   exact HF.out
  ·have HL:=Hmq (yGs (y.lo n) g y.wv y.mr s.net i w h.netP hk hr)
   have HE:Hid (zCe s i=(s,4)):=by unfold Hid zCe;rw [Int.toNat_natCast,hk,hm];simp only;rw [if_neg hr]
   have HH:=Hmq h
   clear h
   go_enter Tryz.func59,Tryz.ntmps59
   go_wp2_with fail
   refine HL.out.mono ?_
   rintro e w1 ⟨rfl,hmd⟩
   have HF:Hid (PutP w n c g y (zCe s i).1 (zCe s i).2 (.returned (.iface 25 (.int .i64 4))) w1):=by
    unfold Hid;rw [HE.out];exact ⟨by rw [zBa (by omega)],_,HH.out.quiet hmd,zAm.quiet hmd⟩
   clear hmd
   go_wp2_with fail
   go_ret
   exact HF.out
 | false=>
  have HL:=Hmq (yOt (y.lo n) g y.wv y.mr s.net k w h.netP hk)
  have HE:Hid (zCe s k=(s,2)):=by unfold Hid zCe;rw [hk]
  have HH:=Hmq h
  clear h
  go_enter Tryz.func59,Tryz.ntmps59
  go_wp2_with fail
  refine HL.out.mono ?_
  rintro e w1 ⟨rfl,hmd⟩
  have HF:Hid (PutP w n c g y (zCe s k).1 (zCe s k).2 (.returned (.iface 25 (.int .i64 2))) w1):=by
   unfold Hid;rw [HE.out];exact ⟨by rw [zBa (by omega)],_,HH.out.quiet hmd,zAm.quiet hmd⟩
  clear hmd
  go_wp2_with fail
  go_ret
  exact HF.out
theorem zAe.turnH{w w':World}{n c g:Nat}{y:HLay}{s:zAa}(h:zAe w n c g y s){k b:Nat}(hk:k<s.lines.length)(hb:y.lbs[k]?=some b){m:Nat}(hm:Mod (zAd b) w w')(hB:Blk w' b [y.lnv b,.int .i64 m] 122) :
  zAe w' n c g y (setLine s k ⟨(s.line k).nodes,m⟩)/\zAm w y w' y:=by
 have own:=h.own
 have hbm:=List.mem_of_getElem? hb
 have hL:=h.line k b _ hb (zBj hk)
 have hq:Qm w (y.lo n) (zAd b):=fun z hz e=>by
  simp only [zAd] at e
  subst e
  rintro (e1 | ⟨⟨cur,fr,e1⟩,_⟩)
  ·have h9:=(own.lt z (by rw [(own.line z hbm).1];simp)).1
   have h8:z<n:=e1
   omega
  ·have:=hL.blk
   unfold Blk at this
   rw [this] at e1;simp at e1
 have ht:zKo w w' n y (fun t=>t=.line b):=⟨⟨_,hm,hq,fun z hz e=>by
  simp only [zAd] at e
  subst e
  exact ⟨(own.line z hbm).1,by rw [(own.line z hbm).1];simp⟩⟩⟩
 have hrb:(y.lnv b).ownBlock≠some b:=zBf hL.row hL.blk (by decide)
 refine ⟨⟨h.fMain ht (by simp),h.fNet ht (by simp),h.fDead ht (by simp),h.fTab ht (by simp),h.qn,h.fLrow ht (by simp),?_,fun i b' l hb' hl=>?_,h.fTrow ht (by simp),h.tlen,fun i b' t hb' hti=>h.fTx ht hb' hti (by simp),own.more hm.size⟩,⟨hm.mono (fun z hz e=>by simp only [zAd] at e;subst e;rw [(own.line z hbm).1];simp),fun _ _=>rfl⟩,rfl,rfl,rfl,rfl,rfl⟩
 ·show y.lbs.length=(s.lines.set k _).length
  rw [List.length_set];exact h.llen
 ·have hl':(s.lines.set k ⟨(s.line k).nodes,m⟩)[i]?=some l:=hl
  rw [zDn] at hl'
  by_cases e:i=k
  ·subst e
   rw [if_pos ⟨rfl,hk⟩] at hl';cases hl'
   rw [hb] at hb';cases hb'
   refine ⟨hB,zAn hL.row hm (fun z _ _ hz q=>hrb (by rw [hz];exact congrArg some q)),hL.len,fun j d x hd hx=>h.fNode ht hb (List.mem_of_getElem? hd) (hL.node j d x hd hx) (by simp)⟩
  ·rw [if_neg (fun q=>e q.1)] at hl'
   have hne:b'≠b:=fun q=>e (zKh own.lnd (q ▸ hb') hb)
   exact h.fLine ht hb' hl' (fun q=>hne (by simpa using q)) (fun d _=>by simp)
theorem zAe.sets{w:World}{n c g:Nat}{y:HLay}{s:zAa}(h:zAe w n c g y s){id k b ab cap:Nat}(x:Int)(h1:1<=id)(h2:id<=s.txs.length)(hb:y.tbs[id - 1]?=some b)(hk:k<(s.tx id).ats.length)(hav:y.tav b=.slice (some ⟨ab,0,none⟩) (s.tx id).ats.length cap) :
  ∃ y',zAe (w.setCell ⟨ab,k,none⟩ (.int .i64 x)) n c g y' (setTx s id { s.tx id with ats:=(s.tx id).ats.set k x })/\zAm w y (w.setCell ⟨ab,k,none⟩ (.int .i64 x)) y':=by
 have hT:=h.tx (id - 1) b _ hb (zIj h1 h2)
 have hrow:=hT.ats
 rw [hav] at hrow
 obtain ⟨r1,_,_⟩:=zXk (x:=x) hrow hk
 have r2:Mod (zAd ab) w (w.setCell ⟨ab,k,none⟩ (.int .i64 x)):=Mod.setBlk ab k _
 have hna:ab≠b:=fun e=>zBf hrow hT.blk (by decide) (by rw [e];rfl)
 have hne:∀ k,(y.twv b).ownBlock=some k->k≠ab:=fun k hk e=>by
  subst e
  obtain ⟨_,_,cur,hc1⟩:=zAi hT.wr hk
  obtain ⟨_,_,cur',hc2⟩:=zAi hrow rfl
  rw [hc1] at hc2;simp at hc2
 obtain ⟨hH1,hS1⟩:=h.turnT hb (zIj h1 h2) (t':={ s.tx id with ats:=(s.tx id).ats.set k x }) (av:=y.tav b) (wv:=y.twv b) (r2.mono (fun z _ e=>.inr (.inl (by rw [hav];exact congrArg some (Eq.symm e))))) (hT.blk.mod r2 (fun e=>hna (Eq.symm e))) (by rw [hav];exact r1) (zAn hT.wr r2 (fun k _ _ e q=>hne k e q)) (.inl (.inl rfl)) (.inl (.inl rfl))
 rw [zLz] at hH1
 exact ⟨_,hH1,hS1,rfl,rfl,rfl,rfl,rfl⟩
theorem zAe.timed{w:World}{n c g:Nat}{y:HLay}{s:zAa}(h:zAe w n c g y s){id b:Nat}(x:Int)(h1:1<=id)(h2:id<=s.txs.length)(hb:y.tbs[id - 1]?=some b) :
  ∃ y',zAe (w.setCell ⟨b,3,none⟩ (.int .i64 x)) n c g y' (setTx s id { s.tx id with time:=x })/\zAm w y (w.setCell ⟨b,3,none⟩ (.int .i64 x)) y':=by
 have hT:=h.tx (id - 1) b _ hb (zIj h1 h2)
 have r2:Mod (zAd b) w (w.setCell ⟨b,3,none⟩ (.int .i64 x)):=Mod.setBlk b 3 _
 have hna:=zBf hT.ats hT.blk (by decide)
 have hnw:=zBf hT.wr hT.blk (by decide)
 obtain ⟨hH1,hS1⟩:=h.turnT hb (zIj h1 h2) (t':={ s.tx id with time:=x }) (av:=y.tav b) (wv:=y.twv b) (r2.mono (fun z _ e=>.inl e)) (hT.blk.set 3 _) (zAn hT.ats r2 (fun k _ _ e q=>hna (by rw [e];exact congrArg some q))) (zAn hT.wr r2 (fun k _ _ e q=>hnw (by rw [e];exact congrArg some q))) (.inl (.inl rfl)) (.inl (.inl rfl))
 rw [zLz] at hH1
 exact ⟨_,hH1,hS1,rfl,rfl,rfl,rfl,rfl⟩
theorem yIj(n c g:Nat)(y:HLay)(s:zAa)(k:Nat)(cm:CmdD)(u:Value)(w:World)(h:zAe w n c g y s)(hs:zGd s)(hc:c<=10000)(hk:k<s.lines.length)(ht:1<=cm.tx/\cm.tx<=(s.txs.length:Int)) :
  Calls Tryz.prog 188 #[.pointer (some ⟨g,0,none⟩),.int .i64 k,.agg #[.int .i64 cm.kind,.int .i64 cm.tx,.int .i64 cm.time,u]] w fun e w'=>e=.returned (.tuple #[])/\∃ y',zAe w' n c g y' (zBx s k cm)/\zAm w y w' y':=by
 obtain ⟨kind,tx,time,ws⟩:=cm
 dsimp only at ht ⊢
 obtain ⟨id,rfl⟩:∃ i:Nat,tx=i:=⟨tx.toNat,by omega⟩
 have hi1:1<=id:=by omega
 have hi2:id<=s.txs.length:=by omega
 have htl:=hs.tl
 have hll:=hs.ll
 obtain ⟨w1,hw1⟩:∃ z,z=w.alloc (.cells #[.int .i64 kind,.int .i64 id,.int .i64 time,u] 108):=⟨_,rfl⟩
 have hm1:Mod zAb w w1:=by rw [hw1];exact (Mod.refl _ w).alloc _
 have hb1:Blk w1 w.heap.size [.int .i64 kind,.int .i64 id,.int .i64 time,u] 108:=by rw [hw1];exact Blk.new w _ _
 have h1:=h.quiet hm1
 obtain ⟨b,hb,hT⟩:=h1.txQ hi1 hi2
 have HTX:=Hmq (zHy n c g y s id b w1 h1 hi1 (by omega) hb)
 have HDE:=Hmq (zKk n c g y s w1 h1 (by omega) (by omega))
 have x0:=hb1.cell 0 rfl
 have x1:=hb1.cell 1 rfl
 have x2:=hb1.cell 2 rfl
 have HNB:Hid (y.own w.heap.size=.no):=by
  by_cases e:y.own w.heap.size=.no
  ·exact e
  ·have:=(h.own.lt _ e).2;omega
 have HB1:=Hmq hb1
 have HM1:=Hmq hm1
 have HH1:=Hmq h1
 by_cases hd:k=decH s
 ·have hdb:((k:Int) == (decH s:Int))=true:=by rw [beq_iff_eq];omega
  obtain ⟨y2,hH2,hK2⟩:=h1.timed time hi1 hi2 hb
  obtain ⟨w2,hw2⟩:∃ z,z=w1.setCell ⟨b,3,none⟩ (.int .i64 time):=⟨_,rfl⟩
  rw [<-hw2] at hH2 hK2
  have t3:=hT.blk.cell 3 rfl
  have f3:=hT.blk.frozen 3
  have zb:=hT.blk.lt
  have hb2:=hK2.st.blk hb1 HNB.out
  have z1:=hb2.cell 1 rfl
  have HFI:=Hmq (zPw n c g y2 _ id 3 w2 hH2 hi1 (by rw [zBd];exact hi2) (by rw [zBd];exact htl) hc)
  have HFO:Hid (zBx s k ⟨kind,id,time,ws⟩=zDe (setTx s id { s.tx id with time:=time }) id 3):=by unfold Hid zBx;rw [if_pos hd,Int.toNat_natCast]
  have HK:=Hmq ((zAm.quiet hm1).trans hK2)
  clear h h1 hb hT hb1 hm1 hH2 hK2 hb2 hd
  go_enter Tryz.func188,Tryz.ntmps188
  go_upto_region 1 with fail
  rw [<-hw1]
  clear hw1
  go_upto_region 3 with (first
   | (go_at_call 72;refine HTX.out.mono ?_;rintro e w5 ⟨rfl,rfl⟩)
   | (go_at_call 98;refine HDE.out.mono ?_;rintro e w6 ⟨rfl,rfl⟩)
   | fail)
  go_upto_region 4 with fail
  rw [<-hw2]
  clear hw2 t3 f3 x0 x1 x2
  go_wp2_with (first
   | (go_at_call 138;refine HFI.out.mono ?_;rintro e w7 ⟨rfl,y7,hH7,hK7⟩;(have HF:Hid (∃ y',zAe w7 n c g y' (zBx s k ⟨kind,id,time,ws⟩)/\zAm w y w7 y'):=⟨y7,by rw [HFO.out];exact hH7,HK.out.trans hK7⟩);clear hH7 hK7)
   | fail)
  go_end0
  exact ⟨rfl,HF.out⟩
 ·have hdb:((k:Int) == (decH s:Int))=false:=by rw [beq_eq_false_iff_ne];omega
  by_cases hp:kind=2
  ·have hpb:(kind == 2)=true:=by simpa using hp
   have hats:(s.tx id).ats.length=s.lines.length:=hs.ta _ (zNm hi1 hi2)
   obtain ⟨ab,acap,hav⟩:∃ ab acap,y.tav b=.slice (some ⟨ab,0,none⟩) (s.tx id).ats.length acap:=by
    rcases hT.ats.2 with ⟨e,h0⟩ | ⟨g',cap',cur,e,_⟩
    ·omega
    ·exact ⟨g',cap',e⟩
   have hkl:k<(s.tx id).ats.length:=by omega
   obtain ⟨y2,hH2,hK2⟩:=h1.sets 2 hi1 hi2 hb hkl hav
   have t1:=hT.blk.cell 1 rfl
   have hrow:=hT.ats
   rw [hav] at t1 hrow
   obtain ⟨_,⟨u0,a0⟩,f0⟩:=zXk (x:=2) hrow hkl
   have zb:=hT.blk.lt
   have HF:Hid (∃ y',zAe (w1.setCell ⟨ab,k,none⟩ (.int .i64 2)) n c g y' (zBx s k ⟨kind,id,time,ws⟩)/\zAm w y (w1.setCell ⟨ab,k,none⟩ (.int .i64 2)) y'):=by
    refine ⟨y2,?_,(zAm.quiet hm1).trans hK2⟩
    unfold zBx;rw [if_neg hd,if_pos hp,Int.toNat_natCast];exact hH2
   have hkI:(k:Int)<((s.tx id).ats.length:Int):=by omega
   have hk0:(0:Int)<=(k:Int):=by omega
   clear h h1 hb hT hb1 hm1 hH2 hK2 hd hp hav hrow hats
   go_enter Tryz.func188,Tryz.ntmps188
   go_upto_region 1 with fail
   rw [<-hw1]
   clear hw1
   go_wp2_with (first
    | (go_at_call 72;refine HTX.out.mono ?_;rintro e w5 ⟨rfl,rfl⟩)
    | (go_at_call 98;refine HDE.out.mono ?_;rintro e w6 ⟨rfl,rfl⟩)
    | fail)
   go_end0
   exact ⟨rfl,HF.out⟩
  ·have hpb:(kind == 2)=false:=by simpa using hp
   have HF:Hid (∃ y',zAe w1 n c g y' (zBx s k ⟨kind,id,time,ws⟩)/\zAm w y w1 y'):=by
    refine ⟨y,?_,zAm.quiet hm1⟩
    unfold zBx;rw [if_neg hd,if_neg hp];exact h1
   clear h h1 hb hT hb1 hm1 hd hp
   go_enter Tryz.func188,Tryz.ntmps188
   go_upto_region 1 with fail
   rw [<-hw1]
   clear hw1
   go_wp2_with (first
    | (go_at_call 72;refine HTX.out.mono ?_;rintro e w5 ⟨rfl,rfl⟩)
    | (go_at_call 98;refine HDE.out.mono ?_;rintro e w6 ⟨rfl,rfl⟩)
    | fail)
   go_end0
   exact ⟨rfl,HF.out⟩
structure zLw(s s':zAa):Prop where
 ll:s'.lines.length=s.lines.length
 nodes:∀ k,(s'.line k).nodes=(s.line k).nodes
 d:s'.dead=s.dead
 net:s'.net=s.net
 len:s'.txs.length=s.txs.length
 at_:∀ j,(s'.tx j).ats.length=(s.tx j).ats.length
theorem zLw.refl(s:zAa):zLw s s:=⟨rfl,fun _=>rfl,rfl,rfl,rfl,fun _=>rfl⟩
theorem zLw.trans{a b c:zAa}(h:zLw a b)(k:zLw b c):zLw a c:=⟨k.ll.trans h.ll,fun i=>(k.nodes i).trans (h.nodes i),k.d.trans h.d,k.net.trans h.net,k.len.trans h.len,fun j=>(k.at_ j).trans (h.at_ j)⟩
theorem zBk.toN{s s':zAa}(h:zBk s s'):zLw s s':=⟨by rw [h.l],fun k=>by unfold zAa.line;rw [h.l],h.d,h.net,h.len,h.at_⟩
theorem zBk.follow(s:zAa)(k:Nat)(c:CmdD):zBk s (zBx s k c):=by
 unfold zBx
 split
 ·exact (zBk.setTx s c.tx.toNat { s.tx c.tx.toNat with time:=c.time } rfl).trans (zBk.finish _ _ _)
 ·split
  ·exact zBk.setTx s _ _ (by simp)
  ·exact zBk.refl s
theorem zYj(s:zAa)(k:Nat)(c:CmdD)(h:∀ t∈s.txs,t.writes.length<=20):∀ t∈(zBx s k c).txs,t.writes.length<=20:=by
 unfold zBx
 split
 ·exact zOp _ _ _ (zGg s _ _ h (zIi h _))
 ·split
  ·exact zGg s _ _ h (zIi h _)
  ·exact h
theorem zOi(s:zAa)(k:Nat)(l:zCs)(i:Nat)(hk:k<s.lines.length):(setLine s k l).line i=if i=k then l else s.line i:=by
 unfold zAa.line setLine
 rw [List.getD_eq_getElem?_getD,zDn]
 by_cases e:i=k
 ·subst e;rw [if_pos ⟨rfl,hk⟩,if_pos rfl];rfl
 ·rw [if_neg (fun q=>e q.1),if_neg e,List.getD_eq_getElem?_getD]
theorem zKe(s:zAa)(k:Nat)(c:CmdD)(hk:k<s.lines.length):zLw s (hearOne k s c):=by
 have h1:=(zBk.follow s k c).toN
 have hk1:k<(zBx s k c).lines.length:=by rw [h1.ll];exact hk
 refine h1.trans ⟨by simp [hearOne,setLine],fun i=>?_,rfl,rfl,rfl,fun _=>rfl⟩
 show ((setLine (zBx s k c) k _).line i).nodes=_
 rw [zOi _ _ _ _ hk1]
 by_cases e:i=k
 ·rw [if_pos e,e]
 ·rw [if_neg e]
theorem zNf(k:Nat):∀ (cs:List CmdD) (s:zAa),k<s.lines.length->zLw s (cs.foldl (hearOne k) s)
 | [],s,_=>zLw.refl s
 | c :: cs,s,hk=>(zKe s k c hk).trans (zNf k cs _ (by rw [(zKe s k c hk).ll];exact hk))
theorem zLm(k:Nat):∀ (cs:List CmdD) (s:zAa),(∀ t∈s.txs,t.writes.length<=20)->∀ t∈(cs.foldl (hearOne k) s).txs,t.writes.length<=20
 | [],_,h=>h
 | c :: cs,s,h=>zLm k cs _ (zYj s k c h)
theorem zLw.shape{s s':zAa}(h:zLw s s')(hs:zGd s)(hw:∀ t∈s'.txs,t.writes.length<=20):zGd s':=by
 refine ⟨by rw [h.ll];exact hs.ll,fun l hl=>?_,by rw [h.len];exact hs.tl,fun t ht=>?_,hw⟩
 ·obtain ⟨i,hi⟩:=List.getElem?_of_mem hl
  have hil:i<s'.lines.length:=(List.getElem?_eq_some_iff.1 hi).1
  have e1:s'.line i=l:=by
   have:=zBj hil
   rw [hi] at this
   exact (Option.some.inj this).symm
  have:=h.nodes i
  rw [e1] at this
  rw [this]
  exact hs.nl _ (zMg (by rw [h.ll] at hil;exact hil))
 ·obtain ⟨i,hi⟩:=List.getElem?_of_mem ht
  have hil:i<s'.txs.length:=(List.getElem?_eq_some_iff.1 hi).1
  have e1:s'.tx (i+1)=t:=by
   have:=zIj (s:=s') (id:=i+1) (by omega) (by omega)
   rw [Nat.add_sub_cancel,hi] at this
   exact (Option.some.inj this).symm
  have:=h.at_ (i+1)
  rw [e1] at this
  rw [this,h.ll]
  exact hs.ta _ (zNm (by omega) (by rw [h.len] at hil;omega))
def zIf(s:zAa)(m:Nat):zAa:=(List.range m).foldl zMx s
theorem zMj(s:zAa)(m:Nat):zIf s (m+1)=zMx (zIf s m) m:=by unfold zIf;rw [List.range_succ,List.foldl_append];rfl
theorem zKi(k:Nat):∀ (cs:List CmdD) (s:zAa),k<s.lines.length->∀ i,((cs.foldl (hearOne k) s).line i).heard=if i=k then (s.line k).heard+cs.length else (s.line i).heard
 | [],s,_,i=>by
  by_cases e:i=k
  ·subst e;simp
  ·simp [e]
 | c :: cs,s,hk,i=>by
  have h1:=zKe s k c hk
  have hf:=zBk.follow s k c
  have hk1:k<(zBx s k c).lines.length:=by rw [hf.l];exact hk
  have hl:∀ j,(hearOne k s c).line j=if j=k then ⟨((zBx s k c).line k).nodes,((zBx s k c).line k).heard+1⟩ else (zBx s k c).line j:=fun j=>zOi _ _ _ _ hk1
  have hfl:∀ j,(zBx s k c).line j=s.line j:=fun j=>by unfold zAa.line;rw [hf.l]
  rw [List.foldl_cons,zKi k cs _ (by rw [h1.ll];exact hk),hl,hl]
  by_cases e:i=k
  ·rw [if_pos e,if_pos e,if_pos rfl,hfl];simp;omega
  ·rw [if_neg e,if_neg e,if_neg e,hfl]
theorem zNg(s:zAa):∀ m,m<=s.lines.length->zLw s (zIf s m)/\(∀ i,m<=i->((zIf s m).line i).heard=(s.line i).heard)/\((∀ t∈s.txs,t.writes.length<=20)->∀ t∈(zIf s m).txs,t.writes.length<=20)
 | 0,_=>⟨zLw.refl s,fun _ _=>rfl,fun h=>h⟩
 | m+1,hm=>by
  obtain ⟨h1,h2,h3⟩:=zNg s m (by omega)
  have hk:m<(zIf s m).lines.length:=by rw [h1.ll];omega
  rw [zMj]
  refine ⟨h1.trans (zNf m _ _ hk),fun i hi=>?_,fun h=>zLm m _ _ (h3 h)⟩
  unfold zMx
  rw [zKi m _ _ hk,if_neg (by omega)]
  exact h2 i (by omega)
theorem yHq{s:zAa}{m:Nat}(hm:m<=s.lines.length):zGb (zIf s m) m=zGb s m:=by
 obtain ⟨h1,h2,_⟩:=zNg s m hm
 unfold zGb zGe
 rw [h1.nodes,h2 m (Nat.le_refl _)]
def ySe(s:zAa):Prop:=∀ k,k<s.lines.length->(s.line k).heard<=(zGe s k).log.length/\∀ c∈zGb s k,1<=c.tx/\c.tx<=(s.txs.length:Int)
end Go.Proofs.YtogaigioeohjaaaGreatDoor
