import Derived.Test.YtogaigioeohjaaaGreatDoorD33
set_option linter.unusedVariables false
set_option maxRecDepth 100000
set_option maxHeartbeats 16000000
namespace Go.Proofs.YtogaigioeohjaaaGreatDoor
open Go.RowKit Go.Lib Go.Maps
def zMp(s:zAa)(m:Nat):zAa:=(List.range m).foldl tellAt s
theorem zUu(s:zAa)(m:Nat):zMp s (m+1)=tellAt (zMp s m) m:=by unfold zMp;rw [List.range_succ,List.foldl_append];rfl
theorem yHc{s:zAa}(h:Safe s):∀ m,m<=s.lines.length->Safe (zMp s m)/\zCk s (zMp s m)/\(zMp s m).net.lost<=s.net.lost+m*s.txs.length:=by
 intro m
 induction m with
 | zero=>exact fun _=>⟨h,zCk.refl s,by simp [zMp]⟩
 | succ m ih=>
  intro hm
  rw [zUu]
  obtain ⟨a,b,c⟩:=ih (by omega)
  obtain ⟨a',b',_⟩:=zRt a (k:=m) (by rw [b.mv.ll];omega)
  obtain ⟨_,d',_⟩:=zRs (zMp s m) m
  refine ⟨a',b.trans b',?_⟩
  rw [b.mv.tl] at d'
  have e:((m+1:Nat):Int)*(s.txs.length:Int)=(m:Int)*(s.txs.length:Int)+(s.txs.length:Int):=by
   rw [show ((m+1:Nat):Int)=(m:Int)+1 by omega,Int.add_mul,Int.one_mul]
  rw [e];omega
def telT(s:zAa)(k j:Nat):zAa:=((List.range j).map (·+1)).foldl (fun h id=>tell1 h k (zAp s k).log id) s
theorem zZg(s:zAa)(k j:Nat):telT s k (j+1)=tell1 (telT s k j) k (zAp s k).log (j+1):=by unfold telT;rw [List.range_succ,List.map_append,List.foldl_append];rfl
theorem yKn{s:zAa}(h:Safe s){k:Nat}(hk:k<s.lines.length)(hv:zAu s (zAp s k)=true):∀ j,j<=s.txs.length->yEt s (telT s k j) k j/\(telT s k j).net.lost<=s.net.lost+j:=by
 intro j
 induction j with
 | zero=>exact fun _=>⟨⟨h,zCk.refl s,⟨[],by simp [telT],by simp⟩,fun id i1 i2=>by omega,fun _ _=>rfl,hv⟩,by simp [telT]⟩
 | succ j ih=>
  intro hj
  rw [zZg]
  obtain ⟨a,b⟩:=ih (by omega)
  have c:=zUv (telT s k j) k (zAp s k).log (j+1)
  exact ⟨a.step hk (by omega),by omega⟩
theorem yCx{s:zAa}(h:Safe s){k:Nat}(hk:k<s.lines.length)(hv:zAu s (zAp s k)=true):tellAt s k=telT s k s.txs.length:=by
 unfold tellAt
 cases hh:zOl s k with
 | none=>rw [yBd h hk hh] at hv;cases hv
 | some n=>obtain ⟨rfl,_⟩:=zSv h hk hh;rfl
theorem yCy{s:zAa}(h:Safe s){k:Nat}(hk:k<s.lines.length)(hv:zAu s (zAp s k)=false):tellAt s k=s:=by
 unfold tellAt
 cases hh:zOl s k with
 | none=>rfl
 | some n=>obtain ⟨rfl,e⟩:=zSv h hk hh;rw [hv] at e;cases e
theorem DueP.out{w w':World}{r:Option CmdD}{e:Ending}(h:DueP w w' r e):∃ (d:CmdD) (u:Value) (ok:Bool),e=.returned (.tuple #[.agg #[.int .i64 d.kind,.int .i64 d.tx,.int .i64 d.time,u],.bool ok])/\w'.ownsRow w.heap.size 65 3 u d.writes.length (zBp d.writes)/\r=(if ok then some d else none)/\Mod zAb w w':=h
theorem yRd{s:zAa}(h:Safe s){id k:Nat}(h1:1<=id)(h2:id<=s.txs.length)(hk:k<s.lines.length){c:CmdD}{time:Int}(ht:1<=time/\time<=501)(hd:dueH s id k time=some c):zYi c:=by
 have hx:=h.tx id h1 h2
 have htl:=h.tl
 have i0:zBc (0:Int):=by unfold zBc;omega
 have i2:zBc (2:Int):=by unfold zBc;omega
 have i3:zBc (3:Int):=by unfold zBc;omega
 have i4:zBc (4:Int):=by unfold zBc;omega
 have ii:zBc (id:Int):=by unfold zBc;omega
 unfold dueH at hd
 simp only at hd
 split at hd
 ·split at hd
  ·cases hd;exact ⟨⟨i3,ii,show zBc time by unfold zBc;omega⟩,by simp⟩
  ·cases hd
 ·split at hd
  ·cases hd
  ·split at hd
   ·cases hd
    refine ⟨⟨i2,ii,i0⟩,?_⟩
    have:(zDu s (s.tx id) k).length<=(s.tx id).writes.length:=List.length_filter_le _ _
    have:=hx.few.1
    show (zDu s (s.tx id) k).length<=40
    omega
   ·split at hd
    ·cases hd
     have:=hx.tm
     exact ⟨⟨i3,ii,show zBc (s.tx id).time by unfold zBc;omega⟩,by simp⟩
    ·split at hd
     ·cases hd;exact ⟨⟨i4,ii,i0⟩,by simp⟩
     ·cases hd
theorem zXa(n c g:Nat)(y:HLay)(s:zAa)(w:World)(h:zAe w n c g y s)(hS:Safe s)(hlo:s.net.lost+300<=4611686018427387904) :
  Calls Tryz.prog 86 #[.pointer (some ⟨g,0,none⟩)] w fun e w'=>e=.returned (.tuple #[])/\∃ y',zAe w' n c g y' (zEe s)/\zAm w y w' y':=by
 obtain ⟨c0,-⟩:=blkH h.blk
 obtain ⟨la,lcap,hlv⟩:=zAg h.lrow
 have hll:=hS.ll
 have htl:=hS.tl
 have hlen:=h.llen
 rw [hlv,hlen] at c0
 have hLT:(s.lines.length:Int)*(s.txs.length:Int)<=300:=by
  have h1:s.lines.length*s.txs.length<=5*60:=Nat.mul_le_mul hll.2 htl
  have:((s.lines.length*s.txs.length:Nat):Int)<=300:=by omega
  simpa using this
 have HLV:Hid (y.lv=.slice la s.lines.length lcap):=by unfold Hid;rw [hlv,hlen]
 have HH:=Hmq h
 have HS:=Hmq hS
 have HLT:=Hmq hLT
 clear h hS hlv hLT
 go_enter Tryz.func86,Tryz.ntmps86
 go_wp2_with fail
 go_loopw [17] (fun k0 wr=>∃ (k:Nat) (yr:HLay),k<=s.lines.length/\k0=.int .i64 k/\zAe wr n c g yr (zMp s k)/\zAm w y wr yr) (fun k0 _=>s.lines.length - (intOf k0).toNat)
 case atStart=>exact ⟨0,y,Nat.zero_le _,rfl,HH.out,zAm.refl _ _⟩
 case round=>
  obtain ⟨k,yr,hkl,rfl,hH,hK⟩:=hrel
  obtain ⟨wo,hwo⟩:∃ x,x=wr:=⟨_,rfl⟩
  subst hwo
  by_cases hlt:k<s.lines.length
  ·obtain ⟨tS,tT,tL⟩:=yHc HS.out k hkl
   have hkT:(zMp s k).net.lost+s.txs.length<=4611686018427387904:=by
    have:((k:Int)+1)*(s.txs.length:Int)<=(s.lines.length:Int)*(s.txs.length:Int):=Int.mul_le_mul_of_nonneg_right (by omega) (by omega)
    rw [Int.add_mul,Int.one_mul] at this
    have:=HLT.out
    omega
   have hSU:=zUu s k
   have hTl:(zMp s k).txs.length=s.txs.length:=tT.mv.tl
   have hk':k<(zMp s k).lines.length:=by rw [tT.mv.ll];exact hlt
   have HSU:=Hmq hSU
   clear hSU tT tL
   generalize zMp s k=S at hH tS hkT hTl hk' HSU
   obtain ⟨b,hb,hL⟩:=hH.lineQ hk'
   obtain ⟨d,hd,x,hx,hNq⟩:=hL.nodeQ (j:=0) (by have:=List.length_pos_iff.2 (tS.line k hk').ne;omega)
   have hx0:x=zAp S k:=by
    have:=tS.head hk'
    rw [hx] at this
    exact Option.some.inj this
   subst hx0
   have hst:yr.st S d=zAp S k:=hH.st_eq hb (zBj hk') hd hx
   have HHD:=Hmq (yBa n c g yr S k b d wo hH hk' hb hd)
   rw [hst] at HHD
   have hkI:(k:Int)<(s.lines.length:Int):=by omega
   have hk0:(0:Int)<=(k:Int):=by omega
   have HHo:=Hmq hH
   have HKo:=Hmq hK
   have HB:=Hmq hb
   have HD:=Hmq hd
   have HTS:=Hmq tS
   have HKK:=Hmq hk'
   clear hH hK hL hb hd hx hNq tS hst hk'
   cases hv:zAu S (zAp S k) with
   | false=>
    rw [hv] at HHD
    have HE:Hid (zMp s (k+1)=S):=by unfold Hid;rw [HSU.out,yCy HTS.out HKK.out hv]
    clear hv
    go_upto_region 4 with (first
     | (go_at_call 114;refine HHD.out.mono ?_;rintro e w1 ⟨rfl,hm1⟩)
     | fail)
    have HF:Hid (zAe w1 n c g yr (zMp s (k+1))/\zAm w y w1 yr):=⟨by rw [HE.out];exact HHo.out.quiet hm1,HKo.out.trans (zAm.quiet hm1)⟩
    clear hm1
    go_wp2_with fail
    go_roundw
    case rel=>exact ⟨k+1,yr,by omega,by go_num,HF.out.1,HF.out.2⟩
    case measure=>simp [intOf];omega
   | true=>
    rw [hv] at HHD
    have hfew:(zAp S k).log.length<=305:=(HTS.out.log k HKK.out).few HTS.out.tl
    have HLG:Hid (∀ wq,Mod zAb wo wq->Calls Tryz.prog 91 #[.pointer (some ⟨d,0,none⟩)] wq fun e w'=>∃ v,e=.returned v/\RowC w' (yr.lo n) v (zAp S k).log/\zCr wq v/\Mod zAb wq w'):=fun wq hq=>by
     have hN:=(HHo.out.quiet hq).nodeB HB.out (List.mem_of_getElem? HD.out)
     have hst:yr.st S d=zAp S k:=HHo.out.st_eq HB.out (zBj HKK.out) HD.out (HTS.out.head HKK.out)
     rw [hst] at hN
     exact zRe _ _ _ _ _ _ hN
    have HV:=Hmq hv
    clear hv
    go_upto_region 5 with (first
     | (go_at_call 114;refine HHD.out.mono ?_;rintro e w1 ⟨rfl,hm1⟩)
     | fail)
    have HLG1:=Hmq (HLG.out w1 hm1)
    have HM1:=Hmq hm1
    clear hm1 HHD
    go_upto_region 6 with (first
     | (go_at_call 91;refine HLG1.out.mono ?_;rintro e w2 ⟨v,rfl,hrc,hfv,hm2⟩;obtain ⟨va,vc,hva⟩:=hrc.slice;subst hva)
     | fail)
    have hm02:Mod zAb wo w2:=HM1.out.trans hm2
    have hcf:yJq w2 yr (.slice va (zAp S k).log.length vc) (zAp S k).log:=by
     refine ⟨hrc.toV,.inr fun z hz=>?_⟩
     have hz2:=hfv z hz
     have hz1:=HM1.out.size
     obtain ⟨us,_,h3,_⟩:=hrc
     refine ⟨?_,(zAi h3 hz).2.1⟩
     exact Classical.byContradiction fun e=>by have:=(HHo.out.own.lt z e).2;omega
    have HCF:=Hmq hcf
    have HH2:=Hmq (HHo.out.quiet hm02)
    have HK2:=Hmq (HKo.out.trans (zAm.quiet hm02))
    clear hrc hfv hm2 hm02 hcf HLG HLG1 HM1
    go_wp2_with fail
    go_loopw [6] (fun j0 wi=>∃ (j:Nat) (yi:HLay),j<=s.txs.length/\j0=.int .i64 ((j:Int)+1)/\zAe wi n c g yi (telT S k j)/\zAm w y wi yi/\zAm w2 yr wi yi) (fun j0 _=>s.txs.length+1 - (intOf j0).toNat)
    case atStart=>exact ⟨0,yr,Nat.zero_le _,rfl,HH2.out,HK2.out,zAm.refl _ _⟩
    case round=>
     obtain ⟨j,yi,hjl,rfl,hHi,hKi,hKr⟩:=hrel
     obtain ⟨wi,hwi⟩:∃ x,x=wr:=⟨_,rfl⟩
     subst hwi
     obtain ⟨tI,tL⟩:=yKn HTS.out HKK.out HV.out j (by rw [hTl];exact hjl)
     have hSU2:=zZg S k j
     have HSU2:=Hmq hSU2
     have hAll:=yCx HTS.out HKK.out HV.out
     rw [hTl] at hAll
     have HAll:=Hmq hAll
     clear hSU2 hAll
     obtain ⟨-,-,-,-,-,-,c6⟩:=blkH hHi.blk
     obtain ⟨ta,tcap,htv⟩:=zAg hHi.trow
     have htlen:yi.tbs.length=s.txs.length:=by rw [hHi.tlen,tI.tells.mv.tl,hTl]
     rw [htv,htlen] at c6
     by_cases hjlt:j<s.txs.length
     ·have hjI:(j:Int)+1<=(s.txs.length:Int):=by omega
      generalize hRR:telT S k j=R at hHi tI tL HSU2
      have hkR:k<R.lines.length:=by rw [tI.tells.mv.ll];exact HKK.out
      have hRT:R.txs.length=s.txs.length:=by rw [tI.tells.mv.tl,hTl]
      have hbi:yi.lbs[k]?=some b:=by rw [hKr.l];exact HB.out
      have hdi:(yi.nbs b)[0]?=some d:=by rw [hKr.n];exact HD.out
      have hRS:=tI.safe
      have hRf:(zAp R k).log.length<=305:=(hRS.log k hkR).few hRS.tl
      have hsti:yi.st R d=zAp R k:=hHi.st_eq hbi (zBj hkR) hdi (hRS.head hkR)
      have hNi:=hHi.nodeB hbi (List.mem_of_getElem? hdi)
      rw [hsti] at hNi
      have HLE:=Hmq (zYp _ _ _ _ _ _ hNi)
      have ejj:((j+1:Nat):Int)=(j:Int)+1:=by omega
      have HDU:=Hmq (yTl n c g yi R (j+1) k ((zAp R k).log.length+1) wi hHi hRS.shape (by omega) (by omega) hkR (hRS.tx (j+1) (by omega) (by omega)).few.2)
      rw [ejj] at HDU
      have HHi:=Hmq hHi
      have HKi:=Hmq hKi
      have HKr:=Hmq hKr
      have HRS:=Hmq hRS
      have HBi:=Hmq hbi
      have HDi:=Hmq hdi
      have HNi:=Hmq hNi
      have HTL:Hid (R.net.lost<=S.net.lost+j):=tL
      have HPL0:Hid (∀ kind wq,zFi w2 yr wq yi->Calls Tryz.prog 145 #[.slice va (zAp S k).log.length vc,.int .i64 kind,.int .i64 ((j:Int)+1)] wq fun e w'=>e=.returned (.int .i64 (idxI (zDl (zAp S k).log kind ((j:Int)+1))))/\Mod zAb wq w'):=fun kind wq hq=>zPv _ _ kind _ wq (HCF.out.keep hq).1 (by omega)
      clear hHi hKi hKr hbi hdi hNi hsti tI tL hRS htv htlen hRR
      go_upto_region 10 with (first
       | (go_at_call 112;refine HLE.out.mono ?_;rintro e w3 ⟨rfl,rfl⟩)
       | (go_at_call 144;refine HDU.out.mono ?_;rintro e w4 hdue;obtain ⟨dc,u,ok,rfl,hrow,hres,hm4⟩:=hdue.out;obtain ⟨ua,uc,hua⟩:=zAg hrow;subst hua)
       | fail)
      obtain ⟨w5,hw5⟩:∃ z,z=w4.alloc (.cells #[.int .i64 dc.kind,.int .i64 dc.tx,.int .i64 dc.time,.slice ua dc.writes.length uc] 108):=⟨_,rfl⟩
      rw [<-hw5]
      have hm45:Mod zAb w4 w5:=by rw [hw5];exact (Mod.refl _ w4).alloc _
      have hb5:Blk w5 w4.heap.size [.int .i64 dc.kind,.int .i64 dc.tx,.int .i64 dc.time,.slice ua dc.writes.length uc] 108:=by rw [hw5];exact Blk.new w4 _ _
      have hm35:Mod zAb w3 w5:=hm4.trans hm45
      have hz4:=hm4.size
      have x0:=hb5.cell 0 rfl
      have HH5:=Hmq (HHi.out.quiet hm35)
      have HK5:=Hmq (HKi.out.trans (zAm.quiet hm35))
      have HR5:=Hmq (HKr.out.trans (zAm.quiet hm35))
      have HRow:=Hmq (zAn hrow hm45 (fun _ _ _ _=>id))
      have HB5:=Hmq hb5
      have HM35:=Hmq hm35
      have HRes:=Hmq hres
      clear hw5 hm4 hm45 hb5 hm35 hrow hres HDU HLE
      have HDR:Hid (∀ R',tell1 R k (zAp S k).log (j+1)=R'->telT S k (j+1)=R'):=fun R' e=>by rw [HSU2.out];exact e
      cases ok with
      | false=>
       have HF:Hid (telT S k (j+1)=R):=HDR.out _ (by
        unfold tell1
        rw [HRes.out];rfl)
       clear HRes
       go_wp2_with fail
       go_roundw
       case rel=>exact ⟨j+1,yi,by omega,by go_num,by rw [HF.out];exact HH5.out,HK5.out,HR5.out⟩
       case measure=>simp [intOf];omega
      | true=>
       have HPL:=Hmq (HPL0.out dc.kind w5 HR5.out.st)
       cases hpc:zDl (zAp S k).log dc.kind ((j:Int)+1) with
       | some i=>
        rw [hpc] at HPL
        have hi0:decide ((i:Int)<0)=false:=decide_eq_false (by omega)
        have HF:Hid (telT S k (j+1)=R):=HDR.out _ (by
         unfold tell1
         rw [HRes.out]
         show (if (zDl (zAp S k).log dc.kind ((j+1:Nat):Int)).isNone=true then _ else _)=_
         rw [ejj,hpc];rfl)
        clear HRes hpc
        go_wp2_with (first
         | (go_at_call 145;refine HPL.out.mono ?_;rintro e w6 ⟨rfl,hm6⟩;simp only [idxI])
         | fail)
        have HF2:Hid (zAe w6 n c g yi (telT S k (j+1))/\zAm w y w6 yi/\zAm w2 yr w6 yi):=⟨by rw [HF.out];exact HH5.out.quiet hm6,HK5.out.trans (zAm.quiet hm6),HR5.out.trans (zAm.quiet hm6)⟩
        clear hm6
        go_wp2_with fail
        go_roundw
        case rel=>exact ⟨j+1,yi,by omega,by go_num,HF2.out.1,HF2.out.2.1,HF2.out.2.2⟩
        case measure=>simp [intOf];omega
       | none=>
        rw [hpc] at HPL
        have hdue:dueH R (j+1) k ((zAp R k).log.length+1)=some dc:=HRes.out
        have hgc:=yRd HRS.out (by omega) (by omega) hkR (by omega) hdue
        have HF:Hid (telT S k (j+1)=zLb (setNode R k 0 (zFo (zAp R k) dc).1) (zFo (zAp R k) dc).2):=HDR.out _ (by
         unfold tell1
         rw [hdue]
         show (if (zDl (zAp S k).log dc.kind ((j+1:Nat):Int)).isNone=true then addH R k dc else _)=_
         rw [ejj,hpc]
         show addH R k dc=_
         unfold addH
         rw [HRS.out.add hkR])
        have HADD:Hid (∀ wq,Mod zAb w5 wq->Calls Tryz.prog 146 #[.pointer (some ⟨d,0,none⟩),.agg #[.int .i64 dc.kind,.int .i64 dc.tx,.int .i64 dc.time,.slice ua dc.writes.length uc]] wq fun e w'=>
          ∃ v lv',e=.returned (.tuple #[.int .i64 (zAp R k).log.length,v,.nilIface])/\zAx w' (yi.lo n) d (yi.nnv d) lv' (zFo (zAp R k) dc).1/\RowM w' (yi.lo n) v (zFo (zAp R k) dc).2/\zCr wq v/\zCf wq (yi.nlv d) lv'/\Mod (zAs d (yi.nnv d) (yi.nlv d)) wq w'):=fun wq hq=>by
         have hN:=HNi.out.quiet (HM35.out.trans hq)
         have hpt:zAy wq (yi.lo n) (.slice ua dc.writes.length uc) dc.writes:=by
          have h0:=zAn HRow.out hq (fun _ _ _ _=>id)
          exact zAy.of_own h0 (fun z hz=>ySz HHi.out.own z hz)
         exact yRs (yi.lo n) d (yi.nnv d) (yi.nlv d) (zAp R k) dc _ wq hN (HRS.out.headN hkR) (by omega) hpt hgc
        clear HRes hpc hdue hgc
        go_upto_region 11 with (first
         | (go_at_call 145;refine HPL.out.mono ?_;rintro e w6 ⟨rfl,hm6⟩;simp only [idxI])
         | fail)
        have hb6:=HB5.out.mod hm6 (fun e=>e)
        obtain ⟨z0,z1,z2,z3,-,-,-,-⟩:=blk4 hb6
        have HADD6:=Hmq (HADD.out w6 hm6)
        have HH6:=Hmq (HH5.out.quiet hm6)
        have HK6:=Hmq (HK5.out.trans (zAm.quiet hm6))
        have HR6:=Hmq (HR5.out.trans (zAm.quiet hm6))
        clear hm6 hb6 HADD HPL
        go_upto_region 12 with (first
         | (go_at_call 146;refine HADD6.out.mono ?_;rintro e w7 ⟨v7,lv7,rfl,hN7,hR7,hf7,hmv7,hm7⟩;obtain ⟨va7,vc7,hva7⟩:=hR7.slice;subst hva7)
         | fail)
        obtain ⟨y7,hH7,hK7,hR7',hno7⟩:=HH6.out.turnS hkR HBi.out HDi.out hm7 hN7 (.inl rfl) hmv7 hR7 hf7
        have hl7:=zYh (zAp R k) dc
        have HSE:=Hmq (zLl n c g y7 _ _ _ w7 hH7 hR7' hno7 (by
         show R.net.lost+((zFo (zAp R k) dc).2.length:Int)<=_
         have:=HTL.out
         omega))
        have HK7:=Hmq (HK6.out.trans hK7)
        have HR7:=Hmq (HR6.out.trans hK7)
        have hg7:=hH7.blk.lt
        clear hH7 hK7 hR7' hno7 hN7 hR7 hf7 hmv7 hm7 HADD6 z0 z1 z2 z3
        go_upto_region 8 with (first
         | (go_at_call 80;refine HSE.out.mono ?_;rintro e w8 ⟨⟨x8,rfl⟩,y8,hH8,hK8⟩)
         | fail)
        have HF2:Hid (zAe w8 n c g y8 (telT S k (j+1))/\zAm w y w8 y8/\zAm w2 yr w8 y8):=⟨by rw [HF.out];exact hH8,HK7.out.trans hK8,HR7.out.trans hK8⟩
        clear hH8 hK8 HSE
        go_wp2_with fail
        go_roundw
        case rel=>exact ⟨j+1,y8,by omega,by go_num,HF2.out.1,HF2.out.2.1,HF2.out.2.2⟩
        case measure=>simp [intOf];omega
     ·obtain rfl:j=s.txs.length:=by omega
      have hjI:¬ ((s.txs.length:Int)+1<=(s.txs.length:Int)):=by omega
      have HF:Hid (zAe wi n c g yi (zMp s (k+1))/\zAm w y wi yi):=⟨by rw [HSU.out,HAll.out];exact hHi,hKi⟩
      clear hHi hKi hKr tI tL htv htlen
      go_wp2_with fail
      go_roundw
      case rel=>exact ⟨k+1,yi,by omega,by go_num,HF.out.1,HF.out.2⟩
      case measure=>simp [intOf];omega
  ·obtain rfl:k=s.lines.length:=by omega
   have HF:Hid (∃ y',zAe wo n c g y' (zEe s)/\zAm w y wo y'):=⟨yr,hH,hK⟩
   clear hH hK
   go_wp2_with fail
   go_end0
   exact ⟨rfl,HF.out⟩
theorem yMg{s:zAa}(h:zDo s=false):zHz s=s:=by
 have hn:=zNk.1 h
 have key:∀ m,m<=s.lines.length->zIf s m=s:=by
  intro m
  induction m with
  | zero=>exact fun _=>rfl
  | succ m ih=>
   intro hm
   rw [zMj,ih (by omega)]
   unfold zMx
   rw [hn m (by omega)];rfl
 exact key s.lines.length (Nat.le_refl _)
def zYs(n c g:Nat)(w:World)(y:HLay)(s:zAa)(wr:World)(f:Nat):Prop:=∃ (S:zAa) (yr:HLay),f<=500*s.lines.length+1/\zCo s=settleF f S/\Safe S/\Held S/\S.lines.length=s.lines.length/\500*s.lines.length - zSu S<f/\S.net.lost+300*f<=s.net.lost+300*(500*s.lines.length+1)/\zAe wr n c g yr S/\zAm w y wr yr
theorem yAs{P:Nat->Prop}:∀ n,P n->∃ f,P f/\∀ m,P m->f<=m:=by
 intro n
 induction n using Nat.strongRecOn with
 | ind n ih=>
  intro hn
  by_cases h:∃ m,m<n/\P m
  ·obtain ⟨m,h1,h2⟩:=h
   exact ih m h1 h2
  ·exact ⟨n,hn,fun m hm=>Classical.byContradiction fun q=>h ⟨m,by omega,hm⟩⟩
open Classical in
noncomputable def zLj(P:World->Nat->Prop)(w:World):Nat:=if h:∃ f,P w f/\∀ m,P w m->f<=m then Classical.choose h else 0
theorem zSj{P:World->Nat->Prop}{w:World}(h:∃ f,P w f):P w (zLj P w):=by
 obtain ⟨f,hf⟩:=h
 have h':=yAs f hf
 unfold zLj;rw [dif_pos h'];exact (Classical.choose_spec h').1
theorem zSi{P:World->Nat->Prop}{w:World}{f:Nat}(h:P w f):zLj P w<=f:=by
 have h':=yAs f h
 unfold zLj;rw [dif_pos h'];exact (Classical.choose_spec h').2 f h
theorem zPd(n c g:Nat)(y:HLay)(s:zAa)(w:World)(h:zAe w n c g y s)(hS:Safe s)(hHd:Held s)(hc:c<=10000)(hlo:s.net.lost+750300<=4611686018427387904) :
  Calls Tryz.prog 82 #[.pointer (some ⟨g,0,none⟩)] w fun e w'=>e=.returned (.tuple #[])/\∃ y',zAe w' n c g y' (zCo s)/\zAm w y w' y':=by
 have hll:=hS.ll
 have HH:=Hmq h
 have HS:=Hmq hS
 have HHd:=Hmq hHd
 have HU:Hid (∀ S:zAa,settleF (500*s.lines.length+1) s=S->zCo s=S):=fun S e=>e
 clear h hS hHd
 go_enter Tryz.func82,Tryz.ntmps82
 go_wp2_with fail
 go_loopw [] (fun wr=>∃ f,zYs n c g w y s wr f) (zLj (zYs n c g w y s))
 case atStart=>exact ⟨_,s,y,Nat.le_refl _,rfl,HS.out,HHd.out,rfl,by omega,Int.le_refl _,HH.out,zAm.refl _ _⟩
 case round=>
  obtain ⟨S,yr,hf,he,hS,hHd,hl,hfu,hlo2,hH,hK⟩:=zSj hrel
  obtain ⟨f,hff⟩:∃ f,f=zLj (zYs n c g w y s) wr:=⟨_,rfl⟩
  rw [<-hff] at hf he hfu hlo2
  have HFF:=Hmq hff
  clear hrel hff
  have HHE:=Hmq (yQs n c g yr S wr hH hS.shape hc hS.news)
  have hhg:=zMk hS hHd
  cases ha:zDo S with
  | false=>
   rw [ha] at HHE
   have HE:Hid (zCo s=zHz S):=by
    unfold Hid
    rw [he,yMg ha]
    cases f with
    | zero=>rfl
    | succ f=>unfold settleF;rw [ha];rfl
   have HK:=Hmq hK
   clear hH hK hS hHd he hfu hlo2 hhg
   go_wp2_with fail
   refine HHE.out.mono ?_
   rintro e w1 ⟨rfl,y1,hH1,hK1⟩
   have HF:Hid (∃ y',zAe w1 n c g y' (zCo s)/\zAm w y w1 y'):=⟨y1,by rw [HE.out];exact hH1,HK.out.trans hK1⟩
   clear hH1 hK1 HHE
   go_wp2_with fail
   go_end0
   exact ⟨rfl,HF.out⟩
  | true=>
   rw [ha] at HHE
   obtain ⟨r1,r2⟩:=zJq hS hHd
   rw [ha] at r2
   have hle:=yBb r1.safe
   have hl2:(zEe (zHz S)).lines.length=s.lines.length:=by rw [r1.mv.ll,hl]
   rw [hl2] at hle
   obtain ⟨f',rfl⟩:∃ f',f=f'+1:=⟨f - 1,by omega⟩
   have h3:=zRu hhg.1.safe
   rw [hhg.1.same.net] at h3
   have HTE:Hid (∀ wq yq,zAe wq n c g yq (zHz S)->Calls Tryz.prog 86 #[.pointer (some ⟨g,0,none⟩)] wq fun e w'=>e=.returned (.tuple #[])/\∃ y',zAe w' n c g y' (zEe (zHz S))/\zAm wq yq w' y'):=fun wq yq hq=>zXa n c g yq (zHz S) wq hq hhg.1.safe (by rw [hhg.1.same.net];omega)
   have HNX:Hid (∀ wq yq,zAe wq n c g yq (zEe (zHz S))->zAm w y wq yq->zYs n c g w y s wq f'):=fun wq yq h1 h2=>⟨zEe (zHz S),yq,by omega,by
    rw [he]
    show (if zDo S=true then settleF f' (zEe (zHz S)) else S)=_
    rw [ha];rfl,r1.safe,r1.held,hl2,by
    have:(if true=true then 1 else 0)=1:=rfl
    rw [this] at r2
    omega,by omega,h1,h2⟩
   have HK:=Hmq hK
   clear hH hK hS hHd he hfu hlo2 hhg r1 r2 hle hl2 h3
   go_wp2_with fail
   refine HHE.out.mono ?_
   rintro e w1 ⟨rfl,y1,hH1,hK1⟩
   have HTE1:=Hmq (HTE.out w1 y1 hH1)
   have HK1:=Hmq (HK.out.trans hK1)
   clear hH1 hK1 HHE
   go_wp2_with fail
   refine HTE1.out.mono ?_
   rintro e w2 ⟨rfl,y2,hH2,hK2⟩
   have HI:=Hmq (HNX.out w2 y2 hH2 (HK1.out.trans hK2))
   clear hH2 hK2 HTE1
   go_wp2_with fail
   go_roundw
   case rel=>exact ⟨f',HI.out⟩
   case measure=>
    have h1:=zSi HI.out
    have h2:=HFF.out
    omega
theorem yFm{s s':zAa}(hd:s'.dead=s.dead)(id:Int):∀ (k:Nat) (ls:List zCs),zQr s' id k ls=zQr s id k ls
 | _,[]=>rfl
 | k,l :: ls=>by
  have e:zUa s' l.nodes id=zUa s l.nodes id:=by unfold zUa zAu;rw [hd]
  unfold zQr
  rw [e,yFm hd id (k+1) ls]
theorem yPw{s s':zAa}(hd:s'.dead=s.dead)(hl:s'.lines=s.lines)(id:Int):zIo s' id=zIo s id:=by
 unfold zIo;rw [hl];exact yFm hd id 0 _
theorem zVv{y:HLay}{e:Ending}(h:yOl y none e):e=.returned (.tuple #[.pointer none,.bool false]):=h
theorem zVu{y:HLay}{e:Ending}{k j:Nat}(h:yOl y (some (k,j)) e):∃ b d,y.lbs[k]?=some b/\(y.nbs b)[j]?=some d/\e=.returned (.tuple #[.pointer (some ⟨d,0,none⟩),.bool true]):=h
theorem zTl(n c g:Nat)(y:HLay)(s:zAa)(i:Nat)(m:MsgD)(w:World)(h:zAe w n c g y s)(hS:Safe s)(hHd:Held s)(hc:c<=10000)(hi:s.net.way[i]?=some m)(hlo:s.net.lost+750800<=4611686018427387904) :
  Calls Tryz.prog 45 #[.pointer (some ⟨g,0,none⟩),.int .i64 i] w (PutP w n c g y (zBb s i) 0):=by
 have hTK:=yFd (y.lo n) g y.wv y.mr s.net i m w h.netP hi
 unfold msgV at hTK
 have HTK:=Hmq hTK
 have hgm:zJg m:=by obtain ⟨_,_,_,_,_,_,_,hgm,-⟩:=h.net.row.at hi;exact hgm
 clear hTK
 have hTS:Safe (zBi s i):=hS.way fun m' hm'=>List.mem_of_mem_eraseIdx hm'
 have hTH:Held (zBi s i):=hHd.lines rfl rfl
 have hnn:zIo (zBi s i) m.to=zIo s m.to:=yPw (s:=s) (s':=zBi s i) rfl rfl _
 have hmo:yCk (zBi s i) m:=hS.msg m (List.mem_of_getElem? hi)
 have HGM:=Hmq hgm
 have HTS:=Hmq hTS
 have HTH:=Hmq hTH
 have HNN:=Hmq hnn
 have HMO:=Hmq hmo
 have hg:=h.blk.lt
 have HH:=Hmq h
 have HE0:Hid (errQ 0=.nilIface):=zCc
 have HDN:Hid (zIo s m.to=none->zBb s i=zBi s i):=fun e=>by
  unfold zBb
  rw [hi]
  simp only
  rw [e]
 have HDS:Hid (∀ kk j,zIo s m.to=some (kk,j)->zBb s i=zCo (zHv (zBi s i) kk j m)):=fun kk j e=>by
  unfold zBb
  rw [hi]
  simp only
  rw [e]
 clear h hS hHd hgm hTS hTH hnn hmo hi
 obtain ⟨kind,frm,to_,ep,num,⟨ck,ct,cm,cw⟩⟩:=m
 go_enter Tryz.func45,Tryz.ntmps45
 go_upto_region 2 with (first
  | (go_at_call 78;refine HTK.out.mono ?_;rintro e w1 ⟨wv1,u,rfl,hN1,hP1,hv1,hm1⟩;(obtain ⟨ua,ucap,rfl⟩:∃ ua ucap,u=.slice ua cw.length ucap:=(by obtain ⟨ua,ucap,h,_⟩:=hP1;exact ⟨ua,ucap,h⟩)))
  | fail)
 obtain ⟨hH1,hS1⟩:=HH.out.turnW hm1 hN1 (.inl hv1) (.inl rfl)
 obtain ⟨w2,hw2⟩:∃ x,x=w1.alloc (.cells #[.int .i64 kind,.int .i64 frm,.int .i64 to_,.int .i64 ep,.int .i64 num,.int .i64 ck,.int .i64 ct,.int .i64 cm,.slice ua cw.length ucap] 110):=⟨_,rfl⟩
 rw [<-hw2]
 have hm2:Mod zAb w1 w2:=by rw [hw2];exact (Mod.refl _ w1).alloc _
 have hB2:Blk w2 w1.heap.size [.int .i64 kind,.int .i64 frm,.int .i64 to_,.int .i64 ep,.int .i64 num,.int .i64 ck,.int .i64 ct,.int .i64 cm,.slice ua cw.length ucap] 110:=by rw [hw2];exact Blk.new w1 _ _
 have hK1:zAm w y w1 (y.setW w wv1 y.mr):=⟨hS1,rfl,rfl,rfl,rfl,rfl⟩
 have hL1:(y.setW w wv1 y.mr).lo n=y.lo n:=rfl
 rw [<-hL1] at hP1
 generalize y.setW w wv1 y.mr=y1 at hH1 hK1 hP1
 have hH2:=hH1.quiet hm2
 have HK2:=Hmq (hK1.trans (zAm.quiet hm2))
 have HP2:=Hmq (hP1.mod hm2 (Qm.none _ _))
 have HH2:Hid (zAe w2 n c g y1 (zBi s i)):=hH2
 have HND:=Hmq (yAy n c g y1 (zBi s i) to_ w2 hH2 HTS.out.shape)
 have q2:=hB2.cell 2 rfl
 have HB2:=Hmq hB2
 have hg2:=hH2.blk.lt
 clear hw2 hm1 hN1 hv1 hH1 hS1 hK1 hP1 hH2 hm2 hB2 HTK hL1
 cases hno:zIo s to_ with
 | none=>
  have hnt:zIo (zBi s i) to_=none:=by rw [HNN.out];exact hno
  rw [hnt] at HND
  have HE:=Hmq (HDN.out hno)
  clear hno hnt
  go_upto_region 5 with (first
   | (go_at_call 79;refine HND.out.mono ?_;rintro e w3 ⟨hfo,hm3⟩;obtain rfl:=zVv hfo)
   | fail)
  have HF:Hid (PutP w n c g y (zBb s i) 0 (.returned .nilIface) w3):=⟨by rw [HE0.out],y1,by rw [HE.out];exact HH2.out.quiet hm3,HK2.out.trans (zAm.quiet hm3)⟩
  clear hm3
  go_wp2_with fail
  go_ret
  exact HF.out
 | some kj=>
  obtain ⟨kk,j⟩:=kj
  have hnt:zIo (zBi s i) to_=some (kk,j):=by rw [HNN.out];exact hno
  rw [hnt] at HND
  have HE:=Hmq (HDS.out kk j hno)
  obtain ⟨hkk,x,hx1,hx2,hx3⟩:=zJs hnt
  have hjl:=(List.getElem?_eq_some_iff.1 hx1).1
  have hxe:zAo (zBi s i) kk j=x:=zFq hx1
  have hfew:=(HTS.out.line kk hkk).few x (List.mem_of_getElem? hx1)
  have hSS:=HTS.out.step hkk hx1 HMO.out
  have hTl:=zCk.step (s:=zBi s i) hkk hx1 hx2 ⟨kind,frm,to_,ep,num,⟨ck,ct,cm,cw⟩⟩
  have hSH:Held (zHv (zBi s i) kk j ⟨kind,frm,to_,ep,num,⟨ck,ct,cm,cw⟩⟩):=HTH.out.lines hTl.keys hTl.txs
  have hlen:=yFf hfew ⟨kind,frm,to_,ep,num,⟨ck,ct,cm,cw⟩⟩
  have hst:zHv (zBi s i) kk j ⟨kind,frm,to_,ep,num,⟨ck,ct,cm,cw⟩⟩=zLb (setNode (zBi s i) kk j (zCt x ⟨kind,frm,to_,ep,num,⟨ck,ct,cm,cw⟩⟩).1) (zCt x ⟨kind,frm,to_,ep,num,⟨ck,ct,cm,cw⟩⟩).2:=by unfold zHv;rw [hxe]
  have hls:(zHv (zBi s i) kk j ⟨kind,frm,to_,ep,num,⟨ck,ct,cm,cw⟩⟩).net.lost<=s.net.lost+500:=by
   rw [hst]
   have:=(zFc (zCt x ⟨kind,frm,to_,ep,num,⟨ck,ct,cm,cw⟩⟩).2 (zBi s i).net).2
   have e2:(zBi s i).net.lost=s.net.lost:=rfl
   show (zFd (zBi s i).net _).lost<=_
   omega
  have HSS:=Hmq hSS
  have HSH:=Hmq hSH
  have HST:=Hmq hst
  have HLS:=Hmq hls
  have HKK:=Hmq hkk
  have HX1:=Hmq hx1
  have HLEN:=Hmq hlen
  clear hno hnt hSS hSH hst hls hTl hxe hx2 hx3 hkk hx1 hlen
  go_upto_region 6 with (first
   | (go_at_call 79;refine HND.out.mono ?_;rintro e w3 ⟨hfo,hm3⟩;obtain ⟨b,d,hb,hd,rfl⟩:=zVu hfo)
   | fail)
  have hm3d:Mod zAb w2 w3.drew:=hm3.drewN 1
  have hB3:=HB2.out.mod hm3 (fun e=>e)
  have HH3:=Hmq (HH2.out.quiet hm3d)
  have HK3:=Hmq (HK2.out.trans (zAm.quiet hm3d))
  have hN3:=HH3.out.nodeB hb (List.mem_of_getElem? hd)
  rw [HH3.out.st_eq hb (zBj HKK.out) hd HX1.out] at hN3
  have HSTP:=Hmq (yNp (y1.lo n) d (y1.nnv d) (y1.nlv d) x ⟨kind,frm,to_,ep,num,⟨ck,ct,cm,cw⟩⟩ (.slice ua cw.length ucap) w3.drew hN3 (HP2.out.mod hm3d (Qm.none _ _)) HGM.out)
  obtain ⟨⟨p0,p1,p2,p3,p4,p5,p6,p7,p8⟩,_⟩:=blk9 hB3
  have hg3:g<w3.heap.size:=Nat.lt_of_lt_of_le hg2 hm3.size
  have HBB:=Hmq hb
  have HDD:=Hmq hd
  clear hm3 hm3d hB3 hN3 hfo hb hd HND q2
  go_region_with (first
   | (go_at_call 81;refine HSTP.out.mono ?_;rintro e w7 ⟨v7,lv7,rfl,hN7,hR7,hf7,hmv7,hm7⟩;obtain ⟨va7,vc7,hva7⟩:=hR7.slice;subst hva7;obtain ⟨y7,hH7,hK7,hR7',hno7⟩:=HH3.out.turnS HKK.out HBB.out HDD.out hm7 hN7 (.inl rfl) hmv7 hR7 hf7;(have HSE:=Hmq (zLl n c g y7 _ _ _ w7 hH7 hR7' hno7 (by have:=HLEN.out;have e2:(zBi s i).net.lost=s.net.lost:=rfl;show (zBi s i).net.lost+_<=_;omega)));(have HK7:=Hmq (HK3.out.trans hK7));clear hH7 hK7 hR7' hno7 hN7 hR7 hf7 hmv7 hm7 HSTP)
   | (go_at_call 80;refine HSE.out.mono ?_;rintro e w8 ⟨⟨x8,rfl⟩,y8,hH8,hK8⟩)
   | fail)
  all_goals
   have HSET:=Hmq (zPd n c g y8 _ w8 hH8 (by rw [<-HST.out];exact HSS.out) (by rw [<-HST.out];exact HSH.out) hc (by rw [<-HST.out];have:=HLS.out;omega))
   have HK8:=Hmq (HK7.out.trans hK8)
   clear hH8 hK8 HSE p0 p1 p2 p3 p4 p5 p6 p7 p8
   go_wp2_with fail
   refine HSET.out.mono ?_
   rintro e w9 ⟨rfl,y9,hH9,hK9⟩
   have HF:Hid (PutP w n c g y (zBb s i) 0 (.returned .nilIface) w9):=⟨by rw [HE0.out],y9,by rw [HE.out,HST.out];exact hH9,HK8.out.trans hK9⟩
   clear hH9 hK9 HSET
   go_wp2_with fail
   go_ret
   exact HF.out
def zBl(s:zAa)(k:Nat):List Nat:=(List.range (s.line k).nodes.length).filter fun j=>zAu s (zAo s k j)
theorem zPr(s:zAa)(k:Nat):(zBl s k).map (zAo s k)=zAk s k:=by
 have e:(s.line k).nodes=(List.range (s.line k).nodes.length).map (zAo s k):=by
  apply List.ext_getElem?
  intro j
  rw [List.getElem?_map]
  by_cases hj:j<(s.line k).nodes.length
  ·rw [zEh hj,List.getElem?_range hj];rfl
  ·rw [List.getElem?_eq_none (by omega),List.getElem?_eq_none (by simp;omega)];rfl
 unfold zBl zAk
 conv=>rhs;rw [e]
 rw [List.filter_map]
 rfl
theorem zMf(s:zAa)(k:Nat):(zBl s k).length=(zAk s k).length:=by rw [<-zPr,List.length_map]
theorem zIp{s:zAa}{k i j:Nat}(h:(zBl s k)[i]?=some j):j<(s.line k).nodes.length/\zAu s (zAo s k j)=true:=by
 have:=List.mem_filter.1 (List.mem_of_getElem? h)
 exact ⟨List.mem_range.1 this.1,this.2⟩
def LivV(w:World)(y:HLay)(s:zAa)(k b:Nat)(v:Value):Prop:=∃ va vc,v=.slice va (zBl s k).length vc/\∀ (i j:Nat),(zBl s k)[i]?=some j->∃ lg d,va=some ⟨lg,0,none⟩/\(y.nbs b)[j]?=some d/\w.cell? ⟨lg,i,none⟩=some (.pointer (some ⟨d,0,none⟩))/\y.own lg=.no
theorem LivV.keep{w w':World}{y y':HLay}{s:zAa}{k b:Nat}{v:Value}(h:LivV w y s k b v)(hK:zFi w y w' y')(hn:y'.nbs=y.nbs):LivV w' y' s k b v:=by
 obtain ⟨va,vc,h1,h2⟩:=h
 refine ⟨va,vc,h1,fun i j hi=>?_⟩
 obtain ⟨lg,d,e1,e2,e3,e4⟩:=h2 i j hi
 exact ⟨lg,d,e1,by rw [hn];exact e2,hK.md.cell e3 (fun e=>e e4),by rw [hK.old lg (World.block_lt_of_cell? w _ e3)];exact e4⟩
theorem LivV.of{w w':World}{n c g:Nat}{y:HLay}{s:zAa}{k b:Nat}{v:Value}(h:zAe w n c g y s)(hk:k<s.lines.length)(hb:y.lbs[k]?=some b)(hm:Mod zAb w w')(hr:w'.ownsRow w.heap.size 100 1 v (y.liv s b).length (zDr (y.liv s b))):LivV w' y s k b v:=by
 have hL:=h.line k b _ hb (zBj hk)
 have hliv:y.liv s b=(zBl s k).map fun j=>(y.nbs b).getD j 0:=by
  have e:y.nbs b=(List.range (s.line k).nodes.length).map fun j=>(y.nbs b).getD j 0:=by
   apply List.ext_getElem?
   intro j
   rw [List.getElem?_map]
   by_cases hj:j<(s.line k).nodes.length
   ·rw [List.getElem?_range hj,Option.map_some,List.getD_eq_getElem?_getD,List.getElem?_eq_getElem (by rw [hL.len];exact hj)];rfl
   ·rw [List.getElem?_eq_none (by rw [hL.len];omega),List.getElem?_eq_none (by simp;omega)];rfl
  unfold HLay.liv zBl
  conv=>lhs;rw [e]
  rw [List.filter_map]
  congr 1
  apply List.filter_congr
  intro j hj
  have hj':=List.mem_range.1 hj
  show zAu s (y.st s ((y.nbs b).getD j 0))=_
  have hd:(y.nbs b)[j]?=some ((y.nbs b).getD j 0):=by rw [List.getD_eq_getElem?_getD,List.getElem?_eq_getElem (by rw [hL.len];exact hj')];rfl
  rw [h.st_eq hb (zBj hk) hd (zEh hj')]
 have hlen:(y.liv s b).length=(zBl s k).length:=by rw [hliv,List.length_map]
 obtain ⟨va,vc,hv⟩:=zAg hr
 rw [hlen] at hv
 refine ⟨va,vc,hv,fun i j hi=>?_⟩
 have hil:=(List.getElem?_eq_some_iff.1 hi).1
 rcases hr.2 with ⟨e,h0⟩ | ⟨g',cap',cur,e,q1,_⟩
 ·omega
 ·have hva:va=some ⟨g',0,none⟩:=by
   rw [hv] at e
   simp only [Value.slice.injEq] at e
   exact e.1
  have hr':=hr
  rw [e] at hr'
  have hd:(y.liv s b)[i]?=some ((y.nbs b).getD j 0):=by rw [hliv,List.getElem?_map,hi];rfl
  have hc:=hr'.cells (g:=g') rfl i (ptrV ((y.nbs b).getD j 0)) (by rw [<-zNx,List.getElem?_map,hd];rfl)
  have e2:(⟨g',0,none⟩:Addr).add i=⟨g',i,none⟩:=by cases i <;> simp [Addr.add]
  rw [e2] at hc
  refine ⟨g',(y.nbs b).getD j 0,hva,?_,hc,?_⟩
  ·rw [List.getD_eq_getElem?_getD,List.getElem?_eq_getElem (by rw [hL.len];exact (zIp hi).1)];rfl
  ·exact Classical.byContradiction fun q=>by have:=(h.own.lt g' q).2;omega
theorem zNi(n c g:Nat)(y:HLay)(s:zAa)(k b:Nat)(w:World)(h:zAe w n c g y s)(hs:zGd s)(hk:k<s.lines.length)(hb:y.lbs[k]?=some b) :
  Calls Tryz.prog 67 #[.pointer (some ⟨g,0,none⟩),.int .i64 k] w fun e w'=>∃ v,e=.returned v/\LivV w' y s k b v/\Mod zAb w w':=by
 have hl:=(h.line k b _ hb (zBj hk)).len
 have h4:=hs.nl _ (zMg hk)
 refine (zPq n c g y s k b w h hk hb (by omega) (by omega)).mono ?_
 rintro e w' ⟨v,rfl,hr,hm⟩
 exact ⟨v,rfl,LivV.of h hk hb hm hr,hm⟩
def zSl(s:zAa)(m:Nat):Nat:=((List.range m).map fun k=>((zAk s k).map fun n=>n.log.length).sum).sum
theorem zSk(s:zAa)(m:Nat):zSl s (m+1)=zSl s m+((zAk s m).map fun n=>n.log.length).sum:=by unfold zSl;rw [List.range_succ,List.map_append,List.sum_append];simp
def zOk(s:zAa)(k i:Nat):Nat:=(((zBl s k).take i).map fun j=>(zAo s k j).log.length).sum
theorem yDr{s:zAa}{k i j:Nat}(h:(zBl s k)[i]?=some j):zOk s k (i+1)=zOk s k i+(zAo s k j).log.length:=by unfold zOk;rw [zBt h,List.map_append,List.sum_append];simp
theorem yHz(s:zAa)(k:Nat):zOk s k (zBl s k).length=((zAk s k).map fun n=>n.log.length).sum:=by unfold zOk;rw [List.take_length,<-zPr,List.map_map];rfl
theorem yAt{s:zAa}(h:Safe s):∀ m,m<=s.lines.length->zSl s m<=2000*m
 | 0,_=>by simp [zSl]
 | m+1,hm=>by
  have ih:=yAt h m (by omega)
  have hm':m<s.lines.length:=by omega
  rw [zSk]
  have h4:=h.len4 hm'
  have hl:(zAk s m).length<=(s.line m).nodes.length:=List.length_filter_le _ _
  have:((zAk s m).map fun n=>n.log.length).sum<=500*(zAk s m).length:=by
   have hf:∀ n∈zAk s m,n.log.length<=500:=fun n hn=>(h.line m hm').few n (List.mem_filter.1 hn).1
   generalize zAk s m=l at hf
   induction l with
   | nil=>simp
   | cons a l ih=>
    have h1:=ih (fun n hn=>hf n (by simp [hn]))
    have h2:=hf a (by simp)
    simp only [List.map_cons,List.sum_cons,List.length_cons];omega
  omega
theorem yLx{s:zAa}(h:Safe s){k:Nat}(hk:k<s.lines.length)(i:Nat):zOk s k i<=2000:=by
 have h4:=h.len4 hk
 have hl:((zBl s k).take i).length<=4:=by
  have h1:((zBl s k).take i).length<=(zBl s k).length:=by rw [List.length_take];omega
  rw [zMf] at h1
  have h2:(zAk s k).length<=(s.line k).nodes.length:=List.length_filter_le _ _
  omega
 have hf:∀ j∈(zBl s k).take i,(zAo s k j).log.length<=500:=fun j hj=>by
  obtain ⟨x,hx⟩:=List.getElem?_of_mem (List.mem_of_mem_take hj)
  exact (h.line k hk).few _ (List.mem_of_getElem? (zEh (zIp hx).1))
 unfold zOk
 generalize (zBl s k).take i=l at hl hf
 have:(l.map fun j=>(zAo s k j).log.length).sum<=500*l.length:=by
  clear hl
  induction l with
  | nil=>simp
  | cons a l ih=>
   have h1:=ih (fun n hn=>hf n (by simp [hn]))
   have h2:=hf a (by simp)
   simp only [List.map_cons,List.sum_cons,List.length_cons];omega
 omega
end Go.Proofs.YtogaigioeohjaaaGreatDoor
