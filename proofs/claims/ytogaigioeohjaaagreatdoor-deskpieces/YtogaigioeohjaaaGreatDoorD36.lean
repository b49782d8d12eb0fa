import Derived.Test.YtogaigioeohjaaaGreatDoorD35
set_option linter.unusedVariables false
set_option maxRecDepth 100000
set_option maxHeartbeats 16000000
namespace Go.Proofs.YtogaigioeohjaaaGreatDoor
open Go.RowKit Go.Lib Go.Maps
def zIv(s:zAa)(k m:Nat):zAa:=(List.range m).foldl (fun h i=>if zOg h k i then zBh h (i+1) else h) s
theorem zVw(s:zAa)(k m:Nat):zIv s k (m+1)=if zOg (zIv s k m) k m then zBh (zIv s k m) (m+1) else zIv s k m:=by unfold zIv;rw [List.range_succ,List.foldl_append];rfl
theorem yIi{s:zAa}(h:Safe s)(hH:Held s){k:Nat}(hk:k<s.lines.length):∀ m,m<=s.txs.length->ActG s (zIv s k m)/\zBk s (zIv s k m):=by
 intro m
 induction m with
 | zero=>exact fun _=>⟨ActG.refl h hH,zBk.refl s⟩
 | succ m ih=>
  intro hm
  rw [zVw]
  obtain ⟨a,b⟩:=ih (by omega)
  generalize zIv s k m=S at a b
  split
  ·rename_i hl
   have hmS:m+1<=S.txs.length:=by rw [b.len];omega
   have hkS:k<S.lines.length:=by rw [b.l];exact hk
   unfold zOg at hl
   simp only [Bool.and_eq_true,Bool.or_eq_true,decide_eq_true_eq] at hl
   obtain ⟨hl1,hl2⟩:=hl
   have hx:=a.safe.tx (m+1) (by omega) hmS
   have hkd:k<decH S:=by
    have:k≠decH S:=fun e=>hl1 (by rw [e];exact hx.dec)
    unfold decH at this ⊢;omega
   have hH':Held (zBh S (m+1)):=a.held.abort (m+1) (by omega) (fun x hx=>by simp at hx)
   rcases hl2 with q | ⟨q,q2⟩
   ·exact ⟨a.trans ⟨a.safe.abort (by omega) hmS q,hH',zGo.abort (by omega) hmS (by omega),by rw [zGl]⟩,b.trans (zBk.abort S _)⟩
   ·have hr:zIx (S.tx (m+1))=false:=by
     apply Classical.byContradiction
     intro hn
     simp only [Bool.not_eq_false] at hn
     have:=zLe.1 hn k
     have:=hx.rng k
     have h2:(S.tx (m+1)).ats.getD k 0=2:=by omega
     have:=yKq a.safe (by omega) hmS hkd h2
     have e:((m+1:Nat):Int)=(m:Int)+1:=by omega
     rw [e,q2] at this;cases this
    exact ⟨a.trans ⟨a.safe.abort2 (by omega) hmS q hr,hH',zGo.abort (by omega) hmS (by omega),by rw [zGl]⟩,b.trans (zBk.abort S _)⟩
  ·exact ⟨a,b⟩
theorem yEc(n c g:Nat)(y:HLay)(s:zAa)(k:Nat)(w:World)(h:zAe w n c g y s)(hS:Safe s)(hHd:Held s)(hk:k<s.lines.length)(hc:c<=10000) :
  Calls Tryz.prog 89 #[.pointer (some ⟨g,0,none⟩),.int .i64 k] w fun e w'=>e=.returned (.tuple #[])/\∃ y',zAe w' n c g y' (zDt s k)/\zAm w y w' y':=by
 obtain ⟨c0,-⟩:=blkH h.blk
 obtain ⟨b,hb,hL⟩:=h.lineQ hk
 obtain ⟨lg,lcap,hlv,cl⟩:=zIy h.lrow hb
 have hlen:=h.llen
 rw [hlv,hlen] at c0
 obtain ⟨d,hd,x,hx,hNq⟩:=hL.nodeQ (j:=0) (by have:=List.length_pos_iff.2 (hS.line k hk).ne;omega)
 have hx0:x=zAp s k:=by
  have:=hS.head hk
  rw [hx] at this
  exact Option.some.inj this
 subst hx0
 have b0:=hL.blk.cell 0 rfl
 obtain ⟨ng,ncap,hnv,cn⟩:=zIy hL.row hd
 rw [hnv] at b0
 have HLG:=Hmq (zRe _ _ _ _ _ _ hNq)
 have hkI:(k:Int)<(s.lines.length:Int):=by omega
 have hk0:(0:Int)<=(k:Int):=by omega
 have hn0:=(List.getElem?_eq_some_iff.1 hd).1
 have hnI:(0:Int)<((y.nbs b).length:Int):=by omega
 have hfew:(zAp s k).log.length<=305:=(hS.log k hk).few hS.tl
 have htl:=hS.tl
 have hll:=hS.ll
 have HH:=Hmq h
 have HS:=Hmq hS
 have HHd:=Hmq hHd
 clear h hS hHd hb hL hlv hd hx hNq hnv
 go_enter Tryz.func89,Tryz.ntmps89
 go_upto_region 1 with (first
  | (go_at_call 91;refine HLG.out.mono ?_;rintro e w2 ⟨v,rfl,hrc,hfv,hm2⟩;obtain ⟨va,vc,hva⟩:=hrc.slice;subst hva)
  | fail)
 have hcf:yJq w2 y (.slice va (zAp s k).log.length vc) (zAp s k).log:=by
  refine ⟨hrc.toV,.inr fun z hz=>?_⟩
  have hz2:=hfv z hz
  obtain ⟨us,_,h3,_⟩:=hrc
  refine ⟨?_,(zAi h3 hz).2.1⟩
  exact Classical.byContradiction fun e=>by have:=(HH.out.own.lt z e).2;omega
 have HCF:=Hmq hcf
 have HH2:=Hmq (HH.out.quiet hm2)
 have HK2:Hid (zAm w y w2 y):=zAm.quiet hm2
 obtain ⟨-,-,-,-,-,-,c6⟩:=blkH HH2.out.blk
 obtain ⟨ta,tcap,htv⟩:=zAg HH2.out.trow
 rw [htv,HH2.out.tlen] at c6
 have HTV:Hid (y.tv=.slice ta s.txs.length tcap):=by unfold Hid;rw [htv,HH2.out.tlen]
 clear hrc hfv hm2 hcf HLG htv c0 b0 cl cn
 go_wp2_with fail
 go_loopw [26] (fun i0 wr=>∃ (i:Nat) (yr:HLay),i<=s.txs.length/\i0=.int .i64 i/\zAe wr n c g yr (zIv s k i)/\zAm w2 y wr yr) (fun i0 _=>s.txs.length - (intOf i0).toNat)
 case atStart=>exact ⟨0,y,Nat.zero_le _,rfl,HH2.out,zAm.refl _ _⟩
 case round=>
  obtain ⟨i,yr,hil,rfl,hH,hK⟩:=hrel
  obtain ⟨wo,hwo⟩:∃ x,x=wr:=⟨_,rfl⟩
  subst hwo
  by_cases hlt:i<s.txs.length
  ·obtain ⟨tA,tS⟩:=yIi HS.out HHd.out hk i hil
   have HSU:=Hmq (zVw s k i)
   have hTl:(zIv s k i).txs.length=s.txs.length:=tS.len
   have hn0:zAp (zIv s k i) k=zAp s k:=by unfold zAp zAa.line;rw [tS.l]
   have hll2:(zIv s k i).lines.length=s.lines.length:=by rw [tS.l]
   generalize zIv s k i=S at hH tA HSU hTl hn0 hll2
   have hi1:1<=i+1:=by omega
   have hi2:i+1<=S.txs.length:=by omega
   obtain ⟨b2,hb2,hT⟩:=hH.txQ hi1 hi2
   rw [Nat.add_sub_cancel] at hb2
   obtain ⟨tg,tcap',htv',ct⟩:=zIy hH.trow hb2
   have hta:ta=some ⟨tg,0,none⟩:=by
    have e:=hK.tv
    rw [htv',HTV.out] at e
    simp only [Value.slice.injEq] at e
    exact e.1.symm
   subst hta
   have hats:=(tA.safe.tx (i+1) hi1 hi2).len
   obtain ⟨ab,acap,hav,hac⟩:=yGj hT (k:=k) (by rw [hats,hll2];exact hk)
   have t0:=hT.blk.cell 0 rfl
   have t1:=hT.blk.cell 1 rfl
   rw [hav,hats,hll2] at t1
   obtain ⟨x,hx⟩:∃ x,x=(S.tx (i+1)).ats.getD k 0:=⟨_,rfl⟩
   rw [<-hx] at hac
   have HPL:=Hmq (zPv _ _ 2 ((i:Int)+1) wo (HCF.out.keep hK.st).1 (by omega))
   have eii:((i+1:Nat):Int)=(i:Int)+1:=by omega
   have HAB:Hid (∀ wq,Mod zAb wo wq->Calls Tryz.prog 84 #[.pointer (some ⟨g,0,none⟩),.int .i64 ((i:Int)+1)] wq fun e w'=>e=.returned (.tuple #[])/\∃ y',zAe w' n c g y' (zBh S (i+1))/\zAm wq yr w' y'):=fun wq hq=>by
    have:=zTp n c g yr S (i+1) wq (hH.quiet hq) hi1 hi2 (by omega) hc (by rw [hats];omega)
    rw [eii] at this
    exact this
   have HL0:Hid (∀ bl,zOg S k i=bl->zIv s k (i+1)=if bl then zBh S (i+1) else S):=fun bl e=>by rw [HSU.out,e]
   have HLO:Hid (zOg S k i=(decide (x≠0) && (decide ((S.tx (i+1)).state=1) || (decide ((S.tx (i+1)).state=2) && (zDl (zAp s k).log 2 ((i:Int)+1)).isNone)))):=by unfold Hid zOg;simp only;rw [hn0,hx]
   have hiI:(i:Int)<(s.txs.length:Int):=by omega
   have hi0:(0:Int)<=(i:Int):=by omega
   have HHo:=Hmq hH
   have HKo:=Hmq hK
   clear hH hK hT hb2 htv' hav hats tA tS HSU hn0 hll2 hx
   generalize (S.tx (i+1)).state=st at t0 HLO
   by_cases hx0:x=0
   ·have hxb:(x != 0)=false:=by simpa using hx0
    by_cases s1:st=1
    ·have hs1:(st == 1)=true:=by simpa using s1
     have HF:Hid (∀ wq,Mod zAb wo wq->zAe wq n c g yr (zIv s k (i+1))/\zAm w2 y wq yr):=fun wq hq=>⟨by rw [HL0.out false (by rw [HLO.out];simp [s1,hx0])];exact HHo.out.quiet hq,HKo.out.trans (zAm.quiet hq)⟩
     clear HL0 HLO HHo HKo HAB
     have HF2:=Hmq (HF.out wo (Mod.refl _ _))
     clear HF
     go_wp2_with fail
     go_roundw
     case rel=>exact ⟨i+1,yr,by omega,by go_num,HF2.out.1,HF2.out.2⟩
     case measure=>simp [intOf];omega
    ·have hs1:(st == 1)=false:=by simpa using s1
     by_cases s2:st=2
     ·have hs2:(st == 2)=true:=by simpa using s2
      cases hpc:zDl (zAp s k).log 2 ((i:Int)+1) with
      | none=>
       rw [hpc] at HPL
       have HF:Hid (∀ wq,Mod zAb wo wq->zAe wq n c g yr (zIv s k (i+1))/\zAm w2 y wq yr):=fun wq hq=>⟨by rw [HL0.out false (by rw [HLO.out];simp [s2,hx0,hpc])];exact HHo.out.quiet hq,HKo.out.trans (zAm.quiet hq)⟩
       clear HL0 HLO HHo HKo HAB
       go_upto_region 5 with (first
        | (go_at_call 145;refine HPL.out.mono ?_;rintro e w3 ⟨rfl,hm3⟩;simp only [idxI])
        | fail)
       have q1:=hm3.cell t1 (fun e=>e)
       have q2:=hm3.cell hac (fun e=>e)
       have HM3:=Hmq hm3
       clear hm3 HPL
       have HF2:=Hmq (HF.out w3 HM3.out)
       clear HF
       go_wp2_with fail
       go_roundw
       case rel=>exact ⟨i+1,yr,by omega,by go_num,HF2.out.1,HF2.out.2⟩
       case measure=>simp [intOf];omega
      | some j=>
       rw [hpc] at HPL
       have hj0:decide ((j:Int)<0)=false:=decide_eq_false (by omega)
       have HF:Hid (∀ wq,Mod zAb wo wq->zAe wq n c g yr (zIv s k (i+1))/\zAm w2 y wq yr):=fun wq hq=>⟨by rw [HL0.out false (by rw [HLO.out];simp [s2,hpc])];exact HHo.out.quiet hq,HKo.out.trans (zAm.quiet hq)⟩
       clear HL0 HLO HHo HKo HAB
       go_upto_region 5 with (first
        | (go_at_call 145;refine HPL.out.mono ?_;rintro e w3 ⟨rfl,hm3⟩;simp only [idxI])
        | fail)
       have q1:=hm3.cell t1 (fun e=>e)
       have q2:=hm3.cell hac (fun e=>e)
       have HM3:=Hmq hm3
       clear hm3 HPL
       have HF2:=Hmq (HF.out w3 HM3.out)
       clear HF
       go_wp2_with fail
       go_roundw
       case rel=>exact ⟨i+1,yr,by omega,by go_num,HF2.out.1,HF2.out.2⟩
       case measure=>simp [intOf];omega
     ·have hs2:(st == 2)=false:=by simpa using s2
      have HF:Hid (∀ wq,Mod zAb wo wq->zAe wq n c g yr (zIv s k (i+1))/\zAm w2 y wq yr):=fun wq hq=>⟨by rw [HL0.out false (by rw [HLO.out];simp [s1,s2])];exact HHo.out.quiet hq,HKo.out.trans (zAm.quiet hq)⟩
      clear HL0 HLO HHo HKo HAB
      have HF2:=Hmq (HF.out wo (Mod.refl _ _))
      clear HF
      go_wp2_with fail
      go_roundw
      case rel=>exact ⟨i+1,yr,by omega,by go_num,HF2.out.1,HF2.out.2⟩
      case measure=>simp [intOf];omega
   ·have hxb:(x != 0)=true:=by simpa using hx0
    by_cases s1:st=1
    ·have hs1:(st == 1)=true:=by simpa using s1
     have HE:=Hmq (HL0.out true (by rw [HLO.out];simp [s1,hx0]))
     clear HL0 HLO
     have HAB2:=Hmq (HAB.out wo (Mod.refl _ _))
     have HK3:=Hmq (HKo.out.trans (zAm.quiet (Mod.refl _ _)))
     clear HAB HHo HKo
     go_wp2_with fail
     refine HAB2.out.mono ?_
     rintro e w4 ⟨rfl,y4,hH4,hK4⟩
     have HF:Hid (zAe w4 n c g y4 (zIv s k (i+1))/\zAm w2 y w4 y4):=⟨by rw [HE.out];exact hH4,HK3.out.trans hK4⟩
     clear hH4 hK4 HAB2
     go_wp2_with fail
     go_roundw
     case rel=>exact ⟨i+1,y4,by omega,by go_num,HF.out.1,HF.out.2⟩
     case measure=>simp [intOf];omega
    ·have hs1:(st == 1)=false:=by simpa using s1
     by_cases s2:st=2
     ·have hs2:(st == 2)=true:=by simpa using s2
      cases hpc:zDl (zAp s k).log 2 ((i:Int)+1) with
      | none=>
       rw [hpc] at HPL
       have HE:=Hmq (HL0.out true (by rw [HLO.out];simp [s2,hx0,hpc]))
       clear HL0 HLO
       go_upto_region 5 with (first
        | (go_at_call 145;refine HPL.out.mono ?_;rintro e w3 ⟨rfl,hm3⟩;simp only [idxI])
        | fail)
       have q1:=hm3.cell t1 (fun e=>e)
       have q2:=hm3.cell hac (fun e=>e)
       have HM3:=Hmq hm3
       clear hm3 HPL
       have HAB2:=Hmq (HAB.out w3 HM3.out)
       have HK3:=Hmq (HKo.out.trans (zAm.quiet HM3.out))
       clear HAB HHo HKo
       go_wp2_with fail
       refine HAB2.out.mono ?_
       rintro e w4 ⟨rfl,y4,hH4,hK4⟩
       have HF:Hid (zAe w4 n c g y4 (zIv s k (i+1))/\zAm w2 y w4 y4):=⟨by rw [HE.out];exact hH4,HK3.out.trans hK4⟩
       clear hH4 hK4 HAB2
       go_wp2_with fail
       go_roundw
       case rel=>exact ⟨i+1,y4,by omega,by go_num,HF.out.1,HF.out.2⟩
       case measure=>simp [intOf];omega
      | some j=>
       rw [hpc] at HPL
       have hj0:decide ((j:Int)<0)=false:=decide_eq_false (by omega)
       have HF:Hid (∀ wq,Mod zAb wo wq->zAe wq n c g yr (zIv s k (i+1))/\zAm w2 y wq yr):=fun wq hq=>⟨by rw [HL0.out false (by rw [HLO.out];simp [s2,hpc])];exact HHo.out.quiet hq,HKo.out.trans (zAm.quiet hq)⟩
       clear HL0 HLO HHo HKo HAB
       go_upto_region 5 with (first
        | (go_at_call 145;refine HPL.out.mono ?_;rintro e w3 ⟨rfl,hm3⟩;simp only [idxI])
        | fail)
       have q1:=hm3.cell t1 (fun e=>e)
       have q2:=hm3.cell hac (fun e=>e)
       have HM3:=Hmq hm3
       clear hm3 HPL
       have HF2:=Hmq (HF.out w3 HM3.out)
       clear HF
       go_wp2_with fail
       go_roundw
       case rel=>exact ⟨i+1,yr,by omega,by go_num,HF2.out.1,HF2.out.2⟩
       case measure=>simp [intOf];omega
     ·have hs2:(st == 2)=false:=by simpa using s2
      have HF:Hid (∀ wq,Mod zAb wo wq->zAe wq n c g yr (zIv s k (i+1))/\zAm w2 y wq yr):=fun wq hq=>⟨by rw [HL0.out false (by rw [HLO.out];simp [s1,s2])];exact HHo.out.quiet hq,HKo.out.trans (zAm.quiet hq)⟩
      clear HL0 HLO HHo HKo HAB
      have HF2:=Hmq (HF.out wo (Mod.refl _ _))
      clear HF
      go_wp2_with fail
      go_roundw
      case rel=>exact ⟨i+1,yr,by omega,by go_num,HF2.out.1,HF2.out.2⟩
      case measure=>simp [intOf];omega
  ·obtain rfl:i=s.txs.length:=by omega
   have HF:Hid (∃ y',zAe wo n c g y' (zDt s k)/\zAm w y wo y'):=⟨yr,hH,HK2.out.trans hK⟩
   clear hH hK
   go_wp2_with fail
   go_end0
   exact ⟨rfl,HF.out⟩
theorem zAe.turnD{w w':World}{n c g:Nat}{y:HLay}{s:zAa}(h:zAe w n c g y s){d:List Int}(hm:Mod (zAd y.dr) w w')(hD:zEz w' n (some y.dr) d):zAe w' n c g y { s with dead:=d }/\zAm w y w' y:=by
 have own:=h.own
 have hq:Qm w (y.lo n) (zAd y.dr):=fun z hz e=>by
  simp only [zAd] at e
  subst e
  rintro (e1 | ⟨⟨cur,fr,e1⟩,_⟩)
  ·have h9:=(own.lt y.dr (by rw [own.dead];simp)).1
   have h8:y.dr<n:=e1
   omega
  ·rcases h.dead with ⟨e,_⟩ | ⟨b,D,e,_,⟨es,clock,h2,_⟩,_⟩
   ·cases e
   ·cases e
    rw [h2] at e1;simp at e1
 have ht:zKo w w' n y (fun t=>t=.dead):=⟨⟨_,hm,hq,fun z hz e=>by
  simp only [zAd] at e
  subst e
  exact ⟨own.dead,by rw [own.dead];simp⟩⟩⟩
 refine ⟨⟨h.fMain ht (by simp),h.fNet ht (by simp),hD,h.fTab ht (by simp),h.qn,h.fLrow ht (by simp),h.llen,fun k b l hb hl=>h.fLine ht hb hl (by simp) (fun d _=>by simp),h.fTrow ht (by simp),h.tlen,fun i b t hb hti=>h.fTx ht hb hti (by simp),own.more hm.size⟩,⟨hm.mono (fun z hz e=>by simp only [zAd] at e;subst e;rw [own.dead];simp),fun _ _=>rfl⟩,rfl,rfl,rfl,rfl,rfl⟩
theorem yRb(n c g:Nat)(y:HLay)(s:zAa)(id:Int)(w:World)(h:zAe w n c g y s)(hs:zGd s)(hid:zBc id)(hd1:s.dead.length<=1000)(hd2:s.net.down.length<=1000)(hlo:s.net.lost+200<=4611686018427387904) :
  Calls Tryz.prog 48 #[.pointer (some ⟨g,0,none⟩),.int .i64 id] w (PutP w n c g y (zEo s id).1 (zEo s id).2):=by
 have HND:=Hmq (yAy n c g y s id w h hs)
 have HH:=Hmq h
 cases hno:zIo s id with
 | none=>
  rw [hno] at HND
  have HE:Hid (zEo s id=(s,7)):=by unfold Hid zEo;rw [hno];rfl
  clear h hno
  go_enter Tryz.func48,Tryz.ntmps48
  go_upto_region 2 with (first
   | (go_at_call 79;refine HND.out.mono ?_;rintro e w3 ⟨hfo,hm3⟩;obtain rfl:=zVv hfo)
   | fail)
  have HF:Hid (PutP w n c g y (zEo s id).1 (zEo s id).2 (.returned (.iface 25 (.int .i64 7))) w3):=by
   unfold Hid;rw [HE.out];exact ⟨by rw [zBa (by omega)],y,HH.out.quiet hm3,zAm.quiet hm3⟩
  clear hm3
  go_wp2_with fail
  go_ret
  exact HF.out
 | some kj=>
  obtain ⟨kk,j⟩:=kj
  rw [hno] at HND
  have HE:Hid (zEo s id=({ s with dead:=s.dead++[id],net:=yBu s.net id },0)):=by unfold Hid zEo;rw [hno];rfl
  have hkey:keyOf Tryz.prog 3 (.int .i64 id)=some (.int .i64 id):=keyOf_int_mk Tryz.underlying3 (zRp hid)
  clear h hno
  go_enter Tryz.func48,Tryz.ntmps48
  go_upto_region 4 with (first
   | (go_at_call 79;refine HND.out.mono ?_;rintro e w3 ⟨hfo,hm3⟩;obtain ⟨b,d,-,-,rfl⟩:=zVu hfo)
   | fail)
  have HH3:=Hmq (HH.out.quiet hm3)
  have HK3:Hid (zAm w y w3 y):=zAm.quiet hm3
  obtain ⟨-,c1,-⟩:=blkH HH3.out.blk
  have hg3:=HH3.out.blk.lt
  have hdn:=HH3.out.dead
  rcases hdn with ⟨e,_⟩ | ⟨b',D,e,hLb,hown,hhas⟩
  ·cases e
  cases e
  have HO:=Hmq hown
  have HHA:=Hmq hhas
  clear hown hhas hm3 hfo HND
  go_upto_region 5 with (first
   | (at_mapUpdate;refine wpList_mapUpdate_own _ rfl _ _ _ 81 rfl 3 119 kInt Tryz.underlying81 unitElem y.dr _ D rfl HO.out (by unfold maxLen;omega) _ _ _ rfl rfl hkey _ [] unitElem_mk ?_;intro w4 hown4 hgrow4)
   | fail)
  have hm4:Mod (zAd y.dr) w3 w4:=(Mod.refl _ w3).grown hgrow4 (fun x hx _=>by cases hx;rfl)
  obtain ⟨hH4,hK4⟩:=HH3.out.turnD hm4 (zEz.put (L:=⟨n,fun _=>False⟩) HHA.out HO.out.isMap hLb (Nat.le_refl _) hid hown4)
  have HDW:=Hmq (yRh (y.lo n) g y.wv y.mr s.net id w4 hH4.netP hid (by omega) hlo)
  have HH4:=Hmq hH4
  have HK4:=Hmq (HK3.out.trans hK4)
  have hg4:=hH4.blk.lt
  clear hH4 hK4 hm4 hown4 hgrow4 HO HHA c1
  go_wp2_with fail
  refine HDW.out.mono ?_
  rintro e w5 ⟨wv5,mr5,rfl,hN5,hv5,hmr5,hm5⟩
  obtain ⟨hH5,hS5⟩:=HH4.out.turnW hm5 hN5 (.inl hv5) hmr5
  have HF:Hid (PutP w n c g y (zEo s id).1 (zEo s id).2 (.returned .nilIface) w5):=by
   unfold Hid;rw [HE.out];exact ⟨by rw [zCc],_,hH5,HK4.out.trans ⟨hS5,rfl,rfl,rfl,rfl,rfl⟩⟩
  clear hH5 hS5 hN5 hm5 HDW
  go_wp2_with fail
  go_ret
  exact HF.out
theorem zRl{P:Program}{w w':World}{ops:Array Oper}{rest:List Oper}{o:Oper}{a:Act}{Q:Exit->Act->World->Prop}{v:Value}(hgd:o.guard=none)(hrun:(execOp a.eval o).run P w=.ok (.value v) w')(h:wpList P ops Q rest (a.put o.dst v) w'):wpList P ops Q (o :: rest) a w:=by
 refine wpList_plain hgd fun K hK=>?_
 unfold Oper.wp
 rw [hrun]
 exact hK _ _ h
structure zEp(w:World)(L:Lo)(bs:List Nat)(nv lv:Nat->Value)(ns:List zAl):Prop where
 len:bs.length=ns.length
 nd:bs.Nodup
 node:∀ (j c:Nat) s,bs[j]?=some c->ns[j]?=some s->zAx w L c (nv c) (lv c) s
 ap:∀ c∈bs,∀ c'∈bs,c≠c'->∀ z,zAs c (nv c) (lv c) z->¬ zAs c' (nv c') (lv c') z
theorem zEp.quiet{w w':World}{L:Lo}{bs:List Nat}{nv lv:Nat->Value}{ns:List zAl}(h:zEp w L bs nv lv ns)(hm:Mod zAb w w'):zEp w' L bs nv lv ns:=⟨h.len,h.nd,fun j c s hc hs=>(h.node j c s hc hs).quiet hm,h.ap⟩
def updV(f:Nat->Value)(d:Nat)(v:Value):Nat->Value:=fun x=>if x=d then v else f x
theorem zFl(f:Nat->Value)(d:Nat)(v:Value):updV f d v d=v:=by simp [updV]
theorem zFk(f:Nat->Value){d x:Nat}(v:Value)(h:x≠d):updV f d v x=f x:=by simp [updV,h]
theorem zEp.turn{w w':World}{L:Lo}{bs:List Nat}{nv lv:Nat->Value}{ns:List zAl}(h:zEp w L bs nv lv ns){j c:Nat}(hc:bs[j]?=some c){nv' lv':Value}{x:zAl}(hm:Mod (zAs c (nv c) (lv c)) w w')(hN:zAx w' L c nv' lv' x)(h1:zCf w (nv c) nv')(h2:zCf w (lv c) lv'):zEp w' L bs (updV nv c nv') (updV lv c lv') (ns.set j x):=by
 have hcm:=List.mem_of_getElem? hc
 have hjl:j<ns.length:=by have:=(List.getElem?_eq_some_iff.1 hc).1;have:=h.len;omega
 have hold:=h.node j c _ hc (List.getElem?_eq_getElem hjl)
 have hlt:∀ d∈bs,∀ z,zAs d (nv d) (lv d) z->z<w.heap.size:=fun d hd z hz=>by
  obtain ⟨i,hi⟩:=List.getElem?_of_mem hd
  have hil:i<ns.length:=by have:=(List.getElem?_eq_some_iff.1 hi).1;have:=h.len;omega
  exact ((h.node i d _ hi (List.getElem?_eq_getElem hil)).lt hz).2.1
 have hmay:∀ z,zAs c nv' lv' z->z<w.heap.size->zAs c (nv c) (lv c) z:=fun z hz hl=>by
  rcases hz with e | e | e
  ·exact .inl e
  ·rcases h1 with q | q
   ·exact .inr (.inl (by rw [<-q];exact e))
   ·have:=q z e;omega
  ·rcases h2 with q | q
   ·exact .inr (.inr (by rw [<-q];exact e))
   ·have:=q z e;omega
 refine ⟨by rw [List.length_set];exact h.len,h.nd,fun i d s hd hs=>?_,fun d hd d' hd' hne z hz=>?_⟩
 ·rw [zDn] at hs
  by_cases e:i=j
  ·rw [if_pos ⟨e,by omega⟩] at hs
   cases hs
   subst e
   rw [hc] at hd;cases hd
   rw [zFl,zFl];exact hN
  ·rw [if_neg (fun q=>e q.1)] at hs
   have hne:d≠c:=fun q=>e (by subst q;exact zKh h.nd hd hc)
   rw [zFk _ _ hne,zFk _ _ hne]
   exact zAx.mod (h.node i d s hd hs) hm (zAx.qm hold) (fun z hz q=>h.ap d (List.mem_of_getElem? hd) c hcm hne z hz q)
 ·by_cases e:d=c
  ·subst e
   have hne':d'≠d:=fun q=>hne q.symm
   rw [zFl,zFl] at hz
   rw [zFk _ _ hne',zFk _ _ hne']
   intro q
   have hzl:=hlt d' hd' z q
   exact h.ap d hd d' hd' hne z (hmay z hz hzl) q
  ·rw [zFk _ _ e,zFk _ _ e] at hz
   by_cases e2:d'=c
   ·subst e2
    rw [zFl,zFl]
    intro q
    exact h.ap d hd d' hd' hne z hz (hmay z q (hlt d hd z hz))
   ·rw [zFk _ _ e2,zFk _ _ e2]
    exact h.ap d hd d' hd' hne z hz
theorem zOf:∀ (ms:List MsgD) (us:List Value) (ms':List MsgD) (us':List Value),us.length=ms.length->zAj (ms++ms') (us++us')=zAj ms us++zAj ms' us'
 | [],[],ms',us',_=>by simp [zAj]
 | [],_ :: _,_,_,h=>by simp at h
 | _ :: _,[],_,_,h=>by simp at h
 | m :: ms,u :: us,ms',us',h=>by simp [zAj,zOf ms us ms' us' (by simpa using h)]
theorem zOe{w:World}{L:Lo}:∀ (ms:List MsgD) (us:List Value),us.length=ms.length->(∀ (i:Nat) m u,ms[i]?=some m->us[i]?=some u->zAy w L u m.cmd.writes)->∀ u∈zAj ms us,u.oneCell'=true
 | [],[],_,_=>by simp [zAj]
 | [],_ :: _,h,_=>by simp at h
 | _ :: _,[],h,_=>by simp at h
 | m :: ms,u :: us,h,hp=>by
  intro x hx
  rcases List.mem_append.1 hx with e | e
  ·obtain ⟨a,cap,rfl,_⟩:=hp 0 m u rfl rfl
   exact yDn m a _ cap x e
  ·exact zOe ms us (by simpa using h) (fun i m' u' h1 h2=>hp (i+1) m' u' (by simpa using h1) (by simpa using h2)) x e
theorem RowM.join{w:World}{L:Lo}{v r:Value}{ms ms':List MsgD}(h:RowM w L v ms)(k:RowM w L r ms')(hl:ms.length+ms'.length<=1000)(hb:L.n<=w.heap.size)(ty:TypeId) :
  ∃ v' w',(Builtin.append_ #[82,82] ty #[v,r]).run Tryz.prog w=.ok v' w'/\RowM w' L v' (ms++ms')/\w.grownBy w' v.ownBlock/\(v'.ownBlock=v.ownBlock\/v'.ownBlock=some w.heap.size):=by
 obtain ⟨i0,hi,hz0,hz1,hz2⟩:=info_parts Tryz.info110
 obtain ⟨us,h1,h2,h3,h4⟩:=h
 obtain ⟨us',k1,k2,k3,k4⟩:=k
 rcases k2.2 with ⟨e,e0⟩ | ⟨g',cap',cur,e,_⟩
 ·subst e
  have hnil:ms'=[]:=List.eq_nil_of_length_eq_zero e0
  subst hnil
  refine ⟨v,w,run_append_owned_none (P:=Tryz.prog) (w:=w) L.n 82 ty 110 i0 9 Tryz.underlying82 hi v _ _ h2,by rw [List.append_nil];exact ⟨us,h1,h2,h3,h4⟩,⟨rfl,rfl,rfl,Nat.le_refl _,fun _ _ _=>rfl⟩,.inl rfl⟩
 ·subst e
  have hcl:=k2.cells (g:=g') rfl
  obtain ⟨v',w',hr,hown,hgr,_,hat⟩:=run_append_own_at (P:=Tryz.prog) w L.n 82 ty 110 i0 _ 9 88 Tryz.underlying82 hi hz0 hz1 hz2 rfl (by omega) v _ _ h2 ⟨g',0,none⟩ ms'.length cap' (zAj ms' us') (zCn ms' us' k1) hcl (zOe ms' us' k1 k3) (by unfold maxLen;omega) (by omega) hb
  have hm:Mod (fun z=>v.ownBlock=some z) w w':=(Mod.refl _ w).grown hgr (fun x hx _=>hx)
  have hq:=Qm.row h2 (Nat.le_refl _) (by decide)
  refine ⟨v',w',hr,⟨us++us',by rw [List.length_append,List.length_append,h1,k1],?_,fun i m u hi' hu=>?_,fun m hm'=>?_⟩,hgr,hat⟩
  ·rw [zOf ms us ms' us' h1,List.length_append];exact hown
  ·by_cases hlt:i<ms.length
   ·rw [List.getElem?_append_left hlt] at hi'
    rw [List.getElem?_append_left (by omega)] at hu
    exact (h3 i m u hi' hu).mod hm hq
   ·rw [List.getElem?_append_right (by omega)] at hi'
    rw [List.getElem?_append_right (by omega),h1] at hu
    exact (k3 _ m u hi' hu).mod hm hq
  ·rcases List.mem_append.1 hm' with e | e
   ·exact h4 m e
   ·exact k4 m e
end Go.Proofs.YtogaigioeohjaaaGreatDoor
