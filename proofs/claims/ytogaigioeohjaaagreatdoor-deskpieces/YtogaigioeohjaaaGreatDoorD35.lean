import Derived.Test.YtogaigioeohjaaaGreatDoorD34
set_option linter.unusedVariables false
set_option maxRecDepth 100000
set_option maxHeartbeats 16000000
namespace Go.Proofs.YtogaigioeohjaaaGreatDoor
open Go.RowKit Go.Lib Go.Maps
theorem yLw(n c g:Nat)(y:HLay)(s:zAa)(w:World)(h:zAe w n c g y s)(hS:Safe s) :
  Calls Tryz.prog 69 #[.pointer (some ⟨g,0,none⟩)] w fun e w'=>e=.returned (.int .i64 (zGi s))/\Mod zAb w w':=by
 obtain ⟨c0,-⟩:=blkH h.blk
 obtain ⟨la,lcap,hlv⟩:=zAg h.lrow
 have hll:=hS.ll
 have hlen:=h.llen
 rw [hlv,hlen] at c0
 have HH:=Hmq h
 have HS:=Hmq hS
 clear h hS hlv
 go_enter Tryz.func69,Tryz.ntmps69
 go_wp2_with fail
 go_loopw [3,12] (fun a0 k0 wr=>∃ (k:Nat),k<=s.lines.length/\k0=.int .i64 k/\a0=.int .i64 (zSl s k)/\Mod zAb w wr) (fun _ k0 _=>s.lines.length - (intOf k0).toNat)
 case atStart=>exact ⟨0,Nat.zero_le _,rfl,rfl,Mod.refl _ _⟩
 case round=>
  obtain ⟨k,hkl,rfl,rfl,hM⟩:=hrel
  obtain ⟨wo,hwo⟩:∃ x,x=wr:=⟨_,rfl⟩
  subst hwo
  by_cases hlt:k<s.lines.length
  ·have hH:=HH.out.quiet hM
   obtain ⟨b,hb,hL⟩:=hH.lineQ hlt
   have HLI:=Hmq (zNi n c g y s k b wo hH HS.out.shape hlt hb)
   have hkI:(k:Int)<(s.lines.length:Int):=by omega
   have hk0:(0:Int)<=(k:Int):=by omega
   have hT:=yAt HS.out k hkl
   have HI:=Hmq (fun i=>yLx HS.out hlt i)
   have HB:=Hmq hb
   have HM:=Hmq hM
   have HSU:=Hmq (zSk s k)
   have HAL:=Hmq (yHz s k)
   clear hH hL hb hM
   go_wp2_with fail
   refine HLI.out.mono ?_
   rintro e w1 ⟨v,rfl,hv,hm1⟩
   have hvv:∃ va vc,v=.slice va (zBl s k).length vc:=by obtain ⟨va,vc,e,_⟩:=hv;exact ⟨va,vc,e⟩
   obtain ⟨va,vc,hva⟩:=hvv
   subst hva
   have HV:=Hmq hv
   have HM1:=Hmq (HM.out.trans hm1)
   have hl4:(zBl s k).length<=4:=by
    rw [zMf]
    have h2:(zAk s k).length<=(s.line k).nodes.length:=List.length_filter_le _ _
    have:=HS.out.len4 hlt
    omega
   clear hv hm1 HLI
   go_wp2_with fail
   go_loopw [3,19] (fun a0 i0 wi=>∃ (i:Nat),i<=(zBl s k).length/\i0=.int .i64 i/\a0=.int .i64 ((zSl s k:Int)+(zOk s k i:Int))/\Mod zAb w wi/\Mod zAb w1 wi) (fun _ i0 _=>(zBl s k).length - (intOf i0).toNat)
   case atStart=>exact ⟨0,Nat.zero_le _,rfl,by simp [zOk],HM1.out,Mod.refl _ _⟩
   case round=>
    obtain ⟨i,hil,rfl,rfl,hMi,hMr⟩:=hrel
    have hIl:=HI.out i
    by_cases hilt:i<(zBl s k).length
    ·obtain ⟨j,hj⟩:∃ j,(zBl s k)[i]?=some j:=⟨_,List.getElem?_eq_getElem hilt⟩
     obtain ⟨va',vc',e1,e2⟩:=HV.out
     simp only [Value.slice.injEq] at e1
     obtain ⟨e1,-,-⟩:=e1
     subst e1
     obtain ⟨lg,d,rfl,hd,hc,-⟩:=e2 i j hj
     have hHi:=HH.out.quiet hMi
     have hN:=hHi.nodeB HB.out (List.mem_of_getElem? hd)
     rw [hHi.st_eq HB.out (zBj hlt) hd (zEh (zIp hj).1)] at hN
     have HLE:=Hmq (zYp _ _ _ _ _ _ hN)
     have hci:=hMr.cell hc id
     have hiI:(i:Int)<((zBl s k).length:Int):=by omega
     have hi0:(0:Int)<=(i:Int):=by omega
     have hfew:=(HS.out.line k hlt).few _ (List.mem_of_getElem? (zEh (zIp hj).1))
     have HKS:=Hmq (yDr hj)
     have HMi:=Hmq hMi
     have HMr:=Hmq hMr
     clear hHi hN hMi hMr hj hd hc e2
     generalize (zAo s k j).log.length=ln at HLE hfew HKS
     go_wp2_with fail
     refine HLE.out.mono ?_
     rintro e w3 ⟨rfl,rfl⟩
     clear HLE
     go_wp2_with fail
     go_roundw
     case rel=>exact ⟨i+1,by omega,by go_num,by rw [HKS.out];go_num,HMi.out,HMr.out⟩
     case measure=>simp [intOf];omega
    ·obtain rfl:i=(zBl s k).length:=by omega
     have HMi:=Hmq hMi
     clear hMi hMr
     go_wp2_with fail
     go_roundw
     case rel=>exact ⟨k+1,by omega,by go_num,by rw [HSU.out,<-HAL.out];rfl,HMi.out⟩
     case measure=>simp [intOf];omega
  ·obtain rfl:k=s.lines.length:=by omega
   have HM:=Hmq hM
   clear hM
   go_wp2_with fail
   go_ret
   exact ⟨rfl,HM.out⟩
def yGw(k:Nat)(h:zAa)(j:Nat):zAa:=zLb (setNode h k j (zEd (zAo h k j)).1) (zEd (zAo h k j)).2
theorem zUr{k j:Nat}{h:zAa}(hv:zAu h (zAo h k j)=true):tick1 k h j=yGw k h j:=by unfold tick1;rw [if_pos hv];rfl
theorem yHa{k j:Nat}{h:zAa}(hv:zAu h (zAo h k j)=false):tick1 k h j=h:=by unfold tick1;rw [if_neg (by rw [hv];simp)]
theorem zRr{s:zAa}{k:Nat}(hk:k<s.lines.length):∀ (js:List Nat) (S:zAa),Safe S->zCk s S->(∀ j∈js,j<(s.line k).nodes.length)->js.foldl (tick1 k) S=(js.filter fun j=>zAu s (zAo s k j)).foldl (yGw k) S
 | [],S,_,_,_=>rfl
 | j :: js,S,a,b,hj=>by
  have hjl:=hj j (by simp)
  have hlv:zAu S (zAo S k j)=zAu s (zAo s k j):=b.mv.lives hjl
  obtain ⟨c,d⟩:=a.tick1 (k:=k) (j:=j) (by rw [b.mv.ll];exact hk)
  have ih:=zRr hk js (tick1 k S j) c (b.trans d) (fun x hx=>hj x (by simp [hx]))
  rw [List.foldl_cons,ih,List.filter_cons]
  cases hv:zAu s (zAo s k j) with
  | true=>rw [hv] at hlv;rw [zUr hlv];rfl
  | false=>rw [hv] at hlv;rw [yHa hlv];rfl
theorem yGz{s:zAa}(h:Safe s){k:Nat}(hk:k<s.lines.length):zDq s k=(zBl s k).foldl (yGw k) s:=
 zRr hk (List.range (s.line k).nodes.length) s h (zCk.refl s) (fun j hj=>List.mem_range.1 hj)
def zMo(s:zAa)(m:Nat):zAa:=(List.range m).foldl zDq s
theorem zUo(s:zAa)(m:Nat):zMo s (m+1)=zDq (zMo s m) m:=by unfold zMo;rw [List.range_succ,List.foldl_append];rfl
theorem yGv{s:zAa}(h:Safe s):∀ m,m<=s.lines.length->Safe (zMo s m)/\zCk s (zMo s m)/\(zMo s m).net.lost<=s.net.lost+4*m:=by
 intro m
 induction m with
 | zero=>exact fun _=>⟨h,zCk.refl s,by simp [zMo]⟩
 | succ m ih=>
  intro hm
  rw [zUo]
  obtain ⟨a,b,c⟩:=ih (by omega)
  have hmS:m<(zMo s m).lines.length:=by rw [b.mv.ll];omega
  obtain ⟨a',b'⟩:=zKb a hmS
  obtain ⟨_,d',_⟩:=zPb m (List.range ((zMo s m).line m).nodes.length) (zMo s m)
  have h4:=a.len4 hmS
  rw [List.length_range] at d'
  refine ⟨a',b.trans b',?_⟩
  show (zDq (zMo s m) m).net.lost<=_
  unfold zDq
  omega
def zKw(s:zAa)(k i:Nat):zAa:=((zBl s k).take i).foldl (yGw k) s
theorem zUp{s:zAa}{k i j:Nat}(h:(zBl s k)[i]?=some j):zKw s k (i+1)=yGw k (zKw s k i) j:=by unfold zKw;rw [zBt h,List.foldl_append];rfl
theorem yGx{s:zAa}(h:Safe s){k:Nat}(hk:k<s.lines.length):∀ i,i<=(zBl s k).length->Safe (zKw s k i)/\zCk s (zKw s k i)/\(zKw s k i).net.lost<=s.net.lost+i:=by
 intro i
 induction i with
 | zero=>exact fun _=>⟨h,zCk.refl s,by simp [zKw]⟩
 | succ i ih=>
  intro hi
  obtain ⟨a,b,c⟩:=ih (by omega)
  obtain ⟨j,hj⟩:∃ j,(zBl s k)[i]?=some j:=⟨_,List.getElem?_eq_getElem (by omega)⟩
  obtain ⟨hjl,hjv⟩:=zIp hj
  rw [zUp hj]
  have hv:zAu (zKw s k i) (zAo (zKw s k i) k j)=true:=by rw [b.mv.lives hjl];exact hjv
  rw [<-zUr hv]
  obtain ⟨c',d'⟩:=a.tick1 (k:=k) (j:=j) (by rw [b.mv.ll];exact hk)
  have e:=zUs k (zKw s k i) j
  exact ⟨c',b.trans d',by omega⟩
theorem yFc(n c g:Nat)(y:HLay)(s:zAa)(w:World)(h:zAe w n c g y s)(hS:Safe s)(hlo:s.net.lost+20<=4611686018427387904) :
  Calls Tryz.prog 58 #[.pointer (some ⟨g,0,none⟩)] w fun e w'=>e=.returned (.tuple #[])/\∃ y',zAe w' n c g y' (zFm s)/\zAm w y w' y':=by
 obtain ⟨c0,-⟩:=blkH h.blk
 obtain ⟨la,lcap,hlv⟩:=zAg h.lrow
 have hll:=hS.ll
 have hlen:=h.llen
 rw [hlv,hlen] at c0
 have HH:=Hmq h
 have HS:=Hmq hS
 clear h hS hlv
 go_enter Tryz.func58,Tryz.ntmps58
 go_wp2_with fail
 go_loopw [10] (fun k0 wr=>∃ (k:Nat) (yr:HLay),k<=s.lines.length/\k0=.int .i64 k/\zAe wr n c g yr (zMo s k)/\zAm w y wr yr) (fun k0 _=>s.lines.length - (intOf k0).toNat)
 case atStart=>exact ⟨0,y,Nat.zero_le _,rfl,HH.out,zAm.refl _ _⟩
 case round=>
  obtain ⟨k,yr,hkl,rfl,hH,hK⟩:=hrel
  obtain ⟨wo,hwo⟩:∃ x,x=wr:=⟨_,rfl⟩
  subst hwo
  by_cases hlt:k<s.lines.length
  ·obtain ⟨tS,tT,tL⟩:=yGv HS.out k hkl
   have hk':k<(zMo s k).lines.length:=by rw [tT.mv.ll];exact hlt
   have hkT:(zMo s k).net.lost+4<=4611686018427387904:=by omega
   have hSU:=zUo s k
   rw [yGz tS hk'] at hSU
   have HSU:=Hmq hSU
   clear hSU tT tL
   generalize zMo s k=S at hH tS hkT hk' HSU
   obtain ⟨b,hb,hL⟩:=hH.lineQ hk'
   have HLI:=Hmq (zNi n c g yr S k b wo hH tS.shape hk' hb)
   have hkI:(k:Int)<(s.lines.length:Int):=by omega
   have hk0:(0:Int)<=(k:Int):=by omega
   have HHo:=Hmq hH
   have HKo:=Hmq hK
   have HB:=Hmq hb
   have HTS:=Hmq tS
   have HKK:=Hmq hk'
   clear hH hK hL hb tS hk'
   go_wp2_with fail
   refine HLI.out.mono ?_
   rintro e w1 ⟨v,rfl,hv,hm1⟩
   have hvv:∃ va vc,v=.slice va (zBl S k).length vc:=by obtain ⟨va,vc,e,_⟩:=hv;exact ⟨va,vc,e⟩
   obtain ⟨va,vc,hva⟩:=hvv
   subst hva
   have HV:=Hmq hv
   have HH1:=Hmq (HHo.out.quiet hm1)
   have HK1:=Hmq (HKo.out.trans (zAm.quiet hm1))
   have hl4:(zBl S k).length<=4:=by
    rw [zMf]
    have h2:(zAk S k).length<=(S.line k).nodes.length:=List.length_filter_le _ _
    have:=HTS.out.len4 HKK.out
    omega
   clear hv hm1 HLI
   go_wp2_with fail
   go_loopw [17] (fun i0 wi=>∃ (i:Nat) (yi:HLay),i<=(zBl S k).length/\i0=.int .i64 i/\zAe wi n c g yi (zKw S k i)/\zAm w y wi yi/\zAm w1 yr wi yi) (fun i0 _=>(zBl S k).length - (intOf i0).toNat)
   case atStart=>exact ⟨0,yr,Nat.zero_le _,rfl,HH1.out,HK1.out,zAm.refl _ _⟩
   case round=>
    obtain ⟨i,yi,hil,rfl,hHi,hKi,hKr⟩:=hrel
    obtain ⟨wi,hwi⟩:∃ x,x=wr:=⟨_,rfl⟩
    subst hwi
    by_cases hilt:i<(zBl S k).length
    ·obtain ⟨j,hj⟩:∃ j,(zBl S k)[i]?=some j:=⟨_,List.getElem?_eq_getElem hilt⟩
     obtain ⟨va',vc',e1,e2⟩:=HV.out.keep hKr.st hKr.n
     simp only [Value.slice.injEq] at e1
     obtain ⟨e1,-,-⟩:=e1
     subst e1
     obtain ⟨lg,d,rfl,hd,hc,-⟩:=e2 i j hj
     obtain ⟨tS2,tT2,tL2⟩:=yGx HTS.out HKK.out i hil
     have HSU2:=Hmq (zUp hj)
     have hjl:=(zIp hj).1
     have hjl2:j<((zKw S k i).line k).nodes.length:=by rw [tT2.mv.len];exact hjl
     have hkR:k<(zKw S k i).lines.length:=by rw [tT2.mv.ll];exact HKK.out
     generalize zKw S k i=R at hHi tS2 tL2 HSU2 hjl2 hkR
     have hbi:yi.lbs[k]?=some b:=by rw [hKr.l];exact HB.out
     have hHd:=hHi.quiet ((Mod.refl zAb wi).drewN 1)
     have hN:=hHd.nodeB hbi (List.mem_of_getElem? hd)
     rw [hHd.st_eq hbi (zBj hkR) hd (zEh hjl2)] at hN
     have HTI:=Hmq (zLr (yi.lo n) d (yi.nnv d) (yi.nlv d) (zAo R k j) wi.drew hN)
     have hiI:(i:Int)<((zBl S k).length:Int):=by omega
     have hi0:(0:Int)<=(i:Int):=by omega
     have hlen:=zNn (zAo R k j)
     have HLEN:Hid (R.net.lost+((zEd (zAo R k j)).2.length:Int)<=4611686018427387904):=by
      unfold Hid
      omega
     have HHd:Hid (zAe wi.drew n c g yi R):=hHd
     have HKi:=Hmq (hKi.trans (zAm.quiet ((Mod.refl zAb wi).drewN 1)))
     have HKr:=Hmq (hKr.trans (zAm.quiet ((Mod.refl zAb wi).drewN 1)))
     have HBi:=Hmq hbi
     have HDi:=Hmq hd
     have HKR:=Hmq hkR
     have hgi:=hHi.blk.lt
     clear hHi hN hj hd e2 tS2 tT2 tL2 hHd hKi hKr hbi hkR hjl hjl2 hlen
     go_upto_region 6 with fail
     go_region_with (first
      | (go_at_call 99;refine HTI.out.mono ?_;rintro e w7 ⟨v7,rfl,hN7,hR7,hf7,hm7⟩;obtain ⟨va7,vc7,hva7⟩:=hR7.slice;subst hva7;obtain ⟨y7,hH7,hK7,hR7',hno7⟩:=HHd.out.turnS HKR.out HBi.out HDi.out (hm7.mono (fun _ _ e=>.inl e)) hN7 (.inl rfl) (.inl rfl) hR7 hf7;(have HSE:=Hmq (zLl n c g y7 _ _ _ w7 hH7 hR7' hno7 HLEN.out));(have HK7:=Hmq (HKi.out.trans hK7));(have HR7:=Hmq (HKr.out.trans hK7));clear hH7 hK7 hR7' hno7 hN7 hR7 hf7 hm7 HTI)
      | (go_at_call 80;refine HSE.out.mono ?_;rintro e w8 ⟨⟨x8,rfl⟩,y8,hH8,hK8⟩)
      | fail)
     all_goals
      have HF:Hid (zAe w8 n c g y8 (zKw S k (i+1))/\zAm w y w8 y8/\zAm w1 yr w8 y8):=⟨by rw [HSU2.out];exact hH8,HK7.out.trans hK8,HR7.out.trans hK8⟩
      clear hH8 hK8 HSE hc
      go_wp2_with fail
      go_roundw
      case rel=>exact ⟨i+1,y8,by omega,by go_num,HF.out.1,HF.out.2.1,HF.out.2.2⟩
      case measure=>simp [intOf];omega
    ·obtain rfl:i=(zBl S k).length:=by omega
     have HF:Hid (zAe wi n c g yi (zMo s (k+1))/\zAm w y wi yi):=by
      have e:zKw S k (zBl S k).length=(zBl S k).foldl (yGw k) S:=by unfold zKw;rw [List.take_length]
      unfold Hid
      rw [HSU.out,<-e];exact ⟨hHi,hKi⟩
     clear hHi hKi hKr
     go_wp2_with fail
     go_roundw
     case rel=>exact ⟨k+1,yi,by omega,by go_num,HF.out.1,HF.out.2⟩
     case measure=>simp [intOf];omega
  ·obtain rfl:k=s.lines.length:=by omega
   have HF:Hid (∃ y',zAe wo n c g y' (zFm s)/\zAm w y wo y'):=⟨yr,hH,hK⟩
   clear hH hK
   go_wp2_with fail
   go_end0
   exact ⟨rfl,HF.out⟩
def yGm(n c g:Nat)(w:World)(y:HLay)(s:zAa)(wr:World)(f:Nat):Prop:=∃ (S:zAa) (yr:HLay),zLp s=drainF f S/\zEg S/\muS S<f/\potS S<=potS s/\zAe wr n c g yr S/\zAm w y wr yr
theorem yFp(s:zAa):s.net.lost<=potS s:=by unfold potS;omega
theorem yNe(n c g:Nat)(y:HLay)(s:zAa)(w:World)(h:zAe w n c g y s)(hC:zEg s)(hc:c<=10000)(hlo:potS s+750800<=4611686018427387904) :
  Calls Tryz.prog 70 #[.pointer (some ⟨g,0,none⟩)] w fun e w'=>e=.returned (.tuple #[])/\∃ y',zAe w' n c g y' (zLp s)/\zAm w y w' y':=by
 have HH:=Hmq h
 have HC:=Hmq hC
 have HLO:=Hmq hlo
 clear h hC hlo
 go_enter Tryz.func70,Tryz.ntmps70
 go_wp2_with fail
 go_loopw [] (fun wr=>∃ f,yGm n c g w y s wr f) (zLj (yGm n c g w y s))
 case atStart=>exact ⟨_,s,y,rfl,HC.out,Nat.lt_succ_self _,Int.le_refl _,HH.out,zAm.refl _ _⟩
 case round=>
  obtain ⟨S,yr,he,hC,hmu,hpo,hH,hK⟩:=zSj hrel
  obtain ⟨f,hff⟩:∃ f,f=zLj (yGm n c g w y s) wr:=⟨_,rfl⟩
  rw [<-hff] at he hmu
  have HFF:=Hmq hff
  clear hrel hff
  have HMA:=Hmq (yMe n c g yr S wr hH)
  have hfew:=hC.few
  obtain ⟨f',rfl⟩:∃ f',f=f'+1:=⟨f - 1,by omega⟩
  cases hw:S.net.way with
  | nil=>
   have HE:Hid (zLp s=S):=by
    unfold Hid
    rw [he]
    unfold drainF
    rw [hw];rfl
   rw [hw] at HMA hfew
   have HF:Hid (∃ y',zAe wr n c g y' (zLp s)/\zAm w y wr y'):=⟨yr,by rw [HE.out];exact hH,hK⟩
   clear hH hK hC he hmu hpo hw
   go_wp2_with fail
   refine HMA.out.mono ?_
   rintro e w1 ⟨rfl,rfl⟩
   clear HMA
   go_wp2_with fail
   go_end0
   exact ⟨rfl,HF.out⟩
  | cons m R=>
   have hne:S.net.way≠[]:=by rw [hw];simp
   have hi:S.net.way[0]?=some m:=by rw [hw];rfl
   obtain ⟨a,b,d⟩:=hC.deliver hne
   have hl1:=yFp S
   have hl2:=HLO.out
   have HDE:=Hmq (zTl n c g yr S 0 m wr hH hC.safe hC.held hc hi (by omega))
   have hpot:potS (zBb S 0)<=potS S:=by
    have e:=zLq hC.safe hC.held 0
    unfold potS;omega
   have HNX:Hid (∀ wq yq,zAe wq n c g yq (zBb S 0)->zAm w y wq yq->yGm n c g w y s wq f'):=fun wq yq h1 h2=>⟨zBb S 0,yq,by
    rw [he]
    show (if S.net.way.isEmpty=true then S else drainF f' (zBb S 0))=_
    rw [hw];rfl,a,by omega,by omega,h1,h2⟩
   have HK:=Hmq hK
   rw [hw] at HMA hfew
   have hp:(0:Int)<((m :: R).length:Int):=by simp only [List.length_cons];omega
   generalize (m :: R).length=q at HMA hp hfew
   clear hH hK hC he hmu hpo a b d hw hne hi hpot hl1 hl2
   go_wp2_with fail
   refine HMA.out.mono ?_
   rintro e w1 ⟨rfl,rfl⟩
   clear HMA
   go_wp2_with fail
   refine HDE.out.mono ?_
   rintro e w2 ⟨rfl,y2,hH2,hK2⟩
   have HI:=Hmq (HNX.out w2 y2 hH2 (HK.out.trans hK2))
   clear hH2 hK2 HDE
   go_wp2_with fail
   go_roundw
   case rel=>exact ⟨f',HI.out⟩
   case measure=>
    have h1:=zSi HI.out
    have h2:=HFF.out
    omega
def turnN:Nat->zAa->zAa
 | 0,s=>s
 | n+1,s=>zQp (turnN n s)
theorem zUm{s:zAa}(h:zEg s):∀ i,zEg (turnN i s)/\zBv s (turnN i s)/\potS (turnN i s)<=potS s+9040000000*i
 | 0=>⟨h,zBv.refl h.safe h.held,by simp [turnN]⟩
 | i+1=>by
  obtain ⟨a,b,c⟩:=zUm h i
  obtain ⟨a',b',c',_⟩:=zKv a
  refine ⟨a',b.trans b',?_⟩
  show potS (zQp (turnN i s))<=_
  omega
def yJr(n c g:Nat)(w:World)(y:HLay)(s:zAa)(b0:Value)(wr:World)(f:Nat):Prop:=∃ (S:zAa) (yr:HLay) (b:Int),b0=.int .i64 b/\zEg S/\zAe wr n c g yr S/\zAm w y wr yr/\(b≠zGi S/\zKl s=calmF f S/\10000 - zGi S<f/\potS S+36160000000*f<=potS s+36160000000*10001\/b=zGi S/\S=zKl s)
theorem yRr(n c g:Nat)(y:HLay)(s:zAa)(w:World)(h:zAe w n c g y s)(hC:zEg s)(hc:c<=10000)(hlo:potS s+400000000000000<=4611686018427387904) :
  Calls Tryz.prog 42 #[.pointer (some ⟨g,0,none⟩)] w fun e w'=>e=.returned (.tuple #[])/\∃ y',zAe w' n c g y' (zKl s)/\zAm w y w' y':=by
 have HH:=Hmq h
 have HC:=Hmq hC
 have HLO:=Hmq hlo
 clear h hC hlo
 go_enter Tryz.func42,Tryz.ntmps42
 go_wp2_with fail
 go_loopw [2] (fun b0 wr=>∃ f,yJr n c g w y s b0 wr f) (fun b0 wr=>zLj (yJr n c g w y s b0) wr)
 case atStart=>exact ⟨10001,s,y,-1,rfl,HC.out,HH.out,zAm.refl _ _,.inl ⟨by omega,rfl,by omega,Int.le_refl _⟩⟩
 case round=>
  obtain ⟨S,yr,b,hb,hC,hH,hK,hor⟩:=zSj hrel
  obtain ⟨f,hff⟩:∃ f,f=zLj (yJr n c g w y s u2) wr:=⟨_,rfl⟩
  rw [<-hff] at hor
  have HFF:=Hmq hff
  clear hrel hff
  subst hb
  have HKN:Hid (∀ wq,Mod zAb wr wq->Calls Tryz.prog 69 #[.pointer (some ⟨g,0,none⟩)] wq fun e w'=>e=.returned (.int .i64 (zGi S))/\Mod zAb wq w'):=fun wq hq=>yLw n c g yr S wq (hH.quiet hq) hC.safe
  rcases hor with ⟨hne,he,hfu,hpo⟩ | ⟨rfl,rfl⟩
  ·obtain ⟨f',rfl⟩:∃ f',f=f'+1:=⟨f - 1,by omega⟩
   have HNX:Hid (∀ wq yq,zAe wq n c g yq (calm1 S)->zAm w y wq yq->∃ f2,f2<=f'/\yJr n c g w y s (.int .i64 (zGi S)) wq f2):=fun wq yq h1 h2=>by
    obtain ⟨q1,q2,q3,_⟩:=zPy hC
    have hk2:=yQk q1.safe
    have hk1:=q2.mv.known
    have he2:zKl s=if zGi (calm1 S)=zGi S then calm1 S else calmF f' (calm1 S):=he
    by_cases e:zGi (calm1 S)=zGi S
    ·rw [if_pos e] at he2
     exact ⟨0,Nat.zero_le _,calm1 S,yq,_,rfl,q1,h1,h2,.inr ⟨by rw [e],he2.symm⟩⟩
    ·rw [if_neg e] at he2
     exact ⟨f',Nat.le_refl _,calm1 S,yq,_,rfl,q1,h1,h2,.inl ⟨by omega,he2,by omega,by omega⟩⟩
   have hl2:=HLO.out
   have hpS:potS S+36160000000+750800<=4611686018427387904:=by omega
   have hneb:((b:Int) != ((zGi S:Nat):Int))=true:=by simpa using hne
   have HK0:=Hmq (HKN.out wr (Mod.refl _ _))
   have HHS:=Hmq hH
   have HK:=Hmq hK
   have HCS:=Hmq hC
   have HFF2:Hid (zLj (yJr n c g w y s (.int .i64 b)) wr=f'+1):=HFF.out.symm
   have HPS:=Hmq hpS
   clear hH hK hC he hfu hpo hne hl2 HFF hpS
   go_upto_region 2 with (first
    | (go_at_call 69;refine HK0.out.mono ?_;rintro e w1 ⟨rfl,hm1⟩)
    | fail)
   have HK1:=Hmq (HKN.out w1 hm1)
   clear HK0 HKN
   go_upto_region 3 with (first
    | (go_at_call 69;refine HK1.out.mono ?_;rintro e w2 ⟨rfl,hm2⟩)
    | fail)
   have HH2:=Hmq (HHS.out.quiet (hm1.trans hm2))
   have HK2:=Hmq (HK.out.trans (zAm.quiet (hm1.trans hm2)))
   clear hm1 hm2 HK1
   go_wp2_with fail
   go_loopw [9] (fun i0 wi=>∃ (i:Nat) (yi:HLay),i<=4/\i0=.int .i64 i/\zAe wi n c g yi (turnN i S)/\zAm w y wi yi) (fun i0 _=>4 - (intOf i0).toNat)
   case atStart=>exact ⟨0,yr,Nat.zero_le _,rfl,HH2.out,HK2.out⟩
   case round=>
    obtain ⟨i,yi,hil,rfl,hHi,hKi⟩:=hrel
    by_cases hilt:i<4
    ·obtain ⟨a,_,p⟩:=zUm HCS.out i
     obtain ⟨a2,_,p2,_⟩:=a.tick
     have hps:=HPS.out
     have hl1:=yFp (turnN i S)
     have HTI:=Hmq (yFc n c g yi (turnN i S) wr hHi a.safe (by omega))
     have HDR:Hid (∀ wq yq,zAe wq n c g yq (zFm (turnN i S))->Calls Tryz.prog 70 #[.pointer (some ⟨g,0,none⟩)] wq fun e w'=>e=.returned (.tuple #[])/\∃ y',zAe w' n c g y' (turnN (i+1) S)/\zAm wq yq w' y'):=fun wq yq hq=>yNe n c g yq _ wq hq a2 hc (by omega)
     have hiI:(i:Int)<4:=by omega
     have hi0:(0:Int)<=(i:Int):=by omega
     have HKi:=Hmq hKi
     clear hHi hKi a a2 p p2 hps hl1
     go_wp2_with fail
     refine HTI.out.mono ?_
     rintro e w4 ⟨rfl,y4,hH4,hK4⟩
     have HDR4:=Hmq (HDR.out w4 y4 hH4)
     have HK4:=Hmq (HKi.out.trans hK4)
     clear hH4 hK4 HTI HDR
     go_wp2_with fail
     refine HDR4.out.mono ?_
     rintro e w5 ⟨rfl,y5,hH5,hK5⟩
     have HF:Hid (zAe w5 n c g y5 (turnN (i+1) S)/\zAm w y w5 y5):=⟨hH5,HK4.out.trans hK5⟩
     clear hH5 hK5 HDR4
     go_wp2_with fail
     go_roundw
     case rel=>exact ⟨i+1,y5,by omega,by go_num,HF.out.1,HF.out.2⟩
     case measure=>simp [intOf];omega
    ·have hi4:decide ((i:Int)<4)=false:=decide_eq_false (by omega)
     have HN2:Hid (∃ f2,f2<=f'/\yJr n c g w y s (.int .i64 (zGi S)) wr f2):=by
      have e:i=4:=by omega
      rw [e] at hHi
      exact HNX.out wr yi hHi hKi
     clear hHi hKi
     go_wp2_with fail
     obtain ⟨f2,hf2,hI2⟩:=HN2.out
     go_roundw
     case rel=>exact ⟨f2,hI2⟩
     case measure=>
      have h1:=zSi hI2
      have h2:=HFF2.out
      omega
  ·have HF:Hid (∀ wq,Mod zAb wr wq->∃ y',zAe wq n c g y' (zKl s)/\zAm w y wq y'):=fun wq hq=>⟨yr,hH.quiet hq,hK.trans (zAm.quiet hq)⟩
   have HK0:=Hmq (HKN.out wr (Mod.refl _ _))
   clear hH hK hC HKN HFF
   generalize zGi (zKl s)=kn at HK0
   have hbb:((kn:Int) != (kn:Int))=false:=by simp
   go_wp2_with fail
   refine HK0.out.mono ?_
   rintro e w1 ⟨rfl,hm1⟩
   have HF1:=Hmq (HF.out w1 hm1)
   clear hm1 HK0 HF
   go_wp2_with fail
   go_end0
   exact ⟨rfl,HF1.out⟩
theorem yLy{B N:Nat}{q:TbM}{s:Tab}{w:World}:AskK 192 #[] (fun _=>true) B N q s w:=by
 refine ⟨zJz Tryz.func192 (by kernel_rfl) rfl,fun k wr hk hT hm=>?_⟩
 show Calls Tryz.prog 192 #[.agg #[q.hd k true,q.hd k false]] wr _
 obtain ⟨ha,hcap,hhv⟩:=zAg (hT.rows k true hk id)
 obtain ⟨wa,wcap,hwv⟩:=zAg (hT.rows k false hk id)
 rw [hhv,hwv]
 have HM1:Hid (Mod zAb wr (wr.alloc (.cells #[.slice ha (s k).held.length hcap,.slice wa (s k).waits.length wcap] 212))):=(Mod.refl _ wr).alloc _
 clear hT hm hhv hwv
 go_enter Tryz.func192,Tryz.ntmps192
 go_wp2_with fail
 go_ret
 exact ⟨rfl,HM1.out⟩
theorem yQm(B N:Nat)(q:TbM)(s:Tab)(w:World)(h:TbP w B N q s)(hqn:q.n<=1000000) :
  Calls Tryz.prog 140 #[.pointer (some ⟨q.b,q.pre.length,none⟩)] w (yGl w s (fun _=>true) q.n):=by
 have HN:=Hmq (yAl 192 #[] (fun _=>true) B N q s w h yLy hqn)
 clear h
 go_enter Tryz.func140,Tryz.ntmps140
 go_wp2_with fail
 refine HN.out.mono ?_
 rintro e w2 ⟨v,ks,rfl,hk,hs,hv,hl,hm⟩
 obtain ⟨a,cap,rfl,h1,h2⟩:=SlR.slice hk
 have HK:=Hmq hk
 clear hk
 go_wp2_with fail
 go_ret
 exact ⟨_,ks,rfl,HK.out,hs,hv,hl,hm⟩
def zKu(s:zAa)(id:Int)(key:ByteArray):Bool:=decide (id∈(s.keys key).waits.map (·.tx))
theorem yGr(n c g q1 q2:Nat)(y:HLay)(s:zAa)(id:Int)(key:ByteArray)(w:World)(h:zAe w n c g y s)(hk:okQ key)(h1:w.cell? ⟨q1,0,none⟩=some (.pointer (some ⟨g,0,none⟩)))(h2:w.cell? ⟨q2,0,none⟩=some (.int .i64 id)) :
  Calls Tryz.prog 141 (#[.string key]++#[.pointer (some ⟨q1,0,none⟩),.pointer (some ⟨q2,0,none⟩)]) w fun e w'=>e=.returned (.bool (zKu s id key))/\Mod zAb w w':=by
 have hd:=h.quiet ((Mod.refl zAb w).drewN 1)
 have hW:Calls Tryz.prog 143 #[.pointer (some ⟨g,5,none⟩),.string key] w.drew fun e w'=>∃ u,e=.returned u/\RowI w' w.drew.heap.size u ((s.keys key).waits.map (·.tx))/\Mod zAb w.drew w':=yKc n 120 (y.tb g s.net.lost) s.keys key w.drew hd.tabP hk (by omega)
 have HWT:Hid (zKu s id key=decide (id∈(s.keys key).waits.map fun (d:ClmD)=>d.tx)):=rfl
 generalize ((s.keys key).waits.map fun (d:ClmD)=>d.tx)=tl at hW HWT
 have HW:=Hmq hW
 have hg:=h.blk.lt
 clear h hd hW
 go_enter Tryz.func141,Tryz.ntmps141
 go_upto_region 1 with fail
 go_region_with (first
  | (go_at_call 143;(refine HW.out.mono ?_;rintro e w1 ⟨u,rfl,hu,hm1⟩;(have p2:=(((Mod.refl zAb w).drewN 1).trans hm1).cell h2 (fun e=>e));obtain ⟨ua,uc,hua⟩:=zAg hu;(have HC:=Hmq (zOt u tl id w1 (zHt.of_own hu)));(have HM:=Hmq (((Mod.refl zAb w).drewN 1).trans hm1));subst hua;clear hu hm1))
  | (go_at_call 142;refine HC.out.mono ?_;rintro e w2 ⟨rfl,rfl⟩)
  | fail)
 all_goals
  go_wp2_with fail
  go_ret
  exact ⟨by rw [HWT.out];rfl,HM.out⟩
open Classical in
theorem yOr{s:zAa}{id:Int}{ks:List ByteArray}(hn:zWq s.keys (fun _=>true) ks)(hs:∀ k:ByteArray,20<k.size->(s.keys k).held=[]/\(s.keys k).waits=[]):ks.any (zKu s id)=zRq s id:=by
 have e:∀ k,(s.keys k).waits.any (fun c=>decide (c.tx=id))=zKu s id k:=fun k=>by
  unfold zKu
  rw [Bool.eq_iff_iff,List.any_eq_true,decide_eq_true_iff,List.mem_map]
  simp only [decide_eq_true_eq]
 unfold zRq
 rw [Bool.eq_iff_iff,List.any_eq_true,decide_eq_true_iff]
 constructor
 ·rintro ⟨k,_,h2⟩;exact ⟨k,by rw [e];exact h2⟩
 ·rintro ⟨k,h2⟩
  rw [e] at h2
  refine ⟨k,(hn.2 k).2 ⟨?_,?_,rfl⟩,h2⟩
  ·unfold okQ maxLen
   apply Classical.byContradiction
   intro hq
   have:=(hs k (by omega)).2
   unfold zKu at h2
   rw [this] at h2
   simp at h2
  ·intro hb
   unfold zKu at h2
   rw [hb.2] at h2
   simp at h2
theorem yIc(n c g:Nat)(y:HLay)(s:zAa)(id:Int)(w:World)(h:zAe w n c g y s)(hc:c<=10000)(hs:∀ k:ByteArray,20<k.size->(s.keys k).held=[]/\(s.keys k).waits=[]) :
  Calls Tryz.prog 85 #[.pointer (some ⟨g,0,none⟩),.int .i64 id] w fun e w'=>e=.returned (.bool (zRq s id))/\Mod zAb w w':=by
 obtain ⟨w1,hw1⟩:∃ x,x=(w.alloc (.cells #[.pointer (some ⟨g,0,none⟩)] 42)).alloc (.cells #[.int .i64 id] 3):=⟨_,rfl⟩
 have hm1:Mod zAb w w1:=by rw [hw1];exact ((Mod.refl _ w).alloc _).alloc _
 have hb0:Blk w1 w.heap.size [.pointer (some ⟨g,0,none⟩)] 42:=by rw [hw1];exact (Blk.new w _ _).mod ((Mod.refl zAb _).alloc _) (fun e=>e)
 have hb1:Blk w1 (w.heap.size+1) [.int .i64 id] 3:=by
  rw [hw1]
  have:=Blk.new (w.alloc (.cells #[.pointer (some ⟨g,0,none⟩)] 42)) [.int .i64 id] 3
  simpa using this
 have h1:=h.quiet hm1
 have x0:=hb0.cell 0 rfl
 have hg:=h1.blk.lt
 have hq:=h1.qn.2.2
 have hKE:Calls Tryz.prog 140 #[.pointer (some ⟨g,5,none⟩)] w1 (yGl w1 s.keys (fun _=>true) y.q.n):=yQm n 120 (y.tb g s.net.lost) s.keys w1 h1.tabP (by show y.q.n<=1000000;omega)
 have HKE:=Hmq hKE
 have hmf:∀ fn first cap w,(Instr.makeFunc fn first cap).run Tryz.prog w=.ok (.func fn first cap) w:=fun _ _ _ _=>rfl
 have HH:=Hmq h1
 have HB0:=Hmq hb0
 have HB1:=Hmq hb1
 have HM1:=Hmq hm1
 have HS:=Hmq hs
 clear h h1 hb0 hb1 hm1 hKE hs
 go_enter Tryz.func85,Tryz.ntmps85
 go_upto_region 1 with fail
 rw [<-hw1]
 clear hw1
 go_wp2_with fail
 refine HKE.out.mono ?_
 rintro e w2 ⟨v,ks,rfl,hks,hns,hfv,hkl,hm2⟩
 have HA:AskG 141 #[.pointer (some ⟨w.heap.size,0,none⟩),.pointer (some ⟨w.heap.size+1,0,none⟩)] (fun (d:ByteArray)=>.string d) ks (zKu s id) (fun wr=>zAe wr n c g y s/\wr.cell? ⟨w.heap.size,0,none⟩=some (.pointer (some ⟨g,0,none⟩))/\wr.cell? ⟨w.heap.size+1,0,none⟩=some (.int .i64 id)):=
  ⟨zJz Tryz.func141 (by kernel_rfl) rfl,fun wa wb hh hm=>⟨hh.1.quiet hm,hm.cell hh.2.1 (fun e=>e),hm.cell hh.2.2 (fun e=>e)⟩,fun d hd wr hh=>yGr n c g _ _ y s id d wr hh.1 ((hns.2 d).1 hd).1 hh.2.1 hh.2.2⟩
 have HCN:=Hmq (zUd 141 w2.heap.size _ _ v ks w2 _ hks HA ⟨HH.out.quiet hm2,hm2.cell (HB0.out.cell 0 rfl) (fun e=>e),hm2.cell (HB1.out.cell 0 rfl) (fun e=>e)⟩ (by omega))
 rw [yOr hns HS.out] at HCN
 obtain ⟨va,vc,hva,-,-⟩:=SlR.slice hks
 subst hva
 have HM2:=Hmq (HM1.out.trans hm2)
 clear hks hns hfv hkl hm2 HA HKE
 go_wp2_with fail
 refine HCN.out.mono ?_
 rintro e w3 ⟨rfl,hm3⟩
 have HM3:=Hmq (HM2.out.trans hm3)
 clear hm3 HCN
 go_wp2_with fail
 go_ret
 exact ⟨rfl,HM3.out⟩
theorem yTk(n c g:Nat)(y:HLay)(s:zAa)(id:Int)(w:World)(h:zAe w n c g y s)(hS:Safe s)(hHd:Held s)(hc:c<=10000)(hlo:s.net.lost+750600<=4611686018427387904) :
  Calls Tryz.prog 47 #[.pointer (some ⟨g,0,none⟩),.int .i64 id] w (PutP w n c g y (endH s id).1 (endH s id).2):=by
 have HOP:=Hmq (zSs n c g y s id w h hS.tl)
 by_cases ho:zHx s id=0
 ·rw [ho,zCc] at HOP
  obtain ⟨i,rfl,hi1,hi2,hst⟩:=zEi ho
  have HWA:=Hmq (yIc n c g y s i w h hc hHd.small)
  cases hw:zRq s i with
  | true=>
   rw [hw] at HWA
   have HD:Hid (endH s i=(s,11)):=by unfold Hid endH;rw [if_neg (fun q=>q ho),hw];rfl
   have HH:=Hmq h
   clear h ho hw
   go_enter Tryz.func47,Tryz.ntmps47
   go_wp2_with (first
    | (go_at_call 83;refine HOP.out.mono ?_;rintro e w1 ⟨rfl,rfl⟩)
    | (go_at_call 85;refine HWA.out.mono ?_;rintro e w2 ⟨rfl,hm2⟩;have HF:Hid (PutP w1 n c g y (endH s i).1 (endH s i).2 (.returned (.iface 25 (.int .i64 11))) w2):=(by unfold Hid;rw [HD.out];exact ⟨by rw [zBa (by omega)],y,HH.out.quiet hm2,zAm.quiet hm2⟩);clear hm2)
    | fail)
   go_ret
   exact HF.out
  | false=>
   rw [hw] at HWA
   have HD:Hid (endH s i=(zCo (zEe (setTx s i { s.tx i with state:=2 })),0)):=by unfold Hid endH;rw [if_neg (fun q=>q ho),hw,Int.toNat_natCast];rfl
   have hSS:Safe (setTx s i { s.tx i with state:=2 }):=hS.write (ws:=(s.tx i).writes) hi1 hi2 hst (hS.tx i hi1 hi2).few (.inr rfl)
   have hHs:Held (setTx s i { s.tx i with state:=2 }):=hHd.ending hi1 hi2 rfl hst (zJm hw)
   obtain ⟨t1,t2,-⟩:=zDv hSS
   have hTH:Held (zEe (setTx s i { s.tx i with state:=2 })):=(t2.toS t1 hHs).held
   have h300:=zRu hSS
   have htl:=hS.tl
   have HTX0:Hid (∀ wq,Mod zAb w wq->∃ b,y.tbs[i - 1]?=some b/\TxP wq n y b (s.tx i)/\Calls Tryz.prog 72 #[.pointer (some ⟨g,0,none⟩),.int .i64 i] wq fun e w'=>e=.returned (.pointer (some ⟨b,0,none⟩))/\w'=wq):=fun wq hq=>by
    obtain ⟨b,hb,hT⟩:=(h.quiet hq).txQ hi1 hi2
    exact ⟨b,hb,hT,zHy n c g y s i b wq (h.quiet hq) hi1 (by omega) hb⟩
   have HH:=Hmq h
   have HSS:=Hmq hSS
   have HTS:=Hmq t1
   have HTH:=Hmq hTH
   have HTI:=Hmq (zIj (s:=s) hi1 hi2)
   have hl3:(setTx s i { s.tx i with state:=2 }).net.lost=s.net.lost:=rfl
   clear h ho hw hSS hHs t1 t2 hTH hS hHd hst
   go_enter Tryz.func47,Tryz.ntmps47
   go_upto_region 6 with (first
    | (go_at_call 83;refine HOP.out.mono ?_;rintro e w1 ⟨rfl,rfl⟩)
    | (go_at_call 85;refine HWA.out.mono ?_;rintro e w2 ⟨rfl,hm2⟩)
    | fail)
   obtain ⟨b,hb,hT,hTX⟩:=HTX0.out w2 hm2
   have HTX:=Hmq hTX
   have p0:=hT.blk.cell 0 rfl
   have f0:=hT.blk.frozen 0
   have zb:=hT.blk.lt
   obtain ⟨w3,hw3⟩:∃ x,x=w2.setCell ⟨b,0,none⟩ (.int .i64 2):=⟨_,rfl⟩
   have hm3:Mod (zAd b) w2 w3:=by rw [hw3];exact Mod.setBlk b 0 _
   have hB3:Blk w3 b [.int .i64 2,y.tav b,y.twv b,.int .i64 (s.tx i).time] 97:=by rw [hw3];exact hT.blk.set 0 _
   have hna:=zBf hT.ats hT.blk (by decide)
   have hnw:=zBf hT.wr hT.blk (by decide)
   obtain ⟨hH3,hS3⟩:=(HH.out.quiet hm2).turnT hb HTI.out (t':={ s.tx i with state:=2 }) (av:=y.tav b) (wv:=y.twv b) (hm3.mono (fun x _ e=>.inl e)) hB3 (zAn hT.ats hm3 (fun k _ _ e q=>hna (by rw [e];exact congrArg some q))) (zAn hT.wr hm3 (fun k _ _ e q=>hnw (by rw [e];exact congrArg some q))) (.inl (.inl rfl)) (.inl (.inl rfl))
   rw [zLz] at hH3
   have hK3:zAm w1 y w3 (y.setT w2 b (y.tav b) (y.twv b)):=(zAm.quiet hm2).trans ⟨hS3,rfl,rfl,rfl,rfl,rfl⟩
   generalize y.setT w2 b (y.tav b) (y.twv b)=y3 at hH3 hK3
   have HTE:=Hmq (zXa n c g y3 _ w3 hH3 HSS.out (by rw [hl3];omega))
   have HK3:=Hmq hK3
   have HL3:Hid ((zEe (setTx s i { s.tx i with state:=2 })).net.lost<=s.net.lost+300):=by rw [hl3] at h300;exact h300.2
   clear hb hT hTX hm2 hm3 hB3 hna hnw hH3 hS3 hK3 HH HTX0 HOP HWA h300 hl3
   go_upto_region 7 with (first
    | (go_at_call 72;refine HTX.out.mono ?_;rintro e w4 ⟨rfl,rfl⟩)
    | fail)
   rw [<-hw3]
   clear hw3 p0 f0 zb
   go_wp2_with fail
   refine HTE.out.mono ?_
   rintro e w5 ⟨rfl,y5,hH5,hK5⟩
   have HSE:=Hmq (zPd n c g y5 _ w5 hH5 HTS.out HTH.out hc (by have:=HL3.out;omega))
   have HK5:=Hmq (HK3.out.trans hK5)
   clear hH5 hK5 HTE
   go_wp2_with fail
   refine HSE.out.mono ?_
   rintro e w6 ⟨rfl,y6,hH6,hK6⟩
   have HF:Hid (PutP w1 n c g y (endH s i).1 (endH s i).2 (.returned .nilIface) w6):=by unfold Hid;rw [HD.out];exact ⟨by rw [zCc],y6,hH6,HK5.out.trans hK6⟩
   clear hH6 hK6 HSE
   go_wp2_with fail
   go_ret
   exact HF.out
 ·have HF:Hid (PutP w n c g y (endH s id).1 (endH s id).2 (.returned (.iface 25 (.int .i64 (zHx s id)))) w):=by
   unfold Hid endH;rw [if_pos ho];exact ⟨by rw [zBa ho],y,h,zAm.refl _ _⟩
  rw [zBa ho] at HOP
  clear h ho
  go_enter Tryz.func47,Tryz.ntmps47
  go_wp2_with (first
   | (go_at_call 83;refine HOP.out.mono ?_;rintro e w1 ⟨rfl,rfl⟩)
   | fail)
  go_ret
  exact HF.out
end Go.Proofs.YtogaigioeohjaaaGreatDoor
