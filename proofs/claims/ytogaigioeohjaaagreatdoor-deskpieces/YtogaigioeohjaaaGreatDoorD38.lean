import Derived.Test.YtogaigioeohjaaaGreatDoorD37
set_option linter.unusedVariables false
set_option maxRecDepth 100000
set_option maxHeartbeats 16000000
namespace Go.Proofs.YtogaigioeohjaaaGreatDoor
open Go.RowKit Go.Lib Go.Maps
structure zKp(w:World)(y:HLay)(w':World)(y':HLay):Prop where
 st:zFi w y w' y'
 l:y'.lbs=y.lbs
 t:y'.tbs=y.tbs
 lv:y'.lv=y.lv
 tv:y'.tv=y.tv
theorem zKp.trans{w w1 w2:World}{y y1 y2:HLay}(h:zKp w y w1 y1)(k:zKp w1 y1 w2 y2):zKp w y w2 y2:=⟨h.st.trans k.st,k.l.trans h.l,k.t.trans h.t,k.lv.trans h.lv,k.tv.trans h.tv⟩
theorem zAm.toL{w w':World}{y y':HLay}(h:zAm w y w' y'):zKp w y w' y':=⟨h.st,h.l,h.t,h.lv,h.tv⟩
theorem zKp.refl(w:World)(y:HLay):zKp w y w y:=(zAm.refl w y).toL
theorem zKp.quiet{w w':World}{y:HLay}(hm:Mod zAb w w'):zKp w y w' y:=(zAm.quiet hm).toL
def fixT(s:zAa)(m:Nat):zAa:=(List.range m).foldl fixAt s
theorem yBm(s:zAa)(m:Nat):fixT s (m+1)=fixAt (fixT s m) m:=by unfold fixT;rw [List.range_succ,List.foldl_append];rfl
theorem zKn(l:zCs):(zBy l).2.length<=l.nodes.length:=by
 rw [<-zZf];exact zZe l _
theorem yIk{s:zAa}(h:Safe s)(hH:Held s){k:Nat}(hk:k<s.lines.length):(fixAt s k).net.lost<=s.net.lost+4:=by
 unfold fixAt
 split
 ·omega
 ·rename_i e
  obtain ⟨e1,e2⟩:=zMe e
  have hF:Safe (lineF s k):=h.lineF hk e1 e2
  obtain ⟨_,b⟩:=zLn hF (hH.lines rfl rfl) (k:=k) (by rw [zEv];exact hk)
  show (zDt (lineF s k) k).net.lost<=_
  rw [b.net]
  have h1:=(zFc (zBy ⟨zAk s k,(s.line k).heard⟩).2 s.net).2
  have h2:=zKn ⟨zAk s k,(s.line k).heard⟩
  have h3:=h.len4 hk
  show (zFd s.net _).lost<=_
  simp only at h2
  omega
theorem yMq{s:zAa}(h:Safe s)(hH:Held s):∀ m,m<=s.lines.length->ActG s (fixT s m)/\(fixT s m).net.lost<=s.net.lost+4*m:=by
 intro m
 induction m with
 | zero=>exact fun _=>⟨ActG.refl h hH,by simp [fixT]⟩
 | succ m ih=>
  intro hm
  obtain ⟨a,b⟩:=ih (by omega)
  have hmS:m<(fixT s m).lines.length:=by rw [a.ll];omega
  rw [yBm]
  have q:=(zVx a.safe a.held hmS).1
  have c:=yIk a.safe a.held hmS
  exact ⟨a.trans q,by omega⟩
theorem yLs(s:zAa)(k:Nat):(zBl s k).Pairwise (·<·):=List.Pairwise.filter _ List.pairwise_lt_range
theorem zAe.liv_eq{w:World}{n c g:Nat}{y:HLay}{s:zAa}(h:zAe w n c g y s){k b:Nat}(hk:k<s.lines.length)(hb:y.lbs[k]?=some b):y.liv s b=(zBl s k).map fun j=>(y.nbs b).getD j 0:=by
 have hL:=h.line k b _ hb (zBj hk)
 have e:y.nbs b=(List.range (s.line k).nodes.length).map fun j=>(y.nbs b).getD j 0:=by
  apply List.ext_getElem?
  intro j
  rw [List.getElem?_map]
  by_cases hj:j<(s.line k).nodes.length
  ·rw [List.getElem?_range hj,Option.map_some,List.getD_eq_getElem?_getD,List.getElem?_eq_getElem (by rw [hL.len];exact hj)];rfl
  ·rw [List.getElem?_eq_none (by rw [hL.len];omega),List.getElem?_eq_none (by simp;omega)];rfl
 unfold HLay.liv zBl
 conv=>lhs;rw [e]
 rw [List.filter_map]
 congr 1
 apply List.filter_congr
 intro j hj
 have hj':=List.mem_range.1 hj
 show zAu s (y.st s ((y.nbs b).getD j 0))=_
 have hd:(y.nbs b)[j]?=some ((y.nbs b).getD j 0):=by rw [List.getD_eq_getElem?_getD,List.getElem?_eq_getElem (by rw [hL.len];exact hj')];rfl
 rw [h.st_eq hb (zBj hk) hd (zEh hj')]
theorem zAe.livN{w:World}{n c g:Nat}{y:HLay}{s:zAa}(h:zAe w n c g y s){k b:Nat}(hk:k<s.lines.length)(hb:y.lbs[k]?=some b):zEp w (y.lo n) (y.liv s b) y.nnv y.nlv (zAk s k):=by
 rw [h.liv_eq hk hb,<-zPr]
 have hL:=h.line k b _ hb (zBj hk)
 exact (h.lineN hk hb).some (yLs s k) (fun j hj=>by
  obtain ⟨i,hi⟩:=List.getElem?_of_mem hj
  rw [hL.len];exact (zIp hi).1)
theorem yMp{s:zAa}(h:Safe s){k:Nat}(hk:k<s.lines.length)(hne:zAk s k≠[]):(0<=zDy ⟨zAk s k,(s.line k).heard⟩/\zDy ⟨zAk s k,(s.line k).heard⟩<=100)/\(∀ x∈zAk s k,x.epoch<zDy ⟨zAk s k,(s.line k).heard⟩)/\(idsL ⟨zAk s k,(s.line k).heard⟩).Nodup/\(zAk s k).length<=4:=by
 have hL:=h.line k hk
 obtain ⟨E,h1,h2,h3⟩:=hL.ep
 have hsub:(zAk s k).Sublist (s.line k).nodes:=List.filter_sublist
 have h4:=h.len4 hk
 have hEp:zDy ⟨zAk s k,(s.line k).heard⟩=E+1:=by
  unfold zDy
  cases hl:zAk s k with
  | nil=>exact absurd hl hne
  | cons a ns=>show a.epoch+1=_;rw [h3 a (hsub.subset (by rw [hl];simp))]
 rw [hEp]
 refine ⟨by omega,fun x hx=>by rw [h3 x (hsub.subset hx)];omega,?_,Nat.le_trans hsub.length_le h4⟩
 unfold idsL
 rw [List.Nodup,List.pairwise_map]
 exact (hL.ord.sublist hsub).imp (fun q=>by have:=q.1;omega)
theorem yTg(n c g:Nat)(y:HLay)(s:zAa)(w:World)(h:zAe w n c g y s)(hS:Safe s)(hHd:Held s)(hc:c<=10000)(hlo:s.net.lost+751000<=4611686018427387904) :
  Calls Tryz.prog 49 #[.pointer (some ⟨g,0,none⟩)] w fun e w'=>e=.returned (.tuple #[])/\∃ y',zAe w' n c g y' (fixH s)/\zKp w y w' y':=by
 obtain ⟨c0,-⟩:=blkH h.blk
 obtain ⟨la,lcap,hlv⟩:=zAg h.lrow
 have hll:=hS.ll
 have hlen:=h.llen
 rw [hlv,hlen] at c0
 have HLV:Hid (y.lv=.slice la s.lines.length lcap):=by unfold Hid;rw [hlv,hlen]
 have HH:=Hmq h
 have HS:=Hmq hS
 have HHd:=Hmq hHd
 clear h hS hHd hlv
 go_enter Tryz.func49,Tryz.ntmps49
 go_wp2_with fail
 go_loopw [10] (fun k0 wr=>∃ (k:Nat) (yr:HLay),k<=s.lines.length/\k0=.int .i64 k/\zAe wr n c g yr (fixT s k)/\zKp w y wr yr) (fun k0 _=>s.lines.length - (intOf k0).toNat)
 case atStart=>exact ⟨0,y,Nat.zero_le _,rfl,HH.out,zKp.refl _ _⟩
 case round=>
  obtain ⟨k,yr,hkl,rfl,hH,hK⟩:=hrel
  obtain ⟨wo,hwo⟩:∃ x,x=wr:=⟨_,rfl⟩
  subst hwo
  obtain ⟨tA,tL⟩:=yMq HS.out HHd.out k hkl
  by_cases hlt:k<s.lines.length
  ·have hk':k<(fixT s k).lines.length:=by rw [tA.ll];exact hlt
   have hkT:(fixT s k).net.lost+4<=4611686018427387904:=by omega
   have HSU:=Hmq (yBm s k)
   have tS:=tA.safe
   have tH:=tA.held
   clear tA tL
   generalize fixT s k=S at hH tS tH hkT hk' HSU
   obtain ⟨b,hb,hL⟩:=hH.lineQ hk'
   obtain ⟨lg,lcap',hv',cl⟩:=zIy hH.lrow hb
   have hla:la=some ⟨lg,0,none⟩:=by
    have e:=hK.lv
    rw [hv',HLV.out] at e
    simp only [Value.slice.injEq] at e
    exact e.1.symm
   subst hla
   have hnl:=tS.shape.nl _ (zMg hk')
   have hnb:(yr.nbs b).length=(S.line k).nodes.length:=hL.len
   have HLI:=Hmq (zPq n c g yr S k b wo hH hk' hb (by omega) (by omega))
   have hlv2:(yr.liv S b).length=(zAk S k).length:=by rw [<-hH.liv_map hk' hb,List.length_map]
   have HL2:=Hmq hlv2
   have hkI:(k:Int)<(s.lines.length:Int):=by omega
   have hk0:(0:Int)<=(k:Int):=by omega
   obtain ⟨na,ncap,hnv⟩:=zAg hL.row
   have zb:=hL.blk.lt
   have HHo:=Hmq hH
   have HKo:=Hmq hK
   have HB:=Hmq hb
   have HTS:=Hmq tS
   have HTH:=Hmq tH
   have HKK:=Hmq hk'
   have HLB:=Hmq hL.blk
   have HNV:=Hmq hnv
   clear hH hK hL hb hv' tS tH hk' hlv2 hnv
   go_upto_region 4 with (first
    | (go_at_call 67;refine HLI.out.mono ?_;rintro e w1 ⟨v,rfl,hrow,hm1⟩;rw [HL2.out] at hrow;obtain ⟨va,vc,hva⟩:=zAg hrow;subst hva)
    | fail)
   have b0:=(HLB.out.mod hm1 (fun e=>e)).cell 0 rfl
   have f0:=(HLB.out.mod hm1 (fun e=>e)).frozen 0
   rw [HNV.out,hnb] at b0
   have zb1:=Nat.lt_of_lt_of_le zb hm1.size
   have hlele:(zAk S k).length<=(S.line k).nodes.length:=List.length_filter_le _ _
   have HM1:=Hmq hm1
   have HROW:=Hmq hrow
   clear hrow hm1 HLI cl
   by_cases hz:(zAk S k).length=0
   ·have HE:Hid (fixT s (k+1)=S):=by unfold Hid;rw [HSU.out];unfold fixAt;rw [if_pos (.inl hz)]
    have HF:Hid (zAe w1 n c g yr (fixT s (k+1))/\zKp w y w1 yr):=⟨by rw [HE.out];exact HHo.out.quiet HM1.out,HKo.out.trans (zKp.quiet HM1.out)⟩
    have hzb:(((zAk S k).length:Int) == 0)=true:=by simpa using hz
    clear hz HE
    go_wp2_with fail
    go_roundw
    case rel=>exact ⟨k+1,yr,by omega,by go_num,HF.out.1,HF.out.2⟩
    case measure=>simp [intOf];omega
   ·have hzb:(((zAk S k).length:Int) == 0)=false:=by simpa using hz
    by_cases he:(zAk S k).length=(S.line k).nodes.length
    ·have HE:Hid (fixT s (k+1)=S):=by unfold Hid;rw [HSU.out];unfold fixAt;rw [if_pos (.inr he)]
     have HF:Hid (zAe w1 n c g yr (fixT s (k+1))/\zKp w y w1 yr):=⟨by rw [HE.out];exact HHo.out.quiet HM1.out,HKo.out.trans (zKp.quiet HM1.out)⟩
     have heb:(((zAk S k).length:Int) == ((S.line k).nodes.length:Int))=true:=by
      have:((zAk S k).length:Int)=((S.line k).nodes.length:Int):=by omega
      simpa using this
     clear hz he HE
     go_wp2_with (first | fail)
     go_roundw
     case rel=>exact ⟨k+1,yr,by omega,by go_num,HF.out.1,HF.out.2⟩
     case measure=>simp [intOf];omega
    ·have heb:(((zAk S k).length:Int) == ((S.line k).nodes.length:Int))=false:=by
      have:((zAk S k).length:Int)≠((S.line k).nodes.length:Int):=by omega
      simpa using this
     have hor:¬ ((zAk S k).length=0\/(zAk S k).length=(S.line k).nodes.length):=fun q=>q.elim hz he
     have HE:Hid (fixT s (k+1)=zDt (lineF S k) k):=by unfold Hid;rw [HSU.out];unfold fixAt;rw [if_neg hor];rfl
     obtain ⟨e1,e2⟩:=zMe hor
     obtain ⟨fn1,fn2,fn3,fn4⟩:=yMp HTS.out HKK.out e1
     have hFS:Safe (lineF S k):=HTS.out.lineF HKK.out e1 e2
     have hFH:Held (lineF S k):=HTH.out.lines rfl rfl
     have hnH:=HHo.out.low
     have hgl:=HHo.out.blk.lt
     have hbmem:=List.mem_of_getElem? HB.out
     -- the line has a new row
     obtain ⟨w2,hw2⟩:∃ x,x=w1.setCell ⟨b,0,none⟩ (.slice va (zAk S k).length vc):=⟨_,rfl⟩
     have hm12:Mod (zAd b) w1 w2:=by rw [hw2];exact Mod.setBlk b 0 _
     have hB2:Blk w2 b [.slice va (zAk S k).length vc,.int .i64 (S.line k).heard] 122:=by rw [hw2];exact (HLB.out.mod HM1.out (fun e=>e)).set 0 _
     have hvb:(Value.slice va (zAk S k).length vc).ownBlock≠some b:=fun e=>by have:=(zAi HROW.out e).1;omega
     have hR2:w2.ownsRow n 100 1 (.slice va (zAk S k).length vc) (yr.liv S b).length ((yr.liv S b).map ptrV):=by
      have h1:=zAn HROW.out hm12 (fun z _ _ e q=>hvb (by rw [e];exact congrArg some q))
      rw [HL2.out,zNx]
      exact zEk h1 (by omega)
     have hN2:zEp w2 (yr.lo n) (yr.liv S b) yr.nnv yr.nlv (zAk S k):=by
      refine ((HHo.out.livN HKK.out HB.out).quiet HM1.out).mod hm12 (fun z hz' e=>?_) (fun d hd z hz' e=>?_)
      ·simp only [zAd] at e
       subst e
       rintro (e5 | ⟨⟨cur,fr,e5⟩,_⟩)
       ·have h9:=(HHo.out.own.lt z (by rw [(HHo.out.own.line z hbmem).1];simp)).1
        have h8:z<n:=e5
        omega
       ·have:=HLB.out.mod HM1.out (fun e=>e)
        unfold Blk at this
        rw [this] at e5;simp at e5
      ·simp only [zAd] at e
       subst e
       have hd':d∈yr.nbs z:=(List.mem_filter.1 hd).1
       have e6:=HHo.out.own.node z hbmem d hd' z hz'
       rw [(HHo.out.own.line z hbmem).1] at e6
       cases e6
     have hm2d:Mod zAb w2 w2.drew:=(Mod.refl zAb w2).drewN 1
     have hB2d:=hB2.mod hm2d (fun e=>e)
     have hR2d:=zAn hR2 hm2d (fun _ _ _ _ e=>e)
     have hN2d:=hN2.quiet hm2d
     have hz12:wo.heap.size<=w2.drew.heap.size:=Nat.le_trans HM1.out.size (Nat.le_trans hm12.size hm2d.size)
     have HBE:=Hmq (zWj n (yr.lo n) b (yr.liv S b) yr.nnv yr.nlv ⟨zAk S k,(S.line k).heard⟩ (.slice va (zAk S k).length vc) w2.drew rfl hB2d hR2d hN2d (by show 0<(zAk S k).length;omega) fn4 fn1 fn2 fn3 (by omega))
     have hml:=zKn ⟨zAk S k,(S.line k).heard⟩
     have hsub:(yr.liv S b).Sublist (yr.nbs b):=List.filter_sublist
     have hbn:b∉yr.liv S b:=fun q=>by
      have hd':b∈yr.nbs b:=(List.mem_filter.1 q).1
      have e6:=HHo.out.own.node b hbmem b hd' b (.inl rfl)
      rw [(HHo.out.own.line b hbmem).1] at e6
      cases e6
     have HTU:Hid (∀ w7 (v7:Value) (nv7 lv7:Nat->Value),zEp w7 (yr.lo n) (yr.liv S b) nv7 lv7 (zBy ⟨zAk S k,(S.line k).heard⟩).1.nodes->RowM w7 (yr.lo n) v7 (zBy ⟨zAk S k,(S.line k).heard⟩).2->zCr w2.drew v7->(∀ d∈yr.liv S b,zCf w2.drew (yr.nnv d) (nv7 d)/\zCf w2.drew (yr.nlv d) (lv7 d))->Mod (fun z=>z∈yr.liv S b) w2.drew w7 ->
       ∃ y7,zAe w7 n c g y7 (setLine S k (zBy ⟨zAk S k,(S.line k).heard⟩).1)/\zKp wo yr w7 y7/\RowM w7 (y7.lo n) v7 (zBy ⟨zAk S k,(S.line k).heard⟩).2/\∀ z,v7.ownBlock=some z->y7.own z=.no):=fun w7 v7 nv7 lv7 q1 q2 q3 q4 q5=>by
      have hm7:Mod (fun z=>z=b\/z∈yr.liv S b) wo w7:=((HM1.out.mono (fun _ _ e=>e.elim)).trans ((hm12.mono (fun _ _ e=>.inl e)).trans (hm2d.mono (fun _ _ e=>e.elim)))).trans (q5.mono (fun _ _ e=>.inr e))
      have hvn:∀ z,(Value.slice va (zAk S k).length vc).ownBlock=some z->z∉yr.liv S b:=fun z hz' q=>by
       have h1:=(zAi HROW.out hz').1
       have hd':z∈yr.nbs b:=(List.mem_filter.1 q).1
       have e6:=HHo.out.own.node b hbmem z hd' z (.inl rfl)
       have:=(HHo.out.own.lt z (by rw [e6];simp)).2
       omega
      obtain ⟨y7,r1,r2,r3,r4,r5,r6,r7,r8⟩:=HHo.out.turnL HKK.out HB.out (l':=(zBy ⟨zAk S k,(S.line k).heard⟩).1) hm7 (hB2d.mod q5 hbn) (zAn hR2d q5 (fun z _ _ e q=>hvn z e q)) q1 hsub (.inr fun z hz'=>(zAi HROW.out hz').1) (fun d hd=>⟨(zCf.refl wo _).trans (q4 d hd).1 hz12,(zCf.refl wo _).trans (q4 d hd).2 hz12⟩)
      refine ⟨y7,r1,⟨r2,r3,r4,r5,r6⟩,by rw [r8];exact q2,fun z hz'=>r7 z (Nat.le_trans hz12 (q3 z hz')) (fun e=>?_) (fun d hd q=>q1.row q2 hd q hz')⟩
      have h1:=zAi (zAn hR2d q5 (fun z _ _ e q=>hvn z e q)) e
      obtain ⟨_,_,cur,hcur⟩:=h1
      obtain ⟨_,cur2,hcur2⟩:=q2.block hz'
      rw [hcur] at hcur2;simp at hcur2
     have HFS:=Hmq hFS
     have HFH:=Hmq hFH
     have HML:=Hmq hml
     have HLF:Hid (zLb (setLine S k (zBy ⟨zAk S k,(S.line k).heard⟩).1) (zBy ⟨zAk S k,(S.line k).heard⟩).2=lineF S k):=rfl
     have hg2:g<w2.heap.size:=Nat.lt_of_lt_of_le hgl (Nat.le_trans HM1.out.size hm12.size)
     have zb2:b<w2.heap.size:=hB2.lt
     clear hor e1 e2 fn1 fn2 fn3 hFS hFH hnH hgl hm12 hB2 hvb hR2 hN2 hm2d hB2d hR2d hN2d hz12 hml hsub hbn HTS HTH HHo HROW HM1 hz he
     go_upto_region 6 with fail
     rw [<-hw2]
     clear hw2 b0 f0 zb1
     go_region_with (first
      | (go_at_call 88;refine HBE.out.mono ?_;rintro e w7 ⟨v7,nv7,lv7,rfl,q1,q2,q3,q4,q5⟩;obtain ⟨y7,hH7,hK7,hR7,hno7⟩:=HTU.out w7 v7 nv7 lv7 q1 q2 q3 q4 q5;(have HSE:=Hmq (zLl n c g y7 _ _ _ w7 hH7 hR7 hno7 (by have:=HML.out;show S.net.lost+_<=_;simp only at this;omega)));(have HK7:=Hmq (HKo.out.trans hK7));obtain ⟨va7,vc7,hva7⟩:=q2.slice;subst hva7;clear hH7 hK7 hR7 hno7 q1 q2 q3 q4 q5 HBE HTU)
      | (go_at_call 80;refine HSE.out.mono ?_;rintro e w8 ⟨⟨x8,rfl⟩,y8,hH8,hK8⟩)
      | fail)
     all_goals
      rw [HLF.out] at hH8
      have HFO:=Hmq (yEc n c g y8 (lineF S k) k w8 hH8 HFS.out HFH.out (by rw [zEv];exact HKK.out) hc)
      have HK8:=Hmq (HK7.out.trans hK8.toL)
      clear hH8 hK8 HSE
      go_wp2_with fail
      refine HFO.out.mono ?_
      rintro e w9 ⟨rfl,y9,hH9,hK9⟩
      have HF:Hid (zAe w9 n c g y9 (fixT s (k+1))/\zKp w y w9 y9):=⟨by rw [HE.out];exact hH9,HK8.out.trans hK9.toL⟩
      clear hH9 hK9 HFO
      go_wp2_with fail
      go_roundw
      case rel=>exact ⟨k+1,y9,by omega,by go_num,HF.out.1,HF.out.2⟩
      case measure=>simp [intOf];omega
  ·obtain rfl:k=s.lines.length:=by omega
   have t3:=zRu tA.safe
   obtain ⟨u1,u2,-⟩:=zDv tA.safe
   have uH:=(u2.toS u1 tA.held).held
   have HTE:=Hmq (zXa n c g yr _ wo hH tA.safe (by omega))
   have HSE:Hid (∀ wq yq,zAe wq n c g yq (zEe (fixT s s.lines.length))->Calls Tryz.prog 82 #[.pointer (some ⟨g,0,none⟩)] wq fun e w'=>e=.returned (.tuple #[])/\∃ y',zAe w' n c g y' (fixH s)/\zAm wq yq w' y'):=fun wq yq hq=>zPd n c g yq _ wq hq u1 uH hc (show (zEe (fixT s s.lines.length)).net.lost+750300<=4611686018427387904 by omega)
   have HK:=Hmq hK
   clear hH hK tA tL t3 u1 u2 uH
   go_wp2_with fail
   refine HTE.out.mono ?_
   rintro e w1 ⟨rfl,y1,hH1,hK1⟩
   have HSE1:=Hmq (HSE.out w1 y1 hH1)
   have HK1:=Hmq (HK.out.trans hK1.toL)
   clear hH1 hK1 HTE HSE
   go_wp2_with fail
   refine HSE1.out.mono ?_
   rintro e w2 ⟨rfl,y2,hH2,hK2⟩
   have HF:Hid (∃ y',zAe w2 n c g y' (fixH s)/\zKp w y w2 y'):=⟨y2,hH2,HK1.out.trans hK2.toL⟩
   clear hH2 hK2 HSE1
   go_wp2_with fail
   go_end0
   exact ⟨rfl,HF.out⟩
open Classical in
noncomputable def HLay.addT(y:HLay)(w:World)(tv:Value)(b:Nat)(av:Value):HLay:=
 { y with tv:=tv,tbs:=y.tbs++[b],tav:=fun x=>if x=b then av else y.tav x,twv:=fun x=>if x=b then (.slice none 0 0) else y.twv x,own:=fun x=>if w.heap.size<=x/\tv.ownBlock=some x then .trow else if w.heap.size<=x/\(x=b\/av.ownBlock=some x) then .tx b else y.own x }
theorem zYr(y:HLay)(w:World)(tv:Value)(b:Nat)(av:Value){x:Nat}(h:x<w.heap.size):(y.addT w tv b av).own x=y.own x:=by
 simp only [HLay.addT]
 rw [if_neg (fun e=>by omega),if_neg (fun e=>by omega)]
theorem zAe.addT{w w':World}{n c g:Nat}{y:HLay}{s:zAa}(h:zAe w n c g y s){tv av:Value}{b:Nat}
  (hm:Mod (fun z=>z=g\/y.tv.ownBlock=some z) w w') (hB:Blk w' g [y.lv,.map (some y.dr),y.wv,.int .i64 s.net.lost,.map y.mr,.map y.q.m,tv] 90) (hr:w'.ownsRow n 93 1 tv (y.tbs.length+1) ((y.tbs++[b]).map ptrV))
  (hb:w.heap.size<=b) (hT:Blk w' b [.int .i64 1,av,.slice none 0 0,.int .i64 0] 97) (ha:w'.ownsRow n 3 1 av s.lines.length ((List.replicate s.lines.length (0:Int)).map (Value.int .i64))) (hav:∀ k,av.ownBlock=some k->w.heap.size<=k) (h1:zCf w y.tv tv) (hn:n<=w.heap.size) :
  zAe w' n c g (y.addT w tv b av) (zGk s)/\zFi w y w' (y.addT w tv b av):=by
 have own:=h.own
 have htag:∀ z,(z=g\/y.tv.ownBlock=some z)->y.own z=.main\/y.own z=.trow:=fun z e=>by
  rcases e with e | e
  ·rw [e];exact .inl own.main
  ·exact .inr (own.trow z e)
 have hq:Qm w (y.lo n) (fun z=>z=g\/y.tv.ownBlock=some z):=fun z hz e=>by
  rintro (e1 | ⟨⟨cur,fr,e1⟩,_⟩)
  ·have h8:z<n:=e1
   have:=(own.lt z (by rcases htag z e with q | q <;> rw [q] <;> simp)).1
   omega
  ·rcases e with e | e
   ·subst e
    have:=h.blk
    unfold Blk at this
    rw [this] at e1;simp at e1
   ·obtain ⟨_,_,cur2,h2⟩:=zAi h.trow e
    rw [h2] at e1;simp at e1
 have ht:zKo w w' n y (fun t=>t=.main\/t=.trow):=⟨⟨_,hm,hq,fun z hz e=>⟨htag z e,by rcases htag z e with q | q <;> rw [q] <;> simp⟩⟩⟩
 have hbn:b∉y.tbs:=fun q=>by have:=(own.lt b (by rw [(own.tx b q).1];simp)).2;omega
 have hlo:(y.addT w tv b av).lo n=y.lo n:=by
  unfold HLay.lo
  congr 1
  funext k
  apply propext
  constructor
  ·rintro ⟨t,ht,hk⟩
   rcases List.mem_append.1 ht with q | q
   ·have hne:t≠b:=fun e=>hbn (by rw [<-e];exact q)
    exact ⟨t,q,by simpa [HLay.addT,hne] using hk⟩
   ·simp at q;subst q
    simp [HLay.addT,Value.ownBlock] at hk
  ·rintro ⟨t,ht,hk⟩
   have hne:t≠b:=fun e=>hbn (by rw [<-e];exact ht)
   exact ⟨t,List.mem_append.2 (.inl ht),by simpa [HLay.addT,hne] using hk⟩
 have hkeep:∀ z,y.own z≠.no->(y.addT w tv b av).own z=y.own z:=fun z hz=>zYr _ _ _ _ _ (own.lt z hz).2
 have hrow:∀ z,tv.ownBlock=some z->(y.addT w tv b av).own z=.trow:=fun z e=>by
  by_cases hlt:z<w.heap.size
  ·rw [zYr _ _ _ _ _ hlt]
   rcases h1 with q | q
   ·exact own.trow z (by rw [<-q];exact e)
   ·have:=q z e;omega
  ·simp only [HLay.addT];rw [if_pos ⟨by omega,e⟩]
 have hnt:∀ z,z=b\/av.ownBlock=some z->tv.ownBlock≠some z:=fun z e q=>by
  obtain ⟨_,_,cur,hcur⟩:=zAi hr q
  rcases e with e | e
  ·subst e
   unfold Blk at hT
   rw [hcur] at hT;simp at hT
  ·obtain ⟨_,_,cur2,h2⟩:=zAi ha e
   rw [hcur] at h2;simp at h2
 have hnew:∀ z,z=b\/av.ownBlock=some z->(y.addT w tv b av).own z=.tx b:=fun z e=>by
  simp only [HLay.addT]
  rw [if_neg (fun q=>hnt z e q.2),if_pos ⟨e.elim (fun e=>by omega) (hav z),e⟩]
 have eB:(y.addT w tv b av).tav b=av/\(y.addT w tv b av).twv b=.slice none 0 0:=by simp [HLay.addT]
 have eN:∀ {x},x≠b->(y.addT w tv b av).tav x=y.tav x/\(y.addT w tv b av).twv x=y.twv x:=fun {x} hx=>by simp [HLay.addT,hx]
 refine ⟨⟨hB,?_,h.fDead ht (by simp),h.fTab ht (by simp),h.qn,h.fLrow ht (by simp),h.llen,fun k b' l hb' hl=>?_,?_,?_,fun i b' t hb' hti=>?_,?_⟩,?_⟩
 ·have:=h.fNet ht (by simp);rw [hlo];exact this
 ·have q:=h.fLine ht hb' hl (by simp) (fun d _=>by simp)
  refine ⟨q.blk,q.row,q.len,fun j d x hd hx=>?_⟩
  have:=q.node j d x hd hx
  unfold zQa at this ⊢
  rw [hlo];exact this
 ·show w'.ownsRow n 93 1 tv (y.tbs++[b]).length ((y.tbs++[b]).map ptrV)
  rw [List.length_append];exact hr
 ·show (y.tbs++[b]).length=(s.txs++[_]).length
  rw [List.length_append,List.length_append,h.tlen];rfl
 ·have hb2:(y.tbs++[b])[i]?=some b':=hb'
  have ht2:(s.txs++[(⟨1,List.replicate s.lines.length 0,[],0⟩:TxS)])[i]?=some t:=hti
  have htl:=h.tlen
  by_cases hlt:i<y.tbs.length
  ·rw [List.getElem?_append_left hlt] at hb2
   rw [List.getElem?_append_left (by omega)] at ht2
   have hne:b'≠b:=fun e=>hbn (by rw [<-e];exact List.mem_of_getElem? hb2)
   have q:=h.fTx ht hb2 ht2 (by simp)
   refine ⟨?_,?_,?_⟩
   ·rw [(eN hne).1,(eN hne).2];exact q.blk
   ·rw [(eN hne).1];exact q.ats
   ·rw [(eN hne).2];exact q.wr
  ·rw [List.getElem?_append_right (by omega)] at hb2 ht2
   have hi:i - y.tbs.length=0:=by
    have:=(List.getElem?_eq_some_iff.1 hb2).1
    simp at this;omega
   rw [hi] at hb2
   rw [show i - s.txs.length=0 by omega] at ht2
   simp at hb2 ht2
   subst hb2 ht2
   refine ⟨?_,?_,?_⟩
   ·rw [eB.1,eB.2];exact hT
   ·rw [eB.1]
    show w'.ownsRow n 3 1 av (List.replicate s.lines.length (0:Int)).length _
    rw [List.length_replicate];exact ha
   ·rw [eB.2];exact World.ownsRow_nil _ _ _ _
 ·refine ⟨by rw [hkeep _ (by rw [own.main];simp)];exact own.main,fun z hz=>?_,fun z hz=>hrow z hz,fun z hz=>?_,?_,fun z hz=>?_,fun b' hb'=>⟨?_,fun z hz=>?_⟩,fun b' hb' d' hd' z hz=>?_,fun b' hb'=>?_,fun z hz=>?_,own.lnd,?_,own.nnd⟩
  ·rw [hkeep z (by rw [own.lrow z hz];simp)];exact own.lrow z hz
  ·rw [hkeep z (by rw [own.net z hz];simp)];exact own.net z hz
  ·show (y.addT w tv b av).own y.dr=_
   rw [hkeep _ (by rw [own.dead];simp)];exact own.dead
  ·rw [hkeep z (by rw [own.tab z hz];simp)];exact own.tab z hz
  ·rw [hkeep b' (by rw [(own.line b' hb').1];simp)];exact (own.line b' hb').1
  ·rw [hkeep z (by rw [(own.line b' hb').2 z hz];simp)];exact (own.line b' hb').2 z hz
  ·have:=own.node b' hb' d' hd' z hz
   rw [hkeep z (by rw [this];simp)];exact this
  ·have hb2:b'∈y.tbs++[b]:=hb'
   rcases List.mem_append.1 hb2 with q | q
   ·have hne:b'≠b:=fun e=>hbn (by rw [<-e];exact q)
    refine ⟨by rw [hkeep b' (by rw [(own.tx b' q).1];simp)];exact (own.tx b' q).1,fun z hz=>?_⟩
    rw [(eN hne).1,(eN hne).2] at hz
    rw [hkeep z (by rw [(own.tx b' q).2 z hz];simp)];exact (own.tx b' q).2 z hz
   ·simp at q;subst q
    refine ⟨hnew b' (.inl rfl),fun z hz=>?_⟩
    rw [eB.1,eB.2] at hz
    rcases hz with hz | hz
    ·exact hnew z (.inr hz)
    ·simp [Value.ownBlock] at hz
  ·by_cases e1:w.heap.size<=z/\tv.ownBlock=some z
   ·exact ⟨(zAi hr e1.2).1,(zAi hr e1.2).2.1⟩
   ·by_cases e2:w.heap.size<=z/\(z=b\/av.ownBlock=some z)
    ·refine ⟨by omega,?_⟩
     rcases e2.2 with e | e
     ·subst e;exact hT.lt
     ·exact (zAi ha e).2.1
    ·have hz3:y.own z≠.no:=by
      simp only [HLay.addT] at hz
      rw [if_neg e1,if_neg e2] at hz;exact hz
     have:=own.lt z hz3
     exact ⟨this.1,Nat.lt_of_lt_of_le this.2 hm.size⟩
  ·show (y.tbs++[b]).Nodup
   rw [List.nodup_append]
   exact ⟨own.tnd,by simp,fun a ha c hc e=>by simp at hc;subst hc;subst e;exact hbn ha⟩
 ·exact ⟨hm.mono (fun z hz e=>by rcases htag z e with q | q <;> rw [q] <;> simp),fun z hz=>zYr _ _ _ _ _ hz⟩
theorem yHt:∀ m:Nat,m<=5->(madeCells (Value.cells (.int .i64 0)) (m*1)).toList=(List.replicate m (0:Int)).map (Value.int .i64):=by
 intro m hm
 obtain rfl | rfl | rfl | rfl | rfl | rfl:m=0\/m=1\/m=2\/m=3\/m=4\/m=5:=by omega
 all_goals kernel_rfl
theorem Tryz.infoTx:(Tryz.prog.info? 93).map (fun i=>(i.zero,i.size,i.bytes))=some (some (.pointer none),1,8):=by kernel_rfl
def BegunP(w:World)(n c g:Nat)(y:HLay)(s:zAa)(e:Ending)(w':World):Prop:=e=.returned (.tuple #[.int .i64 (s.txs.length+1),.nilIface])/\∃ y',zAe w' n c g y' (zGk s)/\zFi w y w' y'
theorem yNx(n c g:Nat)(y:HLay)(s:zAa)(w:World)(h:zAe w n c g y s)(hll:2<=s.lines.length/\s.lines.length<=5)(hT:s.txs.length<60) :
  Calls Tryz.prog 40 #[.pointer (some ⟨g,0,none⟩)] w (BegunP w n c g y s):=by
 obtain ⟨j0,hj,jz0,jz1,jz2⟩:=info_parts Tryz.infoIQ
 obtain ⟨k0,hk,kz0,kz1,kz2⟩:=info_parts Tryz.infoTx
 obtain ⟨c0,-,-,-,-,-,c6⟩:=blkH h.blk
 have f6:=h.blk.frozen 6
 obtain ⟨la,lcap,hlv⟩:=zAg h.lrow
 obtain ⟨ta,tcap,htv⟩:=zAg h.trow
 have hlen:=h.llen
 have htl:=h.tlen
 rw [hlv,hlen] at c0
 rw [htv,htl] at c6
 have hg:=h.blk.lt
 have hlow:=h.low
 have hrow:w.ownsRow n 93 1 (.slice ta s.txs.length tcap) s.txs.length (y.tbs.map ptrV):=by have:=h.trow;rw [htv,htl] at this;exact this
 -- the numbers
 obtain ⟨w1,hmk,hnum,hg1⟩:=run_makeSlice_full (P:=Tryz.prog) w.drew n 94 3 j0 _ 1 Tryz.underlying94 hj jz0 jz1 .i64 .i64 s.lines.length (by omega) (by rw [jz2];omega) (by unfold maxLen;omega) (by show n<=w.heap.size;omega)
 have hds:w.drew.heap.size=w.heap.size:=rfl
 rw [yHt _ hll.2,hds] at hnum
 rw [hds] at hmk
 have hm1:Mod zAb w w1:=((Mod.refl zAb w).drewN 1).grown hg1 (fun x hx _=>by cases hx)
 obtain ⟨w2,hw2⟩:∃ x,x=w1.alloc (.cells #[.int .i64 1,.slice (some ⟨w.heap.size,0,none⟩) s.lines.length s.lines.length,.slice none 0 0,.int .i64 0] 97):=⟨_,rfl⟩
 have hm2:Mod zAb w1 w2:=by rw [hw2];exact (Mod.refl _ w1).alloc _
 have hB2:Blk w2 w1.heap.size [.int .i64 1,.slice (some ⟨w.heap.size,0,none⟩) s.lines.length s.lines.length,.slice none 0 0,.int .i64 0] 97:=by rw [hw2];exact Blk.new w1 _ _
 obtain ⟨w3,hw3⟩:∃ x,x=w2.alloc (.cells #[.pointer (some ⟨w1.heap.size,0,none⟩)] 93):=⟨_,rfl⟩
 have hm3:Mod zAb w2 w3:=by rw [hw3];exact (Mod.refl _ w2).alloc _
 have hm13:=(hm1.trans hm2).trans hm3
 have hrow3:=zAn hrow hm13 (fun _ _ _ _ e=>e)
 obtain ⟨v7,w7,hrun7,hown7,hgrow7,_,hat7⟩:=run_append_own_at (P:=Tryz.prog) w3 n 88 88 93 k0 _ 1 8 Tryz.underlying88 hk kz0 kz1 kz2 rfl (by omega) _ _ _ hrow3 ⟨w2.heap.size,0,none⟩ 1 1 [.pointer (some ⟨w1.heap.size,0,none⟩)] rfl (by rw [hw3];exact World.news_of_block (heap_alloc_new w2 _)) (by simp [Value.oneCell']) (by unfold maxLen;omega) (by omega) (by have:=hm13.size;omega)
 obtain ⟨a7,cap7,hv7⟩:=zAg hown7
 subst hv7
 have hm37:Mod (fun k=>(Value.slice ta s.txs.length tcap).ownBlock=some k) w3 w7:=(Mod.refl _ w3).grown hgrow7 (fun x hx _=>hx)
 have hnb:(Value.slice ta s.txs.length tcap).ownBlock≠some g:=zBf hrow h.blk (by decide)
 have d0:=hm13.cell c0 (fun e=>e)
 have d6:=hm13.cell c6 (fun e=>e)
 have c07:=hm37.cell d0 hnb
 have c67:=hm37.cell d6 hnb
 have hg3:g<w3.heap.size:=Nat.lt_of_lt_of_le hg hm13.size
 have hg7:g<w7.heap.size:=Nat.lt_of_lt_of_le hg3 hm37.size
 have f67:=(hm37.frozen (p:=⟨g,6,none⟩) hg3 hnb).trans ((hm13.frozen (p:=⟨g,6,none⟩) hg (fun e=>e)).trans f6)
 have hrl:∀ z,(Value.slice ta s.txs.length tcap).ownBlock=some z->z<w.heap.size:=fun z hz=>(zAi hrow hz).2.1
 -- what comes of it
 have HF:Hid (∃ y',zAe (w7.setCell ⟨g,6,none⟩ (.slice a7 (s.txs.length+1) cap7)) n c g y' (zGk s)/\zFi w y (w7.setCell ⟨g,6,none⟩ (.slice a7 (s.txs.length+1) cap7)) y'):=by
  have hms:Mod (zAd g) w7 (w7.setCell ⟨g,6,none⟩ (.slice a7 (s.txs.length+1) cap7)):=Mod.setBlk g 6 _
  have hmA:Mod (fun z=>z=g\/y.tv.ownBlock=some z) w (w7.setCell ⟨g,6,none⟩ (.slice a7 (s.txs.length+1) cap7)):=((hm13.mono (fun _ _ e=>e.elim)).trans (hm37.mono (fun z _ e=>.inr (by rw [htv,htl];exact e)))).trans (hms.mono (fun z _ e=>.inl e))
  have hB7:Blk w7 g (zIh y s.net.lost) 90:=(h.blk.mod hm13 (fun e=>e)).mod hm37 hnb
  have hne7:=zBf hown7 hB7 (by decide)
  have hbg:w1.heap.size≠g:=by have:=hm1.size;omega
  have hbt:(Value.slice ta s.txs.length tcap).ownBlock≠some w1.heap.size:=fun e=>by have:=hrl _ e;have:=hm1.size;omega
  have hag:(Value.slice (some ⟨w.heap.size,0,none⟩) s.lines.length s.lines.length).ownBlock≠some g:=fun e=>by simp [Value.ownBlock] at e;omega
  have hnum7:w7.ownsRow n 3 1 (.slice (some ⟨w.heap.size,0,none⟩) s.lines.length s.lines.length) s.lines.length ((List.replicate s.lines.length (0:Int)).map (Value.int .i64)):=zAn (zAn hnum (hm2.trans hm3) (fun _ _ _ _ e=>e)) hm37 (fun z _ _ e q=>by have:=hrl z q;simp [Value.ownBlock] at e;omega)
  obtain ⟨q1,q2⟩:=h.addT (b:=w1.heap.size) (av:=.slice (some ⟨w.heap.size,0,none⟩) s.lines.length s.lines.length) (tv:=.slice a7 (s.txs.length+1) cap7) hmA (hB7.set 6 _) (by
    rw [htl,List.map_append]
    exact zAn hown7 hms (fun z _ _ e q=>hne7 (by rw [e];exact congrArg some q))) hm1.size (((hB2.mod hm3 (fun e=>e)).mod hm37 hbt).mod hms (fun e=>hbg e)) (zAn hnum7 hms (fun z _ _ e q=>hag (by rw [e];exact congrArg some q))) (fun z hz=>by simp [Value.ownBlock] at hz;omega) (by
    rcases hat7 with e | e
    ·exact .inl (by rw [e,htv,htl])
    ·exact .inr fun z hz=>by rw [e] at hz;simp only [Option.some.injEq] at hz;have:=hm13.size;omega) (by omega)
  exact ⟨_,q1,q2⟩
 have HC:Hid (w.drew.cell? ⟨g,0,none⟩=some (.slice la s.lines.length lcap)/\w.drew.cell? ⟨g,6,none⟩=some (.slice ta s.txs.length tcap)):=⟨c0,c6⟩
 have HC1:Hid (w1.cell? ⟨g,0,none⟩=some (.slice la s.lines.length lcap)/\w1.cell? ⟨g,6,none⟩=some (.slice ta s.txs.length tcap)):=⟨hm1.cell c0 (fun e=>e),hm1.cell c6 (fun e=>e)⟩
 have HC2:Hid (w2.cell? ⟨g,0,none⟩=some (.slice la s.lines.length lcap)/\w2.cell? ⟨g,6,none⟩=some (.slice ta s.txs.length tcap)):=⟨(hm1.trans hm2).cell c0 (fun e=>e),(hm1.trans hm2).cell c6 (fun e=>e)⟩
 have HC3:Hid (w3.cell? ⟨g,0,none⟩=some (.slice la s.lines.length lcap)/\w3.cell? ⟨g,6,none⟩=some (.slice ta s.txs.length tcap)):=⟨d0,d6⟩
 have HC7:Hid (w7.cell? ⟨g,0,none⟩=some (.slice la s.lines.length lcap)/\w7.cell? ⟨g,6,none⟩=some (.slice ta s.txs.length tcap)):=⟨c07,c67⟩
 have hT6:decide ((s.txs.length:Int) ≥ 60)=false:=decide_eq_false (by omega)
 have hmk':(Instr.makeSlice 94 (.int .i64 s.lines.length) (.int .i64 s.lines.length)).run Tryz.prog w.drew=.ok (.slice (some ⟨w.heap.size,0,none⟩) s.lines.length s.lines.length) w1:=hmk
 clear h hlv htv hrow hnum hg1 hm1 hm2 hB2 hm3 hm13 hrow3 hown7 hgrow7 hat7 hm37 hnb d0 d6 hg3 hrl hmk
 go_enter Tryz.func40,Tryz.ntmps40
 go_upto_region 3 with fail
 refine zEr fun fr hfr=>?_
 refine zDk fun Q1 hQ1=>?_
 have hpan:∀ (d:Nat) (v:Value) (c:List PanicEntry) (a:Act) (w:World),Q1 (.panic c) (a.put (some d) v) w->Q1 (.panic c) a w:=fun d v c a w h=>by rw [hQ1] at h ⊢;exact h
 have HQ1:=Hmq hQ1
 clear hQ1
 have hsz:fr.tmps.size=33:=by rw [hfr];rfl
 obtain ⟨_,t0⟩:∃ h:0<fr.tmps.size,fr.tmps[0]=.pointer (some ⟨g,0,none⟩):=Array.getElem?_eq_some_iff.1 (by rw [hfr];rfl)
 have HFR:=Hmq hfr
 clear hfr
 refine zBo 17 (fun wq=>wq.cell? ⟨g,0,none⟩=some (.slice la s.lines.length lcap)/\wq.cell? ⟨g,6,none⟩=some (.slice ta s.txs.length tcap)) rfl ?_
 refine zAc 17 0 11 (.pointer (some ⟨g,0,none⟩)) rfl rfl (by kernel_rfl) (by kernel_rfl) (by kernel_rfl) (by kernel_rfl) (fun c a w h=>hpan _ _ c a w h) HC.out ⟨by rfl,fun wq hq=>by have q0:=hq.1;have q1:=hq.2;go_simp⟩ ?_
 refine zAc 17 1 12 (.pointer (some ⟨g,0,none⟩)) rfl rfl (by kernel_rfl) (by kernel_rfl) (by kernel_rfl) (by kernel_rfl) (fun c a w h=>hpan _ _ c a w h) HC.out ⟨by rfl,fun wq hq=>by have q0:=hq.1;have q1:=hq.2;go_simp⟩ ?_
 refine zAc 17 2 13 (.pointer (some ⟨g,0,none⟩)) rfl rfl (by kernel_rfl) (by kernel_rfl) (by kernel_rfl) (by kernel_rfl) (fun c a w h=>hpan _ _ c a w h) HC.out ⟨by rfl,fun wq hq=>by have q0:=hq.1;have q1:=hq.2;go_simp⟩ ?_
 refine zAc 17 3 14 (.pointer (some ⟨g,6,none⟩)) rfl rfl (by kernel_rfl) (by kernel_rfl) (by kernel_rfl) (by kernel_rfl) (fun c a w h=>hpan _ _ c a w h) HC.out ⟨by rfl,fun wq hq=>by have q0:=hq.1;have q1:=hq.2;go_simp⟩ ?_
 refine zAc 17 4 15 (.slice ta s.txs.length tcap) rfl rfl (by kernel_rfl) (by kernel_rfl) (by kernel_rfl) (by kernel_rfl) (fun c a w h=>hpan _ _ c a w h) HC.out ⟨by rfl,fun wq hq=>by have q0:=hq.1;have q1:=hq.2;go_simp⟩ ?_
 refine zAc 17 5 16 (.pointer (some ⟨g,0,none⟩)) rfl rfl (by kernel_rfl) (by kernel_rfl) (by kernel_rfl) (by kernel_rfl) (fun c a w h=>hpan _ _ c a w h) HC.out ⟨by rfl,fun wq hq=>by have q0:=hq.1;have q1:=hq.2;go_simp⟩ ?_
 refine zAc 17 6 17 (.pointer (some ⟨g,0,none⟩)) rfl rfl (by kernel_rfl) (by kernel_rfl) (by kernel_rfl) (by kernel_rfl) (fun c a w h=>hpan _ _ c a w h) HC.out ⟨by rfl,fun wq hq=>by have q0:=hq.1;have q1:=hq.2;go_simp⟩ ?_
 refine zAc 17 7 18 (.pointer (some ⟨g,0,none⟩)) rfl rfl (by kernel_rfl) (by kernel_rfl) (by kernel_rfl) (by kernel_rfl) (fun c a w h=>hpan _ _ c a w h) HC.out ⟨by rfl,fun wq hq=>by have q0:=hq.1;have q1:=hq.2;go_simp⟩ ?_
 refine zAc 17 8 19 (.slice la s.lines.length lcap) rfl rfl (by kernel_rfl) (by kernel_rfl) (by kernel_rfl) (by kernel_rfl) (fun c a w h=>hpan _ _ c a w h) HC.out ⟨by rfl,fun wq hq=>by have q0:=hq.1;have q1:=hq.2;go_simp⟩ ?_
 refine zAc 17 9 20 (.int .i64 s.lines.length) rfl rfl (by kernel_rfl) (by kernel_rfl) (by kernel_rfl) (by kernel_rfl) (fun c a w h=>hpan _ _ c a w h) HC.out ⟨by rfl,fun wq hq=>by have q0:=hq.1;have q1:=hq.2;go_simp⟩ ?_
 refine zBg 17 10 21 rfl rfl (by kernel_rfl) rfl (v:=.slice (some ⟨w.heap.size,0,none⟩) s.lines.length s.lines.length) (w':=w1) (by go_simp) HC1.out ?_
 refine zBg 17 11 22 rfl rfl (by kernel_rfl) rfl (v:=.agg #[.int .i64 1,.slice (some ⟨w.heap.size,0,none⟩) s.lines.length s.lines.length,.slice none 0 0,.int .i64 0]) (w':=w1) (by go_simp) HC1.out ?_
 refine zBg 17 12 23 rfl rfl (by kernel_rfl) rfl (v:=.pointer (some ⟨w1.heap.size,0,none⟩)) (w':=w2) (by rw [hw2];go_simp) HC2.out ?_
 refine zBg 17 13 24 rfl rfl (by kernel_rfl) rfl (v:=.slice (some ⟨w2.heap.size,0,none⟩) 1 1) (w':=w3) (by rw [hw3];go_simp) HC3.out ?_
 refine zBg 17 14 25 rfl rfl (by kernel_rfl) rfl (v:=.slice a7 (s.txs.length+1) cap7) (w':=w7) (zHr (s:=.tmp 15) (x:=.tmp 24) (t:=88) rfl (by go_simp) (by go_simp) hrun7) HC7.out ?_
 refine zBg 17 15 26 rfl rfl (by kernel_rfl) rfl (v:=.pointer (some ⟨g,0,none⟩)) (w':=w7) (by go_simp) HC7.out ?_
 refine zBg 17 16 27 rfl rfl (by kernel_rfl) rfl (v:=.pointer (some ⟨g,6,none⟩)) (w':=w7) (by go_simp) HC7.out ?_
 refine zNd 17 rfl (by kernel_rfl) rfl (w':=w7.setCell ⟨g,6,none⟩ (.slice a7 (s.txs.length+1) cap7)) (by go_simp) ?_
 refine ⟨by kernel_rfl,?_⟩
 have hQ1:=HQ1.out
 subst hQ1
 have hfr:=HFR.out
 subst hfr
 clear hpan hsz t0 HC HC1 HC2 HC3 HC7 HQ1 HFR hmk' hw2 hw3 hrun7
 have hgg:g<(w7.setCell ⟨g,6,none⟩ (.slice a7 (s.txs.length+1) cap7)).heap.size:=by simpa [World.setCell] using hg7
 go_wp2_with fail
 go_ret2
 exact ⟨by first | rfl | simp,HF.out⟩
end Go.Proofs.YtogaigioeohjaaaGreatDoor
