import Derived.Test.YtmaiggbnceejiaaGreatDoorP25
import Derived.StillTailTactics
set_option linter.unusedVariables false
set_option maxRecDepth 100000
set_option maxHeartbeats 16000000
namespace Go.Proofs.YtmaiggbnceejiaaGreatDoor
open Go.RowKit Go.Lib Go.Maps
def anyT(s:zAa)(m:Nat):Bool:=(List.range m).any fun k=>!(zFs s k).isEmpty
theorem yLz(s:zAa)(m:Nat):anyT s (m+1)=(anyT s m || !(zFs s m).isEmpty):=by unfold anyT;rw [List.range_succ,List.any_append];simp
theorem zMx.at{w:World}{a:Option Addr}{m cap:Nat}{cs:List CmdD}(h:zMx w (.slice a m cap) cs){i:Nat}{d:CmdD}(hi:cs[i]?=some d):∃ b off ua um uc,a=some ⟨b,off,none⟩/\w.cell? ⟨b,off+i*4,none⟩=some (.int .i64 d.kind)/\w.cell? ⟨b,off+i*4+1,none⟩=some (.int .i64 d.tx)/\w.cell? ⟨b,off+i*4+2,none⟩=some (.int .i64 d.time)/\w.cell? ⟨b,off+i*4+3,none⟩=some (.slice ua um uc):=by
 obtain ⟨us,h1,h2⟩:=h
 have hil:i<us.length:=by have:=(List.getElem?_eq_some_iff.1 hi).1;omega
 have hz:(cs.zip us)[i]?=some (d,us[i]):=by
  rw [List.getElem?_zip_eq_some]
  exact ⟨hi,List.getElem?_eq_getElem hil⟩
 obtain ⟨b,off,l,e1,_,e3,_,e5⟩:=SlR.at h2 hz
 unfold zZb at e3
 subst e3
 have q0:=e5 0 _ rfl
 simp only [Nat.add_zero] at q0
 obtain ⟨ua,um,uc,hu⟩:=h1.2 us[i] (List.getElem_mem hil)
 have q3:=e5 3 _ rfl
 dsimp only at q3
 rw [hu] at q3
 exact ⟨b,off,ua,um,uc,e1,q0,e5 1 _ rfl,e5 2 _ rfl,q3⟩
def yIb(w:World)(y:HLay)(v:Value)(cs:List CmdD):Prop:=zMx w v cs/\(cs=[]\/∀ k,v.ownBlock=some k->y.own k=.no/\k<w.heap.size)
theorem yIb.keep{w w':World}{y y':HLay}{v:Value}{cs:List CmdD}(h:yIb w y v cs)(k:zBv w y w' y'):yIb w' y' v cs:=by
 rcases h.2 with e | hq
 ·subst e
  obtain ⟨us,h1,a,cap,h2,h3,h4,_⟩:=h.1
  exact ⟨⟨us,h1,a,cap,h2,h3,h4,.inl (by simp)⟩,.inl rfl⟩
 ·exact ⟨h.1.mod k.md (fun z hz e=>e (hq z hz).1),.inr (fun z hz=>⟨by rw [k.old z (hq z hz).2];exact (hq z hz).1,Nat.lt_of_lt_of_le (hq z hz).2 k.size⟩)⟩
theorem yHa(k:Nat)(s:zAa)(cs:List CmdD)(c:CmdD):(cs++[c]).foldl (zCz k) s=zCz k (cs.foldl (zCz k) s) c:=by rw [List.foldl_append];rfl
theorem zTo.tail_few{w:World}{n b:Nat}{y:HLay}{l:zCr}(h:zTo w n y b l)(hne:0<l.nodes.length):(l.nodes.getLastD zYc).log.length<=500:=by
 obtain ⟨d,hd,t,ht,hN⟩:=h.nodeQ (j:=l.nodes.length - 1) (by omega)
 have htl:l.nodes.getLastD zYc=t:=by
  rw [zEo _ _ hne]
  have:=List.getElem?_eq_getElem (show l.nodes.length - 1<l.nodes.length by omega)
  rw [ht] at this
  exact (Option.some.inj this).symm
 rw [htl]
 exact hN.few.2
theorem yOi(n c g:Nat)(y:HLay)(s:zAa)(w:World)(h:zAd w n c g y s)(hs:zFb s)(hc:c<=10000)(hn:yPq s) :
  Calls Tryz.prog 82 #[.pointer (some ⟨g,0,none⟩)] w fun e w'=>e=.returned (.bool (zDl s))/\∃ y',zAd w' n c g y' (zHy s)/\zAn w y w' y':=by
 obtain ⟨c0,-⟩:=blkH h.blk
 obtain ⟨la,lcap,hlv⟩:=zAf h.lrow
 have hll:=hs.ll
 have hlen:=h.llen
 rw [hlv,hlen] at c0
 have HLV:Hid (y.lv=.slice la s.lines.length lcap):=by unfold Hid;rw [hlv,hlen]
 have HH:=Hmq h
 have HS:=Hmq hs
 have HN:=Hmq hn
 clear h hs hn hlv
 go_enter Tryz.func82,Tryz.ntmps82
 go_wp2_with fail
 go_loopw [3,13] (fun f k0 wr=>∃ (k:Nat) (yr:HLay),k<=s.lines.length/\k0=.int .i64 k/\f=.bool (anyT s k)/\zAd wr n c g yr (zHx s k)/\zAn w y wr yr) (fun _ k0 _=>s.lines.length - (intOf k0).toNat)
 case atStart=>exact ⟨0,y,Nat.zero_le _,rfl,rfl,HH.out,zAn.refl _ _⟩
 case round=>
  obtain ⟨k,yr,hkl,rfl,rfl,hH,hK⟩:=hrel
  obtain ⟨wo,hwo⟩:∃ x,x=wr:=⟨_,rfl⟩
  subst hwo
  by_cases hlt:k<s.lines.length
  ·obtain ⟨hsm,hhd,hwr⟩:=zNl s k hkl
   have hk':k<(zHx s k).lines.length:=by rw [hsm.ll];exact hlt
   have hsh:=hsm.shape HS.out (hwr HS.out.tw)
   obtain ⟨b,hb,hL⟩:=hH.lineQ hk'
   obtain ⟨lg,cap',hv,cl⟩:=zIz hH.lrow hb
   have hla:la=some ⟨lg,0,none⟩:=by
    have e:=hK.lv
    rw [hv,HLV.out] at e
    simp only [Value.slice.injEq] at e
    exact e.1.symm
   subst hla
   have hnl:=hsh.nl _ (zKi hk')
   have hnw:=yGo hkl
   have hn2:=HN.out k hlt
   have htl:((zHx s k).line k).nodes.getLastD zYc=zFv s k:=by unfold zFv;rw [hsm.nodes];rfl
   have hhe:((zHx s k).line k).heard=(s.line k).heard:=hhd k (Nat.le_refl _)
   have hf5:=hL.tail_few (by omega)
   rw [htl] at hf5
   have HNW:=Hmq (yNp n b yr ((zHx s k).line k) wo hL (by omega) (by omega) (by rw [htl,hhe];exact hn2.1))
   rw [show (((zHx s k).line k).nodes.getLastD zYc).log.drop ((zHx s k).line k).heard=zFs s k by rw [htl,hhe];rfl] at HNW
   have hcl:(s.line k).heard+(zFs s k).length<=500:=by
    have:(zFs s k).length=(zFv s k).log.length - (s.line k).heard:=by unfold zFs;rw [List.length_drop]
    omega
   have HTX:=Hmq hn2.2
   have hkI:(k:Int)<(s.lines.length:Int):=by omega
   have hk0:(0:Int)<=(k:Int):=by omega
   have HHo:=Hmq hH
   have HKo:=Hmq hK
   have HB:=Hmq hb
   have HSH:=Hmq hsh
   have HHE:=Hmq hhe
   have HAN:=Hmq (yLz s k)
   have HSU:Hid (zHx s (k+1)=(zFs s k).foldl (zCz k) (zHx s k)):=by unfold Hid;rw [zMm];unfold zNc;rw [hnw]
   have HLL:=Hmq hk'
   have HTN:Hid ((zHx s k).txs.length=s.txs.length):=hsm.len
   clear hH hK hL hb hv hsm hhd hwr hsh hnw hn2 htl hhe hf5 hnl hk'
   generalize zFs s k=cs at HNW hcl HTX HAN HSU
   generalize zHx s k=S at HHo HSH HHE HSU HLL HTN
   go_upto_region 5 with fail
   go_wp2_with fail
   refine HNW.out.mono ?_
   rintro e w2 ⟨v,rfl,hv2,hf2,hm2⟩
   have hcf:yIb w2 yr v cs:=by
    refine ⟨hv2,?_⟩
    obtain ⟨us,hu,a',cap2,e1,_,_,e4⟩:=hv2
    rcases e4 with e4 | ⟨b',off',e5,e6,_⟩
    ·left
     have hz:(cs.zip us).length=cs.length:=by rw [List.length_zip];omega
     rw [e4] at hz
     exact List.eq_nil_of_length_eq_zero hz.symm
    ·right
     intro z hz
     have hz2:=hf2 z hz
     refine ⟨?_,?_⟩
     ·by_cases e:yr.own z=.no
      ·exact e
      ·have:=(HHo.out.own.lt z e).2;omega
     ·rw [e1,e5] at hz
      simp [Value.ownBlock] at hz
      subst hz;exact e6
   have hvs:∃ va vc,v=.slice va cs.length vc:=by
    obtain ⟨us,hu,a',cap2,e1,_⟩:=hv2
    refine ⟨a',cap2,?_⟩
    rw [e1,List.length_zip,hu.1,Nat.min_self]
   obtain ⟨va,vc,hva⟩:=hvs
   subst hva
   have HCF:=Hmq hcf
   have HH2:=Hmq (HHo.out.quiet hm2)
   have HK2:=Hmq (HKo.out.trans (zAn.quiet hm2))
   clear hv2 hf2 hm2 hcf HHo HKo HNW
   go_wp2_with fail
   go_loopw [3,21] (fun f j0 wi=>∃ (j:Nat) (yi:HLay),j<=cs.length/\j0=.int .i64 j/\f=.bool (anyT s k || decide (0<j))/\zAd wi n c g yi ((cs.take j).foldl (zCz k) S)/\zAn w y wi yi/\zAn w2 yr wi yi) (fun _ j0 _=>cs.length - (intOf j0).toNat)
   case atStart=>exact ⟨0,yr,Nat.zero_le _,rfl,by simp,HH2.out,HK2.out,zAn.refl _ _⟩
   case round=>
    obtain ⟨j,yi,hjl,rfl,rfl,hHi,hKi,hKr⟩:=hrel
    by_cases hjlt:j<cs.length
    ·obtain ⟨d,hd⟩:∃ d,cs[j]?=some d:=⟨_,List.getElem?_eq_getElem hjlt⟩
     obtain ⟨cb,coff,ua,um,uc,hca,q0,q1,q2,q3⟩:=zMx.at (HCF.out.keep hKr.st).1 hd
     subst hca
     obtain ⟨hx1,hx2⟩:=HTX.out d (List.mem_of_getElem? hd)
     obtain ⟨T,hT⟩:∃ T,T=(cs.take j).foldl (zCz k) S:=⟨_,rfl⟩
     have hTs:zLy S T:=by rw [hT];exact zNk k _ S HLL.out
     have hTw:∀ t∈T.txs,t.writes.length<=20:=by rw [hT];exact zLp k _ S HSH.out.tw
     have hTh:(T.line k).heard=(s.line k).heard+j:=by
      rw [hT,zKj k _ S HLL.out,if_pos rfl,HHE.out,List.length_take];omega
     rw [<-hT] at hHi
     have hTsh:=hTs.shape HSH.out hTw
     have hTk:k<T.lines.length:=by rw [hTs.ll];exact HLL.out
     have HNX:Hid ((cs.take (j+1)).foldl (zCz k) S=zCz k T d):=by unfold Hid;rw [zBn hd,yHa,hT]
     obtain ⟨kind,tx,time,wss⟩:=d
     dsimp only at q0 q1 q2 hx1 hx2
     obtain ⟨w3,hw3⟩:∃ z,z=wr.alloc (.cells #[.int .i64 kind,.int .i64 tx,.int .i64 time,.slice ua um uc] 65):=⟨_,rfl⟩
     have hm3:Mod zAb wr w3:=by rw [hw3];exact (Mod.refl _ wr).alloc _
     have hb3:Blk w3 wr.heap.size [.int .i64 kind,.int .i64 tx,.int .i64 time,.slice ua um uc] 65:=by rw [hw3];exact Blk.new wr _ _
     have x0:=hb3.cell 0 rfl
     have x1:=hb3.cell 1 rfl
     have x2:=hb3.cell 2 rfl
     have x3:=hb3.cell 3 rfl
     have HFO:=Hmq (yHd n c g yi T k ⟨kind,tx,time,wss⟩ (.slice ua um uc) w3 (hHi.quiet hm3) hTsh hc hTk ⟨hx1,by rw [hTs.len,HTN.out];exact hx2⟩)
     have HK3:=Hmq (hKi.trans (zAn.quiet hm3))
     have HR3:=Hmq (hKr.trans (zAn.quiet hm3))
     have hjI:(j:Int)<(cs.length:Int):=by omega
     have hj0:(0:Int)<=(j:Int):=by omega
     have HTS:=Hmq hTs
     have hTf:=zBj.follow T k ⟨kind,tx,time,wss⟩
     have HTF:=Hmq hTf
     have hzb:cb<wr.heap.size:=World.block_lt_of_cell? wr _ q0
     clear hHi hKi hKr hd hT hTw hTsh hb3 hTf hTs
     go_upto_region 8 with fail
     rw [<-hw3]
     clear hw3 q0 q1 q2 q3
     go_wp2_with fail
     refine HFO.out.mono ?_
     rintro e w4 ⟨rfl,y4,hH4,hK4⟩
     have hk4:k<(zCb T k ⟨kind,tx,time,wss⟩).lines.length:=by rw [HTF.out.l];exact hTk
     have hb4:y4.lbs[k]?=some b:=by rw [hK4.l,HR3.out.l];exact HB.out
     have hL4:=hH4.line k b _ hb4 (zBh hk4)
     have hheq:((zCb T k ⟨kind,tx,time,wss⟩).line k).heard=(s.line k).heard+j:=by
      rw [<-hTh];unfold zAa.line;rw [HTF.out.l]
     have l1:=hL4.blk.cell 1 rfl
     have f1:=hL4.blk.frozen 1
     have zl:=hL4.blk.lt
     obtain ⟨w5,hw5⟩:∃ z,z=w4.setCell ⟨b,1,none⟩ (.int .i64 (((zCb T k ⟨kind,tx,time,wss⟩).line k).heard+1:Nat)):=⟨_,rfl⟩
     have hm5:Mod (zAc b) w4 w5:=by rw [hw5];exact Mod.setBlk b 1 _
     have hB5:Blk w5 b [y4.lnv b,.int .i64 (((zCb T k ⟨kind,tx,time,wss⟩).line k).heard+1:Nat)] 120:=by rw [hw5];exact hL4.blk.set 1 _
     obtain ⟨hH5,hK5⟩:=hH4.turnH hk4 hb4 hm5 hB5
     have HF:Hid (zAd w5 n c g y4 ((cs.take (j+1)).foldl (zCz k) S)/\zAn w y w5 y4/\zAn w2 yr w5 y4):=by
      unfold Hid;rw [HNX.out]
      exact ⟨hH5,(HK3.out.trans hK4).trans hK5,(HR3.out.trans hK4).trans hK5⟩
     rw [hheq] at l1 hw5
     have hw5':w5=w4.setCell ⟨b,1,none⟩ (.int .i64 (((s.line k).heard:Int)+(j:Int)+1)):=by rw [hw5];congr 2
     have l1':w4.cell? ⟨b,1,none⟩=some (.int .i64 (((s.line k).heard:Int)+(j:Int))):=by rw [l1];congr 2
     clear hH4 hK4 hL4 hm5 hB5 hH5 hK5 l1 hw5 HFO
     go_upto_region 10 with fail
     rw [<-hw5']
     clear hw5' l1' f1
     go_wp2_with fail
     go_roundw
     case rel=>exact ⟨j+1,y4,by omega,by go_num,by simp,HF.out.1,HF.out.2.1,HF.out.2.2⟩
     case measure=>simp [intOf];omega
    ·obtain rfl:j=cs.length:=by omega
     rw [List.take_length] at hHi
     have HF:Hid (zAd wr n c g yi (zHx s (k+1))/\zAn w y wr yi):=⟨by rw [HSU.out];exact hHi,hKi⟩
     have HFL:Hid (anyT s (k+1)=(anyT s k || decide (0<cs.length))):=by
      unfold Hid;rw [HAN.out];congr 1
      cases cs <;> simp
     clear hHi hKi hKr HCF
     go_wp2_with fail
     go_roundw
     case rel=>exact ⟨k+1,yi,by omega,by go_num,by rw [HFL.out],HF.out.1,HF.out.2⟩
     case measure=>simp [intOf];omega
  ·obtain rfl:k=s.lines.length:=by omega
   have HF:Hid (∃ y',zAd wo n c g y' (zHy s)/\zAn w y wo y'):=⟨yr,hH,hK⟩
   clear hH hK
   go_wp2_with fail
   go_ret
   exact ⟨rfl,HF.out⟩
theorem zVl(x:Int):∀ l:List Int,decide (plI (zGi x l) ≥ 0)=decide (x∈l)
 | []=>rfl
 | a :: l=>by
  have ih:=zVl x l
  unfold zGi
  by_cases h:x=a
  ·rw [if_pos h];subst h;simp [plI]
  ·rw [if_neg h]
   have e:decide (x∈a :: l)=decide (x∈l):=by simp [h]
   rw [e,<-ih]
   cases zGi x l with
   | none=>rfl
   | some k=>simp [plI];omega
theorem zOw(v:Value)(ns:List Int)(x:Int)(w:World)(hv:zHm w v ns) :
  Calls Tryz.prog 76 #[v,.int .i64 x] w fun e w'=>e=.returned (.bool (decide (x∈ns)))/\w'=w:=by
 have HI:=Hmq (zVf v ns x w hv)
 obtain ⟨a,cap,rfl,hc1,hc2,hcl⟩:=hv
 have HM:=Hmq (zVl x ns)
 clear hcl
 go_enter Tryz.func76,Tryz.ntmps76
 go_wp2_with fail
 refine HI.out.mono ?_
 rintro e w1 ⟨rfl,rfl⟩
 go_wp2_with fail
 go_ret
 exact ⟨by rw [<-HM.out];rfl,rfl⟩
theorem yJm(n b:Nat)(y:HLay)(t:TxS)(w:World)(h:TxP w n y b t) :
  Calls Tryz.prog 124 #[.pointer (some ⟨b,0,none⟩)] w fun e w'=>e=.returned (.bool (zIy t))/\w'=w:=by
 have HC:=Hmq (zOw (y.tav b) t.ats 1 w (zHm.of_own h.ats))
 have c1:=h.blk.cell 1 rfl
 obtain ⟨a,cap,hv⟩:=zAf h.ats
 rw [hv] at c1 HC
 clear h hv
 have HR:Hid (zIy t=!decide ((1:Int)∈t.ats)):=rfl
 cases hd:decide ((1:Int)∈t.ats)
 all_goals
  rw [hd] at HC HR
  go_enter Tryz.func124,Tryz.ntmps124
  go_wp2_with fail
  refine HC.out.mono ?_
  rintro e w1 ⟨rfl,rfl⟩
  go_wp2_with fail
  go_ret
  exact ⟨by rw [HR.out];rfl,rfl⟩
theorem zWf(n c g q q2:Nat)(y:HLay)(s:zAa)(k:Nat)(d:zBa)(w:World)(h:zAd w n c g y s)(hs:zFb s)(hd:d.key.size<=1000000)(hq:w.cell? ⟨q,0,none⟩=some (.pointer (some ⟨g,0,none⟩)))(hq2:w.cell? ⟨q2,0,none⟩=some (.int .i64 k)) :
  Calls Tryz.prog 161 (#[.agg #[.string d.key,.string d.val,.bool d.gone]]++#[.pointer (some ⟨q,0,none⟩),.pointer (some ⟨q2,0,none⟩)]) w fun e w'=>e=.returned (.bool (!decide (zBg s d.key=k)))/\Mod zAb w w':=by
 obtain ⟨w1,hw1⟩:∃ x,x=w.alloc (.cells #[.string d.key,.string d.val,.bool d.gone] 68):=⟨_,rfl⟩
 have hm1:Mod zAb w w1:=by rw [hw1];exact (Mod.refl _ w).alloc _
 have hb1:Blk w1 w.heap.size [.string d.key,.string d.val,.bool d.gone] 68:=by rw [hw1];exact Blk.new w _ _
 have x0:=hb1.cell 0 rfl
 have p1:=hm1.cell hq id
 have p2:=hm1.cell hq2 id
 have hm2:Mod zAb w w1.drew:=hm1.drewN 1
 have HSH:=Hmq (zRp n c g y s d.key w1.drew (h.quiet hm2) hs hd)
 have HM:=Hmq hm2
 clear h hb1 hq hq2 hm2
 go_enter Tryz.func161,Tryz.ntmps161
 go_upto_region 1 with fail
 rw [<-hw1]
 clear hw1 hm1
 refine wp_region_still_tail 6 (by kernel_rfl) (by kernel_rfl) ?_
 simp only [List.take_succ_cons,List.take_zero,List.drop_succ_cons,List.drop_zero]
 repeat still_step
 still_call HSH.out
 repeat still_step
 refine wpStill_nil ?_
 go_wp2_with fail
 go_ret
 refine ⟨?_,HM.out⟩
 congr 2
 by_cases e:zBg s d.key=k
 ·rw [decide_eq_true e,e];simp
 ·rw [decide_eq_false e]
  have:((zBg s d.key:Nat):Int)≠(k:Int):=by omega
  simpa using this
theorem yCu(s:zAa)(t:TxS)(k:Nat):zCo (fun d=>!decide (zBg s d.key=k)) t.writes=zDq s t k:=by
 unfold zCo zDq
 congr 1
 funext d
 simp
theorem yLp(d:zBa):∀ u∈zDp d,u.oneCell'=true:=fun u hu=>by
 simp only [zDp,List.mem_cons,List.not_mem_nil,or_false] at hu
 rcases hu with rfl | rfl | rfl <;> rfl
theorem zYe(n c g:Nat)(y:HLay)(s:zAa)(b k:Nat)(t:TxS)(w:World)(h:zAd w n c g y s)(hs:zFb s)(hT:TxP w n y b t)(hl:t.writes.length<=20)(hk:∀ p∈t.writes,p.key.size<=20) :
  Calls Tryz.prog 125 #[.pointer (some ⟨g,0,none⟩),.pointer (some ⟨b,0,none⟩),.int .i64 k] w fun e w'=>∃ v,e=.returned v/\w'.ownsRow w.heap.size 68 3 v (zDq s t k).length (zBp (zDq s t k))/\Mod zAb w w':=by
 obtain ⟨w1,hw1⟩:∃ x,x=(w.alloc (.cells #[.pointer (some ⟨g,0,none⟩)] 35)).alloc (.cells #[.int .i64 k] 3):=⟨_,rfl⟩
 have hm1:Mod zAb w w1:=by rw [hw1];exact ((Mod.refl _ w).alloc _).alloc _
 have hz1:w1.heap.size=w.heap.size+1+1:=by rw [hw1];simp
 have hb0:Blk w1 w.heap.size [.pointer (some ⟨g,0,none⟩)] 35:=by rw [hw1];exact (Blk.new w _ _).mod ((Mod.refl zAb _).alloc _) id
 have hb1:Blk w1 (w.heap.size+1) [.int .i64 k] 3:=by
  rw [hw1]
  have:=Blk.new (w.alloc (.cells #[.pointer (some ⟨g,0,none⟩)] 35)) [.int .i64 (k:Int)] 3
  simpa using this
 have h1:=h.quiet hm1
 have hT1:=hT.mod hm1 id (fun _ _=>id)
 have t2:=hT1.blk.cell 2 rfl
 have hrow:=hT1.wr
 have hen:Calls Tryz.prog 163 #[y.twv b] w1 fun e w'=>∃ v,e=.returned v/\w'.ownsRow w1.heap.size 68 3 v t.writes.length (zBp t.writes)/\Mod zAb w1 w':=by
  rcases hrow.2 with ⟨e,h0⟩ | ⟨g',cap',cur,e,q1,q2,q3,q4,q5,q6⟩
  ·rw [e]
   refine (yDl w1).mono ?_
   rintro e2 w2 ⟨rfl,rfl⟩
   have hnil:t.writes=[]:=List.eq_nil_of_length_eq_zero h0
   exact ⟨_,rfl,by rw [hnil];exact World.ownsRow_nil _ _ _ _,Mod.refl _ _⟩
  ·rw [e] at hrow ⊢
   have hcl:=hrow.cells (g:=g') rfl
   refine (yDm ⟨g',0,none⟩ t.writes.length cap' t.writes w1 rfl hcl (by omega) (fun d _=>yLp d)).mono ?_
   rintro e2 w2 ⟨g2,cap2,rfl,hr2,hm2⟩
   exact ⟨_,rfl,hr2,hm2⟩
 obtain ⟨wa,wc,hwv⟩:=zAf hT1.wr
 rw [hwv] at t2 hen
 have HCL:=Hmq hen
 have hmf:∀ fn first cap w,(Instr.makeFunc fn first cap).run Tryz.prog w=.ok (.func fn first cap) w:=fun _ _ _ _=>rfl
 have HH:=Hmq h1
 have HB0:=Hmq hb0
 have HB1:=Hmq hb1
 have HM1:=Hmq hm1
 have HZ1:=Hmq hz1
 clear h h1 hT hT1 hrow hwv hb0 hb1 hm1 hz1 hen
 go_enter Tryz.func125,Tryz.ntmps125
 go_upto_region 1 with fail
 rw [<-hw1]
 clear hw1
 go_wp2_with fail
 refine HCL.out.mono ?_
 rintro e w2 ⟨v2,rfl,hrow2,hm2⟩
 have HA:AskG 161 #[.pointer (some ⟨w.heap.size,0,none⟩),.pointer (some ⟨w.heap.size+1,0,none⟩)] (fun (d:zBa)=>.agg #[.string d.key,.string d.val,.bool d.gone]) t.writes (fun d=>!decide (zBg s d.key=k)) (fun wr=>zAd wr n c g y s/\wr.cell? ⟨w.heap.size,0,none⟩=some (.pointer (some ⟨g,0,none⟩))/\wr.cell? ⟨w.heap.size+1,0,none⟩=some (.int .i64 k)):=
  ⟨zJx Tryz.func161 (by kernel_rfl) rfl,fun wa wb hh hm=>⟨hh.1.quiet hm,hm.cell hh.2.1 id,hm.cell hh.2.2 id⟩,fun d hd wr hh=>zWf n c g _ _ y s k d wr hh.1 hs (Nat.le_trans (hk d hd) (by omega)) hh.2.1 hh.2.2⟩
 have hh2:=HH.out.quiet hm2
 have HDL:=Hmq (yAz 161 w1.heap.size #[.pointer (some ⟨w.heap.size,0,none⟩),.pointer (some ⟨w.heap.size+1,0,none⟩)] (fun d=>!decide (zBg s d.key=k)) v2 t.writes w2 _ hrow2 HA ⟨hh2,hm2.cell (HB0.out.cell 0 rfl) id,hm2.cell (HB1.out.cell 0 rfl) id⟩ (fun x hx w' hm'=>by
  have hx1:w1.heap.size<=x:=(zAh hrow2 hx).1
  have hml:Mod zAb w1 w':=hm2.trans' hm' (fun i hi e=>by simp only [zAc] at e;omega)
  exact ⟨HH.out.quiet hml,hml.cell (HB0.out.cell 0 rfl) id,hml.cell (HB1.out.cell 0 rfl) id⟩) (by omega))
 rw [yCu] at HDL
 obtain ⟨va2,vc2,hv2⟩:=zAf hrow2
 subst hv2
 have HR:=Hmq hrow2
 have HM2:=Hmq hm2
 clear hrow2 hh2 HA hm2 HCL
 go_wp2_with fail
 refine HDL.out.mono ?_
 rintro e w3 ⟨v3,rfl,hrow3,hv3,hm3⟩
 obtain ⟨va3,vc3,hv3'⟩:=zAf hrow3
 subst hv3'
 have HR3:=Hmq hrow3
 have hm13:Mod zAb w1 w3:=HM2.out.trans' hm3 (fun i hi e=>by have:=(zAh HR.out e).1;omega)
 have HM3:=Hmq (HM1.out.trans hm13)
 have HZ:=Hmq HM1.out.size
 clear hrow3 hm3 hm13 HDL
 go_wp2_with fail
 go_ret
 exact ⟨_,rfl,zEa HR3.out HZ.out,HM3.out⟩
def DueP(w w':World)(r:Option CmdD)(e:Ending):Prop:=∃ (d:CmdD) (u:Value) (ok:Bool),e=.returned (.tuple #[.agg #[.int .i64 d.kind,.int .i64 d.tx,.int .i64 d.time,u],.bool ok])/\w'.ownsRow w.heap.size 68 3 u d.writes.length (zBp d.writes)/\r=(if ok then some d else none)/\Mod zAb w w'
theorem zLr{w w2:World}{a0 a1 a2 a3:Value}(hm:Mod zAb w w2)(hB:Blk w2 w.heap.size [a0,a1,a2,a3] 65)(d:CmdD)(u:Value)(hu:w2.ownsRow w.heap.size 68 3 u d.writes.length (zBp d.writes)) :
  (put4 w2 w.heap.size (.int .i64 d.kind) (.int .i64 d.tx) (.int .i64 d.time) u).ownsRow w.heap.size 68 3 u d.writes.length (zBp d.writes)/\Mod zAb w (put4 w2 w.heap.size (.int .i64 d.kind) (.int .i64 d.tx) (.int .i64 d.time) u):=by
 have h1:=zRu w2 w.heap.size (.int .i64 d.kind) (.int .i64 d.tx) (.int .i64 d.time) u
 refine ⟨zAm hu h1 (fun k _ _ e q=>?_),hm.trans' h1 (fun i hi e=>by simp only [zAc] at e;omega)⟩
 simp only [zAc] at q
 subst q
 exact zAy hu hB (by decide) e
theorem yFh{w:World}{n b:Nat}{y:HLay}{t:TxS}(h:TxP w n y b t){k:Nat}(hk:k<t.ats.length):∃ ab cap,y.tav b=.slice (some ⟨ab,0,none⟩) t.ats.length cap/\w.cell? ⟨ab,k,none⟩=some (.int .i64 (t.ats.getD k 0)):=by
 rcases h.ats.2 with ⟨e,h0⟩ | ⟨g',cap',cur,e,_⟩
 ·omega
 ·have hr:=h.ats
  rw [e] at hr
  have hc:=hr.cells (g:=g') rfl k (.int .i64 (t.ats.getD k 0)) (by rw [List.getElem?_map,List.getElem?_eq_getElem hk,List.getD_eq_getElem?_getD,List.getElem?_eq_getElem hk];rfl)
  refine ⟨g',cap',e,?_⟩
  have e2:(⟨g',0,none⟩:Addr).add k=⟨g',k,none⟩:=by cases k <;> simp [Addr.add]
  rw [<-e2];exact hc
theorem yQu(n c g:Nat)(y:HLay)(s:zAa)(id k:Nat)(time:Int)(w:World)(h:zAd w n c g y s)(hs:zFb s)(h1:1<=id)(h2:id<=s.txs.length)(hk:k<s.lines.length)(hw:∀ p∈(s.tx id).writes,p.key.size<=20) :
  Calls Tryz.prog 78 #[.pointer (some ⟨g,0,none⟩),.int .i64 id,.int .i64 k,.int .i64 time] w fun e w'=>DueP w w' (dueH s id k time) e:=by
 obtain ⟨w0,hw0⟩:∃ x,x=w.alloc (.cells #[.int .i64 0,.int .i64 0,.int .i64 0,.slice none 0 0] 65):=⟨_,rfl⟩
 have hm0:Mod zAb w w0:=by rw [hw0];exact (Mod.refl _ w).alloc _
 have hB0:Blk w0 w.heap.size [.int .i64 0,.int .i64 0,.int .i64 0,.slice none 0 0] 65:=by rw [hw0];exact Blk.new w _ _
 have hz0:=hm0.size
 have h0:=h.quiet hm0
 have hll:=hs.ll
 have htl:=hs.tl
 obtain ⟨b,hb,hT⟩:=h0.txQ h1 h2
 have hta:=hs.ta _ (zNv h1 h2)
 have htw:=hs.tw _ (zNv h1 h2)
 have HTX:=Hmq (zHo n c g y s id b w0 h0 h1 (by omega) hb)
 have HDE:=Hmq (zKl n c g y s w0 h0 (by omega) (by omega))
 have HRD:=Hmq (yJm n b y (s.tx id) w0 hT)
 have HWA:=Hmq (zYe n c g y s b k (s.tx id) w0 h0 hs hT htw hw)
 obtain ⟨ab,acap,hav,hac⟩:=yFh hT (k:=k) (by rw [hta];exact hk)
 have t0:=hT.blk.cell 0 rfl
 have t1:=hT.blk.cell 1 rfl
 have t3:=hT.blk.cell 3 rfl
 rw [hav,hta] at t1
 obtain ⟨x,hx⟩:∃ x,x=(s.tx id).ats.getD k 0:=⟨_,rfl⟩
 rw [<-hx] at hac
 obtain ⟨⟨p0,p1,p2,p3⟩,⟨f0,f1,f2,f3⟩⟩:(w0.cell? ⟨w.heap.size,0,none⟩=some (.int .i64 0)/\w0.cell? ⟨w.heap.size,1,none⟩=some (.int .i64 0)/\w0.cell? ⟨w.heap.size,2,none⟩=some (.int .i64 0)/\w0.cell? ⟨w.heap.size,3,none⟩=some (.slice none 0 0))/\(w0.frozen? ⟨w.heap.size,0,none⟩=false/\w0.frozen? ⟨w.heap.size,1,none⟩=false/\w0.frozen? ⟨w.heap.size,2,none⟩=false/\w0.frozen? ⟨w.heap.size,3,none⟩=false):=by
  obtain ⟨x0,x1,x2,x3,y0,y1,y2,y3⟩:=blk4 hB0
  exact ⟨⟨x0,x1,x2,x3⟩,⟨y0,y1,y2,y3⟩⟩
 have hkI:(k:Int)<(s.lines.length:Int):=by omega
 have hk0:(0:Int)<=(k:Int):=by omega
 have HB0:=Hmq hB0
 have HM0:=Hmq hm0
 have nilR:∀ w':World,w'.ownsRow w.heap.size 68 3 (.slice none 0 0) 0 (zBp []):=fun w'=>World.ownsRow_nil _ _ _ _
 have HNR:=Hmq nilR
 clear h h0 hT hb hB0 hm0 hav nilR hta htw
 by_cases hkd:k=decH s
 ·have hkdb:((k:Int) == ((decH s:Nat):Int))=true:=by
   have:(k:Int)=((decH s:Nat):Int):=by omega
   simpa using this
  by_cases hst:(s.tx id).state=2
  ·have hsb:((s.tx id).state == 2)=true:=by simpa using hst
   cases hr:zIy (s.tx id) with
   | true=>
    have HR:Hid (dueH s id k time=some ⟨3,id,time,[]⟩):=by unfold Hid dueH;simp only;rw [if_pos hkd,if_pos ⟨hst,hr⟩]
    rw [hr] at HRD
    clear hkd hst hr
    go_enter Tryz.func78,Tryz.ntmps78
    go_upto_region 1 with fail
    rw [<-hw0]
    clear hw0
    go_wp2_with (first
     | (go_at_call 34;refine HTX.out.mono ?_;rintro e w2 ⟨rfl,rfl⟩)
     | (go_at_call 109;refine HDE.out.mono ?_;rintro e w2 ⟨rfl,rfl⟩)
     | (go_at_call 124;refine HRD.out.mono ?_;rintro e w2 ⟨rfl,rfl⟩)
     | fail)
    obtain ⟨q1,q2⟩:=zLr HM0.out HB0.out ⟨3,id,time,[]⟩ (.slice none 0 0) (HNR.out _)
    refine bodyPost_ret (zCu Tryz.results78 _ ⟨w.heap.size,0,none⟩ rfl rfl (zHu HB0.out _ _ _ _)) rfl ⟨⟨3,id,time,[]⟩,.slice none 0 0,true,rfl,q1,HR.out,q2⟩
   | false=>
    have HR:Hid (dueH s id k time=none):=by unfold Hid dueH;simp only;rw [if_pos hkd,if_neg (fun q=>by rw [hr] at q;cases q.2)]
    rw [hr] at HRD
    clear hkd hst hr
    go_enter Tryz.func78,Tryz.ntmps78
    go_upto_region 1 with fail
    rw [<-hw0]
    clear hw0
    go_wp2_with (first
     | (go_at_call 34;refine HTX.out.mono ?_;rintro e w2 ⟨rfl,rfl⟩)
     | (go_at_call 109;refine HDE.out.mono ?_;rintro e w2 ⟨rfl,rfl⟩)
     | (go_at_call 124;refine HRD.out.mono ?_;rintro e w2 ⟨rfl,rfl⟩)
     | fail)
    obtain ⟨q1,q2⟩:=zLr HM0.out HB0.out ⟨3,id,time,[]⟩ (.slice none 0 0) (HNR.out _)
    refine bodyPost_ret (zCu Tryz.results78 _ ⟨w.heap.size,0,none⟩ rfl rfl (zHu HB0.out _ _ _ _)) rfl ⟨⟨3,id,time,[]⟩,.slice none 0 0,false,rfl,q1,HR.out,q2⟩
  ·have hsb:((s.tx id).state == 2)=false:=by simpa using hst
   have HR:Hid (dueH s id k time=none):=by unfold Hid dueH;simp only;rw [if_pos hkd,if_neg (fun q=>hst q.1)]
   clear hkd hst
   go_enter Tryz.func78,Tryz.ntmps78
   go_upto_region 1 with fail
   rw [<-hw0]
   clear hw0
   go_wp2_with (first
    | (go_at_call 34;refine HTX.out.mono ?_;rintro e w2 ⟨rfl,rfl⟩)
    | (go_at_call 109;refine HDE.out.mono ?_;rintro e w2 ⟨rfl,rfl⟩)
    | (go_at_call 124;refine HRD.out.mono ?_;rintro e w2 ⟨rfl,rfl⟩)
    | fail)
   obtain ⟨q1,q2⟩:=zLr HM0.out HB0.out ⟨3,id,time,[]⟩ (.slice none 0 0) (HNR.out _)
   refine bodyPost_ret (zCu Tryz.results78 _ ⟨w.heap.size,0,none⟩ rfl rfl (zHu HB0.out _ _ _ _)) rfl ⟨⟨3,id,time,[]⟩,.slice none 0 0,false,rfl,q1,HR.out,q2⟩
 ·have hkdb:((k:Int) == ((decH s:Nat):Int))=false:=by
   have:(k:Int)≠((decH s:Nat):Int):=by omega
   simpa using this
  by_cases ha:x=0
  ·have HR:Hid (dueH s id k time=none):=by unfold Hid dueH;simp only;rw [if_neg hkd,if_pos (by rw [<-hx];exact ha)]
   have hab:(x == 0)=true:=by simpa using ha
   clear ha hkd hx
   go_enter Tryz.func78,Tryz.ntmps78
   go_upto_region 1 with fail
   rw [<-hw0]
   clear hw0
   go_wp2_with (first
    | (go_at_call 34;refine HTX.out.mono ?_;rintro e w2 ⟨rfl,rfl⟩)
    | (go_at_call 109;refine HDE.out.mono ?_;rintro e w2 ⟨rfl,rfl⟩)
    | (go_at_call 124;refine HRD.out.mono ?_;rintro e w2 ⟨rfl,rfl⟩)
    | fail)
   obtain ⟨q1,q2⟩:=zLr HM0.out HB0.out zIe (.slice none 0 0) (HNR.out _)
   refine bodyPost_ret (zCu Tryz.results78 _ ⟨w.heap.size,0,none⟩ rfl rfl (zHu HB0.out _ _ _ _)) rfl ⟨zIe,.slice none 0 0,false,rfl,q1,HR.out,q2⟩
  ·have hab:(x == 0)=false:=by simpa using ha
   have ha':¬ ((s.tx id).ats.getD k 0=0):=by rw [<-hx];exact ha
   by_cases s2:(s.tx id).state=2
   ·have HR:Hid (dueH s id k time=some ⟨2,id,0,zDq s (s.tx id) k⟩):=by unfold Hid dueH;simp only;rw [if_neg hkd,if_neg ha',if_pos s2]
    have hsb:((s.tx id).state == 2)=true:=by simpa using s2
    clear ha hkd hx ha' s2
    go_enter Tryz.func78,Tryz.ntmps78
    go_upto_region 1 with fail
    rw [<-hw0]
    clear hw0
    go_wp2_with (first
     | (go_at_call 34;refine HTX.out.mono ?_;rintro e w2 ⟨rfl,rfl⟩)
     | (go_at_call 109;refine HDE.out.mono ?_;rintro e w2 ⟨rfl,rfl⟩)
     | (go_at_call 124;refine HRD.out.mono ?_;rintro e w2 ⟨rfl,rfl⟩)
     | fail)
    refine HWA.out.mono ?_
    rintro e w3 ⟨v,rfl,hrow,hm3⟩
    obtain ⟨va,vc,hv⟩:=zAf hrow
    subst hv
    have hB3:=HB0.out.mod hm3 (fun e=>e)
    obtain ⟨x0,x1,x2,x3,y0,y1,y2,y3⟩:=blk4 hB3
    have HRW:=Hmq (zEa hrow hz0)
    have HM3:=Hmq (HM0.out.trans hm3)
    have HB3:=Hmq hB3
    clear hrow hm3 hB3
    go_wp2_with fail
    obtain ⟨q1,q2⟩:=zLr HM3.out HB3.out ⟨2,id,0,zDq s (s.tx id) k⟩ _ HRW.out
    refine bodyPost_ret (zCu Tryz.results78 _ ⟨w.heap.size,0,none⟩ rfl rfl (zHu HB3.out _ _ _ _)) rfl ⟨⟨2,id,0,zDq s (s.tx id) k⟩,_,true,rfl,q1,HR.out,q2⟩
   ·have hs2:((s.tx id).state == 2)=false:=by simpa using s2
    by_cases s3:(s.tx id).state=3
    ·have HR:Hid (dueH s id k time=some ⟨3,id,(s.tx id).time,[]⟩):=by unfold Hid dueH;simp only;rw [if_neg hkd,if_neg ha',if_neg s2,if_pos s3]
     have hs3:((s.tx id).state == 3)=true:=by simpa using s3
     clear ha hkd hx ha' s2 s3
     go_enter Tryz.func78,Tryz.ntmps78
     go_upto_region 1 with fail
     rw [<-hw0]
     clear hw0
     go_wp2_with (first
      | (go_at_call 34;refine HTX.out.mono ?_;rintro e w2 ⟨rfl,rfl⟩)
      | (go_at_call 109;refine HDE.out.mono ?_;rintro e w2 ⟨rfl,rfl⟩)
      | (go_at_call 124;refine HRD.out.mono ?_;rintro e w2 ⟨rfl,rfl⟩)
      | fail)
     obtain ⟨q1,q2⟩:=zLr HM0.out HB0.out ⟨3,id,(s.tx id).time,[]⟩ (.slice none 0 0) (HNR.out _)
     refine bodyPost_ret (zCu Tryz.results78 _ ⟨w.heap.size,0,none⟩ rfl rfl (zHu HB0.out _ _ _ _)) rfl ⟨⟨3,id,(s.tx id).time,[]⟩,.slice none 0 0,true,rfl,q1,HR.out,q2⟩
    ·have hs3:((s.tx id).state == 3)=false:=by simpa using s3
     by_cases s4:(s.tx id).state=4
     ·have HR:Hid (dueH s id k time=some ⟨4,id,0,[]⟩):=by unfold Hid dueH;simp only;rw [if_neg hkd,if_neg ha',if_neg s2,if_neg s3,if_pos s4]
      have hs4:((s.tx id).state == 4)=true:=by simpa using s4
      clear ha hkd hx ha' s2 s3 s4
      go_enter Tryz.func78,Tryz.ntmps78
      go_upto_region 1 with fail
      rw [<-hw0]
      clear hw0
      go_wp2_with (first
       | (go_at_call 34;refine HTX.out.mono ?_;rintro e w2 ⟨rfl,rfl⟩)
       | (go_at_call 109;refine HDE.out.mono ?_;rintro e w2 ⟨rfl,rfl⟩)
       | (go_at_call 124;refine HRD.out.mono ?_;rintro e w2 ⟨rfl,rfl⟩)
       | fail)
      obtain ⟨q1,q2⟩:=zLr HM0.out HB0.out ⟨4,id,0,[]⟩ (.slice none 0 0) (HNR.out _)
      refine bodyPost_ret (zCu Tryz.results78 _ ⟨w.heap.size,0,none⟩ rfl rfl (zHu HB0.out _ _ _ _)) rfl ⟨⟨4,id,0,[]⟩,.slice none 0 0,true,rfl,q1,HR.out,q2⟩
     ·have HR:Hid (dueH s id k time=none):=by unfold Hid dueH;simp only;rw [if_neg hkd,if_neg ha',if_neg s2,if_neg s3,if_neg s4]
      have hs4:((s.tx id).state == 4)=false:=by simpa using s4
      clear ha hkd hx ha' s2 s3 s4
      go_enter Tryz.func78,Tryz.ntmps78
      go_upto_region 1 with fail
      rw [<-hw0]
      clear hw0
      go_wp2_with (first
       | (go_at_call 34;refine HTX.out.mono ?_;rintro e w2 ⟨rfl,rfl⟩)
       | (go_at_call 109;refine HDE.out.mono ?_;rintro e w2 ⟨rfl,rfl⟩)
       | (go_at_call 124;refine HRD.out.mono ?_;rintro e w2 ⟨rfl,rfl⟩)
       | fail)
      obtain ⟨q1,q2⟩:=zLr HM0.out HB0.out zIe (.slice none 0 0) (HNR.out _)
      refine bodyPost_ret (zCu Tryz.results78 _ ⟨w.heap.size,0,none⟩ rfl rfl (zHu HB0.out _ _ _ _)) rfl ⟨zIe,.slice none 0 0,false,rfl,q1,HR.out,q2⟩
end Go.Proofs.YtmaiggbnceejiaaGreatDoor
