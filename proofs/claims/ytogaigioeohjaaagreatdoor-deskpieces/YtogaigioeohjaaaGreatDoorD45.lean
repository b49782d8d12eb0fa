import Derived.Test.YtogaigioeohjaaaGreatDoorD44
set_option linter.unusedVariables false
set_option maxRecDepth 100000
set_option maxHeartbeats 16000000
namespace Go.Proofs.YtogaigioeohjaaaGreatDoor
open Go.RowKit Go.Lib Go.Maps
set_option maxHeartbeats 16000000
theorem yAa{log:List CmdD}{tx:Int}{j:Nat}{p:CmdD}(hj:log[j]?=some p)(h1:p.kind=2)(h2:p.tx=tx):(zDl log 2 tx).isSome=true:=by
 unfold zDl
 rw [List.findIdx?_isSome,List.any_eq_true]
 exact ⟨p,List.mem_of_getElem? hj,by simp [h1,h2]⟩
theorem Safe.headLogD{s:zAa}(h:Safe s)(key:ByteArray):(headLog s key).length<=1000/\∀ c∈headLog s key,c.kind=3->(zDl (headLog s key) 2 c.tx).isSome=true:=by
 have hd:=h.dec_lt
 have hk:zAv s key<decH s:=Nat.mod_lt _ (by have:=h.ll.1;unfold decH;omega)
 have hlog:=h.log (zAv s key) (by omega)
 have e:Go.Proofs.YtogaigioeohjaaaGreatDoor.headLog s key=(zAp s (zAv s key)).log:=rfl
 rw [e]
 refine ⟨?_,fun c hc h3=>?_⟩
 ·have:=(h.line (zAv s key) (by omega)).few _ (h.head_mem (by omega))
  omega
 ·obtain ⟨i,hi⟩:=List.getElem?_of_mem hc
  obtain ⟨j,p,-,hj,q1,q2⟩:=hlog.prep (by omega) i c hi h3
  exact yAa hj q1 q2
theorem yIp{ss mb m n c g A:Nat}{y:HLay}{s:zAa}{w:World}(x1:ByteArray)(h:SesP w ss mb n c g y s)(hi:SesI m c s)(hm:m<=900)(hx1:x1.size<=1000000)(hA:y.own A=.no)(hAs:A≠ss)
  (k1:w.cell? ⟨A,1,none⟩=some (.string x1)) :
  Calls Tryz.prog 28 #[.pointer (some ⟨ss,0,none⟩),.slice (some ⟨A,0,none⟩) 2 2] w (DoP ss mb m w y (zCd s x1 fun v=>(s,0,zQd (zGf s v)))):=by
 have HNU:Hid (∀ wq,Mod zAb w wq->Calls Tryz.prog 44 #[.string x1] wq (NumP x1 wq)):=fun wq hq=>zDc x1 hx1 wq (h.vd.quiet hq)
 have c0:=h.blk.cell 0 rfl
 have HC:Hid (w.drew.cell? ⟨ss,0,none⟩=some (.pointer (some ⟨g,0,none⟩))/\w.drew.cell? ⟨A,1,none⟩=some (.string x1)):=⟨c0,k1⟩
 have HP:=Hmq h
 have HI:=Hmq hi
 clear c0 k1 h
 go_enter Tryz.func28,Tryz.ntmps28
 go_upto_region 1 with fail
 refine zEr fun fr hfr=>?_
 refine zDk fun Q1 hQ1=>?_
 have hpan:∀ (d:Nat) (v:Value) (c:List PanicEntry) (a:Act) (w:World),Q1 (.panic c) (a.put (some d) v) w->Q1 (.panic c) a w:=fun d v c a w h=>by rw [hQ1] at h ⊢;exact h
 have HQ1:=Hmq hQ1
 clear hQ1
 have hsz:fr.tmps.size=22:=by rw [hfr];rfl
 obtain ⟨_,t0⟩:∃ h:0<fr.tmps.size,fr.tmps[0]=.pointer (some ⟨ss,0,none⟩):=Array.getElem?_eq_some_iff.1 (by rw [hfr];rfl)
 obtain ⟨_,t1⟩:∃ h:1<fr.tmps.size,fr.tmps[1]=.slice (some ⟨A,0,none⟩) 2 2:=Array.getElem?_eq_some_iff.1 (by rw [hfr];rfl)
 have HFR:=Hmq hfr
 clear hfr
 refine zBo 99 (fun wq=>wq.cell? ⟨ss,0,none⟩=some (.pointer (some ⟨g,0,none⟩))/\wq.cell? ⟨A,1,none⟩=some (.string x1)) rfl ?_
 refine zAc 99 0 5 (.pointer (some ⟨ss,0,none⟩)) rfl rfl (by kernel_rfl) (by kernel_rfl) (by kernel_rfl) (by kernel_rfl) (fun c a w h=>hpan _ _ c a w h) HC.out ⟨by rfl,fun wq hq=>by obtain ⟨q0,q1⟩:=hq;go_simp⟩ ?_
 refine zAc 99 1 6 (.pointer (some ⟨ss,0,none⟩)) rfl rfl (by kernel_rfl) (by kernel_rfl) (by kernel_rfl) (by kernel_rfl) (fun c a w h=>hpan _ _ c a w h) HC.out ⟨by rfl,fun wq hq=>by obtain ⟨q0,q1⟩:=hq;go_simp⟩ ?_
 refine zAc 99 2 7 (.pointer (some ⟨ss,0,none⟩)) rfl rfl (by kernel_rfl) (by kernel_rfl) (by kernel_rfl) (by kernel_rfl) (fun c a w h=>hpan _ _ c a w h) HC.out ⟨by rfl,fun wq hq=>by obtain ⟨q0,q1⟩:=hq;go_simp⟩ ?_
 refine zAc 99 3 8 (.pointer (some ⟨g,0,none⟩)) rfl rfl (by kernel_rfl) (by kernel_rfl) (by kernel_rfl) (by kernel_rfl) (fun c a w h=>hpan _ _ c a w h) HC.out ⟨by rfl,fun wq hq=>by obtain ⟨q0,q1⟩:=hq;go_simp⟩ ?_
 refine zAc 99 4 9 (.slice (some ⟨A,0,none⟩) 2 2) rfl rfl (by kernel_rfl) (by kernel_rfl) (by kernel_rfl) (by kernel_rfl) (fun c a w h=>hpan _ _ c a w h) HC.out ⟨by rfl,fun wq hq=>by obtain ⟨q0,q1⟩:=hq;go_simp⟩ ?_
 refine zAc 99 5 10 (.pointer (some ⟨A,1,none⟩)) rfl rfl (by kernel_rfl) (by kernel_rfl) (by kernel_rfl) (by kernel_rfl) (fun c a w h=>hpan _ _ c a w h) HC.out ⟨by rfl,fun wq hq=>by obtain ⟨q0,q1⟩:=hq;go_simp⟩ ?_
 refine zAc 99 6 11 (.string x1) rfl rfl (by kernel_rfl) (by kernel_rfl) (by kernel_rfl) (by kernel_rfl) (fun c a w h=>hpan _ _ c a w h) HC.out ⟨by rfl,fun wq hq=>by obtain ⟨q0,q1⟩:=hq;go_simp⟩ ?_
 refine zAr 99 7 12 rfl rfl (by kernel_rfl) (by rfl) (f:=44) (args:=#[.string x1]) (by go_simp) ((HNU.out _ ((Mod.refl _ _).drew)).mono ?_)
 intro e w1 hN
 cases hn:numD x1 with
 | none=>
  rw [NumP.no hn] at hN
  obtain ⟨rfl,hm1⟩:=hN
  have HM1:Mod zAb w w1:=((Mod.refl _ w).drew).trans hm1
  refine .inr ⟨_,rfl,?_⟩
  rw [HQ1.out]
  have HFI:Hid (DoP ss mb m w y (zCd s x1 fun v=>(s,0,zQd (zGf s v))) (zCv 3) w1):=by
   unfold Hid;rw [zFy hn];exact DoP.no (by decide) (HP.out.still HI.out HM1)
  exact ⟨by rw [HFR.out];rfl,HFI.out⟩
 | some v=>
  rw [NumP.yes hn] at hN
  obtain ⟨rfl,hm1⟩:=hN
  have HN:=Hmq hn
  clear hn
  have HM1:Mod zAb w w1:=((Mod.refl _ w).drew).trans hm1
  have hP1:=HP.out.quiet HM1
  have HC1:Hid (w1.cell? ⟨ss,0,none⟩=some (.pointer (some ⟨g,0,none⟩))/\w1.cell? ⟨A,1,none⟩=some (.string x1)):=⟨HM1.cell HC.out.1 id,HM1.cell HC.out.2 id⟩
  refine .inl ⟨_,rfl,HC1.out,?_⟩
  refine zEs 99 8 13 rfl rfl (by kernel_rfl) (by rfl) (f:=57) (args:=#[.pointer (some ⟨g,0,none⟩),.int .i64 v]) (by go_simp) ((zVr n c g y s v w1 hP1.house (by have:=hi.txs;omega)).mono ?_)
  rintro e w2 ⟨rfl,rfl⟩
  refine ⟨_,rfl,HC1.out,?_⟩
  refine ⟨by kernel_rfl,?_⟩
  obtain ⟨st,hst⟩:∃ st,st=zGf s v:=⟨_,rfl⟩
  have HST:=Hmq hst
  rw [<-hst]
  clear hst
  have hfin:∀ B:Act,B=⟨#[.pointer (some ⟨ss,0,none⟩),.slice (some ⟨A,0,none⟩) 2 2,undef,undef,.string ⟨#[]⟩,.pointer (some ⟨ss,0,none⟩),.pointer (some ⟨ss,0,none⟩),.pointer (some ⟨ss,0,none⟩),.pointer (some ⟨g,0,none⟩),.slice (some ⟨A,0,none⟩) 2 2,.pointer (some ⟨A,1,none⟩),.string x1,.int .i64 v,.int .i64 st,undef,undef,undef,undef,undef,undef,undef,undef],[]⟩->Q1 .normal B w2:=fun B hB=>by
   subst hB
   have hQ1:=HQ1.out
   subst hQ1
   have HFI:Hid (DoP ss mb m w y (zCd s x1 fun v=>(s,0,zQd (zGf s v))) (.returned (.string (zQd st))) w2):=by
    unfold Hid;rw [zCb HN.out,<-HST.out];exact DoP.yes rfl (HP.out.still HI.out HM1)
   clear t0 t1 hsz hpan HNU HC HC1 HFR hP1 hm1 hi HP HI HN HST HM1
   unfold zQd at HFI
   by_cases e1:st=1
   ·subst e1
    go_wp2_with fail
    go_ret
    exact HFI.out
   rw [if_neg e1] at HFI
   by_cases e2:st=2
   ·subst e2
    go_wp2_with fail
    go_ret
    exact HFI.out
   rw [if_neg e2] at HFI
   by_cases e3:st=3
   ·subst e3
    go_wp2_with fail
    go_ret
    exact HFI.out
   rw [if_neg e3] at HFI
   by_cases e4:st=4
   ·subst e4
    go_wp2_with fail
    go_ret
    exact HFI.out
   rw [if_neg e4] at HFI
   have b1:(st == 1)=false:=beq_eq_false_iff_ne.2 e1
   have b2:(st == 2)=false:=beq_eq_false_iff_ne.2 e2
   have b3:(st == 3)=false:=beq_eq_false_iff_ne.2 e3
   have b4:(st == 4)=false:=beq_eq_false_iff_ne.2 e4
   clear e1 e2 e3 e4
   go_wp2_with fail
   go_ret
   exact HFI.out
  exact hfin _ (by rw [HFR.out];kernel_rfl)
theorem yIq{ss mb m n c g A:Nat}{y:HLay}{s:zAa}{w:World}(x1:ByteArray)(h:SesP w ss mb n c g y s)(hi:SesI m c s)(hm:m<=900)(hx1:x1.size<=1000000)(hA:y.own A=.no)(hAs:A≠ss)
  (k1:w.cell? ⟨A,1,none⟩=some (.string x1)) :
  Calls Tryz.prog 27 #[.pointer (some ⟨ss,0,none⟩),.slice (some ⟨A,0,none⟩) 2 2] w (DoP ss mb m w y (s,0,strB (Lib.itoa (zAv s x1)))):=by
 have HNU:Hid (∀ wq,Mod zAb w wq->Calls Tryz.prog 44 #[.string x1] wq (NumP x1 wq)):=fun wq hq=>zDc x1 hx1 wq (h.vd.quiet hq)
 have c0:=h.blk.cell 0 rfl
 have HC:Hid (w.drew.cell? ⟨ss,0,none⟩=some (.pointer (some ⟨g,0,none⟩))/\w.drew.cell? ⟨A,1,none⟩=some (.string x1)):=⟨c0,k1⟩
 have HP:=Hmq h
 have HI:=Hmq hi
 clear c0 k1 h
 go_enter Tryz.func27,Tryz.ntmps27
 go_upto_region 1 with fail
 refine zEr fun fr hfr=>?_
 refine zDk fun Q1 hQ1=>?_
 have hpan:∀ (d:Nat) (v:Value) (c:List PanicEntry) (a:Act) (w:World),Q1 (.panic c) (a.put (some d) v) w->Q1 (.panic c) a w:=fun d v c a w h=>by rw [hQ1] at h ⊢;exact h
 have HQ1:=Hmq hQ1
 clear hQ1
 have hsz:fr.tmps.size=14:=by rw [hfr];rfl
 obtain ⟨_,t0⟩:∃ h:0<fr.tmps.size,fr.tmps[0]=.pointer (some ⟨ss,0,none⟩):=Array.getElem?_eq_some_iff.1 (by rw [hfr];rfl)
 obtain ⟨_,t1⟩:∃ h:1<fr.tmps.size,fr.tmps[1]=.slice (some ⟨A,0,none⟩) 2 2:=Array.getElem?_eq_some_iff.1 (by rw [hfr];rfl)
 have HFR:=Hmq hfr
 clear hfr
 refine zBo 99 (fun wq=>wq.cell? ⟨ss,0,none⟩=some (.pointer (some ⟨g,0,none⟩))/\wq.cell? ⟨A,1,none⟩=some (.string x1)) rfl ?_
 refine zAc 99 0 5 (.pointer (some ⟨ss,0,none⟩)) rfl rfl (by kernel_rfl) (by kernel_rfl) (by kernel_rfl) (by kernel_rfl) (fun c a w h=>hpan _ _ c a w h) HC.out ⟨by rfl,fun wq hq=>by obtain ⟨q0,q1⟩:=hq;go_simp⟩ ?_
 refine zAc 99 1 6 (.pointer (some ⟨ss,0,none⟩)) rfl rfl (by kernel_rfl) (by kernel_rfl) (by kernel_rfl) (by kernel_rfl) (fun c a w h=>hpan _ _ c a w h) HC.out ⟨by rfl,fun wq hq=>by obtain ⟨q0,q1⟩:=hq;go_simp⟩ ?_
 refine zAc 99 2 7 (.pointer (some ⟨ss,0,none⟩)) rfl rfl (by kernel_rfl) (by kernel_rfl) (by kernel_rfl) (by kernel_rfl) (fun c a w h=>hpan _ _ c a w h) HC.out ⟨by rfl,fun wq hq=>by obtain ⟨q0,q1⟩:=hq;go_simp⟩ ?_
 refine zAc 99 3 8 (.pointer (some ⟨g,0,none⟩)) rfl rfl (by kernel_rfl) (by kernel_rfl) (by kernel_rfl) (by kernel_rfl) (fun c a w h=>hpan _ _ c a w h) HC.out ⟨by rfl,fun wq hq=>by obtain ⟨q0,q1⟩:=hq;go_simp⟩ ?_
 refine zAc 99 4 9 (.slice (some ⟨A,0,none⟩) 2 2) rfl rfl (by kernel_rfl) (by kernel_rfl) (by kernel_rfl) (by kernel_rfl) (fun c a w h=>hpan _ _ c a w h) HC.out ⟨by rfl,fun wq hq=>by obtain ⟨q0,q1⟩:=hq;go_simp⟩ ?_
 refine zAc 99 5 10 (.pointer (some ⟨A,1,none⟩)) rfl rfl (by kernel_rfl) (by kernel_rfl) (by kernel_rfl) (by kernel_rfl) (fun c a w h=>hpan _ _ c a w h) HC.out ⟨by rfl,fun wq hq=>by obtain ⟨q0,q1⟩:=hq;go_simp⟩ ?_
 refine zAc 99 6 11 (.string x1) rfl rfl (by kernel_rfl) (by kernel_rfl) (by kernel_rfl) (by kernel_rfl) (fun c a w h=>hpan _ _ c a w h) HC.out ⟨by rfl,fun wq hq=>by obtain ⟨q0,q1⟩:=hq;go_simp⟩ ?_
 have hP1:=HP.out.quiet ((Mod.refl zAb w).drew)
 have hdec:zAv s x1<=5:=by
  have h1:=hi.rest.c.safe.shape.ll
  have h2:zAv s x1<decH s:=Nat.mod_lt _ (by unfold decH;omega)
  unfold decH at h2
  omega
 refine zEs 99 7 12 rfl rfl (by kernel_rfl) (by rfl) (f:=56) (args:=#[.pointer (some ⟨g,0,none⟩),.string x1]) (by go_simp) ((zNt n c g y s x1 _ hP1.house hi.rest.c.safe.shape hx1).mono ?_)
 rintro e w1 ⟨rfl,rfl⟩
 refine ⟨_,rfl,HC.out,?_⟩
 refine zEs 99 8 13 rfl rfl (by kernel_rfl) (by rfl) (f:=12) (args:=#[.int .i64 (zAv s x1)]) (by go_simp) ((zRb _ (by unfold zBc;omega) _ hP1.vd).mono ?_)
 rintro e w2 ⟨rfl,hm2⟩
 have HM2:Mod zAb w w2:=((Mod.refl _ w).drew).trans hm2
 have HC2:Hid (w2.cell? ⟨ss,0,none⟩=some (.pointer (some ⟨g,0,none⟩))/\w2.cell? ⟨A,1,none⟩=some (.string x1)):=⟨HM2.cell HC.out.1 id,HM2.cell HC.out.2 id⟩
 refine ⟨_,rfl,HC2.out,?_⟩
 refine zAc 99 9 4 (.string (strB (Lib.itoa (zAv s x1)))) rfl rfl (by kernel_rfl) (by kernel_rfl) (by kernel_rfl) (by kernel_rfl) (fun c a w h=>hpan _ _ c a w h) HC2.out ⟨by rfl,fun wq hq=>by obtain ⟨q0,q1⟩:=hq;go_simp⟩ ?_
 refine ⟨by kernel_rfl,?_⟩
 have hfin:∀ B:Act,B=⟨#[.pointer (some ⟨ss,0,none⟩),.slice (some ⟨A,0,none⟩) 2 2,undef,undef,.string (strB (Lib.itoa (zAv s x1))),.pointer (some ⟨ss,0,none⟩),.pointer (some ⟨ss,0,none⟩),.pointer (some ⟨ss,0,none⟩),.pointer (some ⟨g,0,none⟩),.slice (some ⟨A,0,none⟩) 2 2,.pointer (some ⟨A,1,none⟩),.string x1,.int .i64 (zAv s x1),.string (strB (Lib.itoa (zAv s x1)))],[]⟩->Q1 .normal B w2:=fun B hB=>by
  subst hB
  have hQ1:=HQ1.out
  subst hQ1
  have HFI:Hid (DoP ss mb m w y (s,0,strB (Lib.itoa (zAv s x1))) (.returned (.string (strB (Lib.itoa (zAv s x1))))) w2):=DoP.yes rfl (HP.out.still HI.out HM2)
  clear t0 t1 hsz hpan HNU HC HC2 HFR hi HP HI HM2 hm2 hP1
  go_wp2_with fail
  go_ret
  exact HFI.out
 exact hfin _ (by rw [HFR.out];kernel_rfl)
theorem yRi{ss mb m n c g A:Nat}{y:HLay}{s:zAa}{w:World}(x1 x2:ByteArray)(h:SesP w ss mb n c g y s)(hi:SesI m c s)(hm:m<=900)(hx1:x1.size<=1000000)(hx2:x2.size<=1000000)(hA:y.own A=.no)(hAs:A≠ss)
  (k1:w.cell? ⟨A,1,none⟩=some (.string x1)) (k2:w.cell? ⟨A,2,none⟩=some (.string x2)) :
  Calls Tryz.prog 22 #[.pointer (some ⟨ss,0,none⟩),.slice (some ⟨A,0,none⟩) 3 3] w (DoP ss mb m w y (zCd s x1 fun v=>((getH s v x2).1,(getH s v x2).2.2.2,if (getH s v x2).2.2.1 then ⟨#[105,115,32]⟩++(getH s v x2).2.1 else ⟨#[110,111,110,101]⟩))):=by
 have HNU:Hid (∀ wq,Mod zAb w wq->Calls Tryz.prog 44 #[.string x1] wq (NumP x1 wq)):=fun wq hq=>zDc x1 hx1 wq (h.vd.quiet hq)
 have c0:=h.blk.cell 0 rfl
 have HC:Hid (w.drew.cell? ⟨ss,0,none⟩=some (.pointer (some ⟨g,0,none⟩))/\w.drew.cell? ⟨A,1,none⟩=some (.string x1)/\w.drew.cell? ⟨A,2,none⟩=some (.string x2)):=⟨c0,k1,k2⟩
 have HP:=Hmq h
 have HI:=Hmq hi
 clear c0 k1 k2 h
 go_enter Tryz.func22,Tryz.ntmps22
 go_upto_region 1 with fail
 refine zEr fun fr hfr=>?_
 refine zDk fun Q1 hQ1=>?_
 have hpan:∀ (d:Nat) (v:Value) (c:List PanicEntry) (a:Act) (w:World),Q1 (.panic c) (a.put (some d) v) w->Q1 (.panic c) a w:=fun d v c a w h=>by rw [hQ1] at h ⊢;exact h
 have HQ1:=Hmq hQ1
 clear hQ1
 have hsz:fr.tmps.size=30:=by rw [hfr];rfl
 obtain ⟨_,t0⟩:∃ h:0<fr.tmps.size,fr.tmps[0]=.pointer (some ⟨ss,0,none⟩):=Array.getElem?_eq_some_iff.1 (by rw [hfr];rfl)
 obtain ⟨_,t1⟩:∃ h:1<fr.tmps.size,fr.tmps[1]=.slice (some ⟨A,0,none⟩) 3 3:=Array.getElem?_eq_some_iff.1 (by rw [hfr];rfl)
 have HFR:=Hmq hfr
 clear hfr
 refine zBo 99 (fun wq=>wq.cell? ⟨ss,0,none⟩=some (.pointer (some ⟨g,0,none⟩))/\wq.cell? ⟨A,1,none⟩=some (.string x1)/\wq.cell? ⟨A,2,none⟩=some (.string x2)) rfl ?_
 refine zAc 99 0 9 (.pointer (some ⟨ss,0,none⟩)) rfl rfl (by kernel_rfl) (by kernel_rfl) (by kernel_rfl) (by kernel_rfl) (fun c a w h=>hpan _ _ c a w h) HC.out ⟨by rfl,fun wq hq=>by obtain ⟨q0,q1,q2⟩:=hq;go_simp⟩ ?_
 refine zAc 99 1 10 (.pointer (some ⟨ss,0,none⟩)) rfl rfl (by kernel_rfl) (by kernel_rfl) (by kernel_rfl) (by kernel_rfl) (fun c a w h=>hpan _ _ c a w h) HC.out ⟨by rfl,fun wq hq=>by obtain ⟨q0,q1,q2⟩:=hq;go_simp⟩ ?_
 refine zAc 99 2 11 (.pointer (some ⟨ss,0,none⟩)) rfl rfl (by kernel_rfl) (by kernel_rfl) (by kernel_rfl) (by kernel_rfl) (fun c a w h=>hpan _ _ c a w h) HC.out ⟨by rfl,fun wq hq=>by obtain ⟨q0,q1,q2⟩:=hq;go_simp⟩ ?_
 refine zAc 99 3 12 (.pointer (some ⟨g,0,none⟩)) rfl rfl (by kernel_rfl) (by kernel_rfl) (by kernel_rfl) (by kernel_rfl) (fun c a w h=>hpan _ _ c a w h) HC.out ⟨by rfl,fun wq hq=>by obtain ⟨q0,q1,q2⟩:=hq;go_simp⟩ ?_
 refine zAc 99 4 13 (.slice (some ⟨A,0,none⟩) 3 3) rfl rfl (by kernel_rfl) (by kernel_rfl) (by kernel_rfl) (by kernel_rfl) (fun c a w h=>hpan _ _ c a w h) HC.out ⟨by rfl,fun wq hq=>by obtain ⟨q0,q1,q2⟩:=hq;go_simp⟩ ?_
 refine zAc 99 5 14 (.pointer (some ⟨A,1,none⟩)) rfl rfl (by kernel_rfl) (by kernel_rfl) (by kernel_rfl) (by kernel_rfl) (fun c a w h=>hpan _ _ c a w h) HC.out ⟨by rfl,fun wq hq=>by obtain ⟨q0,q1,q2⟩:=hq;go_simp⟩ ?_
 refine zAc 99 6 15 (.string x1) rfl rfl (by kernel_rfl) (by kernel_rfl) (by kernel_rfl) (by kernel_rfl) (fun c a w h=>hpan _ _ c a w h) HC.out ⟨by rfl,fun wq hq=>by obtain ⟨q0,q1,q2⟩:=hq;go_simp⟩ ?_
 refine zAc 99 8 17 (.slice (some ⟨A,0,none⟩) 3 3) rfl rfl (by kernel_rfl) (by kernel_rfl) (by kernel_rfl) (by kernel_rfl) (fun c a w h=>hpan _ _ c a w h) HC.out ⟨by rfl,fun wq hq=>by obtain ⟨q0,q1,q2⟩:=hq;go_simp⟩ ?_
 refine zAc 99 9 18 (.pointer (some ⟨A,2,none⟩)) rfl rfl (by kernel_rfl) (by kernel_rfl) (by kernel_rfl) (by kernel_rfl) (fun c a w h=>hpan _ _ c a w h) HC.out ⟨by rfl,fun wq hq=>by obtain ⟨q0,q1,q2⟩:=hq;go_simp⟩ ?_
 refine zAc 99 10 19 (.string x2) rfl rfl (by kernel_rfl) (by kernel_rfl) (by kernel_rfl) (by kernel_rfl) (fun c a w h=>hpan _ _ c a w h) HC.out ⟨by rfl,fun wq hq=>by obtain ⟨q0,q1,q2⟩:=hq;go_simp⟩ ?_
 refine zAr 99 7 16 rfl rfl (by kernel_rfl) (by rfl) (f:=44) (args:=#[.string x1]) (by go_simp) ((HNU.out _ ((Mod.refl _ _).drew)).mono ?_)
 intro e w1 hN
 cases hn:numD x1 with
 | none=>
  rw [NumP.no hn] at hN
  obtain ⟨rfl,hm1⟩:=hN
  have HM1:Mod zAb w w1:=((Mod.refl _ w).drew).trans hm1
  refine .inr ⟨_,rfl,?_⟩
  rw [HQ1.out]
  have HFI:Hid (DoP ss mb m w y (zCd s x1 fun v=>((getH s v x2).1,(getH s v x2).2.2.2,if (getH s v x2).2.2.1 then ⟨#[105,115,32]⟩++(getH s v x2).2.1 else ⟨#[110,111,110,101]⟩)) (zCv 3) w1):=by
   unfold Hid;rw [zFy hn];exact DoP.no (by decide) (HP.out.still HI.out HM1)
  exact ⟨by rw [HFR.out];rfl,HFI.out⟩
 | some v=>
  rw [NumP.yes hn] at hN
  obtain ⟨rfl,hm1⟩:=hN
  have HN:=Hmq hn
  clear hn
  have HM1:Mod zAb w w1:=((Mod.refl _ w).drew).trans hm1
  have hP1:=HP.out.quiet HM1
  have HC1:Hid (w1.cell? ⟨ss,0,none⟩=some (.pointer (some ⟨g,0,none⟩))/\w1.cell? ⟨A,1,none⟩=some (.string x1)/\w1.cell? ⟨A,2,none⟩=some (.string x2)):=⟨HM1.cell HC.out.1 id,HM1.cell HC.out.2.1 id,HM1.cell HC.out.2.2 id⟩
  refine .inl ⟨_,rfl,HC1.out,?_⟩
  refine zEs 99 11 20 rfl rfl (by kernel_rfl) (by rfl) (f:=50) (args:=#[.pointer (some ⟨g,0,none⟩),.int .i64 v,.string x2]) (by go_simp) ((yTe n c g y s v x2 w1 hP1.house (zQn.ses hP1 hi hm) (by show _<=_;simp only [maxLen];omega) (hi.rest.c.safe.headLogD x2)).mono ?_)
  rintro e w2 ⟨rfl,y2,hH2,hK2⟩
  have HR:Hid (SesR ss mb m w y (getH s v x2).1 w2):=HP.out.acted (HI.out.act (zCz.get hi.rest v x2) (hi.sh.get v x2) (Nat.le_refl _)) HM1 hH2 hK2.st (Mod.refl _ _)
  have c2:w2.cell? ⟨ss,0,none⟩=some (.pointer (some ⟨g,0,none⟩)):=(hK2.st.blk hP1.blk HP.out.nos).cell 0 rfl
  have HC2:Hid (w2.cell? ⟨ss,0,none⟩=some (.pointer (some ⟨g,0,none⟩))/\w2.cell? ⟨A,1,none⟩=some (.string x1)/\w2.cell? ⟨A,2,none⟩=some (.string x2)):=⟨c2,HR.out.cell hA hAs HC.out.2.1,HR.out.cell hA hAs HC.out.2.2⟩
  clear c2 hH2 hK2
  refine ⟨_,rfl,HC2.out,?_⟩
  have hvs:(getH s v x2).2.1.size<=40:=hi.sh.value v x2
  have HFA:Hid (∀ e w',(e=if (getH s v x2).2.2.2=0 then .returned (.string (if (getH s v x2).2.2.1 then ⟨#[105,115,32]⟩++(getH s v x2).2.1 else ⟨#[110,111,110,101]⟩)) else zCv (getH s v x2).2.2.2)->Mod zAb w2 w'->DoP ss mb m w y (zCd s x1 fun v=>((getH s v x2).1,(getH s v x2).2.2.2,if (getH s v x2).2.2.1 then ⟨#[105,115,32]⟩++(getH s v x2).2.1 else ⟨#[110,111,110,101]⟩)) e w'):=fun e w' he hm'=>by
   rw [zCb HN.out];exact ⟨he,HR.out.quiet hm'⟩
  obtain ⟨val,hval⟩:∃ val,val=(getH s v x2).2.1:=⟨_,rfl⟩
  obtain ⟨fd,hfd⟩:∃ fd,fd=(getH s v x2).2.2.1:=⟨_,rfl⟩
  obtain ⟨er,her⟩:∃ er,er=(getH s v x2).2.2.2:=⟨_,rfl⟩
  rw [<-hval] at hvs HFA ⊢
  rw [<-hfd] at HFA ⊢
  rw [<-her] at HFA ⊢
  have HET:=Hmq HR.out.et
  clear hval hfd her HR
  refine zAc 99 12 8 (.tuple #[.string val,.bool fd,errQ er]) rfl rfl (by kernel_rfl) (by kernel_rfl) (by kernel_rfl) (by kernel_rfl) (fun c a w h=>hpan _ _ c a w h) HC2.out ⟨by rfl,fun wq hq=>by obtain ⟨q0,q1,q2⟩:=hq;go_simp⟩ ?_
  refine zAc 99 13 21 (.string val) rfl rfl (by kernel_rfl) (by kernel_rfl) (by kernel_rfl) (by kernel_rfl) (fun c a w h=>hpan _ _ c a w h) HC2.out ⟨by rfl,fun wq hq=>by obtain ⟨q0,q1,q2⟩:=hq;go_simp⟩ ?_
  refine zAc 99 14 22 (.bool fd) rfl rfl (by kernel_rfl) (by kernel_rfl) (by kernel_rfl) (by kernel_rfl) (fun c a w h=>hpan _ _ c a w h) HC2.out ⟨by rfl,fun wq hq=>by obtain ⟨q0,q1,q2⟩:=hq;go_simp⟩ ?_
  refine zAc 99 15 23 (errQ er) rfl rfl (by kernel_rfl) (by kernel_rfl) (by kernel_rfl) (by kernel_rfl) (fun c a w h=>hpan _ _ c a w h) HC2.out ⟨by rfl,fun wq hq=>by obtain ⟨q0,q1,q2⟩:=hq;go_simp⟩ ?_
  refine zAc 99 16 5 (.string val) rfl rfl (by kernel_rfl) (by kernel_rfl) (by kernel_rfl) (by kernel_rfl) (fun c a w h=>hpan _ _ c a w h) HC2.out ⟨by rfl,fun wq hq=>by obtain ⟨q0,q1,q2⟩:=hq;go_simp⟩ ?_
  refine zAc 99 17 6 (.bool fd) rfl rfl (by kernel_rfl) (by kernel_rfl) (by kernel_rfl) (by kernel_rfl) (fun c a w h=>hpan _ _ c a w h) HC2.out ⟨by rfl,fun wq hq=>by obtain ⟨q0,q1,q2⟩:=hq;go_simp⟩ ?_
  refine zAc 99 18 7 (errQ er) rfl rfl (by kernel_rfl) (by kernel_rfl) (by kernel_rfl) (by kernel_rfl) (fun c a w h=>hpan _ _ c a w h) HC2.out ⟨by rfl,fun wq hq=>by obtain ⟨q0,q1,q2⟩:=hq;go_simp⟩ ?_
  refine ⟨by kernel_rfl,?_⟩
  have hfin:∀ B:Act,B=⟨#[.pointer (some ⟨ss,0,none⟩),.slice (some ⟨A,0,none⟩) 3 3,undef,undef,.string ⟨#[]⟩,.string val,.bool fd,errQ er,.tuple #[.string val,.bool fd,errQ er],.pointer (some ⟨ss,0,none⟩),.pointer (some ⟨ss,0,none⟩),.pointer (some ⟨ss,0,none⟩),.pointer (some ⟨g,0,none⟩),.slice (some ⟨A,0,none⟩) 3 3,.pointer (some ⟨A,1,none⟩),.string x1,.int .i64 v,.slice (some ⟨A,0,none⟩) 3 3,.pointer (some ⟨A,2,none⟩),.string x2,.tuple #[.string val,.bool fd,errQ er],.string val,.bool fd,errQ er,undef,undef,undef,undef,undef,undef],[]⟩->Q1 .normal B w2:=fun B hB=>by
   subst hB
   have hQ1:=HQ1.out
   subst hQ1
   have HMU:=Hmq (zFg (er:=er) HET.out)
   clear t0 t1 hsz hpan HNU HC HC1 HC2 HFR hP1 hm1 hi HP HI HN HM1 HET
   have hl:¬ 9223372036854775807<3+val.size:=by omega
   by_cases h0:er=0
   ·subst h0
    rw [zCc] at HMU ⊢
    cases fd with
    | true=>
     go_wp2_with (first
      | (go_at_call 41;refine HMU.out.mono ?_;rintro e w3 ⟨hq,hm3⟩;obtain rfl:e=.returned (.tuple #[]):=(hq.elim (fun q=>q.2) (fun q=>absurd rfl q.1));clear hq)
      | fail)
     go_ret
     exact HFA.out _ _ rfl hm3
    | false=>
     go_wp2_with (first
      | (go_at_call 41;refine HMU.out.mono ?_;rintro e w3 ⟨hq,hm3⟩;obtain rfl:e=.returned (.tuple #[]):=(hq.elim (fun q=>q.2) (fun q=>absurd rfl q.1));clear hq)
      | fail)
     go_ret
     exact HFA.out _ _ rfl hm3
   ·have HE:Hid (∀ w',Mod zAb w2 w'->DoP ss mb m w y (zCd s x1 fun v=>((getH s v x2).1,(getH s v x2).2.2.2,if (getH s v x2).2.2.1 then ⟨#[105,115,32]⟩++(getH s v x2).2.1 else ⟨#[110,111,110,101]⟩)) (zCv er) w'):=fun w' hm'=>HFA.out _ _ (by rw [if_neg h0]) hm'
    rw [zBa h0] at HMU ⊢
    go_wp2_with (first
     | (go_at_call 41;refine HMU.out.mono ?_;rintro e w3 ⟨hq,hm3⟩;obtain rfl:e=.panicked [{ v:=.iface 25 (.int .i64 er),recovered:=false }]:=(hq.elim (fun q=>absurd q.1 h0) (fun q=>q.2));clear hq)
     | fail)
    exact ⟨rfl,HE.out _ hm3⟩
  exact hfin _ (by rw [HFR.out];kernel_rfl)
end Go.Proofs.YtogaigioeohjaaaGreatDoor
