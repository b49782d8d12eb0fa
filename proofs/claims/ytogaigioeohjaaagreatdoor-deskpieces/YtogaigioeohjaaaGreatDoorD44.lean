import Derived.Test.YtogaigioeohjaaaGreatDoorD43
set_option linter.unusedVariables false
set_option maxRecDepth 100000
set_option maxHeartbeats 16000000
namespace Go.Proofs.YtogaigioeohjaaaGreatDoor
open Go.RowKit Go.Lib Go.Maps
set_option maxHeartbeats 16000000
theorem yRl{ss mb m n c g A:Nat}{y:HLay}{s:zAa}{w:World}(x0 x1 x2:ByteArray)(h:SesP w ss mb n c g y s)(hi:SesI m c s)(hm:m<=900)(hx1:x1.size<=1000000)(hx2:x2.size<=1000000)(hA:y.own A=.no)(hAs:A≠ss)
  (k0:w.cell? ⟨A,0,none⟩=some (.string x0)) (k1:w.cell? ⟨A,1,none⟩=some (.string x1)) (k2:w.cell? ⟨A,2,none⟩=some (.string x2)) :
  Calls Tryz.prog 16 #[.pointer (some ⟨ss,0,none⟩),.slice (some ⟨A,0,none⟩) 3 3] w (DoP ss mb m w y (zCd s x1 fun v=>((putH s v ⟨x2,⟨#[]⟩,true⟩).1,(putH s v ⟨x2,⟨#[]⟩,true⟩).2,x0))):=by
 have HNU:Hid (∀ wq,Mod zAb w wq->Calls Tryz.prog 44 #[.string x1] wq (NumP x1 wq)):=fun wq hq=>zDc x1 hx1 wq (h.vd.quiet hq)
 have c0:=h.blk.cell 0 rfl
 have HC:Hid (w.drew.cell? ⟨ss,0,none⟩=some (.pointer (some ⟨g,0,none⟩))/\w.drew.cell? ⟨A,1,none⟩=some (.string x1)/\w.drew.cell? ⟨A,2,none⟩=some (.string x2)):=⟨c0,k1,k2⟩
 have HP:=Hmq h
 have HI:=Hmq hi
 have HK0:=Hmq k0
 clear c0 k0 k1 k2 h
 go_enter Tryz.func16,Tryz.ntmps16
 go_upto_region 1 with fail
 refine zEr fun fr hfr=>?_
 refine zDk fun Q1 hQ1=>?_
 have hpan:∀ (d:Nat) (v:Value) (c:List PanicEntry) (a:Act) (w:World),Q1 (.panic c) (a.put (some d) v) w->Q1 (.panic c) a w:=fun d v c a w h=>by rw [hQ1] at h ⊢;exact h
 have HQ1:=Hmq hQ1
 clear hQ1
 have hsz:fr.tmps.size=22:=by rw [hfr];rfl
 obtain ⟨_,t0⟩:∃ h:0<fr.tmps.size,fr.tmps[0]=.pointer (some ⟨ss,0,none⟩):=Array.getElem?_eq_some_iff.1 (by rw [hfr];rfl)
 obtain ⟨_,t1⟩:∃ h:1<fr.tmps.size,fr.tmps[1]=.slice (some ⟨A,0,none⟩) 3 3:=Array.getElem?_eq_some_iff.1 (by rw [hfr];rfl)
 have HFR:=Hmq hfr
 clear hfr
 refine zBo 99 (fun wq=>wq.cell? ⟨ss,0,none⟩=some (.pointer (some ⟨g,0,none⟩))/\wq.cell? ⟨A,1,none⟩=some (.string x1)/\wq.cell? ⟨A,2,none⟩=some (.string x2)) rfl ?_
 refine zAc 99 0 5 (.pointer (some ⟨ss,0,none⟩)) rfl rfl (by kernel_rfl) (by kernel_rfl) (by kernel_rfl) (by kernel_rfl) (fun c a w h=>hpan _ _ c a w h) HC.out ⟨by rfl,fun wq hq=>by obtain ⟨q0,q1,q2⟩:=hq;go_simp⟩ ?_
 refine zAc 99 1 6 (.pointer (some ⟨ss,0,none⟩)) rfl rfl (by kernel_rfl) (by kernel_rfl) (by kernel_rfl) (by kernel_rfl) (fun c a w h=>hpan _ _ c a w h) HC.out ⟨by rfl,fun wq hq=>by obtain ⟨q0,q1,q2⟩:=hq;go_simp⟩ ?_
 refine zAc 99 2 7 (.pointer (some ⟨ss,0,none⟩)) rfl rfl (by kernel_rfl) (by kernel_rfl) (by kernel_rfl) (by kernel_rfl) (fun c a w h=>hpan _ _ c a w h) HC.out ⟨by rfl,fun wq hq=>by obtain ⟨q0,q1,q2⟩:=hq;go_simp⟩ ?_
 refine zAc 99 3 8 (.pointer (some ⟨g,0,none⟩)) rfl rfl (by kernel_rfl) (by kernel_rfl) (by kernel_rfl) (by kernel_rfl) (fun c a w h=>hpan _ _ c a w h) HC.out ⟨by rfl,fun wq hq=>by obtain ⟨q0,q1,q2⟩:=hq;go_simp⟩ ?_
 refine zAc 99 4 9 (.slice (some ⟨A,0,none⟩) 3 3) rfl rfl (by kernel_rfl) (by kernel_rfl) (by kernel_rfl) (by kernel_rfl) (fun c a w h=>hpan _ _ c a w h) HC.out ⟨by rfl,fun wq hq=>by obtain ⟨q0,q1,q2⟩:=hq;go_simp⟩ ?_
 refine zAc 99 5 10 (.pointer (some ⟨A,1,none⟩)) rfl rfl (by kernel_rfl) (by kernel_rfl) (by kernel_rfl) (by kernel_rfl) (fun c a w h=>hpan _ _ c a w h) HC.out ⟨by rfl,fun wq hq=>by obtain ⟨q0,q1,q2⟩:=hq;go_simp⟩ ?_
 refine zAc 99 6 11 (.string x1) rfl rfl (by kernel_rfl) (by kernel_rfl) (by kernel_rfl) (by kernel_rfl) (fun c a w h=>hpan _ _ c a w h) HC.out ⟨by rfl,fun wq hq=>by obtain ⟨q0,q1,q2⟩:=hq;go_simp⟩ ?_
 refine zAc 99 8 13 (.slice (some ⟨A,0,none⟩) 3 3) rfl rfl (by kernel_rfl) (by kernel_rfl) (by kernel_rfl) (by kernel_rfl) (fun c a w h=>hpan _ _ c a w h) HC.out ⟨by rfl,fun wq hq=>by obtain ⟨q0,q1,q2⟩:=hq;go_simp⟩ ?_
 refine zAc 99 9 14 (.pointer (some ⟨A,2,none⟩)) rfl rfl (by kernel_rfl) (by kernel_rfl) (by kernel_rfl) (by kernel_rfl) (fun c a w h=>hpan _ _ c a w h) HC.out ⟨by rfl,fun wq hq=>by obtain ⟨q0,q1,q2⟩:=hq;go_simp⟩ ?_
 refine zAc 99 10 15 (.string x2) rfl rfl (by kernel_rfl) (by kernel_rfl) (by kernel_rfl) (by kernel_rfl) (fun c a w h=>hpan _ _ c a w h) HC.out ⟨by rfl,fun wq hq=>by obtain ⟨q0,q1,q2⟩:=hq;go_simp⟩ ?_
 refine zAc 99 11 16 (.agg #[.string x2,.string ⟨#[]⟩,.bool true]) rfl rfl (by kernel_rfl) (by kernel_rfl) (by kernel_rfl) (by kernel_rfl) (fun c a w h=>hpan _ _ c a w h) HC.out ⟨by rfl,fun wq hq=>by obtain ⟨q0,q1,q2⟩:=hq;go_simp⟩ ?_
 refine zAr 99 7 12 rfl rfl (by kernel_rfl) (by rfl) (f:=44) (args:=#[.string x1]) (by go_simp) ((HNU.out _ ((Mod.refl _ _).drew)).mono ?_)
 intro e w1 hN
 cases hn:numD x1 with
 | none=>
  rw [NumP.no hn] at hN
  obtain ⟨rfl,hm1⟩:=hN
  have HM1:Mod zAb w w1:=((Mod.refl _ w).drew).trans hm1
  refine .inr ⟨_,rfl,?_⟩
  rw [HQ1.out]
  have HFI:Hid (DoP ss mb m w y (zCd s x1 fun v=>((putH s v ⟨x2,⟨#[]⟩,true⟩).1,(putH s v ⟨x2,⟨#[]⟩,true⟩).2,x0)) (zCv 3) w1):=by
   unfold Hid;rw [zFy hn];exact DoP.no (by decide) (HP.out.still HI.out HM1)
  exact ⟨by rw [HFR.out];rfl,HFI.out⟩
 | some v=>
  rw [NumP.yes hn] at hN
  obtain ⟨rfl,hm1⟩:=hN
  have HN:=Hmq hn
  clear hn
  have HM1:Mod zAb w w1:=((Mod.refl _ w).drew).trans hm1
  have hP1:=HP.out.quiet HM1
  refine .inl ⟨_,rfl,⟨HM1.cell HC.out.1 id,HM1.cell HC.out.2.1 id,HM1.cell HC.out.2.2 id⟩,?_⟩
  refine zAr 99 12 17 rfl rfl (by kernel_rfl) (by rfl) (f:=43) (args:=#[.pointer (some ⟨g,0,none⟩),.int .i64 v,.agg #[.string x2,.string ⟨#[]⟩,.bool true]]) (by go_simp) ((yLe n c g y s v ⟨x2,⟨#[]⟩,true⟩ w1 hP1.house (zQn.ses hP1 hi hm) (by show _<=_;simp only [maxLen];omega) (show (⟨#[]⟩:ByteArray).size<=maxLen from Nat.zero_le _)).mono ?_)
  rintro e w2 ⟨rfl,y2,hH2,hK2⟩
  have HR:Hid (SesR ss mb m w y (putH s v ⟨x2,⟨#[]⟩,true⟩).1 w2):=HP.out.acted (HI.out.act (zCz.put hi.rest v _) (hi.sh.put v _) (Nat.le_refl _)) HM1 hH2 hK2.st (Mod.refl _ _)
  have c2:w2.cell? ⟨ss,0,none⟩=some (.pointer (some ⟨g,0,none⟩)):=(hK2.st.blk hP1.blk HP.out.nos).cell 0 rfl
  have HC2:Hid (w2.cell? ⟨ss,0,none⟩=some (.pointer (some ⟨g,0,none⟩))/\w2.cell? ⟨A,1,none⟩=some (.string x1)/\w2.cell? ⟨A,2,none⟩=some (.string x2)):=⟨c2,HR.out.cell hA hAs HC.out.2.1,HR.out.cell hA hAs HC.out.2.2⟩
  clear c2 hH2 hK2
  refine .inl ⟨_,rfl,HC2.out,?_⟩
  refine zAr 99 13 18 rfl rfl (by kernel_rfl) (by rfl) (f:=41) (args:=#[errQ (putH s v ⟨x2,⟨#[]⟩,true⟩).2]) (by go_simp) ((zFg HR.out.et).mono ?_)
  rintro e w3 ⟨he,hm3⟩
  rcases he with ⟨h0,rfl⟩ | ⟨h0,rfl⟩
  ·refine .inl ⟨_,rfl,⟨hm3.cell HC2.out.1 id,hm3.cell HC2.out.2.1 id,hm3.cell HC2.out.2.2 id⟩,?_⟩
   refine ⟨by kernel_rfl,?_⟩
   have hfin:∀ B:Act,B=⟨#[.pointer (some ⟨ss,0,none⟩),.slice (some ⟨A,0,none⟩) 3 3,undef,undef,.string ⟨#[]⟩,.pointer (some ⟨ss,0,none⟩),.pointer (some ⟨ss,0,none⟩),.pointer (some ⟨ss,0,none⟩),.pointer (some ⟨g,0,none⟩),.slice (some ⟨A,0,none⟩) 3 3,.pointer (some ⟨A,1,none⟩),.string x1,.int .i64 v,.slice (some ⟨A,0,none⟩) 3 3,.pointer (some ⟨A,2,none⟩),.string x2,.agg #[.string x2,.string ⟨#[]⟩,.bool true],errQ (putH s v ⟨x2,⟨#[]⟩,true⟩).2,.tuple #[],undef,undef,undef],[]⟩->Q1 .normal B w3:=fun B hB=>by
    subst hB
    have hQ1:=HQ1.out
    subst hQ1
    have k0:w3.cell? ⟨A,0,none⟩=some (.string x0):=hm3.cell (HR.out.cell hA hAs HK0.out) id
    have HFI:Hid (DoP ss mb m w y (zCd s x1 fun v=>((putH s v ⟨x2,⟨#[]⟩,true⟩).1,(putH s v ⟨x2,⟨#[]⟩,true⟩).2,x0)) (.returned (.string x0)) w3):=by
     unfold Hid;rw [zCb HN.out];exact DoP.yes h0 (HR.out.quiet hm3)
    clear t0 t1 hsz hpan HNU HC HC2 HFR hP1 hm1 hi h0 hm3
    go_wp2_with fail
    go_ret
    exact HFI.out
   exact hfin _ (by rw [HFR.out];kernel_rfl)
  ·refine .inr ⟨_,rfl,?_⟩
   rw [HQ1.out]
   have HFI:Hid (DoP ss mb m w y (zCd s x1 fun v=>((putH s v ⟨x2,⟨#[]⟩,true⟩).1,(putH s v ⟨x2,⟨#[]⟩,true⟩).2,x0)) (zCv (putH s v ⟨x2,⟨#[]⟩,true⟩).2) w3):=by
    unfold Hid;rw [zCb HN.out];exact DoP.no h0 (HR.out.quiet hm3)
   exact ⟨by rw [HFR.out];rfl,HFI.out⟩
theorem yRf{ss mb m n c g A:Nat}{y:HLay}{s:zAa}{w:World}(x0 x1 x2 x3:ByteArray)(h:SesP w ss mb n c g y s)(hi:SesI m c s)(hm:m<=900)(hx1:x1.size<=1000000)(hx2:x2.size<=1000000)(hx3:x3.size<=1000000)(hA:y.own A=.no)(hAs:A≠ss)
  (k0:w.cell? ⟨A,0,none⟩=some (.string x0)) (k1:w.cell? ⟨A,1,none⟩=some (.string x1)) (k2:w.cell? ⟨A,2,none⟩=some (.string x2)) (k3:w.cell? ⟨A,3,none⟩=some (.string x3)) :
  Calls Tryz.prog 26 #[.pointer (some ⟨ss,0,none⟩),.slice (some ⟨A,0,none⟩) 4 4] w (DoP ss mb m w y (zCd s x1 fun v=>((putH s v ⟨x2,x3,false⟩).1,(putH s v ⟨x2,x3,false⟩).2,x0))):=by
 have HNU:Hid (∀ wq,Mod zAb w wq->Calls Tryz.prog 44 #[.string x1] wq (NumP x1 wq)):=fun wq hq=>zDc x1 hx1 wq (h.vd.quiet hq)
 have c0:=h.blk.cell 0 rfl
 have HC:Hid (w.drew.cell? ⟨ss,0,none⟩=some (.pointer (some ⟨g,0,none⟩))/\w.drew.cell? ⟨A,1,none⟩=some (.string x1)/\w.drew.cell? ⟨A,2,none⟩=some (.string x2)/\w.drew.cell? ⟨A,3,none⟩=some (.string x3)):=⟨c0,k1,k2,k3⟩
 have HP:=Hmq h
 have HI:=Hmq hi
 have HK0:=Hmq k0
 clear c0 k0 k1 k2 k3 h
 go_enter Tryz.func26,Tryz.ntmps26
 go_upto_region 1 with fail
 refine zEr fun fr hfr=>?_
 refine zDk fun Q1 hQ1=>?_
 have hpan:∀ (d:Nat) (v:Value) (c:List PanicEntry) (a:Act) (w:World),Q1 (.panic c) (a.put (some d) v) w->Q1 (.panic c) a w:=fun d v c a w h=>by rw [hQ1] at h ⊢;exact h
 have HQ1:=Hmq hQ1
 clear hQ1
 have hsz:fr.tmps.size=25:=by rw [hfr];rfl
 obtain ⟨_,t0⟩:∃ h:0<fr.tmps.size,fr.tmps[0]=.pointer (some ⟨ss,0,none⟩):=Array.getElem?_eq_some_iff.1 (by rw [hfr];rfl)
 obtain ⟨_,t1⟩:∃ h:1<fr.tmps.size,fr.tmps[1]=.slice (some ⟨A,0,none⟩) 4 4:=Array.getElem?_eq_some_iff.1 (by rw [hfr];rfl)
 have HFR:=Hmq hfr
 clear hfr
 refine zBo 99 (fun wq=>wq.cell? ⟨ss,0,none⟩=some (.pointer (some ⟨g,0,none⟩))/\wq.cell? ⟨A,1,none⟩=some (.string x1)/\wq.cell? ⟨A,2,none⟩=some (.string x2)/\wq.cell? ⟨A,3,none⟩=some (.string x3)) rfl ?_
 refine zAc 99 0 5 (.pointer (some ⟨ss,0,none⟩)) rfl rfl (by kernel_rfl) (by kernel_rfl) (by kernel_rfl) (by kernel_rfl) (fun c a w h=>hpan _ _ c a w h) HC.out ⟨by rfl,fun wq hq=>by obtain ⟨q0,q1,q2,q3⟩:=hq;go_simp⟩ ?_
 refine zAc 99 1 6 (.pointer (some ⟨ss,0,none⟩)) rfl rfl (by kernel_rfl) (by kernel_rfl) (by kernel_rfl) (by kernel_rfl) (fun c a w h=>hpan _ _ c a w h) HC.out ⟨by rfl,fun wq hq=>by obtain ⟨q0,q1,q2,q3⟩:=hq;go_simp⟩ ?_
 refine zAc 99 2 7 (.pointer (some ⟨ss,0,none⟩)) rfl rfl (by kernel_rfl) (by kernel_rfl) (by kernel_rfl) (by kernel_rfl) (fun c a w h=>hpan _ _ c a w h) HC.out ⟨by rfl,fun wq hq=>by obtain ⟨q0,q1,q2,q3⟩:=hq;go_simp⟩ ?_
 refine zAc 99 3 8 (.pointer (some ⟨g,0,none⟩)) rfl rfl (by kernel_rfl) (by kernel_rfl) (by kernel_rfl) (by kernel_rfl) (fun c a w h=>hpan _ _ c a w h) HC.out ⟨by rfl,fun wq hq=>by obtain ⟨q0,q1,q2,q3⟩:=hq;go_simp⟩ ?_
 refine zAc 99 4 9 (.slice (some ⟨A,0,none⟩) 4 4) rfl rfl (by kernel_rfl) (by kernel_rfl) (by kernel_rfl) (by kernel_rfl) (fun c a w h=>hpan _ _ c a w h) HC.out ⟨by rfl,fun wq hq=>by obtain ⟨q0,q1,q2,q3⟩:=hq;go_simp⟩ ?_
 refine zAc 99 5 10 (.pointer (some ⟨A,1,none⟩)) rfl rfl (by kernel_rfl) (by kernel_rfl) (by kernel_rfl) (by kernel_rfl) (fun c a w h=>hpan _ _ c a w h) HC.out ⟨by rfl,fun wq hq=>by obtain ⟨q0,q1,q2,q3⟩:=hq;go_simp⟩ ?_
 refine zAc 99 6 11 (.string x1) rfl rfl (by kernel_rfl) (by kernel_rfl) (by kernel_rfl) (by kernel_rfl) (fun c a w h=>hpan _ _ c a w h) HC.out ⟨by rfl,fun wq hq=>by obtain ⟨q0,q1,q2,q3⟩:=hq;go_simp⟩ ?_
 refine zAc 99 8 13 (.slice (some ⟨A,0,none⟩) 4 4) rfl rfl (by kernel_rfl) (by kernel_rfl) (by kernel_rfl) (by kernel_rfl) (fun c a w h=>hpan _ _ c a w h) HC.out ⟨by rfl,fun wq hq=>by obtain ⟨q0,q1,q2,q3⟩:=hq;go_simp⟩ ?_
 refine zAc 99 9 14 (.pointer (some ⟨A,2,none⟩)) rfl rfl (by kernel_rfl) (by kernel_rfl) (by kernel_rfl) (by kernel_rfl) (fun c a w h=>hpan _ _ c a w h) HC.out ⟨by rfl,fun wq hq=>by obtain ⟨q0,q1,q2,q3⟩:=hq;go_simp⟩ ?_
 refine zAc 99 10 15 (.string x2) rfl rfl (by kernel_rfl) (by kernel_rfl) (by kernel_rfl) (by kernel_rfl) (fun c a w h=>hpan _ _ c a w h) HC.out ⟨by rfl,fun wq hq=>by obtain ⟨q0,q1,q2,q3⟩:=hq;go_simp⟩ ?_
 refine zAc 99 11 16 (.slice (some ⟨A,0,none⟩) 4 4) rfl rfl (by kernel_rfl) (by kernel_rfl) (by kernel_rfl) (by kernel_rfl) (fun c a w h=>hpan _ _ c a w h) HC.out ⟨by rfl,fun wq hq=>by obtain ⟨q0,q1,q2,q3⟩:=hq;go_simp⟩ ?_
 refine zAc 99 12 17 (.pointer (some ⟨A,3,none⟩)) rfl rfl (by kernel_rfl) (by kernel_rfl) (by kernel_rfl) (by kernel_rfl) (fun c a w h=>hpan _ _ c a w h) HC.out ⟨by rfl,fun wq hq=>by obtain ⟨q0,q1,q2,q3⟩:=hq;go_simp⟩ ?_
 refine zAc 99 13 18 (.string x3) rfl rfl (by kernel_rfl) (by kernel_rfl) (by kernel_rfl) (by kernel_rfl) (fun c a w h=>hpan _ _ c a w h) HC.out ⟨by rfl,fun wq hq=>by obtain ⟨q0,q1,q2,q3⟩:=hq;go_simp⟩ ?_
 refine zAc 99 14 19 (.agg #[.string x2,.string x3,.bool false]) rfl rfl (by kernel_rfl) (by kernel_rfl) (by kernel_rfl) (by kernel_rfl) (fun c a w h=>hpan _ _ c a w h) HC.out ⟨by rfl,fun wq hq=>by obtain ⟨q0,q1,q2,q3⟩:=hq;go_simp⟩ ?_
 refine zAr 99 7 12 rfl rfl (by kernel_rfl) (by rfl) (f:=44) (args:=#[.string x1]) (by go_simp) ((HNU.out _ ((Mod.refl _ _).drew)).mono ?_)
 intro e w1 hN
 cases hn:numD x1 with
 | none=>
  rw [NumP.no hn] at hN
  obtain ⟨rfl,hm1⟩:=hN
  have HM1:Mod zAb w w1:=((Mod.refl _ w).drew).trans hm1
  refine .inr ⟨_,rfl,?_⟩
  rw [HQ1.out]
  have HFI:Hid (DoP ss mb m w y (zCd s x1 fun v=>((putH s v ⟨x2,x3,false⟩).1,(putH s v ⟨x2,x3,false⟩).2,x0)) (zCv 3) w1):=by
   unfold Hid;rw [zFy hn];exact DoP.no (by decide) (HP.out.still HI.out HM1)
  exact ⟨by rw [HFR.out];rfl,HFI.out⟩
 | some v=>
  rw [NumP.yes hn] at hN
  obtain ⟨rfl,hm1⟩:=hN
  have HN:=Hmq hn
  clear hn
  have HM1:Mod zAb w w1:=((Mod.refl _ w).drew).trans hm1
  have hP1:=HP.out.quiet HM1
  refine .inl ⟨_,rfl,⟨HM1.cell HC.out.1 id,HM1.cell HC.out.2.1 id,HM1.cell HC.out.2.2.1 id,HM1.cell HC.out.2.2.2 id⟩,?_⟩
  refine zAr 99 15 20 rfl rfl (by kernel_rfl) (by rfl) (f:=43) (args:=#[.pointer (some ⟨g,0,none⟩),.int .i64 v,.agg #[.string x2,.string x3,.bool false]]) (by go_simp) ((yLe n c g y s v ⟨x2,x3,false⟩ w1 hP1.house (zQn.ses hP1 hi hm) (by show _<=_;simp only [maxLen];omega) (by show _<=_;simp only [maxLen];omega)).mono ?_)
  rintro e w2 ⟨rfl,y2,hH2,hK2⟩
  have HR:Hid (SesR ss mb m w y (putH s v ⟨x2,x3,false⟩).1 w2):=HP.out.acted (HI.out.act (zCz.put hi.rest v _) (hi.sh.put v _) (Nat.le_refl _)) HM1 hH2 hK2.st (Mod.refl _ _)
  have c2:w2.cell? ⟨ss,0,none⟩=some (.pointer (some ⟨g,0,none⟩)):=(hK2.st.blk hP1.blk HP.out.nos).cell 0 rfl
  have HC2:Hid (w2.cell? ⟨ss,0,none⟩=some (.pointer (some ⟨g,0,none⟩))/\w2.cell? ⟨A,1,none⟩=some (.string x1)/\w2.cell? ⟨A,2,none⟩=some (.string x2)/\w2.cell? ⟨A,3,none⟩=some (.string x3)):=⟨c2,HR.out.cell hA hAs HC.out.2.1,HR.out.cell hA hAs HC.out.2.2.1,HR.out.cell hA hAs HC.out.2.2.2⟩
  clear c2 hH2 hK2
  refine .inl ⟨_,rfl,HC2.out,?_⟩
  refine zAr 99 16 21 rfl rfl (by kernel_rfl) (by rfl) (f:=41) (args:=#[errQ (putH s v ⟨x2,x3,false⟩).2]) (by go_simp) ((zFg HR.out.et).mono ?_)
  rintro e w3 ⟨he,hm3⟩
  rcases he with ⟨h0,rfl⟩ | ⟨h0,rfl⟩
  ·refine .inl ⟨_,rfl,⟨hm3.cell HC2.out.1 id,hm3.cell HC2.out.2.1 id,hm3.cell HC2.out.2.2.1 id,hm3.cell HC2.out.2.2.2 id⟩,?_⟩
   refine ⟨by kernel_rfl,?_⟩
   have hfin:∀ B:Act,B=⟨#[.pointer (some ⟨ss,0,none⟩),.slice (some ⟨A,0,none⟩) 4 4,undef,undef,.string ⟨#[]⟩,.pointer (some ⟨ss,0,none⟩),.pointer (some ⟨ss,0,none⟩),.pointer (some ⟨ss,0,none⟩),.pointer (some ⟨g,0,none⟩),.slice (some ⟨A,0,none⟩) 4 4,.pointer (some ⟨A,1,none⟩),.string x1,.int .i64 v,.slice (some ⟨A,0,none⟩) 4 4,.pointer (some ⟨A,2,none⟩),.string x2,.slice (some ⟨A,0,none⟩) 4 4,.pointer (some ⟨A,3,none⟩),.string x3,.agg #[.string x2,.string x3,.bool false],errQ (putH s v ⟨x2,x3,false⟩).2,.tuple #[],undef,undef,undef],[]⟩->Q1 .normal B w3:=fun B hB=>by
    subst hB
    have hQ1:=HQ1.out
    subst hQ1
    have k0:w3.cell? ⟨A,0,none⟩=some (.string x0):=hm3.cell (HR.out.cell hA hAs HK0.out) id
    have HFI:Hid (DoP ss mb m w y (zCd s x1 fun v=>((putH s v ⟨x2,x3,false⟩).1,(putH s v ⟨x2,x3,false⟩).2,x0)) (.returned (.string x0)) w3):=by
     unfold Hid;rw [zCb HN.out];exact DoP.yes h0 (HR.out.quiet hm3)
    clear t0 t1 hsz hpan HNU HC HC2 HFR hP1 hm1 hi h0 hm3
    go_wp2_with fail
    go_ret
    exact HFI.out
   exact hfin _ (by rw [HFR.out];kernel_rfl)
  ·refine .inr ⟨_,rfl,?_⟩
   rw [HQ1.out]
   have HFI:Hid (DoP ss mb m w y (zCd s x1 fun v=>((putH s v ⟨x2,x3,false⟩).1,(putH s v ⟨x2,x3,false⟩).2,x0)) (zCv (putH s v ⟨x2,x3,false⟩).2) w3):=by
    unfold Hid;rw [zCb HN.out];exact DoP.no h0 (HR.out.quiet hm3)
   exact ⟨by rw [HFR.out];rfl,HFI.out⟩
end Go.Proofs.YtogaigioeohjaaaGreatDoor
namespace Go.Proofs.YtogaigioeohjaaaGreatDoor
open Go.RowKit Go.Lib Go.Maps
set_option maxHeartbeats 16000000
theorem yNc{ss mb m n c g A:Nat}{y:HLay}{s:zAa}{w:World}(x0:ByteArray)(h:SesP w ss mb n c g y s)(hi:SesI m c s)(hm:m<=900)(hA:y.own A=.no)(hAs:A≠ss)(k0:w.cell? ⟨A,0,none⟩=some (.string x0)) :
  Calls Tryz.prog 29 #[.pointer (some ⟨ss,0,none⟩),.slice (some ⟨A,0,none⟩) 1 1] w (DoP ss mb m w y (zFm s,0,x0)):=by
 have c0:=h.blk.cell 0 rfl
 have HT:=Hmq (yFc n c g y s w h.house hi.rest.c.safe (by have:=hi.small hm;omega))
 have HP:=Hmq h
 have HI:=Hmq hi
 have HK0:=Hmq k0
 clear k0 h
 go_enter Tryz.func29,Tryz.ntmps29
 go_wp2_with (first
  | (go_at_call 58;refine HT.out.mono ?_;rintro e w1 ⟨rfl,y1,hH1,hK1⟩;(have HR:Hid (SesR ss mb m w y (zFm s) w1):=HP.out.acted (HI.out.act (zCz.tick hi.rest) (hi.sh.tick) (by omega)) (Mod.refl _ _) hH1 hK1.st (Mod.refl _ _));(have k1:w1.cell? ⟨A,0,none⟩=some (.string x0):=HR.out.cell hA hAs HK0.out);clear hH1 hK1)
  | fail)
 go_ret
 exact DoP.yes rfl HR.out
theorem yNj{ss mb m n c g A:Nat}{y:HLay}{s:zAa}{w:World}(x0:ByteArray)(h:SesP w ss mb n c g y s)(hi:SesI m c s)(hm:m<=900)(hA:y.own A=.no)(hAs:A≠ss)(k0:w.cell? ⟨A,0,none⟩=some (.string x0)) :
  Calls Tryz.prog 15 #[.pointer (some ⟨ss,0,none⟩),.slice (some ⟨A,0,none⟩) 1 1] w (DoP ss mb m w y (zKl s,0,x0)):=by
 have c0:=h.blk.cell 0 rfl
 have HT:=Hmq (yRr n c g y s w h.house hi.rest.c (by have:=hi.c;omega) (by have:=yLf hi.rest.c;have:=hi.small hm;omega))
 have HP:=Hmq h
 have HI:=Hmq hi
 have HK0:=Hmq k0
 clear k0 h
 go_enter Tryz.func15,Tryz.ntmps15
 go_wp2_with (first
  | (go_at_call 42;refine HT.out.mono ?_;rintro e w1 ⟨rfl,y1,hH1,hK1⟩;(have HR:Hid (SesR ss mb m w y (zKl s) w1):=HP.out.acted (HI.out.act (zCz.calm hi.rest) (hi.sh.calm) (by omega)) (Mod.refl _ _) hH1 hK1.st (Mod.refl _ _));(have k1:w1.cell? ⟨A,0,none⟩=some (.string x0):=HR.out.cell hA hAs HK0.out);clear hH1 hK1)
  | fail)
 go_ret
 exact DoP.yes rfl HR.out
theorem yRj{ss mb m n c g A:Nat}{y:HLay}{s:zAa}{w:World}(x0:ByteArray)(h:SesP w ss mb n c g y s)(hi:SesI m c s)(hm:m<=900)(hA:y.own A=.no)(hAs:A≠ss)(k0:w.cell? ⟨A,0,none⟩=some (.string x0)) :
  Calls Tryz.prog 21 #[.pointer (some ⟨ss,0,none⟩),.slice (some ⟨A,0,none⟩) 1 1] w (DoP ss mb m w y (fixH s,0,x0)):=by
 have c0:=h.blk.cell 0 rfl
 have HT:=Hmq (yTg n c g y s w h.house hi.rest.c.safe hi.rest.c.held (by have:=hi.c;omega) (by have:=hi.small hm;omega))
 have HP:=Hmq h
 have HI:=Hmq hi
 have HK0:=Hmq k0
 clear k0 h
 go_enter Tryz.func21,Tryz.ntmps21
 go_wp2_with (first
  | (go_at_call 49;refine HT.out.mono ?_;rintro e w1 ⟨rfl,y1,hH1,hK1⟩;(have HR:Hid (SesR ss mb m w y (fixH s) w1):=HP.out.acted (HI.out.act (zCz.fix hi.rest) (hi.sh.fix) (by omega)) (Mod.refl _ _) hH1 hK1.st (Mod.refl _ _));(have k1:w1.cell? ⟨A,0,none⟩=some (.string x0):=HR.out.cell hA hAs HK0.out);clear hH1 hK1)
  | fail)
 go_ret
 exact DoP.yes rfl HR.out
theorem yMx(b:Bool)(w:World):Calls Tryz.prog 38 #[.bool b] w fun e w'=>e=.returned (.string (strB (Lib.formatBool b)))/\w'=w:=Tryz.strconv_FormatBool b w
theorem SesR.vd{ss mb m:Nat}{w w':World}{y:HLay}{s':zAa}(h:SesR ss mb m w y s' w'):VD w':=by
 obtain ⟨n,c,g,y',a,b,d,e⟩:=h
 exact a.vd
theorem yIx{ss mb m n c g A:Nat}{y:HLay}{s:zAa}{w:World}(h:SesP w ss mb n c g y s)(hi:SesI m c s)(hm:m<=900) :
  Calls Tryz.prog 13 #[.pointer (some ⟨ss,0,none⟩),.slice (some ⟨A,0,none⟩) 1 1] w (DoP ss mb m w y (s,0,strB (Lib.formatBool (zTo s)))):=by
 have c0:=h.blk.cell 0 rfl
 have HT:=Hmq (yOi n c g y s w h.house hi.rest.c.safe)
 have HP:=Hmq h
 have HI:=Hmq hi
 clear h
 go_enter Tryz.func13,Tryz.ntmps13
 go_wp2_with (first
  | (go_at_call 39;refine HT.out.mono ?_;rintro e w1 ⟨rfl,hm1⟩)
  | (go_at_call 38;refine (yMx _ _).mono ?_;rintro e w2 ⟨rfl,rfl⟩)
  | fail)
 go_ret
 exact DoP.yes rfl (HP.out.still HI.out hm1)
theorem yRt(n c g:Nat)(y:HLay)(s:zAa)(w:World)(h:zAe w n c g y s)(hT:s.txs.length=60) :
  Calls Tryz.prog 40 #[.pointer (some ⟨g,0,none⟩)] w fun e w'=>e=.returned (.tuple #[.int .i64 0,errQ 4])/\w'=w:=by
 obtain ⟨a,cap,hv⟩:=zAg h.trow
 have c6:w.cell? ⟨g,6,none⟩=some (.slice a 60 cap):=by
  have:=h.blk.cell 6 (v:=y.tv) rfl
  rw [hv,h.tlen,hT] at this
  exact this
 clear h hv
 rw [zBa (by decide)]
 go_enter Tryz.func40,Tryz.ntmps40
 go_wp2_with fail
 go_ret2
 exact ⟨rfl,rfl⟩
theorem yIw{ss mb m n c g A:Nat}{y:HLay}{s:zAa}{w:World}(h:SesP w ss mb n c g y s)(hi:SesI m c s)(hm:m<=900) :
  Calls Tryz.prog 14 #[.pointer (some ⟨ss,0,none⟩),.slice (some ⟨A,0,none⟩) 1 1] w (DoP ss mb m w y (begD s)):=by
 have c0:=h.blk.cell 0 rfl
 have htx:=hi.txs
 by_cases hT:s.txs.length<60
 ·have HD:Hid (begD s=(zGk s,0,strB (Lib.itoa (s.txs.length+1)))):=by unfold Hid begD;rw [if_pos hT]
  have HB:=Hmq (yNx n c g y s w h.house hi.rest.c.safe.shape.ll hT)
  have HM:=Hmq (fun (w1:World) (hE:ET w1)=>zFg (er:=0) hE)
  rw [zCc] at HM
  have hln:(zGk s).txs.length=s.txs.length+1:=by simp [zGk]
  have hni:zBc ((s.txs.length:Int)+1):=by unfold zBc;omega
  have HP:=Hmq h
  have HI:=Hmq hi
  clear h
  go_enter Tryz.func14,Tryz.ntmps14
  go_wp2_with (first
   | (go_at_call 40;refine HB.out.mono ?_;rintro e w1 ⟨rfl,y1,hH1,hK1⟩;(have HR:Hid (SesR ss mb m w y (zGk s) w1):=HP.out.acted (HI.out.of (HI.out.rest.begin hT) (Cost.begin s) (by rw [hln];omega) HI.out.sh.begin (by omega)) (Mod.refl _ _) hH1 hK1 (Mod.refl _ _));clear hH1 hK1)
   | (go_at_call 41;refine (HM.out _ HR.out.et).mono ?_;rintro e w2 ⟨hq,hm2⟩;obtain rfl:e=.returned (.tuple #[]):=(hq.elim (fun q=>q.2) (fun q=>absurd rfl q.1));(have HR2:=Hmq (HR.out.quiet hm2));clear hq)
   | (go_at_call 12;refine (zRb _ hni _ HR2.out.vd).mono ?_;rintro e w3 ⟨rfl,hm3⟩)
   | fail)
  go_ret
  rw [HD.out]
  exact DoP.yes rfl (HR2.out.quiet hm3)
 ·have HD:Hid (begD s=(s,4,ByteArray.empty)):=by unfold Hid begD;rw [if_neg hT]
  have HB:=Hmq (yRt n c g y s w h.house (by omega))
  have HM:=Hmq (zFg (er:=4) h.vd.et)
  have HP:=Hmq h
  have HI:=Hmq hi
  clear h
  go_enter Tryz.func14,Tryz.ntmps14
  go_wp2_with (first
   | (go_at_call 40;refine HB.out.mono ?_;rintro e w1 ⟨rfl,hw1⟩;subst hw1)
   | (go_at_call 41;refine HM.out.mono ?_;rintro e w2 ⟨hq,hm2⟩;obtain rfl:e=.panicked [{ v:=.iface 25 (.int .i64 4),recovered:=false }]:=(hq.elim (fun q=>absurd q.1 (by decide)) (fun q=>q.2));clear hq)
   | fail)
  have HFI:=DoP.no (er:=4) (t:=ByteArray.empty) (by decide) (HP.out.still HI.out hm2)
  rw [<-HD.out] at HFI
  exact ⟨rfl,HFI⟩
end Go.Proofs.YtogaigioeohjaaaGreatDoor
