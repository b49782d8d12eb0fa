import Derived.Test.YtogaigioeohjaaaGreatDoorD42
import Derived.Test.YtogaigioeohjaaaGreatDoorD23
set_option linter.unusedVariables false
set_option maxRecDepth 100000
set_option maxHeartbeats 16000000
namespace Go.Proofs.YtogaigioeohjaaaGreatDoor
open Go.RowKit Go.Lib Go.Maps
set_option maxHeartbeats 16000000
section
variable {P:Program} {md:Region.Mode} {ops:Array Oper} {C:World->Prop} {Q:Exit->Act->World->Prop}
theorem zAr(last i d:Nat){oi:Oper}{fuel:Nat}{listed:Array Bool}{a:Act}{w:World}(hi:ops[i]?=some oi)(hd:oi.dst=some d)(hr:Region.ready md ops listed=[i])
  (hw:Region.wanted oi (yielded ops a.tmps)=true) {f:Nat} {args:Array Value} (hrun:(execOp a.eval oi).run P w=.ok (.enter f args) w)
  (h:Calls P f args w fun e w'=>(∃ v,e=.returned v/\C w'/\zEt P md ops last C Q fuel (listed.setIfInBounds i true) (a.put (some d) v) w')\/∃ l,e=.panicked l/\Q (.panic l) a w'):zEt P md ops last C Q (fuel+1) listed a w:=by
 rw [<-hd] at h
 refine ⟨fun h0=>(by rw [hr] at h0;cases h0),fun j hj=>?_⟩
 rw [hr] at hj
 simp only [List.mem_singleton] at hj
 subst hj
 unfold wpOp
 simp only [hi,hw,if_true,Oper.wp,hrun,Oper.upon]
 refine .inl (Calls.mono h ?_)
 rintro e w' (⟨v,rfl,hC,h'⟩ | ⟨l,rfl,h'⟩)
 ·exact ⟨.inr hC,h'⟩
 ·exact h'
end
theorem zFg{er:Int}{w:World}(h:ET w):Calls Tryz.prog 41 #[errQ er] w fun e w'=>((er=0/\e=.returned (.tuple #[]))\/(er≠0/\e=zCv er))/\Mod zAb w w':=by
 refine (yQa er w h).mono ?_
 rintro e w' ⟨he,hm⟩
 refine ⟨?_,hm⟩
 by_cases h0:er=0
 ·rw [if_pos h0] at he;exact .inl ⟨h0,he⟩
 ·rw [if_neg h0] at he;exact .inr ⟨h0,he⟩
theorem DoP.yes{ss mb m:Nat}{w w':World}{y:HLay}{s':zAa}{er:Int}{t:ByteArray}(h0:er=0)(hr:SesR ss mb m w y s' w'):DoP ss mb m w y (s',er,t) (.returned (.string t)) w':=⟨by rw [if_pos h0],hr⟩
theorem DoP.no{ss mb m:Nat}{w w':World}{y:HLay}{s':zAa}{er:Int}{t:ByteArray}(h0:er≠0)(hr:SesR ss mb m w y s' w'):DoP ss mb m w y (s',er,t) (zCv er) w':=⟨by rw [if_neg h0],hr⟩
theorem zFy{s:zAa}{x:ByteArray}{f:Int->DoR}(h:numD x=none):zCd s x f=(s,3,ByteArray.empty):=by unfold zCd;rw [h]
theorem zCb{s:zAa}{x:ByteArray}{f:Int->DoR}{v:Int}(h:numD x=some v):zCd s x f=f v:=by unfold zCd;rw [h]
theorem SesR.quiet{ss mb m:Nat}{w w' w2:World}{y:HLay}{s':zAa}(h:SesR ss mb m w y s' w')(hm:Mod zAb w' w2):SesR ss mb m w y s' w2:=by
 obtain ⟨n,c,g,y',a,b,d,e⟩:=h
 exact ⟨n,c,g,y',a.quiet hm,b,d.trans' hm (fun _ _ e=>e.elim),e⟩
theorem SesR.et{ss mb m:Nat}{w w':World}{y:HLay}{s':zAa}(h:SesR ss mb m w y s' w'):ET w':=by
 obtain ⟨n,c,g,y',a,b,d,e⟩:=h
 exact a.vd.et
theorem SesR.cell{ss mb m:Nat}{w w':World}{y:HLay}{s':zAa}(h:SesR ss mb m w y s' w'){A i:Nat}{v:Value}(hA:y.own A=.no)(hAs:A≠ss)(k:w.cell? ⟨A,i,none⟩=some v):w'.cell? ⟨A,i,none⟩=some v:=by
 obtain ⟨n,c,g,y',a,b,d,e⟩:=h
 exact d.cell k (fun q=>q.elim hAs (fun q=>q hA))
theorem yBe(n c g:Nat)(y:HLay)(s:zAa)(k:Int)(w:World)(h:zAe w n c g y s)(hr:Rest s)(hc:c<=10000)(hlo:s.net.lost+750800<=4611686018427387904) :
  Calls Tryz.prog 45 #[.pointer (some ⟨g,0,none⟩),.int .i64 k] w (PutP w n c g y (zEl s k).1 (zEl s k).2):=by
 cases hk:hasB s.net k with
 | true=>
  obtain ⟨i,m,rfl,hm⟩:=yMi hk
  have e:zEl s (i:Int)=(zBb s i,0):=by unfold zEl;rw [if_pos hk,Int.toNat_natCast]
  rw [e]
  exact zTl n c g y s i m w h hr.c.safe hr.c.held hc hm hlo
 | false=>
  have HE:Hid (zEl s k=(s,2)):=by unfold Hid zEl;rw [if_neg (by rw [hk];simp)]
  have HL:=Hmq (yKo (y.lo n) g y.wv y.mr s.net k w h.netP hk)
  have HH:=Hmq h
  unfold msgV at HL
  clear h
  go_enter Tryz.func45,Tryz.ntmps45
  go_wp2_with (first
   | (go_at_call 78;refine HL.out.mono ?_;rintro e w1 ⟨rfl,hm1⟩)
   | fail)
  go_ret
  rw [HE.out]
  exact ⟨rfl,y,HH.out.quiet (hm1.alloc _),zAm.quiet (hm1.alloc _)⟩
theorem zCz.deliv{s:zAa}(h:Rest s)(k:Int):zCz s (zEl s k).1:=by
 unfold zEl
 split
 ·exact zCz.deliver h _
 ·exact zCz.refl h
theorem yRk{ss mb m n c g A:Nat}{y:HLay}{s:zAa}{w:World}(x0 x1:ByteArray)(h:SesP w ss mb n c g y s)(hi:SesI m c s)(hm:m<=900)(hx:x1.size<=1000000)(hA:y.own A=.no)(hAs:A≠ss)
  (k0:w.cell? ⟨A,0,none⟩=some (.string x0)) (k1:w.cell? ⟨A,1,none⟩=some (.string x1)) :
  Calls Tryz.prog 19 #[.pointer (some ⟨ss,0,none⟩),.slice (some ⟨A,0,none⟩) 2 2] w (DoP ss mb m w y (zCd s x1 fun v=>((endH s v).1,(endH s v).2,x0))):=by
 have HNU:Hid (∀ wq,Mod zAb w wq->Calls Tryz.prog 44 #[.string x1] wq (NumP x1 wq)):=fun wq hq=>zDc x1 hx wq (h.vd.quiet hq)
 have c0:=h.blk.cell 0 rfl
 have HC:Hid (w.drew.cell? ⟨ss,0,none⟩=some (.pointer (some ⟨g,0,none⟩))/\w.drew.cell? ⟨A,1,none⟩=some (.string x1)):=⟨c0,k1⟩
 have HP:=Hmq h
 have HI:=Hmq hi
 have HK0:=Hmq k0
 clear c0 k1 k0 h
 go_enter Tryz.func19,Tryz.ntmps19
 go_upto_region 1 with fail
 refine zEr fun fr hfr=>?_
 refine zDk fun Q1 hQ1=>?_
 have hpan:∀ (d:Nat) (v:Value) (c:List PanicEntry) (a:Act) (w:World),Q1 (.panic c) (a.put (some d) v) w->Q1 (.panic c) a w:=fun d v c a w h=>by rw [hQ1] at h ⊢;exact h
 have HQ1:=Hmq hQ1
 clear hQ1
 have hsz:fr.tmps.size=18:=by rw [hfr];rfl
 obtain ⟨_,t0⟩:∃ h:0<fr.tmps.size,fr.tmps[0]=.pointer (some ⟨ss,0,none⟩):=Array.getElem?_eq_some_iff.1 (by rw [hfr];rfl)
 obtain ⟨_,t1⟩:∃ h:1<fr.tmps.size,fr.tmps[1]=.slice (some ⟨A,0,none⟩) 2 2:=Array.getElem?_eq_some_iff.1 (by rw [hfr];rfl)
 have HFR:=Hmq hfr
 clear hfr
 refine zBo 99 (fun wq=>wq.cell? ⟨ss,0,none⟩=some (.pointer (some ⟨g,0,none⟩))/\wq.cell? ⟨A,1,none⟩=some (.string x1)) rfl ?_
 refine zAc 99 0 5 (.pointer (some ⟨ss,0,none⟩)) rfl rfl (by kernel_rfl) (by kernel_rfl) (by kernel_rfl) (by kernel_rfl) (fun c a w h=>hpan _ _ c a w h) HC.out ⟨by rfl,fun wq hq=>by obtain ⟨q0,q1⟩:=hq;go_simp⟩ ?_
 refine zAc 99 1 6 (.pointer (some ⟨ss,0,none⟩)) rfl rfl (by kernel_rfl) (by kernel_rfl) (by kernel_rfl) (by kernel_rfl) (fun c a w h=>hpan _ _ c a w h) HC.out ⟨by rfl,fun wq hq=>by obtain ⟨q0,q1⟩:=hq;go_simp⟩ ?_
 refine zAc 99 2 7 (.pointer (some ⟨ss,0,none⟩)) rfl rfl (by kernel_rfl) (by kernel_rfl) (by kernel_rfl) (by kernel_rfl) (fun c a w h=>hpan _ _ c a w h) HC.out ⟨by rfl,fun wq hq=>by obtain ⟨q0,q1⟩:=hq;go_simp⟩ ?_
 refine zAc 99 3 8 (.pointer (some ⟨g,0,none⟩)) rfl rfl (by kernel_rfl) (by kernel_rfl) (by kernel_rfl) (by kernel_rfl) (fun c a w h=>hpan _ _ c a w h) HC.out ⟨by rfl,fun wq hq=>by obtain ⟨q0,q1⟩:=hq;go_simp⟩ ?_
 refine zAc 99 4 9 (.slice (some ⟨A,0,none⟩) 2 2) rfl rfl (by kernel_rfl) (by kernel_rfl) (by kernel_rfl) (by kernel_rfl) (fun c a w h=>hpan _ _ c a w h) HC.out ⟨by rfl,fun wq hq=>by obtain ⟨q0,q1⟩:=hq;go_simp⟩ ?_
 refine zAc 99 5 10 (.pointer (some ⟨A,1,none⟩)) rfl rfl (by kernel_rfl) (by kernel_rfl) (by kernel_rfl) (by kernel_rfl) (fun c a w h=>hpan _ _ c a w h) HC.out ⟨by rfl,fun wq hq=>by obtain ⟨q0,q1⟩:=hq;go_simp⟩ ?_
 refine zAc 99 6 11 (.string x1) rfl rfl (by kernel_rfl) (by kernel_rfl) (by kernel_rfl) (by kernel_rfl) (fun c a w h=>hpan _ _ c a w h) HC.out ⟨by rfl,fun wq hq=>by obtain ⟨q0,q1⟩:=hq;go_simp⟩ ?_
 refine zAr 99 7 12 rfl rfl (by kernel_rfl) (by rfl) (f:=44) (args:=#[.string x1]) (by go_simp) ((HNU.out _ ((Mod.refl _ _).drew)).mono ?_)
 intro e w1 hN
 cases hn:numD x1 with
 | none=>
  rw [NumP.no hn] at hN
  obtain ⟨rfl,hm1⟩:=hN
  have HM1:Mod zAb w w1:=((Mod.refl _ w).drew).trans hm1
  refine .inr ⟨_,rfl,?_⟩
  rw [HQ1.out]
  have HFI:Hid (DoP ss mb m w y (zCd s x1 fun v=>((endH s v).1,(endH s v).2,x0)) (zCv 3) w1):=by
   unfold Hid;rw [zFy hn];exact DoP.no (by decide) (HP.out.still HI.out HM1)
  exact ⟨by rw [HFR.out];rfl,HFI.out⟩
 | some v=>
  rw [NumP.yes hn] at hN
  obtain ⟨rfl,hm1⟩:=hN
  have HN:=Hmq hn
  clear hn
  have HM1:Mod zAb w w1:=((Mod.refl _ w).drew).trans hm1
  have hP1:=HP.out.quiet HM1
  refine .inl ⟨_,rfl,⟨HM1.cell HC.out.1 id,HM1.cell HC.out.2 id⟩,?_⟩
  refine zAr 99 8 13 rfl rfl (by kernel_rfl) (by rfl) (f:=47) (args:=#[.pointer (some ⟨g,0,none⟩),.int .i64 v]) (by go_simp) ((yTk n c g y s v w1 hP1.house hi.rest.c.safe hi.rest.c.held (by have:=hi.c;omega) (by have:=hi.small hm;omega)).mono ?_)
  rintro e w2 ⟨rfl,y2,hH2,hK2⟩
  have HR:Hid (SesR ss mb m w y (endH s v).1 w2):=HP.out.acted (HI.out.act (zCz.end_ hi.rest v) (hi.sh.end_ v) (by omega)) HM1 hH2 hK2.st (Mod.refl _ _)
  have c2:w2.cell? ⟨ss,0,none⟩=some (.pointer (some ⟨g,0,none⟩)):=(hK2.st.blk hP1.blk HP.out.nos).cell 0 rfl
  have HC2:Hid (w2.cell? ⟨ss,0,none⟩=some (.pointer (some ⟨g,0,none⟩))/\w2.cell? ⟨A,1,none⟩=some (.string x1)):=⟨c2,HR.out.cell hA hAs HC.out.2⟩
  clear c2 hH2 hK2
  refine .inl ⟨_,rfl,HC2.out,?_⟩
  refine zAr 99 9 14 rfl rfl (by kernel_rfl) (by rfl) (f:=41) (args:=#[errQ (endH s v).2]) (by go_simp) ((zFg HR.out.et).mono ?_)
  rintro e w3 ⟨he,hm3⟩
  rcases he with ⟨h0,rfl⟩ | ⟨h0,rfl⟩
  ·refine .inl ⟨_,rfl,⟨hm3.cell HC2.out.1 id,hm3.cell HC2.out.2 id⟩,?_⟩
   refine ⟨by kernel_rfl,?_⟩
   have hfin:∀ B:Act,B=⟨#[.pointer (some ⟨ss,0,none⟩),.slice (some ⟨A,0,none⟩) 2 2,undef,undef,.string ⟨#[]⟩,.pointer (some ⟨ss,0,none⟩),.pointer (some ⟨ss,0,none⟩),.pointer (some ⟨ss,0,none⟩),.pointer (some ⟨g,0,none⟩),.slice (some ⟨A,0,none⟩) 2 2,.pointer (some ⟨A,1,none⟩),.string x1,.int .i64 v,errQ (endH s v).2,.tuple #[],undef,undef,undef],[]⟩->Q1 .normal B w3:=fun B hB=>by
    subst hB
    have hQ1:=HQ1.out
    subst hQ1
    have k0:w3.cell? ⟨A,0,none⟩=some (.string x0):=hm3.cell (HR.out.cell hA hAs HK0.out) id
    have HFI:Hid (DoP ss mb m w y (zCd s x1 fun v=>((endH s v).1,(endH s v).2,x0)) (.returned (.string x0)) w3):=by
     unfold Hid;rw [zCb HN.out];exact DoP.yes h0 (HR.out.quiet hm3)
    clear t0 t1 hsz hpan HNU HC HC2 HFR hP1 hm1 hi h0 hm3
    go_wp2_with fail
    go_ret
    exact HFI.out
   exact hfin _ (by rw [HFR.out];kernel_rfl)
  ·refine .inr ⟨_,rfl,?_⟩
   rw [HQ1.out]
   have HFI:Hid (DoP ss mb m w y (zCd s x1 fun v=>((endH s v).1,(endH s v).2,x0)) (zCv (endH s v).2) w3):=by
    unfold Hid;rw [zCb HN.out];exact DoP.no h0 (HR.out.quiet hm3)
   exact ⟨by rw [HFR.out];rfl,HFI.out⟩
theorem yNi{ss mb m n c g A:Nat}{y:HLay}{s:zAa}{w:World}(x0 x1:ByteArray)(h:SesP w ss mb n c g y s)(hi:SesI m c s)(hm:m<=900)(hx:x1.size<=1000000)(hA:y.own A=.no)(hAs:A≠ss)
  (k0:w.cell? ⟨A,0,none⟩=some (.string x0)) (k1:w.cell? ⟨A,1,none⟩=some (.string x1)) :
  Calls Tryz.prog 18 #[.pointer (some ⟨ss,0,none⟩),.slice (some ⟨A,0,none⟩) 2 2] w (DoP ss mb m w y (zCd s x1 fun v=>((zEy s v).1,(zEy s v).2,x0))):=by
 have HNU:Hid (∀ wq,Mod zAb w wq->Calls Tryz.prog 44 #[.string x1] wq (NumP x1 wq)):=fun wq hq=>zDc x1 hx wq (h.vd.quiet hq)
 have c0:=h.blk.cell 0 rfl
 have HC:Hid (w.drew.cell? ⟨ss,0,none⟩=some (.pointer (some ⟨g,0,none⟩))/\w.drew.cell? ⟨A,1,none⟩=some (.string x1)):=⟨c0,k1⟩
 have HP:=Hmq h
 have HI:=Hmq hi
 have HK0:=Hmq k0
 clear c0 k1 k0 h
 go_enter Tryz.func18,Tryz.ntmps18
 go_upto_region 1 with fail
 refine zEr fun fr hfr=>?_
 refine zDk fun Q1 hQ1=>?_
 have hpan:∀ (d:Nat) (v:Value) (c:List PanicEntry) (a:Act) (w:World),Q1 (.panic c) (a.put (some d) v) w->Q1 (.panic c) a w:=fun d v c a w h=>by rw [hQ1] at h ⊢;exact h
 have HQ1:=Hmq hQ1
 clear hQ1
 have hsz:fr.tmps.size=18:=by rw [hfr];rfl
 obtain ⟨_,t0⟩:∃ h:0<fr.tmps.size,fr.tmps[0]=.pointer (some ⟨ss,0,none⟩):=Array.getElem?_eq_some_iff.1 (by rw [hfr];rfl)
 obtain ⟨_,t1⟩:∃ h:1<fr.tmps.size,fr.tmps[1]=.slice (some ⟨A,0,none⟩) 2 2:=Array.getElem?_eq_some_iff.1 (by rw [hfr];rfl)
 have HFR:=Hmq hfr
 clear hfr
 refine zBo 99 (fun wq=>wq.cell? ⟨ss,0,none⟩=some (.pointer (some ⟨g,0,none⟩))/\wq.cell? ⟨A,1,none⟩=some (.string x1)) rfl ?_
 refine zAc 99 0 5 (.pointer (some ⟨ss,0,none⟩)) rfl rfl (by kernel_rfl) (by kernel_rfl) (by kernel_rfl) (by kernel_rfl) (fun c a w h=>hpan _ _ c a w h) HC.out ⟨by rfl,fun wq hq=>by obtain ⟨q0,q1⟩:=hq;go_simp⟩ ?_
 refine zAc 99 1 6 (.pointer (some ⟨ss,0,none⟩)) rfl rfl (by kernel_rfl) (by kernel_rfl) (by kernel_rfl) (by kernel_rfl) (fun c a w h=>hpan _ _ c a w h) HC.out ⟨by rfl,fun wq hq=>by obtain ⟨q0,q1⟩:=hq;go_simp⟩ ?_
 refine zAc 99 2 7 (.pointer (some ⟨ss,0,none⟩)) rfl rfl (by kernel_rfl) (by kernel_rfl) (by kernel_rfl) (by kernel_rfl) (fun c a w h=>hpan _ _ c a w h) HC.out ⟨by rfl,fun wq hq=>by obtain ⟨q0,q1⟩:=hq;go_simp⟩ ?_
 refine zAc 99 3 8 (.pointer (some ⟨g,0,none⟩)) rfl rfl (by kernel_rfl) (by kernel_rfl) (by kernel_rfl) (by kernel_rfl) (fun c a w h=>hpan _ _ c a w h) HC.out ⟨by rfl,fun wq hq=>by obtain ⟨q0,q1⟩:=hq;go_simp⟩ ?_
 refine zAc 99 4 9 (.slice (some ⟨A,0,none⟩) 2 2) rfl rfl (by kernel_rfl) (by kernel_rfl) (by kernel_rfl) (by kernel_rfl) (fun c a w h=>hpan _ _ c a w h) HC.out ⟨by rfl,fun wq hq=>by obtain ⟨q0,q1⟩:=hq;go_simp⟩ ?_
 refine zAc 99 5 10 (.pointer (some ⟨A,1,none⟩)) rfl rfl (by kernel_rfl) (by kernel_rfl) (by kernel_rfl) (by kernel_rfl) (fun c a w h=>hpan _ _ c a w h) HC.out ⟨by rfl,fun wq hq=>by obtain ⟨q0,q1⟩:=hq;go_simp⟩ ?_
 refine zAc 99 6 11 (.string x1) rfl rfl (by kernel_rfl) (by kernel_rfl) (by kernel_rfl) (by kernel_rfl) (fun c a w h=>hpan _ _ c a w h) HC.out ⟨by rfl,fun wq hq=>by obtain ⟨q0,q1⟩:=hq;go_simp⟩ ?_
 refine zAr 99 7 12 rfl rfl (by kernel_rfl) (by rfl) (f:=44) (args:=#[.string x1]) (by go_simp) ((HNU.out _ ((Mod.refl _ _).drew)).mono ?_)
 intro e w1 hN
 cases hn:numD x1 with
 | none=>
  rw [NumP.no hn] at hN
  obtain ⟨rfl,hm1⟩:=hN
  have HM1:Mod zAb w w1:=((Mod.refl _ w).drew).trans hm1
  refine .inr ⟨_,rfl,?_⟩
  rw [HQ1.out]
  have HFI:Hid (DoP ss mb m w y (zCd s x1 fun v=>((zEy s v).1,(zEy s v).2,x0)) (zCv 3) w1):=by
   unfold Hid;rw [zFy hn];exact DoP.no (by decide) (HP.out.still HI.out HM1)
  exact ⟨by rw [HFR.out];rfl,HFI.out⟩
 | some v=>
  rw [NumP.yes hn] at hN
  obtain ⟨rfl,hm1⟩:=hN
  have HN:=Hmq hn
  clear hn
  have HM1:Mod zAb w w1:=((Mod.refl _ w).drew).trans hm1
  have hP1:=HP.out.quiet HM1
  refine .inl ⟨_,rfl,⟨HM1.cell HC.out.1 id,HM1.cell HC.out.2 id⟩,?_⟩
  refine zAr 99 8 13 rfl rfl (by kernel_rfl) (by rfl) (f:=46) (args:=#[.pointer (some ⟨g,0,none⟩),.int .i64 v]) (by go_simp) ((yRe n c g y s v w1 hP1.house hi.rest.c.safe.shape (by have:=hi.c;omega)).mono ?_)
  rintro e w2 ⟨rfl,y2,hH2,hK2⟩
  have HR:Hid (SesR ss mb m w y (zEy s v).1 w2):=HP.out.acted (HI.out.act (zCz.drop hi.rest v) (hi.sh.drop v) (by omega)) HM1 hH2 hK2.st (Mod.refl _ _)
  have c2:w2.cell? ⟨ss,0,none⟩=some (.pointer (some ⟨g,0,none⟩)):=(hK2.st.blk hP1.blk HP.out.nos).cell 0 rfl
  have HC2:Hid (w2.cell? ⟨ss,0,none⟩=some (.pointer (some ⟨g,0,none⟩))/\w2.cell? ⟨A,1,none⟩=some (.string x1)):=⟨c2,HR.out.cell hA hAs HC.out.2⟩
  clear c2 hH2 hK2
  refine .inl ⟨_,rfl,HC2.out,?_⟩
  refine zAr 99 9 14 rfl rfl (by kernel_rfl) (by rfl) (f:=41) (args:=#[errQ (zEy s v).2]) (by go_simp) ((zFg HR.out.et).mono ?_)
  rintro e w3 ⟨he,hm3⟩
  rcases he with ⟨h0,rfl⟩ | ⟨h0,rfl⟩
  ·refine .inl ⟨_,rfl,⟨hm3.cell HC2.out.1 id,hm3.cell HC2.out.2 id⟩,?_⟩
   refine ⟨by kernel_rfl,?_⟩
   have hfin:∀ B:Act,B=⟨#[.pointer (some ⟨ss,0,none⟩),.slice (some ⟨A,0,none⟩) 2 2,undef,undef,.string ⟨#[]⟩,.pointer (some ⟨ss,0,none⟩),.pointer (some ⟨ss,0,none⟩),.pointer (some ⟨ss,0,none⟩),.pointer (some ⟨g,0,none⟩),.slice (some ⟨A,0,none⟩) 2 2,.pointer (some ⟨A,1,none⟩),.string x1,.int .i64 v,errQ (zEy s v).2,.tuple #[],undef,undef,undef],[]⟩->Q1 .normal B w3:=fun B hB=>by
    subst hB
    have hQ1:=HQ1.out
    subst hQ1
    have k0:w3.cell? ⟨A,0,none⟩=some (.string x0):=hm3.cell (HR.out.cell hA hAs HK0.out) id
    have HFI:Hid (DoP ss mb m w y (zCd s x1 fun v=>((zEy s v).1,(zEy s v).2,x0)) (.returned (.string x0)) w3):=by
     unfold Hid;rw [zCb HN.out];exact DoP.yes h0 (HR.out.quiet hm3)
    clear t0 t1 hsz hpan HNU HC HC2 HFR hP1 hm1 hi h0 hm3
    go_wp2_with fail
    go_ret
    exact HFI.out
   exact hfin _ (by rw [HFR.out];kernel_rfl)
  ·refine .inr ⟨_,rfl,?_⟩
   rw [HQ1.out]
   have HFI:Hid (DoP ss mb m w y (zCd s x1 fun v=>((zEy s v).1,(zEy s v).2,x0)) (zCv (zEy s v).2) w3):=by
    unfold Hid;rw [zCb HN.out];exact DoP.no h0 (HR.out.quiet hm3)
   exact ⟨by rw [HFR.out];rfl,HFI.out⟩
theorem yNh{ss mb m n c g A:Nat}{y:HLay}{s:zAa}{w:World}(x0 x1:ByteArray)(h:SesP w ss mb n c g y s)(hi:SesI m c s)(hm:m<=900)(hx:x1.size<=1000000)(hA:y.own A=.no)(hAs:A≠ss)
  (k0:w.cell? ⟨A,0,none⟩=some (.string x0)) (k1:w.cell? ⟨A,1,none⟩=some (.string x1)) :
  Calls Tryz.prog 20 #[.pointer (some ⟨ss,0,none⟩),.slice (some ⟨A,0,none⟩) 2 2] w (DoP ss mb m w y (zCd s x1 fun v=>((zEo s v).1,(zEo s v).2,x0))):=by
 have HNU:Hid (∀ wq,Mod zAb w wq->Calls Tryz.prog 44 #[.string x1] wq (NumP x1 wq)):=fun wq hq=>zDc x1 hx wq (h.vd.quiet hq)
 have c0:=h.blk.cell 0 rfl
 have HC:Hid (w.drew.cell? ⟨ss,0,none⟩=some (.pointer (some ⟨g,0,none⟩))/\w.drew.cell? ⟨A,1,none⟩=some (.string x1)):=⟨c0,k1⟩
 have HP:=Hmq h
 have HI:=Hmq hi
 have HK0:=Hmq k0
 clear c0 k1 k0 h
 go_enter Tryz.func20,Tryz.ntmps20
 go_upto_region 1 with fail
 refine zEr fun fr hfr=>?_
 refine zDk fun Q1 hQ1=>?_
 have hpan:∀ (d:Nat) (v:Value) (c:List PanicEntry) (a:Act) (w:World),Q1 (.panic c) (a.put (some d) v) w->Q1 (.panic c) a w:=fun d v c a w h=>by rw [hQ1] at h ⊢;exact h
 have HQ1:=Hmq hQ1
 clear hQ1
 have hsz:fr.tmps.size=18:=by rw [hfr];rfl
 obtain ⟨_,t0⟩:∃ h:0<fr.tmps.size,fr.tmps[0]=.pointer (some ⟨ss,0,none⟩):=Array.getElem?_eq_some_iff.1 (by rw [hfr];rfl)
 obtain ⟨_,t1⟩:∃ h:1<fr.tmps.size,fr.tmps[1]=.slice (some ⟨A,0,none⟩) 2 2:=Array.getElem?_eq_some_iff.1 (by rw [hfr];rfl)
 have HFR:=Hmq hfr
 clear hfr
 refine zBo 99 (fun wq=>wq.cell? ⟨ss,0,none⟩=some (.pointer (some ⟨g,0,none⟩))/\wq.cell? ⟨A,1,none⟩=some (.string x1)) rfl ?_
 refine zAc 99 0 5 (.pointer (some ⟨ss,0,none⟩)) rfl rfl (by kernel_rfl) (by kernel_rfl) (by kernel_rfl) (by kernel_rfl) (fun c a w h=>hpan _ _ c a w h) HC.out ⟨by rfl,fun wq hq=>by obtain ⟨q0,q1⟩:=hq;go_simp⟩ ?_
 refine zAc 99 1 6 (.pointer (some ⟨ss,0,none⟩)) rfl rfl (by kernel_rfl) (by kernel_rfl) (by kernel_rfl) (by kernel_rfl) (fun c a w h=>hpan _ _ c a w h) HC.out ⟨by rfl,fun wq hq=>by obtain ⟨q0,q1⟩:=hq;go_simp⟩ ?_
 refine zAc 99 2 7 (.pointer (some ⟨ss,0,none⟩)) rfl rfl (by kernel_rfl) (by kernel_rfl) (by kernel_rfl) (by kernel_rfl) (fun c a w h=>hpan _ _ c a w h) HC.out ⟨by rfl,fun wq hq=>by obtain ⟨q0,q1⟩:=hq;go_simp⟩ ?_
 refine zAc 99 3 8 (.pointer (some ⟨g,0,none⟩)) rfl rfl (by kernel_rfl) (by kernel_rfl) (by kernel_rfl) (by kernel_rfl) (fun c a w h=>hpan _ _ c a w h) HC.out ⟨by rfl,fun wq hq=>by obtain ⟨q0,q1⟩:=hq;go_simp⟩ ?_
 refine zAc 99 4 9 (.slice (some ⟨A,0,none⟩) 2 2) rfl rfl (by kernel_rfl) (by kernel_rfl) (by kernel_rfl) (by kernel_rfl) (fun c a w h=>hpan _ _ c a w h) HC.out ⟨by rfl,fun wq hq=>by obtain ⟨q0,q1⟩:=hq;go_simp⟩ ?_
 refine zAc 99 5 10 (.pointer (some ⟨A,1,none⟩)) rfl rfl (by kernel_rfl) (by kernel_rfl) (by kernel_rfl) (by kernel_rfl) (fun c a w h=>hpan _ _ c a w h) HC.out ⟨by rfl,fun wq hq=>by obtain ⟨q0,q1⟩:=hq;go_simp⟩ ?_
 refine zAc 99 6 11 (.string x1) rfl rfl (by kernel_rfl) (by kernel_rfl) (by kernel_rfl) (by kernel_rfl) (fun c a w h=>hpan _ _ c a w h) HC.out ⟨by rfl,fun wq hq=>by obtain ⟨q0,q1⟩:=hq;go_simp⟩ ?_
 refine zAr 99 7 12 rfl rfl (by kernel_rfl) (by rfl) (f:=44) (args:=#[.string x1]) (by go_simp) ((HNU.out _ ((Mod.refl _ _).drew)).mono ?_)
 intro e w1 hN
 cases hn:numD x1 with
 | none=>
  rw [NumP.no hn] at hN
  obtain ⟨rfl,hm1⟩:=hN
  have HM1:Mod zAb w w1:=((Mod.refl _ w).drew).trans hm1
  refine .inr ⟨_,rfl,?_⟩
  rw [HQ1.out]
  have HFI:Hid (DoP ss mb m w y (zCd s x1 fun v=>((zEo s v).1,(zEo s v).2,x0)) (zCv 3) w1):=by
   unfold Hid;rw [zFy hn];exact DoP.no (by decide) (HP.out.still HI.out HM1)
  exact ⟨by rw [HFR.out];rfl,HFI.out⟩
 | some v=>
  rw [NumP.yes hn] at hN
  obtain ⟨rfl,hm1⟩:=hN
  have HN:=Hmq hn
  clear hn
  have HM1:Mod zAb w w1:=((Mod.refl _ w).drew).trans hm1
  have hP1:=HP.out.quiet HM1
  refine .inl ⟨_,rfl,⟨HM1.cell HC.out.1 id,HM1.cell HC.out.2 id⟩,?_⟩
  refine zAr 99 8 13 rfl rfl (by kernel_rfl) (by rfl) (f:=48) (args:=#[.pointer (some ⟨g,0,none⟩),.int .i64 v]) (by go_simp) ((yRb n c g y s v w1 hP1.house hi.rest.c.safe.shape (ySv HN.out) (by have:=hi.dead;omega) (by have:=hi.down;omega) (by have:=hi.small hm;omega)).mono ?_)
  rintro e w2 ⟨rfl,y2,hH2,hK2⟩
  have HR:Hid (SesR ss mb m w y (zEo s v).1 w2):=HP.out.acted (HI.out.act (zCz.fail hi.rest v) (hi.sh.fail v) (by omega)) HM1 hH2 hK2.st (Mod.refl _ _)
  have c2:w2.cell? ⟨ss,0,none⟩=some (.pointer (some ⟨g,0,none⟩)):=(hK2.st.blk hP1.blk HP.out.nos).cell 0 rfl
  have HC2:Hid (w2.cell? ⟨ss,0,none⟩=some (.pointer (some ⟨g,0,none⟩))/\w2.cell? ⟨A,1,none⟩=some (.string x1)):=⟨c2,HR.out.cell hA hAs HC.out.2⟩
  clear c2 hH2 hK2
  refine .inl ⟨_,rfl,HC2.out,?_⟩
  refine zAr 99 9 14 rfl rfl (by kernel_rfl) (by rfl) (f:=41) (args:=#[errQ (zEo s v).2]) (by go_simp) ((zFg HR.out.et).mono ?_)
  rintro e w3 ⟨he,hm3⟩
  rcases he with ⟨h0,rfl⟩ | ⟨h0,rfl⟩
  ·refine .inl ⟨_,rfl,⟨hm3.cell HC2.out.1 id,hm3.cell HC2.out.2 id⟩,?_⟩
   refine ⟨by kernel_rfl,?_⟩
   have hfin:∀ B:Act,B=⟨#[.pointer (some ⟨ss,0,none⟩),.slice (some ⟨A,0,none⟩) 2 2,undef,undef,.string ⟨#[]⟩,.pointer (some ⟨ss,0,none⟩),.pointer (some ⟨ss,0,none⟩),.pointer (some ⟨ss,0,none⟩),.pointer (some ⟨g,0,none⟩),.slice (some ⟨A,0,none⟩) 2 2,.pointer (some ⟨A,1,none⟩),.string x1,.int .i64 v,errQ (zEo s v).2,.tuple #[],undef,undef,undef],[]⟩->Q1 .normal B w3:=fun B hB=>by
    subst hB
    have hQ1:=HQ1.out
    subst hQ1
    have k0:w3.cell? ⟨A,0,none⟩=some (.string x0):=hm3.cell (HR.out.cell hA hAs HK0.out) id
    have HFI:Hid (DoP ss mb m w y (zCd s x1 fun v=>((zEo s v).1,(zEo s v).2,x0)) (.returned (.string x0)) w3):=by
     unfold Hid;rw [zCb HN.out];exact DoP.yes h0 (HR.out.quiet hm3)
    clear t0 t1 hsz hpan HNU HC HC2 HFR hP1 hm1 hi h0 hm3
    go_wp2_with fail
    go_ret
    exact HFI.out
   exact hfin _ (by rw [HFR.out];kernel_rfl)
  ·refine .inr ⟨_,rfl,?_⟩
   rw [HQ1.out]
   have HFI:Hid (DoP ss mb m w y (zCd s x1 fun v=>((zEo s v).1,(zEo s v).2,x0)) (zCv (zEo s v).2) w3):=by
    unfold Hid;rw [zCb HN.out];exact DoP.no h0 (HR.out.quiet hm3)
   exact ⟨by rw [HFR.out];rfl,HFI.out⟩
theorem yNf{ss mb m n c g A:Nat}{y:HLay}{s:zAa}{w:World}(x0 x1:ByteArray)(h:SesP w ss mb n c g y s)(hi:SesI m c s)(hm:m<=900)(hx:x1.size<=1000000)(hA:y.own A=.no)(hAs:A≠ss)
  (k0:w.cell? ⟨A,0,none⟩=some (.string x0)) (k1:w.cell? ⟨A,1,none⟩=some (.string x1)) :
  Calls Tryz.prog 24 #[.pointer (some ⟨ss,0,none⟩),.slice (some ⟨A,0,none⟩) 2 2] w (DoP ss mb m w y (zCd s x1 fun v=>((zEn s v).1,(zEn s v).2,x0))):=by
 have HNU:Hid (∀ wq,Mod zAb w wq->Calls Tryz.prog 44 #[.string x1] wq (NumP x1 wq)):=fun wq hq=>zDc x1 hx wq (h.vd.quiet hq)
 have c0:=h.blk.cell 0 rfl
 have HC:Hid (w.drew.cell? ⟨ss,0,none⟩=some (.pointer (some ⟨g,0,none⟩))/\w.drew.cell? ⟨A,1,none⟩=some (.string x1)):=⟨c0,k1⟩
 have HP:=Hmq h
 have HI:=Hmq hi
 have HK0:=Hmq k0
 clear c0 k1 k0 h
 go_enter Tryz.func24,Tryz.ntmps24
 go_upto_region 1 with fail
 refine zEr fun fr hfr=>?_
 refine zDk fun Q1 hQ1=>?_
 have hpan:∀ (d:Nat) (v:Value) (c:List PanicEntry) (a:Act) (w:World),Q1 (.panic c) (a.put (some d) v) w->Q1 (.panic c) a w:=fun d v c a w h=>by rw [hQ1] at h ⊢;exact h
 have HQ1:=Hmq hQ1
 clear hQ1
 have hsz:fr.tmps.size=18:=by rw [hfr];rfl
 obtain ⟨_,t0⟩:∃ h:0<fr.tmps.size,fr.tmps[0]=.pointer (some ⟨ss,0,none⟩):=Array.getElem?_eq_some_iff.1 (by rw [hfr];rfl)
 obtain ⟨_,t1⟩:∃ h:1<fr.tmps.size,fr.tmps[1]=.slice (some ⟨A,0,none⟩) 2 2:=Array.getElem?_eq_some_iff.1 (by rw [hfr];rfl)
 have HFR:=Hmq hfr
 clear hfr
 refine zBo 99 (fun wq=>wq.cell? ⟨ss,0,none⟩=some (.pointer (some ⟨g,0,none⟩))/\wq.cell? ⟨A,1,none⟩=some (.string x1)) rfl ?_
 refine zAc 99 0 5 (.pointer (some ⟨ss,0,none⟩)) rfl rfl (by kernel_rfl) (by kernel_rfl) (by kernel_rfl) (by kernel_rfl) (fun c a w h=>hpan _ _ c a w h) HC.out ⟨by rfl,fun wq hq=>by obtain ⟨q0,q1⟩:=hq;go_simp⟩ ?_
 refine zAc 99 1 6 (.pointer (some ⟨ss,0,none⟩)) rfl rfl (by kernel_rfl) (by kernel_rfl) (by kernel_rfl) (by kernel_rfl) (fun c a w h=>hpan _ _ c a w h) HC.out ⟨by rfl,fun wq hq=>by obtain ⟨q0,q1⟩:=hq;go_simp⟩ ?_
 refine zAc 99 2 7 (.pointer (some ⟨ss,0,none⟩)) rfl rfl (by kernel_rfl) (by kernel_rfl) (by kernel_rfl) (by kernel_rfl) (fun c a w h=>hpan _ _ c a w h) HC.out ⟨by rfl,fun wq hq=>by obtain ⟨q0,q1⟩:=hq;go_simp⟩ ?_
 refine zAc 99 3 8 (.pointer (some ⟨g,0,none⟩)) rfl rfl (by kernel_rfl) (by kernel_rfl) (by kernel_rfl) (by kernel_rfl) (fun c a w h=>hpan _ _ c a w h) HC.out ⟨by rfl,fun wq hq=>by obtain ⟨q0,q1⟩:=hq;go_simp⟩ ?_
 refine zAc 99 4 9 (.slice (some ⟨A,0,none⟩) 2 2) rfl rfl (by kernel_rfl) (by kernel_rfl) (by kernel_rfl) (by kernel_rfl) (fun c a w h=>hpan _ _ c a w h) HC.out ⟨by rfl,fun wq hq=>by obtain ⟨q0,q1⟩:=hq;go_simp⟩ ?_
 refine zAc 99 5 10 (.pointer (some ⟨A,1,none⟩)) rfl rfl (by kernel_rfl) (by kernel_rfl) (by kernel_rfl) (by kernel_rfl) (fun c a w h=>hpan _ _ c a w h) HC.out ⟨by rfl,fun wq hq=>by obtain ⟨q0,q1⟩:=hq;go_simp⟩ ?_
 refine zAc 99 6 11 (.string x1) rfl rfl (by kernel_rfl) (by kernel_rfl) (by kernel_rfl) (by kernel_rfl) (fun c a w h=>hpan _ _ c a w h) HC.out ⟨by rfl,fun wq hq=>by obtain ⟨q0,q1⟩:=hq;go_simp⟩ ?_
 refine zAr 99 7 12 rfl rfl (by kernel_rfl) (by rfl) (f:=44) (args:=#[.string x1]) (by go_simp) ((HNU.out _ ((Mod.refl _ _).drew)).mono ?_)
 intro e w1 hN
 cases hn:numD x1 with
 | none=>
  rw [NumP.no hn] at hN
  obtain ⟨rfl,hm1⟩:=hN
  have HM1:Mod zAb w w1:=((Mod.refl _ w).drew).trans hm1
  refine .inr ⟨_,rfl,?_⟩
  rw [HQ1.out]
  have HFI:Hid (DoP ss mb m w y (zCd s x1 fun v=>((zEn s v).1,(zEn s v).2,x0)) (zCv 3) w1):=by
   unfold Hid;rw [zFy hn];exact DoP.no (by decide) (HP.out.still HI.out HM1)
  exact ⟨by rw [HFR.out];rfl,HFI.out⟩
 | some v=>
  rw [NumP.yes hn] at hN
  obtain ⟨rfl,hm1⟩:=hN
  have HN:=Hmq hn
  clear hn
  have HM1:Mod zAb w w1:=((Mod.refl _ w).drew).trans hm1
  have hP1:=HP.out.quiet HM1
  refine .inl ⟨_,rfl,⟨HM1.cell HC.out.1 id,HM1.cell HC.out.2 id⟩,?_⟩
  refine zAr 99 8 13 rfl rfl (by kernel_rfl) (by rfl) (f:=54) (args:=#[.pointer (some ⟨g,0,none⟩),.int .i64 v]) (by go_simp) ((yMf n c g y s v w1 hP1.house (by have:=hi.small hm;omega)).mono ?_)
  rintro e w2 ⟨rfl,y2,hH2,hK2⟩
  have HR:Hid (SesR ss mb m w y (zEn s v).1 w2):=HP.out.acted (HI.out.act (zCz.lose hi.rest v) (hi.sh.lose v) (by omega)) HM1 hH2 hK2.st (Mod.refl _ _)
  have c2:w2.cell? ⟨ss,0,none⟩=some (.pointer (some ⟨g,0,none⟩)):=(hK2.st.blk hP1.blk HP.out.nos).cell 0 rfl
  have HC2:Hid (w2.cell? ⟨ss,0,none⟩=some (.pointer (some ⟨g,0,none⟩))/\w2.cell? ⟨A,1,none⟩=some (.string x1)):=⟨c2,HR.out.cell hA hAs HC.out.2⟩
  clear c2 hH2 hK2
  refine .inl ⟨_,rfl,HC2.out,?_⟩
  refine zAr 99 9 14 rfl rfl (by kernel_rfl) (by rfl) (f:=41) (args:=#[errQ (zEn s v).2]) (by go_simp) ((zFg HR.out.et).mono ?_)
  rintro e w3 ⟨he,hm3⟩
  rcases he with ⟨h0,rfl⟩ | ⟨h0,rfl⟩
  ·refine .inl ⟨_,rfl,⟨hm3.cell HC2.out.1 id,hm3.cell HC2.out.2 id⟩,?_⟩
   refine ⟨by kernel_rfl,?_⟩
   have hfin:∀ B:Act,B=⟨#[.pointer (some ⟨ss,0,none⟩),.slice (some ⟨A,0,none⟩) 2 2,undef,undef,.string ⟨#[]⟩,.pointer (some ⟨ss,0,none⟩),.pointer (some ⟨ss,0,none⟩),.pointer (some ⟨ss,0,none⟩),.pointer (some ⟨g,0,none⟩),.slice (some ⟨A,0,none⟩) 2 2,.pointer (some ⟨A,1,none⟩),.string x1,.int .i64 v,errQ (zEn s v).2,.tuple #[],undef,undef,undef],[]⟩->Q1 .normal B w3:=fun B hB=>by
    subst hB
    have hQ1:=HQ1.out
    subst hQ1
    have k0:w3.cell? ⟨A,0,none⟩=some (.string x0):=hm3.cell (HR.out.cell hA hAs HK0.out) id
    have HFI:Hid (DoP ss mb m w y (zCd s x1 fun v=>((zEn s v).1,(zEn s v).2,x0)) (.returned (.string x0)) w3):=by
     unfold Hid;rw [zCb HN.out];exact DoP.yes h0 (HR.out.quiet hm3)
    clear t0 t1 hsz hpan HNU HC HC2 HFR hP1 hm1 hi h0 hm3
    go_wp2_with fail
    go_ret
    exact HFI.out
   exact hfin _ (by rw [HFR.out];kernel_rfl)
  ·refine .inr ⟨_,rfl,?_⟩
   rw [HQ1.out]
   have HFI:Hid (DoP ss mb m w y (zCd s x1 fun v=>((zEn s v).1,(zEn s v).2,x0)) (zCv (zEn s v).2) w3):=by
    unfold Hid;rw [zCb HN.out];exact DoP.no h0 (HR.out.quiet hm3)
   exact ⟨by rw [HFR.out];rfl,HFI.out⟩
theorem yIo{ss mb m n c g A:Nat}{y:HLay}{s:zAa}{w:World}(x0 x1:ByteArray)(h:SesP w ss mb n c g y s)(hi:SesI m c s)(hm:m<=900)(hx:x1.size<=1000000)(hA:y.own A=.no)(hAs:A≠ss)
  (k0:w.cell? ⟨A,0,none⟩=some (.string x0)) (k1:w.cell? ⟨A,1,none⟩=some (.string x1)) :
  Calls Tryz.prog 30 #[.pointer (some ⟨ss,0,none⟩),.slice (some ⟨A,0,none⟩) 2 2] w (DoP ss mb m w y (zCd s x1 fun v=>((zCe s v).1,(zCe s v).2,x0))):=by
 have HNU:Hid (∀ wq,Mod zAb w wq->Calls Tryz.prog 44 #[.string x1] wq (NumP x1 wq)):=fun wq hq=>zDc x1 hx wq (h.vd.quiet hq)
 have c0:=h.blk.cell 0 rfl
 have HC:Hid (w.drew.cell? ⟨ss,0,none⟩=some (.pointer (some ⟨g,0,none⟩))/\w.drew.cell? ⟨A,1,none⟩=some (.string x1)):=⟨c0,k1⟩
 have HP:=Hmq h
 have HI:=Hmq hi
 have HK0:=Hmq k0
 clear c0 k1 k0 h
 go_enter Tryz.func30,Tryz.ntmps30
 go_upto_region 1 with fail
 refine zEr fun fr hfr=>?_
 refine zDk fun Q1 hQ1=>?_
 have hpan:∀ (d:Nat) (v:Value) (c:List PanicEntry) (a:Act) (w:World),Q1 (.panic c) (a.put (some d) v) w->Q1 (.panic c) a w:=fun d v c a w h=>by rw [hQ1] at h ⊢;exact h
 have HQ1:=Hmq hQ1
 clear hQ1
 have hsz:fr.tmps.size=18:=by rw [hfr];rfl
 obtain ⟨_,t0⟩:∃ h:0<fr.tmps.size,fr.tmps[0]=.pointer (some ⟨ss,0,none⟩):=Array.getElem?_eq_some_iff.1 (by rw [hfr];rfl)
 obtain ⟨_,t1⟩:∃ h:1<fr.tmps.size,fr.tmps[1]=.slice (some ⟨A,0,none⟩) 2 2:=Array.getElem?_eq_some_iff.1 (by rw [hfr];rfl)
 have HFR:=Hmq hfr
 clear hfr
 refine zBo 99 (fun wq=>wq.cell? ⟨ss,0,none⟩=some (.pointer (some ⟨g,0,none⟩))/\wq.cell? ⟨A,1,none⟩=some (.string x1)) rfl ?_
 refine zAc 99 0 5 (.pointer (some ⟨ss,0,none⟩)) rfl rfl (by kernel_rfl) (by kernel_rfl) (by kernel_rfl) (by kernel_rfl) (fun c a w h=>hpan _ _ c a w h) HC.out ⟨by rfl,fun wq hq=>by obtain ⟨q0,q1⟩:=hq;go_simp⟩ ?_
 refine zAc 99 1 6 (.pointer (some ⟨ss,0,none⟩)) rfl rfl (by kernel_rfl) (by kernel_rfl) (by kernel_rfl) (by kernel_rfl) (fun c a w h=>hpan _ _ c a w h) HC.out ⟨by rfl,fun wq hq=>by obtain ⟨q0,q1⟩:=hq;go_simp⟩ ?_
 refine zAc 99 2 7 (.pointer (some ⟨ss,0,none⟩)) rfl rfl (by kernel_rfl) (by kernel_rfl) (by kernel_rfl) (by kernel_rfl) (fun c a w h=>hpan _ _ c a w h) HC.out ⟨by rfl,fun wq hq=>by obtain ⟨q0,q1⟩:=hq;go_simp⟩ ?_
 refine zAc 99 3 8 (.pointer (some ⟨g,0,none⟩)) rfl rfl (by kernel_rfl) (by kernel_rfl) (by kernel_rfl) (by kernel_rfl) (fun c a w h=>hpan _ _ c a w h) HC.out ⟨by rfl,fun wq hq=>by obtain ⟨q0,q1⟩:=hq;go_simp⟩ ?_
 refine zAc 99 4 9 (.slice (some ⟨A,0,none⟩) 2 2) rfl rfl (by kernel_rfl) (by kernel_rfl) (by kernel_rfl) (by kernel_rfl) (fun c a w h=>hpan _ _ c a w h) HC.out ⟨by rfl,fun wq hq=>by obtain ⟨q0,q1⟩:=hq;go_simp⟩ ?_
 refine zAc 99 5 10 (.pointer (some ⟨A,1,none⟩)) rfl rfl (by kernel_rfl) (by kernel_rfl) (by kernel_rfl) (by kernel_rfl) (fun c a w h=>hpan _ _ c a w h) HC.out ⟨by rfl,fun wq hq=>by obtain ⟨q0,q1⟩:=hq;go_simp⟩ ?_
 refine zAc 99 6 11 (.string x1) rfl rfl (by kernel_rfl) (by kernel_rfl) (by kernel_rfl) (by kernel_rfl) (fun c a w h=>hpan _ _ c a w h) HC.out ⟨by rfl,fun wq hq=>by obtain ⟨q0,q1⟩:=hq;go_simp⟩ ?_
 refine zAr 99 7 12 rfl rfl (by kernel_rfl) (by rfl) (f:=44) (args:=#[.string x1]) (by go_simp) ((HNU.out _ ((Mod.refl _ _).drew)).mono ?_)
 intro e w1 hN
 cases hn:numD x1 with
 | none=>
  rw [NumP.no hn] at hN
  obtain ⟨rfl,hm1⟩:=hN
  have HM1:Mod zAb w w1:=((Mod.refl _ w).drew).trans hm1
  refine .inr ⟨_,rfl,?_⟩
  rw [HQ1.out]
  have HFI:Hid (DoP ss mb m w y (zCd s x1 fun v=>((zCe s v).1,(zCe s v).2,x0)) (zCv 3) w1):=by
   unfold Hid;rw [zFy hn];exact DoP.no (by decide) (HP.out.still HI.out HM1)
  exact ⟨by rw [HFR.out];rfl,HFI.out⟩
 | some v=>
  rw [NumP.yes hn] at hN
  obtain ⟨rfl,hm1⟩:=hN
  have HN:=Hmq hn
  clear hn
  have HM1:Mod zAb w w1:=((Mod.refl _ w).drew).trans hm1
  have hP1:=HP.out.quiet HM1
  refine .inl ⟨_,rfl,⟨HM1.cell HC.out.1 id,HM1.cell HC.out.2 id⟩,?_⟩
  refine zAr 99 8 13 rfl rfl (by kernel_rfl) (by rfl) (f:=59) (args:=#[.pointer (some ⟨g,0,none⟩),.int .i64 v]) (by go_simp) ((yId n c g y s v w1 hP1.house (by have:=hi.small hm;omega)).mono ?_)
  rintro e w2 ⟨rfl,y2,hH2,hK2⟩
  have HR:Hid (SesR ss mb m w y (zCe s v).1 w2):=HP.out.acted (HI.out.act (zCz.twice hi.rest v) (hi.sh.twice v) (by omega)) HM1 hH2 hK2.st (Mod.refl _ _)
  have c2:w2.cell? ⟨ss,0,none⟩=some (.pointer (some ⟨g,0,none⟩)):=(hK2.st.blk hP1.blk HP.out.nos).cell 0 rfl
  have HC2:Hid (w2.cell? ⟨ss,0,none⟩=some (.pointer (some ⟨g,0,none⟩))/\w2.cell? ⟨A,1,none⟩=some (.string x1)):=⟨c2,HR.out.cell hA hAs HC.out.2⟩
  clear c2 hH2 hK2
  refine .inl ⟨_,rfl,HC2.out,?_⟩
  refine zAr 99 9 14 rfl rfl (by kernel_rfl) (by rfl) (f:=41) (args:=#[errQ (zCe s v).2]) (by go_simp) ((zFg HR.out.et).mono ?_)
  rintro e w3 ⟨he,hm3⟩
  rcases he with ⟨h0,rfl⟩ | ⟨h0,rfl⟩
  ·refine .inl ⟨_,rfl,⟨hm3.cell HC2.out.1 id,hm3.cell HC2.out.2 id⟩,?_⟩
   refine ⟨by kernel_rfl,?_⟩
   have hfin:∀ B:Act,B=⟨#[.pointer (some ⟨ss,0,none⟩),.slice (some ⟨A,0,none⟩) 2 2,undef,undef,.string ⟨#[]⟩,.pointer (some ⟨ss,0,none⟩),.pointer (some ⟨ss,0,none⟩),.pointer (some ⟨ss,0,none⟩),.pointer (some ⟨g,0,none⟩),.slice (some ⟨A,0,none⟩) 2 2,.pointer (some ⟨A,1,none⟩),.string x1,.int .i64 v,errQ (zCe s v).2,.tuple #[],undef,undef,undef],[]⟩->Q1 .normal B w3:=fun B hB=>by
    subst hB
    have hQ1:=HQ1.out
    subst hQ1
    have k0:w3.cell? ⟨A,0,none⟩=some (.string x0):=hm3.cell (HR.out.cell hA hAs HK0.out) id
    have HFI:Hid (DoP ss mb m w y (zCd s x1 fun v=>((zCe s v).1,(zCe s v).2,x0)) (.returned (.string x0)) w3):=by
     unfold Hid;rw [zCb HN.out];exact DoP.yes h0 (HR.out.quiet hm3)
    clear t0 t1 hsz hpan HNU HC HC2 HFR hP1 hm1 hi h0 hm3
    go_wp2_with fail
    go_ret
    exact HFI.out
   exact hfin _ (by rw [HFR.out];kernel_rfl)
  ·refine .inr ⟨_,rfl,?_⟩
   rw [HQ1.out]
   have HFI:Hid (DoP ss mb m w y (zCd s x1 fun v=>((zCe s v).1,(zCe s v).2,x0)) (zCv (zCe s v).2) w3):=by
    unfold Hid;rw [zCb HN.out];exact DoP.no h0 (HR.out.quiet hm3)
   exact ⟨by rw [HFR.out];rfl,HFI.out⟩
theorem yBx{ss mb m n c g A:Nat}{y:HLay}{s:zAa}{w:World}(x0 x1:ByteArray)(h:SesP w ss mb n c g y s)(hi:SesI m c s)(hm:m<=900)(hx:x1.size<=1000000)(hA:y.own A=.no)(hAs:A≠ss)
  (k0:w.cell? ⟨A,0,none⟩=some (.string x0)) (k1:w.cell? ⟨A,1,none⟩=some (.string x1)) :
  Calls Tryz.prog 17 #[.pointer (some ⟨ss,0,none⟩),.slice (some ⟨A,0,none⟩) 2 2] w (DoP ss mb m w y (zCd s x1 fun v=>((zEl s v).1,(zEl s v).2,x0))):=by
 have HNU:Hid (∀ wq,Mod zAb w wq->Calls Tryz.prog 44 #[.string x1] wq (NumP x1 wq)):=fun wq hq=>zDc x1 hx wq (h.vd.quiet hq)
 have c0:=h.blk.cell 0 rfl
 have HC:Hid (w.drew.cell? ⟨ss,0,none⟩=some (.pointer (some ⟨g,0,none⟩))/\w.drew.cell? ⟨A,1,none⟩=some (.string x1)):=⟨c0,k1⟩
 have HP:=Hmq h
 have HI:=Hmq hi
 have HK0:=Hmq k0
 clear c0 k1 k0 h
 go_enter Tryz.func17,Tryz.ntmps17
 go_upto_region 1 with fail
 refine zEr fun fr hfr=>?_
 refine zDk fun Q1 hQ1=>?_
 have hpan:∀ (d:Nat) (v:Value) (c:List PanicEntry) (a:Act) (w:World),Q1 (.panic c) (a.put (some d) v) w->Q1 (.panic c) a w:=fun d v c a w h=>by rw [hQ1] at h ⊢;exact h
 have HQ1:=Hmq hQ1
 clear hQ1
 have hsz:fr.tmps.size=18:=by rw [hfr];rfl
 obtain ⟨_,t0⟩:∃ h:0<fr.tmps.size,fr.tmps[0]=.pointer (some ⟨ss,0,none⟩):=Array.getElem?_eq_some_iff.1 (by rw [hfr];rfl)
 obtain ⟨_,t1⟩:∃ h:1<fr.tmps.size,fr.tmps[1]=.slice (some ⟨A,0,none⟩) 2 2:=Array.getElem?_eq_some_iff.1 (by rw [hfr];rfl)
 have HFR:=Hmq hfr
 clear hfr
 refine zBo 99 (fun wq=>wq.cell? ⟨ss,0,none⟩=some (.pointer (some ⟨g,0,none⟩))/\wq.cell? ⟨A,1,none⟩=some (.string x1)) rfl ?_
 refine zAc 99 0 5 (.pointer (some ⟨ss,0,none⟩)) rfl rfl (by kernel_rfl) (by kernel_rfl) (by kernel_rfl) (by kernel_rfl) (fun c a w h=>hpan _ _ c a w h) HC.out ⟨by rfl,fun wq hq=>by obtain ⟨q0,q1⟩:=hq;go_simp⟩ ?_
 refine zAc 99 1 6 (.pointer (some ⟨ss,0,none⟩)) rfl rfl (by kernel_rfl) (by kernel_rfl) (by kernel_rfl) (by kernel_rfl) (fun c a w h=>hpan _ _ c a w h) HC.out ⟨by rfl,fun wq hq=>by obtain ⟨q0,q1⟩:=hq;go_simp⟩ ?_
 refine zAc 99 2 7 (.pointer (some ⟨ss,0,none⟩)) rfl rfl (by kernel_rfl) (by kernel_rfl) (by kernel_rfl) (by kernel_rfl) (fun c a w h=>hpan _ _ c a w h) HC.out ⟨by rfl,fun wq hq=>by obtain ⟨q0,q1⟩:=hq;go_simp⟩ ?_
 refine zAc 99 3 8 (.pointer (some ⟨g,0,none⟩)) rfl rfl (by kernel_rfl) (by kernel_rfl) (by kernel_rfl) (by kernel_rfl) (fun c a w h=>hpan _ _ c a w h) HC.out ⟨by rfl,fun wq hq=>by obtain ⟨q0,q1⟩:=hq;go_simp⟩ ?_
 refine zAc 99 4 9 (.slice (some ⟨A,0,none⟩) 2 2) rfl rfl (by kernel_rfl) (by kernel_rfl) (by kernel_rfl) (by kernel_rfl) (fun c a w h=>hpan _ _ c a w h) HC.out ⟨by rfl,fun wq hq=>by obtain ⟨q0,q1⟩:=hq;go_simp⟩ ?_
 refine zAc 99 5 10 (.pointer (some ⟨A,1,none⟩)) rfl rfl (by kernel_rfl) (by kernel_rfl) (by kernel_rfl) (by kernel_rfl) (fun c a w h=>hpan _ _ c a w h) HC.out ⟨by rfl,fun wq hq=>by obtain ⟨q0,q1⟩:=hq;go_simp⟩ ?_
 refine zAc 99 6 11 (.string x1) rfl rfl (by kernel_rfl) (by kernel_rfl) (by kernel_rfl) (by kernel_rfl) (fun c a w h=>hpan _ _ c a w h) HC.out ⟨by rfl,fun wq hq=>by obtain ⟨q0,q1⟩:=hq;go_simp⟩ ?_
 refine zAr 99 7 12 rfl rfl (by kernel_rfl) (by rfl) (f:=44) (args:=#[.string x1]) (by go_simp) ((HNU.out _ ((Mod.refl _ _).drew)).mono ?_)
 intro e w1 hN
 cases hn:numD x1 with
 | none=>
  rw [NumP.no hn] at hN
  obtain ⟨rfl,hm1⟩:=hN
  have HM1:Mod zAb w w1:=((Mod.refl _ w).drew).trans hm1
  refine .inr ⟨_,rfl,?_⟩
  rw [HQ1.out]
  have HFI:Hid (DoP ss mb m w y (zCd s x1 fun v=>((zEl s v).1,(zEl s v).2,x0)) (zCv 3) w1):=by
   unfold Hid;rw [zFy hn];exact DoP.no (by decide) (HP.out.still HI.out HM1)
  exact ⟨by rw [HFR.out];rfl,HFI.out⟩
 | some v=>
  rw [NumP.yes hn] at hN
  obtain ⟨rfl,hm1⟩:=hN
  have HN:=Hmq hn
  clear hn
  have HM1:Mod zAb w w1:=((Mod.refl _ w).drew).trans hm1
  have hP1:=HP.out.quiet HM1
  refine .inl ⟨_,rfl,⟨HM1.cell HC.out.1 id,HM1.cell HC.out.2 id⟩,?_⟩
  refine zAr 99 8 13 rfl rfl (by kernel_rfl) (by rfl) (f:=45) (args:=#[.pointer (some ⟨g,0,none⟩),.int .i64 v]) (by go_simp) ((yBe n c g y s v w1 hP1.house hi.rest (by have:=hi.c;omega) (by have:=hi.small hm;omega)).mono ?_)
  rintro e w2 ⟨rfl,y2,hH2,hK2⟩
  have HR:Hid (SesR ss mb m w y (zEl s v).1 w2):=HP.out.acted (HI.out.act (zCz.deliv hi.rest v) (hi.sh.deliv v) (by omega)) HM1 hH2 hK2.st (Mod.refl _ _)
  have c2:w2.cell? ⟨ss,0,none⟩=some (.pointer (some ⟨g,0,none⟩)):=(hK2.st.blk hP1.blk HP.out.nos).cell 0 rfl
  have HC2:Hid (w2.cell? ⟨ss,0,none⟩=some (.pointer (some ⟨g,0,none⟩))/\w2.cell? ⟨A,1,none⟩=some (.string x1)):=⟨c2,HR.out.cell hA hAs HC.out.2⟩
  clear c2 hH2 hK2
  refine .inl ⟨_,rfl,HC2.out,?_⟩
  refine zAr 99 9 14 rfl rfl (by kernel_rfl) (by rfl) (f:=41) (args:=#[errQ (zEl s v).2]) (by go_simp) ((zFg HR.out.et).mono ?_)
  rintro e w3 ⟨he,hm3⟩
  rcases he with ⟨h0,rfl⟩ | ⟨h0,rfl⟩
  ·refine .inl ⟨_,rfl,⟨hm3.cell HC2.out.1 id,hm3.cell HC2.out.2 id⟩,?_⟩
   refine ⟨by kernel_rfl,?_⟩
   have hfin:∀ B:Act,B=⟨#[.pointer (some ⟨ss,0,none⟩),.slice (some ⟨A,0,none⟩) 2 2,undef,undef,.string ⟨#[]⟩,.pointer (some ⟨ss,0,none⟩),.pointer (some ⟨ss,0,none⟩),.pointer (some ⟨ss,0,none⟩),.pointer (some ⟨g,0,none⟩),.slice (some ⟨A,0,none⟩) 2 2,.pointer (some ⟨A,1,none⟩),.string x1,.int .i64 v,errQ (zEl s v).2,.tuple #[],undef,undef,undef],[]⟩->Q1 .normal B w3:=fun B hB=>by
    subst hB
    have hQ1:=HQ1.out
    subst hQ1
    have k0:w3.cell? ⟨A,0,none⟩=some (.string x0):=hm3.cell (HR.out.cell hA hAs HK0.out) id
    have HFI:Hid (DoP ss mb m w y (zCd s x1 fun v=>((zEl s v).1,(zEl s v).2,x0)) (.returned (.string x0)) w3):=by
     unfold Hid;rw [zCb HN.out];exact DoP.yes h0 (HR.out.quiet hm3)
    clear t0 t1 hsz hpan HNU HC HC2 HFR hP1 hm1 hi h0 hm3
    go_wp2_with fail
    go_ret
    exact HFI.out
   exact hfin _ (by rw [HFR.out];kernel_rfl)
  ·refine .inr ⟨_,rfl,?_⟩
   rw [HQ1.out]
   have HFI:Hid (DoP ss mb m w y (zCd s x1 fun v=>((zEl s v).1,(zEl s v).2,x0)) (zCv (zEl s v).2) w3):=by
    unfold Hid;rw [zCb HN.out];exact DoP.no h0 (HR.out.quiet hm3)
   exact ⟨by rw [HFR.out];rfl,HFI.out⟩
end Go.Proofs.YtogaigioeohjaaaGreatDoor
