import Derived.Test.YtogaigioeohjaaaGreatDoorD43
import Derived.Shelf.SlGeneric
import Derived.Shelf.SlIter.Nil
import Derived.Shelf.SortM.Plain
import Derived.Shelf.SortM.SortNone
import Derived.Ground.GgzProg
import Derived.Ground.SlgmProg
import Derived.Test.YtogaigioeohjaaaGreatDoorProg
import Derived.Test.YtogaigioeohjaaaGreatDoorD44
import Derived.Test.YtogaigioeohjaaaGreatDoorD45
import Derived.Defers
import Derived.Recover
set_option linter.unusedVariables false
set_option maxRecDepth 100000
set_option maxHeartbeats 16000000
namespace Go.Proofs.YtogaigioeohjaaaGreatDoor
open Go.RowKit Go.Lib Go.Maps
set_option maxHeartbeats 16000000
theorem zAe.beside{w w':World}{n c g:Nat}{y:HLay}{s:zAa}{G:Nat->Prop}(h:zAe w n c g y s)(hm:Mod G w w')(hq:Qm w (y.lo n) G)(hG:∀ k,k<w.heap.size->G k->y.own k=.no):zAe w' n c g y s:=by
 have hN:∀ k,y.own k≠.no->¬ G k:=fun k hk e=>hk (hG k (h.own.lt k hk).2 e)
 refine ⟨h.blk.mod hm (hN _ (by rw [h.own.main];simp)),h.net.mod hm hq (fun k hk=>hN _ (by rw [h.own.net k hk];simp)),h.dead.mod hm (fun k hk=>hN _ (by cases hk;rw [h.own.dead];simp)),h.tab.mod hm (fun k hk=>hN _ (by rw [h.own.tab k hk];simp)),h.qn,
  zAn h.lrow hm (fun k _ _ e=>hN _ (by rw [h.own.lrow k e];simp)),h.llen,fun k b l hb hl=>?_,zAn h.trow hm (fun k _ _ e=>hN _ (by rw [h.own.trow k e];simp)),h.tlen,fun i b t hb ht=>?_,
  { h.own with lt:=fun k hk=>⟨(h.own.lt k hk).1,Nat.lt_of_lt_of_le (h.own.lt k hk).2 hm.size⟩ }⟩
 ·have hbm:=List.mem_of_getElem? hb
  obtain ⟨o1,o2⟩:=h.own.line b hbm
  exact (h.line k b l hb hl).mod hm hq (hN _ (by rw [o1];simp)) (fun x hx=>hN _ (by rw [o2 x hx];simp)) (fun d hd x hx=>hN _ (by rw [h.own.node b hbm d hd x hx];simp))
 ·obtain ⟨o1,o2⟩:=h.own.tx b (List.mem_of_getElem? hb)
  exact (h.tx i b t hb ht).mod hm (hN _ (by rw [o1];simp)) (fun x hx=>hN _ (by rw [o2 x hx];simp))
theorem yPv{w:World}{L:Lo}{k:Nat}{cur:Array Value}{t:TypeId}{fr:Nat × Nat}(hk:w.heap[k]?=some (.cells cur t fr))(ht:t≠65)(hn:L.n<=k):¬ St w L k:=by
 rintro (h | ⟨⟨cur',fr',h⟩,_⟩)
 ·omega
 ·rw [hk] at h;simp at h;exact ht h.2.1
theorem new_no(a b:Int)(w:World)(h:zXw a b=false):Calls Tryz.prog 55 #[.int .i64 a,.int .i64 b] w fun e w'=>e=.returned (.tuple #[.pointer none,errQ 2])/\w'=w:=by
 rw [zBa (by decide)]
 unfold zXw at h
 by_cases h1:a<1
 ·have b1:decide (a<1)=true:=decide_eq_true h1
  clear h
  go_enter Tryz.func55,Tryz.ntmps55
  go_wp2_with fail
  go_ret2
  exact ⟨rfl,rfl⟩
 have b1:decide (a<1)=false:=decide_eq_false h1
 by_cases h2:a > 4
 ·have b2:decide (a > 4)=true:=decide_eq_true h2
  clear h
  go_enter Tryz.func55,Tryz.ntmps55
  go_wp2_with fail
  go_ret2
  exact ⟨rfl,rfl⟩
 have b2:decide (a > 4)=false:=decide_eq_false h2
 by_cases h3:b<1
 ·have b3:decide (b<1)=true:=decide_eq_true h3
  clear h
  go_enter Tryz.func55,Tryz.ntmps55
  go_wp2_with fail
  go_ret2
  exact ⟨rfl,rfl⟩
 have b3:decide (b<1)=false:=decide_eq_false h3
 by_cases h4:b > 4
 ·have b4:decide (b > 4)=true:=decide_eq_true h4
  clear h
  go_enter Tryz.func55,Tryz.ntmps55
  go_wp2_with fail
  go_ret2
  exact ⟨rfl,rfl⟩
 exfalso
 simp only [Bool.and_eq_false_iff,decide_eq_false_iff_not] at h
 omega
theorem ySa{a b:Int}(h:zXw a b=true):(1<=a.toNat/\a.toNat<=4)/\(1<=b.toNat/\b.toNat<=4)/\a=(a.toNat:Int)/\b=(b.toNat:Int):=by
 unfold zXw at h
 simp only [Bool.and_eq_true,decide_eq_true_eq] at h
 omega
structure zUk(w:World)(ss mb:Nat):Prop where
 blk:∃ hv,Blk w ss [hv,.map (some mb)] 45
 map:OrdP w ss mb
 ne:ss≠mb
 lo:7<=ss/\7<=mb
 vd:VD w
theorem zUk.quiet{w w':World}{ss mb:Nat}(h:zUk w ss mb)(hm:Mod zAb w w'):zUk w' ss mb:=by
 obtain ⟨hv,hb⟩:=h.blk
 exact ⟨⟨hv,hb.mod hm id⟩,h.map.mod hm id,h.ne,h.lo,h.vd.quiet hm⟩
theorem zUk.store{w1 w:World}{ss mb g a b c:Nat}{y:HLay}(h:zUk w ss mb)(hH:zAe w 7 c g y (newH a b))(hno:∀ k,k<w1.heap.size->y.own k=.no)(hl:ss<w1.heap.size/\mb<w1.heap.size) :
  SesP (w.setCell ⟨ss,0,none⟩ (.pointer (some ⟨g,0,none⟩))) ss mb 7 c g y (newH a b):=by
 obtain ⟨hv,hb⟩:=h.blk
 have hm:Mod (zAd ss) w (w.setCell ⟨ss,0,none⟩ (.pointer (some ⟨g,0,none⟩))):=Mod.setBlk ss 0 _
 have hlo:=h.lo
 refine ⟨hb.set 0 _,h.map.mod hm (fun e=>h.ne e.symm),hH.beside hm (fun k hk e=>?_) (fun k hk e=>?_),hno _ hl.1,hno _ hl.2,rfl,h.lo,h.vd.mod hm (fun k hk e=>?_)⟩
 ·rw [e];exact yPv hb (by decide) hlo.1
 ·rw [e];exact hno _ hl.1
 ·have e':k=ss:=e
  omega
def NewP(w:World)(ss mb:Nat)(x0 x1 x2:ByteArray)(e:Ending)(w':World):Prop:=match numD x1 with
 | none=>e=zCv 3/\Mod zAb w w'
 | some a=>match numD x2 with
  | none=>e=zCv 3/\Mod zAb w w'
  | some b=>if zXw a b then e=.returned (.string x0)/\(∃ g y,SesP w' ss mb 7 0 g y (newH a.toNat b.toNat)/\∀ k,k<w.heap.size->y.own k=.no)/\Mod (zAd ss) w w' else e=zCv 2/\Mod zAb w w'
theorem zWe{ss mb A:Nat}{w:World}(x0 x1 x2:ByteArray)(h:zUk w ss mb)(hx1:x1.size<=1000000)(hx2:x2.size<=1000000)(hAs:A≠ss)
  (k0:w.cell? ⟨A,0,none⟩=some (.string x0)) (k1:w.cell? ⟨A,1,none⟩=some (.string x1)) (k2:w.cell? ⟨A,2,none⟩=some (.string x2)) :
  Calls Tryz.prog 25 #[.pointer (some ⟨ss,0,none⟩),.slice (some ⟨A,0,none⟩) 3 3] w (NewP w ss mb x0 x1 x2):=by
 have HNU:Hid (∀ wq,Mod zAb w wq->Calls Tryz.prog 44 #[.string x1] wq (NumP x1 wq)):=fun wq hq=>zDc x1 hx1 wq (h.vd.quiet hq)
 have HNV:Hid (∀ wq,Mod zAb w wq->Calls Tryz.prog 44 #[.string x2] wq (NumP x2 wq)):=fun wq hq=>zDc x2 hx2 wq (h.vd.quiet hq)
 have HC:Hid (w.drew.cell? ⟨A,1,none⟩=some (.string x1)/\w.drew.cell? ⟨A,2,none⟩=some (.string x2)):=⟨k1,k2⟩
 have HP:=Hmq h
 have HK0:=Hmq k0
 clear k0 k1 k2 h
 go_enter Tryz.func25,Tryz.ntmps25
 go_upto_region 1 with fail
 refine zEr fun fr hfr=>?_
 refine zDk fun Q1 hQ1=>?_
 have hpan:∀ (d:Nat) (v:Value) (c:List PanicEntry) (a:Act) (w:World),Q1 (.panic c) (a.put (some d) v) w->Q1 (.panic c) a w:=fun d v c a w h=>by rw [hQ1] at h ⊢;exact h
 have HQ1:=Hmq hQ1
 clear hQ1
 have hsz:fr.tmps.size=28:=by rw [hfr];rfl
 obtain ⟨_,t1⟩:∃ h:1<fr.tmps.size,fr.tmps[1]=.slice (some ⟨A,0,none⟩) 3 3:=Array.getElem?_eq_some_iff.1 (by rw [hfr];rfl)
 have HFR:=Hmq hfr
 clear hfr
 refine zBo 99 (fun wq=>wq.cell? ⟨A,1,none⟩=some (.string x1)/\wq.cell? ⟨A,2,none⟩=some (.string x2)) rfl ?_
 refine zAc 99 0 8 (.slice (some ⟨A,0,none⟩) 3 3) rfl rfl (by kernel_rfl) (by kernel_rfl) (by kernel_rfl) (by kernel_rfl) (fun c a w h=>hpan _ _ c a w h) HC.out ⟨by rfl,fun wq hq=>by obtain ⟨q0,q1⟩:=hq;go_simp⟩ ?_
 refine zAc 99 1 9 (.pointer (some ⟨A,1,none⟩)) rfl rfl (by kernel_rfl) (by kernel_rfl) (by kernel_rfl) (by kernel_rfl) (fun c a w h=>hpan _ _ c a w h) HC.out ⟨by rfl,fun wq hq=>by obtain ⟨q0,q1⟩:=hq;go_simp⟩ ?_
 refine zAc 99 2 10 (.string x1) rfl rfl (by kernel_rfl) (by kernel_rfl) (by kernel_rfl) (by kernel_rfl) (fun c a w h=>hpan _ _ c a w h) HC.out ⟨by rfl,fun wq hq=>by obtain ⟨q0,q1⟩:=hq;go_simp⟩ ?_
 refine zAc 99 4 12 (.slice (some ⟨A,0,none⟩) 3 3) rfl rfl (by kernel_rfl) (by kernel_rfl) (by kernel_rfl) (by kernel_rfl) (fun c a w h=>hpan _ _ c a w h) HC.out ⟨by rfl,fun wq hq=>by obtain ⟨q0,q1⟩:=hq;go_simp⟩ ?_
 refine zAc 99 5 13 (.pointer (some ⟨A,2,none⟩)) rfl rfl (by kernel_rfl) (by kernel_rfl) (by kernel_rfl) (by kernel_rfl) (fun c a w h=>hpan _ _ c a w h) HC.out ⟨by rfl,fun wq hq=>by obtain ⟨q0,q1⟩:=hq;go_simp⟩ ?_
 refine zAc 99 6 14 (.string x2) rfl rfl (by kernel_rfl) (by kernel_rfl) (by kernel_rfl) (by kernel_rfl) (fun c a w h=>hpan _ _ c a w h) HC.out ⟨by rfl,fun wq hq=>by obtain ⟨q0,q1⟩:=hq;go_simp⟩ ?_
 refine zAr 99 3 11 rfl rfl (by kernel_rfl) (by rfl) (f:=44) (args:=#[.string x1]) (by go_simp) ((HNU.out _ ((Mod.refl _ _).drew)).mono ?_)
 intro e w1 hN
 cases hn:numD x1 with
 | none=>
  rw [NumP.no hn] at hN
  obtain ⟨rfl,hm1⟩:=hN
  have HM1:Mod zAb w w1:=((Mod.refl _ w).drew).trans hm1
  refine .inr ⟨_,rfl,?_⟩
  rw [HQ1.out]
  have HFI:Hid (NewP w ss mb x0 x1 x2 (zCv 3) w1):=by unfold Hid NewP;rw [hn];exact ⟨rfl,HM1⟩
  exact ⟨by rw [HFR.out];rfl,HFI.out⟩
 | some v=>
  rw [NumP.yes hn] at hN
  obtain ⟨rfl,hm1⟩:=hN
  have HM1:Mod zAb w w1:=((Mod.refl _ w).drew).trans hm1
  have HC1:Hid (w1.cell? ⟨A,1,none⟩=some (.string x1)/\w1.cell? ⟨A,2,none⟩=some (.string x2)):=⟨HM1.cell HC.out.1 id,HM1.cell HC.out.2 id⟩
  refine .inl ⟨_,rfl,HC1.out,?_⟩
  refine zAr 99 7 15 rfl rfl (by kernel_rfl) (by rfl) (f:=44) (args:=#[.string x2]) (by go_simp) ((HNV.out _ HM1).mono ?_)
  intro e w2 hN2
  cases hn2:numD x2 with
  | none=>
   rw [NumP.no hn2] at hN2
   obtain ⟨rfl,hm2⟩:=hN2
   refine .inr ⟨_,rfl,?_⟩
   rw [HQ1.out]
   have HFI:Hid (NewP w ss mb x0 x1 x2 (zCv 3) w2):=by unfold Hid NewP;rw [hn,hn2];exact ⟨rfl,HM1.trans hm2⟩
   exact ⟨by rw [HFR.out];rfl,HFI.out⟩
  | some u=>
   rw [NumP.yes hn2] at hN2
   obtain ⟨rfl,hm2⟩:=hN2
   have HM2:Mod zAb w w2:=HM1.trans hm2
   have HC2:Hid (w2.cell? ⟨A,1,none⟩=some (.string x1)/\w2.cell? ⟨A,2,none⟩=some (.string x2)):=⟨HM2.cell HC.out.1 id,HM2.cell HC.out.2 id⟩
   have HEV:Hid (zXw v u=false->∀ w',Mod zAb w w'->NewP w ss mb x0 x1 x2 (zCv 2) w'):=fun ho w' hm'=>by unfold NewP;rw [hn,hn2];simp only;rw [if_neg (by rw [ho];simp)];exact ⟨by trivial,hm'⟩
   have HEW:Hid (zXw v u=true->∀ w' g y,SesP w' ss mb 7 0 g y (newH v.toNat u.toNat)->(∀ k,k<w.heap.size->y.own k=.no)->Mod (zAd ss) w w'->NewP w ss mb x0 x1 x2 (.returned (.string x0)) w'):=fun ho w' g y h1 h2 h3=>by unfold NewP;rw [hn,hn2];simp only;rw [if_pos ho];exact ⟨by trivial,⟨g,y,h1,h2⟩,h3⟩
   clear hn hn2
   refine .inl ⟨_,rfl,HC2.out,?_⟩
   cases ho:zXw v u with
   | false=>
    refine zEs 99 8 16 rfl rfl (by kernel_rfl) (by rfl) (f:=55) (args:=#[.int .i64 v,.int .i64 u]) (by go_simp) ((new_no v u w2 ho).mono ?_)
    rintro e w3 ⟨rfl,rfl⟩
    refine ⟨_,rfl,HC2.out,?_⟩
    refine zAc 99 9 7 (.tuple #[.pointer none,errQ 2]) rfl rfl (by kernel_rfl) (by kernel_rfl) (by kernel_rfl) (by kernel_rfl) (fun c a w h=>hpan _ _ c a w h) HC2.out ⟨by rfl,fun wq hq=>by obtain ⟨q0,q1⟩:=hq;go_simp⟩ ?_
    refine zAc 99 10 17 (.pointer none) rfl rfl (by kernel_rfl) (by kernel_rfl) (by kernel_rfl) (by kernel_rfl) (fun c a w h=>hpan _ _ c a w h) HC2.out ⟨by rfl,fun wq hq=>by obtain ⟨q0,q1⟩:=hq;go_simp⟩ ?_
    refine zAc 99 11 18 (errQ 2) rfl rfl (by kernel_rfl) (by kernel_rfl) (by kernel_rfl) (by kernel_rfl) (fun c a w h=>hpan _ _ c a w h) HC2.out ⟨by rfl,fun wq hq=>by obtain ⟨q0,q1⟩:=hq;go_simp⟩ ?_
    refine zAc 99 12 5 (.pointer none) rfl rfl (by kernel_rfl) (by kernel_rfl) (by kernel_rfl) (by kernel_rfl) (fun c a w h=>hpan _ _ c a w h) HC2.out ⟨by rfl,fun wq hq=>by obtain ⟨q0,q1⟩:=hq;go_simp⟩ ?_
    refine zAc 99 13 6 (errQ 2) rfl rfl (by kernel_rfl) (by kernel_rfl) (by kernel_rfl) (by kernel_rfl) (fun c a w h=>hpan _ _ c a w h) HC2.out ⟨by rfl,fun wq hq=>by obtain ⟨q0,q1⟩:=hq;go_simp⟩ ?_
    refine ⟨by kernel_rfl,?_⟩
    have hfin:∀ B:Act,B=⟨#[.pointer (some ⟨ss,0,none⟩),.slice (some ⟨A,0,none⟩) 3 3,undef,undef,.string ⟨#[]⟩,.pointer none,errQ 2,.tuple #[.pointer none,errQ 2],.slice (some ⟨A,0,none⟩) 3 3,.pointer (some ⟨A,1,none⟩),.string x1,.int .i64 v,.slice (some ⟨A,0,none⟩) 3 3,.pointer (some ⟨A,2,none⟩),.string x2,.int .i64 u,.tuple #[.pointer none,errQ 2],.pointer none,errQ 2,undef,undef,undef,undef,undef,undef,undef,undef,undef],[]⟩->Q1 .normal B w3:=fun B hB=>by
     subst hB
     have hQ1:=HQ1.out
     subst hQ1
     have HMU:=Hmq (zFg (er:=2) (HP.out.quiet HM2).vd.et)
     have HE:=Hmq (HEV.out ho)
     rw [zBa (by decide)] at HMU ⊢
     clear t1 hsz hpan HNU HNV HC HC1 HC2 HFR hm1 hm2 HP HM1 HEV HEW
     go_wp2_with (first
      | (go_at_call 41;refine HMU.out.mono ?_;rintro e w4 ⟨hq,hm4⟩;obtain rfl:e=.panicked [{ v:=.iface 25 (.int .i64 2),recovered:=false }]:=(hq.elim (fun q=>absurd q.1 (by decide)) (fun q=>q.2));clear hq)
      | fail)
     exact ⟨rfl,HE.out _ (HM2.trans hm4)⟩
    exact hfin _ (by rw [HFR.out];kernel_rfl)
   | true=>
    obtain ⟨o1,o2,o3,o4⟩:=ySa ho
    have h7:=HP.out.vd.sz
    have hNW:=ySx 7 0 v.toNat u.toNat w2 o1 o2 (Nat.le_trans h7 HM2.size)
    rw [<-o3,<-o4] at hNW
    clear o3 o4
    refine zEs 99 8 16 rfl rfl (by kernel_rfl) (by rfl) (f:=55) (args:=#[.int .i64 v,.int .i64 u]) (by go_simp) (hNW.mono ?_)
    rintro e w3 ⟨g,y,rfl,hH3,hg3,hm3,hno⟩
    have HM3:Mod zAb w w3:=HM2.trans hm3
    have HC3:Hid (w3.cell? ⟨A,1,none⟩=some (.string x1)/\w3.cell? ⟨A,2,none⟩=some (.string x2)):=⟨HM3.cell HC.out.1 id,HM3.cell HC.out.2 id⟩
    refine ⟨_,rfl,HC3.out,?_⟩
    refine zAc 99 9 7 (.tuple #[.pointer (some ⟨g,0,none⟩),.nilIface]) rfl rfl (by kernel_rfl) (by kernel_rfl) (by kernel_rfl) (by kernel_rfl) (fun c a w h=>hpan _ _ c a w h) HC3.out ⟨by rfl,fun wq hq=>by obtain ⟨q0,q1⟩:=hq;go_simp⟩ ?_
    refine zAc 99 10 17 (.pointer (some ⟨g,0,none⟩)) rfl rfl (by kernel_rfl) (by kernel_rfl) (by kernel_rfl) (by kernel_rfl) (fun c a w h=>hpan _ _ c a w h) HC3.out ⟨by rfl,fun wq hq=>by obtain ⟨q0,q1⟩:=hq;go_simp⟩ ?_
    refine zAc 99 11 18 (.nilIface) rfl rfl (by kernel_rfl) (by kernel_rfl) (by kernel_rfl) (by kernel_rfl) (fun c a w h=>hpan _ _ c a w h) HC3.out ⟨by rfl,fun wq hq=>by obtain ⟨q0,q1⟩:=hq;go_simp⟩ ?_
    refine zAc 99 12 5 (.pointer (some ⟨g,0,none⟩)) rfl rfl (by kernel_rfl) (by kernel_rfl) (by kernel_rfl) (by kernel_rfl) (fun c a w h=>hpan _ _ c a w h) HC3.out ⟨by rfl,fun wq hq=>by obtain ⟨q0,q1⟩:=hq;go_simp⟩ ?_
    refine zAc 99 13 6 (.nilIface) rfl rfl (by kernel_rfl) (by kernel_rfl) (by kernel_rfl) (by kernel_rfl) (fun c a w h=>hpan _ _ c a w h) HC3.out ⟨by rfl,fun wq hq=>by obtain ⟨q0,q1⟩:=hq;go_simp⟩ ?_
    refine ⟨by kernel_rfl,?_⟩
    have hfin:∀ B:Act,B=⟨#[.pointer (some ⟨ss,0,none⟩),.slice (some ⟨A,0,none⟩) 3 3,undef,undef,.string ⟨#[]⟩,.pointer (some ⟨g,0,none⟩),.nilIface,.tuple #[.pointer (some ⟨g,0,none⟩),.nilIface],.slice (some ⟨A,0,none⟩) 3 3,.pointer (some ⟨A,1,none⟩),.string x1,.int .i64 v,.slice (some ⟨A,0,none⟩) 3 3,.pointer (some ⟨A,2,none⟩),.string x2,.int .i64 u,.tuple #[.pointer (some ⟨g,0,none⟩),.nilIface],.pointer (some ⟨g,0,none⟩),.nilIface,undef,undef,undef,undef,undef,undef,undef,undef,undef],[]⟩->Q1 .normal B w3:=fun B hB=>by
     subst hB
     have hQ1:=HQ1.out
     subst hQ1
     have HMU:=Hmq (zFg (er:=0) (HP.out.quiet HM3).vd.et)
     have HE:=Hmq (HEW.out ho)
     rw [zCc] at HMU
     obtain ⟨hv,hb⟩:=HP.out.blk
     have HB:=Hmq hb
     have HFI:Hid (∀ w4,Mod zAb w3 w4->NewP w ss mb x0 x1 x2 (.returned (.string x0)) (w4.setCell ⟨ss,0,none⟩ (.pointer (some ⟨g,0,none⟩)))):=fun w4 hm4=>by
      refine HE.out _ g y (((HP.out.quiet HM3).quiet hm4).store (w1:=w) (hH3.quiet hm4) (fun k hk=>hno k (Nat.lt_of_lt_of_le hk HM2.size)) ⟨hb.lt,World.ownsMap.lt HP.out.map⟩) (fun k hk=>hno k (Nat.lt_of_lt_of_le hk HM2.size)) ?_
      exact ((HM3.trans hm4).mono (fun _ _ e=>e.elim)).trans (Mod.setBlk ss 0 _)
     have HS:Hid (∀ w4,Mod zAb w3 w4->w4.cell? ⟨ss,0,none⟩=some hv/\w4.frozen? ⟨ss,0,none⟩=false/\(w4.setCell ⟨ss,0,none⟩ (.pointer (some ⟨g,0,none⟩))).cell? ⟨A,0,none⟩=some (.string x0)):=fun w4 hm4=>by
      have hb4:=hb.mod (HM3.trans hm4) id
      refine ⟨hb4.cell 0 rfl,hb4.frozen 0,?_⟩
      exact (Mod.setBlk ss 0 _).cell ((HM3.trans hm4).cell HK0.out id) (fun e=>hAs e)
     clear t1 hsz hpan HNU HNV HC HC1 HC2 HC3 HFR hm1 hm2 HP HM1 HEV HEW HE HB hb hH3 hno hNW HK0 o1 o2
     go_wp2_with (first
      | (go_at_call 41;refine HMU.out.mono ?_;rintro e w4 ⟨hq,hm4⟩;obtain rfl:e=.returned (.tuple #[]):=(hq.elim (fun q=>q.2) (fun q=>absurd rfl q.1));clear hq;(obtain ⟨z1,z2,z3⟩:=HS.out w4 hm4))
      | fail)
     go_ret
     exact HFI.out _ hm4
    exact hfin _ (by rw [HFR.out];kernel_rfl)
theorem SesP.bare{ss mb n c g:Nat}{y:HLay}{s:zAa}{w:World}(h:SesP w ss mb n c g y s)(hne:ss≠mb):zUk w ss mb:=⟨⟨_,h.blk⟩,h.map,hne,h.lo,h.vd⟩
theorem SesI.new{m a b:Nat}(h1:1<=a/\a<=4)(h2:1<=b/\b<=4):SesI (m+1) 0 (newH a b):=by
 have hall:∀ a b:Fin 5,1<=a.val->1<=b.val->(newH a.val b.val).net.lost<=1000000/\(newH a.val b.val).dead.length=0/\(newH a.val b.val).net.down.length=0/\(newH a.val b.val).txs.length=0:=by decide +kernel
 have hc:=hall ⟨a,by omega⟩ ⟨b,by omega⟩ h1.1 h2.1
 dsimp only at hc
 exact ⟨Rest.new h1 h2,by omega,by omega,by omega,by omega,by omega,Shrt.new a b⟩
theorem yIr{ss mb m n c g A:Nat}{y:HLay}{s:zAa}{w:World}(x0 x1 x2:ByteArray)(h:SesP w ss mb n c g y s)(hi:SesI m c s)(hne:ss≠mb)(hx1:x1.size<=1000000)(hx2:x2.size<=1000000)(hAs:A≠ss)
  (k0:w.cell? ⟨A,0,none⟩=some (.string x0)) (k1:w.cell? ⟨A,1,none⟩=some (.string x1)) (k2:w.cell? ⟨A,2,none⟩=some (.string x2)) :
  Calls Tryz.prog 25 #[.pointer (some ⟨ss,0,none⟩),.slice (some ⟨A,0,none⟩) 3 3] w (DoP ss mb m w y (zCd s x1 fun v=>zCd s x2 fun u=>((newD s v u).1,(newD s v u).2,x0))):=by
 refine (zWe x0 x1 x2 (h.bare hne) hx1 hx2 hAs k0 k1 k2).mono ?_
 intro e w' hN
 unfold NewP at hN
 split at hN
 ·rename_i hn
  rw [zFy hn]
  obtain ⟨rfl,hm'⟩:=hN
  exact DoP.no (by decide) (h.still hi hm')
 ·rename_i a hn
  rw [zCb hn]
  split at hN
  ·rename_i hn2
   rw [zFy hn2]
   obtain ⟨rfl,hm'⟩:=hN
   exact DoP.no (by decide) (h.still hi hm')
  ·rename_i b hn2
   rw [zCb hn2]
   split at hN
   ·rename_i ho
    obtain ⟨rfl,⟨g',y',hP,hno⟩,hm'⟩:=hN
    have e1:newD s a b=(newH a.toNat b.toNat,0):=by unfold newD;rw [if_pos ho]
    rw [e1]
    obtain ⟨o1,o2,_,_⟩:=ySa ho
    exact DoP.yes rfl ⟨7,0,g',y',hP,SesI.new o1 o2,hm'.mono (fun k _ e=>.inl e),fun k hk _=>hno k hk⟩
   ·rename_i ho
    obtain ⟨rfl,hm'⟩:=hN
    have e1:newD s a b=(s,2):=by unfold newD;rw [if_neg ho]
    rw [e1]
    exact DoP.no (er:=2) (by decide) (h.still hi hm')
end Go.Proofs.YtogaigioeohjaaaGreatDoor
namespace Go.Proofs.YtogaigioeohjaaaGreatDoor
open Go.RowKit Go.Maps Go.Sort Go.Shelf
def Tryz.keys53_ren:Go.Shelf.Ren:=⟨fun | 7=>53 | 10=>95 | n=>n,fun | 23=>43 | 26=>9 | 3=>48 | 28=>33 | 0=>0 | 27=>32 | 33=>53 | 4=>4 | n=>n,fun | n=>n⟩
theorem Tryz.keys53:Go.Proofs.SlLaysZ.n7 Tryz.prog Tryz.keys53_ren:={
 mixed:=by kernel_rfl
 f7:=⟨Tryz.f53.name,by decide,Tryz.func53.trans (congrArg some (by kernel_rfl))⟩
 f10:=⟨Tryz.f95.name,by decide,Tryz.func95.trans (congrArg some (by kernel_rfl))⟩
 t0:=Tryz.underlying0
 a0:=Tryz.isAgg0
 z0:=Tryz.sizeOf0
 v0:=Tryz.zeroValue0
 t4:=Tryz.underlying4
 a4:=Tryz.isAgg4
 z4:=Tryz.sizeOf4
 v4:=Tryz.zeroValue4
 t23:=Tryz.underlying43
 a23:=Tryz.isAgg43
 z23:=Tryz.sizeOf43
 v23:=Tryz.zeroValue43
 t26:=Tryz.underlying9
 a26:=Tryz.isAgg9
 z26:=Tryz.sizeOf9
 v26:=Tryz.zeroValue9
 t27:=Tryz.underlying32
 a27:=Tryz.isAgg32
 z27:=Tryz.sizeOf32
 v27:=Tryz.zeroValue32
 t28:=Tryz.underlying33
 a28:=Tryz.isAgg33
 z28:=Tryz.sizeOf33
 v28:=Tryz.zeroValue33
 t33:=Tryz.underlying53
 a33:=Tryz.isAgg53
 z33:=Tryz.sizeOf53
 v33:=Tryz.zeroValue53 }
def Tryz.sorted52_ren:Go.Shelf.Ren:=⟨fun | 6=>52 | 8=>93 | 9=>94 | 11=>153 | 13=>155 | 12=>154 | 23=>217 | 24=>163 | 14=>208 | 15=>209 | 16=>210 | 17=>211 | 18=>212 | 19=>213 | 20=>214 | 21=>215 | 22=>216 | 25=>248 | 26=>249 | 27=>250 | 28=>251 | 29=>252 | 30=>253 | 31=>265 | n=>n,fun | 26=>9 | 28=>33 | 24=>50 | 0=>0 | 3=>3 | 37=>187 | 48=>192 | 50=>136 | 4=>4 | 40=>248 | 39=>247 | 45=>226 | 5=>5 | 9=>9 | 51=>292 | 55=>296 | 57=>311 | 58=>312 | 33=>53 | n=>n,fun | n=>n⟩
theorem Tryz.sorted52:Go.Proofs.SlLaysZ.n6 Tryz.prog Tryz.sorted52_ren:={
 mixed:=by kernel_rfl
 f6:=⟨Tryz.f52.name,by decide,Tryz.func52.trans (congrArg some (by kernel_rfl))⟩
 f8:=⟨Tryz.f93.name,by decide,Tryz.func93.trans (congrArg some (by kernel_rfl))⟩
 f11:=⟨Tryz.f153.name,by decide,Tryz.func153.trans (congrArg some (by kernel_rfl))⟩
 t0:=Tryz.underlying0
 a0:=Tryz.isAgg0
 z0:=Tryz.sizeOf0
 v0:=Tryz.zeroValue0
 t24:=Tryz.underlying50
 a24:=Tryz.isAgg50
 z24:=Tryz.sizeOf50
 v24:=Tryz.zeroValue50
 t26:=Tryz.underlying9
 a26:=Tryz.isAgg9
 z26:=Tryz.sizeOf9
 v26:=Tryz.zeroValue9
 t28:=Tryz.underlying33
 a28:=Tryz.isAgg33
 z28:=Tryz.sizeOf33
 v28:=Tryz.zeroValue33
 i26:=by kernel_rfl }
def Tryz.sort94_ren:Go.Shelf.Ren:=⟨fun | 6=>94 | 8=>155 | 9=>154 | 19=>217 | 20=>163 | 21=>208 | 22=>209 | 23=>210 | 24=>211 | 25=>212 | 26=>213 | 27=>214 | 28=>215 | 29=>216 | 36=>248 | 31=>249 | 32=>250 | 37=>251 | 38=>252 | 39=>253 | 41=>265 | n=>n,fun | 27=>50 | 29=>9 | 3=>3 | 32=>187 | 26=>50 | 0=>0 | 44=>192 | 46=>136 | 4=>4 | 36=>248 | 35=>247 | 41=>226 | 5=>5 | 9=>9 | 53=>292 | 57=>296 | 63=>311 | 64=>312 | n=>n,fun | n=>n⟩
theorem Tryz.sort94:Go.Proofs.SlLaysM.n6 Tryz.prog Tryz.sort94_ren:={
 mixed:=by kernel_rfl
 f6:=⟨Tryz.f94.name,by decide,Tryz.func94.trans (congrArg some (by kernel_rfl))⟩
 f8:=Tryz.func155.trans (congrArg some (by kernel_rfl))
 f9:=⟨Tryz.f154.name,by decide,Tryz.func154.trans (congrArg some (by kernel_rfl))⟩
 f19:=Tryz.func217.trans (congrArg some (by kernel_rfl))
 f20:=Tryz.func163.trans (congrArg some (by kernel_rfl))
 f21:=⟨Tryz.f208.name,by decide,Tryz.func208.trans (congrArg some (by kernel_rfl))⟩
 f22:=⟨Tryz.f209.name,by decide,Tryz.func209.trans (congrArg some (by kernel_rfl))⟩
 f23:=⟨Tryz.f210.name,by decide,Tryz.func210.trans (congrArg some (by kernel_rfl))⟩
 f24:=⟨Tryz.f211.name,by decide,Tryz.func211.trans (congrArg some (by kernel_rfl))⟩
 f25:=⟨Tryz.f212.name,by decide,Tryz.func212.trans (congrArg some (by kernel_rfl))⟩
 f26:=⟨Tryz.f213.name,by decide,Tryz.func213.trans (congrArg some (by kernel_rfl))⟩
 f27:=⟨Tryz.f214.name,by decide,Tryz.func214.trans (congrArg some (by kernel_rfl))⟩
 f28:=⟨Tryz.f215.name,by decide,Tryz.func215.trans (congrArg some (by kernel_rfl))⟩
 f29:=⟨Tryz.f216.name,by decide,Tryz.func216.trans (congrArg some (by kernel_rfl))⟩
 f31:=Tryz.func249.trans (congrArg some (by kernel_rfl))
 f32:=Tryz.func250.trans (congrArg some (by kernel_rfl))
 f36:=⟨Tryz.f248.name,by decide,Tryz.func248.trans (congrArg some (by kernel_rfl))⟩
 f37:=⟨Tryz.f251.name,by decide,Tryz.func251.trans (congrArg some (by kernel_rfl))⟩
 f38:=⟨Tryz.f252.name,by decide,Tryz.func252.trans (congrArg some (by kernel_rfl))⟩
 f39:=⟨Tryz.f253.name,by decide,Tryz.func253.trans (congrArg some (by kernel_rfl))⟩
 f41:=⟨Tryz.f265.name,by decide,Tryz.func265.trans (congrArg some (by kernel_rfl))⟩
 t0:=Tryz.underlying0
 a0:=Tryz.isAgg0
 z0:=Tryz.sizeOf0
 v0:=Tryz.zeroValue0
 t3:=Tryz.underlying3
 a3:=Tryz.isAgg3
 z3:=Tryz.sizeOf3
 v3:=Tryz.zeroValue3
 t4:=Tryz.underlying4
 a4:=Tryz.isAgg4
 z4:=Tryz.sizeOf4
 v4:=Tryz.zeroValue4
 t5:=Tryz.underlying5
 a5:=Tryz.isAgg5
 z5:=Tryz.sizeOf5
 v5:=Tryz.zeroValue5
 t9:=Tryz.underlying9
 a9:=Tryz.isAgg9
 z9:=Tryz.sizeOf9
 v9:=Tryz.zeroValue9
 t26:=Tryz.underlying50
 a26:=Tryz.isAgg50
 z26:=Tryz.sizeOf50
 v26:=Tryz.zeroValue50
 t27:=Tryz.underlying50
 a27:=Tryz.isAgg50
 z27:=Tryz.sizeOf50
 v27:=Tryz.zeroValue50
 t29:=Tryz.underlying9
 a29:=Tryz.isAgg9
 z29:=Tryz.sizeOf9
 v29:=Tryz.zeroValue9
 t32:=Tryz.underlying187
 a32:=Tryz.isAgg187
 z32:=Tryz.sizeOf187
 v32:=Tryz.zeroValue187
 t35:=Tryz.underlying247
 a35:=Tryz.isAgg247
 z35:=Tryz.sizeOf247
 v35:=Tryz.zeroValue247
 t36:=Tryz.underlying248
 a36:=Tryz.isAgg248
 z36:=Tryz.sizeOf248
 v36:=Tryz.zeroValue248
 t41:=Tryz.underlying226
 a41:=Tryz.isAgg226
 z41:=Tryz.sizeOf226
 v41:=Tryz.zeroValue226
 t44:=Tryz.underlying192
 a44:=Tryz.isAgg192
 z44:=Tryz.sizeOf192
 v44:=Tryz.zeroValue192
 t46:=Tryz.underlying136
 a46:=Tryz.isAgg136
 z46:=Tryz.sizeOf136
 v46:=Tryz.zeroValue136
 t53:=Tryz.underlying292
 a53:=Tryz.isAgg292
 z53:=Tryz.sizeOf292
 v53:=Tryz.zeroValue292
 t57:=Tryz.underlying296
 a57:=Tryz.isAgg296
 z57:=Tryz.sizeOf296
 v57:=Tryz.zeroValue296
 t63:=Tryz.underlying311
 a63:=Tryz.isAgg311
 z63:=Tryz.sizeOf311
 v63:=Tryz.zeroValue311
 t64:=Tryz.underlying312
 a64:=Tryz.isAgg312
 z64:=Tryz.sizeOf312
 v64:=Tryz.zeroValue312 }
theorem Tryz.sorts52(m:Nat):AnyZ.SortsIn Tryz.prog Tryz.sorted52_ren Fence.wide m:=
 ⟨fun blk off cap ss W hH hblk hsz=>callsIn_wide.2 (AnyM.slices_Sort_string Tryz.sort94 blk off cap ss W hH hblk hsz),
  fun p cap W=>callsIn_wide.2 (AnyM.slices_Sort_string_none Tryz.sort94 p cap W)⟩
theorem Tryz.maps_Keys_53(mb:Option Nat)(W:World):CallsIn Fence.wide 5 Tryz.prog 53 #[.map mb] W fun e w'=>e=.returned (.func (.func 95) #[] #[.pointer (some ⟨W.heap.size,0,none⟩)])/\w'=W.alloc (.cells #[.map mb] 43):=
 AnyZ.keys_in Tryz.keys53 Fence.wide 5 trivial rfl mb W
theorem Tryz.slices_Sorted_keys_52_53{H:Type}(b nn:Nat)(D0:DataW H)(R:Value->Option (DataW H × List MemPlace))(w:World)(hown:w.ownsMap Tryz.prog 9 R b nn D0)(hmax:Maps.size D0<=maxLen)(hbytes:Maps.size D0*16<=140737488355328) :
  CallsIn Fence.wide 5 Tryz.prog 52 #[.func (.func 95) #[] #[.pointer (some ⟨w.heap.size,0,none⟩)]] (w.alloc (.cells #[.map (some b)] 43)) fun e w'=>∃ (v:Value) (ss:List (List UInt8)),e=.returned v/\ss.Perm (strKeys D0) /\
   w'.ownsRow (w.alloc (.cells #[.map (some b)] 43)).heap.size 9 1 v ss.length ((ss.mergeSort (fun x y=>decide (x<=y))).map encStr)/\(v=.slice none 0 0↔ss=[])/\Below (w.alloc (.cells #[.map (some b)] 43)).heap.size (w.alloc (.cells #[.map (some b)] 43)) w':=by
 have hbl:=hown.lt
 have hseq:SeqGives Fence.wide 2 Tryz.prog 95 #[.pointer (some ⟨w.heap.size,0,none⟩)] encStr (fun ss=>ss.Perm (strKeys D0)) (Maps.size D0) (w.alloc (.cells #[.map (some b)] 43)):=
  AnyZ.keys_gives (ρ:=Tryz.keys53_ren) { Tryz.keys53 with } Fence.wide _ trivial rfl (by omega) w.heap.size b nn D0 _ (by simp) (by simp) (by
   obtain ⟨es,clock,hb,Ft,hs,hD⟩:=hown
   exact ⟨es,clock,(Below.heap_alloc _ _ b hbl).trans hb,Ft,hs,hD⟩)
 exact AnyZ.sorted_in Tryz.sorted52 Fence.wide 5 trivial trivial trivial trivial rfl (by omega) (Tryz.sorts52 _) (enters_of Tryz.func94 (by kernel_rfl) rfl) 95 #[.pointer (some ⟨w.heap.size,0,none⟩)] trivial (enters_of Tryz.func95 (by kernel_rfl) rfl) _ _ hmax hbytes _ hseq
end Go.Proofs.YtogaigioeohjaaaGreatDoor
namespace Go.Proofs.YtogaigioeohjaaaGreatDoor
open Go.RowKit Go.Lib Go.Maps
set_option maxHeartbeats 16000000
def ordW:List (List UInt8):=[[97,108,105,118,101],[98,101,103,105,110],[99,97,108,109],[100,101,108],[100,101,108,105,118,101,114],[100,114,111,112],[101,110,100],[102,97,105,108],[102,105,120],[103,101,116],[104,101,108,112],[108,111,115,101],[110,101,119],[112,117,116],[115,104,97,114,100],[115,116,97,116,101],[116,105,99,107],[116,119,105,99,101]]
theorem yAh:strKeys (ordF ordR)=ordW:=by kernel_rfl
theorem yDk:ordW.Pairwise (fun x y=>decide (x<=y)=true):=by decide +kernel
theorem yPr:ordW.length=18:=rfl
theorem zZi{ss:List (List UInt8)}(h:ss.Perm (strKeys (ordF ordR))):(ss.mergeSort (fun x y=>decide (x<=y)))=ordW:=by
 rw [yAh] at h
 refine List.Perm.eq_of_pairwise (le:=fun x y=>decide (x<=y)=true) (fun a b _ _ h1 h2=>?_) (List.pairwise_mergeSort (fun a b c h1 h2=>?_) (fun a b=>?_) ss) yDk ((List.mergeSort_perm ss _).trans h)
 ·exact List.le_antisymm (of_decide_eq_true h1) (of_decide_eq_true h2)
 ·exact decide_eq_true (List.le_trans (of_decide_eq_true h1) (of_decide_eq_true h2))
 ·rcases List.le_total a b with q | q
  ·rw [decide_eq_true q];rfl
  ·rw [decide_eq_true q,Bool.or_true]
theorem yIe:strB (Lib.join ((ordW.map strB).map (·.data.toList)) [32])=yIf:=by decide +kernel
theorem yKx{w:World}{B:Nat}{v:Value}{so:List (List UInt8)}(hp:so.Perm (strKeys (ordF ordR)))(hrow:w.ownsRow B 9 1 v so.length ((so.mergeSort (fun x y=>decide (x<=y))).map encStr)) :
  ∃ bk cap,v=.slice (some ⟨bk,0,none⟩) 18 cap/\18<=cap/\bk<w.heap.size/\∀ (j:Nat) x,(ordW.map strB)[j]?=some x->w.cell? ⟨bk,0+j,none⟩=some (.string x):=by
 have hl:so.length=18:=by rw [hp.length_eq,yAh];rfl
 rw [zZi hp,hl] at hrow
 obtain ⟨h1,h2⟩:=hrow
 rcases h2 with ⟨rfl,hn⟩ | ⟨k,cap,cur,rfl,q1,q2,q3,q4,q5,q6⟩
 ·cases hn
 ·have hc:w.ownsRow B 9 1 (.slice (some ⟨k,0,none⟩) 18 cap) 18 (ordW.map encStr):=⟨h1,.inr ⟨k,cap,cur,rfl,q1,q2,q3,q4,q5,q6⟩⟩
  have hcl:=hc.cells (g:=k) rfl
  refine ⟨k,cap,rfl,q3,(Array.getElem?_eq_some_iff.1 q2).1,fun j x hj=>?_⟩
  have e:(ordW.map encStr)[j]?=some (.string x):=by
   rw [List.getElem?_map] at hj ⊢
   cases hw:ordW[j]? with
   | none=>rw [hw] at hj;cases hj
   | some u=>rw [hw] at hj;simp at hj;subst hj;rfl
  have:=hcl _ _ e
  rw [Go.WideShapes.add_plain] at this
  exact this
theorem yIb{w:World}{bk cap:Nat}(hcap:18<=cap)(hbk:bk<w.heap.size)(hc:∀ (j:Nat) x,(ordW.map strB)[j]?=some x->w.cell? ⟨bk,0+j,none⟩=some (.string x)) :
  Calls Tryz.prog 51 #[.slice (some ⟨bk,0,none⟩) 18 cap,.string ⟨#[32]⟩] w fun e w'=>e=.returned (.string yIf)/\Mod zAb w w':=by
 have h:=Tryz.strings_Join bk 0 cap (ordW.map strB) ⟨#[32]⟩ w hc hbk (by decide) (by rw [List.length_map,yPr];exact hcap) (by decide +kernel)
 refine h.mono ?_
 rintro e w' ⟨rfl,hb⟩
 refine ⟨?_,Mod.since0 hb⟩
 rw [<-yIe]
 rfl
theorem yNg{ss mb m n c g A:Nat}{y:HLay}{s:zAa}{w:World}(h:SesP w ss mb n c g y s)(hi:SesI m c s) :
  Calls Tryz.prog 23 #[.pointer (some ⟨ss,0,none⟩),.slice (some ⟨A,0,none⟩) 1 1] w (DoP ss mb m w y (s,0,yIf)):=by
 have c1:=h.blk.cell 1 rfl
 have HK:=Hmq (callsIn_wide.1 (Tryz.maps_Keys_53 (some mb) w))
 have hsz:Maps.size (ordF ordR)=18:=by kernel_rfl
 have HS:=Hmq (callsIn_wide.1 (Tryz.slices_Sorted_keys_52_53 mb 18 (ordF ordR) (zJf ss) w h.map (by rw [hsz];decide) (by rw [hsz];decide)))
 have HP:=Hmq h
 have HI:=Hmq hi
 clear h hsz
 go_enter Tryz.func23,Tryz.ntmps23
 go_wp2_with (first
  | (go_at_call 53;refine HK.out.mono ?_;rintro e w1 ⟨rfl,rfl⟩)
  | (go_at_call 52;refine HS.out.mono ?_;rintro e w2 ⟨v,so,rfl,hpm,hrow,hnil,hb⟩;(obtain ⟨bk,cap,rfl,hcap,hbk,hcl⟩:=yKx hpm hrow);(have HJ:=Hmq (yIb hcap hbk hcl));(have hm2:Mod zAb w w2:=((Mod.refl zAb w).alloc _).trans (Mod.since0 hb));clear hpm hrow hb hnil hcl)
  | (go_at_call 51;refine HJ.out.mono ?_;rintro e w3 ⟨rfl,hm3⟩)
  | fail)
 go_ret
 exact DoP.yes rfl (HP.out.still HI.out (hm2.trans hm3))
end Go.Proofs.YtogaigioeohjaaaGreatDoor
namespace Go.Proofs.YtogaigioeohjaaaGreatDoor
open Go.RowKit Go.Lib Go.Maps
set_option maxHeartbeats 16000000
theorem len1{α:Type}{l:List α}(h:l.length=1):∃ a,l=[a]:=by
 match l,h with
 | [a],_=>exact ⟨a,rfl⟩
theorem len2{α:Type}{l:List α}(h:l.length=2):∃ a b,l=[a,b]:=by
 match l,h with
 | [a,b],_=>exact ⟨a,b,rfl⟩
theorem len3{α:Type}{l:List α}(h:l.length=3):∃ a b c,l=[a,b,c]:=by
 match l,h with
 | [a,b,c],_=>exact ⟨a,b,c,rfl⟩
theorem len4{α:Type}{l:List α}(h:l.length=4):∃ a b c d,l=[a,b,c,d]:=by
 match l,h with
 | [a,b,c,d],_=>exact ⟨a,b,c,d,rfl⟩
theorem yAg{k:ByteArray}{x:Nat × Int}(h:zPl k=some x):∃ b,(b,x)∈ordR/\b=k.data.toList:=by
 unfold zPl at h
 cases e:ordR.find? (fun x=>x.1 == k.data.toList) with
 | none=>rw [e] at h;cases h
 | some q=>
  rw [e] at h
  simp at h
  have h1:=List.mem_of_find?_eq_some e
  have h2:=List.find?_some e
  refine ⟨q.1,by rw [<-h];exact h1,by simpa using h2⟩
theorem do_any{ss mb m n c g A:Nat}{y:HLay}{s:zAa}{w:World}(ws:List ByteArray)(h:SesP w ss mb n c g y s)(hi:SesI m c s)(hm:m<=900)(hne:ss≠mb)(hA:y.own A=.no)(hAs:A≠ss)
  (hx:∀ (i:Nat) x,ws[i]?=some x->x.size<=1000000) (hc:∀ (i:Nat) x,ws[i]?=some x->w.cell? ⟨A,i,none⟩=some (.string x)) {f:Nat} {k:Int} (ho:zPl (wAt ws 0)=some (f,k)) (hl:(ws.length:Int) - 1=k) :
  Calls Tryz.prog f #[.pointer (some ⟨ss,0,none⟩),.slice (some ⟨A,0,none⟩) ws.length ws.length] w (DoP ss mb m w y (runD f s ws)):=by
 obtain ⟨b,hb,-⟩:=yAg ho
 clear ho
 simp only [ordR,List.mem_cons,Prod.mk.injEq,List.not_mem_nil,or_false] at hb
 rcases hb with ⟨-,rfl,rfl⟩ | ⟨-,rfl,rfl⟩ | ⟨-,rfl,rfl⟩ | ⟨-,rfl,rfl⟩ | ⟨-,rfl,rfl⟩ | ⟨-,rfl,rfl⟩ | ⟨-,rfl,rfl⟩ | ⟨-,rfl,rfl⟩ | ⟨-,rfl,rfl⟩ | ⟨-,rfl,rfl⟩ | ⟨-,rfl,rfl⟩ | ⟨-,rfl,rfl⟩ | ⟨-,rfl,rfl⟩ | ⟨-,rfl,rfl⟩ | ⟨-,rfl,rfl⟩ | ⟨-,rfl,rfl⟩ | ⟨-,rfl,rfl⟩ | ⟨-,rfl,rfl⟩
 ·obtain ⟨x0,x1,rfl⟩:=len2 (by omega:ws.length=2)
  exact yIo x0 x1 h hi hm (hx 1 x1 rfl) hA hAs (hc 0 x0 rfl) (hc 1 x1 rfl)
 ·obtain ⟨x0,rfl⟩:=len1 (by omega:ws.length=1)
  exact yNc x0 h hi hm hA hAs (hc 0 x0 rfl)
 ·obtain ⟨x0,x1,rfl⟩:=len2 (by omega:ws.length=2)
  exact yIp x1 h hi hm (hx 1 x1 rfl) hA hAs (hc 1 x1 rfl)
 ·obtain ⟨x0,x1,rfl⟩:=len2 (by omega:ws.length=2)
  exact yIq x1 h hi hm (hx 1 x1 rfl) hA hAs (hc 1 x1 rfl)
 ·obtain ⟨x0,x1,x2,x3,rfl⟩:=len4 (by omega:ws.length=4)
  exact yRf x0 x1 x2 x3 h hi hm (hx 1 x1 rfl) (hx 2 x2 rfl) (hx 3 x3 rfl) hA hAs (hc 0 x0 rfl) (hc 1 x1 rfl) (hc 2 x2 rfl) (hc 3 x3 rfl)
 ·obtain ⟨x0,x1,x2,rfl⟩:=len3 (by omega:ws.length=3)
  exact yIr x0 x1 x2 h hi hne (hx 1 x1 rfl) (hx 2 x2 rfl) hAs (hc 0 x0 rfl) (hc 1 x1 rfl) (hc 2 x2 rfl)
 ·obtain ⟨x0,x1,rfl⟩:=len2 (by omega:ws.length=2)
  exact yNf x0 x1 h hi hm (hx 1 x1 rfl) hA hAs (hc 0 x0 rfl) (hc 1 x1 rfl)
 ·obtain ⟨x0,rfl⟩:=len1 (by omega:ws.length=1)
  exact yNg h hi
 ·obtain ⟨x0,x1,x2,rfl⟩:=len3 (by omega:ws.length=3)
  exact yRi x1 x2 h hi hm (hx 1 x1 rfl) (hx 2 x2 rfl) hA hAs (hc 1 x1 rfl) (hc 2 x2 rfl)
 ·obtain ⟨x0,rfl⟩:=len1 (by omega:ws.length=1)
  exact yRj x0 h hi hm hA hAs (hc 0 x0 rfl)
 ·obtain ⟨x0,x1,rfl⟩:=len2 (by omega:ws.length=2)
  exact yNh x0 x1 h hi hm (hx 1 x1 rfl) hA hAs (hc 0 x0 rfl) (hc 1 x1 rfl)
 ·obtain ⟨x0,x1,rfl⟩:=len2 (by omega:ws.length=2)
  exact yRk x0 x1 h hi hm (hx 1 x1 rfl) hA hAs (hc 0 x0 rfl) (hc 1 x1 rfl)
 ·obtain ⟨x0,x1,rfl⟩:=len2 (by omega:ws.length=2)
  exact yNi x0 x1 h hi hm (hx 1 x1 rfl) hA hAs (hc 0 x0 rfl) (hc 1 x1 rfl)
 ·obtain ⟨x0,x1,rfl⟩:=len2 (by omega:ws.length=2)
  exact yBx x0 x1 h hi hm (hx 1 x1 rfl) hA hAs (hc 0 x0 rfl) (hc 1 x1 rfl)
 ·obtain ⟨x0,x1,x2,rfl⟩:=len3 (by omega:ws.length=3)
  exact yRl x0 x1 x2 h hi hm (hx 1 x1 rfl) (hx 2 x2 rfl) hA hAs (hc 0 x0 rfl) (hc 1 x1 rfl) (hc 2 x2 rfl)
 ·obtain ⟨x0,rfl⟩:=len1 (by omega:ws.length=1)
  exact yNj x0 h hi hm hA hAs (hc 0 x0 rfl)
 ·obtain ⟨x0,rfl⟩:=len1 (by omega:ws.length=1)
  exact yIw h hi hm
 ·obtain ⟨x0,rfl⟩:=len1 (by omega:ws.length=1)
  exact yIx h hi hm
theorem yHm{k:ByteArray}{f:Nat}{n:Int}(ho:zPl k=some (f,n)):∀ args w,(callFunc f args).run Tryz.prog w=.ok (.enter f args) w:=by
 obtain ⟨b,hb,-⟩:=yAg ho
 simp only [ordR,List.mem_cons,Prod.mk.injEq,List.not_mem_nil,or_false] at hb
 rcases hb with ⟨-,rfl,rfl⟩ | ⟨-,rfl,rfl⟩ | ⟨-,rfl,rfl⟩ | ⟨-,rfl,rfl⟩ | ⟨-,rfl,rfl⟩ | ⟨-,rfl,rfl⟩ | ⟨-,rfl,rfl⟩ | ⟨-,rfl,rfl⟩ | ⟨-,rfl,rfl⟩ | ⟨-,rfl,rfl⟩ | ⟨-,rfl,rfl⟩ | ⟨-,rfl,rfl⟩ | ⟨-,rfl,rfl⟩ | ⟨-,rfl,rfl⟩ | ⟨-,rfl,rfl⟩ | ⟨-,rfl,rfl⟩ | ⟨-,rfl,rfl⟩ | ⟨-,rfl,rfl⟩
 all_goals exact fun _ _=>rfl
end Go.Proofs.YtogaigioeohjaaaGreatDoor
namespace Go.Proofs.YtogaigioeohjaaaGreatDoor
open Go.RowKit Go.Lib Go.Maps
set_option maxHeartbeats 16000000
theorem zWi(p:Addr)(w:World) :
  CallsD Tryz.prog 31 #[.pointer (some p)] .returning w fun e u' w'=>e=.returned (.tuple #[])/\u'=.returning/\w'=w:=by
 refine callsD_of_wpS Tryz.func31 rfl fun c₀ cs hu=>?_
 rw [show (#[Value.pointer (some p)]++Array.replicate (Tryz.f31.ntmps - #[Value.pointer (some p)].size) undef:Array Value)=#[.pointer (some p),undef,undef,undef,undef,undef,undef,undef,undef,undef,undef,undef,undef,undef,undef,undef,undef] from rfl]
 apply wpS_seq
 apply wpS_region
 simp [wpOpsS,go_sem,recoverD,hu,Exit.thenS]
 refine wpS_of_wp ?_
 go_wp2_with fail
 cases c₀
 simp_all [bodyPostS,results,Tryz.results31]
theorem zLu(b:Nat)(old:Value)(er:Int)(he:zBc er)(older:List PanicEntry)(w:World)(hv:VD w)(hb:Blk w b [old] 9) :
  CallsD Tryz.prog 31 #[.pointer (some ⟨b,0,none⟩)] (.panicking ({ v:=.iface 25 (.int .i64 er),recovered:=false } :: older)) w fun e u' w'=>
   e=.returned (.tuple #[])/\u'=.panicking ({ v:=.iface 25 (.int .i64 er),recovered:=true } :: older)/\∃ w1,Mod zAb w w1/\w'=w1.setCell ⟨b,0,none⟩ (.string (zGy er)):=by
 have HW:=Hmq (yJv er he w hv)
 have hta:∀ w,(Instr.typeAssert (.iface 25 (.int .i64 er)) 20 25 true).run Tryz.prog w=.ok (.tuple #[.int .i64 er,.bool true]) w:=fun w=>by kernel_rfl
 refine callsD_of_wpS Tryz.func31 rfl fun c₀ cs hu=>?_
 rw [show (#[Value.pointer (some ⟨b,0,none⟩)]++Array.replicate (Tryz.f31.ntmps - #[Value.pointer (some ⟨b,0,none⟩)].size) undef:Array Value)=#[.pointer (some ⟨b,0,none⟩),undef,undef,undef,undef,undef,undef,undef,undef,undef,undef,undef,undef,undef,undef,undef,undef] from rfl]
 apply wpS_seq
 apply wpS_region
 simp [wpOpsS,go_sem,recoverD,hu,Exit.thenS]
 refine wpS_of_wp ?_
 go_wp2_with (first
  | (go_at_call 5;refine HW.out.mono ?_;rintro e w1 ⟨rfl,hm1⟩;(have z1:=(hb.mod hm1 id).cell 0 rfl);(have z2:=(hb.mod hm1 id).frozen 0))
  | fail)
 exact ⟨rfl,_,rfl,.tuple #[],(by simp [results,Tryz.results31]),rfl,rfl,w1,hm1,rfl⟩
end Go.Proofs.YtogaigioeohjaaaGreatDoor
