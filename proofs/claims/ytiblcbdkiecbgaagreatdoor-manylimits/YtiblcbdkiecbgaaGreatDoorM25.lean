import Derived.Test.YtiblcbdkiecbgaaGreatDoorM24
set_option linter.unusedVariables false
set_option maxRecDepth 100000
set_option maxHeartbeats 16000000
namespace Go.Proofs.YtiblcbdkiecbgaaGreatDoor
open Go.RowKit Go.Lib Go.Maps
set_option maxHeartbeats 16000000
def NewP(w:World)(ss mb a b:Nat)(x0:ByteArray)(e:Ending)(w':World):Prop:=e=.returned (.string x0)/\(∃ g y,SesP w' ss mb 7 0 g y (newH a b)/\∀ k,k<w.heap.size->y.own k=.no)/\Mod (oneBlock ss) w w'
theorem drenew_num{ss mb A:Nat}{w:World}(x0 x1 x2:ByteArray)(h:BareP w ss mb)(hx1:x1.size<=1000000)(hx2:x2.size<=1000000)(hAs:A≠ss){v u:Nat}(o1:1<=v/\v<=4)(o2:1<=u/\u<=4)
  (a1:Lib.atoiAll x1.data.toList=.ok v) (a2:Lib.atoiAll x2.data.toList=.ok u) (b1:strB (Lib.itoa v)=x1) (b2:strB (Lib.itoa u)=x2)
  (k0:w.cell? ⟨A,0,none⟩=some (.string x0)) (k1:w.cell? ⟨A,1,none⟩=some (.string x1)) (k2:w.cell? ⟨A,2,none⟩=some (.string x2)) :
  Calls Tryz.prog 53 #[.pointer (some ⟨ss,0,none⟩),.slice (some ⟨A,0,none⟩) 3 3] w (NewP w ss mb v u x0):=by
 have HNU:Hid (∀ wq,Mod noBlock w wq->Calls Tryz.prog 81 #[.string x1] wq fun e w'=>e=.returned (.int .i64 v)/\Mod noBlock wq w'):=fun wq hq=>number_num x1 hx1 a1 b1 wq (h.vd.quiet hq)
 have HNV:Hid (∀ wq,Mod noBlock w wq->Calls Tryz.prog 81 #[.string x2] wq fun e w'=>e=.returned (.int .i64 u)/\Mod noBlock wq w'):=fun wq hq=>number_num x2 hx2 a2 b2 wq (h.vd.quiet hq)
 have HC:Hid (w.drew.cell? ⟨A,1,none⟩=some (.string x1)/\w.drew.cell? ⟨A,2,none⟩=some (.string x2)):=⟨k1,k2⟩
 have HP:=Hmq h
 have HK0:=Hmq k0
 clear k0 k1 k2 h a1 a2 b1 b2
 go_enter Tryz.func53,Tryz.ntmps53
 go_upto_region 1 with fail
 refine wp_with fun fr hfr=>?_
 refine wp_withQ fun Q1 hQ1=>?_
 have hpan:∀ (d:Nat) (v:Value) (c:List PanicEntry) (a:Act) (w:World),Q1 (.panic c) (a.put (some d) v) w->Q1 (.panic c) a w:=fun d v c a w h=>by rw [hQ1] at h ⊢;exact h
 have HQ1:=Hmq hQ1
 clear hQ1
 have hsz:fr.tmps.size=28:=by rw [hfr];rfl
 obtain ⟨_,t1⟩:∃ h:1<fr.tmps.size,fr.tmps[1]=.slice (some ⟨A,0,none⟩) 3 3:=Array.getElem?_eq_some_iff.1 (by rw [hfr];rfl)
 have HFR:=Hmq hfr
 clear hfr
 refine wp_region_C 99 (fun wq=>wq.cell? ⟨A,1,none⟩=some (.string x1)/\wq.cell? ⟨A,2,none⟩=some (.string x2)) rfl ?_
 refine wpAnyC_takeD 99 0 8 (.slice (some ⟨A,0,none⟩) 3 3) rfl rfl (by kernel_rfl) (by kernel_rfl) (by kernel_rfl) (by kernel_rfl) (fun c a w h=>hpan _ _ c a w h) HC.out ⟨by rfl,fun wq hq=>by obtain ⟨q0,q1⟩:=hq;go_simp⟩ ?_
 refine wpAnyC_takeD 99 1 9 (.pointer (some ⟨A,1,none⟩)) rfl rfl (by kernel_rfl) (by kernel_rfl) (by kernel_rfl) (by kernel_rfl) (fun c a w h=>hpan _ _ c a w h) HC.out ⟨by rfl,fun wq hq=>by obtain ⟨q0,q1⟩:=hq;go_simp⟩ ?_
 refine wpAnyC_takeD 99 2 10 (.string x1) rfl rfl (by kernel_rfl) (by kernel_rfl) (by kernel_rfl) (by kernel_rfl) (fun c a w h=>hpan _ _ c a w h) HC.out ⟨by rfl,fun wq hq=>by obtain ⟨q0,q1⟩:=hq;go_simp⟩ ?_
 refine wpAnyC_takeD 99 4 12 (.slice (some ⟨A,0,none⟩) 3 3) rfl rfl (by kernel_rfl) (by kernel_rfl) (by kernel_rfl) (by kernel_rfl) (fun c a w h=>hpan _ _ c a w h) HC.out ⟨by rfl,fun wq hq=>by obtain ⟨q0,q1⟩:=hq;go_simp⟩ ?_
 refine wpAnyC_takeD 99 5 13 (.pointer (some ⟨A,2,none⟩)) rfl rfl (by kernel_rfl) (by kernel_rfl) (by kernel_rfl) (by kernel_rfl) (fun c a w h=>hpan _ _ c a w h) HC.out ⟨by rfl,fun wq hq=>by obtain ⟨q0,q1⟩:=hq;go_simp⟩ ?_
 refine wpAnyC_takeD 99 6 14 (.string x2) rfl rfl (by kernel_rfl) (by kernel_rfl) (by kernel_rfl) (by kernel_rfl) (fun c a w h=>hpan _ _ c a w h) HC.out ⟨by rfl,fun wq hq=>by obtain ⟨q0,q1⟩:=hq;go_simp⟩ ?_
 refine wpAnyC_callP 99 3 11 rfl rfl (by kernel_rfl) (by rfl) (f:=81) (args:=#[.string x1]) (by go_simp) ((HNU.out _ ((Mod.refl _ _).drew)).mono ?_)
 rintro e w1 ⟨rfl,hm1⟩
 have HM1:Mod noBlock w w1:=((Mod.refl _ w).drew).trans hm1
 have HC1:Hid (w1.cell? ⟨A,1,none⟩=some (.string x1)/\w1.cell? ⟨A,2,none⟩=some (.string x2)):=⟨HM1.cell HC.out.1 id,HM1.cell HC.out.2 id⟩
 refine .inl ⟨_,rfl,HC1.out,?_⟩
 refine wpAnyC_callP 99 7 15 rfl rfl (by kernel_rfl) (by rfl) (f:=81) (args:=#[.string x2]) (by go_simp) ((HNV.out _ HM1).mono ?_)
 rintro e w2 ⟨rfl,hm2⟩
 have HM2:Mod noBlock w w2:=HM1.trans hm2
 have HC2:Hid (w2.cell? ⟨A,1,none⟩=some (.string x1)/\w2.cell? ⟨A,2,none⟩=some (.string x2)):=⟨HM2.cell HC.out.1 id,HM2.cell HC.out.2 id⟩
 refine .inl ⟨_,rfl,HC2.out,?_⟩
 have h7:=HP.out.vd.sz
 have hNW:=new_any 7 0 v u w2 o1 o2 (Nat.le_trans h7 HM2.size)
 refine wpAnyC_callD 99 8 16 rfl rfl (by kernel_rfl) (by rfl) (f:=92) (args:=#[.int .i64 v,.int .i64 u]) (by go_simp) (hNW.mono ?_)
 rintro e w3 ⟨g,y,rfl,hH3,hg3,hm3,hno⟩
 have HM3:Mod noBlock w w3:=HM2.trans hm3
 have HC3:Hid (w3.cell? ⟨A,1,none⟩=some (.string x1)/\w3.cell? ⟨A,2,none⟩=some (.string x2)):=⟨HM3.cell HC.out.1 id,HM3.cell HC.out.2 id⟩
 refine ⟨_,rfl,HC3.out,?_⟩
 refine wpAnyC_takeD 99 9 7 (.tuple #[.pointer (some ⟨g,0,none⟩),.nilIface]) rfl rfl (by kernel_rfl) (by kernel_rfl) (by kernel_rfl) (by kernel_rfl) (fun c a w h=>hpan _ _ c a w h) HC3.out ⟨by rfl,fun wq hq=>by obtain ⟨q0,q1⟩:=hq;go_simp⟩ ?_
 refine wpAnyC_takeD 99 10 17 (.pointer (some ⟨g,0,none⟩)) rfl rfl (by kernel_rfl) (by kernel_rfl) (by kernel_rfl) (by kernel_rfl) (fun c a w h=>hpan _ _ c a w h) HC3.out ⟨by rfl,fun wq hq=>by obtain ⟨q0,q1⟩:=hq;go_simp⟩ ?_
 refine wpAnyC_takeD 99 11 18 (.nilIface) rfl rfl (by kernel_rfl) (by kernel_rfl) (by kernel_rfl) (by kernel_rfl) (fun c a w h=>hpan _ _ c a w h) HC3.out ⟨by rfl,fun wq hq=>by obtain ⟨q0,q1⟩:=hq;go_simp⟩ ?_
 refine wpAnyC_takeD 99 12 5 (.pointer (some ⟨g,0,none⟩)) rfl rfl (by kernel_rfl) (by kernel_rfl) (by kernel_rfl) (by kernel_rfl) (fun c a w h=>hpan _ _ c a w h) HC3.out ⟨by rfl,fun wq hq=>by obtain ⟨q0,q1⟩:=hq;go_simp⟩ ?_
 refine wpAnyC_takeD 99 13 6 (.nilIface) rfl rfl (by kernel_rfl) (by kernel_rfl) (by kernel_rfl) (by kernel_rfl) (fun c a w h=>hpan _ _ c a w h) HC3.out ⟨by rfl,fun wq hq=>by obtain ⟨q0,q1⟩:=hq;go_simp⟩ ?_
 refine ⟨by kernel_rfl,?_⟩
 have hfin:∀ B:Act,B=⟨#[.pointer (some ⟨ss,0,none⟩),.slice (some ⟨A,0,none⟩) 3 3,undef,undef,.string ⟨#[]⟩,.pointer (some ⟨g,0,none⟩),.nilIface,.tuple #[.pointer (some ⟨g,0,none⟩),.nilIface],.slice (some ⟨A,0,none⟩) 3 3,.pointer (some ⟨A,1,none⟩),.string x1,.int .i64 v,.slice (some ⟨A,0,none⟩) 3 3,.pointer (some ⟨A,2,none⟩),.string x2,.int .i64 u,.tuple #[.pointer (some ⟨g,0,none⟩),.nilIface],.pointer (some ⟨g,0,none⟩),.nilIface,undef,undef,undef,undef,undef,undef,undef,undef,undef],[]⟩->Q1 .normal B w3:=fun B hB=>by
  subst hB
  have hQ1:=HQ1.out
  subst hQ1
  obtain ⟨hv,hb⟩:=HP.out.blk
  have HFI:Hid (NewP w ss mb v u x0 (.returned (.string x0)) (w3.setCell ⟨ss,0,none⟩ (.pointer (some ⟨g,0,none⟩)))):=by
   refine ⟨rfl,⟨g,y,(HP.out.quiet HM3).store (w1:=w) hH3 (fun k hk=>hno k (Nat.lt_of_lt_of_le hk HM2.size)) ⟨hb.lt,World.ownsMap.lt HP.out.map⟩,fun k hk=>hno k (Nat.lt_of_lt_of_le hk HM2.size)⟩,?_⟩
   exact (HM3.mono (fun _ _ e=>e.elim)).trans (Mod.setBlk ss 0 _)
  have hb4:=hb.mod HM3 id
  have z1:=hb4.cell 0 rfl
  have z2:=hb4.frozen 0
  have z3:(w3.setCell ⟨ss,0,none⟩ (.pointer (some ⟨g,0,none⟩))).cell? ⟨A,0,none⟩=some (.string x0):=(Mod.setBlk ss 0 _).cell (HM3.cell HK0.out id) (fun e=>hAs e)
  clear t1 hsz hpan HNU HNV HC HC1 HC2 HC3 HFR hm1 hm2 HP HM1 hb hb4 hH3 hno hNW HK0 o1 o2
  go_wp2_with (first
   | (go_at_call 78;refine (must_ok _).mono ?_;rintro e w4 ⟨rfl,rfl⟩)
   | fail)
  go_ret
  exact HFI.out
 exact hfin _ (by rw [HFR.out];kernel_rfl)
theorem dbegin_num{ss mb n c g A:Nat}{y:HLay}{s:HouseS}{w:World}(h:SesP w ss mb n c g y s)(hll:2<=s.lines.length/\s.lines.length<=5)(hT:s.txs.length<60) :
  Calls Tryz.prog 42 #[.pointer (some ⟨ss,0,none⟩),.slice (some ⟨A,0,none⟩) 1 1] w fun e w'=>e=.returned (.string (strB (Lib.itoa (s.txs.length+1))))/\∃ y',SesP w' ss mb n c g y' (beginH s)/\Mod (ses ss y) w w'/\∀ k,k<w.heap.size->y.own k=.no->y'.own k=.no:=by
 have c0:=h.blk.cell 0 rfl
 have HB:=Hmq (begin_any n c g y s w h.house hll hT)
 have hni:int64 ((s.txs.length:Int)+1):=by unfold int64;omega
 have HP:=Hmq h
 clear h
 go_enter Tryz.func42,Tryz.ntmps42
 go_wp2_with (first
  | (go_at_call 77;refine HB.out.mono ?_;rintro e w1 ⟨rfl,y1,hH1,hK1⟩;(have HR:=Hmq (HP.out.call hH1 hK1));(have HS:=Hmq hK1);clear hH1 hK1)
  | (go_at_call 78;refine (must_ok _).mono ?_;rintro e w2 ⟨rfl,rfl⟩)
  | (go_at_call 40;refine (itoa_any _ hni _ HR.out.vd).mono ?_;rintro e w3 ⟨rfl,hm3⟩)
  | fail)
 go_ret
 exact ⟨rfl,y1,HR.out.quiet hm3,(HS.out.md.mono (fun k _ e=>.inr e)).trans' hm3 (fun _ _ e=>e.elim),fun k hk e=>(HS.out.old k hk).trans e⟩
end Go.Proofs.YtiblcbdkiecbgaaGreatDoor
