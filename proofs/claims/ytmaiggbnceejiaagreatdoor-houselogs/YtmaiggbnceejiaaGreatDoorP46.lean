import Derived.Test.YtmaiggbnceejiaaGreatDoorP45
set_option linter.unusedVariables false
set_option maxRecDepth 100000
set_option maxHeartbeats 16000000
namespace Go.Proofs.YtmaiggbnceejiaaGreatDoor
open Go.RowKit Go.Lib Go.Maps
section
variable {w:World} {n c m gs g:Nat} {y:HLay} {xv:Value} {vs:List Value} {s:StoS} {xb:Nat} {x:ActD}
theorem sw2sa(hp:zCd w n c m gs g y xv vs s xb x)(fr:Act)(hf:SwF fr gs xb (idS s x) (keyX x) x.what)(hw:x.what=2)(hv:¬ 9<x.value.size)(ha:(putH s.h (idS s x:Nat) ⟨keyX x,valA x,false⟩).2=0)(hi:0<idS s x):SwP w n c gs g y xv vs (armS s x) fr:=by
 intro R hN
 conv=>arg 2;whnf
 obtain ⟨f,rfl⟩:=hf.lit
 rw [hw]
 have hA:armS s x={ s with h:=(putH s.h (idS s x:Nat) ⟨keyX x,valA x,false⟩).1,txs:=zQf s.txs (idS s x) ⟨2,keyX x,valA x,false⟩ }:=by unfold armS;simp [hw,ha,hi]
 rw [hA] at hN
 have c0:=(blkS hp.sto.blk).1
 have zg:=hp.sto.blk.lt
 have HN:=Hmq hN
 have hV:valA x=x.value:=by unfold valA;rw [if_neg hv]
 have hok:okQ x.value:=by have:=hp.val;unfold okQ at this ⊢;exact this
 rw [hV] at HN ha
 have HPUT:=Hmq (hp.put (idS s x:Nat) ⟨keyX x,x.value,false⟩ (zJe x) hok)
 have x0:=hp.act.cell 0 rfl
 have x3:=hp.act.cell 3 rfl
 rw [hw] at x0
 have zx:=hp.act.lt
 have HP:=Hmq hp
 obtain ⟨key,hkey⟩:∃ z,z=keyX x:=⟨_,rfl⟩
 rw [<-hkey] at HN HPUT ha ⊢
 obtain ⟨r,hr0⟩:∃ z,z=putH s.h (idS s x:Nat) ⟨key,x.value,false⟩:=⟨_,rfl⟩
 rw [<-hr0] at HPUT HN ha
 obtain ⟨w1,hw1⟩:∃ z,z=w.alloc (.cells #[.string key,.string x.value,.bool false] 68):=⟨_,rfl⟩
 have hm1:Mod zAb w w1:=by rw [hw1];exact (Mod.refl _ w).alloc _
 have hb1:Blk w1 w.heap.size [.string key,.string x.value,.bool false] 68:=by rw [hw1];exact Blk.new w _ _
 have d0:=hm1.cell c0 id
 have y0:=hm1.cell x0 id
 have y3:=hm1.cell x3 id
 have b1:=hb1.cell 1 rfl
 have f1:=hb1.frozen 1
 have zb:=hb1.lt
 have hsz:decide ((x.value.size:Int) > 9)=false:=decide_eq_false (by omega)
 have hsz3:¬ (9:Int)<(x.value.size:Int):=by omega
 have hsz4:¬ 9<x.value.size:=hv
 obtain ⟨w2,hw2⟩:∃ z,z=w1:=⟨_,rfl⟩
 have hm2:Mod zAb w w2:=by rw [hw2];exact hm1
 have hb2:Blk w2 w.heap.size [.string key,.string x.value,.bool false] 68:=by rw [hw2];exact hb1
 obtain ⟨i,t,hid,hit⟩:=yAc hi
 obtain ⟨xb',xcap,hxv⟩:=HP.out.sto.x_slice hit
 subst hxv
 have HOP:Hid (t.ops.length<=1000):=by have:=HP.out.opl t (List.mem_of_getElem? hit);have:=HP.out.mm;unfold Hid;omega
 have HTS:Hid (s.txs.length<=100):=by have:=HP.out.ok.few;unfold Hid;omega
 rw [ha,zAz] at HPUT
 rw [hid] at HPUT HN ⊢
 rw [zPa hit] at HN
 obtain ⟨id,hidI⟩:∃ z:Int,z=((i+1:Nat):Int):=⟨_,rfl⟩
 rw [<-hidI] at HPUT ⊢
 have hb:decide (id > 0)=true:=decide_eq_true (by omega)
 have hb9:0<id:=by omega
 have HID:Hid (id=(i:Int)+1):=by unfold Hid;omega
 have HT:=Hmq hit
 have HM2:=Hmq hm2
 have HB2:=Hmq hb2
 have v0:=HM2.out.cell c0 (fun e=>e)
 have p0:=hb2.cell 0 rfl
 have p1:=hb2.cell 1 rfl
 have p2:=hb2.cell 2 rfl
 have zg2:=Nat.lt_of_lt_of_le zg hm2.size
 have zb2:=hb2.lt
 clear hN hp hf hA hkey hr0 hb2 hm2 hb1 hm1 hV hok hidI hi hid hit ha hv
 go_upto_region 19 with fail
 rw [<-hw1]
 clear hw1
 go_upto_region 21 with fail
 rw [<-hw2]
 clear hw2 c0 x0 x3 d0 y0 y3 b1 f1 zb
 refine wp_region_still_tail 6 (by kernel_rfl) (by kernel_rfl) ?_
 simp only [List.take_succ_cons,List.take_zero,List.drop_succ_cons,List.drop_zero]
 repeat still_step
 refine wpStill_nil ?_
 go_wp2_with fail
 refine (HPUT.out _ HM2.out.drew).mono ?_
 rintro e w3 ⟨rfl,y1,hs1,hst⟩
 have HS1:=Hmq hs1
 have HST:Hid (zBv w y w3 y1):=(zBv.quiet HM2.out.drew).trans hst
 have hyb:y.own w.heap.size=.no:=by
  by_cases e:y.own w.heap.size=.no
  ·exact e
  ·have:=(HP.out.sto.house.own.lt _ e).2;omega
 have HBP:Hid (Blk w3 w.heap.size [.string key,.string x.value,.bool false] 68):=hst.blk (HB2.out.mod (Mod.refl zAb _).drew (fun e=>e)) hyb
 have HBA:Hid (w3.cell? ⟨xb,0,none⟩=some (.int .i64 2)):=by have q:=(HST.out.blk HP.out.act HP.out.xn).cell 0 rfl;rw [hw] at q;exact q
 have HNA:Hid (∀ u∈vs,u.ownBlock≠some xb):=fun u hu e=>HP.out.xs (.inr (.inr ⟨u,hu,e⟩))
 have HNP:Hid (∀ u∈vs,u.ownBlock≠some w.heap.size):=fun u hu e=>by have:=(HP.out.sto.cells HP.out.lg (.inr (.inr ⟨u,hu,e⟩))).2.1;omega
 clear hs1 hst hyb HPUT v0 p0 p1 p2
 go_upto_region 22 with fail
 refine wp_mono (Q:=zEf ?R2) (yNc (R:=?R2) n (c+2) gs g xb' xcap i id key x.value t y1 vs { s with h:=r.1 } w3 HS1.out HP.out.lg HT.out HID.out HTS.out HOP.out xb w.heap.size 2 HBA.out (HBP.out.cell 1 rfl) HNA.out HNP.out _ ⟨rfl,rfl,rfl⟩ rfl rfl rfl rfl ?hN) ?hE
 case hE=>
  intro e a' wd hq
  cases e with
  | normal=>exact hq
  | ret=>exact hq.elim
  | exit id=>exact hq.elim
  | goto l=>exact hq.elim
  | panic ch=>exact hq.elim
  | outgrown=>exact hq.elim
 case hN=>
  intro fr' wd hf' hr
  exact HN.out fr' wd hf' (StoR.after HST.out hr (by omega))
theorem sw2sb(hp:zCd w n c m gs g y xv vs s xb x)(fr:Act)(hf:SwF fr gs xb (idS s x) (keyX x) x.what)(hw:x.what=2)(hv:¬ 9<x.value.size)(ha:¬ ((putH s.h (idS s x:Nat) ⟨keyX x,valA x,false⟩).2=0/\0<idS s x)):SwP w n c gs g y xv vs (armS s x) fr:=by
 intro R hN
 conv=>arg 2;whnf
 obtain ⟨f,rfl⟩:=hf.lit
 rw [hw]
 have hA:armS s x={ s with h:=(putH s.h (idS s x:Nat) ⟨keyX x,valA x,false⟩).1 }:=by unfold armS;simp [hw,ha]
 rw [hA] at hN
 have c0:=(blkS hp.sto.blk).1
 have zg:=hp.sto.blk.lt
 have HN:=Hmq hN
 have hV:valA x=x.value:=by unfold valA;rw [if_neg hv]
 have hok:okQ x.value:=by have:=hp.val;unfold okQ at this ⊢;exact this
 rw [hV] at HN ha
 have HPUT:=Hmq (hp.put (idS s x:Nat) ⟨keyX x,x.value,false⟩ (zJe x) hok)
 have x0:=hp.act.cell 0 rfl
 have x3:=hp.act.cell 3 rfl
 rw [hw] at x0
 have zx:=hp.act.lt
 have HP:=Hmq hp
 obtain ⟨key,hkey⟩:∃ z,z=keyX x:=⟨_,rfl⟩
 rw [<-hkey] at HN HPUT ha ⊢
 obtain ⟨r,hr0⟩:∃ z,z=putH s.h (idS s x:Nat) ⟨key,x.value,false⟩:=⟨_,rfl⟩
 rw [<-hr0] at HPUT HN ha
 obtain ⟨w1,hw1⟩:∃ z,z=w.alloc (.cells #[.string key,.string x.value,.bool false] 68):=⟨_,rfl⟩
 have hm1:Mod zAb w w1:=by rw [hw1];exact (Mod.refl _ w).alloc _
 have hb1:Blk w1 w.heap.size [.string key,.string x.value,.bool false] 68:=by rw [hw1];exact Blk.new w _ _
 have d0:=hm1.cell c0 id
 have y0:=hm1.cell x0 id
 have y3:=hm1.cell x3 id
 have b1:=hb1.cell 1 rfl
 have f1:=hb1.frozen 1
 have zb:=hb1.lt
 have hsz:decide ((x.value.size:Int) > 9)=false:=decide_eq_false (by omega)
 have hsz3:¬ (9:Int)<(x.value.size:Int):=by omega
 have hsz4:¬ 9<x.value.size:=hv
 obtain ⟨w2,hw2⟩:∃ z,z=w1:=⟨_,rfl⟩
 have hm2:Mod zAb w w2:=by rw [hw2];exact hm1
 have hb2:Blk w2 w.heap.size [.string key,.string x.value,.bool false] 68:=by rw [hw2];exact hb1
 obtain ⟨id,hidI⟩:∃ z:Int,z=((idS s x:Nat):Int):=⟨_,rfl⟩
 rw [<-hidI] at HPUT ⊢
 have hcase:(r.2=0/\id=0)\/r.2≠0:=by
  by_cases e:r.2=0
  ·exact .inl ⟨e,by have:¬ 0<idS s x:=fun q=>ha ⟨e,q⟩;omega⟩
  ·exact .inr e
 have HM2:=Hmq hm2
 have HB2:=Hmq hb2
 have v0:=HM2.out.cell c0 (fun e=>e)
 have p0:=hb2.cell 0 rfl
 have p1:=hb2.cell 1 rfl
 have p2:=hb2.cell 2 rfl
 have zg2:=Nat.lt_of_lt_of_le zg hm2.size
 have zb2:=hb2.lt
 clear hN hp hf hA hkey hr0 hb2 hm2 hb1 hm1 hV hok hidI  ha hv
 go_upto_region 19 with fail
 rw [<-hw1]
 clear hw1
 go_upto_region 21 with fail
 rw [<-hw2]
 clear hw2 c0 x0 x3 d0 y0 y3 b1 f1 zb
 refine wp_region_still_tail 6 (by kernel_rfl) (by kernel_rfl) ?_
 simp only [List.take_succ_cons,List.take_zero,List.drop_succ_cons,List.drop_zero]
 repeat still_step
 refine wpStill_nil ?_
 rcases hcase with ⟨e1,e2⟩ | e1
 ·rw [e1,zAz] at HPUT
  have hid0:decide (id > 0)=false:=decide_eq_false (by omega)
  have hid1:¬ 0<id:=by omega
  clear e1 e2
  go_wp2_with fail
  refine (HPUT.out _ HM2.out.drew).mono ?_
  rintro e w3 ⟨rfl,y1,hs1,hst⟩
  have HR:=Hmq (StoR.only (d:=c+2) ((zBv.quiet HM2.out.drew).trans hst) hs1 (by omega))
  clear hs1 hst HPUT v0 p0 p1 p2
  go_wp2_with fail
  show R _ _
  exact HN.out _ _ ⟨rfl,rfl,rfl⟩ HR.out
 ·rw [zBb e1] at HPUT
  clear e1
  go_wp2_with fail
  refine (HPUT.out _ HM2.out.drew).mono ?_
  rintro e w3 ⟨rfl,y1,hs1,hst⟩
  have HR:=Hmq (StoR.only (d:=c+2) ((zBv.quiet HM2.out.drew).trans hst) hs1 (by omega))
  clear hs1 hst HPUT v0 p0 p1 p2
  go_wp2_with fail
  show R _ _
  exact HN.out _ _ ⟨rfl,rfl,rfl⟩ HR.out
theorem sw2la(hp:zCd w n c m gs g y xv vs s xb x)(fr:Act)(hf:SwF fr gs xb (idS s x) (keyX x) x.what)(hw:x.what=2)(hv:9<x.value.size)(ha:(putH s.h (idS s x:Nat) ⟨keyX x,valA x,false⟩).2=0)(hi:0<idS s x):SwP w n c gs g y xv vs (armS s x) fr:=by
 intro R hN
 conv=>arg 2;whnf
 obtain ⟨f,rfl⟩:=hf.lit
 rw [hw]
 have hA:armS s x={ s with h:=(putH s.h (idS s x:Nat) ⟨keyX x,valA x,false⟩).1,txs:=zQf s.txs (idS s x) ⟨2,keyX x,valA x,false⟩ }:=by unfold armS;simp [hw,ha,hi]
 rw [hA] at hN
 have c0:=(blkS hp.sto.blk).1
 have zg:=hp.sto.blk.lt
 have HN:=Hmq hN
 have hV:valA x=(x.value.extract 0 9):=by unfold valA;rw [if_pos hv]
 have hok:okQ (x.value.extract 0 9):=by have:=hp.val;unfold okQ at this ⊢;rw [ByteArray.size_extract];omega
 rw [hV] at HN ha
 have HPUT:=Hmq (hp.put (idS s x:Nat) ⟨keyX x,(x.value.extract 0 9),false⟩ (zJe x) hok)
 have x0:=hp.act.cell 0 rfl
 have x3:=hp.act.cell 3 rfl
 rw [hw] at x0
 have zx:=hp.act.lt
 have HP:=Hmq hp
 obtain ⟨key,hkey⟩:∃ z,z=keyX x:=⟨_,rfl⟩
 rw [<-hkey] at HN HPUT ha ⊢
 obtain ⟨r,hr0⟩:∃ z,z=putH s.h (idS s x:Nat) ⟨key,(x.value.extract 0 9),false⟩:=⟨_,rfl⟩
 rw [<-hr0] at HPUT HN ha
 obtain ⟨w1,hw1⟩:∃ z,z=w.alloc (.cells #[.string key,.string x.value,.bool false] 68):=⟨_,rfl⟩
 have hm1:Mod zAb w w1:=by rw [hw1];exact (Mod.refl _ w).alloc _
 have hb1:Blk w1 w.heap.size [.string key,.string x.value,.bool false] 68:=by rw [hw1];exact Blk.new w _ _
 have d0:=hm1.cell c0 id
 have y0:=hm1.cell x0 id
 have y3:=hm1.cell x3 id
 have b1:=hb1.cell 1 rfl
 have f1:=hb1.frozen 1
 have zb:=hb1.lt
 have hsz:decide ((x.value.size:Int) > 9)=true:=decide_eq_true (by omega)
 have hsz2:9<=x.value.size:=by omega
 have hsz3:(9:Int)<=(x.value.size:Int):=by omega
 obtain ⟨w2,hw2⟩:∃ z,z=w1.setCell ⟨w.heap.size,1,none⟩ (.string (x.value.extract 0 9)):=⟨_,rfl⟩
 have hm2:Mod zAb w w2:=by rw [hw2];exact hm1.setCell (fun e=>absurd e (Nat.lt_irrefl _)) _
 have hb2:Blk w2 w.heap.size [.string key,.string (x.value.extract 0 9),.bool false] 68:=by rw [hw2];exact hb1.set 1 _
 obtain ⟨i,t,hid,hit⟩:=yAc hi
 obtain ⟨xb',xcap,hxv⟩:=HP.out.sto.x_slice hit
 subst hxv
 have HOP:Hid (t.ops.length<=1000):=by have:=HP.out.opl t (List.mem_of_getElem? hit);have:=HP.out.mm;unfold Hid;omega
 have HTS:Hid (s.txs.length<=100):=by have:=HP.out.ok.few;unfold Hid;omega
 rw [ha,zAz] at HPUT
 rw [hid] at HPUT HN ⊢
 rw [zPa hit] at HN
 obtain ⟨id,hidI⟩:∃ z:Int,z=((i+1:Nat):Int):=⟨_,rfl⟩
 rw [<-hidI] at HPUT ⊢
 have hb:decide (id > 0)=true:=decide_eq_true (by omega)
 have hb9:0<id:=by omega
 have HID:Hid (id=(i:Int)+1):=by unfold Hid;omega
 have HT:=Hmq hit
 have HM2:=Hmq hm2
 have HB2:=Hmq hb2
 have v0:=HM2.out.cell c0 (fun e=>e)
 have p0:=hb2.cell 0 rfl
 have p1:=hb2.cell 1 rfl
 have p2:=hb2.cell 2 rfl
 have zg2:=Nat.lt_of_lt_of_le zg hm2.size
 have zb2:=hb2.lt
 clear hN hp hf hA hkey hr0 hb2 hm2 hb1 hm1 hV hok hidI hi hid hit ha hv
 go_upto_region 19 with fail
 rw [<-hw1]
 clear hw1
 go_upto_region 21 with fail
 rw [<-hw2]
 clear hw2 c0 x0 x3 d0 y0 y3 b1 f1 zb
 refine wp_region_still_tail 6 (by kernel_rfl) (by kernel_rfl) ?_
 simp only [List.take_succ_cons,List.take_zero,List.drop_succ_cons,List.drop_zero]
 repeat still_step
 refine wpStill_nil ?_
 go_wp2_with fail
 refine (HPUT.out _ HM2.out.drew).mono ?_
 rintro e w3 ⟨rfl,y1,hs1,hst⟩
 have HS1:=Hmq hs1
 have HST:Hid (zBv w y w3 y1):=(zBv.quiet HM2.out.drew).trans hst
 have hyb:y.own w.heap.size=.no:=by
  by_cases e:y.own w.heap.size=.no
  ·exact e
  ·have:=(HP.out.sto.house.own.lt _ e).2;omega
 have HBP:Hid (Blk w3 w.heap.size [.string key,.string (x.value.extract 0 9),.bool false] 68):=hst.blk (HB2.out.mod (Mod.refl zAb _).drew (fun e=>e)) hyb
 have HBA:Hid (w3.cell? ⟨xb,0,none⟩=some (.int .i64 2)):=by have q:=(HST.out.blk HP.out.act HP.out.xn).cell 0 rfl;rw [hw] at q;exact q
 have HNA:Hid (∀ u∈vs,u.ownBlock≠some xb):=fun u hu e=>HP.out.xs (.inr (.inr ⟨u,hu,e⟩))
 have HNP:Hid (∀ u∈vs,u.ownBlock≠some w.heap.size):=fun u hu e=>by have:=(HP.out.sto.cells HP.out.lg (.inr (.inr ⟨u,hu,e⟩))).2.1;omega
 clear hs1 hst hyb HPUT v0 p0 p1 p2
 go_upto_region 22 with fail
 refine wp_mono (Q:=zEf ?R2) (yNc (R:=?R2) n (c+2) gs g xb' xcap i id key (x.value.extract 0 9) t y1 vs { s with h:=r.1 } w3 HS1.out HP.out.lg HT.out HID.out HTS.out HOP.out xb w.heap.size 2 HBA.out (HBP.out.cell 1 rfl) HNA.out HNP.out _ ⟨rfl,rfl,rfl⟩ rfl rfl rfl rfl ?hN) ?hE
 case hE=>
  intro e a' wd hq
  cases e with
  | normal=>exact hq
  | ret=>exact hq.elim
  | exit id=>exact hq.elim
  | goto l=>exact hq.elim
  | panic ch=>exact hq.elim
  | outgrown=>exact hq.elim
 case hN=>
  intro fr' wd hf' hr
  exact HN.out fr' wd hf' (StoR.after HST.out hr (by omega))
theorem sw2lb(hp:zCd w n c m gs g y xv vs s xb x)(fr:Act)(hf:SwF fr gs xb (idS s x) (keyX x) x.what)(hw:x.what=2)(hv:9<x.value.size)(ha:¬ ((putH s.h (idS s x:Nat) ⟨keyX x,valA x,false⟩).2=0/\0<idS s x)):SwP w n c gs g y xv vs (armS s x) fr:=by
 intro R hN
 conv=>arg 2;whnf
 obtain ⟨f,rfl⟩:=hf.lit
 rw [hw]
 have hA:armS s x={ s with h:=(putH s.h (idS s x:Nat) ⟨keyX x,valA x,false⟩).1 }:=by unfold armS;simp [hw,ha]
 rw [hA] at hN
 have c0:=(blkS hp.sto.blk).1
 have zg:=hp.sto.blk.lt
 have HN:=Hmq hN
 have hV:valA x=(x.value.extract 0 9):=by unfold valA;rw [if_pos hv]
 have hok:okQ (x.value.extract 0 9):=by have:=hp.val;unfold okQ at this ⊢;rw [ByteArray.size_extract];omega
 rw [hV] at HN ha
 have HPUT:=Hmq (hp.put (idS s x:Nat) ⟨keyX x,(x.value.extract 0 9),false⟩ (zJe x) hok)
 have x0:=hp.act.cell 0 rfl
 have x3:=hp.act.cell 3 rfl
 rw [hw] at x0
 have zx:=hp.act.lt
 have HP:=Hmq hp
 obtain ⟨key,hkey⟩:∃ z,z=keyX x:=⟨_,rfl⟩
 rw [<-hkey] at HN HPUT ha ⊢
 obtain ⟨r,hr0⟩:∃ z,z=putH s.h (idS s x:Nat) ⟨key,(x.value.extract 0 9),false⟩:=⟨_,rfl⟩
 rw [<-hr0] at HPUT HN ha
 obtain ⟨w1,hw1⟩:∃ z,z=w.alloc (.cells #[.string key,.string x.value,.bool false] 68):=⟨_,rfl⟩
 have hm1:Mod zAb w w1:=by rw [hw1];exact (Mod.refl _ w).alloc _
 have hb1:Blk w1 w.heap.size [.string key,.string x.value,.bool false] 68:=by rw [hw1];exact Blk.new w _ _
 have d0:=hm1.cell c0 id
 have y0:=hm1.cell x0 id
 have y3:=hm1.cell x3 id
 have b1:=hb1.cell 1 rfl
 have f1:=hb1.frozen 1
 have zb:=hb1.lt
 have hsz:decide ((x.value.size:Int) > 9)=true:=decide_eq_true (by omega)
 have hsz2:9<=x.value.size:=by omega
 have hsz3:(9:Int)<=(x.value.size:Int):=by omega
 obtain ⟨w2,hw2⟩:∃ z,z=w1.setCell ⟨w.heap.size,1,none⟩ (.string (x.value.extract 0 9)):=⟨_,rfl⟩
 have hm2:Mod zAb w w2:=by rw [hw2];exact hm1.setCell (fun e=>absurd e (Nat.lt_irrefl _)) _
 have hb2:Blk w2 w.heap.size [.string key,.string (x.value.extract 0 9),.bool false] 68:=by rw [hw2];exact hb1.set 1 _
 obtain ⟨id,hidI⟩:∃ z:Int,z=((idS s x:Nat):Int):=⟨_,rfl⟩
 rw [<-hidI] at HPUT ⊢
 have hcase:(r.2=0/\id=0)\/r.2≠0:=by
  by_cases e:r.2=0
  ·exact .inl ⟨e,by have:¬ 0<idS s x:=fun q=>ha ⟨e,q⟩;omega⟩
  ·exact .inr e
 have HM2:=Hmq hm2
 have HB2:=Hmq hb2
 have v0:=HM2.out.cell c0 (fun e=>e)
 have p0:=hb2.cell 0 rfl
 have p1:=hb2.cell 1 rfl
 have p2:=hb2.cell 2 rfl
 have zg2:=Nat.lt_of_lt_of_le zg hm2.size
 have zb2:=hb2.lt
 clear hN hp hf hA hkey hr0 hb2 hm2 hb1 hm1 hV hok hidI  ha hv
 go_upto_region 19 with fail
 rw [<-hw1]
 clear hw1
 go_upto_region 21 with fail
 rw [<-hw2]
 clear hw2 c0 x0 x3 d0 y0 y3 b1 f1 zb
 refine wp_region_still_tail 6 (by kernel_rfl) (by kernel_rfl) ?_
 simp only [List.take_succ_cons,List.take_zero,List.drop_succ_cons,List.drop_zero]
 repeat still_step
 refine wpStill_nil ?_
 rcases hcase with ⟨e1,e2⟩ | e1
 ·rw [e1,zAz] at HPUT
  have hid0:decide (id > 0)=false:=decide_eq_false (by omega)
  have hid1:¬ 0<id:=by omega
  clear e1 e2
  go_wp2_with fail
  refine (HPUT.out _ HM2.out.drew).mono ?_
  rintro e w3 ⟨rfl,y1,hs1,hst⟩
  have HR:=Hmq (StoR.only (d:=c+2) ((zBv.quiet HM2.out.drew).trans hst) hs1 (by omega))
  clear hs1 hst HPUT v0 p0 p1 p2
  go_wp2_with fail
  show R _ _
  exact HN.out _ _ ⟨rfl,rfl,rfl⟩ HR.out
 ·rw [zBb e1] at HPUT
  clear e1
  go_wp2_with fail
  refine (HPUT.out _ HM2.out.drew).mono ?_
  rintro e w3 ⟨rfl,y1,hs1,hst⟩
  have HR:=Hmq (StoR.only (d:=c+2) ((zBv.quiet HM2.out.drew).trans hst) hs1 (by omega))
  clear hs1 hst HPUT v0 p0 p1 p2
  go_wp2_with fail
  show R _ _
  exact HN.out _ _ ⟨rfl,rfl,rfl⟩ HR.out
theorem sw3sa(hp:zCd w n c m gs g y xv vs s xb x)(fr:Act)(hf:SwF fr gs xb (idS s x) (keyX x) x.what)(hw:x.what=3)(hv:¬ 9<x.value.size)(ha:(putH s.h (idS s x:Nat) ⟨keyX x,valA x,true⟩).2=0)(hi:0<idS s x):SwP w n c gs g y xv vs (armS s x) fr:=by
 intro R hN
 conv=>arg 2;whnf
 obtain ⟨f,rfl⟩:=hf.lit
 rw [hw]
 have hA:armS s x={ s with h:=(putH s.h (idS s x:Nat) ⟨keyX x,valA x,true⟩).1,txs:=zQf s.txs (idS s x) ⟨3,keyX x,valA x,false⟩ }:=by unfold armS;simp [hw,ha,hi]
 rw [hA] at hN
 have c0:=(blkS hp.sto.blk).1
 have zg:=hp.sto.blk.lt
 have HN:=Hmq hN
 have hV:valA x=x.value:=by unfold valA;rw [if_neg hv]
 have hok:okQ x.value:=by have:=hp.val;unfold okQ at this ⊢;exact this
 rw [hV] at HN ha
 have HPUT:=Hmq (hp.put (idS s x:Nat) ⟨keyX x,x.value,true⟩ (zJe x) hok)
 have x0:=hp.act.cell 0 rfl
 have x3:=hp.act.cell 3 rfl
 rw [hw] at x0
 have zx:=hp.act.lt
 have HP:=Hmq hp
 obtain ⟨key,hkey⟩:∃ z,z=keyX x:=⟨_,rfl⟩
 rw [<-hkey] at HN HPUT ha ⊢
 obtain ⟨r,hr0⟩:∃ z,z=putH s.h (idS s x:Nat) ⟨key,x.value,true⟩:=⟨_,rfl⟩
 rw [<-hr0] at HPUT HN ha
 obtain ⟨w1,hw1⟩:∃ z,z=w.alloc (.cells #[.string key,.string x.value,.bool true] 68):=⟨_,rfl⟩
 have hm1:Mod zAb w w1:=by rw [hw1];exact (Mod.refl _ w).alloc _
 have hb1:Blk w1 w.heap.size [.string key,.string x.value,.bool true] 68:=by rw [hw1];exact Blk.new w _ _
 have d0:=hm1.cell c0 id
 have y0:=hm1.cell x0 id
 have y3:=hm1.cell x3 id
 have b1:=hb1.cell 1 rfl
 have f1:=hb1.frozen 1
 have zb:=hb1.lt
 have hsz:decide ((x.value.size:Int) > 9)=false:=decide_eq_false (by omega)
 have hsz3:¬ (9:Int)<(x.value.size:Int):=by omega
 have hsz4:¬ 9<x.value.size:=hv
 obtain ⟨w2,hw2⟩:∃ z,z=w1:=⟨_,rfl⟩
 have hm2:Mod zAb w w2:=by rw [hw2];exact hm1
 have hb2:Blk w2 w.heap.size [.string key,.string x.value,.bool true] 68:=by rw [hw2];exact hb1
 obtain ⟨i,t,hid,hit⟩:=yAc hi
 obtain ⟨xb',xcap,hxv⟩:=HP.out.sto.x_slice hit
 subst hxv
 have HOP:Hid (t.ops.length<=1000):=by have:=HP.out.opl t (List.mem_of_getElem? hit);have:=HP.out.mm;unfold Hid;omega
 have HTS:Hid (s.txs.length<=100):=by have:=HP.out.ok.few;unfold Hid;omega
 rw [ha,zAz] at HPUT
 rw [hid] at HPUT HN ⊢
 rw [zPa hit] at HN
 obtain ⟨id,hidI⟩:∃ z:Int,z=((i+1:Nat):Int):=⟨_,rfl⟩
 rw [<-hidI] at HPUT ⊢
 have hb:decide (id > 0)=true:=decide_eq_true (by omega)
 have hb9:0<id:=by omega
 have HID:Hid (id=(i:Int)+1):=by unfold Hid;omega
 have HT:=Hmq hit
 have HM2:=Hmq hm2
 have HB2:=Hmq hb2
 have v0:=HM2.out.cell c0 (fun e=>e)
 have p0:=hb2.cell 0 rfl
 have p1:=hb2.cell 1 rfl
 have p2:=hb2.cell 2 rfl
 have zg2:=Nat.lt_of_lt_of_le zg hm2.size
 have zb2:=hb2.lt
 clear hN hp hf hA hkey hr0 hb2 hm2 hb1 hm1 hV hok hidI hi hid hit ha hv
 go_upto_region 19 with fail
 rw [<-hw1]
 clear hw1
 go_upto_region 21 with fail
 rw [<-hw2]
 clear hw2 c0 x0 x3 d0 y0 y3 b1 f1 zb
 refine wp_region_still_tail 6 (by kernel_rfl) (by kernel_rfl) ?_
 simp only [List.take_succ_cons,List.take_zero,List.drop_succ_cons,List.drop_zero]
 repeat still_step
 refine wpStill_nil ?_
 go_wp2_with fail
 refine (HPUT.out _ HM2.out.drew).mono ?_
 rintro e w3 ⟨rfl,y1,hs1,hst⟩
 have HS1:=Hmq hs1
 have HST:Hid (zBv w y w3 y1):=(zBv.quiet HM2.out.drew).trans hst
 have hyb:y.own w.heap.size=.no:=by
  by_cases e:y.own w.heap.size=.no
  ·exact e
  ·have:=(HP.out.sto.house.own.lt _ e).2;omega
 have HBP:Hid (Blk w3 w.heap.size [.string key,.string x.value,.bool true] 68):=hst.blk (HB2.out.mod (Mod.refl zAb _).drew (fun e=>e)) hyb
 have HBA:Hid (w3.cell? ⟨xb,0,none⟩=some (.int .i64 3)):=by have q:=(HST.out.blk HP.out.act HP.out.xn).cell 0 rfl;rw [hw] at q;exact q
 have HNA:Hid (∀ u∈vs,u.ownBlock≠some xb):=fun u hu e=>HP.out.xs (.inr (.inr ⟨u,hu,e⟩))
 have HNP:Hid (∀ u∈vs,u.ownBlock≠some w.heap.size):=fun u hu e=>by have:=(HP.out.sto.cells HP.out.lg (.inr (.inr ⟨u,hu,e⟩))).2.1;omega
 clear hs1 hst hyb HPUT v0 p0 p1 p2
 go_upto_region 22 with fail
 refine wp_mono (Q:=zEf ?R2) (yNc (R:=?R2) n (c+2) gs g xb' xcap i id key x.value t y1 vs { s with h:=r.1 } w3 HS1.out HP.out.lg HT.out HID.out HTS.out HOP.out xb w.heap.size 3 HBA.out (HBP.out.cell 1 rfl) HNA.out HNP.out _ ⟨rfl,rfl,rfl⟩ rfl rfl rfl rfl ?hN) ?hE
 case hE=>
  intro e a' wd hq
  cases e with
  | normal=>exact hq
  | ret=>exact hq.elim
  | exit id=>exact hq.elim
  | goto l=>exact hq.elim
  | panic ch=>exact hq.elim
  | outgrown=>exact hq.elim
 case hN=>
  intro fr' wd hf' hr
  exact HN.out fr' wd hf' (StoR.after HST.out hr (by omega))
theorem sw3sb(hp:zCd w n c m gs g y xv vs s xb x)(fr:Act)(hf:SwF fr gs xb (idS s x) (keyX x) x.what)(hw:x.what=3)(hv:¬ 9<x.value.size)(ha:¬ ((putH s.h (idS s x:Nat) ⟨keyX x,valA x,true⟩).2=0/\0<idS s x)):SwP w n c gs g y xv vs (armS s x) fr:=by
 intro R hN
 conv=>arg 2;whnf
 obtain ⟨f,rfl⟩:=hf.lit
 rw [hw]
 have hA:armS s x={ s with h:=(putH s.h (idS s x:Nat) ⟨keyX x,valA x,true⟩).1 }:=by unfold armS;simp [hw,ha]
 rw [hA] at hN
 have c0:=(blkS hp.sto.blk).1
 have zg:=hp.sto.blk.lt
 have HN:=Hmq hN
 have hV:valA x=x.value:=by unfold valA;rw [if_neg hv]
 have hok:okQ x.value:=by have:=hp.val;unfold okQ at this ⊢;exact this
 rw [hV] at HN ha
 have HPUT:=Hmq (hp.put (idS s x:Nat) ⟨keyX x,x.value,true⟩ (zJe x) hok)
 have x0:=hp.act.cell 0 rfl
 have x3:=hp.act.cell 3 rfl
 rw [hw] at x0
 have zx:=hp.act.lt
 have HP:=Hmq hp
 obtain ⟨key,hkey⟩:∃ z,z=keyX x:=⟨_,rfl⟩
 rw [<-hkey] at HN HPUT ha ⊢
 obtain ⟨r,hr0⟩:∃ z,z=putH s.h (idS s x:Nat) ⟨key,x.value,true⟩:=⟨_,rfl⟩
 rw [<-hr0] at HPUT HN ha
 obtain ⟨w1,hw1⟩:∃ z,z=w.alloc (.cells #[.string key,.string x.value,.bool true] 68):=⟨_,rfl⟩
 have hm1:Mod zAb w w1:=by rw [hw1];exact (Mod.refl _ w).alloc _
 have hb1:Blk w1 w.heap.size [.string key,.string x.value,.bool true] 68:=by rw [hw1];exact Blk.new w _ _
 have d0:=hm1.cell c0 id
 have y0:=hm1.cell x0 id
 have y3:=hm1.cell x3 id
 have b1:=hb1.cell 1 rfl
 have f1:=hb1.frozen 1
 have zb:=hb1.lt
 have hsz:decide ((x.value.size:Int) > 9)=false:=decide_eq_false (by omega)
 have hsz3:¬ (9:Int)<(x.value.size:Int):=by omega
 have hsz4:¬ 9<x.value.size:=hv
 obtain ⟨w2,hw2⟩:∃ z,z=w1:=⟨_,rfl⟩
 have hm2:Mod zAb w w2:=by rw [hw2];exact hm1
 have hb2:Blk w2 w.heap.size [.string key,.string x.value,.bool true] 68:=by rw [hw2];exact hb1
 obtain ⟨id,hidI⟩:∃ z:Int,z=((idS s x:Nat):Int):=⟨_,rfl⟩
 rw [<-hidI] at HPUT ⊢
 have hcase:(r.2=0/\id=0)\/r.2≠0:=by
  by_cases e:r.2=0
  ·exact .inl ⟨e,by have:¬ 0<idS s x:=fun q=>ha ⟨e,q⟩;omega⟩
  ·exact .inr e
 have HM2:=Hmq hm2
 have HB2:=Hmq hb2
 have v0:=HM2.out.cell c0 (fun e=>e)
 have p0:=hb2.cell 0 rfl
 have p1:=hb2.cell 1 rfl
 have p2:=hb2.cell 2 rfl
 have zg2:=Nat.lt_of_lt_of_le zg hm2.size
 have zb2:=hb2.lt
 clear hN hp hf hA hkey hr0 hb2 hm2 hb1 hm1 hV hok hidI  ha hv
 go_upto_region 19 with fail
 rw [<-hw1]
 clear hw1
 go_upto_region 21 with fail
 rw [<-hw2]
 clear hw2 c0 x0 x3 d0 y0 y3 b1 f1 zb
 refine wp_region_still_tail 6 (by kernel_rfl) (by kernel_rfl) ?_
 simp only [List.take_succ_cons,List.take_zero,List.drop_succ_cons,List.drop_zero]
 repeat still_step
 refine wpStill_nil ?_
 rcases hcase with ⟨e1,e2⟩ | e1
 ·rw [e1,zAz] at HPUT
  have hid0:decide (id > 0)=false:=decide_eq_false (by omega)
  have hid1:¬ 0<id:=by omega
  clear e1 e2
  go_wp2_with fail
  refine (HPUT.out _ HM2.out.drew).mono ?_
  rintro e w3 ⟨rfl,y1,hs1,hst⟩
  have HR:=Hmq (StoR.only (d:=c+2) ((zBv.quiet HM2.out.drew).trans hst) hs1 (by omega))
  clear hs1 hst HPUT v0 p0 p1 p2
  go_wp2_with fail
  show R _ _
  exact HN.out _ _ ⟨rfl,rfl,rfl⟩ HR.out
 ·rw [zBb e1] at HPUT
  clear e1
  go_wp2_with fail
  refine (HPUT.out _ HM2.out.drew).mono ?_
  rintro e w3 ⟨rfl,y1,hs1,hst⟩
  have HR:=Hmq (StoR.only (d:=c+2) ((zBv.quiet HM2.out.drew).trans hst) hs1 (by omega))
  clear hs1 hst HPUT v0 p0 p1 p2
  go_wp2_with fail
  show R _ _
  exact HN.out _ _ ⟨rfl,rfl,rfl⟩ HR.out
theorem sw3la(hp:zCd w n c m gs g y xv vs s xb x)(fr:Act)(hf:SwF fr gs xb (idS s x) (keyX x) x.what)(hw:x.what=3)(hv:9<x.value.size)(ha:(putH s.h (idS s x:Nat) ⟨keyX x,valA x,true⟩).2=0)(hi:0<idS s x):SwP w n c gs g y xv vs (armS s x) fr:=by
 intro R hN
 conv=>arg 2;whnf
 obtain ⟨f,rfl⟩:=hf.lit
 rw [hw]
 have hA:armS s x={ s with h:=(putH s.h (idS s x:Nat) ⟨keyX x,valA x,true⟩).1,txs:=zQf s.txs (idS s x) ⟨3,keyX x,valA x,false⟩ }:=by unfold armS;simp [hw,ha,hi]
 rw [hA] at hN
 have c0:=(blkS hp.sto.blk).1
 have zg:=hp.sto.blk.lt
 have HN:=Hmq hN
 have hV:valA x=(x.value.extract 0 9):=by unfold valA;rw [if_pos hv]
 have hok:okQ (x.value.extract 0 9):=by have:=hp.val;unfold okQ at this ⊢;rw [ByteArray.size_extract];omega
 rw [hV] at HN ha
 have HPUT:=Hmq (hp.put (idS s x:Nat) ⟨keyX x,(x.value.extract 0 9),true⟩ (zJe x) hok)
 have x0:=hp.act.cell 0 rfl
 have x3:=hp.act.cell 3 rfl
 rw [hw] at x0
 have zx:=hp.act.lt
 have HP:=Hmq hp
 obtain ⟨key,hkey⟩:∃ z,z=keyX x:=⟨_,rfl⟩
 rw [<-hkey] at HN HPUT ha ⊢
 obtain ⟨r,hr0⟩:∃ z,z=putH s.h (idS s x:Nat) ⟨key,(x.value.extract 0 9),true⟩:=⟨_,rfl⟩
 rw [<-hr0] at HPUT HN ha
 obtain ⟨w1,hw1⟩:∃ z,z=w.alloc (.cells #[.string key,.string x.value,.bool true] 68):=⟨_,rfl⟩
 have hm1:Mod zAb w w1:=by rw [hw1];exact (Mod.refl _ w).alloc _
 have hb1:Blk w1 w.heap.size [.string key,.string x.value,.bool true] 68:=by rw [hw1];exact Blk.new w _ _
 have d0:=hm1.cell c0 id
 have y0:=hm1.cell x0 id
 have y3:=hm1.cell x3 id
 have b1:=hb1.cell 1 rfl
 have f1:=hb1.frozen 1
 have zb:=hb1.lt
 have hsz:decide ((x.value.size:Int) > 9)=true:=decide_eq_true (by omega)
 have hsz2:9<=x.value.size:=by omega
 have hsz3:(9:Int)<=(x.value.size:Int):=by omega
 obtain ⟨w2,hw2⟩:∃ z,z=w1.setCell ⟨w.heap.size,1,none⟩ (.string (x.value.extract 0 9)):=⟨_,rfl⟩
 have hm2:Mod zAb w w2:=by rw [hw2];exact hm1.setCell (fun e=>absurd e (Nat.lt_irrefl _)) _
 have hb2:Blk w2 w.heap.size [.string key,.string (x.value.extract 0 9),.bool true] 68:=by rw [hw2];exact hb1.set 1 _
 obtain ⟨i,t,hid,hit⟩:=yAc hi
 obtain ⟨xb',xcap,hxv⟩:=HP.out.sto.x_slice hit
 subst hxv
 have HOP:Hid (t.ops.length<=1000):=by have:=HP.out.opl t (List.mem_of_getElem? hit);have:=HP.out.mm;unfold Hid;omega
 have HTS:Hid (s.txs.length<=100):=by have:=HP.out.ok.few;unfold Hid;omega
 rw [ha,zAz] at HPUT
 rw [hid] at HPUT HN ⊢
 rw [zPa hit] at HN
 obtain ⟨id,hidI⟩:∃ z:Int,z=((i+1:Nat):Int):=⟨_,rfl⟩
 rw [<-hidI] at HPUT ⊢
 have hb:decide (id > 0)=true:=decide_eq_true (by omega)
 have hb9:0<id:=by omega
 have HID:Hid (id=(i:Int)+1):=by unfold Hid;omega
 have HT:=Hmq hit
 have HM2:=Hmq hm2
 have HB2:=Hmq hb2
 have v0:=HM2.out.cell c0 (fun e=>e)
 have p0:=hb2.cell 0 rfl
 have p1:=hb2.cell 1 rfl
 have p2:=hb2.cell 2 rfl
 have zg2:=Nat.lt_of_lt_of_le zg hm2.size
 have zb2:=hb2.lt
 clear hN hp hf hA hkey hr0 hb2 hm2 hb1 hm1 hV hok hidI hi hid hit ha hv
 go_upto_region 19 with fail
 rw [<-hw1]
 clear hw1
 go_upto_region 21 with fail
 rw [<-hw2]
 clear hw2 c0 x0 x3 d0 y0 y3 b1 f1 zb
 refine wp_region_still_tail 6 (by kernel_rfl) (by kernel_rfl) ?_
 simp only [List.take_succ_cons,List.take_zero,List.drop_succ_cons,List.drop_zero]
 repeat still_step
 refine wpStill_nil ?_
 go_wp2_with fail
 refine (HPUT.out _ HM2.out.drew).mono ?_
 rintro e w3 ⟨rfl,y1,hs1,hst⟩
 have HS1:=Hmq hs1
 have HST:Hid (zBv w y w3 y1):=(zBv.quiet HM2.out.drew).trans hst
 have hyb:y.own w.heap.size=.no:=by
  by_cases e:y.own w.heap.size=.no
  ·exact e
  ·have:=(HP.out.sto.house.own.lt _ e).2;omega
 have HBP:Hid (Blk w3 w.heap.size [.string key,.string (x.value.extract 0 9),.bool true] 68):=hst.blk (HB2.out.mod (Mod.refl zAb _).drew (fun e=>e)) hyb
 have HBA:Hid (w3.cell? ⟨xb,0,none⟩=some (.int .i64 3)):=by have q:=(HST.out.blk HP.out.act HP.out.xn).cell 0 rfl;rw [hw] at q;exact q
 have HNA:Hid (∀ u∈vs,u.ownBlock≠some xb):=fun u hu e=>HP.out.xs (.inr (.inr ⟨u,hu,e⟩))
 have HNP:Hid (∀ u∈vs,u.ownBlock≠some w.heap.size):=fun u hu e=>by have:=(HP.out.sto.cells HP.out.lg (.inr (.inr ⟨u,hu,e⟩))).2.1;omega
 clear hs1 hst hyb HPUT v0 p0 p1 p2
 go_upto_region 22 with fail
 refine wp_mono (Q:=zEf ?R2) (yNc (R:=?R2) n (c+2) gs g xb' xcap i id key (x.value.extract 0 9) t y1 vs { s with h:=r.1 } w3 HS1.out HP.out.lg HT.out HID.out HTS.out HOP.out xb w.heap.size 3 HBA.out (HBP.out.cell 1 rfl) HNA.out HNP.out _ ⟨rfl,rfl,rfl⟩ rfl rfl rfl rfl ?hN) ?hE
 case hE=>
  intro e a' wd hq
  cases e with
  | normal=>exact hq
  | ret=>exact hq.elim
  | exit id=>exact hq.elim
  | goto l=>exact hq.elim
  | panic ch=>exact hq.elim
  | outgrown=>exact hq.elim
 case hN=>
  intro fr' wd hf' hr
  exact HN.out fr' wd hf' (StoR.after HST.out hr (by omega))
theorem sw3lb(hp:zCd w n c m gs g y xv vs s xb x)(fr:Act)(hf:SwF fr gs xb (idS s x) (keyX x) x.what)(hw:x.what=3)(hv:9<x.value.size)(ha:¬ ((putH s.h (idS s x:Nat) ⟨keyX x,valA x,true⟩).2=0/\0<idS s x)):SwP w n c gs g y xv vs (armS s x) fr:=by
 intro R hN
 conv=>arg 2;whnf
 obtain ⟨f,rfl⟩:=hf.lit
 rw [hw]
 have hA:armS s x={ s with h:=(putH s.h (idS s x:Nat) ⟨keyX x,valA x,true⟩).1 }:=by unfold armS;simp [hw,ha]
 rw [hA] at hN
 have c0:=(blkS hp.sto.blk).1
 have zg:=hp.sto.blk.lt
 have HN:=Hmq hN
 have hV:valA x=(x.value.extract 0 9):=by unfold valA;rw [if_pos hv]
 have hok:okQ (x.value.extract 0 9):=by have:=hp.val;unfold okQ at this ⊢;rw [ByteArray.size_extract];omega
 rw [hV] at HN ha
 have HPUT:=Hmq (hp.put (idS s x:Nat) ⟨keyX x,(x.value.extract 0 9),true⟩ (zJe x) hok)
 have x0:=hp.act.cell 0 rfl
 have x3:=hp.act.cell 3 rfl
 rw [hw] at x0
 have zx:=hp.act.lt
 have HP:=Hmq hp
 obtain ⟨key,hkey⟩:∃ z,z=keyX x:=⟨_,rfl⟩
 rw [<-hkey] at HN HPUT ha ⊢
 obtain ⟨r,hr0⟩:∃ z,z=putH s.h (idS s x:Nat) ⟨key,(x.value.extract 0 9),true⟩:=⟨_,rfl⟩
 rw [<-hr0] at HPUT HN ha
 obtain ⟨w1,hw1⟩:∃ z,z=w.alloc (.cells #[.string key,.string x.value,.bool true] 68):=⟨_,rfl⟩
 have hm1:Mod zAb w w1:=by rw [hw1];exact (Mod.refl _ w).alloc _
 have hb1:Blk w1 w.heap.size [.string key,.string x.value,.bool true] 68:=by rw [hw1];exact Blk.new w _ _
 have d0:=hm1.cell c0 id
 have y0:=hm1.cell x0 id
 have y3:=hm1.cell x3 id
 have b1:=hb1.cell 1 rfl
 have f1:=hb1.frozen 1
 have zb:=hb1.lt
 have hsz:decide ((x.value.size:Int) > 9)=true:=decide_eq_true (by omega)
 have hsz2:9<=x.value.size:=by omega
 have hsz3:(9:Int)<=(x.value.size:Int):=by omega
 obtain ⟨w2,hw2⟩:∃ z,z=w1.setCell ⟨w.heap.size,1,none⟩ (.string (x.value.extract 0 9)):=⟨_,rfl⟩
 have hm2:Mod zAb w w2:=by rw [hw2];exact hm1.setCell (fun e=>absurd e (Nat.lt_irrefl _)) _
 have hb2:Blk w2 w.heap.size [.string key,.string (x.value.extract 0 9),.bool true] 68:=by rw [hw2];exact hb1.set 1 _
 obtain ⟨id,hidI⟩:∃ z:Int,z=((idS s x:Nat):Int):=⟨_,rfl⟩
 rw [<-hidI] at HPUT ⊢
 have hcase:(r.2=0/\id=0)\/r.2≠0:=by
  by_cases e:r.2=0
  ·exact .inl ⟨e,by have:¬ 0<idS s x:=fun q=>ha ⟨e,q⟩;omega⟩
  ·exact .inr e
 have HM2:=Hmq hm2
 have HB2:=Hmq hb2
 have v0:=HM2.out.cell c0 (fun e=>e)
 have p0:=hb2.cell 0 rfl
 have p1:=hb2.cell 1 rfl
 have p2:=hb2.cell 2 rfl
 have zg2:=Nat.lt_of_lt_of_le zg hm2.size
 have zb2:=hb2.lt
 clear hN hp hf hA hkey hr0 hb2 hm2 hb1 hm1 hV hok hidI  ha hv
 go_upto_region 19 with fail
 rw [<-hw1]
 clear hw1
 go_upto_region 21 with fail
 rw [<-hw2]
 clear hw2 c0 x0 x3 d0 y0 y3 b1 f1 zb
 refine wp_region_still_tail 6 (by kernel_rfl) (by kernel_rfl) ?_
 simp only [List.take_succ_cons,List.take_zero,List.drop_succ_cons,List.drop_zero]
 repeat still_step
 refine wpStill_nil ?_
 rcases hcase with ⟨e1,e2⟩ | e1
 ·rw [e1,zAz] at HPUT
  have hid0:decide (id > 0)=false:=decide_eq_false (by omega)
  have hid1:¬ 0<id:=by omega
  clear e1 e2
  go_wp2_with fail
  refine (HPUT.out _ HM2.out.drew).mono ?_
  rintro e w3 ⟨rfl,y1,hs1,hst⟩
  have HR:=Hmq (StoR.only (d:=c+2) ((zBv.quiet HM2.out.drew).trans hst) hs1 (by omega))
  clear hs1 hst HPUT v0 p0 p1 p2
  go_wp2_with fail
  show R _ _
  exact HN.out _ _ ⟨rfl,rfl,rfl⟩ HR.out
 ·rw [zBb e1] at HPUT
  clear e1
  go_wp2_with fail
  refine (HPUT.out _ HM2.out.drew).mono ?_
  rintro e w3 ⟨rfl,y1,hs1,hst⟩
  have HR:=Hmq (StoR.only (d:=c+2) ((zBv.quiet HM2.out.drew).trans hst) hs1 (by omega))
  clear hs1 hst HPUT v0 p0 p1 p2
  go_wp2_with fail
  show R _ _
  exact HN.out _ _ ⟨rfl,rfl,rfl⟩ HR.out
end
end Go.Proofs.YtmaiggbnceejiaaGreatDoor
