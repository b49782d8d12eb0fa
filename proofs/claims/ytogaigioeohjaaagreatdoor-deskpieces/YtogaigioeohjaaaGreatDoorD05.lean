import Derived.Test.YtogaigioeohjaaaGreatDoorD04
import Derived.WalkSpells
import Derived.Lib.SliceRun
set_option linter.unusedVariables false
set_option maxRecDepth 100000
set_option maxHeartbeats 16000000
namespace Go.Proofs.YtogaigioeohjaaaGreatDoor
open Go.RowKit Go.Lib Go.Maps
def logN(s:zAl)(l:List CmdD):zAl:=⟨s.id,s.epoch,s.nodes,l,s.stable⟩
def zFo(s:zAl)(c:CmdD):zAl × List MsgD:=if zNp s then zEd (logN s (s.log++[c])) else (logN s (s.log++[c]),match nbrN s 1 with
 | none=>[]
 | some t=>[fwdM s t s.log.length c])
theorem yKp(s:zAl)(l:List CmdD):zNp (logN s l)=zNp s:=rfl
theorem yPu{s:zAl}(hi:inN s=true)(ht:zNp s=false):∃ t,nbrN s 1=some t:=by
 simp only [inN,decide_eq_true_eq] at hi
 rcases zQg s with e | ⟨k,e,_,hk⟩
 ·omega
 ·have hne:¬ (zGz s=(s.nodes.length:Int) - 1):=by
   intro h2
   have:zNp s=true:=by unfold zNp inN;rw [decide_eq_true hi,h2];simp
   rw [this] at ht;cases ht
  obtain ⟨t,ht2⟩:∃ t,s.nodes[k+1]?=some t:=⟨_,List.getElem?_eq_getElem (by omega)⟩
  refine ⟨t,?_⟩
  have h3:(zGz s+1).toNat=k+1:=by omega
  have h1:inN s=true:=by simp only [inN,decide_eq_true_eq];exact hi
  unfold nbrN
  rw [h1,decide_eq_true (show (0:Int)<=zGz s+1 by omega),decide_eq_true (show zGz s+1<(s.nodes.length:Int) by omega),h3]
  simpa using ht2
theorem Mod.node{w w1 w2:World}{g:Nat}{nv v v':Value}(h:Mod (zAs g nv v) w w1)(hm:zCf w v v')(k:Mod (zAs g nv v') w1 w2):Mod (zAs g nv v) w w2:=
 h.trans' k (fun i hi e=>by
  rcases e with e | e | e
  ·exact .inl e
  ·exact .inr (.inl e)
  ·rcases hm with hm | hm
   ·exact .inr (.inr (by rw [<-hm];exact e))
   ·have:=hm i e;omega)
theorem zAx.logged{w w6:World}{L:Lo}{g:Nat}{nv lv v6:Value}{s:zAl}{cs:List CmdD}(h:zAx w L g nv lv s)(hm6:Mod (fun k=>lv.ownBlock=some k) w w6)(hR:RowC w6 L v6 cs)(hv:v6.ownBlock=lv.ownBlock\/∀ k,v6.ownBlock=some k->w.heap.size<=k)(hf:cs.length<=500)(hst:s.stable<=cs.length) :
  zAx (w6.setCell ⟨g,3,none⟩ v6) L g nv v6 (logN s cs)/\Mod (zAs g nv lv) w (w6.setCell ⟨g,3,none⟩ v6):=by
 obtain ⟨a1,a2,a3⟩:=h.apart
 have hb6:Blk w6 g [.int .i64 s.id,.int .i64 s.epoch,nv,lv,.int .i64 s.stable] 160:=h.blk.mod hm6 a2
 have hb6':=hb6
 simp only [Blk] at hb6'
 have hms:Mod (zAd g) w6 (w6.setCell ⟨g,3,none⟩ v6):=Mod.setBlk g 3 _
 have hqs:Qm w6 L (zAd g):=fun k _ e=>by
  simp only [zAd] at e;subst e
  rintro (e | ⟨⟨cur,fr,e⟩,_⟩)
  ·have:=h.low;omega
  ·rw [hb6'] at e;simp at e
 have hlt:=h.blk.lt
 refine ⟨⟨hb6.set 3 _,h.low,zAn (zAn h.ns hm6 (fun k _ _ hk e=>a3 k hk e)) hms (fun k _ _ hk e=>a1 (by rw [hk,e])),hR.mod hms hqs (fun k hk e=>?_),h.ints,⟨h.few.1,hf⟩,⟨h.st.1,hst⟩,fun k hk=>Nat.lt_of_lt_of_le (h.xb k hk) (Nat.le_trans hm6.size hms.size)⟩,?_⟩
 ·simp only [zAd] at e;subst e
  rcases hv with e | e
  ·exact a2 (by rw [<-e];exact hk)
  ·have:=e _ hk;omega
 exact (hm6.mono (fun i _ e=>.inr (.inr e))).setCell (p:=⟨g,3,none⟩) (fun _=>.inl rfl) _
theorem yFw(L:Lo)(g:Nat)(nv lv:Value)(s:zAl)(c:CmdD)(u:Value)(w:World)(h:zAx w L g nv lv s)(hin:inN s=true)(hro:s.log.length<500)(hu:zAy w L u c.writes)(hgc:zYi c) :
  Calls Tryz.prog 136 #[.pointer (some ⟨g,0,none⟩),.agg #[.int .i64 c.kind,.int .i64 c.tx,.int .i64 c.time,u]] w fun e w'=>
   ∃ v lv',e=.returned v/\zAx w' L g nv lv' (zFo s c).1/\RowM w' L v (zFo s c).2/\zCr w v/\zCf w lv lv'/\Mod (zAs g nv lv) w w':=by
 obtain ⟨i0,hi,hz0,hz1,hz2⟩:=info_parts Tryz.info108
 obtain ⟨ua,ucap,rfl⟩:∃ ua ucap,u=.slice ua c.writes.length ucap:=by obtain ⟨ua,ucap,h,_⟩:=hu;exact ⟨ua,ucap,h⟩
 obtain ⟨w1,hw1⟩:∃ q,q=w.alloc (.cells #[.int .i64 c.kind,.int .i64 c.tx,.int .i64 c.time,.slice ua c.writes.length ucap] 108):=⟨_,rfl⟩
 have hm1:Mod zAb w w1:=by rw [hw1];exact (Mod.refl _ w).alloc _
 have hB1:Blk w1 w.heap.size [.int .i64 c.kind,.int .i64 c.tx,.int .i64 c.time,.slice ua c.writes.length ucap] 108:=by rw [hw1];exact Blk.new w _ _
 have h1:=h.quiet hm1
 have hz01:=hm1.size
 obtain ⟨la,lcap,hlv⟩:=h1.lg.slice
 subst hlv
 obtain ⟨c0,c1,c2,c3,c4⟩:=zFt h1.blk
 have f3:=h1.blk.frozen 3
 obtain ⟨x0,x1,x2,x3,_⟩:=blk4 hB1
 have hgz:=h1.blk.lt
 have hbz:=hB1.lt
 have HU:Hid (zAy w1.drew L (.slice ua c.writes.length ucap) c.writes):=(hu.mod hm1 (Qm.none _ _)).mod ((Mod.refl zAb w1).drew) (Qm.none _ _)
 have hml:c.writes.length<=1000000:=by have:=hgc.2;omega
 have hk63:s.log.length+1<=maxLen:=by unfold maxLen;omega
 have hk47:(s.log.length+1)*48<=140737488355328:=by omega
 obtain ⟨us,hus,hrow,hps,hgd⟩:=h1.lg
 have HROW:=Hmr hrow
 have HPS:=Hmr hps
 have HGD:=Hmr hgd
 have HAP:=Hmr h1.apart
 have HN1:=Hmr h1
 have hlow:=h1.low
 have hst:=h1.st
 clear h hu h1 hrow hps hgd
 go_enter Tryz.func136,Tryz.ntmps136
 go_upto_region 1 with fail
 rw [<-hw1]
 clear hw1
 go_upto_region 2 with fail
 go_cut [] (fun wc=>∃ lv',zAx wc L g nv lv' (logN s (s.log++[c]))/\zCf w1 (.slice la s.log.length lcap) lv'/\Mod (zAs g nv (.slice la s.log.length lcap)) w1 wc)
 case first=>
  go_region_law
   ((first
    | (go_simp;go_at_call 151;(refine (zXs L c _ _ HU.out hml).mono ?_;rintro e w5 ⟨uo,rfl,hown5,hm5⟩;obtain ⟨ua5,uc5,rfl⟩:=zAg hown5;have hm35:Mod zAb w1 w5:=(((Mod.refl zAb w1).drew).trans hm5);have d3:=hm35.cell c3 id;have e3:=(hm35.frozen (p:=⟨g,3,none⟩) hgz id).trans f3;have z5:=hm35.size;have gz5:g<w5.heap.size:=Nat.lt_of_lt_of_le hgz z5;have HR5:=Hmr (zAn HROW.out hm35 (fun _ _ _ _=>id))))
    | (refine step_append_lies _ (by rfl) _ _ _ (by rfl) L 108 i0 _ 4 48 Tryz.underlying126 hi hz0 hz1 hz2 rfl (by omega) _ _ _ (by rfl) (HR5.out.alloc _) ⟨w5.heap.size,0,none⟩ 1 1 (zEm c (.slice ua5 c.writes.length uc5)) (by rfl) (by rfl) (World.news_of_block (heap_alloc_new w5 _)) (yNr _ _ _ _) (by omega) hk63 hk47 (by simp;omega) _ rfl ?_;intro g6 cap6 w6 hown6 hgrow hat hlt6;have hm56:Mod (fun k=>(Value.slice la s.log.length lcap).ownBlock=some k) w5 w6:=((Mod.refl _ w5).alloc _).grown hgrow (fun x hx _=>hx);have d6:=hm56.cell d3 HAP.out.2.1;have e6:=(hm56.frozen (p:=⟨g,3,none⟩) (Nat.lt_of_lt_of_le hgz z5) HAP.out.2.1).trans e3)
    | fail))
  all_goals
  have hN5:=HN1.out.quiet hm35
  have hR6:RowC w6 L (.slice (some ⟨g6,0,none⟩) (s.log.length+1) cap6) (s.log++[c]):=RowC.snoc hus (zAn HROW.out hm35 (fun _ _ _ _=>id)) (fun i m u h1 h2=>(HPS.out i m u h1 h2).mod hm35 (Qm.none _ _)) HGD.out (zAy.of_own hown5 (fun k hk=>HN1.out.xb k hk)) hgc hm56 hown6
  have hloc:(Value.slice (some ⟨g6,0,none⟩) (s.log.length+1) cap6).ownBlock=(Value.slice la s.log.length lcap).ownBlock\/∀ k,(Value.slice (some ⟨g6,0,none⟩) (s.log.length+1) cap6).ownBlock=some k->w5.heap.size<=k:=by
   rcases hat with e | e
   ·exact .inl (by rw [e];rfl)
   ·exact .inr (fun k hk=>by simp [Value.ownBlock] at hk;simp at e;omega)
  have R:=hN5.logged hm56 hR6 hloc (by simp;omega) (by simp;omega)
  have HR:=Hmr R
  have HL:Hid (zCf w1 (.slice la s.log.length lcap) (.slice (some ⟨g6,0,none⟩) (s.log.length+1) cap6)):=by
   rcases hloc with e | e
   ·exact .inl e
   ·exact .inr (fun k hk=>Nat.le_trans z5 (e k hk))
  have HM:Hid (Mod (zAs g nv (.slice la s.log.length lcap)) w1 w5):=hm35.mono (fun _ _ e=>e.elim)
  clear R hR6 hown6 hgrow hat hloc hown5 hN5
  go_wp2_with fail
  go_meet
  case rel=>exact ⟨_,HR.out.1,HL.out,HM.out.trans HR.out.2⟩
 case rest=>
  obtain ⟨lv2,hN2,hmv2,hm2⟩:=hcut
  clear HROW HPS HGD HAP HN1 HU c0 c1 c2 c3 c4 f3 x0 x1 x2 x3 hgz hbz hB1
  have HT:=Hmr (yFe L g nv lv2 _ wc hN2)
  rw [yKp] at HT
  have hmv:zCf w (.slice la s.log.length lcap) lv2:=by
   rcases hmv2 with e | e
   ·exact .inl e
   ·exact .inr (fun k hk=>Nat.le_trans hz01 (e k hk))
  have hm02:Mod (zAs g nv (.slice la s.log.length lcap)) w wc:=(hm1.mono (fun _ _ e=>e.elim)).trans hm2
  have hz02:=hm02.size
  go_wp2_with fail
  refine HT.out.mono ?_
  rintro e w3 ⟨rfl,m3,rfl⟩
  have hN3:=hN2.drewN m3
  have hm03:Mod (zAs g nv (.slice la s.log.length lcap)) w (wc.drewN m3):=hm02.drewN m3
  cases ht:zNp s with
  | true=>
   have HG:Hid (zFo s c=zEd (logN s (s.log++[c]))):=by rw [Hid,zFo,ht];rfl
   have HK:=Hmr (zLr L g nv lv2 _ _ hN3)
   clear HT hN2 hN3 hm2 hmv2
   go_wp2_with fail
   refine HK.out.mono ?_
   rintro e w4 ⟨v,rfl,hN4,hR4,hf4,hm4⟩
   clear HK
   go_wp2_with fail
   go_ret
   exact ⟨v,lv2,rfl,by rw [HG.out];exact hN4,by rw [HG.out];exact hR4,fun k hk=>Nat.le_trans hz02 (hf4 k hk),hmv,hm03.node hmv (hm4.mono (fun i _ e=>.inl e))⟩
  | false=>
   obtain ⟨t,hnt⟩:=yPu hin ht
   have HG:Hid (zFo s c=(logN s (s.log++[c]),[fwdM s t s.log.length c])):=by rw [Hid,zFo,ht,hnt];rfl
   have HF:=zSy L g nv lv2 (logN s (s.log++[c])) t s.log.length _ hN3 hnt (by omega)
   have hfl:fwdL (logN s (s.log++[c])) t s.log.length 1=[fwdM s t s.log.length c]:=by
    simp [fwdL,fwdM,logN]
   rw [Int.toNat_natCast,show (logN s (s.log++[c])).log.length - s.log.length=1 by simp [logN],hfl] at HF
   have HF':=Hmr HF
   have HN3:=Hmr hN3
   clear HT hN2 hN3 hm2 hmv2 HF hfl
   go_wp2_with fail
   refine HF'.out.mono ?_
   rintro e w4 ⟨v,rfl,hR4,hf4,hm4⟩
   clear HF'
   go_wp2_with fail
   go_ret
   exact ⟨v,lv2,rfl,by rw [HG.out];exact HN3.out.quiet hm4,by rw [HG.out];exact hR4,fun k hk=>Nat.le_trans hz02 (hf4 k hk),hmv,hm03.trans (hm4.mono (fun _ _ e=>e.elim))⟩
theorem yTb{s:zAl}(h:headN s=true):inN s=true:=by
 simp only [headN,beq_iff_eq] at h
 simp [inN,h]
theorem yRs(L:Lo)(g:Nat)(nv lv:Value)(s:zAl)(c:CmdD)(u:Value)(w:World)(h:zAx w L g nv lv s)(hh:headN s=true)(hf:s.log.length<500)(hu:zAy w L u c.writes)(hgc:zYi c) :
  Calls Tryz.prog 146 #[.pointer (some ⟨g,0,none⟩),.agg #[.int .i64 c.kind,.int .i64 c.tx,.int .i64 c.time,u]] w fun e w'=>
   ∃ v lv',e=.returned (.tuple #[.int .i64 s.log.length,v,.nilIface])/\zAx w' L g nv lv' (zFo s c).1/\RowM w' L v (zFo s c).2/\zCr w v/\zCf w lv lv'/\Mod (zAs g nv lv) w w':=by
 obtain ⟨ua,ucap,rfl⟩:∃ ua ucap,u=.slice ua c.writes.length ucap:=by obtain ⟨ua,ucap,h,_⟩:=hu;exact ⟨ua,ucap,h⟩
 obtain ⟨w1,hw1⟩:∃ q,q=w.alloc (.cells #[.int .i64 c.kind,.int .i64 c.tx,.int .i64 c.time,.slice ua c.writes.length ucap] 108):=⟨_,rfl⟩
 have hm1:Mod zAb w w1:=by rw [hw1];exact (Mod.refl _ w).alloc _
 have hB1:Blk w1 w.heap.size [.int .i64 c.kind,.int .i64 c.tx,.int .i64 c.time,.slice ua c.writes.length ucap] 108:=by rw [hw1];exact Blk.new w _ _
 have h1:=h.quiet hm1
 obtain ⟨la,lcap,hlv⟩:=h1.lg.slice
 subst hlv
 have hz1:=hm1.size
 have HH:=yQt L g nv _ s _ h1
 rw [hh] at HH
 have HH':=Hmr HH
 have HN:=Hmr h1
 have HU:=Hmr (hu.mod hm1 (Qm.none _ _))
 clear h HH h1 hu
 go_enter Tryz.func146,Tryz.ntmps146
 go_upto_region 1 with fail
 rw [<-hw1]
 clear hw1
 go_wp2_with fail
 refine HH'.out.mono ?_
 rintro e w2 ⟨rfl,m1,rfl⟩
 have h2:=HN.out.drewN m1
 have HR:=zOr L g nv _ s _ h2
 rw [decide_eq_true hf] at HR
 have HR':=Hmr HR
 obtain ⟨c0,c1,c2,c3,c4⟩:=zFt h2.blk
 have hgz:=h2.blk.lt
 obtain ⟨x0,x1,x2,x3,_⟩:=blk4 (hB1.mod ((Mod.refl zAb w1).drewN m1) id)
 have HG:=Hmr (yFw L g nv _ s c (.slice ua c.writes.length ucap) _ h2 (yTb hh) hf (HU.out.mod ((Mod.refl zAb w1).drewN m1) (Qm.none _ _)) hgc)
 clear HR HH' HN h2 HU
 go_wp2_with fail
 refine HR'.out.mono ?_
 rintro e w3 ⟨rfl,rfl⟩
 go_wp2_with fail
 refine HG.out.mono ?_
 rintro e w4 ⟨v,lv4,rfl,hN4,hR4,hf4,hv4,hm4⟩
 clear HG HR' x0 x1 x2 x3 c0 c1 c2 c3 c4
 go_wp2_with fail
 refine bodyPost_ret (results_tmp3 rfl _ _ _) rfl ⟨v,lv4,rfl,hN4,hR4,fun k hk=>Nat.le_trans hz1 (hf4 k hk),?_,?_⟩
 ·rcases hv4 with e | e
  ·exact .inl e
  ·exact .inr (fun k hk=>Nat.le_trans hz1 (e k hk))
 ·exact ((hm1.drewN m1).mono (fun _ _ e=>e.elim)).trans hm4
theorem yLk(w:World)(n:Nat)(cur:Array Value)(hc:cur.size=n*4)(hm:n<=maxLen):(w.alloc (.cells cur 108)).ownsRow w.heap.size 108 4 (.slice (some ⟨w.heap.size,0,none⟩) 0 n) 0 []:=
 ⟨rfl,.inr ⟨w.heap.size,n,cur,rfl,Nat.le_refl _,heap_alloc_new w _,Nat.zero_le _,hm,hc,by simp⟩⟩
theorem zRe(L:Lo)(g:Nat)(nv lv:Value)(s:zAl)(w:World)(h:zAx w L g nv lv s) :
  Calls Tryz.prog 91 #[.pointer (some ⟨g,0,none⟩)] w fun e w'=>∃ v,e=.returned v/\RowC w' L v s.log/\zCr w v/\Mod zAb w w':=by
 obtain ⟨i0,hi,hz0,hz1,hz2⟩:=info_parts Tryz.info108
 obtain ⟨a,cap,hlv⟩:=h.lg.slice
 subst hlv
 have c0:=h.blk.cell 3 rfl
 have hf:=h.few.2
 have hlow:=h.low
 have hgl:=h.blk.lt
 have hmk:=run_make (P:=Tryz.prog) w 126 108 i0 _ Tryz.underlying126 hi hz0 .i64 .i64 0 s.log.length (by omega) (by omega) (by rw [hz2];omega) (by omega)
 rw [hz1] at hmk
 simp only [Int.toNat_natCast,Int.toNat_zero] at hmk
 obtain ⟨cur,hcur⟩:∃ c,c=madeCells (Value.agg #[.int .i64 0,.int .i64 0,.int .i64 0,.slice none 0 0]).cells (s.log.length*4):=⟨_,rfl⟩
 rw [<-hcur] at hmk
 have hcs:cur.size=s.log.length*4:=by rw [hcur];simp [madeCells]
 clear hcur
 have hR0:RowC (w.alloc (.cells cur 108)) L (.slice (some ⟨w.heap.size,0,none⟩) 0 s.log.length) []:=
  ⟨[],rfl,zEk (yLk w s.log.length cur hcs (by unfold maxLen;omega)) (by omega),fun i m u h=>by simp at h,by simp⟩
 have hM0:Mod zAb w (w.alloc (.cells cur 108)):=(Mod.refl _ w).alloc _
 have c1:=hM0.cell c0 id
 have HN:=Hmr h
 clear h
 go_enter Tryz.func91,Tryz.ntmps91
 go_wp2_with fail
 go_loopw [3,17] (fun v i wr=>∃ k:Nat,k<=s.log.length/\i=.int .i64 k/\RowC wr L v (s.log.take k)/\zCr w v/\Mod zAb w wr) (fun _ i _=>s.log.length - (intOf i).toNat)
 case atStart=>exact ⟨0,Nat.zero_le _,rfl,hR0,fun x hx=>by simp [Value.ownBlock] at hx;omega,hM0⟩
 case round=>
  obtain ⟨k,hk,rfl,hR,hfr,hM⟩:=hrel
  clear hR0 hM0 c1 c0 hmk
  have hNr:=HN.out.quiet hM
  by_cases hlt:k<s.log.length
  ·obtain ⟨c,hc⟩:∃ c,s.log[k]?=some c:=⟨_,List.getElem?_eq_getElem hlt⟩
   obtain ⟨b,bcap,u,hv,_,_,hu,hgc,q0,q1,q2,q3⟩:=hNr.lg.at hc
   simp only [Value.slice.injEq] at hv
   obtain ⟨rfl,_,rfl⟩:=hv
   obtain ⟨ua,ucap,rfl⟩:∃ ua ucap,u=.slice ua c.writes.length ucap:=by obtain ⟨ua,ucap,h,_⟩:=hu;exact ⟨ua,ucap,h⟩
   have HT:Hid (s.log.take (k+1)=s.log.take k++[c]):=by
    rw [Hid,List.take_succ_eq_append_getElem hlt]
    rw [List.getElem?_eq_getElem hlt] at hc
    simp at hc;rw [hc]
   have HLN:Hid ((s.log.take k).length=k):=by rw [Hid,List.length_take];omega
   have hm1:Mod zAb wr (wr.alloc (.cells #[.int .i64 c.kind,.int .i64 c.tx,.int .i64 c.time,.slice ua c.writes.length ucap] 108)):=(Mod.refl _ wr).alloc _
   have HOM:=Hmr (zXs L c _ _ (hu.mod hm1 (Qm.none _ _)) (by have:=hgc.2;omega))
   go_wp2_with fail
   refine HOM.out.mono ?_
   rintro e w5 ⟨uo,rfl,hown5,hm5⟩
   obtain ⟨ua5,uc5,rfl⟩:=zAg hown5
   have hm15:=hm1.trans hm5
   have hR5:=hR.mod hm15 (Qm.none _ _) (fun _ _=>id)
   obtain ⟨us,hus,hrow,hps,hgd⟩:=hR5
   have HROW:=Hmr hrow
   have HPS:=Hmr hps
   have HGD:=Hmr hgd
   have HU:=Hmr (zAy.of_own (L:=L) hown5 (fun k hk=>Nat.lt_of_lt_of_le (HN.out.xb k hk) (hM.trans hm1).size))
   have hM5:=hM.trans hm15
   have hz5:=hM5.size
   rw [HLN.out] at HROW
   have hk63:k+1<=maxLen:=by unfold maxLen;omega
   have hk47:(k+1)*48<=140737488355328:=by omega
   clear hrow hps hgd hown5 HOM hR hu hm5 hm1 q0 q1 q2 q3
   go_wp2_with (first
    | (at_builtin;refine wpList_append_own_at _ rfl (.tmp 21) (.tmp 24) 126 rfl L 108 i0 _ 4 48 Tryz.underlying126 hi hz0 hz1 hz2 rfl (by omega) _ _ _ rfl (HROW.out.alloc _) ⟨w5.heap.size,0,none⟩ 1 1 (zEm c (.slice ua5 c.writes.length uc5)) rfl rfl (World.news_of_block (heap_alloc_new w5 _)) (yNr _ _ _ _) hk63 hk47 (by simp;omega) ?_)
    | fail)
   intro v6 w6 hown6 hgrow _ hloc
   have hm6:Mod (fun k=>u3.ownBlock=some k) w5 w6:=((Mod.refl _ w5).alloc _).grown hgrow (fun x hx _=>hx)
   have hR6:RowC w6 L v6 (s.log.take k++[c]):=RowC.snoc hus (by rw [HLN.out];exact HROW.out) HPS.out HGD.out HU.out hgc hm6 (by rw [HLN.out];exact hown6)
   have hM6:Mod zAb w w6:=hM5.trans' hm6 (fun i hi e=>by have:=hfr i e;omega)
   have hfr6:zCr w v6:=fun x hx=>by
    rcases hloc with e | e
    ·exact hfr x (by rw [<-e];exact hx)
    ·rw [e] at hx;simp at hx;omega
   clear hown6 hgrow hloc HROW HPS HGD HU hM5 hM hm6
   go_wp2_with fail
   go_roundw
   case rel=>exact ⟨k+1,by omega,by go_num,by rw [HT.out];exact hR6,hfr6,hM6⟩
   case measure=>simp [intOf];omega
  ·have hkn:k=s.log.length:=by omega
   subst hkn
   rw [List.take_length] at hR
   go_wp2_with fail
   go_ret
   exact ⟨_,rfl,hR,hfr,hM⟩
theorem zHt.quiet{w w':World}{v:Value}{ns:List Int}(h:zHt w v ns)(hm:Mod zAb w w'):zHt w' v ns:=by
 obtain ⟨a,cap,h1,h2,h3,h4⟩:=h
 refine ⟨a,cap,h1,h2,h3,?_⟩
 rcases h4 with h4 | ⟨b,off,h5,h6⟩
 ·exact .inl h4
 ·exact .inr ⟨b,off,h5,fun j x hx=>hm.cell (h6 j x hx) id⟩
def dupB:List Int->List Int->Bool
 | _,[]=>false
 | seen,x :: xs=>decide (x∈seen) || dupB (seen++[x]) xs
theorem zWd:∀ (xs seen:List Int),dupB seen xs=false↔xs.Nodup/\∀ x∈xs,x∉seen
 | [],seen=>by simp [dupB]
 | x :: xs,seen=>by
  simp only [dupB,Bool.or_eq_false_iff,decide_eq_false_iff_not,zWd xs (seen++[x]),List.nodup_cons,List.mem_cons,List.mem_append]
  constructor
  ·rintro ⟨h1,h2,h3⟩
   exact ⟨⟨fun hx=>(h3 x hx) (.inr (by simp)),h2⟩,fun y hy=>by
    rcases hy with rfl | hy
    ·exact h1
    ·exact fun hs=>h3 y hy (.inl hs)⟩
  ·rintro ⟨⟨h1,h2⟩,h3⟩
   refine ⟨h3 x (.inl rfl),h2,fun y hy hs=>?_⟩
   rcases hs with hs | hs
   ·exact h3 y (.inr hy) hs
   ·simp at hs;subst hs;exact h1 hy
theorem ySp{w':World}{L b n:Nat}{ds:List Int}{D:DataW Unit}{x:Int}(hd:∀ x,(Lit.int .i64 x).wf=true->Maps.has D (.int .i64 x)=decide (x∈ds))(hD:IsMap D)(hb:L<=b)(hn:n<=ds.length)
  (hid:zBc x) (h:w'.ownsMap Tryz.prog 3 unitElem b (n+1) (D.put (.int .i64 x) (.agg []))):zEz w' L (some b) (ds++[x]):=by
 refine .inr ⟨b,_,rfl,hb,h.mono (by simp;omega),fun y hy=>?_⟩
 by_cases e:y=x
 ·subst e
  rw [has_put_same hD (by simp [WideAt.IsKeyLit])]
  simp
 ·rw [has_put_other (by intro h;cases h;exact e rfl),hd y hy]
  simp [e]
theorem yGt(L q b:Nat)(ds:List Int)(x:Int)(w:World)(hq:w.cell? ⟨q,0,none⟩=some (.map (some b)))(hd:zEz w L (some b) ds)(hx:zBc x)(hds:ds.length<=1000000) :
  Calls Tryz.prog 244 #[.int .i64 x,.pointer (some ⟨q,0,none⟩)] w fun e w'=>e=.returned (.bool (decide (x∈ds)))/\zEz w' L (some b) (ds++[x])/\Mod (zAd b) w w':=by
 have l1:=zGc hd hx
 have hqz:q<w.heap.size:=World.block_lt_of_cell? w _ hq
 have hd0:=hd
 rcases hd with ⟨e,_⟩ | ⟨b',D,e,hLb,hown,hhas⟩
 ·cases e
 cases e
 have hkey:keyOf Tryz.prog 3 (.int .i64 x)=some (.int .i64 x):=keyOf_int_mk Tryz.underlying3 (zRp hx)
 have hm1:Mod zAb w (w.alloc (.cells #[] 119)):=(Mod.refl _ w).alloc _
 have HO:=Hmr (World.ownsMap.alloc hown (.cells #[] 119))
 have HHA:=Hmr hhas
 have HD:Hid (IsMap D):=hown.isMap
 clear hown hhas hd0
 go_enter Tryz.func244,Tryz.ntmps244
 go_wp2_with (first
  | (at_mapUpdate;refine wpList_mapUpdate_own _ rfl _ _ _ 81 rfl 3 119 kInt Tryz.underlying81 unitElem b _ D rfl HO.out (by unfold maxLen;omega) _ _ _ rfl rfl hkey _ [] unitElem_mk ?_)
  | fail)
 intro w1 hown1 hgrow1
 have hm2:Mod (zAd b) (w.alloc (.cells #[] 119)) w1:=(Mod.refl _ _).grown hgrow1 (fun k hk _=>by cases hk;exact rfl)
 have HDN:=Hmr (ySp HHA.out HD.out hLb (Nat.le_refl _) hx hown1)
 clear hown1 hgrow1 HO l1
 go_wp2_with fail
 go_ret
 exact ⟨rfl,HDN.out,(hm1.mono (fun _ _ e=>e.elim)).trans hm2⟩
theorem zZb(L q b:Nat)(v:Value)(ns:List Int)(w:World)(hv:zHt w v ns)(hsep:ns≠[]->∀ a n cap,v=.slice (some a) n cap->a.block≠b)(hq:w.cell? ⟨q,0,none⟩=some (.map (some b)))(hqb:q≠b)(hd:zEz w L (some b) [])(hin:∀ x∈ns,zBc x)(hn:ns.length<=1000000) :
  Calls Tryz.prog 174 #[v,.func (.func 244) #[] #[.pointer (some ⟨q,0,none⟩)]] w fun e w'=>∃ r:Int,e=.returned (.int .i64 r)/\decide (0<=r)=dupB [] ns/\Mod (zAd b) w w':=by
 obtain ⟨a,cap,rfl,hc1,hc2,hcl⟩:=hv
 unfold maxLen at hc2
 have HCL:=Hmr hcl
 have HIN:=Hmr hin
 have HSP:=Hmr hsep
 clear hcl hin hsep
 go_enter Tryz.func174,Tryz.ntmps174
 go_wp2_with fail
 go_loopw [8] (fun i wr=>∃ k:Nat,k<=ns.length/\i=.int .i64 k/\dupB [] ns=dupB (ns.take k) (ns.drop k)/\zEz wr L (some b) (ns.take k)/\Mod (zAd b) w wr) (fun i _=>ns.length - (intOf i).toNat)
 case atStart=>exact ⟨0,Nat.zero_le _,rfl,by simp,by simpa using hd,Mod.refl _ _⟩
 case round=>
  obtain ⟨k,hk,rfl,hdup,hdn,hM⟩:=hrel
  clear hd
  by_cases hlt:k<ns.length
  ·obtain ⟨y,hy⟩:∃ y,ns[k]?=some y:=⟨_,List.getElem?_eq_getElem hlt⟩
   rcases HCL.out with e | ⟨ab,off,rfl,hcl⟩
   ·rw [e] at hlt;simp at hlt
   have hab:ab≠b:=HSP.out (by intro e;rw [e] at hlt;simp at hlt) _ _ _ rfl
   have q0:=hM.cell (hcl k y hy) hab
   have hq1:=hM.cell hq hqb
   have hdr:ns.drop k=y :: ns.drop (k+1):=by
    rw [List.drop_eq_getElem_cons hlt]
    rw [List.getElem?_eq_getElem hlt] at hy
    simp at hy;rw [hy]
   have htk:ns.take (k+1)=ns.take k++[y]:=by
    rw [List.take_succ_eq_append_getElem hlt]
    rw [List.getElem?_eq_getElem hlt] at hy
    simp at hy;rw [hy]
   rw [hdr,dupB,<-htk] at hdup
   have HC:=yGt L q b (ns.take k) y wr hq1 hdn (HIN.out y (List.mem_of_getElem? hy)) (by rw [List.length_take];omega)
   rw [<-htk] at HC
   have HC':=Hmr HC
   have HDUP:=Hmr hdup
   have hltI:(k:Int)<(ns.length:Int):=by omega
   have hlt0:(0:Int)<=(k:Int):=by omega
   clear hcl hy HC hdup hdr htk hdn hq1
   go_wp2_with fail
   refine HC'.out.mono ?_
   rintro e w5 ⟨rfl,hdn5,hm5⟩
   have hM5:=hM.trans hm5
   clear HC' q0 hM
   by_cases hmem:y∈ns.take k
   ·rw [decide_eq_true hmem] at HDUP ⊢
    rw [Bool.true_or] at HDUP
    go_wp2_with fail
    go_ret
    exact ⟨k,rfl,by rw [HDUP.out];exact decide_eq_true hlt0,hM5⟩
   ·rw [decide_eq_false hmem] at HDUP ⊢
    rw [Bool.false_or] at HDUP
    go_wp2_with fail
    go_roundw
    case rel=>exact ⟨k+1,by omega,by go_num,HDUP.out,hdn5,hM5⟩
    case measure=>simp [intOf];omega
  ·obtain rfl:k=ns.length:=by omega
   rw [List.drop_length] at hdup
   have HDUP:=Hmr hdup
   clear hdup
   go_wp2_with fail
   go_ret
   exact ⟨-1,rfl,by rw [HDUP.out];rfl,hM⟩
theorem zZc(L q b:Nat)(v:Value)(ns:List Int)(w:World)(hv:zHt w v ns)(hsep:ns≠[]->∀ a n cap,v=.slice (some a) n cap->a.block≠b)(hq:w.cell? ⟨q,0,none⟩=some (.map (some b)))(hqb:q≠b)(hd:zEz w L (some b) [])(hin:∀ x∈ns,zBc x)(hn:ns.length<=1000000) :
  Calls Tryz.prog 117 #[v,.func (.func 244) #[] #[.pointer (some ⟨q,0,none⟩)]] w fun e w'=>e=.returned (.bool (dupB [] ns))/\Mod (zAd b) w w':=by
 have HI:=Hmr (zZb L q b v ns w hv hsep hq hqb hd hin hn)
 obtain ⟨a,cap,rfl,_⟩:=hv
 clear hq hd hin
 go_enter Tryz.func117,Tryz.ntmps117
 go_wp2_with fail
 refine HI.out.mono ?_
 rintro e w1 ⟨r,rfl,hr,hm⟩
 have HR:=Hmr hr
 clear hr
 go_wp2_with fail
 go_ret
 exact ⟨by rw [<-HR.out];rfl,hm⟩
theorem yKh(v:Value)(ns:List Int)(w:World)(hv:zHt w v ns)(hin:∀ x∈ns,zBc x)(hn:ns.length<=1000000) :
  Calls Tryz.prog 201 #[v] w fun e w'=>e=.returned (.bool (dupB [] ns))/\Mod zAb w w':=by
 have hmm:=@run_makeMap Tryz.prog
 have hv0:=hv
 obtain ⟨a,cap,rfl,hc1,hc2,hcl⟩:=hv0
 go_enter Tryz.func201,Tryz.ntmps201
 go_wp2_with fail
 have hm2:Mod zAb w ((w.alloc (.map #[] 0)).alloc (.cells #[.map (some w.heap.size)] 81)):=((Mod.refl _ w).alloc _).alloc _
 have hdn:zEz ((w.alloc (.map #[] 0)).alloc (.cells #[.map (some w.heap.size)] 81)) w.heap.size (some w.heap.size) []:=
  .inr ⟨w.heap.size,.map [],rfl,Nat.le_refl _,(World.ownsMap_made (H:=Unit) w Tryz.prog 3 unitElem).alloc _,fun x _=>by simp [Maps.has]⟩
 have hbq:=Blk.new (w.alloc (.map #[] 0)) [.map (some w.heap.size)] 81
 rw [World.size_alloc] at hbq
 refine (zZc w.heap.size (w.heap.size+1) w.heap.size _ ns _ (hv.quiet hm2) (fun hne a' n' cap' e=>?_) (hbq.cell 0 rfl) (by omega) hdn hin hn).mono ?_
 ·simp only [Value.slice.injEq] at e
  rcases hcl with e0 | ⟨ab,off,e1,h2⟩
  ·exact absurd e0 hne
  ·obtain ⟨x,hx⟩:∃ x,ns[0]?=some x:=⟨_,List.getElem?_eq_getElem (by cases ns with | nil=>exact absurd rfl hne | cons=>simp)⟩
   have:=World.block_lt_of_cell? w _ (h2 0 x hx)
   rw [e1] at e
   have e3:=e.1
   simp at e3
   rw [<-e3]
   simp only at this ⊢
   omega
 ·rintro e w3 ⟨rfl,hm3⟩
  go_wp2_with fail
  go_ret
  exact ⟨rfl,hm2.trans' hm3 (fun i hi e=>by simp only [zAd] at e;omega)⟩
theorem zHt.cells{w:World}{a:Option Addr}{n cap:Nat}{ns:List Int}(h:zHt w (.slice a n cap) ns)(h0:ns≠[]) :
  ∃ b off,a=some ⟨b,off,none⟩/\∀ (j:Nat) u,(ns.map (Value.int .i64))[j]?=some u->w.cell? ((⟨b,off,none⟩:Addr).add j)=some u:=by
 obtain ⟨a',cap',h1,_,_,h4⟩:=h
 simp only [Value.slice.injEq] at h1
 obtain ⟨rfl,_,rfl⟩:=h1
 rcases h4 with h4 | ⟨b,off,h5,h6⟩
 ·exact absurd h4 h0
 ·refine ⟨b,off,h5,fun j u hu=>?_⟩
  rw [Go.WideShapes.add_plain]
  rw [List.getElem?_map] at hu
  cases hj:ns[j]? with
  | none=>rw [hj] at hu;cases hu
  | some x=>rw [hj] at hu;cases hu;exact h6 j x hj
theorem Tryz.infoI:(Tryz.prog.info? 3).map (fun i=>(i.zero,i.size,i.bytes))=some (some (.int .i64 0),1,8):=by kernel_rfl
theorem yQr(ns:List Int):∀ u∈ns.map (Value.int .i64),u.oneCell'=true:=by
 intro u hu
 obtain ⟨x,_,rfl⟩:=List.mem_map.1 hu
 rfl
theorem yJf(v:Value)(ns:List Int)(w:World)(hv:zHt w v ns)(hne:ns≠[])(hn:ns.length<=1000000) :
  Calls Tryz.prog 203 #[v] w fun e w'=>∃ v',e=.returned v'/\w'.ownsRow w.heap.size 3 1 v' ns.length (ns.map (Value.int .i64))/\Mod zAb w w':=by
 obtain ⟨i0,hi,hz0,hz1,hz2⟩:=info_parts Tryz.infoI
 have hv0:=hv
 obtain ⟨a,cap,rfl,hc1,hc2,_⟩:=hv0
 obtain ⟨b,off,rfl,hcl⟩:=hv.cells hne
 have hm1:Mod zAb w (w.alloc (.cells #[] 3)):=(Mod.refl _ w).alloc _
 have HCL:Hid (∀ (j:Nat) u,(ns.map (Value.int .i64))[j]?=some u->(w.alloc (.cells #[] 3)).cell? ((⟨b,off,none⟩:Addr).add j)=some u):=fun j u hju=>hm1.cell (hcl j u hju) id
 have HO:Hid ((w.alloc (.cells #[] 3)).ownsRow w.heap.size 3 1 (.slice (some ⟨w.heap.size,0,none⟩) 0 0) 0 []):=
  ⟨rfl,.inr ⟨w.heap.size,0,#[],rfl,Nat.le_refl _,heap_alloc_new w _,Nat.le_refl _,by unfold maxLen;omega,rfl,rfl⟩⟩
 have HL:Hid ((ns.map (Value.int .i64)).length=ns.length*1):=by rw [Hid];simp
 have HON:=Hmr (yQr ns)
 have hk63:0+ns.length<=maxLen:=by unfold maxLen;omega
 have hk47:(0+ns.length)*8<=140737488355328:=by omega
 have hen:=run_eql_slice_nil (P:=Tryz.prog) w 94 3 (some ⟨b,off,none⟩) ns.length cap 0 0 Tryz.underlying94
 clear hcl hv
 go_enter Tryz.func203,Tryz.ntmps203
 go_wp2_with (first
  | (at_builtin;refine wpList_append_own _ rfl _ _ 94 rfl w.heap.size 3 i0 _ 1 8 Tryz.underlying94 hi hz0 hz1 hz2 rfl (by omega) _ _ _ rfl HO.out ⟨b,off,none⟩ _ _ (ns.map (Value.int .i64)) rfl HL.out HCL.out HON.out hk63 hk47 (by simp) ?_)
  | fail)
 intro v' w1 hown1 hgrow _
 have hm2:Mod (zDd w.heap.size) (w.alloc (.cells #[] 3)) w1:=(Mod.refl _ _).grown hgrow (fun x hx _=>by simp [Value.ownBlock] at hx;simp only [zDd];omega)
 have HW:=Hmr hown1
 clear hown1 hgrow HO HCL HL HON
 go_wp2_with fail
 go_ret
 exact ⟨_,rfl,by simpa using HW.out,hm1.since hm2 (Nat.le_refl _)⟩
def zQt(s:zAl)(ep:Int)(ns:List Int):zAl:=⟨s.id,ep,ns,s.log,s.stable⟩
def becN(s:zAl)(ep:Int)(ns:List Int):zAl:=if !inN s && inN (zQt s ep ns) then ⟨s.id,ep,ns,[],0⟩ else zQt s ep ns
theorem zAx.configured{w w5:World}{L:Lo}{g:Nat}{nv lv v5:Value}{s:zAl}{ep:Int}{ns:List Int}(h:zAx w L g nv lv s)(hm5:Mod zAb w w5)(ho:w5.ownsRow w.heap.size 3 1 v5 ns.length (ns.map (Value.int .i64)))(hep:zBc ep)(hns:∀ x∈ns,zBc x)(hl:ns.length<=1000000) :
  zAx ((w5.setCell ⟨g,1,none⟩ (.int .i64 ep)).setCell ⟨g,2,none⟩ v5) L g v5 lv (zQt s ep ns)/\Mod (zAd g) w ((w5.setCell ⟨g,1,none⟩ (.int .i64 ep)).setCell ⟨g,2,none⟩ v5):=by
 have h5:=h.quiet hm5
 obtain ⟨a1,a2,_⟩:=h.apart
 have hlow:=h.low
 have hgl:=h.blk.lt
 have hms:Mod (zAd g) w5 ((w5.setCell ⟨g,1,none⟩ (.int .i64 ep)).setCell ⟨g,2,none⟩ v5):=(Mod.setBlk g 1 _).trans (Mod.setBlk g 2 _)
 have hqs:Qm w5 L (zAd g):=Qm.of_node h5 (fun k _ e=>.inl e)
 refine ⟨⟨(h5.blk.set 1 _).set 2 _,h.low,zAn (zEk ho (by omega)) hms (fun k _ _ hk e=>?_),h5.lg.mod hms hqs (fun k hk e=>a2 (by rw [hk,e])),⟨h.ints.1,hep,hns⟩,⟨hl,h.few.2⟩,h.st,fun k hk=>Nat.lt_of_lt_of_le (h.xb k hk) (Nat.le_trans hm5.size hms.size)⟩,(hm5.mono (fun _ _ e=>e.elim)).trans hms⟩
 simp only [zAd] at e;subst e
 obtain ⟨h1,_,_⟩:=zAi ho hk
 omega
theorem zAx.emptied{w:World}{L:Lo}{g:Nat}{nv lv:Value}{s:zAl}(h:zAx w L g nv lv s) :
  zAx ((w.setCell ⟨g,3,none⟩ (.slice none 0 0)).setCell ⟨g,4,none⟩ (.int .i64 0)) L g nv (.slice none 0 0) ⟨s.id,s.epoch,s.nodes,[],0⟩/\Mod (zAd g) w ((w.setCell ⟨g,3,none⟩ (.slice none 0 0)).setCell ⟨g,4,none⟩ (.int .i64 0)):=by
 obtain ⟨a1,a2,_⟩:=h.apart
 have hms:Mod (zAd g) w ((w.setCell ⟨g,3,none⟩ (.slice none 0 0)).setCell ⟨g,4,none⟩ (.int .i64 0)):=(Mod.setBlk g 3 _).trans (Mod.setBlk g 4 _)
 exact ⟨⟨(h.blk.set 3 _).set 4 _,h.low,zAn h.ns hms (fun k _ _ hk e=>a1 (by rw [hk,e])),RowC.nil _ _,h.ints,⟨h.few.1,by simp⟩,by simp,fun k hk=>Nat.lt_of_lt_of_le (h.xb k hk) hms.size⟩,hms⟩
theorem yRp(L:Lo)(g:Nat)(nv lv:Value)(s:zAl)(ep:Int)(v:Value)(ns:List Int)(w:World)(h:zAx w L g nv lv s)(hgt:¬ ep<=s.epoch)(hep:zBc ep)(hv:zHt w v ns)(hin:∀ x∈ns,zBc x)(h1n:1<=ns.length)(h6n:ns.length<=6)(hdup:dupB [] ns=false) :
  Calls Tryz.prog 149 #[.pointer (some ⟨g,0,none⟩),.agg #[.int .i64 ep,v]] w fun e w'=>
   ∃ r nv' lv',e=.returned (.tuple #[r,.nilIface])/\zAx w' L g nv' lv' (zEd (becN s ep ns)).1/\RowM w' L r (zEd (becN s ep ns)).2/\zCr w r/\zCr w nv'/\zCf w lv lv'/\Mod (zAd g) w w':=by
 have hv0:=hv
 obtain ⟨ca,ccap,rfl,hc1,hc2,_⟩:=hv0
 obtain ⟨w1,hw1⟩:∃ q,q=w.alloc (.cells #[.int .i64 ep,.slice ca ns.length ccap] 177):=⟨_,rfl⟩
 have hm1:Mod zAb w w1:=by rw [hw1];exact (Mod.refl _ w).alloc _
 have hB1:Blk w1 w.heap.size [.int .i64 ep,.slice ca ns.length ccap] 177:=by rw [hw1];exact Blk.new w _ _
 have h1:=h.quiet hm1
 obtain ⟨c0,c1,c2,c3,c4⟩:=zFt h1.blk
 have x0:=hB1.cell 0 rfl
 have x1:=hB1.cell 1 rfl
 have z1:=hB1.lt
 have z2:=h1.blk.lt
 have z3:=h.blk.lt
 have hd:decide (ep<=s.epoch)=false:=decide_eq_false hgt
 have hd1:decide ((ns.length:Int)<1)=false:=decide_eq_false (by omega)
 have hd2:decide ((ns.length:Int) > 6)=false:=decide_eq_false (by omega)
 have HV:=Hmr (hv.quiet hm1)
 have HIN:=Hmr hin
 have HN:=Hmr h1
 clear h h1 hv hin
 go_enter Tryz.func149,Tryz.ntmps149
 go_upto_region 1 with fail
 rw [<-hw1]
 clear hw1
 go_quiet (fail)
 have HT:=yKh _ ns _ (HV.out.quiet ((Mod.refl zAb w1).drewN nq)) HIN.out (by omega)
 rw [hdup] at HT
 have HT':=Hmr HT
 clear HT hdup
 go_wp2_with fail
 refine HT'.out.mono ?_
 rintro e w3 ⟨rfl,hm3⟩
 have hm13:Mod zAb w1 w3:=((Mod.refl zAb w1).drewN nq).trans hm3
 have hN3:=HN.out.quiet hm13
 have HI:=Hmr (yAx L g nv lv s w3 hN3)
 clear HT' hm3 c0 c1 c2 c3 c4 x0 x1
 go_wp2_with fail
 refine HI.out.mono ?_
 rintro e w4 ⟨rfl,m4,rfl⟩
 have hm14:Mod zAb w1 (w3.drewN m4):=hm13.drewN m4
 have hN4:=hN3.drewN m4
 obtain ⟨w4,hw4⟩:∃ q,q=w3.drewN m4:=⟨_,rfl⟩
 rw [<-hw4] at hm14 hN4 ⊢
 have hB4:=hB1.mod hm14 id
 have x0:=hB4.cell 0 rfl
 have x1:=hB4.cell 1 rfl
 obtain ⟨c0,c1,c2,c3,c4⟩:=zFt hN4.blk
 have f1:=hN4.blk.frozen 1
 have f2:=hN4.blk.frozen 2
 have z4:=hB4.lt
 have z5:=hN4.blk.lt
 have hzz:=(hm1.trans hm14).size
 have HCL:=Hmr (yJf _ ns w4.drew (HV.out.quiet (hm14.drew)) (by intro e;rw [e] at h1n;simp at h1n) (by omega))
 clear HI hw4 hm13 hN3
 go_upto_region 6 with fail
 go_cut [6] (fun t wc=>t=.bool (inN s)/\∃ nv',zAx wc L g nv' lv (zQt s ep ns)/\zCr w nv'/\Mod (zAd g) w4 wc)
 case first=>
  go_region_with (first
   | (go_at_call 203;refine HCL.out.mono ?_;rintro e w5 ⟨v5,rfl,hown5,hm5⟩;have hm45:Mod zAb w4 w5:=((Mod.refl zAb w4).drew).trans hm5;have y0:=hm45.cell x0 id;have y1:=hm45.cell x1 id;have z7:=Nat.lt_of_lt_of_le z4 hm45.size;have d1:=hm45.cell c1 id;have d2:=hm45.cell c2 id;have e1:=(hm45.frozen (p:=⟨g,1,none⟩) z5 id).trans f1;have e2:=(hm45.frozen (p:=⟨g,2,none⟩) z5 id).trans f2;have z6:=Nat.lt_of_lt_of_le z5 hm45.size;obtain ⟨va5,vc5,rfl⟩:=zAg hown5)
   | fail)
  all_goals
   have R:=hN4.configured hm45 (zEk hown5 (Nat.le_refl _)) hep HIN.out (by omega)
   have hf5:zCr w (.slice va5 ns.length vc5):=fun k hk=>by
    have:=(zAi hown5 hk).1
    have h9:w4.drew.heap.size=w4.heap.size:=rfl
    omega
   go_wp2_with fail
   go_meet
   case rel=>exact ⟨rfl,_,R.1,hf5,R.2⟩
 case rest=>
  obtain ⟨rfl,nv5,hN5,hf5,hm45⟩:=hcut
  clear HCL c0 c1 c2 c3 c4 f1 f2 x0 x1 hN4 HN
  have hm05:Mod (zAd g) w wc:=((hm1.trans hm14).mono (fun _ _ e=>e.elim)).trans hm45
  have hz5:=hm05.size
  cases hin:inN s with
  | true=>
   have HB:Hid (becN s ep ns=zQt s ep ns):=by rw [Hid,becN,hin];rfl
   have HK:=Hmr (zLr L g nv5 lv _ wc hN5)
   rw [<-HB.out] at HK
   clear hN5
   go_wp2_with fail
   refine HK.out.mono ?_
   rintro e w6 ⟨r,rfl,hN6,hR6,hf6,hm6⟩
   clear HK
   go_wp2_with fail
   refine bodyPost_ret (results_tmp2 rfl _ _ _) rfl ⟨r,nv5,lv,rfl,hN6,hR6,fun k hk=>Nat.le_trans hz5 (hf6 k hk),hf5,zCf.refl _ _,hm05.trans hm6⟩
  | false=>
   have HI:=yAx L g nv5 lv _ wc hN5
   cases hin2:inN (zQt s ep ns) with
   | false=>
    rw [hin2] at HI
    have HI':=Hmr HI
    have HB:Hid (becN s ep ns=zQt s ep ns):=by rw [Hid,becN,hin,hin2];rfl
    have HN5:=Hmr hN5
    clear HI hN5
    go_wp2_with fail
    refine HI'.out.mono ?_
    rintro e w6 ⟨rfl,m6,rfl⟩
    have HK:=Hmr (zLr L g nv5 lv _ _ (HN5.out.drewN m6))
    rw [<-HB.out] at HK
    clear HI'
    go_wp2_with fail
    refine HK.out.mono ?_
    rintro e w7 ⟨r,rfl,hN7,hR7,hf7,hm7⟩
    clear HK
    go_wp2_with fail
    refine bodyPost_ret (results_tmp2 rfl _ _ _) rfl ⟨r,nv5,lv,rfl,hN7,hR7,fun k hk=>Nat.le_trans hz5 (hf7 k hk),hf5,zCf.refl _ _,(hm05.drewN m6).trans hm7⟩
   | true=>
    rw [hin2] at HI
    have HI':=Hmr HI
    have HB:Hid (becN s ep ns=⟨s.id,ep,ns,[],0⟩):=by rw [Hid,becN,hin,hin2];rfl
    have HN5:=Hmr hN5
    clear HI hN5
    go_wp2_with fail
    refine HI'.out.mono ?_
    rintro e w6 ⟨rfl,m6,rfl⟩
    have hN6:=HN5.out.drewN m6
    obtain ⟨hN7,hm7⟩:=hN6.emptied
    obtain ⟨c0,c1,c2,c3,c4⟩:=zFt hN6.blk
    have f3:=hN6.blk.frozen 3
    have f4:=hN6.blk.frozen 4
    have z6:=hN6.blk.lt
    have HK:=Hmr (zLr L g nv5 (.slice none 0 0) _ _ hN7)
    have hbe:(⟨(zQt s ep ns).id,(zQt s ep ns).epoch,(zQt s ep ns).nodes,[],0⟩:zAl)=becN s ep ns:=by rw [HB.out];rfl
    rw [hbe] at HK
    have HM7:=Hmr hm7
    obtain ⟨la,lcap,hlv⟩:=hN6.lg.slice
    subst hlv
    clear HI' hN6 hN7 hbe hm7
    go_wp2_with fail
    refine HK.out.mono ?_
    rintro e w8 ⟨r,rfl,hN8,hR8,hf8,hm8⟩
    clear HK
    go_wp2_with fail
    refine bodyPost_ret (results_tmp2 rfl _ _ _) rfl ⟨r,nv5,.slice none 0 0,rfl,hN8,hR8,fun k hk=>Nat.le_trans hz5 (by simpa using hf8 k hk),hf5,.inr (fun k hk=>by simp [Value.ownBlock] at hk),((hm05.drewN m6).trans HM7.out).trans hm8⟩
end Go.Proofs.YtogaigioeohjaaaGreatDoor
