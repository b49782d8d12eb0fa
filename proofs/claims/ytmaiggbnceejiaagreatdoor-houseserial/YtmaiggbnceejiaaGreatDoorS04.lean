import Derived.Test.YtmaiggbnceejiaaGreatDoorS03
import Derived.WalkSpells
import Derived.Lib.SliceRun
set_option linter.unusedVariables false
set_option maxRecDepth 100000
set_option maxHeartbeats 16000000
namespace Go.Proofs.YtmaiggbnceejiaaGreatDoor
open Go.RowKit Go.Lib Go.Maps
def nI(s:eK)(l:List dv):eK:=⟨s.id,s.dk,s.nodes,l,s.gz⟩
def mw(s:eK)(c:dv):eK × List dw:=if vy s then kz (nI s (s.log++[c])) else (nI s (s.log++[c]),match iE s 1 with
 | none=>[]
 | some t=>[nU s t s.log.length c])
theorem yMt(s:eK)(l:List dv):vy (nI s l)=vy s:=rfl
theorem yRu{s:eK}(hi:oR s=true)(ht:vy s=false):∃ t,iE s 1=some t:=by
 simp only [oR,bA] at hi;rcases zSa s with e | ⟨k,e,_,hk⟩
 ·omega
 ·have hne:¬ (sS s=(s.nodes.length:Int) - 1):=by
   intro h2;have:vy s=true:=by unfold vy oR;rw [aQ hi,h2];simp
   rw [this] at ht;cases ht
  obtain ⟨t,ht2⟩:∃ t,s.nodes[k+1]?=some t:=⟨_,aA (by omega)⟩;refine ⟨t,?_⟩;have h3:(sS s+1).toNat=k+1:=by omega
  have h1:oR s=true:=by simp only [oR,bA];exact hi
  unfold iE;rw [h1,aQ (show (0:Int)<=sS s+1 by omega),aQ (show sS s+1<(s.nodes.length:Int) by omega),h3];simpa using ht2
theorem Mod.node{w w1 w2:World}{g:Nat}{nv v v':Value}(h:Mod (gw g nv v) w w1)(hm:iF w v v')(k:Mod (gw g nv v') w1 w2):Mod (gw g nv v) w w2:=
 h.trans' k (fun i hi e=>by
  rcases e with e | e | e
  ·exact .inl e
  ·exact .inr (.inl e)
  ·rcases hm with hm | hm
   ·exact .inr (.inr (by rw [<-hm];exact e))
   ·have:=hm i e;omega)
theorem fe.logged{w w6:World}{L:Lo}{g:Nat}{nv lv v6:Value}{s:eK}{cs:List dv}(h:fe w L g nv lv s)(fs:Mod (fun k=>lv.ownBlock=some k) w w6)(hR:gZ w6 L v6 cs)(hv:v6.ownBlock=lv.ownBlock\/∀ k,v6.ownBlock=some k->w.heap.size<=k)(hf:cs.length<=500)(hst:s.gz<=cs.length) :
  fe (w6.setCell ⟨g,3,none⟩ v6) L g nv v6 (nI s cs)/\Mod (gw g nv lv) w (w6.setCell ⟨g,3,none⟩ v6):=by
 obtain ⟨a1,a2,a3⟩:=h.apart;have nQ:dg w6 g [.int .i64 s.id,.int .i64 s.dk,nv,lv,.int .i64 s.gz] 132:=h.blk.mod fs a2;have tP:=nQ;simp only [dg] at tP;have ib:Mod (eA g) w6 (w6.setCell ⟨g,3,none⟩ v6):=Mod.dt g 3 _;have Hz:Qm w6 L (eA g):=fun k _ e=>by
  simp only [eA] at e;subst e;rintro (e | ⟨⟨cur,fr,e⟩,_⟩)
  ·have:=h.low;omega
  ·rw [tP] at e;simp at e
 have hlt:=h.blk.lt;refine ⟨⟨nQ.set 3 _,h.low,fm (fm h.ns fs (fun k _ _ hk e=>a3 k hk e)) ib (fun k _ _ hk e=>a1 (by rw [hk,e])),hR.mod ib Hz (fun k hk e=>?_),h.ints,⟨h.few.1,hf⟩,⟨h.st.1,hst⟩,fun k hk=>aH (h.xb k hk) (aJ fs.size ib.size)⟩,?_⟩
 ·simp only [eA] at e;subst e;rcases hv with e | e
  ·exact a2 (by rw [<-e];exact hk)
  ·have:=e _ hk;omega
 exact (fs.mono (fun i _ e=>.inr (.inr e))).setCell (p:=⟨g,3,none⟩) (fun _=>.inl rfl) _
theorem yIa(L:Lo)(g:Nat)(nv lv:Value)(s:eK)(c:dv)(u:Value)(w:World)(h:fe w L g nv lv s)(hin:oR s=true)(hro:s.log.length<500)(hu:iH w L u c.writes)(uQ:CY c) :
  Calls Tryz.prog 103 #[.pointer (some ⟨g,0,none⟩),.agg #[.int .i64 c.kind,.int .i64 c.tx,.int .i64 c.time,u]] w fun e w'=>
   ∃ v ja,e=.returned v/\fe w' L g nv ja (mw s c).1/\eV w' L v (mw s c).2/\lC w v/\iF w lv ja/\Mod (gw g nv lv) w w':=by
 obtain ⟨i0,hi,hz0,hz1,hz2⟩:=info_parts Tryz.AE;obtain ⟨ua,dp,rfl⟩:∃ ua dp,u=.slice ua c.writes.length dp:=by obtain ⟨ua,dp,h,_⟩:=hu;exact ⟨ua,dp,h⟩
 obtain ⟨w1,hw1⟩:∃ q,q=w.alloc (.cells #[.int .i64 c.kind,.int .i64 c.tx,.int .i64 c.time,.slice ua c.writes.length dp] 65):=⟨_,rfl⟩;have dh:Mod dZ w w1:=by rw [hw1];exact (Mod.refl _ w).alloc _
 have ff:dg w1 w.heap.size [.int .i64 c.kind,.int .i64 c.tx,.int .i64 c.time,.slice ua c.writes.length dp] 65:=by rw [hw1];exact dg.new w _ _
 have h1:=h.quiet dh;have xh:=dh.size;obtain ⟨la,ey,hlv⟩:=h1.lg.slice;subst hlv;obtain ⟨c0,c1,c2,c3,c4⟩:=mQ h1.blk;have f3:=h1.blk.frozen 3;obtain ⟨x0,x1,x2,x3,_⟩:=td ff;have vM:=h1.blk.lt;have hbz:=ff.lt;have HU:Hid (iH w1.drew L (.slice ua c.writes.length dp) c.writes):=(hu.mod dh (Qm.none _ _)).mod ((Mod.refl dZ w1).drew) (Qm.none _ _);have wW:c.writes.length<=1000000:=by have:=uQ.2;omega
 have iJ:s.log.length+1<=maxLen:=by unfold maxLen;omega
 have iK:(s.log.length+1)*48<=140737488355328:=by omega
 obtain ⟨us,mD,hrow,hps,hgd⟩:=h1.lg;have fY:=dq hrow;have rI:=dq hps;have vp:=dq hgd;have Ld:=dq h1.apart;have zH:=dq h1;have kD:=h1.low;have hst:=h1.st;clear h hu h1 hrow hps hgd;go_enter Tryz.func103,Tryz.ntmps103;go_upto_region 1 with fail;rw [<-hw1];clear hw1;go_upto_region 2 with fail;go_cut [] (fun wc=>∃ ja,fe wc L g nv ja (nI s (s.log++[c]))/\iF w1 (.slice la s.log.length ey) ja/\Mod (gw g nv (.slice la s.log.length ey)) w1 wc)
 case first=>
  go_region_law
   ((first
    | (go_simp;go_at_call 72;(refine (TS L c _ _ HU.out wW).mono ?_;rintro e w5 ⟨uo,rfl,iZ,eP⟩;obtain ⟨Gh,Gg,rfl⟩:=eu iZ;have jD:Mod dZ w1 w5:=(((Mod.refl dZ w1).drew).trans eP);have d3:=jD.cell c3 id;have e3:=(jD.frozen (p:=⟨g,3,none⟩) vM id).trans f3;have z5:=jD.size;have gz5:g<w5.heap.size:=aH vM z5;have zE:=dq (fm fY.out jD (fun _ _ _ _=>id))))
    | (refine step_append_lies _ (by rfl) _ _ _ (by rfl) L 65 i0 _ 4 48 Tryz.underlying62 hi hz0 hz1 hz2 rfl (by omega) _ _ _ (by rfl) (zE.out.alloc _) ⟨w5.heap.size,0,none⟩ 1 1 (wD c (.slice Gh c.writes.length Gg)) (by rfl) (by rfl) (World.news_of_block (heap_alloc_new w5 _)) (yPo _ _ _ _) (by omega) iJ iK (by simp;omega) _ rfl ?_;intro g6 lT w6 iC hgrow hat DV;have ik:Mod (fun k=>(Value.slice la s.log.length ey).ownBlock=some k) w5 w6:=((Mod.refl _ w5).alloc _).grown hgrow (fun x hx _=>hx);have d6:=ik.cell d3 Ld.out.2.1;have e6:=(ik.frozen (p:=⟨g,3,none⟩) (aH vM z5) Ld.out.2.1).trans e3)
    | fail))
  all_goals
  have mj:=zH.out.quiet jD;have vQ:gZ w6 L (.slice (some ⟨g6,0,none⟩) (s.log.length+1) lT) (s.log++[c]):=gZ.snoc mD (fm fY.out jD (fun _ _ _ _=>id)) (fun i m u h1 h2=>(rI.out i m u h1 h2).mod jD (Qm.none _ _)) vp.out (iH.iA iZ (fun k hk=>zH.out.xb k hk)) uQ ik iC;have hloc:(Value.slice (some ⟨g6,0,none⟩) (s.log.length+1) lT).ownBlock=(Value.slice la s.log.length ey).ownBlock\/∀ k,(Value.slice (some ⟨g6,0,none⟩) (s.log.length+1) lT).ownBlock=some k->w5.heap.size<=k:=by
   rcases hat with e | e
   ·exact .inl (by rw [e];rfl)
   ·exact .inr (fun k hk=>by simp [Value.ownBlock] at hk;simp at e;omega)
  have R:=mj.logged ik vQ hloc (by simp;omega) (by simp;omega);have HR:=dq R;have HL:Hid (iF w1 (.slice la s.log.length ey) (.slice (some ⟨g6,0,none⟩) (s.log.length+1) lT)):=by
   rcases hloc with e | e
   ·exact .inl e
   ·exact .inr (fun k hk=>aJ z5 (e k hk))
  have HM:Hid (Mod (gw g nv (.slice la s.log.length ey)) w1 w5):=jD.mono (fun _ _ e=>e.elim);clear R vQ iC hgrow hat hloc iZ mj;go_wp2_with fail;go_meet
  case rel=>exact ⟨_,HR.out.1,HL.out,HM.out.trans HR.out.2⟩
 case rest=>
  obtain ⟨Ka,lO,II,hm2⟩:=hcut;clear fY rI vp Ld zH HU c0 c1 c2 c3 c4 f3 x0 x1 x2 x3 vM hbz ff;have HT:=dq (yHe L g nv Ka _ wc lO);rw [yMt] at HT;have hmv:iF w (.slice la s.log.length ey) Ka:=by
   rcases II with e | e
   ·exact .inl e
   ·exact .inr (fun k hk=>aJ xh (e k hk))
  have xq:Mod (gw g nv (.slice la s.log.length ey)) w wc:=(dh.mono (fun _ _ e=>e.elim)).trans hm2;have NS:=xq.size;go_wp2_with fail;refine HT.out.mono ?_;rintro e w3 ⟨rfl,m3,rfl⟩;have qy:=lO.drewN m3;have OM:Mod (gw g nv (.slice la s.log.length ey)) w (wc.drewN m3):=xq.drewN m3
  cases ht:vy s with
  | true=>
   have HG:Hid (mw s c=kz (nI s (s.log++[c]))):=by rw [Hid,mw,ht];rfl
   have HK:=dq (MD L g nv Ka _ _ qy);clear HT lO qy hm2 II;go_wp2_with fail;refine HK.out.mono ?_;rintro e w4 ⟨v,rfl,sY,PE,Kp,gR⟩;clear HK;go_wp2_with fail;go_ret;exact ⟨v,Ka,rfl,by rw [HG.out];exact sY,by rw [HG.out];exact PE,fun k hk=>aJ NS (Kp k hk),hmv,OM.node hmv (gR.mono (fun i _ e=>.inl e))⟩
  | false=>
   obtain ⟨t,hnt⟩:=yRu hin ht;have HG:Hid (mw s c=(nI s (s.log++[c]),[nU s t s.log.length c])):=by rw [Hid,mw,ht,hnt];rfl
   have HF:=zUr L g nv Ka (nI s (s.log++[c])) t s.log.length _ qy hnt (by omega);have hfl:ml (nI s (s.log++[c])) t s.log.length 1=[nU s t s.log.length c]:=by
    simp [ml,nU,nI]
   rw [aV,show (nI s (s.log++[c])).log.length - s.log.length=1 by simp [nI],hfl] at HF;have HF':=dq HF;have CU:=dq qy;clear HT lO qy hm2 II HF hfl;go_wp2_with fail;refine HF'.out.mono ?_;rintro e w4 ⟨v,rfl,PE,Kp,gR⟩;clear HF';go_wp2_with fail;go_ret;exact ⟨v,Ka,rfl,by rw [HG.out];exact CU.out.quiet gR,by rw [HG.out];exact PE,fun k hk=>aJ NS (Kp k hk),hmv,OM.trans (gR.mono (fun _ _ e=>e.elim))⟩
theorem yVc{s:eK}(h:mW s=true):oR s=true:=by
 simp only [mW,beq_iff_eq] at h;simp [oR,h]
theorem yTt(L:Lo)(g:Nat)(nv lv:Value)(s:eK)(c:dv)(u:Value)(w:World)(h:fe w L g nv lv s)(hh:mW s=true)(hf:s.log.length<500)(hu:iH w L u c.writes)(uQ:CY c) :
  Calls Tryz.prog 81 #[.pointer (some ⟨g,0,none⟩),.agg #[.int .i64 c.kind,.int .i64 c.tx,.int .i64 c.time,u]] w fun e w'=>
   ∃ v ja,e=.returned (.tuple #[.int .i64 s.log.length,v,.nilIface])/\fe w' L g nv ja (mw s c).1/\eV w' L v (mw s c).2/\lC w v/\iF w lv ja/\Mod (gw g nv lv) w w':=by
 obtain ⟨ua,dp,rfl⟩:∃ ua dp,u=.slice ua c.writes.length dp:=by obtain ⟨ua,dp,h,_⟩:=hu;exact ⟨ua,dp,h⟩
 obtain ⟨w1,hw1⟩:∃ q,q=w.alloc (.cells #[.int .i64 c.kind,.int .i64 c.tx,.int .i64 c.time,.slice ua c.writes.length dp] 65):=⟨_,rfl⟩;have dh:Mod dZ w w1:=by rw [hw1];exact (Mod.refl _ w).alloc _
 have ff:dg w1 w.heap.size [.int .i64 c.kind,.int .i64 c.tx,.int .i64 c.time,.slice ua c.writes.length dp] 65:=by rw [hw1];exact dg.new w _ _
 have h1:=h.quiet dh;obtain ⟨la,ey,hlv⟩:=h1.lg.slice;subst hlv;have hz1:=dh.size;have HH:=ySt L g nv _ s _ h1;rw [hh] at HH;have HH':=dq HH;have HN:=dq h1;have HU:=dq (hu.mod dh (Qm.none _ _));clear h HH h1 hu;go_enter Tryz.func81,Tryz.ntmps81;go_upto_region 1 with fail;rw [<-hw1];clear hw1;go_wp2_with fail;refine HH'.out.mono ?_;rintro e w2 ⟨rfl,m1,rfl⟩;have h2:=HN.out.drewN m1;have HR:=RC L g nv _ s _ h2;rw [aQ hf] at HR;have Sr:=dq HR;obtain ⟨c0,c1,c2,c3,c4⟩:=mQ h2.blk;have vM:=h2.blk.lt;obtain ⟨x0,x1,x2,x3,_⟩:=td (ff.mod ((Mod.refl dZ w1).drewN m1) id);have HG:=dq (yIa L g nv _ s c (.slice ua c.writes.length dp) _ h2 (yVc hh) hf (HU.out.mod ((Mod.refl dZ w1).drewN m1) (Qm.none _ _)) uQ);clear HR HH' HN h2 HU;go_wp2_with fail;refine Sr.out.mono ?_;rintro e w3 ⟨rfl,rfl⟩;go_wp2_with fail;refine HG.out.mono ?_;rintro e w4 ⟨v,lv4,rfl,sY,PE,Kp,hv4,gR⟩;clear HG Sr x0 x1 x2 x3 c0 c1 c2 c3 c4;go_wp2_with fail;refine bodyPost_ret (results_tmp3 rfl _ _ _) rfl ⟨v,lv4,rfl,sY,PE,fun k hk=>aJ hz1 (Kp k hk),?_,?_⟩
 ·rcases hv4 with e | e
  ·exact .inl e
  ·exact .inr (fun k hk=>aJ hz1 (e k hk))
 ·exact ((dh.drewN m1).mono (fun _ _ e=>e.elim)).trans gR
theorem yNq(w:World)(n:Nat)(cur:Array Value)(hc:cur.size=n*4)(hm:n<=maxLen):(w.alloc (.cells cur 65)).ownsRow w.heap.size 65 4 (.slice (some ⟨w.heap.size,0,none⟩) 0 n) 0 []:=
 ⟨rfl,.inr ⟨w.heap.size,n,cur,rfl,aF _,heap_alloc_new w _,aT _,hm,hc,by simp⟩⟩
theorem Lq(L:Lo)(g:Nat)(nv lv:Value)(s:eK)(w:World)(h:fe w L g nv lv s) :
  Calls Tryz.prog 40 #[.pointer (some ⟨g,0,none⟩)] w fun e w'=>∃ v,e=.returned v/\gZ w' L v s.log/\lC w v/\Mod dZ w w':=by
 obtain ⟨i0,hi,hz0,hz1,hz2⟩:=info_parts Tryz.AE;obtain ⟨a,cap,hlv⟩:=h.lg.slice;subst hlv;have c0:=h.blk.cell 3 rfl;have hf:=h.few.2;have kD:=h.low;have hgl:=h.blk.lt;have hmk:=run_make (P:=Tryz.prog) w 62 65 i0 _ Tryz.underlying62 hi hz0 .i64 .i64 0 s.log.length (by omega) (by omega) (by rw [hz2];omega) (by omega);rw [hz1] at hmk;simp only [aV,Int.toNat_zero] at hmk;obtain ⟨cur,fN⟩:∃ c,c=madeCells (Value.agg #[.int .i64 0,.int .i64 0,.int .i64 0,.slice none 0 0]).cells (s.log.length*4):=⟨_,rfl⟩;rw [<-fN] at hmk;have hcs:cur.size=s.log.length*4:=by rw [fN];simp [madeCells]
 clear fN;have FY:gZ (w.alloc (.cells cur 65)) L (.slice (some ⟨w.heap.size,0,none⟩) 0 s.log.length) []:=
  ⟨[],rfl,uL (yNq w s.log.length cur hcs (by unfold maxLen;omega)) (by omega),fun i m u h=>by simp at h,by simp⟩
 have LA:Mod dZ w (w.alloc (.cells cur 65)):=(Mod.refl _ w).alloc _;have c1:=LA.cell c0 id;have HN:=dq h;clear h;go_enter Tryz.func40,Tryz.ntmps40;go_wp2_with fail;go_loopw [3,17] (fun v i wr=>∃ k:Nat,k<=s.log.length/\i=.int .i64 k/\gZ wr L v (s.log.take k)/\lC w v/\Mod dZ w wr) (fun _ i _=>s.log.length - (intOf i).toNat)
 case atStart=>exact ⟨0,aT _,rfl,FY,fun x hx=>by simp [Value.ownBlock] at hx;omega,LA⟩
 case round=>
  obtain ⟨k,hk,rfl,hR,gI,hM⟩:=hrel;clear FY LA c1 c0 hmk;have hNr:=HN.out.quiet hM;by_cases hlt:k<s.log.length
  ·obtain ⟨c,hc⟩:∃ c,s.log[k]?=some c:=⟨_,aA hlt⟩;obtain ⟨b,yJ,u,hv,_,_,hu,uQ,q0,q1,q2,q3⟩:=hNr.lg.at hc;simp only [Value.slice.injEq] at hv;obtain ⟨rfl,_,rfl⟩:=hv;obtain ⟨ua,dp,rfl⟩:∃ ua dp,u=.slice ua c.writes.length dp:=by obtain ⟨ua,dp,h,_⟩:=hu;exact ⟨ua,dp,h⟩
   have HT:Hid (s.log.take (k+1)=s.log.take k++[c]):=by
    rw [Hid,au hlt];rw [aA hlt] at hc;simp at hc;rw [hc]
   have oM:Hid ((s.log.take k).length=k):=by rw [Hid,aZ];omega
   have dh:Mod dZ wr (wr.alloc (.cells #[.int .i64 c.kind,.int .i64 c.tx,.int .i64 c.time,.slice ua c.writes.length dp] 65)):=(Mod.refl _ wr).alloc _;have HOM:=dq (TS L c _ _ (hu.mod dh (Qm.none _ _)) (by have:=uQ.2;omega));go_wp2_with fail;refine HOM.out.mono ?_;rintro e w5 ⟨uo,rfl,iZ,eP⟩;obtain ⟨Gh,Gg,rfl⟩:=eu iZ;have AY:=dh.trans eP;have sX:=hR.mod AY (Qm.none _ _) (fun _ _=>id);obtain ⟨us,mD,hrow,hps,hgd⟩:=sX;have fY:=dq hrow;have rI:=dq hps;have vp:=dq hgd;have HU:=dq (iH.iA (L:=L) iZ (fun k hk=>aH (HN.out.xb k hk) (hM.trans dh).size));have wZ:=hM.trans AY;have FD:=wZ.size;rw [oM.out] at fY;have iJ:k+1<=maxLen:=by unfold maxLen;omega
   have iK:(k+1)*48<=140737488355328:=by omega
   clear hrow hps hgd iZ HOM hR hu eP dh q0 q1 q2 q3;go_wp2_with (first
    | (at_builtin;refine wpList_append_own_at _ rfl (.tmp 21) (.tmp 24) 62 rfl L 65 i0 _ 4 48 Tryz.underlying62 hi hz0 hz1 hz2 rfl (by omega) _ _ _ rfl (fY.out.alloc _) ⟨w5.heap.size,0,none⟩ 1 1 (wD c (.slice Gh c.writes.length Gg)) rfl rfl (World.news_of_block (heap_alloc_new w5 _)) (yPo _ _ _ _) iJ iK (by simp;omega) ?_)
    | fail)
   intro v6 w6 iC hgrow _ hloc;have fs:Mod (fun k=>u3.ownBlock=some k) w5 w6:=((Mod.refl _ w5).alloc _).grown hgrow (fun x hx _=>hx);have vQ:gZ w6 L v6 (s.log.take k++[c]):=gZ.snoc mD (by rw [oM.out];exact fY.out) rI.out vp.out HU.out uQ fs (by rw [oM.out];exact iC);have CM:Mod dZ w w6:=wZ.trans' fs (fun i hi e=>by have:=gI i e;omega);have Xv:lC w v6:=fun x hx=>by
    rcases hloc with e | e
    ·exact gI x (by rw [<-e];exact hx)
    ·rw [e] at hx;simp at hx;omega
   clear iC hgrow hloc fY rI vp HU wZ hM fs;go_wp2_with fail;go_roundw
   case rel=>exact ⟨k+1,by omega,by go_num,by rw [HT.out];exact vQ,Xv,CM⟩
   case measure=>simp [intOf];omega
  ·have hkn:k=s.log.length:=by omega
   subst hkn;rw [bJ] at hR;go_wp2_with fail;go_ret;exact ⟨_,rfl,hR,gI,hM⟩
theorem jA.quiet{w w':World}{v:Value}{ns:List Int}(h:jA w v ns)(hm:Mod dZ w w'):jA w' v ns:=by
 obtain ⟨a,cap,h1,h2,h3,h4⟩:=h;refine ⟨a,cap,h1,h2,h3,?_⟩;rcases h4 with h4 | ⟨b,off,h5,h6⟩
 ·exact .inl h4
 ·exact .inr ⟨b,off,h5,fun j x hx=>hm.cell (h6 j x hx) id⟩
def qG:List Int->List Int->Bool
 | _,[]=>false
 | seen,x :: xs=>decide (x∈seen) || qG (seen++[x]) xs
theorem zXt:∀ (xs seen:List Int),qG seen xs=false↔xs.Nodup/\∀ x∈xs,x∉seen
 | [],seen=>by simp [qG]
 | x :: xs,seen=>by
  simp only [qG,Bool.or_eq_false_iff,bw,zXt xs (seen++[x]),List.nodup_cons,bV,aN];constructor
  ·rintro ⟨h1,h2,h3⟩;exact ⟨⟨fun hx=>(h3 x hx) (.inr (by simp)),h2⟩,fun y hy=>by
    rcases hy with rfl | hy
    ·exact h1
    ·exact fun hs=>h3 y hy (.inl hs)⟩
  ·rintro ⟨⟨h1,h2⟩,h3⟩;refine ⟨h3 x (.inl rfl),h2,fun y hy hs=>?_⟩;rcases hs with hs | hs
   ·exact h3 y (.inr hy) hs
   ·simp at hs;subst hs;exact h1 hy
theorem yUq{w':World}{L b n:Nat}{ds:List Int}{D:DataW Unit}{x:Int}(hd:∀ x,(Lit.int .i64 x).wf=true->Maps.has D (.int .i64 x)=decide (x∈ds))(hD:IsMap D)(hb:L<=b)(hn:n<=ds.length)
  (hid:gO x) (h:w'.ownsMap Tryz.prog 3 unitElem b (n+1) (D.put (.int .i64 x) (.agg []))):pf w' L (some b) (ds++[x]):=by
 refine .inr ⟨b,_,rfl,hb,h.mono (by simp;omega),fun y hy=>?_⟩;by_cases e:y=x
 ·subst e;rw [has_put_same hD (by simp [WideAt.IsKeyLit])];simp
 ·rw [has_put_other (by intro h;cases h;exact e rfl),hd y hy];simp [e]
theorem yIz(L q b:Nat)(ds:List Int)(x:Int)(w:World)(hq:w.cell? ⟨q,0,none⟩=some (.map (some b)))(hd:pf w L (some b) ds)(hx:gO x)(hds:ds.length<=1000000) :
  Calls Tryz.prog 165 #[.int .i64 x,.pointer (some ⟨q,0,none⟩)] w fun e w'=>e=.returned (.bool (decide (x∈ds)))/\pf w' L (some b) (ds++[x])/\Mod (eA b) w w':=by
 have l1:=GV hd hx;have XL:q<w.heap.size:=World.block_lt_of_cell? w _ hq;have hd0:=hd;rcases hd with ⟨e,_⟩ | ⟨b',D,e,Dk,hown,hhas⟩
 ·cases e
 cases e
 have hkey:keyOf Tryz.prog 3 (.int .i64 x)=some (.int .i64 x):=keyOf_int_mk Tryz.underlying3 (Lm hx);have dh:Mod dZ w (w.alloc (.cells #[] 158)):=(Mod.refl _ w).alloc _;have HO:=dq (World.ownsMap.alloc hown (.cells #[] 158));have Ja:=dq hhas;have HD:Hid (IsMap D):=hown.isMap;clear hown hhas hd0;go_enter Tryz.func165,Tryz.ntmps165;go_wp2_with (first
  | (at_mapUpdate;refine wpList_mapUpdate_own _ rfl _ _ _ 75 rfl 3 158 zz Tryz.underlying75 unitElem b _ D rfl HO.out (by unfold maxLen;omega) _ _ _ rfl rfl hkey _ [] unitElem_mk ?_)
  | fail)
 intro w1 hown1 hgrow1;have hm2:Mod (eA b) (w.alloc (.cells #[] 158)) w1:=(Mod.refl _ _).grown hgrow1 (fun k hk _=>by cases hk;exact rfl);have tu:=dq (yUq Ja.out HD.out Dk (aF _) hx hown1);clear hown1 hgrow1 HO l1;go_wp2_with fail;go_ret;exact ⟨rfl,tu.out,(dh.mono (fun _ _ e=>e.elim)).trans hm2⟩
theorem yAr(L q b:Nat)(v:Value)(ns:List Int)(w:World)(hv:jA w v ns)(DK:ns≠[]->∀ a n cap,v=.slice (some a) n cap->a.block≠b)(hq:w.cell? ⟨q,0,none⟩=some (.map (some b)))(DN:q≠b)(hd:pf w L (some b) [])(hin:∀ x∈ns,gO x)(hn:ns.length<=1000000) :
  Calls Tryz.prog 134 #[v,.func (.func 165) #[] #[.pointer (some ⟨q,0,none⟩)]] w fun e w'=>∃ r:Int,e=.returned (.int .i64 r)/\decide (0<=r)=qG [] ns/\Mod (eA b) w w':=by
 obtain ⟨a,cap,rfl,hc1,hc2,hcl⟩:=hv;unfold maxLen at hc2;have rJ:=dq hcl;have mY:=dq hin;have Pr:=dq DK;clear hcl hin DK;go_enter Tryz.func134,Tryz.ntmps134;go_wp2_with fail;go_loopw [8] (fun i wr=>∃ k:Nat,k<=ns.length/\i=.int .i64 k/\qG [] ns=qG (ns.take k) (ns.drop k)/\pf wr L (some b) (ns.take k)/\Mod (eA b) w wr) (fun i _=>ns.length - (intOf i).toNat)
 case atStart=>exact ⟨0,aT _,rfl,by simp,by simpa using hd,Mod.refl _ _⟩
 case round=>
  obtain ⟨k,hk,rfl,sG,oV,hM⟩:=hrel;clear hd;by_cases hlt:k<ns.length
  ·obtain ⟨y,hy⟩:∃ y,ns[k]?=some y:=⟨_,aA hlt⟩;rcases rJ.out with e | ⟨ab,off,rfl,hcl⟩
   ·rw [e] at hlt;simp at hlt
   have hab:ab≠b:=Pr.out (by intro e;rw [e] at hlt;simp at hlt) _ _ _ rfl;have q0:=hM.cell (hcl k y hy) hab;have hq1:=hM.cell hq DN;have hdr:ns.drop k=y :: ns.drop (k+1):=by
    rw [bh hlt];rw [aA hlt] at hy;simp at hy;rw [hy]
   have htk:ns.take (k+1)=ns.take k++[y]:=by
    rw [au hlt];rw [aA hlt] at hy;simp at hy;rw [hy]
   rw [hdr,qG,<-htk] at sG;have HC:=yIz L q b (ns.take k) y wr hq1 oV (mY.out y (aC hy)) (by rw [aZ];omega);rw [<-htk] at HC;have HC':=dq HC;have tt:=dq sG;have jd:(k:Int)<(ns.length:Int):=by omega
   have lJ:(0:Int)<=(k:Int):=by omega
   clear hcl hy HC sG hdr htk oV hq1;go_wp2_with fail;refine HC'.out.mono ?_;rintro e w5 ⟨rfl,Xy,eP⟩;have wZ:=hM.trans eP;clear HC' q0 hM;by_cases hmem:y∈ns.take k
   ·rw [aQ hmem] at tt ⊢;rw [Bool.true_or] at tt;go_wp2_with fail;go_ret;exact ⟨k,rfl,by rw [tt.out];exact aQ lJ,wZ⟩
   ·rw [aL hmem] at tt ⊢;rw [Bool.false_or] at tt;go_wp2_with fail;go_roundw
    case rel=>exact ⟨k+1,by omega,by go_num,tt.out,Xy,wZ⟩
    case measure=>simp [intOf];omega
  ·obtain rfl:k=ns.length:=by omega
   rw [cj] at sG;have tt:=dq sG;clear sG;go_wp2_with fail;go_ret;exact ⟨-1,rfl,by rw [tt.out];rfl,hM⟩
theorem yAs(L q b:Nat)(v:Value)(ns:List Int)(w:World)(hv:jA w v ns)(DK:ns≠[]->∀ a n cap,v=.slice (some a) n cap->a.block≠b)(hq:w.cell? ⟨q,0,none⟩=some (.map (some b)))(DN:q≠b)(hd:pf w L (some b) [])(hin:∀ x∈ns,gO x)(hn:ns.length<=1000000) :
  Calls Tryz.prog 93 #[v,.func (.func 165) #[] #[.pointer (some ⟨q,0,none⟩)]] w fun e w'=>e=.returned (.bool (qG [] ns))/\Mod (eA b) w w':=by
 have HI:=dq (yAr L q b v ns w hv DK hq DN hd hin hn);obtain ⟨a,cap,rfl,_⟩:=hv;clear hq hd hin;go_enter Tryz.func93,Tryz.ntmps93;go_wp2_with fail;refine HI.out.mono ?_;rintro e w1 ⟨r,rfl,hr,hm⟩;have HR:=dq hr;clear hr;go_wp2_with fail;go_ret;exact ⟨by rw [<-HR.out];rfl,hm⟩
theorem yMh(v:Value)(ns:List Int)(w:World)(hv:jA w v ns)(hin:∀ x∈ns,gO x)(hn:ns.length<=1000000) :
  Calls Tryz.prog 139 #[v] w fun e w'=>e=.returned (.bool (qG [] ns))/\Mod dZ w w':=by
 have hmm:=@run_makeMap Tryz.prog;have hv0:=hv;obtain ⟨a,cap,rfl,hc1,hc2,hcl⟩:=hv0;go_enter Tryz.func139,Tryz.ntmps139;go_wp2_with fail;have hm2:Mod dZ w ((w.alloc (.map #[] 0)).alloc (.cells #[.map (some w.heap.size)] 75)):=((Mod.refl _ w).alloc _).alloc _;have oV:pf ((w.alloc (.map #[] 0)).alloc (.cells #[.map (some w.heap.size)] 75)) w.heap.size (some w.heap.size) []:=
  .inr ⟨w.heap.size,.map [],rfl,aF _,(World.ownsMap_made (H:=Unit) w Tryz.prog 3 unitElem).alloc _,fun x _=>by simp [Maps.has]⟩
 have Ig:=dg.new (w.alloc (.map #[] 0)) [.map (some w.heap.size)] 75;rw [World.size_alloc] at Ig;refine (yAs w.heap.size (w.heap.size+1) w.heap.size _ ns _ (hv.quiet hm2) (fun hne a' n' cap' e=>?_) (Ig.cell 0 rfl) (by omega) oV hin hn).mono ?_
 ·simp only [Value.slice.injEq] at e;rcases hcl with e0 | ⟨ab,off,e1,h2⟩
  ·exact absurd e0 hne
  ·obtain ⟨x,hx⟩:∃ x,ns[0]?=some x:=⟨_,aA (by cases ns with | nil=>exact absurd rfl hne | cons=>simp)⟩;have:=World.block_lt_of_cell? w _ (h2 0 x hx);rw [e1] at e;have e3:=e.1;simp at e3;rw [<-e3];simp only at this ⊢;omega
 ·rintro e w3 ⟨rfl,dy⟩;go_wp2_with fail;go_ret;exact ⟨rfl,hm2.trans' dy (fun i hi e=>by simp only [eA] at e;omega)⟩
theorem jA.cells{w:World}{a:Option Addr}{n cap:Nat}{ns:List Int}(h:jA w (.slice a n cap) ns)(h0:ns≠[]) :
  ∃ b off,a=some ⟨b,off,none⟩/\∀ (j:Nat) u,(ns.map (Value.int .i64))[j]?=some u->w.cell? ((⟨b,off,none⟩:Addr).add j)=some u:=by
 obtain ⟨a',cap',h1,_,_,h4⟩:=h;simp only [Value.slice.injEq] at h1;obtain ⟨rfl,_,rfl⟩:=h1;rcases h4 with h4 | ⟨b,off,h5,h6⟩
 ·exact absurd h4 h0
 ·refine ⟨b,off,h5,fun j u hu=>?_⟩;rw [Go.WideShapes.add_plain];rw [aa] at hu
  cases hj:ns[j]? with
  | none=>rw [hj] at hu;cases hu
  | some x=>rw [hj] at hu;cases hu;exact h6 j x hj
theorem Tryz.NQ:(Tryz.prog.info? 3).map (fun i=>(i.zero,i.size,i.bytes))=some (some (.int .i64 0),1,8):=by kernel_rfl
theorem ySr(ns:List Int):∀ u∈ns.map (Value.int .i64),u.oneCell'=true:=by
 intro u hu;obtain ⟨x,_,rfl⟩:=af.1 hu;rfl
theorem yLg(v:Value)(ns:List Int)(w:World)(hv:jA w v ns)(hne:ns≠[])(hn:ns.length<=1000000) :
  Calls Tryz.prog 140 #[v] w fun e w'=>∃ v',e=.returned v'/\w'.ownsRow w.heap.size 3 1 v' ns.length (ns.map (Value.int .i64))/\Mod dZ w w':=by
 obtain ⟨i0,hi,hz0,hz1,hz2⟩:=info_parts Tryz.NQ;have hv0:=hv;obtain ⟨a,cap,rfl,hc1,hc2,_⟩:=hv0;obtain ⟨b,off,rfl,hcl⟩:=hv.cells hne;have dh:Mod dZ w (w.alloc (.cells #[] 3)):=(Mod.refl _ w).alloc _;have rJ:Hid (∀ (j:Nat) u,(ns.map (Value.int .i64))[j]?=some u->(w.alloc (.cells #[] 3)).cell? ((⟨b,off,none⟩:Addr).add j)=some u):=fun j u IU=>dh.cell (hcl j u IU) id;have HO:Hid ((w.alloc (.cells #[] 3)).ownsRow w.heap.size 3 1 (.slice (some ⟨w.heap.size,0,none⟩) 0 0) 0 []):=
  ⟨rfl,.inr ⟨w.heap.size,0,#[],rfl,aF _,heap_alloc_new w _,aF _,by unfold maxLen;omega,rfl,rfl⟩⟩
 have HL:Hid ((ns.map (Value.int .i64)).length=ns.length*1):=by rw [Hid];simp
 have qM:=dq (ySr ns);have iJ:0+ns.length<=maxLen:=by unfold maxLen;omega
 have iK:(0+ns.length)*8<=140737488355328:=by omega
 have hen:=run_eql_slice_nil (P:=Tryz.prog) w 26 3 (some ⟨b,off,none⟩) ns.length cap 0 0 Tryz.underlying26;clear hcl hv;go_enter Tryz.func140,Tryz.ntmps140;go_wp2_with (first
  | (at_builtin;refine wpList_append_own _ rfl _ _ 26 rfl w.heap.size 3 i0 _ 1 8 Tryz.underlying26 hi hz0 hz1 hz2 rfl (by omega) _ _ _ rfl HO.out ⟨b,off,none⟩ _ _ (ns.map (Value.int .i64)) rfl HL.out rJ.out qM.out iJ iK (by simp) ?_)
  | fail)
 intro v' w1 hown1 hgrow _;have hm2:Mod (jN w.heap.size) (w.alloc (.cells #[] 3)) w1:=(Mod.refl _ _).grown hgrow (fun x hx _=>by simp [Value.ownBlock] at hx;simp only [jN];omega);have HW:=dq hown1;clear hown1 hgrow HO rJ HL qM;go_wp2_with fail;go_ret;exact ⟨_,rfl,by simpa using HW.out,dh.since hm2 (aF _)⟩
def yX(s:eK)(ep:Int)(ns:List Int):eK:=⟨s.id,ep,ns,s.log,s.gz⟩
def jL(s:eK)(ep:Int)(ns:List Int):eK:=if !oR s && oR (yX s ep ns) then ⟨s.id,ep,ns,[],0⟩ else yX s ep ns
theorem fe.vX{w w5:World}{L:Lo}{g:Nat}{nv lv v5:Value}{s:eK}{ep:Int}{ns:List Int}(h:fe w L g nv lv s)(eP:Mod dZ w w5)(ho:w5.ownsRow w.heap.size 3 1 v5 ns.length (ns.map (Value.int .i64)))(iS:gO ep)(hns:∀ x∈ns,gO x)(hl:ns.length<=1000000) :
  fe ((w5.setCell ⟨g,1,none⟩ (.int .i64 ep)).setCell ⟨g,2,none⟩ v5) L g v5 lv (yX s ep ns)/\Mod (eA g) w ((w5.setCell ⟨g,1,none⟩ (.int .i64 ep)).setCell ⟨g,2,none⟩ v5):=by
 have h5:=h.quiet eP;obtain ⟨a1,a2,_⟩:=h.apart;have kD:=h.low;have hgl:=h.blk.lt;have ib:Mod (eA g) w5 ((w5.setCell ⟨g,1,none⟩ (.int .i64 ep)).setCell ⟨g,2,none⟩ v5):=(Mod.dt g 1 _).trans (Mod.dt g 2 _);have Hz:Qm w5 L (eA g):=Qm.wM h5 (fun k _ e=>.inl e);refine ⟨⟨(h5.blk.set 1 _).set 2 _,h.low,fm (uL ho (by omega)) ib (fun k _ _ hk e=>?_),h5.lg.mod ib Hz (fun k hk e=>a2 (by rw [hk,e])),⟨h.ints.1,iS,hns⟩,⟨hl,h.few.2⟩,h.st,fun k hk=>aH (h.xb k hk) (aJ eP.size ib.size)⟩,(eP.mono (fun _ _ e=>e.elim)).trans ib⟩;simp only [eA] at e;subst e;obtain ⟨h1,_,_⟩:=fW ho hk;omega
theorem fe.Ds{w:World}{L:Lo}{g:Nat}{nv lv:Value}{s:eK}(h:fe w L g nv lv s) :
  fe ((w.setCell ⟨g,3,none⟩ (.slice none 0 0)).setCell ⟨g,4,none⟩ (.int .i64 0)) L g nv (.slice none 0 0) ⟨s.id,s.dk,s.nodes,[],0⟩/\Mod (eA g) w ((w.setCell ⟨g,3,none⟩ (.slice none 0 0)).setCell ⟨g,4,none⟩ (.int .i64 0)):=by
 obtain ⟨a1,a2,_⟩:=h.apart;have ib:Mod (eA g) w ((w.setCell ⟨g,3,none⟩ (.slice none 0 0)).setCell ⟨g,4,none⟩ (.int .i64 0)):=(Mod.dt g 3 _).trans (Mod.dt g 4 _);exact ⟨⟨(h.blk.set 3 _).set 4 _,h.low,fm h.ns ib (fun k _ _ hk e=>a1 (by rw [hk,e])),gZ.nil _ _,h.ints,⟨h.few.1,by simp⟩,by simp,fun k hk=>aH (h.xb k hk) ib.size⟩,ib⟩
theorem yTq(L:Lo)(g:Nat)(nv lv:Value)(s:eK)(ep:Int)(v:Value)(ns:List Int)(w:World)(h:fe w L g nv lv s)(hgt:¬ ep<=s.dk)(iS:gO ep)(hv:jA w v ns)(hin:∀ x∈ns,gO x)(h1n:1<=ns.length)(h6n:ns.length<=6)(sG:qG [] ns=false) :
  Calls Tryz.prog 107 #[.pointer (some ⟨g,0,none⟩),.agg #[.int .i64 ep,v]] w fun e w'=>
   ∃ r oQ ja,e=.returned (.tuple #[r,.nilIface])/\fe w' L g oQ ja (kz (jL s ep ns)).1/\eV w' L r (kz (jL s ep ns)).2/\lC w r/\lC w oQ/\iF w lv ja/\Mod (eA g) w w':=by
 have hv0:=hv;obtain ⟨ca,rG,rfl,hc1,hc2,_⟩:=hv0;obtain ⟨w1,hw1⟩:∃ q,q=w.alloc (.cells #[.int .i64 ep,.slice ca ns.length rG] 160):=⟨_,rfl⟩;have dh:Mod dZ w w1:=by rw [hw1];exact (Mod.refl _ w).alloc _
 have ff:dg w1 w.heap.size [.int .i64 ep,.slice ca ns.length rG] 160:=by rw [hw1];exact dg.new w _ _
 have h1:=h.quiet dh;obtain ⟨c0,c1,c2,c3,c4⟩:=mQ h1.blk;have x0:=ff.cell 0 rfl;have x1:=ff.cell 1 rfl;have z1:=ff.lt;have z2:=h1.blk.lt;have z3:=h.blk.lt;have hd:decide (ep<=s.dk)=false:=aL hgt;have hd1:decide ((ns.length:Int)<1)=false:=aL (by omega);have hd2:decide ((ns.length:Int) > 6)=false:=aL (by omega);have HV:=dq (hv.quiet dh);have mY:=dq hin;have HN:=dq h1;clear h h1 hv hin;go_enter Tryz.func107,Tryz.ntmps107;go_upto_region 1 with fail;rw [<-hw1];clear hw1;go_quiet (fail);have HT:=yMh _ ns _ (HV.out.quiet ((Mod.refl dZ w1).drewN nq)) mY.out (by omega);rw [sG] at HT;have HT':=dq HT;clear HT sG;go_wp2_with fail;refine HT'.out.mono ?_;rintro e w3 ⟨rfl,dy⟩;have jK:Mod dZ w1 w3:=((Mod.refl dZ w1).drewN nq).trans dy;have qy:=HN.out.quiet jK;have HI:=dq (Ml L g nv lv s w3 qy);clear HT' dy c0 c1 c2 c3 c4 x0 x1;go_wp2_with fail;refine HI.out.mono ?_;rintro e w4 ⟨rfl,m4,rfl⟩;have AZ:Mod dZ w1 (w3.drewN m4):=jK.drewN m4;have sY:=qy.drewN m4;obtain ⟨w4,hw4⟩:∃ q,q=w3.drewN m4:=⟨_,rfl⟩;rw [<-hw4] at AZ sY ⊢;have hB4:=ff.mod AZ id;have x0:=hB4.cell 0 rfl;have x1:=hB4.cell 1 rfl;obtain ⟨c0,c1,c2,c3,c4⟩:=mQ sY.blk;have f1:=sY.blk.frozen 1;have f2:=sY.blk.frozen 2;have z4:=hB4.lt;have z5:=sY.blk.lt;have hzz:=(dh.trans AZ).size;have rJ:=dq (yLg _ ns w4.drew (HV.out.quiet (AZ.drew)) (by intro e;rw [e] at h1n;simp at h1n) (by omega));clear HI hw4 jK qy;go_upto_region 6 with fail;go_cut [6] (fun t wc=>t=.bool (oR s)/\∃ oQ,fe wc L g oQ lv (yX s ep ns)/\lC w oQ/\Mod (eA g) w4 wc)
 case first=>
  go_region_with (first
   | (go_at_call 140;refine rJ.out.mono ?_;rintro e w5 ⟨v5,rfl,iZ,eP⟩;have mh:Mod dZ w4 w5:=((Mod.refl dZ w4).drew).trans eP;have y0:=mh.cell x0 id;have y1:=mh.cell x1 id;have z7:=aH z4 mh.size;have d1:=mh.cell c1 id;have d2:=mh.cell c2 id;have e1:=(mh.frozen (p:=⟨g,1,none⟩) z5 id).trans f1;have e2:=(mh.frozen (p:=⟨g,2,none⟩) z5 id).trans f2;have z6:=aH z5 mh.size;obtain ⟨va5,vc5,rfl⟩:=eu iZ)
   | fail)
  all_goals
   have R:=sY.vX mh (uL iZ (aF _)) iS mY.out (by omega);have CI:lC w (.slice va5 ns.length vc5):=fun k hk=>by
    have:=(fW iZ hk).1;have h9:w4.drew.heap.size=w4.heap.size:=rfl;omega
   go_wp2_with fail;go_meet
   case rel=>exact ⟨rfl,_,R.1,CI,R.2⟩
 case rest=>
  obtain ⟨rfl,DB,mj,CI,mh⟩:=hcut;clear rJ c0 c1 c2 c3 c4 f1 f2 x0 x1 sY HN;have DT:Mod (eA g) w wc:=((dh.trans AZ).mono (fun _ _ e=>e.elim)).trans mh;have FD:=DT.size
  cases hin:oR s with
  | true=>
   have HB:Hid (jL s ep ns=yX s ep ns):=by rw [Hid,jL,hin];rfl
   have HK:=dq (MD L g DB lv _ wc mj);rw [<-HB.out] at HK;clear mj;go_wp2_with fail;refine HK.out.mono ?_;rintro e w6 ⟨r,rfl,tV,vQ,Xw,fs⟩;clear HK;go_wp2_with fail;refine bodyPost_ret (results_tmp2 rfl _ _ _) rfl ⟨r,DB,lv,rfl,tV,vQ,fun k hk=>aJ FD (Xw k hk),CI,iF.refl _ _,DT.trans fs⟩
  | false=>
   have HI:=Ml L g DB lv _ wc mj
   cases vK:oR (yX s ep ns) with
   | false=>
    rw [vK] at HI;have rW:=dq HI;have HB:Hid (jL s ep ns=yX s ep ns):=by rw [Hid,jL,hin,vK];rfl
    have Zm:=dq mj;clear HI mj;go_wp2_with fail;refine rW.out.mono ?_;rintro e w6 ⟨rfl,m6,rfl⟩;have HK:=dq (MD L g DB lv _ _ (Zm.out.drewN m6));rw [<-HB.out] at HK;clear rW;go_wp2_with fail;refine HK.out.mono ?_;rintro e w7 ⟨r,rfl,uR,rU,zA,iO⟩;clear HK;go_wp2_with fail;refine bodyPost_ret (results_tmp2 rfl _ _ _) rfl ⟨r,DB,lv,rfl,uR,rU,fun k hk=>aJ FD (zA k hk),CI,iF.refl _ _,(DT.drewN m6).trans iO⟩
   | true=>
    rw [vK] at HI;have rW:=dq HI;have HB:Hid (jL s ep ns=⟨s.id,ep,ns,[],0⟩):=by rw [Hid,jL,hin,vK];rfl
    have Zm:=dq mj;clear HI mj;go_wp2_with fail;refine rW.out.mono ?_;rintro e w6 ⟨rfl,m6,rfl⟩;have tV:=Zm.out.drewN m6;obtain ⟨uR,iO⟩:=tV.Ds;obtain ⟨c0,c1,c2,c3,c4⟩:=mQ tV.blk;have f3:=tV.blk.frozen 3;have f4:=tV.blk.frozen 4;have z6:=tV.blk.lt;have HK:=dq (MD L g DB (.slice none 0 0) _ _ uR);have Kt:(⟨(yX s ep ns).id,(yX s ep ns).dk,(yX s ep ns).nodes,[],0⟩:eK)=jL s ep ns:=by rw [HB.out];rfl
    rw [Kt] at HK;have yQ:=dq iO;obtain ⟨la,ey,hlv⟩:=tV.lg.slice;subst hlv;clear rW tV uR Kt iO;go_wp2_with fail;refine HK.out.mono ?_;rintro e w8 ⟨r,rfl,hN8,SZ,hf8,oT⟩;clear HK;go_wp2_with fail;refine bodyPost_ret (results_tmp2 rfl _ _ _) rfl ⟨r,DB,.slice none 0 0,rfl,hN8,SZ,fun k hk=>aJ FD (by simpa using hf8 k hk),CI,.inr (fun k hk=>by simp [Value.ownBlock] at hk),((DT.drewN m6).trans yQ.out).trans oT⟩
def xH(s:eK)(f:Int):List dw:=match iE s 1 with
 | none=>[]
 | some t=>ml s t f.toNat (s.log.length - f.toNat)
def xI(s:eK)(n:Int):eK:=zV s (if s.gz<n then n else s.gz)
def jP(s:eK)(m:dw):eK × List dw:=
 if m.dk=s.dk/\m.to=s.id then
  if m.kind=1/\nk s (-1) m.eF=true then (s,nc s (-1) (qU 2 s.log.length))
  else if m.kind=2/\nk s 1 m.eF=true/\0<=m.n then (s,xH s m.n)
  else if m.kind=3/\nk s (-1) m.eF=true/\m.n=s.log.length/\s.log.length<500 then mw s m.cmd
  else if m.kind=4/\nk s 1 m.eF=true/\0<=m.n/\m.n<=s.log.length then (xI s m.n,nc (xI s m.n) (-1) (qU 4 (xI s m.n).gz))
  else (s,[])
 else (s,[])
theorem Qi{s:eK}{wh x:Int}(h:nk s wh x=true):iE s wh=some x:=by
 unfold nk at h
 cases hn:iE s wh with
 | none=>rw [hn] at h;cases h
 | some y=>rw [hn] at h;simp at h;rw [h]
theorem Hh{s:eK}{wh x:Int}(h:nk s wh x=true):oR s=true:=by
 have:=Qi h;unfold iE at this;split at this
 ·rename_i e;simp only [bT] at e;exact e.1
 ·cases this
theorem yPk(L:Lo)(g:Nat)(nv lv:Value)(s:eK)(m:dw)(u:Value)(w:World)(h:fe w L g nv lv s)(hu:iH w L u m.cmd.writes)(jF:qZ m)(hoff:¬ (m.dk=s.dk/\m.to=s.id)) :
  Calls Tryz.prog 56 #[.pointer (some ⟨g,0,none⟩),.agg #[.int .i64 m.kind,.int .i64 m.eF,.int .i64 m.to,.int .i64 m.dk,.int .i64 m.n,.int .i64 m.cmd.kind,.int .i64 m.cmd.tx,.int .i64 m.cmd.time,u]] w fun e w'=>e=.returned (.slice none 0 0)/\Mod dZ w w':=by
 obtain ⟨ua,dp,rfl⟩:∃ ua dp,u=.slice ua m.cmd.writes.length dp:=by obtain ⟨ua,dp,h,_⟩:=hu;exact ⟨ua,dp,h⟩
 obtain ⟨w1,hw1⟩:∃ q,q=w.alloc (.cells #[.int .i64 m.kind,.int .i64 m.eF,.int .i64 m.to,.int .i64 m.dk,.int .i64 m.n,.int .i64 m.cmd.kind,.int .i64 m.cmd.tx,.int .i64 m.cmd.time,.slice ua m.cmd.writes.length dp] 112):=⟨_,rfl⟩;have dh:Mod dZ w w1:=by rw [hw1];exact (Mod.refl _ w).alloc _
 have ff:dg w1 w.heap.size (ig m (.slice ua m.cmd.writes.length dp)) 112:=by rw [hw1];exact dg.new w _ _
 have h1:=h.quiet dh;obtain ⟨la,ey,hlv⟩:=h1.lg.slice;subst hlv;obtain ⟨c0,c1,c2,c3,c4⟩:=mQ h1.blk;obtain ⟨⟨x0,x1,x2,x3,x4,x5,x6,x7,x8⟩,_⟩:=iM ff;have z1:=ff.lt;have z2:=h1.blk.lt;have hz1:=dh.size;have fR:=h1.few;have hst:=h1.st;have HN:=dq h1;have HU:=dq (hu.mod dh (Qm.none _ _));clear h hu h1;go_enter Tryz.func56,Tryz.ntmps56;go_upto_region 1 with fail;rw [<-hw1];clear hw1;by_cases iS:m.dk=s.dk
 ·have jJ:¬ m.to=s.id:=fun e=>hoff ⟨iS,e⟩;have Ai:(m.dk != s.dk)=false:=by simp [iS]
  have wX:(m.to != s.id)=true:=by simpa using jJ
  go_quiet (fail);go_wp2_with fail;go_ret;exact ⟨rfl,by first | exact dh.drewN _ | exact (dh.drewN _).drewN _ | exact ((dh.drewN _).drewN _).drewN _ | exact (((dh.drewN _).drewN _).drewN _).drewN _⟩
 ·have Ai:(m.dk != s.dk)=true:=by simpa using iS
  go_quiet (fail);go_wp2_with fail;go_ret;exact ⟨rfl,by first | exact dh.drewN _ | exact (dh.drewN _).drewN _ | exact ((dh.drewN _).drewN _).drewN _ | exact (((dh.drewN _).drewN _).drewN _).drewN _⟩
theorem yLc(L:Lo)(g:Nat)(nv lv:Value)(s:eK)(m:dw)(u:Value)(w:World)(h:fe w L g nv lv s)(hu:iH w L u m.cmd.writes)(jF:qZ m)(iS:m.dk=s.dk)(jJ:m.to=s.id)(hk1:m.kind≠1)(hk2:m.kind≠2)(hk3:m.kind≠3)(hk4:m.kind≠4) :
  Calls Tryz.prog 56 #[.pointer (some ⟨g,0,none⟩),.agg #[.int .i64 m.kind,.int .i64 m.eF,.int .i64 m.to,.int .i64 m.dk,.int .i64 m.n,.int .i64 m.cmd.kind,.int .i64 m.cmd.tx,.int .i64 m.cmd.time,u]] w fun e w'=>e=.returned (.slice none 0 0)/\Mod dZ w w':=by
 have rX:=dq iS;have rV:=dq jJ;clear iS jJ;obtain ⟨ua,dp,rfl⟩:∃ ua dp,u=.slice ua m.cmd.writes.length dp:=by obtain ⟨ua,dp,h,_⟩:=hu;exact ⟨ua,dp,h⟩
 obtain ⟨w1,hw1⟩:∃ q,q=w.alloc (.cells #[.int .i64 m.kind,.int .i64 m.eF,.int .i64 m.to,.int .i64 m.dk,.int .i64 m.n,.int .i64 m.cmd.kind,.int .i64 m.cmd.tx,.int .i64 m.cmd.time,.slice ua m.cmd.writes.length dp] 112):=⟨_,rfl⟩;have dh:Mod dZ w w1:=by rw [hw1];exact (Mod.refl _ w).alloc _
 have ff:dg w1 w.heap.size (ig m (.slice ua m.cmd.writes.length dp)) 112:=by rw [hw1];exact dg.new w _ _
 have h1:=h.quiet dh;obtain ⟨la,ey,hlv⟩:=h1.lg.slice;subst hlv;obtain ⟨c0,c1,c2,c3,c4⟩:=mQ h1.blk;obtain ⟨⟨x0,x1,x2,x3,x4,x5,x6,x7,x8⟩,_⟩:=iM ff;have z1:=ff.lt;have z2:=h1.blk.lt;have hz1:=dh.size;have fR:=h1.few;have hst:=h1.st;have HN:=dq h1;have HU:=dq (hu.mod dh (Qm.none _ _));clear h hu h1;go_enter Tryz.func56,Tryz.ntmps56;go_upto_region 1 with fail;rw [<-hw1];clear hw1;have k1:(m.kind == 1)=false:=by simpa using hk1
 have k2:(m.kind == 2)=false:=by simpa using hk2
 have k3:(m.kind == 3)=false:=by simpa using hk3
 have k4:(m.kind == 4)=false:=by simpa using hk4
 have Ai:(m.dk != s.dk)=false:=by simp [rX.out]
 have wX:(m.to != s.id)=false:=by simp [rV.out]
 go_quiet (fail);go_upto_region 7 with fail;go_quiet (fail);go_upto_region 9 with fail;go_quiet (fail);go_wp2_with fail;go_ret;exact ⟨rfl,by first | exact dh.drewN _ | exact (dh.drewN _).drewN _ | exact ((dh.drewN _).drewN _).drewN _ | exact (((dh.drewN _).drewN _).drewN _).drewN _⟩
theorem yLa(L:Lo)(g:Nat)(nv lv:Value)(s:eK)(m:dw)(u:Value)(w:World)(h:fe w L g nv lv s)(hu:iH w L u m.cmd.writes)(jF:qZ m)(iS:m.dk=s.dk)(jJ:m.to=s.id)(hk:m.kind=1)(hi:nk s (-1) m.eF=true) :
  Calls Tryz.prog 56 #[.pointer (some ⟨g,0,none⟩),.agg #[.int .i64 m.kind,.int .i64 m.eF,.int .i64 m.to,.int .i64 m.dk,.int .i64 m.n,.int .i64 m.cmd.kind,.int .i64 m.cmd.tx,.int .i64 m.cmd.time,u]] w fun e w'=>∃ v,e=.returned v/\eV w' L v (nc s (-1) (qU 2 s.log.length))/\lC w v/\Mod dZ w w':=by
 have rX:=dq iS;have rV:=dq jJ;have HK:=dq hk;clear iS jJ hk;obtain ⟨ua,dp,rfl⟩:∃ ua dp,u=.slice ua m.cmd.writes.length dp:=by obtain ⟨ua,dp,h,_⟩:=hu;exact ⟨ua,dp,h⟩
 obtain ⟨w1,hw1⟩:∃ q,q=w.alloc (.cells #[.int .i64 m.kind,.int .i64 m.eF,.int .i64 m.to,.int .i64 m.dk,.int .i64 m.n,.int .i64 m.cmd.kind,.int .i64 m.cmd.tx,.int .i64 m.cmd.time,.slice ua m.cmd.writes.length dp] 112):=⟨_,rfl⟩;have dh:Mod dZ w w1:=by rw [hw1];exact (Mod.refl _ w).alloc _
 have ff:dg w1 w.heap.size (ig m (.slice ua m.cmd.writes.length dp)) 112:=by rw [hw1];exact dg.new w _ _
 have h1:=h.quiet dh;obtain ⟨la,ey,hlv⟩:=h1.lg.slice;subst hlv;obtain ⟨c0,c1,c2,c3,c4⟩:=mQ h1.blk;obtain ⟨⟨x0,x1,x2,x3,x4,x5,x6,x7,x8⟩,_⟩:=iM ff;have z1:=ff.lt;have z2:=h1.blk.lt;have hz1:=dh.size;have fR:=h1.few;have hst:=h1.st;have HN:=dq h1;have HU:=dq (hu.mod dh (Qm.none _ _));clear h hu h1;go_enter Tryz.func56,Tryz.ntmps56;go_upto_region 1 with fail;rw [<-hw1];clear hw1;have k1:(m.kind == 1)=true:=by simp [HK.out]
 have k2:(m.kind == 2)=false:=by simp [HK.out]
 have k3:(m.kind == 3)=false:=by simp [HK.out]
 have k4:(m.kind == 4)=false:=by simp [HK.out]
 have Ai:(m.dk != s.dk)=false:=by simp [rX.out]
 have wX:(m.to != s.id)=false:=by simp [rV.out]
 go_quiet (fail);have HI:=Bf L g nv _ s (-1) m.eF _ (HN.out.drewN nq) (.inr rfl);rw [hi] at HI;have rW:=dq HI;clear HI;go_wp2_with fail;refine rW.out.mono ?_;rintro e w2 ⟨rfl,m2,rfl⟩;have HS:=dq (MC L g nv _ s (-1) (qU 2 s.log.length) (.slice none 0 0) _ (HN.out.drewN (nq+m2)) (.inr rfl) (iH.nil _ _) (RU _ _ (by simp [gO]) (by simp only [gO];omega)));clear rW;go_wp2_with fail;refine HS.out.mono ?_;rintro e w3 ⟨v,rfl,hR,hf,dy⟩;clear HS;go_wp2_with fail;go_ret;exact ⟨v,rfl,hR,fun k hk=>aJ hz1 (hf k hk),(dh.drewN (nq+m2)).trans dy⟩
theorem zZz(L:Lo)(g:Nat)(nv lv:Value)(s:eK)(m:dw)(u:Value)(w:World)(h:fe w L g nv lv s)(hu:iH w L u m.cmd.writes)(jF:qZ m)(iS:m.dk=s.dk)(jJ:m.to=s.id)(hk:m.kind=1)(hi:nk s (-1) m.eF=false) :
  Calls Tryz.prog 56 #[.pointer (some ⟨g,0,none⟩),.agg #[.int .i64 m.kind,.int .i64 m.eF,.int .i64 m.to,.int .i64 m.dk,.int .i64 m.n,.int .i64 m.cmd.kind,.int .i64 m.cmd.tx,.int .i64 m.cmd.time,u]] w fun e w'=>e=.returned (.slice none 0 0)/\Mod dZ w w':=by
 have rX:=dq iS;have rV:=dq jJ;have HK:=dq hk;clear iS jJ hk;obtain ⟨ua,dp,rfl⟩:∃ ua dp,u=.slice ua m.cmd.writes.length dp:=by obtain ⟨ua,dp,h,_⟩:=hu;exact ⟨ua,dp,h⟩
 obtain ⟨w1,hw1⟩:∃ q,q=w.alloc (.cells #[.int .i64 m.kind,.int .i64 m.eF,.int .i64 m.to,.int .i64 m.dk,.int .i64 m.n,.int .i64 m.cmd.kind,.int .i64 m.cmd.tx,.int .i64 m.cmd.time,.slice ua m.cmd.writes.length dp] 112):=⟨_,rfl⟩;have dh:Mod dZ w w1:=by rw [hw1];exact (Mod.refl _ w).alloc _
 have ff:dg w1 w.heap.size (ig m (.slice ua m.cmd.writes.length dp)) 112:=by rw [hw1];exact dg.new w _ _
 have h1:=h.quiet dh;obtain ⟨la,ey,hlv⟩:=h1.lg.slice;subst hlv;obtain ⟨c0,c1,c2,c3,c4⟩:=mQ h1.blk;obtain ⟨⟨x0,x1,x2,x3,x4,x5,x6,x7,x8⟩,_⟩:=iM ff;have z1:=ff.lt;have z2:=h1.blk.lt;have hz1:=dh.size;have fR:=h1.few;have hst:=h1.st;have HN:=dq h1;have HU:=dq (hu.mod dh (Qm.none _ _));clear h hu h1;go_enter Tryz.func56,Tryz.ntmps56;go_upto_region 1 with fail;rw [<-hw1];clear hw1;have k1:(m.kind == 1)=true:=by simp [HK.out]
 have k2:(m.kind == 2)=false:=by simp [HK.out]
 have k3:(m.kind == 3)=false:=by simp [HK.out]
 have k4:(m.kind == 4)=false:=by simp [HK.out]
 have Ai:(m.dk != s.dk)=false:=by simp [rX.out]
 have wX:(m.to != s.id)=false:=by simp [rV.out]
 go_quiet (fail);have HI:=Bf L g nv _ s (-1) m.eF _ (HN.out.drewN nq) (.inr rfl);rw [hi] at HI;have rW:=dq HI;clear HI;go_wp2_with fail;refine rW.out.mono ?_;rintro e w2 ⟨rfl,m2,rfl⟩;clear rW;go_upto_region 7 with fail;go_quiet (fail);go_upto_region 9 with fail;go_quiet (fail);go_wp2_with fail;go_ret;exact ⟨rfl,by first | exact dh.drewN _ | exact (dh.drewN _).drewN _ | exact ((dh.drewN _).drewN _).drewN _ | exact (((dh.drewN _).drewN _).drewN _).drewN _⟩
theorem yLd(L:Lo)(g:Nat)(nv lv:Value)(s:eK)(m:dw)(u:Value)(w:World)(h:fe w L g nv lv s)(hu:iH w L u m.cmd.writes)(jF:qZ m)(iS:m.dk=s.dk)(jJ:m.to=s.id)(hk:m.kind=2)(hi:nk s 1 m.eF=true)(hn:0<=m.n) :
  Calls Tryz.prog 56 #[.pointer (some ⟨g,0,none⟩),.agg #[.int .i64 m.kind,.int .i64 m.eF,.int .i64 m.to,.int .i64 m.dk,.int .i64 m.n,.int .i64 m.cmd.kind,.int .i64 m.cmd.tx,.int .i64 m.cmd.time,u]] w fun e w'=>∃ v,e=.returned v/\eV w' L v (xH s m.n)/\lC w v/\Mod dZ w w':=by
 have rX:=dq iS;have rV:=dq jJ;have HK:=dq hk;clear iS jJ hk;obtain ⟨ua,dp,rfl⟩:∃ ua dp,u=.slice ua m.cmd.writes.length dp:=by obtain ⟨ua,dp,h,_⟩:=hu;exact ⟨ua,dp,h⟩
 obtain ⟨w1,hw1⟩:∃ q,q=w.alloc (.cells #[.int .i64 m.kind,.int .i64 m.eF,.int .i64 m.to,.int .i64 m.dk,.int .i64 m.n,.int .i64 m.cmd.kind,.int .i64 m.cmd.tx,.int .i64 m.cmd.time,.slice ua m.cmd.writes.length dp] 112):=⟨_,rfl⟩;have dh:Mod dZ w w1:=by rw [hw1];exact (Mod.refl _ w).alloc _
 have ff:dg w1 w.heap.size (ig m (.slice ua m.cmd.writes.length dp)) 112:=by rw [hw1];exact dg.new w _ _
 have h1:=h.quiet dh;obtain ⟨la,ey,hlv⟩:=h1.lg.slice;subst hlv;obtain ⟨c0,c1,c2,c3,c4⟩:=mQ h1.blk;obtain ⟨⟨x0,x1,x2,x3,x4,x5,x6,x7,x8⟩,_⟩:=iM ff;have z1:=ff.lt;have z2:=h1.blk.lt;have hz1:=dh.size;have fR:=h1.few;have hst:=h1.st;have HN:=dq h1;have HU:=dq (hu.mod dh (Qm.none _ _));clear h hu h1;go_enter Tryz.func56,Tryz.ntmps56;go_upto_region 1 with fail;rw [<-hw1];clear hw1;have k1:(m.kind == 1)=false:=by simp [HK.out]
 have k2:(m.kind == 2)=true:=by simp [HK.out]
 have k3:(m.kind == 3)=false:=by simp [HK.out]
 have k4:(m.kind == 4)=false:=by simp [HK.out]
 have hnb:=Qi hi;have HH:Hid (xH s m.n=ml s m.eF m.n.toNat (s.log.length - m.n.toNat)):=by rw [Hid,xH,hnb]
 have hd:decide (m.n ≥ 0)=true:=aQ hn;have hd':decide (0<=m.n)=true:=aQ hn;have Ai:(m.dk != s.dk)=false:=by simp [rX.out]
 have wX:(m.to != s.id)=false:=by simp [rV.out]
 go_quiet (fail);have HI:=Bf L g nv _ s 1 m.eF _ (HN.out.drewN nq) (.inl rfl);rw [hi] at HI;have rW:=dq HI;clear HI;go_wp2_with fail;refine rW.out.mono ?_;rintro e w2 ⟨rfl,m2,rfl⟩;have HF:=dq (zUr L g nv _ s m.eF m.n _ (HN.out.drewN (nq+m2)) hnb hn);clear rW;go_wp2_with fail;refine HF.out.mono ?_;rintro e w3 ⟨v,rfl,hR,hf,dy⟩;clear HF;go_wp2_with fail;go_ret;exact ⟨v,rfl,by rw [HH.out];exact hR,fun k hk=>aJ hz1 (hf k hk),(dh.drewN (nq+m2)).trans dy⟩
theorem yAb(L:Lo)(g:Nat)(nv lv:Value)(s:eK)(m:dw)(u:Value)(w:World)(h:fe w L g nv lv s)(hu:iH w L u m.cmd.writes)(jF:qZ m)(iS:m.dk=s.dk)(jJ:m.to=s.id)(hk:m.kind=2)(hno:¬ (nk s 1 m.eF=true/\0<=m.n)) :
  Calls Tryz.prog 56 #[.pointer (some ⟨g,0,none⟩),.agg #[.int .i64 m.kind,.int .i64 m.eF,.int .i64 m.to,.int .i64 m.dk,.int .i64 m.n,.int .i64 m.cmd.kind,.int .i64 m.cmd.tx,.int .i64 m.cmd.time,u]] w fun e w'=>e=.returned (.slice none 0 0)/\Mod dZ w w':=by
 have rX:=dq iS;have rV:=dq jJ;have HK:=dq hk;clear iS jJ hk;obtain ⟨ua,dp,rfl⟩:∃ ua dp,u=.slice ua m.cmd.writes.length dp:=by obtain ⟨ua,dp,h,_⟩:=hu;exact ⟨ua,dp,h⟩
 obtain ⟨w1,hw1⟩:∃ q,q=w.alloc (.cells #[.int .i64 m.kind,.int .i64 m.eF,.int .i64 m.to,.int .i64 m.dk,.int .i64 m.n,.int .i64 m.cmd.kind,.int .i64 m.cmd.tx,.int .i64 m.cmd.time,.slice ua m.cmd.writes.length dp] 112):=⟨_,rfl⟩;have dh:Mod dZ w w1:=by rw [hw1];exact (Mod.refl _ w).alloc _
 have ff:dg w1 w.heap.size (ig m (.slice ua m.cmd.writes.length dp)) 112:=by rw [hw1];exact dg.new w _ _
 have h1:=h.quiet dh;obtain ⟨la,ey,hlv⟩:=h1.lg.slice;subst hlv;obtain ⟨c0,c1,c2,c3,c4⟩:=mQ h1.blk;obtain ⟨⟨x0,x1,x2,x3,x4,x5,x6,x7,x8⟩,_⟩:=iM ff;have z1:=ff.lt;have z2:=h1.blk.lt;have hz1:=dh.size;have fR:=h1.few;have hst:=h1.st;have HN:=dq h1;have HU:=dq (hu.mod dh (Qm.none _ _));clear h hu h1;go_enter Tryz.func56,Tryz.ntmps56;go_upto_region 1 with fail;rw [<-hw1];clear hw1;have k1:(m.kind == 1)=false:=by simp [HK.out]
 have k2:(m.kind == 2)=true:=by simp [HK.out]
 have k3:(m.kind == 3)=false:=by simp [HK.out]
 have k4:(m.kind == 4)=false:=by simp [HK.out]
 have Ai:(m.dk != s.dk)=false:=by simp [rX.out]
 have wX:(m.to != s.id)=false:=by simp [rV.out]
 go_quiet (fail);have HI:=Bf L g nv _ s 1 m.eF _ (HN.out.drewN nq) (.inl rfl)
 cases hi:nk s 1 m.eF with
 | true=>
  have hn:¬ 0<=m.n:=fun e=>hno ⟨hi,e⟩;have hd:decide (m.n ≥ 0)=false:=aL hn;have hd':decide (0<=m.n)=false:=aL hn;rw [hi] at HI;have rW:=dq HI;clear HI;go_wp2_with fail;refine rW.out.mono ?_;rintro e w2 ⟨rfl,m2,rfl⟩;clear rW;go_upto_region 7 with fail;go_quiet (fail);go_upto_region 9 with fail;go_quiet (fail);go_wp2_with fail;go_ret;exact ⟨rfl,by first | exact dh.drewN _ | exact (dh.drewN _).drewN _ | exact ((dh.drewN _).drewN _).drewN _ | exact (((dh.drewN _).drewN _).drewN _).drewN _⟩
 | false=>
  rw [hi] at HI;have rW:=dq HI;clear HI;go_wp2_with fail;refine rW.out.mono ?_;rintro e w2 ⟨rfl,m2,rfl⟩;clear rW;go_upto_region 7 with fail;go_quiet (fail);go_upto_region 9 with fail;go_quiet (fail);go_wp2_with fail;go_ret;exact ⟨rfl,by first | exact dh.drewN _ | exact (dh.drewN _).drewN _ | exact ((dh.drewN _).drewN _).drewN _ | exact (((dh.drewN _).drewN _).drewN _).drewN _⟩
end Go.Proofs.YtmaiggbnceejiaaGreatDoor
