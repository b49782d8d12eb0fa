import Derived.Test.YtmaiggbnceejiaaGreatDoorP03
import Derived.WalkSpells
import Derived.Lib.SliceRun
set_option linter.unusedVariables false
set_option maxRecDepth 100000
set_option maxHeartbeats 16000000
namespace Go.Proofs.YtmaiggbnceejiaaGreatDoor
open Go.RowKit Go.Lib Go.Maps
def nH(s:eH)(l:List dt):eH:=⟨s.id,s.db,s.nodes,l,s.gj⟩
def mX(s:eH)(c:dt):eH × List dp:=if te s then kK (nH s (s.log++[c])) else (nH s (s.log++[c]),match gp s 1 with
 | none=>[]
 | some t=>[nR s t s.log.length c])
theorem yLn(s:eH)(l:List dt):te (nH s l)=te s:=rfl
theorem yQd{s:eH}(hi:oD s=true)(ht:te s=false):∃ t,gp s 1=some t:=by
 simp only [oD,ar] at hi;rcases zRw s with e | ⟨k,e,_,hk⟩
 ·omega
 ·have hne:¬ (sG s=(s.nodes.length:Int) - 1):=by
   intro h2;have:te s=true:=by unfold te oD;rw [aQ hi,h2];simp
   rw [this] at ht;cases ht
  obtain ⟨t,ht2⟩:∃ t,s.nodes[k+1]?=some t:=⟨_,aA (by omega)⟩;refine ⟨t,?_⟩;have h3:(sG s+1).toNat=k+1:=by omega
  have h1:oD s=true:=by simp only [oD,ar];exact hi
  unfold gp;rw [h1,aQ (show (0:Int)<=sG s+1 by omega),aQ (show sG s+1<(s.nodes.length:Int) by omega),h3];simpa using ht2
theorem Mod.node{w w1 w2:World}{g:Nat}{nv v v':Value}(h:Mod (gx g nv v) w w1)(hm:iC w v v')(k:Mod (gx g nv v') w1 w2):Mod (gx g nv v) w w2:=
 h.trans' k (fun i hi e=>by
  rcases e with e | e | e
  ·exact .inl e
  ·exact .inr (.inl e)
  ·rcases hm with hm | hm
   ·exact .inr (.inr (by rw [<-hm];exact e))
   ·have:=hm i e;omega)
theorem fh.logged{w w6:World}{L:Lo}{g:Nat}{nv lv v6:Value}{s:eH}{cs:List dt}(h:fh w L g nv lv s)(fq:Mod (fun k=>lv.ownBlock=some k) w w6)(hR:gU w6 L v6 cs)(hv:v6.ownBlock=lv.ownBlock\/∀ k,v6.ownBlock=some k->w.heap.size<=k)(hf:cs.length<=500)(hst:s.gj<=cs.length) :
  fh (w6.setCell ⟨g,3,none⟩ v6) L g nv v6 (nH s cs)/\Mod (gx g nv lv) w (w6.setCell ⟨g,3,none⟩ v6):=by
 obtain ⟨a1,a2,a3⟩:=h.apart;have nO:dh w6 g [.int .i64 s.id,.int .i64 s.db,nv,lv,.int .i64 s.gj] 132:=h.blk.mod fq a2;have so:=nO;simp only [dh] at so;have iV:Mod (eF g) w6 (w6.setCell ⟨g,3,none⟩ v6):=Mod.dq g 3 _;have GZ:Qm w6 L (eF g):=fun k _ e=>by
  simp only [eF] at e;subst e;rintro (e | ⟨⟨cur,fr,e⟩,_⟩)
  ·have:=h.low;omega
  ·rw [so] at e;simp at e
 have hlt:=h.blk.lt;refine ⟨⟨nO.set 3 _,h.low,gD (gD h.ns fq (fun k _ _ hk e=>a3 k hk e)) iV (fun k _ _ hk e=>a1 (by rw [hk,e])),hR.mod iV GZ (fun k hk e=>?_),h.ints,⟨h.few.1,hf⟩,⟨h.st.1,hst⟩,fun k hk=>aG (h.xb k hk) (aM fq.size iV.size)⟩,?_⟩
 ·simp only [eF] at e;subst e;rcases hv with e | e
  ·exact a2 (by rw [<-e];exact hk)
  ·have:=e _ hk;omega
 exact (fq.mono (fun i _ e=>.inr (.inr e))).setCell (p:=⟨g,3,none⟩) (fun _=>.inl rfl) _
theorem yHf(L:Lo)(g:Nat)(nv lv:Value)(s:eH)(c:dt)(u:Value)(w:World)(h:fh w L g nv lv s)(hin:oD s=true)(hro:s.log.length<500)(hu:iE w L u c.writes)(uD:Bg c) :
  Calls Tryz.prog 103 #[.pointer (some ⟨g,0,none⟩),.agg #[.int .i64 c.kind,.int .i64 c.tx,.int .i64 c.time,u]] w fun e w'=>
   ∃ v jQ,e=.returned v/\fh w' L g nv jQ (mX s c).1/\eX w' L v (mX s c).2/\lE w v/\iC w lv jQ/\Mod (gx g nv lv) w w':=by
 obtain ⟨i0,hi,hz0,hz1,hz2⟩:=info_parts Tryz.zA;obtain ⟨ua,dj,rfl⟩:∃ ua dj,u=.slice ua c.writes.length dj:=by obtain ⟨ua,dj,h,_⟩:=hu;exact ⟨ua,dj,h⟩
 obtain ⟨w1,hw1⟩:∃ q,q=w.alloc (.cells #[.int .i64 c.kind,.int .i64 c.tx,.int .i64 c.time,.slice ua c.writes.length dj] 65):=⟨_,rfl⟩;have di:Mod dZ w w1:=by rw [hw1];exact (Mod.refl _ w).alloc _
 have fi:dh w1 w.heap.size [.int .i64 c.kind,.int .i64 c.tx,.int .i64 c.time,.slice ua c.writes.length dj] 65:=by rw [hw1];exact dh.new w _ _
 have h1:=h.quiet di;have xF:=di.size;obtain ⟨la,fG,hlv⟩:=h1.lg.slice;subst hlv;obtain ⟨c0,c1,c2,c3,c4⟩:=mG h1.blk;have f3:=h1.blk.frozen 3;obtain ⟨x0,x1,x2,x3,_⟩:=tD fi;have ur:=h1.blk.lt;have hbz:=fi.lt;have HU:Hid (iE w1.drew L (.slice ua c.writes.length dj) c.writes):=(hu.mod di (Qm.none _ _)).mod ((Mod.refl dZ w1).drew) (Qm.none _ _);have vy:c.writes.length<=1000000:=by have:=uD.2;omega
 have iF:s.log.length+1<=maxLen:=by unfold maxLen;omega
 have iG:(s.log.length+1)*48<=140737488355328:=by omega
 obtain ⟨us,lu,hrow,hps,hgd⟩:=h1.lg;have fc:=eC hrow;have qs:=eC hps;have vQ:=eC hgd;have LG:=eC h1.apart;have DQ:=eC h1;have jy:=h1.low;have hst:=h1.st;clear h hu h1 hrow hps hgd;go_enter Tryz.func103,Tryz.ntmps103;go_upto_region 1 with fail;rw [<-hw1];clear hw1;go_upto_region 2 with fail;go_cut [] (fun wc=>∃ jQ,fh wc L g nv jQ (nH s (s.log++[c]))/\iC w1 (.slice la s.log.length fG) jQ/\Mod (gx g nv (.slice la s.log.length fG)) w1 wc)
 case first=>
  go_region_law
   ((first
    | (go_simp;go_at_call 72;(refine (TG L c _ _ HU.out vy).mono ?_;rintro e w5 ⟨uo,rfl,iU,eu⟩;obtain ⟨Fe,Fc,rfl⟩:=fJ iU;have jA:Mod dZ w1 w5:=(((Mod.refl dZ w1).drew).trans eu);have d3:=jA.cell c3 id;have e3:=(jA.frozen (p:=⟨g,3,none⟩) ur id).trans f3;have z5:=jA.size;have gz5:g<w5.heap.size:=aG ur z5;have Et:=eC (gD fc.out jA (fun _ _ _ _=>id))))
    | (refine step_append_lies _ (by rfl) _ _ _ (by rfl) L 65 i0 _ 4 48 Tryz.underlying62 hi hz0 hz1 hz2 rfl (by omega) _ _ _ (by rfl) (Et.out.alloc _) ⟨w5.heap.size,0,none⟩ 1 1 (vh c (.slice Fe c.writes.length Fc)) (by rfl) (by rfl) (World.news_of_block (heap_alloc_new w5 _)) (yOe _ _ _ _) (by omega) iF iG (by simp;omega) _ rfl ?_;intro g6 lT w6 iB hgrow hat Cj;have ib:Mod (fun k=>(Value.slice la s.log.length fG).ownBlock=some k) w5 w6:=((Mod.refl _ w5).alloc _).grown hgrow (fun x hx _=>hx);have d6:=ib.cell d3 LG.out.2.1;have e6:=(ib.frozen (p:=⟨g,3,none⟩) (aG ur z5) LG.out.2.1).trans e3)
    | fail))
  all_goals
  have mi:=DQ.out.quiet jA;have rH:gU w6 L (.slice (some ⟨g6,0,none⟩) (s.log.length+1) lT) (s.log++[c]):=gU.snoc lu (gD fc.out jA (fun _ _ _ _=>id)) (fun i m u h1 h2=>(qs.out i m u h1 h2).mod jA (Qm.none _ _)) vQ.out (iE.iY iU (fun k hk=>DQ.out.xb k hk)) uD ib iB;have hloc:(Value.slice (some ⟨g6,0,none⟩) (s.log.length+1) lT).ownBlock=(Value.slice la s.log.length fG).ownBlock\/∀ k,(Value.slice (some ⟨g6,0,none⟩) (s.log.length+1) lT).ownBlock=some k->w5.heap.size<=k:=by
   rcases hat with e | e
   ·exact .inl (by rw [e];rfl)
   ·exact .inr (fun k hk=>by simp [Value.ownBlock] at hk;simp at e;omega)
  have R:=mi.logged ib rH hloc (by simp;omega) (by simp;omega);have HR:=eC R;have HL:Hid (iC w1 (.slice la s.log.length fG) (.slice (some ⟨g6,0,none⟩) (s.log.length+1) lT)):=by
   rcases hloc with e | e
   ·exact .inl e
   ·exact .inr (fun k hk=>aM z5 (e k hk))
  have HM:Hid (Mod (gx g nv (.slice la s.log.length fG)) w1 w5):=jA.mono (fun _ _ e=>e.elim);clear R rH iB hgrow hat hloc iU mi;go_wp2_with fail;go_meet
  case rel=>exact ⟨_,HR.out.1,HL.out,HM.out.trans HR.out.2⟩
 case rest=>
  obtain ⟨Jc,lP,Gh,hm2⟩:=hcut;clear fc qs vQ LG DQ HU c0 c1 c2 c3 c4 f3 x0 x1 x2 x3 ur hbz fi;have HT:=eC (yGk L g nv Jc _ wc lP);rw [yLn] at HT;have hmv:iC w (.slice la s.log.length fG) Jc:=by
   rcases Gh with e | e
   ·exact .inl e
   ·exact .inr (fun k hk=>aM xF (e k hk))
  have xK:Mod (gx g nv (.slice la s.log.length fG)) w wc:=(di.mono (fun _ _ e=>e.elim)).trans hm2;have Mi:=xK.size;go_wp2_with fail;refine HT.out.mono ?_;rintro e w3 ⟨rfl,m3,rfl⟩;have sw:=lP.drewN m3;have NV:Mod (gx g nv (.slice la s.log.length fG)) w (wc.drewN m3):=xK.drewN m3
  cases ht:te s with
  | true=>
   have HG:Hid (mX s c=kK (nH s (s.log++[c]))):=by rw [Hid,mX,ht];rfl
   have HK:=eC (Ld L g nv Jc _ _ sw);clear HT lP sw hm2 Gh;go_wp2_with fail;refine HK.out.mono ?_;rintro e w4 ⟨v,rfl,sI,OL,Jn,gM⟩;clear HK;go_wp2_with fail;go_ret;exact ⟨v,Jc,rfl,by rw [HG.out];exact sI,by rw [HG.out];exact OL,fun k hk=>aM Mi (Jn k hk),hmv,NV.node hmv (gM.mono (fun i _ e=>.inl e))⟩
  | false=>
   obtain ⟨t,hnt⟩:=yQd hin ht;have HG:Hid (mX s c=(nH s (s.log++[c]),[nR s t s.log.length c])):=by rw [Hid,mX,ht,hnt];rfl
   have HF:=zUo L g nv Jc (nH s (s.log++[c])) t s.log.length _ sw hnt (by omega);have hfl:ke (nH s (s.log++[c])) t s.log.length 1=[nR s t s.log.length c]:=by
    simp [ke,nR,nH]
   rw [aS,show (nH s (s.log++[c])).log.length - s.log.length=1 by simp [nH],hfl] at HF;have HF':=eC HF;have DP:=eC sw;clear HT lP sw hm2 Gh HF hfl;go_wp2_with fail;refine HF'.out.mono ?_;rintro e w4 ⟨v,rfl,OL,Jn,gM⟩;clear HF';go_wp2_with fail;go_ret;exact ⟨v,Jc,rfl,by rw [HG.out];exact DP.out.quiet gM,by rw [HG.out];exact OL,fun k hk=>aM Mi (Jn k hk),hmv,NV.trans (gM.mono (fun _ _ e=>e.elim))⟩
theorem yTm{s:eH}(h:mR s=true):oD s=true:=by
 simp only [mR,beq_iff_eq] at h;simp [oD,h]
theorem ySa(L:Lo)(g:Nat)(nv lv:Value)(s:eH)(c:dt)(u:Value)(w:World)(h:fh w L g nv lv s)(hh:mR s=true)(hf:s.log.length<500)(hu:iE w L u c.writes)(uD:Bg c) :
  Calls Tryz.prog 81 #[.pointer (some ⟨g,0,none⟩),.agg #[.int .i64 c.kind,.int .i64 c.tx,.int .i64 c.time,u]] w fun e w'=>
   ∃ v jQ,e=.returned (.tuple #[.int .i64 s.log.length,v,.nilIface])/\fh w' L g nv jQ (mX s c).1/\eX w' L v (mX s c).2/\lE w v/\iC w lv jQ/\Mod (gx g nv lv) w w':=by
 obtain ⟨ua,dj,rfl⟩:∃ ua dj,u=.slice ua c.writes.length dj:=by obtain ⟨ua,dj,h,_⟩:=hu;exact ⟨ua,dj,h⟩
 obtain ⟨w1,hw1⟩:∃ q,q=w.alloc (.cells #[.int .i64 c.kind,.int .i64 c.tx,.int .i64 c.time,.slice ua c.writes.length dj] 65):=⟨_,rfl⟩;have di:Mod dZ w w1:=by rw [hw1];exact (Mod.refl _ w).alloc _
 have fi:dh w1 w.heap.size [.int .i64 c.kind,.int .i64 c.tx,.int .i64 c.time,.slice ua c.writes.length dj] 65:=by rw [hw1];exact dh.new w _ _
 have h1:=h.quiet di;obtain ⟨la,fG,hlv⟩:=h1.lg.slice;subst hlv;have hz1:=di.size;have HH:=yRa L g nv _ s _ h1;rw [hh] at HH;have HH':=eC HH;have HN:=eC h1;have HU:=eC (hu.mod di (Qm.none _ _));clear h HH h1 hu;go_enter Tryz.func81,Tryz.ntmps81;go_upto_region 1 with fail;rw [<-hw1];clear hw1;go_wp2_with fail;refine HH'.out.mono ?_;rintro e w2 ⟨rfl,m1,rfl⟩;have h2:=HN.out.drewN m1;have HR:=QQ L g nv _ s _ h2;rw [aQ hf] at HR;have HR':=eC HR;obtain ⟨c0,c1,c2,c3,c4⟩:=mG h2.blk;have ur:=h2.blk.lt;obtain ⟨x0,x1,x2,x3,_⟩:=tD (fi.mod ((Mod.refl dZ w1).drewN m1) id);have HG:=eC (yHf L g nv _ s c (.slice ua c.writes.length dj) _ h2 (yTm hh) hf (HU.out.mod ((Mod.refl dZ w1).drewN m1) (Qm.none _ _)) uD);clear HR HH' HN h2 HU;go_wp2_with fail;refine HR'.out.mono ?_;rintro e w3 ⟨rfl,rfl⟩;go_wp2_with fail;refine HG.out.mono ?_;rintro e w4 ⟨v,lv4,rfl,sI,OL,Jn,hv4,gM⟩;clear HG HR' x0 x1 x2 x3 c0 c1 c2 c3 c4;go_wp2_with fail;refine bodyPost_ret (results_tmp3 rfl _ _ _) rfl ⟨v,lv4,rfl,sI,OL,fun k hk=>aM hz1 (Jn k hk),?_,?_⟩
 ·rcases hv4 with e | e
  ·exact .inl e
  ·exact .inr (fun k hk=>aM hz1 (e k hk))
 ·exact ((di.drewN m1).mono (fun _ _ e=>e.elim)).trans gM
theorem yMg(w:World)(n:Nat)(cur:Array Value)(hc:cur.size=n*4)(hm:n<=maxLen):(w.alloc (.cells cur 65)).ownsRow w.heap.size 65 4 (.slice (some ⟨w.heap.size,0,none⟩) 0 n) 0 []:=
 ⟨rfl,.inr ⟨w.heap.size,n,cur,rfl,aF _,heap_alloc_new w _,aV _,hm,hc,by simp⟩⟩
theorem LR(L:Lo)(g:Nat)(nv lv:Value)(s:eH)(w:World)(h:fh w L g nv lv s) :
  Calls Tryz.prog 40 #[.pointer (some ⟨g,0,none⟩)] w fun e w'=>∃ v,e=.returned v/\gU w' L v s.log/\lE w v/\Mod dZ w w':=by
 obtain ⟨i0,hi,hz0,hz1,hz2⟩:=info_parts Tryz.zA;obtain ⟨a,cap,hlv⟩:=h.lg.slice;subst hlv;have c0:=h.blk.cell 3 rfl;have hf:=h.few.2;have jy:=h.low;have hgl:=h.blk.lt;have hmk:=run_make (P:=Tryz.prog) w 62 65 i0 _ Tryz.underlying62 hi hz0 .i64 .i64 0 s.log.length (by omega) (by omega) (by rw [hz2];omega) (by omega);rw [hz1] at hmk;simp only [aS,Int.toNat_zero] at hmk;obtain ⟨cur,fX⟩:∃ c,c=madeCells (Value.agg #[.int .i64 0,.int .i64 0,.int .i64 0,.slice none 0 0]).cells (s.log.length*4):=⟨_,rfl⟩;rw [<-fX] at hmk;have hcs:cur.size=s.log.length*4:=by rw [fX];simp [madeCells]
 clear fX;have OM:gU (w.alloc (.cells cur 65)) L (.slice (some ⟨w.heap.size,0,none⟩) 0 s.log.length) []:=
  ⟨[],rfl,uP (yMg w s.log.length cur hcs (by unfold maxLen;omega)) (by omega),fun i m u h=>by simp at h,by simp⟩
 have KB:Mod dZ w (w.alloc (.cells cur 65)):=(Mod.refl _ w).alloc _;have c1:=KB.cell c0 id;have HN:=eC h;clear h;go_enter Tryz.func40,Tryz.ntmps40;go_wp2_with fail;go_loopw [3,17] (fun v i wr=>∃ k:Nat,k<=s.log.length/\i=.int .i64 k/\gU wr L v (s.log.take k)/\lE w v/\Mod dZ w wr) (fun _ i _=>s.log.length - (intOf i).toNat)
 case atStart=>exact ⟨0,aV _,rfl,OM,fun x hx=>by simp [Value.ownBlock] at hx;omega,KB⟩
 case round=>
  obtain ⟨k,hk,rfl,hR,jF,hM⟩:=hrel;clear OM KB c1 c0 hmk;have hNr:=HN.out.quiet hM;by_cases hlt:k<s.log.length
  ·obtain ⟨c,hc⟩:∃ c,s.log[k]?=some c:=⟨_,aA hlt⟩;obtain ⟨b,xX,u,hv,_,_,hu,uD,q0,q1,q2,q3⟩:=hNr.lg.at hc;simp only [Value.slice.injEq] at hv;obtain ⟨rfl,_,rfl⟩:=hv;obtain ⟨ua,dj,rfl⟩:∃ ua dj,u=.slice ua c.writes.length dj:=by obtain ⟨ua,dj,h,_⟩:=hu;exact ⟨ua,dj,h⟩
   have HT:Hid (s.log.take (k+1)=s.log.take k++[c]):=by
    rw [Hid,bd hlt];rw [aA hlt] at hc;simp at hc;rw [hc]
   have oH:Hid ((s.log.take k).length=k):=by rw [Hid,aZ];omega
   have di:Mod dZ wr (wr.alloc (.cells #[.int .i64 c.kind,.int .i64 c.tx,.int .i64 c.time,.slice ua c.writes.length dj] 65)):=(Mod.refl _ wr).alloc _;have HOM:=eC (TG L c _ _ (hu.mod di (Qm.none _ _)) (by have:=uD.2;omega));go_wp2_with fail;refine HOM.out.mono ?_;rintro e w5 ⟨uo,rfl,iU,eu⟩;obtain ⟨Fe,Fc,rfl⟩:=fJ iU;have zU:=di.trans eu;have Ef:=hR.mod zU (Qm.none _ _) (fun _ _=>id);obtain ⟨us,lu,hrow,hps,hgd⟩:=Ef;have fc:=eC hrow;have qs:=eC hps;have vQ:=eC hgd;have HU:=eC (iE.iY (L:=L) iU (fun k hk=>aG (HN.out.xb k hk) (hM.trans di).size));have wD:=hM.trans zU;have GN:=wD.size;rw [oH.out] at fc;have iF:k+1<=maxLen:=by unfold maxLen;omega
   have iG:(k+1)*48<=140737488355328:=by omega
   clear hrow hps hgd iU HOM hR hu eu di q0 q1 q2 q3;go_wp2_with (first
    | (at_builtin;refine wpList_append_own_at _ rfl (.tmp 21) (.tmp 24) 62 rfl L 65 i0 _ 4 48 Tryz.underlying62 hi hz0 hz1 hz2 rfl (by omega) _ _ _ rfl (fc.out.alloc _) ⟨w5.heap.size,0,none⟩ 1 1 (vh c (.slice Fe c.writes.length Fc)) rfl rfl (World.news_of_block (heap_alloc_new w5 _)) (yOe _ _ _ _) iF iG (by simp;omega) ?_)
    | fail)
   intro v6 w6 iB hgrow _ hloc;have fq:Mod (fun k=>u3.ownBlock=some k) w5 w6:=((Mod.refl _ w5).alloc _).grown hgrow (fun x hx _=>hx);have rH:gU w6 L v6 (s.log.take k++[c]):=gU.snoc lu (by rw [oH.out];exact fc.out) qs.out vQ.out HU.out uD fq (by rw [oH.out];exact iB);have BW:Mod dZ w w6:=wD.trans' fq (fun i hi e=>by have:=jF i e;omega);have Xn:lE w v6:=fun x hx=>by
    rcases hloc with e | e
    ·exact jF x (by rw [<-e];exact hx)
    ·rw [e] at hx;simp at hx;omega
   clear iB hgrow hloc fc qs vQ HU wD hM fq;go_wp2_with fail;go_roundw
   case rel=>exact ⟨k+1,by omega,by go_num,by rw [HT.out];exact rH,Xn,BW⟩
   case measure=>simp [intOf];omega
  ·have hkn:k=s.log.length:=by omega
   subst hkn;rw [bI] at hR;go_wp2_with fail;go_ret;exact ⟨_,rfl,hR,jF,hM⟩
theorem mz.quiet{w w':World}{v:Value}{ns:List Int}(h:mz w v ns)(hm:Mod dZ w w'):mz w' v ns:=by
 obtain ⟨a,cap,h1,h2,h3,h4⟩:=h;refine ⟨a,cap,h1,h2,h3,?_⟩;rcases h4 with h4 | ⟨b,off,h5,h6⟩
 ·exact .inl h4
 ·exact .inr ⟨b,off,h5,fun j x hx=>hm.cell (h6 j x hx) id⟩
def qD:List Int->List Int->Bool
 | _,[]=>false
 | seen,x :: xs=>decide (x∈seen) || qD (seen++[x]) xs
theorem zXp:∀ (xs seen:List Int),qD seen xs=false↔xs.Nodup/\∀ x∈xs,x∉seen
 | [],seen=>by simp [qD]
 | x :: xs,seen=>by
  simp only [qD,Bool.or_eq_false_iff,bT,zXp xs (seen++[x]),List.nodup_cons,bA,aL];constructor
  ·rintro ⟨h1,h2,h3⟩;exact ⟨⟨fun hx=>(h3 x hx) (.inr (by simp)),h2⟩,fun y hy=>by
    rcases hy with rfl | hy
    ·exact h1
    ·exact fun hs=>h3 y hy (.inl hs)⟩
  ·rintro ⟨⟨h1,h2⟩,h3⟩;refine ⟨h3 x (.inl rfl),h2,fun y hy hs=>?_⟩;rcases hs with hs | hs
   ·exact h3 y (.inr hy) hs
   ·simp at hs;subst hs;exact h1 hy
theorem yTc{w':World}{L b n:Nat}{ds:List Int}{D:DataW Unit}{x:Int}(hd:∀ x,(Lit.int .i64 x).wf=true->Maps.has D (.int .i64 x)=decide (x∈ds))(hD:IsMap D)(hb:L<=b)(hn:n<=ds.length)
  (hid:gw x) (h:w'.ownsMap Tryz.prog 3 unitElem b (n+1) (D.put (.int .i64 x) (.agg []))):pV w' L (some b) (ds++[x]):=by
 refine .inr ⟨b,_,rfl,hb,h.mono (by simp;omega),fun y hy=>?_⟩;by_cases e:y=x
 ·subst e;rw [has_put_same hD (by simp [WideAt.IsKeyLit])];simp
 ·rw [has_put_other (by intro h;cases h;exact e rfl),hd y hy];simp [e]
theorem yIa(L q b:Nat)(ds:List Int)(x:Int)(w:World)(hq:w.cell? ⟨q,0,none⟩=some (.map (some b)))(hd:pV w L (some b) ds)(hx:gw x)(hds:ds.length<=1000000) :
  Calls Tryz.prog 165 #[.int .i64 x,.pointer (some ⟨q,0,none⟩)] w fun e w'=>e=.returned (.bool (decide (x∈ds)))/\pV w' L (some b) (ds++[x])/\Mod (eF b) w w':=by
 have l1:=FQ hd hx;have Wv:q<w.heap.size:=World.block_lt_of_cell? w _ hq;have hd0:=hd;rcases hd with ⟨e,_⟩ | ⟨b',D,e,DB,hown,hhas⟩
 ·cases e
 cases e
 have hkey:keyOf Tryz.prog 3 (.int .i64 x)=some (.int .i64 x):=keyOf_int_mk Tryz.underlying3 (LP hx);have di:Mod dZ w (w.alloc (.cells #[] 158)):=(Mod.refl _ w).alloc _;have HO:=eC (World.ownsMap.alloc hown (.cells #[] 158));have IU:=eC hhas;have HD:Hid (IsMap D):=hown.isMap;clear hown hhas hd0;go_enter Tryz.func165,Tryz.ntmps165;go_wp2_with (first
  | (at_mapUpdate;refine wpList_mapUpdate_own _ rfl _ _ _ 75 rfl 3 158 yv Tryz.underlying75 unitElem b _ D rfl HO.out (by unfold maxLen;omega) _ _ _ rfl rfl hkey _ [] unitElem_mk ?_)
  | fail)
 intro w1 hown1 hgrow1;have hm2:Mod (eF b) (w.alloc (.cells #[] 158)) w1:=(Mod.refl _ _).grown hgrow1 (fun k hk _=>by cases hk;exact rfl);have vR:=eC (yTc IU.out HD.out DB (aF _) hx hown1);clear hown1 hgrow1 HO l1;go_wp2_with fail;go_ret;exact ⟨rfl,vR.out,(di.mono (fun _ _ e=>e.elim)).trans hm2⟩
theorem yAj(L q b:Nat)(v:Value)(ns:List Int)(w:World)(hv:mz w v ns)(CZ:ns≠[]->∀ a n cap,v=.slice (some a) n cap->a.block≠b)(hq:w.cell? ⟨q,0,none⟩=some (.map (some b)))(Ga:q≠b)(hd:pV w L (some b) [])(hin:∀ x∈ns,gw x)(hn:ns.length<=1000000) :
  Calls Tryz.prog 134 #[v,.func (.func 165) #[] #[.pointer (some ⟨q,0,none⟩)]] w fun e w'=>∃ r:Int,e=.returned (.int .i64 r)/\decide (0<=r)=qD [] ns/\Mod (eF b) w w':=by
 obtain ⟨a,cap,rfl,hc1,hc2,hcl⟩:=hv;unfold maxLen at hc2;have qt:=eC hcl;have sL:=eC hin;have PL:=eC CZ;clear hcl hin CZ;go_enter Tryz.func134,Tryz.ntmps134;go_wp2_with fail;go_loopw [8] (fun i wr=>∃ k:Nat,k<=ns.length/\i=.int .i64 k/\qD [] ns=qD (ns.take k) (ns.drop k)/\pV wr L (some b) (ns.take k)/\Mod (eF b) w wr) (fun i _=>ns.length - (intOf i).toNat)
 case atStart=>exact ⟨0,aV _,rfl,by simp,by simpa using hd,Mod.refl _ _⟩
 case round=>
  obtain ⟨k,hk,rfl,rk,oT,hM⟩:=hrel;clear hd;by_cases hlt:k<ns.length
  ·obtain ⟨y,hy⟩:∃ y,ns[k]?=some y:=⟨_,aA hlt⟩;rcases qt.out with e | ⟨ab,off,rfl,hcl⟩
   ·rw [e] at hlt;simp at hlt
   have hab:ab≠b:=PL.out (by intro e;rw [e] at hlt;simp at hlt) _ _ _ rfl;have q0:=hM.cell (hcl k y hy) hab;have hq1:=hM.cell hq Ga;have hdr:ns.drop k=y :: ns.drop (k+1):=by
    rw [bj hlt];rw [aA hlt] at hy;simp at hy;rw [hy]
   have htk:ns.take (k+1)=ns.take k++[y]:=by
    rw [bd hlt];rw [aA hlt] at hy;simp at hy;rw [hy]
   rw [hdr,qD,<-htk] at rk;have HC:=yIa L q b (ns.take k) y wr hq1 oT (sL.out y (aC hy)) (by rw [aZ];omega);rw [<-htk] at HC;have HC':=eC HC;have tW:=eC rk;have kO:(k:Int)<(ns.length:Int):=by omega
   have ow:(0:Int)<=(k:Int):=by omega
   clear hcl hy HC rk hdr htk oT hq1;go_wp2_with fail;refine HC'.out.mono ?_;rintro e w5 ⟨rfl,Xq,eu⟩;have wD:=hM.trans eu;clear HC' q0 hM;by_cases hmem:y∈ns.take k
   ·rw [aQ hmem] at tW ⊢;rw [Bool.true_or] at tW;go_wp2_with fail;go_ret;exact ⟨k,rfl,by rw [tW.out];exact aQ ow,wD⟩
   ·rw [aP hmem] at tW ⊢;rw [Bool.false_or] at tW;go_wp2_with fail;go_roundw
    case rel=>exact ⟨k+1,by omega,by go_num,tW.out,Xq,wD⟩
    case measure=>simp [intOf];omega
  ·obtain rfl:k=ns.length:=by omega
   rw [cV] at rk;have tW:=eC rk;clear rk;go_wp2_with fail;go_ret;exact ⟨-1,rfl,by rw [tW.out];rfl,hM⟩
theorem yAk(L q b:Nat)(v:Value)(ns:List Int)(w:World)(hv:mz w v ns)(CZ:ns≠[]->∀ a n cap,v=.slice (some a) n cap->a.block≠b)(hq:w.cell? ⟨q,0,none⟩=some (.map (some b)))(Ga:q≠b)(hd:pV w L (some b) [])(hin:∀ x∈ns,gw x)(hn:ns.length<=1000000) :
  Calls Tryz.prog 93 #[v,.func (.func 165) #[] #[.pointer (some ⟨q,0,none⟩)]] w fun e w'=>e=.returned (.bool (qD [] ns))/\Mod (eF b) w w':=by
 have HI:=eC (yAj L q b v ns w hv CZ hq Ga hd hin hn);obtain ⟨a,cap,rfl,_⟩:=hv;clear hq hd hin;go_enter Tryz.func93,Tryz.ntmps93;go_wp2_with fail;refine HI.out.mono ?_;rintro e w1 ⟨r,rfl,hr,hm⟩;have HR:=eC hr;clear hr;go_wp2_with fail;go_ret;exact ⟨by rw [<-HR.out];rfl,hm⟩
theorem yLc(v:Value)(ns:List Int)(w:World)(hv:mz w v ns)(hin:∀ x∈ns,gw x)(hn:ns.length<=1000000) :
  Calls Tryz.prog 139 #[v] w fun e w'=>e=.returned (.bool (qD [] ns))/\Mod dZ w w':=by
 have hmm:=@run_makeMap Tryz.prog;have hv0:=hv;obtain ⟨a,cap,rfl,hc1,hc2,hcl⟩:=hv0;go_enter Tryz.func139,Tryz.ntmps139;go_wp2_with fail;have hm2:Mod dZ w ((w.alloc (.map #[] 0)).alloc (.cells #[.map (some w.heap.size)] 75)):=((Mod.refl _ w).alloc _).alloc _;have oT:pV ((w.alloc (.map #[] 0)).alloc (.cells #[.map (some w.heap.size)] 75)) w.heap.size (some w.heap.size) []:=
  .inr ⟨w.heap.size,.map [],rfl,aF _,(World.ownsMap_made (H:=Unit) w Tryz.prog 3 unitElem).alloc _,fun x _=>by simp [Maps.has]⟩
 have Gw:=dh.new (w.alloc (.map #[] 0)) [.map (some w.heap.size)] 75;rw [World.size_alloc] at Gw;refine (yAk w.heap.size (w.heap.size+1) w.heap.size _ ns _ (hv.quiet hm2) (fun hne a' n' cap' e=>?_) (Gw.cell 0 rfl) (by omega) oT hin hn).mono ?_
 ·simp only [Value.slice.injEq] at e;rcases hcl with e0 | ⟨ab,off,e1,h2⟩
  ·exact absurd e0 hne
  ·obtain ⟨x,hx⟩:∃ x,ns[0]?=some x:=⟨_,aA (by cases ns with | nil=>exact absurd rfl hne | cons=>simp)⟩;have:=World.block_lt_of_cell? w _ (h2 0 x hx);rw [e1] at e;have e3:=e.1;simp at e3;rw [<-e3];simp only at this ⊢;omega
 ·rintro e w3 ⟨rfl,dz⟩;go_wp2_with fail;go_ret;exact ⟨rfl,hm2.trans' dz (fun i hi e=>by simp only [eF] at e;omega)⟩
theorem mz.cells{w:World}{a:Option Addr}{n cap:Nat}{ns:List Int}(h:mz w (.slice a n cap) ns)(h0:ns≠[]) :
  ∃ b off,a=some ⟨b,off,none⟩/\∀ (j:Nat) u,(ns.map (Value.int .i64))[j]?=some u->w.cell? ((⟨b,off,none⟩:Addr).add j)=some u:=by
 obtain ⟨a',cap',h1,_,_,h4⟩:=h;simp only [Value.slice.injEq] at h1;obtain ⟨rfl,_,rfl⟩:=h1;rcases h4 with h4 | ⟨b,off,h5,h6⟩
 ·exact absurd h4 h0
 ·refine ⟨b,off,h5,fun j u hu=>?_⟩;rw [Go.WideShapes.add_plain];rw [bF] at hu
  cases hj:ns[j]? with
  | none=>rw [hj] at hu;cases hu
  | some x=>rw [hj] at hu;cases hu;exact h6 j x hj
theorem Tryz.Mg:(Tryz.prog.info? 3).map (fun i=>(i.zero,i.size,i.bytes))=some (some (.int .i64 0),1,8):=by kernel_rfl
theorem yQy(ns:List Int):∀ u∈ns.map (Value.int .i64),u.oneCell'=true:=by
 intro u hu;obtain ⟨x,_,rfl⟩:=ag.1 hu;rfl
theorem yKc(v:Value)(ns:List Int)(w:World)(hv:mz w v ns)(hne:ns≠[])(hn:ns.length<=1000000) :
  Calls Tryz.prog 140 #[v] w fun e w'=>∃ v',e=.returned v'/\w'.ownsRow w.heap.size 3 1 v' ns.length (ns.map (Value.int .i64))/\Mod dZ w w':=by
 obtain ⟨i0,hi,hz0,hz1,hz2⟩:=info_parts Tryz.Mg;have hv0:=hv;obtain ⟨a,cap,rfl,hc1,hc2,_⟩:=hv0;obtain ⟨b,off,rfl,hcl⟩:=hv.cells hne;have di:Mod dZ w (w.alloc (.cells #[] 3)):=(Mod.refl _ w).alloc _;have qt:Hid (∀ (j:Nat) u,(ns.map (Value.int .i64))[j]?=some u->(w.alloc (.cells #[] 3)).cell? ((⟨b,off,none⟩:Addr).add j)=some u):=fun j u Nh=>di.cell (hcl j u Nh) id;have HO:Hid ((w.alloc (.cells #[] 3)).ownsRow w.heap.size 3 1 (.slice (some ⟨w.heap.size,0,none⟩) 0 0) 0 []):=
  ⟨rfl,.inr ⟨w.heap.size,0,#[],rfl,aF _,heap_alloc_new w _,aF _,by unfold maxLen;omega,rfl,rfl⟩⟩
 have HL:Hid ((ns.map (Value.int .i64)).length=ns.length*1):=by rw [Hid];simp
 have sJ:=eC (yQy ns);have iF:0+ns.length<=maxLen:=by unfold maxLen;omega
 have iG:(0+ns.length)*8<=140737488355328:=by omega
 have hen:=run_eql_slice_nil (P:=Tryz.prog) w 26 3 (some ⟨b,off,none⟩) ns.length cap 0 0 Tryz.underlying26;clear hcl hv;go_enter Tryz.func140,Tryz.ntmps140;go_wp2_with (first
  | (at_builtin;refine wpList_append_own _ rfl _ _ 26 rfl w.heap.size 3 i0 _ 1 8 Tryz.underlying26 hi hz0 hz1 hz2 rfl (by omega) _ _ _ rfl HO.out ⟨b,off,none⟩ _ _ (ns.map (Value.int .i64)) rfl HL.out qt.out sJ.out iF iG (by simp) ?_)
  | fail)
 intro v' w1 hown1 hgrow _;have hm2:Mod (jU w.heap.size) (w.alloc (.cells #[] 3)) w1:=(Mod.refl _ _).grown hgrow (fun x hx _=>by simp [Value.ownBlock] at hx;simp only [jU];omega);have HW:=eC hown1;clear hown1 hgrow HO qt HL sJ;go_wp2_with fail;go_ret;exact ⟨_,rfl,by simpa using HW.out,di.since hm2 (aF _)⟩
def xm(s:eH)(ep:Int)(ns:List Int):eH:=⟨s.id,ep,ns,s.log,s.gj⟩
def jK(s:eH)(ep:Int)(ns:List Int):eH:=if !oD s && oD (xm s ep ns) then ⟨s.id,ep,ns,[],0⟩ else xm s ep ns
theorem fh.vE{w w5:World}{L:Lo}{g:Nat}{nv lv v5:Value}{s:eH}{ep:Int}{ns:List Int}(h:fh w L g nv lv s)(eu:Mod dZ w w5)(ho:w5.ownsRow w.heap.size 3 1 v5 ns.length (ns.map (Value.int .i64)))(iP:gw ep)(hns:∀ x∈ns,gw x)(hl:ns.length<=1000000) :
  fh ((w5.setCell ⟨g,1,none⟩ (.int .i64 ep)).setCell ⟨g,2,none⟩ v5) L g v5 lv (xm s ep ns)/\Mod (eF g) w ((w5.setCell ⟨g,1,none⟩ (.int .i64 ep)).setCell ⟨g,2,none⟩ v5):=by
 have h5:=h.quiet eu;obtain ⟨a1,a2,_⟩:=h.apart;have jy:=h.low;have hgl:=h.blk.lt;have iV:Mod (eF g) w5 ((w5.setCell ⟨g,1,none⟩ (.int .i64 ep)).setCell ⟨g,2,none⟩ v5):=(Mod.dq g 1 _).trans (Mod.dq g 2 _);have GZ:Qm w5 L (eF g):=Qm.vn h5 (fun k _ e=>.inl e);refine ⟨⟨(h5.blk.set 1 _).set 2 _,h.low,gD (uP ho (by omega)) iV (fun k _ _ hk e=>?_),h5.lg.mod iV GZ (fun k hk e=>a2 (by rw [hk,e])),⟨h.ints.1,iP,hns⟩,⟨hl,h.few.2⟩,h.st,fun k hk=>aG (h.xb k hk) (aM eu.size iV.size)⟩,(eu.mono (fun _ _ e=>e.elim)).trans iV⟩;simp only [eF] at e;subst e;obtain ⟨h1,_,_⟩:=ft ho hk;omega
theorem fh.DI{w:World}{L:Lo}{g:Nat}{nv lv:Value}{s:eH}(h:fh w L g nv lv s) :
  fh ((w.setCell ⟨g,3,none⟩ (.slice none 0 0)).setCell ⟨g,4,none⟩ (.int .i64 0)) L g nv (.slice none 0 0) ⟨s.id,s.db,s.nodes,[],0⟩/\Mod (eF g) w ((w.setCell ⟨g,3,none⟩ (.slice none 0 0)).setCell ⟨g,4,none⟩ (.int .i64 0)):=by
 obtain ⟨a1,a2,_⟩:=h.apart;have iV:Mod (eF g) w ((w.setCell ⟨g,3,none⟩ (.slice none 0 0)).setCell ⟨g,4,none⟩ (.int .i64 0)):=(Mod.dq g 3 _).trans (Mod.dq g 4 _);exact ⟨⟨(h.blk.set 3 _).set 4 _,h.low,gD h.ns iV (fun k _ _ hk e=>a1 (by rw [hk,e])),gU.nil _ _,h.ints,⟨h.few.1,by simp⟩,by simp,fun k hk=>aG (h.xb k hk) iV.size⟩,iV⟩
theorem yRx(L:Lo)(g:Nat)(nv lv:Value)(s:eH)(ep:Int)(v:Value)(ns:List Int)(w:World)(h:fh w L g nv lv s)(hgt:¬ ep<=s.db)(iP:gw ep)(hv:mz w v ns)(hin:∀ x∈ns,gw x)(h1n:1<=ns.length)(h6n:ns.length<=6)(rk:qD [] ns=false) :
  Calls Tryz.prog 107 #[.pointer (some ⟨g,0,none⟩),.agg #[.int .i64 ep,v]] w fun e w'=>
   ∃ r oO jQ,e=.returned (.tuple #[r,.nilIface])/\fh w' L g oO jQ (kK (jK s ep ns)).1/\eX w' L r (kK (jK s ep ns)).2/\lE w r/\lE w oO/\iC w lv jQ/\Mod (eF g) w w':=by
 have hv0:=hv;obtain ⟨ca,ql,rfl,hc1,hc2,_⟩:=hv0;obtain ⟨w1,hw1⟩:∃ q,q=w.alloc (.cells #[.int .i64 ep,.slice ca ns.length ql] 160):=⟨_,rfl⟩;have di:Mod dZ w w1:=by rw [hw1];exact (Mod.refl _ w).alloc _
 have fi:dh w1 w.heap.size [.int .i64 ep,.slice ca ns.length ql] 160:=by rw [hw1];exact dh.new w _ _
 have h1:=h.quiet di;obtain ⟨c0,c1,c2,c3,c4⟩:=mG h1.blk;have x0:=fi.cell 0 rfl;have x1:=fi.cell 1 rfl;have z1:=fi.lt;have z2:=h1.blk.lt;have z3:=h.blk.lt;have hd:decide (ep<=s.db)=false:=aP hgt;have hd1:decide ((ns.length:Int)<1)=false:=aP (by omega);have hd2:decide ((ns.length:Int) > 6)=false:=aP (by omega);have HV:=eC (hv.quiet di);have sL:=eC hin;have HN:=eC h1;clear h h1 hv hin;go_enter Tryz.func107,Tryz.ntmps107;go_upto_region 1 with fail;rw [<-hw1];clear hw1;go_quiet (fail);have HT:=yLc _ ns _ (HV.out.quiet ((Mod.refl dZ w1).drewN nq)) sL.out (by omega);rw [rk] at HT;have HT':=eC HT;clear HT rk;go_wp2_with fail;refine HT'.out.mono ?_;rintro e w3 ⟨rfl,dz⟩;have jJ:Mod dZ w1 w3:=((Mod.refl dZ w1).drewN nq).trans dz;have sw:=HN.out.quiet jJ;have HI:=eC (MC L g nv lv s w3 sw);clear HT' dz c0 c1 c2 c3 c4 x0 x1;go_wp2_with fail;refine HI.out.mono ?_;rintro e w4 ⟨rfl,m4,rfl⟩;have zV:Mod dZ w1 (w3.drewN m4):=jJ.drewN m4;have sI:=sw.drewN m4;obtain ⟨w4,hw4⟩:∃ q,q=w3.drewN m4:=⟨_,rfl⟩;rw [<-hw4] at zV sI ⊢;have hB4:=fi.mod zV id;have x0:=hB4.cell 0 rfl;have x1:=hB4.cell 1 rfl;obtain ⟨c0,c1,c2,c3,c4⟩:=mG sI.blk;have f1:=sI.blk.frozen 1;have f2:=sI.blk.frozen 2;have z4:=hB4.lt;have z5:=sI.blk.lt;have hzz:=(di.trans zV).size;have qt:=eC (yKc _ ns w4.drew (HV.out.quiet (zV.drew)) (by intro e;rw [e] at h1n;simp at h1n) (by omega));clear HI hw4 jJ sw;go_upto_region 6 with fail;go_cut [6] (fun t wc=>t=.bool (oD s)/\∃ oO,fh wc L g oO lv (xm s ep ns)/\lE w oO/\Mod (eF g) w4 wc)
 case first=>
  go_region_with (first
   | (go_at_call 140;refine qt.out.mono ?_;rintro e w5 ⟨v5,rfl,iU,eu⟩;have mg:Mod dZ w4 w5:=((Mod.refl dZ w4).drew).trans eu;have y0:=mg.cell x0 id;have y1:=mg.cell x1 id;have z7:=aG z4 mg.size;have d1:=mg.cell c1 id;have d2:=mg.cell c2 id;have e1:=(mg.frozen (p:=⟨g,1,none⟩) z5 id).trans f1;have e2:=(mg.frozen (p:=⟨g,2,none⟩) z5 id).trans f2;have z6:=aG z5 mg.size;obtain ⟨va5,vc5,rfl⟩:=fJ iU)
   | fail)
  all_goals
   have R:=sI.vE mg (uP iU (aF _)) iP sL.out (by omega);have BQ:lE w (.slice va5 ns.length vc5):=fun k hk=>by
    have:=(ft iU hk).1;have h9:w4.drew.heap.size=w4.heap.size:=rfl;omega
   go_wp2_with fail;go_meet
   case rel=>exact ⟨rfl,_,R.1,BQ,R.2⟩
 case rest=>
  obtain ⟨rfl,CR,mi,BQ,mg⟩:=hcut;clear qt c0 c1 c2 c3 c4 f1 f2 x0 x1 sI HN;have Ch:Mod (eF g) w wc:=((di.trans zV).mono (fun _ _ e=>e.elim)).trans mg;have GN:=Ch.size
  cases hin:oD s with
  | true=>
   have HB:Hid (jK s ep ns=xm s ep ns):=by rw [Hid,jK,hin];rfl
   have HK:=eC (Ld L g CR lv _ wc mi);rw [<-HB.out] at HK;clear mi;go_wp2_with fail;refine HK.out.mono ?_;rintro e w6 ⟨r,rfl,sv,rH,Xo,fq⟩;clear HK;go_wp2_with fail;refine bodyPost_ret (results_tmp2 rfl _ _ _) rfl ⟨r,CR,lv,rfl,sv,rH,fun k hk=>aM GN (Xo k hk),BQ,iC.refl _ _,Ch.trans fq⟩
  | false=>
   have HI:=MC L g CR lv _ wc mi
   cases uk:oD (xm s ep ns) with
   | false=>
    rw [uk] at HI;have rI:=eC HI;have HB:Hid (jK s ep ns=xm s ep ns):=by rw [Hid,jK,hin,uk];rfl
    have Ze:=eC mi;clear HI mi;go_wp2_with fail;refine rI.out.mono ?_;rintro e w6 ⟨rfl,m6,rfl⟩;have HK:=eC (Ld L g CR lv _ _ (Ze.out.drewN m6));rw [<-HB.out] at HK;clear rI;go_wp2_with fail;refine HK.out.mono ?_;rintro e w7 ⟨r,rfl,uI,rG,yJ,ix⟩;clear HK;go_wp2_with fail;refine bodyPost_ret (results_tmp2 rfl _ _ _) rfl ⟨r,CR,lv,rfl,uI,rG,fun k hk=>aM GN (yJ k hk),BQ,iC.refl _ _,(Ch.drewN m6).trans ix⟩
   | true=>
    rw [uk] at HI;have rI:=eC HI;have HB:Hid (jK s ep ns=⟨s.id,ep,ns,[],0⟩):=by rw [Hid,jK,hin,uk];rfl
    have Ze:=eC mi;clear HI mi;go_wp2_with fail;refine rI.out.mono ?_;rintro e w6 ⟨rfl,m6,rfl⟩;have sv:=Ze.out.drewN m6;obtain ⟨uI,ix⟩:=sv.DI;obtain ⟨c0,c1,c2,c3,c4⟩:=mG sv.blk;have f3:=sv.blk.frozen 3;have f4:=sv.blk.frozen 4;have z6:=sv.blk.lt;have HK:=eC (Ld L g CR (.slice none 0 0) _ _ uI);have Jr:(⟨(xm s ep ns).id,(xm s ep ns).db,(xm s ep ns).nodes,[],0⟩:eH)=jK s ep ns:=by rw [HB.out];rfl
    rw [Jr] at HK;have DR:=eC ix;obtain ⟨la,fG,hlv⟩:=sv.lg.slice;subst hlv;clear rI sv uI Jr ix;go_wp2_with fail;refine HK.out.mono ?_;rintro e w8 ⟨r,rfl,hN8,Rl,hf8,oQ⟩;clear HK;go_wp2_with fail;refine bodyPost_ret (results_tmp2 rfl _ _ _) rfl ⟨r,CR,.slice none 0 0,rfl,hN8,Rl,fun k hk=>aM GN (by simpa using hf8 k hk),BQ,.inr (fun k hk=>by simp [Value.ownBlock] at hk),((Ch.drewN m6).trans DR.out).trans oQ⟩
end Go.Proofs.YtmaiggbnceejiaaGreatDoor
