import Derived.Test.YtmaiggbnceejiaaGreatDoorS16
set_option linter.unusedVariables false
set_option maxRecDepth 100000
set_option maxHeartbeats 16000000
namespace Go.Proofs.YtmaiggbnceejiaaGreatDoor
open Go.RowKit Go.Lib Go.Maps
theorem ze{P:Program}{w w':World}{o:Oper}{a:Act}{s x:Operand}{t:TypeId}{vs vx v:Value}(ho:o.op=.call { callee:=.builtin .append,args:=#[s,x],argTypes:=#[t,t] })(hs:a.eval s=vs)(hx:a.eval x=vx)
  (hr:(Builtin.append_ #[t,t] o.type #[vs,vx]).run P w=.ok v w'):(execOp a.eval o).run P w=.ok (.value v) w':=by
 simp only [execOp,ho,resolve,invoke,builtin,Sem.run_bind,Sem.run_pure,Result.andThen_ok,bz,bW,cM,hs,hx,hr]
theorem yNa{w:World}{B wb m cap i:Nat}{ps:List fQ}{p:fQ}(h:w.ownsRow B 68 3 (.slice (some ⟨wb,0,none⟩) m cap) ps.length (gb ps))(hi:i<ps.length) :
  (w.setCells wb (i*3) (jv p)).ownsRow B 68 3 (.slice (some ⟨wb,0,none⟩) m cap) (ps.set i p).length (gb (ps.set i p))/\Mod (eA wb) w (w.setCells wb (i*3) (jv p))/\(∀ j,j<3->∃ u,w.cell? ⟨wb,i*3+j,none⟩=some u)/\∀ j,w.frozen? ⟨wb,j,none⟩=false:=by
 obtain ⟨h1,h2⟩:=h;rcases h2 with ⟨e,_⟩ | ⟨b',cap',cur,e,q1,q2,q3,q4,q5,q6⟩
 ·simp at e
 ·simp only [Value.slice.injEq,ae,Addr.mk.injEq] at e;obtain ⟨⟨rfl,_,_⟩,rfl,rfl⟩:=e;obtain ⟨o,ho⟩:∃ o,ps[i]?=some o:=⟨_,aA hi⟩;have hl:=Bo ps;have hs:ps=ps.take i++o :: ps.drop (i+1):=by rw [<-uh ho,aq]
  have Hw:ps.set i p=ps.take i++p :: ps.drop (i+1):=by
   rw [List.set_eq_take_append_cons_drop,aP hi]
  have fN:cur.toList=gb (ps.take i)++jv o++(gb (ps.drop (i+1))++cur.toList.drop (ps.length*3)):=by
   have e1:gb ps=gb (ps.take i)++(jv o++gb (ps.drop (i+1))):=by
    conv=>lhs;rw [hs]
    rw [MI,EW]
   have e2:cur.toList=gb ps++cur.toList.drop (ps.length*3):=by
    rw [<-q6,aq]
   rw [e1] at e2;simpa [List.append_assoc] using e2
  have hB:dg w wb (gb (ps.take i)++jv o++(gb (ps.drop (i+1))++cur.toList.drop (ps.length*3))) 68:=by
   unfold dg;rw [q2,<-fN]
  have lt:=Bo (ps.take i);rw [aZ,Nat.min_eq_left (Nat.le_of_lt hi)] at lt;have gp:=dg.kO (g:=wb) (t:=68) (jv p) w (gb (ps.take i)) (jv o) _ hB rfl;rw [lt] at gp;have hrow:gb (ps.set i p)=gb (ps.take i)++jv p++gb (ps.drop (i+1)):=by rw [Hw,MI,EW,aU]
  have DD:=Bo (ps.set i p);rw [ag] at DD;have hcl:(gb (ps.take i)++jv p++(gb (ps.drop (i+1))++cur.toList.drop (ps.length*3)))=gb (ps.set i p)++cur.toList.drop (ps.length*3):=by rw [hrow];simp [List.append_assoc]
  refine ⟨⟨by rw [DD,ag],.inr ⟨wb,cap,(gb (ps.set i p)++cur.toList.drop (ps.length*3)).toArray,by rw [ag],q1,?_,by rw [ag];exact q3,q4,?_,?_⟩⟩,Mod.kO _ _ _,fun j hj=>?_,fun j=>hB.frozen j⟩
  ·rw [<-hcl];exact gp
  ·simp only [bC,aD,DD,bO,cK];omega
  ·rw [ag,<-DD];simp
  ·have hlen:i*3+j<(gb (ps.take i)++jv o++(gb (ps.drop (i+1))++cur.toList.drop (ps.length*3))).length:=by
    simp only [aD,lt,jv,aW,az];omega
   exact ⟨_,hB.cell _ (aA hlen)⟩
def Mi(w:World)(n b:Nat)(y:dY)(t:jR)(w':World):Prop:=
 ∃ wv,dg w' b [.int .i64 t.state,y.jQ b,wv,.int .i64 t.time] 86/\w'.ownsRow n 3 1 (y.jQ b) t.ats.length (t.ats.map (Value.int .i64))/\w'.ownsRow n 68 3 wv t.writes.length (t.writes.flatMap oE)/\iF w (y.jq b) wv/\Mod (Md b (y.jQ b) (y.jq b)) w w'
theorem yLw(n b:Nat)(y:dY)(t:jR)(p:fQ)(i:Nat)(w:World)(h:th w n y b t)(hl:t.writes.length<=1000)(hi:uI t p.key=some i) :
  Calls Tryz.prog 52 #[.pointer (some ⟨b,0,none⟩),.agg #[.string p.key,.string p.val,.bool p.gone]] w fun e w'=>e=.returned (.tuple #[])/\Mi w n b y (ni t p) w':=by
 obtain ⟨pk,pv,pg⟩:=p;dsimp only at hi ⊢;obtain ⟨w1,hw1⟩:∃ z,z=w.alloc (.cells #[.string pk,.string pv,.bool pg] 68):=⟨_,rfl⟩;have dh:Mod dZ w w1:=by rw [hw1];exact (Mod.refl _ w).alloc _
 have hb1:dg w1 w.heap.size [.string pk,.string pv,.bool pg] 68:=by rw [hw1];exact dg.new w _ _
 have h1:=h.mod dh (fun e=>e) (fun _ _ e=>e);have HW:=dV (UF n b y t pk w1 h1 hl);rw [hi] at HW;simp only [iR] at HW;have hil:i<t.writes.length:=by
  unfold uI at hi;obtain ⟨hlt,_⟩:=cA.1 hi;exact hlt
 obtain ⟨wb,ft,iY⟩:∃ wb ft,y.jq b=.slice (some ⟨wb,0,none⟩) t.writes.length ft:=by
  rcases h.wr.2 with ⟨e,h0⟩ | ⟨g',cap',cur,e,_⟩
  ·omega
  ·exact ⟨g',cap',e⟩
 have x0:=hb1.cell 0 rfl;have sa:=dV h1;have kA:=dV hb1;have fJ:=dV dh;have hge:decide ((i:Int) ≥ 0)=true:=aQ (by omega);clear h h1 hb1 dh;go_enter Tryz.func52,Tryz.ntmps52;go_upto_region 1 with fail;rw [<-hw1];clear hw1;go_upto_region 3 with (first
  | (go_at_call 91;refine HW.out.mono ?_;rintro e w2 ⟨rfl,hm2⟩)
  | fail)
 have h2:=sa.out.mod hm2 (fun e=>e) (fun _ _ e=>e);have hb2:=kA.out.mod hm2 (fun e=>e);have c2:=h2.blk.cell 2 rfl;have y0:=hb2.cell 0 rfl;have y1:=hb2.cell 1 rfl;have y2:=hb2.cell 2 rfl;have zb:=h2.blk.lt;have hrow:w2.ownsRow n 68 3 (.slice (some ⟨wb,0,none⟩) t.writes.length ft) t.writes.length (gb t.writes):=by have:=h2.wr;rw [iY] at this;exact this
 rw [iY] at c2;obtain ⟨r1,r2,r3,r4⟩:=yNa (p:=⟨pk,pv,pg⟩) hrow hil;obtain ⟨u0,v0⟩:=r3 0 (by omega);obtain ⟨u1,v1⟩:=r3 1 (by omega);obtain ⟨u2,v2⟩:=r3 2 (by omega);have f0:=r4 (i*3);have f1:=r4 (i*3+1);have f2:=r4 (i*3+2);simp only [bG] at v0;have xw:(i:Int)<(t.writes.length:Int):=by omega
 have hi0:(0:Int)<=(i:Int):=by omega
 have hzw:=fJ.out.size;have Wu:wb≠b:=fun e=>oP hrow h2.blk (by decide) (by rw [e];rfl);have Fq:=dV r1;have CR:=dV r2;have lW:=dV h2;have gE:=dV (fJ.out.trans hm2);clear r1 r2 r3 r4 hrow h2 hb2 hm2 HW kA sa fJ;refine wp_region_still_tail 7 (by kernel_rfl) (by kernel_rfl) ?_;simp only [aw,bf,bY,cC]
 repeat still_step
 refine wpStill_nil ?_;go_wp2_with fail;have YR:ni t ⟨pk,pv,pg⟩={ t with writes:=t.writes.set i ⟨pk,pv,pg⟩ }:=by unfold ni;rw [show uI t (fQ.key ⟨pk,pv,pg⟩)=some i from hi]
 refine bodyPost_ret (results_none rfl _ _ _) rfl ⟨rfl,?_⟩;show Mi w n b y _ (World.drew (w2.setCells wb (i*3) (jv ⟨pk,pv,pg⟩)));rw [YR];have hmm:Mod (eA wb) w2 (World.drew (w2.setCells wb (i*3) (jv ⟨pk,pv,pg⟩))):=CR.out.drew;have pD:∀ k,(y.jQ b).ownBlock=some k->k≠wb:=fun k hk e=>by
  subst e;obtain ⟨_,_,cur,hc1⟩:=fW lW.out.ats hk;obtain ⟨_,_,cur',hc2⟩:=fW lW.out.wr (show (y.jq b).ownBlock=some k by rw [iY];rfl);rw [hc1] at hc2;simp at hc2
 refine ⟨y.jq b,lW.out.blk.mod hmm (fun e=>Wu (Eq.symm e)),fm lW.out.ats hmm (fun k _ _ e q=>pD k e q),?_,.inl rfl,?_⟩
 ·rw [iY];have hq:=Fq.out;rw [ag] at hq;show World.ownsRow _ _ _ _ _ (t.writes.set i ⟨pk,pv,pg⟩).length (gb (t.writes.set i ⟨pk,pv,pg⟩));rw [ag];exact fm hq ((Mod.refl dZ _).drew) (fun _ _ _ _ e=>e)
 ·exact (gE.out.mono (fun _ _ e=>e.elim)).trans (hmm.mono (fun x _ e=>.inr (.inr (by rw [iY];exact ai some (Eq.symm e)))))
theorem yLx(n b:Nat)(y:dY)(t:jR)(p:fQ)(w:World)(h:th w n y b t)(hn:n<=w.heap.size)(hl:t.writes.length<=1000)(hi:uI t p.key=none) :
  Calls Tryz.prog 52 #[.pointer (some ⟨b,0,none⟩),.agg #[.string p.key,.string p.val,.bool p.gone]] w fun e w'=>e=.returned (.tuple #[])/\Mi w n b y (ni t p) w':=by
 obtain ⟨pk,pv,pg⟩:=p;dsimp only at hi ⊢;obtain ⟨i0,hpi,hz0,hz1,hz2⟩:=info_parts Tryz.AA;obtain ⟨w1,hw1⟩:∃ z,z=w.alloc (.cells #[.string pk,.string pv,.bool pg] 68):=⟨_,rfl⟩;have dh:Mod dZ w w1:=by rw [hw1];exact (Mod.refl _ w).alloc _
 have hb1:dg w1 w.heap.size [.string pk,.string pv,.bool pg] 68:=by rw [hw1];exact dg.new w _ _
 have h1:=h.mod dh (fun e=>e) (fun _ _ e=>e);have HW:=dV (UF n b y t pk w1 h1 hl);rw [hi] at HW;simp only [iR] at HW;have x0:=hb1.cell 0 rfl;have sa:=dV h1;have Sz:Hid (∀ k,(y.jq b).ownBlock=some k->k<w.heap.size):=fun k hk=>(fW h.wr hk).2.1;have kA:=dV hb1;have fJ:=dV dh;clear h h1 hb1 dh;go_enter Tryz.func52,Tryz.ntmps52;go_upto_region 1 with fail;rw [<-hw1];clear hw1;go_upto_region 4 with (first
  | (go_at_call 91;refine HW.out.mono ?_;rintro e w2 ⟨rfl,hm2⟩)
  | fail)
 have h2:=sa.out.mod hm2 (fun e=>e) (fun _ _ e=>e);have hb2:=kA.out.mod hm2 (fun e=>e);obtain ⟨wa,ft,iY⟩:=eu h2.wr;have c2:=h2.blk.cell 2 rfl;have f2:=h2.blk.frozen 2;have y0:=hb2.cell 0 rfl;have y1:=hb2.cell 1 rfl;have y2:=hb2.cell 2 rfl;have zb:=h2.blk.lt;have zq:=hb2.lt;have lP:=fJ.out.trans hm2;have hrow:w2.ownsRow n 68 3 (.slice wa t.writes.length ft) t.writes.length (gb t.writes):=by have:=h2.wr;rw [iY] at this;exact this
 have hrow3:((w2.alloc (.cells #[.string pk,.string pv,.bool pg] 68)).drew).ownsRow n 68 3 (.slice wa t.writes.length ft) t.writes.length (gb t.writes):=fm hrow (((Mod.refl dZ w2).alloc _).drew) (fun _ _ _ _ e=>e);obtain ⟨v7,w7,gg,eJ,eS,qC,iq⟩:=run_append_own_at (P:=Tryz.prog) _ n 63 63 68 i0 _ 3 40 Tryz.underlying63 hpi hz0 hz1 hz2 rfl (by omega) _ _ _ hrow3 ⟨w2.heap.size,0,none⟩ 1 1 (jv ⟨pk,pv,pg⟩) rfl (World.news_of_block (heap_alloc_new w2 _)) (fun u hu=>by simp [jv] at hu;rcases hu with rfl | rfl | rfl <;> rfl) (by unfold maxLen;omega) (by omega) (by have:=lP.size;show n<=(w2.alloc _).heap.size;rw [World.size_alloc];omega);obtain ⟨a7,fE,py⟩:=eu eJ;subst py;have fj:Mod (fun k=>(Value.slice wa t.writes.length ft).ownBlock=some k) w2 w7:=(((Mod.refl _ w2).alloc _).drew).grown eS (fun x hx _=>hx);have hnb:(Value.slice wa t.writes.length ft).ownBlock≠some b:=oP hrow h2.blk (by decide);rw [iY] at c2;have c7:=fj.cell c2 hnb;have f7:=(fj.frozen (p:=⟨b,2,none⟩) zb hnb).trans f2;have zb7:=aH zb fj.size;have XS:(Value.slice wa t.writes.length ft).ownBlock≠some w.heap.size:=fun e=>by have:=Sz.out w.heap.size (by rw [iY];exact e);omega
 have y07:=fj.cell y0 XS;have y17:=fj.cell y1 XS;have y27:=fj.cell y2 XS;have lW:=dV h2;have fY:=dV hrow;have Zg:=dV eJ;have JU:=dV fj;have GA:=dV iq;have gE:=dV lP;refine Ln fun fr gI=>?_;refine MA fun Q1 kE=>?_;have fD:∀ (d:Nat) (v:Value) (c:List PanicEntry) (a:Act) (w:World),Q1 (.panic c) (a.put (some d) v) w->Q1 (.panic c) a w:=fun d v c a w h=>by rw [kE] at h ⊢;exact h
 have uU:=dV kE;clear kE;have hsz:fr.tmps.size=28:=by rw [gI];rfl
 obtain ⟨_,t0⟩:∃ h:0<fr.tmps.size,fr.tmps[0]=.pointer (some ⟨b,0,none⟩):=aG.1 (by rw [gI];rfl);obtain ⟨_,t3⟩:∃ h:3<fr.tmps.size,fr.tmps[3]=.pointer (some ⟨w.heap.size,0,none⟩):=aG.1 (by rw [gI];rfl);have kI:=dV gI;clear gI h2 hb2 hrow hrow3 eJ fj iq qC lP hm2 sa kA fJ HW;refine EZ 10 (fun wq=>wq.cell? ⟨b,2,none⟩=some (.slice wa t.writes.length ft)/\wq.cell? ⟨w.heap.size,0,none⟩=some (.string pk)/\wq.cell? ⟨w.heap.size,1,none⟩=some (.string pv)/\wq.cell? ⟨w.heap.size,2,none⟩=some (.bool pg)) rfl ?_;have HC:Hid (w2.drew.cell? ⟨b,2,none⟩=some (.slice wa t.writes.length ft)/\w2.drew.cell? ⟨w.heap.size,0,none⟩=some (.string pk)/\w2.drew.cell? ⟨w.heap.size,1,none⟩=some (.string pv)/\w2.drew.cell? ⟨w.heap.size,2,none⟩=some (.bool pg)):=⟨c2,y0,y1,y2⟩;refine fT 10 0 18 (.pointer (some ⟨b,0,none⟩)) rfl rfl (fun c a w h=>fD _ _ c a w h) HC.out ⟨by rfl,fun wq hq=>by have q0:=hq.1;have q1:=hq.2.1;have q2:=hq.2.2.1;have q3:=hq.2.2.2;go_simp⟩ ?_;refine fT 10 1 19 (.pointer (some ⟨b,0,none⟩)) rfl rfl (fun c a w h=>fD _ _ c a w h) HC.out ⟨by rfl,fun wq hq=>by have q0:=hq.1;have q1:=hq.2.1;have q2:=hq.2.2.1;have q3:=hq.2.2.2;go_simp⟩ ?_;refine fT 10 2 20 (.pointer (some ⟨b,0,none⟩)) rfl rfl (fun c a w h=>fD _ _ c a w h) HC.out ⟨by rfl,fun wq hq=>by have q0:=hq.1;have q1:=hq.2.1;have q2:=hq.2.2.1;have q3:=hq.2.2.2;go_simp⟩ ?_;refine fT 10 3 21 (.pointer (some ⟨b,2,none⟩)) rfl rfl (fun c a w h=>fD _ _ c a w h) HC.out ⟨by rfl,fun wq hq=>by have q0:=hq.1;have q1:=hq.2.1;have q2:=hq.2.2.1;have q3:=hq.2.2.2;go_simp⟩ ?_;refine fT 10 4 22 (.slice wa t.writes.length ft) rfl rfl (fun c a w h=>fD _ _ c a w h) HC.out ⟨by rfl,fun wq hq=>by have q0:=hq.1;have q1:=hq.2.1;have q2:=hq.2.2.1;have q3:=hq.2.2.2;go_simp⟩ ?_;refine fT 10 5 23 (.agg #[.string pk,.string pv,.bool pg]) rfl rfl (fun c a w h=>fD _ _ c a w h) HC.out ⟨by rfl,fun wq hq=>by have q0:=hq.1;have q1:=hq.2.1;have q2:=hq.2.2.1;have q3:=hq.2.2.2;go_simp⟩ ?_;have qW:Mod dZ w2 (w2.alloc (.cells #[.string pk,.string pv,.bool pg] 68)).drew:=((Mod.refl dZ w2).alloc _).drew;have xE:Hid ((w2.alloc (.cells #[.string pk,.string pv,.bool pg] 68)).drew.cell? ⟨b,2,none⟩=some (.slice wa t.writes.length ft)/\(w2.alloc (.cells #[.string pk,.string pv,.bool pg] 68)).drew.cell? ⟨w.heap.size,0,none⟩=some (.string pk)/\(w2.alloc (.cells #[.string pk,.string pv,.bool pg] 68)).drew.cell? ⟨w.heap.size,1,none⟩=some (.string pv)/\(w2.alloc (.cells #[.string pk,.string pv,.bool pg] 68)).drew.cell? ⟨w.heap.size,2,none⟩=some (.bool pg)):=⟨qW.cell c2 (fun e=>e),qW.cell y0 (fun e=>e),qW.cell y1 (fun e=>e),qW.cell y2 (fun e=>e)⟩;have rK:Hid (w7.cell? ⟨b,2,none⟩=some (.slice wa t.writes.length ft)/\w7.cell? ⟨w.heap.size,0,none⟩=some (.string pk)/\w7.cell? ⟨w.heap.size,1,none⟩=some (.string pv)/\w7.cell? ⟨w.heap.size,2,none⟩=some (.bool pg)):=⟨c7,y07,y17,y27⟩;refine jW 10 6 24 rfl rfl (by kernel_rfl) rfl (v:=.slice (some ⟨w2.heap.size,0,none⟩) 1 1) (w':=(w2.alloc (.cells #[.string pk,.string pv,.bool pg] 68)).drew) (by go_simp) xE.out ?_;refine jW 10 7 25 rfl rfl (by kernel_rfl) rfl (v:=.slice a7 (t.writes.length+1) fE) (w':=w7) (ze (s:=.tmp 22) (x:=.tmp 24) (t:=63) rfl (by go_simp) (by go_simp) gg) rK.out ?_;refine jW 10 8 26 rfl rfl (by kernel_rfl) rfl (v:=.pointer (some ⟨b,0,none⟩)) (w':=w7) (by go_simp) rK.out ?_;refine jW 10 9 27 rfl rfl (by kernel_rfl) rfl (v:=.pointer (some ⟨b,2,none⟩)) (w':=w7) (by go_simp) rK.out ?_;refine KG 10 rfl (by kernel_rfl) rfl (w':=w7.setCell ⟨b,2,none⟩ (.slice a7 (t.writes.length+1) fE)) (by go_simp) ?_;refine ⟨by kernel_rfl,?_⟩;have kE:=uU.out;subst kE;have gI:=kI.out;subst gI;clear fD hsz t0 t3 HC xE rK uU kI;go_wp2_with fail;have YR:ni t ⟨pk,pv,pg⟩={ t with writes:=t.writes++[⟨pk,pv,pg⟩] }:=by unfold ni;rw [show uI t (fQ.key ⟨pk,pv,pg⟩)=none from hi]
 go_end0;refine ⟨rfl,?_⟩;rw [YR];have tD:(Value.slice a7 (t.writes.length+1) fE).ownBlock≠some b:=fun e=>by
  rcases GA.out with q | q
  ·exact hnb (by rw [<-q];exact e)
  ·rw [q] at e;simp only [ae] at e;have:(w2.alloc (.cells #[.string pk,.string pv,.bool pg] 68)).drew.heap.size=w2.heap.size+1:=World.size_alloc _ _;omega
 have Ou:dg w7 b [.int .i64 t.state,y.jQ b,.slice wa t.writes.length ft,.int .i64 t.time] 86:=by
  have:=lW.out.blk.mod JU.out hnb;rw [iY] at this;exact this
 have ib:Mod (eA b) w7 (w7.setCell ⟨b,2,none⟩ (.slice a7 (t.writes.length+1) fE)):=Mod.dt b 2 _;have pD:∀ k,(y.jQ b).ownBlock=some k->(Value.slice wa t.writes.length ft).ownBlock≠some k:=fun k hk e=>by
  obtain ⟨_,_,cur,hc1⟩:=fW lW.out.ats hk;obtain ⟨_,_,cur',hc2⟩:=fW fY.out e;rw [hc1] at hc2;simp at hc2
 have Xa:(y.jQ b).ownBlock≠some b:=oP lW.out.ats lW.out.blk (by decide);refine ⟨.slice a7 (t.writes.length+1) fE,Ou.set 2 _,fm (fm lW.out.ats JU.out (fun k _ _ e q=>pD k e q)) ib (fun k _ _ e q=>Xa (by rw [e];exact ai some q)),?_,?_,?_⟩
 ·show World.ownsRow _ _ _ _ _ (t.writes++[(⟨pk,pv,pg⟩:fQ)]).length (gb (t.writes++[(⟨pk,pv,pg⟩:fQ)]));rw [aD,MI];exact fm Zg.out ib (fun k _ _ e q=>tD (by rw [e];exact ai some q))
 ·rcases GA.out with q | q
  ·exact .inl (by rw [q,iY])
  ·refine .inr (fun k hk=>?_);rw [q] at hk;simp only [ae] at hk;have h1:=gE.out.size;have:(w2.alloc (.cells #[.string pk,.string pv,.bool pg] 68)).drew.heap.size=w2.heap.size+1:=World.size_alloc _ _;omega
 ·refine ((gE.out.mono (fun _ _ e=>e.elim)).trans' JU.out (fun k _ e=>.inr (.inr (by rw [iY];exact e)))).trans' ib (fun k _ e=>.inl e)
theorem yLy(n b:Nat)(y:dY)(t:jR)(p:fQ)(w:World)(h:th w n y b t)(hn:n<=w.heap.size)(hl:t.writes.length<=1000) :
  Calls Tryz.prog 52 #[.pointer (some ⟨b,0,none⟩),.agg #[.string p.key,.string p.val,.bool p.gone]] w fun e w'=>e=.returned (.tuple #[])/\Mi w n b y (ni t p) w':=by
 cases hi:uI t p.key with
 | none=>exact yLx n b y t p w h hn hl hi
 | some i=>exact yLw n b y t p i w h hl hi
theorem pO{s:dX}{id:Int}(h:pL s id=0):∃ i:Nat,id=i/\1<=i/\i<=s.dW.length/\(s.tx i).state=1:=by
 unfold pL jU xg at h;by_cases h1:1<=id
 ·by_cases h2:id<=(s.dW.length:Int)
  ·refine ⟨id.toNat,by omega,by omega,by omega,?_⟩;rw [aQ h1,aQ h2] at h;simp at h;by_cases h0:(s.tx id.toNat).state=0
   ·simp [h0] at h
   ·by_cases h3:(s.tx id.toNat).state=1
    ·exact h3
    ·simp [h0,h3] at h
  ·rw [aL h2] at h;simp at h
 ·rw [aL h1] at h;simp at h
theorem ph{s:dX}{id:Int}{key:ByteArray}(h:nu s id key=0):pL s id=0/\key.size<=20/\(uX s (ee s key)).isSome=true:=by
 unfold nu at h;by_cases h1:pL s id=0
 ·rw [aK (fun q=>q h1)] at h;by_cases h2:20<key.size
  ·rw [aP h2] at h;omega
  ·rw [aK h2] at h
   cases h3:uX s (ee s key) with
   | none=>rw [h3] at h;simp at h
   | some x=>exact ⟨h1,by omega,rfl⟩
 ·rw [aP h1] at h;exact absurd h h1
theorem yCa(s:dX)(id:Int)(key:ByteArray)(mode:Int)(h:∀ t∈s.dW,t.writes.length<=20):∀ t∈(jT s id key mode).1.dW,t.writes.length<=20:=by
 unfold jT;simp only;split
 ·exact Rh _ (ix s id key mode).1 h
 ·exact h
theorem zUa(s:dX)(id:Nat)(key:ByteArray)(mode:Int)(h:∀ t∈s.dW,t.writes.length<=20):(gV s id key mode).1.dW.length=s.dW.length/\∀ t∈(gV s id key mode).1.dW,t.writes.length<=20:=by
 have h2:=zXc s id key mode;have h3:=yCa s id key mode h;unfold gV;simp only;split
 ·exact ⟨h2.1,h3⟩
 ·split
  ·exact ⟨h2.1,h3⟩
  ·refine ⟨?_,Rh _ _ (KJ _ _ _ h3 (GQ h3 _))⟩;rw [(gG.fc _ _).len];exact (my _ _ _).trans h2.1
theorem dx.wrote{w w':World}{n c g:Nat}{y:dY}{s:dX}(h:dx w n c g y s){id b:Nat}{t':jR}(h1:1<=id)(h2:id<=s.dW.length)(hb:y.jo[id - 1]?=some b)(hw:Mi w n b y t' w') :
  ∃ y',dx w' n c g y' (db s id t')/\eL w y w' y':=by
 obtain ⟨wv,q1,q2,q3,q4,q5⟩:=hw;obtain ⟨hH,hS⟩:=h.po hb (uG h1 h2) q5 q1 q2 q3 (.inl (.inl rfl)) (.inl q4);exact ⟨_,hH,hS,rfl,rfl,rfl,rfl,rfl⟩
def iU(w:World)(n c g:Nat)(y:dY)(s':dX)(er:Int)(e:Ending)(w':World):Prop:=e=.returned (je er)/\∃ y',dx w' n c g y' s'/\eL w y w' y'
theorem yNg(n c g:Nat)(y:dY)(s:dX)(id:Int)(p:fQ)(w:World)(h:dx w n c g y s)(hok:Mg w n c s)(hk:gA p.key)(hv:gA p.val) :
  Calls Tryz.prog 23 #[.pointer (some ⟨g,0,none⟩),.int .i64 id,.agg #[.string p.key,.string p.val,.bool p.gone]] w (iU w n (c+2) g y (fG s id p).1 (fG s id p).2):=by
 obtain ⟨pk,pv,pg⟩:=p;dsimp only at hk hv ⊢;have hmk:=Jq;have hcc:=hok.c;obtain ⟨w1,hw1⟩:∃ z,z=w.alloc (.cells #[.string pk,.string pv,.bool pg] 68):=⟨_,rfl⟩;have dh:Mod dZ w w1:=by rw [hw1];exact (Mod.refl _ w).alloc _
 have hb1:dg w1 w.heap.size [.string pk,.string pv,.bool pg] 68:=by rw [hw1];exact dg.new w _ _
 have h1:=h.quiet dh;have x0:=hb1.cell 0 rfl;have x1:=hb1.cell 1 rfl;have kA:=dV hb1;have fJ:=dV dh;have sa:=dV h1;have od:=dV hok;have QC:Hid (y.own w.heap.size=.no):=by
  by_cases e:y.own w.heap.size=.no
  ·exact e
  ·have:=(h.own.lt _ e).2;omega
 have kD:=h.low;have hgl:=h.blk.lt;unfold gA maxLen at hv;clear h h1 hb1 dh hok;by_cases hvl:40<pv.size
 ·have hvb:decide ((pv.size:Int) > 40)=true:=aQ (by omega);have HF:Hid (iU w n (c+2) g y (fG s id ⟨pk,pv,pg⟩).1 (fG s id ⟨pk,pv,pg⟩).2 (.returned (.iface 90 (.int .i64 4))) w1):=by
   unfold Hid fG;rw [aP hvl];exact ⟨by rw [mS (by omega)],y,sa.out.su (by omega),eL.quiet fJ.out⟩
  clear hvl;go_enter Tryz.func23,Tryz.ntmps23;go_upto_region 1 with fail;rw [<-hw1];clear hw1;go_wp2_with fail;go_ret;exact HF.out
 ·have hvb:decide ((pv.size:Int) > 40)=false:=aL (by omega);have EE:=dV (yIi n c g y s id pk w1 sa.out od.out.sh hk);have CT:Hid (fG s id ⟨pk,pv,pg⟩=if nu s id pk≠0 then (s,nu s id pk) else if uC (s.tx id.toNat) pk && oo s id pk then (s,4) else if (gV s id pk 2).2≠0 then gV s id pk 2 else (db (gV s id pk 2).1 id.toNat (ni ((gV s id pk 2).1.tx id.toNat) ⟨pk,pv,pg⟩),0)):=by
   unfold Hid fG;rw [aK hvl]
  clear hvl;go_enter Tryz.func23,Tryz.ntmps23;go_upto_region 1 with fail;rw [<-hw1];clear hw1;go_wp2_with fail;refine EE.out.mono ?_;rintro e w2 ⟨hC,hm2⟩;rcases hC with ⟨hc0,rfl⟩ | ⟨hc0,b,d,hb,hd,hlv,rfl⟩
  ·rw [mS hc0];have HF:Hid (iU w n (c+2) g y (fG s id ⟨pk,pv,pg⟩).1 (fG s id ⟨pk,pv,pg⟩).2 (.returned (.iface 90 (.int .i64 (nu s id pk)))) w2):=by
    unfold Hid;rw [CT.out,aP hc0];exact ⟨by rw [mS hc0],y,(sa.out.quiet hm2).su (by omega),eL.quiet (fJ.out.trans hm2)⟩
   clear hc0;go_wp2_with fail;go_ret;exact HF.out
  ·obtain ⟨ho,IT,_⟩:=ph hc0;obtain ⟨i,rfl,hi1,hi2,hst⟩:=pO ho;have BG:Hid (fG s i ⟨pk,pv,pg⟩=if uC (s.tx i) pk && oo s i pk then (s,4) else if (gV s i pk 2).2≠0 then gV s i pk 2 else (db (gV s i pk 2).1 i (ni ((gV s i pk 2).1.tx i) ⟨pk,pv,pg⟩),0)):=by
    unfold Hid;rw [CT.out,aK (fun q=>q hc0),aV]
   have htl:=od.out.sh.tl;have qt:=sa.out.quiet hm2;obtain ⟨tb,By,hT⟩:=qt.xc (id:=i) hi1 hi2;have hb2:=kA.out.mod hm2 (fun e=>e);have ku:Hid (∀ wq,Mod dZ w2 wq->Calls Tryz.prog 34 #[.pointer (some ⟨g,0,none⟩),.int .i64 i] wq fun e w'=>e=.returned (.pointer (some ⟨tb,0,none⟩))/\w'=wq):=fun wq hq=>yg n c g y s i tb wq (qt.quiet hq) hi1 (by omega) By;have px:=od.out.sh.tw _ (Cf hi1 hi2);have QR:Hid (∀ wq,Mod dZ w2 wq->Calls Tryz.prog 50 #[.pointer (some ⟨tb,0,none⟩),.string pk] wq fun e w'=>e=.returned (.bool (uC (s.tx i) pk))/\Mod dZ wq w'):=fun wq hq=>yTa n tb y _ pk wq (hT.mod hq (fun e=>e) (fun _ _ e=>e)) (by omega);have ZL:Hid (∀ wq,Mod dZ w2 wq->Calls Tryz.prog 51 #[.pointer (some ⟨g,0,none⟩),.int .i64 i,.string pk] wq fun e w'=>e=.returned (.bool (oo s i pk))/\Mod dZ wq w'):=fun wq hq=>yAk n c g y s i pk wq (qt.quiet hq) htl hk;have z0:=hb2.cell 0 rfl;have zq:=hb2.lt;have lW:=dV qt;have gE:=dV (fJ.out.trans hm2);have lX:=dV hb2;clear hc0 hb hd hlv EE CT hm2 qt hT By hb2 sa kA fJ x0 x1 ho;go_upto_region 6 with fail;go_cut [38] (fun t wc=>t=.bool (uC (s.tx i) pk && oo s i pk)/\Mod dZ w2 wc)
   case first=>
    cases CH:uC (s.tx i) pk
    ·rw [CH] at QR
     first
      | (go_region_with (first
        | (go_at_call 34;refine (ku.out _ ((Mod.refl dZ w2).drew)).mono ?_;rintro e w3 ⟨rfl,rfl⟩)
        | (go_at_call 50;refine (QR.out _ ((Mod.refl dZ w2).drew)).mono ?_;rintro e w4 ⟨rfl,gR⟩;have tF:=((Mod.refl dZ w2).drew).trans gR)))
      | fail
     all_goals
      go_wp2_with fail;go_meet
      case rel=>exact ⟨by rw [CH];rfl,tF⟩
    ·rw [CH] at QR
     cases hyi:oo s i pk
     all_goals
      rw [hyi] at ZL;go_region_with (first
       | (go_at_call 34;refine (ku.out _ ((Mod.refl dZ w2).drew)).mono ?_;rintro e w3 ⟨rfl,rfl⟩)
       | (go_at_call 50;refine (QR.out _ ((Mod.refl dZ w2).drew)).mono ?_;rintro e w4 ⟨rfl,gR⟩;have tF:=((Mod.refl dZ w2).drew).trans gR;have z4:=tF.cell z0 (fun e=>e))
       | (go_at_call 51;refine (ZL.out _ tF).mono ?_;rintro e w5 ⟨rfl,eP⟩;have hmg:=tF.trans eP))
      all_goals
       go_wp2_with fail;go_meet
       case rel=>exact ⟨by rw [CH,hyi];rfl,hmg⟩
   case rest=>
    obtain ⟨rfl,mz⟩:=hcut;have Fu:=dV (lW.out.quiet mz);have CV:=dV (gE.out.trans mz);have hbc:=lX.out.mod mz (fun e=>e);have v0:=hbc.cell 0 rfl;have HBC:=dV hbc;have HEC:=dV (od.out.et.mod CV.out);clear lW gE lX mz z0 hbc ku QR ZL;obtain ⟨wd,hwd⟩:∃ x,x=wc:=⟨_,rfl⟩;subst hwd;by_cases Ko:(uC (s.tx i) pk && oo s i pk)=true
    ·rw [Ko];have HF:Hid (iU w n (c+2) g y (fG s i ⟨pk,pv,pg⟩).1 (fG s i ⟨pk,pv,pg⟩).2 (.returned (.iface 90 (.int .i64 4))) wd):=by
      unfold Hid;rw [BG.out,aP Ko];exact ⟨by rw [mS (by omega)],y,Fu.out.su (by omega),eL.quiet CV.out⟩
     clear Ko;go_wp2_with fail;go_ret;exact HF.out
    ·have hfb:(uC (s.tx i) pk && oo s i pk)=false:=by simpa using Ko
     rw [hfb];have HP3:Hid (fG s i ⟨pk,pv,pg⟩=if (gV s i pk 2).2≠0 then gV s i pk 2 else (db (gV s i pk 2).1 i (ni ((gV s i pk 2).1.tx i) ⟨pk,pv,pg⟩),0)):=by
      unfold Hid;rw [BG.out,aK Ko]
     have zI:=dV (yCl n c g y s i pk 2 wd Fu.out ⟨od.out.sh,od.out.ki,HEC.out,od.out.n,hcc⟩ hi1 hi2 IT (.inr rfl));clear Ko hfb BG;go_upto_region 8 with fail;go_wp2_with fail;refine zI.out.mono ?_;rintro e w5 ⟨rfl,y5,kt,pG⟩;have Dd:=pG.st.blk HBC.out QC.out;have Ar:=(eL.quiet CV.out).trans pG;obtain ⟨nM,yy⟩:=zUa s i pk 2 od.out.sh.tw;by_cases he:(gV s i pk 2).2=0
     ·rw [he,ou];have hle:i<=(gV s i pk 2).1.dW.length:=by rw [nM];exact hi2
      obtain ⟨Gi,xk,Am⟩:=kt.xc (id:=i) hi1 hle;have Wt:=GQ yy i;have ku:Hid (∀ wq,Mod dZ w5 wq->Calls Tryz.prog 34 #[.pointer (some ⟨g,0,none⟩),.int .i64 i] wq fun e w'=>e=.returned (.pointer (some ⟨Gi,0,none⟩))/\w'=wq):=fun wq hq=>yg n (c+2) g y5 _ i Gi wq (kt.quiet hq) hi1 (by omega) xk;have HWR:Hid (∀ wq,Mod dZ w5 wq->Calls Tryz.prog 52 #[.pointer (some ⟨Gi,0,none⟩),.agg #[.string pk,.string pv,.bool pg]] wq fun e w'=>e=.returned (.tuple #[])/\∃ y',dx w' n (c+2) g y' (db (gV s i pk 2).1 i (ni ((gV s i pk 2).1.tx i) ⟨pk,pv,pg⟩))/\eL w y w' y'):=fun wq hq=>by
       refine (yLy n Gi y5 _ ⟨pk,pv,pg⟩ wq (Am.mod hq (fun e=>e) (fun _ _ e=>e)) (aJ kt.low (aJ (Nat.le_of_lt kt.blk.lt) hq.size)) (by omega)).mono ?_;rintro e w' ⟨rfl,hW⟩;obtain ⟨y6,Se,Fe⟩:=(kt.quiet hq).wrote hi1 hle xk hW;exact ⟨rfl,y6,Se,(Ar.trans (eL.quiet hq)).trans Fe⟩
      have HF:Hid (∀ w6,(∃ y',dx w6 n (c+2) g y' (db (gV s i pk 2).1 i (ni ((gV s i pk 2).1.tx i) ⟨pk,pv,pg⟩))/\eL w y w6 y')->iU w n (c+2) g y (fG s i ⟨pk,pv,pg⟩).1 (fG s i ⟨pk,pv,pg⟩).2 (.returned .nilIface) w6):=fun w6 hq=>by
       rw [HP3.out,aK (fun q=>q he)];exact ⟨by rw [ou],hq⟩
      have u0:=Dd.cell 0 rfl;have u1:=Dd.cell 1 rfl;have u2:=Dd.cell 2 rfl;have zw:=Dd.lt;clear kt pG Am xk Dd Ar nM yy he zI v0;go_upto_region 11 with fail;go_region_with (first
       | (go_at_call 34;refine (ku.out _ ((Mod.refl dZ w5).drew)).mono ?_;rintro e w6 ⟨rfl,rfl⟩)
       | (go_at_call 52;refine (HWR.out _ ((Mod.refl dZ w5).drew)).mono ?_;rintro e w7 ⟨rfl,hq7⟩))
      all_goals
       have HG:=dV (HF.out w7 hq7);clear hq7;go_wp2_with fail;go_ret;exact HG.out
     ·rw [mS he];have HF:Hid (iU w n (c+2) g y (fG s i ⟨pk,pv,pg⟩).1 (fG s i ⟨pk,pv,pg⟩).2 (.returned (.iface 90 (.int .i64 (gV s i pk 2).2))) w5):=by
       unfold Hid;rw [HP3.out,aP he];exact ⟨by rw [mS he],y5,kt,Ar⟩
      clear kt pG Dd Ar he zI;go_wp2_with fail;go_ret;exact HF.out
theorem yTj(n c g:Nat)(y:dY)(s:dX)(id:Int)(w:World)(h:dx w n c g y s)(hs:lr s)(hc:c<=10000) :
  Calls Tryz.prog 12 #[.pointer (some ⟨g,0,none⟩),.int .i64 id] w (iU w n c g y (qQ s id).1 (qQ s id).2):=by
 have pY:=dV (To n c g y s id w h hs.tl);have htl:=hs.tl;have hll:=hs.ll;by_cases ho:pL s id=0
 ·obtain ⟨i,rfl,hi1,hi2,hst⟩:=pO ho;have sb:=dV (Tj n c g y s i w h hi1 hi2 htl hc (by rw [hs.ta _ (Cf hi1 hi2)];omega));have HD:Hid (qQ s i=(gi s i,0)):=by unfold Hid qQ;rw [aK (fun q=>q ho),aV]
  rw [ho,ou] at pY;clear h ho;go_enter Tryz.func12,Tryz.ntmps12;go_wp2_with (first
   | (go_at_call 35;refine pY.out.mono ?_;rintro e w1 ⟨rfl,rfl⟩)
   | (go_at_call 36;refine sb.out.mono ?_;rintro e w2 ⟨rfl,hq⟩;have HF:Hid (iU w1 n c g y (qQ s i).1 (qQ s i).2 (.returned .nilIface) w2):=(by unfold Hid;rw [HD.out];exact ⟨by rw [ou],hq⟩);clear hq)
   | fail)
  go_ret;exact HF.out
 ·have HF:Hid (iU w n c g y (qQ s id).1 (qQ s id).2 (.returned (.iface 90 (.int .i64 (pL s id)))) w):=by
   unfold Hid qQ;rw [aP ho];exact ⟨by rw [mS ho],y,h,eL.refl _ _⟩
  rw [mS ho] at pY;clear h ho;go_enter Tryz.func12,Tryz.ntmps12;go_wp2_with (first
   | (go_at_call 35;refine pY.out.mono ?_;rintro e w1 ⟨rfl,rfl⟩)
   | fail)
  go_ret;exact HF.out
theorem yCk(n c g:Nat)(y:dY)(s:dX)(w:World)(h:dx w n c g y s) :
  Calls Tryz.prog 27 #[.pointer (some ⟨g,0,none⟩)] w fun e w'=>e=.returned (.int .i64 s.net.way.length)/\w'=w:=by
 have HM:=dV (ySd (y.lo n) g y.wv y.mr s.net w h.qo);clear h;go_enter Tryz.func27,Tryz.ntmps27;go_wp2_with (first
  | (go_at_call 53;refine HM.out.mono ?_;rintro e w1 ⟨rfl,rfl⟩)
  | fail)
 go_ret;exact ⟨rfl,rfl⟩
def pd(s:dX)(k:Int):dX × Int:=if hasB s.net k then ({ s with net:=Rp s.net k.toNat },0) else (s,2)
def oA(s:dX)(k:Int):dX × Int:=match hasB s.net k,s.net.way[k.toNat]? with
 | true,some m=>if s.net.way.length<200 then ({ s with net:=mR s.net m },0) else (s,4)
 | _,_=>(s,2)
theorem yUa{s:fC}{k:Int}(h:hasB s k=true):∃ (i:Nat) (m:dw),k=i/\s.way[i]?=some m:=by
 unfold hasB at h;simp only [bT,bA] at h;exact ⟨k.toNat,_,by omega,aA (by omega)⟩
theorem yOn(n c g:Nat)(y:dY)(s:dX)(k:Int)(w:World)(h:dx w n c g y s)(hlo:s.net.lost+1<=4611686018427387904) :
  Calls Tryz.prog 29 #[.pointer (some ⟨g,0,none⟩),.int .i64 k] w (iU w n c g y (pd s k).1 (pd s k).2):=by
 cases hk:hasB s.net k with
 | true=>
  obtain ⟨i,m,rfl,hm⟩:=yUa hk;have HL:=dV (ySf (y.lo n) g y.wv y.mr s.net i m w h.qo hm hlo);have HE:Hid (pd s i=({ s with net:=Rp s.net i },0)):=by unfold Hid pd;rw [aP hk,aV]
  have HH:=dV h;clear h;go_enter Tryz.func29,Tryz.ntmps29;go_wp2_with fail;refine HL.out.mono ?_;rintro e w1 ⟨iN,rfl,hN,hv,ij⟩;obtain ⟨hH,hS⟩:=HH.out.so ij hN (.inl hv) (.inl rfl);have HF:Hid (iU w n c g y (pd s i).1 (pd s i).2 (.returned .nilIface) w1):=by
   unfold Hid;rw [HE.out];exact ⟨by rw [ou],_,hH,hS,rfl,rfl,rfl,rfl,rfl⟩
  clear hN ij hH hS;go_wp2_with fail;go_ret;exact HF.out
 | false=>
  have HL:=dV (yUy (y.lo n) g y.wv y.mr s.net k w h.qo hk);have HE:Hid (pd s k=(s,2)):=by unfold Hid pd;rw [aK (by rw [hk];simp)]
  have HH:=dV h;clear h;go_enter Tryz.func29,Tryz.ntmps29;go_wp2_with fail;refine HL.out.mono ?_;rintro e w1 ⟨rfl,ij⟩;have HF:Hid (iU w n c g y (pd s k).1 (pd s k).2 (.returned (.iface 90 (.int .i64 2))) w1):=by
   unfold Hid;rw [HE.out];exact ⟨by rw [mS (by omega)],_,HH.out.quiet ij,eL.quiet ij⟩
  clear ij;go_wp2_with fail;go_ret;exact HF.out
theorem yKk(n c g:Nat)(y:dY)(s:dX)(k:Int)(w:World)(h:dx w n c g y s)(hlo:s.net.lost+1<=4611686018427387904) :
  Calls Tryz.prog 30 #[.pointer (some ⟨g,0,none⟩),.int .i64 k] w (iU w n c g y (oA s k).1 (oA s k).2):=by
 cases hk:hasB s.net k with
 | true=>
  obtain ⟨i,m,rfl,hm⟩:=yUa hk;by_cases hr:s.net.way.length<200
  ·have HL:=dV (yMg (y.lo n) g y.wv y.mr s.net i m w h.qo hm hr hlo);have HE:Hid (oA s i=({ s with net:=mR s.net m },0)):=by unfold Hid oA;rw [aV,hk,hm];simp only;rw [aP hr]
   have HH:=dV h;clear h;go_enter Tryz.func30,Tryz.ntmps30;go_wp2_with fail;refine HL.out.mono ?_;rintro e w1 ⟨iN,rfl,hN,hv,ij⟩;obtain ⟨hH,hS⟩:=HH.out.so ij hN hv (.inl rfl);have HF:Hid (iU w n c g y (oA s i).1 (oA s i).2 (.returned .nilIface) w1):=by
    unfold Hid;rw [HE.out];exact ⟨by rw [ou],_,hH,hS,rfl,rfl,rfl,rfl,rfl⟩
   clear hN ij hH hS;go_wp2_with fail;go_ret;exact HF.out
  ·have HL:=dV (yIy (y.lo n) g y.wv y.mr s.net i w h.qo hk hr);have HE:Hid (oA s i=(s,4)):=by unfold Hid oA;rw [aV,hk,hm];simp only;rw [aK hr]
   have HH:=dV h;clear h;go_enter Tryz.func30,Tryz.ntmps30;go_wp2_with fail;refine HL.out.mono ?_;rintro e w1 ⟨rfl,ij⟩;have HF:Hid (iU w n c g y (oA s i).1 (oA s i).2 (.returned (.iface 90 (.int .i64 4))) w1):=by
    unfold Hid;rw [HE.out];exact ⟨by rw [mS (by omega)],_,HH.out.quiet ij,eL.quiet ij⟩
   clear ij;go_wp2_with fail;go_ret;exact HF.out
 | false=>
  have HL:=dV (yQs (y.lo n) g y.wv y.mr s.net k w h.qo hk);have HE:Hid (oA s k=(s,2)):=by unfold Hid oA;rw [hk]
  have HH:=dV h;clear h;go_enter Tryz.func30,Tryz.ntmps30;go_wp2_with fail;refine HL.out.mono ?_;rintro e w1 ⟨rfl,ij⟩;have HF:Hid (iU w n c g y (oA s k).1 (oA s k).2 (.returned (.iface 90 (.int .i64 2))) w1):=by
   unfold Hid;rw [HE.out];exact ⟨by rw [mS (by omega)],_,HH.out.quiet ij,eL.quiet ij⟩
  clear ij;go_wp2_with fail;go_ret;exact HF.out
theorem dx.Ms{w w':World}{n c g:Nat}{y:dY}{s:dX}(h:dx w n c g y s){k b:Nat}(hk:k<s.lines.length)(hb:y.gF[k]?=some b){m:Nat}(hm:Mod (eA b) w w')(hB:dg w' b [y.rR b,.int .i64 m] 120) :
  dx w' n c g y (rn s k ⟨(s.line k).nodes,m⟩)/\eL w y w' y:=by
 have own:=h.own;have kX:=aC hb;have hL:=h.line k b _ hb (ma hk);have hq:Qm w (y.lo n) (eA b):=fun z hz e=>by
  simp only [eA] at e;subst e;rintro (e1 | ⟨⟨cur,fr,e1⟩,_⟩)
  ·have h9:=(own.lt z (by rw [(own.line z kX).1];simp)).1;have h8:z<n:=e1;omega
  ·have:=hL.blk;unfold dg at this;rw [this] at e1;simp at e1
 have ht:re w w' n y (fun t=>t=.line b):=⟨⟨_,hm,hq,fun z hz e=>by
  simp only [eA] at e;subst e;exact ⟨(own.line z kX).1,by rw [(own.line z kX).1];simp⟩⟩⟩
 have hrb:(y.rR b).ownBlock≠some b:=oP hL.row hL.blk (by decide);refine ⟨⟨h.tZ ht (by simp),h.vU ht (by simp),h.oY ht (by simp),h.tY ht (by simp),h.qn,h.oX ht (by simp),?_,fun i b' l hb' hl=>?_,h.oW ht (by simp),h.kN,fun i b' t hb' hti=>h.Dq ht hb' hti (by simp),own.more hm.size⟩,⟨hm.mono (fun z hz e=>by simp only [eA] at e;subst e;rw [(own.line z kX).1];simp),fun _ _=>rfl⟩,rfl,rfl,rfl,rfl,rfl⟩
 ·show y.gF.length=(s.lines.set k _).length;rw [ag];exact h.iQ
 ·have hl':(s.lines.set k ⟨(s.line k).nodes,m⟩)[i]?=some l:=hl;rw [qf] at hl';by_cases e:i=k
  ·subst e;rw [aP ⟨rfl,hk⟩] at hl';cases hl'
   rw [hb] at hb';cases hb'
   refine ⟨hB,fm hL.row hm (fun z _ _ hz q=>hrb (by rw [hz];exact ai some q)),hL.len,fun j d x hd hx=>h.Av ht hb (aC hd) (hL.node j d x hd hx) (by simp)⟩
  ·rw [aK (fun q=>e q.1)] at hl';have hne:b'≠b:=fun q=>e (GK own.Bv (q ▸ hb') hb);exact h.qF ht hb' hl' (fun q=>hne (by simpa using q)) (fun d _=>by simp)
theorem dx.sets{w:World}{n c g:Nat}{y:dY}{s:dX}(h:dx w n c g y s){id k b ab cap:Nat}(x:Int)(h1:1<=id)(h2:id<=s.dW.length)(hb:y.jo[id - 1]?=some b)(hk:k<(s.tx id).ats.length)(np:y.jQ b=.slice (some ⟨ab,0,none⟩) (s.tx id).ats.length cap) :
  ∃ y',dx (w.setCell ⟨ab,k,none⟩ (.int .i64 x)) n c g y' (db s id { s.tx id with ats:=(s.tx id).ats.set k x })/\eL w y (w.setCell ⟨ab,k,none⟩ (.int .i64 x)) y':=by
 have hT:=h.tx (id - 1) b _ hb (uG h1 h2);have hrow:=hT.ats;rw [np] at hrow;obtain ⟨r1,_,_⟩:=Qk (x:=x) hrow hk;have r2:Mod (eA ab) w (w.setCell ⟨ab,k,none⟩ (.int .i64 x)):=Mod.dt ab k _;have pD:ab≠b:=fun e=>oP hrow hT.blk (by decide) (by rw [e];rfl);have hne:∀ k,(y.jq b).ownBlock=some k->k≠ab:=fun k hk e=>by
  subst e;obtain ⟨_,_,cur,hc1⟩:=fW hT.wr hk;obtain ⟨_,_,cur',hc2⟩:=fW hrow rfl;rw [hc1] at hc2;simp at hc2
 obtain ⟨jy,hS1⟩:=h.po hb (uG h1 h2) (t':={ s.tx id with ats:=(s.tx id).ats.set k x }) (av:=y.jQ b) (wv:=y.jq b) (r2.mono (fun z _ e=>.inr (.inl (by rw [np];exact ai some (Eq.symm e))))) (hT.blk.mod r2 (fun e=>pD (Eq.symm e))) (by rw [np];exact r1) (fm hT.wr r2 (fun k _ _ e q=>hne k e q)) (.inl (.inl rfl)) (.inl (.inl rfl));rw [Js] at jy;exact ⟨_,jy,hS1,rfl,rfl,rfl,rfl,rfl⟩
theorem dx.Mu{w:World}{n c g:Nat}{y:dY}{s:dX}(h:dx w n c g y s){id b:Nat}(x:Int)(h1:1<=id)(h2:id<=s.dW.length)(hb:y.jo[id - 1]?=some b) :
  ∃ y',dx (w.setCell ⟨b,3,none⟩ (.int .i64 x)) n c g y' (db s id { s.tx id with time:=x })/\eL w y (w.setCell ⟨b,3,none⟩ (.int .i64 x)) y':=by
 have hT:=h.tx (id - 1) b _ hb (uG h1 h2);have r2:Mod (eA b) w (w.setCell ⟨b,3,none⟩ (.int .i64 x)):=Mod.dt b 3 _;have pD:=oP hT.ats hT.blk (by decide);have yw:=oP hT.wr hT.blk (by decide);obtain ⟨jy,hS1⟩:=h.po hb (uG h1 h2) (t':={ s.tx id with time:=x }) (av:=y.jQ b) (wv:=y.jq b) (r2.mono (fun z _ e=>.inl e)) (hT.blk.set 3 _) (fm hT.ats r2 (fun k _ _ e q=>pD (by rw [e];exact ai some q))) (fm hT.wr r2 (fun k _ _ e q=>yw (by rw [e];exact ai some q))) (.inl (.inl rfl)) (.inl (.inl rfl));rw [Js] at jy;exact ⟨_,jy,hS1,rfl,rfl,rfl,rfl,rfl⟩
theorem yKo(n c g:Nat)(y:dY)(s:dX)(k:Nat)(cm:dv)(u:Value)(w:World)(h:dx w n c g y s)(hs:lr s)(hc:c<=10000)(hk:k<s.lines.length)(ht:1<=cm.tx/\cm.tx<=(s.dW.length:Int)) :
  Calls Tryz.prog 130 #[.pointer (some ⟨g,0,none⟩),.int .i64 k,.agg #[.int .i64 cm.kind,.int .i64 cm.tx,.int .i64 cm.time,u]] w fun e w'=>e=.returned (.tuple #[])/\∃ y',dx w' n c g y' (lz s k cm)/\eL w y w' y':=by
 obtain ⟨kind,tx,time,ws⟩:=cm;dsimp only at ht ⊢;obtain ⟨id,rfl⟩:∃ i:Nat,tx=i:=⟨tx.toNat,by omega⟩;have hi1:1<=id:=by omega
 have hi2:id<=s.dW.length:=by omega
 have htl:=hs.tl;have hll:=hs.ll;obtain ⟨w1,hw1⟩:∃ z,z=w.alloc (.cells #[.int .i64 kind,.int .i64 id,.int .i64 time,u] 65):=⟨_,rfl⟩;have dh:Mod dZ w w1:=by rw [hw1];exact (Mod.refl _ w).alloc _
 have hb1:dg w1 w.heap.size [.int .i64 kind,.int .i64 id,.int .i64 time,u] 65:=by rw [hw1];exact dg.new w _ _
 have h1:=h.quiet dh;obtain ⟨b,hb,hT⟩:=h1.xc hi1 hi2;have ku:=dV (yg n c g y s id b w1 h1 hi1 (by omega) hb);have vq:=dV (Uw n c g y s w1 h1 (by omega) (by omega));have x0:=hb1.cell 0 rfl;have x1:=hb1.cell 1 rfl;have x2:=hb1.cell 2 rfl;have QC:Hid (y.own w.heap.size=.no):=by
  by_cases e:y.own w.heap.size=.no
  ·exact e
  ·have:=(h.own.lt _ e).2;omega
 have kA:=dV hb1;have fJ:=dV dh;have sa:=dV h1;by_cases hd:k=du s
 ·have hdb:((k:Int) == (du s:Int))=true:=by rw [beq_iff_eq];omega
  obtain ⟨y2,mX,hK2⟩:=h1.Mu time hi1 hi2 hb;obtain ⟨w2,hw2⟩:∃ z,z=w1.setCell ⟨b,3,none⟩ (.int .i64 time):=⟨_,rfl⟩;rw [<-hw2] at mX hK2;have t3:=hT.blk.cell 3 rfl;have f3:=hT.blk.frozen 3;have zb:=hT.blk.lt;have hb2:=hK2.st.blk hb1 QC.out;have z1:=hb2.cell 1 rfl;have Fx:=dV (UK n c g y2 _ id 3 w2 mX hi1 (by rw [my];exact hi2) (by rw [my];exact htl) hc);have Jb:Hid (lz s k ⟨kind,id,time,ws⟩=oq (db s id { s.tx id with time:=time }) id 3):=by unfold Hid lz;rw [aP hd,aV]
  have HK:=dV ((eL.quiet dh).trans hK2);clear h h1 hb hT hb1 dh mX hK2 hb2 hd;go_enter Tryz.func130,Tryz.ntmps130;go_upto_region 1 with fail;rw [<-hw1];clear hw1;go_upto_region 3 with (first
   | (go_at_call 34;refine ku.out.mono ?_;rintro e w5 ⟨rfl,rfl⟩)
   | (go_at_call 109;refine vq.out.mono ?_;rintro e w6 ⟨rfl,rfl⟩)
   | fail)
  go_upto_region 4 with fail;rw [<-hw2];clear hw2 t3 f3 x0 x1 x2;go_wp2_with (first
   | (go_at_call 63;refine Fx.out.mono ?_;rintro e w7 ⟨rfl,y7,vS,uS⟩;(have HF:Hid (∃ y',dx w7 n c g y' (lz s k ⟨kind,id,time,ws⟩)/\eL w y w7 y'):=⟨y7,by rw [Jb.out];exact vS,HK.out.trans uS⟩);clear vS uS)
   | fail)
  go_end0;exact ⟨rfl,HF.out⟩
 ·have hdb:((k:Int) == (du s:Int))=false:=by rw [bc];omega
  by_cases hp:kind=2
  ·have hpb:(kind == 2)=true:=by simpa using hp
   have qE:(s.tx id).ats.length=s.lines.length:=hs.ta _ (Cf hi1 hi2);obtain ⟨ab,rH,np⟩:∃ ab rH,y.jQ b=.slice (some ⟨ab,0,none⟩) (s.tx id).ats.length rH:=by
    rcases hT.ats.2 with ⟨e,h0⟩ | ⟨g',cap',cur,e,_⟩
    ·omega
    ·exact ⟨g',cap',e⟩
   have hkl:k<(s.tx id).ats.length:=by omega
   obtain ⟨y2,mX,hK2⟩:=h1.sets 2 hi1 hi2 hb hkl np;have t1:=hT.blk.cell 1 rfl;have hrow:=hT.ats;rw [np] at t1 hrow;obtain ⟨_,⟨u0,a0⟩,f0⟩:=Qk (x:=2) hrow hkl;have zb:=hT.blk.lt;have HF:Hid (∃ y',dx (w1.setCell ⟨ab,k,none⟩ (.int .i64 2)) n c g y' (lz s k ⟨kind,id,time,ws⟩)/\eL w y (w1.setCell ⟨ab,k,none⟩ (.int .i64 2)) y'):=by
    refine ⟨y2,?_,(eL.quiet dh).trans hK2⟩;unfold lz;rw [aK hd,aP hp,aV];exact mX
   have xu:(k:Int)<((s.tx id).ats.length:Int):=by omega
   have qs:(0:Int)<=(k:Int):=by omega
   clear h h1 hb hT hb1 dh mX hK2 hd hp np hrow qE;go_enter Tryz.func130,Tryz.ntmps130;go_upto_region 1 with fail;rw [<-hw1];clear hw1;go_wp2_with (first
    | (go_at_call 34;refine ku.out.mono ?_;rintro e w5 ⟨rfl,rfl⟩)
    | (go_at_call 109;refine vq.out.mono ?_;rintro e w6 ⟨rfl,rfl⟩)
    | fail)
   go_end0;exact ⟨rfl,HF.out⟩
  ·have hpb:(kind == 2)=false:=by simpa using hp
   have HF:Hid (∃ y',dx w1 n c g y' (lz s k ⟨kind,id,time,ws⟩)/\eL w y w1 y'):=by
    refine ⟨y,?_,eL.quiet dh⟩;unfold lz;rw [aK hd,aK hp];exact h1
   clear h h1 hb hT hb1 dh hd hp;go_enter Tryz.func130,Tryz.ntmps130;go_upto_region 1 with fail;rw [<-hw1];clear hw1;go_wp2_with (first
    | (go_at_call 34;refine ku.out.mono ?_;rintro e w5 ⟨rfl,rfl⟩)
    | (go_at_call 109;refine vq.out.mono ?_;rintro e w6 ⟨rfl,rfl⟩)
    | fail)
   go_end0;exact ⟨rfl,HF.out⟩
structure sd(s s':dX):Prop where
 ll:s'.lines.length=s.lines.length
 nodes:∀ k,(s'.line k).nodes=(s.line k).nodes
 d:s'.dead=s.dead
 net:s'.net=s.net
 len:s'.dW.length=s.dW.length
 at_:∀ j,(s'.tx j).ats.length=(s.tx j).ats.length
theorem sd.refl(s:dX):sd s s:=⟨rfl,fun _=>rfl,rfl,rfl,rfl,fun _=>rfl⟩
theorem sd.trans{a b c:dX}(h:sd a b)(k:sd b c):sd a c:=⟨k.ll.trans h.ll,fun i=>(k.nodes i).trans (h.nodes i),k.d.trans h.d,k.net.trans h.net,k.len.trans h.len,fun j=>(k.at_ j).trans (h.at_ j)⟩
theorem gG.toN{s s':dX}(h:gG s s'):sd s s':=⟨by rw [h.l],fun k=>by unfold dX.line;rw [h.l],h.d,h.net,h.len,h.at_⟩
theorem gG.follow(s:dX)(k:Nat)(c:dv):gG s (lz s k c):=by
 unfold lz;split
 ·exact (gG.db s c.tx.toNat { s.tx c.tx.toNat with time:=c.time } rfl).trans (gG.finish _ _ _)
 ·split
  ·exact gG.db s _ _ (by simp)
  ·exact gG.refl s
theorem zZw(s:dX)(k:Nat)(c:dv)(h:∀ t∈s.dW,t.writes.length<=20):∀ t∈(lz s k c).dW,t.writes.length<=20:=by
 unfold lz;split
 ·exact zQb _ _ _ (KJ s _ _ h (GQ h _))
 ·split
  ·exact KJ s _ _ h (GQ h _)
  ·exact h
theorem Lv(s:dX)(k:Nat)(l:jG)(i:Nat)(hk:k<s.lines.length):(rn s k l).line i=if i=k then l else s.line i:=by
 unfold dX.line rn;rw [aI,qf];by_cases e:i=k
 ·subst e;rw [aP ⟨rfl,hk⟩,aP rfl];rfl
 ·rw [aK (fun q=>e q.1),aK e,aI]
theorem Rc(s:dX)(k:Nat)(c:dv)(hk:k<s.lines.length):sd s (ot k s c):=by
 have h1:=(gG.follow s k c).toN;have hk1:k<(lz s k c).lines.length:=by rw [h1.ll];exact hk
 refine h1.trans ⟨by simp [ot,rn],fun i=>?_,rfl,rfl,rfl,fun _=>rfl⟩;show ((rn (lz s k c) k _).line i).nodes=_;rw [Lv _ _ _ _ hk1];by_cases e:i=k
 ·rw [aP e,e]
 ·rw [aK e]
theorem Ul(k:Nat):∀ (cs:List dv) (s:dX),k<s.lines.length->sd s (cs.foldl (ot k) s)
 | [],s,_=>sd.refl s
 | c :: cs,s,hk=>(Rc s k c hk).trans (Ul k cs _ (by rw [(Rc s k c hk).ll];exact hk))
theorem Ur(k:Nat):∀ (cs:List dv) (s:dX),(∀ t∈s.dW,t.writes.length<=20)->∀ t∈(cs.foldl (ot k) s).dW,t.writes.length<=20
 | [],_,h=>h
 | c :: cs,s,h=>Ur k cs _ (zZw s k c h)
theorem sd.shape{s s':dX}(h:sd s s')(hs:lr s)(hw:∀ t∈s'.dW,t.writes.length<=20):lr s':=by
 refine ⟨by rw [h.ll];exact hs.ll,fun l hl=>?_,by rw [h.len];exact hs.tl,fun t ht=>?_,hw⟩
 ·obtain ⟨i,hi⟩:=aO hl;have hil:i<s'.lines.length:=(aB.1 hi).1;have e1:s'.line i=l:=by
   have:=ma hil;rw [hi] at this;exact (ax this).symm
  have:=h.nodes i;rw [e1] at this;rw [this];exact hs.nl _ (Jp (by rw [h.ll] at hil;exact hil))
 ·obtain ⟨i,hi⟩:=aO ht;have hil:i<s'.dW.length:=(aB.1 hi).1;have e1:s'.tx (i+1)=t:=by
   have:=uG (s:=s') (id:=i+1) (by omega) (by omega);rw [bP,hi] at this;exact (ax this).symm
  have:=h.at_ (i+1);rw [e1] at this;rw [this,h.ll];exact hs.ta _ (Cf (by omega) (by rw [h.len] at hil;omega))
def nw(s:dX)(m:Nat):dX:=(List.range m).foldl il s
theorem MQ(s:dX)(m:Nat):nw s (m+1)=il (nw s m) m:=by unfold nw;rw [aj,al];rfl
theorem Ra(k:Nat):∀ (cs:List dv) (s:dX),k<s.lines.length->∀ i,((cs.foldl (ot k) s).line i).heard=if i=k then (s.line k).heard+cs.length else (s.line i).heard
 | [],s,_,i=>by
  by_cases e:i=k
  ·subst e;simp
  ·simp [e]
 | c :: cs,s,hk,i=>by
  have h1:=Rc s k c hk;have hf:=gG.follow s k c;have hk1:k<(lz s k c).lines.length:=by rw [hf.l];exact hk
  have hl:∀ j,(ot k s c).line j=if j=k then ⟨((lz s k c).line k).nodes,((lz s k c).line k).heard+1⟩ else (lz s k c).line j:=fun j=>Lv _ _ _ _ hk1
  have hfl:∀ j,(lz s k c).line j=s.line j:=fun j=>by unfold dX.line;rw [hf.l]
  rw [cV,Ra k cs _ (by rw [h1.ll];exact hk),hl,hl];by_cases e:i=k
  ·rw [aP e,aP e,aP rfl,hfl];simp;omega
  ·rw [aK e,aK e,aK e,hfl]
theorem Uk(s:dX):∀ m,m<=s.lines.length->sd s (nw s m)/\(∀ i,m<=i->((nw s m).line i).heard=(s.line i).heard)/\((∀ t∈s.dW,t.writes.length<=20)->∀ t∈(nw s m).dW,t.writes.length<=20)
 | 0,_=>⟨sd.refl s,fun _ _=>rfl,fun h=>h⟩
 | m+1,hm=>by
  obtain ⟨h1,h2,h3⟩:=Uk s m (by omega);have hk:m<(nw s m).lines.length:=by rw [h1.ll];omega
  rw [MQ];refine ⟨h1.trans (Ul m _ _ hk),fun i hi=>?_,fun h=>Ur m _ _ (h3 h)⟩;unfold il;rw [Ra m _ _ hk,aK (by omega)];exact h2 i (by omega)
theorem yJy{s:dX}{m:Nat}(hm:m<=s.lines.length):lx (nw s m) m=lx s m:=by
 obtain ⟨h1,h2,_⟩:=Uk s m hm;unfold lx qd;rw [h1.nodes,h2 m (aF _)]
def yUd(s:dX):Prop:=∀ k,k<s.lines.length->(s.line k).heard<=(qd s k).log.length/\∀ c∈lx s k,1<=c.tx/\c.tx<=(s.dW.length:Int)
end Go.Proofs.YtmaiggbnceejiaaGreatDoor
