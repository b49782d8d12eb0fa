import Derived.Test.YtmaiggbnceejiaaGreatDoorP29
import Derived.StillTailTactics
set_option linter.unusedVariables false
set_option maxRecDepth 100000
set_option maxHeartbeats 16000000
namespace Go.Proofs.YtmaiggbnceejiaaGreatDoor
open Go.RowKit Go.Lib Go.Maps
def Al(n:Nat):Code->Option Code
 | .region m ops d=>if m == n then some (.region m ops d) else none
 | .block _ c=>Al n c
 | .loop c=>Al n c
 | .seq a b=>match Al n a with
  | some c=>some c
  | none=>Al n b
 | .scope c=>Al n c
 | .cond _ a b=>match Al n a with
  | some c=>some c
  | none=>Al n b
 | _=>none
def uO(R:Act->World->Prop):Exit->Act->World->Prop
 | .normal,a,wd=>R a wd
 | _,_,_=>False
theorem iu.put{fr:Act}{gs:Nat}(h:iu fr gs){d:Nat}(v:Value)(hd:d≠0):iu (fr.put (some d) v) gs:=
 ⟨by have:=h.sz;simpa [Act.put] using this,h.df,by have:=h.t0;simpa [Act.put,Array.getElem?_setIfInBounds,hd] using this⟩
theorem iu.Fm{fr:Act}{gs:Nat}(h:iu fr gs)(v:Value):iu (fr.put none v) gs:=h
theorem iu.ZD{fr:Act}{gs:Nat}(h:iu fr gs):∃ hh:0<fr.tmps.size,fr.tmps[0]=.pointer (some ⟨gs,0,none⟩):=aK.1 h.t0
theorem Tryz.CV:(Tryz.prog.info? 46).map (fun i=>(i.zero,i.size,i.bytes))=some (some (.agg #[.slice none 0 0,.int .i64 0,.int .i64 0]),3,40):=by kernel_rfl
theorem Tryz.vt:(Tryz.prog.info? 51).map (fun i=>(i.zero,i.size,i.bytes))=some (some (.agg #[.int .i64 0,.string ⟨#[]⟩,.string ⟨#[]⟩,.bool false]),4,48):=by kernel_rfl
theorem Tryz.Fb:Tryz.prog.underlying 29=some (.slice 46):=by kernel_rfl
theorem Tryz.yj:Tryz.prog.underlying 44=some (.slice 51):=by kernel_rfl
theorem ef.CN{w w7:World}{n c gs g:Nat}{y:dX}{xv v7:Value}{vs:List Value}{s:dw}(h:ef w n c gs g y xv vs s)(kr:n<=gs)(f e:Int)(hm:Mod (fun k=>xv.ownBlock=some k) w w7)
  (hown:qp 46 w7 n v7 (s.dV++[⟨[],f,e⟩]) (vs++[.slice none 0 0])) (hmv:∀ k,v7.ownBlock=some k->xv.ownBlock=some k\/w.heap.size<=k) :
  fC w n c gs g y xv vs { s with dV:=s.dV++[⟨[],f,e⟩] } (w7.setCell ⟨gs,1,none⟩ v7):=by
 refine ⟨y,v7,vs++[.slice none 0 0],h.Fo kr f e hm hown hmv,⟨?_,fun _ _=>rfl,fun k hk hs=>?_⟩⟩
 ·exact (hm.mono (fun _ _ e=>.inr (.inr (.inl e)))).trans ((Mod.dq gs 1 v7).mono (fun _ _ e=>.inr (.inl e)))
 ·rcases hs with rfl | hs | ⟨u,hu,hs⟩
  ·exact .inl rfl
  ·rcases hmv k hs with q | q
   ·exact .inr (.inl q)
   ·omega
  ·rcases aL.1 hu with q | q
   ·exact .inr (.inr ⟨u,q,hs⟩)
   ·rw [bK] at q;subst q;cases hs
theorem ef.vm{w w7:World}{n c gs g xb cap:Nat}{y:dX}{vs:List Value}{s:dw}(h:ef w n c gs g y (.slice (some ⟨xb,0,none⟩) s.dV.length cap) vs s)(kr:n<=gs){i:Nat}{t:gg}{u v7:Value}{o:gQ}(hi:s.dV[i]?=some t)(hu:vs[i]?=some u)(hm:Mod (fun k=>u.ownBlock=some k) w w7)
  (hown:rq w7 n v7 (t.ops++[o])) (hmv:∀ k,v7.ownBlock=some k->u.ownBlock=some k\/w.heap.size<=k) :
  fC w n c gs g y (.slice (some ⟨xb,0,none⟩) s.dV.length cap) vs { s with dV:=s.dV.set i ⟨t.ops++[o],t.eI,t.jx⟩ } (w7.setCell ⟨xb,i*3,none⟩ v7):=by
 have uA:=aC hu;refine ⟨y,_,vs.set i v7,h.Fp kr hi hu hm hown hmv,⟨?_,fun _ _=>rfl,fun k hk hs=>?_⟩⟩
 ·exact (hm.mono (fun _ _ e=>.inr (.inr (.inr ⟨u,uA,e⟩)))).trans ((Mod.dq xb _ v7).mono (fun k _ e=>.inr (.inr (.inl (ae some (Eq.symm e))))))
 ·rcases hs with rfl | hs | ⟨v,hv,hs⟩
  ·exact .inl rfl
  ·exact .inr (.inl hs)
  ·rcases bE hv with q | q
   ·exact .inr (.inr ⟨v,q,hs⟩)
   ·subst q;rcases hmv k hs with r | r
    ·exact .inr (.inr ⟨u,uA,r⟩)
    ·omega
theorem MQ(n c gs g:Nat)(y:dX)(xv:Value)(vs:List Value)(s:dw)(w:World)(h:ef w n c gs g y xv vs s)(kr:n<=gs)(hl:s.dV.length<=100)(fr:Act)(hf:iu fr gs){R:Act->World->Prop}
  (hN:∀ fr' wd,iu fr' gs->fC w n c gs g y xv vs { s with dV:=s.dV++[⟨[],s.now,-1⟩] } wd->R fr' wd) :
  Code.wp Tryz.prog ((Tryz.f10.body.bind (Al 11)).getD .skip) (uO R) fr w:=by
 conv=>arg 2;whnf
 obtain ⟨i0,hpi,hz0,hz1,hz2⟩:=info_parts Tryz.CV;obtain ⟨xa,fk,hxv⟩:=fJ h.row.2;obtain ⟨-,c1,c2,-,-⟩:=gN h.blk;have f1:=h.blk.frozen 1;have zg:=h.blk.lt;have hrow:=h.row.2;rw [hxv] at c1 hrow;have yH:n<=w.heap.size:=by omega
 have hrow3:((w.alloc (.cells #[.slice none 0 0,.int .i64 s.now,.int .i64 (-1)] 46)).drew).ownsRow n 46 3 (.slice xa s.dV.length fk) s.dV.length (rU s.dV vs):=gD hrow (((Mod.refl dZ w).alloc _).drew) (fun _ _ _ _ e=>e);obtain ⟨v7,w7,iA,eQ,fB,pq,jC⟩:=run_append_own_at (P:=Tryz.prog) _ n 29 29 46 i0 _ 3 40 Tryz.Fb hpi hz0 hz1 hz2 rfl (by omega) _ _ _ hrow3 ⟨w.heap.size,0,none⟩ 1 1 (FH ⟨[],s.now,-1⟩ (.slice none 0 0)) rfl (World.news_of_block (heap_alloc_new w _)) (fun u hu=>by simp [FH] at hu;rcases hu with rfl | rfl | rfl <;> rfl) (by unfold maxLen;omega) (by omega) (by show n<=(w.alloc _).heap.size;rw [World.size_alloc];omega);obtain ⟨a7,fP,qf⟩:=fJ eQ;subst qf;have fp:Mod (fun k=>(Value.slice xa s.dV.length fk).ownBlock=some k) w w7:=(((Mod.refl _ w).alloc _).drew).grown fB (fun x hx _=>hx);have hnb:(Value.slice xa s.dV.length fk).ownBlock≠some gs:=oM hrow h.blk (by decide);have c17:=fp.cell c1 hnb;have Hu:=fp.cell c2 hnb;have f7:=(fp.frozen (p:=⟨gs,1,none⟩) zg hnb).trans f1;have zb7:=aG zg fp.size;have tU:Hid (fC w n c gs g y xv vs { s with dV:=s.dV++[⟨[],s.now,-1⟩] } (w7.setCell ⟨gs,1,none⟩ (.slice a7 (s.dV.length+1) fP))):=by
  refine h.CN kr s.now (-1) (by rw [hxv];exact fp) ⟨by simp [h.row.1],?_⟩ (fun k hk=>?_)
  ·rw [zPd _ _ _ _ h.row.1,aD];exact eQ
  ·rw [hxv];rcases jC with q | q
   ·exact .inl (by rw [<-q];exact hk)
   ·rw [q] at hk;simp only [bB] at hk;have:(w.alloc (.cells #[.slice none 0 0,.int .i64 s.now,.int .i64 (-1)] 46)).drew.heap.size=w.heap.size+1:=World.size_alloc _ _;omega
 have hsz:=hf.sz;obtain ⟨_,t0⟩:=hf.ZD;have HF:=dU hf;have HN:=dU hN;have qS:Mod dZ w (w.alloc (.cells #[.slice none 0 0,.int .i64 s.now,.int .i64 (-1)] 46)).drew:=((Mod.refl dZ w).alloc _).drew;have HC:Hid (w.drew.cell? ⟨gs,1,none⟩=some (.slice xa s.dV.length fk)/\w.drew.cell? ⟨gs,2,none⟩=some (.int .i64 s.now)):=⟨c1,c2⟩;have wM:Hid ((w.alloc (.cells #[.slice none 0 0,.int .i64 s.now,.int .i64 (-1)] 46)).drew.cell? ⟨gs,1,none⟩=some (.slice xa s.dV.length fk)/\(w.alloc (.cells #[.slice none 0 0,.int .i64 s.now,.int .i64 (-1)] 46)).drew.cell? ⟨gs,2,none⟩=some (.int .i64 s.now)):=⟨qS.cell c1 (fun e=>e),qS.cell c2 (fun e=>e)⟩;have qu:Hid (w7.cell? ⟨gs,1,none⟩=some (.slice xa s.dV.length fk)/\w7.cell? ⟨gs,2,none⟩=some (.int .i64 s.now)):=⟨c17,Hu⟩;clear h hf hN hrow hrow3 eQ jC pq qS c1 c2 fp;refine FR 14 (fun wq=>wq.cell? ⟨gs,1,none⟩=some (.slice xa s.dV.length fk)/\wq.cell? ⟨gs,2,none⟩=some (.int .i64 s.now)) rfl ?_;refine fu 14 0 75 (.pointer (some ⟨gs,0,none⟩)) rfl rfl (fun c a w h=>h) HC.out ⟨by rfl,fun wq hq=>by obtain ⟨q0,q1⟩:=hq;go_simp⟩ ?_;refine fu 14 1 76 (.pointer (some ⟨gs,0,none⟩)) rfl rfl (fun c a w h=>h) HC.out ⟨by rfl,fun wq hq=>by obtain ⟨q0,q1⟩:=hq;go_simp⟩ ?_;refine fu 14 2 77 (.pointer (some ⟨gs,0,none⟩)) rfl rfl (fun c a w h=>h) HC.out ⟨by rfl,fun wq hq=>by obtain ⟨q0,q1⟩:=hq;go_simp⟩ ?_;refine fu 14 3 78 (.pointer (some ⟨gs,1,none⟩)) rfl rfl (fun c a w h=>h) HC.out ⟨by rfl,fun wq hq=>by obtain ⟨q0,q1⟩:=hq;go_simp⟩ ?_;refine fu 14 4 79 (.slice xa s.dV.length fk) rfl rfl (fun c a w h=>h) HC.out ⟨by rfl,fun wq hq=>by obtain ⟨q0,q1⟩:=hq;go_simp⟩ ?_;refine fu 14 5 80 (.pointer (some ⟨gs,0,none⟩)) rfl rfl (fun c a w h=>h) HC.out ⟨by rfl,fun wq hq=>by obtain ⟨q0,q1⟩:=hq;go_simp⟩ ?_;refine fu 14 6 81 (.pointer (some ⟨gs,0,none⟩)) rfl rfl (fun c a w h=>h) HC.out ⟨by rfl,fun wq hq=>by obtain ⟨q0,q1⟩:=hq;go_simp⟩ ?_;refine fu 14 7 82 (.pointer (some ⟨gs,2,none⟩)) rfl rfl (fun c a w h=>h) HC.out ⟨by rfl,fun wq hq=>by obtain ⟨q0,q1⟩:=hq;go_simp⟩ ?_;refine fu 14 8 83 (.int .i64 s.now) rfl rfl (fun c a w h=>h) HC.out ⟨by rfl,fun wq hq=>by obtain ⟨q0,q1⟩:=hq;go_simp⟩ ?_;refine fu 14 9 84 (.agg #[.slice none 0 0,.int .i64 s.now,.int .i64 (-1)]) rfl rfl (fun c a w h=>h) HC.out ⟨by rfl,fun wq hq=>by obtain ⟨q0,q1⟩:=hq;go_simp⟩ ?_;refine nc 14 10 85 rfl rfl (by kernel_rfl) rfl (v:=.slice (some ⟨w.heap.size,0,none⟩) 1 1) (w':=(w.alloc (.cells #[.slice none 0 0,.int .i64 s.now,.int .i64 (-1)] 46)).drew) (by go_simp) wM.out ?_;refine nc 14 11 86 rfl rfl (by kernel_rfl) rfl (v:=.slice a7 (s.dV.length+1) fP) (w':=w7) (CD (s:=.tmp 79) (x:=.tmp 85) (t:=29) rfl (by go_simp) (by go_simp) iA) qu.out ?_;refine nc 14 12 87 rfl rfl (by kernel_rfl) rfl (v:=.pointer (some ⟨gs,0,none⟩)) (w':=w7) (by go_simp) qu.out ?_;refine nc 14 13 88 rfl rfl (by kernel_rfl) rfl (v:=.pointer (some ⟨gs,1,none⟩)) (w':=w7) (by go_simp) qu.out ?_;refine JH 14 rfl (by kernel_rfl) rfl (w':=w7.setCell ⟨gs,1,none⟩ (.slice a7 (s.dV.length+1) fP)) (by go_simp) ?_;refine ⟨by kernel_rfl,?_⟩;show R _ _;refine HN.out _ _ ?_ tU.out;refine iu.Fm ?_ _
 repeat (refine iu.put ?_ _ (by decide))
 exact HF.out
theorem MP(n c gs g xb fk i:Nat)(id:Int)(key val:ByteArray)(fd:Bool)(t:gg)(y:dX)(vs:List Value)(s:dw)(w:World)(h:ef w n c gs g y (.slice (some ⟨xb,0,none⟩) s.dV.length fk) vs s)(kr:n<=gs)(hi:s.dV[i]?=some t)(hid:id=(i:Int)+1)(hsm:s.dV.length<=100)(hl:t.ops.length<=1000)(fr:Act)(hf:iu fr gs)(t4:fr.tmps[4]?=some (.int .i64 id))(t5:fr.tmps[5]?=some (.string key))(t8:fr.tmps[8]?=some (.string val))(t9:fr.tmps[9]?=some (.bool fd)){R:Act->World->Prop}
  (hN:∀ fr' wd,iu fr' gs->fC w n c gs g y (.slice (some ⟨xb,0,none⟩) s.dV.length fk) vs { s with dV:=s.dV.set i ⟨t.ops++[⟨1,key,val,fd⟩],t.eI,t.jx⟩ } wd->R fr' wd) :
  Code.wp Tryz.prog ((Tryz.f10.body.bind (Al 15)).getD .skip) (uO R) fr w:=by
 conv=>arg 2;whnf
 obtain ⟨i0,hpi,hz0,hz1,hz2⟩:=info_parts Tryz.vt;have hil:=(aB.1 hi).1;obtain ⟨u,hu⟩:∃ u,vs[i]?=some u:=⟨_,aA (by rw [h.row.1];exact hil)⟩;have uA:=aC hu;have hrow:w.ownsRow n 51 4 u t.ops.length (Ao t.ops):=h.ops i t u hi hu;obtain ⟨ua,dj,Wf⟩:=fJ hrow;subst Wf;obtain ⟨-,c1,-,-,-⟩:=gN h.blk;have cx:w.cell? ⟨xb,i*3,none⟩=some (.slice ua t.ops.length dj):=by
  have:=h.row.2.cells (g:=xb) rfl _ _ (Qw s.dV vs i t _ h.row.1 hi hu 0 _ rfl);rw [Go.WideShapes.add_plain,ah,bC] at this;exact this
 have hx:(Value.slice (some ⟨xb,0,none⟩) s.dV.length fk).ownBlock=some xb:=rfl;obtain ⟨_,zx,cur,ty,fr0,RQ,_,q1,q2,q3⟩:=h.cells kr (k:=xb) (.inr (.inl hx));have fx:w.frozen? ⟨xb,i*3,none⟩=false:=by
  obtain ⟨_,_,cur',hc'⟩:=ft h.row.2 hx;simp [World.frozen?,hc']
 have zg:=h.blk.lt;have yH:n<=w.heap.size:=by omega
 have hrow3:((w.alloc (.cells #[.int .i64 1,.string key,.string val,.bool fd] 51)).drew).ownsRow n 51 4 (.slice ua t.ops.length dj) t.ops.length (Ao t.ops):=gD hrow (((Mod.refl dZ w).alloc _).drew) (fun _ _ _ _ e=>e);obtain ⟨v7,w7,iA,eQ,fB,pq,jC⟩:=run_append_own_at (P:=Tryz.prog) _ n 44 44 51 i0 _ 4 48 Tryz.yj hpi hz0 hz1 hz2 rfl (by omega) _ _ _ hrow3 ⟨w.heap.size,0,none⟩ 1 1 (Ik ⟨1,key,val,fd⟩) rfl (World.news_of_block (heap_alloc_new w _)) (fun u hu=>by simp [Ik] at hu;rcases hu with rfl | rfl | rfl | rfl <;> rfl) (by unfold maxLen;omega) (by omega) (by show n<=(w.alloc _).heap.size;rw [World.size_alloc];omega);obtain ⟨a7,fP,qf⟩:=fJ eQ;subst qf;have fp:Mod (fun k=>(Value.slice ua t.ops.length dj).ownBlock=some k) w w7:=(((Mod.refl _ w).alloc _).drew).grown fB (fun x hx _=>hx);have hnb:(Value.slice ua t.ops.length dj).ownBlock≠some gs:=oM hrow h.blk (by decide);have hnx:(Value.slice ua t.ops.length dj).ownBlock≠some xb:=fun e=>by
  have:=(q1 hx).symm.trans (q3 ⟨_,uA,e⟩);exact absurd this (by decide)
 have c17:=fp.cell c1 hnb;have Yv:=fp.cell cx hnx;have fx7:=(fp.frozen (p:=⟨xb,i*3,none⟩) zx hnx).trans fx;have zx7:=aG zx fp.size;have tU:Hid (fC w n c gs g y (.slice (some ⟨xb,0,none⟩) s.dV.length fk) vs { s with dV:=s.dV.set i ⟨t.ops++[⟨1,key,val,fd⟩],t.eI,t.jx⟩ } (w7.setCell ⟨xb,i*3,none⟩ (.slice a7 (t.ops.length+1) fP))):=by
  refine h.vm kr hi hu fp ?_ (fun k hk=>?_)
  ·unfold rq;rw [Uq,aD];exact eQ
  ·rcases jC with q | q
   ·exact .inl (by rw [<-q];exact hk)
   ·rw [q] at hk;simp only [bB] at hk;have:((w.alloc (.cells #[.int .i64 1,.string key,.string val,.bool fd] 51)).drew).heap.size=w.heap.size+1:=World.size_alloc _ _;omega
 have hsz:=hf.sz;obtain ⟨_,t0⟩:=hf.ZD;obtain ⟨_,t4⟩:=aK.1 t4;obtain ⟨_,t5⟩:=aK.1 t5;obtain ⟨_,t8⟩:=aK.1 t8;obtain ⟨_,t9⟩:=aK.1 t9;have HF:=dU hf;have HN:=dU hN;have qS:Mod dZ w (w.alloc (.cells #[.int .i64 1,.string key,.string val,.bool fd] 51)).drew:=((Mod.refl dZ w).alloc _).drew;have ew:wrap64 (id - 1)=(i:Int):=by rw [hid,show (i:Int)+1 - 1=(i:Int) by omega];exact IntWalk.wrap64_in _ ⟨by omega,by omega⟩
 have Ry:IntKind.i64.wrap (id - 1)=(i:Int):=by rw [hid,show (i:Int)+1 - 1=(i:Int) by omega];exact IntWalk.i64_in _ ⟨by omega,by omega⟩
 have wB:(i:Int)<(s.dV.length:Int):=by omega
 have hi0:(0:Int)<=(i:Int):=by omega
 have HC:Hid (w.drew.cell? ⟨gs,1,none⟩=some (.slice (some ⟨xb,0,none⟩) s.dV.length fk)/\w.drew.cell? ⟨xb,i*3,none⟩=some (.slice ua t.ops.length dj)):=⟨c1,cx⟩;have wM:Hid ((w.alloc (.cells #[.int .i64 1,.string key,.string val,.bool fd] 51)).drew.cell? ⟨gs,1,none⟩=some (.slice (some ⟨xb,0,none⟩) s.dV.length fk)/\(w.alloc (.cells #[.int .i64 1,.string key,.string val,.bool fd] 51)).drew.cell? ⟨xb,i*3,none⟩=some (.slice ua t.ops.length dj)):=⟨qS.cell c1 (fun e=>e),qS.cell cx (fun e=>e)⟩;have qu:Hid (w7.cell? ⟨gs,1,none⟩=some (.slice (some ⟨xb,0,none⟩) s.dV.length fk)/\w7.cell? ⟨xb,i*3,none⟩=some (.slice ua t.ops.length dj)):=⟨c17,Yv⟩;clear h hf hN hrow hrow3 eQ jC pq qS c1 cx fp hid q1 q2 q3 hu uA hi RQ hx;refine FR 23 (fun wq=>wq.cell? ⟨gs,1,none⟩=some (.slice (some ⟨xb,0,none⟩) s.dV.length fk)/\wq.cell? ⟨xb,i*3,none⟩=some (.slice ua t.ops.length dj)) rfl ?_;refine fu 23 0 108 (.pointer (some ⟨gs,0,none⟩)) rfl rfl (fun c a w h=>h) HC.out ⟨by rfl,fun wq hq=>by obtain ⟨q0,q1⟩:=hq;go_simp⟩ ?_;refine fu 23 1 109 (.pointer (some ⟨gs,0,none⟩)) rfl rfl (fun c a w h=>h) HC.out ⟨by rfl,fun wq hq=>by obtain ⟨q0,q1⟩:=hq;go_simp⟩ ?_;refine fu 23 2 110 (.pointer (some ⟨gs,1,none⟩)) rfl rfl (fun c a w h=>h) HC.out ⟨by rfl,fun wq hq=>by obtain ⟨q0,q1⟩:=hq;go_simp⟩ ?_;refine fu 23 3 111 (.slice (some ⟨xb,0,none⟩) s.dV.length fk) rfl rfl (fun c a w h=>h) HC.out ⟨by rfl,fun wq hq=>by obtain ⟨q0,q1⟩:=hq;go_simp⟩ ?_;refine fu 23 4 112 (.int .i64 id) rfl rfl (fun c a w h=>h) HC.out ⟨by rfl,fun wq hq=>by obtain ⟨q0,q1⟩:=hq;go_simp⟩ ?_;refine fu 23 5 113 (.int .i64 i) rfl rfl (fun c a w h=>h) HC.out ⟨by rfl,fun wq hq=>by obtain ⟨q0,q1⟩:=hq;go_simp⟩ ?_;refine fu 23 6 114 (.pointer (some ⟨gs,0,none⟩)) rfl rfl (fun c a w h=>h) HC.out ⟨by rfl,fun wq hq=>by obtain ⟨q0,q1⟩:=hq;go_simp⟩ ?_;refine fu 23 7 115 (.pointer (some ⟨gs,0,none⟩)) rfl rfl (fun c a w h=>h) HC.out ⟨by rfl,fun wq hq=>by obtain ⟨q0,q1⟩:=hq;go_simp⟩ ?_;refine fu 23 8 116 (.pointer (some ⟨gs,1,none⟩)) rfl rfl (fun c a w h=>h) HC.out ⟨by rfl,fun wq hq=>by obtain ⟨q0,q1⟩:=hq;go_simp⟩ ?_;refine fu 23 9 117 (.slice (some ⟨xb,0,none⟩) s.dV.length fk) rfl rfl (fun c a w h=>h) HC.out ⟨by rfl,fun wq hq=>by obtain ⟨q0,q1⟩:=hq;go_simp⟩ ?_;refine fu 23 10 118 (.int .i64 id) rfl rfl (fun c a w h=>h) HC.out ⟨by rfl,fun wq hq=>by obtain ⟨q0,q1⟩:=hq;go_simp⟩ ?_;refine fu 23 11 119 (.int .i64 i) rfl rfl (fun c a w h=>h) HC.out ⟨by rfl,fun wq hq=>by obtain ⟨q0,q1⟩:=hq;go_simp⟩ ?_;refine fu 23 12 120 (.pointer (some ⟨xb,i*3,none⟩)) rfl rfl (fun c a w h=>h) HC.out ⟨by rfl,fun wq hq=>by obtain ⟨q0,q1⟩:=hq;go_simp⟩ ?_;refine fu 23 13 121 (.pointer (some ⟨xb,i*3,none⟩)) rfl rfl (fun c a w h=>h) HC.out ⟨by rfl,fun wq hq=>by obtain ⟨q0,q1⟩:=hq;go_simp⟩ ?_;refine fu 23 14 122 (.slice ua t.ops.length dj) rfl rfl (fun c a w h=>h) HC.out ⟨by rfl,fun wq hq=>by obtain ⟨q0,q1⟩:=hq;go_simp⟩ ?_;refine fu 23 15 123 (.string key) rfl rfl (fun c a w h=>h) HC.out ⟨by rfl,fun wq hq=>by obtain ⟨q0,q1⟩:=hq;go_simp⟩ ?_;refine fu 23 16 124 (.string val) rfl rfl (fun c a w h=>h) HC.out ⟨by rfl,fun wq hq=>by obtain ⟨q0,q1⟩:=hq;go_simp⟩ ?_;refine fu 23 17 125 (.bool fd) rfl rfl (fun c a w h=>h) HC.out ⟨by rfl,fun wq hq=>by obtain ⟨q0,q1⟩:=hq;go_simp⟩ ?_;refine fu 23 18 126 (.agg #[.int .i64 1,.string key,.string val,.bool fd]) rfl rfl (fun c a w h=>h) HC.out ⟨by rfl,fun wq hq=>by obtain ⟨q0,q1⟩:=hq;go_simp⟩ ?_;refine nc 23 19 127 rfl rfl (by kernel_rfl) rfl (v:=.slice (some ⟨w.heap.size,0,none⟩) 1 1) (w':=(w.alloc (.cells #[.int .i64 1,.string key,.string val,.bool fd] 51)).drew) (by go_simp) wM.out ?_;refine nc 23 20 128 rfl rfl (by kernel_rfl) rfl (v:=.slice a7 (t.ops.length+1) fP) (w':=w7) (CD (s:=.tmp 122) (x:=.tmp 127) (t:=44) rfl (by go_simp) (by go_simp) iA) qu.out ?_;refine nc 23 21 129 rfl rfl (by kernel_rfl) rfl (v:=.pointer (some ⟨xb,i*3,none⟩)) (w':=w7) (by go_simp) qu.out ?_;refine nc 23 22 130 rfl rfl (by kernel_rfl) rfl (v:=.pointer (some ⟨xb,i*3,none⟩)) (w':=w7) (by go_simp) qu.out ?_;refine JH 23 rfl (by kernel_rfl) rfl (w':=w7.setCell ⟨xb,i*3,none⟩ (.slice a7 (t.ops.length+1) fP)) (by go_simp) ?_;refine ⟨by kernel_rfl,?_⟩;show R _ _;refine HN.out _ _ ?_ tU.out;refine iu.Fm ?_ _
 repeat (refine iu.put ?_ _ (by decide))
 exact HF.out
theorem EG(n c gs g xb fk i:Nat)(id:Int)(key val:ByteArray)(t:gg)(y:dX)(vs:List Value)(s:dw)(w:World)(h:ef w n c gs g y (.slice (some ⟨xb,0,none⟩) s.dV.length fk) vs s)(kr:n<=gs)(hi:s.dV[i]?=some t)(hid:id=(i:Int)+1)(hsm:s.dV.length<=100)(hl:t.ops.length<=1000)(ab pb:Nat)(what:Int)(ha:w.cell? ⟨ab,0,none⟩=some (.int .i64 what))(hp:w.cell? ⟨pb,1,none⟩=some (.string val))(ji:∀ u∈vs,u.ownBlock≠some ab)(hnp:∀ u∈vs,u.ownBlock≠some pb)(fr:Act)(hf:iu fr gs)(t4:fr.tmps[4]?=some (.int .i64 id))(t5:fr.tmps[5]?=some (.string key))(t3:fr.tmps[3]?=some (.pointer (some ⟨ab,0,none⟩)))(t11:fr.tmps[11]?=some (.pointer (some ⟨pb,0,none⟩))){R:Act->World->Prop}
  (hN:∀ fr' wd,iu fr' gs->fC w n c gs g y (.slice (some ⟨xb,0,none⟩) s.dV.length fk) vs { s with dV:=s.dV.set i ⟨t.ops++[⟨what,key,val,false⟩],t.eI,t.jx⟩ } wd->R fr' wd) :
  Code.wp Tryz.prog ((Tryz.f10.body.bind (Al 22)).getD .skip) (uO R) fr w:=by
 conv=>arg 2;whnf
 obtain ⟨i0,hpi,hz0,hz1,hz2⟩:=info_parts Tryz.vt;have hil:=(aB.1 hi).1;obtain ⟨u,hu⟩:∃ u,vs[i]?=some u:=⟨_,aA (by rw [h.row.1];exact hil)⟩;have uA:=aC hu;have hrow:w.ownsRow n 51 4 u t.ops.length (Ao t.ops):=h.ops i t u hi hu;obtain ⟨ua,dj,Wf⟩:=fJ hrow;subst Wf;obtain ⟨-,c1,-,-,-⟩:=gN h.blk;have cx:w.cell? ⟨xb,i*3,none⟩=some (.slice ua t.ops.length dj):=by
  have:=h.row.2.cells (g:=xb) rfl _ _ (Qw s.dV vs i t _ h.row.1 hi hu 0 _ rfl);rw [Go.WideShapes.add_plain,ah,bC] at this;exact this
 have hx:(Value.slice (some ⟨xb,0,none⟩) s.dV.length fk).ownBlock=some xb:=rfl;obtain ⟨_,zx,cur,ty,fr0,RQ,_,q1,q2,q3⟩:=h.cells kr (k:=xb) (.inr (.inl hx));have fx:w.frozen? ⟨xb,i*3,none⟩=false:=by
  obtain ⟨_,_,cur',hc'⟩:=ft h.row.2 hx;simp [World.frozen?,hc']
 have zg:=h.blk.lt;have yH:n<=w.heap.size:=by omega
 have hrow3:((w.alloc (.cells #[.int .i64 what,.string key,.string val,.bool false] 51)).drew).ownsRow n 51 4 (.slice ua t.ops.length dj) t.ops.length (Ao t.ops):=gD hrow (((Mod.refl dZ w).alloc _).drew) (fun _ _ _ _ e=>e);obtain ⟨v7,w7,iA,eQ,fB,pq,jC⟩:=run_append_own_at (P:=Tryz.prog) _ n 44 44 51 i0 _ 4 48 Tryz.yj hpi hz0 hz1 hz2 rfl (by omega) _ _ _ hrow3 ⟨w.heap.size,0,none⟩ 1 1 (Ik ⟨what,key,val,false⟩) rfl (World.news_of_block (heap_alloc_new w _)) (fun u hu=>by simp [Ik] at hu;rcases hu with rfl | rfl | rfl | rfl <;> rfl) (by unfold maxLen;omega) (by omega) (by show n<=(w.alloc _).heap.size;rw [World.size_alloc];omega);obtain ⟨a7,fP,qf⟩:=fJ eQ;subst qf;have fp:Mod (fun k=>(Value.slice ua t.ops.length dj).ownBlock=some k) w w7:=(((Mod.refl _ w).alloc _).drew).grown fB (fun x hx _=>hx);have hnb:(Value.slice ua t.ops.length dj).ownBlock≠some gs:=oM hrow h.blk (by decide);have hnx:(Value.slice ua t.ops.length dj).ownBlock≠some xb:=fun e=>by
  have:=(q1 hx).symm.trans (q3 ⟨_,uA,e⟩);exact absurd this (by decide)
 have c17:=fp.cell c1 hnb;have Yv:=fp.cell cx hnx;have fx7:=(fp.frozen (p:=⟨xb,i*3,none⟩) zx hnx).trans fx;have zx7:=aG zx fp.size;have tU:Hid (fC w n c gs g y (.slice (some ⟨xb,0,none⟩) s.dV.length fk) vs { s with dV:=s.dV.set i ⟨t.ops++[⟨what,key,val,false⟩],t.eI,t.jx⟩ } (w7.setCell ⟨xb,i*3,none⟩ (.slice a7 (t.ops.length+1) fP))):=by
  refine h.vm kr hi hu fp ?_ (fun k hk=>?_)
  ·unfold rq;rw [Uq,aD];exact eQ
  ·rcases jC with q | q
   ·exact .inl (by rw [<-q];exact hk)
   ·rw [q] at hk;simp only [bB] at hk;have:((w.alloc (.cells #[.int .i64 what,.string key,.string val,.bool false] 51)).drew).heap.size=w.heap.size+1:=World.size_alloc _ _;omega
 have hsz:=hf.sz;obtain ⟨_,t0⟩:=hf.ZD;obtain ⟨_,t4⟩:=aK.1 t4;obtain ⟨_,t5⟩:=aK.1 t5;obtain ⟨_,t3⟩:=aK.1 t3;obtain ⟨_,t11⟩:=aK.1 t11;have ca7:=fp.cell ha (ji _ uA);have cp7:=fp.cell hp (hnp _ uA);have HF:=dU hf;have HN:=dU hN;have qS:Mod dZ w (w.alloc (.cells #[.int .i64 what,.string key,.string val,.bool false] 51)).drew:=((Mod.refl dZ w).alloc _).drew;have ew:wrap64 (id - 1)=(i:Int):=by rw [hid,show (i:Int)+1 - 1=(i:Int) by omega];exact IntWalk.wrap64_in _ ⟨by omega,by omega⟩
 have Ry:IntKind.i64.wrap (id - 1)=(i:Int):=by rw [hid,show (i:Int)+1 - 1=(i:Int) by omega];exact IntWalk.i64_in _ ⟨by omega,by omega⟩
 have wB:(i:Int)<(s.dV.length:Int):=by omega
 have hi0:(0:Int)<=(i:Int):=by omega
 have HC:Hid (w.drew.cell? ⟨gs,1,none⟩=some (.slice (some ⟨xb,0,none⟩) s.dV.length fk)/\w.drew.cell? ⟨xb,i*3,none⟩=some (.slice ua t.ops.length dj)/\w.drew.cell? ⟨ab,0,none⟩=some (.int .i64 what)/\w.drew.cell? ⟨pb,1,none⟩=some (.string val)):=⟨c1,cx,ha,hp⟩;have wM:Hid ((w.alloc (.cells #[.int .i64 what,.string key,.string val,.bool false] 51)).drew.cell? ⟨gs,1,none⟩=some (.slice (some ⟨xb,0,none⟩) s.dV.length fk)/\(w.alloc (.cells #[.int .i64 what,.string key,.string val,.bool false] 51)).drew.cell? ⟨xb,i*3,none⟩=some (.slice ua t.ops.length dj)/\(w.alloc (.cells #[.int .i64 what,.string key,.string val,.bool false] 51)).drew.cell? ⟨ab,0,none⟩=some (.int .i64 what)/\(w.alloc (.cells #[.int .i64 what,.string key,.string val,.bool false] 51)).drew.cell? ⟨pb,1,none⟩=some (.string val)):=⟨qS.cell c1 (fun e=>e),qS.cell cx (fun e=>e),qS.cell ha (fun e=>e),qS.cell hp (fun e=>e)⟩;have qu:Hid (w7.cell? ⟨gs,1,none⟩=some (.slice (some ⟨xb,0,none⟩) s.dV.length fk)/\w7.cell? ⟨xb,i*3,none⟩=some (.slice ua t.ops.length dj)/\w7.cell? ⟨ab,0,none⟩=some (.int .i64 what)/\w7.cell? ⟨pb,1,none⟩=some (.string val)):=⟨c17,Yv,ca7,cp7⟩;clear h hf hN hrow hrow3 eQ jC pq qS c1 cx fp hid q1 q2 q3 hu uA hi RQ hx ha hp ji hnp;refine FR 25 (fun wq=>wq.cell? ⟨gs,1,none⟩=some (.slice (some ⟨xb,0,none⟩) s.dV.length fk)/\wq.cell? ⟨xb,i*3,none⟩=some (.slice ua t.ops.length dj)/\wq.cell? ⟨ab,0,none⟩=some (.int .i64 what)/\wq.cell? ⟨pb,1,none⟩=some (.string val)) rfl ?_;refine fu 25 0 161 (.pointer (some ⟨gs,0,none⟩)) rfl rfl (fun c a w h=>h) HC.out ⟨by rfl,fun wq hq=>by obtain ⟨q0,q1,q2,q3⟩:=hq;go_simp⟩ ?_;refine fu 25 1 162 (.pointer (some ⟨gs,0,none⟩)) rfl rfl (fun c a w h=>h) HC.out ⟨by rfl,fun wq hq=>by obtain ⟨q0,q1,q2,q3⟩:=hq;go_simp⟩ ?_;refine fu 25 2 163 (.pointer (some ⟨gs,1,none⟩)) rfl rfl (fun c a w h=>h) HC.out ⟨by rfl,fun wq hq=>by obtain ⟨q0,q1,q2,q3⟩:=hq;go_simp⟩ ?_;refine fu 25 3 164 (.slice (some ⟨xb,0,none⟩) s.dV.length fk) rfl rfl (fun c a w h=>h) HC.out ⟨by rfl,fun wq hq=>by obtain ⟨q0,q1,q2,q3⟩:=hq;go_simp⟩ ?_;refine fu 25 4 165 (.int .i64 id) rfl rfl (fun c a w h=>h) HC.out ⟨by rfl,fun wq hq=>by obtain ⟨q0,q1,q2,q3⟩:=hq;go_simp⟩ ?_;refine fu 25 5 166 (.int .i64 i) rfl rfl (fun c a w h=>h) HC.out ⟨by rfl,fun wq hq=>by obtain ⟨q0,q1,q2,q3⟩:=hq;go_simp⟩ ?_;refine fu 25 6 167 (.pointer (some ⟨gs,0,none⟩)) rfl rfl (fun c a w h=>h) HC.out ⟨by rfl,fun wq hq=>by obtain ⟨q0,q1,q2,q3⟩:=hq;go_simp⟩ ?_;refine fu 25 7 168 (.pointer (some ⟨gs,0,none⟩)) rfl rfl (fun c a w h=>h) HC.out ⟨by rfl,fun wq hq=>by obtain ⟨q0,q1,q2,q3⟩:=hq;go_simp⟩ ?_;refine fu 25 8 169 (.pointer (some ⟨gs,1,none⟩)) rfl rfl (fun c a w h=>h) HC.out ⟨by rfl,fun wq hq=>by obtain ⟨q0,q1,q2,q3⟩:=hq;go_simp⟩ ?_;refine fu 25 9 170 (.slice (some ⟨xb,0,none⟩) s.dV.length fk) rfl rfl (fun c a w h=>h) HC.out ⟨by rfl,fun wq hq=>by obtain ⟨q0,q1,q2,q3⟩:=hq;go_simp⟩ ?_;refine fu 25 10 171 (.int .i64 id) rfl rfl (fun c a w h=>h) HC.out ⟨by rfl,fun wq hq=>by obtain ⟨q0,q1,q2,q3⟩:=hq;go_simp⟩ ?_;refine fu 25 11 172 (.int .i64 i) rfl rfl (fun c a w h=>h) HC.out ⟨by rfl,fun wq hq=>by obtain ⟨q0,q1,q2,q3⟩:=hq;go_simp⟩ ?_;refine fu 25 12 173 (.pointer (some ⟨xb,i*3,none⟩)) rfl rfl (fun c a w h=>h) HC.out ⟨by rfl,fun wq hq=>by obtain ⟨q0,q1,q2,q3⟩:=hq;go_simp⟩ ?_;refine fu 25 13 174 (.pointer (some ⟨xb,i*3,none⟩)) rfl rfl (fun c a w h=>h) HC.out ⟨by rfl,fun wq hq=>by obtain ⟨q0,q1,q2,q3⟩:=hq;go_simp⟩ ?_;refine fu 25 14 175 (.slice ua t.ops.length dj) rfl rfl (fun c a w h=>h) HC.out ⟨by rfl,fun wq hq=>by obtain ⟨q0,q1,q2,q3⟩:=hq;go_simp⟩ ?_;refine fu 25 15 176 (.pointer (some ⟨ab,0,none⟩)) rfl rfl (fun c a w h=>h) HC.out ⟨by rfl,fun wq hq=>by obtain ⟨q0,q1,q2,q3⟩:=hq;go_simp⟩ ?_;refine fu 25 16 177 (.int .i64 what) rfl rfl (fun c a w h=>h) HC.out ⟨by rfl,fun wq hq=>by obtain ⟨q0,q1,q2,q3⟩:=hq;go_simp⟩ ?_;refine fu 25 17 178 (.string key) rfl rfl (fun c a w h=>h) HC.out ⟨by rfl,fun wq hq=>by obtain ⟨q0,q1,q2,q3⟩:=hq;go_simp⟩ ?_;refine fu 25 18 179 (.pointer (some ⟨pb,1,none⟩)) rfl rfl (fun c a w h=>h) HC.out ⟨by rfl,fun wq hq=>by obtain ⟨q0,q1,q2,q3⟩:=hq;go_simp⟩ ?_;refine fu 25 19 180 (.string val) rfl rfl (fun c a w h=>h) HC.out ⟨by rfl,fun wq hq=>by obtain ⟨q0,q1,q2,q3⟩:=hq;go_simp⟩ ?_;refine fu 25 20 181 (.agg #[.int .i64 what,.string key,.string val,.bool false]) rfl rfl (fun c a w h=>h) HC.out ⟨by rfl,fun wq hq=>by obtain ⟨q0,q1,q2,q3⟩:=hq;go_simp⟩ ?_;refine nc 25 21 182 rfl rfl (by kernel_rfl) rfl (v:=.slice (some ⟨w.heap.size,0,none⟩) 1 1) (w':=(w.alloc (.cells #[.int .i64 what,.string key,.string val,.bool false] 51)).drew) (by go_simp) wM.out ?_;refine nc 25 22 183 rfl rfl (by kernel_rfl) rfl (v:=.slice a7 (t.ops.length+1) fP) (w':=w7) (CD (s:=.tmp 175) (x:=.tmp 182) (t:=44) rfl (by go_simp) (by go_simp) iA) qu.out ?_;refine nc 25 23 184 rfl rfl (by kernel_rfl) rfl (v:=.pointer (some ⟨xb,i*3,none⟩)) (w':=w7) (by go_simp) qu.out ?_;refine nc 25 24 185 rfl rfl (by kernel_rfl) rfl (v:=.pointer (some ⟨xb,i*3,none⟩)) (w':=w7) (by go_simp) qu.out ?_;refine JH 25 rfl (by kernel_rfl) rfl (w':=w7.setCell ⟨xb,i*3,none⟩ (.slice a7 (t.ops.length+1) fP)) (by go_simp) ?_;refine ⟨by kernel_rfl,?_⟩;show R _ _;refine HN.out _ _ ?_ tU.out;refine iu.Fm ?_ _
 repeat (refine iu.put ?_ _ (by decide))
 exact HF.out
def yd(n:Nat):Code->Option Code
 | .block m c=>if m == n then some (.block m c) else yd n c
 | .loop c=>yd n c
 | .seq a b=>match yd n a with
  | some c=>some c
  | none=>yd n b
 | .scope c=>yd n c
 | .cond _ a b=>match yd n a with
  | some c=>some c
  | none=>yd n b
 | _=>none
def qG(w:World)(n c gs g:Nat)(y:dX)(xv:Value)(vs:List Value)(s':dw)(fr:Act):Prop:=∀ R:Act->World->Prop,(∀ fr' wd,iu fr' gs->fC w n (c+2) gs g y xv vs s' wd->R fr' wd) ->
  Code.wp Tryz.prog ((Tryz.f10.body.bind (yd 0)).getD .skip) (uO R) fr w
theorem fC.refl{w w':World}{n c gs g:Nat}{y:dX}{xv:Value}{vs:List Value}{s:dw}(h:ef w n c gs g y xv vs s)(hm:Mod dZ w w'):fC w n (c+2) gs g y xv vs s w':=⟨y,xv,vs,(h.quiet hm).more (by omega),jX.quiet hm⟩
section
variable {w:World} {n c m gs g:Nat} {y:dX} {xv:Value} {vs:List Value} {s:dw} {xb:Nat} {x:ActD}
theorem Vq(hp:iR w n c m gs g y xv vs s xb x)(fr:Act)(hf:oz fr gs xb (fK s x) (eP x) x.what)(hw:x.what=12):qG w n c gs g y xv vs (dx s x) fr:=by
 intro R hN
 conv=>arg 2;whnf
 obtain ⟨f,rfl⟩:=hf.lit;rw [hw];have hA:dx s x={ s with h:=kD s.h }:=by unfold dx;simp [hw]
 rw [hA] at hN;have c0:=(gN hp.fE.blk).1;have zg:=hp.fE.blk.lt;have HN:=dU hN;have HC:=dU (hp.calm);clear hN hp hf hA;go_wp2_with fail;refine (HC.out _ (Mod.refl _ _)).mono ?_;rintro e w1 ⟨ev,rfl,hr⟩;have HR:=dU hr;clear hr HC;go_wp2_with fail;show R _ _;exact HN.out _ _ ⟨rfl,rfl,rfl⟩ HR.out
theorem Vr(hp:iR w n c m gs g y xv vs s xb x)(fr:Act)(hf:oz fr gs xb (fK s x) (eP x) x.what)(hw:x.what=11):qG w n c gs g y xv vs (dx s x) fr:=by
 intro R hN
 conv=>arg 2;whnf
 obtain ⟨f,rfl⟩:=hf.lit;rw [hw];have hA:dx s x={ s with h:=jz s.h }:=by unfold dx;simp [hw]
 rw [hA] at hN;have c0:=(gN hp.fE.blk).1;have zg:=hp.fE.blk.lt;have HN:=dU hN;have HC:=dU (hp.fix);clear hN hp hf hA;go_wp2_with fail;refine (HC.out _ (Mod.refl _ _)).mono ?_;rintro e w1 ⟨ev,rfl,hr⟩;have HR:=dU hr;clear hr HC;go_wp2_with fail;show R _ _;exact HN.out _ _ ⟨rfl,rfl,rfl⟩ HR.out
theorem sw9(hp:iR w n c m gs g y xv vs s xb x)(fr:Act)(hf:oz fr gs xb (fK s x) (eP x) x.what)(hw:x.what=9):qG w n c gs g y xv vs (dx s x) fr:=by
 intro R hN
 conv=>arg 2;whnf
 obtain ⟨f,rfl⟩:=hf.lit;rw [hw];have hA:dx s x={ s with h:=jv s.h }:=by unfold dx;simp [hw]
 rw [hA] at hN;have c0:=(gN hp.fE.blk).1;have zg:=hp.fE.blk.lt;have HN:=dU hN;have HC:=dU (hp.tick);clear hN hp hf hA;go_wp2_with fail;refine (HC.out _ (Mod.refl _ _)).mono ?_;rintro e w1 ⟨ev,rfl,hr⟩;have HR:=dU hr;clear hr HC;go_wp2_with fail;show R _ _;exact HN.out _ _ ⟨rfl,rfl,rfl⟩ HR.out
theorem sw4(hp:iR w n c m gs g y xv vs s xb x)(fr:Act)(hf:oz fr gs xb (fK s x) (eP x) x.what)(hw:x.what=4):qG w n c gs g y xv vs (dx s x) fr:=by
 intro R hN
 conv=>arg 2;whnf
 obtain ⟨f,rfl⟩:=hf.lit;rw [hw];have hA:dx s x={ s with h:=(fa s.h (fK s x:Nat)).1 }:=by unfold dx;simp [hw]
 rw [hA] at hN;have c0:=(gN hp.fE.blk).1;have zg:=hp.fE.blk.lt;have HN:=dU hN;have HC:=dU (hp.end_ (fK s x:Nat));clear hN hp hf hA;go_wp2_with fail;refine (HC.out _ (Mod.refl _ _)).mono ?_;rintro e w1 ⟨ev,rfl,hr⟩;have HR:=dU hr;clear hr HC;go_wp2_with fail;show R _ _;exact HN.out _ _ ⟨rfl,rfl,rfl⟩ HR.out
theorem Vn(hp:iR w n c m gs g y xv vs s xb x)(fr:Act)(hf:oz fr gs xb (fK s x) (eP x) x.what)(hw:x.what=5)(ha:x.a.tmod 4=0):qG w n c gs g y xv vs (dx s x) fr:=by
 intro R hN
 conv=>arg 2;whnf
 obtain ⟨f,rfl⟩:=hf.lit;rw [hw];have hA:dx s x={ s with h:=(pC s.h (fK s x:Nat)).1 }:=by unfold dx;simp [hw,ha]
 rw [hA] at hN;have c0:=(gN hp.fE.blk).1;have zg:=hp.fE.blk.lt;have HN:=dU hN;have HC:=dU (hp.drop (fK s x:Nat));have x2:=hp.act.cell 2 rfl;have zx:=hp.act.lt;have hb:(x.a.tmod 4 == 0)=true:=by simpa using ha
 clear hN hp hf hA ha;go_wp2_with fail;refine (HC.out _ (Mod.refl _ _)).mono ?_;rintro e w1 ⟨ev,rfl,hr⟩;have HR:=dU hr;clear hr HC;go_wp2_with fail;show R _ _;exact HN.out _ _ ⟨rfl,rfl,rfl⟩ HR.out
theorem Vm(hp:iR w n c m gs g y xv vs s xb x)(fr:Act)(hf:oz fr gs xb (fK s x) (eP x) x.what)(hw:x.what=5)(ha:x.a.tmod 4≠0):qG w n c gs g y xv vs (dx s x) fr:=by
 intro R hN
 conv=>arg 2;whnf
 obtain ⟨f,rfl⟩:=hf.lit;rw [hw];have hA:dx s x=s:=by unfold dx;simp [hw,ha]
 rw [hA] at hN;have c0:=(gN hp.fE.blk).1;have zg:=hp.fE.blk.lt;have HN:=dU hN;have HR:=dU (fC.refl hp.fE (Mod.refl _ _));have x2:=hp.act.cell 2 rfl;have zx:=hp.act.lt;have hb:(x.a.tmod 4 == 0)=false:=by simpa using ha
 clear hN hp hf hA ha;go_wp2_with fail;show R _ _;exact HN.out _ _ ⟨rfl,rfl,rfl⟩ HR.out
theorem Vl(hp:iR w n c m gs g y xv vs s xb x)(fr:Act)(hf:oz fr gs xb (fK s x) (eP x) x.what)(hw:x.what=6)(ha:0<s.h.net.way.length):qG w n c gs g y xv vs (dx s x) fr:=by
 intro R hN
 conv=>arg 2;whnf
 obtain ⟨f,rfl⟩:=hf.lit;rw [hw];have hA:dx s x={ s with h:=im s.h (jb x.a s.h.net.way.length) }:=by unfold dx;simp [hw,ha]
 rw [hA] at hN;have c0:=(gN hp.fE.blk).1;have zg:=hp.fE.blk.lt;have HN:=dU hN;have HC:=dU (hp.fN (jb x.a s.h.net.way.length) (Aq _ _ ha));have HM:=dU hp.many;have fW:=hp.fE.house.net.few;have HP:Hid (∀ wq,Calls Tryz.prog 18 #[.int .i64 x.a,.int .i64 s.h.net.way.length] wq fun e w'=>e=.returned (.int .i64 (jb x.a s.h.net.way.length))/\w'=wq):=fun wq=>Bv x.a _ wq ha (by omega);have x2:=hp.act.cell 2 rfl;have x0:=hp.act.cell 0 rfl;rw [hw] at x0;have zx:=hp.act.lt;obtain ⟨wl,pL⟩:∃ z,z=s.h.net.way.length:=⟨_,rfl⟩;rw [<-pL] at ha HM HP HC fW HN;have hb:decide ((wl:Int) > 0)=true:=aQ (by omega);have hb2:(0:Int)<(wl:Int):=by omega
 obtain ⟨pk,hpk⟩:∃ z,z=jb x.a wl:=⟨_,rfl⟩;rw [<-hpk] at HP HC HN;clear hN hp hf hA pL hpk;go_wp2_with fail;refine (HM.out _ (Mod.refl _ _)).mono ?_;rintro e w1 ⟨rfl,rfl⟩;go_wp2_with fail;refine (HP.out _).mono ?_;rintro e w2 ⟨rfl,rfl⟩;go_wp2_with fail;refine (HC.out _ (Mod.refl _ _)).mono ?_;rintro e w3 ⟨ev,rfl,hr⟩;have HR:=dU hr;clear hr HC;go_wp2_with fail;show R _ _;exact HN.out _ _ ⟨rfl,rfl,rfl⟩ HR.out
theorem Vk(hp:iR w n c m gs g y xv vs s xb x)(fr:Act)(hf:oz fr gs xb (fK s x) (eP x) x.what)(hw:x.what=6)(ha:¬ 0<s.h.net.way.length):qG w n c gs g y xv vs (dx s x) fr:=by
 intro R hN
 conv=>arg 2;whnf
 obtain ⟨f,rfl⟩:=hf.lit;rw [hw];have hA:dx s x=s:=by unfold dx;simp [hw,ha]
 rw [hA] at hN;have c0:=(gN hp.fE.blk).1;have zg:=hp.fE.blk.lt;have HN:=dU hN;have HR:=dU (fC.refl hp.fE (Mod.refl _ _));have HM:=dU hp.many;obtain ⟨wl,pL⟩:∃ z,z=s.h.net.way.length:=⟨_,rfl⟩;rw [<-pL] at ha HM;obtain rfl:wl=0:=by omega
 clear hN hp hf hA pL ha;go_wp2_with fail;refine (HM.out _ (Mod.refl _ _)).mono ?_;rintro e w1 ⟨rfl,rfl⟩;go_wp2_with fail;show R _ _;exact HN.out _ _ ⟨rfl,rfl,rfl⟩ HR.out
theorem Vj(hp:iR w n c m gs g y xv vs s xb x)(fr:Act)(hf:oz fr gs xb (fK s x) (eP x) x.what)(hw:x.what=7)(ha:0<s.h.net.way.length):qG w n c gs g y xv vs (dx s x) fr:=by
 intro R hN
 conv=>arg 2;whnf
 obtain ⟨f,rfl⟩:=hf.lit;rw [hw];have hA:dx s x={ s with h:=(ob s.h (jb x.a s.h.net.way.length:Nat)).1 }:=by unfold dx;simp [hw,ha]
 rw [hA] at hN;have c0:=(gN hp.fE.blk).1;have zg:=hp.fE.blk.lt;have HN:=dU hN;have HC:=dU (hp.pj (jb x.a s.h.net.way.length));have HM:=dU hp.many;have fW:=hp.fE.house.net.few;have HP:Hid (∀ wq,Calls Tryz.prog 18 #[.int .i64 x.a,.int .i64 s.h.net.way.length] wq fun e w'=>e=.returned (.int .i64 (jb x.a s.h.net.way.length))/\w'=wq):=fun wq=>Bv x.a _ wq ha (by omega);have x2:=hp.act.cell 2 rfl;have x0:=hp.act.cell 0 rfl;rw [hw] at x0;have zx:=hp.act.lt;obtain ⟨wl,pL⟩:∃ z,z=s.h.net.way.length:=⟨_,rfl⟩;rw [<-pL] at ha HM HP HC fW HN;have hb:decide ((wl:Int) > 0)=true:=aQ (by omega);have hb2:(0:Int)<(wl:Int):=by omega
 obtain ⟨pk,hpk⟩:∃ z,z=jb x.a wl:=⟨_,rfl⟩;rw [<-hpk] at HP HC HN;clear hN hp hf hA pL hpk;go_wp2_with fail;refine (HM.out _ (Mod.refl _ _)).mono ?_;rintro e w1 ⟨rfl,rfl⟩;go_wp2_with fail;refine (HP.out _).mono ?_;rintro e w2 ⟨rfl,rfl⟩;go_wp2_with fail;refine (HC.out _ (Mod.refl _ _)).mono ?_;rintro e w3 ⟨ev,rfl,hr⟩;have HR:=dU hr;clear hr HC;go_wp2_with fail;show R _ _;exact HN.out _ _ ⟨rfl,rfl,rfl⟩ HR.out
theorem Vi(hp:iR w n c m gs g y xv vs s xb x)(fr:Act)(hf:oz fr gs xb (fK s x) (eP x) x.what)(hw:x.what=7)(ha:¬ 0<s.h.net.way.length):qG w n c gs g y xv vs (dx s x) fr:=by
 intro R hN
 conv=>arg 2;whnf
 obtain ⟨f,rfl⟩:=hf.lit;rw [hw];have hA:dx s x=s:=by unfold dx;simp [hw,ha]
 rw [hA] at hN;have c0:=(gN hp.fE.blk).1;have zg:=hp.fE.blk.lt;have HN:=dU hN;have HR:=dU (fC.refl hp.fE (Mod.refl _ _));have HM:=dU hp.many;obtain ⟨wl,pL⟩:∃ z,z=s.h.net.way.length:=⟨_,rfl⟩;rw [<-pL] at ha HM;obtain rfl:wl=0:=by omega
 clear hN hp hf hA pL ha;go_wp2_with fail;refine (HM.out _ (Mod.refl _ _)).mono ?_;rintro e w1 ⟨rfl,rfl⟩;go_wp2_with fail;show R _ _;exact HN.out _ _ ⟨rfl,rfl,rfl⟩ HR.out
theorem Vh(hp:iR w n c m gs g y xv vs s xb x)(fr:Act)(hf:oz fr gs xb (fK s x) (eP x) x.what)(hw:x.what=8)(ha:0<s.h.net.way.length):qG w n c gs g y xv vs (dx s x) fr:=by
 intro R hN
 conv=>arg 2;whnf
 obtain ⟨f,rfl⟩:=hf.lit;rw [hw];have hA:dx s x={ s with h:=(nD s.h (jb x.a s.h.net.way.length:Nat)).1 }:=by unfold dx;simp [hw,ha]
 rw [hA] at hN;have c0:=(gN hp.fE.blk).1;have zg:=hp.fE.blk.lt;have HN:=dU hN;have HC:=dU (hp.twice (jb x.a s.h.net.way.length));have HM:=dU hp.many;have fW:=hp.fE.house.net.few;have HP:Hid (∀ wq,Calls Tryz.prog 18 #[.int .i64 x.a,.int .i64 s.h.net.way.length] wq fun e w'=>e=.returned (.int .i64 (jb x.a s.h.net.way.length))/\w'=wq):=fun wq=>Bv x.a _ wq ha (by omega);have x2:=hp.act.cell 2 rfl;have x0:=hp.act.cell 0 rfl;rw [hw] at x0;have zx:=hp.act.lt;obtain ⟨wl,pL⟩:∃ z,z=s.h.net.way.length:=⟨_,rfl⟩;rw [<-pL] at ha HM HP HC fW HN;have hb:decide ((wl:Int) > 0)=true:=aQ (by omega);have hb2:(0:Int)<(wl:Int):=by omega
 obtain ⟨pk,hpk⟩:∃ z,z=jb x.a wl:=⟨_,rfl⟩;rw [<-hpk] at HP HC HN;clear hN hp hf hA pL hpk;go_wp2_with fail;refine (HM.out _ (Mod.refl _ _)).mono ?_;rintro e w1 ⟨rfl,rfl⟩;go_wp2_with fail;refine (HP.out _).mono ?_;rintro e w2 ⟨rfl,rfl⟩;go_wp2_with fail;refine (HC.out _ (Mod.refl _ _)).mono ?_;rintro e w3 ⟨ev,rfl,hr⟩;have HR:=dU hr;clear hr HC;go_wp2_with fail;show R _ _;exact HN.out _ _ ⟨rfl,rfl,rfl⟩ HR.out
theorem Vg(hp:iR w n c m gs g y xv vs s xb x)(fr:Act)(hf:oz fr gs xb (fK s x) (eP x) x.what)(hw:x.what=8)(ha:¬ 0<s.h.net.way.length):qG w n c gs g y xv vs (dx s x) fr:=by
 intro R hN
 conv=>arg 2;whnf
 obtain ⟨f,rfl⟩:=hf.lit;rw [hw];have hA:dx s x=s:=by unfold dx;simp [hw,ha]
 rw [hA] at hN;have c0:=(gN hp.fE.blk).1;have zg:=hp.fE.blk.lt;have HN:=dU hN;have HR:=dU (fC.refl hp.fE (Mod.refl _ _));have HM:=dU hp.many;obtain ⟨wl,pL⟩:∃ z,z=s.h.net.way.length:=⟨_,rfl⟩;rw [<-pL] at ha HM;obtain rfl:wl=0:=by omega
 clear hN hp hf hA pL ha;go_wp2_with fail;refine (HM.out _ (Mod.refl _ _)).mono ?_;rintro e w1 ⟨rfl,rfl⟩;go_wp2_with fail;show R _ _;exact HN.out _ _ ⟨rfl,rfl,rfl⟩ HR.out
theorem Vs(hp:iR w n c m gs g y xv vs s xb x)(fr:Act)(hf:oz fr gs xb (fK s x) (eP x) x.what)(hw:x.what=10):qG w n c gs g y xv vs (dx s x) fr:=by
 intro R hN
 conv=>arg 2;whnf
 obtain ⟨f,rfl⟩:=hf.lit;rw [hw];have hA:dx s x={ s with h:=yW s (jb x.a 3) (jb x.tx s.nodes) }:=by unfold dx;simp [hw]
 rw [hA] at hN;have c0:=(gN hp.fE.blk).1;have zg:=hp.fE.blk.lt;have HN:=dU hN;have hnd:=hp.ok.nodes;have HC:=dU (hp.fails (jb x.a 3) (jb x.tx s.nodes) (Aq _ _ (by omega)) (by have:=Aq x.tx s.nodes (by omega);omega));have HP:Hid (∀ wq,Calls Tryz.prog 18 #[.int .i64 x.a,.int .i64 3] wq fun e w'=>e=.returned (.int .i64 (jb x.a 3))/\w'=wq):=fun wq=>Bv x.a 3 wq (by omega) (by omega);have HT:Hid (∀ wq,Calls Tryz.prog 18 #[.int .i64 x.tx,.int .i64 s.nodes] wq fun e w'=>e=.returned (.int .i64 (jb x.tx s.nodes))/\w'=wq):=fun wq=>Bv x.tx _ wq (by omega) (by omega);have x1:=hp.act.cell 1 rfl;have x2:=hp.act.cell 2 rfl;have c4:=(gN hp.fE.blk).2.2.2.2;have zx:=hp.act.lt;obtain ⟨pa,Wy⟩:∃ z,z=jb x.a 3:=⟨_,rfl⟩;obtain ⟨pt,hpt⟩:∃ z,z=jb x.tx s.nodes:=⟨_,rfl⟩;rw [<-Wy,<-hpt] at HC HN;rw [<-Wy] at HP;rw [<-hpt] at HT;clear hN hp hf hA Wy hpt hnd;go_upto_region 43 with fail;refine wp_region_still_tail 11 (by kernel_rfl) (by kernel_rfl) ?_;simp only [aq,bg,bR,bx]
 repeat still_step
 still_call (HP.out _)
 repeat still_step
 still_call (HT.out _)
 repeat still_step
 refine wpStill_nil ?_;go_wp2_with fail;refine (HC.out _ ((Mod.refl _ _).drew)).mono ?_;rintro e w1 ⟨ev,rfl,hr⟩;have HR:=dU hr;clear hr HC;go_wp2_with fail;show R _ _;exact HN.out _ _ ⟨rfl,rfl,rfl⟩ HR.out
end
end Go.Proofs.YtmaiggbnceejiaaGreatDoor
