import Derived.Test.YtmaiggbnceejiaaGreatDoorS29
import Derived.StillTailTactics
set_option linter.unusedVariables false
set_option maxRecDepth 100000
set_option maxHeartbeats 16000000
namespace Go.Proofs.YtmaiggbnceejiaaGreatDoor
open Go.RowKit Go.Lib Go.Maps
def Bj(n:Nat):Code->Option Code
 | .region m ops d=>if m == n then some (.region m ops d) else none
 | .block _ c=>Bj n c
 | .loop c=>Bj n c
 | .seq a b=>match Bj n a with
  | some c=>some c
  | none=>Bj n b
 | .scope c=>Bj n c
 | .cond _ a b=>match Bj n a with
  | some c=>some c
  | none=>Bj n b
 | _=>none
def zS(R:Act->World->Prop):Exit->Act->World->Prop
 | .normal,a,wd=>R a wd
 | _,_,_=>False
theorem iz.put{fr:Act}{gs:Nat}(h:iz fr gs){d:Nat}(v:Value)(hd:d≠0):iz (fr.put (some d) v) gs:=
 ⟨by have:=h.sz;simpa [Act.put] using this,h.df,by have:=h.t0;simpa [Act.put,Array.getElem?_setIfInBounds,hd] using this⟩
theorem iz.Gp{fr:Act}{gs:Nat}(h:iz fr gs)(v:Value):iz (fr.put none v) gs:=h
theorem iz.ZJ{fr:Act}{gs:Nat}(h:iz fr gs):∃ hh:0<fr.tmps.size,fr.tmps[0]=.pointer (some ⟨gs,0,none⟩):=aG.1 h.t0
theorem Tryz.wQ:(Tryz.prog.info? 46).map (fun i=>(i.zero,i.size,i.bytes))=some (some (.agg #[.slice none 0 0,.int .i64 0,.int .i64 0]),3,40):=by kernel_rfl
theorem Tryz.wR:(Tryz.prog.info? 51).map (fun i=>(i.zero,i.size,i.bytes))=some (some (.agg #[.int .i64 0,.string ⟨#[]⟩,.string ⟨#[]⟩,.bool false]),4,48):=by kernel_rfl
theorem Tryz.zj:Tryz.prog.underlying 29=some (.slice 46):=by kernel_rfl
theorem Tryz.zm:Tryz.prog.underlying 44=some (.slice 51):=by kernel_rfl
theorem eZ.Cw{w w7:World}{n c gs g:Nat}{y:dY}{xv v7:Value}{vs:List Value}{s:eC}(h:eZ w n c gs g y xv vs s)(kr:n<=gs)(f e:Int)(hm:Mod (fun k=>xv.ownBlock=some k) w w7)
  (hown:ju 46 w7 n v7 (s.dW++[⟨[],f,e⟩]) (vs++[.slice none 0 0])) (hmv:∀ k,v7.ownBlock=some k->xv.ownBlock=some k\/w.heap.size<=k) :
  eh w n c gs g y xv vs { s with dW:=s.dW++[⟨[],f,e⟩] } (w7.setCell ⟨gs,1,none⟩ v7):=by
 refine ⟨y,v7,vs++[.slice none 0 0],h.Gq kr f e hm hown hmv,⟨?_,fun _ _=>rfl,fun k hk hs=>?_⟩⟩
 ·exact (hm.mono (fun _ _ e=>.inr (.inr (.inl e)))).trans ((Mod.dt gs 1 v7).mono (fun _ _ e=>.inr (.inl e)))
 ·rcases hs with rfl | hs | ⟨u,hu,hs⟩
  ·exact .inl rfl
  ·rcases hmv k hs with q | q
   ·exact .inr (.inl q)
   ·omega
  ·rcases aN.1 hu with q | q
   ·exact .inr (.inr ⟨u,q,hs⟩)
   ·rw [bU] at q;subst q;cases hs
theorem eZ.wK{w w7:World}{n c gs g xb cap:Nat}{y:dY}{vs:List Value}{s:eC}(h:eZ w n c gs g y (.slice (some ⟨xb,0,none⟩) s.dW.length cap) vs s)(kr:n<=gs){i:Nat}{t:eM}{u v7:Value}{o:fg}(hi:s.dW[i]?=some t)(hu:vs[i]?=some u)(hm:Mod (fun k=>u.ownBlock=some k) w w7)
  (hown:sK w7 n v7 (t.ops++[o])) (hmv:∀ k,v7.ownBlock=some k->u.ownBlock=some k\/w.heap.size<=k) :
  eh w n c gs g y (.slice (some ⟨xb,0,none⟩) s.dW.length cap) vs { s with dW:=s.dW.set i ⟨t.ops++[o],t.eF,t.fI⟩ } (w7.setCell ⟨xb,i*3,none⟩ v7):=by
 have uO:=aC hu;refine ⟨y,_,vs.set i v7,h.Gr kr hi hu hm hown hmv,⟨?_,fun _ _=>rfl,fun k hk hs=>?_⟩⟩
 ·exact (hm.mono (fun _ _ e=>.inr (.inr (.inr ⟨u,uO,e⟩)))).trans ((Mod.dt xb _ v7).mono (fun k _ e=>.inr (.inr (.inl (ai some (Eq.symm e))))))
 ·rcases hs with rfl | hs | ⟨v,hv,hs⟩
  ·exact .inl rfl
  ·exact .inr (.inl hs)
  ·rcases bQ hv with q | q
   ·exact .inr (.inr ⟨v,q,hs⟩)
   ·subst q;rcases hmv k hs with r | r
    ·exact .inr (.inr ⟨u,uO,r⟩)
    ·omega
theorem Mx(n c gs g:Nat)(y:dY)(xv:Value)(vs:List Value)(s:eC)(w:World)(h:eZ w n c gs g y xv vs s)(kr:n<=gs)(hl:s.dW.length<=100)(fr:Act)(hf:iz fr gs){R:Act->World->Prop}
  (hN:∀ fr' wd,iz fr' gs->eh w n c gs g y xv vs { s with dW:=s.dW++[⟨[],s.now,-1⟩] } wd->R fr' wd) :
  Code.wp Tryz.prog ((Tryz.f10.body.bind (Bj 11)).getD .skip) (zS R) fr w:=by
 conv=>arg 2;whnf
 obtain ⟨i0,hpi,hz0,hz1,hz2⟩:=info_parts Tryz.wQ;obtain ⟨xa,fF,hxv⟩:=eu h.row.2;obtain ⟨-,c1,c2,-,-⟩:=gu h.blk;have f1:=h.blk.frozen 1;have zg:=h.blk.lt;have hrow:=h.row.2;rw [hxv] at c1 hrow;have yw:n<=w.heap.size:=by omega
 have hrow3:((w.alloc (.cells #[.slice none 0 0,.int .i64 s.now,.int .i64 (-1)] 46)).drew).ownsRow n 46 3 (.slice xa s.dW.length fF) s.dW.length (nj s.dW vs):=fm hrow (((Mod.refl dZ w).alloc _).drew) (fun _ _ _ _ e=>e);obtain ⟨v7,w7,gg,eJ,eS,qC,iq⟩:=run_append_own_at (P:=Tryz.prog) _ n 29 29 46 i0 _ 3 40 Tryz.zj hpi hz0 hz1 hz2 rfl (by omega) _ _ _ hrow3 ⟨w.heap.size,0,none⟩ 1 1 (sU ⟨[],s.now,-1⟩ (.slice none 0 0)) rfl (World.news_of_block (heap_alloc_new w _)) (fun u hu=>by simp [sU] at hu;rcases hu with rfl | rfl | rfl <;> rfl) (by unfold maxLen;omega) (by omega) (by show n<=(w.alloc _).heap.size;rw [World.size_alloc];omega);obtain ⟨a7,fE,py⟩:=eu eJ;subst py;have fj:Mod (fun k=>(Value.slice xa s.dW.length fF).ownBlock=some k) w w7:=(((Mod.refl _ w).alloc _).drew).grown eS (fun x hx _=>hx);have hnb:(Value.slice xa s.dW.length fF).ownBlock≠some gs:=oP hrow h.blk (by decide);have c17:=fj.cell c1 hnb;have c27:=fj.cell c2 hnb;have f7:=(fj.frozen (p:=⟨gs,1,none⟩) zg hnb).trans f1;have zb7:=aH zg fj.size;have tq:Hid (eh w n c gs g y xv vs { s with dW:=s.dW++[⟨[],s.now,-1⟩] } (w7.setCell ⟨gs,1,none⟩ (.slice a7 (s.dW.length+1) fE))):=by
  refine h.Cw kr s.now (-1) (by rw [hxv];exact fj) ⟨by simp [h.row.1],?_⟩ (fun k hk=>?_)
  ·rw [Uz _ _ _ _ h.row.1,aD];exact eJ
  ·rw [hxv];rcases iq with q | q
   ·exact .inl (by rw [<-q];exact hk)
   ·rw [q] at hk;simp only [ae] at hk;have:(w.alloc (.cells #[.slice none 0 0,.int .i64 s.now,.int .i64 (-1)] 46)).drew.heap.size=w.heap.size+1:=World.size_alloc _ _;omega
 have hsz:=hf.sz;obtain ⟨_,t0⟩:=hf.ZJ;have HF:=dV hf;have HN:=dV hN;have qW:Mod dZ w (w.alloc (.cells #[.slice none 0 0,.int .i64 s.now,.int .i64 (-1)] 46)).drew:=((Mod.refl dZ w).alloc _).drew;have HC:Hid (w.drew.cell? ⟨gs,1,none⟩=some (.slice xa s.dW.length fF)/\w.drew.cell? ⟨gs,2,none⟩=some (.int .i64 s.now)):=⟨c1,c2⟩;have xE:Hid ((w.alloc (.cells #[.slice none 0 0,.int .i64 s.now,.int .i64 (-1)] 46)).drew.cell? ⟨gs,1,none⟩=some (.slice xa s.dW.length fF)/\(w.alloc (.cells #[.slice none 0 0,.int .i64 s.now,.int .i64 (-1)] 46)).drew.cell? ⟨gs,2,none⟩=some (.int .i64 s.now)):=⟨qW.cell c1 (fun e=>e),qW.cell c2 (fun e=>e)⟩;have rK:Hid (w7.cell? ⟨gs,1,none⟩=some (.slice xa s.dW.length fF)/\w7.cell? ⟨gs,2,none⟩=some (.int .i64 s.now)):=⟨c17,c27⟩;clear h hf hN hrow hrow3 eJ iq qC qW c1 c2 fj;refine EZ 14 (fun wq=>wq.cell? ⟨gs,1,none⟩=some (.slice xa s.dW.length fF)/\wq.cell? ⟨gs,2,none⟩=some (.int .i64 s.now)) rfl ?_;refine fT 14 0 75 (.pointer (some ⟨gs,0,none⟩)) rfl rfl (fun c a w h=>h) HC.out ⟨by rfl,fun wq hq=>by obtain ⟨q0,q1⟩:=hq;go_simp⟩ ?_;refine fT 14 1 76 (.pointer (some ⟨gs,0,none⟩)) rfl rfl (fun c a w h=>h) HC.out ⟨by rfl,fun wq hq=>by obtain ⟨q0,q1⟩:=hq;go_simp⟩ ?_;refine fT 14 2 77 (.pointer (some ⟨gs,0,none⟩)) rfl rfl (fun c a w h=>h) HC.out ⟨by rfl,fun wq hq=>by obtain ⟨q0,q1⟩:=hq;go_simp⟩ ?_;refine fT 14 3 78 (.pointer (some ⟨gs,1,none⟩)) rfl rfl (fun c a w h=>h) HC.out ⟨by rfl,fun wq hq=>by obtain ⟨q0,q1⟩:=hq;go_simp⟩ ?_;refine fT 14 4 79 (.slice xa s.dW.length fF) rfl rfl (fun c a w h=>h) HC.out ⟨by rfl,fun wq hq=>by obtain ⟨q0,q1⟩:=hq;go_simp⟩ ?_;refine fT 14 5 80 (.pointer (some ⟨gs,0,none⟩)) rfl rfl (fun c a w h=>h) HC.out ⟨by rfl,fun wq hq=>by obtain ⟨q0,q1⟩:=hq;go_simp⟩ ?_;refine fT 14 6 81 (.pointer (some ⟨gs,0,none⟩)) rfl rfl (fun c a w h=>h) HC.out ⟨by rfl,fun wq hq=>by obtain ⟨q0,q1⟩:=hq;go_simp⟩ ?_;refine fT 14 7 82 (.pointer (some ⟨gs,2,none⟩)) rfl rfl (fun c a w h=>h) HC.out ⟨by rfl,fun wq hq=>by obtain ⟨q0,q1⟩:=hq;go_simp⟩ ?_;refine fT 14 8 83 (.int .i64 s.now) rfl rfl (fun c a w h=>h) HC.out ⟨by rfl,fun wq hq=>by obtain ⟨q0,q1⟩:=hq;go_simp⟩ ?_;refine fT 14 9 84 (.agg #[.slice none 0 0,.int .i64 s.now,.int .i64 (-1)]) rfl rfl (fun c a w h=>h) HC.out ⟨by rfl,fun wq hq=>by obtain ⟨q0,q1⟩:=hq;go_simp⟩ ?_;refine jW 14 10 85 rfl rfl (by kernel_rfl) rfl (v:=.slice (some ⟨w.heap.size,0,none⟩) 1 1) (w':=(w.alloc (.cells #[.slice none 0 0,.int .i64 s.now,.int .i64 (-1)] 46)).drew) (by go_simp) xE.out ?_;refine jW 14 11 86 rfl rfl (by kernel_rfl) rfl (v:=.slice a7 (s.dW.length+1) fE) (w':=w7) (ze (s:=.tmp 79) (x:=.tmp 85) (t:=29) rfl (by go_simp) (by go_simp) gg) rK.out ?_;refine jW 14 12 87 rfl rfl (by kernel_rfl) rfl (v:=.pointer (some ⟨gs,0,none⟩)) (w':=w7) (by go_simp) rK.out ?_;refine jW 14 13 88 rfl rfl (by kernel_rfl) rfl (v:=.pointer (some ⟨gs,1,none⟩)) (w':=w7) (by go_simp) rK.out ?_;refine KG 14 rfl (by kernel_rfl) rfl (w':=w7.setCell ⟨gs,1,none⟩ (.slice a7 (s.dW.length+1) fE)) (by go_simp) ?_;refine ⟨by kernel_rfl,?_⟩;show R _ _;refine HN.out _ _ ?_ tq.out;refine iz.Gp ?_ _
 repeat (refine iz.put ?_ _ (by decide))
 exact HF.out
theorem Mw(n c gs g xb fF i:Nat)(id:Int)(key val:ByteArray)(fd:Bool)(t:eM)(y:dY)(vs:List Value)(s:eC)(w:World)(h:eZ w n c gs g y (.slice (some ⟨xb,0,none⟩) s.dW.length fF) vs s)(kr:n<=gs)(hi:s.dW[i]?=some t)(hid:id=(i:Int)+1)(hsm:s.dW.length<=100)(hl:t.ops.length<=1000)(fr:Act)(hf:iz fr gs)(t4:fr.tmps[4]?=some (.int .i64 id))(t5:fr.tmps[5]?=some (.string key))(t8:fr.tmps[8]?=some (.string val))(t9:fr.tmps[9]?=some (.bool fd)){R:Act->World->Prop}
  (hN:∀ fr' wd,iz fr' gs->eh w n c gs g y (.slice (some ⟨xb,0,none⟩) s.dW.length fF) vs { s with dW:=s.dW.set i ⟨t.ops++[⟨1,key,val,fd⟩],t.eF,t.fI⟩ } wd->R fr' wd) :
  Code.wp Tryz.prog ((Tryz.f10.body.bind (Bj 15)).getD .skip) (zS R) fr w:=by
 conv=>arg 2;whnf
 obtain ⟨i0,hpi,hz0,hz1,hz2⟩:=info_parts Tryz.wR;have hil:=(aB.1 hi).1;obtain ⟨u,hu⟩:∃ u,vs[i]?=some u:=⟨_,aA (by rw [h.row.1];exact hil)⟩;have uO:=aC hu;have hrow:w.ownsRow n 51 4 u t.ops.length (ug t.ops):=h.ops i t u hi hu;obtain ⟨ua,dp,Wx⟩:=eu hrow;subst Wx;obtain ⟨-,c1,-,-,-⟩:=gu h.blk;have cx:w.cell? ⟨xb,i*3,none⟩=some (.slice ua t.ops.length dp):=by
  have:=h.row.2.cells (g:=xb) rfl _ _ (Ec s.dW vs i t _ h.row.1 hi hu 0 _ rfl);rw [Go.WideShapes.add_plain,aX,bG] at this;exact this
 have hx:(Value.slice (some ⟨xb,0,none⟩) s.dW.length fF).ownBlock=some xb:=rfl;obtain ⟨_,zx,cur,ty,fr0,Ke,_,q1,q2,q3⟩:=h.cells kr (k:=xb) (.inr (.inl hx));have fx:w.frozen? ⟨xb,i*3,none⟩=false:=by
  obtain ⟨_,_,cur',hc'⟩:=fW h.row.2 hx;simp [World.frozen?,hc']
 have zg:=h.blk.lt;have yw:n<=w.heap.size:=by omega
 have hrow3:((w.alloc (.cells #[.int .i64 1,.string key,.string val,.bool fd] 51)).drew).ownsRow n 51 4 (.slice ua t.ops.length dp) t.ops.length (ug t.ops):=fm hrow (((Mod.refl dZ w).alloc _).drew) (fun _ _ _ _ e=>e);obtain ⟨v7,w7,gg,eJ,eS,qC,iq⟩:=run_append_own_at (P:=Tryz.prog) _ n 44 44 51 i0 _ 4 48 Tryz.zm hpi hz0 hz1 hz2 rfl (by omega) _ _ _ hrow3 ⟨w.heap.size,0,none⟩ 1 1 (Bh ⟨1,key,val,fd⟩) rfl (World.news_of_block (heap_alloc_new w _)) (fun u hu=>by simp [Bh] at hu;rcases hu with rfl | rfl | rfl | rfl <;> rfl) (by unfold maxLen;omega) (by omega) (by show n<=(w.alloc _).heap.size;rw [World.size_alloc];omega);obtain ⟨a7,fE,py⟩:=eu eJ;subst py;have fj:Mod (fun k=>(Value.slice ua t.ops.length dp).ownBlock=some k) w w7:=(((Mod.refl _ w).alloc _).drew).grown eS (fun x hx _=>hx);have hnb:(Value.slice ua t.ops.length dp).ownBlock≠some gs:=oP hrow h.blk (by decide);have hnx:(Value.slice ua t.ops.length dp).ownBlock≠some xb:=fun e=>by
  have:=(q1 hx).symm.trans (q3 ⟨_,uO,e⟩);exact absurd this (by decide)
 have c17:=fj.cell c1 hnb;have ZC:=fj.cell cx hnx;have fx7:=(fj.frozen (p:=⟨xb,i*3,none⟩) zx hnx).trans fx;have zx7:=aH zx fj.size;have tq:Hid (eh w n c gs g y (.slice (some ⟨xb,0,none⟩) s.dW.length fF) vs { s with dW:=s.dW.set i ⟨t.ops++[⟨1,key,val,fd⟩],t.eF,t.fI⟩ } (w7.setCell ⟨xb,i*3,none⟩ (.slice a7 (t.ops.length+1) fE))):=by
  refine h.wK kr hi hu fj ?_ (fun k hk=>?_)
  ·unfold sK;rw [Ux,aD];exact eJ
  ·rcases iq with q | q
   ·exact .inl (by rw [<-q];exact hk)
   ·rw [q] at hk;simp only [ae] at hk;have:((w.alloc (.cells #[.int .i64 1,.string key,.string val,.bool fd] 51)).drew).heap.size=w.heap.size+1:=World.size_alloc _ _;omega
 have hsz:=hf.sz;obtain ⟨_,t0⟩:=hf.ZJ;obtain ⟨_,t4⟩:=aG.1 t4;obtain ⟨_,t5⟩:=aG.1 t5;obtain ⟨_,t8⟩:=aG.1 t8;obtain ⟨_,t9⟩:=aG.1 t9;have HF:=dV hf;have HN:=dV hN;have qW:Mod dZ w (w.alloc (.cells #[.int .i64 1,.string key,.string val,.bool fd] 51)).drew:=((Mod.refl dZ w).alloc _).drew;have ew:wrap64 (id - 1)=(i:Int):=by rw [hid,show (i:Int)+1 - 1=(i:Int) by omega];exact IntWalk.wrap64_in _ ⟨by omega,by omega⟩
 have Sk:IntKind.i64.wrap (id - 1)=(i:Int):=by rw [hid,show (i:Int)+1 - 1=(i:Int) by omega];exact IntWalk.i64_in _ ⟨by omega,by omega⟩
 have xw:(i:Int)<(s.dW.length:Int):=by omega
 have hi0:(0:Int)<=(i:Int):=by omega
 have HC:Hid (w.drew.cell? ⟨gs,1,none⟩=some (.slice (some ⟨xb,0,none⟩) s.dW.length fF)/\w.drew.cell? ⟨xb,i*3,none⟩=some (.slice ua t.ops.length dp)):=⟨c1,cx⟩;have xE:Hid ((w.alloc (.cells #[.int .i64 1,.string key,.string val,.bool fd] 51)).drew.cell? ⟨gs,1,none⟩=some (.slice (some ⟨xb,0,none⟩) s.dW.length fF)/\(w.alloc (.cells #[.int .i64 1,.string key,.string val,.bool fd] 51)).drew.cell? ⟨xb,i*3,none⟩=some (.slice ua t.ops.length dp)):=⟨qW.cell c1 (fun e=>e),qW.cell cx (fun e=>e)⟩;have rK:Hid (w7.cell? ⟨gs,1,none⟩=some (.slice (some ⟨xb,0,none⟩) s.dW.length fF)/\w7.cell? ⟨xb,i*3,none⟩=some (.slice ua t.ops.length dp)):=⟨c17,ZC⟩;clear h hf hN hrow hrow3 eJ iq qC qW c1 cx fj hid q1 q2 q3 hu uO hi Ke hx;refine EZ 23 (fun wq=>wq.cell? ⟨gs,1,none⟩=some (.slice (some ⟨xb,0,none⟩) s.dW.length fF)/\wq.cell? ⟨xb,i*3,none⟩=some (.slice ua t.ops.length dp)) rfl ?_;refine fT 23 0 108 (.pointer (some ⟨gs,0,none⟩)) rfl rfl (fun c a w h=>h) HC.out ⟨by rfl,fun wq hq=>by obtain ⟨q0,q1⟩:=hq;go_simp⟩ ?_;refine fT 23 1 109 (.pointer (some ⟨gs,0,none⟩)) rfl rfl (fun c a w h=>h) HC.out ⟨by rfl,fun wq hq=>by obtain ⟨q0,q1⟩:=hq;go_simp⟩ ?_;refine fT 23 2 110 (.pointer (some ⟨gs,1,none⟩)) rfl rfl (fun c a w h=>h) HC.out ⟨by rfl,fun wq hq=>by obtain ⟨q0,q1⟩:=hq;go_simp⟩ ?_;refine fT 23 3 111 (.slice (some ⟨xb,0,none⟩) s.dW.length fF) rfl rfl (fun c a w h=>h) HC.out ⟨by rfl,fun wq hq=>by obtain ⟨q0,q1⟩:=hq;go_simp⟩ ?_;refine fT 23 4 112 (.int .i64 id) rfl rfl (fun c a w h=>h) HC.out ⟨by rfl,fun wq hq=>by obtain ⟨q0,q1⟩:=hq;go_simp⟩ ?_;refine fT 23 5 113 (.int .i64 i) rfl rfl (fun c a w h=>h) HC.out ⟨by rfl,fun wq hq=>by obtain ⟨q0,q1⟩:=hq;go_simp⟩ ?_;refine fT 23 6 114 (.pointer (some ⟨gs,0,none⟩)) rfl rfl (fun c a w h=>h) HC.out ⟨by rfl,fun wq hq=>by obtain ⟨q0,q1⟩:=hq;go_simp⟩ ?_;refine fT 23 7 115 (.pointer (some ⟨gs,0,none⟩)) rfl rfl (fun c a w h=>h) HC.out ⟨by rfl,fun wq hq=>by obtain ⟨q0,q1⟩:=hq;go_simp⟩ ?_;refine fT 23 8 116 (.pointer (some ⟨gs,1,none⟩)) rfl rfl (fun c a w h=>h) HC.out ⟨by rfl,fun wq hq=>by obtain ⟨q0,q1⟩:=hq;go_simp⟩ ?_;refine fT 23 9 117 (.slice (some ⟨xb,0,none⟩) s.dW.length fF) rfl rfl (fun c a w h=>h) HC.out ⟨by rfl,fun wq hq=>by obtain ⟨q0,q1⟩:=hq;go_simp⟩ ?_;refine fT 23 10 118 (.int .i64 id) rfl rfl (fun c a w h=>h) HC.out ⟨by rfl,fun wq hq=>by obtain ⟨q0,q1⟩:=hq;go_simp⟩ ?_;refine fT 23 11 119 (.int .i64 i) rfl rfl (fun c a w h=>h) HC.out ⟨by rfl,fun wq hq=>by obtain ⟨q0,q1⟩:=hq;go_simp⟩ ?_;refine fT 23 12 120 (.pointer (some ⟨xb,i*3,none⟩)) rfl rfl (fun c a w h=>h) HC.out ⟨by rfl,fun wq hq=>by obtain ⟨q0,q1⟩:=hq;go_simp⟩ ?_;refine fT 23 13 121 (.pointer (some ⟨xb,i*3,none⟩)) rfl rfl (fun c a w h=>h) HC.out ⟨by rfl,fun wq hq=>by obtain ⟨q0,q1⟩:=hq;go_simp⟩ ?_;refine fT 23 14 122 (.slice ua t.ops.length dp) rfl rfl (fun c a w h=>h) HC.out ⟨by rfl,fun wq hq=>by obtain ⟨q0,q1⟩:=hq;go_simp⟩ ?_;refine fT 23 15 123 (.string key) rfl rfl (fun c a w h=>h) HC.out ⟨by rfl,fun wq hq=>by obtain ⟨q0,q1⟩:=hq;go_simp⟩ ?_;refine fT 23 16 124 (.string val) rfl rfl (fun c a w h=>h) HC.out ⟨by rfl,fun wq hq=>by obtain ⟨q0,q1⟩:=hq;go_simp⟩ ?_;refine fT 23 17 125 (.bool fd) rfl rfl (fun c a w h=>h) HC.out ⟨by rfl,fun wq hq=>by obtain ⟨q0,q1⟩:=hq;go_simp⟩ ?_;refine fT 23 18 126 (.agg #[.int .i64 1,.string key,.string val,.bool fd]) rfl rfl (fun c a w h=>h) HC.out ⟨by rfl,fun wq hq=>by obtain ⟨q0,q1⟩:=hq;go_simp⟩ ?_;refine jW 23 19 127 rfl rfl (by kernel_rfl) rfl (v:=.slice (some ⟨w.heap.size,0,none⟩) 1 1) (w':=(w.alloc (.cells #[.int .i64 1,.string key,.string val,.bool fd] 51)).drew) (by go_simp) xE.out ?_;refine jW 23 20 128 rfl rfl (by kernel_rfl) rfl (v:=.slice a7 (t.ops.length+1) fE) (w':=w7) (ze (s:=.tmp 122) (x:=.tmp 127) (t:=44) rfl (by go_simp) (by go_simp) gg) rK.out ?_;refine jW 23 21 129 rfl rfl (by kernel_rfl) rfl (v:=.pointer (some ⟨xb,i*3,none⟩)) (w':=w7) (by go_simp) rK.out ?_;refine jW 23 22 130 rfl rfl (by kernel_rfl) rfl (v:=.pointer (some ⟨xb,i*3,none⟩)) (w':=w7) (by go_simp) rK.out ?_;refine KG 23 rfl (by kernel_rfl) rfl (w':=w7.setCell ⟨xb,i*3,none⟩ (.slice a7 (t.ops.length+1) fE)) (by go_simp) ?_;refine ⟨by kernel_rfl,?_⟩;show R _ _;refine HN.out _ _ ?_ tq.out;refine iz.Gp ?_ _
 repeat (refine iz.put ?_ _ (by decide))
 exact HF.out
theorem Ex(n c gs g xb fF i:Nat)(id:Int)(key val:ByteArray)(t:eM)(y:dY)(vs:List Value)(s:eC)(w:World)(h:eZ w n c gs g y (.slice (some ⟨xb,0,none⟩) s.dW.length fF) vs s)(kr:n<=gs)(hi:s.dW[i]?=some t)(hid:id=(i:Int)+1)(hsm:s.dW.length<=100)(hl:t.ops.length<=1000)(ab pb:Nat)(what:Int)(ha:w.cell? ⟨ab,0,none⟩=some (.int .i64 what))(hp:w.cell? ⟨pb,1,none⟩=some (.string val))(pD:∀ u∈vs,u.ownBlock≠some ab)(hnp:∀ u∈vs,u.ownBlock≠some pb)(fr:Act)(hf:iz fr gs)(t4:fr.tmps[4]?=some (.int .i64 id))(t5:fr.tmps[5]?=some (.string key))(t3:fr.tmps[3]?=some (.pointer (some ⟨ab,0,none⟩)))(t11:fr.tmps[11]?=some (.pointer (some ⟨pb,0,none⟩))){R:Act->World->Prop}
  (hN:∀ fr' wd,iz fr' gs->eh w n c gs g y (.slice (some ⟨xb,0,none⟩) s.dW.length fF) vs { s with dW:=s.dW.set i ⟨t.ops++[⟨what,key,val,false⟩],t.eF,t.fI⟩ } wd->R fr' wd) :
  Code.wp Tryz.prog ((Tryz.f10.body.bind (Bj 22)).getD .skip) (zS R) fr w:=by
 conv=>arg 2;whnf
 obtain ⟨i0,hpi,hz0,hz1,hz2⟩:=info_parts Tryz.wR;have hil:=(aB.1 hi).1;obtain ⟨u,hu⟩:∃ u,vs[i]?=some u:=⟨_,aA (by rw [h.row.1];exact hil)⟩;have uO:=aC hu;have hrow:w.ownsRow n 51 4 u t.ops.length (ug t.ops):=h.ops i t u hi hu;obtain ⟨ua,dp,Wx⟩:=eu hrow;subst Wx;obtain ⟨-,c1,-,-,-⟩:=gu h.blk;have cx:w.cell? ⟨xb,i*3,none⟩=some (.slice ua t.ops.length dp):=by
  have:=h.row.2.cells (g:=xb) rfl _ _ (Ec s.dW vs i t _ h.row.1 hi hu 0 _ rfl);rw [Go.WideShapes.add_plain,aX,bG] at this;exact this
 have hx:(Value.slice (some ⟨xb,0,none⟩) s.dW.length fF).ownBlock=some xb:=rfl;obtain ⟨_,zx,cur,ty,fr0,Ke,_,q1,q2,q3⟩:=h.cells kr (k:=xb) (.inr (.inl hx));have fx:w.frozen? ⟨xb,i*3,none⟩=false:=by
  obtain ⟨_,_,cur',hc'⟩:=fW h.row.2 hx;simp [World.frozen?,hc']
 have zg:=h.blk.lt;have yw:n<=w.heap.size:=by omega
 have hrow3:((w.alloc (.cells #[.int .i64 what,.string key,.string val,.bool false] 51)).drew).ownsRow n 51 4 (.slice ua t.ops.length dp) t.ops.length (ug t.ops):=fm hrow (((Mod.refl dZ w).alloc _).drew) (fun _ _ _ _ e=>e);obtain ⟨v7,w7,gg,eJ,eS,qC,iq⟩:=run_append_own_at (P:=Tryz.prog) _ n 44 44 51 i0 _ 4 48 Tryz.zm hpi hz0 hz1 hz2 rfl (by omega) _ _ _ hrow3 ⟨w.heap.size,0,none⟩ 1 1 (Bh ⟨what,key,val,false⟩) rfl (World.news_of_block (heap_alloc_new w _)) (fun u hu=>by simp [Bh] at hu;rcases hu with rfl | rfl | rfl | rfl <;> rfl) (by unfold maxLen;omega) (by omega) (by show n<=(w.alloc _).heap.size;rw [World.size_alloc];omega);obtain ⟨a7,fE,py⟩:=eu eJ;subst py;have fj:Mod (fun k=>(Value.slice ua t.ops.length dp).ownBlock=some k) w w7:=(((Mod.refl _ w).alloc _).drew).grown eS (fun x hx _=>hx);have hnb:(Value.slice ua t.ops.length dp).ownBlock≠some gs:=oP hrow h.blk (by decide);have hnx:(Value.slice ua t.ops.length dp).ownBlock≠some xb:=fun e=>by
  have:=(q1 hx).symm.trans (q3 ⟨_,uO,e⟩);exact absurd this (by decide)
 have c17:=fj.cell c1 hnb;have ZC:=fj.cell cx hnx;have fx7:=(fj.frozen (p:=⟨xb,i*3,none⟩) zx hnx).trans fx;have zx7:=aH zx fj.size;have tq:Hid (eh w n c gs g y (.slice (some ⟨xb,0,none⟩) s.dW.length fF) vs { s with dW:=s.dW.set i ⟨t.ops++[⟨what,key,val,false⟩],t.eF,t.fI⟩ } (w7.setCell ⟨xb,i*3,none⟩ (.slice a7 (t.ops.length+1) fE))):=by
  refine h.wK kr hi hu fj ?_ (fun k hk=>?_)
  ·unfold sK;rw [Ux,aD];exact eJ
  ·rcases iq with q | q
   ·exact .inl (by rw [<-q];exact hk)
   ·rw [q] at hk;simp only [ae] at hk;have:((w.alloc (.cells #[.int .i64 what,.string key,.string val,.bool false] 51)).drew).heap.size=w.heap.size+1:=World.size_alloc _ _;omega
 have hsz:=hf.sz;obtain ⟨_,t0⟩:=hf.ZJ;obtain ⟨_,t4⟩:=aG.1 t4;obtain ⟨_,t5⟩:=aG.1 t5;obtain ⟨_,t3⟩:=aG.1 t3;obtain ⟨_,t11⟩:=aG.1 t11;have ca7:=fj.cell ha (pD _ uO);have cp7:=fj.cell hp (hnp _ uO);have HF:=dV hf;have HN:=dV hN;have qW:Mod dZ w (w.alloc (.cells #[.int .i64 what,.string key,.string val,.bool false] 51)).drew:=((Mod.refl dZ w).alloc _).drew;have ew:wrap64 (id - 1)=(i:Int):=by rw [hid,show (i:Int)+1 - 1=(i:Int) by omega];exact IntWalk.wrap64_in _ ⟨by omega,by omega⟩
 have Sk:IntKind.i64.wrap (id - 1)=(i:Int):=by rw [hid,show (i:Int)+1 - 1=(i:Int) by omega];exact IntWalk.i64_in _ ⟨by omega,by omega⟩
 have xw:(i:Int)<(s.dW.length:Int):=by omega
 have hi0:(0:Int)<=(i:Int):=by omega
 have HC:Hid (w.drew.cell? ⟨gs,1,none⟩=some (.slice (some ⟨xb,0,none⟩) s.dW.length fF)/\w.drew.cell? ⟨xb,i*3,none⟩=some (.slice ua t.ops.length dp)/\w.drew.cell? ⟨ab,0,none⟩=some (.int .i64 what)/\w.drew.cell? ⟨pb,1,none⟩=some (.string val)):=⟨c1,cx,ha,hp⟩;have xE:Hid ((w.alloc (.cells #[.int .i64 what,.string key,.string val,.bool false] 51)).drew.cell? ⟨gs,1,none⟩=some (.slice (some ⟨xb,0,none⟩) s.dW.length fF)/\(w.alloc (.cells #[.int .i64 what,.string key,.string val,.bool false] 51)).drew.cell? ⟨xb,i*3,none⟩=some (.slice ua t.ops.length dp)/\(w.alloc (.cells #[.int .i64 what,.string key,.string val,.bool false] 51)).drew.cell? ⟨ab,0,none⟩=some (.int .i64 what)/\(w.alloc (.cells #[.int .i64 what,.string key,.string val,.bool false] 51)).drew.cell? ⟨pb,1,none⟩=some (.string val)):=⟨qW.cell c1 (fun e=>e),qW.cell cx (fun e=>e),qW.cell ha (fun e=>e),qW.cell hp (fun e=>e)⟩;have rK:Hid (w7.cell? ⟨gs,1,none⟩=some (.slice (some ⟨xb,0,none⟩) s.dW.length fF)/\w7.cell? ⟨xb,i*3,none⟩=some (.slice ua t.ops.length dp)/\w7.cell? ⟨ab,0,none⟩=some (.int .i64 what)/\w7.cell? ⟨pb,1,none⟩=some (.string val)):=⟨c17,ZC,ca7,cp7⟩;clear h hf hN hrow hrow3 eJ iq qC qW c1 cx fj hid q1 q2 q3 hu uO hi Ke hx ha hp pD hnp;refine EZ 25 (fun wq=>wq.cell? ⟨gs,1,none⟩=some (.slice (some ⟨xb,0,none⟩) s.dW.length fF)/\wq.cell? ⟨xb,i*3,none⟩=some (.slice ua t.ops.length dp)/\wq.cell? ⟨ab,0,none⟩=some (.int .i64 what)/\wq.cell? ⟨pb,1,none⟩=some (.string val)) rfl ?_;refine fT 25 0 161 (.pointer (some ⟨gs,0,none⟩)) rfl rfl (fun c a w h=>h) HC.out ⟨by rfl,fun wq hq=>by obtain ⟨q0,q1,q2,q3⟩:=hq;go_simp⟩ ?_;refine fT 25 1 162 (.pointer (some ⟨gs,0,none⟩)) rfl rfl (fun c a w h=>h) HC.out ⟨by rfl,fun wq hq=>by obtain ⟨q0,q1,q2,q3⟩:=hq;go_simp⟩ ?_;refine fT 25 2 163 (.pointer (some ⟨gs,1,none⟩)) rfl rfl (fun c a w h=>h) HC.out ⟨by rfl,fun wq hq=>by obtain ⟨q0,q1,q2,q3⟩:=hq;go_simp⟩ ?_;refine fT 25 3 164 (.slice (some ⟨xb,0,none⟩) s.dW.length fF) rfl rfl (fun c a w h=>h) HC.out ⟨by rfl,fun wq hq=>by obtain ⟨q0,q1,q2,q3⟩:=hq;go_simp⟩ ?_;refine fT 25 4 165 (.int .i64 id) rfl rfl (fun c a w h=>h) HC.out ⟨by rfl,fun wq hq=>by obtain ⟨q0,q1,q2,q3⟩:=hq;go_simp⟩ ?_;refine fT 25 5 166 (.int .i64 i) rfl rfl (fun c a w h=>h) HC.out ⟨by rfl,fun wq hq=>by obtain ⟨q0,q1,q2,q3⟩:=hq;go_simp⟩ ?_;refine fT 25 6 167 (.pointer (some ⟨gs,0,none⟩)) rfl rfl (fun c a w h=>h) HC.out ⟨by rfl,fun wq hq=>by obtain ⟨q0,q1,q2,q3⟩:=hq;go_simp⟩ ?_;refine fT 25 7 168 (.pointer (some ⟨gs,0,none⟩)) rfl rfl (fun c a w h=>h) HC.out ⟨by rfl,fun wq hq=>by obtain ⟨q0,q1,q2,q3⟩:=hq;go_simp⟩ ?_;refine fT 25 8 169 (.pointer (some ⟨gs,1,none⟩)) rfl rfl (fun c a w h=>h) HC.out ⟨by rfl,fun wq hq=>by obtain ⟨q0,q1,q2,q3⟩:=hq;go_simp⟩ ?_;refine fT 25 9 170 (.slice (some ⟨xb,0,none⟩) s.dW.length fF) rfl rfl (fun c a w h=>h) HC.out ⟨by rfl,fun wq hq=>by obtain ⟨q0,q1,q2,q3⟩:=hq;go_simp⟩ ?_;refine fT 25 10 171 (.int .i64 id) rfl rfl (fun c a w h=>h) HC.out ⟨by rfl,fun wq hq=>by obtain ⟨q0,q1,q2,q3⟩:=hq;go_simp⟩ ?_;refine fT 25 11 172 (.int .i64 i) rfl rfl (fun c a w h=>h) HC.out ⟨by rfl,fun wq hq=>by obtain ⟨q0,q1,q2,q3⟩:=hq;go_simp⟩ ?_;refine fT 25 12 173 (.pointer (some ⟨xb,i*3,none⟩)) rfl rfl (fun c a w h=>h) HC.out ⟨by rfl,fun wq hq=>by obtain ⟨q0,q1,q2,q3⟩:=hq;go_simp⟩ ?_;refine fT 25 13 174 (.pointer (some ⟨xb,i*3,none⟩)) rfl rfl (fun c a w h=>h) HC.out ⟨by rfl,fun wq hq=>by obtain ⟨q0,q1,q2,q3⟩:=hq;go_simp⟩ ?_;refine fT 25 14 175 (.slice ua t.ops.length dp) rfl rfl (fun c a w h=>h) HC.out ⟨by rfl,fun wq hq=>by obtain ⟨q0,q1,q2,q3⟩:=hq;go_simp⟩ ?_;refine fT 25 15 176 (.pointer (some ⟨ab,0,none⟩)) rfl rfl (fun c a w h=>h) HC.out ⟨by rfl,fun wq hq=>by obtain ⟨q0,q1,q2,q3⟩:=hq;go_simp⟩ ?_;refine fT 25 16 177 (.int .i64 what) rfl rfl (fun c a w h=>h) HC.out ⟨by rfl,fun wq hq=>by obtain ⟨q0,q1,q2,q3⟩:=hq;go_simp⟩ ?_;refine fT 25 17 178 (.string key) rfl rfl (fun c a w h=>h) HC.out ⟨by rfl,fun wq hq=>by obtain ⟨q0,q1,q2,q3⟩:=hq;go_simp⟩ ?_;refine fT 25 18 179 (.pointer (some ⟨pb,1,none⟩)) rfl rfl (fun c a w h=>h) HC.out ⟨by rfl,fun wq hq=>by obtain ⟨q0,q1,q2,q3⟩:=hq;go_simp⟩ ?_;refine fT 25 19 180 (.string val) rfl rfl (fun c a w h=>h) HC.out ⟨by rfl,fun wq hq=>by obtain ⟨q0,q1,q2,q3⟩:=hq;go_simp⟩ ?_;refine fT 25 20 181 (.agg #[.int .i64 what,.string key,.string val,.bool false]) rfl rfl (fun c a w h=>h) HC.out ⟨by rfl,fun wq hq=>by obtain ⟨q0,q1,q2,q3⟩:=hq;go_simp⟩ ?_;refine jW 25 21 182 rfl rfl (by kernel_rfl) rfl (v:=.slice (some ⟨w.heap.size,0,none⟩) 1 1) (w':=(w.alloc (.cells #[.int .i64 what,.string key,.string val,.bool false] 51)).drew) (by go_simp) xE.out ?_;refine jW 25 22 183 rfl rfl (by kernel_rfl) rfl (v:=.slice a7 (t.ops.length+1) fE) (w':=w7) (ze (s:=.tmp 175) (x:=.tmp 182) (t:=44) rfl (by go_simp) (by go_simp) gg) rK.out ?_;refine jW 25 23 184 rfl rfl (by kernel_rfl) rfl (v:=.pointer (some ⟨xb,i*3,none⟩)) (w':=w7) (by go_simp) rK.out ?_;refine jW 25 24 185 rfl rfl (by kernel_rfl) rfl (v:=.pointer (some ⟨xb,i*3,none⟩)) (w':=w7) (by go_simp) rK.out ?_;refine KG 25 rfl (by kernel_rfl) rfl (w':=w7.setCell ⟨xb,i*3,none⟩ (.slice a7 (t.ops.length+1) fE)) (by go_simp) ?_;refine ⟨by kernel_rfl,?_⟩;show R _ _;refine HN.out _ _ ?_ tq.out;refine iz.Gp ?_ _
 repeat (refine iz.put ?_ _ (by decide))
 exact HF.out
def Cj(n:Nat):Code->Option Code
 | .block m c=>if m == n then some (.block m c) else Cj n c
 | .loop c=>Cj n c
 | .seq a b=>match Cj n a with
  | some c=>some c
  | none=>Cj n b
 | .scope c=>Cj n c
 | .cond _ a b=>match Cj n a with
  | some c=>some c
  | none=>Cj n b
 | _=>none
def qJ(w:World)(n c gs g:Nat)(y:dY)(xv:Value)(vs:List Value)(s':eC)(fr:Act):Prop:=∀ R:Act->World->Prop,(∀ fr' wd,iz fr' gs->eh w n (c+2) gs g y xv vs s' wd->R fr' wd) ->
  Code.wp Tryz.prog ((Tryz.f10.body.bind (Cj 0)).getD .skip) (zS R) fr w
theorem eh.refl{w w':World}{n c gs g:Nat}{y:dY}{xv:Value}{vs:List Value}{s:eC}(h:eZ w n c gs g y xv vs s)(hm:Mod dZ w w'):eh w n (c+2) gs g y xv vs s w':=⟨y,xv,vs,(h.quiet hm).more (by omega),jm.quiet hm⟩
section
variable {w:World} {n c m gs g:Nat} {y:dY} {xv:Value} {vs:List Value} {s:eC} {xb:Nat} {x:ActD}
theorem WE(hp:iV w n c m gs g y xv vs s xb x)(fr:Act)(hf:pI fr gs xb (fB s x) (eQ x) x.what)(hw:x.what=12):qJ w n c gs g y xv vs (eG s x) fr:=by
 intro R hN
 conv=>arg 2;whnf
 obtain ⟨f,rfl⟩:=hf.lit;rw [hw];have hA:eG s x={ s with h:=oe s.h }:=by unfold eG;simp [hw]
 rw [hA] at hN;have c0:=(gu hp.fU.blk).1;have zg:=hp.fU.blk.lt;have HN:=dV hN;have HC:=dV (hp.calm);clear hN hp hf hA;go_wp2_with fail;refine (HC.out _ (Mod.refl _ _)).mono ?_;rintro e w1 ⟨ev,rfl,hr⟩;have HR:=dV hr;clear hr HC;go_wp2_with fail;show R _ _;exact HN.out _ _ ⟨rfl,rfl,rfl⟩ HR.out
theorem WG(hp:iV w n c m gs g y xv vs s xb x)(fr:Act)(hf:pI fr gs xb (fB s x) (eQ x) x.what)(hw:x.what=11):qJ w n c gs g y xv vs (eG s x) fr:=by
 intro R hN
 conv=>arg 2;whnf
 obtain ⟨f,rfl⟩:=hf.lit;rw [hw];have hA:eG s x={ s with h:=mL s.h }:=by unfold eG;simp [hw]
 rw [hA] at hN;have c0:=(gu hp.fU.blk).1;have zg:=hp.fU.blk.lt;have HN:=dV hN;have HC:=dV (hp.fix);clear hN hp hf hA;go_wp2_with fail;refine (HC.out _ (Mod.refl _ _)).mono ?_;rintro e w1 ⟨ev,rfl,hr⟩;have HR:=dV hr;clear hr HC;go_wp2_with fail;show R _ _;exact HN.out _ _ ⟨rfl,rfl,rfl⟩ HR.out
theorem sw9(hp:iV w n c m gs g y xv vs s xb x)(fr:Act)(hf:pI fr gs xb (fB s x) (eQ x) x.what)(hw:x.what=9):qJ w n c gs g y xv vs (eG s x) fr:=by
 intro R hN
 conv=>arg 2;whnf
 obtain ⟨f,rfl⟩:=hf.lit;rw [hw];have hA:eG s x={ s with h:=lZ s.h }:=by unfold eG;simp [hw]
 rw [hA] at hN;have c0:=(gu hp.fU.blk).1;have zg:=hp.fU.blk.lt;have HN:=dV hN;have HC:=dV (hp.tick);clear hN hp hf hA;go_wp2_with fail;refine (HC.out _ (Mod.refl _ _)).mono ?_;rintro e w1 ⟨ev,rfl,hr⟩;have HR:=dV hr;clear hr HC;go_wp2_with fail;show R _ _;exact HN.out _ _ ⟨rfl,rfl,rfl⟩ HR.out
theorem sw4(hp:iV w n c m gs g y xv vs s xb x)(fr:Act)(hf:pI fr gs xb (fB s x) (eQ x) x.what)(hw:x.what=4):qJ w n c gs g y xv vs (eG s x) fr:=by
 intro R hN
 conv=>arg 2;whnf
 obtain ⟨f,rfl⟩:=hf.lit;rw [hw];have hA:eG s x={ s with h:=(iT s.h (fB s x:Nat)).1 }:=by unfold eG;simp [hw]
 rw [hA] at hN;have c0:=(gu hp.fU.blk).1;have zg:=hp.fU.blk.lt;have HN:=dV hN;have HC:=dV (hp.end_ (fB s x:Nat));clear hN hp hf hA;go_wp2_with fail;refine (HC.out _ (Mod.refl _ _)).mono ?_;rintro e w1 ⟨ev,rfl,hr⟩;have HR:=dV hr;clear hr HC;go_wp2_with fail;show R _ _;exact HN.out _ _ ⟨rfl,rfl,rfl⟩ HR.out
theorem WB(hp:iV w n c m gs g y xv vs s xb x)(fr:Act)(hf:pI fr gs xb (fB s x) (eQ x) x.what)(hw:x.what=5)(ha:x.a.tmod 4=0):qJ w n c gs g y xv vs (eG s x) fr:=by
 intro R hN
 conv=>arg 2;whnf
 obtain ⟨f,rfl⟩:=hf.lit;rw [hw];have hA:eG s x={ s with h:=(qQ s.h (fB s x:Nat)).1 }:=by unfold eG;simp [hw,ha]
 rw [hA] at hN;have c0:=(gu hp.fU.blk).1;have zg:=hp.fU.blk.lt;have HN:=dV hN;have HC:=dV (hp.drop (fB s x:Nat));have x2:=hp.act.cell 2 rfl;have zx:=hp.act.lt;have hb:(x.a.tmod 4 == 0)=true:=by simpa using ha
 clear hN hp hf hA ha;go_wp2_with fail;refine (HC.out _ (Mod.refl _ _)).mono ?_;rintro e w1 ⟨ev,rfl,hr⟩;have HR:=dV hr;clear hr HC;go_wp2_with fail;show R _ _;exact HN.out _ _ ⟨rfl,rfl,rfl⟩ HR.out
theorem WA(hp:iV w n c m gs g y xv vs s xb x)(fr:Act)(hf:pI fr gs xb (fB s x) (eQ x) x.what)(hw:x.what=5)(ha:x.a.tmod 4≠0):qJ w n c gs g y xv vs (eG s x) fr:=by
 intro R hN
 conv=>arg 2;whnf
 obtain ⟨f,rfl⟩:=hf.lit;rw [hw];have hA:eG s x=s:=by unfold eG;simp [hw,ha]
 rw [hA] at hN;have c0:=(gu hp.fU.blk).1;have zg:=hp.fU.blk.lt;have HN:=dV hN;have HR:=dV (eh.refl hp.fU (Mod.refl _ _));have x2:=hp.act.cell 2 rfl;have zx:=hp.act.lt;have hb:(x.a.tmod 4 == 0)=false:=by simpa using ha
 clear hN hp hf hA ha;go_wp2_with fail;show R _ _;exact HN.out _ _ ⟨rfl,rfl,rfl⟩ HR.out
theorem Vz(hp:iV w n c m gs g y xv vs s xb x)(fr:Act)(hf:pI fr gs xb (fB s x) (eQ x) x.what)(hw:x.what=6)(ha:0<s.h.net.way.length):qJ w n c gs g y xv vs (eG s x) fr:=by
 intro R hN
 conv=>arg 2;whnf
 obtain ⟨f,rfl⟩:=hf.lit;rw [hw];have hA:eG s x={ s with h:=lk s.h (kJ x.a s.h.net.way.length) }:=by unfold eG;simp [hw,ha]
 rw [hA] at hN;have c0:=(gu hp.fU.blk).1;have zg:=hp.fU.blk.lt;have HN:=dV hN;have HC:=dV (hp.fp (kJ x.a s.h.net.way.length) (EN _ _ ha));have HM:=dV hp.many;have fR:=hp.fU.house.net.few;have HP:Hid (∀ wq,Calls Tryz.prog 18 #[.int .i64 x.a,.int .i64 s.h.net.way.length] wq fun e w'=>e=.returned (.int .i64 (kJ x.a s.h.net.way.length))/\w'=wq):=fun wq=>ER x.a _ wq ha (by omega);have x2:=hp.act.cell 2 rfl;have x0:=hp.act.cell 0 rfl;rw [hw] at x0;have zx:=hp.act.lt;obtain ⟨wl,px⟩:∃ z,z=s.h.net.way.length:=⟨_,rfl⟩;rw [<-px] at ha HM HP HC fR HN;have hb:decide ((wl:Int) > 0)=true:=aQ (by omega);have hb2:(0:Int)<(wl:Int):=by omega
 obtain ⟨pk,hpk⟩:∃ z,z=kJ x.a wl:=⟨_,rfl⟩;rw [<-hpk] at HP HC HN;clear hN hp hf hA px hpk;go_wp2_with fail;refine (HM.out _ (Mod.refl _ _)).mono ?_;rintro e w1 ⟨rfl,rfl⟩;go_wp2_with fail;refine (HP.out _).mono ?_;rintro e w2 ⟨rfl,rfl⟩;go_wp2_with fail;refine (HC.out _ (Mod.refl _ _)).mono ?_;rintro e w3 ⟨ev,rfl,hr⟩;have HR:=dV hr;clear hr HC;go_wp2_with fail;show R _ _;exact HN.out _ _ ⟨rfl,rfl,rfl⟩ HR.out
theorem Vy(hp:iV w n c m gs g y xv vs s xb x)(fr:Act)(hf:pI fr gs xb (fB s x) (eQ x) x.what)(hw:x.what=6)(ha:¬ 0<s.h.net.way.length):qJ w n c gs g y xv vs (eG s x) fr:=by
 intro R hN
 conv=>arg 2;whnf
 obtain ⟨f,rfl⟩:=hf.lit;rw [hw];have hA:eG s x=s:=by unfold eG;simp [hw,ha]
 rw [hA] at hN;have c0:=(gu hp.fU.blk).1;have zg:=hp.fU.blk.lt;have HN:=dV hN;have HR:=dV (eh.refl hp.fU (Mod.refl _ _));have HM:=dV hp.many;obtain ⟨wl,px⟩:∃ z,z=s.h.net.way.length:=⟨_,rfl⟩;rw [<-px] at ha HM;obtain rfl:wl=0:=by omega
 clear hN hp hf hA px ha;go_wp2_with fail;refine (HM.out _ (Mod.refl _ _)).mono ?_;rintro e w1 ⟨rfl,rfl⟩;go_wp2_with fail;show R _ _;exact HN.out _ _ ⟨rfl,rfl,rfl⟩ HR.out
theorem Vx(hp:iV w n c m gs g y xv vs s xb x)(fr:Act)(hf:pI fr gs xb (fB s x) (eQ x) x.what)(hw:x.what=7)(ha:0<s.h.net.way.length):qJ w n c gs g y xv vs (eG s x) fr:=by
 intro R hN
 conv=>arg 2;whnf
 obtain ⟨f,rfl⟩:=hf.lit;rw [hw];have hA:eG s x={ s with h:=(pd s.h (kJ x.a s.h.net.way.length:Nat)).1 }:=by unfold eG;simp [hw,ha]
 rw [hA] at hN;have c0:=(gu hp.fU.blk).1;have zg:=hp.fU.blk.lt;have HN:=dV hN;have HC:=dV (hp.rr (kJ x.a s.h.net.way.length));have HM:=dV hp.many;have fR:=hp.fU.house.net.few;have HP:Hid (∀ wq,Calls Tryz.prog 18 #[.int .i64 x.a,.int .i64 s.h.net.way.length] wq fun e w'=>e=.returned (.int .i64 (kJ x.a s.h.net.way.length))/\w'=wq):=fun wq=>ER x.a _ wq ha (by omega);have x2:=hp.act.cell 2 rfl;have x0:=hp.act.cell 0 rfl;rw [hw] at x0;have zx:=hp.act.lt;obtain ⟨wl,px⟩:∃ z,z=s.h.net.way.length:=⟨_,rfl⟩;rw [<-px] at ha HM HP HC fR HN;have hb:decide ((wl:Int) > 0)=true:=aQ (by omega);have hb2:(0:Int)<(wl:Int):=by omega
 obtain ⟨pk,hpk⟩:∃ z,z=kJ x.a wl:=⟨_,rfl⟩;rw [<-hpk] at HP HC HN;clear hN hp hf hA px hpk;go_wp2_with fail;refine (HM.out _ (Mod.refl _ _)).mono ?_;rintro e w1 ⟨rfl,rfl⟩;go_wp2_with fail;refine (HP.out _).mono ?_;rintro e w2 ⟨rfl,rfl⟩;go_wp2_with fail;refine (HC.out _ (Mod.refl _ _)).mono ?_;rintro e w3 ⟨ev,rfl,hr⟩;have HR:=dV hr;clear hr HC;go_wp2_with fail;show R _ _;exact HN.out _ _ ⟨rfl,rfl,rfl⟩ HR.out
theorem Vw(hp:iV w n c m gs g y xv vs s xb x)(fr:Act)(hf:pI fr gs xb (fB s x) (eQ x) x.what)(hw:x.what=7)(ha:¬ 0<s.h.net.way.length):qJ w n c gs g y xv vs (eG s x) fr:=by
 intro R hN
 conv=>arg 2;whnf
 obtain ⟨f,rfl⟩:=hf.lit;rw [hw];have hA:eG s x=s:=by unfold eG;simp [hw,ha]
 rw [hA] at hN;have c0:=(gu hp.fU.blk).1;have zg:=hp.fU.blk.lt;have HN:=dV hN;have HR:=dV (eh.refl hp.fU (Mod.refl _ _));have HM:=dV hp.many;obtain ⟨wl,px⟩:∃ z,z=s.h.net.way.length:=⟨_,rfl⟩;rw [<-px] at ha HM;obtain rfl:wl=0:=by omega
 clear hN hp hf hA px ha;go_wp2_with fail;refine (HM.out _ (Mod.refl _ _)).mono ?_;rintro e w1 ⟨rfl,rfl⟩;go_wp2_with fail;show R _ _;exact HN.out _ _ ⟨rfl,rfl,rfl⟩ HR.out
theorem Vv(hp:iV w n c m gs g y xv vs s xb x)(fr:Act)(hf:pI fr gs xb (fB s x) (eQ x) x.what)(hw:x.what=8)(ha:0<s.h.net.way.length):qJ w n c gs g y xv vs (eG s x) fr:=by
 intro R hN
 conv=>arg 2;whnf
 obtain ⟨f,rfl⟩:=hf.lit;rw [hw];have hA:eG s x={ s with h:=(oA s.h (kJ x.a s.h.net.way.length:Nat)).1 }:=by unfold eG;simp [hw,ha]
 rw [hA] at hN;have c0:=(gu hp.fU.blk).1;have zg:=hp.fU.blk.lt;have HN:=dV hN;have HC:=dV (hp.twice (kJ x.a s.h.net.way.length));have HM:=dV hp.many;have fR:=hp.fU.house.net.few;have HP:Hid (∀ wq,Calls Tryz.prog 18 #[.int .i64 x.a,.int .i64 s.h.net.way.length] wq fun e w'=>e=.returned (.int .i64 (kJ x.a s.h.net.way.length))/\w'=wq):=fun wq=>ER x.a _ wq ha (by omega);have x2:=hp.act.cell 2 rfl;have x0:=hp.act.cell 0 rfl;rw [hw] at x0;have zx:=hp.act.lt;obtain ⟨wl,px⟩:∃ z,z=s.h.net.way.length:=⟨_,rfl⟩;rw [<-px] at ha HM HP HC fR HN;have hb:decide ((wl:Int) > 0)=true:=aQ (by omega);have hb2:(0:Int)<(wl:Int):=by omega
 obtain ⟨pk,hpk⟩:∃ z,z=kJ x.a wl:=⟨_,rfl⟩;rw [<-hpk] at HP HC HN;clear hN hp hf hA px hpk;go_wp2_with fail;refine (HM.out _ (Mod.refl _ _)).mono ?_;rintro e w1 ⟨rfl,rfl⟩;go_wp2_with fail;refine (HP.out _).mono ?_;rintro e w2 ⟨rfl,rfl⟩;go_wp2_with fail;refine (HC.out _ (Mod.refl _ _)).mono ?_;rintro e w3 ⟨ev,rfl,hr⟩;have HR:=dV hr;clear hr HC;go_wp2_with fail;show R _ _;exact HN.out _ _ ⟨rfl,rfl,rfl⟩ HR.out
theorem Vu(hp:iV w n c m gs g y xv vs s xb x)(fr:Act)(hf:pI fr gs xb (fB s x) (eQ x) x.what)(hw:x.what=8)(ha:¬ 0<s.h.net.way.length):qJ w n c gs g y xv vs (eG s x) fr:=by
 intro R hN
 conv=>arg 2;whnf
 obtain ⟨f,rfl⟩:=hf.lit;rw [hw];have hA:eG s x=s:=by unfold eG;simp [hw,ha]
 rw [hA] at hN;have c0:=(gu hp.fU.blk).1;have zg:=hp.fU.blk.lt;have HN:=dV hN;have HR:=dV (eh.refl hp.fU (Mod.refl _ _));have HM:=dV hp.many;obtain ⟨wl,px⟩:∃ z,z=s.h.net.way.length:=⟨_,rfl⟩;rw [<-px] at ha HM;obtain rfl:wl=0:=by omega
 clear hN hp hf hA px ha;go_wp2_with fail;refine (HM.out _ (Mod.refl _ _)).mono ?_;rintro e w1 ⟨rfl,rfl⟩;go_wp2_with fail;show R _ _;exact HN.out _ _ ⟨rfl,rfl,rfl⟩ HR.out
theorem WH(hp:iV w n c m gs g y xv vs s xb x)(fr:Act)(hf:pI fr gs xb (fB s x) (eQ x) x.what)(hw:x.what=10):qJ w n c gs g y xv vs (eG s x) fr:=by
 intro R hN
 conv=>arg 2;whnf
 obtain ⟨f,rfl⟩:=hf.lit;rw [hw];have hA:eG s x={ s with h:=Be s (kJ x.a 3) (kJ x.tx s.nodes) }:=by unfold eG;simp [hw]
 rw [hA] at hN;have c0:=(gu hp.fU.blk).1;have zg:=hp.fU.blk.lt;have HN:=dV hN;have hnd:=hp.ok.nodes;have HC:=dV (hp.fails (kJ x.a 3) (kJ x.tx s.nodes) (EN _ _ (by omega)) (by have:=EN x.tx s.nodes (by omega);omega));have HP:Hid (∀ wq,Calls Tryz.prog 18 #[.int .i64 x.a,.int .i64 3] wq fun e w'=>e=.returned (.int .i64 (kJ x.a 3))/\w'=wq):=fun wq=>ER x.a 3 wq (by omega) (by omega);have HT:Hid (∀ wq,Calls Tryz.prog 18 #[.int .i64 x.tx,.int .i64 s.nodes] wq fun e w'=>e=.returned (.int .i64 (kJ x.tx s.nodes))/\w'=wq):=fun wq=>ER x.tx _ wq (by omega) (by omega);have x1:=hp.act.cell 1 rfl;have x2:=hp.act.cell 2 rfl;have c4:=(gu hp.fU.blk).2.2.2.2;have zx:=hp.act.lt;obtain ⟨pa,IC⟩:∃ z,z=kJ x.a 3:=⟨_,rfl⟩;obtain ⟨pt,hpt⟩:∃ z,z=kJ x.tx s.nodes:=⟨_,rfl⟩;rw [<-IC,<-hpt] at HC HN;rw [<-IC] at HP;rw [<-hpt] at HT;clear hN hp hf hA IC hpt hnd;go_upto_region 43 with fail;refine wp_region_still_tail 11 (by kernel_rfl) (by kernel_rfl) ?_;simp only [aw,bf,bY,cC]
 repeat still_step
 still_call (HP.out _)
 repeat still_step
 still_call (HT.out _)
 repeat still_step
 refine wpStill_nil ?_;go_wp2_with fail;refine (HC.out _ ((Mod.refl _ _).drew)).mono ?_;rintro e w1 ⟨ev,rfl,hr⟩;have HR:=dV hr;clear hr HC;go_wp2_with fail;show R _ _;exact HN.out _ _ ⟨rfl,rfl,rfl⟩ HR.out
end
end Go.Proofs.YtmaiggbnceejiaaGreatDoor
