import Derived.Test.YtmaiggbnceejiaaGreatDoorP42
set_option linter.unusedVariables false
set_option maxRecDepth 100000
set_option maxHeartbeats 16000000
namespace Go.Proofs.YtmaiggbnceejiaaGreatDoor
open Go.RowKit Go.Lib Go.Maps
def zHf(n:Nat):Code->Option Code
 | .region m ops d=>if m == n then some (.region m ops d) else none
 | .block _ c=>zHf n c
 | .loop c=>zHf n c
 | .seq a b=>match zHf n a with
  | some c=>some c
  | none=>zHf n b
 | .scope c=>zHf n c
 | .cond _ a b=>match zHf n a with
  | some c=>some c
  | none=>zHf n b
 | _=>none
def zEf(R:Act->World->Prop):Exit->Act->World->Prop
 | .normal,a,wd=>R a wd
 | _,_,_=>False
theorem EndF.put{fr:Act}{gs:Nat}(h:EndF fr gs){d:Nat}(v:Value)(hd:d≠0):EndF (fr.put (some d) v) gs:=
 ⟨by have:=h.sz;simpa [Act.put] using this,h.df,by have:=h.t0;simpa [Act.put,Array.getElem?_setIfInBounds,hd] using this⟩
theorem EndF.put0{fr:Act}{gs:Nat}(h:EndF fr gs)(v:Value):EndF (fr.put none v) gs:=h
theorem EndF.at0{fr:Act}{gs:Nat}(h:EndF fr gs):∃ hh:0<fr.tmps.size,fr.tmps[0]=.pointer (some ⟨gs,0,none⟩):=Array.getElem?_eq_some_iff.1 h.t0
theorem Tryz.infoRTx:(Tryz.prog.info? 46).map (fun i=>(i.zero,i.size,i.bytes))=some (some (.agg #[.slice none 0 0,.int .i64 0,.int .i64 0]),3,40):=by kernel_rfl
theorem Tryz.infoROp:(Tryz.prog.info? 51).map (fun i=>(i.zero,i.size,i.bytes))=some (some (.agg #[.int .i64 0,.string ⟨#[]⟩,.string ⟨#[]⟩,.bool false]),4,48):=by kernel_rfl
theorem Tryz.undRTx:Tryz.prog.underlying 29=some (.slice 46):=by kernel_rfl
theorem Tryz.undROp:Tryz.prog.underlying 44=some (.slice 51):=by kernel_rfl
theorem StoP.pushTxM{w w7:World}{n c gs g:Nat}{y:HLay}{xv v7:Value}{vs:List Value}{s:StoS}(h:StoP w n c gs g y xv vs s)(hgn:n<=gs)(f e:Int)(hm:Mod (fun k=>xv.ownBlock=some k) w w7)
  (hown:RowX 46 w7 n v7 (s.txs++[⟨[],f,e⟩]) (vs++[.slice none 0 0])) (hmv:∀ k,v7.ownBlock=some k->xv.ownBlock=some k\/w.heap.size<=k) :
  StoR w n c gs g y xv vs { s with txs:=s.txs++[⟨[],f,e⟩] } (w7.setCell ⟨gs,1,none⟩ v7):=by
 refine ⟨y,v7,vs++[.slice none 0 0],h.pushTx hgn f e hm hown hmv,⟨?_,fun _ _=>rfl,fun k hk hs=>?_⟩⟩
 ·exact (hm.mono (fun _ _ e=>.inr (.inr (.inl e)))).trans ((Mod.setBlk gs 1 v7).mono (fun _ _ e=>.inr (.inl e)))
 ·rcases hs with rfl | hs | ⟨u,hu,hs⟩
  ·exact .inl rfl
  ·rcases hmv k hs with q | q
   ·exact .inr (.inl q)
   ·omega
  ·rcases List.mem_append.1 hu with q | q
   ·exact .inr (.inr ⟨u,q,hs⟩)
   ·rw [List.mem_singleton] at q;subst q;cases hs
theorem StoP.pushOpM{w w7:World}{n c gs g xb cap:Nat}{y:HLay}{vs:List Value}{s:StoS}(h:StoP w n c gs g y (.slice (some ⟨xb,0,none⟩) s.txs.length cap) vs s)(hgn:n<=gs){i:Nat}{t:TxD}{u v7:Value}{o:OpD}(hi:s.txs[i]?=some t)(hu:vs[i]?=some u)(hm:Mod (fun k=>u.ownBlock=some k) w w7)
  (hown:RowQ w7 n v7 (t.ops++[o])) (hmv:∀ k,v7.ownBlock=some k->u.ownBlock=some k\/w.heap.size<=k) :
  StoR w n c gs g y (.slice (some ⟨xb,0,none⟩) s.txs.length cap) vs { s with txs:=s.txs.set i ⟨t.ops++[o],t.frm,t.til⟩ } (w7.setCell ⟨xb,i*3,none⟩ v7):=by
 have hum:=List.mem_of_getElem? hu
 refine ⟨y,_,vs.set i v7,h.pushOp hgn hi hu hm hown hmv,⟨?_,fun _ _=>rfl,fun k hk hs=>?_⟩⟩
 ·exact (hm.mono (fun _ _ e=>.inr (.inr (.inr ⟨u,hum,e⟩)))).trans ((Mod.setBlk xb _ v7).mono (fun k _ e=>.inr (.inr (.inl (congrArg some (Eq.symm e))))))
 ·rcases hs with rfl | hs | ⟨v,hv,hs⟩
  ·exact .inl rfl
  ·exact .inr (.inl hs)
  ·rcases List.mem_or_eq_of_mem_set hv with q | q
   ·exact .inr (.inr ⟨v,q,hs⟩)
   ·subst q
    rcases hmv k hs with r | r
    ·exact .inr (.inr ⟨u,hum,r⟩)
    ·omega
theorem reg11(n c gs g:Nat)(y:HLay)(xv:Value)(vs:List Value)(s:StoS)(w:World)(h:StoP w n c gs g y xv vs s)(hgn:n<=gs)(hl:s.txs.length<=100)(fr:Act)(hf:EndF fr gs){R:Act->World->Prop}
  (hN:∀ fr' wd,EndF fr' gs->StoR w n c gs g y xv vs { s with txs:=s.txs++[⟨[],s.now,-1⟩] } wd->R fr' wd) :
  Code.wp Tryz.prog ((Tryz.f10.body.bind (zHf 11)).getD .skip) (zEf R) fr w:=by
 conv=>arg 2;whnf
 obtain ⟨i0,hpi,hz0,hz1,hz2⟩:=info_parts Tryz.infoRTx
 obtain ⟨xa,xcap,hxv⟩:=zAf h.row.2
 obtain ⟨-,c1,c2,-,-⟩:=blkS h.blk
 have f1:=h.blk.frozen 1
 have zg:=h.blk.lt
 have hrow:=h.row.2
 rw [hxv] at c1 hrow
 have hnw:n<=w.heap.size:=by omega
 have hrow3:((w.alloc (.cells #[.slice none 0 0,.int .i64 s.now,.int .i64 (-1)] 46)).drew).ownsRow n 46 3 (.slice xa s.txs.length xcap) s.txs.length (zCs s.txs vs):=zAm hrow (((Mod.refl zAb w).alloc _).drew) (fun _ _ _ _ e=>e)
 obtain ⟨v7,w7,hrun7,hown7,hgrow7,hnil7,hat7⟩:=run_append_own_at (P:=Tryz.prog) _ n 29 29 46 i0 _ 3 40 Tryz.undRTx hpi hz0 hz1 hz2 rfl (by omega) _ _ _ hrow3 ⟨w.heap.size,0,none⟩ 1 1 (zNj ⟨[],s.now,-1⟩ (.slice none 0 0)) rfl (World.news_of_block (heap_alloc_new w _)) (fun u hu=>by simp [zNj] at hu;rcases hu with rfl | rfl | rfl <;> rfl) (by unfold maxLen;omega) (by omega) (by show n<=(w.alloc _).heap.size;rw [World.size_alloc];omega)
 obtain ⟨a7,cap7,hv7⟩:=zAf hown7
 subst hv7
 have hm67:Mod (fun k=>(Value.slice xa s.txs.length xcap).ownBlock=some k) w w7:=(((Mod.refl _ w).alloc _).drew).grown hgrow7 (fun x hx _=>hx)
 have hnb:(Value.slice xa s.txs.length xcap).ownBlock≠some gs:=zAy hrow h.blk (by decide)
 have c17:=hm67.cell c1 hnb
 have c27:=hm67.cell c2 hnb
 have f7:=(hm67.frozen (p:=⟨gs,1,none⟩) zg hnb).trans f1
 have zb7:=Nat.lt_of_lt_of_le zg hm67.size
 have HPOST:Hid (StoR w n c gs g y xv vs { s with txs:=s.txs++[⟨[],s.now,-1⟩] } (w7.setCell ⟨gs,1,none⟩ (.slice a7 (s.txs.length+1) cap7))):=by
  refine h.pushTxM hgn s.now (-1) (by rw [hxv];exact hm67) ⟨by simp [h.row.1],?_⟩ (fun k hk=>?_)
  ·rw [zNu _ _ _ _ h.row.1,List.length_append];exact hown7
  ·rw [hxv]
   rcases hat7 with q | q
   ·exact .inl (by rw [<-q];exact hk)
   ·rw [q] at hk
    simp only [Option.some.injEq] at hk
    have:(w.alloc (.cells #[.slice none 0 0,.int .i64 s.now,.int .i64 (-1)] 46)).drew.heap.size=w.heap.size+1:=World.size_alloc _ _
    omega
 have hsz:=hf.sz
 obtain ⟨_,t0⟩:=hf.at0
 have HF:=Hmq hf
 have HN:=Hmq hN
 have hmA:Mod zAb w (w.alloc (.cells #[.slice none 0 0,.int .i64 s.now,.int .i64 (-1)] 46)).drew:=((Mod.refl zAb w).alloc _).drew
 have HC:Hid (w.drew.cell? ⟨gs,1,none⟩=some (.slice xa s.txs.length xcap)/\w.drew.cell? ⟨gs,2,none⟩=some (.int .i64 s.now)):=⟨c1,c2⟩
 have HC1:Hid ((w.alloc (.cells #[.slice none 0 0,.int .i64 s.now,.int .i64 (-1)] 46)).drew.cell? ⟨gs,1,none⟩=some (.slice xa s.txs.length xcap)/\(w.alloc (.cells #[.slice none 0 0,.int .i64 s.now,.int .i64 (-1)] 46)).drew.cell? ⟨gs,2,none⟩=some (.int .i64 s.now)):=⟨hmA.cell c1 (fun e=>e),hmA.cell c2 (fun e=>e)⟩
 have HC7:Hid (w7.cell? ⟨gs,1,none⟩=some (.slice xa s.txs.length xcap)/\w7.cell? ⟨gs,2,none⟩=some (.int .i64 s.now)):=⟨c17,c27⟩
 clear h hf hN hrow hrow3 hown7 hat7 hnil7 hmA c1 c2 hm67
 refine zGt 14 (fun wq=>wq.cell? ⟨gs,1,none⟩=some (.slice xa s.txs.length xcap)/\wq.cell? ⟨gs,2,none⟩=some (.int .i64 s.now)) rfl ?_
 refine zAg 14 0 75 (.pointer (some ⟨gs,0,none⟩)) rfl rfl (by kernel_rfl) (by kernel_rfl) (by kernel_rfl) (by kernel_rfl) (fun c a w h=>h) HC.out ⟨by rfl,fun wq hq=>by obtain ⟨q0,q1⟩:=hq;go_simp⟩ ?_
 refine zAg 14 1 76 (.pointer (some ⟨gs,0,none⟩)) rfl rfl (by kernel_rfl) (by kernel_rfl) (by kernel_rfl) (by kernel_rfl) (fun c a w h=>h) HC.out ⟨by rfl,fun wq hq=>by obtain ⟨q0,q1⟩:=hq;go_simp⟩ ?_
 refine zAg 14 2 77 (.pointer (some ⟨gs,0,none⟩)) rfl rfl (by kernel_rfl) (by kernel_rfl) (by kernel_rfl) (by kernel_rfl) (fun c a w h=>h) HC.out ⟨by rfl,fun wq hq=>by obtain ⟨q0,q1⟩:=hq;go_simp⟩ ?_
 refine zAg 14 3 78 (.pointer (some ⟨gs,1,none⟩)) rfl rfl (by kernel_rfl) (by kernel_rfl) (by kernel_rfl) (by kernel_rfl) (fun c a w h=>h) HC.out ⟨by rfl,fun wq hq=>by obtain ⟨q0,q1⟩:=hq;go_simp⟩ ?_
 refine zAg 14 4 79 (.slice xa s.txs.length xcap) rfl rfl (by kernel_rfl) (by kernel_rfl) (by kernel_rfl) (by kernel_rfl) (fun c a w h=>h) HC.out ⟨by rfl,fun wq hq=>by obtain ⟨q0,q1⟩:=hq;go_simp⟩ ?_
 refine zAg 14 5 80 (.pointer (some ⟨gs,0,none⟩)) rfl rfl (by kernel_rfl) (by kernel_rfl) (by kernel_rfl) (by kernel_rfl) (fun c a w h=>h) HC.out ⟨by rfl,fun wq hq=>by obtain ⟨q0,q1⟩:=hq;go_simp⟩ ?_
 refine zAg 14 6 81 (.pointer (some ⟨gs,0,none⟩)) rfl rfl (by kernel_rfl) (by kernel_rfl) (by kernel_rfl) (by kernel_rfl) (fun c a w h=>h) HC.out ⟨by rfl,fun wq hq=>by obtain ⟨q0,q1⟩:=hq;go_simp⟩ ?_
 refine zAg 14 7 82 (.pointer (some ⟨gs,2,none⟩)) rfl rfl (by kernel_rfl) (by kernel_rfl) (by kernel_rfl) (by kernel_rfl) (fun c a w h=>h) HC.out ⟨by rfl,fun wq hq=>by obtain ⟨q0,q1⟩:=hq;go_simp⟩ ?_
 refine zAg 14 8 83 (.int .i64 s.now) rfl rfl (by kernel_rfl) (by kernel_rfl) (by kernel_rfl) (by kernel_rfl) (fun c a w h=>h) HC.out ⟨by rfl,fun wq hq=>by obtain ⟨q0,q1⟩:=hq;go_simp⟩ ?_
 refine zAg 14 9 84 (.agg #[.slice none 0 0,.int .i64 s.now,.int .i64 (-1)]) rfl rfl (by kernel_rfl) (by kernel_rfl) (by kernel_rfl) (by kernel_rfl) (fun c a w h=>h) HC.out ⟨by rfl,fun wq hq=>by obtain ⟨q0,q1⟩:=hq;go_simp⟩ ?_
 refine zAu 14 10 85 rfl rfl (by kernel_rfl) rfl (v:=.slice (some ⟨w.heap.size,0,none⟩) 1 1) (w':=(w.alloc (.cells #[.slice none 0 0,.int .i64 s.now,.int .i64 (-1)] 46)).drew) (by go_simp) HC1.out ?_
 refine zAu 14 11 86 rfl rfl (by kernel_rfl) rfl (v:=.slice a7 (s.txs.length+1) cap7) (w':=w7) (zDi (s:=.tmp 79) (x:=.tmp 85) (t:=29) rfl (by go_simp) (by go_simp) hrun7) HC7.out ?_
 refine zAu 14 12 87 rfl rfl (by kernel_rfl) rfl (v:=.pointer (some ⟨gs,0,none⟩)) (w':=w7) (by go_simp) HC7.out ?_
 refine zAu 14 13 88 rfl rfl (by kernel_rfl) rfl (v:=.pointer (some ⟨gs,1,none⟩)) (w':=w7) (by go_simp) HC7.out ?_
 refine zGu 14 rfl (by kernel_rfl) rfl (w':=w7.setCell ⟨gs,1,none⟩ (.slice a7 (s.txs.length+1) cap7)) (by go_simp) ?_
 refine ⟨by kernel_rfl,?_⟩
 show R _ _
 refine HN.out _ _ ?_ HPOST.out
 refine EndF.put0 ?_ _
 repeat (refine EndF.put ?_ _ (by decide))
 exact HF.out
theorem reg15(n c gs g xb xcap i:Nat)(id:Int)(key val:ByteArray)(fd:Bool)(t:TxD)(y:HLay)(vs:List Value)(s:StoS)(w:World)(h:StoP w n c gs g y (.slice (some ⟨xb,0,none⟩) s.txs.length xcap) vs s)(hgn:n<=gs)(hi:s.txs[i]?=some t)(hid:id=(i:Int)+1)(hsm:s.txs.length<=100)(hl:t.ops.length<=1000)(fr:Act)(hf:EndF fr gs)(t4:fr.tmps[4]?=some (.int .i64 id))(t5:fr.tmps[5]?=some (.string key))(t8:fr.tmps[8]?=some (.string val))(t9:fr.tmps[9]?=some (.bool fd)){R:Act->World->Prop}
  (hN:∀ fr' wd,EndF fr' gs->StoR w n c gs g y (.slice (some ⟨xb,0,none⟩) s.txs.length xcap) vs { s with txs:=s.txs.set i ⟨t.ops++[⟨1,key,val,fd⟩],t.frm,t.til⟩ } wd->R fr' wd) :
  Code.wp Tryz.prog ((Tryz.f10.body.bind (zHf 15)).getD .skip) (zEf R) fr w:=by
 conv=>arg 2;whnf
 obtain ⟨i0,hpi,hz0,hz1,hz2⟩:=info_parts Tryz.infoROp
 have hil:=(List.getElem?_eq_some_iff.1 hi).1
 obtain ⟨u,hu⟩:∃ u,vs[i]?=some u:=⟨_,List.getElem?_eq_getElem (by rw [h.row.1];exact hil)⟩
 have hum:=List.mem_of_getElem? hu
 have hrow:w.ownsRow n 51 4 u t.ops.length (zHc t.ops):=h.ops i t u hi hu
 obtain ⟨ua,ucap,huv⟩:=zAf hrow
 subst huv
 obtain ⟨-,c1,-,-,-⟩:=blkS h.blk
 have cx:w.cell? ⟨xb,i*3,none⟩=some (.slice ua t.ops.length ucap):=by
  have:=h.row.2.cells (g:=xb) rfl _ _ (zHs s.txs vs i t _ h.row.1 hi hu 0 _ rfl)
  rw [Go.WideShapes.add_plain,Nat.zero_add,Nat.add_zero] at this
  exact this
 have hx:(Value.slice (some ⟨xb,0,none⟩) s.txs.length xcap).ownBlock=some xb:=rfl
 obtain ⟨_,zx,cur,ty,fr0,hxc,_,q1,q2,q3⟩:=h.cells hgn (k:=xb) (.inr (.inl hx))
 have fx:w.frozen? ⟨xb,i*3,none⟩=false:=by
  obtain ⟨_,_,cur',hc'⟩:=zAh h.row.2 hx
  simp [World.frozen?,hc']
 have zg:=h.blk.lt
 have hnw:n<=w.heap.size:=by omega
 have hrow3:((w.alloc (.cells #[.int .i64 1,.string key,.string val,.bool fd] 51)).drew).ownsRow n 51 4 (.slice ua t.ops.length ucap) t.ops.length (zHc t.ops):=zAm hrow (((Mod.refl zAb w).alloc _).drew) (fun _ _ _ _ e=>e)
 obtain ⟨v7,w7,hrun7,hown7,hgrow7,hnil7,hat7⟩:=run_append_own_at (P:=Tryz.prog) _ n 44 44 51 i0 _ 4 48 Tryz.undROp hpi hz0 hz1 hz2 rfl (by omega) _ _ _ hrow3 ⟨w.heap.size,0,none⟩ 1 1 (zPq ⟨1,key,val,fd⟩) rfl (World.news_of_block (heap_alloc_new w _)) (fun u hu=>by simp [zPq] at hu;rcases hu with rfl | rfl | rfl | rfl <;> rfl) (by unfold maxLen;omega) (by omega) (by show n<=(w.alloc _).heap.size;rw [World.size_alloc];omega)
 obtain ⟨a7,cap7,hv7⟩:=zAf hown7
 subst hv7
 have hm67:Mod (fun k=>(Value.slice ua t.ops.length ucap).ownBlock=some k) w w7:=(((Mod.refl _ w).alloc _).drew).grown hgrow7 (fun x hx _=>hx)
 have hnb:(Value.slice ua t.ops.length ucap).ownBlock≠some gs:=zAy hrow h.blk (by decide)
 have hnx:(Value.slice ua t.ops.length ucap).ownBlock≠some xb:=fun e=>by
  have:=(q1 hx).symm.trans (q3 ⟨_,hum,e⟩);exact absurd this (by decide)
 have c17:=hm67.cell c1 hnb
 have cx7:=hm67.cell cx hnx
 have fx7:=(hm67.frozen (p:=⟨xb,i*3,none⟩) zx hnx).trans fx
 have zx7:=Nat.lt_of_lt_of_le zx hm67.size
 have HPOST:Hid (StoR w n c gs g y (.slice (some ⟨xb,0,none⟩) s.txs.length xcap) vs { s with txs:=s.txs.set i ⟨t.ops++[⟨1,key,val,fd⟩],t.frm,t.til⟩ } (w7.setCell ⟨xb,i*3,none⟩ (.slice a7 (t.ops.length+1) cap7))):=by
  refine h.pushOpM hgn hi hu hm67 ?_ (fun k hk=>?_)
  ·unfold RowQ
   rw [zKf,List.length_append];exact hown7
  ·rcases hat7 with q | q
   ·exact .inl (by rw [<-q];exact hk)
   ·rw [q] at hk
    simp only [Option.some.injEq] at hk
    have:((w.alloc (.cells #[.int .i64 1,.string key,.string val,.bool fd] 51)).drew).heap.size=w.heap.size+1:=World.size_alloc _ _
    omega
 have hsz:=hf.sz
 obtain ⟨_,t0⟩:=hf.at0
 obtain ⟨_,t4⟩:=Array.getElem?_eq_some_iff.1 t4
 obtain ⟨_,t5⟩:=Array.getElem?_eq_some_iff.1 t5
 obtain ⟨_,t8⟩:=Array.getElem?_eq_some_iff.1 t8
 obtain ⟨_,t9⟩:=Array.getElem?_eq_some_iff.1 t9
 have HF:=Hmq hf
 have HN:=Hmq hN
 have hmA:Mod zAb w (w.alloc (.cells #[.int .i64 1,.string key,.string val,.bool fd] 51)).drew:=((Mod.refl zAb w).alloc _).drew
 have ew:wrap64 (id - 1)=(i:Int):=by rw [hid,show (i:Int)+1 - 1=(i:Int) by omega];exact IntWalk.wrap64_in _ ⟨by omega,by omega⟩
 have ew2:IntKind.i64.wrap (id - 1)=(i:Int):=by rw [hid,show (i:Int)+1 - 1=(i:Int) by omega];exact IntWalk.i64_in _ ⟨by omega,by omega⟩
 have hiI:(i:Int)<(s.txs.length:Int):=by omega
 have hi0:(0:Int)<=(i:Int):=by omega
 have HC:Hid (w.drew.cell? ⟨gs,1,none⟩=some (.slice (some ⟨xb,0,none⟩) s.txs.length xcap)/\w.drew.cell? ⟨xb,i*3,none⟩=some (.slice ua t.ops.length ucap)):=⟨c1,cx⟩
 have HC1:Hid ((w.alloc (.cells #[.int .i64 1,.string key,.string val,.bool fd] 51)).drew.cell? ⟨gs,1,none⟩=some (.slice (some ⟨xb,0,none⟩) s.txs.length xcap)/\(w.alloc (.cells #[.int .i64 1,.string key,.string val,.bool fd] 51)).drew.cell? ⟨xb,i*3,none⟩=some (.slice ua t.ops.length ucap)):=⟨hmA.cell c1 (fun e=>e),hmA.cell cx (fun e=>e)⟩
 have HC7:Hid (w7.cell? ⟨gs,1,none⟩=some (.slice (some ⟨xb,0,none⟩) s.txs.length xcap)/\w7.cell? ⟨xb,i*3,none⟩=some (.slice ua t.ops.length ucap)):=⟨c17,cx7⟩
 clear h hf hN hrow hrow3 hown7 hat7 hnil7 hmA c1 cx hm67 hid q1 q2 q3 hu hum hi hxc hx
 refine zGt 23 (fun wq=>wq.cell? ⟨gs,1,none⟩=some (.slice (some ⟨xb,0,none⟩) s.txs.length xcap)/\wq.cell? ⟨xb,i*3,none⟩=some (.slice ua t.ops.length ucap)) rfl ?_
 refine zAg 23 0 108 (.pointer (some ⟨gs,0,none⟩)) rfl rfl (by kernel_rfl) (by kernel_rfl) (by kernel_rfl) (by kernel_rfl) (fun c a w h=>h) HC.out ⟨by rfl,fun wq hq=>by obtain ⟨q0,q1⟩:=hq;go_simp⟩ ?_
 refine zAg 23 1 109 (.pointer (some ⟨gs,0,none⟩)) rfl rfl (by kernel_rfl) (by kernel_rfl) (by kernel_rfl) (by kernel_rfl) (fun c a w h=>h) HC.out ⟨by rfl,fun wq hq=>by obtain ⟨q0,q1⟩:=hq;go_simp⟩ ?_
 refine zAg 23 2 110 (.pointer (some ⟨gs,1,none⟩)) rfl rfl (by kernel_rfl) (by kernel_rfl) (by kernel_rfl) (by kernel_rfl) (fun c a w h=>h) HC.out ⟨by rfl,fun wq hq=>by obtain ⟨q0,q1⟩:=hq;go_simp⟩ ?_
 refine zAg 23 3 111 (.slice (some ⟨xb,0,none⟩) s.txs.length xcap) rfl rfl (by kernel_rfl) (by kernel_rfl) (by kernel_rfl) (by kernel_rfl) (fun c a w h=>h) HC.out ⟨by rfl,fun wq hq=>by obtain ⟨q0,q1⟩:=hq;go_simp⟩ ?_
 refine zAg 23 4 112 (.int .i64 id) rfl rfl (by kernel_rfl) (by kernel_rfl) (by kernel_rfl) (by kernel_rfl) (fun c a w h=>h) HC.out ⟨by rfl,fun wq hq=>by obtain ⟨q0,q1⟩:=hq;go_simp⟩ ?_
 refine zAg 23 5 113 (.int .i64 i) rfl rfl (by kernel_rfl) (by kernel_rfl) (by kernel_rfl) (by kernel_rfl) (fun c a w h=>h) HC.out ⟨by rfl,fun wq hq=>by obtain ⟨q0,q1⟩:=hq;go_simp⟩ ?_
 refine zAg 23 6 114 (.pointer (some ⟨gs,0,none⟩)) rfl rfl (by kernel_rfl) (by kernel_rfl) (by kernel_rfl) (by kernel_rfl) (fun c a w h=>h) HC.out ⟨by rfl,fun wq hq=>by obtain ⟨q0,q1⟩:=hq;go_simp⟩ ?_
 refine zAg 23 7 115 (.pointer (some ⟨gs,0,none⟩)) rfl rfl (by kernel_rfl) (by kernel_rfl) (by kernel_rfl) (by kernel_rfl) (fun c a w h=>h) HC.out ⟨by rfl,fun wq hq=>by obtain ⟨q0,q1⟩:=hq;go_simp⟩ ?_
 refine zAg 23 8 116 (.pointer (some ⟨gs,1,none⟩)) rfl rfl (by kernel_rfl) (by kernel_rfl) (by kernel_rfl) (by kernel_rfl) (fun c a w h=>h) HC.out ⟨by rfl,fun wq hq=>by obtain ⟨q0,q1⟩:=hq;go_simp⟩ ?_
 refine zAg 23 9 117 (.slice (some ⟨xb,0,none⟩) s.txs.length xcap) rfl rfl (by kernel_rfl) (by kernel_rfl) (by kernel_rfl) (by kernel_rfl) (fun c a w h=>h) HC.out ⟨by rfl,fun wq hq=>by obtain ⟨q0,q1⟩:=hq;go_simp⟩ ?_
 refine zAg 23 10 118 (.int .i64 id) rfl rfl (by kernel_rfl) (by kernel_rfl) (by kernel_rfl) (by kernel_rfl) (fun c a w h=>h) HC.out ⟨by rfl,fun wq hq=>by obtain ⟨q0,q1⟩:=hq;go_simp⟩ ?_
 refine zAg 23 11 119 (.int .i64 i) rfl rfl (by kernel_rfl) (by kernel_rfl) (by kernel_rfl) (by kernel_rfl) (fun c a w h=>h) HC.out ⟨by rfl,fun wq hq=>by obtain ⟨q0,q1⟩:=hq;go_simp⟩ ?_
 refine zAg 23 12 120 (.pointer (some ⟨xb,i*3,none⟩)) rfl rfl (by kernel_rfl) (by kernel_rfl) (by kernel_rfl) (by kernel_rfl) (fun c a w h=>h) HC.out ⟨by rfl,fun wq hq=>by obtain ⟨q0,q1⟩:=hq;go_simp⟩ ?_
 refine zAg 23 13 121 (.pointer (some ⟨xb,i*3,none⟩)) rfl rfl (by kernel_rfl) (by kernel_rfl) (by kernel_rfl) (by kernel_rfl) (fun c a w h=>h) HC.out ⟨by rfl,fun wq hq=>by obtain ⟨q0,q1⟩:=hq;go_simp⟩ ?_
 refine zAg 23 14 122 (.slice ua t.ops.length ucap) rfl rfl (by kernel_rfl) (by kernel_rfl) (by kernel_rfl) (by kernel_rfl) (fun c a w h=>h) HC.out ⟨by rfl,fun wq hq=>by obtain ⟨q0,q1⟩:=hq;go_simp⟩ ?_
 refine zAg 23 15 123 (.string key) rfl rfl (by kernel_rfl) (by kernel_rfl) (by kernel_rfl) (by kernel_rfl) (fun c a w h=>h) HC.out ⟨by rfl,fun wq hq=>by obtain ⟨q0,q1⟩:=hq;go_simp⟩ ?_
 refine zAg 23 16 124 (.string val) rfl rfl (by kernel_rfl) (by kernel_rfl) (by kernel_rfl) (by kernel_rfl) (fun c a w h=>h) HC.out ⟨by rfl,fun wq hq=>by obtain ⟨q0,q1⟩:=hq;go_simp⟩ ?_
 refine zAg 23 17 125 (.bool fd) rfl rfl (by kernel_rfl) (by kernel_rfl) (by kernel_rfl) (by kernel_rfl) (fun c a w h=>h) HC.out ⟨by rfl,fun wq hq=>by obtain ⟨q0,q1⟩:=hq;go_simp⟩ ?_
 refine zAg 23 18 126 (.agg #[.int .i64 1,.string key,.string val,.bool fd]) rfl rfl (by kernel_rfl) (by kernel_rfl) (by kernel_rfl) (by kernel_rfl) (fun c a w h=>h) HC.out ⟨by rfl,fun wq hq=>by obtain ⟨q0,q1⟩:=hq;go_simp⟩ ?_
 refine zAu 23 19 127 rfl rfl (by kernel_rfl) rfl (v:=.slice (some ⟨w.heap.size,0,none⟩) 1 1) (w':=(w.alloc (.cells #[.int .i64 1,.string key,.string val,.bool fd] 51)).drew) (by go_simp) HC1.out ?_
 refine zAu 23 20 128 rfl rfl (by kernel_rfl) rfl (v:=.slice a7 (t.ops.length+1) cap7) (w':=w7) (zDi (s:=.tmp 122) (x:=.tmp 127) (t:=44) rfl (by go_simp) (by go_simp) hrun7) HC7.out ?_
 refine zAu 23 21 129 rfl rfl (by kernel_rfl) rfl (v:=.pointer (some ⟨xb,i*3,none⟩)) (w':=w7) (by go_simp) HC7.out ?_
 refine zAu 23 22 130 rfl rfl (by kernel_rfl) rfl (v:=.pointer (some ⟨xb,i*3,none⟩)) (w':=w7) (by go_simp) HC7.out ?_
 refine zGu 23 rfl (by kernel_rfl) rfl (w':=w7.setCell ⟨xb,i*3,none⟩ (.slice a7 (t.ops.length+1) cap7)) (by go_simp) ?_
 refine ⟨by kernel_rfl,?_⟩
 show R _ _
 refine HN.out _ _ ?_ HPOST.out
 refine EndF.put0 ?_ _
 repeat (refine EndF.put ?_ _ (by decide))
 exact HF.out
theorem yNc(n c gs g xb xcap i:Nat)(id:Int)(key val:ByteArray)(t:TxD)(y:HLay)(vs:List Value)(s:StoS)(w:World)(h:StoP w n c gs g y (.slice (some ⟨xb,0,none⟩) s.txs.length xcap) vs s)(hgn:n<=gs)(hi:s.txs[i]?=some t)(hid:id=(i:Int)+1)(hsm:s.txs.length<=100)(hl:t.ops.length<=1000)(ab pb:Nat)(what:Int)(ha:w.cell? ⟨ab,0,none⟩=some (.int .i64 what))(hp:w.cell? ⟨pb,1,none⟩=some (.string val))(hna:∀ u∈vs,u.ownBlock≠some ab)(hnp:∀ u∈vs,u.ownBlock≠some pb)(fr:Act)(hf:EndF fr gs)(t4:fr.tmps[4]?=some (.int .i64 id))(t5:fr.tmps[5]?=some (.string key))(t3:fr.tmps[3]?=some (.pointer (some ⟨ab,0,none⟩)))(t11:fr.tmps[11]?=some (.pointer (some ⟨pb,0,none⟩))){R:Act->World->Prop}
  (hN:∀ fr' wd,EndF fr' gs->StoR w n c gs g y (.slice (some ⟨xb,0,none⟩) s.txs.length xcap) vs { s with txs:=s.txs.set i ⟨t.ops++[⟨what,key,val,false⟩],t.frm,t.til⟩ } wd->R fr' wd) :
  Code.wp Tryz.prog ((Tryz.f10.body.bind (zHf 22)).getD .skip) (zEf R) fr w:=by
 conv=>arg 2;whnf
 obtain ⟨i0,hpi,hz0,hz1,hz2⟩:=info_parts Tryz.infoROp
 have hil:=(List.getElem?_eq_some_iff.1 hi).1
 obtain ⟨u,hu⟩:∃ u,vs[i]?=some u:=⟨_,List.getElem?_eq_getElem (by rw [h.row.1];exact hil)⟩
 have hum:=List.mem_of_getElem? hu
 have hrow:w.ownsRow n 51 4 u t.ops.length (zHc t.ops):=h.ops i t u hi hu
 obtain ⟨ua,ucap,huv⟩:=zAf hrow
 subst huv
 obtain ⟨-,c1,-,-,-⟩:=blkS h.blk
 have cx:w.cell? ⟨xb,i*3,none⟩=some (.slice ua t.ops.length ucap):=by
  have:=h.row.2.cells (g:=xb) rfl _ _ (zHs s.txs vs i t _ h.row.1 hi hu 0 _ rfl)
  rw [Go.WideShapes.add_plain,Nat.zero_add,Nat.add_zero] at this
  exact this
 have hx:(Value.slice (some ⟨xb,0,none⟩) s.txs.length xcap).ownBlock=some xb:=rfl
 obtain ⟨_,zx,cur,ty,fr0,hxc,_,q1,q2,q3⟩:=h.cells hgn (k:=xb) (.inr (.inl hx))
 have fx:w.frozen? ⟨xb,i*3,none⟩=false:=by
  obtain ⟨_,_,cur',hc'⟩:=zAh h.row.2 hx
  simp [World.frozen?,hc']
 have zg:=h.blk.lt
 have hnw:n<=w.heap.size:=by omega
 have hrow3:((w.alloc (.cells #[.int .i64 what,.string key,.string val,.bool false] 51)).drew).ownsRow n 51 4 (.slice ua t.ops.length ucap) t.ops.length (zHc t.ops):=zAm hrow (((Mod.refl zAb w).alloc _).drew) (fun _ _ _ _ e=>e)
 obtain ⟨v7,w7,hrun7,hown7,hgrow7,hnil7,hat7⟩:=run_append_own_at (P:=Tryz.prog) _ n 44 44 51 i0 _ 4 48 Tryz.undROp hpi hz0 hz1 hz2 rfl (by omega) _ _ _ hrow3 ⟨w.heap.size,0,none⟩ 1 1 (zPq ⟨what,key,val,false⟩) rfl (World.news_of_block (heap_alloc_new w _)) (fun u hu=>by simp [zPq] at hu;rcases hu with rfl | rfl | rfl | rfl <;> rfl) (by unfold maxLen;omega) (by omega) (by show n<=(w.alloc _).heap.size;rw [World.size_alloc];omega)
 obtain ⟨a7,cap7,hv7⟩:=zAf hown7
 subst hv7
 have hm67:Mod (fun k=>(Value.slice ua t.ops.length ucap).ownBlock=some k) w w7:=(((Mod.refl _ w).alloc _).drew).grown hgrow7 (fun x hx _=>hx)
 have hnb:(Value.slice ua t.ops.length ucap).ownBlock≠some gs:=zAy hrow h.blk (by decide)
 have hnx:(Value.slice ua t.ops.length ucap).ownBlock≠some xb:=fun e=>by
  have:=(q1 hx).symm.trans (q3 ⟨_,hum,e⟩);exact absurd this (by decide)
 have c17:=hm67.cell c1 hnb
 have cx7:=hm67.cell cx hnx
 have fx7:=(hm67.frozen (p:=⟨xb,i*3,none⟩) zx hnx).trans fx
 have zx7:=Nat.lt_of_lt_of_le zx hm67.size
 have HPOST:Hid (StoR w n c gs g y (.slice (some ⟨xb,0,none⟩) s.txs.length xcap) vs { s with txs:=s.txs.set i ⟨t.ops++[⟨what,key,val,false⟩],t.frm,t.til⟩ } (w7.setCell ⟨xb,i*3,none⟩ (.slice a7 (t.ops.length+1) cap7))):=by
  refine h.pushOpM hgn hi hu hm67 ?_ (fun k hk=>?_)
  ·unfold RowQ
   rw [zKf,List.length_append];exact hown7
  ·rcases hat7 with q | q
   ·exact .inl (by rw [<-q];exact hk)
   ·rw [q] at hk
    simp only [Option.some.injEq] at hk
    have:((w.alloc (.cells #[.int .i64 what,.string key,.string val,.bool false] 51)).drew).heap.size=w.heap.size+1:=World.size_alloc _ _
    omega
 have hsz:=hf.sz
 obtain ⟨_,t0⟩:=hf.at0
 obtain ⟨_,t4⟩:=Array.getElem?_eq_some_iff.1 t4
 obtain ⟨_,t5⟩:=Array.getElem?_eq_some_iff.1 t5
 obtain ⟨_,t3⟩:=Array.getElem?_eq_some_iff.1 t3
 obtain ⟨_,t11⟩:=Array.getElem?_eq_some_iff.1 t11
 have ca7:=hm67.cell ha (hna _ hum)
 have cp7:=hm67.cell hp (hnp _ hum)
 have HF:=Hmq hf
 have HN:=Hmq hN
 have hmA:Mod zAb w (w.alloc (.cells #[.int .i64 what,.string key,.string val,.bool false] 51)).drew:=((Mod.refl zAb w).alloc _).drew
 have ew:wrap64 (id - 1)=(i:Int):=by rw [hid,show (i:Int)+1 - 1=(i:Int) by omega];exact IntWalk.wrap64_in _ ⟨by omega,by omega⟩
 have ew2:IntKind.i64.wrap (id - 1)=(i:Int):=by rw [hid,show (i:Int)+1 - 1=(i:Int) by omega];exact IntWalk.i64_in _ ⟨by omega,by omega⟩
 have hiI:(i:Int)<(s.txs.length:Int):=by omega
 have hi0:(0:Int)<=(i:Int):=by omega
 have HC:Hid (w.drew.cell? ⟨gs,1,none⟩=some (.slice (some ⟨xb,0,none⟩) s.txs.length xcap)/\w.drew.cell? ⟨xb,i*3,none⟩=some (.slice ua t.ops.length ucap)/\w.drew.cell? ⟨ab,0,none⟩=some (.int .i64 what)/\w.drew.cell? ⟨pb,1,none⟩=some (.string val)):=⟨c1,cx,ha,hp⟩
 have HC1:Hid ((w.alloc (.cells #[.int .i64 what,.string key,.string val,.bool false] 51)).drew.cell? ⟨gs,1,none⟩=some (.slice (some ⟨xb,0,none⟩) s.txs.length xcap)/\(w.alloc (.cells #[.int .i64 what,.string key,.string val,.bool false] 51)).drew.cell? ⟨xb,i*3,none⟩=some (.slice ua t.ops.length ucap)/\(w.alloc (.cells #[.int .i64 what,.string key,.string val,.bool false] 51)).drew.cell? ⟨ab,0,none⟩=some (.int .i64 what)/\(w.alloc (.cells #[.int .i64 what,.string key,.string val,.bool false] 51)).drew.cell? ⟨pb,1,none⟩=some (.string val)):=⟨hmA.cell c1 (fun e=>e),hmA.cell cx (fun e=>e),hmA.cell ha (fun e=>e),hmA.cell hp (fun e=>e)⟩
 have HC7:Hid (w7.cell? ⟨gs,1,none⟩=some (.slice (some ⟨xb,0,none⟩) s.txs.length xcap)/\w7.cell? ⟨xb,i*3,none⟩=some (.slice ua t.ops.length ucap)/\w7.cell? ⟨ab,0,none⟩=some (.int .i64 what)/\w7.cell? ⟨pb,1,none⟩=some (.string val)):=⟨c17,cx7,ca7,cp7⟩
 clear h hf hN hrow hrow3 hown7 hat7 hnil7 hmA c1 cx hm67 hid q1 q2 q3 hu hum hi hxc hx ha hp hna hnp
 refine zGt 25 (fun wq=>wq.cell? ⟨gs,1,none⟩=some (.slice (some ⟨xb,0,none⟩) s.txs.length xcap)/\wq.cell? ⟨xb,i*3,none⟩=some (.slice ua t.ops.length ucap)/\wq.cell? ⟨ab,0,none⟩=some (.int .i64 what)/\wq.cell? ⟨pb,1,none⟩=some (.string val)) rfl ?_
 refine zAg 25 0 161 (.pointer (some ⟨gs,0,none⟩)) rfl rfl (by kernel_rfl) (by kernel_rfl) (by kernel_rfl) (by kernel_rfl) (fun c a w h=>h) HC.out ⟨by rfl,fun wq hq=>by obtain ⟨q0,q1,q2,q3⟩:=hq;go_simp⟩ ?_
 refine zAg 25 1 162 (.pointer (some ⟨gs,0,none⟩)) rfl rfl (by kernel_rfl) (by kernel_rfl) (by kernel_rfl) (by kernel_rfl) (fun c a w h=>h) HC.out ⟨by rfl,fun wq hq=>by obtain ⟨q0,q1,q2,q3⟩:=hq;go_simp⟩ ?_
 refine zAg 25 2 163 (.pointer (some ⟨gs,1,none⟩)) rfl rfl (by kernel_rfl) (by kernel_rfl) (by kernel_rfl) (by kernel_rfl) (fun c a w h=>h) HC.out ⟨by rfl,fun wq hq=>by obtain ⟨q0,q1,q2,q3⟩:=hq;go_simp⟩ ?_
 refine zAg 25 3 164 (.slice (some ⟨xb,0,none⟩) s.txs.length xcap) rfl rfl (by kernel_rfl) (by kernel_rfl) (by kernel_rfl) (by kernel_rfl) (fun c a w h=>h) HC.out ⟨by rfl,fun wq hq=>by obtain ⟨q0,q1,q2,q3⟩:=hq;go_simp⟩ ?_
 refine zAg 25 4 165 (.int .i64 id) rfl rfl (by kernel_rfl) (by kernel_rfl) (by kernel_rfl) (by kernel_rfl) (fun c a w h=>h) HC.out ⟨by rfl,fun wq hq=>by obtain ⟨q0,q1,q2,q3⟩:=hq;go_simp⟩ ?_
 refine zAg 25 5 166 (.int .i64 i) rfl rfl (by kernel_rfl) (by kernel_rfl) (by kernel_rfl) (by kernel_rfl) (fun c a w h=>h) HC.out ⟨by rfl,fun wq hq=>by obtain ⟨q0,q1,q2,q3⟩:=hq;go_simp⟩ ?_
 refine zAg 25 6 167 (.pointer (some ⟨gs,0,none⟩)) rfl rfl (by kernel_rfl) (by kernel_rfl) (by kernel_rfl) (by kernel_rfl) (fun c a w h=>h) HC.out ⟨by rfl,fun wq hq=>by obtain ⟨q0,q1,q2,q3⟩:=hq;go_simp⟩ ?_
 refine zAg 25 7 168 (.pointer (some ⟨gs,0,none⟩)) rfl rfl (by kernel_rfl) (by kernel_rfl) (by kernel_rfl) (by kernel_rfl) (fun c a w h=>h) HC.out ⟨by rfl,fun wq hq=>by obtain ⟨q0,q1,q2,q3⟩:=hq;go_simp⟩ ?_
 refine zAg 25 8 169 (.pointer (some ⟨gs,1,none⟩)) rfl rfl (by kernel_rfl) (by kernel_rfl) (by kernel_rfl) (by kernel_rfl) (fun c a w h=>h) HC.out ⟨by rfl,fun wq hq=>by obtain ⟨q0,q1,q2,q3⟩:=hq;go_simp⟩ ?_
 refine zAg 25 9 170 (.slice (some ⟨xb,0,none⟩) s.txs.length xcap) rfl rfl (by kernel_rfl) (by kernel_rfl) (by kernel_rfl) (by kernel_rfl) (fun c a w h=>h) HC.out ⟨by rfl,fun wq hq=>by obtain ⟨q0,q1,q2,q3⟩:=hq;go_simp⟩ ?_
 refine zAg 25 10 171 (.int .i64 id) rfl rfl (by kernel_rfl) (by kernel_rfl) (by kernel_rfl) (by kernel_rfl) (fun c a w h=>h) HC.out ⟨by rfl,fun wq hq=>by obtain ⟨q0,q1,q2,q3⟩:=hq;go_simp⟩ ?_
 refine zAg 25 11 172 (.int .i64 i) rfl rfl (by kernel_rfl) (by kernel_rfl) (by kernel_rfl) (by kernel_rfl) (fun c a w h=>h) HC.out ⟨by rfl,fun wq hq=>by obtain ⟨q0,q1,q2,q3⟩:=hq;go_simp⟩ ?_
 refine zAg 25 12 173 (.pointer (some ⟨xb,i*3,none⟩)) rfl rfl (by kernel_rfl) (by kernel_rfl) (by kernel_rfl) (by kernel_rfl) (fun c a w h=>h) HC.out ⟨by rfl,fun wq hq=>by obtain ⟨q0,q1,q2,q3⟩:=hq;go_simp⟩ ?_
 refine zAg 25 13 174 (.pointer (some ⟨xb,i*3,none⟩)) rfl rfl (by kernel_rfl) (by kernel_rfl) (by kernel_rfl) (by kernel_rfl) (fun c a w h=>h) HC.out ⟨by rfl,fun wq hq=>by obtain ⟨q0,q1,q2,q3⟩:=hq;go_simp⟩ ?_
 refine zAg 25 14 175 (.slice ua t.ops.length ucap) rfl rfl (by kernel_rfl) (by kernel_rfl) (by kernel_rfl) (by kernel_rfl) (fun c a w h=>h) HC.out ⟨by rfl,fun wq hq=>by obtain ⟨q0,q1,q2,q3⟩:=hq;go_simp⟩ ?_
 refine zAg 25 15 176 (.pointer (some ⟨ab,0,none⟩)) rfl rfl (by kernel_rfl) (by kernel_rfl) (by kernel_rfl) (by kernel_rfl) (fun c a w h=>h) HC.out ⟨by rfl,fun wq hq=>by obtain ⟨q0,q1,q2,q3⟩:=hq;go_simp⟩ ?_
 refine zAg 25 16 177 (.int .i64 what) rfl rfl (by kernel_rfl) (by kernel_rfl) (by kernel_rfl) (by kernel_rfl) (fun c a w h=>h) HC.out ⟨by rfl,fun wq hq=>by obtain ⟨q0,q1,q2,q3⟩:=hq;go_simp⟩ ?_
 refine zAg 25 17 178 (.string key) rfl rfl (by kernel_rfl) (by kernel_rfl) (by kernel_rfl) (by kernel_rfl) (fun c a w h=>h) HC.out ⟨by rfl,fun wq hq=>by obtain ⟨q0,q1,q2,q3⟩:=hq;go_simp⟩ ?_
 refine zAg 25 18 179 (.pointer (some ⟨pb,1,none⟩)) rfl rfl (by kernel_rfl) (by kernel_rfl) (by kernel_rfl) (by kernel_rfl) (fun c a w h=>h) HC.out ⟨by rfl,fun wq hq=>by obtain ⟨q0,q1,q2,q3⟩:=hq;go_simp⟩ ?_
 refine zAg 25 19 180 (.string val) rfl rfl (by kernel_rfl) (by kernel_rfl) (by kernel_rfl) (by kernel_rfl) (fun c a w h=>h) HC.out ⟨by rfl,fun wq hq=>by obtain ⟨q0,q1,q2,q3⟩:=hq;go_simp⟩ ?_
 refine zAg 25 20 181 (.agg #[.int .i64 what,.string key,.string val,.bool false]) rfl rfl (by kernel_rfl) (by kernel_rfl) (by kernel_rfl) (by kernel_rfl) (fun c a w h=>h) HC.out ⟨by rfl,fun wq hq=>by obtain ⟨q0,q1,q2,q3⟩:=hq;go_simp⟩ ?_
 refine zAu 25 21 182 rfl rfl (by kernel_rfl) rfl (v:=.slice (some ⟨w.heap.size,0,none⟩) 1 1) (w':=(w.alloc (.cells #[.int .i64 what,.string key,.string val,.bool false] 51)).drew) (by go_simp) HC1.out ?_
 refine zAu 25 22 183 rfl rfl (by kernel_rfl) rfl (v:=.slice a7 (t.ops.length+1) cap7) (w':=w7) (zDi (s:=.tmp 175) (x:=.tmp 182) (t:=44) rfl (by go_simp) (by go_simp) hrun7) HC7.out ?_
 refine zAu 25 23 184 rfl rfl (by kernel_rfl) rfl (v:=.pointer (some ⟨xb,i*3,none⟩)) (w':=w7) (by go_simp) HC7.out ?_
 refine zAu 25 24 185 rfl rfl (by kernel_rfl) rfl (v:=.pointer (some ⟨xb,i*3,none⟩)) (w':=w7) (by go_simp) HC7.out ?_
 refine zGu 25 rfl (by kernel_rfl) rfl (w':=w7.setCell ⟨xb,i*3,none⟩ (.slice a7 (t.ops.length+1) cap7)) (by go_simp) ?_
 refine ⟨by kernel_rfl,?_⟩
 show R _ _
 refine HN.out _ _ ?_ HPOST.out
 refine EndF.put0 ?_ _
 repeat (refine EndF.put ?_ _ (by decide))
 exact HF.out
end Go.Proofs.YtmaiggbnceejiaaGreatDoor
