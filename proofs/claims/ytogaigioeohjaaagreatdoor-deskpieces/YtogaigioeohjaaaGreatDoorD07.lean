import Derived.Test.YtogaigioeohjaaaGreatDoorD03
import Derived.Lib.SliceRun
set_option linter.unusedVariables false
set_option maxRecDepth 100000
set_option maxHeartbeats 16000000
namespace Go.Proofs.YtogaigioeohjaaaGreatDoor
open Go.RowKit Go.Lib Go.Maps
theorem Blk.setCells{g:Nat}{t:TypeId}:∀ (vs:List Value) (w:World) (a old c:List Value),Blk w g (a++old++c) t->old.length=vs.length->Blk (w.setCells g a.length vs) g (a++vs++c) t
 | [],w,a,old,c,h,hl=>by
  have:old=[]:=List.eq_nil_of_length_eq_zero hl
  subst this;exact h
 | v :: vs,w,a,[],c,h,hl=>by simp at hl
 | v :: vs,w,a,x :: old,c,h,hl=>by
  have h1:=h.set a.length v
  have e:((a++x :: old++c).set a.length v)=(a++[v])++old++c:=by simp
  rw [e] at h1
  have:=Blk.setCells vs (w.setCell ⟨g,a.length,none⟩ v) (a++[v]) old c h1 (by simpa using hl)
  simp only [List.length_append,List.length_cons,List.length_nil] at this
  rw [World.setCells]
  simpa using this
theorem Mod.setCells{g:Nat}:∀ (vs:List Value) (o:Nat) (w:World),Mod (zAd g) w (w.setCells g o vs)
 | [],_,_=>Mod.refl _ _
 | v :: vs,o,w=>(Mod.setBlk g o v).trans (Mod.setCells vs (o+1) (w.setCell ⟨g,o,none⟩ v))
theorem zFz:∀ (a b:List MsgD) (ua ub:List Value),ua.length=a.length->zAj (a++b) (ua++ub)=zAj a ua++zAj b ub
 | [],b,[],ub,_=>by simp [zAj]
 | [],_,_ :: _,_,h=>by simp at h
 | _ :: _,_,[],_,h=>by simp at h
 | m :: a,b,u :: ua,ub,h=>by simp [zAj,zFz a b ua ub (by simpa using h)]
def zNl:List Value:=[.int .i64 0,.int .i64 0,.int .i64 0,.int .i64 0,.int .i64 0,.int .i64 0,.int .i64 0,.int .i64 0,.slice none 0 0]
theorem yOm(w:World):(zeroValue 110).run Tryz.prog w=.ok (.agg #[.int .i64 0,.int .i64 0,.int .i64 0,.int .i64 0,.int .i64 0,.int .i64 0,.int .i64 0,.int .i64 0,.slice none 0 0]) w:=by kernel_rfl
theorem yJu:∀ v∈zNl,v.oneCell'=true:=by
 intro v hv;simp [zNl] at hv;rcases hv with rfl | rfl <;> rfl
theorem zXj(w:World)(ty:TypeId)(b o c:Nat)(hc:∀ j,j<9->(w.cell? ⟨b,o+j,none⟩).isSome=true)(hf:∀ j,j<9->w.frozen? ⟨b,o+j,none⟩=false) :
  (Builtin.clear_ #[82] ty #[.slice (some ⟨b,o,none⟩) 1 c]).run Tryz.prog w=.ok (.tuple #[]) (w.setCells b o zNl):=by
 have hst:=run_storeCells_cells (P:=Tryz.prog) b o zNl 0 w (by simpa [zNl] using hc) (by simpa [zNl] using hf) yJu
 simp only [Nat.add_zero] at hst
 have hzc:(Builtin.zeroCells (Value.agg #[.int .i64 0,.int .i64 0,.int .i64 0,.int .i64 0,.int .i64 0,.int .i64 0,.int .i64 0,.int .i64 0,.slice none 0 0]).cells 1).toList=zNl:=by kernel_rfl
 simp [Builtin.clear_,run_underlying Tryz.underlying82,hzc,hst]
theorem zQo{w:World}{ops:Array Oper}{rest:List Oper}{o:Oper}{a:Act}{Q:Exit->Act->World->Prop}(hgd:o.guard=none)(s:Operand)
  (ho:o.op=.call { callee:=.builtin .clear,args:=#[s],argTypes:=#[82] }) (b off n c:Nat) (hs:a.eval s=.slice (some ⟨b,off,none⟩) n c) (hn:n=1)
  (hc:∀ j,j<9->(w.cell? ⟨b,off+j,none⟩).isSome=true) (hf:∀ j,j<9->w.frozen? ⟨b,off+j,none⟩=false)
  (h:wpList Tryz.prog ops Q rest (a.put o.dst (.tuple #[])) (w.setCells b off zNl)):wpList Tryz.prog ops Q (o :: rest) a w:=by
 refine wpList_plain hgd fun K hK=>?_
 subst hn
 have hr:=zXj w o.type b off c hc hf
 unfold Oper.wp execOp
 simp only [ho,resolve,invoke,builtin,Sem.run_bind,Sem.run_pure,Result.andThen_ok,List.map_toArray,List.map_cons,List.map_nil,hs,hr]
 exact hK _ _ h
theorem yFo:∀ (ms:List MsgD) (us:List Value),us.length=ms.length->(∀ (i:Nat) m u,ms[i]?=some m->us[i]?=some u->u.oneCell'=true)->∀ x∈zAj ms us,x.oneCell'=true
 | [],_,_,_,x,hx=>by simp [zAj] at hx
 | _ :: _,[],h,_,_,_=>by simp at h
 | m :: ms,u :: us,h,hu,x,hx=>by
  rw [zAj] at hx
  rcases List.mem_append.1 hx with hx | hx
  ·have h0:=hu 0 m u rfl rfl
   simp [zAt] at hx
   rcases hx with rfl | rfl | rfl | rfl | rfl | rfl | rfl | rfl | rfl
   ·rfl
   ·rfl
   ·rfl
   ·rfl
   ·rfl
   ·rfl
   ·rfl
   ·rfl
   ·exact h0
  ·exact yFo ms us (by simpa using h) (fun i m' u' h1 h2=>hu (i+1) m' u' (by simpa using h1) (by simpa using h2)) x hx
theorem yAm{α:Type}(A X R:List α)(k:Nat):A++X.take k++(X.drop k++R)=A++X++R:=by
 rw [List.append_assoc,List.append_assoc,<-List.append_assoc (X.take k),List.take_append_drop]
theorem yIv(L:Lo)(m1 m2:List MsgD)(m:MsgD)(v:Value)(w:World)(hR:RowM w L v (m1++m :: m2))(hf:(m1++m :: m2).length<=200) :
  Calls Tryz.prog 125 #[v,.int .i64 m1.length,.int .i64 ((m1.length:Int)+1)] w fun e w'=>∃ v',e=.returned v'/\RowM w' L v' (m1++m2)/\v'.ownBlock=v.ownBlock/\Mod (fun x=>v.ownBlock=some x) w w':=by
 obtain ⟨i0,hi,hz0,hz1,hz2⟩:=info_parts Tryz.info110
 obtain ⟨us,hus,hrow,hps,hgd⟩:=hR
 rcases hrow.2 with ⟨_,h0⟩ | ⟨g,cap,cur,rfl,hLg,hg,hcap,hcm,hcs,htk⟩
 ·simp at h0
 unfold maxLen at hcm
 have hlen:(m1++m :: m2).length=m1.length+1+m2.length:=by simp;omega
 rw [hlen] at hcap hf ⊢
 have hne:(((m1.length:Int)) == (m1.length:Int)+1)=false:=by
  rw [beq_eq_false_iff_ne];omega
 obtain ⟨us1,u,us2,husp,hl1,hl2⟩:∃ us1 u us2,us=us1++u :: us2/\us1.length=m1.length/\us2.length=m2.length:=by
  rw [hlen] at hus
  have h1:m1.length<us.length:=by omega
  refine ⟨us.take m1.length,us[m1.length],us.drop (m1.length+1),?_,by rw [List.length_take];omega,by rw [List.length_drop];omega⟩
  rw [<-List.drop_eq_getElem_cons h1,List.take_append_drop]
 subst husp
 have hcells:zAj (m1++m :: m2) (us1++u :: us2)=zAj m1 us1++(zAt m u++zAj m2 us2):=by
  rw [zFz _ _ _ _ hl1,zAj]
 obtain ⟨R,hR⟩:∃ R,cur.toList=zAj m1 us1++(zAt m u++zAj m2 us2)++R:=by
  refine ⟨cur.toList.drop ((m1++m :: m2).length*9),?_⟩
  rw [<-hcells,<-htk,List.take_append_drop]
 have lA:=zCn m1 us1 hl1
 have lB:=zCn m2 us2 hl2
 have hB0:Blk w g (zAj m1 us1++(zAt m u++zAj m2 us2)++R) 110:=by
  rw [Blk,<-hR];exact hg
 have lR:(zAj m1 us1++(zAt m u++zAj m2 us2)++R).length=cap*9:=by rw [<-hR];simpa using hcs
 simp only [List.length_append,lA,lB,show (zAt m u).length=9 from rfl] at lR
 obtain ⟨A,hA⟩:∃ A,A=zAj m1 us1:=⟨_,rfl⟩
 obtain ⟨M,hM⟩:∃ M,M=zAt m u:=⟨_,rfl⟩
 obtain ⟨B,hB⟩:∃ B,B=zAj m2 us2:=⟨_,rfl⟩
 rw [<-hA] at lA hB0
 rw [<-hB] at lB hB0
 rw [<-hM] at hB0
 have lM:M.length=9:=by rw [hM];rfl
 have hone:∀ x∈B,x.oneCell'=true:=by
  rw [hB]
  refine yFo m2 us2 hl2 (fun i m' u' h1 h2=>?_)
  obtain ⟨ua,ucap,e,_⟩:=hps (m1.length+1+i) m' u' (by rw [List.getElem?_append_right (by omega),show m1.length+1+i - m1.length=i+1 by omega,List.getElem?_cons_succ];exact h1) (by rw [List.getElem?_append_right (by omega),hl1,show m1.length+1+i - m1.length=i+1 by omega,List.getElem?_cons_succ];exact h2)
  rw [e];rfl
 have hcB:∀ (j:Nat) x,B[j]?=some x->w.drew.cell? ((⟨g,(m1.length+1)*9,none⟩:Addr).add j)=some x:=fun j x hx=>by
  rw [Go.WideShapes.add_plain]
  exact hB0.cell _ (by
   rw [List.append_assoc,List.getElem?_append_right (by omega),lA,List.append_assoc,List.getElem?_append_right (by omega),lM]
   have hj:=(List.getElem?_eq_some_iff.1 hx).1
   rw [List.getElem?_append_left (by omega)]
   rw [show (m1.length+1)*9+j - m1.length*9 - 9=j by omega];exact hx)
 have hspare:∀ j,j<B.length->(w.drew.cell? ⟨g,0+m1.length*9+j,none⟩).isSome=true/\w.drew.frozen? ⟨g,0+m1.length*9+j,none⟩=false:=fun j hj=>by
  refine ⟨?_,hB0.frozen _⟩
  obtain ⟨x,hx⟩:∃ x,(A++(M++B)++R)[0+m1.length*9+j]?=some x:=⟨_,List.getElem?_eq_getElem (by simp only [List.length_append];omega)⟩
  rw [show w.drew.cell? ⟨g,0+m1.length*9+j,none⟩=some x from hB0.cell _ hx];rfl
 have HB:=Hmr hB0
 have HCB:=Hmr hcB
 have HSP:=Hmr hspare
 have HON:=Hmr hone
 have HPS:=Hmr hps
 have HGD:=Hmr hgd
 have HA:=Hmr hA
 have HBB:=Hmr hB
 clear hB0 hcB hspare hone hps hgd hg hcs htk hrow hcells hR hus hA hM hB
 have hroom:m1.length+m2.length<=cap:=by omega
 have hb1:m1.length<=cap:=by omega
 have hb2:(m1.length:Int)+1<=(m1.length:Int)+1+(m2.length:Int):=by omega
 have hb4:0<=(m1.length:Int)+1:=by omega
 go_enter Tryz.func125,Tryz.ntmps125
 go_upto_region 5 with fail
 go_cut [0] (fun v0 wc=>v0=.slice (some ⟨g,0,none⟩) (m1.length+m2.length) cap/\(∃ tail:List Value,tail.length=9/\Blk wc g (A++B++(tail++R)) 110)/\Mod (zAd g) w wc)
 case first=>
  have HF:Hid ((∃ tail:List Value,tail.length=9/\Blk (w.drew.setCells g (m1.length*9) B) g (A++B++(tail++R)) 110)/\Mod (zAd g) w (w.drew.setCells g (m1.length*9) B)):=by
   have e:m1.length*9=A.length:=by omega
   rw [Hid,e]
   refine ⟨⟨(M++B).drop B.length,by simp;omega,?_⟩,((Mod.refl (zAd g) w).drew).trans (Mod.setCells B A.length w.drew)⟩
   have:=Blk.setCells (g:=g) (t:=110) B w.drew A ((M++B).take B.length) ((M++B).drop B.length++R) (by
    have:=HB.out
    rw [Blk] at this ⊢
    rw [yAm]
    exact this) (by simp)
   exact this
  by_cases hc1:m1.length+1<cap
  ·have hb3:¬ cap=m1.length+1:=by omega
   go_region_law
    ((first
     | (refine step_append_room (by rfl) _ _ _ (by rfl) 110 i0 9 Tryz.underlying82 hi hz1 g 0 m1.length cap (by rfl) ⟨g,(m1.length+1)*9,none⟩ m2.length _ B (by rfl) lB HCB.out HON.out hroom HSP.out ?_)
     | fail))
   all_goals
    go_wp2_with fail
    go_meet
    case rel=>exact ⟨rfl,HF.out⟩
  ·obtain rfl:cap=m1.length+1:=by omega
   obtain rfl:m2=[]:=List.eq_nil_of_length_eq_zero (by omega)
   have hb8:(m1.length:Int)<=(m1.length:Int)+1:=by omega
   have hBn:B=[]:=List.eq_nil_of_length_eq_zero lB
   have HCB':Hid (∀ (j:Nat) x,B[j]?=some x->w.drew.cell? ((⟨g,0,none⟩:Addr).add j)=some x):=fun j x hx=>by rw [hBn] at hx;simp at hx
   have HBN:=Hmr hBn
   clear hBn
   go_region_law
    ((first
     | (refine step_append_room (by rfl) _ _ _ (by rfl) 110 i0 9 Tryz.underlying82 hi hz1 g 0 m1.length cap (by rfl) ⟨g,0,none⟩ 0 _ B (by rfl) lB HCB'.out HON.out hroom HSP.out ?_)
     | fail))
   all_goals
    go_wp2_with fail
    go_meet
    case rel=>exact ⟨rfl,by have:=HF.out;rw [show w.drew.setCells g (m1.length*9) B=w.drew by rw [HBN.out];rfl] at this;exact this⟩
 case rest=>
  obtain ⟨rfl,⟨tail,htl,hB1⟩,hM1⟩:=hcut
  have hcz:∀ j,j<9->(wc.cell? ⟨g,(m1.length+m2.length)*9+j,none⟩).isSome=true:=fun j hj=>by
   obtain ⟨x,hx⟩:∃ x,(A++B++(tail++R))[(m1.length+m2.length)*9+j]?=some x:=⟨_,List.getElem?_eq_getElem (by simp only [List.length_append];omega)⟩
   rw [show wc.cell? ⟨g,(m1.length+m2.length)*9+j,none⟩=some x from hB1.cell _ hx];rfl
  have hfz:∀ j,j<9->wc.frozen? ⟨g,(m1.length+m2.length)*9+j,none⟩=false:=fun j _=>hB1.frozen _
  have HCZ:=Hmr hcz
  have HFZ:=Hmr hfz
  have hb6:(m1.length:Int)+(m2.length:Int)<=(m1.length:Int)+1+(m2.length:Int):=by omega
  have hb7:¬ cap=m1.length+m2.length:=by omega
  clear hcz hfz HCB HSP HON
  go_wp2_with (first
   | (refine zQo rfl _ rfl g ((m1.length+m2.length)*9) _ _ rfl (by omega) HCZ.out HFZ.out ?_)
   | fail)
  go_ret
  have e:(m1.length+m2.length)*9=(A++B).length:=by rw [List.length_append];omega
  have hB2:Blk (wc.setCells g ((m1.length+m2.length)*9) zNl) g (A++B++zNl++R) 110:=by
   rw [e]
   exact Blk.setCells zNl wc (A++B) tail R (by rw [List.append_assoc (A++B)];exact hB1) (by rw [htl];rfl)
  have hM2:Mod (zAd g) w (wc.setCells g ((m1.length+m2.length)*9) zNl):=hM1.trans (Mod.setCells _ _ _)
  have hq:Qm w L (zAd g):=fun k _ ek=>by
   simp only [zAd] at ek;subst ek
   have:=HB.out;rw [Blk] at this
   rintro (e1 | ⟨⟨cur',fr,e1⟩,_⟩)
   ·omega
   ·rw [this] at e1;simp at e1
  refine ⟨_,rfl,⟨us1++us2,by simp [hl1,hl2],⟨?_,.inr ⟨g,cap,(A++B++zNl++R).toArray,by simp,hLg,hB2,by simp;omega,by unfold maxLen;omega,?_,?_⟩⟩,?_,?_⟩,rfl,hM2.mono (fun i _ ei=>by simp only [zAd] at ei;rw [ei];rfl)⟩
  ·rw [zCn _ _ (by simp [hl1,hl2])]
  ·simp only [List.size_toArray,List.length_append,show zNl.length=9 from rfl];omega
  ·rw [zFz _ _ _ _ hl1,<-HA.out,<-HBB.out,List.length_append,e,List.append_assoc (A++B),List.take_left]
  ·intro i m' u' hi' hu'
   refine zAy.mod ?_ hM2 hq
   by_cases hlt:i<m1.length
   ·rw [List.getElem?_append_left hlt] at hi'
    rw [List.getElem?_append_left (by omega)] at hu'
    exact HPS.out i m' u' (by rw [List.getElem?_append_left hlt];exact hi') (by rw [List.getElem?_append_left (by omega)];exact hu')
   ·rw [List.getElem?_append_right (by omega)] at hi' hu'
    refine HPS.out (i+1) m' u' ?_ ?_
    ·rw [List.getElem?_append_right (by omega),show i+1 - m1.length=i - m1.length+1 by omega,List.getElem?_cons_succ];exact hi'
    ·rw [List.getElem?_append_right (by omega),show i+1 - us1.length=i - us1.length+1 by omega,List.getElem?_cons_succ];exact hu'
  ·intro m' hm'
   refine HGD.out m' ?_
   rcases List.mem_append.1 hm' with h | h
   ·exact List.mem_append.2 (.inl h)
   ·exact List.mem_append.2 (.inr (List.mem_cons_of_mem _ h))
variable {E:Ext}
def yTm(s:NetS)(k:Nat):NetS:=⟨s.way.eraseIdx k,s.lost,s.down⟩
theorem yOz{α:Type}{l:List α}{k:Nat}{x:α}(h:l[k]?=some x):∃ a b,l=a++x :: b/\a.length=k/\l.eraseIdx k=a++b:=by
 have hk:k<l.length:=(List.getElem?_eq_some_iff.1 h).1
 refine ⟨l.take k,l.drop (k+1),?_,by rw [List.length_take];omega,by rw [List.eraseIdx_eq_take_drop_succ]⟩
 rw [List.getElem?_eq_getElem hk] at h
 simp at h
 rw [<-h,<-List.drop_eq_getElem_cons hk,List.take_append_drop]
theorem NetP.rowed{w w6:World}{L:Lo}{g:Nat}{wv v6:Value}{mr:Option Nat}{s:NetS}{ms:List MsgD}(h:NetP E w L g wv mr s)(hm6:Mod (fun k=>wv.ownBlock=some k) w w6)(hR:RowM w6 L v6 ms)(hv:v6.ownBlock=wv.ownBlock)(hf:ms.length<=200) :
  NetP E (w6.setCell ⟨g,2,none⟩ v6) L g v6 mr ⟨ms,s.lost,s.down⟩/\Mod (zDi g wv mr) w (w6.setCell ⟨g,2,none⟩ v6):=by
 obtain ⟨a1,a2,a3⟩:=h.apart
 have hb6:Blk w6 g [E.a0,E.a1,wv,.int .i64 s.lost,.map mr,E.a5,E.a6] 90:=h.blk.mod hm6 a1
 have hb6':=hb6
 simp only [Blk] at hb6'
 have hms:Mod (zAd g) w6 (w6.setCell ⟨g,2,none⟩ v6):=Mod.setBlk g 2 _
 have hqs:Qm w6 L (zAd g):=fun k _ e=>by
  simp only [zAd] at e;subst e
  rintro (e | ⟨⟨cur,fr,e⟩,_⟩)
  ·have:=h.low;omega
  ·rw [hb6'] at e;simp at e
 refine ⟨⟨hb6.set 2 _,h.low,hR.mod hms hqs (fun k hk e=>a1 (by rw [<-hv,hk,e])),(h.dn.mod hm6 (fun k hk e=>a3 k e hk)).mod hms (fun k hk e=>a2 (by rw [hk,e])),hf,h.lo,fun k hk=>Nat.lt_of_lt_of_le (h.xb k hk) (Nat.le_trans hm6.size hms.size)⟩,?_⟩
 exact (hm6.mono (fun i _ e=>.inr (.inl e))).setCell (p:=⟨g,2,none⟩) (fun _=>.inl rfl) _
theorem yFd(L:Lo)(g:Nat)(wv:Value)(mr:Option Nat)(s:NetS)(k:Nat)(m:MsgD)(w:World)(h:NetP E w L g wv mr s)(hm:s.way[k]?=some m) :
  Calls Tryz.prog 78 #[.pointer (some ⟨g,2,none⟩),.int .i64 k] w fun e w'=>∃ wv' u,e=.returned (.tuple #[msgV m u,.nilIface])/\NetP E w' L g wv' mr (yTm s k)/\zAy w' L u m.cmd.writes/\wv'.ownBlock=wv.ownBlock/\Mod (zDi g wv mr) w w':=by
 have hk:k<s.way.length:=(List.getElem?_eq_some_iff.1 hm).1
 have hfew:=h.few
 have HH:Hid (Calls Tryz.prog 124 #[.pointer (some ⟨g,2,none⟩),.int .i64 k] (w.alloc (.cells #[.int .i64 0,.int .i64 0,.int .i64 0,.int .i64 0,.int .i64 0,.int .i64 0,.int .i64 0,.int .i64 0,.slice none 0 0] 110)) fun e w'=>e=.returned (.bool (hasB s k))/\w'=(w.alloc (.cells #[.int .i64 0,.int .i64 0,.int .i64 0,.int .i64 0,.int .i64 0,.int .i64 0,.int .i64 0,.int .i64 0,.slice none 0 0] 110))):=zSw L g wv mr s k _ (h.mod ((Mod.refl zAb w).alloc _) (Qm.none _ _) (fun _ _=>id))
 have hha:hasB s k=true:=by simp [hasB];omega
 rw [hha] at HH
 obtain ⟨w0,hw0⟩:∃ q,q=w.alloc (.cells #[.int .i64 0,.int .i64 0,.int .i64 0,.int .i64 0,.int .i64 0,.int .i64 0,.int .i64 0,.int .i64 0,.slice none 0 0] 110):=⟨_,rfl⟩
 have hm0:Mod zAb w w0:=by rw [hw0];exact (Mod.refl _ w).alloc _
 have hZ0:Blk w0 w.heap.size [.int .i64 0,.int .i64 0,.int .i64 0,.int .i64 0,.int .i64 0,.int .i64 0,.int .i64 0,.int .i64 0,.slice none 0 0] 110:=by rw [hw0];exact Blk.new w _ _
 have h0:=h.mod hm0 (Qm.none _ _) (fun _ _=>id)
 rw [<-hw0] at HH
 go_enter Tryz.func78,Tryz.ntmps78
 go_wp2_with fail
 rw [<-hw0]
 clear hw0 hha
 refine HH.out.mono ?_
 rintro e w1 ⟨rfl,hw1⟩
 subst hw1
 clear HH
 obtain ⟨b,bcap,u,hv,hcb,hcm,hu,hgm,q0,q1,q2,q3,q4,q5,q6,q7,q8⟩:=h0.row.at hm
 subst hv
 have c0:=h0.blk.cell 2 rfl
 obtain ⟨ua,ucap,rfl⟩:∃ ua ucap,u=.slice ua m.cmd.writes.length ucap:=by obtain ⟨ua,ucap,h,_⟩:=hu;exact ⟨ua,ucap,h⟩
 obtain ⟨m1,m2,hsp,hl1,her⟩:=yOz hm
 have hR0:RowM w1 L (.slice (some ⟨b,0,none⟩) s.way.length bcap) (m1++m :: m2):=by rw [<-hsp];exact h0.row
 have hgz:=h0.blk.lt
 obtain ⟨w2,hw2⟩:∃ q,q=w1.alloc (.cells #[.int .i64 m.kind,.int .i64 m.frm,.int .i64 m.to,.int .i64 m.epoch,.int .i64 m.n,.int .i64 m.cmd.kind,.int .i64 m.cmd.tx,.int .i64 m.cmd.time,.slice ua m.cmd.writes.length ucap] 110):=⟨_,rfl⟩
 have hm2:Mod zAb w1 w2:=by rw [hw2];exact (Mod.refl _ w1).alloc _
 have hB2:Blk w2 w1.heap.size (zAt m (.slice ua m.cmd.writes.length ucap)) 110:=by rw [hw2];exact Blk.new w1 _ _
 have h2:=h0.mod hm2 (Qm.none _ _) (fun _ _=>id)
 have c2:=h2.blk.cell 2 rfl
 have f2:=h2.blk.frozen 2
 have hD:=yIv L m1 m2 m _ w2 (hR0.mod hm2 (Qm.none _ _) (fun _ _=>id)) (by rw [<-hsp];exact hfew)
 rw [hl1] at hD
 have HD:=Hmr hD
 have HER:=Hmr her
 clear hD her hsp hR0
 go_wp2_with fail
 rw [<-hw2]
 refine HD.out.mono ?_
 rintro e w3 ⟨v3,rfl,hR3,hv3,hm3⟩
 rw [<-HER.out] at hR3
 have hAP:=h2.apart
 have R:=h2.rowed hm3 hR3 hv3 (by rw [List.length_eraseIdx];split <;> omega)
 have c3:=hm3.cell c2 hAP.1
 have f3:=(hm3.frozen (p:=⟨g,2,none⟩) h2.blk.lt hAP.1).trans f2
 have hu3:=((hu.mod hm2 (Qm.none _ _)).mod hm3 (Qm.of_net h2 (fun k _ e=>.inr (.inl e))))
 have hbl:b<w.heap.size:=(h.lt (.inr (.inl rfl))).2.1
 have hz1:=hm0.size
 have hBr:=hB2.mod hm3 (fun e=>by simp [Value.ownBlock] at e;omega)
 have hZr:=(hZ0.mod hm2 id).mod hm3 (fun e=>by simp [Value.ownBlock] at e;omega)
 have hgw:g<w.heap.size:=h.blk.lt
 have hBs:=hBr.mod (Mod.setBlk (w:=w3) g 2 v3) (fun e=>by simp only [zAd] at e;omega)
 have hZs:=hZr.mod (Mod.setBlk (w:=w3) g 2 v3) (fun e=>by simp only [zAd] at e;omega)
 obtain ⟨⟨p0,p1,p2,p3,p4,p5,p6,p7,p8⟩,_⟩:=blk9 hBs
 obtain ⟨⟨z0,z1,z2,z3,z4,z5,z6,z7,z8⟩,⟨y0,y1,y2,y3,y4,y5,y6,y7,y8⟩⟩:=blk9 hZs
 obtain ⟨va3,vc3,hv3s⟩:=hR3.slice
 subst hv3s
 have HRR:=Hmr R
 have HM:=Hmr ((hm0.trans hm2).mono (G':=zDi g (.slice (some ⟨b,0,none⟩) s.way.length bcap) mr) (fun _ _ e=>e.elim))
 have HU3:=Hmr (hu3.mod (Mod.setBlk (w:=w3) g 2 (.slice va3 (s.way.eraseIdx k).length vc3)) (fun x hx e=>by
  simp only [zAd] at e;subst e
  have hb:=h2.blk.mod hm3 hAP.1
  simp only [Blk] at hb
  rintro (e | ⟨⟨cur,fr,e⟩,_⟩)
  ·have:=h.low;omega
  ·rw [hb] at e;simp at e))
 have HV3:=Hmr hv3
 have HMR:Hid (∀ k,mr=some k->k<w.heap.size):=fun k hk=>(h.lt (.inr (.inr hk))).2.1
 have hlow:=h.low
 clear R hm3 hu3 hBr hZr hR3 hB2 hm2 hm0 h2 HD hZ0 h0 hu h q0 q1 q2 q3 q4 q5 q6 q7 q8 c0 c2 f2 hAP hv3
 go_wp2_with fail
 have hq9:Qm (w3.setCell ⟨g,2,none⟩ (.slice va3 (s.way.eraseIdx k).length vc3)) L (zAd w.heap.size):=fun x hx e=>by
  simp only [zAd] at e;subst e
  have hb:=hZs
  simp only [Blk] at hb
  rintro (e | ⟨⟨cur,fr,e⟩,_⟩)
  ·omega
  ·rw [hb] at e;simp at e
 refine bodyPost_ret (zDb Tryz.results78 _ ⟨w.heap.size,0,none⟩ rfl rfl (yFk hZs _ _ _ _ _ _ _ _ _)) rfl ⟨.slice va3 (s.way.eraseIdx k).length vc3,.slice ua m.cmd.writes.length ucap,rfl,?_,?_,HV3.out,?_⟩
 ·refine HRR.out.1.mod (zLf _ _ _ _ _ _ _ _ _ _ _) hq9 (fun x hx e=>?_)
  simp only [zAd] at e
  rcases hx with hx | hx | hx
  ·omega
  ·rw [HV3.out] at hx;simp [Value.ownBlock] at hx;omega
  ·have:=HMR.out x hx;omega
 ·exact HU3.out.mod (zLf _ _ _ _ _ _ _ _ _ _ _) hq9
 ·exact (HM.out.trans HRR.out.2).trans' (zLf _ _ _ _ _ _ _ _ _ _ _) (fun i hi e=>by simp only [zAd] at e;omega)
theorem yKo(L:Lo)(g:Nat)(wv:Value)(mr:Option Nat)(s:NetS)(k:Int)(w:World)(h:NetP E w L g wv mr s)(hk:hasB s k=false) :
  Calls Tryz.prog 78 #[.pointer (some ⟨g,2,none⟩),.int .i64 k] w fun e w'=>e=.returned (.tuple #[msgV yJt (.slice none 0 0),.iface 25 (.int .i64 2)])/\Mod zAb w w':=by
 have HH:=Hmr (zSw L g wv mr s k _ (h.mod ((Mod.refl zAb w).alloc (.cells #[.int .i64 0,.int .i64 0,.int .i64 0,.int .i64 0,.int .i64 0,.int .i64 0,.int .i64 0,.int .i64 0,.slice none 0 0] 110)) (Qm.none _ _) (fun _ _=>id)))
 rw [hk] at HH
 clear h hk
 go_enter Tryz.func78,Tryz.ntmps78
 go_wp2_with fail
 refine HH.out.mono ?_
 rintro e w1 ⟨rfl,rfl⟩
 go_wp2_with fail
 refine bodyPost_ret (zDb Tryz.results78 _ ⟨w.heap.size,0,none⟩ rfl rfl (zYa (Blk.new w _ _))) rfl ⟨rfl,(Mod.refl _ w).alloc _⟩
end Go.Proofs.YtogaigioeohjaaaGreatDoor
namespace Go.Proofs.YtogaigioeohjaaaGreatDoor
open Go.RowKit Go.Lib Go.Maps
variable {E:Ext}
def yQg(s:NetS)(k:Nat):NetS:=⟨s.way.eraseIdx k,s.lost+1,s.down⟩
theorem Mod.net1{w w1 w2:World}{g:Nat}{v v':Value}{mr:Option Nat}(h:Mod (zDi g v mr) w w1)(hm:v'.ownBlock=v.ownBlock)(k:Mod (zDi g v' mr) w1 w2):Mod (zDi g v mr) w w2:=h.net (.inl hm) k
theorem yQf(L:Lo)(g:Nat)(wv:Value)(mr:Option Nat)(s:NetS)(k:Nat)(m:MsgD)(w:World)(h:NetP E w L g wv mr s)(hm:s.way[k]?=some m)(hlo:s.lost+1<=4611686018427387904) :
  Calls Tryz.prog 96 #[.pointer (some ⟨g,2,none⟩),.int .i64 k] w fun e w'=>∃ wv',e=.returned .nilIface/\NetP E w' L g wv' mr (yQg s k)/\wv'.ownBlock=wv.ownBlock/\Mod (zDi g wv mr) w w':=by
 have HT:=Hmr (yFd L g wv mr s k m w h hm)
 have hl0:=h.lo
 clear h
 go_enter Tryz.func96,Tryz.ntmps96
 go_wp2_with fail
 refine HT.out.mono ?_
 rintro e w1 ⟨wv1,u,rfl,hN1,hu1,hv1,hm1⟩
 simp only [msgV]
 obtain ⟨ua,ucap,rfl⟩:∃ ua ucap,u=.slice ua m.cmd.writes.length ucap:=by obtain ⟨ua,ucap,h,_⟩:=hu1;exact ⟨ua,ucap,h⟩
 have c1:=hN1.blk.cell 3 rfl
 have hgz:=hN1.blk.lt
 have f1:=hN1.blk.frozen 3
 have HR:=Hmr (hN1.loses (s.lost+1) (by omega))
 have HV:=Hmr hv1
 have HM:=Hmr (Mod.net1 hm1 hv1 HR.out.2)
 simp only [yTm] at c1
 clear hN1 hu1 hm1 HT hv1
 go_wp2_with fail
 go_ret
 exact ⟨wv1,rfl,HR.out.1.mod ((Mod.refl zAb _).alloc _) (Qm.none _ _) (fun _ _=>id),HV.out,HM.out.alloc _⟩
theorem ySy(L:Lo)(g:Nat)(wv:Value)(mr:Option Nat)(s:NetS)(k:Int)(w:World)(h:NetP E w L g wv mr s)(hk:hasB s k=false) :
  Calls Tryz.prog 96 #[.pointer (some ⟨g,2,none⟩),.int .i64 k] w fun e w'=>e=.returned (.iface 25 (.int .i64 2))/\Mod zAb w w':=by
 have HT:=Hmr (yKo L g wv mr s k w h hk)
 clear h hk
 go_enter Tryz.func96,Tryz.ntmps96
 go_wp2_with fail
 refine HT.out.mono ?_
 rintro e w1 ⟨rfl,hm1⟩
 simp only [msgV]
 go_wp2_with fail
 go_ret
 exact ⟨rfl,hm1.alloc _⟩
theorem yOt(L:Lo)(g:Nat)(wv:Value)(mr:Option Nat)(s:NetS)(k:Int)(w:World)(h:NetP E w L g wv mr s)(hk:hasB s k=false) :
  Calls Tryz.prog 100 #[.pointer (some ⟨g,2,none⟩),.int .i64 k] w fun e w'=>e=.returned (.iface 25 (.int .i64 2))/\Mod zAb w w':=by
 have HT:=Hmr (zSw L g wv mr s k w h)
 rw [hk] at HT
 clear h hk
 go_enter Tryz.func100,Tryz.ntmps100
 go_wp2_with fail
 refine HT.out.mono ?_
 rintro e w1 ⟨rfl,rfl⟩
 go_wp2_with fail
 go_ret
 exact ⟨rfl,Mod.refl _ _⟩
theorem yGs(L:Lo)(g:Nat)(wv:Value)(mr:Option Nat)(s:NetS)(k:Int)(w:World)(h:NetP E w L g wv mr s)(hk:hasB s k=true)(hr:¬ s.way.length<200) :
  Calls Tryz.prog 100 #[.pointer (some ⟨g,2,none⟩),.int .i64 k] w fun e w'=>e=.returned (.iface 25 (.int .i64 4))/\Mod zAb w w':=by
 have HT:=Hmr (zSw L g wv mr s k w h)
 rw [hk] at HT
 have HR:=Hmr (zXm L g wv mr s w h)
 rw [decide_eq_false hr] at HR
 clear h hk hr
 go_enter Tryz.func100,Tryz.ntmps100
 go_wp2_with fail
 refine HT.out.mono ?_
 rintro e w1 ⟨rfl,hw1⟩
 subst hw1
 go_wp2_with fail
 refine HR.out.mono ?_
 rintro e w2 ⟨rfl,hw2⟩
 subst hw2
 go_wp2_with fail
 go_ret
 exact ⟨rfl,Mod.refl _ _⟩
theorem yKg(L:Lo)(g:Nat)(wv:Value)(mr:Option Nat)(s:NetS)(k:Nat)(m:MsgD)(w:World)(h:NetP E w L g wv mr s)(hm:s.way[k]?=some m)(hr:s.way.length<200)(hlo:s.lost+1<=4611686018427387904) :
  Calls Tryz.prog 100 #[.pointer (some ⟨g,2,none⟩),.int .i64 k] w fun e w'=>∃ wv',e=.returned .nilIface/\NetP E w' L g wv' mr (zFe s m)/\zCf w wv wv'/\Mod (zDi g wv mr) w w':=by
 have hk:k<s.way.length:=(List.getElem?_eq_some_iff.1 hm).1
 have HT:=Hmr (zSw L g wv mr s k w h)
 have hha:hasB s k=true:=by simp [hasB];omega
 rw [hha] at HT
 have HR:=Hmr (zXm L g wv mr s w h)
 rw [decide_eq_true hr] at HR
 clear hha
 obtain ⟨b,bcap,u,hv,hcb,hcm,hu,hgm,q0,q1,q2,q3,q4,q5,q6,q7,q8⟩:=h.row.at hm
 subst hv
 have c0:=h.blk.cell 2 rfl
 obtain ⟨ua,ucap,rfl⟩:∃ ua ucap,u=.slice ua m.cmd.writes.length ucap:=by obtain ⟨ua,ucap,h,_⟩:=hu;exact ⟨ua,ucap,h⟩
 have hm1:Mod zAb w (w.alloc (.cells #[.int .i64 m.kind,.int .i64 m.frm,.int .i64 m.to,.int .i64 m.epoch,.int .i64 m.n,.int .i64 m.cmd.kind,.int .i64 m.cmd.tx,.int .i64 m.cmd.time,.slice ua m.cmd.writes.length ucap] 110)):=(Mod.refl _ w).alloc _
 have hB1:=Blk.new w (zAt m (.slice ua m.cmd.writes.length ucap)) 110
 have hV1:yEu (w.alloc (.cells #[.int .i64 m.kind,.int .i64 m.frm,.int .i64 m.to,.int .i64 m.epoch,.int .i64 m.n,.int .i64 m.cmd.kind,.int .i64 m.cmd.tx,.int .i64 m.cmd.time,.slice ua m.cmd.writes.length ucap] 110)) L (fun x=>x=w.heap.size) (.slice (some ⟨w.heap.size,0,none⟩) 1 1) [m]:=by
  refine ⟨_,_,rfl,Nat.le_refl _,by unfold maxLen;omega,.inr ⟨w.heap.size,0,rfl,rfl,fun i m' hi'=>?_⟩⟩
  have e:i=0/\m'=m:=by
   cases i with
   | zero=>simp at hi';exact ⟨rfl,hi'.symm⟩
   | succ i=>simp at hi'
  obtain ⟨rfl,rfl⟩:=e
  exact ⟨_,hu.mod hm1 (Qm.none _ _),hgm,fun j x hx=>by
   rw [show 0+0*9+j=j by omega];exact hB1.cell j hx⟩
 have HS:=Hmr (yFg L g _ mr s _ _ [m] _ (h.mod hm1 (Qm.none _ _) (fun _ _=>id)) hV1 (fun x hx=>⟨by subst hx;simp,fun e=>by
  have:=(h.lt e).2.1;omega⟩) (by simpa using hlo))
 clear h hV1 hB1 hu
 go_enter Tryz.func100,Tryz.ntmps100
 go_wp2_with fail
 refine HT.out.mono ?_
 rintro e w1 ⟨rfl,hw1⟩
 subst hw1
 go_wp2_with fail
 refine HR.out.mono ?_
 rintro e w2 ⟨rfl,hw2⟩
 subst hw2
 go_wp2_with fail
 refine HS.out.mono ?_
 rintro e w3 ⟨wv3,rfl,hN3,hv3,hm3⟩
 go_wp2_with fail
 go_ret
 refine ⟨wv3,rfl,hN3,?_,(hm1.mono (fun _ _ e=>e.elim)).trans hm3⟩
 rcases hv3 with e | e
 ·exact .inl e
 ·exact .inr (fun x hx=>by have:=e x hx;simp at this;omega)
end Go.Proofs.YtogaigioeohjaaaGreatDoor
namespace Go.Proofs.YtogaigioeohjaaaGreatDoor
open Go.RowKit Go.Lib Go.Maps
variable {E:Ext}
structure Asks(w:World)(L:Lo)(g q:Nat)(mr:Option Nat)(ds:List Int):Prop where
 box:w.cell? ⟨q,0,none⟩=some (.pointer (some ⟨g,2,none⟩))
 fld:w.cell? ⟨g,4,none⟩=some (.map mr)
 dn:zEz w L mr ds
theorem Asks.mod{G:Nat->Prop}{w w':World}{L:Lo}{g q:Nat}{mr:Option Nat}{ds:List Int}(h:Asks w L g q mr ds)(hm:Mod G w w')(hq:¬ G q)(hg:¬ G g)(hr:∀ k,mr=some k->¬ G k):Asks w' L g q mr ds:=
 ⟨hm.cell h.box hq,hm.cell h.fld hg,h.dn.mod hm hr⟩
theorem Asks.call{w:World}{L:Lo}{g q:Nat}{mr:Option Nat}{ds:List Int}(h:Asks w L g q mr ds)(m:MsgD)(u:Value)(hi:yTa m) :
  Calls Tryz.prog 185 #[.agg #[.int .i64 m.kind,.int .i64 m.frm,.int .i64 m.to,.int .i64 m.epoch,.int .i64 m.n,.int .i64 m.cmd.kind,.int .i64 m.cmd.tx,.int .i64 m.cmd.time,u],.pointer (some ⟨q,0,none⟩)] w fun e w'=>e=.returned (.bool (zDx ds m))/\Mod zAb w w':=
 zRw g q L m u mr ds w h.box h.fld h.dn hi
def zJx(ds:List Int):List MsgD->Option Nat
 | []=>none
 | m :: ms=>if zDx ds m then some 0 else (zJx ds ms).map (·+1)
theorem yBo(ds:List Int):∀ (ms:List MsgD) (k:Nat),(∀ i m,i<k->ms[i]?=some m->zDx ds m=false)->∀ m,ms[k]?=some m->zDx ds m=true->zJx ds ms=some k
 | [],_,_,m,h,_=>by simp at h
 | m' :: ms,0,_,m,h,hs=>by simp at h;subst h;simp [zJx,hs]
 | m' :: ms,k+1,hf,m,h,hs=>by
  have h0:=hf 0 m' (by omega) rfl
  have:=yBo ds ms k (fun i m hi hm=>hf (i+1) m (by omega) (by simpa using hm)) m (by simpa using h) hs
  simp [zJx,h0,this]
theorem zTg(ds:List Int):∀ (ms:List MsgD),(∀ (i:Nat) m,ms[i]?=some m->zDx ds m=false)->zJx ds ms=none
 | [],_=>rfl
 | m :: ms,h=>by
  have h0:=h 0 m rfl
  simp [zJx,h0,zTg ds ms (fun i m hm=>h (i+1) m (by simpa using hm))]
def yMv(o:Option Nat):Int:=match o with | none=>-1 | some k=>k
theorem yMc(L:Lo)(g q:Nat)(mr:Option Nat)(ds:List Int)(v:Value)(ms:List MsgD)(w:World)(hR:RowM w L v ms)(hA:Asks w L g q mr ds)(hf:ms.length<=200) :
  Calls Tryz.prog 200 #[v,.func (.func 185) #[] #[.pointer (some ⟨q,0,none⟩)]] w fun e w'=>e=.returned (.int .i64 (yMv (zJx ds ms)))/\Mod zAb w w':=by
 obtain ⟨va,vcap,hv⟩:=hR.slice
 subst hv
 go_enter Tryz.func200,Tryz.ntmps200
 go_wp2_with fail
 go_loopw [8] (fun i wr=>∃ k:Nat,k<=ms.length/\i=.int .i64 k/\(∀ i m,i<k->ms[i]?=some m->zDx ds m=false)/\Mod zAb w wr) (fun i _=>ms.length - (intOf i).toNat)
 case atStart=>exact ⟨0,Nat.zero_le _,rfl,fun i m h=>by omega,Mod.refl _ _⟩
 case round=>
  obtain ⟨k,hk,rfl,hno,hM⟩:=hrel
  have HNO:=Hmr hno
  clear hno
  by_cases hlt:k<ms.length
  ·obtain ⟨m,hm⟩:∃ m,ms[k]?=some m:=⟨_,List.getElem?_eq_getElem hlt⟩
   obtain ⟨b,bcap,u,hv,_,_,hu,hgm,q0,q1,q2,q3,q4,q5,q6,q7,q8⟩:=(hR.mod hM (Qm.none _ _) (fun _ _=>id)).at hm
   simp only [Value.slice.injEq] at hv
   obtain ⟨rfl,_,rfl⟩:=hv
   have HC:=Hmr ((hA.mod hM id id (fun _ _=>id)).call m u hgm.1)
   have HMM:=Hmr hm
   clear hm
   go_wp2_with fail
   refine HC.out.mono ?_
   rintro e w5 ⟨rfl,hm5⟩
   have hM5:=hM.trans hm5
   clear HC q0 q1 q2 q3 q4 q5 q6 q7 q8
   cases hs:zDx ds m with
   | true=>
    have HF:=Hmr (yBo ds ms k HNO.out m HMM.out hs)
    go_wp2_with fail
    go_ret
    exact ⟨by rw [HF.out];rfl,hM5⟩
   | false=>
    go_wp2_with fail
    go_roundw
    case rel=>
     refine ⟨k+1,by omega,by go_num,fun i m' hi' hm'=>?_,hM5⟩
     by_cases hik:i<k
     ·exact HNO.out i m' hik hm'
     ·obtain rfl:i=k:=by omega
      rw [HMM.out] at hm';cases hm';exact hs
    case measure=>simp [intOf];omega
  ·have HF:=Hmr (zTg ds ms (fun i m hm=>HNO.out i m (by have:=(List.getElem?_eq_some_iff.1 hm).1;omega) hm))
   go_wp2_with fail
   go_ret
   exact ⟨by rw [HF.out];rfl,hM⟩
end Go.Proofs.YtogaigioeohjaaaGreatDoor
