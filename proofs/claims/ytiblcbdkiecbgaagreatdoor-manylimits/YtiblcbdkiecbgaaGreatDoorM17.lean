import Derived.Test.YtiblcbdkiecbgaaGreatDoorM16
set_option linter.unusedVariables false
set_option maxRecDepth 100000
set_option maxHeartbeats 16000000
namespace Go.Proofs.YtiblcbdkiecbgaaGreatDoor
open Go.RowKit Go.Lib Go.Maps
theorem wpList_exec{P:Program}{w w':World}{ops:Array Oper}{rest:List Oper}{o:Oper}{a:Act}{Q:Exit->Act->World->Prop}{v:Value}(hgd:o.guard=none)(hrun:(execOp a.eval o).run P w=.ok (.value v) w')(h:wpList P ops Q rest (a.put o.dst v) w'):wpList P ops Q (o :: rest) a w:=by
 refine wpList_plain hgd fun K hK=>?_
 unfold Oper.wp
 rw [hrun]
 exact hK _ _ h
structure LineN(w:World)(L:Lo)(bs:List Nat)(nv lv:Nat->Value)(ns:List NodeS):Prop where
 len:bs.length=ns.length
 nd:bs.Nodup
 node:∀ (j c:Nat) s,bs[j]?=some c->ns[j]?=some s->NodeP w L c (nv c) (lv c) s
 ap:∀ c∈bs,∀ c'∈bs,c≠c'->∀ z,nodeMay c (nv c) (lv c) z->¬ nodeMay c' (nv c') (lv c') z
theorem LineN.quiet{w w':World}{L:Lo}{bs:List Nat}{nv lv:Nat->Value}{ns:List NodeS}(h:LineN w L bs nv lv ns)(hm:Mod noBlock w w'):LineN w' L bs nv lv ns:=⟨h.len,h.nd,fun j c s hc hs=>(h.node j c s hc hs).quiet hm,h.ap⟩
def updV(f:Nat->Value)(d:Nat)(v:Value):Nat->Value:=fun x=>if x=d then v else f x
theorem updV_at(f:Nat->Value)(d:Nat)(v:Value):updV f d v d=v:=by simp [updV]
theorem updV_ne(f:Nat->Value){d x:Nat}(v:Value)(h:x≠d):updV f d v x=f x:=by simp [updV,h]
theorem LineN.turn{w w':World}{L:Lo}{bs:List Nat}{nv lv:Nat->Value}{ns:List NodeS}(h:LineN w L bs nv lv ns){j c:Nat}(hc:bs[j]?=some c){nv' lv':Value}{x:NodeS}(hm:Mod (nodeMay c (nv c) (lv c)) w w')(hN:NodeP w' L c nv' lv' x)(h1:Moved w (nv c) nv')(h2:Moved w (lv c) lv'):LineN w' L bs (updV nv c nv') (updV lv c lv') (ns.set j x):=by
 have hcm:=List.mem_of_getElem? hc
 have hjl:j<ns.length:=by have:=(List.getElem?_eq_some_iff.1 hc).1;have:=h.len;omega
 have hold:=h.node j c _ hc (List.getElem?_eq_getElem hjl)
 have hlt:∀ d∈bs,∀ z,nodeMay d (nv d) (lv d) z->z<w.heap.size:=fun d hd z hz=>by
  obtain ⟨i,hi⟩:=List.getElem?_of_mem hd
  have hil:i<ns.length:=by have:=(List.getElem?_eq_some_iff.1 hi).1;have:=h.len;omega
  exact ((h.node i d _ hi (List.getElem?_eq_getElem hil)).lt hz).2.1
 have hmay:∀ z,nodeMay c nv' lv' z->z<w.heap.size->nodeMay c (nv c) (lv c) z:=fun z hz hl=>by
  rcases hz with e | e | e
  ·exact .inl e
  ·rcases h1 with q | q
   ·exact .inr (.inl (by rw [<-q];exact e))
   ·have:=q z e;omega
  ·rcases h2 with q | q
   ·exact .inr (.inr (by rw [<-q];exact e))
   ·have:=q z e;omega
 refine ⟨by rw [List.length_set];exact h.len,h.nd,fun i d s hd hs=>?_,fun d hd d' hd' hne z hz=>?_⟩
 ·rw [set_get] at hs
  by_cases e:i=j
  ·rw [if_pos ⟨e,by omega⟩] at hs
   cases hs
   subst e
   rw [hc] at hd;cases hd
   rw [updV_at,updV_at];exact hN
  ·rw [if_neg (fun q=>e q.1)] at hs
   have hne:d≠c:=fun q=>e (by subst q;exact nodup_at h.nd hd hc)
   rw [updV_ne _ _ hne,updV_ne _ _ hne]
   exact NodeP.mod (h.node i d s hd hs) hm (NodeP.qm hold) (fun z hz q=>h.ap d (List.mem_of_getElem? hd) c hcm hne z hz q)
 ·by_cases e:d=c
  ·subst e
   have hne':d'≠d:=fun q=>hne q.symm
   rw [updV_at,updV_at] at hz
   rw [updV_ne _ _ hne',updV_ne _ _ hne']
   intro q
   have hzl:=hlt d' hd' z q
   exact h.ap d hd d' hd' hne z (hmay z hz hzl) q
  ·rw [updV_ne _ _ e,updV_ne _ _ e] at hz
   by_cases e2:d'=c
   ·subst e2
    rw [updV_at,updV_at]
    intro q
    exact h.ap d hd d' hd' hne z hz (hmay z q (hlt d hd z hz))
   ·rw [updV_ne _ _ e2,updV_ne _ _ e2]
    exact h.ap d hd d' hd' hne z hz
theorem msgsCells_app:∀ (ms:List MsgD) (us:List Value) (ms':List MsgD) (us':List Value),us.length=ms.length->msgsCells (ms++ms') (us++us')=msgsCells ms us++msgsCells ms' us'
 | [],[],ms',us',_=>by simp [msgsCells]
 | [],_ :: _,_,_,h=>by simp at h
 | _ :: _,[],_,_,h=>by simp at h
 | m :: ms,u :: us,ms',us',h=>by simp [msgsCells,msgsCells_app ms us ms' us' (by simpa using h)]
theorem msgsCells_one{w:World}{L:Lo}:∀ (ms:List MsgD) (us:List Value),us.length=ms.length->(∀ (i:Nat) m u,ms[i]?=some m->us[i]?=some u->PairsT w L u m.cmd.writes)->∀ u∈msgsCells ms us,u.oneCell'=true
 | [],[],_,_=>by simp [msgsCells]
 | [],_ :: _,h,_=>by simp at h
 | _ :: _,[],h,_=>by simp at h
 | m :: ms,u :: us,h,hp=>by
  intro x hx
  rcases List.mem_append.1 hx with e | e
  ·obtain ⟨a,cap,rfl,_⟩:=hp 0 m u rfl rfl
   exact msg_one m a _ cap x e
  ·exact msgsCells_one ms us (by simpa using h) (fun i m' u' h1 h2=>hp (i+1) m' u' (by simpa using h1) (by simpa using h2)) x e
theorem RowM.join{w:World}{L:Lo}{v r:Value}{ms ms':List MsgD}(h:RowM w L v ms)(k:RowM w L r ms')(hl:ms.length+ms'.length<=1000)(hb:L.n<=w.heap.size)(ty:TypeId) :
  ∃ v' w',(Builtin.append_ #[151,151] ty #[v,r]).run Tryz.prog w=.ok v' w'/\RowM w' L v' (ms++ms')/\w.grownBy w' v.ownBlock/\(v'.ownBlock=v.ownBlock\/v'.ownBlock=some w.heap.size):=by
 obtain ⟨i0,hi,hz0,hz1,hz2⟩:=info_parts Tryz.info178
 obtain ⟨us,h1,h2,h3,h4⟩:=h
 obtain ⟨us',k1,k2,k3,k4⟩:=k
 rcases k2.2 with ⟨e,e0⟩ | ⟨g',cap',cur,e,_⟩
 ·subst e
  have hnil:ms'=[]:=List.eq_nil_of_length_eq_zero e0
  subst hnil
  refine ⟨v,w,run_append_owned_none (P:=Tryz.prog) (w:=w) L.n 151 ty 178 i0 9 Tryz.underlying151 hi v _ _ h2,by rw [List.append_nil];exact ⟨us,h1,h2,h3,h4⟩,⟨rfl,rfl,rfl,Nat.le_refl _,fun _ _ _=>rfl⟩,.inl rfl⟩
 ·subst e
  have hcl:=k2.cells (g:=g') rfl
  obtain ⟨v',w',hr,hown,hgr,_,hat⟩:=run_append_own_at (P:=Tryz.prog) w L.n 151 ty 178 i0 _ 9 88 Tryz.underlying151 hi hz0 hz1 hz2 rfl (by omega) v _ _ h2 ⟨g',0,none⟩ ms'.length cap' (msgsCells ms' us') (msgsCells_len ms' us' k1) hcl (msgsCells_one ms' us' k1 k3) (by unfold maxLen;omega) (by omega) hb
  have hm:Mod (fun z=>v.ownBlock=some z) w w':=(Mod.refl _ w).grown hgr (fun x hx _=>hx)
  have hq:=Qm.row h2 (Nat.le_refl _) (by decide)
  refine ⟨v',w',hr,⟨us++us',by rw [List.length_append,List.length_append,h1,k1],?_,fun i m u hi' hu=>?_,fun m hm'=>?_⟩,hgr,hat⟩
  ·rw [msgsCells_app ms us ms' us' h1,List.length_append];exact hown
  ·by_cases hlt:i<ms.length
   ·rw [List.getElem?_append_left hlt] at hi'
    rw [List.getElem?_append_left (by omega)] at hu
    exact (h3 i m u hi' hu).mod hm hq
   ·rw [List.getElem?_append_right (by omega)] at hi'
    rw [List.getElem?_append_right (by omega),h1] at hu
    exact (k3 _ m u hi' hu).mod hm hq
  ·rcases List.mem_append.1 hm' with e | e
   ·exact h4 m e
   ·exact k4 m e
end Go.Proofs.YtiblcbdkiecbgaaGreatDoor
