import Derived.Test.YtiblcbdkiecbgaaGreatDoorM01
import Derived.RegionTactic
import Derived.Orders
import Derived.Test.YtiblcbdkiecbgaaGreatDoorM12
import Derived.RangeFuncNested
import Derived.RangeFuncBound
import Derived.RangeFuncCalls
import Derived.RangeFuncLeaves
import Derived.Shelf.Abstract
import Derived.OwnWalkIn
import Derived.TacticsInMore
import Derived.LoopNIn
import Derived.LoopIn
set_option linter.unusedVariables false
set_option maxRecDepth 100000
set_option maxHeartbeats 16000000
namespace Go.Proofs.YtiblcbdkiecbgaaGreatDoor
open Go.RowKit
section
variable {P:Program} {ops:Array Oper} {Q:Exit->Act->World->Prop} {md:Region.Mode} {C:World->Prop}
theorem wp_with{c:Code}{a:Act}{w:World}(h:∀ b,b=a->c.wp P Q b w):c.wp P Q a w:=h a rfl
theorem wp_withQ{c:Code}{a:Act}{w:World}(h:∀ Q',Q'=Q->c.wp P Q' a w):c.wp P Q a w:=h Q rfl
def YieldsC(P:Program)(ops:Array Oper)(C:World->Prop)(o:Oper)(v:Value)(a:Act):Prop:=
 Region.wanted o (yielded ops a.tmps)=true/\∀ w,C w->(execOp a.eval o).run P w=.ok (.value v) w
theorem YieldsC.of_same{o:Oper}{v:Value}{a a':Act}(hy:YieldsC P ops C o v a)(he:execOp a'.eval o=execOp a.eval o)
  (hw:Region.wanted o (yielded ops a'.tmps)=Region.wanted o (yielded ops a.tmps)):YieldsC P ops C o v a':=by
 unfold YieldsC at *
 rw [he,hw]
 exact hy
theorem YieldsC.wpOp{i:Nat}{o:Oper}{v:Value}{a:Act}(hi:ops[i]?=some o)(hy:YieldsC P ops C o v a)
  {K:Act->World->Prop} {w:World} (hC:C w) (h:K (a.put o.dst v) w):wpOp P ops Q i K a w:=by
 unfold Go.wpOp
 simp only [hi]
 obtain ⟨hw,hv⟩:=hy
 simp only [hw,if_true,Oper.wp,hv w hC,Oper.upon]
 exact .inl h
theorem wpOp_framed{j:Nat}{oj:Oper}(hj:ops[j]?=some oj){K:Act->World->Prop}{a:Act}{w:World}(h:wpOp P ops Q j K a w) :
  wpOp P ops Q j (fun a' w'=>K a' w'/\∃ u ds,a'={ a.put oj.dst u with defers:=ds }) a w:=by
 have dd:∀ u ds,({ a with defers:=ds }:Act).put oj.dst u={ a.put oj.dst u with defers:=ds }:=fun u ds=>by cases oj.dst <;> rfl
 unfold wpOp at h ⊢
 simp only [hj] at h ⊢
 by_cases hw:Region.wanted oj (yielded ops a.tmps)=true
 ·rw [if_pos hw] at h ⊢
  refine h.imp (fun h=>?_) id
  unfold Oper.wp at h ⊢
  cases hr:(execOp a.eval oj).run P w with
  | halt x w'=>rw [hr] at h;cases x <;> exact h
  | ok n w'=>
   rw [hr] at h
   cases n with
   | value u=>exact ⟨h,u,_,rfl⟩
   | skip=>exact ⟨h,undef,_,rfl⟩
   | defer d=>exact ⟨h,undef,_,dd _ _⟩
   | enter f args=>
    refine Calls.mono h fun e w'' he=>?_
    cases e with
    | returned u=>exact ⟨he,u,_,rfl⟩
    | panicked c=>exact he
    | outgrown=>exact he
   | row r args=>exact Rows.mono h fun u w'' he=>⟨he,u,_,rfl⟩
   | _=>exact h
 ·rw [if_neg hw] at h ⊢
  exact ⟨h,undef,_,rfl⟩
theorem wpOp_putC{j:Nat}{oi oj:Oper}{v:Value}(hj:ops[j]?=some oj)(hap:oi.apart ops oj=true)
  (hsi:∀ cs b,oi.op≠.select cs b) (hsj:∀ cs b,oj.op≠.select cs b)
  (hQ:∀ c a w,Q (.panic c) (a.put oi.dst v) w->Q (.panic c) a w) {K:Act->World->Prop} {a:Act} {w:World}
  (hy:YieldsC P ops C oi v a) (h:wpOp P ops Q j K (a.put oi.dst v) w) :
  wpOp P ops Q j (fun a' w'=>YieldsC P ops C oi v a'/\K (a'.put oi.dst v) w') a w:=by
 obtain ⟨h1,h2,h3⟩:=Oper.apart_spec hap
 have hl:({ oi with op:=.assign (.const v),guard:=none }:Oper).looksAt ops=[]:=by simp [Oper.looksAt,Op.operands]
 have hc:({ oi with op:=.assign (.const v),guard:=none }:Oper).apart ops oj=true:=by
  unfold Oper.apart
  rw [hl]
  cases hd:oi.dst with
  | none=>cases oj.dst <;> simp
  | some d=>
   have q1:(oj.looksAt ops).contains d=false:=by simpa using h1 d hd
   have q2:(oj.dst != some d)=true:=by simpa using h2 d hd
   simp only [q1,q2]
   cases oj.dst <;> simp
 have hyc:Yields P ops { oi with op:=.assign (.const v),guard:=none } v a:=.inl ⟨by simp [Region.wanted],fun w=>rfl⟩
 refine wpOp_mono ?_ (wpOp_framed hj (wpOp_put (oi:={ oi with op:=.assign (.const v),guard:=none }) hj hc (fun cs b=>by simp) hsj hQ hyc h))
 rintro a' w' ⟨⟨_,hk⟩,u,ds,rfl⟩
 exact ⟨hy.of_same (execOp_put oi hsi a oj.dst u h3) (wanted_put oi a oj.dst u h3),hk⟩
def wpAnyC(P:Program)(md:Region.Mode)(ops:Array Oper)(last:Nat)(C:World->Prop)(Q:Exit->Act->World->Prop):Nat->Array Bool->Act->World->Prop
 | 0,listed,a,w=>Region.ready md ops listed=[]/\Q .normal a w
 | fuel+1,listed,a,w=>
  (Region.ready md ops listed=[]->Q .normal a w) /\
  ∀ i∈Region.ready md ops listed,wpOp P ops Q i (fun a' w'=>(i=last\/C w')/\wpAnyC P md ops last C Q fuel (listed.setIfInBounds i true) a' w') a w
theorem wpAnyC_sound{last:Nat}:∀ (fuel:Nat) (listed:Array Bool) (a:Act) (w:World),wpAnyC P md ops last C Q fuel listed a w->wpAny P md ops Q fuel listed a w
 | 0,_,_,_,h=>h
 | fuel+1,_,_,_,h=>⟨h.1,fun i hi=>wpOp_mono (fun a' w' h'=>wpAnyC_sound fuel _ a' w' h'.2) (h.2 i hi)⟩
def behind(md:Region.Mode)(ops:Array Oper)(j i:Nat):Bool:=match ops[j]? with
 | some o=>o.after.any fun e=>Region.binds md e && e.on == i
 | none=>false
theorem not_behind{i j:Nat}{listed:Array Bool}(hi:i∈Region.ready md ops listed)(hj:j∈Region.ready md ops listed):behind md ops j i=false:=by
 obtain ⟨h0,_⟩:=mem_ready.1 hi
 obtain ⟨_,o,ho,hall⟩:=mem_ready.1 hj
 cases hb:behind md ops j i with
 | false=>rfl
 | true=>
  simp only [behind,ho] at hb
  obtain ⟨e,he,hbe⟩:=Array.any_eq_true'.1 hb
  simp only [Bool.and_eq_true,beq_iff_eq] at hbe
  have h1:=hall e he hbe.1
  rw [hbe.2] at h1
  have:i<listed.size:=by
   rcases Nat.lt_or_ge i listed.size with h' | h'
   ·exact h'
   ·simp [Array.getElem?_eq_none h'] at h1
  simp [this] at h0 h1
  rw [h0] at h1
  cases h1
theorem wpAnyC_first{last i:Nat}{oi:Oper}{v:Value}(hi:ops[i]?=some oi)(hsel:∀ (j:Nat) (o:Oper) cs b,ops[j]?=some o->o.op≠.select cs b)
  (hl:(behind md ops last i || decide (ops.size<=last))=true) (hQ:∀ c a w,Q (.panic c) (a.put oi.dst v) w->Q (.panic c) a w) :
  ∀ (fuel:Nat) (listed:Array Bool) (a:Act) (w:World),Region.free md ops listed i=true->i∈Region.ready md ops listed->YieldsC P ops C oi v a->C w ->
   wpAnyC P md ops last C Q fuel (listed.setIfInBounds i true) (a.put oi.dst v) w->wpAnyC P md ops last C Q (fuel+1) listed a w:=by
 intro fuel
 induction fuel with
 | zero=>
  intro listed a w _ hr hy hC H
  refine ⟨fun h=>(by rw [h] at hr;cases hr),fun j hj=>?_⟩
  by_cases hji:j=i
  ·subst hji;exact hy.wpOp hi hC ⟨.inr hC,H⟩
  ·have:=ready_mono hj hji
   rw [H.1] at this
   cases this
 | succ fuel ih=>
  intro listed a w hfree hr hy hC H
  refine ⟨fun h=>(by rw [h] at hr;cases hr),fun j hj=>?_⟩
  by_cases hji:j=i
  ·subst hji;exact hy.wpOp hi hC ⟨.inr hC,H⟩
  ·obtain ⟨hjun,oj,hoj,hall⟩:=mem_ready.1 hj
   have hnb:=not_behind hr hj
   have hne:j≠last:=fun e=>by
    subst e
    rw [hnb,Bool.false_or] at hl
    have h1:=of_decide_eq_true hl
    have h2:=(Array.getElem?_eq_some_iff.1 hoj).1
    omega
   have hap:oi.apart ops oj=true:=Region.free_spec hi hfree j oj hoj hji hjun (fun e he hb heq=>by
    have:behind md ops j i=true:=by
     simp only [behind,hoj]
     exact Array.any_eq_true'.2 ⟨e,he,by simp [hb,heq]⟩
    rw [this] at hnb;cases hnb)
   have hfree':Region.free md ops (listed.setIfInBounds j true) i=true:=by
    simp only [Region.free,hi,List.all_eq_true,List.mem_range] at hfree ⊢
    intro k hk
    have h1:=hfree k hk
    by_cases hjk:j=k
    ·subst hjk
     have hlt:j<listed.size:=by
      rcases Nat.lt_or_ge j listed.size with h' | h'
      ·exact h'
      ·simp [Array.getElem?_eq_none h'] at hjun
     simp [hlt]
    ·rw [getD_set_ne true hjk];exact h1
   refine wpOp_mono (fun a' w' h3=>?_) (wpOp_putC hoj hap (fun cs b=>hsel i oi cs b hi) (fun cs b=>hsel j oj cs b hoj) hQ hy (H.2 j (ready_mono hj hji)))
   have hC':=h3.2.1.resolve_left hne
   refine ⟨.inr hC',ih (listed.setIfInBounds j true) a' w' hfree' (ready_mono hr (Ne.symm hji)) h3.1 hC' ?_⟩
   rw [Array.setIfInBounds_comm _ _ hji]
   exact h3.2.2
theorem wpAnyC_take(last i:Nat){oi:Oper}(v:Value){fuel:Nat}{listed:Array Bool}{a:Act}{w:World}(hi:ops[i]?=some oi)
  (hs:Region.noSelect ops=true) (hl:(behind md ops last i || decide (ops.size<=last))=true) (hf:Region.free md ops listed i=true) (hr:(Region.ready md ops listed).contains i=true)
  (hQ:∀ c a w,Q (.panic c) (a.put oi.dst v) w->Q (.panic c) a w) (hC:C w) (hy:YieldsC P ops C oi v a)
  (h:wpAnyC P md ops last C Q fuel (listed.setIfInBounds i true) (a.put oi.dst v) w):wpAnyC P md ops last C Q (fuel+1) listed a w:=
 wpAnyC_first hi (Region.noSelect_spec hs) hl hQ fuel listed a w hf (by simpa using hr) hy hC h
theorem wpAnyC_next(last i:Nat){oi:Oper}{fuel:Nat}{listed:Array Bool}{a:Act}{w:World}(hi:ops[i]?=some oi)(hr:Region.ready md ops listed=[i])
  (hw:Region.wanted oi (yielded ops a.tmps)=true) {v:Value} {w':World} (hrun:(execOp a.eval oi).run P w=.ok (.value v) w') (hC:C w')
  (h:wpAnyC P md ops last C Q fuel (listed.setIfInBounds i true) (a.put oi.dst v) w'):wpAnyC P md ops last C Q (fuel+1) listed a w:=by
 refine ⟨fun h0=>(by rw [hr] at h0;cases h0),fun j hj=>?_⟩
 rw [hr] at hj
 simp only [List.mem_singleton] at hj
 subst hj
 unfold wpOp
 simp only [hi,hw,if_true,Oper.wp,hrun,Oper.upon]
 exact .inl ⟨.inr hC,h⟩
theorem wpAnyC_last(i:Nat){oi:Oper}{fuel:Nat}{listed:Array Bool}{a:Act}{w:World}(hi:ops[i]?=some oi)(hr:Region.ready md ops listed=[i])
  (hw:Region.wanted oi (yielded ops a.tmps)=true) {w':World} (hrun:(execOp a.eval oi).run P w=.ok .skip w')
  (h:wpAnyC P md ops i C Q fuel (listed.setIfInBounds i true) (a.put oi.dst undef) w'):wpAnyC P md ops i C Q (fuel+1) listed a w:=by
 refine ⟨fun h0=>(by rw [hr] at h0;cases h0),fun j hj=>?_⟩
 rw [hr] at hj
 simp only [List.mem_singleton] at hj
 subst hj
 unfold wpOp
 simp only [hi,hw,if_true,Oper.wp,hrun,Oper.upon]
 exact .inl ⟨.inl (by simp),h⟩
theorem wpAnyC_call(last i:Nat){oi:Oper}{fuel:Nat}{listed:Array Bool}{a:Act}{w:World}(hi:ops[i]?=some oi)(hr:Region.ready md ops listed=[i])
  (hw:Region.wanted oi (yielded ops a.tmps)=true) {f:Nat} {args:Array Value} (hrun:(execOp a.eval oi).run P w=.ok (.enter f args) w)
  (h:Calls P f args w fun e w'=>∃ v,e=.returned v/\C w'/\wpAnyC P md ops last C Q fuel (listed.setIfInBounds i true) (a.put oi.dst v) w'):wpAnyC P md ops last C Q (fuel+1) listed a w:=by
 refine ⟨fun h0=>(by rw [hr] at h0;cases h0),fun j hj=>?_⟩
 rw [hr] at hj
 simp only [List.mem_singleton] at hj
 subst hj
 unfold wpOp
 simp only [hi,hw,if_true,Oper.wp,hrun,Oper.upon]
 refine .inl (Calls.mono h ?_)
 rintro e w' ⟨v,rfl,hC,h'⟩
 exact ⟨.inr hC,h'⟩
theorem wpAnyC_takeD(last i d:Nat){oi:Oper}(v:Value){fuel:Nat}{listed:Array Bool}{a:Act}{w:World}(hi:ops[i]?=some oi)(hd:oi.dst=some d)
  (hs:Region.noSelect ops=true) (hl:(behind md ops last i || decide (ops.size<=last))=true) (hf:Region.free md ops listed i=true) (hr:(Region.ready md ops listed).contains i=true)
  (hQ:∀ c a w,Q (.panic c) (a.put (some d) v) w->Q (.panic c) a w) (hC:C w) (hy:YieldsC P ops C oi v a)
  (h:wpAnyC P md ops last C Q fuel (listed.setIfInBounds i true) (a.put (some d) v) w):wpAnyC P md ops last C Q (fuel+1) listed a w:=by
 rw [<-hd] at hQ h
 exact wpAnyC_take last i v hi hs hl hf hr hQ hC hy h
theorem wpAnyC_nextD(last i d:Nat){oi:Oper}{fuel:Nat}{listed:Array Bool}{a:Act}{w:World}(hi:ops[i]?=some oi)(hd:oi.dst=some d)(hr:Region.ready md ops listed=[i])
  (hw:Region.wanted oi (yielded ops a.tmps)=true) {v:Value} {w':World} (hrun:(execOp a.eval oi).run P w=.ok (.value v) w') (hC:C w')
  (h:wpAnyC P md ops last C Q fuel (listed.setIfInBounds i true) (a.put (some d) v) w'):wpAnyC P md ops last C Q (fuel+1) listed a w:=by
 rw [<-hd] at h
 exact wpAnyC_next last i hi hr hw hrun hC h
theorem wpAnyC_callD(last i d:Nat){oi:Oper}{fuel:Nat}{listed:Array Bool}{a:Act}{w:World}(hi:ops[i]?=some oi)(hd:oi.dst=some d)(hr:Region.ready md ops listed=[i])
  (hw:Region.wanted oi (yielded ops a.tmps)=true) {f:Nat} {args:Array Value} (hrun:(execOp a.eval oi).run P w=.ok (.enter f args) w)
  (h:Calls P f args w fun e w'=>∃ v,e=.returned v/\C w'/\wpAnyC P md ops last C Q fuel (listed.setIfInBounds i true) (a.put (some d) v) w'):wpAnyC P md ops last C Q (fuel+1) listed a w:=by
 rw [<-hd] at h
 exact wpAnyC_call last i hi hr hw hrun h
theorem wp_region_C(last:Nat)(C:World->Prop){id:Nat}{a:Act}{w:World}(hm:P.follows .mixedOrders=true)
  (h:wpAnyC P .any ops last C Q ops.size (Array.replicate ops.size false) a { w with drawn:=w.drawn+1 }):(Code.region id ops true).wp P Q a w:=
 wp_region_any hm (wpAnyC_sound _ _ _ _ h)
end
end Go.Proofs.YtiblcbdkiecbgaaGreatDoor
namespace Go.Proofs.YtiblcbdkiecbgaaGreatDoor
open Go.RowKit Go.Lib Go.Maps
theorem exec_appendH{P:Program}{w w':World}{o:Oper}{a:Act}{s x:Operand}{t:TypeId}{vs vx v:Value}(ho:o.op=.call { callee:=.builtin .append,args:=#[s,x],argTypes:=#[t,t] })(hs:a.eval s=vs)(hx:a.eval x=vx)
  (hr:(Builtin.append_ #[t,t] o.type #[vs,vx]).run P w=.ok v w'):(execOp a.eval o).run P w=.ok (.value v) w':=by
 simp only [execOp,ho,resolve,invoke,builtin,Sem.run_bind,Sem.run_pure,Result.andThen_ok,List.map_toArray,List.map_cons,List.map_nil,hs,hx,hr]
end Go.Proofs.YtiblcbdkiecbgaaGreatDoor
namespace Go.Proofs.YtiblcbdkiecbgaaGreatDoor
open Go.RowKit Go.Lib Go.Maps Go.Shelf
theorem Mod.putObj{G:Nat->Prop}{a w:World}(h:Mod G a w){r:Nat}(hr:r<a.heap.size->G r)(o:Obj):Mod G a (w.putObj r o):=
 ⟨h.os,h.tape,h.output,by simpa using h.size,fun k hk hG=>by rw [World.putObj_heap_other (fun e=>hG (by subst e;exact hr hk))];exact h.block k hk hG⟩
def Rounds{α:Type}(m:Nat)(P:Program)(l:Nat)(encs:α->Array Value)(X:Nat->Prop)(xs:List α)(J:List α->World->Prop)(Jx:World->Prop):Prop:=
 ∀ pre x rest A,xs=pre++x :: rest->J pre A->YieldAt Fence.wide m P l (encs x) A fun e B=>Mod X A B/\((e=.returned (.bool true)/\J (pre++[x]) B)\/(e=.returned (.bool false)/\Jx B))
def roundP{α:Type}(X:Nat->Prop)(I:List α->World->Prop)(Ix:Code->World->Prop)(xs:List α)(W:World):Exit->Act->World->Prop
 | .normal,_,B=>Mod X W B/\I xs B
 | .ret,_,B=>Mod X W B/\Ix .ret B
 | .exit id,_,B=>Mod X W B/\Ix (.exit id) B
 | .goto t,_,B=>Mod X W B/\Ix (.goto t) B
 | .panic _,_,_=>False
 | .outgrown,_,_=>False
end Go.Proofs.YtiblcbdkiecbgaaGreatDoor
