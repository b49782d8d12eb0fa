import Derived.Test.YtogaigioeohjaaaGreatDoorD22
import Derived.Test.YtogaigioeohjaaaGreatDoorD01
import Derived.RegionTactic
import Derived.Orders
set_option linter.unusedVariables false
set_option maxRecDepth 100000
set_option maxHeartbeats 16000000
namespace Go.Proofs.YtogaigioeohjaaaGreatDoor
open Go.RowKit Go.Lib Go.Maps
theorem yQu{w:World}{n c g:Nat}{y:HLay}{s:zAa}(h:zAe w n c g y s){k b d:Nat}(hk:k<s.lines.length)(hb:y.lbs[k]?=some b)(hd:(y.nbs b)[0]?=some d):zOl s k=if zAu s (y.st s d) then some (y.st s d) else none:=by
 have hm:=h.st_map hb (zBj hk)
 unfold zOl
 cases hn:y.nbs b with
 | nil=>rw [hn] at hd;simp at hd
 | cons a l=>
  rw [hn] at hd hm
  simp at hd
  subst hd
  rw [<-hm];rfl
theorem zAe.headB{w:World}{n c g:Nat}{y:HLay}{s:zAa}(h:zAe w n c g y s)(hs:zGd s){k:Nat}(hk:k<s.lines.length):∃ b d,y.lbs[k]?=some b/\(y.nbs b)[0]?=some d:=by
 obtain ⟨b,hb,hL⟩:=h.lineQ hk
 have:=(hs.nl _ (zMg hk)).1
 have:=hL.len
 exact ⟨b,_,hb,List.getElem?_eq_getElem (by omega)⟩
theorem yPb{s:zAa}(hs:zGd s)(key:ByteArray):zAv s key<s.lines.length:=by
 have hll:=hs.ll
 have:zAv s key<decH s:=Nat.mod_lt _ (by unfold decH;omega)
 unfold decH at this;omega
def CameP(y:HLay)(s:zAa)(id:Int)(key:ByteArray)(e:Ending):Prop:=
 (zIa s id key≠0/\e=.returned (.tuple #[.pointer none,errQ (zIa s id key)])) \/
 (zIa s id key=0/\∃ b d,y.lbs[zAv s key]?=some b/\(y.nbs b)[0]?=some d/\zAu s (y.st s d)=true/\e=.returned (.tuple #[.pointer (some ⟨d,0,none⟩),.nilIface]))
theorem yGf(n c g:Nat)(y:HLay)(s:zAa)(id:Int)(key:ByteArray)(w:World)(h:zAe w n c g y s)(hs:zGd s)(hk:okQ key) :
  Calls Tryz.prog 71 #[.pointer (some ⟨g,0,none⟩),.int .i64 id,.string key] w fun e w'=>CameP y s id key e/\Mod zAb w w':=by
 have HOP:=Hmq (zSs n c g y s id w h hs.tl)
 have hmk:=zMd
 unfold okQ maxLen at hk
 by_cases ho:zHx s id=0
 ·rw [ho,zCc] at HOP
  by_cases hl:20<key.size
  ·have hlb:decide ((key.size:Int) > 20)=true:=decide_eq_true (by omega)
   have HC:Hid (zIa s id key=4):=by unfold Hid zIa;rw [if_neg (fun q=>q ho),if_pos hl]
   clear h ho hl
   go_enter Tryz.func71,Tryz.ntmps71
   go_wp2_with (first
    | (go_at_call 83;refine HOP.out.mono ?_;rintro e w1 ⟨rfl,rfl⟩)
    | fail)
   go_ret2
   exact ⟨.inl ⟨by rw [HC.out];omega,by rw [HC.out,zBa (by omega)];rfl⟩,Mod.refl _ _⟩
  ·have hlb:decide ((key.size:Int) > 20)=false:=decide_eq_false (by omega)
   have hsl:=yPb hs key
   obtain ⟨b,d,hb,hd⟩:=h.headB hs hsl
   have HSD:=Hmq (zNt n c g y s key w h hs (by omega))
   have HHD:=Hmq (yBa n c g y s (zAv s key) b d w h hsl hb hd)
   have HHS:=Hmq (yQu h hsl hb hd)
   have HB:=Hmq hb
   have HD:=Hmq hd
   have HC0:Hid (zIa s id key=if (zOl s (zAv s key)).isNone then 12 else 0):=by unfold Hid zIa;rw [if_neg (fun q=>q ho),if_neg hl]
   clear h ho hl hb hd
   cases hlv:zAu s (y.st s d) with
   | false=>
    rw [hlv] at HHD HHS
    have HC:Hid (zIa s id key=12):=by unfold Hid;rw [HC0.out,HHS.out];rfl
    clear HC0 HHS
    go_enter Tryz.func71,Tryz.ntmps71
    go_wp2_with (first
     | (go_at_call 83;refine HOP.out.mono ?_;rintro e w1 ⟨rfl,rfl⟩)
     | (go_at_call 56;refine HSD.out.mono ?_;rintro e w2 ⟨rfl,rfl⟩)
     | (go_at_call 114;refine HHD.out.mono ?_;rintro e w3 ⟨rfl,hm3⟩)
     | fail)
    go_ret2
    exact ⟨.inl ⟨by rw [HC.out];omega,by rw [HC.out,zBa (by omega)];rfl⟩,hm3⟩
   | true=>
    rw [hlv] at HHD HHS
    have HC:Hid (zIa s id key=0):=by unfold Hid;rw [HC0.out,HHS.out];rfl
    clear HC0 HHS
    go_enter Tryz.func71,Tryz.ntmps71
    go_wp2_with (first
     | (go_at_call 83;refine HOP.out.mono ?_;rintro e w1 ⟨rfl,rfl⟩)
     | (go_at_call 56;refine HSD.out.mono ?_;rintro e w2 ⟨rfl,rfl⟩)
     | (go_at_call 114;refine HHD.out.mono ?_;rintro e w3 ⟨rfl,hm3⟩)
     | fail)
    go_ret2
    exact ⟨.inr ⟨HC.out,b,d,HB.out,HD.out,hlv,rfl⟩,hm3⟩
 ·rw [zBa ho] at HOP
  have HC:Hid (zIa s id key=zHx s id):=by unfold Hid zIa;rw [if_pos ho]
  have HO:=Hmq ho
  clear h ho
  go_enter Tryz.func71,Tryz.ntmps71
  go_wp2_with (first
   | (go_at_call 83;refine HOP.out.mono ?_;rintro e w1 ⟨rfl,rfl⟩)
   | fail)
  go_ret2
  exact ⟨.inl ⟨by rw [HC.out];exact HO.out,by rw [HC.out,zBa HO.out];rfl⟩,Mod.refl _ _⟩
end Go.Proofs.YtogaigioeohjaaaGreatDoor
namespace Go.Proofs.YtogaigioeohjaaaGreatDoor
open Go.RowKit
section
variable {P:Program} {ops:Array Oper} {Q:Exit->Act->World->Prop} {md:Region.Mode} {C:World->Prop}
theorem zEr{c:Code}{a:Act}{w:World}(h:∀ b,b=a->c.wp P Q b w):c.wp P Q a w:=h a rfl
theorem zDk{c:Code}{a:Act}{w:World}(h:∀ Q',Q'=Q->c.wp P Q' a w):c.wp P Q a w:=h Q rfl
def zIu(P:Program)(ops:Array Oper)(C:World->Prop)(o:Oper)(v:Value)(a:Act):Prop:=
 Region.wanted o (yielded ops a.tmps)=true/\∀ w,C w->(execOp a.eval o).run P w=.ok (.value v) w
theorem zIu.of_same{o:Oper}{v:Value}{a a':Act}(hy:zIu P ops C o v a)(he:execOp a'.eval o=execOp a.eval o)
  (hw:Region.wanted o (yielded ops a'.tmps)=Region.wanted o (yielded ops a.tmps)):zIu P ops C o v a':=by
 unfold zIu at *
 rw [he,hw]
 exact hy
theorem zIu.wpOp{i:Nat}{o:Oper}{v:Value}{a:Act}(hi:ops[i]?=some o)(hy:zIu P ops C o v a)
  {K:Act->World->Prop} {w:World} (hC:C w) (h:K (a.put o.dst v) w):wpOp P ops Q i K a w:=by
 unfold Go.wpOp
 simp only [hi]
 obtain ⟨hw,hv⟩:=hy
 simp only [hw,if_true,Oper.wp,hv w hC,Oper.upon]
 exact .inl h
theorem yCr{j:Nat}{oj:Oper}(hj:ops[j]?=some oj){K:Act->World->Prop}{a:Act}{w:World}(h:wpOp P ops Q j K a w) :
  wpOp P ops Q j (fun a' w'=>K a' w'/\∃ u ds,a'={ a.put oj.dst u with defers:=ds }) a w:=by
 have dd:∀ u ds,({ a with defers:=ds }:Act).put oj.dst u={ a.put oj.dst u with defers:=ds }:=fun u ds=>by cases oj.dst <;> rfl
 unfold wpOp at h ⊢
 simp only [hj] at h ⊢
 by_cases hw:Region.wanted oj (yielded ops a.tmps)=true
 ·rw [if_pos hw] at h ⊢
  refine h.imp (fun h=>?_) id
  unfold Oper.wp at h ⊢
  cases hr:(execOp a.eval oj).run P w with
  | halt x w'=>rw [hr] at h;cases x <;> exact h
  | ok n w'=>
   rw [hr] at h
   cases n with
   | value u=>exact ⟨h,u,_,rfl⟩
   | skip=>exact ⟨h,undef,_,rfl⟩
   | defer d=>exact ⟨h,undef,_,dd _ _⟩
   | enter f args=>
    refine Calls.mono h fun e w'' he=>?_
    cases e with
    | returned u=>exact ⟨he,u,_,rfl⟩
    | panicked c=>exact he
    | outgrown=>exact he
   | row r args=>exact Rows.mono h fun u w'' he=>⟨he,u,_,rfl⟩
   | _=>exact h
 ·rw [if_neg hw] at h ⊢
  exact ⟨h,undef,_,rfl⟩
theorem yJz{j:Nat}{oi oj:Oper}{v:Value}(hj:ops[j]?=some oj)(hap:oi.apart ops oj=true)
  (hsi:∀ cs b,oi.op≠.select cs b) (hsj:∀ cs b,oj.op≠.select cs b)
  (hQ:∀ c a w,Q (.panic c) (a.put oi.dst v) w->Q (.panic c) a w) {K:Act->World->Prop} {a:Act} {w:World}
  (hy:zIu P ops C oi v a) (h:wpOp P ops Q j K (a.put oi.dst v) w) :
  wpOp P ops Q j (fun a' w'=>zIu P ops C oi v a'/\K (a'.put oi.dst v) w') a w:=by
 obtain ⟨h1,h2,h3⟩:=Oper.apart_spec hap
 have hl:({ oi with op:=.assign (.const v),guard:=none }:Oper).looksAt ops=[]:=by simp [Oper.looksAt,Op.operands]
 have hc:({ oi with op:=.assign (.const v),guard:=none }:Oper).apart ops oj=true:=by
  unfold Oper.apart
  rw [hl]
  cases hd:oi.dst with
  | none=>cases oj.dst <;> simp
  | some d=>
   have q1:(oj.looksAt ops).contains d=false:=by simpa using h1 d hd
   have q2:(oj.dst != some d)=true:=by simpa using h2 d hd
   simp only [q1,q2]
   cases oj.dst <;> simp
 have hyc:Yields P ops { oi with op:=.assign (.const v),guard:=none } v a:=.inl ⟨by simp [Region.wanted],fun w=>rfl⟩
 refine wpOp_mono ?_ (yCr hj (wpOp_put (oi:={ oi with op:=.assign (.const v),guard:=none }) hj hc (fun cs b=>by simp) hsj hQ hyc h))
 rintro a' w' ⟨⟨_,hk⟩,u,ds,rfl⟩
 exact ⟨hy.of_same (execOp_put oi hsi a oj.dst u h3) (wanted_put oi a oj.dst u h3),hk⟩
def zEt(P:Program)(md:Region.Mode)(ops:Array Oper)(last:Nat)(C:World->Prop)(Q:Exit->Act->World->Prop):Nat->Array Bool->Act->World->Prop
 | 0,listed,a,w=>Region.ready md ops listed=[]/\Q .normal a w
 | fuel+1,listed,a,w=>
  (Region.ready md ops listed=[]->Q .normal a w) /\
  ∀ i∈Region.ready md ops listed,wpOp P ops Q i (fun a' w'=>(i=last\/C w')/\zEt P md ops last C Q fuel (listed.setIfInBounds i true) a' w') a w
theorem zQb{last:Nat}:∀ (fuel:Nat) (listed:Array Bool) (a:Act) (w:World),zEt P md ops last C Q fuel listed a w->wpAny P md ops Q fuel listed a w
 | 0,_,_,_,h=>h
 | fuel+1,_,_,_,h=>⟨h.1,fun i hi=>wpOp_mono (fun a' w' h'=>zQb fuel _ a' w' h'.2) (h.2 i hi)⟩
def zQl(md:Region.Mode)(ops:Array Oper)(j i:Nat):Bool:=match ops[j]? with
 | some o=>o.after.any fun e=>Region.binds md e && e.on == i
 | none=>false
theorem yHo{i j:Nat}{listed:Array Bool}(hi:i∈Region.ready md ops listed)(hj:j∈Region.ready md ops listed):zQl md ops j i=false:=by
 obtain ⟨h0,_⟩:=mem_ready.1 hi
 obtain ⟨_,o,ho,hall⟩:=mem_ready.1 hj
 cases hb:zQl md ops j i with
 | false=>rfl
 | true=>
  simp only [zQl,ho] at hb
  obtain ⟨e,he,hbe⟩:=Array.any_eq_true'.1 hb
  simp only [Bool.and_eq_true,beq_iff_eq] at hbe
  have h1:=hall e he hbe.1
  rw [hbe.2] at h1
  have:i<listed.size:=by
   rcases Nat.lt_or_ge i listed.size with h' | h'
   ·exact h'
   ·simp [Array.getElem?_eq_none h'] at h1
  simp [this] at h0 h1
  rw [h0] at h1
  cases h1
theorem zYx{last i:Nat}{oi:Oper}{v:Value}(hi:ops[i]?=some oi)(hsel:∀ (j:Nat) (o:Oper) cs b,ops[j]?=some o->o.op≠.select cs b)
  (hl:(zQl md ops last i || decide (ops.size<=last))=true) (hQ:∀ c a w,Q (.panic c) (a.put oi.dst v) w->Q (.panic c) a w) :
  ∀ (fuel:Nat) (listed:Array Bool) (a:Act) (w:World),Region.free md ops listed i=true->i∈Region.ready md ops listed->zIu P ops C oi v a->C w ->
   zEt P md ops last C Q fuel (listed.setIfInBounds i true) (a.put oi.dst v) w->zEt P md ops last C Q (fuel+1) listed a w:=by
 intro fuel
 induction fuel with
 | zero=>
  intro listed a w _ hr hy hC H
  refine ⟨fun h=>(by rw [h] at hr;cases hr),fun j hj=>?_⟩
  by_cases hji:j=i
  ·subst hji;exact hy.wpOp hi hC ⟨.inr hC,H⟩
  ·have:=ready_mono hj hji
   rw [H.1] at this
   cases this
 | succ fuel ih=>
  intro listed a w hfree hr hy hC H
  refine ⟨fun h=>(by rw [h] at hr;cases hr),fun j hj=>?_⟩
  by_cases hji:j=i
  ·subst hji;exact hy.wpOp hi hC ⟨.inr hC,H⟩
  ·obtain ⟨hjun,oj,hoj,hall⟩:=mem_ready.1 hj
   have hnb:=yHo hr hj
   have hne:j≠last:=fun e=>by
    subst e
    rw [hnb,Bool.false_or] at hl
    have h1:=of_decide_eq_true hl
    have h2:=(Array.getElem?_eq_some_iff.1 hoj).1
    omega
   have hap:oi.apart ops oj=true:=Region.free_spec hi hfree j oj hoj hji hjun (fun e he hb heq=>by
    have:zQl md ops j i=true:=by
     simp only [zQl,hoj]
     exact Array.any_eq_true'.2 ⟨e,he,by simp [hb,heq]⟩
    rw [this] at hnb;cases hnb)
   have hfree':Region.free md ops (listed.setIfInBounds j true) i=true:=by
    simp only [Region.free,hi,List.all_eq_true,List.mem_range] at hfree ⊢
    intro k hk
    have h1:=hfree k hk
    by_cases hjk:j=k
    ·subst hjk
     have hlt:j<listed.size:=by
      rcases Nat.lt_or_ge j listed.size with h' | h'
      ·exact h'
      ·simp [Array.getElem?_eq_none h'] at hjun
     simp [hlt]
    ·rw [getD_set_ne true hjk];exact h1
   refine wpOp_mono (fun a' w' h3=>?_) (yJz hoj hap (fun cs b=>hsel i oi cs b hi) (fun cs b=>hsel j oj cs b hoj) hQ hy (H.2 j (ready_mono hj hji)))
   have hC':=h3.2.1.resolve_left hne
   refine ⟨.inr hC',ih (listed.setIfInBounds j true) a' w' hfree' (ready_mono hr (Ne.symm hji)) h3.1 hC' ?_⟩
   rw [Array.setIfInBounds_comm _ _ hji]
   exact h3.2.2
theorem yCs(last i:Nat){oi:Oper}(v:Value){fuel:Nat}{listed:Array Bool}{a:Act}{w:World}(hi:ops[i]?=some oi)
  (hs:Region.noSelect ops=true) (hl:(zQl md ops last i || decide (ops.size<=last))=true) (hf:Region.free md ops listed i=true) (hr:(Region.ready md ops listed).contains i=true)
  (hQ:∀ c a w,Q (.panic c) (a.put oi.dst v) w->Q (.panic c) a w) (hC:C w) (hy:zIu P ops C oi v a)
  (h:zEt P md ops last C Q fuel (listed.setIfInBounds i true) (a.put oi.dst v) w):zEt P md ops last C Q (fuel+1) listed a w:=
 zYx hi (Region.noSelect_spec hs) hl hQ fuel listed a w hf (by simpa using hr) hy hC h
theorem yCt(last i:Nat){oi:Oper}{fuel:Nat}{listed:Array Bool}{a:Act}{w:World}(hi:ops[i]?=some oi)(hr:Region.ready md ops listed=[i])
  (hw:Region.wanted oi (yielded ops a.tmps)=true) {v:Value} {w':World} (hrun:(execOp a.eval oi).run P w=.ok (.value v) w') (hC:C w')
  (h:zEt P md ops last C Q fuel (listed.setIfInBounds i true) (a.put oi.dst v) w'):zEt P md ops last C Q (fuel+1) listed a w:=by
 refine ⟨fun h0=>(by rw [hr] at h0;cases h0),fun j hj=>?_⟩
 rw [hr] at hj
 simp only [List.mem_singleton] at hj
 subst hj
 unfold wpOp
 simp only [hi,hw,if_true,Oper.wp,hrun,Oper.upon]
 exact .inl ⟨.inr hC,h⟩
theorem zNd(i:Nat){oi:Oper}{fuel:Nat}{listed:Array Bool}{a:Act}{w:World}(hi:ops[i]?=some oi)(hr:Region.ready md ops listed=[i])
  (hw:Region.wanted oi (yielded ops a.tmps)=true) {w':World} (hrun:(execOp a.eval oi).run P w=.ok .skip w')
  (h:zEt P md ops i C Q fuel (listed.setIfInBounds i true) (a.put oi.dst undef) w'):zEt P md ops i C Q (fuel+1) listed a w:=by
 refine ⟨fun h0=>(by rw [hr] at h0;cases h0),fun j hj=>?_⟩
 rw [hr] at hj
 simp only [List.mem_singleton] at hj
 subst hj
 unfold wpOp
 simp only [hi,hw,if_true,Oper.wp,hrun,Oper.upon]
 exact .inl ⟨.inl (by simp),h⟩
theorem yCu(last i:Nat){oi:Oper}{fuel:Nat}{listed:Array Bool}{a:Act}{w:World}(hi:ops[i]?=some oi)(hr:Region.ready md ops listed=[i])
  (hw:Region.wanted oi (yielded ops a.tmps)=true) {f:Nat} {args:Array Value} (hrun:(execOp a.eval oi).run P w=.ok (.enter f args) w)
  (h:Calls P f args w fun e w'=>∃ v,e=.returned v/\C w'/\zEt P md ops last C Q fuel (listed.setIfInBounds i true) (a.put oi.dst v) w'):zEt P md ops last C Q (fuel+1) listed a w:=by
 refine ⟨fun h0=>(by rw [hr] at h0;cases h0),fun j hj=>?_⟩
 rw [hr] at hj
 simp only [List.mem_singleton] at hj
 subst hj
 unfold wpOp
 simp only [hi,hw,if_true,Oper.wp,hrun,Oper.upon]
 refine .inl (Calls.mono h ?_)
 rintro e w' ⟨v,rfl,hC,h'⟩
 exact ⟨.inr hC,h'⟩
theorem zAc(last i d:Nat){oi:Oper}(v:Value){fuel:Nat}{listed:Array Bool}{a:Act}{w:World}(hi:ops[i]?=some oi)(hd:oi.dst=some d)
  (hs:Region.noSelect ops=true) (hl:(zQl md ops last i || decide (ops.size<=last))=true) (hf:Region.free md ops listed i=true) (hr:(Region.ready md ops listed).contains i=true)
  (hQ:∀ c a w,Q (.panic c) (a.put (some d) v) w->Q (.panic c) a w) (hC:C w) (hy:zIu P ops C oi v a)
  (h:zEt P md ops last C Q fuel (listed.setIfInBounds i true) (a.put (some d) v) w):zEt P md ops last C Q (fuel+1) listed a w:=by
 rw [<-hd] at hQ h
 exact yCs last i v hi hs hl hf hr hQ hC hy h
theorem zBg(last i d:Nat){oi:Oper}{fuel:Nat}{listed:Array Bool}{a:Act}{w:World}(hi:ops[i]?=some oi)(hd:oi.dst=some d)(hr:Region.ready md ops listed=[i])
  (hw:Region.wanted oi (yielded ops a.tmps)=true) {v:Value} {w':World} (hrun:(execOp a.eval oi).run P w=.ok (.value v) w') (hC:C w')
  (h:zEt P md ops last C Q fuel (listed.setIfInBounds i true) (a.put (some d) v) w'):zEt P md ops last C Q (fuel+1) listed a w:=by
 rw [<-hd] at h
 exact yCt last i hi hr hw hrun hC h
theorem zEs(last i d:Nat){oi:Oper}{fuel:Nat}{listed:Array Bool}{a:Act}{w:World}(hi:ops[i]?=some oi)(hd:oi.dst=some d)(hr:Region.ready md ops listed=[i])
  (hw:Region.wanted oi (yielded ops a.tmps)=true) {f:Nat} {args:Array Value} (hrun:(execOp a.eval oi).run P w=.ok (.enter f args) w)
  (h:Calls P f args w fun e w'=>∃ v,e=.returned v/\C w'/\zEt P md ops last C Q fuel (listed.setIfInBounds i true) (a.put (some d) v) w'):zEt P md ops last C Q (fuel+1) listed a w:=by
 rw [<-hd] at h
 exact yCu last i hi hr hw hrun h
theorem zBo(last:Nat)(C:World->Prop){id:Nat}{a:Act}{w:World}(hm:P.follows .mixedOrders=true)
  (h:zEt P .any ops last C Q ops.size (Array.replicate ops.size false) a { w with drawn:=w.drawn+1 }):(Code.region id ops true).wp P Q a w:=
 wp_region_any hm (zQb _ _ _ _ h)
end
end Go.Proofs.YtogaigioeohjaaaGreatDoor
namespace Go.Proofs.YtogaigioeohjaaaGreatDoor
open Go.RowKit Go.Lib Go.Maps
theorem zHr{P:Program}{w w':World}{o:Oper}{a:Act}{s x:Operand}{t:TypeId}{vs vx v:Value}(ho:o.op=.call { callee:=.builtin .append,args:=#[s,x],argTypes:=#[t,t] })(hs:a.eval s=vs)(hx:a.eval x=vx)
  (hr:(Builtin.append_ #[t,t] o.type #[vs,vx]).run P w=.ok v w'):(execOp a.eval o).run P w=.ok (.value v) w':=by
 simp only [execOp,ho,resolve,invoke,builtin,Sem.run_bind,Sem.run_pure,Result.andThen_ok,List.map_toArray,List.map_cons,List.map_nil,hs,hx,hr]
theorem yKz{w:World}{B wb m cap i:Nat}{ps:List zAz}{p:zAz}(h:w.ownsRow B 65 3 (.slice (some ⟨wb,0,none⟩) m cap) ps.length (zBp ps))(hi:i<ps.length) :
  (w.setCells wb (i*3) (zDs p)).ownsRow B 65 3 (.slice (some ⟨wb,0,none⟩) m cap) (ps.set i p).length (zBp (ps.set i p))/\Mod (zAd wb) w (w.setCells wb (i*3) (zDs p))/\(∀ j,j<3->∃ u,w.cell? ⟨wb,i*3+j,none⟩=some u)/\∀ j,w.frozen? ⟨wb,j,none⟩=false:=by
 obtain ⟨h1,h2⟩:=h
 rcases h2 with ⟨e,_⟩ | ⟨b',cap',cur,e,q1,q2,q3,q4,q5,q6⟩
 ·simp at e
 ·simp only [Value.slice.injEq,Option.some.injEq,Addr.mk.injEq] at e
  obtain ⟨⟨rfl,_,_⟩,rfl,rfl⟩:=e
  obtain ⟨o,ho⟩:∃ o,ps[i]?=some o:=⟨_,List.getElem?_eq_getElem hi⟩
  have hl:=zFp ps
  have hs:ps=ps.take i++o :: ps.drop (i+1):=by rw [<-zCl ho,List.take_append_drop]
  have hset:ps.set i p=ps.take i++p :: ps.drop (i+1):=by
   rw [List.set_eq_take_append_cons_drop,if_pos hi]
  have hcur:cur.toList=zBp (ps.take i)++zDs o++(zBp (ps.drop (i+1))++cur.toList.drop (ps.length*3)):=by
   have e1:zBp ps=zBp (ps.take i)++(zDs o++zBp (ps.drop (i+1))):=by
    conv=>lhs;rw [hs]
    rw [zLc,zGh]
   have e2:cur.toList=zBp ps++cur.toList.drop (ps.length*3):=by
    rw [<-q6,List.take_append_drop]
   rw [e1] at e2
   simpa [List.append_assoc] using e2
  have hB:Blk w wb (zBp (ps.take i)++zDs o++(zBp (ps.drop (i+1))++cur.toList.drop (ps.length*3))) 65:=by
   unfold Blk;rw [q2,<-hcur]
  have lt:=zFp (ps.take i)
  rw [List.length_take,Nat.min_eq_left (Nat.le_of_lt hi)] at lt
  have hB2:=Blk.midQ (g:=wb) (t:=65) (zDs p) w (zBp (ps.take i)) (zDs o) _ hB rfl
  rw [lt] at hB2
  have hrow:zBp (ps.set i p)=zBp (ps.take i)++zDs p++zBp (ps.drop (i+1)):=by rw [hset,zLc,zGh,List.append_assoc]
  have lset:=zFp (ps.set i p)
  rw [List.length_set] at lset
  have hcl:(zBp (ps.take i)++zDs p++(zBp (ps.drop (i+1))++cur.toList.drop (ps.length*3)))=zBp (ps.set i p)++cur.toList.drop (ps.length*3):=by rw [hrow];simp [List.append_assoc]
  refine ⟨⟨by rw [lset,List.length_set],.inr ⟨wb,cap,(zBp (ps.set i p)++cur.toList.drop (ps.length*3)).toArray,by rw [List.length_set],q1,?_,by rw [List.length_set];exact q3,q4,?_,?_⟩⟩,Mod.midQ _ _ _,fun j hj=>?_,fun j=>hB.frozen j⟩
  ·rw [<-hcl];exact hB2
  ·simp only [List.size_toArray,List.length_append,lset,List.length_drop,Array.length_toList];omega
  ·rw [List.length_set,<-lset];simp
  ·have hlen:i*3+j<(zBp (ps.take i)++zDs o++(zBp (ps.drop (i+1))++cur.toList.drop (ps.length*3))).length:=by
    simp only [List.length_append,lt,zDs,List.length_cons,List.length_nil];omega
   exact ⟨_,hB.cell _ (List.getElem?_eq_getElem hlen)⟩
def yCi(w:World)(n b:Nat)(y:HLay)(t:TxS)(w':World):Prop:=
 ∃ wv,Blk w' b [.int .i64 t.state,y.tav b,wv,.int .i64 t.time] 97/\w'.ownsRow n 3 1 (y.tav b) t.ats.length (t.ats.map (Value.int .i64))/\w'.ownsRow n 65 3 wv t.writes.length (t.writes.flatMap zBe)/\zCf w (y.twv b) wv/\Mod (yKf b (y.tav b) (y.twv b)) w w'
theorem yJw(n b:Nat)(y:HLay)(t:TxS)(p:zAz)(i:Nat)(w:World)(h:TxP w n y b t)(hl:t.writes.length<=1000)(hi:zJk t p.key=some i) :
  Calls Tryz.prog 76 #[.pointer (some ⟨b,0,none⟩),.agg #[.string p.key,.string p.val,.bool p.gone]] w fun e w'=>e=.returned (.tuple #[])/\yCi w n b y (zEq t p) w':=by
 obtain ⟨pk,pv,pg⟩:=p
 dsimp only at hi ⊢
 obtain ⟨w1,hw1⟩:∃ z,z=w.alloc (.cells #[.string pk,.string pv,.bool pg] 65):=⟨_,rfl⟩
 have hm1:Mod zAb w w1:=by rw [hw1];exact (Mod.refl _ w).alloc _
 have hb1:Blk w1 w.heap.size [.string pk,.string pv,.bool pg] 65:=by rw [hw1];exact Blk.new w _ _
 have h1:=h.mod hm1 (fun e=>e) (fun _ _ e=>e)
 have HW:=Hmq (zRj n b y t pk w1 h1 hl)
 rw [hi] at HW
 simp only [idxI] at HW
 have hil:i<t.writes.length:=by
  unfold zJk at hi
  obtain ⟨hlt,_⟩:=List.findIdx?_eq_some_iff_getElem.1 hi
  exact hlt
 obtain ⟨wb,wcap,hwv⟩:∃ wb wcap,y.twv b=.slice (some ⟨wb,0,none⟩) t.writes.length wcap:=by
  rcases h.wr.2 with ⟨e,h0⟩ | ⟨g',cap',cur,e,_⟩
  ·omega
  ·exact ⟨g',cap',e⟩
 have x0:=hb1.cell 0 rfl
 have HH1:=Hmq h1
 have HB1:=Hmq hb1
 have HM1:=Hmq hm1
 have hge:decide ((i:Int) ≥ 0)=true:=decide_eq_true (by omega)
 clear h h1 hb1 hm1
 go_enter Tryz.func76,Tryz.ntmps76
 go_upto_region 1 with fail
 rw [<-hw1]
 clear hw1
 go_upto_region 3 with (first
  | (go_at_call 115;refine HW.out.mono ?_;rintro e w2 ⟨rfl,hm2⟩)
  | fail)
 have h2:=HH1.out.mod hm2 (fun e=>e) (fun _ _ e=>e)
 have hb2:=HB1.out.mod hm2 (fun e=>e)
 have c2:=h2.blk.cell 2 rfl
 have y0:=hb2.cell 0 rfl
 have y1:=hb2.cell 1 rfl
 have y2:=hb2.cell 2 rfl
 have zb:=h2.blk.lt
 have hrow:w2.ownsRow n 65 3 (.slice (some ⟨wb,0,none⟩) t.writes.length wcap) t.writes.length (zBp t.writes):=by have:=h2.wr;rw [hwv] at this;exact this
 rw [hwv] at c2
 obtain ⟨r1,r2,r3,r4⟩:=yKz (p:=⟨pk,pv,pg⟩) hrow hil
 obtain ⟨u0,v0⟩:=r3 0 (by omega)
 obtain ⟨u1,v1⟩:=r3 1 (by omega)
 obtain ⟨u2,v2⟩:=r3 2 (by omega)
 have f0:=r4 (i*3)
 have f1:=r4 (i*3+1)
 have f2:=r4 (i*3+2)
 simp only [Nat.add_zero] at v0
 have hiI:(i:Int)<(t.writes.length:Int):=by omega
 have hi0:(0:Int)<=(i:Int):=by omega
 have hzw:=HM1.out.size
 have hwbn:wb≠b:=fun e=>zBf hrow h2.blk (by decide) (by rw [e];rfl)
 have HR1:=Hmq r1
 have HR2:=Hmq r2
 have HH2:=Hmq h2
 have HM2:=Hmq (HM1.out.trans hm2)
 clear r1 r2 r3 r4 hrow h2 hb2 hm2 HW HB1 HH1 HM1
 refine wp_region_still_tail 7 (by kernel_rfl) (by kernel_rfl) ?_
 simp only [List.take_succ_cons,List.take_zero,List.drop_succ_cons,List.drop_zero]
 repeat still_step
 refine wpStill_nil ?_
 go_wp2_with fail
 have hWT:zEq t ⟨pk,pv,pg⟩={ t with writes:=t.writes.set i ⟨pk,pv,pg⟩ }:=by unfold zEq;rw [show zJk t (zAz.key ⟨pk,pv,pg⟩)=some i from hi]
 refine bodyPost_ret (results_none rfl _ _ _) rfl ⟨rfl,?_⟩
 show yCi w n b y _ (World.drew (w2.setCells wb (i*3) (zDs ⟨pk,pv,pg⟩)))
 rw [hWT]
 have hmm:Mod (zAd wb) w2 (World.drew (w2.setCells wb (i*3) (zDs ⟨pk,pv,pg⟩))):=HR2.out.drew
 have hna:∀ k,(y.tav b).ownBlock=some k->k≠wb:=fun k hk e=>by
  subst e
  obtain ⟨_,_,cur,hc1⟩:=zAi HH2.out.ats hk
  obtain ⟨_,_,cur',hc2⟩:=zAi HH2.out.wr (show (y.twv b).ownBlock=some k by rw [hwv];rfl)
  rw [hc1] at hc2;simp at hc2
 refine ⟨y.twv b,HH2.out.blk.mod hmm (fun e=>hwbn (Eq.symm e)),zAn HH2.out.ats hmm (fun k _ _ e q=>hna k e q),?_,.inl rfl,?_⟩
 ·rw [hwv]
  have hq:=HR1.out
  rw [List.length_set] at hq
  show World.ownsRow _ _ _ _ _ (t.writes.set i ⟨pk,pv,pg⟩).length (zBp (t.writes.set i ⟨pk,pv,pg⟩))
  rw [List.length_set]
  exact zAn hq ((Mod.refl zAb _).drew) (fun _ _ _ _ e=>e)
 ·exact (HM2.out.mono (fun _ _ e=>e.elim)).trans (hmm.mono (fun x _ e=>.inr (.inr (by rw [hwv];exact congrArg some (Eq.symm e)))))
theorem yJx(n b:Nat)(y:HLay)(t:TxS)(p:zAz)(w:World)(h:TxP w n y b t)(hn:n<=w.heap.size)(hl:t.writes.length<=1000)(hi:zJk t p.key=none) :
  Calls Tryz.prog 76 #[.pointer (some ⟨b,0,none⟩),.agg #[.string p.key,.string p.val,.bool p.gone]] w fun e w'=>e=.returned (.tuple #[])/\yCi w n b y (zEq t p) w':=by
 obtain ⟨pk,pv,pg⟩:=p
 dsimp only at hi ⊢
 obtain ⟨i0,hpi,hz0,hz1,hz2⟩:=info_parts Tryz.infoPr
 obtain ⟨w1,hw1⟩:∃ z,z=w.alloc (.cells #[.string pk,.string pv,.bool pg] 65):=⟨_,rfl⟩
 have hm1:Mod zAb w w1:=by rw [hw1];exact (Mod.refl _ w).alloc _
 have hb1:Blk w1 w.heap.size [.string pk,.string pv,.bool pg] 65:=by rw [hw1];exact Blk.new w _ _
 have h1:=h.mod hm1 (fun e=>e) (fun _ _ e=>e)
 have HW:=Hmq (zRj n b y t pk w1 h1 hl)
 rw [hi] at HW
 simp only [idxI] at HW
 have x0:=hb1.cell 0 rfl
 have HH1:=Hmq h1
 have HLW:Hid (∀ k,(y.twv b).ownBlock=some k->k<w.heap.size):=fun k hk=>(zAi h.wr hk).2.1
 have HB1:=Hmq hb1
 have HM1:=Hmq hm1
 clear h h1 hb1 hm1
 go_enter Tryz.func76,Tryz.ntmps76
 go_upto_region 1 with fail
 rw [<-hw1]
 clear hw1
 go_upto_region 4 with (first
  | (go_at_call 115;refine HW.out.mono ?_;rintro e w2 ⟨rfl,hm2⟩)
  | fail)
 have h2:=HH1.out.mod hm2 (fun e=>e) (fun _ _ e=>e)
 have hb2:=HB1.out.mod hm2 (fun e=>e)
 obtain ⟨wa,wcap,hwv⟩:=zAg h2.wr
 have c2:=h2.blk.cell 2 rfl
 have f2:=h2.blk.frozen 2
 have y0:=hb2.cell 0 rfl
 have y1:=hb2.cell 1 rfl
 have y2:=hb2.cell 2 rfl
 have zb:=h2.blk.lt
 have zq:=hb2.lt
 have hM2:=HM1.out.trans hm2
 have hrow:w2.ownsRow n 65 3 (.slice wa t.writes.length wcap) t.writes.length (zBp t.writes):=by have:=h2.wr;rw [hwv] at this;exact this
 have hrow3:((w2.alloc (.cells #[.string pk,.string pv,.bool pg] 65)).drew).ownsRow n 65 3 (.slice wa t.writes.length wcap) t.writes.length (zBp t.writes):=zAn hrow (((Mod.refl zAb w2).alloc _).drew) (fun _ _ _ _ e=>e)
 obtain ⟨v7,w7,hrun7,hown7,hgrow7,hnil7,hat7⟩:=run_append_own_at (P:=Tryz.prog) _ n 95 95 65 i0 _ 3 40 Tryz.underlying95 hpi hz0 hz1 hz2 rfl (by omega) _ _ _ hrow3 ⟨w2.heap.size,0,none⟩ 1 1 (zDs ⟨pk,pv,pg⟩) rfl (World.news_of_block (heap_alloc_new w2 _)) (fun u hu=>by simp [zDs] at hu;rcases hu with rfl | rfl | rfl <;> rfl) (by unfold maxLen;omega) (by omega) (by have:=hM2.size;show n<=(w2.alloc _).heap.size;rw [World.size_alloc];omega)
 obtain ⟨a7,cap7,hv7⟩:=zAg hown7
 subst hv7
 have hm67:Mod (fun k=>(Value.slice wa t.writes.length wcap).ownBlock=some k) w2 w7:=(((Mod.refl _ w2).alloc _).drew).grown hgrow7 (fun x hx _=>hx)
 have hnb:(Value.slice wa t.writes.length wcap).ownBlock≠some b:=zBf hrow h2.blk (by decide)
 rw [hwv] at c2
 have c7:=hm67.cell c2 hnb
 have f7:=(hm67.frozen (p:=⟨b,2,none⟩) zb hnb).trans f2
 have zb7:=Nat.lt_of_lt_of_le zb hm67.size
 have hnq:(Value.slice wa t.writes.length wcap).ownBlock≠some w.heap.size:=fun e=>by have:=HLW.out w.heap.size (by rw [hwv];exact e);omega
 have y07:=hm67.cell y0 hnq
 have y17:=hm67.cell y1 hnq
 have y27:=hm67.cell y2 hnq
 have HH2:=Hmq h2
 have HROW:=Hmq hrow
 have HOW7:=Hmq hown7
 have HM67:=Hmq hm67
 have HAT:=Hmq hat7
 have HM2:=Hmq hM2
 refine zEr fun fr hfr=>?_
 refine zDk fun Q1 hQ1=>?_
 have hpan:∀ (d:Nat) (v:Value) (c:List PanicEntry) (a:Act) (w:World),Q1 (.panic c) (a.put (some d) v) w->Q1 (.panic c) a w:=fun d v c a w h=>by rw [hQ1] at h ⊢;exact h
 have HQ1:=Hmq hQ1
 clear hQ1
 have hsz:fr.tmps.size=28:=by rw [hfr];rfl
 obtain ⟨_,t0⟩:∃ h:0<fr.tmps.size,fr.tmps[0]=.pointer (some ⟨b,0,none⟩):=Array.getElem?_eq_some_iff.1 (by rw [hfr];rfl)
 obtain ⟨_,t3⟩:∃ h:3<fr.tmps.size,fr.tmps[3]=.pointer (some ⟨w.heap.size,0,none⟩):=Array.getElem?_eq_some_iff.1 (by rw [hfr];rfl)
 have HFR:=Hmq hfr
 clear hfr h2 hb2 hrow hrow3 hown7 hm67 hat7 hnil7 hM2 hm2 HH1 HB1 HM1 HW
 refine zBo 10 (fun wq=>wq.cell? ⟨b,2,none⟩=some (.slice wa t.writes.length wcap)/\wq.cell? ⟨w.heap.size,0,none⟩=some (.string pk)/\wq.cell? ⟨w.heap.size,1,none⟩=some (.string pv)/\wq.cell? ⟨w.heap.size,2,none⟩=some (.bool pg)) rfl ?_
 have HC:Hid (w2.drew.cell? ⟨b,2,none⟩=some (.slice wa t.writes.length wcap)/\w2.drew.cell? ⟨w.heap.size,0,none⟩=some (.string pk)/\w2.drew.cell? ⟨w.heap.size,1,none⟩=some (.string pv)/\w2.drew.cell? ⟨w.heap.size,2,none⟩=some (.bool pg)):=⟨c2,y0,y1,y2⟩
 refine zAc 10 0 18 (.pointer (some ⟨b,0,none⟩)) rfl rfl (by kernel_rfl) (by kernel_rfl) (by kernel_rfl) (by kernel_rfl) (fun c a w h=>hpan _ _ c a w h) HC.out ⟨by rfl,fun wq hq=>by have q0:=hq.1;have q1:=hq.2.1;have q2:=hq.2.2.1;have q3:=hq.2.2.2;go_simp⟩ ?_
 refine zAc 10 1 19 (.pointer (some ⟨b,0,none⟩)) rfl rfl (by kernel_rfl) (by kernel_rfl) (by kernel_rfl) (by kernel_rfl) (fun c a w h=>hpan _ _ c a w h) HC.out ⟨by rfl,fun wq hq=>by have q0:=hq.1;have q1:=hq.2.1;have q2:=hq.2.2.1;have q3:=hq.2.2.2;go_simp⟩ ?_
 refine zAc 10 2 20 (.pointer (some ⟨b,0,none⟩)) rfl rfl (by kernel_rfl) (by kernel_rfl) (by kernel_rfl) (by kernel_rfl) (fun c a w h=>hpan _ _ c a w h) HC.out ⟨by rfl,fun wq hq=>by have q0:=hq.1;have q1:=hq.2.1;have q2:=hq.2.2.1;have q3:=hq.2.2.2;go_simp⟩ ?_
 refine zAc 10 3 21 (.pointer (some ⟨b,2,none⟩)) rfl rfl (by kernel_rfl) (by kernel_rfl) (by kernel_rfl) (by kernel_rfl) (fun c a w h=>hpan _ _ c a w h) HC.out ⟨by rfl,fun wq hq=>by have q0:=hq.1;have q1:=hq.2.1;have q2:=hq.2.2.1;have q3:=hq.2.2.2;go_simp⟩ ?_
 refine zAc 10 4 22 (.slice wa t.writes.length wcap) rfl rfl (by kernel_rfl) (by kernel_rfl) (by kernel_rfl) (by kernel_rfl) (fun c a w h=>hpan _ _ c a w h) HC.out ⟨by rfl,fun wq hq=>by have q0:=hq.1;have q1:=hq.2.1;have q2:=hq.2.2.1;have q3:=hq.2.2.2;go_simp⟩ ?_
 refine zAc 10 5 23 (.agg #[.string pk,.string pv,.bool pg]) rfl rfl (by kernel_rfl) (by kernel_rfl) (by kernel_rfl) (by kernel_rfl) (fun c a w h=>hpan _ _ c a w h) HC.out ⟨by rfl,fun wq hq=>by have q0:=hq.1;have q1:=hq.2.1;have q2:=hq.2.2.1;have q3:=hq.2.2.2;go_simp⟩ ?_
 have hmA:Mod zAb w2 (w2.alloc (.cells #[.string pk,.string pv,.bool pg] 65)).drew:=((Mod.refl zAb w2).alloc _).drew
 have HC1:Hid ((w2.alloc (.cells #[.string pk,.string pv,.bool pg] 65)).drew.cell? ⟨b,2,none⟩=some (.slice wa t.writes.length wcap)/\(w2.alloc (.cells #[.string pk,.string pv,.bool pg] 65)).drew.cell? ⟨w.heap.size,0,none⟩=some (.string pk)/\(w2.alloc (.cells #[.string pk,.string pv,.bool pg] 65)).drew.cell? ⟨w.heap.size,1,none⟩=some (.string pv)/\(w2.alloc (.cells #[.string pk,.string pv,.bool pg] 65)).drew.cell? ⟨w.heap.size,2,none⟩=some (.bool pg)):=⟨hmA.cell c2 (fun e=>e),hmA.cell y0 (fun e=>e),hmA.cell y1 (fun e=>e),hmA.cell y2 (fun e=>e)⟩
 have HC7:Hid (w7.cell? ⟨b,2,none⟩=some (.slice wa t.writes.length wcap)/\w7.cell? ⟨w.heap.size,0,none⟩=some (.string pk)/\w7.cell? ⟨w.heap.size,1,none⟩=some (.string pv)/\w7.cell? ⟨w.heap.size,2,none⟩=some (.bool pg)):=⟨c7,y07,y17,y27⟩
 refine zBg 10 6 24 rfl rfl (by kernel_rfl) rfl (v:=.slice (some ⟨w2.heap.size,0,none⟩) 1 1) (w':=(w2.alloc (.cells #[.string pk,.string pv,.bool pg] 65)).drew) (by go_simp) HC1.out ?_
 refine zBg 10 7 25 rfl rfl (by kernel_rfl) rfl (v:=.slice a7 (t.writes.length+1) cap7) (w':=w7) (zHr (s:=.tmp 22) (x:=.tmp 24) (t:=95) rfl (by go_simp) (by go_simp) hrun7) HC7.out ?_
 refine zBg 10 8 26 rfl rfl (by kernel_rfl) rfl (v:=.pointer (some ⟨b,0,none⟩)) (w':=w7) (by go_simp) HC7.out ?_
 refine zBg 10 9 27 rfl rfl (by kernel_rfl) rfl (v:=.pointer (some ⟨b,2,none⟩)) (w':=w7) (by go_simp) HC7.out ?_
 refine zNd 10 rfl (by kernel_rfl) rfl (w':=w7.setCell ⟨b,2,none⟩ (.slice a7 (t.writes.length+1) cap7)) (by go_simp) ?_
 refine ⟨by kernel_rfl,?_⟩
 have hQ1:=HQ1.out
 subst hQ1
 have hfr:=HFR.out
 subst hfr
 clear hpan hsz t0 t3 HC HC1 HC7 HQ1 HFR
 go_wp2_with fail
 have hWT:zEq t ⟨pk,pv,pg⟩={ t with writes:=t.writes++[⟨pk,pv,pg⟩] }:=by unfold zEq;rw [show zJk t (zAz.key ⟨pk,pv,pg⟩)=none from hi]
 go_end0
 refine ⟨rfl,?_⟩
 rw [hWT]
 have hne7:(Value.slice a7 (t.writes.length+1) cap7).ownBlock≠some b:=fun e=>by
  rcases HAT.out with q | q
  ·exact hnb (by rw [<-q];exact e)
  ·rw [q] at e
   simp only [Option.some.injEq] at e
   have:(w2.alloc (.cells #[.string pk,.string pv,.bool pg] 65)).drew.heap.size=w2.heap.size+1:=World.size_alloc _ _
   omega
 have hb7:Blk w7 b [.int .i64 t.state,y.tav b,.slice wa t.writes.length wcap,.int .i64 t.time] 97:=by
  have:=HH2.out.blk.mod HM67.out hnb
  rw [hwv] at this;exact this
 have hms:Mod (zAd b) w7 (w7.setCell ⟨b,2,none⟩ (.slice a7 (t.writes.length+1) cap7)):=Mod.setBlk b 2 _
 have hna:∀ k,(y.tav b).ownBlock=some k->(Value.slice wa t.writes.length wcap).ownBlock≠some k:=fun k hk e=>by
  obtain ⟨_,_,cur,hc1⟩:=zAi HH2.out.ats hk
  obtain ⟨_,_,cur',hc2⟩:=zAi HROW.out e
  rw [hc1] at hc2;simp at hc2
 have hnab:(y.tav b).ownBlock≠some b:=zBf HH2.out.ats HH2.out.blk (by decide)
 refine ⟨.slice a7 (t.writes.length+1) cap7,hb7.set 2 _,zAn (zAn HH2.out.ats HM67.out (fun k _ _ e q=>hna k e q)) hms (fun k _ _ e q=>hnab (by rw [e];exact congrArg some q)),?_,?_,?_⟩
 ·show World.ownsRow _ _ _ _ _ (t.writes++[(⟨pk,pv,pg⟩:zAz)]).length (zBp (t.writes++[(⟨pk,pv,pg⟩:zAz)]))
  rw [List.length_append,zLc]
  exact zAn HOW7.out hms (fun k _ _ e q=>hne7 (by rw [e];exact congrArg some q))
 ·rcases HAT.out with q | q
  ·exact .inl (by rw [q,hwv])
  ·refine .inr (fun k hk=>?_)
   rw [q] at hk
   simp only [Option.some.injEq] at hk
   have h1:=HM2.out.size
   have:(w2.alloc (.cells #[.string pk,.string pv,.bool pg] 65)).drew.heap.size=w2.heap.size+1:=World.size_alloc _ _
   omega
 ·refine ((HM2.out.mono (fun _ _ e=>e.elim)).trans' HM67.out (fun k _ e=>.inr (.inr (by rw [hwv];exact e)))).trans' hms (fun k _ e=>.inl e)
theorem yJy(n b:Nat)(y:HLay)(t:TxS)(p:zAz)(w:World)(h:TxP w n y b t)(hn:n<=w.heap.size)(hl:t.writes.length<=1000) :
  Calls Tryz.prog 76 #[.pointer (some ⟨b,0,none⟩),.agg #[.string p.key,.string p.val,.bool p.gone]] w fun e w'=>e=.returned (.tuple #[])/\yCi w n b y (zEq t p) w':=by
 cases hi:zJk t p.key with
 | none=>exact yJx n b y t p w h hn hl hi
 | some i=>exact yJw n b y t p i w h hl hi
end Go.Proofs.YtogaigioeohjaaaGreatDoor
