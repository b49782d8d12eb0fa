import Derived.Test.YtmaiggbnceejiaaGreatDoorP01
import Derived.RegionTactic
import Derived.Orders
import Derived.Test.YtmaiggbnceejiaaGreatDoorP16
set_option linter.unusedVariables false
set_option maxRecDepth 100000
set_option maxHeartbeats 16000000
namespace Go.Proofs.YtmaiggbnceejiaaGreatDoor
open Go.RowKit Go.Lib Go.Maps
section
variable {P:Program} {ops:Array Oper} {Q:Exit->Act->World->Prop} {md:Region.Mode} {C:World->Prop}
theorem QF{c:Code}{a:Act}{w:World}(h:∀ b,b=a->c.wp P Q b w):c.wp P Q a w:=h a rfl
theorem QP{c:Code}{a:Act}{w:World}(h:∀ Q',Q'=Q->c.wp P Q' a w):c.wp P Q a w:=h Q rfl
def xt(P:Program)(ops:Array Oper)(C:World->Prop)(o:Oper)(v:Value)(a:Act):Prop:=
 Region.wanted o (yielded ops a.tmps)=true/\∀ w,C w->(execOp a.eval o).run P w=.ok (.value v) w
theorem xt.of_same{o:Oper}{v:Value}{a a':Act}(hy:xt P ops C o v a)(he:execOp a'.eval o=execOp a.eval o)
  (hw:Region.wanted o (yielded ops a'.tmps)=Region.wanted o (yielded ops a.tmps)):xt P ops C o v a':=by
 unfold xt at *;rw [he,hw];exact hy
theorem xt.wpOp{i:Nat}{o:Oper}{v:Value}{a:Act}(hi:ops[i]?=some o)(hy:xt P ops C o v a)
  {K:Act->World->Prop} {w:World} (hC:C w) (h:K (a.put o.dst v) w):wpOp P ops Q i K a w:=by
 unfold Go.wpOp;simp only [hi];obtain ⟨hw,hv⟩:=hy;simp only [hw,if_true,Oper.wp,hv w hC,Oper.upon];exact .inl h
theorem yDs{j:Nat}{oj:Oper}(hj:ops[j]?=some oj){K:Act->World->Prop}{a:Act}{w:World}(h:wpOp P ops Q j K a w) :
  wpOp P ops Q j (fun a' w'=>K a' w'/\∃ u ds,a'={ a.put oj.dst u with defers:=ds }) a w:=by
 have dd:∀ u ds,({ a with defers:=ds }:Act).put oj.dst u={ a.put oj.dst u with defers:=ds }:=fun u ds=>by cases oj.dst <;> rfl
 unfold wpOp at h ⊢;simp only [hj] at h ⊢;by_cases hw:Region.wanted oj (yielded ops a.tmps)=true
 ·rw [aJ hw] at h ⊢;refine h.imp (fun h=>?_) id;unfold Oper.wp at h ⊢
  cases hr:(execOp a.eval oj).run P w with
  | halt x w'=>rw [hr] at h;cases x <;> exact h
  | ok n w'=>
   rw [hr] at h
   cases n with
   | value u=>exact ⟨h,u,_,rfl⟩
   | skip=>exact ⟨h,undef,_,rfl⟩
   | defer d=>exact ⟨h,undef,_,dd _ _⟩
   | enter f args=>
    refine Calls.mono h fun e w'' he=>?_
    cases e with
    | returned u=>exact ⟨he,u,_,rfl⟩
    | panicked c=>exact he
    | outgrown=>exact he
   | row r args=>exact Rows.mono h fun u w'' he=>⟨he,u,_,rfl⟩
   | _=>exact h
 ·rw [aE hw] at h ⊢;exact ⟨h,undef,_,rfl⟩
theorem yKv{j:Nat}{oi oj:Oper}{v:Value}(hj:ops[j]?=some oj)(hap:oi.apart ops oj=true)
  (Mx:∀ cs b,oi.op≠.select cs b) (hsj:∀ cs b,oj.op≠.select cs b)
  (hQ:∀ c a w,Q (.panic c) (a.put oi.dst v) w->Q (.panic c) a w) {K:Act->World->Prop} {a:Act} {w:World}
  (hy:xt P ops C oi v a) (h:wpOp P ops Q j K (a.put oi.dst v) w) :
  wpOp P ops Q j (fun a' w'=>xt P ops C oi v a'/\K (a'.put oi.dst v) w') a w:=by
 obtain ⟨h1,h2,h3⟩:=Oper.apart_spec hap;have hl:({ oi with op:=.assign (.const v),guard:=none }:Oper).looksAt ops=[]:=by simp [Oper.looksAt,Op.operands]
 have hc:({ oi with op:=.assign (.const v),guard:=none }:Oper).apart ops oj=true:=by
  unfold Oper.apart;rw [hl]
  cases hd:oi.dst with
  | none=>cases oj.dst <;> simp
  | some d=>
   have q1:(oj.looksAt ops).contains d=false:=by simpa using h1 d hd
   have q2:(oj.dst != some d)=true:=by simpa using h2 d hd
   simp only [q1,q2]
   cases oj.dst <;> simp
 have hyc:Yields P ops { oi with op:=.assign (.const v),guard:=none } v a:=.inl ⟨by simp [Region.wanted],fun w=>rfl⟩;refine wpOp_mono ?_ (yDs hj (wpOp_put (oi:={ oi with op:=.assign (.const v),guard:=none }) hj hc (fun cs b=>by simp) hsj hQ hyc h));rintro a' w' ⟨⟨_,hk⟩,u,ds,rfl⟩;exact ⟨hy.of_same (execOp_put oi Mx a oj.dst u h3) (wanted_put oi a oj.dst u h3),hk⟩
def qY(P:Program)(md:Region.Mode)(ops:Array Oper)(last:Nat)(C:World->Prop)(Q:Exit->Act->World->Prop):Nat->Array Bool->Act->World->Prop
 | 0,listed,a,w=>Region.ready md ops listed=[]/\Q .normal a w
 | fuel+1,listed,a,w=>
  (Region.ready md ops listed=[]->Q .normal a w) /\
  ∀ i∈Region.ready md ops listed,wpOp P ops Q i (fun a' w'=>(i=last\/C w')/\qY P md ops last C Q fuel (listed.setIfInBounds i true) a' w') a w
theorem zRs{last:Nat}:∀ (fuel:Nat) (listed:Array Bool) (a:Act) (w:World),qY P md ops last C Q fuel listed a w->wpAny P md ops Q fuel listed a w
 | 0,_,_,_,h=>h
 | fuel+1,_,_,_,h=>⟨h.1,fun i hi=>wpOp_mono (fun a' w' h'=>zRs fuel _ a' w' h'.2) (h.2 i hi)⟩
def behind(md:Region.Mode)(ops:Array Oper)(j i:Nat):Bool:=match ops[j]? with
 | some o=>o.after.any fun e=>Region.binds md e && e.on == i
 | none=>false
theorem yIv{i j:Nat}{listed:Array Bool}(hi:i∈Region.ready md ops listed)(hj:j∈Region.ready md ops listed):behind md ops j i=false:=by
 obtain ⟨h0,_⟩:=mem_ready.1 hi;obtain ⟨_,o,ho,hall⟩:=mem_ready.1 hj
 cases hb:behind md ops j i with
 | false=>rfl
 | true=>
  simp only [behind,ho] at hb;obtain ⟨e,he,Jr⟩:=Array.any_eq_true'.1 hb;simp only [bN,beq_iff_eq] at Jr;have h1:=hall e he Jr.1;rw [Jr.2] at h1;have:i<listed.size:=by
   rcases dM i listed.size with h' | h'
   ·exact h'
   ·simp [Array.getElem?_eq_none h'] at h1
  simp [this] at h0 h1;rw [h0] at h1
  cases h1
theorem yAg{last i:Nat}{oi:Oper}{v:Value}(hi:ops[i]?=some oi)(Mz:∀ (j:Nat) (o:Oper) cs b,ops[j]?=some o->o.op≠.select cs b)
  (hl:(behind md ops last i || decide (ops.size<=last))=true) (hQ:∀ c a w,Q (.panic c) (a.put oi.dst v) w->Q (.panic c) a w) :
  ∀ (fuel:Nat) (listed:Array Bool) (a:Act) (w:World),Region.free md ops listed i=true->i∈Region.ready md ops listed->xt P ops C oi v a->C w ->
   qY P md ops last C Q fuel (listed.setIfInBounds i true) (a.put oi.dst v) w->qY P md ops last C Q (fuel+1) listed a w:=by
 intro fuel
 induction fuel with
 | zero=>
  intro listed a w _ hr hy hC H;refine ⟨fun h=>(by rw [h] at hr;cases hr),fun j hj=>?_⟩;by_cases BL:j=i
  ·subst BL;exact hy.wpOp hi hC ⟨.inr hC,H⟩
  ·have:=ready_mono hj BL;rw [H.1] at this
   cases this
 | succ fuel ih=>
  intro listed a w hfree hr hy hC H;refine ⟨fun h=>(by rw [h] at hr;cases hr),fun j hj=>?_⟩;by_cases BL:j=i
  ·subst BL;exact hy.wpOp hi hC ⟨.inr hC,H⟩
  ·obtain ⟨Ng,oj,NI,hall⟩:=mem_ready.1 hj;have hnb:=yIv hr hj;have hne:j≠last:=fun e=>by
    subst e;rw [hnb,Bool.false_or] at hl;have h1:=of_decide_eq_true hl;have h2:=(aK.1 NI).1;omega
   have hap:oi.apart ops oj=true:=Region.free_spec hi hfree j oj NI BL Ng (fun e he hb heq=>by
    have:behind md ops j i=true:=by
     simp only [behind,NI];exact Array.any_eq_true'.2 ⟨e,he,by simp [hb,heq]⟩
    rw [this] at hnb;cases hnb)
   have Gs:Region.free md ops (listed.setIfInBounds j true) i=true:=by
    simp only [Region.free,hi,List.all_eq_true,cL] at hfree ⊢;intro k hk;have h1:=hfree k hk;by_cases hjk:j=k
    ·subst hjk;have hlt:j<listed.size:=by
      rcases dM j listed.size with h' | h'
      ·exact h'
      ·simp [Array.getElem?_eq_none h'] at Ng
     simp [hlt]
    ·rw [getD_set_ne true hjk];exact h1
   refine wpOp_mono (fun a' w' h3=>?_) (yKv NI hap (fun cs b=>Mz i oi cs b hi) (fun cs b=>Mz j oj cs b NI) hQ hy (H.2 j (ready_mono hj BL)));have hC':=h3.2.1.resolve_left hne;refine ⟨.inr hC',ih (listed.setIfInBounds j true) a' w' Gs (ready_mono hr (Ne.symm BL)) h3.1 hC' ?_⟩;rw [Array.setIfInBounds_comm _ _ BL];exact h3.2.2
theorem yDt(last i:Nat){oi:Oper}(v:Value){fuel:Nat}{listed:Array Bool}{a:Act}{w:World}(hi:ops[i]?=some oi)
  (hs:Region.noSelect ops=true) (hl:(behind md ops last i || decide (ops.size<=last))=true) (hf:Region.free md ops listed i=true) (hr:(Region.ready md ops listed).contains i=true)
  (hQ:∀ c a w,Q (.panic c) (a.put oi.dst v) w->Q (.panic c) a w) (hC:C w) (hy:xt P ops C oi v a)
  (h:qY P md ops last C Q fuel (listed.setIfInBounds i true) (a.put oi.dst v) w):qY P md ops last C Q (fuel+1) listed a w:=
 yAg hi (Region.noSelect_spec hs) hl hQ fuel listed a w hf (by simpa using hr) hy hC h
theorem yDu(last i:Nat){oi:Oper}{fuel:Nat}{listed:Array Bool}{a:Act}{w:World}(hi:ops[i]?=some oi)(hr:Region.ready md ops listed=[i])
  (hw:Region.wanted oi (yielded ops a.tmps)=true) {v:Value} {w':World} (hrun:(execOp a.eval oi).run P w=.ok (.value v) w') (hC:C w')
  (h:qY P md ops last C Q fuel (listed.setIfInBounds i true) (a.put oi.dst v) w'):qY P md ops last C Q (fuel+1) listed a w:=by
 refine ⟨fun h0=>(by rw [hr] at h0;cases h0),fun j hj=>?_⟩;rw [hr] at hj;simp only [bK] at hj;subst hj;unfold wpOp;simp only [hi,hw,if_true,Oper.wp,hrun,Oper.upon];exact .inl ⟨.inr hC,h⟩
theorem JH(i:Nat){oi:Oper}{fuel:Nat}{listed:Array Bool}{a:Act}{w:World}(hi:ops[i]?=some oi)(hr:Region.ready md ops listed=[i])
  (hw:Region.wanted oi (yielded ops a.tmps)=true) {w':World} (hrun:(execOp a.eval oi).run P w=.ok .skip w')
  (h:qY P md ops i C Q fuel (listed.setIfInBounds i true) (a.put oi.dst undef) w'):qY P md ops i C Q (fuel+1) listed a w:=by
 refine ⟨fun h0=>(by rw [hr] at h0;cases h0),fun j hj=>?_⟩;rw [hr] at hj;simp only [bK] at hj;subst hj;unfold wpOp;simp only [hi,hw,if_true,Oper.wp,hrun,Oper.upon];exact .inl ⟨.inl (by simp),h⟩
theorem yDv(last i:Nat){oi:Oper}{fuel:Nat}{listed:Array Bool}{a:Act}{w:World}(hi:ops[i]?=some oi)(hr:Region.ready md ops listed=[i])
  (hw:Region.wanted oi (yielded ops a.tmps)=true) {f:Nat} {args:Array Value} (hrun:(execOp a.eval oi).run P w=.ok (.enter f args) w)
  (h:Calls P f args w fun e w'=>∃ v,e=.returned v/\C w'/\qY P md ops last C Q fuel (listed.setIfInBounds i true) (a.put oi.dst v) w'):qY P md ops last C Q (fuel+1) listed a w:=by
 refine ⟨fun h0=>(by rw [hr] at h0;cases h0),fun j hj=>?_⟩;rw [hr] at hj;simp only [bK] at hj;subst hj;unfold wpOp;simp only [hi,hw,if_true,Oper.wp,hrun,Oper.upon];refine .inl (Calls.mono h ?_);rintro e w' ⟨v,rfl,hC,h'⟩;exact ⟨.inr hC,h'⟩
theorem zAd(last i d:Nat){oi:Oper}(v:Value){fuel:Nat}{listed:Array Bool}{a:Act}{w:World}(hi:ops[i]?=some oi)(hd:oi.dst=some d)
  (hs:Region.noSelect ops=true) (hl:(behind md ops last i || decide (ops.size<=last))=true) (hf:Region.free md ops listed i=true) (hr:(Region.ready md ops listed).contains i=true)
  (hQ:∀ c a w,Q (.panic c) (a.put (some d) v) w->Q (.panic c) a w) (hC:C w) (hy:xt P ops C oi v a)
  (h:qY P md ops last C Q fuel (listed.setIfInBounds i true) (a.put (some d) v) w):qY P md ops last C Q (fuel+1) listed a w:=by
 rw [<-hd] at hQ h;exact yDt last i v hi hs hl hf hr hQ hC hy h
theorem fu(last i d:Nat){oi:Oper}(v:Value){fuel:Nat}{listed:Array Bool}{a:Act}{w:World}(hi:ops[i]?=some oi)(hd:oi.dst=some d)
     
  (hQ:∀ c a w,Q (.panic c) (a.put (some d) v) w->Q (.panic c) a w) (hC:C w) (hy:xt P ops C oi v a)
  (h:qY P md ops last C Q fuel (listed.setIfInBounds i true) (a.put (some d) v) w)(hs:Region.noSelect ops=true:=by kernel_rfl)(hl:(behind md ops last i || decide (ops.size<=last))=true:=by kernel_rfl)(hf:Region.free md ops listed i=true:=by kernel_rfl)(hr:(Region.ready md ops listed).contains i=true:=by kernel_rfl):qY P md ops last C Q (fuel+1) listed a w:=zAd last i d v hi hd hs hl hf hr hQ hC hy h
theorem nc(last i d:Nat){oi:Oper}{fuel:Nat}{listed:Array Bool}{a:Act}{w:World}(hi:ops[i]?=some oi)(hd:oi.dst=some d)(hr:Region.ready md ops listed=[i])
  (hw:Region.wanted oi (yielded ops a.tmps)=true) {v:Value} {w':World} (hrun:(execOp a.eval oi).run P w=.ok (.value v) w') (hC:C w')
  (h:qY P md ops last C Q fuel (listed.setIfInBounds i true) (a.put (some d) v) w'):qY P md ops last C Q (fuel+1) listed a w:=by
 rw [<-hd] at h;exact yDu last i hi hr hw hrun hC h
theorem Un(last i d:Nat){oi:Oper}{fuel:Nat}{listed:Array Bool}{a:Act}{w:World}(hi:ops[i]?=some oi)(hd:oi.dst=some d)(hr:Region.ready md ops listed=[i])
  (hw:Region.wanted oi (yielded ops a.tmps)=true) {f:Nat} {args:Array Value} (hrun:(execOp a.eval oi).run P w=.ok (.enter f args) w)
  (h:Calls P f args w fun e w'=>∃ v,e=.returned v/\C w'/\qY P md ops last C Q fuel (listed.setIfInBounds i true) (a.put (some d) v) w'):qY P md ops last C Q (fuel+1) listed a w:=by
 rw [<-hd] at h;exact yDv last i hi hr hw hrun h
theorem FR(last:Nat)(C:World->Prop){id:Nat}{a:Act}{w:World}(hm:P.follows .mixedOrders=true)
  (h:qY P .any ops last C Q ops.size (Array.replicate ops.size false) a { w with drawn:=w.drawn+1 }):(Code.region id ops true).wp P Q a w:=
 wp_region_any hm (zRs _ _ _ _ h)
end
theorem CD{P:Program}{w w':World}{o:Oper}{a:Act}{s x:Operand}{t:TypeId}{vs vx v:Value}(ho:o.op=.call { callee:=.builtin .append,args:=#[s,x],argTypes:=#[t,t] })(hs:a.eval s=vs)(hx:a.eval x=vx)
  (hr:(Builtin.append_ #[t,t] o.type #[vs,vx]).run P w=.ok v w'):(execOp a.eval o).run P w=.ok (.value v) w':=by
 simp only [execOp,ho,resolve,invoke,builtin,Sem.run_bind,Sem.run_pure,Result.andThen_ok,cI,bh,cR,hs,hx,hr]
theorem yLu{w:World}{B wb m cap i:Nat}{ps:List fR}{p:fR}(h:w.ownsRow B 68 3 (.slice (some ⟨wb,0,none⟩) m cap) ps.length (gV ps))(hi:i<ps.length) :
  (w.setCells wb (i*3) (jn p)).ownsRow B 68 3 (.slice (some ⟨wb,0,none⟩) m cap) (ps.set i p).length (gV (ps.set i p))/\Mod (eF wb) w (w.setCells wb (i*3) (jn p))/\(∀ j,j<3->∃ u,w.cell? ⟨wb,i*3+j,none⟩=some u)/\∀ j,w.frozen? ⟨wb,j,none⟩=false:=by
 obtain ⟨h1,h2⟩:=h;rcases h2 with ⟨e,_⟩ | ⟨b',cap',cur,e,q1,q2,q3,q4,q5,q6⟩
 ·simp at e
 ·simp only [Value.slice.injEq,bB,Addr.mk.injEq] at e;obtain ⟨⟨rfl,_,_⟩,rfl,rfl⟩:=e;obtain ⟨o,ho⟩:∃ o,ps[i]?=some o:=⟨_,aA hi⟩;have hl:=Au ps;have hs:ps=ps.take i++o :: ps.drop (i+1):=by rw [<-uR ho,ai]
  have GV:ps.set i p=ps.take i++p :: ps.drop (i+1):=by
   rw [List.set_eq_take_append_cons_drop,aJ hi]
  have fX:cur.toList=gV (ps.take i)++jn o++(gV (ps.drop (i+1))++cur.toList.drop (ps.length*3)):=by
   have e1:gV ps=gV (ps.take i)++(jn o++gV (ps.drop (i+1))):=by
    conv=>lhs;rw [hs]
    rw [Li,Di]
   have e2:cur.toList=gV ps++cur.toList.drop (ps.length*3):=by
    rw [<-q6,ai]
   rw [e1] at e2;simpa [List.append_assoc] using e2
  have hB:dh w wb (gV (ps.take i)++jn o++(gV (ps.drop (i+1))++cur.toList.drop (ps.length*3))) 68:=by
   unfold dh;rw [q2,<-fX]
  have lt:=Au (ps.take i);rw [aZ,Nat.min_eq_left (Nat.le_of_lt hi)] at lt;have gm:=dh.kN (g:=wb) (t:=68) (jn p) w (gV (ps.take i)) (jn o) _ hB rfl;rw [lt] at gm;have hrow:gV (ps.set i p)=gV (ps.take i)++jn p++gV (ps.drop (i+1)):=by rw [GV,Li,Di,aU]
  have CT:=Au (ps.set i p);rw [aa] at CT;have hcl:(gV (ps.take i)++jn p++(gV (ps.drop (i+1))++cur.toList.drop (ps.length*3)))=gV (ps.set i p)++cur.toList.drop (ps.length*3):=by rw [hrow];simp [List.append_assoc]
  refine ⟨⟨by rw [CT,aa],.inr ⟨wb,cap,(gV (ps.set i p)++cur.toList.drop (ps.length*3)).toArray,by rw [aa],q1,?_,by rw [aa];exact q3,q4,?_,?_⟩⟩,Mod.kN _ _ _,fun j hj=>?_,fun j=>hB.frozen j⟩
  ·rw [<-hcl];exact gm
  ·simp only [au,aD,CT,bJ,cG];omega
  ·rw [aa,<-CT];simp
  ·have hlen:i*3+j<(gV (ps.take i)++jn o++(gV (ps.drop (i+1))++cur.toList.drop (ps.length*3))).length:=by
    simp only [aD,lt,jn,aW,an];omega
   exact ⟨_,hB.cell _ (aA hlen)⟩
def MA(w:World)(n b:Nat)(y:dX)(t:jO)(w':World):Prop:=
 ∃ wv,dh w' b [.int .i64 t.state,y.jN b,wv,.int .i64 t.time] 86/\w'.ownsRow n 3 1 (y.jN b) t.ats.length (t.ats.map (Value.int .i64))/\w'.ownsRow n 68 3 wv t.writes.length (t.writes.flatMap nw)/\iC w (y.jf b) wv/\Mod (Ly b (y.jN b) (y.jf b)) w w'
theorem yKs(n b:Nat)(y:dX)(t:jO)(p:fR)(i:Nat)(w:World)(h:tJ w n y b t)(hl:t.writes.length<=1000)(hi:tn t p.key=some i) :
  Calls Tryz.prog 52 #[.pointer (some ⟨b,0,none⟩),.agg #[.string p.key,.string p.val,.bool p.gone]] w fun e w'=>e=.returned (.tuple #[])/\MA w n b y (lV t p) w':=by
 obtain ⟨pk,pv,pg⟩:=p;dsimp only at hi ⊢;obtain ⟨w1,hw1⟩:∃ z,z=w.alloc (.cells #[.string pk,.string pv,.bool pg] 68):=⟨_,rfl⟩;have di:Mod dZ w w1:=by rw [hw1];exact (Mod.refl _ w).alloc _
 have hb1:dh w1 w.heap.size [.string pk,.string pv,.bool pg] 68:=by rw [hw1];exact dh.new w _ _
 have h1:=h.mod di (fun e=>e) (fun _ _ e=>e);have HW:=dU (Tw n b y t pk w1 h1 hl);rw [hi] at HW;simp only [iO] at HW;have hil:i<t.writes.length:=by
  unfold tn at hi;obtain ⟨hlt,_⟩:=bu.1 hi;exact hlt
 obtain ⟨wb,fz,iT⟩:∃ wb fz,y.jf b=.slice (some ⟨wb,0,none⟩) t.writes.length fz:=by
  rcases h.wr.2 with ⟨e,h0⟩ | ⟨g',cap',cur,e,_⟩
  ·omega
  ·exact ⟨g',cap',e⟩
 have x0:=hb1.cell 0 rfl;have sM:=dU h1;have mV:=dU hb1;have fg:=dU di;have hge:decide ((i:Int) ≥ 0)=true:=aQ (by omega);clear h h1 hb1 di;go_enter Tryz.func52,Tryz.ntmps52;go_upto_region 1 with fail;rw [<-hw1];clear hw1;go_upto_region 3 with (first
  | (go_at_call 91;refine HW.out.mono ?_;rintro e w2 ⟨rfl,hm2⟩)
  | fail)
 have h2:=sM.out.mod hm2 (fun e=>e) (fun _ _ e=>e);have hb2:=mV.out.mod hm2 (fun e=>e);have c2:=h2.blk.cell 2 rfl;have y0:=hb2.cell 0 rfl;have y1:=hb2.cell 1 rfl;have y2:=hb2.cell 2 rfl;have zb:=h2.blk.lt;have hrow:w2.ownsRow n 68 3 (.slice (some ⟨wb,0,none⟩) t.writes.length fz) t.writes.length (gV t.writes):=by have:=h2.wr;rw [iT] at this;exact this
 rw [iT] at c2;obtain ⟨r1,r2,r3,r4⟩:=yLu (p:=⟨pk,pv,pg⟩) hrow hil;obtain ⟨u0,v0⟩:=r3 0 (by omega);obtain ⟨u1,v1⟩:=r3 1 (by omega);obtain ⟨u2,v2⟩:=r3 2 (by omega);have f0:=r4 (i*3);have f1:=r4 (i*3+1);have f2:=r4 (i*3+2);simp only [bC] at v0;have wB:(i:Int)<(t.writes.length:Int):=by omega
 have hi0:(0:Int)<=(i:Int):=by omega
 have hzw:=fg.out.size;have WX:wb≠b:=fun e=>oM hrow h2.blk (by decide) (by rw [e];rfl);have PS:=dU r1;have Ba:=dU r2;have lU:=dU h2;have gu:=dU (fg.out.trans hm2);clear r1 r2 r3 r4 hrow h2 hb2 hm2 HW mV sM fg;refine wp_region_still_tail 7 (by kernel_rfl) (by kernel_rfl) ?_;simp only [aq,bg,bR,bx]
 repeat still_step
 refine wpStill_nil ?_;go_wp2_with fail;have YJ:lV t ⟨pk,pv,pg⟩={ t with writes:=t.writes.set i ⟨pk,pv,pg⟩ }:=by unfold lV;rw [show tn t (fR.key ⟨pk,pv,pg⟩)=some i from hi]
 refine bodyPost_ret (results_none rfl _ _ _) rfl ⟨rfl,?_⟩;show MA w n b y _ (World.drew (w2.setCells wb (i*3) (jn ⟨pk,pv,pg⟩)));rw [YJ];have hmm:Mod (eF wb) w2 (World.drew (w2.setCells wb (i*3) (jn ⟨pk,pv,pg⟩))):=Ba.out.drew;have ji:∀ k,(y.jN b).ownBlock=some k->k≠wb:=fun k hk e=>by
  subst e;obtain ⟨_,_,cur,hc1⟩:=ft lU.out.ats hk;obtain ⟨_,_,cur',hc2⟩:=ft lU.out.wr (show (y.jf b).ownBlock=some k by rw [iT];rfl);rw [hc1] at hc2;simp at hc2
 refine ⟨y.jf b,lU.out.blk.mod hmm (fun e=>WX (Eq.symm e)),gD lU.out.ats hmm (fun k _ _ e q=>ji k e q),?_,.inl rfl,?_⟩
 ·rw [iT];have hq:=PS.out;rw [aa] at hq;show World.ownsRow _ _ _ _ _ (t.writes.set i ⟨pk,pv,pg⟩).length (gV (t.writes.set i ⟨pk,pv,pg⟩));rw [aa];exact gD hq ((Mod.refl dZ _).drew) (fun _ _ _ _ e=>e)
 ·exact (gu.out.mono (fun _ _ e=>e.elim)).trans (hmm.mono (fun x _ e=>.inr (.inr (by rw [iT];exact ae some (Eq.symm e)))))
theorem yKt(n b:Nat)(y:dX)(t:jO)(p:fR)(w:World)(h:tJ w n y b t)(hn:n<=w.heap.size)(hl:t.writes.length<=1000)(hi:tn t p.key=none) :
  Calls Tryz.prog 52 #[.pointer (some ⟨b,0,none⟩),.agg #[.string p.key,.string p.val,.bool p.gone]] w fun e w'=>e=.returned (.tuple #[])/\MA w n b y (lV t p) w':=by
 obtain ⟨pk,pv,pg⟩:=p;dsimp only at hi ⊢;obtain ⟨i0,hpi,hz0,hz1,hz2⟩:=info_parts Tryz.yx;obtain ⟨w1,hw1⟩:∃ z,z=w.alloc (.cells #[.string pk,.string pv,.bool pg] 68):=⟨_,rfl⟩;have di:Mod dZ w w1:=by rw [hw1];exact (Mod.refl _ w).alloc _
 have hb1:dh w1 w.heap.size [.string pk,.string pv,.bool pg] 68:=by rw [hw1];exact dh.new w _ _
 have h1:=h.mod di (fun e=>e) (fun _ _ e=>e);have HW:=dU (Tw n b y t pk w1 h1 hl);rw [hi] at HW;simp only [iO] at HW;have x0:=hb1.cell 0 rfl;have sM:=dU h1;have Sg:Hid (∀ k,(y.jf b).ownBlock=some k->k<w.heap.size):=fun k hk=>(ft h.wr hk).2.1;have mV:=dU hb1;have fg:=dU di;clear h h1 hb1 di;go_enter Tryz.func52,Tryz.ntmps52;go_upto_region 1 with fail;rw [<-hw1];clear hw1;go_upto_region 4 with (first
  | (go_at_call 91;refine HW.out.mono ?_;rintro e w2 ⟨rfl,hm2⟩)
  | fail)
 have h2:=sM.out.mod hm2 (fun e=>e) (fun _ _ e=>e);have hb2:=mV.out.mod hm2 (fun e=>e);obtain ⟨wa,fz,iT⟩:=fJ h2.wr;have c2:=h2.blk.cell 2 rfl;have f2:=h2.blk.frozen 2;have y0:=hb2.cell 0 rfl;have y1:=hb2.cell 1 rfl;have y2:=hb2.cell 2 rfl;have zb:=h2.blk.lt;have zq:=hb2.lt;have lQ:=fg.out.trans hm2;have hrow:w2.ownsRow n 68 3 (.slice wa t.writes.length fz) t.writes.length (gV t.writes):=by have:=h2.wr;rw [iT] at this;exact this
 have hrow3:((w2.alloc (.cells #[.string pk,.string pv,.bool pg] 68)).drew).ownsRow n 68 3 (.slice wa t.writes.length fz) t.writes.length (gV t.writes):=gD hrow (((Mod.refl dZ w2).alloc _).drew) (fun _ _ _ _ e=>e);obtain ⟨v7,w7,iA,eQ,fB,pq,jC⟩:=run_append_own_at (P:=Tryz.prog) _ n 63 63 68 i0 _ 3 40 Tryz.underlying63 hpi hz0 hz1 hz2 rfl (by omega) _ _ _ hrow3 ⟨w2.heap.size,0,none⟩ 1 1 (jn ⟨pk,pv,pg⟩) rfl (World.news_of_block (heap_alloc_new w2 _)) (fun u hu=>by simp [jn] at hu;rcases hu with rfl | rfl | rfl <;> rfl) (by unfold maxLen;omega) (by omega) (by have:=lQ.size;show n<=(w2.alloc _).heap.size;rw [World.size_alloc];omega);obtain ⟨a7,fP,qf⟩:=fJ eQ;subst qf;have fp:Mod (fun k=>(Value.slice wa t.writes.length fz).ownBlock=some k) w2 w7:=(((Mod.refl _ w2).alloc _).drew).grown fB (fun x hx _=>hx);have hnb:(Value.slice wa t.writes.length fz).ownBlock≠some b:=oM hrow h2.blk (by decide);rw [iT] at c2;have c7:=fp.cell c2 hnb;have f7:=(fp.frozen (p:=⟨b,2,none⟩) zb hnb).trans f2;have zb7:=aG zb fp.size;have XH:(Value.slice wa t.writes.length fz).ownBlock≠some w.heap.size:=fun e=>by have:=Sg.out w.heap.size (by rw [iT];exact e);omega
 have y07:=fp.cell y0 XH;have y17:=fp.cell y1 XH;have y27:=fp.cell y2 XH;have lU:=dU h2;have fc:=dU hrow;have ZZ:=dU eQ;have IM:=dU fp;have FB:=dU jC;have gu:=dU lQ;refine QF fun fr jF=>?_;refine QP fun Q1 oF=>?_;have fo:∀ (d:Nat) (v:Value) (c:List PanicEntry) (a:Act) (w:World),Q1 (.panic c) (a.put (some d) v) w->Q1 (.panic c) a w:=fun d v c a w h=>by rw [oF] at h ⊢;exact h
 have Bb:=dU oF;clear oF;have hsz:fr.tmps.size=28:=by rw [jF];rfl
 obtain ⟨_,t0⟩:∃ h:0<fr.tmps.size,fr.tmps[0]=.pointer (some ⟨b,0,none⟩):=aK.1 (by rw [jF];rfl);obtain ⟨_,t3⟩:∃ h:3<fr.tmps.size,fr.tmps[3]=.pointer (some ⟨w.heap.size,0,none⟩):=aK.1 (by rw [jF];rfl);have kx:=dU jF;clear jF h2 hb2 hrow hrow3 eQ fp jC pq lQ hm2 sM mV fg HW;refine FR 10 (fun wq=>wq.cell? ⟨b,2,none⟩=some (.slice wa t.writes.length fz)/\wq.cell? ⟨w.heap.size,0,none⟩=some (.string pk)/\wq.cell? ⟨w.heap.size,1,none⟩=some (.string pv)/\wq.cell? ⟨w.heap.size,2,none⟩=some (.bool pg)) rfl ?_;have HC:Hid (w2.drew.cell? ⟨b,2,none⟩=some (.slice wa t.writes.length fz)/\w2.drew.cell? ⟨w.heap.size,0,none⟩=some (.string pk)/\w2.drew.cell? ⟨w.heap.size,1,none⟩=some (.string pv)/\w2.drew.cell? ⟨w.heap.size,2,none⟩=some (.bool pg)):=⟨c2,y0,y1,y2⟩;refine fu 10 0 18 (.pointer (some ⟨b,0,none⟩)) rfl rfl (fun c a w h=>fo _ _ c a w h) HC.out ⟨by rfl,fun wq hq=>by have q0:=hq.1;have q1:=hq.2.1;have q2:=hq.2.2.1;have q3:=hq.2.2.2;go_simp⟩ ?_;refine fu 10 1 19 (.pointer (some ⟨b,0,none⟩)) rfl rfl (fun c a w h=>fo _ _ c a w h) HC.out ⟨by rfl,fun wq hq=>by have q0:=hq.1;have q1:=hq.2.1;have q2:=hq.2.2.1;have q3:=hq.2.2.2;go_simp⟩ ?_;refine fu 10 2 20 (.pointer (some ⟨b,0,none⟩)) rfl rfl (fun c a w h=>fo _ _ c a w h) HC.out ⟨by rfl,fun wq hq=>by have q0:=hq.1;have q1:=hq.2.1;have q2:=hq.2.2.1;have q3:=hq.2.2.2;go_simp⟩ ?_;refine fu 10 3 21 (.pointer (some ⟨b,2,none⟩)) rfl rfl (fun c a w h=>fo _ _ c a w h) HC.out ⟨by rfl,fun wq hq=>by have q0:=hq.1;have q1:=hq.2.1;have q2:=hq.2.2.1;have q3:=hq.2.2.2;go_simp⟩ ?_;refine fu 10 4 22 (.slice wa t.writes.length fz) rfl rfl (fun c a w h=>fo _ _ c a w h) HC.out ⟨by rfl,fun wq hq=>by have q0:=hq.1;have q1:=hq.2.1;have q2:=hq.2.2.1;have q3:=hq.2.2.2;go_simp⟩ ?_;refine fu 10 5 23 (.agg #[.string pk,.string pv,.bool pg]) rfl rfl (fun c a w h=>fo _ _ c a w h) HC.out ⟨by rfl,fun wq hq=>by have q0:=hq.1;have q1:=hq.2.1;have q2:=hq.2.2.1;have q3:=hq.2.2.2;go_simp⟩ ?_;have qS:Mod dZ w2 (w2.alloc (.cells #[.string pk,.string pv,.bool pg] 68)).drew:=((Mod.refl dZ w2).alloc _).drew;have wM:Hid ((w2.alloc (.cells #[.string pk,.string pv,.bool pg] 68)).drew.cell? ⟨b,2,none⟩=some (.slice wa t.writes.length fz)/\(w2.alloc (.cells #[.string pk,.string pv,.bool pg] 68)).drew.cell? ⟨w.heap.size,0,none⟩=some (.string pk)/\(w2.alloc (.cells #[.string pk,.string pv,.bool pg] 68)).drew.cell? ⟨w.heap.size,1,none⟩=some (.string pv)/\(w2.alloc (.cells #[.string pk,.string pv,.bool pg] 68)).drew.cell? ⟨w.heap.size,2,none⟩=some (.bool pg)):=⟨qS.cell c2 (fun e=>e),qS.cell y0 (fun e=>e),qS.cell y1 (fun e=>e),qS.cell y2 (fun e=>e)⟩;have qu:Hid (w7.cell? ⟨b,2,none⟩=some (.slice wa t.writes.length fz)/\w7.cell? ⟨w.heap.size,0,none⟩=some (.string pk)/\w7.cell? ⟨w.heap.size,1,none⟩=some (.string pv)/\w7.cell? ⟨w.heap.size,2,none⟩=some (.bool pg)):=⟨c7,y07,y17,y27⟩;refine nc 10 6 24 rfl rfl (by kernel_rfl) rfl (v:=.slice (some ⟨w2.heap.size,0,none⟩) 1 1) (w':=(w2.alloc (.cells #[.string pk,.string pv,.bool pg] 68)).drew) (by go_simp) wM.out ?_;refine nc 10 7 25 rfl rfl (by kernel_rfl) rfl (v:=.slice a7 (t.writes.length+1) fP) (w':=w7) (CD (s:=.tmp 22) (x:=.tmp 24) (t:=63) rfl (by go_simp) (by go_simp) iA) qu.out ?_;refine nc 10 8 26 rfl rfl (by kernel_rfl) rfl (v:=.pointer (some ⟨b,0,none⟩)) (w':=w7) (by go_simp) qu.out ?_;refine nc 10 9 27 rfl rfl (by kernel_rfl) rfl (v:=.pointer (some ⟨b,2,none⟩)) (w':=w7) (by go_simp) qu.out ?_;refine JH 10 rfl (by kernel_rfl) rfl (w':=w7.setCell ⟨b,2,none⟩ (.slice a7 (t.writes.length+1) fP)) (by go_simp) ?_;refine ⟨by kernel_rfl,?_⟩;have oF:=Bb.out;subst oF;have jF:=kx.out;subst jF;clear fo hsz t0 t3 HC wM qu Bb kx;go_wp2_with fail;have YJ:lV t ⟨pk,pv,pg⟩={ t with writes:=t.writes++[⟨pk,pv,pg⟩] }:=by unfold lV;rw [show tn t (fR.key ⟨pk,pv,pg⟩)=none from hi]
 go_end0;refine ⟨rfl,?_⟩;rw [YJ];have sj:(Value.slice a7 (t.writes.length+1) fP).ownBlock≠some b:=fun e=>by
  rcases FB.out with q | q
  ·exact hnb (by rw [<-q];exact e)
  ·rw [q] at e;simp only [bB] at e;have:(w2.alloc (.cells #[.string pk,.string pv,.bool pg] 68)).drew.heap.size=w2.heap.size+1:=World.size_alloc _ _;omega
 have OC:dh w7 b [.int .i64 t.state,y.jN b,.slice wa t.writes.length fz,.int .i64 t.time] 86:=by
  have:=lU.out.blk.mod IM.out hnb;rw [iT] at this;exact this
 have iV:Mod (eF b) w7 (w7.setCell ⟨b,2,none⟩ (.slice a7 (t.writes.length+1) fP)):=Mod.dq b 2 _;have ji:∀ k,(y.jN b).ownBlock=some k->(Value.slice wa t.writes.length fz).ownBlock≠some k:=fun k hk e=>by
  obtain ⟨_,_,cur,hc1⟩:=ft lU.out.ats hk;obtain ⟨_,_,cur',hc2⟩:=ft fc.out e;rw [hc1] at hc2;simp at hc2
 have XN:(y.jN b).ownBlock≠some b:=oM lU.out.ats lU.out.blk (by decide);refine ⟨.slice a7 (t.writes.length+1) fP,OC.set 2 _,gD (gD lU.out.ats IM.out (fun k _ _ e q=>ji k e q)) iV (fun k _ _ e q=>XN (by rw [e];exact ae some q)),?_,?_,?_⟩
 ·show World.ownsRow _ _ _ _ _ (t.writes++[(⟨pk,pv,pg⟩:fR)]).length (gV (t.writes++[(⟨pk,pv,pg⟩:fR)]));rw [aD,Li];exact gD ZZ.out iV (fun k _ _ e q=>sj (by rw [e];exact ae some q))
 ·rcases FB.out with q | q
  ·exact .inl (by rw [q,iT])
  ·refine .inr (fun k hk=>?_);rw [q] at hk;simp only [bB] at hk;have h1:=gu.out.size;have:(w2.alloc (.cells #[.string pk,.string pv,.bool pg] 68)).drew.heap.size=w2.heap.size+1:=World.size_alloc _ _;omega
 ·refine ((gu.out.mono (fun _ _ e=>e.elim)).trans' IM.out (fun k _ e=>.inr (.inr (by rw [iT];exact e)))).trans' iV (fun k _ e=>.inl e)
theorem yKu(n b:Nat)(y:dX)(t:jO)(p:fR)(w:World)(h:tJ w n y b t)(hn:n<=w.heap.size)(hl:t.writes.length<=1000) :
  Calls Tryz.prog 52 #[.pointer (some ⟨b,0,none⟩),.agg #[.string p.key,.string p.val,.bool p.gone]] w fun e w'=>e=.returned (.tuple #[])/\MA w n b y (lV t p) w':=by
 cases hi:tn t p.key with
 | none=>exact yKt n b y t p w h hn hl hi
 | some i=>exact yKs n b y t p i w h hl hi
theorem nY{s:dW}{id:Int}(h:nX s id=0):∃ i:Nat,id=i/\1<=i/\i<=s.dV.length/\(s.tx i).state=1:=by
 unfold nX ij sa at h;by_cases h1:1<=id
 ·by_cases h2:id<=(s.dV.length:Int)
  ·refine ⟨id.toNat,by omega,by omega,by omega,?_⟩;rw [aQ h1,aQ h2] at h;simp at h;by_cases h0:(s.tx id.toNat).state=0
   ·simp [h0] at h
   ·by_cases h3:(s.tx id.toNat).state=1
    ·exact h3
    ·simp [h0,h3] at h
  ·rw [aP h2] at h;simp at h
 ·rw [aP h1] at h;simp at h
theorem nu{s:dW}{id:Int}{key:ByteArray}(h:nA s id key=0):nX s id=0/\key.size<=20/\(td s (ee s key)).isSome=true:=by
 unfold nA at h;by_cases h1:nX s id=0
 ·rw [aE (fun q=>q h1)] at h;by_cases h2:20<key.size
  ·rw [aJ h2] at h;omega
  ·rw [aE h2] at h
   cases h3:td s (ee s key) with
   | none=>rw [h3] at h;simp at h
   | some x=>exact ⟨h1,by omega,rfl⟩
 ·rw [aJ h1] at h;exact absurd h h1
theorem yBr(s:dW)(id:Int)(key:ByteArray)(mode:Int)(h:∀ t∈s.dV,t.writes.length<=20):∀ t∈(jH s id key mode).1.dV,t.writes.length<=20:=by
 unfold jH;simp only;split
 ·exact Qu _ (gZ s id key mode).1 h
 ·exact h
theorem zTx(s:dW)(id:Nat)(key:ByteArray)(mode:Int)(h:∀ t∈s.dV,t.writes.length<=20):(gC s id key mode).1.dV.length=s.dV.length/\∀ t∈(gC s id key mode).1.dV,t.writes.length<=20:=by
 have h2:=zXa s id key mode;have h3:=yBr s id key mode h;unfold gC;simp only;split
 ·exact ⟨h2.1,h3⟩
 ·split
  ·exact ⟨h2.1,h3⟩
  ·refine ⟨?_,Qu _ _ (JL _ _ _ h3 (FM h3 _))⟩;rw [(gB.fT _ _).len];exact (kT _ _ _).trans h2.1
theorem du.wrote{w w':World}{n c g:Nat}{y:dX}{s:dW}(h:du w n c g y s){id b:Nat}{t':jO}(h1:1<=id)(h2:id<=s.dV.length)(hb:y.ja[id - 1]?=some b)(hw:MA w n b y t' w') :
  ∃ y',du w' n c g y' (dY s id t')/\eJ w y w' y':=by
 obtain ⟨wv,q1,q2,q3,q4,q5⟩:=hw;obtain ⟨hH,hS⟩:=h.pd hb (tk h1 h2) q5 q1 q2 q3 (.inl (.inl rfl)) (.inl q4);exact ⟨_,hH,hS,rfl,rfl,rfl,rfl,rfl⟩
def iQ(w:World)(n c g:Nat)(y:dX)(s':dW)(er:Int)(e:Ending)(w':World):Prop:=e=.returned (ie er)/\∃ y',du w' n c g y' s'/\eJ w y w' y'
theorem VU(n c g:Nat)(y:dX)(s:dW)(id:Int)(p:fR)(w:World)(h:du w n c g y s)(hok:Ic w n c s)(hk:fj p.key)(hv:fj p.val) :
  Calls Tryz.prog 23 #[.pointer (some ⟨g,0,none⟩),.int .i64 id,.agg #[.string p.key,.string p.val,.bool p.gone]] w (iQ w n (c+2) g y (eZ s id p).1 (eZ s id p).2):=by
 obtain ⟨pk,pv,pg⟩:=p;dsimp only at hk hv ⊢;have hmk:=Ip;have hcc:=hok.c;obtain ⟨w1,hw1⟩:∃ z,z=w.alloc (.cells #[.string pk,.string pv,.bool pg] 68):=⟨_,rfl⟩;have di:Mod dZ w w1:=by rw [hw1];exact (Mod.refl _ w).alloc _
 have hb1:dh w1 w.heap.size [.string pk,.string pv,.bool pg] 68:=by rw [hw1];exact dh.new w _ _
 have h1:=h.quiet di;have x0:=hb1.cell 0 rfl;have x1:=hb1.cell 1 rfl;have mV:=dU hb1;have fg:=dU di;have sM:=dU h1;have oZ:=dU hok;have PX:Hid (y.own w.heap.size=.no):=by
  by_cases e:y.own w.heap.size=.no
  ·exact e
  ·have:=(h.own.lt _ e).2;omega
 have jy:=h.low;have hgl:=h.blk.lt;unfold fj maxLen at hv;clear h h1 hb1 di hok;by_cases hvl:40<pv.size
 ·have hvb:decide ((pv.size:Int) > 40)=true:=aQ (by omega);have HF:Hid (iQ w n (c+2) g y (eZ s id ⟨pk,pv,pg⟩).1 (eZ s id ⟨pk,pv,pg⟩).2 (.returned (.iface 90 (.int .i64 4))) w1):=by
   unfold Hid eZ;rw [aJ hvl];exact ⟨by rw [mJ (by omega)],y,sM.out.sZ (by omega),eJ.quiet fg.out⟩
  clear hvl;go_enter Tryz.func23,Tryz.ntmps23;go_upto_region 1 with fail;rw [<-hw1];clear hw1;go_wp2_with fail;go_ret;exact HF.out
 ·have hvb:decide ((pv.size:Int) > 40)=false:=aP (by omega);have DV:=dU (yHn n c g y s id pk w1 sM.out oZ.out.sh hk);have Bc:Hid (eZ s id ⟨pk,pv,pg⟩=if nA s id pk≠0 then (s,nA s id pk) else if qv (s.tx id.toNat) pk && oe s id pk then (s,4) else if (gC s id pk 2).2≠0 then gC s id pk 2 else (dY (gC s id pk 2).1 id.toNat (lV ((gC s id pk 2).1.tx id.toNat) ⟨pk,pv,pg⟩),0)):=by
   unfold Hid eZ;rw [aE hvl]
  clear hvl;go_enter Tryz.func23,Tryz.ntmps23;go_upto_region 1 with fail;rw [<-hw1];clear hw1;go_wp2_with fail;refine DV.out.mono ?_;rintro e w2 ⟨hC,hm2⟩;rcases hC with ⟨hc0,rfl⟩ | ⟨hc0,b,d,hb,hd,hlv,rfl⟩
  ·rw [mJ hc0];have HF:Hid (iQ w n (c+2) g y (eZ s id ⟨pk,pv,pg⟩).1 (eZ s id ⟨pk,pv,pg⟩).2 (.returned (.iface 90 (.int .i64 (nA s id pk)))) w2):=by
    unfold Hid;rw [Bc.out,aJ hc0];exact ⟨by rw [mJ hc0],y,(sM.out.quiet hm2).sZ (by omega),eJ.quiet (fg.out.trans hm2)⟩
   clear hc0;go_wp2_with fail;go_ret;exact HF.out
  ·obtain ⟨ho,Gp,_⟩:=nu hc0;obtain ⟨i,rfl,hi1,hi2,hst⟩:=nY ho;have AP:Hid (eZ s i ⟨pk,pv,pg⟩=if qv (s.tx i) pk && oe s i pk then (s,4) else if (gC s i pk 2).2≠0 then gC s i pk 2 else (dY (gC s i pk 2).1 i (lV ((gC s i pk 2).1.tx i) ⟨pk,pv,pg⟩),0)):=by
    unfold Hid;rw [Bc.out,aE (fun q=>q hc0),aS]
   have htl:=oZ.out.sh.tl;have qh:=sM.out.quiet hm2;obtain ⟨tb,BE,hT⟩:=qh.xA (id:=i) hi1 hi2;have hb2:=mV.out.mod hm2 (fun e=>e);have nU:Hid (∀ wq,Mod dZ w2 wq->Calls Tryz.prog 34 #[.pointer (some ⟨g,0,none⟩),.int .i64 i] wq fun e w'=>e=.returned (.pointer (some ⟨tb,0,none⟩))/\w'=wq):=fun wq hq=>xw n c g y s i tb wq (qh.quiet hq) hi1 (by omega) BE;have pL:=oZ.out.sh.tw _ (Bm hi1 hi2);have Pm:Hid (∀ wq,Mod dZ w2 wq->Calls Tryz.prog 50 #[.pointer (some ⟨tb,0,none⟩),.string pk] wq fun e w'=>e=.returned (.bool (qv (s.tx i) pk))/\Mod dZ wq w'):=fun wq hq=>yRh n tb y _ pk wq (hT.mod hq (fun e=>e) (fun _ _ e=>e)) (by omega);have ZF:Hid (∀ wq,Mod dZ w2 wq->Calls Tryz.prog 51 #[.pointer (some ⟨g,0,none⟩),.int .i64 i,.string pk] wq fun e w'=>e=.returned (.bool (oe s i pk))/\Mod dZ wq w'):=fun wq hq=>yAd n c g y s i pk wq (qh.quiet hq) htl hk;have z0:=hb2.cell 0 rfl;have zq:=hb2.lt;have lU:=dU qh;have gu:=dU (fg.out.trans hm2);have qJ:=dU hb2;clear hc0 hb hd hlv DV Bc hm2 qh hT BE hb2 sM mV fg x0 x1 ho;go_upto_region 6 with fail;go_cut [38] (fun t wc=>t=.bool (qv (s.tx i) pk && oe s i pk)/\Mod dZ w2 wc)
   case first=>
    cases BP:qv (s.tx i) pk
    ·rw [BP] at Pm
     first
      | (go_region_with (first
        | (go_at_call 34;refine (nU.out _ ((Mod.refl dZ w2).drew)).mono ?_;rintro e w3 ⟨rfl,rfl⟩)
        | (go_at_call 50;refine (Pm.out _ ((Mod.refl dZ w2).drew)).mono ?_;rintro e w4 ⟨rfl,gM⟩;have uB:=((Mod.refl dZ w2).drew).trans gM)))
      | fail
     all_goals
      go_wp2_with fail;go_meet
      case rel=>exact ⟨by rw [BP];rfl,uB⟩
    ·rw [BP] at Pm
     cases hyi:oe s i pk
     all_goals
      rw [hyi] at ZF;go_region_with (first
       | (go_at_call 34;refine (nU.out _ ((Mod.refl dZ w2).drew)).mono ?_;rintro e w3 ⟨rfl,rfl⟩)
       | (go_at_call 50;refine (Pm.out _ ((Mod.refl dZ w2).drew)).mono ?_;rintro e w4 ⟨rfl,gM⟩;have uB:=((Mod.refl dZ w2).drew).trans gM;have z4:=uB.cell z0 (fun e=>e))
       | (go_at_call 51;refine (ZF.out _ uB).mono ?_;rintro e w5 ⟨rfl,eu⟩;have hmg:=uB.trans eu))
      all_goals
       go_wp2_with fail;go_meet
       case rel=>exact ⟨by rw [BP,hyi];rfl,hmg⟩
   case rest=>
    obtain ⟨rfl,mu⟩:=hcut;have Ew:=dU (lU.out.quiet mu);have Ky:=dU (gu.out.trans mu);have hbc:=qJ.out.mod mu (fun e=>e);have v0:=hbc.cell 0 rfl;have HBC:=dU hbc;have HEC:=dU (oZ.out.et.mod Ky.out);clear lU gu qJ mu z0 hbc nU Pm ZF;obtain ⟨wd,hwd⟩:∃ x,x=wc:=⟨_,rfl⟩;subst hwd;by_cases Jm:(qv (s.tx i) pk && oe s i pk)=true
    ·rw [Jm];have HF:Hid (iQ w n (c+2) g y (eZ s i ⟨pk,pv,pg⟩).1 (eZ s i ⟨pk,pv,pg⟩).2 (.returned (.iface 90 (.int .i64 4))) wd):=by
      unfold Hid;rw [AP.out,aJ Jm];exact ⟨by rw [mJ (by omega)],y,Ew.out.sZ (by omega),eJ.quiet Ky.out⟩
     clear Jm;go_wp2_with fail;go_ret;exact HF.out
    ·have hfb:(qv (s.tx i) pk && oe s i pk)=false:=by simpa using Jm
     rw [hfb];have HP3:Hid (eZ s i ⟨pk,pv,pg⟩=if (gC s i pk 2).2≠0 then gC s i pk 2 else (dY (gC s i pk 2).1 i (lV ((gC s i pk 2).1.tx i) ⟨pk,pv,pg⟩),0)):=by
      unfold Hid;rw [AP.out,aE Jm]
     have yM:=dU (yCc n c g y s i pk 2 wd Ew.out ⟨oZ.out.sh,oZ.out.ki,HEC.out,oZ.out.n,hcc⟩ hi1 hi2 Gp (.inr rfl));clear Jm hfb AP;go_upto_region 8 with fail;go_wp2_with fail;refine yM.out.mono ?_;rintro e w5 ⟨rfl,y5,kt,ox⟩;have Cs:=ox.st.blk HBC.out PX.out;have AB:=(eJ.quiet Ky.out).trans ox;obtain ⟨mQ,yI⟩:=zTx s i pk 2 oZ.out.sh.tw;by_cases he:(gC s i pk 2).2=0
     ·rw [he,oL];have hle:i<=(gC s i pk 2).1.dV.length:=by rw [mQ];exact hi2
      obtain ⟨Ff,xG,zu⟩:=kt.xA (id:=i) hi1 hle;have WW:=FM yI i;have nU:Hid (∀ wq,Mod dZ w5 wq->Calls Tryz.prog 34 #[.pointer (some ⟨g,0,none⟩),.int .i64 i] wq fun e w'=>e=.returned (.pointer (some ⟨Ff,0,none⟩))/\w'=wq):=fun wq hq=>xw n (c+2) g y5 _ i Ff wq (kt.quiet hq) hi1 (by omega) xG;have HWR:Hid (∀ wq,Mod dZ w5 wq->Calls Tryz.prog 52 #[.pointer (some ⟨Ff,0,none⟩),.agg #[.string pk,.string pv,.bool pg]] wq fun e w'=>e=.returned (.tuple #[])/\∃ y',du w' n (c+2) g y' (dY (gC s i pk 2).1 i (lV ((gC s i pk 2).1.tx i) ⟨pk,pv,pg⟩))/\eJ w y w' y'):=fun wq hq=>by
       refine (yKu n Ff y5 _ ⟨pk,pv,pg⟩ wq (zu.mod hq (fun e=>e) (fun _ _ e=>e)) (aM kt.low (aM (Nat.le_of_lt kt.blk.lt) hq.size)) (by omega)).mono ?_;rintro e w' ⟨rfl,hW⟩;obtain ⟨y6,Hg,Ej⟩:=(kt.quiet hq).wrote hi1 hle xG hW;exact ⟨rfl,y6,Hg,(AB.trans (eJ.quiet hq)).trans Ej⟩
      have HF:Hid (∀ w6,(∃ y',du w6 n (c+2) g y' (dY (gC s i pk 2).1 i (lV ((gC s i pk 2).1.tx i) ⟨pk,pv,pg⟩))/\eJ w y w6 y')->iQ w n (c+2) g y (eZ s i ⟨pk,pv,pg⟩).1 (eZ s i ⟨pk,pv,pg⟩).2 (.returned .nilIface) w6):=fun w6 hq=>by
       rw [HP3.out,aE (fun q=>q he)];exact ⟨by rw [oL],hq⟩
      have u0:=Cs.cell 0 rfl;have u1:=Cs.cell 1 rfl;have u2:=Cs.cell 2 rfl;have zw:=Cs.lt;clear kt ox zu xG Cs AB mQ yI he yM v0;go_upto_region 11 with fail;go_region_with (first
       | (go_at_call 34;refine (nU.out _ ((Mod.refl dZ w5).drew)).mono ?_;rintro e w6 ⟨rfl,rfl⟩)
       | (go_at_call 52;refine (HWR.out _ ((Mod.refl dZ w5).drew)).mono ?_;rintro e w7 ⟨rfl,hq7⟩))
      all_goals
       have HG:=dU (HF.out w7 hq7);clear hq7;go_wp2_with fail;go_ret;exact HG.out
     ·rw [mJ he];have HF:Hid (iQ w n (c+2) g y (eZ s i ⟨pk,pv,pg⟩).1 (eZ s i ⟨pk,pv,pg⟩).2 (.returned (.iface 90 (.int .i64 (gC s i pk 2).2))) w5):=by
       unfold Hid;rw [HP3.out,aJ he];exact ⟨by rw [mJ he],y5,kt,AB⟩
      clear kt ox Cs AB he yM;go_wp2_with fail;go_ret;exact HF.out
theorem yRr(n c g:Nat)(y:dX)(s:dW)(id:Int)(w:World)(h:du w n c g y s)(hs:lY s)(hc:c<=10000) :
  Calls Tryz.prog 12 #[.pointer (some ⟨g,0,none⟩),.int .i64 id] w (iQ w n c g y (pC s id).1 (pC s id).2):=by
 have pT:=dU (Tc n c g y s id w h hs.tl);have htl:=hs.tl;have hll:=hs.ll;by_cases ho:nX s id=0
 ·obtain ⟨i,rfl,hi1,hi2,hst⟩:=nY ho;have sN:=dU (TW n c g y s i w h hi1 hi2 htl hc (by rw [hs.ta _ (Bm hi1 hi2)];omega));have HD:Hid (pC s i=(gO s i,0)):=by unfold Hid pC;rw [aE (fun q=>q ho),aS]
  rw [ho,oL] at pT;clear h ho;go_enter Tryz.func12,Tryz.ntmps12;go_wp2_with (first
   | (go_at_call 35;refine pT.out.mono ?_;rintro e w1 ⟨rfl,rfl⟩)
   | (go_at_call 36;refine sN.out.mono ?_;rintro e w2 ⟨rfl,hq⟩;have HF:Hid (iQ w1 n c g y (pC s i).1 (pC s i).2 (.returned .nilIface) w2):=(by unfold Hid;rw [HD.out];exact ⟨by rw [oL],hq⟩);clear hq)
   | fail)
  go_ret;exact HF.out
 ·have HF:Hid (iQ w n c g y (pC s id).1 (pC s id).2 (.returned (.iface 90 (.int .i64 (nX s id)))) w):=by
   unfold Hid pC;rw [aJ ho];exact ⟨by rw [mJ ho],y,h,eJ.refl _ _⟩
  rw [mJ ho] at pT;clear h ho;go_enter Tryz.func12,Tryz.ntmps12;go_wp2_with (first
   | (go_at_call 35;refine pT.out.mono ?_;rintro e w1 ⟨rfl,rfl⟩)
   | fail)
  go_ret;exact HF.out
theorem yCb(n c g:Nat)(y:dX)(s:dW)(w:World)(h:du w n c g y s) :
  Calls Tryz.prog 27 #[.pointer (some ⟨g,0,none⟩)] w fun e w'=>e=.returned (.int .i64 s.net.way.length)/\w'=w:=by
 have HM:=dU (yQn (y.lo n) g y.wv y.mr s.net w h.qe);clear h;go_enter Tryz.func27,Tryz.ntmps27;go_wp2_with (first
  | (go_at_call 53;refine HM.out.mono ?_;rintro e w1 ⟨rfl,rfl⟩)
  | fail)
 go_ret;exact ⟨rfl,rfl⟩
def ob(s:dW)(k:Int):dW × Int:=if hasB s.net k then ({ s with net:=RG s.net k.toNat },0) else (s,2)
def nD(s:dW)(k:Int):dW × Int:=match hasB s.net k,s.net.way[k.toNat]? with
 | true,some m=>if s.net.way.length<200 then ({ s with net:=kF s.net m },0) else (s,4)
 | _,_=>(s,2)
theorem ySn{s:ey}{k:Int}(h:hasB s k=true):∃ (i:Nat) (m:dp),k=i/\s.way[i]?=some m:=by
 unfold hasB at h;simp only [bN,ar] at h;exact ⟨k.toNat,_,by omega,aA (by omega)⟩
theorem yNd(n c g:Nat)(y:dX)(s:dW)(k:Int)(w:World)(h:du w n c g y s)(hlo:s.net.lost+1<=4611686018427387904) :
  Calls Tryz.prog 29 #[.pointer (some ⟨g,0,none⟩),.int .i64 k] w (iQ w n c g y (ob s k).1 (ob s k).2):=by
 cases hk:hasB s.net k with
 | true=>
  obtain ⟨i,m,rfl,hm⟩:=ySn hk;have HL:=dU (yQo (y.lo n) g y.wv y.mr s.net i m w h.qe hm hlo);have HE:Hid (ob s i=({ s with net:=RG s.net i },0)):=by unfold Hid ob;rw [aJ hk,aS]
  have HH:=dU h;clear h;go_enter Tryz.func29,Tryz.ntmps29;go_wp2_with fail;refine HL.out.mono ?_;rintro e w1 ⟨iJ,rfl,hN,hv,iK⟩;obtain ⟨hH,hS⟩:=HH.out.sW iK hN (.inl hv) (.inl rfl);have HF:Hid (iQ w n c g y (ob s i).1 (ob s i).2 (.returned .nilIface) w1):=by
   unfold Hid;rw [HE.out];exact ⟨by rw [oL],_,hH,hS,rfl,rfl,rfl,rfl,rfl⟩
  clear hN iK hH hS;go_wp2_with fail;go_ret;exact HF.out
 | false=>
  have HL:=dU (yTj (y.lo n) g y.wv y.mr s.net k w h.qe hk);have HE:Hid (ob s k=(s,2)):=by unfold Hid ob;rw [aE (by rw [hk];simp)]
  have HH:=dU h;clear h;go_enter Tryz.func29,Tryz.ntmps29;go_wp2_with fail;refine HL.out.mono ?_;rintro e w1 ⟨rfl,iK⟩;have HF:Hid (iQ w n c g y (ob s k).1 (ob s k).2 (.returned (.iface 90 (.int .i64 2))) w1):=by
   unfold Hid;rw [HE.out];exact ⟨by rw [mJ (by omega)],_,HH.out.quiet iK,eJ.quiet iK⟩
  clear iK;go_wp2_with fail;go_ret;exact HF.out
theorem yJh(n c g:Nat)(y:dX)(s:dW)(k:Int)(w:World)(h:du w n c g y s)(hlo:s.net.lost+1<=4611686018427387904) :
  Calls Tryz.prog 30 #[.pointer (some ⟨g,0,none⟩),.int .i64 k] w (iQ w n c g y (nD s k).1 (nD s k).2):=by
 cases hk:hasB s.net k with
 | true=>
  obtain ⟨i,m,rfl,hm⟩:=ySn hk;by_cases hr:s.net.way.length<200
  ·have HL:=dU (yLb (y.lo n) g y.wv y.mr s.net i m w h.qe hm hr hlo);have HE:Hid (nD s i=({ s with net:=kF s.net m },0)):=by unfold Hid nD;rw [aS,hk,hm];simp only;rw [aJ hr]
   have HH:=dU h;clear h;go_enter Tryz.func30,Tryz.ntmps30;go_wp2_with fail;refine HL.out.mono ?_;rintro e w1 ⟨iJ,rfl,hN,hv,iK⟩;obtain ⟨hH,hS⟩:=HH.out.sW iK hN hv (.inl rfl);have HF:Hid (iQ w n c g y (nD s i).1 (nD s i).2 (.returned .nilIface) w1):=by
    unfold Hid;rw [HE.out];exact ⟨by rw [oL],_,hH,hS,rfl,rfl,rfl,rfl,rfl⟩
   clear hN iK hH hS;go_wp2_with fail;go_ret;exact HF.out
  ·have HL:=dU (yHz (y.lo n) g y.wv y.mr s.net i w h.qe hk hr);have HE:Hid (nD s i=(s,4)):=by unfold Hid nD;rw [aS,hk,hm];simp only;rw [aE hr]
   have HH:=dU h;clear h;go_enter Tryz.func30,Tryz.ntmps30;go_wp2_with fail;refine HL.out.mono ?_;rintro e w1 ⟨rfl,iK⟩;have HF:Hid (iQ w n c g y (nD s i).1 (nD s i).2 (.returned (.iface 90 (.int .i64 4))) w1):=by
    unfold Hid;rw [HE.out];exact ⟨by rw [mJ (by omega)],_,HH.out.quiet iK,eJ.quiet iK⟩
   clear iK;go_wp2_with fail;go_ret;exact HF.out
 | false=>
  have HL:=dU (yPh (y.lo n) g y.wv y.mr s.net k w h.qe hk);have HE:Hid (nD s k=(s,2)):=by unfold Hid nD;rw [hk]
  have HH:=dU h;clear h;go_enter Tryz.func30,Tryz.ntmps30;go_wp2_with fail;refine HL.out.mono ?_;rintro e w1 ⟨rfl,iK⟩;have HF:Hid (iQ w n c g y (nD s k).1 (nD s k).2 (.returned (.iface 90 (.int .i64 2))) w1):=by
   unfold Hid;rw [HE.out];exact ⟨by rw [mJ (by omega)],_,HH.out.quiet iK,eJ.quiet iK⟩
  clear iK;go_wp2_with fail;go_ret;exact HF.out
end Go.Proofs.YtmaiggbnceejiaaGreatDoor
