import Derived.Test.YtogaigioeohjaaaGreatDoorD08
import Derived.Test.YtogaigioeohjaaaGreatDoorD06
import Derived.Test.YtogaigioeohjaaaGreatDoorD01
import Derived.Deep.Strs
import Derived.Deep.Slices
import Derived.OpenShut
import Derived.Test.YtogaigioeohjaaaGreatDoorProg
import Derived.WalkKit
import Derived.Lib.AppendStr
import Derived.Deep.RegionLaw
import Derived.Deep.AppendLies
import Derived.Deep.DeepCutAuto
import Derived.Maps.OwnSet
import Derived.Maps.AppendAt
import Derived.RegionTactic
import Derived.ChangeAlike
import Derived.Laws.IdiomCopy
import Derived.Deep.CutBlock
set_option linter.unusedVariables false
set_option maxRecDepth 100000
set_option maxHeartbeats 16000000
namespace Go.Proofs.YtogaigioeohjaaaGreatDoor
structure KeyS where
 held:List ClmD
 waits:List ClmD
abbrev Tab:=ByteArray->KeyS
def KeyS.bare(k:KeyS):Prop:=k.held=[]/\k.waits=[]
def updK(s:Tab)(k:ByteArray)(x:KeyS):Tab:=fun y=>if y=k then x else s y
def zCx(k:KeyS)(c:ClmD):KeyS × Bool × List Int × Int:=
 if zCw k.waits c.tx≠0 then (k,false,[],9)
 else if c.mode<=zCw k.held c.tx then (k,true,[],0)
 else if zIq k.held k.waits c then ({ k with held:=zDg k.held c },true,[],0)
 else if 50<=k.waits.length then (k,false,[],4)
 else ({ k with waits:=zDg k.waits c },false,zJl k.held c,0)
def atB(k:KeyS)(t:Int):Bool:=decide (zCw k.held t≠0) || decide (zCw k.waits t≠0)
def outN(k:KeyS)(t:Int):KeyS:=⟨(zDh (zCy k.held t) [] (zCy k.waits t)).1,(zDh (zCy k.held t) [] (zCy k.waits t)).2.1⟩
def gotN(k:KeyS)(t:Int):List ClmD:=(zDh (zCy k.held t) [] (zCy k.waits t)).2.2
def relN(s:Tab)(t:Int):Tab:=fun k=>if atB (s k) t then outN (s k) t else s k
structure zHg(k:KeyS):Prop where
 held:zFj k.held
 waits:zFj k.waits
 hmode:∀ c∈k.held,c.mode=1\/c.mode=2
 wmode:∀ c∈k.waits,c.mode=1\/c.mode=2
 wants:∀ c∈k.waits,∀ o∈k.held,o.tx=c.tx->o.mode<c.mode
theorem zHg.h0{k:KeyS}(h:zHg k):∀ c∈k.held,c.mode≠0:=fun c hc=>by rcases h.hmode c hc with e | e <;> omega
theorem zHg.w0{k:KeyS}(h:zHg k):∀ c∈k.waits,c.mode≠0:=fun c hc=>by rcases h.wmode c hc with e | e <;> omega
theorem zHg.nil:zHg ⟨[],[]⟩:=⟨List.Pairwise.nil,List.Pairwise.nil,by simp,by simp,by simp⟩
theorem yLq{k:KeyS}{c:ClmD}(h:zHg k)(hc:c.mode=1\/c.mode=2):zHg (zCx k c).1:=by
 unfold zCx
 split
 ·exact h
 rename_i g1
 have g1':zCw k.waits c.tx=0:=Classical.byContradiction g1
 split
 ·exact h
 rename_i g2
 split
 ·refine ⟨zHf h.held c,h.waits,fun o ho=>?_,h.wmode,fun d hd o ho e=>?_⟩
  ·rcases (zCa h.held c o).1 ho with rfl | ⟨ho,_⟩
   ·exact hc
   ·exact h.hmode o ho
  ·rcases (zCa h.held c o).1 ho with rfl | ⟨ho,_⟩
   ·exact absurd e.symm ((zJt h.waits h.w0).1 g1' d hd)
   ·exact h.wants d hd o ho e
 split
 ·exact h
 ·refine ⟨h.held,zHf h.waits c,h.hmode,fun o ho=>?_,fun d hd o ho e=>?_⟩
  ·rcases (zCa h.waits c o).1 ho with rfl | ⟨ho,_⟩
   ·exact hc
   ·exact h.wmode o ho
  ·rcases (zCa h.waits c d).1 hd with rfl | ⟨hd,_⟩
   ·have:=zXx h.held ho
    rw [e] at this
    omega
   ·exact h.wants d hd o ho e
theorem zPh:∀ (q held kept:List ClmD),zFj held->zFj (kept++q)->(∀ c∈kept++q,∀ o∈held,o.tx=c.tx->o.mode<c.mode)->∀ c∈(zDh held kept q).2.1,∀ o∈(zDh held kept q).1,o.tx=c.tx->o.mode<c.mode
 | [],held,kept,h1,h2,h3=>by simpa [zDh] using h3
 | c :: q,held,kept,h1,h2,h3=>by
  unfold zDh
  split
  ·refine zPh q (zDg held c) kept (zHf h1 c) (h2.sublist (by simp)) (fun d hd o ho e=>?_)
   rcases (zCa h1 c o).1 ho with rfl | ⟨ho,_⟩
   ·exfalso
    rcases List.mem_append.1 hd with q1 | q1
    ·have:=(List.pairwise_append.1 h2).2.2 d q1 o (by simp);omega
    ·have:=List.rel_of_pairwise_cons (List.pairwise_append.1 h2).2.1 q1;omega
   ·refine h3 d ?_ o ho e
    rcases List.mem_append.1 hd with q1 | q1
    ·exact List.mem_append.2 (.inl q1)
    ·exact List.mem_append.2 (.inr (List.mem_cons_of_mem _ q1))
  ·exact zPh q held (kept++[c]) h1 (by simpa using h2) (by simpa using h3)
theorem out_ok{k:KeyS}(h:zHg k)(t:Int):zHg (outN k t):=by
 obtain ⟨h1,h2⟩:=zPj (zCy k.waits t) (zCy k.held t) [] (zEx h.held t) (by simpa using zEx h.waits t)
 refine ⟨h1,h2,fun o ho=>?_,fun o ho=>?_,zPh _ _ _ (zEx h.held t) (by simpa using zEx h.waits t) (fun c hc o ho=>h.wants c (by simp at hc;exact (zBq.1 hc).1) o (zBq.1 ho).1)⟩
 ·rcases (zHi _ _ _ o).1 ho with q | q
  ·exact h.hmode o (zBq.1 q).1
  ·exact h.wmode o (zBq.1 q).1
 ·rcases (zHi _ _ _ o).2.1 ho with q | q
  ·simp at q
  ·exact h.wmode o (zBq.1 q).1
theorem at_iff{k:KeyS}(h:zHg k)(t:Int):atB k t=true↔(∃ c∈k.held,c.tx=t)\/∃ c∈k.waits,c.tx=t:=by
 unfold atB
 have e1:=zJt h.held h.h0 (t:=t)
 have e2:=zJt h.waits h.w0 (t:=t)
 simp only [Bool.or_eq_true,decide_eq_true_iff,ne_eq,e1,e2]
 constructor
 ·rintro (q | q)
  ·left;exact Classical.byContradiction fun n=>q (fun c hc e=>n ⟨c,hc,e⟩)
  ·right;exact Classical.byContradiction fun n=>q (fun c hc e=>n ⟨c,hc,e⟩)
 ·rintro (⟨c,hc,e⟩ | ⟨c,hc,e⟩)
  ·exact .inl (fun q=>q c hc e)
  ·exact .inr (fun q=>q c hc e)
theorem yPp{k:KeyS}(t:Int):(∀ c∈(outN k t).held,c.tx≠t)/\∀ c∈(outN k t).waits,c.tx≠t:=by
 refine ⟨fun c hc=>?_,fun c hc=>?_⟩
 ·rcases (zHi _ _ _ c).1 hc with q | q
  ·exact (zBq.1 q).2
  ·exact (zBq.1 q).2
 ·rcases (zHi _ _ _ c).2.1 hc with q | q
  ·simp at q
  ·exact (zBq.1 q).2
theorem yFh{s:Tab}{k:ByteArray}(h:zHg (s k))(t:Int):(∀ c∈(relN s t k).held,c.tx≠t)/\∀ c∈(relN s t k).waits,c.tx≠t:=by
 unfold relN
 split
 ·exact yPp t
 ·rename_i q
  have:=mt (at_iff h t).2 q
  exact ⟨fun c hc e=>this (.inl ⟨c,hc,e⟩),fun c hc e=>this (.inr ⟨c,hc,e⟩)⟩
def inK(P:List ByteArray)(k:ByteArray):Bool:=P.any fun y=>decide (y=k)
theorem zSr{P:List ByteArray}{k:ByteArray}:inK P k=true↔k∈P:=by
 unfold inK
 rw [List.any_eq_true]
 constructor
 ·rintro ⟨y,hy,e⟩
  simp only [decide_eq_true_iff] at e
  rw [<-e];exact hy
 ·exact fun h=>⟨k,h,by simp⟩
structure zJi(W:List Int)(k:KeyS):Prop where
 ok:zHg k
 alone:∀ a∈k.held,∀ b∈k.held,zCj a b=false
 stuck:∀ c∈k.waits,zIq k.held k.waits c=false
 elder:∀ c∈k.waits,∀ a∈k.held,zCj a c=true->a.tx<c.tx\/a.tx∈W
theorem zWy(a b:ClmD):zCj a b=zCj b a:=by
 unfold zCj
 rw [show decide (a.tx≠b.tx)=decide (b.tx≠a.tx) by simp only [ne_eq,eq_comm],Bool.or_comm]
theorem yOp(a:ClmD):zCj a a=false:=by simp [zCj]
theorem zWx{a b:ClmD}(h:a.tx=b.tx):zCj a b=false:=by simp [zCj,h]
theorem zJi.nil(W:List Int):zJi W ⟨[],[]⟩:=⟨zHg.nil,by simp,by simp,by simp⟩
theorem zRd{held waits:List ClmD}{c:ClmD}:zIq held waits c=true↔(∀ o∈held,zCj o c=false)/\∀ o∈waits,o.tx<c.tx->zCj o c=false:=by
 unfold zIq
 simp only [Bool.and_eq_true,Bool.not_eq_true',List.any_eq_false,Bool.not_eq_true,decide_eq_true_iff]
 constructor
 ·rintro ⟨h1,h2⟩
  refine ⟨h1,fun o ho hl=>?_⟩
  cases hi:zCj o c with
  | false=>rfl
  | true=>exact absurd ⟨hl,hi⟩ (h2 o ho)
 ·rintro ⟨h1,h2⟩
  refine ⟨h1,fun o ho hl=>?_⟩
  have:=h2 o ho hl.1
  rw [hl.2] at this;cases this
theorem yOq{a b c:ClmD}(ht:a.tx=b.tx)(hm:a.mode=2->b.mode=2)(h:zCj a c=true):zCj b c=true:=by
 unfold zCj at *
 simp only [Bool.and_eq_true,Bool.or_eq_true,decide_eq_true_iff] at *
 exact ⟨by rw [<-ht];exact h.1,h.2.imp hm id⟩
def Over(h h':List ClmD):Prop:=∀ a∈h,∃ b∈h',a.tx=b.tx/\(a.mode=2->b.mode=2)
theorem Over.refl(h:List ClmD):Over h h:=fun a ha=>⟨a,ha,rfl,id⟩
theorem yAd{held:List ClmD}(hr:zFj held){c:ClmD}(hc:c.mode=1\/c.mode=2)(hup:∀ o∈held,o.tx=c.tx->o.mode=2->c.mode=2):Over held (zDg held c):=fun a ha=>by
 by_cases e:a.tx=c.tx
 ·exact ⟨c,(zCa hr c c).2 (.inl rfl),e,hup a ha e⟩
 ·exact ⟨a,(zCa hr c a).2 (.inr ⟨ha,e⟩),rfl,id⟩
theorem zFf{held held' waits waits':List ClmD}{c:ClmD}(h:zIq held waits c=false)(ho:Over held held')(hw:∀ o∈waits,o.tx<c.tx->o∈waits'):zIq held' waits' c=false:=by
 cases hf:zIq held' waits' c with
 | false=>rfl
 | true=>
  exfalso
  obtain ⟨h1,h2⟩:=zRd.1 hf
  have:zIq held waits c=true:=zRd.2 ⟨fun o hoo=>?_,fun o hoo hl=>h2 o (hw o hoo hl) hl⟩
  ·rw [h] at this;cases this
  ·cases hi:zCj o c with
   | false=>rfl
   | true=>
    obtain ⟨b,hb,e1,e2⟩:=ho o hoo
    have:=yOq e1 e2 hi
    rw [h1 b hb] at this;cases this
theorem zWm{W:List Int}{held waits:List ClmD}{c:ClmD}(hr:zFj held)(ha:∀ a∈held,∀ b∈held,zCj a b=false)(hf:∀ o∈held,zCj o c=false):∀ a∈zDg held c,∀ b∈zDg held c,zCj a b=false:=fun a h1 b h2=>by
 rcases (zCa hr c a).1 h1 with rfl | ⟨h1',_⟩
 ·rcases (zCa hr a b).1 h2 with rfl | ⟨h2,_⟩
  ·exact yOp _
  ·rw [zWy];exact hf b h2
 ·rcases (zCa hr c b).1 h2 with rfl | ⟨h2,_⟩
  ·exact hf a h1'
  ·exact ha a h1' b h2
theorem zPk(W:List Int):∀ (q held kept:List ClmD),zFj held->zFj (kept++q)->(∀ c∈held,c.mode=1\/c.mode=2)->(∀ c∈kept++q,c.mode=1\/c.mode=2) ->
  (∀ a∈held,∀ b∈held,zCj a b=false)->(∀ c∈kept,zIq held kept c=false)->(∀ c∈kept++q,∀ a∈held,zCj a c=true->a.tx<c.tx\/a.tx∈W)->(∀ c∈kept++q,∀ o∈held,o.tx=c.tx->o.mode<c.mode) ->
  zJi W ⟨(zDh held kept q).1,(zDh held kept q).2.1⟩
 | [],held,kept,h1,h2,h3,h4,h5,h6,h7,h8=>by
  simp only [List.append_nil] at *
  exact ⟨⟨h1,h2,h3,h4,h8⟩,h5,h6,h7⟩
 | c :: q,held,kept,h1,h2,h3,h4,h5,h6,h7,h8=>by
  have hcm:=h4 c (by simp)
  unfold zDh
  split
  ·rename_i hf
   obtain ⟨f1,f2⟩:=zRd.1 hf
   have hlt:∀ o∈kept,o.tx<c.tx:=fun o ho=>(List.pairwise_append.1 h2).2.2 o ho c (by simp)
   have hgt:∀ o∈q,c.tx<o.tx:=fun o ho=>List.rel_of_pairwise_cons (List.pairwise_append.1 h2).2.1 ho
   have hin:∀ o,o∈kept++q->o∈kept++c :: q:=fun o ho=>by
    rcases List.mem_append.1 ho with e | e
    ·exact List.mem_append.2 (.inl e)
    ·exact List.mem_append.2 (.inr (List.mem_cons_of_mem _ e))
   have hov:Over held (zDg held c):=yAd h1 hcm (fun o ho e e2=>by have:=h8 c (by simp) o ho e;omega)
   refine zPk W q (zDg held c) kept (zHf h1 c) (h2.sublist (by simp)) (fun o ho=>?_) (fun o ho=>h4 o (hin o ho)) (zWm (W:=W) (waits:=[]) h1 h5 f1) (fun o ho=>zFf (h6 o ho) hov (fun _ h _=>h)) (fun o ho a ha hw=>?_) (fun o ho a ha e=>?_)
   ·rcases (zCa h1 c o).1 ho with rfl | ⟨ho,_⟩
    ·exact hcm
    ·exact h3 o ho
   ·rcases (zCa h1 c a).1 ha with rfl | ⟨ha,_⟩
    ·rcases List.mem_append.1 ho with e | e
     ·rw [zWy,f2 o e (hlt o e)] at hw;cases hw
     ·exact .inl (hgt o e)
    ·exact h7 o (hin o ho) a ha hw
   ·rcases (zCa h1 c a).1 ha with rfl | ⟨ha,_⟩
    ·exfalso
     rcases List.mem_append.1 ho with q1 | q1
     ·have:=hlt o q1;omega
     ·have:=hgt o q1;omega
    ·exact h8 o (hin o ho) a ha e
  ·rename_i hf
   simp only [Bool.not_eq_true] at hf
   have hcons:kept++c :: q=kept++[c]++q:=by simp
   rw [hcons] at h2 h4 h7 h8
   have hlt:∀ o∈kept,o.tx<c.tx:=fun o ho=>(List.pairwise_append.1 (List.pairwise_append.1 h2).1).2.2 o ho c (by simp)
   refine zPk W q held (kept++[c]) h1 h2 h3 h4 h5 (fun o ho=>?_) h7 h8
   rcases List.mem_append.1 ho with e | e
   ·exact zFf (h6 o e) (Over.refl _) (fun x hx _=>List.mem_append.2 (.inl hx))
   ·simp at e
    subst e
    exact zFf hf (Over.refl _) (fun x hx _=>List.mem_append.2 (.inl hx))
theorem yOf{W:List Int}{k:KeyS}(h:zJi W k)(t:Int):zJi W (outN k t):=by
 refine zPk W _ _ _ (zEx h.ok.held t) (by simpa using zEx h.ok.waits t) (fun c hc=>h.ok.hmode c (zBq.1 hc).1) (fun c hc=>h.ok.wmode c ?_) (fun a ha b hb=>h.alone a (zBq.1 ha).1 b (zBq.1 hb).1) (by simp) (fun c hc a ha=>h.elder c ?_ a (zBq.1 ha).1) (fun c hc a ha=>h.ok.wants c ?_ a (zBq.1 ha).1)
 ·simp at hc;exact (zBq.1 hc).1
 ·simp at hc;exact (zBq.1 hc).1
 ·simp at hc;exact (zBq.1 hc).1
theorem zJi.less{W:List Int}{k:KeyS}{t:Int}(h:zJi (t :: W) k)(hg:∀ c∈k.held,c.tx≠t):zJi W k:=
 ⟨h.ok,h.alone,h.stuck,fun c hc a ha hw=>(h.elder c hc a ha hw).imp id (fun e=>(List.mem_cons.1 e).resolve_left (hg a ha))⟩
theorem yJm{W:List Int}{k:KeyS}{c:ClmD}(h:zJi W k)(hc:c.mode=1\/c.mode=2):zJi ((zCx k c).2.2.1++W) (zCx k c).1/\(∀ x∈(zCx k c).2.2.1,c.tx<x):=by
 have hok:=yLq h.ok hc
 revert hok
 unfold zCx
 split
 ·exact fun _=>⟨by simpa using h,by simp⟩
 rename_i g1
 have g1':zCw k.waits c.tx=0:=Classical.byContradiction g1
 have g1'':=(zJt h.ok.waits h.ok.w0).1 g1'
 split
 ·exact fun _=>⟨by simpa using h,by simp⟩
 rename_i g2
 have g2':∀ o∈k.held,o.tx=c.tx->o.mode<c.mode:=fun o ho e=>by
  have:=zXx h.ok.held ho
  rw [e] at this
  omega
 split
 ·rename_i hf
  obtain ⟨f1,f2⟩:=zRd.1 hf
  intro hok
  have hov:Over k.held (zDg k.held c):=yAd h.ok.held hc (fun o ho e e2=>by have:=g2' o ho e;omega)
  refine ⟨⟨hok,zWm (W:=W) (waits:=[]) h.ok.held h.alone f1,fun d hd=>zFf (h.stuck d hd) hov (fun _ h _=>h),fun d hd a ha hw=>?_⟩,by simp⟩
  rcases (zCa h.ok.held c a).1 ha with rfl | ⟨ha,_⟩
  ·left
   rcases Int.lt_trichotomy a.tx d.tx with q | q | q
   ·exact q
   ·rw [zWx q] at hw;cases hw
   ·rw [zWy,f2 d hd q] at hw;cases hw
  ·exact (h.elder d hd a ha hw).imp id (fun e=>by simpa using e)
 rename_i hf
 simp only [Bool.not_eq_true] at hf
 split
 ·exact fun _=>⟨by simpa using h,by simp⟩
 ·intro hok
  have hwd:∀ x,x∈zJl k.held c↔∃ o∈k.held,o.tx=x/\c.tx<x/\zCj o c=true:=fun x=>by
   unfold zJl zKy
   simp only [List.mem_map,List.mem_filter,Bool.not_or,Bool.not_not,Bool.and_eq_true,Bool.not_eq_true',decide_eq_false_iff_not]
   constructor
   ·rintro ⟨o,⟨h1,h2,h3⟩,rfl⟩
    refine ⟨o,h1,rfl,?_,h3⟩
    have:o.tx≠c.tx:=fun e=>by rw [zWx e] at h3;cases h3
    omega
   ·rintro ⟨o,h1,rfl,h2,h3⟩
    exact ⟨o,⟨h1,by omega,h3⟩,rfl⟩
  refine ⟨⟨hok,h.alone,fun d hd=>?_,fun d hd a ha hw=>?_⟩,fun x hx=>?_⟩
  ·rcases (zCa h.ok.waits c d).1 hd with rfl | ⟨hd,_⟩
   ·exact zFf hf (Over.refl _) (fun x hx _=>(zCa h.ok.waits d x).2 (.inr ⟨hx,g1'' x hx⟩))
   ·exact zFf (h.stuck d hd) (Over.refl _) (fun x hx _=>(zCa h.ok.waits c x).2 (.inr ⟨hx,g1'' x hx⟩))
  ·rcases (zCa h.ok.waits c d).1 hd with rfl | ⟨hd,_⟩
   ·rcases Int.lt_trichotomy a.tx d.tx with q | q | q
    ·exact .inl q
    ·rw [zWx q] at hw;cases hw
    ·exact .inr (List.mem_append.2 (.inl ((hwd a.tx).2 ⟨a,ha,rfl,q,hw⟩)))
   ·exact (h.elder d hd a ha hw).imp id (fun e=>List.mem_append.2 (.inr e))
  ·obtain ⟨o,_,_,q,_⟩:=(hwd x).1 hx
   exact q
theorem zJi.more{W W':List Int}{k:KeyS}(h:zJi W k)(hs:∀ x∈W,x∈W'):zJi W' k:=
 ⟨h.ok,h.alone,h.stuck,fun c hc a ha hw=>(h.elder c hc a ha hw).imp id (hs _)⟩
theorem yOe{W:List Int}{s:Tab}{t:Int}(h:∀ k,zJi (t :: W) (s k)):∀ k,zJi W (relN s t k):=fun k=>by
 have hg:=(yFh (h k).ok t).1
 refine zJi.less (t:=t) ?_ hg
 unfold relN
 split
 ·exact yOf (h k) t
 ·exact h k
end Go.Proofs.YtogaigioeohjaaaGreatDoor
namespace Go.Proofs.YtogaigioeohjaaaGreatDoor
open Go.RowKit Go.Lib Go.Maps
structure zCs where
 nodes:List zAl
 heard:Nat
structure TxS where
 state:Int
 ats:List Int
 writes:List zAz
 time:Int
structure zAa where
 lines:List zCs
 dead:List Int
 net:NetS
 keys:Tab
 txs:List TxS
def zAa.line(h:zAa)(k:Nat):zCs:=h.lines.getD k ⟨[],0⟩
def zAa.tx(h:zAa)(id:Nat):TxS:=h.txs.getD (id - 1) ⟨0,[],[],0⟩
def decH(h:zAa):Nat:=h.lines.length - 1
def sumK(key:ByteArray):Nat:=key.toList.foldl (fun a b=>a+b.toNat) 0
def zAv(h:zAa)(key:ByteArray):Nat:=sumK key % decH h
def zAu(h:zAa)(n:zAl):Bool:=!(decide (n.id∈h.dead))
def zAk(h:zAa)(k:Nat):List zAl:=(h.line k).nodes.filter (zAu h)
def zOl(h:zAa)(k:Nat):Option zAl:=match (h.line k).nodes with
 | []=>none
 | n :: _=>if zAu h n then some n else none
def setLine(h:zAa)(k:Nat)(l:zCs):zAa:={ h with lines:=h.lines.set k l }
def setNode(h:zAa)(k j:Nat)(n:zAl):zAa:=setLine h k ⟨(h.line k).nodes.set j n,(h.line k).heard⟩
def setTx(h:zAa)(id:Nat)(t:TxS):zAa:={ h with txs:=h.txs.set (id - 1) t }
def zLb(h:zAa)(ms:List MsgD):zAa:={ h with net:=zFd h.net ms }
def isTx(h:zAa)(id:Int):Bool:=decide (1<=id) && decide (id<=(h.txs.length:Int))
def zGf(h:zAa)(id:Int):Int:=if isTx h id then (h.tx id.toNat).state else 0
def zHx(h:zAa)(id:Int):Int:=if zGf h id=0 then 7 else if zGf h id=1 then 0 else 6
def zIa(h:zAa)(id:Int)(key:ByteArray):Int:=
 if zHx h id≠0 then zHx h id else if 20<key.size then 4 else if (zOl h (zAv h key)).isNone then 12 else 0
def zDa(h:zAa)(id:Int)(key:ByteArray):List Int:=
 ((List.range h.txs.length).map fun (i:Nat)=>(i:Int)+1).filter fun o=>decide (o≠id) && decide (zCw (h.keys key).held o≠0)
def zEc(h:zAa)(id:Int)(key:ByteArray):Bool:=!((zDa h id key).any fun o=>decide (o<id) || decide ((h.tx o.toNat).state≠1))
def zDe(h:zAa)(id:Nat)(st:Int):zAa:={ setTx h id { h.tx id with state:=st,writes:=[] } with keys:=relN h.keys id }
def zBh(h:zAa)(id:Nat):zAa:=
 zDe (if (h.tx id).state=1 then setTx h id { h.tx id with ats:=(h.tx id).ats.map fun _=>0 } else h) id 4
def zBz(h:zAa)(ids:List Int):zAa:=ids.foldl (fun h i=>if (h.tx i.toNat).state=1 then zBh h i.toNat else h) h
def zAw(h:zAa)(id:Int)(key:ByteArray)(mode:Int):zAa × List Int × Int:=
 ({ h with keys:=updK h.keys key (zCx (h.keys key) ⟨id,mode⟩).1 },(zCx (h.keys key) ⟨id,mode⟩).2.2.1,(zCx (h.keys key) ⟨id,mode⟩).2.2.2)
def zBs(h:zAa)(id:Int)(key:ByteArray)(mode:Int):zAa × List Int × Int:=
 let a:=zAw h id key mode
 if a.2.2=4/\zEc a.1 id key=true then zAw (zBz a.1 (zDa a.1 id key)) id key mode else a
def zIs(h:zAa)(id k:Nat):zAa:=setTx h id { h.tx id with ats:=(h.tx id).ats.set k 1 }
def zBw(h:zAa)(id:Int)(key:ByteArray)(mode:Int):zAa × Int:=
 let a:=zBs h id key mode
 if a.2.2=9 then (a.1,11) else if a.2.2=4 then (a.1,4) else
  let b:=zBz (zIs a.1 id.toNat (zAv a.1 key)) a.2.1
  (b,if zCw (b.keys key).held id<mode then 11 else 0)
def zDl(log:List CmdD)(kind tx:Int):Option Nat:=log.findIdx? fun c=>decide (c.kind=kind) && decide (c.tx=tx)
def zBn(log:List CmdD):List zAz:=(log.reverse.filter fun c=>decide (c.kind=3)).flatMap fun c=>((log.getD ((zDl log 2 c.tx).getD 0) zHu).writes).reverse
def seenL(t:TxS)(log:List CmdD):List zAz:=t.writes.reverse++zBn log
def seesH(t:TxS)(log:List CmdD)(key:ByteArray):ByteArray × Bool:=match (seenL t log).find? fun p=>decide (p.key=key) with
 | none=>(ByteArray.empty,false)
 | some p=>if p.gone then (ByteArray.empty,false) else (p.val,true)
def getH(h:zAa)(id:Int)(key:ByteArray):zAa × ByteArray × Bool × Int:=
 if zIa h id key≠0 then (h,ByteArray.empty,false,zIa h id key) else
  let a:=zBw h id key 1
  if a.2≠0 then (a.1,ByteArray.empty,false,a.2) else
   let v:=seesH (a.1.tx id.toNat) (((h.line (zAv h key)).nodes.getD 0 ⟨0,0,[],[],0⟩).log) key
   (a.1,v.1,v.2,0)
def zJk(t:TxS)(key:ByteArray):Option Nat:=t.writes.findIdx? fun p=>decide (p.key=key)
def zMr(t:TxS)(key:ByteArray):Bool:=decide (20<=t.writes.length) && (zJk t key).isNone
def zEq(t:TxS)(p:zAz):TxS:=match zJk t p.key with
 | some n=>{ t with writes:=t.writes.set n p }
 | none=>{ t with writes:=t.writes++[p] }
def putH(h:zAa)(id:Int)(p:zAz):zAa × Int:=
 if 40<p.val.size then (h,4) else if zIa h id p.key≠0 then (h,zIa h id p.key)
 else if zMr (h.tx id.toNat) p.key && zEc h id p.key then (h,4)
 else
  let a:=zBw h id p.key 2
  if a.2≠0 then a else (setTx a.1 id.toNat (zEq (a.1.tx id.toNat) p),0)
def zDu(h:zAa)(t:TxS)(k:Nat):List zAz:=t.writes.filter fun p=>decide (zAv h p.key=k)
def zIx(t:TxS):Bool:=!(decide ((1:Int)∈t.ats))
def dueH(h:zAa)(id k:Nat)(time:Int):Option CmdD:=
 let t:=h.tx id
 if k=decH h then (if t.state=2/\zIx t=true then some ⟨3,id,time,[]⟩ else none)
 else if t.ats.getD k 0=0 then none
 else if t.state=2 then some ⟨2,id,0,zDu h t k⟩
 else if t.state=3 then some ⟨3,id,t.time,[]⟩
 else if t.state=4 then some ⟨4,id,0,[]⟩
 else none
def addN(n:zAl)(c:CmdD):zAl × List MsgD:=if headN n && decide (n.log.length<500) then zFo n c else (n,[])
def zAp(h:zAa)(k:Nat):zAl:=(h.line k).nodes.getD 0 ⟨0,0,[],[],0⟩
def addH(h:zAa)(k:Nat)(c:CmdD):zAa:=zLb (setNode h k 0 (addN (zAp h k) c).1) (addN (zAp h k) c).2
def tell1(h:zAa)(k:Nat)(log:List CmdD)(id:Nat):zAa:=match dueH h id k ((zAp h k).log.length+1) with
 | none=>h
 | some c=>if (zDl log c.kind id).isNone then addH h k c else h
def tellAt(h:zAa)(k:Nat):zAa:=match zOl h k with
 | none=>h
 | some n=>((List.range h.txs.length).map (·+1)).foldl (fun h id=>tell1 h k n.log id) h
def zEe(h:zAa):zAa:=(List.range h.lines.length).foldl tellAt h
def zGe(h:zAa)(k:Nat):zAl:=(h.line k).nodes.getLastD ⟨0,0,[],[],0⟩
def zGb(h:zAa)(k:Nat):List CmdD:=(zGe h k).log.drop (h.line k).heard
def zBx(h:zAa)(k:Nat)(c:CmdD):zAa:=
 if k=decH h then zDe (setTx h c.tx.toNat { h.tx c.tx.toNat with time:=c.time }) c.tx.toNat 3
 else if c.kind=2 then setTx h c.tx.toNat { h.tx c.tx.toNat with ats:=(h.tx c.tx.toNat).ats.set k 2 }
 else h
def hearOne(k:Nat)(h:zAa)(c:CmdD):zAa:=setLine (zBx h k c) k ⟨((zBx h k c).line k).nodes,((zBx h k c).line k).heard+1⟩
def zMx(h:zAa)(k:Nat):zAa:=(zGb h k).foldl (hearOne k) h
def zHz(h:zAa):zAa:=(List.range h.lines.length).foldl zMx h
def zDo(h:zAa):Bool:=(List.range h.lines.length).any fun k=>!(zGb h k).isEmpty
def settleF:Nat->zAa->zAa
 | 0,h=>h
 | n+1,h=>if zDo h then settleF n (zEe (zHz h)) else h
def zCo(h:zAa):zAa:=settleF (500*h.lines.length+1) h
open Classical in
noncomputable def zRq(h:zAa)(id:Int):Bool:=decide (∃ k,(h.keys k).waits.any (fun c=>decide (c.tx=id))=true)
noncomputable def endH(h:zAa)(id:Int):zAa × Int:=
 if zHx h id≠0 then (h,zHx h id) else if zRq h id then (h,11)
 else (zCo (zEe (setTx h id.toNat { h.tx id.toNat with state:=2 })),0)
def zEy(h:zAa)(id:Int):zAa × Int:=if zHx h id≠0 then (h,zHx h id) else (zBh h id.toNat,0)
def zUa(h:zAa)(ns:List zAl)(id:Int):Option Nat:=ns.findIdx? fun n=>zAu h n && decide (n.id=id)
def zQr(h:zAa)(id:Int):Nat->List zCs->Option (Nat × Nat)
 | _,[]=>none
 | k,l :: ls=>match zUa h l.nodes id with
  | some j=>some (k,j)
  | none=>zQr h id (k+1) ls
def zIo(h:zAa)(id:Int):Option (Nat × Nat):=zQr h id 0 h.lines
def zAo(h:zAa)(k j:Nat):zAl:=(h.line k).nodes.getD j ⟨0,0,[],[],0⟩
def zHv(h:zAa)(k j:Nat)(m:MsgD):zAa:=zLb (setNode h k j (zCt (zAo h k j) m).1) (zCt (zAo h k j) m).2
def zBi(h:zAa)(k:Nat):zAa:={ h with net:=yTm h.net k }
def zBb(h:zAa)(k:Nat):zAa:=match h.net.way[k]? with
 | none=>h
 | some m=>match zIo h m.to with
  | none=>zBi h k
  | some (kk,j)=>zCo (zHv (zBi h k) kk j m)
def tick1(k:Nat)(h:zAa)(j:Nat):zAa:=if zAu h (zAo h k j) then zLb (setNode h k j (zEd (zAo h k j)).1) (zEd (zAo h k j)).2 else h
def zDq(h:zAa)(k:Nat):zAa:=(List.range (h.line k).nodes.length).foldl (tick1 k) h
def zFm(h:zAa):zAa:=(List.range h.lines.length).foldl zDq h
def zGi(h:zAa):Nat:=((List.range h.lines.length).map fun k=>((zAk h k).map fun n=>n.log.length).sum).sum
def zTo(h:zAa):Bool:=(List.range h.lines.length).all fun k=>!(zAk h k).isEmpty
def zDy(l:zCs):Int:=(l.nodes.getD 0 ⟨0,0,[],[],0⟩).epoch+1
def zBy(l:zCs):zCs × List MsgD:=
 (⟨l.nodes.map fun n=>(zEd (becN n (zDy l) (l.nodes.map (·.id)))).1,l.heard⟩,l.nodes.flatMap fun n=>(zEd (becN n (zDy l) (l.nodes.map (·.id)))).2)
def zOg(h:zAa)(k i:Nat):Bool:=
 let t:=h.tx (i+1)
 decide (t.ats.getD k 0≠0) && (decide (t.state=1) || (decide (t.state=2) && (zDl (zAp h k).log 2 ((i:Int)+1)).isNone))
def zDt(h:zAa)(k:Nat):zAa:=(List.range h.txs.length).foldl (fun h i=>if zOg h k i then zBh h (i+1) else h) h
def fixAt(h:zAa)(k:Nat):zAa:=
 if (zAk h k).length=0\/(zAk h k).length=(h.line k).nodes.length then h
 else zDt (zLb (setLine h k (zBy ⟨zAk h k,(h.line k).heard⟩).1) (zBy ⟨zAk h k,(h.line k).heard⟩).2) k
def fixH(h:zAa):zAa:=zCo (zEe ((List.range h.lines.length).foldl fixAt h))
def zEo(h:zAa)(id:Int):zAa × Int:=if (zIo h id).isNone then (h,7) else ({ h with dead:=h.dead++[id],net:=yBu h.net id },0)
def zPn(id:Int):zAl:=⟨id,0,[],[],0⟩
def zBu(k nodes:Nat):zCs × List MsgD:=zBy ⟨(List.range nodes).map fun (i:Nat)=>zPn (10*(k:Int)+(i:Int)),0⟩
def newF(nodes:Nat):Nat->zAa
 | 0=>⟨[],[],⟨[],0,[]⟩,fun _=>⟨[],[]⟩,[]⟩
 | k+1=>let h:=newF nodes k;{ h with lines:=h.lines++[(zBu k nodes).1],net:=zFd h.net (zBu k nodes).2 }
def newH(shards nodes:Nat):zAa:=newF nodes (shards+1)
def zGk(h:zAa):zAa:={ h with txs:=h.txs++[⟨1,List.replicate h.lines.length 0,[],0⟩] }
end Go.Proofs.YtogaigioeohjaaaGreatDoor
namespace Go.Proofs.YtogaigioeohjaaaGreatDoor
open Go.ChangeShapes Go.WideShapes Go.RowKit Go.Deep
def SlR{α:Type}(w:World)(L sz:Nat)(R:α->List Value->Prop)(v:Value)(ds:List α):Prop:=
 ∃ a cap,v=.slice a ds.length cap/\ds.length<=cap/\cap<=maxLen /\
  (ds=[]\/∃ b off,a=some ⟨b,off,none⟩/\b<L/\∀ (i:Nat) d,ds[i]?=some d->∃ cs,R d cs/\cs.length=sz/\∀ (j:Nat) x,cs[j]?=some x->w.cell? ⟨b,off+i*sz+j,none⟩=some x)
theorem SlR.mod{α:Type}{G:Nat->Prop}{w w':World}{L sz:Nat}{R R':α->List Value->Prop}{v:Value}{ds:List α}(h:SlR w L sz R v ds)(hm:Mod G w w')(hG:∀ k,k<L->¬ G k)(hR:∀ d cs,R d cs->R' d cs):SlR w' L sz R' v ds:=by
 obtain ⟨a,cap,h1,h2,h3,h4⟩:=h
 refine ⟨a,cap,h1,h2,h3,?_⟩
 rcases h4 with h4 | ⟨b,off,h5,h6,h7⟩
 ·exact .inl h4
 ·refine .inr ⟨b,off,h5,h6,fun i d hi=>?_⟩
  obtain ⟨cs,k1,k2,k3⟩:=h7 i d hi
  exact ⟨cs,hR d cs k1,k2,fun j x hx=>hm.cell (k3 j x hx) (hG b h6)⟩
theorem SlR.slice{α:Type}{w:World}{L sz:Nat}{R:α->List Value->Prop}{v:Value}{ds:List α}(h:SlR w L sz R v ds):∃ a cap,v=.slice a ds.length cap/\ds.length<=cap/\cap<=maxLen:=by
 obtain ⟨a,cap,h1,h2,h3,_⟩:=h;exact ⟨a,cap,h1,h2,h3⟩
theorem SlR.at{α:Type}{w:World}{L sz:Nat}{R:α->List Value->Prop}{a:Option Addr}{n cap:Nat}{ds:List α}(h:SlR w L sz R (.slice a n cap) ds){i:Nat}{d:α}(hi:ds[i]?=some d) :
  ∃ b off cs,a=some ⟨b,off,none⟩/\b<L/\R d cs/\cs.length=sz/\∀ (j:Nat) x,cs[j]?=some x->w.cell? ⟨b,off+i*sz+j,none⟩=some x:=by
 obtain ⟨a',cap',h1,_,_,h4⟩:=h
 simp only [Value.slice.injEq] at h1
 obtain ⟨rfl,_,_⟩:=h1
 rcases h4 with rfl | ⟨b,off,h5,h6,h7⟩
 ·simp at hi
 ·obtain ⟨cs,k1,k2,k3⟩:=h7 i d hi
  exact ⟨b,off,cs,h5,h6,k1,k2,k3⟩
theorem SlR.nil{α:Type}(w:World)(L sz:Nat)(R:α->List Value->Prop):SlR w L sz R (.slice none 0 0) []:=⟨none,0,rfl,Nat.le_refl _,Nat.zero_le _,.inl rfl⟩
section
variable {H:Type} {enc:TypeId × Value->H} {P:Program} {w:World} {base:Nat} {spare:Nat->Bool} {held:Bool}
end
end Go.Proofs.YtogaigioeohjaaaGreatDoor
namespace Go.Proofs.YtogaigioeohjaaaGreatDoor
open Go.RowKit Go.Lib Go.Maps
theorem Hmq{p:Prop}(h:p):Hid p:=h
def clmR(d:ClmD)(cs:List Value):Prop:=cs=[.int .i64 d.tx,.int .i64 d.mode]
def zOx(w:World)(L:Nat)(v:Value)(l:List ClmD):Prop:=SlR w L 2 clmR v l
theorem zOx.mod{G:Nat->Prop}{w w':World}{L:Nat}{v:Value}{l:List ClmD}(h:zOx w L v l)(hm:Mod G w w')(hG:∀ k,k<L->¬ G k):zOx w' L v l:=SlR.mod h hm hG (fun _ _ h=>h)
theorem zOx.at{w:World}{L:Nat}{a:Option Addr}{n cap:Nat}{l:List ClmD}(h:zOx w L (.slice a n cap) l){i:Nat}{d:ClmD}(hi:l[i]?=some d) :
  ∃ b off,a=some ⟨b,off,none⟩/\b<L/\w.cell? ⟨b,off+i*2,none⟩=some (.int .i64 d.tx)/\w.cell? ⟨b,off+i*2+1,none⟩=some (.int .i64 d.mode):=by
 obtain ⟨b,off,cs,h1,h2,rfl,_,h5⟩:=SlR.at h hi
 exact ⟨b,off,h1,h2,by have:=h5 0 _ rfl;simpa using this,h5 1 _ rfl⟩
def cmpI(x y:Int):Int:=if x<y then -1 else if x > y then 1 else 0
theorem yAv(x:Int)(w:World):Calls Tryz.prog 266 #[.int .i64 x] w fun e w'=>e=.returned (.bool false)/\w'=w:=by
 go_enter Tryz.func266,Tryz.ntmps266
 go_wp2_with fail
 go_ret
 exact ⟨by simp,rfl⟩
theorem yRo(x y:Int)(w:World):Calls Tryz.prog 256 #[.int .i64 x,.int .i64 y] w fun e w'=>e=.returned (.int .i64 (cmpI x y))/\w'=w:=by
 have H1:=Hmq (yAv x w)
 have H2:=Hmq (yAv y w)
 have HC:Hid (cmpI x y=if x<y then -1 else if x > y then 1 else 0):=rfl
 generalize cmpI x y=z at HC
 by_cases h1:x<y
 ·have hz:z = -1:=by rw [HC.out,if_pos h1]
  subst hz
  clear HC
  go_enter Tryz.func256,Tryz.ntmps256
  go_wp2_with fail
  refine H1.out.mono ?_
  rintro e w1 ⟨rfl,rfl⟩
  go_wp2_with fail
  refine H2.out.mono ?_
  rintro e w1 ⟨rfl,rfl⟩
  go_wp2_with fail
  go_ret
  exact ⟨rfl,rfl⟩
 ·by_cases h2:x > y
  ·have hz:z=1:=by rw [HC.out,if_neg h1,if_pos h2]
   subst hz
   clear HC
   go_enter Tryz.func256,Tryz.ntmps256
   go_wp2_with fail
   refine H1.out.mono ?_
   rintro e w1 ⟨rfl,rfl⟩
   go_wp2_with fail
   refine H2.out.mono ?_
   rintro e w1 ⟨rfl,rfl⟩
   go_wp2_with fail
   go_ret
   exact ⟨rfl,rfl⟩
  ·have hz:z=0:=by rw [HC.out,if_neg h1,if_neg h2]
   subst hz
   clear HC
   go_enter Tryz.func256,Tryz.ntmps256
   go_wp2_with fail
   refine H1.out.mono ?_
   rintro e w1 ⟨rfl,rfl⟩
   go_wp2_with fail
   refine H2.out.mono ?_
   rintro e w1 ⟨rfl,rfl⟩
   go_wp2_with fail
   go_ret
   exact ⟨rfl,rfl⟩
theorem zVc(d:ClmD)(t:Int)(w:World):Calls Tryz.prog 255 #[.agg #[.int .i64 d.tx,.int .i64 d.mode],.int .i64 t] w fun e w'=>e=.returned (.int .i64 (cmpI d.tx t))/\Mod zAb w w':=by
 have HC:=fun w'=>yRo d.tx t w'
 have HM:Hid (Mod zAb w (w.alloc (.cells #[.int .i64 d.tx,.int .i64 d.mode] 214))):=(Mod.refl _ w).alloc _
 go_enter Tryz.func255,Tryz.ntmps255
 go_wp2_with fail
 refine (HC _).mono ?_
 rintro e w1 ⟨rfl,rfl⟩
 go_wp2_with fail
 go_ret
 exact ⟨rfl,HM.out⟩
theorem yGg{x t:Int}:cmpI x t<0↔x<t:=by
 unfold cmpI
 split
 ·simp;omega
 split
 ·simp;omega
 ·simp;omega
theorem yNq{x t:Int}:cmpI x t=0↔x=t:=by
 unfold cmpI
 split
 ·simp;omega
 split
 ·simp;omega
 ·simp;omega
theorem yEp(L:Nat)(v:Value)(l:List ClmD)(t:Int)(w:World)(hv:zOx w L v l)(hr:zFj l)(hl:l.length<=1000) :
  Calls Tryz.prog 254 #[v,.int .i64 t,.func (.func 255) #[] #[]] w fun e w'=>e=.returned (.tuple #[.int .i64 (plcN l t),.bool (fndN l t)])/\Mod zAb w w':=by
 have HV:=Hmq hv
 obtain ⟨a,cap,rfl,hc1,hc2⟩:=SlR.slice hv
 have HR:=Hmq hr
 clear hv hr
 go_enter Tryz.func254,Tryz.ntmps254
 go_wp2_with fail
 go_loopw [9,10] (fun x y wr=>∃ i j:Nat,x=.int .i64 i/\y=.int .i64 j/\i<=j/\j<=l.length/\(∀ k d,k<i->l[k]?=some d->d.tx<t)/\(∀ k d,j<=k->l[k]?=some d->t<=d.tx)/\Mod zAb w wr) (fun x y _=>(intOf y).toNat - (intOf x).toNat)
 case atStart=>exact ⟨0,l.length,rfl,rfl,Nat.zero_le _,Nat.le_refl _,fun k d h=>by omega,fun k d h hk=>by have:=(List.getElem?_eq_some_iff.1 hk).1;omega,Mod.refl _ _⟩
 case round=>
  obtain ⟨i,j,rfl,rfl,hij,hj,hlo,hhi,hM⟩:=hrel
  have HLO:=Hmq hlo
  have HHI:=Hmq hhi
  have HM:=Hmq hM
  clear hlo hhi hM
  by_cases hlt:i<j
  ·obtain ⟨h,hh⟩:∃ h:Nat,h=(i+j) / 2:=⟨_,rfl⟩
   have hhl:h<l.length:=by omega
   obtain ⟨d,hd⟩:∃ d,l[h]?=some d:=⟨_,List.getElem?_eq_getElem hhl⟩
   obtain ⟨b,off,rfl,_,q0,q1⟩:=HV.out.at hd
   have p0:=HM.out.cell q0 id
   have p1:=HM.out.cell q1 id
   have HPL:=Hmq (zVc d t wr)
   have HD:=Hmq hd
   have hltI:(i:Int)<(j:Int):=by omega
   have hhI:(h:Int)<(l.length:Int):=by omega
   have hh0:(0:Int)<=(h:Int):=by omega
   have HHH:Hid (((i:Int)+(j:Int)) / 2=(h:Int)):=(by omega:((i:Int)+(j:Int)) / 2=(h:Int))
   have HHE:=Hmq hh
   clear hd q0 q1 hh
   go_upto_region 5 with fail
   rw [HHH.out]
   go_wp2_with fail
   refine HPL.out.mono ?_
   rintro e w5 ⟨rfl,hm5⟩
   have HM5:=Hmq (HM.out.trans hm5)
   clear hm5 HPL p0 p1
   by_cases hgt:d.tx<t
   ·have hdd:decide (cmpI d.tx t<0)=true:=decide_eq_true (yGg.2 hgt)
    go_wp2_with fail
    go_roundw
    case rel=>
     refine ⟨h+1,j,by go_num,rfl,by have:=HHE.out;omega,hj,fun k d' hk hd'=>?_,HHI.out,HM5.out⟩
     have h1:=(zIn HR.out t h d HD.out).2 (by omega)
     exact (zIn HR.out t k d' hd').1 (by omega)
    case measure=>have:=HHE.out;simp [intOf];omega
   ·have hdd:decide (cmpI d.tx t<0)=false:=decide_eq_false (fun h=>hgt (yGg.1 h))
    go_wp2_with fail
    go_roundw
    case rel=>
     refine ⟨i,h,rfl,rfl,by have:=HHE.out;omega,by omega,HLO.out,fun k d' hk hd'=>?_,HM5.out⟩
     have h1:=mt (zIn HR.out t h d HD.out).1 (by omega)
     have h2:=mt (zIn HR.out t k d' hd').2 (by omega)
     omega
    case measure=>have:=HHE.out;simp [intOf];omega
  ·obtain rfl:i=j:=by omega
   have HP:=Hmq (yLg HR.out hj HLO.out HHI.out)
   clear hlt
   by_cases hlt:i<l.length
   ·obtain ⟨d,hd⟩:∃ d,l[i]?=some d:=⟨_,List.getElem?_eq_getElem hlt⟩
    obtain ⟨b,off,rfl,_,q0,q1⟩:=HV.out.at hd
    have p0:=HM.out.cell q0 id
    have p1:=HM.out.cell q1 id
    have HF:Hid (fndN l t=decide (d.tx=t)):=by unfold fndN;rw [HP.out,hd];rfl
    have HPL:=Hmq (zVc d t wr)
    have hiI:(i:Int)<(l.length:Int):=by omega
    have hi0:(0:Int)<=(i:Int):=by omega
    have hzz:(cmpI d.tx t == 0)=decide (d.tx=t):=by rw [Bool.eq_iff_iff,beq_iff_eq,decide_eq_true_iff];exact yNq
    have HZZ:=Hmq hzz
    clear hd q0 q1 hzz
    go_wp2_with fail
    refine HPL.out.mono ?_
    rintro e w5 ⟨rfl,hm5⟩
    have HM5:=Hmq (HM.out.trans hm5)
    clear hm5 HPL p0 p1
    go_wp2_with fail
    go_ret2
    exact ⟨by rw [HP.out,HF.out,<-HZZ.out];rfl,HM5.out⟩
   ·have HF:Hid (fndN l t=false):=by unfold fndN;rw [HP.out,List.getElem?_eq_none (by omega)];rfl
    have hiI:¬ (i:Int)<(l.length:Int):=by omega
    go_wp2_with fail
    go_ret2
    exact ⟨by rw [HP.out,HF.out];rfl,HM.out⟩
theorem zZz(L:Nat)(v:Value)(l:List ClmD)(t:Int)(w:World)(hv:zOx w L v l)(hr:zFj l)(hl:l.length<=1000) :
  Calls Tryz.prog 226 #[v,.int .i64 t] w fun e w'=>e=.returned (.tuple #[.int .i64 (plcN l t),.bool (fndN l t)])/\Mod zAb w w':=by
 have HB:=Hmq (yEp L v l t w hv hr hl)
 obtain ⟨a,cap,rfl,hc1,hc2⟩:=SlR.slice hv
 clear hv hr
 go_enter Tryz.func226,Tryz.ntmps226
 go_wp2_with fail
 refine HB.out.mono ?_
 rintro e w1 ⟨rfl,hm⟩
 go_wp2_with fail
 go_ret2
 exact ⟨rfl,hm⟩
theorem zJu(L:Nat)(v:Value)(l:List ClmD)(t:Int)(w:World)(hv:zOx w L v l)(hr:zFj l)(hl:l.length<=1000) :
  Calls Tryz.prog 175 #[v,.int .i64 t] w fun e w'=>e=.returned (.int .i64 (zCw l t))/\Mod zAb w w':=by
 have HB:=Hmq (zZz L v l t w hv hr hl)
 have HV:=Hmq hv
 obtain ⟨a,cap,rfl,hc1,hc2⟩:=SlR.slice hv
 have hle:=zXo l t
 clear hv hr
 cases hf:fndN l t with
 | true=>
  rw [hf] at HB
  obtain ⟨c,h1,h2⟩:=yBl hf
  have HMO:Hid (zCw l t=c.mode):=by rw [Hid];unfold zCw;rw [h1];simp [h2]
  obtain ⟨b,off,rfl,_,q0,q1⟩:=HV.out.at h1
  have hpl:plcN l t<l.length:=(List.getElem?_eq_some_iff.1 h1).1
  generalize plcN l t=n at HB hle q1 hpl
  have hnI:(n:Int)<(l.length:Int):=by omega
  have hn0:(0:Int)<=(n:Int):=by omega
  clear hf h1 h2 q0
  go_enter Tryz.func175,Tryz.ntmps175
  go_wp2_with fail
  refine HB.out.mono ?_
  rintro e w1 ⟨rfl,hm⟩
  have p1:=hm.cell q1 id
  have HM:=Hmq hm
  clear hm q1
  go_wp2_with fail
  go_ret
  exact ⟨by rw [HMO.out];rfl,HM.out⟩
 | false=>
  rw [hf] at HB
  have HMO:Hid (zCw l t=0):=by
   rw [Hid]
   unfold fndN at hf
   unfold zCw
   cases hc:l[plcN l t]? with
   | none=>rfl
   | some c=>rw [hc] at hf;simp at hf;simp [hf]
  clear hf
  go_enter Tryz.func175,Tryz.ntmps175
  go_wp2_with fail
  refine HB.out.mono ?_
  rintro e w1 ⟨rfl,hm⟩
  go_wp2_with fail
  go_ret
  exact ⟨by rw [HMO.out];rfl,hm⟩
end Go.Proofs.YtogaigioeohjaaaGreatDoor
