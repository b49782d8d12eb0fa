import Derived.Test.YtmaiggbnceejiaaGreatDoorP08
import Derived.Test.YtmaiggbnceejiaaGreatDoorP07
import Derived.Test.YtmaiggbnceejiaaGreatDoorP01
import Derived.Deep.Strs
import Derived.Deep.Slices
import Derived.OpenShut
set_option linter.unusedVariables false
set_option maxRecDepth 100000
set_option maxHeartbeats 16000000
namespace Go.Proofs.YtmaiggbnceejiaaGreatDoor
structure KeyS where
 held:List ClmD
 waits:List ClmD
abbrev Tab:=ByteArray->KeyS
def KeyS.bare(k:KeyS):Prop:=k.held=[]/\k.waits=[]
def updK(s:Tab)(k:ByteArray)(x:KeyS):Tab:=fun y=>if y=k then x else s y
def zCn(k:KeyS)(c:ClmD):KeyS × Bool × List Int × Int:=
 if zCp k.waits c.tx≠0 then (k,false,[],9)
 else if c.mode<=zCp k.held c.tx then (k,true,[],0)
 else if zIn k.held k.waits c then ({ k with held:=zDa k.held c },true,[],0)
 else if 50<=k.waits.length then (k,false,[],4)
 else ({ k with waits:=zDa k.waits c },false,zJk k.held c,0)
def atB(k:KeyS)(t:Int):Bool:=decide (zCp k.held t≠0) || decide (zCp k.waits t≠0)
def outN(k:KeyS)(t:Int):KeyS:=⟨(zDb (zCq k.held t) [] (zCq k.waits t)).1,(zDb (zCq k.held t) [] (zCq k.waits t)).2.1⟩
def gotN(k:KeyS)(t:Int):List ClmD:=(zDb (zCq k.held t) [] (zCq k.waits t)).2.2
def relN(s:Tab)(t:Int):Tab:=fun k=>if atB (s k) t then outN (s k) t else s k
structure zGz(k:KeyS):Prop where
 held:zEw k.held
 waits:zEw k.waits
 hmode:∀ c∈k.held,c.mode=1\/c.mode=2
 wmode:∀ c∈k.waits,c.mode=1\/c.mode=2
 wants:∀ c∈k.waits,∀ o∈k.held,o.tx=c.tx->o.mode<c.mode
theorem zGz.h0{k:KeyS}(h:zGz k):∀ c∈k.held,c.mode≠0:=fun c hc=>by rcases h.hmode c hc with e | e <;> omega
theorem zGz.w0{k:KeyS}(h:zGz k):∀ c∈k.waits,c.mode≠0:=fun c hc=>by rcases h.wmode c hc with e | e <;> omega
theorem zGz.nil:zGz ⟨[],[]⟩:=⟨List.Pairwise.nil,List.Pairwise.nil,by simp,by simp,by simp⟩
theorem yKd{k:KeyS}{c:ClmD}(h:zGz k)(hc:c.mode=1\/c.mode=2):zGz (zCn k c).1:=by
 unfold zCn
 split
 ·exact h
 rename_i g1
 have g1':zCp k.waits c.tx=0:=Classical.byContradiction g1
 split
 ·exact h
 rename_i g2
 split
 ·refine ⟨zGy h.held c,h.waits,fun o ho=>?_,h.wmode,fun d hd o ho e=>?_⟩
  ·rcases (zBx h.held c o).1 ho with rfl | ⟨ho,_⟩
   ·exact hc
   ·exact h.hmode o ho
  ·rcases (zBx h.held c o).1 ho with rfl | ⟨ho,_⟩
   ·exact absurd e.symm ((zJq h.waits h.w0).1 g1' d hd)
   ·exact h.wants d hd o ho e
 split
 ·exact h
 ·refine ⟨h.held,zGy h.waits c,h.hmode,fun o ho=>?_,fun d hd o ho e=>?_⟩
  ·rcases (zBx h.waits c o).1 ho with rfl | ⟨ho,_⟩
   ·exact hc
   ·exact h.wmode o ho
  ·rcases (zBx h.waits c d).1 hd with rfl | ⟨hd,_⟩
   ·have:=zXh h.held ho
    rw [e] at this
    omega
   ·exact h.wants d hd o ho e
theorem zPm:∀(q held kept:List ClmD),zEw held->zEw (kept++q)->(∀ c∈kept++q,∀ o∈held,o.tx=c.tx->o.mode<c.mode)->∀ c∈(zDb held kept q).2.1,∀ o∈(zDb held kept q).1,o.tx=c.tx->o.mode<c.mode
 | [],held,kept,h1,h2,h3=>by simpa [zDb] using h3
 | c :: q,held,kept,h1,h2,h3=>by
  unfold zDb
  split
  ·refine zPm q (zDa held c) kept (zGy h1 c) (h2.sublist (by simp)) (fun d hd o ho e=>?_)
   rcases (zBx h1 c o).1 ho with rfl | ⟨ho,_⟩
   ·exfalso
    rcases List.mem_append.1 hd with q1 | q1
    ·have:=(List.pairwise_append.1 h2).2.2 d q1 o (by simp);omega
    ·have:=List.rel_of_pairwise_cons (List.pairwise_append.1 h2).2.1 q1;omega
   ·refine h3 d ?_ o ho e
    rcases List.mem_append.1 hd with q1 | q1
    ·exact List.mem_append.2 (.inl q1)
    ·exact List.mem_append.2 (.inr (List.mem_cons_of_mem _ q1))
  ·exact zPm q held (kept++[c]) h1 (by simpa using h2) (by simpa using h3)
theorem out_ok{k:KeyS}(h:zGz k)(t:Int):zGz (outN k t):=by
 obtain ⟨h1,h2⟩:=zPo (zCq k.waits t) (zCq k.held t) [] (zEp h.held t) (by simpa using zEp h.waits t)
 refine ⟨h1,h2,fun o ho=>?_,fun o ho=>?_,zPm _ _ _ (zEp h.held t) (by simpa using zEp h.waits t) (fun c hc o ho=>h.wants c (by simp at hc;exact (zBq.1 hc).1) o (zBq.1 ho).1)⟩
 ·rcases (zHb _ _ _ o).1 ho with q | q
  ·exact h.hmode o (zBq.1 q).1
  ·exact h.wmode o (zBq.1 q).1
 ·rcases (zHb _ _ _ o).2.1 ho with q | q
  ·simp at q
  ·exact h.wmode o (zBq.1 q).1
theorem at_iff{k:KeyS}(h:zGz k)(t:Int):atB k t=true↔(∃ c∈k.held,c.tx=t)\/∃ c∈k.waits,c.tx=t:=by
 unfold atB
 have e1:=zJq h.held h.h0 (t:=t)
 have e2:=zJq h.waits h.w0 (t:=t)
 simp only [Bool.or_eq_true,decide_eq_true_iff,ne_eq,e1,e2]
 constructor
 ·rintro (q | q)
  ·left;exact Classical.byContradiction fun n=>q (fun c hc e=>n ⟨c,hc,e⟩)
  ·right;exact Classical.byContradiction fun n=>q (fun c hc e=>n ⟨c,hc,e⟩)
 ·rintro (⟨c,hc,e⟩ | ⟨c,hc,e⟩)
  ·exact .inl (fun q=>q c hc e)
  ·exact .inr (fun q=>q c hc e)
theorem yNk{k:KeyS}(t:Int):(∀ c∈(outN k t).held,c.tx≠t)/\∀ c∈(outN k t).waits,c.tx≠t:=by
 refine ⟨fun c hc=>?_,fun c hc=>?_⟩
 ·rcases (zHb _ _ _ c).1 hc with q | q
  ·exact (zBq.1 q).2
  ·exact (zBq.1 q).2
 ·rcases (zHb _ _ _ c).2.1 hc with q | q
  ·simp at q
  ·exact (zBq.1 q).2
theorem yEg{s:Tab}{k:ByteArray}(h:zGz (s k))(t:Int):(∀ c∈(relN s t k).held,c.tx≠t)/\∀ c∈(relN s t k).waits,c.tx≠t:=by
 unfold relN
 split
 ·exact yNk t
 ·rename_i q
  have:=mt (at_iff h t).2 q
  exact ⟨fun c hc e=>this (.inl ⟨c,hc,e⟩),fun c hc e=>this (.inr ⟨c,hc,e⟩)⟩
def inK(P:List ByteArray)(k:ByteArray):Bool:=P.any fun y=>decide (y=k)
theorem zSm{P:List ByteArray}{k:ByteArray}:inK P k=true↔k∈P:=by
 unfold inK
 rw [List.any_eq_true]
 constructor
 ·rintro ⟨y,hy,e⟩
  simp only [decide_eq_true_iff] at e
  rw [<-e];exact hy
 ·exact fun h=>⟨k,h,by simp⟩
structure zJh(W:List Int)(k:KeyS):Prop where
 ok:zGz k
 alone:∀ a∈k.held,∀ b∈k.held,zCg a b=false
 stuck:∀ c∈k.waits,zIn k.held k.waits c=false
 elder:∀ c∈k.waits,∀ a∈k.held,zCg a c=true->a.tx<c.tx\/a.tx∈W
theorem zWj(a b:ClmD):zCg a b=zCg b a:=by
 unfold zCg
 rw [show decide (a.tx≠b.tx)=decide (b.tx≠a.tx) by simp only [ne_eq,eq_comm],Bool.or_comm]
theorem yMl(a:ClmD):zCg a a=false:=by simp [zCg]
theorem zWi{a b:ClmD}(h:a.tx=b.tx):zCg a b=false:=by simp [zCg,h]
theorem zJh.nil(W:List Int):zJh W ⟨[],[]⟩:=⟨zGz.nil,by simp,by simp,by simp⟩
theorem zRe{held waits:List ClmD}{c:ClmD}:zIn held waits c=true↔(∀ o∈held,zCg o c=false)/\∀ o∈waits,o.tx<c.tx->zCg o c=false:=by
 unfold zIn
 simp only [Bool.and_eq_true,Bool.not_eq_true',List.any_eq_false,Bool.not_eq_true,decide_eq_true_iff]
 constructor
 ·rintro ⟨h1,h2⟩
  refine ⟨h1,fun o ho hl=>?_⟩
  cases hi:zCg o c with
  | false=>rfl
  | true=>exact absurd ⟨hl,hi⟩ (h2 o ho)
 ·rintro ⟨h1,h2⟩
  refine ⟨h1,fun o ho hl=>?_⟩
  have:=h2 o ho hl.1
  rw [hl.2] at this;cases this
theorem yMm{a b c:ClmD}(ht:a.tx=b.tx)(hm:a.mode=2->b.mode=2)(h:zCg a c=true):zCg b c=true:=by
 unfold zCg at *
 simp only [Bool.and_eq_true,Bool.or_eq_true,decide_eq_true_iff] at *
 exact ⟨by rw [<-ht];exact h.1,h.2.imp hm id⟩
def Over(h h':List ClmD):Prop:=∀ a∈h,∃ b∈h',a.tx=b.tx/\(a.mode=2->b.mode=2)
theorem Over.refl(h:List ClmD):Over h h:=fun a ha=>⟨a,ha,rfl,id⟩
theorem zZi{held:List ClmD}(hr:zEw held){c:ClmD}(hc:c.mode=1\/c.mode=2)(hup:∀ o∈held,o.tx=c.tx->o.mode=2->c.mode=2):Over held (zDa held c):=fun a ha=>by
 by_cases e:a.tx=c.tx
 ·exact ⟨c,(zBx hr c c).2 (.inl rfl),e,hup a ha e⟩
 ·exact ⟨a,(zBx hr c a).2 (.inr ⟨ha,e⟩),rfl,id⟩
theorem zEu{held held' waits waits':List ClmD}{c:ClmD}(h:zIn held waits c=false)(ho:Over held held')(hw:∀ o∈waits,o.tx<c.tx->o∈waits'):zIn held' waits' c=false:=by
 cases hf:zIn held' waits' c with
 | false=>rfl
 | true=>
  exfalso
  obtain ⟨h1,h2⟩:=zRe.1 hf
  have:zIn held waits c=true:=zRe.2 ⟨fun o hoo=>?_,fun o hoo hl=>h2 o (hw o hoo hl) hl⟩
  ·rw [h] at this;cases this
  ·cases hi:zCg o c with
   | false=>rfl
   | true=>
    obtain ⟨b,hb,e1,e2⟩:=ho o hoo
    have:=yMm e1 e2 hi
    rw [h1 b hb] at this;cases this
theorem zVx{W:List Int}{held waits:List ClmD}{c:ClmD}(hr:zEw held)(ha:∀ a∈held,∀ b∈held,zCg a b=false)(hf:∀ o∈held,zCg o c=false):∀ a∈zDa held c,∀ b∈zDa held c,zCg a b=false:=fun a h1 b h2=>by
 rcases (zBx hr c a).1 h1 with rfl | ⟨h1',_⟩
 ·rcases (zBx hr a b).1 h2 with rfl | ⟨h2,_⟩
  ·exact yMl _
  ·rw [zWj];exact hf b h2
 ·rcases (zBx hr c b).1 h2 with rfl | ⟨h2,_⟩
  ·exact hf a h1'
  ·exact ha a h1' b h2
theorem zPp(W:List Int):∀ (q held kept:List ClmD),zEw held->zEw (kept++q)->(∀ c∈held,c.mode=1\/c.mode=2)->(∀ c∈kept++q,c.mode=1\/c.mode=2) ->
  (∀ a∈held,∀ b∈held,zCg a b=false)->(∀ c∈kept,zIn held kept c=false)->(∀ c∈kept++q,∀ a∈held,zCg a c=true->a.tx<c.tx\/a.tx∈W)->(∀ c∈kept++q,∀ o∈held,o.tx=c.tx->o.mode<c.mode) ->
  zJh W ⟨(zDb held kept q).1,(zDb held kept q).2.1⟩
 | [],held,kept,h1,h2,h3,h4,h5,h6,h7,h8=>by
  simp only [List.append_nil] at *
  exact ⟨⟨h1,h2,h3,h4,h8⟩,h5,h6,h7⟩
 | c :: q,held,kept,h1,h2,h3,h4,h5,h6,h7,h8=>by
  have hcm:=h4 c (by simp)
  unfold zDb
  split
  ·rename_i hf
   obtain ⟨f1,f2⟩:=zRe.1 hf
   have hlt:∀ o∈kept,o.tx<c.tx:=fun o ho=>(List.pairwise_append.1 h2).2.2 o ho c (by simp)
   have hgt:∀ o∈q,c.tx<o.tx:=fun o ho=>List.rel_of_pairwise_cons (List.pairwise_append.1 h2).2.1 ho
   have hin:∀ o,o∈kept++q->o∈kept++c :: q:=fun o ho=>by
    rcases List.mem_append.1 ho with e | e
    ·exact List.mem_append.2 (.inl e)
    ·exact List.mem_append.2 (.inr (List.mem_cons_of_mem _ e))
   have hov:Over held (zDa held c):=zZi h1 hcm (fun o ho e e2=>by have:=h8 c (by simp) o ho e;omega)
   refine zPp W q (zDa held c) kept (zGy h1 c) (h2.sublist (by simp)) (fun o ho=>?_) (fun o ho=>h4 o (hin o ho)) (zVx (W:=W) (waits:=[]) h1 h5 f1) (fun o ho=>zEu (h6 o ho) hov (fun _ h _=>h)) (fun o ho a ha hw=>?_) (fun o ho a ha e=>?_)
   ·rcases (zBx h1 c o).1 ho with rfl | ⟨ho,_⟩
    ·exact hcm
    ·exact h3 o ho
   ·rcases (zBx h1 c a).1 ha with rfl | ⟨ha,_⟩
    ·rcases List.mem_append.1 ho with e | e
     ·rw [zWj,f2 o e (hlt o e)] at hw;cases hw
     ·exact .inl (hgt o e)
    ·exact h7 o (hin o ho) a ha hw
   ·rcases (zBx h1 c a).1 ha with rfl | ⟨ha,_⟩
    ·exfalso
     rcases List.mem_append.1 ho with q1 | q1
     ·have:=hlt o q1;omega
     ·have:=hgt o q1;omega
    ·exact h8 o (hin o ho) a ha e
  ·rename_i hf
   simp only [Bool.not_eq_true] at hf
   have hcons:kept++c :: q=kept++[c]++q:=by simp
   rw [hcons] at h2 h4 h7 h8
   have hlt:∀ o∈kept,o.tx<c.tx:=fun o ho=>(List.pairwise_append.1 (List.pairwise_append.1 h2).1).2.2 o ho c (by simp)
   refine zPp W q held (kept++[c]) h1 h2 h3 h4 h5 (fun o ho=>?_) h7 h8
   rcases List.mem_append.1 ho with e | e
   ·exact zEu (h6 o e) (Over.refl _) (fun x hx _=>List.mem_append.2 (.inl hx))
   ·simp at e
    subst e
    exact zEu hf (Over.refl _) (fun x hx _=>List.mem_append.2 (.inl hx))
theorem yLy{W:List Int}{k:KeyS}(h:zJh W k)(t:Int):zJh W (outN k t):=by
 refine zPp W _ _ _ (zEp h.ok.held t) (by simpa using zEp h.ok.waits t) (fun c hc=>h.ok.hmode c (zBq.1 hc).1) (fun c hc=>h.ok.wmode c ?_) (fun a ha b hb=>h.alone a (zBq.1 ha).1 b (zBq.1 hb).1) (by simp) (fun c hc a ha=>h.elder c ?_ a (zBq.1 ha).1) (fun c hc a ha=>h.ok.wants c ?_ a (zBq.1 ha).1)
 ·simp at hc;exact (zBq.1 hc).1
 ·simp at hc;exact (zBq.1 hc).1
 ·simp at hc;exact (zBq.1 hc).1
theorem zJh.less{W:List Int}{k:KeyS}{t:Int}(h:zJh (t :: W) k)(hg:∀ c∈k.held,c.tx≠t):zJh W k:=
 ⟨h.ok,h.alone,h.stuck,fun c hc a ha hw=>(h.elder c hc a ha hw).imp id (fun e=>(List.mem_cons.1 e).resolve_left (hg a ha))⟩
theorem yHy{W:List Int}{k:KeyS}{c:ClmD}(h:zJh W k)(hc:c.mode=1\/c.mode=2):zJh ((zCn k c).2.2.1++W) (zCn k c).1/\(∀ x∈(zCn k c).2.2.1,c.tx<x):=by
 have hok:=yKd h.ok hc
 revert hok
 unfold zCn
 split
 ·exact fun _=>⟨by simpa using h,by simp⟩
 rename_i g1
 have g1':zCp k.waits c.tx=0:=Classical.byContradiction g1
 have g1'':=(zJq h.ok.waits h.ok.w0).1 g1'
 split
 ·exact fun _=>⟨by simpa using h,by simp⟩
 rename_i g2
 have g2':∀ o∈k.held,o.tx=c.tx->o.mode<c.mode:=fun o ho e=>by
  have:=zXh h.ok.held ho
  rw [e] at this
  omega
 split
 ·rename_i hf
  obtain ⟨f1,f2⟩:=zRe.1 hf
  intro hok
  have hov:Over k.held (zDa k.held c):=zZi h.ok.held hc (fun o ho e e2=>by have:=g2' o ho e;omega)
  refine ⟨⟨hok,zVx (W:=W) (waits:=[]) h.ok.held h.alone f1,fun d hd=>zEu (h.stuck d hd) hov (fun _ h _=>h),fun d hd a ha hw=>?_⟩,by simp⟩
  rcases (zBx h.ok.held c a).1 ha with rfl | ⟨ha,_⟩
  ·left
   rcases Int.lt_trichotomy a.tx d.tx with q | q | q
   ·exact q
   ·rw [zWi q] at hw;cases hw
   ·rw [zWj,f2 d hd q] at hw;cases hw
  ·exact (h.elder d hd a ha hw).imp id (fun e=>by simpa using e)
 rename_i hf
 simp only [Bool.not_eq_true] at hf
 split
 ·exact fun _=>⟨by simpa using h,by simp⟩
 ·intro hok
  have hwd:∀ x,x∈zJk k.held c↔∃ o∈k.held,o.tx=x/\c.tx<x/\zCg o c=true:=fun x=>by
   unfold zJk zLb
   simp only [List.mem_map,List.mem_filter,Bool.not_or,Bool.not_not,Bool.and_eq_true,Bool.not_eq_true',decide_eq_false_iff_not]
   constructor
   ·rintro ⟨o,⟨h1,h2,h3⟩,rfl⟩
    refine ⟨o,h1,rfl,?_,h3⟩
    have:o.tx≠c.tx:=fun e=>by rw [zWi e] at h3;cases h3
    omega
   ·rintro ⟨o,h1,rfl,h2,h3⟩
    exact ⟨o,⟨h1,by omega,h3⟩,rfl⟩
  refine ⟨⟨hok,h.alone,fun d hd=>?_,fun d hd a ha hw=>?_⟩,fun x hx=>?_⟩
  ·rcases (zBx h.ok.waits c d).1 hd with rfl | ⟨hd,_⟩
   ·exact zEu hf (Over.refl _) (fun x hx _=>(zBx h.ok.waits d x).2 (.inr ⟨hx,g1'' x hx⟩))
   ·exact zEu (h.stuck d hd) (Over.refl _) (fun x hx _=>(zBx h.ok.waits c x).2 (.inr ⟨hx,g1'' x hx⟩))
  ·rcases (zBx h.ok.waits c d).1 hd with rfl | ⟨hd,_⟩
   ·rcases Int.lt_trichotomy a.tx d.tx with q | q | q
    ·exact .inl q
    ·rw [zWi q] at hw;cases hw
    ·exact .inr (List.mem_append.2 (.inl ((hwd a.tx).2 ⟨a,ha,rfl,q,hw⟩)))
   ·exact (h.elder d hd a ha hw).imp id (fun e=>List.mem_append.2 (.inr e))
  ·obtain ⟨o,_,_,q,_⟩:=(hwd x).1 hx
   exact q
theorem zJh.more{W W':List Int}{k:KeyS}(h:zJh W k)(hs:∀ x∈W,x∈W'):zJh W' k:=
 ⟨h.ok,h.alone,h.stuck,fun c hc a ha hw=>(h.elder c hc a ha hw).imp id (hs _)⟩
theorem yLx{W:List Int}{s:Tab}{t:Int}(h:∀ k,zJh (t :: W) (s k)):∀ k,zJh W (relN s t k):=fun k=>by
 have hg:=(yEg (h k).ok t).1
 refine zJh.less (t:=t) ?_ hg
 unfold relN
 split
 ·exact yLy (h k) t
 ·exact h k
end Go.Proofs.YtmaiggbnceejiaaGreatDoor
namespace Go.Proofs.YtmaiggbnceejiaaGreatDoor
open Go.RowKit Go.Lib Go.Maps
structure zCr where
 nodes:List zAl
 heard:Nat
structure TxS where
 state:Int
 ats:List Int
 writes:List zBa
 time:Int
structure zAa where
 lines:List zCr
 dead:List Int
 net:NetS
 keys:Tab
 txs:List TxS
def zAa.line(h:zAa)(k:Nat):zCr:=h.lines.getD k ⟨[],0⟩
def zAa.tx(h:zAa)(id:Nat):TxS:=h.txs.getD (id - 1) ⟨0,[],[],0⟩
def decH(h:zAa):Nat:=h.lines.length - 1
def sumK(key:ByteArray):Nat:=key.toList.foldl (fun a b=>a+b.toNat) 0
def zBg(h:zAa)(key:ByteArray):Nat:=sumK key % decH h
def zAs(h:zAa)(n:zAl):Bool:=!(decide (n.id∈h.dead))
def zAj(h:zAa)(k:Nat):List zAl:=(h.line k).nodes.filter (zAs h)
def zOq(h:zAa)(k:Nat):Option zAl:=match (h.line k).nodes with
 | []=>none
 | n :: _=>if zAs h n then some n else none
def zDz(h:zAa)(k:Nat)(l:zCr):zAa:={ h with lines:=h.lines.set k l }
def zCa(h:zAa)(k j:Nat)(n:zAl):zAa:=zDz h k ⟨(h.line k).nodes.set j n,(h.line k).heard⟩
def setTx(h:zAa)(id:Nat)(t:TxS):zAa:={ h with txs:=h.txs.set (id - 1) t }
def zMt(h:zAa)(ms:List MsgD):zAa:={ h with net:=zEz h.net ms }
def isTx(h:zAa)(id:Int):Bool:=decide (1<=id) && decide (id<=(h.txs.length:Int))
def zDd(h:zAa)(id:Int):Int:=if isTx h id then (h.tx id.toNat).state else 0
def zHv(h:zAa)(id:Int):Int:=if zDd h id=0 then 7 else if zDd h id=1 then 0 else 6
def zIo(h:zAa)(id:Int)(key:ByteArray):Int:=
 if zHv h id≠0 then zHv h id else if 20<key.size then 4 else if (zOq h (zBg h key)).isNone then 12 else 0
def zCt(h:zAa)(id:Int)(key:ByteArray):List Int:=
 ((List.range h.txs.length).map fun (i:Nat)=>(i:Int)+1).filter fun o=>decide (o≠id) && decide (zCp (h.keys key).held o≠0)
def zEd(h:zAa)(id:Int)(key:ByteArray):Bool:=!((zCt h id key).any fun o=>decide (o<id) || decide ((h.tx o.toNat).state≠1))
def zDg(h:zAa)(id:Nat)(st:Int):zAa:={ setTx h id { h.tx id with state:=st,writes:=[] } with keys:=relN h.keys id }
def zBk(h:zAa)(id:Nat):zAa:=
 zDg (if (h.tx id).state=1 then setTx h id { h.tx id with ats:=(h.tx id).ats.map fun _=>0 } else h) id 4
def zBz(h:zAa)(ids:List Int):zAa:=ids.foldl (fun h i=>if (h.tx i.toNat).state=1 then zBk h i.toNat else h) h
def zAv(h:zAa)(id:Int)(key:ByteArray)(mode:Int):zAa × List Int × Int:=
 ({ h with keys:=updK h.keys key (zCn (h.keys key) ⟨id,mode⟩).1 },(zCn (h.keys key) ⟨id,mode⟩).2.2.1,(zCn (h.keys key) ⟨id,mode⟩).2.2.2)
def zBw(h:zAa)(id:Int)(key:ByteArray)(mode:Int):zAa × List Int × Int:=
 let a:=zAv h id key mode
 if a.2.2=4/\zEd a.1 id key=true then zAv (zBz a.1 (zCt a.1 id key)) id key mode else a
def zIu(h:zAa)(id k:Nat):zAa:=setTx h id { h.tx id with ats:=(h.tx id).ats.set k 1 }
def zBy(h:zAa)(id:Int)(key:ByteArray)(mode:Int):zAa × Int:=
 let a:=zBw h id key mode
 if a.2.2=9 then (a.1,11) else if a.2.2=4 then (a.1,4) else
  let b:=zBz (zIu a.1 id.toNat (zBg a.1 key)) a.2.1
  (b,if zCp (b.keys key).held id<mode then 11 else 0)
def zDn(log:List CmdD)(kind tx:Int):Option Nat:=log.findIdx? fun c=>decide (c.kind=kind) && decide (c.tx=tx)
def zBo(log:List CmdD):List zBa:=(log.reverse.filter fun c=>decide (c.kind=3)).flatMap fun c=>((log.getD ((zDn log 2 c.tx).getD 0) zIe).writes).reverse
def seenL(t:TxS)(log:List CmdD):List zBa:=t.writes.reverse++zBo log
def seesH(t:TxS)(log:List CmdD)(key:ByteArray):ByteArray × Bool:=match (seenL t log).find? fun p=>decide (p.key=key) with
 | none=>(ByteArray.empty,false)
 | some p=>if p.gone then (ByteArray.empty,false) else (p.val,true)
def getH(h:zAa)(id:Int)(key:ByteArray):zAa × ByteArray × Bool × Int:=
 if zIo h id key≠0 then (h,ByteArray.empty,false,zIo h id key) else
  let a:=zBy h id key 1
  if a.2≠0 then (a.1,ByteArray.empty,false,a.2) else
   let v:=seesH (a.1.tx id.toNat) (((h.line (zBg h key)).nodes.getD 0 ⟨0,0,[],[],0⟩).log) key
   (a.1,v.1,v.2,0)
def zJj(t:TxS)(key:ByteArray):Option Nat:=t.writes.findIdx? fun p=>decide (p.key=key)
def zMu(t:TxS)(key:ByteArray):Bool:=decide (20<=t.writes.length) && (zJj t key).isNone
def zFc(t:TxS)(p:zBa):TxS:=match zJj t p.key with
 | some n=>{ t with writes:=t.writes.set n p }
 | none=>{ t with writes:=t.writes++[p] }
def putH(h:zAa)(id:Int)(p:zBa):zAa × Int:=
 if 40<p.val.size then (h,4) else if zIo h id p.key≠0 then (h,zIo h id p.key)
 else if zMu (h.tx id.toNat) p.key && zEd h id p.key then (h,4)
 else
  let a:=zBy h id p.key 2
  if a.2≠0 then a else (setTx a.1 id.toNat (zFc (a.1.tx id.toNat) p),0)
def zDq(h:zAa)(t:TxS)(k:Nat):List zBa:=t.writes.filter fun p=>decide (zBg h p.key=k)
def zIy(t:TxS):Bool:=!(decide ((1:Int)∈t.ats))
def dueH(h:zAa)(id k:Nat)(time:Int):Option CmdD:=
 let t:=h.tx id
 if k=decH h then (if t.state=2/\zIy t=true then some ⟨3,id,time,[]⟩ else none)
 else if t.ats.getD k 0=0 then none
 else if t.state=2 then some ⟨2,id,0,zDq h t k⟩
 else if t.state=3 then some ⟨3,id,t.time,[]⟩
 else if t.state=4 then some ⟨4,id,0,[]⟩
 else none
def addN(n:zAl)(c:CmdD):zAl × List MsgD:=if headN n && decide (n.log.length<500) then zGd n c else (n,[])
def zAq(h:zAa)(k:Nat):zAl:=(h.line k).nodes.getD 0 ⟨0,0,[],[],0⟩
def addH(h:zAa)(k:Nat)(c:CmdD):zAa:=zMt (zCa h k 0 (addN (zAq h k) c).1) (addN (zAq h k) c).2
def zJm(h:zAa)(k:Nat)(log:List CmdD)(id:Nat):zAa:=match dueH h id k ((zAq h k).log.length+1) with
 | none=>h
 | some c=>if (zDn log c.kind id).isNone then addH h k c else h
def zDc(h:zAa)(k:Nat):zAa:=match zOq h k with
 | none=>h
 | some n=>((List.range h.txs.length).map (·+1)).foldl (fun h id=>zJm h k n.log id) h
def zDy(h:zAa):zAa:=(List.range h.lines.length).foldl zDc h
def zFv(h:zAa)(k:Nat):zAl:=(h.line k).nodes.getLastD ⟨0,0,[],[],0⟩
def zFs(h:zAa)(k:Nat):List CmdD:=(zFv h k).log.drop (h.line k).heard
def zCb(h:zAa)(k:Nat)(c:CmdD):zAa:=
 if k=decH h then zDg (setTx h c.tx.toNat { h.tx c.tx.toNat with time:=c.time }) c.tx.toNat 3
 else if c.kind=2 then setTx h c.tx.toNat { h.tx c.tx.toNat with ats:=(h.tx c.tx.toNat).ats.set k 2 }
 else h
def zCz(k:Nat)(h:zAa)(c:CmdD):zAa:=zDz (zCb h k c) k ⟨((zCb h k c).line k).nodes,((zCb h k c).line k).heard+1⟩
def zNc(h:zAa)(k:Nat):zAa:=(zFs h k).foldl (zCz k) h
def zHy(h:zAa):zAa:=(List.range h.lines.length).foldl zNc h
def zDl(h:zAa):Bool:=(List.range h.lines.length).any fun k=>!(zFs h k).isEmpty
def zEl:Nat->zAa->zAa
 | 0,h=>h
 | n+1,h=>if zDl h then zEl n (zDy (zHy h)) else h
def zCi(h:zAa):zAa:=zEl (500*h.lines.length+1) h
open Classical in
noncomputable def zNt(h:zAa)(id:Int):Bool:=decide (∃ k,(h.keys k).waits.any (fun c=>decide (c.tx=id))=true)
noncomputable def endH(h:zAa)(id:Int):zAa × Int:=
 if zHv h id≠0 then (h,zHv h id) else if zNt h id then (h,11)
 else (zCi (zDy (setTx h id.toNat { h.tx id.toNat with state:=2 })),0)
def zIt(h:zAa)(id:Int):zAa × Int:=if zHv h id≠0 then (h,zHv h id) else (zBk h id.toNat,0)
def zTv(h:zAa)(ns:List zAl)(id:Int):Option Nat:=ns.findIdx? fun n=>zAs h n && decide (n.id=id)
def zQu(h:zAa)(id:Int):Nat->List zCr->Option (Nat × Nat)
 | _,[]=>none
 | k,l :: ls=>match zTv h l.nodes id with
  | some j=>some (k,j)
  | none=>zQu h id (k+1) ls
def zIl(h:zAa)(id:Int):Option (Nat × Nat):=zQu h id 0 h.lines
def zAo(h:zAa)(k j:Nat):zAl:=(h.line k).nodes.getD j ⟨0,0,[],[],0⟩
def zHt(h:zAa)(k j:Nat)(m:MsgD):zAa:=zMt (zCa h k j (zCw (zAo h k j) m).1) (zCw (zAo h k j) m).2
def zBi(h:zAa)(k:Nat):zAa:={ h with net:=yQv h.net k }
def zBf(h:zAa)(k:Nat):zAa:=match h.net.way[k]? with
 | none=>h
 | some m=>match zIl h m.to with
  | none=>zBi h k
  | some (kk,j)=>zCi (zHt (zBi h k) kk j m)
def tick1(k:Nat)(h:zAa)(j:Nat):zAa:=if zAs h (zAo h k j) then zMt (zCa h k j (zEj (zAo h k j)).1) (zEj (zAo h k j)).2 else h
def zDm(h:zAa)(k:Nat):zAa:=(List.range (h.line k).nodes.length).foldl (tick1 k) h
def zFd(h:zAa):zAa:=(List.range h.lines.length).foldl zDm h
def zFz(h:zAa):Nat:=((List.range h.lines.length).map fun k=>((zAj h k).map fun n=>n.log.length).sum).sum
def zDu(l:zCr):Int:=(l.nodes.getD 0 ⟨0,0,[],[],0⟩).epoch+1
def zCc(l:zCr):zCr × List MsgD:=
 (⟨l.nodes.map fun n=>(zEj (becN n (zDu l) (l.nodes.map (·.id)))).1,l.heard⟩,l.nodes.flatMap fun n=>(zEj (becN n (zDu l) (l.nodes.map (·.id)))).2)
def zOl(h:zAa)(k i:Nat):Bool:=
 let t:=h.tx (i+1)
 decide (t.ats.getD k 0≠0) && (decide (t.state=1) || (decide (t.state=2) && (zDn (zAq h k).log 2 ((i:Int)+1)).isNone))
def zEb(h:zAa)(k:Nat):zAa:=(List.range h.txs.length).foldl (fun h i=>if zOl h k i then zBk h (i+1) else h) h
def fixAt(h:zAa)(k:Nat):zAa:=
 if (zAj h k).length=0\/(zAj h k).length=(h.line k).nodes.length then h
 else zEb (zMt (zDz h k (zCc ⟨zAj h k,(h.line k).heard⟩).1) (zCc ⟨zAj h k,(h.line k).heard⟩).2) k
def fixH(h:zAa):zAa:=zCi (zDy ((List.range h.lines.length).foldl fixAt h))
def zGj(h:zAa)(id:Int):zAa × Int:=if (zIl h id).isNone then (h,7) else ({ h with dead:=h.dead++[id],net:=yAy h.net id },0)
def zRy(id:Int):zAl:=⟨id,0,[],[],0⟩
def zBs(k nodes:Nat):zCr × List MsgD:=zCc ⟨(List.range nodes).map fun (i:Nat)=>zRy (10*(k:Int)+(i:Int)),0⟩
def newF(nodes:Nat):Nat->zAa
 | 0=>⟨[],[],⟨[],0,[]⟩,fun _=>⟨[],[]⟩,[]⟩
 | k+1=>let h:=newF nodes k;{ h with lines:=h.lines++[(zBs k nodes).1],net:=zEz h.net (zBs k nodes).2 }
def newH(shards nodes:Nat):zAa:=newF nodes (shards+1)
def zFl(h:zAa):zAa:={ h with txs:=h.txs++[⟨1,List.replicate h.lines.length 0,[],0⟩] }
end Go.Proofs.YtmaiggbnceejiaaGreatDoor
namespace Go.Proofs.YtmaiggbnceejiaaGreatDoor
open Go.ChangeShapes Go.WideShapes Go.RowKit Go.Deep
def SlR{α:Type}(w:World)(L sz:Nat)(R:α->List Value->Prop)(v:Value)(ds:List α):Prop:=
 ∃ a cap,v=.slice a ds.length cap/\ds.length<=cap/\cap<=maxLen /\
  (ds=[]\/∃ b off,a=some ⟨b,off,none⟩/\b<L/\∀ (i:Nat) d,ds[i]?=some d->∃ cs,R d cs/\cs.length=sz/\∀ (j:Nat) x,cs[j]?=some x->w.cell? ⟨b,off+i*sz+j,none⟩=some x)
theorem SlR.mod{α:Type}{G:Nat->Prop}{w w':World}{L sz:Nat}{R R':α->List Value->Prop}{v:Value}{ds:List α}(h:SlR w L sz R v ds)(hm:Mod G w w')(hG:∀ k,k<L->¬ G k)(hR:∀ d cs,R d cs->R' d cs):SlR w' L sz R' v ds:=by
 obtain ⟨a,cap,h1,h2,h3,h4⟩:=h
 refine ⟨a,cap,h1,h2,h3,?_⟩
 rcases h4 with h4 | ⟨b,off,h5,h6,h7⟩
 ·exact .inl h4
 ·refine .inr ⟨b,off,h5,h6,fun i d hi=>?_⟩
  obtain ⟨cs,k1,k2,k3⟩:=h7 i d hi
  exact ⟨cs,hR d cs k1,k2,fun j x hx=>hm.cell (k3 j x hx) (hG b h6)⟩
theorem SlR.slice{α:Type}{w:World}{L sz:Nat}{R:α->List Value->Prop}{v:Value}{ds:List α}(h:SlR w L sz R v ds):∃ a cap,v=.slice a ds.length cap/\ds.length<=cap/\cap<=maxLen:=by
 obtain ⟨a,cap,h1,h2,h3,_⟩:=h;exact ⟨a,cap,h1,h2,h3⟩
theorem SlR.at{α:Type}{w:World}{L sz:Nat}{R:α->List Value->Prop}{a:Option Addr}{n cap:Nat}{ds:List α}(h:SlR w L sz R (.slice a n cap) ds){i:Nat}{d:α}(hi:ds[i]?=some d) :
  ∃ b off cs,a=some ⟨b,off,none⟩/\b<L/\R d cs/\cs.length=sz/\∀ (j:Nat) x,cs[j]?=some x->w.cell? ⟨b,off+i*sz+j,none⟩=some x:=by
 obtain ⟨a',cap',h1,_,_,h4⟩:=h
 simp only [Value.slice.injEq] at h1
 obtain ⟨rfl,_,_⟩:=h1
 rcases h4 with rfl | ⟨b,off,h5,h6,h7⟩
 ·simp at hi
 ·obtain ⟨cs,k1,k2,k3⟩:=h7 i d hi
  exact ⟨b,off,cs,h5,h6,k1,k2,k3⟩
theorem SlR.nil{α:Type}(w:World)(L sz:Nat)(R:α->List Value->Prop):SlR w L sz R (.slice none 0 0) []:=⟨none,0,rfl,Nat.le_refl _,Nat.zero_le _,.inl rfl⟩
section
variable {H:Type} {enc:TypeId × Value->H} {P:Program} {w:World} {base:Nat} {spare:Nat->Bool} {held:Bool}
theorem sl_plain{a:Addr}{v:Value}(h:w.cell? (a.add 0)=some v):∃ b off,a=⟨b,off,none⟩:=by
 obtain ⟨b,off,spot⟩:=a
 have hs:spot=none:=by simpa [Addr.add] using World.cell?_spot h
 exact ⟨b,off,by rw [hs]⟩
theorem open_slR{α:Type}[Inhabited α]{tS tE:TypeId}{sz:Nat}{R:α->List Value->Prop}(hS:P.underlying tS=some (.slice tE))(hc:P.cellsOf tE=sz)(hz:0<sz)
  (hE:∀ (n:Nat) (cs:List Value) (x:DataW H × List MemPlace),DataW.trod enc P w base spare held n tE cs=some x->∃ d,R d cs)
  {fuel:Nat} {v:Value} {x:DataW H × List MemPlace} (h:DataW.trod enc P w base spare held fuel tS [v]=some x):∃ ds,SlR w w.heap.size sz R v ds:=by
 rcases open_slice hS h with ⟨hcs,rfl⟩ | ⟨a,len,cap,m,n,D,Pl,hcs,hb,hl,hm,hmm,rfl,hx⟩
 ·simp only [List.cons.injEq,and_true] at hcs
  subst hcs
  exact ⟨[],SlR.nil _ _ _ _⟩
 ·simp only [List.cons.injEq,and_true] at hcs
  subst hcs
  have hlm:len<=m:=by rw [hmm];split <;> omega
  rw [hc] at hx
  obtain ⟨f,hf⟩:=choose_lt (α:=α) (p:=fun i d=>∃ cs,R d cs/\cs.length=sz/\∀ (j:Nat) y,cs[j]?=some y->w.cell? (a.add (i*sz+j))=some y) (n:=len) (fun i hi=>by
   obtain ⟨cs',h1,h2⟩:=hx i (by omega)
   obtain ⟨d,hd⟩:=hE n cs' _ h2
   obtain ⟨_,hlen,h4⟩:=World.cells?_some h1
   refine ⟨d,cs',hd,hlen,fun j y hy=>?_⟩
   have hj:j<cs'.length:=(List.getElem?_eq_some_iff.1 hy).1
   have:=h4 j (by omega)
   rw [add_add] at this
   rw [this]
   simpa using hy)
  refine ⟨(List.range len).map f,some a,cap,by simp,by simpa using hl,hm,?_⟩
  by_cases h0:len=0
  ·subst h0;exact .inl rfl
  ·right
   obtain ⟨cs0,_,hl0,hc0⟩:=hf 0 (by omega)
   obtain ⟨y0,hy0⟩:∃ y,cs0[0]?=some y:=⟨_,List.getElem?_eq_getElem (by omega)⟩
   have hy:=hc0 0 y0 hy0
   rw [Nat.zero_mul,Nat.zero_add] at hy
   obtain ⟨b,off,rfl⟩:=sl_plain hy
   refine ⟨b,off,rfl,World.block_lt_of_cell? w _ (by rw [add_plain] at hy;exact hy),fun i d hd=>?_⟩
   have hi:i<len:=by
    have:=(List.getElem?_eq_some_iff.1 hd).1
    simpa using this
   have hdf:d=f i:=by
    rw [List.getElem?_map,List.getElem?_range hi] at hd
    simpa using hd.symm
   subst hdf
   obtain ⟨cs,k1,k2,k3⟩:=hf i hi
   refine ⟨cs,k1,k2,fun j y hj=>?_⟩
   have:=k3 j y hj
   rw [add_plain] at this
   rw [Nat.add_assoc];exact this
end
end Go.Proofs.YtmaiggbnceejiaaGreatDoor
