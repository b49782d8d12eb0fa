import Derived.Test.YtmaiggbnceejiaaGreatDoorS06
import Derived.Test.YtmaiggbnceejiaaGreatDoorS05
import Derived.Test.YtmaiggbnceejiaaGreatDoorS01
import Derived.Deep.Strs
import Derived.Deep.Slices
import Derived.OpenShut
import Derived.Test.YtmaiggbnceejiaaGreatDoorProg
import Derived.WalkKit
import Derived.Lib.AppendStr
import Derived.Deep.RegionLaw
import Derived.Deep.AppendLies
import Derived.Deep.DeepCutAuto
import Derived.Maps.OwnSet
import Derived.Maps.AppendAt
import Derived.RegionTactic
import Derived.ChangeAlike
import Derived.Laws.IdiomCopy
import Derived.Deep.CutBlock
import Derived.Lib.SliceRun
set_option linter.unusedVariables false
set_option maxRecDepth 100000
set_option maxHeartbeats 16000000
namespace Go.Proofs.YtmaiggbnceejiaaGreatDoor
open Go.RowKit Go.Lib Go.Maps Go.ChangeShapes Go.WideShapes Go.Deep
structure ec where
 held:List de
 waits:List de
abbrev fy:=ByteArray->ec
def ec.bare(k:ec):Prop:=k.held=[]/\k.waits=[]
def jX(s:fy)(k:ByteArray)(x:ec):fy:=fun y=>if y=k then x else s y
def iv(k:ec)(c:de):ec × Bool × List Int × Int:=
 if iw k.waits c.tx≠0 then (k,false,[],9)
 else if c.mode<=iw k.held c.tx then (k,true,[],0)
 else if pc k.held k.waits c then ({ k with held:=jS k.held c },true,[],0)
 else if 50<=k.waits.length then (k,false,[],4)
 else ({ k with waits:=jS k.waits c },false,xO k.held c,0)
def vY(k:ec)(t:Int):Bool:=decide (iw k.held t≠0) || decide (iw k.waits t≠0)
def mC(k:ec)(t:Int):ec:=⟨(jO (kV k.held t) [] (kV k.waits t)).1,(jO (kV k.held t) [] (kV k.waits t)).2.1⟩
def iy(k:ec)(t:Int):List de:=(jO (kV k.held t) [] (kV k.waits t)).2.2
def gP(s:fy)(t:Int):fy:=fun k=>if vY (s k) t then mC (s k) t else s k
structure mu(k:ec):Prop where
 held:kZ k.held
 waits:kZ k.waits
 hmode:∀ c∈k.held,c.mode=1\/c.mode=2
 pn:∀ c∈k.waits,c.mode=1\/c.mode=2
 wants:∀ c∈k.waits,∀ o∈k.held,o.tx=c.tx->o.mode<c.mode
theorem mu.h0{k:ec}(h:mu k):∀ c∈k.held,c.mode≠0:=fun c hc=>by rcases h.hmode c hc with e | e <;> omega
theorem mu.w0{k:ec}(h:mu k):∀ c∈k.waits,c.mode≠0:=fun c hc=>by rcases h.pn c hc with e | e <;> omega
theorem mu.nil:mu ⟨[],[]⟩:=⟨List.Pairwise.nil,List.Pairwise.nil,by simp,by simp,by simp⟩
theorem yNz{k:ec}{c:de}(h:mu k)(hc:c.mode=1\/c.mode=2):mu (iv k c).1:=by
 unfold iv;split
 ·exact h
 rename_i g1;have g1':iw k.waits c.tx=0:=aS g1;split
 ·exact h
 rename_i g2;split
 ·refine ⟨EU h.held c,h.waits,fun o ho=>?_,h.pn,fun d hd o ho e=>?_⟩
  ·rcases (oC h.held c o).1 ho with rfl | ⟨ho,_⟩
   ·exact hc
   ·exact h.hmode o ho
  ·rcases (oC h.held c o).1 ho with rfl | ⟨ho,_⟩
   ·exact absurd e.symm ((GN h.waits h.w0).1 g1' d hd)
   ·exact h.wants d hd o ho e
 split
 ·exact h
 ·refine ⟨h.held,EU h.waits c,h.hmode,fun o ho=>?_,fun d hd o ho e=>?_⟩
  ·rcases (oC h.waits c o).1 ho with rfl | ⟨ho,_⟩
   ·exact hc
   ·exact h.pn o ho
  ·rcases (oC h.waits c d).1 hd with rfl | ⟨hd,_⟩
   ·have:=Jn h.held ho;rw [e] at this;omega
   ·exact h.wants d hd o ho e
theorem UX:∀ (q held kept:List de),kZ held->kZ (kept++q)->(∀ c∈kept++q,∀ o∈held,o.tx=c.tx->o.mode<c.mode)->∀ c∈(jO held kept q).2.1,∀ o∈(jO held kept q).1,o.tx=c.tx->o.mode<c.mode
 | [],held,kept,h1,h2,h3=>by simpa [jO] using h3
 | c :: q,held,kept,h1,h2,h3=>by
  unfold jO;split
  ·refine UX q (jS held c) kept (EU h1 c) (h2.sublist (by simp)) (fun d hd o ho e=>?_);rcases (oC h1 c o).1 ho with rfl | ⟨ho,_⟩
   ·exfalso;rcases aN.1 hd with q1 | q1
    ·have:=(bg.1 h2).2.2 d q1 o (by simp);omega
    ·have:=cN (bg.1 h2).2.1 q1;omega
   ·refine h3 d ?_ o ho e;rcases aN.1 hd with q1 | q1
    ·exact aN.2 (.inl q1)
    ·exact aN.2 (.inr (bS _ q1))
  ·exact UX q held (kept++[c]) h1 (by simpa using h2) (by simpa using h3)
theorem Gv{k:ec}(h:mu k)(t:Int):mu (mC k t):=by
 obtain ⟨h1,h2⟩:=UU (kV k.waits t) (kV k.held t) [] (EX h.held t) (by simpa using EX h.waits t);refine ⟨h1,h2,fun o ho=>?_,fun o ho=>?_,UX _ _ _ (EX h.held t) (by simpa using EX h.waits t) (fun c hc o ho=>h.wants c (by simp at hc;exact (pP.1 hc).1) o (pP.1 ho).1)⟩
 ·rcases (Bm _ _ _ o).1 ho with q | q
  ·exact h.hmode o (pP.1 q).1
  ·exact h.pn o (pP.1 q).1
 ·rcases (Bm _ _ _ o).2.1 ho with q | q
  ·simp at q
  ·exact h.pn o (pP.1 q).1
theorem JI{k:ec}(h:mu k)(t:Int):vY k t=true↔(∃ c∈k.held,c.tx=t)\/∃ c∈k.waits,c.tx=t:=by
 unfold vY;have e1:=GN h.held h.h0 (t:=t);have e2:=GN h.waits h.w0 (t:=t);simp only [br,decide_eq_true_iff,ne_eq,e1,e2];constructor
 ·rintro (q | q)
  ·left;exact aS fun n=>q (fun c hc e=>n ⟨c,hc,e⟩)
  ·right;exact aS fun n=>q (fun c hc e=>n ⟨c,hc,e⟩)
 ·rintro (⟨c,hc,e⟩ | ⟨c,hc,e⟩)
  ·exact .inl (fun q=>q c hc e)
  ·exact .inr (fun q=>q c hc e)
theorem yRs{k:ec}(t:Int):(∀ c∈(mC k t).held,c.tx≠t)/\∀ c∈(mC k t).waits,c.tx≠t:=by
 refine ⟨fun c hc=>?_,fun c hc=>?_⟩
 ·rcases (Bm _ _ _ c).1 hc with q | q
  ·exact (pP.1 q).2
  ·exact (pP.1 q).2
 ·rcases (Bm _ _ _ c).2.1 hc with q | q
  ·simp at q
  ·exact (pP.1 q).2
theorem yHj{s:fy}{k:ByteArray}(h:mu (s k))(t:Int):(∀ c∈(gP s t k).held,c.tx≠t)/\∀ c∈(gP s t k).waits,c.tx≠t:=by
 unfold gP;split
 ·exact yRs t
 ·rename_i q;have:=mt (JI h t).2 q;exact ⟨fun c hc e=>this (.inl ⟨c,hc,e⟩),fun c hc e=>this (.inr ⟨c,hc,e⟩)⟩
def Kb(P:List ByteArray)(k:ByteArray):Bool:=P.any fun y=>decide (y=k)
theorem Li{P:List ByteArray}{k:ByteArray}:Kb P k=true↔k∈P:=by
 unfold Kb;rw [cU];constructor
 ·rintro ⟨y,hy,e⟩;simp only [decide_eq_true_iff] at e;rw [<-e];exact hy
 ·exact fun h=>⟨k,h,by simp⟩
structure qP(W:List Int)(k:ec):Prop where
 ok:mu k
 alone:∀ a∈k.held,∀ b∈k.held,kU a b=false
 stuck:∀ c∈k.waits,pc k.held k.waits c=false
 elder:∀ c∈k.waits,∀ a∈k.held,kU a c=true->a.tx<c.tx\/a.tx∈W
theorem Tf(a b:de):kU a b=kU b a:=by
 unfold kU;rw [show decide (a.tx≠b.tx)=decide (b.tx≠a.tx) by simp only [ne_eq,eq_comm],Bool.or_comm]
theorem yQp(a:de):kU a a=false:=by simp [kU]
theorem Tg{a b:de}(h:a.tx=b.tx):kU a b=false:=by simp [kU,h]
theorem qP.nil(W:List Int):qP W ⟨[],[]⟩:=⟨mu.nil,by simp,by simp,by simp⟩
theorem Qs{held waits:List de}{c:de}:pc held waits c=true↔(∀ o∈held,kU o c=false)/\∀ o∈waits,o.tx<c.tx->kU o c=false:=by
 unfold pc;simp only [bT,Bool.not_eq_true',List.any_eq_false,Bool.not_eq_true,decide_eq_true_iff];constructor
 ·rintro ⟨h1,h2⟩;refine ⟨h1,fun o ho hl=>?_⟩
  cases hi:kU o c with
  | false=>rfl
  | true=>exact absurd ⟨hl,hi⟩ (h2 o ho)
 ·rintro ⟨h1,h2⟩;refine ⟨h1,fun o ho hl=>?_⟩;have:=h2 o ho hl.1;rw [hl.2] at this;cases this
theorem yQq{a b c:de}(ht:a.tx=b.tx)(hm:a.mode=2->b.mode=2)(h:kU a c=true):kU b c=true:=by
 unfold kU at *;simp only [bT,br,decide_eq_true_iff] at *;exact ⟨by rw [<-ht];exact h.1,h.2.imp hm id⟩
def Over(h h':List de):Prop:=∀ a∈h,∃ b∈h',a.tx=b.tx/\(a.mode=2->b.mode=2)
theorem Over.refl(h:List de):Over h h:=fun a ha=>⟨a,ha,rfl,id⟩
theorem Over.trans{a b c:List de}(h:Over a b)(k:Over b c):Over a c:=fun x hx=>by
 obtain ⟨y,hy,e1,e2⟩:=h x hx;obtain ⟨z,hz,e3,e4⟩:=k y hy;exact ⟨z,hz,e1.trans e3,fun e=>e4 (e2 e)⟩
theorem RG{held:List de}(hr:kZ held){c:de}(hc:c.mode=1\/c.mode=2)(hup:∀ o∈held,o.tx=c.tx->o.mode=2->c.mode=2):Over held (jS held c):=fun a ha=>by
 by_cases e:a.tx=c.tx
 ·exact ⟨c,(oC hr c c).2 (.inl rfl),e,hup a ha e⟩
 ·exact ⟨a,(oC hr c a).2 (.inr ⟨ha,e⟩),rfl,id⟩
theorem KK{held held' waits uq:List de}{c:de}(h:pc held waits c=false)(ho:Over held held')(hw:∀ o∈waits,o.tx<c.tx->o∈uq):pc held' uq c=false:=by
 cases hf:pc held' uq c with
 | false=>rfl
 | true=>
  exfalso;obtain ⟨h1,h2⟩:=Qs.1 hf;have:pc held waits c=true:=Qs.2 ⟨fun o XP=>?_,fun o XP hl=>h2 o (hw o XP hl) hl⟩
  ·rw [h] at this;cases this
  ·cases hi:kU o c with
   | false=>rfl
   | true=>
    obtain ⟨b,hb,e1,e2⟩:=ho o XP;have:=yQq e1 e2 hi;rw [h1 b hb] at this;cases this
theorem zXy{W:List Int}{held waits:List de}{c:de}(hr:kZ held)(ha:∀ a∈held,∀ b∈held,kU a b=false)(hf:∀ o∈held,kU o c=false):∀ a∈jS held c,∀ b∈jS held c,kU a b=false:=fun a h1 b h2=>by
 rcases (oC hr c a).1 h1 with rfl | ⟨h1',_⟩
 ·rcases (oC hr a b).1 h2 with rfl | ⟨h2,_⟩
  ·exact yQp _
  ·rw [Tf];exact hf b h2
 ·rcases (oC hr c b).1 h2 with rfl | ⟨h2,_⟩
  ·exact hf a h1'
  ·exact ha a h1' b h2
theorem UT(W:List Int):∀ (q held kept:List de),kZ held->kZ (kept++q)->(∀ c∈held,c.mode=1\/c.mode=2)->(∀ c∈kept++q,c.mode=1\/c.mode=2) ->
  (∀ a∈held,∀ b∈held,kU a b=false)->(∀ c∈kept,pc held kept c=false)->(∀ c∈kept++q,∀ a∈held,kU a c=true->a.tx<c.tx\/a.tx∈W)->(∀ c∈kept++q,∀ o∈held,o.tx=c.tx->o.mode<c.mode) ->
  qP W ⟨(jO held kept q).1,(jO held kept q).2.1⟩
 | [],held,kept,h1,h2,h3,h4,h5,h6,h7,h8=>by
  simp only [cW] at *;exact ⟨⟨h1,h2,h3,h4,h8⟩,h5,h6,h7⟩
 | c :: q,held,kept,h1,h2,h3,h4,h5,h6,h7,h8=>by
  have hcm:=h4 c (by simp);unfold jO;split
  ·rename_i hf;obtain ⟨f1,f2⟩:=Qs.1 hf;have hlt:∀ o∈kept,o.tx<c.tx:=fun o ho=>(bg.1 h2).2.2 o ho c (by simp);have hgt:∀ o∈q,c.tx<o.tx:=fun o ho=>cN (bg.1 h2).2.1 ho;have hin:∀ o,o∈kept++q->o∈kept++c :: q:=fun o ho=>by
    rcases aN.1 ho with e | e
    ·exact aN.2 (.inl e)
    ·exact aN.2 (.inr (bS _ e))
   have hov:Over held (jS held c):=RG h1 hcm (fun o ho e e2=>by have:=h8 c (by simp) o ho e;omega);refine UT W q (jS held c) kept (EU h1 c) (h2.sublist (by simp)) (fun o ho=>?_) (fun o ho=>h4 o (hin o ho)) (zXy (W:=W) (waits:=[]) h1 h5 f1) (fun o ho=>KK (h6 o ho) hov (fun _ h _=>h)) (fun o ho a ha hw=>?_) (fun o ho a ha e=>?_)
   ·rcases (oC h1 c o).1 ho with rfl | ⟨ho,_⟩
    ·exact hcm
    ·exact h3 o ho
   ·rcases (oC h1 c a).1 ha with rfl | ⟨ha,_⟩
    ·rcases aN.1 ho with e | e
     ·rw [Tf,f2 o e (hlt o e)] at hw;cases hw
     ·exact .inl (hgt o e)
    ·exact h7 o (hin o ho) a ha hw
   ·rcases (oC h1 c a).1 ha with rfl | ⟨ha,_⟩
    ·exfalso;rcases aN.1 ho with q1 | q1
     ·have:=hlt o q1;omega
     ·have:=hgt o q1;omega
    ·exact h8 o (hin o ho) a ha e
  ·rename_i hf;simp only [Bool.not_eq_true] at hf;have Om:kept++c :: q=kept++[c]++q:=by simp
   rw [Om] at h2 h4 h7 h8;have hlt:∀ o∈kept,o.tx<c.tx:=fun o ho=>(bg.1 (bg.1 h2).1).2.2 o ho c (by simp);refine UT W q held (kept++[c]) h1 h2 h3 h4 h5 (fun o ho=>?_) h7 h8;rcases aN.1 ho with e | e
   ·exact KK (h6 o e) (Over.refl _) (fun x hx _=>aN.2 (.inl hx))
   ·simp at e;subst e;exact KK hf (Over.refl _) (fun x hx _=>aN.2 (.inl hx))
theorem yQe{W:List Int}{k:ec}(h:qP W k)(t:Int):qP W (mC k t):=by
 refine UT W _ _ _ (EX h.ok.held t) (by simpa using EX h.ok.waits t) (fun c hc=>h.ok.hmode c (pP.1 hc).1) (fun c hc=>h.ok.pn c ?_) (fun a ha b hb=>h.alone a (pP.1 ha).1 b (pP.1 hb).1) (by simp) (fun c hc a ha=>h.elder c ?_ a (pP.1 ha).1) (fun c hc a ha=>h.ok.wants c ?_ a (pP.1 ha).1)
 ·simp at hc;exact (pP.1 hc).1
 ·simp at hc;exact (pP.1 hc).1
 ·simp at hc;exact (pP.1 hc).1
theorem qP.less{W:List Int}{k:ec}{t:Int}(h:qP (t :: W) k)(hg:∀ c∈k.held,c.tx≠t):qP W k:=
 ⟨h.ok,h.alone,h.stuck,fun c hc a ha hw=>(h.elder c hc a ha hw).imp id (fun e=>(bV.1 e).resolve_left (hg a ha))⟩
theorem yLn{W:List Int}{k:ec}{c:de}(h:qP W k)(hc:c.mode=1\/c.mode=2):qP ((iv k c).2.2.1++W) (iv k c).1/\(∀ x∈(iv k c).2.2.1,c.tx<x):=by
 have hok:=yNz h.ok hc;revert hok;unfold iv;split
 ·exact fun _=>⟨by simpa using h,by simp⟩
 rename_i g1;have g1':iw k.waits c.tx=0:=aS g1;have g1'':=(GN h.ok.waits h.ok.w0).1 g1';split
 ·exact fun _=>⟨by simpa using h,by simp⟩
 rename_i g2;have g2':∀ o∈k.held,o.tx=c.tx->o.mode<c.mode:=fun o ho e=>by
  have:=Jn h.ok.held ho;rw [e] at this;omega
 split
 ·rename_i hf;obtain ⟨f1,f2⟩:=Qs.1 hf;intro hok;have hov:Over k.held (jS k.held c):=RG h.ok.held hc (fun o ho e e2=>by have:=g2' o ho e;omega);refine ⟨⟨hok,zXy (W:=W) (waits:=[]) h.ok.held h.alone f1,fun d hd=>KK (h.stuck d hd) hov (fun _ h _=>h),fun d hd a ha hw=>?_⟩,by simp⟩;rcases (oC h.ok.held c a).1 ha with rfl | ⟨ha,_⟩
  ·left;rcases Int.lt_trichotomy a.tx d.tx with q | q | q
   ·exact q
   ·rw [Tg q] at hw;cases hw
   ·rw [Tf,f2 d hd q] at hw;cases hw
  ·exact (h.elder d hd a ha hw).imp id (fun e=>by simpa using e)
 rename_i hf;simp only [Bool.not_eq_true] at hf;split
 ·exact fun _=>⟨by simpa using h,by simp⟩
 ·intro hok;have hwd:∀ x,x∈xO k.held c↔∃ o∈k.held,o.tx=x/\c.tx<x/\kU o c=true:=fun x=>by
   unfold xO EJ;simp only [af,bE,Bool.not_or,Bool.not_not,bT,Bool.not_eq_true',bw];constructor
   ·rintro ⟨o,⟨h1,h2,h3⟩,rfl⟩;refine ⟨o,h1,rfl,?_,h3⟩;have:o.tx≠c.tx:=fun e=>by rw [Tg e] at h3;cases h3
    omega
   ·rintro ⟨o,h1,rfl,h2,h3⟩;exact ⟨o,⟨h1,by omega,h3⟩,rfl⟩
  refine ⟨⟨hok,h.alone,fun d hd=>?_,fun d hd a ha hw=>?_⟩,fun x hx=>?_⟩
  ·rcases (oC h.ok.waits c d).1 hd with rfl | ⟨hd,_⟩
   ·exact KK hf (Over.refl _) (fun x hx _=>(oC h.ok.waits d x).2 (.inr ⟨hx,g1'' x hx⟩))
   ·exact KK (h.stuck d hd) (Over.refl _) (fun x hx _=>(oC h.ok.waits c x).2 (.inr ⟨hx,g1'' x hx⟩))
  ·rcases (oC h.ok.waits c d).1 hd with rfl | ⟨hd,_⟩
   ·rcases Int.lt_trichotomy a.tx d.tx with q | q | q
    ·exact .inl q
    ·rw [Tg q] at hw;cases hw
    ·exact .inr (aN.2 (.inl ((hwd a.tx).2 ⟨a,ha,rfl,q,hw⟩)))
   ·exact (h.elder d hd a ha hw).imp id (fun e=>aN.2 (.inr e))
  ·obtain ⟨o,_,_,q,_⟩:=(hwd x).1 hx;exact q
theorem qP.more{W W':List Int}{k:ec}(h:qP W k)(hs:∀ x∈W,x∈W'):qP W' k:=
 ⟨h.ok,h.alone,h.stuck,fun c hc a ha hw=>(h.elder c hc a ha hw).imp id (hs _)⟩
theorem yQd{W:List Int}{s:fy}{t:Int}(h:∀ k,qP (t :: W) (s k)):∀ k,qP W (gP s t k):=fun k=>by
 have hg:=(yHj (h k).ok t).1;refine qP.less (t:=t) ?_ hg;unfold gP;split
 ·exact yQe (h k) t
 ·exact h k
structure jG where
 nodes:List eK
 heard:Nat
structure jR where
 state:Int
 ats:List Int
 writes:List fQ
 time:Int
structure dX where
 lines:List jG
 dead:List Int
 net:fC
 keys:fy
 dW:List jR
def dX.line(h:dX)(k:Nat):jG:=h.lines.getD k ⟨[],0⟩
def dX.tx(h:dX)(id:Nat):jR:=h.dW.getD (id - 1) ⟨0,[],[],0⟩
def du(h:dX):Nat:=h.lines.length - 1
def WK(key:ByteArray):Nat:=key.toList.foldl (fun a b=>a+b.toNat) 0
def ee(h:dX)(key:ByteArray):Nat:=WK key % du h
def gS(h:dX)(n:eK):Bool:=!(decide (n.id∈h.dead))
def fa(h:dX)(k:Nat):List eK:=(h.line k).nodes.filter (gS h)
def uX(h:dX)(k:Nat):Option eK:=match (h.line k).nodes with
 | []=>none
 | n :: _=>if gS h n then some n else none
def rn(h:dX)(k:Nat)(l:jG):dX:={ h with lines:=h.lines.set k l }
def ld(h:dX)(k j:Nat)(n:eK):dX:=rn h k ⟨(h.line k).nodes.set j n,(h.line k).heard⟩
def db(h:dX)(id:Nat)(t:jR):dX:={ h with dW:=h.dW.set (id - 1) t }
def sg(h:dX)(ms:List dw):dX:={ h with net:=ly h.net ms }
def xg(h:dX)(id:Int):Bool:=decide (1<=id) && decide (id<=(h.dW.length:Int))
def jU(h:dX)(id:Int):Int:=if xg h id then (h.tx id.toNat).state else 0
def pL(h:dX)(id:Int):Int:=if jU h id=0 then 7 else if jU h id=1 then 0 else 6
def nu(h:dX)(id:Int)(key:ByteArray):Int:=
 if pL h id≠0 then pL h id else if 20<key.size then 4 else if (uX h (ee h key)).isNone then 12 else 0
def oO(h:dX)(id:Int)(key:ByteArray):List Int:=
 ((List.range h.dW.length).map fun (i:Nat)=>(i:Int)+1).filter fun o=>decide (o≠id) && decide (iw (h.keys key).held o≠0)
def oo(h:dX)(id:Int)(key:ByteArray):Bool:=!((oO h id key).any fun o=>decide (o<id) || decide ((h.tx o.toNat).state≠1))
def oq(h:dX)(id:Nat)(st:Int):dX:={ db h id { h.tx id with state:=st,writes:=[] } with keys:=gP h.keys id }
def gi(h:dX)(id:Nat):dX:=
 oq (if (h.tx id).state=1 then db h id { h.tx id with ats:=(h.tx id).ats.map fun _=>0 } else h) id 4
def jV(h:dX)(ids:List Int):dX:=ids.foldl (fun h i=>if (h.tx i.toNat).state=1 then gi h i.toNat else h) h
def ix(h:dX)(id:Int)(key:ByteArray)(mode:Int):dX × List Int × Int:=
 ({ h with keys:=jX h.keys key (iv (h.keys key) ⟨id,mode⟩).1 },(iv (h.keys key) ⟨id,mode⟩).2.2.1,(iv (h.keys key) ⟨id,mode⟩).2.2.2)
def jT(h:dX)(id:Int)(key:ByteArray)(mode:Int):dX × List Int × Int:=
 let a:=ix h id key mode
 if a.2.2=4/\oo a.1 id key=true then ix (jV a.1 (oO a.1 id key)) id key mode else a
def nC(h:dX)(id k:Nat):dX:=db h id { h.tx id with ats:=(h.tx id).ats.set k 1 }
def gV(h:dX)(id:Int)(key:ByteArray)(mode:Int):dX × Int:=
 let a:=jT h id key mode
 if a.2.2=9 then (a.1,11) else if a.2.2=4 then (a.1,4) else
  let b:=jV (nC a.1 id.toNat (ee a.1 key)) a.2.1
  (b,if iw (b.keys key).held id<mode then 11 else 0)
def kp(log:List dv)(kind tx:Int):Option Nat:=log.findIdx? fun c=>decide (c.kind=kind) && decide (c.tx=tx)
def pQ(log:List dv):List fQ:=(log.reverse.filter fun c=>decide (c.kind=3)).flatMap fun c=>((log.getD ((kp log 2 c.tx).getD 0) uf).writes).reverse
def Eu(t:jR)(log:List dv):List fQ:=t.writes.reverse++pQ log
def Gf(t:jR)(log:List dv)(key:ByteArray):ByteArray × Bool:=match (Eu t log).find? fun p=>decide (p.key=key) with
 | none=>(ByteArray.empty,false)
 | some p=>if p.gone then (ByteArray.empty,false) else (p.val,true)
def fH(h:dX)(id:Int)(key:ByteArray):dX × ByteArray × Bool × Int:=
 if nu h id key≠0 then (h,ByteArray.empty,false,nu h id key) else
  let a:=gV h id key 1
  if a.2≠0 then (a.1,ByteArray.empty,false,a.2) else
   let v:=Gf (a.1.tx id.toNat) (((h.line (ee h key)).nodes.getD 0 ⟨0,0,[],[],0⟩).log) key
   (a.1,v.1,v.2,0)
def uI(t:jR)(key:ByteArray):Option Nat:=t.writes.findIdx? fun p=>decide (p.key=key)
def uC(t:jR)(key:ByteArray):Bool:=decide (20<=t.writes.length) && (uI t key).isNone
def ni(t:jR)(p:fQ):jR:=match uI t p.key with
 | some n=>{ t with writes:=t.writes.set n p }
 | none=>{ t with writes:=t.writes++[p] }
def fG(h:dX)(id:Int)(p:fQ):dX × Int:=
 if 40<p.val.size then (h,4) else if nu h id p.key≠0 then (h,nu h id p.key)
 else if uC (h.tx id.toNat) p.key && oo h id p.key then (h,4)
 else
  let a:=gV h id p.key 2
  if a.2≠0 then a else (db a.1 id.toNat (ni (a.1.tx id.toNat) p),0)
def uM(h:dX)(t:jR)(k:Nat):List fQ:=t.writes.filter fun p=>decide (ee h p.key=k)
def ue(t:jR):Bool:=!(decide ((1:Int)∈t.ats))
def fX(h:dX)(id k:Nat)(time:Int):Option dv:=
 let t:=h.tx id
 if k=du h then (if t.state=2/\ue t=true then some ⟨3,id,time,[]⟩ else none)
 else if t.ats.getD k 0=0 then none
 else if t.state=2 then some ⟨2,id,0,uM h t k⟩
 else if t.state=3 then some ⟨3,id,t.time,[]⟩
 else if t.state=4 then some ⟨4,id,0,[]⟩
 else none
def tf(n:eK)(c:dv):eK × List dw:=if mW n && decide (n.log.length<500) then mw n c else (n,[])
def eE(h:dX)(k:Nat):eK:=(h.line k).nodes.getD 0 ⟨0,0,[],[],0⟩
def mn(h:dX)(k:Nat)(c:dv):dX:=sg (ld h k 0 (tf (eE h k) c).1) (tf (eE h k) c).2
def gB(h:dX)(k:Nat)(log:List dv)(id:Nat):dX:=match fX h id k ((eE h k).log.length+1) with
 | none=>h
 | some c=>if (kp log c.kind id).isNone then mn h k c else h
def eR(h:dX)(k:Nat):dX:=match uX h k with
 | none=>h
 | some n=>((List.range h.dW.length).map (·+1)).foldl (fun h id=>gB h k n.log id) h
def kM(h:dX):dX:=(List.range h.lines.length).foldl eR h
def qd(h:dX)(k:Nat):eK:=(h.line k).nodes.getLastD ⟨0,0,[],[],0⟩
def lx(h:dX)(k:Nat):List dv:=(qd h k).log.drop (h.line k).heard
def lz(h:dX)(k:Nat)(c:dv):dX:=
 if k=du h then oq (db h c.tx.toNat { h.tx c.tx.toNat with time:=c.time }) c.tx.toNat 3
 else if c.kind=2 then db h c.tx.toNat { h.tx c.tx.toNat with ats:=(h.tx c.tx.toNat).ats.set k 2 }
 else h
def ot(k:Nat)(h:dX)(c:dv):dX:=rn (lz h k c) k ⟨((lz h k c).line k).nodes,((lz h k c).line k).heard+1⟩
def il(h:dX)(k:Nat):dX:=(lx h k).foldl (ot k) h
def oh(h:dX):dX:=(List.range h.lines.length).foldl il h
def qe(h:dX):Bool:=(List.range h.lines.length).any fun k=>!(lx h k).isEmpty
def fA:Nat->dX->dX
 | 0,h=>h
 | n+1,h=>if qe h then fA n (kM (oh h)) else h
def oB(h:dX):dX:=fA (500*h.lines.length+1) h
open Classical in
noncomputable def Cg(h:dX)(id:Int):Bool:=decide (∃ k,(h.keys k).waits.any (fun c=>decide (c.tx=id))=true)
noncomputable def iT(h:dX)(id:Int):dX × Int:=
 if pL h id≠0 then (h,pL h id) else if Cg h id then (h,11)
 else (oB (kM (db h id.toNat { h.tx id.toNat with state:=2 })),0)
def qQ(h:dX)(id:Int):dX × Int:=if pL h id≠0 then (h,pL h id) else (gi h id.toNat,0)
def Bc(h:dX)(ns:List eK)(id:Int):Option Nat:=ns.findIdx? fun n=>gS h n && decide (n.id=id)
def yZ(h:dX)(id:Int):Nat->List jG->Option (Nat × Nat)
 | _,[]=>none
 | k,l :: ls=>match Bc h l.nodes id with
  | some j=>some (k,j)
  | none=>yZ h id (k+1) ls
def pK(h:dX)(id:Int):Option (Nat × Nat):=yZ h id 0 h.lines
def fP(h:dX)(k j:Nat):eK:=(h.line k).nodes.getD j ⟨0,0,[],[],0⟩
def nx(h:dX)(k j:Nat)(m:dw):dX:=sg (ld h k j (jP (fP h k j) m).1) (jP (fP h k j) m).2
def fz(h:dX)(k:Nat):dX:={ h with net:=VF h.net k }
def lk(h:dX)(k:Nat):dX:=match h.net.way[k]? with
 | none=>h
 | some m=>match pK h m.to with
  | none=>fz h k
  | some (kk,j)=>oB (nx (fz h k) kk j m)
def fK(k:Nat)(h:dX)(j:Nat):dX:=if gS h (fP h k j) then sg (ld h k j (kz (fP h k j)).1) (kz (fP h k j)).2 else h
def eU(h:dX)(k:Nat):dX:=(List.range (h.line k).nodes.length).foldl (fK k) h
def lZ(h:dX):dX:=(List.range h.lines.length).foldl eU h
def rO(h:dX):Nat:=((List.range h.lines.length).map fun k=>((fa h k).map fun n=>n.log.length).sum).sum
def nz(l:jG):Int:=(l.nodes.getD 0 ⟨0,0,[],[],0⟩).dk+1
def mZ(l:jG):jG × List dw:=
 (⟨l.nodes.map fun n=>(kz (jL n (nz l) (l.nodes.map (·.id)))).1,l.heard⟩,l.nodes.flatMap fun n=>(kz (jL n (nz l) (l.nodes.map (·.id)))).2)
def kc(h:dX)(k i:Nat):Bool:=
 let t:=h.tx (i+1)
 decide (t.ats.getD k 0≠0) && (decide (t.state=1) || (decide (t.state=2) && (kp (eE h k).log 2 ((i:Int)+1)).isNone))
def sV(h:dX)(k:Nat):dX:=(List.range h.dW.length).foldl (fun h i=>if kc h k i then gi h (i+1) else h) h
def eW(h:dX)(k:Nat):dX:=
 if (fa h k).length=0\/(fa h k).length=(h.line k).nodes.length then h
 else sV (sg (rn h k (mZ ⟨fa h k,(h.line k).heard⟩).1) (mZ ⟨fa h k,(h.line k).heard⟩).2) k
def mL(h:dX):dX:=oB (kM ((List.range h.lines.length).foldl eW h))
def pZ(h:dX)(id:Int):dX × Int:=if (pK h id).isNone then (h,7) else ({ h with dead:=h.dead++[id],net:=Ef h.net id },0)
def Lj(id:Int):eK:=⟨id,0,[],[],0⟩
def oD(k nodes:Nat):jG × List dw:=mZ ⟨(List.range nodes).map fun (i:Nat)=>Lj (10*(k:Int)+(i:Int)),0⟩
def gY(nodes:Nat):Nat->dX
 | 0=>⟨[],[],⟨[],0,[]⟩,fun _=>⟨[],[]⟩,[]⟩
 | k+1=>let h:=gY nodes k;{ h with lines:=h.lines++[(oD k nodes).1],net:=ly h.net (oD k nodes).2 }
def fq(shards nodes:Nat):dX:=gY nodes (shards+1)
def nf(h:dX):dX:={ h with dW:=h.dW++[⟨1,List.replicate h.lines.length 0,[],0⟩] }
def fV{α:Type}(w:World)(L sz:Nat)(R:α->List Value->Prop)(v:Value)(ds:List α):Prop:=
 ∃ a cap,v=.slice a ds.length cap/\ds.length<=cap/\cap<=maxLen /\
  (ds=[]\/∃ b off,a=some ⟨b,off,none⟩/\b<L/\∀ (i:Nat) d,ds[i]?=some d->∃ cs,R d cs/\cs.length=sz/\∀ (j:Nat) x,cs[j]?=some x->w.cell? ⟨b,off+i*sz+j,none⟩=some x)
theorem fV.mod{α:Type}{G:Nat->Prop}{w w':World}{L sz:Nat}{R R':α->List Value->Prop}{v:Value}{ds:List α}(h:fV w L sz R v ds)(hm:Mod G w w')(hG:∀ k,k<L->¬ G k)(hR:∀ d cs,R d cs->R' d cs):fV w' L sz R' v ds:=by
 obtain ⟨a,cap,h1,h2,h3,h4⟩:=h;refine ⟨a,cap,h1,h2,h3,?_⟩;rcases h4 with h4 | ⟨b,off,h5,h6,h7⟩
 ·exact .inl h4
 ·refine .inr ⟨b,off,h5,h6,fun i d hi=>?_⟩;obtain ⟨cs,k1,k2,k3⟩:=h7 i d hi;exact ⟨cs,hR d cs k1,k2,fun j x hx=>hm.cell (k3 j x hx) (hG b h6)⟩
theorem fV.slice{α:Type}{w:World}{L sz:Nat}{R:α->List Value->Prop}{v:Value}{ds:List α}(h:fV w L sz R v ds):∃ a cap,v=.slice a ds.length cap/\ds.length<=cap/\cap<=maxLen:=by
 obtain ⟨a,cap,h1,h2,h3,_⟩:=h;exact ⟨a,cap,h1,h2,h3⟩
theorem fV.at{α:Type}{w:World}{L sz:Nat}{R:α->List Value->Prop}{a:Option Addr}{n cap:Nat}{ds:List α}(h:fV w L sz R (.slice a n cap) ds){i:Nat}{d:α}(hi:ds[i]?=some d) :
  ∃ b off cs,a=some ⟨b,off,none⟩/\b<L/\R d cs/\cs.length=sz/\∀ (j:Nat) x,cs[j]?=some x->w.cell? ⟨b,off+i*sz+j,none⟩=some x:=by
 obtain ⟨a',cap',h1,_,_,h4⟩:=h;simp only [Value.slice.injEq] at h1;obtain ⟨rfl,_,_⟩:=h1;rcases h4 with rfl | ⟨b,off,h5,h6,h7⟩
 ·simp at hi
 ·obtain ⟨cs,k1,k2,k3⟩:=h7 i d hi;exact ⟨b,off,cs,h5,h6,k1,k2,k3⟩
theorem fV.nil{α:Type}(w:World)(L sz:Nat)(R:α->List Value->Prop):fV w L sz R (.slice none 0 0) []:=⟨none,0,rfl,aF _,aT _,.inl rfl⟩
section
variable {H:Type} {enc:TypeId × Value->H} {P:Program} {w:World} {base:Nat} {spare:Nat->Bool} {held:Bool}
theorem sl_plain{a:Addr}{v:Value}(h:w.cell? (a.add 0)=some v):∃ b off,a=⟨b,off,none⟩:=by
 obtain ⟨b,off,spot⟩:=a;have hs:spot=none:=by simpa [Addr.add] using World.cell?_spot h
 exact ⟨b,off,by rw [hs]⟩
theorem open_slR{α:Type}[Inhabited α]{tS tE:TypeId}{sz:Nat}{R:α->List Value->Prop}(hS:P.underlying tS=some (.slice tE))(hc:P.cellsOf tE=sz)(hz:0<sz)
  (hE:∀ (n:Nat) (cs:List Value) (x:DataW H × List MemPlace),DataW.trod enc P w base spare held n tE cs=some x->∃ d,R d cs)
  {fuel:Nat} {v:Value} {x:DataW H × List MemPlace} (h:DataW.trod enc P w base spare held fuel tS [v]=some x):∃ ds,fV w w.heap.size sz R v ds:=by
 rcases open_slice hS h with ⟨hcs,rfl⟩ | ⟨a,len,cap,m,n,D,Pl,hcs,hb,hl,hm,hmm,rfl,hx⟩
 ·simp only [List.cons.injEq,and_true] at hcs;subst hcs;exact ⟨[],fV.nil _ _ _ _⟩
 ·simp only [List.cons.injEq,and_true] at hcs;subst hcs;have hlm:len<=m:=by rw [hmm];split <;> omega
  rw [hc] at hx;obtain ⟨f,hf⟩:=choose_lt (α:=α) (p:=fun i d=>∃ cs,R d cs/\cs.length=sz/\∀ (j:Nat) y,cs[j]?=some y->w.cell? (a.add (i*sz+j))=some y) (n:=len) (fun i hi=>by
   obtain ⟨cs',h1,h2⟩:=hx i (by omega);obtain ⟨d,hd⟩:=hE n cs' _ h2;obtain ⟨_,hlen,h4⟩:=World.cells?_some h1;refine ⟨d,cs',hd,hlen,fun j y hy=>?_⟩;have hj:j<cs'.length:=(aB.1 hy).1;have:=h4 j (by omega);rw [add_add] at this;rw [this];simpa using hy)
  refine ⟨(List.range len).map f,some a,cap,by simp,by simpa using hl,hm,?_⟩;by_cases h0:len=0
  ·subst h0;exact .inl rfl
  ·right;obtain ⟨cs0,_,hl0,hc0⟩:=hf 0 (by omega);obtain ⟨y0,hy0⟩:∃ y,cs0[0]?=some y:=⟨_,aA (by omega)⟩;have hy:=hc0 0 y0 hy0;rw [cg,aX] at hy;obtain ⟨b,off,rfl⟩:=sl_plain hy;refine ⟨b,off,rfl,World.block_lt_of_cell? w _ (by rw [add_plain] at hy;exact hy),fun i d hd=>?_⟩;have hi:i<len:=by
    have:=(aB.1 hd).1;simpa using this
   have Xz:d=f i:=by
    rw [aa,cq hi] at hd;simpa using hd.symm
   subst Xz;obtain ⟨cs,k1,k2,k3⟩:=hf i hi;refine ⟨cs,k1,k2,fun j y hj=>?_⟩;have:=k3 j y hj;rw [add_plain] at this;rw [cY];exact this
end
theorem dV{p:Prop}(h:p):Hid p:=h
def ZE(d:de)(cs:List Value):Prop:=cs=[.int .i64 d.tx,.int .i64 d.mode]
def vw(w:World)(L:Nat)(v:Value)(l:List de):Prop:=fV w L 2 ZE v l
theorem vw.mod{G:Nat->Prop}{w w':World}{L:Nat}{v:Value}{l:List de}(h:vw w L v l)(hm:Mod G w w')(hG:∀ k,k<L->¬ G k):vw w' L v l:=fV.mod h hm hG (fun _ _ h=>h)
theorem vw.at{w:World}{L:Nat}{a:Option Addr}{n cap:Nat}{l:List de}(h:vw w L (.slice a n cap) l){i:Nat}{d:de}(hi:l[i]?=some d) :
  ∃ b off,a=some ⟨b,off,none⟩/\b<L/\w.cell? ⟨b,off+i*2,none⟩=some (.int .i64 d.tx)/\w.cell? ⟨b,off+i*2+1,none⟩=some (.int .i64 d.mode):=by
 obtain ⟨b,off,cs,h1,h2,rfl,_,h5⟩:=fV.at h hi;exact ⟨b,off,h1,h2,by have:=h5 0 _ rfl;simpa using this,h5 1 _ rfl⟩
def qH(x y:Int):Int:=if x<y then -1 else if x > y then 1 else 0
theorem yCg(x:Int)(w:World):Calls Tryz.prog 180 #[.int .i64 x] w fun e w'=>e=.returned (.bool false)/\w'=w:=by
 go_enter Tryz.func180,Tryz.ntmps180;go_wp2_with fail;go_ret;exact ⟨by simp,rfl⟩
theorem yTp(x y:Int)(w:World):Calls Tryz.prog 170 #[.int .i64 x,.int .i64 y] w fun e w'=>e=.returned (.int .i64 (qH x y))/\w'=w:=by
 have H1:=dV (yCg x w);have H2:=dV (yCg y w);have HC:Hid (qH x y=if x<y then -1 else if x > y then 1 else 0):=rfl;generalize qH x y=z at HC;by_cases h1:x<y
 ·have hz:z = -1:=by rw [HC.out,aP h1]
  subst hz;clear HC;go_enter Tryz.func170,Tryz.ntmps170;go_wp2_with fail;refine H1.out.mono ?_;rintro e w1 ⟨rfl,rfl⟩;go_wp2_with fail;refine H2.out.mono ?_;rintro e w1 ⟨rfl,rfl⟩;go_wp2_with fail;go_ret;exact ⟨rfl,rfl⟩
 ·by_cases h2:x > y
  ·have hz:z=1:=by rw [HC.out,aK h1,aP h2]
   subst hz;clear HC;go_enter Tryz.func170,Tryz.ntmps170;go_wp2_with fail;refine H1.out.mono ?_;rintro e w1 ⟨rfl,rfl⟩;go_wp2_with fail;refine H2.out.mono ?_;rintro e w1 ⟨rfl,rfl⟩;go_wp2_with fail;go_ret;exact ⟨rfl,rfl⟩
  ·have hz:z=0:=by rw [HC.out,aK h1,aK h2]
   subst hz;clear HC;go_enter Tryz.func170,Tryz.ntmps170;go_wp2_with fail;refine H1.out.mono ?_;rintro e w1 ⟨rfl,rfl⟩;go_wp2_with fail;refine H2.out.mono ?_;rintro e w1 ⟨rfl,rfl⟩;go_wp2_with fail;go_ret;exact ⟨rfl,rfl⟩
theorem zWx(d:de)(t:Int)(w:World):Calls Tryz.prog 169 #[.agg #[.int .i64 d.tx,.int .i64 d.mode],.int .i64 t] w fun e w'=>e=.returned (.int .i64 (qH d.tx t))/\Mod dZ w w':=by
 have HC:=fun w'=>yTp d.tx t w';have HM:Hid (Mod dZ w (w.alloc (.cells #[.int .i64 d.tx,.int .i64 d.mode] 170))):=(Mod.refl _ w).alloc _;go_enter Tryz.func169,Tryz.ntmps169;go_wp2_with fail;refine (HC _).mono ?_;rintro e w1 ⟨rfl,rfl⟩;go_wp2_with fail;go_ret;exact ⟨rfl,HM.out⟩
theorem yIj{x t:Int}:qH x t<0↔x<t:=by
 unfold qH;split
 ·simp;omega
 split
 ·simp;omega
 ·simp;omega
theorem yPn{x t:Int}:qH x t=0↔x=t:=by
 unfold qH;split
 ·simp;omega
 split
 ·simp;omega
 ·simp;omega
theorem yGl(L:Nat)(v:Value)(l:List de)(t:Int)(w:World)(hv:vw w L v l)(hr:kZ l)(hl:l.length<=1000) :
  Calls Tryz.prog 168 #[v,.int .i64 t,.func (.func 169) #[] #[]] w fun e w'=>e=.returned (.tuple #[.int .i64 (gd l t),.bool (mJ l t)])/\Mod dZ w w':=by
 have HV:=dV hv;obtain ⟨a,cap,rfl,hc1,hc2⟩:=fV.slice hv;have HR:=dV hr;clear hv hr;go_enter Tryz.func168,Tryz.ntmps168;go_wp2_with fail;go_loopw [9,10] (fun x y wr=>∃ i j:Nat,x=.int .i64 i/\y=.int .i64 j/\i<=j/\j<=l.length/\(∀ k d,k<i->l[k]?=some d->d.tx<t)/\(∀ k d,j<=k->l[k]?=some d->t<=d.tx)/\Mod dZ w wr) (fun x y _=>(intOf y).toNat - (intOf x).toNat)
 case atStart=>exact ⟨0,l.length,rfl,rfl,aT _,aF _,fun k d h=>by omega,fun k d h hk=>by have:=(aB.1 hk).1;omega,Mod.refl _ _⟩
 case round=>
  obtain ⟨i,j,rfl,rfl,hij,hj,hlo,hhi,hM⟩:=hrel;have nB:=dV hlo;have HHI:=dV hhi;have HM:=dV hM;clear hlo hhi hM;by_cases hlt:i<j
  ·obtain ⟨h,hh⟩:∃ h:Nat,h=(i+j) / 2:=⟨_,rfl⟩;have hhl:h<l.length:=by omega
   obtain ⟨d,hd⟩:∃ d,l[h]?=some d:=⟨_,aA hhl⟩;obtain ⟨b,off,rfl,_,q0,q1⟩:=HV.out.at hd;have p0:=HM.out.cell q0 id;have p1:=HM.out.cell q1 id;have lq:=dV (zWx d t wr);have HD:=dV hd;have jd:(i:Int)<(j:Int):=by omega
   have hhI:(h:Int)<(l.length:Int):=by omega
   have hh0:(0:Int)<=(h:Int):=by omega
   have HHH:Hid (((i:Int)+(j:Int)) / 2=(h:Int)):=(by omega:((i:Int)+(j:Int)) / 2=(h:Int));have xD:=dV hh;clear hd q0 q1 hh;go_upto_region 5 with fail;rw [HHH.out];go_wp2_with fail;refine lq.out.mono ?_;rintro e w5 ⟨rfl,eP⟩;have kv:=dV (HM.out.trans eP);clear eP lq p0 p1;by_cases hgt:d.tx<t
   ·have hdd:decide (qH d.tx t<0)=true:=aQ (yIj.2 hgt);go_wp2_with fail;go_roundw
    case rel=>
     refine ⟨h+1,j,by go_num,rfl,by have:=xD.out;omega,hj,fun k d' hk hd'=>?_,HHI.out,kv.out⟩;have h1:=(zU HR.out t h d HD.out).2 (by omega);exact (zU HR.out t k d' hd').1 (by omega)
    case measure=>have:=xD.out;simp [intOf];omega
   ·have hdd:decide (qH d.tx t<0)=false:=aL (fun h=>hgt (yIj.1 h));go_wp2_with fail;go_roundw
    case rel=>
     refine ⟨i,h,rfl,rfl,by have:=xD.out;omega,by omega,nB.out,fun k d' hk hd'=>?_,kv.out⟩;have h1:=mt (zU HR.out t h d HD.out).1 (by omega);have h2:=mt (zU HR.out t k d' hd').2 (by omega);omega
    case measure=>have:=xD.out;simp [intOf];omega
  ·obtain rfl:i=j:=by omega
   have HP:=dV (yNh HR.out hj nB.out HHI.out);clear hlt;by_cases hlt:i<l.length
   ·obtain ⟨d,hd⟩:∃ d,l[i]?=some d:=⟨_,aA hlt⟩;obtain ⟨b,off,rfl,_,q0,q1⟩:=HV.out.at hd;have p0:=HM.out.cell q0 id;have p1:=HM.out.cell q1 id;have HF:Hid (mJ l t=decide (d.tx=t)):=by unfold mJ;rw [HP.out,hd];rfl
    have lq:=dV (zWx d t wr);have xw:(i:Int)<(l.length:Int):=by omega
    have hi0:(0:Int)<=(i:Int):=by omega
    have hzz:(qH d.tx t == 0)=decide (d.tx=t):=by rw [cO,beq_iff_eq,decide_eq_true_iff];exact yPn
    have HZZ:=dV hzz;clear hd q0 q1 hzz;go_wp2_with fail;refine lq.out.mono ?_;rintro e w5 ⟨rfl,eP⟩;have kv:=dV (HM.out.trans eP);clear eP lq p0 p1;go_wp2_with fail;go_ret2;exact ⟨by rw [HP.out,HF.out,<-HZZ.out];rfl,kv.out⟩
   ·have HF:Hid (mJ l t=false):=by unfold mJ;rw [HP.out,ah (by omega)];rfl
    have xw:¬ (i:Int)<(l.length:Int):=by omega
    go_wp2_with fail;go_ret2;exact ⟨by rw [HP.out,HF.out];rfl,HM.out⟩
theorem yBq(L:Nat)(v:Value)(l:List de)(t:Int)(w:World)(hv:vw w L v l)(hr:kZ l)(hl:l.length<=1000) :
  Calls Tryz.prog 144 #[v,.int .i64 t] w fun e w'=>e=.returned (.tuple #[.int .i64 (gd l t),.bool (mJ l t)])/\Mod dZ w w':=by
 have HB:=dV (yGl L v l t w hv hr hl);obtain ⟨a,cap,rfl,hc1,hc2⟩:=fV.slice hv;clear hv hr;go_enter Tryz.func144,Tryz.ntmps144;go_wp2_with fail;refine HB.out.mono ?_;rintro e w1 ⟨rfl,hm⟩;go_wp2_with fail;go_ret2;exact ⟨rfl,hm⟩
theorem MT(L:Nat)(v:Value)(l:List de)(t:Int)(w:World)(hv:vw w L v l)(hr:kZ l)(hl:l.length<=1000) :
  Calls Tryz.prog 110 #[v,.int .i64 t] w fun e w'=>e=.returned (.int .i64 (iw l t))/\Mod dZ w w':=by
 have HB:=dV (yBq L v l t w hv hr hl);have HV:=dV hv;obtain ⟨a,cap,rfl,hc1,hc2⟩:=fV.slice hv;have hle:=Qj l t;clear hv hr
 cases hf:mJ l t with
 | true=>
  rw [hf] at HB;obtain ⟨c,h1,h2⟩:=Mk hf;have QH:Hid (iw l t=c.mode):=by rw [Hid];unfold iw;rw [h1];simp [h2]
  obtain ⟨b,off,rfl,_,q0,q1⟩:=HV.out.at h1;have hpl:gd l t<l.length:=(aB.1 h1).1;generalize gd l t=n at HB hle q1 hpl;have sW:(n:Int)<(l.length:Int):=by omega
  have hn0:(0:Int)<=(n:Int):=by omega
  clear hf h1 h2 q0;go_enter Tryz.func110,Tryz.ntmps110;go_wp2_with fail;refine HB.out.mono ?_;rintro e w1 ⟨rfl,hm⟩;have p1:=hm.cell q1 id;have HM:=dV hm;clear hm q1;go_wp2_with fail;go_ret;exact ⟨by rw [QH.out];rfl,HM.out⟩
 | false=>
  rw [hf] at HB;have QH:Hid (iw l t=0):=by
   rw [Hid];unfold mJ at hf;unfold iw
   cases hc:l[gd l t]? with
   | none=>rfl
   | some c=>rw [hc] at hf;simp at hf;simp [hf]
  clear hf;go_enter Tryz.func110,Tryz.ntmps110;go_wp2_with fail;refine HB.out.mono ?_;rintro e w1 ⟨rfl,hm⟩;go_wp2_with fail;go_ret;exact ⟨by rw [QH.out];rfl,hm⟩
def fS(d:de):List Value:=[.int .i64 d.tx,.int .i64 d.mode]
def ej:List de->List Value
 | []=>[]
 | o :: os=>fS o++ej os
theorem wH:∀ os,(ej os).length=os.length*2
 | []=>rfl
 | o :: os=>by simp [ej,fS,wH os];omega
theorem MW:∀ a b,ej (a++b)=ej a++ej b
 | [],b=>by simp [ej]
 | p :: a,b=>by simp [ej,MW a b]
theorem MY(d:de):ej [d]=fS d:=by simp [ej]
theorem zOe:∀ (os:List de) (i:Nat),ej (os.take i)=(ej os).take (i*2)
 | [],i=>by simp [ej]
 | o :: os,0=>by simp [ej]
 | o :: os,i+1=>by
  rw [aw,ej,ej,zOe os i,show (i+1)*2=(fS o).length+i*2 by simp [fS];omega,List.take_length_add_append]
theorem zOf:∀ (os:List de) (i:Nat),ej (os.drop i)=(ej os).drop (i*2)
 | [],i=>by simp [ej]
 | o :: os,0=>by simp [ej]
 | o :: os,i+1=>by
  rw [bY,ej,zOf os i,show (i+1)*2=(fS o).length+i*2 by simp [fS];omega,List.drop_length_add_append]
theorem zOg:∀ (os:List de) (i:Nat) (o:de),os[i]?=some o->∀ j x,(fS o)[j]?=some x->(ej os)[i*2+j]?=some x
 | [],i,o,h,_,_,_=>by simp at h
 | p :: os,0,o,h,j,x,hx=>by
  simp at h;subst h;have hj:j<(fS p).length:=(aB.1 hx).1;rw [ej,cg,aX,aE hj];exact hx
 | p :: os,i+1,o,h,j,x,hx=>by
  have ih:=zOg os i o (by simpa using h) j x hx;have hl:(fS p).length=2:=rfl;rw [ej,aM (by omega),hl,show (i+1)*2+j - 2=i*2+j by omega];exact ih
def ez(w:World)(B:Nat)(v:Value)(os:List de):Prop:=w.ownsRow B 170 2 v os.length (ej os)
theorem ez.mB{w:World}{B L:Nat}{v:Value}{os:List de}(h:ez w B v os)(hL:w.heap.size<=L):vw w L v os:=by
 obtain ⟨h1,h2⟩:=h;rcases h2 with ⟨rfl,hn⟩ | ⟨g,cap,cur,rfl,q1,q2,q3,q4,q5,q6⟩
 ·have:os=[]:=aR hn;subst this;exact fV.nil _ _ _ _
 ·have hc:w.ownsRow B 170 2 (.slice (some ⟨g,0,none⟩) os.length cap) os.length (ej os):=⟨h1,.inr ⟨g,cap,cur,rfl,q1,q2,q3,q4,q5,q6⟩⟩;have hcl:=hc.cells (g:=g) rfl;have hgl:g<w.heap.size:=(aG.1 q2).1;refine ⟨_,cap,rfl,q3,q4,.inr ⟨g,0,rfl,by omega,fun i o hi=>⟨fS o,rfl,rfl,fun j x hx=>?_⟩⟩⟩;have:=hcl _ _ (zOg os i o hi j x hx);rw [Go.WideShapes.add_plain,aX] at this;rw [aX];exact this
theorem ez.mod{G:Nat->Prop}{w w':World}{B:Nat}{v:Value}{os:List de}(h:ez w B v os)(hm:Mod G w w')(hG:∀ k,v.ownBlock=some k->¬ G k):ez w' B v os:=fm h hm (fun k _ _ e=>hG k e)
theorem GZ:∀ (os:List de),∀ u∈ej os,u.oneCell'=true
 | [],u,h=>by simp [ej] at h
 | o :: os,u,h=>by
  rcases aN.1 h with h | h
  ·simp [fS] at h;rcases h with rfl | rfl <;> rfl
  ·exact GZ os u h
theorem mT{w:World}{B:Nat}{v:Value}{e:TypeId}{sz n:Nat}{xs:List Value}(ho:w.ownsRow B e sz v n xs){k:Nat}(hk:v.ownBlock=some k):B<=k/\k<w.heap.size/\∃ cur,w.heap[k]?=some (.cells cur e (0,0)):=by
 rcases ho.2 with ⟨rfl,_⟩ | ⟨g,cap,cur,rfl,q1,q2,_⟩
 ·simp [Value.ownBlock] at hk
 ·simp [Value.ownBlock] at hk;subst hk;exact ⟨q1,(aG.1 q2).1,cur,q2⟩
theorem Tryz.nK:(Tryz.prog.info? 170).map (fun i=>(i.zero,i.size,i.bytes))=some (some (.agg #[.int .i64 0,.int .i64 0]),2,16):=by kernel_rfl
theorem zWu(w:World)(e:TypeId)(sz:Nat):(w.alloc (.cells #[] e)).ownsRow w.heap.size e sz (.slice (some ⟨w.heap.size,0,none⟩) 0 0) 0 []:=
 ⟨by simp,.inr ⟨w.heap.size,0,#[],rfl,aF _,heap_alloc_new w _,aF _,by unfold maxLen;omega,by simp,by simp⟩⟩
theorem Uv{w0:World}{ops:Array Oper}{rest:List Oper}{o:Oper}{a:Act}{Q:Exit->Act->World->Prop}(hgd:o.guard=none)(s x:Operand)(t:TypeId)
  (ho:o.op=.call { callee:=.builtin .append,args:=#[s,x],argTypes:=#[t,t] })
  (e:TypeId) (i:TypeInfo) (z:Value) (size bytes:Nat) (ht:Tryz.prog.underlying t=some (.slice e)) (hi:Tryz.prog.info? e=some i) (hz:i.zero=some z)
  (hsize:i.size=size) (hby:i.bytes=bytes) (hzs:z.cells.size=size) (hsz:0<size)
  (hnil:∀ (g:Nat) (a:Option Addr) (c:Nat) (ty:TypeId) (w:World),(Builtin.append_ #[t,t] ty #[.slice (some ⟨g,0,none⟩) 0 0,.slice a 0 c]).run Tryz.prog w=.ok (.slice (some ⟨g,0,none⟩) 0 0) w)
  (hs:a.eval s=.slice (some ⟨w0.heap.size,0,none⟩) 0 0)
  (ad:Option Addr) (m c:Nat) (news:List Value) (hx:a.eval x=.slice ad m c) (hl:news.length=m*size) (hnews:m=0\/∃ p,ad=some p/\∀ j u,news[j]?=some u->w0.cell? (p.add j)=some u) (h1:∀ u∈news,u.oneCell'=true)
  (h63:m<=maxLen) (hbytes:m*bytes<=140737488355328)
  (h:∀ (g cap:Nat) w',w'.ownsRow w0.heap.size e size (.slice (some ⟨g,0,none⟩) m cap) m news->Mod dZ w0 w'->wpList Tryz.prog ops Q rest (a.put o.dst (.slice (some ⟨g,0,none⟩) m cap)) w') :
  wpList Tryz.prog ops Q (o :: rest) a (w0.alloc (.cells #[] e)):=by
 have hm0:Mod dZ w0 (w0.alloc (.cells #[] e)):=(Mod.refl _ w0).alloc _;by_cases hm:m=0
 ·subst hm;have hn:news=[]:=aR (by simpa using hl);subst hn;refine wpList_plain hgd fun K hK=>?_;have hr:=hnil w0.heap.size ad c o.type (w0.alloc (.cells #[] e));unfold Oper.wp execOp;simp only [ho,resolve,invoke,builtin,Sem.run_bind,Sem.run_pure,Result.andThen_ok,bz,bW,cM,hs,hx,hr];exact hK _ _ (h _ _ _ (zWu w0 e size) hm0)
 ·obtain ⟨p,rfl,hc⟩:=hnews.resolve_left hm;refine wpList_append_own _ hgd s x t ho w0.heap.size e i z size bytes ht hi hz hsize hby hzs hsz _ 0 [] hs (zWu w0 e size) p m c news hx hl (fun j u hu=>hm0.cell (hc j u hu) id) h1 (by omega) (by rw [aX];exact hbytes) (by simp) ?_;intro v' w' hown hgrow hne;have dh:Mod dZ w0 w':=hm0.grown hgrow (fun x hx hlt=>by simp [Value.ownBlock] at hx;omega);simp only [aX,aY] at hown;rcases hown.2 with ⟨e0,e1⟩ | ⟨g,cap,cur,rfl,_⟩
  ·exact absurd e1 hm
  ·exact h g cap w' hown dh
theorem zVx(g:Nat)(a:Option Addr)(c:Nat)(ty:TypeId)(w:World):(Builtin.append_ #[166,166] ty #[.slice (some ⟨g,0,none⟩) 0 0,.slice a 0 c]).run Tryz.prog w=.ok (.slice (some ⟨g,0,none⟩) 0 0) w:=by
 cases a <;> kernel_rfl
theorem yLf(p:Addr)(m c:Nat)(l:List de)(w:World)(hm:m=l.length)(hc:∀ (j:Nat) u,(ej l)[j]?=some u->w.cell? (p.add j)=some u)(hl:l.length<=1000) :
  Calls Tryz.prog 152 #[.slice (some p) m c] w fun e w'=>∃ g cap,e=.returned (.slice (some ⟨g,0,none⟩) m cap)/\w'.ownsRow w.heap.size 170 2 (.slice (some ⟨g,0,none⟩) m cap) m (ej l)/\Mod dZ w w':=by
 obtain ⟨i0,hi,hz0,hz1,hz2⟩:=info_parts Tryz.nK;have h63:m<=maxLen:=by unfold maxLen;omega
 have h47:m*16<=140737488355328:=by omega
 have uV:Hid ((ej l).length=m*2):=by rw [hm];exact wH l
 have zK:Hid (m=0\/∃ q,some p=some q/\∀ (j:Nat) u,(ej l)[j]?=some u->w.cell? (q.add j)=some u):=.inr ⟨p,rfl,hc⟩;have qM:=dV (GZ l);have hen:=run_eql_slice_nil (P:=Tryz.prog) w 166 170 (some p) m c 0 0 Tryz.underlying166;clear hc hm;go_enter Tryz.func152,Tryz.ntmps152;go_wp2_with (first
  | (at_builtin;(refine Uv (w0:=w) rfl _ _ 166 rfl 170 i0 _ 2 16 Tryz.underlying166 hi hz0 hz1 hz2 rfl (by omega) zVx rfl (some p) m c (ej l) rfl uV.out zK.out qM.out h63 h47 ?_))
  | fail)
 intro g cap w2 hrow hm2;go_wp2_with fail;go_ret;exact ⟨g,cap,rfl,hrow,hm2⟩
end Go.Proofs.YtmaiggbnceejiaaGreatDoor
