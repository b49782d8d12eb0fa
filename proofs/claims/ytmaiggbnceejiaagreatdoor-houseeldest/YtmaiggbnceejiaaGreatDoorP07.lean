import Derived.Test.YtmaiggbnceejiaaGreatDoorP01
import Derived.Test.YtmaiggbnceejiaaGreatDoorP05
import Derived.Test.YtmaiggbnceejiaaGreatDoorP06
import Derived.Deep.Strs
import Derived.Deep.Slices
import Derived.OpenShut
import Derived.Test.YtmaiggbnceejiaaGreatDoorProg
import Derived.WalkKit
import Derived.Lib.AppendStr
import Derived.Deep.RegionLaw
import Derived.Deep.AppendLies
import Derived.Deep.DeepCutAuto
import Derived.Maps.OwnSet
import Derived.Maps.AppendAt
import Derived.RegionTactic
import Derived.ChangeAlike
import Derived.Laws.IdiomCopy
import Derived.Deep.CutBlock
set_option linter.unusedVariables false
set_option maxRecDepth 100000
set_option maxHeartbeats 16000000
namespace Go.Proofs.YtmaiggbnceejiaaGreatDoor
open Go.RowKit Go.Lib Go.Maps Go.ChangeShapes Go.WideShapes Go.Deep
structure dg where
 tx:Int
 mode:Int
 deriving DecidableEq
def jl(l:List dg):Prop:=l.Pairwise fun a b=>a.tx<b.tx
def gW(l:List dg)(t:Int):Nat:=(l.filter fun c=>decide (c.tx<t)).length
theorem QB(l:List dg)(t:Int):gW l t<=l.length:=aw _ _
theorem yBc(v:dg)(l:List dg)(t:Int):gW (v :: l) t=(if v.tx<t then 1 else 0)+gW l t:=by
 unfold gW;rw [cJ];by_cases h:v.tx<t
 ·simp [h];omega
 ·simp [h]
theorem yBb{l:List dg}{t:Int}(h:∀ v∈l,t<=v.tx):gW l t=0:=by
 unfold gW;rw [List.length_eq_zero_iff,List.filter_eq_nil_iff];intro v hv;have:=h v hv;simp;omega
theorem ya:∀ {l:List dg} (_:jl l) (t:Int) (k:Nat) (v:dg),l[k]?=some v->(k<gW l t↔v.tx<t)
 | [],_,t,k,v,h=>by simp at h
 | x :: l,hr,t,0,v,h=>by
  simp at h;subst h;rw [yBc];by_cases hx:x.tx<t
  ·simp [hx];omega
  ·have:gW l t=0:=yBb (fun y hy=>by have:=bO hr hy;omega);simp [hx,this]
 | x :: l,hr,t,k+1,v,h=>by
  have hv:l[k]?=some v:=by simpa using h
  have ih:=ya (List.Pairwise.of_cons hr) t k v hv;have hx:=bO hr (aC hv);rw [yBc];by_cases h1:x.tx<t
  ·simp only [h1,if_true];rw [<-ih];omega
  ·have:gW l t=0:=yBb (fun y hy=>by have:=bO hr hy;omega);simp only [h1,if_false,this];constructor
   ·intro h;omega
   ·intro h;omega
theorem yMa{l:List dg}(hr:jl l){t:Int}{n:Nat}(hn:n<=l.length)(h1:∀ k v,k<n->l[k]?=some v->v.tx<t)(h2:∀ k v,n<=k->l[k]?=some v->t<=v.tx):gW l t=n:=by
 rcases cB (gW l t) n with h | h | h
 ·obtain ⟨v,hv⟩:∃ v,l[gW l t]?=some v:=⟨_,aA (by omega)⟩;have a:=h1 _ v h hv;have:=(ya hr t _ v hv).2 a;omega
 ·exact h
 ·have hb:=QB l t;obtain ⟨v,hv⟩:∃ v,l[n]?=some v:=⟨_,aA (by omega)⟩;have a:=(ya hr t _ v hv).1 h;have b:=h2 _ v (aF _) hv;omega
def mB(l:List dg)(t:Int):Bool:=match l[gW l t]? with
 | some c=>decide (c.tx=t)
 | none=>false
def iM(l:List dg)(t:Int):Int:=match l[gW l t]? with
 | some c=>if c.tx=t then c.mode else 0
 | none=>0
def jM(l:List dg)(c:dg):List dg:=if mB l c.tx then l.set (gW l c.tx) c else l.take (gW l c.tx)++c :: l.drop (gW l c.tx)
def kL(a b:dg):Bool:=decide (a.tx≠b.tx) && (decide (a.mode=2) || decide (b.mode=2))
def pD(held waits:List dg)(c:dg):Bool:=!(held.any fun o=>kL o c) && !(waits.any fun o=>decide (o.tx<c.tx) && kL o c)
def Db(c o:dg):Bool:=decide (o.tx<c.tx) || !kL o c
def wU(held:List dg)(c:dg):List Int:=(held.filter fun o=>!Db c o).map (·.tx)
def kR(l:List dg)(t:Int):List dg:=l.filter fun c=>!decide (c.tx=t)
def iw(held kept:List dg):List dg->List dg × List dg × List dg
 | []=>(held,kept,[])
 | c :: q=>if pD held kept c then ((iw (jM held c) kept q).1,(iw (jM held c) kept q).2.1,c :: (iw (jM held c) kept q).2.2) else iw held (kept++[c]) q
theorem MB{l:List dg}{t:Int}(h:mB l t=true):∃ c,l[gW l t]?=some c/\c.tx=t:=by
 unfold mB at h
 cases hc:l[gW l t]? with
 | none=>rw [hc] at h;cases h
 | some c=>rw [hc] at h;exact ⟨c,rfl,by simpa using h⟩
theorem yRo{l:List dg}(hr:jl l){a b:dg}(ha:a∈l)(hb:b∈l)(h:a.tx=b.tx):a=b:=by
 induction l with
 | nil=>simp at ha
 | cons x l ih=>
  rcases bA.1 ha with rfl | ha'
  ·rcases bA.1 hb with rfl | hb'
   ·rfl
   ·have:=bO hr hb';omega
  ·rcases bA.1 hb with rfl | hb'
   ·have:=bO hr ha';omega
   ·exact ih (List.Pairwise.of_cons hr) ha' hb'
theorem VT{l:List dg}(hr:jl l){c:dg}(hc:c∈l):l[gW l c.tx]?=some c:=by
 obtain ⟨k,hk⟩:=aN hc;have hkl:=(aB.1 hk).1;have:gW l c.tx=k:=yMa hr (by omega) (fun j v hj hv=>by
  have h1:=(ya hr v.tx j v hv);have:=bL.1 hr j k (aB.1 hv).1 hkl hj;rw [(aB.1 hv).2,(aB.1 hk).2] at this;exact this) (fun j v hj hv=>by
  by_cases e:j=k
  ·subst e;rw [hk] at hv;cases hv;exact bG _
  ·have:=bL.1 hr k j hkl (aB.1 hv).1 (by omega);rw [(aB.1 hv).2,(aB.1 hk).2] at this;omega)
 rw [this];exact hk
theorem yNm{l:List dg}(hr:jl l)(t:Int):mB l t=true↔∃ c∈l,c.tx=t:=by
 constructor
 ·intro h;obtain ⟨c,h1,h2⟩:=MB h;exact ⟨c,aC h1,h2⟩
 ·rintro ⟨c,h1,rfl⟩;unfold mB;rw [VT hr h1];simp
theorem DY{l:List dg}(hr:jl l){c:dg}(hc:c∈l):iM l c.tx=c.mode:=by
 unfold iM;rw [VT hr hc];simp
theorem yBn{l:List dg}{t:Int}(h:∀ c∈l,c.tx≠t):iM l t=0:=by
 unfold iM
 cases hc:l[gW l t]? with
 | none=>rfl
 | some c=>
  have:=h c (aC hc);simp [this]
theorem Dg{l:List dg}(hr:jl l)(hm:∀ c∈l,c.mode≠0){t:Int}:iM l t=0↔∀ c∈l,c.tx≠t:=by
 constructor
 ·intro h c hc e;subst e;rw [DY hr hc] at h;exact hm c hc h
 ·exact yBn
theorem lp{l:List dg}(hr:jl l)(c o:dg):o∈jM l c↔o=c\/(o∈l/\o.tx≠c.tx):=by
 unfold jM;split
 ·rename_i h;obtain ⟨d,h1,h2⟩:=MB h;have hl:=(aB.1 h1).1;rw [List.mem_iff_getElem?];constructor
  ·rintro ⟨k,hk⟩;rw [bw] at hk;split at hk
   ·simp at hk;exact .inl hk.symm
   ·rename_i hne;refine .inr ⟨aC hk,fun e=>hne ?_⟩;have ho:=aC hk;have:=VT hr ho;rw [e] at this;obtain ⟨k1,k2⟩:=aB.1 hk;obtain ⟨j1,j2⟩:=aB.1 this;rcases cB (gW l c.tx) k with q | q | q
    ·have:=bL.1 hr _ _ j1 k1 q;rw [j2,k2] at this;omega
    ·exact q
    ·have:=bL.1 hr _ _ k1 j1 q;rw [j2,k2] at this;omega
  ·rintro (rfl | ⟨ho,hne⟩)
   ·exact ⟨gW l o.tx,by rw [List.getElem?_set_self hl]⟩
   ·obtain ⟨k,hk⟩:=aN ho;refine ⟨k,?_⟩;rw [List.getElem?_set_ne ?_]
    ·exact hk
    ·rintro rfl;rw [h1] at hk
     cases hk
     exact hne h2
 ·rename_i h;rw [aL,bA];have hno:∀ o∈l,o.tx≠c.tx:=fun o ho e=>h ((yNm hr c.tx).2 ⟨o,ho,e⟩);constructor
  ·rintro (q | rfl | q)
   ·have:=cU q;exact .inr ⟨this,hno o this⟩
   ·exact .inl rfl
   ·have:=cO q;exact .inr ⟨this,hno o this⟩
  ·rintro (rfl | ⟨q,_⟩)
   ·exact .inr (.inl rfl)
   ·rw [<-ai (gW l c.tx) l,aL] at q;rcases q with q | q
    ·exact .inl q
    ·exact .inr (.inr q)
theorem By{l:List dg}(hr:jl l)(c:dg):jl (jM l c):=by
 unfold jM;split
 ·rename_i h;obtain ⟨d,h1,h2⟩:=MB h;obtain ⟨hl,hd⟩:=aB.1 h1;unfold jl;rw [bL];intro i j hi hj hij;simp only [aa] at hi hj;have:=bL.1 hr i j hi hj hij;rw [List.getElem_set,List.getElem_set];split
  ·rename_i e;subst e;rw [aE (by omega)];rw [hd,h2] at this;exact this
  ·split
   ·rename_i e;subst e;rw [hd,h2] at this;exact this
   ·exact this
 ·rename_i h;have hno:∀ o∈l,o.tx≠c.tx:=fun o ho e=>h ((yNm hr c.tx).2 ⟨o,ho,e⟩);unfold jl;rw [bW];refine ⟨hr.sublist (List.take_sublist _ _),?_,?_⟩
  ·rw [List.pairwise_cons];refine ⟨fun o ho=>?_,hr.sublist (List.drop_sublist _ _)⟩;obtain ⟨k,hk⟩:=aN ho;rw [cY] at hk;have:=mt (ya hr c.tx _ o hk).2 (by omega);have:=hno o (cO ho);omega
  ·intro a ha b hb;obtain ⟨k,hk⟩:=aN ha;rw [cX] at hk;split at hk
   ·rename_i hlt;have h1:=(ya hr c.tx k a hk).1 hlt;rcases bA.1 hb with rfl | hb
    ·exact h1
    ·obtain ⟨j,hj⟩:=aN hb;rw [cY] at hj;have:=mt (ya hr c.tx _ b hj).2 (by omega);omega
   ·cases hk
theorem LX(l:List dg)(c:dg):(jM l c).length<=l.length+1:=by
 unfold jM;split
 ·simp
 ·have:=QB l c.tx;simp;omega
theorem nZ{l:List dg}{t:Int}{o:dg}:o∈kR l t↔o∈l/\o.tx≠t:=by
 unfold kR;simp
theorem Aw{l:List dg}(hr:jl l)(t:Int):jl (kR l t):=hr.sublist bQ
theorem Lg(l:List dg)(t:Int):(kR l t).length<=l.length:=aw _ _
theorem UM:∀ (q held kept:List dg),jl held->jl (kept++q)->jl (iw held kept q).1/\jl (iw held kept q).2.1
 | [],held,kept,h1,h2=>⟨h1,by simpa [iw] using h2⟩
 | c :: q,held,kept,h1,h2=>by
  unfold iw;split
  ·exact UM q (jM held c) kept (By h1 c) (h2.sublist (by simp))
  ·exact UM q held (kept++[c]) h1 (by simpa using h2)
theorem TI:∀ (q held kept:List dg),(iw held kept q).1.length<=held.length+q.length/\(iw held kept q).2.1.length<=kept.length+q.length/\(iw held kept q).2.2.length<=q.length
 | [],held,kept=>by simp [iw]
 | c :: q,held,kept=>by
  unfold iw;split
  ·have:=TI q (jM held c) kept;have:=LX held c;simp only [aW];omega
  ·have:=TI q held (kept++[c]);simp only [aW,aD,an] at *;omega
theorem Ap:∀ (q held kept:List dg) (o:dg),(o∈(iw held kept q).1->o∈held\/o∈q)/\(o∈(iw held kept q).2.1->o∈kept\/o∈q)/\(o∈(iw held kept q).2.2->o∈q)
 | [],held,kept,o=>by simp [iw]
 | c :: q,held,kept,o=>by
  unfold iw;split
  ·obtain ⟨h1,h2,h3⟩:=Ap q (jM held c) kept o;refine ⟨fun h=>?_,fun h=>?_,fun h=>?_⟩
   ·rcases h1 h with h | h
    ·unfold jM at h;split at h
     ·rcases bE h with h | h
      ·exact .inl h
      ·exact .inr (by rw [h];simp)
     ·rcases aL.1 h with h | h
      ·exact .inl (cU h)
      ·rcases bA.1 h with h | h
       ·exact .inr (by rw [h];simp)
       ·exact .inl (cO h)
    ·exact .inr (ay _ h)
   ·exact (h2 h).imp id (ay _)
   ·rcases bA.1 h with h | h
    ·rw [h];simp
    ·exact ay _ (h3 h)
  ·obtain ⟨h1,h2,h3⟩:=Ap q held (kept++[c]) o;refine ⟨fun h=>(h1 h).imp id (ay _),fun h=>?_,fun h=>ay _ (h3 h)⟩;rcases h2 h with h | h
   ·rcases aL.1 h with h | h
    ·exact .inl h
    ·simp at h;exact .inr (by rw [h];simp)
   ·exact .inr (ay _ h)
structure eh where
 held:List dg
 waits:List dg
abbrev fv:=ByteArray->eh
def eh.bare(k:eh):Prop:=k.held=[]/\k.waits=[]
def jI(s:fv)(k:ByteArray)(x:eh):fv:=fun y=>if y=k then x else s y
def iI(k:eh)(c:dg):eh × Bool × List Int × Int:=
 if iM k.waits c.tx≠0 then (k,false,[],9)
 else if c.mode<=iM k.held c.tx then (k,true,[],0)
 else if pD k.held k.waits c then ({ k with held:=jM k.held c },true,[],0)
 else if 50<=k.waits.length then (k,false,[],4)
 else ({ k with waits:=jM k.waits c },false,wU k.held c,0)
def vF(k:eh)(t:Int):Bool:=decide (iM k.held t≠0) || decide (iM k.waits t≠0)
def lr(k:eh)(t:Int):eh:=⟨(iw (kR k.held t) [] (kR k.waits t)).1,(iw (kR k.held t) [] (kR k.waits t)).2.1⟩
def iq(k:eh)(t:Int):List dg:=(iw (kR k.held t) [] (kR k.waits t)).2.2
def gI(s:fv)(t:Int):fv:=fun k=>if vF (s k) t then lr (s k) t else s k
structure mW(k:eh):Prop where
 held:jl k.held
 waits:jl k.waits
 hmode:∀ c∈k.held,c.mode=1\/c.mode=2
 pc:∀ c∈k.waits,c.mode=1\/c.mode=2
 wants:∀ c∈k.waits,∀ o∈k.held,o.tx=c.tx->o.mode<c.mode
theorem mW.h0{k:eh}(h:mW k):∀ c∈k.held,c.mode≠0:=fun c hc=>by rcases h.hmode c hc with e | e <;> omega
theorem mW.w0{k:eh}(h:mW k):∀ c∈k.waits,c.mode≠0:=fun c hc=>by rcases h.pc c hc with e | e <;> omega
theorem mW.nil:mW ⟨[],[]⟩:=⟨List.Pairwise.nil,List.Pairwise.nil,by simp,by simp,by simp⟩
theorem yMp{k:eh}{c:dg}(h:mW k)(hc:c.mode=1\/c.mode=2):mW (iI k c).1:=by
 unfold iI;split
 ·exact h
 rename_i g1;have g1':iM k.waits c.tx=0:=aR g1;split
 ·exact h
 rename_i g2;split
 ·refine ⟨By h.held c,h.waits,fun o ho=>?_,h.pc,fun d hd o ho e=>?_⟩
  ·rcases (lp h.held c o).1 ho with rfl | ⟨ho,_⟩
   ·exact hc
   ·exact h.hmode o ho
  ·rcases (lp h.held c o).1 ho with rfl | ⟨ho,_⟩
   ·exact absurd e.symm ((Dg h.waits h.w0).1 g1' d hd)
   ·exact h.wants d hd o ho e
 split
 ·exact h
 ·refine ⟨h.held,By h.waits c,h.hmode,fun o ho=>?_,fun d hd o ho e=>?_⟩
  ·rcases (lp h.waits c o).1 ho with rfl | ⟨ho,_⟩
   ·exact hc
   ·exact h.pc o ho
  ·rcases (lp h.waits c d).1 hd with rfl | ⟨hd,_⟩
   ·have:=DY h.held ho;rw [e] at this;omega
   ·exact h.wants d hd o ho e
theorem UO:∀ (q held kept:List dg),jl held->jl (kept++q)->(∀ c∈kept++q,∀ o∈held,o.tx=c.tx->o.mode<c.mode)->∀ c∈(iw held kept q).2.1,∀ o∈(iw held kept q).1,o.tx=c.tx->o.mode<c.mode
 | [],held,kept,h1,h2,h3=>by simpa [iw] using h3
 | c :: q,held,kept,h1,h2,h3=>by
  unfold iw;split
  ·refine UO q (jM held c) kept (By h1 c) (h2.sublist (by simp)) (fun d hd o ho e=>?_);rcases (lp h1 c o).1 ho with rfl | ⟨ho,_⟩
   ·exfalso;rcases aL.1 hd with q1 | q1
    ·have:=(bW.1 h2).2.2 d q1 o (by simp);omega
    ·have:=bO (bW.1 h2).2.1 q1;omega
   ·refine h3 d ?_ o ho e;rcases aL.1 hd with q1 | q1
    ·exact aL.2 (.inl q1)
    ·exact aL.2 (.inr (ay _ q1))
  ·exact UO q held (kept++[c]) h1 (by simpa using h2) (by simpa using h3)
theorem Fu{k:eh}(h:mW k)(t:Int):mW (lr k t):=by
 obtain ⟨h1,h2⟩:=UM (kR k.waits t) (kR k.held t) [] (Aw h.held t) (by simpa using Aw h.waits t);refine ⟨h1,h2,fun o ho=>?_,fun o ho=>?_,UO _ _ _ (Aw h.held t) (by simpa using Aw h.waits t) (fun c hc o ho=>h.wants c (by simp at hc;exact (nZ.1 hc).1) o (nZ.1 ho).1)⟩
 ·rcases (Ap _ _ _ o).1 ho with q | q
  ·exact h.hmode o (nZ.1 q).1
  ·exact h.pc o (nZ.1 q).1
 ·rcases (Ap _ _ _ o).2.1 ho with q | q
  ·simp at q
  ·exact h.pc o (nZ.1 q).1
theorem Hw{k:eh}(h:mW k)(t:Int):vF k t=true↔(∃ c∈k.held,c.tx=t)\/∃ c∈k.waits,c.tx=t:=by
 unfold vF;have e1:=Dg h.held h.h0 (t:=t);have e2:=Dg h.waits h.w0 (t:=t);simp only [cF,decide_eq_true_iff,ne_eq,e1,e2];constructor
 ·rintro (q | q)
  ·left;exact aR fun n=>q (fun c hc e=>n ⟨c,hc,e⟩)
  ·right;exact aR fun n=>q (fun c hc e=>n ⟨c,hc,e⟩)
 ·rintro (⟨c,hc,e⟩ | ⟨c,hc,e⟩)
  ·exact .inl (fun q=>q c hc e)
  ·exact .inr (fun q=>q c hc e)
theorem yQb{k:eh}(t:Int):(∀ c∈(lr k t).held,c.tx≠t)/\∀ c∈(lr k t).waits,c.tx≠t:=by
 refine ⟨fun c hc=>?_,fun c hc=>?_⟩
 ·rcases (Ap _ _ _ c).1 hc with q | q
  ·exact (nZ.1 q).2
  ·exact (nZ.1 q).2
 ·rcases (Ap _ _ _ c).2.1 hc with q | q
  ·simp at q
  ·exact (nZ.1 q).2
theorem yGo{s:fv}{k:ByteArray}(h:mW (s k))(t:Int):(∀ c∈(gI s t k).held,c.tx≠t)/\∀ c∈(gI s t k).waits,c.tx≠t:=by
 unfold gI;split
 ·exact yQb t
 ·rename_i q;have:=mt (Hw h t).2 q;exact ⟨fun c hc e=>this (.inl ⟨c,hc,e⟩),fun c hc e=>this (.inr ⟨c,hc,e⟩)⟩
def Jd(P:List ByteArray)(k:ByteArray):Bool:=P.any fun y=>decide (y=k)
theorem LL{P:List ByteArray}{k:ByteArray}:Jd P k=true↔k∈P:=by
 unfold Jd;rw [cK];constructor
 ·rintro ⟨y,hy,e⟩;simp only [decide_eq_true_iff] at e;rw [<-e];exact hy
 ·exact fun h=>⟨k,h,by simp⟩
structure qK(W:List Int)(k:eh):Prop where
 ok:mW k
 alone:∀ a∈k.held,∀ b∈k.held,kL a b=false
 stuck:∀ c∈k.waits,pD k.held k.waits c=false
 elder:∀ c∈k.waits,∀ a∈k.held,kL a c=true->a.tx<c.tx\/a.tx∈W
theorem TS(a b:dg):kL a b=kL b a:=by
 unfold kL;rw [show decide (a.tx≠b.tx)=decide (b.tx≠a.tx) by simp only [ne_eq,eq_comm],Bool.or_comm]
theorem yPe(a:dg):kL a a=false:=by simp [kL]
theorem TT{a b:dg}(h:a.tx=b.tx):kL a b=false:=by simp [kL,h]
theorem qK.nil(W:List Int):qK W ⟨[],[]⟩:=⟨mW.nil,by simp,by simp,by simp⟩
theorem LS{held waits:List dg}{c:dg}:pD held waits c=true↔(∀ o∈held,kL o c=false)/\∀ o∈waits,o.tx<c.tx->kL o c=false:=by
 unfold pD;simp only [bN,cr,List.any_eq_false,Bool.not_eq_true,decide_eq_true_iff];constructor
 ·rintro ⟨h1,h2⟩;refine ⟨h1,fun o ho hl=>?_⟩
  cases hi:kL o c with
  | false=>rfl
  | true=>exact absurd ⟨hl,hi⟩ (h2 o ho)
 ·rintro ⟨h1,h2⟩;refine ⟨h1,fun o ho hl=>?_⟩;have:=h2 o ho hl.1;rw [hl.2] at this;cases this
theorem yPf{a b c:dg}(ht:a.tx=b.tx)(hm:a.mode=2->b.mode=2)(h:kL a c=true):kL b c=true:=by
 unfold kL at *;simp only [bN,cF,decide_eq_true_iff] at *;exact ⟨by rw [<-ht];exact h.1,h.2.imp hm id⟩
def Over(h h':List dg):Prop:=∀ a∈h,∃ b∈h',a.tx=b.tx/\(a.mode=2->b.mode=2)
theorem Over.refl(h:List dg):Over h h:=fun a ha=>⟨a,ha,rfl,id⟩
theorem Over.trans{a b c:List dg}(h:Over a b)(k:Over b c):Over a c:=fun x hx=>by
 obtain ⟨y,hy,e1,e2⟩:=h x hx;obtain ⟨z,hz,e3,e4⟩:=k y hy;exact ⟨z,hz,e1.trans e3,fun e=>e4 (e2 e)⟩
theorem QT{held:List dg}(hr:jl held){c:dg}(hc:c.mode=1\/c.mode=2)(hup:∀ o∈held,o.tx=c.tx->o.mode=2->c.mode=2):Over held (jM held c):=fun a ha=>by
 by_cases e:a.tx=c.tx
 ·exact ⟨c,(lp hr c c).2 (.inl rfl),e,hup a ha e⟩
 ·exact ⟨a,(lp hr c a).2 (.inr ⟨ha,e⟩),rfl,id⟩
theorem JN{held held' waits uS:List dg}{c:dg}(h:pD held waits c=false)(ho:Over held held')(hw:∀ o∈waits,o.tx<c.tx->o∈uS):pD held' uS c=false:=by
 cases hf:pD held' uS c with
 | false=>rfl
 | true=>
  exfalso;obtain ⟨h1,h2⟩:=LS.1 hf;have:pD held waits c=true:=LS.2 ⟨fun o XB=>?_,fun o XB hl=>h2 o (hw o XB hl) hl⟩
  ·rw [h] at this;cases this
  ·cases hi:kL o c with
   | false=>rfl
   | true=>
    obtain ⟨b,hb,e1,e2⟩:=ho o XB;have:=yPf e1 e2 hi;rw [h1 b hb] at this;cases this
theorem zXw{W:List Int}{held waits:List dg}{c:dg}(hr:jl held)(ha:∀ a∈held,∀ b∈held,kL a b=false)(hf:∀ o∈held,kL o c=false):∀ a∈jM held c,∀ b∈jM held c,kL a b=false:=fun a h1 b h2=>by
 rcases (lp hr c a).1 h1 with rfl | ⟨h1',_⟩
 ·rcases (lp hr a b).1 h2 with rfl | ⟨h2,_⟩
  ·exact yPe _
  ·rw [TS];exact hf b h2
 ·rcases (lp hr c b).1 h2 with rfl | ⟨h2,_⟩
  ·exact hf a h1'
  ·exact ha a h1' b h2
theorem UL(W:List Int):∀ (q held kept:List dg),jl held->jl (kept++q)->(∀ c∈held,c.mode=1\/c.mode=2)->(∀ c∈kept++q,c.mode=1\/c.mode=2) ->
  (∀ a∈held,∀ b∈held,kL a b=false)->(∀ c∈kept,pD held kept c=false)->(∀ c∈kept++q,∀ a∈held,kL a c=true->a.tx<c.tx\/a.tx∈W)->(∀ c∈kept++q,∀ o∈held,o.tx=c.tx->o.mode<c.mode) ->
  qK W ⟨(iw held kept q).1,(iw held kept q).2.1⟩
 | [],held,kept,h1,h2,h3,h4,h5,h6,h7,h8=>by
  simp only [dC] at *;exact ⟨⟨h1,h2,h3,h4,h8⟩,h5,h6,h7⟩
 | c :: q,held,kept,h1,h2,h3,h4,h5,h6,h7,h8=>by
  have hcm:=h4 c (by simp);unfold iw;split
  ·rename_i hf;obtain ⟨f1,f2⟩:=LS.1 hf;have hlt:∀ o∈kept,o.tx<c.tx:=fun o ho=>(bW.1 h2).2.2 o ho c (by simp);have hgt:∀ o∈q,c.tx<o.tx:=fun o ho=>bO (bW.1 h2).2.1 ho;have hin:∀ o,o∈kept++q->o∈kept++c :: q:=fun o ho=>by
    rcases aL.1 ho with e | e
    ·exact aL.2 (.inl e)
    ·exact aL.2 (.inr (ay _ e))
   have hov:Over held (jM held c):=QT h1 hcm (fun o ho e e2=>by have:=h8 c (by simp) o ho e;omega);refine UL W q (jM held c) kept (By h1 c) (h2.sublist (by simp)) (fun o ho=>?_) (fun o ho=>h4 o (hin o ho)) (zXw (W:=W) (waits:=[]) h1 h5 f1) (fun o ho=>JN (h6 o ho) hov (fun _ h _=>h)) (fun o ho a ha hw=>?_) (fun o ho a ha e=>?_)
   ·rcases (lp h1 c o).1 ho with rfl | ⟨ho,_⟩
    ·exact hcm
    ·exact h3 o ho
   ·rcases (lp h1 c a).1 ha with rfl | ⟨ha,_⟩
    ·rcases aL.1 ho with e | e
     ·rw [TS,f2 o e (hlt o e)] at hw;cases hw
     ·exact .inl (hgt o e)
    ·exact h7 o (hin o ho) a ha hw
   ·rcases (lp h1 c a).1 ha with rfl | ⟨ha,_⟩
    ·exfalso;rcases aL.1 ho with q1 | q1
     ·have:=hlt o q1;omega
     ·have:=hgt o q1;omega
    ·exact h8 o (hin o ho) a ha e
  ·rename_i hf;simp only [Bool.not_eq_true] at hf;have Nw:kept++c :: q=kept++[c]++q:=by simp
   rw [Nw] at h2 h4 h7 h8;have hlt:∀ o∈kept,o.tx<c.tx:=fun o ho=>(bW.1 (bW.1 h2).1).2.2 o ho c (by simp);refine UL W q held (kept++[c]) h1 h2 h3 h4 h5 (fun o ho=>?_) h7 h8;rcases aL.1 ho with e | e
   ·exact JN (h6 o e) (Over.refl _) (fun x hx _=>aL.2 (.inl hx))
   ·simp at e;subst e;exact JN hf (Over.refl _) (fun x hx _=>aL.2 (.inl hx))
theorem yOt{W:List Int}{k:eh}(h:qK W k)(t:Int):qK W (lr k t):=by
 refine UL W _ _ _ (Aw h.ok.held t) (by simpa using Aw h.ok.waits t) (fun c hc=>h.ok.hmode c (nZ.1 hc).1) (fun c hc=>h.ok.pc c ?_) (fun a ha b hb=>h.alone a (nZ.1 ha).1 b (nZ.1 hb).1) (by simp) (fun c hc a ha=>h.elder c ?_ a (nZ.1 ha).1) (fun c hc a ha=>h.ok.wants c ?_ a (nZ.1 ha).1)
 ·simp at hc;exact (nZ.1 hc).1
 ·simp at hc;exact (nZ.1 hc).1
 ·simp at hc;exact (nZ.1 hc).1
theorem qK.less{W:List Int}{k:eh}{t:Int}(h:qK (t :: W) k)(hg:∀ c∈k.held,c.tx≠t):qK W k:=
 ⟨h.ok,h.alone,h.stuck,fun c hc a ha hw=>(h.elder c hc a ha hw).imp id (fun e=>(bA.1 e).resolve_left (hg a ha))⟩
theorem yKi{W:List Int}{k:eh}{c:dg}(h:qK W k)(hc:c.mode=1\/c.mode=2):qK ((iI k c).2.2.1++W) (iI k c).1/\(∀ x∈(iI k c).2.2.1,c.tx<x):=by
 have hok:=yMp h.ok hc;revert hok;unfold iI;split
 ·exact fun _=>⟨by simpa using h,by simp⟩
 rename_i g1;have g1':iM k.waits c.tx=0:=aR g1;have g1'':=(Dg h.ok.waits h.ok.w0).1 g1';split
 ·exact fun _=>⟨by simpa using h,by simp⟩
 rename_i g2;have g2':∀ o∈k.held,o.tx=c.tx->o.mode<c.mode:=fun o ho e=>by
  have:=DY h.ok.held ho;rw [e] at this;omega
 split
 ·rename_i hf;obtain ⟨f1,f2⟩:=LS.1 hf;intro hok;have hov:Over k.held (jM k.held c):=QT h.ok.held hc (fun o ho e e2=>by have:=g2' o ho e;omega);refine ⟨⟨hok,zXw (W:=W) (waits:=[]) h.ok.held h.alone f1,fun d hd=>JN (h.stuck d hd) hov (fun _ h _=>h),fun d hd a ha hw=>?_⟩,by simp⟩;rcases (lp h.ok.held c a).1 ha with rfl | ⟨ha,_⟩
  ·left;rcases Int.lt_trichotomy a.tx d.tx with q | q | q
   ·exact q
   ·rw [TT q] at hw;cases hw
   ·rw [TS,f2 d hd q] at hw;cases hw
  ·exact (h.elder d hd a ha hw).imp id (fun e=>by simpa using e)
 rename_i hf;simp only [Bool.not_eq_true] at hf;split
 ·exact fun _=>⟨by simpa using h,by simp⟩
 ·intro hok;have hwd:∀ x,x∈wU k.held c↔∃ o∈k.held,o.tx=x/\c.tx<x/\kL o c=true:=fun x=>by
   unfold wU Db;simp only [ag,al,Bool.not_or,Bool.not_not,bN,cr,bT];constructor
   ·rintro ⟨o,⟨h1,h2,h3⟩,rfl⟩;refine ⟨o,h1,rfl,?_,h3⟩;have:o.tx≠c.tx:=fun e=>by rw [TT e] at h3;cases h3
    omega
   ·rintro ⟨o,h1,rfl,h2,h3⟩;exact ⟨o,⟨h1,by omega,h3⟩,rfl⟩
  refine ⟨⟨hok,h.alone,fun d hd=>?_,fun d hd a ha hw=>?_⟩,fun x hx=>?_⟩
  ·rcases (lp h.ok.waits c d).1 hd with rfl | ⟨hd,_⟩
   ·exact JN hf (Over.refl _) (fun x hx _=>(lp h.ok.waits d x).2 (.inr ⟨hx,g1'' x hx⟩))
   ·exact JN (h.stuck d hd) (Over.refl _) (fun x hx _=>(lp h.ok.waits c x).2 (.inr ⟨hx,g1'' x hx⟩))
  ·rcases (lp h.ok.waits c d).1 hd with rfl | ⟨hd,_⟩
   ·rcases Int.lt_trichotomy a.tx d.tx with q | q | q
    ·exact .inl q
    ·rw [TT q] at hw;cases hw
    ·exact .inr (aL.2 (.inl ((hwd a.tx).2 ⟨a,ha,rfl,q,hw⟩)))
   ·exact (h.elder d hd a ha hw).imp id (fun e=>aL.2 (.inr e))
  ·obtain ⟨o,_,_,q,_⟩:=(hwd x).1 hx;exact q
theorem qK.more{W W':List Int}{k:eh}(h:qK W k)(hs:∀ x∈W,x∈W'):qK W' k:=
 ⟨h.ok,h.alone,h.stuck,fun c hc a ha hw=>(h.elder c hc a ha hw).imp id (hs _)⟩
theorem yOs{W:List Int}{s:fv}{t:Int}(h:∀ k,qK (t :: W) (s k)):∀ k,qK W (gI s t k):=fun k=>by
 have hg:=(yGo (h k).ok t).1;refine qK.less (t:=t) ?_ hg;unfold gI;split
 ·exact yOt (h k) t
 ·exact h k
structure ik where
 nodes:List eH
 heard:Nat
structure jO where
 state:Int
 ats:List Int
 writes:List fR
 time:Int
structure dW where
 lines:List ik
 dead:List Int
 net:ey
 keys:fv
 dV:List jO
def dW.line(h:dW)(k:Nat):ik:=h.lines.getD k ⟨[],0⟩
def dW.tx(h:dW)(id:Nat):jO:=h.dV.getD (id - 1) ⟨0,[],[],0⟩
def dk(h:dW):Nat:=h.lines.length - 1
def Vv(key:ByteArray):Nat:=key.toList.foldl (fun a b=>a+b.toNat) 0
def ee(h:dW)(key:ByteArray):Nat:=Vv key % dk h
def fs(h:dW)(n:eH):Bool:=!(decide (n.id∈h.dead))
def fM(h:dW)(k:Nat):List eH:=(h.line k).nodes.filter (fs h)
def td(h:dW)(k:Nat):Option eH:=match (h.line k).nodes with
 | []=>none
 | n :: _=>if fs h n then some n else none
def rS(h:dW)(k:Nat)(l:ik):dW:={ h with lines:=h.lines.set k l }
def je(h:dW)(k j:Nat)(n:eH):dW:=rS h k ⟨(h.line k).nodes.set j n,(h.line k).heard⟩
def dY(h:dW)(id:Nat)(t:jO):dW:={ h with dV:=h.dV.set (id - 1) t }
def qx(h:dW)(ms:List dp):dW:={ h with net:=ju h.net ms }
def sa(h:dW)(id:Int):Bool:=decide (1<=id) && decide (id<=(h.dV.length:Int))
def ij(h:dW)(id:Int):Int:=if sa h id then (h.tx id.toNat).state else 0
def nX(h:dW)(id:Int):Int:=if ij h id=0 then 7 else if ij h id=1 then 0 else 6
def nA(h:dW)(id:Int)(key:ByteArray):Int:=
 if nX h id≠0 then nX h id else if 20<key.size then 4 else if (td h (ee h key)).isNone then 12 else 0
def oK(h:dW)(id:Int)(key:ByteArray):List Int:=
 ((List.range h.dV.length).map fun (i:Nat)=>(i:Int)+1).filter fun o=>decide (o≠id) && decide (iM (h.keys key).held o≠0)
def oe(h:dW)(id:Int)(key:ByteArray):Bool:=!((oK h id key).any fun o=>decide (o<id) || decide ((h.tx o.toNat).state≠1))
def nr(h:dW)(id:Nat)(st:Int):dW:={ dY h id { h.tx id with state:=st,writes:=[] } with keys:=gI h.keys id }
def gO(h:dW)(id:Nat):dW:=
 nr (if (h.tx id).state=1 then dY h id { h.tx id with ats:=(h.tx id).ats.map fun _=>0 } else h) id 4
def il(h:dW)(ids:List Int):dW:=ids.foldl (fun h i=>if (h.tx i.toNat).state=1 then gO h i.toNat else h) h
def gZ(h:dW)(id:Int)(key:ByteArray)(mode:Int):dW × List Int × Int:=
 ({ h with keys:=jI h.keys key (iI (h.keys key) ⟨id,mode⟩).1 },(iI (h.keys key) ⟨id,mode⟩).2.2.1,(iI (h.keys key) ⟨id,mode⟩).2.2.2)
def jH(h:dW)(id:Int)(key:ByteArray)(mode:Int):dW × List Int × Int:=
 let a:=gZ h id key mode
 if a.2.2=4/\oe a.1 id key=true then gZ (il a.1 (oK a.1 id key)) id key mode else a
def lZ(h:dW)(id k:Nat):dW:=dY h id { h.tx id with ats:=(h.tx id).ats.set k 1 }
def gC(h:dW)(id:Int)(key:ByteArray)(mode:Int):dW × Int:=
 let a:=jH h id key mode
 if a.2.2=9 then (a.1,11) else if a.2.2=4 then (a.1,4) else
  let b:=il (lZ a.1 id.toNat (ee a.1 key)) a.2.1
  (b,if iM (b.keys key).held id<mode then 11 else 0)
def kq(log:List dt)(kind tx:Int):Option Nat:=log.findIdx? fun c=>decide (c.kind=kind) && decide (c.tx=tx)
def pI(log:List dt):List fR:=(log.reverse.filter fun c=>decide (c.kind=3)).flatMap fun c=>((log.getD ((kq log 2 c.tx).getD 0) rT).writes).reverse
def ED(t:jO)(log:List dt):List fR:=t.writes.reverse++pI log
def Fa(t:jO)(log:List dt)(key:ByteArray):ByteArray × Bool:=match (ED t log).find? fun p=>decide (p.key=key) with
 | none=>(ByteArray.empty,false)
 | some p=>if p.gone then (ByteArray.empty,false) else (p.val,true)
def fL(h:dW)(id:Int)(key:ByteArray):dW × ByteArray × Bool × Int:=
 if nA h id key≠0 then (h,ByteArray.empty,false,nA h id key) else
  let a:=gC h id key 1
  if a.2≠0 then (a.1,ByteArray.empty,false,a.2) else
   let v:=Fa (a.1.tx id.toNat) (((h.line (ee h key)).nodes.getD 0 ⟨0,0,[],[],0⟩).log) key
   (a.1,v.1,v.2,0)
def tn(t:jO)(key:ByteArray):Option Nat:=t.writes.findIdx? fun p=>decide (p.key=key)
def qv(t:jO)(key:ByteArray):Bool:=decide (20<=t.writes.length) && (tn t key).isNone
def lV(t:jO)(p:fR):jO:=match tn t p.key with
 | some n=>{ t with writes:=t.writes.set n p }
 | none=>{ t with writes:=t.writes++[p] }
def eZ(h:dW)(id:Int)(p:fR):dW × Int:=
 if 40<p.val.size then (h,4) else if nA h id p.key≠0 then (h,nA h id p.key)
 else if qv (h.tx id.toNat) p.key && oe h id p.key then (h,4)
 else
  let a:=gC h id p.key 2
  if a.2≠0 then a else (dY a.1 id.toNat (lV (a.1.tx id.toNat) p),0)
def tt(h:dW)(t:jO)(k:Nat):List fR:=t.writes.filter fun p=>decide (ee h p.key=k)
def tj(t:jO):Bool:=!(decide ((1:Int)∈t.ats))
def fb(h:dW)(id k:Nat)(time:Int):Option dt:=
 let t:=h.tx id
 if k=dk h then (if t.state=2/\tj t=true then some ⟨3,id,time,[]⟩ else none)
 else if t.ats.getD k 0=0 then none
 else if t.state=2 then some ⟨2,id,0,tt h t k⟩
 else if t.state=3 then some ⟨3,id,t.time,[]⟩
 else if t.state=4 then some ⟨4,id,0,[]⟩
 else none
def tG(n:eH)(c:dt):eH × List dp:=if mR n && decide (n.log.length<500) then mX n c else (n,[])
def dy(h:dW)(k:Nat):eH:=(h.line k).nodes.getD 0 ⟨0,0,[],[],0⟩
def mj(h:dW)(k:Nat)(c:dt):dW:=qx (je h k 0 (tG (dy h k) c).1) (tG (dy h k) c).2
def gE(h:dW)(k:Nat)(log:List dt)(id:Nat):dW:=match fb h id k ((dy h k).log.length+1) with
 | none=>h
 | some c=>if (kq log c.kind id).isNone then mj h k c else h
def eV(h:dW)(k:Nat):dW:=match td h k with
 | none=>h
 | some n=>((List.range h.dV.length).map (·+1)).foldl (fun h id=>gE h k n.log id) h
def jd(h:dW):dW:=(List.range h.lines.length).foldl eV h
def pE(h:dW)(k:Nat):eH:=(h.line k).nodes.getLastD ⟨0,0,[],[],0⟩
def kX(h:dW)(k:Nat):List dt:=(pE h k).log.drop (h.line k).heard
def lW(h:dW)(k:Nat)(c:dt):dW:=
 if k=dk h then nr (dY h c.tx.toNat { h.tx c.tx.toNat with time:=c.time }) c.tx.toNat 3
 else if c.kind=2 then dY h c.tx.toNat { h.tx c.tx.toNat with ats:=(h.tx c.tx.toNat).ats.set k 2 }
 else h
def lk(k:Nat)(h:dW)(c:dt):dW:=rS (lW h k c) k ⟨((lW h k c).line k).nodes,((lW h k c).line k).heard+1⟩
def gX(h:dW)(k:Nat):dW:=(kX h k).foldl (lk k) h
def oI(h:dW):dW:=(List.range h.lines.length).foldl gX h
def qO(h:dW):Bool:=(List.range h.lines.length).any fun k=>!(kX h k).isEmpty
def ez:Nat->dW->dW
 | 0,h=>h
 | n+1,h=>if qO h then ez n (jd (oI h)) else h
def mH(h:dW):dW:=ez (500*h.lines.length+1) h
open Classical in
noncomputable def xr(h:dW)(id:Int):Bool:=decide (∃ k,(h.keys k).waits.any (fun c=>decide (c.tx=id))=true)
noncomputable def fa(h:dW)(id:Int):dW × Int:=
 if nX h id≠0 then (h,nX h id) else if xr h id then (h,11)
 else (mH (jd (dY h id.toNat { h.tx id.toNat with state:=2 })),0)
def pC(h:dW)(id:Int):dW × Int:=if nX h id≠0 then (h,nX h id) else (gO h id.toNat,0)
def xo(h:dW)(ns:List eH)(id:Int):Option Nat:=ns.findIdx? fun n=>fs h n && decide (n.id=id)
def vd(h:dW)(id:Int):Nat->List ik->Option (Nat × Nat)
 | _,[]=>none
 | k,l :: ls=>match xo h l.nodes id with
  | some j=>some (k,j)
  | none=>vd h id (k+1) ls
def mY(h:dW)(id:Int):Option (Nat × Nat):=vd h id 0 h.lines
def eG(h:dW)(k j:Nat):eH:=(h.line k).nodes.getD j ⟨0,0,[],[],0⟩
def lD(h:dW)(k j:Nat)(m:dp):dW:=qx (je h k j (fy (eG h k j) m).1) (fy (eG h k j) m).2
def fH(h:dW)(k:Nat):dW:={ h with net:=Lw h.net k }
def im(h:dW)(k:Nat):dW:=match h.net.way[k]? with
 | none=>h
 | some m=>match mY h m.to with
  | none=>fH h k
  | some (kk,j)=>mH (lD (fH h k) kk j m)
def fD(k:Nat)(h:dW)(j:Nat):dW:=if fs h (eG h k j) then qx (je h k j (kK (eG h k j)).1) (kK (eG h k j)).2 else h
def eM(h:dW)(k:Nat):dW:=(List.range (h.line k).nodes.length).foldl (fD k) h
def jv(h:dW):dW:=(List.range h.lines.length).foldl eM h
def kG(h:dW):Nat:=((List.range h.lines.length).map fun k=>((fM h k).map fun n=>n.log.length).sum).sum
def np(l:ik):Int:=(l.nodes.getD 0 ⟨0,0,[],[],0⟩).db+1
def mZ(l:ik):ik × List dp:=
 (⟨l.nodes.map fun n=>(kK (jK n (np l) (l.nodes.map (·.id)))).1,l.heard⟩,l.nodes.flatMap fun n=>(kK (jK n (np l) (l.nodes.map (·.id)))).2)
def kE(h:dW)(k i:Nat):Bool:=
 let t:=h.tx (i+1)
 decide (t.ats.getD k 0≠0) && (decide (t.state=1) || (decide (t.state=2) && (kq (dy h k).log 2 ((i:Int)+1)).isNone))
def pF(h:dW)(k:Nat):dW:=(List.range h.dV.length).foldl (fun h i=>if kE h k i then gO h (i+1) else h) h
def eK(h:dW)(k:Nat):dW:=
 if (fM h k).length=0\/(fM h k).length=(h.line k).nodes.length then h
 else pF (qx (rS h k (mZ ⟨fM h k,(h.line k).heard⟩).1) (mZ ⟨fM h k,(h.line k).heard⟩).2) k
def jz(h:dW):dW:=mH (jd ((List.range h.lines.length).foldl eK h))
def oa(h:dW)(id:Int):dW × Int:=if (mY h id).isNone then (h,7) else ({ h with dead:=h.dead++[id],net:=Bf h.net id },0)
def LM(id:Int):eH:=⟨id,0,[],[],0⟩
def nt(k nodes:Nat):ik × List dp:=mZ ⟨(List.range nodes).map fun (i:Nat)=>LM (10*(k:Int)+(i:Int)),0⟩
def gT(nodes:Nat):Nat->dW
 | 0=>⟨[],[],⟨[],0,[]⟩,fun _=>⟨[],[]⟩,[]⟩
 | k+1=>let h:=gT nodes k;{ h with lines:=h.lines++[(nt k nodes).1],net:=ju h.net (nt k nodes).2 }
def fS(shards nodes:Nat):dW:=gT nodes (shards+1)
def nC(h:dW):dW:={ h with dV:=h.dV++[⟨1,List.replicate h.lines.length 0,[],0⟩] }
def gG{α:Type}(w:World)(L sz:Nat)(R:α->List Value->Prop)(v:Value)(ds:List α):Prop:=
 ∃ a cap,v=.slice a ds.length cap/\ds.length<=cap/\cap<=maxLen /\
  (ds=[]\/∃ b off,a=some ⟨b,off,none⟩/\b<L/\∀ (i:Nat) d,ds[i]?=some d->∃ cs,R d cs/\cs.length=sz/\∀ (j:Nat) x,cs[j]?=some x->w.cell? ⟨b,off+i*sz+j,none⟩=some x)
theorem gG.mod{α:Type}{G:Nat->Prop}{w w':World}{L sz:Nat}{R R':α->List Value->Prop}{v:Value}{ds:List α}(h:gG w L sz R v ds)(hm:Mod G w w')(hG:∀ k,k<L->¬ G k)(hR:∀ d cs,R d cs->R' d cs):gG w' L sz R' v ds:=by
 obtain ⟨a,cap,h1,h2,h3,h4⟩:=h;refine ⟨a,cap,h1,h2,h3,?_⟩;rcases h4 with h4 | ⟨b,off,h5,h6,h7⟩
 ·exact .inl h4
 ·refine .inr ⟨b,off,h5,h6,fun i d hi=>?_⟩;obtain ⟨cs,k1,k2,k3⟩:=h7 i d hi;exact ⟨cs,hR d cs k1,k2,fun j x hx=>hm.cell (k3 j x hx) (hG b h6)⟩
theorem gG.slice{α:Type}{w:World}{L sz:Nat}{R:α->List Value->Prop}{v:Value}{ds:List α}(h:gG w L sz R v ds):∃ a cap,v=.slice a ds.length cap/\ds.length<=cap/\cap<=maxLen:=by
 obtain ⟨a,cap,h1,h2,h3,_⟩:=h;exact ⟨a,cap,h1,h2,h3⟩
theorem gG.at{α:Type}{w:World}{L sz:Nat}{R:α->List Value->Prop}{a:Option Addr}{n cap:Nat}{ds:List α}(h:gG w L sz R (.slice a n cap) ds){i:Nat}{d:α}(hi:ds[i]?=some d) :
  ∃ b off cs,a=some ⟨b,off,none⟩/\b<L/\R d cs/\cs.length=sz/\∀ (j:Nat) x,cs[j]?=some x->w.cell? ⟨b,off+i*sz+j,none⟩=some x:=by
 obtain ⟨a',cap',h1,_,_,h4⟩:=h;simp only [Value.slice.injEq] at h1;obtain ⟨rfl,_,_⟩:=h1;rcases h4 with rfl | ⟨b,off,h5,h6,h7⟩
 ·simp at hi
 ·obtain ⟨cs,k1,k2,k3⟩:=h7 i d hi;exact ⟨b,off,cs,h5,h6,k1,k2,k3⟩
theorem gG.nil{α:Type}(w:World)(L sz:Nat)(R:α->List Value->Prop):gG w L sz R (.slice none 0 0) []:=⟨none,0,rfl,aF _,aV _,.inl rfl⟩
section
variable {H:Type} {enc:TypeId × Value->H} {P:Program} {w:World} {base:Nat} {spare:Nat->Bool} {held:Bool}
theorem sl_plain{a:Addr}{v:Value}(h:w.cell? (a.add 0)=some v):∃ b off,a=⟨b,off,none⟩:=by
 obtain ⟨b,off,spot⟩:=a;have hs:spot=none:=by simpa [Addr.add] using World.cell?_spot h
 exact ⟨b,off,by rw [hs]⟩
theorem open_slR{α:Type}[Inhabited α]{tS tE:TypeId}{sz:Nat}{R:α->List Value->Prop}(hS:P.underlying tS=some (.slice tE))(hc:P.cellsOf tE=sz)(hz:0<sz)
  (hE:∀ (n:Nat) (cs:List Value) (x:DataW H × List MemPlace),DataW.trod enc P w base spare held n tE cs=some x->∃ d,R d cs)
  {fuel:Nat} {v:Value} {x:DataW H × List MemPlace} (h:DataW.trod enc P w base spare held fuel tS [v]=some x):∃ ds,gG w w.heap.size sz R v ds:=by
 rcases open_slice hS h with ⟨hcs,rfl⟩ | ⟨a,len,cap,m,n,D,Pl,hcs,hb,hl,hm,hmm,rfl,hx⟩
 ·simp only [List.cons.injEq,and_true] at hcs;subst hcs;exact ⟨[],gG.nil _ _ _ _⟩
 ·simp only [List.cons.injEq,and_true] at hcs;subst hcs;have hlm:len<=m:=by rw [hmm];split <;> omega
  rw [hc] at hx;obtain ⟨f,hf⟩:=choose_lt (α:=α) (p:=fun i d=>∃ cs,R d cs/\cs.length=sz/\∀ (j:Nat) y,cs[j]?=some y->w.cell? (a.add (i*sz+j))=some y) (n:=len) (fun i hi=>by
   obtain ⟨cs',h1,h2⟩:=hx i (by omega);obtain ⟨d,hd⟩:=hE n cs' _ h2;obtain ⟨_,hlen,h4⟩:=World.cells?_some h1;refine ⟨d,cs',hd,hlen,fun j y hy=>?_⟩;have hj:j<cs'.length:=(aB.1 hy).1;have:=h4 j (by omega);rw [add_add] at this;rw [this];simpa using hy)
  refine ⟨(List.range len).map f,some a,cap,by simp,by simpa using hl,hm,?_⟩;by_cases h0:len=0
  ·subst h0;exact .inl rfl
  ·right;obtain ⟨cs0,_,hl0,hc0⟩:=hf 0 (by omega);obtain ⟨y0,hy0⟩:∃ y,cs0[0]?=some y:=⟨_,aA (by omega)⟩;have hy:=hc0 0 y0 hy0;rw [cj,ah] at hy;obtain ⟨b,off,rfl⟩:=sl_plain hy;refine ⟨b,off,rfl,World.block_lt_of_cell? w _ (by rw [add_plain] at hy;exact hy),fun i d hd=>?_⟩;have hi:i<len:=by
    have:=(aB.1 hd).1;simpa using this
   have hdf:d=f i:=by
    rw [bF,List.getElem?_range hi] at hd;simpa using hd.symm
   subst hdf;obtain ⟨cs,k1,k2,k3⟩:=hf i hi;refine ⟨cs,k1,k2,fun j y hj=>?_⟩;have:=k3 j y hj;rw [add_plain] at this;rw [cW];exact this
end
theorem dU{p:Prop}(h:p):Hid p:=h
def Yx(d:dg)(cs:List Value):Prop:=cs=[.int .i64 d.tx,.int .i64 d.mode]
def vZ(w:World)(L:Nat)(v:Value)(l:List dg):Prop:=gG w L 2 Yx v l
theorem vZ.mod{G:Nat->Prop}{w w':World}{L:Nat}{v:Value}{l:List dg}(h:vZ w L v l)(hm:Mod G w w')(hG:∀ k,k<L->¬ G k):vZ w' L v l:=gG.mod h hm hG (fun _ _ h=>h)
theorem vZ.at{w:World}{L:Nat}{a:Option Addr}{n cap:Nat}{l:List dg}(h:vZ w L (.slice a n cap) l){i:Nat}{d:dg}(hi:l[i]?=some d) :
  ∃ b off,a=some ⟨b,off,none⟩/\b<L/\w.cell? ⟨b,off+i*2,none⟩=some (.int .i64 d.tx)/\w.cell? ⟨b,off+i*2+1,none⟩=some (.int .i64 d.mode):=by
 obtain ⟨b,off,cs,h1,h2,rfl,_,h5⟩:=gG.at h hi;exact ⟨b,off,h1,h2,by have:=h5 0 _ rfl;simpa using this,h5 1 _ rfl⟩
def qE(x y:Int):Int:=if x<y then -1 else if x > y then 1 else 0
theorem yBx(x:Int)(w:World):Calls Tryz.prog 180 #[.int .i64 x] w fun e w'=>e=.returned (.bool false)/\w'=w:=by
 go_enter Tryz.func180,Tryz.ntmps180;go_wp2_with fail;go_ret;exact ⟨by simp,rfl⟩
theorem yRw(x y:Int)(w:World):Calls Tryz.prog 170 #[.int .i64 x,.int .i64 y] w fun e w'=>e=.returned (.int .i64 (qE x y))/\w'=w:=by
 have H1:=dU (yBx x w);have H2:=dU (yBx y w);have HC:Hid (qE x y=if x<y then -1 else if x > y then 1 else 0):=rfl;generalize qE x y=z at HC;by_cases h1:x<y
 ·have hz:z = -1:=by rw [HC.out,aJ h1]
  subst hz;clear HC;go_enter Tryz.func170,Tryz.ntmps170;go_wp2_with fail;refine H1.out.mono ?_;rintro e w1 ⟨rfl,rfl⟩;go_wp2_with fail;refine H2.out.mono ?_;rintro e w1 ⟨rfl,rfl⟩;go_wp2_with fail;go_ret;exact ⟨rfl,rfl⟩
 ·by_cases h2:x > y
  ·have hz:z=1:=by rw [HC.out,aE h1,aJ h2]
   subst hz;clear HC;go_enter Tryz.func170,Tryz.ntmps170;go_wp2_with fail;refine H1.out.mono ?_;rintro e w1 ⟨rfl,rfl⟩;go_wp2_with fail;refine H2.out.mono ?_;rintro e w1 ⟨rfl,rfl⟩;go_wp2_with fail;go_ret;exact ⟨rfl,rfl⟩
  ·have hz:z=0:=by rw [HC.out,aE h1,aE h2]
   subst hz;clear HC;go_enter Tryz.func170,Tryz.ntmps170;go_wp2_with fail;refine H1.out.mono ?_;rintro e w1 ⟨rfl,rfl⟩;go_wp2_with fail;refine H2.out.mono ?_;rintro e w1 ⟨rfl,rfl⟩;go_wp2_with fail;go_ret;exact ⟨rfl,rfl⟩
theorem zWu(d:dg)(t:Int)(w:World):Calls Tryz.prog 169 #[.agg #[.int .i64 d.tx,.int .i64 d.mode],.int .i64 t] w fun e w'=>e=.returned (.int .i64 (qE d.tx t))/\Mod dZ w w':=by
 have HC:=fun w'=>yRw d.tx t w';have HM:Hid (Mod dZ w (w.alloc (.cells #[.int .i64 d.tx,.int .i64 d.mode] 170))):=(Mod.refl _ w).alloc _;go_enter Tryz.func169,Tryz.ntmps169;go_wp2_with fail;refine (HC _).mono ?_;rintro e w1 ⟨rfl,rfl⟩;go_wp2_with fail;go_ret;exact ⟨rfl,HM.out⟩
theorem yHo{x t:Int}:qE x t<0↔x<t:=by
 unfold qE;split
 ·simp;omega
 split
 ·simp;omega
 ·simp;omega
theorem yOd{x t:Int}:qE x t=0↔x=t:=by
 unfold qE;split
 ·simp;omega
 split
 ·simp;omega
 ·simp;omega
theorem yFs(L:Nat)(v:Value)(l:List dg)(t:Int)(w:World)(hv:vZ w L v l)(hr:jl l)(hl:l.length<=1000) :
  Calls Tryz.prog 168 #[v,.int .i64 t,.func (.func 169) #[] #[]] w fun e w'=>e=.returned (.tuple #[.int .i64 (gW l t),.bool (mB l t)])/\Mod dZ w w':=by
 have HV:=dU hv;obtain ⟨a,cap,rfl,hc1,hc2⟩:=gG.slice hv;have HR:=dU hr;clear hv hr;go_enter Tryz.func168,Tryz.ntmps168;go_wp2_with fail;go_loopw [9,10] (fun x y wr=>∃ i j:Nat,x=.int .i64 i/\y=.int .i64 j/\i<=j/\j<=l.length/\(∀ k d,k<i->l[k]?=some d->d.tx<t)/\(∀ k d,j<=k->l[k]?=some d->t<=d.tx)/\Mod dZ w wr) (fun x y _=>(intOf y).toNat - (intOf x).toNat)
 case atStart=>exact ⟨0,l.length,rfl,rfl,aV _,aF _,fun k d h=>by omega,fun k d h hk=>by have:=(aB.1 hk).1;omega,Mod.refl _ _⟩
 case round=>
  obtain ⟨i,j,rfl,rfl,hij,hj,hlo,hhi,hM⟩:=hrel;have my:=dU hlo;have HHI:=dU hhi;have HM:=dU hM;clear hlo hhi hM;by_cases hlt:i<j
  ·obtain ⟨h,hh⟩:∃ h:Nat,h=(i+j) / 2:=⟨_,rfl⟩;have Rc:h<l.length:=by omega
   obtain ⟨d,hd⟩:∃ d,l[h]?=some d:=⟨_,aA Rc⟩;obtain ⟨b,off,rfl,_,q0,q1⟩:=HV.out.at hd;have p0:=HM.out.cell q0 id;have p1:=HM.out.cell q1 id;have lX:=dU (zWu d t wr);have HD:=dU hd;have kO:(i:Int)<(j:Int):=by omega
   have hhI:(h:Int)<(l.length:Int):=by omega
   have hh0:(0:Int)<=(h:Int):=by omega
   have HHH:Hid (((i:Int)+(j:Int)) / 2=(h:Int)):=(by omega:((i:Int)+(j:Int)) / 2=(h:Int));have wL:=dU hh;clear hd q0 q1 hh;go_upto_region 5 with fail;rw [HHH.out];go_wp2_with fail;refine lX.out.mono ?_;rintro e w5 ⟨rfl,eu⟩;have pA:=dU (HM.out.trans eu);clear eu lX p0 p1;by_cases hgt:d.tx<t
   ·have hdd:decide (qE d.tx t<0)=true:=aQ (yHo.2 hgt);go_wp2_with fail;go_roundw
    case rel=>
     refine ⟨h+1,j,by go_num,rfl,by have:=wL.out;omega,hj,fun k d' hk hd'=>?_,HHI.out,pA.out⟩;have h1:=(ya HR.out t h d HD.out).2 (by omega);exact (ya HR.out t k d' hd').1 (by omega)
    case measure=>have:=wL.out;simp [intOf];omega
   ·have hdd:decide (qE d.tx t<0)=false:=aP (fun h=>hgt (yHo.1 h));go_wp2_with fail;go_roundw
    case rel=>
     refine ⟨i,h,rfl,rfl,by have:=wL.out;omega,by omega,my.out,fun k d' hk hd'=>?_,pA.out⟩;have h1:=mt (ya HR.out t h d HD.out).1 (by omega);have h2:=mt (ya HR.out t k d' hd').2 (by omega);omega
    case measure=>have:=wL.out;simp [intOf];omega
  ·obtain rfl:i=j:=by omega
   have HP:=dU (yMa HR.out hj my.out HHI.out);clear hlt;by_cases hlt:i<l.length
   ·obtain ⟨d,hd⟩:∃ d,l[i]?=some d:=⟨_,aA hlt⟩;obtain ⟨b,off,rfl,_,q0,q1⟩:=HV.out.at hd;have p0:=HM.out.cell q0 id;have p1:=HM.out.cell q1 id;have HF:Hid (mB l t=decide (d.tx=t)):=by unfold mB;rw [HP.out,hd];rfl
    have lX:=dU (zWu d t wr);have wB:(i:Int)<(l.length:Int):=by omega
    have hi0:(0:Int)<=(i:Int):=by omega
    have hzz:(qE d.tx t == 0)=decide (d.tx=t):=by rw [cN,beq_iff_eq,decide_eq_true_iff];exact yOd
    have HZZ:=dU hzz;clear hd q0 q1 hzz;go_wp2_with fail;refine lX.out.mono ?_;rintro e w5 ⟨rfl,eu⟩;have pA:=dU (HM.out.trans eu);clear eu lX p0 p1;go_wp2_with fail;go_ret2;exact ⟨by rw [HP.out,HF.out,<-HZZ.out];rfl,pA.out⟩
   ·have HF:Hid (mB l t=false):=by unfold mB;rw [HP.out,aj (by omega)];rfl
    have wB:¬ (i:Int)<(l.length:Int):=by omega
    go_wp2_with fail;go_ret2;exact ⟨by rw [HP.out,HF.out];rfl,HM.out⟩
theorem yBe(L:Nat)(v:Value)(l:List dg)(t:Int)(w:World)(hv:vZ w L v l)(hr:jl l)(hl:l.length<=1000) :
  Calls Tryz.prog 144 #[v,.int .i64 t] w fun e w'=>e=.returned (.tuple #[.int .i64 (gW l t),.bool (mB l t)])/\Mod dZ w w':=by
 have HB:=dU (yFs L v l t w hv hr hl);obtain ⟨a,cap,rfl,hc1,hc2⟩:=gG.slice hv;clear hv hr;go_enter Tryz.func144,Tryz.ntmps144;go_wp2_with fail;refine HB.out.mono ?_;rintro e w1 ⟨rfl,hm⟩;go_wp2_with fail;go_ret2;exact ⟨rfl,hm⟩
theorem Ln(L:Nat)(v:Value)(l:List dg)(t:Int)(w:World)(hv:vZ w L v l)(hr:jl l)(hl:l.length<=1000) :
  Calls Tryz.prog 110 #[v,.int .i64 t] w fun e w'=>e=.returned (.int .i64 (iM l t))/\Mod dZ w w':=by
 have HB:=dU (yBe L v l t w hv hr hl);have HV:=dU hv;obtain ⟨a,cap,rfl,hc1,hc2⟩:=gG.slice hv;have hle:=QB l t;clear hv hr
 cases hf:mB l t with
 | true=>
  rw [hf] at HB;obtain ⟨c,h1,h2⟩:=MB hf;have PZ:Hid (iM l t=c.mode):=by rw [Hid];unfold iM;rw [h1];simp [h2]
  obtain ⟨b,off,rfl,_,q0,q1⟩:=HV.out.at h1;have hpl:gW l t<l.length:=(aB.1 h1).1;generalize gW l t=n at HB hle q1 hpl;have XO:(n:Int)<(l.length:Int):=by omega
  have hn0:(0:Int)<=(n:Int):=by omega
  clear hf h1 h2 q0;go_enter Tryz.func110,Tryz.ntmps110;go_wp2_with fail;refine HB.out.mono ?_;rintro e w1 ⟨rfl,hm⟩;have p1:=hm.cell q1 id;have HM:=dU hm;clear hm q1;go_wp2_with fail;go_ret;exact ⟨by rw [PZ.out];rfl,HM.out⟩
 | false=>
  rw [hf] at HB;have PZ:Hid (iM l t=0):=by
   rw [Hid];unfold mB at hf;unfold iM
   cases hc:l[gW l t]? with
   | none=>rfl
   | some c=>rw [hc] at hf;simp at hf;simp [hf]
  clear hf;go_enter Tryz.func110,Tryz.ntmps110;go_wp2_with fail;refine HB.out.mono ?_;rintro e w1 ⟨rfl,hm⟩;go_wp2_with fail;go_ret;exact ⟨by rw [PZ.out];rfl,hm⟩
end Go.Proofs.YtmaiggbnceejiaaGreatDoor
