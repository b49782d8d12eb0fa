import Derived.Test.YtogaigioeohjaaaGreatDoorRows
import Derived.Test.YtogaigioeohjaaaGreatDoorD01
import Derived.WalkKit
import Derived.Lib.AppendStr
import Derived.Deep.RegionLaw
import Derived.Deep.AppendLies
import Derived.Deep.DeepCutAuto
import Derived.Deep.Strs
import Derived.Deep.Slices
import Derived.OpenShut
import Derived.Maps.OwnSet
import Derived.Maps.AppendAt
import Derived.RegionTactic
import Derived.ChangeAlike
set_option linter.unusedVariables false
set_option maxRecDepth 100000
set_option maxHeartbeats 16000000
namespace Go.Proofs.YtogaigioeohjaaaGreatDoor
open Go.RowKit
open Go.RowKit
open Go.RowKit
open Go.RowKit
open Go.RowKit
open Go.RowKit Go.Lib
open Go.ChangeShapes Go.WideShapes Go.RowKit Go.Deep
theorem zQx{P:Program}{w:World}{fn:Func}{p:Tmp}{ty:TypeId}{v:Value}(h:fn.results=#[.cell p ty])(tmps:Array Value)(a:Addr)(hp:tmps.getD p undef=.pointer (some a))(hl:(loadVar ty a).run P w=.ok v w):(results fn tmps).run P w=.ok v w:=by
 simp only [results,h]
 simp only [List.mapM_toArray,List.mapM_cons,List.mapM_nil]
 simp [hp,hl,asAddr]
theorem Tryz.info65:(Tryz.prog.info? 65).map (fun i=>(i.zero,i.size,i.bytes))=some (some (.agg #[.string ⟨#[]⟩,.string ⟨#[]⟩,.bool false]),3,40):=by kernel_rfl
def zBe(p:zAz):List Value:=[.string p.key,.string p.val,.bool p.gone]
theorem blk4{w:World}{g:Nat}{a b c d:Value}{t:TypeId}(h:Blk w g [a,b,c,d] t):w.cell? ⟨g,0,none⟩=some a/\w.cell? ⟨g,1,none⟩=some b/\w.cell? ⟨g,2,none⟩=some c/\w.cell? ⟨g,3,none⟩=some d/\w.frozen? ⟨g,0,none⟩=false/\w.frozen? ⟨g,1,none⟩=false/\w.frozen? ⟨g,2,none⟩=false/\w.frozen? ⟨g,3,none⟩=false:=
 ⟨h.cell 0 rfl,h.cell 1 rfl,h.cell 2 rfl,h.cell 3 rfl,h.frozen 0,h.frozen 1,h.frozen 2,h.frozen 3⟩
theorem yFr{w:World}{B:Nat}{a b c d:Value}{t:TypeId}(h:Blk w B [a,b,c,d] t):(loadVar 108 ⟨B,0,none⟩).run Tryz.prog w=.ok (.agg #[a,b,c,d]) w:=by
 obtain ⟨k0,k1,k2,k3,_⟩:=blk4 h
 simp [go_sem,k0,k1,k2,k3]
theorem blk9{w:World}{g:Nat}{a0 a1 a2 a3 a4 a5 a6 a7 a8:Value}{t:TypeId}(h:Blk w g [a0,a1,a2,a3,a4,a5,a6,a7,a8] t) :
  (w.cell? ⟨g,0,none⟩=some a0/\w.cell? ⟨g,1,none⟩=some a1/\w.cell? ⟨g,2,none⟩=some a2/\w.cell? ⟨g,3,none⟩=some a3/\w.cell? ⟨g,4,none⟩=some a4/\w.cell? ⟨g,5,none⟩=some a5/\w.cell? ⟨g,6,none⟩=some a6/\w.cell? ⟨g,7,none⟩=some a7/\w.cell? ⟨g,8,none⟩=some a8) /\
  (w.frozen? ⟨g,0,none⟩=false/\w.frozen? ⟨g,1,none⟩=false/\w.frozen? ⟨g,2,none⟩=false/\w.frozen? ⟨g,3,none⟩=false/\w.frozen? ⟨g,4,none⟩=false/\w.frozen? ⟨g,5,none⟩=false/\w.frozen? ⟨g,6,none⟩=false/\w.frozen? ⟨g,7,none⟩=false/\w.frozen? ⟨g,8,none⟩=false):=
 ⟨⟨h.cell 0 rfl,h.cell 1 rfl,h.cell 2 rfl,h.cell 3 rfl,h.cell 4 rfl,h.cell 5 rfl,h.cell 6 rfl,h.cell 7 rfl,h.cell 8 rfl⟩,
  h.frozen 0,h.frozen 1,h.frozen 2,h.frozen 3,h.frozen 4,h.frozen 5,h.frozen 6,h.frozen 7,h.frozen 8⟩
theorem zYa{w:World}{B:Nat}{a0 a1 a2 a3 a4 a5 a6 a7 a8:Value}{t:TypeId}(h:Blk w B [a0,a1,a2,a3,a4,a5,a6,a7,a8] t):(loadVar 110 ⟨B,0,none⟩).run Tryz.prog w=.ok (.agg #[a0,a1,a2,a3,a4,a5,a6,a7,a8]) w:=by
 obtain ⟨⟨k0,k1,k2,k3,k4,k5,k6,k7,k8⟩,_⟩:=blk9 h
 simp [go_sem,k0,k1,k2,k3,k4,k5,k6,k7,k8]
theorem zDb{P:Program}{w:World}{fn:Func}{p u:Tmp}{ty:TypeId}{v x:Value}(h:fn.results=#[.cell p ty,.tmp u])(tmps:Array Value)(a:Addr)(hp:tmps.getD p undef=.pointer (some a))(hx:tmps.getD u undef=x)(hl:(loadVar ty a).run P w=.ok v w):(results fn tmps).run P w=.ok (.tuple #[v,x]) w:=by
 rw [results_cell_tmp h]
 simp [hp,hl,hx,asAddr]
def put9(w:World)(N:Nat)(u0 u1 u2 u3 u4 u5 u6 u7 u8:Value):World:=(((((((((w.setCell ⟨N,0,none⟩ u0).setCell ⟨N,1,none⟩ u1).setCell ⟨N,2,none⟩ u2).setCell ⟨N,3,none⟩ u3).setCell ⟨N,4,none⟩ u4).setCell ⟨N,5,none⟩ u5).setCell ⟨N,6,none⟩ u6).setCell ⟨N,7,none⟩ u7).setCell ⟨N,8,none⟩ u8)
theorem yPj{w:World}{N:Nat}{a0 a1 a2 a3 a4 a5 a6 a7 a8:Value}{t:TypeId}(hB:Blk w N [a0,a1,a2,a3,a4,a5,a6,a7,a8] t)(u0 u1 u2 u3 u4 u5 u6 u7 u8:Value):Blk (put9 w N u0 u1 u2 u3 u4 u5 u6 u7 u8) N [u0,u1,u2,u3,u4,u5,u6,u7,u8] t:=
 (((((((((hB.set 0 _).set 1 _).set 2 _).set 3 _).set 4 _).set 5 _).set 6 _).set 7 _).set 8 _)
theorem zLf(w:World)(N:Nat)(u0 u1 u2 u3 u4 u5 u6 u7 u8:Value):Mod (zAd N) w (put9 w N u0 u1 u2 u3 u4 u5 u6 u7 u8):=
 (((((((Mod.setBlk N 0 u0).trans (Mod.setBlk N 1 u1)).trans (Mod.setBlk N 2 u2)).trans (Mod.setBlk N 3 u3)).trans (Mod.setBlk N 4 u4)).trans (Mod.setBlk N 5 u5)).trans (Mod.setBlk N 6 u6)).trans ((Mod.setBlk N 7 u7).trans (Mod.setBlk N 8 u8))
theorem yFk{w:World}{N:Nat}{a0 a1 a2 a3 a4 a5 a6 a7 a8:Value}{t:TypeId}(hB:Blk w N [a0,a1,a2,a3,a4,a5,a6,a7,a8] t)(u0 u1 u2 u3 u4 u5 u6 u7 u8:Value):(loadVar 110 ⟨N,0,none⟩).run Tryz.prog (put9 w N u0 u1 u2 u3 u4 u5 u6 u7 u8)=.ok (.agg #[u0,u1,u2,u3,u4,u5,u6,u7,u8]) (put9 w N u0 u1 u2 u3 u4 u5 u6 u7 u8):=zYa (yPj hB u0 u1 u2 u3 u4 u5 u6 u7 u8)
def msgV(m:MsgD)(v:Value):Value:=.agg #[.int .i64 m.kind,.int .i64 m.frm,.int .i64 m.to,.int .i64 m.epoch,.int .i64 m.n,.int .i64 m.cmd.kind,.int .i64 m.cmd.tx,.int .i64 m.cmd.time,v]
theorem Tryz.info108:(Tryz.prog.info? 108).map (fun i=>(i.zero,i.size,i.bytes))=some (some (.agg #[.int .i64 0,.int .i64 0,.int .i64 0,.slice none 0 0]),4,48):=by kernel_rfl
def zEm(c:CmdD)(v:Value):List Value:=[.int .i64 c.kind,.int .i64 c.tx,.int .i64 c.time,v]
def zGr:List CmdD->List Value->List Value
 | c :: cs,v :: vs=>zEm c v++zGr cs vs
 | _,_=>[]
theorem zOh:∀ (cs:List CmdD) (vs:List Value) (c:CmdD) (v:Value),vs.length=cs.length->zGr (cs++[c]) (vs++[v])=zGr cs vs++zEm c v
 | [],[],c,v,_=>by simp [zGr]
 | [],_ :: _,_,_,h=>by simp at h
 | _ :: _,[],_,_,h=>by simp at h
 | c' :: cs,v' :: vs,c,v,h=>by simp [zGr,zOh cs vs c v (by simpa using h)]
theorem yNr(c:CmdD)(a:Option Addr)(n cap:Nat):∀ u∈zEm c (.slice a n cap),u.oneCell'=true:=by
 intro u hu;simp [zEm] at hu;rcases hu with rfl | rfl | rfl | rfl <;> rfl
theorem Hmr{p:Prop}(h:p):Hid p:=h
def yOj(w:World)(L:Nat)(v:Value)(ps:List zAz):Prop:=
 ∃ a cap,v=.slice a ps.length cap/\ps.length<=cap/\cap<=maxLen /\
  (ps=[]\/∃ b off,a=some ⟨b,off,none⟩/\b<L/\∀ j p,ps[j]?=some p->w.cell? ⟨b,off+j*3,none⟩=some (.string p.key)/\w.cell? ⟨b,off+j*3+1,none⟩=some (.string p.val)/\w.cell? ⟨b,off+j*3+2,none⟩=some (.bool p.gone))
theorem yTf:∀ (ps:List zAz) (j:Nat) (p:zAz),ps[j]?=some p->(ps.flatMap zBe)[j*3]?=some (.string p.key)/\(ps.flatMap zBe)[j*3+1]?=some (.string p.val)/\(ps.flatMap zBe)[j*3+2]?=some (.bool p.gone)
 | [],j,p,h=>by simp at h
 | q :: ps,0,p,h=>by simp at h;subst h;simp [zBe]
 | q :: ps,j+1,p,h=>by
  have ih:=yTf ps j p (by simpa using h)
  have e:∀ i,((q :: ps).flatMap zBe)[i+3]?=(ps.flatMap zBe)[i]?:=fun i=>by
   simp [zBe]
  rw [show (j+1)*3=j*3+3 by omega,show j*3+3+1=j*3+1+3 by omega,show j*3+3+2=j*3+2+3 by omega,e,e,e]
  exact ih
theorem yOj.of_own{w:World}{B L:Nat}{v:Value}{ps:List zAz}(h:w.ownsRow B 65 3 v ps.length (ps.flatMap zBe))(hL:w.heap.size<=L):yOj w L v ps:=by
 rcases h.2 with ⟨rfl,h0⟩ | ⟨g,cap,cur,rfl,_,hg,h1,h2,_,_⟩
 ·have:ps=[]:=List.eq_nil_of_length_eq_zero h0
  subst this
  exact ⟨none,0,rfl,Nat.le_refl _,Nat.zero_le _,.inl rfl⟩
 ·have hc:=h.cells (g:=g) rfl
  have add0:∀ j,(⟨g,0,none⟩:Addr).add j=⟨g,0+j,none⟩:=fun j=>by unfold Addr.add;split <;> simp_all
  refine ⟨_,cap,rfl,h1,h2,.inr ⟨g,0,rfl,by have:=(Array.getElem?_eq_some_iff.1 hg).1;omega,fun j p hp=>?_⟩⟩
  obtain ⟨f1,f2,f3⟩:=yTf ps j p hp
  refine ⟨?_,?_,?_⟩
  ·have:=hc _ _ f1;rw [add0] at this;exact this
  ·have:=hc _ _ f2;rw [add0] at this;rw [Nat.add_assoc];exact this
  ·have:=hc _ _ f3;rw [add0] at this;rw [Nat.add_assoc];exact this
section
variable {H:Type} {enc:TypeId × Value->H} {P:Program} {w:World} {base:Nat} {spare:Nat->Bool} {held:Bool}
end
section
variable {H:Type} {enc:TypeId × Value->H} {w:World} {base:Nat} {spare:Nat->Bool} {held:Bool}
def zBc(x:Int):Prop:=-9223372036854775808<=x/\x<=9223372036854775807
def intsC(c:CmdD):Prop:=zBc c.kind/\zBc c.tx/\zBc c.time
def yTa(m:MsgD):Prop:=zBc m.kind/\zBc m.frm/\zBc m.to/\zBc m.epoch/\zBc m.n/\intsC m.cmd
instance:Inhabited zAz:=⟨⟨ByteArray.empty,ByteArray.empty,false⟩⟩
instance:Inhabited CmdD:=⟨zHu⟩
instance:Inhabited MsgD:=⟨yJt⟩
end
end Go.Proofs.YtogaigioeohjaaaGreatDoor
namespace Go.Proofs.YtogaigioeohjaaaGreatDoor
open Go.RowKit Go.Lib Go.Maps
theorem kInt:Keyed Tryz.prog 3:=int_keyed Tryz.underlying3
theorem yEy(w:World):(zeroValue 119).run Tryz.prog w=.ok (.agg #[]) w:=by kernel_rfl
def zEz(w:World)(L:Nat)(mr:Option Nat)(ds:List Int):Prop:=
 (mr=none/\ds=[])\/∃ b,∃ D:DataW Unit,mr=some b/\L<=b/\w.ownsMap Tryz.prog 3 unitElem b ds.length D/\∀ x,(Lit.int .i64 x).wf=true->Maps.has D (.int .i64 x)=decide (x∈ds)
theorem zEz.mod{G:Nat->Prop}{w w':World}{L:Nat}{mr:Option Nat}{ds:List Int}(h:zEz w L mr ds)(hm:Mod G w w')(hG:∀ k,mr=some k->¬ G k):zEz w' L mr ds:=by
 rcases h with h | ⟨b,D,rfl,h2,h3,h4⟩
 ·exact .inl h
 ·have hlt:=h3.lt
  obtain ⟨es,clock,hb,r⟩:=h3
  exact .inr ⟨b,D,rfl,h2,⟨es,clock,(hm.block b hlt (hG b rfl)).trans hb,r⟩,h4⟩
theorem zRp{x:Int}(h:zBc x):(Lit.int .i64 x).wf=true:=WalkArith.wf_i64 ⟨h.1,h.2⟩
theorem zGc{w:World}{L:Nat}{mr:Option Nat}{ds:List Int}(h:zEz w L mr ds){x:Int}(hx:zBc x) :
  (Instr.lookup 81 (.map mr) (.int .i64 x) true).run Tryz.prog w=.ok (.tuple #[.agg #[],.bool (decide (x∈ds))]) w:=by
 have hk:keyOf Tryz.prog 3 (.int .i64 x)=some (.int .i64 x):=keyOf_int_mk Tryz.underlying3 (zRp hx)
 rcases h with ⟨rfl,rfl⟩ | ⟨b,D,rfl,_,h3,h4⟩
 ·have:=Maps.look_nil (w:=w) true kInt Tryz.underlying81 (yEy w) hk
  simpa using this
 ·obtain ⟨v,ps,hrun,hv⟩:=h3.look_ok kInt Tryz.underlying81 (yEy w) unitElem_mk hk
  obtain ⟨rfl,_⟩:=unitElem_inv hv
  rw [hrun,h4 x (zRp hx)]
def zDx(ds:List Int)(m:MsgD):Bool:=decide (m.frm∈ds) || decide (m.to∈ds)
theorem zRw(g q L:Nat)(m:MsgD)(u:Value)(mr:Option Nat)(ds:List Int)(w:World)(hq:w.cell? ⟨q,0,none⟩=some (.pointer (some ⟨g,2,none⟩)))(hg2:w.cell? ⟨g,4,none⟩=some (.map mr))(hd:zEz w L mr ds)(hi:yTa m) :
  Calls Tryz.prog 185 #[.agg #[.int .i64 m.kind,.int .i64 m.frm,.int .i64 m.to,.int .i64 m.epoch,.int .i64 m.n,.int .i64 m.cmd.kind,.int .i64 m.cmd.tx,.int .i64 m.cmd.time,u],.pointer (some ⟨q,0,none⟩)] w fun e w'=>e=.returned (.bool (zDx ds m))/\Mod zAb w w':=by
 obtain ⟨w1,hw1⟩:∃ q,q=w.alloc (.cells #[.int .i64 m.kind,.int .i64 m.frm,.int .i64 m.to,.int .i64 m.epoch,.int .i64 m.n,.int .i64 m.cmd.kind,.int .i64 m.cmd.tx,.int .i64 m.cmd.time,u] 110):=⟨_,rfl⟩
 have hB1:Blk w1 w.heap.size [.int .i64 m.kind,.int .i64 m.frm,.int .i64 m.to,.int .i64 m.epoch,.int .i64 m.n,.int .i64 m.cmd.kind,.int .i64 m.cmd.tx,.int .i64 m.cmd.time,u] 110:=by rw [hw1];exact Blk.new w _ _
 have hM1:Mod zAb w w1:=by rw [hw1];exact (Mod.refl _ w).alloc _
 have hq1:=hM1.cell hq id
 have hg1:=hM1.cell hg2 id
 have hd1:=hd.mod hM1 (fun _ _=>id)
 have l1:(Instr.lookup 81 (.map mr) (.int .i64 m.frm) true).run Tryz.prog w1.drew=.ok (.tuple #[.agg #[],.bool (decide (m.frm∈ds))]) w1.drew:=zGc (hd1.mod ((Mod.refl zAb w1).drew) (fun _ _=>id)) hi.2.1
 have l1':(Instr.lookup 81 (.map mr) (.int .i64 m.frm) true).run Tryz.prog (w1.alloc (.cells #[] 119)).drew=.ok (.tuple #[.agg #[],.bool (decide (m.frm∈ds))]) (w1.alloc (.cells #[] 119)).drew:=zGc (hd1.mod (((Mod.refl zAb w1).alloc _).drew) (fun _ _=>id)) hi.2.1
 obtain ⟨⟨c0,c1,c2,c3,c4,c5,c6,c7,c8⟩,_⟩:=blk9 hB1
 have z1:=hB1.lt
 have z2:q<w1.heap.size:=World.block_lt_of_cell? w1 _ hq1
 have z3:g<w1.heap.size:=World.block_lt_of_cell? w1 _ hg1
 have HI:=Hmr hi
 have HD:=Hmr hd1
 clear hq hg2 hd hi hd1
 go_enter Tryz.func185,Tryz.ntmps185
 go_wp2_with fail
 rw [<-hw1]
 clear hw1
 go_cut [5] (fun t wc=>t=.bool (decide (m.frm∈ds))/\Blk wc w.heap.size [.int .i64 m.kind,.int .i64 m.frm,.int .i64 m.to,.int .i64 m.epoch,.int .i64 m.n,.int .i64 m.cmd.kind,.int .i64 m.cmd.tx,.int .i64 m.cmd.time,u] 110/\Mod zAb w1 wc)
 case first=>
  go_region
  all_goals
   go_wp2_with fail
   go_meet
   case rel=>exact ⟨rfl,hB1.mod ((Mod.refl zAb w1).alloc _).drew id,((Mod.refl zAb w1).alloc _).drew⟩
 case rest=>
  obtain ⟨rfl,hB2,hM2⟩:=hcut
  have hq2:=hM2.cell hq1 id
  have hg2:=hM2.cell hg1 id
  have hd2:=zEz.mod HD.out hM2 (fun _ _=>id)
  clear l1 l1' c0 c1 c2 c3 c4 c5 c6 c7 c8 hq1 hg1 z1 z2 z3 hB1
  have l1:(Instr.lookup 81 (.map mr) (.int .i64 m.to) true).run Tryz.prog wc.drew=.ok (.tuple #[.agg #[],.bool (decide (m.to∈ds))]) wc.drew:=zGc (hd2.mod ((Mod.refl zAb wc).drew) (fun _ _=>id)) HI.out.2.2.1
  have l1':(Instr.lookup 81 (.map mr) (.int .i64 m.to) true).run Tryz.prog (wc.alloc (.cells #[] 119)).drew=.ok (.tuple #[.agg #[],.bool (decide (m.to∈ds))]) (wc.alloc (.cells #[] 119)).drew:=zGc (hd2.mod (((Mod.refl zAb wc).alloc _).drew) (fun _ _=>id)) HI.out.2.2.1
  obtain ⟨⟨c0,c1,c2,c3,c4,c5,c6,c7,c8⟩,_⟩:=blk9 hB2
  have z1:=hB2.lt
  have z2:q<wc.heap.size:=World.block_lt_of_cell? wc _ hq2
  have z3:g<wc.heap.size:=World.block_lt_of_cell? wc _ hg2
  clear hd2 HD HI
  go_upto_region 2 with fail
  go_cut [7] (fun t wd=>t=.bool (decide (m.to∈ds))/\Mod zAb wc wd)
  case first=>
   go_region
   all_goals
    go_wp2_with fail
    go_meet
    case rel=>exact ⟨rfl,((Mod.refl zAb wc).alloc _).drew⟩
  case rest=>
   obtain ⟨rfl,hM3⟩:=hcut
   clear l1 l1'
   have hM:=(hM1.trans hM2).trans hM3
   cases h1:decide (m.frm∈ds) <;> cases h2:decide (m.to∈ds)
   all_goals
    go_wp2_with fail
    go_ret
    exact ⟨by simp only [zDx,h1,h2];rfl,hM⟩
structure Lo where
 n:Nat
 x:Nat->Prop
instance:Coe Lo Nat:=⟨Lo.n⟩
def St(w:World)(L:Lo)(k:Nat):Prop:=k<L.n\/(∃ cur fr,w.heap[k]?=some (.cells cur 65 fr))/\¬ L.x k
def Qm(w:World)(L:Lo)(G:Nat->Prop):Prop:=∀ k,k<w.heap.size->G k->¬ St w L k
theorem Qm.none(w:World)(L:Lo):Qm w L zAb:=fun _ _ h=>h.elim
theorem St.mod{G:Nat->Prop}{w w':World}{L:Lo}{k:Nat}(h:St w L k)(hm:Mod G w w')(hq:Qm w L G):St w' L k:=by
 rcases h with h | ⟨⟨cur,fr,h⟩,hx⟩
 ·exact .inl h
 ·have hlt:=(Array.getElem?_eq_some_iff.1 h).1
  exact .inr ⟨⟨cur,fr,(hm.block k hlt (fun g=>hq k hlt g (.inr ⟨⟨cur,fr,h⟩,hx⟩))).trans h⟩,hx⟩
def zAy(w:World)(L:Lo)(v:Value)(ps:List zAz):Prop:=
 ∃ a cap,v=.slice a ps.length cap/\ps.length<=cap/\cap<=maxLen /\
  (ps=[]\/∃ b off,a=some ⟨b,off,none⟩/\St w L b/\∀ j p,ps[j]?=some p->w.cell? ⟨b,off+j*3,none⟩=some (.string p.key)/\w.cell? ⟨b,off+j*3+1,none⟩=some (.string p.val)/\w.cell? ⟨b,off+j*3+2,none⟩=some (.bool p.gone))
theorem zAy.mod{G:Nat->Prop}{w w':World}{L:Lo}{v:Value}{ps:List zAz}(h:zAy w L v ps)(hm:Mod G w w')(hq:Qm w L G):zAy w' L v ps:=by
 obtain ⟨a,cap,h1,h2,h3,h4⟩:=h
 refine ⟨a,cap,h1,h2,h3,?_⟩
 rcases h4 with h4 | ⟨b,off,h5,h6,h7⟩
 ·exact .inl h4
 ·have hn:∀ (j:Nat) (u:Value),w.cell? ⟨b,j,none⟩=some u->w'.cell? ⟨b,j,none⟩=some u:=fun j u hu=>hm.cell hu (fun g=>hq b (World.block_lt_of_cell? w _ hu) g h6)
  exact .inr ⟨b,off,h5,h6.mod hm hq,fun j p hp=>⟨hn _ _ (h7 j p hp).1,hn _ _ (h7 j p hp).2.1,hn _ _ (h7 j p hp).2.2⟩⟩
theorem zAy.of_own{w:World}{B:Nat}{L:Lo}{v:Value}{ps:List zAz}(h:w.ownsRow B 65 3 v ps.length (ps.flatMap zBe))(hx:∀ k,L.x k->k<B):zAy w L v ps:=by
 have hr:=yOj.of_own h (Nat.le_refl _)
 obtain ⟨a,cap,h1,h2,h3,h4⟩:=hr
 refine ⟨a,cap,h1,h2,h3,?_⟩
 rcases h4 with h4 | ⟨b,off,h5,h6,h7⟩
 ·exact .inl h4
 ·rcases h.2 with ⟨h0,h0'⟩ | ⟨g,cap',cur,h0,hBg,hg,_⟩
  ·exact .inl (List.eq_nil_of_length_eq_zero h0')
  ·rw [h0] at h1
   simp only [Value.slice.injEq] at h1
   rw [h5] at h1
   simp at h1
   obtain ⟨⟨rfl,rfl⟩,rfl⟩:=h1
   exact .inr ⟨g,0,h5,.inr ⟨⟨cur,_,hg⟩,fun e=>by have:=hx _ e;omega⟩,h7⟩
theorem zAy.nil(w:World)(L:Lo):zAy w L (.slice none 0 0) []:=⟨none,0,rfl,Nat.le_refl _,Nat.zero_le _,.inl rfl⟩
def zAt(m:MsgD)(u:Value):List Value:=[.int .i64 m.kind,.int .i64 m.frm,.int .i64 m.to,.int .i64 m.epoch,.int .i64 m.n,.int .i64 m.cmd.kind,.int .i64 m.cmd.tx,.int .i64 m.cmd.time,u]
theorem yDn(m:MsgD)(a:Option Addr)(n cap:Nat):∀ u∈zAt m (.slice a n cap),u.oneCell'=true:=by
 intro u hu;simp [zAt] at hu;rcases hu with rfl | rfl | rfl | rfl | rfl | rfl | rfl | rfl | rfl <;> rfl
theorem zOa(ps:List zAz):∀ u∈ps.flatMap zBe,u.oneCell'=true:=by
 intro u hu
 obtain ⟨p,_,hp⟩:=List.mem_flatMap.1 hu
 simp [zBe] at hp;rcases hp with rfl | rfl | rfl <;> rfl
theorem zKf(ps:List zAz):(ps.flatMap zBe).length=ps.length*3:=by
 induction ps with
 | nil=>rfl
 | cons p ps ih=>simp only [List.flatMap_cons,List.length_append,ih,zBe,List.length_cons,List.length_nil];omega
theorem zAy.cells{w:World}{L:Lo}{a:Option Addr}{n cap:Nat}{ps:List zAz}(h:zAy w L (.slice a n cap) ps)(h0:ps≠[]) :
  ∃ b off,a=some ⟨b,off,none⟩/\∀ (j:Nat) u,(ps.flatMap zBe)[j]?=some u->w.cell? ((⟨b,off,none⟩:Addr).add j)=some u:=by
 obtain ⟨a',cap',h1,_,_,h4⟩:=h
 simp only [Value.slice.injEq] at h1
 obtain ⟨rfl,_,rfl⟩:=h1
 rcases h4 with h4 | ⟨b,off,h5,h6,h7⟩
 ·exact absurd h4 h0
 ·refine ⟨b,off,h5,fun j u hu=>?_⟩
  rw [Go.WideShapes.add_plain]
  have hj:j<ps.length*3:=by
   have:=(List.getElem?_eq_some_iff.1 hu).1
   rw [zKf] at this;exact this
  obtain ⟨p,hp⟩:∃ p,ps[j / 3]?=some p:=⟨_,List.getElem?_eq_getElem (by omega)⟩
  obtain ⟨f0,f1,f2⟩:=yTf ps (j / 3) p hp
  obtain ⟨q0,q1,q2⟩:=h7 (j / 3) p hp
  have hc:j % 3=0\/j % 3=1\/j % 3=2:=by omega
  rcases hc with hc | hc | hc
  ·have e:j / 3*3=j:=by omega
   rw [e] at f0 q0
   rw [f0] at hu;cases hu;exact q0
  ·have e:j / 3*3+1=j:=by omega
   rw [e] at f1
   rw [f1] at hu;cases hu
   rw [show off+j=off+j / 3*3+1 by omega];exact q1
  ·have e:j / 3*3+2=j:=by omega
   rw [e] at f2
   rw [f2] at hu;cases hu
   rw [show off+j=off+j / 3*3+2 by omega];exact q2
theorem yEr(a:Option Addr)(cap:Nat)(ty:TypeId)(w:World):(Builtin.append_ #[95,95] ty #[.slice none 0 0,.slice a 0 cap]).run Tryz.prog w=.ok (.slice none 0 0) w:=by
 cases a <;> kernel_rfl
theorem zHl{w:World}{ops:Array Oper}{rest:List Oper}{o:Oper}{a:Act}{Q:Exit->Act->World->Prop}(hgd:o.guard=none)(s x:Operand)
  (ho:o.op=.call { callee:=.builtin .append,args:=#[s,x],argTypes:=#[95,95] }) (hs:a.eval s=.slice none 0 0) (ad:Option Addr) (cap:Nat) (hx:a.eval x=.slice ad 0 cap)
  (h:wpList Tryz.prog ops Q rest (a.put o.dst (.slice none 0 0)) w):wpList Tryz.prog ops Q (o :: rest) a w:=by
 refine wpList_plain hgd fun K hK=>?_
 have hr:=yEr ad cap o.type w
 unfold Oper.wp execOp
 simp only [ho,resolve,invoke,builtin,Sem.run_bind,Sem.run_pure,Result.andThen_ok,List.map_toArray,List.map_cons,List.map_nil,hs,hx,hr]
 exact hK _ _ h
theorem yPo(L:Lo)(m:MsgD)(u:Value)(w:World)(hu:zAy w L u m.cmd.writes)(hl:m.cmd.writes.length<=1000000) :
  Calls Tryz.prog 131 #[.agg #[.int .i64 m.kind,.int .i64 m.frm,.int .i64 m.to,.int .i64 m.epoch,.int .i64 m.n,.int .i64 m.cmd.kind,.int .i64 m.cmd.tx,.int .i64 m.cmd.time,u]] w fun e w'=>
   ∃ u',e=.returned (msgV m u')/\w'.ownsRow w.heap.size 65 3 u' m.cmd.writes.length (m.cmd.writes.flatMap zBe)/\Mod zAb w w':=by
 obtain ⟨i0,hi,hz0,hz1,hz2⟩:=info_parts Tryz.info65
 have hu0:=hu
 obtain ⟨a,cap,rfl,hpc,hcm,_⟩:=hu0
 go_enter Tryz.func131,Tryz.ntmps131
 by_cases h0:m.cmd.writes=[]
 ·have h00:m.cmd.writes.length=0:=by rw [h0];rfl
  rw [h00]
  have HF:Hid (m.cmd.writes.flatMap zBe=[]):=by rw [Hid,h0];rfl
  go_wp2_with (first
   | (at_builtin;refine zHl rfl _ _ rfl rfl _ _ rfl ?_)
   | fail)
  have hb:Blk ((w.alloc (.cells #[.int .i64 m.kind,.int .i64 m.frm,.int .i64 m.to,.int .i64 m.epoch,.int .i64 m.n,.int .i64 m.cmd.kind,.int .i64 m.cmd.tx,.int .i64 m.cmd.time,.slice none 0 0] 110)).alloc (.cells #[.int .i64 m.kind,.int .i64 m.frm,.int .i64 m.to,.int .i64 m.epoch,.int .i64 m.n,.int .i64 m.cmd.kind,.int .i64 m.cmd.tx,.int .i64 m.cmd.time,.slice none 0 0] 110)) (w.heap.size+1) [.int .i64 m.kind,.int .i64 m.frm,.int .i64 m.to,.int .i64 m.epoch,.int .i64 m.n,.int .i64 m.cmd.kind,.int .i64 m.cmd.tx,.int .i64 m.cmd.time,.slice none 0 0] 110:=by
   have:=Blk.new (w.alloc (.cells #[.int .i64 m.kind,.int .i64 m.frm,.int .i64 m.to,.int .i64 m.epoch,.int .i64 m.n,.int .i64 m.cmd.kind,.int .i64 m.cmd.tx,.int .i64 m.cmd.time,.slice none 0 0] 110)) [.int .i64 m.kind,.int .i64 m.frm,.int .i64 m.to,.int .i64 m.epoch,.int .i64 m.n,.int .i64 m.cmd.kind,.int .i64 m.cmd.tx,.int .i64 m.cmd.time,.slice none 0 0] 110
   rw [World.size_alloc] at this;exact this
  refine bodyPost_ret (zQx Tryz.results131 _ ⟨w.heap.size+1,0,none⟩ rfl (zYa hb)) rfl ⟨.slice none 0 0,rfl,?_,((Mod.refl _ w).alloc _).alloc _⟩
  rw [HF.out]
  exact World.ownsRow_nil _ _ _ _
 ·obtain ⟨b,off,rfl,hcl⟩:=hu.cells h0
  have hM2:Mod zAb w ((w.alloc (.cells #[.int .i64 m.kind,.int .i64 m.frm,.int .i64 m.to,.int .i64 m.epoch,.int .i64 m.n,.int .i64 m.cmd.kind,.int .i64 m.cmd.tx,.int .i64 m.cmd.time,.slice (some ⟨b,off,none⟩) m.cmd.writes.length cap] 110)).alloc (.cells #[.int .i64 0,.int .i64 0,.int .i64 0,.int .i64 0,.int .i64 0,.int .i64 0,.int .i64 0,.int .i64 0,.slice none 0 0] 110)):=((Mod.refl _ w).alloc _).alloc _
  have HCL:Hid (∀ (j:Nat) u,(m.cmd.writes.flatMap zBe)[j]?=some u->((w.alloc (.cells #[.int .i64 m.kind,.int .i64 m.frm,.int .i64 m.to,.int .i64 m.epoch,.int .i64 m.n,.int .i64 m.cmd.kind,.int .i64 m.cmd.tx,.int .i64 m.cmd.time,.slice (some ⟨b,off,none⟩) m.cmd.writes.length cap] 110)).alloc (.cells #[.int .i64 0,.int .i64 0,.int .i64 0,.int .i64 0,.int .i64 0,.int .i64 0,.int .i64 0,.int .i64 0,.slice none 0 0] 110)).cell? ((⟨b,off,none⟩:Addr).add j)=some u):=fun j u hju=>hM2.cell (hcl j u hju) id
  have HLC:=Hmr (zKf m.cmd.writes)
  have HON:=Hmr (zOa m.cmd.writes)
  have hk63:0+m.cmd.writes.length<=maxLen:=by unfold maxLen;omega
  have hk47:(0+m.cmd.writes.length)*40<=140737488355328:=by omega
  clear hcl hu
  go_wp2_with (first
   | (at_builtin;refine wpList_append_own _ rfl _ _ 95 rfl (w.heap.size+1+1) 65 i0 _ 3 40 Tryz.underlying95 hi hz0 hz1 hz2 rfl (by omega) _ _ _ rfl (World.ownsRow_nil _ _ _ _) ⟨b,off,none⟩ _ _ (m.cmd.writes.flatMap zBe) rfl HLC.out HCL.out HON.out hk63 hk47 (by simp) ?_)
   | fail)
  intro v' w1 hown1 hgrow _
  have hm1:=(Mod.refl zAb _).grown hgrow (fun x hx _=>by simp [Value.ownBlock] at hx)
  have hB1:=((Blk.new w [.int .i64 m.kind,.int .i64 m.frm,.int .i64 m.to,.int .i64 m.epoch,.int .i64 m.n,.int .i64 m.cmd.kind,.int .i64 m.cmd.tx,.int .i64 m.cmd.time,.slice (some ⟨b,off,none⟩) m.cmd.writes.length cap] 110).mod ((Mod.refl zAb _).alloc (.cells #[.int .i64 0,.int .i64 0,.int .i64 0,.int .i64 0,.int .i64 0,.int .i64 0,.int .i64 0,.int .i64 0,.slice none 0 0] 110)) id).mod hm1 id
  have hB2:=(Blk.new (w.alloc (.cells #[.int .i64 m.kind,.int .i64 m.frm,.int .i64 m.to,.int .i64 m.epoch,.int .i64 m.n,.int .i64 m.cmd.kind,.int .i64 m.cmd.tx,.int .i64 m.cmd.time,.slice (some ⟨b,off,none⟩) m.cmd.writes.length cap] 110)) [.int .i64 0,.int .i64 0,.int .i64 0,.int .i64 0,.int .i64 0,.int .i64 0,.int .i64 0,.int .i64 0,.slice none 0 0] 110).mod hm1 id
  rw [World.size_alloc] at hB2
  have hM1:=hM2.trans hm1
  obtain ⟨⟨x0,x1,x2,x3,x4,x5,x6,x7,x8⟩,⟨y0,y1,y2,y3,y4,y5,y6,y7,y8⟩⟩:=blk9 hB1
  obtain ⟨⟨p0,p1,p2,p3,p4,p5,p6,p7,p8⟩,⟨q0,q1,q2,q3,q4,q5,q6,q7,q8⟩⟩:=blk9 hB2
  obtain ⟨va,vc,rfl⟩:=zAg hown1
  have HO:=Hmr hown1
  clear hown1 hgrow hm1 HCL HLC HON hM2
  go_wp2_with fail
  have hB2':=hB2.mod (Mod.setBlk (w:=w1) w.heap.size 8 (.slice va m.cmd.writes.length vc)) (by simp [zAd])
  have hOW:w1.ownsRow (w.heap.size+1+1) 65 3 (.slice va m.cmd.writes.length vc) m.cmd.writes.length (m.cmd.writes.flatMap zBe):=by simpa using HO.out
  refine bodyPost_ret (zQx Tryz.results131 _ ⟨w.heap.size+1,0,none⟩ rfl (yFk hB2' _ _ _ _ _ _ _ _ _)) rfl ⟨.slice va m.cmd.writes.length vc,rfl,?_,?_⟩
  ·refine zEk (zAn (G:=zAd (w.heap.size+1)) (zAn (G:=zAd w.heap.size) hOW (Mod.setBlk _ 8 _) (fun k hk _ _ e=>by simp only [zAd] at e;omega)) (zLf _ _ _ _ _ _ _ _ _ _ _) (fun k hk _ _ e=>by simp only [zAd] at e;omega)) (by omega)
  ·have h1:Mod (zDd w.heap.size) w (w1.setCell ⟨w.heap.size,8,none⟩ (.slice va m.cmd.writes.length vc)):=Mod.put (hM1.mono (fun _ _ e=>e.elim)) _ _ (Nat.le_refl _) _
   have h2:=h1.trans ((zLf (w1.setCell ⟨w.heap.size,8,none⟩ (.slice va m.cmd.writes.length vc)) (w.heap.size+1) (.int .i64 m.kind) (.int .i64 m.frm) (.int .i64 m.to) (.int .i64 m.epoch) (.int .i64 m.n) (.int .i64 m.cmd.kind) (.int .i64 m.cmd.tx) (.int .i64 m.cmd.time) (.slice va m.cmd.writes.length vc)).mono (G':=zDd w.heap.size) (fun i _ e=>by simp only [zAd,zDd] at e ⊢;omega))
   exact h2.mono (fun i hi e=>by simp only [zDd] at e;omega)
def zAj:List MsgD->List Value->List Value
 | m :: ms,u :: us=>zAt m u++zAj ms us
 | _,_=>[]
theorem zHj:∀ (ms:List MsgD) (us:List Value) (m:MsgD) (u:Value),us.length=ms.length->zAj (ms++[m]) (us++[u])=zAj ms us++zAt m u
 | [],[],m,u,_=>by simp [zAj]
 | [],_ :: _,_,_,h=>by simp at h
 | _ :: _,[],_,_,h=>by simp at h
 | m' :: ms,u' :: us,m,u,h=>by simp [zAj,zHj ms us m u (by simpa using h)]
theorem zCn:∀ (ms:List MsgD) (us:List Value),us.length=ms.length->(zAj ms us).length=ms.length*9
 | [],_,_=>by simp [zAj]
 | _ :: _,[],h=>by simp at h
 | m :: ms,u :: us,h=>by simp only [zAj,List.length_append,zCn ms us (by simpa using h),zAt,List.length_cons,List.length_nil];omega
theorem zQh:∀ (ms:List MsgD) (us:List Value) (i:Nat) (m:MsgD) (u:Value),us.length=ms.length->ms[i]?=some m->us[i]?=some u->∀ j x,(zAt m u)[j]?=some x->(zAj ms us)[i*9+j]?=some x
 | [],_,_,_,_,_,h,_,_,_,_=>by simp at h
 | _ :: _,[],_,_,_,h,_,_,_,_,_=>by simp at h
 | m' :: ms,u' :: us,0,m,u,_,h,h',j,x,hx=>by
  simp at h h';subst h h'
  have hj:j<(zAt m' u').length:=(List.getElem?_eq_some_iff.1 hx).1
  rw [Nat.zero_mul,Nat.zero_add,zAj,List.getElem?_append_left hj];exact hx
 | m' :: ms,u' :: us,i+1,m,u,hl,h,h',j,x,hx=>by
  have:=zQh ms us i m u (by simpa using hl) (by simpa using h) (by simpa using h') j x hx
  have e:(i+1)*9+j=(zAt m' u').length+(i*9+j):=by simp [zAt];omega
  rw [e,zAj,List.getElem?_append_right (by omega),Nat.add_sub_cancel_left];exact this
def zJg(m:MsgD):Prop:=yTa m/\m.cmd.writes.length<=40
def RowM(w:World)(L:Lo)(v:Value)(ms:List MsgD):Prop:=
 ∃ us:List Value,us.length=ms.length/\w.ownsRow L 110 9 v ms.length (zAj ms us)/\(∀ (i:Nat) m u,ms[i]?=some m->us[i]?=some u->zAy w L u m.cmd.writes)/\∀ m∈ms,zJg m
theorem RowM.nil(w:World)(L:Lo):RowM w L (.slice none 0 0) []:=⟨[],rfl,World.ownsRow_nil _ _ _ _,fun i m u h=>by simp at h,by simp⟩
theorem RowM.mod{G:Nat->Prop}{w w':World}{L:Lo}{v:Value}{ms:List MsgD}(h:RowM w L v ms)(hm:Mod G w w')(hq:Qm w L G)(hG:∀ k,v.ownBlock=some k->¬ G k):RowM w' L v ms:=by
 obtain ⟨us,h1,h2,h3,h4⟩:=h
 exact ⟨us,h1,zAn h2 hm (fun k _ _ e=>hG k e),fun i m u hi hu=>(h3 i m u hi hu).mod hm hq,h4⟩
theorem RowM.at{w:World}{L:Lo}{v:Value}{ms:List MsgD}(h:RowM w L v ms){i:Nat}{m:MsgD}(hi:ms[i]?=some m) :
  ∃ g cap u,v=.slice (some ⟨g,0,none⟩) ms.length cap/\ms.length<=cap/\cap<=maxLen/\zAy w L u m.cmd.writes/\zJg m /\
   w.cell? ⟨g,i*9,none⟩=some (.int .i64 m.kind)/\w.cell? ⟨g,i*9+1,none⟩=some (.int .i64 m.frm)/\w.cell? ⟨g,i*9+2,none⟩=some (.int .i64 m.to)/\w.cell? ⟨g,i*9+3,none⟩=some (.int .i64 m.epoch)/\w.cell? ⟨g,i*9+4,none⟩=some (.int .i64 m.n) /\
   w.cell? ⟨g,i*9+5,none⟩=some (.int .i64 m.cmd.kind)/\w.cell? ⟨g,i*9+6,none⟩=some (.int .i64 m.cmd.tx)/\w.cell? ⟨g,i*9+7,none⟩=some (.int .i64 m.cmd.time)/\w.cell? ⟨g,i*9+8,none⟩=some u:=by
 obtain ⟨us,h1,h2,h3,h4⟩:=h
 have hlt:i<ms.length:=(List.getElem?_eq_some_iff.1 hi).1
 obtain ⟨u,hu⟩:∃ u,us[i]?=some u:=⟨_,List.getElem?_eq_getElem (by omega)⟩
 rcases h2.2 with ⟨_,h0⟩ | ⟨g,cap,cur,rfl,_,hg,hc1,hc2,_,_⟩
 ·omega
 ·have hc:=h2.cells (g:=g) rfl
  have add0:∀ j,(⟨g,0,none⟩:Addr).add j=⟨g,j,none⟩:=fun j=>by rw [Go.WideShapes.add_plain,Nat.zero_add]
  have key:∀ j x,(zAt m u)[j]?=some x->w.cell? ⟨g,i*9+j,none⟩=some x:=fun j x hx=>by
   have:=hc _ _ (zQh ms us i m u h1 hi hu j x hx)
   rw [add0] at this;exact this
  exact ⟨g,cap,u,rfl,hc1,hc2,h3 i m u hi hu,h4 m (List.mem_of_getElem? hi),key 0 _ rfl,key 1 _ rfl,key 2 _ rfl,key 3 _ rfl,key 4 _ rfl,key 5 _ rfl,key 6 _ rfl,key 7 _ rfl,key 8 _ rfl⟩
structure Ext where
 (a0 a1 a5 a6:Value)
structure NetS where
 way:List MsgD
 lost:Int
 down:List Int
variable {E:Ext}
structure NetP(E:Ext)(w:World)(L:Lo)(g:Nat)(wv:Value)(mr:Option Nat)(s:NetS):Prop where
 blk:Blk w g [E.a0,E.a1,wv,.int .i64 s.lost,.map mr,E.a5,E.a6] 90
 low:L<=g
 row:RowM w L wv s.way
 dn:zEz w L mr s.down
 few:s.way.length<=200
 lo:0<=s.lost/\s.lost<=4611686018427387904
 xb:∀ k,L.x k->k<w.heap.size
def zDi(g:Nat)(wv:Value)(mr:Option Nat)(k:Nat):Prop:=k=g\/wv.ownBlock=some k\/mr=some k
theorem NetP.lt{w:World}{L:Lo}{g:Nat}{wv:Value}{mr:Option Nat}{s:NetS}(h:NetP E w L g wv mr s){k:Nat}(hk:zDi g wv mr k):L<=k/\k<w.heap.size/\¬ St w L k:=by
 rcases hk with rfl | hk | hk
 ·refine ⟨h.low,h.blk.lt,?_⟩
  rintro (e | ⟨⟨cur,fr,e⟩,_⟩)
  ·have:=h.low;omega
  ·have:=h.blk;simp only [Blk] at this;rw [this] at e;simp at e
 ·obtain ⟨us,_,h2,_⟩:=h.row
  rcases h2.2 with ⟨e,_⟩ | ⟨g',cap,cur,e,h1,hg,_⟩
  ·rw [e] at hk;simp [Value.ownBlock] at hk
  ·rw [e] at hk;simp [Value.ownBlock] at hk
   subst hk
   refine ⟨h1,(Array.getElem?_eq_some_iff.1 hg).1,?_⟩
   rintro (e' | ⟨⟨cur',fr,e'⟩,_⟩)
   ·omega
   ·rw [hg] at e';simp at e'
 ·rcases h.dn with ⟨e,_⟩ | ⟨b,D,e,h1,h2,_⟩
  ·rw [e] at hk;cases hk
  ·rw [e] at hk;cases hk
   refine ⟨h1,h2.lt,?_⟩
   obtain ⟨es,clock,hb,_⟩:=h2
   rintro (e' | ⟨⟨cur',fr,e'⟩,_⟩)
   ·omega
   ·rw [hb] at e';simp at e'
theorem NetP.qm{w:World}{L:Lo}{g:Nat}{wv:Value}{mr:Option Nat}{s:NetS}(h:NetP E w L g wv mr s):Qm w L (zDi g wv mr):=fun _ _ hk=>(h.lt hk).2.2
theorem NetP.mod{G:Nat->Prop}{w w':World}{L:Lo}{g:Nat}{wv:Value}{mr:Option Nat}{s:NetS}(h:NetP E w L g wv mr s)(hm:Mod G w w')(hq:Qm w L G)(hG:∀ k,zDi g wv mr k->¬ G k):NetP E w' L g wv mr s:=
 ⟨h.blk.mod hm (hG g (.inl rfl)),h.low,h.row.mod hm hq (fun k hk=>hG k (.inr (.inl hk))),h.dn.mod hm (fun k hk=>hG k (.inr (.inr hk))),h.few,h.lo,fun k hk=>Nat.lt_of_lt_of_le (h.xb k hk) hm.size⟩
theorem RowM.slice{w:World}{L:Lo}{v:Value}{ms:List MsgD}(h:RowM w L v ms):∃ a cap,v=.slice a ms.length cap:=by
 obtain ⟨us,_,h2,_⟩:=h;exact zAg h2
theorem zXm(L:Lo)(g:Nat)(wv:Value)(mr:Option Nat)(s:NetS)(w:World)(h:NetP E w L g wv mr s) :
  Calls Tryz.prog 130 #[.pointer (some ⟨g,2,none⟩)] w fun e w'=>e=.returned (.bool (decide (s.way.length<200)))/\w'=w:=by
 obtain ⟨a,cap,rfl⟩:=h.row.slice
 have c0:=h.blk.cell 2 rfl
 have hd:decide ((s.way.length:Int)<200)=decide (s.way.length<200):=decide_eq_decide.2 (by omega)
 clear h
 go_enter Tryz.func130,Tryz.ntmps130
 go_wp2_with fail
 go_ret
 exact ⟨rfl,rfl⟩
theorem yQe(L:Lo)(g:Nat)(wv:Value)(mr:Option Nat)(s:NetS)(w:World)(h:NetP E w L g wv mr s) :
  Calls Tryz.prog 171 #[.pointer (some ⟨g,2,none⟩)] w fun e w'=>e=.returned (.int .i64 s.way.length)/\w'=w:=by
 obtain ⟨a,cap,rfl⟩:=h.row.slice
 have c0:=h.blk.cell 2 rfl
 clear h
 go_enter Tryz.func171,Tryz.ntmps171
 go_wp2_with fail
 go_ret
 exact ⟨rfl,rfl⟩
def hasB(s:NetS)(k:Int):Bool:=decide (0<=k) && decide (k<(s.way.length:Int))
theorem zSw(L:Lo)(g:Nat)(wv:Value)(mr:Option Nat)(s:NetS)(k:Int)(w:World)(h:NetP E w L g wv mr s) :
  Calls Tryz.prog 124 #[.pointer (some ⟨g,2,none⟩),.int .i64 k] w fun e w'=>e=.returned (.bool (hasB s k))/\w'=w:=by
 obtain ⟨a,cap,rfl⟩:=h.row.slice
 have c0:=h.blk.cell 2 rfl
 clear h
 go_enter Tryz.func124,Tryz.ntmps124
 by_cases h1:0<=k
 ·have hd:decide (0<=k)=true:=by simpa using h1
  go_wp2_with fail
  go_ret
  exact ⟨by simp only [hasB,hd,Bool.true_and];rfl,rfl⟩
 ·have hd:decide (0<=k)=false:=by simpa using h1
  go_wp2_with fail
  go_ret
  exact ⟨by simp only [hasB,hd,Bool.false_and];rfl,rfl⟩
theorem zUw(g:Nat)(w:World) :
  Calls Tryz.prog 129 #[.pointer (some ⟨g,2,none⟩)] w fun e w'=>w'=w.alloc (.cells #[.pointer (some ⟨g,2,none⟩)] 153)/\e=.returned (.func (.func 185) #[] #[.pointer (some ⟨w.heap.size,0,none⟩)]):=by
 go_enter Tryz.func129,Tryz.ntmps129
 go_wp2_with fail
 go_ret
 exact ⟨rfl,rfl⟩
end Go.Proofs.YtogaigioeohjaaaGreatDoor
