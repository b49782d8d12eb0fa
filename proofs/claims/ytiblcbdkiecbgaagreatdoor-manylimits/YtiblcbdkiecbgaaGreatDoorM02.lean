import Derived.Test.YtiblcbdkiecbgaaGreatDoorRows
import Derived.Test.YtiblcbdkiecbgaaGreatDoorM01
import Derived.WalkKit
import Derived.Lib.AppendStr
import Derived.Deep.RegionLaw
import Derived.Deep.AppendLies
import Derived.Deep.DeepCutAuto
import Derived.Deep.Strs
import Derived.Deep.Slices
import Derived.OpenShut
import Derived.Maps.OwnSet
import Derived.Maps.AppendAt
import Derived.RegionTactic
import Derived.ChangeAlike
set_option linter.unusedVariables false
set_option maxRecDepth 100000
set_option maxHeartbeats 16000000
namespace Go.Proofs.YtiblcbdkiecbgaaGreatDoor
open Go.RowKit
open Go.RowKit
open Go.RowKit
open Go.RowKit
open Go.RowKit
open Go.RowKit Go.Lib
open Go.ChangeShapes Go.WideShapes Go.RowKit Go.Deep
theorem res_cell{P:Program}{w:World}{fn:Func}{p:Tmp}{ty:TypeId}{v:Value}(h:fn.results=#[.cell p ty])(tmps:Array Value)(a:Addr)(hp:tmps.getD p undef=.pointer (some a))(hl:(loadVar ty a).run P w=.ok v w):(results fn tmps).run P w=.ok v w:=by
 simp only [results,h]
 simp only [List.mapM_toArray,List.mapM_cons,List.mapM_nil]
 simp [hp,hl,asAddr]
theorem Tryz.info121:(Tryz.prog.info? 121).map (fun i=>(i.zero,i.size,i.bytes))=some (some (.agg #[.string ⟨#[]⟩,.string ⟨#[]⟩,.bool false]),3,40):=by kernel_rfl
def pairCells(p:PairD):List Value:=[.string p.key,.string p.val,.bool p.gone]
theorem blk9{w:World}{g:Nat}{a0 a1 a2 a3 a4 a5 a6 a7 a8:Value}{t:TypeId}(h:Blk w g [a0,a1,a2,a3,a4,a5,a6,a7,a8] t) :
  (w.cell? ⟨g,0,none⟩=some a0/\w.cell? ⟨g,1,none⟩=some a1/\w.cell? ⟨g,2,none⟩=some a2/\w.cell? ⟨g,3,none⟩=some a3/\w.cell? ⟨g,4,none⟩=some a4/\w.cell? ⟨g,5,none⟩=some a5/\w.cell? ⟨g,6,none⟩=some a6/\w.cell? ⟨g,7,none⟩=some a7/\w.cell? ⟨g,8,none⟩=some a8) /\
  (w.frozen? ⟨g,0,none⟩=false/\w.frozen? ⟨g,1,none⟩=false/\w.frozen? ⟨g,2,none⟩=false/\w.frozen? ⟨g,3,none⟩=false/\w.frozen? ⟨g,4,none⟩=false/\w.frozen? ⟨g,5,none⟩=false/\w.frozen? ⟨g,6,none⟩=false/\w.frozen? ⟨g,7,none⟩=false/\w.frozen? ⟨g,8,none⟩=false):=
 ⟨⟨h.cell 0 rfl,h.cell 1 rfl,h.cell 2 rfl,h.cell 3 rfl,h.cell 4 rfl,h.cell 5 rfl,h.cell 6 rfl,h.cell 7 rfl,h.cell 8 rfl⟩,
  h.frozen 0,h.frozen 1,h.frozen 2,h.frozen 3,h.frozen 4,h.frozen 5,h.frozen 6,h.frozen 7,h.frozen 8⟩
theorem load_msg{w:World}{B:Nat}{a0 a1 a2 a3 a4 a5 a6 a7 a8:Value}{t:TypeId}(h:Blk w B [a0,a1,a2,a3,a4,a5,a6,a7,a8] t):(loadVar 178 ⟨B,0,none⟩).run Tryz.prog w=.ok (.agg #[a0,a1,a2,a3,a4,a5,a6,a7,a8]) w:=by
 obtain ⟨⟨k0,k1,k2,k3,k4,k5,k6,k7,k8⟩,_⟩:=blk9 h
 simp [go_sem,k0,k1,k2,k3,k4,k5,k6,k7,k8]
def put9(w:World)(N:Nat)(u0 u1 u2 u3 u4 u5 u6 u7 u8:Value):World:=(((((((((w.setCell ⟨N,0,none⟩ u0).setCell ⟨N,1,none⟩ u1).setCell ⟨N,2,none⟩ u2).setCell ⟨N,3,none⟩ u3).setCell ⟨N,4,none⟩ u4).setCell ⟨N,5,none⟩ u5).setCell ⟨N,6,none⟩ u6).setCell ⟨N,7,none⟩ u7).setCell ⟨N,8,none⟩ u8)
theorem put9_blk{w:World}{N:Nat}{a0 a1 a2 a3 a4 a5 a6 a7 a8:Value}{t:TypeId}(hB:Blk w N [a0,a1,a2,a3,a4,a5,a6,a7,a8] t)(u0 u1 u2 u3 u4 u5 u6 u7 u8:Value):Blk (put9 w N u0 u1 u2 u3 u4 u5 u6 u7 u8) N [u0,u1,u2,u3,u4,u5,u6,u7,u8] t:=
 (((((((((hB.set 0 _).set 1 _).set 2 _).set 3 _).set 4 _).set 5 _).set 6 _).set 7 _).set 8 _)
theorem put9_only(w:World)(N:Nat)(u0 u1 u2 u3 u4 u5 u6 u7 u8:Value):Mod (oneBlock N) w (put9 w N u0 u1 u2 u3 u4 u5 u6 u7 u8):=
 (((((((Mod.setBlk N 0 u0).trans (Mod.setBlk N 1 u1)).trans (Mod.setBlk N 2 u2)).trans (Mod.setBlk N 3 u3)).trans (Mod.setBlk N 4 u4)).trans (Mod.setBlk N 5 u5)).trans (Mod.setBlk N 6 u6)).trans ((Mod.setBlk N 7 u7).trans (Mod.setBlk N 8 u8))
theorem put9_res{w:World}{N:Nat}{a0 a1 a2 a3 a4 a5 a6 a7 a8:Value}{t:TypeId}(hB:Blk w N [a0,a1,a2,a3,a4,a5,a6,a7,a8] t)(u0 u1 u2 u3 u4 u5 u6 u7 u8:Value):(loadVar 178 ⟨N,0,none⟩).run Tryz.prog (put9 w N u0 u1 u2 u3 u4 u5 u6 u7 u8)=.ok (.agg #[u0,u1,u2,u3,u4,u5,u6,u7,u8]) (put9 w N u0 u1 u2 u3 u4 u5 u6 u7 u8):=load_msg (put9_blk hB u0 u1 u2 u3 u4 u5 u6 u7 u8)
def msgV(m:MsgD)(v:Value):Value:=.agg #[.int .i64 m.kind,.int .i64 m.frm,.int .i64 m.to,.int .i64 m.epoch,.int .i64 m.n,.int .i64 m.cmd.kind,.int .i64 m.cmd.tx,.int .i64 m.cmd.time,v]
def cmdCells(c:CmdD)(v:Value):List Value:=[.int .i64 c.kind,.int .i64 c.tx,.int .i64 c.time,v]
def logCells:List CmdD->List Value->List Value
 | c :: cs,v :: vs=>cmdCells c v++logCells cs vs
 | _,_=>[]
theorem Hmr{p:Prop}(h:p):Hid p:=h
def PairsR(w:World)(L:Nat)(v:Value)(ps:List PairD):Prop:=
 ∃ a cap,v=.slice a ps.length cap/\ps.length<=cap/\cap<=maxLen /\
  (ps=[]\/∃ b off,a=some ⟨b,off,none⟩/\b<L/\∀ j p,ps[j]?=some p->w.cell? ⟨b,off+j*3,none⟩=some (.string p.key)/\w.cell? ⟨b,off+j*3+1,none⟩=some (.string p.val)/\w.cell? ⟨b,off+j*3+2,none⟩=some (.bool p.gone))
theorem flat3:∀ (ps:List PairD) (j:Nat) (p:PairD),ps[j]?=some p->(ps.flatMap pairCells)[j*3]?=some (.string p.key)/\(ps.flatMap pairCells)[j*3+1]?=some (.string p.val)/\(ps.flatMap pairCells)[j*3+2]?=some (.bool p.gone)
 | [],j,p,h=>by simp at h
 | q :: ps,0,p,h=>by simp at h;subst h;simp [pairCells]
 | q :: ps,j+1,p,h=>by
  have ih:=flat3 ps j p (by simpa using h)
  have e:∀ i,((q :: ps).flatMap pairCells)[i+3]?=(ps.flatMap pairCells)[i]?:=fun i=>by
   simp [pairCells]
  rw [show (j+1)*3=j*3+3 by omega,show j*3+3+1=j*3+1+3 by omega,show j*3+3+2=j*3+2+3 by omega,e,e,e]
  exact ih
theorem PairsR.of_own{w:World}{B L:Nat}{v:Value}{ps:List PairD}(h:w.ownsRow B 121 3 v ps.length (ps.flatMap pairCells))(hL:w.heap.size<=L):PairsR w L v ps:=by
 rcases h.2 with ⟨rfl,h0⟩ | ⟨g,cap,cur,rfl,_,hg,h1,h2,_,_⟩
 ·have:ps=[]:=List.eq_nil_of_length_eq_zero h0
  subst this
  exact ⟨none,0,rfl,Nat.le_refl _,Nat.zero_le _,.inl rfl⟩
 ·have hc:=h.cells (g:=g) rfl
  have add0:∀ j,(⟨g,0,none⟩:Addr).add j=⟨g,0+j,none⟩:=fun j=>by unfold Addr.add;split <;> simp_all
  refine ⟨_,cap,rfl,h1,h2,.inr ⟨g,0,rfl,by have:=(Array.getElem?_eq_some_iff.1 hg).1;omega,fun j p hp=>?_⟩⟩
  obtain ⟨f1,f2,f3⟩:=flat3 ps j p hp
  refine ⟨?_,?_,?_⟩
  ·have:=hc _ _ f1;rw [add0] at this;exact this
  ·have:=hc _ _ f2;rw [add0] at this;rw [Nat.add_assoc];exact this
  ·have:=hc _ _ f3;rw [add0] at this;rw [Nat.add_assoc];exact this
section
variable {H:Type} {enc:TypeId × Value->H} {P:Program} {w:World} {base:Nat} {spare:Nat->Bool} {held:Bool}
end
section
variable {H:Type} {enc:TypeId × Value->H} {w:World} {base:Nat} {spare:Nat->Bool} {held:Bool}
def int64(x:Int):Prop:=-9223372036854775808<=x/\x<=9223372036854775807
def intsC(c:CmdD):Prop:=int64 c.kind/\int64 c.tx/\int64 c.time
def intsM(m:MsgD):Prop:=int64 m.kind/\int64 m.frm/\int64 m.to/\int64 m.epoch/\int64 m.n/\intsC m.cmd
instance:Inhabited PairD:=⟨⟨ByteArray.empty,ByteArray.empty,false⟩⟩
instance:Inhabited CmdD:=⟨zeroCmd⟩
instance:Inhabited MsgD:=⟨zeroMsg⟩
end
end Go.Proofs.YtiblcbdkiecbgaaGreatDoor
namespace Go.Proofs.YtiblcbdkiecbgaaGreatDoor
open Go.RowKit Go.Lib Go.Maps
theorem kInt:Keyed Tryz.prog 3:=int_keyed Tryz.underlying3
theorem zeroUnit(w:World):(zeroValue 34).run Tryz.prog w=.ok (.agg #[]) w:=by kernel_rfl
def DownAt(w:World)(L:Nat)(mr:Option Nat)(ds:List Int):Prop:=
 (mr=none/\ds=[])\/∃ b,∃ D:DataW Unit,mr=some b/\L<=b/\w.ownsMap Tryz.prog 3 unitElem b ds.length D/\∀ x,(Lit.int .i64 x).wf=true->Maps.has D (.int .i64 x)=decide (x∈ds)
theorem DownAt.mod{G:Nat->Prop}{w w':World}{L:Nat}{mr:Option Nat}{ds:List Int}(h:DownAt w L mr ds)(hm:Mod G w w')(hG:∀ k,mr=some k->¬ G k):DownAt w' L mr ds:=by
 rcases h with h | ⟨b,D,rfl,h2,h3,h4⟩
 ·exact .inl h
 ·have hlt:=h3.lt
  obtain ⟨es,clock,hb,r⟩:=h3
  exact .inr ⟨b,D,rfl,h2,⟨es,clock,(hm.block b hlt (hG b rfl)).trans hb,r⟩,h4⟩
theorem wf_of64{x:Int}(h:int64 x):(Lit.int .i64 x).wf=true:=WalkArith.wf_i64 ⟨h.1,h.2⟩
theorem lookup_down{w:World}{L:Nat}{mr:Option Nat}{ds:List Int}(h:DownAt w L mr ds){x:Int}(hx:int64 x) :
  (Instr.lookup 150 (.map mr) (.int .i64 x) true).run Tryz.prog w=.ok (.tuple #[.agg #[],.bool (decide (x∈ds))]) w:=by
 have hk:keyOf Tryz.prog 3 (.int .i64 x)=some (.int .i64 x):=keyOf_int_mk Tryz.underlying3 (wf_of64 hx)
 rcases h with ⟨rfl,rfl⟩ | ⟨b,D,rfl,_,h3,h4⟩
 ·have:=Maps.look_nil (w:=w) true kInt Tryz.underlying150 (zeroUnit w) hk
  simpa using this
 ·obtain ⟨v,ps,hrun,hv⟩:=h3.look_ok kInt Tryz.underlying150 (zeroUnit w) unitElem_mk hk
  obtain ⟨rfl,_⟩:=unitElem_inv hv
  rw [hrun,h4 x (wf_of64 hx)]
def silentB(ds:List Int)(m:MsgD):Bool:=decide (m.frm∈ds) || decide (m.to∈ds)
theorem silent1_any(g q L:Nat)(m:MsgD)(u:Value)(mr:Option Nat)(ds:List Int)(w:World)(hq:w.cell? ⟨q,0,none⟩=some (.pointer (some ⟨g,2,none⟩)))(hg2:w.cell? ⟨g,4,none⟩=some (.map mr))(hd:DownAt w L mr ds)(hi:intsM m) :
  Calls Tryz.prog 219 #[.agg #[.int .i64 m.kind,.int .i64 m.frm,.int .i64 m.to,.int .i64 m.epoch,.int .i64 m.n,.int .i64 m.cmd.kind,.int .i64 m.cmd.tx,.int .i64 m.cmd.time,u],.pointer (some ⟨q,0,none⟩)] w fun e w'=>e=.returned (.bool (silentB ds m))/\Mod noBlock w w':=by
 obtain ⟨w1,hw1⟩:∃ q,q=w.alloc (.cells #[.int .i64 m.kind,.int .i64 m.frm,.int .i64 m.to,.int .i64 m.epoch,.int .i64 m.n,.int .i64 m.cmd.kind,.int .i64 m.cmd.tx,.int .i64 m.cmd.time,u] 178):=⟨_,rfl⟩
 have hB1:Blk w1 w.heap.size [.int .i64 m.kind,.int .i64 m.frm,.int .i64 m.to,.int .i64 m.epoch,.int .i64 m.n,.int .i64 m.cmd.kind,.int .i64 m.cmd.tx,.int .i64 m.cmd.time,u] 178:=by rw [hw1];exact Blk.new w _ _
 have hM1:Mod noBlock w w1:=by rw [hw1];exact (Mod.refl _ w).alloc _
 have hq1:=hM1.cell hq id
 have hg1:=hM1.cell hg2 id
 have hd1:=hd.mod hM1 (fun _ _=>id)
 have l1:(Instr.lookup 150 (.map mr) (.int .i64 m.frm) true).run Tryz.prog w1.drew=.ok (.tuple #[.agg #[],.bool (decide (m.frm∈ds))]) w1.drew:=lookup_down (hd1.mod ((Mod.refl noBlock w1).drew) (fun _ _=>id)) hi.2.1
 have l1':(Instr.lookup 150 (.map mr) (.int .i64 m.frm) true).run Tryz.prog (w1.alloc (.cells #[] 34)).drew=.ok (.tuple #[.agg #[],.bool (decide (m.frm∈ds))]) (w1.alloc (.cells #[] 34)).drew:=lookup_down (hd1.mod (((Mod.refl noBlock w1).alloc _).drew) (fun _ _=>id)) hi.2.1
 obtain ⟨⟨c0,c1,c2,c3,c4,c5,c6,c7,c8⟩,_⟩:=blk9 hB1
 have z1:=hB1.lt
 have z2:q<w1.heap.size:=World.block_lt_of_cell? w1 _ hq1
 have z3:g<w1.heap.size:=World.block_lt_of_cell? w1 _ hg1
 have HI:=Hmr hi
 have HD:=Hmr hd1
 clear hq hg2 hd hi hd1
 go_enter Tryz.func219,Tryz.ntmps219
 go_wp2_with fail
 rw [<-hw1]
 clear hw1
 go_cut [5] (fun t wc=>t=.bool (decide (m.frm∈ds))/\Blk wc w.heap.size [.int .i64 m.kind,.int .i64 m.frm,.int .i64 m.to,.int .i64 m.epoch,.int .i64 m.n,.int .i64 m.cmd.kind,.int .i64 m.cmd.tx,.int .i64 m.cmd.time,u] 178/\Mod noBlock w1 wc)
 case first=>
  go_region
  all_goals
   go_wp2_with fail
   go_meet
   case rel=>exact ⟨rfl,hB1.mod ((Mod.refl noBlock w1).alloc _).drew id,((Mod.refl noBlock w1).alloc _).drew⟩
 case rest=>
  obtain ⟨rfl,hB2,hM2⟩:=hcut
  have hq2:=hM2.cell hq1 id
  have hg2:=hM2.cell hg1 id
  have hd2:=DownAt.mod HD.out hM2 (fun _ _=>id)
  clear l1 l1' c0 c1 c2 c3 c4 c5 c6 c7 c8 hq1 hg1 z1 z2 z3 hB1
  have l1:(Instr.lookup 150 (.map mr) (.int .i64 m.to) true).run Tryz.prog wc.drew=.ok (.tuple #[.agg #[],.bool (decide (m.to∈ds))]) wc.drew:=lookup_down (hd2.mod ((Mod.refl noBlock wc).drew) (fun _ _=>id)) HI.out.2.2.1
  have l1':(Instr.lookup 150 (.map mr) (.int .i64 m.to) true).run Tryz.prog (wc.alloc (.cells #[] 34)).drew=.ok (.tuple #[.agg #[],.bool (decide (m.to∈ds))]) (wc.alloc (.cells #[] 34)).drew:=lookup_down (hd2.mod (((Mod.refl noBlock wc).alloc _).drew) (fun _ _=>id)) HI.out.2.2.1
  obtain ⟨⟨c0,c1,c2,c3,c4,c5,c6,c7,c8⟩,_⟩:=blk9 hB2
  have z1:=hB2.lt
  have z2:q<wc.heap.size:=World.block_lt_of_cell? wc _ hq2
  have z3:g<wc.heap.size:=World.block_lt_of_cell? wc _ hg2
  clear hd2 HD HI
  go_upto_region 2 with fail
  go_cut [7] (fun t wd=>t=.bool (decide (m.to∈ds))/\Mod noBlock wc wd)
  case first=>
   go_region
   all_goals
    go_wp2_with fail
    go_meet
    case rel=>exact ⟨rfl,((Mod.refl noBlock wc).alloc _).drew⟩
  case rest=>
   obtain ⟨rfl,hM3⟩:=hcut
   clear l1 l1'
   have hM:=(hM1.trans hM2).trans hM3
   cases h1:decide (m.frm∈ds) <;> cases h2:decide (m.to∈ds)
   all_goals
    go_wp2_with fail
    go_ret
    exact ⟨by simp only [silentB,h1,h2];rfl,hM⟩
end Go.Proofs.YtiblcbdkiecbgaaGreatDoor
