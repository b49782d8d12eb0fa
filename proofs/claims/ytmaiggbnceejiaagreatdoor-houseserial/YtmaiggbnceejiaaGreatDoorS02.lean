import Derived.Test.YtmaiggbnceejiaaGreatDoorRows
import Derived.Test.YtmaiggbnceejiaaGreatDoorS01
import Derived.WalkKit
import Derived.Lib.AppendStr
import Derived.Deep.RegionLaw
import Derived.Deep.AppendLies
import Derived.Deep.DeepCutAuto
import Derived.Deep.Strs
import Derived.Deep.Slices
import Derived.OpenShut
import Derived.Maps.OwnSet
import Derived.Maps.AppendAt
import Derived.RegionTactic
import Derived.ChangeAlike
import Derived.Laws.IdiomCopy
set_option linter.unusedVariables false
set_option maxRecDepth 100000
set_option maxHeartbeats 16000000
namespace Go.Proofs.YtmaiggbnceejiaaGreatDoor
open Go.RowKit
open Go.RowKit
open Go.RowKit
open Go.RowKit
open Go.RowKit
open Go.RowKit Go.Lib
open Go.ChangeShapes Go.WideShapes Go.RowKit Go.Deep
theorem Qy{P:Program}{w:World}{fn:Func}{p:Tmp}{ty:TypeId}{v:Value}(h:fn.results=#[.cell p ty])(tmps:Array Value)(a:Addr)(hp:tmps.getD p undef=.pointer (some a))(hl:(loadVar ty a).run P w=.ok v w):(results fn tmps).run P w=.ok v w:=by
 simp only [results,h];simp only [List.mapM_toArray,List.mapM_cons,List.mapM_nil];simp [hp,hl,asAddr]
theorem Tryz.AD:(Tryz.prog.info? 68).map (fun i=>(i.zero,i.size,i.bytes))=some (some (.agg #[.string ⟨#[]⟩,.string ⟨#[]⟩,.bool false]),3,40):=by kernel_rfl
def oE(p:fQ):List Value:=[.string p.key,.string p.val,.bool p.gone]
theorem td{w:World}{g:Nat}{a b c d:Value}{t:TypeId}(h:dg w g [a,b,c,d] t):w.cell? ⟨g,0,none⟩=some a/\w.cell? ⟨g,1,none⟩=some b/\w.cell? ⟨g,2,none⟩=some c/\w.cell? ⟨g,3,none⟩=some d/\w.frozen? ⟨g,0,none⟩=false/\w.frozen? ⟨g,1,none⟩=false/\w.frozen? ⟨g,2,none⟩=false/\w.frozen? ⟨g,3,none⟩=false:=
 ⟨h.cell 0 rfl,h.cell 1 rfl,h.cell 2 rfl,h.cell 3 rfl,h.frozen 0,h.frozen 1,h.frozen 2,h.frozen 3⟩
theorem yHu{w:World}{B:Nat}{a b c d:Value}{t:TypeId}(h:dg w B [a,b,c,d] t):(loadVar 65 ⟨B,0,none⟩).run Tryz.prog w=.ok (.agg #[a,b,c,d]) w:=by
 obtain ⟨k0,k1,k2,k3,_⟩:=td h;simp [go_sem,k0,k1,k2,k3]
theorem iM{w:World}{g:Nat}{a0 a1 a2 a3 a4 a5 a6 a7 a8:Value}{t:TypeId}(h:dg w g [a0,a1,a2,a3,a4,a5,a6,a7,a8] t) :
  (w.cell? ⟨g,0,none⟩=some a0/\w.cell? ⟨g,1,none⟩=some a1/\w.cell? ⟨g,2,none⟩=some a2/\w.cell? ⟨g,3,none⟩=some a3/\w.cell? ⟨g,4,none⟩=some a4/\w.cell? ⟨g,5,none⟩=some a5/\w.cell? ⟨g,6,none⟩=some a6/\w.cell? ⟨g,7,none⟩=some a7/\w.cell? ⟨g,8,none⟩=some a8) /\
  (w.frozen? ⟨g,0,none⟩=false/\w.frozen? ⟨g,1,none⟩=false/\w.frozen? ⟨g,2,none⟩=false/\w.frozen? ⟨g,3,none⟩=false/\w.frozen? ⟨g,4,none⟩=false/\w.frozen? ⟨g,5,none⟩=false/\w.frozen? ⟨g,6,none⟩=false/\w.frozen? ⟨g,7,none⟩=false/\w.frozen? ⟨g,8,none⟩=false):=
 ⟨⟨h.cell 0 rfl,h.cell 1 rfl,h.cell 2 rfl,h.cell 3 rfl,h.cell 4 rfl,h.cell 5 rfl,h.cell 6 rfl,h.cell 7 rfl,h.cell 8 rfl⟩,
  h.frozen 0,h.frozen 1,h.frozen 2,h.frozen 3,h.frozen 4,h.frozen 5,h.frozen 6,h.frozen 7,h.frozen 8⟩
theorem TO{w:World}{B:Nat}{a0 a1 a2 a3 a4 a5 a6 a7 a8:Value}{t:TypeId}(h:dg w B [a0,a1,a2,a3,a4,a5,a6,a7,a8] t):(loadVar 112 ⟨B,0,none⟩).run Tryz.prog w=.ok (.agg #[a0,a1,a2,a3,a4,a5,a6,a7,a8]) w:=by
 obtain ⟨⟨k0,k1,k2,k3,k4,k5,k6,k7,k8⟩,_⟩:=iM h;simp [go_sem,k0,k1,k2,k3,k4,k5,k6,k7,k8]
theorem Br{P:Program}{w:World}{fn:Func}{p u:Tmp}{ty:TypeId}{v x:Value}(h:fn.results=#[.cell p ty,.tmp u])(tmps:Array Value)(a:Addr)(hp:tmps.getD p undef=.pointer (some a))(hx:tmps.getD u undef=x)(hl:(loadVar ty a).run P w=.ok v w):(results fn tmps).run P w=.ok (.tuple #[v,x]) w:=by
 rw [results_cell_tmp h];simp [hp,hl,hx,asAddr]
def Cv(w:World)(N:Nat)(u0 u1 u2 u3 u4 u5 u6 u7 u8:Value):World:=(((((((((w.setCell ⟨N,0,none⟩ u0).setCell ⟨N,1,none⟩ u1).setCell ⟨N,2,none⟩ u2).setCell ⟨N,3,none⟩ u3).setCell ⟨N,4,none⟩ u4).setCell ⟨N,5,none⟩ u5).setCell ⟨N,6,none⟩ u6).setCell ⟨N,7,none⟩ u7).setCell ⟨N,8,none⟩ u8)
theorem yRn{w:World}{N:Nat}{a0 a1 a2 a3 a4 a5 a6 a7 a8:Value}{t:TypeId}(hB:dg w N [a0,a1,a2,a3,a4,a5,a6,a7,a8] t)(u0 u1 u2 u3 u4 u5 u6 u7 u8:Value):dg (Cv w N u0 u1 u2 u3 u4 u5 u6 u7 u8) N [u0,u1,u2,u3,u4,u5,u6,u7,u8] t:=
 (((((((((hB.set 0 _).set 1 _).set 2 _).set 3 _).set 4 _).set 5 _).set 6 _).set 7 _).set 8 _)
theorem MH(w:World)(N:Nat)(u0 u1 u2 u3 u4 u5 u6 u7 u8:Value):Mod (eA N) w (Cv w N u0 u1 u2 u3 u4 u5 u6 u7 u8):=
 (((((((Mod.dt N 0 u0).trans (Mod.dt N 1 u1)).trans (Mod.dt N 2 u2)).trans (Mod.dt N 3 u3)).trans (Mod.dt N 4 u4)).trans (Mod.dt N 5 u5)).trans (Mod.dt N 6 u6)).trans ((Mod.dt N 7 u7).trans (Mod.dt N 8 u8))
theorem yHm{w:World}{N:Nat}{a0 a1 a2 a3 a4 a5 a6 a7 a8:Value}{t:TypeId}(hB:dg w N [a0,a1,a2,a3,a4,a5,a6,a7,a8] t)(u0 u1 u2 u3 u4 u5 u6 u7 u8:Value):(loadVar 112 ⟨N,0,none⟩).run Tryz.prog (Cv w N u0 u1 u2 u3 u4 u5 u6 u7 u8)=.ok (.agg #[u0,u1,u2,u3,u4,u5,u6,u7,u8]) (Cv w N u0 u1 u2 u3 u4 u5 u6 u7 u8):=TO (yRn hB u0 u1 u2 u3 u4 u5 u6 u7 u8)
def uy(m:dw)(v:Value):Value:=.agg #[.int .i64 m.kind,.int .i64 m.eF,.int .i64 m.to,.int .i64 m.dk,.int .i64 m.n,.int .i64 m.cmd.kind,.int .i64 m.cmd.tx,.int .i64 m.cmd.time,v]
theorem Tryz.AE:(Tryz.prog.info? 65).map (fun i=>(i.zero,i.size,i.bytes))=some (some (.agg #[.int .i64 0,.int .i64 0,.int .i64 0,.slice none 0 0]),4,48):=by kernel_rfl
def wD(c:dv)(v:Value):List Value:=[.int .i64 c.kind,.int .i64 c.tx,.int .i64 c.time,v]
def zW:List dv->List Value->List Value
 | c :: cs,v :: vs=>wD c v++zW cs vs
 | _,_=>[]
theorem zPr:∀ (cs:List dv) (vs:List Value) (c:dv) (v:Value),vs.length=cs.length->zW (cs++[c]) (vs++[v])=zW cs vs++wD c v
 | [],[],c,v,_=>by simp [zW]
 | [],_ :: _,_,_,h=>by simp at h
 | _ :: _,[],_,_,h=>by simp at h
 | c' :: cs,v' :: vs,c,v,h=>by simp [zW,zPr cs vs c v (by simpa using h)]
theorem yPo(c:dv)(a:Option Addr)(n cap:Nat):∀ u∈wD c (.slice a n cap),u.oneCell'=true:=by
 intro u hu;simp [wD] at hu;rcases hu with rfl | rfl | rfl | rfl <;> rfl
theorem dq{p:Prop}(h:p):Hid p:=h
def VN(w:World)(L:Nat)(v:Value)(ps:List fQ):Prop:=
 ∃ a cap,v=.slice a ps.length cap/\ps.length<=cap/\cap<=maxLen /\
  (ps=[]\/∃ b off,a=some ⟨b,off,none⟩/\b<L/\∀ j p,ps[j]?=some p->w.cell? ⟨b,off+j*3,none⟩=some (.string p.key)/\w.cell? ⟨b,off+j*3+1,none⟩=some (.string p.val)/\w.cell? ⟨b,off+j*3+2,none⟩=some (.bool p.gone))
theorem VG:∀ (ps:List fQ) (j:Nat) (p:fQ),ps[j]?=some p->(ps.flatMap oE)[j*3]?=some (.string p.key)/\(ps.flatMap oE)[j*3+1]?=some (.string p.val)/\(ps.flatMap oE)[j*3+2]?=some (.bool p.gone)
 | [],j,p,h=>by simp at h
 | q :: ps,0,p,h=>by simp at h;subst h;simp [oE]
 | q :: ps,j+1,p,h=>by
  have ih:=VG ps j p (by simpa using h);have e:∀ i,((q :: ps).flatMap oE)[i+3]?=(ps.flatMap oE)[i]?:=fun i=>by
   simp [oE]
  rw [show (j+1)*3=j*3+3 by omega,show j*3+3+1=j*3+1+3 by omega,show j*3+3+2=j*3+2+3 by omega,e,e,e];exact ih
theorem VN.iA{w:World}{B L:Nat}{v:Value}{ps:List fQ}(h:w.ownsRow B 68 3 v ps.length (ps.flatMap oE))(hL:w.heap.size<=L):VN w L v ps:=by
 rcases h.2 with ⟨rfl,h0⟩ | ⟨g,cap,cur,rfl,_,hg,h1,h2,_,_⟩
 ·have:ps=[]:=aR h0;subst this;exact ⟨none,0,rfl,aF _,aT _,.inl rfl⟩
 ·have hc:=h.cells (g:=g) rfl;have vd:∀ j,(⟨g,0,none⟩:Addr).add j=⟨g,0+j,none⟩:=fun j=>by unfold Addr.add;split <;> simp_all
  refine ⟨_,cap,rfl,h1,h2,.inr ⟨g,0,rfl,by have:=(aG.1 hg).1;omega,fun j p hp=>?_⟩⟩;obtain ⟨f1,f2,f3⟩:=VG ps j p hp;refine ⟨?_,?_,?_⟩
  ·have:=hc _ _ f1;rw [vd] at this;exact this
  ·have:=hc _ _ f2;rw [vd] at this;rw [cY];exact this
  ·have:=hc _ _ f3;rw [vd] at this;rw [cY];exact this
section
variable {H:Type} {enc:TypeId × Value->H} {P:Program} {w:World} {base:Nat} {spare:Nat->Bool} {held:Bool}
end
section
variable {H:Type} {enc:TypeId × Value->H} {w:World} {base:Nat} {spare:Nat->Bool} {held:Bool}
def gO(x:Int):Prop:=-9223372036854775808<=x/\x<=9223372036854775807
def FC(c:dv):Prop:=gO c.kind/\gO c.tx/\gO c.time
def VH(m:dw):Prop:=gO m.kind/\gO m.eF/\gO m.to/\gO m.dk/\gO m.n/\FC m.cmd
instance:Inhabited fQ:=⟨⟨ByteArray.empty,ByteArray.empty,false⟩⟩
instance:Inhabited dv:=⟨uf⟩
instance:Inhabited dw:=⟨yLt⟩
end
end Go.Proofs.YtmaiggbnceejiaaGreatDoor
namespace Go.Proofs.YtmaiggbnceejiaaGreatDoor
open Go.RowKit Go.Lib Go.Maps
theorem zz:Keyed Tryz.prog 3:=int_keyed Tryz.underlying3
theorem yGw(w:World):(zeroValue 158).run Tryz.prog w=.ok (.agg #[]) w:=by kernel_rfl
def pf(w:World)(L:Nat)(mr:Option Nat)(ds:List Int):Prop:=
 (mr=none/\ds=[])\/∃ b,∃ D:DataW Unit,mr=some b/\L<=b/\w.ownsMap Tryz.prog 3 unitElem b ds.length D/\∀ x,(Lit.int .i64 x).wf=true->Maps.has D (.int .i64 x)=decide (x∈ds)
theorem pf.mod{G:Nat->Prop}{w w':World}{L:Nat}{mr:Option Nat}{ds:List Int}(h:pf w L mr ds)(hm:Mod G w w')(hG:∀ k,mr=some k->¬ G k):pf w' L mr ds:=by
 rcases h with h | ⟨b,D,rfl,h2,h3,h4⟩
 ·exact .inl h
 ·have hlt:=h3.lt;obtain ⟨es,clock,hb,r⟩:=h3;exact .inr ⟨b,D,rfl,h2,⟨es,clock,(hm.block b hlt (hG b rfl)).trans hb,r⟩,h4⟩
theorem Lm{x:Int}(h:gO x):(Lit.int .i64 x).wf=true:=WalkArith.wf_i64 ⟨h.1,h.2⟩
theorem GV{w:World}{L:Nat}{mr:Option Nat}{ds:List Int}(h:pf w L mr ds){x:Int}(hx:gO x) :
  (Instr.lookup 75 (.map mr) (.int .i64 x) true).run Tryz.prog w=.ok (.tuple #[.agg #[],.bool (decide (x∈ds))]) w:=by
 have hk:keyOf Tryz.prog 3 (.int .i64 x)=some (.int .i64 x):=keyOf_int_mk Tryz.underlying3 (Lm hx);rcases h with ⟨rfl,rfl⟩ | ⟨b,D,rfl,_,h3,h4⟩
 ·have:=Maps.look_nil (w:=w) true zz Tryz.underlying75 (yGw w) hk;simpa using this
 ·obtain ⟨v,ps,hrun,hv⟩:=h3.look_ok zz Tryz.underlying75 (yGw w) unitElem_mk hk;obtain ⟨rfl,_⟩:=unitElem_inv hv;rw [hrun,h4 x (Lm hx)]
def rP(ds:List Int)(m:dw):Bool:=decide (m.eF∈ds) || decide (m.to∈ds)
theorem zTi(g q L:Nat)(m:dw)(u:Value)(mr:Option Nat)(ds:List Int)(w:World)(hq:w.cell? ⟨q,0,none⟩=some (.pointer (some ⟨g,2,none⟩)))(hg2:w.cell? ⟨g,4,none⟩=some (.map mr))(hd:pf w L mr ds)(hi:VH m) :
  Calls Tryz.prog 131 #[.agg #[.int .i64 m.kind,.int .i64 m.eF,.int .i64 m.to,.int .i64 m.dk,.int .i64 m.n,.int .i64 m.cmd.kind,.int .i64 m.cmd.tx,.int .i64 m.cmd.time,u],.pointer (some ⟨q,0,none⟩)] w fun e w'=>e=.returned (.bool (rP ds m))/\Mod dZ w w':=by
 obtain ⟨w1,hw1⟩:∃ q,q=w.alloc (.cells #[.int .i64 m.kind,.int .i64 m.eF,.int .i64 m.to,.int .i64 m.dk,.int .i64 m.n,.int .i64 m.cmd.kind,.int .i64 m.cmd.tx,.int .i64 m.cmd.time,u] 112):=⟨_,rfl⟩;have ff:dg w1 w.heap.size [.int .i64 m.kind,.int .i64 m.eF,.int .i64 m.to,.int .i64 m.dk,.int .i64 m.n,.int .i64 m.cmd.kind,.int .i64 m.cmd.tx,.int .i64 m.cmd.time,u] 112:=by rw [hw1];exact dg.new w _ _
 have nT:Mod dZ w w1:=by rw [hw1];exact (Mod.refl _ w).alloc _
 have hq1:=nT.cell hq id;have hg1:=nT.cell hg2 id;have hd1:=hd.mod nT (fun _ _=>id);have l1:(Instr.lookup 75 (.map mr) (.int .i64 m.eF) true).run Tryz.prog w1.drew=.ok (.tuple #[.agg #[],.bool (decide (m.eF∈ds))]) w1.drew:=GV (hd1.mod ((Mod.refl dZ w1).drew) (fun _ _=>id)) hi.2.1;have NM:(Instr.lookup 75 (.map mr) (.int .i64 m.eF) true).run Tryz.prog (w1.alloc (.cells #[] 158)).drew=.ok (.tuple #[.agg #[],.bool (decide (m.eF∈ds))]) (w1.alloc (.cells #[] 158)).drew:=GV (hd1.mod (((Mod.refl dZ w1).alloc _).drew) (fun _ _=>id)) hi.2.1;obtain ⟨⟨c0,c1,c2,c3,c4,c5,c6,c7,c8⟩,_⟩:=iM ff;have z1:=ff.lt;have z2:q<w1.heap.size:=World.block_lt_of_cell? w1 _ hq1;have z3:g<w1.heap.size:=World.block_lt_of_cell? w1 _ hg1;have HI:=dq hi;have HD:=dq hd1;clear hq hg2 hd hi hd1;go_enter Tryz.func131,Tryz.ntmps131;go_wp2_with fail;rw [<-hw1];clear hw1;go_cut [5] (fun t wc=>t=.bool (decide (m.eF∈ds))/\dg wc w.heap.size [.int .i64 m.kind,.int .i64 m.eF,.int .i64 m.to,.int .i64 m.dk,.int .i64 m.n,.int .i64 m.cmd.kind,.int .i64 m.cmd.tx,.int .i64 m.cmd.time,u] 112/\Mod dZ w1 wc)
 case first=>
  go_region
  all_goals
   go_wp2_with fail;go_meet
   case rel=>exact ⟨rfl,ff.mod ((Mod.refl dZ w1).alloc _).drew id,((Mod.refl dZ w1).alloc _).drew⟩
 case rest=>
  obtain ⟨rfl,gp,lP⟩:=hcut;have hq2:=lP.cell hq1 id;have hg2:=lP.cell hg1 id;have hd2:=pf.mod HD.out lP (fun _ _=>id);clear l1 NM c0 c1 c2 c3 c4 c5 c6 c7 c8 hq1 hg1 z1 z2 z3 ff;have l1:(Instr.lookup 75 (.map mr) (.int .i64 m.to) true).run Tryz.prog wc.drew=.ok (.tuple #[.agg #[],.bool (decide (m.to∈ds))]) wc.drew:=GV (hd2.mod ((Mod.refl dZ wc).drew) (fun _ _=>id)) HI.out.2.2.1;have NM:(Instr.lookup 75 (.map mr) (.int .i64 m.to) true).run Tryz.prog (wc.alloc (.cells #[] 158)).drew=.ok (.tuple #[.agg #[],.bool (decide (m.to∈ds))]) (wc.alloc (.cells #[] 158)).drew:=GV (hd2.mod (((Mod.refl dZ wc).alloc _).drew) (fun _ _=>id)) HI.out.2.2.1;obtain ⟨⟨c0,c1,c2,c3,c4,c5,c6,c7,c8⟩,_⟩:=iM gp;have z1:=gp.lt;have z2:q<wc.heap.size:=World.block_lt_of_cell? wc _ hq2;have z3:g<wc.heap.size:=World.block_lt_of_cell? wc _ hg2;clear hd2 HD HI;go_upto_region 2 with fail;go_cut [7] (fun t wd=>t=.bool (decide (m.to∈ds))/\Mod dZ wc wd)
  case first=>
   go_region
   all_goals
    go_wp2_with fail;go_meet
    case rel=>exact ⟨rfl,((Mod.refl dZ wc).alloc _).drew⟩
  case rest=>
   obtain ⟨rfl,hM3⟩:=hcut;clear l1 NM;have hM:=(nT.trans lP).trans hM3
   cases h1:decide (m.eF∈ds) <;> cases h2:decide (m.to∈ds)
   all_goals
    go_wp2_with fail;go_ret;exact ⟨by simp only [rP,h1,h2];rfl,hM⟩
structure Lo where
 n:Nat
 x:Nat->Prop
instance:Coe Lo Nat:=⟨Lo.n⟩
def St(w:World)(L:Lo)(k:Nat):Prop:=k<L.n\/(∃ cur fr,w.heap[k]?=some (.cells cur 68 fr))/\¬ L.x k
def Qm(w:World)(L:Lo)(G:Nat->Prop):Prop:=∀ k,k<w.heap.size->G k->¬ St w L k
theorem Qm.none(w:World)(L:Lo):Qm w L dZ:=fun _ _ h=>h.elim
theorem St.mod{G:Nat->Prop}{w w':World}{L:Lo}{k:Nat}(h:St w L k)(hm:Mod G w w')(hq:Qm w L G):St w' L k:=by
 rcases h with h | ⟨⟨cur,fr,h⟩,hx⟩
 ·exact .inl h
 ·have hlt:=(aG.1 h).1;exact .inr ⟨⟨cur,fr,(hm.block k hlt (fun g=>hq k hlt g (.inr ⟨⟨cur,fr,h⟩,hx⟩))).trans h⟩,hx⟩
def iH(w:World)(L:Lo)(v:Value)(ps:List fQ):Prop:=
 ∃ a cap,v=.slice a ps.length cap/\ps.length<=cap/\cap<=maxLen /\
  (ps=[]\/∃ b off,a=some ⟨b,off,none⟩/\St w L b/\∀ j p,ps[j]?=some p->w.cell? ⟨b,off+j*3,none⟩=some (.string p.key)/\w.cell? ⟨b,off+j*3+1,none⟩=some (.string p.val)/\w.cell? ⟨b,off+j*3+2,none⟩=some (.bool p.gone))
theorem iH.mod{G:Nat->Prop}{w w':World}{L:Lo}{v:Value}{ps:List fQ}(h:iH w L v ps)(hm:Mod G w w')(hq:Qm w L G):iH w' L v ps:=by
 obtain ⟨a,cap,h1,h2,h3,h4⟩:=h;refine ⟨a,cap,h1,h2,h3,?_⟩;rcases h4 with h4 | ⟨b,off,h5,h6,h7⟩
 ·exact .inl h4
 ·have hn:∀ (j:Nat) (u:Value),w.cell? ⟨b,j,none⟩=some u->w'.cell? ⟨b,j,none⟩=some u:=fun j u hu=>hm.cell hu (fun g=>hq b (World.block_lt_of_cell? w _ hu) g h6);exact .inr ⟨b,off,h5,h6.mod hm hq,fun j p hp=>⟨hn _ _ (h7 j p hp).1,hn _ _ (h7 j p hp).2.1,hn _ _ (h7 j p hp).2.2⟩⟩
theorem iH.iA{w:World}{B:Nat}{L:Lo}{v:Value}{ps:List fQ}(h:w.ownsRow B 68 3 v ps.length (ps.flatMap oE))(hx:∀ k,L.x k->k<B):iH w L v ps:=by
 have hr:=VN.iA h (aF _);obtain ⟨a,cap,h1,h2,h3,h4⟩:=hr;refine ⟨a,cap,h1,h2,h3,?_⟩;rcases h4 with h4 | ⟨b,off,h5,h6,h7⟩
 ·exact .inl h4
 ·rcases h.2 with ⟨h0,h0'⟩ | ⟨g,cap',cur,h0,hBg,hg,_⟩
  ·exact .inl (aR h0')
  ·rw [h0] at h1;simp only [Value.slice.injEq] at h1;rw [h5] at h1;simp at h1;obtain ⟨⟨rfl,rfl⟩,rfl⟩:=h1;exact .inr ⟨g,0,h5,.inr ⟨⟨cur,_,hg⟩,fun e=>by have:=hx _ e;omega⟩,h7⟩
theorem iH.nil(w:World)(L:Lo):iH w L (.slice none 0 0) []:=⟨none,0,rfl,aF _,aT _,.inl rfl⟩
def ig(m:dw)(u:Value):List Value:=[.int .i64 m.kind,.int .i64 m.eF,.int .i64 m.to,.int .i64 m.dk,.int .i64 m.n,.int .i64 m.cmd.kind,.int .i64 m.cmd.tx,.int .i64 m.cmd.time,u]
theorem Va(m:dw)(a:Option Addr)(n cap:Nat):∀ u∈ig m (.slice a n cap),u.oneCell'=true:=by
 intro u hu;simp [ig] at hu;rcases hu with rfl | rfl | rfl | rfl | rfl | rfl | rfl | rfl | rfl <;> rfl
theorem zPk(ps:List fQ):∀ u∈ps.flatMap oE,u.oneCell'=true:=by
 intro u hu;obtain ⟨p,_,hp⟩:=cS.1 hu;simp [oE] at hp;rcases hp with rfl | rfl | rfl <;> rfl
theorem Uy(ps:List fQ):(ps.flatMap oE).length=ps.length*3:=by
 induction ps with
 | nil=>rfl
 | cons p ps ih=>simp only [bH,aD,ih,oE,aW,az];omega
theorem iH.cells{w:World}{L:Lo}{a:Option Addr}{n cap:Nat}{ps:List fQ}(h:iH w L (.slice a n cap) ps)(h0:ps≠[]) :
  ∃ b off,a=some ⟨b,off,none⟩/\∀ (j:Nat) u,(ps.flatMap oE)[j]?=some u->w.cell? ((⟨b,off,none⟩:Addr).add j)=some u:=by
 obtain ⟨a',cap',h1,_,_,h4⟩:=h;simp only [Value.slice.injEq] at h1;obtain ⟨rfl,_,rfl⟩:=h1;rcases h4 with h4 | ⟨b,off,h5,h6,h7⟩
 ·exact absurd h4 h0
 ·refine ⟨b,off,h5,fun j u hu=>?_⟩;rw [Go.WideShapes.add_plain];have hj:j<ps.length*3:=by
   have:=(aB.1 hu).1;rw [Uy] at this;exact this
  obtain ⟨p,hp⟩:∃ p,ps[j / 3]?=some p:=⟨_,aA (by omega)⟩;obtain ⟨f0,f1,f2⟩:=VG ps (j / 3) p hp;obtain ⟨q0,q1,q2⟩:=h7 (j / 3) p hp;have hc:j % 3=0\/j % 3=1\/j % 3=2:=by omega
  rcases hc with hc | hc | hc
  ·have e:j / 3*3=j:=by omega
   rw [e] at f0 q0;rw [f0] at hu;cases hu;exact q0
  ·have e:j / 3*3+1=j:=by omega
   rw [e] at f1;rw [f1] at hu;cases hu
   rw [show off+j=off+j / 3*3+1 by omega];exact q1
  ·have e:j / 3*3+2=j:=by omega
   rw [e] at f2;rw [f2] at hu;cases hu
   rw [show off+j=off+j / 3*3+2 by omega];exact q2
theorem yGp(a:Option Addr)(cap:Nat)(ty:TypeId)(w:World):(Builtin.append_ #[63,63] ty #[.slice none 0 0,.slice a 0 cap]).run Tryz.prog w=.ok (.slice none 0 0) w:=by
 cases a <;> kernel_rfl
theorem zHz{w:World}{ops:Array Oper}{rest:List Oper}{o:Oper}{a:Act}{Q:Exit->Act->World->Prop}(hgd:o.guard=none)(s x:Operand)
  (ho:o.op=.call { callee:=.builtin .append,args:=#[s,x],argTypes:=#[63,63] }) (hs:a.eval s=.slice none 0 0) (ad:Option Addr) (cap:Nat) (hx:a.eval x=.slice ad 0 cap)
  (h:wpList Tryz.prog ops Q rest (a.put o.dst (.slice none 0 0)) w):wpList Tryz.prog ops Q (o :: rest) a w:=by
 refine wpList_plain hgd fun K hK=>?_;have hr:=yGp ad cap o.type w;unfold Oper.wp execOp;simp only [ho,resolve,invoke,builtin,Sem.run_bind,Sem.run_pure,Result.andThen_ok,bz,bW,cM,hs,hx,hr];exact hK _ _ h
theorem yRr(L:Lo)(m:dw)(u:Value)(w:World)(hu:iH w L u m.cmd.writes)(hl:m.cmd.writes.length<=1000000) :
  Calls Tryz.prog 90 #[.agg #[.int .i64 m.kind,.int .i64 m.eF,.int .i64 m.to,.int .i64 m.dk,.int .i64 m.n,.int .i64 m.cmd.kind,.int .i64 m.cmd.tx,.int .i64 m.cmd.time,u]] w fun e w'=>
   ∃ u',e=.returned (uy m u')/\w'.ownsRow w.heap.size 68 3 u' m.cmd.writes.length (m.cmd.writes.flatMap oE)/\Mod dZ w w':=by
 obtain ⟨i0,hi,hz0,hz1,hz2⟩:=info_parts Tryz.AD;have hu0:=hu;obtain ⟨a,cap,rfl,hpc,hcm,_⟩:=hu0;go_enter Tryz.func90,Tryz.ntmps90;by_cases h0:m.cmd.writes=[]
 ·have h00:m.cmd.writes.length=0:=by rw [h0];rfl
  rw [h00];have HF:Hid (m.cmd.writes.flatMap oE=[]):=by rw [Hid,h0];rfl
  go_wp2_with (first
   | (at_builtin;refine zHz rfl _ _ rfl rfl _ _ rfl ?_)
   | fail)
  have hb:dg ((w.alloc (.cells #[.int .i64 m.kind,.int .i64 m.eF,.int .i64 m.to,.int .i64 m.dk,.int .i64 m.n,.int .i64 m.cmd.kind,.int .i64 m.cmd.tx,.int .i64 m.cmd.time,.slice none 0 0] 112)).alloc (.cells #[.int .i64 m.kind,.int .i64 m.eF,.int .i64 m.to,.int .i64 m.dk,.int .i64 m.n,.int .i64 m.cmd.kind,.int .i64 m.cmd.tx,.int .i64 m.cmd.time,.slice none 0 0] 112)) (w.heap.size+1) [.int .i64 m.kind,.int .i64 m.eF,.int .i64 m.to,.int .i64 m.dk,.int .i64 m.n,.int .i64 m.cmd.kind,.int .i64 m.cmd.tx,.int .i64 m.cmd.time,.slice none 0 0] 112:=by
   have:=dg.new (w.alloc (.cells #[.int .i64 m.kind,.int .i64 m.eF,.int .i64 m.to,.int .i64 m.dk,.int .i64 m.n,.int .i64 m.cmd.kind,.int .i64 m.cmd.tx,.int .i64 m.cmd.time,.slice none 0 0] 112)) [.int .i64 m.kind,.int .i64 m.eF,.int .i64 m.to,.int .i64 m.dk,.int .i64 m.n,.int .i64 m.cmd.kind,.int .i64 m.cmd.tx,.int .i64 m.cmd.time,.slice none 0 0] 112;rw [World.size_alloc] at this;exact this
  refine bodyPost_ret (Qy Tryz.results90 _ ⟨w.heap.size+1,0,none⟩ rfl (TO hb)) rfl ⟨.slice none 0 0,rfl,?_,((Mod.refl _ w).alloc _).alloc _⟩;rw [HF.out];exact World.ownsRow_nil _ _ _ _
 ·obtain ⟨b,off,rfl,hcl⟩:=hu.cells h0;have lP:Mod dZ w ((w.alloc (.cells #[.int .i64 m.kind,.int .i64 m.eF,.int .i64 m.to,.int .i64 m.dk,.int .i64 m.n,.int .i64 m.cmd.kind,.int .i64 m.cmd.tx,.int .i64 m.cmd.time,.slice (some ⟨b,off,none⟩) m.cmd.writes.length cap] 112)).alloc (.cells #[.int .i64 0,.int .i64 0,.int .i64 0,.int .i64 0,.int .i64 0,.int .i64 0,.int .i64 0,.int .i64 0,.slice none 0 0] 112)):=((Mod.refl _ w).alloc _).alloc _;have rJ:Hid (∀ (j:Nat) u,(m.cmd.writes.flatMap oE)[j]?=some u->((w.alloc (.cells #[.int .i64 m.kind,.int .i64 m.eF,.int .i64 m.to,.int .i64 m.dk,.int .i64 m.n,.int .i64 m.cmd.kind,.int .i64 m.cmd.tx,.int .i64 m.cmd.time,.slice (some ⟨b,off,none⟩) m.cmd.writes.length cap] 112)).alloc (.cells #[.int .i64 0,.int .i64 0,.int .i64 0,.int .i64 0,.int .i64 0,.int .i64 0,.int .i64 0,.int .i64 0,.slice none 0 0] 112)).cell? ((⟨b,off,none⟩:Addr).add j)=some u):=fun j u IU=>lP.cell (hcl j u IU) id;have uV:=dq (Uy m.cmd.writes);have qM:=dq (zPk m.cmd.writes);have iJ:0+m.cmd.writes.length<=maxLen:=by unfold maxLen;omega
  have iK:(0+m.cmd.writes.length)*40<=140737488355328:=by omega
  clear hcl hu;go_wp2_with (first
   | (at_builtin;refine wpList_append_own _ rfl _ _ 63 rfl (w.heap.size+1+1) 68 i0 _ 3 40 Tryz.underlying63 hi hz0 hz1 hz2 rfl (by omega) _ _ _ rfl (World.ownsRow_nil _ _ _ _) ⟨b,off,none⟩ _ _ (m.cmd.writes.flatMap oE) rfl uV.out rJ.out qM.out iJ iK (by simp) ?_)
   | fail)
  intro v' w1 hown1 hgrow _;have dh:=(Mod.refl dZ _).grown hgrow (fun x hx _=>by simp [Value.ownBlock] at hx);have ff:=((dg.new w [.int .i64 m.kind,.int .i64 m.eF,.int .i64 m.to,.int .i64 m.dk,.int .i64 m.n,.int .i64 m.cmd.kind,.int .i64 m.cmd.tx,.int .i64 m.cmd.time,.slice (some ⟨b,off,none⟩) m.cmd.writes.length cap] 112).mod ((Mod.refl dZ _).alloc (.cells #[.int .i64 0,.int .i64 0,.int .i64 0,.int .i64 0,.int .i64 0,.int .i64 0,.int .i64 0,.int .i64 0,.slice none 0 0] 112)) id).mod dh id;have gp:=(dg.new (w.alloc (.cells #[.int .i64 m.kind,.int .i64 m.eF,.int .i64 m.to,.int .i64 m.dk,.int .i64 m.n,.int .i64 m.cmd.kind,.int .i64 m.cmd.tx,.int .i64 m.cmd.time,.slice (some ⟨b,off,none⟩) m.cmd.writes.length cap] 112)) [.int .i64 0,.int .i64 0,.int .i64 0,.int .i64 0,.int .i64 0,.int .i64 0,.int .i64 0,.int .i64 0,.slice none 0 0] 112).mod dh id;rw [World.size_alloc] at gp;have nT:=lP.trans dh;obtain ⟨⟨x0,x1,x2,x3,x4,x5,x6,x7,x8⟩,⟨y0,y1,y2,y3,y4,y5,y6,y7,y8⟩⟩:=iM ff;obtain ⟨⟨p0,p1,p2,p3,p4,p5,p6,p7,p8⟩,⟨q0,q1,q2,q3,q4,q5,q6,q7,q8⟩⟩:=iM gp;obtain ⟨va,vc,rfl⟩:=eu hown1;have HO:=dq hown1;clear hown1 hgrow dh rJ uV qM lP;go_wp2_with fail;have hB2':=gp.mod (Mod.dt (w:=w1) w.heap.size 8 (.slice va m.cmd.writes.length vc)) (by simp [eA]);have Yd:w1.ownsRow (w.heap.size+1+1) 68 3 (.slice va m.cmd.writes.length vc) m.cmd.writes.length (m.cmd.writes.flatMap oE):=by simpa using HO.out
  refine bodyPost_ret (Qy Tryz.results90 _ ⟨w.heap.size+1,0,none⟩ rfl (yHm hB2' _ _ _ _ _ _ _ _ _)) rfl ⟨.slice va m.cmd.writes.length vc,rfl,?_,?_⟩
  ·refine uL (fm (G:=eA (w.heap.size+1)) (fm (G:=eA w.heap.size) Yd (Mod.dt _ 8 _) (fun k hk _ _ e=>by simp only [eA] at e;omega)) (MH _ _ _ _ _ _ _ _ _ _ _) (fun k hk _ _ e=>by simp only [eA] at e;omega)) (by omega)
  ·have h1:Mod (jN w.heap.size) w (w1.setCell ⟨w.heap.size,8,none⟩ (.slice va m.cmd.writes.length vc)):=Mod.put (nT.mono (fun _ _ e=>e.elim)) _ _ (aF _) _;have h2:=h1.trans ((MH (w1.setCell ⟨w.heap.size,8,none⟩ (.slice va m.cmd.writes.length vc)) (w.heap.size+1) (.int .i64 m.kind) (.int .i64 m.eF) (.int .i64 m.to) (.int .i64 m.dk) (.int .i64 m.n) (.int .i64 m.cmd.kind) (.int .i64 m.cmd.tx) (.int .i64 m.cmd.time) (.slice va m.cmd.writes.length vc)).mono (G':=jN w.heap.size) (fun i _ e=>by simp only [eA,jN] at e ⊢;omega));exact h2.mono (fun i hi e=>by simp only [jN] at e;omega)
def gy:List dw->List Value->List Value
 | m :: ms,u :: us=>ig m u++gy ms us
 | _,_=>[]
theorem Rk:∀ (ms:List dw) (us:List Value) (m:dw) (u:Value),us.length=ms.length->gy (ms++[m]) (us++[u])=gy ms us++ig m u
 | [],[],m,u,_=>by simp [gy]
 | [],_ :: _,_,_,h=>by simp at h
 | _ :: _,[],_,_,h=>by simp at h
 | m' :: ms,u' :: us,m,u,h=>by simp [gy,Rk ms us m u (by simpa using h)]
theorem Bu:∀ (ms:List dw) (us:List Value),us.length=ms.length->(gy ms us).length=ms.length*9
 | [],_,_=>by simp [gy]
 | _ :: _,[],h=>by simp at h
 | m :: ms,u :: us,h=>by simp only [gy,aD,Bu ms us (by simpa using h),ig,aW,az];omega
theorem zSb:∀ (ms:List dw) (us:List Value) (i:Nat) (m:dw) (u:Value),us.length=ms.length->ms[i]?=some m->us[i]?=some u->∀ j x,(ig m u)[j]?=some x->(gy ms us)[i*9+j]?=some x
 | [],_,_,_,_,_,h,_,_,_,_=>by simp at h
 | _ :: _,[],_,_,_,h,_,_,_,_,_=>by simp at h
 | m' :: ms,u' :: us,0,m,u,_,h,h',j,x,hx=>by
  simp at h h';subst h h';have hj:j<(ig m' u').length:=(aB.1 hx).1;rw [cg,aX,gy,aE hj];exact hx
 | m' :: ms,u' :: us,i+1,m,u,hl,h,h',j,x,hx=>by
  have:=zSb ms us i m u (by simpa using hl) (by simpa using h) (by simpa using h') j x hx;have e:(i+1)*9+j=(ig m' u').length+(i*9+j):=by simp [ig];omega
  rw [e,gy,aM (by omega),Nat.add_sub_cancel_left];exact this
def qZ(m:dw):Prop:=VH m/\m.cmd.writes.length<=40
def eV(w:World)(L:Lo)(v:Value)(ms:List dw):Prop:=
 ∃ us:List Value,us.length=ms.length/\w.ownsRow L 112 9 v ms.length (gy ms us)/\(∀ (i:Nat) m u,ms[i]?=some m->us[i]?=some u->iH w L u m.cmd.writes)/\∀ m∈ms,qZ m
theorem eV.nil(w:World)(L:Lo):eV w L (.slice none 0 0) []:=⟨[],rfl,World.ownsRow_nil _ _ _ _,fun i m u h=>by simp at h,by simp⟩
theorem eV.mod{G:Nat->Prop}{w w':World}{L:Lo}{v:Value}{ms:List dw}(h:eV w L v ms)(hm:Mod G w w')(hq:Qm w L G)(hG:∀ k,v.ownBlock=some k->¬ G k):eV w' L v ms:=by
 obtain ⟨us,h1,h2,h3,h4⟩:=h;exact ⟨us,h1,fm h2 hm (fun k _ _ e=>hG k e),fun i m u hi hu=>(h3 i m u hi hu).mod hm hq,h4⟩
theorem eV.at{w:World}{L:Lo}{v:Value}{ms:List dw}(h:eV w L v ms){i:Nat}{m:dw}(hi:ms[i]?=some m) :
  ∃ g cap u,v=.slice (some ⟨g,0,none⟩) ms.length cap/\ms.length<=cap/\cap<=maxLen/\iH w L u m.cmd.writes/\qZ m /\
   w.cell? ⟨g,i*9,none⟩=some (.int .i64 m.kind)/\w.cell? ⟨g,i*9+1,none⟩=some (.int .i64 m.eF)/\w.cell? ⟨g,i*9+2,none⟩=some (.int .i64 m.to)/\w.cell? ⟨g,i*9+3,none⟩=some (.int .i64 m.dk)/\w.cell? ⟨g,i*9+4,none⟩=some (.int .i64 m.n) /\
   w.cell? ⟨g,i*9+5,none⟩=some (.int .i64 m.cmd.kind)/\w.cell? ⟨g,i*9+6,none⟩=some (.int .i64 m.cmd.tx)/\w.cell? ⟨g,i*9+7,none⟩=some (.int .i64 m.cmd.time)/\w.cell? ⟨g,i*9+8,none⟩=some u:=by
 obtain ⟨us,h1,h2,h3,h4⟩:=h;have hlt:i<ms.length:=(aB.1 hi).1;obtain ⟨u,hu⟩:∃ u,us[i]?=some u:=⟨_,aA (by omega)⟩;rcases h2.2 with ⟨_,h0⟩ | ⟨g,cap,cur,rfl,_,hg,hc1,hc2,_,_⟩
 ·omega
 ·have hc:=h2.cells (g:=g) rfl;have vd:∀ j,(⟨g,0,none⟩:Addr).add j=⟨g,j,none⟩:=fun j=>by rw [Go.WideShapes.add_plain,aX]
  have key:∀ j x,(ig m u)[j]?=some x->w.cell? ⟨g,i*9+j,none⟩=some x:=fun j x hx=>by
   have:=hc _ _ (zSb ms us i m u h1 hi hu j x hx);rw [vd] at this;exact this
  exact ⟨g,cap,u,rfl,hc1,hc2,h3 i m u hi hu,h4 m (aC hi),key 0 _ rfl,key 1 _ rfl,key 2 _ rfl,key 3 _ rfl,key 4 _ rfl,key 5 _ rfl,key 6 _ rfl,key 7 _ rfl,key 8 _ rfl⟩
structure Ext where
 (a0 a1 a5 a6:Value)
structure fC where
 way:List dw
 lost:Int
 down:List Int
variable {E:Ext}
structure fO(E:Ext)(w:World)(L:Lo)(g:Nat)(wv:Value)(mr:Option Nat)(s:fC):Prop where
 blk:dg w g [E.a0,E.a1,wv,.int .i64 s.lost,.map mr,E.a5,E.a6] 84
 low:L<=g
 row:eV w L wv s.way
 dn:pf w L mr s.down
 few:s.way.length<=200
 lo:0<=s.lost/\s.lost<=4611686018427387904
 xb:∀ k,L.x k->k<w.heap.size
def mx(g:Nat)(wv:Value)(mr:Option Nat)(k:Nat):Prop:=k=g\/wv.ownBlock=some k\/mr=some k
theorem fO.lt{w:World}{L:Lo}{g:Nat}{wv:Value}{mr:Option Nat}{s:fC}(h:fO E w L g wv mr s){k:Nat}(hk:mx g wv mr k):L<=k/\k<w.heap.size/\¬ St w L k:=by
 rcases hk with rfl | hk | hk
 ·refine ⟨h.low,h.blk.lt,?_⟩;rintro (e | ⟨⟨cur,fr,e⟩,_⟩)
  ·have:=h.low;omega
  ·have:=h.blk;simp only [dg] at this;rw [this] at e;simp at e
 ·obtain ⟨us,_,h2,_⟩:=h.row;rcases h2.2 with ⟨e,_⟩ | ⟨g',cap,cur,e,h1,hg,_⟩
  ·rw [e] at hk;simp [Value.ownBlock] at hk
  ·rw [e] at hk;simp [Value.ownBlock] at hk;subst hk;refine ⟨h1,(aG.1 hg).1,?_⟩;rintro (e' | ⟨⟨cur',fr,e'⟩,_⟩)
   ·omega
   ·rw [hg] at e';simp at e'
 ·rcases h.dn with ⟨e,_⟩ | ⟨b,D,e,h1,h2,_⟩
  ·rw [e] at hk;cases hk
  ·rw [e] at hk;cases hk
   refine ⟨h1,h2.lt,?_⟩;obtain ⟨es,clock,hb,_⟩:=h2;rintro (e' | ⟨⟨cur',fr,e'⟩,_⟩)
   ·omega
   ·rw [hb] at e';simp at e'
theorem fO.qm{w:World}{L:Lo}{g:Nat}{wv:Value}{mr:Option Nat}{s:fC}(h:fO E w L g wv mr s):Qm w L (mx g wv mr):=fun _ _ hk=>(h.lt hk).2.2
theorem fO.mod{G:Nat->Prop}{w w':World}{L:Lo}{g:Nat}{wv:Value}{mr:Option Nat}{s:fC}(h:fO E w L g wv mr s)(hm:Mod G w w')(hq:Qm w L G)(hG:∀ k,mx g wv mr k->¬ G k):fO E w' L g wv mr s:=
 ⟨h.blk.mod hm (hG g (.inl rfl)),h.low,h.row.mod hm hq (fun k hk=>hG k (.inr (.inl hk))),h.dn.mod hm (fun k hk=>hG k (.inr (.inr hk))),h.few,h.lo,fun k hk=>aH (h.xb k hk) hm.size⟩
theorem eV.slice{w:World}{L:Lo}{v:Value}{ms:List dw}(h:eV w L v ms):∃ a cap,v=.slice a ms.length cap:=by
 obtain ⟨us,_,h2,_⟩:=h;exact eu h2
theorem TV(L:Lo)(g:Nat)(wv:Value)(mr:Option Nat)(s:fC)(w:World)(h:fO E w L g wv mr s) :
  Calls Tryz.prog 89 #[.pointer (some ⟨g,2,none⟩)] w fun e w'=>e=.returned (.bool (decide (s.way.length<200)))/\w'=w:=by
 obtain ⟨a,cap,rfl⟩:=h.row.slice;have c0:=h.blk.cell 2 rfl;have hd:decide ((s.way.length:Int)<200)=decide (s.way.length<200):=decide_eq_decide.2 (by omega);clear h;go_enter Tryz.func89,Tryz.ntmps89;go_wp2_with fail;go_ret;exact ⟨rfl,rfl⟩
theorem ySd(L:Lo)(g:Nat)(wv:Value)(mr:Option Nat)(s:fC)(w:World)(h:fO E w L g wv mr s) :
  Calls Tryz.prog 53 #[.pointer (some ⟨g,2,none⟩)] w fun e w'=>e=.returned (.int .i64 s.way.length)/\w'=w:=by
 obtain ⟨a,cap,rfl⟩:=h.row.slice;have c0:=h.blk.cell 2 rfl;clear h;go_enter Tryz.func53,Tryz.ntmps53;go_wp2_with fail;go_ret;exact ⟨rfl,rfl⟩
def hasB(s:fC)(k:Int):Bool:=decide (0<=k) && decide (k<(s.way.length:Int))
theorem Lh(L:Lo)(g:Nat)(wv:Value)(mr:Option Nat)(s:fC)(k:Int)(w:World)(h:fO E w L g wv mr s) :
  Calls Tryz.prog 94 #[.pointer (some ⟨g,2,none⟩),.int .i64 k] w fun e w'=>e=.returned (.bool (hasB s k))/\w'=w:=by
 obtain ⟨a,cap,rfl⟩:=h.row.slice;have c0:=h.blk.cell 2 rfl;clear h;go_enter Tryz.func94,Tryz.ntmps94;by_cases h1:0<=k
 ·have hd:decide (0<=k)=true:=by simpa using h1
  go_wp2_with fail;go_ret;exact ⟨by simp only [hasB,hd,Bool.true_and];rfl,rfl⟩
 ·have hd:decide (0<=k)=false:=by simpa using h1
  go_wp2_with fail;go_ret;exact ⟨by simp only [hasB,hd,Bool.false_and];rfl,rfl⟩
theorem zWp(g:Nat)(w:World) :
  Calls Tryz.prog 88 #[.pointer (some ⟨g,2,none⟩)] w fun e w'=>w'=w.alloc (.cells #[.pointer (some ⟨g,2,none⟩)] 147)/\e=.returned (.func (.func 131) #[] #[.pointer (some ⟨w.heap.size,0,none⟩)]):=by
 go_enter Tryz.func88,Tryz.ntmps88;go_wp2_with fail;go_ret;exact ⟨rfl,rfl⟩
end Go.Proofs.YtmaiggbnceejiaaGreatDoor
namespace Go.Proofs.YtmaiggbnceejiaaGreatDoor
open Go.RowKit Go.Lib Go.Maps
variable {E:Ext}
theorem Tryz.pS:(Tryz.prog.info? 112).map (fun i=>(i.zero,i.size,i.bytes))=some (some (.agg #[.int .i64 0,.int .i64 0,.int .i64 0,.int .i64 0,.int .i64 0,.int .i64 0,.int .i64 0,.int .i64 0,.slice none 0 0]),9,88):=by kernel_rfl
def Gc(w:World)(L:Lo)(S:Nat->Prop)(v:Value)(ms:List dw):Prop:=
 ∃ a cap,v=.slice a ms.length cap/\ms.length<=cap/\cap<=maxLen /\
  (ms=[]\/∃ b off,a=some ⟨b,off,none⟩/\S b/\∀ (i:Nat) m,ms[i]?=some m->∃ u,iH w L u m.cmd.writes/\qZ m/\∀ j x,(ig m u)[j]?=some x->w.cell? ⟨b,off+i*9+j,none⟩=some x)
theorem Gc.mod{G S:Nat->Prop}{w w':World}{L:Lo}{v:Value}{ms:List dw}(h:Gc w L S v ms)(hm:Mod G w w')(hq:Qm w L G)(hG:∀ k,S k->¬ G k):Gc w' L S v ms:=by
 obtain ⟨a,cap,h1,h2,h3,h4⟩:=h;refine ⟨a,cap,h1,h2,h3,?_⟩;rcases h4 with h4 | ⟨b,off,h5,h6,h7⟩
 ·exact .inl h4
 ·refine .inr ⟨b,off,h5,h6,fun i m hi=>?_⟩;obtain ⟨u,h8,h9,h10⟩:=h7 i m hi;exact ⟨u,h8.mod hm hq,h9,fun j x hx=>hm.cell (h10 j x hx) (hG b h6)⟩
def mR(s:fC)(m:dw):fC:=if rP s.down m || decide (200<=s.way.length) then ⟨s.way,s.lost+1,s.down⟩ else ⟨s.way++[m],s.lost,s.down⟩
def ly:fC->List dw->fC
 | s,[]=>s
 | s,m :: ms=>ly (mR s m) ms
theorem zWr:∀ ms m s,ly s (ms++[m])=mR (ly s ms) m
 | [],_,_=>rfl
 | _ :: ms,m,s=>by simp [ly,zWr ms m]
theorem zWs(s:fC)(m:dw):(mR s m).down=s.down:=by unfold mR;split <;> rfl
theorem yJl(s:fC)(m:dw):s.lost<=(mR s m).lost/\(mR s m).lost<=s.lost+1:=by unfold mR;split <;> simp only <;> omega
theorem Cm:∀ ms s,s.lost<=(ly s ms).lost/\(ly s ms).lost<=s.lost+ms.length
 | [],s=>by simp [ly]
 | m :: ms,s=>by
  have h1:=yJl s m;have h2:=Cm ms (mR s m);simp only [ly,aW];omega
def iF(w:World)(v v':Value):Prop:=v'.ownBlock=v.ownBlock\/∀ k,v'.ownBlock=some k->w.heap.size<=k
theorem iF.refl(w:World)(v:Value):iF w v v:=.inl rfl
theorem iF.trans{w w1:World}{a b c:Value}(h:iF w a b)(k:iF w1 b c)(hz:w.heap.size<=w1.heap.size):iF w a c:=by
 rcases k with k | k
 ·rcases h with h | h
  ·exact .inl (k.trans h)
  ·exact .inr (fun x hx=>h x (by rw [<-k];exact hx))
 ·exact .inr (fun x hx=>aJ hz (k x hx))
theorem Mod.net{w w1 w2:World}{g:Nat}{v v':Value}{mr:Option Nat}(h:Mod (mx g v mr) w w1)(hm:iF w v v')(k:Mod (mx g v' mr) w1 w2):Mod (mx g v mr) w w2:=
 h.trans' k (fun i hi e=>by
  rcases e with e | e | e
  ·exact .inl e
  ·rcases hm with hm | hm
   ·exact .inr (.inl (by rw [<-hm];exact e))
   ·have:=hm i e;omega
  ·exact .inr (.inr e))
theorem fO.apart{w:World}{L:Lo}{g:Nat}{wv:Value}{mr:Option Nat}{s:fC}(h:fO E w L g wv mr s):wv.ownBlock≠some g/\mr≠some g/\∀ k,wv.ownBlock=some k->mr≠some k:=by
 have hb:=h.blk;simp only [dg] at hb;refine ⟨fun e=>?_,fun e=>?_,fun k e e'=>?_⟩
 ·obtain ⟨us,_,h2,_⟩:=h.row;rcases h2.2 with ⟨e',_⟩ | ⟨g',cap,cur,e',_,hg,_⟩
  ·rw [e'] at e;simp [Value.ownBlock] at e
  ·rw [e'] at e;simp [Value.ownBlock] at e;subst e;rw [hb] at hg;simp at hg
 ·rcases h.dn with ⟨e',_⟩ | ⟨b,D,e',_,⟨es,clock,hm,_⟩,_⟩
  ·rw [e'] at e;cases e
  ·rw [e'] at e;cases e
   rw [hb] at hm;simp at hm
 ·obtain ⟨us,_,h2,_⟩:=h.row;rcases h2.2 with ⟨e1,_⟩ | ⟨g',cap,cur,e1,_,hg,_⟩
  ·rw [e1] at e;simp [Value.ownBlock] at e
  ·rw [e1] at e;simp [Value.ownBlock] at e;subst e;rcases h.dn with ⟨e2,_⟩ | ⟨b,D,e2,_,⟨es,clock,hm,_⟩,_⟩
   ·rw [e2] at e';cases e'
   ·rw [e2] at e';cases e'
    rw [hg] at hm;simp at hm
theorem fO.DC{w:World}{L:Lo}{g q:Nat}{wv:Value}{mr:Option Nat}{s:fC}{cs:List Value}{t:TypeId}(h:fO E w L g wv mr s)(hq:dg w q cs t)(h1:t≠84)(h2:t≠112):¬ mx g wv mr q:=by
 simp only [dg] at hq;rintro (rfl | e | e)
 ·have hb:=h.blk;simp only [dg] at hb;rw [hb] at hq;simp at hq;exact h1 hq.2.symm
 ·obtain ⟨us,_,h3,_⟩:=h.row;rcases h3.2 with ⟨e',_⟩ | ⟨g',cap,cur,e',_,hg,_⟩
  ·rw [e'] at e;simp [Value.ownBlock] at e
  ·rw [e'] at e;simp [Value.ownBlock] at e;subst e;rw [hg] at hq;simp at hq;exact h2 hq.2.symm
 ·rcases h.dn with ⟨e',_⟩ | ⟨b,D,e',_,⟨es,clock,hm,_⟩,_⟩
  ·rw [e'] at e;cases e
  ·rw [e'] at e;cases e
   rw [hm] at hq;simp at hq
theorem Qm.mf{w:World}{L:Lo}{g:Nat}{wv:Value}{mr:Option Nat}{s:fC}(h:fO E w L g wv mr s){G:Nat->Prop}(hG:∀ k,k<w.heap.size->G k->mx g wv mr k):Qm w L G:=fun k hk hg=>(h.lt (hG k hk hg)).2.2
theorem fO.loses{w:World}{L:Lo}{g:Nat}{wv:Value}{mr:Option Nat}{s:fC}(h:fO E w L g wv mr s)(n:Int)(hn:0<=n/\n<=4611686018427387904) :
  fO E (w.setCell ⟨g,3,none⟩ (.int .i64 n)) L g wv mr ⟨s.way,n,s.down⟩/\Mod (mx g wv mr) w (w.setCell ⟨g,3,none⟩ (.int .i64 n)):=by
 obtain ⟨a1,a2,_⟩:=h.apart;have hm:Mod (eA g) w (w.setCell ⟨g,3,none⟩ (.int .i64 n)):=Mod.dt g 3 _;have hq:Qm w L (eA g):=Qm.mf h (fun k _ e=>.inl e);refine ⟨⟨h.blk.set 3 _,h.low,h.row.mod hm hq (fun k hk e=>a1 (by rw [hk];rw [e])),h.dn.mod hm (fun k hk e=>a2 (by rw [hk];rw [e])),h.few,hn,fun k hk=>aH (h.xb k hk) hm.size⟩,hm.mono (fun i _ e=>.inl e)⟩
theorem fO.sent{w w6:World}{L:Lo}{g:Nat}{wv v6 u:Value}{mr:Option Nat}{s:fC}{m:dw}{us:List Value}{o:Obj}{g6 n6 lT:Nat}(h:fO E w L g wv mr s)(mD:us.length=s.way.length)
  (hps:∀ (i:Nat) m u,s.way[i]?=some m->us[i]?=some u->iH w L u m.cmd.writes) (hgd:∀ m∈s.way,qZ m) (hu:iH w L u m.cmd.writes) (jF:qZ m) (fR:s.way.length<200)
  (hgrow:(w.alloc o).grownBy w6 wv.ownBlock) (sB:v6=.slice (some ⟨g6,0,none⟩) n6 lT) (iC:w6.ownsRow L 112 9 v6 (s.way.length+1) (gy s.way us++ig m u)) (hat:wv.ownBlock=some g6\/g6=w.heap.size+1) :
  fO E (w6.setCell ⟨g,2,none⟩ v6) L g v6 mr ⟨s.way++[m],s.lost,s.down⟩/\iF w wv v6/\Mod (mx g wv mr) w (w6.setCell ⟨g,2,none⟩ v6):=by
 obtain ⟨a1,a2,a3⟩:=h.apart;have fs:Mod (fun k=>wv.ownBlock=some k) w w6:=((Mod.refl _ w).alloc o).grown hgrow (fun x hx _=>hx);have CB:Qm w L (fun k=>wv.ownBlock=some k):=Qm.mf h (fun k _ e=>.inr (.inl e));have nQ:dg w6 g [E.a0,E.a1,wv,.int .i64 s.lost,.map mr,E.a5,E.a6] 84:=h.blk.mod fs a1;have tP:=nQ;simp only [dg] at tP;have ib:Mod (eA g) w6 (w6.setCell ⟨g,2,none⟩ v6):=Mod.dt g 2 _;have Hz:Qm w6 L (eA g):=fun k _ e=>by
  simp only [eA] at e;subst e;rintro (e | ⟨⟨cur,fr,e⟩,_⟩)
  ·have:=h.low;omega
  ·rw [tP] at e;simp at e
 have hne:v6.ownBlock≠some g:=by
  rw [sB];simp only [Value.ownBlock,ne_eq,ae];rintro rfl;rcases hat with e | e
  ·exact a1 e
  ·have:=h.blk.lt;omega
 refine ⟨⟨nQ.set 2 _,h.low,⟨us++[u],by simp [mD],?_,?_,?_⟩,?_,by simp;omega,h.lo,fun k hk=>aH (h.xb k hk) (aJ fs.size ib.size)⟩,?_,?_⟩
 ·have:=fm (G:=eA g) iC ib (fun k _ _ e e'=>hne (by rw [e];rw [e']));rw [Rk _ _ _ _ mD];simpa using this
 ·intro i m' u' hi hu';have key:∀ {x:Value} {ps:List fQ},iH w L x ps->iH (w6.setCell ⟨g,2,none⟩ v6) L x ps:=fun hx=>(hx.mod fs CB).mod ib Hz;by_cases hlt:i<s.way.length
  ·simp only at hi;rw [aE hlt] at hi;rw [aE (by omega)] at hu';exact key (hps i m' u' hi hu')
  ·have hi':i=s.way.length:=by
    rcases dN i (s.way.length+1) with h' | h'
    ·omega
    ·simp only at hi;rw [ah (by simpa using h')] at hi;cases hi
   subst hi';simp only at hi;rw [aM (aF _)] at hi;rw [aM (by omega)] at hu';simp [mD] at hi hu';subst hi hu';exact key hu
 ·intro m' hm';rcases aN.1 hm' with e | e
  ·exact hgd m' e
  ·simp at e;subst e;exact jF
 ·exact (h.dn.mod fs (fun k hk e=>a3 k e hk)).mod ib (fun k hk e=>a2 (by rw [hk,e]))
 ·rcases hat with e | e
  ·exact .inl (by rw [sB,e];rfl)
  ·exact .inr (fun k hk=>by rw [sB] at hk;simp [Value.ownBlock] at hk;omega)
 ·exact (fs.mono (fun i _ e=>.inr (.inl e))).setCell (p:=⟨g,2,none⟩) (fun _=>.inl rfl) _
theorem yHg(L:Lo)(g:Nat)(wv:Value)(mr:Option Nat)(s:fC)(S:Nat->Prop)(v:Value)(ms:List dw)(w:World)(h:fO E w L g wv mr s)(hv:Gc w L S v ms)(hS:∀ k,S k->k<w.heap.size/\¬ mx g wv mr k)(hlo:s.lost+ms.length<=4611686018427387904) :
  Calls Tryz.prog 48 #[.pointer (some ⟨g,2,none⟩),v] w fun e w'=>∃ iN,e=.returned (.int .i64 ((ly s ms).lost - s.lost))/\fO E w' L g iN mr (ly s ms)/\iF w wv iN/\Mod (mx g wv mr) w w':=by
 obtain ⟨i0,hi,hz0,hz1,hz2⟩:=info_parts Tryz.pS;have hv0:=hv;obtain ⟨va,Cs,rfl,SF,hvm,_⟩:=hv0;unfold maxLen at hvm;have c1:=h.blk.cell 3 rfl;have HS:=dq hS;have hgl:=h.blk.lt;have HX:=dq (zWp g w);go_enter Tryz.func48,Tryz.ntmps48;go_wp2_with fail;refine HX.out.mono ?_;rintro e w0 ⟨hw0,rfl⟩;have hm0:Mod dZ w w0:=by rw [hw0];exact (Mod.refl _ w).alloc _
 have hq0:dg w0 w.heap.size [.pointer (some ⟨g,2,none⟩)] 147:=by rw [hw0];exact dg.new w _ _
 have h0:fO E w0 L g wv mr s:=h.mod hm0 (Qm.none _ _) (fun _ _=>id);have hv1:=hv.mod hm0 (Qm.none _ _) (fun _ _=>id);have LA:Mod (mx g wv mr) w w0:=hm0.mono (fun _ _ e=>e.elim);clear hw0 hm0 h hv HX c1;go_wp2_with fail;go_loopw [17] (fun i wr=>∃ (k:Nat) (iN:Value),k<=ms.length/\i=.int .i64 k/\fO E wr L g iN mr (ly s (ms.take k))/\Gc wr L S (.slice va ms.length Cs) ms/\iF w wv iN/\Mod (mx g wv mr) w wr/\dg wr w.heap.size [.pointer (some ⟨g,2,none⟩)] 147) (fun i _=>ms.length - (intOf i).toNat)
 case atStart=>exact ⟨0,wv,aT _,rfl,by simpa [ly] using h0,hv1,iF.refl _ _,LA,hq0⟩
 case round=>
  obtain ⟨k,iN,hk,rfl,hN,hV,CL,hM,hQ⟩:=hrel;clear h0 hv1 LA hq0;have hlk:=Cm (ms.take k) s;have hlk2:((ms.take k).length:Int)<=k:=by rw [aZ];omega
  by_cases hlt:k<ms.length
  ·obtain ⟨m,hm⟩:∃ m,ms[k]?=some m:=⟨_,aA hlt⟩;have hV0:=hV;obtain ⟨a',cap',ha',_,_,hcl⟩:=hV0;simp only [Value.slice.injEq] at ha';obtain ⟨rfl,_,rfl⟩:=ha';rcases hcl with rfl | ⟨b,off,rfl,hSb,hcl⟩
   ·simp at hlt
   obtain ⟨u,hu,jF,hcm⟩:=hcl k m hm;have q0:=hcm 0 _ rfl;have q1:=hcm 1 _ rfl;have q2:=hcm 2 _ rfl;have q3:=hcm 3 _ rfl;have q4:=hcm 4 _ rfl;have q5:=hcm 5 _ rfl;have q6:=hcm 6 _ rfl;have q7:=hcm 7 _ rfl;have q8:=hcm 8 _ rfl;simp only [bG] at q0;obtain ⟨ua,dp,rfl⟩:∃ ua dp,u=.slice ua m.cmd.writes.length dp:=by obtain ⟨ua,dp,h,_⟩:=hu;exact ⟨ua,dp,h⟩
   have HT:Hid (ly s (ms.take (k+1))=mR (ly s (ms.take k)) m):=by
    have e:ms.take (k+1)=ms.take k++[m]:=by
     rw [au hlt];rw [aA hlt] at hm;simp at hm;rw [hm]
    rw [Hid,e,zWr]
   obtain ⟨s1,hs1⟩:∃ q,q=ly s (ms.take k):=⟨_,rfl⟩;rw [<-hs1] at hN hlk HT;clear hcl hcm hm hs1;obtain ⟨w1,hw1⟩:∃ q,q=wr.alloc (.cells #[.int .i64 m.kind,.int .i64 m.eF,.int .i64 m.to,.int .i64 m.dk,.int .i64 m.n,.int .i64 m.cmd.kind,.int .i64 m.cmd.tx,.int .i64 m.cmd.time,.slice ua m.cmd.writes.length dp] 112):=⟨_,rfl⟩;have dh:Mod dZ wr w1:=by rw [hw1];exact (Mod.refl _ wr).alloc _
   have ff:dg w1 wr.heap.size (ig m (.slice ua m.cmd.writes.length dp)) 112:=by rw [hw1];exact dg.new wr _ _
   have oL:=hN.mod dh (Qm.none _ _) (fun _ _=>id);have hV1:=hV.mod dh (Qm.none _ _) (fun _ _=>id);have kE:=hQ.mod dh id;have hu1:=hu.mod dh (Qm.none _ _);have nT:=hM.trans (dh.mono (fun _ _ e=>e.elim));have HSI:=dq (zTi g w.heap.size L m (.slice ua m.cmd.writes.length dp) mr s1.down w1 (kE.cell 0 rfl) (oL.blk.cell 4 rfl) oL.dn jF.1);clear hN hV hQ hu hM dh;go_wp2_with fail;rw [<-hw1];refine HSI.out.mono ?_;rintro e w2 ⟨rfl,hm2⟩;have lO:=oL.mod hm2 (Qm.none _ _) (fun _ _=>id);have hV2:=hV1.mod hm2 (Qm.none _ _) (fun _ _=>id);have Ky:=kE.mod hm2 id;have gp:=ff.mod hm2 id;have hu2:=hu1.mod hm2 (Qm.none _ _);have lP:=nT.trans (hm2.mono (fun _ _ e=>e.elim));clear oL hV1 kE hu1 nT hm2 ff hw1 HSI q0 q1 q2 q3 q4 q5 q6 q7 q8;by_cases Nj:rP s1.down m=true
   ·rw [Nj];have HF:Hid (mR s1 m=⟨s1.way,s1.lost+1,s1.down⟩):=by rw [Hid,mR,Nj];rfl
    have c1:=lO.blk.cell 3 rfl;have f1:=lO.blk.frozen 3;have oJ:=lO.lo;have nB:=dq (lO.loses (s1.lost+1) (by omega));have YT:=hV2.mod (Mod.dt (w:=w2) g 3 (.int .i64 (s1.lost+1))) (Qm.mf lO (fun k _ e=>.inl e)) (fun k hk e=>(HS.out k hk).2 (.inl e));have Yb:=Ky.mod (Mod.dt (w:=w2) g 3 (.int .i64 (s1.lost+1))) (fun e=>by simp only [eA] at e;omega);have Yj:=lP.net CL nB.out.2;clear lO hV2 Ky lP hu2 gp;go_wp2_with fail;go_roundw
    case rel=>exact ⟨k+1,iN,by omega,by go_num,by rw [HT.out,HF.out];exact nB.out.1,YT,CL,Yj,Yb⟩
    case measure=>simp [intOf];omega
   ·have CA:rP s1.down m=false:=by simpa using Nj
    rw [CA];have Pw:=dq (TV L g iN mr s1 w2 lO);go_wp2_with fail;refine Pw.out.mono ?_;rintro e w3 ⟨rfl,hw3⟩;subst hw3;by_cases hro:s1.way.length<200
    ·have hd:decide (s1.way.length<200)=true:=by simpa using hro
     rw [hd];have HF:Hid (mR s1 m=⟨s1.way++[m],s1.lost,s1.down⟩):=by rw [Hid,mR,CA,Bool.false_or,aK (by simp;omega)]
     obtain ⟨wa,ft,iY⟩:=lO.row.slice;subst iY;have c0:=lO.blk.cell 2 rfl;have f0:=lO.blk.frozen 2;obtain ⟨⟨p0,p1,p2,p3,p4,p5,p6,p7,p8⟩,_⟩:=iM gp;have HU:Hid (iH w3.drew L (.slice ua m.cmd.writes.length dp) m.cmd.writes):=hu2.mod ((Mod.refl dZ w3).drew) (Qm.none _ _);have CU:=dq lO;have Ld:=dq lO.apart;have Sn:=dq hV2;have hz3:=lP.size;have vM:=lO.blk.lt;have hbz:=gp.lt;have wW:m.cmd.writes.length<=1000000:=by have:=jF.2;omega
     have iJ:s1.way.length+1<=maxLen:=by unfold maxLen;omega
     have iK:(s1.way.length+1)*88<=140737488355328:=by omega
     obtain ⟨us,mD,hrow,hps,hgd⟩:=lO.row;have fY:=dq hrow;have rI:=dq hps;have vp:=dq hgd;have kD:=lO.low;clear lO hV2 hu2 hrow hps hgd Pw;go_upto_region 8 with fail
     go_region_law
       ((first
        | (go_simp;go_at_call 90;(refine (yRr L m _ _ HU.out wW).mono ?_;rintro e w5 ⟨u5,rfl,iZ,eP⟩;obtain ⟨Gh,Gg,rfl⟩:=eu iZ;have jD:Mod dZ w3 w5:=(((Mod.refl dZ w3).drew).trans eP);have c5:=jD.cell c0 id;have f5:=(jD.frozen (p:=⟨g,2,none⟩) vM id).trans f0;have z5:=jD.size;have gz5:g<w5.heap.size:=aH vM z5;have zE:=dq (fm fY.out jD (fun _ _ _ _=>id));dsimp only [uy]))
        | (refine step_append_lies _ (by rfl) _ _ _ (by rfl) L 112 i0 _ 9 88 Tryz.underlying76 hi hz0 hz1 hz2 rfl (by omega) _ _ _ (by rfl) (zE.out.alloc _) ⟨w5.heap.size,0,none⟩ 1 1 (ig m (.slice Gh m.cmd.writes.length Gg)) (by rfl) (by rfl) (World.news_of_block (heap_alloc_new w5 _)) (Va _ _ _ _) (by omega) iJ iK (by simp;omega) _ rfl ?_;intro g6 lT w6 iC hgrow hat DV;have ik:Mod (fun k=>(Value.slice wa s1.way.length ft).ownBlock=some k) w5 w6:=((Mod.refl _ w5).alloc _).grown hgrow (fun x hx _=>hx);have c6:=ik.cell c5 Ld.out.1;have f6:=(ik.frozen (p:=⟨g,2,none⟩) (aH vM z5) Ld.out.1).trans f5)
        | fail))
     all_goals
      have mj:=CU.out.mod jD (Qm.none _ _) (fun _ _=>id);have R:=mj.sent mD (fun i m u h1 h2=>(rI.out i m u h1 h2).mod jD (Qm.none _ _)) vp.out (iH.iA iZ (fun k hk=>CU.out.xb k hk)) jF hro hgrow rfl iC (by simpa using hat);have wZ:=lP.trans (jD.mono (fun _ _ e=>e.elim));have HR:=dq R.1;have Yh:=CL.trans R.2.1 (aJ hz3 z5);have CM:=wZ.net CL R.2.2;have hV5:=Sn.out.mod jD (Qm.none _ _) (fun _ _=>id);have hV6:=hV5.mod R.2.2 mj.qm (fun k hk e=>by
       obtain ⟨h1,h2⟩:=HS.out k hk;rcases e with e | e | e
       ·exact h2 (.inl e)
       ·rcases CL with h3 | h3
        ·exact h2 (.inr (.inl (by rw [<-h3];exact e)))
        ·have:=h3 k e;omega
       ·exact h2 (.inr (.inr e)))
      have hQ6:=(Ky.mod jD id).mod R.2.2 (mj.DC (Ky.mod jD id) (by decide) (by decide));go_wp2_with fail;go_roundw
      case rel=>exact ⟨k+1,_,by omega,by go_num,by rw [HT.out,HF.out];exact HR.out,hV6,Yh,CM,hQ6⟩
      case measure=>simp [intOf];omega
    ·have hd:decide (s1.way.length<200)=false:=by simpa using hro
     rw [hd];have HF:Hid (mR s1 m=⟨s1.way,s1.lost+1,s1.down⟩):=by rw [Hid,mR,CA,Bool.false_or,aP (by simp;omega)]
     have c1:=lO.blk.cell 3 rfl;have f1:=lO.blk.frozen 3;have oJ:=lO.lo;have nB:=dq (lO.loses (s1.lost+1) (by omega));have YT:=hV2.mod (Mod.dt (w:=w3) g 3 (.int .i64 (s1.lost+1))) (Qm.mf lO (fun k _ e=>.inl e)) (fun k hk e=>(HS.out k hk).2 (.inl e));have Yb:=Ky.mod (Mod.dt (w:=w3) g 3 (.int .i64 (s1.lost+1))) (fun e=>by simp only [eA] at e;omega);have Yj:=lP.net CL nB.out.2;clear lO hV2 Ky lP hu2 gp;go_wp2_with fail;go_roundw
     case rel=>exact ⟨k+1,iN,by omega,by go_num,by rw [HT.out,HF.out];exact nB.out.1,YT,CL,Yj,Yb⟩
     case measure=>simp [intOf];omega
  ·have hkn:k=ms.length:=by omega
   subst hkn;rw [bJ] at hN hlk;have c1:=hN.blk.cell 3 rfl;have hlo1:=hN.lo;have HN:=dq hN;clear hN hV hQ;go_wp2_with fail;go_ret;exact ⟨iN,by go_num,HN.out,CL,hM⟩
end Go.Proofs.YtmaiggbnceejiaaGreatDoor
namespace Go.Proofs.YtmaiggbnceejiaaGreatDoor
open Go.RowKit Go.Lib Go.Maps
variable {E:Ext}
theorem Qm.row{w:World}{B:Nat}{L:Lo}{e:TypeId}{size n:Nat}{v:Value}{xs:List Value}(h:w.ownsRow B e size v n xs)(hL:L<=B)(he:e≠68):Qm w L (fun k=>v.ownBlock=some k):=fun k _ hk=>by
 rcases h.2 with ⟨e',_⟩ | ⟨g',cap,cur,e',h1,hg,_⟩
 ·rw [e'] at hk;simp [Value.ownBlock] at hk
 ·rw [e'] at hk;simp [Value.ownBlock] at hk;subst hk;rintro (e1 | ⟨⟨cur',fr,e1⟩,_⟩)
  ·omega
  ·rw [hg] at e1;simp at e1;exact he e1.2.1
end Go.Proofs.YtmaiggbnceejiaaGreatDoor
