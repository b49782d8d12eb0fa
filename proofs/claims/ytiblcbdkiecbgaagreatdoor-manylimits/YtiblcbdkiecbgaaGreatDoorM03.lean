import Derived.Test.YtiblcbdkiecbgaaGreatDoorM02
set_option linter.unusedVariables false
set_option maxRecDepth 100000
set_option maxHeartbeats 16000000
namespace Go.Proofs.YtiblcbdkiecbgaaGreatDoor
open Go.RowKit Go.Lib Go.Maps
structure Lo where
 n:Nat
 x:Nat->Prop
instance:Coe Lo Nat:=⟨Lo.n⟩
def St(w:World)(L:Lo)(k:Nat):Prop:=k<L.n\/(∃ cur fr,w.heap[k]?=some (.cells cur 121 fr))/\¬ L.x k
def Qm(w:World)(L:Lo)(G:Nat->Prop):Prop:=∀ k,k<w.heap.size->G k->¬ St w L k
theorem Qm.none(w:World)(L:Lo):Qm w L noBlock:=fun _ _ h=>h.elim
theorem St.mod{G:Nat->Prop}{w w':World}{L:Lo}{k:Nat}(h:St w L k)(hm:Mod G w w')(hq:Qm w L G):St w' L k:=by
 rcases h with h | ⟨⟨cur,fr,h⟩,hx⟩
 ·exact .inl h
 ·have hlt:=(Array.getElem?_eq_some_iff.1 h).1
  exact .inr ⟨⟨cur,fr,(hm.block k hlt (fun g=>hq k hlt g (.inr ⟨⟨cur,fr,h⟩,hx⟩))).trans h⟩,hx⟩
def PairsT(w:World)(L:Lo)(v:Value)(ps:List PairD):Prop:=
 ∃ a cap,v=.slice a ps.length cap/\ps.length<=cap/\cap<=maxLen /\
  (ps=[]\/∃ b off,a=some ⟨b,off,none⟩/\St w L b/\∀ j p,ps[j]?=some p->w.cell? ⟨b,off+j*3,none⟩=some (.string p.key)/\w.cell? ⟨b,off+j*3+1,none⟩=some (.string p.val)/\w.cell? ⟨b,off+j*3+2,none⟩=some (.bool p.gone))
theorem PairsT.mod{G:Nat->Prop}{w w':World}{L:Lo}{v:Value}{ps:List PairD}(h:PairsT w L v ps)(hm:Mod G w w')(hq:Qm w L G):PairsT w' L v ps:=by
 obtain ⟨a,cap,h1,h2,h3,h4⟩:=h
 refine ⟨a,cap,h1,h2,h3,?_⟩
 rcases h4 with h4 | ⟨b,off,h5,h6,h7⟩
 ·exact .inl h4
 ·have hn:∀ (j:Nat) (u:Value),w.cell? ⟨b,j,none⟩=some u->w'.cell? ⟨b,j,none⟩=some u:=fun j u hu=>hm.cell hu (fun g=>hq b (World.block_lt_of_cell? w _ hu) g h6)
  exact .inr ⟨b,off,h5,h6.mod hm hq,fun j p hp=>⟨hn _ _ (h7 j p hp).1,hn _ _ (h7 j p hp).2.1,hn _ _ (h7 j p hp).2.2⟩⟩
theorem PairsT.of_own{w:World}{B:Nat}{L:Lo}{v:Value}{ps:List PairD}(h:w.ownsRow B 121 3 v ps.length (ps.flatMap pairCells))(hx:∀ k,L.x k->k<B):PairsT w L v ps:=by
 have hr:=PairsR.of_own h (Nat.le_refl _)
 obtain ⟨a,cap,h1,h2,h3,h4⟩:=hr
 refine ⟨a,cap,h1,h2,h3,?_⟩
 rcases h4 with h4 | ⟨b,off,h5,h6,h7⟩
 ·exact .inl h4
 ·rcases h.2 with ⟨h0,h0'⟩ | ⟨g,cap',cur,h0,hBg,hg,_⟩
  ·exact .inl (List.eq_nil_of_length_eq_zero h0')
  ·rw [h0] at h1
   simp only [Value.slice.injEq] at h1
   rw [h5] at h1
   simp at h1
   obtain ⟨⟨rfl,rfl⟩,rfl⟩:=h1
   exact .inr ⟨g,0,h5,.inr ⟨⟨cur,_,hg⟩,fun e=>by have:=hx _ e;omega⟩,h7⟩
theorem PairsT.nil(w:World)(L:Lo):PairsT w L (.slice none 0 0) []:=⟨none,0,rfl,Nat.le_refl _,Nat.zero_le _,.inl rfl⟩
def msgCells(m:MsgD)(u:Value):List Value:=[.int .i64 m.kind,.int .i64 m.frm,.int .i64 m.to,.int .i64 m.epoch,.int .i64 m.n,.int .i64 m.cmd.kind,.int .i64 m.cmd.tx,.int .i64 m.cmd.time,u]
theorem msg_one(m:MsgD)(a:Option Addr)(n cap:Nat):∀ u∈msgCells m (.slice a n cap),u.oneCell'=true:=by
 intro u hu;simp [msgCells] at hu;rcases hu with rfl | rfl | rfl | rfl | rfl | rfl | rfl | rfl | rfl <;> rfl
theorem pairCells_one(ps:List PairD):∀ u∈ps.flatMap pairCells,u.oneCell'=true:=by
 intro u hu
 obtain ⟨p,_,hp⟩:=List.mem_flatMap.1 hu
 simp [pairCells] at hp;rcases hp with rfl | rfl | rfl <;> rfl
theorem pairCells_len(ps:List PairD):(ps.flatMap pairCells).length=ps.length*3:=by
 induction ps with
 | nil=>rfl
 | cons p ps ih=>simp only [List.flatMap_cons,List.length_append,ih,pairCells,List.length_cons,List.length_nil];omega
theorem PairsT.cells{w:World}{L:Lo}{a:Option Addr}{n cap:Nat}{ps:List PairD}(h:PairsT w L (.slice a n cap) ps)(h0:ps≠[]) :
  ∃ b off,a=some ⟨b,off,none⟩/\∀ (j:Nat) u,(ps.flatMap pairCells)[j]?=some u->w.cell? ((⟨b,off,none⟩:Addr).add j)=some u:=by
 obtain ⟨a',cap',h1,_,_,h4⟩:=h
 simp only [Value.slice.injEq] at h1
 obtain ⟨rfl,_,rfl⟩:=h1
 rcases h4 with h4 | ⟨b,off,h5,h6,h7⟩
 ·exact absurd h4 h0
 ·refine ⟨b,off,h5,fun j u hu=>?_⟩
  rw [Go.WideShapes.add_plain]
  have hj:j<ps.length*3:=by
   have:=(List.getElem?_eq_some_iff.1 hu).1
   rw [pairCells_len] at this;exact this
  obtain ⟨p,hp⟩:∃ p,ps[j / 3]?=some p:=⟨_,List.getElem?_eq_getElem (by omega)⟩
  obtain ⟨f0,f1,f2⟩:=flat3 ps (j / 3) p hp
  obtain ⟨q0,q1,q2⟩:=h7 (j / 3) p hp
  have hc:j % 3=0\/j % 3=1\/j % 3=2:=by omega
  rcases hc with hc | hc | hc
  ·have e:j / 3*3=j:=by omega
   rw [e] at f0 q0
   rw [f0] at hu;cases hu;exact q0
  ·have e:j / 3*3+1=j:=by omega
   rw [e] at f1
   rw [f1] at hu;cases hu
   rw [show off+j=off+j / 3*3+1 by omega];exact q1
  ·have e:j / 3*3+2=j:=by omega
   rw [e] at f2
   rw [f2] at hu;cases hu
   rw [show off+j=off+j / 3*3+2 by omega];exact q2
theorem append_none(a:Option Addr)(cap:Nat)(ty:TypeId)(w:World):(Builtin.append_ #[164,164] ty #[.slice none 0 0,.slice a 0 cap]).run Tryz.prog w=.ok (.slice none 0 0) w:=by
 cases a <;> kernel_rfl
theorem wpList_append_nothing{w:World}{ops:Array Oper}{rest:List Oper}{o:Oper}{a:Act}{Q:Exit->Act->World->Prop}(hgd:o.guard=none)(s x:Operand)
  (ho:o.op=.call { callee:=.builtin .append,args:=#[s,x],argTypes:=#[164,164] }) (hs:a.eval s=.slice none 0 0) (ad:Option Addr) (cap:Nat) (hx:a.eval x=.slice ad 0 cap)
  (h:wpList Tryz.prog ops Q rest (a.put o.dst (.slice none 0 0)) w):wpList Tryz.prog ops Q (o :: rest) a w:=by
 refine wpList_plain hgd fun K hK=>?_
 have hr:=append_none ad cap o.type w
 unfold Oper.wp execOp
 simp only [ho,resolve,invoke,builtin,Sem.run_bind,Sem.run_pure,Result.andThen_ok,List.map_toArray,List.map_cons,List.map_nil,hs,hx,hr]
 exact hK _ _ h
theorem ownM_any(L:Lo)(m:MsgD)(u:Value)(w:World)(hu:PairsT w L u m.cmd.writes)(hl:m.cmd.writes.length<=1000000) :
  Calls Tryz.prog 169 #[.agg #[.int .i64 m.kind,.int .i64 m.frm,.int .i64 m.to,.int .i64 m.epoch,.int .i64 m.n,.int .i64 m.cmd.kind,.int .i64 m.cmd.tx,.int .i64 m.cmd.time,u]] w fun e w'=>
   ∃ u',e=.returned (msgV m u')/\w'.ownsRow w.heap.size 121 3 u' m.cmd.writes.length (m.cmd.writes.flatMap pairCells)/\Mod noBlock w w':=by
 obtain ⟨i0,hi,hz0,hz1,hz2⟩:=info_parts Tryz.info121
 have hu0:=hu
 obtain ⟨a,cap,rfl,hpc,hcm,_⟩:=hu0
 go_enter Tryz.func169,Tryz.ntmps169
 by_cases h0:m.cmd.writes=[]
 ·have h00:m.cmd.writes.length=0:=by rw [h0];rfl
  rw [h00]
  have HF:Hid (m.cmd.writes.flatMap pairCells=[]):=by rw [Hid,h0];rfl
  go_wp2_with (first
   | (at_builtin;refine wpList_append_nothing rfl _ _ rfl rfl _ _ rfl ?_)
   | fail)
  have hb:Blk ((w.alloc (.cells #[.int .i64 m.kind,.int .i64 m.frm,.int .i64 m.to,.int .i64 m.epoch,.int .i64 m.n,.int .i64 m.cmd.kind,.int .i64 m.cmd.tx,.int .i64 m.cmd.time,.slice none 0 0] 178)).alloc (.cells #[.int .i64 m.kind,.int .i64 m.frm,.int .i64 m.to,.int .i64 m.epoch,.int .i64 m.n,.int .i64 m.cmd.kind,.int .i64 m.cmd.tx,.int .i64 m.cmd.time,.slice none 0 0] 178)) (w.heap.size+1) [.int .i64 m.kind,.int .i64 m.frm,.int .i64 m.to,.int .i64 m.epoch,.int .i64 m.n,.int .i64 m.cmd.kind,.int .i64 m.cmd.tx,.int .i64 m.cmd.time,.slice none 0 0] 178:=by
   have:=Blk.new (w.alloc (.cells #[.int .i64 m.kind,.int .i64 m.frm,.int .i64 m.to,.int .i64 m.epoch,.int .i64 m.n,.int .i64 m.cmd.kind,.int .i64 m.cmd.tx,.int .i64 m.cmd.time,.slice none 0 0] 178)) [.int .i64 m.kind,.int .i64 m.frm,.int .i64 m.to,.int .i64 m.epoch,.int .i64 m.n,.int .i64 m.cmd.kind,.int .i64 m.cmd.tx,.int .i64 m.cmd.time,.slice none 0 0] 178
   rw [World.size_alloc] at this;exact this
  refine bodyPost_ret (res_cell Tryz.results169 _ ⟨w.heap.size+1,0,none⟩ rfl (load_msg hb)) rfl ⟨.slice none 0 0,rfl,?_,((Mod.refl _ w).alloc _).alloc _⟩
  rw [HF.out]
  exact World.ownsRow_nil _ _ _ _
 ·obtain ⟨b,off,rfl,hcl⟩:=hu.cells h0
  have hM2:Mod noBlock w ((w.alloc (.cells #[.int .i64 m.kind,.int .i64 m.frm,.int .i64 m.to,.int .i64 m.epoch,.int .i64 m.n,.int .i64 m.cmd.kind,.int .i64 m.cmd.tx,.int .i64 m.cmd.time,.slice (some ⟨b,off,none⟩) m.cmd.writes.length cap] 178)).alloc (.cells #[.int .i64 0,.int .i64 0,.int .i64 0,.int .i64 0,.int .i64 0,.int .i64 0,.int .i64 0,.int .i64 0,.slice none 0 0] 178)):=((Mod.refl _ w).alloc _).alloc _
  have HCL:Hid (∀ (j:Nat) u,(m.cmd.writes.flatMap pairCells)[j]?=some u->((w.alloc (.cells #[.int .i64 m.kind,.int .i64 m.frm,.int .i64 m.to,.int .i64 m.epoch,.int .i64 m.n,.int .i64 m.cmd.kind,.int .i64 m.cmd.tx,.int .i64 m.cmd.time,.slice (some ⟨b,off,none⟩) m.cmd.writes.length cap] 178)).alloc (.cells #[.int .i64 0,.int .i64 0,.int .i64 0,.int .i64 0,.int .i64 0,.int .i64 0,.int .i64 0,.int .i64 0,.slice none 0 0] 178)).cell? ((⟨b,off,none⟩:Addr).add j)=some u):=fun j u hju=>hM2.cell (hcl j u hju) id
  have HLC:=Hmr (pairCells_len m.cmd.writes)
  have HON:=Hmr (pairCells_one m.cmd.writes)
  have hk63:0+m.cmd.writes.length<=maxLen:=by unfold maxLen;omega
  have hk47:(0+m.cmd.writes.length)*40<=140737488355328:=by omega
  clear hcl hu
  go_wp2_with (first
   | (at_builtin;refine wpList_append_own _ rfl _ _ 164 rfl (w.heap.size+1+1) 121 i0 _ 3 40 Tryz.underlying164 hi hz0 hz1 hz2 rfl (by omega) _ _ _ rfl (World.ownsRow_nil _ _ _ _) ⟨b,off,none⟩ _ _ (m.cmd.writes.flatMap pairCells) rfl HLC.out HCL.out HON.out hk63 hk47 (by simp) ?_)
   | fail)
  intro v' w1 hown1 hgrow _
  have hm1:=(Mod.refl noBlock _).grown hgrow (fun x hx _=>by simp [Value.ownBlock] at hx)
  have hB1:=((Blk.new w [.int .i64 m.kind,.int .i64 m.frm,.int .i64 m.to,.int .i64 m.epoch,.int .i64 m.n,.int .i64 m.cmd.kind,.int .i64 m.cmd.tx,.int .i64 m.cmd.time,.slice (some ⟨b,off,none⟩) m.cmd.writes.length cap] 178).mod ((Mod.refl noBlock _).alloc (.cells #[.int .i64 0,.int .i64 0,.int .i64 0,.int .i64 0,.int .i64 0,.int .i64 0,.int .i64 0,.int .i64 0,.slice none 0 0] 178)) id).mod hm1 id
  have hB2:=(Blk.new (w.alloc (.cells #[.int .i64 m.kind,.int .i64 m.frm,.int .i64 m.to,.int .i64 m.epoch,.int .i64 m.n,.int .i64 m.cmd.kind,.int .i64 m.cmd.tx,.int .i64 m.cmd.time,.slice (some ⟨b,off,none⟩) m.cmd.writes.length cap] 178)) [.int .i64 0,.int .i64 0,.int .i64 0,.int .i64 0,.int .i64 0,.int .i64 0,.int .i64 0,.int .i64 0,.slice none 0 0] 178).mod hm1 id
  rw [World.size_alloc] at hB2
  have hM1:=hM2.trans hm1
  obtain ⟨⟨x0,x1,x2,x3,x4,x5,x6,x7,x8⟩,⟨y0,y1,y2,y3,y4,y5,y6,y7,y8⟩⟩:=blk9 hB1
  obtain ⟨⟨p0,p1,p2,p3,p4,p5,p6,p7,p8⟩,⟨q0,q1,q2,q3,q4,q5,q6,q7,q8⟩⟩:=blk9 hB2
  obtain ⟨va,vc,rfl⟩:=own_slice hown1
  have HO:=Hmr hown1
  clear hown1 hgrow hm1 HCL HLC HON hM2
  go_wp2_with fail
  have hB2':=hB2.mod (Mod.setBlk (w:=w1) w.heap.size 8 (.slice va m.cmd.writes.length vc)) (by simp [oneBlock])
  have hOW:w1.ownsRow (w.heap.size+1+1) 121 3 (.slice va m.cmd.writes.length vc) m.cmd.writes.length (m.cmd.writes.flatMap pairCells):=by simpa using HO.out
  refine bodyPost_ret (res_cell Tryz.results169 _ ⟨w.heap.size+1,0,none⟩ rfl (put9_res hB2' _ _ _ _ _ _ _ _ _)) rfl ⟨.slice va m.cmd.writes.length vc,rfl,?_,?_⟩
  ·refine own_base (own_mod (G:=oneBlock (w.heap.size+1)) (own_mod (G:=oneBlock w.heap.size) hOW (Mod.setBlk _ 8 _) (fun k hk _ _ e=>by simp only [oneBlock] at e;omega)) (put9_only _ _ _ _ _ _ _ _ _ _ _) (fun k hk _ _ e=>by simp only [oneBlock] at e;omega)) (by omega)
  ·have h1:Mod (newer w.heap.size) w (w1.setCell ⟨w.heap.size,8,none⟩ (.slice va m.cmd.writes.length vc)):=Mod.put (hM1.mono (fun _ _ e=>e.elim)) _ _ (Nat.le_refl _) _
   have h2:=h1.trans ((put9_only (w1.setCell ⟨w.heap.size,8,none⟩ (.slice va m.cmd.writes.length vc)) (w.heap.size+1) (.int .i64 m.kind) (.int .i64 m.frm) (.int .i64 m.to) (.int .i64 m.epoch) (.int .i64 m.n) (.int .i64 m.cmd.kind) (.int .i64 m.cmd.tx) (.int .i64 m.cmd.time) (.slice va m.cmd.writes.length vc)).mono (G':=newer w.heap.size) (fun i _ e=>by simp only [oneBlock,newer] at e ⊢;omega))
   exact h2.mono (fun i hi e=>by simp only [newer] at e;omega)
end Go.Proofs.YtiblcbdkiecbgaaGreatDoor
