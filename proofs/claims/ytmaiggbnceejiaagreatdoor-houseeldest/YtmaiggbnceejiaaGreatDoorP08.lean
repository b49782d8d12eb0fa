import Derived.Test.YtmaiggbnceejiaaGreatDoorP07
import Derived.Lib.SliceRun
import Derived.Lib.Overlaps
import Derived.Lib.AppendZeros
import Derived.Lib.AppendZerosOnto
import Derived.Laws.NewBlocks
import Derived.Shelf.RegionOpenPlain
set_option linter.unusedVariables false
set_option maxRecDepth 100000
set_option maxHeartbeats 16000000
namespace Go.Proofs.YtmaiggbnceejiaaGreatDoor
open Go.RowKit Go.Lib Go.Maps Go.Shelf
def fZ(d:dg):List Value:=[.int .i64 d.tx,.int .i64 d.mode]
def fF:List dg->List Value
 | []=>[]
 | o :: os=>fZ o++fF os
theorem vj:∀ os,(fF os).length=os.length*2
 | []=>rfl
 | o :: os=>by simp [fF,fZ,vj os];omega
theorem Lr:∀ a b,fF (a++b)=fF a++fF b
 | [],b=>by simp [fF]
 | p :: a,b=>by simp [fF,Lr a b]
theorem Lt(d:dg):fF [d]=fZ d:=by simp [fF]
theorem zOh:∀ (os:List dg) (i:Nat),fF (os.take i)=(fF os).take (i*2)
 | [],i=>by simp [fF]
 | o :: os,0=>by simp [fF]
 | o :: os,i+1=>by
  rw [aq,fF,fF,zOh os i,show (i+1)*2=(fZ o).length+i*2 by simp [fZ];omega,List.take_length_add_append]
theorem zOi:∀ (os:List dg) (i:Nat),fF (os.drop i)=(fF os).drop (i*2)
 | [],i=>by simp [fF]
 | o :: os,0=>by simp [fF]
 | o :: os,i+1=>by
  rw [bR,fF,zOi os i,show (i+1)*2=(fZ o).length+i*2 by simp [fZ];omega,List.drop_length_add_append]
theorem zOj:∀ (os:List dg) (i:Nat) (o:dg),os[i]?=some o->∀ j x,(fZ o)[j]?=some x->(fF os)[i*2+j]?=some x
 | [],i,o,h,_,_,_=>by simp at h
 | p :: os,0,o,h,j,x,hx=>by
  simp at h;subst h;have hj:j<(fZ p).length:=(aB.1 hx).1;rw [fF,cj,ah,aI hj];exact hx
 | p :: os,i+1,o,h,j,x,hx=>by
  have ih:=zOj os i o (by simpa using h) j x hx;have hl:(fZ p).length=2:=rfl;rw [fF,aO (by omega),hl,show (i+1)*2+j - 2=i*2+j by omega];exact ih
def fI(w:World)(B:Nat)(v:Value)(os:List dg):Prop:=w.ownsRow B 170 2 v os.length (fF os)
theorem fI.oN{w:World}{B L:Nat}{v:Value}{os:List dg}(h:fI w B v os)(hL:w.heap.size<=L):vZ w L v os:=by
 obtain ⟨h1,h2⟩:=h;rcases h2 with ⟨rfl,hn⟩ | ⟨g,cap,cur,rfl,q1,q2,q3,q4,q5,q6⟩
 ·have:os=[]:=aT hn;subst this;exact gG.nil _ _ _ _
 ·have hc:w.ownsRow B 170 2 (.slice (some ⟨g,0,none⟩) os.length cap) os.length (fF os):=⟨h1,.inr ⟨g,cap,cur,rfl,q1,q2,q3,q4,q5,q6⟩⟩;have hcl:=hc.cells (g:=g) rfl;have hgl:g<w.heap.size:=(aK.1 q2).1;refine ⟨_,cap,rfl,q3,q4,.inr ⟨g,0,rfl,by omega,fun i o hi=>⟨fZ o,rfl,rfl,fun j x hx=>?_⟩⟩⟩;have:=hcl _ _ (zOj os i o hi j x hx);rw [Go.WideShapes.add_plain,ah] at this;rw [ah];exact this
theorem fI.mod{G:Nat->Prop}{w w':World}{B:Nat}{v:Value}{os:List dg}(h:fI w B v os)(hm:Mod G w w')(hG:∀ k,v.ownBlock=some k->¬ G k):fI w' B v os:=gD h hm (fun k _ _ e=>hG k e)
theorem FT:∀ (os:List dg),∀ u∈fF os,u.oneCell'=true
 | [],u,h=>by simp [fF] at h
 | o :: os,u,h=>by
  rcases aL.1 h with h | h
  ·simp [fZ] at h;rcases h with rfl | rfl <;> rfl
  ·exact FT os u h
theorem mM{w:World}{B:Nat}{v:Value}{e:TypeId}{sz n:Nat}{xs:List Value}(ho:w.ownsRow B e sz v n xs){k:Nat}(hk:v.ownBlock=some k):B<=k/\k<w.heap.size/\∃ cur,w.heap[k]?=some (.cells cur e (0,0)):=by
 rcases ho.2 with ⟨rfl,_⟩ | ⟨g,cap,cur,rfl,q1,q2,_⟩
 ·simp [Value.ownBlock] at hk
 ·simp [Value.ownBlock] at hk;subst hk;exact ⟨q1,(aK.1 q2).1,cur,q2⟩
theorem Tryz.nK:(Tryz.prog.info? 170).map (fun i=>(i.zero,i.size,i.bytes))=some (some (.agg #[.int .i64 0,.int .i64 0]),2,16):=by kernel_rfl
theorem zWq(w:World)(e:TypeId)(sz:Nat):(w.alloc (.cells #[] e)).ownsRow w.heap.size e sz (.slice (some ⟨w.heap.size,0,none⟩) 0 0) 0 []:=
 ⟨by simp,.inr ⟨w.heap.size,0,#[],rfl,aF _,heap_alloc_new w _,aF _,by unfold maxLen;omega,by simp,by simp⟩⟩
theorem Uo{w0:World}{ops:Array Oper}{rest:List Oper}{o:Oper}{a:Act}{Q:Exit->Act->World->Prop}(hgd:o.guard=none)(s x:Operand)(t:TypeId)
  (ho:o.op=.call { callee:=.builtin .append,args:=#[s,x],argTypes:=#[t,t] })
  (e:TypeId) (i:TypeInfo) (z:Value) (size bytes:Nat) (ht:Tryz.prog.underlying t=some (.slice e)) (hi:Tryz.prog.info? e=some i) (hz:i.zero=some z)
  (hsize:i.size=size) (hby:i.bytes=bytes) (hzs:z.cells.size=size) (hsz:0<size)
  (hnil:∀ (g:Nat) (a:Option Addr) (c:Nat) (ty:TypeId) (w:World),(Builtin.append_ #[t,t] ty #[.slice (some ⟨g,0,none⟩) 0 0,.slice a 0 c]).run Tryz.prog w=.ok (.slice (some ⟨g,0,none⟩) 0 0) w)
  (hs:a.eval s=.slice (some ⟨w0.heap.size,0,none⟩) 0 0)
  (ad:Option Addr) (m c:Nat) (news:List Value) (hx:a.eval x=.slice ad m c) (hl:news.length=m*size) (hnews:m=0\/∃ p,ad=some p/\∀ j u,news[j]?=some u->w0.cell? (p.add j)=some u) (h1:∀ u∈news,u.oneCell'=true)
  (h63:m<=maxLen) (hbytes:m*bytes<=140737488355328)
  (h:∀ (g cap:Nat) w',w'.ownsRow w0.heap.size e size (.slice (some ⟨g,0,none⟩) m cap) m news->Mod dZ w0 w'->wpList Tryz.prog ops Q rest (a.put o.dst (.slice (some ⟨g,0,none⟩) m cap)) w') :
  wpList Tryz.prog ops Q (o :: rest) a (w0.alloc (.cells #[] e)):=by
 have hm0:Mod dZ w0 (w0.alloc (.cells #[] e)):=(Mod.refl _ w0).alloc _;by_cases hm:m=0
 ·subst hm;have hn:news=[]:=aT (by simpa using hl);subst hn;refine wpList_plain hgd fun K hK=>?_;have hr:=hnil w0.heap.size ad c o.type (w0.alloc (.cells #[] e));unfold Oper.wp execOp;simp only [ho,resolve,invoke,builtin,Sem.run_bind,Sem.run_pure,Result.andThen_ok,cI,bh,cR,hs,hx,hr];exact hK _ _ (h _ _ _ (zWq w0 e size) hm0)
 ·obtain ⟨p,rfl,hc⟩:=hnews.resolve_left hm;refine wpList_append_own _ hgd s x t ho w0.heap.size e i z size bytes ht hi hz hsize hby hzs hsz _ 0 [] hs (zWq w0 e size) p m c news hx hl (fun j u hu=>hm0.cell (hc j u hu) id) h1 (by omega) (by rw [ah];exact hbytes) (by simp) ?_;intro v' w' hown hgrow hne;have di:Mod dZ w0 w':=hm0.grown hgrow (fun x hx hlt=>by simp [Value.ownBlock] at hx;omega);simp only [ah,ak] at hown;rcases hown.2 with ⟨e0,e1⟩ | ⟨g,cap,cur,rfl,_⟩
  ·exact absurd e1 hm
  ·exact h g cap w' hown di
theorem zVw(g:Nat)(a:Option Addr)(c:Nat)(ty:TypeId)(w:World):(Builtin.append_ #[166,166] ty #[.slice (some ⟨g,0,none⟩) 0 0,.slice a 0 c]).run Tryz.prog w=.ok (.slice (some ⟨g,0,none⟩) 0 0) w:=by
 cases a <;> kernel_rfl
theorem yKb(p:Addr)(m c:Nat)(l:List dg)(w:World)(hm:m=l.length)(hc:∀ (j:Nat) u,(fF l)[j]?=some u->w.cell? (p.add j)=some u)(hl:l.length<=1000) :
  Calls Tryz.prog 152 #[.slice (some p) m c] w fun e w'=>∃ g cap,e=.returned (.slice (some ⟨g,0,none⟩) m cap)/\w'.ownsRow w.heap.size 170 2 (.slice (some ⟨g,0,none⟩) m cap) m (fF l)/\Mod dZ w w':=by
 obtain ⟨i0,hi,hz0,hz1,hz2⟩:=info_parts Tryz.nK;have h63:m<=maxLen:=by unfold maxLen;omega
 have h47:m*16<=140737488355328:=by omega
 have AX:Hid ((fF l).length=m*2):=by rw [hm];exact vj l
 have Be:Hid (m=0\/∃ q,some p=some q/\∀ (j:Nat) u,(fF l)[j]?=some u->w.cell? (q.add j)=some u):=.inr ⟨p,rfl,hc⟩;have sJ:=dU (FT l);have hen:=run_eql_slice_nil (P:=Tryz.prog) w 166 170 (some p) m c 0 0 Tryz.underlying166;clear hc hm;go_enter Tryz.func152,Tryz.ntmps152;go_wp2_with (first
  | (at_builtin;(refine Uo (w0:=w) rfl _ _ 166 rfl 170 i0 _ 2 16 Tryz.underlying166 hi hz0 hz1 hz2 rfl (by omega) zVw rfl (some p) m c (fF l) rfl AX.out Be.out sJ.out h63 h47 ?_))
  | fail)
 intro g cap w2 hrow hm2;go_wp2_with fail;go_ret;exact ⟨g,cap,rfl,hrow,hm2⟩
def sE(cs:List Value)(o:Nat):List Value->List Value
 | []=>cs
 | v :: r=>sE (cs.set o v) (o+1) r
theorem La:∀ (vs cs:List Value) (o:Nat),o+vs.length<=cs.length->sE cs o vs=cs.take o++vs++cs.drop (o+vs.length)
 | [],cs,o,h=>by simp [sE]
 | v :: r,cs,o,h=>by
  simp only [aW] at h;have hl:o<cs.length:=by omega
  rw [sE,La r (cs.set o v) (o+1) (by rw [aa];omega)];have e1:(cs.set o v).take (o+1)=cs.take o++[v]:=by
   rw [bd (by rw [aa];exact hl),List.take_set_of_le (aF _),List.getElem_set_self]
  have e2:(cs.set o v).drop (o+1+r.length)=cs.drop (o+(v :: r).length):=by
   rw [List.drop_set_of_lt (by omega),aW,show o+1+r.length=o+(r.length+1) by omega]
  rw [e1,e2];simp
theorem dh.gF{g:Nat}{t:TypeId}:∀ (vs:List Value) (o:Nat) {w:World} {cs:List Value},dh w g cs t->dh (w.setCells g o vs) g (sE cs o vs) t
 | [],o,w,cs,h=>h
 | v :: r,o,w,cs,h=>by
  rw [World.setCells,sE];exact dh.gF r (o+1) (h.set o v)
theorem Mod.gF{g:Nat}:∀ (vs:List Value) (o:Nat) (w:World),Mod (eF g) w (w.setCells g o vs)
 | [],o,w=>Mod.refl _ _
 | v :: r,o,w=>by
  rw [World.setCells];exact (Mod.dq g o v).trans (Mod.gF r (o+1) _)
theorem Qy(w:World)(dT sT ty elem:TypeId)(b o dLen dCap:Nat)(a:Addr)(sLen sCap sz:Nat)(cs:List Value)
  (hu:Tryz.prog.underlying dT=some (.slice elem)) (hs:(Tryz.prog.info? elem).map (·.size)=some sz) (hn:cs.length=Nat.min sLen dLen*sz)
  (hsrc:∀ j v,cs[j]?=some v->w.cell? (a.add j)=some v) (hc:∀ j,j<cs.length->(w.cell? ⟨b,o+j,none⟩).isSome=true) (hf:∀ j,j<cs.length->w.frozen? ⟨b,o+j,none⟩=false) (h1:∀ v∈cs,v.oneCell'=true) :
  (Builtin.copy_ #[dT,sT] ty #[.slice (some ⟨b,o,none⟩) dLen dCap,.slice (some a) sLen sCap]).run Tryz.prog w=.ok (goInt (Nat.min sLen dLen)) (w.setCells b o cs):=by
 have hl:=run_loadCells_list (P:=Tryz.prog) w a cs hsrc;have hst:=run_storeCells_cells (P:=Tryz.prog) b o cs 0 w (by simpa using hc) (by simpa using hf) h1
 cases hq:Tryz.prog.info? elem with
 | none=>simp [hq] at hs
 | some i=>
  have hi:i.size=sz:=by simpa [hq] using hs
  simp [Builtin.copy_,run_underlying hu,Builtin.lenOf,Builtin.firstCells,sizeOf,typeInfo,hq,hi,<-hn,hl,hst]
theorem zPf{ops:Array Oper}{o:Oper}{a:Act}{w:World}{K:Act->World->Prop}{Q:Exit->Act->World->Prop}{E:Prop}
  (hg:o.guard=none) (d x:Operand) (dT sT:TypeId) (hop:o.op=Op.call { callee:=Callee.builtin Builtin.copy,args:=#[d,x],argTypes:=#[dT,sT] })
  (v u:Value) (hd:a.eval d=v) (hx:a.eval x=u) {v':Value} {w':World} (hr:(Builtin.copy_ #[dT,sT] o.type #[v,u]).run Tryz.prog w=.ok v' w') (hK:K (a.put o.dst v') w') :
  if Region.wanted o (yielded ops a.tmps)=true then Oper.wp Tryz.prog o a w K Q else E:=by
 have hw:Region.wanted o (yielded ops a.tmps)=true:=by simp [Region.wanted,hg]
 rw [aJ hw];unfold Oper.wp;simp [execOp,hop,resolve,invoke,builtin,hd,hx,hr,Result.andThen];exact hK
def JQ(w:World)(B:Nat)(v:Value)(l:List dg)(i:Nat)(d:dg)(e:Ending)(w':World):Prop:=
 ∃ u,e=.returned u/\w'.ownsRow B 170 2 u (l.length+1) (fF (l.take i++d :: l.drop i))/\Mod (fun b=>v.ownBlock=some b) w w'/\(u.ownBlock=v.ownBlock\/∀ b,u.ownBlock=some b->w.heap.size<=b)
theorem UD(l:List dg)(i:Nat)(d:dg):fF (l.take i++d :: l.drop i)=(fF l).take (i*2)++fZ d++(fF l).drop (i*2):=by
 rw [Lr,fF,zOh,zOi];simp
theorem yEw(B:Nat)(v:Value)(l:List dg)(d:dg)(vb:Nat)(w:World)(hrow:w.ownsRow B 170 2 v l.length (fF l))(hvb:dh w vb (fZ d) 170)(hl:l.length<=1000)(hB:B<=w.heap.size) :
  Calls Tryz.prog 149 #[v,.int .i64 l.length,.slice (some ⟨vb,0,none⟩) 1 1] w (JQ w B v l l.length d):=by
 obtain ⟨i0,hi,hz0,hz1,hz2⟩:=info_parts Tryz.nK;have hcap:∃ a cap,v=.slice a l.length cap/\l.length<=cap/\cap<=maxLen:=by
  rcases hrow.2 with ⟨rfl,h0⟩ | ⟨g,cap,cur,rfl,_,_,h1,h2,_⟩
  ·exact ⟨none,0,by rw [h0],by omega,aV _⟩
  ·exact ⟨_,cap,rfl,h1,h2⟩
 obtain ⟨a,cap,rfl,hc1,hc2⟩:=hcap;have HR:=dU hrow;have HN:Hid (∀ (j:Nat) u,(fZ d)[j]?=some u->w.cell? ((⟨vb,0,none⟩:Addr).add j)=some u):=fun j u hu=>by
  rw [Go.WideShapes.add_plain,ah];exact hvb.cell j hu
 have HO:Hid (∀ u∈fZ d,u.oneCell'=true):=fun u hu=>FT [d] u (by rw [Lt];exact hu);have iF:l.length+1<=maxLen:=by unfold maxLen;omega
 have iG:(l.length+1)*16<=140737488355328:=by omega
 unfold maxLen at hc2;clear hrow hvb;go_enter Tryz.func149,Tryz.ntmps149;go_wp2_with (first
  | (at_builtin;refine wpList_append_own_at _ rfl _ _ 166 rfl B 170 i0 _ 2 16 Tryz.underlying166 hi hz0 hz1 hz2 rfl (by omega) _ _ _ rfl HR.out ⟨vb,0,none⟩ 1 1 (fZ d) rfl rfl HN.out HO.out iF iG hB ?_)
  | fail)
 all_goals
  intro v9 w9 mP lN _ sk;have HM9:Hid (Mod (fun b=>(Value.slice a l.length cap).ownBlock=some b) w w9):=(Mod.refl _ w).grown lN (fun x hx _=>by cases a <;> first | exact hx | cases hx);have HW:=dU mP;have HL:=dU sk;clear mP lN sk;go_wp2_with fail;go_ret;refine ⟨v9,rfl,?_,HM9.out,HL.out.imp (fun e=>e.trans (by cases a <;> rfl)) (fun e b hb=>by rw [e] at hb;simp at hb;omega)⟩;rw [UD,ba (by rw [vj];exact aF _),cq (by rw [vj];exact aF _),dC];exact HW.out
theorem zRj(b:Nat)(vs:List Value)(o:Nat)(w:World)(h:∀ j,j<vs.length->(w.cell? ⟨b,o+j,none⟩).isSome=true)(k:Nat)(hk:(w.cell? ⟨b,k,none⟩).isSome=true):((w.setCells b o vs).cell? ⟨b,k,none⟩).isSome=true:=by
 by_cases hin:o<=k/\k<o+vs.length
 ·have:=World.cell?_setCells_in b vs o w h (k - o) (by omega);rw [show o+(k - o)=k by omega] at this;rw [this];rfl
 ·rw [World.cell?_setCells_out b vs o w ⟨b,k,none⟩ (fun _ _=>by show k<o\/o+vs.length<=k;omega)];exact hk
theorem yPo:∀ w,(Go.sizeOf 170).run Tryz.prog w=.ok 2 w:=fun w=>by kernel_rfl
theorem zZm(B g cap:Nat)(l:List dg)(i:Nat)(d:dg)(vb:Nat)(w:World)(hrow:w.ownsRow B 170 2 (.slice (some ⟨g,0,none⟩) l.length cap) l.length (fF l))(hi:i<l.length)(hroom:l.length+1<=cap)(hvb:dh w vb (fZ d) 170)(hne:vb≠g)(hl:l.length<=1000)(hB:B<=w.heap.size) :
  Calls Tryz.prog 149 #[.slice (some ⟨g,0,none⟩) l.length cap,.int .i64 i,.slice (some ⟨vb,0,none⟩) 1 1] w (JQ w B (.slice (some ⟨g,0,none⟩) l.length cap) l i d):=by
 obtain ⟨cur,hBg,fX,hcm,hcs,hct⟩:∃ cur:Array Value,B<=g/\dh w g cur.toList 170/\cap<=maxLen/\cur.size=cap*2/\cur.toList.take (l.length*2)=fF l:=by
  rcases hrow.2 with ⟨e,_⟩ | ⟨g',cap',cur,e,q1,q2,q3,q4,q5,q6⟩
  ·cases e
  ·cases e
   exact ⟨cur,q1,by simpa [dh] using q2,q4,q5,q6⟩
 have hsz:(Tryz.prog.info? 170).map (·.size)=some 2:=by
  obtain ⟨i0,hi0,h0,h1,h2⟩:=info_parts Tryz.nK;rw [hi0];simp [h1]
 have hlen:=vj l;have hcell:∀ j v,cur.toList[j]?=some v->w.cell? ⟨g,j,none⟩=some v:=fun j v h=>fX.cell j h;have hsp:∀ j,j<cap*2->(w.cell? ⟨g,j,none⟩).isSome=true:=fun j hj=>by
  rw [hcell j _ (aA (by simp;omega))];rfl
 have hfz:∀ j,w.frozen? ⟨g,j,none⟩=false:=fun j=>fX.frozen j;have hov:∀ lb cb,(callFunc 172 #[.slice (some ⟨vb,0,none⟩) 1 1,.slice (some ⟨g,(i+1)*2,none⟩) lb cb]).run Tryz.prog w=.ok (.value (.bool false)) w:=fun lb cb=>by
  rw [run_callFunc_extern Tryz.func172 (by kernel_rfl) (by kernel_rfl) (by kernel_rfl) (e:=Extern.SlicesOverlaps.overlaps #[166,166] #[4]) (by kernel_rfl),
   Lib.run_overlaps_apart w 166 4 170 Tryz.underlying166 2 yPo ⟨vb,0,none⟩ ⟨g,(i+1)*2,none⟩ 1 1 lb cb hne 170 170 2 (cap*2) (by have:=hvb;unfold dh at this;simp [World.shape?,this,fZ]) (by have:=fX;unfold dh at this;simp [World.shape?,this,hcs]) (by omega) (hvb.frozen 0) (hvb.frozen 2)]
  rfl
 have hsrc:∀ j v,((fF l).drop (i*2))[j]?=some v->w.cell? ⟨g,i*2+j,none⟩=some v:=fun j v hj=>by
  rw [cY,<-hct,cX] at hj;split at hj
  ·exact hcell _ v hj
  ·cases hj
 have pw:((fF l).drop (i*2)).length=(l.length - i)*2:=by rw [bJ,hlen];omega
 obtain ⟨W1,hW1⟩:∃ W1,W1=w.drew.setCells g ((i+1)*2) ((fF l).drop (i*2)):=⟨_,rfl⟩;have Xw:∀ ty dc sc,(Builtin.copy_ #[166,166] ty #[.slice (some ⟨g,(i+1)*2,none⟩) (l.length - i) dc,.slice (some ⟨g,i*2,none⟩) (l.length+1 - i) sc]).run Tryz.prog w.drew=.ok (goInt (Nat.min (l.length+1 - i) (l.length - i))) W1:=fun ty dc sc=>by
  rw [hW1];exact Qy w.drew _ _ ty 170 g ((i+1)*2) _ dc ⟨g,i*2,none⟩ _ sc 2 ((fF l).drop (i*2)) Tryz.underlying166 hsz (by rw [pw];simp only [Nat.min_def];split <;> omega)
   (fun j v hj=>by rw [Go.WideShapes.add_plain];exact hsrc j v hj)
   (fun j hj=>hsp _ (by omega)) (fun j hj=>hfz _) (fun v hv=>FT l v (cO hv))
 have hvs:∀ (j:Nat) u,(fZ d)[j]?=some u->w.cell? ⟨vb,j,none⟩=some u:=fun j u hu=>hvb.cell j hu;have Mw:∀ k,k<cap*2->(W1.cell? ⟨g,k,none⟩).isSome=true:=fun k hk=>by
  rw [hW1];exact zRj g ((fF l).drop (i*2)) ((i+1)*2) w.drew (fun j hj=>hsp _ (by rw [pw] at hj;omega)) k (hsp k hk)
 have Xv:∀ (W:World),(∀ x,W.cell? x=W1.cell? x)->(∀ x,W.frozen? x=W1.frozen? x)->∀ ty dc,(Builtin.copy_ #[166,166] ty #[.slice (some ⟨g,i*2,none⟩) (l.length+1 - i) dc,.slice (some ⟨vb,0,none⟩) 1 1]).run Tryz.prog W=.ok (goInt (Nat.min 1 (l.length+1 - i))) (W.setCells g (i*2) (fZ d)):=fun W hWc hWf ty dc=>
  Qy W _ _ ty 170 g (i*2) _ dc ⟨vb,0,none⟩ 1 1 2 (fZ d) Tryz.underlying166 hsz (by simp only [Nat.min_def,fZ];split <;> simp <;> omega)
   (fun j v hj=>by
    rw [Go.WideShapes.add_plain,hWc,hW1,World.cell?_setCells_out g _ _ _ _ (fun h _=>absurd h hne),ah];exact hvs j v hj)
   (fun j hj=>by rw [hWc];exact Mw _ (by simp [fZ] at hj;omega)) (fun j hj=>by rw [hWf,hW1,World.frozen?_setCells];exact hfz _) (fun u hu=>FT [d] u (by rw [Lt];exact hu))
 have xg:Hid (∀ W:World,dh W g (sE cur.toList ((i+1)*2) ((fF l).drop (i*2))) 170->Mod (eF g) w W->JQ w B (.slice (some ⟨g,0,none⟩) l.length cap) l i d (.returned (.slice (some ⟨g,0,none⟩) (l.length+1) cap)) (W.setCells g (i*2) (fZ d))):=fun W hW hM=>by
  have gm:=hW.gF (fZ d) (i*2);have mw:(i+1)*2+((fF l).drop (i*2)).length<=cur.toList.length:=by rw [pw];simp;omega
  have e1:=La ((fF l).drop (i*2)) cur.toList ((i+1)*2) mw;have hl2:(sE cur.toList ((i+1)*2) ((fF l).drop (i*2))).length=cap*2:=by
   rw [e1];simp;rw [pw,hcs] at *;omega
  have e2:=La (fZ d) _ (i*2) (by rw [hl2];simp [fZ];omega:i*2+(fZ d).length<=(sE cur.toList ((i+1)*2) ((fF l).drop (i*2))).length);refine ⟨_,rfl,⟨?_,.inr ⟨g,cap,(sE (sE cur.toList ((i+1)*2) ((fF l).drop (i*2))) (i*2) (fZ d)).toArray,rfl,hBg,?_,hroom,hcm,?_,?_⟩⟩,?_,.inl rfl⟩
  ·rw [vj];simp;omega
  ·simpa [dh] using gm
  ·rw [e2];simp [hl2,fZ];omega
  ·rw [UD,e2,e1];have t1:(cur.toList.take ((i+1)*2)++(fF l).drop (i*2)++cur.toList.drop ((i+1)*2+((fF l).drop (i*2)).length)).take (i*2)=(fF l).take (i*2):=by
    rw [aU,bV (by simp;omega),List.take_take,<-hct,List.take_take];congr 1;simp only [Nat.min_def];split <;> split <;> omega
   have t2:(cur.toList.take ((i+1)*2)++(fF l).drop (i*2)++cur.toList.drop ((i+1)*2+((fF l).drop (i*2)).length)).drop (i*2+(fZ d).length)=(fF l).drop (i*2)++cur.toList.drop ((i+1)*2+((fF l).drop (i*2)).length):=by
    rw [aU,dB (by simp [fZ];omega),cq (by simp [fZ];omega),ak]
   rw [t1,t2];have EW:((fF l).take (i*2)++fZ d++(fF l).drop (i*2)).length=(l.length+1)*2:=by simp [fZ,hlen];omega
   show (((fF l).take (i*2)++fZ d++((fF l).drop (i*2)++_))).take _=_;rw [<-aU,bV (by rw [EW];exact aF _),ba (by rw [EW];exact aF _)]
  ·exact (hM.trans (Mod.gF _ _ _)).mono (fun b _ e=>by simp only [eF] at e;rw [e];rfl)
 have Ko:Hid (dh W1 g (sE cur.toList ((i+1)*2) ((fF l).drop (i*2))) 170/\Mod (eF g) w W1):=by
  rw [hW1];exact ⟨dh.gF _ _ (fX.mod ((Mod.refl dZ w).drew) id),((Mod.refl _ w).drew).trans (Mod.gF _ _ _)⟩
 have hz2:¬ ((i:Int)=(l.length:Int)):=by omega
 have hc63:cap<=9223372036854775807:=by unfold maxLen at hcm;omega
 have hw1:IntKind.i64.wrap ((i:Int)+1)=(i:Int)+1:=by rw [IntKind.wrap_i64];omega
 have htn:((i:Int)+1).toNat=i+1:=by omega
 have hb1:(0:Int)<=(i:Int)+1:=by omega
 have hin:i<=l.length:=by omega
 have nP:(i:Int)+1<=(l.length:Int)+1:=by omega
 have mixed:Tryz.prog.follows Departure.mixedOrders=true:=by kernel_rfl
 have hb2:¬ (cap=i+1):=by omega
 have hb3:(i:Int)<=(l.length:Int)+1:=by omega
 have hb4:¬ (cap=i):=by omega
 clear hW1 Mw hvs pw hsrc hfz hsp hcell hlen hct hcs fX hrow hvb hsz;go_enter Tryz.func149,Tryz.ntmps149;go_wp2_with (simp only [hov])
 go_region_law_o (refine zPf rfl _ _ 166 166 rfl _ _ (by simp [Act.eval,Act.put]) (by simp [Act.eval,Act.put]) (Xw _ _ _) ?_)
 go_wp2_with (at_builtin;refine wpList_copy_atQ _ rfl _ _ 166 166 rfl _ _ rfl rfl (Xv _ (fun _=>rfl) (fun _=>rfl) _ _) ?_);go_ret;exact xg.out _ (Ko.out.1) (Ko.out.2)
theorem yBy(B g cap:Nat)(l:List dg)(i:Nat)(d:dg)(vb:Nat)(w:World)(hrow:w.ownsRow B 170 2 (.slice (some ⟨g,0,none⟩) l.length cap) l.length (fF l))(hi:i<l.length)(hnc:l.length<=cap)(hroom:cap<l.length+1)(hvb:dh w vb (fZ d) 170)(hl:l.length<=1000)(hB:B<=w.heap.size) :
  Calls Tryz.prog 149 #[.slice (some ⟨g,0,none⟩) l.length cap,.int .i64 i,.slice (some ⟨vb,0,none⟩) 1 1] w (JQ w B (.slice (some ⟨g,0,none⟩) l.length cap) l i d):=by
 obtain ⟨i0,hi0,hz0,hzs,hzb⟩:=info_parts Tryz.nK;have hsz:(Tryz.prog.info? 170).map (·.size)=some 2:=by rw [hi0];simp [hzs]
 have hlen:=vj l;have hcl:∀ (j:Nat) v,(fF l)[j]?=some v->w.cell? ⟨g,j,none⟩=some v:=fun j v hj=>by
  have:=hrow.cells (g:=g) rfl j v hj;rw [Go.WideShapes.add_plain,ah] at this;exact this
 have hgw:g<w.heap.size:=(mM hrow (k:=g) rfl).2.1;have hvw:=hvb.lt;have hkk:(l.length:Int)+1 - (i:Int)=((l.length+1 - i:Nat):Int):=by omega
 have hik:i+(l.length+1 - i)=l.length+1:=by omega
 have hold:(Builtin.firstCells i0.size i (.slice (some ⟨g,0,none⟩) i cap)).run Tryz.prog w.drew=.ok ((fF l).take (i*2)).toArray w.drew:=by
  rw [hzs];exact run_firstCells_some w.drew 2 i ⟨g,0,none⟩ i cap ((fF l).take (i*2)) (by rw [aZ,hlen];omega) (fun j v hj=>by
   rw [Go.WideShapes.add_plain,ah];rw [cX] at hj;split at hj
   ·exact hcl j v hj
   ·cases hj)
 have hrz:∀ ty,(Builtin.append_ #[166,3] ty #[.slice (some ⟨g,0,none⟩) i cap,.int .i64 ((l.length:Int)+1 - (i:Int))]).run Tryz.prog w =
   .ok (.slice (some ⟨w.heap.size,0,none⟩) (l.length+1) (grownCap w (l.length+1) cap 170)) (w.drew.alloc (.cells (((fF l).take (i*2)).toArray++Builtin.zeroCells (Value.agg #[.int .i64 0,.int .i64 0]).cells (l.length+1 - i)++Builtin.zeroCells (Value.agg #[.int .i64 0,.int .i64 0]).cells (grownCap w (l.length+1) cap 170 - (l.length+1))) 170)):=fun ty=>by
  have h:=Lib.run_append_grow_zeros w 166 3 ty 170 i0 _ .i64 .i64 Tryz.underlying166 Tryz.underlying3 hi0 hz0 (some ⟨g,0,none⟩) i cap ((fF l).take (i*2)) hold (l.length+1 - i) (by omega) (by omega) (by omega) (by omega) (by rw [hzb];omega) (by rw [hzb,hik];exact growslice_fits hroom (by omega));rw [hik] at h;rw [hkk];exact h
 obtain ⟨G,hG⟩:∃ G,G=grownCap w (l.length+1) cap 170:=⟨_,rfl⟩;obtain ⟨Z,hZ⟩:∃ Z:List Value,Z=(Builtin.zeroCells (Value.agg #[.int .i64 0,.int .i64 0]).cells (l.length+1 - i)).toList++(Builtin.zeroCells (Value.agg #[.int .i64 0,.int .i64 0]).cells (G - (l.length+1))).toList:=⟨_,rfl⟩;have hGn:l.length+1<=G:=by rw [hG];exact grownCap_ge w _ _ _
 have hZl:Z.length=(G - i)*2:=by rw [hZ];simp [Builtin.zeroCells,Value.cells];omega
 obtain ⟨W1,hW1⟩:∃ W1,W1=w.drew.alloc (.cells (((fF l).take (i*2)).toArray++Builtin.zeroCells (Value.agg #[.int .i64 0,.int .i64 0]).cells (l.length+1 - i)++Builtin.zeroCells (Value.agg #[.int .i64 0,.int .i64 0]).cells (G - (l.length+1))) 170):=⟨_,rfl⟩;rw [<-hG,<-hW1] at hrz;have fi:dh W1 w.heap.size ((fF l).take (i*2)++Z) 170:=by
  rw [hW1,hZ];have:=heap_alloc_new w.drew (.cells (((fF l).take (i*2)).toArray++Builtin.zeroCells (Value.agg #[.int .i64 0,.int .i64 0]).cells (l.length+1 - i)++Builtin.zeroCells (Value.agg #[.int .i64 0,.int .i64 0]).cells (G - (l.length+1))) 170);have e:∀ (a:List Value) (b c:Array Value),(a++(b.toList++c.toList)).toArray=a.toArray++b++c:=fun a b c=>by apply Array.ext';simp
  unfold dh;rw [e];exact this
 have py:Mod dZ w W1:=by rw [hW1];exact ((Mod.refl dZ w).drew).alloc _
 have Hb:((fF l).take (i*2)++Z).length=G*2:=by rw [aD,hZl,aZ,hlen];omega
 have hN:∀ j,j<G*2->(W1.cell? ⟨w.heap.size,j,none⟩).isSome=true:=fun j hj=>by
  rw [fi.cell j (aA (by omega))];rfl
 obtain ⟨W2,hW2⟩:∃ W2,W2=W1.setCells w.heap.size (i*2) (fZ d):=⟨_,rfl⟩;have Xu:∀ ty dc,(Builtin.copy_ #[166,166] ty #[.slice (some ⟨w.heap.size,i*2,none⟩) (l.length+1 - i) dc,.slice (some ⟨vb,0,none⟩) 1 1]).run Tryz.prog W1=.ok (goInt (Nat.min 1 (l.length+1 - i))) W2:=fun ty dc=>by
  rw [hW2];exact Qy W1 _ _ ty 170 w.heap.size (i*2) _ dc ⟨vb,0,none⟩ 1 1 2 (fZ d) Tryz.underlying166 hsz (by simp only [Nat.min_def,fZ];split <;> simp <;> omega)
   (fun j v hj=>by rw [Go.WideShapes.add_plain,ah];exact py.cell (hvb.cell j hj) id)
   (fun j hj=>hN _ (by simp [fZ] at hj;omega)) (fun j hj=>fi.frozen _) (fun u hu=>FT [d] u (by rw [Lt];exact hu))
 have gm:dh W2 w.heap.size (sE ((fF l).take (i*2)++Z) (i*2) (fZ d)) 170:=by rw [hW2];exact fi.gF _ _
 have lQ:Mod dZ w W2:=by rw [hW2];exact py.trans' (Mod.gF _ _ _) (fun b hb e=>by simp only [eF] at e;omega)
 have e1:=La (fZ d) ((fF l).take (i*2)++Z) (i*2) (by rw [Hb];simp [fZ];omega);have zv:(sE ((fF l).take (i*2)++Z) (i*2) (fZ d)).length=G*2:=by
  rw [e1];simp only [aD,aZ,bJ] at *;simp only [fZ,aW,an];omega
 have pw:((fF l).drop (i*2)).length=(l.length - i)*2:=by rw [bJ,hlen];omega
 have Xt:∀ ty dc sc,(Builtin.copy_ #[166,166] ty #[.slice (some ⟨w.heap.size,(i+1)*2,none⟩) (l.length - i) dc,.slice (some ⟨g,i*2,none⟩) (l.length - i) sc]).run Tryz.prog W2.drew=.ok (goInt (Nat.min (l.length - i) (l.length - i))) (W2.drew.setCells w.heap.size ((i+1)*2) ((fF l).drop (i*2))):=fun ty dc sc=>
  Qy W2.drew _ _ ty 170 w.heap.size ((i+1)*2) _ dc ⟨g,i*2,none⟩ _ sc 2 ((fF l).drop (i*2)) Tryz.underlying166 hsz (by rw [pw];simp only [Nat.min_def];split <;> omega)
   (fun j v hj=>by
    rw [Go.WideShapes.add_plain];rw [cY] at hj;exact lQ.cell (hcl _ v hj) id)
   (fun j hj=>by
    have:=gm.cell ((i+1)*2+j) (aA (by omega));show (W2.cell? _).isSome=true;rw [this];rfl)
   (fun j hj=>gm.frozen _) (fun v hv=>FT l v (cO hv))
 have xg:Hid (JQ w B (.slice (some ⟨g,0,none⟩) l.length cap) l i d (.returned (.slice (some ⟨w.heap.size,0,none⟩) (l.length+1) G)) (W2.drew.setCells w.heap.size ((i+1)*2) ((fF l).drop (i*2)))):=by
  have qB:dh (W2.drew.setCells w.heap.size ((i+1)*2) ((fF l).drop (i*2))) w.heap.size _ 170:=dh.gF ((fF l).drop (i*2)) ((i+1)*2) (gm.mod ((Mod.refl dZ W2).drew) id);have e2:=La ((fF l).drop (i*2)) (sE ((fF l).take (i*2)++Z) (i*2) (fZ d)) ((i+1)*2) (by rw [zv,pw];omega);have hGm:G<=maxLen:=by rw [hG];exact grownCap_le_maxLen w (l.length+1) cap 170 (by unfold maxLen;omega)
  refine ⟨_,rfl,⟨by rw [vj];simp;omega,.inr ⟨w.heap.size,G,(sE (sE ((fF l).take (i*2)++Z) (i*2) (fZ d)) ((i+1)*2) ((fF l).drop (i*2))).toArray,rfl,hB,qB,hGn,hGm,?_,?_⟩⟩,(lQ.drew.trans' (Mod.gF _ _ _) (fun b hb e=>by simp only [eF] at e;omega)).mono (fun _ _ e=>e.elim),.inr (fun b hb=>by simp [Value.ownBlock] at hb;omega)⟩
  ·rw [e2];simp only [au,aD,aZ,bJ,zv,hlen];omega
  ·rw [UD];show List.take _ (sE _ _ _)=_;rw [e2,e1];have hlt:((fF l).take (i*2)).length=i*2:=by rw [aZ,hlen];omega
   have hx:(((fF l).take (i*2)++Z).take (i*2)++fZ d++((fF l).take (i*2)++Z).drop (i*2+(fZ d).length)).take ((i+1)*2)=(fF l).take (i*2)++fZ d:=by
    rw [bV (by simp [fZ,hlt];omega),ba (by simp [fZ,hlt];omega),bV (by omega),ba (by omega)]
   rw [hx,bV (by simp only [aD,hlt,pw,fZ,aW,an];omega),ba (by simp only [aD,hlt,pw,fZ,aW,an];omega)]
 have hz2:¬ ((i:Int)=(l.length:Int)):=by omega
 have hz3:(cap:Int)<(l.length:Int)+1:=by omega
 have hG63:G<=9223372036854775807:=by
  have:=grownCap_le_maxLen w (l.length+1) cap 170 (by unfold maxLen;omega);rw [<-hG] at this;unfold maxLen at this;omega
 have hw1:IntKind.i64.wrap ((i:Int)+1)=(i:Int)+1:=by rw [IntKind.wrap_i64];omega
 have htn:((i:Int)+1).toNat=i+1:=by omega
 have hb1:(0:Int)<=(i:Int)+1:=by omega
 have hin:i<=l.length:=by omega
 have nP:(i:Int)+1<=(l.length:Int)+1:=by omega
 have mixed:Tryz.prog.follows Departure.mixedOrders=true:=by kernel_rfl
 have hGi:¬ (G=i):=by omega
 have hGim:¬ (G=i+1):=by omega
 have Xy:¬ (cap=i):=by omega
 clear hkk hik hold hG hW1 hW2 fi py Hb hN gm lQ e1 zv pw hZ hZl hcl hrow hvb hsz hlen;go_enter Tryz.func149,Tryz.ntmps149;go_wp2_with (first
  | (at_builtin;refine Lib.wpList_append_run _ rfl _ _ _ _ rfl _ _ rfl rfl _ _ (hrz _) ?_)
  | (at_builtin;refine wpList_copy_atQ _ rfl _ _ 166 166 rfl _ _ rfl rfl (Xu _ _) ?_))
 go_region_law_o (refine zPf rfl _ _ 166 166 rfl (.slice (some ⟨w.heap.size,(i+1)*2,none⟩) (l.length - i) (G - (i+1))) (.slice (some ⟨g,i*2,none⟩) (l.length - i) (cap - i)) (by simp [Act.eval,Act.put]) (by simp [Act.eval,Act.put]) (Xt _ (G - (i+1)) (cap - i)) ?_)
 go_wp2_with fail;go_ret;exact xg.out
theorem yEx(B:Nat)(v:Value)(l:List dg)(i:Nat)(d:dg)(vb:Nat)(w:World)(hrow:w.ownsRow B 170 2 v l.length (fF l))(hi:i<=l.length)(hvb:dh w vb (fZ d) 170)(hne:v.ownBlock≠some vb)(hl:l.length<=1000)(hB:B<=w.heap.size) :
  Calls Tryz.prog 149 #[v,.int .i64 i,.slice (some ⟨vb,0,none⟩) 1 1] w (JQ w B v l i d):=by
 by_cases h1:i=l.length
 ·subst h1;exact yEw B v l d vb w hrow hvb hl hB
 ·have hcap:∃ g cap,v=.slice (some ⟨g,0,none⟩) l.length cap/\l.length<=cap:=by
   rcases hrow.2 with ⟨rfl,h0⟩ | ⟨g,cap,cur,rfl,_,_,h1,h2,_⟩
   ·omega
   ·exact ⟨g,cap,rfl,h1⟩
  obtain ⟨g,cap,rfl,hc⟩:=hcap;by_cases h2:l.length+1<=cap
  ·exact zZm B g cap l i d vb w hrow (by omega) h2 hvb (fun e=>hne (by rw [e];rfl)) hl hB
  ·exact yBy B g cap l i d vb w hrow (by omega) hc (by omega) hvb hl hB
end Go.Proofs.YtmaiggbnceejiaaGreatDoor
