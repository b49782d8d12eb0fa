import Derived.Test.YtogaigioeohjaaaGreatDoorD09
import Derived.Lib.SliceRun
import Derived.Lib.Overlaps
import Derived.Lib.AppendZeros
import Derived.Lib.AppendZerosOnto
import Derived.Laws.NewBlocks
import Derived.Shelf.RegionOpenPlain
set_option linter.unusedVariables false
set_option maxRecDepth 100000
set_option maxHeartbeats 16000000
namespace Go.Proofs.YtogaigioeohjaaaGreatDoor
open Go.RowKit Go.Lib Go.Maps
def zAh(d:ClmD):List Value:=[.int .i64 d.tx,.int .i64 d.mode]
def zAf:List ClmD->List Value
 | []=>[]
 | o :: os=>zAh o++zAf os
theorem zBm:∀ os,(zAf os).length=os.length*2
 | []=>rfl
 | o :: os=>by simp [zAf,zAh,zBm os];omega
theorem zGu:∀ a b,zAf (a++b)=zAf a++zAf b
 | [],b=>by simp [zAf]
 | p :: a,b=>by simp [zAf,zGu a b]
theorem zFs(d:ClmD):zAf [d]=zAh d:=by simp [zAf]
theorem zMy:∀ (os:List ClmD) (i:Nat),zAf (os.take i)=(zAf os).take (i*2)
 | [],i=>by simp [zAf]
 | o :: os,0=>by simp [zAf]
 | o :: os,i+1=>by
  rw [List.take_succ_cons,zAf,zAf,zMy os i,show (i+1)*2=(zAh o).length+i*2 by simp [zAh];omega,List.take_length_add_append]
theorem zMz:∀ (os:List ClmD) (i:Nat),zAf (os.drop i)=(zAf os).drop (i*2)
 | [],i=>by simp [zAf]
 | o :: os,0=>by simp [zAf]
 | o :: os,i+1=>by
  rw [List.drop_succ_cons,zAf,zMz os i,show (i+1)*2=(zAh o).length+i*2 by simp [zAh];omega,List.drop_length_add_append]
theorem zNa:∀ (os:List ClmD) (i:Nat) (o:ClmD),os[i]?=some o->∀ j x,(zAh o)[j]?=some x->(zAf os)[i*2+j]?=some x
 | [],i,o,h,_,_,_=>by simp at h
 | p :: os,0,o,h,j,x,hx=>by
  simp at h
  subst h
  have hj:j<(zAh p).length:=(List.getElem?_eq_some_iff.1 hx).1
  rw [zAf,Nat.zero_mul,Nat.zero_add,List.getElem?_append_left hj]
  exact hx
 | p :: os,i+1,o,h,j,x,hx=>by
  have ih:=zNa os i o (by simpa using h) j x hx
  have hl:(zAh p).length=2:=rfl
  rw [zAf,List.getElem?_append_right (by omega),hl,show (i+1)*2+j - 2=i*2+j by omega]
  exact ih
def RowK(w:World)(B:Nat)(v:Value)(os:List ClmD):Prop:=w.ownsRow B 214 2 v os.length (zAf os)
theorem RowK.toV{w:World}{B L:Nat}{v:Value}{os:List ClmD}(h:RowK w B v os)(hL:w.heap.size<=L):zOx w L v os:=by
 obtain ⟨h1,h2⟩:=h
 rcases h2 with ⟨rfl,hn⟩ | ⟨g,cap,cur,rfl,q1,q2,q3,q4,q5,q6⟩
 ·have:os=[]:=List.eq_nil_of_length_eq_zero hn
  subst this
  exact SlR.nil _ _ _ _
 ·have hc:w.ownsRow B 214 2 (.slice (some ⟨g,0,none⟩) os.length cap) os.length (zAf os):=⟨h1,.inr ⟨g,cap,cur,rfl,q1,q2,q3,q4,q5,q6⟩⟩
  have hcl:=hc.cells (g:=g) rfl
  have hgl:g<w.heap.size:=(Array.getElem?_eq_some_iff.1 q2).1
  refine ⟨_,cap,rfl,q3,q4,.inr ⟨g,0,rfl,by omega,fun i o hi=>⟨zAh o,rfl,rfl,fun j x hx=>?_⟩⟩⟩
  have:=hcl _ _ (zNa os i o hi j x hx)
  rw [Go.WideShapes.add_plain,Nat.zero_add] at this
  rw [Nat.zero_add]
  exact this
theorem RowK.mod{G:Nat->Prop}{w w':World}{B:Nat}{v:Value}{os:List ClmD}(h:RowK w B v os)(hm:Mod G w w')(hG:∀ k,v.ownBlock=some k->¬ G k):RowK w' B v os:=zAn h hm (fun k _ _ e=>hG k e)
theorem zEb:∀ (os:List ClmD),∀ u∈zAf os,u.oneCell'=true
 | [],u,h=>by simp [zAf] at h
 | o :: os,u,h=>by
  rcases List.mem_append.1 h with h | h
  ·simp [zAh] at h
   rcases h with rfl | rfl <;> rfl
  ·exact zEb os u h
theorem zAq{w:World}{B:Nat}{v:Value}{e:TypeId}{sz n:Nat}{xs:List Value}(ho:w.ownsRow B e sz v n xs){k:Nat}(hk:v.ownBlock=some k):B<=k/\k<w.heap.size/\∃ cur,w.heap[k]?=some (.cells cur e (0,0)):=by
 rcases ho.2 with ⟨rfl,_⟩ | ⟨g,cap,cur,rfl,q1,q2,_⟩
 ·simp [Value.ownBlock] at hk
 ·simp [Value.ownBlock] at hk
  subst hk
  exact ⟨q1,(Array.getElem?_eq_some_iff.1 q2).1,cur,q2⟩
theorem Tryz.info214:(Tryz.prog.info? 214).map (fun i=>(i.zero,i.size,i.bytes))=some (some (.agg #[.int .i64 0,.int .i64 0]),2,16):=by kernel_rfl
theorem zUz(w:World)(e:TypeId)(sz:Nat):(w.alloc (.cells #[] e)).ownsRow w.heap.size e sz (.slice (some ⟨w.heap.size,0,none⟩) 0 0) 0 []:=
 ⟨by simp,.inr ⟨w.heap.size,0,#[],rfl,Nat.le_refl _,heap_alloc_new w _,Nat.le_refl _,by unfold maxLen;omega,by simp,by simp⟩⟩
theorem zKt{w0:World}{ops:Array Oper}{rest:List Oper}{o:Oper}{a:Act}{Q:Exit->Act->World->Prop}(hgd:o.guard=none)(s x:Operand)(t:TypeId)
  (ho:o.op=.call { callee:=.builtin .append,args:=#[s,x],argTypes:=#[t,t] })
  (e:TypeId) (i:TypeInfo) (z:Value) (size bytes:Nat) (ht:Tryz.prog.underlying t=some (.slice e)) (hi:Tryz.prog.info? e=some i) (hz:i.zero=some z)
  (hsize:i.size=size) (hby:i.bytes=bytes) (hzs:z.cells.size=size) (hsz:0<size)
  (hnil:∀ (g:Nat) (a:Option Addr) (c:Nat) (ty:TypeId) (w:World),(Builtin.append_ #[t,t] ty #[.slice (some ⟨g,0,none⟩) 0 0,.slice a 0 c]).run Tryz.prog w=.ok (.slice (some ⟨g,0,none⟩) 0 0) w)
  (hs:a.eval s=.slice (some ⟨w0.heap.size,0,none⟩) 0 0)
  (ad:Option Addr) (m c:Nat) (news:List Value) (hx:a.eval x=.slice ad m c) (hl:news.length=m*size) (hnews:m=0\/∃ p,ad=some p/\∀ j u,news[j]?=some u->w0.cell? (p.add j)=some u) (h1:∀ u∈news,u.oneCell'=true)
  (h63:m<=maxLen) (hbytes:m*bytes<=140737488355328)
  (h:∀ (g cap:Nat) w',w'.ownsRow w0.heap.size e size (.slice (some ⟨g,0,none⟩) m cap) m news->Mod zAb w0 w'->wpList Tryz.prog ops Q rest (a.put o.dst (.slice (some ⟨g,0,none⟩) m cap)) w') :
  wpList Tryz.prog ops Q (o :: rest) a (w0.alloc (.cells #[] e)):=by
 have hm0:Mod zAb w0 (w0.alloc (.cells #[] e)):=(Mod.refl _ w0).alloc _
 by_cases hm:m=0
 ·subst hm
  have hn:news=[]:=List.eq_nil_of_length_eq_zero (by simpa using hl)
  subst hn
  refine wpList_plain hgd fun K hK=>?_
  have hr:=hnil w0.heap.size ad c o.type (w0.alloc (.cells #[] e))
  unfold Oper.wp execOp
  simp only [ho,resolve,invoke,builtin,Sem.run_bind,Sem.run_pure,Result.andThen_ok,List.map_toArray,List.map_cons,List.map_nil,hs,hx,hr]
  exact hK _ _ (h _ _ _ (zUz w0 e size) hm0)
 ·obtain ⟨p,rfl,hc⟩:=hnews.resolve_left hm
  refine wpList_append_own _ hgd s x t ho w0.heap.size e i z size bytes ht hi hz hsize hby hzs hsz _ 0 [] hs (zUz w0 e size) p m c news hx hl (fun j u hu=>hm0.cell (hc j u hu) id) h1 (by omega) (by rw [Nat.zero_add];exact hbytes) (by simp) ?_
  intro v' w' hown hgrow hne
  have hm1:Mod zAb w0 w':=hm0.grown hgrow (fun x hx hlt=>by simp [Value.ownBlock] at hx;omega)
  simp only [Nat.zero_add,List.nil_append] at hown
  rcases hown.2 with ⟨e0,e1⟩ | ⟨g,cap,cur,rfl,_⟩
  ·exact absurd e1 hm
  ·exact h g cap w' hown hm1
theorem zUf(g:Nat)(a:Option Addr)(c:Nat)(ty:TypeId)(w:World):(Builtin.append_ #[210,210] ty #[.slice (some ⟨g,0,none⟩) 0 0,.slice a 0 c]).run Tryz.prog w=.ok (.slice (some ⟨g,0,none⟩) 0 0) w:=by
 cases a <;> kernel_rfl
theorem yJe(p:Addr)(m c:Nat)(l:List ClmD)(w:World)(hm:m=l.length)(hc:∀ (j:Nat) u,(zAf l)[j]?=some u->w.cell? (p.add j)=some u)(hl:l.length<=1000) :
  Calls Tryz.prog 234 #[.slice (some p) m c] w fun e w'=>∃ g cap,e=.returned (.slice (some ⟨g,0,none⟩) m cap)/\w'.ownsRow w.heap.size 214 2 (.slice (some ⟨g,0,none⟩) m cap) m (zAf l)/\Mod zAb w w':=by
 obtain ⟨i0,hi,hz0,hz1,hz2⟩:=info_parts Tryz.info214
 have h63:m<=maxLen:=by unfold maxLen;omega
 have h47:m*16<=140737488355328:=by omega
 have HLC:Hid ((zAf l).length=m*2):=by rw [hm];exact zBm l
 have HFL:Hid (m=0\/∃ q,some p=some q/\∀ (j:Nat) u,(zAf l)[j]?=some u->w.cell? (q.add j)=some u):=.inr ⟨p,rfl,hc⟩
 have HON:=Hmq (zEb l)
 have hen:=run_eql_slice_nil (P:=Tryz.prog) w 210 214 (some p) m c 0 0 Tryz.underlying210
 clear hc hm
 go_enter Tryz.func234,Tryz.ntmps234
 go_wp2_with (first
  | (at_builtin;(refine zKt (w0:=w) rfl _ _ 210 rfl 214 i0 _ 2 16 Tryz.underlying210 hi hz0 hz1 hz2 rfl (by omega) zUf rfl (some p) m c (zAf l) rfl HLC.out HFL.out HON.out h63 h47 ?_))
  | fail)
 intro g cap w2 hrow hm2
 go_wp2_with fail
 go_ret
 exact ⟨g,cap,rfl,hrow,hm2⟩
end Go.Proofs.YtogaigioeohjaaaGreatDoor
namespace Go.Proofs.YtogaigioeohjaaaGreatDoor
open Go.RowKit Go.Lib Go.Maps Go.Shelf
def zKr(cs:List Value)(o:Nat):List Value->List Value
 | []=>cs
 | v :: r=>zKr (cs.set o v) (o+1) r
theorem zNu:∀ (vs cs:List Value) (o:Nat),o+vs.length<=cs.length->zKr cs o vs=cs.take o++vs++cs.drop (o+vs.length)
 | [],cs,o,h=>by simp [zKr]
 | v :: r,cs,o,h=>by
  simp only [List.length_cons] at h
  have hl:o<cs.length:=by omega
  rw [zKr,zNu r (cs.set o v) (o+1) (by rw [List.length_set];omega)]
  have e1:(cs.set o v).take (o+1)=cs.take o++[v]:=by
   rw [List.take_succ_eq_append_getElem (by rw [List.length_set];exact hl),List.take_set_of_le (Nat.le_refl _),List.getElem_set_self]
  have e2:(cs.set o v).drop (o+1+r.length)=cs.drop (o+(v :: r).length):=by
   rw [List.drop_set_of_lt (by omega),List.length_cons,show o+1+r.length=o+(r.length+1) by omega]
  rw [e1,e2]
  simp
theorem Blk.setCellsQ{g:Nat}{t:TypeId}:∀ (vs:List Value) (o:Nat) {w:World} {cs:List Value},Blk w g cs t->Blk (w.setCells g o vs) g (zKr cs o vs) t
 | [],o,w,cs,h=>h
 | v :: r,o,w,cs,h=>by
  rw [World.setCells,zKr]
  exact Blk.setCellsQ r (o+1) (h.set o v)
theorem Mod.setCellsQ{g:Nat}:∀ (vs:List Value) (o:Nat) (w:World),Mod (zAd g) w (w.setCells g o vs)
 | [],o,w=>Mod.refl _ _
 | v :: r,o,w=>by
  rw [World.setCells]
  exact (Mod.setBlk g o v).trans (Mod.setCellsQ r (o+1) _)
theorem zHh(w:World)(dT sT ty elem:TypeId)(b o dLen dCap:Nat)(a:Addr)(sLen sCap sz:Nat)(cs:List Value)
  (hu:Tryz.prog.underlying dT=some (.slice elem)) (hs:(Tryz.prog.info? elem).map (·.size)=some sz) (hn:cs.length=Nat.min sLen dLen*sz)
  (hsrc:∀ j v,cs[j]?=some v->w.cell? (a.add j)=some v) (hc:∀ j,j<cs.length->(w.cell? ⟨b,o+j,none⟩).isSome=true) (hf:∀ j,j<cs.length->w.frozen? ⟨b,o+j,none⟩=false) (h1:∀ v∈cs,v.oneCell'=true) :
  (Builtin.copy_ #[dT,sT] ty #[.slice (some ⟨b,o,none⟩) dLen dCap,.slice (some a) sLen sCap]).run Tryz.prog w=.ok (goInt (Nat.min sLen dLen)) (w.setCells b o cs):=by
 have hl:=run_loadCells_list (P:=Tryz.prog) w a cs hsrc
 have hst:=run_storeCells_cells (P:=Tryz.prog) b o cs 0 w (by simpa using hc) (by simpa using hf) h1
 cases hq:Tryz.prog.info? elem with
 | none=>simp [hq] at hs
 | some i=>
  have hi:i.size=sz:=by simpa [hq] using hs
  simp [Builtin.copy_,run_underlying hu,Builtin.lenOf,Builtin.firstCells,sizeOf,typeInfo,hq,hi,<-hn,hl,hst]
theorem zNr{ops:Array Oper}{o:Oper}{a:Act}{w:World}{K:Act->World->Prop}{Q:Exit->Act->World->Prop}{E:Prop}
  (hg:o.guard=none) (d x:Operand) (dT sT:TypeId) (hop:o.op=Op.call { callee:=Callee.builtin Builtin.copy,args:=#[d,x],argTypes:=#[dT,sT] })
  (v u:Value) (hd:a.eval d=v) (hx:a.eval x=u) {v':Value} {w':World} (hr:(Builtin.copy_ #[dT,sT] o.type #[v,u]).run Tryz.prog w=.ok v' w') (hK:K (a.put o.dst v') w') :
  if Region.wanted o (yielded ops a.tmps)=true then Oper.wp Tryz.prog o a w K Q else E:=by
 have hw:Region.wanted o (yielded ops a.tmps)=true:=by simp [Region.wanted,hg]
 rw [if_pos hw]
 unfold Oper.wp
 simp [execOp,hop,resolve,invoke,builtin,hd,hx,hr,Result.andThen]
 exact hK
def yJp(w:World)(B:Nat)(v:Value)(l:List ClmD)(i:Nat)(d:ClmD)(e:Ending)(w':World):Prop:=
 ∃ u,e=.returned u/\w'.ownsRow B 214 2 u (l.length+1) (zAf (l.take i++d :: l.drop i))/\Mod (fun b=>v.ownBlock=some b) w w'/\(u.ownBlock=v.ownBlock\/∀ b,u.ownBlock=some b->w.heap.size<=b)
theorem zPu(l:List ClmD)(i:Nat)(d:ClmD):zAf (l.take i++d :: l.drop i)=(zAf l).take (i*2)++zAh d++(zAf l).drop (i*2):=by
 rw [zGu,zAf,zMy,zMz]
 simp
theorem yDu(B:Nat)(v:Value)(l:List ClmD)(d:ClmD)(vb:Nat)(w:World)(hrow:w.ownsRow B 214 2 v l.length (zAf l))(hvb:Blk w vb (zAh d) 214)(hl:l.length<=1000)(hB:B<=w.heap.size) :
  Calls Tryz.prog 231 #[v,.int .i64 l.length,.slice (some ⟨vb,0,none⟩) 1 1] w (yJp w B v l l.length d):=by
 obtain ⟨i0,hi,hz0,hz1,hz2⟩:=info_parts Tryz.info214
 have hcap:∃ a cap,v=.slice a l.length cap/\l.length<=cap/\cap<=maxLen:=by
  rcases hrow.2 with ⟨rfl,h0⟩ | ⟨g,cap,cur,rfl,_,_,h1,h2,_⟩
  ·exact ⟨none,0,by rw [h0],by omega,Nat.zero_le _⟩
  ·exact ⟨_,cap,rfl,h1,h2⟩
 obtain ⟨a,cap,rfl,hc1,hc2⟩:=hcap
 have HR:=Hmq hrow
 have HN:Hid (∀ (j:Nat) u,(zAh d)[j]?=some u->w.cell? ((⟨vb,0,none⟩:Addr).add j)=some u):=fun j u hu=>by
  rw [Go.WideShapes.add_plain,Nat.zero_add];exact hvb.cell j hu
 have HO:Hid (∀ u∈zAh d,u.oneCell'=true):=fun u hu=>zEb [d] u (by rw [zFs];exact hu)
 have hk63:l.length+1<=maxLen:=by unfold maxLen;omega
 have hk47:(l.length+1)*16<=140737488355328:=by omega
 unfold maxLen at hc2
 clear hrow hvb
 go_enter Tryz.func231,Tryz.ntmps231
 go_wp2_with (first
  | (at_builtin;refine wpList_append_own_at _ rfl _ _ 210 rfl B 214 i0 _ 2 16 Tryz.underlying210 hi hz0 hz1 hz2 rfl (by omega) _ _ _ rfl HR.out ⟨vb,0,none⟩ 1 1 (zAh d) rfl rfl HN.out HO.out hk63 hk47 hB ?_)
  | fail)
 all_goals
  intro v9 w9 hown9 hgrow9 _ hloc9
  have HM9:Hid (Mod (fun b=>(Value.slice a l.length cap).ownBlock=some b) w w9):=(Mod.refl _ w).grown hgrow9 (fun x hx _=>by cases a <;> first | exact hx | cases hx)
  have HW:=Hmq hown9
  have HL:=Hmq hloc9
  clear hown9 hgrow9 hloc9
  go_wp2_with fail
  go_ret
  refine ⟨v9,rfl,?_,HM9.out,HL.out.imp (fun e=>e.trans (by cases a <;> rfl)) (fun e b hb=>by rw [e] at hb;simp at hb;omega)⟩
  rw [zPu,List.take_of_length_le (by rw [zBm];exact Nat.le_refl _),List.drop_eq_nil_of_le (by rw [zBm];exact Nat.le_refl _),List.append_nil]
  exact HW.out
theorem zPt(b:Nat)(vs:List Value)(o:Nat)(w:World)(h:∀ j,j<vs.length->(w.cell? ⟨b,o+j,none⟩).isSome=true)(k:Nat)(hk:(w.cell? ⟨b,k,none⟩).isSome=true):((w.setCells b o vs).cell? ⟨b,k,none⟩).isSome=true:=by
 by_cases hin:o<=k/\k<o+vs.length
 ·have:=World.cell?_setCells_in b vs o w h (k - o) (by omega)
  rw [show o+(k - o)=k by omega] at this
  rw [this];rfl
 ·rw [World.cell?_setCells_out b vs o w ⟨b,k,none⟩ (fun _ _=>by show k<o\/o+vs.length<=k;omega)]
  exact hk
theorem yPa:∀ w,(Go.sizeOf 214).run Tryz.prog w=.ok 2 w:=fun w=>by kernel_rfl
theorem zYg(B g cap:Nat)(l:List ClmD)(i:Nat)(d:ClmD)(vb:Nat)(w:World)(hrow:w.ownsRow B 214 2 (.slice (some ⟨g,0,none⟩) l.length cap) l.length (zAf l))(hi:i<l.length)(hroom:l.length+1<=cap)(hvb:Blk w vb (zAh d) 214)(hne:vb≠g)(hl:l.length<=1000)(hB:B<=w.heap.size) :
  Calls Tryz.prog 231 #[.slice (some ⟨g,0,none⟩) l.length cap,.int .i64 i,.slice (some ⟨vb,0,none⟩) 1 1] w (yJp w B (.slice (some ⟨g,0,none⟩) l.length cap) l i d):=by
 obtain ⟨cur,hBg,hcur,hcm,hcs,hct⟩:∃ cur:Array Value,B<=g/\Blk w g cur.toList 214/\cap<=maxLen/\cur.size=cap*2/\cur.toList.take (l.length*2)=zAf l:=by
  rcases hrow.2 with ⟨e,_⟩ | ⟨g',cap',cur,e,q1,q2,q3,q4,q5,q6⟩
  ·cases e
  ·cases e
   exact ⟨cur,q1,by simpa [Blk] using q2,q4,q5,q6⟩
 have hsz:(Tryz.prog.info? 214).map (·.size)=some 2:=by
  obtain ⟨i0,hi0,h0,h1,h2⟩:=info_parts Tryz.info214
  rw [hi0];simp [h1]
 have hlen:=zBm l
 have hcell:∀ j v,cur.toList[j]?=some v->w.cell? ⟨g,j,none⟩=some v:=fun j v h=>hcur.cell j h
 have hsp:∀ j,j<cap*2->(w.cell? ⟨g,j,none⟩).isSome=true:=fun j hj=>by
  rw [hcell j _ (List.getElem?_eq_getElem (by simp;omega))];rfl
 have hfz:∀ j,w.frozen? ⟨g,j,none⟩=false:=fun j=>hcur.frozen j
 have hov:∀ lb cb,(callFunc 258 #[.slice (some ⟨vb,0,none⟩) 1 1,.slice (some ⟨g,(i+1)*2,none⟩) lb cb]).run Tryz.prog w=.ok (.value (.bool false)) w:=fun lb cb=>by
  rw [run_callFunc_extern Tryz.func258 (by kernel_rfl) (by kernel_rfl) (by kernel_rfl) (e:=Extern.SlicesOverlaps.overlaps #[210,210] #[4]) (by kernel_rfl),
   Lib.run_overlaps_apart w 210 4 214 Tryz.underlying210 2 yPa ⟨vb,0,none⟩ ⟨g,(i+1)*2,none⟩ 1 1 lb cb hne 214 214 2 (cap*2) (by have:=hvb;unfold Blk at this;simp [World.shape?,this,zAh]) (by have:=hcur;unfold Blk at this;simp [World.shape?,this,hcs]) (by omega) (hvb.frozen 0) (hvb.frozen 2)]
  rfl
 have hsrc:∀ j v,((zAf l).drop (i*2))[j]?=some v->w.cell? ⟨g,i*2+j,none⟩=some v:=fun j v hj=>by
  rw [List.getElem?_drop,<-hct,List.getElem?_take] at hj
  split at hj
  ·exact hcell _ v hj
  ·cases hj
 have hdl:((zAf l).drop (i*2)).length=(l.length - i)*2:=by rw [List.length_drop,hlen];omega
 obtain ⟨W1,hW1⟩:∃ W1,W1=w.drew.setCells g ((i+1)*2) ((zAf l).drop (i*2)):=⟨_,rfl⟩
 have hcp1:∀ ty dc sc,(Builtin.copy_ #[210,210] ty #[.slice (some ⟨g,(i+1)*2,none⟩) (l.length - i) dc,.slice (some ⟨g,i*2,none⟩) (l.length+1 - i) sc]).run Tryz.prog w.drew=.ok (goInt (Nat.min (l.length+1 - i) (l.length - i))) W1:=fun ty dc sc=>by
  rw [hW1]
  exact zHh w.drew _ _ ty 214 g ((i+1)*2) _ dc ⟨g,i*2,none⟩ _ sc 2 ((zAf l).drop (i*2)) Tryz.underlying210 hsz (by rw [hdl];simp only [Nat.min_def];split <;> omega)
   (fun j v hj=>by rw [Go.WideShapes.add_plain];exact hsrc j v hj)
   (fun j hj=>hsp _ (by omega)) (fun j hj=>hfz _) (fun v hv=>zEb l v (List.mem_of_mem_drop hv))
 have hvs:∀ (j:Nat) u,(zAh d)[j]?=some u->w.cell? ⟨vb,j,none⟩=some u:=fun j u hu=>hvb.cell j hu
 have hsp1:∀ k,k<cap*2->(W1.cell? ⟨g,k,none⟩).isSome=true:=fun k hk=>by
  rw [hW1]
  exact zPt g ((zAf l).drop (i*2)) ((i+1)*2) w.drew (fun j hj=>hsp _ (by rw [hdl] at hj;omega)) k (hsp k hk)
 have hcp2:∀ (W:World),(∀ x,W.cell? x=W1.cell? x)->(∀ x,W.frozen? x=W1.frozen? x)->∀ ty dc,(Builtin.copy_ #[210,210] ty #[.slice (some ⟨g,i*2,none⟩) (l.length+1 - i) dc,.slice (some ⟨vb,0,none⟩) 1 1]).run Tryz.prog W=.ok (goInt (Nat.min 1 (l.length+1 - i))) (W.setCells g (i*2) (zAh d)):=fun W hWc hWf ty dc=>
  zHh W _ _ ty 214 g (i*2) _ dc ⟨vb,0,none⟩ 1 1 2 (zAh d) Tryz.underlying210 hsz (by simp only [Nat.min_def,zAh];split <;> simp <;> omega)
   (fun j v hj=>by
    rw [Go.WideShapes.add_plain,hWc,hW1,World.cell?_setCells_out g _ _ _ _ (fun h _=>absurd h hne),Nat.zero_add]
    exact hvs j v hj)
   (fun j hj=>by rw [hWc];exact hsp1 _ (by simp [zAh] at hj;omega)) (fun j hj=>by rw [hWf,hW1,World.frozen?_setCells];exact hfz _) (fun u hu=>zEb [d] u (by rw [zFs];exact hu))
 have HEND:Hid (∀ W:World,Blk W g (zKr cur.toList ((i+1)*2) ((zAf l).drop (i*2))) 214->Mod (zAd g) w W->yJp w B (.slice (some ⟨g,0,none⟩) l.length cap) l i d (.returned (.slice (some ⟨g,0,none⟩) (l.length+1) cap)) (W.setCells g (i*2) (zAh d))):=fun W hW hM=>by
  have hB2:=hW.setCellsQ (zAh d) (i*2)
  have hl1:(i+1)*2+((zAf l).drop (i*2)).length<=cur.toList.length:=by rw [hdl];simp;omega
  have e1:=zNu ((zAf l).drop (i*2)) cur.toList ((i+1)*2) hl1
  have hl2:(zKr cur.toList ((i+1)*2) ((zAf l).drop (i*2))).length=cap*2:=by
   rw [e1];simp;rw [hdl,hcs] at *;omega
  have e2:=zNu (zAh d) _ (i*2) (by rw [hl2];simp [zAh];omega:i*2+(zAh d).length<=(zKr cur.toList ((i+1)*2) ((zAf l).drop (i*2))).length)
  refine ⟨_,rfl,⟨?_,.inr ⟨g,cap,(zKr (zKr cur.toList ((i+1)*2) ((zAf l).drop (i*2))) (i*2) (zAh d)).toArray,rfl,hBg,?_,hroom,hcm,?_,?_⟩⟩,?_,.inl rfl⟩
  ·rw [zBm];simp;omega
  ·simpa [Blk] using hB2
  ·rw [e2];simp [hl2,zAh];omega
  ·rw [zPu,e2,e1]
   have t1:(cur.toList.take ((i+1)*2)++(zAf l).drop (i*2)++cur.toList.drop ((i+1)*2+((zAf l).drop (i*2)).length)).take (i*2)=(zAf l).take (i*2):=by
    rw [List.append_assoc,List.take_append_of_le_length (by simp;omega),List.take_take,<-hct,List.take_take]
    congr 1
    simp only [Nat.min_def];split <;> split <;> omega
   have t2:(cur.toList.take ((i+1)*2)++(zAf l).drop (i*2)++cur.toList.drop ((i+1)*2+((zAf l).drop (i*2)).length)).drop (i*2+(zAh d).length)=(zAf l).drop (i*2)++cur.toList.drop ((i+1)*2+((zAf l).drop (i*2)).length):=by
    rw [List.append_assoc,List.drop_append_of_le_length (by simp [zAh];omega),List.drop_eq_nil_of_le (by simp [zAh];omega),List.nil_append]
   rw [t1,t2]
   have hlen3:((zAf l).take (i*2)++zAh d++(zAf l).drop (i*2)).length=(l.length+1)*2:=by simp [zAh,hlen];omega
   show (((zAf l).take (i*2)++zAh d++((zAf l).drop (i*2)++_))).take _=_
   rw [<-List.append_assoc,List.take_append_of_le_length (by rw [hlen3];exact Nat.le_refl _),List.take_of_length_le (by rw [hlen3];exact Nat.le_refl _)]
  ·exact (hM.trans (Mod.setCellsQ _ _ _)).mono (fun b _ e=>by simp only [zAd] at e;rw [e];rfl)
 have HW1:Hid (Blk W1 g (zKr cur.toList ((i+1)*2) ((zAf l).drop (i*2))) 214/\Mod (zAd g) w W1):=by
  rw [hW1]
  exact ⟨Blk.setCellsQ _ _ (hcur.mod ((Mod.refl zAb w).drew) id),((Mod.refl _ w).drew).trans (Mod.setCellsQ _ _ _)⟩
 have hz2:¬ ((i:Int)=(l.length:Int)):=by omega
 have hc63:cap<=9223372036854775807:=by unfold maxLen at hcm;omega
 have hw1:IntKind.i64.wrap ((i:Int)+1)=(i:Int)+1:=by rw [IntKind.wrap_i64];omega
 have htn:((i:Int)+1).toNat=i+1:=by omega
 have hb1:(0:Int)<=(i:Int)+1:=by omega
 have hin:i<=l.length:=by omega
 have hb5:(i:Int)+1<=(l.length:Int)+1:=by omega
 have mixed:Tryz.prog.follows Departure.mixedOrders=true:=by kernel_rfl
 have hb2:¬ (cap=i+1):=by omega
 have hb3:(i:Int)<=(l.length:Int)+1:=by omega
 have hb4:¬ (cap=i):=by omega
 clear hW1 hsp1 hvs hdl hsrc hfz hsp hcell hlen hct hcs hcur hrow hvb hsz
 go_enter Tryz.func231,Tryz.ntmps231
 go_wp2_with (simp only [hov])
 go_region_law_o (refine zNr rfl _ _ 210 210 rfl _ _ (by simp [Act.eval,Act.put]) (by simp [Act.eval,Act.put]) (hcp1 _ _ _) ?_)
 go_wp2_with (at_builtin;refine wpList_copy_atQ _ rfl _ _ 210 210 rfl _ _ rfl rfl (hcp2 _ (fun _=>rfl) (fun _=>rfl) _ _) ?_)
 go_ret
 exact HEND.out _ (HW1.out.1) (HW1.out.2)
theorem yAw(B g cap:Nat)(l:List ClmD)(i:Nat)(d:ClmD)(vb:Nat)(w:World)(hrow:w.ownsRow B 214 2 (.slice (some ⟨g,0,none⟩) l.length cap) l.length (zAf l))(hi:i<l.length)(hnc:l.length<=cap)(hroom:cap<l.length+1)(hvb:Blk w vb (zAh d) 214)(hl:l.length<=1000)(hB:B<=w.heap.size) :
  Calls Tryz.prog 231 #[.slice (some ⟨g,0,none⟩) l.length cap,.int .i64 i,.slice (some ⟨vb,0,none⟩) 1 1] w (yJp w B (.slice (some ⟨g,0,none⟩) l.length cap) l i d):=by
 obtain ⟨i0,hi0,hz0,hzs,hzb⟩:=info_parts Tryz.info214
 have hsz:(Tryz.prog.info? 214).map (·.size)=some 2:=by rw [hi0];simp [hzs]
 have hlen:=zBm l
 have hcl:∀ (j:Nat) v,(zAf l)[j]?=some v->w.cell? ⟨g,j,none⟩=some v:=fun j v hj=>by
  have:=hrow.cells (g:=g) rfl j v hj
  rw [Go.WideShapes.add_plain,Nat.zero_add] at this
  exact this
 have hgw:g<w.heap.size:=(zAq hrow (k:=g) rfl).2.1
 have hvw:=hvb.lt
 have hkk:(l.length:Int)+1 - (i:Int)=((l.length+1 - i:Nat):Int):=by omega
 have hik:i+(l.length+1 - i)=l.length+1:=by omega
 have hold:(Builtin.firstCells i0.size i (.slice (some ⟨g,0,none⟩) i cap)).run Tryz.prog w.drew=.ok ((zAf l).take (i*2)).toArray w.drew:=by
  rw [hzs]
  exact run_firstCells_some w.drew 2 i ⟨g,0,none⟩ i cap ((zAf l).take (i*2)) (by rw [List.length_take,hlen];omega) (fun j v hj=>by
   rw [Go.WideShapes.add_plain,Nat.zero_add]
   rw [List.getElem?_take] at hj
   split at hj
   ·exact hcl j v hj
   ·cases hj)
 have hrz:∀ ty,(Builtin.append_ #[210,3] ty #[.slice (some ⟨g,0,none⟩) i cap,.int .i64 ((l.length:Int)+1 - (i:Int))]).run Tryz.prog w =
   .ok (.slice (some ⟨w.heap.size,0,none⟩) (l.length+1) (grownCap w (l.length+1) cap 214)) (w.drew.alloc (.cells (((zAf l).take (i*2)).toArray++Builtin.zeroCells (Value.agg #[.int .i64 0,.int .i64 0]).cells (l.length+1 - i)++Builtin.zeroCells (Value.agg #[.int .i64 0,.int .i64 0]).cells (grownCap w (l.length+1) cap 214 - (l.length+1))) 214)):=fun ty=>by
  have h:=Lib.run_append_grow_zeros w 210 3 ty 214 i0 _ .i64 .i64 Tryz.underlying210 Tryz.underlying3 hi0 hz0 (some ⟨g,0,none⟩) i cap ((zAf l).take (i*2)) hold (l.length+1 - i) (by omega) (by omega) (by omega) (by omega) (by rw [hzb];omega) (by rw [hzb,hik];exact growslice_fits hroom (by omega))
  rw [hik] at h
  rw [hkk]
  exact h
 obtain ⟨G,hG⟩:∃ G,G=grownCap w (l.length+1) cap 214:=⟨_,rfl⟩
 obtain ⟨Z,hZ⟩:∃ Z:List Value,Z=(Builtin.zeroCells (Value.agg #[.int .i64 0,.int .i64 0]).cells (l.length+1 - i)).toList++(Builtin.zeroCells (Value.agg #[.int .i64 0,.int .i64 0]).cells (G - (l.length+1))).toList:=⟨_,rfl⟩
 have hGn:l.length+1<=G:=by rw [hG];exact grownCap_ge w _ _ _
 have hZl:Z.length=(G - i)*2:=by rw [hZ];simp [Builtin.zeroCells,Value.cells];omega
 obtain ⟨W1,hW1⟩:∃ W1,W1=w.drew.alloc (.cells (((zAf l).take (i*2)).toArray++Builtin.zeroCells (Value.agg #[.int .i64 0,.int .i64 0]).cells (l.length+1 - i)++Builtin.zeroCells (Value.agg #[.int .i64 0,.int .i64 0]).cells (G - (l.length+1))) 214):=⟨_,rfl⟩
 rw [<-hG,<-hW1] at hrz
 have hB1:Blk W1 w.heap.size ((zAf l).take (i*2)++Z) 214:=by
  rw [hW1,hZ]
  have:=heap_alloc_new w.drew (.cells (((zAf l).take (i*2)).toArray++Builtin.zeroCells (Value.agg #[.int .i64 0,.int .i64 0]).cells (l.length+1 - i)++Builtin.zeroCells (Value.agg #[.int .i64 0,.int .i64 0]).cells (G - (l.length+1))) 214)
  have e:∀ (a:List Value) (b c:Array Value),(a++(b.toList++c.toList)).toArray=a.toArray++b++c:=fun a b c=>by apply Array.ext';simp
  unfold Blk
  rw [e]
  exact this
 have hM1:Mod zAb w W1:=by rw [hW1];exact ((Mod.refl zAb w).drew).alloc _
 have hR1:((zAf l).take (i*2)++Z).length=G*2:=by rw [List.length_append,hZl,List.length_take,hlen];omega
 have hN:∀ j,j<G*2->(W1.cell? ⟨w.heap.size,j,none⟩).isSome=true:=fun j hj=>by
  rw [hB1.cell j (List.getElem?_eq_getElem (by omega))];rfl
 obtain ⟨W2,hW2⟩:∃ W2,W2=W1.setCells w.heap.size (i*2) (zAh d):=⟨_,rfl⟩
 have hcpA:∀ ty dc,(Builtin.copy_ #[210,210] ty #[.slice (some ⟨w.heap.size,i*2,none⟩) (l.length+1 - i) dc,.slice (some ⟨vb,0,none⟩) 1 1]).run Tryz.prog W1=.ok (goInt (Nat.min 1 (l.length+1 - i))) W2:=fun ty dc=>by
  rw [hW2]
  exact zHh W1 _ _ ty 214 w.heap.size (i*2) _ dc ⟨vb,0,none⟩ 1 1 2 (zAh d) Tryz.underlying210 hsz (by simp only [Nat.min_def,zAh];split <;> simp <;> omega)
   (fun j v hj=>by rw [Go.WideShapes.add_plain,Nat.zero_add];exact hM1.cell (hvb.cell j hj) id)
   (fun j hj=>hN _ (by simp [zAh] at hj;omega)) (fun j hj=>hB1.frozen _) (fun u hu=>zEb [d] u (by rw [zFs];exact hu))
 have hB2:Blk W2 w.heap.size (zKr ((zAf l).take (i*2)++Z) (i*2) (zAh d)) 214:=by rw [hW2];exact hB1.setCellsQ _ _
 have hM2:Mod zAb w W2:=by rw [hW2];exact hM1.trans' (Mod.setCellsQ _ _ _) (fun b hb e=>by simp only [zAd] at e;omega)
 have e1:=zNu (zAh d) ((zAf l).take (i*2)++Z) (i*2) (by rw [hR1];simp [zAh];omega)
 have hR2:(zKr ((zAf l).take (i*2)++Z) (i*2) (zAh d)).length=G*2:=by
  rw [e1];simp only [List.length_append,List.length_take,List.length_drop] at *;simp only [zAh,List.length_cons,List.length_nil];omega
 have hdl:((zAf l).drop (i*2)).length=(l.length - i)*2:=by rw [List.length_drop,hlen];omega
 have hcpB:∀ ty dc sc,(Builtin.copy_ #[210,210] ty #[.slice (some ⟨w.heap.size,(i+1)*2,none⟩) (l.length - i) dc,.slice (some ⟨g,i*2,none⟩) (l.length - i) sc]).run Tryz.prog W2.drew=.ok (goInt (Nat.min (l.length - i) (l.length - i))) (W2.drew.setCells w.heap.size ((i+1)*2) ((zAf l).drop (i*2))):=fun ty dc sc=>
  zHh W2.drew _ _ ty 214 w.heap.size ((i+1)*2) _ dc ⟨g,i*2,none⟩ _ sc 2 ((zAf l).drop (i*2)) Tryz.underlying210 hsz (by rw [hdl];simp only [Nat.min_def];split <;> omega)
   (fun j v hj=>by
    rw [Go.WideShapes.add_plain]
    rw [List.getElem?_drop] at hj
    exact hM2.cell (hcl _ v hj) id)
   (fun j hj=>by
    have:=hB2.cell ((i+1)*2+j) (List.getElem?_eq_getElem (by omega))
    show (W2.cell? _).isSome=true
    rw [this];rfl)
   (fun j hj=>hB2.frozen _) (fun v hv=>zEb l v (List.mem_of_mem_drop hv))
 have HEND:Hid (yJp w B (.slice (some ⟨g,0,none⟩) l.length cap) l i d (.returned (.slice (some ⟨w.heap.size,0,none⟩) (l.length+1) G)) (W2.drew.setCells w.heap.size ((i+1)*2) ((zAf l).drop (i*2)))):=by
  have hB3:Blk (W2.drew.setCells w.heap.size ((i+1)*2) ((zAf l).drop (i*2))) w.heap.size _ 214:=Blk.setCellsQ ((zAf l).drop (i*2)) ((i+1)*2) (hB2.mod ((Mod.refl zAb W2).drew) id)
  have e2:=zNu ((zAf l).drop (i*2)) (zKr ((zAf l).take (i*2)++Z) (i*2) (zAh d)) ((i+1)*2) (by rw [hR2,hdl];omega)
  have hGm:G<=maxLen:=by rw [hG];exact grownCap_le_maxLen w (l.length+1) cap 214 (by unfold maxLen;omega)
  refine ⟨_,rfl,⟨by rw [zBm];simp;omega,.inr ⟨w.heap.size,G,(zKr (zKr ((zAf l).take (i*2)++Z) (i*2) (zAh d)) ((i+1)*2) ((zAf l).drop (i*2))).toArray,rfl,hB,hB3,hGn,hGm,?_,?_⟩⟩,(hM2.drew.trans' (Mod.setCellsQ _ _ _) (fun b hb e=>by simp only [zAd] at e;omega)).mono (fun _ _ e=>e.elim),.inr (fun b hb=>by simp [Value.ownBlock] at hb;omega)⟩
  ·rw [e2]
   simp only [List.size_toArray,List.length_append,List.length_take,List.length_drop,hR2,hlen]
   omega
  ·rw [zPu]
   show List.take _ (zKr _ _ _)=_
   rw [e2,e1]
   have hlt:((zAf l).take (i*2)).length=i*2:=by rw [List.length_take,hlen];omega
   have hx:(((zAf l).take (i*2)++Z).take (i*2)++zAh d++((zAf l).take (i*2)++Z).drop (i*2+(zAh d).length)).take ((i+1)*2)=(zAf l).take (i*2)++zAh d:=by
    rw [List.take_append_of_le_length (by simp [zAh,hlt];omega),List.take_of_length_le (by simp [zAh,hlt];omega),List.take_append_of_le_length (by omega),List.take_of_length_le (by omega)]
   rw [hx,List.take_append_of_le_length (by simp only [List.length_append,hlt,hdl,zAh,List.length_cons,List.length_nil];omega),List.take_of_length_le (by simp only [List.length_append,hlt,hdl,zAh,List.length_cons,List.length_nil];omega)]
 have hz2:¬ ((i:Int)=(l.length:Int)):=by omega
 have hz3:(cap:Int)<(l.length:Int)+1:=by omega
 have hG63:G<=9223372036854775807:=by
  have:=grownCap_le_maxLen w (l.length+1) cap 214 (by unfold maxLen;omega)
  rw [<-hG] at this
  unfold maxLen at this
  omega
 have hw1:IntKind.i64.wrap ((i:Int)+1)=(i:Int)+1:=by rw [IntKind.wrap_i64];omega
 have htn:((i:Int)+1).toNat=i+1:=by omega
 have hb1:(0:Int)<=(i:Int)+1:=by omega
 have hin:i<=l.length:=by omega
 have hb5:(i:Int)+1<=(l.length:Int)+1:=by omega
 have mixed:Tryz.prog.follows Departure.mixedOrders=true:=by kernel_rfl
 have hGi:¬ (G=i):=by omega
 have hGim:¬ (G=i+1):=by omega
 have hci:¬ (cap=i):=by omega
 clear hkk hik hold hG hW1 hW2 hB1 hM1 hR1 hN hB2 hM2 e1 hR2 hdl hZ hZl hcl hrow hvb hsz hlen
 go_enter Tryz.func231,Tryz.ntmps231
 go_wp2_with (first
  | (at_builtin;refine Lib.wpList_append_run _ rfl _ _ _ _ rfl _ _ rfl rfl _ _ (hrz _) ?_)
  | (at_builtin;refine wpList_copy_atQ _ rfl _ _ 210 210 rfl _ _ rfl rfl (hcpA _ _) ?_))
 go_region_law_o (refine zNr rfl _ _ 210 210 rfl (.slice (some ⟨w.heap.size,(i+1)*2,none⟩) (l.length - i) (G - (i+1))) (.slice (some ⟨g,i*2,none⟩) (l.length - i) (cap - i)) (by simp [Act.eval,Act.put]) (by simp [Act.eval,Act.put]) (hcpB _ (G - (i+1)) (cap - i)) ?_)
 go_wp2_with fail
 go_ret
 exact HEND.out
theorem yDv(B:Nat)(v:Value)(l:List ClmD)(i:Nat)(d:ClmD)(vb:Nat)(w:World)(hrow:w.ownsRow B 214 2 v l.length (zAf l))(hi:i<=l.length)(hvb:Blk w vb (zAh d) 214)(hne:v.ownBlock≠some vb)(hl:l.length<=1000)(hB:B<=w.heap.size) :
  Calls Tryz.prog 231 #[v,.int .i64 i,.slice (some ⟨vb,0,none⟩) 1 1] w (yJp w B v l i d):=by
 by_cases h1:i=l.length
 ·subst h1
  exact yDu B v l d vb w hrow hvb hl hB
 ·have hcap:∃ g cap,v=.slice (some ⟨g,0,none⟩) l.length cap/\l.length<=cap:=by
   rcases hrow.2 with ⟨rfl,h0⟩ | ⟨g,cap,cur,rfl,_,_,h1,h2,_⟩
   ·omega
   ·exact ⟨g,cap,rfl,h1⟩
  obtain ⟨g,cap,rfl,hc⟩:=hcap
  by_cases h2:l.length+1<=cap
  ·exact zYg B g cap l i d vb w hrow (by omega) h2 hvb (fun e=>hne (by rw [e];rfl)) hl hB
  ·exact yAw B g cap l i d vb w hrow (by omega) hc (by omega) hvb hl hB
end Go.Proofs.YtogaigioeohjaaaGreatDoor
