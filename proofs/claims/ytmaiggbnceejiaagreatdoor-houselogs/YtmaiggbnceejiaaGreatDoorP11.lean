import Derived.Test.YtmaiggbnceejiaaGreatDoorP10
import Derived.Lib.Overlaps
import Derived.Lib.AppendZeros
import Derived.Lib.AppendZerosOnto
import Derived.Laws.NewBlocks
import Derived.Shelf.RegionOpenPlain
set_option linter.unusedVariables false
set_option maxRecDepth 100000
set_option maxHeartbeats 16000000
namespace Go.Proofs.YtmaiggbnceejiaaGreatDoor
open Go.RowKit Go.Lib Go.Maps Go.Shelf
def zKr(cs:List Value)(o:Nat):List Value->List Value
 | []=>cs
 | v :: r=>zKr (cs.set o v) (o+1) r
theorem zNz:∀(vs cs:List Value)(o:Nat),o+vs.length<=cs.length->zKr cs o vs=cs.take o++vs++cs.drop (o+vs.length)
 | [],cs,o,h=>by simp [zKr]
 | v :: r,cs,o,h=>by
  simp only [List.length_cons] at h
  have hl:o<cs.length:=by omega
  rw [zKr,zNz r (cs.set o v) (o+1) (by rw [List.length_set];omega)]
  have e1:(cs.set o v).take (o+1)=cs.take o++[v]:=by
   rw [List.take_succ_eq_append_getElem (by rw [List.length_set];exact hl),List.take_set_of_le (Nat.le_refl _),List.getElem_set_self]
  have e2:(cs.set o v).drop (o+1+r.length)=cs.drop (o+(v :: r).length):=by
   rw [List.drop_set_of_lt (by omega),List.length_cons,show o+1+r.length=o+(r.length+1) by omega]
  rw [e1,e2]
  simp
theorem Blk.setCellsQ{g:Nat}{t:TypeId}:∀ (vs:List Value) (o:Nat) {w:World} {cs:List Value},Blk w g cs t->Blk (w.setCells g o vs) g (zKr cs o vs) t
 | [],o,w,cs,h=>h
 | v :: r,o,w,cs,h=>by
  rw [World.setCells,zKr]
  exact Blk.setCellsQ r (o+1) (h.set o v)
theorem Mod.setCellsQ{g:Nat}:∀ (vs:List Value) (o:Nat) (w:World),Mod (zAc g) w (w.setCells g o vs)
 | [],o,w=>Mod.refl _ _
 | v :: r,o,w=>by
  rw [World.setCells]
  exact (Mod.setBlk g o v).trans (Mod.setCellsQ r (o+1) _)
theorem zHa(w:World)(dT sT ty elem:TypeId)(b o dLen dCap:Nat)(a:Addr)(sLen sCap sz:Nat)(cs:List Value)
  (hu:Tryz.prog.underlying dT=some (.slice elem)) (hs:(Tryz.prog.info? elem).map (·.size)=some sz) (hn:cs.length=Nat.min sLen dLen*sz)
  (hsrc:∀ j v,cs[j]?=some v->w.cell? (a.add j)=some v) (hc:∀ j,j<cs.length->(w.cell? ⟨b,o+j,none⟩).isSome=true) (hf:∀ j,j<cs.length->w.frozen? ⟨b,o+j,none⟩=false) (h1:∀ v∈cs,v.oneCell'=true) :
  (Builtin.copy_ #[dT,sT] ty #[.slice (some ⟨b,o,none⟩) dLen dCap,.slice (some a) sLen sCap]).run Tryz.prog w=.ok (goInt (Nat.min sLen dLen)) (w.setCells b o cs):=by
 have hl:=run_loadCells_list (P:=Tryz.prog) w a cs hsrc
 have hst:=run_storeCells_cells (P:=Tryz.prog) b o cs 0 w (by simpa using hc) (by simpa using hf) h1
 cases hq:Tryz.prog.info? elem with
 | none=>simp [hq] at hs
 | some i=>
  have hi:i.size=sz:=by simpa [hq] using hs
  simp [Builtin.copy_,run_underlying hu,Builtin.lenOf,Builtin.firstCells,sizeOf,typeInfo,hq,hi,<-hn,hl,hst]
theorem zNy{ops:Array Oper}{o:Oper}{a:Act}{w:World}{K:Act->World->Prop}{Q:Exit->Act->World->Prop}{E:Prop}
  (hg:o.guard=none) (d x:Operand) (dT sT:TypeId) (hop:o.op=Op.call { callee:=Callee.builtin Builtin.copy,args:=#[d,x],argTypes:=#[dT,sT] })
  (v u:Value) (hd:a.eval d=v) (hx:a.eval x=u) {v':Value} {w':World} (hr:(Builtin.copy_ #[dT,sT] o.type #[v,u]).run Tryz.prog w=.ok v' w') (hK:K (a.put o.dst v') w') :
  if Region.wanted o (yielded ops a.tmps)=true then Oper.wp Tryz.prog o a w K Q else E:=by
 have hw:Region.wanted o (yielded ops a.tmps)=true:=by simp [Region.wanted,hg]
 rw [if_pos hw]
 unfold Oper.wp
 simp [execOp,hop,resolve,invoke,builtin,hd,hx,hr,Result.andThen]
 exact hK
def yIa(w:World)(B:Nat)(v:Value)(l:List ClmD)(i:Nat)(d:ClmD)(e:Ending)(w':World):Prop:=
 ∃ u,e=.returned u/\w'.ownsRow B 170 2 u (l.length+1) (zAe (l.take i++d :: l.drop i))/\Mod (fun b=>v.ownBlock=some b) w w'/\(u.ownBlock=v.ownBlock\/∀ b,u.ownBlock=some b->w.heap.size<=b)
theorem zPx(l:List ClmD)(i:Nat)(d:ClmD):zAe (l.take i++d :: l.drop i)=(zAe l).take (i*2)++zAi d++(zAe l).drop (i*2):=by
 rw [zGk,zAe,zNd,zNe]
 simp
theorem yCw(B:Nat)(v:Value)(l:List ClmD)(d:ClmD)(vb:Nat)(w:World)(hrow:w.ownsRow B 170 2 v l.length (zAe l))(hvb:Blk w vb (zAi d) 170)(hl:l.length<=1000)(hB:B<=w.heap.size) :
  Calls Tryz.prog 149 #[v,.int .i64 l.length,.slice (some ⟨vb,0,none⟩) 1 1] w (yIa w B v l l.length d):=by
 obtain ⟨i0,hi,hz0,hz1,hz2⟩:=info_parts Tryz.info170
 have hcap:∃ a cap,v=.slice a l.length cap/\l.length<=cap/\cap<=maxLen:=by
  rcases hrow.2 with ⟨rfl,h0⟩ | ⟨g,cap,cur,rfl,_,_,h1,h2,_⟩
  ·exact ⟨none,0,by rw [h0],by omega,Nat.zero_le _⟩
  ·exact ⟨_,cap,rfl,h1,h2⟩
 obtain ⟨a,cap,rfl,hc1,hc2⟩:=hcap
 have HR:=Hmq hrow
 have HN:Hid (∀ (j:Nat) u,(zAi d)[j]?=some u->w.cell? ((⟨vb,0,none⟩:Addr).add j)=some u):=fun j u hu=>by
  rw [Go.WideShapes.add_plain,Nat.zero_add];exact hvb.cell j hu
 have HO:Hid (∀ u∈zAi d,u.oneCell'=true):=fun u hu=>zEc [d] u (by rw [zFj];exact hu)
 have hk63:l.length+1<=maxLen:=by unfold maxLen;omega
 have hk47:(l.length+1)*16<=140737488355328:=by omega
 unfold maxLen at hc2
 clear hrow hvb
 go_enter Tryz.func149,Tryz.ntmps149
 go_wp2_with (first
  | (at_builtin;refine wpList_append_own_at _ rfl _ _ 166 rfl B 170 i0 _ 2 16 Tryz.underlying166 hi hz0 hz1 hz2 rfl (by omega) _ _ _ rfl HR.out ⟨vb,0,none⟩ 1 1 (zAi d) rfl rfl HN.out HO.out hk63 hk47 hB ?_)
  | fail)
 all_goals
  intro v9 w9 hown9 hgrow9 _ hloc9
  have HM9:Hid (Mod (fun b=>(Value.slice a l.length cap).ownBlock=some b) w w9):=(Mod.refl _ w).grown hgrow9 (fun x hx _=>by cases a <;> first | exact hx | cases hx)
  have HW:=Hmq hown9
  have HL:=Hmq hloc9
  clear hown9 hgrow9 hloc9
  go_wp2_with fail
  go_ret
  refine ⟨v9,rfl,?_,HM9.out,HL.out.imp (fun e=>e.trans (by cases a <;> rfl)) (fun e b hb=>by rw [e] at hb;simp at hb;omega)⟩
  rw [zPx,List.take_of_length_le (by rw [zBl];exact Nat.le_refl _),List.drop_eq_nil_of_le (by rw [zBl];exact Nat.le_refl _),List.append_nil]
  exact HW.out
theorem zPw(b:Nat)(vs:List Value)(o:Nat)(w:World)(h:∀ j,j<vs.length->(w.cell? ⟨b,o+j,none⟩).isSome=true)(k:Nat)(hk:(w.cell? ⟨b,k,none⟩).isSome=true):((w.setCells b o vs).cell? ⟨b,k,none⟩).isSome=true:=by
 by_cases hin:o<=k/\k<o+vs.length
 ·have:=World.cell?_setCells_in b vs o w h (k - o) (by omega)
  rw [show o+(k - o)=k by omega] at this
  rw [this];rfl
 ·rw [World.cell?_setCells_out b vs o w ⟨b,k,none⟩ (fun _ _=>by show k<o\/o+vs.length<=k;omega)]
  exact hk
theorem yMv:∀ w,(Go.sizeOf 170).run Tryz.prog w=.ok 2 w:=fun w=>by kernel_rfl
theorem zXq(B g cap:Nat)(l:List ClmD)(i:Nat)(d:ClmD)(vb:Nat)(w:World)(hrow:w.ownsRow B 170 2 (.slice (some ⟨g,0,none⟩) l.length cap) l.length (zAe l))(hi:i<l.length)(hroom:l.length+1<=cap)(hvb:Blk w vb (zAi d) 170)(hne:vb≠g)(hl:l.length<=1000)(hB:B<=w.heap.size) :
  Calls Tryz.prog 149 #[.slice (some ⟨g,0,none⟩) l.length cap,.int .i64 i,.slice (some ⟨vb,0,none⟩) 1 1] w (yIa w B (.slice (some ⟨g,0,none⟩) l.length cap) l i d):=by
 obtain ⟨cur,hBg,hcur,hcm,hcs,hct⟩:∃ cur:Array Value,B<=g/\Blk w g cur.toList 170/\cap<=maxLen/\cur.size=cap*2/\cur.toList.take (l.length*2)=zAe l:=by
  rcases hrow.2 with ⟨e,_⟩ | ⟨g',cap',cur,e,q1,q2,q3,q4,q5,q6⟩
  ·cases e
  ·cases e
   exact ⟨cur,q1,by simpa [Blk] using q2,q4,q5,q6⟩
 have hsz:(Tryz.prog.info? 170).map (·.size)=some 2:=by
  obtain ⟨i0,hi0,h0,h1,h2⟩:=info_parts Tryz.info170
  rw [hi0];simp [h1]
 have hlen:=zBl l
 have hcell:∀ j v,cur.toList[j]?=some v->w.cell? ⟨g,j,none⟩=some v:=fun j v h=>hcur.cell j h
 have hsp:∀ j,j<cap*2->(w.cell? ⟨g,j,none⟩).isSome=true:=fun j hj=>by
  rw [hcell j _ (List.getElem?_eq_getElem (by simp;omega))];rfl
 have hfz:∀ j,w.frozen? ⟨g,j,none⟩=false:=fun j=>hcur.frozen j
 have hov:∀ lb cb,(callFunc 172 #[.slice (some ⟨vb,0,none⟩) 1 1,.slice (some ⟨g,(i+1)*2,none⟩) lb cb]).run Tryz.prog w=.ok (.value (.bool false)) w:=fun lb cb=>by
  rw [run_callFunc_extern Tryz.func172 (by kernel_rfl) (by kernel_rfl) (by kernel_rfl) (e:=Extern.SlicesOverlaps.overlaps #[166,166] #[4]) (by kernel_rfl),
   Lib.run_overlaps_apart w 166 4 170 Tryz.underlying166 2 yMv ⟨vb,0,none⟩ ⟨g,(i+1)*2,none⟩ 1 1 lb cb hne 170 170 2 (cap*2) (by have:=hvb;unfold Blk at this;simp [World.shape?,this,zAi]) (by have:=hcur;unfold Blk at this;simp [World.shape?,this,hcs]) (by omega) (hvb.frozen 0) (hvb.frozen 2)]
  rfl
 have hsrc:∀ j v,((zAe l).drop (i*2))[j]?=some v->w.cell? ⟨g,i*2+j,none⟩=some v:=fun j v hj=>by
  rw [List.getElem?_drop,<-hct,List.getElem?_take] at hj
  split at hj
  ·exact hcell _ v hj
  ·cases hj
 have hdl:((zAe l).drop (i*2)).length=(l.length - i)*2:=by rw [List.length_drop,hlen];omega
 obtain ⟨W1,hW1⟩:∃ W1,W1=w.drew.setCells g ((i+1)*2) ((zAe l).drop (i*2)):=⟨_,rfl⟩
 have hcp1:∀ ty dc sc,(Builtin.copy_ #[166,166] ty #[.slice (some ⟨g,(i+1)*2,none⟩) (l.length - i) dc,.slice (some ⟨g,i*2,none⟩) (l.length+1 - i) sc]).run Tryz.prog w.drew=.ok (goInt (Nat.min (l.length+1 - i) (l.length - i))) W1:=fun ty dc sc=>by
  rw [hW1]
  exact zHa w.drew _ _ ty 170 g ((i+1)*2) _ dc ⟨g,i*2,none⟩ _ sc 2 ((zAe l).drop (i*2)) Tryz.underlying166 hsz (by rw [hdl];simp only [Nat.min_def];split <;> omega)
   (fun j v hj=>by rw [Go.WideShapes.add_plain];exact hsrc j v hj)
   (fun j hj=>hsp _ (by omega)) (fun j hj=>hfz _) (fun v hv=>zEc l v (List.mem_of_mem_drop hv))
 have hvs:∀ (j:Nat) u,(zAi d)[j]?=some u->w.cell? ⟨vb,j,none⟩=some u:=fun j u hu=>hvb.cell j hu
 have hsp1:∀ k,k<cap*2->(W1.cell? ⟨g,k,none⟩).isSome=true:=fun k hk=>by
  rw [hW1]
  exact zPw g ((zAe l).drop (i*2)) ((i+1)*2) w.drew (fun j hj=>hsp _ (by rw [hdl] at hj;omega)) k (hsp k hk)
 have hcp2:∀ (W:World),(∀ x,W.cell? x=W1.cell? x)->(∀ x,W.frozen? x=W1.frozen? x)->∀ ty dc,(Builtin.copy_ #[166,166] ty #[.slice (some ⟨g,i*2,none⟩) (l.length+1 - i) dc,.slice (some ⟨vb,0,none⟩) 1 1]).run Tryz.prog W=.ok (goInt (Nat.min 1 (l.length+1 - i))) (W.setCells g (i*2) (zAi d)):=fun W hWc hWf ty dc=>
  zHa W _ _ ty 170 g (i*2) _ dc ⟨vb,0,none⟩ 1 1 2 (zAi d) Tryz.underlying166 hsz (by simp only [Nat.min_def,zAi];split <;> simp <;> omega)
   (fun j v hj=>by
    rw [Go.WideShapes.add_plain,hWc,hW1,World.cell?_setCells_out g _ _ _ _ (fun h _=>absurd h hne),Nat.zero_add]
    exact hvs j v hj)
   (fun j hj=>by rw [hWc];exact hsp1 _ (by simp [zAi] at hj;omega)) (fun j hj=>by rw [hWf,hW1,World.frozen?_setCells];exact hfz _) (fun u hu=>zEc [d] u (by rw [zFj];exact hu))
 have HEND:Hid (∀ W:World,Blk W g (zKr cur.toList ((i+1)*2) ((zAe l).drop (i*2))) 170->Mod (zAc g) w W->yIa w B (.slice (some ⟨g,0,none⟩) l.length cap) l i d (.returned (.slice (some ⟨g,0,none⟩) (l.length+1) cap)) (W.setCells g (i*2) (zAi d))):=fun W hW hM=>by
  have hB2:=hW.setCellsQ (zAi d) (i*2)
  have hl1:(i+1)*2+((zAe l).drop (i*2)).length<=cur.toList.length:=by rw [hdl];simp;omega
  have e1:=zNz ((zAe l).drop (i*2)) cur.toList ((i+1)*2) hl1
  have hl2:(zKr cur.toList ((i+1)*2) ((zAe l).drop (i*2))).length=cap*2:=by
   rw [e1];simp;rw [hdl,hcs] at *;omega
  have e2:=zNz (zAi d) _ (i*2) (by rw [hl2];simp [zAi];omega:i*2+(zAi d).length<=(zKr cur.toList ((i+1)*2) ((zAe l).drop (i*2))).length)
  refine ⟨_,rfl,⟨?_,.inr ⟨g,cap,(zKr (zKr cur.toList ((i+1)*2) ((zAe l).drop (i*2))) (i*2) (zAi d)).toArray,rfl,hBg,?_,hroom,hcm,?_,?_⟩⟩,?_,.inl rfl⟩
  ·rw [zBl];simp;omega
  ·simpa [Blk] using hB2
  ·rw [e2];simp [hl2,zAi];omega
  ·rw [zPx,e2,e1]
   have t1:(cur.toList.take ((i+1)*2)++(zAe l).drop (i*2)++cur.toList.drop ((i+1)*2+((zAe l).drop (i*2)).length)).take (i*2)=(zAe l).take (i*2):=by
    rw [List.append_assoc,List.take_append_of_le_length (by simp;omega),List.take_take,<-hct,List.take_take]
    congr 1
    simp only [Nat.min_def];split <;> split <;> omega
   have t2:(cur.toList.take ((i+1)*2)++(zAe l).drop (i*2)++cur.toList.drop ((i+1)*2+((zAe l).drop (i*2)).length)).drop (i*2+(zAi d).length)=(zAe l).drop (i*2)++cur.toList.drop ((i+1)*2+((zAe l).drop (i*2)).length):=by
    rw [List.append_assoc,List.drop_append_of_le_length (by simp [zAi];omega),List.drop_eq_nil_of_le (by simp [zAi];omega),List.nil_append]
   rw [t1,t2]
   have hlen3:((zAe l).take (i*2)++zAi d++(zAe l).drop (i*2)).length=(l.length+1)*2:=by simp [zAi,hlen];omega
   show (((zAe l).take (i*2)++zAi d++((zAe l).drop (i*2)++_))).take _=_
   rw [<-List.append_assoc,List.take_append_of_le_length (by rw [hlen3];exact Nat.le_refl _),List.take_of_length_le (by rw [hlen3];exact Nat.le_refl _)]
  ·exact (hM.trans (Mod.setCellsQ _ _ _)).mono (fun b _ e=>by simp only [zAc] at e;rw [e];rfl)
 have HW1:Hid (Blk W1 g (zKr cur.toList ((i+1)*2) ((zAe l).drop (i*2))) 170/\Mod (zAc g) w W1):=by
  rw [hW1]
  exact ⟨Blk.setCellsQ _ _ (hcur.mod ((Mod.refl zAb w).drew) id),((Mod.refl _ w).drew).trans (Mod.setCellsQ _ _ _)⟩
 have hz2:¬ ((i:Int)=(l.length:Int)):=by omega
 have hc63:cap<=9223372036854775807:=by unfold maxLen at hcm;omega
 have hw1:IntKind.i64.wrap ((i:Int)+1)=(i:Int)+1:=by rw [IntKind.wrap_i64];omega
 have htn:((i:Int)+1).toNat=i+1:=by omega
 have hb1:(0:Int)<=(i:Int)+1:=by omega
 have hin:i<=l.length:=by omega
 have hb5:(i:Int)+1<=(l.length:Int)+1:=by omega
 have mixed:Tryz.prog.follows Departure.mixedOrders=true:=by kernel_rfl
 have hb2:¬ (cap=i+1):=by omega
 have hb3:(i:Int)<=(l.length:Int)+1:=by omega
 have hb4:¬ (cap=i):=by omega
 clear hW1 hsp1 hvs hdl hsrc hfz hsp hcell hlen hct hcs hcur hrow hvb hsz
 go_enter Tryz.func149,Tryz.ntmps149
 go_wp2_with (simp only [hov])
 go_region_law_o (refine zNy rfl _ _ 166 166 rfl _ _ (by simp [Act.eval,Act.put]) (by simp [Act.eval,Act.put]) (hcp1 _ _ _) ?_)
 go_wp2_with (at_builtin;refine wpList_copy_atQ _ rfl _ _ 166 166 rfl _ _ rfl rfl (hcp2 _ (fun _=>rfl) (fun _=>rfl) _ _) ?_)
 go_ret
 exact HEND.out _ (HW1.out.1) (HW1.out.2)
theorem yAa(B g cap:Nat)(l:List ClmD)(i:Nat)(d:ClmD)(vb:Nat)(w:World)(hrow:w.ownsRow B 170 2 (.slice (some ⟨g,0,none⟩) l.length cap) l.length (zAe l))(hi:i<l.length)(hnc:l.length<=cap)(hroom:cap<l.length+1)(hvb:Blk w vb (zAi d) 170)(hl:l.length<=1000)(hB:B<=w.heap.size) :
  Calls Tryz.prog 149 #[.slice (some ⟨g,0,none⟩) l.length cap,.int .i64 i,.slice (some ⟨vb,0,none⟩) 1 1] w (yIa w B (.slice (some ⟨g,0,none⟩) l.length cap) l i d):=by
 obtain ⟨i0,hi0,hz0,hzs,hzb⟩:=info_parts Tryz.info170
 have hsz:(Tryz.prog.info? 170).map (·.size)=some 2:=by rw [hi0];simp [hzs]
 have hlen:=zBl l
 have hcl:∀ (j:Nat) v,(zAe l)[j]?=some v->w.cell? ⟨g,j,none⟩=some v:=fun j v hj=>by
  have:=hrow.cells (g:=g) rfl j v hj
  rw [Go.WideShapes.add_plain,Nat.zero_add] at this
  exact this
 have hgw:g<w.heap.size:=(zAr hrow (k:=g) rfl).2.1
 have hvw:=hvb.lt
 have hkk:(l.length:Int)+1 - (i:Int)=((l.length+1 - i:Nat):Int):=by omega
 have hik:i+(l.length+1 - i)=l.length+1:=by omega
 have hold:(Builtin.firstCells i0.size i (.slice (some ⟨g,0,none⟩) i cap)).run Tryz.prog w.drew=.ok ((zAe l).take (i*2)).toArray w.drew:=by
  rw [hzs]
  exact run_firstCells_some w.drew 2 i ⟨g,0,none⟩ i cap ((zAe l).take (i*2)) (by rw [List.length_take,hlen];omega) (fun j v hj=>by
   rw [Go.WideShapes.add_plain,Nat.zero_add]
   rw [List.getElem?_take] at hj
   split at hj
   ·exact hcl j v hj
   ·cases hj)
 have hrz:∀ ty,(Builtin.append_ #[166,3] ty #[.slice (some ⟨g,0,none⟩) i cap,.int .i64 ((l.length:Int)+1 - (i:Int))]).run Tryz.prog w =
   .ok (.slice (some ⟨w.heap.size,0,none⟩) (l.length+1) (grownCap w (l.length+1) cap 170)) (w.drew.alloc (.cells (((zAe l).take (i*2)).toArray++Builtin.zeroCells (Value.agg #[.int .i64 0,.int .i64 0]).cells (l.length+1 - i)++Builtin.zeroCells (Value.agg #[.int .i64 0,.int .i64 0]).cells (grownCap w (l.length+1) cap 170 - (l.length+1))) 170)):=fun ty=>by
  have h:=Lib.run_append_grow_zeros w 166 3 ty 170 i0 _ .i64 .i64 Tryz.underlying166 Tryz.underlying3 hi0 hz0 (some ⟨g,0,none⟩) i cap ((zAe l).take (i*2)) hold (l.length+1 - i) (by omega) (by omega) (by omega) (by omega) (by rw [hzb];omega) (by rw [hzb,hik];exact growslice_fits hroom (by omega))
  rw [hik] at h
  rw [hkk]
  exact h
 obtain ⟨G,hG⟩:∃ G,G=grownCap w (l.length+1) cap 170:=⟨_,rfl⟩
 obtain ⟨Z,hZ⟩:∃ Z:List Value,Z=(Builtin.zeroCells (Value.agg #[.int .i64 0,.int .i64 0]).cells (l.length+1 - i)).toList++(Builtin.zeroCells (Value.agg #[.int .i64 0,.int .i64 0]).cells (G - (l.length+1))).toList:=⟨_,rfl⟩
 have hGn:l.length+1<=G:=by rw [hG];exact grownCap_ge w _ _ _
 have hZl:Z.length=(G - i)*2:=by rw [hZ];simp [Builtin.zeroCells,Value.cells];omega
 obtain ⟨W1,hW1⟩:∃ W1,W1=w.drew.alloc (.cells (((zAe l).take (i*2)).toArray++Builtin.zeroCells (Value.agg #[.int .i64 0,.int .i64 0]).cells (l.length+1 - i)++Builtin.zeroCells (Value.agg #[.int .i64 0,.int .i64 0]).cells (G - (l.length+1))) 170):=⟨_,rfl⟩
 rw [<-hG,<-hW1] at hrz
 have hB1:Blk W1 w.heap.size ((zAe l).take (i*2)++Z) 170:=by
  rw [hW1,hZ]
  have:=heap_alloc_new w.drew (.cells (((zAe l).take (i*2)).toArray++Builtin.zeroCells (Value.agg #[.int .i64 0,.int .i64 0]).cells (l.length+1 - i)++Builtin.zeroCells (Value.agg #[.int .i64 0,.int .i64 0]).cells (G - (l.length+1))) 170)
  have e:∀ (a:List Value) (b c:Array Value),(a++(b.toList++c.toList)).toArray=a.toArray++b++c:=fun a b c=>by apply Array.ext';simp
  unfold Blk
  rw [e]
  exact this
 have hM1:Mod zAb w W1:=by rw [hW1];exact ((Mod.refl zAb w).drew).alloc _
 have hR1:((zAe l).take (i*2)++Z).length=G*2:=by rw [List.length_append,hZl,List.length_take,hlen];omega
 have hN:∀ j,j<G*2->(W1.cell? ⟨w.heap.size,j,none⟩).isSome=true:=fun j hj=>by
  rw [hB1.cell j (List.getElem?_eq_getElem (by omega))];rfl
 obtain ⟨W2,hW2⟩:∃ W2,W2=W1.setCells w.heap.size (i*2) (zAi d):=⟨_,rfl⟩
 have hcpA:∀ ty dc,(Builtin.copy_ #[166,166] ty #[.slice (some ⟨w.heap.size,i*2,none⟩) (l.length+1 - i) dc,.slice (some ⟨vb,0,none⟩) 1 1]).run Tryz.prog W1=.ok (goInt (Nat.min 1 (l.length+1 - i))) W2:=fun ty dc=>by
  rw [hW2]
  exact zHa W1 _ _ ty 170 w.heap.size (i*2) _ dc ⟨vb,0,none⟩ 1 1 2 (zAi d) Tryz.underlying166 hsz (by simp only [Nat.min_def,zAi];split <;> simp <;> omega)
   (fun j v hj=>by rw [Go.WideShapes.add_plain,Nat.zero_add];exact hM1.cell (hvb.cell j hj) id)
   (fun j hj=>hN _ (by simp [zAi] at hj;omega)) (fun j hj=>hB1.frozen _) (fun u hu=>zEc [d] u (by rw [zFj];exact hu))
 have hB2:Blk W2 w.heap.size (zKr ((zAe l).take (i*2)++Z) (i*2) (zAi d)) 170:=by rw [hW2];exact hB1.setCellsQ _ _
 have hM2:Mod zAb w W2:=by rw [hW2];exact hM1.trans' (Mod.setCellsQ _ _ _) (fun b hb e=>by simp only [zAc] at e;omega)
 have e1:=zNz (zAi d) ((zAe l).take (i*2)++Z) (i*2) (by rw [hR1];simp [zAi];omega)
 have hR2:(zKr ((zAe l).take (i*2)++Z) (i*2) (zAi d)).length=G*2:=by
  rw [e1];simp only [List.length_append,List.length_take,List.length_drop] at *;simp only [zAi,List.length_cons,List.length_nil];omega
 have hdl:((zAe l).drop (i*2)).length=(l.length - i)*2:=by rw [List.length_drop,hlen];omega
 have hcpB:∀ ty dc sc,(Builtin.copy_ #[166,166] ty #[.slice (some ⟨w.heap.size,(i+1)*2,none⟩) (l.length - i) dc,.slice (some ⟨g,i*2,none⟩) (l.length - i) sc]).run Tryz.prog W2.drew=.ok (goInt (Nat.min (l.length - i) (l.length - i))) (W2.drew.setCells w.heap.size ((i+1)*2) ((zAe l).drop (i*2))):=fun ty dc sc=>
  zHa W2.drew _ _ ty 170 w.heap.size ((i+1)*2) _ dc ⟨g,i*2,none⟩ _ sc 2 ((zAe l).drop (i*2)) Tryz.underlying166 hsz (by rw [hdl];simp only [Nat.min_def];split <;> omega)
   (fun j v hj=>by
    rw [Go.WideShapes.add_plain]
    rw [List.getElem?_drop] at hj
    exact hM2.cell (hcl _ v hj) id)
   (fun j hj=>by
    have:=hB2.cell ((i+1)*2+j) (List.getElem?_eq_getElem (by omega))
    show (W2.cell? _).isSome=true
    rw [this];rfl)
   (fun j hj=>hB2.frozen _) (fun v hv=>zEc l v (List.mem_of_mem_drop hv))
 have HEND:Hid (yIa w B (.slice (some ⟨g,0,none⟩) l.length cap) l i d (.returned (.slice (some ⟨w.heap.size,0,none⟩) (l.length+1) G)) (W2.drew.setCells w.heap.size ((i+1)*2) ((zAe l).drop (i*2)))):=by
  have hB3:Blk (W2.drew.setCells w.heap.size ((i+1)*2) ((zAe l).drop (i*2))) w.heap.size _ 170:=Blk.setCellsQ ((zAe l).drop (i*2)) ((i+1)*2) (hB2.mod ((Mod.refl zAb W2).drew) id)
  have e2:=zNz ((zAe l).drop (i*2)) (zKr ((zAe l).take (i*2)++Z) (i*2) (zAi d)) ((i+1)*2) (by rw [hR2,hdl];omega)
  have hGm:G<=maxLen:=by rw [hG];exact grownCap_le_maxLen w (l.length+1) cap 170 (by unfold maxLen;omega)
  refine ⟨_,rfl,⟨by rw [zBl];simp;omega,.inr ⟨w.heap.size,G,(zKr (zKr ((zAe l).take (i*2)++Z) (i*2) (zAi d)) ((i+1)*2) ((zAe l).drop (i*2))).toArray,rfl,hB,hB3,hGn,hGm,?_,?_⟩⟩,(hM2.drew.trans' (Mod.setCellsQ _ _ _) (fun b hb e=>by simp only [zAc] at e;omega)).mono (fun _ _ e=>e.elim),.inr (fun b hb=>by simp [Value.ownBlock] at hb;omega)⟩
  ·rw [e2]
   simp only [List.size_toArray,List.length_append,List.length_take,List.length_drop,hR2,hlen]
   omega
  ·rw [zPx]
   show List.take _ (zKr _ _ _)=_
   rw [e2,e1]
   have hlt:((zAe l).take (i*2)).length=i*2:=by rw [List.length_take,hlen];omega
   have hx:(((zAe l).take (i*2)++Z).take (i*2)++zAi d++((zAe l).take (i*2)++Z).drop (i*2+(zAi d).length)).take ((i+1)*2)=(zAe l).take (i*2)++zAi d:=by
    rw [List.take_append_of_le_length (by simp [zAi,hlt];omega),List.take_of_length_le (by simp [zAi,hlt];omega),List.take_append_of_le_length (by omega),List.take_of_length_le (by omega)]
   rw [hx,List.take_append_of_le_length (by simp only [List.length_append,hlt,hdl,zAi,List.length_cons,List.length_nil];omega),List.take_of_length_le (by simp only [List.length_append,hlt,hdl,zAi,List.length_cons,List.length_nil];omega)]
 have hz2:¬ ((i:Int)=(l.length:Int)):=by omega
 have hz3:(cap:Int)<(l.length:Int)+1:=by omega
 have hG63:G<=9223372036854775807:=by
  have:=grownCap_le_maxLen w (l.length+1) cap 170 (by unfold maxLen;omega)
  rw [<-hG] at this
  unfold maxLen at this
  omega
 have hw1:IntKind.i64.wrap ((i:Int)+1)=(i:Int)+1:=by rw [IntKind.wrap_i64];omega
 have htn:((i:Int)+1).toNat=i+1:=by omega
 have hb1:(0:Int)<=(i:Int)+1:=by omega
 have hin:i<=l.length:=by omega
 have hb5:(i:Int)+1<=(l.length:Int)+1:=by omega
 have mixed:Tryz.prog.follows Departure.mixedOrders=true:=by kernel_rfl
 have hGi:¬ (G=i):=by omega
 have hGim:¬ (G=i+1):=by omega
 have hci:¬ (cap=i):=by omega
 clear hkk hik hold hG hW1 hW2 hB1 hM1 hR1 hN hB2 hM2 e1 hR2 hdl hZ hZl hcl hrow hvb hsz hlen
 go_enter Tryz.func149,Tryz.ntmps149
 go_wp2_with (first
  | (at_builtin;refine Lib.wpList_append_run _ rfl _ _ _ _ rfl _ _ rfl rfl _ _ (hrz _) ?_)
  | (at_builtin;refine wpList_copy_atQ _ rfl _ _ 166 166 rfl _ _ rfl rfl (hcpA _ _) ?_))
 go_region_law_o (refine zNy rfl _ _ 166 166 rfl (.slice (some ⟨w.heap.size,(i+1)*2,none⟩) (l.length - i) (G - (i+1))) (.slice (some ⟨g,i*2,none⟩) (l.length - i) (cap - i)) (by simp [Act.eval,Act.put]) (by simp [Act.eval,Act.put]) (hcpB _ (G - (i+1)) (cap - i)) ?_)
 go_wp2_with fail
 go_ret
 exact HEND.out
theorem yCx(B:Nat)(v:Value)(l:List ClmD)(i:Nat)(d:ClmD)(vb:Nat)(w:World)(hrow:w.ownsRow B 170 2 v l.length (zAe l))(hi:i<=l.length)(hvb:Blk w vb (zAi d) 170)(hne:v.ownBlock≠some vb)(hl:l.length<=1000)(hB:B<=w.heap.size) :
  Calls Tryz.prog 149 #[v,.int .i64 i,.slice (some ⟨vb,0,none⟩) 1 1] w (yIa w B v l i d):=by
 by_cases h1:i=l.length
 ·subst h1
  exact yCw B v l d vb w hrow hvb hl hB
 ·have hcap:∃ g cap,v=.slice (some ⟨g,0,none⟩) l.length cap/\l.length<=cap:=by
   rcases hrow.2 with ⟨rfl,h0⟩ | ⟨g,cap,cur,rfl,_,_,h1,h2,_⟩
   ·omega
   ·exact ⟨g,cap,rfl,h1⟩
  obtain ⟨g,cap,rfl,hc⟩:=hcap
  by_cases h2:l.length+1<=cap
  ·exact zXq B g cap l i d vb w hrow (by omega) h2 hvb (fun e=>hne (by rw [e];rfl)) hl hB
  ·exact yAa B g cap l i d vb w hrow (by omega) hc (by omega) hvb hl hB
end Go.Proofs.YtmaiggbnceejiaaGreatDoor
