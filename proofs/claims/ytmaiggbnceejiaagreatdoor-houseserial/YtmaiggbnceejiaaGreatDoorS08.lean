import Derived.Test.YtmaiggbnceejiaaGreatDoorS07
import Derived.Lib.Overlaps
import Derived.Lib.AppendZeros
import Derived.Lib.AppendZerosOnto
import Derived.Laws.NewBlocks
import Derived.Shelf.RegionOpenPlain
import Derived.Lib.SliceRun
set_option linter.unusedVariables false
set_option maxRecDepth 100000
set_option maxHeartbeats 16000000
namespace Go.Proofs.YtmaiggbnceejiaaGreatDoor
open Go.RowKit Go.Lib Go.Maps Go.Shelf
def sR(cs:List Value)(o:Nat):List Value->List Value
 | []=>cs
 | v :: r=>sR (cs.set o v) (o+1) r
theorem Lx:∀ (vs cs:List Value) (o:Nat),o+vs.length<=cs.length->sR cs o vs=cs.take o++vs++cs.drop (o+vs.length)
 | [],cs,o,h=>by simp [sR]
 | v :: r,cs,o,h=>by
  simp only [aW] at h;have hl:o<cs.length:=by omega
  rw [sR,Lx r (cs.set o v) (o+1) (by rw [ag];omega)];have e1:(cs.set o v).take (o+1)=cs.take o++[v]:=by
   rw [au (by rw [ag];exact hl),List.take_set_of_le (aF _),List.getElem_set_self]
  have e2:(cs.set o v).drop (o+1+r.length)=cs.drop (o+(v :: r).length):=by
   rw [List.drop_set_of_lt (by omega),aW,show o+1+r.length=o+(r.length+1) by omega]
  rw [e1,e2];simp
theorem dg.gC{g:Nat}{t:TypeId}:∀ (vs:List Value) (o:Nat) {w:World} {cs:List Value},dg w g cs t->dg (w.setCells g o vs) g (sR cs o vs) t
 | [],o,w,cs,h=>h
 | v :: r,o,w,cs,h=>by
  rw [World.setCells,sR];exact dg.gC r (o+1) (h.set o v)
theorem Mod.gC{g:Nat}:∀ (vs:List Value) (o:Nat) (w:World),Mod (eA g) w (w.setCells g o vs)
 | [],o,w=>Mod.refl _ _
 | v :: r,o,w=>by
  rw [World.setCells];exact (Mod.dt g o v).trans (Mod.gC r (o+1) _)
theorem Rl(w:World)(dT sT ty elem:TypeId)(b o dLen dCap:Nat)(a:Addr)(sLen sCap sz:Nat)(cs:List Value)
  (hu:Tryz.prog.underlying dT=some (.slice elem)) (hs:(Tryz.prog.info? elem).map (·.size)=some sz) (hn:cs.length=Nat.min sLen dLen*sz)
  (hsrc:∀ j v,cs[j]?=some v->w.cell? (a.add j)=some v) (hc:∀ j,j<cs.length->(w.cell? ⟨b,o+j,none⟩).isSome=true) (hf:∀ j,j<cs.length->w.frozen? ⟨b,o+j,none⟩=false) (h1:∀ v∈cs,v.oneCell'=true) :
  (Builtin.copy_ #[dT,sT] ty #[.slice (some ⟨b,o,none⟩) dLen dCap,.slice (some a) sLen sCap]).run Tryz.prog w=.ok (goInt (Nat.min sLen dLen)) (w.setCells b o cs):=by
 have hl:=run_loadCells_list (P:=Tryz.prog) w a cs hsrc;have hst:=run_storeCells_cells (P:=Tryz.prog) b o cs 0 w (by simpa using hc) (by simpa using hf) h1
 cases hq:Tryz.prog.info? elem with
 | none=>simp [hq] at hs
 | some i=>
  have hi:i.size=sz:=by simpa [hq] using hs
  simp [Builtin.copy_,run_underlying hu,Builtin.lenOf,Builtin.firstCells,sizeOf,typeInfo,hq,hi,<-hn,hl,hst]
theorem zPd{ops:Array Oper}{o:Oper}{a:Act}{w:World}{K:Act->World->Prop}{Q:Exit->Act->World->Prop}{E:Prop}
  (hg:o.guard=none) (d x:Operand) (dT sT:TypeId) (hop:o.op=Op.call { callee:=Callee.builtin Builtin.copy,args:=#[d,x],argTypes:=#[dT,sT] })
  (v u:Value) (hd:a.eval d=v) (hx:a.eval x=u) {v':Value} {w':World} (hr:(Builtin.copy_ #[dT,sT] o.type #[v,u]).run Tryz.prog w=.ok v' w') (hK:K (a.put o.dst v') w') :
  if Region.wanted o (yielded ops a.tmps)=true then Oper.wp Tryz.prog o a w K Q else E:=by
 have hw:Region.wanted o (yielded ops a.tmps)=true:=by simp [Region.wanted,hg]
 rw [aP hw];unfold Oper.wp;simp [execOp,hop,resolve,invoke,builtin,hd,hx,hr,Result.andThen];exact hK
def KN(w:World)(B:Nat)(v:Value)(l:List de)(i:Nat)(d:de)(e:Ending)(w':World):Prop:=
 ∃ u,e=.returned u/\w'.ownsRow B 170 2 u (l.length+1) (ej (l.take i++d :: l.drop i))/\Mod (fun b=>v.ownBlock=some b) w w'/\(u.ownBlock=v.ownBlock\/∀ b,u.ownBlock=some b->w.heap.size<=b)
theorem UM(l:List de)(i:Nat)(d:de):ej (l.take i++d :: l.drop i)=(ej l).take (i*2)++fS d++(ej l).drop (i*2):=by
 rw [MW,ej,zOe,zOf];simp
theorem yFr(B:Nat)(v:Value)(l:List de)(d:de)(vb:Nat)(w:World)(hrow:w.ownsRow B 170 2 v l.length (ej l))(hvb:dg w vb (fS d) 170)(hl:l.length<=1000)(hB:B<=w.heap.size) :
  Calls Tryz.prog 149 #[v,.int .i64 l.length,.slice (some ⟨vb,0,none⟩) 1 1] w (KN w B v l l.length d):=by
 obtain ⟨i0,hi,hz0,hz1,hz2⟩:=info_parts Tryz.nK;have hcap:∃ a cap,v=.slice a l.length cap/\l.length<=cap/\cap<=maxLen:=by
  rcases hrow.2 with ⟨rfl,h0⟩ | ⟨g,cap,cur,rfl,_,_,h1,h2,_⟩
  ·exact ⟨none,0,by rw [h0],by omega,aT _⟩
  ·exact ⟨_,cap,rfl,h1,h2⟩
 obtain ⟨a,cap,rfl,hc1,hc2⟩:=hcap;have HR:=dV hrow;have HN:Hid (∀ (j:Nat) u,(fS d)[j]?=some u->w.cell? ((⟨vb,0,none⟩:Addr).add j)=some u):=fun j u hu=>by
  rw [Go.WideShapes.add_plain,aX];exact hvb.cell j hu
 have HO:Hid (∀ u∈fS d,u.oneCell'=true):=fun u hu=>GZ [d] u (by rw [MY];exact hu);have iJ:l.length+1<=maxLen:=by unfold maxLen;omega
 have iK:(l.length+1)*16<=140737488355328:=by omega
 unfold maxLen at hc2;clear hrow hvb;go_enter Tryz.func149,Tryz.ntmps149;go_wp2_with (first
  | (at_builtin;refine wpList_append_own_at _ rfl _ _ 166 rfl B 170 i0 _ 2 16 Tryz.underlying166 hi hz0 hz1 hz2 rfl (by omega) _ _ _ rfl HR.out ⟨vb,0,none⟩ 1 1 (fS d) rfl rfl HN.out HO.out iJ iK hB ?_)
  | fail)
 all_goals
  intro v9 w9 mV lN _ tG;have yP:Hid (Mod (fun b=>(Value.slice a l.length cap).ownBlock=some b) w w9):=(Mod.refl _ w).grown lN (fun x hx _=>by cases a <;> first | exact hx | cases hx);have HW:=dV mV;have HL:=dV tG;clear mV lN tG;go_wp2_with fail;go_ret;refine ⟨v9,rfl,?_,yP.out,HL.out.imp (fun e=>e.trans (by cases a <;> rfl)) (fun e b hb=>by rw [e] at hb;simp at hb;omega)⟩;rw [UM,bL (by rw [wH];exact aF _),dC (by rw [wH];exact aF _),cW];exact HW.out
theorem zRl(b:Nat)(vs:List Value)(o:Nat)(w:World)(h:∀ j,j<vs.length->(w.cell? ⟨b,o+j,none⟩).isSome=true)(k:Nat)(hk:(w.cell? ⟨b,k,none⟩).isSome=true):((w.setCells b o vs).cell? ⟨b,k,none⟩).isSome=true:=by
 by_cases hin:o<=k/\k<o+vs.length
 ·have:=World.cell?_setCells_in b vs o w h (k - o) (by omega);rw [show o+(k - o)=k by omega] at this;rw [this];rfl
 ·rw [World.cell?_setCells_out b vs o w ⟨b,k,none⟩ (fun _ _=>by show k<o\/o+vs.length<=k;omega)];exact hk
theorem yRb:∀ w,(Go.sizeOf 170).run Tryz.prog w=.ok 2 w:=fun w=>by kernel_rfl
theorem zZt(B g cap:Nat)(l:List de)(i:Nat)(d:de)(vb:Nat)(w:World)(hrow:w.ownsRow B 170 2 (.slice (some ⟨g,0,none⟩) l.length cap) l.length (ej l))(hi:i<l.length)(hroom:l.length+1<=cap)(hvb:dg w vb (fS d) 170)(hne:vb≠g)(hl:l.length<=1000)(hB:B<=w.heap.size) :
  Calls Tryz.prog 149 #[.slice (some ⟨g,0,none⟩) l.length cap,.int .i64 i,.slice (some ⟨vb,0,none⟩) 1 1] w (KN w B (.slice (some ⟨g,0,none⟩) l.length cap) l i d):=by
 obtain ⟨cur,hBg,fN,hcm,hcs,hct⟩:∃ cur:Array Value,B<=g/\dg w g cur.toList 170/\cap<=maxLen/\cur.size=cap*2/\cur.toList.take (l.length*2)=ej l:=by
  rcases hrow.2 with ⟨e,_⟩ | ⟨g',cap',cur,e,q1,q2,q3,q4,q5,q6⟩
  ·cases e
  ·cases e
   exact ⟨cur,q1,by simpa [dg] using q2,q4,q5,q6⟩
 have hsz:(Tryz.prog.info? 170).map (·.size)=some 2:=by
  obtain ⟨i0,hi0,h0,h1,h2⟩:=info_parts Tryz.nK;rw [hi0];simp [h1]
 have hlen:=wH l;have hcell:∀ j v,cur.toList[j]?=some v->w.cell? ⟨g,j,none⟩=some v:=fun j v h=>fN.cell j h;have hsp:∀ j,j<cap*2->(w.cell? ⟨g,j,none⟩).isSome=true:=fun j hj=>by
  rw [hcell j _ (aA (by simp;omega))];rfl
 have hfz:∀ j,w.frozen? ⟨g,j,none⟩=false:=fun j=>fN.frozen j;have hov:∀ lb cb,(callFunc 172 #[.slice (some ⟨vb,0,none⟩) 1 1,.slice (some ⟨g,(i+1)*2,none⟩) lb cb]).run Tryz.prog w=.ok (.value (.bool false)) w:=fun lb cb=>by
  rw [run_callFunc_extern Tryz.func172 (by kernel_rfl) (by kernel_rfl) (by kernel_rfl) (e:=Extern.SlicesOverlaps.overlaps #[166,166] #[4]) (by kernel_rfl),
   Lib.run_overlaps_apart w 166 4 170 Tryz.underlying166 2 yRb ⟨vb,0,none⟩ ⟨g,(i+1)*2,none⟩ 1 1 lb cb hne 170 170 2 (cap*2) (by have:=hvb;unfold dg at this;simp [World.shape?,this,fS]) (by have:=fN;unfold dg at this;simp [World.shape?,this,hcs]) (by omega) (hvb.frozen 0) (hvb.frozen 2)]
  rfl
 have hsrc:∀ j v,((ej l).drop (i*2))[j]?=some v->w.cell? ⟨g,i*2+j,none⟩=some v:=fun j v hj=>by
  rw [cz,<-hct,cy] at hj;split at hj
  ·exact hcell _ v hj
  ·cases hj
 have xz:((ej l).drop (i*2)).length=(l.length - i)*2:=by rw [bO,hlen];omega
 obtain ⟨W1,hW1⟩:∃ W1,W1=w.drew.setCells g ((i+1)*2) ((ej l).drop (i*2)):=⟨_,rfl⟩;have YE:∀ ty dc sc,(Builtin.copy_ #[166,166] ty #[.slice (some ⟨g,(i+1)*2,none⟩) (l.length - i) dc,.slice (some ⟨g,i*2,none⟩) (l.length+1 - i) sc]).run Tryz.prog w.drew=.ok (goInt (Nat.min (l.length+1 - i) (l.length - i))) W1:=fun ty dc sc=>by
  rw [hW1];exact Rl w.drew _ _ ty 170 g ((i+1)*2) _ dc ⟨g,i*2,none⟩ _ sc 2 ((ej l).drop (i*2)) Tryz.underlying166 hsz (by rw [xz];simp only [Nat.min_def];split <;> omega)
   (fun j v hj=>by rw [Go.WideShapes.add_plain];exact hsrc j v hj)
   (fun j hj=>hsp _ (by omega)) (fun j hj=>hfz _) (fun v hv=>GZ l v (cQ hv))
 have hvs:∀ (j:Nat) u,(fS d)[j]?=some u->w.cell? ⟨vb,j,none⟩=some u:=fun j u hu=>hvb.cell j hu;have Ni:∀ k,k<cap*2->(W1.cell? ⟨g,k,none⟩).isSome=true:=fun k hk=>by
  rw [hW1];exact zRl g ((ej l).drop (i*2)) ((i+1)*2) w.drew (fun j hj=>hsp _ (by rw [xz] at hj;omega)) k (hsp k hk)
 have YD:∀ (W:World),(∀ x,W.cell? x=W1.cell? x)->(∀ x,W.frozen? x=W1.frozen? x)->∀ ty dc,(Builtin.copy_ #[166,166] ty #[.slice (some ⟨g,i*2,none⟩) (l.length+1 - i) dc,.slice (some ⟨vb,0,none⟩) 1 1]).run Tryz.prog W=.ok (goInt (Nat.min 1 (l.length+1 - i))) (W.setCells g (i*2) (fS d)):=fun W hWc hWf ty dc=>
  Rl W _ _ ty 170 g (i*2) _ dc ⟨vb,0,none⟩ 1 1 2 (fS d) Tryz.underlying166 hsz (by simp only [Nat.min_def,fS];split <;> simp <;> omega)
   (fun j v hj=>by
    rw [Go.WideShapes.add_plain,hWc,hW1,World.cell?_setCells_out g _ _ _ _ (fun h _=>absurd h hne),aX];exact hvs j v hj)
   (fun j hj=>by rw [hWc];exact Ni _ (by simp [fS] at hj;omega)) (fun j hj=>by rw [hWf,hW1,World.frozen?_setCells];exact hfz _) (fun u hu=>GZ [d] u (by rw [MY];exact hu))
 have yT:Hid (∀ W:World,dg W g (sR cur.toList ((i+1)*2) ((ej l).drop (i*2))) 170->Mod (eA g) w W->KN w B (.slice (some ⟨g,0,none⟩) l.length cap) l i d (.returned (.slice (some ⟨g,0,none⟩) (l.length+1) cap)) (W.setCells g (i*2) (fS d))):=fun W hW hM=>by
  have gp:=hW.gC (fS d) (i*2);have oJ:(i+1)*2+((ej l).drop (i*2)).length<=cur.toList.length:=by rw [xz];simp;omega
  have e1:=Lx ((ej l).drop (i*2)) cur.toList ((i+1)*2) oJ;have hl2:(sR cur.toList ((i+1)*2) ((ej l).drop (i*2))).length=cap*2:=by
   rw [e1];simp;rw [xz,hcs] at *;omega
  have e2:=Lx (fS d) _ (i*2) (by rw [hl2];simp [fS];omega:i*2+(fS d).length<=(sR cur.toList ((i+1)*2) ((ej l).drop (i*2))).length);refine ⟨_,rfl,⟨?_,.inr ⟨g,cap,(sR (sR cur.toList ((i+1)*2) ((ej l).drop (i*2))) (i*2) (fS d)).toArray,rfl,hBg,?_,hroom,hcm,?_,?_⟩⟩,?_,.inl rfl⟩
  ·rw [wH];simp;omega
  ·simpa [dg] using gp
  ·rw [e2];simp [hl2,fS];omega
  ·rw [UM,e2,e1];have t1:(cur.toList.take ((i+1)*2)++(ej l).drop (i*2)++cur.toList.drop ((i+1)*2+((ej l).drop (i*2)).length)).take (i*2)=(ej l).take (i*2):=by
    rw [aU,bk (by simp;omega),List.take_take,<-hct,List.take_take];congr 1;simp only [Nat.min_def];split <;> split <;> omega
   have t2:(cur.toList.take ((i+1)*2)++(ej l).drop (i*2)++cur.toList.drop ((i+1)*2+((ej l).drop (i*2)).length)).drop (i*2+(fS d).length)=(ej l).drop (i*2)++cur.toList.drop ((i+1)*2+((ej l).drop (i*2)).length):=by
    rw [aU,List.drop_append_of_le_length (by simp [fS];omega),dC (by simp [fS];omega),aY]
   rw [t1,t2];have FL:((ej l).take (i*2)++fS d++(ej l).drop (i*2)).length=(l.length+1)*2:=by simp [fS,hlen];omega
   show (((ej l).take (i*2)++fS d++((ej l).drop (i*2)++_))).take _=_;rw [<-aU,bk (by rw [FL];exact aF _),bL (by rw [FL];exact aF _)]
  ·exact (hM.trans (Mod.gC _ _ _)).mono (fun b _ e=>by simp only [eA] at e;rw [e];rfl)
 have LL:Hid (dg W1 g (sR cur.toList ((i+1)*2) ((ej l).drop (i*2))) 170/\Mod (eA g) w W1):=by
  rw [hW1];exact ⟨dg.gC _ _ (fN.mod ((Mod.refl dZ w).drew) id),((Mod.refl _ w).drew).trans (Mod.gC _ _ _)⟩
 have hz2:¬ ((i:Int)=(l.length:Int)):=by omega
 have hc63:cap<=9223372036854775807:=by unfold maxLen at hcm;omega
 have hw1:IntKind.i64.wrap ((i:Int)+1)=(i:Int)+1:=by rw [IntKind.wrap_i64];omega
 have htn:((i:Int)+1).toNat=i+1:=by omega
 have hb1:(0:Int)<=(i:Int)+1:=by omega
 have hin:i<=l.length:=by omega
 have nR:(i:Int)+1<=(l.length:Int)+1:=by omega
 have mixed:Tryz.prog.follows Departure.mixedOrders=true:=by kernel_rfl
 have hb2:¬ (cap=i+1):=by omega
 have hb3:(i:Int)<=(l.length:Int)+1:=by omega
 have hb4:¬ (cap=i):=by omega
 clear hW1 Ni hvs xz hsrc hfz hsp hcell hlen hct hcs fN hrow hvb hsz;go_enter Tryz.func149,Tryz.ntmps149;go_wp2_with (simp only [hov])
 go_region_law_o (refine zPd rfl _ _ 166 166 rfl _ _ (by simp [Act.eval,Act.put]) (by simp [Act.eval,Act.put]) (YE _ _ _) ?_)
 go_wp2_with (at_builtin;refine wpList_copy_atQ _ rfl _ _ 166 166 rfl _ _ rfl rfl (YD _ (fun _=>rfl) (fun _=>rfl) _ _) ?_);go_ret;exact yT.out _ (LL.out.1) (LL.out.2)
theorem yCh(B g cap:Nat)(l:List de)(i:Nat)(d:de)(vb:Nat)(w:World)(hrow:w.ownsRow B 170 2 (.slice (some ⟨g,0,none⟩) l.length cap) l.length (ej l))(hi:i<l.length)(hnc:l.length<=cap)(hroom:cap<l.length+1)(hvb:dg w vb (fS d) 170)(hl:l.length<=1000)(hB:B<=w.heap.size) :
  Calls Tryz.prog 149 #[.slice (some ⟨g,0,none⟩) l.length cap,.int .i64 i,.slice (some ⟨vb,0,none⟩) 1 1] w (KN w B (.slice (some ⟨g,0,none⟩) l.length cap) l i d):=by
 obtain ⟨i0,hi0,hz0,hzs,hzb⟩:=info_parts Tryz.nK;have hsz:(Tryz.prog.info? 170).map (·.size)=some 2:=by rw [hi0];simp [hzs]
 have hlen:=wH l;have hcl:∀ (j:Nat) v,(ej l)[j]?=some v->w.cell? ⟨g,j,none⟩=some v:=fun j v hj=>by
  have:=hrow.cells (g:=g) rfl j v hj;rw [Go.WideShapes.add_plain,aX] at this;exact this
 have hgw:g<w.heap.size:=(mT hrow (k:=g) rfl).2.1;have hvw:=hvb.lt;have hkk:(l.length:Int)+1 - (i:Int)=((l.length+1 - i:Nat):Int):=by omega
 have hik:i+(l.length+1 - i)=l.length+1:=by omega
 have hold:(Builtin.firstCells i0.size i (.slice (some ⟨g,0,none⟩) i cap)).run Tryz.prog w.drew=.ok ((ej l).take (i*2)).toArray w.drew:=by
  rw [hzs];exact run_firstCells_some w.drew 2 i ⟨g,0,none⟩ i cap ((ej l).take (i*2)) (by rw [aZ,hlen];omega) (fun j v hj=>by
   rw [Go.WideShapes.add_plain,aX];rw [cy] at hj;split at hj
   ·exact hcl j v hj
   ·cases hj)
 have hrz:∀ ty,(Builtin.append_ #[166,3] ty #[.slice (some ⟨g,0,none⟩) i cap,.int .i64 ((l.length:Int)+1 - (i:Int))]).run Tryz.prog w =
   .ok (.slice (some ⟨w.heap.size,0,none⟩) (l.length+1) (grownCap w (l.length+1) cap 170)) (w.drew.alloc (.cells (((ej l).take (i*2)).toArray++Builtin.zeroCells (Value.agg #[.int .i64 0,.int .i64 0]).cells (l.length+1 - i)++Builtin.zeroCells (Value.agg #[.int .i64 0,.int .i64 0]).cells (grownCap w (l.length+1) cap 170 - (l.length+1))) 170)):=fun ty=>by
  have h:=Lib.run_append_grow_zeros w 166 3 ty 170 i0 _ .i64 .i64 Tryz.underlying166 Tryz.underlying3 hi0 hz0 (some ⟨g,0,none⟩) i cap ((ej l).take (i*2)) hold (l.length+1 - i) (by omega) (by omega) (by omega) (by omega) (by rw [hzb];omega) (by rw [hzb,hik];exact growslice_fits hroom (by omega));rw [hik] at h;rw [hkk];exact h
 obtain ⟨G,hG⟩:∃ G,G=grownCap w (l.length+1) cap 170:=⟨_,rfl⟩;obtain ⟨Z,hZ⟩:∃ Z:List Value,Z=(Builtin.zeroCells (Value.agg #[.int .i64 0,.int .i64 0]).cells (l.length+1 - i)).toList++(Builtin.zeroCells (Value.agg #[.int .i64 0,.int .i64 0]).cells (G - (l.length+1))).toList:=⟨_,rfl⟩;have hGn:l.length+1<=G:=by rw [hG];exact grownCap_ge w _ _ _
 have hZl:Z.length=(G - i)*2:=by rw [hZ];simp [Builtin.zeroCells,Value.cells];omega
 obtain ⟨W1,hW1⟩:∃ W1,W1=w.drew.alloc (.cells (((ej l).take (i*2)).toArray++Builtin.zeroCells (Value.agg #[.int .i64 0,.int .i64 0]).cells (l.length+1 - i)++Builtin.zeroCells (Value.agg #[.int .i64 0,.int .i64 0]).cells (G - (l.length+1))) 170):=⟨_,rfl⟩;rw [<-hG,<-hW1] at hrz;have ff:dg W1 w.heap.size ((ej l).take (i*2)++Z) 170:=by
  rw [hW1,hZ];have:=heap_alloc_new w.drew (.cells (((ej l).take (i*2)).toArray++Builtin.zeroCells (Value.agg #[.int .i64 0,.int .i64 0]).cells (l.length+1 - i)++Builtin.zeroCells (Value.agg #[.int .i64 0,.int .i64 0]).cells (G - (l.length+1))) 170);have e:∀ (a:List Value) (b c:Array Value),(a++(b.toList++c.toList)).toArray=a.toArray++b++c:=fun a b c=>by apply Array.ext';simp
  unfold dg;rw [e];exact this
 have nT:Mod dZ w W1:=by rw [hW1];exact ((Mod.refl dZ w).drew).alloc _
 have Il:((ej l).take (i*2)++Z).length=G*2:=by rw [aD,hZl,aZ,hlen];omega
 have hN:∀ j,j<G*2->(W1.cell? ⟨w.heap.size,j,none⟩).isSome=true:=fun j hj=>by
  rw [ff.cell j (aA (by omega))];rfl
 obtain ⟨W2,hW2⟩:∃ W2,W2=W1.setCells w.heap.size (i*2) (fS d):=⟨_,rfl⟩;have YC:∀ ty dc,(Builtin.copy_ #[166,166] ty #[.slice (some ⟨w.heap.size,i*2,none⟩) (l.length+1 - i) dc,.slice (some ⟨vb,0,none⟩) 1 1]).run Tryz.prog W1=.ok (goInt (Nat.min 1 (l.length+1 - i))) W2:=fun ty dc=>by
  rw [hW2];exact Rl W1 _ _ ty 170 w.heap.size (i*2) _ dc ⟨vb,0,none⟩ 1 1 2 (fS d) Tryz.underlying166 hsz (by simp only [Nat.min_def,fS];split <;> simp <;> omega)
   (fun j v hj=>by rw [Go.WideShapes.add_plain,aX];exact nT.cell (hvb.cell j hj) id)
   (fun j hj=>hN _ (by simp [fS] at hj;omega)) (fun j hj=>ff.frozen _) (fun u hu=>GZ [d] u (by rw [MY];exact hu))
 have gp:dg W2 w.heap.size (sR ((ej l).take (i*2)++Z) (i*2) (fS d)) 170:=by rw [hW2];exact ff.gC _ _
 have lP:Mod dZ w W2:=by rw [hW2];exact nT.trans' (Mod.gC _ _ _) (fun b hb e=>by simp only [eA] at e;omega)
 have e1:=Lx (fS d) ((ej l).take (i*2)++Z) (i*2) (by rw [Il];simp [fS];omega);have An:(sR ((ej l).take (i*2)++Z) (i*2) (fS d)).length=G*2:=by
  rw [e1];simp only [aD,aZ,bO] at *;simp only [fS,aW,az];omega
 have xz:((ej l).drop (i*2)).length=(l.length - i)*2:=by rw [bO,hlen];omega
 have YB:∀ ty dc sc,(Builtin.copy_ #[166,166] ty #[.slice (some ⟨w.heap.size,(i+1)*2,none⟩) (l.length - i) dc,.slice (some ⟨g,i*2,none⟩) (l.length - i) sc]).run Tryz.prog W2.drew=.ok (goInt (Nat.min (l.length - i) (l.length - i))) (W2.drew.setCells w.heap.size ((i+1)*2) ((ej l).drop (i*2))):=fun ty dc sc=>
  Rl W2.drew _ _ ty 170 w.heap.size ((i+1)*2) _ dc ⟨g,i*2,none⟩ _ sc 2 ((ej l).drop (i*2)) Tryz.underlying166 hsz (by rw [xz];simp only [Nat.min_def];split <;> omega)
   (fun j v hj=>by
    rw [Go.WideShapes.add_plain];rw [cz] at hj;exact lP.cell (hcl _ v hj) id)
   (fun j hj=>by
    have:=gp.cell ((i+1)*2+j) (aA (by omega));show (W2.cell? _).isSome=true;rw [this];rfl)
   (fun j hj=>gp.frozen _) (fun v hv=>GZ l v (cQ hv))
 have yT:Hid (KN w B (.slice (some ⟨g,0,none⟩) l.length cap) l i d (.returned (.slice (some ⟨w.heap.size,0,none⟩) (l.length+1) G)) (W2.drew.setCells w.heap.size ((i+1)*2) ((ej l).drop (i*2)))):=by
  have lQ:dg (W2.drew.setCells w.heap.size ((i+1)*2) ((ej l).drop (i*2))) w.heap.size _ 170:=dg.gC ((ej l).drop (i*2)) ((i+1)*2) (gp.mod ((Mod.refl dZ W2).drew) id);have e2:=Lx ((ej l).drop (i*2)) (sR ((ej l).take (i*2)++Z) (i*2) (fS d)) ((i+1)*2) (by rw [An,xz];omega);have hGm:G<=maxLen:=by rw [hG];exact grownCap_le_maxLen w (l.length+1) cap 170 (by unfold maxLen;omega)
  refine ⟨_,rfl,⟨by rw [wH];simp;omega,.inr ⟨w.heap.size,G,(sR (sR ((ej l).take (i*2)++Z) (i*2) (fS d)) ((i+1)*2) ((ej l).drop (i*2))).toArray,rfl,hB,lQ,hGn,hGm,?_,?_⟩⟩,(lP.drew.trans' (Mod.gC _ _ _) (fun b hb e=>by simp only [eA] at e;omega)).mono (fun _ _ e=>e.elim),.inr (fun b hb=>by simp [Value.ownBlock] at hb;omega)⟩
  ·rw [e2];simp only [bC,aD,aZ,bO,An,hlen];omega
  ·rw [UM];show List.take _ (sR _ _ _)=_;rw [e2,e1];have hlt:((ej l).take (i*2)).length=i*2:=by rw [aZ,hlen];omega
   have hx:(((ej l).take (i*2)++Z).take (i*2)++fS d++((ej l).take (i*2)++Z).drop (i*2+(fS d).length)).take ((i+1)*2)=(ej l).take (i*2)++fS d:=by
    rw [bk (by simp [fS,hlt];omega),bL (by simp [fS,hlt];omega),bk (by omega),bL (by omega)]
   rw [hx,bk (by simp only [aD,hlt,xz,fS,aW,az];omega),bL (by simp only [aD,hlt,xz,fS,aW,az];omega)]
 have hz2:¬ ((i:Int)=(l.length:Int)):=by omega
 have hz3:(cap:Int)<(l.length:Int)+1:=by omega
 have hG63:G<=9223372036854775807:=by
  have:=grownCap_le_maxLen w (l.length+1) cap 170 (by unfold maxLen;omega);rw [<-hG] at this;unfold maxLen at this;omega
 have hw1:IntKind.i64.wrap ((i:Int)+1)=(i:Int)+1:=by rw [IntKind.wrap_i64];omega
 have htn:((i:Int)+1).toNat=i+1:=by omega
 have hb1:(0:Int)<=(i:Int)+1:=by omega
 have hin:i<=l.length:=by omega
 have nR:(i:Int)+1<=(l.length:Int)+1:=by omega
 have mixed:Tryz.prog.follows Departure.mixedOrders=true:=by kernel_rfl
 have hGi:¬ (G=i):=by omega
 have hGim:¬ (G=i+1):=by omega
 have YG:¬ (cap=i):=by omega
 clear hkk hik hold hG hW1 hW2 ff nT Il hN gp lP e1 An xz hZ hZl hcl hrow hvb hsz hlen;go_enter Tryz.func149,Tryz.ntmps149;go_wp2_with (first
  | (at_builtin;refine Lib.wpList_append_run _ rfl _ _ _ _ rfl _ _ rfl rfl _ _ (hrz _) ?_)
  | (at_builtin;refine wpList_copy_atQ _ rfl _ _ 166 166 rfl _ _ rfl rfl (YC _ _) ?_))
 go_region_law_o (refine zPd rfl _ _ 166 166 rfl (.slice (some ⟨w.heap.size,(i+1)*2,none⟩) (l.length - i) (G - (i+1))) (.slice (some ⟨g,i*2,none⟩) (l.length - i) (cap - i)) (by simp [Act.eval,Act.put]) (by simp [Act.eval,Act.put]) (YB _ (G - (i+1)) (cap - i)) ?_)
 go_wp2_with fail;go_ret;exact yT.out
theorem yFs(B:Nat)(v:Value)(l:List de)(i:Nat)(d:de)(vb:Nat)(w:World)(hrow:w.ownsRow B 170 2 v l.length (ej l))(hi:i<=l.length)(hvb:dg w vb (fS d) 170)(hne:v.ownBlock≠some vb)(hl:l.length<=1000)(hB:B<=w.heap.size) :
  Calls Tryz.prog 149 #[v,.int .i64 i,.slice (some ⟨vb,0,none⟩) 1 1] w (KN w B v l i d):=by
 by_cases h1:i=l.length
 ·subst h1;exact yFr B v l d vb w hrow hvb hl hB
 ·have hcap:∃ g cap,v=.slice (some ⟨g,0,none⟩) l.length cap/\l.length<=cap:=by
   rcases hrow.2 with ⟨rfl,h0⟩ | ⟨g,cap,cur,rfl,_,_,h1,h2,_⟩
   ·omega
   ·exact ⟨g,cap,rfl,h1⟩
  obtain ⟨g,cap,rfl,hc⟩:=hcap;by_cases h2:l.length+1<=cap
  ·exact zZt B g cap l i d vb w hrow (by omega) h2 hvb (fun e=>hne (by rw [e];rfl)) hl hB
  ·exact yCh B g cap l i d vb w hrow (by omega) hc (by omega) hvb hl hB
structure vv(f q:Nat)(p:de->Bool)(w:World):Prop where
 enter:∀ (args:Array Value) (w:World),(callFunc f args).run Tryz.prog w=.ok (.enter f args) w
 ask:∀ (d:de) (wr:World),wr.heap[q]?=w.heap[q]? ->
  Calls Tryz.prog f #[.agg #[.int .i64 d.tx,.int .i64 d.mode],.pointer (some ⟨q,0,none⟩)] wr fun e w'=>e=.returned (.bool (p d))/\Mod dZ wr w'
theorem xL {f : FuncId} {fn : Func} {c : Code} (hf : Tryz.prog.funcs[f]? = some fn) (hname : (fn.name == "runtime.NumGoroutine") = false) (hb : fn.body = some c) (args : Array Value) (w : World) : (callFunc f args).run Tryz.prog w = .ok (.enter f args) w := by
 have h1 : fn.name ≠ "runtime.NumGoroutine" := by simpa using hname
 simp [callFunc,hf,h1,hb]
def sm(p:de->Bool):List de->Option Nat
 | []=>none
 | m :: ms=>if p m then some 0 else (sm p ms).map (·+1)
theorem yDa(p:de->Bool):∀ (ms:List de) (k:Nat),(∀ i m,i<k->ms[i]?=some m->p m=false)->∀ m,ms[k]?=some m->p m=true->sm p ms=some k
 | [],_,_,m,h,_=>by simp at h
 | m' :: ms,0,_,m,h,hs=>by simp at h;subst h;simp [sm,hs]
 | m' :: ms,k+1,hf,m,h,hs=>by
  have h0:=hf 0 m' (by omega) rfl;have:=yDa p ms k (fun i m hi hm=>hf (i+1) m (by omega) (by simpa using hm)) m (by simpa using h) hs;simp [sm,h0,this]
theorem zUw(p:de->Bool):∀ (ms:List de),(∀ (i:Nat) m,ms[i]?=some m->p m=false)->sm p ms=none
 | [],_=>rfl
 | m :: ms,h=>by
  have h0:=h 0 m rfl;simp [sm,h0,zUw p ms (fun i m hm=>h (i+1) m (by simpa using hm))]
theorem zXp(p:de->Bool):∀ (ms:List de),(sm p ms).isSome=ms.any p
 | []=>rfl
 | m :: ms=>by
  unfold sm;by_cases h:p m=true
  ·simp [h]
  ·simp [h,zXp p ms]
def Lf(o:Option Nat):Int:=match o with | none=>-1 | some k=>k
theorem zXf(f q L:Nat)(p:de->Bool)(v:Value)(ms:List de)(w:World)(hv:vw w L v ms)(hA:vv f q p w)(hq:q<w.heap.size)(hf:ms.length<=1000) :
  Calls Tryz.prog 171 #[v,.func (.func f) #[] #[.pointer (some ⟨q,0,none⟩)]] w fun e w'=>e=.returned (.int .i64 (Lf (sm p ms)))/\Mod dZ w w':=by
 have HV:=dV hv;obtain ⟨a,cap,rfl,hc1,hc2⟩:=fV.slice hv;have HA:=dV hA;have hen:=hA.enter;clear hv hA;go_enter Tryz.func171,Tryz.ntmps171;go_wp2_with fail;go_loopw [8] (fun i wr=>∃ k:Nat,k<=ms.length/\i=.int .i64 k/\(∀ i m,i<k->ms[i]?=some m->p m=false)/\Mod dZ w wr) (fun i _=>ms.length - (intOf i).toNat)
 case atStart=>exact ⟨0,aT _,rfl,fun i m h=>by omega,Mod.refl _ _⟩
 case round=>
  obtain ⟨k,hk,rfl,hno,hM⟩:=hrel;have kS:=dV hno;have HM:=dV hM;clear hno hM;by_cases hlt:k<ms.length
  ·obtain ⟨m,hm⟩:∃ m,ms[k]?=some m:=⟨_,aA hlt⟩;obtain ⟨b,off,rfl,_,q0,q1⟩:=HV.out.at hm;have p0:=HM.out.cell q0 id;have p1:=HM.out.cell q1 id;have HC:=dV (HA.out.ask m wr (HM.out.block q hq id));have km:=dV hm;have jd:(k:Int)<(ms.length:Int):=by omega
   have lJ:(0:Int)<=(k:Int):=by omega
   clear hm q0 q1;go_wp2_with fail;refine HC.out.mono ?_;rintro e w5 ⟨rfl,eP⟩;have kv:=dV (HM.out.trans eP);clear HC p0 p1 eP
   cases hs:p m with
   | true=>
    have HF:=dV (yDa p ms k kS.out m km.out hs);go_wp2_with fail;go_ret;exact ⟨by rw [HF.out];rfl,kv.out⟩
   | false=>
    go_wp2_with fail;go_roundw
    case rel=>
     refine ⟨k+1,by omega,by go_num,fun i m' hi' hm'=>?_,kv.out⟩;by_cases hik:i<k
     ·exact kS.out i m' hik hm'
     ·obtain rfl:i=k:=by omega
      rw [km.out] at hm';cases hm';exact hs
    case measure=>simp [intOf];omega
  ·have HF:=dV (zUw p ms (fun i m hm=>kS.out i m (by have:=(aB.1 hm).1;omega) hm));go_wp2_with fail;go_ret;exact ⟨by rw [HF.out];rfl,HM.out⟩
theorem zQf(f q L:Nat)(p:de->Bool)(v:Value)(ms:List de)(w:World)(hv:vw w L v ms)(hA:vv f q p w)(hq:q<w.heap.size)(hf:ms.length<=1000) :
  Calls Tryz.prog 148 #[v,.func (.func f) #[] #[.pointer (some ⟨q,0,none⟩)]] w fun e w'=>e=.returned (.bool (ms.any p))/\Mod dZ w w':=by
 have HI:=dV (zXf f q L p v ms w hv hA hq hf);obtain ⟨a,cap,rfl,hc1,hc2⟩:=fV.slice hv;have GB:Hid (decide (Lf (sm p ms) ≥ 0)=ms.any p):=by
  rw [Hid,<-zXp]
  cases sm p ms with
  | none=>rfl
  | some k=>simp [Lf]
 clear hv hA;go_enter Tryz.func148,Tryz.ntmps148;go_wp2_with fail;refine HI.out.mono ?_;rintro e w1 ⟨rfl,hm⟩;go_wp2_with fail;go_ret;exact ⟨by rw [<-GB.out];rfl,hm⟩
def Th:Array Value:=#[.int .i64 0,.int .i64 0]
def xQ(n:Nat):List Value:=(Builtin.zeroCells Th n).toList
theorem Uf(n:Nat):(xQ n).length=n*2:=by rw [xQ,cK,size_zeroCells];rfl
theorem yIr(n:Nat):∀ v∈xQ n,v.oneCell'=true:=by
 intro v hv;simp only [xQ,Builtin.zeroCells,dM,af] at hv;obtain ⟨i,_,rfl⟩:=hv;have h9:∀ j,j<2->(Th[j]!).oneCell'=true:=by
  intro j hj
  match j,hj with
  | 0,_=>rfl
  | 1,_=>rfl
 exact h9 _ (dH _ (by decide))
theorem yQo(w:World):(zeroValue 170).run Tryz.prog w=.ok (.agg #[.int .i64 0,.int .i64 0]) w:=by kernel_rfl
theorem yJn(w:World)(ty:TypeId)(b o n c:Nat)(hn:0<n)(hc:∀ j,j<n*2->(w.cell? ⟨b,o+j,none⟩).isSome=true)(hf:∀ j,j<n*2->w.frozen? ⟨b,o+j,none⟩=false) :
  (Builtin.clear_ #[166] ty #[.slice (some ⟨b,o,none⟩) n c]).run Tryz.prog w=.ok (.tuple #[]) (w.setCells b o (xQ n)):=by
 have hst:=run_storeCells_cells (P:=Tryz.prog) b o (xQ n) 0 w (by simpa [Uf] using hc) (by simpa [Uf] using hf) (yIr n);simp only [bG] at hst;obtain ⟨m,rfl⟩:∃ m,n=m+1:=⟨n - 1,by omega⟩;have hz:=yQo;have e:(Value.agg #[.int .i64 0,.int .i64 0]).cells=Th:=rfl;simp only [xQ] at hst ⊢;simp [Builtin.clear_,run_underlying Tryz.underlying166,hz,e,hst]
theorem zYi{w:World}{ops:Array Oper}{rest:List Oper}{o:Oper}{a:Act}{Q:Exit->Act->World->Prop}(hgd:o.guard=none)(s:Operand)
  (ho:o.op=.call { callee:=.builtin .clear,args:=#[s],argTypes:=#[166] }) (b off n c:Nat) (hs:a.eval s=.slice (some ⟨b,off,none⟩) n c) (hn:0<n)
  (hc:∀ j,j<n*2->(w.cell? ⟨b,off+j,none⟩).isSome=true) (hf:∀ j,j<n*2->w.frozen? ⟨b,off+j,none⟩=false)
  (h:wpList Tryz.prog ops Q rest (a.put o.dst (.tuple #[])) (w.setCells b off (xQ n))):wpList Tryz.prog ops Q (o :: rest) a w:=by
 refine wpList_plain hgd fun K hK=>?_;have hr:=yJn w o.type b off n c hn hc hf;unfold Oper.wp execOp;simp only [ho,resolve,invoke,builtin,Sem.run_bind,Sem.run_pure,Result.andThen_ok,bz,bW,cM,hs,hr];exact hK _ _ h
theorem dg.kO{g:Nat}{t:TypeId}:∀ (vs:List Value) (w:World) (a old c:List Value),dg w g (a++old++c) t->old.length=vs.length->dg (w.setCells g a.length vs) g (a++vs++c) t
 | [],w,a,old,c,h,hl=>by
  have:old=[]:=aR hl;subst this;exact h
 | v :: vs,w,a,[],c,h,hl=>by simp at hl
 | v :: vs,w,a,x :: old,c,h,hl=>by
  have h1:=h.set a.length v;have e:((a++x :: old++c).set a.length v)=(a++[v])++old++c:=by simp
  rw [e] at h1;have:=dg.kO vs (w.setCell ⟨g,a.length,none⟩ v) (a++[v]) old c h1 (by simpa using hl);simp only [aD,aW,az] at this;rw [World.setCells];simpa using this
theorem Mod.kO{g:Nat}:∀ (vs:List Value) (o:Nat) (w:World),Mod (eA g) w (w.setCells g o vs)
 | [],_,_=>Mod.refl _ _
 | v :: vs,o,w=>(Mod.dt g o v).trans (Mod.kO vs (o+1) (w.setCell ⟨g,o,none⟩ v))
theorem UR{α:Type}(A X R:List α)(k:Nat):A++X.take k++(X.drop k++R)=A++X++R:=by
 rw [aU,aU,<-aU (X.take k),aq]
theorem uh{α:Type}{l:List α}{j:Nat}{x:α}(h:l[j]?=some x):l.drop j=x :: l.drop (j+1):=by
 have hj:j<l.length:=(aB.1 h).1;rw [aA hj] at h;simp at h;rw [<-h,<-bh hj]
theorem qg{α:Type}{l:List α}{j:Nat}{x:α}(h:l[j]?=some x):l.take (j+1)=l.take j++[x]:=by
 have hj:j<l.length:=(aB.1 h).1;rw [aA hj] at h;simp at h;rw [au hj,h]
def nD(p:de->Bool)(ms:List de):List de:=ms.filter (fun m=>!p m)
theorem zXe(p:de->Bool)(ms:List de)(m:de):nD p (ms++[m])=if p m then nD p ms else nD p ms++[m]:=by
 unfold nD;rw [dJ]
 cases h:p m <;> simp [h]
theorem zXq(p:de->Bool):∀ ms,sm p ms=none->nD p ms=ms
 | [],_=>rfl
 | m :: ms,h=>by
  unfold sm at h;split at h
  ·cases h
  ·rename_i hs;have hs':p m=false:=by simpa using hs
   have:=zXq p ms (by simpa using h);unfold nD at this ⊢;rw [cF,aP (by simp [hs']),this]
theorem zUv(p:de->Bool):∀ ms k,sm p ms=some k->k<ms.length/\nD p (ms.take (k+1))=ms.take k
 | [],_,h=>by simp [sm] at h
 | m :: ms,k,h=>by
  unfold sm at h;split at h
  ·rename_i hs;simp at h;subst h;refine ⟨by simp,?_⟩;simp [nD,hs]
  ·rename_i hs;have hs':p m=false:=by simpa using hs
   obtain ⟨k',hk',rfl⟩:=cL.1 h;obtain ⟨h1,h2⟩:=zUv p ms k' hk';refine ⟨by simp;omega,?_⟩;unfold nD at h2 ⊢;rw [aw,cF,aP (by simp [hs']),h2,aw]
def mN(w wr:World)(b:Nat)(p:de->Bool)(ms:List de)(R:List Value)(i j:Nat):Prop:=
 ∃ mid:List Value,i=(nD p (ms.take j)).length/\mid.length=(j - i)*2/\i<j/\j<=ms.length /\
  dg wr b (ej (nD p (ms.take j))++mid++(ej (ms.drop j)++R)) 170/\Mod (eA b) w wr
theorem mN.start{w wr:World}{b k0:Nat}{p:de->Bool}{ms:List de}{R:List Value}(hk:k0<ms.length)(pT:nD p (ms.take (k0+1))=ms.take k0)(hB:dg w b (ej ms++R) 170)(hm:Mod dZ w wr):mN w wr b p ms R k0 (k0+1):=by
 obtain ⟨m,hm0⟩:∃ m,ms[k0]?=some m:=⟨_,aA hk⟩;have ib:ms=ms.take k0++m :: ms.drop (k0+1):=by
  rw [<-uh hm0,aq]
 refine ⟨fS m,by rw [pT,aZ];omega,by simp [fS],by omega,by omega,?_,hm.mono (fun _ _ e=>e.elim)⟩;rw [pT];have:=hB.mod hm id;have e:ej ms=ej (ms.take k0)++(fS m++ej (ms.drop (k0+1))):=by
  conv=>lhs;rw [ib]
  rw [MW,ej]
 rw [e] at this;simpa [List.append_assoc] using this
theorem mN.look{w wr:World}{b i j:Nat}{p:de->Bool}{ms:List de}{R:List Value}(h:mN w wr b p ms R i j){m:de}(hm:ms[j]?=some m) :
  ∀ n x,(fS m)[n]?=some x->wr.cell? ⟨b,j*2+n,none⟩=some x:=by
 obtain ⟨mid,h1,h3,h4,h5,h6,h8⟩:=h;intro n x hx;have hn:n<2:=(aB.1 hx).1;refine h6.cell _ ?_;rw [uh hm,ej];have l1:=wH (nD p (ms.take j));rw [aM (by rw [aD];omega),aD,l1,h3,<-h1];rw [show j*2+n - (i*2+(j - i)*2)=n by omega,aU,aE hn];exact hx
theorem mN.skip{w wr wr':World}{b i j:Nat}{p:de->Bool}{ms:List de}{R:List Value}(h:mN w wr b p ms R i j){m:de}(hm:ms[j]?=some m)(hs:p m=true)(ij:Mod dZ wr wr') :
  mN w wr' b p ms R i (j+1):=by
 obtain ⟨mid,h1,h3,h4,h5,h6,h8⟩:=h;have hj:j<ms.length:=(aB.1 hm).1;have e:nD p (ms.take (j+1))=nD p (ms.take j):=by rw [qg hm,zXe,aP hs]
 refine ⟨mid++fS m,by rw [e];exact h1,by rw [aD,h3];simp [fS];omega,by omega,by omega,?_,h8.trans (ij.mono (fun _ _ e=>e.elim))⟩;rw [e];have:=h6.mod ij id;rw [uh hm,ej] at this;simpa [List.append_assoc] using this
theorem mN.keep{w wr wr':World}{b i j:Nat}{p:de->Bool}{ms:List de}{R:List Value}(h:mN w wr b p ms R i j){m:de}(hm:ms[j]?=some m)(hs:p m=false)(ij:Mod dZ wr wr') :
  mN w (wr'.setCells b (i*2) (fS m)) b p ms R (i+1) (j+1):=by
 obtain ⟨mid,h1,h3,h4,h5,h6,h8⟩:=h;have hj:j<ms.length:=(aB.1 hm).1;have e:nD p (ms.take (j+1))=nD p (ms.take j)++[m]:=by rw [qg hm,zXe,aK (by simp [hs])]
 have l1:=wH (nD p (ms.take j));refine ⟨mid.drop 2++fS m,by rw [e,aD,<-h1];rfl,by rw [aD,bO,h3];simp [fS];omega,by omega,by omega,?_,(h8.trans (ij.mono (fun _ _ e=>e.elim))).trans (Mod.kO _ _ _)⟩;rw [e,MW,MY];have h9:=h6.mod ij id;rw [uh hm,ej] at h9;have:=dg.kO (g:=b) (t:=170) (fS m) wr' (ej (nD p (ms.take j))) (mid.take 2) (mid.drop 2++(fS m++ej (ms.drop (j+1))++R)) (by
  rw [UR];exact h9) (by rw [aZ,h3];simp [fS];omega)
 rw [l1,<-h1] at this;simpa [List.append_assoc] using this
theorem mN.room{w wr:World}{b i j:Nat}{p:de->Bool}{ms:List de}{R:List Value}(h:mN w wr b p ms R i j):i<j/\j<=ms.length/\Mod (eA b) w wr /\
  (∀ n,n<(j - i)*2->(wr.cell? ⟨b,i*2+n,none⟩).isSome=true)/\∀ n,wr.frozen? ⟨b,n,none⟩=false:=by
 obtain ⟨mid,h1,h3,h4,h5,h6,h8⟩:=h;have l1:=wH (nD p (ms.take j));refine ⟨h4,h5,h8,fun n hn=>?_,fun n=>h6.frozen n⟩;obtain ⟨x,hx⟩:∃ x,(ej (nD p (ms.take j))++mid++(ej (ms.drop j)++R))[i*2+n]?=some x:=⟨_,aA (by simp only [aD];omega)⟩;rw [show wr.cell? ⟨b,i*2+n,none⟩=some x from h6.cell _ hx];rfl
theorem mN.done{w wr:World}{B b i cap:Nat}{p:de->Bool}{ms:List de}{R:List Value}(h:mN w wr b p ms R i ms.length)(hBb:B<=b)(hcap:ms.length<=cap)(hcm:cap<=maxLen)(lR:ms.length*2+R.length=cap*2) :
  ez (wr.setCells b (i*2) (xQ (ms.length - i))) B (.slice (some ⟨b,0,none⟩) i cap) (nD p ms)/\Mod (eA b) w (wr.setCells b (i*2) (xQ (ms.length - i))):=by
 obtain ⟨mid,h1,h3,h4,h5,h6,h8⟩:=h;rw [bJ] at h1 h6;have l1:=wH (nD p ms);have l2:=Uf (ms.length - i);have hM:=h8.trans (Mod.kO (xQ (ms.length - i)) (i*2) wr);have e0:ej (ms.drop ms.length)=[]:=by rw [cj];rfl
 rw [e0,aY] at h6;have hB:=dg.kO (g:=b) (t:=170) (xQ (ms.length - i)) wr (ej (nD p ms)) mid R h6 (by omega);rw [l1,<-h1] at hB;refine ⟨⟨by omega,.inr ⟨b,cap,(ej (nD p ms)++xQ (ms.length - i)++R).toArray,by rw [<-h1],hBb,hB,by omega,hcm,?_,?_⟩⟩,hM⟩
 ·simp only [bC,aD];omega
 ·rw [<-l1,aU,dU]
theorem Ug(f q B:Nat)(p:de->Bool)(v:Value)(ms:List de)(w:World)(hR:ez w B v ms)(hA:vv f q p w)(hq:q<w.heap.size)(Hy:v.ownBlock≠some q)(hf:ms.length<=1000) :
  Calls Tryz.prog 151 #[v,.func (.func f) #[] #[.pointer (some ⟨q,0,none⟩)]] w fun e w'=>∃ v',e=.returned v'/\ez w' B v' (nD p ms)/\v'.ownBlock=v.ownBlock/\Mod (fun x=>v.ownBlock=some x) w w':=by
 have nW:=dV (zXf f q w.heap.size p v ms w (hR.mB (aF _)) hA hq hf)
 cases hfi:sm p ms with
 | none=>
  rw [hfi] at nW;have HK:=dV (zXq p ms hfi);have HR:=dV hR;obtain ⟨a,cap,rfl⟩:=eu hR;clear hR hA;go_enter Tryz.func151,Tryz.ntmps151;go_wp2_with fail;refine nW.out.mono ?_;rintro e w1 ⟨rfl,dh⟩;simp only [Lf];go_wp2_with fail;go_ret;exact ⟨_,rfl,by rw [HK.out];exact HR.out.mod dh (fun _ _=>id),rfl,dh.mono (fun _ _ e=>e.elim)⟩
 | some k0=>
  rw [hfi] at nW;obtain ⟨qs,pT⟩:=zUv p ms k0 hfi;rcases hR.2 with ⟨_,h0⟩ | ⟨b,cap,cur,rfl,Dj,hg,hcap,hcm,hcs,htk⟩
  ·omega
  unfold maxLen at hcm;obtain ⟨R,yE⟩:∃ R,cur.toList=ej ms++R:=by
   refine ⟨cur.toList.drop (ms.length*2),?_⟩;rw [<-htk,aq]
  have lA:=wH ms;have nA:dg w b (ej ms++R) 170:=by rw [dg,<-yE];exact hg
  have lR:ms.length*2+R.length=cap*2:=by
   have:(ej ms++R).length=cap*2:=by rw [<-yE];simpa using hcs
   rw [aD,lA] at this;exact this
  have DN:b≠q:=fun e=>Hy (by rw [e];rfl);have nY:=dV nA;have JV:=dV pT;have HA:=dV hA;have hen:=hA.enter;clear nA yE hg hcs htk hR pT hfi lA hA Hy;go_enter Tryz.func151,Tryz.ntmps151;go_wp2_with fail;refine nW.out.mono ?_;rintro e w1 ⟨rfl,dh⟩;simp only [Lf];have hne:((k0:Int) == -1)=false:=by rw [bc];omega
  go_wp2_with fail;go_loopw [5,6] (fun x y wr=>∃ i j:Nat,x=.int .i64 i/\y=.int .i64 j/\mN w wr b p ms R i j) (fun _ y _=>ms.length - (intOf y).toNat)
  case atStart=>exact ⟨k0,k0+1,rfl,by go_num,mN.start qs JV.out nY.out dh⟩
  case round=>
   obtain ⟨i,j,rfl,rfl,hI⟩:=hrel;obtain ⟨hij,hjn,qz,hcell,hfro⟩:=hI.room;by_cases hlt:j<ms.length
   ·obtain ⟨m,hm⟩:∃ m,ms[j]?=some m:=⟨_,aA hlt⟩;have hlk:=hI.look hm;have q0:=hlk 0 _ rfl;have q1:=hlk 1 _ rfl;simp only [bG] at q0;have Nt:wr.heap[q]?=w.heap[q]?:=qz.block q hq (fun e=>DN e.symm);have XL:q<wr.heap.size:=aH hq qz.size;have HC:=dV (HA.out.ask m (wr.alloc (.cells #[.int .i64 m.tx,.int .i64 m.mode] 170)) ((Below.heap_alloc _ _ _ XL).trans Nt));have HI:=dV hI;have km:=dV hm;have vr:=dV hcell;have kI:=dV hfro;have ff:=dg.new wr (fS m) 170;have hbz:b<wr.heap.size:=World.block_lt_of_cell? wr _ q0;clear hI hm hlk hcell hfro Nt XL;go_wp2_with fail;refine HC.out.mono ?_;rintro e w5 ⟨rfl,eP⟩;have vT:dg w5 wr.heap.size (fS m) 170:=ff.mod eP id;have jt:=((Mod.refl dZ wr).alloc (.cells #[.int .i64 m.tx,.int .i64 m.mode] 170)).trans eP;clear HC q0 q1 ff
    cases hs:p m with
    | true=>
     have HN:=dV (HI.out.skip km.out hs jt);go_wp2_with fail;go_roundw
     case rel=>exact ⟨i,j+1,rfl,by go_num,HN.out⟩
     case measure=>simp [intOf];omega
    | false=>
     have HN:=dV (HI.out.keep km.out hs jt);have p0:=vT.cell 0 rfl;have p1:=vT.cell 1 rfl;have hex:∀ c,c<2->∃ y,w5.cell? ⟨b,i*2+c,none⟩=some y:=fun c hc=>by
      obtain ⟨y,hy⟩:=bD.1 (vr.out c (by omega));exact ⟨y,jt.cell hy id⟩
     have hfz:∀ c,w5.frozen? ⟨b,c,none⟩=false:=fun c=>(jt.frozen (p:=⟨b,c,none⟩) hbz id).trans (kI.out c);obtain ⟨y0,hy0⟩:=hex 0 (by omega);obtain ⟨y1,hy1⟩:=hex 1 (by omega);have f0:=hfz (i*2+0);have f1:=hfz (i*2+1);simp only [bG] at hy0 f0;have qx:b≠wr.heap.size:=by omega
     clear hex hfz;go_wp2_with fail;go_roundw
     case rel=>exact ⟨i+1,j+1,by go_num,by go_num,by simpa [World.setCells,fS,Nat.add_assoc] using HN.out⟩
     case measure=>simp [intOf];omega
   ·obtain rfl:j=ms.length:=by omega
    have tu:=dV (hI.done (B:=B) (cap:=cap) Dj hcap (by unfold maxLen;omega) lR);have hb3:¬ cap=i:=by omega
    have hb4:i<=cap:=by omega
    have vr:=dV hcell;have kI:Hid (∀ n,n<(ms.length - i)*2->wr.frozen? ⟨b,i*2+n,none⟩=false):=fun n _=>hfro _;clear hI hcell hfro;go_wp2_with (first
     | (refine zYi rfl _ rfl b (i*2) (ms.length - i) _ rfl (by omega) vr.out kI.out ?_)
     | fail)
    go_ret;exact ⟨_,rfl,tu.out.1,rfl,tu.out.2.mono (fun x _ e=>by simp only [eA] at e;rw [e];rfl)⟩
theorem Tp(a b:de)(w:World) :
  Calls Tryz.prog 146 #[.agg #[.int .i64 a.tx,.int .i64 a.mode],.agg #[.int .i64 b.tx,.int .i64 b.mode]] w fun e w'=>e=.returned (.bool (kU a b))/\Mod dZ w w':=by
 obtain ⟨at',am⟩:=a;obtain ⟨bt,bm⟩:=b;have HM:Hid (Mod dZ w ((w.alloc (.cells #[.int .i64 at',.int .i64 am] 170)).alloc (.cells #[.int .i64 bt,.int .i64 bm] 170))):=((Mod.refl _ w).alloc _).alloc _;have HI:Hid (kU ⟨at',am⟩ ⟨bt,bm⟩=(decide (at'≠bt) && (decide (am=2) || decide (bm=2)))):=rfl;generalize kU ⟨at',am⟩ ⟨bt,bm⟩=r at HI;by_cases h1:at'=bt
 ·have hr:r=false:=by rw [HI.out];simp [h1]
  subst hr;subst h1;clear HI;go_enter Tryz.func146,Tryz.ntmps146;go_wp2_with fail;go_ret;exact ⟨rfl,HM.out⟩
 ·by_cases h2:am=2
  ·have HR:Hid (r=(at' != bt)):=by rw [HI.out,cO];simp [h1,h2,Hid]
   subst h2;clear HI;go_enter Tryz.func146,Tryz.ntmps146;go_wp2_with fail;go_ret;exact ⟨by rw [HR.out];rfl,HM.out⟩
  ·have HR:Hid (r=(at' != bt && (am == 2 || bm == 2))):=by rw [HI.out,cO];simp [h1,h2,Hid]
   clear HI;go_enter Tryz.func146,Tryz.ntmps146;go_wp2_with fail;go_ret;exact ⟨by rw [HR.out];rfl,HM.out⟩
theorem Qq{w wr:World}{q:Nat}{cs:List Value}{t:TypeId}(h:dg w q cs t)(he:wr.heap[q]?=w.heap[q]?):dg wr q cs t:=he.trans h
theorem yQb{w:World}{q:Nat}{c:de}(h:dg w q (fS c) 170):vv 145 q (fun o=>kU o c) w:=by
 refine ⟨xL Tryz.func145 (by kernel_rfl) rfl,fun d wr he=>?_⟩;have hb:=Qq h he;have p0:=hb.cell 0 rfl;have p1:=hb.cell 1 rfl;have hq:=hb.lt;have HM:Hid (Mod dZ wr (wr.alloc (.cells #[.int .i64 d.tx,.int .i64 d.mode] 170))):=(Mod.refl _ wr).alloc _;have HI:=fun w=>Tp d c w;have ED:=dV HI;clear h hb he HI;go_enter Tryz.func145,Tryz.ntmps145;go_wp2_with fail;refine (ED.out _).mono ?_;rintro e w1 ⟨rfl,hm⟩;go_wp2_with fail;go_ret;exact ⟨rfl,HM.out.trans hm⟩
theorem yQa{w:World}{q:Nat}{c:de}(h:dg w q (fS c) 170):vv 147 q (fun o=>decide (o.tx<c.tx) && kU o c) w:=by
 refine ⟨xL Tryz.func147 (by kernel_rfl) rfl,fun d wr he=>?_⟩;have hb:=Qq h he;have p0:=hb.cell 0 rfl;have p1:=hb.cell 1 rfl;have hq:=hb.lt;have HM:Hid (Mod dZ wr (wr.alloc (.cells #[.int .i64 d.tx,.int .i64 d.mode] 170))):=(Mod.refl _ wr).alloc _;have HI:=fun w=>Tp d c w;have ED:=dV HI;clear h hb he HI;by_cases hl:d.tx<c.tx
 ·have hd:decide (d.tx<c.tx)=true:=aQ hl;have yU:=dV hd;go_enter Tryz.func147,Tryz.ntmps147;go_wp2_with fail;refine (ED.out _).mono ?_;rintro e w1 ⟨rfl,hm⟩;go_wp2_with fail;go_ret;exact ⟨by first | rfl | (rw [yU.out];rfl),HM.out.trans hm⟩
 ·have hd:decide (d.tx<c.tx)=false:=aL hl;have yU:=dV hd;go_enter Tryz.func147,Tryz.ntmps147;go_wp2_with fail;go_ret;exact ⟨by first | rfl | (rw [yU.out];rfl),HM.out⟩
theorem yGo{w:World}{q:Nat}{c:de}(h:dg w q (fS c) 170):vv 150 q (EJ c) w:=by
 refine ⟨xL Tryz.func150 (by kernel_rfl) rfl,fun d wr he=>?_⟩;have hb:=Qq h he;have p0:=hb.cell 0 rfl;have p1:=hb.cell 1 rfl;have hq:=hb.lt;have HM:Hid (Mod dZ wr (wr.alloc (.cells #[.int .i64 d.tx,.int .i64 d.mode] 170))):=(Mod.refl _ wr).alloc _;have HI:=fun w=>Tp d c w;have ED:=dV HI;clear h hb he HI;unfold EJ;by_cases hl:d.tx<c.tx
 ·have hd:decide (d.tx<c.tx)=true:=aQ hl;have yU:=dV hd;go_enter Tryz.func150,Tryz.ntmps150;go_wp2_with fail;go_ret;exact ⟨by first | rfl | (rw [yU.out];rfl),HM.out⟩
 ·have hd:decide (d.tx<c.tx)=false:=aL hl;have yU:=dV hd;go_enter Tryz.func150,Tryz.ntmps150;go_wp2_with fail;refine (ED.out _).mono ?_;rintro e w1 ⟨rfl,hm⟩;go_wp2_with fail;go_ret;exact ⟨by first | rfl | (rw [yU.out];rfl),HM.out.trans hm⟩
theorem yDs{w:World}{q:Nat}{t:Int}(h:dg w q [.int .i64 t] 3):vv 167 q (fun c=>decide (c.tx=t)) w:=by
 refine ⟨xL Tryz.func167 (by kernel_rfl) rfl,fun d wr he=>?_⟩;have hb:=Qq h he;have p0:=hb.cell 0 rfl;have hq:=hb.lt;have HM:Hid (Mod dZ wr (wr.alloc (.cells #[.int .i64 d.tx,.int .i64 d.mode] 170))):=(Mod.refl _ wr).alloc _;clear h hb he;go_enter Tryz.func167,Tryz.ntmps167;go_wp2_with fail;go_ret;exact ⟨by first | rfl | (congr 2;rw [cO];simp),HM.out⟩
theorem yIc(L kb:Nat)(hv wv:Value)(held waits:List de)(c:de)(w:World)(hk:dg w kb [hv,wv] 168)(hh:vw w L hv held)(hw:vw w L wv waits)(h1:held.length<=1000)(h2:waits.length<=1000) :
  Calls Tryz.prog 111 #[.pointer (some ⟨kb,0,none⟩),.agg #[.int .i64 c.tx,.int .i64 c.mode]] w fun e w'=>e=.returned (.bool (pc held waits c))/\Mod dZ w w':=by
 have tF:∀ fn first cap w,(Instr.makeFunc fn first cap).run Tryz.prog w=.ok (.func fn first cap) w:=fun _ _ _ _=>rfl
 obtain ⟨w1,hw1⟩:∃ q,q=w.alloc (.cells #[.int .i64 c.tx,.int .i64 c.mode] 170):=⟨_,rfl⟩;have dh:Mod dZ w w1:=by rw [hw1];exact (Mod.refl _ w).alloc _
 have hb1:dg w1 w.heap.size (fS c) 170:=by rw [hw1];exact dg.new w (fS c) 170
 have HA:=dV (zQf 145 w.heap.size L (fun o=>kU o c) hv held w1 (hh.mod dh (fun _ _=>id)) (yQb hb1) hb1.lt h1);have HB:Hid (∀ w2,Mod dZ w1 w2->Calls Tryz.prog 148 #[wv,.func (.func 147) #[] #[.pointer (some ⟨w.heap.size,0,none⟩)]] w2 fun e w'=>e=.returned (.bool (waits.any (fun o=>decide (o.tx<c.tx) && kU o c)))/\Mod dZ w2 w'):=fun w2 hm2=>
  zQf 147 w.heap.size L _ wv waits w2 ((hw.mod dh (fun _ _=>id)).mod hm2 (fun _ _=>id)) (yQa (hb1.mod hm2 id)) (hb1.mod hm2 id).lt h2
 have HK:=dV (hk.mod dh id);have fJ:=dV dh;obtain ⟨ha,hcap,rfl,_,_⟩:=fV.slice hh;obtain ⟨wa,ft,rfl,_,_⟩:=fV.slice hw;have c0:=HK.out.cell 0 rfl;have c1:=HK.out.cell 1 rfl;have hkl:=hk.lt;have HF:Hid (pc held waits c=(!(held.any fun o=>kU o c) && !(waits.any fun o=>decide (o.tx<c.tx) && kU o c))):=rfl;generalize pc held waits c=r at HF;clear dh hb1 hk hh hw
 cases Ov:held.any (fun o=>kU o c) with
 | true=>
  rw [Ov] at HA HF;have hr:r=false:=by rw [HF.out];rfl
  subst hr;go_enter Tryz.func111,Tryz.ntmps111;go_upto_region 1 with fail;rw [<-hw1];clear hw1;go_wp2_with fail;refine HA.out.mono ?_;rintro e w2 ⟨rfl,hm2⟩;go_wp2_with fail;go_ret;exact ⟨rfl,fJ.out.trans hm2⟩
 | false=>
  rw [Ov] at HA HF;have HR:Hid (r=!(waits.any fun o=>decide (o.tx<c.tx) && kU o c)):=by rw [HF.out];rfl
  clear HF;go_enter Tryz.func111,Tryz.ntmps111;go_upto_region 1 with fail;rw [<-hw1];clear hw1;go_wp2_with fail;refine HA.out.mono ?_;rintro e w2 ⟨rfl,hm2⟩;have d1:=hm2.cell c1 id;have gE:=dV hm2;have lX:=dV (HB.out w2 hm2);clear HB hm2 c0 c1;go_wp2_with fail;refine lX.out.mono ?_;rintro e w3 ⟨rfl,dy⟩;go_wp2_with fail;go_ret;exact ⟨by rw [HR.out];rfl,(fJ.out.trans gE.out).trans dy⟩
end Go.Proofs.YtmaiggbnceejiaaGreatDoor
