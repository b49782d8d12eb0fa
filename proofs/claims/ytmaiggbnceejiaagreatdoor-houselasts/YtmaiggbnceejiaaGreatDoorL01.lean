import Derived.WalkKit
import Derived.Laws.BytesArg
import Derived.Deep.QuietTactic
import Derived.BigQuiet
import Derived.Test.YtmaiggbnceejiaaGreatDoorRows
import Derived.Lib.AppendStr
import Derived.Deep.RegionLaw
import Derived.Deep.AppendLies
import Derived.Deep.DeepCutAuto
import Derived.Deep.Strs
import Derived.Deep.Slices
import Derived.OpenShut
import Derived.Maps.OwnSet
import Derived.Maps.AppendAt
import Derived.RegionTactic
import Derived.ChangeAlike
import Derived.Laws.IdiomCopy
import Derived.Deep.CutBlock
set_option linter.unusedVariables false
set_option maxRecDepth 100000
set_option maxHeartbeats 16000000
namespace Go.Proofs.YtmaiggbnceejiaaGreatDoor
theorem AC:type_of% @Go.World.block_lt_of_cell?:=@Go.World.block_lt_of_cell?
theorem A0:type_of% @Go.heap_alloc_new:=@Go.heap_alloc_new
theorem A1:type_of% @Go.WideShapes.add_plain:=@Go.WideShapes.add_plain
theorem A2:type_of% @Go.wpList_plain:=@Go.wpList_plain
theorem A3:type_of% @Go.info_parts:=@Go.info_parts
theorem A4:type_of% @Go.World.size_alloc:=@Go.World.size_alloc
theorem A5:type_of% @Go.bodyPost_ret:=@Go.bodyPost_ret
theorem A6:type_of% @Go.World.ownsRow_nil:=@Go.World.ownsRow_nil
theorem A7:type_of% @Go.World.news_of_block:=@Go.World.news_of_block
theorem A8:type_of% @Go.Calls.quiet_of_same:=@Go.Calls.quiet_of_same
theorem A9:type_of% @Go.Calls.quiet_of:=@Go.Calls.quiet_of
theorem B0:type_of% @Go.results_tmp2:=@Go.results_tmp2
theorem B1:type_of% @Go.wpList_append_own_at:=@Go.wpList_append_own_at
theorem B2:type_of% @Go.World.ownsMap_made:=@Go.World.ownsMap_made
theorem B3:type_of% @Go.run_storeCells_cells:=@Go.run_storeCells_cells
theorem B4:type_of% @Go.results_none:=@Go.results_none
theorem B5:type_of% @Go.WideMaps.keyOf_string_mk:=@Go.WideMaps.keyOf_string_mk
theorem B6:type_of% @Go.ByteArray.toList_eq:=@Go.ByteArray.toList_eq
theorem B7:type_of% @Go.IntWalk.wrap64_in:=@Go.IntWalk.wrap64_in
theorem B8:type_of% @Go.World.cell?_alloc_lt:=@Go.World.cell?_alloc_lt
theorem B9:type_of% @Go.wpStill_nil:=@Go.wpStill_nil
theorem C0:type_of% @Go.run_append_own_at:=@Go.run_append_own_at
theorem C1:type_of% @Go.callsIn_of_wp:=@Go.callsIn_of_wp
theorem C2:type_of% @Go.IntWalk.i64_in:=@Go.IntWalk.i64_in
variable {G G':Nat->Prop}{a b c w w':World}{p:Addr}{B g N size n:Nat}{v:Value}{cs xs:List Value}{t e:TypeId}
theorem aA:type_of% @List.getElem?_eq_getElem:=@List.getElem?_eq_getElem
theorem aB:type_of% @List.getElem?_eq_some_iff:=@List.getElem?_eq_some_iff
theorem aC:type_of% @List.mem_of_getElem?:=@List.mem_of_getElem?
theorem aD:type_of% @Nat.le_refl:=@Nat.le_refl
theorem aE:type_of% @List.length_append:=@List.length_append
theorem aF:type_of% @Array.getElem?_eq_some_iff:=@Array.getElem?_eq_some_iff
theorem aG:type_of% @List.getElem?_append_left:=@List.getElem?_append_left
theorem aH:type_of% @if_neg:=@if_neg
theorem aI:type_of% @List.getD_eq_getElem?_getD:=@List.getD_eq_getElem?_getD
theorem aJ:type_of% @Nat.lt_of_lt_of_le:=@Nat.lt_of_lt_of_le
theorem aK:type_of% @if_pos:=@if_pos
theorem aL:type_of% @List.getElem?_append_right:=@List.getElem?_append_right
theorem aM:type_of% @List.mem_append:=@List.mem_append
theorem aN:type_of% @decide_eq_false:=@decide_eq_false
theorem aO:type_of% @Nat.le_trans:=@Nat.le_trans
theorem aP:type_of% @List.getElem?_of_mem:=@List.getElem?_of_mem
theorem aQ:type_of% @decide_eq_true:=@decide_eq_true
theorem aR:type_of% @List.eq_nil_of_length_eq_zero:=@List.eq_nil_of_length_eq_zero
theorem aS:type_of% @Classical.byContradiction:=@Classical.byContradiction
theorem aT:type_of% @Nat.zero_le:=@Nat.zero_le
theorem aU:type_of% @Int.toNat_natCast:=@Int.toNat_natCast
theorem aV:type_of% @List.append_assoc:=@List.append_assoc
theorem aW:type_of% @List.length_cons:=@List.length_cons
theorem aX:type_of% @List.getElem?_eq_none:=@List.getElem?_eq_none
theorem aY:type_of% @Nat.zero_add:=@Nat.zero_add
theorem aZ:type_of% @List.range_succ:=@List.range_succ
theorem aa:type_of% @List.nil_append:=@List.nil_append
theorem ae:type_of% @List.foldl_append:=@List.foldl_append
theorem af:type_of% @List.length_take:=@List.length_take
theorem ag:type_of% @Option.some.injEq:=@Option.some.injEq
theorem ah:type_of% @List.getElem?_map:=@List.getElem?_map
theorem ai:type_of% @List.length_set:=@List.length_set
theorem aj:type_of% @List.mem_map:=@List.mem_map
theorem an:type_of% @congrArg:=@congrArg
theorem ao:type_of% @List.length_map:=@List.length_map
theorem aq:type_of% @List.pairwise_iff_getElem:=@List.pairwise_iff_getElem
theorem ar:type_of% @List.take_append_drop:=@List.take_append_drop
theorem au:type_of% @List.mem_filter:=@List.mem_filter
theorem aw:type_of% @decide_eq_true_eq:=@decide_eq_true_eq
theorem ax:type_of% @List.take_succ_eq_append_getElem:=@List.take_succ_eq_append_getElem
theorem ay:type_of% @List.map_append:=@List.map_append
theorem az:type_of% @List.take_succ_cons:=@List.take_succ_cons
theorem bA:type_of% @Option.some.inj:=@Option.some.inj
theorem bB:type_of% @List.mem_cons:=@List.mem_cons
theorem bC:type_of% @List.length_nil:=@List.length_nil
theorem bD:type_of% @List.length_filter_le:=@List.length_filter_le
theorem bE:type_of% @List.size_toArray:=@List.size_toArray
theorem bF:type_of% @Option.isSome_iff_exists:=@Option.isSome_iff_exists
theorem bG:type_of% @List.mem_or_eq_of_mem_set:=@List.mem_or_eq_of_mem_set
theorem bH:type_of% @List.mem_cons_of_mem:=@List.mem_cons_of_mem
theorem bI:type_of% @List.cons_append:=@List.cons_append
theorem bJ:type_of% @Option.map_some:=@Option.map_some
theorem bK:type_of% @Nat.add_zero:=@Nat.add_zero
theorem bL:type_of% @Nat.add_sub_cancel:=@Nat.add_sub_cancel
theorem bM:type_of% @List.take_of_length_le:=@List.take_of_length_le
theorem bN:type_of% @List.flatMap_cons:=@List.flatMap_cons
theorem bO:type_of% @Int.le_refl:=@Int.le_refl
theorem bP:type_of% @List.ext_getElem?:=@List.ext_getElem?
theorem bQ:type_of% @List.take_length:=@List.take_length
theorem bR:type_of% @List.length_pos_iff:=@List.length_pos_iff
theorem bS:type_of% @List.getElem?_mapIdx:=@List.getElem?_mapIdx
theorem bT:type_of% @List.length_drop:=@List.length_drop
theorem bU:type_of% @List.mem_singleton:=@List.mem_singleton
theorem bV:type_of% @List.mem_range:=@List.mem_range
theorem bW:type_of% @List.mem_append_left:=@List.mem_append_left
theorem bX:type_of% @Bool.and_eq_true:=@Bool.and_eq_true
theorem bY:type_of% @List.rel_of_pairwise_cons:=@List.rel_of_pairwise_cons
theorem bZ:type_of% @List.map_cons:=@List.map_cons
theorem ba:type_of% @List.filter_sublist:=@List.filter_sublist
theorem bb:type_of% @List.drop_succ_cons:=@List.drop_succ_cons
theorem bc:type_of% @decide_eq_false_iff_not:=@decide_eq_false_iff_not
theorem bd:type_of% @List.take_append_of_le_length:=@List.take_append_of_le_length
theorem bg:type_of% @List.pairwise_append:=@List.pairwise_append
theorem bh:type_of% @Array.replicate_zero:=@Array.replicate_zero
theorem bj:type_of% @Array.replicate_succ:=@Array.replicate_succ
theorem bk:type_of% @List.mem_of_mem_eraseIdx:=@List.mem_of_mem_eraseIdx
theorem bp:type_of% @beq_eq_false_iff_ne:=@beq_eq_false_iff_ne
theorem bq:type_of% @List.append_toArray:=@List.append_toArray
theorem br:type_of% @List.nodup_append:=@List.nodup_append
theorem bu:type_of% @List.take_zero:=@List.take_zero
theorem bw:type_of% @List.drop_eq_getElem_cons:=@List.drop_eq_getElem_cons
theorem bx:type_of% @List.push_toArray:=@List.push_toArray
theorem bz:type_of% @List.getElem?_set:=@List.getElem?_set
theorem cA:type_of% @Bool.or_eq_true:=@Bool.or_eq_true
theorem cB:type_of% @List.findIdx?_cons:=@List.findIdx?_cons
theorem cC:type_of% @List.prefix_refl:=@List.prefix_refl
theorem cD:type_of% @List.map_toArray:=@List.map_toArray
theorem cE:type_of% @List.filter_cons:=@List.filter_cons
theorem cF:type_of% @List.findIdx?_eq_some_iff_getElem:=@List.findIdx?_eq_some_iff_getElem
theorem cG:type_of% @Nat.lt_trichotomy:=@Nat.lt_trichotomy
theorem cH:type_of% @List.pairwise_map:=@List.pairwise_map
theorem cI:type_of% @List.drop_zero:=@List.drop_zero
theorem cJ:type_of% @List.length_zip:=@List.length_zip
theorem cK:type_of% @Option.bind_some:=@Option.bind_some
theorem cL:type_of% @List.find?_cons:=@List.find?_cons
theorem cM:type_of% @Array.length_toList:=@Array.length_toList
theorem cN:type_of% @Option.map_eq_some_iff:=@Option.map_eq_some_iff
theorem cO:type_of% @List.map_nil:=@List.map_nil
theorem cP:type_of% @List.any_eq_true:=@List.any_eq_true
theorem cQ:type_of% @List.foldl_cons:=@List.foldl_cons
theorem cR:type_of% @Bool.eq_iff_iff:=@Bool.eq_iff_iff
theorem cS:type_of% @List.mem_of_mem_take:=@List.mem_of_mem_take
theorem cT:type_of% @List.mem_of_mem_drop:=@List.mem_of_mem_drop
theorem cU:type_of% @List.getElem_of_mem:=@List.getElem_of_mem
theorem cV:type_of% @List.mem_flatMap:=@List.mem_flatMap
theorem cW:type_of% @List.getElem?_cons_succ:=@List.getElem?_cons_succ
theorem cX:type_of% @Bool.false_eq_true:=@Bool.false_eq_true
theorem cY:type_of% @List.append_nil:=@List.append_nil
theorem cZ:type_of% @Nat.lt_irrefl:=@Nat.lt_irrefl
theorem cj:type_of% @Nat.add_assoc:=@Nat.add_assoc
theorem cq:type_of% @Nat.mul_one:=@Nat.mul_one
theorem cr:type_of% @Nat.zero_mul:=@Nat.zero_mul
theorem cy:type_of% @List.drop_length:=@List.drop_length
theorem cz:type_of% @List.getElem?_range:=@List.getElem?_range
theorem dA:type_of% @List.Pairwise.imp_of_mem:=@List.Pairwise.imp_of_mem
theorem dB:type_of% @List.getElem?_take:=@List.getElem?_take
theorem dC:type_of% @List.getElem?_drop:=@List.getElem?_drop
theorem dD:type_of% @List.find?_eq_none:=@List.find?_eq_none
theorem dE:type_of% @List.filter_append:=@List.filter_append
theorem dF:type_of% @List.drop_eq_nil_of_le:=@List.drop_eq_nil_of_le
theorem dG:type_of% @Bool.not_eq_true':=@Bool.not_eq_true'
theorem dH:type_of% @List.set_append_right:=@List.set_append_right
theorem dI:type_of% @List.map_reverse:=@List.map_reverse
theorem dJ:type_of% @List.getElem_mem:=@List.getElem_mem
theorem dK:type_of% @List.Nodup.length_le_of_subset:=@List.Nodup.length_le_of_subset
theorem dL:type_of% @List.drop_append_of_le_length:=@List.drop_append_of_le_length
theorem dM:type_of% @List.zipIdx_map_fst:=@List.zipIdx_map_fst
theorem dN:type_of% @List.flatMap_append:=@List.flatMap_append
theorem dO:type_of% @Nat.sub_self:=@Nat.sub_self
theorem dP:type_of% @Nat.mod_lt:=@Nat.mod_lt
theorem dQ:type_of% @List.set_cons_succ:=@List.set_cons_succ
theorem dR:type_of% @List.mem_of_find?_eq_some:=@List.mem_of_find?_eq_some
theorem dS:type_of% @Option.getD_some:=@Option.getD_some
theorem dU:type_of% @Array.toList_map:=@Array.toList_map
theorem dV:type_of% @Nat.lt_or_ge:=@Nat.lt_or_ge
theorem dW:type_of% @List.map_map:=@List.map_map
theorem dX:type_of% @Classical.choose_spec:=@Classical.choose_spec
theorem dY:type_of% @Array.getElem?_modify:=@Array.getElem?_modify
theorem dZ:type_of% @Nat.mul_le_mul_right:=@Nat.mul_le_mul_right
theorem db:type_of% @List.take_left:=@List.take_left
theorem dg:type_of% @List.drop_eq_nil_iff:=@List.drop_eq_nil_iff
open Go.RowKit
structure Mod(G:Nat->Prop)(w w':World):Prop where
 os:w'.os=w.os
 tape:w'.tape=w.tape
 output:w'.output=w.output
 size:w.heap.size<=w'.heap.size
 block:∀k,k<w.heap.size->¬G k->w'.heap[k]?=w.heap[k]?
def dt(_:Nat):Prop:=False
def eQ(g k:Nat):Prop:=k=g
def jw(N k:Nat):Prop:=N<=k
theorem Mod.refl(G:Nat->Prop)(w:World):Mod G w w:=⟨rfl,rfl,rfl,aD _,λ_ _ _=>rfl⟩
theorem Mod.trans(h:Mod G a b)(k:Mod G b c):Mod G a c:=
 ⟨k.os.trans h.os,k.tape.trans h.tape,k.output.trans h.output,aO h.size k.size,λi d f=>(k.block i (aJ d h.size) f).trans (h.block i d f)⟩
theorem Mod.trans'(h:Mod G a b)(k:Mod G' b c)(j:∀i,i<a.heap.size->G' i->G i):Mod G a c:=
 ⟨k.os.trans h.os,k.tape.trans h.tape,k.output.trans h.output,aO h.size k.size,λi d f=>(k.block i (aJ d h.size) (λx=>f (j i d x))).trans (h.block i d f)⟩
theorem Mod.mono(h:Mod G w w')(j:∀i,i<w.heap.size->G i->G' i):Mod G' w w':=
 ⟨h.os,h.tape,h.output,h.size,λk d f=>h.block k d (λx=>f (j k d x))⟩
theorem Mod.drew(h:Mod G a w):Mod G a w.drew:=⟨h.os,h.tape,h.output,h.size,h.block⟩
theorem Mod.drewN(h:Mod G a w)(n:Nat):Mod G a (w.drewN n):=⟨h.os,h.tape,h.output,h.size,h.block⟩
theorem Mod.alloc(h:Mod G a w)(o:Obj):Mod G a (w.alloc o):=
 h.trans ⟨rfl,rfl,rfl,by simp,λk d _=>Below.heap_alloc _ _ _ d⟩
theorem Mod.setCell(h:Mod G a w)(i:p.block<a.heap.size->G p.block)(u:Value):Mod G a (w.setCell p u):=
 ⟨h.os,h.tape,h.output,by have:=h.size;simpa[World.setCell]using this,λk d f=>by
  rw[Below.heap_setCell _ _ _ _ (by rintro rfl;exact f (i d))];exact h.block k d f⟩
theorem Mod.grown{row:Option Nat}(h:Mod G a w)(d:w.grownBy w' row)(j:∀k,row=some k->k<a.heap.size->G k):Mod G a w':=
 ⟨d.os.trans h.os,d.tape.trans h.tape,d.output.trans h.output,aO h.size d.size,λk f i=>
  (d.block k (aJ f h.size) (λe=>i (j k e.symm f))).trans (h.block k f i)⟩
theorem Mod.below(h:Mod G w w')(hB:B<=w.heap.size)(f:∀k,k<B->¬G k):Below B w w':=
 ⟨h.os,h.tape,h.output,h.size,λk d=>h.block k (aJ d hB) (f k d)⟩
theorem Mod.cell(h:Mod G w w')(d:w.cell? p=some v)(f:¬G p.block):w'.cell? p=some v:=
 (World.cell?_of_block (h.block p.block (AC w p d) f)).trans d
theorem Mod.frozen(h:Mod G w w')(d:p.block<w.heap.size)(f:¬G p.block):w'.frozen? p=w.frozen? p:=
 World.frozen?_of_block (h.block p.block d f)
def dx(w:World)(g:Nat)(cs:List Value)(t:TypeId):Prop:=w.heap[g]?=some (.cells cs.toArray t (0,0))
theorem dx.lt(h:dx w g cs t):g<w.heap.size:=(aF.1 h).1
theorem dx.cell(h:dx w g cs t)(j:Nat)(d:cs[j]?=some v):w.cell? ⟨g,j,none⟩=some v:=by
 rw[cell_of_row w g j _ t (0,0) h];simpa using d
theorem dx.frozen(h:dx w g cs t)(j:Nat):w.frozen? ⟨g,j,none⟩=false:=by
 simp only[dx]at h;simp[World.frozen?,h]
theorem dx.set(h:dx w g cs t)(j:Nat)(u:Value):dx (w.setCell ⟨g,j,none⟩ u) g (cs.set j u) t:=by
 simp only[dx]at h⊢;simp only[World.setCell,dY,h];simp
theorem dx.mod(h:dx w g cs t)(d:Mod G w w')(f:¬G g):dx w' g cs t:=(d.block g h.lt f).trans h
theorem dx.new(w:World)(cs:List Value)(t:TypeId):dx (w.alloc (.cells cs.toArray t)) w.heap.size cs t:=A0 w _
theorem Mod.eE(g:Nat)(j:Nat)(u:Value):Mod (eQ g) w (w.setCell ⟨g,j,none⟩ u):=Mod.setCell (G:=eQ g) (p:=⟨g,j,none⟩) (Mod.refl (eQ g) w) (λ_=>(rfl:g=g)) u
theorem Mod.put(h:Mod (jw N) a w)(b j:Nat)(d:N<=b)(u:Value):Mod (jw N) a (w.setCell ⟨b,j,none⟩ u):=
 Mod.setCell (G:=jw N) (p:=⟨b,j,none⟩) h (λ_=>d) u
theorem Mod.since(h:Mod G a b)(k:Mod (jw N) b c)(hN:a.heap.size<=N):Mod G a c:=
 h.trans' k (λi f d=>absurd d (by simp only[jw];omega))
theorem gO(h:w.ownsRow B e size v n xs)(o:Mod G w w')(q:∀k,B<=k->k<w.heap.size->v.ownBlock=some k->¬G k):w'.ownsRow B e size v n xs:=by
 refine⟨h.1,?_⟩;obtain m|⟨g,i,f,rfl,l,j,rest⟩:=h.2
 .exact .inl m
 .have d:=(aF.1 j).1;exact .inr ⟨g,i,f,rfl,l,by rw[o.block g d (q g l d rfl)];exact j,rest⟩
theorem vl{i:Nat}(h:w.ownsRow B e size v n xs)(hB:i<=B):w.ownsRow i e size v n xs:=by
 refine⟨h.1,?_⟩;obtain j|⟨g,f,d,h0,k,rest⟩:=h.2
 .exact .inl j
 .exact .inr ⟨g,f,d,h0,aO hB k,rest⟩
theorem fU(h:w.ownsRow B e size v n xs):∃a d,v=.slice a n d:=by
 obtain⟨rfl,rfl⟩|⟨g,d,cur,rfl,_⟩:=h.2
 .exact⟨_,_,rfl⟩
 .exact⟨_,_,rfl⟩
structure gB where
 key:ByteArray
 val:ByteArray
 gone:Bool
structure eH where
 kind:Int
 I:Int
 time:Int
 writes:List gB
structure eG where
 kind:Int
 eP:Int
 C3:Int
 dv:Int
 n:Int
 z:eH
def tC:eH:=⟨0,0,0,[]⟩
def yOl:eG:=⟨0,0,0,0,0,tC⟩
end Go.Proofs.YtmaiggbnceejiaaGreatDoor
namespace Go.Proofs.YtmaiggbnceejiaaGreatDoor
open Go.RowKit
open Go.RowKit
open Go.RowKit
open Go.RowKit
open Go.RowKit
open Go.RowKit Go.Lib
open Go.ChangeShapes Go.WideShapes Go.RowKit Go.Deep
variable {P:Program}{w w':World}{fn:Func}{p:Tmp}{ty t:TypeId}{v a b c d a0 a1 a2 a3 a4 a5 a6 a7 a8 wv:Value}{g B N L k:Nat}{x:Int}{ps:List gB}{G:Nat->Prop}{mr:Option Nat}{ds:List Int}{ms:List eG}
theorem Vj(h:fn.results=#[.cell p ty])(e:Array Value)(a:Addr)(f:e.getD p undef=.pointer (some a))(i:(loadVar ty a).run P w=.ok v w):(results fn e).run P w=.ok v w:=by
 simp only[results,h];simp only[List.mapM_toArray,List.mapM_cons,List.mapM_nil];simp[f,i,asAddr]
theorem Tryz.Cb:(Tryz.prog.info? 68).map (λi=>(i.zero,i.size,i.bytes))=some (some (.agg #[.string ⟨#[]⟩,.string ⟨#[]⟩,.bool false]),3,40):=by kernel_rfl
def pN(p:gB):List Value:=[.string p.key,.string p.val,.bool p.gone]
theorem vD(h:dx w g [a,b,c,d] t):w.cell? ⟨g,0,none⟩=some a/\w.cell? ⟨g,1,none⟩=some b/\w.cell? ⟨g,2,none⟩=some c/\w.cell? ⟨g,3,none⟩=some d/\w.frozen? ⟨g,0,none⟩=false/\w.frozen? ⟨g,1,none⟩=false/\w.frozen? ⟨g,2,none⟩=false/\w.frozen? ⟨g,3,none⟩=false:=
 ⟨h.cell 0 rfl,h.cell 1 rfl,h.cell 2 rfl,h.cell 3 rfl,h.frozen 0,h.frozen 1,h.frozen 2,h.frozen 3⟩
theorem yKj(h:dx w B [a,b,c,d] t):(loadVar 65 ⟨B,0,none⟩).run Tryz.prog w=.ok (.agg #[a,b,c,d]) w:=by
 obtain⟨j,i,f,e,_⟩:=vD h;simp[go_sem,j,i,f,e]
theorem ix(h:dx w g [a0,a1,a2,a3,a4,a5,a6,a7,a8] t) :
  (w.cell? ⟨g,0,none⟩=some a0/\w.cell? ⟨g,1,none⟩=some a1/\w.cell? ⟨g,2,none⟩=some a2/\w.cell? ⟨g,3,none⟩=some a3/\w.cell? ⟨g,4,none⟩=some a4/\w.cell? ⟨g,5,none⟩=some a5/\w.cell? ⟨g,6,none⟩=some a6/\w.cell? ⟨g,7,none⟩=some a7/\w.cell? ⟨g,8,none⟩=some a8) /\
  (w.frozen? ⟨g,0,none⟩=false/\w.frozen? ⟨g,1,none⟩=false/\w.frozen? ⟨g,2,none⟩=false/\w.frozen? ⟨g,3,none⟩=false/\w.frozen? ⟨g,4,none⟩=false/\w.frozen? ⟨g,5,none⟩=false/\w.frozen? ⟨g,6,none⟩=false/\w.frozen? ⟨g,7,none⟩=false/\w.frozen? ⟨g,8,none⟩=false):=
 ⟨⟨h.cell 0 rfl,h.cell 1 rfl,h.cell 2 rfl,h.cell 3 rfl,h.cell 4 rfl,h.cell 5 rfl,h.cell 6 rfl,h.cell 7 rfl,h.cell 8 rfl⟩,
  h.frozen 0,h.frozen 1,h.frozen 2,h.frozen 3,h.frozen 4,h.frozen 5,h.frozen 6,h.frozen 7,h.frozen 8⟩
theorem yBu(h:dx w B [a0,a1,a2,a3,a4,a5,a6,a7,a8] t):(loadVar 112 ⟨B,0,none⟩).run Tryz.prog w=.ok (.agg #[a0,a1,a2,a3,a4,a5,a6,a7,a8]) w:=by
 obtain⟨⟨o,n,m,l,k4,j,i,f,e⟩,_⟩:=ix h;simp[go_sem,o,n,m,l,k4,j,i,f,e]
theorem Ed{u:Tmp}{x:Value}(h:fn.results=#[.cell p ty,.tmp u])(e:Array Value)(a:Addr)(i:e.getD p undef=.pointer (some a))(f:e.getD u undef=x)(j:(loadVar ty a).run P w=.ok v w):(results fn e).run P w=.ok (.tuple #[v,x]) w:=by
 rw[results_cell_tmp h];simp[i,j,f,asAddr]
def Fq(w:World)(N:Nat)(u0 u1 u2 u3 u4 u5 u6 u7 u8:Value):World:=(((((((((w.setCell ⟨N,0,none⟩ u0).setCell ⟨N,1,none⟩ u1).setCell ⟨N,2,none⟩ u2).setCell ⟨N,3,none⟩ u3).setCell ⟨N,4,none⟩ u4).setCell ⟨N,5,none⟩ u5).setCell ⟨N,6,none⟩ u6).setCell ⟨N,7,none⟩ u7).setCell ⟨N,8,none⟩ u8)
theorem yUq(hB:dx w N [a0,a1,a2,a3,a4,a5,a6,a7,a8] t)(u0 u1 u2 u3 u4 u5 u6 u7 u8:Value):dx (Fq w N u0 u1 u2 u3 u4 u5 u6 u7 u8) N [u0,u1,u2,u3,u4,u5,u6,u7,u8] t:=
 (((((((((hB.set 0 _).set 1 _).set 2 _).set 3 _).set 4 _).set 5 _).set 6 _).set 7 _).set 8 _)
theorem Qy(w:World)(N:Nat)(u0 u1 u2 u3 u4 u5 u6 u7 u8:Value):Mod (eQ N) w (Fq w N u0 u1 u2 u3 u4 u5 u6 u7 u8):=
 (((((((Mod.eE N 0 u0).trans (Mod.eE N 1 u1)).trans (Mod.eE N 2 u2)).trans (Mod.eE N 3 u3)).trans (Mod.eE N 4 u4)).trans (Mod.eE N 5 u5)).trans (Mod.eE N 6 u6)).trans ((Mod.eE N 7 u7).trans (Mod.eE N 8 u8))
theorem yKa(hB:dx w N [a0,a1,a2,a3,a4,a5,a6,a7,a8] t)(u0 u1 u2 u3 u4 u5 u6 u7 u8:Value):(loadVar 112 ⟨N,0,none⟩).run Tryz.prog (Fq w N u0 u1 u2 u3 u4 u5 u6 u7 u8)=.ok (.agg #[u0,u1,u2,u3,u4,u5,u6,u7,u8]) (Fq w N u0 u1 u2 u3 u4 u5 u6 u7 u8):=yBu (yUq hB u0 u1 u2 u3 u4 u5 u6 u7 u8)
def wT(m:eG)(v:Value):Value:=.agg #[.int .i64 m.kind,.int .i64 m.eP,.int .i64 m.C3,.int .i64 m.dv,.int .i64 m.n,.int .i64 m.z.kind,.int .i64 m.z.I,.int .i64 m.z.time,v]
theorem Tryz.Cc:(Tryz.prog.info? 65).map (λi=>(i.zero,i.size,i.bytes))=some (some (.agg #[.int .i64 0,.int .i64 0,.int .i64 0,.slice none 0 0]),4,48):=by kernel_rfl
def yx(c:eH)(v:Value):List Value:=[.int .i64 c.kind,.int .i64 c.I,.int .i64 c.time,v]
def CL:List eH->List Value->List Value
|c::f,v::e=>yx c v++CL f e
|_,_=>[]
theorem zRc:∀(f:List eH) (e:List Value) (c:eH) (v:Value),e.length=f.length->CL (f++[c]) (e++[v])=CL f e++yx c v
|[],[],c,v,_=>by simp[CL]
|[],_::_,_,_,h=>by simp at h
|_::_,[],_,_,h=>by simp at h
|j::f,i::e,c,v,h=>by simp[CL,zRc f e c v (by simpa using h)]
theorem ySl(c:eH)(a:Option Addr)(n cap:Nat):∀u∈yx c (.slice a n cap),u.oneCell'=true:=by
 intro u e;simp[yx]at e;obtain rfl|rfl|rfl|rfl:=e <;> rfl
theorem eC{p:Prop}(h:p):Hid p:=h
def yTl(w:World)(L:Nat)(v:Value)(ps:List gB):Prop:=
 ∃a f,v=.slice a ps.length f/\ps.length<=f/\f<=maxLen /\
  (ps=[]\/∃b e,a=some ⟨b,e,none⟩/\b<L/\∀j p,ps[j]?=some p->w.cell? ⟨b,e+j*3,none⟩=some (.string p.key)/\w.cell? ⟨b,e+j*3+1,none⟩=some (.string p.val)/\w.cell? ⟨b,e+j*3+2,none⟩=some (.bool p.gone))
theorem yYq:∀(ps:List gB) (j:Nat) (p:gB),ps[j]?=some p->(ps.flatMap pN)[j*3]?=some (.string p.key)/\(ps.flatMap pN)[j*3+1]?=some (.string p.val)/\(ps.flatMap pN)[j*3+2]?=some (.bool p.gone)
|[],j,p,h=>by simp at h
|q::ps,0,p,h=>by simp at h;subst h;simp[pN]
|q::ps,j+1,p,h=>by
  have f:=yYq ps j p (by simpa using h);have e:∀i,((q::ps).flatMap pN)[i+3]?=(ps.flatMap pN)[i]?:=λi=>by
   simp[pN]
  rw[show(j+1)*3=j*3+3 by omega,show j*3+3+1=j*3+1+3 by omega,show j*3+3+2=j*3+2+3 by omega,e,e,e];exact f
theorem yTl.iX(h:w.ownsRow B 68 3 v ps.length (ps.flatMap pN))(o:w.heap.size<=L):yTl w L v ps:=by
 obtain⟨rfl,h0⟩|⟨g,cap,cur,rfl,_,hg,h1,h2,_,_⟩:=h.2
 .have:ps=[]:=aR h0;subst this;exact⟨none,0,rfl,aD _,aT _,.inl rfl⟩
 .have f:=h.cells (g:=g) rfl;have e:∀j,(⟨g,0,none⟩:Addr).add j=⟨g,0+j,none⟩:=λj=>by unfold Addr.add;split <;> simp_all
  refine⟨_,cap,rfl,h1,h2,.inr ⟨g,0,rfl,by have:=(aF.1 hg).1;omega,λj p i=>?_⟩⟩;obtain⟨n,m,l⟩:=yYq ps j p i;refine⟨?_,?_,?_⟩
  .have:=f _ _ n;rw[e]at this;exact this
  .have:=f _ _ m;rw[e]at this;rw[cj];exact this
  .have:=f _ _ l;rw[e]at this;rw[cj];exact this
section
variable {H:Type}{enc:TypeId×Value->H}{P:Program}{w:World}{base:Nat}{spare:Nat->Bool}{held:Bool}
end
section
variable {H:Type}{enc:TypeId×Value->H}{w:World}{base:Nat}{spare:Nat->Bool}{held:Bool}
def gi(x:Int):Prop:=-9223372036854775808<=x/\x<=9223372036854775807
def JF(c:eH):Prop:=gi c.kind/\gi c.I/\gi c.time
def yYh(m:eG):Prop:=gi m.kind/\gi m.eP/\gi m.C3/\gi m.dv/\gi m.n/\JF m.z
instance:Inhabited gB:=⟨⟨ByteArray.empty,ByteArray.empty,false⟩⟩
instance:Inhabited eH:=⟨tC⟩
instance:Inhabited eG:=⟨yOl⟩
end
end Go.Proofs.YtmaiggbnceejiaaGreatDoor
namespace Go.Proofs.YtmaiggbnceejiaaGreatDoor
open Go.RowKit Go.Lib Go.Maps
variable {P:Program}{w w':World}{fn:Func}{p:Tmp}{ty t:TypeId}{v a b c d a0 a1 a2 a3 a4 a5 a6 a7 a8 wv:Value}{g B N L k:Nat}{x:Int}{ps:List gB}{G:Nat->Prop}{mr:Option Nat}{ds:List Int}{ms:List eG}
theorem CX:Keyed Tryz.prog 3:=int_keyed Tryz.underlying3
theorem yJl(w:World):(zeroValue 158).run Tryz.prog w=.ok (.agg #[]) w:=by kernel_rfl
def qy(w:World)(L:Nat)(mr:Option Nat)(ds:List Int):Prop:=
 (mr=none/\ds=[])\/∃b,∃D:DataW Unit,mr=some b/\L<=b/\w.ownsMap Tryz.prog 3 unitElem b ds.length D/\∀x,(Lit.int .i64 x).wf=true->Maps.has D (.int .i64 x)=decide (x∈ds)
theorem qy.mod(h:qy w L mr ds)(i:Mod G w w')(l:∀k,mr=some k->¬G k):qy w' L mr ds:=by
 obtain h|⟨b,D,rfl,n,f,m⟩:=h
 .exact .inl h
 .have e:=f.lt;obtain⟨o,clock,j,r⟩:=f;exact .inr ⟨b,D,rfl,n,⟨o,clock,(i.block b e (l b rfl)).trans j,r⟩,m⟩
theorem Qd(h:gi x):(Lit.int .i64 x).wf=true:=WalkArith.wf_i64 ⟨h.1,h.2⟩
theorem KW(h:qy w L mr ds)(f:gi x) :
  (Instr.lookup 75 (.map mr) (.int .i64 x) true).run Tryz.prog w=.ok (.tuple #[.agg #[],.bool (decide (x∈ds))]) w:=by
 have i:keyOf Tryz.prog 3 (.int .i64 x)=some (.int .i64 x):=keyOf_int_mk Tryz.underlying3 (Qd f);obtain⟨rfl,rfl⟩|⟨b,D,rfl,_,h3,h4⟩:=h
 .have:=Maps.look_nil (w:=w) true CX Tryz.underlying75 (yJl w) i;simpa using this
 .obtain⟨v,ps,e,j⟩:=h3.look_ok CX Tryz.underlying75 (yJl w) unitElem_mk i;obtain⟨rfl,_⟩:=unitElem_inv j;rw[e,h4 x (Qd f)]
def rF(ds:List Int)(m:eG):Bool:=decide (m.eP∈ds)||decide (m.C3∈ds)
theorem zUy(g q L:Nat)(m:eG)(u:Value)(mr:Option Nat)(ds:List Int)(w:World)(Q:w.cell? ⟨q,0,none⟩=some (.pointer (some ⟨g,2,none⟩)))(f:w.cell? ⟨g,4,none⟩=some (.map mr))(R:qy w L mr ds)(s:yYh m) :
  Calls Tryz.prog 131 #[.agg #[.int .i64 m.kind,.int .i64 m.eP,.int .i64 m.C3,.int .i64 m.dv,.int .i64 m.n,.int .i64 m.z.kind,.int .i64 m.z.I,.int .i64 m.z.time,u],.pointer (some ⟨q,0,none⟩)] w λe w'=>e=.returned (.bool (rF ds m))/\Mod dt w w':=by
 obtain⟨w1,hw1⟩:∃q,q=w.alloc (.cells #[.int .i64 m.kind,.int .i64 m.eP,.int .i64 m.C3,.int .i64 m.dv,.int .i64 m.n,.int .i64 m.z.kind,.int .i64 m.z.I,.int .i64 m.z.time,u] 112):=⟨_,rfl⟩;have y:dx w1 w.heap.size [.int .i64 m.kind,.int .i64 m.eP,.int .i64 m.C3,.int .i64 m.dv,.int .i64 m.n,.int .i64 m.z.kind,.int .i64 m.z.I,.int .i64 m.z.time,u] 112:=by rw[hw1];exact dx.new w _ _
 have o:Mod dt w w1:=by rw[hw1];exact(Mod.refl _ w).alloc _
 have i:=o.cell Q id;have j:=o.cell f id;have h:=R.mod o (λ_ _=>id);have A:(Instr.lookup 75 (.map mr) (.int .i64 m.eP) true).run Tryz.prog w1.drew=.ok (.tuple #[.agg #[],.bool (decide (m.eP∈ds))]) w1.drew:=KW (h.mod ((Mod.refl dt w1).drew) (λ_ _=>id)) s.2.1;have E:(Instr.lookup 75 (.map mr) (.int .i64 m.eP) true).run Tryz.prog (w1.alloc (.cells #[] 158)).drew=.ok (.tuple #[.agg #[],.bool (decide (m.eP∈ds))]) (w1.alloc (.cells #[] 158)).drew:=KW (h.mod (((Mod.refl dt w1).alloc _).drew) (λ_ _=>id)) s.2.1;obtain⟨⟨c0,Z,Y,X,W,V,U,T,S⟩,_⟩:=ix y;have M:=y.lt;have K:q<w1.heap.size:=AC w1 _ i;have J:g<w1.heap.size:=AC w1 _ j;have F:=eC s;have HD:=eC h;clear Q f R s h;go_enter Tryz.func131,Tryz.ntmps131;go_wp2_with fail;rw[<-hw1];clear hw1;go_cut [5] (λt wc=>t=.bool (decide (m.eP∈ds))/\dx wc w.heap.size [.int .i64 m.kind,.int .i64 m.eP,.int .i64 m.C3,.int .i64 m.dv,.int .i64 m.n,.int .i64 m.z.kind,.int .i64 m.z.I,.int .i64 m.z.time,u] 112/\Mod dt w1 wc)
 case first=>
  go_region
  all_goals
   go_wp2_with fail;go_meet
   case rel=>exact⟨rfl,y.mod ((Mod.refl dt w1).alloc _).drew id,((Mod.refl dt w1).alloc _).drew⟩
 case rest=>
  obtain⟨rfl,O,r⟩:=hcut;have C:=r.cell i id;have f:=r.cell j id;have l:=qy.mod HD.out r (λ_ _=>id);clear A E c0 Z Y X W V U T S i j M K J y;have A:(Instr.lookup 75 (.map mr) (.int .i64 m.C3) true).run Tryz.prog wc.drew=.ok (.tuple #[.agg #[],.bool (decide (m.C3∈ds))]) wc.drew:=KW (l.mod ((Mod.refl dt wc).drew) (λ_ _=>id)) F.out.2.2.1;have E:(Instr.lookup 75 (.map mr) (.int .i64 m.C3) true).run Tryz.prog (wc.alloc (.cells #[] 158)).drew=.ok (.tuple #[.agg #[],.bool (decide (m.C3∈ds))]) (wc.alloc (.cells #[] 158)).drew:=KW (l.mod (((Mod.refl dt wc).alloc _).drew) (λ_ _=>id)) F.out.2.2.1;obtain⟨⟨c0,Z,Y,X,W,V,U,T,S⟩,_⟩:=ix O;have M:=O.lt;have K:q<wc.heap.size:=AC wc _ C;have J:g<wc.heap.size:=AC wc _ f;clear l HD F;go_upto_region 2 with fail;go_cut [7] (λt wd=>t=.bool (decide (m.C3∈ds))/\Mod dt wc wd)
  case first=>
   go_region
   all_goals
    go_wp2_with fail;go_meet
    case rel=>exact⟨rfl,((Mod.refl dt wc).alloc _).drew⟩
  case rest=>
   obtain⟨rfl,D⟩:=hcut;clear A E;have hM:=(o.trans r).trans D
   cases h1:decide (m.eP∈ds) <;> cases h2:decide (m.C3∈ds)
   all_goals
    go_wp2_with fail;go_ret;exact⟨by simp only[rF,h1,h2];rfl,hM⟩
structure Lo where
 n:Nat
 x:Nat->Prop
instance:Coe Lo Nat:=⟨Lo.n⟩
def St(w:World)(L:Lo)(k:Nat):Prop:=k<L.n\/(∃e f,w.heap[k]?=some (.cells e 68 f))/\¬L.x k
def Qm(w:World)(L:Lo)(G:Nat->Prop):Prop:=∀k,k<w.heap.size->G k->¬St w L k
theorem Qm.none(w:World)(L:Lo):Qm w L dt:=λ_ _ h=>h.elim
theorem St.mod{L:Lo}(h:St w L k)(m:Mod G w w')(l:Qm w L G):St w' L k:=by
 obtain h|⟨⟨f,j,h⟩,i⟩:=h
 .exact .inl h
 .have e:=(aF.1 h).1;exact .inr ⟨⟨f,j,(m.block k e (λg=>l k e g (.inr ⟨⟨f,j,h⟩,i⟩))).trans h⟩,i⟩
def ie(w:World)(L:Lo)(v:Value)(ps:List gB):Prop:=
 ∃a f,v=.slice a ps.length f/\ps.length<=f/\f<=maxLen /\
  (ps=[]\/∃b e,a=some ⟨b,e,none⟩/\St w L b/\∀j p,ps[j]?=some p->w.cell? ⟨b,e+j*3,none⟩=some (.string p.key)/\w.cell? ⟨b,e+j*3+1,none⟩=some (.string p.val)/\w.cell? ⟨b,e+j*3+2,none⟩=some (.bool p.gone))
theorem ie.mod{L:Lo}(h:ie w L v ps)(r:Mod G w w')(q:Qm w L G):ie w' L v ps:=by
 obtain⟨a,n,C,A,z,m⟩:=h;refine⟨a,n,C,A,z,?_⟩;obtain m|⟨b,e,y,s,l⟩:=m
 .exact .inl m
 .have i:∀(j:Nat) (u:Value),w.cell? ⟨b,j,none⟩=some u->w'.cell? ⟨b,j,none⟩=some u:=λj u o=>r.cell o (λg=>q b (AC w _ o) g s);exact .inr ⟨b,e,y,s.mod r q,λj p f=>⟨i _ _ (l j p f).1,i _ _ (l j p f).2.1,i _ _ (l j p f).2.2⟩⟩
theorem ie.iX{L:Lo}(h:w.ownsRow B 68 3 v ps.length (ps.flatMap pN))(n:∀k,L.x k->k<B):ie w L v ps:=by
 have o:=yTl.iX h (aD _);obtain⟨a,j,f,s,r,i⟩:=o;refine⟨a,j,f,s,r,?_⟩;obtain i|⟨b,m,l,u,q⟩:=i
 .exact .inl i
 .obtain⟨h0,h0'⟩|⟨g,cap',cur,h0,hBg,hg,_⟩:=h.2
  .exact .inl (aR h0')
  .rw[h0]at f;simp only[Value.slice.injEq]at f;rw[l]at f;simp at f;obtain⟨⟨rfl,rfl⟩,rfl⟩:=f;exact .inr ⟨g,0,l,.inr ⟨⟨cur,_,hg⟩,λe=>by have:=n _ e;omega⟩,q⟩
theorem ie.nil(w:World)(L:Lo):ie w L (.slice none 0 0) []:=⟨none,0,rfl,aD _,aT _,.inl rfl⟩
def kG(m:eG)(u:Value):List Value:=[.int .i64 m.kind,.int .i64 m.eP,.int .i64 m.C3,.int .i64 m.dv,.int .i64 m.n,.int .i64 m.z.kind,.int .i64 m.z.I,.int .i64 m.z.time,u]
theorem yHv(m:eG)(a:Option Addr)(n cap:Nat):∀u∈kG m (.slice a n cap),u.oneCell'=true:=by
 intro u e;simp[kG]at e;obtain rfl|rfl|rfl|rfl|rfl|rfl|rfl|rfl|rfl:=e <;> rfl
theorem zQt(ps:List gB):∀u∈ps.flatMap pN,u.oneCell'=true:=by
 intro u f;obtain⟨p,_,e⟩:=cV.1 f;simp[pN]at e;obtain rfl|rfl|rfl:=e <;> rfl
theorem zMk(ps:List gB):(ps.flatMap pN).length=ps.length*3:=by
 induction ps with
|nil=>rfl
|cons p ps e=>simp only[bN,aE,e,pN,aW,bC];omega
theorem ie.cells{L:Lo}{a:Option Addr}{n cap:Nat}(h:ie w L (.slice a n cap) ps)(h0:ps≠[]) :
  ∃b f,a=some ⟨b,f,none⟩/\∀(j:Nat) u,(ps.flatMap pN)[j]?=some u->w.cell? ((⟨b,f,none⟩:Addr).add j)=some u:=by
 obtain⟨J,z,q,_,_,m⟩:=h;simp only[Value.slice.injEq]at q;obtain⟨rfl,_,rfl⟩:=q;obtain m|⟨b,f,E,I,D⟩:=m
 .exact absurd m h0
 .refine⟨b,f,E,λj u i=>?_⟩;rw[A1];have F:j<ps.length*3:=by
   have:=(aB.1 i).1;rw[zMk]at this;exact this
  obtain⟨p,hp⟩:∃p,ps[j / 3]?=some p:=⟨_,aA (by omega)⟩;obtain⟨y,s,r⟩:=yYq ps (j / 3) p hp;obtain⟨o,C,A⟩:=D (j / 3) p hp;have l:j % 3=0\/j % 3=1\/j % 3=2:=by omega
  obtain l|l|l:=l
  .have e:j / 3*3=j:=by omega
   rw[e]at y o;rw[y]at i;cases i;exact o
  .have e:j / 3*3+1=j:=by omega
   rw[e]at s;rw[s]at i;cases i
   rw[show f+j=f+j / 3*3+1 by omega];exact C
  .have e:j / 3*3+2=j:=by omega
   rw[e]at r;rw[r]at i;cases i
   rw[show f+j=f+j / 3*3+2 by omega];exact A
theorem yJc(a:Option Addr)(cap:Nat)(ty:TypeId)(w:World):(Builtin.append_ #[63,63] ty #[.slice none 0 0,.slice a 0 cap]).run Tryz.prog w=.ok (.slice none 0 0) w:=by
 cases a <;> kernel_rfl
theorem zIy{w:World}{e:Array Oper}{rest:List Oper}{o:Oper}{a:Act}{Q:Exit->Act->World->Prop}(f:o.guard=none)(s x:Operand)
  (n:o.op=.call {callee:=.builtin .append,args:=#[s,x],argTypes:=#[63,63]}) (l:a.eval s=.slice none 0 0) (i:Option Addr) (cap:Nat) (j:a.eval x=.slice i 0 cap)
  (h:wpList Tryz.prog e Q rest (a.put o.dst (.slice none 0 0)) w):wpList Tryz.prog e Q (o::rest) a w:=by
 refine A2 f λK q=>?_;have m:=yJc i cap o.type w;unfold Oper.wp execOp;simp only[n,resolve,invoke,builtin,Sem.run_bind,Sem.run_pure,Result.andThen_ok,cD,bZ,cO,l,j,m];exact q _ _ h
theorem yUu(L:Lo)(m:eG)(u:Value)(w:World)(M:ie w L u m.z.writes)(hl:m.z.writes.length<=1000000) :
  Calls Tryz.prog 90 #[.agg #[.int .i64 m.kind,.int .i64 m.eP,.int .i64 m.C3,.int .i64 m.dv,.int .i64 m.n,.int .i64 m.z.kind,.int .i64 m.z.I,.int .i64 m.z.time,u]] w λe w'=>
   ∃S,e=.returned (wT m S)/\w'.ownsRow w.heap.size 68 3 S m.z.writes.length (m.z.writes.flatMap pN)/\Mod dt w w':=by
 obtain⟨Z,V,J,F,E⟩:=A3 Tryz.Cb;have K:=M;obtain⟨a,o,rfl,hpc,hcm,_⟩:=K;go_enter Tryz.func90,Tryz.ntmps90;by_cases h0:m.z.writes=[]
 .have Q:m.z.writes.length=0:=by rw[h0];rfl
  rw[Q];have HF:Hid (m.z.writes.flatMap pN=[]):=by rw[Hid,h0];rfl
  go_wp2_with (first
  |(at_builtin;refine zIy rfl _ _ rfl rfl _ _ rfl ?_)
  |fail)
  have hb:dx ((w.alloc (.cells #[.int .i64 m.kind,.int .i64 m.eP,.int .i64 m.C3,.int .i64 m.dv,.int .i64 m.n,.int .i64 m.z.kind,.int .i64 m.z.I,.int .i64 m.z.time,.slice none 0 0] 112)).alloc (.cells #[.int .i64 m.kind,.int .i64 m.eP,.int .i64 m.C3,.int .i64 m.dv,.int .i64 m.n,.int .i64 m.z.kind,.int .i64 m.z.I,.int .i64 m.z.time,.slice none 0 0] 112)) (w.heap.size+1) [.int .i64 m.kind,.int .i64 m.eP,.int .i64 m.C3,.int .i64 m.dv,.int .i64 m.n,.int .i64 m.z.kind,.int .i64 m.z.I,.int .i64 m.z.time,.slice none 0 0] 112:=by
   have:=dx.new (w.alloc (.cells #[.int .i64 m.kind,.int .i64 m.eP,.int .i64 m.C3,.int .i64 m.dv,.int .i64 m.n,.int .i64 m.z.kind,.int .i64 m.z.I,.int .i64 m.z.time,.slice none 0 0] 112)) [.int .i64 m.kind,.int .i64 m.eP,.int .i64 m.C3,.int .i64 m.dv,.int .i64 m.n,.int .i64 m.z.kind,.int .i64 m.z.I,.int .i64 m.z.time,.slice none 0 0] 112;rw[A4]at this;exact this
  refine A5 (Vj Tryz.results90 _ ⟨w.heap.size+1,0,none⟩ rfl (yBu hb)) rfl ⟨.slice none 0 0,rfl,?_,((Mod.refl _ w).alloc _).alloc _⟩;rw[HF.out];exact A6 _ _ _ _
 .obtain⟨b,h,rfl,s⟩:=M.cells h0;have C:Mod dt w ((w.alloc (.cells #[.int .i64 m.kind,.int .i64 m.eP,.int .i64 m.C3,.int .i64 m.dv,.int .i64 m.n,.int .i64 m.z.kind,.int .i64 m.z.I,.int .i64 m.z.time,.slice (some ⟨b,h,none⟩) m.z.writes.length o] 112)).alloc (.cells #[.int .i64 0,.int .i64 0,.int .i64 0,.int .i64 0,.int .i64 0,.int .i64 0,.int .i64 0,.int .i64 0,.slice none 0 0] 112)):=((Mod.refl _ w).alloc _).alloc _;have T:Hid (∀(j:Nat) u,(m.z.writes.flatMap pN)[j]?=some u->((w.alloc (.cells #[.int .i64 m.kind,.int .i64 m.eP,.int .i64 m.C3,.int .i64 m.dv,.int .i64 m.n,.int .i64 m.z.kind,.int .i64 m.z.I,.int .i64 m.z.time,.slice (some ⟨b,h,none⟩) m.z.writes.length o] 112)).alloc (.cells #[.int .i64 0,.int .i64 0,.int .i64 0,.int .i64 0,.int .i64 0,.int .i64 0,.int .i64 0,.int .i64 0,.slice none 0 0] 112)).cell? ((⟨b,h,none⟩:Addr).add j)=some u):=λj u Lz=>C.cell (s j u Lz) id;have R:=eC (zMk m.z.writes);have U:=eC (zQt m.z.writes);have Y:0+m.z.writes.length<=maxLen:=by unfold maxLen;omega
  have X:(0+m.z.writes.length)*40<=140737488355328:=by omega
  clear s M;go_wp2_with (first
  |(at_builtin;refine wpList_append_own _ rfl _ _ 63 rfl (w.heap.size+1+1) 68 Z _ 3 40 Tryz.underlying63 V J F E rfl (by omega) _ _ _ rfl (A6 _ _ _ _) ⟨b,h,none⟩ _ _ (m.z.writes.flatMap pN) rfl R.out T.out U.out Y X (by simp) ?_)
  |fail)
  intro v' w1 f l _;have A:=(Mod.refl dt _).grown l (λx hx _=>by simp[Value.ownBlock]at hx);have gM:=((dx.new w [.int .i64 m.kind,.int .i64 m.eP,.int .i64 m.C3,.int .i64 m.dv,.int .i64 m.n,.int .i64 m.z.kind,.int .i64 m.z.I,.int .i64 m.z.time,.slice (some ⟨b,h,none⟩) m.z.writes.length o] 112).mod ((Mod.refl dt _).alloc (.cells #[.int .i64 0,.int .i64 0,.int .i64 0,.int .i64 0,.int .i64 0,.int .i64 0,.int .i64 0,.int .i64 0,.slice none 0 0] 112)) id).mod A id;have D:=(dx.new (w.alloc (.cells #[.int .i64 m.kind,.int .i64 m.eP,.int .i64 m.C3,.int .i64 m.dv,.int .i64 m.n,.int .i64 m.z.kind,.int .i64 m.z.I,.int .i64 m.z.time,.slice (some ⟨b,h,none⟩) m.z.writes.length o] 112)) [.int .i64 0,.int .i64 0,.int .i64 0,.int .i64 0,.int .i64 0,.int .i64 0,.int .i64 0,.int .i64 0,.slice none 0 0] 112).mod A id;rw[A4]at D;have W:=C.trans A;obtain⟨⟨x0,x1,x2,x3,x4,x5,x6,x7,x8⟩,⟨y0,y1,y2,y3,y4,y5,y6,y7,y8⟩⟩:=ix gM;obtain⟨⟨p0,p1,p2,p3,p4,p5,p6,p7,p8⟩,⟨q0,q1,q2,q3,q4,q5,q6,q7,q8⟩⟩:=ix D;obtain⟨r,q,rfl⟩:=fU f;have HO:=eC f;clear f l A T R U C;go_wp2_with fail;have y:=D.mod (Mod.eE (w:=w1) w.heap.size 8 (.slice r m.z.writes.length q)) (by simp[eQ]);have O:w1.ownsRow (w.heap.size+1+1) 68 3 (.slice r m.z.writes.length q) m.z.writes.length (m.z.writes.flatMap pN):=by simpa using HO.out
  refine A5 (Vj Tryz.results90 _ ⟨w.heap.size+1,0,none⟩ rfl (yKa y _ _ _ _ _ _ _ _ _)) rfl ⟨.slice r m.z.writes.length q,rfl,?_,?_⟩
  .refine vl (gO (G:=eQ (w.heap.size+1)) (gO (G:=eQ w.heap.size) O (Mod.eE _ 8 _) (λk hk _ _ e=>by simp only[eQ]at e;omega)) (Qy _ _ _ _ _ _ _ _ _ _ _) (λk hk _ _ e=>by simp only[eQ]at e;omega)) (by omega)
  .have h1:Mod (jw w.heap.size) w (w1.setCell ⟨w.heap.size,8,none⟩ (.slice r m.z.writes.length q)):=Mod.put (W.mono (λ_ _ e=>e.elim)) _ _ (aD _) _;have h2:=h1.trans ((Qy (w1.setCell ⟨w.heap.size,8,none⟩ (.slice r m.z.writes.length q)) (w.heap.size+1) (.int .i64 m.kind) (.int .i64 m.eP) (.int .i64 m.C3) (.int .i64 m.dv) (.int .i64 m.n) (.int .i64 m.z.kind) (.int .i64 m.z.I) (.int .i64 m.z.time) (.slice r m.z.writes.length q)).mono (G':=jw w.heap.size) (λi _ e=>by simp only[eQ,jw]at e⊢;omega));exact h2.mono (λi V e=>by simp only[jw]at e;omega)
def iW:List eG->List Value->List Value
|m::ms,u::e=>kG m u++iW ms e
|_,_=>[]
theorem Wf:∀(ms:List eG) (us:List Value) (m:eG) (u:Value),us.length=ms.length->iW (ms++[m]) (us++[u])=iW ms us++kG m u
|[],[],m,u,_=>by simp[iW]
|[],_::_,_,_,h=>by simp at h
|_::_,[],_,_,h=>by simp at h
|f::ms,e::us,m,u,h=>by simp[iW,Wf ms us m u (by simpa using h)]
theorem Ef:∀(ms:List eG) (us:List Value),us.length=ms.length->(iW ms us).length=ms.length*9
|[],_,_=>by simp[iW]
|_::_,[],h=>by simp at h
|m::ms,u::us,h=>by simp only[iW,aE,Ef ms us (by simpa using h),kG,aW,bC];omega
theorem zTr:∀(ms:List eG) (us:List Value) (i:Nat) (m:eG) (u:Value),us.length=ms.length->ms[i]?=some m->us[i]?=some u->∀j x,(kG m u)[j]?=some x->(iW ms us)[i*9+j]?=some x
|[],_,_,_,_,_,h,_,_,_,_=>by simp at h
|_::_,[],_,_,_,h,_,_,_,_,_=>by simp at h
|o::ms,n::us,0,m,u,_,h,l,j,x,f=>by
  simp at h l;subst h l;have r:j<(kG o n).length:=(aB.1 f).1;rw[cr,aY,iW,aG r];exact f
|o::ms,n::us,i+1,m,u,q,h,l,j,x,f=>by
  have:=zTr ms us i m u (by simpa using q) (by simpa using h) (by simpa using l) j x f;have e:(i+1)*9+j=(kG o n).length+(i*9+j):=by simp[kG];omega
  rw[e,iW,aL (by omega),Nat.add_sub_cancel_left];exact this
def sE(m:eG):Prop:=yYh m/\m.z.writes.length<=40
def fF(w:World)(L:Lo)(v:Value)(ms:List eG):Prop:=
 ∃e:List Value,e.length=ms.length/\w.ownsRow L 112 9 v ms.length (iW ms e)/\(∀(i:Nat) m u,ms[i]?=some m->e[i]?=some u->ie w L u m.z.writes)/\∀m∈ms,sE m
theorem fF.nil(w:World)(L:Lo):fF w L (.slice none 0 0) []:=⟨[],rfl,A6 _ _ _ _,λi m u h=>by simp at h,by simp⟩
theorem fF.mod{L:Lo}(h:fF w L v ms)(f:Mod G w w')(n:Qm w L G)(q:∀k,v.ownBlock=some k->¬G k):fF w' L v ms:=by
 obtain⟨j,z,y,s,r⟩:=h;exact⟨j,z,gO y f (λk _ _ e=>q k e),λi m u o l=>(s i m u o l).mod f n,r⟩
theorem fF.at{L:Lo}(h:fF w L v ms){i:Nat}{m:eG}(l:ms[i]?=some m) :
  ∃g f u,v=.slice (some ⟨g,0,none⟩) ms.length f/\ms.length<=f/\f<=maxLen/\ie w L u m.z.writes/\sE m /\
   w.cell? ⟨g,i*9,none⟩=some (.int .i64 m.kind)/\w.cell? ⟨g,i*9+1,none⟩=some (.int .i64 m.eP)/\w.cell? ⟨g,i*9+2,none⟩=some (.int .i64 m.C3)/\w.cell? ⟨g,i*9+3,none⟩=some (.int .i64 m.dv)/\w.cell? ⟨g,i*9+4,none⟩=some (.int .i64 m.n) /\
   w.cell? ⟨g,i*9+5,none⟩=some (.int .i64 m.z.kind)/\w.cell? ⟨g,i*9+6,none⟩=some (.int .i64 m.z.I)/\w.cell? ⟨g,i*9+7,none⟩=some (.int .i64 m.z.time)/\w.cell? ⟨g,i*9+8,none⟩=some u:=by
 obtain⟨o,E,q,D,C⟩:=h;have y:i<ms.length:=(aB.1 l).1;obtain⟨u,hu⟩:∃u,o[i]?=some u:=⟨_,aA (by omega)⟩;obtain⟨_,h0⟩|⟨g,f,cur,rfl,_,hg,hc1,hc2,_,_⟩:=q.2
 .omega
 .have A:=q.cells (g:=g) rfl;have r:∀j,(⟨g,0,none⟩:Addr).add j=⟨g,j,none⟩:=λj=>by rw[A1,aY]
  have e:∀j x,(kG m u)[j]?=some x->w.cell? ⟨g,i*9+j,none⟩=some x:=λj x s=>by
   have:=A _ _ (zTr ms o i m u E l hu j x s);rw[r]at this;exact this
  exact⟨g,f,u,rfl,hc1,hc2,D i m u l hu,C m (aC l),e 0 _ rfl,e 1 _ rfl,e 2 _ rfl,e 3 _ rfl,e 4 _ rfl,e 5 _ rfl,e 6 _ rfl,e 7 _ rfl,e 8 _ rfl⟩
structure Ext where
 (a0 a1 a5 a6:Value)
structure fS where
 way:List eG
 lost:Int
 down:List Int
variable {E:Ext}
structure gA(E:Ext)(w:World)(L:Lo)(g:Nat)(wv:Value)(mr:Option Nat)(s:fS):Prop where
 Z:dx w g [E.a0,E.a1,wv,.int .i64 s.lost,.map mr,E.a5,E.a6] 84
 low:L<=g
 row:fF w L wv s.way
 dn:qy w L mr s.down
 few:s.way.length<=200
 lo:0<=s.lost/\s.lost<=4611686018427387904
 xb:∀k,L.x k->k<w.heap.size
def oE(g:Nat)(wv:Value)(mr:Option Nat)(k:Nat):Prop:=k=g\/wv.ownBlock=some k\/mr=some k
theorem gA.lt{L:Lo}{s:fS}(h:gA E w L g wv mr s)(f:oE g wv mr k):L<=k/\k<w.heap.size/\¬St w L k:=by
 obtain rfl|f|f:=f
 .refine⟨h.low,h.Z.lt,?_⟩;rintro(e|⟨⟨m,n,e⟩,_⟩)
  .have:=h.low;omega
  .have:=h.Z;simp only[dx]at this;rw[this]at e;simp at e
 .obtain⟨q,_,l,_⟩:=h.row;obtain⟨e,_⟩|⟨g',cap,m,e,h1,hg,_⟩:=l.2
  .rw[e]at f;simp[Value.ownBlock]at f
  .rw[e]at f;simp[Value.ownBlock]at f;subst f;refine⟨h1,(aF.1 hg).1,?_⟩;rintro(i|⟨⟨j,n,i⟩,_⟩)
   .omega
   .rw[hg]at i;simp at i
 .obtain⟨e,_⟩|⟨b,D,e,h1,l,_⟩:=h.dn
  .rw[e]at f;cases f
  .rw[e]at f;cases f
   refine⟨h1,l.lt,?_⟩;obtain⟨r,clock,o,_⟩:=l;rintro(i|⟨⟨j,n,i⟩,_⟩)
   .omega
   .rw[o]at i;simp at i
theorem gA.qm{L:Lo}{s:fS}(h:gA E w L g wv mr s):Qm w L (oE g wv mr):=λ_ _ e=>(h.lt e).2.2
theorem gA.mod{L:Lo}{s:fS}(h:gA E w L g wv mr s)(f:Mod G w w')(j:Qm w L G)(i:∀k,oE g wv mr k->¬G k):gA E w' L g wv mr s:=
 ⟨h.Z.mod f (i g (.inl rfl)),h.low,h.row.mod f j (λk e=>i k (.inr (.inl e))),h.dn.mod f (λk e=>i k (.inr (.inr e))),h.few,h.lo,λk e=>aJ (h.xb k e) f.size⟩
theorem fF.slice{L:Lo}(h:fF w L v ms):∃a e,v=.slice a ms.length e:=by
 obtain⟨i,_,f,_⟩:=h;exact fU f
theorem yBg(L:Lo)(g:Nat)(wv:Value)(mr:Option Nat)(s:fS)(w:World)(h:gA E w L g wv mr s) :
  Calls Tryz.prog 89 #[.pointer (some ⟨g,2,none⟩)] w λe w'=>e=.returned (.bool (decide (s.way.length<200)))/\w'=w:=by
 obtain⟨a,f,rfl⟩:=h.row.slice;have j:=h.Z.cell 2 rfl;have i:decide ((s.way.length:Int)<200)=decide (s.way.length<200):=decide_eq_decide.2 (by omega);clear h;go_enter Tryz.func89,Tryz.ntmps89;go_wp2_with fail;go_ret;exact⟨rfl,rfl⟩
theorem yVi(L:Lo)(g:Nat)(wv:Value)(mr:Option Nat)(s:fS)(w:World)(h:gA E w L g wv mr s) :
  Calls Tryz.prog 53 #[.pointer (some ⟨g,2,none⟩)] w λe w'=>e=.returned (.int .i64 s.way.length)/\w'=w:=by
 obtain⟨a,f,rfl⟩:=h.row.slice;have i:=h.Z.cell 2 rfl;clear h;go_enter Tryz.func53,Tryz.ntmps53;go_wp2_with fail;go_ret;exact⟨rfl,rfl⟩
def hasB(s:fS)(k:Int):Bool:=decide (0<=k)&&decide (k<(s.way.length:Int))
theorem QX(L:Lo)(g:Nat)(wv:Value)(mr:Option Nat)(s:fS)(k:Int)(w:World)(h:gA E w L g wv mr s) :
  Calls Tryz.prog 94 #[.pointer (some ⟨g,2,none⟩),.int .i64 k] w λe w'=>e=.returned (.bool (hasB s k))/\w'=w:=by
 obtain⟨a,j,rfl⟩:=h.row.slice;have l:=h.Z.cell 2 rfl;clear h;go_enter Tryz.func94,Tryz.ntmps94;by_cases i:0<=k
 .have f:decide (0<=k)=true:=by simpa using i
  go_wp2_with fail;go_ret;exact⟨by simp only[hasB,f,Bool.true_and];rfl,rfl⟩
 .have f:decide (0<=k)=false:=by simpa using i
  go_wp2_with fail;go_ret;exact⟨by simp only[hasB,f,Bool.false_and];rfl,rfl⟩
theorem zYs(g:Nat)(w:World) :
  Calls Tryz.prog 88 #[.pointer (some ⟨g,2,none⟩)] w λe w'=>w'=w.alloc (.cells #[.pointer (some ⟨g,2,none⟩)] 147)/\e=.returned (.func (.func 131) #[] #[.pointer (some ⟨w.heap.size,0,none⟩)]):=by
 go_enter Tryz.func88,Tryz.ntmps88;go_wp2_with fail;go_ret;exact⟨rfl,rfl⟩
end Go.Proofs.YtmaiggbnceejiaaGreatDoor
namespace Go.Proofs.YtmaiggbnceejiaaGreatDoor
open Go.RowKit Go.Lib Go.Maps
variable {G:Nat->Prop}{w w' w1:World}{L:Lo}{v wv nv lv a0 a1 a2 a3:Value}{g B n k N:Nat}{mr:Option Nat}{s:fS}{cs:List eH}{t e:TypeId}{xs:List Value}{ns:List Int}
variable {E:Ext}
theorem Tryz.qk:(Tryz.prog.info? 112).map (λi=>(i.zero,i.size,i.bytes))=some (some (.agg #[.int .i64 0,.int .i64 0,.int .i64 0,.int .i64 0,.int .i64 0,.int .i64 0,.int .i64 0,.int .i64 0,.slice none 0 0]),9,88):=by kernel_rfl
def Ke(w:World)(L:Lo)(S:Nat->Prop)(v:Value)(ms:List eG):Prop:=
 ∃a c,v=.slice a ms.length c/\ms.length<=c/\c<=maxLen /\
  (ms=[]\/∃b d,a=some ⟨b,d,none⟩/\S b/\∀(i:Nat) m,ms[i]?=some m->∃u,ie w L u m.z.writes/\sE m/\∀j x,(kG m u)[j]?=some x->w.cell? ⟨b,d+i*9+j,none⟩=some x)
theorem Ke.mod{S:Nat->Prop}{ms:List eG}(h:Ke w L S v ms)(o:Mod G w w')(r:Qm w L G)(z:∀k,S k->¬G k):Ke w' L S v ms:=by
 obtain⟨a,l,J,I,H,d⟩:=h;refine⟨a,l,J,I,H,?_⟩;obtain d|⟨b,c,F,p,D⟩:=d
 .exact .inl d
 .refine .inr ⟨b,c,F,p,λi m y=>?_⟩;obtain⟨u,C,A,f⟩:=D i m y;exact⟨u,C.mod o r,A,λj x q=>o.cell (f j x q) (z b p)⟩
def lC(s:fS)(m:eG):fS:=if rF s.down m||decide (200<=s.way.length)then⟨s.way,s.lost+1,s.down⟩else⟨s.way++[m],s.lost,s.down⟩
def kp:fS->List eG->fS
|s,[]=>s
|s,m::a=>kp (lC s m) a
theorem zYt:∀a m s,kp s (a++[m])=lC (kp s a) m
|[],_,_=>rfl
|_::a,m,s=>by simp[kp,zYt a m]
theorem Zb(s:fS)(m:eG):(lC s m).down=s.down:=by unfold lC;split <;> rfl
theorem yMe(s:fS)(m:eG):s.lost<=(lC s m).lost/\(lC s m).lost<=s.lost+1:=by unfold lC;split <;> simp only <;> omega
theorem FZ:∀a s,s.lost<=(kp s a).lost/\(kp s a).lost<=s.lost+a.length
|[],s=>by simp[kp]
|m::a,s=>by
  have c:=yMe s m;have b:=FZ a (lC s m);simp only[kp,aW];omega
def ik(w:World)(v a:Value):Prop:=a.ownBlock=v.ownBlock\/∀k,a.ownBlock=some k->w.heap.size<=k
theorem ik.refl(w:World)(v:Value):ik w v v:=.inl rfl
theorem ik.trans{a b c:Value}(h:ik w a b)(k:ik w1 b c)(f:w.heap.size<=w1.heap.size):ik w a c:=by
 obtain k|k:=k
 .obtain h|h:=h
  .exact .inl (k.trans h)
  .exact .inr (λx d=>h x (by rw[<-k];exact d))
 .exact .inr (λx d=>aO f (k x d))
theorem Mod.J{a:World}{b:Value}(h:Mod (oE g v mr) w w1)(hm:ik w v b)(k:Mod (oE g b mr) w1 a):Mod (oE g v mr) w a:=
 h.trans' k (λi c e=>by
  obtain e|e|e:=e
  .exact .inl e
  .obtain hm|hm:=hm
   .exact .inr (.inl (by rw[<-hm];exact e))
   .have:=hm i e;omega
  .exact .inr (.inr e))
theorem gA.apart(h:gA E w L g wv mr s):wv.ownBlock≠some g/\mr≠some g/\∀k,wv.ownBlock=some k->mr≠some k:=by
 have c:=h.Z;simp only[dx]at c;refine⟨λe=>?_,λe=>?_,λk e a=>?_⟩
 .obtain⟨f,_,d,_⟩:=h.row;obtain⟨a,_⟩|⟨g',cap,cur,a,_,hg,_⟩:=d.2
  .rw[a]at e;simp[Value.ownBlock]at e
  .rw[a]at e;simp[Value.ownBlock]at e;subst e;rw[c]at hg;simp at hg
 .obtain⟨a,_⟩|⟨b,D,a,_,⟨es,clock,hm,_⟩,_⟩:=h.dn
  .rw[a]at e;cases e
  .rw[a]at e;cases e
   rw[c]at hm;simp at hm
 .obtain⟨f,_,d,_⟩:=h.row;obtain⟨e1,_⟩|⟨g',cap,cur,e1,_,hg,_⟩:=d.2
  .rw[e1]at e;simp[Value.ownBlock]at e
  .rw[e1]at e;simp[Value.ownBlock]at e;subst e;obtain⟨e2,_⟩|⟨b,D,e2,_,⟨es,clock,hm,_⟩,_⟩:=h.dn
   .rw[e2]at a;cases a
   .rw[e2]at a;cases a
    rw[hg]at hm;simp at hm
theorem gA.Fy{q:Nat}{cs:List Value}(h:gA E w L g wv mr s)(a:dx w q cs t)(i:t≠84)(f:t≠112):¬oE g wv mr q:=by
 simp only[dx]at a;rintro(rfl|e|e)
 .have c:=h.Z;simp only[dx]at c;rw[c]at a;simp at a;exact i a.2.symm
 .obtain⟨j,_,d,_⟩:=h.row;obtain⟨e',_⟩|⟨g',cap,cur,e',_,hg,_⟩:=d.2
  .rw[e']at e;simp[Value.ownBlock]at e
  .rw[e']at e;simp[Value.ownBlock]at e;subst e;rw[hg]at a;simp at a;exact f a.2.symm
 .obtain⟨e',_⟩|⟨b,D,e',_,⟨es,clock,hm,_⟩,_⟩:=h.dn
  .rw[e']at e;cases e
  .rw[e']at e;cases e
   rw[hm]at a;simp at a
theorem Qm.np(h:gA E w L g wv mr s)(c:∀k,k<w.heap.size->G k->oE g wv mr k):Qm w L G:=λk a b=>(h.lt (c k a b)).2.2
theorem gA.loses(h:gA E w L g wv mr s)(n:Int)(d:0<=n/\n<=4611686018427387904) :
  gA E (w.setCell ⟨g,3,none⟩ (.int .i64 n)) L g wv mr ⟨s.way,n,s.down⟩/\Mod (oE g wv mr) w (w.setCell ⟨g,3,none⟩ (.int .i64 n)):=by
 obtain⟨a1,a2,_⟩:=h.apart;have b:Mod (eQ g) w (w.setCell ⟨g,3,none⟩ (.int .i64 n)):=Mod.eE g 3 _;have c:Qm w L (eQ g):=Qm.np h (λk _ e=>.inl e);refine⟨⟨h.Z.set 3 _,h.low,h.row.mod b c (λk a e=>a1 (by rw[a];rw[e])),h.dn.mod b (λk a e=>a2 (by rw[a];rw[e])),h.few,d,λk a=>aJ (h.xb k a) b.size⟩,b.mono (λi _ e=>.inl e)⟩
theorem gA.sent{b:World}{d u:Value}{m:eG}{us:List Value}{o:Obj}{P U V:Nat}(h:gA E w L g wv mr s)(C:us.length=s.way.length)
  (H:∀(i:Nat) m u,s.way[i]?=some m->us[i]?=some u->ie w L u m.z.writes) (O:∀m∈s.way,sE m) (Y:ie w L u m.z.writes) (W:sE m) (fy:s.way.length<200)
  (j:(w.alloc o).grownBy b wv.ownBlock) (A:d=.slice (some ⟨P,0,none⟩) U V) (X:b.ownsRow L 112 9 d (s.way.length+1) (iW s.way us++kG m u)) (q:wv.ownBlock=some P\/P=w.heap.size+1) :
  gA E (b.setCell ⟨g,2,none⟩ d) L g d mr ⟨s.way++[m],s.lost,s.down⟩/\ik w wv d/\Mod (oE g wv mr) w (b.setCell ⟨g,2,none⟩ d):=by
 obtain⟨a1,a2,a3⟩:=h.apart;have r:Mod (λk=>wv.ownBlock=some k) w b:=((Mod.refl _ w).alloc o).grown j (λx F _=>F);have En:Qm w L (λk=>wv.ownBlock=some k):=Qm.np h (λk _ e=>.inr (.inl e));have S:dx b g [E.a0,E.a1,wv,.int .i64 s.lost,.map mr,E.a5,E.a6] 84:=h.Z.mod r a1;have Q:=S;simp only[dx]at Q;have y:Mod (eQ g) b (b.setCell ⟨g,2,none⟩ d):=Mod.eE g 2 _;have JL:Qm b L (eQ g):=λk _ e=>by
  simp only[eQ]at e;subst e;rintro(e|⟨⟨cur,fr,e⟩,_⟩)
  .have:=h.low;omega
  .rw[Q]at e;simp at e
 have I:d.ownBlock≠some g:=by
  rw[A];simp only[Value.ownBlock,ne_eq,ag];rintro rfl;obtain e|e:=q
  .exact a1 e
  .have:=h.Z.lt;omega
 refine⟨⟨S.set 2 _,h.low,⟨us++[u],by simp[C],?_,?_,?_⟩,?_,by simp;omega,h.lo,λk f=>aJ (h.xb k f) (aO r.size y.size)⟩,?_,?_⟩
 .have:=gO (G:=eQ g) X y (λk _ _ e e'=>I (by rw[e];rw[e']));rw[Wf _ _ _ _ C];simpa using this
 .intro i D T c a;have l:∀{x:Value} {R:List gB},ie w L x R->ie (b.setCell ⟨g,2,none⟩ d) L x R:=λF=>(F.mod r En).mod y JL;by_cases K:i<s.way.length
  .simp only at c;rw[aG K]at c;rw[aG (by omega)]at a;exact l (H i D T c a)
  .have M:i=s.way.length:=by
    rcases dV i (s.way.length+1)with h'|h'
    .omega
    .simp only at c;rw[aX (by simpa using h')]at c;cases c
   subst M;simp only at c;rw[aL (aD _)]at c;rw[aL (by omega)]at a;simp[C]at c a;subst c a;exact l Y
 .intro D J;rcases aM.1 J with e|e
  .exact O D e
  .simp at e;subst e;exact W
 .exact(h.dn.mod r (λk f e=>a3 k e f)).mod y (λk f e=>a2 (by rw[f,e]))
 .obtain e|e:=q
  .exact .inl (by rw[A,e];rfl)
  .exact .inr (λk f=>by rw[A]at f;simp[Value.ownBlock]at f;omega)
 .exact(r.mono (λi _ e=>.inr (.inl e))).setCell (p:=⟨g,2,none⟩) (λ_=>.inl rfl) _
theorem yJu(L:Lo)(g:Nat)(wv:Value)(mr:Option Nat)(s:fS)(S:Nat->Prop)(v:Value)(ms:List eG)(w:World)(h:gA E w L g wv mr s)(hv:Ke w L S v ms)(hS:∀k,S k->k<w.heap.size/\¬oE g wv mr k)(hlo:s.lost+ms.length<=4611686018427387904) :
  Calls Tryz.prog 48 #[.pointer (some ⟨g,2,none⟩),v] w λe w'=>∃o,e=.returned (.int .i64 ((kp s ms).lost-s.lost))/\gA E w' L g o mr (kp s ms)/\ik w wv o/\Mod (oE g wv mr) w w':=by
 obtain⟨i0,hi,hz0,hz1,hz2⟩:=A3 Tryz.qk;have hv0:=hv;obtain⟨va,Fl,rfl,XI,hvm,_⟩:=hv0;unfold maxLen at hvm;have c1:=h.Z.cell 3 rfl;have HS:=eC hS;have hgl:=h.Z.lt;have HX:=eC (zYs g w);go_enter Tryz.func48,Tryz.ntmps48;go_wp2_with fail;refine HX.out.mono ?_;rintro e w0⟨O,rfl⟩;have y:Mod dt w w0:=by rw[O];exact(Mod.refl _ w).alloc _
 have hq0:dx w0 w.heap.size [.pointer (some ⟨g,2,none⟩)] 147:=by rw[O];exact dx.new w _ _
 have h0:gA E w0 L g wv mr s:=h.mod y (Qm.none _ _) (λ_ _=>id);have hv1:=hv.mod y (Qm.none _ _) (λ_ _=>id);have PS:Mod (oE g wv mr) w w0:=y.mono (λ_ _ e=>e.elim);clear O y h hv HX c1;go_wp2_with fail;go_loopw [17] (λi wr=>∃(k:Nat) (o:Value),k<=ms.length/\i=.int .i64 k/\gA E wr L g o mr (kp s (ms.take k))/\Ke wr L S (.slice va ms.length Fl) ms/\ik w wv o/\Mod (oE g wv mr) w wr/\dx wr w.heap.size [.pointer (some ⟨g,2,none⟩)] 147) (λi _=>ms.length-(intOf i).toNat)
 case atStart=>exact⟨0,wv,aT _,rfl,by simpa[kp]using h0,hv1,ik.refl _ _,PS,hq0⟩
 case round=>
  obtain⟨k,o,H,rfl,hN,hV,M,hM,hQ⟩:=hrel;clear h0 hv1 PS hq0;have hlk:=FZ (ms.take k) s;have hlk2:((ms.take k).length:Int)<=k:=by rw[af];omega
  by_cases A:k<ms.length
  .obtain⟨m,hm⟩:∃m,ms[k]?=some m:=⟨_,aA A⟩;have hV0:=hV;obtain⟨a',cap',ha',_,_,C⟩:=hV0;simp only[Value.slice.injEq]at ha';obtain⟨rfl,_,rfl⟩:=ha';obtain rfl|⟨b,off,rfl,hSb,C⟩:=C
   .simp at A
   obtain⟨u,hu,jg,c⟩:=C k m hm;have q0:=c 0 _ rfl;have q1:=c 1 _ rfl;have q2:=c 2 _ rfl;have q3:=c 3 _ rfl;have q4:=c 4 _ rfl;have q5:=c 5 _ rfl;have q6:=c 6 _ rfl;have q7:=c 7 _ rfl;have q8:=c 8 _ rfl;simp only[bK]at q0;obtain⟨D,K,rfl⟩:∃D K,u=.slice D m.z.writes.length K:=by obtain⟨D,K,h,_⟩:=hu;exact⟨D,K,h⟩
   have HT:Hid (kp s (ms.take (k+1))=lC (kp s (ms.take k)) m):=by
    have e:ms.take (k+1)=ms.take k++[m]:=by
     rw[ax A];rw[aA A]at hm;simp at hm;rw[hm]
    rw[Hid,e,zYt]
   obtain⟨s1,hs1⟩:∃q,q=kp s (ms.take k):=⟨_,rfl⟩;rw[<-hs1]at hN hlk HT;clear C c hm hs1;obtain⟨w1,hw1⟩:∃q,q=wr.alloc (.cells #[.int .i64 m.kind,.int .i64 m.eP,.int .i64 m.C3,.int .i64 m.dv,.int .i64 m.n,.int .i64 m.z.kind,.int .i64 m.z.I,.int .i64 m.z.time,.slice D m.z.writes.length K] 112):=⟨_,rfl⟩;have Y:Mod dt wr w1:=by rw[hw1];exact(Mod.refl _ wr).alloc _
   have gM:dx w1 wr.heap.size (kG m (.slice D m.z.writes.length K)) 112:=by rw[hw1];exact dx.new wr _ _
   have pW:=hN.mod Y (Qm.none _ _) (λ_ _=>id);have hV1:=hV.mod Y (Qm.none _ _) (λ_ _=>id);have jV:=hQ.mod Y id;have hu1:=hu.mod Y (Qm.none _ _);have oo:=hM.trans (Y.mono (λ_ _ e=>e.elim));have HSI:=eC (zUy g w.heap.size L m (.slice D m.z.writes.length K) mr s1.down w1 (jV.cell 0 rfl) (pW.Z.cell 4 rfl) pW.dn jg.1);clear hN hV hQ hu hM Y;go_wp2_with fail;rw[<-hw1];refine HSI.out.mono ?_;rintro e w2⟨rfl,d⟩;have a:=pW.mod d (Qm.none _ _) (λ_ _=>id);have f:=hV1.mod d (Qm.none _ _) (λ_ _=>id);have PO:=jV.mod d id;have iT:=gM.mod d id;have r:=hu1.mod d (Qm.none _ _);have X:=oo.trans (d.mono (λ_ _ e=>e.elim));clear pW hV1 jV hu1 oo d gM hw1 HSI q0 q1 q2 q3 q4 q5 q6 q7 q8;by_cases Sb:rF s1.down m=true
   .rw[Sb];have HF:Hid (lC s1 m=⟨s1.way,s1.lost+1,s1.down⟩):=by rw[Hid,lC,Sb];rfl
    have c1:=a.Z.cell 3 rfl;have f1:=a.Z.frozen 3;have oK:=a.lo;have oM:=eC (a.loses (s1.lost+1) (by omega));have Q:=f.mod (Mod.eE (w:=w2) g 3 (.int .i64 (s1.lost+1))) (Qm.np a (λk _ e=>.inl e)) (λk H e=>(HS.out k H).2 (.inl e));have T:=PO.mod (Mod.eE (w:=w2) g 3 (.int .i64 (s1.lost+1))) (λe=>by simp only[eQ]at e;omega);have U:=X.J M oM.out.2;clear a f PO X r iT;go_wp2_with fail;go_roundw
    case rel=>exact⟨k+1,o,by omega,by go_num,by rw[HT.out,HF.out];exact oM.out.1,Q,M,U,T⟩
    case measure=>simp[intOf];omega
   .have El:rF s1.down m=false:=by simpa using Sb
    rw[El];have Uo:=eC (yBg L g o mr s1 w2 a);go_wp2_with fail;refine Uo.out.mono ?_;rintro e W⟨rfl,hw3⟩;subst hw3;by_cases P:s1.way.length<200
    .have hd:decide (s1.way.length<200)=true:=by simpa using P
     rw[hd];have HF:Hid (lC s1 m=⟨s1.way++[m],s1.lost,s1.down⟩):=by rw[Hid,lC,El,Bool.false_or,aH (by simp;omega)]
     obtain⟨wa,gW,jI⟩:=a.row.slice;subst jI;have c0:=a.Z.cell 2 rfl;have f0:=a.Z.frozen 2;obtain⟨⟨p0,p1,p2,p3,p4,p5,p6,p7,p8⟩,_⟩:=ix iT;have HU:Hid (ie W.drew L (.slice D m.z.writes.length K) m.z.writes):=r.mod ((Mod.refl dt W).drew) (Qm.none _ _);have vz:=eC a;have QT:=eC a.apart;have YN:=eC f;have hz3:=X.size;have xE:=a.Z.lt;have hbz:=iT.lt;have zM:m.z.writes.length<=1000000:=by have:=jg.2;omega
     have iu:s1.way.length+1<=maxLen:=by unfold maxLen;omega
     have iv:(s1.way.length+1)*88<=140737488355328:=by omega
     obtain⟨us,mz,F,hps,hgd⟩:=a.row;have gG:=eC F;have sa:=eC hps;have ye:=eC hgd;have kt:=a.low;clear a f r F hps hgd Uo;go_upto_region 8 with fail
     go_region_law
       ((first
       |(go_simp;go_at_call 90;(refine(yUu L m _ _ HU.out zM).mono ?_;rintro e V⟨u5,rfl,jJ,fA⟩;obtain⟨Kl,Kk,rfl⟩:=fU jJ;have l:Mod dt W V:=(((Mod.refl dt W).drew).trans fA);have c5:=l.cell c0 id;have f5:=(l.frozen (p:=⟨g,2,none⟩) xE id).trans f0;have z5:=l.size;have gz5:g<V.heap.size:=aJ xE z5;have Bk:=eC (gO gG.out l (λ_ _ _ _=>id));dsimp only[wT]))
       |(refine step_append_lies _ (by rfl) _ _ _ (by rfl) L 112 i0 _ 9 88 Tryz.underlying76 hi hz0 hz1 hz2 rfl (by omega) _ _ _ (by rfl) (Bk.out.alloc _) ⟨V.heap.size,0,none⟩ 1 1 (kG m (.slice Kl m.z.writes.length Kk)) (by rfl) (by rfl) (A7 (A0 V _)) (yHv _ _ _ _) (by omega) iu iv (by simp;omega) _ rfl ?_;intro g6 mf w6 ij j hat GV;have jN:Mod (λk=>(Value.slice wa s1.way.length gW).ownBlock=some k) V w6:=((Mod.refl _ V).alloc _).grown j (λx hx _=>hx);have c6:=jN.cell c5 QT.out.1;have f6:=(jN.frozen (p:=⟨g,2,none⟩) (aJ xE z5) QT.out.1).trans f5)
       |fail))
     all_goals
      have nx:=vz.out.mod l (Qm.none _ _) (λ_ _=>id);have R:=nx.sent mz (λi m u h1 h2=>(sa.out i m u h1 h2).mod l (Qm.none _ _)) ye.out (ie.iX jJ (λk H=>vz.out.xb k H)) jg P j rfl ij (by simpa using hat);have zR:=X.trans (l.mono (λ_ _ e=>e.elim));have HR:=eC R.1;have hMv6:=M.trans R.2.1 (aO hz3 z5);have FB:=zR.J M R.2.2;have hV5:=YN.out.mod l (Qm.none _ _) (λ_ _=>id);have hV6:=hV5.mod R.2.2 nx.qm (λk H e=>by
       obtain⟨h1,h2⟩:=HS.out k H;obtain e|e|e:=e
       .exact h2 (.inl e)
       .obtain h3|h3:=M
        .exact h2 (.inr (.inl (by rw[<-h3];exact e)))
        .have:=h3 k e;omega
       .exact h2 (.inr (.inr e)))
      have hQ6:=(PO.mod l id).mod R.2.2 (nx.Fy (PO.mod l id) (by decide) (by decide));go_wp2_with fail;go_roundw
      case rel=>exact⟨k+1,_,by omega,by go_num,by rw[HT.out,HF.out];exact HR.out,hV6,hMv6,FB,hQ6⟩
      case measure=>simp[intOf];omega
    .have hd:decide (s1.way.length<200)=false:=by simpa using P
     rw[hd];have HF:Hid (lC s1 m=⟨s1.way,s1.lost+1,s1.down⟩):=by rw[Hid,lC,El,Bool.false_or,aK (by simp;omega)]
     have c1:=a.Z.cell 3 rfl;have f1:=a.Z.frozen 3;have oK:=a.lo;have oM:=eC (a.loses (s1.lost+1) (by omega));have Q:=f.mod (Mod.eE (w:=W) g 3 (.int .i64 (s1.lost+1))) (Qm.np a (λk _ e=>.inl e)) (λk H e=>(HS.out k H).2 (.inl e));have T:=PO.mod (Mod.eE (w:=W) g 3 (.int .i64 (s1.lost+1))) (λe=>by simp only[eQ]at e;omega);have U:=X.J M oM.out.2;clear a f PO X r iT;go_wp2_with fail;go_roundw
     case rel=>exact⟨k+1,o,by omega,by go_num,by rw[HT.out,HF.out];exact oM.out.1,Q,M,U,T⟩
     case measure=>simp[intOf];omega
  .have hkn:k=ms.length:=by omega
   subst hkn;rw[bQ]at hN hlk;have c1:=hN.Z.cell 3 rfl;have hlo1:=hN.lo;have HN:=eC hN;clear hN hV hQ;go_wp2_with fail;go_ret;exact⟨o,by go_num,HN.out,M,hM⟩
end Go.Proofs.YtmaiggbnceejiaaGreatDoor
namespace Go.Proofs.YtmaiggbnceejiaaGreatDoor
open Go.RowKit Go.Lib Go.Maps
variable {G:Nat->Prop}{w w' w1:World}{L:Lo}{v wv nv lv a0 a1 a2 a3:Value}{g B n k N:Nat}{mr:Option Nat}{s:fS}{cs:List eH}{t e:TypeId}{xs:List Value}{ns:List Int}
variable {E:Ext}
theorem Qm.row{size:Nat}(h:w.ownsRow B e size v n xs)(f:L<=B)(d:e≠68):Qm w L (λk=>v.ownBlock=some k):=λk _ a=>by
 obtain⟨e',_⟩|⟨g',cap,cur,e',h1,hg,_⟩:=h.2
 .rw[e']at a;simp[Value.ownBlock]at a
 .rw[e']at a;simp[Value.ownBlock]at a;subst a;rintro(b|⟨⟨c,i,b⟩,_⟩)
  .omega
  .rw[hg]at b;simp at b;exact d b.2.1
end Go.Proofs.YtmaiggbnceejiaaGreatDoor
namespace Go.Proofs.YtmaiggbnceejiaaGreatDoor
open Go.RowKit Go.Lib Go.Maps
variable {G:Nat->Prop}{w w' w1:World}{L:Lo}{v wv nv lv a0 a1 a2 a3:Value}{g B n k N:Nat}{mr:Option Nat}{s:fS}{cs:List eH}{t e:TypeId}{xs:List Value}{ns:List Int}
def sx(x:Int):List Int->Option Nat
|[]=>none
|y::a=>if x=y then some 0 else(sx x a).map (·+1)
theorem Yl(x:Int):∀(l:List Int) (k:Nat),(∀i y,i<k->l[i]?=some y->x≠y)->l[k]?=some x->sx x l=some k
|[],_,_,h=>by simp at h
|y::a,0,_,h=>by simp at h;subst h;simp[sx]
|y::a,k+1,b,h=>by
  have h0:=b 0 y (by omega) rfl;have:=Yl x a k (λi z d c=>b (i+1) z (by omega) (by simpa using c)) (by simpa using h);simp[sx,h0,this]
theorem zWq(x:Int):∀(l:List Int),(∀(i:Nat) y,l[i]?=some y->x≠y)->sx x l=none
|[],_=>rfl
|y::a,h=>by
  have h0:=h 0 y rfl;simp[sx,h0,zWq x a (λi z b=>h (i+1) z (by simpa using b))]
theorem zWp(x:Int):∀(l:List Int) (k:Nat),sx x l=some k->l[k]?=some x
|[],_,h=>by simp[sx]at h
|y::b,k,h=>by
  unfold sx at h;split at h
  .rename_i e;simp at h;subst h;simp[e]
  .cases a:sx x b with
  |none=>rw[a]at h;simp at h
  |some j=>
    rw[a]at h;simp at h;subst h;simpa using zWp x b j a
def Rs(o:Option Nat):Int:=match o with|none=>-1|some k=>k
structure ec where
 id:Int
 dv:Int
 nodes:List Int
 M:List eH
 iR:Int
def tu(s:ec):Int:=Rs (sx s.id s.nodes)
theorem zTq(s:ec):tu s = -1\/∃k:Nat,tu s=k/\s.nodes[k]?=some s.id/\k<s.nodes.length:=by
 unfold tu
 cases h:sx s.id s.nodes with
|none=>exact .inl rfl
|some k=>
  have a:=zWp _ _ _ h;exact .inr ⟨k,rfl,a,(aB.1 a).1⟩
def pU(s:ec):Bool:=decide (0<=tu s)
def nU(s:ec):Bool:=tu s==0
def vW(s:ec):Bool:=pU s&&(tu s==(s.nodes.length:Int)-1)
def iU(s:ec)(wh:Int):Option Int:=if pU s&&(decide (0<=tu s+wh)&&decide (tu s+wh<(s.nodes.length:Int)))then s.nodes[(tu s+wh).toNat]? else none
def kF(w:World)(v:Value)(ns:List Int):Prop:=
 ∃a c,v=.slice a ns.length c/\ns.length<=c/\c<=maxLen/\(ns=[]\/∃b d,a=some ⟨b,d,none⟩/\∀(j:Nat) x,ns[j]?=some x->w.cell? ⟨b,d+j,none⟩=some (.int .i64 x))
theorem kF.drewN(h:kF w v ns)(n:Nat):kF (w.drewN n) v ns:=h
theorem kF.iX(h:w.ownsRow B 3 1 v ns.length (ns.map (Value.int .i64))):kF w v ns:=by
 obtain⟨e,h0⟩|⟨g,cap,cur,e,_,hg,hc1,hc2,_⟩:=h.2
 .have:ns=[]:=aR h0;subst this;exact⟨none,0,e,aD _,aT _,.inl rfl⟩
 .refine⟨_,cap,e,hc1,hc2,.inr ⟨g,0,rfl,λj x b=>?_⟩⟩;subst e;have a:=h.cells (g:=g) rfl j (.int .i64 x) (by simp[b]);rw[A1]at a;exact a
theorem zZn(v:Value)(ns:List Int)(x:Int)(w:World)(C:kF w v ns) :
  Calls Tryz.prog 122 #[v,.int .i64 x] w λe w'=>e=.returned (.int .i64 (Rs (sx x ns)))/\w'=w:=by
 obtain⟨a,I,rfl,F,p,c⟩:=C;unfold maxLen at p;have u:=eC c;clear c;go_enter Tryz.func122,Tryz.ntmps122;go_wp2_with fail;go_loopw [8] (λi wr=>∃k:Nat,k<=ns.length/\i=.int .i64 k/\(∀i y,i<k->ns[i]?=some y->x≠y)/\wr=w) (λi _=>ns.length-(intOf i).toNat)
 case atStart=>exact⟨0,aT _,rfl,λi y h=>by omega,rfl⟩
 case round=>
  obtain⟨k,O,rfl,j,rfl⟩:=hrel;have l:=eC j;clear j;by_cases f:k<ns.length
  .obtain⟨y,hy⟩:∃y,ns[k]?=some y:=⟨_,aA f⟩;obtain e|⟨b,A,rfl,c⟩:=u.out
   .rw[e]at f;simp at f
   have J:=c k y hy;have r:=eC hy;have M:(k:Int)<(ns.length:Int):=by omega
   have K:(0:Int)<=(k:Int):=by omega
   clear c hy;by_cases d:x=y
   .subst d;have q:Hid (sx x ns=some k):=Yl x ns k l.out r.out;go_wp2_with fail;go_ret;exact⟨by rw[q.out];rfl,rfl⟩
   .have D:(x==y)=false:=by simpa using d
    go_wp2_with fail;go_roundw
    case rel=>
     refine⟨k+1,by omega,by go_num,λi z o m=>?_,by trivial⟩;by_cases e:i=k
     .subst e;have H:=r.out;rw[H]at m;cases m;exact d
     .exact l.out i z (by omega) m
    case measure=>simp[intOf];omega
  .obtain rfl:k=ns.length:=by omega
   have q:Hid (sx x ns=none):=zWq x ns (λi y o=>l.out i y ((aB.1 o).1) o);go_wp2_with fail;go_ret;exact⟨by rw[q.out];rfl,rfl⟩
def Fc(c:eH):Prop:=JF c/\c.writes.length<=40
def iF(w:World)(L:Lo)(v:Value)(cs:List eH):Prop:=
 ∃a:List Value,a.length=cs.length/\w.ownsRow L 65 4 v cs.length (CL cs a)/\(∀(i:Nat) c u,cs[i]?=some c->a[i]?=some u->ie w L u c.writes)/\∀c∈cs,Fc c
theorem iF.nil(w:World)(L:Lo):iF w L (.slice none 0 0) []:=⟨[],rfl,A6 _ _ _ _,λi m u h=>by simp at h,by simp⟩
theorem iF.mod(h:iF w L v cs)(a:Mod G w w')(d:Qm w L G)(j:∀k,v.ownBlock=some k->¬G k):iF w' L v cs:=by
 obtain⟨b,q,p,o,l⟩:=h;exact⟨b,q,gO p a (λk _ _ e=>j k e),λi m u f c=>(o i m u f c).mod a d,l⟩
theorem iF.slice(h:iF w L v cs):∃a b,v=.slice a cs.length b:=by
 obtain⟨d,_,c,_⟩:=h;exact fU c
theorem WY:∀(cs:List eH) (us:List Value) (i:Nat) (c:eH) (u:Value),us.length=cs.length->cs[i]?=some c->us[i]?=some u->∀j x,(yx c u)[j]?=some x->(CL cs us)[i*4+j]?=some x
|[],_,_,_,_,_,h,_,_,_,_=>by simp at h
|_::_,[],_,_,_,h,_,_,_,_,_=>by simp at h
|f::cs,d::us,0,c,u,_,h,b,j,x,a=>by
  simp at h b;subst h b;have m:j<(yx f d).length:=(aB.1 a).1;rw[cr,aY,CL,aG m];exact a
|f::cs,d::us,i+1,c,u,l,h,b,j,x,a=>by
  have:=WY cs us i c u (by simpa using l) (by simpa using h) (by simpa using b) j x a;have e:(i+1)*4+j=(yx f d).length+(i*4+j):=by simp[yx];omega
  rw[e,CL,aL (by omega),Nat.add_sub_cancel_left];exact this
theorem iF.at(h:iF w L v cs){i:Nat}{c:eH}(d:cs[i]?=some c) :
  ∃g a u,v=.slice (some ⟨g,0,none⟩) cs.length a/\cs.length<=a/\a<=maxLen/\ie w L u c.writes/\Fc c /\
   w.cell? ⟨g,i*4,none⟩=some (.int .i64 c.kind)/\w.cell? ⟨g,i*4+1,none⟩=some (.int .i64 c.I)/\w.cell? ⟨g,i*4+2,none⟩=some (.int .i64 c.time)/\w.cell? ⟨g,i*4+3,none⟩=some u:=by
 obtain⟨f,z,l,y,r⟩:=h;have p:i<cs.length:=(aB.1 d).1;obtain⟨u,hu⟩:∃u,f[i]?=some u:=⟨_,aA (by omega)⟩;obtain⟨_,h0⟩|⟨g,a,cur,rfl,_,hg,hc1,hc2,_,_⟩:=l.2
 .omega
 .have q:=l.cells (g:=g) rfl;have m:∀j,(⟨g,0,none⟩:Addr).add j=⟨g,j,none⟩:=λj=>by rw[A1,aY]
  have b:∀j x,(yx c u)[j]?=some x->w.cell? ⟨g,i*4+j,none⟩=some x:=λj x o=>by
   have:=q _ _ (WY cs f i c u z d hu j x o);rw[m]at this;exact this
  exact⟨g,a,u,rfl,hc1,hc2,y i c u d hu,r c (aC d),b 0 _ rfl,b 1 _ rfl,b 2 _ rfl,b 3 _ rfl⟩
theorem fs{c:Nat}(d:w.ownsRow B e c v n xs)(b:v.ownBlock=some k):B<=k/\k<w.heap.size/\∃a,w.heap[k]?=some (.cells a e (0,0)):=by
 obtain⟨e',_⟩|⟨g',cap,a,e',hb,hg,_⟩:=d.2
 .rw[e']at b;simp[Value.ownBlock]at b
 .rw[e']at b;simp[Value.ownBlock]at b;subst b;exact⟨hb,(aF.1 hg).1,a,hg⟩
structure gI(w:World)(L:Lo)(g:Nat)(nv lv:Value)(s:ec):Prop where
 Z:dx w g [.int .i64 s.id,.int .i64 s.dv,nv,lv,.int .i64 s.iR] 132
 low:L<=g
 ns:w.ownsRow L 3 1 nv s.nodes.length (s.nodes.map (Value.int .i64))
 lg:iF w L lv s.M
 ints:gi s.id/\gi s.dv/\∀x∈s.nodes,gi x
 few:s.nodes.length<=1000000/\s.M.length<=500
 st:0<=s.iR/\s.iR<=s.M.length
 xb:∀k,L.x k->k<w.heap.size
def iV(g:Nat)(nv lv:Value)(k:Nat):Prop:=k=g\/nv.ownBlock=some k\/lv.ownBlock=some k
theorem gI.lt{s:ec}(h:gI w L g nv lv s)(a:iV g nv lv k):L<=k/\k<w.heap.size/\¬St w L k:=by
 obtain rfl|a|a:=a
 .refine⟨h.low,h.Z.lt,?_⟩;rintro(e|⟨⟨i,l,e⟩,_⟩)
  .have:=h.low;omega
  .have:=h.Z;simp only[dx]at this;rw[this]at e;simp at e
 .obtain⟨f,b,_⟩:=fs h.ns a;exact⟨f,b,Qm.row h.ns (aD _) (by decide) k b a⟩
 .obtain⟨j,_,b,_⟩:=h.lg;obtain⟨d,c,_⟩:=fs b a;exact⟨d,c,Qm.row b (aD _) (by decide) k c a⟩
theorem gI.qm{s:ec}(h:gI w L g nv lv s):Qm w L (iV g nv lv):=λ_ _ a=>(h.lt a).2.2
theorem Qm.zE{s:ec}(h:gI w L g nv lv s)(c:∀k,k<w.heap.size->G k->iV g nv lv k):Qm w L G:=λk a b=>(h.lt (c k a b)).2.2
theorem gI.mod{s:ec}(h:gI w L g nv lv s)(a:Mod G w w')(d:Qm w L G)(c:∀k,iV g nv lv k->¬G k):gI w' L g nv lv s:=
 ⟨h.Z.mod a (c g (.inl rfl)),h.low,gO h.ns a (λk _ _ e=>c k (.inr (.inl e))),h.lg.mod a d (λk b=>c k (.inr (.inr b))),h.ints,h.few,h.st,λk b=>aJ (h.xb k b) a.size⟩
theorem gI.quiet{s:ec}(h:gI w L g nv lv s)(a:Mod dt w w'):gI w' L g nv lv s:=h.mod a (Qm.none _ _) (λ_ _=>id)
theorem gI.drewN{s:ec}(h:gI w L g nv lv s)(n:Nat):gI (w.drewN n) L g nv lv s:=h.quiet ((Mod.refl _ w).drewN n)
theorem gI.apart{s:ec}(h:gI w L g nv lv s):nv.ownBlock≠some g/\lv.ownBlock≠some g/\∀k,nv.ownBlock=some k->lv.ownBlock≠some k:=by
 have d:=h.Z;simp only[dx]at d;obtain⟨l,_,f,_⟩:=h.lg;refine⟨λe=>?_,λe=>?_,λk e j=>?_⟩
 .obtain⟨_,_,c,a⟩:=fs h.ns e;rw[d]at a;simp at a
 .obtain⟨_,_,c,a⟩:=fs f e;rw[d]at a;simp at a
 .obtain⟨_,_,c,a⟩:=fs h.ns e;obtain⟨_,_,i,b⟩:=fs f j;rw[a]at b;simp at b
theorem nJ{a:Value}(h:dx w g [a0,a1,a2,a3,a] t) :
  w.cell? ⟨g,0,none⟩=some a0/\w.cell? ⟨g,1,none⟩=some a1/\w.cell? ⟨g,2,none⟩=some a2/\w.cell? ⟨g,3,none⟩=some a3/\w.cell? ⟨g,4,none⟩=some a:=
 ⟨h.cell 0 rfl,h.cell 1 rfl,h.cell 2 rfl,h.cell 3 rfl,h.cell 4 rfl⟩
theorem RF(L:Lo)(g:Nat)(nv lv:Value)(s:ec)(w:World)(h:gI w L g nv lv s) :
  Calls Tryz.prog 137 #[.pointer (some ⟨g,0,none⟩)] w λe w'=>e=.returned (.int .i64 (tu s))/\∃m,w'=w.drewN m:=by
 obtain⟨i,f,d,c,b⟩:=nJ h.Z;have a:=eC (kF.iX h.ns);clear h;go_enter Tryz.func137,Tryz.ntmps137;go_wp2_with fail;go_quiet (first
 |(go_at_call 122;refine A8 (zZn _ _ _ _ (a.out.drewN _)))
 |fail)
 go_wp2_with fail;go_ret;exact⟨rfl,_,rfl⟩
theorem Re(L:Lo)(g:Nat)(nv lv:Value)(s:ec)(w:World)(h:gI w L g nv lv s) :
  Calls Tryz.prog 136 #[.pointer (some ⟨g,0,none⟩)] w λe w'=>e=.returned (.bool (pU s))/\∃m,w'=w.drewN m:=by
 have a:=eC (RF L g nv lv s w h);clear h;go_enter Tryz.func136,Tryz.ntmps136;go_wp2_with fail;refine a.out.mono ?_;rintro e w1⟨rfl,m,rfl⟩;go_wp2_with fail;go_ret;exact⟨rfl,m,rfl⟩
theorem yVw(L:Lo)(g:Nat)(nv lv:Value)(s:ec)(w:World)(h:gI w L g nv lv s) :
  Calls Tryz.prog 128 #[.pointer (some ⟨g,0,none⟩)] w λe w'=>e=.returned (.bool (nU s))/\∃m,w'=w.drewN m:=by
 have a:=eC (RF L g nv lv s w h);clear h;go_enter Tryz.func128,Tryz.ntmps128;go_wp2_with fail;refine a.out.mono ?_;rintro e w1⟨rfl,m,rfl⟩;go_wp2_with fail;go_ret;exact⟨rfl,m,rfl⟩
theorem yJs(L:Lo)(g:Nat)(nv lv:Value)(s:ec)(w:World)(h:gI w L g nv lv s) :
  Calls Tryz.prog 104 #[.pointer (some ⟨g,0,none⟩)] w λe w'=>e=.returned (.bool (vW s))/\∃m,w'=w.drewN m:=by
 obtain⟨i,j,f⟩:=fU h.ns;subst f;obtain⟨u,r,q,p,o⟩:=nJ h.Z;have l:=h.few.1;have b:=eC h;clear h;go_enter Tryz.func104,Tryz.ntmps104;go_wp2_with fail
 cases a:pU s with
|true=>
  have c:Hid (∀n,Calls Tryz.prog 136 #[.pointer (some ⟨g,0,none⟩)] (w.drewN n) λe w'=>e=.returned (.bool true)/\∃m,w'=(w.drewN n).drewN m):=λn=>by have:=Re _ _ _ _ _ _ (b.out.drewN n);rw[a]at this;exact this
  have d:Hid (vW s=(tu s==(s.nodes.length:Int)-1)):=by rw[Hid,vW,a];rfl
  go_quiet (first
  |(go_at_call 136;refine A9 (c.out _))
  |(go_at_call 137;refine A9 (RF _ _ _ _ _ _ (b.out.drewN _)))
  |fail)
  go_wp2_with fail;go_ret;exact⟨by rw[d.out];rfl,_,rfl⟩
|false=>
  have c:Hid (∀n,Calls Tryz.prog 136 #[.pointer (some ⟨g,0,none⟩)] (w.drewN n) λe w'=>e=.returned (.bool false)/\∃m,w'=(w.drewN n).drewN m):=λn=>by have:=Re _ _ _ _ _ _ (b.out.drewN n);rw[a]at this;exact this
  have d:Hid (vW s=false):=by rw[Hid,vW,a];rfl
  go_quiet (first
  |(go_at_call 136;refine A9 (c.out _))
  |(go_at_call 137;refine A9 (RF _ _ _ _ _ _ (b.out.drewN _)))
  |fail)
  go_wp2_with fail;go_ret;exact⟨by rw[d.out];rfl,_,rfl⟩
theorem zQz(L:Lo)(g:Nat)(nv lv:Value)(s:ec)(wh:Int)(w:World)(h:gI w L g nv lv s)(Y:wh=1\/wh = -1) :
  Calls Tryz.prog 135 #[.pointer (some ⟨g,0,none⟩),.int .i64 wh] w λe w'=>e=.returned (.tuple #[.int .i64 ((iU s wh).getD 0),.bool (iU s wh).isSome])/\∃m,w'=w.drewN m:=by
 obtain⟨na,iq,R⟩:=fU h.ns;subst R;obtain⟨c0,c1,c2,c3,c4⟩:=nJ h.Z;have hf:=h.few.1;have C:=eC h;have X:=eC (kF.iX h.ns);have I:=h.Z.lt;have r:=eC (RF L g _ lv s w h);clear h;have u:=zTq s;obtain⟨p,hp⟩:∃q,q=tu s:=⟨_,rfl⟩;have A:=eC hp;rw[<-hp]at r u;have U:-1<=p/\p<1000001:=by
  obtain e|⟨k,e,_,e2⟩:=u <;> omega
 clear hp;go_enter Tryz.func135,Tryz.ntmps135;go_wp2_with fail;refine r.out.mono ?_;rintro e w1⟨rfl,l,rfl⟩;have f:=eC (Re L g _ lv s (w.drewN l) (C.out.drewN l));have O:g<(w.drewN l).heap.size:=I;have M:pU s=decide (0<=p):=by rw[pU,<-A.out]
 rw[M]at f;by_cases h0:0<=p
 .have c:decide (0<=p)=true:=aQ h0;rw[c]at f;have o:Hid (iU s wh=if decide (0<=p+wh)&&decide (p+wh<(s.nodes.length:Int))then s.nodes[(p+wh).toNat]? else none):=by
   rw[Hid,iU,M,c,<-A.out,Bool.true_and]
  by_cases F:0<=p+wh
  .by_cases D:p+wh<(s.nodes.length:Int)
   .obtain⟨a,hkk⟩:∃a:Nat,p+wh=a:=⟨(p+wh).toNat,by omega⟩;rw[hkk]at o F D;obtain⟨y,hy⟩:∃y,s.nodes[a]?=some y:=⟨_,aA (by omega)⟩;have i:Hid (iU s wh=some y):=by
     rw[Hid,o.out,aQ F,aQ D];simpa using hy
    obtain⟨a',P,z,W,V,d⟩:=X.out;simp only[Value.slice.injEq]at z;obtain⟨rfl,_,rfl⟩:=z;obtain e|⟨b,S,rfl,d⟩:=d
    .rw[e]at hy;simp at hy
    have q0:=d a y hy;have x:decide ((a:Int)<0)=false:=aN (by omega);have K:decide ((a:Int) ≥ (s.nodes.length:Int))=false:=aN (by omega);have J:decide ((s.nodes.length:Int)<=(a:Int))=false:=aN (by omega);have T:IntKind.i64.wrap (p+wh)=(a:Int):=by rw[IntKind.wrap_i64];omega
    have Q:wrap64 (p+wh)=(a:Int):=by rw[hkk];unfold wrap64;omega
    clear d hy o r C;go_wp2_with fail;refine f.out.mono ?_;rintro e H⟨rfl,j,rfl⟩;go_wp2_with fail;refine A5 (B0 rfl _ _ _) rfl ⟨?_,l+j,rfl⟩;rw[i.out];rfl
   .have i:Hid (iU s wh=none):=by
     rw[Hid,o.out,aN D,Bool.and_false];rfl
    obtain⟨a,hkk⟩:∃a:Nat,p+wh=a:=⟨(p+wh).toNat,by omega⟩;rw[hkk]at F D;have x:decide ((a:Int)<0)=false:=aN (by omega);have K:decide ((a:Int) ≥ (s.nodes.length:Int))=true:=aQ (by omega);have J:decide ((s.nodes.length:Int)<=(a:Int))=true:=aQ (by omega);have Q:wrap64 (p+wh)=(a:Int):=by rw[hkk];unfold wrap64;omega
    clear o r C;go_wp2_with fail;refine f.out.mono ?_;rintro e H⟨rfl,j,rfl⟩;go_wp2_with fail;refine A5 (B0 rfl _ _ _) rfl ⟨?_,l+j,rfl⟩;rw[i.out];rfl
  .have i:Hid (iU s wh=none):=by
    rw[Hid,o.out,aN F,Bool.false_and];rfl
   have x:decide (p+wh<0)=true:=aQ (by omega);have Q:wrap64 (p+wh)=p+wh:=by unfold wrap64;omega
   clear o r C;go_wp2_with fail;refine f.out.mono ?_;rintro e H⟨rfl,j,rfl⟩;go_wp2_with fail;refine A5 (B0 rfl _ _ _) rfl ⟨?_,l+j,rfl⟩;rw[i.out];rfl
 .have c:decide (0<=p)=false:=aN h0;rw[c]at f;have i:Hid (iU s wh=none):=by
   rw[Hid,iU,M,c,Bool.false_and];rfl
  clear r C;go_wp2_with fail;refine f.out.mono ?_;rintro e H⟨rfl,j,rfl⟩;go_wp2_with fail;refine A5 (B0 rfl _ _ _) rfl ⟨?_,l+j,rfl⟩;rw[i.out];rfl
def nR(s:ec)(wh x:Int):Bool:=match iU s wh with
|none=>false
|some y=>y==x
theorem EL(L:Lo)(g:Nat)(nv lv:Value)(s:ec)(wh x:Int)(w:World)(h:gI w L g nv lv s)(f:wh=1\/wh = -1) :
  Calls Tryz.prog 99 #[.pointer (some ⟨g,0,none⟩),.int .i64 wh,.int .i64 x] w λe w'=>e=.returned (.bool (nR s wh x))/\∃m,w'=w.drewN m:=by
 have b:=eC (zQz L g nv lv s wh w h f);clear h f;go_enter Tryz.func99,Tryz.ntmps99
 cases a:iU s wh with
|none=>
  rw[a]at b;have d:Hid (nR s wh x=false):=by rw[Hid,nR,a]
  go_wp2_with fail;refine b.out.mono ?_;rintro e w1⟨rfl,c,rfl⟩;simp only[Option.getD_none,Option.isSome_none];go_wp2_with fail;go_ret;exact⟨by rw[d.out];rfl,c,rfl⟩
|some y=>
  rw[a]at b;have d:Hid (nR s wh x=(y==x)):=by rw[Hid,nR,a]
  go_wp2_with fail;refine b.out.mono ?_;rintro e w1⟨rfl,c,rfl⟩;simp only[dS,Option.isSome_some];go_wp2_with fail;go_ret;exact⟨by rw[d.out];rfl,c,rfl⟩
theorem Vp(L:Lo)(g:Nat)(nv lv:Value)(s:ec)(w:World)(h:gI w L g nv lv s) :
  Calls Tryz.prog 102 #[.pointer (some ⟨g,0,none⟩)] w λe w'=>e=.returned (.bool (decide (s.M.length<500)))/\w'=w:=by
 obtain⟨b,f,a⟩:=h.lg.slice;subst a;obtain⟨o,m,l,j,i⟩:=nJ h.Z;have c:=h.few.2;have d:decide ((s.M.length:Int)<500)=decide (s.M.length<500):=decide_eq_decide.2 (by omega);clear h;go_enter Tryz.func102,Tryz.ntmps102;go_wp2_with fail;go_ret;exact⟨rfl,rfl⟩
theorem yCh(L:Lo)(g:Nat)(nv lv:Value)(s:ec)(w:World)(h:gI w L g nv lv s) :
  Calls Tryz.prog 79 #[.pointer (some ⟨g,0,none⟩)] w λe w'=>e=.returned (.int .i64 s.M.length)/\w'=w:=by
 obtain⟨b,c,a⟩:=h.lg.slice;subst a;obtain⟨l,j,i,f,d⟩:=nJ h.Z;clear h;go_enter Tryz.func79,Tryz.ntmps79;go_wp2_with fail;go_ret;exact⟨rfl,rfl⟩
theorem yIx(L:Lo)(g:Nat)(nv lv:Value)(s:ec)(w:World)(h:gI w L g nv lv s) :
  Calls Tryz.prog 98 #[.pointer (some ⟨g,0,none⟩)] w λe w'=>e=.returned (.int .i64 s.id)/\w'=w:=by
 obtain⟨f,d,c,b,a⟩:=nJ h.Z;clear h;go_enter Tryz.func98,Tryz.ntmps98;go_wp2_with fail;go_ret;exact⟨rfl,rfl⟩
theorem yNx(L:Lo)(g:Nat)(nv lv:Value)(s:ec)(w:World)(h:gI w L g nv lv s) :
  Calls Tryz.prog 106 #[.pointer (some ⟨g,0,none⟩)] w λe w'=>e=.returned (.int .i64 s.dv)/\w'=w:=by
 obtain⟨f,d,c,b,a⟩:=nJ h.Z;clear h;go_enter Tryz.func106,Tryz.ntmps106;go_wp2_with fail;go_ret;exact⟨rfl,rfl⟩
theorem yWs(L:Lo)(id:Int)(w:World)(a:gi id)(d:L.n<=w.heap.size)(b:∀k,L.x k->k<w.heap.size) :
  Calls Tryz.prog 87 #[.int .i64 id] w λe w'=>e=.returned (.pointer (some ⟨w.heap.size,0,none⟩))/\gI w' L w.heap.size (.slice none 0 0) (.slice none 0 0) ⟨id,0,[],[],0⟩/\Mod dt w w':=by
 go_enter Tryz.func87,Tryz.ntmps87;go_wp2_with fail;go_ret;exact⟨rfl,⟨dx.new w _ _,d,A6 _ _ _ _,iF.nil _ _,⟨a,by simp[gi],by simp⟩,by simp,by simp,λk c=>by have:=b k c;rw[A4];omega⟩,(Mod.refl _ w).alloc _⟩
def AR(w:World)(N:Nat)(u0 u1 u2 u3:Value):World:=(((w.setCell ⟨N,0,none⟩ u0).setCell ⟨N,1,none⟩ u1).setCell ⟨N,2,none⟩ u2).setCell ⟨N,3,none⟩ u3
theorem yUr(hB:dx w N [a0,a1,a2,a3] t)(u0 u1 u2 u3:Value):dx (AR w N u0 u1 u2 u3) N [u0,u1,u2,u3] t:=(((hB.set 0 _).set 1 _).set 2 _).set 3 _
theorem ZC(w:World)(N:Nat)(u0 u1 u2 u3:Value):Mod (eQ N) w (AR w N u0 u1 u2 u3):=(((Mod.eE N 0 u0).trans (Mod.eE N 1 u1)).trans (Mod.eE N 2 u2)).trans (Mod.eE N 3 u3)
theorem FU(hB:dx w N [a0,a1,a2,a3] t)(u0 u1 u2 u3:Value):(loadVar 65 ⟨N,0,none⟩).run Tryz.prog (AR w N u0 u1 u2 u3)=.ok (.agg #[u0,u1,u2,u3]) (AR w N u0 u1 u2 u3):=yKj (yUr hB u0 u1 u2 u3)
theorem yBo(L:Lo)(c:eH)(u:Value)(w:World)(H:ie w L u c.writes)(hl:c.writes.length<=1000000) :
  Calls Tryz.prog 72 #[.agg #[.int .i64 c.kind,.int .i64 c.I,.int .i64 c.time,u]] w λe w'=>
   ∃O,e=.returned (.agg #[.int .i64 c.kind,.int .i64 c.I,.int .i64 c.time,O])/\w'.ownsRow w.heap.size 68 3 O c.writes.length (c.writes.flatMap pN)/\Mod dt w w':=by
 obtain⟨V,R,D,C,A⟩:=A3 Tryz.Cb;have F:=H;obtain⟨a,l,rfl,X,Z,_⟩:=F;go_enter Tryz.func72,Tryz.ntmps72;by_cases h0:c.writes=[]
 .have K:c.writes.length=0:=by rw[h0];rfl
  rw[K];have HF:Hid (c.writes.flatMap pN=[]):=by rw[Hid,h0];rfl
  go_wp2_with (first
  |(at_builtin;refine zIy rfl _ _ rfl rfl _ _ rfl ?_)
  |fail)
  have hb:dx ((w.alloc (.cells #[.int .i64 c.kind,.int .i64 c.I,.int .i64 c.time,.slice none 0 0] 65)).alloc (.cells #[.int .i64 c.kind,.int .i64 c.I,.int .i64 c.time,.slice none 0 0] 65)) (w.heap.size+1) [.int .i64 c.kind,.int .i64 c.I,.int .i64 c.time,.slice none 0 0] 65:=by
   have:=dx.new (w.alloc (.cells #[.int .i64 c.kind,.int .i64 c.I,.int .i64 c.time,.slice none 0 0] 65)) [.int .i64 c.kind,.int .i64 c.I,.int .i64 c.time,.slice none 0 0] 65;rw[A4]at this;exact this
  refine A5 (Vj Tryz.results72 _ ⟨w.heap.size+1,0,none⟩ rfl (yKj hb)) rfl ⟨.slice none 0 0,rfl,?_,((Mod.refl _ w).alloc _).alloc _⟩;rw[HF.out];exact A6 _ _ _ _
 .obtain⟨b,f,rfl,p⟩:=H.cells h0;have y:Mod dt w ((w.alloc (.cells #[.int .i64 c.kind,.int .i64 c.I,.int .i64 c.time,.slice (some ⟨b,f,none⟩) c.writes.length l] 65)).alloc (.cells #[.int .i64 0,.int .i64 0,.int .i64 0,.slice none 0 0] 65)):=((Mod.refl _ w).alloc _).alloc _;have P:Hid (∀(j:Nat) u,(c.writes.flatMap pN)[j]?=some u->((w.alloc (.cells #[.int .i64 c.kind,.int .i64 c.I,.int .i64 c.time,.slice (some ⟨b,f,none⟩) c.writes.length l] 65)).alloc (.cells #[.int .i64 0,.int .i64 0,.int .i64 0,.slice none 0 0] 65)).cell? ((⟨b,f,none⟩:Addr).add j)=some u):=λj u Lz=>y.cell (p j u Lz) id;have M:=eC (zMk c.writes);have Q:=eC (zQt c.writes);have U:0+c.writes.length<=maxLen:=by unfold maxLen;omega
  have T:(0+c.writes.length)*40<=140737488355328:=by omega
  clear p H;go_wp2_with (first
  |(at_builtin;refine wpList_append_own _ rfl _ _ 63 rfl (w.heap.size+1+1) 68 V _ 3 40 Tryz.underlying63 R D C A rfl (by omega) _ _ _ rfl (A6 _ _ _ _) ⟨b,f,none⟩ _ _ (c.writes.flatMap pN) rfl M.out P.out Q.out U T (by simp) ?_)
  |fail)
  intro v' w1 d h _;have r:=(Mod.refl dt _).grown h (λx W _=>by simp[Value.ownBlock]at W);have gM:=((dx.new w [.int .i64 c.kind,.int .i64 c.I,.int .i64 c.time,.slice (some ⟨b,f,none⟩) c.writes.length l] 65).mod ((Mod.refl dt _).alloc (.cells #[.int .i64 0,.int .i64 0,.int .i64 0,.slice none 0 0] 65)) id).mod r id;have z:=(dx.new (w.alloc (.cells #[.int .i64 c.kind,.int .i64 c.I,.int .i64 c.time,.slice (some ⟨b,f,none⟩) c.writes.length l] 65)) [.int .i64 0,.int .i64 0,.int .i64 0,.slice none 0 0] 65).mod r id;rw[A4]at z;have S:=y.trans r;obtain⟨x0,x1,x2,x3,y0,y1,y2,y3⟩:=vD gM;obtain⟨p0,p1,p2,p3,q0,q1,q2,q3⟩:=vD z;obtain⟨o,m,rfl⟩:=fU d;have HO:=eC d;clear d h r P M Q y;go_wp2_with fail;have q:=z.mod (Mod.eE (w:=w1) w.heap.size 3 (.slice o c.writes.length m)) (by simp[eQ]);have J:w1.ownsRow (w.heap.size+1+1) 68 3 (.slice o c.writes.length m) c.writes.length (c.writes.flatMap pN):=by simpa using HO.out
  refine A5 (Vj Tryz.results72 _ ⟨w.heap.size+1,0,none⟩ rfl (FU q _ _ _ _)) rfl ⟨.slice o c.writes.length m,rfl,?_,?_⟩
  .refine vl (gO (G:=eQ (w.heap.size+1)) (gO (G:=eQ w.heap.size) J (Mod.eE _ 3 _) (λk Y _ _ e=>by simp only[eQ]at e;omega)) (ZC _ _ _ _ _ _) (λk Y _ _ e=>by simp only[eQ]at e;omega)) (by omega)
  .have h1:Mod (jw w.heap.size) w (w1.setCell ⟨w.heap.size,3,none⟩ (.slice o c.writes.length m)):=Mod.put (S.mono (λ_ _ e=>e.elim)) _ _ (aD _) _;have h2:=h1.trans ((ZC (w1.setCell ⟨w.heap.size,3,none⟩ (.slice o c.writes.length m)) (w.heap.size+1) (.int .i64 c.kind) (.int .i64 c.I) (.int .i64 c.time) (.slice o c.writes.length m)).mono (G':=jw w.heap.size) (λi _ e=>by simp only[eQ,jw]at e⊢;omega));exact h2.mono (λi R e=>by simp only[jw]at e;omega)
