import Derived.WalkKit
import Derived.Laws.BytesArg
import Derived.Deep.QuietTactic
import Derived.BigQuiet
set_option linter.unusedVariables false
set_option maxRecDepth 100000
set_option maxHeartbeats 16000000
namespace Go.Proofs.YtmaiggbnceejiaaGreatDoor
theorem aA:type_of% @List.getElem?_eq_getElem:=@List.getElem?_eq_getElem
theorem aB:type_of% @List.getElem?_eq_some_iff:=@List.getElem?_eq_some_iff
theorem aC:type_of% @List.mem_of_getElem?:=@List.mem_of_getElem?
theorem aD:type_of% @List.length_append:=@List.length_append
theorem aE:type_of% @List.getElem?_append_left:=@List.getElem?_append_left
theorem aF:type_of% @Nat.le_refl:=@Nat.le_refl
theorem aG:type_of% @Array.getElem?_eq_some_iff:=@Array.getElem?_eq_some_iff
theorem aH:type_of% @Nat.lt_of_lt_of_le:=@Nat.lt_of_lt_of_le
theorem aI:type_of% @List.getD_eq_getElem?_getD:=@List.getD_eq_getElem?_getD
theorem aJ:type_of% @Nat.le_trans:=@Nat.le_trans
theorem aK:type_of% @if_neg:=@if_neg
theorem aL:type_of% @decide_eq_false:=@decide_eq_false
theorem aM:type_of% @List.getElem?_append_right:=@List.getElem?_append_right
theorem aN:type_of% @List.mem_append:=@List.mem_append
theorem aO:type_of% @List.getElem?_of_mem:=@List.getElem?_of_mem
theorem aP:type_of% @if_pos:=@if_pos
theorem aQ:type_of% @decide_eq_true:=@decide_eq_true
theorem aR:type_of% @List.eq_nil_of_length_eq_zero:=@List.eq_nil_of_length_eq_zero
theorem aS:type_of% @Classical.byContradiction:=@Classical.byContradiction
theorem aT:type_of% @Nat.zero_le:=@Nat.zero_le
theorem aU:type_of% @List.append_assoc:=@List.append_assoc
theorem aV:type_of% @Int.toNat_natCast:=@Int.toNat_natCast
theorem aW:type_of% @List.length_cons:=@List.length_cons
theorem aX:type_of% @Nat.zero_add:=@Nat.zero_add
theorem aY:type_of% @List.nil_append:=@List.nil_append
theorem aZ:type_of% @List.length_take:=@List.length_take
theorem aa:type_of% @List.getElem?_map:=@List.getElem?_map
theorem ae:type_of% @Option.some.injEq:=@Option.some.injEq
theorem af:type_of% @List.mem_map:=@List.mem_map
theorem ag:type_of% @List.length_set:=@List.length_set
theorem ah:type_of% @List.getElem?_eq_none:=@List.getElem?_eq_none
theorem ai:type_of% @congrArg:=@congrArg
theorem aj:type_of% @List.range_succ:=@List.range_succ
theorem al:type_of% @List.foldl_append:=@List.foldl_append
theorem ao:type_of% @List.pairwise_iff_getElem:=@List.pairwise_iff_getElem
theorem aq:type_of% @List.take_append_drop:=@List.take_append_drop
theorem ar:type_of% @List.length_map:=@List.length_map
theorem au:type_of% @List.take_succ_eq_append_getElem:=@List.take_succ_eq_append_getElem
theorem aw:type_of% @List.take_succ_cons:=@List.take_succ_cons
theorem ax:type_of% @Option.some.inj:=@Option.some.inj
theorem ay:type_of% @List.map_append:=@List.map_append
theorem az:type_of% @List.length_nil:=@List.length_nil
theorem bA:type_of% @decide_eq_true_eq:=@decide_eq_true_eq
theorem bB:type_of% @List.length_filter_le:=@List.length_filter_le
theorem bC:type_of% @List.size_toArray:=@List.size_toArray
theorem bD:type_of% @Option.isSome_iff_exists:=@Option.isSome_iff_exists
theorem bE:type_of% @List.mem_filter:=@List.mem_filter
theorem bF:type_of% @List.cons_append:=@List.cons_append
theorem bG:type_of% @Nat.add_zero:=@Nat.add_zero
theorem bH:type_of% @List.flatMap_cons:=@List.flatMap_cons
theorem bI:type_of% @List.ext_getElem?:=@List.ext_getElem?
theorem bJ:type_of% @List.take_length:=@List.take_length
theorem bK:type_of% @Option.map_some:=@Option.map_some
theorem bL:type_of% @List.take_of_length_le:=@List.take_of_length_le
theorem bM:type_of% @List.getElem?_mapIdx:=@List.getElem?_mapIdx
theorem bN:type_of% @List.nodup_append:=@List.nodup_append
theorem bO:type_of% @List.length_drop:=@List.length_drop
theorem bP:type_of% @Nat.add_sub_cancel:=@Nat.add_sub_cancel
theorem bQ:type_of% @List.mem_or_eq_of_mem_set:=@List.mem_or_eq_of_mem_set
theorem bR:type_of% @Int.le_refl:=@Int.le_refl
theorem bS:type_of% @List.mem_cons_of_mem:=@List.mem_cons_of_mem
theorem bT:type_of% @Bool.and_eq_true:=@Bool.and_eq_true
theorem bU:type_of% @List.mem_singleton:=@List.mem_singleton
theorem bV:type_of% @List.mem_cons:=@List.mem_cons
theorem bW:type_of% @List.map_cons:=@List.map_cons
theorem bX:type_of% @List.length_pos_iff:=@List.length_pos_iff
theorem bY:type_of% @List.drop_succ_cons:=@List.drop_succ_cons
theorem bZ:type_of% @List.mem_range:=@List.mem_range
theorem ba:type_of% @Array.replicate_zero:=@Array.replicate_zero
theorem bb:type_of% @Array.replicate_succ:=@Array.replicate_succ
theorem bc:type_of% @beq_eq_false_iff_ne:=@beq_eq_false_iff_ne
theorem bd:type_of% @List.append_toArray:=@List.append_toArray
theorem bf:type_of% @List.take_zero:=@List.take_zero
theorem bg:type_of% @List.pairwise_append:=@List.pairwise_append
theorem bh:type_of% @List.drop_eq_getElem_cons:=@List.drop_eq_getElem_cons
theorem bj:type_of% @List.filter_sublist:=@List.filter_sublist
theorem bk:type_of% @List.take_append_of_le_length:=@List.take_append_of_le_length
theorem bp:type_of% @List.push_toArray:=@List.push_toArray
theorem bq:type_of% @List.getElem?_set:=@List.getElem?_set
theorem br:type_of% @Bool.or_eq_true:=@Bool.or_eq_true
theorem bu:type_of% @List.findIdx?_cons:=@List.findIdx?_cons
theorem bw:type_of% @decide_eq_false_iff_not:=@decide_eq_false_iff_not
theorem bx:type_of% @List.prefix_refl:=@List.prefix_refl
theorem bz:type_of% @List.map_toArray:=@List.map_toArray
theorem cA:type_of% @List.findIdx?_eq_some_iff_getElem:=@List.findIdx?_eq_some_iff_getElem
theorem cB:type_of% @List.pairwise_map:=@List.pairwise_map
theorem cC:type_of% @List.drop_zero:=@List.drop_zero
theorem cD:type_of% @List.length_zip:=@List.length_zip
theorem cE:type_of% @Option.bind_some:=@Option.bind_some
theorem cF:type_of% @List.filter_cons:=@List.filter_cons
theorem cG:type_of% @List.mem_of_mem_eraseIdx:=@List.mem_of_mem_eraseIdx
theorem cH:type_of% @List.mem_append_left:=@List.mem_append_left
theorem cI:type_of% @Nat.lt_trichotomy:=@Nat.lt_trichotomy
theorem cJ:type_of% @List.find?_cons:=@List.find?_cons
theorem cK:type_of% @Array.length_toList:=@Array.length_toList
theorem cL:type_of% @Option.map_eq_some_iff:=@Option.map_eq_some_iff
theorem cM:type_of% @List.map_nil:=@List.map_nil
theorem cN:type_of% @List.rel_of_pairwise_cons:=@List.rel_of_pairwise_cons
theorem cO:type_of% @Bool.eq_iff_iff:=@Bool.eq_iff_iff
theorem cP:type_of% @List.mem_of_mem_take:=@List.mem_of_mem_take
theorem cQ:type_of% @List.mem_of_mem_drop:=@List.mem_of_mem_drop
theorem cR:type_of% @List.getElem_of_mem:=@List.getElem_of_mem
theorem cS:type_of% @List.mem_flatMap:=@List.mem_flatMap
theorem cT:type_of% @List.getElem?_cons_succ:=@List.getElem?_cons_succ
theorem cU:type_of% @List.any_eq_true:=@List.any_eq_true
theorem cV:type_of% @List.foldl_cons:=@List.foldl_cons
theorem cW:type_of% @List.append_nil:=@List.append_nil
theorem cX:type_of% @Nat.lt_irrefl:=@Nat.lt_irrefl
theorem cY:type_of% @Nat.add_assoc:=@Nat.add_assoc
theorem cZ:type_of% @Nat.mul_one:=@Nat.mul_one
theorem cg:type_of% @Nat.zero_mul:=@Nat.zero_mul
theorem cj:type_of% @List.drop_length:=@List.drop_length
theorem cq:type_of% @List.getElem?_range:=@List.getElem?_range
theorem cr:type_of% @List.Pairwise.imp_of_mem:=@List.Pairwise.imp_of_mem
theorem cy:type_of% @List.getElem?_take:=@List.getElem?_take
theorem cz:type_of% @List.getElem?_drop:=@List.getElem?_drop
theorem dA:type_of% @List.find?_eq_none:=@List.find?_eq_none
theorem dB:type_of% @Bool.false_eq_true:=@Bool.false_eq_true
theorem dC:type_of% @List.drop_eq_nil_of_le:=@List.drop_eq_nil_of_le
theorem dD:type_of% @List.map_reverse:=@List.map_reverse
theorem dE:type_of% @List.Nodup.length_le_of_subset:=@List.Nodup.length_le_of_subset
theorem dF:type_of% @List.zipIdx_map_fst:=@List.zipIdx_map_fst
theorem dG:type_of% @List.flatMap_append:=@List.flatMap_append
theorem dH:type_of% @Nat.mod_lt:=@Nat.mod_lt
theorem dI:type_of% @List.set_cons_succ:=@List.set_cons_succ
theorem dJ:type_of% @List.filter_append:=@List.filter_append
theorem dK:type_of% @List.mem_of_find?_eq_some:=@List.mem_of_find?_eq_some
theorem dL:type_of% @Option.getD_some:=@Option.getD_some
theorem dM:type_of% @Array.toList_map:=@Array.toList_map
theorem dN:type_of% @Nat.lt_or_ge:=@Nat.lt_or_ge
theorem dO:type_of% @List.map_map:=@List.map_map
theorem dP:type_of% @List.set_append_right:=@List.set_append_right
theorem dQ:type_of% @Classical.choose_spec:=@Classical.choose_spec
theorem dR:type_of% @Array.getElem?_modify:=@Array.getElem?_modify
theorem dS:type_of% @Nat.mul_le_mul_right:=@Nat.mul_le_mul_right
theorem dU:type_of% @List.take_left:=@List.take_left
open Go.RowKit
structure Mod(G:Nat->Prop)(w w':World):Prop where
 os:w'.os=w.os
 tape:w'.tape=w.tape
 output:w'.output=w.output
 size:w.heap.size<=w'.heap.size
 block:∀ k,k<w.heap.size->¬ G k->w'.heap[k]?=w.heap[k]?
def dZ(_:Nat):Prop:=False
def eA(g k:Nat):Prop:=k=g
def jN(N k:Nat):Prop:=N<=k
theorem Mod.refl(G:Nat->Prop)(w:World):Mod G w w:=⟨rfl,rfl,rfl,aF _,fun _ _ _=>rfl⟩
theorem Mod.trans{G:Nat->Prop}{a b c:World}(h:Mod G a b)(k:Mod G b c):Mod G a c:=
 ⟨k.os.trans h.os,k.tape.trans h.tape,k.output.trans h.output,aJ h.size k.size,fun i hi hG=>(k.block i (aH hi h.size) hG).trans (h.block i hi hG)⟩
theorem Mod.trans'{G G':Nat->Prop}{a b c:World}(h:Mod G a b)(k:Mod G' b c)(hG:∀ i,i<a.heap.size->G' i->G i):Mod G a c:=
 ⟨k.os.trans h.os,k.tape.trans h.tape,k.output.trans h.output,aJ h.size k.size,fun i hi hg=>(k.block i (aH hi h.size) (fun x=>hg (hG i hi x))).trans (h.block i hi hg)⟩
theorem Mod.mono{G G':Nat->Prop}{w w':World}(h:Mod G w w')(hG:∀ i,i<w.heap.size->G i->G' i):Mod G' w w':=
 ⟨h.os,h.tape,h.output,h.size,fun k hk hg=>h.block k hk (fun x=>hg (hG k hk x))⟩
theorem Mod.drew{G:Nat->Prop}{a w:World}(h:Mod G a w):Mod G a w.drew:=⟨h.os,h.tape,h.output,h.size,h.block⟩
theorem Mod.drewN{G:Nat->Prop}{a w:World}(h:Mod G a w)(n:Nat):Mod G a (w.drewN n):=⟨h.os,h.tape,h.output,h.size,h.block⟩
theorem Mod.alloc{G:Nat->Prop}{a w:World}(h:Mod G a w)(o:Obj):Mod G a (w.alloc o):=
 h.trans ⟨rfl,rfl,rfl,by simp,fun k hk _=>Below.heap_alloc _ _ _ hk⟩
theorem Mod.setCell{G:Nat->Prop}{a w:World}(h:Mod G a w){p:Addr}(hp:p.block<a.heap.size->G p.block)(u:Value):Mod G a (w.setCell p u):=
 ⟨h.os,h.tape,h.output,by have:=h.size;simpa [World.setCell] using this,fun k hk hg=>by
  rw [Below.heap_setCell _ _ _ _ (by rintro rfl;exact hg (hp hk))];exact h.block k hk hg⟩
theorem Mod.grown{G:Nat->Prop}{a w w':World}{row:Option Nat}(h:Mod G a w)(hg:w.grownBy w' row)(hr:∀ k,row=some k->k<a.heap.size->G k):Mod G a w':=
 ⟨hg.os.trans h.os,hg.tape.trans h.tape,hg.output.trans h.output,aJ h.size hg.size,fun k hk hG=>
  (hg.block k (aH hk h.size) (fun e=>hG (hr k e.symm hk))).trans (h.block k hk hG)⟩
theorem Mod.below{G:Nat->Prop}{w w':World}(h:Mod G w w'){B:Nat}(hB:B<=w.heap.size)(hG:∀ k,k<B->¬ G k):Below B w w':=
 ⟨h.os,h.tape,h.output,h.size,fun k hk=>h.block k (aH hk hB) (hG k hk)⟩
theorem Mod.cell{G:Nat->Prop}{w w':World}(h:Mod G w w'){p:Addr}{v:Value}(hc:w.cell? p=some v)(hG:¬ G p.block):w'.cell? p=some v:=
 (World.cell?_of_block (h.block p.block (World.block_lt_of_cell? w p hc) hG)).trans hc
theorem Mod.frozen{G:Nat->Prop}{w w':World}(h:Mod G w w'){p:Addr}(hl:p.block<w.heap.size)(hG:¬ G p.block):w'.frozen? p=w.frozen? p:=
 World.frozen?_of_block (h.block p.block hl hG)
def dg(w:World)(g:Nat)(cs:List Value)(t:TypeId):Prop:=w.heap[g]?=some (.cells cs.toArray t (0,0))
theorem dg.lt{w:World}{g:Nat}{cs:List Value}{t:TypeId}(h:dg w g cs t):g<w.heap.size:=(aG.1 h).1
theorem dg.cell{w:World}{g:Nat}{cs:List Value}{t:TypeId}(h:dg w g cs t)(j:Nat){v:Value}(hj:cs[j]?=some v):w.cell? ⟨g,j,none⟩=some v:=by
 rw [cell_of_row w g j _ t (0,0) h];simpa using hj
theorem dg.frozen{w:World}{g:Nat}{cs:List Value}{t:TypeId}(h:dg w g cs t)(j:Nat):w.frozen? ⟨g,j,none⟩=false:=by
 simp only [dg] at h;simp [World.frozen?,h]
theorem dg.set{w:World}{g:Nat}{cs:List Value}{t:TypeId}(h:dg w g cs t)(j:Nat)(u:Value):dg (w.setCell ⟨g,j,none⟩ u) g (cs.set j u) t:=by
 simp only [dg] at h ⊢;simp only [World.setCell,dR,h];simp
theorem dg.mod{G:Nat->Prop}{w w':World}{g:Nat}{cs:List Value}{t:TypeId}(h:dg w g cs t)(hm:Mod G w w')(hG:¬ G g):dg w' g cs t:=(hm.block g h.lt hG).trans h
theorem dg.new(w:World)(cs:List Value)(t:TypeId):dg (w.alloc (.cells cs.toArray t)) w.heap.size cs t:=heap_alloc_new w _
theorem Mod.dt{w:World}(g:Nat)(j:Nat)(u:Value):Mod (eA g) w (w.setCell ⟨g,j,none⟩ u):=Mod.setCell (G:=eA g) (p:=⟨g,j,none⟩) (Mod.refl (eA g) w) (fun _=>(rfl:g=g)) u
theorem Mod.put{N:Nat}{a w:World}(h:Mod (jN N) a w)(b j:Nat)(hb:N<=b)(u:Value):Mod (jN N) a (w.setCell ⟨b,j,none⟩ u):=
 Mod.setCell (G:=jN N) (p:=⟨b,j,none⟩) h (fun _=>hb) u
theorem Mod.since{G:Nat->Prop}{a b c:World}{N:Nat}(h:Mod G a b)(k:Mod (jN N) b c)(hN:a.heap.size<=N):Mod G a c:=
 h.trans' k (fun i hi hi'=>absurd hi' (by simp only [jN];omega))
theorem fm{G:Nat->Prop}{w w':World}{B:Nat}{e:TypeId}{size:Nat}{v:Value}{n:Nat}{xs:List Value}(h:w.ownsRow B e size v n xs)(hm:Mod G w w')(hG:∀ k,B<=k->k<w.heap.size->v.ownBlock=some k->¬ G k):w'.ownsRow B e size v n xs:=by
 refine ⟨h.1,?_⟩;rcases h.2 with hn | ⟨g,cap,cur,rfl,h1,h2,rest⟩
 ·exact .inl hn
 ·have hlt:=(aG.1 h2).1;exact .inr ⟨g,cap,cur,rfl,h1,by rw [hm.block g hlt (hG g h1 hlt rfl)];exact h2,rest⟩
theorem uL{w:World}{B B':Nat}{e:TypeId}{size:Nat}{v:Value}{n:Nat}{xs:List Value}(h:w.ownsRow B e size v n xs)(hB:B'<=B):w.ownsRow B' e size v n xs:=by
 refine ⟨h.1,?_⟩;rcases h.2 with hn | ⟨g,cap,cur,h0,h1,rest⟩
 ·exact .inl hn
 ·exact .inr ⟨g,cap,cur,h0,aJ hB h1,rest⟩
theorem eu{w:World}{B:Nat}{e:TypeId}{size:Nat}{v:Value}{n:Nat}{xs:List Value}(h:w.ownsRow B e size v n xs):∃ a cap,v=.slice a n cap:=by
 rcases h.2 with ⟨rfl,rfl⟩ | ⟨g,cap,cur,rfl,_⟩
 ·exact ⟨_,_,rfl⟩
 ·exact ⟨_,_,rfl⟩
structure fQ where
 key:ByteArray
 val:ByteArray
 gone:Bool
structure dv where
 kind:Int
 tx:Int
 time:Int
 writes:List fQ
structure dw where
 kind:Int
 eF:Int
 to:Int
 dk:Int
 n:Int
 cmd:dv
def uf:dv:=⟨0,0,0,[]⟩
def yLt:dw:=⟨0,0,0,0,0,uf⟩
end Go.Proofs.YtmaiggbnceejiaaGreatDoor
