import Derived.Test.YtiblcbdkiecbgaaGreatDoorM09
import Derived.Lib.SliceRun
set_option linter.unusedVariables false
set_option maxRecDepth 100000
set_option maxHeartbeats 16000000
namespace Go.Proofs.YtiblcbdkiecbgaaGreatDoor
open Go.RowKit Go.Lib Go.Maps
inductive Tag where
 | no | main | net | tab | dead | lrow | trow
 | line (b:Nat) | node (b:Nat) | tx (b:Nat)
 deriving DecidableEq
structure HLay where
 lv:Value
 dr:Nat
 wv:Value
 mr:Option Nat
 tv:Value
 lbs:List Nat
 lnv:Nat->Value
 nbs:Nat->List Nat
 nnv:Nat->Value
 nlv:Nat->Value
 tbs:List Nat
 tav:Nat->Value
 twv:Nat->Value
 q:TbM
 own:Nat->Tag
def HLay.lo(y:HLay)(n:Nat):Lo:=⟨n,fun k=>∃ t∈y.tbs,(y.twv t).ownBlock=some k⟩
def HLay.ext(y:HLay):Ext:=⟨y.lv,.map (some y.dr),.map y.q.m,y.tv⟩
def ptrV(b:Nat):Value:=.pointer (some ⟨b,0,none⟩)
def houseCells(y:HLay)(lost:Int):List Value:=[y.lv,.map (some y.dr),y.wv,.int .i64 lost,.map y.mr,.map y.q.m,y.tv]
def NodeQ(w:World)(n:Nat)(y:HLay)(b:Nat)(s:NodeS):Prop:=NodeP w (y.lo n) b (y.nnv b) (y.nlv b) s
structure LineP(w:World)(n:Nat)(y:HLay)(b:Nat)(l:LineS):Prop where
 blk:Blk w b [y.lnv b,.int .i64 l.heard] 188
 row:w.ownsRow n 168 1 (y.lnv b) (y.nbs b).length ((y.nbs b).map ptrV)
 len:(y.nbs b).length=l.nodes.length
 node:∀ (j c:Nat) s,(y.nbs b)[j]?=some c->l.nodes[j]?=some s->NodeQ w n y c s
structure TxP(w:World)(n:Nat)(y:HLay)(b:Nat)(t:TxS):Prop where
 blk:Blk w b [.int .i64 t.state,y.tav b,y.twv b,.int .i64 t.time] 166
 ats:w.ownsRow n 3 1 (y.tav b) t.ats.length (t.ats.map (Value.int .i64))
 wr:w.ownsRow n 121 3 (y.twv b) t.writes.length (t.writes.flatMap pairCells)
structure NetB(w:World)(L:Lo)(wv:Value)(mr:Option Nat)(s:NetS):Prop where
 row:RowM w L wv s.way
 dn:DownAt w L mr s.down
 few:s.way.length<=200
 lo:0<=s.lost/\s.lost<=4611686018427387904
structure TabB(w:World)(n N:Nat)(q:TbM)(s:Tab):Prop where
 map:MapQ w n q.m q.n q.hd s
 hdr:∀ k i,okQ k->IsHdrQ (q.hd k i)
 rows:∀ k i,okQ k->RowK w n (q.hd k i) ((s k).list i)
 apart:∀ k k' i i' x,okQ k->okQ k'->(q.hd k i).ownBlock=some x->(q.hd k' i').ownBlock=some x->k=k'/\i=i'
 ok:∀ k,okQ k->KeyOK (s k)
 few:∀ k,okQ k->(s k).held.length+(s k).waits.length<=N
structure OwnP(w:World)(n g:Nat)(y:HLay):Prop where
 main:y.own g=.main
 lrow:∀ k,y.lv.ownBlock=some k->y.own k=.lrow
 trow:∀ k,y.tv.ownBlock=some k->y.own k=.trow
 net:∀ k,y.wv.ownBlock=some k\/y.mr=some k->y.own k=.net
 dead:y.own y.dr=.dead
 tab:∀ k,y.q.own k->y.own k=.tab
 line:∀ b∈y.lbs,y.own b=.line b/\∀ k,(y.lnv b).ownBlock=some k->y.own k=.line b
 node:∀ b∈y.lbs,∀ c∈y.nbs b,∀ k,nodeMay c (y.nnv c) (y.nlv c) k->y.own k=.node c
 tx:∀ b∈y.tbs,y.own b=.tx b/\∀ k,(y.tav b).ownBlock=some k\/(y.twv b).ownBlock=some k->y.own k=.tx b
 lt:∀ k,y.own k≠.no->n<=k/\k<w.heap.size
 lnd:y.lbs.Nodup
 tnd:y.tbs.Nodup
 nnd:(y.lbs.flatMap y.nbs).Nodup
structure HouseP(w:World)(n c g:Nat)(y:HLay)(s:HouseS):Prop where
 blk:Blk w g (houseCells y s.net.lost) 159
 net:NetB w (y.lo n) y.wv y.mr s.net
 dead:DownAt w n (some y.dr) s.dead
 tab:TabB w n 120 y.q s.keys
 qn:y.q.b=g/\y.q.t=159/\y.q.n<=c
 lrow:w.ownsRow n 186 1 y.lv y.lbs.length (y.lbs.map ptrV)
 llen:y.lbs.length=s.lines.length
 line:∀ (k b:Nat) l,y.lbs[k]?=some b->s.lines[k]?=some l->LineP w n y b l
 trow:w.ownsRow n 162 1 y.tv y.tbs.length (y.tbs.map ptrV)
 tlen:y.tbs.length=s.txs.length
 tx:∀ (i b:Nat) t,y.tbs[i]?=some b->s.txs[i]?=some t->TxP w n y b t
 own:OwnP w n g y
theorem lo_lt{w:World}{n g:Nat}{y:HLay}(h:OwnP w n g y):∀ k,(y.lo n).x k->k<w.heap.size:=fun k ⟨t,ht,hk⟩=>(h.lt k (by rw [(h.tx t ht).2 k (.inr hk)];simp)).2
theorem LineP.mod{G:Nat->Prop}{w w':World}{n:Nat}{y:HLay}{b:Nat}{l:LineS}(h:LineP w n y b l)(hm:Mod G w w')(hq:Qm w (y.lo n) G)(hb:¬ G b)(hr:∀ k,(y.lnv b).ownBlock=some k->¬ G k)(hn:∀ c∈y.nbs b,∀ k,nodeMay c (y.nnv c) (y.nlv c) k->¬ G k):LineP w' n y b l:=
 ⟨h.blk.mod hm hb,own_mod h.row hm (fun k _ _ e=>hr k e),h.len,fun j c s hc hs=>(h.node j c s hc hs).mod hm hq (fun k hk=>hn c (List.mem_of_getElem? hc) k hk)⟩
theorem TxP.mod{G:Nat->Prop}{w w':World}{n:Nat}{y:HLay}{b:Nat}{t:TxS}(h:TxP w n y b t)(hm:Mod G w w')(hb:¬ G b)(hr:∀ k,(y.tav b).ownBlock=some k\/(y.twv b).ownBlock=some k->¬ G k):TxP w' n y b t:=
 ⟨h.blk.mod hm hb,own_mod h.ats hm (fun k _ _ e=>hr k (.inl e)),own_mod h.wr hm (fun k _ _ e=>hr k (.inr e))⟩
theorem NetB.mod{G:Nat->Prop}{w w':World}{L:Lo}{wv:Value}{mr:Option Nat}{s:NetS}(h:NetB w L wv mr s)(hm:Mod G w w')(hq:Qm w L G)(hG:∀ k,wv.ownBlock=some k\/mr=some k->¬ G k):NetB w' L wv mr s:=
 ⟨h.row.mod hm hq (fun k hk=>hG k (.inl hk)),h.dn.mod hm (fun k hk=>hG k (.inr hk)),h.few,h.lo⟩
theorem TabB.mod{G:Nat->Prop}{w w':World}{n N:Nat}{q:TbM}{s:Tab}(h:TabB w n N q s)(hm:Mod G w w')(hG:∀ x,q.own x->¬ G x):TabB w' n N q s:=by
 refine ⟨?_,h.hdr,fun k i hk=>own_mod (h.rows k i hk) hm (fun x _ _ e=>hG x (.inr ⟨k,i,hk,e⟩)),h.apart,h.ok,h.few⟩
 have hmm:=h.map
 unfold MapQ at hmm ⊢
 cases hq:q.m with
 | none=>rw [hq] at hmm;exact hmm
 | some x=>
  rw [hq] at hmm
  obtain ⟨h1,D,⟨es,clock,h2,h3⟩,h4⟩:=hmm
  refine ⟨h1,D,⟨es,clock,?_,h3⟩,h4⟩
  exact (hm.block x (Array.getElem?_eq_some_iff.1 h2).1 (hG x (.inl hq))).trans h2
theorem HouseP.quiet{w w':World}{n c g:Nat}{y:HLay}{s:HouseS}(h:HouseP w n c g y s)(hm:Mod noBlock w w'):HouseP w' n c g y s:=
 ⟨h.blk.mod hm id,h.net.mod hm (Qm.none _ _) (fun _ _=>id),h.dead.mod hm (fun _ _=>id),h.tab.mod hm (fun _ _=>id),h.qn,own_mod h.lrow hm (fun _ _ _ _=>id),h.llen,fun k b l hb hl=>(h.line k b l hb hl).mod hm (Qm.none _ _) id (fun _ _=>id) (fun _ _ _ _=>id),
  own_mod h.trow hm (fun _ _ _ _=>id),h.tlen,fun i b t hb ht=>(h.tx i b t hb ht).mod hm id (fun _ _=>id),{ h.own with lt:=fun k hk=>⟨(h.own.lt k hk).1,Nat.lt_of_lt_of_le (h.own.lt k hk).2 hm.size⟩ }⟩
structure Steps(w:World)(y:HLay)(w':World)(y':HLay):Prop where
 md:Mod (fun k=>y.own k≠.no) w w'
 old:∀ k,k<w.heap.size->y'.own k=y.own k
theorem Steps.blk{w w':World}{y y':HLay}(h:Steps w y w' y'){b:Nat}{cs:List Value}{t:TypeId}(hb:Blk w b cs t)(hn:y.own b=.no):Blk w' b cs t:=hb.mod h.md (fun e=>e hn)
theorem Tryz.infoNd:(Tryz.prog.info? 168).map (fun i=>(i.zero,i.size,i.bytes))=some (some (.pointer none),1,8):=by kernel_rfl
theorem ptr_at{w:World}{B:Nat}{ty:TypeId}{v:Value}{bs:List Nat}(h:w.ownsRow B ty 1 v bs.length (bs.map ptrV)){k b:Nat}(hk:bs[k]?=some b) :
  ∃ g cap,v=.slice (some ⟨g,0,none⟩) bs.length cap/\w.cell? ⟨g,k,none⟩=some (.pointer (some ⟨b,0,none⟩)):=by
 have hlt:k<bs.length:=(List.getElem?_eq_some_iff.1 hk).1
 rcases h.2 with ⟨e,h0⟩ | ⟨g,cap,cur,e,q1,q2,q3,q4,q5,q6⟩
 ·omega
 ·subst e
  have:=h.cells (g:=g) rfl k (ptrV b) (by simp [hk])
  rw [Go.WideShapes.add_plain,Nat.zero_add] at this
  exact ⟨g,cap,rfl,this⟩
theorem blkH{w:World}{g:Nat}{y:HLay}{lost:Int}{t:TypeId}(h:Blk w g (houseCells y lost) t) :
  w.cell? ⟨g,0,none⟩=some y.lv/\w.cell? ⟨g,1,none⟩=some (.map (some y.dr))/\w.cell? ⟨g,2,none⟩=some y.wv/\w.cell? ⟨g,3,none⟩=some (.int .i64 lost)/\w.cell? ⟨g,4,none⟩=some (.map y.mr)/\w.cell? ⟨g,5,none⟩=some (.map y.q.m)/\w.cell? ⟨g,6,none⟩=some y.tv:=
 ⟨h.cell 0 rfl,h.cell 1 rfl,h.cell 2 rfl,h.cell 3 rfl,h.cell 4 rfl,h.cell 5 rfl,h.cell 6 rfl⟩
structure Touch(w w':World)(n:Nat)(y:HLay)(T:Tag->Prop):Prop where
 ex:∃ G:Nat->Prop,Mod G w w'/\Qm w (y.lo n) G/\∀ k,k<w.heap.size->G k->T (y.own k)/\y.own k≠.no
section
variable {w w':World} {n c g:Nat} {y:HLay} {s:HouseS} {T:Tag->Prop}
theorem HouseP.fNet(h:HouseP w n c g y s)(ht:Touch w w' n y T)(hn:¬ T .net):NetB w' (y.lo n) y.wv y.mr s.net:=by
 obtain ⟨G,hm,hq,hT⟩:=ht.ex
 refine h.net.mod hm hq (fun k hk e=>hn ?_)
 have ho:=h.own.net k hk
 have:=(hT k (h.own.lt k (by rw [ho];simp)).2 e).1
 rwa [ho] at this
theorem HouseP.fDead(h:HouseP w n c g y s)(ht:Touch w w' n y T)(hn:¬ T .dead):DownAt w' n (some y.dr) s.dead:=by
 obtain ⟨G,hm,hq,hT⟩:=ht.ex
 refine h.dead.mod hm (fun k hk e=>hn ?_)
 cases hk
 have ho:=h.own.dead
 have:=(hT _ (h.own.lt _ (by rw [ho];simp)).2 e).1
 rwa [ho] at this
theorem HouseP.fTab(h:HouseP w n c g y s)(ht:Touch w w' n y T)(hn:¬ T .tab):TabB w' n 120 y.q s.keys:=by
 obtain ⟨G,hm,hq,hT⟩:=ht.ex
 refine h.tab.mod hm (fun k hk e=>hn ?_)
 have ho:=h.own.tab k hk
 have:=(hT k (h.own.lt k (by rw [ho];simp)).2 e).1
 rwa [ho] at this
theorem HouseP.fLrow(h:HouseP w n c g y s)(ht:Touch w w' n y T)(hn:¬ T .lrow):w'.ownsRow n 186 1 y.lv y.lbs.length (y.lbs.map ptrV):=by
 obtain ⟨G,hm,hq,hT⟩:=ht.ex
 refine own_mod h.lrow hm (fun k _ _ hk e=>hn ?_)
 have ho:=h.own.lrow k hk
 have:=(hT k (h.own.lt k (by rw [ho];simp)).2 e).1
 rwa [ho] at this
theorem HouseP.fTrow(h:HouseP w n c g y s)(ht:Touch w w' n y T)(hn:¬ T .trow):w'.ownsRow n 162 1 y.tv y.tbs.length (y.tbs.map ptrV):=by
 obtain ⟨G,hm,hq,hT⟩:=ht.ex
 refine own_mod h.trow hm (fun k _ _ hk e=>hn ?_)
 have ho:=h.own.trow k hk
 have:=(hT k (h.own.lt k (by rw [ho];simp)).2 e).1
 rwa [ho] at this
theorem HouseP.fTx(h:HouseP w n c g y s)(ht:Touch w w' n y T){i b:Nat}{t:TxS}(hb:y.tbs[i]?=some b)(hti:s.txs[i]?=some t)(hn:¬ T (.tx b)):TxP w' n y b t:=by
 obtain ⟨G,hm,hq,hT⟩:=ht.ex
 have hmem:=List.mem_of_getElem? hb
 have ho:=h.own.tx b hmem
 refine (h.tx i b t hb hti).mod hm (fun e=>hn ?_) (fun k hk e=>hn ?_)
 ·have:=(hT b (h.own.lt b (by rw [ho.1];simp)).2 e).1
  rwa [ho.1] at this
 ·have hk2:=ho.2 k hk
  have:=(hT k (h.own.lt k (by rw [hk2];simp)).2 e).1
  rwa [hk2] at this
theorem HouseP.fNode(h:HouseP w n c g y s)(ht:Touch w w' n y T){k b d:Nat}{x:NodeS}(hb:y.lbs[k]?=some b)(hd:d∈y.nbs b)(hx:NodeQ w n y d x)(hn:¬ T (.node d)):NodeQ w' n y d x:=by
 obtain ⟨G,hm,hq,hT⟩:=ht.ex
 have hmem:=List.mem_of_getElem? hb
 refine NodeP.mod hx hm hq (fun z hz e=>hn ?_)
 have ho:=h.own.node b hmem d hd z hz
 have:=(hT z (h.own.lt z (by rw [ho];simp)).2 e).1
 rwa [ho] at this
theorem HouseP.fLine(h:HouseP w n c g y s)(ht:Touch w w' n y T){k b:Nat}{l:LineS}(hb:y.lbs[k]?=some b)(hl:s.lines[k]?=some l)(hn:¬ T (.line b))(hnn:∀ d∈y.nbs b,¬ T (.node d)):LineP w' n y b l:=by
 obtain ⟨G,hm,hq,hT⟩:=ht.ex
 have hmem:=List.mem_of_getElem? hb
 have ho:=h.own.line b hmem
 have hL:=h.line k b l hb hl
 refine ⟨hL.blk.mod hm (fun e=>hn ?_),own_mod hL.row hm (fun z _ _ hz e=>hn ?_),hL.len,fun j d x hd hx=>h.fNode ht hb (List.mem_of_getElem? hd) (hL.node j d x hd hx) (hnn d (List.mem_of_getElem? hd))⟩
 ·have:=(hT b (h.own.lt b (by rw [ho.1];simp)).2 e).1
  rwa [ho.1] at this
 ·have hk2:=ho.2 z hz
  have:=(hT z (h.own.lt z (by rw [hk2];simp)).2 e).1
  rwa [hk2] at this
end
theorem nodup_at{α:Type}{l:List α}(h:l.Nodup){i j:Nat}{x:α}(hi:l[i]?=some x)(hj:l[j]?=some x):i=j:=by
 obtain ⟨h1,h2⟩:=List.getElem?_eq_some_iff.1 hi
 obtain ⟨h3,h4⟩:=List.getElem?_eq_some_iff.1 hj
 rcases Nat.lt_trichotomy i j with q | q | q
 ·exact absurd (h2.trans h4.symm) (List.pairwise_iff_getElem.1 h i j h1 h3 q)
 ·exact q
 ·exact absurd (h4.trans h2.symm) (List.pairwise_iff_getElem.1 h j i h3 h1 q)
theorem set_get{α:Type}(l:List α)(j:Nat)(x:α)(i:Nat):(l.set j x)[i]?=if i=j/\i<l.length then some x else l[i]?:=by
 rw [List.getElem?_set]
 by_cases h:j=i
 ·subst h
  by_cases h2:j<l.length
  ·simp [h2]
  ·simp [h2]
 ·rw [if_neg h,if_neg (fun e=>h e.1.symm)]
end Go.Proofs.YtiblcbdkiecbgaaGreatDoor
