import Derived.Test.YtiblcbdkiecbgaaGreatDoorM05
import Derived.Laws.IdiomCopy
import Derived.Deep.RegionLaw
import Derived.Deep.CutBlock
set_option linter.unusedVariables false
set_option maxRecDepth 100000
set_option maxHeartbeats 16000000
namespace Go.Proofs.YtiblcbdkiecbgaaGreatDoor
open Go.RowKit Go.Lib Go.Maps
variable {E:Ext}
theorem Qm.row{w:World}{B:Nat}{L:Lo}{e:TypeId}{size n:Nat}{v:Value}{xs:List Value}(h:w.ownsRow B e size v n xs)(hL:L<=B)(he:e≠121):Qm w L (fun k=>v.ownBlock=some k):=fun k _ hk=>by
 rcases h.2 with ⟨e',_⟩ | ⟨g',cap,cur,e',h1,hg,_⟩
 ·rw [e'] at hk;simp [Value.ownBlock] at hk
 ·rw [e'] at hk;simp [Value.ownBlock] at hk;subst hk
  rintro (e1 | ⟨⟨cur',fr,e1⟩,_⟩)
  ·omega
  ·rw [hg] at e1;simp at e1;exact he e1.2.1
end Go.Proofs.YtiblcbdkiecbgaaGreatDoor
namespace Go.Proofs.YtiblcbdkiecbgaaGreatDoor
open Go.RowKit Go.Lib Go.Maps
def firstX(x:Int):List Int->Option Nat
 | []=>none
 | y :: ys=>if x=y then some 0 else (firstX x ys).map (·+1)
theorem firstX_at(x:Int):∀ (l:List Int) (k:Nat),(∀ i y,i<k->l[i]?=some y->x≠y)->l[k]?=some x->firstX x l=some k
 | [],_,_,h=>by simp at h
 | y :: ys,0,_,h=>by simp at h;subst h;simp [firstX]
 | y :: ys,k+1,hf,h=>by
  have h0:=hf 0 y (by omega) rfl
  have:=firstX_at x ys k (fun i z hi hz=>hf (i+1) z (by omega) (by simpa using hz)) (by simpa using h)
  simp [firstX,h0,this]
theorem firstX_none(x:Int):∀ (l:List Int),(∀ (i:Nat) y,l[i]?=some y->x≠y)->firstX x l=none
 | [],_=>rfl
 | y :: ys,h=>by
  have h0:=h 0 y rfl
  simp [firstX,h0,firstX_none x ys (fun i z hz=>h (i+1) z (by simpa using hz))]
theorem firstX_some(x:Int):∀ (l:List Int) (k:Nat),firstX x l=some k->l[k]?=some x
 | [],_,h=>by simp [firstX] at h
 | y :: ys,k,h=>by
  unfold firstX at h
  split at h
  ·rename_i e;simp at h;subst h;simp [e]
  ·cases hf:firstX x ys with
   | none=>rw [hf] at h;simp at h
   | some j=>
    rw [hf] at h;simp at h;subst h
    simpa using firstX_some x ys j hf
def plI(o:Option Nat):Int:=match o with | none=>-1 | some k=>k
structure NodeS where
 id:Int
 epoch:Int
 nodes:List Int
 log:List CmdD
 stable:Int
def placeN(s:NodeS):Int:=plI (firstX s.id s.nodes)
theorem placeN_cases(s:NodeS):placeN s = -1\/∃ k:Nat,placeN s=k/\s.nodes[k]?=some s.id/\k<s.nodes.length:=by
 unfold placeN
 cases h:firstX s.id s.nodes with
 | none=>exact .inl rfl
 | some k=>
  have hk:=firstX_some _ _ _ h
  exact .inr ⟨k,rfl,hk,(List.getElem?_eq_some_iff.1 hk).1⟩
def inN(s:NodeS):Bool:=decide (0<=placeN s)
def tailN(s:NodeS):Bool:=inN s && (placeN s == (s.nodes.length:Int) - 1)
def nbrN(s:NodeS)(wh:Int):Option Int:=if inN s && (decide (0<=placeN s+wh) && decide (placeN s+wh<(s.nodes.length:Int))) then s.nodes[(placeN s+wh).toNat]? else none
def IntsV(w:World)(v:Value)(ns:List Int):Prop:=
 ∃ a cap,v=.slice a ns.length cap/\ns.length<=cap/\cap<=maxLen/\(ns=[]\/∃ b off,a=some ⟨b,off,none⟩/\∀ (j:Nat) x,ns[j]?=some x->w.cell? ⟨b,off+j,none⟩=some (.int .i64 x))
theorem IntsV.drewN{w:World}{v:Value}{ns:List Int}(h:IntsV w v ns)(n:Nat):IntsV (w.drewN n) v ns:=h
theorem IntsV.of_own{w:World}{B:Nat}{v:Value}{ns:List Int}(h:w.ownsRow B 3 1 v ns.length (ns.map (Value.int .i64))):IntsV w v ns:=by
 rcases h.2 with ⟨e,h0⟩ | ⟨g,cap,cur,e,_,hg,hc1,hc2,_⟩
 ·have:ns=[]:=List.eq_nil_of_length_eq_zero h0
  subst this
  exact ⟨none,0,e,Nat.le_refl _,Nat.zero_le _,.inl rfl⟩
 ·refine ⟨_,cap,e,hc1,hc2,.inr ⟨g,0,rfl,fun j x hx=>?_⟩⟩
  subst e
  have hc:=h.cells (g:=g) rfl j (.int .i64 x) (by simp [hx])
  rw [Go.WideShapes.add_plain] at hc;exact hc
theorem indexI_any(v:Value)(ns:List Int)(x:Int)(w:World)(hv:IntsV w v ns) :
  Calls Tryz.prog 227 #[v,.int .i64 x] w fun e w'=>e=.returned (.int .i64 (plI (firstX x ns)))/\w'=w:=by
 obtain ⟨a,cap,rfl,hc1,hc2,hcl⟩:=hv
 unfold maxLen at hc2
 have HCL:=Hmr hcl
 clear hcl
 go_enter Tryz.func227,Tryz.ntmps227
 go_wp2_with fail
 go_loopw [8] (fun i wr=>∃ k:Nat,k<=ns.length/\i=.int .i64 k/\(∀ i y,i<k->ns[i]?=some y->x≠y)/\wr=w) (fun i _=>ns.length - (intOf i).toNat)
 case atStart=>exact ⟨0,Nat.zero_le _,rfl,fun i y h=>by omega,rfl⟩
 case round=>
  obtain ⟨k,hk,rfl,hno,rfl⟩:=hrel
  have HNO:=Hmr hno
  clear hno
  by_cases hlt:k<ns.length
  ·obtain ⟨y,hy⟩:∃ y,ns[k]?=some y:=⟨_,List.getElem?_eq_getElem hlt⟩
   rcases HCL.out with e | ⟨b,off,rfl,hcl⟩
   ·rw [e] at hlt;simp at hlt
   have q0:=hcl k y hy
   have HY:=Hmr hy
   have hltI:(k:Int)<(ns.length:Int):=by omega
   have hlt0:(0:Int)<=(k:Int):=by omega
   clear hcl hy
   by_cases hxy:x=y
   ·subst hxy
    have HF:Hid (firstX x ns=some k):=firstX_at x ns k HNO.out HY.out
    go_wp2_with fail
    go_ret
    exact ⟨by rw [HF.out];rfl,rfl⟩
   ·have hne:(x == y)=false:=by simpa using hxy
    go_wp2_with fail
    go_roundw
    case rel=>
     refine ⟨k+1,by omega,by go_num,fun i z hi hz=>?_,by trivial⟩
     by_cases e:i=k
     ·subst e;have h2:=HY.out;rw [h2] at hz;cases hz;exact hxy
     ·exact HNO.out i z (by omega) hz
    case measure=>simp [intOf];omega
  ·obtain rfl:k=ns.length:=by omega
   have HF:Hid (firstX x ns=none):=firstX_none x ns (fun i y hi=>HNO.out i y ((List.getElem?_eq_some_iff.1 hi).1) hi)
   go_wp2_with fail
   go_ret
   exact ⟨by rw [HF.out];rfl,rfl⟩
def goodC(c:CmdD):Prop:=intsC c/\c.writes.length<=40
def RowC(w:World)(L:Lo)(v:Value)(cs:List CmdD):Prop:=
 ∃ us:List Value,us.length=cs.length/\w.ownsRow L 176 4 v cs.length (logCells cs us)/\(∀ (i:Nat) c u,cs[i]?=some c->us[i]?=some u->PairsT w L u c.writes)/\∀ c∈cs,goodC c
theorem RowC.nil(w:World)(L:Lo):RowC w L (.slice none 0 0) []:=⟨[],rfl,World.ownsRow_nil _ _ _ _,fun i m u h=>by simp at h,by simp⟩
theorem RowC.mod{G:Nat->Prop}{w w':World}{L:Lo}{v:Value}{cs:List CmdD}(h:RowC w L v cs)(hm:Mod G w w')(hq:Qm w L G)(hG:∀ k,v.ownBlock=some k->¬ G k):RowC w' L v cs:=by
 obtain ⟨us,h1,h2,h3,h4⟩:=h
 exact ⟨us,h1,own_mod h2 hm (fun k _ _ e=>hG k e),fun i m u hi hu=>(h3 i m u hi hu).mod hm hq,h4⟩
theorem RowC.slice{w:World}{L:Lo}{v:Value}{cs:List CmdD}(h:RowC w L v cs):∃ a cap,v=.slice a cs.length cap:=by
 obtain ⟨us,_,h2,_⟩:=h;exact own_slice h2
theorem own_cells{w:World}{B:Nat}{v:Value}{e:TypeId}{sz n:Nat}{xs:List Value}(ho:w.ownsRow B e sz v n xs){k:Nat}(hk:v.ownBlock=some k):B<=k/\k<w.heap.size/\∃ cur,w.heap[k]?=some (.cells cur e (0,0)):=by
 rcases ho.2 with ⟨e',_⟩ | ⟨g',cap,cur,e',hb,hg,_⟩
 ·rw [e'] at hk;simp [Value.ownBlock] at hk
 ·rw [e'] at hk;simp [Value.ownBlock] at hk;subst hk;exact ⟨hb,(Array.getElem?_eq_some_iff.1 hg).1,cur,hg⟩
structure NodeP(w:World)(L:Lo)(g:Nat)(nv lv:Value)(s:NodeS):Prop where
 blk:Blk w g [.int .i64 s.id,.int .i64 s.epoch,nv,lv,.int .i64 s.stable] 224
 low:L<=g
 ns:w.ownsRow L 3 1 nv s.nodes.length (s.nodes.map (Value.int .i64))
 lg:RowC w L lv s.log
 ints:int64 s.id/\int64 s.epoch/\∀ x∈s.nodes,int64 x
 few:s.nodes.length<=1000000/\s.log.length<=500
 st:0<=s.stable/\s.stable<=s.log.length
 xb:∀ k,L.x k->k<w.heap.size
def nodeMay(g:Nat)(nv lv:Value)(k:Nat):Prop:=k=g\/nv.ownBlock=some k\/lv.ownBlock=some k
theorem NodeP.lt{w:World}{L:Lo}{g:Nat}{nv lv:Value}{s:NodeS}(h:NodeP w L g nv lv s){k:Nat}(hk:nodeMay g nv lv k):L<=k/\k<w.heap.size/\¬ St w L k:=by
 rcases hk with rfl | hk | hk
 ·refine ⟨h.low,h.blk.lt,?_⟩
  rintro (e | ⟨⟨cur,fr,e⟩,_⟩)
  ·have:=h.low;omega
  ·have:=h.blk;simp only [Blk] at this;rw [this] at e;simp at e
 ·obtain ⟨h1,h2,_⟩:=own_cells h.ns hk
  exact ⟨h1,h2,Qm.row h.ns (Nat.le_refl _) (by decide) k h2 hk⟩
 ·obtain ⟨us,_,h2,_⟩:=h.lg
  obtain ⟨h3,h4,_⟩:=own_cells h2 hk
  exact ⟨h3,h4,Qm.row h2 (Nat.le_refl _) (by decide) k h4 hk⟩
theorem NodeP.qm{w:World}{L:Lo}{g:Nat}{nv lv:Value}{s:NodeS}(h:NodeP w L g nv lv s):Qm w L (nodeMay g nv lv):=fun _ _ hk=>(h.lt hk).2.2
theorem Qm.of_node{w:World}{L:Lo}{g:Nat}{nv lv:Value}{s:NodeS}(h:NodeP w L g nv lv s){G:Nat->Prop}(hG:∀ k,k<w.heap.size->G k->nodeMay g nv lv k):Qm w L G:=fun k hk hg=>(h.lt (hG k hk hg)).2.2
theorem NodeP.mod{G:Nat->Prop}{w w':World}{L:Lo}{g:Nat}{nv lv:Value}{s:NodeS}(h:NodeP w L g nv lv s)(hm:Mod G w w')(hq:Qm w L G)(hG:∀ k,nodeMay g nv lv k->¬ G k):NodeP w' L g nv lv s:=
 ⟨h.blk.mod hm (hG g (.inl rfl)),h.low,own_mod h.ns hm (fun k _ _ e=>hG k (.inr (.inl e))),h.lg.mod hm hq (fun k hk=>hG k (.inr (.inr hk))),h.ints,h.few,h.st,fun k hk=>Nat.lt_of_lt_of_le (h.xb k hk) hm.size⟩
theorem NodeP.quiet{w w':World}{L:Lo}{g:Nat}{nv lv:Value}{s:NodeS}(h:NodeP w L g nv lv s)(hm:Mod noBlock w w'):NodeP w' L g nv lv s:=h.mod hm (Qm.none _ _) (fun _ _=>id)
theorem NodeP.drewN{w:World}{L:Lo}{g:Nat}{nv lv:Value}{s:NodeS}(h:NodeP w L g nv lv s)(n:Nat):NodeP (w.drewN n) L g nv lv s:=h.quiet ((Mod.refl _ w).drewN n)
theorem NodeP.apart{w:World}{L:Lo}{g:Nat}{nv lv:Value}{s:NodeS}(h:NodeP w L g nv lv s):nv.ownBlock≠some g/\lv.ownBlock≠some g/\∀ k,nv.ownBlock=some k->lv.ownBlock≠some k:=by
 have hb:=h.blk
 simp only [Blk] at hb
 obtain ⟨us,_,h2,_⟩:=h.lg
 refine ⟨fun e=>?_,fun e=>?_,fun k e e'=>?_⟩
 ·obtain ⟨_,_,cur,hc⟩:=own_cells h.ns e
  rw [hb] at hc;simp at hc
 ·obtain ⟨_,_,cur,hc⟩:=own_cells h2 e
  rw [hb] at hc;simp at hc
 ·obtain ⟨_,_,cur,hc⟩:=own_cells h.ns e
  obtain ⟨_,_,cur',hc'⟩:=own_cells h2 e'
  rw [hc] at hc';simp at hc'
theorem blkN5{w:World}{g:Nat}{a0 a1 a2 a3 a4:Value}{t:TypeId}(h:Blk w g [a0,a1,a2,a3,a4] t) :
  w.cell? ⟨g,0,none⟩=some a0/\w.cell? ⟨g,1,none⟩=some a1/\w.cell? ⟨g,2,none⟩=some a2/\w.cell? ⟨g,3,none⟩=some a3/\w.cell? ⟨g,4,none⟩=some a4:=
 ⟨h.cell 0 rfl,h.cell 1 rfl,h.cell 2 rfl,h.cell 3 rfl,h.cell 4 rfl⟩
theorem cplace_any(L:Lo)(g:Nat)(nv lv:Value)(s:NodeS)(w:World)(h:NodeP w L g nv lv s) :
  Calls Tryz.prog 252 #[.pointer (some ⟨g,0,none⟩)] w fun e w'=>e=.returned (.int .i64 (placeN s))/\∃ m,w'=w.drewN m:=by
 obtain ⟨c0,c1,c2,c3,c4⟩:=blkN5 h.blk
 have HI:=Hmr (IntsV.of_own h.ns)
 clear h
 go_enter Tryz.func252,Tryz.ntmps252
 go_wp2_with fail
 go_quiet (first
  | (go_at_call 227;refine Calls.quiet_of_same (indexI_any _ _ _ _ (HI.out.drewN _)))
  | fail)
 go_wp2_with fail
 go_ret
 exact ⟨rfl,_,rfl⟩
theorem in_any(L:Lo)(g:Nat)(nv lv:Value)(s:NodeS)(w:World)(h:NodeP w L g nv lv s) :
  Calls Tryz.prog 236 #[.pointer (some ⟨g,0,none⟩)] w fun e w'=>e=.returned (.bool (inN s))/\∃ m,w'=w.drewN m:=by
 have HP:=Hmr (cplace_any L g nv lv s w h)
 clear h
 go_enter Tryz.func236,Tryz.ntmps236
 go_wp2_with fail
 refine HP.out.mono ?_
 rintro e w1 ⟨rfl,m,rfl⟩
 go_wp2_with fail
 go_ret
 exact ⟨rfl,m,rfl⟩
theorem tail_any(L:Lo)(g:Nat)(nv lv:Value)(s:NodeS)(w:World)(h:NodeP w L g nv lv s) :
  Calls Tryz.prog 195 #[.pointer (some ⟨g,0,none⟩)] w fun e w'=>e=.returned (.bool (tailN s))/\∃ m,w'=w.drewN m:=by
 obtain ⟨na,ncap,hnv⟩:=own_slice h.ns
 subst hnv
 obtain ⟨c0,c1,c2,c3,c4⟩:=blkN5 h.blk
 have hf:=h.few.1
 have HN:=Hmr h
 clear h
 go_enter Tryz.func195,Tryz.ntmps195
 go_wp2_with fail
 cases hin:inN s with
 | true=>
  have HIN:Hid (∀ n,Calls Tryz.prog 236 #[.pointer (some ⟨g,0,none⟩)] (w.drewN n) fun e w'=>e=.returned (.bool true)/\∃ m,w'=(w.drewN n).drewN m):=fun n=>by have:=in_any _ _ _ _ _ _ (HN.out.drewN n);rw [hin] at this;exact this
  have HT:Hid (tailN s=(placeN s == (s.nodes.length:Int) - 1)):=by rw [Hid,tailN,hin];rfl
  go_quiet (first
   | (go_at_call 236;refine Calls.quiet_of (HIN.out _))
   | (go_at_call 252;refine Calls.quiet_of (cplace_any _ _ _ _ _ _ (HN.out.drewN _)))
   | fail)
  go_wp2_with fail
  go_ret
  exact ⟨by rw [HT.out];rfl,_,rfl⟩
 | false=>
  have HIN:Hid (∀ n,Calls Tryz.prog 236 #[.pointer (some ⟨g,0,none⟩)] (w.drewN n) fun e w'=>e=.returned (.bool false)/\∃ m,w'=(w.drewN n).drewN m):=fun n=>by have:=in_any _ _ _ _ _ _ (HN.out.drewN n);rw [hin] at this;exact this
  have HT:Hid (tailN s=false):=by rw [Hid,tailN,hin];rfl
  go_quiet (first
   | (go_at_call 236;refine Calls.quiet_of (HIN.out _))
   | (go_at_call 252;refine Calls.quiet_of (cplace_any _ _ _ _ _ _ (HN.out.drewN _)))
   | fail)
  go_wp2_with fail
  go_ret
  exact ⟨by rw [HT.out];rfl,_,rfl⟩
end Go.Proofs.YtiblcbdkiecbgaaGreatDoor
