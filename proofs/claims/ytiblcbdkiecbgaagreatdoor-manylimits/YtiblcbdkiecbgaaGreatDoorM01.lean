import Derived.WalkKit
import Derived.Laws.BytesArg
import Derived.Deep.QuietTactic
import Derived.BigQuiet
set_option linter.unusedVariables false
set_option maxRecDepth 100000
set_option maxHeartbeats 16000000
namespace Go.Proofs.YtiblcbdkiecbgaaGreatDoor
open Go.RowKit
structure Mod(G:Nat->Prop)(w w':World):Prop where
 os:w'.os=w.os
 tape:w'.tape=w.tape
 output:w'.output=w.output
 size:w.heap.size<=w'.heap.size
 block:∀ k,k<w.heap.size->¬ G k->w'.heap[k]?=w.heap[k]?
def noBlock(_:Nat):Prop:=False
def oneBlock(g k:Nat):Prop:=k=g
def newer(N k:Nat):Prop:=N<=k
theorem Mod.refl(G:Nat->Prop)(w:World):Mod G w w:=⟨rfl,rfl,rfl,Nat.le_refl _,fun _ _ _=>rfl⟩
theorem Mod.trans{G:Nat->Prop}{a b c:World}(h:Mod G a b)(k:Mod G b c):Mod G a c:=
 ⟨k.os.trans h.os,k.tape.trans h.tape,k.output.trans h.output,Nat.le_trans h.size k.size,fun i hi hG=>(k.block i (Nat.lt_of_lt_of_le hi h.size) hG).trans (h.block i hi hG)⟩
theorem Mod.trans'{G G':Nat->Prop}{a b c:World}(h:Mod G a b)(k:Mod G' b c)(hG:∀ i,i<a.heap.size->G' i->G i):Mod G a c:=
 ⟨k.os.trans h.os,k.tape.trans h.tape,k.output.trans h.output,Nat.le_trans h.size k.size,fun i hi hg=>(k.block i (Nat.lt_of_lt_of_le hi h.size) (fun x=>hg (hG i hi x))).trans (h.block i hi hg)⟩
theorem Mod.mono{G G':Nat->Prop}{w w':World}(h:Mod G w w')(hG:∀ i,i<w.heap.size->G i->G' i):Mod G' w w':=
 ⟨h.os,h.tape,h.output,h.size,fun k hk hg=>h.block k hk (fun x=>hg (hG k hk x))⟩
theorem Mod.drew{G:Nat->Prop}{a w:World}(h:Mod G a w):Mod G a w.drew:=⟨h.os,h.tape,h.output,h.size,h.block⟩
theorem Mod.drewN{G:Nat->Prop}{a w:World}(h:Mod G a w)(n:Nat):Mod G a (w.drewN n):=⟨h.os,h.tape,h.output,h.size,h.block⟩
theorem Mod.alloc{G:Nat->Prop}{a w:World}(h:Mod G a w)(o:Obj):Mod G a (w.alloc o):=
 h.trans ⟨rfl,rfl,rfl,by simp,fun k hk _=>Below.heap_alloc _ _ _ hk⟩
theorem Mod.setCell{G:Nat->Prop}{a w:World}(h:Mod G a w){p:Addr}(hp:p.block<a.heap.size->G p.block)(u:Value):Mod G a (w.setCell p u):=
 ⟨h.os,h.tape,h.output,by have:=h.size;simpa [World.setCell] using this,fun k hk hg=>by
  rw [Below.heap_setCell _ _ _ _ (by rintro rfl;exact hg (hp hk))];exact h.block k hk hg⟩
theorem Mod.grown{G:Nat->Prop}{a w w':World}{row:Option Nat}(h:Mod G a w)(hg:w.grownBy w' row)(hr:∀ k,row=some k->k<a.heap.size->G k):Mod G a w':=
 ⟨hg.os.trans h.os,hg.tape.trans h.tape,hg.output.trans h.output,Nat.le_trans h.size hg.size,fun k hk hG=>
  (hg.block k (Nat.lt_of_lt_of_le hk h.size) (fun e=>hG (hr k e.symm hk))).trans (h.block k hk hG)⟩
theorem Mod.cell{G:Nat->Prop}{w w':World}(h:Mod G w w'){p:Addr}{v:Value}(hc:w.cell? p=some v)(hG:¬ G p.block):w'.cell? p=some v:=
 (World.cell?_of_block (h.block p.block (World.block_lt_of_cell? w p hc) hG)).trans hc
theorem Mod.frozen{G:Nat->Prop}{w w':World}(h:Mod G w w'){p:Addr}(hl:p.block<w.heap.size)(hG:¬ G p.block):w'.frozen? p=w.frozen? p:=
 World.frozen?_of_block (h.block p.block hl hG)
def Blk(w:World)(g:Nat)(cs:List Value)(t:TypeId):Prop:=w.heap[g]?=some (.cells cs.toArray t (0,0))
theorem Blk.lt{w:World}{g:Nat}{cs:List Value}{t:TypeId}(h:Blk w g cs t):g<w.heap.size:=(Array.getElem?_eq_some_iff.1 h).1
theorem Blk.cell{w:World}{g:Nat}{cs:List Value}{t:TypeId}(h:Blk w g cs t)(j:Nat){v:Value}(hj:cs[j]?=some v):w.cell? ⟨g,j,none⟩=some v:=by
 rw [cell_of_row w g j _ t (0,0) h];simpa using hj
theorem Blk.frozen{w:World}{g:Nat}{cs:List Value}{t:TypeId}(h:Blk w g cs t)(j:Nat):w.frozen? ⟨g,j,none⟩=false:=by
 simp only [Blk] at h
 simp [World.frozen?,h]
theorem Blk.set{w:World}{g:Nat}{cs:List Value}{t:TypeId}(h:Blk w g cs t)(j:Nat)(u:Value):Blk (w.setCell ⟨g,j,none⟩ u) g (cs.set j u) t:=by
 simp only [Blk] at h ⊢
 simp only [World.setCell,Array.getElem?_modify,h]
 simp
theorem Blk.mod{G:Nat->Prop}{w w':World}{g:Nat}{cs:List Value}{t:TypeId}(h:Blk w g cs t)(hm:Mod G w w')(hG:¬ G g):Blk w' g cs t:=(hm.block g h.lt hG).trans h
theorem Blk.new(w:World)(cs:List Value)(t:TypeId):Blk (w.alloc (.cells cs.toArray t)) w.heap.size cs t:=heap_alloc_new w _
theorem Mod.setBlk{w:World}(g:Nat)(j:Nat)(u:Value):Mod (oneBlock g) w (w.setCell ⟨g,j,none⟩ u):=Mod.setCell (G:=oneBlock g) (p:=⟨g,j,none⟩) (Mod.refl (oneBlock g) w) (fun _=>(rfl:g=g)) u
theorem Mod.put{N:Nat}{a w:World}(h:Mod (newer N) a w)(b j:Nat)(hb:N<=b)(u:Value):Mod (newer N) a (w.setCell ⟨b,j,none⟩ u):=
 Mod.setCell (G:=newer N) (p:=⟨b,j,none⟩) h (fun _=>hb) u
theorem Mod.since{G:Nat->Prop}{a b c:World}{N:Nat}(h:Mod G a b)(k:Mod (newer N) b c)(hN:a.heap.size<=N):Mod G a c:=
 h.trans' k (fun i hi hi'=>absurd hi' (by simp only [newer];omega))
theorem own_mod{G:Nat->Prop}{w w':World}{B:Nat}{e:TypeId}{size:Nat}{v:Value}{n:Nat}{xs:List Value}(h:w.ownsRow B e size v n xs)(hm:Mod G w w')(hG:∀ k,B<=k->k<w.heap.size->v.ownBlock=some k->¬ G k):w'.ownsRow B e size v n xs:=by
 refine ⟨h.1,?_⟩
 rcases h.2 with hn | ⟨g,cap,cur,rfl,h1,h2,rest⟩
 ·exact .inl hn
 ·have hlt:=(Array.getElem?_eq_some_iff.1 h2).1
  exact .inr ⟨g,cap,cur,rfl,h1,by rw [hm.block g hlt (hG g h1 hlt rfl)];exact h2,rest⟩
theorem own_base{w:World}{B B':Nat}{e:TypeId}{size:Nat}{v:Value}{n:Nat}{xs:List Value}(h:w.ownsRow B e size v n xs)(hB:B'<=B):w.ownsRow B' e size v n xs:=by
 refine ⟨h.1,?_⟩
 rcases h.2 with hn | ⟨g,cap,cur,h0,h1,rest⟩
 ·exact .inl hn
 ·exact .inr ⟨g,cap,cur,h0,Nat.le_trans hB h1,rest⟩
theorem own_slice{w:World}{B:Nat}{e:TypeId}{size:Nat}{v:Value}{n:Nat}{xs:List Value}(h:w.ownsRow B e size v n xs):∃ a cap,v=.slice a n cap:=by
 rcases h.2 with ⟨rfl,rfl⟩ | ⟨g,cap,cur,rfl,_⟩
 ·exact ⟨_,_,rfl⟩
 ·exact ⟨_,_,rfl⟩
end Go.Proofs.YtiblcbdkiecbgaaGreatDoor
namespace Go.Proofs.YtiblcbdkiecbgaaGreatDoor
structure PairD where
 key:ByteArray
 val:ByteArray
 gone:Bool
structure CmdD where
 kind:Int
 tx:Int
 time:Int
 writes:List PairD
structure MsgD where
 kind:Int
 frm:Int
 to:Int
 epoch:Int
 n:Int
 cmd:CmdD
def zeroCmd:CmdD:=⟨0,0,0,[]⟩
def zeroMsg:MsgD:=⟨0,0,0,0,0,zeroCmd⟩
end Go.Proofs.YtiblcbdkiecbgaaGreatDoor
