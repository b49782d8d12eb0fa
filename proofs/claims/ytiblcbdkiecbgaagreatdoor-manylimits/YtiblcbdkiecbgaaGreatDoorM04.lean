import Derived.Test.YtiblcbdkiecbgaaGreatDoorM03
set_option linter.unusedVariables false
set_option maxRecDepth 100000
set_option maxHeartbeats 16000000
namespace Go.Proofs.YtiblcbdkiecbgaaGreatDoor
open Go.RowKit Go.Lib Go.Maps
def msgsCells:List MsgD->List Value->List Value
 | m :: ms,u :: us=>msgCells m u++msgsCells ms us
 | _,_=>[]
theorem msgsCells_snoc:∀ (ms:List MsgD) (us:List Value) (m:MsgD) (u:Value),us.length=ms.length->msgsCells (ms++[m]) (us++[u])=msgsCells ms us++msgCells m u
 | [],[],m,u,_=>by simp [msgsCells]
 | [],_ :: _,_,_,h=>by simp at h
 | _ :: _,[],_,_,h=>by simp at h
 | m' :: ms,u' :: us,m,u,h=>by simp [msgsCells,msgsCells_snoc ms us m u (by simpa using h)]
theorem msgsCells_len:∀ (ms:List MsgD) (us:List Value),us.length=ms.length->(msgsCells ms us).length=ms.length*9
 | [],_,_=>by simp [msgsCells]
 | _ :: _,[],h=>by simp at h
 | m :: ms,u :: us,h=>by simp only [msgsCells,List.length_append,msgsCells_len ms us (by simpa using h),msgCells,List.length_cons,List.length_nil];omega
theorem msgsCells_at:∀ (ms:List MsgD) (us:List Value) (i:Nat) (m:MsgD) (u:Value),us.length=ms.length->ms[i]?=some m->us[i]?=some u->∀ j x,(msgCells m u)[j]?=some x->(msgsCells ms us)[i*9+j]?=some x
 | [],_,_,_,_,_,h,_,_,_,_=>by simp at h
 | _ :: _,[],_,_,_,h,_,_,_,_,_=>by simp at h
 | m' :: ms,u' :: us,0,m,u,_,h,h',j,x,hx=>by
  simp at h h';subst h h'
  have hj:j<(msgCells m' u').length:=(List.getElem?_eq_some_iff.1 hx).1
  rw [Nat.zero_mul,Nat.zero_add,msgsCells,List.getElem?_append_left hj];exact hx
 | m' :: ms,u' :: us,i+1,m,u,hl,h,h',j,x,hx=>by
  have:=msgsCells_at ms us i m u (by simpa using hl) (by simpa using h) (by simpa using h') j x hx
  have e:(i+1)*9+j=(msgCells m' u').length+(i*9+j):=by simp [msgCells];omega
  rw [e,msgsCells,List.getElem?_append_right (by omega),Nat.add_sub_cancel_left];exact this
def goodM(m:MsgD):Prop:=intsM m/\m.cmd.writes.length<=40
def RowM(w:World)(L:Lo)(v:Value)(ms:List MsgD):Prop:=
 ∃ us:List Value,us.length=ms.length/\w.ownsRow L 178 9 v ms.length (msgsCells ms us)/\(∀ (i:Nat) m u,ms[i]?=some m->us[i]?=some u->PairsT w L u m.cmd.writes)/\∀ m∈ms,goodM m
theorem RowM.nil(w:World)(L:Lo):RowM w L (.slice none 0 0) []:=⟨[],rfl,World.ownsRow_nil _ _ _ _,fun i m u h=>by simp at h,by simp⟩
theorem RowM.mod{G:Nat->Prop}{w w':World}{L:Lo}{v:Value}{ms:List MsgD}(h:RowM w L v ms)(hm:Mod G w w')(hq:Qm w L G)(hG:∀ k,v.ownBlock=some k->¬ G k):RowM w' L v ms:=by
 obtain ⟨us,h1,h2,h3,h4⟩:=h
 exact ⟨us,h1,own_mod h2 hm (fun k _ _ e=>hG k e),fun i m u hi hu=>(h3 i m u hi hu).mod hm hq,h4⟩
theorem RowM.at{w:World}{L:Lo}{v:Value}{ms:List MsgD}(h:RowM w L v ms){i:Nat}{m:MsgD}(hi:ms[i]?=some m) :
  ∃ g cap u,v=.slice (some ⟨g,0,none⟩) ms.length cap/\ms.length<=cap/\cap<=maxLen/\PairsT w L u m.cmd.writes/\goodM m /\
   w.cell? ⟨g,i*9,none⟩=some (.int .i64 m.kind)/\w.cell? ⟨g,i*9+1,none⟩=some (.int .i64 m.frm)/\w.cell? ⟨g,i*9+2,none⟩=some (.int .i64 m.to)/\w.cell? ⟨g,i*9+3,none⟩=some (.int .i64 m.epoch)/\w.cell? ⟨g,i*9+4,none⟩=some (.int .i64 m.n) /\
   w.cell? ⟨g,i*9+5,none⟩=some (.int .i64 m.cmd.kind)/\w.cell? ⟨g,i*9+6,none⟩=some (.int .i64 m.cmd.tx)/\w.cell? ⟨g,i*9+7,none⟩=some (.int .i64 m.cmd.time)/\w.cell? ⟨g,i*9+8,none⟩=some u:=by
 obtain ⟨us,h1,h2,h3,h4⟩:=h
 have hlt:i<ms.length:=(List.getElem?_eq_some_iff.1 hi).1
 obtain ⟨u,hu⟩:∃ u,us[i]?=some u:=⟨_,List.getElem?_eq_getElem (by omega)⟩
 rcases h2.2 with ⟨_,h0⟩ | ⟨g,cap,cur,rfl,_,hg,hc1,hc2,_,_⟩
 ·omega
 ·have hc:=h2.cells (g:=g) rfl
  have add0:∀ j,(⟨g,0,none⟩:Addr).add j=⟨g,j,none⟩:=fun j=>by rw [Go.WideShapes.add_plain,Nat.zero_add]
  have key:∀ j x,(msgCells m u)[j]?=some x->w.cell? ⟨g,i*9+j,none⟩=some x:=fun j x hx=>by
   have:=hc _ _ (msgsCells_at ms us i m u h1 hi hu j x hx)
   rw [add0] at this;exact this
  exact ⟨g,cap,u,rfl,hc1,hc2,h3 i m u hi hu,h4 m (List.mem_of_getElem? hi),key 0 _ rfl,key 1 _ rfl,key 2 _ rfl,key 3 _ rfl,key 4 _ rfl,key 5 _ rfl,key 6 _ rfl,key 7 _ rfl,key 8 _ rfl⟩
structure Ext where
 (a0 a1 a5 a6:Value)
structure NetS where
 way:List MsgD
 lost:Int
 down:List Int
variable {E:Ext}
structure NetP(E:Ext)(w:World)(L:Lo)(g:Nat)(wv:Value)(mr:Option Nat)(s:NetS):Prop where
 blk:Blk w g [E.a0,E.a1,wv,.int .i64 s.lost,.map mr,E.a5,E.a6] 159
 low:L<=g
 row:RowM w L wv s.way
 dn:DownAt w L mr s.down
 few:s.way.length<=200
 lo:0<=s.lost/\s.lost<=4611686018427387904
 xb:∀ k,L.x k->k<w.heap.size
def netMay(g:Nat)(wv:Value)(mr:Option Nat)(k:Nat):Prop:=k=g\/wv.ownBlock=some k\/mr=some k
theorem NetP.lt{w:World}{L:Lo}{g:Nat}{wv:Value}{mr:Option Nat}{s:NetS}(h:NetP E w L g wv mr s){k:Nat}(hk:netMay g wv mr k):L<=k/\k<w.heap.size/\¬ St w L k:=by
 rcases hk with rfl | hk | hk
 ·refine ⟨h.low,h.blk.lt,?_⟩
  rintro (e | ⟨⟨cur,fr,e⟩,_⟩)
  ·have:=h.low;omega
  ·have:=h.blk;simp only [Blk] at this;rw [this] at e;simp at e
 ·obtain ⟨us,_,h2,_⟩:=h.row
  rcases h2.2 with ⟨e,_⟩ | ⟨g',cap,cur,e,h1,hg,_⟩
  ·rw [e] at hk;simp [Value.ownBlock] at hk
  ·rw [e] at hk;simp [Value.ownBlock] at hk
   subst hk
   refine ⟨h1,(Array.getElem?_eq_some_iff.1 hg).1,?_⟩
   rintro (e' | ⟨⟨cur',fr,e'⟩,_⟩)
   ·omega
   ·rw [hg] at e';simp at e'
 ·rcases h.dn with ⟨e,_⟩ | ⟨b,D,e,h1,h2,_⟩
  ·rw [e] at hk;cases hk
  ·rw [e] at hk;cases hk
   refine ⟨h1,h2.lt,?_⟩
   obtain ⟨es,clock,hb,_⟩:=h2
   rintro (e' | ⟨⟨cur',fr,e'⟩,_⟩)
   ·omega
   ·rw [hb] at e';simp at e'
theorem NetP.qm{w:World}{L:Lo}{g:Nat}{wv:Value}{mr:Option Nat}{s:NetS}(h:NetP E w L g wv mr s):Qm w L (netMay g wv mr):=fun _ _ hk=>(h.lt hk).2.2
theorem NetP.mod{G:Nat->Prop}{w w':World}{L:Lo}{g:Nat}{wv:Value}{mr:Option Nat}{s:NetS}(h:NetP E w L g wv mr s)(hm:Mod G w w')(hq:Qm w L G)(hG:∀ k,netMay g wv mr k->¬ G k):NetP E w' L g wv mr s:=
 ⟨h.blk.mod hm (hG g (.inl rfl)),h.low,h.row.mod hm hq (fun k hk=>hG k (.inr (.inl hk))),h.dn.mod hm (fun k hk=>hG k (.inr (.inr hk))),h.few,h.lo,fun k hk=>Nat.lt_of_lt_of_le (h.xb k hk) hm.size⟩
theorem RowM.slice{w:World}{L:Lo}{v:Value}{ms:List MsgD}(h:RowM w L v ms):∃ a cap,v=.slice a ms.length cap:=by
 obtain ⟨us,_,h2,_⟩:=h;exact own_slice h2
theorem room_any(L:Lo)(g:Nat)(wv:Value)(mr:Option Nat)(s:NetS)(w:World)(h:NetP E w L g wv mr s) :
  Calls Tryz.prog 168 #[.pointer (some ⟨g,2,none⟩)] w fun e w'=>e=.returned (.bool (decide (s.way.length<200)))/\w'=w:=by
 obtain ⟨a,cap,rfl⟩:=h.row.slice
 have c0:=h.blk.cell 2 rfl
 have hd:decide ((s.way.length:Int)<200)=decide (s.way.length<200):=decide_eq_decide.2 (by omega)
 clear h
 go_enter Tryz.func168,Tryz.ntmps168
 go_wp2_with fail
 go_ret
 exact ⟨rfl,rfl⟩
theorem silent_any(g:Nat)(w:World) :
  Calls Tryz.prog 167 #[.pointer (some ⟨g,2,none⟩)] w fun e w'=>w'=w.alloc (.cells #[.pointer (some ⟨g,2,none⟩)] 217)/\e=.returned (.func (.func 219) #[] #[.pointer (some ⟨w.heap.size,0,none⟩)]):=by
 go_enter Tryz.func167,Tryz.ntmps167
 go_wp2_with fail
 go_ret
 exact ⟨rfl,rfl⟩
end Go.Proofs.YtiblcbdkiecbgaaGreatDoor
