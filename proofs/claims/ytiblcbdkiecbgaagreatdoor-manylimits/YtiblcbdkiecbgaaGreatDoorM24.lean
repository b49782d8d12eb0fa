import Derived.Test.YtiblcbdkiecbgaaGreatDoorM16
import Derived.Test.YtiblcbdkiecbgaaGreatDoorM23
import Derived.Test.YtiblcbdkiecbgaaGreatDoorM13
import Derived.Maps.OwnSet
set_option linter.unusedVariables false
set_option maxRecDepth 100000
set_option maxHeartbeats 16000000
namespace Go.Proofs.YtiblcbdkiecbgaaGreatDoor
open Go.RowKit Go.Lib Go.Maps
def ordR:List (List UInt8 × Nat × Int):=[([116,119,105,99,101],58,1),([116,105,99,107],57,0),([115,116,97,116,101],56,1),([115,104,97,114,100],55,1),([112,117,116],54,3),([110,101,119],53,2),([108,111,115,101],52,1),([104,101,108,112],51,0),([103,101,116],50,2),([102,105,120],49,0),([102,97,105,108],48,1),([101,110,100],47,1),([100,114,111,112],46,1),([100,101,108,105,118,101,114],45,1),([100,101,108],44,2),([99,97,108,109],43,0),([98,101,103,105,110],42,0),([97,108,105,118,101],41,0)]
def ordV(ss:Nat):Option (Nat × Int)->Value
 | none=>.agg #[.int .i64 0,.nilFunc]
 | some (f,n)=>.agg #[.int .i64 n,.func (.func f) #[.pointer (some ⟨ss,0,none⟩)] #[]]
theorem ordV_inj{ss:Nat}{a b:Option (Nat × Int)}(h:ordV ss a=ordV ss b):a=b:=by
 cases a with
 | none=>cases b with
  | none=>rfl
  | some b=>simp [ordV] at h
 | some a=>cases b with
  | none=>simp [ordV] at h
  | some b=>
   obtain ⟨f,n⟩:=a
   obtain ⟨f',n'⟩:=b
   simp [ordV] at h
   simp [h]
def encOr:Option (Nat × Int)->DataW Unit
 | none=>.nil
 | some (f,n)=>.agg [.lit (.int .i64 f),.lit (.int .i64 n)]
theorem encOr_inj{a b:Option (Nat × Int)}(h:encOr a=encOr b):a=b:=by
 cases a with
 | none=>cases b with
  | none=>rfl
  | some b=>simp [encOr] at h
 | some a=>cases b with
  | none=>simp [encOr] at h
  | some b=>
   obtain ⟨f,n⟩:=a
   obtain ⟨f',n'⟩:=b
   simp [encOr] at h
   have h1:f=f':=by omega
   rw [h1,h.2]
open Classical in
noncomputable def ordElem(ss:Nat)(v:Value):Option (DataW Unit × List MemPlace):=if h:∃ o,v=ordV ss o then some (encOr h.choose,[]) else none
theorem ordElem_mk(ss:Nat)(o:Option (Nat × Int)):ordElem ss (ordV ss o)=some (encOr o,[]):=by
 unfold ordElem
 have h:∃ o',ordV ss o=ordV ss o':=⟨o,rfl⟩
 rw [dif_pos h,<-ordV_inj h.choose_spec]
theorem ordElem_inv{ss:Nat}{v:Value}{d:DataW Unit}{ps:List MemPlace}(h:ordElem ss v=some (d,ps)):∃ o,v=ordV ss o/\d=encOr o:=by
 unfold ordElem at h
 split at h
 ·rename_i q
  simp at h
  exact ⟨_,q.choose_spec,h.1.symm⟩
 ·cases h
def ordF:List (List UInt8 × Nat × Int)->DataW Unit
 | []=>.map []
 | x :: t=>(ordF t).put (.string x.1) (encOr (some x.2))
def ordOf(k:ByteArray):Option (Nat × Int):=(ordR.find? fun x=>x.1 == k.data.toList).map (·.2)
theorem ordF_map:∀ l,IsMap (ordF l)
 | []=>⟨[],rfl⟩
 | x :: t=>by
  obtain ⟨es,h⟩:=ordF_map t
  unfold ordF
  rw [h]
  exact ⟨_,rfl⟩
theorem ordF_at(k:List UInt8):∀ l,(ordF l).atKey (.string k) (encOr none)=encOr ((l.find? fun x=>x.1 == k).map (·.2))
 | []=>rfl
 | x :: t=>by
  unfold ordF
  by_cases h:x.1=k
  ·rw [<-h,atKey_put_same (ordF_map t) (by simp [WideAt.IsKeyLit])]
   simp
  ·rw [atKey_put_other (fun q=>h (by simpa using q.symm)),ordF_at k t,List.find?_cons,beq_eq_false_iff_ne.2 h]
theorem ordF_has(k:List UInt8):∀ l,Maps.has (ordF l) (.string k)=((l.find? fun x=>x.1 == k).map (·.2)).isSome
 | []=>rfl
 | x :: t=>by
  unfold ordF
  by_cases h:x.1=k
  ·rw [<-h,has_put_same (ordF_map t) (by simp [WideAt.IsKeyLit])]
   simp
  ·rw [has_put_other (fun q=>h (by simpa using q.symm)),ordF_has k t,List.find?_cons,beq_eq_false_iff_ne.2 h]
def OrdP(w:World)(ss mb:Nat):Prop:=w.ownsMap Tryz.prog 9 (ordElem ss) mb 18 (ordF ordR)
theorem OrdP.mod{G:Nat->Prop}{w w':World}{ss mb:Nat}(h:OrdP w ss mb)(hm:Mod G w w')(hG:¬ G mb):OrdP w' ss mb:=by
 have hlt:=World.ownsMap.lt h
 obtain ⟨es,clock,hb,r⟩:=h
 exact ⟨es,clock,(hm.block mb hlt hG).trans hb,r⟩
theorem kStrD:Keyed Tryz.prog 9:=string_keyed Tryz.underlying9
theorem zeroOrd(ss:Nat)(w:World):(zeroValue 89).run Tryz.prog w=.ok (ordV ss none) w:=by kernel_rfl
theorem OrdP.look{w:World}{ss mb:Nat}(h:OrdP w ss mb)(k:ByteArray)(hk:k.size<=1000000) :
  (Instr.lookup 84 (.map (some mb)) (.string k) true).run Tryz.prog w=.ok (.tuple #[ordV ss (ordOf k),.bool (ordOf k).isSome]) w:=by
 obtain ⟨v,ps,hrun,hv⟩:=World.ownsMap.look_ok h kStrD Tryz.underlying84 (zeroOrd ss w) (ordElem_mk ss none) (Go.WideMaps.keyOf_string_mk Tryz.underlying9 (show k.size<=maxLen by unfold maxLen;omega))
 obtain ⟨o,rfl,ho⟩:=ordElem_inv hv
 rw [ordF_at] at ho
 have e:=encOr_inj ho
 rw [ordF_has] at hrun
 rw [<-e] at hrun
 exact hrun
structure SesP(w:World)(ss mb n c g:Nat)(y:HLay)(s:HouseS):Prop where
 blk:Blk w ss [.pointer (some ⟨g,0,none⟩),.map (some mb)] 86
 map:OrdP w ss mb
 house:HouseP w n c g y s
 nos:y.own ss=.no
 nom:y.own mb=.no
 n7:n=7
 lo:7<=ss/\7<=mb
 vd:VD w
def ses(ss:Nat)(y:HLay)(k:Nat):Prop:=k=ss\/y.own k≠.no
section
variable {w w':World} {ss mb m n c g:Nat} {y y':HLay} {s s':HouseS}
theorem SesP.quiet(h:SesP w ss mb n c g y s)(hm:Mod noBlock w w'):SesP w' ss mb n c g y s:=
 ⟨h.blk.mod hm id,h.map.mod hm id,h.house.quiet hm,h.nos,h.nom,h.n7,h.lo,h.vd.quiet hm⟩
theorem SesP.call{c':Nat}(h:SesP w ss mb n c g y s)(hH:HouseP w' n c' g y' s')(hs:Steps w y w' y'):SesP w' ss mb n c' g y' s':=by
 refine ⟨hs.blk h.blk h.nos,h.map.mod hs.md (fun e=>e h.nom),hH,(hs.old _ h.blk.lt).trans h.nos,(hs.old _ (World.ownsMap.lt h.map)).trans h.nom,h.n7,h.lo,h.vd.mod hs.md (fun k hk e=>?_)⟩
 have:=(h.house.own.lt k e).1
 have:=h.n7
 omega
theorem HouseP.beside{w w':World}{n c g:Nat}{y:HLay}{s:HouseS}{G:Nat->Prop}(h:HouseP w n c g y s)(hm:Mod G w w')(hq:Qm w (y.lo n) G)(hG:∀ k,k<w.heap.size->G k->y.own k=.no):HouseP w' n c g y s:=by
 have hN:∀ k,y.own k≠.no->¬ G k:=fun k hk e=>hk (hG k (h.own.lt k hk).2 e)
 refine ⟨h.blk.mod hm (hN _ (by rw [h.own.main];simp)),h.net.mod hm hq (fun k hk=>hN _ (by rw [h.own.net k hk];simp)),h.dead.mod hm (fun k hk=>hN _ (by cases hk;rw [h.own.dead];simp)),h.tab.mod hm (fun k hk=>hN _ (by rw [h.own.tab k hk];simp)),h.qn,
  own_mod h.lrow hm (fun k _ _ e=>hN _ (by rw [h.own.lrow k e];simp)),h.llen,fun k b l hb hl=>?_,own_mod h.trow hm (fun k _ _ e=>hN _ (by rw [h.own.trow k e];simp)),h.tlen,fun i b t hb ht=>?_,
  { h.own with lt:=fun k hk=>⟨(h.own.lt k hk).1,Nat.lt_of_lt_of_le (h.own.lt k hk).2 hm.size⟩ }⟩
 ·have hbm:=List.mem_of_getElem? hb
  obtain ⟨o1,o2⟩:=h.own.line b hbm
  exact (h.line k b l hb hl).mod hm hq (hN _ (by rw [o1];simp)) (fun x hx=>hN _ (by rw [o2 x hx];simp)) (fun d hd x hx=>hN _ (by rw [h.own.node b hbm d hd x hx];simp))
 ·obtain ⟨o1,o2⟩:=h.own.tx b (List.mem_of_getElem? hb)
  exact (h.tx i b t hb ht).mod hm (hN _ (by rw [o1];simp)) (fun x hx=>hN _ (by rw [o2 x hx];simp))
theorem notSt{w:World}{L:Lo}{k:Nat}{cur:Array Value}{t:TypeId}{fr:Nat × Nat}(hk:w.heap[k]?=some (.cells cur t fr))(ht:t≠121)(hn:L.n<=k):¬ St w L k:=by
 rintro (h | ⟨⟨cur',fr',h⟩,_⟩)
 ·omega
 ·rw [hk] at h;simp at h;exact ht h.2.1
theorem SesP.nobody(h:SesP w ss mb n c g y s){k:Nat}(hk:w.heap.size<=k):y.own k=.no:=by
 cases e:y.own k with
 | no=>rfl
 | _=>exact absurd (h.house.own.lt k (by rw [e];simp)).2 (by omega)
theorem SesP.side(h:SesP w ss mb n c g y s){b j:Nat}{cs:List Value}{t:TypeId}(hb:Blk w b cs t)(ht:t≠121)(hno:y.own b=.no)(hs:b≠ss)(hmb:b≠mb)(h7:7<=b)(v:Value):SesP (w.setCell ⟨b,j,none⟩ v) ss mb n c g y s:=by
 have hm:Mod (oneBlock b) w (w.setCell ⟨b,j,none⟩ v):=Mod.setBlk b j _
 refine ⟨h.blk.mod hm (fun e=>hs e.symm),h.map.mod hm (fun e=>hmb e.symm),h.house.beside hm (fun k hk e=>?_) (fun k hk e=>?_),h.nos,h.nom,h.n7,h.lo,h.vd.mod hm (fun k hk e=>?_)⟩
 ·rw [e];exact notSt hb ht (by show n<=b;rw [h.n7];exact h7)
 ·rw [e];exact hno
 ·have e':k=b:=e
  omega
end
structure BareP(w:World)(ss mb:Nat):Prop where
 blk:∃ hv,Blk w ss [hv,.map (some mb)] 86
 map:OrdP w ss mb
 ne:ss≠mb
 lo:7<=ss/\7<=mb
 vd:VD w
theorem BareP.quiet{w w':World}{ss mb:Nat}(h:BareP w ss mb)(hm:Mod noBlock w w'):BareP w' ss mb:=by
 obtain ⟨hv,hb⟩:=h.blk
 exact ⟨⟨hv,hb.mod hm id⟩,h.map.mod hm id,h.ne,h.lo,h.vd.quiet hm⟩
theorem BareP.store{w1 w:World}{ss mb g a b c:Nat}{y:HLay}(h:BareP w ss mb)(hH:HouseP w 7 c g y (newH a b))(hno:∀ k,k<w1.heap.size->y.own k=.no)(hl:ss<w1.heap.size/\mb<w1.heap.size) :
  SesP (w.setCell ⟨ss,0,none⟩ (.pointer (some ⟨g,0,none⟩))) ss mb 7 c g y (newH a b):=by
 obtain ⟨hv,hb⟩:=h.blk
 have hm:Mod (oneBlock ss) w (w.setCell ⟨ss,0,none⟩ (.pointer (some ⟨g,0,none⟩))):=Mod.setBlk ss 0 _
 have hlo:=h.lo
 refine ⟨hb.set 0 _,h.map.mod hm (fun e=>h.ne e.symm),hH.beside hm (fun k hk e=>?_) (fun k hk e=>?_),hno _ hl.1,hno _ hl.2,rfl,h.lo,h.vd.mod hm (fun k hk e=>?_)⟩
 ·rw [e];exact notSt hb (by decide) hlo.1
 ·rw [e];exact hno _ hl.1
 ·have e':k=ss:=e
  omega
section
variable {P:Program} {md:Region.Mode} {ops:Array Oper} {C:World->Prop} {Q:Exit->Act->World->Prop}
theorem wpAnyC_callP(last i d:Nat){oi:Oper}{fuel:Nat}{listed:Array Bool}{a:Act}{w:World}(hi:ops[i]?=some oi)(hd:oi.dst=some d)(hr:Region.ready md ops listed=[i])
  (hw:Region.wanted oi (yielded ops a.tmps)=true) {f:Nat} {args:Array Value} (hrun:(execOp a.eval oi).run P w=.ok (.enter f args) w)
  (h:Calls P f args w fun e w'=>(∃ v,e=.returned v/\C w'/\wpAnyC P md ops last C Q fuel (listed.setIfInBounds i true) (a.put (some d) v) w')\/∃ l,e=.panicked l/\Q (.panic l) a w'):wpAnyC P md ops last C Q (fuel+1) listed a w:=by
 rw [<-hd] at h
 refine ⟨fun h0=>(by rw [hr] at h0;cases h0),fun j hj=>?_⟩
 rw [hr] at hj
 simp only [List.mem_singleton] at hj
 subst hj
 unfold wpOp
 simp only [hi,hw,if_true,Oper.wp,hrun,Oper.upon]
 refine .inl (Calls.mono h ?_)
 rintro e w' (⟨v,rfl,hC,h'⟩ | ⟨l,rfl,h'⟩)
 ·exact ⟨.inr hC,h'⟩
 ·exact h'
end
end Go.Proofs.YtiblcbdkiecbgaaGreatDoor
