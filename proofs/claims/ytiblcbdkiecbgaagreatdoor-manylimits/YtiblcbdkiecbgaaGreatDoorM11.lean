import Derived.Test.YtiblcbdkiecbgaaGreatDoorM10
import Derived.Test.YtiblcbdkiecbgaaGreatDoorM09
import Derived.LaidEql
import Derived.Stop.Asserts
import Derived.RowKitTokens
set_option linter.unusedVariables false
set_option maxRecDepth 100000
set_option maxHeartbeats 16000000
namespace Go.Proofs.YtiblcbdkiecbgaaGreatDoor
open Go.RowKit Go.Lib Go.Maps
theorem HouseP.low{w:World}{n c g:Nat}{y:HLay}{s:HouseS}(h:HouseP w n c g y s):n<=g:=(h.own.lt g (by rw [h.own.main];simp)).1
theorem HouseP.netP{w:World}{n c g:Nat}{y:HLay}{s:HouseS}(h:HouseP w n c g y s):NetP y.ext w (y.lo n) g y.wv y.mr s.net:=
 ⟨h.blk,h.low,h.net.row,h.net.dn,h.net.few,h.net.lo,lo_lt h.own⟩
open Classical in
noncomputable def HLay.setW(y:HLay)(w:World)(wv:Value)(mr:Option Nat):HLay:=
 { y with wv:=wv,mr:=mr,own:=fun x=>if w.heap.size<=x/\(wv.ownBlock=some x\/mr=some x) then .net else y.own x }
theorem setW_old(y:HLay)(w:World)(wv:Value)(mr:Option Nat){x:Nat}(h:x<w.heap.size):(y.setW w wv mr).own x=y.own x:=by
 simp only [HLay.setW];rw [if_neg (fun e=>by omega)]
theorem HouseP.turnW{w w':World}{n c g:Nat}{y:HLay}{s:HouseS}(h:HouseP w n c g y s){wv:Value}{mr:Option Nat}{net:NetS}
  (hm:Mod (netMay g y.wv y.mr) w w') (hN:NetP y.ext w' (y.lo n) g wv mr net) (h1:Moved w y.wv wv) (h2:mr=y.mr\/∀ k,mr=some k->w.heap.size<=k) :
  HouseP w' n c g (y.setW w wv mr) { s with net:=net }/\Steps w y w' (y.setW w wv mr):=by
 have own:=h.own
 have hz:=hm.size
 have htag:∀ z,netMay g y.wv y.mr z->y.own z=.main\/y.own z=.net:=fun z e=>by
  rcases e with e | e | e
  ·rw [e];exact .inl own.main
  ·exact .inr (own.net z (.inl e))
  ·exact .inr (own.net z (.inr e))
 have ht:Touch w w' n y (fun t=>t=.main\/t=.net):=⟨⟨_,hm,NetP.qm h.netP,fun z hz e=>⟨htag z e,by rcases htag z e with q | q <;> rw [q] <;> simp⟩⟩⟩
 have hkeep:∀ z,y.own z≠.no->(y.setW w wv mr).own z=y.own z:=fun z hz=>setW_old _ _ _ _ (own.lt z hz).2
 have hnet:∀ z,wv.ownBlock=some z\/mr=some z->(y.setW w wv mr).own z=.net:=fun z e=>by
  by_cases hlt:z<w.heap.size
  ·rw [setW_old _ _ _ _ hlt]
   refine own.net z ?_
   rcases e with e | e
   ·rcases h1 with q | q
    ·exact .inl (by rw [<-q];exact e)
    ·have:=q z e;omega
   ·rcases h2 with q | q
    ·exact .inr (by rw [<-q];exact e)
    ·have:=q z e;omega
  ·simp only [HLay.setW];rw [if_pos ⟨by omega,e⟩]
 refine ⟨⟨hN.blk,⟨hN.row,hN.dn,hN.few,hN.lo⟩,h.fDead ht (by simp),h.fTab ht (by simp),h.qn,h.fLrow ht (by simp),h.llen,fun k b l hb hl=>?_,h.fTrow ht (by simp),h.tlen,fun i b t hb hti=>(have q:=h.fTx ht hb hti (by simp);⟨q.blk,q.ats,q.wr⟩),?_⟩,?_⟩
 ·have q:=h.fLine ht hb hl (by simp) (fun d _=>by simp)
  exact ⟨q.blk,q.row,q.len,q.node⟩
 ·refine ⟨by rw [hkeep _ (by rw [own.main];simp)];exact own.main,fun z hz=>?_,fun z hz=>?_,fun z hz=>hnet z hz,?_,fun z hz=>?_,fun b' hb'=>⟨?_,fun z hz=>?_⟩,fun b' hb' d' hd' z hz=>?_,fun b' hb'=>⟨?_,fun z hz=>?_⟩,fun z hz=>?_,own.lnd,own.tnd,own.nnd⟩
  ·rw [hkeep z (by rw [own.lrow z hz];simp)];exact own.lrow z hz
  ·rw [hkeep z (by rw [own.trow z hz];simp)];exact own.trow z hz
  ·rw [show (y.setW w wv mr).dr=y.dr from rfl,hkeep _ (by rw [own.dead];simp)];exact own.dead
  ·rw [hkeep z (by rw [own.tab z hz];simp)];exact own.tab z hz
  ·rw [hkeep b' (by rw [(own.line b' hb').1];simp)];exact (own.line b' hb').1
  ·rw [hkeep z (by rw [(own.line b' hb').2 z hz];simp)];exact (own.line b' hb').2 z hz
  ·have:=own.node b' hb' d' hd' z hz
   rw [hkeep z (by rw [this];simp)];exact this
  ·rw [hkeep b' (by rw [(own.tx b' hb').1];simp)];exact (own.tx b' hb').1
  ·rw [hkeep z (by rw [(own.tx b' hb').2 z hz];simp)];exact (own.tx b' hb').2 z hz
  ·by_cases e:w.heap.size<=z/\(wv.ownBlock=some z\/mr=some z)
   ·obtain ⟨q1,q2,_⟩:=hN.lt (.inr e.2)
    exact ⟨q1,q2⟩
   ·have hz':y.own z≠.no:=by
     simp only [HLay.setW] at hz
     rw [if_neg e] at hz;exact hz
    have:=own.lt z hz'
    exact ⟨this.1,Nat.lt_of_lt_of_le this.2 hm.size⟩
 ·exact ⟨hm.mono (fun z hz e=>by rcases htag z e with q | q <;> rw [q] <;> simp),fun z hz=>setW_old _ _ _ _ hz⟩
structure Keeps(w:World)(y:HLay)(w':World)(y':HLay):Prop where
 st:Steps w y w' y'
 l:y'.lbs=y.lbs
 n:y'.nbs=y.nbs
 t:y'.tbs=y.tbs
 lv:y'.lv=y.lv
 tv:y'.tv=y.tv
theorem own_ne_blk{w:World}{B:Nat}{e t:TypeId}{sz m:Nat}{v:Value}{xs:List Value}(h:w.ownsRow B e sz v m xs){b:Nat}{cs:List Value}(hb:Blk w b cs t)(hne:e≠t):v.ownBlock≠some b:=fun q=>by
 obtain ⟨_,_,cur,hc⟩:=own_cells h q
 unfold Blk at hb
 rw [hb] at hc
 simp at hc
 exact hne hc.2.symm
end Go.Proofs.YtiblcbdkiecbgaaGreatDoor
namespace Go.Proofs.YtiblcbdkiecbgaaGreatDoor
open Go.RowKit Go.Extern.Stop Go.Stop Go.Extern
theorem Tryz.valueOfP(t:Addr)(w:World):(ReflectliteValue.unpack (.iface 64 (.pointer (some t)))).run Tryz.prog w
  = .ok (.agg #[.pointer (some ⟨7,64,none⟩),.pointer (some ⟨w.heap.size,0,none⟩),.int .u64 150]) (w.alloc (.cells #[.pointer (some t)] 64)):=by kernel_rfl
theorem Tryz.typeP (a : Addr) (w : World) : (ReflectliteValue.methodAny (ReflectliteValue.valueError "reflectlite.Value.Type" 0) (fun t _ _ _ => ReflectliteType.toType t) #[.agg #[.pointer (some ⟨7, 64, none⟩), .pointer (some a), .int .u64 150]]).run Tryz.prog w
  = .ok (.iface 135 (.agg #[.pointer (some ⟨7,64,none⟩)])) w:=by kernel_rfl
theorem Tryz.methodKind (h : Value) (w : World) : (Go.method 474 135 (.agg #[h]) "Kind").run Tryz.prog w = .ok (314, h) w := by kernel_rfl
theorem Tryz.kindP(w:World):((ReflectliteType.abiMethod fun t=>(fun a:Nat=>Value.int IntKind.u8 (a:Int)) <$> Rtype.kind t) #[.pointer (some ⟨7,64,none⟩)]).run Tryz.prog w=.ok (.int .u8 22) w:=by kernel_rfl
theorem Tryz.kindE(w:World):((ReflectliteType.abiMethod fun t=>(fun a:Nat=>Value.int IntKind.u8 (a:Int)) <$> Rtype.kind t) #[.pointer (some ⟨7,30,none⟩)]).run Tryz.prog w=.ok (.int .u8 2) w:=by kernel_rfl
theorem rlm(z:Sem Value)(f:TypeId->Addr->Nat->Nat->Sem Value)(v:Value) :
  ReflectliteValue.method z f #[v]=(do match <-ReflectliteValue.parts v with | none=>z | some (t,a,fl)=>f t a fl (fl % 32)):=rfl
theorem Tryz.partsP(a:Addr)(w:World):(ReflectliteValue.parts (.agg #[.pointer (some ⟨7,64,none⟩),.pointer (some a),.int .u64 150])).run Tryz.prog w=.ok (some (64,a,150)) w:=by kernel_rfl
theorem Tryz.isNilP(a p:Addr)(W:World)(ha:W.cell? a=some (.pointer (some p))) :
  (ReflectliteValue.method (ReflectliteValue.valueError "reflectlite.Value.IsNil" 0) ReflectliteValue.isNil #[.agg #[.pointer (some ⟨7, 64, none⟩), .pointer (some a), .int .u64 150]]).run Tryz.prog W = .ok (.bool false) W := by
 rw [rlm]
 simp only [Sem.run_bind,Tryz.partsP,Result.andThen]
 simp [ReflectliteValue.isNil,loadVar,isAgg,underlying,Tryz.underlying64,ha,Result.andThen]
theorem Tryz.methodElem (h : Value) (w : World) : (Go.method 474 135 (.agg #[h]) "Elem").run Tryz.prog w = .ok (325, .agg #[h]) w := by kernel_rfl
theorem Tryz.methodImplements (h : Value) (w : World) : (Go.method 474 135 (.agg #[h]) "Implements").run Tryz.prog w = .ok (326, .agg #[h]) w := by kernel_rfl
theorem Tryz.methodAssignableTo (h : Value) (w : World) : (Go.method 474 135 (.agg #[h]) "AssignableTo").run Tryz.prog w = .ok (323, .agg #[h]) w := by kernel_rfl
theorem Tryz.elemP(w:World):(ReflectliteType.method ReflectliteType.elem #[.agg #[.pointer (some ⟨7,64,none⟩)]]).run Tryz.prog w=.ok (.iface 135 (.agg #[.pointer (some ⟨7,30,none⟩)])) w:=by kernel_rfl
theorem Tryz.implementsE (w : World) : (ReflectliteType.relation "Implements" ReflectliteType.implements_ #[.agg #[.pointer (some ⟨7, 30, none⟩)], .iface 135 (.agg #[.pointer (some ⟨7, 24, none⟩)])]).run Tryz.prog w = .ok (.bool true) w := by kernel_rfl
theorem Tryz.typeOfE(v:Value)(w:World):(ReflectliteType.typeOf #[.iface 30 v]).run Tryz.prog w=.ok (.iface 135 (.agg #[.pointer (some ⟨7,30,none⟩)])) w:=by kernel_rfl
theorem Tryz.assignableE (w : World) : (ReflectliteType.relation "AssignableTo" ReflectliteType.assignableTo #[.agg #[.pointer (some ⟨7, 30, none⟩)], .iface 135 (.agg #[.pointer (some ⟨7, 30, none⟩)])]).run Tryz.prog w = .ok (.bool true) w := by kernel_rfl
theorem Tryz.valueOfE(e:Int)(w:World):(ReflectliteValue.unpack (.iface 30 (.int .i64 e))).run Tryz.prog w
  = .ok (.agg #[.pointer (some ⟨7,30,none⟩),.pointer (some ⟨w.heap.size,0,none⟩),.int .u64 130]) (w.alloc (.cells #[.int .i64 e] 30)):=by kernel_rfl
theorem Tryz.elemOfP(w:World):(Rtype.elem? 64).run Tryz.prog w=.ok (some 30) w:=by kernel_rfl
theorem Tryz.mkE(p:Addr)(w:World):(ReflectliteValue.mk 30 p ReflectliteValue.flagAddr).run Tryz.prog w=.ok (.agg #[.pointer (some ⟨7,30,none⟩),.pointer (some p),.int .u64 386]) w:=by kernel_rfl
theorem Tryz.elemVP(a p:Addr)(W:World)(ha:W.cell? a=some (.pointer (some p))) :
  (ReflectliteValue.method (ReflectliteValue.valueError "reflectlite.Value.Elem" 0) ReflectliteValue.elem #[.agg #[.pointer (some ⟨7, 64, none⟩), .pointer (some a), .int .u64 150]]).run Tryz.prog W
   = .ok (.agg #[.pointer (some ⟨7,30,none⟩),.pointer (some p),.int .u64 386]) W:=by
 rw [rlm]
 simp only [Sem.run_bind,Tryz.partsP,Result.andThen]
 simp [ReflectliteValue.elem,loadVar,isAgg,underlying,Tryz.underlying64,ha,Result.andThen,Tryz.elemOfP,Tryz.mkE]
theorem rls(v x:Value):ReflectliteValue.set #[v,x]=(do
  let (some (dst,a,fl),some (src,b,_)):=(<-ReflectliteValue.parts v,<-ReflectliteValue.parts x)
   | unsupported (.noEntry "extern/(internal/reflectlite.Value).Set.zeroValue")
  if fl / ReflectliteValue.flagAddr % 2 == 0 then unsupported (.noEntry "extern/(internal/reflectlite.Value).Set.unaddressable")
  let val <-loadVar src b
  if <-Rtype.directlyAssignable dst src then storeVar dst a val
  else if <-Rtype.implements dst src then
   if (<-Rtype.kind src) == 20 then
    match val with
    | .nilIface => unsupported (.noEntry "extern/reflectlite: a nil value of one interface type handed on as a value of another")
    | _=>storeVar dst a val
   else storeVar dst a (.iface src val)
  else panicString ("reflectlite.Set: value of type " ++ (← Rtype.spelt src) ++ " is not assignable to type " ++ (← Rtype.spelt dst))
  pure (.tuple #[])):=rfl
theorem Tryz.partsEa(a:Addr)(w:World):(ReflectliteValue.parts (.agg #[.pointer (some ⟨7,30,none⟩),.pointer (some a),.int .u64 386])).run Tryz.prog w=.ok (some (30,a,386)) w:=by kernel_rfl
theorem Tryz.partsE(a:Addr)(w:World):(ReflectliteValue.parts (.agg #[.pointer (some ⟨7,30,none⟩),.pointer (some a),.int .u64 130])).run Tryz.prog w=.ok (some (30,a,130)) w:=by kernel_rfl
theorem Tryz.directE(w:World):(Rtype.directlyAssignable 30 30).run Tryz.prog w=.ok true w:=by kernel_rfl
theorem Tryz.setE(ta b:Addr)(e:Int)(old:Value)(W:World)(hb:W.cell? b=some (.int .i64 e))(ht:W.cell? ta=some old)(hf:W.frozen? ta=false) :
  (ReflectliteValue.set #[.agg #[.pointer (some ⟨7,30,none⟩),.pointer (some ta),.int .u64 386],.agg #[.pointer (some ⟨7,30,none⟩),.pointer (some b),.int .u64 130]]).run Tryz.prog W
   = .ok (.tuple #[]) (W.setCell ta (.int .i64 e)):=by
 rw [rls]
 simp only [Sem.run_bind,Tryz.partsEa,Tryz.partsE,Result.andThen]
 simp [ReflectliteValue.flagAddr,loadVar,isAgg,underlying,Tryz.underlying30,hb,Result.andThen,Tryz.directE,storeVar,Value.cells,storeCells,Addr.add]
 rw [run_store Tryz.prog W ta _ _ (by rfl)]
 simp [ht,hf]
end Go.Proofs.YtiblcbdkiecbgaaGreatDoor
