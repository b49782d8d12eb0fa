import Derived.Test.YtogaigioeohjaaaGreatDoorD16
import Derived.LaidEql
import Derived.Stop.Asserts
import Derived.RowKitTokens
import Derived.Test.YtogaigioeohjaaaGreatDoorD21
import Derived.StillTailTactics
set_option linter.unusedVariables false
set_option maxRecDepth 100000
set_option maxHeartbeats 16000000
namespace Go.Proofs.YtogaigioeohjaaaGreatDoor
open Go.RowKit Go.Extern.Stop Go.Stop Go.Extern
theorem Tryz.valueOfP(t:Addr)(w:World):(ReflectliteValue.unpack (.iface 145 (.pointer (some t)))).run Tryz.prog w
  = .ok (.agg #[.pointer (some ⟨7,145,none⟩),.pointer (some ⟨w.heap.size,0,none⟩),.int .u64 150]) (w.alloc (.cells #[.pointer (some t)] 145)):=by kernel_rfl
theorem Tryz.typeP (a : Addr) (w : World) : (ReflectliteValue.methodAny (ReflectliteValue.valueError "reflectlite.Value.Type" 0) (fun t _ _ _ => ReflectliteType.toType t) #[.agg #[.pointer (some ⟨7, 145, none⟩), .pointer (some a), .int .u64 150]]).run Tryz.prog w
  = .ok (.iface 257 (.agg #[.pointer (some ⟨7,145,none⟩)])) w:=by kernel_rfl
theorem Tryz.methodKind (h : Value) (w : World) : (Go.method 441 257 (.agg #[h]) "Kind").run Tryz.prog w = .ok (283, h) w := by kernel_rfl
theorem Tryz.kindP(w:World):((ReflectliteType.abiMethod fun t=>(fun a:Nat=>Value.int IntKind.u8 (a:Int)) <$> Rtype.kind t) #[.pointer (some ⟨7,145,none⟩)]).run Tryz.prog w=.ok (.int .u8 22) w:=by kernel_rfl
theorem Tryz.kindE(w:World):((ReflectliteType.abiMethod fun t=>(fun a:Nat=>Value.int IntKind.u8 (a:Int)) <$> Rtype.kind t) #[.pointer (some ⟨7,25,none⟩)]).run Tryz.prog w=.ok (.int .u8 2) w:=by kernel_rfl
theorem rlm(z:Sem Value)(f:TypeId->Addr->Nat->Nat->Sem Value)(v:Value) :
  ReflectliteValue.method z f #[v]=(do match <-ReflectliteValue.parts v with | none=>z | some (t,a,fl)=>f t a fl (fl % 32)):=rfl
theorem Tryz.partsP(a:Addr)(w:World):(ReflectliteValue.parts (.agg #[.pointer (some ⟨7,145,none⟩),.pointer (some a),.int .u64 150])).run Tryz.prog w=.ok (some (145,a,150)) w:=by kernel_rfl
theorem Tryz.isNilP(a p:Addr)(W:World)(ha:W.cell? a=some (.pointer (some p))) :
  (ReflectliteValue.method (ReflectliteValue.valueError "reflectlite.Value.IsNil" 0) ReflectliteValue.isNil #[.agg #[.pointer (some ⟨7, 145, none⟩), .pointer (some a), .int .u64 150]]).run Tryz.prog W = .ok (.bool false) W := by
 rw [rlm]
 simp only [Sem.run_bind,Tryz.partsP,Result.andThen]
 simp [ReflectliteValue.isNil,loadVar,isAgg,underlying,Tryz.underlying145,ha,Result.andThen]
theorem Tryz.methodElem (h : Value) (w : World) : (Go.method 441 257 (.agg #[h]) "Elem").run Tryz.prog w = .ok (298, .agg #[h]) w := by kernel_rfl
theorem Tryz.methodImplements (h : Value) (w : World) : (Go.method 441 257 (.agg #[h]) "Implements").run Tryz.prog w = .ok (299, .agg #[h]) w := by kernel_rfl
theorem Tryz.methodAssignableTo (h : Value) (w : World) : (Go.method 441 257 (.agg #[h]) "AssignableTo").run Tryz.prog w = .ok (296, .agg #[h]) w := by kernel_rfl
theorem Tryz.elemP(w:World):(ReflectliteType.method ReflectliteType.elem #[.agg #[.pointer (some ⟨7,145,none⟩)]]).run Tryz.prog w=.ok (.iface 257 (.agg #[.pointer (some ⟨7,25,none⟩)])) w:=by kernel_rfl
theorem Tryz.implementsE (w : World) : (ReflectliteType.relation "Implements" ReflectliteType.implements_ #[.agg #[.pointer (some ⟨7, 25, none⟩)], .iface 257 (.agg #[.pointer (some ⟨7, 36, none⟩)])]).run Tryz.prog w = .ok (.bool true) w := by kernel_rfl
theorem Tryz.typeOfE(v:Value)(w:World):(ReflectliteType.typeOf #[.iface 25 v]).run Tryz.prog w=.ok (.iface 257 (.agg #[.pointer (some ⟨7,25,none⟩)])) w:=by kernel_rfl
theorem Tryz.assignableE (w : World) : (ReflectliteType.relation "AssignableTo" ReflectliteType.assignableTo #[.agg #[.pointer (some ⟨7, 25, none⟩)], .iface 257 (.agg #[.pointer (some ⟨7, 25, none⟩)])]).run Tryz.prog w = .ok (.bool true) w := by kernel_rfl
theorem Tryz.valueOfE(e:Int)(w:World):(ReflectliteValue.unpack (.iface 25 (.int .i64 e))).run Tryz.prog w
  = .ok (.agg #[.pointer (some ⟨7,25,none⟩),.pointer (some ⟨w.heap.size,0,none⟩),.int .u64 130]) (w.alloc (.cells #[.int .i64 e] 25)):=by kernel_rfl
theorem Tryz.elemOfP(w:World):(Rtype.elem? 145).run Tryz.prog w=.ok (some 25) w:=by kernel_rfl
theorem Tryz.mkE(p:Addr)(w:World):(ReflectliteValue.mk 25 p ReflectliteValue.flagAddr).run Tryz.prog w=.ok (.agg #[.pointer (some ⟨7,25,none⟩),.pointer (some p),.int .u64 386]) w:=by kernel_rfl
theorem Tryz.elemVP(a p:Addr)(W:World)(ha:W.cell? a=some (.pointer (some p))) :
  (ReflectliteValue.method (ReflectliteValue.valueError "reflectlite.Value.Elem" 0) ReflectliteValue.elem #[.agg #[.pointer (some ⟨7, 145, none⟩), .pointer (some a), .int .u64 150]]).run Tryz.prog W
   = .ok (.agg #[.pointer (some ⟨7,25,none⟩),.pointer (some p),.int .u64 386]) W:=by
 rw [rlm]
 simp only [Sem.run_bind,Tryz.partsP,Result.andThen]
 simp [ReflectliteValue.elem,loadVar,isAgg,underlying,Tryz.underlying145,ha,Result.andThen,Tryz.elemOfP,Tryz.mkE]
theorem rls(v x:Value):ReflectliteValue.set #[v,x]=(do
  let (some (dst,a,fl),some (src,b,_)):=(<-ReflectliteValue.parts v,<-ReflectliteValue.parts x)
   | unsupported (.noEntry "extern/(internal/reflectlite.Value).Set.zeroValue")
  if fl / ReflectliteValue.flagAddr % 2 == 0 then unsupported (.noEntry "extern/(internal/reflectlite.Value).Set.unaddressable")
  let val <-loadVar src b
  if <-Rtype.directlyAssignable dst src then storeVar dst a val
  else if <-Rtype.implements dst src then
   if (<-Rtype.kind src) == 20 then
    match val with
    | .nilIface => unsupported (.noEntry "extern/reflectlite: a nil value of one interface type handed on as a value of another")
    | _=>storeVar dst a val
   else storeVar dst a (.iface src val)
  else panicString ("reflectlite.Set: value of type " ++ (← Rtype.spelt src) ++ " is not assignable to type " ++ (← Rtype.spelt dst))
  pure (.tuple #[])):=rfl
theorem Tryz.partsEa(a:Addr)(w:World):(ReflectliteValue.parts (.agg #[.pointer (some ⟨7,25,none⟩),.pointer (some a),.int .u64 386])).run Tryz.prog w=.ok (some (25,a,386)) w:=by kernel_rfl
theorem Tryz.partsE(a:Addr)(w:World):(ReflectliteValue.parts (.agg #[.pointer (some ⟨7,25,none⟩),.pointer (some a),.int .u64 130])).run Tryz.prog w=.ok (some (25,a,130)) w:=by kernel_rfl
theorem Tryz.directE(w:World):(Rtype.directlyAssignable 25 25).run Tryz.prog w=.ok true w:=by kernel_rfl
theorem Tryz.setE(ta b:Addr)(e:Int)(old:Value)(W:World)(hb:W.cell? b=some (.int .i64 e))(ht:W.cell? ta=some old)(hf:W.frozen? ta=false) :
  (ReflectliteValue.set #[.agg #[.pointer (some ⟨7,25,none⟩),.pointer (some ta),.int .u64 386],.agg #[.pointer (some ⟨7,25,none⟩),.pointer (some b),.int .u64 130]]).run Tryz.prog W
   = .ok (.tuple #[]) (W.setCell ta (.int .i64 e)):=by
 rw [rls]
 simp only [Sem.run_bind,Tryz.partsEa,Tryz.partsE,Result.andThen]
 simp [ReflectliteValue.flagAddr,loadVar,isAgg,underlying,Tryz.underlying25,hb,Result.andThen,Tryz.directE,storeVar,Value.cells,storeCells,Addr.add]
 rw [run_store Tryz.prog W ta _ _ (by rfl)]
 simp [ht,hf]
theorem as_hit(e:Int)(t:Addr)(old:Value)(w:World)(hg:w.cell? ⟨2,0,none⟩=some (.iface 257 (.agg #[.pointer (some ⟨7,36,none⟩)])))(ht0:w.cell? t=some old)(hf0:w.frozen? t=false) :
  Calls Tryz.prog 111 #[.iface 25 (.int .i64 e),.iface 145 (.pointer (some t))] w fun ev w'=>ev=.returned (.bool true)/\w'=((((w.alloc (.cells #[.pointer (some t)] 145)).alloc (.cells #[.pointer (some ⟨7,145,none⟩),.pointer (some ⟨w.heap.size,0,none⟩),.int .u64 150] 197)).alloc (.cells #[.pointer (some ⟨7,145,none⟩),.pointer (some ⟨w.heap.size,0,none⟩),.int .u64 150] 197)).alloc (.cells #[.int .i64 e] 25)).setCell t (.int .i64 e):=by
 have h6:=@run_callFunc_extern Tryz.prog 167 _ (fun args=>ReflectliteValue.unpack (args.getD 0 (.tuple #[]))) Tryz.func167 (by kernel_rfl) (by kernel_rfl) (by kernel_rfl) (by kernel_rfl)
 have h7 := @run_callFunc_extern Tryz.prog 168 _ (ReflectliteValue.methodAny (ReflectliteValue.valueError "reflectlite.Value.Type" 0) (fun t _ _ _ => ReflectliteType.toType t)) Tryz.func168 (by kernel_rfl) (by kernel_rfl) (by kernel_rfl) (by kernel_rfl)
 have h8 := @run_callFunc_extern Tryz.prog 169 _ (ReflectliteValue.method (ReflectliteValue.valueError "reflectlite.Value.IsNil" 0) ReflectliteValue.isNil) Tryz.func169 (by kernel_rfl) (by kernel_rfl) (by kernel_rfl) (by kernel_rfl)
 have h27:=@run_callFunc_extern Tryz.prog 283 _ (ReflectliteType.abiMethod fun t=>do pure (.int .u8 (<-Rtype.kind t))) Tryz.func283 (by kernel_rfl) (by kernel_rfl) (by kernel_rfl) (by kernel_rfl)
 have h37:=@run_callFunc_extern Tryz.prog 298 _ (ReflectliteType.method ReflectliteType.elem) Tryz.func298 (by kernel_rfl) (by kernel_rfl) (by kernel_rfl) (by kernel_rfl)
 have h38 := @run_callFunc_extern Tryz.prog 299 _ (ReflectliteType.relation "Implements" ReflectliteType.implements_) Tryz.func299 (by kernel_rfl) (by kernel_rfl) (by kernel_rfl) (by kernel_rfl)
 have h10:=@run_callFunc_extern Tryz.prog 223 _ ReflectliteType.typeOf Tryz.func223 (by kernel_rfl) (by kernel_rfl) (by kernel_rfl) (by kernel_rfl)
 have h35 := @run_callFunc_extern Tryz.prog 296 _ (ReflectliteType.relation "AssignableTo" ReflectliteType.assignableTo) Tryz.func296 (by kernel_rfl) (by kernel_rfl) (by kernel_rfl) (by kernel_rfl)
 have h11 := @run_callFunc_extern Tryz.prog 224 _ (ReflectliteValue.method (ReflectliteValue.valueError "reflectlite.Value.Elem" 0) ReflectliteValue.elem) Tryz.func224 (by kernel_rfl) (by kernel_rfl) (by kernel_rfl) (by kernel_rfl)
 have h12:=@run_callFunc_extern Tryz.prog 225 _ ReflectliteValue.set Tryz.func225 (by kernel_rfl) (by kernel_rfl) (by kernel_rfl) (by kernel_rfl)
 have tO:=Tryz.typeOfE
 have mA:=Tryz.methodAssignableTo
 have a25:=Tryz.assignableE
 have v25:=Tryz.valueOfE
 have f6:=Tryz.valueOfP
 have f7:=Tryz.typeP
 have mK:=Tryz.methodKind
 have mE:=Tryz.methodElem
 have mI:=Tryz.methodImplements
 have k27:=Tryz.kindP
 have k25:=Tryz.kindE
 have e27:=Tryz.elemP
 have i25:=Tryz.implementsE
 have n8:=Tryz.isNilP ⟨w.heap.size,0,none⟩ t ((w.alloc (.cells #[.pointer (some t)] 145)).alloc (.cells #[.pointer (some ⟨7,145,none⟩),.pointer (some ⟨w.heap.size,0,none⟩),.int .u64 150] 197)) (by simp)
 have hlt:2<w.heap.size:=World.block_lt_of_cell? w _ hg
 have hg2:((w.alloc (.cells #[.pointer (some t)] 145)).alloc (.cells #[.pointer (some ⟨7,145,none⟩),.pointer (some ⟨w.heap.size,0,none⟩),.int .u64 150] 197)).cell? ⟨2,0,none⟩=some (.iface 257 (.agg #[.pointer (some ⟨7,36,none⟩)])):=by
  rw [World.cell?_alloc_lt _ _ ⟨2,0,none⟩ (by simp;omega),World.cell?_alloc_lt _ _ ⟨2,0,none⟩ hlt];exact hg
 have htl:t.block<w.heap.size:=by
  rcases Nat.lt_or_ge t.block w.heap.size with h | h
  ·exact h
  ·simp [World.cell?,Array.getElem?_eq_none h] at ht0
 have el:=Tryz.elemVP ⟨w.heap.size,0,none⟩ t (((w.alloc (.cells #[.pointer (some t)] 145)).alloc (.cells #[.pointer (some ⟨7,145,none⟩),.pointer (some ⟨w.heap.size,0,none⟩),.int .u64 150] 197)).alloc (.cells #[.pointer (some ⟨7,145,none⟩),.pointer (some ⟨w.heap.size,0,none⟩),.int .u64 150] 197)) (by rw [World.cell?_alloc_lt _ _ ⟨w.heap.size,0,none⟩ (by simp;omega)];simp)
 have st:=Tryz.setE t ⟨w.heap.size+1+1+1,0,none⟩ e old ((((w.alloc (.cells #[.pointer (some t)] 145)).alloc (.cells #[.pointer (some ⟨7,145,none⟩),.pointer (some ⟨w.heap.size,0,none⟩),.int .u64 150] 197)).alloc (.cells #[.pointer (some ⟨7,145,none⟩),.pointer (some ⟨w.heap.size,0,none⟩),.int .u64 150] 197)).alloc (.cells #[.int .i64 e] 25))
  (by rw [World.cell?_alloc_at _ _ _ _ (by simp)];rfl)
  (by rw [World.cell?_alloc_lt _ _ t (by simp;omega),World.cell?_alloc_lt _ _ t (by simp;omega),World.cell?_alloc_lt _ _ t (by simp;omega),World.cell?_alloc_lt _ _ t htl];exact ht0)
  (by rw [World.frozen?_alloc_old _ _ t (by simp;omega),World.frozen?_alloc_old _ _ t (by simp;omega),World.frozen?_alloc_old _ _ t (by simp;omega),World.frozen?_alloc_old _ _ t (Nat.ne_of_lt htl)];exact hf0)
 go_enter Tryz.func111,Tryz.ntmps111
 go_wp2
 refine wp_loop_rounds 1 ?_
 rw [rounds_succ]
 go_wp2
 go_ret
 exact ⟨rfl,rfl⟩
def ET(w:World):Prop:=w.cell? ⟨2,0,none⟩=some (.iface 257 (.agg #[.pointer (some ⟨7,36,none⟩)]))
theorem ET.mod{w w':World}(h:ET w)(hm:Mod zAb w w'):ET w':=hm.cell h id
theorem yOv(w:World):Calls Tryz.prog 68 #[.nilIface] w fun e w'=>e=.returned (.int .i64 0)/\w'=w:=by
 go_enter Tryz.func68,Tryz.ntmps68
 go_wp2_with fail
 go_ret
 exact ⟨rfl,rfl⟩
theorem yHb(e:Int)(w:World)(h:ET w):Calls Tryz.prog 68 #[.iface 25 (.int .i64 e)] w fun ev w'=>ev=.returned (.int .i64 e)/\Mod zAb w w':=by
 have hg1:(w.alloc (.cells #[.int .i64 0] 25)).cell? ⟨2,0,none⟩=some (.iface 257 (.agg #[.pointer (some ⟨7,36,none⟩)])):=h.mod ((Mod.refl _ w).alloc _)
 have HG:=Hmq hg1
 have hlt:0<w.heap.size:=by
  rcases Nat.eq_zero_or_pos w.heap.size with h0 | h'
  ·simp [ET,World.cell?,h0] at h
  ·exact h'
 clear hg1
 go_enter Tryz.func68,Tryz.ntmps68
 go_wp2_with fail
 refine (as_hit e ⟨w.heap.size,0,none⟩ (.int .i64 0) _ HG.out (by simp) (by simp)).mono ?_
 rintro ev w1 ⟨rfl,hw1⟩
 have hc:w1.cell? ⟨w.heap.size,0,none⟩=some (.int .i64 e):=by
  rw [hw1]
  exact ((((((Blk.new w [.int .i64 0] 25).mod ((Mod.refl zAb _).alloc _) id).mod ((Mod.refl zAb _).alloc _) id).mod ((Mod.refl zAb _).alloc _) id).mod ((Mod.refl zAb _).alloc _) id).set 0 _).cell 0 rfl
 have hm:Mod zAb w w1:=by
  rw [hw1]
  exact ((((((Mod.refl zAb w).alloc _).alloc _).alloc _).alloc _).alloc _).setCell (p:=⟨w.heap.size,0,none⟩) (fun h=>absurd h (Nat.lt_irrefl _)) _
 clear hw1 HG
 go_wp2_with fail
 go_ret
 exact ⟨rfl,hm⟩
end Go.Proofs.YtogaigioeohjaaaGreatDoor
namespace Go.Proofs.YtogaigioeohjaaaGreatDoor
open Go.RowKit Go.Lib Go.Maps
def zGw(m:Nat)(s:Tab):Prop:=∀ k c,c∈(s k).held\/c∈(s k).waits->1<=c.tx/\c.tx<=(m:Int)
theorem zGw.lock{m:Nat}{s:Tab}(h:zGw m s){name:ByteArray}(ha:zHg (s name)){c:ClmD}(hc:1<=c.tx/\c.tx<=(m:Int)):zGw m (updK s name (zCx (s name) c).1):=fun k d hd=>by
 by_cases e:k=name
 ·subst e
  rw [zFu] at hd
  unfold zCx at hd
  split at hd
  ·exact h k d hd
  split at hd
  ·exact h k d hd
  split at hd
  ·rcases hd with hd | hd
   ·rcases (zCa ha.held c d).1 hd with rfl | ⟨hd,_⟩
    ·exact hc
    ·exact h k d (.inl hd)
   ·exact h k d (.inr hd)
  split at hd
  ·exact h k d hd
  ·rcases hd with hd | hd
   ·exact h k d (.inl hd)
   ·rcases (zCa ha.waits c d).1 hd with rfl | ⟨hd,_⟩
    ·exact hc
    ·exact h k d (.inr hd)
 ·rw [zGq e] at hd
  exact h k d hd
theorem zGw.rel{m:Nat}{s:Tab}(h:zGw m s)(t:Int):zGw m (relN s t):=fun k d hd=>by
 unfold relN at hd
 split at hd
 ·unfold outN at hd
  rcases hd with hd | hd
  ·rcases (zHi _ _ _ d).1 hd with q | q
   ·exact h k d (.inl (zBq.1 q).1)
   ·exact h k d (.inr (zBq.1 q).1)
  ·rcases (zHi _ _ _ d).2.1 hd with q | q
   ·simp at q
   ·exact h k d (.inr (zBq.1 q).1)
 ·exact h k d hd
theorem zTi:∀ (l:List ClmD) (a m:Int),zFj l->(∀ c∈l,a<c.tx/\c.tx<=m)->a<=m->(l.length:Int)<=m - a
 | [],a,m,_,_,h=>by simp;omega
 | c :: l,a,m,he,hb,ham=>by
  have h0:=hb c (List.mem_cons_self ..)
  unfold zFj at he
  rw [List.pairwise_cons] at he
  have:=zTi l c.tx m he.2 (fun d hd=>⟨he.1 d hd,(hb d (List.mem_cons_of_mem _ hd)).2⟩) h0.2
  simp only [List.length_cons]
  omega
theorem zGw.few{m:Nat}{s:Tab}(h:zGw m s)(hm:m<=60){k:ByteArray}(ha:zHg (s k)):(s k).held.length+(s k).waits.length<=120:=by
 have h1:=zTi (s k).held 0 m ha.held (fun c hc=>⟨by have:=(h k c (.inl hc)).1;omega,(h k c (.inl hc)).2⟩) (by omega)
 have h2:=zTi (s k).waits 0 m ha.waits (fun c hc=>⟨by have:=(h k c (.inr hc)).1;omega,(h k c (.inr hc)).2⟩) (by omega)
 omega
theorem zJa(k:KeyS)(c:ClmD):∀ t∈(zCx k c).2.2.1,∃ d∈k.held,d.tx=t:=fun t ht=>by
 unfold zCx at ht
 split at ht
 ·simp at ht
 split at ht
 ·simp at ht
 split at ht
 ·simp at ht
 split at ht
 ·simp at ht
 ·obtain ⟨d,hd,rfl⟩:=List.mem_map.1 ht
  exact ⟨d,(List.mem_filter.1 hd).1,rfl⟩
theorem ET.keep{w w':World}{n g:Nat}{y y':HLay}(h:ET w)(ho:OwnP w n g y)(hn:2<n)(hs:zFi w y w' y'):ET w':=hs.md.cell h (fun e=>by have:=(ho.lt 2 e).1;omega)
theorem zAe.lockT{w:World}{n c g:Nat}{y:HLay}{s:zAa}(h:zAe w n c g y s)(hki:zGw s.txs.length s.keys)(hl:s.txs.length<=60)(hc:c<=10000)(id:Int)(hid:1<=id/\id<=(s.txs.length:Int))(key:ByteArray)(hk:key.size<=20)(mode:Int)(hm:mode=1\/mode=2) :
  Calls Tryz.prog 119 #[.pointer (some ⟨g,5,none⟩),.int .i64 id,.string key,.int .i64 mode] w fun e w'=>∃ (ok:Bool) (u:Value) (y':HLay),e=.returned (.tuple #[.bool ok,u,errQ (zAw s id key mode).2.2]) /\
   zAe w' n (c+1) g y' (zAw s id key mode).1/\zAm w y w' y'/\zTt w' y' u (zAw s id key mode).2.1:=by
 have hok:okQ key:=by unfold okQ maxLen;omega
 refine (yQi n 120 (y.tb g s.net.lost) s.keys id key mode w h.tabP hm hk (by omega) (by have:=h.qn.2.2;show y.q.n<=1000000;omega) (Nat.le_trans h.low (Nat.le_of_lt h.blk.lt))).mono ?_
 rintro e w' ⟨q',u,rfl,hQ⟩
 have hkey:=h.tab.ok key hok
 obtain ⟨hH,hS⟩:=h.turnQ (c':=c+1) hQ.md hQ.tb hQ.b hQ.pre hQ.post hQ.t (by have:=hQ.n;have:=h.qn.2.2;show q'.n<=c+1;have:(y.tb g s.net.lost).n=y.q.n:=rfl;omega) hQ.own (fun k hk=>(hki.lock hkey hid).few hl (hQ.tb.ok k hk))
 refine ⟨_,u,_,rfl,hH,⟨hS,rfl,rfl,rfl,rfl,rfl⟩,zXl hQ.wound,fun k hk=>?_⟩
 obtain ⟨h1,h2,cur,h3⟩:=zAi hQ.wound hk
 refine ⟨?_,h2⟩
 have hno:¬ q'.own k:=fun e=>by
  rcases e with e | ⟨z,i,hz,e⟩
  ·have hmm:=hQ.tb.map
   unfold MapQ at hmm
   rw [e] at hmm
   obtain ⟨_,D,⟨es,clock,h4,_⟩,_⟩:=hmm
   rw [h4] at h3;simp at h3
  ·obtain ⟨_,_,cur',h4⟩:=hQ.tb.old hz (fun x=>x) e
   rw [h4] at h3;simp at h3
 simp only [HLay.setQ]
 rw [if_neg (fun e=>hno e.2)]
 by_cases e:y.own k=.no
 ·exact e
 ·have:=(h.own.lt k e).2;omega
theorem yKm(er:Int)(w:World)(h:ET w):Calls Tryz.prog 68 #[errQ er] w fun e w'=>e=.returned (.int .i64 er)/\Mod zAb w w':=by
 by_cases he:er=0
 ·subst he
  rw [zCc]
  exact (yOv w).mono (fun e w' ⟨h1,h2⟩=>⟨h1,h2 ▸ Mod.refl _ _⟩)
 ·rw [zBa he]
  exact yHb er w h
structure zQn(w:World)(n c:Nat)(s:zAa):Prop where
 sh:zGd s
 ki:zGw s.txs.length s.keys
 et:ET w
 n:2<n
 c:c<=9000
theorem zBk.shape{s s':zAa}(h:zBk s s')(hs:zGd s)(hw:∀ t∈s'.txs,t.writes.length<=20):zGd s':=by
 refine ⟨by rw [h.l];exact hs.ll,by rw [h.l];exact hs.nl,by rw [h.len];exact hs.tl,fun t ht=>?_,hw⟩
 obtain ⟨i,hi⟩:=List.getElem?_of_mem ht
 have hil:i<s'.txs.length:=(List.getElem?_eq_some_iff.1 hi).1
 have e1:s'.tx (i+1)=t:=by
  have:=zIj (s:=s') (id:=i+1) (by omega) (by omega)
  rw [Nat.add_sub_cancel,hi] at this
  exact (Option.some.inj this).symm
 have:=h.at_ (i+1)
 rw [e1] at this
 rw [this,h.l]
 exact hs.ta _ (zNm (by omega) (by rw [h.len] at hil;omega))
theorem zGg(s:zAa)(id:Nat)(t:TxS)(h:∀ t∈s.txs,t.writes.length<=20)(ht:t.writes.length<=20):∀ x∈(setTx s id t).txs,x.writes.length<=20:=fun x hx=>by
 rcases List.mem_or_eq_of_mem_set hx with q | q
 ·exact h x q
 ·rw [q];exact ht
theorem zIi{s:zAa}(h:∀ t∈s.txs,t.writes.length<=20)(id:Nat):(s.tx id).writes.length<=20:=by
 unfold zAa.tx
 rw [List.getD_eq_getElem?_getD]
 cases hq:s.txs[id - 1]? with
 | none=>simp
 | some t=>exact h t (List.mem_of_getElem? hq)
theorem zOp(s:zAa)(id:Nat)(st:Int)(h:∀ t∈s.txs,t.writes.length<=20):∀ t∈(zDe s id st).txs,t.writes.length<=20:=zGg s id _ h (by simp)
theorem yCh(s:zAa)(id:Nat)(h:∀ t∈s.txs,t.writes.length<=20):∀ t∈(zBh s id).txs,t.writes.length<=20:=by
 unfold zBh
 refine zOp _ id 4 ?_
 split
 ·exact zGg s id _ h (zIi h id)
 ·exact h
theorem zIw:∀ (ids:List Int) (s:zAa),(∀ t∈s.txs,t.writes.length<=20)->∀ t∈(zBz s ids).txs,t.writes.length<=20
 | [],_,h=>h
 | i :: ids,s,h=>by
  show ∀ t∈(zBz (wound1 s i) ids).txs,_
  refine zIw ids _ ?_
  unfold wound1
  split
  ·exact yCh s _ h
  ·exact h
theorem zGd.wound{s:zAa}(h:zGd s)(ids:List Int):zGd (zBz s ids):=(zBk.wound ids s).shape h (zIw ids s h.tw)
theorem zGd.locked{s:zAa}(h:zGd s)(id:Int)(key:ByteArray)(mode:Int):zGd (zAw s id key mode).1:=⟨h.ll,h.nl,h.tl,h.ta,h.tw⟩
theorem yAu{m:Nat}{s:zAa}(h:zGw m s.keys)(id:Nat):zGw m (zBh s id).keys:=by
 have e:(zBh s id).keys=relN s.keys id:=by unfold zBh zDe;split <;> rfl
 rw [e];exact h.rel _
theorem zLk{m:Nat}:∀ (ids:List Int) {s:zAa},zGw m s.keys->zGw m (zBz s ids).keys
 | [],_,h=>h
 | i :: ids,s,h=>by
  show zGw m (zBz (wound1 s i) ids).keys
  refine zLk ids ?_
  unfold wound1
  split
  ·exact yAu h _
  ·exact h
theorem zVl(s:zAa)(id:Int)(key:ByteArray)(mode:Int):(zBs s id key mode).1.txs.length=s.txs.length/\(zBs s id key mode).1.lines=s.lines:=by
 unfold zBs
 simp only
 split
 ·exact ⟨(zBk.wound _ (zAw s id key mode).1).len,(zBk.wound _ (zAw s id key mode).1).l⟩
 ·exact ⟨rfl,rfl⟩
theorem yAp{s:zAa}{id:Int}{key:ByteArray}{mode:Int}(h:zGw s.txs.length s.keys)(hko:zHg (s.keys key))(hid:1<=id/\id<=(s.txs.length:Int)):∀ i∈(zBs s id key mode).2.1,1<=i/\i<=(s.txs.length:Int):=fun i hi=>by
 unfold zBs at hi
 simp only at hi
 split at hi
 ·obtain ⟨d,hd,rfl⟩:=zJa _ _ i hi
  have hk1:zGw s.txs.length (zAw s id key mode).1.keys:=h.lock hko hid
  exact zLk _ hk1 key d (.inl hd)
 ·obtain ⟨d,hd,rfl⟩:=zJa _ _ i hi
  exact h key d (.inl hd)
theorem zAe.moreC{w:World}{n c c' g:Nat}{y:HLay}{s:zAa}(h:zAe w n c g y s)(hc:c<=c'):zAe w n c' g y s:={ h with qn:=⟨h.qn.1,h.qn.2.1,Nat.le_trans h.qn.2.2 hc⟩ }
theorem zAe.fresh{w w':World}{n c g:Nat}{y:HLay}{s:zAa}(h:zAe w n c g y s){u:Value}{l:List Int}(hr:RowI w' w.heap.size u l):zTt w' y u l:=by
 refine ⟨zXl hr,fun k hk=>?_⟩
 obtain ⟨h1,h2,_⟩:=zAi hr hk
 refine ⟨?_,h2⟩
 by_cases e:y.own k=.no
 ·exact e
 ·have:=(h.own.lt k e).2;omega
theorem zXk{w:World}{B b m cap k:Nat}{l:List Int}{x:Int}(h:w.ownsRow B 3 1 (.slice (some ⟨b,0,none⟩) m cap) l.length (l.map (Value.int .i64)))(hk:k<l.length):(w.setCell ⟨b,k,none⟩ (.int .i64 x)).ownsRow B 3 1 (.slice (some ⟨b,0,none⟩) m cap) (l.set k x).length ((l.set k x).map (Value.int .i64))/\(∃ u,w.cell? ⟨b,k,none⟩=some u)/\w.frozen? ⟨b,k,none⟩=false:=by
 obtain ⟨h1,h2⟩:=h
 rcases h2 with ⟨e,_⟩ | ⟨b',cap',cur,e,q1,q2,q3,q4,q5,q6⟩
 ·simp at e
 ·simp only [Value.slice.injEq,Option.some.injEq,Addr.mk.injEq] at e
  obtain ⟨⟨rfl,_,_⟩,rfl,rfl⟩:=e
  have hB:Blk w b cur.toList 3:=by unfold Blk;rw [q2]
  have hB2:=hB.set k (.int .i64 x)
  have hkc:k<cur.toList.length:=by rw [Array.length_toList];omega
  refine ⟨⟨by simp,.inr ⟨b,cap,(cur.toList.set k (.int .i64 x)).toArray,by rw [List.length_set],q1,?_,by rw [List.length_set];exact q3,q4,?_,?_⟩⟩,⟨_,hB.cell k (List.getElem?_eq_getElem hkc)⟩,hB.frozen k⟩
  ·exact hB2
  ·simp;omega
  ·rw [List.length_set,Nat.mul_one]
   rw [Nat.mul_one] at q6
   simp only [List.map_set]
   rw [<-q6,List.take_set]
theorem zAe.came{w:World}{n c g:Nat}{y:HLay}{s:zAa}(h:zAe w n c g y s){id k b ab cap:Nat}(h1:1<=id)(h2:id<=s.txs.length)(hb:y.tbs[id - 1]?=some b)(hk:k<(s.tx id).ats.length)(hav:y.tav b=.slice (some ⟨ab,0,none⟩) (s.tx id).ats.length cap) :
  ∃ y',zAe (w.setCell ⟨ab,k,none⟩ (.int .i64 1)) n c g y' (zIs s id k)/\zAm w y (w.setCell ⟨ab,k,none⟩ (.int .i64 1)) y':=by
 have hT:=h.tx (id - 1) b _ hb (zIj h1 h2)
 have hrow:=hT.ats
 rw [hav] at hrow
 obtain ⟨r1,_,_⟩:=zXk (x:=1) hrow hk
 have r2:Mod (zAd ab) w (w.setCell ⟨ab,k,none⟩ (.int .i64 1)):=Mod.setBlk ab k _
 have hna:ab≠b:=fun e=>zBf hrow hT.blk (by decide) (by rw [e];rfl)
 have hne:∀ k,(y.twv b).ownBlock=some k->k≠ab:=fun k hk e=>by
  subst e
  obtain ⟨_,_,cur,hc1⟩:=zAi hT.wr hk
  obtain ⟨_,_,cur',hc2⟩:=zAi hrow rfl
  rw [hc1] at hc2;simp at hc2
 obtain ⟨hH1,hS1⟩:=h.turnT hb (zIj h1 h2) (t':={ s.tx id with ats:=(s.tx id).ats.set k 1 }) (av:=y.tav b) (wv:=y.twv b) (r2.mono (fun x _ e=>.inr (.inl (by rw [hav];exact congrArg some (Eq.symm e))))) (hT.blk.mod r2 (fun e=>hna (Eq.symm e))) (by rw [hav];exact r1) (zAn hT.wr r2 (fun k _ _ e q=>hne k e q)) (.inl (.inl rfl)) (.inl (.inl rfl))
 rw [zLz] at hH1
 exact ⟨_,hH1,hS1,rfl,rfl,rfl,rfl,rfl⟩
theorem zGd.came{s:zAa}(h:zGd s)(id k:Nat):zGd (zIs s id k):=
 (zBk.setTx s id { s.tx id with ats:=(s.tx id).ats.set k 1 } (by simp)).shape h (zGg s id _ h.tw (zIi h.tw id))
def zTr(w:World)(n c g:Nat)(y:HLay)(s':zAa)(er:Int)(e:Ending)(w':World):Prop:=e=.returned (errQ er)/\∃ y',zAe w' n c g y' s'/\zAm w y w' y'
theorem yAz(n c g:Nat)(y:HLay)(s:zAa)(id:Nat)(key:ByteArray)(mode:Int)(w:World)(h:zAe w n c g y s)(hok:zQn w n c s)(h1:1<=id)(h2:id<=s.txs.length)(hk:key.size<=20)(hm:mode=1\/mode=2) :
  Calls Tryz.prog 75 #[.pointer (some ⟨g,0,none⟩),.int .i64 id,.string key,.int .i64 mode] w (zTr w n (c+2) g y (zBw s id key mode).1 (zBw s id key mode).2):=by
 have htl:=hok.sh.tl
 have hcc:=hok.c
 have hokq:okQ key:=by unfold okQ maxLen;omega
 have HLT:=Hmq (h.lockT hok.ki htl (by omega) id ⟨by omega,by omega⟩ key hk mode hm)
 have hmk:=zMd
 have HOK:=Hmq hok
 have HO:=Hmq h.own
 have HKO:=Hmq (h.tab.ok key hokq)
 clear h hok
 go_enter Tryz.func75,Tryz.ntmps75
 go_upto_region 1 with fail
 go_wp2_with fail
 refine HLT.out.mono ?_
 rintro e w1 ⟨ok,u,y1,rfl,hH1,hK1,hU1⟩
 have hE1:ET w1:=HOK.out.et.keep HO.out HOK.out.n hK1.st
 obtain ⟨ua,uc,hua,_,_⟩:=SlR.slice hU1.1
 subst hua
 have HTE:=Hmq (yKm (zAw s id key mode).2.2 w1 hE1)
 have HY:Hid (∀ wq,Mod zAb w1 wq->Calls Tryz.prog 74 #[.pointer (some ⟨g,0,none⟩),.int .i64 id,.string key] wq fun e w'=>e=.returned (.bool (zEc (zAw s id key mode).1 id key))/\Mod zAb wq w'):=fun wq hq=>zYu n (c+1) g y1 _ id key wq (hH1.quiet hq) htl hokq
 have HH1:=Hmq hH1
 have HK1:=Hmq hK1
 have HU1:=Hmq hU1
 have HE1:=Hmq hE1
 have HER:Hid (zAw s id key mode=((zAw s id key mode).1,(zAw s id key mode).2.1,(zAw s id key mode).2.2)):=rfl
 obtain ⟨s1,hs1⟩:∃ x,x=(zAw s id key mode).1:=⟨_,rfl⟩
 obtain ⟨ws1,hws1⟩:∃ x,x=(zAw s id key mode).2.1:=⟨_,rfl⟩
 obtain ⟨er1,her1⟩:∃ x,x=(zAw s id key mode).2.2:=⟨_,rfl⟩
 have HA0:Hid (zBs s id key mode=if er1=4/\zEc s1 id key=true then zAw (zBz s1 (zDa s1 id key)) id key mode else (s1,ws1,er1)):=by rw [hs1,hws1,her1];rfl
 have HSH1:Hid (zGd s1/\zGw s1.txs.length s1.keys/\s1.txs.length=s.txs.length):=by
  rw [hs1]
  exact ⟨HOK.out.sh.locked _ _ _,HOK.out.ki.lock HKO.out ⟨by show (1:Int)<=(id:Int);omega,by show (id:Int)<=_;omega⟩,rfl⟩
 rw [<-hs1] at HY HH1
 rw [<-hws1] at HU1
 rw [<-her1] at HTE
 rw [<-her1,<-hws1]
 clear hH1 hK1 hU1 hE1 HLT HER hs1 hws1 her1
 go_upto_region 2 with fail
 go_cut [31] (fun t wc=>t=.bool (decide (er1=4) && zEc s1 id key)/\Mod zAb w1 wc)
 case first=>
  by_cases he:er1=4
  ·have heb:(er1 == 4)=true:=by simpa using he
   have HD:Hid (decide (er1=4)=true):=decide_eq_true he
   clear he
   cases hy:zEc s1 id key
   all_goals
    rw [hy] at HY
    go_wp2_with (first
     | (go_at_call 68;refine HTE.out.mono ?_;rintro e w2 ⟨rfl,hm2⟩)
     | (go_at_call 74;refine (HY.out _ hm2).mono ?_;rintro e w3 ⟨rfl,hm3⟩)
     | fail)
    go_meet
    case rel=>exact ⟨by rw [HD.out,hy];rfl,hm2.trans hm3⟩
  ·have heb:(er1 == 4)=false:=by simpa using he
   have HD:Hid (decide (er1=4)=false):=decide_eq_false he
   clear he
   go_wp2_with (first
    | (go_at_call 68;refine HTE.out.mono ?_;rintro e w2 ⟨rfl,hm2⟩)
    | fail)
   go_meet
   case rel=>exact ⟨by rw [HD.out];rfl,hm2⟩
 case rest=>
  obtain ⟨rfl,hmc⟩:=hcut
  have HHC:=Hmq (HH1.out.quiet hmc)
  have HKC:=Hmq (HK1.out.trans (zAm.quiet hmc))
  have HUC:=Hmq (HU1.out.keep (zFi.quiet hmc))
  obtain ⟨wd,hwd⟩:∃ x,x=wc:=⟨_,rfl⟩
  subst hwd
  clear hmc HTE HY HH1 HK1 HU1
  go_upto_if 31 with fail
  go_cut [10,11] (fun v e wc=>e=errQ (zBs s id key mode).2.2/\∃ yc,zAe wc n (c+2) g yc (zBs s id key mode).1/\zAm w y wc yc/\zTt wc yc v (zBs s id key mode).2.1)
  case first=>
   by_cases hb:er1=4/\zEc s1 id key=true
   ·have hbb:(decide (er1=4) && zEc s1 id key)=true:=by rw [hb.1,hb.2];rfl
    rw [hbb]
    have HA1:Hid (zBs s id key mode=zAw (zBz s1 (zDa s1 id key)) id key mode):=by unfold Hid;rw [HA0.out,if_pos hb]
    have HOT:=Hmq (zVd n (c+1) g y1 s1 id key wd HHC.out (by rw [HSH1.out.2.2];exact htl) hokq)
    clear hb hbb HA0
    go_wp2_with fail
    refine HOT.out.mono ?_
    rintro e w3 ⟨u3,rfl,hu3,hm3⟩
    have hh3:=HHC.out.quiet hm3
    have hlen:(zDa s1 id key).length<=60:=Nat.le_trans (zNh s1 id key s1.txs.length) (by rw [HSH1.out.2.2];exact htl)
    have HWN:=Hmq (zYy n (c+1) g y1 s1 u3 (zDa s1 id key) w3 hh3 HSH1.out.1 (by omega) (HHC.out.fresh hu3) (fun i hi=>zKg hi))
    obtain ⟨ua3,uc3,hua3⟩:=zAg hu3
    subst hua3
    have HK3:=Hmq (HKC.out.trans (zAm.quiet hm3))
    clear hu3 hm3 hh3 HOT
    go_wp2_with fail
    refine HWN.out.mono ?_
    rintro e w4 ⟨rfl,y4,hH4,hK4⟩
    have hsame:=zBk.wound (zDa s1 id key) s1
    have HLT2:=Hmq (hH4.lockT (by rw [hsame.len];exact zLk _ HSH1.out.2.1) (by rw [hsame.len,HSH1.out.2.2];exact htl) (by omega) id (by rw [hsame.len,HSH1.out.2.2];omega) key hk mode hm)
    have HK4:=Hmq (HK3.out.trans hK4)
    clear hH4 hK4 hsame HWN HK3
    go_wp2_with fail
    refine HLT2.out.mono ?_
    rintro e w5 ⟨ok5,u5,y5,rfl,hH5,hK5,hU5⟩
    have HF:Hid (zAe w5 n (c+2) g y5 (zBs s id key mode).1/\zAm w y w5 y5/\zTt w5 y5 u5 (zBs s id key mode).2.1):=by
     unfold Hid;rw [HA1.out];exact ⟨hH5,HK4.out.trans hK5,hU5⟩
    have HEE:Hid (errQ (zAw (zBz s1 (zDa s1 id key)) id key mode).2.2=errQ (zBs s id key mode).2.2):=by unfold Hid;rw [HA1.out]
    clear hH5 hK5 hU5 HLT2 HK4
    go_wp2_with fail
    go_meet
    case rel=>exact ⟨HEE.out,y5,HF.out.1,HF.out.2.1,HF.out.2.2⟩
   ·have hbb:(decide (er1=4) && zEc s1 id key)=false:=by
     cases hy:zEc s1 id key with
     | false=>simp
     | true=>rw [decide_eq_false (fun q=>hb ⟨q,hy⟩)];rfl
    rw [hbb]
    have HA1:Hid (zBs s id key mode=(s1,ws1,er1)):=by unfold Hid;rw [HA0.out,if_neg hb]
    have HF:Hid (zAe wd n (c+2) g y1 (zBs s id key mode).1/\zAm w y wd y1/\zTt wd y1 (.slice ua ws1.length uc) (zBs s id key mode).2.1):=by
     unfold Hid;rw [HA1.out];exact ⟨HHC.out.moreC (by omega),HKC.out,HUC.out⟩
    have HEE:Hid (errQ er1=errQ (zBs s id key mode).2.2):=by unfold Hid;rw [HA1.out]
    clear hb hbb
    go_wp2_with fail
    go_meet
    case rel=>exact ⟨HEE.out,y1,HF.out.1,HF.out.2.1,HF.out.2.2⟩
  case rest=>
   obtain ⟨rfl,yc,hHc,hKc,hUc⟩:=hcut
   have hlen2:=zVl s id key mode
   have HWI:=Hmq (yAp (mode:=mode) HOK.out.ki HKO.out ⟨by show (1:Int)<=(id:Int);omega,by show (id:Int)<=_;omega⟩)
   have HSH:Hid (zGd (zBs s id key mode).1):=by
    unfold Hid
    rw [HA0.out]
    split
    ·exact (HSH1.out.1.wound _).locked _ _ _
    ·exact HSH1.out.1
   have HL:Hid (zBw s id key mode=if (zBs s id key mode).2.2=9 then ((zBs s id key mode).1,11) else if (zBs s id key mode).2.2=4 then ((zBs s id key mode).1,4) else
     (zBz (zIs (zBs s id key mode).1 id (zAv (zBs s id key mode).1 key)) (zBs s id key mode).2.1,if zCw ((zBz (zIs (zBs s id key mode).1 id (zAv (zBs s id key mode).1 key)) (zBs s id key mode).2.1).keys key).held id<mode then 11 else 0)):=rfl
   have hEc:ET wc:=HOK.out.et.keep HO.out HOK.out.n hKc.st
   clear HA0 HSH1 HHC HKC HUC HE1
   generalize zBs s id key mode=A at hHc hUc hlen2 HWI HSH HL
   obtain ⟨sA,wsA,erA⟩:=A
   dsimp only at hHc hUc hlen2 HWI HSH HL
   have HTE:=Hmq (yKm erA wc hEc)
   have HHc:=Hmq hHc
   have HKc:=Hmq hKc
   have HUc:=Hmq hUc
   obtain ⟨va,vc,hva,_,hvc⟩:=SlR.slice hUc.1
   subst hva
   clear hHc hKc hUc hEc
   go_upto_region 5 with fail
   go_wp2_with fail
   refine HTE.out.mono ?_
   rintro e w2 ⟨rfl,hm2⟩
   have HH2:=Hmq (HHc.out.quiet hm2)
   have HK2:=Hmq (HKc.out.trans (zAm.quiet hm2))
   have HU2:=Hmq (HUc.out.keep (zFi.quiet hm2))
   clear hm2 HTE HHc HKc HUc
   by_cases e9:erA=9
   ·have b9:(erA == 9)=true:=by simpa using e9
    have HF:Hid (zTr w n (c+2) g y (zBw s id key mode).1 (zBw s id key mode).2 (.returned (.iface 25 (.int .i64 11))) w2):=by
     unfold Hid;rw [HL.out,if_pos e9];exact ⟨by rw [zBa (by omega)],yc,HH2.out,HK2.out⟩
    clear e9
    go_wp2_with fail
    go_ret
    exact HF.out
   ·have b9:(erA == 9)=false:=by simpa using e9
    by_cases e4:erA=4
    ·have b4:(erA == 4)=true:=by simpa using e4
     have HF:Hid (zTr w n (c+2) g y (zBw s id key mode).1 (zBw s id key mode).2 (.returned (.iface 25 (.int .i64 4))) w2):=by
      unfold Hid;rw [HL.out,if_neg e9,if_pos e4];exact ⟨by rw [zBa (by omega)],yc,HH2.out,HK2.out⟩
     clear e9 e4
     go_wp2_with fail
     go_ret
     exact HF.out
    ·have b4:(erA == 4)=false:=by simpa using e4
     have hle:id<=sA.txs.length:=by rw [hlen2.1];exact h2
     obtain ⟨b,hb,hT⟩:=HH2.out.txQ (id:=id) h1 hle
     have HTX:=Hmq (zHy n (c+2) g yc sA id b w2.drew (HH2.out.quiet ((Mod.refl zAb w2).drew)) h1 (by omega) hb)
     have HSD:=Hmq (zNt n (c+2) g yc sA key w2.drew (HH2.out.quiet ((Mod.refl zAb w2).drew)) HSH.out (by omega))
     have hats:(sA.tx id).ats.length=sA.lines.length:=HSH.out.ta _ (zNm h1 hle)
     have hll:=HSH.out.ll
     have hsk:zAv sA key<(sA.tx id).ats.length:=by
      have:zAv sA key<decH sA:=Nat.mod_lt _ (by unfold decH;omega)
      unfold decH at this;omega
     obtain ⟨ab,acap,hav⟩:∃ ab acap,yc.tav b=.slice (some ⟨ab,0,none⟩) (sA.tx id).ats.length acap:=by
      rcases hT.ats.2 with ⟨e,h0⟩ | ⟨g',cap',cur,e,_⟩
      ·omega
      ·exact ⟨g',cap',e⟩
     have t1:=hT.blk.cell 1 rfl
     have hrow:=hT.ats
     rw [hav] at t1 hrow
     obtain ⟨_,⟨u0,a0⟩,f0⟩:=zXk (x:=1) hrow hsk
     have HCM:=Hmq (HH2.out.came h1 hle hb hsk hav)
     have HSC:=Hmq (HSH.out.came id (zAv sA key))
     obtain ⟨kk,hkk⟩:∃ x,x=zAv sA key:=⟨_,rfl⟩
     rw [<-hkk] at HSD HCM hsk a0 f0 HL HSC
     have hkI:(kk:Int)<((sA.tx id).ats.length:Int):=by omega
     have hk0:(0:Int)<=(kk:Int):=by omega
     have zb:=hT.blk.lt
     clear hT hb hav hrow e9 e4 hkk hats
     go_upto_region 10 with fail
     refine wp_region_still_tail 10 (by kernel_rfl) (by kernel_rfl) ?_
     simp only [List.take_succ_cons,List.take_zero,List.drop_succ_cons,List.drop_zero]
     repeat still_step
     still_call HTX.out
     repeat still_step
     still_call HSD.out
     repeat still_step
     refine wpStill_nil ?_
     go_upto_region 11 with fail
     obtain ⟨y3,hH3,hK3⟩:=HCM.out
     obtain ⟨w3,hw3⟩:∃ x,x=(w2.setCell ⟨ab,kk,none⟩ (.int .i64 1)).drew:=⟨_,rfl⟩
     have hm3:Mod zAb (w2.setCell ⟨ab,kk,none⟩ (.int .i64 1)) w3:=by rw [hw3];exact (Mod.refl zAb _).drew
     rw [<-hw3]
     have hH3':=hH3.quiet hm3
     have hK3':=hK3.trans (zAm.quiet hm3)
     have hU3:=HU2.out.keep hK3'.st
     have hlc:(zIs sA id kk).txs.length=s.txs.length:=(zBd _ _ _).trans hlen2.1
     have HWN:=Hmq (zYy n (c+2) g y3 (zIs sA id kk) _ wsA w3 hH3' HSC.out (by omega) hU3 (fun i hi=>by rw [hlc];exact HWI.out i hi))
     have HK3:=Hmq (HK2.out.trans hK3')
     clear hw3 hm3 hH3 hK3 hH3' hK3' hU3 HCM HTX HSD a0 f0 t1
     go_wp2_with fail
     refine HWN.out.mono ?_
     rintro e w4 ⟨rfl,y4,hH4,hK4⟩
     have HHO:=Hmq (hH4.holds id key hokq)
     have HH4:=Hmq hH4
     have HK4:=Hmq (HK3.out.trans hK4)
     clear hH4 hK4 HWN HK3
     generalize hS:zBz (zIs sA id kk) wsA=sF at HHO HH4 HL
     go_upto_region 12 with fail
     go_wp2_with fail
     refine HHO.out.mono ?_
     rintro e w5 ⟨rfl,hm5⟩
     have HH5:=Hmq (HH4.out.quiet hm5)
     have HK5:=Hmq (HK4.out.trans (zAm.quiet hm5))
     by_cases hlo:zCw (sF.keys key).held id<mode
     ·have hlb:decide (zCw (sF.keys key).held id<mode)=true:=decide_eq_true hlo
      have HF:Hid (zTr w n (c+2) g y (zBw s id key mode).1 (zBw s id key mode).2 (.returned (.iface 25 (.int .i64 11))) w5):=by
       unfold Hid;rw [HL.out,if_neg (by simpa using b9),if_neg (by simpa using b4),if_pos hlo];exact ⟨by rw [zBa (by omega)],y4,HH5.out,HK5.out⟩
      clear hlo
      go_wp2_with fail
      go_ret
      exact HF.out
     ·have hlb:decide (zCw (sF.keys key).held id<mode)=false:=decide_eq_false hlo
      have HF:Hid (zTr w n (c+2) g y (zBw s id key mode).1 (zBw s id key mode).2 (.returned .nilIface) w5):=by
       unfold Hid;rw [HL.out,if_neg (by simpa using b9),if_neg (by simpa using b4),if_neg hlo];exact ⟨by rw [zCc],y4,HH5.out,HK5.out⟩
      clear hlo
      go_wp2_with fail
      go_ret
      exact HF.out
end Go.Proofs.YtogaigioeohjaaaGreatDoor
