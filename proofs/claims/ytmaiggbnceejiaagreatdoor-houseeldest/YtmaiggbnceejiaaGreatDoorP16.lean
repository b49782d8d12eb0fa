import Derived.Test.YtmaiggbnceejiaaGreatDoorP15
import Derived.Test.YtmaiggbnceejiaaGreatDoorP12
import Derived.LaidEql
import Derived.Stop.Asserts
import Derived.RowKitTokens
import Derived.StillTailTactics
set_option linter.unusedVariables false
set_option maxRecDepth 100000
set_option maxHeartbeats 16000000
namespace Go.Proofs.YtmaiggbnceejiaaGreatDoor
open Go.RowKit Go.Lib Go.Maps Go.Extern.Stop Go.Stop Go.Extern
theorem tJ.oN{w:World}{n b:Nat}{y:dX}{t:jO}(h:tJ w n y b t):gG w w.heap.size 3 Bi (y.jf b) t.writes:=yBf h.wr
theorem yHw(q:Nat)(d:fR)(key:ByteArray)(w:World)(h1:w.cell? ⟨q,0,none⟩=some (.string key)) :
  Calls Tryz.prog 133 #[.agg #[.string d.key,.string d.val,.bool d.gone],.pointer (some ⟨q,0,none⟩)] w fun e w'=>e=.returned (.bool (decide (d.key=key)))/\Mod dZ w w':=by
 obtain ⟨k,v,gn⟩:=d;dsimp only;obtain ⟨w1,hw1⟩:∃ z,z=w.alloc (.cells #[.string k,.string v,.bool gn] 68):=⟨_,rfl⟩;have di:Mod dZ w w1:=by rw [hw1];exact (Mod.refl _ w).alloc _
 have hb1:dh w1 w.heap.size [.string k,.string v,.bool gn] 68:=by rw [hw1];exact dh.new w _ _
 have g1:=di.cell h1 id;have b0:=hb1.cell 0 rfl;have HM:=dU di;clear h1 hb1 di;by_cases e:k=key
 ·have eb:(k.toList == key.toList)=true:=by rw [e];simp
  have HD:Hid (decide (k=key)=true):=aQ e;clear e;go_enter Tryz.func133,Tryz.ntmps133;go_upto_region 1 with fail;rw [<-hw1];clear hw1;go_wp2_with fail;go_ret;exact ⟨by rw [HD.out];first | rfl | (simp [eb]),HM.out⟩
 ·have eb:(k.toList == key.toList)=false:=by
   rw [bk];intro q;rw [ByteArray.toList_eq,ByteArray.toList_eq] at q;exact e (Qa q)
  have HD:Hid (decide (k=key)=false):=aP e;clear e;go_enter Tryz.func133,Tryz.ntmps133;go_upto_region 1 with fail;rw [<-hw1];clear hw1;go_wp2_with fail;go_ret;exact ⟨by rw [HD.out];first | rfl | (simp [eb]),HM.out⟩
theorem Tw(n b:Nat)(y:dX)(t:jO)(key:ByteArray)(w:World)(h:tJ w n y b t)(hl:t.writes.length<=1000) :
  Calls Tryz.prog 91 #[.pointer (some ⟨b,0,none⟩),.string key] w fun e w'=>e=.returned (.int .i64 (iO (tn t key)))/\Mod dZ w w':=by
 obtain ⟨w1,hw1⟩:∃ z,z=w.alloc (.cells #[.string key] 9):=⟨_,rfl⟩;have di:Mod dZ w w1:=by rw [hw1];exact (Mod.refl _ w).alloc _
 have hb1:dh w1 w.heap.size [.string key] 9:=by rw [hw1];exact dh.new w _ _
 have h1:=h.mod di (fun e=>e) (fun _ _ e=>e);have c2:=h1.blk.cell 2 rfl;obtain ⟨a,cap,hv⟩:=fJ h1.wr;have HA:mF 133 #[.pointer (some ⟨w.heap.size,0,none⟩)] (fun d=>.agg #[.string d.key,.string d.val,.bool d.gone]) t.writes (fun p=>decide (p.key=key)) (fun wr=>wr.cell? ⟨w.heap.size,0,none⟩=some (.string key)):=
  ⟨wR Tryz.func133 (by kernel_rfl) rfl,fun wa wb hh hm=>hm.cell hh (fun e=>e),fun d hd wr hh=>yHw _ d key wr hh⟩
 have nV:=dU (zUe 133 w1.heap.size _ _ (y.jf b) t.writes w1 _ h1.oN HA (hb1.cell 0 rfl) (by omega));rw [hv] at c2 nV;have uB:∀ fn first cap w,(Instr.makeFunc fn first cap).run Tryz.prog w=.ok (.func fn first cap) w:=fun _ _ _ _=>rfl
 have HM:=dU di;clear h h1 hv HA hb1 di;go_enter Tryz.func91,Tryz.ntmps91;go_upto_region 1 with fail;rw [<-hw1];clear hw1;go_wp2_with fail;refine nV.out.mono ?_;rintro e w3 ⟨rfl,dz⟩;go_wp2_with fail;go_ret;exact ⟨rfl,HM.out.trans dz⟩
theorem yRh(n b:Nat)(y:dX)(t:jO)(key:ByteArray)(w:World)(h:tJ w n y b t)(hl:t.writes.length<=1000) :
  Calls Tryz.prog 50 #[.pointer (some ⟨b,0,none⟩),.string key] w fun e w'=>e=.returned (.bool (qv t key))/\Mod dZ w w':=by
 have HW:=dU (Tw n b y t key w h hl);have c2:=h.blk.cell 2 rfl;obtain ⟨a,cap,hv⟩:=fJ h.wr;rw [hv] at c2;clear h hv;by_cases hf:20<=t.writes.length
 ·have hd:decide ((t.writes.length:Int) ≥ 20)=true:=aQ (by omega);have HF:Hid (qv t key=(tn t key).isNone):=by unfold Hid qv;rw [aQ hf];rfl
  cases hw:tn t key with
  | none=>
   rw [hw] at HW HF;simp only [iO] at HW;clear hf;go_enter Tryz.func50,Tryz.ntmps50;go_wp2_with (first
    | (go_at_call 91;refine HW.out.mono ?_;rintro e w2 ⟨rfl,hm2⟩)
    | fail)
   go_ret;exact ⟨by rw [HF.out];rfl,hm2⟩
  | some k=>
   rw [hw] at HW HF;simp only [iO] at HW;have hk:decide ((k:Int)<0)=false:=aP (by omega);clear hf;go_enter Tryz.func50,Tryz.ntmps50;go_wp2_with (first
    | (go_at_call 91;refine HW.out.mono ?_;rintro e w2 ⟨rfl,hm2⟩)
    | fail)
   go_ret;exact ⟨by rw [HF.out];rfl,hm2⟩
 ·have hd:decide ((t.writes.length:Int) ≥ 20)=false:=aP (by omega);have HF:Hid (qv t key=false):=by unfold Hid qv;rw [aP hf];rfl
  clear hf HW;go_enter Tryz.func50,Tryz.ntmps50;go_wp2_with fail;go_ret;exact ⟨by rw [HF.out];rfl,Mod.refl _ _⟩
theorem Tryz.yg(t:Addr)(w:World):(ReflectliteValue.unpack (.iface 177 (.pointer (some t)))).run Tryz.prog w
  = .ok (.agg #[.pointer (some ⟨2,177,none⟩),.pointer (some ⟨w.heap.size,0,none⟩),.int .u64 150]) (w.alloc (.cells #[.pointer (some t)] 177)):=by kernel_rfl
theorem Tryz.MH (a : Addr) (w : World) : (ReflectliteValue.methodAny (ReflectliteValue.valueError "reflectlite.Value.Type" 0) (fun t _ _ _ => ReflectliteType.toType t) #[.agg #[.pointer (some ⟨2, 177, none⟩), .pointer (some a), .int .u64 150]]).run Tryz.prog w
  = .ok (.iface 236 (.agg #[.pointer (some ⟨2,177,none⟩)])) w:=by kernel_rfl
theorem Tryz.uY (h : Value) (w : World) : (Go.method 402 236 (.agg #[h]) "Kind").run Tryz.prog w = .ok (215, h) w := by kernel_rfl
theorem Tryz.Md(w:World):((ReflectliteType.abiMethod fun t=>(fun a:Nat=>Value.int IntKind.u8 (a:Int)) <$> Rtype.kind t) #[.pointer (some ⟨2,177,none⟩)]).run Tryz.prog w=.ok (.int .u8 22) w:=by kernel_rfl
theorem Tryz.Me(w:World):((ReflectliteType.abiMethod fun t=>(fun a:Nat=>Value.int IntKind.u8 (a:Int)) <$> Rtype.kind t) #[.pointer (some ⟨2,90,none⟩)]).run Tryz.prog w=.ok (.int .u8 2) w:=by kernel_rfl
theorem rlm(z:Sem Value)(f:TypeId->Addr->Nat->Nat->Sem Value)(v:Value) :
  ReflectliteValue.method z f #[v]=(do match <-ReflectliteValue.parts v with | none=>z | some (t,a,fl)=>f t a fl (fl % 32)):=rfl
theorem Tryz.ym(a:Addr)(w:World):(ReflectliteValue.parts (.agg #[.pointer (some ⟨2,177,none⟩),.pointer (some a),.int .u64 150])).run Tryz.prog w=.ok (some (177,a,150)) w:=by kernel_rfl
theorem Tryz.GF(a p:Addr)(W:World)(ha:W.cell? a=some (.pointer (some p))) :
  (ReflectliteValue.method (ReflectliteValue.valueError "reflectlite.Value.IsNil" 0) ReflectliteValue.isNil #[.agg #[.pointer (some ⟨2, 177, none⟩), .pointer (some a), .int .u64 150]]).run Tryz.prog W = .ok (.bool false) W := by
 rw [rlm];simp only [Sem.run_bind,Tryz.ym,Result.andThen];simp [ReflectliteValue.isNil,loadVar,isAgg,underlying,Tryz.underlying177,ha,Result.andThen]
theorem Tryz.uZ (h : Value) (w : World) : (Go.method 402 236 (.agg #[h]) "Elem").run Tryz.prog w = .ok (226, .agg #[h]) w := by kernel_rfl
theorem Tryz.oC (h : Value) (w : World) : (Go.method 402 236 (.agg #[h]) "Implements").run Tryz.prog w = .ok (227, .agg #[h]) w := by kernel_rfl
theorem Tryz.mf (h : Value) (w : World) : (Go.method 402 236 (.agg #[h]) "AssignableTo").run Tryz.prog w = .ok (224, .agg #[h]) w := by kernel_rfl
theorem Tryz.Oa(w:World):(ReflectliteType.method ReflectliteType.elem #[.agg #[.pointer (some ⟨2,177,none⟩)]]).run Tryz.prog w=.ok (.iface 236 (.agg #[.pointer (some ⟨2,90,none⟩)])) w:=by kernel_rfl
theorem Tryz.sb (w : World) : (ReflectliteType.relation "Implements" ReflectliteType.implements_ #[.agg #[.pointer (some ⟨2, 90, none⟩)], .iface 236 (.agg #[.pointer (some ⟨2, 40, none⟩)])]).run Tryz.prog w = .ok (.bool true) w := by kernel_rfl
theorem Tryz.CJ(v:Value)(w:World):(ReflectliteType.typeOf #[.iface 90 v]).run Tryz.prog w=.ok (.iface 236 (.agg #[.pointer (some ⟨2,90,none⟩)])) w:=by kernel_rfl
theorem Tryz.tF (w : World) : (ReflectliteType.relation "AssignableTo" ReflectliteType.assignableTo #[.agg #[.pointer (some ⟨2, 90, none⟩)], .iface 236 (.agg #[.pointer (some ⟨2, 90, none⟩)])]).run Tryz.prog w = .ok (.bool true) w := by kernel_rfl
theorem Tryz.yh(e:Int)(w:World):(ReflectliteValue.unpack (.iface 90 (.int .i64 e))).run Tryz.prog w
  = .ok (.agg #[.pointer (some ⟨2,90,none⟩),.pointer (some ⟨w.heap.size,0,none⟩),.int .u64 130]) (w.alloc (.cells #[.int .i64 e] 90)):=by kernel_rfl
theorem Tryz.DJ(w:World):(Rtype.elem? 177).run Tryz.prog w=.ok (some 90) w:=by kernel_rfl
theorem Tryz.mkE(p:Addr)(w:World):(ReflectliteValue.mk 90 p ReflectliteValue.flagAddr).run Tryz.prog w=.ok (.agg #[.pointer (some ⟨2,90,none⟩),.pointer (some p),.int .u64 386]) w:=by kernel_rfl
theorem Tryz.Hq(a p:Addr)(W:World)(ha:W.cell? a=some (.pointer (some p))) :
  (ReflectliteValue.method (ReflectliteValue.valueError "reflectlite.Value.Elem" 0) ReflectliteValue.elem #[.agg #[.pointer (some ⟨2, 177, none⟩), .pointer (some a), .int .u64 150]]).run Tryz.prog W
   = .ok (.agg #[.pointer (some ⟨2,90,none⟩),.pointer (some p),.int .u64 386]) W:=by
 rw [rlm];simp only [Sem.run_bind,Tryz.ym,Result.andThen];simp [ReflectliteValue.elem,loadVar,isAgg,underlying,Tryz.underlying177,ha,Result.andThen,Tryz.DJ,Tryz.mkE]
theorem rls(v x:Value):ReflectliteValue.set #[v,x]=(do
  let (some (dst,a,fl),some (src,b,_)):=(<-ReflectliteValue.parts v,<-ReflectliteValue.parts x)
   | unsupported (.noEntry "extern/(internal/reflectlite.Value).Set.zeroValue")
  if fl / ReflectliteValue.flagAddr % 2 == 0 then unsupported (.noEntry "extern/(internal/reflectlite.Value).Set.unaddressable")
  let val <-loadVar src b
  if <-Rtype.directlyAssignable dst src then storeVar dst a val
  else if <-Rtype.implements dst src then
   if (<-Rtype.kind src) == 20 then
    match val with
    | .nilIface => unsupported (.noEntry "extern/reflectlite: a nil value of one interface type handed on as a value of another")
    | _=>storeVar dst a val
   else storeVar dst a (.iface src val)
  else panicString ("reflectlite.Set: value of type " ++ (← Rtype.spelt src) ++ " is not assignable to type " ++ (← Rtype.spelt dst))
  pure (.tuple #[])):=rfl
theorem Tryz.CP(a:Addr)(w:World):(ReflectliteValue.parts (.agg #[.pointer (some ⟨2,90,none⟩),.pointer (some a),.int .u64 386])).run Tryz.prog w=.ok (some (90,a,386)) w:=by kernel_rfl
theorem Tryz.Fs(a:Addr)(w:World):(ReflectliteValue.parts (.agg #[.pointer (some ⟨2,90,none⟩),.pointer (some a),.int .u64 130])).run Tryz.prog w=.ok (some (90,a,130)) w:=by kernel_rfl
theorem Tryz.DK(w:World):(Rtype.directlyAssignable 90 90).run Tryz.prog w=.ok true w:=by kernel_rfl
theorem Tryz.Vw(ta b:Addr)(e:Int)(old:Value)(W:World)(hb:W.cell? b=some (.int .i64 e))(ht:W.cell? ta=some old)(hf:W.frozen? ta=false) :
  (ReflectliteValue.set #[.agg #[.pointer (some ⟨2,90,none⟩),.pointer (some ta),.int .u64 386],.agg #[.pointer (some ⟨2,90,none⟩),.pointer (some b),.int .u64 130]]).run Tryz.prog W
   = .ok (.tuple #[]) (W.setCell ta (.int .i64 e)):=by
 rw [rls];simp only [Sem.run_bind,Tryz.CP,Tryz.Fs,Result.andThen];simp [ReflectliteValue.flagAddr,loadVar,isAgg,underlying,Tryz.underlying90,hb,Result.andThen,Tryz.DK,storeVar,Value.cells,storeCells,Addr.add];rw [run_store Tryz.prog W ta _ _ (by rfl)];simp [ht,hf]
theorem Hx(e:Int)(t:Addr)(old:Value)(w:World)(hg:w.cell? ⟨1,0,none⟩=some (.iface 236 (.agg #[.pointer (some ⟨2,40,none⟩)])))(ht0:w.cell? t=some old)(Rf:w.frozen? t=false) :
  Calls Tryz.prog 115 #[.iface 90 (.int .i64 e),.iface 177 (.pointer (some t))] w fun ev w'=>ev=.returned (.bool true)/\w'=((((w.alloc (.cells #[.pointer (some t)] 177)).alloc (.cells #[.pointer (some ⟨2,177,none⟩),.pointer (some ⟨w.heap.size,0,none⟩),.int .u64 150] 213)).alloc (.cells #[.pointer (some ⟨2,177,none⟩),.pointer (some ⟨w.heap.size,0,none⟩),.int .u64 150] 213)).alloc (.cells #[.int .i64 e] 90)).setCell t (.int .i64 e):=by
 have h6:=@run_callFunc_extern Tryz.prog 153 _ (fun args=>ReflectliteValue.unpack (args.getD 0 (.tuple #[]))) Tryz.func153 (by kernel_rfl) (by kernel_rfl) (by kernel_rfl) (by kernel_rfl)
 have h7 := @run_callFunc_extern Tryz.prog 154 _ (ReflectliteValue.methodAny (ReflectliteValue.valueError "reflectlite.Value.Type" 0) (fun t _ _ _ => ReflectliteType.toType t)) Tryz.func154 (by kernel_rfl) (by kernel_rfl) (by kernel_rfl) (by kernel_rfl)
 have h8 := @run_callFunc_extern Tryz.prog 155 _ (ReflectliteValue.method (ReflectliteValue.valueError "reflectlite.Value.IsNil" 0) ReflectliteValue.isNil) Tryz.func155 (by kernel_rfl) (by kernel_rfl) (by kernel_rfl) (by kernel_rfl)
 have h27:=@run_callFunc_extern Tryz.prog 215 _ (ReflectliteType.abiMethod fun t=>do pure (.int .u8 (<-Rtype.kind t))) Tryz.func215 (by kernel_rfl) (by kernel_rfl) (by kernel_rfl) (by kernel_rfl);have h37:=@run_callFunc_extern Tryz.prog 226 _ (ReflectliteType.method ReflectliteType.elem) Tryz.func226 (by kernel_rfl) (by kernel_rfl) (by kernel_rfl) (by kernel_rfl)
 have h38 := @run_callFunc_extern Tryz.prog 227 _ (ReflectliteType.relation "Implements" ReflectliteType.implements_) Tryz.func227 (by kernel_rfl) (by kernel_rfl) (by kernel_rfl) (by kernel_rfl)
 have h10:=@run_callFunc_extern Tryz.prog 174 _ ReflectliteType.typeOf Tryz.func174 (by kernel_rfl) (by kernel_rfl) (by kernel_rfl) (by kernel_rfl)
 have h35 := @run_callFunc_extern Tryz.prog 224 _ (ReflectliteType.relation "AssignableTo" ReflectliteType.assignableTo) Tryz.func224 (by kernel_rfl) (by kernel_rfl) (by kernel_rfl) (by kernel_rfl)
 have h11 := @run_callFunc_extern Tryz.prog 175 _ (ReflectliteValue.method (ReflectliteValue.valueError "reflectlite.Value.Elem" 0) ReflectliteValue.elem) Tryz.func175 (by kernel_rfl) (by kernel_rfl) (by kernel_rfl) (by kernel_rfl)
 have h12:=@run_callFunc_extern Tryz.prog 176 _ ReflectliteValue.set Tryz.func176 (by kernel_rfl) (by kernel_rfl) (by kernel_rfl) (by kernel_rfl);have tO:=Tryz.CJ;have mA:=Tryz.mf;have a25:=Tryz.tF;have v25:=Tryz.yh;have f6:=Tryz.yg;have f7:=Tryz.MH;have mK:=Tryz.uY;have mE:=Tryz.uZ;have mI:=Tryz.oC;have k27:=Tryz.Md;have k25:=Tryz.Me;have e27:=Tryz.Oa;have i25:=Tryz.sb;have n8:=Tryz.GF ⟨w.heap.size,0,none⟩ t ((w.alloc (.cells #[.pointer (some t)] 177)).alloc (.cells #[.pointer (some ⟨2,177,none⟩),.pointer (some ⟨w.heap.size,0,none⟩),.int .u64 150] 213)) (by simp);have hlt:1<w.heap.size:=World.block_lt_of_cell? w _ hg;have hg2:((w.alloc (.cells #[.pointer (some t)] 177)).alloc (.cells #[.pointer (some ⟨2,177,none⟩),.pointer (some ⟨w.heap.size,0,none⟩),.int .u64 150] 213)).cell? ⟨1,0,none⟩=some (.iface 236 (.agg #[.pointer (some ⟨2,40,none⟩)])):=by
  rw [World.cell?_alloc_lt _ _ ⟨1,0,none⟩ (by simp;omega),World.cell?_alloc_lt _ _ ⟨1,0,none⟩ hlt];exact hg
 have htl:t.block<w.heap.size:=by
  rcases dM t.block w.heap.size with h | h
  ·exact h
  ·simp [World.cell?,Array.getElem?_eq_none h] at ht0
 have el:=Tryz.Hq ⟨w.heap.size,0,none⟩ t (((w.alloc (.cells #[.pointer (some t)] 177)).alloc (.cells #[.pointer (some ⟨2,177,none⟩),.pointer (some ⟨w.heap.size,0,none⟩),.int .u64 150] 213)).alloc (.cells #[.pointer (some ⟨2,177,none⟩),.pointer (some ⟨w.heap.size,0,none⟩),.int .u64 150] 213)) (by rw [World.cell?_alloc_lt _ _ ⟨w.heap.size,0,none⟩ (by simp;omega)];simp);have st:=Tryz.Vw t ⟨w.heap.size+1+1+1,0,none⟩ e old ((((w.alloc (.cells #[.pointer (some t)] 177)).alloc (.cells #[.pointer (some ⟨2,177,none⟩),.pointer (some ⟨w.heap.size,0,none⟩),.int .u64 150] 213)).alloc (.cells #[.pointer (some ⟨2,177,none⟩),.pointer (some ⟨w.heap.size,0,none⟩),.int .u64 150] 213)).alloc (.cells #[.int .i64 e] 90))
  (by rw [World.cell?_alloc_at _ _ _ _ (by simp)];rfl)
  (by rw [World.cell?_alloc_lt _ _ t (by simp;omega),World.cell?_alloc_lt _ _ t (by simp;omega),World.cell?_alloc_lt _ _ t (by simp;omega),World.cell?_alloc_lt _ _ t htl];exact ht0)
  (by rw [World.frozen?_alloc_old _ _ t (by simp;omega),World.frozen?_alloc_old _ _ t (by simp;omega),World.frozen?_alloc_old _ _ t (by simp;omega),World.frozen?_alloc_old _ _ t (Nat.ne_of_lt htl)];exact Rf)
 go_enter Tryz.func115,Tryz.ntmps115
 go_wp2
 refine wp_loop_rounds 1 ?_;rw [rounds_succ]
 go_wp2
 go_ret;exact ⟨rfl,rfl⟩
def ET(w:World):Prop:=w.cell? ⟨1,0,none⟩=some (.iface 236 (.agg #[.pointer (some ⟨2,40,none⟩)]))
theorem ET.mod{w w':World}(h:ET w)(hm:Mod dZ w w'):ET w':=hm.cell h id
theorem yPl(w:World):Calls Tryz.prog 67 #[.nilIface] w fun e w'=>e=.returned (.int .i64 0)/\w'=w:=by
 go_enter Tryz.func67,Tryz.ntmps67;go_wp2_with fail;go_ret;exact ⟨rfl,rfl⟩
theorem yIj(e:Int)(w:World)(h:ET w):Calls Tryz.prog 67 #[.iface 90 (.int .i64 e)] w fun ev w'=>ev=.returned (.int .i64 e)/\Mod dZ w w':=by
 have hg1:(w.alloc (.cells #[.int .i64 0] 90)).cell? ⟨1,0,none⟩=some (.iface 236 (.agg #[.pointer (some ⟨2,40,none⟩)])):=h.mod ((Mod.refl _ w).alloc _);have HG:=dU hg1;have hlt:0<w.heap.size:=by
  rcases Nat.eq_zero_or_pos w.heap.size with h0 | h'
  ·simp [ET,World.cell?,h0] at h
  ·exact h'
 clear hg1;go_enter Tryz.func67,Tryz.ntmps67;go_wp2_with fail;refine (Hx e ⟨w.heap.size,0,none⟩ (.int .i64 0) _ HG.out (by simp) (by simp)).mono ?_;rintro ev w1 ⟨rfl,hw1⟩;have hc:w1.cell? ⟨w.heap.size,0,none⟩=some (.int .i64 e):=by
  rw [hw1];exact ((((((dh.new w [.int .i64 0] 90).mod ((Mod.refl dZ _).alloc _) id).mod ((Mod.refl dZ _).alloc _) id).mod ((Mod.refl dZ _).alloc _) id).mod ((Mod.refl dZ _).alloc _) id).set 0 _).cell 0 rfl
 have hm:Mod dZ w w1:=by
  rw [hw1];exact ((((((Mod.refl dZ w).alloc _).alloc _).alloc _).alloc _).alloc _).setCell (p:=⟨w.heap.size,0,none⟩) (fun h=>absurd h (cS _)) _
 clear hw1 HG;go_wp2_with fail;go_ret;exact ⟨rfl,hm⟩
def rP(m:Nat)(s:fv):Prop:=∀ k c,c∈(s k).held\/c∈(s k).waits->1<=c.tx/\c.tx<=(m:Int)
theorem rP.lock{m:Nat}{s:fv}(h:rP m s){name:ByteArray}(ha:mW (s name)){c:dg}(hc:1<=c.tx/\c.tx<=(m:Int)):rP m (jI s name (iI (s name) c).1):=fun k d hd=>by
 by_cases e:k=name
 ·subst e;rw [uQ] at hd;unfold iI at hd;split at hd
  ·exact h k d hd
  split at hd
  ·exact h k d hd
  split at hd
  ·rcases hd with hd | hd
   ·rcases (lp ha.held c d).1 hd with rfl | ⟨hd,_⟩
    ·exact hc
    ·exact h k d (.inl hd)
   ·exact h k d (.inr hd)
  split at hd
  ·exact h k d hd
  ·rcases hd with hd | hd
   ·exact h k d (.inl hd)
   ·rcases (lp ha.waits c d).1 hd with rfl | ⟨hd,_⟩
    ·exact hc
    ·exact h k d (.inr hd)
 ·rw [wj e] at hd;exact h k d hd
theorem rP.rel{m:Nat}{s:fv}(h:rP m s)(t:Int):rP m (gI s t):=fun k d hd=>by
 unfold gI at hd;split at hd
 ·unfold lr at hd;rcases hd with hd | hd
  ·rcases (Ap _ _ _ d).1 hd with q | q
   ·exact h k d (.inl (nZ.1 q).1)
   ·exact h k d (.inr (nZ.1 q).1)
  ·rcases (Ap _ _ _ d).2.1 hd with q | q
   ·simp at q
   ·exact h k d (.inr (nZ.1 q).1)
 ·exact h k d hd
theorem TZ:∀ (l:List dg) (a m:Int),jl l->(∀ c∈l,a<c.tx/\c.tx<=m)->a<=m->(l.length:Int)<=m - a
 | [],a,m,_,_,h=>by simp;omega
 | c :: l,a,m,he,hb,ham=>by
  have h0:=hb c (List.mem_cons_self ..);unfold jl at he;rw [List.pairwise_cons] at he;have:=TZ l c.tx m he.2 (fun d hd=>⟨he.1 d hd,(hb d (ay _ hd)).2⟩) h0.2;simp only [aW];omega
theorem rP.few{m:Nat}{s:fv}(h:rP m s)(hm:m<=60){k:ByteArray}(ha:mW (s k)):(s k).held.length+(s k).waits.length<=120:=by
 have h1:=TZ (s k).held 0 m ha.held (fun c hc=>⟨by have:=(h k c (.inl hc)).1;omega,(h k c (.inl hc)).2⟩) (by omega);have h2:=TZ (s k).waits 0 m ha.waits (fun c hc=>⟨by have:=(h k c (.inr hc)).1;omega,(h k c (.inr hc)).2⟩) (by omega);omega
theorem Qt(k:eh)(c:dg):∀ t∈(iI k c).2.2.1,∃ d∈k.held,d.tx=t:=fun t ht=>by
 unfold iI at ht;split at ht
 ·simp at ht
 split at ht
 ·simp at ht
 split at ht
 ·simp at ht
 split at ht
 ·simp at ht
 ·obtain ⟨d,hd,rfl⟩:=ag.1 ht;exact ⟨d,(al.1 hd).1,rfl⟩
theorem ET.keep{w w':World}{n g:Nat}{y y':dX}(h:ET w)(ho:xc w n g y)(hn:1<n)(hs:iD w y w' y'):ET w':=hs.md.cell h (fun e=>by have:=(ho.lt 1 e).1;omega)
theorem du.EJ{w:World}{n c g:Nat}{y:dX}{s:dW}(h:du w n c g y s)(hki:rP s.dV.length s.keys)(hl:s.dV.length<=60)(hc:c<=10000)(id:Int)(hid:1<=id/\id<=(s.dV.length:Int))(key:ByteArray)(hk:key.size<=20)(mode:Int)(hm:mode=1\/mode=2) :
  Calls Tryz.prog 66 #[.pointer (some ⟨g,5,none⟩),.int .i64 id,.string key,.int .i64 mode] w fun e w'=>∃ (ok:Bool) (u:Value) (y':dX),e=.returned (.tuple #[.bool ok,u,ie (gZ s id key mode).2.2]) /\
   du w' n (c+1) g y' (gZ s id key mode).1/\eJ w y w' y'/\yP w' y' u (gZ s id key mode).2.1:=by
 have hok:fj key:=by unfold fj maxLen;omega
 refine (yQs n 120 (y.tb g s.net.lost) s.keys id key mode w h.xB hm hk (by omega) (by have:=h.qn.2.2;show y.q.n<=1000000;omega) (aM h.low (Nat.le_of_lt h.blk.lt))).mono ?_;rintro e w' ⟨q',u,rfl,hQ⟩;have hkey:=h.tab.ok key hok;obtain ⟨hH,hS⟩:=h.Dx (c':=c+1) hQ.md hQ.tb hQ.b hQ.pre hQ.post hQ.t (by have:=hQ.n;have:=h.qn.2.2;show q'.n<=c+1;have:(y.tb g s.net.lost).n=y.q.n:=rfl;omega) hQ.own (fun k hk=>(hki.lock hkey hid).few hl (hQ.tb.ok k hk));refine ⟨_,u,_,rfl,hH,⟨hS,rfl,rfl,rfl,rfl,rfl⟩,TK hQ.fT,fun k hk=>?_⟩;obtain ⟨h1,h2,cur,h3⟩:=ft hQ.fT hk;refine ⟨?_,h2⟩;have hno:¬ q'.own k:=fun e=>by
  rcases e with e | ⟨z,i,hz,e⟩
  ·have hmm:=hQ.tb.map;unfold qH at hmm;rw [e] at hmm;obtain ⟨_,D,⟨es,clock,h4,_⟩,_⟩:=hmm;rw [h4] at h3;simp at h3
  ·obtain ⟨_,_,cur',h4⟩:=hQ.tb.old hz (fun x=>x) e;rw [h4] at h3;simp at h3
 simp only [dX.pf];rw [aE (fun e=>hno e.2)];by_cases e:y.own k=.no
 ·exact e
 ·have:=(h.own.lt k e).2;omega
theorem ySk(er:Int)(w:World)(h:ET w):Calls Tryz.prog 67 #[ie er] w fun e w'=>e=.returned (.int .i64 er)/\Mod dZ w w':=by
 by_cases he:er=0
 ·subst he;rw [oL];exact (yPl w).mono (fun e w' ⟨h1,h2⟩=>⟨h1,h2 ▸ Mod.refl _ _⟩)
 ·rw [mJ he];exact yIj er w h
structure Ic(w:World)(n c:Nat)(s:dW):Prop where
 sh:lY s
 ki:rP s.dV.length s.keys
 et:ET w
 n:1<n
 c:c<=9000
theorem gB.shape{s s':dW}(h:gB s s')(hs:lY s)(hw:∀ t∈s'.dV,t.writes.length<=20):lY s':=by
 refine ⟨by rw [h.l];exact hs.ll,by rw [h.l];exact hs.nl,by rw [h.len];exact hs.tl,fun t ht=>?_,hw⟩;obtain ⟨i,hi⟩:=aN ht;have hil:i<s'.dV.length:=(aB.1 hi).1;have e1:s'.tx (i+1)=t:=by
  have:=tk (s:=s') (id:=i+1) (by omega) (by omega);rw [bZ,hi] at this;exact (ax this).symm
 have:=h.at_ (i+1);rw [e1] at this;rw [this,h.l];exact hs.ta _ (Bm (by omega) (by rw [h.len] at hil;omega))
theorem JL(s:dW)(id:Nat)(t:jO)(h:∀ t∈s.dV,t.writes.length<=20)(ht:t.writes.length<=20):∀ x∈(dY s id t).dV,x.writes.length<=20:=fun x hx=>by
 rcases bE hx with q | q
 ·exact h x q
 ·rw [q];exact ht
theorem FM{s:dW}(h:∀ t∈s.dV,t.writes.length<=20)(id:Nat):(s.tx id).writes.length<=20:=by
 unfold dW.tx;rw [aH]
 cases hq:s.dV[id - 1]? with
 | none=>simp
 | some t=>exact h t (aC hq)
theorem zQf(s:dW)(id:Nat)(st:Int)(h:∀ t∈s.dV,t.writes.length<=20):∀ t∈(nr s id st).dV,t.writes.length<=20:=JL s id _ h (by simp)
theorem yDj(s:dW)(id:Nat)(h:∀ t∈s.dV,t.writes.length<=20):∀ t∈(gO s id).dV,t.writes.length<=20:=by
 unfold gO;refine zQf _ id 4 ?_;split
 ·exact JL s id _ h (FM h id)
 ·exact h
theorem Qu:∀ (ids:List Int) (s:dW),(∀ t∈s.dV,t.writes.length<=20)->∀ t∈(il s ids).dV,t.writes.length<=20
 | [],_,h=>h
 | i :: ids,s,h=>by
  show ∀ t∈(il (eE s i) ids).dV,_;refine Qu ids _ ?_;unfold eE;split
  ·exact yDj s _ h
  ·exact h
theorem lY.fT{s:dW}(h:lY s)(ids:List Int):lY (il s ids):=(gB.fT ids s).shape h (Qu ids s h.tw)
theorem lY.locked{s:dW}(h:lY s)(id:Int)(key:ByteArray)(mode:Int):lY (gZ s id key mode).1:=⟨h.ll,h.nl,h.tl,h.ta,h.tw⟩
theorem yBw{m:Nat}{s:dW}(h:rP m s.keys)(id:Nat):rP m (gO s id).keys:=by
 have e:(gO s id).keys=gI s.keys id:=by unfold gO nr;split <;> rfl
 rw [e];exact h.rel _
theorem Uk{m:Nat}:∀ (ids:List Int) {s:dW},rP m s.keys->rP m (il s ids).keys
 | [],_,h=>h
 | i :: ids,s,h=>by
  show rP m (il (eE s i) ids).keys;refine Uk ids ?_;unfold eE;split
  ·exact yBw h _
  ·exact h
theorem zXa(s:dW)(id:Int)(key:ByteArray)(mode:Int):(jH s id key mode).1.dV.length=s.dV.length/\(jH s id key mode).1.lines=s.lines:=by
 unfold jH;simp only;split
 ·exact ⟨(gB.fT _ (gZ s id key mode).1).len,(gB.fT _ (gZ s id key mode).1).l⟩
 ·exact ⟨rfl,rfl⟩
theorem yBs{s:dW}{id:Int}{key:ByteArray}{mode:Int}(h:rP s.dV.length s.keys)(hko:mW (s.keys key))(hid:1<=id/\id<=(s.dV.length:Int)):∀ i∈(jH s id key mode).2.1,1<=i/\i<=(s.dV.length:Int):=fun i hi=>by
 unfold jH at hi;simp only at hi;split at hi
 ·obtain ⟨d,hd,rfl⟩:=Qt _ _ i hi;have hk1:rP s.dV.length (gZ s id key mode).1.keys:=h.lock hko hid;exact Uk _ hk1 key d (.inl hd)
 ·obtain ⟨d,hd,rfl⟩:=Qt _ _ i hi;exact h key d (.inl hd)
theorem du.sZ{w:World}{n c c' g:Nat}{y:dX}{s:dW}(h:du w n c g y s)(hc:c<=c'):du w n c' g y s:={ h with qn:=⟨h.qn.1,h.qn.2.1,aM h.qn.2.2 hc⟩ }
theorem du.fresh{w w':World}{n c g:Nat}{y:dX}{s:dW}(h:du w n c g y s){u:Value}{l:List Int}(hr:jL w' w.heap.size u l):yP w' y u l:=by
 refine ⟨TK hr,fun k hk=>?_⟩;obtain ⟨h1,h2,_⟩:=ft hr hk;refine ⟨?_,h2⟩;by_cases e:y.own k=.no
 ·exact e
 ·have:=(h.own.lt k e).2;omega
theorem QD{w:World}{B b m cap k:Nat}{l:List Int}{x:Int}(h:w.ownsRow B 3 1 (.slice (some ⟨b,0,none⟩) m cap) l.length (l.map (Value.int .i64)))(hk:k<l.length):(w.setCell ⟨b,k,none⟩ (.int .i64 x)).ownsRow B 3 1 (.slice (some ⟨b,0,none⟩) m cap) (l.set k x).length ((l.set k x).map (Value.int .i64))/\(∃ u,w.cell? ⟨b,k,none⟩=some u)/\w.frozen? ⟨b,k,none⟩=false:=by
 obtain ⟨h1,h2⟩:=h;rcases h2 with ⟨e,_⟩ | ⟨b',cap',cur,e,q1,q2,q3,q4,q5,q6⟩
 ·simp at e
 ·simp only [Value.slice.injEq,bB,Addr.mk.injEq] at e;obtain ⟨⟨rfl,_,_⟩,rfl,rfl⟩:=e;have hB:dh w b cur.toList 3:=by unfold dh;rw [q2]
  have gm:=hB.set k (.int .i64 x);have hkc:k<cur.toList.length:=by rw [cG];omega
  refine ⟨⟨by simp,.inr ⟨b,cap,(cur.toList.set k (.int .i64 x)).toArray,by rw [aa],q1,?_,by rw [aa];exact q3,q4,?_,?_⟩⟩,⟨_,hB.cell k (aA hkc)⟩,hB.frozen k⟩
  ·exact gm
  ·simp;omega
  ·rw [aa,cT];rw [cT] at q6;simp only [List.map_set];rw [<-q6,List.take_set]
theorem du.came{w:World}{n c g:Nat}{y:dX}{s:dW}(h:du w n c g y s){id k b ab cap:Nat}(h1:1<=id)(h2:id<=s.dV.length)(hb:y.ja[id - 1]?=some b)(hk:k<(s.tx id).ats.length)(ni:y.jN b=.slice (some ⟨ab,0,none⟩) (s.tx id).ats.length cap) :
  ∃ y',du (w.setCell ⟨ab,k,none⟩ (.int .i64 1)) n c g y' (lZ s id k)/\eJ w y (w.setCell ⟨ab,k,none⟩ (.int .i64 1)) y':=by
 have hT:=h.tx (id - 1) b _ hb (tk h1 h2);have hrow:=hT.ats;rw [ni] at hrow;obtain ⟨r1,_,_⟩:=QD (x:=1) hrow hk;have r2:Mod (eF ab) w (w.setCell ⟨ab,k,none⟩ (.int .i64 1)):=Mod.dq ab k _;have ji:ab≠b:=fun e=>oM hrow hT.blk (by decide) (by rw [e];rfl);have hne:∀ k,(y.jf b).ownBlock=some k->k≠ab:=fun k hk e=>by
  subst e;obtain ⟨_,_,cur,hc1⟩:=ft hT.wr hk;obtain ⟨_,_,cur',hc2⟩:=ft hrow rfl;rw [hc1] at hc2;simp at hc2
 obtain ⟨jr,hS1⟩:=h.pd hb (tk h1 h2) (t':={ s.tx id with ats:=(s.tx id).ats.set k 1 }) (av:=y.jN b) (wv:=y.jf b) (r2.mono (fun x _ e=>.inr (.inl (by rw [ni];exact ae some (Eq.symm e))))) (hT.blk.mod r2 (fun e=>ji (Eq.symm e))) (by rw [ni];exact r1) (gD hT.wr r2 (fun k _ _ e q=>hne k e q)) (.inl (.inl rfl)) (.inl (.inl rfl));rw [Ir] at jr;exact ⟨_,jr,hS1,rfl,rfl,rfl,rfl,rfl⟩
theorem lY.came{s:dW}(h:lY s)(id k:Nat):lY (lZ s id k):=
 (gB.dY s id { s.tx id with ats:=(s.tx id).ats.set k 1 } (by simp)).shape h (JL s id _ h.tw (FM h.tw id))
def LH(w:World)(n c g:Nat)(y:dX)(s':dW)(er:Int)(e:Ending)(w':World):Prop:=e=.returned (ie er)/\∃ y',du w' n c g y' s'/\eJ w y w' y'
theorem yCc(n c g:Nat)(y:dX)(s:dW)(id:Nat)(key:ByteArray)(mode:Int)(w:World)(h:du w n c g y s)(hok:Ic w n c s)(h1:1<=id)(h2:id<=s.dV.length)(hk:key.size<=20)(hm:mode=1\/mode=2) :
  Calls Tryz.prog 38 #[.pointer (some ⟨g,0,none⟩),.int .i64 id,.string key,.int .i64 mode] w (LH w n (c+2) g y (gC s id key mode).1 (gC s id key mode).2):=by
 have htl:=hok.sh.tl;have hcc:=hok.c;have Cc:fj key:=by unfold fj maxLen;omega
 have Kz:=dU (h.EJ hok.ki htl (by omega) id ⟨by omega,by omega⟩ key hk mode hm);have hmk:=Ip;have oZ:=dU hok;have HO:=dU h.own;have LA:=dU (h.tab.ok key Cc);clear h hok;go_enter Tryz.func38,Tryz.ntmps38;go_upto_region 1 with fail;go_wp2_with fail;refine Kz.out.mono ?_;rintro e w1 ⟨ok,u,y1,rfl,jr,pP,YM⟩;have Ye:ET w1:=oZ.out.et.keep HO.out oZ.out.n pP.st;obtain ⟨ua,uc,CY,_,_⟩:=gG.slice YM.1;subst CY;have vM:=dU (ySk (gZ s id key mode).2.2 w1 Ye);have HY:Hid (∀ wq,Mod dZ w1 wq->Calls Tryz.prog 51 #[.pointer (some ⟨g,0,none⟩),.int .i64 id,.string key] wq fun e w'=>e=.returned (.bool (oe (gZ s id key mode).1 id key))/\Mod dZ wq w'):=fun wq hq=>yAd n (c+1) g y1 _ id key wq (jr.quiet hq) htl Cc;have sM:=dU jr;have Aa:=dU pP;have ZL:=dU YM;have HE1:=dU Ye;have Zx:Hid (gZ s id key mode=((gZ s id key mode).1,(gZ s id key mode).2.1,(gZ s id key mode).2.2)):=rfl;obtain ⟨s1,hs1⟩:∃ x,x=(gZ s id key mode).1:=⟨_,rfl⟩;obtain ⟨VZ,CX⟩:∃ x,x=(gZ s id key mode).2.1:=⟨_,rfl⟩;obtain ⟨wH,Co⟩:∃ x,x=(gZ s id key mode).2.2:=⟨_,rfl⟩;have Pw:Hid (jH s id key mode=if wH=4/\oe s1 id key=true then gZ (il s1 (oK s1 id key)) id key mode else (s1,VZ,wH)):=by rw [hs1,CX,Co];rfl
 have ry:Hid (lY s1/\rP s1.dV.length s1.keys/\s1.dV.length=s.dV.length):=by
  rw [hs1];exact ⟨oZ.out.sh.locked _ _ _,oZ.out.ki.lock LA.out ⟨by show (1:Int)<=(id:Int);omega,by show (id:Int)<=_;omega⟩,rfl⟩
 rw [<-hs1] at HY sM;rw [<-CX] at ZL;rw [<-Co] at vM;rw [<-Co,<-CX];clear jr pP YM Ye Kz Zx hs1 CX Co;go_upto_region 2 with fail;go_cut [31] (fun t wc=>t=.bool (decide (wH=4) && oe s1 id key)/\Mod dZ w1 wc)
 case first=>
  by_cases he:wH=4
  ·have Gu:(wH == 4)=true:=by simpa using he
   have HD:Hid (decide (wH=4)=true):=aQ he;clear he
   cases hy:oe s1 id key
   all_goals
    rw [hy] at HY;go_wp2_with (first
     | (go_at_call 67;refine vM.out.mono ?_;rintro e w2 ⟨rfl,hm2⟩)
     | (go_at_call 51;refine (HY.out _ hm2).mono ?_;rintro e w3 ⟨rfl,dz⟩)
     | fail)
    go_meet
    case rel=>exact ⟨by rw [HD.out,hy];rfl,hm2.trans dz⟩
  ·have Gu:(wH == 4)=false:=by simpa using he
   have HD:Hid (decide (wH=4)=false):=aP he;clear he;go_wp2_with (first
    | (go_at_call 67;refine vM.out.mono ?_;rintro e w2 ⟨rfl,hm2⟩)
    | fail)
   go_meet
   case rel=>exact ⟨by rw [HD.out];rfl,hm2⟩
 case rest=>
  obtain ⟨rfl,mu⟩:=hcut;have Ew:=dU (sM.out.quiet mu);have Zn:=dU (Aa.out.trans (eJ.quiet mu));have HUC:=dU (ZL.out.keep (iD.quiet mu));obtain ⟨wd,hwd⟩:∃ x,x=wc:=⟨_,rfl⟩;subst hwd;clear mu vM HY sM Aa ZL;go_upto_if 31 with fail;go_cut [10,11] (fun v e wc=>e=ie (jH s id key mode).2.2/\∃ yc,du wc n (c+2) g yc (jH s id key mode).1/\eJ w y wc yc/\yP wc yc v (jH s id key mode).2.1)
  case first=>
   by_cases hb:wH=4/\oe s1 id key=true
   ·have hbb:(decide (wH=4) && oe s1 id key)=true:=by rw [hb.1,hb.2];rfl
    rw [hbb];have Pv:Hid (jH s id key mode=gZ (il s1 (oK s1 id key)) id key mode):=by unfold Hid;rw [Pw.out,aJ hb]
    have PV:=dU (zWv n (c+1) g y1 s1 id key wd Ew.out (by rw [ry.out.2.2];exact htl) Cc);clear hb hbb Pw;go_wp2_with fail;refine PV.out.mono ?_;rintro e w3 ⟨u3,rfl,hu3,dz⟩;have hh3:=Ew.out.quiet dz;have hlen:(oK s1 id key).length<=60:=aM (UZ s1 id key s1.dV.length) (by rw [ry.out.2.2];exact htl);have wI:=dU (yAh n (c+1) g y1 s1 u3 (oK s1 id key) w3 hh3 ry.out.1 (by omega) (Ew.out.fresh hu3) (fun i hi=>Qq hi));obtain ⟨ua3,uc3,Wh⟩:=fJ hu3;subst Wh;have tV:=dU (Zn.out.trans (eJ.quiet dz));clear hu3 dz hh3 PV;go_wp2_with fail;refine wI.out.mono ?_;rintro e w4 ⟨rfl,y4,pQ,hK4⟩;have hsame:=gB.fT (oK s1 id key) s1;have Pb:=dU (pQ.EJ (by rw [hsame.len];exact Uk _ ry.out.2.1) (by rw [hsame.len,ry.out.2.2];exact htl) (by omega) id (by rw [hsame.len,ry.out.2.2];omega) key hk mode hm);have AZ:=dU (tV.out.trans hK4);clear pQ hK4 hsame wI tV;go_wp2_with fail;refine Pb.out.mono ?_;rintro e w5 ⟨ok5,u5,y5,rfl,kt,ox,hU5⟩;have HF:Hid (du w5 n (c+2) g y5 (jH s id key mode).1/\eJ w y w5 y5/\yP w5 y5 u5 (jH s id key mode).2.1):=by
     unfold Hid;rw [Pv.out];exact ⟨kt,AZ.out.trans ox,hU5⟩
    have Zy:Hid (ie (gZ (il s1 (oK s1 id key)) id key mode).2.2=ie (jH s id key mode).2.2):=by unfold Hid;rw [Pv.out]
    clear kt ox hU5 Pb AZ;go_wp2_with fail;go_meet
    case rel=>exact ⟨Zy.out,y5,HF.out.1,HF.out.2.1,HF.out.2.2⟩
   ·have hbb:(decide (wH=4) && oe s1 id key)=false:=by
     cases hy:oe s1 id key with
     | false=>simp
     | true=>rw [aP (fun q=>hb ⟨q,hy⟩)];rfl
    rw [hbb];have Pv:Hid (jH s id key mode=(s1,VZ,wH)):=by unfold Hid;rw [Pw.out,aE hb]
    have HF:Hid (du wd n (c+2) g y1 (jH s id key mode).1/\eJ w y wd y1/\yP wd y1 (.slice ua VZ.length uc) (jH s id key mode).2.1):=by
     unfold Hid;rw [Pv.out];exact ⟨Ew.out.sZ (by omega),Zn.out,HUC.out⟩
    have Zy:Hid (ie wH=ie (jH s id key mode).2.2):=by unfold Hid;rw [Pv.out]
    clear hb hbb;go_wp2_with fail;go_meet
    case rel=>exact ⟨Zy.out,y1,HF.out.1,HF.out.2.1,HF.out.2.2⟩
  case rest=>
   obtain ⟨rfl,yc,Rr,yK,OE⟩:=hcut;have sl:=zXa s id key mode;have AL:=dU (yBs (mode:=mode) oZ.out.ki LA.out ⟨by show (1:Int)<=(id:Int);omega,by show (id:Int)<=_;omega⟩);have wJ:Hid (lY (jH s id key mode).1):=by
    unfold Hid;rw [Pw.out];split
    ·exact (ry.out.1.fT _).locked _ _ _
    ·exact ry.out.1
   have HL:Hid (gC s id key mode=if (jH s id key mode).2.2=9 then ((jH s id key mode).1,11) else if (jH s id key mode).2.2=4 then ((jH s id key mode).1,4) else
     (il (lZ (jH s id key mode).1 id (ee (jH s id key mode).1 key)) (jH s id key mode).2.1,if iM ((il (lZ (jH s id key mode).1 id (ee (jH s id key mode).1 key)) (jH s id key mode).2.1).keys key).held id<mode then 11 else 0)):=rfl
   have hEc:ET wc:=oZ.out.et.keep HO.out oZ.out.n yK.st;clear Pw ry Ew Zn HUC HE1;generalize jH s id key mode=A at Rr OE sl AL wJ HL;obtain ⟨sA,wsA,Hp⟩:=A;dsimp only at Rr OE sl AL wJ HL;have vM:=dU (ySk Hp wc hEc);have HHc:=dU Rr;have HKc:=dU yK;have HUc:=dU OE;obtain ⟨va,vc,lI,_,hvc⟩:=gG.slice OE.1;subst lI;clear Rr yK OE hEc;go_upto_region 5 with fail;go_wp2_with fail;refine vM.out.mono ?_;rintro e w2 ⟨rfl,hm2⟩;have lU:=dU (HHc.out.quiet hm2);have wK:=dU (HKc.out.trans (eJ.quiet hm2));have ZK:=dU (HUc.out.keep (iD.quiet hm2));clear hm2 vM HHc HKc HUc;by_cases e9:Hp=9
   ·have b9:(Hp == 9)=true:=by simpa using e9
    have HF:Hid (LH w n (c+2) g y (gC s id key mode).1 (gC s id key mode).2 (.returned (.iface 90 (.int .i64 11))) w2):=by
     unfold Hid;rw [HL.out,aJ e9];exact ⟨by rw [mJ (by omega)],yc,lU.out,wK.out⟩
    clear e9;go_wp2_with fail;go_ret;exact HF.out
   ·have b9:(Hp == 9)=false:=by simpa using e9
    by_cases e4:Hp=4
    ·have b4:(Hp == 4)=true:=by simpa using e4
     have HF:Hid (LH w n (c+2) g y (gC s id key mode).1 (gC s id key mode).2 (.returned (.iface 90 (.int .i64 4))) w2):=by
      unfold Hid;rw [HL.out,aE e9,aJ e4];exact ⟨by rw [mJ (by omega)],yc,lU.out,wK.out⟩
     clear e9 e4;go_wp2_with fail;go_ret;exact HF.out
    ·have b4:(Hp == 4)=false:=by simpa using e4
     have hle:id<=sA.dV.length:=by rw [sl.1];exact h2
     obtain ⟨b,hb,hT⟩:=lU.out.xA (id:=id) h1 hle;have nU:=dU (xw n (c+2) g yc sA id b w2.drew (lU.out.quiet ((Mod.refl dZ w2).drew)) h1 (by omega) hb);have Kt:=dU (Tu n (c+2) g yc sA key w2.drew (lU.out.quiet ((Mod.refl dZ w2).drew)) wJ.out (by omega));have px:(sA.tx id).ats.length=sA.lines.length:=wJ.out.ta _ (Bm h1 hle);have hll:=wJ.out.ll;have hsk:ee sA key<(sA.tx id).ats.length:=by
      have:ee sA key<dk sA:=dF _ (by unfold dk;omega);unfold dk at this;omega
     obtain ⟨ab,qo,ni⟩:∃ ab qo,yc.jN b=.slice (some ⟨ab,0,none⟩) (sA.tx id).ats.length qo:=by
      rcases hT.ats.2 with ⟨e,h0⟩ | ⟨g',cap',cur,e,_⟩
      ·omega
      ·exact ⟨g',cap',e⟩
     have t1:=hT.blk.cell 1 rfl;have hrow:=hT.ats;rw [ni] at t1 hrow;obtain ⟨_,⟨u0,a0⟩,f0⟩:=QD (x:=1) hrow hsk;have DV:=dU (lU.out.came h1 hle hb hsk ni);have HSC:=dU (wJ.out.came id (ee sA key));obtain ⟨kk,hkk⟩:∃ x,x=ee sA key:=⟨_,rfl⟩;rw [<-hkk] at Kt DV hsk a0 f0 HL HSC;have wA:(kk:Int)<((sA.tx id).ats.length:Int):=by omega
     have qT:(0:Int)<=(kk:Int):=by omega
     have zb:=hT.blk.lt;clear hT hb ni hrow e9 e4 hkk px;go_upto_region 10 with fail;refine wp_region_still_tail 10 (by kernel_rfl) (by kernel_rfl) ?_;simp only [aq,bg,bR,bx]
     repeat still_step
     still_call nU.out
     repeat still_step
     still_call Kt.out
     repeat still_step
     refine wpStill_nil ?_;go_upto_region 11 with fail;obtain ⟨y3,rp,hK3⟩:=DV.out;obtain ⟨w3,hw3⟩:∃ x,x=(w2.setCell ⟨ab,kk,none⟩ (.int .i64 1)).drew:=⟨_,rfl⟩;have dz:Mod dZ (w2.setCell ⟨ab,kk,none⟩ (.int .i64 1)) w3:=by rw [hw3];exact (Mod.refl dZ _).drew
     rw [<-hw3];have OR:=rp.quiet dz;have He:=hK3.trans (eJ.quiet dz);have hU3:=ZK.out.keep He.st;have hlc:(lZ sA id kk).dV.length=s.dV.length:=(kT _ _ _).trans sl.1;have wI:=dU (yAh n (c+2) g y3 (lZ sA id kk) _ wsA w3 OR HSC.out (by omega) hU3 (fun i hi=>by rw [hlc];exact AL.out i hi));have tV:=dU (wK.out.trans He);clear hw3 dz rp hK3 OR He hU3 DV nU Kt a0 f0 t1;go_wp2_with fail;refine wI.out.mono ?_;rintro e w4 ⟨rfl,y4,pQ,hK4⟩;have IT:=dU (pQ.holds id key Cc);have Sj:=dU pQ;have AZ:=dU (tV.out.trans hK4);clear pQ hK4 wI tV;generalize hS:il (lZ sA id kk) wsA=sF at IT Sj HL;go_upto_region 12 with fail;go_wp2_with fail;refine IT.out.mono ?_;rintro e w5 ⟨rfl,eu⟩;have LC:=dU (Sj.out.quiet eu);have Ev:=dU (AZ.out.trans (eJ.quiet eu));by_cases hlo:iM (sF.keys key).held id<mode
     ·have hlb:decide (iM (sF.keys key).held id<mode)=true:=aQ hlo;have HF:Hid (LH w n (c+2) g y (gC s id key mode).1 (gC s id key mode).2 (.returned (.iface 90 (.int .i64 11))) w5):=by
       unfold Hid;rw [HL.out,aE (by simpa using b9),aE (by simpa using b4),aJ hlo];exact ⟨by rw [mJ (by omega)],y4,LC.out,Ev.out⟩
      clear hlo;go_wp2_with fail;go_ret;exact HF.out
     ·have hlb:decide (iM (sF.keys key).held id<mode)=false:=aP hlo;have HF:Hid (LH w n (c+2) g y (gC s id key mode).1 (gC s id key mode).2 (.returned .nilIface) w5):=by
       unfold Hid;rw [HL.out,aE (by simpa using b9),aE (by simpa using b4),aE hlo];exact ⟨by rw [oL],y4,LC.out,Ev.out⟩
      clear hlo;go_wp2_with fail;go_ret;exact HF.out
theorem yRb{w:World}{n c g:Nat}{y:dX}{s:dW}(h:du w n c g y s){k b d:Nat}(hk:k<s.lines.length)(hb:y.gH[k]?=some b)(hd:(y.fU b)[0]?=some d):td s k=if fs s (y.st s d) then some (y.st s d) else none:=by
 have hm:=h.uU hb (mL hk);unfold td
 cases hn:y.fU b with
 | nil=>rw [hn] at hd;simp at hd
 | cons a l=>
  rw [hn] at hd hm;simp at hd;subst hd;rw [<-hm];rfl
theorem du.Nu{w:World}{n c g:Nat}{y:dX}{s:dW}(h:du w n c g y s)(hs:lY s){k:Nat}(hk:k<s.lines.length):∃ b d,y.gH[k]?=some b/\(y.fU b)[0]?=some d:=by
 obtain ⟨b,hb,hL⟩:=h.nI hk;have:=(hs.nl _ (Im hk)).1;have:=hL.len;exact ⟨b,_,hb,aA (by omega)⟩
theorem yPp{s:dW}(hs:lY s)(key:ByteArray):ee s key<s.lines.length:=by
 have hll:=hs.ll;have:ee s key<dk s:=dF _ (by unfold dk;omega);unfold dk at this;omega
def Py(y:dX)(s:dW)(id:Int)(key:ByteArray)(e:Ending):Prop:=
 (nA s id key≠0/\e=.returned (.tuple #[.pointer none,ie (nA s id key)])) \/
 (nA s id key=0/\∃ b d,y.gH[ee s key]?=some b/\(y.fU b)[0]?=some d/\fs s (y.st s d)=true/\e=.returned (.tuple #[.pointer (some ⟨d,0,none⟩),.nilIface]))
theorem yHn(n c g:Nat)(y:dX)(s:dW)(id:Int)(key:ByteArray)(w:World)(h:du w n c g y s)(hs:lY s)(hk:fj key) :
  Calls Tryz.prog 37 #[.pointer (some ⟨g,0,none⟩),.int .i64 id,.string key] w fun e w'=>Py y s id key e/\Mod dZ w w':=by
 have pT:=dU (Tc n c g y s id w h hs.tl);have hmk:=Ip;unfold fj maxLen at hk;by_cases ho:nX s id=0
 ·rw [ho,oL] at pT;by_cases hl:20<key.size
  ·have hlb:decide ((key.size:Int) > 20)=true:=aQ (by omega);have HC:Hid (nA s id key=4):=by unfold Hid nA;rw [aE (fun q=>q ho),aJ hl]
   clear h ho hl;go_enter Tryz.func37,Tryz.ntmps37;go_wp2_with (first
    | (go_at_call 35;refine pT.out.mono ?_;rintro e w1 ⟨rfl,rfl⟩)
    | fail)
   go_ret2;exact ⟨.inl ⟨by rw [HC.out];omega,by rw [HC.out,mJ (by omega)];rfl⟩,Mod.refl _ _⟩
  ·have hlb:decide ((key.size:Int) > 20)=false:=aP (by omega);have hsl:=yPp hs key;obtain ⟨b,d,hb,hd⟩:=h.Nu hs hsl;have Kt:=dU (Tu n c g y s key w h hs (by omega));have Ac:=dU (yCd n c g y s (ee s key) b d w h hsl hb hd);have vP:=dU (yRb h hsl hb hd);have HB:=dU hb;have HD:=dU hd;have Sn:Hid (nA s id key=if (td s (ee s key)).isNone then 12 else 0):=by unfold Hid nA;rw [aE (fun q=>q ho),aE hl]
   clear h ho hl hb hd
   cases hlv:fs s (y.st s d) with
   | false=>
    rw [hlv] at Ac vP;have HC:Hid (nA s id key=12):=by unfold Hid;rw [Sn.out,vP.out];rfl
    clear Sn vP;go_enter Tryz.func37,Tryz.ntmps37;go_wp2_with (first
     | (go_at_call 35;refine pT.out.mono ?_;rintro e w1 ⟨rfl,rfl⟩)
     | (go_at_call 65;refine Kt.out.mono ?_;rintro e w2 ⟨rfl,rfl⟩)
     | (go_at_call 64;refine Ac.out.mono ?_;rintro e w3 ⟨rfl,dz⟩)
     | fail)
    go_ret2;exact ⟨.inl ⟨by rw [HC.out];omega,by rw [HC.out,mJ (by omega)];rfl⟩,dz⟩
   | true=>
    rw [hlv] at Ac vP;have HC:Hid (nA s id key=0):=by unfold Hid;rw [Sn.out,vP.out];rfl
    clear Sn vP;go_enter Tryz.func37,Tryz.ntmps37;go_wp2_with (first
     | (go_at_call 35;refine pT.out.mono ?_;rintro e w1 ⟨rfl,rfl⟩)
     | (go_at_call 65;refine Kt.out.mono ?_;rintro e w2 ⟨rfl,rfl⟩)
     | (go_at_call 64;refine Ac.out.mono ?_;rintro e w3 ⟨rfl,dz⟩)
     | fail)
    go_ret2;exact ⟨.inr ⟨HC.out,b,d,HB.out,HD.out,hlv,rfl⟩,dz⟩
 ·rw [mJ ho] at pT;have HC:Hid (nA s id key=nX s id):=by unfold Hid nA;rw [aJ ho]
  have HO:=dU ho;clear h ho;go_enter Tryz.func37,Tryz.ntmps37;go_wp2_with (first
   | (go_at_call 35;refine pT.out.mono ?_;rintro e w1 ⟨rfl,rfl⟩)
   | fail)
  go_ret2;exact ⟨.inl ⟨by rw [HC.out];exact HO.out,by rw [HC.out,mJ HO.out];rfl⟩,Mod.refl _ _⟩
end Go.Proofs.YtmaiggbnceejiaaGreatDoor
