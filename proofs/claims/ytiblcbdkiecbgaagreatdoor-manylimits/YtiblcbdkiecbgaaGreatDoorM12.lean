import Derived.Test.YtiblcbdkiecbgaaGreatDoorM11
import Derived.StillTailTactics
set_option linter.unusedVariables false
set_option maxRecDepth 100000
set_option maxHeartbeats 16000000
namespace Go.Proofs.YtiblcbdkiecbgaaGreatDoor
open Go.RowKit Go.Extern.Stop Go.Stop Go.Extern
theorem as_hit(e:Int)(t:Addr)(old:Value)(w:World)(hg:w.cell? ⟨0,0,none⟩=some (.iface 135 (.agg #[.pointer (some ⟨7,24,none⟩)])))(ht0:w.cell? t=some old)(hf0:w.frozen? t=false) :
  Calls Tryz.prog 21 #[.iface 30 (.int .i64 e),.iface 64 (.pointer (some t))] w fun ev w'=>ev=.returned (.bool true)/\w'=((((w.alloc (.cells #[.pointer (some t)] 64)).alloc (.cells #[.pointer (some ⟨7,64,none⟩),.pointer (some ⟨w.heap.size,0,none⟩),.int .u64 150] 100)).alloc (.cells #[.pointer (some ⟨7,64,none⟩),.pointer (some ⟨w.heap.size,0,none⟩),.int .u64 150] 100)).alloc (.cells #[.int .i64 e] 30)).setCell t (.int .i64 e):=by
 have h6:=@run_callFunc_extern Tryz.prog 65 _ (fun args=>ReflectliteValue.unpack (args.getD 0 (.tuple #[]))) Tryz.func65 (by kernel_rfl) (by kernel_rfl) (by kernel_rfl) (by kernel_rfl)
 have h7 := @run_callFunc_extern Tryz.prog 66 _ (ReflectliteValue.methodAny (ReflectliteValue.valueError "reflectlite.Value.Type" 0) (fun t _ _ _ => ReflectliteType.toType t)) Tryz.func66 (by kernel_rfl) (by kernel_rfl) (by kernel_rfl) (by kernel_rfl)
 have h8 := @run_callFunc_extern Tryz.prog 67 _ (ReflectliteValue.method (ReflectliteValue.valueError "reflectlite.Value.IsNil" 0) ReflectliteValue.isNil) Tryz.func67 (by kernel_rfl) (by kernel_rfl) (by kernel_rfl) (by kernel_rfl)
 have h27:=@run_callFunc_extern Tryz.prog 314 _ (ReflectliteType.abiMethod fun t=>do pure (.int .u8 (<-Rtype.kind t))) Tryz.func314 (by kernel_rfl) (by kernel_rfl) (by kernel_rfl) (by kernel_rfl)
 have h37:=@run_callFunc_extern Tryz.prog 325 _ (ReflectliteType.method ReflectliteType.elem) Tryz.func325 (by kernel_rfl) (by kernel_rfl) (by kernel_rfl) (by kernel_rfl)
 have h38 := @run_callFunc_extern Tryz.prog 326 _ (ReflectliteType.relation "Implements" ReflectliteType.implements_) Tryz.func326 (by kernel_rfl) (by kernel_rfl) (by kernel_rfl) (by kernel_rfl)
 have h10:=@run_callFunc_extern Tryz.prog 102 _ ReflectliteType.typeOf Tryz.func102 (by kernel_rfl) (by kernel_rfl) (by kernel_rfl) (by kernel_rfl)
 have h35 := @run_callFunc_extern Tryz.prog 323 _ (ReflectliteType.relation "AssignableTo" ReflectliteType.assignableTo) Tryz.func323 (by kernel_rfl) (by kernel_rfl) (by kernel_rfl) (by kernel_rfl)
 have h11 := @run_callFunc_extern Tryz.prog 103 _ (ReflectliteValue.method (ReflectliteValue.valueError "reflectlite.Value.Elem" 0) ReflectliteValue.elem) Tryz.func103 (by kernel_rfl) (by kernel_rfl) (by kernel_rfl) (by kernel_rfl)
 have h12:=@run_callFunc_extern Tryz.prog 104 _ ReflectliteValue.set Tryz.func104 (by kernel_rfl) (by kernel_rfl) (by kernel_rfl) (by kernel_rfl)
 have tO:=Tryz.typeOfE
 have mA:=Tryz.methodAssignableTo
 have a25:=Tryz.assignableE
 have v25:=Tryz.valueOfE
 have f6:=Tryz.valueOfP
 have f7:=Tryz.typeP
 have mK:=Tryz.methodKind
 have mE:=Tryz.methodElem
 have mI:=Tryz.methodImplements
 have k27:=Tryz.kindP
 have k25:=Tryz.kindE
 have e27:=Tryz.elemP
 have i25:=Tryz.implementsE
 have n8:=Tryz.isNilP ⟨w.heap.size,0,none⟩ t ((w.alloc (.cells #[.pointer (some t)] 64)).alloc (.cells #[.pointer (some ⟨7,64,none⟩),.pointer (some ⟨w.heap.size,0,none⟩),.int .u64 150] 100)) (by simp)
 have hlt:0<w.heap.size:=World.block_lt_of_cell? w _ hg
 have hg2:((w.alloc (.cells #[.pointer (some t)] 64)).alloc (.cells #[.pointer (some ⟨7,64,none⟩),.pointer (some ⟨w.heap.size,0,none⟩),.int .u64 150] 100)).cell? ⟨0,0,none⟩=some (.iface 135 (.agg #[.pointer (some ⟨7,24,none⟩)])):=by
  rw [World.cell?_alloc_lt _ _ ⟨0,0,none⟩ (by simp <;> omega),World.cell?_alloc_lt _ _ ⟨0,0,none⟩ hlt];exact hg
 have htl:t.block<w.heap.size:=by
  rcases Nat.lt_or_ge t.block w.heap.size with h | h
  ·exact h
  ·simp [World.cell?,Array.getElem?_eq_none h] at ht0
 have el:=Tryz.elemVP ⟨w.heap.size,0,none⟩ t (((w.alloc (.cells #[.pointer (some t)] 64)).alloc (.cells #[.pointer (some ⟨7,64,none⟩),.pointer (some ⟨w.heap.size,0,none⟩),.int .u64 150] 100)).alloc (.cells #[.pointer (some ⟨7,64,none⟩),.pointer (some ⟨w.heap.size,0,none⟩),.int .u64 150] 100)) (by rw [World.cell?_alloc_lt _ _ ⟨w.heap.size,0,none⟩ (by simp;omega)];simp)
 have st:=Tryz.setE t ⟨w.heap.size+1+1+1,0,none⟩ e old ((((w.alloc (.cells #[.pointer (some t)] 64)).alloc (.cells #[.pointer (some ⟨7,64,none⟩),.pointer (some ⟨w.heap.size,0,none⟩),.int .u64 150] 100)).alloc (.cells #[.pointer (some ⟨7,64,none⟩),.pointer (some ⟨w.heap.size,0,none⟩),.int .u64 150] 100)).alloc (.cells #[.int .i64 e] 30))
  (by rw [World.cell?_alloc_at _ _ _ _ (by simp)];rfl)
  (by rw [World.cell?_alloc_lt _ _ t (by simp;omega),World.cell?_alloc_lt _ _ t (by simp;omega),World.cell?_alloc_lt _ _ t (by simp;omega),World.cell?_alloc_lt _ _ t htl];exact ht0)
  (by rw [World.frozen?_alloc_old _ _ t (by simp;omega),World.frozen?_alloc_old _ _ t (by simp;omega),World.frozen?_alloc_old _ _ t (by simp;omega),World.frozen?_alloc_old _ _ t (Nat.ne_of_lt htl)];exact hf0)
 go_enter Tryz.func21,Tryz.ntmps21
 go_wp2
 refine wp_loop_rounds 1 ?_
 rw [rounds_succ]
 go_wp2
 go_ret
 exact ⟨rfl,rfl⟩
def ET(w:World):Prop:=w.cell? ⟨0,0,none⟩=some (.iface 135 (.agg #[.pointer (some ⟨7,24,none⟩)]))
theorem ET.mod{w w':World}(h:ET w)(hm:Mod noBlock w w'):ET w':=hm.cell h id
theorem tell_errno(e:Int)(w:World)(h:ET w):Calls Tryz.prog 8 #[.iface 30 (.int .i64 e)] w fun ev w'=>ev=.returned (.int .i64 e)/\Mod noBlock w w':=by
 have hg1:(w.alloc (.cells #[.int .i64 0] 30)).cell? ⟨0,0,none⟩=some (.iface 135 (.agg #[.pointer (some ⟨7,24,none⟩)])):=h.mod ((Mod.refl _ w).alloc _)
 have HG:=Hmq hg1
 have hlt:0<w.heap.size:=by
  rcases Nat.eq_zero_or_pos w.heap.size with h0 | h'
  ·simp [ET,World.cell?,h0] at h
  ·exact h'
 clear hg1
 go_enter Tryz.func8,Tryz.ntmps8
 go_wp2_with fail
 refine (as_hit e ⟨w.heap.size,0,none⟩ (.int .i64 0) _ HG.out (by simp) (by simp)).mono ?_
 rintro ev w1 ⟨rfl,hw1⟩
 have hc:w1.cell? ⟨w.heap.size,0,none⟩=some (.int .i64 e):=by
  rw [hw1]
  exact ((((((Blk.new w [.int .i64 0] 30).mod ((Mod.refl noBlock _).alloc _) id).mod ((Mod.refl noBlock _).alloc _) id).mod ((Mod.refl noBlock _).alloc _) id).mod ((Mod.refl noBlock _).alloc _) id).set 0 _).cell 0 rfl
 have hm:Mod noBlock w w1:=by
  rw [hw1]
  exact ((((((Mod.refl noBlock w).alloc _).alloc _).alloc _).alloc _).alloc _).setCell (p:=⟨w.heap.size,0,none⟩) (fun h=>absurd h (Nat.lt_irrefl _)) _
 clear hw1 HG
 go_wp2_with fail
 go_ret
 exact ⟨rfl,hm⟩
end Go.Proofs.YtiblcbdkiecbgaaGreatDoor
namespace Go.Proofs.YtiblcbdkiecbgaaGreatDoor
open Go.RowKit Go.Lib Go.Maps
end Go.Proofs.YtiblcbdkiecbgaaGreatDoor
