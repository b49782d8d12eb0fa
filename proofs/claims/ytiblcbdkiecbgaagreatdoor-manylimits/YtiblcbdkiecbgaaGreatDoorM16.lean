import Derived.Test.YtiblcbdkiecbgaaGreatDoorM15
import Derived.Test.YtiblcbdkiecbgaaGreatDoorM02
import Derived.Test.YtiblcbdkiecbgaaGreatDoorM12
import Derived.Laws.EntriesVeiled
import Derived.WalkSmall
import Derived.Test.YtiblcbdkiecbgaaGreatDoorM13
import Derived.StillTailTactics
set_option linter.unusedVariables false
set_option maxRecDepth 100000
set_option maxHeartbeats 16000000
namespace Go.Proofs.YtiblcbdkiecbgaaGreatDoor
open Go.RowKit Go.Lib Go.Maps
structure VD(w:World):Prop where
 sz:7<=w.heap.size
 ml:∃ m,w.cell? ⟨1,0,none⟩=some (.int .i64 m)
 tab : Lib.TabIs Tryz.prog w "internal/strconv.uint64pow10" .u64 Lib.pow10Tab
 et:ET w
theorem pow10_at : Tryz.prog.globalNamed "internal/strconv.uint64pow10" = some 2 := by kernel_rfl
theorem VD.mod{G:Nat->Prop}{w w':World}(h:VD w)(hm:Mod G w w')(hG:∀ k,k<7->¬ G k):VD w':=by
 have hs:=h.sz
 refine ⟨Nat.le_trans h.sz hm.size,?_,?_,hm.cell h.et (hG _ (by decide))⟩
 ·obtain ⟨m,q⟩:=h.ml;exact ⟨m,hm.cell q (hG _ (by decide))⟩
 ·have q:=h.tab
  unfold Lib.TabIs World.var? at q ⊢
  rw [pow10_at] at q ⊢
  simp only [Option.bind_some] at q ⊢
  rw [hm.block 2 (by omega) (hG _ (by decide))]
  exact q
theorem VD.quiet{w w':World}(h:VD w)(hm:Mod noBlock w w'):VD w':=h.mod hm (fun _ _=>id)
theorem Mod.since0{w w':World}(h:Below w.heap.size w w'):Mod noBlock w w':=⟨h.os,h.tape,h.output,h.size,fun k hk _=>h.block k hk⟩
theorem Mod.grow0{w:World}(os:Array Obj):Mod noBlock w (Go.Sort.grow w os):=by
 refine ⟨rfl,rfl,rfl,by simp [Go.Sort.grow],fun k hk _=>?_⟩
 simp only [Go.Sort.grow]
 rw [Array.getElem?_append_left hk]
theorem Mod.bytes0{w:World}(e:TypeId)(s:ByteArray):Mod noBlock w (Lib.bytesWorld w e s):=by
 have h1:Mod noBlock w (w.drew.alloc (.cells (Lib.bytesCells w e s) e)):=((Mod.refl noBlock w).drew).alloc _
 refine ⟨h1.os,h1.tape,h1.output,?_,fun k hk hn=>?_⟩
 ·refine Nat.le_trans h1.size ?_
  unfold Lib.bytesWorld World.freeze
  split
  ·exact Nat.le_refl _
  ·simp
 ·refine Eq.trans ?_ (h1.block k hk hn)
  unfold Lib.bytesWorld World.freeze
  split
  ·rfl
  ·simp only [Array.getElem?_modify]
   rw [if_neg (by omega)]
def strB(l:List UInt8):ByteArray:=⟨l.toArray⟩
theorem itoa_any(n:Int)(hn:int64 n)(w:World)(h:VD w):Calls Tryz.prog 40 #[.int .i64 n] w fun e w'=>e=.returned (.string (strB (Lib.itoa n)))/\Mod noBlock w w':=by
 refine (Tryz.strconv_Itoa n hn.1 hn.2 w h.tab).mono ?_
 rintro e w' ⟨rfl,k,os,rfl⟩
 exact ⟨rfl,((Mod.refl noBlock w).drewN k).trans (Mod.grow0 os)⟩
theorem parse_lim{l:List UInt8}{v:Int}(h:Lib.atoiAll l=.ok v):int64 v:=by
 unfold Lib.atoiAll at h
 split at h
 ·cases h
 ·simp only at h
  split at h
  ·cases h
  ·cases h
  ·rename_i u hu
   split at h
   ·cases h
   ·rename_i h1
    split at h
    ·cases h
    ·rename_i h2
     cases h
     unfold int64
     split <;> omega
theorem atoi_num(s:ByteArray)(hs:s.size<=1000000){v:Int}(ha:Lib.atoiAll s.data.toList=.ok v)(w:World):Calls Tryz.prog 116 #[.string s] w fun e w'=>
  e=.returned (.tuple #[.int .i64 v,.nilIface])/\Mod noBlock w w':=by
 refine (Tryz.strconv_Atoi_ok s (by omega) v ha w).mono ?_
 rintro e w' ⟨rfl,hw⟩
 refine ⟨rfl,?_⟩
 rcases hw with rfl | ⟨t,rfl⟩
 ·exact Mod.refl _ _
 ·exact Mod.bytes0 _ _
theorem must_ok(w:World):Calls Tryz.prog 78 #[.nilIface] w fun e w'=>e=.returned (.tuple #[])/\w'=w:=by
 go_enter Tryz.func78,Tryz.ntmps78
 go_wp2_with fail
 go_end0
 exact ⟨by simp,rfl⟩
theorem number_num(s:ByteArray)(hs:s.size<=1000000){v:Int}(ha:Lib.atoiAll s.data.toList=.ok v)(hq:strB (Lib.itoa v)=s)(w:World)(h:VD w):Calls Tryz.prog 81 #[.string s] w fun e w'=>e=.returned (.int .i64 v)/\Mod noBlock w w':=by
 have HAT:=Hmq (atoi_num s hs ha w)
 have hv:=parse_lim ha
 have HIT:Hid (∀ w1,Mod noBlock w w1->_):=fun w1 hm=>itoa_any v hv w1 (h.quiet hm)
 clear ha
 go_enter Tryz.func81,Tryz.ntmps81
 go_wp2_with (first
  | (go_at_call 116;refine HAT.out.mono ?_;rintro e w1 ⟨rfl,hm1⟩)
  | (go_at_call 40;refine (HIT.out _ hm1).mono ?_;rintro e w2 ⟨rfl,hm2⟩)
  | fail)
 go_ret
 exact ⟨rfl,hm1.trans hm2⟩
def wordsD(s:ByteArray):List ByteArray:=Lib.goFieldsP (fun x=>x == 32) s
theorem blank_any(x:Nat)(hx:x<=1114111)(w:World):Calls Tryz.prog 98 #[Value.int .i32 x] w fun e w'=>e=.returned (.bool (x == 32))/\w'=w:=by
 go_enter Tryz.func98,Tryz.ntmps98
 go_wp2_with fail
 go_ret
 refine ⟨?_,rfl⟩
 have:((x:Int) == 32)=(x == 32):=by
  by_cases h:x=32
  ·subst h;rfl
  ·rw [beq_eq_false_iff_ne.2 h,beq_eq_false_iff_ne.2 (by omega)]
 rw [this];rfl
theorem words_any(s:ByteArray)(hs:s.size<=1000000)(w:World):Calls Tryz.prog 60 #[.string s] w fun e w'=>∃ A,e=.returned (.slice (some ⟨A,0,none⟩) (wordsD s).length (wordsD s).length)/\w.heap.size<=A /\
   w'.ownsRow w.heap.size 9 1 (.slice (some ⟨A,0,none⟩) (wordsD s).length (wordsD s).length) (wordsD s).length ((wordsD s).map Value.string)/\Mod noBlock w w':=by
 have HF:=Hmq (Tryz.strings_FieldsFunc_runes 98 #[] (fun _ _=>rfl) (fun x=>x == 32) s w (by omega) ?_)
 ·go_enter Tryz.func60,Tryz.ntmps60
  go_wp2_with (first
   | (go_at_call 97;refine HF.out.mono ?_;rintro e w1 ⟨A,rfl,hA,ho,hb⟩)
   | fail)
  go_ret
  exact ⟨A,rfl,hA,ho,Mod.since0 hb⟩
 ·intro W x hx _
  exact (blank_any x hx W).mono (fun e w' ⟨h1,h2⟩=>⟨h1,0,by rw [h2];rfl⟩)
end Go.Proofs.YtiblcbdkiecbgaaGreatDoor
namespace Go.Proofs.YtiblcbdkiecbgaaGreatDoor
def becF(l:LineS)(n:NodeS):NodeS:=(tickN (becN n (nextEp l) (l.nodes.map (·.id)))).1
theorem newF_lines(nodes:Nat):∀ m,(newF nodes m).lines=(List.range m).map fun k=>(newLineH k nodes).1
 | 0=>rfl
 | m+1=>by
  show (newF nodes m).lines++[(newLineH m nodes).1]=_
  rw [newF_lines nodes m,List.range_succ,List.map_append];rfl
def newNs(k nodes:Nat):List NodeS:=(List.range nodes).map fun (i:Nat)=>newNode (10*(k:Int)+(i:Int))
theorem newNs_get(k nodes:Nat){i:Nat}(hi:i<nodes):(newNs k nodes)[i]?=some (newNode (10*(k:Int)+(i:Int))):=by
 unfold newNs;simp [hi]
theorem newNs_pw(k nodes:Nat):(newNs k nodes).Pairwise fun a b=>a.id<b.id:=by
 unfold newNs
 rw [List.pairwise_map]
 refine List.Pairwise.imp ?_ List.pairwise_lt_range
 intro a b hab
 show 10*(k:Int)+(a:Int)<10*(k:Int)+(b:Int)
 omega
theorem tick_len(n:NodeS):(tickN n).2.length<=1:=by
 unfold tickN sendN
 split
 ·simp only;split <;> simp
 ·simp only;split <;> simp
end Go.Proofs.YtiblcbdkiecbgaaGreatDoor
namespace Go.Proofs.YtiblcbdkiecbgaaGreatDoor
open Go.RowKit Go.Lib Go.Maps
theorem RowM.toV{w:World}{L:Lo}{v:Value}{ms:List MsgD}(h:RowM w L v ms):MsgsV w L (fun k=>v.ownBlock=some k) v ms:=by
 have h0:=h
 obtain ⟨us,h1,h2,h3,h4⟩:=h
 by_cases hn:ms=[]
 ·subst hn
  rcases h2.2 with ⟨rfl,_⟩ | ⟨g,cap,cur,rfl,_,_,hc1,hc2,_⟩
  ·exact ⟨none,0,rfl,Nat.zero_le _,Nat.zero_le _,.inl rfl⟩
  ·exact ⟨_,cap,rfl,hc1,hc2,.inl rfl⟩
 ·obtain ⟨m,hm⟩:∃ m,ms[0]?=some m:=by cases ms with
   | nil=>exact absurd rfl hn
   | cons x l=>exact ⟨x,rfl⟩
  obtain ⟨g,cap,_,hv,hc1,hc2,_⟩:=h0.at hm
  refine ⟨_,cap,hv,hc1,hc2,.inr ⟨g,0,rfl,by rw [hv];rfl,fun i m hi=>?_⟩⟩
  obtain ⟨g',cap',u,hv',_,_,hu,hgm,q0,q1,q2,q3,q4,q5,q6,q7,q8⟩:=h0.at hi
  rw [hv] at hv'
  simp only [Value.slice.injEq,Option.some.injEq,Addr.mk.injEq] at hv'
  obtain ⟨⟨rfl,_⟩,_,rfl⟩:=hv'
  refine ⟨u,hu,hgm,fun j x hx=>?_⟩
  rw [Nat.zero_add]
  have hj:j<9:=by
   have:=(List.getElem?_eq_some_iff.1 hx).1
   simpa [msgCells] using this
  have:j=0\/j=1\/j=2\/j=3\/j=4\/j=5\/j=6\/j=7\/j=8:=by omega
  rcases this with rfl | rfl | rfl | rfl | rfl | rfl | rfl | rfl | rfl <;> (simp [msgCells] at hx;subst hx;assumption)
theorem RowM.block{w:World}{L:Lo}{v:Value}{ms:List MsgD}(h:RowM w L v ms){k:Nat}(hk:v.ownBlock=some k):k<w.heap.size/\∃ cur,w.heap[k]?=some (.cells cur 178):=by
 obtain ⟨us,_,h2,_⟩:=h
 obtain ⟨_,q2,cur,q3⟩:=own_cells h2 hk
 exact ⟨q2,cur,q3⟩
theorem hsend_any(n c g:Nat)(y:HLay)(s:HouseS)(v:Value)(ms:List MsgD)(w:World)(h:HouseP w n c g y s)(hv:RowM w (y.lo n) v ms)(hno:∀ k,v.ownBlock=some k->y.own k=.no)(hlo:s.net.lost+ms.length<=4611686018427387904) :
  Calls Tryz.prog 119 #[.pointer (some ⟨g,2,none⟩),v] w fun e w'=>(∃ x,e=.returned (.int .i64 x))/\∃ y',HouseP w' n c g y' (sendH s ms)/\Keeps w y w' y':=by
 refine (send_any (y.lo n) g y.wv y.mr s.net _ v ms w h.netP hv.toV (fun k hk=>⟨(hv.block hk).1,fun e=>?_⟩) hlo).mono ?_
 ·have h0:=hno k hk
  rcases e with e | e | e
  ·rw [e,h.own.main] at h0;cases h0
  ·rw [h.own.net k (.inl e)] at h0;cases h0
  ·rw [h.own.net k (.inr e)] at h0;cases h0
 ·rintro e w' ⟨wv',rfl,hN,hMv,hmd⟩
  obtain ⟨hH,hS⟩:=h.turnW hmd hN hMv (.inl rfl)
  exact ⟨⟨_,rfl⟩,_,hH,hS,rfl,rfl,rfl,rfl,rfl⟩
end Go.Proofs.YtiblcbdkiecbgaaGreatDoor
