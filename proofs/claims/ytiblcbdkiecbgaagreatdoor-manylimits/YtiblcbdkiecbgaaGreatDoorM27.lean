import Derived.Test.YtiblcbdkiecbgaaGreatDoorM26
import Derived.Test.YtiblcbdkiecbgaaGreatDoorM14
set_option linter.unusedVariables false
set_option maxRecDepth 100000
set_option maxHeartbeats 16000000
namespace Go.Proofs.YtiblcbdkiecbgaaGreatDoor
open Go.RowKit Go.Lib Go.Maps
set_option maxHeartbeats 16000000
theorem blk_grown{w w':World}{b k:Nat}{cs:List Value}{t:TypeId}(h:Blk w b cs t)(hg:w.grownBy w' (some k))(hne:b≠k):Blk w' b cs t:=
 h.mod ((Mod.refl (oneBlock k) w).grown hg (fun j e _=>by cases e;rfl)) hne
theorem ord_step{w wi:World}{i:Nat}{D:DataW Unit}(HO:wi.ownsMap Tryz.prog 9 (ordElem w.heap.size) (w.heap.size+1) i D)(hi:i<100)(HG:Mod noBlock w wi)(HS:Blk wi w.heap.size [.pointer none,.map none] 86)(key:ByteArray)(hk:key.size<=100)(f:Nat)(n:Int) :
  ∃ w',(Instr.mapUpdate 84 (.map (some (w.heap.size+1))) (.string key) (.agg #[.int .i64 n,.func (.func f) #[.pointer (some ⟨w.heap.size,0,none⟩)] #[]])).run Tryz.prog wi=.ok () w'/\w'.ownsMap Tryz.prog 9 (ordElem w.heap.size) (w.heap.size+1) (i+1) (D.put (.string key.data.toList) (encOr (some (f,n))))/\Mod noBlock w w'/\Blk w' w.heap.size [.pointer none,.map none] 86:=by
 obtain ⟨w',r,o,g⟩:=HO.update kStrD Tryz.underlying84 (show i<maxLen by unfold maxLen;omega) (Go.WideMaps.keyOf_string_mk Tryz.underlying9 (show key.size<=maxLen by unfold maxLen;omega)) (ordElem_mk w.heap.size (some (f,n)))
 exact ⟨w',r,o,HG.grown g (fun k e hk=>by cases e;omega),blk_grown HS g (by omega)⟩
theorem newSession_any(w:World)(h:VD w):Calls Tryz.prog 15 #[] w fun e w'=>e=.returned (.pointer (some ⟨w.heap.size,0,none⟩))/\BareP w' w.heap.size (w.heap.size+1)/\Mod noBlock w w'/\w.heap.size+1<w'.heap.size:=by
 have hmf:=makeF
 have hmk:∀ w:World,(Instr.makeMap 84 none).run Tryz.prog w=.ok (.map (some w.heap.size)) (w.alloc (.map #[] 0)):=fun w=>by kernel_rfl
 have hb1:Blk (w.alloc (.cells #[.pointer none,.map none] 86)) w.heap.size [.pointer none,.map none] 86:=Blk.new w [.pointer none,.map none] _
 have hs1:(w.alloc (.cells #[.pointer none,.map none] 86)).heap.size=w.heap.size+1:=by simp
 have HO:((w.alloc (.cells #[.pointer none,.map none] 86)).alloc (.map #[] 0)).ownsMap Tryz.prog 9 (ordElem w.heap.size) (w.heap.size+1) 0 (.map []):=by
  have:=World.ownsMap_made (w.alloc (.cells #[.pointer none,.map none] 86)) Tryz.prog 9 (ordElem w.heap.size)
  rw [hs1] at this
  exact this
 have HG:Mod noBlock w ((w.alloc (.cells #[.pointer none,.map none] 86)).alloc (.map #[] 0)):=((Mod.refl noBlock w).alloc _).alloc _
 have HS:Blk ((w.alloc (.cells #[.pointer none,.map none] 86)).alloc (.map #[] 0)) w.heap.size [.pointer none,.map none] 86:=hb1.mod ((Mod.refl noBlock _).alloc _) id
 clear hb1
 obtain ⟨w1,r1,HO,HG,HS⟩:=ord_step HO (by decide) HG HS ⟨#[97,108,105,118,101]⟩ (by decide) 41 0
 obtain ⟨w2,r2,HO,HG,HS⟩:=ord_step HO (by decide) HG HS ⟨#[98,101,103,105,110]⟩ (by decide) 42 0
 obtain ⟨w3,r3,HO,HG,HS⟩:=ord_step HO (by decide) HG HS ⟨#[99,97,108,109]⟩ (by decide) 43 0
 obtain ⟨w4,r4,HO,HG,HS⟩:=ord_step HO (by decide) HG HS ⟨#[100,101,108]⟩ (by decide) 44 2
 obtain ⟨w5,r5,HO,HG,HS⟩:=ord_step HO (by decide) HG HS ⟨#[100,101,108,105,118,101,114]⟩ (by decide) 45 1
 obtain ⟨w6,r6,HO,HG,HS⟩:=ord_step HO (by decide) HG HS ⟨#[100,114,111,112]⟩ (by decide) 46 1
 obtain ⟨w7,r7,HO,HG,HS⟩:=ord_step HO (by decide) HG HS ⟨#[101,110,100]⟩ (by decide) 47 1
 obtain ⟨w8,r8,HO,HG,HS⟩:=ord_step HO (by decide) HG HS ⟨#[102,97,105,108]⟩ (by decide) 48 1
 obtain ⟨w9,r9,HO,HG,HS⟩:=ord_step HO (by decide) HG HS ⟨#[102,105,120]⟩ (by decide) 49 0
 obtain ⟨w10,r10,HO,HG,HS⟩:=ord_step HO (by decide) HG HS ⟨#[103,101,116]⟩ (by decide) 50 2
 obtain ⟨w11,r11,HO,HG,HS⟩:=ord_step HO (by decide) HG HS ⟨#[104,101,108,112]⟩ (by decide) 51 0
 obtain ⟨w12,r12,HO,HG,HS⟩:=ord_step HO (by decide) HG HS ⟨#[108,111,115,101]⟩ (by decide) 52 1
 obtain ⟨w13,r13,HO,HG,HS⟩:=ord_step HO (by decide) HG HS ⟨#[110,101,119]⟩ (by decide) 53 2
 obtain ⟨w14,r14,HO,HG,HS⟩:=ord_step HO (by decide) HG HS ⟨#[112,117,116]⟩ (by decide) 54 3
 obtain ⟨w15,r15,HO,HG,HS⟩:=ord_step HO (by decide) HG HS ⟨#[115,104,97,114,100]⟩ (by decide) 55 1
 obtain ⟨w16,r16,HO,HG,HS⟩:=ord_step HO (by decide) HG HS ⟨#[115,116,97,116,101]⟩ (by decide) 56 1
 obtain ⟨w17,r17,HO,HG,HS⟩:=ord_step HO (by decide) HG HS ⟨#[116,105,99,107]⟩ (by decide) 57 0
 obtain ⟨w18,r18,HO,HG,HS⟩:=ord_step HO (by decide) HG HS ⟨#[116,119,105,99,101]⟩ (by decide) 58 1
 have HB:Hid (BareP (w18.setCell ⟨w.heap.size,1,none⟩ (.map (some (w.heap.size+1)))) w.heap.size (w.heap.size+1)/\Mod noBlock w (w18.setCell ⟨w.heap.size,1,none⟩ (.map (some (w.heap.size+1))))/\w.heap.size+1<(w18.setCell ⟨w.heap.size,1,none⟩ (.map (some (w.heap.size+1)))).heap.size):=by
  have hm:Mod (oneBlock w.heap.size) w18 (w18.setCell ⟨w.heap.size,1,none⟩ (.map (some (w.heap.size+1)))):=Mod.setBlk _ 1 _
  have hmo:OrdP w18 w.heap.size (w.heap.size+1):=HO
  have hlt:=World.ownsMap.lt hmo
  have hG2:Mod noBlock w (w18.setCell ⟨w.heap.size,1,none⟩ (.map (some (w.heap.size+1)))):=HG.setCell (fun e=>(Nat.lt_irrefl _ e).elim) _
  have h7:=h.sz
  exact ⟨⟨⟨_,HS.set 1 _⟩,hmo.mod hm (fun e=>by have e':w.heap.size+1=w.heap.size:=e;omega),by omega,⟨h7,by omega⟩,h.quiet hG2⟩,hG2,Nat.lt_of_lt_of_le hlt hm.size⟩
 have z1:=HS.cell 1 rfl
 have z2:=HS.frozen 1
 clear HO HG HS h
 go_enter Tryz.func15,Tryz.ntmps15
 go_wp2_with fail
 go_ret
 exact ⟨rfl,HB.out⟩
end Go.Proofs.YtiblcbdkiecbgaaGreatDoor
namespace Go.Proofs.YtiblcbdkiecbgaaGreatDoor
open Go.RowKit Go.Lib Go.Maps Go.Shelf
attribute [local go_sem] Oper.semAt_some
def linesF:Nat->List UInt8->List (List UInt8)
 | 0,_=>[]
 | f+1,r=>(Lib.cut r [10]).1 :: (if (Lib.cut r [10]).2.2 then linesF f (Lib.cut r [10]).2.1 else [])
def linesD(t:List UInt8):List (List UInt8):=linesF ((Lib.trimSuffix t [10]).length+1) (Lib.trimSuffix t [10])
theorem cut_less{r:List UInt8}(h:(Lib.cut r [10]).2.2=true):(Lib.cut r [10]).2.1.length<r.length:=by
 unfold Lib.cut at h ⊢
 split at h
 ·rename_i q
  rw [if_pos q]
  have hp:0<r.length:=by
   cases r with
   | nil=>exact absurd q (by decide)
   | cons a t=>simp
  simp only [List.length_drop,List.length_cons,List.length_nil]
  omega
 ·cases h
def encL(x:List UInt8):Array Value:=#[.string (strB x)]
def lenV:Value->Value->Nat
 | .string s,.bool true=>s.size+1
 | _,_=>0
theorem cut_in(r:List UInt8)(hr:r.length<=1000000)(m:Int)(n:Nat)(w:World)(hm:w.cell? ⟨1,0,none⟩=some (.int .i64 m)) :
  CallsIn Fence.wide n Tryz.prog 63 #[.string (strB r),.string ⟨#[10]⟩] w fun e w'=>e=.returned (.tuple #[.string (strB (Lib.cut r [10]).1),.string (strB (Lib.cut r [10]).2.1),.bool (Lib.cut r [10]).2.2])/\∃ q,w'=w.drewN q:=
 callsIn_wide.2 (Tryz.strings_Cut (strB r) ⟨#[10]⟩ m w (by simp [strB,ByteArray.size];omega) hm)
theorem trim_in(t:ByteArray)(ht:t.size<=1000000)(n:Nat)(w:World) :
  CallsIn Fence.wide n Tryz.prog 62 #[.string t,.string ⟨#[10]⟩] w fun e w'=>e=.returned (.string (strB (Lib.trimSuffix t.data.toList [10])))/\w'=w:=
 callsIn_wide.2 (Tryz.strings_TrimSuffix t ⟨#[10]⟩ w (by omega))
theorem lines1_in(n:Nat)(hn:30<=n)(l b:Nat)(X:Nat->Prop)(text:ByteArray)(hs:text.size<=1000000)(J:List (List UInt8)->World->Prop)(Jx:World->Prop)(hJc:Calm J)(hJxc:Calm (fun (_:Unit)=>Jx))
  (hY:Rounds (n - 1) Tryz.prog l encL X (linesD text.data.toList) J Jx)
  (W:World) (hX0:¬ X 1) (m:Int) (hM:W.cell? ⟨1,0,none⟩=some (.int .i64 m)) (hb:W.cell? ⟨b,0,none⟩=some (.string text)) (h0:J [] W) :
  CallsIn Fence.wide n Tryz.prog 61 #[.func (.yield l) #[] #[],.pointer (some ⟨b,0,none⟩)] W fun e B=>(∃ v,e=.returned v)/\Mod X W B/\(J (linesD text.data.toList) B\/Jx B):=by
 have htl:(Lib.trimSuffix text.data.toList [10]).length<=1000000:=by
  have h1:text.data.toList.length=text.size:=by rw [Array.length_toList];rfl
  unfold Lib.trimSuffix
  split
  ·rw [List.length_take];omega
  ·omega
 obtain ⟨xs,hxs⟩:∃ q,q=linesD text.data.toList:=⟨_,rfl⟩
 have hx0:=hxs
 unfold linesD at hx0
 rw [<-hxs] at hY ⊢
 clear hxs
 obtain ⟨r0,hr0⟩:∃ q,q=Lib.trimSuffix text.data.toList [10]:=⟨_,rfl⟩
 have HT:=trim_in text hs (n - 1) W
 rw [<-hr0] at htl hx0 HT
 clear hr0
 have n1:1<=n:=by omega
 refine callsIn_of_wp Tryz.func61 rfl trivial ?_ rfl
 simp only [Tryz.ntmps61,List.size_toArray,List.length_cons,List.length_nil,Nat.reduceAdd,Nat.reduceSub,Array.replicate_succ,Array.replicate_zero,List.push_toArray,List.append_toArray,List.nil_append,List.cons_append]
 gi_wp2_with (refine ⟨trivial,?_⟩;gi_at_call 62;refine HT.mono ?_;rintro e w' ⟨rfl,hw'⟩;rw [hw'];clear hw' w')
 gi_loopw [3,4] (fun rv mv wr=>Mod X W wr/\((mv=.bool true/\∃ (pre:List (List UInt8)) (f:Nat) (r:List UInt8),r.length<f/\r.length<=1000000/\rv=.string (strB r)/\xs=pre++linesF f r/\J pre wr)\/(mv=.bool false/\(J xs wr\/Jx wr)))) (fun rv mv _=>lenV rv mv)
 case atStart=>exact ⟨Mod.refl _ _,.inl ⟨rfl,[],r0.length+1,r0,Nat.lt_succ_self _,htl,rfl,hx0,h0⟩⟩
 case round=>
  obtain ⟨hkp,hrel⟩:=hrel
  rcases hrel with ⟨rfl,pre,f,r,hrf,hrl,rfl,hxx,hJ⟩ | ⟨rfl,hJ⟩
  ·obtain ⟨f',rfl⟩:∃ f',f=f'+1:=⟨f - 1,by omega⟩
   have hM':=hkp.cell hM hX0
   have HC:=cut_in r hrl m (n - 1) wr hM'
   have hless:=@cut_less r
   unfold linesF at hxx
   obtain ⟨c1,hc1⟩:∃ q,q=(Lib.cut r [10]).1:=⟨_,rfl⟩
   obtain ⟨c2,hc2⟩:∃ q,q=(Lib.cut r [10]).2.1:=⟨_,rfl⟩
   obtain ⟨c3,hc3⟩:∃ q,q=(Lib.cut r [10]).2.2:=⟨_,rfl⟩
   rw [<-hc1,<-hc2,<-hc3] at hxx HC
   rw [<-hc2,<-hc3] at hless
   clear hc1 hc2 hc3
   have HXX:=Hmq hxx
   clear hxx hM'
   gi_wp2_with (refine ⟨trivial,?_⟩;gi_at_call 63;refine HC.mono ?_;rintro e w2 ⟨rfl,q,hw2⟩;(have hm2:Mod noBlock wr w2:=by rw [hw2];exact (Mod.refl noBlock wr).drewN q);clear hw2)
   obtain ⟨fn,tmps,assign,body,hy,hR⟩:=hY _ _ _ w2 HXX.out (hJc _ _ _ hm2 hJ)
   dsimp only [encL] at hy
   rw [hy]
   refine ⟨fun e=>by simp [Fence.wide] at e,hR.mono ?_⟩
   rintro e W3 ⟨hm3,⟨rfl,hJ3⟩ | ⟨rfl,hJx3⟩⟩
   ·have hk3:Mod X W W3:=(hkp.trans (hm2.mono (fun _ _ e=>e.elim))).trans hm3
    have HFI:Hid ((c3=true/\∃ (pre:List (List UInt8)) (f:Nat) (r:List UInt8),r.length<f/\r.length<=1000000/\strB c2=strB r/\xs=pre++linesF f r/\J pre W3)\/(c3=false/\J xs W3)):=by
     cases c3 with
     | true=>
      have:=hless rfl
      exact .inl ⟨rfl,pre++[c1],f',c2,by omega,by omega,rfl,by rw [HXX.out];simp,hJ3⟩
     | false=>
      refine .inr ⟨rfl,?_⟩
      have e:=HXX.out
      simp only [Bool.false_eq_true,if_false] at e
      rw [e]
      exact hJ3
    have hms:(c3=true->(strB c2).size<(strB r).size):=fun e=>by
     have:=hless e
     simpa [strB,ByteArray.size] using this
    clear hless HXX hY hR hy
    gi_wp2
    rcases HFI.out with ⟨rfl,pre',f2,r2,q1,q2,q3,q4,q5⟩ | ⟨rfl,q⟩
    ·exact ⟨⟨hk3,.inl ⟨rfl,pre',f2,r2,q1,q2,by rw [q3],q4,q5⟩⟩,Nat.succ_lt_succ (hms rfl)⟩
    ·exact ⟨⟨hk3,.inr ⟨rfl,.inl q⟩⟩,Nat.succ_pos _⟩
   ·have hk3:Mod X W W3:=(hkp.trans (hm2.mono (fun _ _ e=>e.elim))).trans hm3
    gi_wp2
    exact ⟨⟨hk3,.inr ⟨rfl,.inr hJx3⟩⟩,Nat.succ_pos _⟩
  ·gi_wp2
   go_end0
   exact ⟨⟨_,rfl⟩,hkp,hJ⟩
theorem lines_iter(n:Nat)(hn:30<=n)(b:Nat)(text:ByteArray)(hs:text.size<=1000000)(w:World)(hv:VD w)(hb:w.cell? ⟨b,0,none⟩=some (.string text)) :
  Iter2 n Tryz.prog 61 #[.pointer (some ⟨b,0,none⟩)] encL (fun k=>k=1) (linesD text.data.toList) w:=by
 intro l X J Jx W hm hX hJ hJx hY h0
 obtain ⟨m,hM⟩:=hv.ml
 exact lines1_in n hn l b X text hs J Jx hJ hJx hY W (hX _ rfl) m (hm.cell hM id) (hm.cell hb id) h0
end Go.Proofs.YtiblcbdkiecbgaaGreatDoor
