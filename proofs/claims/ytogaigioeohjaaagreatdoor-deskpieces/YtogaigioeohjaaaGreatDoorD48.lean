import Derived.Test.YtogaigioeohjaaaGreatDoorD47
import Derived.Test.YtogaigioeohjaaaGreatDoorD26
set_option linter.unusedVariables false
set_option maxRecDepth 100000
set_option maxHeartbeats 16000000
namespace Go.Proofs.YtogaigioeohjaaaGreatDoor
open Go.RowKit Go.Lib Go.Maps
set_option maxHeartbeats 16000000
theorem yNv{w w':World}{b k:Nat}{cs:List Value}{t:TypeId}(h:Blk w b cs t)(hg:w.grownBy w' (some k))(hne:b≠k):Blk w' b cs t:=
 h.mod ((Mod.refl (zAd k) w).grown hg (fun j e _=>by cases e;rfl)) hne
theorem zDf{w wi:World}{i:Nat}{D:DataW Unit}(HO:wi.ownsMap Tryz.prog 9 (zJf w.heap.size) (w.heap.size+1) i D)(hi:i<100)(HG:Mod zAb w wi)(HS:Blk wi w.heap.size [.pointer none,.map none] 45)(key:ByteArray)(hk:key.size<=100)(f:Nat)(n:Int) :
  ∃ w',(Instr.mapUpdate 43 (.map (some (w.heap.size+1))) (.string key) (.agg #[.int .i64 n,.func (.func f) #[.pointer (some ⟨w.heap.size,0,none⟩)] #[]])).run Tryz.prog wi=.ok () w'/\w'.ownsMap Tryz.prog 9 (zJf w.heap.size) (w.heap.size+1) (i+1) (D.put (.string key.data.toList) (zQs (some (f,n))))/\Mod zAb w w'/\Blk w' w.heap.size [.pointer none,.map none] 45:=by
 obtain ⟨w',r,o,g⟩:=HO.update kStrD Tryz.underlying43 (show i<maxLen by unfold maxLen;omega) (Go.WideMaps.keyOf_string_mk Tryz.underlying9 (show key.size<=maxLen by unfold maxLen;omega)) (zVe w.heap.size (some (f,n)))
 exact ⟨w',r,o,HG.grown g (fun k e hk=>by cases e;omega),yNv HS g (by omega)⟩
theorem zTz(w:World)(h:VD w):Calls Tryz.prog 6 #[] w fun e w'=>e=.returned (.pointer (some ⟨w.heap.size,0,none⟩))/\zUk w' w.heap.size (w.heap.size+1)/\Mod zAb w w'/\w.heap.size+1<w'.heap.size:=by
 have hmf:=yDo
 have hmk:∀ w:World,(Instr.makeMap 43 none).run Tryz.prog w=.ok (.map (some w.heap.size)) (w.alloc (.map #[] 0)):=fun w=>by kernel_rfl
 have hb1:Blk (w.alloc (.cells #[.pointer none,.map none] 45)) w.heap.size [.pointer none,.map none] 45:=Blk.new w [.pointer none,.map none] _
 have hs1:(w.alloc (.cells #[.pointer none,.map none] 45)).heap.size=w.heap.size+1:=by simp
 have HO:((w.alloc (.cells #[.pointer none,.map none] 45)).alloc (.map #[] 0)).ownsMap Tryz.prog 9 (zJf w.heap.size) (w.heap.size+1) 0 (.map []):=by
  have:=World.ownsMap_made (w.alloc (.cells #[.pointer none,.map none] 45)) Tryz.prog 9 (zJf w.heap.size)
  rw [hs1] at this
  exact this
 have HG:Mod zAb w ((w.alloc (.cells #[.pointer none,.map none] 45)).alloc (.map #[] 0)):=((Mod.refl zAb w).alloc _).alloc _
 have HS:Blk ((w.alloc (.cells #[.pointer none,.map none] 45)).alloc (.map #[] 0)) w.heap.size [.pointer none,.map none] 45:=hb1.mod ((Mod.refl zAb _).alloc _) id
 clear hb1
 obtain ⟨w1,r1,HO,HG,HS⟩:=zDf HO (by decide) HG HS ⟨#[97,108,105,118,101]⟩ (by decide) 13 0
 obtain ⟨w2,r2,HO,HG,HS⟩:=zDf HO (by decide) HG HS ⟨#[98,101,103,105,110]⟩ (by decide) 14 0
 obtain ⟨w3,r3,HO,HG,HS⟩:=zDf HO (by decide) HG HS ⟨#[99,97,108,109]⟩ (by decide) 15 0
 obtain ⟨w4,r4,HO,HG,HS⟩:=zDf HO (by decide) HG HS ⟨#[100,101,108]⟩ (by decide) 16 2
 obtain ⟨w5,r5,HO,HG,HS⟩:=zDf HO (by decide) HG HS ⟨#[100,101,108,105,118,101,114]⟩ (by decide) 17 1
 obtain ⟨w6,r6,HO,HG,HS⟩:=zDf HO (by decide) HG HS ⟨#[100,114,111,112]⟩ (by decide) 18 1
 obtain ⟨w7,r7,HO,HG,HS⟩:=zDf HO (by decide) HG HS ⟨#[101,110,100]⟩ (by decide) 19 1
 obtain ⟨w8,r8,HO,HG,HS⟩:=zDf HO (by decide) HG HS ⟨#[102,97,105,108]⟩ (by decide) 20 1
 obtain ⟨w9,r9,HO,HG,HS⟩:=zDf HO (by decide) HG HS ⟨#[102,105,120]⟩ (by decide) 21 0
 obtain ⟨w10,r10,HO,HG,HS⟩:=zDf HO (by decide) HG HS ⟨#[103,101,116]⟩ (by decide) 22 2
 obtain ⟨w11,r11,HO,HG,HS⟩:=zDf HO (by decide) HG HS ⟨#[104,101,108,112]⟩ (by decide) 23 0
 obtain ⟨w12,r12,HO,HG,HS⟩:=zDf HO (by decide) HG HS ⟨#[108,111,115,101]⟩ (by decide) 24 1
 obtain ⟨w13,r13,HO,HG,HS⟩:=zDf HO (by decide) HG HS ⟨#[110,101,119]⟩ (by decide) 25 2
 obtain ⟨w14,r14,HO,HG,HS⟩:=zDf HO (by decide) HG HS ⟨#[112,117,116]⟩ (by decide) 26 3
 obtain ⟨w15,r15,HO,HG,HS⟩:=zDf HO (by decide) HG HS ⟨#[115,104,97,114,100]⟩ (by decide) 27 1
 obtain ⟨w16,r16,HO,HG,HS⟩:=zDf HO (by decide) HG HS ⟨#[115,116,97,116,101]⟩ (by decide) 28 1
 obtain ⟨w17,r17,HO,HG,HS⟩:=zDf HO (by decide) HG HS ⟨#[116,105,99,107]⟩ (by decide) 29 0
 obtain ⟨w18,r18,HO,HG,HS⟩:=zDf HO (by decide) HG HS ⟨#[116,119,105,99,101]⟩ (by decide) 30 1
 have HB:Hid (zUk (w18.setCell ⟨w.heap.size,1,none⟩ (.map (some (w.heap.size+1)))) w.heap.size (w.heap.size+1)/\Mod zAb w (w18.setCell ⟨w.heap.size,1,none⟩ (.map (some (w.heap.size+1))))/\w.heap.size+1<(w18.setCell ⟨w.heap.size,1,none⟩ (.map (some (w.heap.size+1)))).heap.size):=by
  have hm:Mod (zAd w.heap.size) w18 (w18.setCell ⟨w.heap.size,1,none⟩ (.map (some (w.heap.size+1)))):=Mod.setBlk _ 1 _
  have hmo:OrdP w18 w.heap.size (w.heap.size+1):=HO
  have hlt:=World.ownsMap.lt hmo
  have hG2:Mod zAb w (w18.setCell ⟨w.heap.size,1,none⟩ (.map (some (w.heap.size+1)))):=HG.setCell (fun e=>(Nat.lt_irrefl _ e).elim) _
  have h7:=h.sz
  exact ⟨⟨⟨_,HS.set 1 _⟩,hmo.mod hm (fun e=>by have e':w.heap.size+1=w.heap.size:=e;omega),by omega,⟨h7,by omega⟩,h.quiet hG2⟩,hG2,Nat.lt_of_lt_of_le hlt hm.size⟩
 have z1:=HS.cell 1 rfl
 have z2:=HS.frozen 1
 clear HO HG HS h
 go_enter Tryz.func6,Tryz.ntmps6
 go_wp2_with fail
 go_ret
 exact ⟨rfl,HB.out⟩
end Go.Proofs.YtogaigioeohjaaaGreatDoor
namespace Go.Proofs.YtogaigioeohjaaaGreatDoor
open Go.RowKit Go.Lib Go.Maps Go.Shelf
attribute [local go_sem] Oper.semAt_some
def zHn:Nat->List UInt8->List (List UInt8)
 | 0,_=>[]
 | f+1,r=>(Lib.cut r [10]).1 :: (if (Lib.cut r [10]).2.2 then zHn f (Lib.cut r [10]).2.1 else [])
def zHo(t:List UInt8):List (List UInt8):=zHn ((Lib.trimSuffix t [10]).length+1) (Lib.trimSuffix t [10])
theorem yGe{r:List UInt8}(h:(Lib.cut r [10]).2.2=true):(Lib.cut r [10]).2.1.length<r.length:=by
 unfold Lib.cut at h ⊢
 split at h
 ·rename_i q
  rw [if_pos q]
  have hp:0<r.length:=by
   cases r with
   | nil=>exact absurd q (by decide)
   | cons a t=>simp
  simp only [List.length_drop,List.length_cons,List.length_nil]
  omega
 ·cases h
def encL(x:List UInt8):Array Value:=#[.string (strB x)]
def lenV:Value->Value->Nat
 | .string s,.bool true=>s.size+1
 | _,_=>0
theorem cut_in(r:List UInt8)(hr:r.length<=1000000)(m:Int)(n:Nat)(w:World)(hm:w.cell? ⟨0,0,none⟩=some (.int .i64 m)) :
  CallsIn Fence.wide n Tryz.prog 35 #[.string (strB r),.string ⟨#[10]⟩] w fun e w'=>e=.returned (.tuple #[.string (strB (Lib.cut r [10]).1),.string (strB (Lib.cut r [10]).2.1),.bool (Lib.cut r [10]).2.2])/\∃ q,w'=w.drewN q:=
 callsIn_wide.2 (Tryz.strings_Cut (strB r) ⟨#[10]⟩ m w (by simp [strB,ByteArray.size];omega) hm)
theorem ySk(t:ByteArray)(ht:t.size<=1000000)(n:Nat)(w:World) :
  CallsIn Fence.wide n Tryz.prog 34 #[.string t,.string ⟨#[10]⟩] w fun e w'=>e=.returned (.string (strB (Lib.trimSuffix t.data.toList [10])))/\w'=w:=
 callsIn_wide.2 (Tryz.strings_TrimSuffix t ⟨#[10]⟩ w (by omega))
theorem yLu(n:Nat)(hn:30<=n)(l b:Nat)(X:Nat->Prop)(text:ByteArray)(hs:text.size<=1000000)(J:List (List UInt8)->World->Prop)(Jx:World->Prop)(hJc:Calm J)(hJxc:Calm (fun (_:Unit)=>Jx))
  (hY:yCj (n - 1) Tryz.prog l encL X (zHo text.data.toList) J Jx)
  (W:World) (hX0:¬ X 0) (m:Int) (hM:W.cell? ⟨0,0,none⟩=some (.int .i64 m)) (hb:W.cell? ⟨b,0,none⟩=some (.string text)) (h0:J [] W) :
  CallsIn Fence.wide n Tryz.prog 33 #[.func (.yield l) #[] #[],.pointer (some ⟨b,0,none⟩)] W fun e B=>(∃ v,e=.returned v)/\Mod X W B/\(J (zHo text.data.toList) B\/Jx B):=by
 have htl:(Lib.trimSuffix text.data.toList [10]).length<=1000000:=by
  have h1:text.data.toList.length=text.size:=by rw [Array.length_toList];rfl
  unfold Lib.trimSuffix
  split
  ·rw [List.length_take];omega
  ·omega
 obtain ⟨xs,hxs⟩:∃ q,q=zHo text.data.toList:=⟨_,rfl⟩
 have hx0:=hxs
 unfold zHo at hx0
 rw [<-hxs] at hY ⊢
 clear hxs
 obtain ⟨r0,hr0⟩:∃ q,q=Lib.trimSuffix text.data.toList [10]:=⟨_,rfl⟩
 have HT:=ySk text hs (n - 1) W
 rw [<-hr0] at htl hx0 HT
 clear hr0
 have n1:1<=n:=by omega
 refine callsIn_of_wp Tryz.func33 rfl trivial ?_ rfl
 simp only [Tryz.ntmps33,List.size_toArray,List.length_cons,List.length_nil,Nat.reduceAdd,Nat.reduceSub,Array.replicate_succ,Array.replicate_zero,List.push_toArray,List.append_toArray,List.nil_append,List.cons_append]
 gi_wp2_with (refine ⟨trivial,?_⟩;gi_at_call 34;refine HT.mono ?_;rintro e w' ⟨rfl,hw'⟩;rw [hw'];clear hw' w')
 gi_loopw [3,4] (fun rv mv wr=>Mod X W wr/\((mv=.bool true/\∃ (pre:List (List UInt8)) (f:Nat) (r:List UInt8),r.length<f/\r.length<=1000000/\rv=.string (strB r)/\xs=pre++zHn f r/\J pre wr)\/(mv=.bool false/\(J xs wr\/Jx wr)))) (fun rv mv _=>lenV rv mv)
 case atStart=>exact ⟨Mod.refl _ _,.inl ⟨rfl,[],r0.length+1,r0,Nat.lt_succ_self _,htl,rfl,hx0,h0⟩⟩
 case round=>
  obtain ⟨hkp,hrel⟩:=hrel
  rcases hrel with ⟨rfl,pre,f,r,hrf,hrl,rfl,hxx,hJ⟩ | ⟨rfl,hJ⟩
  ·obtain ⟨f',rfl⟩:∃ f',f=f'+1:=⟨f - 1,by omega⟩
   have hM':=hkp.cell hM hX0
   have HC:=cut_in r hrl m (n - 1) wr hM'
   have hless:=@yGe r
   unfold zHn at hxx
   obtain ⟨c1,hc1⟩:∃ q,q=(Lib.cut r [10]).1:=⟨_,rfl⟩
   obtain ⟨c2,hc2⟩:∃ q,q=(Lib.cut r [10]).2.1:=⟨_,rfl⟩
   obtain ⟨c3,hc3⟩:∃ q,q=(Lib.cut r [10]).2.2:=⟨_,rfl⟩
   rw [<-hc1,<-hc2,<-hc3] at hxx HC
   rw [<-hc2,<-hc3] at hless
   clear hc1 hc2 hc3
   have HXX:=Hmq hxx
   clear hxx hM'
   gi_wp2_with (refine ⟨trivial,?_⟩;gi_at_call 35;refine HC.mono ?_;rintro e w2 ⟨rfl,q,hw2⟩;(have hm2:Mod zAb wr w2:=by rw [hw2];exact (Mod.refl zAb wr).drewN q);clear hw2)
   obtain ⟨fn,tmps,assign,body,hy,hR⟩:=hY _ _ _ w2 HXX.out (hJc _ _ _ hm2 hJ)
   dsimp only [encL] at hy
   rw [hy]
   refine ⟨fun e=>by simp [Fence.wide] at e,hR.mono ?_⟩
   rintro e W3 ⟨hm3,⟨rfl,hJ3⟩ | ⟨rfl,hJx3⟩⟩
   ·have hk3:Mod X W W3:=(hkp.trans (hm2.mono (fun _ _ e=>e.elim))).trans hm3
    have HFI:Hid ((c3=true/\∃ (pre:List (List UInt8)) (f:Nat) (r:List UInt8),r.length<f/\r.length<=1000000/\strB c2=strB r/\xs=pre++zHn f r/\J pre W3)\/(c3=false/\J xs W3)):=by
     cases c3 with
     | true=>
      have:=hless rfl
      exact .inl ⟨rfl,pre++[c1],f',c2,by omega,by omega,rfl,by rw [HXX.out];simp,hJ3⟩
     | false=>
      refine .inr ⟨rfl,?_⟩
      have e:=HXX.out
      simp only [Bool.false_eq_true,if_false] at e
      rw [e]
      exact hJ3
    have hms:(c3=true->(strB c2).size<(strB r).size):=fun e=>by
     have:=hless e
     simpa [strB,ByteArray.size] using this
    clear hless HXX hY hR hy
    gi_wp2
    rcases HFI.out with ⟨rfl,pre',f2,r2,q1,q2,q3,q4,q5⟩ | ⟨rfl,q⟩
    ·exact ⟨⟨hk3,.inl ⟨rfl,pre',f2,r2,q1,q2,by rw [q3],q4,q5⟩⟩,Nat.succ_lt_succ (hms rfl)⟩
    ·exact ⟨⟨hk3,.inr ⟨rfl,.inl q⟩⟩,Nat.succ_pos _⟩
   ·have hk3:Mod X W W3:=(hkp.trans (hm2.mono (fun _ _ e=>e.elim))).trans hm3
    gi_wp2
    exact ⟨⟨hk3,.inr ⟨rfl,.inr hJx3⟩⟩,Nat.succ_pos _⟩
  ·gi_wp2
   go_end0
   exact ⟨⟨_,rfl⟩,hkp,hJ⟩
theorem yHv(n:Nat)(hn:30<=n)(b:Nat)(text:ByteArray)(hs:text.size<=1000000)(w:World)(hv:VD w)(hb:w.cell? ⟨b,0,none⟩=some (.string text)) :
  yTr n Tryz.prog 33 #[.pointer (some ⟨b,0,none⟩)] encL (fun k=>k=0) (zHo text.data.toList) w:=by
 intro l X J Jx W hm hX hJ hJx hY h0
 obtain ⟨m,hM⟩:=hv.ml
 exact yLu n hn l b X text hs J Jx hJ hJx hY W (hX _ rfl) m (hm.cell hM id) (hm.cell hb id) h0
end Go.Proofs.YtogaigioeohjaaaGreatDoor
namespace Go.Proofs.YtogaigioeohjaaaGreatDoor
open Go.RowKit Go.Lib Go.Maps
def zEj(w:World)(k:Nat):Prop:=∃ c fz,w.heap[k]?=some (.cells c 5 fz)
theorem zIz{w:World}{k:Nat}{c:Array Value}{t:TypeId}{fz:Nat × Nat}(h:w.heap[k]?=some (.cells c t fz))(ht:t≠5):¬ zEj w k:=by
 rintro ⟨c',fz',h'⟩
 rw [h] at h'
 simp at h'
 exact ht h'.2.1
theorem zOc{w:World}{k:Nat}{es:Array MapEntry}{clock:Nat}(h:w.heap[k]?=some (.map es clock)):¬ zEj w k:=by
 rintro ⟨c',fz',h'⟩
 rw [h] at h'
 simp at h'
open Classical in
noncomputable def HLay.strip(y:HLay)(w:World):HLay:={ y with own:=fun k=>if zEj w k then .no else y.own k }
theorem zDw{y:HLay}{w:World}{k:Nat}(h:¬ zEj w k):(y.strip w).own k=y.own k:=if_neg h
theorem zKc{y:HLay}{w:World}{k:Nat}(h:zEj w k):(y.strip w).own k=.no:=if_pos h
theorem zNq{y:HLay}{w:World}{k:Nat}(h:y.own k=.no):(y.strip w).own k=.no:=by
 by_cases q:zEj w k
 ·exact zKc q
 ·rw [zDw q];exact h
theorem yOw{y:HLay}{w:World}{k:Nat}(h:(y.strip w).own k≠.no):y.own k≠.no/\¬ zEj w k:=by
 by_cases q:zEj w k
 ·exact absurd (zKc q) h
 ·exact ⟨by rw [zDw q] at h;exact h,q⟩
theorem zAe.strip{w:World}{n c g:Nat}{y:HLay}{s:zAa}(h:zAe w n c g y s):zAe w n c g (y.strip w) s:=by
 have row:∀ {v:Value} {e:TypeId} {sz m:Nat} {xs:List Value},w.ownsRow n e sz v m xs->e≠5->∀ k,v.ownBlock=some k->¬ zEj w k:=fun ho he k hk=>by
  obtain ⟨_,_,cur,hc⟩:=zAi ho hk
  exact zIz hc he
 have own:=h.own
 refine ⟨h.blk,h.net,h.dead,h.tab,h.qn,h.lrow,h.llen,fun k b l hb hl=>(have q:=h.line k b l hb hl;⟨q.blk,q.row,q.len,q.node⟩),h.trow,h.tlen,fun i b t hb ht=>(have q:=h.tx i b t hb ht;⟨q.blk,q.ats,q.wr⟩),⟨?_,fun k hk=>?_,fun k hk=>?_,fun k hk=>?_,?_,fun k hk=>?_,fun b hb=>?_,fun b hb d hd k hk=>?_,fun b hb=>?_,fun k hk=>own.lt k (yOw hk).1,own.lnd,own.tnd,own.nnd⟩⟩
 ·rw [zDw (zIz h.blk (by decide))];exact own.main
 ·rw [zDw (row h.lrow (by decide) k hk)];exact own.lrow k hk
 ·rw [zDw (row h.trow (by decide) k hk)];exact own.trow k hk
 ·have:¬ zEj w k:=by
   rcases hk with hk | hk
   ·obtain ⟨us,_,ho,_⟩:=h.net.row
    exact row ho (by decide) k hk
   ·rcases h.net.dn with ⟨e,_⟩ | ⟨b,D,e,_,⟨es,clock,hb,_⟩,_⟩
    ·have hk':y.mr=some k:=hk
     have e':y.mr=none:=e
     rw [e'] at hk';cases hk'
    ·have hk':y.mr=some k:=hk
     have e':y.mr=some b:=e
     rw [e'] at hk';cases hk'
     exact zOc hb
  rw [zDw this];exact own.net k hk
 ·have:¬ zEj w y.dr:=by
   rcases h.dead with ⟨e,_⟩ | ⟨b,D,e,_,⟨es,clock,hb,_⟩,_⟩
   ·cases e
   ·cases e;exact zOc hb
  show (y.strip w).own y.dr=_
  rw [zDw this];exact own.dead
 ·have:¬ zEj w k:=by
   rcases hk with hk | ⟨key,i,hok,hk⟩
   ·have hm:=h.tab.map
    have hk':y.q.m=some k:=hk
    unfold MapQ at hm
    rw [hk'] at hm
    obtain ⟨_,D,⟨es,clock,hb,_⟩,_⟩:=hm
    exact zOc hb
   ·exact row (h.tab.rows key i hok) (by decide) k hk
  rw [zDw this];exact own.tab k hk
 ·obtain ⟨i,hi⟩:=List.getElem?_of_mem hb
  have hil:i<s.lines.length:=by rw [<-h.llen];exact (List.getElem?_eq_some_iff.1 hi).1
  have hL:=h.line i b _ hi (List.getElem?_eq_getElem hil)
  obtain ⟨o1,o2⟩:=own.line b hb
  refine ⟨?_,fun k hk=>?_⟩
  ·rw [zDw (zIz hL.blk (by decide))];exact o1
  ·rw [zDw (row hL.row (by decide) k hk)];exact o2 k hk
 ·obtain ⟨i,hi⟩:=List.getElem?_of_mem hb
  have hil:i<s.lines.length:=by rw [<-h.llen];exact (List.getElem?_eq_some_iff.1 hi).1
  have hL:=h.line i b _ hi (List.getElem?_eq_getElem hil)
  obtain ⟨j,hj⟩:=List.getElem?_of_mem hd
  have hjl:j<(s.lines[i]).nodes.length:=by rw [<-hL.len];exact (List.getElem?_eq_some_iff.1 hj).1
  have hN:=hL.node j d _ hj (List.getElem?_eq_getElem hjl)
  have:¬ zEj w k:=by
   rcases hk with rfl | hk | hk
   ·exact zIz hN.blk (by decide)
   ·exact row hN.ns (by decide) k hk
   ·obtain ⟨us,_,ho,_⟩:=hN.lg
    exact row ho (by decide) k hk
  rw [zDw this];exact own.node b hb d hd k hk
 ·obtain ⟨i,hi⟩:=List.getElem?_of_mem hb
  have hil:i<s.txs.length:=by rw [<-h.tlen];exact (List.getElem?_eq_some_iff.1 hi).1
  have hT:=h.tx i b _ hi (List.getElem?_eq_getElem hil)
  obtain ⟨o1,o2⟩:=own.tx b hb
  refine ⟨?_,fun k hk=>?_⟩
  ·rw [zDw (zIz hT.blk (by decide))];exact o1
  ·have:¬ zEj w k:=hk.elim (fun q=>row hT.ats (by decide) k q) (fun q=>row hT.wr (by decide) k q)
   rw [zDw this];exact o2 k hk
theorem SesP.strip{w:World}{ss mb n c g:Nat}{y:HLay}{s:zAa}(h:SesP w ss mb n c g y s):SesP w ss mb n c g (y.strip w) s:=
 ⟨h.blk,h.map,h.house.strip,zNq h.nos,zNq h.nom,h.n7,h.lo,h.vd⟩
def bldG(w:World)(B b k:Nat):Prop:=B<=k/\(k=b\/zEj w k)
theorem yTo{w w':World}{B b:Nat}(h:Below B w w')(hk:Lib.OthersKept 5 (some b) w w'):Mod (bldG w B b) w w':=by
 refine ⟨h.os,h.tape,h.output,h.size,fun k hkl hG=>?_⟩
 by_cases hB:B<=k
 ·have e:w.heap[k]?=some w.heap[k]:=Array.getElem?_eq_getElem hkl
  rw [e]
  refine hk k _ e (fun q=>hG ⟨hB,.inl (by simpa using q)⟩) (fun c fz q=>hG ⟨hB,.inr ⟨c,fz,by rw [e,q]⟩⟩)
 ·exact h.block k (by omega)
theorem SesP.built{w w':World}{ss mb n c g B b:Nat}{y:HLay}{s:zAa}{cs:List Value}{t:TypeId}(h:SesP w ss mb n c g (y.strip w) s)(hb:Blk w b cs t)(ht:t≠65)(hno:y.own b=.no)(hs:b≠ss)(hm:b≠mb)(h7:7<=B)(hM:Mod (bldG w B b) w w'):SesP w' ss mb n c g (y.strip w) s:=by
 have hnob:∀ k,bldG w B b k->(y.strip w).own k=.no:=fun k q=>q.2.elim (fun e=>by rw [e];exact zNq hno) zKc
 refine ⟨h.blk.mod hM (fun q=>q.2.elim (fun e=>hs e.symm) (zIz h.blk (by decide))),h.map.mod hM (fun q=>q.2.elim (fun e=>hm e.symm) ?_),h.house.beside hM (fun k hk q=>?_) (fun k hk q=>hnob k q),h.nos,h.nom,h.n7,h.lo,h.vd.mod hM (fun k hk q=>?_)⟩
 ·obtain ⟨es,clock,hq,_⟩:=h.map
  exact zOc hq
 ·have h7':n<=k:=by have:=q.1;have:=h.n7;omega
  rcases q.2 with e | ⟨cur,fz,hc⟩
  ·rw [e] at h7' ⊢;exact yPv hb ht h7'
  ·exact yPv hc (by decide) h7'
 ·have:=q.1
  omega
theorem zRg{G:Nat->Prop}{w w':World}{B b:Nat}{bs:List Value}(h:Lib.IsBuilderF 31 5 B b bs w)(hm:Mod G w w')(hb:¬ G b)(hr:∀ k,zEj w k->¬ G k):Lib.IsBuilderF 31 5 B b bs w':=by
 have key:∀ p,Lib.BuilderAtF 31 5 B b p bs w->Lib.BuilderAtF 31 5 B b p bs w':=by
  rintro p ⟨h1,v,h2,⟨h3,h4⟩,h5⟩
  refine ⟨h1,v,(hm.block b (Array.getElem?_eq_some_iff.1 h2).1 hb).trans h2,⟨h3,?_⟩,h5⟩
  rcases h4 with h4 | ⟨r,cap,cur,fz,q1,q2,q3,q4⟩
  ·exact .inl h4
  ·exact .inr ⟨r,cap,cur,fz,q1,q2,(hm.block r (Array.getElem?_eq_some_iff.1 q3).1 (hr r ⟨cur,fz,q3⟩)).trans q3,q4⟩
 exact h.elim (fun q=>.inl (key _ q)) (fun q=>.inr (key _ q))
theorem zYq{w:World}{B b:Nat}{bs:List Value}(h:Lib.IsBuilderF 31 5 B b bs w):∃ cs,Blk w b cs 31:=by
 rcases h with ⟨_,v,h2,_⟩ | ⟨_,v,h2,_⟩
 ·exact ⟨[_,v],h2⟩
 ·exact ⟨[_,v],h2⟩
def yMu:ByteArray:=⟨#[110,101,119,32,50,32,51]⟩
def ySb:List ByteArray:=[⟨#[110,101,119]⟩,⟨#[50]⟩,⟨#[51]⟩]
theorem yEf:zBr yMu=ySb:=by decide +kernel
theorem yMs:zPl ⟨#[110,101,119]⟩=some (25,2):=by decide +kernel
theorem ySu:numD ⟨#[50]⟩=some 2:=by
 have h1:Lib.atoiAll (⟨#[50]⟩:ByteArray).data.toList=.ok 2:=by decide +kernel
 have h2:strB (Lib.itoa 2)=⟨#[50]⟩:=by
  have:Lib.itoa 2=[50]:=by unfold Lib.itoa;rw [if_neg (by omega)];exact Lib.decDigits_one (by decide)
  rw [this];rfl
 unfold numD
 rw [h1]
 simp only
 rw [if_pos h2]
theorem yLm:numD ⟨#[51]⟩=some 3:=by
 have h1:Lib.atoiAll (⟨#[51]⟩:ByteArray).data.toList=.ok 3:=by decide +kernel
 have h2:strB (Lib.itoa 3)=⟨#[51]⟩:=by
  have:Lib.itoa 3=[51]:=by unfold Lib.itoa;rw [if_neg (by omega)];exact Lib.decDigits_one (by decide)
  rw [this];rfl
 unfold numD
 rw [h1]
 simp only
 rw [if_pos h2]
theorem yMt{w:World}{ss mb:Nat}(h:zUk w ss mb):Calls Tryz.prog 7 #[.pointer (some ⟨ss,0,none⟩),.string yMu] w fun e w'=>
  (∃ t,e=.returned (.string t))/\(∃ g y,SesP w' ss mb 7 0 g y (newH 2 3)/\∀ k,k<=w.heap.size->y.own k=.no)/\Mod (zAd ss) w w':=by
 obtain ⟨hv,hb⟩:=h.blk
 have hlt:=hb.lt
 have hltm:=World.ownsMap.lt h.map
 refine (yCf yMu (by decide) ySb (by decide) yEf ⟨#[110,101,119]⟩ rfl (by decide) hb h.map yMs (by decide) 0 ⟨#[110,101,119]⟩ (by unfold zBc;omega)
  (Z:=fun A w1 w2=>(∃ g y,SesP w2 ss mb 7 0 g y (newH 2 3)/\∀ k,k<w1.heap.size->y.own k=.no)/\Mod (zAd ss) w1 w2) ?_ ?_).mono ?_
 ·rintro A w1 w2 ⟨⟨g,y,hP,_⟩,hm⟩ hm1
  exact ⟨hP.vd,fun old hq=>hq.mod hm (fun e=>by have e':w.heap.size=ss:=e;omega)⟩
 ·intro A w1 hm1 hA hA1 hc
  refine (zWe (A:=A) ⟨#[110,101,119]⟩ ⟨#[50]⟩ ⟨#[51]⟩ (h.quiet hm1) (by decide) (by decide) (by omega) (hc 0 _ rfl) (hc 1 _ rfl) (hc 2 _ rfl)).mono ?_
  intro e w2 hN
  unfold NewP at hN
  rw [ySu,yLm] at hN
  simp only at hN
  rw [if_pos (by decide)] at hN
  obtain ⟨rfl,⟨g,y,hP,hno⟩,hm2⟩:=hN
  exact ⟨by rw [if_pos rfl],⟨g,y,hP,hno⟩,hm2⟩
 ·rintro e w' ⟨rfl,A,w1,w2,w3,v,hm1,hb1,⟨⟨g,y,hP,hno⟩,hm2⟩,hm3,rfl⟩
  have hb2:Blk w2 w.heap.size [.string ⟨#[]⟩] 9:=hb1.mod hm2 (fun e=>by have e':w.heap.size=ss:=e;omega)
  have hb3:=hb2.mod hm3 id
  have hl1:=hb1.lt
  refine ⟨⟨_,rfl⟩,⟨g,y,(hP.quiet hm3).side hb3 (by decide) (hno _ hl1) (by omega) (by omega) h.vd.sz v,fun k hk=>hno k (by omega)⟩,?_⟩
  have hA:Mod (zAd ss) w w3:=(hm1.mono (fun _ _ e=>e.elim)).trans' (hm2.trans' (G':=zAb) hm3 (fun _ _ e=>e.elim)) (fun k _ e=>e)
  exact hA.setCell (fun e=>(Nat.lt_irrefl _ e).elim) v
noncomputable def yKt(st:zAa × List UInt8)(l:List UInt8):zAa × List UInt8:=((zDp st.1 (strB l)).1,st.2++(zDp st.1 (strB l)).2.data.toList++[10])
noncomputable def zMq(ls:List (List UInt8)):zAa × List UInt8:=ls.foldl yKt (newH 2 3,[])
noncomputable def zQq(t:List UInt8):List UInt8:=(zMq (zHo t)).2
theorem zPe(ls:List (List UInt8))(l:List UInt8):zMq (ls++[l])=yKt (zMq ls) l:=by unfold zMq;rw [List.foldl_append];rfl
noncomputable def zLt(ls:List (List UInt8)):Nat:=(ls.map fun l=>zOs (strB l)).sum
theorem zWg(ls:List (List UInt8))(l:List UInt8):zLt (ls++[l])=zLt ls+zOs (strB l):=by simp [zLt]
theorem yRm(pre:List (List UInt8))(x:List UInt8)(rest:List (List UInt8)):zLt (pre++[x])<=zLt (pre++x :: rest):=by simp [zLt]
theorem zVm:∀ (f:Nat) (r:List UInt8),(zHn f r).length<=f
 | 0,_=>by simp [zHn]
 | f+1,r=>by
  unfold zHn
  split
  ·have:=zVm f (Lib.cut r [10]).2.1
   simp;omega
  ·simp
theorem yNl(r:List UInt8):(Lib.cut r [10]).1.length<=r.length/\(Lib.cut r [10]).2.1.length<=r.length:=by
 unfold Lib.cut
 split
 ·simp only [List.length_take,List.length_drop];omega
 ·simp
theorem zQi:∀ (f:Nat) (r l:List UInt8),l∈zHn f r->l.length<=r.length
 | 0,_,_,h=>by simp [zHn] at h
 | f+1,r,l,h=>by
  unfold zHn at h
  have hc:=yNl r
  rcases List.mem_cons.1 h with rfl | h
  ·exact hc.1
  ·split at h
   ·have:=zQi f _ l h
    omega
   ·cases h
theorem zJo(l:List UInt8):(strB l).size=l.length:=by simp [strB,ByteArray.size]
theorem yFa(t:List UInt8):(Lib.trimSuffix t [10]).length<=t.length:=by
 unfold Lib.trimSuffix
 split
 ·rw [List.length_take];omega
 ·omega
theorem zYz{line:ByteArray}(i:Nat):(wAt (zBr line) i).size<=line.size:=by
 unfold wAt
 rw [List.getD_eq_getElem?_getD]
 cases e:(zBr line)[i]? with
 | none=>simp
 | some x=>exact zRn e
theorem zRk{e:Int}(h:zBc e):(zGy e).size<=30:=by
 have:=zYf h
 unfold zGy
 rw [ByteArray.size_append]
 have e1:(⟨#[101,114,114,111,114,32]⟩:ByteArray).size=6:=rfl
 omega
theorem zEf{s:zAa}{x:ByteArray}{f:Int->DoR}{N:Nat}(h:∀ v,(f v).2.2.size<=N):(zCd s x f).2.2.size<=N:=by
 unfold zCd
 split
 ·exact h _
 ·simp
theorem zDm{c:Prop}[Decidable c]{a b:DoR}{N:Nat}(ha:a.2.2.size<=N)(hb:b.2.2.size<=N):(if c then a else b).2.2.size<=N:=by split <;> assumption
theorem yPe(f:Nat){s:zAa}(h:Shrt s)(hl:s.txs.length<=60)(hd:2<=s.lines.length/\s.lines.length<=5)(line:ByteArray):(runD f s (zBr line)).2.2.size<=line.size+100:=by
 have h0:=zYz (line:=line) 0
 have w0:(wAt (zBr line) 0).size<=line.size+100:=by omega
 have hit:∀ n:Int,zBc n->(strB (Lib.itoa n)).size<=line.size+100:=fun n hn=>by have:=zYf hn;omega
 have hfb : ("true".toUTF8.data.toList).length ≤ 10 ∧ ("false".toUTF8.data.toList).length ≤ 10 := by decide +kernel
 unfold runD
 refine zDm (by rw [zJo];unfold Lib.formatBool;split <;> omega) ?_
 refine zDm (by unfold begD;split;exact hit _ (by unfold zBc;omega);simp) ?_
 refine zDm w0 ?_
 refine zDm (zEf fun v=>w0) ?_
 refine zDm (zEf fun v=>w0) ?_
 refine zDm (zEf fun v=>w0) ?_
 refine zDm (zEf fun v=>w0) ?_
 refine zDm (zEf fun v=>w0) ?_
 refine zDm w0 ?_
 refine zDm (zEf fun v=>?_) ?_
 ·simp only
  split
  ·have:=h.value v (wAt (zBr line) 2)
   rw [ByteArray.size_append]
   have e1:(⟨#[105,115,32]⟩:ByteArray).size=3:=rfl
   omega
  ·have e1:(⟨#[110,111,110,101]⟩:ByteArray).size=4:=rfl
   omega
 have h100:yIf.size<=100:=by decide +kernel
 refine zDm (by show yIf.size<=_;omega) ?_
 refine zDm (zEf fun v=>w0) ?_
 refine zDm (zEf fun v=>zEf fun u=>w0) ?_
 refine zDm (zEf fun v=>w0) ?_
 refine zDm (hit _ ?_) ?_
 ·have hsh:zAv s (wAt (zBr line) 1)<=10:=by
   unfold zAv
   have e:0<decH s:=by unfold decH;omega
   have:=Nat.mod_lt (sumK (wAt (zBr line) 1)) e
   unfold decH at this
   unfold decH
   omega
  unfold zBc;omega
 refine zDm (zEf fun v=>?_) ?_
 ·simp only
  have:∀ n,(zQd n).size<=20:=fun n=>by unfold zQd;split;decide;split;decide;split;decide;split <;> decide
  have:=this (zGf s v)
  omega
 refine zDm w0 ?_
 exact zEf fun v=>w0
theorem yEs{s:zAa}(h:Shrt s)(hl:s.txs.length<=60)(hd:2<=s.lines.length/\s.lines.length<=5)(line:ByteArray):(zDp s line).2.size<=line.size+100:=by
 have hw:(zGy 3).size<=line.size+100:=by have:=zRk (e:=3) (by unfold zBc;omega);omega
 unfold zDp
 split
 ·have e1:(⟨#[111,107]⟩:ByteArray).size=2:=rfl
  simp only;omega
 ·split
  ·exact hw
  ·split
   ·simp only
    unfold ySl
    split
    ·exact yPe _ h hl hd line
    ·rename_i f n _ _ _
     have:=zRk (zZp f s (zBr line)).in
     omega
   ·exact hw
end Go.Proofs.YtogaigioeohjaaaGreatDoor
namespace Go.Proofs.YtogaigioeohjaaaGreatDoor
open Go.RowKit Go.Lib Go.Maps Go.Shelf
theorem notStL{w:World}{L:Lo}{k:Nat}{r:Loop}(hk:w.heap[k]?=some (.loop r))(hn:L.n<=k):¬ St w L k:=by
 rintro (h | ⟨⟨cur',fr',h⟩,_⟩)
 ·omega
 ·rw [hk] at h;simp at h
def betw(w0 d l k:Nat):Prop:=w0<=k/\k≠d/\k≠l
structure StQ(w0 ss mb sb b d l:Nat)(s:zAa)(m:Nat)(out:List UInt8)(c g:Nat)(y:HLay)(W:World):Prop where
 ses:SesP W ss mb 7 c g y s
 ok:SesI m c s
 box:Blk W sb [.pointer (some ⟨ss,0,none⟩)] 26
 bld:Lib.IsBuilderF 31 5 w0 b (Lib.byteCells out) W
 no:∀ k,(k<w0\/k=sb\/k=b\/k=d\/k=l)->y.own k=.no
 rcd:∃ r,W.heap[l]?=some (.loop r)
 dfr:∃ o,W.heap[d]?=some (.deferred o)
 lo:7<=w0/\w0<=ss/\w0<=mb/\w0<=sb
def StP(w0 ss mb sb b d l:Nat)(s:zAa)(m:Nat)(out:List UInt8)(W:World):Prop:=∃ c g y,StQ w0 ss mb sb b d l s m out c g y W
section
variable {w0 ss mb sb b d l m:Nat} {s:zAa} {out:List UInt8} {W:World}
theorem StP.quiet{W':World}(h:StP w0 ss mb sb b d l s m out W)(hm:Mod zAb W W'):StP w0 ss mb sb b d l s m out W':=by
 obtain ⟨c,g,y,h⟩:=h
 obtain ⟨r,hr⟩:=h.rcd
 obtain ⟨o,ho⟩:=h.dfr
 exact ⟨c,g,y,h.ses.quiet hm,h.ok,h.box.mod hm id,zRg h.bld hm id (fun _ _=>id),h.no,⟨r,by rw [hm.block l (Array.getElem?_eq_some_iff.1 hr).1 id];exact hr⟩,⟨o,by rw [hm.block d (Array.getElem?_eq_some_iff.1 ho).1 id];exact ho⟩,h.lo⟩
theorem StQ.apart{c g:Nat}{y:HLay}(h:StQ w0 ss mb sb b d l s m out c g y W):d≠ss/\d≠mb/\d≠sb/\d≠b/\l≠ss/\l≠mb/\l≠sb/\l≠b/\l≠d/\b≠ss/\b≠mb/\sb≠ss/\sb≠b/\¬ zEj W d/\¬ zEj W l:=by
 obtain ⟨r,hr⟩:=h.rcd
 obtain ⟨o,ho⟩:=h.dfr
 obtain ⟨cs,hb⟩:=zYq h.bld
 have h1:W.heap[ss]?=_:=h.ses.blk
 have h3:W.heap[sb]?=_:=h.box
 have h4:W.heap[b]?=_:=hb
 obtain ⟨es,clock,h2,_⟩:=h.ses.map
 refine ⟨?_,?_,?_,?_,?_,?_,?_,?_,?_,?_,?_,?_,?_,?_,?_⟩
 ·rintro rfl;rw [ho] at h1;simp at h1
 ·rintro rfl;rw [ho] at h2;simp at h2
 ·rintro rfl;rw [ho] at h3;simp at h3
 ·rintro rfl;rw [ho] at h4;simp at h4
 ·rintro rfl;rw [hr] at h1;simp at h1
 ·rintro rfl;rw [hr] at h2;simp at h2
 ·rintro rfl;rw [hr] at h3;simp at h3
 ·rintro rfl;rw [hr] at h4;simp at h4
 ·rintro rfl;rw [hr] at ho;simp at ho
 ·rintro rfl;rw [h1] at h4;simp at h4
 ·rintro rfl;rw [h2] at h4;simp at h4
 ·rintro rfl;rw [h1] at h3;simp at h3
 ·rintro rfl;rw [h4] at h3;simp at h3
 ·rintro ⟨c',fz,q⟩;rw [ho] at q;simp at q
 ·rintro ⟨c',fz,q⟩;rw [hr] at q;simp at q
theorem StP.put(h:StP w0 ss mb sb b d l s m out W)(h7:7<=l)(r':Loop):StP w0 ss mb sb b d l s m out (W.putObj l (.loop r')):=by
 obtain ⟨c,g,y,h⟩:=h
 obtain ⟨r,h8⟩:=h.rcd
 obtain ⟨o,ho⟩:=h.dfr
 obtain ⟨a1,a2,a3,a4,a5,a6,a7,a8,a9,-,-,-,-,-,a10⟩:=h.apart
 have hm:Mod (zAd l) W (W.putObj l (.loop r')):=(Mod.refl (zAd l) W).putObj (fun _=>(rfl:l=l)) _
 have hs:=h.ses
 refine ⟨c,g,y,⟨hs.blk.mod hm (fun e=>a5 e.symm),hs.map.mod hm (fun e=>a6 e.symm),hs.house.beside hm (fun k hk e=>?_) (fun k hk e=>?_),hs.nos,hs.nom,hs.n7,hs.lo,hs.vd.mod hm (fun k hk e=>?_)⟩,h.ok,h.box.mod hm (fun e=>a7 e.symm),zRg h.bld hm (fun e=>a8 e.symm) (fun k hk e=>?_),h.no,⟨r',World.putObj_heap_same (Array.getElem?_eq_some_iff.1 h8).1⟩,⟨o,by rw [hm.block d (Array.getElem?_eq_some_iff.1 ho).1 (fun e=>a9 e.symm)];exact ho⟩,h.lo⟩
 ·have e':k=l:=e
  rw [e'];exact notStL h8 h7
 ·have e':k=l:=e
  rw [e'];exact h.no l (.inr (.inr (.inr (.inr rfl))))
 ·have e':k=l:=e
  omega
 ·have e':k=l:=e
  rw [e'] at hk
  exact a10 hk
theorem StP.answer(h:StP w0 ss mb sb b d l s m out W)(hm:m<=900)(hne:ss≠mb)(line:ByteArray)(hl:line.size<=100000) :
  Calls Tryz.prog 7 #[.pointer (some ⟨ss,0,none⟩),.string line] W fun e W'=>e=.returned (.string (zDp s line).2)/\StP w0 ss mb sb b d l (zDp s line).1 (m+zOs line) out W'/\Mod (betw w0 d l) W W':=by
 obtain ⟨c,g,y,h⟩:=h
 obtain ⟨a1,a2,a3,a4,a5,a6,a7,a8,a9,a11,a12,a13,a14,a10,a15⟩:=h.apart
 refine (yJn h.ses.strip h.ok hm hne line hl).mono ?_
 rintro e W' ⟨rfl,n',c',g',y',hP,hI,hmd,hold⟩
 have hn7:=hP.n7
 subst hn7
 obtain ⟨r,hr⟩:=h.rcd
 obtain ⟨o,ho⟩:=h.dfr
 obtain ⟨cs,hb⟩:=zYq h.bld
 have hno:∀ k,(k<w0\/k=sb\/k=b\/k=d\/k=l)->(y.strip W).own k=.no:=fun k hk=>zNq (h.no k hk)
 have nses:∀ k,k≠ss->(k<w0\/k=sb\/k=b\/k=d\/k=l)->¬ Go.Proofs.YtogaigioeohjaaaGreatDoor.ses ss (y.strip W) k:=fun k h1 h2 e=>e.elim h1 (fun e=>e (hno k h2))
 have hlo:=h.lo
 refine ⟨rfl,⟨c',g',y',hP,hI,h.box.mod hmd (nses sb a13 (.inr (.inl rfl))),zRg h.bld hmd (nses b a11 (.inr (.inr (.inl rfl)))) (fun k hk e=>?_),fun k hk=>?_,⟨r,?_⟩,⟨o,?_⟩,h.lo⟩,hmd.mono (fun k hkl e=>?_)⟩
 ·rcases e with e | e
  ·rw [e] at hk;exact zIz h.ses.blk (by decide) hk
  ·exact e (zKc hk)
 ·by_cases hkl:k<W.heap.size
  ·exact hold k hkl (hno k hk)
  ·exfalso
   have q1:=h.ses.blk.lt
   have q2:=h.box.lt
   have q3:=hb.lt
   have q4:=(Array.getElem?_eq_some_iff.1 hr).1
   have q5:=(Array.getElem?_eq_some_iff.1 ho).1
   rcases hk with hk | rfl | rfl | rfl | rfl <;> omega
 ·rw [hmd.block l (Array.getElem?_eq_some_iff.1 hr).1 (nses l a5 (.inr (.inr (.inr (.inr rfl)))))];exact hr
 ·rw [hmd.block d (Array.getElem?_eq_some_iff.1 ho).1 (nses d a1 (.inr (.inr (.inr (.inl rfl)))))];exact ho
 ·rcases e with e | e
  ·rw [e];exact ⟨hlo.2.1,fun q=>a1 q.symm,fun q=>a5 q.symm⟩
  ·refine ⟨Nat.le_of_not_lt fun q=>e (hno k (.inl q)),fun q=>e (hno k (.inr (.inr (.inr (.inl q))))),fun q=>e (hno k (.inr (.inr (.inr (.inr q)))))⟩
theorem StQ.wrote{c g:Nat}{y:HLay}{W':World}{out':List UInt8}(h:StQ w0 ss mb sb b d l s m out c g y W)(hbel:Below w0 W W')(hk:Lib.OthersKept 5 (some b) W W')(hb':Lib.IsBuilderF 31 5 w0 b (Lib.byteCells out') W') :
  StP w0 ss mb sb b d l s m out' W'/\Mod (betw w0 d l) W W':=by
 obtain ⟨a1,a2,a3,a4,a5,a6,a7,a8,a9,a11,a12,a13,a14,a10,a15⟩:=h.apart
 have hM:=yTo hbel hk
 obtain ⟨r,hr⟩:=h.rcd
 obtain ⟨o,ho⟩:=h.dfr
 obtain ⟨cs,hb⟩:=zYq h.bld
 refine ⟨⟨c,g,y.strip W,h.ses.strip.built hb (by decide) (h.no b (.inr (.inr (.inl rfl)))) a11 a12 h.lo.1 hM,h.ok,h.box.mod hM (fun q=>q.2.elim a14 (zIz h.box (by decide))),hb',fun k q=>zNq (h.no k q),⟨r,?_⟩,⟨o,?_⟩,h.lo⟩,hM.mono (fun k _ q=>⟨q.1,fun e=>?_,fun e=>?_⟩)⟩
 ·rw [hM.block l (Array.getElem?_eq_some_iff.1 hr).1 (fun q=>q.2.elim a8 a15)];exact hr
 ·rw [hM.block d (Array.getElem?_eq_some_iff.1 ho).1 (fun q=>q.2.elim a4 a10)];exact ho
 ·rw [e] at q;exact q.2.elim a4 a10
 ·rw [e] at q;exact q.2.elim a8 a15
theorem StQ.size{c g:Nat}{y:HLay}(h:StQ w0 ss mb sb b d l s m out c g y W):w0<=W.heap.size:=by
 have:=h.ses.blk.lt
 have:=h.lo
 omega
theorem StP.write(h:StP w0 ss mb sb b d l s m out W)(t:ByteArray)(ht:out.length+t.size<=140737488355328) :
  Calls Tryz.prog 9 #[.pointer (some ⟨b,0,none⟩),.string t] W fun e W'=>(∃ v,e=.returned v)/\StP w0 ss mb sb b d l s m (out++t.data.toList) W'/\Mod (betw w0 d l) W W':=by
 obtain ⟨c,g,y,h⟩:=h
 refine (Tryz.Builder_WriteString_k w0 b _ t W h.bld (by rw [Lib.byteCells_length];exact ht) h.size).mono ?_
 rintro e W' ⟨rfl,hb,hbel,hk⟩
 exact ⟨⟨_,rfl⟩,h.wrote hbel hk (.inr (by rw [Lib.byteCells_append];exact hb))⟩
theorem StP.byte(h:StP w0 ss mb sb b d l s m out W)(ht:out.length+1<=140737488355328) :
  Calls Tryz.prog 10 #[.pointer (some ⟨b,0,none⟩),.int .u8 10] W fun e W'=>(∃ v,e=.returned v)/\StP w0 ss mb sb b d l s m (out++[10]) W'/\Mod (betw w0 d l) W W':=by
 obtain ⟨c,g,y,h⟩:=h
 refine (Tryz.Builder_WriteByte_k w0 b _ 10 W h.bld (by rw [Lib.byteCells_length];exact ht) h.size).mono ?_
 rintro e W' ⟨rfl,hb,hbel,hk⟩
 exact ⟨⟨_,rfl⟩,h.wrote hbel hk (.inr (by rw [Lib.byteCells_append];exact hb))⟩
theorem StP.string(h:StP w0 ss mb sb b d l s m out W) :
  Calls Tryz.prog 11 #[.pointer (some ⟨b,0,none⟩)] W fun e W'=>e=.returned (.string (strB out))/\Mod (betw w0 d l) W W':=by
 obtain ⟨c,g,y,h⟩:=h
 refine (Tryz.Builder_String_any_k w0 b out W h.bld h.size).mono ?_
 rintro e W' ⟨rfl,hb,hbel,hk⟩
 exact ⟨rfl,(h.wrote hbel hk hb).2⟩
end
end Go.Proofs.YtogaigioeohjaaaGreatDoor
