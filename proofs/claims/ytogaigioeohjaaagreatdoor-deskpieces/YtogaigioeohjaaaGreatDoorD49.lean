import Derived.Test.YtogaigioeohjaaaGreatDoorD48
set_option linter.unusedVariables false
set_option maxRecDepth 100000
set_option maxHeartbeats 16000000
namespace Go.Proofs.YtogaigioeohjaaaGreatDoor
open Go.RowKit Go.Lib Go.Maps Go.Shelf
attribute [local go_sem] Oper.semAt_some
theorem yHw(text:ByteArray)(n:Nat)(w:World):CallsIn Fence.wide n Tryz.prog 8 #[.string text] w fun e w'=>e=.returned (.func (.func 33) #[] #[.pointer (some ⟨w.heap.size,0,none⟩)])/\w'=w.alloc (.cells #[.string text] 9):=by
 refine callsIn_wide.2 ?_
 have hmf:=yDo
 go_enter Tryz.func8,Tryz.ntmps8
 go_wp2_with fail
 go_ret
 exact ⟨rfl,rfl⟩
def RunI(w0 ss mb sb b d l:Nat)(pre:List (List UInt8))(W:World):Prop:=
 StP w0 ss mb sb b d l (zMq pre).1 (1+zLt pre) (zMq pre).2 W/\(zMq pre).2.length<=pre.length*200000
theorem RunI.beside{w0 ss mb sb b d l:Nat}(h7:7<=l):yCl l (RunI w0 ss mb sb b d l):=
 ⟨fun pre A B hm h=>⟨h.1.quiet hm,h.2⟩,fun pre A r' h=>⟨h.1.put h7 r',h.2⟩⟩
theorem StP.told{w0 ss mb sb b d l m:Nat}{s:zAa}{out:List UInt8}{W:World}(h:StP w0 ss mb sb b d l s m out W)(line:ByteArray)(hl:line.size<=20000):(zDp s line).2.size<=30000:=by
 obtain ⟨c,g,y,h⟩:=h
 have:=yEs h.ok.sh h.ok.txs h.ok.rest.c.safe.shape.ll line
 omega
theorem StP.boxed{w0 ss mb sb b d l m:Nat}{s:zAa}{out:List UInt8}{W:World}(h:StP w0 ss mb sb b d l s m out W):W.cell? ⟨sb,0,none⟩=some (.pointer (some ⟨ss,0,none⟩)):=by
 obtain ⟨c,g,y,h⟩:=h
 exact h.box.cell 0 rfl
theorem size_list(t:ByteArray):t.data.toList.length=t.size:=Array.length_toList
theorem yHy{text:ByteArray}{pre rest:List (List UInt8)}{x:List UInt8}(h:zHo text.data.toList=pre++x :: rest):(strB x).size<=text.size/\pre.length+1<=text.size+1:=by
 have hx:x∈zHo text.data.toList:=by rw [h];simp
 have h1:=zQi _ _ x hx
 have h2:=yFa text.data.toList
 have h3:=zVm ((Lib.trimSuffix text.data.toList [10]).length+1) (Lib.trimSuffix text.data.toList [10])
 have h4:(zHo text.data.toList).length=pre.length+1+rest.length:=by rw [h];simp;omega
 unfold zHo at h4
 rw [size_list] at h2
 rw [zJo]
 omega
theorem yDb(text:ByteArray)(ht:text.size<=20000)(hco:zLt (zHo text.data.toList)<=899)(w:World)(hv:VD w) :
  Calls Tryz.prog 4 #[.string text] w fun e w'=>e=.returned (.string (strB (zQq text.data.toList)))/\Mod zAb w w':=by
 obtain ⟨n,hn⟩:∃ n:Nat,60<=n:=⟨60,Nat.le_refl _⟩
 have n1:1<=n:=by omega
 refine (callsIn_wide (n:=n)).1 ?_
 have HNS:=callsIn_wide (n:=n - 1) |>.2 (zTz w hv)
 refine callsIn_of_wp_marks Tryz.func4 rfl trivial ?_ rfl
 simp only [Tryz.ntmps4,List.size_toArray,List.length_cons,List.length_nil,Nat.reduceAdd,Nat.reduceSub,Array.replicate_succ,Array.replicate_zero,List.push_toArray,List.append_toArray,List.nil_append,List.cons_append]
 have hsz:¬ 20000<text.size:=by omega
 gi_wp2_with (first
  | (refine ⟨trivial,?_⟩;gi_at_call 6;refine HNS.mono ?_;rintro e w1 ⟨rfl,hB1,hm1,hs1⟩)
  | (refine ⟨trivial,?_⟩;gi_at_call 7;refine ((callsIn_wide (n:=n - 1)).2 (yMt (hB1.quiet ((Mod.refl zAb w1).alloc _)))).mono ?_;rintro e w3 ⟨⟨t0,rfl⟩,⟨g,y,hP3,hno3⟩,hm3⟩)
  | (refine ⟨trivial,?_⟩;gi_at_call 8;refine (yHw _ _ _).mono ?_;rintro e w' ⟨rfl,rfl⟩))
 obtain ⟨w2,hw2⟩:∃ q,q=w1.alloc (.cells #[.pointer (some ⟨w.heap.size,0,none⟩)] 26):=⟨_,rfl⟩
 have hb2:Blk w2 w1.heap.size [.pointer (some ⟨w.heap.size,0,none⟩)] 26:=by rw [hw2];exact Blk.new w1 _ _
 have hs2:w2.heap.size=w1.heap.size+1:=by rw [hw2];simp
 rw [<-hw2] at hm3 hno3
 obtain ⟨w4,hw4⟩:∃ q,q=w3.alloc (.cells #[.pointer none,.slice none 0 0] 31):=⟨_,rfl⟩
 have hb4:Blk w4 w3.heap.size [.pointer none,.slice none 0 0] 31:=by rw [hw4];exact Blk.new w3 _ _
 have hs4:w4.heap.size=w3.heap.size+1:=by rw [hw4];simp
 obtain ⟨w5,hw5⟩:∃ q,q=w4.alloc (.cells #[.string text] 9):=⟨_,rfl⟩
 have hb5:Blk w5 (w3.heap.size+1) [.string text] 9:=by rw [hw5,<-hs4];exact Blk.new w4 _ _
 have hs5:w5.heap.size=w3.heap.size+2:=by rw [hw5];simp [hs4]
 have m34:Mod zAb w3 w4:=by rw [hw4];exact (Mod.refl zAb w3).alloc _
 have m45:Mod zAb w4 w5:=by rw [hw5];exact (Mod.refl zAb w4).alloc _
 have m12:Mod zAb w1 w2:=by rw [hw2];exact (Mod.refl zAb w1).alloc _
 have hP5:=hP3.quiet (m34.trans m45)
 have hbx:Blk w5 w1.heap.size [.pointer (some ⟨w.heap.size,0,none⟩)] 26:=(hb2.mod hm3 (fun e=>by have e':w1.heap.size=w.heap.size:=e;omega)).mod (m34.trans m45) id
 have hbd:Lib.IsBuilderF 31 5 w.heap.size w3.heap.size (Lib.byteCells []) w5:=by
  refine .inl ⟨?_,.slice none 0 0,hb4.mod m45 id,World.ownsRowF_nil _ _ _ _,by simp [Value.ownBlock]⟩
  have h1:=hm3.size
  omega
 have hM5:Mod zAb w w5:=(((hm1.trans m12).trans' (G':=zAd w.heap.size) hm3 (fun i hi e=>by have e':i=w.heap.size:=e;omega)).trans m34).trans m45
 have hs3:=hm3.size
 have hv5:=hv.quiet hM5
 rw [<-hw4,<-hw5]
 clear hw2 hw4 hw5 hb2 hb4 m34 m45 m12 HNS
 refine yHk (gf:=33) (lb:=#[.pointer (some ⟨w3.heap.size+1,0,none⟩)]) rfl (enters_of Tryz.func33 (by kernel_rfl) rfl) (yHv (n - 1) (by omega) (w3.heap.size+1) text (by omega) w5 hv5 (hb5.cell 0 rfl)) (fun x=>rfl)
  (betw w.heap.size w5.heap.size (w5.heap.size+1)) (fun e=>e.2.2 rfl) (fun e=>e.2.1 rfl) (fun k hk=>?_)
  (RunI w.heap.size w.heap.size (w.heap.size+1) w1.heap.size w3.heap.size w5.heap.size (w5.heap.size+1)) (fun _ _=>False) (RunI.beside (by have:=hv.sz;omega)) ⟨fun _ _ _ _ e=>e,fun _ _ _ e=>e⟩ (fun W r hm hl hd=>?_) ?_ ?_ ?_
 ·subst hk
  have:=hv.sz
  exact ⟨by omega,fun e=>by have:=e.1;omega⟩
 ·refine ⟨⟨0,g,y,hP5.quiet hm,?_,hbx.mod hm id,zRg hbd hm id (fun _ _=>id),fun k hk=>?_,⟨r,hl⟩,⟨_,hd⟩,?_⟩,by simp [zMq]⟩
  ·exact (SesI.new (m:=0) (a:=2) (b:=3) (by omega) (by omega):SesI (0+1) 0 (newH 2 3))
  ·rcases hk with hk | rfl | rfl | rfl | rfl
   ·exact hno3 k (by omega)
   ·exact hno3 _ (by omega)
   ·exact hP3.nobody (Nat.le_refl _)
   ·exact hP3.nobody (by omega)
   ·exact hP3.nobody (by omega)
  ·have:=hv.sz
   have:=hm1.size
   omega
 ·intro pre x rest W hx hI hlW
  have hls:=yHy hx
  have hcx:1+zLt pre<=900:=by
   have:=yRm pre x rest
   rw [<-hx,zWg] at this
   omega
  have HS5:=Hmq hs5
  have HS2:=Hmq hs2
  have HS4:=Hmq hs4
  have HCX:=Hmq hcx
  have HLS:=Hmq hls
  have HOW:Hid (∀ W',StP w.heap.size w.heap.size (w.heap.size+1) w1.heap.size w3.heap.size w5.heap.size (w5.heap.size+1) (zMq pre).1 (1+zLt pre) (zMq pre).2 W'->(zMq pre).2.length<=pre.length*200000->(zMq pre).2.length+(zDp (zMq pre).1 (strB x)).2.size<=pre.length*200000+30000/\pre.length<=20000):=Hmq (fun W' q1 q2=>by
   have:=q1.told (strB x) (by omega)
   omega)
  have hn3:1<=n - 1 - 1:=by omega
  clear hs5 hs2 hs4 hcx hls
  dsimp only [encL]
  gi_wp2
  refine ⟨Mod.refl _ _,fun Wb hmb hlb hIb=>?_⟩
  clear hI hlW hmb hlb
  obtain ⟨hS,hL⟩:=hIb
  have z1:=hS.boxed
  gi_wp2_with (first
   | (refine ⟨trivial,?_⟩;gi_at_call 7;refine (CallsIn.inRound (w5.heap.size+1) (callsIn_wide.2 (StP.answer hS HCX.out (by omega) (strB x) (by have:=HLS.out;omega)))).mono ?_;rintro e W1 ⟨rfl,hS1,hM1⟩)
   | (refine ⟨trivial,?_⟩;gi_at_call 9;refine (CallsIn.inRound (w5.heap.size+1) (callsIn_wide.2 (StP.write hS1 _ (by have:=HOW.out _ hS hL;omega)))).mono ?_;rintro e W2 ⟨⟨v2,rfl⟩,hS2,hM2⟩)
   | (refine ⟨trivial,?_⟩;gi_at_call 10;refine (CallsIn.inRound (w5.heap.size+1) (callsIn_wide.2 (StP.byte hS2 (by have:=HOW.out _ hS hL;rw [List.length_append,size_list];omega)))).mono ?_;rintro e W3 ⟨⟨v3,rfl⟩,hS3,hM3⟩))
  have hq:=HOW.out _ hS hL
  refine ⟨(hM1.trans hM2).trans hM3,⟨?_,?_⟩⟩
  ·rw [zPe,zWg,<-Nat.add_assoc]
   exact hS3
  ·rw [zPe]
   unfold yKt
   simp only [List.length_append,size_list,List.length_cons,List.length_nil]
   omega
 ·intro W hm hd hI
  obtain ⟨hS,-⟩:=hI
  gi_wp2_with (refine ⟨trivial,?_⟩;gi_at_call 11;refine (callsIn_wide.2 (StP.string hS)).mono ?_;rintro e W1 ⟨rfl,hM1⟩)
  have hd1:=hM1.block w5.heap.size (Array.getElem?_eq_some_iff.1 hd).1 (fun e=>e.2.1 rfl)
  rw [hd] at hd1
  refine ⟨by simp,.inl ⟨_,_,rfl,run_takeDeferred (by rw [<-hs5];exact hd1),?_⟩⟩
  have hmP:Mod (zDd w.heap.size) W1 (W1.putObj (w3.heap.size+2) (.deferred none)):=(Mod.refl _ _).putObj (fun _=>by simp only [zDd];omega) _
  refine ⟨.string (strB (zQq text.data.toList)),?_,rfl,?_⟩
  ·simp [results,Tryz.f4,go_sem,zQq]
  ·exact hM5.trans' (((hm.trans hM1).mono (G':=zDd w.heap.size) (fun k _ e=>e.1)).trans hmP) (fun i hi e=>by have:w.heap.size<=i:=e;omega)
 ·intro c W hm hd e
  exact e.elim
end Go.Proofs.YtogaigioeohjaaaGreatDoor
namespace Go.Proofs.YtogaigioeohjaaaGreatDoor
open Go.RowKit Go.Lib Go.Maps
theorem yNk:Lib.cut [] [10]=([],[],false):=rfl
theorem zTm(l:List UInt8):Lib.cut (10 :: l) [10]=([],l,true):=by
 have e:Lib.index (10 :: l) [10]=0:=by unfold Lib.index;simp
 unfold Lib.cut
 rw [e]
 simp
theorem zOq{b:UInt8}(hb:b≠10)(l:List UInt8):Lib.cut (b :: l) [10]=(b :: (Lib.cut l [10]).1,(Lib.cut l [10]).2.1,(Lib.cut l [10]).2.2):=by
 have hp:([10]:List UInt8).isPrefixOf (b :: l)=false:=by simp [List.isPrefixOf,Ne.symm hb]
 have e:Lib.index (b :: l) [10]=if Lib.index l [10] == -1 then -1 else Lib.index l [10]+1:=by
  rw [Lib.index,hp]
  simp
 have hg:=Lib.index_ge l [10]
 unfold Lib.cut
 rw [e]
 by_cases h:Lib.index l [10] = -1
 ·rw [h];simp
 ·have h0:0<=Lib.index l [10]:=by omega
  have h1:¬ (Lib.index l [10] == -1)=true:=by simpa using h
  rw [if_neg h1,if_pos h0,if_pos (by omega)]
  have h2:(Lib.index l [10]+1).toNat=(Lib.index l [10]).toNat+1:=by omega
  rw [h2]
  simp
theorem yNm:∀ (a t:List UInt8),(Lib.cut a [10]).2.2=true->Lib.cut (a++t) [10]=((Lib.cut a [10]).1,(Lib.cut a [10]).2.1++t,true)
 | [],t,h=>by rw [yNk] at h;cases h
 | b :: l,t,h=>by
  by_cases hb:b=10
  ·subst hb
   rw [List.cons_append,zTm,zTm]
  ·rw [zOq hb] at h ⊢
   rw [List.cons_append,zOq hb,yNm l t h]
theorem yGd:∀ (a t:List UInt8),(Lib.cut a [10]).2.2=false->Lib.cut (a++10 :: t) [10]=(a,t,true)/\(Lib.cut a [10]).1=a
 | [],t,h=>⟨by rw [List.nil_append,zTm],rfl⟩
 | b :: l,t,h=>by
  by_cases hb:b=10
  ·subst hb
   rw [zTm] at h
   cases h
  ·rw [zOq hb] at h ⊢
   obtain ⟨h1,h2⟩:=yGd l t h
   rw [List.cons_append,zOq hb,h1]
   exact ⟨rfl,by rw [h2]⟩
theorem yAr(t:List UInt8):∀ (f f':Nat) (a:List UInt8),a.length<f->a.length+1+t.length<f'->zHn f a <+: zHn f' (a++10 :: t)
 | 0,_,a,h,_=>by omega
 | _+1,0,a,_,h=>by omega
 | f+1,f'+1,a,h,h'=>by
  unfold zHn
  cases e:(Lib.cut a [10]).2.2 with
  | true=>
   rw [yNm a _ e]
   have hl:=yGe e
   simp only [if_true]
   exact List.cons_prefix_cons.2 ⟨rfl,yAr t f f' _ (by omega) (by omega)⟩
  | false=>
   obtain ⟨h1,h2⟩:=yGd a t e
   rw [h1,h2]
   simp
theorem zWz(a:List UInt8):Lib.trimSuffix (a++[10]) [10]=a:=by
 unfold Lib.trimSuffix Lib.hasSuffix
 simp
theorem yOu(a b:List UInt8)(hb:b≠[]):Lib.trimSuffix (a++b) [10]=a++Lib.trimSuffix b [10]:=by
 rcases List.eq_nil_or_concat b with rfl | ⟨b',x,rfl⟩
 ·exact absurd rfl hb
 ·by_cases hx:x=10
  ·subst hx
   rw [List.concat_eq_append,<-List.append_assoc,zWz,zWz]
  ·have hn:∀ c:List UInt8,Lib.trimSuffix (c++[x]) [10]=c++[x]:=fun c=>by
    unfold Lib.trimSuffix
    rw [if_neg]
    unfold Lib.hasSuffix
    simp
    intro q
    simp_all
   rw [List.concat_eq_append,<-List.append_assoc,hn,hn,List.append_assoc]
theorem yHx(a b:List UInt8):zHo (a++[10]) <+: zHo (a++[10]++b):=by
 by_cases hb:b=[]
 ·subst hb;rw [List.append_nil];exact List.prefix_refl _
 ·unfold zHo
  rw [yOu _ _ hb,zWz,List.append_assoc]
  refine yAr _ _ _ a (by omega) ?_
  simp
  omega
theorem zZl:∀ (q p:List (List UInt8)),(zMq p).2 <+: (zMq (p++q)).2
 | [],p=>by rw [List.append_nil];exact List.prefix_refl _
 | x :: q,p=>by
  have h:=zZl q (p++[x])
  rw [List.append_assoc] at h
  refine List.IsPrefix.trans ?_ h
  rw [zPe]
  unfold yKt
  rw [List.append_assoc]
  exact List.prefix_append _ _
theorem yKw(a b:List UInt8):zQq (a++[10]) <+: zQq (a++[10]++b):=by
 obtain ⟨q,hq⟩:=yHx a b
 unfold zQq
 rw [<-hq]
 exact zZl q _
theorem yPq:∀ x∈ordR,3<=x.1.length:=by decide
theorem yJc(l:List UInt8):zOs (strB l)=0\/(zOs (strB l)=1/\3<=l.length):=by
 unfold zOs
 split
 ·exact .inl rfl
 ·split
  ·exact .inl rfl
  ·rename_i h1 h2
   refine .inr ⟨rfl,?_⟩
   have h3:=zYz (line:=strB l) 0
   rw [zJo] at h3
   refine Nat.le_trans ?_ h3
   unfold zPl at h2
   cases e:ordR.find? (fun x=>x.1 == (wAt (zBr (strB l)) 0).data.toList) with
   | none=>rw [e] at h2;exact absurd rfl h2
   | some x=>
    have h4:=yPq x (List.mem_of_find?_eq_some e)
    have h5:=List.find?_some e
    have h6:x.1=(wAt (zBr (strB l)) 0).data.toList:=by simpa using h5
    rw [h6,size_list] at h4
    exact h4
theorem yTn(r:List UInt8)(h:(Lib.cut r [10]).2.2=true):(Lib.cut r [10]).1.length+1+(Lib.cut r [10]).2.1.length=r.length:=by
 induction r with
 | nil=>rw [yNk] at h;cases h
 | cons b l ih=>
  by_cases hb:b=10
  ·subst hb
   rw [zTm]
   simp
   omega
  ·rw [zOq hb] at h ⊢
   have:=ih h
   simp
   omega
theorem yBz:∀ (f:Nat) (r:List UInt8),4*zLt (zHn f r)<=r.length+1
 | 0,r=>by simp [zHn,zLt]
 | f+1,r=>by
  unfold zHn
  have hc:=yNl r
  have h1:=yJc (Lib.cut r [10]).1
  have e:∀ (x:List UInt8) l,zLt (x :: l)=zOs (strB x)+zLt l:=fun x l=>by simp [zLt]
  rw [e]
  cases e2:(Lib.cut r [10]).2.2 with
  | true=>
   have h2:=yBz f (Lib.cut r [10]).2.1
   have h3:=yTn r e2
   simp only [if_true]
   omega
  | false=>
   have h3:zLt []=0:=rfl
   simp only [Bool.false_eq_true,if_false]
   omega
theorem yEk(t:List UInt8)(h:t.length<=2600):zLt (zHo t)<=899:=by
 have h1:=yBz ((Lib.trimSuffix t [10]).length+1) (Lib.trimSuffix t [10])
 have h2:=yFa t
 unfold zHo
 omega
theorem yLt:zHo [98,101,103,105,110,10,120,10]=[[98,101,103,105,110],[120]]:=by decide +kernel
theorem yHn:zPl (wAt (zBr (strB [120])) 0)=none:=by kernel_rfl
theorem ySj:zBr (strB [120])=[strB [120]]:=by kernel_rfl
theorem yOh:(zDp (newH 2 3) (strB [98,101,103,105,110])).2.data.toList=[49]:=by kernel_rfl
theorem ans_x(s:zAa):(zDp s (strB [120])).2.data.toList=[101,114,114,111,114,32,51]:=by
 unfold zDp
 rw [yHn,ySj]
 kernel_rfl
theorem yPc:zQq [98,101,103,105,110,10,120,10]=[49,10,101,114,114,111,114,32,51,10]:=by
 unfold zQq
 rw [yLt]
 unfold zMq
 simp only [List.foldl_cons,List.foldl_nil,yKt]
 rw [ans_x,yOh]
 rfl
end Go.Proofs.YtogaigioeohjaaaGreatDoor
namespace Go.Proofs.YtogaigioeohjaaaGreatDoor
open Go.RowKit Go.Lib Go.Maps Go.Shelf
attribute [local go_sem] Oper.semAt_some
theorem zNe(t:ByteArray)(ht:t.size<=2600)(w:World)(hv:VD w):Calls Tryz.prog 4 #[.string t] w fun e w'=>e=.returned (.string (strB (zQq t.data.toList)))/\Mod zAb w w':=
 yDb t (by omega) (yEk _ (by rw [size_list];exact ht)) w hv
theorem ySn{X Y:List UInt8}(h:X <+: Y):(strB Y).extract 0 (strB X).size=strB X/\(strB X).size<=(strB Y).size:=by
 obtain ⟨Z,rfl⟩:=h
 have e:(strB X).size=X.length:=zJo X
 refine ⟨?_,by rw [zJo,zJo];simp⟩
 rw [e]
 apply ByteArray.ext
 rw [ByteArray.data_extract]
 simp [strB]
theorem yGk(a b:ByteArray):(a++b).data.toList=a.data.toList++b.data.toList:=by
 rw [ByteArray.data_append,Array.toList_append]
theorem zUb(a b:ByteArray)(hab:a.size+b.size<=2500)(w:World)(hv:VD w) :
  Calls Tryz.prog 3 #[.string a,.string b] w fun e w'=>e=.returned (.bool true)/\Mod zAb w w':=by
 have hmf:=yDo
 have hbig:decide (2500<(a.size:Int)+b.size)=false:=decide_eq_false (by omega)
 have H1:=Hmq (show Calls Tryz.prog 4 #[.string ⟨#[98,101,103,105,110,10,120,10]⟩] w fun e w'=>e=.returned (.string ⟨#[49,10,101,114,114,111,114,32,51,10]⟩)/\Mod zAb w w' by
  have h:=zNe ⟨#[98,101,103,105,110,10,120,10]⟩ (by decide) w hv
  rw [show zQq (⟨#[98,101,103,105,110,10,120,10]⟩:ByteArray).data.toList=_ from yPc] at h
  exact h)
 have s2:(a++⟨#[10]⟩:ByteArray).size=a.size+1:=by rw [ByteArray.size_append];rfl
 have s3:(a++⟨#[10]⟩++b:ByteArray).size=a.size+1+b.size:=by rw [ByteArray.size_append,s2]
 obtain ⟨x,hx⟩:∃ x,x=strB (zQq (a++⟨#[10]⟩:ByteArray).data.toList):=⟨_,rfl⟩
 obtain ⟨y,hy⟩:∃ x,x=strB (zQq (a++⟨#[10]⟩++b:ByteArray).data.toList):=⟨_,rfl⟩
 have H2:Hid (∀ W,Mod zAb w W->Calls Tryz.prog 4 #[.string (a++⟨#[10]⟩)] W fun e w'=>e=.returned (.string x)/\Mod zAb W w'):=Hmq (fun W hm=>by rw [hx];exact zNe _ (by omega) W (hv.quiet hm))
 have H3:Hid (∀ W,Mod zAb w W->Calls Tryz.prog 4 #[.string (a++⟨#[10]⟩++b)] W fun e w'=>e=.returned (.string y)/\Mod zAb W w'):=Hmq (fun W hm=>by rw [hy];exact zNe _ (by omega) W (hv.quiet hm))
 have hxy:y.extract 0 x.size=x/\x.size<=y.size:=by
  rw [hx,hy]
  refine ySn ?_
  rw [yGk,yGk]
  exact yKw a.data.toList b.data.toList
 obtain ⟨hex,hle⟩:=hxy
 have hleI:decide ((x.size:Int)<=y.size)=true:=decide_eq_true (by omega)
 have hleJ:(x.size:Int)<=y.size:=by omega
 have HEX:=Hmq hex
 have h7:¬ 9223372036854775807<a.size+1:=by omega
 have h8:¬ 9223372036854775807<a.size+1+b.size:=by omega
 clear hx hy s2 s3 hex hv
 go_enter Tryz.func3,Tryz.ntmps3
 go_wp2_with (first
  | (have hq:=hm1.trans hm2;go_at_call 4;with_reducible refine (H3.out w2 hq).mono ?_;rintro e w3 ⟨rfl,hm3⟩)
  | (have hq:=hm1;go_at_call 4;with_reducible refine (H2.out w1 hq).mono ?_;rintro e w2 ⟨rfl,hm2⟩)
  | (go_at_call 4;with_reducible refine H1.out.mono ?_;rintro e w1 ⟨rfl,hm1⟩))
 go_ret
 refine ⟨?_,(hm1.trans hm2).trans hm3⟩
 rw [HEX.out]
 simp
theorem deskPieces_any(a b:ByteArray)(ha:a.size<=140737488355328)(hb:b.size<=140737488355328)(w:World)(hv:VD w) :
  Calls Tryz.prog 3 #[.string a,.string b] w fun e w'=>e=.returned (.bool true)/\Mod zAb w w':=by
 have hmf:=yDo
 by_cases hbig:2500<(a.size:Int)+b.size
 ·go_enter Tryz.func3,Tryz.ntmps3
  go_wp2_with fail
  go_ret
  exact ⟨rfl,Mod.refl _ _⟩
 ·exact zUb a b (by omega) w hv
end Go.Proofs.YtogaigioeohjaaaGreatDoor
