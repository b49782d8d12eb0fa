import Derived.Test.YtiblcbdkiecbgaaGreatDoorM28
set_option linter.unusedVariables false
set_option maxRecDepth 100000
set_option maxHeartbeats 16000000
namespace Go.Proofs.YtiblcbdkiecbgaaGreatDoor
open Go.RowKit Go.Lib Go.Maps Go.Shelf
attribute [local go_sem] Oper.semAt_some
theorem notStL{w:World}{L:Lo}{k:Nat}{r:Loop}(hk:w.heap[k]?=some (.loop r))(hn:L.n<=k):¬ St w L k:=by
 rintro (h | ⟨⟨cur',fr',h⟩,_⟩)
 ·omega
 ·rw [hk] at h;simp at h
def betw(w0 d l k:Nat):Prop:=w0<=k/\k≠d/\k≠l
structure StQ(w0 ss mb sb b d l:Nat)(s:HouseS)(out:List UInt8)(c g:Nat)(y:HLay)(W:World):Prop where
 ses:SesP W ss mb 7 c g y s
 box:Blk W sb [.pointer (some ⟨ss,0,none⟩)] 50
 bld:Lib.IsBuilderF 55 5 w0 b (Lib.byteCells out) W
 no:∀ k,(k<w0\/k=sb\/k=b\/k=d\/k=l)->y.own k=.no
 rcd:∃ r,W.heap[l]?=some (.loop r)
 dfr:∃ o,W.heap[d]?=some (.deferred o)
 lo:7<=w0/\w0<=ss/\w0<=mb/\w0<=sb
def StP(w0 ss mb sb b d l:Nat)(s:HouseS)(out:List UInt8)(W:World):Prop:=∃ c g y,StQ w0 ss mb sb b d l s out c g y W
section
variable {w0 ss mb sb b d l:Nat} {s:HouseS} {out:List UInt8} {W:World}
theorem StP.quiet{W':World}(h:StP w0 ss mb sb b d l s out W)(hm:Mod noBlock W W'):StP w0 ss mb sb b d l s out W':=by
 obtain ⟨c,g,y,h⟩:=h
 obtain ⟨r,hr⟩:=h.rcd
 obtain ⟨o,ho⟩:=h.dfr
 exact ⟨c,g,y,h.ses.quiet hm,h.box.mod hm id,bldF_mod h.bld hm id (fun _ _=>id),h.no,⟨r,by rw [hm.block l (Array.getElem?_eq_some_iff.1 hr).1 id];exact hr⟩,⟨o,by rw [hm.block d (Array.getElem?_eq_some_iff.1 ho).1 id];exact ho⟩,h.lo⟩
theorem StQ.apart{c g:Nat}{y:HLay}(h:StQ w0 ss mb sb b d l s out c g y W):d≠ss/\d≠mb/\d≠sb/\d≠b/\l≠ss/\l≠mb/\l≠sb/\l≠b/\l≠d/\b≠ss/\b≠mb/\sb≠ss/\sb≠b/\¬ bytesAt W d/\¬ bytesAt W l:=by
 obtain ⟨r,hr⟩:=h.rcd
 obtain ⟨o,ho⟩:=h.dfr
 obtain ⟨cs,hb⟩:=bldF_blk h.bld
 have h1:W.heap[ss]?=_:=h.ses.blk
 have h3:W.heap[sb]?=_:=h.box
 have h4:W.heap[b]?=_:=hb
 obtain ⟨es,clock,h2,_⟩:=h.ses.map
 refine ⟨?_,?_,?_,?_,?_,?_,?_,?_,?_,?_,?_,?_,?_,?_,?_⟩
 ·rintro rfl;rw [ho] at h1;simp at h1
 ·rintro rfl;rw [ho] at h2;simp at h2
 ·rintro rfl;rw [ho] at h3;simp at h3
 ·rintro rfl;rw [ho] at h4;simp at h4
 ·rintro rfl;rw [hr] at h1;simp at h1
 ·rintro rfl;rw [hr] at h2;simp at h2
 ·rintro rfl;rw [hr] at h3;simp at h3
 ·rintro rfl;rw [hr] at h4;simp at h4
 ·rintro rfl;rw [hr] at ho;simp at ho
 ·rintro rfl;rw [h1] at h4;simp at h4
 ·rintro rfl;rw [h2] at h4;simp at h4
 ·rintro rfl;rw [h1] at h3;simp at h3
 ·rintro rfl;rw [h4] at h3;simp at h3
 ·rintro ⟨c',fz,q⟩;rw [ho] at q;simp at q
 ·rintro ⟨c',fz,q⟩;rw [hr] at q;simp at q
theorem StP.put(h:StP w0 ss mb sb b d l s out W)(h7:7<=l)(r':Loop):StP w0 ss mb sb b d l s out (W.putObj l (.loop r')):=by
 obtain ⟨c,g,y,h⟩:=h
 obtain ⟨r,h8⟩:=h.rcd
 obtain ⟨o,ho⟩:=h.dfr
 obtain ⟨a1,a2,a3,a4,a5,a6,a7,a8,a9,-,-,-,-,-,a10⟩:=h.apart
 have hm:Mod (oneBlock l) W (W.putObj l (.loop r')):=(Mod.refl (oneBlock l) W).putObj (fun _=>(rfl:l=l)) _
 have hs:=h.ses
 refine ⟨c,g,y,⟨hs.blk.mod hm (fun e=>a5 e.symm),hs.map.mod hm (fun e=>a6 e.symm),hs.house.beside hm (fun k hk e=>?_) (fun k hk e=>?_),hs.nos,hs.nom,hs.n7,hs.lo,hs.vd.mod hm (fun k hk e=>?_)⟩,h.box.mod hm (fun e=>a7 e.symm),bldF_mod h.bld hm (fun e=>a8 e.symm) (fun k hk e=>?_),h.no,⟨r',World.putObj_heap_same (Array.getElem?_eq_some_iff.1 h8).1⟩,⟨o,by rw [hm.block d (Array.getElem?_eq_some_iff.1 ho).1 (fun e=>a9 e.symm)];exact ho⟩,h.lo⟩
 ·have e':k=l:=e
  rw [e'];exact notStL h8 h7
 ·have e':k=l:=e
  rw [e'];exact h.no l (.inr (.inr (.inr (.inr rfl))))
 ·have e':k=l:=e
  omega
 ·have e':k=l:=e
  rw [e'] at hk
  exact a10 hk
theorem StP.answer{line t:ByteArray}{s':HouseS}(hL:AnsOK line t s')(h:StP w0 ss mb sb b d l (newH 2 3) out W)(hne:ss≠mb) :
  Calls Tryz.prog 16 #[.pointer (some ⟨ss,0,none⟩),.string line] W fun e W'=>e=.returned (.string t)/\StP w0 ss mb sb b d l s' out W'/\Mod (betw w0 d l) W W':=by
 obtain ⟨c,g,y,h⟩:=h
 obtain ⟨a1,a2,a3,a4,a5,a6,a7,a8,a9,a11,a12,a13,a14,a10,a15⟩:=h.apart
 refine (hL h.ses.strip hne).mono ?_
 rintro e W' ⟨rfl,c',g',y',hP,hmd,hold⟩
 obtain ⟨r,hr⟩:=h.rcd
 obtain ⟨o,ho⟩:=h.dfr
 obtain ⟨cs,hb⟩:=bldF_blk h.bld
 have hno:∀ k,(k<w0\/k=sb\/k=b\/k=d\/k=l)->(y.strip W).own k=.no:=fun k hk=>strip_no (h.no k hk)
 have nses:∀ k,k≠ss->(k<w0\/k=sb\/k=b\/k=d\/k=l)->¬ Go.Proofs.YtiblcbdkiecbgaaGreatDoor.ses ss (y.strip W) k:=fun k h1 h2 e=>e.elim h1 (fun e=>e (hno k h2))
 have hlo:=h.lo
 refine ⟨rfl,⟨c',g',y',hP,h.box.mod hmd (nses sb a13 (.inr (.inl rfl))),bldF_mod h.bld hmd (nses b a11 (.inr (.inr (.inl rfl)))) (fun k hk e=>?_),fun k hk=>?_,⟨r,?_⟩,⟨o,?_⟩,h.lo⟩,hmd.mono (fun k hkl e=>?_)⟩
 ·rcases e with e | e
  ·rw [e] at hk;exact notBytes h.ses.blk (by decide) hk
  ·exact e (strip_bytes hk)
 ·by_cases hkl:k<W.heap.size
  ·exact hold k hkl (hno k hk)
  ·exfalso
   have q1:=h.ses.blk.lt
   have q2:=h.box.lt
   have q3:=hb.lt
   have q4:=(Array.getElem?_eq_some_iff.1 hr).1
   have q5:=(Array.getElem?_eq_some_iff.1 ho).1
   rcases hk with hk | rfl | rfl | rfl | rfl <;> omega
 ·rw [hmd.block l (Array.getElem?_eq_some_iff.1 hr).1 (nses l a5 (.inr (.inr (.inr (.inr rfl)))))];exact hr
 ·rw [hmd.block d (Array.getElem?_eq_some_iff.1 ho).1 (nses d a1 (.inr (.inr (.inr (.inl rfl)))))];exact ho
 ·rcases e with e | e
  ·rw [e];exact ⟨hlo.2.1,fun q=>a1 q.symm,fun q=>a5 q.symm⟩
  ·refine ⟨Nat.le_of_not_lt fun q=>e (hno k (.inl q)),fun q=>e (hno k (.inr (.inr (.inr (.inl q))))),fun q=>e (hno k (.inr (.inr (.inr (.inr q)))))⟩
theorem StQ.wrote{c g:Nat}{y:HLay}{W':World}{out':List UInt8}(h:StQ w0 ss mb sb b d l s out c g y W)(hbel:Below w0 W W')(hk:Lib.OthersKept 5 (some b) W W')(hb':Lib.IsBuilderF 55 5 w0 b (Lib.byteCells out') W') :
  StP w0 ss mb sb b d l s out' W'/\Mod (betw w0 d l) W W':=by
 obtain ⟨a1,a2,a3,a4,a5,a6,a7,a8,a9,a11,a12,a13,a14,a10,a15⟩:=h.apart
 have hM:=bld_mod hbel hk
 obtain ⟨r,hr⟩:=h.rcd
 obtain ⟨o,ho⟩:=h.dfr
 obtain ⟨cs,hb⟩:=bldF_blk h.bld
 refine ⟨⟨c,g,y.strip W,h.ses.strip.built hb (by decide) (h.no b (.inr (.inr (.inl rfl)))) a11 a12 h.lo.1 hM,h.box.mod hM (fun q=>q.2.elim a14 (notBytes h.box (by decide))),hb',fun k q=>strip_no (h.no k q),⟨r,?_⟩,⟨o,?_⟩,h.lo⟩,hM.mono (fun k _ q=>⟨q.1,fun e=>?_,fun e=>?_⟩)⟩
 ·rw [hM.block l (Array.getElem?_eq_some_iff.1 hr).1 (fun q=>q.2.elim a8 a15)];exact hr
 ·rw [hM.block d (Array.getElem?_eq_some_iff.1 ho).1 (fun q=>q.2.elim a4 a10)];exact ho
 ·rw [e] at q;exact q.2.elim a4 a10
 ·rw [e] at q;exact q.2.elim a8 a15
theorem StQ.size{c g:Nat}{y:HLay}(h:StQ w0 ss mb sb b d l s out c g y W):w0<=W.heap.size:=by
 have:=h.ses.blk.lt
 have:=h.lo
 omega
theorem StP.write(h:StP w0 ss mb sb b d l s out W)(t:ByteArray)(ht:out.length+t.size<=140737488355328) :
  Calls Tryz.prog 18 #[.pointer (some ⟨b,0,none⟩),.string t] W fun e W'=>(∃ v,e=.returned v)/\StP w0 ss mb sb b d l s (out++t.data.toList) W'/\Mod (betw w0 d l) W W':=by
 obtain ⟨c,g,y,h⟩:=h
 refine (Tryz.Builder_WriteString_k w0 b _ t W h.bld (by rw [Lib.byteCells_length];exact ht) h.size).mono ?_
 rintro e W' ⟨rfl,hb,hbel,hk⟩
 exact ⟨⟨_,rfl⟩,h.wrote hbel hk (.inr (by rw [Lib.byteCells_append];exact hb))⟩
theorem StP.byte(h:StP w0 ss mb sb b d l s out W)(ht:out.length+1<=140737488355328) :
  Calls Tryz.prog 19 #[.pointer (some ⟨b,0,none⟩),.int .u8 10] W fun e W'=>(∃ v,e=.returned v)/\StP w0 ss mb sb b d l s (out++[10]) W'/\Mod (betw w0 d l) W W':=by
 obtain ⟨c,g,y,h⟩:=h
 refine (Tryz.Builder_WriteByte_k w0 b _ 10 W h.bld (by rw [Lib.byteCells_length];exact ht) h.size).mono ?_
 rintro e W' ⟨rfl,hb,hbel,hk⟩
 exact ⟨⟨_,rfl⟩,h.wrote hbel hk (.inr (by rw [Lib.byteCells_append];exact hb))⟩
theorem StP.string(h:StP w0 ss mb sb b d l s out W) :
  Calls Tryz.prog 20 #[.pointer (some ⟨b,0,none⟩)] W fun e W'=>e=.returned (.string (strB out))/\Mod (betw w0 d l) W W':=by
 obtain ⟨c,g,y,h⟩:=h
 refine (Tryz.Builder_String_any_k w0 b out W h.bld h.size).mono ?_
 rintro e W' ⟨rfl,hb,hbel,hk⟩
 exact ⟨rfl,(h.wrote hbel hk hb).2⟩
end
theorem lines_call(text:ByteArray)(n:Nat)(w:World):CallsIn Fence.wide n Tryz.prog 17 #[.string text] w fun e w'=>e=.returned (.func (.func 61) #[] #[.pointer (some ⟨w.heap.size,0,none⟩)])/\w'=w.alloc (.cells #[.string text] 9):=by
 refine callsIn_wide.2 ?_
 have hmf:=makeF
 go_enter Tryz.func17,Tryz.ntmps17
 go_wp2_with fail
 go_ret
 exact ⟨rfl,rfl⟩
def RunI(w0 ss mb sb b d l:Nat)(t:ByteArray)(s':HouseS)(pre:List (List UInt8))(W:World):Prop:=
 StP w0 ss mb sb b d l (if pre=[] then newH 2 3 else s') (if pre=[] then [] else t.data.toList++[10]) W
theorem RunI.beside{w0 ss mb sb b d l:Nat}{t:ByteArray}{s':HouseS}(h7:7<=l):Beside l (RunI w0 ss mb sb b d l t s'):=
 ⟨fun pre A B hm h=>StP.quiet h hm,fun pre A r' h=>StP.put h h7 r'⟩
theorem StP.boxed{w0 ss mb sb b d l:Nat}{s:HouseS}{out:List UInt8}{W:World}(h:StP w0 ss mb sb b d l s out W):W.cell? ⟨sb,0,none⟩=some (.pointer (some ⟨ss,0,none⟩)):=by
 obtain ⟨c,g,y,h⟩:=h
 exact h.box.cell 0 rfl
theorem size_list(t:ByteArray):t.data.toList.length=t.size:=Array.length_toList
theorem session_one{line:List UInt8}{t:ByteArray}{s':HouseS}(hL:AnsOK (strB line) t s')(hts:t.size<=1000)(text:ByteArray)(ht:text.size<=20000)(hone:linesD text.data.toList=[line])(w:World)(hv:VD w) :
  Calls Tryz.prog 7 #[.string text] w fun e w'=>e=.returned (.string (strB (t.data.toList++[10])))/\Mod noBlock w w':=by
 obtain ⟨n,hn⟩:∃ n:Nat,60<=n:=⟨60,Nat.le_refl _⟩
 have n1:1<=n:=by omega
 refine (callsIn_wide (n:=n)).1 ?_
 have HNS:=callsIn_wide (n:=n - 1) |>.2 (newSession_any w hv)
 refine callsIn_of_wp_marks Tryz.func7 rfl trivial ?_ rfl
 simp only [Tryz.ntmps7,List.size_toArray,List.length_cons,List.length_nil,Nat.reduceAdd,Nat.reduceSub,Array.replicate_succ,Array.replicate_zero,List.push_toArray,List.append_toArray,List.nil_append,List.cons_append]
 have hsz:¬ 20000<text.size:=by omega
 gi_wp2_with (first
  | (refine ⟨trivial,?_⟩;gi_at_call 15;refine HNS.mono ?_;rintro e w1 ⟨rfl,hB1,hm1,hs1⟩)
  | (refine ⟨trivial,?_⟩;gi_at_call 16;refine ((callsIn_wide (n:=n - 1)).2 (first_any (hB1.quiet ((Mod.refl noBlock w1).alloc _)))).mono ?_;rintro e w3 ⟨⟨t0,rfl⟩,⟨g,y,hP3,hno3⟩,hm3⟩)
  | (refine ⟨trivial,?_⟩;gi_at_call 17;refine (lines_call _ _ _).mono ?_;rintro e w' ⟨rfl,rfl⟩))
 obtain ⟨w2,hw2⟩:∃ q,q=w1.alloc (.cells #[.pointer (some ⟨w.heap.size,0,none⟩)] 50):=⟨_,rfl⟩
 have hb2:Blk w2 w1.heap.size [.pointer (some ⟨w.heap.size,0,none⟩)] 50:=by rw [hw2];exact Blk.new w1 _ _
 have hs2:w2.heap.size=w1.heap.size+1:=by rw [hw2];simp
 rw [<-hw2] at hm3 hno3
 obtain ⟨w4,hw4⟩:∃ q,q=w3.alloc (.cells #[.pointer none,.slice none 0 0] 55):=⟨_,rfl⟩
 have hb4:Blk w4 w3.heap.size [.pointer none,.slice none 0 0] 55:=by rw [hw4];exact Blk.new w3 _ _
 have hs4:w4.heap.size=w3.heap.size+1:=by rw [hw4];simp
 obtain ⟨w5,hw5⟩:∃ q,q=w4.alloc (.cells #[.string text] 9):=⟨_,rfl⟩
 have hb5:Blk w5 (w3.heap.size+1) [.string text] 9:=by rw [hw5,<-hs4];exact Blk.new w4 _ _
 have hs5:w5.heap.size=w3.heap.size+2:=by rw [hw5];simp [hs4]
 have m34:Mod noBlock w3 w4:=by rw [hw4];exact (Mod.refl noBlock w3).alloc _
 have m45:Mod noBlock w4 w5:=by rw [hw5];exact (Mod.refl noBlock w4).alloc _
 have m12:Mod noBlock w1 w2:=by rw [hw2];exact (Mod.refl noBlock w1).alloc _
 have hP5:=hP3.quiet (m34.trans m45)
 have hbx:Blk w5 w1.heap.size [.pointer (some ⟨w.heap.size,0,none⟩)] 50:=(hb2.mod hm3 (fun e=>by have e':w1.heap.size=w.heap.size:=e;omega)).mod (m34.trans m45) id
 have hbd:Lib.IsBuilderF 55 5 w.heap.size w3.heap.size (Lib.byteCells []) w5:=by
  refine .inl ⟨?_,.slice none 0 0,hb4.mod m45 id,World.ownsRowF_nil _ _ _ _,by simp [Value.ownBlock]⟩
  have h1:=hm3.size
  omega
 have hM5:Mod noBlock w w5:=(((hm1.trans m12).trans' (G':=oneBlock w.heap.size) hm3 (fun i hi e=>by have e':i=w.heap.size:=e;omega)).trans m34).trans m45
 have hs3:=hm3.size
 have hv5:=hv.quiet hM5
 rw [<-hw4,<-hw5]
 clear hw2 hw4 hw5 hb2 hb4 m34 m45 m12 HNS
 refine range_out2 (gf:=61) (lb:=#[.pointer (some ⟨w3.heap.size+1,0,none⟩)]) rfl (enters_of Tryz.func61 (by kernel_rfl) rfl) (lines_iter (n - 1) (by omega) (w3.heap.size+1) text (by omega) w5 hv5 (hb5.cell 0 rfl)) (fun x=>rfl)
  (betw w.heap.size w5.heap.size (w5.heap.size+1)) (fun e=>e.2.2 rfl) (fun e=>e.2.1 rfl) (fun k hk=>?_)
  (RunI w.heap.size w.heap.size (w.heap.size+1) w1.heap.size w3.heap.size w5.heap.size (w5.heap.size+1) t s') (fun _ _=>False) (RunI.beside (by have:=hv.sz;omega)) ⟨fun _ _ _ _ e=>e,fun _ _ _ e=>e⟩ (fun W r hm hl hd=>?_) ?_ ?_ ?_
 ·subst hk
  have:=hv.sz
  exact ⟨by omega,fun e=>by have:=e.1;omega⟩
 ·refine ⟨0,g,y,hP5.quiet hm,hbx.mod hm id,bldF_mod hbd hm id (fun _ _=>id),fun k hk=>?_,⟨r,hl⟩,⟨_,hd⟩,?_⟩
  ·rcases hk with hk | rfl | rfl | rfl | rfl
   ·exact hno3 k (by omega)
   ·exact hno3 _ (by omega)
   ·exact hP3.nobody (Nat.le_refl _)
   ·exact hP3.nobody (by omega)
   ·exact hP3.nobody (by omega)
  ·have:=hv.sz
   have:=hm1.size
   omega
 ·intro pre x rest W hx hI hlW
  rw [hone] at hx
  obtain ⟨rfl,rfl,rfl⟩:pre=[]/\x=line/\rest=[]:=by
   cases pre with
   | nil=>simp at hx;exact ⟨rfl,hx.1.symm,hx.2⟩
   | cons a b=>simp at hx
  have HTS:=Hmq hts
  have hn3:1<=n - 1 - 1:=by omega
  clear hs5 hs2 hs4 hx hts
  dsimp only [encL]
  gi_wp2
  refine ⟨Mod.refl _ _,fun Wb hmb hlb hIb=>?_⟩
  clear hI hlW hmb hlb
  have hS:StP w.heap.size w.heap.size (w.heap.size+1) w1.heap.size w3.heap.size w5.heap.size (w5.heap.size+1) (newH 2 3) [] Wb:=hIb
  clear hIb
  have z1:=hS.boxed
  gi_wp2_with (first
   | (refine ⟨trivial,?_⟩;gi_at_call 16;refine (CallsIn.inRound (w5.heap.size+1) (callsIn_wide.2 (StP.answer hL hS (by omega)))).mono ?_;rintro e W1 ⟨rfl,hS1,hM1⟩)
   | (refine ⟨trivial,?_⟩;gi_at_call 18;refine (CallsIn.inRound (w5.heap.size+1) (callsIn_wide.2 (StP.write hS1 _ (by have:=HTS.out;simp only [List.length_nil];omega)))).mono ?_;rintro e W2 ⟨⟨v2,rfl⟩,hS2,hM2⟩)
   | (refine ⟨trivial,?_⟩;gi_at_call 19;refine (CallsIn.inRound (w5.heap.size+1) (callsIn_wide.2 (StP.byte hS2 (by have:=HTS.out;rw [List.nil_append,size_list];omega)))).mono ?_;rintro e W3 ⟨⟨v3,rfl⟩,hS3,hM3⟩))
  exact ⟨(hM1.trans hM2).trans hM3,hS3⟩
 ·intro W hm hd hI
  rw [hone] at hI
  have hS:StP w.heap.size w.heap.size (w.heap.size+1) w1.heap.size w3.heap.size w5.heap.size (w5.heap.size+1) s' (t.data.toList++[10]) W:=hI
  gi_wp2_with (refine ⟨trivial,?_⟩;gi_at_call 20;refine (callsIn_wide.2 (StP.string hS)).mono ?_;rintro e W1 ⟨rfl,hM1⟩)
  have hd1:=hM1.block w5.heap.size (Array.getElem?_eq_some_iff.1 hd).1 (fun e=>e.2.1 rfl)
  rw [hd] at hd1
  refine ⟨by simp,.inl ⟨_,_,rfl,run_takeDeferred (by rw [<-hs5];exact hd1),?_⟩⟩
  have hmP:Mod (newer w.heap.size) W1 (W1.putObj (w3.heap.size+2) (.deferred none)):=(Mod.refl _ _).putObj (fun _=>by simp only [newer];omega) _
  refine ⟨.string (strB (t.data.toList++[10])),?_,rfl,?_⟩
  ·simp [results,Tryz.f7,go_sem]
  ·exact hM5.trans' (((hm.trans hM1).mono (G':=newer w.heap.size) (fun k _ e=>e.1)).trans hmP) (fun i hi e=>by have:w.heap.size<=i:=e;omega)
 ·intro c W hm hd e
  exact e.elim
theorem session_blank(w:World)(hv:VD w):Calls Tryz.prog 7 #[.string ⟨#[]⟩] w fun e w'=>e=.returned (.string ⟨#[111,107,10]⟩)/\Mod noBlock w w':=
 session_one (line:=[]) line_blank (by decide) _ (by decide) (by decide +kernel) w hv
theorem session_begin(w:World)(hv:VD w):Calls Tryz.prog 7 #[.string ⟨#[98,101,103,105,110]⟩] w fun e w'=>e=.returned (.string ⟨#[49,10]⟩)/\Mod noBlock w w':=
 session_one (line:=[98,101,103,105,110]) line_begin (by decide) _ (by decide) (by decide +kernel) w hv
end Go.Proofs.YtiblcbdkiecbgaaGreatDoor
