import Derived.Test.YtmaiggbnceejiaaGreatDoorP47
set_option linter.unusedVariables false
set_option maxRecDepth 100000
set_option maxHeartbeats 16000000
namespace Go.Proofs.YtmaiggbnceejiaaGreatDoor
open Go.RowKit Go.Lib Go.Maps
def hsA:zAa:=zFl (newH 2 2)
def zNo:ByteArray:=⟨#[97]⟩
def yJu:zBa:=⟨zNo,⟨#[120]⟩,false⟩
def hsB:zAa × Int:=putH hsA 1 yJu
def hsC:zAa:=zCi (zDy (setTx hsB.1 1 { hsB.1.tx 1 with state:=2 }))
def hsD:zAa:=zFl (zIa hsC)
theorem yKs:(newH 2 2).txs.length=0:=by decide +kernel
theorem hB_0:hsB.2=0:=by decide +kernel
theorem yQn:hsB.1.net.lost=0:=by decide +kernel
theorem yQl:hsC.net.lost=0:=by decide +kernel
theorem yOl:zDd hsC 1=2:=by decide +kernel
theorem yKt:(zIa hsC).txs.length=1:=by decide +kernel
theorem yQm:zHv hsB.1 1=0:=by decide +kernel
theorem hG_val:(getH hsD 2 zNo).2.2.1=true/\(getH hsD 2 zNo).2.2.2=0/\(getH hsD 2 zNo).2.1=⟨#[120]⟩:=by decide +kernel
theorem yEu:zDd (getH hsD 2 zNo).1 1=3/\zDd (getH hsD 2 zNo).1 2=1:=by decide +kernel
theorem yQo:hsB.1.keys=updK (fun _=>⟨[],[]⟩) zNo (zCn ⟨[],[]⟩ ⟨1,2⟩).1:=by kernel_rfl
theorem yOm:zNt hsB.1 1=false:=by
 unfold zNt
 rw [decide_eq_false_iff_not]
 rintro ⟨k,hk⟩
 rw [yQo] at hk
 by_cases e:k=zNo
 ·subst e
  rw [zEr] at hk
  exact absurd hk (by decide +kernel)
 ·rw [zFn e] at hk
  simp at hk
theorem yPo:endH hsB.1 1=(hsC,0):=by
 unfold endH
 rw [if_neg (fun e=>e yQm),yOm]
 rfl
theorem rN:Rest (newH 2 2):=Rest.new ⟨by omega,by omega⟩ ⟨by omega,by omega⟩
theorem rA:Rest hsA:=rN.begin (by rw [yKs];omega)
theorem rB:Rest hsB.1:=rA.put 1 yJu
theorem rC:Rest hsC:=by have:=rB.end_ 1;rw [yPo] at this;exact this
theorem rD0:Rest (zIa hsC):=rC.calm
theorem rD:Rest hsD:=rD0.begin (by rw [yKt];omega)
theorem Rest.lockOK{h:zAa}(hr:Rest h){w:World}{n c:Nat}(he:ET w)(hn:1<n)(hc:c<=9000):yBm w n c h:=⟨hr.c.safe.shape,hr.c.held.ki,he,hn,hc⟩
theorem zBv.noB{w w1 w2:World}{y1 y2:HLay}(h:zBv w1 y1 w2 y2)(hm:Mod zAb w w1)(hy:∀ k,k<w.heap.size->y1.own k=.no):Mod zAb w w2/\∀ k,k<w.heap.size->y2.own k=.no:=
 ⟨hm.trans' h.md (fun i hi e=>absurd (hy i hi) e),fun k hk=>(h.old k (Nat.lt_of_lt_of_le hk hm.size)).trans (hy k hk)⟩
theorem yGz(w:World)(he:ET w)(h1:1<w.heap.size):Calls Tryz.prog 20 #[] w fun e w'=>e=.returned (.bool true)/\Mod zAb w w':=by
 have HE:=Hmq he
 have HNEW:Hid (Calls Tryz.prog 19 #[.int .i64 2,.int .i64 2] w fun e w'=>∃ g y,e=.returned (.tuple #[.pointer (some ⟨g,0,none⟩),.nilIface])/\zAd w' w.heap.size 0 g y (newH 2 2)/\w.heap.size<=g/\Mod zAb w w'/\(∀ k,k<w.heap.size->y.own k=.no)):=yJx w.heap.size 0 2 2 w ⟨by omega,by omega⟩ ⟨by omega,by omega⟩ (Nat.le_refl _)
 clear he
 go_enter Tryz.func20,Tryz.ntmps20
 go_wp2_with fail
 refine HNEW.out.mono ?_
 rintro e w1 ⟨g,y0,rfl,hP0,hgl,hm1,hy0⟩
 have HBG:Hid (Calls Tryz.prog 13 #[.pointer (some ⟨g,0,none⟩)] w1 (yMg w1 w.heap.size 0 g y0 (newH 2 2))):=zTj w.heap.size 0 g y0 (newH 2 2) w1 hP0 rN.c.safe.shape.ll (by rw [yKs];omega)
 have HM1:=Hmq hm1
 have HY0:=Hmq hy0
 clear HNEW hm1 hy0 hP0
 go_wp2_with fail
 refine HBG.out.mono ?_
 rintro e w2 ⟨rfl,y1,hP1,hs1⟩
 rw [yKs]
 obtain ⟨hm2,hy1⟩:=hs1.noB HM1.out HY0.out
 have HPUT:Hid (Calls Tryz.prog 23 #[.pointer (some ⟨g,0,none⟩),.int .i64 1,.agg #[.string ⟨#[97]⟩,.string ⟨#[120]⟩,.bool false]] w2 (PutP w2 w.heap.size 2 g y1 hsB.1 hsB.2)):=yJn w.heap.size 0 g y1 hsA 1 yJu w2 hP1 (rA.lockOK (HE.out.mod hm2) h1 (by omega)) (by unfold okQ;decide +kernel) (by unfold okQ;decide +kernel)
 rw [hB_0] at HPUT
 have HM2:=Hmq hm2
 have HY1:=Hmq hy1
 clear HBG hm2 hy1 hP1 hs1 HM1 HY0
 go_wp2_with fail
 refine HPUT.out.mono ?_
 rintro e w3 ⟨rfl,y2,hP2,hk2⟩
 rw [zAz]
 obtain ⟨hm3,hy2⟩:=hk2.st.noB HM2.out HY1.out
 have HEND:Hid (Calls Tryz.prog 15 #[.pointer (some ⟨g,0,none⟩),.int .i64 1] w3 (PutP w3 w.heap.size 2 g y2 hsC 0)):=by
  have:=yLf w.heap.size 2 g y2 hsB.1 1 w3 hP2 rB.c.safe rB.c.held (by omega) (by rw [yQn];omega)
  rw [yPo] at this
  exact this
 have HM3:=Hmq hm3
 have HY2:=Hmq hy2
 clear HPUT hm3 hy2 hP2 hk2 HM2 HY1
 go_wp2_with fail
 refine HEND.out.mono ?_
 rintro e w4 ⟨rfl,y3,hP3,hk3⟩
 rw [zAz]
 obtain ⟨hm4,hy3⟩:=hk3.st.noB HM3.out HY2.out
 have HST:Hid (Calls Tryz.prog 11 #[.pointer (some ⟨g,0,none⟩),.int .i64 1] w4 fun e w'=>e=.returned (.int .i64 2)/\w'=w4):=by
  have:=zJs w.heap.size 2 g y3 hsC 1 w4 hP3 rC.c.safe.tl
  rw [yOl] at this
  exact this
 have HCA:Hid (Calls Tryz.prog 16 #[.pointer (some ⟨g,0,none⟩)] w4 fun e w'=>e=.returned (.tuple #[])/\∃ y',zAd w' w.heap.size 2 g y' (zIa hsC)/\zAn w4 y3 w' y'):=yFe w.heap.size 2 g y3 hsC w4 hP3 rC.c (by omega) (by have:=yCk rC.c;rw [yQl] at this;omega)
 have HM4:=Hmq hm4
 have HY3:=Hmq hy3
 clear HEND hm4 hy3 hP3 hk3 HM3 HY2
 go_wp2_with fail
 refine HST.out.mono ?_
 rintro e w' ⟨rfl,rfl⟩
 clear HST
 go_wp2_with fail
 refine HCA.out.mono ?_
 rintro e w5 ⟨rfl,y4,hP4,hk4⟩
 obtain ⟨hm5,hy4⟩:=hk4.st.noB HM4.out HY3.out
 have HB2:Hid (Calls Tryz.prog 13 #[.pointer (some ⟨g,0,none⟩)] w5 (yMg w5 w.heap.size 2 g y4 (zIa hsC))):=zTj w.heap.size 2 g y4 (zIa hsC) w5 hP4 rD0.c.safe.shape.ll (by rw [yKt];omega)
 have HM5:=Hmq hm5
 have HY4:=Hmq hy4
 clear HCA hm5 hy4 hP4 hk4 HM4 HY3
 go_wp2_with fail
 refine HB2.out.mono ?_
 rintro e w6 ⟨rfl,y5,hP5,hs5⟩
 rw [yKt]
 obtain ⟨hm6,hy5⟩:=hs5.noB HM5.out HY4.out
 have HGET:Hid (Calls Tryz.prog 14 #[.pointer (some ⟨g,0,none⟩),.int .i64 2,.string ⟨#[97]⟩] w6 (GetP w6 w.heap.size 4 g y5 (getH hsD 2 zNo))):=yKw w.heap.size 2 g y5 hsD 2 zNo w6 hP5 (rD.lockOK (HE.out.mod hm6) h1 (by omega)) (by unfold okQ;decide +kernel) (rD.c.safe.headLog zNo)
 have HM6:=Hmq hm6
 have HY5:=Hmq hy5
 clear HB2 hm6 hy5 hP5 hs5 HM5 HY4
 go_wp2_with fail
 refine HGET.out.mono ?_
 rintro e w7 ⟨rfl,y6,hP6,hk6⟩
 obtain ⟨v1,v2,v3⟩:=hG_val
 rw [v1,v2,v3,zAz]
 obtain ⟨hm7,-⟩:=hk6.st.noB HM6.out HY5.out
 have hRG:Rest (getH hsD 2 zNo).1:=rD.get 2 zNo
 have HS1:Hid (Calls Tryz.prog 11 #[.pointer (some ⟨g,0,none⟩),.int .i64 1] w7 fun e w'=>e=.returned (.int .i64 3)/\w'=w7):=by
  have:=zJs w.heap.size 4 g y6 (getH hsD 2 zNo).1 1 w7 hP6 hRG.c.safe.tl
  rw [yEu.1] at this
  exact this
 have HS2:Hid (Calls Tryz.prog 11 #[.pointer (some ⟨g,0,none⟩),.int .i64 2] w7 fun e w'=>e=.returned (.int .i64 1)/\w'=w7):=by
  have:=zJs w.heap.size 4 g y6 (getH hsD 2 zNo).1 2 w7 hP6 hRG.c.safe.tl
  rw [yEu.2] at this
  exact this
 have HM7:=Hmq hm7
 clear HGET hm7 hP6 hk6 HM6 HY5 hRG v1 v2 v3
 go_wp2_with fail
 refine HS1.out.mono ?_
 rintro e w' ⟨rfl,rfl⟩
 go_wp2_with fail
 refine HS2.out.mono ?_
 rintro e w' ⟨rfl,rfl⟩
 go_wp2_with fail
 go_ret
 exact ⟨rfl,HM7.out⟩
def actR(d:ActD)(cs:List Value):Prop:=cs=[.int .i64 d.what,.int .i64 d.tx,.int .i64 d.a,.string d.value]/\d.value.size<=maxLen
def ActsV(w:World)(L:Nat)(v:Value)(ds:List ActD):Prop:=SlR w L 4 actR v ds
theorem ActsV.at{w:World}{L:Nat}{a:Option Addr}{n cap:Nat}{ds:List ActD}(h:ActsV w L (.slice a n cap) ds){i:Nat}{d:ActD}(hi:ds[i]?=some d):∃ b off,a=some ⟨b,off,none⟩/\b<L/\d.value.size<=maxLen/\w.cell? ⟨b,off+i*4,none⟩=some (.int .i64 d.what)/\w.cell? ⟨b,off+i*4+1,none⟩=some (.int .i64 d.tx)/\w.cell? ⟨b,off+i*4+2,none⟩=some (.int .i64 d.a)/\w.cell? ⟨b,off+i*4+3,none⟩=some (.string d.value):=by
 obtain ⟨b,off,cs,h1,h2,⟨rfl,h3⟩,_,h5⟩:=SlR.at h hi
 exact ⟨b,off,h1,h2,h3,h5 0 _ rfl,h5 1 _ rfl,h5 2 _ rfl,h5 3 _ rfl⟩
theorem yBh{txs:List TxD}{m:Nat}(h:∀ t∈txs,t.ops.length<=m)(id:Nat)(o:OpD):∀ t∈zQf txs id o,t.ops.length<=m+1:=fun t ht=>by
 unfold zQf at ht
 split at ht
 ·rename_i u hu
  rcases List.mem_or_eq_of_mem_set ht with q | q
  ·have:=h t q;omega
  ·subst q
   have:=h u (List.mem_of_getElem? hu)
   simp;omega
 ·have:=h t ht;omega
theorem yQx{s:StoS}{m:Nat}(h:∀ t∈s.txs,t.ops.length<=m)(x:ActD):∀ t∈(armS s x).txs,t.ops.length<=m+1:=by
 have same:∀ t∈s.txs,t.ops.length<=m+1:=fun t ht=>by have:=h t ht;omega
 obtain ⟨r,hr⟩:∃ r,r=armS s x:=⟨_,rfl⟩
 rw [<-hr]
 unfold armS at hr
 by_cases e0:x.what=0
 ·rw [if_pos e0] at hr
  by_cases e:s.txs.length<7
  ·rw [if_pos e] at hr
   rw [hr]
   intro t ht
   rcases List.mem_append.1 ht with q | q
   ·exact same t q
   ·rw [List.mem_singleton] at q;subst q;simp
  ·rw [if_neg e] at hr;rw [hr];exact same
 rw [if_neg e0] at hr
 by_cases e1:x.what=1
 ·rw [if_pos e1] at hr
  rw [hr]
  dsimp only
  split
  ·exact yBh h _ _
  ·exact same
 rw [if_neg e1] at hr
 by_cases e2:x.what=2\/x.what=3
 ·rw [if_pos e2] at hr
  rw [hr]
  dsimp only
  split
  ·exact yBh h _ _
  ·exact same
 rw [if_neg e2] at hr
 have fin:r.txs=s.txs:=by
  rw [hr]
  repeat (first | rfl | split)
 rw [fin]
 exact same
theorem yJp{s:StoS}{m:Nat}(h:∀ t∈s.txs,t.ops.length<=m)(x:ActD):∀ t∈(zFy s x).txs,t.ops.length<=m+1:=fun t ht=>by
 have h2:=yQx (s:={ s with now:=s.now+1 }) h x
 obtain ⟨i,hi⟩:=List.getElem?_of_mem ht
 unfold zFy tilS at hi
 rw [List.getElem?_mapIdx] at hi
 cases hu:(armS { s with now:=s.now+1 } x).txs[i]? with
 | none=>rw [hu] at hi;cases hi
 | some u=>
  rw [hu,Option.map_some] at hi
  have hm:=h2 u (List.mem_of_getElem? hu)
  have hi:=Option.some.inj hi
  split at hi
  ·rw [<-hi];exact hm
  ·rw [<-hi];exact hm
def sto0(k:Nat)(safe:Bool):StoS:=⟨newH 2 k,[],0,safe,k⟩
def sc0:Scan:=⟨fun _=>false,fun _=>0⟩
theorem zZm{k:Nat}(h:1<=k/\k<=3):(newH 2 k).lines.length=3/\(newH 2 k).txs.length=0/\(newH 2 k).net.lost=0/\(newH 2 k).dead.length=0/\(newH 2 k).net.down.length=0/\∀ n∈((newH 2 k).line (decH (newH 2 k))).nodes,n.log.length=0:=by
 rcases (show k=1\/k=2\/k=3 by omega) with rfl | rfl | rfl
 ·decide +kernel
 ·decide +kernel
 ·decide +kernel
theorem yPx{k:Nat}(h:1<=k/\k<=3)(safe:Bool):zTl 0 (sto0 k safe):=by
 obtain ⟨h1,h2,h3,h4,h5,_⟩:=zZm h
 exact ⟨Rest.new (shards:=2) (nodes:=k) ⟨by omega,by omega⟩ ⟨by omega,by omega⟩,h1,h2,Nat.zero_le _,by show (newH 2 k).net.lost<=_;rw [h3];omega,by show (newH 2 k).dead.length<=0;omega,by show (newH 2 k).net.down.length<=0;omega,h⟩
theorem yJc{k:Nat}(h:1<=k/\k<=3):zIv (newH 2 k) sc0:=by
 obtain ⟨_,_,_,_,_,h6⟩:=zZm h
 refine ⟨fun n hn c hc=>?_,fun t=>⟨fun e=>(by cases e),fun e=>(by cases e)⟩⟩
 have:=h6 n hn
 rw [List.eq_nil_of_length_eq_zero this] at hc
 cases hc
theorem yCd{s:zAa}{sc sc':Scan}(h:zQt s sc=some sc'):∃ S:Nat->Scan,S 0=sc/\S 3=sc'/\zCy true (zGx s 2) (S 0)=some (S 1)/\zCy false (zGx s 1) (S 1)=some (S 2)/\zCy false (zGx s 0) (S 2)=some (S 3):=by
 unfold zQt at h
 cases ha:zCy true (zZs s 2) sc with
 | none=>rw [ha] at h;cases h
 | some a=>
  rw [ha] at h
  simp only at h
  cases hb:zCy false (zZs s 1) a with
  | none=>rw [hb] at h;cases h
  | some b=>
   rw [hb] at h
   simp only at h
   exact ⟨fun | 0=>sc | 1=>a | 2=>b | _=>sc',rfl,rfl,ha,hb,h⟩
theorem StoP.made{w:World}{n c g:Nat}{y:HLay}{h:zAa}(hh:zAd w n c g y h)(safe:Bool)(k:Nat):StoP (w.alloc (.cells #[.pointer (some ⟨g,0,none⟩),.slice none 0 0,.int .i64 0,.bool safe,.int .i64 k] 37)) n c w.heap.size g y (.slice none 0 0) [] ⟨h,[],0,safe,k⟩:=by
 have hno:y.own w.heap.size=.no:=by
  by_cases e:y.own w.heap.size=.no
  ·exact e
  ·have:=(hh.own.lt _ e).2;omega
 refine ⟨Blk.new w _ _,hh.quiet ((Mod.refl _ w).alloc _),⟨rfl,World.ownsRow_nil _ _ _ _⟩,fun i t u hi=>(by simp at hi),hno,fun k hk=>(by cases hk),fun u hu=>(by cases hu),fun i j u v k hi=>(by simp at hi)⟩
structure RunI(W:World)(gs g db ob:Nat)(i:Nat)(wr:World):Prop where
 md:Mod zAb W wr
 ex:∃ y xv vs s sc nD nO,zLx wr W.heap.size (2*i) gs g db ob nD nO y xv vs s sc/\zTl i s/\zIv s.h sc/\s.now=i/\(∀ t∈s.txs,t.ops.length<=i)/\nD<=12000*i/\nO<=12000*i/\W.heap.size<=gs
theorem zLx.played{w w':World}{n c d gs g db ob nD nO:Nat}{y y':HLay}{xv xv':Value}{vs vs':List Value}{s s':StoS}{sc:Scan}(h:zLx w n c gs g db ob nD nO y xv vs s sc)(hP:StoP w' n d gs g y' xv' vs' s')(hM:StoM gs w y xv vs w' y' xv' vs'):zLx w' n d gs g db ob nD nO y' xv' vs' s' sc:=by
 have hd:=h.maps.d.lt
 have ho:=h.maps.o.lt
 exact ⟨hP,⟨h.maps.d.mod hM.md (fun e=>e.elim (fun e=>e h.fd.1) h.fd.2),h.maps.o.mod hM.md (fun e=>e.elim (fun e=>e h.fo.1) h.fo.2)⟩,h.ne,⟨h.ln.1,h.ln.2.1,Nat.le_trans h.ln.2.2 hM.md.size⟩,
  ⟨(hM.old db hd).trans h.fd.1,fun e=>h.fd.2 (hM.sto db hd e)⟩,⟨(hM.old ob ho).trans h.fo.1,fun e=>h.fo.2 (hM.sto ob ho e)⟩⟩
theorem houseLogs_any(nodes:Int)(lv:Value)(acts:List ActD)(W:World)(hl:ActsV W W.heap.size lv acts)(hE:ET W)(hNM:NMo W W.heap.size)(h1W:1<W.heap.size) :
  Calls Tryz.prog 5 #[.int .i64 nodes,lv] W fun e W'=>e=.returned (.bool true)/\Mod zAb W W':=by
 obtain ⟨la,lcap,hlv,hlc,hlm⟩:=SlR.slice hl
 subst hlv
 have HV:=Hmq hl
 have HE:=Hmq hE
 have HNM:=Hmq hNM
 have hmm:=@run_makeMap Tryz.prog
 clear hl hE hNM
 by_cases h60:60<acts.length
 ·have hb:decide ((acts.length:Int) > 60)=true:=decide_eq_true (by omega)
  have hb2:(60:Int)<(acts.length:Int):=by omega
  go_enter Tryz.func5,Tryz.ntmps5
  go_wp2_with fail
  go_ret
  exact ⟨rfl,Mod.refl _ _⟩
 have hb:decide ((acts.length:Int) > 60)=false:=decide_eq_false (by omega)
 have hb2:¬ (60:Int)<(acts.length:Int):=by omega
 have hb3:¬ 60<acts.length:=h60
 have HPK:Hid (Calls Tryz.prog 18 #[.int .i64 nodes,.int .i64 3] W fun e w'=>e=.returned (.int .i64 (zDw nodes 3))/\w'=W):=zHh nodes 3 W (by omega) (by omega)
 have hpl:=zKc nodes 3 (by omega)
 obtain ⟨pk,hpk⟩:∃ z,z=zDw nodes 3:=⟨_,rfl⟩
 rw [<-hpk] at HPK hpl
 clear hpk
 have ew:wrap64 (1+(pk:Int))=((pk+1:Nat):Int):=by rw [show (1:Int)+(pk:Int)=((pk+1:Nat):Int) by omega];exact IntWalk.wrap64_in _ ⟨by omega,by omega⟩
 have ew2:IntKind.i64.wrap (1+(pk:Int))=((pk+1:Nat):Int):=by rw [show (1:Int)+(pk:Int)=((pk+1:Nat):Int) by omega];exact IntWalk.i64_in _ ⟨by omega,by omega⟩
 have HKN:Hid (1<=pk+1/\pk+1<=3):=⟨by omega,by omega⟩
 obtain ⟨kn,hkn⟩:∃ z,z=pk+1:=⟨_,rfl⟩
 rw [<-hkn] at ew ew2 HKN
 have HNEW:Hid (Calls Tryz.prog 19 #[.int .i64 2,.int .i64 kn] W fun e w'=>∃ g y,e=.returned (.tuple #[.pointer (some ⟨g,0,none⟩),.nilIface])/\zAd w' W.heap.size 0 g y (newH 2 kn)/\W.heap.size<=g/\Mod zAb W w'/\(∀ k,k<W.heap.size->y.own k=.no)):=yJx W.heap.size 0 2 kn W ⟨by omega,by omega⟩ ⟨by have:=HKN.out;omega,by have:=HKN.out;omega⟩ (Nat.le_refl _)
 clear hpl hkn
 go_enter Tryz.func5,Tryz.ntmps5
 go_wp2_with fail
 refine HPK.out.mono ?_
 rintro e wz ⟨rfl,hwz⟩
 rw [hwz]
 clear HPK hwz wz
 go_wp2_with fail
 refine HNEW.out.mono ?_
 rintro e w1 ⟨g,y,rfl,hP1,hgl,hm1,hy1⟩
 have HHS:=Hmq (yGz w1 (HE.out.mod hm1) (Nat.lt_of_lt_of_le h1W hm1.size))
 have HP1:=Hmq hP1
 have HM1:=Hmq hm1
 have HY1:=Hmq hy1
 clear HNEW hP1 hm1 hy1
 go_wp2_with fail
 refine HHS.out.mono ?_
 rintro e w2 ⟨rfl,hm2⟩
 have HP2:=Hmq (HP1.out.quiet hm2)
 have HM2:Hid (Mod zAb W w2):=HM1.out.trans hm2
 clear HHS hm2 HP1 HM1
 obtain ⟨w3,hw3⟩:∃ z,z=w2.alloc (.cells #[.pointer (some ⟨g,0,none⟩),.slice none 0 0,.int .i64 0,.bool false,.int .i64 kn] 37):=⟨_,rfl⟩
 obtain ⟨w4,hw4⟩:∃ z,z=w3.alloc (.map #[] 0):=⟨_,rfl⟩
 obtain ⟨w5,hw5⟩:∃ z,z=w4.alloc (.map #[] 0):=⟨_,rfl⟩
 have z3:w3.heap.size=w2.heap.size+1:=by rw [hw3];exact World.size_alloc _ _
 have z4:w4.heap.size=w3.heap.size+1:=by rw [hw4];exact World.size_alloc _ _
 have hm34:Mod zAb w3 w4:=by rw [hw4];exact (Mod.refl _ _).alloc _
 have hm45:Mod zAb w4 w5:=by rw [hw5];exact (Mod.refl _ _).alloc _
 have hs3:StoP w3 W.heap.size 0 w2.heap.size g y (.slice none 0 0) [] (sto0 kn false):=by rw [hw3];exact StoP.made HP2.out false kn
 have hdb:zCv w4 w3.heap.size 0 sc0.D:=by rw [hw4];exact zCv.made w3
 have hob:zIb w5 w4.heap.size 0 sc0.O:=by rw [hw5];exact zIb.made w4
 have hfree:∀ k,w3.heap.size<=k->y.own k=.no/\¬ zIx w2.heap.size (.slice none 0 0) [] k:=fun k hk=>by
  refine ⟨?_,fun e=>?_⟩
  ·by_cases e:y.own k=.no
   ·exact e
   ·have:=(HP2.out.own.lt _ e).2;omega
  ·rcases e with e | e | ⟨u,hu,_⟩
   ·omega
   ·cases e
   ·cases hu
 have hWs:=HM2.out.size
 have HRUN:Hid (RunI W w2.heap.size g w3.heap.size w4.heap.size 0 w5):=by
  refine ⟨?_,y,.slice none 0 0,[],sto0 kn false,sc0,0,0,⟨(hs3.quiet hm34).quiet hm45,⟨hdb.mod hm45 id,hob⟩,by omega,⟨by omega,by omega,by have:=hm45.size;omega⟩,hfree _ (Nat.le_refl _),hfree _ (by omega)⟩,yPx HKN.out false,yJc HKN.out,rfl,fun t ht=>by simp [sto0] at ht,by omega,by omega,hWs⟩
  refine ((HM2.out.trans ?_).trans hm34).trans hm45
  rw [hw3];exact (Mod.refl _ _).alloc _
 clear hs3 hdb hob hfree hm34 hm45 HP2 HY1 hgl
 go_upto_region 8 with fail
 rw [<-hw3]
 clear hw3
 go_upto_region 9 with fail
 rw [<-hw4]
 clear hw4
 go_upto_region 10 with fail
 rw [<-hw5]
 clear hw5
 rw [z4,z3] at HRUN
 obtain ⟨gs,hgs⟩:∃ z,z=w2.heap.size:=⟨_,rfl⟩
 rw [<-hgs] at HRUN ⊢
 obtain ⟨ob,hob⟩:∃ z,z=gs+1+1:=⟨_,rfl⟩
 rw [<-hob] at HRUN ⊢
 obtain ⟨db,hdb⟩:∃ z,z=gs+1:=⟨_,rfl⟩
 rw [<-hdb] at HRUN ⊢
 clear hgs hdb hob z3 z4 hWs HM2
 go_wp2_with fail
 go_loopw [10] (fun i0 wr=>∃ i:Nat,i<=acts.length/\i0=.int .i64 i/\RunI W gs g db ob i wr) (fun i0 _=>acts.length - (intOf i0).toNat)
 case atStart=>exact ⟨0,Nat.zero_le _,rfl,HRUN.out⟩
 case round=>
  obtain ⟨i,hil,rfl,hC⟩:=hrel
  clear HRUN
  obtain ⟨hmd,yi,xvi,vsi,si,sci,nDi,nOi,hSi,hOK,hSc,hnow,hop,hnd,hno,hgl⟩:=hC
  by_cases hlt:i<acts.length
  ·obtain ⟨x,hx⟩:∃ x,acts[i]?=some x:=⟨_,List.getElem?_eq_getElem hlt⟩
   obtain ⟨lb,lo,rfl,hlb,hval,q0,q1,q2,q3⟩:=ActsV.at (show ActsV wr W.heap.size (.slice la acts.length lcap) acts from SlR.mod HV.out hmd (fun _ _=>id) (fun _ _ h=>h)) hx
   have zl:lb<wr.heap.size:=World.block_lt_of_cell? wr _ q0
   have hltI:(i:Int)<(acts.length:Int):=by omega
   have hi0:(0:Int)<=(i:Int):=by omega
   have HPL:=Hmq (yJq W.heap.size (2*i) i gs g yi xvi vsi si x wr ⟨hSi.sto,hOK,HNM.out.mod hmd (fun _ _=>id),HE.out.mod hmd,h1W,by omega,by omega,hgl,by omega,hop⟩ hval)
   obtain ⟨gOK,gSc,gNow,-⟩:=yGk hOK x
   have gOp:=yJp hop x
   obtain ⟨scn,hsn,hScn⟩:=gSc sci hSc
   obtain ⟨S,hS0,hS3,hS2',hS1',hS0'⟩:=yCd hsn
   have HFIN:Hid (∀ yn xvn vsn w6 wd,zLx w6 W.heap.size (2*i+2) gs g db ob nDi nOi yn xvn vsn (zFy si x) (S 0)->Mod zAb W w6->Mod (twoB db ob) w6 wd->(∃ nD' nO',nD'<=nDi+12000/\nO'<=nOi+12000/\zLx wd W.heap.size (2*i+2) gs g db ob nD' nO' yn xvn vsn (zFy si x) (S 3))->RunI W gs g db ob (i+1) wd):=fun yn xvn vsn w6 wd h6 hm6 hmd' ⟨nD',nO',e1,e2,e3⟩=>by
    refine ⟨hm6.trans' hmd' (fun k hk e=>?_),yn,xvn,vsn,zFy si x,scn,nD',nO',?_,gOK,hScn,by rw [gNow,hnow];omega,gOp,by omega,by omega,hgl⟩
    ·have:=h6.ln;rcases e with rfl | rfl <;> omega
    ·rw [<-hS3];exact e3
   have HMW:Hid (∀ yn xvn vsn w6,StoP w6 W.heap.size (2*i+2) gs g yn xvn vsn (zFy si x)->StoM gs wr yi xvi vsi w6 yn xvn vsn->zLx w6 W.heap.size (2*i+2) gs g db ob nDi nOi yn xvn vsn (zFy si x) (S 0)/\Mod zAb W w6):=fun yn xvn vsn w6 h1 h2=>by
    refine ⟨by rw [hS0];exact hSi.played h1 h2,hmd.trans' h2.md (fun k hk e=>?_)⟩
    rcases e with e | e
    ·have:=(hSi.sto.house.own.lt k e).1;omega
    ·have:=(hSi.sto.cells hgl e).1;omega
   have HSF:Hid (Safe (zFy si x).h/\(zFy si x).h.lines.length=3):=⟨gOK.rest.c.safe,gOK.ll⟩
   have HSS:Hid (zCy true (zGx (zFy si x).h 2) (S 0)=some (S 1)/\zCy false (zGx (zFy si x).h 1) (S 1)=some (S 2)/\zCy false (zGx (zFy si x).h 0) (S 2)=some (S 3)):=⟨hS2',hS1',hS0'⟩
   have HNN:Hid (nDi<=800000/\nOi<=800000):=⟨by omega,by omega⟩
   clear hmd hSi hOK hSc hnow hop hnd hno hx hval gOK gSc gNow gOp hsn hScn hS0 hS3 hS2' hS1' hS0'
   go_wp2_with fail
   refine HPL.out.mono ?_
   rintro e w6 ⟨rfl,hr6⟩
   obtain ⟨yn,xvn,vsn,hP6,hM6⟩:=hr6
   obtain ⟨hS6,hm6⟩:=HMW.out yn xvn vsn w6 hP6 hM6
   have HS6:=Hmq hS6
   have HM6:=Hmq hm6
   clear hP6 hM6 hS6 hm6 HMW HPL q0 q1 q2 q3
   go_upto_block 2 with fail
   refine wp_mono (Q:=zEf ?R2) (lines2 _ _ _ _ _ _ _ _ _ _ _ _ _ _ _ _ _ _ _ _ _ _ _ _ _ _ _ _ _ _ _ _ _ _ _ _ _ _ _ _ _ _ _ _ _ _ _ _ _ _ _ _ _ _ _ _ _ _ _ _ _ _ _ _ _ _ _ _ _ _ _ _ _ _ _ _ _ _ _ _ _ _ _ _ _ _ _ _ _ _ _ _ _ _ _ _ _ _ _ _ _ _ _ _ _ _ _ _ _ _ _ _ _ _ _ _ _ _ _ _ _ _ _ _ _ _ _ _ _ _ _ _ _ _ _ _ _ _ _ _ _ _ _ _ _ _ _ _ _ _ _ _ _ _ _ _ _  W.heap.size (2*i+2) gs g db ob nDi nOi yn xvn vsn (zFy si x) S w6 HS6.out HSF.out.1 HSF.out.2 HSS.out.1 HSS.out.2.1 HSS.out.2.2 HNN.out (R:=?R2) ?hN) ?hE
   case hE=>
    intro e a' wd hq
    cases e with
    | normal=>exact hq
    | ret=>exact hq.elim
    | exit id=>exact hq.elim
    | goto l=>exact hq.elim
    | panic ch=>exact hq.elim
    | outgrown=>exact hq.elim
   case hN=>
    intro v4 v11 v12 v13 v14 v15 v17 v57 v58 v59 v60 v61 v62 v63 v64 v65 v66 v67 v68 v69 v70 v71 v72 v73 v74 v75 v76 v77 v78 v79 v80 v81 v82 v83 v84 v85 v86 v87 v88 v89 v90 v91 v92 v93 v94 v95 v96 v97 v98 v99 v100 v101 v102 v103 v104 v105 v106 v107 v108 v109 v110 v111 v112 v113 v114 v115 v116 v117 v118 v119 v120 v121 v122 v123 v124 v125 v126 v127 v128 v129 v130 v131 v132 v133 v134 v135 v136 v137 v138 v139 v140 v141 v142 v143 v144 v145 v146 v147 v148 v149 v150 v151 v152 v153 v154 v155 v156 v157 v158 v159 v160 wd hmd' hex
    have HI:=Hmq (HFIN.out yn xvn vsn w6 wd HS6.out HM6.out hmd' hex)
    clear hmd' hex HFIN HS6 HM6
    rename_i Kc hKc
    refine hKc _ _ ?_
    clear hKc Kc
    go_wp2_with fail
    go_roundw
    case rel=>exact ⟨i+1,by omega,by go_num,HI.out⟩
    case measure=>simp [intOf];omega
  ·obtain rfl:i=acts.length:=by omega
   have HMD:=Hmq hmd
   clear hmd hSi hOK hSc hnow hop hnd hno
   go_wp2_with fail
   go_ret
   exact ⟨rfl,HMD.out⟩
end Go.Proofs.YtmaiggbnceejiaaGreatDoor
