import Derived.Test.YtogaigioeohjaaaGreatDoorD24
import Derived.RangeFuncNested
import Derived.RangeFuncBound
import Derived.RangeFuncCalls
import Derived.RangeFuncLeaves
import Derived.Shelf.Abstract
import Derived.OwnWalkIn
import Derived.TacticsInMore
import Derived.LoopNIn
import Derived.LoopIn
set_option linter.unusedVariables false
set_option maxRecDepth 100000
set_option maxHeartbeats 16000000
namespace Go.Proofs.YtogaigioeohjaaaGreatDoor
open Go.RowKit Go.Lib Go.Maps
def anyT(s:zAa)(m:Nat):Bool:=(List.range m).any fun k=>!(zGb s k).isEmpty
theorem yOg(s:zAa)(m:Nat):anyT s (m+1)=(anyT s m || !(zGb s m).isEmpty):=by unfold anyT;rw [List.range_succ,List.any_append];simp
theorem zMu.at{w:World}{a:Option Addr}{m cap:Nat}{cs:List CmdD}(h:zMu w (.slice a m cap) cs){i:Nat}{d:CmdD}(hi:cs[i]?=some d):∃ b off ua um uc,a=some ⟨b,off,none⟩/\w.cell? ⟨b,off+i*4,none⟩=some (.int .i64 d.kind)/\w.cell? ⟨b,off+i*4+1,none⟩=some (.int .i64 d.tx)/\w.cell? ⟨b,off+i*4+2,none⟩=some (.int .i64 d.time)/\w.cell? ⟨b,off+i*4+3,none⟩=some (.slice ua um uc):=by
 obtain ⟨us,h1,h2⟩:=h
 have hil:i<us.length:=by have:=(List.getElem?_eq_some_iff.1 hi).1;omega
 have hz:(cs.zip us)[i]?=some (d,us[i]):=by
  rw [List.getElem?_zip_eq_some]
  exact ⟨hi,List.getElem?_eq_getElem hil⟩
 obtain ⟨b,off,l,e1,_,e3,_,e5⟩:=SlR.at h2 hz
 unfold zZt at e3
 subst e3
 have q0:=e5 0 _ rfl
 simp only [Nat.add_zero] at q0
 obtain ⟨ua,um,uc,hu⟩:=h1.2 us[i] (List.getElem_mem hil)
 have q3:=e5 3 _ rfl
 dsimp only at q3
 rw [hu] at q3
 exact ⟨b,off,ua,um,uc,e1,q0,e5 1 _ rfl,e5 2 _ rfl,q3⟩
def yJq(w:World)(y:HLay)(v:Value)(cs:List CmdD):Prop:=zMu w v cs/\(cs=[]\/∀ k,v.ownBlock=some k->y.own k=.no/\k<w.heap.size)
theorem yJq.keep{w w':World}{y y':HLay}{v:Value}{cs:List CmdD}(h:yJq w y v cs)(k:zFi w y w' y'):yJq w' y' v cs:=by
 rcases h.2 with e | hq
 ·subst e
  obtain ⟨us,h1,a,cap,h2,h3,h4,_⟩:=h.1
  exact ⟨⟨us,h1,a,cap,h2,h3,h4,.inl (by simp)⟩,.inl rfl⟩
 ·exact ⟨h.1.mod k.md (fun z hz e=>e (hq z hz).1),.inr (fun z hz=>⟨by rw [k.old z (hq z hz).2];exact (hq z hz).1,Nat.lt_of_lt_of_le (hq z hz).2 k.size⟩)⟩
theorem yIg(k:Nat)(s:zAa)(cs:List CmdD)(c:CmdD):(cs++[c]).foldl (hearOne k) s=hearOne k (cs.foldl (hearOne k) s) c:=by rw [List.foldl_append];rfl
theorem zTs.tail_few{w:World}{n b:Nat}{y:HLay}{l:zCs}(h:zTs w n y b l)(hne:0<l.nodes.length):(l.nodes.getLastD zYt).log.length<=500:=by
 obtain ⟨d,hd,t,ht,hN⟩:=h.nodeQ (j:=l.nodes.length - 1) (by omega)
 have htl:l.nodes.getLastD zYt=t:=by
  rw [zEw _ _ hne]
  have:=List.getElem?_eq_getElem (show l.nodes.length - 1<l.nodes.length by omega)
  rw [ht] at this
  exact (Option.some.inj this).symm
 rw [htl]
 exact hN.few.2
theorem yQs(n c g:Nat)(y:HLay)(s:zAa)(w:World)(h:zAe w n c g y s)(hs:zGd s)(hc:c<=10000)(hn:ySe s) :
  Calls Tryz.prog 137 #[.pointer (some ⟨g,0,none⟩)] w fun e w'=>e=.returned (.bool (zDo s))/\∃ y',zAe w' n c g y' (zHz s)/\zAm w y w' y':=by
 obtain ⟨c0,-⟩:=blkH h.blk
 obtain ⟨la,lcap,hlv⟩:=zAg h.lrow
 have hll:=hs.ll
 have hlen:=h.llen
 rw [hlv,hlen] at c0
 have HLV:Hid (y.lv=.slice la s.lines.length lcap):=by unfold Hid;rw [hlv,hlen]
 have HH:=Hmq h
 have HS:=Hmq hs
 have HN:=Hmq hn
 clear h hs hn hlv
 go_enter Tryz.func137,Tryz.ntmps137
 go_wp2_with fail
 go_loopw [3,13] (fun f k0 wr=>∃ (k:Nat) (yr:HLay),k<=s.lines.length/\k0=.int .i64 k/\f=.bool (anyT s k)/\zAe wr n c g yr (zIf s k)/\zAm w y wr yr) (fun _ k0 _=>s.lines.length - (intOf k0).toNat)
 case atStart=>exact ⟨0,y,Nat.zero_le _,rfl,rfl,HH.out,zAm.refl _ _⟩
 case round=>
  obtain ⟨k,yr,hkl,rfl,rfl,hH,hK⟩:=hrel
  obtain ⟨wo,hwo⟩:∃ x,x=wr:=⟨_,rfl⟩
  subst hwo
  by_cases hlt:k<s.lines.length
  ·obtain ⟨hsm,hhd,hwr⟩:=zNg s k hkl
   have hk':k<(zIf s k).lines.length:=by rw [hsm.ll];exact hlt
   have hsh:=hsm.shape HS.out (hwr HS.out.tw)
   obtain ⟨b,hb,hL⟩:=hH.lineQ hk'
   obtain ⟨lg,cap',hv,cl⟩:=zIy hH.lrow hb
   have hla:la=some ⟨lg,0,none⟩:=by
    have e:=hK.lv
    rw [hv,HLV.out] at e
    simp only [Value.slice.injEq] at e
    exact e.1.symm
   subst hla
   have hnl:=hsh.nl _ (zMg hk')
   have hnw:=yHq hkl
   have hn2:=HN.out k hlt
   have htl:((zIf s k).line k).nodes.getLastD zYt=zGe s k:=by unfold zGe;rw [hsm.nodes];rfl
   have hhe:((zIf s k).line k).heard=(s.line k).heard:=hhd k (Nat.le_refl _)
   have hf5:=hL.tail_few (by omega)
   rw [htl] at hf5
   have HNW:=Hmq (yPy n b yr ((zIf s k).line k) wo hL (by omega) (by omega) (by rw [htl,hhe];exact hn2.1))
   rw [show (((zIf s k).line k).nodes.getLastD zYt).log.drop ((zIf s k).line k).heard=zGb s k by rw [htl,hhe];rfl] at HNW
   have hcl:(s.line k).heard+(zGb s k).length<=500:=by
    have:(zGb s k).length=(zGe s k).log.length - (s.line k).heard:=by unfold zGb;rw [List.length_drop]
    omega
   have HTX:=Hmq hn2.2
   have hkI:(k:Int)<(s.lines.length:Int):=by omega
   have hk0:(0:Int)<=(k:Int):=by omega
   have HHo:=Hmq hH
   have HKo:=Hmq hK
   have HB:=Hmq hb
   have HSH:=Hmq hsh
   have HHE:=Hmq hhe
   have HAN:=Hmq (yOg s k)
   have HSU:Hid (zIf s (k+1)=(zGb s k).foldl (hearOne k) (zIf s k)):=by unfold Hid;rw [zMj];unfold zMx;rw [hnw]
   have HLL:=Hmq hk'
   have HTN:Hid ((zIf s k).txs.length=s.txs.length):=hsm.len
   clear hH hK hL hb hv hsm hhd hwr hsh hnw hn2 htl hhe hf5 hnl hk'
   generalize zGb s k=cs at HNW hcl HTX HAN HSU
   generalize zIf s k=S at HHo HSH HHE HSU HLL HTN
   go_upto_region 5 with fail
   go_wp2_with fail
   refine HNW.out.mono ?_
   rintro e w2 ⟨v,rfl,hv2,hf2,hm2⟩
   have hcf:yJq w2 yr v cs:=by
    refine ⟨hv2,?_⟩
    obtain ⟨us,hu,a',cap2,e1,_,_,e4⟩:=hv2
    rcases e4 with e4 | ⟨b',off',e5,e6,_⟩
    ·left
     have hz:(cs.zip us).length=cs.length:=by rw [List.length_zip];omega
     rw [e4] at hz
     exact List.eq_nil_of_length_eq_zero hz.symm
    ·right
     intro z hz
     have hz2:=hf2 z hz
     refine ⟨?_,?_⟩
     ·by_cases e:yr.own z=.no
      ·exact e
      ·have:=(HHo.out.own.lt z e).2;omega
     ·rw [e1,e5] at hz
      simp [Value.ownBlock] at hz
      subst hz;exact e6
   have hvs:∃ va vc,v=.slice va cs.length vc:=by
    obtain ⟨us,hu,a',cap2,e1,_⟩:=hv2
    refine ⟨a',cap2,?_⟩
    rw [e1,List.length_zip,hu.1,Nat.min_self]
   obtain ⟨va,vc,hva⟩:=hvs
   subst hva
   have HCF:=Hmq hcf
   have HH2:=Hmq (HHo.out.quiet hm2)
   have HK2:=Hmq (HKo.out.trans (zAm.quiet hm2))
   clear hv2 hf2 hm2 hcf HHo HKo HNW
   go_wp2_with fail
   go_loopw [3,21] (fun f j0 wi=>∃ (j:Nat) (yi:HLay),j<=cs.length/\j0=.int .i64 j/\f=.bool (anyT s k || decide (0<j))/\zAe wi n c g yi ((cs.take j).foldl (hearOne k) S)/\zAm w y wi yi/\zAm w2 yr wi yi) (fun _ j0 _=>cs.length - (intOf j0).toNat)
   case atStart=>exact ⟨0,yr,Nat.zero_le _,rfl,by simp,HH2.out,HK2.out,zAm.refl _ _⟩
   case round=>
    obtain ⟨j,yi,hjl,rfl,rfl,hHi,hKi,hKr⟩:=hrel
    by_cases hjlt:j<cs.length
    ·obtain ⟨d,hd⟩:∃ d,cs[j]?=some d:=⟨_,List.getElem?_eq_getElem hjlt⟩
     obtain ⟨cb,coff,ua,um,uc,hca,q0,q1,q2,q3⟩:=zMu.at (HCF.out.keep hKr.st).1 hd
     subst hca
     obtain ⟨hx1,hx2⟩:=HTX.out d (List.mem_of_getElem? hd)
     obtain ⟨T,hT⟩:∃ T,T=(cs.take j).foldl (hearOne k) S:=⟨_,rfl⟩
     have hTs:zLw S T:=by rw [hT];exact zNf k _ S HLL.out
     have hTw:∀ t∈T.txs,t.writes.length<=20:=by rw [hT];exact zLm k _ S HSH.out.tw
     have hTh:(T.line k).heard=(s.line k).heard+j:=by
      rw [hT,zKi k _ S HLL.out,if_pos rfl,HHE.out,List.length_take];omega
     rw [<-hT] at hHi
     have hTsh:=hTs.shape HSH.out hTw
     have hTk:k<T.lines.length:=by rw [hTs.ll];exact HLL.out
     have HNX:Hid ((cs.take (j+1)).foldl (hearOne k) S=hearOne k T d):=by unfold Hid;rw [zBt hd,yIg,hT]
     obtain ⟨kind,tx,time,wss⟩:=d
     dsimp only at q0 q1 q2 hx1 hx2
     obtain ⟨w3,hw3⟩:∃ z,z=wr.alloc (.cells #[.int .i64 kind,.int .i64 tx,.int .i64 time,.slice ua um uc] 108):=⟨_,rfl⟩
     have hm3:Mod zAb wr w3:=by rw [hw3];exact (Mod.refl _ wr).alloc _
     have hb3:Blk w3 wr.heap.size [.int .i64 kind,.int .i64 tx,.int .i64 time,.slice ua um uc] 108:=by rw [hw3];exact Blk.new wr _ _
     have x0:=hb3.cell 0 rfl
     have x1:=hb3.cell 1 rfl
     have x2:=hb3.cell 2 rfl
     have x3:=hb3.cell 3 rfl
     have HFO:=Hmq (yIj n c g yi T k ⟨kind,tx,time,wss⟩ (.slice ua um uc) w3 (hHi.quiet hm3) hTsh hc hTk ⟨hx1,by rw [hTs.len,HTN.out];exact hx2⟩)
     have HK3:=Hmq (hKi.trans (zAm.quiet hm3))
     have HR3:=Hmq (hKr.trans (zAm.quiet hm3))
     have hjI:(j:Int)<(cs.length:Int):=by omega
     have hj0:(0:Int)<=(j:Int):=by omega
     have HTS:=Hmq hTs
     have hTf:=zBk.follow T k ⟨kind,tx,time,wss⟩
     have HTF:=Hmq hTf
     have hzb:cb<wr.heap.size:=World.block_lt_of_cell? wr _ q0
     clear hHi hKi hKr hd hT hTw hTsh hb3 hTf hTs
     go_upto_region 8 with fail
     rw [<-hw3]
     clear hw3 q0 q1 q2 q3
     go_wp2_with fail
     refine HFO.out.mono ?_
     rintro e w4 ⟨rfl,y4,hH4,hK4⟩
     have hk4:k<(zBx T k ⟨kind,tx,time,wss⟩).lines.length:=by rw [HTF.out.l];exact hTk
     have hb4:y4.lbs[k]?=some b:=by rw [hK4.l,HR3.out.l];exact HB.out
     have hL4:=hH4.line k b _ hb4 (zBj hk4)
     have hheq:((zBx T k ⟨kind,tx,time,wss⟩).line k).heard=(s.line k).heard+j:=by
      rw [<-hTh];unfold zAa.line;rw [HTF.out.l]
     have l1:=hL4.blk.cell 1 rfl
     have f1:=hL4.blk.frozen 1
     have zl:=hL4.blk.lt
     obtain ⟨w5,hw5⟩:∃ z,z=w4.setCell ⟨b,1,none⟩ (.int .i64 (((zBx T k ⟨kind,tx,time,wss⟩).line k).heard+1:Nat)):=⟨_,rfl⟩
     have hm5:Mod (zAd b) w4 w5:=by rw [hw5];exact Mod.setBlk b 1 _
     have hB5:Blk w5 b [y4.lnv b,.int .i64 (((zBx T k ⟨kind,tx,time,wss⟩).line k).heard+1:Nat)] 122:=by rw [hw5];exact hL4.blk.set 1 _
     obtain ⟨hH5,hK5⟩:=hH4.turnH hk4 hb4 hm5 hB5
     have HF:Hid (zAe w5 n c g y4 ((cs.take (j+1)).foldl (hearOne k) S)/\zAm w y w5 y4/\zAm w2 yr w5 y4):=by
      unfold Hid;rw [HNX.out]
      exact ⟨hH5,(HK3.out.trans hK4).trans hK5,(HR3.out.trans hK4).trans hK5⟩
     rw [hheq] at l1 hw5
     have hw5':w5=w4.setCell ⟨b,1,none⟩ (.int .i64 (((s.line k).heard:Int)+(j:Int)+1)):=by rw [hw5];congr 2
     have l1':w4.cell? ⟨b,1,none⟩=some (.int .i64 (((s.line k).heard:Int)+(j:Int))):=by rw [l1];congr 2
     clear hH4 hK4 hL4 hm5 hB5 hH5 hK5 l1 hw5 HFO
     go_upto_region 10 with fail
     rw [<-hw5']
     clear hw5' l1' f1
     go_wp2_with fail
     go_roundw
     case rel=>exact ⟨j+1,y4,by omega,by go_num,by simp,HF.out.1,HF.out.2.1,HF.out.2.2⟩
     case measure=>simp [intOf];omega
    ·obtain rfl:j=cs.length:=by omega
     rw [List.take_length] at hHi
     have HF:Hid (zAe wr n c g yi (zIf s (k+1))/\zAm w y wr yi):=⟨by rw [HSU.out];exact hHi,hKi⟩
     have HFL:Hid (anyT s (k+1)=(anyT s k || decide (0<cs.length))):=by
      unfold Hid;rw [HAN.out];congr 1
      cases cs <;> simp
     clear hHi hKi hKr HCF
     go_wp2_with fail
     go_roundw
     case rel=>exact ⟨k+1,yi,by omega,by go_num,by rw [HFL.out],HF.out.1,HF.out.2⟩
     case measure=>simp [intOf];omega
  ·obtain rfl:k=s.lines.length:=by omega
   have HF:Hid (∃ y',zAe wo n c g y' (zHz s)/\zAm w y wo y'):=⟨yr,hH,hK⟩
   clear hH hK
   go_wp2_with fail
   go_ret
   exact ⟨rfl,HF.out⟩
theorem zVy(x:Int):∀ l:List Int,decide (plI (zGt x l) ≥ 0)=decide (x∈l)
 | []=>rfl
 | a :: l=>by
  have ih:=zVy x l
  unfold zGt
  by_cases h:x=a
  ·rw [if_pos h];subst h;simp [plI]
  ·rw [if_neg h]
   have e:decide (x∈a :: l)=decide (x∈l):=by simp [h]
   rw [e,<-ih]
   cases zGt x l with
   | none=>rfl
   | some k=>simp [plI];omega
theorem zOt(v:Value)(ns:List Int)(x:Int)(w:World)(hv:zHt w v ns) :
  Calls Tryz.prog 142 #[v,.int .i64 x] w fun e w'=>e=.returned (.bool (decide (x∈ns)))/\w'=w:=by
 have HI:=Hmq (zVq v ns x w hv)
 obtain ⟨a,cap,rfl,hc1,hc2,hcl⟩:=hv
 have HM:=Hmq (zVy x ns)
 clear hcl
 go_enter Tryz.func142,Tryz.ntmps142
 go_wp2_with fail
 refine HI.out.mono ?_
 rintro e w1 ⟨rfl,rfl⟩
 go_wp2_with fail
 go_ret
 exact ⟨by rw [<-HM.out];rfl,rfl⟩
theorem yLd(n b:Nat)(y:HLay)(t:TxS)(w:World)(h:TxP w n y b t) :
  Calls Tryz.prog 195 #[.pointer (some ⟨b,0,none⟩)] w fun e w'=>e=.returned (.bool (zIx t))/\w'=w:=by
 have HC:=Hmq (zOt (y.tav b) t.ats 1 w (zHt.of_own h.ats))
 have c1:=h.blk.cell 1 rfl
 obtain ⟨a,cap,hv⟩:=zAg h.ats
 rw [hv] at c1 HC
 clear h hv
 have HR:Hid (zIx t=!decide ((1:Int)∈t.ats)):=rfl
 cases hd:decide ((1:Int)∈t.ats)
 all_goals
  rw [hd] at HC HR
  go_enter Tryz.func195,Tryz.ntmps195
  go_wp2_with fail
  refine HC.out.mono ?_
  rintro e w1 ⟨rfl,rfl⟩
  go_wp2_with fail
  go_ret
  exact ⟨by rw [HR.out];rfl,rfl⟩
end Go.Proofs.YtogaigioeohjaaaGreatDoor
namespace Go.Proofs.YtogaigioeohjaaaGreatDoor
open Go.RowKit Go.Lib Go.Maps Go.Shelf
theorem Mod.putObj{G:Nat->Prop}{a w:World}(h:Mod G a w){r:Nat}(hr:r<a.heap.size->G r)(o:Obj):Mod G a (w.putObj r o):=
 ⟨h.os,h.tape,h.output,by simpa using h.size,fun k hk hG=>by rw [World.putObj_heap_other (fun e=>hG (by subst e;exact hr hk))];exact h.block k hk hG⟩
def zQu{β:Type}(N:Nat)(J:β->World->Prop):Prop:=∀ s A B,Mod (zDd N) A B->N<=A.heap.size->J s A->J s B
def yCj{α:Type}(m:Nat)(P:Program)(l:Nat)(encs:α->Array Value)(X:Nat->Prop)(xs:List α)(J:List α->World->Prop)(Jx:World->Prop):Prop:=
 ∀ pre x rest A,xs=pre++x :: rest->J pre A->YieldAt Fence.wide m P l (encs x) A fun e B=>Mod X A B/\((e=.returned (.bool true)/\J (pre++[x]) B)\/(e=.returned (.bool false)/\Jx B))
def Iter{α:Type}(n:Nat)(P:Program)(g:Nat)(lb:Array Value)(encs:α->Array Value)(R:Nat->Prop)(xs:List α)(w:World):Prop:=
 ∀ (l:Nat) (X:Nat->Prop) (J:List α->World->Prop) (Jx:World->Prop) (W:World),Mod zAb w W->(∀ k,X k->k<W.heap.size/\¬ R k) ->
  zQu W.heap.size J->zQu W.heap.size (fun (_:Unit)=>Jx)->yCj (n - 1) P l encs X xs J Jx->J [] W ->
  CallsIn Fence.wide n P g (#[.func (.yield l) #[] #[]]++lb) W fun e B=>(∃ v,e=.returned v)/\Mod X W B/\(J xs B\/Jx B)
def zZs{α:Type}(X:Nat->Prop)(I:List α->World->Prop)(Ix:Code->World->Prop)(xs:List α)(W:World):Exit->Act->World->Prop
 | .normal,_,B=>Mod X W B/\I xs B
 | .ret,_,B=>Mod X W B/\Ix .ret B
 | .exit id,_,B=>Mod X W B/\Ix (.exit id) B
 | .goto t,_,B=>Mod X W B/\Ix (.goto t) B
 | .panic _,_,_=>False
 | .outgrown,_,_=>False
theorem zZv{α:Type}{F:Fence}{n:Nat}{P:Program}{g:Operand}{ps:Array Tmp}{assign body:Code}{Q:Exit->Act->World->Prop}{a:Act}{w:World}
  (hfn:F.fn=fun _=>True) (hdp:F.depth=none) (hal:F.alive=false)
  {l:Nat} {d:Nat} {mark:List Deferred} {lay:Obj->World} (hen:∀ fn,(Instr.enterLoop fn a.tmps ps assign body F.round).run P w=.ok (l,mark) (lay (.loop { state:=.ready,pending:=none,fn,tmps:=a.tmps,params:=ps,assign,body,defers:=d })))
  (hlay:∀ o,Mod zAb w (lay o)/\(lay o).heap[l]?=some o) (hl:w.heap.size<=l)
  {gf:Nat} {lb:Array Value} (hg:a.eval g=.func (.func gf) #[] lb) (eg:∀ args w,(callFunc gf args).run P w=.ok (.enter gf args) w)
  {encs:α->Array Value} {R:Nat->Prop} {xs:List α} (hit:Iter (n - 1) P gf lb encs R xs w) (hps:∀ x,(encs x).size=ps.size)
  (X:Nat->Prop) (hX:∀ k,X k->k<w.heap.size/\¬ R k) (hR:∀ k,R k->k<w.heap.size)
  (I:List α->World->Prop) (Ix:Code->World->Prop) (hI:zQu w.heap.size I) (hIx:zQu w.heap.size Ix) (h0:I [] w)
  (hround:∀ (pre:List α) (x:α) (rest:List α) (W:World),xs=pre++x :: rest->I pre W->l<W.heap.size ->
   assign.wpIn (Fence.wide.inRound l) (n - 1 - 1) P (Exit.then (fun a' Wa=>Mod zAb W Wa/\∀ Wb,Mod (zAd l) Wa Wb->(∃ r,Wb.heap[l]?=some (.loop r))->I pre Wb->body.wpIn (Fence.wide.inRound l) (n - 1 - 1) P (zZs X I Ix (pre++[x]) Wb) a' Wb) (fun _ _ _=>False))
    { tmps:=(ps.zip (encs x)).foldl (fun t (p,v)=>t.setIfInBounds p v) a.tmps,defers:=[] } W)
  (hdone:∀ W o,Mod (fun k=>X k\/k=l) (lay o) W->I xs W->Q .normal { a with defers:=mark++a.defers } W)
  (hstop:∀ c W o,Mod (fun k=>X k\/k=l) (lay o) W->Ix c W->c.wpIn F n P Q { a with defers:=mark++a.defers } W) :
  (Code.rangeFunc g ps assign body).wpIn F n P Q a w:=by
 obtain ⟨ffn,fdp,fal,fro⟩:=F
 dsimp only at hfn hdp hal
 subst hfn hdp hal
 refine wpIn_rangeFunc ?_
 intro fn _
 obtain ⟨rec,hrec⟩:∃ rec:LoopState->Option Code->Loop,rec=fun st pe=>{ state:=st,pending:=pe,fn,tmps:=a.tmps,params:=ps,assign,body,defers:=d }:=⟨_,rfl⟩
 obtain ⟨hm1,hL1⟩:=hlay (.loop (rec .ready none))
 have hne:=hen fn
 obtain ⟨W1,hW1⟩:∃ z,z=lay (.loop (rec .ready none)):=⟨_,rfl⟩
 rw [<-hW1] at hm1 hL1
 have hne':(Instr.enterLoop fn a.tmps ps assign body fro).run P w=.ok (l,mark) W1:=by rw [hW1,hrec];exact hne
 have hlt1:l<W1.heap.size:=(Array.getElem?_eq_some_iff.1 hL1).1
 have hput:∀ {W:World} {pre:List α} (o:Obj),w.heap.size<=W.heap.size->I pre W->I pre (W.putObj l o):=fun o hs hi=>hI _ _ _ ((Mod.refl (zDd w.heap.size) _).putObj (fun _=>hl) o) hs hi
 have hputx:∀ {W:World} {c:Code} (o:Obj),w.heap.size<=W.heap.size->Ix c W->Ix c (W.putObj l o):=fun o hs hi=>hIx _ _ _ ((Mod.refl (zDd w.heap.size) _).putObj (fun _=>hl) o) hs hi
 refine ⟨l,mark,W1,{ target:=.fn (.func gf) lb,args:=#[.func (.yield l) #[] #[]] },W1,gf,#[.func (.yield l) #[] #[]]++lb,W1,hne',?_,fun _ _=>trivial,?_,fun e=>by simp at e,?_⟩
 ·simp only [resolve,hg]
  simp [go_sem]
 ·simp [invoke,go_sem,eg]
 ·have hc:=hit l (fun k=>X k\/k=l) (fun pre W=>I pre W/\w.heap.size<=W.heap.size/\W.heap[l]?=some (.loop (rec .ready none))) (fun W=>∃ c,Ix c W/\w.heap.size<=W.heap.size/\W.heap[l]?=some (.loop (rec .done (some c)))) W1 hm1
   (fun k hk=>by
    rcases hk with hk | rfl
    ·exact ⟨Nat.lt_of_lt_of_le (hX k hk).1 hm1.size,(hX k hk).2⟩
    ·exact ⟨hlt1,fun hr=>by have:=hR _ hr;omega⟩)
   (fun pre A B hm hs ⟨h1,h2,h3⟩=>⟨hI _ _ _ (hm.mono (fun i _ hi=>Nat.le_trans hm1.size hi)) h2 h1,Nat.le_trans h2 hm.size,by rw [hm.block l (by omega) (by simp only [zDd];omega)];exact h3⟩)
   (fun _ A B hm hs ⟨c,h1,h2,h3⟩=>⟨c,hIx _ _ _ (hm.mono (fun i _ hi=>Nat.le_trans hm1.size hi)) h2 h1,Nat.le_trans h2 hm.size,by rw [hm.block l (by omega) (by simp only [zDd];omega)];exact h3⟩)
   (by
    rintro pre x rest A hx ⟨hi,hs,hlA⟩
    have hy:=run_yield (P:=P) (args:=encs x) hlA (by rw [hrec];exact hps x)
    rw [hrec] at hy
    refine ⟨fn,_,assign,body,hy,roundIn_of_wpIn (by trivial) (wpIn_mono (hround pre x rest A hx hi (Array.getElem?_eq_some_iff.1 hlA).1) ?_)⟩
    clear hy
    rintro e a' Wa hp
    cases e with
    | normal=>
     obtain ⟨hma,hb⟩:=hp
     have hltA:l<A.heap.size:=(Array.getElem?_eq_some_iff.1 hlA).1
     have hla:Wa.heap[l]?=some (.loop (rec .ready none)):=by rw [hma.block l hltA id];exact hlA
     have hlta:l<Wa.heap.size:=(Array.getElem?_eq_some_iff.1 hla).1
     refine ⟨_,run_beginRound hla (by rw [hrec]),?_⟩
     obtain ⟨Wb,hWb⟩:∃ z,z=Wa.putObj l (.loop { rec .ready none with state:=.busy }):=⟨_,rfl⟩
     have hlb:Wb.heap[l]?=some (.loop { rec .ready none with state:=.busy }):=by rw [hWb];exact World.putObj_heap_same hlta
     have hltb:l<Wb.heap.size:=(Array.getElem?_eq_some_iff.1 hlb).1
     have hmb:Mod (zAd l) Wa Wb:=by rw [hWb];exact Mod.putObj (G:=zAd l) (Mod.refl (zAd l) Wa) (fun _=>(rfl:l=l)) _
     have hia:I pre Wa:=hI _ _ _ (hma.mono (fun _ _ e=>e.elim)) hs hi
     have hib:I pre Wb:=by rw [hWb];exact hput _ (Nat.le_trans hs hma.size) hia
     rw [<-hWb]
     have hmab:Mod (fun k=>X k\/k=l) A Wb:=(hma.mono (fun _ _ e=>e.elim)).trans (hmb.mono (fun _ _ e=>.inr e))
     refine wpIn_mono (hb Wb hmb ⟨_,hlb⟩ hib) ?_
     have fin:∀ (jump:Option Code) (W3:World),Mod X Wb W3 ->
       (Instr.endRound l jump).run P W3=.ok (.bool jump.isNone) (W3.putObj l (.loop (rec (if jump.isNone then .ready else .done) jump)))/\w.heap.size<=W3.heap.size /\
       (W3.putObj l (.loop (rec (if jump.isNone then .ready else .done) jump))).heap[l]?=some (.loop (rec (if jump.isNone then .ready else .done) jump)) /\
       Mod (fun k=>X k\/k=l) A (W3.putObj l (.loop (rec (if jump.isNone then .ready else .done) jump))):=fun jump W3 hk3=>by
      have hl3:W3.heap[l]?=some (.loop { rec .ready none with state:=.busy }):=by rw [hk3.block l hltb (fun e=>by have:=(hX l e).1;omega)];exact hlb
      have:=run_endRound (P:=P) jump hl3
      refine ⟨?_,Nat.le_trans hs (Nat.le_trans hmab.size hk3.size),World.putObj_heap_same (Array.getElem?_eq_some_iff.1 hl3).1,(hmab.trans (hk3.mono (fun _ _ e=>.inl e))).putObj (fun _=>.inr rfl) _⟩
      rw [hrec] at this ⊢
      exact this
     rintro e a3 W3 hp
     cases e with
     | normal=>
      obtain ⟨hr,hs3,hl4,hm4⟩:=fin none W3 hp.1
      exact ⟨_,_,hr,hm4,.inl ⟨rfl,hput _ hs3 hp.2,by simpa using hs3,hl4⟩⟩
     | ret=>
      obtain ⟨hr,hs3,hl4,hm4⟩:=fin (some .ret) W3 hp.1
      exact ⟨_,_,hr,hm4,.inr ⟨rfl,_,hputx _ hs3 hp.2,by simpa using hs3,hl4⟩⟩
     | exit id=>
      obtain ⟨hr,hs3,hl4,hm4⟩:=fin (some (.exit id)) W3 hp.1
      exact ⟨_,_,hr,hm4,.inr ⟨rfl,_,hputx _ hs3 hp.2,by simpa using hs3,hl4⟩⟩
     | goto t=>
      obtain ⟨hr,hs3,hl4,hm4⟩:=fin (some (.goto t)) W3 hp.1
      exact ⟨_,_,hr,hm4,.inr ⟨rfl,_,hputx _ hs3 hp.2,by simpa using hs3,hl4⟩⟩
     | panic ch=>exact hp.elim
     | outgrown=>exact hp.elim
    | ret=>exact hp.elim
    | exit id=>exact hp.elim
    | goto t=>exact hp.elim
    | panic ch=>exact hp.elim
    | outgrown=>exact hp.elim)
   ⟨hI _ _ _ (hm1.mono (fun _ _ e=>e.elim)) (Nat.le_refl _) h0,hm1.size,hL1⟩
  have hc':CallsIn { fn:=fun _=>True,depth:=none,alive:=false,round:=fro } (n - 1) P gf (#[.func (.yield l) #[] #[]]++lb) W1 fun e B=>(∃ v,e=.returned v)/\Mod (fun k=>X k\/k=l) W1 B/\((I xs B/\w.heap.size<=B.heap.size/\B.heap[l]?=some (.loop (rec .ready none)))\/∃ c,Ix c B/\w.heap.size<=B.heap.size/\B.heap[l]?=some (.loop (rec .done (some c)))):=hc
  refine hc'.mono ?_
  rintro e W2 ⟨⟨v,rfl⟩,hm2,⟨hi,hs2,hl2⟩ | ⟨c,hi,hs2,hl2⟩⟩
  ·exact ⟨none,_,by have:=run_endLoop (P:=P) hl2 (by rw [hrec];simp);rw [hrec] at this;exact this,hdone _ (.loop (rec .ready none)) (by rw [hW1] at hm2;exact hm2.putObj (fun _=>.inr rfl) _) (hput _ hs2 hi)⟩
  ·exact ⟨some c,_,by have:=run_endLoop (P:=P) hl2 (by rw [hrec];simp);rw [hrec] at this;exact this,hstop c _ (.loop (rec .ready none)) (by rw [hW1] at hm2;exact hm2.putObj (fun _=>.inr rfl) _) (hputx _ hs2 hi)⟩
theorem zNz{α:Type}{n:Nat}{P:Program}{g:Operand}{ps:Array Tmp}{assign body:Code}{Q:Exit->Act->World->Prop}{a:Act}{w:World}
  {gf:Nat} {lb:Array Value} (hg:a.eval g=.func (.func gf) #[] lb) (eg:∀ args w,(callFunc gf args).run P w=.ok (.enter gf args) w)
  {encs:α->Array Value} {R:Nat->Prop} {xs:List α} (hit:Iter (n - 1) P gf lb encs R xs w) (hps:∀ x,(encs x).size=ps.size)
  (X:Nat->Prop) (hX:∀ k,X k->k<w.heap.size/\¬ R k) (hR:∀ k,R k->k<w.heap.size)
  (I:List α->World->Prop) (Ix:Code->World->Prop) (hI:zQu w.heap.size I) (hIx:zQu w.heap.size Ix) (h0:I [] w)
  (hround:∀ (pre:List α) (x:α) (rest:List α) (W:World),xs=pre++x :: rest->I pre W->w.heap.size+1<W.heap.size ->
   assign.wpIn (Fence.wide.inRound (w.heap.size+1)) (n - 1 - 1) P (Exit.then (fun a' Wa=>Mod zAb W Wa/\∀ Wb,Mod (zAd (w.heap.size+1)) Wa Wb->(∃ r,Wb.heap[w.heap.size+1]?=some (.loop r))->I pre Wb->body.wpIn (Fence.wide.inRound (w.heap.size+1)) (n - 1 - 1) P (zZs X I Ix (pre++[x]) Wb) a' Wb) (fun _ _ _=>False))
    { tmps:=(ps.zip (encs x)).foldl (fun t (p,v)=>t.setIfInBounds p v) a.tmps,defers:=[] } W)
  (hdone:∀ W,Mod X w W->W.heap[w.heap.size]?=some (.deferred (some []))->I xs W->Q .normal { a with defers:={ target:=.collected w.heap.size,args:=#[] } :: a.defers } W)
  (hstop:∀ c W,Mod X w W->W.heap[w.heap.size]?=some (.deferred (some []))->Ix c W->c.wpIn Fence.wide n P Q { a with defers:={ target:=.collected w.heap.size,args:=#[] } :: a.defers } W) :
  (Code.rangeFunc g ps assign body).wpIn Fence.wide n P Q a w:=by
 have hb:∀ {o W},Mod (fun k=>X k\/k=w.heap.size+1) ((w.alloc (.deferred (some []))).alloc o) W->Mod X w W/\W.heap[w.heap.size]?=some (.deferred (some [])):=fun {o W} h=>
  ⟨(((Mod.refl X w).alloc _).alloc _).trans' (h.mono (fun i _ e=>e)) (fun i hi e=>e.elim id (fun e=>by omega)),by
   rw [h.block w.heap.size (by simp;omega) (fun e=>e.elim (fun e=>absurd (hX _ e).1 (by omega)) (fun e=>by omega))]
   rw [heap_alloc_old _ _ (by simp)]
   exact heap_alloc_new w _⟩
 refine zZv (F:=Fence.wide) (l:=w.heap.size+1) (d:=w.heap.size) (mark:=[{ target:=.collected w.heap.size,args:=#[] }]) (lay:=fun o=>(w.alloc (.deferred (some []))).alloc o) rfl rfl rfl (fun fn=>run_enterLoop_outer _ _ _ _ _) (fun o=>⟨((Mod.refl _ w).alloc _).alloc _,?_⟩) (by omega) hg eg hit hps X hX hR I Ix hI hIx h0 hround
  (fun W o hm hi=>hdone W (hb hm).1 (hb hm).2 hi) (fun c W o hm hi=>hstop c W (hb hm).1 (hb hm).2 hi)
 have:=heap_alloc_new (w.alloc (.deferred (some []))) o
 simpa using this
theorem yPi{α:Type}{n:Nat}{P:Program}{g:Operand}{ps:Array Tmp}{assign body:Code}{Q:Exit->Act->World->Prop}{a:Act}{w:World}
  {l₀:Nat} {r₀:Loop} (hl₀:w.heap[l₀]?=some (.loop r₀)) {gf:Nat} {lb:Array Value} (hg:a.eval g=.func (.func gf) #[] lb) (eg:∀ args w,(callFunc gf args).run P w=.ok (.enter gf args) w)
  {encs:α->Array Value} {R:Nat->Prop} {xs:List α} (hit:Iter (n - 1) P gf lb encs R xs w) (hps:∀ x,(encs x).size=ps.size)
  (X:Nat->Prop) (hX:∀ k,X k->k<w.heap.size/\¬ R k) (hR:∀ k,R k->k<w.heap.size)
  (I:List α->World->Prop) (Ix:Code->World->Prop) (hI:zQu w.heap.size I) (hIx:zQu w.heap.size Ix) (h0:I [] w)
  (hround:∀ (pre:List α) (x:α) (rest:List α) (W:World),xs=pre++x :: rest->I pre W->w.heap.size<W.heap.size ->
   assign.wpIn (Fence.wide.inRound w.heap.size) (n - 1 - 1) P (Exit.then (fun a' Wa=>Mod zAb W Wa/\∀ Wb,Mod (zAd w.heap.size) Wa Wb->(∃ r,Wb.heap[w.heap.size]?=some (.loop r))->I pre Wb->body.wpIn (Fence.wide.inRound w.heap.size) (n - 1 - 1) P (zZs X I Ix (pre++[x]) Wb) a' Wb) (fun _ _ _=>False))
    { tmps:=(ps.zip (encs x)).foldl (fun t (p,v)=>t.setIfInBounds p v) a.tmps,defers:=[] } W)
  (hdone:∀ W,Mod X w W->I xs W->Q .normal a W)
  (hstop:∀ c W,Mod X w W->Ix c W->c.wpIn (Fence.wide.inRound l₀) n P Q a W) :
  (Code.rangeFunc g ps assign body).wpIn (Fence.wide.inRound l₀) n P Q a w:=by
 have hb:∀ {o W},Mod (fun k=>X k\/k=w.heap.size) (w.alloc o) W->Mod X w W:=fun {o W} h=>
  ((Mod.refl X w).alloc _).trans' (h.mono (fun i _ e=>e)) (fun i hi e=>e.elim id (fun e=>by omega))
 exact zZv (F:=Fence.wide.inRound l₀) (l:=w.heap.size) (d:=r₀.defers) (mark:=[]) (lay:=fun o=>w.alloc o) rfl rfl rfl (fun fn=>run_enterLoop_inner hl₀ _ _ _ _ _) (fun o=>⟨(Mod.refl _ w).alloc _,heap_alloc_new w o⟩) (Nat.le_refl _) hg eg hit hps X hX hR I Ix hI hIx h0 hround
  (fun W o hm hi=>hdone W (hb hm) hi) (fun c W o hm hi=>hstop c W (hb hm) hi)
end Go.Proofs.YtogaigioeohjaaaGreatDoor
