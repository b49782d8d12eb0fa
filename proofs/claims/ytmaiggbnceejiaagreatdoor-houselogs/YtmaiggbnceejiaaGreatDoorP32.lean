import Derived.Test.YtmaiggbnceejiaaGreatDoorP31
set_option linter.unusedVariables false
set_option maxRecDepth 100000
set_option maxHeartbeats 16000000
namespace Go.Proofs.YtmaiggbnceejiaaGreatDoor
open Go.RowKit Go.Lib Go.Maps
theorem yEk{s s':zAa}(hd:s'.dead=s.dead)(id:Int):∀ (k:Nat) (ls:List zCr),zQu s' id k ls=zQu s id k ls
 | _,[]=>rfl
 | k,l :: ls=>by
  have e:zTv s' l.nodes id=zTv s l.nodes id:=by unfold zTv zAs;rw [hd]
  unfold zQu
  rw [e,yEk hd id (k+1) ls]
theorem yNn{s s':zAa}(hd:s'.dead=s.dead)(hl:s'.lines=s.lines)(id:Int):zIl s' id=zIl s id:=by
 unfold zIl;rw [hl];exact yEk hd id 0 _
theorem zVj{y:HLay}{e:Ending}(h:yMf y none e):e=.returned (.tuple #[.pointer none,.bool false]):=h
theorem zVi{y:HLay}{e:Ending}{k j:Nat}(h:yMf y (some (k,j)) e):∃ b d,y.lbs[k]?=some b/\(y.nbs b)[j]?=some d/\e=.returned (.tuple #[.pointer (some ⟨d,0,none⟩),.bool true]):=h
theorem zTh(n c g:Nat)(y:HLay)(s:zAa)(i:Nat)(m:MsgD)(w:World)(h:zAd w n c g y s)(hS:Safe s)(hHd:Held s)(hc:c<=10000)(hi:s.net.way[i]?=some m)(hlo:s.net.lost+750800<=4611686018427387904) :
  Calls Tryz.prog 28 #[.pointer (some ⟨g,0,none⟩),.int .i64 i] w (PutP w n c g y (zBf s i) 0):=by
 have hTK:=yEb (y.lo n) g y.wv y.mr s.net i m w h.netP hi
 unfold msgV at hTK
 have HTK:=Hmq hTK
 have hgm:zJf m:=by obtain ⟨_,_,_,_,_,_,_,hgm,-⟩:=h.net.row.at hi;exact hgm
 clear hTK
 have hTS:Safe (zBi s i):=hS.way fun m' hm'=>List.mem_of_mem_eraseIdx hm'
 have hTH:Held (zBi s i):=hHd.lines rfl rfl
 have hnn:zIl (zBi s i) m.to=zIl s m.to:=yNn (s:=s) (s':=zBi s i) rfl rfl _
 have hmo:yBl (zBi s i) m:=hS.msg m (List.mem_of_getElem? hi)
 have HGM:=Hmq hgm
 have HTS:=Hmq hTS
 have HTH:=Hmq hTH
 have HNN:=Hmq hnn
 have HMO:=Hmq hmo
 have hg:=h.blk.lt
 have HH:=Hmq h
 have HE0:Hid (errQ 0=.nilIface):=zAz
 have HDN:Hid (zIl s m.to=none->zBf s i=zBi s i):=fun e=>by
  unfold zBf
  rw [hi]
  simp only
  rw [e]
 have HDS:Hid (∀ kk j,zIl s m.to=some (kk,j)->zBf s i=zCi (zHt (zBi s i) kk j m)):=fun kk j e=>by
  unfold zBf
  rw [hi]
  simp only
  rw [e]
 clear h hS hHd hgm hTS hTH hnn hmo hi
 obtain ⟨kind,frm,to_,ep,num,⟨ck,ct,cm,cw⟩⟩:=m
 go_enter Tryz.func28,Tryz.ntmps28
 go_upto_region 2 with (first
  | (go_at_call 54;refine HTK.out.mono ?_;rintro e w1 ⟨wv1,u,rfl,hN1,hP1,hv1,hm1⟩;(obtain ⟨ua,ucap,rfl⟩:∃ ua ucap,u=.slice ua cw.length ucap:=(by obtain ⟨ua,ucap,h,_⟩:=hP1;exact ⟨ua,ucap,h⟩)))
  | fail)
 obtain ⟨hH1,hS1⟩:=HH.out.turnW hm1 hN1 (.inl hv1) (.inl rfl)
 obtain ⟨w2,hw2⟩:∃ x,x=w1.alloc (.cells #[.int .i64 kind,.int .i64 frm,.int .i64 to_,.int .i64 ep,.int .i64 num,.int .i64 ck,.int .i64 ct,.int .i64 cm,.slice ua cw.length ucap] 112):=⟨_,rfl⟩
 rw [<-hw2]
 have hm2:Mod zAb w1 w2:=by rw [hw2];exact (Mod.refl _ w1).alloc _
 have hB2:Blk w2 w1.heap.size [.int .i64 kind,.int .i64 frm,.int .i64 to_,.int .i64 ep,.int .i64 num,.int .i64 ck,.int .i64 ct,.int .i64 cm,.slice ua cw.length ucap] 112:=by rw [hw2];exact Blk.new w1 _ _
 have hK1:zAn w y w1 (y.setW w wv1 y.mr):=⟨hS1,rfl,rfl,rfl,rfl,rfl⟩
 have hL1:(y.setW w wv1 y.mr).lo n=y.lo n:=rfl
 rw [<-hL1] at hP1
 generalize y.setW w wv1 y.mr=y1 at hH1 hK1 hP1
 have hH2:=hH1.quiet hm2
 have HK2:=Hmq (hK1.trans (zAn.quiet hm2))
 have HP2:=Hmq (hP1.mod hm2 (Qm.none _ _))
 have HH2:Hid (zAd w2 n c g y1 (zBi s i)):=hH2
 have HND:=Hmq (yAd n c g y1 (zBi s i) to_ w2 hH2 HTS.out.shape)
 have q2:=hB2.cell 2 rfl
 have HB2:=Hmq hB2
 have hg2:=hH2.blk.lt
 clear hw2 hm1 hN1 hv1 hH1 hS1 hK1 hP1 hH2 hm2 hB2 HTK hL1
 cases hno:zIl s to_ with
 | none=>
  have hnt:zIl (zBi s i) to_=none:=by rw [HNN.out];exact hno
  rw [hnt] at HND
  have HE:=Hmq (HDN.out hno)
  clear hno hnt
  go_upto_region 5 with (first
   | (go_at_call 55;refine HND.out.mono ?_;rintro e w3 ⟨hfo,hm3⟩;obtain rfl:=zVj hfo)
   | fail)
  have HF:Hid (PutP w n c g y (zBf s i) 0 (.returned .nilIface) w3):=⟨by rw [HE0.out],y1,by rw [HE.out];exact HH2.out.quiet hm3,HK2.out.trans (zAn.quiet hm3)⟩
  clear hm3
  go_wp2_with fail
  go_ret
  exact HF.out
 | some kj=>
  obtain ⟨kk,j⟩:=kj
  have hnt:zIl (zBi s i) to_=some (kk,j):=by rw [HNN.out];exact hno
  rw [hnt] at HND
  have HE:=Hmq (HDS.out kk j hno)
  obtain ⟨hkk,x,hx1,hx2,hx3⟩:=zJp hnt
  have hjl:=(List.getElem?_eq_some_iff.1 hx1).1
  have hxe:zAo (zBi s i) kk j=x:=zFg hx1
  have hfew:=(HTS.out.line kk hkk).few x (List.mem_of_getElem? hx1)
  have hSS:=HTS.out.step hkk hx1 HMO.out
  have hTl:=zCh.step (s:=zBi s i) hkk hx1 hx2 ⟨kind,frm,to_,ep,num,⟨ck,ct,cm,cw⟩⟩
  have hSH:Held (zHt (zBi s i) kk j ⟨kind,frm,to_,ep,num,⟨ck,ct,cm,cw⟩⟩):=HTH.out.lines hTl.keys hTl.txs
  have hlen:=yEd hfew ⟨kind,frm,to_,ep,num,⟨ck,ct,cm,cw⟩⟩
  have hst:zHt (zBi s i) kk j ⟨kind,frm,to_,ep,num,⟨ck,ct,cm,cw⟩⟩=zMt (zCa (zBi s i) kk j (zCw x ⟨kind,frm,to_,ep,num,⟨ck,ct,cm,cw⟩⟩).1) (zCw x ⟨kind,frm,to_,ep,num,⟨ck,ct,cm,cw⟩⟩).2:=by unfold zHt;rw [hxe]
  have hls:(zHt (zBi s i) kk j ⟨kind,frm,to_,ep,num,⟨ck,ct,cm,cw⟩⟩).net.lost<=s.net.lost+500:=by
   rw [hst]
   have:=(zEt (zCw x ⟨kind,frm,to_,ep,num,⟨ck,ct,cm,cw⟩⟩).2 (zBi s i).net).2
   have e2:(zBi s i).net.lost=s.net.lost:=rfl
   show (zEz (zBi s i).net _).lost<=_
   omega
  have HSS:=Hmq hSS
  have HSH:=Hmq hSH
  have HST:=Hmq hst
  have HLS:=Hmq hls
  have HKK:=Hmq hkk
  have HX1:=Hmq hx1
  have HLEN:=Hmq hlen
  clear hno hnt hSS hSH hst hls hTl hxe hx2 hx3 hkk hx1 hlen
  go_upto_region 6 with (first
   | (go_at_call 55;refine HND.out.mono ?_;rintro e w3 ⟨hfo,hm3⟩;obtain ⟨b,d,hb,hd,rfl⟩:=zVi hfo)
   | fail)
  have hm3d:Mod zAb w2 w3.drew:=hm3.drewN 1
  have hB3:=HB2.out.mod hm3 (fun e=>e)
  have HH3:=Hmq (HH2.out.quiet hm3d)
  have HK3:=Hmq (HK2.out.trans (zAn.quiet hm3d))
  have hN3:=HH3.out.nodeB hb (List.mem_of_getElem? hd)
  rw [HH3.out.st_eq hb (zBh HKK.out) hd HX1.out] at hN3
  have HSTP:=Hmq (yLm (y1.lo n) d (y1.nnv d) (y1.nlv d) x ⟨kind,frm,to_,ep,num,⟨ck,ct,cm,cw⟩⟩ (.slice ua cw.length ucap) w3.drew hN3 (HP2.out.mod hm3d (Qm.none _ _)) HGM.out)
  obtain ⟨⟨p0,p1,p2,p3,p4,p5,p6,p7,p8⟩,_⟩:=blk9 hB3
  have hg3:g<w3.heap.size:=Nat.lt_of_lt_of_le hg2 hm3.size
  have HBB:=Hmq hb
  have HDD:=Hmq hd
  clear hm3 hm3d hB3 hN3 hfo hb hd HND q2
  go_region_with (first
   | (go_at_call 56;refine HSTP.out.mono ?_;rintro e w7 ⟨v7,lv7,rfl,hN7,hR7,hf7,hmv7,hm7⟩;obtain ⟨va7,vc7,hva7⟩:=hR7.slice;subst hva7;obtain ⟨y7,hH7,hK7,hR7',hno7⟩:=HH3.out.turnS HKK.out HBB.out HDD.out hm7 hN7 (.inl rfl) hmv7 hR7 hf7;(have HSE:=Hmq (zLo n c g y7 _ _ _ w7 hH7 hR7' hno7 (by have:=HLEN.out;have e2:(zBi s i).net.lost=s.net.lost:=rfl;show (zBi s i).net.lost+_<=_;omega)));(have HK7:=Hmq (HK3.out.trans hK7));clear hH7 hK7 hR7' hno7 hN7 hR7 hf7 hmv7 hm7 HSTP)
   | (go_at_call 48;refine HSE.out.mono ?_;rintro e w8 ⟨⟨x8,rfl⟩,y8,hH8,hK8⟩)
   | fail)
  all_goals
   have HSET:=Hmq (zPj n c g y8 _ w8 hH8 (by rw [<-HST.out];exact HSS.out) (by rw [<-HST.out];exact HSH.out) hc (by rw [<-HST.out];have:=HLS.out;omega))
   have HK8:=Hmq (HK7.out.trans hK8)
   clear hH8 hK8 HSE p0 p1 p2 p3 p4 p5 p6 p7 p8
   go_wp2_with fail
   refine HSET.out.mono ?_
   rintro e w9 ⟨rfl,y9,hH9,hK9⟩
   have HF:Hid (PutP w n c g y (zBf s i) 0 (.returned .nilIface) w9):=⟨by rw [HE0.out],y9,by rw [HE.out,HST.out];exact hH9,HK8.out.trans hK9⟩
   clear hH9 hK9 HSET
   go_wp2_with fail
   go_ret
   exact HF.out
def zBc(s:zAa)(k:Nat):List Nat:=(List.range (s.line k).nodes.length).filter fun j=>zAs s (zAo s k j)
theorem zMi(s:zAa)(k:Nat):(zBc s k).map (zAo s k)=zAj s k:=by
 have e:(s.line k).nodes=(List.range (s.line k).nodes.length).map (zAo s k):=by
  apply List.ext_getElem?
  intro j
  rw [List.getElem?_map]
  by_cases hj:j<(s.line k).nodes.length
  ·rw [zDt hj,List.getElem?_range hj];rfl
  ·rw [List.getElem?_eq_none (by omega),List.getElem?_eq_none (by simp;omega)];rfl
 unfold zBc zAj
 conv=>rhs;rw [e]
 rw [List.filter_map]
 rfl
theorem zMj(s:zAa)(k:Nat):(zBc s k).length=(zAj s k).length:=by rw [<-zMi,List.length_map]
theorem zHi{s:zAa}{k i j:Nat}(h:(zBc s k)[i]?=some j):j<(s.line k).nodes.length/\zAs s (zAo s k j)=true:=by
 have:=List.mem_filter.1 (List.mem_of_getElem? h)
 exact ⟨List.mem_range.1 this.1,this.2⟩
def LivV(w:World)(y:HLay)(s:zAa)(k b:Nat)(v:Value):Prop:=∃ va vc,v=.slice va (zBc s k).length vc/\∀ (i j:Nat),(zBc s k)[i]?=some j->∃ lg d,va=some ⟨lg,0,none⟩/\(y.nbs b)[j]?=some d/\w.cell? ⟨lg,i,none⟩=some (.pointer (some ⟨d,0,none⟩))/\y.own lg=.no
theorem LivV.keep{w w':World}{y y':HLay}{s:zAa}{k b:Nat}{v:Value}(h:LivV w y s k b v)(hK:zBv w y w' y')(hn:y'.nbs=y.nbs):LivV w' y' s k b v:=by
 obtain ⟨va,vc,h1,h2⟩:=h
 refine ⟨va,vc,h1,fun i j hi=>?_⟩
 obtain ⟨lg,d,e1,e2,e3,e4⟩:=h2 i j hi
 exact ⟨lg,d,e1,by rw [hn];exact e2,hK.md.cell e3 (fun e=>e e4),by rw [hK.old lg (World.block_lt_of_cell? w _ e3)];exact e4⟩
theorem LivV.of{w w':World}{n c g:Nat}{y:HLay}{s:zAa}{k b:Nat}{v:Value}(h:zAd w n c g y s)(hk:k<s.lines.length)(hb:y.lbs[k]?=some b)(hm:Mod zAb w w')(hr:w'.ownsRow w.heap.size 91 1 v (y.liv s b).length (zDo (y.liv s b))):LivV w' y s k b v:=by
 have hL:=h.line k b _ hb (zBh hk)
 have hliv:y.liv s b=(zBc s k).map fun j=>(y.nbs b).getD j 0:=by
  have e:y.nbs b=(List.range (s.line k).nodes.length).map fun j=>(y.nbs b).getD j 0:=by
   apply List.ext_getElem?
   intro j
   rw [List.getElem?_map]
   by_cases hj:j<(s.line k).nodes.length
   ·rw [List.getElem?_range hj,Option.map_some,List.getD_eq_getElem?_getD,List.getElem?_eq_getElem (by rw [hL.len];exact hj)];rfl
   ·rw [List.getElem?_eq_none (by rw [hL.len];omega),List.getElem?_eq_none (by simp;omega)];rfl
  unfold HLay.liv zBc
  conv=>lhs;rw [e]
  rw [List.filter_map]
  congr 1
  apply List.filter_congr
  intro j hj
  have hj':=List.mem_range.1 hj
  show zAs s (y.st s ((y.nbs b).getD j 0))=_
  have hd:(y.nbs b)[j]?=some ((y.nbs b).getD j 0):=by rw [List.getD_eq_getElem?_getD,List.getElem?_eq_getElem (by rw [hL.len];exact hj')];rfl
  rw [h.st_eq hb (zBh hk) hd (zDt hj')]
 have hlen:(y.liv s b).length=(zBc s k).length:=by rw [hliv,List.length_map]
 obtain ⟨va,vc,hv⟩:=zAf hr
 rw [hlen] at hv
 refine ⟨va,vc,hv,fun i j hi=>?_⟩
 have hil:=(List.getElem?_eq_some_iff.1 hi).1
 rcases hr.2 with ⟨e,h0⟩ | ⟨g',cap',cur,e,q1,_⟩
 ·omega
 ·have hva:va=some ⟨g',0,none⟩:=by
   rw [hv] at e
   simp only [Value.slice.injEq] at e
   exact e.1
  have hr':=hr
  rw [e] at hr'
  have hd:(y.liv s b)[i]?=some ((y.nbs b).getD j 0):=by rw [hliv,List.getElem?_map,hi];rfl
  have hc:=hr'.cells (g:=g') rfl i (ptrV ((y.nbs b).getD j 0)) (by rw [<-zOd,List.getElem?_map,hd];rfl)
  have e2:(⟨g',0,none⟩:Addr).add i=⟨g',i,none⟩:=by cases i <;> simp [Addr.add]
  rw [e2] at hc
  refine ⟨g',(y.nbs b).getD j 0,hva,?_,hc,?_⟩
  ·rw [List.getD_eq_getElem?_getD,List.getElem?_eq_getElem (by rw [hL.len];exact (zHi hi).1)];rfl
  ·exact Classical.byContradiction fun q=>by have:=(h.own.lt g' q).2;omega
theorem zNp(n c g:Nat)(y:HLay)(s:zAa)(k b:Nat)(w:World)(h:zAd w n c g y s)(hs:zFb s)(hk:k<s.lines.length)(hb:y.lbs[k]?=some b) :
  Calls Tryz.prog 46 #[.pointer (some ⟨g,0,none⟩),.int .i64 k] w fun e w'=>∃ v,e=.returned v/\LivV w' y s k b v/\Mod zAb w w':=by
 have hl:=(h.line k b _ hb (zBh hk)).len
 have h4:=hs.nl _ (zKi hk)
 refine (zPu n c g y s k b w h hk hb (by omega) (by omega)).mono ?_
 rintro e w' ⟨v,rfl,hr,hm⟩
 exact ⟨v,rfl,LivV.of h hk hb hm hr,hm⟩
def zSg(s:zAa)(m:Nat):Nat:=((List.range m).map fun k=>((zAj s k).map fun n=>n.log.length).sum).sum
theorem zSf(s:zAa)(m:Nat):zSg s (m+1)=zSg s m+((zAj s m).map fun n=>n.log.length).sum:=by unfold zSg;rw [List.range_succ,List.map_append,List.sum_append];simp
def zOp(s:zAa)(k i:Nat):Nat:=(((zBc s k).take i).map fun j=>(zAo s k j).log.length).sum
theorem yCt{s:zAa}{k i j:Nat}(h:(zBc s k)[i]?=some j):zOp s k (i+1)=zOp s k i+(zAo s k j).log.length:=by unfold zOp;rw [zBn h,List.map_append,List.sum_append];simp
theorem yGv(s:zAa)(k:Nat):zOp s k (zBc s k).length=((zAj s k).map fun n=>n.log.length).sum:=by unfold zOp;rw [List.take_length,<-zMi,List.map_map];rfl
theorem zZx{s:zAa}(h:Safe s):∀ m,m<=s.lines.length->zSg s m<=2000*m
 | 0,_=>by simp [zSg]
 | m+1,hm=>by
  have ih:=zZx h m (by omega)
  have hm':m<s.lines.length:=by omega
  rw [zSf]
  have h4:=h.len4 hm'
  have hl:(zAj s m).length<=(s.line m).nodes.length:=List.length_filter_le _ _
  have:((zAj s m).map fun n=>n.log.length).sum<=500*(zAj s m).length:=by
   have hf:∀ n∈zAj s m,n.log.length<=500:=fun n hn=>(h.line m hm').few n (List.mem_filter.1 hn).1
   generalize zAj s m=l at hf
   induction l with
   | nil=>simp
   | cons a l ih=>
    have h1:=ih (fun n hn=>hf n (by simp [hn]))
    have h2:=hf a (by simp)
    simp only [List.map_cons,List.sum_cons,List.length_cons];omega
  omega
theorem yKi{s:zAa}(h:Safe s){k:Nat}(hk:k<s.lines.length)(i:Nat):zOp s k i<=2000:=by
 have h4:=h.len4 hk
 have hl:((zBc s k).take i).length<=4:=by
  have h1:((zBc s k).take i).length<=(zBc s k).length:=by rw [List.length_take];omega
  rw [zMj] at h1
  have h2:(zAj s k).length<=(s.line k).nodes.length:=List.length_filter_le _ _
  omega
 have hf:∀ j∈(zBc s k).take i,(zAo s k j).log.length<=500:=fun j hj=>by
  obtain ⟨x,hx⟩:=List.getElem?_of_mem (List.mem_of_mem_take hj)
  exact (h.line k hk).few _ (List.mem_of_getElem? (zDt (zHi hx).1))
 unfold zOp
 generalize (zBc s k).take i=l at hl hf
 have:(l.map fun j=>(zAo s k j).log.length).sum<=500*l.length:=by
  clear hl
  induction l with
  | nil=>simp
  | cons a l ih=>
   have h1:=ih (fun n hn=>hf n (by simp [hn]))
   have h2:=hf a (by simp)
   simp only [List.map_cons,List.sum_cons,List.length_cons];omega
 omega
theorem yKh(n c g:Nat)(y:HLay)(s:zAa)(w:World)(h:zAd w n c g y s)(hS:Safe s) :
  Calls Tryz.prog 44 #[.pointer (some ⟨g,0,none⟩)] w fun e w'=>e=.returned (.int .i64 (zFz s))/\Mod zAb w w':=by
 obtain ⟨c0,-⟩:=blkH h.blk
 obtain ⟨la,lcap,hlv⟩:=zAf h.lrow
 have hll:=hS.ll
 have hlen:=h.llen
 rw [hlv,hlen] at c0
 have HH:=Hmq h
 have HS:=Hmq hS
 clear h hS hlv
 go_enter Tryz.func44,Tryz.ntmps44
 go_wp2_with fail
 go_loopw [3,12] (fun a0 k0 wr=>∃ (k:Nat),k<=s.lines.length/\k0=.int .i64 k/\a0=.int .i64 (zSg s k)/\Mod zAb w wr) (fun _ k0 _=>s.lines.length - (intOf k0).toNat)
 case atStart=>exact ⟨0,Nat.zero_le _,rfl,rfl,Mod.refl _ _⟩
 case round=>
  obtain ⟨k,hkl,rfl,rfl,hM⟩:=hrel
  obtain ⟨wo,hwo⟩:∃ x,x=wr:=⟨_,rfl⟩
  subst hwo
  by_cases hlt:k<s.lines.length
  ·have hH:=HH.out.quiet hM
   obtain ⟨b,hb,hL⟩:=hH.lineQ hlt
   have HLI:=Hmq (zNp n c g y s k b wo hH HS.out.shape hlt hb)
   have hkI:(k:Int)<(s.lines.length:Int):=by omega
   have hk0:(0:Int)<=(k:Int):=by omega
   have hT:=zZx HS.out k hkl
   have HI:=Hmq (fun i=>yKi HS.out hlt i)
   have HB:=Hmq hb
   have HM:=Hmq hM
   have HSU:=Hmq (zSf s k)
   have HAL:=Hmq (yGv s k)
   clear hH hL hb hM
   go_wp2_with fail
   refine HLI.out.mono ?_
   rintro e w1 ⟨v,rfl,hv,hm1⟩
   have hvv:∃ va vc,v=.slice va (zBc s k).length vc:=by obtain ⟨va,vc,e,_⟩:=hv;exact ⟨va,vc,e⟩
   obtain ⟨va,vc,hva⟩:=hvv
   subst hva
   have HV:=Hmq hv
   have HM1:=Hmq (HM.out.trans hm1)
   have hl4:(zBc s k).length<=4:=by
    rw [zMj]
    have h2:(zAj s k).length<=(s.line k).nodes.length:=List.length_filter_le _ _
    have:=HS.out.len4 hlt
    omega
   clear hv hm1 HLI
   go_wp2_with fail
   go_loopw [3,19] (fun a0 i0 wi=>∃ (i:Nat),i<=(zBc s k).length/\i0=.int .i64 i/\a0=.int .i64 ((zSg s k:Int)+(zOp s k i:Int))/\Mod zAb w wi/\Mod zAb w1 wi) (fun _ i0 _=>(zBc s k).length - (intOf i0).toNat)
   case atStart=>exact ⟨0,Nat.zero_le _,rfl,by simp [zOp],HM1.out,Mod.refl _ _⟩
   case round=>
    obtain ⟨i,hil,rfl,rfl,hMi,hMr⟩:=hrel
    have hIl:=HI.out i
    by_cases hilt:i<(zBc s k).length
    ·obtain ⟨j,hj⟩:∃ j,(zBc s k)[i]?=some j:=⟨_,List.getElem?_eq_getElem hilt⟩
     obtain ⟨va',vc',e1,e2⟩:=HV.out
     simp only [Value.slice.injEq] at e1
     obtain ⟨e1,-,-⟩:=e1
     subst e1
     obtain ⟨lg,d,rfl,hd,hc,-⟩:=e2 i j hj
     have hHi:=HH.out.quiet hMi
     have hN:=hHi.nodeB HB.out (List.mem_of_getElem? hd)
     rw [hHi.st_eq HB.out (zBh hlt) hd (zDt (zHi hj).1)] at hN
     have HLE:=Hmq (zXz _ _ _ _ _ _ hN)
     have hci:=hMr.cell hc id
     have hiI:(i:Int)<((zBc s k).length:Int):=by omega
     have hi0:(0:Int)<=(i:Int):=by omega
     have hfew:=(HS.out.line k hlt).few _ (List.mem_of_getElem? (zDt (zHi hj).1))
     have HKS:=Hmq (yCt hj)
     have HMi:=Hmq hMi
     have HMr:=Hmq hMr
     clear hHi hN hMi hMr hj hd hc e2
     generalize (zAo s k j).log.length=ln at HLE hfew HKS
     go_wp2_with fail
     refine HLE.out.mono ?_
     rintro e w3 ⟨rfl,rfl⟩
     clear HLE
     go_wp2_with fail
     go_roundw
     case rel=>exact ⟨i+1,by omega,by go_num,by rw [HKS.out];go_num,HMi.out,HMr.out⟩
     case measure=>simp [intOf];omega
    ·obtain rfl:i=(zBc s k).length:=by omega
     have HMi:=Hmq hMi
     clear hMi hMr
     go_wp2_with fail
     go_roundw
     case rel=>exact ⟨k+1,by omega,by go_num,by rw [HSU.out,<-HAL.out];rfl,HMi.out⟩
     case measure=>simp [intOf];omega
  ·obtain rfl:k=s.lines.length:=by omega
   have HM:=Hmq hM
   clear hM
   go_wp2_with fail
   go_ret
   exact ⟨rfl,HM.out⟩
def yFu(k:Nat)(h:zAa)(j:Nat):zAa:=zMt (zCa h k j (zEj (zAo h k j)).1) (zEj (zAo h k j)).2
theorem zUk{k j:Nat}{h:zAa}(hv:zAs h (zAo h k j)=true):tick1 k h j=yFu k h j:=by unfold tick1;rw [if_pos hv];rfl
theorem yFy{k j:Nat}{h:zAa}(hv:zAs h (zAo h k j)=false):tick1 k h j=h:=by unfold tick1;rw [if_neg (by rw [hv];simp)]
theorem zRj{s:zAa}{k:Nat}(hk:k<s.lines.length):∀ (js:List Nat) (S:zAa),Safe S->zCh s S->(∀ j∈js,j<(s.line k).nodes.length)->js.foldl (tick1 k) S=(js.filter fun j=>zAs s (zAo s k j)).foldl (yFu k) S
 | [],S,_,_,_=>rfl
 | j :: js,S,a,b,hj=>by
  have hjl:=hj j (by simp)
  have hlv:zAs S (zAo S k j)=zAs s (zAo s k j):=b.mv.lives hjl
  obtain ⟨c,d⟩:=a.tick1 (k:=k) (j:=j) (by rw [b.mv.ll];exact hk)
  have ih:=zRj hk js (tick1 k S j) c (b.trans d) (fun x hx=>hj x (by simp [hx]))
  rw [List.foldl_cons,ih,List.filter_cons]
  cases hv:zAs s (zAo s k j) with
  | true=>rw [hv] at hlv;rw [zUk hlv];rfl
  | false=>rw [hv] at hlv;rw [yFy hlv];rfl
theorem yFx{s:zAa}(h:Safe s){k:Nat}(hk:k<s.lines.length):zDm s k=(zBc s k).foldl (yFu k) s:=
 zRj hk (List.range (s.line k).nodes.length) s h (zCh.refl s) (fun j hj=>List.mem_range.1 hj)
def zMr(s:zAa)(m:Nat):zAa:=(List.range m).foldl zDm s
theorem zUh(s:zAa)(m:Nat):zMr s (m+1)=zDm (zMr s m) m:=by unfold zMr;rw [List.range_succ,List.foldl_append];rfl
theorem yFt{s:zAa}(h:Safe s):∀ m,m<=s.lines.length->Safe (zMr s m)/\zCh s (zMr s m)/\(zMr s m).net.lost<=s.net.lost+4*m:=by
 intro m
 induction m with
 | zero=>exact fun _=>⟨h,zCh.refl s,by simp [zMr]⟩
 | succ m ih=>
  intro hm
  rw [zUh]
  obtain ⟨a,b,c⟩:=ih (by omega)
  have hmS:m<(zMr s m).lines.length:=by rw [b.mv.ll];omega
  obtain ⟨a',b'⟩:=zJz a hmS
  obtain ⟨_,d',_⟩:=zPh m (List.range ((zMr s m).line m).nodes.length) (zMr s m)
  have h4:=a.len4 hmS
  rw [List.length_range] at d'
  refine ⟨a',b.trans b',?_⟩
  show (zDm (zMr s m) m).net.lost<=_
  unfold zDm
  omega
def zKz(s:zAa)(k i:Nat):zAa:=((zBc s k).take i).foldl (yFu k) s
theorem zUi{s:zAa}{k i j:Nat}(h:(zBc s k)[i]?=some j):zKz s k (i+1)=yFu k (zKz s k i) j:=by unfold zKz;rw [zBn h,List.foldl_append];rfl
theorem yFv{s:zAa}(h:Safe s){k:Nat}(hk:k<s.lines.length):∀ i,i<=(zBc s k).length->Safe (zKz s k i)/\zCh s (zKz s k i)/\(zKz s k i).net.lost<=s.net.lost+i:=by
 intro i
 induction i with
 | zero=>exact fun _=>⟨h,zCh.refl s,by simp [zKz]⟩
 | succ i ih=>
  intro hi
  obtain ⟨a,b,c⟩:=ih (by omega)
  obtain ⟨j,hj⟩:∃ j,(zBc s k)[i]?=some j:=⟨_,List.getElem?_eq_getElem (by omega)⟩
  obtain ⟨hjl,hjv⟩:=zHi hj
  rw [zUi hj]
  have hv:zAs (zKz s k i) (zAo (zKz s k i) k j)=true:=by rw [b.mv.lives hjl];exact hjv
  rw [<-zUk hv]
  obtain ⟨c',d'⟩:=a.tick1 (k:=k) (j:=j) (by rw [b.mv.ll];exact hk)
  have e:=zUl k (zKz s k i) j
  exact ⟨c',b.trans d',by omega⟩
theorem yEa(n c g:Nat)(y:HLay)(s:zAa)(w:World)(h:zAd w n c g y s)(hS:Safe s)(hlo:s.net.lost+20<=4611686018427387904) :
  Calls Tryz.prog 31 #[.pointer (some ⟨g,0,none⟩)] w fun e w'=>e=.returned (.tuple #[])/\∃ y',zAd w' n c g y' (zFd s)/\zAn w y w' y':=by
 obtain ⟨c0,-⟩:=blkH h.blk
 obtain ⟨la,lcap,hlv⟩:=zAf h.lrow
 have hll:=hS.ll
 have hlen:=h.llen
 rw [hlv,hlen] at c0
 have HH:=Hmq h
 have HS:=Hmq hS
 clear h hS hlv
 go_enter Tryz.func31,Tryz.ntmps31
 go_wp2_with fail
 go_loopw [10] (fun k0 wr=>∃ (k:Nat) (yr:HLay),k<=s.lines.length/\k0=.int .i64 k/\zAd wr n c g yr (zMr s k)/\zAn w y wr yr) (fun k0 _=>s.lines.length - (intOf k0).toNat)
 case atStart=>exact ⟨0,y,Nat.zero_le _,rfl,HH.out,zAn.refl _ _⟩
 case round=>
  obtain ⟨k,yr,hkl,rfl,hH,hK⟩:=hrel
  obtain ⟨wo,hwo⟩:∃ x,x=wr:=⟨_,rfl⟩
  subst hwo
  by_cases hlt:k<s.lines.length
  ·obtain ⟨tS,tT,tL⟩:=yFt HS.out k hkl
   have hk':k<(zMr s k).lines.length:=by rw [tT.mv.ll];exact hlt
   have hkT:(zMr s k).net.lost+4<=4611686018427387904:=by omega
   have hSU:=zUh s k
   rw [yFx tS hk'] at hSU
   have HSU:=Hmq hSU
   clear hSU tT tL
   generalize zMr s k=S at hH tS hkT hk' HSU
   obtain ⟨b,hb,hL⟩:=hH.lineQ hk'
   have HLI:=Hmq (zNp n c g yr S k b wo hH tS.shape hk' hb)
   have hkI:(k:Int)<(s.lines.length:Int):=by omega
   have hk0:(0:Int)<=(k:Int):=by omega
   have HHo:=Hmq hH
   have HKo:=Hmq hK
   have HB:=Hmq hb
   have HTS:=Hmq tS
   have HKK:=Hmq hk'
   clear hH hK hL hb tS hk'
   go_wp2_with fail
   refine HLI.out.mono ?_
   rintro e w1 ⟨v,rfl,hv,hm1⟩
   have hvv:∃ va vc,v=.slice va (zBc S k).length vc:=by obtain ⟨va,vc,e,_⟩:=hv;exact ⟨va,vc,e⟩
   obtain ⟨va,vc,hva⟩:=hvv
   subst hva
   have HV:=Hmq hv
   have HH1:=Hmq (HHo.out.quiet hm1)
   have HK1:=Hmq (HKo.out.trans (zAn.quiet hm1))
   have hl4:(zBc S k).length<=4:=by
    rw [zMj]
    have h2:(zAj S k).length<=(S.line k).nodes.length:=List.length_filter_le _ _
    have:=HTS.out.len4 HKK.out
    omega
   clear hv hm1 HLI
   go_wp2_with fail
   go_loopw [17] (fun i0 wi=>∃ (i:Nat) (yi:HLay),i<=(zBc S k).length/\i0=.int .i64 i/\zAd wi n c g yi (zKz S k i)/\zAn w y wi yi/\zAn w1 yr wi yi) (fun i0 _=>(zBc S k).length - (intOf i0).toNat)
   case atStart=>exact ⟨0,yr,Nat.zero_le _,rfl,HH1.out,HK1.out,zAn.refl _ _⟩
   case round=>
    obtain ⟨i,yi,hil,rfl,hHi,hKi,hKr⟩:=hrel
    obtain ⟨wi,hwi⟩:∃ x,x=wr:=⟨_,rfl⟩
    subst hwi
    by_cases hilt:i<(zBc S k).length
    ·obtain ⟨j,hj⟩:∃ j,(zBc S k)[i]?=some j:=⟨_,List.getElem?_eq_getElem hilt⟩
     obtain ⟨va',vc',e1,e2⟩:=HV.out.keep hKr.st hKr.n
     simp only [Value.slice.injEq] at e1
     obtain ⟨e1,-,-⟩:=e1
     subst e1
     obtain ⟨lg,d,rfl,hd,hc,-⟩:=e2 i j hj
     obtain ⟨tS2,tT2,tL2⟩:=yFv HTS.out HKK.out i hil
     have HSU2:=Hmq (zUi hj)
     have hjl:=(zHi hj).1
     have hjl2:j<((zKz S k i).line k).nodes.length:=by rw [tT2.mv.len];exact hjl
     have hkR:k<(zKz S k i).lines.length:=by rw [tT2.mv.ll];exact HKK.out
     generalize zKz S k i=R at hHi tS2 tL2 HSU2 hjl2 hkR
     have hbi:yi.lbs[k]?=some b:=by rw [hKr.l];exact HB.out
     have hHd:=hHi.quiet ((Mod.refl zAb wi).drewN 1)
     have hN:=hHd.nodeB hbi (List.mem_of_getElem? hd)
     rw [hHd.st_eq hbi (zBh hkR) hd (zDt hjl2)] at hN
     have HTI:=Hmq (zLu (yi.lo n) d (yi.nnv d) (yi.nlv d) (zAo R k j) wi.drew hN)
     have hiI:(i:Int)<((zBc S k).length:Int):=by omega
     have hi0:(0:Int)<=(i:Int):=by omega
     have hlen:=zNw (zAo R k j)
     have HLEN:Hid (R.net.lost+((zEj (zAo R k j)).2.length:Int)<=4611686018427387904):=by
      unfold Hid
      omega
     have HHd:Hid (zAd wi.drew n c g yi R):=hHd
     have HKi:=Hmq (hKi.trans (zAn.quiet ((Mod.refl zAb wi).drewN 1)))
     have HKr:=Hmq (hKr.trans (zAn.quiet ((Mod.refl zAb wi).drewN 1)))
     have HBi:=Hmq hbi
     have HDi:=Hmq hd
     have HKR:=Hmq hkR
     have hgi:=hHi.blk.lt
     clear hHi hN hj hd e2 tS2 tT2 tL2 hHd hKi hKr hbi hkR hjl hjl2 hlen
     go_upto_region 6 with fail
     go_region_with (first
      | (go_at_call 59;refine HTI.out.mono ?_;rintro e w7 ⟨v7,rfl,hN7,hR7,hf7,hm7⟩;obtain ⟨va7,vc7,hva7⟩:=hR7.slice;subst hva7;obtain ⟨y7,hH7,hK7,hR7',hno7⟩:=HHd.out.turnS HKR.out HBi.out HDi.out (hm7.mono (fun _ _ e=>.inl e)) hN7 (.inl rfl) (.inl rfl) hR7 hf7;(have HSE:=Hmq (zLo n c g y7 _ _ _ w7 hH7 hR7' hno7 HLEN.out));(have HK7:=Hmq (HKi.out.trans hK7));(have HR7:=Hmq (HKr.out.trans hK7));clear hH7 hK7 hR7' hno7 hN7 hR7 hf7 hm7 HTI)
      | (go_at_call 48;refine HSE.out.mono ?_;rintro e w8 ⟨⟨x8,rfl⟩,y8,hH8,hK8⟩)
      | fail)
     all_goals
      have HF:Hid (zAd w8 n c g y8 (zKz S k (i+1))/\zAn w y w8 y8/\zAn w1 yr w8 y8):=⟨by rw [HSU2.out];exact hH8,HK7.out.trans hK8,HR7.out.trans hK8⟩
      clear hH8 hK8 HSE hc
      go_wp2_with fail
      go_roundw
      case rel=>exact ⟨i+1,y8,by omega,by go_num,HF.out.1,HF.out.2.1,HF.out.2.2⟩
      case measure=>simp [intOf];omega
    ·obtain rfl:i=(zBc S k).length:=by omega
     have HF:Hid (zAd wi n c g yi (zMr s (k+1))/\zAn w y wi yi):=by
      have e:zKz S k (zBc S k).length=(zBc S k).foldl (yFu k) S:=by unfold zKz;rw [List.take_length]
      unfold Hid
      rw [HSU.out,<-e];exact ⟨hHi,hKi⟩
     clear hHi hKi hKr
     go_wp2_with fail
     go_roundw
     case rel=>exact ⟨k+1,yi,by omega,by go_num,HF.out.1,HF.out.2⟩
     case measure=>simp [intOf];omega
  ·obtain rfl:k=s.lines.length:=by omega
   have HF:Hid (∃ y',zAd wo n c g y' (zFd s)/\zAn w y wo y'):=⟨yr,hH,hK⟩
   clear hH hK
   go_wp2_with fail
   go_end0
   exact ⟨rfl,HF.out⟩
def yFk(n c g:Nat)(w:World)(y:HLay)(s:zAa)(wr:World)(f:Nat):Prop:=∃ (S:zAa) (yr:HLay),zLs s=drainF f S/\zEe S/\muS S<f/\potS S<=potS s/\zAd wr n c g yr S/\zAn w y wr yr
theorem yEn(s:zAa):s.net.lost<=potS s:=by unfold potS;omega
theorem yLj(n c g:Nat)(y:HLay)(s:zAa)(w:World)(h:zAd w n c g y s)(hC:zEe s)(hc:c<=10000)(hlo:potS s+750800<=4611686018427387904) :
  Calls Tryz.prog 45 #[.pointer (some ⟨g,0,none⟩)] w fun e w'=>e=.returned (.tuple #[])/\∃ y',zAd w' n c g y' (zLs s)/\zAn w y w' y':=by
 have HH:=Hmq h
 have HC:=Hmq hC
 have HLO:=Hmq hlo
 clear h hC hlo
 go_enter Tryz.func45,Tryz.ntmps45
 go_wp2_with fail
 go_loopw [] (fun wr=>∃ f,yFk n c g w y s wr f) (zLm (yFk n c g w y s))
 case atStart=>exact ⟨_,s,y,rfl,HC.out,Nat.lt_succ_self _,Int.le_refl _,HH.out,zAn.refl _ _⟩
 case round=>
  obtain ⟨S,yr,he,hC,hmu,hpo,hH,hK⟩:=zSe hrel
  obtain ⟨f,hff⟩:∃ f,f=zLm (yFk n c g w y s) wr:=⟨_,rfl⟩
  rw [<-hff] at he hmu
  have HFF:=Hmq hff
  clear hrel hff
  have HMA:=Hmq (yAe n c g yr S wr hH)
  have hfew:=hC.few
  obtain ⟨f',rfl⟩:∃ f',f=f'+1:=⟨f - 1,by omega⟩
  cases hw:S.net.way with
  | nil=>
   have HE:Hid (zLs s=S):=by
    unfold Hid
    rw [he]
    unfold drainF
    rw [hw];rfl
   rw [hw] at HMA hfew
   have HF:Hid (∃ y',zAd wr n c g y' (zLs s)/\zAn w y wr y'):=⟨yr,by rw [HE.out];exact hH,hK⟩
   clear hH hK hC he hmu hpo hw
   go_wp2_with fail
   refine HMA.out.mono ?_
   rintro e w1 ⟨rfl,rfl⟩
   clear HMA
   go_wp2_with fail
   go_end0
   exact ⟨rfl,HF.out⟩
  | cons m R=>
   have hne:S.net.way≠[]:=by rw [hw];simp
   have hi:S.net.way[0]?=some m:=by rw [hw];rfl
   obtain ⟨a,b,d⟩:=hC.deliver hne
   have hl1:=yEn S
   have hl2:=HLO.out
   have HDE:=Hmq (zTh n c g yr S 0 m wr hH hC.safe hC.held hc hi (by omega))
   have hpot:potS (zBf S 0)<=potS S:=by
    have e:=zLt hC.safe hC.held 0
    unfold potS;omega
   have HNX:Hid (∀ wq yq,zAd wq n c g yq (zBf S 0)->zAn w y wq yq->yFk n c g w y s wq f'):=fun wq yq h1 h2=>⟨zBf S 0,yq,by
    rw [he]
    show (if S.net.way.isEmpty=true then S else drainF f' (zBf S 0))=_
    rw [hw];rfl,a,by omega,by omega,h1,h2⟩
   have HK:=Hmq hK
   rw [hw] at HMA hfew
   have hp:(0:Int)<((m :: R).length:Int):=by simp only [List.length_cons];omega
   generalize (m :: R).length=q at HMA hp hfew
   clear hH hK hC he hmu hpo a b d hw hne hi hpot hl1 hl2
   go_wp2_with fail
   refine HMA.out.mono ?_
   rintro e w1 ⟨rfl,rfl⟩
   clear HMA
   go_wp2_with fail
   refine HDE.out.mono ?_
   rintro e w2 ⟨rfl,y2,hH2,hK2⟩
   have HI:=Hmq (HNX.out w2 y2 hH2 (HK.out.trans hK2))
   clear hH2 hK2 HDE
   go_wp2_with fail
   go_roundw
   case rel=>exact ⟨f',HI.out⟩
   case measure=>
    have h1:=zSd HI.out
    have h2:=HFF.out
    omega
def turnN:Nat->zAa->zAa
 | 0,s=>s
 | n+1,s=>zQs (turnN n s)
theorem zUf{s:zAa}(h:zEe s):∀ i,zEe (turnN i s)/\zBu s (turnN i s)/\potS (turnN i s)<=potS s+9040000000*i
 | 0=>⟨h,zBu.refl h.safe h.held,by simp [turnN]⟩
 | i+1=>by
  obtain ⟨a,b,c⟩:=zUf h i
  obtain ⟨a',b',c',_⟩:=zKy a
  refine ⟨a',b.trans b',?_⟩
  show potS (zQs (turnN i s))<=_
  omega
def yIc(n c g:Nat)(w:World)(y:HLay)(s:zAa)(b0:Value)(wr:World)(f:Nat):Prop:=∃ (S:zAa) (yr:HLay) (b:Int),b0=.int .i64 b/\zEe S/\zAd wr n c g yr S/\zAn w y wr yr/\(b≠zFz S/\zIa s=calmF f S/\10000 - zFz S<f/\potS S+36160000000*f<=potS s+36160000000*10001\/b=zFz S/\S=zIa s)
theorem yFe(n c g:Nat)(y:HLay)(s:zAa)(w:World)(h:zAd w n c g y s)(hC:zEe s)(hc:c<=10000)(hlo:potS s+400000000000000<=4611686018427387904) :
  Calls Tryz.prog 16 #[.pointer (some ⟨g,0,none⟩)] w fun e w'=>e=.returned (.tuple #[])/\∃ y',zAd w' n c g y' (zIa s)/\zAn w y w' y':=by
 have HH:=Hmq h
 have HC:=Hmq hC
 have HLO:=Hmq hlo
 clear h hC hlo
 go_enter Tryz.func16,Tryz.ntmps16
 go_wp2_with fail
 go_loopw [2] (fun b0 wr=>∃ f,yIc n c g w y s b0 wr f) (fun b0 wr=>zLm (yIc n c g w y s b0) wr)
 case atStart=>exact ⟨10001,s,y,-1,rfl,HC.out,HH.out,zAn.refl _ _,.inl ⟨by omega,rfl,by omega,Int.le_refl _⟩⟩
 case round=>
  obtain ⟨S,yr,b,hb,hC,hH,hK,hor⟩:=zSe hrel
  obtain ⟨f,hff⟩:∃ f,f=zLm (yIc n c g w y s u2) wr:=⟨_,rfl⟩
  rw [<-hff] at hor
  have HFF:=Hmq hff
  clear hrel hff
  subst hb
  have HKN:Hid (∀ wq,Mod zAb wr wq->Calls Tryz.prog 44 #[.pointer (some ⟨g,0,none⟩)] wq fun e w'=>e=.returned (.int .i64 (zFz S))/\Mod zAb wq w'):=fun wq hq=>yKh n c g yr S wq (hH.quiet hq) hC.safe
  rcases hor with ⟨hne,he,hfu,hpo⟩ | ⟨rfl,rfl⟩
  ·obtain ⟨f',rfl⟩:∃ f',f=f'+1:=⟨f - 1,by omega⟩
   have HNX:Hid (∀ wq yq,zAd wq n c g yq (calm1 S)->zAn w y wq yq->∃ f2,f2<=f'/\yIc n c g w y s (.int .i64 (zFz S)) wq f2):=fun wq yq h1 h2=>by
    obtain ⟨q1,q2,q3,_⟩:=zQd hC
    have hk2:=yOa q1.safe
    have hk1:=q2.mv.known
    have he2:zIa s=if zFz (calm1 S)=zFz S then calm1 S else calmF f' (calm1 S):=he
    by_cases e:zFz (calm1 S)=zFz S
    ·rw [if_pos e] at he2
     exact ⟨0,Nat.zero_le _,calm1 S,yq,_,rfl,q1,h1,h2,.inr ⟨by rw [e],he2.symm⟩⟩
    ·rw [if_neg e] at he2
     exact ⟨f',Nat.le_refl _,calm1 S,yq,_,rfl,q1,h1,h2,.inl ⟨by omega,he2,by omega,by omega⟩⟩
   have hl2:=HLO.out
   have hpS:potS S+36160000000+750800<=4611686018427387904:=by omega
   have hneb:((b:Int) != ((zFz S:Nat):Int))=true:=by simpa using hne
   have HK0:=Hmq (HKN.out wr (Mod.refl _ _))
   have HHS:=Hmq hH
   have HK:=Hmq hK
   have HCS:=Hmq hC
   have HFF2:Hid (zLm (yIc n c g w y s (.int .i64 b)) wr=f'+1):=HFF.out.symm
   have HPS:=Hmq hpS
   clear hH hK hC he hfu hpo hne hl2 HFF hpS
   go_upto_region 2 with (first
    | (go_at_call 44;refine HK0.out.mono ?_;rintro e w1 ⟨rfl,hm1⟩)
    | fail)
   have HK1:=Hmq (HKN.out w1 hm1)
   clear HK0 HKN
   go_upto_region 3 with (first
    | (go_at_call 44;refine HK1.out.mono ?_;rintro e w2 ⟨rfl,hm2⟩)
    | fail)
   have HH2:=Hmq (HHS.out.quiet (hm1.trans hm2))
   have HK2:=Hmq (HK.out.trans (zAn.quiet (hm1.trans hm2)))
   clear hm1 hm2 HK1
   go_wp2_with fail
   go_loopw [9] (fun i0 wi=>∃ (i:Nat) (yi:HLay),i<=4/\i0=.int .i64 i/\zAd wi n c g yi (turnN i S)/\zAn w y wi yi) (fun i0 _=>4 - (intOf i0).toNat)
   case atStart=>exact ⟨0,yr,Nat.zero_le _,rfl,HH2.out,HK2.out⟩
   case round=>
    obtain ⟨i,yi,hil,rfl,hHi,hKi⟩:=hrel
    by_cases hilt:i<4
    ·obtain ⟨a,_,p⟩:=zUf HCS.out i
     obtain ⟨a2,_,p2,_⟩:=a.tick
     have hps:=HPS.out
     have hl1:=yEn (turnN i S)
     have HTI:=Hmq (yEa n c g yi (turnN i S) wr hHi a.safe (by omega))
     have HDR:Hid (∀ wq yq,zAd wq n c g yq (zFd (turnN i S))->Calls Tryz.prog 45 #[.pointer (some ⟨g,0,none⟩)] wq fun e w'=>e=.returned (.tuple #[])/\∃ y',zAd w' n c g y' (turnN (i+1) S)/\zAn wq yq w' y'):=fun wq yq hq=>yLj n c g yq _ wq hq a2 hc (by omega)
     have hiI:(i:Int)<4:=by omega
     have hi0:(0:Int)<=(i:Int):=by omega
     have HKi:=Hmq hKi
     clear hHi hKi a a2 p p2 hps hl1
     go_wp2_with fail
     refine HTI.out.mono ?_
     rintro e w4 ⟨rfl,y4,hH4,hK4⟩
     have HDR4:=Hmq (HDR.out w4 y4 hH4)
     have HK4:=Hmq (HKi.out.trans hK4)
     clear hH4 hK4 HTI HDR
     go_wp2_with fail
     refine HDR4.out.mono ?_
     rintro e w5 ⟨rfl,y5,hH5,hK5⟩
     have HF:Hid (zAd w5 n c g y5 (turnN (i+1) S)/\zAn w y w5 y5):=⟨hH5,HK4.out.trans hK5⟩
     clear hH5 hK5 HDR4
     go_wp2_with fail
     go_roundw
     case rel=>exact ⟨i+1,y5,by omega,by go_num,HF.out.1,HF.out.2⟩
     case measure=>simp [intOf];omega
    ·have hi4:decide ((i:Int)<4)=false:=decide_eq_false (by omega)
     have HN2:Hid (∃ f2,f2<=f'/\yIc n c g w y s (.int .i64 (zFz S)) wr f2):=by
      have e:i=4:=by omega
      rw [e] at hHi
      exact HNX.out wr yi hHi hKi
     clear hHi hKi
     go_wp2_with fail
     obtain ⟨f2,hf2,hI2⟩:=HN2.out
     go_roundw
     case rel=>exact ⟨f2,hI2⟩
     case measure=>
      have h1:=zSd hI2
      have h2:=HFF2.out
      omega
  ·have HF:Hid (∀ wq,Mod zAb wr wq->∃ y',zAd wq n c g y' (zIa s)/\zAn w y wq y'):=fun wq hq=>⟨yr,hH.quiet hq,hK.trans (zAn.quiet hq)⟩
   have HK0:=Hmq (HKN.out wr (Mod.refl _ _))
   clear hH hK hC HKN HFF
   generalize zFz (zIa s)=kn at HK0
   have hbb:((kn:Int) != (kn:Int))=false:=by simp
   go_wp2_with fail
   refine HK0.out.mono ?_
   rintro e w1 ⟨rfl,hm1⟩
   have HF1:=Hmq (HF.out w1 hm1)
   clear hm1 HK0 HF
   go_wp2_with fail
   go_end0
   exact ⟨rfl,HF1.out⟩
end Go.Proofs.YtmaiggbnceejiaaGreatDoor
