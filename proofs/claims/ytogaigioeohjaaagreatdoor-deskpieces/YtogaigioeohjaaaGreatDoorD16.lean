import Derived.Test.YtogaigioeohjaaaGreatDoorD15
import Derived.Test.YtogaigioeohjaaaGreatDoorD09
set_option linter.unusedVariables false
set_option maxRecDepth 100000
set_option maxHeartbeats 16000000
namespace Go.Proofs.YtogaigioeohjaaaGreatDoor
open Go.RowKit Go.Lib Go.Maps
theorem yMl(k:KeyS)(t:Int):(gotN k t).length<=k.waits.length:=by
 have:=(zXp (zCy k.waits t) (zCy k.held t) []).2.2
 have:=zLi k.waits t
 unfold gotN
 omega
theorem zVt(s:Tab)(t:Int)(M:Nat):∀ (ks:List ByteArray),(∀ k∈ks,(s k).waits.length<=M)->(zCq s t ks).length<=ks.length*M
 | [],_=>by simp [zCq]
 | k :: ks,h=>by
  have ih:=zVt s t M ks (fun x hx=>h x (List.mem_cons_of_mem _ hx))
  have h1:=yMl (s k) t
  have h2:=h k (by simp)
  have e:zCq s t (k :: ks)=(gotN (s k) t).map (grOf k)++zCq s t ks:=by simp [zCq]
  rw [e,List.length_append,List.length_map,List.length_cons,Nat.add_mul]
  omega
theorem RelI.next{w w1 wr w6 wq w7:World}{B N:Nat}{q q' q2:TbM}{s:Tab}{t:Int}{ks:List ByteArray}{i:Nat}{gv0 gq got:Value}{name:ByteArray}{v:Bool->Value}(h:RelI w w1 wr B N q q' s t ks i gv0)(hty:q.t≠285)(hname:ks[i]?=some name)(hns:zWq s (fun k=>atB k t) ks)(hqo:∀ x,q.own x->x<w1.heap.size)(hqb:q.b<w1.heap.size)
  (hR:ySd wr w6 B N q' (zLd s t (ks.take i)) name wr.heap.size v got (s name) t) (hmq:Mod (fun x=>gv0.ownBlock=some x) w6 wq) (hg:RowG wq w1.heap.size gq (zCq s t (ks.take i)++(gotN (s name) t).map (grOf name)))
  (hK:yEw wq w7 B N q' q2 (zLd s t (ks.take i)) name v (outN (s name) t)) (hTq:TbX wq B N q' (zLd s t (ks.take i)) (·=name)):RelI w w1 w7 B N q q2 s t ks (i+1) gq:=by
 have hin:=(hns.2 name).1 (List.mem_of_getElem? hname)
 have hz1:=h.md.size
 have hzr:=hR.md.size
 have hnot:name∉ks.take i:=fun hm=>by
  obtain ⟨j,hj⟩:=List.getElem?_of_mem hm
  rw [List.getElem?_take] at hj
  split at hj
  ·rename_i hlt
   obtain ⟨a1,a2⟩:=List.getElem?_eq_some_iff.1 hj
   obtain ⟨b1,b2⟩:=List.getElem?_eq_some_iff.1 hname
   have:=List.pairwise_iff_getElem.1 hns.1 j i a1 b1 hlt
   rw [a2,b2] at this
   exact zVi _ this
  ·cases hj
 have hsn:zLd s t (ks.take i) name=s name:=yFi hnot
 have hg0:∀ x,gv0.ownBlock=some x->w1.heap.size<=x:=fun x hx=>(zAq h.gr hx).1
 refine ⟨?_,hK.b.trans h.b,hK.pre.trans h.pre,hK.post.trans h.post,hK.t.trans h.ty,Nat.le_trans (hK.n0 (by rw [hsn];exact hin.2.1)) h.n,?_,?_,fun x hx=>?_⟩
 ·have e:=yHh (s:=s) (t:=t) hnot hin.2.2
  rw [<-zBt hname] at e
  rw [<-e]
  exact hK.tb
 ·rw [zBt hname,yBh]
  refine hg.mod hK.md (fun x hx e=>?_)
  rcases e with e | e
  ·exact yBj hg hTq.blk (by rw [h.ty];exact hty) hx e
  ·obtain ⟨c1,h1⟩:=zMl hg hx
   obtain ⟨_,D,⟨es,clock,hb,_⟩,_⟩:=hTq.map.get e
   rw [h1] at hb
   cases hb
 ·have hlt:∀ x,x<w1.heap.size->q'.own x->q.own x:=fun x hx hq=>by
   rcases h.own x hq with e | e
   ·exact e
   ·omega
  have a1:Mod (fun x=>x=q.b\/q.own x) w1 w6:=h.md.trans' hR.md (fun x hx e=>by
   rcases e with ⟨j,e⟩ | e
   ·exact .inr (hlt x hx (.inr ⟨name,j,hin.1,e⟩))
   ·omega)
  have a2:Mod (fun x=>x=q.b\/q.own x) w1 wq:=a1.trans' hmq (fun x hx e=>by have:=hg0 x e;omega)
  exact a2.trans' hK.md (fun x hx e=>by
   rcases e with e | e
   ·exact .inl (by rw [e,h.b])
   ·exact .inr (hlt x hx (.inl e)))
 ·rcases hK.own x hx with e | e | ⟨j,e⟩
  ·exact h.own x e
  ·have:=hmq.size;exact .inr (by omega)
  ·rcases hR.vo j x e with e2 | e2
   ·exact h.own x e2
   ·exact .inr (by omega)
theorem yDg(B N:Nat)(q:TbM)(s:Tab)(t:Int)(w:World)(h:TbP w B N q s)(hty:q.t≠285)(hN:N<=390)(hqn:q.n<=10000)(hB:B<=w.heap.size) :
  Calls Tryz.prog 189 #[.pointer (some ⟨q.b,q.pre.length,none⟩),.int .i64 t] w fun e w'=>∃ gv q' ks,e=.returned gv/\RelQ w w' B N q q' s t gv ks:=by
 obtain ⟨i0,hi,hz0,hz1,hz2⟩:=info_parts Tryz.infoGQ
 have HOF:=Hmq (of_any B N q s t w h (by omega) (by omega))
 have HT:=Hmq h
 have hqbw:=h.blk.lt
 clear h
 go_enter Tryz.func189,Tryz.ntmps189
 go_wp2_with fail
 refine HOF.out.mono ?_
 rintro e w1 ⟨nv,ks,rfl,hks,hns,hnv,hkl,hm1⟩
 obtain ⟨na,ncap,hnv0,hnc1,hnc2⟩:=SlR.slice hks
 subst hnv0
 unfold maxLen at hnc2
 have HKS:=Hmq hks
 have HNS:=Hmq hns
 have HM1:=Hmq hm1
 have hz01:=hm1.size
 have HNB:Hid (∀ x,(Value.slice na ks.length ncap).ownBlock=some x->¬ (x=q.b\/q.own x)):=fun x hx e=>by
  have h1:=hnv x hx
  rcases e with e | e
  ·omega
  ·have:=(HT.out.lt e).2;omega
 have HQO:Hid (∀ x,q.own x->x<w1.heap.size):=fun x hx=>Nat.lt_of_lt_of_le (HT.out.lt hx).2 hz01
 have HI0:Hid (RelI w w1 w1 B N q q s t ks 0 (.slice none 0 0)):=
  ⟨by rw [List.take_zero,yHi];exact HT.out.mod hm1 id (fun _ _=>id),rfl,rfl,rfl,rfl,Nat.le_refl _,by rw [List.take_zero];exact World.ownsRow_nil _ _ _ _,Mod.refl _ _,fun x hx=>.inl hx⟩
 have HGL:Hid (∀ i,i<=ks.length->(zCq s t (ks.take i)).length<=10000*390):=fun i hik=>by
  have:=zVt s t 390 (ks.take i) (fun k hk=>by
   have:=HT.out.few k ((HNS.out.2 k).1 (List.mem_of_mem_take hk)).1
   omega)
  have h2:(ks.take i).length<=10000:=by rw [List.length_take];omega
  exact Nat.le_trans this (Nat.mul_le_mul_right _ h2)
 have hqb1:q.b<w1.heap.size:=by omega
 clear hks hns hnv hm1 HOF
 go_wp2_with fail
 go_loopw [5,15] (fun g0 i0 wr=>∃ (i:Nat) (q':TbM),i<=ks.length/\i0=.int .i64 i/\RelI w w1 wr B N q q' s t ks i g0) (fun _ i0 _=>ks.length - (intOf i0).toNat)
 case atStart=>exact ⟨0,q,Nat.zero_le _,rfl,HI0.out⟩
 case round=>
  obtain ⟨i,q',hik,rfl,hI⟩:=hrel
  clear HI0
  obtain ⟨wo,hwo⟩:∃ x,x=wr:=⟨_,rfl⟩
  subst hwo
  by_cases hlt:i<ks.length
  ·obtain ⟨name,hname⟩:∃ k,ks[i]?=some k:=⟨_,List.getElem?_eq_getElem hlt⟩
   have hin:=(HNS.out.2 name).1 (List.mem_of_getElem? hname)
   have hok:=hin.1
   have hsn:zLd s t (ks.take i) name=s name:=by
    refine yFi (fun hm=>?_)
    obtain ⟨j,hj⟩:=List.getElem?_of_mem hm
    rw [List.getElem?_take] at hj
    split at hj
    ·rename_i hlt2
     obtain ⟨a1,a2⟩:=List.getElem?_eq_some_iff.1 hj
     obtain ⟨b1,b2⟩:=List.getElem?_eq_some_iff.1 hname
     have:=List.pairwise_iff_getElem.1 HNS.out.1 j i a1 b1 hlt2
     rw [a2,b2] at this
     exact zVi _ this
    ·cases hj
   obtain ⟨nb,noff,rfl,_,n0⟩:=(HKS.out.mod hI.md HNB.out).at hname
   have c0:=hI.tb.cell
   rw [hI.b,hI.pre] at c0
   have z0:=hI.tb.blk.lt
   rw [hI.b] at z0
   have hlook:=hI.tb.look hok
   obtain ⟨ha,hcap,hhv⟩:=zAg (hI.tb.rows name true hok id)
   obtain ⟨wa,wcap,hwv⟩:=zAg (hI.tb.rows name false hok id)
   obtain ⟨ga,gcap,hgv⟩:=zAg hI.gr
   subst hgv
   have hfew:=hI.tb.few name hok
   rw [hsn] at hhv hwv hfew
   have e1:(s name).list true=(s name).held:=rfl
   have e2:(s name).list false=(s name).waits:=rfl
   rw [e1] at hhv
   rw [e2] at hwv
   obtain ⟨w3,hw3⟩:∃ x,x=wo.alloc (.cells #[q'.hd name true,q'.hd name false] 212):=⟨_,rfl⟩
   have hm3:Mod zAb wo w3:=by rw [hw3];exact (Mod.refl _ wo).alloc _
   have hb3:Blk w3 wo.heap.size [q'.hd name true,q'.hd name false] 212:=by rw [hw3];exact Blk.new wo [q'.hd name true,q'.hd name false] 212
   have hky:KyP w3 B wo.heap.size (q'.hd name true) (q'.hd name false) (s name).held (s name).waits:=by
    have hr1:=(hI.tb.rows name true hok id).mod hm3 (fun _ _=>id)
    have hr2:=(hI.tb.rows name false hok id).mod hm3 (fun _ _=>id)
    rw [hsn] at hr1 hr2
    exact ⟨hb3,hr1,hr2,fun x h1 h2=>by have:=(hI.tb.apart name name true false x hok hok h1 h2).2;cases this⟩
   have HLV:=Hmq (yLv B wo.heap.size _ _ _ _ t w3 hky (by omega) (by omega))
   have hKO:=hI.tb.ok name hok
   rw [hsn] at hKO
   have HI:=Hmq hI
   have HNAME:=Hmq hname
   have HSN:=Hmq hsn
   have HM3:=Hmq hm3
   have HKO:=Hmq hKO
   have HBZ:Hid (wo.heap.size<w3.heap.size):=hb3.lt
   have hzr:=hI.md.size
   have hltI:(i:Int)<(ks.length:Int):=by omega
   have hlt0:(0:Int)<=(i:Int):=by omega
   rw [hhv,hwv] at hlook hw3
   have HHV:=Hmq hhv
   have HWV:=Hmq hwv
   clear hI hname hsn hm3 hb3 hky hhv hwv e1 e2 hKO hin
   go_upto_region 6 with fail
   rw [<-hw3]
   clear hw3 hlook c0 n0
   go_wp2_with fail
   refine HLV.out.mono ?_
   rintro e w4 ⟨rfl,hv4,wv4,hk4,ho1,ho2,hm4⟩
   have hle1:=zLi (s name).held t
   have hle2:=zLi (s name).waits t
   have HPA:=Hmq (yPn B wo.heap.size hv4 wv4 _ _ w4 hk4 (zEx HKO.out.held t) (by omega) (by omega) (by have:=hm4.size;have:=HM3.out.size;omega))
   have HK4:=Hmq hk4
   have HO1:=Hmq ho1
   have HO2:=Hmq ho2
   have HM4:=Hmq hm4
   clear hk4 ho1 ho2 hm4 HLV
   go_upto_region 7 with fail
   go_wp2_with (first
    | (go_at_call 240;refine HPA.out.mono ?_;rintro e w6 ⟨got,hv6,wv6,rfl,hP⟩;obtain ⟨gta,gtcap,hgt⟩:=zAg (show RowK w6 B got (gotN (s name) t) from hP.got);subst hgt)
    | go_in)
   have hR:=yPf HI.out.tb hok HM3.out HBZ.out (by rw [HSN.out];exact HK4.out) HO1.out HO2.out HM4.out (by rw [HSN.out];exact hP)
   rw [HSN.out] at hR
   obtain ⟨v,hv⟩:∃ v:Bool->Value,v=fun i=>if i then hv6 else wv6:=⟨_,rfl⟩
   rw [<-hv] at hR
   have hvt:v true=hv6:=by rw [hv];rfl
   have hvf:v false=wv6:=by rw [hv];rfl
   have HR:=Hmq hR
   have hgl:=yMl (s name) t
   have hGL:=HGL.out i hik
   have hgtab:=fun x hx=>yMk HI.out.gr HI.out.tb (by rw [HI.out.ty];exact hty) (x:=x) hx
   have HGT:=Hmq hgtab
   have HGB:Hid (∀ x,(Value.slice ga (zCq s t (ks.take i)).length gcap).ownBlock=some x->w1.heap.size<=x/\x<wo.heap.size):=fun x hx=>⟨(zAq HI.out.gr hx).1,(zAq HI.out.gr hx).2.1⟩
   have hg6:RowG w6 w1.heap.size (.slice ga (zCq s t (ks.take i)).length gcap) (zCq s t (ks.take i)):=HI.out.gr.mod hR.md (fun x hx e=>by
    rcases e with ⟨j,e⟩ | e
    ·exact (hgtab x hx).2 (.inr ⟨name,j,hok,e⟩)
    ·have:=(HGB.out x hx).2;omega)
   have HG6:=Hmq hg6
   have HVT:=Hmq hvt
   have HVF:=Hmq hvf
   have HNG:Hid (∀ x,(Value.slice ga (zCq s t (ks.take i)).length gcap).ownBlock=some x->(Value.slice gta (gotN (s name) t).length gtcap).ownBlock≠some x):=fun x hx=>yBi hg6 hR.got hx
   have hzr6:=hR.md.size
   have HLH:Hid (zGm hv6/\zGm wv6):=⟨zOb (by rw [<-hvt];exact hR.kept.row true),zOb (by rw [<-hvf];exact hR.kept.row false)⟩
   generalize hGN:(zCq s t (ks.take i)).length=gn at hGL HGB HG6 HNG HGT HI
   have HGN:=Hmq hGN
   clear hP hR hgtab hg6 hv hvt hvf HPA HK4 HO1 HO2 HM4 hGN
   go_loopw [5,29] (fun g1 j0 wq=>∃ j:Nat,j<=(gotN (s name) t).length/\j0=.int .i64 j/\RowG wq w1.heap.size g1 (zCq s t (ks.take i)++((gotN (s name) t).take j).map (grOf name))/\(g1.ownBlock=(Value.slice ga gn gcap).ownBlock\/∀ x,g1.ownBlock=some x->w6.heap.size<=x)/\Mod (fun x=>(Value.slice ga gn gcap).ownBlock=some x) w6 wq) (fun _ j0 _=>(gotN (s name) t).length - (intOf j0).toNat)
   case atStart=>exact ⟨0,Nat.zero_le _,rfl,by simpa using HG6.out,.inl rfl,Mod.refl _ _⟩
   case round=>
    obtain ⟨j,hjl,rfl,hrow,hloc,hmq⟩:=hrel
    have HLOC:=Hmq hloc
    clear hloc
    obtain ⟨g1a,g1cap,hg1⟩:=zAg hrow
    subst hg1
    have HROW:=Hmq hrow
    have HMQ:=Hmq hmq
    have hz6q:=hmq.size
    clear hrow hmq HG6
    by_cases hjlt:j<(gotN (s name) t).length
    ·obtain ⟨c,hc⟩:∃ c,(gotN (s name) t)[j]?=some c:=⟨_,List.getElem?_eq_getElem hjlt⟩
     obtain ⟨tb,toff,rfl,_,q0,q1⟩:=((HR.out.got.mod HMQ.out (fun x hx e=>HNG.out x e hx)).toV (Nat.le_refl _)).at hc
     obtain ⟨w8,hw8⟩:∃ x,x=wr.alloc (.cells #[.int .i64 c.tx,.int .i64 c.mode] 214):=⟨_,rfl⟩
     have hm8:Mod zAb wr w8:=by rw [hw8];exact (Mod.refl _ wr).alloc _
     have hb8:Blk w8 wr.heap.size (zAh c) 214:=by rw [hw8];exact Blk.new wr (zAh c) 214
     have y0:=hb8.cell 0 rfl
     have y1:=hb8.cell 1 rfl
     have hz8:=hb8.lt
     have HROW8:=Hmq (HROW.out.mod hm8 (fun _ _=>id))
     have hmt:=zXz (grOf name) hc
     have HMT:=Hmq hmt
     have hln:(zCq s t (ks.take i)++((gotN (s name) t).take j).map (grOf name)).length=gn+j:=by rw [List.length_append,HGN.out,List.length_map,List.length_take];omega
     rw [hln] at HROW8 ⊢
     have HROW9:Hid (w8.ownsRow w1.heap.size 285 3 (.slice g1a (gn+j) g1cap) (gn+j) (zHk (zCq s t (ks.take i)++((gotN (s name) t).take j).map (grOf name)))):=by
      have h9:=HROW8.out
      unfold RowG at h9
      rw [hln] at h9
      exact h9
     have HLN:=Hmq hln
     have hk63:gn+j+1<=maxLen:=by unfold maxLen;omega
     have hk47:(gn+j+1)*32<=140737488355328:=by omega
     have hbz:w1.heap.size<=w8.heap.size:=by have:=hm8.size;omega
     have HM8:=Hmq hm8
     have hjI:(j:Int)<((gotN (s name) t).length:Int):=by omega
     have hj0:(0:Int)<=(j:Int):=by omega
     clear hc hm8 hb8 hmt hln HROW8
     go_upto_region 10 with fail
     rw [<-hw8]
     clear hw8 q0 q1
     go_wp2_with (first
      | (at_builtin;refine wpList_append_own_at _ rfl (.tmp 33) (.tmp 40) 229 rfl w1.heap.size 285 i0 _ 3 32 Tryz.underlying229 hi hz0 hz1 hz2 rfl (by omega) _ _ _ rfl (HROW9.out.alloc _) ⟨w8.heap.size,0,none⟩ 1 1 (zSx (grOf name c)) rfl rfl (World.news_of_block (heap_alloc_new w8 _)) (yBg _) hk63 hk47 (by simp;omega) ?_)
      | fail)
     intro v9 w9 hown9 hgrow9 _ hat9
     have hm9:Mod (fun x=>(Value.slice g1a (gn+j) g1cap).ownBlock=some x) w8 w9:=((Mod.refl _ w8).alloc _).grown hgrow9 (fun x hx _=>hx)
     have hm69:Mod (fun x=>(Value.slice ga gn gcap).ownBlock=some x) w6 w9:=(HMQ.out.trans (HM8.out.mono (fun _ _ e=>e.elim))).trans' hm9 (fun x hx e=>by
      have e':(Value.slice g1a (zCq s t (ks.take i)++((gotN (s name) t).take j).map (grOf name)).length g1cap).ownBlock=some x:=by rw [HLN.out];exact e
      rcases HLOC.out with h9 | h9
      ·rw [<-h9];exact e'
      ·have:=h9 x e';omega)
     have hloc9:v9.ownBlock=(Value.slice ga gn gcap).ownBlock\/∀ x,v9.ownBlock=some x->w6.heap.size<=x:=by
      rcases hat9 with e | e
      ·rcases HLOC.out with h9 | h9
       ·left;rw [e,<-h9,HLN.out]
       ·right;intro x hx;exact h9 x (by rw [HLN.out,<-e];exact hx)
      ·right;intro x hx;rw [e] at hx;simp at hx;have:=HM8.out.size;omega
     obtain ⟨a9,cap9,hv9⟩:=zAg hown9
     subst hv9
     have HM69:=Hmq hm69
     have HL9:=Hmq hloc9
     have HW9:Hid (RowG w9 w1.heap.size (.slice a9 (gn+j+1) cap9) (zCq s t (ks.take i)++((gotN (s name) t).take (j+1)).map (grOf name))):=by
      rw [HMT.out,Hid]
      unfold RowG
      rw [<-List.append_assoc,zQj (zCq s t (ks.take i)++((gotN (s name) t).take j).map (grOf name)),List.length_append,HLN.out]
      have:zHk [grOf name c]=zSx (grOf name c):=by simp [zHk]
      rw [this,List.map_take]
      exact hown9
     clear hown9 hgrow9 hat9 hm9 hm69 hloc9
     go_wp2_with fail
     go_roundw
     case rel=>exact ⟨j+1,by omega,by go_num,HW9.out,HL9.out,HM69.out⟩
     case measure=>simp [intOf];omega
    ·obtain rfl:j=(gotN (s name) t).length:=by omega
     have hrow2:=HROW.out
     rw [List.take_length] at hrow2
     have hgx:∀ x,(Value.slice ga gn gcap).ownBlock=some x->x<wo.heap.size/\¬ q'.own x/\x≠q'.b:=fun x hx=>⟨(HGB.out x hx).2,(HGT.out x hx).2,(HGT.out x hx).1⟩
     have hvx:∀ (l:Bool) x,(v l).ownBlock=some x->¬ (Value.slice ga gn gcap).ownBlock=some x:=fun l x hx e=>by
      rcases HR.out.vo l x hx with e2 | e2
      ·exact (hgx x e).2.1 e2
      ·have:=(hgx x e).1;omega
     have hTq:TbX wr B N q' (zLd s t (ks.take i)) (·=name):=HR.out.tx.turn HMQ.out (fun e=>(hgx _ e).2.2 rfl) (fun x hx e=>(hgx x e).2.1 (.inl hx)) (fun k l x hk _ hx e=>(hgx x e).2.1 (.inr ⟨k,l,hk,hx⟩))
     have hKq:zUi wr B q' name v (outN (s name) t):=⟨fun l=>(HR.out.kept.row l).mod HMQ.out (fun x hx e=>hvx l x hx e),HR.out.kept.ne,HR.out.kept.out⟩
     have hbq:Blk wr wo.heap.size [v true,v false] 212:=HR.out.blk.mod HMQ.out (fun e=>by have:=(hgx _ e).1;omega)
     have hke:=zYe B N N q' (zLd s t (ks.take i)) name v (outN (s name) t) wr hTq hok hKq (out_ok HKO.out t) (Nat.le_trans (ySs (s name) t) hfew) (Nat.le_refl _) (by have:=HI.out.n;omega) (by omega)
     rw [HI.out.b,HI.out.pre,HVT.out,HVF.out] at hke
     have HKE:=Hmq hke
     have HTQ:=Hmq hTq
     have HRW:=Hmq hrow2
     have k0:=hbq.cell 0 rfl
     have k1:=hbq.cell 1 rfl
     rw [HVT.out] at k0
     rw [HVF.out] at k1
     have hzk:=hbq.lt
     have hHH:=HLH.out
     have HLN:Hid ((zCq s t (ks.take i)++((gotN (s name) t).take (gotN (s name) t).length).map (grOf name)).length=gn+(gotN (s name) t).length):=by rw [Hid,List.length_append,HGN.out,List.length_map,List.length_take];omega
     rw [HLN.out]
     have HLN2:Hid ((zCq s t (ks.take i)++(gotN (s name) t).map (grOf name)).length=gn+(gotN (s name) t).length):=by rw [Hid,List.length_append,HGN.out,List.length_map]
     obtain ⟨h6a,h6n,h6c,hh6⟩:∃ a n c,hv6=.slice a n c:=by rcases hHH.1 with e | ⟨a,n,c,e⟩ <;> exact ⟨_,_,_,e⟩
     obtain ⟨w6a,w6n,w6c,hw6⟩:∃ a n c,wv6=.slice a n c:=by rcases hHH.2 with e | ⟨a,n,c,e⟩ <;> exact ⟨_,_,_,e⟩
     rw [hh6] at k0 HKE
     rw [hw6] at k1 HKE
     clear hrow2 hgx hvx hTq hKq hbq hke hHH hh6 hw6
     go_upto_region 12 with fail
     go_wp2_with (first
      | (go_at_call 178;refine HKE.out.mono ?_;rintro e w7 ⟨rfl,q2,hQ⟩;have HFIN:=Hmq (RelI.next HI.out hty HNAME.out HNS.out HQO.out hqb1 HR.out HMQ.out HRW.out hQ HTQ.out);clear hQ)
      | go_in)
     go_roundw
     case rel=>exact ⟨i+1,q2,by omega,by go_num,by have h9:=HFIN.out;first | (rw [HLN2.out] at h9;exact h9) | (rw [HLN.out] at h9;exact h9)⟩
     case measure=>simp [intOf];omega
  ·obtain rfl:i=ks.length:=by omega
   obtain ⟨ga,gcap,hgv⟩:=zAg hI.gr
   subst hgv
   have HFIN:Hid (RelQ w wo B N q q' s t (.slice ga (zCq s t (ks.take ks.length)).length gcap) ks):=by
    have htb:=hI.tb
    have hgr:=hI.gr
    rw [List.take_length] at htb hgr ⊢
    exact ⟨HNS.out,htb.congr (fun k hk=>yLc HNS.out k hk),hI.b,hI.pre,hI.post,hI.ty,hI.n,zEk hgr hz01,(HM1.out.mono (fun _ _ e=>e.elim)).trans hI.md,fun x hx=>(hI.own x hx).imp id (fun e=>Nat.le_trans hz01 e)⟩
   clear hI
   go_wp2_with fail
   go_ret
   exact ⟨_,q',ks,rfl,HFIN.out⟩

inductive Tag where
 | no | main | net | tab | dead | lrow | trow
 | line (b:Nat) | node (b:Nat) | tx (b:Nat)
 deriving DecidableEq
structure HLay where
 lv:Value
 dr:Nat
 wv:Value
 mr:Option Nat
 tv:Value
 lbs:List Nat
 lnv:Nat->Value
 nbs:Nat->List Nat
 nnv:Nat->Value
 nlv:Nat->Value
 tbs:List Nat
 tav:Nat->Value
 twv:Nat->Value
 q:TbM
 own:Nat->Tag
def HLay.lo(y:HLay)(n:Nat):Lo:=⟨n,fun k=>∃ t∈y.tbs,(y.twv t).ownBlock=some k⟩
def HLay.ext(y:HLay):Ext:=⟨y.lv,.map (some y.dr),.map y.q.m,y.tv⟩
def ptrV(b:Nat):Value:=.pointer (some ⟨b,0,none⟩)
def zIh(y:HLay)(lost:Int):List Value:=[y.lv,.map (some y.dr),y.wv,.int .i64 lost,.map y.mr,.map y.q.m,y.tv]
def zQa(w:World)(n:Nat)(y:HLay)(b:Nat)(s:zAl):Prop:=zAx w (y.lo n) b (y.nnv b) (y.nlv b) s
structure zTs(w:World)(n:Nat)(y:HLay)(b:Nat)(l:zCs):Prop where
 blk:Blk w b [y.lnv b,.int .i64 l.heard] 122
 row:w.ownsRow n 100 1 (y.lnv b) (y.nbs b).length ((y.nbs b).map ptrV)
 len:(y.nbs b).length=l.nodes.length
 node:∀ (j c:Nat) s,(y.nbs b)[j]?=some c->l.nodes[j]?=some s->zQa w n y c s
structure TxP(w:World)(n:Nat)(y:HLay)(b:Nat)(t:TxS):Prop where
 blk:Blk w b [.int .i64 t.state,y.tav b,y.twv b,.int .i64 t.time] 97
 ats:w.ownsRow n 3 1 (y.tav b) t.ats.length (t.ats.map (Value.int .i64))
 wr:w.ownsRow n 65 3 (y.twv b) t.writes.length (t.writes.flatMap zBe)
structure NetB(w:World)(L:Lo)(wv:Value)(mr:Option Nat)(s:NetS):Prop where
 row:RowM w L wv s.way
 dn:zEz w L mr s.down
 few:s.way.length<=200
 lo:0<=s.lost/\s.lost<=4611686018427387904
structure TabB(w:World)(n N:Nat)(q:TbM)(s:Tab):Prop where
 map:MapQ w n q.m q.n q.hd s
 hdr:∀ k i,okQ k->zGm (q.hd k i)
 rows:∀ k i,okQ k->RowK w n (q.hd k i) ((s k).list i)
 apart:∀ k k' i i' x,okQ k->okQ k'->(q.hd k i).ownBlock=some x->(q.hd k' i').ownBlock=some x->k=k'/\i=i'
 ok:∀ k,okQ k->zHg (s k)
 few:∀ k,okQ k->(s k).held.length+(s k).waits.length<=N
structure OwnP(w:World)(n g:Nat)(y:HLay):Prop where
 main:y.own g=.main
 lrow:∀ k,y.lv.ownBlock=some k->y.own k=.lrow
 trow:∀ k,y.tv.ownBlock=some k->y.own k=.trow
 net:∀ k,y.wv.ownBlock=some k\/y.mr=some k->y.own k=.net
 dead:y.own y.dr=.dead
 tab:∀ k,y.q.own k->y.own k=.tab
 line:∀ b∈y.lbs,y.own b=.line b/\∀ k,(y.lnv b).ownBlock=some k->y.own k=.line b
 node:∀ b∈y.lbs,∀ c∈y.nbs b,∀ k,zAs c (y.nnv c) (y.nlv c) k->y.own k=.node c
 tx:∀ b∈y.tbs,y.own b=.tx b/\∀ k,(y.tav b).ownBlock=some k\/(y.twv b).ownBlock=some k->y.own k=.tx b
 lt:∀ k,y.own k≠.no->n<=k/\k<w.heap.size
 lnd:y.lbs.Nodup
 tnd:y.tbs.Nodup
 nnd:(y.lbs.flatMap y.nbs).Nodup
structure zAe(w:World)(n c g:Nat)(y:HLay)(s:zAa):Prop where
 blk:Blk w g (zIh y s.net.lost) 90
 net:NetB w (y.lo n) y.wv y.mr s.net
 dead:zEz w n (some y.dr) s.dead
 tab:TabB w n 120 y.q s.keys
 qn:y.q.b=g/\y.q.t=90/\y.q.n<=c
 lrow:w.ownsRow n 120 1 y.lv y.lbs.length (y.lbs.map ptrV)
 llen:y.lbs.length=s.lines.length
 line:∀ (k b:Nat) l,y.lbs[k]?=some b->s.lines[k]?=some l->zTs w n y b l
 trow:w.ownsRow n 93 1 y.tv y.tbs.length (y.tbs.map ptrV)
 tlen:y.tbs.length=s.txs.length
 tx:∀ (i b:Nat) t,y.tbs[i]?=some b->s.txs[i]?=some t->TxP w n y b t
 own:OwnP w n g y
theorem ySz{w:World}{n g:Nat}{y:HLay}(h:OwnP w n g y):∀ k,(y.lo n).x k->k<w.heap.size:=fun k ⟨t,ht,hk⟩=>(h.lt k (by rw [(h.tx t ht).2 k (.inr hk)];simp)).2
theorem zTs.mod{G:Nat->Prop}{w w':World}{n:Nat}{y:HLay}{b:Nat}{l:zCs}(h:zTs w n y b l)(hm:Mod G w w')(hq:Qm w (y.lo n) G)(hb:¬ G b)(hr:∀ k,(y.lnv b).ownBlock=some k->¬ G k)(hn:∀ c∈y.nbs b,∀ k,zAs c (y.nnv c) (y.nlv c) k->¬ G k):zTs w' n y b l:=
 ⟨h.blk.mod hm hb,zAn h.row hm (fun k _ _ e=>hr k e),h.len,fun j c s hc hs=>(h.node j c s hc hs).mod hm hq (fun k hk=>hn c (List.mem_of_getElem? hc) k hk)⟩
theorem TxP.mod{G:Nat->Prop}{w w':World}{n:Nat}{y:HLay}{b:Nat}{t:TxS}(h:TxP w n y b t)(hm:Mod G w w')(hb:¬ G b)(hr:∀ k,(y.tav b).ownBlock=some k\/(y.twv b).ownBlock=some k->¬ G k):TxP w' n y b t:=
 ⟨h.blk.mod hm hb,zAn h.ats hm (fun k _ _ e=>hr k (.inl e)),zAn h.wr hm (fun k _ _ e=>hr k (.inr e))⟩
theorem NetB.mod{G:Nat->Prop}{w w':World}{L:Lo}{wv:Value}{mr:Option Nat}{s:NetS}(h:NetB w L wv mr s)(hm:Mod G w w')(hq:Qm w L G)(hG:∀ k,wv.ownBlock=some k\/mr=some k->¬ G k):NetB w' L wv mr s:=
 ⟨h.row.mod hm hq (fun k hk=>hG k (.inl hk)),h.dn.mod hm (fun k hk=>hG k (.inr hk)),h.few,h.lo⟩
theorem TabB.toP{w:World}{n N:Nat}{q:TbM}{s:Tab}(h:TabB w n N q s)(hb:Blk w q.b (q.pre++.map q.m :: q.post) q.t)(ht:q.t≠214):TbP w n N q s:=
 ⟨hb,ht,h.map,h.hdr,fun k i hk _=>h.rows k i hk,h.apart,h.ok,h.few⟩
theorem TabB.mod{G:Nat->Prop}{w w':World}{n N:Nat}{q:TbM}{s:Tab}(h:TabB w n N q s)(hm:Mod G w w')(hG:∀ x,q.own x->¬ G x):TabB w' n N q s:=by
 refine ⟨?_,h.hdr,fun k i hk=>zAn (h.rows k i hk) hm (fun x _ _ e=>hG x (.inr ⟨k,i,hk,e⟩)),h.apart,h.ok,h.few⟩
 have hmm:=h.map
 unfold MapQ at hmm ⊢
 cases hq:q.m with
 | none=>rw [hq] at hmm;exact hmm
 | some x=>
  rw [hq] at hmm
  obtain ⟨h1,D,⟨es,clock,h2,h3⟩,h4⟩:=hmm
  refine ⟨h1,D,⟨es,clock,?_,h3⟩,h4⟩
  exact (hm.block x (Array.getElem?_eq_some_iff.1 h2).1 (hG x (.inl hq))).trans h2
theorem zAe.quiet{w w':World}{n c g:Nat}{y:HLay}{s:zAa}(h:zAe w n c g y s)(hm:Mod zAb w w'):zAe w' n c g y s:=
 ⟨h.blk.mod hm id,h.net.mod hm (Qm.none _ _) (fun _ _=>id),h.dead.mod hm (fun _ _=>id),h.tab.mod hm (fun _ _=>id),h.qn,zAn h.lrow hm (fun _ _ _ _=>id),h.llen,fun k b l hb hl=>(h.line k b l hb hl).mod hm (Qm.none _ _) id (fun _ _=>id) (fun _ _ _ _=>id),
  zAn h.trow hm (fun _ _ _ _=>id),h.tlen,fun i b t hb ht=>(h.tx i b t hb ht).mod hm id (fun _ _=>id),{ h.own with lt:=fun k hk=>⟨(h.own.lt k hk).1,Nat.lt_of_lt_of_le (h.own.lt k hk).2 hm.size⟩ }⟩
structure zFi(w:World)(y:HLay)(w':World)(y':HLay):Prop where
 md:Mod (fun k=>y.own k≠.no) w w'
 old:∀ k,k<w.heap.size->y'.own k=y.own k
theorem zFi.refl(w:World)(y:HLay):zFi w y w y:=⟨Mod.refl _ _,fun _ _=>rfl⟩
theorem zFi.quiet{w w':World}{y:HLay}(hm:Mod zAb w w'):zFi w y w' y:=⟨hm.mono (fun _ _ e=>e.elim),fun _ _=>rfl⟩
theorem zFi.trans{w w1 w2:World}{y y1 y2:HLay}(h:zFi w y w1 y1)(k:zFi w1 y1 w2 y2):zFi w y w2 y2:=
 ⟨h.md.trans' k.md (fun i hi e=>by rw [<-h.old i hi];exact e),fun i hi=>by rw [k.old i (Nat.lt_of_lt_of_le hi h.md.size),h.old i hi]⟩
theorem zFi.size{w w':World}{y y':HLay}(h:zFi w y w' y'):w.heap.size<=w'.heap.size:=h.md.size
theorem zFi.blk{w w':World}{y y':HLay}(h:zFi w y w' y'){b:Nat}{cs:List Value}{t:TypeId}(hb:Blk w b cs t)(hn:y.own b=.no):Blk w' b cs t:=hb.mod h.md (fun e=>e hn)
end Go.Proofs.YtogaigioeohjaaaGreatDoor
