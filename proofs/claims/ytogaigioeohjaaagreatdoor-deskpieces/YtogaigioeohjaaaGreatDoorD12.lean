import Derived.Test.YtogaigioeohjaaaGreatDoorD11
import Derived.Maps.StringElems
import Derived.Maps.RangeWalk
set_option linter.unusedVariables false
set_option maxRecDepth 100000
set_option maxHeartbeats 16000000
namespace Go.Proofs.YtogaigioeohjaaaGreatDoor
open Go.RowKit Go.Lib Go.Maps
structure KyP(w:World)(B kb:Nat)(hv wv:Value)(held waits:List ClmD):Prop where
 blk:Blk w kb [hv,wv] 212
 h:RowK w B hv held
 w:RowK w B wv waits
 ne:∀ x,hv.ownBlock=some x->wv.ownBlock≠some x
theorem zHd{w:World}{B kb:Nat}{v:Value}{cs:List Value}{l:List ClmD}(hb:Blk w kb cs 212)(hr:RowK w B v l):v.ownBlock≠some kb:=fun e=>by
 obtain ⟨_,_,cur,hc⟩:=zAq hr e
 unfold Blk at hb
 rw [hc] at hb
 simp at hb
theorem yLv(B kb:Nat)(hv wv:Value)(held waits:List ClmD)(t:Int)(w:World)(hk:KyP w B kb hv wv held waits)(h1:held.length<=1000)(h2:waits.length<=1000) :
  Calls Tryz.prog 239 #[.pointer (some ⟨kb,0,none⟩),.int .i64 t] w fun e w'=>e=.returned (.tuple #[])/\∃ hv' wv',KyP w' B kb hv' wv' (zCy held t) (zCy waits t)/\hv'.ownBlock=hv.ownBlock/\wv'.ownBlock=wv.ownBlock/\Mod (fun x=>x=kb\/hv.ownBlock=some x\/wv.ownBlock=some x) w w':=by
 have hmf:∀ fn first cap w,(Instr.makeFunc fn first cap).run Tryz.prog w=.ok (.func fn first cap) w:=fun _ _ _ _=>rfl
 obtain ⟨w1,hw1⟩:∃ q,q=w.alloc (.cells #[.int .i64 t] 3):=⟨_,rfl⟩
 have hm1:Mod zAb w w1:=by rw [hw1];exact (Mod.refl _ w).alloc _
 have hb1:Blk w1 w.heap.size [.int .i64 t] 3:=by rw [hw1];exact Blk.new w [.int .i64 t] 3
 have hkb1:=hk.blk.mod hm1 id
 have hh1:=hk.h.mod hm1 (fun _ _=>id)
 have hwv1:=hk.w.mod hm1 (fun _ _=>id)
 have hqv:hv.ownBlock≠some w.heap.size:=fun e=>by have:=(zAq hk.h e).2.1;omega
 have hqw:wv.ownBlock≠some w.heap.size:=fun e=>by have:=(zAq hk.w e).2.1;omega
 have hkv:hv.ownBlock≠some kb:=zHd hk.blk hk.h
 have hkw:wv.ownBlock≠some kb:=zHd hk.blk hk.w
 have hkq:kb≠w.heap.size:=by have:=hk.blk.lt;omega
 have HD1:=Hmq (zNj 263 w.heap.size B (fun c=>decide (c.tx=t)) hv held w1 hh1 (yCe hb1) hb1.lt hqv h1)
 have HD2:Hid (∀ w2:World,Mod (fun x=>hv.ownBlock=some x\/x=kb) w1 w2->Calls Tryz.prog 233 #[wv,.func (.func 263) #[] #[.pointer (some ⟨w.heap.size,0,none⟩)]] w2 fun e w'=>∃ v',e=.returned v'/\RowK w' B v' (zCy waits t)/\v'.ownBlock=wv.ownBlock/\Mod (fun x=>wv.ownBlock=some x) w2 w'):=fun w2 hm2=>by
  have hb2:=hb1.mod hm2 (fun e=>e.elim hqv (fun e=>hkq e.symm))
  exact zNj 263 w.heap.size B (fun c=>decide (c.tx=t)) wv waits w2 (hwv1.mod hm2 (fun x hx e=>e.elim (fun e=>hk.ne x e hx) (fun e=>hkw (by rw [<-e];exact hx)))) (yCe hb2) hb2.lt hqw h2
 have HKY:=Hmq hk
 have HKB:=Hmq hkb1
 have HM1:=Hmq hm1
 obtain ⟨ha,hcap,rfl⟩:=zAg hk.h
 obtain ⟨wa,wcap,rfl⟩:=zAg hk.w
 have c0:=hkb1.cell 0 rfl
 have hkl:=hkb1.lt
 have hfz:=hkb1.frozen 0
 clear hm1 hb1 hkb1 hh1 hwv1 hk
 go_enter Tryz.func239,Tryz.ntmps239
 go_upto_region 1 with fail
 rw [<-hw1]
 clear hw1
 go_wp2_with fail
 refine HD1.out.mono ?_
 rintro e w2 ⟨u,rfl,hru,hou,hm2⟩
 have hb2:=HKB.out.mod hm2 hkv
 have hb3:=hb2.set 0 u
 obtain ⟨w3,hw3⟩:∃ q,q=w2.setCell ⟨kb,0,none⟩ u:=⟨_,rfl⟩
 rw [<-hw3] at hb3
 have hm3:Mod (zAd kb) w2 w3:=by rw [hw3];exact Mod.setBlk kb 0 u
 have hm13:Mod (fun x=>(Value.slice ha held.length hcap).ownBlock=some x\/x=kb) w1 w3:=(hm2.mono (fun _ _ e=>.inl e)).trans (hm3.mono (fun _ _ e=>.inr e))
 have HD:=Hmq (HD2.out w3 hm13)
 have HB3:Hid (Blk w3 kb [u,.slice wa waits.length wcap] 212):=hb3
 have HRU:Hid (RowK w3 B u (zCy held t)):=hru.mod hm3 (fun x hx e=>by simp only [zAd] at e;rw [e,hou] at hx;exact hkv hx)
 have HOU:=Hmq hou
 have HM13:=Hmq hm13
 have hf2:=hb2.frozen 0
 have d0:=hb2.cell 0 rfl
 have hkl2:=hb2.lt
 obtain ⟨ua,ucap,hu⟩:=zAg hru
 subst hu
 clear hm2 hb2 hb3 hru hou HD1 HD2 c0 hm3 hm13 hfz
 go_upto_region 3 with fail
 rw [<-hw3]
 clear hw3 d0 hf2 hkl2
 have c1:=HB3.out.cell 1 rfl
 have hkl3:=HB3.out.lt
 go_wp2_with fail
 refine HD.out.mono ?_
 rintro e w4 ⟨v4,rfl,hr4,ho4,hm4⟩
 have hb4:=HB3.out.mod hm4 hkw
 have hf4:=hb4.frozen 1
 have d1:=hb4.cell 1 rfl
 have hkl4:=hb4.lt
 have hb5:=hb4.set 1 v4
 have hm5:Mod (zAd kb) w4 (w4.setCell ⟨kb,1,none⟩ v4):=Mod.setBlk kb 1 v4
 have HFIN:Hid (∃ hv' wv',KyP (w4.setCell ⟨kb,1,none⟩ v4) B kb hv' wv' (zCy held t) (zCy waits t)/\hv'.ownBlock=(Value.slice ha held.length hcap).ownBlock/\wv'.ownBlock=(Value.slice wa waits.length wcap).ownBlock/\Mod (fun x=>x=kb\/(Value.slice ha held.length hcap).ownBlock=some x\/(Value.slice wa waits.length wcap).ownBlock=some x) w (w4.setCell ⟨kb,1,none⟩ v4)):=by
  refine ⟨_,v4,⟨hb5,?_,?_,?_⟩,HOU.out,ho4,?_⟩
  ·refine (HRU.out.mod hm4 (fun x hx e=>?_)).mod hm5 (fun x hx e=>?_)
   ·rw [HOU.out] at hx;exact HKY.out.ne x hx e
   ·simp only [zAd] at e;rw [e,HOU.out] at hx;exact hkv hx
  ·exact hr4.mod hm5 (fun x hx e=>by simp only [zAd] at e;rw [e,ho4] at hx;exact hkw hx)
  ·intro x hx
   rw [HOU.out] at hx
   rw [ho4]
   exact HKY.out.ne x hx
  ·refine ((HM1.out.mono (fun _ _ e=>e.elim)).trans (HM13.out.mono (fun x _ e=>e.elim (fun e=>.inr (.inl e)) .inl))).trans ((hm4.mono (fun x _ e=>.inr (.inr e))).trans (hm5.mono (fun x _ e=>.inl e)))
 obtain ⟨va,vcap,hv4⟩:=zAg hr4
 subst hv4
 clear hr4 ho4 hm4 hb4 hb5 hm5 HD
 go_wp2_with fail
 first
  | go_end0
  | refine bodyPost_normal (results_none rfl _ _ _) ?_
 exact ⟨rfl,HFIN.out⟩
theorem zOv:∀ (l:List ClmD) (n:Nat) (c:ClmD),n<l.length->zAf (l.set n c)=((zAf l).set (n*2) (.int .i64 c.tx)).set (n*2+1) (.int .i64 c.mode)
 | [],n,c,h=>by simp at h
 | x :: l,0,c,h=>by simp [zAf,zAh]
 | x :: l,n+1,c,h=>by
  have ih:=zOv l n c (by simpa using h)
  rw [List.set_cons_succ,zAf,zAf,ih,show (n+1)*2=(zAh x).length+n*2 by simp [zAh];omega]
  rw [List.set_append_right _ _ (by omega),List.set_append_right _ _ (by omega)]
  congr 2
  ·congr 1
   omega
  ·omega
theorem RowK.set{w:World}{B g cap:Nat}{l:List ClmD}(h:RowK w B (.slice (some ⟨g,0,none⟩) l.length cap) l){n:Nat}(hn:n<l.length)(c:ClmD) :
  RowK ((w.setCell ⟨g,n*2,none⟩ (.int .i64 c.tx)).setCell ⟨g,n*2+1,none⟩ (.int .i64 c.mode)) B (.slice (some ⟨g,0,none⟩) l.length cap) (l.set n c):=by
 rcases h.2 with ⟨e,_⟩ | ⟨g',cap',cur,e,q1,q2,q3,q4,q5,q6⟩
 ·cases e
 ·cases e
  have hb:Blk w g cur.toList 214:=by simpa [Blk] using q2
  have hb2:=(hb.set (n*2) (.int .i64 c.tx)).set (n*2+1) (.int .i64 c.mode)
  refine ⟨by rw [zBm,List.length_set],.inr ⟨g,cap,_,by rw [List.length_set],q1,hb2,by rw [List.length_set];exact q3,q4,by simpa using q5,?_⟩⟩
  show List.take _ ((cur.toList.set _ _).set _ _)=_
  rw [List.length_set,zOv l n c hn,<-q6,List.take_set,List.take_set]
def yRz(w:World)(B:Nat)(v:Value)(l:List ClmD)(c:ClmD)(e:Ending)(w':World):Prop:=
 ∃ u,e=.returned u/\RowK w' B u (zDg l c)/\Mod (fun b=>v.ownBlock=some b) w w'/\(u.ownBlock=v.ownBlock\/∀ b,u.ownBlock=some b->w.heap.size<=b)
theorem yEz(B:Nat)(v:Value)(l:List ClmD)(c:ClmD)(w:World)(hR:RowK w B v l)(hr:zFj l)(hl:l.length<=900)(hB:B<=w.heap.size) :
  Calls Tryz.prog 177 #[v,.agg #[.int .i64 c.tx,.int .i64 c.mode]] w (yRz w B v l c):=by
 obtain ⟨w1,hw1⟩:∃ q,q=w.alloc (.cells #[.int .i64 c.tx,.int .i64 c.mode] 214):=⟨_,rfl⟩
 have hm1:Mod zAb w w1:=by rw [hw1];exact (Mod.refl _ w).alloc _
 have hb1:Blk w1 w.heap.size (zAh c) 214:=by rw [hw1];exact Blk.new w (zAh c) 214
 have hR1:=hR.mod hm1 (fun _ _=>id)
 have HP:=Hmq (zZz w1.heap.size v l c.tx w1 (hR1.toV (Nat.le_refl _)) hr (by omega))
 have hle:=zXo l c.tx
 have HWN:Hid (zDg l c=if fndN l c.tx then l.set (plcN l c.tx) c else l.take (plcN l c.tx)++c :: l.drop (plcN l c.tx)):=rfl
 have HM1:=Hmq hm1
 have HB1:=Hmq hb1
 have HR1:=Hmq hR1
 have HNV:Hid (v.ownBlock≠some w.heap.size):=fun e=>by have:=(zAq hR e).2.1;omega
 have HPL:Hid (fndN l c.tx=true->plcN l c.tx<l.length):=fun h=>by obtain ⟨d,h1,_⟩:=yBl h;exact (List.getElem?_eq_some_iff.1 h1).1
 generalize plcN l c.tx=n at HP hle HWN HPL
 have p0:=hb1.cell 0 rfl
 have p1:=hb1.cell 1 rfl
 have hz1:=hb1.lt
 cases hf:fndN l c.tx with
 | true=>
  have hn:=HPL.out hf
  rw [hf] at HP HWN
  simp only [if_true] at HWN
  rcases hR.2 with ⟨_,h0⟩ | ⟨g,cap,cur,rfl,q1,q2,q3,q4,q5,q6⟩
  ·omega
  have hg:g<w.heap.size:=(Array.getElem?_eq_some_iff.1 q2).1
  have hcz:cur.size=cap*2:=q5
  have hbl:Blk w g cur.toList 214:=by simpa [Blk] using q2
  have hnI:(n:Int)<(l.length:Int):=by omega
  have hn0:(0:Int)<=(n:Int):=by omega
  have HBL:=Hmq hbl
  have hgn:g≠w.heap.size:=by omega
  clear hR hR1 hm1 hb1 q2 q6 hf hr q5 hbl HPL
  go_enter Tryz.func177,Tryz.ntmps177
  go_upto_region 1 with fail
  rw [<-hw1]
  clear hw1
  go_wp2_with fail
  refine HP.out.mono ?_
  rintro e w2 ⟨rfl,hm2⟩
  have hbl2:Blk w2 g cur.toList 214:=(HBL.out.mod HM1.out id).mod hm2 id
  have r0:=hm2.cell p0 id
  have r1:=hm2.cell p1 id
  have hz2:=Nat.lt_of_lt_of_le hz1 hm2.size
  obtain ⟨y0,hy0⟩:∃ y,w2.cell? ⟨g,n*2,none⟩=some y:=⟨_,hbl2.cell (n*2) (List.getElem?_eq_getElem (by simp;omega))⟩
  obtain ⟨y1,hy1⟩:∃ y,w2.cell? ⟨g,n*2+1,none⟩=some y:=⟨_,hbl2.cell (n*2+1) (List.getElem?_eq_getElem (by simp;omega))⟩
  have f0:=hbl2.frozen (n*2)
  have f1:=hbl2.frozen (n*2+1)
  have hg2:=hbl2.lt
  have HFIN:Hid (yRz w B (.slice (some ⟨g,0,none⟩) l.length cap) l c (.returned (.slice (some ⟨g,0,none⟩) l.length cap)) ((w2.setCell ⟨g,n*2,none⟩ (.int .i64 c.tx)).setCell ⟨g,n*2+1,none⟩ (.int .i64 c.mode))):=by
   refine ⟨_,rfl,?_,?_,.inl rfl⟩
   ·rw [HWN.out];exact (HR1.out.mod hm2 (fun _ _=>id)).set hn c
   ·refine ((HM1.out.trans hm2).mono (fun _ _ e=>e.elim)).trans (((Mod.setBlk g (n*2) _).trans (Mod.setBlk g (n*2+1) _)).mono (fun x _ e=>?_))
    simp only [zAd] at e
    rw [e];rfl
  clear hbl2 hm2 p0 p1 HP
  go_wp2_with fail
  go_ret
  exact HFIN.out
 | false=>
  rw [hf] at HP HWN
  simp only [Bool.false_eq_true,if_false] at HWN
  have HI:Hid (∀ w2,Mod zAb w1 w2->Calls Tryz.prog 231 #[v,.int .i64 n,.slice (some ⟨w2.heap.size,0,none⟩) 1 1] (w2.alloc (.cells #[.int .i64 c.tx,.int .i64 c.mode] 214)) (yRz w B v l c)):=fun w2 hm2=>by
   have hm3:Mod zAb w2 (w2.alloc (.cells #[.int .i64 c.tx,.int .i64 c.mode] 214)):=(Mod.refl _ w2).alloc _
   have hb3:Blk (w2.alloc (.cells #[.int .i64 c.tx,.int .i64 c.mode] 214)) w2.heap.size (zAh c) 214:=Blk.new w2 (zAh c) 214
   have hw3:=(HM1.out.trans hm2).trans hm3
   refine (yDv B v l n c w2.heap.size _ (hR.mod hw3 (fun _ _=>id)) hle hb3 (fun e=>by have:=(zAq hR e).2.1;have:=(HM1.out.trans hm2).size;omega) (by omega) (Nat.le_trans hB hw3.size)).mono ?_
   rintro e w4 ⟨u,rfl,hrow,hm4,hat⟩
   refine ⟨u,rfl,?_,(hw3.mono (fun _ _ e=>e.elim)).trans hm4,hat.imp id (fun h b hb=>Nat.le_trans hw3.size (h b hb))⟩
   unfold RowK
   rw [HWN.out]
   have:(l.take n++c :: l.drop n).length=l.length+1:=by simp;omega
   rw [this]
   exact hrow
  have HRR:=Hmq hR
  obtain ⟨va,vcap,rfl⟩:=zAg hR
  clear hR hR1 hm1 hb1 hf hr HPL
  go_enter Tryz.func177,Tryz.ntmps177
  go_upto_region 1 with fail
  rw [<-hw1]
  clear hw1
  go_wp2_with fail
  refine HP.out.mono ?_
  rintro e w2 ⟨rfl,hm2⟩
  have r0:=hm2.cell p0 id
  have r1:=hm2.cell p1 id
  have hz2:=Nat.lt_of_lt_of_le hz1 hm2.size
  have HI2:=Hmq (HI.out w2 hm2)
  clear p0 p1 HI hm2
  go_wp2_with fail
  refine HI2.out.mono ?_
  rintro e w3 ⟨u,rfl,hW⟩
  have HW:=Hmq hW
  obtain ⟨ua,ucap,rfl⟩:=zAg hW.1
  clear hW
  go_wp2_with fail
  go_ret
  exact ⟨_,rfl,HW.out⟩
def zLg(x:List ClmD × List ClmD × List ClmD)(c:ClmD):List ClmD × List ClmD × List ClmD:=if zIq x.1 x.2.1 c then (zDg x.1 c,x.2.1,x.2.2++[c]) else (x.1,x.2.1++[c],x.2.2)
theorem zSc:∀ (q held kept got:List ClmD),q.foldl zLg (held,kept,got)=((zDh held kept q).1,(zDh held kept q).2.1,got++(zDh held kept q).2.2)
 | [],held,kept,got=>by simp [zDh]
 | c :: q,held,kept,got=>by
  rw [List.foldl_cons]
  by_cases h:zIq held kept c=true
  ·rw [show zLg (held,kept,got) c=(zDg held c,kept,got++[c]) by simp [zLg,h],zSc q]
   simp [zDh,h]
  ·rw [show zLg (held,kept,got) c=(held,kept++[c],got) by simp [zLg,h],zSc q]
   simp [zDh,h]
theorem RowK.snoc{w w':World}{B n:Nat}{u:Value}{l:List ClmD}{c:ClmD}(hn:n=l.length)(h:w'.ownsRow B 214 2 u (n+1) (zAf l++zAh c)):RowK w' B u (l++[c]):=by
 subst hn
 unfold RowK
 rw [zGu,zFs,List.length_append]
 exact h
theorem zQk(c:ClmD):∀ u∈zAh c,u.oneCell'=true:=by
 intro u hu
 simp [zAh] at hu
 rcases hu with rfl | rfl <;> rfl
structure zTq(w wr:World)(B kb:Nat)(hv:Value)(held waits:List ClmD)(k:Nat)(gv hv' wv':Value)(H K G:List ClmD):Prop where
 fold:(waits.take k).foldl zLg (held,[],[])=(H,K,G)
 ky:KyP wr B kb hv' wv' H K
 got:RowK wr B gv G
 eld:zFj H
 ga:∀ x,gv.ownBlock=some x->hv'.ownBlock≠some x/\wv'.ownBlock≠some x
 ha:hv'.ownBlock=hv.ownBlock\/∀ x,hv'.ownBlock=some x->w.heap.size<=x
 wa:∀ x,wv'.ownBlock=some x->w.heap.size<=x
 gn:∀ x,gv.ownBlock=some x->w.heap.size<=x
 hl:H.length<=held.length+k
 kl:K.length<=k
 gl:G.length<=k
 md:Mod (fun x=>x=kb\/hv.ownBlock=some x) w wr
theorem yBk{waits:List ClmD}{k:Nat}{c:ClmD}{x y:List ClmD × List ClmD × List ClmD}{s:List ClmD × List ClmD × List ClmD}(hc:waits[k]?=some c)(h:(waits.take k).foldl zLg s=x)(hy:zLg x c=y):(waits.take (k+1)).foldl zLg s=y:=by
 rw [zBt hc,List.foldl_append,h]
 exact hy
theorem zTq.wait{w wr w3 w6:World}{B kb:Nat}{hv:Value}{held waits:List ClmD}{k:Nat}{gv hv' wv' u:Value}{H K G:List ClmD}{c:ClmD}(h:zTq w wr B kb hv held waits k gv hv' wv' H K G)(hc:waits[k]?=some c)(hf:zIq H K c=false)(hm3:Mod zAb wr w3)(hw:w.heap.size<=wr.heap.size)
  (hu:RowK w6 B u (K++[c])) (hm6:Mod (fun x=>wv'.ownBlock=some x) w3 w6) (hat:u.ownBlock=wv'.ownBlock\/∀ x,u.ownBlock=some x->w3.heap.size<=x) :
  zTq w (w6.setCell ⟨kb,1,none⟩ u) B kb hv held waits (k+1) gv hv' u H (K++[c]) G:=by
 have hm7:Mod (zAd kb) w6 (w6.setCell ⟨kb,1,none⟩ u):=Mod.setBlk kb 1 u
 have z3:=hm3.size
 have hkw:=zHd h.ky.blk h.ky.w
 have hkh:=zHd h.ky.blk h.ky.h
 have hkg:=zHd h.ky.blk h.got
 have hb3:=h.ky.blk.mod hm3 id
 have hb6:=hb3.mod hm6 hkw
 have hub:∀ x,u.ownBlock=some x->wv'.ownBlock=some x\/w3.heap.size<=x:=fun x hx=>by
  rcases hat with e | e
  ·exact .inl (by rw [<-e];exact hx)
  ·exact .inr (e x hx)
 have hlt:∀ {v:Value} {l:List ClmD},RowK wr B v l->∀ x,v.ownBlock=some x->x<w3.heap.size:=fun hr x hx=>Nat.lt_of_lt_of_le (zAq hr hx).2.1 z3
 have hh:RowK (w6.setCell ⟨kb,1,none⟩ u) B hv' H:=((h.ky.h.mod hm3 (fun _ _=>id)).mod hm6 (fun x hx e=>h.ky.ne x hx e)).mod hm7 (fun x hx e=>by simp only [zAd] at e;rw [e] at hx;exact hkh hx)
 have hg:RowK (w6.setCell ⟨kb,1,none⟩ u) B gv G:=((h.got.mod hm3 (fun _ _=>id)).mod hm6 (fun x hx e=>(h.ga x hx).2 e)).mod hm7 (fun x hx e=>by simp only [zAd] at e;rw [e] at hx;exact hkg hx)
 refine ⟨yBk hc h.fold (by unfold zLg;simp [hf]),⟨hb6.set 1 u,hh,hu.mod hm7 (fun x hx e=>?_),fun x hx e=>?_⟩,hg,h.eld,fun x hx=>⟨(h.ga x hx).1,fun e=>?_⟩,h.ha,fun x hx=>?_,h.gn,by have:=h.hl;omega,by have:=h.kl;simp;omega,by have:=h.gl;omega,?_⟩
 ·simp only [zAd] at e
  rw [e] at hx
  rcases hub kb hx with q | q
  ·exact hkw q
  ·have:=hb3.lt;omega
 ·rcases hub x e with q | q
  ·exact h.ky.ne x hx q
  ·have:=hlt h.ky.h x hx;omega
 ·rcases hub x e with q | q
  ·exact (h.ga x hx).2 q
  ·have:=hlt h.got x hx;omega
 ·rcases hub x hx with q | q
  ·exact h.wa x q
  ·omega
 ·refine (h.md.trans (hm3.mono (fun _ _ e=>e.elim))).trans' ((hm6.mono (G':=fun x=>wv'.ownBlock=some x\/x=kb) (fun _ _ e=>.inl e)).trans (hm7.mono (fun _ _ e=>.inr e))) (fun x hx e=>?_)
  rcases e with e | e
  ·have:=h.wa x e;omega
  ·exact .inl e
theorem zTq.gets{w wr w3 w6 w8 w9:World}{B kb:Nat}{hv:Value}{held waits:List ClmD}{k:Nat}{gv hv' wv' u g':Value}{H K G:List ClmD}{c:ClmD}(h:zTq w wr B kb hv held waits k gv hv' wv' H K G)(hc:waits[k]?=some c)(hf:zIq H K c=true)(hm3:Mod zAb wr w3)(hw:w.heap.size<=wr.heap.size)
  (hu:RowK w6 B u (zDg H c)) (hm6:Mod (fun x=>hv'.ownBlock=some x) w3 w6) (hat:u.ownBlock=hv'.ownBlock\/∀ x,u.ownBlock=some x->w3.heap.size<=x)
  (hm8:Mod zAb (w6.setCell ⟨kb,0,none⟩ u) w8) (hg':RowK w9 B g' (G++[c])) (hm9:Mod (fun x=>gv.ownBlock=some x) w8 w9) (hat9:g'.ownBlock=gv.ownBlock\/∀ x,g'.ownBlock=some x->w8.heap.size<=x) :
  zTq w w9 B kb hv held waits (k+1) g' u wv' (zDg H c) K (G++[c]):=by
 have hm7:Mod (zAd kb) w6 (w6.setCell ⟨kb,0,none⟩ u):=Mod.setBlk kb 0 u
 have z3:=hm3.size
 have z6:=hm6.size
 have z7:=hm7.size
 have z8:=hm8.size
 have hkw:=zHd h.ky.blk h.ky.w
 have hkh:=zHd h.ky.blk h.ky.h
 have hkg:=zHd h.ky.blk h.got
 have hb3:=h.ky.blk.mod hm3 id
 have hb6:=hb3.mod hm6 hkh
 have hub:∀ x,u.ownBlock=some x->hv'.ownBlock=some x\/w3.heap.size<=x:=fun x hx=>by
  rcases hat with e | e
  ·exact .inl (by rw [<-e];exact hx)
  ·exact .inr (e x hx)
 have hgb:∀ x,g'.ownBlock=some x->gv.ownBlock=some x\/w8.heap.size<=x:=fun x hx=>by
  rcases hat9 with e | e
  ·exact .inl (by rw [<-e];exact hx)
  ·exact .inr (e x hx)
 have hlt:∀ {v:Value} {l:List ClmD},RowK wr B v l->∀ x,v.ownBlock=some x->x<w3.heap.size:=fun hr x hx=>Nat.lt_of_lt_of_le (zAq hr hx).2.1 z3
 have hukb:u.ownBlock≠some kb:=fun e=>by
  rcases hub kb e with q | q
  ·exact hkh q
  ·have:=hb3.lt;omega
 have hug:∀ x,u.ownBlock=some x->gv.ownBlock≠some x:=fun x hx e=>by
  rcases hub x hx with q | q
  ·exact (h.ga x e).1 q
  ·have:=hlt h.got x e;omega
 have hu9:RowK w9 B u (zDg H c):=((hu.mod hm7 (fun x hx e=>by simp only [zAd] at e;rw [e] at hx;exact hukb hx)).mod hm8 (fun _ _=>id)).mod hm9 (fun x hx e=>hug x hx e)
 have hw9:RowK w9 B wv' K:=((((h.ky.w.mod hm3 (fun _ _=>id)).mod hm6 (fun x hx e=>h.ky.ne x e hx)).mod hm7 (fun x hx e=>by simp only [zAd] at e;rw [e] at hx;exact hkw hx)).mod hm8 (fun _ _=>id)).mod hm9 (fun x hx e=>(h.ga x e).2 hx)
 have hb9:Blk w9 kb [u,wv'] 212:=((hb6.set 0 u).mod hm8 id).mod hm9 hkg
 refine ⟨yBk hc h.fold (by unfold zLg;simp [hf]),⟨hb9,hu9,hw9,fun x hx e=>?_⟩,hg',zHf h.eld c,fun x hx=>⟨fun e=>?_,fun e=>?_⟩,?_,h.wa,fun x hx=>?_,by have:=h.hl;have:=zOj H c;omega,by have:=h.kl;omega,by have:=h.gl;simp;omega,?_⟩
 ·rcases hub x hx with q | q
  ·exact h.ky.ne x q e
  ·have:=hlt h.ky.w x e;omega
 ·rcases hgb x hx with q | q
  ·exact hug x e q
  ·have h1:=(zAq hu e).2.1;omega
 ·rcases hgb x hx with q | q
  ·exact (h.ga x q).2 e
  ·have:=hlt h.ky.w x e;omega
 ·rcases hat with e | e
  ·rcases h.ha with q | q
   ·exact .inl (e.trans q)
   ·exact .inr (fun x hx=>q x (by rw [<-e];exact hx))
  ·exact .inr (fun x hx=>by have:=e x hx;omega)
 ·rcases hgb x hx with q | q
  ·exact h.gn x q
  ·omega
 ·have a1:Mod (fun x=>hv'.ownBlock=some x\/x=kb\/gv.ownBlock=some x) w3 w9:=((hm6.mono (fun _ _ e=>.inl e)).trans (hm7.mono (fun _ _ e=>.inr (.inl e)))).trans ((hm8.mono (fun _ _ e=>e.elim)).trans (hm9.mono (fun _ _ e=>.inr (.inr e))))
  refine (h.md.trans (hm3.mono (fun _ _ e=>e.elim))).trans' a1 (fun x hx e=>?_)
  rcases e with e | e | e
  ·rcases h.ha with q | q
   ·exact .inr (by rw [<-q];exact e)
   ·have:=q x e;omega
  ·exact .inl e
  ·have:=h.gn x e;omega
def PassP(w:World)(B kb:Nat)(hv:Value)(held waits:List ClmD)(e:Ending)(w':World):Prop:=
 ∃ gv hv' wv',e=.returned gv/\zTq w w' B kb hv held waits waits.length gv hv' wv' (zDh held [] waits).1 (zDh held [] waits).2.1 (zDh held [] waits).2.2
theorem yPn(B kb:Nat)(hv wv:Value)(held waits:List ClmD)(w:World)(hk:KyP w B kb hv wv held waits)(heh:zFj held)(h1:held.length<=400)(h2:waits.length<=400)(hB:B<=w.heap.size) :
  Calls Tryz.prog 240 #[.pointer (some ⟨kb,0,none⟩)] w (PassP w B kb hv held waits):=by
 obtain ⟨i0,hi,hz0,hz1,hz2⟩:=info_parts Tryz.info214
 obtain ⟨wa,wcap,hwv⟩:=zAg hk.w
 subst hwv
 have hkh:=zHd hk.blk hk.h
 have hkw:=zHd hk.blk hk.w
 have c1:=hk.blk.cell 1 rfl
 have f1:=hk.blk.frozen 1
 have hkl:=hk.blk.lt
 obtain ⟨w1,hw1⟩:∃ q,q=w.setCell ⟨kb,1,none⟩ (.slice none 0 0):=⟨_,rfl⟩
 have hm1:Mod (zAd kb) w w1:=by rw [hw1];exact Mod.setBlk kb 1 _
 have HQV:Hid (RowK w1 B (.slice wa waits.length wcap) waits):=hk.w.mod hm1 (fun x hx e=>by simp only [zAd] at e;rw [e] at hx;exact hkw hx)
 have HI0:Hid (zTq w w1 B kb hv held waits 0 (.slice none 0 0) hv (.slice none 0 0) held [] []):=by
  refine ⟨rfl,⟨?_,hk.h.mod hm1 (fun x hx e=>by simp only [zAd] at e;rw [e] at hx;exact hkh hx),World.ownsRow_nil _ _ _ _,fun x _=>by simp [Value.ownBlock]⟩,World.ownsRow_nil _ _ _ _,heh,fun x hx=>by simp [Value.ownBlock] at hx,.inl rfl,fun x hx=>by simp [Value.ownBlock] at hx,fun x hx=>by simp [Value.ownBlock] at hx,by omega,by simp,by simp,hm1.mono (fun _ _ e=>.inl e)⟩
  have:=hk.blk.set 1 (.slice none 0 0)
  rw [<-hw1] at this
  exact this
 have HQB:Hid (∀ x,(Value.slice wa waits.length wcap).ownBlock=some x->x<w.heap.size/\x≠kb/\hv.ownBlock≠some x):=fun x hx=>⟨(zAq hk.w hx).2.1,fun e=>hkw (by rw [<-e];exact hx),fun e=>hk.ne x e hx⟩
 have hz01:=hm1.size
 have HKW:Hid (RowK w B (.slice wa waits.length wcap) waits):=hk.w
 clear hk hm1
 go_enter Tryz.func240,Tryz.ntmps240
 go_upto_region 4 with fail
 rw [<-hw1]
 clear hw1 c1 f1
 go_wp2_with fail
 go_loopw [3,16] (fun g0 i wr=>∃ (k:Nat) (hv' wv':Value) (H K G:List ClmD),k<=waits.length/\i=.int .i64 k/\zTq w wr B kb hv held waits k g0 hv' wv' H K G) (fun _ i _=>waits.length - (intOf i).toNat)
 case atStart=>exact ⟨0,_,_,_,_,_,Nat.zero_le _,rfl,HI0.out⟩
 case round=>
  obtain ⟨k,hv',wv',H,K,G,hkw',rfl,hI⟩:=hrel
  clear HI0
  have hHl:=hI.hl
  have hKl:=hI.kl
  have hGl:=hI.gl
  have hzr:=hI.md.size
  by_cases hlt:k<waits.length
  ·obtain ⟨c,hc⟩:∃ c,waits[k]?=some c:=⟨_,List.getElem?_eq_getElem hlt⟩
   have hqr:RowK wr B (.slice wa waits.length wcap) waits:=HKW.out.mod hI.md (fun x hx e=>e.elim (HQB.out x hx).2.1 (HQB.out x hx).2.2)
   obtain ⟨qb,qoff,rfl,_,q0,q1⟩:=(hqr.toV (Nat.le_refl _)).at hc
   obtain ⟨w3,hw3⟩:∃ q,q=wr.alloc (.cells #[.int .i64 c.tx,.int .i64 c.mode] 214):=⟨_,rfl⟩
   have hm3:Mod zAb wr w3:=by rw [hw3];exact (Mod.refl _ wr).alloc _
   have hb3:Blk w3 wr.heap.size (zAh c) 214:=by rw [hw3];exact Blk.new wr (zAh c) 214
   obtain ⟨ha,hcap,hhv⟩:=zAg hI.ky.h
   obtain ⟨ka,kcap,hwv⟩:=zAg hI.ky.w
   obtain ⟨ga,gcap,hgv⟩:=zAg hI.got
   subst hhv
   subst hwv
   subst hgv
   have HFR:=Hmq (yFx w3.heap.size kb _ _ H K c w3 (hI.ky.blk.mod hm3 id) ((hI.ky.h.mod hm3 (fun _ _=>id)).toV (Nat.le_refl _)) ((hI.ky.w.mod hm3 (fun _ _=>id)).toV (Nat.le_refl _)) (by omega) (by omega))
   have HI:=Hmq hI
   have HC:=Hmq hc
   have HM3:=Hmq hm3
   have HB3:=Hmq hb3
   have x0:=hb3.cell 0 rfl
   have x1:=hb3.cell 1 rfl
   have hzc:=hb3.lt
   have hltI:(k:Int)<(waits.length:Int):=by omega
   have hlt0:(0:Int)<=(k:Int):=by omega
   clear hqr hI hc hm3 hb3
   go_upto_region 7 with fail
   rw [<-hw3]
   clear hw3 q0 q1
   go_wp2_with fail
   refine HFR.out.mono ?_
   rintro e w4 ⟨rfl,hm4⟩
   have hb4:=HB3.out.mod hm4 id
   have y0:=hb4.cell 0 rfl
   have y1:=hb4.cell 1 rfl
   have hzc4:=hb4.lt
   have hm34:Mod zAb wr w4:=HM3.out.trans hm4
   have hkb4:=HI.out.ky.blk.mod hm34 id
   have k0:=hkb4.cell 0 rfl
   have k1:=hkb4.cell 1 rfl
   have kf0:=hkb4.frozen 0
   have kf1:=hkb4.frozen 1
   have hkz:=hkb4.lt
   have HM34:=Hmq hm34
   have hz34:=hm34.size
   have HKW4:Hid ((Value.slice ka K.length kcap).ownBlock≠some kb):=zHd HI.out.ky.blk HI.out.ky.w
   have HKH4:Hid ((Value.slice ha H.length hcap).ownBlock≠some kb):=zHd HI.out.ky.blk HI.out.ky.h
   have HKG4:Hid ((Value.slice ga G.length gcap).ownBlock≠some kb):=zHd HI.out.ky.blk HI.out.got
   clear hm4 hb4 hkb4 hm34 x0 x1 HFR
   cases hfr:zIq H K c with
   | false=>
    have HROW:Hid (RowK w4 B (.slice ka K.length kcap) K):=HI.out.ky.w.mod HM34.out (fun _ _=>id)
    have hk63:K.length+1<=maxLen:=by unfold maxLen;omega
    have hk47:(K.length+1)*16<=140737488355328:=by omega
    have hBz:B<=w4.heap.size:=by omega
    go_upto_region 8 with fail
    go_region_law
     ((first
      | (refine step_append_lies _ (by rfl) _ _ _ (by rfl) B 214 i0 _ 2 16 Tryz.underlying210 hi hz0 hz1 hz2 rfl (by omega) _ _ _ (by rfl) ((World.ownsRow.drew HROW.out).alloc _) ⟨w4.heap.size,0,none⟩ 1 1 (zAh c) (by rfl) (by rfl) (World.news_of_block (heap_alloc_new w4.drew _)) (zQk c) (by omega) hk63 hk47 (by simp;omega) _ rfl ?_;intro g6 cap6 w6 hown6 hgrow hat hlt6;have hm46:Mod (fun k=>(Value.slice ka K.length kcap).ownBlock=some k) w4 w6:=(((Mod.refl _ w4).drew).alloc _).grown hgrow (fun x hx _=>hx);have d6:=hm46.cell k1 HKW4.out;have f6:=(hm46.frozen (p:=⟨kb,1,none⟩) hkz HKW4.out).trans kf1)
      | fail))
    all_goals
     have hloc:(Value.slice (some ⟨g6,0,none⟩) (K.length+1) cap6).ownBlock=(Value.slice ka K.length kcap).ownBlock\/∀ x,(Value.slice (some ⟨g6,0,none⟩) (K.length+1) cap6).ownBlock=some x->w4.heap.size<=x:=by
      rcases hat with e | e
      ·exact .inl (by rw [e];rfl)
      ·exact .inr (fun x hx=>by simp [Value.ownBlock] at hx;simp at e;omega)
     have HFIN:=Hmq (HI.out.wait HC.out hfr HM34.out hzr (RowK.snoc (w:=w4) rfl hown6) hm46 hloc)
     clear hown6 hgrow hat hloc hm46
     go_wp2_with fail
     go_roundw
     case rel=>exact ⟨k+1,_,_,_,_,_,by omega,by go_num,HFIN.out⟩
     case measure=>simp [intOf];omega
   | true=>
    have HWI:=Hmq (yEz B (.slice ha H.length hcap) H c w4.drew ((HI.out.ky.h.mod HM34.out (fun _ _=>id)).mod ((Mod.refl zAb w4).drew) (fun _ _=>id)) HI.out.eld (by omega) (by show B<=w4.heap.size;omega))
    go_upto_region 9 with fail
    go_cut [] (fun wc=>∃ w6 u,RowK w6 B u (zDg H c)/\Mod (fun x=>(Value.slice ha H.length hcap).ownBlock=some x) w4 w6/\(u.ownBlock=(Value.slice ha H.length hcap).ownBlock\/∀ x,u.ownBlock=some x->w4.heap.size<=x)/\wc=w6.setCell ⟨kb,0,none⟩ u)
    case first=>
     go_region_with (first
      | (go_at_call 177;refine HWI.out.mono ?_;rintro e w6 ⟨u6,rfl,hu6,hm6,hat6⟩;have hm46:Mod (fun x=>(Value.slice ha H.length hcap).ownBlock=some x) w4 w6:=((Mod.refl _ w4).drew).trans hm6;have d6:=hm46.cell k0 HKH4.out;have f6:=(hm46.frozen (p:=⟨kb,0,none⟩) hkz HKH4.out).trans kf0;obtain ⟨ua6,uc6,rfl⟩:=zAg hu6)
      | fail)
     all_goals
      have HU6:=Hmq hu6
      have HA6:=Hmq hat6
      have HM6:=Hmq hm46
      clear hu6 hat6 hm46 hm6
      go_wp2_with fail
      go_meet
      case rel=>exact ⟨w6,_,HU6.out,HM6.out,HA6.out,rfl⟩
    case rest=>
     obtain ⟨w6,u,hu6,hm46,hat6,hwc⟩:=hcut
     have hm67:Mod (zAd kb) w6 wc:=by rw [hwc];exact Mod.setBlk kb 0 u
     have hgc:RowK wc B (.slice ga G.length gcap) G:=((HI.out.got.mod HM34.out (fun _ _=>id)).mod hm46 (fun x hx e=>(HI.out.ga x hx).1 e)).mod hm67 (fun x hx e=>by simp only [zAd] at e;rw [e] at hx;exact HKG4.out hx)
     have HROW:=Hmq hgc
     have z46:=hm46.size
     have z67:=hm67.size
     have hcn:¬ (Value.slice ha H.length hcap).ownBlock=some wr.heap.size:=fun e=>by have:=(zAq HI.out.ky.h e).2.1;omega
     have hkr:wr.heap.size≠kb:=by have:=HI.out.ky.blk.lt;omega
     have t0:=(hm67.cell (hm46.cell y0 hcn) hkr)
     have t1:=(hm67.cell (hm46.cell y1 hcn) hkr)
     have hzt:wr.heap.size<wc.heap.size:=by omega
     have hk63:G.length+1<=maxLen:=by unfold maxLen;omega
     have hk47:(G.length+1)*16<=140737488355328:=by omega
     have hBz:B<=wc.heap.size:=by omega
     have HU6:=Hmq hu6
     have HA6:=Hmq hat6
     have HM6:=Hmq hm46
     have HWC:=Hmq hwc
     clear hu6 hm46 hat6 hwc hgc k0 k1 kf0 kf1 y0 y1 HWI hm67
     go_wp2_with (first
      | (at_builtin;refine wpList_append_own_at _ rfl (.tmp 43) (.tmp 45) 210 rfl B 214 i0 _ 2 16 Tryz.underlying210 hi hz0 hz1 hz2 rfl (by decide) _ _ _ rfl (HROW.out.alloc _) ⟨wc.heap.size,0,none⟩ 1 1 (zAh c) rfl rfl (World.news_of_block (heap_alloc_new wc _)) (zQk c) hk63 hk47 (by simp;omega) ?_)
      | fail)
     intro v9 w9 hown9 hgrow9 _ hat9
     have hm8:Mod zAb wc (wc.alloc (.cells #[.int .i64 c.tx,.int .i64 c.mode] 214)):=(Mod.refl _ wc).alloc _
     have hm9:Mod (fun x=>(Value.slice ga G.length gcap).ownBlock=some x) (wc.alloc (.cells #[.int .i64 c.tx,.int .i64 c.mode] 214)) w9:=(Mod.refl _ _).grown hgrow9 (fun x hx _=>hx)
     have HFIN:Hid (zTq w w9 B kb hv held waits (k+1) v9 u (.slice ka K.length kcap) (zDg H c) K (G++[c])):=HI.out.gets HC.out hfr HM34.out hzr HU6.out HM6.out HA6.out (by rw [<-HWC.out];exact hm8) (RowK.snoc (w:=wc) rfl hown9) hm9 (hat9.imp (fun e=>e) (fun e x hx=>by rw [e] at hx;simp at hx;simp;omega))
     obtain ⟨a9,cap9,hv9⟩:=zAg hown9
     subst hv9
     clear hown9 hgrow9 hat9 hm8 hm9
     go_wp2_with fail
     go_roundw
     case rel=>exact ⟨k+1,_,_,_,_,_,by omega,by go_num,HFIN.out⟩
     case measure=>simp [intOf];omega
  ·obtain rfl:k=waits.length:=by omega
   have hfo:=hI.fold
   rw [List.take_length,zSc] at hfo
   simp only [List.nil_append,Prod.mk.injEq] at hfo
   obtain ⟨e1,e2,e3⟩:=hfo
   rw [<-e1,<-e2,<-e3] at hI
   obtain ⟨ga,gcap,hgv⟩:=zAg hI.got
   subst hgv
   have HI:=Hmq hI
   clear hI e1 e2 e3
   go_wp2_with fail
   go_ret
   exact ⟨_,_,_,rfl,HI.out⟩
def okQ(k:ByteArray):Prop:=k.size<=maxLen
def hdrQ:Value->Option (DataW Unit)
 | .slice none n c=>if n=0/\c=0 then some .nil else none
 | .slice (some a) n c=>if a.off=0/\a.spot=none then some (.agg [.lit (.int .i64 a.block),.lit (.int .i64 n),.lit (.int .i64 c)]) else none
 | _=>none
def encQ(v:Value):DataW Unit:=(hdrQ v).getD .nil
def zGm(v:Value):Prop:=v=.slice none 0 0\/∃ g n c,v=.slice (some ⟨g,0,none⟩) n c
theorem yEb{v:Value}(h:zGm v):hdrQ v=some (encQ v):=by
 rcases h with rfl | ⟨g,n,c,rfl⟩ <;> simp [hdrQ,encQ]
theorem yFv{v:Value}{y:DataW Unit}(h:hdrQ v=some y):zGm v/\y=encQ v:=by
 have hh:zGm v:=by
  unfold hdrQ at h
  split at h
  ·rename_i n c
   split at h
   ·rename_i e;obtain ⟨rfl,rfl⟩:=e;exact .inl rfl
   ·cases h
  ·rename_i a n c
   split at h
   ·rename_i e
    obtain ⟨b,o,s⟩:=a
    simp at e
    obtain ⟨rfl,rfl⟩:=e
    exact .inr ⟨b,n,c,rfl⟩
   ·cases h
  ·cases h
 refine ⟨hh,?_⟩
 rw [yEb hh] at h
 cases h
 rfl
theorem yFz{v u:Value}(hv:zGm v)(hu:zGm u)(h:encQ v=encQ u):v=u:=by
 rcases hv with rfl | ⟨g,n,c,rfl⟩ <;> rcases hu with rfl | ⟨g',n',c',rfl⟩
 ·rfl
 ·simp [encQ,hdrQ] at h
 ·simp [encQ,hdrQ] at h
 ·simp [encQ,hdrQ] at h
  obtain ⟨h1,h2,h3⟩:=h
  have:g=g':=by omega
  have:n=n':=by omega
  have:c=c':=by omega
  subst_vars
  rfl
theorem zOb{w:World}{B:Nat}{e:TypeId}{sz:Nat}{v:Value}{n:Nat}{xs:List Value}(h:w.ownsRow B e sz v n xs):zGm v:=by
 rcases h.2 with ⟨rfl,_⟩ | ⟨g,cap,cur,rfl,_⟩
 ·exact .inl rfl
 ·exact .inr ⟨g,n,cap,rfl⟩
def zKj:Value->Option (DataW Unit × List MemPlace)
 | .agg xs=>match xs.toList with
  | [h,v]=>match hdrQ h,hdrQ v with
   | some a,some b=>some (.agg [a,b],[])
   | _,_=>none
  | _=>none
 | _=>none
def encK(h v:Value):DataW Unit:=.agg [encQ h,encQ v]
def zWt:DataW Unit:=.agg [.nil,.nil]
theorem yGb{h v:Value}(hh:zGm h)(hv:zGm v):zKj (.agg #[h,v])=some (encK h v,[]):=by
 simp [zKj,yEb hh,yEb hv,encK]
theorem yBq{x:Value}{y:DataW Unit × List MemPlace}(h:zKj x=some y):∃ a b,x=.agg #[a,b]/\zGm a/\zGm b/\y.1=encK a b:=by
 unfold zKj at h
 split at h
 ·rename_i xs
  split at h
  ·rename_i a b e
   split at h
   ·rename_i p q ha hb
    obtain ⟨h1,rfl⟩:=yFv ha
    obtain ⟨h2,rfl⟩:=yFv hb
    cases h
    refine ⟨a,b,?_,h1,h2,rfl⟩
    have:xs=#[a,b]:=by apply Array.ext';simpa using e
    rw [this]
   ·cases h
  ·cases h
 ·cases h
theorem yGa{h v h' v':Value}(a:zGm h)(b:zGm v)(a':zGm h')(b':zGm v')(e:encK h v=encK h' v'):h=h'/\v=v':=by
 simp [encK] at e
 exact ⟨yFz a a' e.1,yFz b b' e.2⟩
theorem zMm{a b:ByteArray}(h:a.data.toList=b.data.toList):a=b:=by
 cases a;cases b;simp at h;simp;exact h
def keyQ(k:ByteArray):Lit:=.string k.data.toList
theorem zYd{a b:ByteArray}(h:keyQ a=keyQ b):a=b:=zMm (by simpa [keyQ] using h)
theorem zRa(k:ByteArray):WideAt.IsKeyLit (keyQ k):=by simp [WideAt.IsKeyLit,keyQ]
structure TbM where
 b:Nat
 pre:List Value
 post:List Value
 t:TypeId
 m:Option Nat
 n:Nat
 hd:ByteArray->Bool->Value
def TbM.own(q:TbM)(x:Nat):Prop:=q.m=some x\/∃ k i,okQ k/\(q.hd k i).ownBlock=some x
def KeyS.list(k:KeyS)(i:Bool):List ClmD:=if i then k.held else k.waits
def MapQ(w:World)(B:Nat)(m:Option Nat)(n:Nat)(hd:ByteArray->Bool->Value)(s:Tab):Prop:=match m with
 | none=>∀ k,okQ k->(∀ i,hd k i=.slice none 0 0)/\(s k).bare
 | some g=>B<=g/\∃ D,w.ownsMap Tryz.prog 9 zKj g n D/\∀ k,okQ k->D.atKey (keyQ k) zWt=encK (hd k true) (hd k false)/\(Maps.has D (keyQ k)=true↔¬ (s k).bare)
structure TbX(w:World)(B N:Nat)(q:TbM)(s:Tab)(no:ByteArray->Prop):Prop where
 blk:Blk w q.b (q.pre++.map q.m :: q.post) q.t
 bt:q.t≠214
 map:MapQ w B q.m q.n q.hd s
 hdr:∀ k i,okQ k->zGm (q.hd k i)
 rows:∀ k i,okQ k->¬ no k->RowK w B (q.hd k i) ((s k).list i)
 apart:∀ k k' i i' x,okQ k->okQ k'->(q.hd k i).ownBlock=some x->(q.hd k' i').ownBlock=some x->k=k'/\i=i'
 ok:∀ k,okQ k->zHg (s k)
 few:∀ k,okQ k->(s k).held.length+(s k).waits.length<=N
def noKey(_:ByteArray):Prop:=False
abbrev TbP(w:World)(B N:Nat)(q:TbM)(s:Tab):Prop:=TbX w B N q s noKey
theorem MapQ.mod{G:Nat->Prop}{w w':World}{B:Nat}{m:Option Nat}{n:Nat}{hd:ByteArray->Bool->Value}{s:Tab}(h:MapQ w B m n hd s)(hm:Mod G w w')(hG:∀ x,m=some x->¬ G x):MapQ w' B m n hd s:=by
 cases m with
 | none=>exact h
 | some g=>
  obtain ⟨h0,D,h1,h2⟩:=h
  have hlt:=h1.lt
  obtain ⟨es,clock,hb,r⟩:=h1
  exact ⟨h0,D,⟨es,clock,(hm.block g hlt (hG g rfl)).trans hb,r⟩,h2⟩
theorem TbX.mod{G:Nat->Prop}{w w':World}{B N:Nat}{q:TbM}{s:Tab}{no:ByteArray->Prop}(h:TbX w B N q s no)(hm:Mod G w w')(hb:¬ G q.b)(hG:∀ x,q.own x->¬ G x):TbX w' B N q s no:=
 ⟨h.blk.mod hm hb,h.bt,h.map.mod hm (fun x hx=>hG x (.inl hx)),h.hdr,fun k i hk hn=>(h.rows k i hk hn).mod hm (fun x hx=>hG x (.inr ⟨k,i,hk,hx⟩)),h.apart,h.ok,h.few⟩
theorem TbX.old{w:World}{B N:Nat}{q:TbM}{s:Tab}{no:ByteArray->Prop}(h:TbX w B N q s no){k:ByteArray}{i:Bool}{x:Nat}(hk:okQ k)(hno:¬ no k)(hx:(q.hd k i).ownBlock=some x):B<=x/\x<w.heap.size/\∃ cur,w.heap[x]?=some (.cells cur 214 (0,0)):=zAq (h.rows k i hk hno) hx
theorem TbX.lt{w:World}{B N:Nat}{q:TbM}{s:Tab}(h:TbP w B N q s){x:Nat}(hx:q.own x):B<=x/\x<w.heap.size:=by
 rcases hx with hx | ⟨k,i,hk,hx⟩
 ·have:=h.map
  rw [hx] at this
  obtain ⟨h0,D,h1,_⟩:=this
  exact ⟨h0,h1.lt⟩
 ·have:=h.old hk id hx
  exact ⟨this.1,this.2.1⟩
theorem TbX.row_ne{w:World}{B N:Nat}{q:TbM}{s:Tab}{no:ByteArray->Prop}(h:TbX w B N q s no){k:ByteArray}{i:Bool}(hk:okQ k)(hno:¬ no k){x:Nat}(hx:(q.hd k i).ownBlock=some x):x≠q.b/\q.m≠some x:=by
 obtain ⟨_,_,cur,hc⟩:=h.old hk hno hx
 refine ⟨fun e=>?_,fun e=>?_⟩
 ·subst e
  have:=h.blk
  unfold Blk at this
  rw [hc] at this
  simp at this
  exact h.bt this.2.symm
 ·have hm:=h.map
  rw [e] at hm
  obtain ⟨_,D,⟨es,clock,hb,_⟩,_⟩:=hm
  rw [hc] at hb
  cases hb
theorem TbX.map_ne{w:World}{B N:Nat}{q:TbM}{s:Tab}{no:ByteArray->Prop}(h:TbX w B N q s no):q.m≠some q.b:=fun e=>by
 have hm:=h.map
 rw [e] at hm
 obtain ⟨_,D,⟨es,clock,hb,_⟩,_⟩:=hm
 have:=h.blk
 unfold Blk at this
 rw [this] at hb
 cases hb
theorem TbX.cell{w:World}{B N:Nat}{q:TbM}{s:Tab}{no:ByteArray->Prop}(h:TbX w B N q s no):w.cell? ⟨q.b,q.pre.length,none⟩=some (.map q.m):=h.blk.cell _ (by simp)
theorem yIa:Keyed Tryz.prog 9:=string_keyed Tryz.underlying9
theorem yOn(w:World):(zeroValue 212).run Tryz.prog w=.ok (.agg #[.slice none 0 0,.slice none 0 0]) w:=by kernel_rfl
theorem yQh(k:ByteArray)(w:World):(Instr.lookup 85 (.map none) (.string k) false).run Tryz.prog w=.ok (.agg #[.slice none 0 0,.slice none 0 0]) w:=by kernel_rfl
theorem TbX.look{w:World}{B N:Nat}{q:TbM}{s:Tab}{no:ByteArray->Prop}(h:TbX w B N q s no){k:ByteArray}(hk:okQ k):(Instr.lookup 85 (.map q.m) (.string k) false).run Tryz.prog w=.ok (.agg #[q.hd k true,q.hd k false]) w:=by
 have hm:=h.map
 cases hq:q.m with
 | none=>
  rw [hq] at hm
  rw [(hm k hk).1 true,(hm k hk).1 false]
  exact yQh k w
 | some g=>
  rw [hq] at hm
  obtain ⟨_,D,h1,h2⟩:=hm
  obtain ⟨v,ps,hrun,hv⟩:=h1.lookup yIa Tryz.underlying85 (yOn w) (zd:=zWt) (zp:=[]) (yGb (.inl rfl) (.inl rfl)) (Go.WideMaps.keyOf_string_mk Tryz.underlying9 hk)
  obtain ⟨a,b,rfl,e1,e2,e3⟩:=yBq hv
  have e4:encK a b=encK (q.hd k true) (q.hd k false):=by rw [<-e3];exact (h2 k hk).1
  obtain ⟨rfl,rfl⟩:=yGa e1 e2 (h.hdr k true hk) (h.hdr k false hk) e4
  exact hrun
theorem TbX.less{w:World}{B N:Nat}{q:TbM}{s:Tab}(h:TbP w B N q s)(no:ByteArray->Prop):TbX w B N q s no:=
 ⟨h.blk,h.bt,h.map,h.hdr,fun k i hk _=>h.rows k i hk id,h.apart,h.ok,h.few⟩
theorem TbX.turn{w w':World}{B N:Nat}{q:TbM}{s:Tab}{name:ByteArray}{G:Nat->Prop}(h:TbX w B N q s (·=name))(hm:Mod G w w')(hb:¬ G q.b)(hmm:∀ x,q.m=some x->¬ G x)(hG:∀ k i x,okQ k->k≠name->(q.hd k i).ownBlock=some x->¬ G x):TbX w' B N q s (·=name):=
 ⟨h.blk.mod hm hb,h.bt,h.map.mod hm hmm,h.hdr,fun k i hk hno=>(h.rows k i hk hno).mod hm (fun x hx=>hG k i x hk hno hx),h.apart,h.ok,h.few⟩
end Go.Proofs.YtogaigioeohjaaaGreatDoor
