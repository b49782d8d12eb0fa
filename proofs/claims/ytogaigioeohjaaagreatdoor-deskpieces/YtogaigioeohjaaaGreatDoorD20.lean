import Derived.Test.YtogaigioeohjaaaGreatDoorD19
set_option linter.unusedVariables false
set_option maxRecDepth 100000
set_option maxHeartbeats 16000000
namespace Go.Proofs.YtogaigioeohjaaaGreatDoor
open Go.RowKit Go.Lib Go.Maps
def sumF(l:List UInt8):Nat:=l.foldl (fun a b=>a+b.toNat) 0
theorem yKs(l:List UInt8)(b:UInt8):sumF (l++[b])=sumF l+b.toNat:=by simp [sumF]
theorem ySm:∀ l:List UInt8,sumF l<=255*l.length:=by
 intro l
 suffices h:∀ (l:List UInt8) (a:Nat),l.foldl (fun a b=>a+b.toNat) a<=a+255*l.length by simpa [sumF] using h l 0
 intro l
 induction l with
 | nil=>intro a;simp
 | cons b l ih=>
  intro a
  have h1:=ih (a+b.toNat)
  have h2:=b.toNat_lt
  simp only [List.foldl_cons,List.length_cons]
  omega
theorem zNt(n c g:Nat)(y:HLay)(s:zAa)(key:ByteArray)(w:World)(h:zAe w n c g y s)(hs:zGd s)(hk:key.size<=1000000) :
  Calls Tryz.prog 56 #[.pointer (some ⟨g,0,none⟩),.string key] w fun e w'=>e=.returned (.int .i64 (zAv s key))/\w'=w:=by
 have hll:=hs.ll
 have HD:=Hmq (zKk n c g y s w h (by omega) (by omega))
 have hdp:1<=decH s:=by unfold decH;omega
 have hdl:decH s<=5:=by unfold decH;omega
 clear h
 go_enter Tryz.func56,Tryz.ntmps56
 go_wp2_with fail
 go_loopw [5,9] (fun s0 i0 wr=>∃ i:Nat,i<=key.size/\i0=.int .i64 i/\s0=.int .i64 (sumF (key.toList.take i))/\wr=w) (fun _ i0 _=>key.size - (intOf i0).toNat)
 case atStart=>exact ⟨0,Nat.zero_le _,rfl,rfl,rfl⟩
 case round=>
  obtain ⟨i,hi,rfl,rfl,rfl⟩:=hrel
  have hle:=ySm (key.toList.take i)
  rw [List.length_take] at hle
  have hle2:sumF (key.toList.take i)<=255*1000000:=by omega
  by_cases hlt:i<key.size
  ·have hltI:(i:Int)<(key.size:Int):=by omega
   have hi0:(0:Int)<=(i:Int):=by omega
   have hsn:key.toList.take (i+1)=key.toList.take i++[key[i]]:=by
    have hl:i<key.toList.length:=by rw [ByteArray.toList_eq];simpa using hlt
    rw [List.take_succ_eq_append_getElem hl]
    congr 2
    simp only [ByteArray.toList_eq,ByteArray.getElem_eq_getElem_data,Array.getElem_toList]
   have hb:=key[i].toNat_lt
   have HW:Hid (wrap64 (↑(sumF (key.toList.take i))+wrap64 ↑key[i].toNat)=((sumF (key.toList.take (i+1)):Nat):Int)):=by
    unfold Hid
    rw [IntWalk.wrap64_in ((key[i].toNat:Nat):Int) ⟨by omega,by omega⟩,IntWalk.wrap64_in _ ⟨by omega,by omega⟩,hsn,yKs]
    omega
   clear hsn hb
   go_wp2_with fail
   refine ⟨⟨i+1,by omega,by go_num,by rw [HW.out],by trivial⟩,by simp [intOf];omega⟩
  ·obtain rfl:i=key.size:=by omega
   have hta:key.toList.take key.size=key.toList:=by rw [List.take_of_length_le];rw [ByteArray.toList_eq];simp
   have hz:((decH s:Nat):Int)≠0:=by omega
   have hzb:(((decH s:Nat):Int) == 0)=false:=by simpa using hz
   have HW:Hid (((sumF (key.toList.take key.size):Nat):Int) % ((decH s:Nat):Int)=((zAv s key:Nat):Int)):=by
    unfold Hid
    rw [hta];rfl
   clear hta hz hle hle2
   go_wp2_with fail
   refine HD.out.mono ?_
   rintro e w1 ⟨rfl,rfl⟩
   go_wp2_with fail
   go_ret
   exact ⟨by rw [<-HW.out];rfl,rfl⟩
theorem zEw{α:Type}(l:List α)(d:α)(h:0<l.length):l.getLastD d=l[l.length - 1]'(by omega):=by
 cases l with
 | nil=>simp at h
 | cons a l=>
  rw [List.getLastD_cons,List.getLastD_eq_getLast?,List.getLast?_eq_getElem?]
  cases l with
  | nil=>rfl
  | cons b l=>simp
theorem yPy(n b:Nat)(y:HLay)(l:zCs)(w:World)(hL:zTs w n y b l)(hne:0<l.nodes.length)(hx:l.nodes.length<=4)(hh:l.heard<=(l.nodes.getLastD zYt).log.length) :
  Calls Tryz.prog 187 #[.pointer (some ⟨b,0,none⟩)] w fun e w'=>∃ v,e=.returned v/\zMu w' v ((l.nodes.getLastD zYt).log.drop l.heard)/\zCr w v/\Mod zAb w w':=by
 have b0:=hL.blk.cell 0 rfl
 have b1:=hL.blk.cell 1 rfl
 have hlen:=hL.len
 obtain ⟨d,hd,t,ht,hN⟩:=hL.nodeQ (j:=l.nodes.length - 1) (by omega)
 obtain ⟨ng,ncap,hnv,cn⟩:=zIy hL.row hd
 rw [hnv,hlen] at b0
 have htl:l.nodes.getLastD zYt=t:=by
  rw [zEw _ _ hne]
  have:=List.getElem?_eq_getElem (show l.nodes.length - 1<l.nodes.length by omega)
  rw [ht] at this
  exact (Option.some.inj this).symm
 rw [htl] at hh ⊢
 obtain ⟨m,hm⟩:∃ m,l.nodes.length=m+1:=⟨l.nodes.length - 1,by omega⟩
 rw [hm] at b0 cn
 rw [Nat.add_sub_cancel] at cn
 have hfew:=hN.few.2
 have hmI:(m:Int)<((m+1:Nat):Int):=by omega
 have hm0:(0:Int)<=(m:Int):=by omega
 have HLE:Hid (∀ wq,Mod zAb w wq->Calls Tryz.prog 112 #[.pointer (some ⟨d,0,none⟩)] wq fun e w'=>e=.returned (.int .i64 t.log.length)/\w'=wq):=fun wq hq=>zYp _ _ _ _ _ _ (hN.quiet hq)
 have HLG:Hid (∀ wq,Mod zAb w wq->Calls Tryz.prog 91 #[.pointer (some ⟨d,0,none⟩)] wq fun e w'=>∃ v,e=.returned v/\RowC w' (y.lo n) v t.log/\zCr wq v/\Mod zAb wq w'):=fun wq hq=>zRe _ _ _ _ _ _ (hN.quiet hq)
 have zb:=hL.blk.lt
 clear hL hnv hd ht hN htl hlen hne
 go_enter Tryz.func187,Tryz.ntmps187
 go_upto_region 1 with fail
 go_quiet (fail)
 obtain ⟨w1,hw1⟩:∃ x,x=w.drewN nq:=⟨_,rfl⟩
 have hm1:Mod zAb w w1:=by rw [hw1];exact (Mod.refl _ w).drewN nq
 have d1:=hm1.cell b1 id
 have z1:b<w1.heap.size:=Nat.lt_of_lt_of_le zb hm1.size
 rw [<-hw1]
 clear hw1 b0 b1 cn
 go_upto_region 2 with fail
 by_cases he:t.log.length=l.heard
 ·have heb:((t.log.length:Int) == (l.heard:Int))=true:=by rw [beq_iff_eq];omega
  have HN:Hid (t.log.drop l.heard=[]):=by unfold Hid;rw [<-he];simp
  clear he hh
  go_quiet (first
   | (go_at_call 112;refine Calls.quiet_of_same (HLE.out _ (hm1.drewN _)))
   | fail)
  go_wp2_with fail
  go_ret
  exact ⟨_,rfl,by rw [HN.out];exact ⟨[],⟨rfl,by simp⟩,SlR.nil _ _ _ _⟩,fun k hk=>by simp [Value.ownBlock] at hk,hm1.drewN _⟩
 ·have heb:((t.log.length:Int) == (l.heard:Int))=false:=by rw [beq_eq_false_iff_ne];omega
  have hlt:l.heard<t.log.length:=by omega
  go_quiet (first
   | (go_at_call 112;refine Calls.quiet_of_same (HLE.out _ (hm1.drewN _)))
   | fail)
  obtain ⟨w2,hw2⟩:∃ x,x=w1.drewN nq:=⟨_,rfl⟩
  have hm2:Mod zAb w w2:=by rw [hw2];exact hm1.drewN _
  have d2:w2.cell? ⟨b,1,none⟩=some (.int .i64 l.heard):=by rw [hw2];exact d1
  have z2:b<w2.heap.size:=by rw [hw2];exact z1
  rw [<-hw2]
  clear hw2 d1 z1 hm1 he
  go_upto_region 4 with fail
  go_cut [2] (fun v wc=>zMu wc v (t.log.drop l.heard)/\zCr w v/\Mod zAb w wc)
  case first=>
   have hltI:(l.heard:Int)<(t.log.length:Int):=by omega
   have h00:(0:Int)<=(l.heard:Int):=by omega
   obtain ⟨c0,hc0⟩:∃ c,t.log[0]?=some c:=⟨_,List.getElem?_eq_getElem (by omega)⟩
   go_region_with (go_at_call 91;refine (HLG.out _ hm2.drew).mono ?_;rintro e w3 ⟨v3,rfl,hr3,hf3,hm3⟩;(have d3:=hm3.cell d2 id;obtain ⟨g3,vc3,u3,hv3,hcap3,hmx3,-⟩:=hr3.at hc0;subst hv3;have hle3:l.heard<=vc3:=(by omega)))
   all_goals
    obtain ⟨-,hq,-,-⟩:=zMu.drop hr3.toV hlt
    simp only [Nat.zero_add] at hq
    have HQ:=Hmq hq
    have HF:Hid (w.heap.size<=g3):=Nat.le_trans hm2.size (hf3 g3 rfl)
    have HM:Hid (Mod zAb w w3):=(hm2.drew).trans hm3
    clear hq hr3 hf3 hm3
    go_wp2_with fail
    go_meet
    case rel=>exact ⟨HQ.out,fun k hk=>(by cases hk;exact HF.out),HM.out⟩
  case rest=>
   obtain ⟨hq,hf,hmc⟩:=hcut
   have HQ:=Hmq hq
   have HF:=Hmq hf
   clear hq hf
   go_wp2_with fail
   go_ret
   exact ⟨_,rfl,HQ.out,HF.out,hmc⟩
structure zKo(w w':World)(n:Nat)(y:HLay)(T:Tag->Prop):Prop where
 ex:∃ G:Nat->Prop,Mod G w w'/\Qm w (y.lo n) G/\∀ k,k<w.heap.size->G k->T (y.own k)/\y.own k≠.no
section
variable {w w':World} {n c g:Nat} {y:HLay} {s:zAa} {T:Tag->Prop}
theorem zAe.fMain(h:zAe w n c g y s)(ht:zKo w w' n y T)(hn:¬ T .main):Blk w' g (zIh y s.net.lost) 90:=by
 obtain ⟨G,hm,hq,hT⟩:=ht.ex
 exact h.blk.mod hm (fun e=>hn (by have:=(hT g h.blk.lt e).1;rwa [h.own.main] at this))
theorem zAe.fNet(h:zAe w n c g y s)(ht:zKo w w' n y T)(hn:¬ T .net):NetB w' (y.lo n) y.wv y.mr s.net:=by
 obtain ⟨G,hm,hq,hT⟩:=ht.ex
 refine h.net.mod hm hq (fun k hk e=>hn ?_)
 have ho:=h.own.net k hk
 have:=(hT k (h.own.lt k (by rw [ho];simp)).2 e).1
 rwa [ho] at this
theorem zAe.fDead(h:zAe w n c g y s)(ht:zKo w w' n y T)(hn:¬ T .dead):zEz w' n (some y.dr) s.dead:=by
 obtain ⟨G,hm,hq,hT⟩:=ht.ex
 refine h.dead.mod hm (fun k hk e=>hn ?_)
 cases hk
 have ho:=h.own.dead
 have:=(hT _ (h.own.lt _ (by rw [ho];simp)).2 e).1
 rwa [ho] at this
theorem zAe.fTab(h:zAe w n c g y s)(ht:zKo w w' n y T)(hn:¬ T .tab):TabB w' n 120 y.q s.keys:=by
 obtain ⟨G,hm,hq,hT⟩:=ht.ex
 refine h.tab.mod hm (fun k hk e=>hn ?_)
 have ho:=h.own.tab k hk
 have:=(hT k (h.own.lt k (by rw [ho];simp)).2 e).1
 rwa [ho] at this
theorem zAe.fLrow(h:zAe w n c g y s)(ht:zKo w w' n y T)(hn:¬ T .lrow):w'.ownsRow n 120 1 y.lv y.lbs.length (y.lbs.map ptrV):=by
 obtain ⟨G,hm,hq,hT⟩:=ht.ex
 refine zAn h.lrow hm (fun k _ _ hk e=>hn ?_)
 have ho:=h.own.lrow k hk
 have:=(hT k (h.own.lt k (by rw [ho];simp)).2 e).1
 rwa [ho] at this
theorem zAe.fTrow(h:zAe w n c g y s)(ht:zKo w w' n y T)(hn:¬ T .trow):w'.ownsRow n 93 1 y.tv y.tbs.length (y.tbs.map ptrV):=by
 obtain ⟨G,hm,hq,hT⟩:=ht.ex
 refine zAn h.trow hm (fun k _ _ hk e=>hn ?_)
 have ho:=h.own.trow k hk
 have:=(hT k (h.own.lt k (by rw [ho];simp)).2 e).1
 rwa [ho] at this
theorem zAe.fTx(h:zAe w n c g y s)(ht:zKo w w' n y T){i b:Nat}{t:TxS}(hb:y.tbs[i]?=some b)(hti:s.txs[i]?=some t)(hn:¬ T (.tx b)):TxP w' n y b t:=by
 obtain ⟨G,hm,hq,hT⟩:=ht.ex
 have hmem:=List.mem_of_getElem? hb
 have ho:=h.own.tx b hmem
 refine (h.tx i b t hb hti).mod hm (fun e=>hn ?_) (fun k hk e=>hn ?_)
 ·have:=(hT b (h.own.lt b (by rw [ho.1];simp)).2 e).1
  rwa [ho.1] at this
 ·have hk2:=ho.2 k hk
  have:=(hT k (h.own.lt k (by rw [hk2];simp)).2 e).1
  rwa [hk2] at this
theorem zAe.fNode(h:zAe w n c g y s)(ht:zKo w w' n y T){k b d:Nat}{x:zAl}(hb:y.lbs[k]?=some b)(hd:d∈y.nbs b)(hx:zQa w n y d x)(hn:¬ T (.node d)):zQa w' n y d x:=by
 obtain ⟨G,hm,hq,hT⟩:=ht.ex
 have hmem:=List.mem_of_getElem? hb
 refine zAx.mod hx hm hq (fun z hz e=>hn ?_)
 have ho:=h.own.node b hmem d hd z hz
 have:=(hT z (h.own.lt z (by rw [ho];simp)).2 e).1
 rwa [ho] at this
theorem zAe.fLine(h:zAe w n c g y s)(ht:zKo w w' n y T){k b:Nat}{l:zCs}(hb:y.lbs[k]?=some b)(hl:s.lines[k]?=some l)(hn:¬ T (.line b))(hnn:∀ d∈y.nbs b,¬ T (.node d)):zTs w' n y b l:=by
 obtain ⟨G,hm,hq,hT⟩:=ht.ex
 have hmem:=List.mem_of_getElem? hb
 have ho:=h.own.line b hmem
 have hL:=h.line k b l hb hl
 refine ⟨hL.blk.mod hm (fun e=>hn ?_),zAn hL.row hm (fun z _ _ hz e=>hn ?_),hL.len,fun j d x hd hx=>h.fNode ht hb (List.mem_of_getElem? hd) (hL.node j d x hd hx) (hnn d (List.mem_of_getElem? hd))⟩
 ·have:=(hT b (h.own.lt b (by rw [ho.1];simp)).2 e).1
  rwa [ho.1] at this
 ·have hk2:=ho.2 z hz
  have:=(hT z (h.own.lt z (by rw [hk2];simp)).2 e).1
  rwa [hk2] at this
theorem zAe.fLineB(h:zAe w n c g y s)(ht:zKo w w' n y T){k b:Nat}{l:zCs}(hb:y.lbs[k]?=some b)(hl:s.lines[k]?=some l)(hn:¬ T (.line b)):Blk w' b [y.lnv b,.int .i64 l.heard] 122/\w'.ownsRow n 100 1 (y.lnv b) (y.nbs b).length ((y.nbs b).map ptrV):=by
 obtain ⟨G,hm,hq,hT⟩:=ht.ex
 have hmem:=List.mem_of_getElem? hb
 have ho:=h.own.line b hmem
 have hL:=h.line k b l hb hl
 refine ⟨hL.blk.mod hm (fun e=>hn ?_),zAn hL.row hm (fun z _ _ hz e=>hn ?_)⟩
 ·have:=(hT b (h.own.lt b (by rw [ho.1];simp)).2 e).1
  rwa [ho.1] at this
 ·have hk2:=ho.2 z hz
  have:=(hT z (h.own.lt z (by rw [hk2];simp)).2 e).1
  rwa [hk2] at this
end
theorem zVf{y:HLay}:∀ {ls:List Nat},(ls.flatMap y.nbs).Nodup->∀ {b b' d:Nat},b∈ls->b'∈ls->d∈y.nbs b->d∈y.nbs b'->b=b':=by
 intro ls
 induction ls with
 | nil=>intro _ b b' d hb;simp at hb
 | cons a ls ih=>
  intro hnd b b' d hb hb' hd hd'
  rw [List.flatMap_cons,List.nodup_append] at hnd
  obtain ⟨_,h2,h3⟩:=hnd
  rcases List.mem_cons.1 hb with e | e <;> rcases List.mem_cons.1 hb' with e' | e'
  ·rw [e,e']
  ·subst e;exact absurd rfl (h3 d hd d (List.mem_flatMap.2 ⟨b',e',hd'⟩))
  ·subst e';exact absurd rfl (h3 d hd' d (List.mem_flatMap.2 ⟨b,e,hd⟩))
  ·exact ih h2 e e' hd hd'
theorem yAi{y:HLay}:∀ {ls:List Nat},(ls.flatMap y.nbs).Nodup->∀ {b:Nat},b∈ls->(y.nbs b).Nodup:=by
 intro ls
 induction ls with
 | nil=>intro _ b hb;simp at hb
 | cons a ls ih=>
  intro hnd b hb
  rw [List.flatMap_cons,List.nodup_append] at hnd
  rcases List.mem_cons.1 hb with e | e
  ·subst e;exact hnd.1
  ·exact ih hnd.2.1 e
theorem zKh{α:Type}{l:List α}(h:l.Nodup){i j:Nat}{x:α}(hi:l[i]?=some x)(hj:l[j]?=some x):i=j:=by
 obtain ⟨h1,h2⟩:=List.getElem?_eq_some_iff.1 hi
 obtain ⟨h3,h4⟩:=List.getElem?_eq_some_iff.1 hj
 rcases Nat.lt_trichotomy i j with q | q | q
 ·exact absurd (h2.trans h4.symm) (List.pairwise_iff_getElem.1 h i j h1 h3 q)
 ·exact q
 ·exact absurd (h4.trans h2.symm) (List.pairwise_iff_getElem.1 h j i h3 h1 q)
open Classical in
noncomputable def HLay.setN(y:HLay)(w:World)(d:Nat)(nv lv:Value):HLay:=
 { y with nnv:=fun x=>if x=d then nv else y.nnv x,nlv:=fun x=>if x=d then lv else y.nlv x,own:=fun x=>if w.heap.size<=x/\zAs d nv lv x then .node d else y.own x }
theorem zQw(y:HLay)(w:World)(d:Nat)(nv lv:Value):(y.setN w d nv lv).nnv d=nv/\(y.setN w d nv lv).nlv d=lv:=by simp [HLay.setN]
theorem zXh(y:HLay)(w:World){d x:Nat}(nv lv:Value)(h:x≠d):(y.setN w d nv lv).nnv x=y.nnv x/\(y.setN w d nv lv).nlv x=y.nlv x:=by simp [HLay.setN,h]
theorem zXg(y:HLay)(w:World)(d:Nat)(nv lv:Value){x:Nat}(h:x<w.heap.size):(y.setN w d nv lv).own x=y.own x:=by
 simp only [HLay.setN]
 rw [if_neg (fun e=>by omega)]
theorem zDn{α:Type}(l:List α)(j:Nat)(x:α)(i:Nat):(l.set j x)[i]?=if i=j/\i<l.length then some x else l[i]?:=by
 rw [List.getElem?_set]
 by_cases h:j=i
 ·subst h
  by_cases h2:j<l.length
  ·simp [h2]
  ·simp [h2]
 ·rw [if_neg h,if_neg (fun e=>h e.1.symm)]
theorem zAe.turnN{w w':World}{n c g:Nat}{y:HLay}{s:zAa}(h:zAe w n c g y s){k b j d:Nat}(hk:k<s.lines.length)(hb:y.lbs[k]?=some b)(hd:(y.nbs b)[j]?=some d){nv lv:Value}{x:zAl}
  (hm:Mod (zAs d (y.nnv d) (y.nlv d)) w w') (hN:zAx w' (y.lo n) d nv lv x) (h1:zCf w (y.nnv d) nv) (h2:zCf w (y.nlv d) lv) :
  zAe w' n c g (y.setN w d nv lv) (setNode s k j x)/\zFi w y w' (y.setN w d nv lv):=by
 have hbm:=List.mem_of_getElem? hb
 have hdm:=List.mem_of_getElem? hd
 have hL:=h.line k b _ hb (zBj hk)
 have hj:j<(s.line k).nodes.length:=by have:=(List.getElem?_eq_some_iff.1 hd).1;have:=hL.len;omega
 have hold:=hL.node j d _ hd (List.getElem?_eq_getElem hj)
 have hmay:∀ z,zAs d nv lv z->z<w.heap.size->zAs d (y.nnv d) (y.nlv d) z:=fun z hz hlt=>by
  rcases hz with e | e | e
  ·exact .inl e
  ·rcases h1 with q | q
   ·exact .inr (.inl (by rw [<-q];exact e))
   ·have:=q z e;omega
  ·rcases h2 with q | q
   ·exact .inr (.inr (by rw [<-q];exact e))
   ·have:=q z e;omega
 have ht:zKo w w' n y (fun t=>t=.node d):=⟨⟨_,hm,zAx.qm hold,fun z hz e=>by
  have:=h.own.node b hbm d hdm z e
  exact ⟨this,by rw [this];simp⟩⟩⟩
 have hownd:∀ z,zAs d nv lv z->(y.setN w d nv lv).own z=.node d:=fun z hz=>by
  by_cases hlt:z<w.heap.size
  ·rw [zXg _ _ _ _ _ hlt];exact h.own.node b hbm d hdm z (hmay z hz hlt)
  ·simp only [HLay.setN];rw [if_pos ⟨by omega,hz⟩]
 have hkeep:∀ z,y.own z≠.no->(y.setN w d nv lv).own z=y.own z:=fun z hz=>zXg _ _ _ _ _ (h.own.lt z hz).2
 have hlines:∀ (i:Nat) l,(setNode s k j x).lines[i]?=some l->(i=k/\l=⟨(s.line k).nodes.set j x,(s.line k).heard⟩)\/(i≠k/\s.lines[i]?=some l):=fun i l hl=>by
  have hl':(s.lines.set k ⟨(s.line k).nodes.set j x,(s.line k).heard⟩)[i]?=some l:=hl
  rw [zDn] at hl'
  by_cases e:i=k
  ·rw [if_pos ⟨e,by omega⟩] at hl';exact .inl ⟨e,(Option.some.inj hl').symm⟩
  ·rw [if_neg (fun q=>e q.1)] at hl';exact .inr ⟨e,hl'⟩
 have hnode:∀ (b':Nat),b'∈y.lbs->∀ {j' d':Nat} {x':zAl} {k':Nat},y.lbs[k']?=some b'->(y.nbs b')[j']?=some d'->d'≠d->zQa w n y d' x'->zQa w' n (y.setN w d nv lv) d' x':=fun b' hb' j' d' x' k' hk' hd' hne hx'=>by
  have:=h.fNode ht hk' (List.mem_of_getElem? hd') hx' (fun e=>hne (by simpa using e))
  unfold zQa at this ⊢
  rw [(zXh y w nv lv hne).1,(zXh y w nv lv hne).2]
  exact this
 refine ⟨⟨h.fMain ht (by simp),h.fNet ht (by simp),h.fDead ht (by simp),h.fTab ht (by simp),h.qn,h.fLrow ht (by simp),?_,fun i b' l hb' hl=>?_,h.fTrow ht (by simp),h.tlen,fun i b' t hb' hti=>(have q:=h.fTx ht hb' hti (by simp);⟨q.blk,q.ats,q.wr⟩),?_⟩,?_⟩
 ·show y.lbs.length=(s.lines.set k _).length
  rw [List.length_set];exact h.llen
 ·have hb'':y.lbs[i]?=some b':=hb'
  rcases hlines i l hl with ⟨rfl,rfl⟩ | ⟨hne,hl2⟩
  ·rw [hb] at hb'';cases hb''
   obtain ⟨q1,q2⟩:=h.fLineB ht hb (zBj hk) (by simp)
   refine ⟨q1,q2,by show (y.nbs b).length=((s.line i).nodes.set j x).length;rw [List.length_set];exact hL.len,fun j' d' x' hd' hx'=>?_⟩
   have hd2:(y.nbs b)[j']?=some d':=hd'
   have hx2:((s.line i).nodes.set j x)[j']?=some x':=hx'
   rw [zDn] at hx2
   by_cases e:j'=j
   ·subst e
    rw [if_pos ⟨rfl,hj⟩] at hx2;cases hx2
    rw [hd] at hd2;cases hd2
    show zAx w' (y.lo n) d _ _ x
    rw [(zQw y w d nv lv).1,(zQw y w d nv lv).2]
    exact hN
   ·rw [if_neg (fun q=>e q.1)] at hx2
    refine hnode b hbm hb hd2 (fun q=>e ?_) (hL.node j' d' x' hd2 hx2)
    subst q
    exact zKh (yAi h.own.nnd hbm) hd2 hd
  ·have hL2:=h.line i b' l hb'' hl2
   obtain ⟨q1,q2⟩:=h.fLineB ht hb'' hl2 (by simp)
   refine ⟨q1,q2,hL2.len,fun j' d' x' hd' hx'=>?_⟩
   refine hnode b' (List.mem_of_getElem? hb'') hb'' hd' (fun q=>?_) (hL2.node j' d' x' hd' hx')
   subst q
   have hbb:=zVf h.own.nnd (List.mem_of_getElem? hb'') hbm (List.mem_of_getElem? hd') hdm
   subst hbb
   exact hne (zKh h.own.lnd hb'' hb)
 ·have own:=h.own
  refine ⟨by rw [hkeep _ (by rw [own.main];simp)];exact own.main,fun z hz=>?_,fun z hz=>?_,fun z hz=>?_,?_,fun z hz=>?_,fun b' hb'=>⟨?_,fun z hz=>?_⟩,fun b' hb' d' hd' z hz=>?_,fun b' hb'=>⟨?_,fun z hz=>?_⟩,fun z hz=>?_,own.lnd,own.tnd,own.nnd⟩
  ·rw [hkeep z (by rw [own.lrow z hz];simp)];exact own.lrow z hz
  ·rw [hkeep z (by rw [own.trow z hz];simp)];exact own.trow z hz
  ·rw [hkeep z (by rw [own.net z hz];simp)];exact own.net z hz
  ·rw [show (y.setN w d nv lv).dr=y.dr from rfl,hkeep _ (by rw [own.dead];simp)];exact own.dead
  ·rw [hkeep z (by rw [own.tab z hz];simp)];exact own.tab z hz
  ·rw [hkeep b' (by rw [(own.line b' hb').1];simp)];exact (own.line b' hb').1
  ·rw [hkeep z (by rw [(own.line b' hb').2 z hz];simp)];exact (own.line b' hb').2 z hz
  ·by_cases e:d'=d
   ·subst e
    rw [(zQw y w d' nv lv).1,(zQw y w d' nv lv).2] at hz
    exact hownd z hz
   ·rw [(zXh y w nv lv e).1,(zXh y w nv lv e).2] at hz
    have:=own.node b' hb' d' hd' z hz
    rw [hkeep z (by rw [this];simp)];exact this
  ·rw [hkeep b' (by rw [(own.tx b' hb').1];simp)];exact (own.tx b' hb').1
  ·rw [hkeep z (by rw [(own.tx b' hb').2 z hz];simp)];exact (own.tx b' hb').2 z hz
  ·by_cases e:w.heap.size<=z/\zAs d nv lv z
   ·obtain ⟨q1,q2,_⟩:=hN.lt e.2
    exact ⟨q1,q2⟩
   ·have hz':y.own z≠.no:=by
     simp only [HLay.setN] at hz
     rw [if_neg e] at hz;exact hz
    have:=own.lt z hz'
    exact ⟨this.1,Nat.lt_of_lt_of_le this.2 hm.size⟩
 ·exact ⟨hm.mono (fun z hz e=>by rw [h.own.node b hbm d hdm z e];simp),fun z hz=>zXg _ _ _ _ _ hz⟩
end Go.Proofs.YtogaigioeohjaaaGreatDoor
namespace Go.Proofs.YtogaigioeohjaaaGreatDoor
open Go.RowKit Go.Lib Go.Maps
theorem zAe.low{w:World}{n c g:Nat}{y:HLay}{s:zAa}(h:zAe w n c g y s):n<=g:=(h.own.lt g (by rw [h.own.main];simp)).1
theorem zAe.netP{w:World}{n c g:Nat}{y:HLay}{s:zAa}(h:zAe w n c g y s):NetP y.ext w (y.lo n) g y.wv y.mr s.net:=
 ⟨h.blk,h.low,h.net.row,h.net.dn,h.net.few,h.net.lo,ySz h.own⟩
def HLay.tb(y:HLay)(g:Nat)(lost:Int):TbM:={ y.q with b:=g,pre:=[y.lv,.map (some y.dr),y.wv,.int .i64 lost,.map y.mr],post:=[y.tv],t:=90 }
theorem zAe.tabP{w:World}{n c g:Nat}{y:HLay}{s:zAa}(h:zAe w n c g y s):TbP w n 120 (y.tb g s.net.lost) s.keys:=
 TabB.toP (q:=y.tb g s.net.lost) ⟨h.tab.map,h.tab.hdr,h.tab.rows,h.tab.apart,h.tab.ok,h.tab.few⟩ h.blk (by show 90≠214;decide)
theorem OwnP.more{w w':World}{n g:Nat}{y:HLay}(h:OwnP w n g y)(hz:w.heap.size<=w'.heap.size):OwnP w' n g y:={ h with lt:=fun k hk=>⟨(h.lt k hk).1,Nat.lt_of_lt_of_le (h.lt k hk).2 hz⟩ }
open Classical in
noncomputable def HLay.setW(y:HLay)(w:World)(wv:Value)(mr:Option Nat):HLay:=
 { y with wv:=wv,mr:=mr,own:=fun x=>if w.heap.size<=x/\(wv.ownBlock=some x\/mr=some x) then .net else y.own x }
theorem zXd(y:HLay)(w:World)(wv:Value)(mr:Option Nat){x:Nat}(h:x<w.heap.size):(y.setW w wv mr).own x=y.own x:=by
 simp only [HLay.setW];rw [if_neg (fun e=>by omega)]
theorem zAe.turnW{w w':World}{n c g:Nat}{y:HLay}{s:zAa}(h:zAe w n c g y s){wv:Value}{mr:Option Nat}{net:NetS}
  (hm:Mod (zDi g y.wv y.mr) w w') (hN:NetP y.ext w' (y.lo n) g wv mr net) (h1:zCf w y.wv wv) (h2:mr=y.mr\/∀ k,mr=some k->w.heap.size<=k) :
  zAe w' n c g (y.setW w wv mr) { s with net:=net }/\zFi w y w' (y.setW w wv mr):=by
 have own:=h.own
 have hz:=hm.size
 have htag:∀ z,zDi g y.wv y.mr z->y.own z=.main\/y.own z=.net:=fun z e=>by
  rcases e with e | e | e
  ·rw [e];exact .inl own.main
  ·exact .inr (own.net z (.inl e))
  ·exact .inr (own.net z (.inr e))
 have ht:zKo w w' n y (fun t=>t=.main\/t=.net):=⟨⟨_,hm,NetP.qm h.netP,fun z hz e=>⟨htag z e,by rcases htag z e with q | q <;> rw [q] <;> simp⟩⟩⟩
 have hkeep:∀ z,y.own z≠.no->(y.setW w wv mr).own z=y.own z:=fun z hz=>zXd _ _ _ _ (own.lt z hz).2
 have hnet:∀ z,wv.ownBlock=some z\/mr=some z->(y.setW w wv mr).own z=.net:=fun z e=>by
  by_cases hlt:z<w.heap.size
  ·rw [zXd _ _ _ _ hlt]
   refine own.net z ?_
   rcases e with e | e
   ·rcases h1 with q | q
    ·exact .inl (by rw [<-q];exact e)
    ·have:=q z e;omega
   ·rcases h2 with q | q
    ·exact .inr (by rw [<-q];exact e)
    ·have:=q z e;omega
  ·simp only [HLay.setW];rw [if_pos ⟨by omega,e⟩]
 refine ⟨⟨hN.blk,⟨hN.row,hN.dn,hN.few,hN.lo⟩,h.fDead ht (by simp),h.fTab ht (by simp),h.qn,h.fLrow ht (by simp),h.llen,fun k b l hb hl=>?_,h.fTrow ht (by simp),h.tlen,fun i b t hb hti=>(have q:=h.fTx ht hb hti (by simp);⟨q.blk,q.ats,q.wr⟩),?_⟩,?_⟩
 ·have q:=h.fLine ht hb hl (by simp) (fun d _=>by simp)
  exact ⟨q.blk,q.row,q.len,q.node⟩
 ·refine ⟨by rw [hkeep _ (by rw [own.main];simp)];exact own.main,fun z hz=>?_,fun z hz=>?_,fun z hz=>hnet z hz,?_,fun z hz=>?_,fun b' hb'=>⟨?_,fun z hz=>?_⟩,fun b' hb' d' hd' z hz=>?_,fun b' hb'=>⟨?_,fun z hz=>?_⟩,fun z hz=>?_,own.lnd,own.tnd,own.nnd⟩
  ·rw [hkeep z (by rw [own.lrow z hz];simp)];exact own.lrow z hz
  ·rw [hkeep z (by rw [own.trow z hz];simp)];exact own.trow z hz
  ·rw [show (y.setW w wv mr).dr=y.dr from rfl,hkeep _ (by rw [own.dead];simp)];exact own.dead
  ·rw [hkeep z (by rw [own.tab z hz];simp)];exact own.tab z hz
  ·rw [hkeep b' (by rw [(own.line b' hb').1];simp)];exact (own.line b' hb').1
  ·rw [hkeep z (by rw [(own.line b' hb').2 z hz];simp)];exact (own.line b' hb').2 z hz
  ·have:=own.node b' hb' d' hd' z hz
   rw [hkeep z (by rw [this];simp)];exact this
  ·rw [hkeep b' (by rw [(own.tx b' hb').1];simp)];exact (own.tx b' hb').1
  ·rw [hkeep z (by rw [(own.tx b' hb').2 z hz];simp)];exact (own.tx b' hb').2 z hz
  ·by_cases e:w.heap.size<=z/\(wv.ownBlock=some z\/mr=some z)
   ·obtain ⟨q1,q2,_⟩:=hN.lt (.inr e.2)
    exact ⟨q1,q2⟩
   ·have hz':y.own z≠.no:=by
     simp only [HLay.setW] at hz
     rw [if_neg e] at hz;exact hz
    have:=own.lt z hz'
    exact ⟨this.1,Nat.lt_of_lt_of_le this.2 hm.size⟩
 ·exact ⟨hm.mono (fun z hz e=>by rcases htag z e with q | q <;> rw [q] <;> simp),fun z hz=>zXd _ _ _ _ hz⟩
open Classical in
noncomputable def HLay.setQ(y:HLay)(w:World)(q:TbM):HLay:=
 { y with q:=q,own:=fun x=>if w.heap.size<=x/\q.own x then .tab else y.own x }
theorem zXf(y:HLay)(w:World)(q:TbM){x:Nat}(h:x<w.heap.size):(y.setQ w q).own x=y.own x:=by
 simp only [HLay.setQ];rw [if_neg (fun e=>by omega)]
theorem tab_qm{w:World}{n N:Nat}{q:TbM}{s:Tab}(h:TbP w n N q s)(ht:q.t=90)(hb:n<=q.b){L:Lo}(hL:L.n=n):Qm w L (fun x=>x=q.b\/q.own x):=fun k hk e=>by
 rintro (e1 | ⟨⟨cur,fr,e1⟩,_⟩)
 ·rcases e with e | e
  ·omega
  ·have:=(h.lt e).1;omega
 ·rcases e with e | e | ⟨z,i,hz,e⟩
  ·subst e
   have:=h.blk
   unfold Blk at this
   rw [this,ht] at e1;simp at e1
  ·have hmm:=h.map
   unfold MapQ at hmm
   rw [e] at hmm
   obtain ⟨_,D,⟨es,clock,h2,_⟩,_⟩:=hmm
   rw [h2] at e1;simp at e1
  ·obtain ⟨_,_,cur',h2⟩:=h.old hz id e
   rw [h2] at e1;simp at e1
theorem zAe.turnQ{w w':World}{n c c' g N:Nat}{y:HLay}{s:zAa}(h:zAe w n c g y s){q:TbM}{keys:Tab}
  (hm:Mod (fun x=>x=g\/y.q.own x) w w') (hT:TbP w' n N q keys) (hb:q.b=g) (hpre:q.pre=(y.tb g s.net.lost).pre) (hpost:q.post=[y.tv]) (hty:q.t=90) (hn:q.n<=c') (hown:∀ x,q.own x->y.q.own x\/w.heap.size<=x) (hfew:∀ k,okQ k->(keys k).held.length+(keys k).waits.length<=120) :
  zAe w' n c' g (y.setQ w q) { s with keys:=keys }/\zFi w y w' (y.setQ w q):=by
 have own:=h.own
 have htag:∀ z,(z=g\/y.q.own z)->y.own z=.main\/y.own z=.tab:=fun z e=>by
  rcases e with e | e
  ·rw [e];exact .inl own.main
  ·exact .inr (own.tab z e)
 have ht:zKo w w' n y (fun t=>t=.main\/t=.tab):=⟨⟨_,hm,tab_qm (q:=y.tb g s.net.lost) h.tabP rfl h.low rfl,fun z hz e=>⟨htag z e,by rcases htag z e with q | q <;> rw [q] <;> simp⟩⟩⟩
 have hkeep:∀ z,y.own z≠.no->(y.setQ w q).own z=y.own z:=fun z hz=>zXf _ _ _ (own.lt z hz).2
 have htab:∀ z,q.own z->(y.setQ w q).own z=.tab:=fun z e=>by
  by_cases hlt:z<w.heap.size
  ·rw [zXf _ _ _ hlt]
   rcases hown z e with e | e
   ·exact own.tab z e
   ·omega
  ·simp only [HLay.setQ];rw [if_pos ⟨by omega,e⟩]
 have hblk:Blk w' g (zIh (y.setQ w q) s.net.lost) 90:=by
  have:=hT.blk
  rw [hb,hpre,hpost,hty] at this
  exact this
 refine ⟨⟨hblk,?_,h.fDead ht (by simp),⟨hT.map,hT.hdr,fun k i hk=>hT.rows k i hk id,hT.apart,hT.ok,hfew⟩,⟨hb,hty,hn⟩,h.fLrow ht (by simp),h.llen,fun k b l hb hl=>?_,h.fTrow ht (by simp),h.tlen,fun i b t hb hti=>(have q:=h.fTx ht hb hti (by simp);⟨q.blk,q.ats,q.wr⟩),?_⟩,?_⟩
 ·exact h.fNet ht (by simp)
 ·have q:=h.fLine ht hb hl (by simp) (fun d _=>by simp)
  exact ⟨q.blk,q.row,q.len,q.node⟩
 ·refine ⟨by rw [hkeep _ (by rw [own.main];simp)];exact own.main,fun z hz=>?_,fun z hz=>?_,fun z hz=>?_,?_,fun z hz=>htab z hz,fun b' hb'=>⟨?_,fun z hz=>?_⟩,fun b' hb' d' hd' z hz=>?_,fun b' hb'=>⟨?_,fun z hz=>?_⟩,fun z hz=>?_,own.lnd,own.tnd,own.nnd⟩
  ·rw [hkeep z (by rw [own.lrow z hz];simp)];exact own.lrow z hz
  ·rw [hkeep z (by rw [own.trow z hz];simp)];exact own.trow z hz
  ·rw [hkeep z (by rw [own.net z hz];simp)];exact own.net z hz
  ·rw [show (y.setQ w q).dr=y.dr from rfl,hkeep _ (by rw [own.dead];simp)];exact own.dead
  ·rw [hkeep b' (by rw [(own.line b' hb').1];simp)];exact (own.line b' hb').1
  ·rw [hkeep z (by rw [(own.line b' hb').2 z hz];simp)];exact (own.line b' hb').2 z hz
  ·have:=own.node b' hb' d' hd' z hz
   rw [hkeep z (by rw [this];simp)];exact this
  ·rw [hkeep b' (by rw [(own.tx b' hb').1];simp)];exact (own.tx b' hb').1
  ·rw [hkeep z (by rw [(own.tx b' hb').2 z hz];simp)];exact (own.tx b' hb').2 z hz
  ·by_cases e:w.heap.size<=z/\q.own z
   ·exact hT.lt e.2
   ·have hz':y.own z≠.no:=by
     simp only [HLay.setQ] at hz
     rw [if_neg e] at hz;exact hz
    have:=own.lt z hz'
    exact ⟨this.1,Nat.lt_of_lt_of_le this.2 hm.size⟩
 ·exact ⟨hm.mono (fun z hz e=>by rcases htag z e with q | q <;> rw [q] <;> simp),fun z hz=>zXf _ _ _ hz⟩
structure Relo(w w':World)(L L':Lo):Prop where
 n:L'.n=L.n
 x:∀ k,L'.x k->L.x k\/w.heap.size<=k
 lt:∀ k,L'.x k->k<w'.heap.size
theorem zAy.relo{G:Nat->Prop}{w w':World}{L L':Lo}{v:Value}{ps:List zAz}(h:zAy w L v ps)(hm:Mod G w w')(hq:Qm w L G)(hr:Relo w w' L L'):zAy w' L' v ps:=by
 obtain ⟨a,cap,h1,h2,h3,h4⟩:=h
 refine ⟨a,cap,h1,h2,h3,?_⟩
 rcases h4 with h4 | ⟨b,off,h5,h6,h7⟩
 ·exact .inl h4
 ·cases ps with
  | nil=>exact .inl rfl
  | cons p ps=>
   have hlt:b<w.heap.size:=World.block_lt_of_cell? w _ (h7 0 p rfl).1
   have hn:∀ (j:Nat) (u:Value),w.cell? ⟨b,j,none⟩=some u->w'.cell? ⟨b,j,none⟩=some u:=fun j u hu=>hm.cell hu (fun g=>hq b hlt g h6)
   refine .inr ⟨b,off,h5,?_,fun j p hp=>⟨hn _ _ (h7 j p hp).1,hn _ _ (h7 j p hp).2.1,hn _ _ (h7 j p hp).2.2⟩⟩
   rcases h6.mod hm hq with e | ⟨e,hx⟩
   ·exact .inl (by rw [hr.n];exact e)
   ·refine .inr ⟨e,fun hx'=>?_⟩
    rcases hr.x b hx' with q | q
    ·exact hx q
    ·omega
theorem RowC.relo{G:Nat->Prop}{w w':World}{L L':Lo}{v:Value}{cs:List CmdD}(h:RowC w L v cs)(hm:Mod G w w')(hq:Qm w L G)(hG:∀ k,v.ownBlock=some k->¬ G k)(hr:Relo w w' L L'):RowC w' L' v cs:=by
 obtain ⟨us,h1,h2,h3,h4⟩:=h
 exact ⟨us,h1,by rw [hr.n];exact zAn h2 hm (fun k _ _ e=>hG k e),fun i m u hi hu=>(h3 i m u hi hu).relo hm hq hr,h4⟩
theorem RowM.relo{G:Nat->Prop}{w w':World}{L L':Lo}{v:Value}{ms:List MsgD}(h:RowM w L v ms)(hm:Mod G w w')(hq:Qm w L G)(hG:∀ k,v.ownBlock=some k->¬ G k)(hr:Relo w w' L L'):RowM w' L' v ms:=by
 obtain ⟨us,h1,h2,h3,h4⟩:=h
 exact ⟨us,h1,by rw [hr.n];exact zAn h2 hm (fun k _ _ e=>hG k e),fun i m u hi hu=>(h3 i m u hi hu).relo hm hq hr,h4⟩
theorem zAx.relo{G:Nat->Prop}{w w':World}{L L':Lo}{g:Nat}{nv lv:Value}{s:zAl}(h:zAx w L g nv lv s)(hm:Mod G w w')(hq:Qm w L G)(hG:∀ k,zAs g nv lv k->¬ G k)(hr:Relo w w' L L'):zAx w' L' g nv lv s:=
 ⟨h.blk.mod hm (hG g (.inl rfl)),by rw [hr.n];exact h.low,by rw [hr.n];exact zAn h.ns hm (fun k _ _ e=>hG k (.inr (.inl e))),h.lg.relo hm hq (fun k hk=>hG k (.inr (.inr hk))) hr,h.ints,h.few,h.st,hr.lt⟩
theorem NetB.relo{G:Nat->Prop}{w w':World}{L L':Lo}{wv:Value}{mr:Option Nat}{s:NetS}(h:NetB w L wv mr s)(hm:Mod G w w')(hq:Qm w L G)(hG:∀ k,wv.ownBlock=some k\/mr=some k->¬ G k)(hr:Relo w w' L L'):NetB w' L' wv mr s:=
 ⟨h.row.relo hm hq (fun k hk=>hG k (.inl hk)) hr,by rw [hr.n];exact h.dn.mod hm (fun k hk=>hG k (.inr hk)),h.few,h.lo⟩
open Classical in
noncomputable def HLay.setT(y:HLay)(w:World)(b:Nat)(av wv:Value):HLay:=
 { y with tav:=fun x=>if x=b then av else y.tav x,twv:=fun x=>if x=b then wv else y.twv x,own:=fun x=>if w.heap.size<=x/\(av.ownBlock=some x\/wv.ownBlock=some x) then .tx b else y.own x }
theorem zLa(y:HLay)(w:World)(b:Nat)(av wv:Value):(y.setT w b av wv).tav b=av/\(y.setT w b av wv).twv b=wv:=by simp [HLay.setT]
theorem zKz(y:HLay)(w:World){b x:Nat}(av wv:Value)(h:x≠b):(y.setT w b av wv).tav x=y.tav x/\(y.setT w b av wv).twv x=y.twv x:=by simp [HLay.setT,h]
theorem zXe(y:HLay)(w:World)(b:Nat)(av wv:Value){x:Nat}(h:x<w.heap.size):(y.setT w b av wv).own x=y.own x:=by
 simp only [HLay.setT];rw [if_neg (fun e=>by omega)]
def yKf(b:Nat)(av wv:Value)(k:Nat):Prop:=k=b\/av.ownBlock=some k\/wv.ownBlock=some k
theorem zAe.turnT{w w':World}{n c g:Nat}{y:HLay}{s:zAa}(h:zAe w n c g y s){i b:Nat}{t t':TxS}(hb:y.tbs[i]?=some b)(hti:s.txs[i]?=some t){av wv:Value}
  (hm:Mod (yKf b (y.tav b) (y.twv b)) w w') (hB:Blk w' b [.int .i64 t'.state,av,wv,.int .i64 t'.time] 97) (ha:w'.ownsRow n 3 1 av t'.ats.length (t'.ats.map (Value.int .i64))) (hw:w'.ownsRow n 65 3 wv t'.writes.length (t'.writes.flatMap zBe))
  (h1:zCf w (y.tav b) av\/av=.slice none 0 0) (h2:zCf w (y.twv b) wv\/wv=.slice none 0 0) :
  zAe w' n c g (y.setT w b av wv) { s with txs:=s.txs.set i t' }/\zFi w y w' (y.setT w b av wv):=by
 have own:=h.own
 have hbm:=List.mem_of_getElem? hb
 have hold:=h.tx i b t hb hti
 have hil:i<s.txs.length:=(List.getElem?_eq_some_iff.1 hti).1
 have htag:∀ z,yKf b (y.tav b) (y.twv b) z->y.own z=.tx b:=fun z e=>by
  rcases e with e | e | e
  ·rw [e];exact (own.tx b hbm).1
  ·exact (own.tx b hbm).2 z (.inl e)
  ·exact (own.tx b hbm).2 z (.inr e)
 have hq:Qm w (y.lo n) (yKf b (y.tav b) (y.twv b)):=fun k hk e=>by
  rintro (e1 | ⟨⟨cur,fr,e1⟩,hx⟩)
  ·have h9:=(own.lt k (by rw [htag k e];simp)).1
   have h8:k<n:=e1
   omega
  ·rcases e with e | e | e
   ·subst e
    have:=hold.blk
    unfold Blk at this
    rw [this] at e1;simp at e1
   ·obtain ⟨_,_,cur',h5⟩:=zAi hold.ats e
    rw [h5] at e1;simp at e1
   ·exact hx ⟨b,hbm,e⟩
 have ht:zKo w w' n y (fun t=>t=.tx b):=⟨⟨_,hm,hq,fun z hz e=>⟨htag z e,by rw [htag z e];simp⟩⟩⟩
 have hnew:∀ z,(av.ownBlock=some z\/wv.ownBlock=some z)->z<w.heap.size->(y.tav b).ownBlock=some z\/(y.twv b).ownBlock=some z:=fun z e hlt=>by
  rcases e with e | e
  ·rcases h1 with (q | q) | q
   ·exact .inl (by rw [<-q];exact e)
   ·have:=q z e;omega
   ·rw [q] at e;simp [Value.ownBlock] at e
  ·rcases h2 with (q | q) | q
   ·exact .inr (by rw [<-q];exact e)
   ·have:=q z e;omega
   ·rw [q] at e;simp [Value.ownBlock] at e
 have hltn:∀ z,(av.ownBlock=some z\/wv.ownBlock=some z)->n<=z/\z<w'.heap.size:=fun z e=>by
  rcases e with e | e
  ·exact ⟨(zAi ha e).1,(zAi ha e).2.1⟩
  ·exact ⟨(zAi hw e).1,(zAi hw e).2.1⟩
 have hr:Relo w w' (y.lo n) ((y.setT w b av wv).lo n):=by
  refine ⟨rfl,fun k hk=>?_,fun k hk=>?_⟩
  ·obtain ⟨x,hx,e⟩:=hk
   by_cases hxb:x=b
   ·subst hxb
    rw [(zLa y w x av wv).2] at e
    rcases h2 with (q | q) | q
    ·exact .inl ⟨x,hx,by rw [<-q];exact e⟩
    ·exact .inr (q k e)
    ·rw [q] at e;simp [Value.ownBlock] at e
   ·rw [(zKz y w av wv hxb).2] at e
    exact .inl ⟨x,hx,e⟩
  ·obtain ⟨x,hx,e⟩:=hk
   by_cases hxb:x=b
   ·subst hxb
    rw [(zLa y w x av wv).2] at e
    exact (hltn k (.inr e)).2
   ·rw [(zKz y w av wv hxb).2] at e
    exact Nat.lt_of_lt_of_le (own.lt k (by rw [(own.tx x hx).2 k (.inr e)];simp)).2 hm.size
 have hkeep:∀ z,y.own z≠.no->(y.setT w b av wv).own z=y.own z:=fun z hz=>zXe _ _ _ _ _ (own.lt z hz).2
 have hmine:∀ z,av.ownBlock=some z\/wv.ownBlock=some z->(y.setT w b av wv).own z=.tx b:=fun z e=>by
  by_cases hlt:z<w.heap.size
  ·rw [zXe _ _ _ _ _ hlt];exact (own.tx b hbm).2 z (hnew z e hlt)
  ·simp only [HLay.setT];rw [if_pos ⟨by omega,e⟩]
 have hnoG:∀ (tg:Tag),tg≠.tx b->∀ z,y.own z=tg->¬ yKf b (y.tav b) (y.twv b) z:=fun tg hne z hz e=>hne (by rw [<-hz,htag z e])
 refine ⟨⟨h.fMain ht (by simp),?_,h.fDead ht (by simp),h.fTab ht (by simp),h.qn,h.fLrow ht (by simp),h.llen,fun k b' l hb' hl=>?_,h.fTrow ht (by simp),?_,fun i' b' t2 hb' hti'=>?_,?_⟩,?_⟩
 ·exact h.net.relo hm hq (fun k hk=>hnoG .net (by simp) k (own.net k hk)) hr
 ·obtain ⟨q1,q2⟩:=h.fLineB ht hb' hl (by simp)
  have hL:=h.line k b' l hb' hl
  exact ⟨q1,q2,hL.len,fun j d x hd hx=>(hL.node j d x hd hx).relo hm hq (fun z hz=>hnoG (.node d) (by simp) z (own.node b' (List.mem_of_getElem? hb') d (List.mem_of_getElem? hd) z hz)) hr⟩
 ·show y.tbs.length=(s.txs.set i t').length
  rw [List.length_set];exact h.tlen
 ·have hb2:y.tbs[i']?=some b':=hb'
  have hti2:(s.txs.set i t')[i']?=some t2:=hti'
  rw [zDn] at hti2
  by_cases e:i'=i
  ·subst e
   rw [if_pos ⟨rfl,hil⟩] at hti2;cases hti2
   rw [hb] at hb2;cases hb2
   refine ⟨?_,?_,?_⟩
   ·rw [(zLa y w b av wv).1,(zLa y w b av wv).2];exact hB
   ·rw [(zLa y w b av wv).1];exact ha
   ·rw [(zLa y w b av wv).2];exact hw
  ·rw [if_neg (fun q=>e q.1)] at hti2
   have hne:b'≠b:=fun q=>e (zKh own.tnd (q ▸ hb2) hb)
   have q:=h.fTx ht hb2 hti2 (fun e=>hne (by simpa using e))
   refine ⟨?_,?_,?_⟩
   ·rw [(zKz y w av wv hne).1,(zKz y w av wv hne).2];exact q.blk
   ·rw [(zKz y w av wv hne).1];exact q.ats
   ·rw [(zKz y w av wv hne).2];exact q.wr
 ·refine ⟨by rw [hkeep _ (by rw [own.main];simp)];exact own.main,fun z hz=>?_,fun z hz=>?_,fun z hz=>?_,?_,fun z hz=>?_,fun b' hb'=>⟨?_,fun z hz=>?_⟩,fun b' hb' d' hd' z hz=>?_,fun b' hb'=>⟨?_,fun z hz=>?_⟩,fun z hz=>?_,own.lnd,own.tnd,own.nnd⟩
  ·rw [hkeep z (by rw [own.lrow z hz];simp)];exact own.lrow z hz
  ·rw [hkeep z (by rw [own.trow z hz];simp)];exact own.trow z hz
  ·rw [hkeep z (by rw [own.net z hz];simp)];exact own.net z hz
  ·rw [show (y.setT w b av wv).dr=y.dr from rfl,hkeep _ (by rw [own.dead];simp)];exact own.dead
  ·rw [hkeep z (by rw [own.tab z hz];simp)];exact own.tab z hz
  ·rw [hkeep b' (by rw [(own.line b' hb').1];simp)];exact (own.line b' hb').1
  ·rw [hkeep z (by rw [(own.line b' hb').2 z hz];simp)];exact (own.line b' hb').2 z hz
  ·have:=own.node b' hb' d' hd' z hz
   rw [hkeep z (by rw [this];simp)];exact this
  ·rw [hkeep b' (by rw [(own.tx b' hb').1];simp)];exact (own.tx b' hb').1
  ·by_cases e:b'=b
   ·subst e
    rw [(zLa y w b' av wv).1,(zLa y w b' av wv).2] at hz
    exact hmine z hz
   ·rw [(zKz y w av wv e).1,(zKz y w av wv e).2] at hz
    rw [hkeep z (by rw [(own.tx b' hb').2 z hz];simp)];exact (own.tx b' hb').2 z hz
  ·by_cases e:w.heap.size<=z/\(av.ownBlock=some z\/wv.ownBlock=some z)
   ·exact hltn z e.2
   ·have hz':y.own z≠.no:=by
     simp only [HLay.setT] at hz
     rw [if_neg e] at hz;exact hz
    have:=own.lt z hz'
    exact ⟨this.1,Nat.lt_of_lt_of_le this.2 hm.size⟩
 ·exact ⟨hm.mono (fun z hz e=>by rw [htag z e];simp),fun z hz=>zXe _ _ _ _ _ hz⟩
end Go.Proofs.YtogaigioeohjaaaGreatDoor
