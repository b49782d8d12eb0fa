import Derived.Test.YtogaigioeohjaaaGreatDoorD39
import Derived.Test.YtogaigioeohjaaaGreatDoorD25
set_option linter.unusedVariables false
set_option maxRecDepth 100000
set_option maxHeartbeats 16000000
namespace Go.Proofs.YtogaigioeohjaaaGreatDoor
open Go.RowKit Go.Lib Go.Maps
def yNz(d:Nat):List Value:=[.slice none 0 0,.map (some d),.slice none 0 0,.int .i64 0,.map none,.map none,.slice none 0 0]
def zJh(g d:Nat):HLay:=⟨.slice none 0 0,d,.slice none 0 0,none,.slice none 0 0,[],fun _=>.slice none 0 0,fun _=>[],fun _=>.slice none 0 0,fun _=>.slice none 0 0,[],fun _=>.slice none 0 0,fun _=>.slice none 0 0,⟨g,[],[],90,none,0,fun _ _=>.slice none 0 0⟩,fun x=>if x=g then .main else if x=d then .dead else .no⟩
theorem zAe.bare(w:World)(n c nodes:Nat)(hn:n<=w.heap.size):zAe ((w.alloc (.map #[] 0)).alloc (.cells (yNz w.heap.size).toArray 90)) n c (w.heap.size+1) (zJh (w.heap.size+1) w.heap.size) (newF nodes 0):=by
 have hz:(w.alloc (.map #[] 0)).heap.size=w.heap.size+1:=World.size_alloc _ _
 have hB:Blk ((w.alloc (.map #[] 0)).alloc (.cells (yNz w.heap.size).toArray 90)) (w.heap.size+1) (yNz w.heap.size) 90:=by
  have:=Blk.new (w.alloc (.map #[] 0)) (yNz w.heap.size) 90
  rw [hz] at this;exact this
 have hsz:((w.alloc (.map #[] 0)).alloc (.cells (yNz w.heap.size).toArray 90)).heap.size=w.heap.size+1+1:=by rw [World.size_alloc,hz]
 have hmade:=World.ownsMap_made (H:=Unit) w Tryz.prog 3 unitElem
 refine ⟨hB,⟨RowM.nil _ _,.inl ⟨rfl,rfl⟩,by simp [newF],by simp [newF]⟩,?_,⟨fun k hk=>⟨fun _=>rfl,rfl,rfl⟩,fun k i hk=>.inl rfl,fun k i hk=>?_,fun k k' i i' x _ _ h1 _=>by simp [zJh,Value.ownBlock] at h1,fun k hk=>zHg.nil,fun k hk=>by simp [newF]⟩,⟨rfl,rfl,Nat.zero_le _⟩,World.ownsRow_nil _ _ _ _,rfl,fun k b l hb=>by simp [zJh] at hb,World.ownsRow_nil _ _ _ _,rfl,fun i b t hb=>by simp [zJh] at hb,?_⟩
 ·refine .inr ⟨w.heap.size,.map [],rfl,hn,?_,fun x _=>by simp [Maps.has,newF]⟩
  obtain ⟨es,clock,h1,h2⟩:=hmade
  refine ⟨es,clock,?_,h2⟩
  rw [heap_alloc_old _ _ (by rw [hz];omega)];exact h1
 ·cases i <;> exact World.ownsRow_nil _ _ _ _
 ·refine ⟨by simp [zJh],fun k hk=>by simp [zJh,Value.ownBlock] at hk,fun k hk=>by simp [zJh,Value.ownBlock] at hk,fun k hk=>by simp [zJh,Value.ownBlock] at hk,by simp [zJh],fun k hk=>?_,fun b hb=>by simp [zJh] at hb,fun b hb=>by simp [zJh] at hb,fun b hb=>by simp [zJh] at hb,fun k hk=>?_,by simp [zJh],by simp [zJh],by simp [zJh]⟩
  ·rcases hk with hk | ⟨z,i,_,hk⟩
   ·simp [zJh] at hk
   ·simp [zJh,Value.ownBlock] at hk
  ·have:k=w.heap.size+1\/k=w.heap.size:=by
    simp only [zJh] at hk
    by_cases e1:k=w.heap.size+1
    ·exact .inl e1
    ·by_cases e2:k=w.heap.size
     ·exact .inr e2
     ·rw [if_neg e1,if_neg e2] at hk;exact absurd rfl hk
   rw [hsz]
   rcases this with e | e <;> omega
theorem yAk(nodes:Nat)(h4:nodes<=4):∀ m,0<=(newF nodes m).net.lost/\(newF nodes m).net.lost<=4*m
 | 0=>by simp [newF]
 | m+1=>by
  have ih:=yAk nodes h4 m
  have h1:=zFc (zBu m nodes).2 (newF nodes m).net
  have h2:(zBu m nodes).2.length<=(zCm m nodes).length:=zKn ⟨zCm m nodes,0⟩
  have h3:(zCm m nodes).length=nodes:=by simp [zCm]
  show 0<=(zFd (newF nodes m).net (zBu m nodes).2).lost/\(zFd (newF nodes m).net (zBu m nodes).2).lost<=_
  omega
theorem Tryz.infoLn:(Tryz.prog.info? 120).map (fun i=>(i.zero,i.size,i.bytes))=some (some (.pointer none),1,8):=by kernel_rfl
theorem ySx(n c shards nodes:Nat)(w:World)(h1:1<=shards/\shards<=4)(h2:1<=nodes/\nodes<=4)(hn:n<=w.heap.size) :
  Calls Tryz.prog 55 #[.int .i64 shards,.int .i64 nodes] w fun e w'=>∃ g y,e=.returned (.tuple #[.pointer (some ⟨g,0,none⟩),.nilIface])/\zAe w' n c g y (newH shards nodes)/\w.heap.size<=g/\Mod zAb w w'/\(∀ k,k<w.heap.size->y.own k=.no):=by
 obtain ⟨i0,hi,hz0,hz1,hz2⟩:=info_parts Tryz.infoLn
 have hmm:=@run_makeMap Tryz.prog
 obtain ⟨g,hg⟩:∃ g,g=w.heap.size+1:=⟨_,rfl⟩
 have hbare:=zAe.bare w n c nodes hn
 rw [<-hg] at hbare
 obtain ⟨w1,hw1⟩:∃ x,x=(w.alloc (.map #[] 0)).alloc (.cells #[.slice none 0 0,.map (some w.heap.size),.slice none 0 0,.int .i64 0,.map none,.map none,.slice none 0 0] 90):=⟨_,rfl⟩
 have hb1:zAe w1 n c g (zJh g w.heap.size) (newF nodes 0):=by rw [hw1];exact hbare
 have hm1:Mod zAb w w1:=by rw [hw1];exact ((Mod.refl _ w).alloc _).alloc _
 have hw1':w1=(w.alloc (.map #[] 0)).alloc (.cells #[.slice none 0 0,.map (some w.heap.size),.slice none 0 0,.int .i64 0,.map none,.map none,.slice none 0 0] 90):=hw1
 have HB1:=Hmq hb1
 have HM1:=Hmq hm1
 have HO1:Hid (∀ k,k<w.heap.size->(zJh g w.heap.size).own k=.no):=fun k hk=>by simp only [zJh];rw [if_neg (by omega),if_neg (by omega)]
 have hs1:decide ((shards:Int)<1)=false:=decide_eq_false (by omega)
 have hs4:decide ((shards:Int) > 4)=false:=decide_eq_false (by omega)
 have hn1:decide ((nodes:Int)<1)=false:=decide_eq_false (by omega)
 have hn4:decide ((nodes:Int) > 4)=false:=decide_eq_false (by omega)
 clear hbare hb1 hm1
 go_enter Tryz.func55,Tryz.ntmps55
 go_upto_region 4 with fail
 rw [<-hw1',<-hg]
 have HG:=Hmq hg
 clear hw1 hw1' hmm hg
 go_wp2_with fail
 go_loopw [30] (fun k0 wr=>∃ (k:Nat) (yr:HLay),k<=shards+1/\k0=.int .i64 k/\zAe wr n c g yr (newF nodes k)/\Mod zAb w wr/\∀ z,z<w.heap.size->yr.own z=.no) (fun k0 _=>shards+1 - (intOf k0).toNat)
 case atStart=>exact ⟨0,_,Nat.zero_le _,rfl,HB1.out,HM1.out,HO1.out⟩
 case round=>
  obtain ⟨k,yr,hkl,rfl,hH,hM,hO⟩:=hrel
  obtain ⟨wo,hwo⟩:∃ x,x=wr:=⟨_,rfl⟩
  subst hwo
  by_cases hlt:k<shards+1
  ·have hlz:=yAk nodes h2.2 k
   have hll:(newF nodes k).lines.length=k:=by rw [zMc];simp
   have HNL:=Hmq (yDm (yr.lo n) k nodes wo (by omega) h2.1 h2.2 (Nat.le_trans hn hM.size) (fun z hz=>ySz hH.own z hz))
   have hml:(zBu k nodes).2.length<=nodes:=by
    have q1:(zBu k nodes).2.length<=(zCm k nodes).length:=zKn ⟨zCm k nodes,0⟩
    have q2:(zCm k nodes).length=nodes:=by simp [zCm]
    omega
   have HNF:Hid (newF nodes (k+1)=zLb { newF nodes k with lines:=(newF nodes k).lines++[(zBu k nodes).1] } (zBu k nodes).2):=rfl
   have hkI:(k:Int)<(shards:Int)+1:=by omega
   have hk0:(0:Int)<=(k:Int):=by omega
   have hgl:=hH.blk.lt
   have HHo:=Hmq hH
   have HMo:=Hmq hM
   have HOo:=Hmq hO
   clear hH hM hO
   generalize newF nodes k=S at HHo HNF hlz hll
   go_upto_region 8 with (first
    | (go_at_call 97;refine HNL.out.mono ?_;rintro e w2 ⟨b,bs,nv,lf,rv,v,rfl,hMD⟩;obtain ⟨va,vc,hva⟩:=hMD.msg.slice;subst hva)
    | fail)
   have hH2:=HHo.out.quiet hMD.md
   obtain ⟨c0,-⟩:=blkH hH2.blk
   have f0:=hH2.blk.frozen 0
   have hg2:=hH2.blk.lt
   have hlow:=hH2.low
   obtain ⟨la,lcap,hlv⟩:=zAg hH2.lrow
   have hlen:=hH2.llen
   rw [hll] at hlen
   rw [hlv,hlen] at c0
   have hrow:w2.ownsRow n 120 1 (.slice la k lcap) k (yr.lbs.map ptrV):=by have:=hH2.lrow;rw [hlv,hlen] at this;exact this
   have hm2a:Mod zAb w2 (w2.alloc (.cells #[.pointer (some ⟨b,0,none⟩)] 120)):=(Mod.refl _ w2).alloc _
   obtain ⟨v7,w7,hrun7,hown7,hgrow7,_,hat7⟩:=run_append_own_at (P:=Tryz.prog) (w2.alloc (.cells #[.pointer (some ⟨b,0,none⟩)] 120)) n 80 80 120 i0 _ 1 8 Tryz.underlying80 hi hz0 hz1 hz2 rfl (by omega) _ _ _ (zAn hrow hm2a (fun _ _ _ _ e=>e)) ⟨w2.heap.size,0,none⟩ 1 1 [.pointer (some ⟨b,0,none⟩)] rfl (World.news_of_block (heap_alloc_new w2 _)) (by simp [Value.oneCell']) (by unfold maxLen;omega) (by omega) (by have:=hm2a.size;omega)
   obtain ⟨a7,cap7,hv7⟩:=zAg hown7
   subst hv7
   have hm27:Mod (fun z=>(Value.slice la k lcap).ownBlock=some z) w2 w7:=((Mod.refl _ w2).alloc _).grown hgrow7 (fun x hx _=>hx)
   have hnb:(Value.slice la k lcap).ownBlock≠some g:=zBf hrow hH2.blk (by decide)
   have c7:=hm27.cell c0 hnb
   have f7:=(hm27.frozen (p:=⟨g,0,none⟩) hg2 hnb).trans f0
   have hg7:=Nat.lt_of_lt_of_le hg2 hm27.size
   have hrl:∀ z,(Value.slice la k lcap).ownBlock=some z->z<wo.heap.size:=fun z hz=>(zAi HHo.out.lrow (by rw [hlv,HHo.out.llen,hll];exact hz)).2.1
   have HF:Hid (∃ y',zAe (w7.setCell ⟨g,0,none⟩ (.slice a7 (k+1) cap7)) n c g y' { S with lines:=S.lines++[(zBu k nodes).1] }/\Mod zAb w (w7.setCell ⟨g,0,none⟩ (.slice a7 (k+1) cap7))/\(∀ z,z<w.heap.size->y'.own z=.no)/\RowM (w7.setCell ⟨g,0,none⟩ (.slice a7 (k+1) cap7)) (y'.lo n) (.slice va (zBu k nodes).2.length vc) (zBu k nodes).2/\∀ z,(Value.slice va (zBu k nodes).2.length vc).ownBlock=some z->y'.own z=.no):=by
    have hms:Mod (zAd g) w7 (w7.setCell ⟨g,0,none⟩ (.slice a7 (k+1) cap7)):=Mod.setBlk g 0 _
    have hmL:Mod (fun z=>z=g\/(Value.slice la k lcap).ownBlock=some z) w2 (w7.setCell ⟨g,0,none⟩ (.slice a7 (k+1) cap7)):=(hm27.mono (fun z _ e=>.inr e)).trans (hms.mono (fun z _ e=>.inl e))
    have hyl:yr.lv=.slice la k lcap:=by rw [hlv,hlen]
    have hmA:Mod (fun z=>z=g\/yr.lv.ownBlock=some z) wo (w7.setCell ⟨g,0,none⟩ (.slice a7 (k+1) cap7)):=(hMD.md.mono (fun _ _ e=>e.elim)).trans (by rw [hyl];exact hmL)
    have hB7:Blk w7 g (zIh yr S.net.lost) 90:=hH2.blk.mod hm27 hnb
    have hne7:=zBf hown7 hB7 (by decide)
    have hzo:∀ z,(z=g\/(Value.slice la k lcap).ownBlock=some z)->z<wo.heap.size:=fun z e=>e.elim (fun e=>by rw [e];exact hgl) (hrl z)
    have hbn:=hMD.bn
    have hq:Qm w2 (yr.lo n) (fun z=>z=g\/(Value.slice la k lcap).ownBlock=some z):=fun z hz e=>by
     rintro (e1 | ⟨⟨cur,fr,e1⟩,_⟩)
     ·have h8:z<n:=e1
      rcases e with e | e
      ·omega
      ·have:=(zAi hrow e).1;omega
     ·rcases e with e | e
      ·subst e
       have:=hH2.blk
       unfold Blk at this
       rw [this] at e1;simp at e1
      ·obtain ⟨_,_,cur2,h2⟩:=zAi hrow e
       rw [h2] at e1;simp at e1
    have hrvn:∀ z,rv.ownBlock=some z->wo.heap.size<=z:=fun z hz=>(zAi hMD.row hz).1
    obtain ⟨y',r1,r2,r3,r4⟩:=HHo.out.addL (b:=b) (bs:=bs) (nv:=nv) (lf:=lf) (rv:=rv) (l:=(zBu k nodes).1) (lv:=.slice a7 (k+1) cap7) hmA (hB7.set 0 _) (by
      rw [show yr.lbs.length=k from hlen,List.map_append]
      exact zAn hown7 hms (fun z _ _ e q=>hne7 (by rw [e];exact congrArg some q))) (by
      rw [hyl]
      rcases hat7 with e | e
      ·exact .inl e
      ·exact .inr fun z hz=>by rw [e] at hz;simp only [Option.some.injEq] at hz;have:=hMD.md.size;have:=hm2a.size;omega) hMD.bn (hMD.blk.mod hmL (fun e=>by have:=hzo b e;omega)) (zEk (zAn hMD.row hmL (fun z hz _ e q=>by have:=hzo z q;have:=hrvn z e;omega)) (Nat.le_trans hn HMo.out.size)) hrvn (hMD.node.mod hmL hq (fun d hd z hz q=>by have:=hMD.new d hd z hz;have:=hzo z q;omega)) hMD.new
    refine ⟨y',r1,HMo.out.trans' r2.md (fun z hz e=>e (HOo.out z hz)),fun z hz=>by rw [r2.old z (Nat.lt_of_lt_of_le hz HMo.out.size)];exact HOo.out z hz,by rw [r3];exact hMD.msg.mod hmL hq (fun z hz q=>by have:=hMD.fresh z hz;have:=hzo z q;omega),fun z hz=>?_⟩
    obtain ⟨_,cur,hcur⟩:=(hMD.msg.mod hmL hq (fun z hz q=>by have:=hMD.fresh z hz;have:=hzo z q;omega)).block hz
    refine r4 z (hMD.fresh z hz) (fun e=>?_) (fun e=>?_) (fun e=>?_) (fun d hd q=>?_)
    ·obtain ⟨_,_,cur2,h2⟩:=zAi (zAn hown7 hms (fun z _ _ e q=>hne7 (by rw [e];exact congrArg some q))) e
     rw [hcur] at h2;simp at h2
    ·have h3:=hMD.blk.mod hmL (fun e=>by have:=hzo b e;omega)
     unfold Blk at h3
     rw [<-e,hcur] at h3;simp at h3
    ·obtain ⟨_,_,cur2,h2⟩:=zAi (zAn hMD.row hmL (fun z hz _ e q=>by have:=hzo z q;have:=hrvn z e;omega)) e
     rw [hcur] at h2;simp at h2
    ·exact hMD.node.row hMD.msg hd q hz
   clear hMD hH2 hrow hm2a hown7 hgrow7 hat7 hm27 hnb hlv HHo HMo HOo HNL hrl hlow hlen
   go_upto_region 9 with (first
    | (at_builtin;refine zRl rfl (zHr (s:=.tmp 43) (x:=.tmp 45) (t:=80) rfl (by go_simp) (by go_simp) hrun7) ?_)
    | fail)
   obtain ⟨y8,hH8,hM8,hO8,hR8,hno8⟩:=HF.out
   have HSE:=Hmq (zLl n c g y8 _ _ _ _ hH8 hR8 hno8 (by show S.net.lost+_<=_;omega))
   have HM8:=Hmq hM8
   have HO8:=Hmq hO8
   have hg8:=hH8.blk.lt
   clear hH8 hM8 hO8 hR8 hno8 HF c0 f0 c7 f7 hrun7
   go_wp2_with fail
   refine HSE.out.mono ?_
   rintro e w9 ⟨⟨x9,rfl⟩,y9,hH9,hK9⟩
   have HF9:Hid (zAe w9 n c g y9 (newF nodes (k+1))/\Mod zAb w w9/\∀ z,z<w.heap.size->y9.own z=.no):=⟨by rw [HNF.out];exact hH9,HM8.out.trans' hK9.st.md (fun z hz e=>e (HO8.out z hz)),fun z hz=>by rw [hK9.st.old z (Nat.lt_of_lt_of_le hz HM8.out.size)];exact HO8.out z hz⟩
   clear hH9 hK9 HSE
   go_wp2_with fail
   go_roundw
   case rel=>exact ⟨k+1,y9,by omega,by go_num,HF9.out.1,HF9.out.2.1,HF9.out.2.2⟩
   case measure=>simp [intOf];omega
  ·obtain rfl:k=shards+1:=by omega
   have HF:Hid (∃ g' y',Ending.returned (.tuple #[.pointer (some ⟨g,0,none⟩),.nilIface])=.returned (.tuple #[.pointer (some ⟨g',0,none⟩),.nilIface])/\zAe wo n c g' y' (newH shards nodes)/\w.heap.size<=g'/\Mod zAb w wo/\(∀ k,k<w.heap.size->y'.own k=.no)):=⟨g,yr,rfl,hH,by have:=HG.out;omega,hM,hO⟩
   have hkd:decide (((shards+1:Nat):Int)<(shards:Int)+1)=false:=decide_eq_false (by omega)
   clear hH hM hO
   go_wp2_with fail
   go_ret2
   exact HF.out
theorem yOi(n c g:Nat)(y:HLay)(s:zAa)(w:World)(h:zAe w n c g y s)(hS:Safe s) :
  Calls Tryz.prog 39 #[.pointer (some ⟨g,0,none⟩)] w fun e w'=>e=.returned (.bool (zTo s))/\Mod zAb w w':=by
 obtain ⟨c0,-⟩:=blkH h.blk
 obtain ⟨la,lcap,hlv⟩:=zAg h.lrow
 have hll:=hS.ll
 have hlen:=h.llen
 rw [hlv,hlen] at c0
 have HH:=Hmq h
 have HS:=Hmq hS
 clear h hS hlv
 go_enter Tryz.func39,Tryz.ntmps39
 go_wp2_with fail
 go_loopw [9] (fun k0 wr=>∃ (k:Nat),k<=s.lines.length/\k0=.int .i64 k/\(∀ i,i<k->zAk s i≠[])/\Mod zAb w wr) (fun k0 _=>s.lines.length - (intOf k0).toNat)
 case atStart=>exact ⟨0,Nat.zero_le _,rfl,fun i hi=>by omega,Mod.refl _ _⟩
 case round=>
  obtain ⟨k,hkl,rfl,hne,hM⟩:=hrel
  obtain ⟨wo,hwo⟩:∃ x,x=wr:=⟨_,rfl⟩
  subst hwo
  by_cases hlt:k<s.lines.length
  ·have hH:=HH.out.quiet hM
   obtain ⟨b,hb,hL⟩:=hH.lineQ hlt
   have HLI:=Hmq (zNi n c g y s k b wo hH HS.out.shape hlt hb)
   have hkI:(k:Int)<(s.lines.length:Int):=by omega
   have hk0:(0:Int)<=(k:Int):=by omega
   have HM:=Hmq hM
   have HNE:=Hmq hne
   have HLL:=Hmq (zMf s k)
   clear hH hL hb hM hne
   by_cases hz:zAk s k=[]
   ·have hz0:(((zBl s k).length:Int) == 0)=true:=by rw [HLL.out,hz];rfl
    have HA:Hid (zTo s=false):=by
     unfold Hid zTo
     rw [List.all_eq_false]
     exact ⟨k,List.mem_range.2 hlt,by rw [hz];simp⟩
    clear hz
    go_wp2_with fail
    refine HLI.out.mono ?_
    rintro e w1 ⟨v,rfl,hv,hm1⟩
    have hvv:∃ va vc,v=.slice va (zBl s k).length vc:=by obtain ⟨va,vc,e,_⟩:=hv;exact ⟨va,vc,e⟩
    obtain ⟨va,vc,hva⟩:=hvv
    subst hva
    have HM1:=Hmq (HM.out.trans hm1)
    clear hv hm1 HLI
    go_wp2_with fail
    go_ret
    exact ⟨by rw [HA.out];rfl,HM1.out⟩
   ·have hz0:(((zBl s k).length:Int) == 0)=false:=by
     have:(zBl s k).length≠0:=fun e=>hz (List.eq_nil_of_length_eq_zero (by rw [<-HLL.out];exact e))
     have h3:((zBl s k).length:Int)≠0:=by omega
     simpa using h3
    have HN2:Hid (∀ i,i<k+1->zAk s i≠[]):=fun i hi=>by
     by_cases e:i=k
     ·rw [e];exact hz
     ·exact HNE.out i (by omega)
    clear hz
    go_wp2_with fail
    refine HLI.out.mono ?_
    rintro e w1 ⟨v,rfl,hv,hm1⟩
    have hvv:∃ va vc,v=.slice va (zBl s k).length vc:=by obtain ⟨va,vc,e,_⟩:=hv;exact ⟨va,vc,e⟩
    obtain ⟨va,vc,hva⟩:=hvv
    subst hva
    have HM1:=Hmq (HM.out.trans hm1)
    clear hv hm1 HLI
    go_wp2_with fail
    go_roundw
    case rel=>exact ⟨k+1,by omega,by go_num,HN2.out,HM1.out⟩
    case measure=>simp [intOf];omega
  ·obtain rfl:k=s.lines.length:=by omega
   have HA:Hid (zTo s=true):=by
    unfold Hid zTo
    rw [List.all_eq_true]
    intro i hi
    have:=hne i (List.mem_range.1 hi)
    simpa using this
   have HM:=Hmq hM
   clear hM hne
   go_wp2_with fail
   go_ret
   exact ⟨by rw [HA.out];rfl,HM.out⟩
end Go.Proofs.YtogaigioeohjaaaGreatDoor
namespace Go.Proofs.YtogaigioeohjaaaGreatDoor
open Go.RowKit Go.Lib Go.Maps Go.Shelf
attribute [local go_sem] Oper.semAt_some
theorem yCd{α:Type}(us:List α)(q:Nat)(hq:q<us.length):us.zipIdx.reverse=(us.zipIdx.drop (q+1)).reverse++(us[q],q) :: (us.zipIdx.take q).reverse/\(us.zipIdx.drop (q+1)).reverse++[(us[q],q)]=(us.zipIdx.drop q).reverse:=by
 have h:us.zipIdx.drop q=(us[q],q) :: us.zipIdx.drop (q+1):=by
  rw [List.drop_eq_getElem_cons (by simpa using hq)]
  simp
 refine ⟨?_,by rw [h];simp⟩
 have e:=(List.take_append_drop q us.zipIdx).symm
 rw [h] at e
 exact (congrArg List.reverse e).trans (by simp)
def encP(x:zAz × Nat):Array Value:=#[.int .i64 (x.2:Int),.agg #[.string x.1.key,.string x.1.val,.bool x.1.gone]]
theorem yOa(n:Nat)(l Bs rb off cap:Nat)(X:Nat->Prop)(us:List (zAz))(hlen:us.length<=1000000)(J:List (zAz × Nat)->World->Prop)(Jx:World->Prop)
  (hY:yCj (n - 1) Tryz.prog l encP X (us.zipIdx.reverse) J Jx)
  (W:World) (hX1:¬ X Bs) (hX2:¬ X rb) (hBs:W.cell? ⟨Bs,0,none⟩=some (.slice (some ⟨rb,off,none⟩) us.length cap)) (hc:∀ j (hj:j<us.length),W.cell? ⟨rb,off+j*3,none⟩=some (.string us[j].key)/\W.cell? ⟨rb,off+j*3+1,none⟩=some (.string us[j].val)/\W.cell? ⟨rb,off+j*3+2,none⟩=some (.bool us[j].gone)) (h0:J [] W) :
  CallsIn Fence.wide n Tryz.prog 245 #[.func (.yield l) #[] #[],.pointer (some ⟨Bs,0,none⟩)] W fun e B=>(∃ v,e=.returned v)/\Mod X W B/\(J (us.zipIdx.reverse) B\/Jx B):=by
 refine callsIn_of_wp Tryz.func245 rfl trivial ?_ rfl
 simp only [Tryz.ntmps245,List.size_toArray,List.length_cons,List.length_nil,Nat.reduceAdd,Nat.reduceSub,Array.replicate_succ,Array.replicate_zero,List.push_toArray,List.append_toArray,List.nil_append,List.cons_append]
 gi_wp2
 gi_loopw [3] (fun i wr=>∃ q:Nat,q<=us.length/\i=.int .i64 ((q:Int) - 1)/\J ((us.zipIdx.drop q).reverse) wr/\Mod X W wr) (fun i _=>(intOf i+1).toNat)
 case atStart=>exact ⟨us.length,Nat.le_refl _,rfl,by rw [List.drop_eq_nil_of_le (by simp)];exact h0,Mod.refl _ _⟩
 case round=>
  obtain ⟨q,hq,rfl,hJs,hkp⟩:=hrel
  cases q with
  | zero=>
   gi_wp2
   go_end0
   exact ⟨⟨_,rfl⟩,hkp,.inl hJs⟩
  | succ q=>
   have hql:q<us.length:=by omega
   have hi:((q+1:Nat):Int) - 1=(q:Int):=by omega
   rw [hi]
   have hqI:(q:Int)<(us.length:Int):=by omega
   have hq0:(0:Int)<=(q:Int):=by omega
   have hqd:decide ((q:Int) ≥ 0)=true:=decide_eq_true (by omega)
   obtain ⟨c0,c1,c2⟩:=hc q hql
   have c0':=hkp.cell c0 hX2
   have c1':=hkp.cell c1 hX2
   have c2':=hkp.cell c2 hX2
   have hb':=hkp.cell hBs hX1
   obtain ⟨u,hu⟩:∃ u,u=us[q]:=⟨_,rfl⟩
   obtain ⟨hx,hnx⟩:=yCd us q hql
   rw [<-hu] at hx hnx
   obtain ⟨fn,tmps,assign,body,hy,hR⟩:=hY _ _ _ wr hx hJs
   rw [hnx] at hR
   dsimp only [encP] at hy
   rw [<-hu] at c0' c1' c2'
   clear hu hx hnx c0 c1 c2
   gi_wp2
   refine ⟨fun e=>by simp [Fence.wide] at e,hR.mono ?_⟩
   rintro e W3 ⟨hm3,⟨rfl,hJ3⟩ | ⟨rfl,hJx3⟩⟩
   ·gi_wp2
    go_roundw
    case rel=>exact ⟨q,by omega,rfl,hJ3,hkp.trans hm3⟩
    case measure=>simp [intOf]
   ·gi_wp2
    refine bodyPost_ret (results_none rfl _ _ _) rfl ?_
    exact ⟨⟨_,rfl⟩,hkp.trans hm3,.inr hJx3⟩
theorem yJk(n:Nat)(l Bs cap:Nat)(a:Option Addr)(J:World->Prop)(W:World)(hBs:W.cell? ⟨Bs,0,none⟩=some (.slice a 0 cap))(h0:J W) :
  CallsIn Fence.wide n Tryz.prog 245 #[.func (.yield l) #[] #[],.pointer (some ⟨Bs,0,none⟩)] W fun e B=>(∃ v,e=.returned v)/\B=W:=by
 refine callsIn_of_wp Tryz.func245 rfl trivial ?_ rfl
 simp only [Tryz.ntmps245,List.size_toArray,List.length_cons,List.length_nil,Nat.reduceAdd,Nat.reduceSub,Array.replicate_succ,Array.replicate_zero,List.push_toArray,List.append_toArray,List.nil_append,List.cons_append]
 gi_wp2
 gi_loopw [3] (fun i wr=>i=.int .i64 (-1)/\wr=W) (fun _ _=>0)
 case atStart=>exact ⟨rfl,rfl⟩
 case round=>
  obtain ⟨rfl,rfl⟩:=hrel
  gi_wp2
  go_end0
  exact ⟨⟨_,rfl⟩,rfl⟩
theorem yGi(l:Option Nat)(n:Nat)(a:Option Addr)(len cap:Nat)(w:World) :
  CallsIn Fence.wide n Tryz.prog 205 #[.slice a len cap] w fun e w'=>e=.returned (.func (.func 245) #[] #[.pointer (some ⟨w.heap.size,0,none⟩)])/\w'=w.alloc (.cells #[.slice a len cap] 95):=by
 refine callsIn_of_wp Tryz.func205 rfl trivial ?_ rfl
 simp only [Tryz.ntmps205,List.size_toArray,List.length_cons,List.length_nil,Nat.reduceAdd,Nat.reduceSub,Array.replicate_succ,Array.replicate_zero,List.push_toArray,List.append_toArray,List.nil_append,List.cons_append]
 gi_wp2
 go_ret
 exact ⟨rfl,rfl⟩
theorem zWl(n:Nat)(Bs:Nat)(v:Value)(us:List (zAz))(hlen:us.length<=1000000)(w:World)(hc:w.cell? ⟨Bs,0,none⟩=some v)(hs:SlR w w.heap.size 3 zXn v us) :
  Iter n Tryz.prog 245 #[.pointer (some ⟨Bs,0,none⟩)] encP (fun k=>k=Bs\/(us≠[]/\v.ownBlock=some k)) (us.zipIdx.reverse) w:=fun l X J Jx W hW hX _ _ hY h0=>by
 have hc':=hW.cell hc id
 obtain ⟨a,cap,rfl,-,-,h4⟩:=hs.mod hW (fun _ _=>id) (fun _ _ e=>e)
 have h5:us=[]\/(us≠[]/\∃ b off,a=some ⟨b,off,none⟩/\∀ (i:Nat) d,us[i]?=some d->∃ cs,zXn d cs/\cs.length=3/\∀ (j:Nat) x,cs[j]?=some x->W.cell? ⟨b,off+i*3+j,none⟩=some x):=by
  by_cases hne:us=[]
  ·exact .inl hne
  ·exact .inr ⟨hne,h4.elim (fun e=>absurd e hne) (fun ⟨b,off,e1,_,e3⟩=>⟨b,off,e1,e3⟩)⟩
 rcases h5 with rfl | ⟨hne,b,off,rfl,hcs⟩
 ·refine (yJk n l Bs cap a (fun _=>True) W hc' trivial).mono ?_
  rintro e B ⟨he,rfl⟩
  exact ⟨he,Mod.refl _ _,.inl h0⟩
 ·refine yOa n l Bs b off cap X us hlen J Jx hY W (fun e=>(hX _ e).2 (.inl rfl)) (fun e=>(hX _ e).2 (.inr ⟨hne,rfl⟩)) hc' (fun j hj=>?_) h0
  obtain ⟨cs,rfl,-,h⟩:=hcs j us[j] (List.getElem?_eq_getElem hj)
  exact ⟨by simpa using h 0 _ rfl,by simpa using h 1 _ rfl,by simpa using h 2 _ rfl⟩
attribute [local go_sem] Oper.semAt_some
def encC(x:(CmdD × Value) × Nat):Array Value:=#[.int .i64 (x.2:Int),.agg #[.int .i64 x.1.1.kind,.int .i64 x.1.1.tx,.int .i64 x.1.1.time,x.1.2]]
theorem yOb(n:Nat)(l Bs rb off cap:Nat)(X:Nat->Prop)(us:List ((CmdD × Value)))(hlen:us.length<=1000000)(J:List ((CmdD × Value) × Nat)->World->Prop)(Jx:World->Prop)
  (hY:yCj (n - 1) Tryz.prog l encC X (us.zipIdx.reverse) J Jx)
  (W:World) (hX1:¬ X Bs) (hX2:¬ X rb) (hBs:W.cell? ⟨Bs,0,none⟩=some (.slice (some ⟨rb,off,none⟩) us.length cap)) (hc:∀ j (hj:j<us.length),W.cell? ⟨rb,off+j*4,none⟩=some (.int .i64 us[j].1.kind)/\W.cell? ⟨rb,off+j*4+1,none⟩=some (.int .i64 us[j].1.tx)/\W.cell? ⟨rb,off+j*4+2,none⟩=some (.int .i64 us[j].1.time)/\W.cell? ⟨rb,off+j*4+3,none⟩=some (us[j].2)) (h0:J [] W) :
  CallsIn Fence.wide n Tryz.prog 264 #[.func (.yield l) #[] #[],.pointer (some ⟨Bs,0,none⟩)] W fun e B=>(∃ v,e=.returned v)/\Mod X W B/\(J (us.zipIdx.reverse) B\/Jx B):=by
 refine callsIn_of_wp Tryz.func264 rfl trivial ?_ rfl
 simp only [Tryz.ntmps264,List.size_toArray,List.length_cons,List.length_nil,Nat.reduceAdd,Nat.reduceSub,Array.replicate_succ,Array.replicate_zero,List.push_toArray,List.append_toArray,List.nil_append,List.cons_append]
 gi_wp2
 gi_loopw [3] (fun i wr=>∃ q:Nat,q<=us.length/\i=.int .i64 ((q:Int) - 1)/\J ((us.zipIdx.drop q).reverse) wr/\Mod X W wr) (fun i _=>(intOf i+1).toNat)
 case atStart=>exact ⟨us.length,Nat.le_refl _,rfl,by rw [List.drop_eq_nil_of_le (by simp)];exact h0,Mod.refl _ _⟩
 case round=>
  obtain ⟨q,hq,rfl,hJs,hkp⟩:=hrel
  cases q with
  | zero=>
   gi_wp2
   go_end0
   exact ⟨⟨_,rfl⟩,hkp,.inl hJs⟩
  | succ q=>
   have hql:q<us.length:=by omega
   have hi:((q+1:Nat):Int) - 1=(q:Int):=by omega
   rw [hi]
   have hqI:(q:Int)<(us.length:Int):=by omega
   have hq0:(0:Int)<=(q:Int):=by omega
   have hqd:decide ((q:Int) ≥ 0)=true:=decide_eq_true (by omega)
   obtain ⟨c0,c1,c2,c3⟩:=hc q hql
   have c0':=hkp.cell c0 hX2
   have c1':=hkp.cell c1 hX2
   have c2':=hkp.cell c2 hX2
   have c3':=hkp.cell c3 hX2
   have hb':=hkp.cell hBs hX1
   obtain ⟨u,hu⟩:∃ u,u=us[q]:=⟨_,rfl⟩
   obtain ⟨hx,hnx⟩:=yCd us q hql
   rw [<-hu] at hx hnx
   obtain ⟨fn,tmps,assign,body,hy,hR⟩:=hY _ _ _ wr hx hJs
   rw [hnx] at hR
   dsimp only [encC] at hy
   rw [<-hu] at c0' c1' c2' c3'
   clear hu hx hnx c0 c1 c2 c3
   gi_wp2
   refine ⟨fun e=>by simp [Fence.wide] at e,hR.mono ?_⟩
   rintro e W3 ⟨hm3,⟨rfl,hJ3⟩ | ⟨rfl,hJx3⟩⟩
   ·gi_wp2
    go_roundw
    case rel=>exact ⟨q,by omega,rfl,hJ3,hkp.trans hm3⟩
    case measure=>simp [intOf]
   ·gi_wp2
    refine bodyPost_ret (results_none rfl _ _ _) rfl ?_
    exact ⟨⟨_,rfl⟩,hkp.trans hm3,.inr hJx3⟩
theorem yJl(n:Nat)(l Bs cap:Nat)(a:Option Addr)(J:World->Prop)(W:World)(hBs:W.cell? ⟨Bs,0,none⟩=some (.slice a 0 cap))(h0:J W) :
  CallsIn Fence.wide n Tryz.prog 264 #[.func (.yield l) #[] #[],.pointer (some ⟨Bs,0,none⟩)] W fun e B=>(∃ v,e=.returned v)/\B=W:=by
 refine callsIn_of_wp Tryz.func264 rfl trivial ?_ rfl
 simp only [Tryz.ntmps264,List.size_toArray,List.length_cons,List.length_nil,Nat.reduceAdd,Nat.reduceSub,Array.replicate_succ,Array.replicate_zero,List.push_toArray,List.append_toArray,List.nil_append,List.cons_append]
 gi_wp2
 gi_loopw [3] (fun i wr=>i=.int .i64 (-1)/\wr=W) (fun _ _=>0)
 case atStart=>exact ⟨rfl,rfl⟩
 case round=>
  obtain ⟨rfl,rfl⟩:=hrel
  gi_wp2
  go_end0
  exact ⟨⟨_,rfl⟩,rfl⟩
theorem yRw(l:Option Nat)(n:Nat)(a:Option Addr)(len cap:Nat)(w:World) :
  CallsIn Fence.wide n Tryz.prog 247 #[.slice a len cap] w fun e w'=>e=.returned (.func (.func 264) #[] #[.pointer (some ⟨w.heap.size,0,none⟩)])/\w'=w.alloc (.cells #[.slice a len cap] 126):=by
 refine callsIn_of_wp Tryz.func247 rfl trivial ?_ rfl
 simp only [Tryz.ntmps247,List.size_toArray,List.length_cons,List.length_nil,Nat.reduceAdd,Nat.reduceSub,Array.replicate_succ,Array.replicate_zero,List.push_toArray,List.append_toArray,List.nil_append,List.cons_append]
 gi_wp2
 go_ret
 exact ⟨rfl,rfl⟩
theorem yJj(n:Nat)(Bs:Nat)(v:Value)(us:List ((CmdD × Value)))(hlen:us.length<=1000000)(w:World)(hc:w.cell? ⟨Bs,0,none⟩=some v)(hs:SlR w w.heap.size 4 zZt v us) :
  Iter n Tryz.prog 264 #[.pointer (some ⟨Bs,0,none⟩)] encC (fun k=>k=Bs\/(us≠[]/\v.ownBlock=some k)) (us.zipIdx.reverse) w:=fun l X J Jx W hW hX _ _ hY h0=>by
 have hc':=hW.cell hc id
 obtain ⟨a,cap,rfl,-,-,h4⟩:=hs.mod hW (fun _ _=>id) (fun _ _ e=>e)
 have h5:us=[]\/(us≠[]/\∃ b off,a=some ⟨b,off,none⟩/\∀ (i:Nat) d,us[i]?=some d->∃ cs,zZt d cs/\cs.length=4/\∀ (j:Nat) x,cs[j]?=some x->W.cell? ⟨b,off+i*4+j,none⟩=some x):=by
  by_cases hne:us=[]
  ·exact .inl hne
  ·exact .inr ⟨hne,h4.elim (fun e=>absurd e hne) (fun ⟨b,off,e1,_,e3⟩=>⟨b,off,e1,e3⟩)⟩
 rcases h5 with rfl | ⟨hne,b,off,rfl,hcs⟩
 ·refine (yJl n l Bs cap a (fun _=>True) W hc' trivial).mono ?_
  rintro e B ⟨he,rfl⟩
  exact ⟨he,Mod.refl _ _,.inl h0⟩
 ·refine yOb n l Bs b off cap X us hlen J Jx hY W (fun e=>(hX _ e).2 (.inl rfl)) (fun e=>(hX _ e).2 (.inr ⟨hne,rfl⟩)) hc' (fun j hj=>?_) h0
  obtain ⟨cs,rfl,-,h⟩:=hcs j us[j] (List.getElem?_eq_getElem hj)
  exact ⟨by simpa using h 0 _ rfl,by simpa using h 1 _ rfl,by simpa using h 2 _ rfl,by simpa using h 3 _ rfl⟩
end Go.Proofs.YtogaigioeohjaaaGreatDoor
