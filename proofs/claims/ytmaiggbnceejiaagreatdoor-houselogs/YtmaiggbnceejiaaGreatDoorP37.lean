import Derived.Test.YtmaiggbnceejiaaGreatDoorP36
import Derived.StillTailTactics
set_option linter.unusedVariables false
set_option maxRecDepth 100000
set_option maxHeartbeats 16000000
namespace Go.Proofs.YtmaiggbnceejiaaGreatDoor
open Go.RowKit Go.Lib Go.Maps
def yLs(d:Nat):List Value:=[.slice none 0 0,.map (some d),.slice none 0 0,.int .i64 0,.map none,.map none,.slice none 0 0]
def zJg(g d:Nat):HLay:=⟨.slice none 0 0,d,.slice none 0 0,none,.slice none 0 0,[],fun _=>.slice none 0 0,fun _=>[],fun _=>.slice none 0 0,fun _=>.slice none 0 0,[],fun _=>.slice none 0 0,fun _=>.slice none 0 0,⟨g,[],[],84,none,0,fun _ _=>.slice none 0 0⟩,fun x=>if x=g then .main else if x=d then .dead else .no⟩
theorem zAd.bare(w:World)(n c nodes:Nat)(hn:n<=w.heap.size):zAd ((w.alloc (.map #[] 0)).alloc (.cells (yLs w.heap.size).toArray 84)) n c (w.heap.size+1) (zJg (w.heap.size+1) w.heap.size) (newF nodes 0):=by
 have hz:(w.alloc (.map #[] 0)).heap.size=w.heap.size+1:=World.size_alloc _ _
 have hB:Blk ((w.alloc (.map #[] 0)).alloc (.cells (yLs w.heap.size).toArray 84)) (w.heap.size+1) (yLs w.heap.size) 84:=by
  have:=Blk.new (w.alloc (.map #[] 0)) (yLs w.heap.size) 84
  rw [hz] at this;exact this
 have hsz:((w.alloc (.map #[] 0)).alloc (.cells (yLs w.heap.size).toArray 84)).heap.size=w.heap.size+1+1:=by rw [World.size_alloc,hz]
 have hmade:=World.ownsMap_made (H:=Unit) w Tryz.prog 3 unitElem
 refine ⟨hB,⟨RowM.nil _ _,.inl ⟨rfl,rfl⟩,by simp [newF],by simp [newF]⟩,?_,⟨fun k hk=>⟨fun _=>rfl,rfl,rfl⟩,fun k i hk=>.inl rfl,fun k i hk=>?_,fun k k' i i' x _ _ h1 _=>by simp [zJg,Value.ownBlock] at h1,fun k hk=>zGz.nil,fun k hk=>by simp [newF]⟩,⟨rfl,rfl,Nat.zero_le _⟩,World.ownsRow_nil _ _ _ _,rfl,fun k b l hb=>by simp [zJg] at hb,World.ownsRow_nil _ _ _ _,rfl,fun i b t hb=>by simp [zJg] at hb,?_⟩
 ·refine .inr ⟨w.heap.size,.map [],rfl,hn,?_,fun x _=>by simp [Maps.has,newF]⟩
  obtain ⟨es,clock,h1,h2⟩:=hmade
  refine ⟨es,clock,?_,h2⟩
  rw [heap_alloc_old _ _ (by rw [hz];omega)];exact h1
 ·cases i <;> exact World.ownsRow_nil _ _ _ _
 ·refine ⟨by simp [zJg],fun k hk=>by simp [zJg,Value.ownBlock] at hk,fun k hk=>by simp [zJg,Value.ownBlock] at hk,fun k hk=>by simp [zJg,Value.ownBlock] at hk,by simp [zJg],fun k hk=>?_,fun b hb=>by simp [zJg] at hb,fun b hb=>by simp [zJg] at hb,fun b hb=>by simp [zJg] at hb,fun k hk=>?_,by simp [zJg],by simp [zJg],by simp [zJg]⟩
  ·rcases hk with hk | ⟨z,i,_,hk⟩
   ·simp [zJg] at hk
   ·simp [zJg,Value.ownBlock] at hk
  ·have:k=w.heap.size+1\/k=w.heap.size:=by
    simp only [zJg] at hk
    by_cases e1:k=w.heap.size+1
    ·exact .inl e1
    ·by_cases e2:k=w.heap.size
     ·exact .inr e2
     ·rw [if_neg e1,if_neg e2] at hk;exact absurd rfl hk
   rw [hsz]
   rcases this with e | e <;> omega
theorem zZo(nodes:Nat)(h4:nodes<=4):∀ m,0<=(newF nodes m).net.lost/\(newF nodes m).net.lost<=4*m
 | 0=>by simp [newF]
 | m+1=>by
  have ih:=zZo nodes h4 m
  have h1:=zEt (zBs m nodes).2 (newF nodes m).net
  have h2:(zBs m nodes).2.length<=(zCj m nodes).length:=zKn ⟨zCj m nodes,0⟩
  have h3:(zCj m nodes).length=nodes:=by simp [zCj]
  show 0<=(zEz (newF nodes m).net (zBs m nodes).2).lost/\(zEz (newF nodes m).net (zBs m nodes).2).lost<=_
  omega
theorem Tryz.infoLn:(Tryz.prog.info? 102).map (fun i=>(i.zero,i.size,i.bytes))=some (some (.pointer none),1,8):=by kernel_rfl
theorem yJx(n c shards nodes:Nat)(w:World)(h1:1<=shards/\shards<=4)(h2:1<=nodes/\nodes<=4)(hn:n<=w.heap.size) :
  Calls Tryz.prog 19 #[.int .i64 shards,.int .i64 nodes] w fun e w'=>∃ g y,e=.returned (.tuple #[.pointer (some ⟨g,0,none⟩),.nilIface])/\zAd w' n c g y (newH shards nodes)/\w.heap.size<=g/\Mod zAb w w'/\(∀ k,k<w.heap.size->y.own k=.no):=by
 obtain ⟨i0,hi,hz0,hz1,hz2⟩:=info_parts Tryz.infoLn
 have hmm:=@run_makeMap Tryz.prog
 obtain ⟨g,hg⟩:∃ g,g=w.heap.size+1:=⟨_,rfl⟩
 have hbare:=zAd.bare w n c nodes hn
 rw [<-hg] at hbare
 obtain ⟨w1,hw1⟩:∃ x,x=(w.alloc (.map #[] 0)).alloc (.cells #[.slice none 0 0,.map (some w.heap.size),.slice none 0 0,.int .i64 0,.map none,.map none,.slice none 0 0] 84):=⟨_,rfl⟩
 have hb1:zAd w1 n c g (zJg g w.heap.size) (newF nodes 0):=by rw [hw1];exact hbare
 have hm1:Mod zAb w w1:=by rw [hw1];exact ((Mod.refl _ w).alloc _).alloc _
 have hw1':w1=(w.alloc (.map #[] 0)).alloc (.cells #[.slice none 0 0,.map (some w.heap.size),.slice none 0 0,.int .i64 0,.map none,.map none,.slice none 0 0] 84):=hw1
 have HB1:=Hmq hb1
 have HM1:=Hmq hm1
 have HO1:Hid (∀ k,k<w.heap.size->(zJg g w.heap.size).own k=.no):=fun k hk=>by simp only [zJg];rw [if_neg (by omega),if_neg (by omega)]
 have hs1:decide ((shards:Int)<1)=false:=decide_eq_false (by omega)
 have hs4:decide ((shards:Int) > 4)=false:=decide_eq_false (by omega)
 have hn1:decide ((nodes:Int)<1)=false:=decide_eq_false (by omega)
 have hn4:decide ((nodes:Int) > 4)=false:=decide_eq_false (by omega)
 clear hbare hb1 hm1
 go_enter Tryz.func19,Tryz.ntmps19
 go_upto_region 4 with fail
 rw [<-hw1',<-hg]
 have HG:=Hmq hg
 clear hw1 hw1' hmm hg
 go_wp2_with fail
 go_loopw [30] (fun k0 wr=>∃ (k:Nat) (yr:HLay),k<=shards+1/\k0=.int .i64 k/\zAd wr n c g yr (newF nodes k)/\Mod zAb w wr/\∀ z,z<w.heap.size->yr.own z=.no) (fun k0 _=>shards+1 - (intOf k0).toNat)
 case atStart=>exact ⟨0,_,Nat.zero_le _,rfl,HB1.out,HM1.out,HO1.out⟩
 case round=>
  obtain ⟨k,yr,hkl,rfl,hH,hM,hO⟩:=hrel
  obtain ⟨wo,hwo⟩:∃ x,x=wr:=⟨_,rfl⟩
  subst hwo
  by_cases hlt:k<shards+1
  ·have hlz:=zZo nodes h2.2 k
   have hll:(newF nodes k).lines.length=k:=by rw [zMf];simp
   have HNL:=Hmq (yCp (yr.lo n) k nodes wo (by omega) h2.1 h2.2 (Nat.le_trans hn hM.size) (fun z hz=>yQg hH.own z hz))
   have hml:(zBs k nodes).2.length<=nodes:=by
    have q1:(zBs k nodes).2.length<=(zCj k nodes).length:=zKn ⟨zCj k nodes,0⟩
    have q2:(zCj k nodes).length=nodes:=by simp [zCj]
    omega
   have HNF:Hid (newF nodes (k+1)=zMt { newF nodes k with lines:=(newF nodes k).lines++[(zBs k nodes).1] } (zBs k nodes).2):=rfl
   have hkI:(k:Int)<(shards:Int)+1:=by omega
   have hk0:(0:Int)<=(k:Int):=by omega
   have hgl:=hH.blk.lt
   have HHo:=Hmq hH
   have HMo:=Hmq hM
   have HOo:=Hmq hO
   clear hH hM hO
   generalize newF nodes k=S at HHo HNF hlz hll
   go_upto_region 8 with (first
    | (go_at_call 47;refine HNL.out.mono ?_;rintro e w2 ⟨b,bs,nv,lf,rv,v,rfl,hMD⟩;obtain ⟨va,vc,hva⟩:=hMD.msg.slice;subst hva)
    | fail)
   have hH2:=HHo.out.quiet hMD.md
   obtain ⟨c0,-⟩:=blkH hH2.blk
   have f0:=hH2.blk.frozen 0
   have hg2:=hH2.blk.lt
   have hlow:=hH2.low
   obtain ⟨la,lcap,hlv⟩:=zAf hH2.lrow
   have hlen:=hH2.llen
   rw [hll] at hlen
   rw [hlv,hlen] at c0
   have hrow:w2.ownsRow n 102 1 (.slice la k lcap) k (yr.lbs.map ptrV):=by have:=hH2.lrow;rw [hlv,hlen] at this;exact this
   have hm2a:Mod zAb w2 (w2.alloc (.cells #[.pointer (some ⟨b,0,none⟩)] 102)):=(Mod.refl _ w2).alloc _
   obtain ⟨v7,w7,hrun7,hown7,hgrow7,_,hat7⟩:=run_append_own_at (P:=Tryz.prog) (w2.alloc (.cells #[.pointer (some ⟨b,0,none⟩)] 102)) n 74 74 102 i0 _ 1 8 Tryz.underlying74 hi hz0 hz1 hz2 rfl (by omega) _ _ _ (zAm hrow hm2a (fun _ _ _ _ e=>e)) ⟨w2.heap.size,0,none⟩ 1 1 [.pointer (some ⟨b,0,none⟩)] rfl (World.news_of_block (heap_alloc_new w2 _)) (by simp [Value.oneCell']) (by unfold maxLen;omega) (by omega) (by have:=hm2a.size;omega)
   obtain ⟨a7,cap7,hv7⟩:=zAf hown7
   subst hv7
   have hm27:Mod (fun z=>(Value.slice la k lcap).ownBlock=some z) w2 w7:=((Mod.refl _ w2).alloc _).grown hgrow7 (fun x hx _=>hx)
   have hnb:(Value.slice la k lcap).ownBlock≠some g:=zAy hrow hH2.blk (by decide)
   have c7:=hm27.cell c0 hnb
   have f7:=(hm27.frozen (p:=⟨g,0,none⟩) hg2 hnb).trans f0
   have hg7:=Nat.lt_of_lt_of_le hg2 hm27.size
   have hrl:∀ z,(Value.slice la k lcap).ownBlock=some z->z<wo.heap.size:=fun z hz=>(zAh HHo.out.lrow (by rw [hlv,HHo.out.llen,hll];exact hz)).2.1
   have HF:Hid (∃ y',zAd (w7.setCell ⟨g,0,none⟩ (.slice a7 (k+1) cap7)) n c g y' { S with lines:=S.lines++[(zBs k nodes).1] }/\Mod zAb w (w7.setCell ⟨g,0,none⟩ (.slice a7 (k+1) cap7))/\(∀ z,z<w.heap.size->y'.own z=.no)/\RowM (w7.setCell ⟨g,0,none⟩ (.slice a7 (k+1) cap7)) (y'.lo n) (.slice va (zBs k nodes).2.length vc) (zBs k nodes).2/\∀ z,(Value.slice va (zBs k nodes).2.length vc).ownBlock=some z->y'.own z=.no):=by
    have hms:Mod (zAc g) w7 (w7.setCell ⟨g,0,none⟩ (.slice a7 (k+1) cap7)):=Mod.setBlk g 0 _
    have hmL:Mod (fun z=>z=g\/(Value.slice la k lcap).ownBlock=some z) w2 (w7.setCell ⟨g,0,none⟩ (.slice a7 (k+1) cap7)):=(hm27.mono (fun z _ e=>.inr e)).trans (hms.mono (fun z _ e=>.inl e))
    have hyl:yr.lv=.slice la k lcap:=by rw [hlv,hlen]
    have hmA:Mod (fun z=>z=g\/yr.lv.ownBlock=some z) wo (w7.setCell ⟨g,0,none⟩ (.slice a7 (k+1) cap7)):=(hMD.md.mono (fun _ _ e=>e.elim)).trans (by rw [hyl];exact hmL)
    have hB7:Blk w7 g (zId yr S.net.lost) 84:=hH2.blk.mod hm27 hnb
    have hne7:=zAy hown7 hB7 (by decide)
    have hzo:∀ z,(z=g\/(Value.slice la k lcap).ownBlock=some z)->z<wo.heap.size:=fun z e=>e.elim (fun e=>by rw [e];exact hgl) (hrl z)
    have hbn:=hMD.bn
    have hq:Qm w2 (yr.lo n) (fun z=>z=g\/(Value.slice la k lcap).ownBlock=some z):=fun z hz e=>by
     rintro (e1 | ⟨⟨cur,fr,e1⟩,_⟩)
     ·have h8:z<n:=e1
      rcases e with e | e
      ·omega
      ·have:=(zAh hrow e).1;omega
     ·rcases e with e | e
      ·subst e
       have:=hH2.blk
       unfold Blk at this
       rw [this] at e1;simp at e1
      ·obtain ⟨_,_,cur2,h2⟩:=zAh hrow e
       rw [h2] at e1;simp at e1
    have hrvn:∀ z,rv.ownBlock=some z->wo.heap.size<=z:=fun z hz=>(zAh hMD.row hz).1
    obtain ⟨y',r1,r2,r3,r4⟩:=HHo.out.addL (b:=b) (bs:=bs) (nv:=nv) (lf:=lf) (rv:=rv) (l:=(zBs k nodes).1) (lv:=.slice a7 (k+1) cap7) hmA (hB7.set 0 _) (by
      rw [show yr.lbs.length=k from hlen,List.map_append]
      exact zAm hown7 hms (fun z _ _ e q=>hne7 (by rw [e];exact congrArg some q))) (by
      rw [hyl]
      rcases hat7 with e | e
      ·exact .inl e
      ·exact .inr fun z hz=>by rw [e] at hz;simp only [Option.some.injEq] at hz;have:=hMD.md.size;have:=hm2a.size;omega) hMD.bn (hMD.blk.mod hmL (fun e=>by have:=hzo b e;omega)) (zEa (zAm hMD.row hmL (fun z hz _ e q=>by have:=hzo z q;have:=hrvn z e;omega)) (Nat.le_trans hn HMo.out.size)) hrvn (hMD.node.mod hmL hq (fun d hd z hz q=>by have:=hMD.new d hd z hz;have:=hzo z q;omega)) hMD.new
    refine ⟨y',r1,HMo.out.trans' r2.md (fun z hz e=>e (HOo.out z hz)),fun z hz=>by rw [r2.old z (Nat.lt_of_lt_of_le hz HMo.out.size)];exact HOo.out z hz,by rw [r3];exact hMD.msg.mod hmL hq (fun z hz q=>by have:=hMD.fresh z hz;have:=hzo z q;omega),fun z hz=>?_⟩
    obtain ⟨_,cur,hcur⟩:=(hMD.msg.mod hmL hq (fun z hz q=>by have:=hMD.fresh z hz;have:=hzo z q;omega)).block hz
    refine r4 z (hMD.fresh z hz) (fun e=>?_) (fun e=>?_) (fun e=>?_) (fun d hd q=>?_)
    ·obtain ⟨_,_,cur2,h2⟩:=zAh (zAm hown7 hms (fun z _ _ e q=>hne7 (by rw [e];exact congrArg some q))) e
     rw [hcur] at h2;simp at h2
    ·have h3:=hMD.blk.mod hmL (fun e=>by have:=hzo b e;omega)
     unfold Blk at h3
     rw [<-e,hcur] at h3;simp at h3
    ·obtain ⟨_,_,cur2,h2⟩:=zAh (zAm hMD.row hmL (fun z hz _ e q=>by have:=hzo z q;have:=hrvn z e;omega)) e
     rw [hcur] at h2;simp at h2
    ·exact hMD.node.row hMD.msg hd q hz
   clear hMD hH2 hrow hm2a hown7 hgrow7 hat7 hm27 hnb hlv HHo HMo HOo HNL hrl hlow hlen
   go_upto_region 9 with (first
    | (at_builtin;refine zNi rfl (zDi (s:=.tmp 43) (x:=.tmp 45) (t:=74) rfl (by go_simp) (by go_simp) hrun7) ?_)
    | fail)
   obtain ⟨y8,hH8,hM8,hO8,hR8,hno8⟩:=HF.out
   have HSE:=Hmq (zLo n c g y8 _ _ _ _ hH8 hR8 hno8 (by show S.net.lost+_<=_;omega))
   have HM8:=Hmq hM8
   have HO8:=Hmq hO8
   have hg8:=hH8.blk.lt
   clear hH8 hM8 hO8 hR8 hno8 HF c0 f0 c7 f7 hrun7
   go_wp2_with fail
   refine HSE.out.mono ?_
   rintro e w9 ⟨⟨x9,rfl⟩,y9,hH9,hK9⟩
   have HF9:Hid (zAd w9 n c g y9 (newF nodes (k+1))/\Mod zAb w w9/\∀ z,z<w.heap.size->y9.own z=.no):=⟨by rw [HNF.out];exact hH9,HM8.out.trans' hK9.st.md (fun z hz e=>e (HO8.out z hz)),fun z hz=>by rw [hK9.st.old z (Nat.lt_of_lt_of_le hz HM8.out.size)];exact HO8.out z hz⟩
   clear hH9 hK9 HSE
   go_wp2_with fail
   go_roundw
   case rel=>exact ⟨k+1,y9,by omega,by go_num,HF9.out.1,HF9.out.2.1,HF9.out.2.2⟩
   case measure=>simp [intOf];omega
  ·obtain rfl:k=shards+1:=by omega
   have HF:Hid (∃ g' y',Ending.returned (.tuple #[.pointer (some ⟨g,0,none⟩),.nilIface])=.returned (.tuple #[.pointer (some ⟨g',0,none⟩),.nilIface])/\zAd wo n c g' y' (newH shards nodes)/\w.heap.size<=g'/\Mod zAb w wo/\(∀ k,k<w.heap.size->y'.own k=.no)):=⟨g,yr,rfl,hH,by have:=HG.out;omega,hM,hO⟩
   have hkd:decide (((shards+1:Nat):Int)<(shards:Int)+1)=false:=decide_eq_false (by omega)
   clear hH hM hO
   go_wp2_with fail
   go_ret2
   exact HF.out
theorem Tryz.infoLg:(Tryz.prog.info? 62).map (fun i=>(i.zero,i.size,i.bytes))=some (some (.slice none 0 0),1,24):=by kernel_rfl
def zSa(s:zAa)(k i:Nat):List (List CmdD):=((zBc s k).take i).map fun j=>(zAo s k j).log
def zGx(s:zAa)(k:Nat):List (List CmdD):=(zAj s k).map fun (x:zAl)=>x.log
theorem yGt{s:zAa}{k i j:Nat}(h:(zBc s k)[i]?=some j):zSa s k (i+1)=zSa s k i++[(zAo s k j).log]:=by unfold zSa;rw [zBn h,List.map_append];rfl
theorem yKc(s:zAa)(k:Nat):zSa s k (zBc s k).length=zGx s k:=by unfold zSa zGx;rw [List.take_length,<-zMi,List.map_map];rfl
theorem yKb(s:zAa)(k:Nat){i:Nat}(h:i<=(zBc s k).length):(zSa s k i).length=i:=by unfold zSa;rw [List.length_map,List.length_take];omega
def RowL(w:World)(B:Nat)(L:Lo)(v:Value)(ls:List (List CmdD)):Prop:=∃ us:List Value,us.length=ls.length/\w.ownsRow B 62 1 v ls.length us/\∀ (i:Nat) l u,ls[i]?=some l->us[i]?=some u->RowC w L u l/\∀ z,u.ownBlock=some z->B<=z
theorem RowL.nil(w:World)(B:Nat)(L:Lo):RowL w B L (.slice none 0 0) []:=⟨[],rfl,World.ownsRow_nil _ _ _ _,fun i l u h=>by simp at h⟩
theorem RowC.one'{w:World}{L:Lo}{v:Value}{cs:List CmdD}(h:RowC w L v cs):v.oneCell'=true:=by obtain ⟨a,cap,rfl⟩:=h.slice;rfl
theorem zRb(n c g:Nat)(y:HLay)(s:zAa)(k:Nat)(w:World)(h:zAd w n c g y s)(hS:Safe s)(hk:k<s.lines.length) :
  Calls Tryz.prog 21 #[.pointer (some ⟨g,0,none⟩),.int .i64 k] w fun e w'=>∃ v,e=.returned (.tuple #[v,.nilIface])/\RowL w' w.heap.size (y.lo n) v (zGx s k)/\Mod zAb w w':=by
 obtain ⟨i0,hi,hz0,hz1,hz2⟩:=info_parts Tryz.infoLg
 obtain ⟨c0,-⟩:=blkH h.blk
 obtain ⟨la,lcap,hlv⟩:=zAf h.lrow
 have hll:=hS.ll
 have hlen:=h.llen
 rw [hlv,hlen] at c0
 obtain ⟨b,hb,hL⟩:=h.lineQ hk
 have HLI:=Hmq (zNp n c g y s k b w h hS.shape hk hb)
 have hk0:decide ((k:Int)<0)=false:=decide_eq_false (by omega)
 have hk1:decide ((k:Int) ≥ (s.lines.length:Int))=false:=decide_eq_false (by omega)
 have hlow:=h.low
 have hgl:=h.blk.lt
 have HH:=Hmq h
 have HS:=Hmq hS
 have HB:=Hmq hb
 have hl4:(zBc s k).length<=4:=by
  rw [zMj]
  have h2:(zAj s k).length<=(s.line k).nodes.length:=List.length_filter_le _ _
  have:=hS.len4 hk
  omega
 clear h hS hb hL hlv
 go_enter Tryz.func21,Tryz.ntmps21
 go_upto_region 5 with (first
  | (go_at_call 46;refine HLI.out.mono ?_;rintro e w1 ⟨v,rfl,hv,hm1⟩;(have hvv:∃ va vc,v=.slice va (zBc s k).length vc:=(by obtain ⟨va,vc,e,_⟩:=hv;exact ⟨va,vc,e⟩));obtain ⟨va,vc,hva⟩:=hvv;subst hva)
  | fail)
 have HV:=Hmq hv
 have HM1:=Hmq hm1
 clear hv hm1 HLI c0
 go_loopw [6,25] (fun tv i1 wr=>∃ (i:Nat),i<=(zBc s k).length/\i1=.int .i64 i/\RowL wr w1.heap.size (y.lo n) tv (zSa s k i)/\Mod zAb w wr/\Mod zAb w1 wr) (fun _ i1 _=>(zBc s k).length - (intOf i1).toNat)
 case atStart=>exact ⟨0,Nat.zero_le _,rfl,RowL.nil _ _ _,HM1.out,Mod.refl _ _⟩
 case round=>
  obtain ⟨i,hil,rfl,hR,hM,hMr⟩:=hrel
  obtain ⟨wo,hwo⟩:∃ x,x=wr:=⟨_,rfl⟩
  subst hwo
  obtain ⟨us,hus,hrow,hcs⟩:=hR
  have hil2:=yKb s k hil
  rw [hil2] at hrow hus
  obtain ⟨ta,tcap,htv⟩:=zAf hrow
  subst htv
  by_cases hlt:i<(zBc s k).length
  ·obtain ⟨j,hj⟩:∃ j,(zBc s k)[i]?=some j:=⟨_,List.getElem?_eq_getElem hlt⟩
   obtain ⟨va',vc',e1,e2⟩:=HV.out
   simp only [Value.slice.injEq] at e1
   obtain ⟨e1,-,-⟩:=e1
   subst e1
   obtain ⟨lg,d,rfl,hd,hc,-⟩:=e2 i j hj
   have hHi:=HH.out.quiet hM
   have hN:=hHi.nodeB HB.out (List.mem_of_getElem? hd)
   rw [hHi.st_eq HB.out (zBh hk) hd (zDt (zHi hj).1)] at hN
   have HLG:=Hmq (zOy _ _ _ _ _ _ hN)
   have hci:=hMr.cell hc (fun e=>e)
   have hiI:(i:Int)<((zBc s k).length:Int):=by omega
   have hi00:(0:Int)<=(i:Int):=by omega
   have HSU:=Hmq (yGt hj)
   have HROW:=Hmq hrow
   have HCS:=Hmq hcs
   have HM:=Hmq hM
   have HMr:=Hmq hMr
   have HUS:=Hmq hus
   have HLL:=Hmq hil2
   have hzo:=hMr.size
   have hzw1:=HM1.out.size
   clear hHi hN hM hMr hj hd hc e2 hrow hcs hus hil2
   generalize (zAo s k j).log=lj at HLG HSU
   go_upto_region 7 with fail
   go_wp2_with fail
   refine HLG.out.mono ?_
   rintro e w2 ⟨v2,rfl,hR2,hf2,hm2⟩
   have hone:=hR2.one'
   obtain ⟨a2,cap2,hv2⟩:=hR2.slice
   have hm2a:Mod zAb wo (w2.alloc (.cells #[v2] 62)):=hm2.alloc _
   obtain ⟨v7,w7,hrun7,hown7,hgrow7,_,hat7⟩:=run_append_own_at (P:=Tryz.prog) (w2.alloc (.cells #[v2] 62)) w1.heap.size 58 58 62 i0 _ 1 24 Tryz.underlying58 hi hz0 hz1 hz2 rfl (by omega) _ _ _ (zAm HROW.out hm2a (fun _ _ _ _ e=>e)) ⟨w2.heap.size,0,none⟩ 1 1 [v2] rfl (World.news_of_block (heap_alloc_new w2 _)) (by intro u hu;simp at hu;rw [hu];exact hone) (by unfold maxLen;omega) (by omega) (by have:=hm2a.size;omega)
   obtain ⟨a7,cap7,hv7⟩:=zAf hown7
   subst hv7
   have hrow2:=zAm HROW.out hm2a (fun _ _ _ _ e=>e)
   have hm27:Mod (fun z=>(Value.slice ta i tcap).ownBlock=some z) (w2.alloc (.cells #[v2] 62)) w7:=(Mod.refl _ _).grown hgrow7 (fun x hx _=>hx)
   have hq27:Qm (w2.alloc (.cells #[v2] 62)) (y.lo n) (fun z=>(Value.slice ta i tcap).ownBlock=some z):=Qm.row hrow2 (by show n<=w1.heap.size;have:=HM1.out.size;omega) (by decide)
   have HF:Hid (RowL w7 w1.heap.size (y.lo n) (.slice a7 (i+1) cap7) (zSa s k (i+1))/\Mod zAb w w7/\Mod zAb w1 w7):=by
    have hne:∀ {u:Value} {l:List CmdD},RowC (w2.alloc (.cells #[v2] 62)) (y.lo n) u l->∀ z,u.ownBlock=some z->(Value.slice ta i tcap).ownBlock≠some z:=fun {u l} hu z hz q=>by
     obtain ⟨_,_,cur,hcur⟩:=zAh hrow2 q
     obtain ⟨us',_,h3,_⟩:=hu
     obtain ⟨_,_,cur2,h2⟩:=zAh h3 hz
     rw [hcur] at h2;simp at h2
    have hfin:∀ {G:World},Mod zAb G wo->w.heap.size<=G.heap.size\/True->Mod zAb G (w2.alloc (.cells #[v2] 62)):=fun h _=>h.trans hm2a
    refine ⟨⟨us++[v2],by rw [List.length_append,HUS.out,HSU.out,List.length_append,HLL.out];rfl,?_,fun x l u hl hu=>?_⟩,?_,?_⟩
    ·rw [HSU.out,List.length_append,HLL.out];exact hown7
    ·rw [HSU.out] at hl
     have hlen1:(zSa s k i).length=i:=HLL.out
     have hlen2:us.length=i:=HUS.out
     by_cases hx:x<i
     ·rw [List.getElem?_append_left (by omega)] at hl
      rw [List.getElem?_append_left (by omega)] at hu
      obtain ⟨q1,q2⟩:=HCS.out x l u hl hu
      have q3:=q1.mod hm2a (Qm.none _ _) (fun _ _ e=>e)
      exact ⟨q3.mod hm27 hq27 (fun z hz=>hne q3 z hz),q2⟩
     ·rw [List.getElem?_append_right (by omega)] at hl hu
      have hx0:x - (zSa s k i).length=0:=by
       have:=(List.getElem?_eq_some_iff.1 hl).1
       simp at this;omega
      rw [hx0] at hl
      rw [show x - us.length=0 by omega] at hu
      simp at hl hu
      subst hl hu
      have q3:=hR2.mod ((Mod.refl zAb w2).alloc (.cells #[v2] 62)) (Qm.none _ _) (fun _ _ e=>e)
      exact ⟨q3.mod hm27 hq27 (fun z hz=>hne q3 z hz),fun z hz=>Nat.le_trans hzo (hf2 z hz)⟩
    ·exact (HM.out.trans hm2a).trans' hm27 (fun z hz q=>by have:=(zAh hrow2 q).1;omega)
    ·exact (HMr.out.trans hm2a).trans' hm27 (fun z hz q=>by have:=(zAh hrow2 q).1;omega)
   subst hv2
   clear hR2 hf2 hm2 hm2a hown7 hgrow7 hat7 hrow2 hm27 hq27 HLG HROW HCS HM HMr HUS hci
   go_wp2_with (first
    | (at_builtin;refine zNi rfl (zDi (s:=.tmp 29) (x:=.tmp 32) (t:=58) rfl (by go_simp) (by go_simp) hrun7) ?_)
    | fail)
   go_roundw
   case rel=>exact ⟨i+1,by omega,by go_num,HF.out.1,HF.out.2.1,HF.out.2.2⟩
   case measure=>simp [intOf];omega
  ·obtain rfl:i=(zBc s k).length:=by omega
   have HF:Hid (RowL wo w.heap.size (y.lo n) (.slice ta (zBc s k).length tcap) (zGx s k)/\Mod zAb w wo):=by
    unfold Hid
    rw [<-yKc]
    exact ⟨⟨us,by rw [hil2];exact hus,by rw [hil2];exact zEa hrow HM1.out.size,fun x l u h1 h2=>⟨(hcs x l u h1 h2).1,fun z hz=>Nat.le_trans HM1.out.size ((hcs x l u h1 h2).2 z hz)⟩⟩,hM⟩
   clear hM hMr hrow hcs hus
   go_wp2_with fail
   go_ret2
   exact ⟨_,rfl,HF.out.1,HF.out.2⟩
theorem zAw.at{w:World}{L:Lo}{v:Value}{ps:List zBa}(h:zAw w L v ps){j:Nat}{p:zBa}(hj:ps[j]?=some p):∃ b off cap,v=.slice (some ⟨b,off,none⟩) ps.length cap/\w.cell? ⟨b,off+j*3,none⟩=some (.string p.key)/\w.cell? ⟨b,off+j*3+1,none⟩=some (.string p.val)/\w.cell? ⟨b,off+j*3+2,none⟩=some (.bool p.gone):=by
 obtain ⟨a,cap,rfl,_,_,h4⟩:=h
 rcases h4 with h4 | ⟨b,off,rfl,_,h7⟩
 ·rw [h4] at hj;simp at hj
 ·exact ⟨b,off,cap,rfl,h7 j p hj⟩
theorem yNh(L L':Lo)(c:CmdD)(ua ub:Value)(w:World)(ha:zAw w L ua c.writes)(hb:zAw w L' ub c.writes)(hl:c.writes.length<=1000) :
  Calls Tryz.prog 49 #[.agg #[.int .i64 c.kind,.int .i64 c.tx,.int .i64 c.time,ua],.agg #[.int .i64 c.kind,.int .i64 c.tx,.int .i64 c.time,ub]] w fun e w'=>e=.returned (.bool true)/\Mod zAb w w':=by
 obtain ⟨w2,hw2⟩:∃ z,z=(w.alloc (.cells #[.int .i64 c.kind,.int .i64 c.tx,.int .i64 c.time,ua] 65)).alloc (.cells #[.int .i64 c.kind,.int .i64 c.tx,.int .i64 c.time,ub] 65):=⟨_,rfl⟩
 have hM2:Mod zAb w w2:=by rw [hw2];exact ((Mod.refl _ w).alloc _).alloc _
 have hA:Blk w2 w.heap.size [.int .i64 c.kind,.int .i64 c.tx,.int .i64 c.time,ua] 65:=by rw [hw2];exact (Blk.new w _ _).mod ((Mod.refl zAb _).alloc _) id
 have hB:Blk w2 (w.heap.size+1) [.int .i64 c.kind,.int .i64 c.tx,.int .i64 c.time,ub] 65:=by
  rw [hw2]
  have:=Blk.new (w.alloc (.cells #[.int .i64 c.kind,.int .i64 c.tx,.int .i64 c.time,ua] 65)) [.int .i64 c.kind,.int .i64 c.tx,.int .i64 c.time,ub] 65
  rw [World.size_alloc] at this
  exact this
 have HA2:=Hmq (ha.mod hM2 (Qm.none _ _))
 have HB2:=Hmq (hb.mod hM2 (Qm.none _ _))
 obtain ⟨a,acap,hua,-⟩:=ha
 obtain ⟨b,bcap,hub,-⟩:=hb
 subst hua hub
 obtain ⟨ws,hws⟩:∃ z,z=c.writes:=⟨_,rfl⟩
 rw [<-hws] at HA2 HB2 hl hA hB ⊢
 rw [<-hws] at hw2
 clear hws
 have HA:=Hmq hA
 have HB:=Hmq hB
 have a0:=hA.cell 0 rfl
 have a1:=hA.cell 1 rfl
 have a2:=hA.cell 2 rfl
 have a3:=hA.cell 3 rfl
 have b0:=hB.cell 0 rfl
 have b1:=hB.cell 1 rfl
 have b2:=hB.cell 2 rfl
 have b3:=hB.cell 3 rfl
 have HM2:=Hmq hM2
 clear hA hB hM2
 go_enter Tryz.func49,Tryz.ntmps49
 go_upto_region 1 with fail
 rw [<-hw2]
 clear hw2
 go_wp2_with fail
 go_loopw [37] (fun i wr=>∃ k:Nat,k<=ws.length/\i=.int .i64 k/\Mod zAb w2 wr) (fun i _=>ws.length - (intOf i).toNat)
 case atStart=>exact ⟨0,Nat.zero_le _,rfl,Mod.refl _ _⟩
 case round=>
  obtain ⟨k,hk,rfl,hM⟩:=hrel
  clear a0 a1 a2 a3 b0 b1 b2 b3
  by_cases hlt:k<ws.length
  ·obtain ⟨p,hp⟩:∃ p,ws[k]?=some p:=⟨_,List.getElem?_eq_getElem hlt⟩
   obtain ⟨ga,oa,ca,hva,q0,q1,q2⟩:=(HA2.out.mod hM (Qm.none _ _)).at hp
   obtain ⟨gb,ob,cb,hvb,r0,r1,r2⟩:=(HB2.out.mod hM (Qm.none _ _)).at hp
   simp only [Value.slice.injEq] at hva hvb
   obtain ⟨rfl,_,rfl⟩:=hva
   obtain ⟨rfl,_,rfl⟩:=hvb
   have a3:=(HA.out.mod hM id).cell 3 rfl
   have b3:=(HB.out.mod hM id).cell 3 rfl
   have hltI:(k:Int)<(ws.length:Int):=by omega
   have hlt0:(0:Int)<=(k:Int):=by omega
   have HM:=Hmq hM
   clear hM hp
   go_upto_region 6 with fail
   refine wp_region_still_tail 10 (by kernel_rfl) (by kernel_rfl) ?_
   simp only [List.take_succ_cons,List.take_zero,List.drop_succ_cons,List.drop_zero]
   repeat still_step
   refine wpStill_nil ?_
   go_wp2_with fail
   go_roundw
   case rel=>exact ⟨k+1,by omega,by go_num,HM.out.drew⟩
   case measure=>simp [intOf];omega
  ·obtain rfl:k=ws.length:=by omega
   go_wp2_with fail
   go_ret
   exact ⟨rfl,HM2.out.trans hM⟩
theorem zVt(L L':Lo)(ls cs:List CmdD)(va vb:Value)(w:World)(hp:cs <+: ls)(ha:RowC w L va ls)(hb:RowC w L' vb cs)(hfew:ls.length<=1000) :
  Calls Tryz.prog 22 #[va,vb] w fun e w'=>e=.returned (.bool true)/\Mod zAb w w':=by
 obtain ⟨a,acap,rfl⟩:=ha.slice
 obtain ⟨b,bcap,rfl⟩:=hb.slice
 have hll:cs.length<=ls.length:=hp.length_le
 have hd0:decide (ls.length<cs.length)=false:=decide_eq_false (by omega)
 have hd1:¬ ls.length<cs.length:=by omega
 have HA:=Hmq ha
 have HB:=Hmq hb
 have HPR:=Hmq hp
 clear ha hb hp
 go_enter Tryz.func22,Tryz.ntmps22
 go_wp2_with fail
 go_loopw [13] (fun i wr=>∃ k:Nat,k<=cs.length/\i=.int .i64 k/\Mod zAb w wr) (fun i _=>cs.length - (intOf i).toNat)
 case atStart=>exact ⟨0,Nat.zero_le _,rfl,Mod.refl _ _⟩
 case round=>
  obtain ⟨k,hk,rfl,hM⟩:=hrel
  by_cases hlt:k<cs.length
  ·obtain ⟨c,hc⟩:∃ c,cs[k]?=some c:=⟨_,List.getElem?_eq_getElem hlt⟩
   have hc':ls[k]?=some c:=by
    obtain ⟨t,rfl⟩:=HPR.out
    rw [List.getElem?_append_left hlt];exact hc
   obtain ⟨ga,ca,ua,hva,_,hca,hua,hgc,q0,q1,q2,q3⟩:=(HA.out.mod hM (Qm.none _ _) (fun _ _=>id)).at hc'
   obtain ⟨gb,cb,ub,hvb,_,hcb,hub,_,r0,r1,r2,r3⟩:=(HB.out.mod hM (Qm.none _ _) (fun _ _=>id)).at hc
   simp only [Value.slice.injEq] at hva hvb
   obtain ⟨rfl,_,rfl⟩:=hva
   obtain ⟨rfl,_,rfl⟩:=hvb
   unfold maxLen at hca hcb
   have hltI:(k:Int)<(cs.length:Int):=by omega
   have hltA:(k:Int)<(ls.length:Int):=by omega
   have hlt0:(0:Int)<=(k:Int):=by omega
   have za:ga<wr.heap.size:=World.block_lt_of_cell? wr _ q0
   have zb:gb<wr.heap.size:=World.block_lt_of_cell? wr _ r0
   have HC:=Hmq (yNh L L' c ua ub wr.drew (hua.mod (Mod.refl zAb wr).drew (Qm.none _ _)) (hub.mod (Mod.refl zAb wr).drew (Qm.none _ _)) (by have:=hgc.2;omega))
   have HM:=Hmq hM
   clear hc hc' hM hua hub hgc
   go_upto_region 6 with fail
   refine wp_region_still_tail 8 (by kernel_rfl) (by kernel_rfl) ?_
   simp only [List.take_succ_cons,List.take_zero,List.drop_succ_cons,List.drop_zero]
   repeat still_step
   refine wpStill_nil ?_
   go_wp2_with fail
   refine HC.out.mono ?_
   rintro e w5 ⟨rfl,hm5⟩
   have HM5:Hid (Mod zAb w w5):=HM.out.drew.trans hm5
   clear hm5
   go_wp2_with fail
   go_roundw
   case rel=>exact ⟨k+1,by omega,by go_num,HM5.out⟩
   case measure=>simp [intOf];omega
  ·obtain rfl:k=cs.length:=by omega
   go_wp2_with fail
   go_ret
   exact ⟨rfl,hM⟩
end Go.Proofs.YtmaiggbnceejiaaGreatDoor
