import Derived.Test.YtiblcbdkiecbgaaGreatDoorM22
set_option linter.unusedVariables false
set_option maxRecDepth 100000
set_option maxHeartbeats 16000000
namespace Go.Proofs.YtiblcbdkiecbgaaGreatDoor
open Go.RowKit Go.Lib Go.Maps
def bareC(d:Nat):List Value:=[.slice none 0 0,.map (some d),.slice none 0 0,.int .i64 0,.map none,.map none,.slice none 0 0]
def bareY(g d:Nat):HLay:=⟨.slice none 0 0,d,.slice none 0 0,none,.slice none 0 0,[],fun _=>.slice none 0 0,fun _=>[],fun _=>.slice none 0 0,fun _=>.slice none 0 0,[],fun _=>.slice none 0 0,fun _=>.slice none 0 0,⟨g,[],[],159,none,0,fun _ _=>.slice none 0 0⟩,fun x=>if x=g then .main else if x=d then .dead else .no⟩
theorem HouseP.bare(w:World)(n c nodes:Nat)(hn:n<=w.heap.size):HouseP ((w.alloc (.map #[] 0)).alloc (.cells (bareC w.heap.size).toArray 159)) n c (w.heap.size+1) (bareY (w.heap.size+1) w.heap.size) (newF nodes 0):=by
 have hz:(w.alloc (.map #[] 0)).heap.size=w.heap.size+1:=World.size_alloc _ _
 have hB:Blk ((w.alloc (.map #[] 0)).alloc (.cells (bareC w.heap.size).toArray 159)) (w.heap.size+1) (bareC w.heap.size) 159:=by
  have:=Blk.new (w.alloc (.map #[] 0)) (bareC w.heap.size) 159
  rw [hz] at this;exact this
 have hsz:((w.alloc (.map #[] 0)).alloc (.cells (bareC w.heap.size).toArray 159)).heap.size=w.heap.size+1+1:=by rw [World.size_alloc,hz]
 have hmade:=World.ownsMap_made (H:=Unit) w Tryz.prog 3 unitElem
 refine ⟨hB,⟨RowM.nil _ _,.inl ⟨rfl,rfl⟩,by simp [newF],by simp [newF]⟩,?_,⟨fun k hk=>⟨fun _=>rfl,rfl,rfl⟩,fun k i hk=>.inl rfl,fun k i hk=>?_,fun k k' i i' x _ _ h1 _=>by simp [bareY,Value.ownBlock] at h1,fun k hk=>KeyOK.nil,fun k hk=>by simp [newF]⟩,⟨rfl,rfl,Nat.zero_le _⟩,World.ownsRow_nil _ _ _ _,rfl,fun k b l hb=>by simp [bareY] at hb,World.ownsRow_nil _ _ _ _,rfl,fun i b t hb=>by simp [bareY] at hb,?_⟩
 ·refine .inr ⟨w.heap.size,.map [],rfl,hn,?_,fun x _=>by simp [Maps.has,newF]⟩
  obtain ⟨es,clock,h1,h2⟩:=hmade
  refine ⟨es,clock,?_,h2⟩
  rw [heap_alloc_old _ _ (by rw [hz];omega)];exact h1
 ·cases i <;> exact World.ownsRow_nil _ _ _ _
 ·refine ⟨by simp [bareY],fun k hk=>by simp [bareY,Value.ownBlock] at hk,fun k hk=>by simp [bareY,Value.ownBlock] at hk,fun k hk=>by simp [bareY,Value.ownBlock] at hk,by simp [bareY],fun k hk=>?_,fun b hb=>by simp [bareY] at hb,fun b hb=>by simp [bareY] at hb,fun b hb=>by simp [bareY] at hb,fun k hk=>?_,by simp [bareY],by simp [bareY],by simp [bareY]⟩
  ·rcases hk with hk | ⟨z,i,_,hk⟩
   ·simp [bareY] at hk
   ·simp [bareY,Value.ownBlock] at hk
  ·have:k=w.heap.size+1\/k=w.heap.size:=by
    simp only [bareY] at hk
    by_cases e1:k=w.heap.size+1
    ·exact .inl e1
    ·by_cases e2:k=w.heap.size
     ·exact .inr e2
     ·rw [if_neg e1,if_neg e2] at hk;exact absurd rfl hk
   rw [hsz]
   rcases this with e | e <;> omega
theorem newF_lost(nodes:Nat)(h4:nodes<=4):∀ m,0<=(newF nodes m).net.lost/\(newF nodes m).net.lost<=4*m
 | 0=>by simp [newF]
 | m+1=>by
  have ih:=newF_lost nodes h4 m
  have h1:=sends_lost (newLineH m nodes).2 (newF nodes m).net
  have h2:(newLineH m nodes).2.length<=(newNs m nodes).length:=becomeL_len ⟨newNs m nodes,0⟩
  have h3:(newNs m nodes).length=nodes:=by simp [newNs]
  show 0<=(sends (newF nodes m).net (newLineH m nodes).2).lost/\(sends (newF nodes m).net (newLineH m nodes).2).lost<=_
  omega
theorem Tryz.infoLn:(Tryz.prog.info? 186).map (fun i=>(i.zero,i.size,i.bytes))=some (some (.pointer none),1,8):=by kernel_rfl
theorem new_any(n c shards nodes:Nat)(w:World)(h1:1<=shards/\shards<=4)(h2:1<=nodes/\nodes<=4)(hn:n<=w.heap.size) :
  Calls Tryz.prog 92 #[.int .i64 shards,.int .i64 nodes] w fun e w'=>∃ g y,e=.returned (.tuple #[.pointer (some ⟨g,0,none⟩),.nilIface])/\HouseP w' n c g y (newH shards nodes)/\w.heap.size<=g/\Mod noBlock w w'/\(∀ k,k<w.heap.size->y.own k=.no):=by
 obtain ⟨i0,hi,hz0,hz1,hz2⟩:=info_parts Tryz.infoLn
 have hmm:=@run_makeMap Tryz.prog
 obtain ⟨g,hg⟩:∃ g,g=w.heap.size+1:=⟨_,rfl⟩
 have hbare:=HouseP.bare w n c nodes hn
 rw [<-hg] at hbare
 obtain ⟨w1,hw1⟩:∃ x,x=(w.alloc (.map #[] 0)).alloc (.cells #[.slice none 0 0,.map (some w.heap.size),.slice none 0 0,.int .i64 0,.map none,.map none,.slice none 0 0] 159):=⟨_,rfl⟩
 have hb1:HouseP w1 n c g (bareY g w.heap.size) (newF nodes 0):=by rw [hw1];exact hbare
 have hm1:Mod noBlock w w1:=by rw [hw1];exact ((Mod.refl _ w).alloc _).alloc _
 have hw1':w1=(w.alloc (.map #[] 0)).alloc (.cells #[.slice none 0 0,.map (some w.heap.size),.slice none 0 0,.int .i64 0,.map none,.map none,.slice none 0 0] 159):=hw1
 have HB1:=Hmq hb1
 have HM1:=Hmq hm1
 have HO1:Hid (∀ k,k<w.heap.size->(bareY g w.heap.size).own k=.no):=fun k hk=>by simp only [bareY];rw [if_neg (by omega),if_neg (by omega)]
 have hs1:decide ((shards:Int)<1)=false:=decide_eq_false (by omega)
 have hs4:decide ((shards:Int) > 4)=false:=decide_eq_false (by omega)
 have hn1:decide ((nodes:Int)<1)=false:=decide_eq_false (by omega)
 have hn4:decide ((nodes:Int) > 4)=false:=decide_eq_false (by omega)
 clear hbare hb1 hm1
 go_enter Tryz.func92,Tryz.ntmps92
 go_upto_region 4 with fail
 rw [<-hw1',<-hg]
 have HG:=Hmq hg
 clear hw1 hw1' hmm hg
 go_wp2_with fail
 go_loopw [30] (fun k0 wr=>∃ (k:Nat) (yr:HLay),k<=shards+1/\k0=.int .i64 k/\HouseP wr n c g yr (newF nodes k)/\Mod noBlock w wr/\∀ z,z<w.heap.size->yr.own z=.no) (fun k0 _=>shards+1 - (intOf k0).toNat)
 case atStart=>exact ⟨0,_,Nat.zero_le _,rfl,HB1.out,HM1.out,HO1.out⟩
 case round=>
  obtain ⟨k,yr,hkl,rfl,hH,hM,hO⟩:=hrel
  obtain ⟨wo,hwo⟩:∃ x,x=wr:=⟨_,rfl⟩
  subst hwo
  by_cases hlt:k<shards+1
  ·have hlz:=newF_lost nodes h2.2 k
   have hll:(newF nodes k).lines.length=k:=by rw [newF_lines];simp
   have HNL:=Hmq (newLine_any (yr.lo n) k nodes wo (by omega) h2.1 h2.2 (Nat.le_trans hn hM.size) (fun z hz=>lo_lt hH.own z hz))
   have hml:(newLineH k nodes).2.length<=nodes:=by
    have q1:(newLineH k nodes).2.length<=(newNs k nodes).length:=becomeL_len ⟨newNs k nodes,0⟩
    have q2:(newNs k nodes).length=nodes:=by simp [newNs]
    omega
   have HNF:Hid (newF nodes (k+1)=sendH { newF nodes k with lines:=(newF nodes k).lines++[(newLineH k nodes).1] } (newLineH k nodes).2):=rfl
   have hkI:(k:Int)<(shards:Int)+1:=by omega
   have hk0:(0:Int)<=(k:Int):=by omega
   have hgl:=hH.blk.lt
   have HHo:=Hmq hH
   have HMo:=Hmq hM
   have HOo:=Hmq hO
   clear hH hM hO
   generalize newF nodes k=S at HHo HNF hlz hll
   go_upto_region 8 with (first
    | (go_at_call 136;refine HNL.out.mono ?_;rintro e w2 ⟨b,bs,nv,lf,rv,v,rfl,hMD⟩;obtain ⟨va,vc,hva⟩:=hMD.msg.slice;subst hva)
    | fail)
   have hH2:=HHo.out.quiet hMD.md
   obtain ⟨c0,-⟩:=blkH hH2.blk
   have f0:=hH2.blk.frozen 0
   have hg2:=hH2.blk.lt
   have hlow:=hH2.low
   obtain ⟨la,lcap,hlv⟩:=own_slice hH2.lrow
   have hlen:=hH2.llen
   rw [hll] at hlen
   rw [hlv,hlen] at c0
   have hrow:w2.ownsRow n 186 1 (.slice la k lcap) k (yr.lbs.map ptrV):=by have:=hH2.lrow;rw [hlv,hlen] at this;exact this
   have hm2a:Mod noBlock w2 (w2.alloc (.cells #[.pointer (some ⟨b,0,none⟩)] 186)):=(Mod.refl _ w2).alloc _
   obtain ⟨v7,w7,hrun7,hown7,hgrow7,_,hat7⟩:=run_append_own_at (P:=Tryz.prog) (w2.alloc (.cells #[.pointer (some ⟨b,0,none⟩)] 186)) n 149 149 186 i0 _ 1 8 Tryz.underlying149 hi hz0 hz1 hz2 rfl (by omega) _ _ _ (own_mod hrow hm2a (fun _ _ _ _ e=>e)) ⟨w2.heap.size,0,none⟩ 1 1 [.pointer (some ⟨b,0,none⟩)] rfl (World.news_of_block (heap_alloc_new w2 _)) (by simp [Value.oneCell']) (by unfold maxLen;omega) (by omega) (by have:=hm2a.size;omega)
   obtain ⟨a7,cap7,hv7⟩:=own_slice hown7
   subst hv7
   have hm27:Mod (fun z=>(Value.slice la k lcap).ownBlock=some z) w2 w7:=((Mod.refl _ w2).alloc _).grown hgrow7 (fun x hx _=>hx)
   have hnb:(Value.slice la k lcap).ownBlock≠some g:=own_ne_blk hrow hH2.blk (by decide)
   have c7:=hm27.cell c0 hnb
   have f7:=(hm27.frozen (p:=⟨g,0,none⟩) hg2 hnb).trans f0
   have hg7:=Nat.lt_of_lt_of_le hg2 hm27.size
   have hrl:∀ z,(Value.slice la k lcap).ownBlock=some z->z<wo.heap.size:=fun z hz=>(own_cells HHo.out.lrow (by rw [hlv,HHo.out.llen,hll];exact hz)).2.1
   have HF:Hid (∃ y',HouseP (w7.setCell ⟨g,0,none⟩ (.slice a7 (k+1) cap7)) n c g y' { S with lines:=S.lines++[(newLineH k nodes).1] }/\Mod noBlock w (w7.setCell ⟨g,0,none⟩ (.slice a7 (k+1) cap7))/\(∀ z,z<w.heap.size->y'.own z=.no)/\RowM (w7.setCell ⟨g,0,none⟩ (.slice a7 (k+1) cap7)) (y'.lo n) (.slice va (newLineH k nodes).2.length vc) (newLineH k nodes).2/\∀ z,(Value.slice va (newLineH k nodes).2.length vc).ownBlock=some z->y'.own z=.no):=by
    have hms:Mod (oneBlock g) w7 (w7.setCell ⟨g,0,none⟩ (.slice a7 (k+1) cap7)):=Mod.setBlk g 0 _
    have hmL:Mod (fun z=>z=g\/(Value.slice la k lcap).ownBlock=some z) w2 (w7.setCell ⟨g,0,none⟩ (.slice a7 (k+1) cap7)):=(hm27.mono (fun z _ e=>.inr e)).trans (hms.mono (fun z _ e=>.inl e))
    have hyl:yr.lv=.slice la k lcap:=by rw [hlv,hlen]
    have hmA:Mod (fun z=>z=g\/yr.lv.ownBlock=some z) wo (w7.setCell ⟨g,0,none⟩ (.slice a7 (k+1) cap7)):=(hMD.md.mono (fun _ _ e=>e.elim)).trans (by rw [hyl];exact hmL)
    have hB7:Blk w7 g (houseCells yr S.net.lost) 159:=hH2.blk.mod hm27 hnb
    have hne7:=own_ne_blk hown7 hB7 (by decide)
    have hzo:∀ z,(z=g\/(Value.slice la k lcap).ownBlock=some z)->z<wo.heap.size:=fun z e=>e.elim (fun e=>by rw [e];exact hgl) (hrl z)
    have hbn:=hMD.bn
    have hq:Qm w2 (yr.lo n) (fun z=>z=g\/(Value.slice la k lcap).ownBlock=some z):=fun z hz e=>by
     rintro (e1 | ⟨⟨cur,fr,e1⟩,_⟩)
     ·have h8:z<n:=e1
      rcases e with e | e
      ·omega
      ·have:=(own_cells hrow e).1;omega
     ·rcases e with e | e
      ·subst e
       have:=hH2.blk
       unfold Blk at this
       rw [this] at e1;simp at e1
      ·obtain ⟨_,_,cur2,h2⟩:=own_cells hrow e
       rw [h2] at e1;simp at e1
    have hrvn:∀ z,rv.ownBlock=some z->wo.heap.size<=z:=fun z hz=>(own_cells hMD.row hz).1
    obtain ⟨y',r1,r2,r3,r4⟩:=HHo.out.addL (b:=b) (bs:=bs) (nv:=nv) (lf:=lf) (rv:=rv) (l:=(newLineH k nodes).1) (lv:=.slice a7 (k+1) cap7) hmA (hB7.set 0 _) (by
      rw [show yr.lbs.length=k from hlen,List.map_append]
      exact own_mod hown7 hms (fun z _ _ e q=>hne7 (by rw [e];exact congrArg some q))) (by
      rw [hyl]
      rcases hat7 with e | e
      ·exact .inl e
      ·exact .inr fun z hz=>by rw [e] at hz;simp only [Option.some.injEq] at hz;have:=hMD.md.size;have:=hm2a.size;omega) hMD.bn (hMD.blk.mod hmL (fun e=>by have:=hzo b e;omega)) (own_base (own_mod hMD.row hmL (fun z hz _ e q=>by have:=hzo z q;have:=hrvn z e;omega)) (Nat.le_trans hn HMo.out.size)) hrvn (hMD.node.mod hmL hq (fun d hd z hz q=>by have:=hMD.new d hd z hz;have:=hzo z q;omega)) hMD.new
    refine ⟨y',r1,HMo.out.trans' r2.md (fun z hz e=>e (HOo.out z hz)),fun z hz=>by rw [r2.old z (Nat.lt_of_lt_of_le hz HMo.out.size)];exact HOo.out z hz,by rw [r3];exact hMD.msg.mod hmL hq (fun z hz q=>by have:=hMD.fresh z hz;have:=hzo z q;omega),fun z hz=>?_⟩
    obtain ⟨_,cur,hcur⟩:=(hMD.msg.mod hmL hq (fun z hz q=>by have:=hMD.fresh z hz;have:=hzo z q;omega)).block hz
    refine r4 z (hMD.fresh z hz) (fun e=>?_) (fun e=>?_) (fun e=>?_) (fun d hd q=>?_)
    ·obtain ⟨_,_,cur2,h2⟩:=own_cells (own_mod hown7 hms (fun z _ _ e q=>hne7 (by rw [e];exact congrArg some q))) e
     rw [hcur] at h2;simp at h2
    ·have h3:=hMD.blk.mod hmL (fun e=>by have:=hzo b e;omega)
     unfold Blk at h3
     rw [<-e,hcur] at h3;simp at h3
    ·obtain ⟨_,_,cur2,h2⟩:=own_cells (own_mod hMD.row hmL (fun z hz _ e q=>by have:=hzo z q;have:=hrvn z e;omega)) e
     rw [hcur] at h2;simp at h2
    ·exact hMD.node.row hMD.msg hd q hz
   clear hMD hH2 hrow hm2a hown7 hgrow7 hat7 hm27 hnb hlv HHo HMo HOo HNL hrl hlow hlen
   go_upto_region 9 with (first
    | (at_builtin;refine wpList_exec rfl (exec_appendH (s:=.tmp 43) (x:=.tmp 45) (t:=149) rfl (by go_simp) (by go_simp) hrun7) ?_)
    | fail)
   obtain ⟨y8,hH8,hM8,hO8,hR8,hno8⟩:=HF.out
   have HSE:=Hmq (hsend_any n c g y8 _ _ _ _ hH8 hR8 hno8 (by show S.net.lost+_<=_;omega))
   have HM8:=Hmq hM8
   have HO8:=Hmq hO8
   have hg8:=hH8.blk.lt
   clear hH8 hM8 hO8 hR8 hno8 HF c0 f0 c7 f7 hrun7
   go_wp2_with fail
   refine HSE.out.mono ?_
   rintro e w9 ⟨⟨x9,rfl⟩,y9,hH9,hK9⟩
   have HF9:Hid (HouseP w9 n c g y9 (newF nodes (k+1))/\Mod noBlock w w9/\∀ z,z<w.heap.size->y9.own z=.no):=⟨by rw [HNF.out];exact hH9,HM8.out.trans' hK9.st.md (fun z hz e=>e (HO8.out z hz)),fun z hz=>by rw [hK9.st.old z (Nat.lt_of_lt_of_le hz HM8.out.size)];exact HO8.out z hz⟩
   clear hH9 hK9 HSE
   go_wp2_with fail
   go_roundw
   case rel=>exact ⟨k+1,y9,by omega,by go_num,HF9.out.1,HF9.out.2.1,HF9.out.2.2⟩
   case measure=>simp [intOf];omega
  ·obtain rfl:k=shards+1:=by omega
   have HF:Hid (∃ g' y',Ending.returned (.tuple #[.pointer (some ⟨g,0,none⟩),.nilIface])=.returned (.tuple #[.pointer (some ⟨g',0,none⟩),.nilIface])/\HouseP wo n c g' y' (newH shards nodes)/\w.heap.size<=g'/\Mod noBlock w wo/\(∀ k,k<w.heap.size->y'.own k=.no)):=⟨g,yr,rfl,hH,by have:=HG.out;omega,hM,hO⟩
   have hkd:decide (((shards+1:Nat):Int)<(shards:Int)+1)=false:=decide_eq_false (by omega)
   clear hH hM hO
   go_wp2_with fail
   go_ret2
   exact HF.out
end Go.Proofs.YtiblcbdkiecbgaaGreatDoor
