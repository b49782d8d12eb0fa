import Derived.Test.YtogaigioeohjaaaGreatDoorD14
set_option linter.unusedVariables false
set_option maxRecDepth 100000
set_option maxHeartbeats 16000000
namespace Go.Proofs.YtogaigioeohjaaaGreatDoor
open Go.RowKit Go.Lib Go.Maps
structure zUj(s:Tab)(p:KeyS->Bool)(D:DataW Unit)(left:Lit->Bool)(ks:List ByteArray):Prop where
 nodup:ks.Nodup
 mem:∀ k,k∈ks↔okQ k/\has D (keyQ k)=true/\left (keyQ k)=false/\p (s k)=true
theorem zUj.start(s:Tab)(p:KeyS->Bool)(D:DataW Unit):zUj s p D (has D) []:=
 ⟨by simp,fun k=>⟨fun h=>by simp at h,fun ⟨_,h1,h2,_⟩=>by rw [h1] at h2;cases h2⟩⟩
theorem zUj.skip{s:Tab}{p:KeyS->Bool}{D:DataW Unit}{left:Lit->Bool}{ks:List ByteArray}(h:zUj s p D left ks){x:ByteArray}(hp:p (s x)=false):zUj s p D (fun z=>left z && !z.sameKey (keyQ x)) ks:=
 ⟨h.nodup,fun k=>by
  rw [h.mem]
  simp only [zZo]
  by_cases e:k=x
  ·subst e;simp [hp]
  ·simp [e]⟩
theorem zUj.take{s:Tab}{p:KeyS->Bool}{D:DataW Unit}{left:Lit->Bool}{ks:List ByteArray}(h:zUj s p D left ks){x:ByteArray}(hok:okQ x)(hl:left (keyQ x)=true)(hh:has D (keyQ x)=true)(hp:p (s x)=true):zUj s p D (fun z=>left z && !z.sameKey (keyQ x)) (ks++[x]):=by
 have hno:x∉ks:=fun hx=>by have:=((h.mem x).1 hx).2.2.1;rw [hl] at this;cases this
 refine ⟨?_,fun k=>?_⟩
 ·rw [List.nodup_append]
  refine ⟨h.nodup,by simp,fun a ha b hb e=>?_⟩
  simp at hb
  subst hb
  subst e
  exact hno ha
 ·rw [List.mem_append,List.mem_singleton,h.mem]
  simp only [zZo]
  by_cases e:k=x
  ·subst e;simp [hok,hh,hp]
  ·simp [e]
def zWq(s:Tab)(p:KeyS->Bool)(ks:List ByteArray):Prop:=ks.Pairwise ltQ/\∀ k,k∈ks↔okQ k/\¬ (s k).bare/\p (s k)=true
structure AskK(f:Nat)(caps:Array Value)(p:KeyS->Bool)(B N:Nat)(q:TbM)(s:Tab)(w:World):Prop where
 enter:∀ (args:Array Value) (w:World),(callFunc f args).run Tryz.prog w=.ok (.enter f args) w
 ask:∀ (k:ByteArray) (wr:World),okQ k->TbP wr B N q s->Mod zAb w wr ->
  Calls Tryz.prog f (#[.agg #[q.hd k true,q.hd k false]]++caps) wr fun e w'=>e=.returned (.bool (p (s k)))/\Mod zAb wr w'
theorem Tryz.infoSQ:(Tryz.prog.info? 9).map (fun i=>(i.zero,i.size,i.bytes))=some (some (.string ByteArray.empty),1,16):=by kernel_rfl
def yGl(w:World)(s:Tab)(p:KeyS->Bool)(n:Nat)(e:Ending)(w':World):Prop:=∃ v ks,e=.returned v/\yEv w' w'.heap.size v ks/\zWq s p ks/\(∀ b,v.ownBlock=some b->w.heap.size<=b)/\ks.length<=n/\Mod zAb w w'
theorem yAl(f:Nat)(caps:Array Value)(p:KeyS->Bool)(B N:Nat)(q:TbM)(s:Tab)(w:World)(h:TbP w B N q s)(hA:AskK f caps p B N q s w)(hqn:q.n<=1000000) :
  Calls Tryz.prog 191 #[.pointer (some ⟨q.b,q.pre.length,none⟩),.func (.func f) #[] caps] w (yGl w s p q.n):=by
 obtain ⟨i0,yi,yz0,yz1,yz2⟩:=info_parts Tryz.infoSQ
 have c0:=h.cell
 have z0:=h.blk.lt
 have HH:=Hmq h
 have HA:=Hmq hA
 have hent:=hA.enter
 cases hm:q.m with
 | none=>
  have hmp:=h.map
  rw [hm] at hmp
  have HNN:Hid (zWq s p []):=⟨List.Pairwise.nil,fun k=>⟨fun h=>by simp at h,fun ⟨h1,h2,_⟩=>absurd (hmp k h1).2 h2⟩⟩
  rw [hm] at c0
  have hrg:=run_range_nilMap (P:=Tryz.prog) w 85 9 212 Tryz.underlying85
  have hnx:∀ ty,(Instr.next (.pointer (some ⟨w.heap.size,0,none⟩)) false ty).run Tryz.prog (w.alloc (.mapIter none 0 #[] 0))=_:=fun ty=>run_next_nilMap w ty 0 0 #[]
  have HM:Hid (Mod zAb w (w.alloc (.mapIter none 0 #[] 0))):=(Mod.refl _ w).alloc _
  have HS:=Hmq (zZj 0 (.slice none 0 0) [] (w.alloc (.mapIter none 0 #[] 0)) (World.ownsRow_nil _ _ _ _) (by simp) (by simp))
  clear h hA hmp hent
  go_enter Tryz.func191,Tryz.ntmps191
  go_wp2
  refine wp_loop_rounds 1 ?_
  rw [rounds_succ]
  go_wp2_with (first | (go_at_call 94;refine HS.out.mono ?_;rintro e w5 ⟨rfl,ps',hps,hpm,hpw,hmm⟩) | go_in)
  go_ret
  have hnil:ps'=[]:=List.Perm.eq_nil hpm
  subst hnil
  exact ⟨_,[],rfl,hps,HNN.out,fun b hb=>by simp [Value.ownBlock] at hb,Nat.zero_le _,HM.out.trans' hmm (fun _ _ e=>by cases e)⟩
 | some g=>
  obtain ⟨_,D,hown,hD⟩:=h.map.get hm
  rw [hm] at c0
  have HD:=Hmq hD
  have HOWN:=Hmq hown
  have hgl:=hown.lt
  have hsz:=hown.size_le
  clear h hA hD hown hm
  go_enter Tryz.func191,Tryz.ntmps191
  go_wp2_with (first
   | (at_range;refine wpList_range_own _ rfl _ 85 rfl 9 212 yIa Tryz.underlying85 _ g q.n D rfl HOWN.out ?_;intro w0 hrg0 hg0 hs0)
   | go_in)
  go_frame
  have HM0:Hid (Mod zAb w w0):=(Mod.refl _ w).grown hg0 (fun x hx _=>by cases hx)
  have HRG0:=Hmq hrg0
  have HS0:=Hmq hs0
  clear hrg0 hg0 hs0
  go_loopw [5] (fun v0 wr=>∃ (left:Lit->Bool) (cnt:Nat) (ks:List ByteArray),wr.ranges Tryz.prog 9 zKj g w.heap.size q.n D left cnt/\RowS wr (w.heap.size+1) v0 ks/\zUj s p D left ks/\Mod zAb w wr/\w.heap.size+1<=wr.heap.size/\ks.length+cnt<=q.n) (fun _ wr=>wr.rangeLeft g w.heap.size)
  case atStart=>exact ⟨_,_,[],HRG0.out,World.ownsRow_nil _ _ _ _,zUj.start s p D,HM0.out,by rw [HS0.out];exact Nat.le_refl _,by simpa using hsz⟩
  case round=>
   obtain ⟨left,cnt,ks,hrg,hrow,hC,hM,hz,hcn⟩:=hrel
   have HM:=Hmq hM
   have HRG:=Hmq hrg
   have HROW:=Hmq hrow
   have HC:=Hmq hC
   obtain ⟨pa,pcap,hpv⟩:=zAg hrow
   subst hpv
   clear hrg hM hrow hC HRG0 HM0 HS0
   go_wp2_with (first
    | (at_next;refine zYw _ rfl _ rfl g w.heap.size q.n D left cnt rfl HRG.out ?_ ?_)
    | go_in)
   ·intro hl0
    have HS:=Hmq (zZj _ _ ks wr HROW.out HC.out.nodup (by omega))
    have HAL:Hid (∀ k,k∈ks↔okQ k/\¬ (s k).bare/\p (s k)=true):=fun k=>by
     rw [HC.out.mem]
     constructor
     ·rintro ⟨h1,h2,_,h4⟩;exact ⟨h1,((HD.out k h1).2).1 h2,h4⟩
     ·rintro ⟨h1,h2,h4⟩;exact ⟨h1,((HD.out k h1).2).2 h2,hl0 _,h4⟩
    have HRB:Hid (∀ b,(Value.slice pa ks.length pcap).ownBlock=some b->w.heap.size+1<=b):=fun b hb=>(zAq HROW.out hb).1
    clear hl0
    go_wp2_with (first | (go_at_call 94;refine HS.out.mono ?_;rintro e w5 ⟨rfl,ps',hps,hpm,hpw,hmm⟩) | go_in)
    go_ret
    exact ⟨_,ps',rfl,hps,⟨hpw,fun k=>by rw [hpm.mem_iff];exact HAL.out k⟩,fun b hb=>by have:=HRB.out b hb;omega,by rw [hpm.length_eq];omega,HM.out.trans' hmm (fun b hb e=>by have:=HRB.out b e;omega)⟩
   ·intro x c d w1 cnt1 hok hlx hc hd hat hrg1 hlt hg1 hen
    have hdd:D.atKey (keyQ x) zWt=encK (q.hd x true) (q.hd x false):=(HD.out x hok).1
    obtain ⟨rfl,rfl⟩:c=q.hd x true/\d=q.hd x false:=yGa hc hd (HH.out.hdr x true hok) (HH.out.hdr x false hok) (by rw [<-hat,hdd])
    obtain ⟨ha,hcap,hhv⟩:=zAg (HH.out.rows x true hok id)
    obtain ⟨wa,wcap,hwv⟩:=zAg (HH.out.rows x false hok id)
    have hm1:Mod zAb w w1:=HM.out.grown hg1 (fun y hy hlt=>by cases hy;omega)
    have hm2:Mod zAb w (w1.alloc (.cells #[q.hd x true,q.hd x false] 212)):=hm1.alloc _
    have HAS:=HA.out.ask x (w1.alloc (.cells #[q.hd x true,q.hd x false] 212)) hok (HH.out.mod hm2 id (fun _ _=>id)) hm2
    rw [hhv,hwv] at hen HAS ⊢
    have hhas:=yBf HRG.out hlx
    have HASK:=Hmq HAS
    rw [hhv,hwv] at hm2
    have HM2:=Hmq hm2
    have HRG1:=Hmq (hrg1.alloc (.cells #[.slice ha ((s x).list true).length hcap,.slice wa ((s x).list false).length wcap] 212))
    have HR1:Hid (RowS (w1.alloc (.cells #[.slice ha ((s x).list true).length hcap,.slice wa ((s x).list false).length wcap] 212)) (w.heap.size+1) (.slice pa ks.length pcap) ks):=by
     have hmr:Mod (zAd w.heap.size) wr w1:=(Mod.refl _ wr).grown hg1 (fun y hy _=>by cases hy;rfl)
     exact RowS.mod (zAn HROW.out hmr (fun k hk _ _ e=>by simp only [zAd] at e;omega)) ((Mod.refl zAb _).alloc _) (fun _ _=>id)
    have hz1:w.heap.size+1<=w1.heap.size:=Nat.le_trans hz hg1.size
    have HHN:=Hmq hhv
    have HWN:=Hmq hwv
    clear hrg1 hg1 hat hc hd hm1 hm2 HAS hdd hhv hwv
    go_wp2_with fail
    refine HASK.out.mono ?_
    rintro e w2 ⟨rfl,hm2⟩
    have HR2:=Hmq (HRG1.out.kept hm2.growsQ (by simp) (by simp))
    have HW2:=Hmq (HR1.out.mod hm2 (fun _ _=>id))
    have HM3:=Hmq (HM2.out.trans hm2)
    have hz2:w.heap.size+1<=w2.heap.size:=Nat.le_trans hz1 (by have:=hm2.size;simp at this;omega)
    clear hm2
    cases hps:p (s x) with
    | false=>
     have HCS:=Hmq (HC.out.skip hps)
     go_wp2_with fail
     go_roundw
     case rel=>exact ⟨_,cnt1,ks,HR2.out,HW2.out,HCS.out,HM3.out,hz2,by omega⟩
     case measure=>rw [HR2.out.left_eq,HRG.out.left_eq];exact hlt
    | true=>
     have HCS:=Hmq (HC.out.take hok hlx hhas hps)
     have hk63:ks.length+1<=maxLen:=by unfold maxLen;omega
     have hk47:(ks.length+1)*16<=140737488355328:=by omega
     have HOE:Hid (∀ u∈[Value.string x],u.oneCell'=true):=fun u hu=>by simp at hu;rw [hu];rfl
     go_wp2_with (first
      | (at_builtin;refine wpList_append_own_at _ rfl (.tmp 21) (.tmp 23) 50 rfl (w.heap.size+1) 9 i0 _ 1 16 Tryz.underlying50 yi yz0 yz1 yz2 rfl (by omega) _ _ _ rfl (HW2.out.alloc _) ⟨w2.heap.size,0,none⟩ 1 1 [.string x] rfl rfl (World.news_of_block (heap_alloc_new w2 _)) HOE.out hk63 hk47 (by simp;omega) ?_)
      | fail)
     intro v7 w7 hown7 hgrow7 _ _
     have HR7:=Hmq ((HR2.out.alloc _).kept hgrow7 (fun e=>by have:=(zAq HW2.out e.symm).1;omega) (fun e=>by have:=(zAq HW2.out e.symm).1;omega))
     have HM7:Hid (Mod zAb w w7):=(HM3.out.alloc _).grown hgrow7 (fun k hk hlt=>by have:=(zAq HW2.out hk).1;omega)
     have hz7:w.heap.size+1<=w7.heap.size:=Nat.le_trans (by simp;omega) hgrow7.size
     obtain ⟨a7,cap7,hv7⟩:=zAg hown7
     subst hv7
     have HW7:=Hmq hown7
     clear hown7 hgrow7
     go_wp2_with fail
     go_roundw
     case rel=>exact ⟨_,cnt1,ks++[x],HR7.out,by unfold RowS;rw [List.length_append,List.map_append];exact HW7.out,HCS.out,HM7.out,hz7,by simp;omega⟩
     case measure=>rw [HR7.out.left_eq,HRG.out.left_eq];exact hlt
theorem ySt{B N:Nat}{q:TbM}{s:Tab}{w:World}{tb:Nat}{t:Int}(hN:N<=900)(ht:Blk w tb [.int .i64 t] 3):AskK 262 #[.pointer (some ⟨tb,0,none⟩)] (fun k=>atB k t) B N q s w:=by
 refine ⟨zJz Tryz.func262 (by kernel_rfl) rfl,fun k wr hk hT hm=>?_⟩
 show Calls Tryz.prog 262 #[.agg #[q.hd k true,q.hd k false],.pointer (some ⟨tb,0,none⟩)] wr _
 have ht2:=ht.mod hm id
 have hfew:=hT.few k hk
 obtain ⟨w1,hw1⟩:∃ x,x=wr.alloc (.cells #[q.hd k true,q.hd k false] 212):=⟨_,rfl⟩
 have hm1:Mod zAb wr w1:=by rw [hw1];exact (Mod.refl _ wr).alloc _
 have hb1:Blk w1 wr.heap.size [q.hd k true,q.hd k false] 212:=by rw [hw1];exact Blk.new wr [q.hd k true,q.hd k false] 212
 have hr1:=(hT.rows k true hk id).mod hm1 (fun _ _=>id)
 have hr2:=(hT.rows k false hk id).mod hm1 (fun _ _=>id)
 have H1:=Hmq (zJu w1.heap.size (q.hd k true) (s k).held t w1 (hr1.toV (Nat.le_refl _)) (hT.ok k hk).held (by omega))
 have H2:Hid (∀ w2,Mod zAb w1 w2->Calls Tryz.prog 175 #[q.hd k false,.int .i64 t] w2 fun e w'=>e=.returned (.int .i64 (zCw (s k).waits t))/\Mod zAb w2 w'):=fun w2 hm2=>zJu w2.heap.size (q.hd k false) (s k).waits t w2 ((RowK.mod hr2 hm2 (fun _ _=>id)).toV (Nat.le_refl _)) (hT.ok k hk).waits (by have:=hfew;omega)
 have HAT:Hid (atB (s k) t=(decide (zCw (s k).held t≠0) || decide (zCw (s k).waits t≠0))):=rfl
 obtain ⟨ha,hcap,hhv⟩:=zAg (hT.rows k true hk id)
 obtain ⟨wa,wcap,hwv⟩:=zAg (hT.rows k false hk id)
 have p0:=hb1.cell 0 rfl
 have p1:=hb1.cell 1 rfl
 have hz:=hb1.lt
 have t0:=(ht2.mod hm1 id).cell 0 rfl
 have htz:=(ht2.mod hm1 id).lt
 rw [hhv] at p0 H1
 rw [hwv] at p1 H2
 rw [hhv,hwv] at hw1 ⊢
 have HM1:=Hmq hm1
 generalize atB (s k) t=r at HAT
 clear hm1 hb1 hr1 hr2 ht2 ht hT
 by_cases g1:zCw (s k).held t=0
 ·have HR:Hid (r=(zCw (s k).waits t != 0)):=by rw [HAT.out,Hid,g1];rw [Bool.eq_iff_iff];simp
  rw [g1] at H1
  clear HAT
  go_enter Tryz.func262,Tryz.ntmps262
  go_upto_region 1 with fail
  rw [<-hw1]
  clear hw1
  go_wp2_with fail
  refine H1.out.mono ?_
  rintro e w2 ⟨rfl,hm2⟩
  have q1:=hm2.cell p1 id
  have u0:=hm2.cell t0 id
  have hz2:=Nat.lt_of_lt_of_le hz hm2.size
  have htz2:=Nat.lt_of_lt_of_le htz hm2.size
  have H22:=Hmq (H2.out w2 hm2)
  have HM2:=Hmq (HM1.out.trans hm2)
  clear p0 p1 t0 hm2 H2
  go_wp2_with fail
  refine H22.out.mono ?_
  rintro e w3 ⟨rfl,hm3⟩
  go_wp2_with fail
  go_ret
  exact ⟨by rw [HR.out];rfl,HM2.out.trans hm3⟩
 ·have HR:Hid (r=(zCw (s k).held t != 0)):=by rw [HAT.out,Hid];rw [Bool.eq_iff_iff];simp [g1]
  clear HAT
  generalize zCw (s k).held t=mm at g1 H1 HR
  go_enter Tryz.func262,Tryz.ntmps262
  go_upto_region 1 with fail
  rw [<-hw1]
  clear hw1
  go_wp2_with fail
  refine H1.out.mono ?_
  rintro e w2 ⟨rfl,hm2⟩
  have HM2:=Hmq (HM1.out.trans hm2)
  clear p0 p1 t0 hm2 H2
  have hmm:(mm == 0)=false:=by simpa using g1
  go_wp2_with fail
  go_ret
  exact ⟨by rw [HR.out];first | rfl | (simp [g1]),HM2.out⟩
theorem of_any(B N:Nat)(q:TbM)(s:Tab)(t:Int)(w:World)(h:TbP w B N q s)(hqn:q.n<=1000000)(hN:N<=900) :
  Calls Tryz.prog 238 #[.pointer (some ⟨q.b,q.pre.length,none⟩),.int .i64 t] w (yGl w s (fun k=>atB k t) q.n):=by
 have hmf:∀ fn first cap w,(Instr.makeFunc fn first cap).run Tryz.prog w=.ok (.func fn first cap) w:=fun _ _ _ _=>rfl
 obtain ⟨w1,hw1⟩:∃ x,x=w.alloc (.cells #[.int .i64 t] 3):=⟨_,rfl⟩
 have hm1:Mod zAb w w1:=by rw [hw1];exact (Mod.refl _ w).alloc _
 have hb1:Blk w1 w.heap.size [.int .i64 t] 3:=by rw [hw1];exact Blk.new w [.int .i64 t] 3
 have HN:=Hmq (yAl 262 #[.pointer (some ⟨w.heap.size,0,none⟩)] (fun k=>atB k t) B N q s w1 (h.mod hm1 id (fun _ _=>id)) (ySt hN hb1) hqn)
 have HM1:=Hmq hm1
 clear h hm1 hb1
 go_enter Tryz.func238,Tryz.ntmps238
 go_upto_region 1 with fail
 rw [<-hw1]
 clear hw1
 go_wp2_with fail
 refine HN.out.mono ?_
 rintro e w2 ⟨v,ks,rfl,hk,hs,hv,hl,hm⟩
 obtain ⟨a,cap,rfl,h1,h2⟩:=SlR.slice hk
 have HK:=Hmq hk
 clear hk
 go_wp2_with fail
 go_ret
 exact ⟨_,ks,rfl,HK.out,hs,fun b hb=>Nat.le_trans HM1.out.size (hv b hb),hl,HM1.out.trans hm⟩
theorem TbX.congr{w:World}{B N:Nat}{q:TbM}{s s':Tab}{no:ByteArray->Prop}(h:TbX w B N q s no)(he:∀ k,okQ k->s k=s' k):TbX w B N q s' no:=by
 refine ⟨h.blk,h.bt,?_,h.hdr,fun k i hk hno=>by rw [<-he k hk];exact h.rows k i hk hno,h.apart,fun k hk=>by rw [<-he k hk];exact h.ok k hk,fun k hk=>by rw [<-he k hk];exact h.few k hk⟩
 have hm:=h.map
 cases hq:q.m with
 | none=>rw [hq] at hm;exact fun k hk=>by rw [<-he k hk];exact hm k hk
 | some g=>
  rw [hq] at hm
  obtain ⟨h0,D,h1,h2⟩:=hm
  exact ⟨h0,D,h1,fun k hk=>by rw [<-he k hk];exact h2 k hk⟩
def zLd(s:Tab)(t:Int)(P:List ByteArray):Tab:=fun k=>if inK P k then relN s t k else s k
theorem yHi(s:Tab)(t:Int):zLd s t []=s:=by funext k;simp [zLd,inK]
theorem yFi{s:Tab}{t:Int}{P:List ByteArray}{k:ByteArray}(h:k∉P):zLd s t P k=s k:=by unfold zLd;rw [if_neg (fun e=>h (zSr.1 e))]
theorem yHh{s:Tab}{t:Int}{P:List ByteArray}{k:ByteArray}(hk:k∉P)(hat:atB (s k) t=true):updK (zLd s t P) k (outN (s k) t)=zLd s t (P++[k]):=by
 funext y
 unfold updK zLd
 by_cases e:y=k
 ·subst e
  rw [if_pos rfl,if_pos (zSr.2 (by simp))]
  unfold relN
  rw [if_pos hat]
 ·rw [if_neg e]
  have:inK (P++[k]) y=inK P y:=by
   rw [Bool.eq_iff_iff,zSr,zSr,List.mem_append,List.mem_singleton]
   exact ⟨fun h=>h.resolve_right e,.inl⟩
  rw [this]
theorem yTp{k:KeyS}(h:k.bare)(t:Int):atB k t=false:=by
 obtain ⟨h1,h2⟩:=h
 unfold atB zCw
 rw [h1,h2];simp
theorem yLc{s:Tab}{t:Int}{ks:List ByteArray}(h:zWq s (fun k=>atB k t) ks)(k:ByteArray)(hk:okQ k):zLd s t ks k=relN s t k:=by
 unfold zLd
 split
 ·rfl
 ·rename_i e
  have hn:k∉ks:=fun h2=>e (zSr.2 h2)
  unfold relN
  have:¬ atB (s k) t=true:=fun ha=>hn ((h.2 k).2 ⟨hk,fun hb=>(by rw [yTp hb] at ha;cases ha),ha⟩)
  rw [if_neg this]
theorem zPi:∀ (q held kept:List ClmD),(zDh held kept q).1.length+(zDh held kept q).2.1.length<=held.length+kept.length+q.length
 | [],held,kept=>by simp [zDh]
 | c :: q,held,kept=>by
  unfold zDh
  split
  ·have:=zPi q (zDg held c) kept
   have:=zOj held c
   simp only [List.length_cons]
   omega
  ·have:=zPi q held (kept++[c])
   simp only [List.length_cons,List.length_append,List.length_nil] at *
   omega
theorem ySs(k:KeyS)(t:Int):(outN k t).held.length+(outN k t).waits.length<=k.held.length+k.waits.length:=by
 have:=zPi (zCy k.waits t) (zCy k.held t) []
 have:=zLi k.held t
 have:=zLi k.waits t
 simp only [outN,List.length_nil] at *
 omega
structure GrD where
 tx:Int
 key:ByteArray
 mode:Int
def zSx(g:GrD):List Value:=[.int .i64 g.tx,.string g.key,.int .i64 g.mode]
def zHk:List GrD->List Value
 | []=>[]
 | o :: os=>zSx o++zHk os
theorem zQj:∀ a b,zHk (a++b)=zHk a++zHk b
 | [],b=>by simp [zHk]
 | p :: a,b=>by simp [zHk,zQj a b]
def RowG(w:World)(B:Nat)(v:Value)(l:List GrD):Prop:=w.ownsRow B 285 3 v l.length (zHk l)
theorem RowG.mod{G:Nat->Prop}{w w':World}{B:Nat}{v:Value}{os:List GrD}(h:RowG w B v os)(hm:Mod G w w')(hG:∀ k,v.ownBlock=some k->¬ G k):RowG w' B v os:=zAn h hm (fun k _ _ e=>hG k e)
theorem Tryz.infoGQ:(Tryz.prog.info? 285).map (fun i=>(i.zero,i.size,i.bytes))=some (some (.agg #[.int .i64 0,.string ByteArray.empty,.int .i64 0]),3,32):=by kernel_rfl
def grOf(k:ByteArray)(c:ClmD):GrD:=⟨c.tx,k,c.mode⟩
def zCq(s:Tab)(t:Int)(ks:List ByteArray):List GrD:=ks.flatMap fun k=>(gotN (s k) t).map (grOf k)
theorem yBh(s:Tab)(t:Int)(ks:List ByteArray)(k:ByteArray):zCq s t (ks++[k])=zCq s t ks++(gotN (s k) t).map (grOf k):=by simp [zCq]
theorem yLz{w w6:World}{B N:Nat}{q:TbM}{s:Tab}{name:ByteArray}{v:Bool->Value}{k':KeyS}(h:TbP w B N q s)(hn:okQ name)(hr:∀ i,RowK w6 B (v i) (k'.list i))(hne:∀ x,(v true).ownBlock=some x->(v false).ownBlock≠some x)
  (hm:Mod (fun x=>(∃ i,(q.hd name i).ownBlock=some x)\/w.heap.size<=x) w w6) (hat:∀ i x,(v i).ownBlock=some x->(∃ j,(q.hd name j).ownBlock=some x)\/w.heap.size<=x) :
  zUi w6 B q name v k'/\TbX w6 B N q s (·=name):=by
 have hlt:∀ k i x,okQ k->(q.hd k i).ownBlock=some x->x<w.heap.size:=fun k i x hk hx=>(h.old hk id hx).2.1
 refine ⟨⟨hr,hne,fun k i j x hk hkn h1 h2=>?_⟩,(h.less _).turn hm (fun e=>?_) (fun x hx e=>?_) (fun k i x hk hkn hx e=>?_)⟩
 ·rcases hat j x h2 with ⟨l,e2⟩ | e2
  ·exact hkn (h.apart k name i l x hk hn h1 e2).1
  ·have:=hlt k i x hk h1;omega
 ·rcases e with ⟨i,e⟩ | e
  ·exact (h.row_ne hn id e).1 rfl
  ·have:=h.blk.lt;omega
 ·rcases e with ⟨i,e⟩ | e
  ·exact (h.row_ne hn id e).2 hx
  ·have:=(h.lt (.inl hx)).2;omega
 ·rcases e with ⟨l,e⟩ | e
  ·exact hkn (h.apart k name i l x hk hn hx e).1
  ·have:=hlt k i x hk hx;omega
structure RelI(w w1 wr:World)(B N:Nat)(q q':TbM)(s:Tab)(t:Int)(ks:List ByteArray)(i:Nat)(gv:Value):Prop where
 tb:TbP wr B N q' (zLd s t (ks.take i))
 b:q'.b=q.b
 pre:q'.pre=q.pre
 post:q'.post=q.post
 ty:q'.t=q.t
 n:q'.n<=q.n
 gr:RowG wr w1.heap.size gv (zCq s t (ks.take i))
 md:Mod (fun x=>x=q.b\/q.own x) w1 wr
 own:∀ x,q'.own x->q.own x\/w1.heap.size<=x
structure RelQ(w w':World)(B N:Nat)(q q':TbM)(s:Tab)(t:Int)(gv:Value)(ks:List ByteArray):Prop where
 names:zWq s (fun k=>atB k t) ks
 tb:TbP w' B N q' (relN s t)
 b:q'.b=q.b
 pre:q'.pre=q.pre
 post:q'.post=q.post
 ty:q'.t=q.t
 n:q'.n<=q.n
 gr:RowG w' w.heap.size gv (zCq s t ks)
 md:Mod (fun x=>x=q.b\/q.own x) w w'
 own:∀ x,q'.own x->q.own x\/w.heap.size<=x
theorem zMl{w:World}{B:Nat}{gv:Value}{l:List GrD}(h:RowG w B gv l){x:Nat}(hx:gv.ownBlock=some x):∃ cur,w.heap[x]?=some (.cells cur 285 (0,0)):=(zAq h hx).2.2
theorem yBi{w:World}{B B':Nat}{gv v:Value}{l:List GrD}{m:List ClmD}(h:RowG w B gv l)(hr:RowK w B' v m){x:Nat}(hx:gv.ownBlock=some x):v.ownBlock≠some x:=fun e=>by
 obtain ⟨c1,h1⟩:=zMl h hx
 obtain ⟨_,_,c2,h2⟩:=zAq hr e
 rw [h1] at h2
 simp at h2
theorem yBj{w:World}{B:Nat}{gv:Value}{l:List GrD}{b:Nat}{cs:List Value}{ty:TypeId}(h:RowG w B gv l)(hb:Blk w b cs ty)(hty:ty≠285){x:Nat}(hx:gv.ownBlock=some x):x≠b:=fun e=>by
 obtain ⟨c1,h1⟩:=zMl h hx
 unfold Blk at hb
 rw [<-e,h1] at hb
 simp at hb
 exact hty hb.2.symm
theorem yMk{w:World}{B B' N:Nat}{gv:Value}{l:List GrD}{q:TbM}{s:Tab}(h:RowG w B gv l)(hT:TbP w B' N q s)(hty:q.t≠285){x:Nat}(hx:gv.ownBlock=some x):x≠q.b/\¬ q.own x:=by
 refine ⟨yBj h hT.blk hty hx,fun e=>?_⟩
 rcases e with e | ⟨k,i,hk,e⟩
 ·obtain ⟨c1,h1⟩:=zMl h hx
  obtain ⟨_,D,⟨es,clock,hb,_⟩,_⟩:=hT.map.get e
  rw [h1] at hb
  cases hb
 ·exact yBi h (hT.rows k i hk id) hx e
theorem yBg(g:GrD):∀ u∈zSx g,u.oneCell'=true:=by
 intro u hu
 simp [zSx] at hu
 rcases hu with rfl | rfl | rfl <;> rfl
theorem zXz{α β:Type}{l:List α}{k:Nat}{c:α}(f:α->β)(h:l[k]?=some c):(l.take (k+1)).map f=(l.take k).map f++[f c]:=by rw [zBt h,List.map_append];rfl
structure ySd(wr w6:World)(B N:Nat)(q':TbM)(s':Tab)(name:ByteArray)(kb:Nat)(v:Bool->Value)(gv:Value)(K:KeyS)(t:Int):Prop where
 blk:Blk w6 kb [v true,v false] 212
 kept:zUi w6 B q' name v (outN K t)
 tx:TbX w6 B N q' s' (·=name)
 got:RowK w6 B gv (gotN K t)
 vo:∀ i x,(v i).ownBlock=some x->q'.own x\/wr.heap.size<=x
 md:Mod (fun x=>(∃ i,(q'.hd name i).ownBlock=some x)\/wr.heap.size<=x) wr w6
theorem yPf{wr w3 w4 w6:World}{B N:Nat}{q':TbM}{s':Tab}{name:ByteArray}{t:Int}{hv' wv' hv6 wv6 gv:Value}(h:TbP wr B N q' s')(hn:okQ name)(hm3:Mod zAb wr w3)(hb3:wr.heap.size<w3.heap.size)
  (hk4:KyP w4 B wr.heap.size hv' wv' (zCy (s' name).held t) (zCy (s' name).waits t)) (ho1:hv'.ownBlock=(q'.hd name true).ownBlock) (ho2:wv'.ownBlock=(q'.hd name false).ownBlock) (hm4:Mod (fun x=>x=wr.heap.size\/(q'.hd name true).ownBlock=some x\/(q'.hd name false).ownBlock=some x) w3 w4)
  (hP:zTq w4 w6 B wr.heap.size hv' (zCy (s' name).held t) (zCy (s' name).waits t) (zCy (s' name).waits t).length gv hv6 wv6 (zDh (zCy (s' name).held t) [] (zCy (s' name).waits t)).1 (zDh (zCy (s' name).held t) [] (zCy (s' name).waits t)).2.1 (zDh (zCy (s' name).held t) [] (zCy (s' name).waits t)).2.2) :
  ySd wr w6 B N q' s' name wr.heap.size (fun i=>if i then hv6 else wv6) gv (s' name) t:=by
 have hz3:=hm3.size
 have hz4:=hm4.size
 have hmd:Mod (fun x=>(∃ i,(q'.hd name i).ownBlock=some x)\/wr.heap.size<=x) wr w6:=by
  refine ((hm3.mono (fun _ _ e=>e.elim)).trans (hm4.mono (fun x _ e=>?_))).trans (hP.md.mono (fun x _ e=>?_))
  ·rcases e with e | e | e
   ·exact .inr (by omega)
   ·exact .inl ⟨true,e⟩
   ·exact .inl ⟨false,e⟩
  ·rcases e with e | e
   ·exact .inr (by omega)
   ·exact .inl ⟨true,by rw [<-ho1];exact e⟩
 have hat:∀ (i:Bool) x,((fun i:Bool=>if i then hv6 else wv6) i).ownBlock=some x->(∃ j,(q'.hd name j).ownBlock=some x)\/wr.heap.size<=x:=fun i x hx=>by
  cases i with
  | true=>
   simp only [if_true] at hx
   rcases hP.ha with e | e
   ·exact .inl ⟨true,by rw [<-ho1,<-e];exact hx⟩
   ·exact .inr (by have:=e x hx;omega)
  | false=>
   simp only [Bool.false_eq_true,if_false] at hx
   exact .inr (by have:=hP.wa x hx;omega)
 obtain ⟨hKP,hTX⟩:=yLz (v:=fun i:Bool=>if i then hv6 else wv6) (k':=outN (s' name) t) h hn (fun i=>by cases i;exact hP.ky.w;exact hP.ky.h) (fun x h1 h2=>by simp only [if_true,Bool.false_eq_true,if_false] at h1 h2;exact hP.ky.ne x h1 h2) hmd hat
 refine ⟨hP.ky.blk,hKP,hTX,hP.got,fun i x hx=>?_,hmd⟩
 rcases hat i x hx with ⟨j,e⟩ | e
 ·exact .inl (.inr ⟨name,j,hn,e⟩)
 ·exact .inr e
end Go.Proofs.YtogaigioeohjaaaGreatDoor
