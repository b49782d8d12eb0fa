import Derived.Test.YtiblcbdkiecbgaaGreatDoorM06
import Derived.BigRegion
set_option linter.unusedVariables false
set_option maxRecDepth 100000
set_option maxHeartbeats 16000000
namespace Go.Proofs.YtiblcbdkiecbgaaGreatDoor
open Go.RowKit Go.Lib Go.Maps
theorem neighbour_any(L:Lo)(g:Nat)(nv lv:Value)(s:NodeS)(wh:Int)(w:World)(h:NodeP w L g nv lv s)(hwh:wh=1\/wh = -1) :
  Calls Tryz.prog 220 #[.pointer (some ⟨g,0,none⟩),.int .i64 wh] w fun e w'=>e=.returned (.tuple #[.int .i64 ((nbrN s wh).getD 0),.bool (nbrN s wh).isSome])/\∃ m,w'=w.drewN m:=by
 obtain ⟨na,ncap,hnv⟩:=own_slice h.ns
 subst hnv
 obtain ⟨c0,c1,c2,c3,c4⟩:=blkN5 h.blk
 have hf:=h.few.1
 have HN:=Hmr h
 have HI:=Hmr (IntsV.of_own h.ns)
 have hgl:=h.blk.lt
 have HP:=Hmr (cplace_any L g _ lv s w h)
 clear h
 have hpc:=placeN_cases s
 obtain ⟨p,hp⟩:∃ q,q=placeN s:=⟨_,rfl⟩
 have HPP:=Hmr hp
 rw [<-hp] at HP hpc
 have hpb:-1<=p/\p<1000001:=by
  rcases hpc with e | ⟨k,e,_,e2⟩ <;> omega
 clear hp
 go_enter Tryz.func220,Tryz.ntmps220
 go_wp2_with fail
 refine HP.out.mono ?_
 rintro e w1 ⟨rfl,m1,rfl⟩
 have HIN:=Hmr (in_any L g _ lv s (w.drewN m1) (HN.out.drewN m1))
 have hgl1:g<(w.drewN m1).heap.size:=hgl
 have hinp:inN s=decide (0<=p):=by rw [inN,<-HPP.out]
 rw [hinp] at HIN
 by_cases h0:0<=p
 ·have hd0:decide (0<=p)=true:=decide_eq_true h0
  rw [hd0] at HIN
  have HB:Hid (nbrN s wh=if decide (0<=p+wh) && decide (p+wh<(s.nodes.length:Int)) then s.nodes[(p+wh).toNat]? else none):=by
   rw [Hid,nbrN,hinp,hd0,<-HPP.out,Bool.true_and]
  by_cases h1:0<=p+wh
  ·by_cases h2:p+wh<(s.nodes.length:Int)
   ·obtain ⟨kk,hkk⟩:∃ kk:Nat,p+wh=kk:=⟨(p+wh).toNat,by omega⟩
    rw [hkk] at HB h1 h2
    obtain ⟨y,hy⟩:∃ y,s.nodes[kk]?=some y:=⟨_,List.getElem?_eq_getElem (by omega)⟩
    have HB2:Hid (nbrN s wh=some y):=by
     rw [Hid,HB.out,decide_eq_true h1,decide_eq_true h2];simpa using hy
    obtain ⟨a',cap',ha',hc1,hc2,hcl⟩:=HI.out
    simp only [Value.slice.injEq] at ha'
    obtain ⟨rfl,_,rfl⟩:=ha'
    rcases hcl with e | ⟨b,off,rfl,hcl⟩
    ·rw [e] at hy;simp at hy
    have q0:=hcl kk y hy
    have hd1:decide ((kk:Int)<0)=false:=decide_eq_false (by omega)
    have hd2:decide ((kk:Int) ≥ (s.nodes.length:Int))=false:=decide_eq_false (by omega)
    have hd3:decide ((s.nodes.length:Int)<=(kk:Int))=false:=decide_eq_false (by omega)
    have hwr:IntKind.i64.wrap (p+wh)=(kk:Int):=by rw [IntKind.wrap_i64];omega
    have hwr2:wrap64 (p+wh)=(kk:Int):=by rw [hkk];unfold wrap64;omega
    clear hcl hy HB HP HN
    go_wp2_with fail
    refine HIN.out.mono ?_
    rintro e w2 ⟨rfl,m2,rfl⟩
    go_wp2_with fail
    refine bodyPost_ret (results_tmp2 rfl _ _ _) rfl ⟨?_,m1+m2,rfl⟩
    rw [HB2.out];rfl
   ·have HB2:Hid (nbrN s wh=none):=by
     rw [Hid,HB.out,decide_eq_false h2,Bool.and_false];rfl
    obtain ⟨kk,hkk⟩:∃ kk:Nat,p+wh=kk:=⟨(p+wh).toNat,by omega⟩
    rw [hkk] at h1 h2
    have hd1:decide ((kk:Int)<0)=false:=decide_eq_false (by omega)
    have hd2:decide ((kk:Int) ≥ (s.nodes.length:Int))=true:=decide_eq_true (by omega)
    have hd3:decide ((s.nodes.length:Int)<=(kk:Int))=true:=decide_eq_true (by omega)
    have hwr2:wrap64 (p+wh)=(kk:Int):=by rw [hkk];unfold wrap64;omega
    clear HB HP HN
    go_wp2_with fail
    refine HIN.out.mono ?_
    rintro e w2 ⟨rfl,m2,rfl⟩
    go_wp2_with fail
    refine bodyPost_ret (results_tmp2 rfl _ _ _) rfl ⟨?_,m1+m2,rfl⟩
    rw [HB2.out];rfl
  ·have HB2:Hid (nbrN s wh=none):=by
    rw [Hid,HB.out,decide_eq_false h1,Bool.false_and];rfl
   have hd1:decide (p+wh<0)=true:=decide_eq_true (by omega)
   have hwr2:wrap64 (p+wh)=p+wh:=by unfold wrap64;omega
   clear HB HP HN
   go_wp2_with fail
   refine HIN.out.mono ?_
   rintro e w2 ⟨rfl,m2,rfl⟩
   go_wp2_with fail
   refine bodyPost_ret (results_tmp2 rfl _ _ _) rfl ⟨?_,m1+m2,rfl⟩
   rw [HB2.out];rfl
 ·have hd0:decide (0<=p)=false:=decide_eq_false h0
  rw [hd0] at HIN
  have HB2:Hid (nbrN s wh=none):=by
   rw [Hid,nbrN,hinp,hd0,Bool.false_and];rfl
  clear HP HN
  go_wp2_with fail
  refine HIN.out.mono ?_
  rintro e w2 ⟨rfl,m2,rfl⟩
  go_wp2_with fail
  refine bodyPost_ret (results_tmp2 rfl _ _ _) rfl ⟨?_,m1+m2,rfl⟩
  rw [HB2.out];rfl
theorem cid_any(L:Lo)(g:Nat)(nv lv:Value)(s:NodeS)(w:World)(h:NodeP w L g nv lv s) :
  Calls Tryz.prog 166 #[.pointer (some ⟨g,0,none⟩)] w fun e w'=>e=.returned (.int .i64 s.id)/\w'=w:=by
 obtain ⟨c0,c1,c2,c3,c4⟩:=blkN5 h.blk
 clear h
 go_enter Tryz.func166,Tryz.ntmps166
 go_wp2_with fail
 go_ret
 exact ⟨rfl,rfl⟩
theorem cepoch_any(L:Lo)(g:Nat)(nv lv:Value)(s:NodeS)(w:World)(h:NodeP w L g nv lv s) :
  Calls Tryz.prog 186 #[.pointer (some ⟨g,0,none⟩)] w fun e w'=>e=.returned (.int .i64 s.epoch)/\w'=w:=by
 obtain ⟨c0,c1,c2,c3,c4⟩:=blkN5 h.blk
 clear h
 go_enter Tryz.func186,Tryz.ntmps186
 go_wp2_with fail
 go_ret
 exact ⟨rfl,rfl⟩
theorem cnew_any(L:Lo)(id:Int)(w:World)(hid:int64 id)(hL:L.n<=w.heap.size)(hx:∀ k,L.x k->k<w.heap.size) :
  Calls Tryz.prog 194 #[.int .i64 id] w fun e w'=>e=.returned (.pointer (some ⟨w.heap.size,0,none⟩))/\NodeP w' L w.heap.size (.slice none 0 0) (.slice none 0 0) ⟨id,0,[],[],0⟩/\Mod noBlock w w':=by
 go_enter Tryz.func194,Tryz.ntmps194
 go_wp2_with fail
 go_ret
 exact ⟨rfl,⟨Blk.new w _ _,hL,World.ownsRow_nil _ _ _ _,RowC.nil _ _,⟨hid,by simp [int64],by simp⟩,by simp,by simp,fun k hk=>by have:=hx k hk;rw [World.size_alloc];omega⟩,(Mod.refl _ w).alloc _⟩
theorem RowM.one{w:World}{L:Lo}(m:MsgD)(u:Value)(hL:L<=w.heap.size)(hu:PairsT w L u m.cmd.writes)(hg:goodM m) :
  RowM (w.alloc (.cells #[.int .i64 m.kind,.int .i64 m.frm,.int .i64 m.to,.int .i64 m.epoch,.int .i64 m.n,.int .i64 m.cmd.kind,.int .i64 m.cmd.tx,.int .i64 m.cmd.time,u] 178)) L (.slice (some ⟨w.heap.size,0,none⟩) 1 1) [m]:=by
 refine ⟨[u],rfl,⟨rfl,.inr ⟨w.heap.size,1,_,rfl,hL,heap_alloc_new w _,Nat.le_refl _,by unfold maxLen;omega,rfl,rfl⟩⟩,fun i m' u' hi hu'=>?_,fun m' hm'=>?_⟩
 ·have e:i=0:=by
   cases i with
   | zero=>rfl
   | succ i=>simp at hi
  subst e
  simp at hi hu'
  subst hi hu'
  exact hu.mod ((Mod.refl noBlock w).alloc _) (Qm.none _ _)
 ·simp at hm';subst hm';exact hg
def sendN(s:NodeS)(wh:Int)(m:MsgD):List MsgD:=match nbrN s wh with
 | none=>[]
 | some t=>[⟨m.kind,s.id,t,s.epoch,m.n,m.cmd⟩]
theorem nbrN_mem{s:NodeS}{wh t:Int}(h:nbrN s wh=some t):t∈s.nodes:=by
 unfold nbrN at h
 split at h
 ·exact List.mem_of_getElem? h
 ·cases h
def freshV(w:World)(v:Value):Prop:=∀ k,v.ownBlock=some k->w.heap.size<=k
theorem csend_any(L:Lo)(g:Nat)(nv lv:Value)(s:NodeS)(wh:Int)(m:MsgD)(u:Value)(w:World)(h:NodeP w L g nv lv s)(hwh:wh=1\/wh = -1)(hu:PairsT w L u m.cmd.writes)(hgm:int64 m.kind/\int64 m.n/\goodC m.cmd) :
  Calls Tryz.prog 171 #[.pointer (some ⟨g,0,none⟩),.int .i64 wh,.agg #[.int .i64 m.kind,.int .i64 m.frm,.int .i64 m.to,.int .i64 m.epoch,.int .i64 m.n,.int .i64 m.cmd.kind,.int .i64 m.cmd.tx,.int .i64 m.cmd.time,u]] w fun e w'=>
   ∃ v,e=.returned v/\RowM w' L v (sendN s wh m)/\freshV w v/\Mod noBlock w w':=by
 obtain ⟨ua,ucap,rfl⟩:∃ ua ucap,u=.slice ua m.cmd.writes.length ucap:=by obtain ⟨ua,ucap,h,_⟩:=hu;exact ⟨ua,ucap,h⟩
 obtain ⟨w1,hw1⟩:∃ q,q=w.alloc (.cells #[.int .i64 m.kind,.int .i64 m.frm,.int .i64 m.to,.int .i64 m.epoch,.int .i64 m.n,.int .i64 m.cmd.kind,.int .i64 m.cmd.tx,.int .i64 m.cmd.time,.slice ua m.cmd.writes.length ucap] 178):=⟨_,rfl⟩
 have hm1:Mod noBlock w w1:=by rw [hw1];exact (Mod.refl _ w).alloc _
 have hB1:Blk w1 w.heap.size (msgCells m (.slice ua m.cmd.writes.length ucap)) 178:=by rw [hw1];exact Blk.new w _ _
 have h1:=h.quiet hm1
 have hgl:=h.blk.lt
 have hlow:=h.low
 have HN:=Hmr (neighbour_any L g nv lv s wh w1 h1 hwh)
 have HINT:=Hmr h.ints
 have HU:=Hmr (hu.mod hm1 (Qm.none _ _))
 clear h hu
 go_enter Tryz.func171,Tryz.ntmps171
 go_upto_region 1 with fail
 rw [<-hw1]
 clear hw1
 go_wp2_with fail
 refine HN.out.mono ?_
 rintro e w2 ⟨rfl,m1,rfl⟩
 cases hn:nbrN s wh with
 | none=>
  have HS:Hid (sendN s wh m=[]):=by rw [Hid,sendN,hn]
  simp only [Option.getD_none,Option.isSome_none]
  clear HN
  go_wp2_with fail
  go_ret
  exact ⟨_,rfl,by rw [HS.out];exact RowM.nil _ _,fun k hk=>by simp [Value.ownBlock] at hk,hm1.drewN _⟩
 | some t=>
  have HS:Hid (sendN s wh m=[⟨m.kind,s.id,t,s.epoch,m.n,m.cmd⟩]):=by rw [Hid,sendN,hn]
  have ht:int64 t:=HINT.out.2.2 t (nbrN_mem hn)
  simp only [Option.getD_some,Option.isSome_some]
  obtain ⟨c0,c1,c2,c3,c4⟩:=blkN5 h1.blk
  obtain ⟨⟨x0,x1,x2,x3,x4,x5,x6,x7,x8⟩,⟨y0,y1,y2,y3,y4,y5,y6,y7,y8⟩⟩:=blk9 hB1
  have hz1:=hB1.lt
  have hgz1:g<w1.heap.size:=h1.blk.lt
  clear HN h1
  go_upto_region 4 with fail
  go_region
  all_goals go_wp2_with fail
  go_ret
  obtain ⟨w5,hw5⟩:∃ q,q=(((w1.drewN (m1+1)).setCell ⟨w.heap.size,1,none⟩ (.int .i64 s.id)).setCell ⟨w.heap.size,2,none⟩ (.int .i64 t)).setCell ⟨w.heap.size,3,none⟩ (.int .i64 s.epoch):=⟨_,rfl⟩
  have hz5:w5.heap.size=w1.heap.size:=by rw [hw5];simp
  have hm15:Mod (oneBlock w.heap.size) w1 w5:=by
   rw [hw5]
   exact ((((Mod.refl (oneBlock w.heap.size) w1).drewN (m1+1)).trans (Mod.setBlk _ 1 _)).trans (Mod.setBlk _ 2 _)).trans (Mod.setBlk _ 3 _)
  have hq:Qm w1 L (oneBlock w.heap.size):=fun k _ e=>by
   simp only [oneBlock] at e;subst e
   have hb:=hB1
   simp only [Blk] at hb
   rintro (e | ⟨⟨cur,fr,e⟩,_⟩)
   ·omega
   ·rw [hb] at e;simp at e
  have hm5:Mod noBlock w w5:=hm1.trans' hm15 (fun i hi e=>by simp only [oneBlock] at e;omega)
  rw [<-hw5,<-hz5]
  have hL5:L<=w5.heap.size:=by omega
  refine ⟨_,rfl,?_,fun k hk=>?_,hm5.alloc _⟩
  ·rw [HS.out]
   exact RowM.one ⟨m.kind,s.id,t,s.epoch,m.n,m.cmd⟩ _ hL5 (HU.out.mod hm15 hq) ⟨⟨hgm.1,HINT.out.1,ht,HINT.out.2.1,hgm.2.1,hgm.2.2.1⟩,hgm.2.2.2⟩
  ·have e:w5.heap.size=k:=by simpa [Value.ownBlock] using hk
   omega
def plainMsg(kind n:Int):MsgD:=⟨kind,0,0,0,n,zeroCmd⟩
def stableN(s:NodeS)(n:Int):NodeS:=⟨s.id,s.epoch,s.nodes,s.log,n⟩
def tickN(s:NodeS):NodeS × List MsgD:=if tailN s then (stableN s s.log.length,sendN (stableN s s.log.length) (-1) (plainMsg 4 s.log.length)) else (s,sendN s 1 (plainMsg 1 s.log.length))
theorem plain_good(kind n:Int)(hk:int64 kind)(hn:int64 n):int64 (plainMsg kind n).kind/\int64 (plainMsg kind n).n/\goodC (plainMsg kind n).cmd:=by
 refine ⟨hk,hn,⟨?_,?_,?_⟩,?_⟩ <;> simp [plainMsg,zeroCmd,int64]
theorem NodeP.stabled{w:World}{L:Lo}{g:Nat}{nv lv:Value}{s:NodeS}(h:NodeP w L g nv lv s)(n:Int)(hn:0<=n/\n<=s.log.length) :
  NodeP (w.setCell ⟨g,4,none⟩ (.int .i64 n)) L g nv lv (stableN s n)/\Mod (oneBlock g) w (w.setCell ⟨g,4,none⟩ (.int .i64 n)):=by
 obtain ⟨a1,a2,_⟩:=h.apart
 have hm:Mod (oneBlock g) w (w.setCell ⟨g,4,none⟩ (.int .i64 n)):=Mod.setBlk g 4 _
 have hq:Qm w L (oneBlock g):=Qm.of_node h (fun k _ e=>.inl e)
 exact ⟨⟨h.blk.set 4 _,h.low,own_mod h.ns hm (fun k _ _ hk e=>a1 (by rw [hk];rw [e])),h.lg.mod hm hq (fun k hk e=>a2 (by rw [hk];rw [e])),h.ints,h.few,hn,fun k hk=>Nat.lt_of_lt_of_le (h.xb k hk) hm.size⟩,hm⟩
theorem ctick_any(L:Lo)(g:Nat)(nv lv:Value)(s:NodeS)(w:World)(h:NodeP w L g nv lv s) :
  Calls Tryz.prog 138 #[.pointer (some ⟨g,0,none⟩)] w fun e w'=>∃ v,e=.returned v/\NodeP w' L g nv lv (tickN s).1/\RowM w' L v (tickN s).2/\freshV w v/\Mod (oneBlock g) w w':=by
 obtain ⟨la,lcap,hlv⟩:=h.lg.slice
 subst hlv
 have HT:=Hmr (tail_any L g nv _ s w h)
 have hlow:=h.low
 have hfew:=h.few
 go_enter Tryz.func138,Tryz.ntmps138
 go_wp2_with fail
 refine HT.out.mono ?_
 rintro e w1 ⟨rfl,m1,rfl⟩
 have h1:=h.drewN m1
 have hmz:Mod noBlock w (w.drewN m1):=(Mod.refl _ w).drewN m1
 obtain ⟨c0,c1,c2,c3,c4⟩:=blkN5 h1.blk
 have f4:=h1.blk.frozen 4
 have hgz:=h1.blk.lt
 clear HT h
 cases ht:tailN s with
 | false=>
  have HK:Hid (tickN s=(s,sendN s 1 (plainMsg 1 s.log.length))):=by rw [Hid,tickN,ht];rfl
  have HS:=Hmr (csend_any L g nv _ s 1 (plainMsg 1 s.log.length) (.slice none 0 0) (w.drewN m1) h1 (.inl rfl) (PairsT.nil _ _) (plain_good _ _ (by simp [int64]) (by simp only [int64];omega)))
  have HN:=Hmr h1
  clear h1
  go_wp2_with fail
  refine HS.out.mono ?_
  rintro e w2 ⟨v,rfl,hR,hfv,hm2⟩
  clear HS
  go_wp2_with fail
  go_ret
  exact ⟨v,rfl,by rw [HK.out];exact HN.out.quiet hm2,by rw [HK.out];exact hR,hfv,(hmz.trans hm2).mono (fun _ _ e=>e.elim)⟩
 | true=>
  have HK:Hid (tickN s=(stableN s s.log.length,sendN (stableN s s.log.length) (-1) (plainMsg 4 s.log.length))):=by rw [Hid,tickN,ht];rfl
  obtain ⟨hN2,hm2⟩:=h1.stabled s.log.length (by omega)
  have d4:=hN2.blk.cell 4 rfl
  have HS:=Hmr (csend_any L g nv _ (stableN s s.log.length) (-1) (plainMsg 4 s.log.length) (.slice none 0 0) _ hN2 (.inr rfl) (PairsT.nil _ _) (plain_good _ _ (by simp [int64]) (by simp only [int64];omega)))
  have HN:=Hmr hN2
  have HM:=Hmr hm2
  simp only [stableN] at d4
  clear h1 hN2 hm2
  go_wp2_with fail
  refine HS.out.mono ?_
  rintro e w3 ⟨v,rfl,hR,hfv,hm3⟩
  clear HS
  go_wp2_with fail
  go_ret
  refine ⟨v,rfl,by rw [HK.out];exact HN.out.quiet hm3,by rw [HK.out];exact hR,fun k hk=>?_,((hmz.mono (fun _ _ e=>e.elim)).trans HM.out).trans (hm3.mono (fun _ _ e=>e.elim))⟩
  have:=hfv k hk
  simpa using this
end Go.Proofs.YtiblcbdkiecbgaaGreatDoor
