import Derived.Test.YtogaigioeohjaaaGreatDoorD03
import Derived.BigRegion
set_option linter.unusedVariables false
set_option maxRecDepth 100000
set_option maxHeartbeats 16000000
namespace Go.Proofs.YtogaigioeohjaaaGreatDoor
open Go.RowKit Go.Lib Go.Maps
theorem zOd(L:Lo)(g:Nat)(nv lv:Value)(s:zAl)(wh:Int)(w:World)(h:zAx w L g nv lv s)(hwh:wh=1\/wh = -1) :
  Calls Tryz.prog 186 #[.pointer (some ⟨g,0,none⟩),.int .i64 wh] w fun e w'=>e=.returned (.tuple #[.int .i64 ((nbrN s wh).getD 0),.bool (nbrN s wh).isSome])/\∃ m,w'=w.drewN m:=by
 obtain ⟨na,ncap,hnv⟩:=zAg h.ns
 subst hnv
 obtain ⟨c0,c1,c2,c3,c4⟩:=zFt h.blk
 have hf:=h.few.1
 have HN:=Hmr h
 have HI:=Hmr (zHt.of_own h.ns)
 have hgl:=h.blk.lt
 have HP:=Hmr (zKa L g _ lv s w h)
 clear h
 have hpc:=zQg s
 obtain ⟨p,hp⟩:∃ q,q=zGz s:=⟨_,rfl⟩
 have HPP:=Hmr hp
 rw [<-hp] at HP hpc
 have hpb:-1<=p/\p<1000001:=by
  rcases hpc with e | ⟨k,e,_,e2⟩ <;> omega
 clear hp
 go_enter Tryz.func186,Tryz.ntmps186
 go_wp2_with fail
 refine HP.out.mono ?_
 rintro e w1 ⟨rfl,m1,rfl⟩
 have HIN:=Hmr (yAx L g _ lv s (w.drewN m1) (HN.out.drewN m1))
 have hgl1:g<(w.drewN m1).heap.size:=hgl
 have hinp:inN s=decide (0<=p):=by rw [inN,<-HPP.out]
 rw [hinp] at HIN
 by_cases h0:0<=p
 ·have hd0:decide (0<=p)=true:=decide_eq_true h0
  rw [hd0] at HIN
  have HB:Hid (nbrN s wh=if decide (0<=p+wh) && decide (p+wh<(s.nodes.length:Int)) then s.nodes[(p+wh).toNat]? else none):=by
   rw [Hid,nbrN,hinp,hd0,<-HPP.out,Bool.true_and]
  by_cases h1:0<=p+wh
  ·by_cases h2:p+wh<(s.nodes.length:Int)
   ·obtain ⟨kk,hkk⟩:∃ kk:Nat,p+wh=kk:=⟨(p+wh).toNat,by omega⟩
    rw [hkk] at HB h1 h2
    obtain ⟨y,hy⟩:∃ y,s.nodes[kk]?=some y:=⟨_,List.getElem?_eq_getElem (by omega)⟩
    have HB2:Hid (nbrN s wh=some y):=by
     rw [Hid,HB.out,decide_eq_true h1,decide_eq_true h2];simpa using hy
    obtain ⟨a',cap',ha',hc1,hc2,hcl⟩:=HI.out
    simp only [Value.slice.injEq] at ha'
    obtain ⟨rfl,_,rfl⟩:=ha'
    rcases hcl with e | ⟨b,off,rfl,hcl⟩
    ·rw [e] at hy;simp at hy
    have q0:=hcl kk y hy
    have hd1:decide ((kk:Int)<0)=false:=decide_eq_false (by omega)
    have hd2:decide ((kk:Int) ≥ (s.nodes.length:Int))=false:=decide_eq_false (by omega)
    have hd3:decide ((s.nodes.length:Int)<=(kk:Int))=false:=decide_eq_false (by omega)
    have hwr:IntKind.i64.wrap (p+wh)=(kk:Int):=by rw [IntKind.wrap_i64];omega
    have hwr2:wrap64 (p+wh)=(kk:Int):=by rw [hkk];unfold wrap64;omega
    clear hcl hy HB HP HN
    go_wp2_with fail
    refine HIN.out.mono ?_
    rintro e w2 ⟨rfl,m2,rfl⟩
    go_wp2_with fail
    refine bodyPost_ret (results_tmp2 rfl _ _ _) rfl ⟨?_,m1+m2,rfl⟩
    rw [HB2.out];rfl
   ·have HB2:Hid (nbrN s wh=none):=by
     rw [Hid,HB.out,decide_eq_false h2,Bool.and_false];rfl
    obtain ⟨kk,hkk⟩:∃ kk:Nat,p+wh=kk:=⟨(p+wh).toNat,by omega⟩
    rw [hkk] at h1 h2
    have hd1:decide ((kk:Int)<0)=false:=decide_eq_false (by omega)
    have hd2:decide ((kk:Int) ≥ (s.nodes.length:Int))=true:=decide_eq_true (by omega)
    have hd3:decide ((s.nodes.length:Int)<=(kk:Int))=true:=decide_eq_true (by omega)
    have hwr2:wrap64 (p+wh)=(kk:Int):=by rw [hkk];unfold wrap64;omega
    clear HB HP HN
    go_wp2_with fail
    refine HIN.out.mono ?_
    rintro e w2 ⟨rfl,m2,rfl⟩
    go_wp2_with fail
    refine bodyPost_ret (results_tmp2 rfl _ _ _) rfl ⟨?_,m1+m2,rfl⟩
    rw [HB2.out];rfl
  ·have HB2:Hid (nbrN s wh=none):=by
    rw [Hid,HB.out,decide_eq_false h1,Bool.false_and];rfl
   have hd1:decide (p+wh<0)=true:=decide_eq_true (by omega)
   have hwr2:wrap64 (p+wh)=p+wh:=by unfold wrap64;omega
   clear HB HP HN
   go_wp2_with fail
   refine HIN.out.mono ?_
   rintro e w2 ⟨rfl,m2,rfl⟩
   go_wp2_with fail
   refine bodyPost_ret (results_tmp2 rfl _ _ _) rfl ⟨?_,m1+m2,rfl⟩
   rw [HB2.out];rfl
 ·have hd0:decide (0<=p)=false:=decide_eq_false h0
  rw [hd0] at HIN
  have HB2:Hid (nbrN s wh=none):=by
   rw [Hid,nbrN,hinp,hd0,Bool.false_and];rfl
  clear HP HN
  go_wp2_with fail
  refine HIN.out.mono ?_
  rintro e w2 ⟨rfl,m2,rfl⟩
  go_wp2_with fail
  refine bodyPost_ret (results_tmp2 rfl _ _ _) rfl ⟨?_,m1+m2,rfl⟩
  rw [HB2.out];rfl
def isN(s:zAl)(wh x:Int):Bool:=match nbrN s wh with
 | none=>false
 | some y=>y == x
theorem zMv(L:Lo)(g:Nat)(nv lv:Value)(s:zAl)(wh x:Int)(w:World)(h:zAx w L g nv lv s)(hwh:wh=1\/wh = -1) :
  Calls Tryz.prog 132 #[.pointer (some ⟨g,0,none⟩),.int .i64 wh,.int .i64 x] w fun e w'=>e=.returned (.bool (isN s wh x))/\∃ m,w'=w.drewN m:=by
 have HP:=Hmr (zOd L g nv lv s wh w h hwh)
 clear h hwh
 go_enter Tryz.func132,Tryz.ntmps132
 cases hn:nbrN s wh with
 | none=>
  rw [hn] at HP
  have HB:Hid (isN s wh x=false):=by rw [Hid,isN,hn]
  go_wp2_with fail
  refine HP.out.mono ?_
  rintro e w1 ⟨rfl,m1,rfl⟩
  simp only [Option.getD_none,Option.isSome_none]
  go_wp2_with fail
  go_ret
  exact ⟨by rw [HB.out];rfl,m1,rfl⟩
 | some y=>
  rw [hn] at HP
  have HB:Hid (isN s wh x=(y == x)):=by rw [Hid,isN,hn]
  go_wp2_with fail
  refine HP.out.mono ?_
  rintro e w1 ⟨rfl,m1,rfl⟩
  simp only [Option.getD_some,Option.isSome_some]
  go_wp2_with fail
  go_ret
  exact ⟨by rw [HB.out];rfl,m1,rfl⟩
theorem zOr(L:Lo)(g:Nat)(nv lv:Value)(s:zAl)(w:World)(h:zAx w L g nv lv s) :
  Calls Tryz.prog 135 #[.pointer (some ⟨g,0,none⟩)] w fun e w'=>e=.returned (.bool (decide (s.log.length<500)))/\w'=w:=by
 obtain ⟨la,lcap,hlv⟩:=h.lg.slice
 subst hlv
 obtain ⟨c0,c1,c2,c3,c4⟩:=zFt h.blk
 have hf:=h.few.2
 have hd:decide ((s.log.length:Int)<500)=decide (s.log.length<500):=decide_eq_decide.2 (by omega)
 clear h
 go_enter Tryz.func135,Tryz.ntmps135
 go_wp2_with fail
 go_ret
 exact ⟨rfl,rfl⟩
theorem zYp(L:Lo)(g:Nat)(nv lv:Value)(s:zAl)(w:World)(h:zAx w L g nv lv s) :
  Calls Tryz.prog 112 #[.pointer (some ⟨g,0,none⟩)] w fun e w'=>e=.returned (.int .i64 s.log.length)/\w'=w:=by
 obtain ⟨la,lcap,hlv⟩:=h.lg.slice
 subst hlv
 obtain ⟨c0,c1,c2,c3,c4⟩:=zFt h.blk
 clear h
 go_enter Tryz.func112,Tryz.ntmps112
 go_wp2_with fail
 go_ret
 exact ⟨rfl,rfl⟩
theorem yEo(L:Lo)(g:Nat)(nv lv:Value)(s:zAl)(w:World)(h:zAx w L g nv lv s) :
  Calls Tryz.prog 128 #[.pointer (some ⟨g,0,none⟩)] w fun e w'=>e=.returned (.int .i64 s.id)/\w'=w:=by
 obtain ⟨c0,c1,c2,c3,c4⟩:=zFt h.blk
 clear h
 go_enter Tryz.func128,Tryz.ntmps128
 go_wp2_with fail
 go_ret
 exact ⟨rfl,rfl⟩
theorem yJg(L:Lo)(g:Nat)(nv lv:Value)(s:zAl)(w:World)(h:zAx w L g nv lv s) :
  Calls Tryz.prog 148 #[.pointer (some ⟨g,0,none⟩)] w fun e w'=>e=.returned (.int .i64 s.epoch)/\w'=w:=by
 obtain ⟨c0,c1,c2,c3,c4⟩:=zFt h.blk
 clear h
 go_enter Tryz.func148,Tryz.ntmps148
 go_wp2_with fail
 go_ret
 exact ⟨rfl,rfl⟩
theorem yRn(L:Lo)(id:Int)(w:World)(hid:zBc id)(hL:L.n<=w.heap.size)(hx:∀ k,L.x k->k<w.heap.size) :
  Calls Tryz.prog 156 #[.int .i64 id] w fun e w'=>e=.returned (.pointer (some ⟨w.heap.size,0,none⟩))/\zAx w' L w.heap.size (.slice none 0 0) (.slice none 0 0) ⟨id,0,[],[],0⟩/\Mod zAb w w':=by
 go_enter Tryz.func156,Tryz.ntmps156
 go_wp2_with fail
 go_ret
 exact ⟨rfl,⟨Blk.new w _ _,hL,World.ownsRow_nil _ _ _ _,RowC.nil _ _,⟨hid,by simp [zBc],by simp⟩,by simp,by simp,fun k hk=>by have:=hx k hk;rw [World.size_alloc];omega⟩,(Mod.refl _ w).alloc _⟩
def put4(w:World)(N:Nat)(u0 u1 u2 u3:Value):World:=(((w.setCell ⟨N,0,none⟩ u0).setCell ⟨N,1,none⟩ u1).setCell ⟨N,2,none⟩ u2).setCell ⟨N,3,none⟩ u3
theorem yPk{w:World}{N:Nat}{a0 a1 a2 a3:Value}{t:TypeId}(hB:Blk w N [a0,a1,a2,a3] t)(u0 u1 u2 u3:Value):Blk (put4 w N u0 u1 u2 u3) N [u0,u1,u2,u3] t:=(((hB.set 0 _).set 1 _).set 2 _).set 3 _
theorem zSa(w:World)(N:Nat)(u0 u1 u2 u3:Value):Mod (zAd N) w (put4 w N u0 u1 u2 u3):=(((Mod.setBlk N 0 u0).trans (Mod.setBlk N 1 u1)).trans (Mod.setBlk N 2 u2)).trans (Mod.setBlk N 3 u3)
theorem zId{w:World}{N:Nat}{a0 a1 a2 a3:Value}{t:TypeId}(hB:Blk w N [a0,a1,a2,a3] t)(u0 u1 u2 u3:Value):(loadVar 108 ⟨N,0,none⟩).run Tryz.prog (put4 w N u0 u1 u2 u3)=.ok (.agg #[u0,u1,u2,u3]) (put4 w N u0 u1 u2 u3):=yFr (yPk hB u0 u1 u2 u3)
theorem zXs(L:Lo)(c:CmdD)(u:Value)(w:World)(hu:zAy w L u c.writes)(hl:c.writes.length<=1000000) :
  Calls Tryz.prog 151 #[.agg #[.int .i64 c.kind,.int .i64 c.tx,.int .i64 c.time,u]] w fun e w'=>
   ∃ u',e=.returned (.agg #[.int .i64 c.kind,.int .i64 c.tx,.int .i64 c.time,u'])/\w'.ownsRow w.heap.size 65 3 u' c.writes.length (c.writes.flatMap zBe)/\Mod zAb w w':=by
 obtain ⟨i0,hi,hz0,hz1,hz2⟩:=info_parts Tryz.info65
 have hu0:=hu
 obtain ⟨a,cap,rfl,hpc,hcm,_⟩:=hu0
 go_enter Tryz.func151,Tryz.ntmps151
 by_cases h0:c.writes=[]
 ·have h00:c.writes.length=0:=by rw [h0];rfl
  rw [h00]
  have HF:Hid (c.writes.flatMap zBe=[]):=by rw [Hid,h0];rfl
  go_wp2_with (first
   | (at_builtin;refine zHl rfl _ _ rfl rfl _ _ rfl ?_)
   | fail)
  have hb:Blk ((w.alloc (.cells #[.int .i64 c.kind,.int .i64 c.tx,.int .i64 c.time,.slice none 0 0] 108)).alloc (.cells #[.int .i64 c.kind,.int .i64 c.tx,.int .i64 c.time,.slice none 0 0] 108)) (w.heap.size+1) [.int .i64 c.kind,.int .i64 c.tx,.int .i64 c.time,.slice none 0 0] 108:=by
   have:=Blk.new (w.alloc (.cells #[.int .i64 c.kind,.int .i64 c.tx,.int .i64 c.time,.slice none 0 0] 108)) [.int .i64 c.kind,.int .i64 c.tx,.int .i64 c.time,.slice none 0 0] 108
   rw [World.size_alloc] at this;exact this
  refine bodyPost_ret (zQx Tryz.results151 _ ⟨w.heap.size+1,0,none⟩ rfl (yFr hb)) rfl ⟨.slice none 0 0,rfl,?_,((Mod.refl _ w).alloc _).alloc _⟩
  rw [HF.out]
  exact World.ownsRow_nil _ _ _ _
 ·obtain ⟨b,off,rfl,hcl⟩:=hu.cells h0
  have hM2:Mod zAb w ((w.alloc (.cells #[.int .i64 c.kind,.int .i64 c.tx,.int .i64 c.time,.slice (some ⟨b,off,none⟩) c.writes.length cap] 108)).alloc (.cells #[.int .i64 0,.int .i64 0,.int .i64 0,.slice none 0 0] 108)):=((Mod.refl _ w).alloc _).alloc _
  have HCL:Hid (∀ (j:Nat) u,(c.writes.flatMap zBe)[j]?=some u->((w.alloc (.cells #[.int .i64 c.kind,.int .i64 c.tx,.int .i64 c.time,.slice (some ⟨b,off,none⟩) c.writes.length cap] 108)).alloc (.cells #[.int .i64 0,.int .i64 0,.int .i64 0,.slice none 0 0] 108)).cell? ((⟨b,off,none⟩:Addr).add j)=some u):=fun j u hju=>hM2.cell (hcl j u hju) id
  have HLC:=Hmr (zKf c.writes)
  have HON:=Hmr (zOa c.writes)
  have hk63:0+c.writes.length<=maxLen:=by unfold maxLen;omega
  have hk47:(0+c.writes.length)*40<=140737488355328:=by omega
  clear hcl hu
  go_wp2_with (first
   | (at_builtin;refine wpList_append_own _ rfl _ _ 95 rfl (w.heap.size+1+1) 65 i0 _ 3 40 Tryz.underlying95 hi hz0 hz1 hz2 rfl (by omega) _ _ _ rfl (World.ownsRow_nil _ _ _ _) ⟨b,off,none⟩ _ _ (c.writes.flatMap zBe) rfl HLC.out HCL.out HON.out hk63 hk47 (by simp) ?_)
   | fail)
  intro v' w1 hown1 hgrow _
  have hm1:=(Mod.refl zAb _).grown hgrow (fun x hx _=>by simp [Value.ownBlock] at hx)
  have hB1:=((Blk.new w [.int .i64 c.kind,.int .i64 c.tx,.int .i64 c.time,.slice (some ⟨b,off,none⟩) c.writes.length cap] 108).mod ((Mod.refl zAb _).alloc (.cells #[.int .i64 0,.int .i64 0,.int .i64 0,.slice none 0 0] 108)) id).mod hm1 id
  have hB2:=(Blk.new (w.alloc (.cells #[.int .i64 c.kind,.int .i64 c.tx,.int .i64 c.time,.slice (some ⟨b,off,none⟩) c.writes.length cap] 108)) [.int .i64 0,.int .i64 0,.int .i64 0,.slice none 0 0] 108).mod hm1 id
  rw [World.size_alloc] at hB2
  have hM1:=hM2.trans hm1
  obtain ⟨x0,x1,x2,x3,y0,y1,y2,y3⟩:=blk4 hB1
  obtain ⟨p0,p1,p2,p3,q0,q1,q2,q3⟩:=blk4 hB2
  obtain ⟨va,vc,rfl⟩:=zAg hown1
  have HO:=Hmr hown1
  clear hown1 hgrow hm1 HCL HLC HON hM2
  go_wp2_with fail
  have hB2':=hB2.mod (Mod.setBlk (w:=w1) w.heap.size 3 (.slice va c.writes.length vc)) (by simp [zAd])
  have hOW:w1.ownsRow (w.heap.size+1+1) 65 3 (.slice va c.writes.length vc) c.writes.length (c.writes.flatMap zBe):=by simpa using HO.out
  refine bodyPost_ret (zQx Tryz.results151 _ ⟨w.heap.size+1,0,none⟩ rfl (zId hB2' _ _ _ _)) rfl ⟨.slice va c.writes.length vc,rfl,?_,?_⟩
  ·refine zEk (zAn (G:=zAd (w.heap.size+1)) (zAn (G:=zAd w.heap.size) hOW (Mod.setBlk _ 3 _) (fun k hk _ _ e=>by simp only [zAd] at e;omega)) (zSa _ _ _ _ _ _) (fun k hk _ _ e=>by simp only [zAd] at e;omega)) (by omega)
  ·have h1:Mod (zDd w.heap.size) w (w1.setCell ⟨w.heap.size,3,none⟩ (.slice va c.writes.length vc)):=Mod.put (hM1.mono (fun _ _ e=>e.elim)) _ _ (Nat.le_refl _) _
   have h2:=h1.trans ((zSa (w1.setCell ⟨w.heap.size,3,none⟩ (.slice va c.writes.length vc)) (w.heap.size+1) (.int .i64 c.kind) (.int .i64 c.tx) (.int .i64 c.time) (.slice va c.writes.length vc)).mono (G':=zDd w.heap.size) (fun i _ e=>by simp only [zAd,zDd] at e ⊢;omega))
   exact h2.mono (fun i hi e=>by simp only [zDd] at e;omega)
theorem RowM.one{w:World}{L:Lo}(m:MsgD)(u:Value)(hL:L<=w.heap.size)(hu:zAy w L u m.cmd.writes)(hg:zJg m) :
  RowM (w.alloc (.cells #[.int .i64 m.kind,.int .i64 m.frm,.int .i64 m.to,.int .i64 m.epoch,.int .i64 m.n,.int .i64 m.cmd.kind,.int .i64 m.cmd.tx,.int .i64 m.cmd.time,u] 110)) L (.slice (some ⟨w.heap.size,0,none⟩) 1 1) [m]:=by
 refine ⟨[u],rfl,⟨rfl,.inr ⟨w.heap.size,1,_,rfl,hL,heap_alloc_new w _,Nat.le_refl _,by unfold maxLen;omega,rfl,rfl⟩⟩,fun i m' u' hi hu'=>?_,fun m' hm'=>?_⟩
 ·have e:i=0:=by
   cases i with
   | zero=>rfl
   | succ i=>simp at hi
  subst e
  simp at hi hu'
  subst hi hu'
  exact hu.mod ((Mod.refl zAb w).alloc _) (Qm.none _ _)
 ·simp at hm';subst hm';exact hg
def zGn(s:zAl)(wh:Int)(m:MsgD):List MsgD:=match nbrN s wh with
 | none=>[]
 | some t=>[⟨m.kind,s.id,t,s.epoch,m.n,m.cmd⟩]
theorem zQz{s:zAl}{wh t:Int}(h:nbrN s wh=some t):t∈s.nodes:=by
 unfold nbrN at h
 split at h
 ·exact List.mem_of_getElem? h
 ·cases h
def zCr(w:World)(v:Value):Prop:=∀ k,v.ownBlock=some k->w.heap.size<=k
theorem zLs(L:Lo)(g:Nat)(nv lv:Value)(s:zAl)(wh:Int)(m:MsgD)(u:Value)(w:World)(h:zAx w L g nv lv s)(hwh:wh=1\/wh = -1)(hu:zAy w L u m.cmd.writes)(hgm:zBc m.kind/\zBc m.n/\zYi m.cmd) :
  Calls Tryz.prog 133 #[.pointer (some ⟨g,0,none⟩),.int .i64 wh,.agg #[.int .i64 m.kind,.int .i64 m.frm,.int .i64 m.to,.int .i64 m.epoch,.int .i64 m.n,.int .i64 m.cmd.kind,.int .i64 m.cmd.tx,.int .i64 m.cmd.time,u]] w fun e w'=>
   ∃ v,e=.returned v/\RowM w' L v (zGn s wh m)/\zCr w v/\Mod zAb w w':=by
 obtain ⟨ua,ucap,rfl⟩:∃ ua ucap,u=.slice ua m.cmd.writes.length ucap:=by obtain ⟨ua,ucap,h,_⟩:=hu;exact ⟨ua,ucap,h⟩
 obtain ⟨w1,hw1⟩:∃ q,q=w.alloc (.cells #[.int .i64 m.kind,.int .i64 m.frm,.int .i64 m.to,.int .i64 m.epoch,.int .i64 m.n,.int .i64 m.cmd.kind,.int .i64 m.cmd.tx,.int .i64 m.cmd.time,.slice ua m.cmd.writes.length ucap] 110):=⟨_,rfl⟩
 have hm1:Mod zAb w w1:=by rw [hw1];exact (Mod.refl _ w).alloc _
 have hB1:Blk w1 w.heap.size (zAt m (.slice ua m.cmd.writes.length ucap)) 110:=by rw [hw1];exact Blk.new w _ _
 have h1:=h.quiet hm1
 have hgl:=h.blk.lt
 have hlow:=h.low
 have HN:=Hmr (zOd L g nv lv s wh w1 h1 hwh)
 have HINT:=Hmr h.ints
 have HU:=Hmr (hu.mod hm1 (Qm.none _ _))
 clear h hu
 go_enter Tryz.func133,Tryz.ntmps133
 go_upto_region 1 with fail
 rw [<-hw1]
 clear hw1
 go_wp2_with fail
 refine HN.out.mono ?_
 rintro e w2 ⟨rfl,m1,rfl⟩
 cases hn:nbrN s wh with
 | none=>
  have HS:Hid (zGn s wh m=[]):=by rw [Hid,zGn,hn]
  simp only [Option.getD_none,Option.isSome_none]
  clear HN
  go_wp2_with fail
  go_ret
  exact ⟨_,rfl,by rw [HS.out];exact RowM.nil _ _,fun k hk=>by simp [Value.ownBlock] at hk,hm1.drewN _⟩
 | some t=>
  have HS:Hid (zGn s wh m=[⟨m.kind,s.id,t,s.epoch,m.n,m.cmd⟩]):=by rw [Hid,zGn,hn]
  have ht:zBc t:=HINT.out.2.2 t (zQz hn)
  simp only [Option.getD_some,Option.isSome_some]
  obtain ⟨c0,c1,c2,c3,c4⟩:=zFt h1.blk
  obtain ⟨⟨x0,x1,x2,x3,x4,x5,x6,x7,x8⟩,⟨y0,y1,y2,y3,y4,y5,y6,y7,y8⟩⟩:=blk9 hB1
  have hz1:=hB1.lt
  have hgz1:g<w1.heap.size:=h1.blk.lt
  clear HN h1
  go_upto_region 4 with fail
  go_region
  all_goals go_wp2_with fail
  go_ret
  obtain ⟨w5,hw5⟩:∃ q,q=(((w1.drewN (m1+1)).setCell ⟨w.heap.size,1,none⟩ (.int .i64 s.id)).setCell ⟨w.heap.size,2,none⟩ (.int .i64 t)).setCell ⟨w.heap.size,3,none⟩ (.int .i64 s.epoch):=⟨_,rfl⟩
  have hz5:w5.heap.size=w1.heap.size:=by rw [hw5];simp
  have hm15:Mod (zAd w.heap.size) w1 w5:=by
   rw [hw5]
   exact ((((Mod.refl (zAd w.heap.size) w1).drewN (m1+1)).trans (Mod.setBlk _ 1 _)).trans (Mod.setBlk _ 2 _)).trans (Mod.setBlk _ 3 _)
  have hq:Qm w1 L (zAd w.heap.size):=fun k _ e=>by
   simp only [zAd] at e;subst e
   have hb:=hB1
   simp only [Blk] at hb
   rintro (e | ⟨⟨cur,fr,e⟩,_⟩)
   ·omega
   ·rw [hb] at e;simp at e
  have hm5:Mod zAb w w5:=hm1.trans' hm15 (fun i hi e=>by simp only [zAd] at e;omega)
  rw [<-hw5,<-hz5]
  have hL5:L<=w5.heap.size:=by omega
  refine ⟨_,rfl,?_,fun k hk=>?_,hm5.alloc _⟩
  ·rw [HS.out]
   exact RowM.one ⟨m.kind,s.id,t,s.epoch,m.n,m.cmd⟩ _ hL5 (HU.out.mod hm15 hq) ⟨⟨hgm.1,HINT.out.1,ht,HINT.out.2.1,hgm.2.1,hgm.2.2.1⟩,hgm.2.2.2⟩
  ·have e:w5.heap.size=k:=by simpa [Value.ownBlock] using hk
   omega
def zCh(kind n:Int):MsgD:=⟨kind,0,0,0,n,zHu⟩
def zIk(s:zAl)(n:Int):zAl:=⟨s.id,s.epoch,s.nodes,s.log,n⟩
def zEd(s:zAl):zAl × List MsgD:=if zNp s then (zIk s s.log.length,zGn (zIk s s.log.length) (-1) (zCh 4 s.log.length)) else (s,zGn s 1 (zCh 1 s.log.length))
theorem zMb(kind n:Int)(hk:zBc kind)(hn:zBc n):zBc (zCh kind n).kind/\zBc (zCh kind n).n/\zYi (zCh kind n).cmd:=by
 refine ⟨hk,hn,⟨?_,?_,?_⟩,?_⟩ <;> simp [zCh,zHu,zBc]
theorem zAx.stabled{w:World}{L:Lo}{g:Nat}{nv lv:Value}{s:zAl}(h:zAx w L g nv lv s)(n:Int)(hn:0<=n/\n<=s.log.length) :
  zAx (w.setCell ⟨g,4,none⟩ (.int .i64 n)) L g nv lv (zIk s n)/\Mod (zAd g) w (w.setCell ⟨g,4,none⟩ (.int .i64 n)):=by
 obtain ⟨a1,a2,_⟩:=h.apart
 have hm:Mod (zAd g) w (w.setCell ⟨g,4,none⟩ (.int .i64 n)):=Mod.setBlk g 4 _
 have hq:Qm w L (zAd g):=Qm.of_node h (fun k _ e=>.inl e)
 exact ⟨⟨h.blk.set 4 _,h.low,zAn h.ns hm (fun k _ _ hk e=>a1 (by rw [hk];rw [e])),h.lg.mod hm hq (fun k hk e=>a2 (by rw [hk];rw [e])),h.ints,h.few,hn,fun k hk=>Nat.lt_of_lt_of_le (h.xb k hk) hm.size⟩,hm⟩
theorem zLr(L:Lo)(g:Nat)(nv lv:Value)(s:zAl)(w:World)(h:zAx w L g nv lv s) :
  Calls Tryz.prog 99 #[.pointer (some ⟨g,0,none⟩)] w fun e w'=>∃ v,e=.returned v/\zAx w' L g nv lv (zEd s).1/\RowM w' L v (zEd s).2/\zCr w v/\Mod (zAd g) w w':=by
 obtain ⟨la,lcap,hlv⟩:=h.lg.slice
 subst hlv
 have HT:=Hmr (yFe L g nv _ s w h)
 have hlow:=h.low
 have hfew:=h.few
 go_enter Tryz.func99,Tryz.ntmps99
 go_wp2_with fail
 refine HT.out.mono ?_
 rintro e w1 ⟨rfl,m1,rfl⟩
 have h1:=h.drewN m1
 have hmz:Mod zAb w (w.drewN m1):=(Mod.refl _ w).drewN m1
 obtain ⟨c0,c1,c2,c3,c4⟩:=zFt h1.blk
 have f4:=h1.blk.frozen 4
 have hgz:=h1.blk.lt
 clear HT h
 cases ht:zNp s with
 | false=>
  have HK:Hid (zEd s=(s,zGn s 1 (zCh 1 s.log.length))):=by rw [Hid,zEd,ht];rfl
  have HS:=Hmr (zLs L g nv _ s 1 (zCh 1 s.log.length) (.slice none 0 0) (w.drewN m1) h1 (.inl rfl) (zAy.nil _ _) (zMb _ _ (by simp [zBc]) (by simp only [zBc];omega)))
  have HN:=Hmr h1
  clear h1
  go_wp2_with fail
  refine HS.out.mono ?_
  rintro e w2 ⟨v,rfl,hR,hfv,hm2⟩
  clear HS
  go_wp2_with fail
  go_ret
  exact ⟨v,rfl,by rw [HK.out];exact HN.out.quiet hm2,by rw [HK.out];exact hR,hfv,(hmz.trans hm2).mono (fun _ _ e=>e.elim)⟩
 | true=>
  have HK:Hid (zEd s=(zIk s s.log.length,zGn (zIk s s.log.length) (-1) (zCh 4 s.log.length))):=by rw [Hid,zEd,ht];rfl
  obtain ⟨hN2,hm2⟩:=h1.stabled s.log.length (by omega)
  have d4:=hN2.blk.cell 4 rfl
  have HS:=Hmr (zLs L g nv _ (zIk s s.log.length) (-1) (zCh 4 s.log.length) (.slice none 0 0) _ hN2 (.inr rfl) (zAy.nil _ _) (zMb _ _ (by simp [zBc]) (by simp only [zBc];omega)))
  have HN:=Hmr hN2
  have HM:=Hmr hm2
  simp only [zIk] at d4
  clear h1 hN2 hm2
  go_wp2_with fail
  refine HS.out.mono ?_
  rintro e w3 ⟨v,rfl,hR,hfv,hm3⟩
  clear HS
  go_wp2_with fail
  go_ret
  refine ⟨v,rfl,by rw [HK.out];exact HN.out.quiet hm3,by rw [HK.out];exact hR,fun k hk=>?_,((hmz.mono (fun _ _ e=>e.elim)).trans HM.out).trans (hm3.mono (fun _ _ e=>e.elim))⟩
  have:=hfv k hk
  simpa using this
theorem RowM.snoc{w w6:World}{L:Lo}{v v6 u:Value}{ms:List MsgD}{m:MsgD}{us:List Value}(hus:us.length=ms.length)(hrow:w.ownsRow L 110 9 v ms.length (zAj ms us))
  (hps:∀ (i:Nat) m u,ms[i]?=some m->us[i]?=some u->zAy w L u m.cmd.writes) (hgd:∀ m∈ms,zJg m) (hu:zAy w L u m.cmd.writes) (hgm:zJg m)
  (hm6:Mod (fun k=>v.ownBlock=some k) w w6) (hown6:w6.ownsRow L 110 9 v6 (ms.length+1) (zAj ms us++zAt m u)):RowM w6 L v6 (ms++[m]):=by
 have hq6:=Qm.row hrow (Nat.le_refl _) (by decide)
 refine ⟨us++[u],by simp [hus],by rw [zHj _ _ _ _ hus];simpa using hown6,fun i m' u' hi hu'=>?_,fun m' hm'=>?_⟩
 ·by_cases hlt:i<ms.length
  ·rw [List.getElem?_append_left hlt] at hi
   rw [List.getElem?_append_left (by omega)] at hu'
   exact (hps i m' u' hi hu').mod hm6 hq6
  ·have hi':i=ms.length:=by
    rcases Nat.lt_or_ge i (ms.length+1) with h' | h'
    ·omega
    ·rw [List.getElem?_eq_none (by simpa using h')] at hi;cases hi
   subst hi'
   rw [List.getElem?_append_right (Nat.le_refl _)] at hi
   rw [List.getElem?_append_right (by omega)] at hu'
   simp [hus] at hi hu'
   subst hi hu'
   exact hu.mod hm6 hq6
 ·rcases List.mem_append.1 hm' with e | e
  ·exact hgd m' e
  ·simp at e;subst e;exact hgm
theorem RowC.snoc{w w6:World}{L:Lo}{v v6 u:Value}{ms:List CmdD}{m:CmdD}{us:List Value}(hus:us.length=ms.length)(hrow:w.ownsRow L 108 4 v ms.length (zGr ms us))
  (hps:∀ (i:Nat) m u,ms[i]?=some m->us[i]?=some u->zAy w L u m.writes) (hgd:∀ m∈ms,zYi m) (hu:zAy w L u m.writes) (hgm:zYi m)
  (hm6:Mod (fun k=>v.ownBlock=some k) w w6) (hown6:w6.ownsRow L 108 4 v6 (ms.length+1) (zGr ms us++zEm m u)):RowC w6 L v6 (ms++[m]):=by
 have hq6:=Qm.row hrow (Nat.le_refl _) (by decide)
 refine ⟨us++[u],by simp [hus],by rw [zOh _ _ _ _ hus];simpa using hown6,fun i m' u' hi hu'=>?_,fun m' hm'=>?_⟩
 ·by_cases hlt:i<ms.length
  ·rw [List.getElem?_append_left hlt] at hi
   rw [List.getElem?_append_left (by omega)] at hu'
   exact (hps i m' u' hi hu').mod hm6 hq6
  ·have hi':i=ms.length:=by
    rcases Nat.lt_or_ge i (ms.length+1) with h' | h'
    ·omega
    ·rw [List.getElem?_eq_none (by simpa using h')] at hi;cases hi
   subst hi'
   rw [List.getElem?_append_right (Nat.le_refl _)] at hi
   rw [List.getElem?_append_right (by omega)] at hu'
   simp [hus] at hi hu'
   subst hi hu'
   exact hu.mod hm6 hq6
 ·rcases List.mem_append.1 hm' with e | e
  ·exact hgd m' e
  ·simp at e;subst e;exact hgm
def fwdM(s:zAl)(t:Int)(k:Nat)(c:CmdD):MsgD:=⟨3,s.id,t,s.epoch,k,c⟩
def fwdL(s:zAl)(t:Int)(f n:Nat):List MsgD:=(List.range n).map (fun j=>fwdM s t (f+j) (s.log.getD (f+j) zHu))
theorem yMn(s:zAl)(t:Int)(f n:Nat)(c:CmdD)(hc:s.log[f+n]?=some c):fwdL s t f (n+1)=fwdL s t f n++[fwdM s t (f+n) c]:=by
 unfold fwdL
 rw [List.range_succ,List.map_append,List.map_singleton,List.getD_eq_getElem?_getD,hc];rfl
theorem yQw(s:zAl)(t:Int)(f n:Nat):(fwdL s t f n).length=n:=by simp [fwdL]
theorem zSy(L:Lo)(g:Nat)(nv lv:Value)(s:zAl)(t:Int)(f:Int)(w:World)(h:zAx w L g nv lv s)(hn:nbrN s 1=some t)(hf:0<=f) :
  Calls Tryz.prog 134 #[.pointer (some ⟨g,0,none⟩),.int .i64 f] w fun e w'=>∃ v,e=.returned v/\RowM w' L v (fwdL s t f.toNat (s.log.length - f.toNat))/\zCr w v/\Mod zAb w w':=by
 obtain ⟨i0,hi,hz0,hz1,hz2⟩:=info_parts Tryz.info110
 obtain ⟨fn,rfl⟩:∃ fn:Nat,f=fn:=⟨f.toNat,by omega⟩
 rw [Int.toNat_natCast]
 obtain ⟨la,lcap,hlv⟩:=h.lg.slice
 subst hlv
 have hfew:=h.few.2
 have hlow:=h.low
 have HLT:Hid (∀ k,zAs g nv (.slice la s.log.length lcap) k->k<w.heap.size):=fun k hk=>(h.lt hk).2.1
 go_enter Tryz.func134,Tryz.ntmps134
 go_wp2_with fail
 go_loopw [5,6] (fun v i wr=>∃ j:Nat,j<=s.log.length - fn/\i=.int .i64 ((fn+j:Nat):Int)/\zAx wr L g nv (.slice la s.log.length lcap) s/\RowM wr L v (fwdL s t fn j)/\zCr w v/\Mod zAb w wr) (fun _ i _=>s.log.length - (intOf i).toNat)
 case atStart=>exact ⟨0,Nat.zero_le _,rfl,h,RowM.nil _ _,fun k hk=>by simp [Value.ownBlock] at hk,Mod.refl _ _⟩
 case round=>
  obtain ⟨j,hj,rfl,hN,hR,hfv,hM⟩:=hrel
  clear h
  obtain ⟨c0,c1,c2,c3,c4⟩:=zFt hN.blk
  by_cases hlt:fn+j<s.log.length
  ·obtain ⟨c,hc⟩:∃ c,s.log[fn+j]?=some c:=⟨_,List.getElem?_eq_getElem hlt⟩
   obtain ⟨b,bcap,u,hv,hb1,hb2,hu,hgc,q0,q1,q2,q3⟩:=hN.lg.at hc
   simp only [Value.slice.injEq] at hv
   obtain ⟨rfl,_,rfl⟩:=hv
   obtain ⟨ua,ucap,rfl⟩:∃ ua ucap,u=.slice ua c.writes.length ucap:=by obtain ⟨ua,ucap,h,_⟩:=hu;exact ⟨ua,ucap,h⟩
   obtain ⟨kk,hkk⟩:∃ kk:Nat,kk=fn+j:=⟨_,rfl⟩
   have HSU:=Hmr (yMn s t fn j c hc)
   rw [<-hkk] at hlt q0 q1 q2 q3 HSU ⊢
   have HO:=Hmr (zXs L c (.slice ua c.writes.length ucap) wr hu (by have:=hgc.2;omega))
   have hltI:(kk:Int)<(s.log.length:Int):=by omega
   have hlt0:(0:Int)<=(kk:Int):=by omega
   have HKK:=Hmr hkk
   clear hu hc hkk
   go_wp2_with fail
   refine HO.out.mono ?_
   rintro e w5 ⟨uo,rfl,hown5,hm5⟩
   obtain ⟨ua5,uc5,rfl⟩:=zAg hown5
   have hu5:=zAy.of_own (L:=L) hown5 (fun k hk=>hN.xb k hk)
   have hN5:=hN.quiet hm5
   have hR5:=hR.mod hm5 (Qm.none _ _) (fun _ _=>id)
   have HS:=Hmr (zLs L g nv _ s 1 ⟨3,0,0,0,kk,c⟩ (.slice ua5 c.writes.length uc5) w5 hN5 (.inl rfl) hu5 ⟨by simp [zBc],by simp only [zBc];omega,hgc⟩)
   have hM5:=hM.trans hm5
   clear HO hown5 hN hR hM q0 q1 q2 q3 c0 c1 c2 c3 c4
   go_wp2_with fail
   refine HS.out.mono ?_
   rintro e w6 ⟨v6,rfl,hR6,hfv6,hm6⟩
   have hs1:zGn s 1 ⟨3,0,0,0,kk,c⟩=[fwdM s t kk c]:=by unfold zGn;rw [hn];rfl
   rw [hs1] at hR6
   obtain ⟨b6,bc6,us6,hv6,_,_,hu6,hgm6,r0,r1,r2,r3,r4,r5,r6,r7,r8⟩:=hR6.at (i:=0) (m:=fwdM s t kk c) rfl
   obtain ⟨ua6,uc6,rfl⟩:∃ ua ucap,us6=.slice ua c.writes.length ucap:=by obtain ⟨ua,ucap,h,_⟩:=hu6;exact ⟨ua,ucap,h⟩
   have hN6:=hN5.quiet hm6
   have hR56:=hR5.mod hm6 (Qm.none _ _) (fun _ _=>id)
   have hM6:=hM5.trans hm6
   have hz6:=hM6.size
   have HSRC:Hid (∀ (i:Nat) x,(zAt (fwdM s t kk c) (.slice ua6 c.writes.length uc6))[i]?=some x->w6.cell? ((⟨b6,0,none⟩:Addr).add i)=some x):=by
    intro i x hx
    rw [Go.WideShapes.add_plain,Nat.zero_add]
    have hi9:i<9:=(List.getElem?_eq_some_iff.1 hx).1
    have hcs:i=0\/i=1\/i=2\/i=3\/i=4\/i=5\/i=6\/i=7\/i=8:=by omega
    simp only [Nat.zero_mul,Nat.zero_add] at r0 r1 r2 r3 r4 r5 r6 r7 r8
    rcases hcs with rfl | rfl | rfl | rfl | rfl | rfl | rfl | rfl | rfl <;> (simp [zAt] at hx;subst hx;assumption)
   obtain ⟨us,hus,hrow,hps,hgd⟩:=hR56
   have HROW:=Hmr hrow
   have HPS:=Hmr hps
   have HGD:=Hmr hgd
   have HU:=Hmr hu6
   have HGM:=Hmr hgm6
   have HLN:=Hmr (yQw s t fn j)
   rw [HLN.out] at HROW
   have hk63:j+1<=maxLen:=by unfold maxLen;omega
   have hk47:(j+1)*88<=140737488355328:=by omega
   have hL6:L<=w6.heap.size:=by have:=hN6.blk.lt;omega
   simp only [List.length_cons,List.length_nil] at hv6
   rw [hv6]
   have HN6:=Hmr hN6
   clear hrow hps hgd HS hN5 hR5 hM5 hR6 hu6 hgm6 r0 r1 r2 r3 r4 r5 r6 r7 r8 hv6 hN6 hs1 hu5 hm5 hm6
   go_wp2_with (first
    | (at_builtin;refine wpList_append_own_at _ rfl (.tmp 17) (.tmp 29) 82 rfl L 110 i0 _ 9 88 Tryz.underlying82 hi hz0 hz1 hz2 rfl (by omega) _ _ _ rfl HROW.out ⟨b6,0,none⟩ 1 bc6 (zAt (fwdM s t kk c) (.slice ua6 c.writes.length uc6)) rfl rfl HSRC.out (yDn _ _ _ _) hk63 hk47 hL6 ?_)
    | fail)
   intro v7 w7 hown7 hgrow _ hloc
   have hm7:Mod (fun k=>u5.ownBlock=some k) w6 w7:=(Mod.refl _ w6).grown hgrow (fun x hx _=>hx)
   have hR7:=RowM.snoc hus (by rw [HLN.out];exact HROW.out) HPS.out HGD.out HU.out HGM.out hm7 (by rw [HLN.out];exact hown7)
   have hM7:Mod zAb w w7:=hM6.trans' hm7 (fun i hi e=>by have:=hfv i e;omega)
   have hN7:=HN6.out.mod hm7 (Qm.row HROW.out (Nat.le_refl _) (by decide)) (fun k hk e=>by have:=HLT.out k hk;have:=hfv k e;omega)
   have hf7:zCr w v7:=fun k hk=>by
    rcases hloc with e | e
    ·exact hfv k (by rw [<-e];exact hk)
    ·rw [e] at hk;simp at hk;omega
   rw [<-HSU.out] at hR7
   have HR7:=Hmr hR7
   have HN7:=Hmr hN7
   clear hown7 hgrow hloc HROW HPS HGD HU HGM HSRC hM6 hR7 hN7 hm7 HN6
   go_wp2_with fail
   go_roundw
   case rel=>exact ⟨j+1,by have:=HKK.out;omega,by rw [show fn+(j+1)=kk+1 by have:=HKK.out;omega];go_num,HN7.out,HR7.out,hf7,hM7⟩
   case measure=>simp [intOf];omega
  ·have hd:decide (((fn+j:Nat):Int)<(s.log.length:Int))=false:=decide_eq_false (by omega)
   obtain rfl:j=s.log.length - fn:=by omega
   have HR:=Hmr hR
   clear hN hR
   go_wp2_with fail
   go_ret
   exact ⟨_,rfl,HR.out,hfv,hM⟩
end Go.Proofs.YtogaigioeohjaaaGreatDoor
