import Derived.Test.YtmaiggbnceejiaaGreatDoorS09
import Derived.ChangeMaps5
import Derived.Shelf.Lays
import Derived.Shelf.Sort.Plain
import Derived.Shelf.Slices.In.SortNone2
import Derived.Ground.NamesProg
import Derived.Test.YtmaiggbnceejiaaGreatDoorProg
set_option linter.unusedVariables false
set_option maxRecDepth 100000
set_option maxHeartbeats 16000000
namespace Go.Proofs.YtmaiggbnceejiaaGreatDoor
open Go.RowKit Go.Lib Go.Maps Go.Shelf
def Eh(h:ByteArray->Bool->Value)(k:ByteArray)(v:Bool->Value):ByteArray->Bool->Value:=fun x=>if x=k then v else h x
theorem yl(h:ByteArray->Bool->Value)(k:ByteArray)(v:Bool->Value):Eh h k v k=v:=by unfold Eh;rw [aP rfl]
theorem ym{h:ByteArray->Bool->Value}{k x:ByteArray}{v:Bool->Value}(e:x≠k):Eh h k v x=h x:=by unfold Eh;rw [aK e]
theorem wE(s:fy)(k:ByteArray)(a:ec):jX s k a k=a:=by unfold jX;rw [aP rfl]
theorem xW{s:fy}{k x:ByteArray}{a:ec}(e:x≠k):jX s k a x=s x:=by unfold jX;rw [aK e]
structure Ba(w:World)(B:Nat)(q:iP)(name:ByteArray)(v:Bool->Value)(k':ec):Prop where
 row:∀ i,ez w B (v i) (k'.list i)
 ne:∀ x,(v true).ownBlock=some x->(v false).ownBlock≠some x
 out:∀ k i j x,gA k->k≠name->(q.hd k i).ownBlock=some x->(v j).ownBlock≠some x
structure Ga(w w':World)(B N:Nat)(q q':iP)(s:fy)(name:ByteArray)(v:Bool->Value)(k':ec):Prop where
 tb:oZ w' B N q' (jX s name k')
 b:q'.b=q.b
 pre:q'.pre=q.pre
 post:q'.post=q.post
 t:q'.t=q.t
 n1:q'.n<=q.n+1
 n0:¬ (s name).bare->q'.n<=q.n
 md:Mod (fun x=>x=q.b\/q.m=some x) w w'
 own:∀ x,q'.own x->q.own x\/w.heap.size<=x\/∃ i,(v i).ownBlock=some x
theorem Tr{w w':World}{B N N':Nat}{q:iP}{s:fy}{name:ByteArray}{v:Bool->Value}{k':ec}{m:Option Nat}{n:Nat}{G:Nat->Prop}(h:kH w B N q s (·=name))(hn:gA name)(hk:Ba w B q name v k')(hok:mu k')(hN:k'.held.length+k'.waits.length<=N')(Ao:N<=N')
  (hm:Mod G w w') (hG:∀ k i x,gA k->(Eh q.hd name v k i).ownBlock=some x->¬ G x) (hb:dg w' q.b (q.pre++.map m :: q.post) q.t) (hmap:qK w' B m n (Eh q.hd name v) (jX s name k')) :
  oZ w' B N' { q with m:=m,n:=n,hd:=Eh q.hd name v } (jX s name k'):=by
 have hrow:∀ k i,gA k->ez w B (Eh q.hd name v k i) ((jX s name k' k).list i):=fun k i hk2=>by
  by_cases e:k=name
  ·subst e;rw [yl,wE];exact hk.row i
  ·rw [ym e,xW e];exact h.rows k i hk2 e
 refine ⟨hb,h.bt,hmap,fun k i hk2=>Lw (hrow k i hk2),fun k i hk2 _=>(hrow k i hk2).mod hm (fun x hx=>hG k i x hk2 hx),fun k k2 i i2 x hk1 hk2 h1 h2=>?_,fun k hk2=>?_,fun k hk2=>?_⟩
 ·simp only at h1 h2;by_cases e1:k=name
  ·by_cases e2:k2=name
   ·subst e1;refine ⟨e2.symm,?_⟩;subst e2;rw [yl] at h1 h2
    cases i <;> cases i2
    ·rfl
    ·exact absurd h1 (hk.ne x h2)
    ·exact absurd h2 (hk.ne x h1)
    ·rfl
   ·subst e1;rw [yl] at h1;rw [ym e2] at h2;exact absurd h1 (hk.out k2 i2 i x hk2 e2 h2)
  ·rw [ym e1] at h1;by_cases e2:k2=name
   ·subst e2;rw [yl] at h2;exact absurd h2 (hk.out k i i2 x hk1 e1 h1)
   ·rw [ym e2] at h2;exact h.apart k k2 i i2 x hk1 hk2 h1 h2
 ·by_cases e:k=name
  ·rw [e,wE];exact hok
  ·rw [xW e];exact h.ok k hk2
 ·by_cases e:k=name
  ·rw [e,wE];exact hN
  ·rw [xW e];exact aJ (h.few k hk2) Ao
theorem yHx(w:World)(B:Nat)(q:iP)(name:ByteArray):Ba w B q name (fun _=>.slice none 0 0) ⟨[],[]⟩:=
 ⟨fun i=>by cases i <;> exact World.ownsRow_nil _ _ _ _,fun x hx=>by simp [Value.ownBlock] at hx,fun k i j x _ _ _=>by simp [Value.ownBlock]⟩
theorem yPw{k:ec}(h:k.bare):k=⟨[],[]⟩:=by cases k;obtain ⟨h1,h2⟩:=h;simp at h1 h2;rw [h1,h2]
theorem yOi{w w':World}{B N N':Nat}{q:iP}{s:fy}{name:ByteArray}{v:Bool->Value}{k':ec}(h:kH w B N q s (·=name))(hn:gA name)(kY:k'.bare)(Ao:N<=N')(hm:Mod dZ w w')(hq:q.m=none) :
  ∃ q',Ga w w' B N' q q' s name v k':=by
 have hb:=yPw kY;subst hb;have hmap:=h.map;rw [hq] at hmap;refine ⟨_,⟨Tr (m:=none) (n:=q.n) h hn (yHx w B q name) mu.nil (by simp) Ao hm (fun _ _ _ _ _=>id) (by have:=h.blk.mod hm id;rw [hq] at this;exact this) (fun k hk=>?_),rfl,rfl,rfl,rfl,by show q.n<=q.n+1;omega,fun _=>aF _,hm.mono (fun _ _ e=>e.elim),fun x hx=>?_⟩⟩
 ·by_cases e:k=name
  ·subst e;rw [yl,wE];exact ⟨fun _=>rfl,rfl,rfl⟩
  ·rw [ym e,xW e];exact hmap k hk
 ·rcases hx with hx | ⟨k,i,hk,hx⟩
  ·cases hx
  ·simp only at hx;by_cases e:k=name
   ·subst e;rw [yl] at hx;simp [Value.ownBlock] at hx
   ·rw [ym e] at hx;exact .inl (.inr ⟨k,i,hk,hx⟩)
theorem zZh{w:World}{g n:Nat}{D:DataW Unit}(h:w.ownsMap Tryz.prog 9 rf g n D):w.ownsMap Tryz.prog 9 rf g (Maps.size D) D:=by
 obtain ⟨es,clock,hb,F,_,rfl⟩:=h;exact ⟨es,clock,hb,F,by simp [Maps.size,length_sorted],rfl⟩
theorem ySq{w w1 w':World}{B N N' g:Nat}{q:iP}{s:fy}{name:ByteArray}{v:Bool->Value}{k':ec}{D:DataW Unit}(h:kH w B N q s (·=name))(hn:gA name)(kY:k'.bare)(Ao:N<=N')(dh:Mod dZ w w1)(hq:q.m=some g)(hBg:B<=g)
  (h2:∀ k,gA k->D.atKey (gQ k) Cc=lS (q.hd k true) (q.hd k false)/\(Maps.has D (gQ k)=true↔¬ (s k).bare)) (hown:w'.ownsMap Tryz.prog 9 rf g q.n (D.del (gQ name))) (hm:Mod (eA g) w1 w') :
  ∃ q',Ga w w' B N' q q' s name v k':=by
 have hb:=yPw kY;subst hb;have hmo:Mod (eA g) w w':=(dh.mono (fun _ _ e=>e.elim)).trans hm;refine ⟨_,⟨Tr (m:=some g) (n:=q.n) h hn (yHx w B q name) mu.nil (by simp) Ao hmo (fun k i x hk hx e=>?_) ?_ ⟨hBg,_,hown,fun k hk=>?_⟩,rfl,rfl,rfl,rfl,by show q.n<=q.n+1;omega,fun _=>aF _,hmo.mono (fun x _ e=>.inr (by simp only [eA] at e;rw [hq,e])),fun x hx=>?_⟩⟩
 ·simp only [eA] at e;by_cases e1:k=name
  ·subst e1;rw [yl] at hx;simp [Value.ownBlock] at hx
  ·rw [ym e1] at hx;exact (h.lH hk e1 hx).2 (by rw [hq,e])
 ·have:=h.blk.mod hmo (fun e=>by simp only [eA] at e;exact h.zu (by rw [hq,e]));rw [hq] at this;exact this
 ·by_cases e:k=name
  ·subst e;rw [yl,wE,atKey_del_same,has_del_same];refine ⟨rfl,?_⟩;simp [ec.bare]
  ·have hne:gQ k≠gQ name:=fun e2=>e (TL e2);rw [ym e,xW e,atKey_del_other hne,has_del_other hne];exact h2 k hk
 ·rcases hx with hx | ⟨k,i,hk,hx⟩
  ·exact .inl (.inl (by rw [hq];exact hx))
  ·simp only at hx;by_cases e:k=name
   ·subst e;rw [yl] at hx;simp [Value.ownBlock] at hx
   ·rw [ym e] at hx;exact .inl (.inr ⟨k,i,hk,hx⟩)
theorem ySo{w:World}{B N:Nat}{q:iP}{s:fy}{name:ByteArray}(h:kH w B N q s (·=name))(hB:B<=w.heap.size)(hm:q.m=none) :
  kH ((w.setCell ⟨q.b,q.pre.length,none⟩ (.map (some w.heap.size))).alloc (.map #[] 0)) B N { q with m:=some w.heap.size,n:=0 } s (·=name)/\Mod (eA q.b) w ((w.setCell ⟨q.b,q.pre.length,none⟩ (.map (some w.heap.size))).alloc (.map #[] 0)):=by
 have hmo:Mod (eA q.b) w ((w.setCell ⟨q.b,q.pre.length,none⟩ (.map (some w.heap.size))).alloc (.map #[] 0)):=(Mod.dt _ _ _).alloc _;have hmap:=h.map;rw [hm] at hmap;refine ⟨⟨?_,h.bt,⟨hB,.map [],?_,fun k hk=>?_⟩,h.hdr,fun k i hk hno=>(h.rows k i hk hno).mod hmo (fun x hx e=>?_),h.apart,h.ok,h.few⟩,hmo⟩
 ·have:=(h.blk.set q.pre.length (.map (some w.heap.size))).mod ((Mod.refl dZ _).alloc (.map #[] 0)) id;rw [dP _ _ (aF _),Nat.sub_self,List.set_cons_zero] at this;exact this
 ·have h1:=World.ownsMap_made (w.setCell ⟨q.b,q.pre.length,none⟩ (.map (some w.heap.size))) Tryz.prog 9 rf;simpa using h1
 ·obtain ⟨h1,h2⟩:=hmap k hk;show DataW.atKey (.map []) (gQ k) Cc=lS (q.hd k true) (q.hd k false)/\_;rw [h1 true,h1 false];exact ⟨rfl,by simp [has,h2]⟩
 ·simp only [eA] at e;exact (h.lH hk hno hx).1 e
theorem ySn{w w7:World}{B N N' g:Nat}{q:iP}{s:fy}{name:ByteArray}{v:Bool->Value}{k':ec}{D:DataW Unit}(h:kH w B N q s (·=name))(hn:gA name)(hk:Ba w B q name v k')(hok:mu k')(hN:k'.held.length+k'.waits.length<=N')(Ao:N<=N')(kY:¬ k'.bare)(hq:q.m=some g)(hBg:B<=g)
  (hown:w.ownsMap Tryz.prog 9 rf g q.n D) (h2:∀ k,gA k->D.atKey (gQ k) Cc=lS (q.hd k true) (q.hd k false)/\(Maps.has D (gQ k)=true↔¬ (s k).bare))
  (h7:w7.ownsMap Tryz.prog 9 rf g (q.n+1) (D.put (gQ name) (lS (v true) (v false)))) (iO:Mod (eA g) w w7) :
  ∃ q',Ga w w7 B N' q q' s name v k':=by
 have hD:=hown.isMap;have hty:=hown.tidy KP;have hsz:=hown.size_le;have h7t:=zZh h7;obtain ⟨n',hn',h7n,hn0⟩:∃ n',n'<=q.n+1/\w7.ownsMap Tryz.prog 9 rf g n' (D.put (gQ name) (lS (v true) (v false)))/\(¬ (s name).bare->n'<=q.n):=by
  refine ⟨_,h7.size_le,h7t,fun hnb=>?_⟩;rw [size_put hty,aP ((h2 name hn).2.2 hnb)];exact hsz
 have hvg:∀ i x,(v i).ownBlock=some x->x≠g:=fun i x hx e=>by
  obtain ⟨_,_,cur,hc⟩:=mT (hk.row i) hx;obtain ⟨es,clock,hb,_⟩:=hown;rw [e] at hc;rw [hc] at hb
  cases hb
 refine ⟨_,⟨Tr (m:=some g) (n:=n') h hn hk hok hN Ao iO (fun k i x hk2 hx e=>?_) ?_ ⟨hBg,_,h7n,fun k hk2=>?_⟩,rfl,rfl,rfl,rfl,hn',hn0,iO.mono (fun x _ e=>.inr (by simp only [eA] at e;rw [hq,e])),fun x hx=>?_⟩⟩
 ·simp only [eA] at e;by_cases e1:k=name
  ·subst e1;rw [yl] at hx;exact hvg i x hx e
  ·rw [ym e1] at hx;exact (h.lH hk2 e1 hx).2 (by rw [hq,e])
 ·have:=h.blk.mod iO (fun e=>by simp only [eA] at e;exact h.zu (by rw [hq,e]));rw [hq] at this;exact this
 ·by_cases e:k=name
  ·subst e;rw [yl,wE,atKey_put_same hD (Qu _),has_put_same hD (Qu _)];exact ⟨rfl,by simp [kY]⟩
  ·have hne:gQ k≠gQ name:=fun e2=>e (TL e2);rw [ym e,xW e,atKey_put_other hne,has_put_other hne];exact h2 k hk2
 ·rcases hx with hx | ⟨k,i,hk2,hx⟩
  ·exact .inl (.inl (by rw [hq];exact hx))
  ·simp only at hx;by_cases e:k=name
   ·subst e;rw [yl] at hx;exact .inr (.inr ⟨i,hx⟩)
   ·rw [ym e] at hx;exact .inl (.inr ⟨k,i,hk2,hx⟩)
theorem yVn(m:Option Nat)(w:World):(binOp .eql 79 (.map m) (.map none)).run Tryz.prog w=.ok (.bool m.isNone) w:=by cases m <;> kernel_rfl
theorem yBh(w:World):(Instr.makeMap 79 none).run Tryz.prog w=.ok (.map (some w.heap.size)) (w.alloc (.map #[] 0)):=by kernel_rfl
theorem qK.get{w:World}{B n g:Nat}{m:Option Nat}{hd:ByteArray->Bool->Value}{s:fy}(h:qK w B m n hd s)(hm:m=some g):B<=g/\∃ D,w.ownsMap Tryz.prog 9 rf g n D/\∀ k,gA k->D.atKey (gQ k) Cc=lS (hd k true) (hd k false)/\(Maps.has D (gQ k)=true↔¬ (s k).bare):=by
 subst hm;exact h
theorem TK(B N N':Nat)(q:iP)(s:fy)(name:ByteArray)(v:Bool->Value)(k':ec)(w:World)(h:kH w B N q s (·=name))(hn:gA name)(hk:Ba w B q name v k')(hok:mu k')(hN:k'.held.length+k'.waits.length<=N')(Ao:N<=N')(DL:q.n<=1000000)(hB:B<=w.heap.size) :
  Calls Tryz.prog 113 #[.pointer (some ⟨q.b,q.pre.length,none⟩),.string name,.agg #[v true,v false]] w fun e w'=>e=.returned (.tuple #[])/\∃ q',Ga w w' B N' q q' s name v k':=by
 have hkl:Hid (keyOf Tryz.prog 9 (.string name)=some (gQ name)):=Go.WideMaps.keyOf_string_mk Tryz.underlying9 hn;obtain ⟨ha,hcap,mi⟩:=eu (hk.row true);obtain ⟨wa,ft,iY⟩:=eu (hk.row false);have e1:k'.list true=k'.held:=rfl;have e2:k'.list false=k'.waits:=rfl;rw [e1] at mi;rw [e2] at iY;obtain ⟨w1,hw1⟩:∃ x,x=w.alloc (.cells #[v true,v false] 168):=⟨_,rfl⟩;have dh:Mod dZ w w1:=by rw [hw1];exact (Mod.refl _ w).alloc _
 have hb1:dg w1 w.heap.size [v true,v false] 168:=by rw [hw1];exact dg.new w [v true,v false] 168
 have p0:=hb1.cell 0 rfl;have p1:=hb1.cell 1 rfl;have hz1:=hb1.lt;have h1:=h.mod dh id (fun _ _=>id);have c0:=h1.cell;have hzb:=h1.blk.lt;have HT:=dV h;have LO:=dV h1;have HK:=dV hk;have fJ:=dV dh;have od:=dV hok;have kA:=dV hb1;have HW:Hid (w1.heap.size=w.heap.size+1):=by rw [hw1,Hid];simp
 rw [mi] at p0;rw [iY] at p1;rw [mi,iY] at hw1;rw [mi,iY];have BS:=dV mi;have Az:=dV iY;have DN:q.b<w.heap.size:=h.blk.lt;clear h hk hok dh hb1 h1 mi iY e1 e2;generalize Kk:k'.held.length=lh at p0 p1 hw1 BS hN;generalize yy:k'.waits.length=lw at p0 p1 hw1 Az hN;by_cases kY:lh=0/\lw=0
 ·obtain ⟨rfl,rfl⟩:=kY;have TG:Hid k'.bare:=⟨aR Kk,aR yy⟩
  cases hm:q.m with
  | none=>
   have oV:∀ ty (w:World),(Builtin.delete_ #[79,9] ty #[.map none,.string name]).run Tryz.prog w=.ok (.tuple #[]) w:=fun ty w=>Go.ChangeMaps.run_delete_nil Tryz.underlying79 Tryz.underlying9 name;rw [hm] at c0;have HQ:=dV (yOi (v:=v) HT.out hn TG.out Ao fJ.out hm);clear hm Kk yy;go_enter Tryz.func113,Tryz.ntmps113;go_upto_region 1 with fail;rw [<-hw1];clear hw1;go_wp2_with fail
   first
    | go_end0
    | refine bodyPost_ret (results_none rfl _ _ _) rfl ?_
   exact ⟨rfl,HQ.out⟩
  | some g=>
   rw [hm] at c0;obtain ⟨hBg,D,hown,hD⟩:=LO.out.map.get hm;have HO:=dV hown;have HD:=dV hD;have Ss:=dV hm;clear hm Kk yy hown hD;go_enter Tryz.func113,Tryz.ntmps113;go_upto_region 1 with fail;rw [<-hw1];clear hw1;go_wp2_with (first
    | (at_delete;refine wpList_delete_own _ rfl _ _ 79 9 rfl 168 KP Tryz.underlying79 rf g q.n D rfl HO.out _ (gQ name) rfl hkl.out ?_)
    | fail)
   intro w2 hown2 AL;have hm2:Mod (eA g) w1 w2:=(Mod.refl _ w1).grown AL.grown (fun x hx _=>by simp only [eA];simpa using hx.symm);have HQ:=dV (ySq (v:=v) HT.out hn TG.out Ao fJ.out Ss.out hBg HD.out hown2 hm2);clear hown2 AL hm2;go_wp2_with fail
   first
    | go_end0
    | refine bodyPost_ret (results_none rfl _ _ _) rfl ?_
   exact ⟨rfl,HQ.out⟩
 ·have TG:Hid (¬ k'.bare):=fun e=>kY ⟨by rw [<-Kk,e.1];rfl,by rw [<-yy,e.2];rfl⟩;have hen:=yVn q.m w1;have hmm:=yBh;have HLEN:Hid (k'.held.length+k'.waits.length<=N'):=by rw [Hid,Kk,yy];exact hN
  have SP:=LO.out.blk.frozen q.pre.length;have HKP:Hid (∀ wc,Mod (eA q.b) w1 wc->Ba wc B q name v k'):=fun wc mz=>by
   have Ki:Mod (eA q.b) w wc:=(fJ.out.mono (fun _ _ e=>e.elim)).trans mz;refine ⟨fun i=>(HK.out.row i).mod Ki (fun x hx e=>?_),HK.out.ne,HK.out.out⟩;simp only [eA] at e;subst e;obtain ⟨_,_,cur,hc⟩:=mT (HK.out.row i) hx;have:=HT.out.blk;unfold dg at this;rw [hc] at this;simp at this;exact HT.out.bt this.2.symm
  clear Kk yy;go_enter Tryz.func113,Tryz.ntmps113;go_upto_region 1 with fail;rw [<-hw1];clear hw1;have hg0:(lh=0/\¬ lw=0)\/¬ lh=0:=by omega
  go_cut [15] (fun b15 wc=>b15=.bool false/\wc=w1)
  case first=>
   rcases hg0 with ⟨rfl,hg1⟩ | hg1
   ·have hi1:¬ (lw:Int)=0:=by omega
    go_wp2_with fail;go_meet
    case rel=>exact ⟨by first | (simp;done) | (simp;omega),rfl⟩
   ·have hi1:¬ (lh:Int)=0:=by omega
    go_wp2_with fail;go_meet
    case rel=>exact ⟨by first | (simp;done) | (simp;omega),rfl⟩
  case rest=>
   obtain ⟨rfl,AG⟩:=hcut;rw [AG];clear AG;go_upto_if 25 with fail;go_cut [] (fun wc=>∃ (g n2:Nat),kH wc B N { q with m:=some g,n:=n2 } s (·=name)/\n2<=q.n/\Mod (eA q.b) w1 wc/\(q.m=some g\/w1.heap.size<=g))
   case first=>
    cases FG:q.m with
    | none=>
     have HPN:=dV (ySo LO.out (aJ hB fJ.out.size) FG);have hqi:q.m.isNone=true:=by rw [FG];rfl
     have Ss:=dV FG;clear FG;go_wp2_with fail;go_meet
     case rel=>exact ⟨w1.heap.size,0,HPN.out.1,aT _,HPN.out.2,.inr (aF _)⟩
    | some g=>
     have rI:Hid (kH w1 B N { q with m:=some g,n:=q.n } s (·=name)):=by
      have:({ q with m:=some g,n:=q.n }:iP)=q:=by rw [<-FG]
      rw [this];exact LO.out
     have hqi:q.m.isNone=false:=by rw [FG];rfl
     have Ss:=dV FG;clear FG;go_wp2_with fail;go_meet
     case rel=>exact ⟨g,q.n,rI.out,aF _,Mod.refl _ _,.inl Ss.out⟩
   case rest=>
    obtain ⟨g,n2,hS,DP,dy,Xs⟩:=hcut;obtain ⟨q2,hq2⟩:∃ x:iP,x={ q with m:=some g,n:=n2 }:=⟨_,rfl⟩;rw [<-hq2] at hS;have IK:q2.m=some g:=by rw [hq2]
    have OF:q2.n=n2:=by rw [hq2]
    have YW:kH wc.drew B N q2 s (·=name):=hS.mod ((Mod.refl dZ wc).drew) id (fun _ _=>id);obtain ⟨hBg,D,hown,hD⟩:=YW.map.get IK;have Ki:Mod (eA q.b) w1 wc.drew:=dy.drew;have yG:Ba wc.drew B q2 name v k':=by
     have h9:=HKP.out wc.drew Ki;exact ⟨h9.row,h9.ne,by rw [hq2];exact h9.out⟩
    obtain ⟨w7,gg,eJ,AK⟩:=hown.store KP Tryz.underlying79 (by rw [OF];unfold maxLen;omega) hkl.out (yIg (Lw (HK.out.row true)) (Lw (HK.out.row false)));have iO:Mod (eA g) wc.drew w7:=(Mod.refl _ wc.drew).grown AK.grown (fun x hx _=>by simp only [eA];simpa using hx.symm);have gN:Hid (∃ q',Ga w w7 B N' q q' s name v k'):=by
     obtain ⟨q',hQ⟩:=ySn YW hn yG od.out HLEN.out Ao TG.out IK hBg hown hD eJ iO;refine ⟨q',⟨hQ.tb,by rw [hQ.b,hq2],by rw [hQ.pre,hq2],by rw [hQ.post,hq2],by rw [hQ.t,hq2],by have:=hQ.n1;omega,fun hb=>by have:=hQ.n0 hb;omega,?_,fun x hx=>?_⟩⟩
     ·have a1:Mod (eA q.b) w wc.drew:=(fJ.out.mono (fun _ _ e=>e.elim)).trans Ki;refine (a1.mono (G':=fun x=>x=q.b\/q.m=some x) (fun x _ e=>.inl e)).trans' iO (fun x hx e=>?_);simp only [eA] at e;rcases Xs with e2 | e2
      ·exact .inr (by rw [e2,e])
      ·have:=fJ.out.size;omega
     ·have hz3:=Ki.size;have hz1':=fJ.out.size;rcases hQ.own x hx with h3 | h3 | h3
      ·rw [hq2] at h3;rcases h3 with h3 | h3
       ·simp at h3;rcases Xs with e2 | e2
        ·exact .inl (.inl (by rw [e2,h3]))
        ·exact .inr (.inl (by omega))
       ·exact .inl (.inr h3)
      ·exact .inr (.inl (by omega))
      ·exact .inr (.inr h3)
    have x0:wc.cell? ⟨q.b,q.pre.length,none⟩=some (.map (some g)):=by have:=hS.cell;rw [hq2] at this;exact this
    have zb:q.b<wc.heap.size:=aH hzb dy.size;have hne:w.heap.size≠q.b:=by omega
    have y0:=dy.cell p0 hne;have y1:=dy.cell p1 hne;have zk:w.heap.size<wc.heap.size:=aH hz1 dy.size;rw [BS.out,Az.out] at gg;clear hS YW hown hD yG eJ AK iO Ki dy Xs hq2 IK OF hen hmm;go_upto_region 5 with fail;go_region
    all_goals
     go_wp2_with fail
     first
      | go_end0
      | refine bodyPost_ret (results_none rfl _ _ _) rfl ?_
     exact ⟨rfl,gN.out⟩
theorem yVm(a:Option Addr)(n c:Nat)(a':Option Addr)(n' c':Nat)(w:World):(Instr.field 168 (.agg #[.slice a n c,.slice a' n' c']) 0).run Tryz.prog w=.ok (.slice a n c) w:=by kernel_rfl
theorem yVl(a:Option Addr)(n c:Nat)(a':Option Addr)(n' c':Nat)(w:World):(Instr.field 168 (.agg #[.slice a n c,.slice a' n' c']) 1).run Tryz.prog w=.ok (.slice a' n' c') w:=by kernel_rfl
theorem yOm(B N:Nat)(q:iP)(s:fy)(t:Int)(name:ByteArray)(w:World)(h:oZ w B N q s)(hn:gA name)(hN:N<=900) :
  Calls Tryz.prog 70 #[.pointer (some ⟨q.b,q.pre.length,none⟩),.int .i64 t,.string name] w fun e w'=>e=.returned (.int .i64 (iw (s name).held t))/\Mod dZ w w':=by
 have c0:=h.cell;have z0:=h.blk.lt;have lK:=h.look hn;have fR:=h.few name hn;have hr:=h.rows name true hn id;have HM:=dV (MT w.heap.size (q.hd name true) (s name).held t w (hr.mB (aF _)) (h.ok name hn).held (by omega));obtain ⟨a,cap,hd⟩:=eu hr;obtain ⟨a',cap',hd'⟩:=eu (h.rows name false hn id);rw [hd] at lK HM;rw [hd'] at lK;have SP:=yVm;clear h hr;go_enter Tryz.func70,Tryz.ntmps70;go_wp2_with fail;refine HM.out.mono ?_;rintro e w1 ⟨rfl,hm⟩;go_wp2_with fail;go_ret;exact ⟨rfl,hm⟩
theorem yMc(B N:Nat)(q:iP)(s:fy)(name:ByteArray)(w:World)(h:oZ w B N q s)(hn:gA name)(hN:N<=900) :
  Calls Tryz.prog 77 #[.pointer (some ⟨q.b,q.pre.length,none⟩),.string name] w fun e w'=>∃ u,e=.returned u/\jM w' w.heap.size u ((s name).waits.map (·.tx))/\Mod dZ w w':=by
 have c0:=h.cell;have z0:=h.blk.lt;have lK:=h.look hn;have fR:=h.few name hn;have hr:=h.rows name false hn id;have HM:=dV (yMe w.heap.size (q.hd name false) (s name).waits w (hr.mB (aF _)) (by omega));obtain ⟨a,cap,hd⟩:=eu hr;obtain ⟨a',cap',hd'⟩:=eu (h.rows name true hn id);rw [hd] at lK HM;rw [hd'] at lK;have SP:=yVl;clear h hr;go_enter Tryz.func77,Tryz.ntmps77;go_wp2_with fail;refine HM.out.mono ?_;rintro e w1 ⟨u,rfl,hu,hm⟩;have HU:=dV hu;obtain ⟨ua,dp,DJ⟩:=eu hu;subst DJ;have ZQ:Hid (jM w1 w.heap.size (.slice ua (s name).waits.length dp) ((s name).waits.map (·.tx))):=by
  have h1:=HU.out;rw [ar] at h1;exact h1
 clear hu HU;go_wp2_with fail;go_ret;exact ⟨_,rfl,ZQ.out,hm⟩
def je(e:Int):Value:=if e=0 then .nilIface else .iface 90 (.int .i64 e)
structure VC(w w':World)(B N:Nat)(q q':iP)(s:fy)(name:ByteArray)(c:de)(u:Value):Prop where
 fc:jM w' w.heap.size u (iv (s name) c).2.2.1
 tb:oZ w' B N q' (jX s name (iv (s name) c).1)
 b:q'.b=q.b
 pre:q'.pre=q.pre
 post:q'.post=q.post
 t:q'.t=q.t
 n:q'.n<=q.n+1
 md:Mod (fun x=>x=q.b\/q.own x) w w'
 own:∀ x,q'.own x->q.own x\/w.heap.size<=x
def KO(w:World)(B N:Nat)(q:iP)(s:fy)(name:ByteArray)(c:de)(e:Ending)(w':World):Prop:=
 ∃ q' u,e=.returned (.tuple #[.bool (iv (s name) c).2.1,u,je (iv (s name) c).2.2.2])/\VC w w' B N q q' s name c u
theorem yMd(s:fy)(k:ByteArray):jX s k (s k)=s:=by
 funext y;unfold jX;split
 ·rename_i e;rw [e]
 ·rfl
theorem kH.more{w:World}{B N N':Nat}{q:iP}{s:fy}{no:ByteArray->Prop}(h:kH w B N q s no)(hN:N<=N'):kH w B N' q s no:=
 ⟨h.blk,h.bt,h.map,h.hdr,h.rows,h.apart,h.ok,fun k hk=>aJ (h.few k hk) hN⟩
theorem Tu{w w':World}{B N:Nat}{q:iP}{s:fy}{name:ByteArray}{c:de}(h:oZ w B N q s)(hm:Mod dZ w w')(h1:(iv (s name) c).1=s name)(h2:(iv (s name) c).2.2.1=[]):VC w w' B (N+1) q q s name c (.slice none 0 0):=by
 refine ⟨by rw [h2];exact World.ownsRow_nil _ _ _ _,?_,rfl,rfl,rfl,rfl,by omega,hm.mono (fun _ _ e=>e.elim),fun x hx=>.inl hx⟩;rw [h1,yMd];exact (h.more (by omega)).mod hm id (fun _ _=>id)
theorem yOa(k:ec)(c:de):(iv k c).1.held.length+(iv k c).1.waits.length<=k.held.length+k.waits.length+1:=by
 unfold iv;split
 ·simp only;omega
 split
 ·simp only;omega
 split
 ·have:=Lu k.held c;simp only;omega
 split
 ·simp only;omega
 ·have:=Lu k.waits c;simp only;omega
theorem yHw{w w6:World}{B N:Nat}{q:iP}{s:fy}{name:ByteArray}{u:Value}{l:List de}(i0:Bool)(k':ec)(h:oZ w B N q s)(hn:gA name)(hu:ez w6 B u l)(hl:k'.list i0=l)(ho:k'.list (!i0)=(s name).list (!i0))
  (hm:Mod (fun x=>(q.hd name i0).ownBlock=some x\/w.heap.size<=x) w w6) (hat:u.ownBlock=(q.hd name i0).ownBlock\/∀ x,u.ownBlock=some x->w.heap.size<=x) :
  Ba w6 B q name (fun i=>if i=i0 then u else q.hd name i) k'/\kH w6 B N q s (·=name):=by
 have AI:∀ x,u.ownBlock=some x->(q.hd name i0).ownBlock=some x\/w.heap.size<=x:=fun x hx=>by
  rcases hat with e | e
  ·exact .inl (by rw [<-e];exact hx)
  ·exact .inr (e x hx)
 have hlt:∀ k i x,gA k->(q.hd k i).ownBlock=some x->x<w.heap.size:=fun k i x hk hx=>(h.old hk id hx).2.1;have hne:∀ x,(q.hd name (!i0)).ownBlock=some x->u.ownBlock≠some x:=fun x hx e=>by
  rcases AI x e with e2 | e2
  ·have:=(h.apart name name (!i0) i0 x hn hn hx e2).2;cases i0 <;> cases this
  ·have:=hlt name (!i0) x hn hx;omega
 refine ⟨⟨fun i=>?_,fun x h1 h2=>?_,fun k i j x hk hkn h1 h2=>?_⟩,(h.less _).turn hm (fun e=>?_) (fun x hx e=>?_) (fun k i x hk hkn hx e=>?_)⟩
 ·by_cases e:i=i0
  ·subst e;simp only [if_true];rw [hl];exact hu
  ·have:i=!i0:=by cases i <;> cases i0 <;> simp_all
   subst this;simp only [e,if_false];rw [ho];refine (h.rows name (!i0) hn id).mod hm (fun x hx e2=>?_);rcases e2 with e2 | e2
   ·have:=(h.apart name name (!i0) i0 x hn hn hx e2).2;cases i0 <;> cases this
   ·have:=hlt name (!i0) x hn hx;omega
 ·cases i0
  ·simp only [Bool.true_eq_false,if_false,if_true] at h1 h2;exact hne x h1 h2
  ·simp only [dB,if_false,if_true] at h1 h2;exact hne x h2 h1
 ·by_cases e:j=i0
  ·subst e;simp only [if_true] at h2;rcases AI x h2 with e2 | e2
   ·exact hkn (h.apart k name i j x hk hn h1 e2).1
   ·have:=hlt k i x hk h1;omega
  ·simp only [e,if_false] at h2;exact hkn (h.apart k name i j x hk hn h1 h2).1
 ·rcases e with e | e
  ·exact (h.lH hn id e).1 rfl
  ·have:=h.blk.lt;omega
 ·rcases e with e | e
  ·exact (h.lH hn id e).2 hx
  ·have:=(h.lt (.inl hx)).2;omega
 ·rcases e with e | e
  ·exact hkn (h.apart k name i i0 x hk hn hx e).1
  ·have:=hlt k i x hk hx;omega
theorem Jq(e:Int)(w:World):(Instr.makeInterface 90 (.int .i64 e)).run Tryz.prog w=.ok (.iface 90 (.int .i64 e)) w:=by kernel_rfl
theorem yHt{w w6 w7 w8:World}{B N:Nat}{q q':iP}{s:fy}{name:ByteArray}{v:Bool->Value}{k':ec}{c:de}{u:Value}(i0:Bool)(h:oZ w B N q s)(hn:gA name)(fs:Mod (fun x=>(q.hd name i0).ownBlock=some x\/w.heap.size<=x) w w6)
  (SE:∀ i x,(v i).ownBlock=some x->q.own x\/w.heap.size<=x) (hk:Ga w6 w7 B (N+1) q q' s name v k') (oT:Mod dZ w7 w8) (hk':(iv (s name) c).1=k') (hu:jM w8 w.heap.size u (iv (s name) c).2.2.1):VC w w8 B (N+1) q q' s name c u:=by
 have hmb:∀ x,x<w.heap.size->(q.hd name i0).ownBlock=some x\/w.heap.size<=x->q.own x:=fun x hx e=>by
  rcases e with e | e
  ·exact .inr ⟨name,i0,hn,e⟩
  ·omega
 have a1:Mod (fun x=>x=q.b\/q.own x) w w6:=fs.mono (fun x hx e=>.inr (hmb x hx e));have a2:=a1.trans (hk.md.mono (G':=fun x=>x=q.b\/q.own x) (fun x _ e=>e.imp id (fun e=>.inl e)));refine ⟨hu,by rw [hk'];exact hk.tb.mod oT id (fun _ _=>id),hk.b,hk.pre,hk.post,hk.t,hk.n1,a2.trans (oT.mono (fun _ _ e=>e.elim)),fun x hx=>?_⟩;rcases hk.own x hx with e | e | ⟨i,e⟩
 ·exact .inl e
 ·exact .inr (aJ fs.size e)
 ·exact SE i x e
theorem ySj(B N:Nat)(q:iP)(s:fy)(t:Int)(name:ByteArray)(m:Int)(w:World)(h:oZ w B N q s)(qq:m=1\/m=2)(hn:name.size<=20)(hN:N<=390)(DL:q.n<=1000000)(hB:B<=w.heap.size) :
  Calls Tryz.prog 66 #[.pointer (some ⟨q.b,q.pre.length,none⟩),.int .i64 t,.string name,.int .i64 m] w (KO w B (N+1) q s name ⟨t,m⟩):=by
 have hok:gA name:=by unfold gA maxLen;omega
 have hd13:(m != 1 && m != 2)=false:=by rcases qq with rfl | rfl <;> rfl
 have c0:=h.cell;have z0:=h.blk.lt;have lK:=h.look hok;have fR:=h.few name hok;have Aq:=h.ok name hok;obtain ⟨ha,hcap,mi⟩:=eu (h.rows name true hok id);obtain ⟨wa,ft,iY⟩:=eu (h.rows name false hok id);have e1:(s name).list true=(s name).held:=rfl;have e2:(s name).list false=(s name).waits:=rfl;rw [e1] at mi;rw [e2] at iY;obtain ⟨w1,hw1⟩:∃ x,x=(w.alloc (.cells #[q.hd name true,q.hd name false] 168)).alloc (.cells #[.int .i64 t,.int .i64 m] 170):=⟨_,rfl⟩;have dh:Mod dZ w w1:=by rw [hw1];exact ((Mod.refl _ w).alloc _).alloc _
 have hb1:dg w1 w.heap.size [q.hd name true,q.hd name false] 168:=by rw [hw1];exact (dg.new w [q.hd name true,q.hd name false] 168).mod ((Mod.refl dZ _).alloc _) id
 have hc1:dg w1 (w.heap.size+1) (fS ⟨t,m⟩) 170:=by
  rw [hw1];have:=dg.new (w.alloc (.cells #[q.hd name true,q.hd name false] 168)) (fS ⟨t,m⟩) 170;rw [World.size_alloc] at this;exact this
 have h1:=h.mod dh id (fun _ _=>id);have hz1:w1.heap.size=w.heap.size+1+1:=by rw [hw1];simp
 have HT:=dV h;have LO:=dV h1;have fJ:=dV dh;have kA:=dV hb1;have xE:=dV hc1;have LW:=dV Aq
 -- what is asked of the lists
 have Zo:=dV (MT w1.heap.size (q.hd name false) (s name).waits t w1 ((h1.rows name false hok id).mB (aF _)) Aq.waits (by omega));have Zq:Hid (∀ w2,Mod dZ w1 w2->Calls Tryz.prog 110 #[q.hd name true,.int .i64 t] w2 fun e w'=>e=.returned (.int .i64 (iw (s name).held t))/\Mod dZ w2 w'):=fun w2 hm2=>
  MT w2.heap.size _ _ t w2 (((h1.rows name true hok id).mod hm2 (fun _ _=>id)).mB (aF _)) Aq.held (by have:=fR;omega)
 have kI:Hid (∀ w2,Mod dZ w1 w2->Calls Tryz.prog 111 #[.pointer (some ⟨w.heap.size,0,none⟩),.agg #[.int .i64 t,.int .i64 m]] w2 fun e w'=>e=.returned (.bool (pc (s name).held (s name).waits ⟨t,m⟩))/\Mod dZ w2 w'):=fun w2 hm2=>
  yIc w2.heap.size w.heap.size (q.hd name true) (q.hd name false) (s name).held (s name).waits ⟨t,m⟩ w2 (hb1.mod hm2 id) (((h1.rows name true hok id).mod hm2 (fun _ _=>id)).mB (aF _)) (((h1.rows name false hok id).mod hm2 (fun _ _=>id)).mB (aF _)) (by omega) (by omega)
 have BB:Hid (∀ (i:Bool) (w2:World),Mod dZ w1 w2->Calls Tryz.prog 112 #[q.hd name i,.agg #[.int .i64 t,.int .i64 m]] w2 (Rn w2 B (q.hd name i) ((s name).list i) ⟨t,m⟩)):=fun i w2 hm2=>
  yGx B _ _ ⟨t,m⟩ w2 ((h1.rows name i hok id).mod hm2 (fun _ _=>id)) (by cases i;exact Aq.waits;exact Aq.held) (by cases i <;> simp only [ec.list] <;> (try simp) <;> omega) (aJ hB (aJ dh.size hm2.size))
 have zI:=dV (yNz (c:=⟨t,m⟩) Aq qq);have BM:=dV (yOa (s name) ⟨t,m⟩);have oM:Hid (iv (s name) ⟨t,m⟩=if iw (s name).waits t≠0 then (s name,false,[],9) else if m<=iw (s name).held t then (s name,true,[],0) else if pc (s name).held (s name).waits ⟨t,m⟩ then ({ s name with held:=jS (s name).held ⟨t,m⟩ },true,[],0) else if 50<=(s name).waits.length then (s name,false,[],4) else ({ s name with waits:=jS (s name).waits ⟨t,m⟩ },false,xO (s name).held ⟨t,m⟩,0)):=rfl;have p0:=hb1.cell 0 rfl;have p1:=hb1.cell 1 rfl;have x0:=hc1.cell 0 rfl;have x1:=hc1.cell 1 rfl;have BS:=dV mi;have Az:=dV iY;rw [mi] at p0;rw [iY] at p1;rw [mi,iY] at hw1 lK;rw [iY] at Zo;have hmi:=Jq;have hlI:¬ ((name.size:Int) > 20):=by omega
 have SB:w.heap.size<w1.heap.size:=by omega
 have SC:w.heap.size+1<w1.heap.size:=by omega
 clear h h1 dh hb1 hc1 mi iY e1 e2 Aq;go_enter Tryz.func66,Tryz.ntmps66;go_upto_region 1 with fail;go_cut [18] (fun b wc=>b=.bool false/\wc=w)
 case first=>
  rcases qq with rfl | rfl
  ·go_wp2_with fail;go_meet
   case rel=>exact ⟨rfl,rfl⟩
  ·go_wp2_with fail;go_meet
   case rel=>exact ⟨rfl,rfl⟩
 obtain ⟨rfl,AG⟩:=hcut;rw [AG];clear AG;go_upto_region 6 with fail;rw [<-hw1];clear hw1 lK c0;go_wp2_with fail;refine Zo.out.mono ?_;rintro e w2 ⟨rfl,hm2⟩;have gE:=dV hm2;clear Zo;by_cases g1:iw (s name).waits t=0
 ·have EB:Hid (iv (s name) ⟨t,m⟩=if m<=iw (s name).held t then (s name,true,[],0) else if pc (s name).held (s name).waits ⟨t,m⟩ then ({ s name with held:=jS (s name).held ⟨t,m⟩ },true,[],0) else if 50<=(s name).waits.length then (s name,false,[],4) else ({ s name with waits:=jS (s name).waits ⟨t,m⟩ },false,xO (s name).held ⟨t,m⟩,0)):=by rw [oM.out,aK (by simp [g1])];rfl
  have JT:=Zq.out w2 hm2;rw [BS.out] at JT;have Zp:=dV JT;have y0:=hm2.cell p0 id;have y1:=hm2.cell p1 id;have u0:=hm2.cell x0 id;have u1:=hm2.cell x1 id;have Wd:=aH SB hm2.size;have Wh:=aH SC hm2.size;clear Zq oM JT p0 p1 x0 x1 hm2;rw [g1];go_wp2_with fail;refine Zp.out.mono ?_;rintro e w3 ⟨rfl,dy⟩;have iI:=dV (gE.out.trans dy);by_cases g2:m<=iw (s name).held t
  ·have hge:decide (iw (s name).held t ≥ m)=true:=aQ g2;have gN:Hid (KO w B (N+1) q s name ⟨t,m⟩ (.returned (.tuple #[.bool true,.slice none 0 0,.nilIface])) w3):=by
    have hl:iv (s name) ⟨t,m⟩=(s name,true,[],0):=by rw [EB.out,aP g2]
    refine ⟨q,.slice none 0 0,by rw [hl];rfl,Tu HT.out (fJ.out.trans iI.out) (by rw [hl]) (by rw [hl])⟩
   clear EB;go_wp2_with fail;go_ret3;exact gN.out
  ·have hge:decide (iw (s name).held t ≥ m)=false:=aL (by omega);have yS:Hid (iv (s name) ⟨t,m⟩=if pc (s name).held (s name).waits ⟨t,m⟩ then ({ s name with held:=jS (s name).held ⟨t,m⟩ },true,[],0) else if 50<=(s name).waits.length then (s name,false,[],4) else ({ s name with waits:=jS (s name).waits ⟨t,m⟩ },false,xO (s name).held ⟨t,m⟩,0)):=by rw [EB.out,aK g2];rfl
   have QT:=dV (kI.out w3 iI.out);have z0':=dy.cell y0 id;have z1':=dy.cell y1 id;have v0:=dy.cell u0 id;have v1:=dy.cell u1 id;have WZ:=aH Wd dy.size;have Wg:=aH Wh dy.size;clear kI EB y0 y1 u0 u1 dy g2;go_wp2_with fail;refine QT.out.mono ?_;rintro e w4 ⟨rfl,gR⟩;have sZ:=dV (iI.out.trans gR);have HB4:=dV (kA.out.mod sZ.out id);have HC4:=dV (xE.out.mod sZ.out id);have r0:=gR.cell z0' id;have r1:=gR.cell z1' id;have s0:=gR.cell v0 id;have s1:=gR.cell v1 id;have hzk4:=aH WZ gR.size;have Wf:=aH Wg gR.size;have HT4:Hid (oZ w4 B N q s):=LO.out.mod sZ.out id (fun _ _=>id);clear z0' z1' v0 v1 gR QT
   cases gI:pc (s name).held (s name).waits ⟨t,m⟩ with
   | true=>
    have sO:Hid (iv (s name) ⟨t,m⟩=({ s name with held:=jS (s name).held ⟨t,m⟩ },true,[],0)):=by rw [yS.out,gI];rfl
    clear yS;have xj:=BB.out true w4 sZ.out;rw [BS.out] at xj;have BA:=dV xj;clear xj BB;go_upto_region 11 with fail;go_wp2_with fail;refine BA.out.mono ?_;rintro e w5 ⟨u,rfl,sy,eP,vP⟩;have Ac:¬ (Value.slice ha (s name).held.length hcap).ownBlock=some w.heap.size:=fun e=>by
     have hr:=HT.out.rows name true hok id;rw [BS.out] at hr;have:=(mT hr e).2.1;omega
    have nR:=HB4.out.mod eP Ac;have nQ:=nR.set 0 u;obtain ⟨w6,sw⟩:∃ x,x=w5.setCell ⟨w.heap.size,0,none⟩ u:=⟨_,rfl⟩;rw [<-sw] at nQ;have ik:Mod (eA w.heap.size) w5 w6:=by rw [sw];exact Mod.dt _ _ _
    have fs:Mod (fun x=>(q.hd name true).ownBlock=some x\/w.heap.size<=x) w w6:=by
     refine ((fJ.out.trans sZ.out).mono (fun _ _ e=>e.elim)).trans ((eP.mono (fun x _ e=>.inl (by rw [BS.out];exact e))).trans (ik.mono (fun x _ e=>.inr (by simp only [eA] at e;omega))))
    have NR:=sZ.out.size;have hat:u.ownBlock=(q.hd name true).ownBlock\/∀ x,u.ownBlock=some x->w.heap.size<=x:=by
     rw [BS.out];exact vP.imp id (fun h x hx=>by have:=h x hx;omega)
    have AS:ez w6 B u (jS (s name).held ⟨t,m⟩):=sy.mod ik (fun x hx e=>by
     simp only [eA] at e;rw [e] at hx;rcases vP with h9 | h9
     ·rw [h9] at hx;exact Ac hx
     ·have:=h9 _ hx;omega)
    obtain ⟨yG,CJ⟩:=yHw true { s name with held:=jS (s name).held ⟨t,m⟩ } HT.out hok AS rfl rfl fs hat;obtain ⟨v,hv⟩:∃ v:Bool->Value,v=fun i=>if i=true then u else q.hd name i:=⟨_,rfl⟩
    rw [<-hv] at yG;have vC:v true=u:=by rw [hv];rfl
    have AH:v false=q.hd name false:=by rw [hv];rfl
    have hlk:=zI.out;have hll:=BM.out;rw [sO.out] at hlk hll;have Ad:=TK B N (N+1) q s name v _ w6 CJ hok yG hlk (by simp only at hll ⊢;omega) (by omega) DL (aJ hB fs.size);rw [vC,AH,Az.out] at Ad;have zJ:=dV Ad;have Pk:Hid (∀ i x,(v i).ownBlock=some x->q.own x\/w.heap.size<=x):=fun i x hx=>by
     cases i with
     | false=>rw [AH] at hx;exact .inl (.inr ⟨name,false,hok,hx⟩)
     | true=>
      rw [vC] at hx;rcases hat with h9 | h9
      ·exact .inl (.inr ⟨name,true,hok,by rw [<-h9];exact hx⟩)
      ·exact .inr (h9 x hx)
    have yR:=dV fs;have f5:=nR.frozen 0;have d5:=nR.cell 0 rfl;have Ho:=nR.lt;have ZI:=nQ.cell 0 rfl;have ZH:=nQ.cell 1 rfl;have WY:=nQ.lt;rw [Az.out] at ZH;obtain ⟨ua,dp,hu⟩:=eu sy;subst hu;clear sy eP vP nR nQ ik fs hat AS yG CJ hv vC AH Ad hlk hll BA r0 r1;go_upto_region 12 with fail;rw [<-sw];clear sw f5 d5 Ho;go_wp2_with fail;refine zJ.out.mono ?_;rintro e w7 ⟨rfl,q',hQ⟩;have gN:Hid (KO w B (N+1) q s name ⟨t,m⟩ (.returned (.tuple #[.bool true,.slice none 0 0,.nilIface])) w7):=by
     refine ⟨q',.slice none 0 0,by rw [sO.out];rfl,yHt true HT.out hok yR.out Pk.out hQ (Mod.refl _ _) (by rw [sO.out]) (by rw [sO.out];exact World.ownsRow_nil _ _ _ _)⟩
    clear hQ zJ;go_wp2_with fail;go_ret3;exact gN.out
   | false=>
    have sO:Hid (iv (s name) ⟨t,m⟩=if 50<=(s name).waits.length then (s name,false,[],4) else ({ s name with waits:=jS (s name).waits ⟨t,m⟩ },false,xO (s name).held ⟨t,m⟩,0)):=by rw [yS.out,gI];rfl
    clear yS;by_cases g4:50<=(s name).waits.length
    ·have Of:decide (((s name).waits.length:Int) ≥ 50)=true:=aQ (by omega);have gN:Hid (KO w B (N+1) q s name ⟨t,m⟩ (.returned (.tuple #[.bool false,.slice none 0 0,.iface 90 (.int .i64 4)])) w4):=by
      have hl:iv (s name) ⟨t,m⟩=(s name,false,[],4):=by rw [sO.out,aP g4]
      refine ⟨q,.slice none 0 0,by rw [hl];rfl,Tu HT.out (fJ.out.trans sZ.out) (by rw [hl]) (by rw [hl])⟩
     clear sO;go_wp2_with fail;go_ret3;exact gN.out
    ·have Of:decide (((s name).waits.length:Int) ≥ 50)=false:=aL (by omega);have EA:Hid (iv (s name) ⟨t,m⟩=({ s name with waits:=jS (s name).waits ⟨t,m⟩ },false,xO (s name).held ⟨t,m⟩,0)):=by rw [sO.out,aK g4];rfl
     clear sO;have xj:=BB.out false w4 sZ.out;rw [Az.out] at xj;have BA:=dV xj;clear xj BB;go_upto_region 16 with fail;go_wp2_with fail;refine BA.out.mono ?_;rintro e w5 ⟨u,rfl,sy,eP,vP⟩;have Ac:¬ (Value.slice wa (s name).waits.length ft).ownBlock=some w.heap.size:=fun e=>by
      have hr:=HT.out.rows name false hok id;rw [Az.out] at hr;have:=(mT hr e).2.1;omega
     have OV:¬ (Value.slice wa (s name).waits.length ft).ownBlock=some (w.heap.size+1):=fun e=>by
      have hr:=HT.out.rows name false hok id;rw [Az.out] at hr;have:=(mT hr e).2.1;omega
     have nR:=HB4.out.mod eP Ac;have Ks:=HC4.out.mod eP OV;have nQ:=nR.set 1 u;obtain ⟨w6,sw⟩:∃ x,x=w5.setCell ⟨w.heap.size,1,none⟩ u:=⟨_,rfl⟩;rw [<-sw] at nQ;have ik:Mod (eA w.heap.size) w5 w6:=by rw [sw];exact Mod.dt _ _ _
     have Kr:=Ks.mod ik (fun e=>by simp only [eA] at e;omega);have fs:Mod (fun x=>(q.hd name false).ownBlock=some x\/w.heap.size<=x) w w6:=by
      refine ((fJ.out.trans sZ.out).mono (fun _ _ e=>e.elim)).trans ((eP.mono (fun x _ e=>.inl (by rw [Az.out];exact e))).trans (ik.mono (fun x _ e=>.inr (by simp only [eA] at e;omega))))
     have NR:=sZ.out.size;have hat:u.ownBlock=(q.hd name false).ownBlock\/∀ x,u.ownBlock=some x->w.heap.size<=x:=by
      rw [Az.out];exact vP.imp id (fun h x hx=>by have:=h x hx;omega)
     have AS:ez w6 B u (jS (s name).waits ⟨t,m⟩):=sy.mod ik (fun x hx e=>by
      simp only [eA] at e;rw [e] at hx;rcases vP with h9 | h9
      ·rw [h9] at hx;exact Ac hx
      ·have:=h9 _ hx;omega)
     obtain ⟨yG,CJ⟩:=yHw false { s name with waits:=jS (s name).waits ⟨t,m⟩ } HT.out hok AS rfl rfl fs hat;obtain ⟨v,hv⟩:∃ v:Bool->Value,v=fun i=>if i=false then u else q.hd name i:=⟨_,rfl⟩
     rw [<-hv] at yG;have vC:v true=q.hd name true:=by rw [hv];rfl
     have AH:v false=u:=by rw [hv];rfl
     have hlk:=zI.out;have hll:=BM.out;rw [EA.out] at hlk hll;have Ad:=TK B N (N+1) q s name v _ w6 CJ hok yG hlk (by simp only at hll ⊢;omega) (by omega) DL (aJ hB fs.size);rw [vC,AH,BS.out] at Ad;have zJ:=dV Ad;have Pk:Hid (∀ i x,(v i).ownBlock=some x->q.own x\/w.heap.size<=x):=fun i x hx=>by
      cases i with
      | true=>rw [vC] at hx;exact .inl (.inr ⟨name,true,hok,hx⟩)
      | false=>
       rw [AH] at hx;rcases hat with h9 | h9
       ·exact .inl (.inr ⟨name,false,hok,by rw [<-h9];exact hx⟩)
       ·exact .inr (h9 x hx)
     have HRT:Hid (ez w6 B (q.hd name true) (s name).held):=by have:=yG.row true;rw [vC] at this;exact this
     have yR:=dV fs;have HB6:=dV nQ;have HC6:=dV Kr;have f5:=nR.frozen 1;have d5:=nR.cell 1 rfl;have Ho:=nR.lt;have ZI:=nQ.cell 0 rfl;have ZH:=nQ.cell 1 rfl;have WY:=nQ.lt;rw [BS.out] at ZI;obtain ⟨ua,dp,hu⟩:=eu sy;subst hu;clear sy eP vP nR nQ ik fs hat AS yG CJ hv vC AH Ad hlk hll BA r0 r1 Ks Kr;go_upto_region 17 with fail;rw [<-sw];clear sw f5 d5 Ho;go_wp2_with fail;refine zJ.out.mono ?_;rintro e w7 ⟨rfl,q',hQ⟩;have hnb:∀ y,w.heap.size<=y->¬ (y=q.b\/q.m=some y):=fun y hy e=>by
      rcases e with e | e
      ·omega
      ·have:=(HT.out.lt (.inl e)).2;omega
     have Ou:=HB6.out.mod hQ.md (hnb _ (aF _));have Dc:=HC6.out.mod hQ.md (hnb _ (by omega));have hr7:=HRT.out.mod hQ.md (fun x hx e=>by
      have hne:=HT.out.lH hok id hx;exact e.elim hne.1 hne.2)
     have HWO:=dV (yEn B w.heap.size _ _ (s name).held ⟨t,m⟩ w7 Ou hr7 (by omega));have s70:=Dc.cell 0 rfl;have s71:=Dc.cell 1 rfl;have hzc7:=Dc.lt;have HQ:=dV hQ;have Wi:=hQ.md.size;have Wl:=yR.out.size;clear hQ zJ Ou Dc hr7 ZI ZH s0 s1;go_upto_region 18 with fail;go_wp2_with fail;refine HWO.out.mono ?_;rintro e w8 ⟨u8,rfl,XK,oT⟩;have HR8:=dV (uL XK (aJ Wl Wi));obtain ⟨u8a,El,hu8⟩:=eu XK;subst hu8;have gN:Hid (KO w B (N+1) q s name ⟨t,m⟩ (.returned (.tuple #[.bool false,.slice u8a (xO (s name).held ⟨t,m⟩).length El,.nilIface])) w8):=by
      refine ⟨q',.slice u8a (xO (s name).held ⟨t,m⟩).length El,by rw [EA.out];rfl,yHt false HT.out hok yR.out Pk.out HQ.out oT (by rw [EA.out]) (by rw [EA.out];exact HR8.out)⟩
     clear XK HR8;go_wp2_with fail;go_ret3;exact gN.out
 ·have g1b:(iw (s name).waits t == 0)=false:=by simpa using g1
  have gN:Hid (KO w B (N+1) q s name ⟨t,m⟩ (.returned (.tuple #[.bool false,.slice none 0 0,.iface 90 (.int .i64 9)])) w2):=by
   have hl:iv (s name) ⟨t,m⟩=(s name,false,[],9):=by rw [oM.out,aP g1]
   refine ⟨q,.slice none 0 0,by rw [hl];rfl,Tu HT.out (fJ.out.trans gE.out) (by rw [hl]) (by rw [hl])⟩
  clear oM Zq;go_wp2_with fail;go_ret3;exact gN.out
def Tryz.sq:Go.Shelf.Ren:=⟨fun | 190=>160 | 125=>179 | 258=>178 | 128=>191 | 129=>192 | 302=>182 | 303=>183 | 304=>184 | 305=>185 | 306=>186 | 307=>187 | 308=>188 | 309=>189 | 310=>190 | 333=>194 | 329=>195 | 330=>196 | 334=>197 | 335=>198 | 336=>199 | 344=>200 | n=>n,fun | 31=>47 | 9=>9 | 3=>3 | 46=>101 | 0=>0 | 51=>261 | 53=>263 | 4=>4 | 183=>254 | 182=>253 | 131=>194 | 5=>5 | 218=>265 | 222=>269 | 228=>271 | 229=>272 | n=>n,fun | n=>n⟩
theorem Tryz.sortStr:Go.Proofs.Lays.n190 Tryz.prog Tryz.sq:={
 mixed:=by kernel_rfl
 f125:=Tryz.func179.trans (ai some (by kernel_rfl))
 f128:=Tryz.func191.trans (ai some (by kernel_rfl))
 f129:=Tryz.func192.trans (ai some (by kernel_rfl))
 f190:=Tryz.func160.trans (ai some (by kernel_rfl))
 f258:=Tryz.func178.trans (ai some (by kernel_rfl))
 f302:=Tryz.func182.trans (ai some (by kernel_rfl))
 f303:=Tryz.func183.trans (ai some (by kernel_rfl))
 f304:=Tryz.func184.trans (ai some (by kernel_rfl))
 f305:=Tryz.func185.trans (ai some (by kernel_rfl))
 f306:=Tryz.func186.trans (ai some (by kernel_rfl))
 f307:=Tryz.func187.trans (ai some (by kernel_rfl))
 f308:=Tryz.func188.trans (ai some (by kernel_rfl))
 f309:=Tryz.func189.trans (ai some (by kernel_rfl))
 f310:=Tryz.func190.trans (ai some (by kernel_rfl))
 f329:=Tryz.func195.trans (ai some (by kernel_rfl))
 f330:=Tryz.func196.trans (ai some (by kernel_rfl))
 f333:=Tryz.func194.trans (ai some (by kernel_rfl))
 f334:=Tryz.func197.trans (ai some (by kernel_rfl))
 f335:=Tryz.func198.trans (ai some (by kernel_rfl))
 f336:=Tryz.func199.trans (ai some (by kernel_rfl))
 f344:=Tryz.func200.trans (ai some (by kernel_rfl))
 t0:=Tryz.underlying0
 a0:=Tryz.isAgg0
 z0:=Tryz.sizeOf0
 v0:=Tryz.zeroValue0
 t3:=Tryz.underlying3
 a3:=Tryz.isAgg3
 z3:=Tryz.sizeOf3
 v3:=Tryz.zeroValue3
 t4:=Tryz.underlying4
 a4:=Tryz.isAgg4
 z4:=Tryz.sizeOf4
 v4:=Tryz.zeroValue4
 t5:=Tryz.underlying5
 a5:=Tryz.isAgg5
 z5:=Tryz.sizeOf5
 v5:=Tryz.zeroValue5
 t9:=Tryz.underlying9
 a9:=Tryz.isAgg9
 z9:=Tryz.sizeOf9
 v9:=Tryz.zeroValue9
 t31:=Tryz.underlying47
 a31:=Tryz.isAgg47
 z31:=Tryz.sizeOf47
 v31:=Tryz.zeroValue47
 t46:=Tryz.underlying101
 a46:=Tryz.isAgg101
 z46:=Tryz.sizeOf101
 v46:=Tryz.zeroValue101
 t51:=Tryz.underlying261
 a51:=Tryz.isAgg261
 z51:=Tryz.sizeOf261
 v51:=Tryz.zeroValue261
 t53:=Tryz.underlying263
 a53:=Tryz.isAgg263
 z53:=Tryz.sizeOf263
 v53:=Tryz.zeroValue263
 t131:=Tryz.underlying194
 a131:=Tryz.isAgg194
 z131:=Tryz.sizeOf194
 v131:=Tryz.zeroValue194
 t182:=Tryz.underlying253
 a182:=Tryz.isAgg253
 z182:=Tryz.sizeOf253
 v182:=Tryz.zeroValue253
 t183:=Tryz.underlying254
 a183:=Tryz.isAgg254
 z183:=Tryz.sizeOf254
 v183:=Tryz.zeroValue254
 t218:=Tryz.underlying265
 a218:=Tryz.isAgg265
 z218:=Tryz.sizeOf265
 v218:=Tryz.zeroValue265
 t222:=Tryz.underlying269
 a222:=Tryz.isAgg269
 z222:=Tryz.sizeOf269
 v222:=Tryz.zeroValue269
 t228:=Tryz.underlying271
 a228:=Tryz.isAgg271
 z228:=Tryz.sizeOf271
 v228:=Tryz.zeroValue271
 t229:=Tryz.underlying272
 a229:=Tryz.isAgg272
 z229:=Tryz.sizeOf272
 v229:=Tryz.zeroValue272 }
end Go.Proofs.YtmaiggbnceejiaaGreatDoor
