import Derived.Test.YtogaigioeohjaaaGreatDoorD12
import Derived.ChangeMaps5
set_option linter.unusedVariables false
set_option maxRecDepth 100000
set_option maxHeartbeats 16000000
namespace Go.Proofs.YtogaigioeohjaaaGreatDoor
open Go.RowKit Go.Lib Go.Maps
def zZa(h:ByteArray->Bool->Value)(k:ByteArray)(v:Bool->Value):ByteArray->Bool->Value:=fun x=>if x=k then v else h x
theorem zFw(h:ByteArray->Bool->Value)(k:ByteArray)(v:Bool->Value):zZa h k v k=v:=by unfold zZa;rw [if_pos rfl]
theorem zFv{h:ByteArray->Bool->Value}{k x:ByteArray}{v:Bool->Value}(e:x≠k):zZa h k v x=h x:=by unfold zZa;rw [if_neg e]
theorem zFu(s:Tab)(k:ByteArray)(a:KeyS):updK s k a k=a:=by unfold updK;rw [if_pos rfl]
theorem zGq{s:Tab}{k x:ByteArray}{a:KeyS}(e:x≠k):updK s k a x=s x:=by unfold updK;rw [if_neg e]
structure zUi(w:World)(B:Nat)(q:TbM)(name:ByteArray)(v:Bool->Value)(k':KeyS):Prop where
 row:∀ i,RowK w B (v i) (k'.list i)
 ne:∀ x,(v true).ownBlock=some x->(v false).ownBlock≠some x
 out:∀ k i j x,okQ k->k≠name->(q.hd k i).ownBlock=some x->(v j).ownBlock≠some x
structure yEw(w w':World)(B N:Nat)(q q':TbM)(s:Tab)(name:ByteArray)(v:Bool->Value)(k':KeyS):Prop where
 tb:TbP w' B N q' (updK s name k')
 b:q'.b=q.b
 pre:q'.pre=q.pre
 post:q'.post=q.post
 t:q'.t=q.t
 n1:q'.n<=q.n+1
 n0:¬ (s name).bare->q'.n<=q.n
 md:Mod (fun x=>x=q.b\/q.m=some x) w w'
 own:∀ x,q'.own x->q.own x\/w.heap.size<=x\/∃ i,(v i).ownBlock=some x
theorem zSm{w w':World}{B N N':Nat}{q:TbM}{s:Tab}{name:ByteArray}{v:Bool->Value}{k':KeyS}{m:Option Nat}{n:Nat}{G:Nat->Prop}(h:TbX w B N q s (·=name))(hn:okQ name)(hk:zUi w B q name v k')(hok:zHg k')(hN:k'.held.length+k'.waits.length<=N')(hNN:N<=N')
  (hm:Mod G w w') (hG:∀ k i x,okQ k->(zZa q.hd name v k i).ownBlock=some x->¬ G x) (hb:Blk w' q.b (q.pre++.map m :: q.post) q.t) (hmap:MapQ w' B m n (zZa q.hd name v) (updK s name k')) :
  TbP w' B N' { q with m:=m,n:=n,hd:=zZa q.hd name v } (updK s name k'):=by
 have hrow:∀ k i,okQ k->RowK w B (zZa q.hd name v k i) ((updK s name k' k).list i):=fun k i hk2=>by
  by_cases e:k=name
  ·subst e;rw [zFw,zFu];exact hk.row i
  ·rw [zFv e,zGq e];exact h.rows k i hk2 e
 refine ⟨hb,h.bt,hmap,fun k i hk2=>zOb (hrow k i hk2),fun k i hk2 _=>(hrow k i hk2).mod hm (fun x hx=>hG k i x hk2 hx),fun k k2 i i2 x hk1 hk2 h1 h2=>?_,fun k hk2=>?_,fun k hk2=>?_⟩
 ·simp only at h1 h2
  by_cases e1:k=name
  ·by_cases e2:k2=name
   ·subst e1
    refine ⟨e2.symm,?_⟩
    subst e2
    rw [zFw] at h1 h2
    cases i <;> cases i2
    ·rfl
    ·exact absurd h1 (hk.ne x h2)
    ·exact absurd h2 (hk.ne x h1)
    ·rfl
   ·subst e1
    rw [zFw] at h1
    rw [zFv e2] at h2
    exact absurd h1 (hk.out k2 i2 i x hk2 e2 h2)
  ·rw [zFv e1] at h1
   by_cases e2:k2=name
   ·subst e2
    rw [zFw] at h2
    exact absurd h2 (hk.out k i i2 x hk1 e1 h1)
   ·rw [zFv e2] at h2
    exact h.apart k k2 i i2 x hk1 hk2 h1 h2
 ·by_cases e:k=name
  ·rw [e,zFu];exact hok
  ·rw [zGq e];exact h.ok k hk2
 ·by_cases e:k=name
  ·rw [e,zFu];exact hN
  ·rw [zGq e];exact Nat.le_trans (h.few k hk2) hNN
theorem yFu(w:World)(B:Nat)(q:TbM)(name:ByteArray):zUi w B q name (fun _=>.slice none 0 0) ⟨[],[]⟩:=
 ⟨fun i=>by cases i <;> exact World.ownsRow_nil _ _ _ _,fun x hx=>by simp [Value.ownBlock] at hx,fun k i j x _ _ _=>by simp [Value.ownBlock]⟩
theorem yNy{k:KeyS}(h:k.bare):k=⟨[],[]⟩:=by cases k;obtain ⟨h1,h2⟩:=h;simp at h1 h2;rw [h1,h2]
theorem yMa{w w':World}{B N N':Nat}{q:TbM}{s:Tab}{name:ByteArray}{v:Bool->Value}{k':KeyS}(h:TbX w B N q s (·=name))(hn:okQ name)(hbare:k'.bare)(hNN:N<=N')(hm:Mod zAb w w')(hq:q.m=none) :
  ∃ q',yEw w w' B N' q q' s name v k':=by
 have hb:=yNy hbare
 subst hb
 have hmap:=h.map
 rw [hq] at hmap
 refine ⟨_,⟨zSm (m:=none) (n:=q.n) h hn (yFu w B q name) zHg.nil (by simp) hNN hm (fun _ _ _ _ _=>id) (by have:=h.blk.mod hm id;rw [hq] at this;exact this) (fun k hk=>?_),rfl,rfl,rfl,rfl,by show q.n<=q.n+1;omega,fun _=>Nat.le_refl _,hm.mono (fun _ _ e=>e.elim),fun x hx=>?_⟩⟩
 ·by_cases e:k=name
  ·subst e;rw [zFw,zFu];exact ⟨fun _=>rfl,rfl,rfl⟩
  ·rw [zFv e,zGq e];exact hmap k hk
 ·rcases hx with hx | ⟨k,i,hk,hx⟩
  ·cases hx
  ·simp only at hx
   by_cases e:k=name
   ·subst e;rw [zFw] at hx;simp [Value.ownBlock] at hx
   ·rw [zFv e] at hx;exact .inl (.inr ⟨k,i,hk,hx⟩)
theorem zXr{w:World}{g n:Nat}{D:DataW Unit}(h:w.ownsMap Tryz.prog 9 zKj g n D):w.ownsMap Tryz.prog 9 zKj g (Maps.size D) D:=by
 obtain ⟨es,clock,hb,F,_,rfl⟩:=h
 exact ⟨es,clock,hb,F,by simp [Maps.size,length_sorted],rfl⟩
theorem yQq{w w1 w':World}{B N N' g:Nat}{q:TbM}{s:Tab}{name:ByteArray}{v:Bool->Value}{k':KeyS}{D:DataW Unit}(h:TbX w B N q s (·=name))(hn:okQ name)(hbare:k'.bare)(hNN:N<=N')(hm1:Mod zAb w w1)(hq:q.m=some g)(hBg:B<=g)
  (h2:∀ k,okQ k->D.atKey (keyQ k) zWt=encK (q.hd k true) (q.hd k false)/\(Maps.has D (keyQ k)=true↔¬ (s k).bare)) (hown:w'.ownsMap Tryz.prog 9 zKj g q.n (D.del (keyQ name))) (hm:Mod (zAd g) w1 w') :
  ∃ q',yEw w w' B N' q q' s name v k':=by
 have hb:=yNy hbare
 subst hb
 have hmo:Mod (zAd g) w w':=(hm1.mono (fun _ _ e=>e.elim)).trans hm
 refine ⟨_,⟨zSm (m:=some g) (n:=q.n) h hn (yFu w B q name) zHg.nil (by simp) hNN hmo (fun k i x hk hx e=>?_) ?_ ⟨hBg,_,hown,fun k hk=>?_⟩,rfl,rfl,rfl,rfl,by show q.n<=q.n+1;omega,fun _=>Nat.le_refl _,hmo.mono (fun x _ e=>.inr (by simp only [zAd] at e;rw [hq,e])),fun x hx=>?_⟩⟩
 ·simp only [zAd] at e
  by_cases e1:k=name
  ·subst e1;rw [zFw] at hx;simp [Value.ownBlock] at hx
  ·rw [zFv e1] at hx;exact (h.row_ne hk e1 hx).2 (by rw [hq,e])
 ·have:=h.blk.mod hmo (fun e=>by simp only [zAd] at e;exact h.map_ne (by rw [hq,e]))
  rw [hq] at this
  exact this
 ·by_cases e:k=name
  ·subst e
   rw [zFw,zFu,atKey_del_same,has_del_same]
   refine ⟨rfl,?_⟩
   simp [KeyS.bare]
  ·have hne:keyQ k≠keyQ name:=fun e2=>e (zYd e2)
   rw [zFv e,zGq e,atKey_del_other hne,has_del_other hne]
   exact h2 k hk
 ·rcases hx with hx | ⟨k,i,hk,hx⟩
  ·exact .inl (.inl (by rw [hq];exact hx))
  ·simp only at hx
   by_cases e:k=name
   ·subst e;rw [zFw] at hx;simp [Value.ownBlock] at hx
   ·rw [zFv e] at hx;exact .inl (.inr ⟨k,i,hk,hx⟩)
theorem yQo{w:World}{B N:Nat}{q:TbM}{s:Tab}{name:ByteArray}(h:TbX w B N q s (·=name))(hB:B<=w.heap.size)(hm:q.m=none) :
  TbX ((w.setCell ⟨q.b,q.pre.length,none⟩ (.map (some w.heap.size))).alloc (.map #[] 0)) B N { q with m:=some w.heap.size,n:=0 } s (·=name)/\Mod (zAd q.b) w ((w.setCell ⟨q.b,q.pre.length,none⟩ (.map (some w.heap.size))).alloc (.map #[] 0)):=by
 have hmo:Mod (zAd q.b) w ((w.setCell ⟨q.b,q.pre.length,none⟩ (.map (some w.heap.size))).alloc (.map #[] 0)):=(Mod.setBlk _ _ _).alloc _
 have hmap:=h.map
 rw [hm] at hmap
 refine ⟨⟨?_,h.bt,⟨hB,.map [],?_,fun k hk=>?_⟩,h.hdr,fun k i hk hno=>(h.rows k i hk hno).mod hmo (fun x hx e=>?_),h.apart,h.ok,h.few⟩,hmo⟩
 ·have:=(h.blk.set q.pre.length (.map (some w.heap.size))).mod ((Mod.refl zAb _).alloc (.map #[] 0)) id
  rw [List.set_append_right _ _ (Nat.le_refl _),Nat.sub_self,List.set_cons_zero] at this
  exact this
 ·have h1:=World.ownsMap_made (w.setCell ⟨q.b,q.pre.length,none⟩ (.map (some w.heap.size))) Tryz.prog 9 zKj
  simpa using h1
 ·obtain ⟨h1,h2⟩:=hmap k hk
  show DataW.atKey (.map []) (keyQ k) zWt=encK (q.hd k true) (q.hd k false)/\_
  rw [h1 true,h1 false]
  exact ⟨rfl,by simp [has,h2]⟩
 ·simp only [zAd] at e
  exact (h.row_ne hk hno hx).1 e
theorem yQn{w w7:World}{B N N' g:Nat}{q:TbM}{s:Tab}{name:ByteArray}{v:Bool->Value}{k':KeyS}{D:DataW Unit}(h:TbX w B N q s (·=name))(hn:okQ name)(hk:zUi w B q name v k')(hok:zHg k')(hN:k'.held.length+k'.waits.length<=N')(hNN:N<=N')(hbare:¬ k'.bare)(hq:q.m=some g)(hBg:B<=g)
  (hown:w.ownsMap Tryz.prog 9 zKj g q.n D) (h2:∀ k,okQ k->D.atKey (keyQ k) zWt=encK (q.hd k true) (q.hd k false)/\(Maps.has D (keyQ k)=true↔¬ (s k).bare))
  (h7:w7.ownsMap Tryz.prog 9 zKj g (q.n+1) (D.put (keyQ name) (encK (v true) (v false)))) (hm7:Mod (zAd g) w w7) :
  ∃ q',yEw w w7 B N' q q' s name v k':=by
 have hD:=hown.isMap
 have hty:=hown.tidy yIa
 have hsz:=hown.size_le
 have h7t:=zXr h7
 obtain ⟨n',hn',h7n,hn0⟩:∃ n',n'<=q.n+1/\w7.ownsMap Tryz.prog 9 zKj g n' (D.put (keyQ name) (encK (v true) (v false)))/\(¬ (s name).bare->n'<=q.n):=by
  refine ⟨_,h7.size_le,h7t,fun hnb=>?_⟩
  rw [size_put hty,if_pos ((h2 name hn).2.2 hnb)]
  exact hsz
 have hvg:∀ i x,(v i).ownBlock=some x->x≠g:=fun i x hx e=>by
  obtain ⟨_,_,cur,hc⟩:=zAq (hk.row i) hx
  obtain ⟨es,clock,hb,_⟩:=hown
  rw [e] at hc
  rw [hc] at hb
  cases hb
 refine ⟨_,⟨zSm (m:=some g) (n:=n') h hn hk hok hN hNN hm7 (fun k i x hk2 hx e=>?_) ?_ ⟨hBg,_,h7n,fun k hk2=>?_⟩,rfl,rfl,rfl,rfl,hn',hn0,hm7.mono (fun x _ e=>.inr (by simp only [zAd] at e;rw [hq,e])),fun x hx=>?_⟩⟩
 ·simp only [zAd] at e
  by_cases e1:k=name
  ·subst e1;rw [zFw] at hx;exact hvg i x hx e
  ·rw [zFv e1] at hx;exact (h.row_ne hk2 e1 hx).2 (by rw [hq,e])
 ·have:=h.blk.mod hm7 (fun e=>by simp only [zAd] at e;exact h.map_ne (by rw [hq,e]))
  rw [hq] at this
  exact this
 ·by_cases e:k=name
  ·subst e
   rw [zFw,zFu,atKey_put_same hD (zRa _),has_put_same hD (zRa _)]
   exact ⟨rfl,by simp [hbare]⟩
  ·have hne:keyQ k≠keyQ name:=fun e2=>e (zYd e2)
   rw [zFv e,zGq e,atKey_put_other hne,has_put_other hne]
   exact h2 k hk2
 ·rcases hx with hx | ⟨k,i,hk2,hx⟩
  ·exact .inl (.inl (by rw [hq];exact hx))
  ·simp only at hx
   by_cases e:k=name
   ·subst e;rw [zFw] at hx;exact .inr (.inr ⟨i,hx⟩)
   ·rw [zFv e] at hx;exact .inl (.inr ⟨k,i,hk2,hx⟩)
theorem yTj(m:Option Nat)(w:World):(binOp .eql 85 (.map m) (.map none)).run Tryz.prog w=.ok (.bool m.isNone) w:=by cases m <;> kernel_rfl
theorem zZq(w:World):(Instr.makeMap 85 none).run Tryz.prog w=.ok (.map (some w.heap.size)) (w.alloc (.map #[] 0)):=by kernel_rfl
theorem MapQ.get{w:World}{B n g:Nat}{m:Option Nat}{hd:ByteArray->Bool->Value}{s:Tab}(h:MapQ w B m n hd s)(hm:m=some g):B<=g/\∃ D,w.ownsMap Tryz.prog 9 zKj g n D/\∀ k,okQ k->D.atKey (keyQ k) zWt=encK (hd k true) (hd k false)/\(Maps.has D (keyQ k)=true↔¬ (s k).bare):=by
 subst hm;exact h
theorem zYe(B N N':Nat)(q:TbM)(s:Tab)(name:ByteArray)(v:Bool->Value)(k':KeyS)(w:World)(h:TbX w B N q s (·=name))(hn:okQ name)(hk:zUi w B q name v k')(hok:zHg k')(hN:k'.held.length+k'.waits.length<=N')(hNN:N<=N')(hqn:q.n<=1000000)(hB:B<=w.heap.size) :
  Calls Tryz.prog 178 #[.pointer (some ⟨q.b,q.pre.length,none⟩),.string name,.agg #[v true,v false]] w fun e w'=>e=.returned (.tuple #[])/\∃ q',yEw w w' B N' q q' s name v k':=by
 have hkl:Hid (keyOf Tryz.prog 9 (.string name)=some (keyQ name)):=Go.WideMaps.keyOf_string_mk Tryz.underlying9 hn
 obtain ⟨ha,hcap,hhv⟩:=zAg (hk.row true)
 obtain ⟨wa,wcap,hwv⟩:=zAg (hk.row false)
 have e1:k'.list true=k'.held:=rfl
 have e2:k'.list false=k'.waits:=rfl
 rw [e1] at hhv
 rw [e2] at hwv
 obtain ⟨w1,hw1⟩:∃ x,x=w.alloc (.cells #[v true,v false] 212):=⟨_,rfl⟩
 have hm1:Mod zAb w w1:=by rw [hw1];exact (Mod.refl _ w).alloc _
 have hb1:Blk w1 w.heap.size [v true,v false] 212:=by rw [hw1];exact Blk.new w [v true,v false] 212
 have p0:=hb1.cell 0 rfl
 have p1:=hb1.cell 1 rfl
 have hz1:=hb1.lt
 have h1:=h.mod hm1 id (fun _ _=>id)
 have c0:=h1.cell
 have hzb:=h1.blk.lt
 have HT:=Hmq h
 have HT1:=Hmq h1
 have HK:=Hmq hk
 have HM1:=Hmq hm1
 have HOK:=Hmq hok
 have HB1:=Hmq hb1
 have HW:Hid (w1.heap.size=w.heap.size+1):=by rw [hw1,Hid];simp
 rw [hhv] at p0
 rw [hwv] at p1
 rw [hhv,hwv] at hw1
 rw [hhv,hwv]
 have HHV:=Hmq hhv
 have HWV:=Hmq hwv
 have hqb:q.b<w.heap.size:=h.blk.lt
 clear h hk hok hm1 hb1 h1 hhv hwv e1 e2
 generalize hlh:k'.held.length=lh at p0 p1 hw1 HHV hN
 generalize hlw:k'.waits.length=lw at p0 p1 hw1 HWV hN
 by_cases hbare:lh=0/\lw=0
 ·obtain ⟨rfl,rfl⟩:=hbare
  have HBR:Hid k'.bare:=⟨List.eq_nil_of_length_eq_zero hlh,List.eq_nil_of_length_eq_zero hlw⟩
  cases hm:q.m with
  | none=>
   have hdn:∀ ty (w:World),(Builtin.delete_ #[85,9] ty #[.map none,.string name]).run Tryz.prog w=.ok (.tuple #[]) w:=fun ty w=>Go.ChangeMaps.run_delete_nil Tryz.underlying85 Tryz.underlying9 name
   rw [hm] at c0
   have HQ:=Hmq (yMa (v:=v) HT.out hn HBR.out hNN HM1.out hm)
   clear hm hlh hlw
   go_enter Tryz.func178,Tryz.ntmps178
   go_upto_region 1 with fail
   rw [<-hw1]
   clear hw1
   go_wp2_with fail
   first
    | go_end0
    | refine bodyPost_ret (results_none rfl _ _ _) rfl ?_
   exact ⟨rfl,HQ.out⟩
  | some g=>
   rw [hm] at c0
   obtain ⟨hBg,D,hown,hD⟩:=HT1.out.map.get hm
   have HO:=Hmq hown
   have HD:=Hmq hD
   have HQM:=Hmq hm
   clear hm hlh hlw hown hD
   go_enter Tryz.func178,Tryz.ntmps178
   go_upto_region 1 with fail
   rw [<-hw1]
   clear hw1
   go_wp2_with (first
    | (at_delete;refine wpList_delete_own _ rfl _ _ 85 9 rfl 212 yIa Tryz.underlying85 zKj g q.n D rfl HO.out _ (keyQ name) rfl hkl.out ?_)
    | fail)
   intro w2 hown2 hturn2
   have hm2:Mod (zAd g) w1 w2:=(Mod.refl _ w1).grown hturn2.grown (fun x hx _=>by simp only [zAd];simpa using hx.symm)
   have HQ:=Hmq (yQq (v:=v) HT.out hn HBR.out hNN HM1.out HQM.out hBg HD.out hown2 hm2)
   clear hown2 hturn2 hm2
   go_wp2_with fail
   first
    | go_end0
    | refine bodyPost_ret (results_none rfl _ _ _) rfl ?_
   exact ⟨rfl,HQ.out⟩
 ·have HBR:Hid (¬ k'.bare):=fun e=>hbare ⟨by rw [<-hlh,e.1];rfl,by rw [<-hlw,e.2];rfl⟩
  have hen:=yTj q.m w1
  have hmm:=zZq
  have HLEN:Hid (k'.held.length+k'.waits.length<=N'):=by rw [Hid,hlh,hlw];exact hN
  have hf0:=HT1.out.blk.frozen q.pre.length
  have HKP:Hid (∀ wc,Mod (zAd q.b) w1 wc->zUi wc B q name v k'):=fun wc hmc=>by
   have hmw:Mod (zAd q.b) w wc:=(HM1.out.mono (fun _ _ e=>e.elim)).trans hmc
   refine ⟨fun i=>(HK.out.row i).mod hmw (fun x hx e=>?_),HK.out.ne,HK.out.out⟩
   simp only [zAd] at e
   subst e
   obtain ⟨_,_,cur,hc⟩:=zAq (HK.out.row i) hx
   have:=HT.out.blk
   unfold Blk at this
   rw [hc] at this
   simp at this
   exact HT.out.bt this.2.symm
  clear hlh hlw
  go_enter Tryz.func178,Tryz.ntmps178
  go_upto_region 1 with fail
  rw [<-hw1]
  clear hw1
  have hg0:(lh=0/\¬ lw=0)\/¬ lh=0:=by omega
  go_cut [15] (fun b15 wc=>b15=.bool false/\wc=w1)
  case first=>
   rcases hg0 with ⟨rfl,hg1⟩ | hg1
   ·have hi1:¬ (lw:Int)=0:=by omega
    go_wp2_with fail
    go_meet
    case rel=>exact ⟨by first | (simp;done) | (simp;omega),rfl⟩
   ·have hi1:¬ (lh:Int)=0:=by omega
    go_wp2_with fail
    go_meet
    case rel=>exact ⟨by first | (simp;done) | (simp;omega),rfl⟩
  case rest=>
   obtain ⟨rfl,hwc0⟩:=hcut
   rw [hwc0]
   clear hwc0
   go_upto_if 25 with fail
   go_cut [] (fun wc=>∃ (g n2:Nat),TbX wc B N { q with m:=some g,n:=n2 } s (·=name)/\n2<=q.n/\Mod (zAd q.b) w1 wc/\(q.m=some g\/w1.heap.size<=g))
   case first=>
    cases hqm:q.m with
    | none=>
     have HPN:=Hmq (yQo HT1.out (Nat.le_trans hB HM1.out.size) hqm)
     have hqi:q.m.isNone=true:=by rw [hqm];rfl
     have HQM:=Hmq hqm
     clear hqm
     go_wp2_with fail
     go_meet
     case rel=>exact ⟨w1.heap.size,0,HPN.out.1,Nat.zero_le _,HPN.out.2,.inr (Nat.le_refl _)⟩
    | some g=>
     have HPS:Hid (TbX w1 B N { q with m:=some g,n:=q.n } s (·=name)):=by
      have:({ q with m:=some g,n:=q.n }:TbM)=q:=by rw [<-hqm]
      rw [this];exact HT1.out
     have hqi:q.m.isNone=false:=by rw [hqm];rfl
     have HQM:=Hmq hqm
     clear hqm
     go_wp2_with fail
     go_meet
     case rel=>exact ⟨g,q.n,HPS.out,Nat.le_refl _,Mod.refl _ _,.inl HQM.out⟩
   case rest=>
    obtain ⟨g,n2,hS,hn2,hm3,hgq⟩:=hcut
    obtain ⟨q2,hq2⟩:∃ x:TbM,x={ q with m:=some g,n:=n2 }:=⟨_,rfl⟩
    rw [<-hq2] at hS
    have hmm2:q2.m=some g:=by rw [hq2]
    have hnn2:q2.n=n2:=by rw [hq2]
    have hSd:TbX wc.drew B N q2 s (·=name):=hS.mod ((Mod.refl zAb wc).drew) id (fun _ _=>id)
    obtain ⟨hBg,D,hown,hD⟩:=hSd.map.get hmm2
    have hmw:Mod (zAd q.b) w1 wc.drew:=hm3.drew
    have hKP:zUi wc.drew B q2 name v k':=by
     have h9:=HKP.out wc.drew hmw
     exact ⟨h9.row,h9.ne,by rw [hq2];exact h9.out⟩
    obtain ⟨w7,hrun7,hown7,hturn7⟩:=hown.store yIa Tryz.underlying85 (by rw [hnn2];unfold maxLen;omega) hkl.out (yGb (zOb (HK.out.row true)) (zOb (HK.out.row false)))
    have hm7:Mod (zAd g) wc.drew w7:=(Mod.refl _ wc.drew).grown hturn7.grown (fun x hx _=>by simp only [zAd];simpa using hx.symm)
    have HFIN:Hid (∃ q',yEw w w7 B N' q q' s name v k'):=by
     obtain ⟨q',hQ⟩:=yQn hSd hn hKP HOK.out HLEN.out hNN HBR.out hmm2 hBg hown hD hown7 hm7
     refine ⟨q',⟨hQ.tb,by rw [hQ.b,hq2],by rw [hQ.pre,hq2],by rw [hQ.post,hq2],by rw [hQ.t,hq2],by have:=hQ.n1;omega,fun hb=>by have:=hQ.n0 hb;omega,?_,fun x hx=>?_⟩⟩
     ·have a1:Mod (zAd q.b) w wc.drew:=(HM1.out.mono (fun _ _ e=>e.elim)).trans hmw
      refine (a1.mono (G':=fun x=>x=q.b\/q.m=some x) (fun x _ e=>.inl e)).trans' hm7 (fun x hx e=>?_)
      simp only [zAd] at e
      rcases hgq with e2 | e2
      ·exact .inr (by rw [e2,e])
      ·have:=HM1.out.size;omega
     ·have hz3:=hmw.size
      have hz1':=HM1.out.size
      rcases hQ.own x hx with h3 | h3 | h3
      ·rw [hq2] at h3
       rcases h3 with h3 | h3
       ·simp at h3
        rcases hgq with e2 | e2
        ·exact .inl (.inl (by rw [e2,h3]))
        ·exact .inr (.inl (by omega))
       ·exact .inl (.inr h3)
      ·exact .inr (.inl (by omega))
      ·exact .inr (.inr h3)
    have x0:wc.cell? ⟨q.b,q.pre.length,none⟩=some (.map (some g)):=by have:=hS.cell;rw [hq2] at this;exact this
    have zb:q.b<wc.heap.size:=Nat.lt_of_lt_of_le hzb hm3.size
    have hne:w.heap.size≠q.b:=by omega
    have y0:=hm3.cell p0 hne
    have y1:=hm3.cell p1 hne
    have zk:w.heap.size<wc.heap.size:=Nat.lt_of_lt_of_le hz1 hm3.size
    rw [HHV.out,HWV.out] at hrun7
    clear hS hSd hown hD hKP hown7 hturn7 hm7 hmw hm3 hgq hq2 hmm2 hnn2 hen hmm
    go_upto_region 5 with fail
    go_region
    all_goals
     go_wp2_with fail
     first
      | go_end0
      | refine bodyPost_ret (results_none rfl _ _ _) rfl ?_
     exact ⟨rfl,HFIN.out⟩
theorem yTi(a:Option Addr)(n c:Nat)(a':Option Addr)(n' c':Nat)(w:World):(Instr.field 212 (.agg #[.slice a n c,.slice a' n' c']) 0).run Tryz.prog w=.ok (.slice a n c) w:=by kernel_rfl
theorem yTh(a:Option Addr)(n c:Nat)(a':Option Addr)(n' c':Nat)(w:World):(Instr.field 212 (.agg #[.slice a n c,.slice a' n' c']) 1).run Tryz.prog w=.ok (.slice a' n' c') w:=by kernel_rfl
theorem yMd(B N:Nat)(q:TbM)(s:Tab)(t:Int)(name:ByteArray)(w:World)(h:TbP w B N q s)(hn:okQ name)(hN:N<=900) :
  Calls Tryz.prog 121 #[.pointer (some ⟨q.b,q.pre.length,none⟩),.int .i64 t,.string name] w fun e w'=>e=.returned (.int .i64 (zCw (s name).held t))/\Mod zAb w w':=by
 have c0:=h.cell
 have z0:=h.blk.lt
 have hlook:=h.look hn
 have hfew:=h.few name hn
 have hr:=h.rows name true hn id
 have HM:=Hmq (zJu w.heap.size (q.hd name true) (s name).held t w (hr.toV (Nat.le_refl _)) (h.ok name hn).held (by omega))
 obtain ⟨a,cap,hd⟩:=zAg hr
 obtain ⟨a',cap',hd'⟩:=zAg (h.rows name false hn id)
 rw [hd] at hlook HM
 rw [hd'] at hlook
 have hf0:=yTi
 clear h hr
 go_enter Tryz.func121,Tryz.ntmps121
 go_wp2_with fail
 refine HM.out.mono ?_
 rintro e w1 ⟨rfl,hm⟩
 go_wp2_with fail
 go_ret
 exact ⟨rfl,hm⟩
theorem yKc(B N:Nat)(q:TbM)(s:Tab)(name:ByteArray)(w:World)(h:TbP w B N q s)(hn:okQ name)(hN:N<=900) :
  Calls Tryz.prog 143 #[.pointer (some ⟨q.b,q.pre.length,none⟩),.string name] w fun e w'=>∃ u,e=.returned u/\RowI w' w.heap.size u ((s name).waits.map (·.tx))/\Mod zAb w w':=by
 have c0:=h.cell
 have z0:=h.blk.lt
 have hlook:=h.look hn
 have hfew:=h.few name hn
 have hr:=h.rows name false hn id
 have HM:=Hmq (yKe w.heap.size (q.hd name false) (s name).waits w (hr.toV (Nat.le_refl _)) (by omega))
 obtain ⟨a,cap,hd⟩:=zAg hr
 obtain ⟨a',cap',hd'⟩:=zAg (h.rows name true hn id)
 rw [hd] at hlook HM
 rw [hd'] at hlook
 have hf0:=yTh
 clear h hr
 go_enter Tryz.func143,Tryz.ntmps143
 go_wp2_with fail
 refine HM.out.mono ?_
 rintro e w1 ⟨u,rfl,hu,hm⟩
 have HU:=Hmq hu
 obtain ⟨ua,ucap,hua⟩:=zAg hu
 subst hua
 have HU2:Hid (RowI w1 w.heap.size (.slice ua (s name).waits.length ucap) ((s name).waits.map (·.tx))):=by
  have h1:=HU.out
  rw [List.length_map] at h1
  exact h1
 clear hu HU
 go_wp2_with fail
 go_ret
 exact ⟨_,rfl,HU2.out,hm⟩
def errQ(e:Int):Value:=if e=0 then .nilIface else .iface 25 (.int .i64 e)
structure yTq(w w':World)(B N:Nat)(q q':TbM)(s:Tab)(name:ByteArray)(c:ClmD)(u:Value):Prop where
 wound:RowI w' w.heap.size u (zCx (s name) c).2.2.1
 tb:TbP w' B N q' (updK s name (zCx (s name) c).1)
 b:q'.b=q.b
 pre:q'.pre=q.pre
 post:q'.post=q.post
 t:q'.t=q.t
 n:q'.n<=q.n+1
 md:Mod (fun x=>x=q.b\/q.own x) w w'
 own:∀ x,q'.own x->q.own x\/w.heap.size<=x
def yJo(w:World)(B N:Nat)(q:TbM)(s:Tab)(name:ByteArray)(c:ClmD)(e:Ending)(w':World):Prop:=
 ∃ q' u,e=.returned (.tuple #[.bool (zCx (s name) c).2.1,u,errQ (zCx (s name) c).2.2.2])/\yTq w w' B N q q' s name c u
theorem yKd(s:Tab)(k:ByteArray):updK s k (s k)=s:=by
 funext y;unfold updK;split
 ·rename_i e;rw [e]
 ·rfl
theorem TbX.more{w:World}{B N N':Nat}{q:TbM}{s:Tab}{no:ByteArray->Prop}(h:TbX w B N q s no)(hN:N<=N'):TbX w B N' q s no:=
 ⟨h.blk,h.bt,h.map,h.hdr,h.rows,h.apart,h.ok,fun k hk=>Nat.le_trans (h.few k hk) hN⟩
theorem zSg{w w':World}{B N:Nat}{q:TbM}{s:Tab}{name:ByteArray}{c:ClmD}(h:TbP w B N q s)(hm:Mod zAb w w')(h1:(zCx (s name) c).1=s name)(h2:(zCx (s name) c).2.2.1=[]):yTq w w' B (N+1) q q s name c (.slice none 0 0):=by
 refine ⟨by rw [h2];exact World.ownsRow_nil _ _ _ _,?_,rfl,rfl,rfl,rfl,by omega,hm.mono (fun _ _ e=>e.elim),fun x hx=>.inl hx⟩
 rw [h1,yKd]
 exact (h.more (by omega)).mod hm id (fun _ _=>id)
theorem yLr(k:KeyS)(c:ClmD):(zCx k c).1.held.length+(zCx k c).1.waits.length<=k.held.length+k.waits.length+1:=by
 unfold zCx
 split
 ·simp only;omega
 split
 ·simp only;omega
 split
 ·have:=zOj k.held c;simp only;omega
 split
 ·simp only;omega
 ·have:=zOj k.waits c;simp only;omega
theorem yFt{w w6:World}{B N:Nat}{q:TbM}{s:Tab}{name:ByteArray}{u:Value}{l:List ClmD}(i0:Bool)(k':KeyS)(h:TbP w B N q s)(hn:okQ name)(hu:RowK w6 B u l)(hl:k'.list i0=l)(ho:k'.list (!i0)=(s name).list (!i0))
  (hm:Mod (fun x=>(q.hd name i0).ownBlock=some x\/w.heap.size<=x) w w6) (hat:u.ownBlock=(q.hd name i0).ownBlock\/∀ x,u.ownBlock=some x->w.heap.size<=x) :
  zUi w6 B q name (fun i=>if i=i0 then u else q.hd name i) k'/\TbX w6 B N q s (·=name):=by
 have hub:∀ x,u.ownBlock=some x->(q.hd name i0).ownBlock=some x\/w.heap.size<=x:=fun x hx=>by
  rcases hat with e | e
  ·exact .inl (by rw [<-e];exact hx)
  ·exact .inr (e x hx)
 have hlt:∀ k i x,okQ k->(q.hd k i).ownBlock=some x->x<w.heap.size:=fun k i x hk hx=>(h.old hk id hx).2.1
 have hne:∀ x,(q.hd name (!i0)).ownBlock=some x->u.ownBlock≠some x:=fun x hx e=>by
  rcases hub x e with e2 | e2
  ·have:=(h.apart name name (!i0) i0 x hn hn hx e2).2;cases i0 <;> cases this
  ·have:=hlt name (!i0) x hn hx;omega
 refine ⟨⟨fun i=>?_,fun x h1 h2=>?_,fun k i j x hk hkn h1 h2=>?_⟩,(h.less _).turn hm (fun e=>?_) (fun x hx e=>?_) (fun k i x hk hkn hx e=>?_)⟩
 ·by_cases e:i=i0
  ·subst e;simp only [if_true];rw [hl];exact hu
  ·have:i=!i0:=by cases i <;> cases i0 <;> simp_all
   subst this
   simp only [e,if_false]
   rw [ho]
   refine (h.rows name (!i0) hn id).mod hm (fun x hx e2=>?_)
   rcases e2 with e2 | e2
   ·have:=(h.apart name name (!i0) i0 x hn hn hx e2).2;cases i0 <;> cases this
   ·have:=hlt name (!i0) x hn hx;omega
 ·cases i0
  ·simp only [Bool.true_eq_false,if_false,if_true] at h1 h2
   exact hne x h1 h2
  ·simp only [Bool.false_eq_true,if_false,if_true] at h1 h2
   exact hne x h2 h1
 ·by_cases e:j=i0
  ·subst e
   simp only [if_true] at h2
   rcases hub x h2 with e2 | e2
   ·exact hkn (h.apart k name i j x hk hn h1 e2).1
   ·have:=hlt k i x hk h1;omega
  ·simp only [e,if_false] at h2
   exact hkn (h.apart k name i j x hk hn h1 h2).1
 ·rcases e with e | e
  ·exact (h.row_ne hn id e).1 rfl
  ·have:=h.blk.lt;omega
 ·rcases e with e | e
  ·exact (h.row_ne hn id e).2 hx
  ·have:=(h.lt (.inl hx)).2;omega
 ·rcases e with e | e
  ·exact hkn (h.apart k name i i0 x hk hn hx e).1
  ·have:=hlt k i x hk hx;omega
end Go.Proofs.YtogaigioeohjaaaGreatDoor
