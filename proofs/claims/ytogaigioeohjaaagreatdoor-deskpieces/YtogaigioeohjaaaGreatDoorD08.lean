import Derived.Test.YtogaigioeohjaaaGreatDoorD07
import Derived.WalkSpells
import Derived.Test.YtogaigioeohjaaaGreatDoorD01
set_option linter.unusedVariables false
set_option maxRecDepth 100000
set_option maxHeartbeats 16000000
namespace Go.Proofs.YtogaigioeohjaaaGreatDoor
open Go.RowKit Go.Lib Go.Maps
variable {E:Ext}
def zWs:Array Value:=#[.int .i64 0,.int .i64 0,.int .i64 0,.int .i64 0,.int .i64 0,.int .i64 0,.int .i64 0,.int .i64 0,.slice none 0 0]
def zOz(n:Nat):List Value:=(Builtin.zeroCells zWs n).toList
theorem zRh(n:Nat):(zOz n).length=n*9:=by rw [zOz,Array.length_toList,size_zeroCells];rfl
theorem yJs(n:Nat):∀ v∈zOz n,v.oneCell'=true:=by
 intro v hv
 simp only [zOz,Builtin.zeroCells,Array.toList_map,List.mem_map] at hv
 obtain ⟨i,_,rfl⟩:=hv
 have h9:∀ j,j<9->(zWs[j]!).oneCell'=true:=by
  intro j hj
  match j,hj with
  | 0,_=>rfl
  | 1,_=>rfl
  | 2,_=>rfl
  | 3,_=>rfl
  | 4,_=>rfl
  | 5,_=>rfl
  | 6,_=>rfl
  | 7,_=>rfl
  | 8,_=>rfl
 exact h9 _ (Nat.mod_lt _ (by decide))
theorem yDc(w:World)(ty:TypeId)(b o n c:Nat)(hn:0<n)(hc:∀ j,j<n*9->(w.cell? ⟨b,o+j,none⟩).isSome=true)(hf:∀ j,j<n*9->w.frozen? ⟨b,o+j,none⟩=false) :
  (Builtin.clear_ #[82] ty #[.slice (some ⟨b,o,none⟩) n c]).run Tryz.prog w=.ok (.tuple #[]) (w.setCells b o (zOz n)):=by
 have hst:=run_storeCells_cells (P:=Tryz.prog) b o (zOz n) 0 w (by simpa [zRh] using hc) (by simpa [zRh] using hf) (yJs n)
 simp only [Nat.add_zero] at hst
 obtain ⟨m,rfl⟩:∃ m,n=m+1:=⟨n - 1,by omega⟩
 have hz:=yOm
 have e:(Value.agg #[.int .i64 0,.int .i64 0,.int .i64 0,.int .i64 0,.int .i64 0,.int .i64 0,.int .i64 0,.int .i64 0,.slice none 0 0]).cells=zWs:=rfl
 simp only [zOz] at hst ⊢
 simp [Builtin.clear_,run_underlying Tryz.underlying82,hz,e,hst]
theorem zTv{w:World}{ops:Array Oper}{rest:List Oper}{o:Oper}{a:Act}{Q:Exit->Act->World->Prop}(hgd:o.guard=none)(s:Operand)
  (ho:o.op=.call { callee:=.builtin .clear,args:=#[s],argTypes:=#[82] }) (b off n c:Nat) (hs:a.eval s=.slice (some ⟨b,off,none⟩) n c) (hn:0<n)
  (hc:∀ j,j<n*9->(w.cell? ⟨b,off+j,none⟩).isSome=true) (hf:∀ j,j<n*9->w.frozen? ⟨b,off+j,none⟩=false)
  (h:wpList Tryz.prog ops Q rest (a.put o.dst (.tuple #[])) (w.setCells b off (zOz n))):wpList Tryz.prog ops Q (o :: rest) a w:=by
 refine wpList_plain hgd fun K hK=>?_
 have hr:=yDc w o.type b off n c hn hc hf
 unfold Oper.wp execOp
 simp only [ho,resolve,invoke,builtin,Sem.run_bind,Sem.run_pure,Result.andThen_ok,List.map_toArray,List.map_cons,List.map_nil,hs,hr]
 exact hK _ _ h
def zFn(ds:List Int)(ms:List MsgD):List MsgD:=ms.filter (fun m=>!zDx ds m)
theorem zVn(ds:List Int)(ms:List MsgD)(m:MsgD):zFn ds (ms++[m])=if zDx ds m then zFn ds ms else zFn ds ms++[m]:=by
 unfold zFn;rw [List.filter_append]
 cases h:zDx ds m <;> simp [h]
theorem zWb(ds:List Int):∀ ms,zJx ds ms=none->zFn ds ms=ms
 | [],_=>rfl
 | m :: ms,h=>by
  unfold zJx at h
  split at h
  ·cases h
  ·rename_i hs
   have hs':zDx ds m=false:=by simpa using hs
   have:=zWb ds ms (by simpa using h)
   unfold zFn at this ⊢
   rw [List.filter_cons,if_pos (by simp [hs']),this]
theorem zTf(ds:List Int):∀ ms k,zJx ds ms=some k->k<ms.length/\zFn ds (ms.take (k+1))=ms.take k
 | [],_,h=>by simp [zJx] at h
 | m :: ms,k,h=>by
  unfold zJx at h
  split at h
  ·rename_i hs
   simp at h;subst h
   refine ⟨by simp,?_⟩
   simp [zFn,hs]
  ·rename_i hs
   have hs':zDx ds m=false:=by simpa using hs
   obtain ⟨k',hk',rfl⟩:=Option.map_eq_some_iff.1 h
   obtain ⟨h1,h2⟩:=zTf ds ms k' hk'
   refine ⟨by simp;omega,?_⟩
   unfold zFn at h2 ⊢
   rw [List.take_succ_cons,List.filter_cons,if_pos (by simp [hs']),h2,List.take_succ_cons]
theorem yMb(ds:List Int)(ms:List MsgD):(zFn ds ms).length<=ms.length:=List.length_filter_le _ _
def zIc(w wr:World)(L:Lo)(b:Nat)(ds:List Int)(ms:List MsgD)(us R:List Value)(i j:Nat):Prop:=
 ∃ kus mid:List Value,i=(zFn ds (ms.take j)).length/\kus.length=i/\mid.length=(j - i)*9/\i<j/\j<=ms.length /\
  Blk wr b (zAj (zFn ds (ms.take j)) kus++mid++(zAj (ms.drop j) (us.drop j)++R)) 110/\(∀ (n:Nat) m u,(zFn ds (ms.take j))[n]?=some m->kus[n]?=some u->zAy w L u m.cmd.writes)/\Mod (zAd b) w wr
theorem zIc.start{w wr:World}{L:Lo}{b k0:Nat}{ds:List Int}{ms:List MsgD}{us R:List Value}(hus:us.length=ms.length)(hk:k0<ms.length)(hkt:zFn ds (ms.take (k0+1))=ms.take k0)(hB:Blk w b (zAj ms us++R) 110)
  (hps:∀ (i:Nat) m u,ms[i]?=some m->us[i]?=some u->zAy w L u m.cmd.writes) (hm:Mod zAb w wr):zIc w wr L b ds ms us R k0 (k0+1):=by
 obtain ⟨m,hm0⟩:∃ m,ms[k0]?=some m:=⟨_,List.getElem?_eq_getElem hk⟩
 obtain ⟨u,hu0⟩:∃ u,us[k0]?=some u:=⟨_,List.getElem?_eq_getElem (by omega)⟩
 have hms:ms=ms.take k0++m :: ms.drop (k0+1):=by
  rw [List.getElem?_eq_getElem hk] at hm0;simp at hm0
  rw [<-hm0,<-List.drop_eq_getElem_cons hk,List.take_append_drop]
 have hul:k0<us.length:=by omega
 have husp:us=us.take k0++u :: us.drop (k0+1):=by
  rw [List.getElem?_eq_getElem hul] at hu0;simp at hu0
  rw [<-hu0,<-List.drop_eq_getElem_cons hul,List.take_append_drop]
 refine ⟨us.take k0,zAt m u,by rw [hkt,List.length_take];omega,by rw [List.length_take];omega,by simp [zAt],by omega,by omega,?_,fun n m' u' h1 h2=>?_,hm.mono (fun _ _ e=>e.elim)⟩
 ·rw [hkt]
  have:=hB.mod hm id
  have e:zAj ms us=zAj (ms.take k0) (us.take k0)++(zAt m u++zAj (ms.drop (k0+1)) (us.drop (k0+1))):=by
   conv=>lhs;rw [hms,husp]
   rw [zFz _ _ _ _ (by simp [hus]),zAj]
  rw [e] at this
  simpa [List.append_assoc] using this
 ·rw [hkt] at h1
  have hn:n<k0:=by have:=(List.getElem?_eq_some_iff.1 h1).1;rw [List.length_take] at this;omega
  rw [List.getElem?_take,if_pos hn] at h1 h2
  exact hps n m' u' h1 h2
theorem zGj{α:Type}{l:List α}{j:Nat}{x:α}(h:l[j]?=some x):l.drop j=x :: l.drop (j+1):=by
 have hj:j<l.length:=(List.getElem?_eq_some_iff.1 h).1
 rw [List.getElem?_eq_getElem hj] at h;simp at h
 rw [<-h,<-List.drop_eq_getElem_cons hj]
theorem zQc{α:Type}{l:List α}{j:Nat}{x:α}(h:l[j]?=some x):l.take (j+1)=l.take j++[x]:=by
 have hj:j<l.length:=(List.getElem?_eq_some_iff.1 h).1
 rw [List.getElem?_eq_getElem hj] at h;simp at h
 rw [List.take_succ_eq_append_getElem hj,h]
theorem zIc.look{w wr:World}{L:Lo}{b i j:Nat}{ds:List Int}{ms:List MsgD}{us R:List Value}(h:zIc w wr L b ds ms us R i j){m:MsgD}{u:Value}(hm:ms[j]?=some m)(hu:us[j]?=some u) :
  ∀ n x,(zAt m u)[n]?=some x->wr.cell? ⟨b,j*9+n,none⟩=some x:=by
 obtain ⟨kus,mid,h1,h2,h3,h4,h5,h6,h7,h8⟩:=h
 intro n x hx
 have hn:n<9:=(List.getElem?_eq_some_iff.1 hx).1
 refine h6.cell _ ?_
 rw [zGj hm,zGj hu,zAj]
 have l1:=zCn (zFn ds (ms.take j)) kus (by omega)
 rw [List.getElem?_append_right (by rw [List.length_append];omega),List.length_append,l1,h3,<-h1]
 rw [show j*9+n - (i*9+(j - i)*9)=n by omega,List.append_assoc,List.getElem?_append_left hn]
 exact hx
theorem zIc.skip{w wr wr':World}{L:Lo}{b i j:Nat}{ds:List Int}{ms:List MsgD}{us R:List Value}(h:zIc w wr L b ds ms us R i j){m:MsgD}{u:Value}(hm:ms[j]?=some m)(hu:us[j]?=some u)(hs:zDx ds m=true)(hmd:Mod zAb wr wr') :
  zIc w wr' L b ds ms us R i (j+1):=by
 obtain ⟨kus,mid,h1,h2,h3,h4,h5,h6,h7,h8⟩:=h
 have hj:j<ms.length:=(List.getElem?_eq_some_iff.1 hm).1
 have e:zFn ds (ms.take (j+1))=zFn ds (ms.take j):=by rw [zQc hm,zVn,if_pos hs]
 refine ⟨kus,mid++zAt m u,by rw [e];exact h1,h2,by rw [List.length_append,h3];simp [zAt];omega,by omega,by omega,?_,by rw [e];exact h7,h8.trans (hmd.mono (fun _ _ e=>e.elim))⟩
 rw [e]
 have:=h6.mod hmd id
 rw [zGj hm,zGj hu,zAj] at this
 simpa [List.append_assoc] using this
theorem zIc.keep{w wr wr':World}{L:Lo}{b i j:Nat}{ds:List Int}{ms:List MsgD}{us R:List Value}(h:zIc w wr L b ds ms us R i j)(hps:∀ (i:Nat) m u,ms[i]?=some m->us[i]?=some u->zAy w L u m.cmd.writes)
  {m:MsgD} {u:Value} (hm:ms[j]?=some m) (hu:us[j]?=some u) (hs:zDx ds m=false) (hmd:Mod zAb wr wr') :
  zIc w (wr'.setCells b (i*9) (zAt m u)) L b ds ms us R (i+1) (j+1):=by
 obtain ⟨kus,mid,h1,h2,h3,h4,h5,h6,h7,h8⟩:=h
 have hj:j<ms.length:=(List.getElem?_eq_some_iff.1 hm).1
 have e:zFn ds (ms.take (j+1))=zFn ds (ms.take j)++[m]:=by rw [zQc hm,zVn,if_neg (by simp [hs])]
 have l1:=zCn (zFn ds (ms.take j)) kus (by omega)
 refine ⟨kus++[u],mid.drop 9++zAt m u,by rw [e,List.length_append,<-h1];rfl,by simp [h2],by rw [List.length_append,List.length_drop,h3];simp [zAt];omega,by omega,by omega,?_,fun n m' u' k1 k2=>?_,(h8.trans (hmd.mono (fun _ _ e=>e.elim))).trans (Mod.setCells _ _ _)⟩
 ·rw [e,zHj _ _ _ _ (by omega)]
  have h9:=h6.mod hmd id
  rw [zGj hm,zGj hu,zAj] at h9
  have:=Blk.setCells (g:=b) (t:=110) (zAt m u) wr' (zAj (zFn ds (ms.take j)) kus) (mid.take 9) (mid.drop 9++(zAt m u++zAj (ms.drop (j+1)) (us.drop (j+1))++R)) (by
   rw [yAm];exact h9) (by rw [List.length_take,h3];simp [zAt];omega)
  rw [l1,<-h1] at this
  simpa [List.append_assoc] using this
 ·rw [e] at k1
  by_cases hn:n<i
  ·rw [List.getElem?_append_left (by omega)] at k1
   rw [List.getElem?_append_left (by omega)] at k2
   exact h7 n m' u' k1 k2
  ·have hn':n=i:=by
    have:=(List.getElem?_eq_some_iff.1 k1).1
    rw [List.length_append] at this;simp at this;omega
   subst hn'
   rw [List.getElem?_append_right (by omega)] at k1 k2
   simp [h2,<-h1] at k1 k2
   subst k1 k2
   exact hps j m u hm hu
theorem zIc.room{w wr:World}{L:Lo}{b i j:Nat}{ds:List Int}{ms:List MsgD}{us R:List Value}(h:zIc w wr L b ds ms us R i j):i<j/\j<=ms.length/\Mod (zAd b) w wr /\
  (∀ n,n<(j - i)*9->(wr.cell? ⟨b,i*9+n,none⟩).isSome=true)/\∀ n,wr.frozen? ⟨b,n,none⟩=false:=by
 obtain ⟨kus,mid,h1,h2,h3,h4,h5,h6,h7,h8⟩:=h
 have l1:=zCn (zFn ds (ms.take j)) kus (by omega)
 refine ⟨h4,h5,h8,fun n hn=>?_,fun n=>h6.frozen n⟩
 obtain ⟨x,hx⟩:∃ x,(zAj (zFn ds (ms.take j)) kus++mid++(zAj (ms.drop j) (us.drop j)++R))[i*9+n]?=some x:=⟨_,List.getElem?_eq_getElem (by simp only [List.length_append];omega)⟩
 rw [show wr.cell? ⟨b,i*9+n,none⟩=some x from h6.cell _ hx];rfl
theorem zIc.done{w wr:World}{L:Lo}{b i cap:Nat}{ds:List Int}{ms:List MsgD}{us R:List Value}{cs0:List Value}(h:zIc w wr L b ds ms us R i ms.length)(hB0:Blk w b cs0 110)(hLb:L<=b)(_hcap:ms.length<=cap)(hcm:cap<=maxLen)(lR:ms.length*9+R.length=cap*9)(hgd:∀ m∈ms,zJg m) :
  RowM (wr.setCells b (i*9) (zOz (ms.length - i))) L (.slice (some ⟨b,0,none⟩) i cap) (zFn ds ms)/\Mod (fun x=>(Value.slice (some ⟨b,0,none⟩) ms.length cap).ownBlock=some x) w (wr.setCells b (i*9) (zOz (ms.length - i))):=by
 obtain ⟨kus,mid,h1,h2,h3,h4,h5,h6,h7,h8⟩:=h
 rw [List.take_length] at h1 h6 h7
 have l1:=zCn (zFn ds ms) kus (by omega)
 have l2:=zRh (ms.length - i)
 have hM:=h8.trans (Mod.setCells (zOz (ms.length - i)) (i*9) wr)
 have e0:zAj (ms.drop ms.length) (us.drop ms.length)=[]:=by rw [List.drop_length];cases us.drop ms.length <;> rfl
 rw [e0,List.nil_append] at h6
 have hB:=Blk.setCells (g:=b) (t:=110) (zOz (ms.length - i)) wr (zAj (zFn ds ms) kus) mid R h6 (by omega)
 rw [l1,<-h1] at hB
 have hq:Qm w L (zAd b):=by
  intro k hk e
  simp only [zAd] at e;subst e
  rintro (e | ⟨⟨cur,fr,e⟩,_⟩)
  ·omega
  ·simp only [Blk] at hB0;rw [hB0] at e;simp at e
 refine ⟨⟨kus,by omega,⟨by omega,.inr ⟨b,cap,(zAj (zFn ds ms) kus++zOz (ms.length - i)++R).toArray,by rw [<-h1],hLb,hB,by omega,hcm,?_,?_⟩⟩,fun n m u k1 k2=>(h7 n m u k1 k2).mod hM hq,fun m hm=>hgd m (List.mem_filter.1 hm).1⟩,hM.mono (fun x _ e=>by simp only [zAd] at e;rw [e];rfl)⟩
 ·simp only [List.size_toArray,List.length_append];omega
 ·rw [<-l1,List.append_assoc,List.take_left]
theorem zUc(L:Lo)(g q:Nat)(mr:Option Nat)(ds:List Int)(v:Value)(ms:List MsgD)(w:World)(hR:RowM w L v ms)(hA:Asks w L g q mr ds)(hqv:v.ownBlock≠some q)(hgv:v.ownBlock≠some g)(hrv:∀ k,v.ownBlock=some k->mr≠some k)(hf:ms.length<=200) :
  Calls Tryz.prog 147 #[v,.func (.func 185) #[] #[.pointer (some ⟨q,0,none⟩)]] w fun e w'=>∃ v',e=.returned v'/\RowM w' L v' (zFn ds ms)/\v'.ownBlock=v.ownBlock/\Mod (fun x=>v.ownBlock=some x) w w':=by
 have HIX:=Hmr (yMc L g q mr ds v ms w hR hA hf)
 cases hfi:zJx ds ms with
 | none=>
  rw [hfi] at HIX
  have HK:=Hmr (zWb ds ms hfi)
  go_enter Tryz.func147,Tryz.ntmps147
  go_wp2_with fail
  refine HIX.out.mono ?_
  rintro e w1 ⟨rfl,hm1⟩
  simp only [yMv]
  go_wp2_with fail
  go_ret
  exact ⟨v,rfl,by rw [HK.out];exact hR.mod hm1 (Qm.none _ _) (fun _ _=>id),rfl,hm1.mono (fun _ _ e=>e.elim)⟩
 | some k0=>
  rw [hfi] at HIX
  obtain ⟨hk0,hkt⟩:=zTf ds ms k0 hfi
  obtain ⟨us,hus,hrow,hps,hgd⟩:=hR
  rcases hrow.2 with ⟨_,h0⟩ | ⟨b,cap,cur,rfl,hLg,hg,hcap,hcm,hcs,htk⟩
  ·omega
  unfold maxLen at hcm
  obtain ⟨R,hR⟩:∃ R,cur.toList=zAj ms us++R:=by
   refine ⟨cur.toList.drop (ms.length*9),?_⟩
   rw [<-htk,List.take_append_drop]
  have lA:=zCn ms us hus
  have hB0:Blk w b (zAj ms us++R) 110:=by rw [Blk,<-hR];exact hg
  have lR:ms.length*9+R.length=cap*9:=by
   have:(zAj ms us++R).length=cap*9:=by rw [<-hR];simpa using hcs
   rw [List.length_append,lA] at this;exact this
  have HPS:=Hmr hps
  have HGD:=Hmr hgd
  have HB0:=Hmr hB0
  have HKT:=Hmr hkt
  clear hps hgd hB0 hR hg hcs htk hrow hkt hfi lA
  go_enter Tryz.func147,Tryz.ntmps147
  go_wp2_with fail
  refine HIX.out.mono ?_
  rintro e w1 ⟨rfl,hm1⟩
  simp only [yMv]
  have hne:((k0:Int) == -1)=false:=by rw [beq_eq_false_iff_ne];omega
  go_wp2_with fail
  go_loopw [5,6] (fun x y wr=>∃ i j:Nat,x=.int .i64 i/\y=.int .i64 j/\zIc w wr L b ds ms us R i j) (fun _ y _=>ms.length - (intOf y).toNat)
  case atStart=>exact ⟨k0,k0+1,rfl,by go_num,zIc.start hus hk0 HKT.out HB0.out HPS.out hm1⟩
  case round=>
   obtain ⟨i,j,rfl,rfl,hI⟩:=hrel
   obtain ⟨hij,hjn,hMr,hcell,hfro⟩:=hI.room
   by_cases hlt:j<ms.length
   ·obtain ⟨m,hm⟩:∃ m,ms[j]?=some m:=⟨_,List.getElem?_eq_getElem hlt⟩
    obtain ⟨u,hu⟩:∃ u,us[j]?=some u:=⟨_,List.getElem?_eq_getElem (by omega)⟩
    have hlk:=hI.look hm hu
    have q0:=hlk 0 _ rfl
    have q1:=hlk 1 _ rfl
    have q2:=hlk 2 _ rfl
    have q3:=hlk 3 _ rfl
    have q4:=hlk 4 _ rfl
    have q5:=hlk 5 _ rfl
    have q6:=hlk 6 _ rfl
    have q7:=hlk 7 _ rfl
    have q8:=hlk 8 _ rfl
    simp only [Nat.add_zero] at q0
    have hgm:=HGD.out m (List.mem_of_getElem? hm)
    obtain ⟨ua,ucap,rfl⟩:∃ ua ucap,u=.slice ua m.cmd.writes.length ucap:=by obtain ⟨ua,ucap,h,_⟩:=HPS.out j m u hm hu;exact ⟨ua,ucap,h⟩
    have hA2:=(hA.mod hMr (fun e=>hqv (by rw [e];rfl)) (fun e=>hgv (by rw [e];rfl)) (fun k hk e=>hrv k (by rw [e];rfl) hk)).mod ((Mod.refl zAb wr).alloc (.cells #[.int .i64 m.kind,.int .i64 m.frm,.int .i64 m.to,.int .i64 m.epoch,.int .i64 m.n,.int .i64 m.cmd.kind,.int .i64 m.cmd.tx,.int .i64 m.cmd.time,.slice ua m.cmd.writes.length ucap] 110)) id id (fun _ _=>id)
    have HC:=Hmr (hA2.call m (.slice ua m.cmd.writes.length ucap) hgm.1)
    have HI:=Hmr hI
    have HMM:=Hmr hm
    have HUU:=Hmr hu
    have HCE:=Hmr hcell
    have HFR:=Hmr hfro
    have hB1:=Blk.new wr (zAt m (.slice ua m.cmd.writes.length ucap)) 110
    have hbz:b<wr.heap.size:=World.block_lt_of_cell? wr _ q0
    clear hI hm hu hlk hA2 hcell hfro
    go_wp2_with fail
    refine HC.out.mono ?_
    rintro e w5 ⟨rfl,hm5⟩
    have hB5:Blk w5 wr.heap.size (zAt m (.slice ua m.cmd.writes.length ucap)) 110:=hB1.mod hm5 id
    have hmr5:=((Mod.refl zAb wr).alloc (.cells #[.int .i64 m.kind,.int .i64 m.frm,.int .i64 m.to,.int .i64 m.epoch,.int .i64 m.n,.int .i64 m.cmd.kind,.int .i64 m.cmd.tx,.int .i64 m.cmd.time,.slice ua m.cmd.writes.length ucap] 110)).trans hm5
    clear HC q0 q1 q2 q3 q4 q5 q6 q7 q8 hB1
    cases hs:zDx ds m with
    | true=>
     have HN:=Hmr (HI.out.skip HMM.out HUU.out hs hmr5)
     go_wp2_with fail
     go_roundw
     case rel=>exact ⟨i,j+1,rfl,by go_num,HN.out⟩
     case measure=>simp [intOf];omega
    | false=>
     have HN:=Hmr (HI.out.keep HPS.out HMM.out HUU.out hs hmr5)
     obtain ⟨⟨p0,p1,p2,p3,p4,p5,p6,p7,p8⟩,_⟩:=blk9 hB5
     have hex:∀ c,c<9->∃ y,w5.cell? ⟨b,i*9+c,none⟩=some y:=fun c hc=>by
      obtain ⟨y,hy⟩:=Option.isSome_iff_exists.1 (HCE.out c (by omega))
      exact ⟨y,hmr5.cell hy id⟩
     have hfz:∀ c,w5.frozen? ⟨b,c,none⟩=false:=fun c=>(hmr5.frozen (p:=⟨b,c,none⟩) hbz id).trans (HFR.out c)
     obtain ⟨y0,hy0⟩:=hex 0 (by omega)
     obtain ⟨y1,hy1⟩:=hex 1 (by omega)
     obtain ⟨y2,hy2⟩:=hex 2 (by omega)
     obtain ⟨y3,hy3⟩:=hex 3 (by omega)
     obtain ⟨y4,hy4⟩:=hex 4 (by omega)
     obtain ⟨y5,hy5⟩:=hex 5 (by omega)
     obtain ⟨y6,hy6⟩:=hex 6 (by omega)
     obtain ⟨y7,hy7⟩:=hex 7 (by omega)
     obtain ⟨y8,hy8⟩:=hex 8 (by omega)
     have f0:=hfz (i*9+0)
     have f1:=hfz (i*9+1)
     have f2:=hfz (i*9+2)
     have f3:=hfz (i*9+3)
     have f4:=hfz (i*9+4)
     have f5:=hfz (i*9+5)
     have f6:=hfz (i*9+6)
     have f7:=hfz (i*9+7)
     have f8:=hfz (i*9+8)
     simp only [Nat.add_zero] at hy0 f0
     have hbn:b≠wr.heap.size:=by omega
     clear hex hfz
     go_wp2_with fail
     go_roundw
     case rel=>exact ⟨i+1,j+1,by go_num,by go_num,by simpa [World.setCells,zAt,Nat.add_assoc] using HN.out⟩
     case measure=>simp [intOf];omega
   ·obtain rfl:j=ms.length:=by omega
    have HDN:=Hmr (hI.done (cap:=cap) HB0.out hLg hcap (by unfold maxLen;omega) lR HGD.out)
    have hb3:¬ cap=i:=by omega
    have hb4:i<=cap:=by omega
    have HCE:=Hmr hcell
    have HFR:Hid (∀ n,n<(ms.length - i)*9->wr.frozen? ⟨b,i*9+n,none⟩=false):=fun n _=>hfro _
    clear hI hcell hfro
    go_wp2_with (first
     | (refine zTv rfl _ rfl b (i*9) (ms.length - i) _ rfl (by omega) HCE.out HFR.out ?_)
     | fail)
    go_ret
    exact ⟨_,rfl,HDN.out.1,rfl,HDN.out.2⟩
end Go.Proofs.YtogaigioeohjaaaGreatDoor
namespace Go.Proofs.YtogaigioeohjaaaGreatDoor
open Go.RowKit Go.Lib Go.Maps
variable {E:Ext}
def yBu(s:NetS)(id:Int):NetS:=⟨zFn (s.down++[id]) s.way,s.lost+((s.way.length:Int) - ((zFn (s.down++[id]) s.way).length:Int)),s.down++[id]⟩
theorem zEz.put{w':World}{L:Lo}{b n:Nat}{ds:List Int}{D:DataW Unit}{id:Int}(hd:∀ x,(Lit.int .i64 x).wf=true->Maps.has D (.int .i64 x)=decide (x∈ds))(hD:IsMap D)(hb:L<=b)(hn:n<=ds.length)
  (hid:zBc id) (h:w'.ownsMap Tryz.prog 3 unitElem b (n+1) (D.put (.int .i64 id) (.agg []))):zEz w' L (some b) (ds++[id]):=by
 refine .inr ⟨b,_,rfl,hb,h.mono (by simp;omega),fun x hx=>?_⟩
 by_cases e:x=id
 ·subst e
  rw [has_put_same hD (by simp [WideAt.IsKeyLit])]
  simp
 ·rw [has_put_other (by intro h;cases h;exact e rfl),hd x hx]
  simp [e]
theorem NetP.mapped{w:World}{L:Lo}{g:Nat}{wv:Value}{s:NetS}(h:NetP E w L g wv none s) :
  NetP E ((w.setCell ⟨g,4,none⟩ (.map (some w.heap.size))).alloc (.map #[] 0)) L g wv (some w.heap.size) s/\Mod (zDi g wv none) w ((w.setCell ⟨g,4,none⟩ (.map (some w.heap.size))).alloc (.map #[] 0)):=by
 obtain ⟨a1,_,_⟩:=h.apart
 have hz:(w.setCell ⟨g,4,none⟩ (.map (some w.heap.size))).heap.size=w.heap.size:=by simp [World.setCell]
 have hm1:Mod (zAd g) w (w.setCell ⟨g,4,none⟩ (.map (some w.heap.size))):=Mod.setBlk g 4 _
 have hm2:Mod (zAd g) w ((w.setCell ⟨g,4,none⟩ (.map (some w.heap.size))).alloc (.map #[] 0)):=hm1.alloc _
 have hq:Qm w L (zAd g):=Qm.of_net h (fun k _ e=>.inl e)
 have hlow:=h.low
 have hlt:=h.blk.lt
 have hd0:s.down=[]:=by
  rcases h.dn with ⟨_,e⟩ | ⟨b,D,e,_⟩
  ·exact e
  ·cases e
 refine ⟨⟨(h.blk.set 4 (.map (some w.heap.size))).mod ((Mod.refl zAb _).alloc _) id,h.low,h.row.mod hm2 hq (fun k hk e=>a1 (by rw [hk,e])),?_,h.few,h.lo,fun k hk=>Nat.lt_of_lt_of_le (h.xb k hk) hm2.size⟩,hm2.mono (fun i _ e=>.inl e)⟩
 rw [hd0]
 have:=World.ownsMap_made (H:=Unit) (w.setCell ⟨g,4,none⟩ (.map (some w.heap.size))) Tryz.prog 3 unitElem
 rw [hz] at this
 exact .inr ⟨w.heap.size,.map [],rfl,by omega,this,fun x _=>by simp [Maps.has]⟩
theorem NetP.puts{w w1:World}{L:Lo}{g b:Nat}{wv:Value}{s:NetS}{D:DataW Unit}{id:Int}(h:NetP E w L g wv (some b) s)(ho:w.ownsMap Tryz.prog 3 unitElem b s.down.length D)(hh:∀ x,(Lit.int .i64 x).wf=true->Maps.has D (.int .i64 x)=decide (x∈s.down))(hLb:L<=b)(hid:zBc id)
  (hg:w.grownBy w1 (some b)) (h1:w1.ownsMap Tryz.prog 3 unitElem b (s.down.length+1) (D.put (.int .i64 id) (.agg []))):NetP E w1 L g wv (some b) ⟨s.way,s.lost,s.down++[id]⟩/\Mod (fun k=>some b=some k) w w1:=by
 obtain ⟨a1,a2,a3⟩:=h.apart
 have hm:Mod (fun k=>some b=some k) w w1:=(Mod.refl _ w).grown hg (fun x hx _=>hx)
 have hq:Qm w L (fun k=>some b=some k):=Qm.of_net h (fun k _ e=>.inr (.inr e))
 exact ⟨⟨h.blk.mod hm a2,h.low,h.row.mod hm hq (fun k hk e=>a3 k hk e),zEz.put hh ho.isMap hLb (Nat.le_refl _) hid h1,h.few,h.lo,fun k hk=>Nat.lt_of_lt_of_le (h.xb k hk) hm.size⟩,hm⟩
theorem Mod.net2{w w1 w2:World}{g b:Nat}{v:Value}{mr:Option Nat}(h:Mod (zDi g v mr) w w1)(hb:some b=mr\/w.heap.size<=b)(k:Mod (fun x=>some b=some x) w1 w2):Mod (zDi g v mr) w w2:=
 h.trans' k (fun i hi e=>by
  cases e
  rcases hb with e | e
  ·exact .inr (.inr e.symm)
  ·omega)
theorem yRh(L:Lo)(g:Nat)(wv:Value)(mr:Option Nat)(s:NetS)(id:Int)(w:World)(h:NetP E w L g wv mr s)(hid:zBc id)(hds:s.down.length<=1000000)(hlo:s.lost+200<=4611686018427387904) :
  Calls Tryz.prog 87 #[.pointer (some ⟨g,2,none⟩),.int .i64 id] w fun e w'=>∃ wv' mr',e=.returned (.int .i64 ((yBu s id).lost - s.lost))/\NetP E w' L g wv' mr' (yBu s id)/\wv'.ownBlock=wv.ownBlock/\(mr'=mr\/∀ k,mr'=some k->w.heap.size<=k)/\Mod (zDi g wv mr) w w':=by
 have c2:=h.blk.cell 4 rfl
 have f2:=h.blk.frozen 4
 have hen:=fun (r:Option Nat) (w:World)=>run_eql_map_nil (P:=Tryz.prog) w 81 _ _ r Tryz.underlying81
 have hmm:=@run_makeMap Tryz.prog
 have hgl:=h.blk.lt
 go_enter Tryz.func87,Tryz.ntmps87
 go_upto_if 11 with fail
 go_cut [] (fun wc=>∃ b,NetP E wc L g wv (some b) s/\(some b=mr\/w.heap.size<=b)/\Mod (zDi g wv mr) w wc)
 case first=>
  cases mr with
  | none=>
   have HH:=Hmr h.mapped
   clear h
   go_wp2_with fail
   go_meet
   case rel=>exact ⟨_,HH.out.1,.inr (Nat.le_refl _),HH.out.2⟩
  | some b=>
   go_wp2_with fail
   go_meet
   case rel=>exact ⟨b,h,.inl rfl,Mod.refl _ _⟩
 case rest=>
  obtain ⟨b,hN,hbm,hM⟩:=hcut
  clear c2 f2 h
  have c2:=hN.blk.cell 4 rfl
  have hdn:=hN.dn
  rcases hdn with ⟨e,_⟩ | ⟨b',D,e,hLb,hown,hhas⟩
  ·cases e
  cases e
  have hkey:keyOf Tryz.prog 3 (.int .i64 id)=some (.int .i64 id):=keyOf_int_mk Tryz.underlying3 (zRp hid)
  have HO:=Hmr hown
  have HHA:=Hmr hhas
  have HN:=Hmr hN
  clear hown hhas hN
  go_wp2_with (first
   | (at_mapUpdate;refine wpList_mapUpdate_own _ rfl _ _ _ 81 rfl 3 119 kInt Tryz.underlying81 unitElem b _ D rfl HO.out (by unfold maxLen;omega) _ _ _ rfl rfl hkey _ [] unitElem_mk ?_)
   | fail)
  intro w1 hown1 hgrow1
  have hN1:=HN.out.puts HO.out HHA.out hLb hid hgrow1 hown1
  have hM1:=hM.net2 hbm hN1.2
  obtain ⟨wa,wcap,hwv⟩:=hN1.1.row.slice
  subst hwv
  have c0:=hN1.1.blk.cell 2 rfl
  have f0:=hN1.1.blk.frozen 2
  have HN1:=Hmr hN1.1
  have hgz:=hN1.1.blk.lt
  have hAP:=hN1.1.apart
  have hfew:=hN1.1.few
  have hl0:=hN1.1.lo
  have hkl:=yMb (s.down++[id]) s.way
  simp only at c0 hfew hl0
  clear hN1 hown1 hgrow1 HO HHA HN hM c2
  go_upto_region 5 with fail
  go_cut [] (fun wc=>∃ wv',NetP E wc L g wv' (some b) ⟨zFn (s.down++[id]) s.way,s.lost,s.down++[id]⟩/\wv'.ownBlock=(Value.slice wa s.way.length wcap).ownBlock/\Mod (zDi g (.slice wa s.way.length wcap) (some b)) w1 wc)
  case first=>
   go_region_law
    ((first
     | (go_simp;go_at_call 129;(refine (zUw g _).mono ?_;rintro e w2 ⟨hw2,rfl⟩;have hm2:Mod zAb w1 w2:=(by rw [hw2];exact ((Mod.refl zAb w1).drew).alloc _);have hq2:Blk w2 w1.heap.size [.pointer (some ⟨g,2,none⟩)] 153:=(by rw [hw2];exact Blk.new w1.drew _ _);clear hw2;have c20:=hm2.cell c0 (fun e=>e);have z2:=hm2.size;try dsimp only))
     | (go_simp;go_at_call 147;(refine (zUc L g w1.heap.size (some b) (s.down++[id]) _ s.way w2 (HN1.out.mod hm2 (Qm.none _ _) (fun _ _ e=>e)).row ⟨hq2.cell 0 rfl,(HN1.out.mod hm2 (Qm.none _ _) (fun _ _ e=>e)).blk.cell 4 rfl,(HN1.out.mod hm2 (Qm.none _ _) (fun _ _ e=>e)).dn⟩ (fun e=>Nat.lt_irrefl _ (HN1.out.lt (.inr (.inl e))).2.1) hAP.1 hAP.2.2 hfew).mono ?_;rintro e w3 ⟨v3,rfl,hR3,hv3,hm3⟩;obtain ⟨va3,vc3,hv3s⟩:=hR3.slice;subst hv3s;have c30:=hm3.cell c20 hAP.1;have f30:=((hm3.frozen (p:=⟨g,2,none⟩) (Nat.lt_of_lt_of_le hgz z2) hAP.1).trans (hm2.frozen (p:=⟨g,2,none⟩) hgz (fun e=>e))).trans f0;try dsimp only))
     | fail))
   all_goals
    have R:=(HN1.out.mod hm2 (Qm.none _ _) (fun _ _ e=>e)).rowed hm3 hR3 hv3 (by omega)
    go_wp2_with fail
    go_meet
    case rel=>exact ⟨_,R.1,hv3,(hm2.mono (fun _ _ e=>e.elim)).trans R.2⟩
  case rest=>
   obtain ⟨wv',hN4,hv4,hm4⟩:=hcut
   obtain ⟨wb,wbc,hwv⟩:=hN4.row.slice
   subst hwv
   have x0:=hN4.blk.cell 2 rfl
   have x1:=hN4.blk.cell 3 rfl
   have y1:=hN4.blk.frozen 3
   simp only at x0 x1
   have HL:=Hmr (hN4.loses (s.lost+((s.way.length:Int) - ((zFn (s.down++[id]) s.way).length:Int))) ⟨by omega,by omega⟩)
   have HM4:=Hmr (hM1.trans' hm4 (fun i hi e=>by
    rcases e with e | e | e
    ·exact .inl e
    ·exact .inr (.inl e)
    ·cases e
     rcases hbm with e | e
     ·exact .inr (.inr e.symm)
     ·omega))
   have HV4:=Hmr hv4
   clear hN4 hm4 hM1 hv4 c0 f0
   go_wp2_with fail
   go_ret
   refine ⟨?_,?_⟩
   ·simp only [yBu];go_num
   refine ⟨.slice wb (zFn (s.down++[id]) s.way).length wbc,some b,?_,HV4.out,?_,?_⟩
   ·simpa [yBu] using HL.out.1
   ·rcases hbm with e | e
    ·exact .inl e
    ·exact .inr (fun k hk=>by cases hk;exact e)
   ·simpa using HM4.out.trans' HL.out.2 (fun i hi e=>by
     rcases e with e | e | e
     ·exact .inl e
     ·exact .inr (.inl (by rw [<-HV4.out];exact e))
     ·cases e
      rcases hbm with e | e
      ·exact .inr (.inr e.symm)
      ·omega)
end Go.Proofs.YtogaigioeohjaaaGreatDoor
namespace Go.Proofs.YtogaigioeohjaaaGreatDoor
structure ClmD where
 tx:Int
 mode:Int
 deriving DecidableEq
def zFj(l:List ClmD):Prop:=l.Pairwise fun a b=>a.tx<b.tx
def plcN(l:List ClmD)(t:Int):Nat:=(l.filter fun c=>decide (c.tx<t)).length
theorem zXo(l:List ClmD)(t:Int):plcN l t<=l.length:=List.length_filter_le _ _
theorem zZy(v:ClmD)(l:List ClmD)(t:Int):plcN (v :: l) t=(if v.tx<t then 1 else 0)+plcN l t:=by
 unfold plcN
 rw [List.filter_cons]
 by_cases h:v.tx<t
 ·simp [h];omega
 ·simp [h]
theorem zZx{l:List ClmD}{t:Int}(h:∀ v∈l,t<=v.tx):plcN l t=0:=by
 unfold plcN
 rw [List.length_eq_zero_iff,List.filter_eq_nil_iff]
 intro v hv
 have:=h v hv
 simp;omega
theorem zIn:∀ {l:List ClmD} (_:zFj l) (t:Int) (k:Nat) (v:ClmD),l[k]?=some v->(k<plcN l t↔v.tx<t)
 | [],_,t,k,v,h=>by simp at h
 | x :: l,hr,t,0,v,h=>by
  simp at h
  subst h
  rw [zZy]
  by_cases hx:x.tx<t
  ·simp [hx];omega
  ·have:plcN l t=0:=zZx (fun y hy=>by have:=List.rel_of_pairwise_cons hr hy;omega)
   simp [hx,this]
 | x :: l,hr,t,k+1,v,h=>by
  have hv:l[k]?=some v:=by simpa using h
  have ih:=zIn (List.Pairwise.of_cons hr) t k v hv
  have hx:=List.rel_of_pairwise_cons hr (List.mem_of_getElem? hv)
  rw [zZy]
  by_cases h1:x.tx<t
  ·simp only [h1,if_true];rw [<-ih];omega
  ·have:plcN l t=0:=zZx (fun y hy=>by have:=List.rel_of_pairwise_cons hr hy;omega)
   simp only [h1,if_false,this]
   constructor
   ·intro h;omega
   ·intro h;omega
theorem yLg{l:List ClmD}(hr:zFj l){t:Int}{n:Nat}(hn:n<=l.length)(h1:∀ k v,k<n->l[k]?=some v->v.tx<t)(h2:∀ k v,n<=k->l[k]?=some v->t<=v.tx):plcN l t=n:=by
 rcases Nat.lt_trichotomy (plcN l t) n with h | h | h
 ·obtain ⟨v,hv⟩:∃ v,l[plcN l t]?=some v:=⟨_,List.getElem?_eq_getElem (by omega)⟩
  have a:=h1 _ v h hv
  have:=(zIn hr t _ v hv).2 a
  omega
 ·exact h
 ·have hb:=zXo l t
  obtain ⟨v,hv⟩:∃ v,l[n]?=some v:=⟨_,List.getElem?_eq_getElem (by omega)⟩
  have a:=(zIn hr t _ v hv).1 h
  have b:=h2 _ v (Nat.le_refl _) hv
  omega
def fndN(l:List ClmD)(t:Int):Bool:=match l[plcN l t]? with
 | some c=>decide (c.tx=t)
 | none=>false
def zCw(l:List ClmD)(t:Int):Int:=match l[plcN l t]? with
 | some c=>if c.tx=t then c.mode else 0
 | none=>0
def zDg(l:List ClmD)(c:ClmD):List ClmD:=if fndN l c.tx then l.set (plcN l c.tx) c else l.take (plcN l c.tx)++c :: l.drop (plcN l c.tx)
def zCj(a b:ClmD):Bool:=decide (a.tx≠b.tx) && (decide (a.mode=2) || decide (b.mode=2))
def zIq(held waits:List ClmD)(c:ClmD):Bool:=!(held.any fun o=>zCj o c) && !(waits.any fun o=>decide (o.tx<c.tx) && zCj o c)
def zKy(c o:ClmD):Bool:=decide (o.tx<c.tx) || !zCj o c
def zJl(held:List ClmD)(c:ClmD):List Int:=(held.filter fun o=>!zKy c o).map (·.tx)
def zCy(l:List ClmD)(t:Int):List ClmD:=l.filter fun c=>!decide (c.tx=t)
def zDh(held kept:List ClmD):List ClmD->List ClmD × List ClmD × List ClmD
 | []=>(held,kept,[])
 | c :: q=>if zIq held kept c then ((zDh (zDg held c) kept q).1,(zDh (zDg held c) kept q).2.1,c :: (zDh (zDg held c) kept q).2.2) else zDh held (kept++[c]) q
theorem yBl{l:List ClmD}{t:Int}(h:fndN l t=true):∃ c,l[plcN l t]?=some c/\c.tx=t:=by
 unfold fndN at h
 cases hc:l[plcN l t]? with
 | none=>rw [hc] at h;cases h
 | some c=>rw [hc] at h;exact ⟨c,rfl,by simpa using h⟩
theorem yDh{l:List ClmD}(hr:zFj l){c:ClmD}(hc:c∈l):l[plcN l c.tx]?=some c:=by
 obtain ⟨k,hk⟩:=List.getElem?_of_mem hc
 have hkl:=(List.getElem?_eq_some_iff.1 hk).1
 have:plcN l c.tx=k:=yLg hr (by omega) (fun j v hj hv=>by
  have h1:=(zIn hr v.tx j v hv)
  have:=List.pairwise_iff_getElem.1 hr j k (List.getElem?_eq_some_iff.1 hv).1 hkl hj
  rw [(List.getElem?_eq_some_iff.1 hv).2,(List.getElem?_eq_some_iff.1 hk).2] at this
  exact this) (fun j v hj hv=>by
  by_cases e:j=k
  ·subst e;rw [hk] at hv;cases hv;exact Int.le_refl _
  ·have:=List.pairwise_iff_getElem.1 hr k j hkl (List.getElem?_eq_some_iff.1 hv).1 (by omega)
   rw [(List.getElem?_eq_some_iff.1 hv).2,(List.getElem?_eq_some_iff.1 hk).2] at this
   omega)
 rw [this];exact hk
theorem yMo{l:List ClmD}(hr:zFj l)(t:Int):fndN l t=true↔∃ c∈l,c.tx=t:=by
 constructor
 ·intro h
  obtain ⟨c,h1,h2⟩:=yBl h
  exact ⟨c,List.mem_of_getElem? h1,h2⟩
 ·rintro ⟨c,h1,rfl⟩
  unfold fndN
  rw [yDh hr h1]
  simp
theorem zXx{l:List ClmD}(hr:zFj l){c:ClmD}(hc:c∈l):zCw l c.tx=c.mode:=by
 unfold zCw
 rw [yDh hr hc]
 simp
theorem yLp{l:List ClmD}{t:Int}(h:∀ c∈l,c.tx≠t):zCw l t=0:=by
 unfold zCw
 cases hc:l[plcN l t]? with
 | none=>rfl
 | some c=>
  have:=h c (List.mem_of_getElem? hc)
  simp [this]
theorem zJt{l:List ClmD}(hr:zFj l)(hm:∀ c∈l,c.mode≠0){t:Int}:zCw l t=0↔∀ c∈l,c.tx≠t:=by
 constructor
 ·intro h c hc e
  subst e
  rw [zXx hr hc] at h
  exact hm c hc h
 ·exact yLp
theorem zCa{l:List ClmD}(hr:zFj l)(c o:ClmD):o∈zDg l c↔o=c\/(o∈l/\o.tx≠c.tx):=by
 unfold zDg
 split
 ·rename_i h
  obtain ⟨d,h1,h2⟩:=yBl h
  have hl:=(List.getElem?_eq_some_iff.1 h1).1
  rw [List.mem_iff_getElem?]
  constructor
  ·rintro ⟨k,hk⟩
   rw [List.getElem?_set] at hk
   split at hk
   ·simp at hk
    exact .inl hk.symm
   ·rename_i hne
    refine .inr ⟨List.mem_of_getElem? hk,fun e=>hne ?_⟩
    have ho:=List.mem_of_getElem? hk
    have:=yDh hr ho
    rw [e] at this
    obtain ⟨k1,k2⟩:=List.getElem?_eq_some_iff.1 hk
    obtain ⟨j1,j2⟩:=List.getElem?_eq_some_iff.1 this
    rcases Nat.lt_trichotomy (plcN l c.tx) k with q | q | q
    ·have:=List.pairwise_iff_getElem.1 hr _ _ j1 k1 q;rw [j2,k2] at this;omega
    ·exact q
    ·have:=List.pairwise_iff_getElem.1 hr _ _ k1 j1 q;rw [j2,k2] at this;omega
  ·rintro (rfl | ⟨ho,hne⟩)
   ·exact ⟨plcN l o.tx,by rw [List.getElem?_set_self hl]⟩
   ·obtain ⟨k,hk⟩:=List.getElem?_of_mem ho
    refine ⟨k,?_⟩
    rw [List.getElem?_set_ne ?_]
    ·exact hk
    ·rintro rfl
     rw [h1] at hk
     cases hk
     exact hne h2
 ·rename_i h
  rw [List.mem_append,List.mem_cons]
  have hno:∀ o∈l,o.tx≠c.tx:=fun o ho e=>h ((yMo hr c.tx).2 ⟨o,ho,e⟩)
  constructor
  ·rintro (q | rfl | q)
   ·have:=List.mem_of_mem_take q;exact .inr ⟨this,hno o this⟩
   ·exact .inl rfl
   ·have:=List.mem_of_mem_drop q;exact .inr ⟨this,hno o this⟩
  ·rintro (rfl | ⟨q,_⟩)
   ·exact .inr (.inl rfl)
   ·rw [<-List.take_append_drop (plcN l c.tx) l,List.mem_append] at q
    rcases q with q | q
    ·exact .inl q
    ·exact .inr (.inr q)
theorem zHf{l:List ClmD}(hr:zFj l)(c:ClmD):zFj (zDg l c):=by
 unfold zDg
 split
 ·rename_i h
  obtain ⟨d,h1,h2⟩:=yBl h
  obtain ⟨hl,hd⟩:=List.getElem?_eq_some_iff.1 h1
  unfold zFj
  rw [List.pairwise_iff_getElem]
  intro i j hi hj hij
  simp only [List.length_set] at hi hj
  have:=List.pairwise_iff_getElem.1 hr i j hi hj hij
  rw [List.getElem_set,List.getElem_set]
  split
  ·rename_i e
   subst e
   rw [if_neg (by omega)]
   rw [hd,h2] at this;exact this
  ·split
   ·rename_i e
    subst e
    rw [hd,h2] at this;exact this
   ·exact this
 ·rename_i h
  have hno:∀ o∈l,o.tx≠c.tx:=fun o ho e=>h ((yMo hr c.tx).2 ⟨o,ho,e⟩)
  unfold zFj
  rw [List.pairwise_append]
  refine ⟨hr.sublist (List.take_sublist _ _),?_,?_⟩
  ·rw [List.pairwise_cons]
   refine ⟨fun o ho=>?_,hr.sublist (List.drop_sublist _ _)⟩
   obtain ⟨k,hk⟩:=List.getElem?_of_mem ho
   rw [List.getElem?_drop] at hk
   have:=mt (zIn hr c.tx _ o hk).2 (by omega)
   have:=hno o (List.mem_of_mem_drop ho)
   omega
  ·intro a ha b hb
   obtain ⟨k,hk⟩:=List.getElem?_of_mem ha
   rw [List.getElem?_take] at hk
   split at hk
   ·rename_i hlt
    have h1:=(zIn hr c.tx k a hk).1 hlt
    rcases List.mem_cons.1 hb with rfl | hb
    ·exact h1
    ·obtain ⟨j,hj⟩:=List.getElem?_of_mem hb
     rw [List.getElem?_drop] at hj
     have:=mt (zIn hr c.tx _ b hj).2 (by omega)
     omega
   ·cases hk
theorem zOj(l:List ClmD)(c:ClmD):(zDg l c).length<=l.length+1:=by
 unfold zDg
 split
 ·simp
 ·have:=zXo l c.tx
  simp;omega
theorem zBq{l:List ClmD}{t:Int}{o:ClmD}:o∈zCy l t↔o∈l/\o.tx≠t:=by
 unfold zCy
 simp
theorem zEx{l:List ClmD}(hr:zFj l)(t:Int):zFj (zCy l t):=hr.sublist List.filter_sublist
theorem zLi(l:List ClmD)(t:Int):(zCy l t).length<=l.length:=List.length_filter_le _ _
theorem zPj:∀ (q held kept:List ClmD),zFj held->zFj (kept++q)->zFj (zDh held kept q).1/\zFj (zDh held kept q).2.1
 | [],held,kept,h1,h2=>⟨h1,by simpa [zDh] using h2⟩
 | c :: q,held,kept,h1,h2=>by
  unfold zDh
  split
  ·exact zPj q (zDg held c) kept (zHf h1 c) (h2.sublist (by simp))
  ·exact zPj q held (kept++[c]) h1 (by simpa using h2)
theorem zXp:∀ (q held kept:List ClmD),(zDh held kept q).1.length<=held.length+q.length/\(zDh held kept q).2.1.length<=kept.length+q.length/\(zDh held kept q).2.2.length<=q.length
 | [],held,kept=>by simp [zDh]
 | c :: q,held,kept=>by
  unfold zDh
  split
  ·have:=zXp q (zDg held c) kept
   have:=zOj held c
   simp only [List.length_cons]
   omega
  ·have:=zXp q held (kept++[c])
   simp only [List.length_cons,List.length_append,List.length_nil] at *
   omega
theorem zHi:∀ (q held kept:List ClmD) (o:ClmD),(o∈(zDh held kept q).1->o∈held\/o∈q)/\(o∈(zDh held kept q).2.1->o∈kept\/o∈q)/\(o∈(zDh held kept q).2.2->o∈q)
 | [],held,kept,o=>by simp [zDh]
 | c :: q,held,kept,o=>by
  unfold zDh
  split
  ·obtain ⟨h1,h2,h3⟩:=zHi q (zDg held c) kept o
   refine ⟨fun h=>?_,fun h=>?_,fun h=>?_⟩
   ·rcases h1 h with h | h
    ·unfold zDg at h
     split at h
     ·rcases List.mem_or_eq_of_mem_set h with h | h
      ·exact .inl h
      ·exact .inr (by rw [h];simp)
     ·rcases List.mem_append.1 h with h | h
      ·exact .inl (List.mem_of_mem_take h)
      ·rcases List.mem_cons.1 h with h | h
       ·exact .inr (by rw [h];simp)
       ·exact .inl (List.mem_of_mem_drop h)
    ·exact .inr (List.mem_cons_of_mem _ h)
   ·exact (h2 h).imp id (List.mem_cons_of_mem _)
   ·rcases List.mem_cons.1 h with h | h
    ·rw [h];simp
    ·exact List.mem_cons_of_mem _ (h3 h)
  ·obtain ⟨h1,h2,h3⟩:=zHi q held (kept++[c]) o
   refine ⟨fun h=>(h1 h).imp id (List.mem_cons_of_mem _),fun h=>?_,fun h=>List.mem_cons_of_mem _ (h3 h)⟩
   rcases h2 h with h | h
   ·rcases List.mem_append.1 h with h | h
    ·exact .inl h
    ·simp at h;exact .inr (by rw [h];simp)
   ·exact .inr (List.mem_cons_of_mem _ h)
end Go.Proofs.YtogaigioeohjaaaGreatDoor
