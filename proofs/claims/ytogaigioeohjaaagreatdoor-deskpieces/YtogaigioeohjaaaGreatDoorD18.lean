import Derived.Test.YtogaigioeohjaaaGreatDoorD17
import Derived.Lib.SliceRun
set_option linter.unusedVariables false
set_option maxRecDepth 100000
set_option maxHeartbeats 16000000
namespace Go.Proofs.YtogaigioeohjaaaGreatDoor
open Go.RowKit Go.Lib Go.Maps
def zCu{α:Type}(p:α->Bool)(ms:List α):List α:=ms.filter (fun m=>!p m)
theorem zMi{α:Type}(p:α->Bool)(ms:List α)(m:α):zCu p (ms++[m])=if p m then zCu p ms else zCu p ms++[m]:=by
 unfold zCu;rw [List.filter_append]
 cases h:p m <;> simp [h]
theorem zSn{α:Type}(p:α->Bool):∀ ms:List α,ms.findIdx? p=none->zCu p ms=ms
 | [],_=>rfl
 | m :: ms,h=>by
  rw [List.findIdx?_cons] at h
  split at h
  ·cases h
  ·rename_i hs
   have hs':p m=false:=by simpa using hs
   have:=zSn p ms (by simpa using h)
   unfold zCu at this ⊢
   rw [List.filter_cons,if_pos (by simp [hs']),this]
theorem zPs{α:Type}(p:α->Bool):∀ (ms:List α) k,ms.findIdx? p=some k->k<ms.length/\zCu p (ms.take (k+1))=ms.take k
 | [],_,h=>by simp at h
 | m :: ms,k,h=>by
  rw [List.findIdx?_cons] at h
  split at h
  ·rename_i hs
   simp at h;subst h
   refine ⟨by simp,?_⟩
   simp [zCu,hs]
  ·rename_i hs
   have hs':p m=false:=by simpa using hs
   obtain ⟨k',hk',rfl⟩:=Option.map_eq_some_iff.1 h
   obtain ⟨h1,h2⟩:=zPs p ms k' hk'
   refine ⟨by simp;omega,?_⟩
   unfold zCu at h2 ⊢
   rw [List.take_succ_cons,List.filter_cons,if_pos (by simp [hs']),h2,List.take_succ_cons]
def zIg(d:Nat):List Value:=[.pointer (some ⟨d,0,none⟩)]
def zDr(ds:List Nat):List Value:=ds.flatMap zIg
theorem zIm:∀ ds,(zDr ds).length=ds.length*1
 | []=>rfl
 | d :: ds=>by
  have ih:=zIm ds
  unfold zDr at ih ⊢
  rw [List.flatMap_cons,List.length_append,ih];simp [zIg];omega
theorem zZr(a b:List Nat):zDr (a++b)=zDr a++zDr b:=by simp [zDr]
theorem zHe(d:Nat)(b:List Nat):zDr (d :: b)=zIg d++zDr b:=by simp [zDr]
theorem yLb(ds:List Nat)(hu:∀ d∈ds,∀ u∈zIg d,u.oneCell'=true):∀ u∈zDr ds,u.oneCell'=true:=by
 intro u h
 obtain ⟨d,hd,hd2⟩:=List.mem_flatMap.1 h
 exact hu d hd u hd2
theorem zVb:∀ (os:List Nat) (i:Nat) (o:Nat),os[i]?=some o->∀ j x,(zIg o)[j]?=some x->(zDr os)[i*1+j]?=some x
 | [],i,o,h,_,_,_=>by simp at h
 | p :: os,0,o,h,j,x,hx=>by
  simp at h
  subst h
  have hj:j<(zIg p).length:=(List.getElem?_eq_some_iff.1 hx).1
  rw [zHe,Nat.zero_mul,Nat.zero_add,List.getElem?_append_left hj]
  exact hx
 | p :: os,i+1,o,h,j,x,hx=>by
  have ih:=zVb os i o (by simpa using h) j x hx
  have hl:(zIg p).length=1:=rfl
  rw [zHe,List.getElem?_append_right (by omega),hl,show (i+1)*1+j - 1=i*1+j by omega]
  exact ih
theorem zSd{w:World}{B:Nat}{v:Value}{ds:List Nat}(h:w.ownsRow B 100 1 v ds.length (zDr ds)):SlR w w.heap.size 1 yPh v ds:=by
 obtain ⟨h1,h2⟩:=h
 rcases h2 with ⟨rfl,hn⟩ | ⟨g,cap,cur,rfl,q1,q2,q3,q4,q5,q6⟩
 ·have:ds=[]:=List.eq_nil_of_length_eq_zero hn
  subst this
  exact SlR.nil _ _ _ _
 ·have hc:w.ownsRow B 100 1 (.slice (some ⟨g,0,none⟩) ds.length cap) ds.length (zDr ds):=⟨h1,.inr ⟨g,cap,cur,rfl,q1,q2,q3,q4,q5,q6⟩⟩
  have hcl:=hc.cells (g:=g) rfl
  have hgl:g<w.heap.size:=(Array.getElem?_eq_some_iff.1 q2).1
  refine ⟨_,cap,rfl,q3,q4,.inr ⟨g,0,rfl,by omega,fun i o hi=>⟨zIg o,rfl,rfl,fun j x hx=>?_⟩⟩⟩
  have:=hcl _ _ (zVb ds i o hi j x hx)
  rw [Go.WideShapes.add_plain,Nat.zero_add] at this
  rw [Nat.zero_add]
  exact this
def yCp:Array Value:=#[.pointer none]
def zHb(n:Nat):List Value:=(Builtin.zeroCells yCp n).toList
theorem zNc(n:Nat):(zHb n).length=n*1:=by rw [zHb,Array.length_toList,size_zeroCells];rfl
theorem yCn(n:Nat):∀ v∈zHb n,v.oneCell'=true:=by
 intro v hv
 simp only [zHb,Builtin.zeroCells,Array.toList_map,List.mem_map] at hv
 obtain ⟨i,_,rfl⟩:=hv
 have h9:∀ j,j<1->(yCp[j]!).oneCell'=true:=by
  intro j hj
  match j,hj with
  | 0,_=>rfl
 exact h9 _ (Nat.mod_lt _ (by decide))
theorem ySg(w:World):(zeroValue 100).run Tryz.prog w=.ok (.pointer none) w:=by kernel_rfl
theorem yDe(w:World)(ty:TypeId)(b o n c:Nat)(hn:0<n)(hc:∀ j,j<n*1->(w.cell? ⟨b,o+j,none⟩).isSome=true)(hf:∀ j,j<n*1->w.frozen? ⟨b,o+j,none⟩=false) :
  (Builtin.clear_ #[91] ty #[.slice (some ⟨b,o,none⟩) n c]).run Tryz.prog w=.ok (.tuple #[]) (w.setCells b o (zHb n)):=by
 have hst:=run_storeCells_cells (P:=Tryz.prog) b o (zHb n) 0 w (by simpa [zNc] using hc) (by simpa [zNc] using hf) (yCn n)
 simp only [Nat.add_zero] at hst
 obtain ⟨m,rfl⟩:∃ m,n=m+1:=⟨n - 1,by omega⟩
 have hz:=ySg
 have e:(Value.cells (.pointer none))=yCp:=rfl
 simp only [zHb] at hst ⊢
 simp [Builtin.clear_,run_underlying Tryz.underlying91,hz,e,hst]
theorem zTx{w:World}{ops:Array Oper}{rest:List Oper}{o:Oper}{a:Act}{Q:Exit->Act->World->Prop}(hgd:o.guard=none)(s:Operand)
  (ho:o.op=.call { callee:=.builtin .clear,args:=#[s],argTypes:=#[91] }) (b off n c:Nat) (hs:a.eval s=.slice (some ⟨b,off,none⟩) n c) (hn:0<n)
  (hc:∀ j,j<n*1->(w.cell? ⟨b,off+j,none⟩).isSome=true) (hf:∀ j,j<n*1->w.frozen? ⟨b,off+j,none⟩=false)
  (h:wpList Tryz.prog ops Q rest (a.put o.dst (.tuple #[])) (w.setCells b off (zHb n))):wpList Tryz.prog ops Q (o :: rest) a w:=by
 refine wpList_plain hgd fun K hK=>?_
 have hr:=yDe w o.type b off n c hn hc hf
 unfold Oper.wp execOp
 simp only [ho,resolve,invoke,builtin,Sem.run_bind,Sem.run_pure,Result.andThen_ok,List.map_toArray,List.map_cons,List.map_nil,hs,hr]
 exact hK _ _ h
def zMt(w wr:World)(b:Nat)(p:Nat->Bool)(ms:List Nat)(R:List Value)(i j:Nat):Prop:=
 ∃ mid:List Value,i=(zCu p (ms.take j)).length/\mid.length=(j - i)*1/\i<j/\j<=ms.length /\
  Blk wr b (zDr (zCu p (ms.take j))++mid++(zDr (ms.drop j)++R)) 100/\Mod (zAd b) w wr
theorem zMt.start{w wr:World}{b k0:Nat}{p:Nat->Bool}{ms:List Nat}{R:List Value}(hk:k0<ms.length)(hkt:zCu p (ms.take (k0+1))=ms.take k0)(hB:Blk w b (zDr ms++R) 100)(hm:Mod zAb w wr):zMt w wr b p ms R k0 (k0+1):=by
 obtain ⟨m,hm0⟩:∃ m,ms[k0]?=some m:=⟨_,List.getElem?_eq_getElem hk⟩
 have hms:ms=ms.take k0++m :: ms.drop (k0+1):=by
  rw [<-zCl hm0,List.take_append_drop]
 refine ⟨zIg m,by rw [hkt,List.length_take];omega,by simp [zIg],by omega,by omega,?_,hm.mono (fun _ _ e=>e.elim)⟩
 rw [hkt]
 have:=hB.mod hm id
 have e:zDr ms=zDr (ms.take k0)++(zIg m++zDr (ms.drop (k0+1))):=by
  conv=>lhs;rw [hms]
  rw [zZr,zHe]
 rw [e] at this
 simpa [List.append_assoc] using this
theorem zMt.look{w wr:World}{b i j:Nat}{p:Nat->Bool}{ms:List Nat}{R:List Value}(h:zMt w wr b p ms R i j){m:Nat}(hm:ms[j]?=some m) :
  ∀ n x,(zIg m)[n]?=some x->wr.cell? ⟨b,j*1+n,none⟩=some x:=by
 obtain ⟨mid,h1,h3,h4,h5,h6,h8⟩:=h
 intro n x hx
 have hn:n<1:=(List.getElem?_eq_some_iff.1 hx).1
 refine h6.cell _ ?_
 rw [zCl hm,zHe]
 have l1:=zIm (zCu p (ms.take j))
 rw [List.getElem?_append_right (by rw [List.length_append];omega),List.length_append,l1,h3,<-h1]
 rw [show j*1+n - (i*1+(j - i)*1)=n by omega,List.append_assoc,List.getElem?_append_left hn]
 exact hx
theorem zMt.skip{w wr wr':World}{b i j:Nat}{p:Nat->Bool}{ms:List Nat}{R:List Value}(h:zMt w wr b p ms R i j){m:Nat}(hm:ms[j]?=some m)(hs:p m=true)(hmd:Mod zAb wr wr') :
  zMt w wr' b p ms R i (j+1):=by
 obtain ⟨mid,h1,h3,h4,h5,h6,h8⟩:=h
 have hj:j<ms.length:=(List.getElem?_eq_some_iff.1 hm).1
 have e:zCu p (ms.take (j+1))=zCu p (ms.take j):=by rw [zBt hm,zMi,if_pos hs]
 refine ⟨mid++zIg m,by rw [e];exact h1,by rw [List.length_append,h3];simp [zIg];omega,by omega,by omega,?_,h8.trans (hmd.mono (fun _ _ e=>e.elim))⟩
 rw [e]
 have:=h6.mod hmd id
 rw [zCl hm,zHe] at this
 simpa [List.append_assoc] using this
theorem zMt.keep{w wr wr':World}{b i j:Nat}{p:Nat->Bool}{ms:List Nat}{R:List Value}(h:zMt w wr b p ms R i j){m:Nat}(hm:ms[j]?=some m)(hs:p m=false)(hmd:Mod zAb wr wr') :
  zMt w (wr'.setCells b (i*1) (zIg m)) b p ms R (i+1) (j+1):=by
 obtain ⟨mid,h1,h3,h4,h5,h6,h8⟩:=h
 have hj:j<ms.length:=(List.getElem?_eq_some_iff.1 hm).1
 have e:zCu p (ms.take (j+1))=zCu p (ms.take j)++[m]:=by rw [zBt hm,zMi,if_neg (by simp [hs])]
 have l1:=zIm (zCu p (ms.take j))
 have e1:zDr [m]=zIg m:=by simp [zDr]
 refine ⟨mid.drop 1++zIg m,by rw [e,List.length_append,<-h1];rfl,by rw [List.length_append,List.length_drop,h3];simp [zIg];omega,by omega,by omega,?_,(h8.trans (hmd.mono (fun _ _ e=>e.elim))).trans (Mod.midQ _ _ _)⟩
 rw [e,zZr,e1]
 have h9:=h6.mod hmd id
 rw [zCl hm,zHe] at h9
 have:=Blk.midQ (g:=b) (t:=100) (zIg m) wr' (zDr (zCu p (ms.take j))) (mid.take 1) (mid.drop 1++(zIg m++zDr (ms.drop (j+1))++R)) (by
  rw [zPp];exact h9) (by rw [List.length_take,h3];simp [zIg];omega)
 rw [l1,<-h1] at this
 simpa [List.append_assoc] using this
theorem zMt.room{w wr:World}{b i j:Nat}{p:Nat->Bool}{ms:List Nat}{R:List Value}(h:zMt w wr b p ms R i j):i<j/\j<=ms.length/\Mod (zAd b) w wr /\
  (∀ n,n<(j - i)*1->(wr.cell? ⟨b,i*1+n,none⟩).isSome=true)/\∀ n,wr.frozen? ⟨b,n,none⟩=false:=by
 obtain ⟨mid,h1,h3,h4,h5,h6,h8⟩:=h
 have l1:=zIm (zCu p (ms.take j))
 refine ⟨h4,h5,h8,fun n hn=>?_,fun n=>h6.frozen n⟩
 obtain ⟨x,hx⟩:∃ x,(zDr (zCu p (ms.take j))++mid++(zDr (ms.drop j)++R))[i*1+n]?=some x:=⟨_,List.getElem?_eq_getElem (by simp only [List.length_append];omega)⟩
 rw [show wr.cell? ⟨b,i*1+n,none⟩=some x from h6.cell _ hx];rfl
theorem zMt.done{w wr:World}{B b i cap:Nat}{p:Nat->Bool}{ms:List Nat}{R:List Value}(h:zMt w wr b p ms R i ms.length)(hBb:B<=b)(hcap:ms.length<=cap)(hcm:cap<=maxLen)(lR:ms.length*1+R.length=cap*1) :
  (wr.setCells b (i*1) (zHb (ms.length - i))).ownsRow B 100 1 (.slice (some ⟨b,0,none⟩) i cap) (zCu p ms).length (zDr (zCu p ms))/\Mod (zAd b) w (wr.setCells b (i*1) (zHb (ms.length - i))):=by
 obtain ⟨mid,h1,h3,h4,h5,h6,h8⟩:=h
 rw [List.take_length] at h1 h6
 have l1:=zIm (zCu p ms)
 have l2:=zNc (ms.length - i)
 have hM:=h8.trans (Mod.midQ (zHb (ms.length - i)) (i*1) wr)
 have e0:zDr (ms.drop ms.length)=[]:=by rw [List.drop_length];rfl
 rw [e0,List.nil_append] at h6
 have hB:=Blk.midQ (g:=b) (t:=100) (zHb (ms.length - i)) wr (zDr (zCu p ms)) mid R h6 (by omega)
 rw [l1,<-h1] at hB
 refine ⟨⟨by omega,.inr ⟨b,cap,(zDr (zCu p ms)++zHb (ms.length - i)++R).toArray,by rw [<-h1],hBb,hB,by omega,hcm,?_,?_⟩⟩,hM⟩
 ·simp only [List.size_toArray,List.length_append];omega
 ·rw [<-l1,List.append_assoc,List.take_left]
theorem yBw(f B:Nat)(caps:Array Value)(p:Nat->Bool)(v:Value)(ms:List Nat)(w:World)(C:World->Prop)(hR:w.ownsRow B 100 1 v ms.length (zDr ms))(hA:AskG f caps (fun d=>.pointer (some ⟨d,0,none⟩)) ms p C)(hC:C w)(hCb:∀ b,v.ownBlock=some b->∀ w',Mod (zAd b) w w'->C w')(hf:ms.length<=1000) :
  Calls Tryz.prog 109 #[v,.func (.func f) #[] caps] w fun e w'=>∃ v',e=.returned v'/\w'.ownsRow B 100 1 v' (zCu p ms).length (zDr (zCu p ms))/\v'.ownBlock=v.ownBlock/\Mod (fun x=>v.ownBlock=some x) w w':=by
 have HIX:=Hmq (zSp f w.heap.size caps p v ms w C (zSd hR) hA hC (by omega))
 cases hfi:ms.findIdx? p with
 | none=>
  rw [hfi] at HIX
  have HK:=Hmq (zSn p ms hfi)
  have HR:=Hmq hR
  obtain ⟨a,cap,rfl⟩:=zAg hR
  clear hR hA
  go_enter Tryz.func109,Tryz.ntmps109
  go_wp2_with fail
  refine HIX.out.mono ?_
  rintro e w1 ⟨rfl,hm1⟩
  simp only [idxI]
  go_wp2_with fail
  go_ret
  exact ⟨_,rfl,by rw [HK.out];exact zAn HR.out hm1 (fun _ _ _ _=>id),rfl,hm1.mono (fun _ _ e=>e.elim)⟩
 | some k0=>
  rw [hfi] at HIX
  obtain ⟨hk0,hkt⟩:=zPs p ms k0 hfi
  rcases hR.2 with ⟨_,h0⟩ | ⟨b,cap,cur,rfl,hLg,hg,hcap,hcm,hcs,htk⟩
  ·omega
  unfold maxLen at hcm
  obtain ⟨R,hRR⟩:∃ R,cur.toList=zDr ms++R:=by
   refine ⟨cur.toList.drop (ms.length*1),?_⟩
   rw [<-htk,List.take_append_drop]
  have lA:=zIm ms
  have hB0:Blk w b (zDr ms++R) 100:=by rw [Blk,<-hRR];exact hg
  have lR:ms.length*1+R.length=cap*1:=by
   have:(zDr ms++R).length=cap*1:=by rw [<-hRR];simpa using hcs
   rw [List.length_append,lA] at this;exact this
  have HB0:=Hmq hB0
  have HKT:=Hmq hkt
  have HA:=Hmq hA
  have HCB:=Hmq (hCb b rfl)
  have hen:=hA.enter
  clear hB0 hRR hg hcs htk hR hkt hfi lA hA hC hCb
  go_enter Tryz.func109,Tryz.ntmps109
  go_wp2_with fail
  refine HIX.out.mono ?_
  rintro e w1 ⟨rfl,hm1⟩
  simp only [idxI]
  have hne:((k0:Int) == -1)=false:=by rw [beq_eq_false_iff_ne];omega
  go_wp2_with fail
  go_loopw [5,6] (fun x y wr=>∃ i j:Nat,x=.int .i64 i/\y=.int .i64 j/\zMt w wr b p ms R i j) (fun _ y _=>ms.length - (intOf y).toNat)
  case atStart=>exact ⟨k0,k0+1,rfl,by go_num,zMt.start hk0 HKT.out HB0.out hm1⟩
  case round=>
   obtain ⟨i,j,rfl,rfl,hI⟩:=hrel
   obtain ⟨hij,hjn,hMr,hcell,hfro⟩:=hI.room
   by_cases hlt:j<ms.length
   ·obtain ⟨m,hm⟩:∃ m,ms[j]?=some m:=⟨_,List.getElem?_eq_getElem hlt⟩
    have hlk:=hI.look hm
    have q0:=hlk 0 _ rfl
    simp only [Nat.add_zero,Nat.mul_one] at q0
    have hCr:=HCB.out wr hMr
    have HC:=Hmq (HA.out.ask m (List.mem_of_getElem? hm) wr hCr)
    have HI:=Hmq hI
    have HMM:=Hmq hm
    have HCE:=Hmq hcell
    have HFR:=Hmq hfro
    have hid0:True:=trivial
    have hbz:b<wr.heap.size:=World.block_lt_of_cell? wr _ q0
    clear hI hm hlk hcell hfro hCr
    go_wp2_with fail
    refine HC.out.mono ?_
    rintro e w5 ⟨rfl,hm5⟩
    have hmr5:Mod zAb wr w5:=hm5
    clear HC q0
    cases hs:p m with
    | true=>
     have HN:=Hmq (HI.out.skip HMM.out hs hmr5)
     go_wp2_with fail
     go_roundw
     case rel=>exact ⟨i,j+1,rfl,by go_num,HN.out⟩
     case measure=>simp [intOf];omega
    | false=>
     have HN:=Hmq (HI.out.keep HMM.out hs hmr5)
     have hex:∀ c,c<1->∃ y,w5.cell? ⟨b,i*1+c,none⟩=some y:=fun c hc=>by
      obtain ⟨y,hy⟩:=Option.isSome_iff_exists.1 (HCE.out c (by omega))
      exact ⟨y,hmr5.cell hy id⟩
     have hfz:∀ c,w5.frozen? ⟨b,c,none⟩=false:=fun c=>(hmr5.frozen (p:=⟨b,c,none⟩) hbz id).trans (HFR.out c)
     obtain ⟨y0,hy0⟩:=hex 0 (by omega)
     have f0:=hfz (i*1+0)
     simp only [Nat.add_zero,Nat.mul_one] at hy0 f0
     have hbn:b≠wr.heap.size:=by omega
     clear hex hfz
     go_wp2_with fail
     go_roundw
     case rel=>exact ⟨i+1,j+1,by go_num,by go_num,by simpa [World.setCells,zIg,Nat.add_assoc] using HN.out⟩
     case measure=>simp [intOf];omega
   ·obtain rfl:j=ms.length:=by omega
    have hdn:=hI.done (B:=B) (cap:=cap) hLg hcap (by unfold maxLen;omega) lR
    have hb3:¬ cap=i:=by omega
    have hb4:i<=cap:=by omega
    simp only [Nat.mul_one] at hdn hcell
    have HDN:=Hmq hdn
    have HCE:Hid (∀ n,n<(ms.length - i)*1->(wr.cell? ⟨b,i+n,none⟩).isSome=true):=fun n hn=>hcell n (by omega)
    have HFR:Hid (∀ n,n<(ms.length - i)*1->wr.frozen? ⟨b,i+n,none⟩=false):=fun n _=>hfro _
    clear hdn
    clear hI hcell hfro
    go_wp2_with (first
     | (refine zTx rfl _ rfl b (i) (ms.length - i) _ rfl (by omega) HCE.out HFR.out ?_)
     | fail)
    go_ret
    exact ⟨_,rfl,HDN.out.1,rfl,HDN.out.2.mono (fun x _ e=>by simp only [zAd] at e;rw [e];rfl)⟩
theorem zUh(g:Nat)(a:Option Addr)(c:Nat)(ty:TypeId)(w:World):(Builtin.append_ #[91,91] ty #[.slice (some ⟨g,0,none⟩) 0 0,.slice a 0 c]).run Tryz.prog w=.ok (.slice (some ⟨g,0,none⟩) 0 0) w:=by
 cases a <;> kernel_rfl
theorem Tryz.infoNd:(Tryz.prog.info? 100).map (fun i=>(i.zero,i.size,i.bytes))=some (some (.pointer none),1,8):=by kernel_rfl
theorem yEn(p:Addr)(m c:Nat)(l:List Nat)(w:World)(hm:m=l.length)(hc:∀ (j:Nat) u,(zDr l)[j]?=some u->w.cell? (p.add j)=some u)(hl:l.length<=1000)(h1:∀ d∈l,∀ u∈zIg d,u.oneCell'=true) :
  Calls Tryz.prog 110 #[.slice (some p) m c] w fun e w'=>∃ g cap,e=.returned (.slice (some ⟨g,0,none⟩) m cap)/\w'.ownsRow w.heap.size 100 1 (.slice (some ⟨g,0,none⟩) m cap) m (zDr l)/\Mod zAb w w':=by
 obtain ⟨i0,hi,hz0,hz1,hz2⟩:=info_parts Tryz.infoNd
 have h63:m<=maxLen:=by unfold maxLen;omega
 have h47:m*8<=140737488355328:=by omega
 have HLC:Hid ((zDr l).length=m*1):=by rw [hm];exact zIm l
 have HFL:Hid (m=0\/∃ q,some p=some q/\∀ (j:Nat) u,(zDr l)[j]?=some u->w.cell? (q.add j)=some u):=.inr ⟨p,rfl,hc⟩
 have HON:=Hmq (yLb l h1)
 have hen:=run_eql_slice_nil (P:=Tryz.prog) w 91 100 (some p) m c 0 0 Tryz.underlying91
 clear hc hm h1
 go_enter Tryz.func110,Tryz.ntmps110
 go_wp2_with (first
  | (at_builtin;(refine zKt (w0:=w) rfl _ _ 91 rfl 100 i0 _ 1 8 Tryz.underlying91 hi hz0 hz1 hz2 rfl (by omega) zUh rfl (some p) m c (zDr l) rfl HLC.out HFL.out HON.out h63 h47 ?_))
  | fail)
 intro g cap w2 hrow hm2
 go_wp2_with fail
 go_ret
 exact ⟨g,cap,rfl,hrow,hm2⟩
def zDs(d:zAz):List Value:=[.string d.key,.string d.val,.bool d.gone]
def zBp(ds:List zAz):List Value:=ds.flatMap zDs
theorem zFp:∀ ds,(zBp ds).length=ds.length*3
 | []=>rfl
 | d :: ds=>by
  have ih:=zFp ds
  unfold zBp at ih ⊢
  rw [List.flatMap_cons,List.length_append,ih];simp [zDs];omega
theorem zLc(a b:List zAz):zBp (a++b)=zBp a++zBp b:=by simp [zBp]
theorem zGh(d:zAz)(b:List zAz):zBp (d :: b)=zDs d++zBp b:=by simp [zBp]
theorem yLa(ds:List zAz)(hu:∀ d∈ds,∀ u∈zDs d,u.oneCell'=true):∀ u∈zBp ds,u.oneCell'=true:=by
 intro u h
 obtain ⟨d,hd,hd2⟩:=List.mem_flatMap.1 h
 exact hu d hd u hd2
theorem zVa:∀ (os:List zAz) (i:Nat) (o:zAz),os[i]?=some o->∀ j x,(zDs o)[j]?=some x->(zBp os)[i*3+j]?=some x
 | [],i,o,h,_,_,_=>by simp at h
 | p :: os,0,o,h,j,x,hx=>by
  simp at h
  subst h
  have hj:j<(zDs p).length:=(List.getElem?_eq_some_iff.1 hx).1
  rw [zGh,Nat.zero_mul,Nat.zero_add,List.getElem?_append_left hj]
  exact hx
 | p :: os,i+1,o,h,j,x,hx=>by
  have ih:=zVa os i o (by simpa using h) j x hx
  have hl:(zDs p).length=3:=rfl
  rw [zGh,List.getElem?_append_right (by omega),hl,show (i+1)*3+j - 3=i*3+j by omega]
  exact ih
theorem yAc{w:World}{B:Nat}{v:Value}{ds:List zAz}(h:w.ownsRow B 65 3 v ds.length (zBp ds)):SlR w w.heap.size 3 zXn v ds:=by
 obtain ⟨h1,h2⟩:=h
 rcases h2 with ⟨rfl,hn⟩ | ⟨g,cap,cur,rfl,q1,q2,q3,q4,q5,q6⟩
 ·have:ds=[]:=List.eq_nil_of_length_eq_zero hn
  subst this
  exact SlR.nil _ _ _ _
 ·have hc:w.ownsRow B 65 3 (.slice (some ⟨g,0,none⟩) ds.length cap) ds.length (zBp ds):=⟨h1,.inr ⟨g,cap,cur,rfl,q1,q2,q3,q4,q5,q6⟩⟩
  have hcl:=hc.cells (g:=g) rfl
  have hgl:g<w.heap.size:=(Array.getElem?_eq_some_iff.1 q2).1
  refine ⟨_,cap,rfl,q3,q4,.inr ⟨g,0,rfl,by omega,fun i o hi=>⟨zDs o,rfl,rfl,fun j x hx=>?_⟩⟩⟩
  have:=hcl _ _ (zVa ds i o hi j x hx)
  rw [Go.WideShapes.add_plain,Nat.zero_add] at this
  rw [Nat.zero_add]
  exact this
def yCo:Array Value:=#[.string ⟨#[]⟩,.string ⟨#[]⟩,.bool false]
def zHa(n:Nat):List Value:=(Builtin.zeroCells yCo n).toList
theorem zNb(n:Nat):(zHa n).length=n*3:=by rw [zHa,Array.length_toList,size_zeroCells];rfl
theorem yCm(n:Nat):∀ v∈zHa n,v.oneCell'=true:=by
 intro v hv
 simp only [zHa,Builtin.zeroCells,Array.toList_map,List.mem_map] at hv
 obtain ⟨i,_,rfl⟩:=hv
 have h9:∀ j,j<3->(yCo[j]!).oneCell'=true:=by
  intro j hj
  match j,hj with
  | 0,_=>rfl
  | 1,_=>rfl
  | 2,_=>rfl
 exact h9 _ (Nat.mod_lt _ (by decide))
theorem ySf(w:World):(zeroValue 65).run Tryz.prog w=.ok (.agg #[.string ⟨#[]⟩,.string ⟨#[]⟩,.bool false]) w:=by kernel_rfl
theorem yDd(w:World)(ty:TypeId)(b o n c:Nat)(hn:0<n)(hc:∀ j,j<n*3->(w.cell? ⟨b,o+j,none⟩).isSome=true)(hf:∀ j,j<n*3->w.frozen? ⟨b,o+j,none⟩=false) :
  (Builtin.clear_ #[95] ty #[.slice (some ⟨b,o,none⟩) n c]).run Tryz.prog w=.ok (.tuple #[]) (w.setCells b o (zHa n)):=by
 have hst:=run_storeCells_cells (P:=Tryz.prog) b o (zHa n) 0 w (by simpa [zNb] using hc) (by simpa [zNb] using hf) (yCm n)
 simp only [Nat.add_zero] at hst
 obtain ⟨m,rfl⟩:∃ m,n=m+1:=⟨n - 1,by omega⟩
 have hz:=ySf
 have e:(Value.cells (.agg #[.string ⟨#[]⟩,.string ⟨#[]⟩,.bool false]))=yCo:=rfl
 simp only [zHa] at hst ⊢
 simp [Builtin.clear_,run_underlying Tryz.underlying95,hz,e,hst]
theorem zTw{w:World}{ops:Array Oper}{rest:List Oper}{o:Oper}{a:Act}{Q:Exit->Act->World->Prop}(hgd:o.guard=none)(s:Operand)
  (ho:o.op=.call { callee:=.builtin .clear,args:=#[s],argTypes:=#[95] }) (b off n c:Nat) (hs:a.eval s=.slice (some ⟨b,off,none⟩) n c) (hn:0<n)
  (hc:∀ j,j<n*3->(w.cell? ⟨b,off+j,none⟩).isSome=true) (hf:∀ j,j<n*3->w.frozen? ⟨b,off+j,none⟩=false)
  (h:wpList Tryz.prog ops Q rest (a.put o.dst (.tuple #[])) (w.setCells b off (zHa n))):wpList Tryz.prog ops Q (o :: rest) a w:=by
 refine wpList_plain hgd fun K hK=>?_
 have hr:=yDd w o.type b off n c hn hc hf
 unfold Oper.wp execOp
 simp only [ho,resolve,invoke,builtin,Sem.run_bind,Sem.run_pure,Result.andThen_ok,List.map_toArray,List.map_cons,List.map_nil,hs,hr]
 exact hK _ _ h
def zMs(w wr:World)(b:Nat)(p:zAz->Bool)(ms:List zAz)(R:List Value)(i j:Nat):Prop:=
 ∃ mid:List Value,i=(zCu p (ms.take j)).length/\mid.length=(j - i)*3/\i<j/\j<=ms.length /\
  Blk wr b (zBp (zCu p (ms.take j))++mid++(zBp (ms.drop j)++R)) 65/\Mod (zAd b) w wr
theorem zMs.start{w wr:World}{b k0:Nat}{p:zAz->Bool}{ms:List zAz}{R:List Value}(hk:k0<ms.length)(hkt:zCu p (ms.take (k0+1))=ms.take k0)(hB:Blk w b (zBp ms++R) 65)(hm:Mod zAb w wr):zMs w wr b p ms R k0 (k0+1):=by
 obtain ⟨m,hm0⟩:∃ m,ms[k0]?=some m:=⟨_,List.getElem?_eq_getElem hk⟩
 have hms:ms=ms.take k0++m :: ms.drop (k0+1):=by
  rw [<-zCl hm0,List.take_append_drop]
 refine ⟨zDs m,by rw [hkt,List.length_take];omega,by simp [zDs],by omega,by omega,?_,hm.mono (fun _ _ e=>e.elim)⟩
 rw [hkt]
 have:=hB.mod hm id
 have e:zBp ms=zBp (ms.take k0)++(zDs m++zBp (ms.drop (k0+1))):=by
  conv=>lhs;rw [hms]
  rw [zLc,zGh]
 rw [e] at this
 simpa [List.append_assoc] using this
theorem zMs.look{w wr:World}{b i j:Nat}{p:zAz->Bool}{ms:List zAz}{R:List Value}(h:zMs w wr b p ms R i j){m:zAz}(hm:ms[j]?=some m) :
  ∀ n x,(zDs m)[n]?=some x->wr.cell? ⟨b,j*3+n,none⟩=some x:=by
 obtain ⟨mid,h1,h3,h4,h5,h6,h8⟩:=h
 intro n x hx
 have hn:n<3:=(List.getElem?_eq_some_iff.1 hx).1
 refine h6.cell _ ?_
 rw [zCl hm,zGh]
 have l1:=zFp (zCu p (ms.take j))
 rw [List.getElem?_append_right (by rw [List.length_append];omega),List.length_append,l1,h3,<-h1]
 rw [show j*3+n - (i*3+(j - i)*3)=n by omega,List.append_assoc,List.getElem?_append_left hn]
 exact hx
theorem zMs.skip{w wr wr':World}{b i j:Nat}{p:zAz->Bool}{ms:List zAz}{R:List Value}(h:zMs w wr b p ms R i j){m:zAz}(hm:ms[j]?=some m)(hs:p m=true)(hmd:Mod zAb wr wr') :
  zMs w wr' b p ms R i (j+1):=by
 obtain ⟨mid,h1,h3,h4,h5,h6,h8⟩:=h
 have hj:j<ms.length:=(List.getElem?_eq_some_iff.1 hm).1
 have e:zCu p (ms.take (j+1))=zCu p (ms.take j):=by rw [zBt hm,zMi,if_pos hs]
 refine ⟨mid++zDs m,by rw [e];exact h1,by rw [List.length_append,h3];simp [zDs];omega,by omega,by omega,?_,h8.trans (hmd.mono (fun _ _ e=>e.elim))⟩
 rw [e]
 have:=h6.mod hmd id
 rw [zCl hm,zGh] at this
 simpa [List.append_assoc] using this
theorem zMs.keep{w wr wr':World}{b i j:Nat}{p:zAz->Bool}{ms:List zAz}{R:List Value}(h:zMs w wr b p ms R i j){m:zAz}(hm:ms[j]?=some m)(hs:p m=false)(hmd:Mod zAb wr wr') :
  zMs w (wr'.setCells b (i*3) (zDs m)) b p ms R (i+1) (j+1):=by
 obtain ⟨mid,h1,h3,h4,h5,h6,h8⟩:=h
 have hj:j<ms.length:=(List.getElem?_eq_some_iff.1 hm).1
 have e:zCu p (ms.take (j+1))=zCu p (ms.take j)++[m]:=by rw [zBt hm,zMi,if_neg (by simp [hs])]
 have l1:=zFp (zCu p (ms.take j))
 have e1:zBp [m]=zDs m:=by simp [zBp]
 refine ⟨mid.drop 3++zDs m,by rw [e,List.length_append,<-h1];rfl,by rw [List.length_append,List.length_drop,h3];simp [zDs];omega,by omega,by omega,?_,(h8.trans (hmd.mono (fun _ _ e=>e.elim))).trans (Mod.midQ _ _ _)⟩
 rw [e,zLc,e1]
 have h9:=h6.mod hmd id
 rw [zCl hm,zGh] at h9
 have:=Blk.midQ (g:=b) (t:=65) (zDs m) wr' (zBp (zCu p (ms.take j))) (mid.take 3) (mid.drop 3++(zDs m++zBp (ms.drop (j+1))++R)) (by
  rw [zPp];exact h9) (by rw [List.length_take,h3];simp [zDs];omega)
 rw [l1,<-h1] at this
 simpa [List.append_assoc] using this
theorem zMs.room{w wr:World}{b i j:Nat}{p:zAz->Bool}{ms:List zAz}{R:List Value}(h:zMs w wr b p ms R i j):i<j/\j<=ms.length/\Mod (zAd b) w wr /\
  (∀ n,n<(j - i)*3->(wr.cell? ⟨b,i*3+n,none⟩).isSome=true)/\∀ n,wr.frozen? ⟨b,n,none⟩=false:=by
 obtain ⟨mid,h1,h3,h4,h5,h6,h8⟩:=h
 have l1:=zFp (zCu p (ms.take j))
 refine ⟨h4,h5,h8,fun n hn=>?_,fun n=>h6.frozen n⟩
 obtain ⟨x,hx⟩:∃ x,(zBp (zCu p (ms.take j))++mid++(zBp (ms.drop j)++R))[i*3+n]?=some x:=⟨_,List.getElem?_eq_getElem (by simp only [List.length_append];omega)⟩
 rw [show wr.cell? ⟨b,i*3+n,none⟩=some x from h6.cell _ hx];rfl
theorem zMs.done{w wr:World}{B b i cap:Nat}{p:zAz->Bool}{ms:List zAz}{R:List Value}(h:zMs w wr b p ms R i ms.length)(hBb:B<=b)(hcap:ms.length<=cap)(hcm:cap<=maxLen)(lR:ms.length*3+R.length=cap*3) :
  (wr.setCells b (i*3) (zHa (ms.length - i))).ownsRow B 65 3 (.slice (some ⟨b,0,none⟩) i cap) (zCu p ms).length (zBp (zCu p ms))/\Mod (zAd b) w (wr.setCells b (i*3) (zHa (ms.length - i))):=by
 obtain ⟨mid,h1,h3,h4,h5,h6,h8⟩:=h
 rw [List.take_length] at h1 h6
 have l1:=zFp (zCu p ms)
 have l2:=zNb (ms.length - i)
 have hM:=h8.trans (Mod.midQ (zHa (ms.length - i)) (i*3) wr)
 have e0:zBp (ms.drop ms.length)=[]:=by rw [List.drop_length];rfl
 rw [e0,List.nil_append] at h6
 have hB:=Blk.midQ (g:=b) (t:=65) (zHa (ms.length - i)) wr (zBp (zCu p ms)) mid R h6 (by omega)
 rw [l1,<-h1] at hB
 refine ⟨⟨by omega,.inr ⟨b,cap,(zBp (zCu p ms)++zHa (ms.length - i)++R).toArray,by rw [<-h1],hBb,hB,by omega,hcm,?_,?_⟩⟩,hM⟩
 ·simp only [List.size_toArray,List.length_append];omega
 ·rw [<-l1,List.append_assoc,List.take_left]
theorem yBv(f B:Nat)(caps:Array Value)(p:zAz->Bool)(v:Value)(ms:List zAz)(w:World)(C:World->Prop)(hR:w.ownsRow B 65 3 v ms.length (zBp ms))(hA:AskG f caps (fun d=>.agg #[.string d.key,.string d.val,.bool d.gone]) ms p C)(hC:C w)(hCb:∀ b,v.ownBlock=some b->∀ w',Mod (zAd b) w w'->C w')(hf:ms.length<=1000) :
  Calls Tryz.prog 242 #[v,.func (.func f) #[] caps] w fun e w'=>∃ v',e=.returned v'/\w'.ownsRow B 65 3 v' (zCu p ms).length (zBp (zCu p ms))/\v'.ownBlock=v.ownBlock/\Mod (fun x=>v.ownBlock=some x) w w':=by
 have HIX:=Hmq (zSo f w.heap.size caps p v ms w C (yAc hR) hA hC (by omega))
 cases hfi:ms.findIdx? p with
 | none=>
  rw [hfi] at HIX
  have HK:=Hmq (zSn p ms hfi)
  have HR:=Hmq hR
  obtain ⟨a,cap,rfl⟩:=zAg hR
  clear hR hA
  go_enter Tryz.func242,Tryz.ntmps242
  go_wp2_with fail
  refine HIX.out.mono ?_
  rintro e w1 ⟨rfl,hm1⟩
  simp only [idxI]
  go_wp2_with fail
  go_ret
  exact ⟨_,rfl,by rw [HK.out];exact zAn HR.out hm1 (fun _ _ _ _=>id),rfl,hm1.mono (fun _ _ e=>e.elim)⟩
 | some k0=>
  rw [hfi] at HIX
  obtain ⟨hk0,hkt⟩:=zPs p ms k0 hfi
  rcases hR.2 with ⟨_,h0⟩ | ⟨b,cap,cur,rfl,hLg,hg,hcap,hcm,hcs,htk⟩
  ·omega
  unfold maxLen at hcm
  obtain ⟨R,hRR⟩:∃ R,cur.toList=zBp ms++R:=by
   refine ⟨cur.toList.drop (ms.length*3),?_⟩
   rw [<-htk,List.take_append_drop]
  have lA:=zFp ms
  have hB0:Blk w b (zBp ms++R) 65:=by rw [Blk,<-hRR];exact hg
  have lR:ms.length*3+R.length=cap*3:=by
   have:(zBp ms++R).length=cap*3:=by rw [<-hRR];simpa using hcs
   rw [List.length_append,lA] at this;exact this
  have HB0:=Hmq hB0
  have HKT:=Hmq hkt
  have HA:=Hmq hA
  have HCB:=Hmq (hCb b rfl)
  have hen:=hA.enter
  clear hB0 hRR hg hcs htk hR hkt hfi lA hA hC hCb
  go_enter Tryz.func242,Tryz.ntmps242
  go_wp2_with fail
  refine HIX.out.mono ?_
  rintro e w1 ⟨rfl,hm1⟩
  simp only [idxI]
  have hne:((k0:Int) == -1)=false:=by rw [beq_eq_false_iff_ne];omega
  go_wp2_with fail
  go_loopw [5,6] (fun x y wr=>∃ i j:Nat,x=.int .i64 i/\y=.int .i64 j/\zMs w wr b p ms R i j) (fun _ y _=>ms.length - (intOf y).toNat)
  case atStart=>exact ⟨k0,k0+1,rfl,by go_num,zMs.start hk0 HKT.out HB0.out hm1⟩
  case round=>
   obtain ⟨i,j,rfl,rfl,hI⟩:=hrel
   obtain ⟨hij,hjn,hMr,hcell,hfro⟩:=hI.room
   by_cases hlt:j<ms.length
   ·obtain ⟨m,hm⟩:∃ m,ms[j]?=some m:=⟨_,List.getElem?_eq_getElem hlt⟩
    have hlk:=hI.look hm
    have q0:=hlk 0 _ rfl
    have q1:=hlk 1 _ rfl
    have q2:=hlk 2 _ rfl
    simp only [Nat.add_zero] at q0
    have hCr:=HCB.out wr hMr
    have HC:=Hmq (HA.out.ask m (List.mem_of_getElem? hm) (wr.alloc (.cells #[.string m.key,.string m.val,.bool m.gone] 65)) (HA.out.keep _ _ hCr ((Mod.refl zAb wr).alloc _)))
    have HI:=Hmq hI
    have HMM:=Hmq hm
    have HCE:=Hmq hcell
    have HFR:=Hmq hfro
    have hB1:=Blk.new wr (zDs m) 65
    have hbz:b<wr.heap.size:=World.block_lt_of_cell? wr _ q0
    clear hI hm hlk hcell hfro hCr
    go_wp2_with fail
    refine HC.out.mono ?_
    rintro e w5 ⟨rfl,hm5⟩
    have hB5:Blk w5 wr.heap.size (zDs m) 65:=hB1.mod hm5 id
    have hmr5:=((Mod.refl zAb wr).alloc (.cells #[.string m.key,.string m.val,.bool m.gone] 65)).trans hm5
    clear HC q0 q1 q2 hB1
    have p0:=hB5.cell 0 rfl
    have p1:=hB5.cell 1 rfl
    have p2:=hB5.cell 2 rfl
    cases hs:p m with
    | true=>
     have HN:=Hmq (HI.out.skip HMM.out hs hmr5)
     go_wp2_with fail
     go_roundw
     case rel=>exact ⟨i,j+1,rfl,by go_num,HN.out⟩
     case measure=>simp [intOf];omega
    | false=>
     have HN:=Hmq (HI.out.keep HMM.out hs hmr5)
     have hex:∀ c,c<3->∃ y,w5.cell? ⟨b,i*3+c,none⟩=some y:=fun c hc=>by
      obtain ⟨y,hy⟩:=Option.isSome_iff_exists.1 (HCE.out c (by omega))
      exact ⟨y,hmr5.cell hy id⟩
     have hfz:∀ c,w5.frozen? ⟨b,c,none⟩=false:=fun c=>(hmr5.frozen (p:=⟨b,c,none⟩) hbz id).trans (HFR.out c)
     obtain ⟨y0,hy0⟩:=hex 0 (by omega)
     obtain ⟨y1,hy1⟩:=hex 1 (by omega)
     obtain ⟨y2,hy2⟩:=hex 2 (by omega)
     have f0:=hfz (i*3+0)
     have f1:=hfz (i*3+1)
     have f2:=hfz (i*3+2)
     simp only [Nat.add_zero] at hy0 f0
     have hbn:b≠wr.heap.size:=by omega
     clear hex hfz
     go_wp2_with fail
     go_roundw
     case rel=>exact ⟨i+1,j+1,by go_num,by go_num,by simpa [World.setCells,zDs,Nat.add_assoc] using HN.out⟩
     case measure=>simp [intOf];omega
   ·obtain rfl:j=ms.length:=by omega
    have hdn:=hI.done (B:=B) (cap:=cap) hLg hcap (by unfold maxLen;omega) lR
    have hb3:¬ cap=i:=by omega
    have hb4:i<=cap:=by omega
    have HDN:=Hmq hdn
    have HCE:Hid (∀ n,n<(ms.length - i)*3->(wr.cell? ⟨b,i*3+n,none⟩).isSome=true):=fun n hn=>hcell n (by omega)
    have HFR:Hid (∀ n,n<(ms.length - i)*3->wr.frozen? ⟨b,i*3+n,none⟩=false):=fun n _=>hfro _
    clear hdn
    clear hI hcell hfro
    go_wp2_with (first
     | (refine zTw rfl _ rfl b (i*3) (ms.length - i) _ rfl (by omega) HCE.out HFR.out ?_)
     | fail)
    go_ret
    exact ⟨_,rfl,HDN.out.1,rfl,HDN.out.2.mono (fun x _ e=>by simp only [zAd] at e;rw [e];rfl)⟩
theorem zUg(g:Nat)(a:Option Addr)(c:Nat)(ty:TypeId)(w:World):(Builtin.append_ #[95,95] ty #[.slice (some ⟨g,0,none⟩) 0 0,.slice a 0 c]).run Tryz.prog w=.ok (.slice (some ⟨g,0,none⟩) 0 0) w:=by
 cases a <;> kernel_rfl
theorem Tryz.infoPr:(Tryz.prog.info? 65).map (fun i=>(i.zero,i.size,i.bytes))=some (some (.agg #[.string ⟨#[]⟩,.string ⟨#[]⟩,.bool false]),3,40):=by kernel_rfl
theorem yEm(p:Addr)(m c:Nat)(l:List zAz)(w:World)(hm:m=l.length)(hc:∀ (j:Nat) u,(zBp l)[j]?=some u->w.cell? (p.add j)=some u)(hl:l.length<=1000)(h1:∀ d∈l,∀ u∈zDs d,u.oneCell'=true) :
  Calls Tryz.prog 243 #[.slice (some p) m c] w fun e w'=>∃ g cap,e=.returned (.slice (some ⟨g,0,none⟩) m cap)/\w'.ownsRow w.heap.size 65 3 (.slice (some ⟨g,0,none⟩) m cap) m (zBp l)/\Mod zAb w w':=by
 obtain ⟨i0,hi,hz0,hz1,hz2⟩:=info_parts Tryz.infoPr
 have h63:m<=maxLen:=by unfold maxLen;omega
 have h47:m*40<=140737488355328:=by omega
 have HLC:Hid ((zBp l).length=m*3):=by rw [hm];exact zFp l
 have HFL:Hid (m=0\/∃ q,some p=some q/\∀ (j:Nat) u,(zBp l)[j]?=some u->w.cell? (q.add j)=some u):=.inr ⟨p,rfl,hc⟩
 have HON:=Hmq (yLa l h1)
 have hen:=run_eql_slice_nil (P:=Tryz.prog) w 95 65 (some p) m c 0 0 Tryz.underlying95
 clear hc hm h1
 go_enter Tryz.func243,Tryz.ntmps243
 go_wp2_with (first
  | (at_builtin;(refine zKt (w0:=w) rfl _ _ 95 rfl 65 i0 _ 3 40 Tryz.underlying95 hi hz0 hz1 hz2 rfl (by omega) zUg rfl (some p) m c (zBp l) rfl HLC.out HFL.out HON.out h63 h47 ?_))
  | fail)
 intro g cap w2 hrow hm2
 go_wp2_with fail
 go_ret
 exact ⟨g,cap,rfl,hrow,hm2⟩
theorem yEl(w:World):Calls Tryz.prog 243 #[.slice none 0 0] w fun e w'=>e=.returned (.slice none 0 0)/\w'=w:=by
 have hen:=run_eql_slice_nil (P:=Tryz.prog) w 95 65 none 0 0 0 0 Tryz.underlying95
 go_enter Tryz.func243,Tryz.ntmps243
 go_wp2_with fail
 go_ret
 exact ⟨rfl,rfl⟩
end Go.Proofs.YtogaigioeohjaaaGreatDoor
