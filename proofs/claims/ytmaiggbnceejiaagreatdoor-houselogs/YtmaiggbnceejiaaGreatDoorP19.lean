import Derived.Test.YtmaiggbnceejiaaGreatDoorP18
import Derived.Lib.SliceRun
set_option linter.unusedVariables false
set_option maxRecDepth 100000
set_option maxHeartbeats 16000000
namespace Go.Proofs.YtmaiggbnceejiaaGreatDoor
open Go.RowKit Go.Lib Go.Maps
def zCo{α:Type}(p:α->Bool)(ms:List α):List α:=ms.filter (fun m=>!p m)
theorem zMl{α:Type}(p:α->Bool)(ms:List α)(m:α):zCo p (ms++[m])=if p m then zCo p ms else zCo p ms++[m]:=by
 unfold zCo;rw [List.filter_append]
 cases h:p m <;> simp [h]
theorem zSi{α:Type}(p:α->Bool):∀ ms:List α,ms.findIdx? p=none->zCo p ms=ms
 | [],_=>rfl
 | m :: ms,h=>by
  rw [List.findIdx?_cons] at h
  split at h
  ·cases h
  ·rename_i hs
   have hs':p m=false:=by simpa using hs
   have:=zSi p ms (by simpa using h)
   unfold zCo at this ⊢
   rw [List.filter_cons,if_pos (by simp [hs']),this]
theorem zPv{α:Type}(p:α->Bool):∀ (ms:List α) k,ms.findIdx? p=some k->k<ms.length/\zCo p (ms.take (k+1))=ms.take k
 | [],_,h=>by simp at h
 | m :: ms,k,h=>by
  rw [List.findIdx?_cons] at h
  split at h
  ·rename_i hs
   simp at h;subst h
   refine ⟨by simp,?_⟩
   simp [zCo,hs]
  ·rename_i hs
   have hs':p m=false:=by simpa using hs
   obtain ⟨k',hk',rfl⟩:=Option.map_eq_some_iff.1 h
   obtain ⟨h1,h2⟩:=zPv p ms k' hk'
   refine ⟨by simp;omega,?_⟩
   unfold zCo at h2 ⊢
   rw [List.take_succ_cons,List.filter_cons,if_pos (by simp [hs']),h2,List.take_succ_cons]
def zHz(d:Nat):List Value:=[.pointer (some ⟨d,0,none⟩)]
def zDo(ds:List Nat):List Value:=ds.flatMap zHz
theorem zIj:∀ ds,(zDo ds).length=ds.length*1
 | []=>rfl
 | d :: ds=>by
  have ih:=zIj ds
  unfold zDo at ih ⊢
  rw [List.flatMap_cons,List.length_append,ih];simp [zHz];omega
theorem zZa(a b:List Nat):zDo (a++b)=zDo a++zDo b:=by simp [zDo]
theorem zGw(d:Nat)(b:List Nat):zDo (d :: b)=zHz d++zDo b:=by simp [zDo]
theorem yJj(ds:List Nat)(hu:∀ d∈ds,∀ u∈zHz d,u.oneCell'=true):∀ u∈zDo ds,u.oneCell'=true:=by
 intro u h
 obtain ⟨d,hd,hd2⟩:=List.mem_flatMap.1 h
 exact hu d hd u hd2
theorem zUu:∀ (os:List Nat) (i:Nat) (o:Nat),os[i]?=some o->∀ j x,(zHz o)[j]?=some x->(zDo os)[i*1+j]?=some x
 | [],i,o,h,_,_,_=>by simp at h
 | p :: os,0,o,h,j,x,hx=>by
  simp at h
  subst h
  have hj:j<(zHz p).length:=(List.getElem?_eq_some_iff.1 hx).1
  rw [zGw,Nat.zero_mul,Nat.zero_add,List.getElem?_append_left hj]
  exact hx
 | p :: os,i+1,o,h,j,x,hx=>by
  have ih:=zUu os i o (by simpa using h) j x hx
  have hl:(zHz p).length=1:=rfl
  rw [zGw,List.getElem?_append_right (by omega),hl,show (i+1)*1+j - 1=i*1+j by omega]
  exact ih
theorem zRx{w:World}{B:Nat}{v:Value}{ds:List Nat}(h:w.ownsRow B 91 1 v ds.length (zDo ds)):SlR w w.heap.size 1 yNb v ds:=by
 obtain ⟨h1,h2⟩:=h
 rcases h2 with ⟨rfl,hn⟩ | ⟨g,cap,cur,rfl,q1,q2,q3,q4,q5,q6⟩
 ·have:ds=[]:=List.eq_nil_of_length_eq_zero hn
  subst this
  exact SlR.nil _ _ _ _
 ·have hc:w.ownsRow B 91 1 (.slice (some ⟨g,0,none⟩) ds.length cap) ds.length (zDo ds):=⟨h1,.inr ⟨g,cap,cur,rfl,q1,q2,q3,q4,q5,q6⟩⟩
  have hcl:=hc.cells (g:=g) rfl
  have hgl:g<w.heap.size:=(Array.getElem?_eq_some_iff.1 q2).1
  refine ⟨_,cap,rfl,q3,q4,.inr ⟨g,0,rfl,by omega,fun i o hi=>⟨zHz o,rfl,rfl,fun j x hx=>?_⟩⟩⟩
  have:=hcl _ _ (zUu ds i o hi j x hx)
  rw [Go.WideShapes.add_plain,Nat.zero_add] at this
  rw [Nat.zero_add]
  exact this
def yBq:Array Value:=#[.pointer none]
def zGr(n:Nat):List Value:=(Builtin.zeroCells yBq n).toList
theorem zNh(n:Nat):(zGr n).length=n*1:=by rw [zGr,Array.length_toList,size_zeroCells];rfl
theorem yBo(n:Nat):∀ v∈zGr n,v.oneCell'=true:=by
 intro v hv
 simp only [zGr,Builtin.zeroCells,Array.toList_map,List.mem_map] at hv
 obtain ⟨i,_,rfl⟩:=hv
 have h9:∀ j,j<1->(yBq[j]!).oneCell'=true:=by
  intro j hj
  match j,hj with
  | 0,_=>rfl
 exact h9 _ (Nat.mod_lt _ (by decide))
theorem yPs(w:World):(zeroValue 91).run Tryz.prog w=.ok (.pointer none) w:=by kernel_rfl
theorem yCh(w:World)(ty:TypeId)(b o n c:Nat)(hn:0<n)(hc:∀ j,j<n*1->(w.cell? ⟨b,o+j,none⟩).isSome=true)(hf:∀ j,j<n*1->w.frozen? ⟨b,o+j,none⟩=false) :
  (Builtin.clear_ #[99] ty #[.slice (some ⟨b,o,none⟩) n c]).run Tryz.prog w=.ok (.tuple #[]) (w.setCells b o (zGr n)):=by
 have hst:=run_storeCells_cells (P:=Tryz.prog) b o (zGr n) 0 w (by simpa [zNh] using hc) (by simpa [zNh] using hf) (yBo n)
 simp only [Nat.add_zero] at hst
 obtain ⟨m,rfl⟩:∃ m,n=m+1:=⟨n - 1,by omega⟩
 have hz:=yPs
 have e:(Value.cells (.pointer none))=yBq:=rfl
 simp only [zGr] at hst ⊢
 simp [Builtin.clear_,run_underlying Tryz.underlying99,hz,e,hst]
theorem zTt{w:World}{ops:Array Oper}{rest:List Oper}{o:Oper}{a:Act}{Q:Exit->Act->World->Prop}(hgd:o.guard=none)(s:Operand)
  (ho:o.op=.call { callee:=.builtin .clear,args:=#[s],argTypes:=#[99] }) (b off n c:Nat) (hs:a.eval s=.slice (some ⟨b,off,none⟩) n c) (hn:0<n)
  (hc:∀ j,j<n*1->(w.cell? ⟨b,off+j,none⟩).isSome=true) (hf:∀ j,j<n*1->w.frozen? ⟨b,off+j,none⟩=false)
  (h:wpList Tryz.prog ops Q rest (a.put o.dst (.tuple #[])) (w.setCells b off (zGr n))):wpList Tryz.prog ops Q (o :: rest) a w:=by
 refine wpList_plain hgd fun K hK=>?_
 have hr:=yCh w o.type b off n c hn hc hf
 unfold Oper.wp execOp
 simp only [ho,resolve,invoke,builtin,Sem.run_bind,Sem.run_pure,Result.andThen_ok,List.map_toArray,List.map_cons,List.map_nil,hs,hr]
 exact hK _ _ h
def zMw(w wr:World)(b:Nat)(p:Nat->Bool)(ms:List Nat)(R:List Value)(i j:Nat):Prop:=
 ∃ mid:List Value,i=(zCo p (ms.take j)).length/\mid.length=(j - i)*1/\i<j/\j<=ms.length /\
  Blk wr b (zDo (zCo p (ms.take j))++mid++(zDo (ms.drop j)++R)) 91/\Mod (zAc b) w wr
theorem zMw.start{w wr:World}{b k0:Nat}{p:Nat->Bool}{ms:List Nat}{R:List Value}(hk:k0<ms.length)(hkt:zCo p (ms.take (k0+1))=ms.take k0)(hB:Blk w b (zDo ms++R) 91)(hm:Mod zAb w wr):zMw w wr b p ms R k0 (k0+1):=by
 obtain ⟨m,hm0⟩:∃ m,ms[k0]?=some m:=⟨_,List.getElem?_eq_getElem hk⟩
 have hms:ms=ms.take k0++m :: ms.drop (k0+1):=by
  rw [<-zBt hm0,List.take_append_drop]
 refine ⟨zHz m,by rw [hkt,List.length_take];omega,by simp [zHz],by omega,by omega,?_,hm.mono (fun _ _ e=>e.elim)⟩
 rw [hkt]
 have:=hB.mod hm id
 have e:zDo ms=zDo (ms.take k0)++(zHz m++zDo (ms.drop (k0+1))):=by
  conv=>lhs;rw [hms]
  rw [zZa,zGw]
 rw [e] at this
 simpa [List.append_assoc] using this
theorem zMw.look{w wr:World}{b i j:Nat}{p:Nat->Bool}{ms:List Nat}{R:List Value}(h:zMw w wr b p ms R i j){m:Nat}(hm:ms[j]?=some m) :
  ∀ n x,(zHz m)[n]?=some x->wr.cell? ⟨b,j*1+n,none⟩=some x:=by
 obtain ⟨mid,h1,h3,h4,h5,h6,h8⟩:=h
 intro n x hx
 have hn:n<1:=(List.getElem?_eq_some_iff.1 hx).1
 refine h6.cell _ ?_
 rw [zBt hm,zGw]
 have l1:=zIj (zCo p (ms.take j))
 rw [List.getElem?_append_right (by rw [List.length_append];omega),List.length_append,l1,h3,<-h1]
 rw [show j*1+n - (i*1+(j - i)*1)=n by omega,List.append_assoc,List.getElem?_append_left hn]
 exact hx
theorem zMw.skip{w wr wr':World}{b i j:Nat}{p:Nat->Bool}{ms:List Nat}{R:List Value}(h:zMw w wr b p ms R i j){m:Nat}(hm:ms[j]?=some m)(hs:p m=true)(hmd:Mod zAb wr wr') :
  zMw w wr' b p ms R i (j+1):=by
 obtain ⟨mid,h1,h3,h4,h5,h6,h8⟩:=h
 have hj:j<ms.length:=(List.getElem?_eq_some_iff.1 hm).1
 have e:zCo p (ms.take (j+1))=zCo p (ms.take j):=by rw [zBn hm,zMl,if_pos hs]
 refine ⟨mid++zHz m,by rw [e];exact h1,by rw [List.length_append,h3];simp [zHz];omega,by omega,by omega,?_,h8.trans (hmd.mono (fun _ _ e=>e.elim))⟩
 rw [e]
 have:=h6.mod hmd id
 rw [zBt hm,zGw] at this
 simpa [List.append_assoc] using this
theorem zMw.keep{w wr wr':World}{b i j:Nat}{p:Nat->Bool}{ms:List Nat}{R:List Value}(h:zMw w wr b p ms R i j){m:Nat}(hm:ms[j]?=some m)(hs:p m=false)(hmd:Mod zAb wr wr') :
  zMw w (wr'.setCells b (i*1) (zHz m)) b p ms R (i+1) (j+1):=by
 obtain ⟨mid,h1,h3,h4,h5,h6,h8⟩:=h
 have hj:j<ms.length:=(List.getElem?_eq_some_iff.1 hm).1
 have e:zCo p (ms.take (j+1))=zCo p (ms.take j)++[m]:=by rw [zBn hm,zMl,if_neg (by simp [hs])]
 have l1:=zIj (zCo p (ms.take j))
 have e1:zDo [m]=zHz m:=by simp [zDo]
 refine ⟨mid.drop 1++zHz m,by rw [e,List.length_append,<-h1];rfl,by rw [List.length_append,List.length_drop,h3];simp [zHz];omega,by omega,by omega,?_,(h8.trans (hmd.mono (fun _ _ e=>e.elim))).trans (Mod.midQ _ _ _)⟩
 rw [e,zZa,e1]
 have h9:=h6.mod hmd id
 rw [zBt hm,zGw] at h9
 have:=Blk.midQ (g:=b) (t:=91) (zHz m) wr' (zDo (zCo p (ms.take j))) (mid.take 1) (mid.drop 1++(zHz m++zDo (ms.drop (j+1))++R)) (by
  rw [zPs];exact h9) (by rw [List.length_take,h3];simp [zHz];omega)
 rw [l1,<-h1] at this
 simpa [List.append_assoc] using this
theorem zMw.room{w wr:World}{b i j:Nat}{p:Nat->Bool}{ms:List Nat}{R:List Value}(h:zMw w wr b p ms R i j):i<j/\j<=ms.length/\Mod (zAc b) w wr /\
  (∀ n,n<(j - i)*1->(wr.cell? ⟨b,i*1+n,none⟩).isSome=true)/\∀ n,wr.frozen? ⟨b,n,none⟩=false:=by
 obtain ⟨mid,h1,h3,h4,h5,h6,h8⟩:=h
 have l1:=zIj (zCo p (ms.take j))
 refine ⟨h4,h5,h8,fun n hn=>?_,fun n=>h6.frozen n⟩
 obtain ⟨x,hx⟩:∃ x,(zDo (zCo p (ms.take j))++mid++(zDo (ms.drop j)++R))[i*1+n]?=some x:=⟨_,List.getElem?_eq_getElem (by simp only [List.length_append];omega)⟩
 rw [show wr.cell? ⟨b,i*1+n,none⟩=some x from h6.cell _ hx];rfl
theorem zMw.done{w wr:World}{B b i cap:Nat}{p:Nat->Bool}{ms:List Nat}{R:List Value}(h:zMw w wr b p ms R i ms.length)(hBb:B<=b)(hcap:ms.length<=cap)(hcm:cap<=maxLen)(lR:ms.length*1+R.length=cap*1) :
  (wr.setCells b (i*1) (zGr (ms.length - i))).ownsRow B 91 1 (.slice (some ⟨b,0,none⟩) i cap) (zCo p ms).length (zDo (zCo p ms))/\Mod (zAc b) w (wr.setCells b (i*1) (zGr (ms.length - i))):=by
 obtain ⟨mid,h1,h3,h4,h5,h6,h8⟩:=h
 rw [List.take_length] at h1 h6
 have l1:=zIj (zCo p ms)
 have l2:=zNh (ms.length - i)
 have hM:=h8.trans (Mod.midQ (zGr (ms.length - i)) (i*1) wr)
 have e0:zDo (ms.drop ms.length)=[]:=by rw [List.drop_length];rfl
 rw [e0,List.nil_append] at h6
 have hB:=Blk.midQ (g:=b) (t:=91) (zGr (ms.length - i)) wr (zDo (zCo p ms)) mid R h6 (by omega)
 rw [l1,<-h1] at hB
 refine ⟨⟨by omega,.inr ⟨b,cap,(zDo (zCo p ms)++zGr (ms.length - i)++R).toArray,by rw [<-h1],hBb,hB,by omega,hcm,?_,?_⟩⟩,hM⟩
 ·simp only [List.size_toArray,List.length_append];omega
 ·rw [<-l1,List.append_assoc,List.take_left]
theorem yBa(f B:Nat)(caps:Array Value)(p:Nat->Bool)(v:Value)(ms:List Nat)(w:World)(C:World->Prop)(hR:w.ownsRow B 91 1 v ms.length (zDo ms))(hA:AskG f caps (fun d=>.pointer (some ⟨d,0,none⟩)) ms p C)(hC:C w)(hCb:∀ b,v.ownBlock=some b->∀ w',Mod (zAc b) w w'->C w')(hf:ms.length<=1000) :
  Calls Tryz.prog 85 #[v,.func (.func f) #[] caps] w fun e w'=>∃ v',e=.returned v'/\w'.ownsRow B 91 1 v' (zCo p ms).length (zDo (zCo p ms))/\v'.ownBlock=v.ownBlock/\Mod (fun x=>v.ownBlock=some x) w w':=by
 have HIX:=Hmq (zSk f w.heap.size caps p v ms w C (zRx hR) hA hC (by omega))
 cases hfi:ms.findIdx? p with
 | none=>
  rw [hfi] at HIX
  have HK:=Hmq (zSi p ms hfi)
  have HR:=Hmq hR
  obtain ⟨a,cap,rfl⟩:=zAf hR
  clear hR hA
  go_enter Tryz.func85,Tryz.ntmps85
  go_wp2_with fail
  refine HIX.out.mono ?_
  rintro e w1 ⟨rfl,hm1⟩
  simp only [idxI]
  go_wp2_with fail
  go_ret
  exact ⟨_,rfl,by rw [HK.out];exact zAm HR.out hm1 (fun _ _ _ _=>id),rfl,hm1.mono (fun _ _ e=>e.elim)⟩
 | some k0=>
  rw [hfi] at HIX
  obtain ⟨hk0,hkt⟩:=zPv p ms k0 hfi
  rcases hR.2 with ⟨_,h0⟩ | ⟨b,cap,cur,rfl,hLg,hg,hcap,hcm,hcs,htk⟩
  ·omega
  unfold maxLen at hcm
  obtain ⟨R,hRR⟩:∃ R,cur.toList=zDo ms++R:=by
   refine ⟨cur.toList.drop (ms.length*1),?_⟩
   rw [<-htk,List.take_append_drop]
  have lA:=zIj ms
  have hB0:Blk w b (zDo ms++R) 91:=by rw [Blk,<-hRR];exact hg
  have lR:ms.length*1+R.length=cap*1:=by
   have:(zDo ms++R).length=cap*1:=by rw [<-hRR];simpa using hcs
   rw [List.length_append,lA] at this;exact this
  have HB0:=Hmq hB0
  have HKT:=Hmq hkt
  have HA:=Hmq hA
  have HCB:=Hmq (hCb b rfl)
  have hen:=hA.enter
  clear hB0 hRR hg hcs htk hR hkt hfi lA hA hC hCb
  go_enter Tryz.func85,Tryz.ntmps85
  go_wp2_with fail
  refine HIX.out.mono ?_
  rintro e w1 ⟨rfl,hm1⟩
  simp only [idxI]
  have hne:((k0:Int) == -1)=false:=by rw [beq_eq_false_iff_ne];omega
  go_wp2_with fail
  go_loopw [5,6] (fun x y wr=>∃ i j:Nat,x=.int .i64 i/\y=.int .i64 j/\zMw w wr b p ms R i j) (fun _ y _=>ms.length - (intOf y).toNat)
  case atStart=>exact ⟨k0,k0+1,rfl,by go_num,zMw.start hk0 HKT.out HB0.out hm1⟩
  case round=>
   obtain ⟨i,j,rfl,rfl,hI⟩:=hrel
   obtain ⟨hij,hjn,hMr,hcell,hfro⟩:=hI.room
   by_cases hlt:j<ms.length
   ·obtain ⟨m,hm⟩:∃ m,ms[j]?=some m:=⟨_,List.getElem?_eq_getElem hlt⟩
    have hlk:=hI.look hm
    have q0:=hlk 0 _ rfl
    simp only [Nat.add_zero,Nat.mul_one] at q0
    have hCr:=HCB.out wr hMr
    have HC:=Hmq (HA.out.ask m (List.mem_of_getElem? hm) wr hCr)
    have HI:=Hmq hI
    have HMM:=Hmq hm
    have HCE:=Hmq hcell
    have HFR:=Hmq hfro
    have hid0:True:=trivial
    have hbz:b<wr.heap.size:=World.block_lt_of_cell? wr _ q0
    clear hI hm hlk hcell hfro hCr
    go_wp2_with fail
    refine HC.out.mono ?_
    rintro e w5 ⟨rfl,hm5⟩
    have hmr5:Mod zAb wr w5:=hm5
    clear HC q0
    cases hs:p m with
    | true=>
     have HN:=Hmq (HI.out.skip HMM.out hs hmr5)
     go_wp2_with fail
     go_roundw
     case rel=>exact ⟨i,j+1,rfl,by go_num,HN.out⟩
     case measure=>simp [intOf];omega
    | false=>
     have HN:=Hmq (HI.out.keep HMM.out hs hmr5)
     have hex:∀ c,c<1->∃ y,w5.cell? ⟨b,i*1+c,none⟩=some y:=fun c hc=>by
      obtain ⟨y,hy⟩:=Option.isSome_iff_exists.1 (HCE.out c (by omega))
      exact ⟨y,hmr5.cell hy id⟩
     have hfz:∀ c,w5.frozen? ⟨b,c,none⟩=false:=fun c=>(hmr5.frozen (p:=⟨b,c,none⟩) hbz id).trans (HFR.out c)
     obtain ⟨y0,hy0⟩:=hex 0 (by omega)
     have f0:=hfz (i*1+0)
     simp only [Nat.add_zero,Nat.mul_one] at hy0 f0
     have hbn:b≠wr.heap.size:=by omega
     clear hex hfz
     go_wp2_with fail
     go_roundw
     case rel=>exact ⟨i+1,j+1,by go_num,by go_num,by simpa [World.setCells,zHz,Nat.add_assoc] using HN.out⟩
     case measure=>simp [intOf];omega
   ·obtain rfl:j=ms.length:=by omega
    have hdn:=hI.done (B:=B) (cap:=cap) hLg hcap (by unfold maxLen;omega) lR
    have hb3:¬ cap=i:=by omega
    have hb4:i<=cap:=by omega
    simp only [Nat.mul_one] at hdn hcell
    have HDN:=Hmq hdn
    have HCE:Hid (∀ n,n<(ms.length - i)*1->(wr.cell? ⟨b,i+n,none⟩).isSome=true):=fun n hn=>hcell n (by omega)
    have HFR:Hid (∀ n,n<(ms.length - i)*1->wr.frozen? ⟨b,i+n,none⟩=false):=fun n _=>hfro _
    clear hdn
    clear hI hcell hfro
    go_wp2_with (first
     | (refine zTt rfl _ rfl b (i) (ms.length - i) _ rfl (by omega) HCE.out HFR.out ?_)
     | fail)
    go_ret
    exact ⟨_,rfl,HDN.out.1,rfl,HDN.out.2.mono (fun x _ e=>by simp only [zAc] at e;rw [e];rfl)⟩
theorem zUb(g:Nat)(a:Option Addr)(c:Nat)(ty:TypeId)(w:World):(Builtin.append_ #[99,99] ty #[.slice (some ⟨g,0,none⟩) 0 0,.slice a 0 c]).run Tryz.prog w=.ok (.slice (some ⟨g,0,none⟩) 0 0) w:=by
 cases a <;> kernel_rfl
theorem Tryz.infoNd:(Tryz.prog.info? 91).map (fun i=>(i.zero,i.size,i.bytes))=some (some (.pointer none),1,8):=by kernel_rfl
theorem yDn(p:Addr)(m c:Nat)(l:List Nat)(w:World)(hm:m=l.length)(hc:∀ (j:Nat) u,(zDo l)[j]?=some u->w.cell? (p.add j)=some u)(hl:l.length<=1000)(h1:∀ d∈l,∀ u∈zHz d,u.oneCell'=true) :
  Calls Tryz.prog 86 #[.slice (some p) m c] w fun e w'=>∃ g cap,e=.returned (.slice (some ⟨g,0,none⟩) m cap)/\w'.ownsRow w.heap.size 91 1 (.slice (some ⟨g,0,none⟩) m cap) m (zDo l)/\Mod zAb w w':=by
 obtain ⟨i0,hi,hz0,hz1,hz2⟩:=info_parts Tryz.infoNd
 have h63:m<=maxLen:=by unfold maxLen;omega
 have h47:m*8<=140737488355328:=by omega
 have HLC:Hid ((zDo l).length=m*1):=by rw [hm];exact zIj l
 have HFL:Hid (m=0\/∃ q,some p=some q/\∀ (j:Nat) u,(zDo l)[j]?=some u->w.cell? (q.add j)=some u):=.inr ⟨p,rfl,hc⟩
 have HON:=Hmq (yJj l h1)
 have hen:=run_eql_slice_nil (P:=Tryz.prog) w 99 91 (some p) m c 0 0 Tryz.underlying99
 clear hc hm h1
 go_enter Tryz.func86,Tryz.ntmps86
 go_wp2_with (first
  | (at_builtin;(refine zKu (w0:=w) rfl _ _ 99 rfl 91 i0 _ 1 8 Tryz.underlying99 hi hz0 hz1 hz2 rfl (by omega) zUb rfl (some p) m c (zDo l) rfl HLC.out HFL.out HON.out h63 h47 ?_))
  | fail)
 intro g cap w2 hrow hm2
 go_wp2_with fail
 go_ret
 exact ⟨g,cap,rfl,hrow,hm2⟩
def zDp(d:zBa):List Value:=[.string d.key,.string d.val,.bool d.gone]
def zBp(ds:List zBa):List Value:=ds.flatMap zDp
theorem zFf:∀ ds,(zBp ds).length=ds.length*3
 | []=>rfl
 | d :: ds=>by
  have ih:=zFf ds
  unfold zBp at ih ⊢
  rw [List.flatMap_cons,List.length_append,ih];simp [zDp];omega
theorem zLe(a b:List zBa):zBp (a++b)=zBp a++zBp b:=by simp [zBp]
theorem zFx(d:zBa)(b:List zBa):zBp (d :: b)=zDp d++zBp b:=by simp [zBp]
theorem yJi(ds:List zBa)(hu:∀ d∈ds,∀ u∈zDp d,u.oneCell'=true):∀ u∈zBp ds,u.oneCell'=true:=by
 intro u h
 obtain ⟨d,hd,hd2⟩:=List.mem_flatMap.1 h
 exact hu d hd u hd2
theorem zUt:∀ (os:List zBa) (i:Nat) (o:zBa),os[i]?=some o->∀ j x,(zDp o)[j]?=some x->(zBp os)[i*3+j]?=some x
 | [],i,o,h,_,_,_=>by simp at h
 | p :: os,0,o,h,j,x,hx=>by
  simp at h
  subst h
  have hj:j<(zDp p).length:=(List.getElem?_eq_some_iff.1 hx).1
  rw [zFx,Nat.zero_mul,Nat.zero_add,List.getElem?_append_left hj]
  exact hx
 | p :: os,i+1,o,h,j,x,hx=>by
  have ih:=zUt os i o (by simpa using h) j x hx
  have hl:(zDp p).length=3:=rfl
  rw [zFx,List.getElem?_append_right (by omega),hl,show (i+1)*3+j - 3=i*3+j by omega]
  exact ih
theorem zZh{w:World}{B:Nat}{v:Value}{ds:List zBa}(h:w.ownsRow B 68 3 v ds.length (zBp ds)):SlR w w.heap.size 3 zWz v ds:=by
 obtain ⟨h1,h2⟩:=h
 rcases h2 with ⟨rfl,hn⟩ | ⟨g,cap,cur,rfl,q1,q2,q3,q4,q5,q6⟩
 ·have:ds=[]:=List.eq_nil_of_length_eq_zero hn
  subst this
  exact SlR.nil _ _ _ _
 ·have hc:w.ownsRow B 68 3 (.slice (some ⟨g,0,none⟩) ds.length cap) ds.length (zBp ds):=⟨h1,.inr ⟨g,cap,cur,rfl,q1,q2,q3,q4,q5,q6⟩⟩
  have hcl:=hc.cells (g:=g) rfl
  have hgl:g<w.heap.size:=(Array.getElem?_eq_some_iff.1 q2).1
  refine ⟨_,cap,rfl,q3,q4,.inr ⟨g,0,rfl,by omega,fun i o hi=>⟨zDp o,rfl,rfl,fun j x hx=>?_⟩⟩⟩
  have:=hcl _ _ (zUt ds i o hi j x hx)
  rw [Go.WideShapes.add_plain,Nat.zero_add] at this
  rw [Nat.zero_add]
  exact this
def yBp:Array Value:=#[.string ⟨#[]⟩,.string ⟨#[]⟩,.bool false]
def zGq(n:Nat):List Value:=(Builtin.zeroCells yBp n).toList
theorem zNg(n:Nat):(zGq n).length=n*3:=by rw [zGq,Array.length_toList,size_zeroCells];rfl
theorem yBn(n:Nat):∀ v∈zGq n,v.oneCell'=true:=by
 intro v hv
 simp only [zGq,Builtin.zeroCells,Array.toList_map,List.mem_map] at hv
 obtain ⟨i,_,rfl⟩:=hv
 have h9:∀ j,j<3->(yBp[j]!).oneCell'=true:=by
  intro j hj
  match j,hj with
  | 0,_=>rfl
  | 1,_=>rfl
  | 2,_=>rfl
 exact h9 _ (Nat.mod_lt _ (by decide))
theorem yPr(w:World):(zeroValue 68).run Tryz.prog w=.ok (.agg #[.string ⟨#[]⟩,.string ⟨#[]⟩,.bool false]) w:=by kernel_rfl
theorem yCg(w:World)(ty:TypeId)(b o n c:Nat)(hn:0<n)(hc:∀ j,j<n*3->(w.cell? ⟨b,o+j,none⟩).isSome=true)(hf:∀ j,j<n*3->w.frozen? ⟨b,o+j,none⟩=false) :
  (Builtin.clear_ #[63] ty #[.slice (some ⟨b,o,none⟩) n c]).run Tryz.prog w=.ok (.tuple #[]) (w.setCells b o (zGq n)):=by
 have hst:=run_storeCells_cells (P:=Tryz.prog) b o (zGq n) 0 w (by simpa [zNg] using hc) (by simpa [zNg] using hf) (yBn n)
 simp only [Nat.add_zero] at hst
 obtain ⟨m,rfl⟩:∃ m,n=m+1:=⟨n - 1,by omega⟩
 have hz:=yPr
 have e:(Value.cells (.agg #[.string ⟨#[]⟩,.string ⟨#[]⟩,.bool false]))=yBp:=rfl
 simp only [zGq] at hst ⊢
 simp [Builtin.clear_,run_underlying Tryz.underlying63,hz,e,hst]
theorem zTs{w:World}{ops:Array Oper}{rest:List Oper}{o:Oper}{a:Act}{Q:Exit->Act->World->Prop}(hgd:o.guard=none)(s:Operand)
  (ho:o.op=.call { callee:=.builtin .clear,args:=#[s],argTypes:=#[63] }) (b off n c:Nat) (hs:a.eval s=.slice (some ⟨b,off,none⟩) n c) (hn:0<n)
  (hc:∀ j,j<n*3->(w.cell? ⟨b,off+j,none⟩).isSome=true) (hf:∀ j,j<n*3->w.frozen? ⟨b,off+j,none⟩=false)
  (h:wpList Tryz.prog ops Q rest (a.put o.dst (.tuple #[])) (w.setCells b off (zGq n))):wpList Tryz.prog ops Q (o :: rest) a w:=by
 refine wpList_plain hgd fun K hK=>?_
 have hr:=yCg w o.type b off n c hn hc hf
 unfold Oper.wp execOp
 simp only [ho,resolve,invoke,builtin,Sem.run_bind,Sem.run_pure,Result.andThen_ok,List.map_toArray,List.map_cons,List.map_nil,hs,hr]
 exact hK _ _ h
def zMv(w wr:World)(b:Nat)(p:zBa->Bool)(ms:List zBa)(R:List Value)(i j:Nat):Prop:=
 ∃ mid:List Value,i=(zCo p (ms.take j)).length/\mid.length=(j - i)*3/\i<j/\j<=ms.length /\
  Blk wr b (zBp (zCo p (ms.take j))++mid++(zBp (ms.drop j)++R)) 68/\Mod (zAc b) w wr
theorem zMv.start{w wr:World}{b k0:Nat}{p:zBa->Bool}{ms:List zBa}{R:List Value}(hk:k0<ms.length)(hkt:zCo p (ms.take (k0+1))=ms.take k0)(hB:Blk w b (zBp ms++R) 68)(hm:Mod zAb w wr):zMv w wr b p ms R k0 (k0+1):=by
 obtain ⟨m,hm0⟩:∃ m,ms[k0]?=some m:=⟨_,List.getElem?_eq_getElem hk⟩
 have hms:ms=ms.take k0++m :: ms.drop (k0+1):=by
  rw [<-zBt hm0,List.take_append_drop]
 refine ⟨zDp m,by rw [hkt,List.length_take];omega,by simp [zDp],by omega,by omega,?_,hm.mono (fun _ _ e=>e.elim)⟩
 rw [hkt]
 have:=hB.mod hm id
 have e:zBp ms=zBp (ms.take k0)++(zDp m++zBp (ms.drop (k0+1))):=by
  conv=>lhs;rw [hms]
  rw [zLe,zFx]
 rw [e] at this
 simpa [List.append_assoc] using this
theorem zMv.look{w wr:World}{b i j:Nat}{p:zBa->Bool}{ms:List zBa}{R:List Value}(h:zMv w wr b p ms R i j){m:zBa}(hm:ms[j]?=some m) :
  ∀ n x,(zDp m)[n]?=some x->wr.cell? ⟨b,j*3+n,none⟩=some x:=by
 obtain ⟨mid,h1,h3,h4,h5,h6,h8⟩:=h
 intro n x hx
 have hn:n<3:=(List.getElem?_eq_some_iff.1 hx).1
 refine h6.cell _ ?_
 rw [zBt hm,zFx]
 have l1:=zFf (zCo p (ms.take j))
 rw [List.getElem?_append_right (by rw [List.length_append];omega),List.length_append,l1,h3,<-h1]
 rw [show j*3+n - (i*3+(j - i)*3)=n by omega,List.append_assoc,List.getElem?_append_left hn]
 exact hx
theorem zMv.skip{w wr wr':World}{b i j:Nat}{p:zBa->Bool}{ms:List zBa}{R:List Value}(h:zMv w wr b p ms R i j){m:zBa}(hm:ms[j]?=some m)(hs:p m=true)(hmd:Mod zAb wr wr') :
  zMv w wr' b p ms R i (j+1):=by
 obtain ⟨mid,h1,h3,h4,h5,h6,h8⟩:=h
 have hj:j<ms.length:=(List.getElem?_eq_some_iff.1 hm).1
 have e:zCo p (ms.take (j+1))=zCo p (ms.take j):=by rw [zBn hm,zMl,if_pos hs]
 refine ⟨mid++zDp m,by rw [e];exact h1,by rw [List.length_append,h3];simp [zDp];omega,by omega,by omega,?_,h8.trans (hmd.mono (fun _ _ e=>e.elim))⟩
 rw [e]
 have:=h6.mod hmd id
 rw [zBt hm,zFx] at this
 simpa [List.append_assoc] using this
theorem zMv.keep{w wr wr':World}{b i j:Nat}{p:zBa->Bool}{ms:List zBa}{R:List Value}(h:zMv w wr b p ms R i j){m:zBa}(hm:ms[j]?=some m)(hs:p m=false)(hmd:Mod zAb wr wr') :
  zMv w (wr'.setCells b (i*3) (zDp m)) b p ms R (i+1) (j+1):=by
 obtain ⟨mid,h1,h3,h4,h5,h6,h8⟩:=h
 have hj:j<ms.length:=(List.getElem?_eq_some_iff.1 hm).1
 have e:zCo p (ms.take (j+1))=zCo p (ms.take j)++[m]:=by rw [zBn hm,zMl,if_neg (by simp [hs])]
 have l1:=zFf (zCo p (ms.take j))
 have e1:zBp [m]=zDp m:=by simp [zBp]
 refine ⟨mid.drop 3++zDp m,by rw [e,List.length_append,<-h1];rfl,by rw [List.length_append,List.length_drop,h3];simp [zDp];omega,by omega,by omega,?_,(h8.trans (hmd.mono (fun _ _ e=>e.elim))).trans (Mod.midQ _ _ _)⟩
 rw [e,zLe,e1]
 have h9:=h6.mod hmd id
 rw [zBt hm,zFx] at h9
 have:=Blk.midQ (g:=b) (t:=68) (zDp m) wr' (zBp (zCo p (ms.take j))) (mid.take 3) (mid.drop 3++(zDp m++zBp (ms.drop (j+1))++R)) (by
  rw [zPs];exact h9) (by rw [List.length_take,h3];simp [zDp];omega)
 rw [l1,<-h1] at this
 simpa [List.append_assoc] using this
theorem zMv.room{w wr:World}{b i j:Nat}{p:zBa->Bool}{ms:List zBa}{R:List Value}(h:zMv w wr b p ms R i j):i<j/\j<=ms.length/\Mod (zAc b) w wr /\
  (∀ n,n<(j - i)*3->(wr.cell? ⟨b,i*3+n,none⟩).isSome=true)/\∀ n,wr.frozen? ⟨b,n,none⟩=false:=by
 obtain ⟨mid,h1,h3,h4,h5,h6,h8⟩:=h
 have l1:=zFf (zCo p (ms.take j))
 refine ⟨h4,h5,h8,fun n hn=>?_,fun n=>h6.frozen n⟩
 obtain ⟨x,hx⟩:∃ x,(zBp (zCo p (ms.take j))++mid++(zBp (ms.drop j)++R))[i*3+n]?=some x:=⟨_,List.getElem?_eq_getElem (by simp only [List.length_append];omega)⟩
 rw [show wr.cell? ⟨b,i*3+n,none⟩=some x from h6.cell _ hx];rfl
theorem zMv.done{w wr:World}{B b i cap:Nat}{p:zBa->Bool}{ms:List zBa}{R:List Value}(h:zMv w wr b p ms R i ms.length)(hBb:B<=b)(hcap:ms.length<=cap)(hcm:cap<=maxLen)(lR:ms.length*3+R.length=cap*3) :
  (wr.setCells b (i*3) (zGq (ms.length - i))).ownsRow B 68 3 (.slice (some ⟨b,0,none⟩) i cap) (zCo p ms).length (zBp (zCo p ms))/\Mod (zAc b) w (wr.setCells b (i*3) (zGq (ms.length - i))):=by
 obtain ⟨mid,h1,h3,h4,h5,h6,h8⟩:=h
 rw [List.take_length] at h1 h6
 have l1:=zFf (zCo p ms)
 have l2:=zNg (ms.length - i)
 have hM:=h8.trans (Mod.midQ (zGq (ms.length - i)) (i*3) wr)
 have e0:zBp (ms.drop ms.length)=[]:=by rw [List.drop_length];rfl
 rw [e0,List.nil_append] at h6
 have hB:=Blk.midQ (g:=b) (t:=68) (zGq (ms.length - i)) wr (zBp (zCo p ms)) mid R h6 (by omega)
 rw [l1,<-h1] at hB
 refine ⟨⟨by omega,.inr ⟨b,cap,(zBp (zCo p ms)++zGq (ms.length - i)++R).toArray,by rw [<-h1],hBb,hB,by omega,hcm,?_,?_⟩⟩,hM⟩
 ·simp only [List.size_toArray,List.length_append];omega
 ·rw [<-l1,List.append_assoc,List.take_left]
theorem yAz(f B:Nat)(caps:Array Value)(p:zBa->Bool)(v:Value)(ms:List zBa)(w:World)(C:World->Prop)(hR:w.ownsRow B 68 3 v ms.length (zBp ms))(hA:AskG f caps (fun d=>.agg #[.string d.key,.string d.val,.bool d.gone]) ms p C)(hC:C w)(hCb:∀ b,v.ownBlock=some b->∀ w',Mod (zAc b) w w'->C w')(hf:ms.length<=1000) :
  Calls Tryz.prog 162 #[v,.func (.func f) #[] caps] w fun e w'=>∃ v',e=.returned v'/\w'.ownsRow B 68 3 v' (zCo p ms).length (zBp (zCo p ms))/\v'.ownBlock=v.ownBlock/\Mod (fun x=>v.ownBlock=some x) w w':=by
 have HIX:=Hmq (zSj f w.heap.size caps p v ms w C (zZh hR) hA hC (by omega))
 cases hfi:ms.findIdx? p with
 | none=>
  rw [hfi] at HIX
  have HK:=Hmq (zSi p ms hfi)
  have HR:=Hmq hR
  obtain ⟨a,cap,rfl⟩:=zAf hR
  clear hR hA
  go_enter Tryz.func162,Tryz.ntmps162
  go_wp2_with fail
  refine HIX.out.mono ?_
  rintro e w1 ⟨rfl,hm1⟩
  simp only [idxI]
  go_wp2_with fail
  go_ret
  exact ⟨_,rfl,by rw [HK.out];exact zAm HR.out hm1 (fun _ _ _ _=>id),rfl,hm1.mono (fun _ _ e=>e.elim)⟩
 | some k0=>
  rw [hfi] at HIX
  obtain ⟨hk0,hkt⟩:=zPv p ms k0 hfi
  rcases hR.2 with ⟨_,h0⟩ | ⟨b,cap,cur,rfl,hLg,hg,hcap,hcm,hcs,htk⟩
  ·omega
  unfold maxLen at hcm
  obtain ⟨R,hRR⟩:∃ R,cur.toList=zBp ms++R:=by
   refine ⟨cur.toList.drop (ms.length*3),?_⟩
   rw [<-htk,List.take_append_drop]
  have lA:=zFf ms
  have hB0:Blk w b (zBp ms++R) 68:=by rw [Blk,<-hRR];exact hg
  have lR:ms.length*3+R.length=cap*3:=by
   have:(zBp ms++R).length=cap*3:=by rw [<-hRR];simpa using hcs
   rw [List.length_append,lA] at this;exact this
  have HB0:=Hmq hB0
  have HKT:=Hmq hkt
  have HA:=Hmq hA
  have HCB:=Hmq (hCb b rfl)
  have hen:=hA.enter
  clear hB0 hRR hg hcs htk hR hkt hfi lA hA hC hCb
  go_enter Tryz.func162,Tryz.ntmps162
  go_wp2_with fail
  refine HIX.out.mono ?_
  rintro e w1 ⟨rfl,hm1⟩
  simp only [idxI]
  have hne:((k0:Int) == -1)=false:=by rw [beq_eq_false_iff_ne];omega
  go_wp2_with fail
  go_loopw [5,6] (fun x y wr=>∃ i j:Nat,x=.int .i64 i/\y=.int .i64 j/\zMv w wr b p ms R i j) (fun _ y _=>ms.length - (intOf y).toNat)
  case atStart=>exact ⟨k0,k0+1,rfl,by go_num,zMv.start hk0 HKT.out HB0.out hm1⟩
  case round=>
   obtain ⟨i,j,rfl,rfl,hI⟩:=hrel
   obtain ⟨hij,hjn,hMr,hcell,hfro⟩:=hI.room
   by_cases hlt:j<ms.length
   ·obtain ⟨m,hm⟩:∃ m,ms[j]?=some m:=⟨_,List.getElem?_eq_getElem hlt⟩
    have hlk:=hI.look hm
    have q0:=hlk 0 _ rfl
    have q1:=hlk 1 _ rfl
    have q2:=hlk 2 _ rfl
    simp only [Nat.add_zero] at q0
    have hCr:=HCB.out wr hMr
    have HC:=Hmq (HA.out.ask m (List.mem_of_getElem? hm) (wr.alloc (.cells #[.string m.key,.string m.val,.bool m.gone] 68)) (HA.out.keep _ _ hCr ((Mod.refl zAb wr).alloc _)))
    have HI:=Hmq hI
    have HMM:=Hmq hm
    have HCE:=Hmq hcell
    have HFR:=Hmq hfro
    have hB1:=Blk.new wr (zDp m) 68
    have hbz:b<wr.heap.size:=World.block_lt_of_cell? wr _ q0
    clear hI hm hlk hcell hfro hCr
    go_wp2_with fail
    refine HC.out.mono ?_
    rintro e w5 ⟨rfl,hm5⟩
    have hB5:Blk w5 wr.heap.size (zDp m) 68:=hB1.mod hm5 id
    have hmr5:=((Mod.refl zAb wr).alloc (.cells #[.string m.key,.string m.val,.bool m.gone] 68)).trans hm5
    clear HC q0 q1 q2 hB1
    have p0:=hB5.cell 0 rfl
    have p1:=hB5.cell 1 rfl
    have p2:=hB5.cell 2 rfl
    cases hs:p m with
    | true=>
     have HN:=Hmq (HI.out.skip HMM.out hs hmr5)
     go_wp2_with fail
     go_roundw
     case rel=>exact ⟨i,j+1,rfl,by go_num,HN.out⟩
     case measure=>simp [intOf];omega
    | false=>
     have HN:=Hmq (HI.out.keep HMM.out hs hmr5)
     have hex:∀ c,c<3->∃ y,w5.cell? ⟨b,i*3+c,none⟩=some y:=fun c hc=>by
      obtain ⟨y,hy⟩:=Option.isSome_iff_exists.1 (HCE.out c (by omega))
      exact ⟨y,hmr5.cell hy id⟩
     have hfz:∀ c,w5.frozen? ⟨b,c,none⟩=false:=fun c=>(hmr5.frozen (p:=⟨b,c,none⟩) hbz id).trans (HFR.out c)
     obtain ⟨y0,hy0⟩:=hex 0 (by omega)
     obtain ⟨y1,hy1⟩:=hex 1 (by omega)
     obtain ⟨y2,hy2⟩:=hex 2 (by omega)
     have f0:=hfz (i*3+0)
     have f1:=hfz (i*3+1)
     have f2:=hfz (i*3+2)
     simp only [Nat.add_zero] at hy0 f0
     have hbn:b≠wr.heap.size:=by omega
     clear hex hfz
     go_wp2_with fail
     go_roundw
     case rel=>exact ⟨i+1,j+1,by go_num,by go_num,by simpa [World.setCells,zDp,Nat.add_assoc] using HN.out⟩
     case measure=>simp [intOf];omega
   ·obtain rfl:j=ms.length:=by omega
    have hdn:=hI.done (B:=B) (cap:=cap) hLg hcap (by unfold maxLen;omega) lR
    have hb3:¬ cap=i:=by omega
    have hb4:i<=cap:=by omega
    have HDN:=Hmq hdn
    have HCE:Hid (∀ n,n<(ms.length - i)*3->(wr.cell? ⟨b,i*3+n,none⟩).isSome=true):=fun n hn=>hcell n (by omega)
    have HFR:Hid (∀ n,n<(ms.length - i)*3->wr.frozen? ⟨b,i*3+n,none⟩=false):=fun n _=>hfro _
    clear hdn
    clear hI hcell hfro
    go_wp2_with (first
     | (refine zTs rfl _ rfl b (i*3) (ms.length - i) _ rfl (by omega) HCE.out HFR.out ?_)
     | fail)
    go_ret
    exact ⟨_,rfl,HDN.out.1,rfl,HDN.out.2.mono (fun x _ e=>by simp only [zAc] at e;rw [e];rfl)⟩
theorem zUa(g:Nat)(a:Option Addr)(c:Nat)(ty:TypeId)(w:World):(Builtin.append_ #[63,63] ty #[.slice (some ⟨g,0,none⟩) 0 0,.slice a 0 c]).run Tryz.prog w=.ok (.slice (some ⟨g,0,none⟩) 0 0) w:=by
 cases a <;> kernel_rfl
theorem Tryz.infoPr:(Tryz.prog.info? 68).map (fun i=>(i.zero,i.size,i.bytes))=some (some (.agg #[.string ⟨#[]⟩,.string ⟨#[]⟩,.bool false]),3,40):=by kernel_rfl
theorem yDm(p:Addr)(m c:Nat)(l:List zBa)(w:World)(hm:m=l.length)(hc:∀ (j:Nat) u,(zBp l)[j]?=some u->w.cell? (p.add j)=some u)(hl:l.length<=1000)(h1:∀ d∈l,∀ u∈zDp d,u.oneCell'=true) :
  Calls Tryz.prog 163 #[.slice (some p) m c] w fun e w'=>∃ g cap,e=.returned (.slice (some ⟨g,0,none⟩) m cap)/\w'.ownsRow w.heap.size 68 3 (.slice (some ⟨g,0,none⟩) m cap) m (zBp l)/\Mod zAb w w':=by
 obtain ⟨i0,hi,hz0,hz1,hz2⟩:=info_parts Tryz.infoPr
 have h63:m<=maxLen:=by unfold maxLen;omega
 have h47:m*40<=140737488355328:=by omega
 have HLC:Hid ((zBp l).length=m*3):=by rw [hm];exact zFf l
 have HFL:Hid (m=0\/∃ q,some p=some q/\∀ (j:Nat) u,(zBp l)[j]?=some u->w.cell? (q.add j)=some u):=.inr ⟨p,rfl,hc⟩
 have HON:=Hmq (yJi l h1)
 have hen:=run_eql_slice_nil (P:=Tryz.prog) w 63 68 (some p) m c 0 0 Tryz.underlying63
 clear hc hm h1
 go_enter Tryz.func163,Tryz.ntmps163
 go_wp2_with (first
  | (at_builtin;(refine zKu (w0:=w) rfl _ _ 63 rfl 68 i0 _ 3 40 Tryz.underlying63 hi hz0 hz1 hz2 rfl (by omega) zUa rfl (some p) m c (zBp l) rfl HLC.out HFL.out HON.out h63 h47 ?_))
  | fail)
 intro g cap w2 hrow hm2
 go_wp2_with fail
 go_ret
 exact ⟨g,cap,rfl,hrow,hm2⟩
theorem yDl(w:World):Calls Tryz.prog 163 #[.slice none 0 0] w fun e w'=>e=.returned (.slice none 0 0)/\w'=w:=by
 have hen:=run_eql_slice_nil (P:=Tryz.prog) w 63 68 none 0 0 0 0 Tryz.underlying63
 go_enter Tryz.func163,Tryz.ntmps163
 go_wp2_with fail
 go_ret
 exact ⟨rfl,rfl⟩
end Go.Proofs.YtmaiggbnceejiaaGreatDoor
