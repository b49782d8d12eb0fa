import Derived.Test.YtiblcbdkiecbgaaGreatDoorM21
set_option linter.unusedVariables false
set_option maxRecDepth 100000
set_option maxHeartbeats 16000000
namespace Go.Proofs.YtiblcbdkiecbgaaGreatDoor
open Go.RowKit Go.Lib Go.Maps
open Classical in
noncomputable def ownA(w:World)(y:HLay)(lv:Value)(b:Nat)(rv:Value)(bs:List Nat)(nv lf:Nat->Value)(x:Nat):Tag:=
 if w.heap.size<=x/\lv.ownBlock=some x then .lrow else if w.heap.size<=x/\(x=b\/rv.ownBlock=some x) then .line b else if h:w.heap.size<=x/\∃ c∈bs,nodeMay c (nv c) (lf c) x then .node (Classical.choose h.2) else y.own x
theorem ownA_old(w:World)(y:HLay)(lv:Value)(b:Nat)(rv:Value)(bs:List Nat)(nv lf:Nat->Value){x:Nat}(h:x<w.heap.size):ownA w y lv b rv bs nv lf x=y.own x:=by
 unfold ownA
 rw [if_neg (fun e=>by omega),if_neg (fun e=>by omega),dif_neg (fun e=>by omega)]
theorem HouseP.addL{w w':World}{n c g:Nat}{y:HLay}{s:HouseS}(h:HouseP w n c g y s){lv rv:Value}{b:Nat}{bs:List Nat}{nv lf:Nat->Value}{l:LineS}
  (hm:Mod (fun z=>z=g\/y.lv.ownBlock=some z) w w') (hB:Blk w' g [lv,.map (some y.dr),y.wv,.int .i64 s.net.lost,.map y.mr,.map y.q.m,y.tv] 159) (hr:w'.ownsRow n 186 1 lv (y.lbs.length+1) ((y.lbs++[b]).map ptrV)) (h1:Moved w y.lv lv)
  (hb:w.heap.size<=b) (hL:Blk w' b [rv,.int .i64 l.heard] 188) (hrow:w'.ownsRow n 168 1 rv bs.length (bs.map ptrV)) (hrv:∀ z,rv.ownBlock=some z->w.heap.size<=z) (hN:LineN w' (y.lo n) bs nv lf l.nodes) (hnew:∀ d∈bs,∀ z,nodeMay d (nv d) (lf d) z->w.heap.size<=z) :
  ∃ y',HouseP w' n c g y' { s with lines:=s.lines++[l] }/\Steps w y w' y'/\y'.lo n=y.lo n/\(∀ z,w.heap.size<=z->lv.ownBlock≠some z->z≠b->rv.ownBlock≠some z->(∀ d∈bs,¬ nodeMay d (nv d) (lf d) z)->y'.own z=.no):=by
 have own:=h.own
 have htag:∀ z,(z=g\/y.lv.ownBlock=some z)->y.own z=.main\/y.own z=.lrow:=fun z e=>by
  rcases e with e | e
  ·rw [e];exact .inl own.main
  ·exact .inr (own.lrow z e)
 have hq:Qm w (y.lo n) (fun z=>z=g\/y.lv.ownBlock=some z):=fun z hz e=>by
  rintro (e1 | ⟨⟨cur,fr,e1⟩,_⟩)
  ·have h8:z<n:=e1
   have:=(own.lt z (by rcases htag z e with q | q <;> rw [q] <;> simp)).1
   omega
  ·rcases e with e | e
   ·subst e
    have:=h.blk
    unfold Blk at this
    rw [this] at e1;simp at e1
   ·obtain ⟨_,_,cur2,h2⟩:=own_cells h.lrow e
    rw [h2] at e1;simp at e1
 have ht:Touch w w' n y (fun t=>t=.main\/t=.lrow):=⟨⟨_,hm,hq,fun z hz e=>⟨htag z e,by rcases htag z e with q | q <;> rw [q] <;> simp⟩⟩⟩
 have hnw:∀ z,w.heap.size<=z->y.own z=.no:=fun z hz=>Classical.byContradiction fun e=>by have:=(own.lt z e).2;omega
 have hbn:b∉y.lbs:=fun q=>by have:=(own.lt b (by rw [(own.line b q).1];simp)).2;omega
 have hbsn:∀ d∈bs,w.heap.size<=d:=fun d hd=>hnew d hd d (.inl rfl)
 have hdn:∀ b'∈y.lbs,∀ d∈y.nbs b',d∉bs:=fun b' hb' d hd q=>by
  have e:=own.node b' hb' d hd d (.inl rfl)
  have:=(own.lt d (by rw [e];simp)).2
  have:=hbsn d q
  omega
 have hkind:∀ d∈bs,∃ x,NodeP w' (y.lo n) d (nv d) (lf d) x:=fun d hd=>by
  obtain ⟨j,hj⟩:=List.getElem?_of_mem hd
  have hjl:j<l.nodes.length:=by have:=(List.getElem?_eq_some_iff.1 hj).1;have:=hN.len;omega
  exact ⟨_,hN.node j d _ hj (List.getElem?_eq_getElem hjl)⟩
 have hty:∀ d∈bs,∀ z,nodeMay d (nv d) (lf d) z->∀ cur t,w'.heap[z]?=some (.cells cur t)->t≠168/\t≠188/\t≠186:=fun d hd z hz cur t hcur=>by
  obtain ⟨x,hx⟩:=hkind d hd
  rcases hz with q | q | q
  ·have hBl:=hx.blk
   unfold Blk at hBl
   rw [<-q,hcur] at hBl
   simp at hBl
   rw [hBl.2];decide
  ·obtain ⟨_,_,cur2,h2⟩:=own_cells hx.ns q
   rw [hcur] at h2;simp at h2
   rw [h2.2];decide
  ·obtain ⟨us,_,h3,_⟩:=hx.lg
   obtain ⟨_,_,cur2,h2⟩:=own_cells h3 q
   rw [hcur] at h2;simp at h2
   rw [h2.2];decide
 let y':HLay:={ y with lv:=lv,lbs:=y.lbs++[b],lnv:=fun x=>if x=b then rv else y.lnv x,nbs:=fun x=>if x=b then bs else y.nbs x,nnv:=fun x=>if x∈bs then nv x else y.nnv x,nlv:=fun x=>if x∈bs then lf x else y.nlv x,own:=ownA w y lv b rv bs nv lf }
 have eB:y'.lnv b=rv/\y'.nbs b=bs:=by constructor <;> simp [y']
 have eN:∀ {x},x≠b->y'.lnv x=y.lnv x/\y'.nbs x=y.nbs x:=fun {x} hx=>by constructor <;> simp [y',hx]
 have eD:∀ {x},x∈bs->y'.nnv x=nv x/\y'.nlv x=lf x:=fun {x} hx=>by constructor <;> simp [y',hx]
 have eO:∀ {x},x∉bs->y'.nnv x=y.nnv x/\y'.nlv x=y.nlv x:=fun {x} hx=>by constructor <;> simp [y',hx]
 have hkeep:∀ z,y.own z≠.no->y'.own z=y.own z:=fun z hz=>ownA_old _ _ _ _ _ _ _ _ (own.lt z hz).2
 have hlrow:∀ z,lv.ownBlock=some z->y'.own z=.lrow:=fun z e=>by
  show ownA w y lv b rv bs nv lf z=_
  by_cases hlt:z<w.heap.size
  ·rw [ownA_old _ _ _ _ _ _ _ _ hlt]
   rcases h1 with q | q
   ·exact own.lrow z (by rw [<-q];exact e)
   ·have:=q z e;omega
  ·unfold ownA;rw [if_pos ⟨by omega,e⟩]
 have hline:∀ z,(z=b\/rv.ownBlock=some z)->y'.own z=.line b:=fun z e=>by
  show ownA w y lv b rv bs nv lf z=_
  have hz:w.heap.size<=z:=e.elim (fun e=>by omega) (hrv z)
  unfold ownA
  rw [if_neg,if_pos ⟨hz,e⟩]
  rintro ⟨_,q⟩
  obtain ⟨_,_,cur,hcur⟩:=own_cells hr q
  rcases e with e | e
  ·subst e
   unfold Blk at hL
   rw [hcur] at hL;simp at hL
  ·obtain ⟨_,_,cur2,h2⟩:=own_cells hrow e
   rw [hcur] at h2;simp at h2
 have hnode:∀ d∈bs,∀ z,nodeMay d (nv d) (lf d) z->y'.own z=.node d:=fun d hd z hz=>by
  show ownA w y lv b rv bs nv lf z=_
  have hzn:=hnew d hd z hz
  unfold ownA
  rw [if_neg,if_neg]
  ·have hex:w.heap.size<=z/\∃ c∈bs,nodeMay c (nv c) (lf c) z:=⟨hzn,d,hd,hz⟩
   rw [dif_pos hex]
   have hsp:=Classical.choose_spec hex.2
   congr 1
   exact Classical.byContradiction fun e=>hN.ap _ hsp.1 d hd e z hsp.2 hz
  ·rintro ⟨_,q | q⟩
   ·subst q
    unfold Blk at hL
    exact (hty d hd z hz _ _ hL).2.1 rfl
   ·obtain ⟨_,_,cur,hcur⟩:=own_cells hrow q
    exact (hty d hd z hz _ _ hcur).1 rfl
  ·rintro ⟨_,q⟩
   obtain ⟨_,_,cur,hcur⟩:=own_cells hr q
   exact (hty d hd z hz _ _ hcur).2.2 rfl
 have hbs:∀ x∈y.lbs,x≠b:=fun x hx e=>hbn (by rw [<-e];exact hx)
 refine ⟨y',⟨hB,h.fNet ht (by simp),h.fDead ht (by simp),h.fTab ht (by simp),h.qn,?_,?_,fun i b' l' hb' hl=>?_,h.fTrow ht (by simp),h.tlen,fun i b' t hb' hti=>(have q:=h.fTx ht hb' hti (by simp);⟨q.blk,q.ats,q.wr⟩),?_⟩,⟨hm.mono (fun z hz e=>by rcases htag z e with q | q <;> rw [q] <;> simp),fun z hz=>ownA_old _ _ _ _ _ _ _ _ hz⟩,rfl,fun z hz z1 z2 z3 z4=>?_⟩
 ·show w'.ownsRow n 186 1 lv (y.lbs++[b]).length ((y.lbs++[b]).map ptrV)
  rw [List.length_append];exact hr
 ·show (y.lbs++[b]).length=(s.lines++[l]).length
  rw [List.length_append,List.length_append,h.llen];rfl
 ·have hb2:(y.lbs++[b])[i]?=some b':=hb'
  have hl2:(s.lines++[l])[i]?=some l':=hl
  have hll:=h.llen
  by_cases hlt:i<y.lbs.length
  ·rw [List.getElem?_append_left hlt] at hb2
   rw [List.getElem?_append_left (by omega)] at hl2
   have hb2m:=List.mem_of_getElem? hb2
   have hne:=hbs b' hb2m
   have q:=h.fLine ht hb2 hl2 (by simp) (fun d _=>by simp)
   refine ⟨by rw [(eN hne).1];exact q.blk,by rw [(eN hne).1,(eN hne).2];exact q.row,by rw [(eN hne).2];exact q.len,fun j d x hd hx=>?_⟩
   rw [(eN hne).2] at hd
   have hdnn:=hdn b' hb2m d (List.mem_of_getElem? hd)
   show NodeP w' (y.lo n) d (y'.nnv d) (y'.nlv d) x
   rw [(eO hdnn).1,(eO hdnn).2]
   exact q.node j d x hd hx
  ·rw [List.getElem?_append_right (by omega)] at hb2 hl2
   have hi:i - y.lbs.length=0:=by
    have:=(List.getElem?_eq_some_iff.1 hb2).1
    simp at this;omega
   rw [hi] at hb2
   rw [show i - s.lines.length=0 by omega] at hl2
   simp at hb2 hl2
   subst hb2 hl2
   refine ⟨by rw [eB.1];exact hL,by rw [eB.1,eB.2];exact hrow,by rw [eB.2];exact hN.len,fun j d x hd hx=>?_⟩
   rw [eB.2] at hd
   have hdm:=List.mem_of_getElem? hd
   show NodeP w' (y.lo n) d (y'.nnv d) (y'.nlv d) x
   rw [(eD hdm).1,(eD hdm).2]
   exact hN.node j d x hd hx
 ·refine ⟨by rw [hkeep _ (by rw [own.main];simp)];exact own.main,fun z hz=>hlrow z hz,fun z hz=>?_,fun z hz=>?_,?_,fun z hz=>?_,fun b' hb'=>?_,fun b' hb' d' hd' z hz=>?_,fun b' hb'=>⟨?_,fun z hz=>?_⟩,fun z hz=>?_,?_,own.tnd,?_⟩
  ·rw [hkeep z (by rw [own.trow z hz];simp)];exact own.trow z hz
  ·rw [hkeep z (by rw [own.net z hz];simp)];exact own.net z hz
  ·show y'.own y.dr=_
   rw [hkeep _ (by rw [own.dead];simp)];exact own.dead
  ·rw [hkeep z (by rw [own.tab z hz];simp)];exact own.tab z hz
  ·have hb2:b'∈y.lbs++[b]:=hb'
   rcases List.mem_append.1 hb2 with q | q
   ·have hne:=hbs b' q
    refine ⟨by rw [hkeep b' (by rw [(own.line b' q).1];simp)];exact (own.line b' q).1,fun z hz=>?_⟩
    rw [(eN hne).1] at hz
    rw [hkeep z (by rw [(own.line b' q).2 z hz];simp)];exact (own.line b' q).2 z hz
   ·simp at q;subst q
    exact ⟨hline b' (.inl rfl),fun z hz=>by rw [eB.1] at hz;exact hline z (.inr hz)⟩
  ·have hb2:b'∈y.lbs++[b]:=hb'
   rcases List.mem_append.1 hb2 with q | q
   ·have hne:=hbs b' q
    rw [(eN hne).2] at hd'
    have hdnn:=hdn b' q d' hd'
    rw [(eO hdnn).1,(eO hdnn).2] at hz
    have:=own.node b' q d' hd' z hz
    rw [hkeep z (by rw [this];simp)];exact this
   ·simp at q;subst q
    rw [eB.2] at hd'
    rw [(eD hd').1,(eD hd').2] at hz
    exact hnode d' hd' z hz
  ·rw [hkeep b' (by rw [(own.tx b' hb').1];simp)];exact (own.tx b' hb').1
  ·rw [hkeep z (by rw [(own.tx b' hb').2 z hz];simp)];exact (own.tx b' hb').2 z hz
  ·have hz':ownA w y lv b rv bs nv lf z≠.no:=hz
   by_cases e1:w.heap.size<=z/\lv.ownBlock=some z
   ·exact ⟨(own_cells hr e1.2).1,(own_cells hr e1.2).2.1⟩
   ·by_cases e2:w.heap.size<=z/\(z=b\/rv.ownBlock=some z)
    ·rcases e2.2 with e | e
     ·subst e
      have hlow:=h.low
      have:=h.blk.lt
      exact ⟨by omega,hL.lt⟩
     ·exact ⟨(own_cells hrow e).1,(own_cells hrow e).2.1⟩
    ·by_cases e3:w.heap.size<=z/\∃ c∈bs,nodeMay c (nv c) (lf c) z
     ·obtain ⟨_,d,hd,hzd⟩:=e3
      obtain ⟨x,hx⟩:=hkind d hd
      have:=hx.lt hzd
      exact ⟨this.1,this.2.1⟩
     ·have hz3:y.own z≠.no:=by
       unfold ownA at hz'
       rw [if_neg e1,if_neg e2,dif_neg e3] at hz';exact hz'
      have:=own.lt z hz3
      exact ⟨this.1,Nat.lt_of_lt_of_le this.2 hm.size⟩
  ·show (y.lbs++[b]).Nodup
   rw [List.nodup_append]
   exact ⟨own.lnd,by simp,fun a ha c hc e=>by simp at hc;subst hc;subst e;exact hbn ha⟩
  ·show ((y.lbs++[b]).flatMap y'.nbs).Nodup
   have e1:y.lbs.flatMap y'.nbs=y.lbs.flatMap y.nbs:=by
    have:∀ ls:List Nat,(∀ x∈ls,x≠b)->ls.flatMap y'.nbs=ls.flatMap y.nbs:=by
     intro ls
     induction ls with
     | nil=>intro _;rfl
     | cons a ls ih=>intro hx;rw [List.flatMap_cons,List.flatMap_cons,ih (fun x hx'=>hx x (by simp [hx'])),(eN (hx a (by simp))).2]
    exact this y.lbs hbs
   rw [List.flatMap_append,e1]
   simp only [List.flatMap_cons,List.flatMap_nil,List.append_nil]
   rw [eB.2,List.nodup_append]
   refine ⟨own.nnd,hN.nd,fun a ha c hc e=>?_⟩
   subst e
   obtain ⟨b',hb',hd⟩:=List.mem_flatMap.1 ha
   exact hdn b' hb' a hd hc
 ·show ownA w y lv b rv bs nv lf z=.no
  unfold ownA
  rw [if_neg (fun e=>z1 e.2),if_neg (fun e=>e.2.elim z2 z3),dif_neg (fun e=>by obtain ⟨_,d,hd,q⟩:=e;exact z4 d hd q)]
  exact hnw z hz
end Go.Proofs.YtiblcbdkiecbgaaGreatDoor
